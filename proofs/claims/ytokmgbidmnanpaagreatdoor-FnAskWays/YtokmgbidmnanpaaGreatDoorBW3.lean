import Derived.Test.YtokmgbidmnanpaaGreatDoorBW2
import Derived.Test.YtokmgbidmnanpaaGreatDoorB13
set_option linter.unusedSimpArgs false
set_option linter.unusedVariables false
namespace Go.Proofs.YtokmgbidmnanpaaGreatDoor
open Go.RowKit Go.Shelf Go.Maps
theorem byteAt_nat (s : ByteArray) (k : Nat) : byteAt s k = ((s.toList.getD k 0).toNat : Int) := by rw [ByteArray.toList_eq]; rfl
theorem byteAt_47 (s : ByteArray) (k : Nat) : byteAt s k = 47 ↔ s.toList.getD k 0 = 47 := by
  rw [byteAt_nat]
  constructor
  · intro h
    have h2 : (s.toList.getD k 0).toNat = 47 := by omega
    exact UInt8.toNat_inj.1 h2
  · intro h; rw [h]; rfl
theorem extract_l (s : ByteArray) (x y : Nat) : (s.extract x y).toList = (s.toList.drop x).take (y - x) := by
  rw [ByteArray.toList_eq, ByteArray.toList_eq]
  exact extract_list s.data.toList x y
set_option maxRecDepth 20000 in
set_option maxHeartbeats 3200000 in
theorem l2Cut_any (s : ByteArray) (w : World) (hs : s.size ≤ 1048576) :
    Calls Tryz.prog 61 #[.string s, .int .u8 47] w fun e w' => ∃ (ts : List ByteArray) (v : Value), e = .returned v ∧ Own9 w.heap.size ts v w' ∧ ts.map ByteArray.toList = cutL s.toList ∧ Below w.heap.size w w' := by
  obtain ⟨i0, hi0, hz0, hz1, hz2⟩ := info_parts info9
  have hsl : s.toList.length = s.size := by rw [ByteArray.toList_eq]; simp
  have HSL := hid_of hsl
  clear hsl
  go_enter Tryz.func61, Tryz.ntmps61
  go_wp2_with fail
  go_loopw [5, 6, 7] (fun o fr i wr => ∃ (k q : Nat) (ts : List ByteArray), k ≤ s.size ∧ q ≤ k ∧ i = .int .i64 k ∧ fr = .int .i64 q ∧ ts.length ≤ k ∧ Hid (Own9 w.heap.size ts o wr) ∧ Hid (cutL s.toList = ts.map ByteArray.toList ++ cutL (s.toList.drop q)) ∧ Hid ((47 : UInt8) ∉ (s.toList.drop q).take (k - q)) ∧ Below w.heap.size w wr) (fun _ _ i _ => s.size - (intOf i).toNat)
  case atStart =>
    refine ⟨0, 0, [], Nat.zero_le _, Nat.le_refl _, rfl, rfl, Nat.le_refl _, ?_, by simp [Hid], by simp [Hid], below_box _ _⟩
    exact ⟨w.heap.size, 0, rfl, by simp, Or.inr ⟨w.heap.size, 0, #[], rfl, Nat.le_refl _, heap_alloc_new w _, Nat.le_refl _, by unfold maxLen; omega, rfl, rfl⟩⟩
  case round =>
    obtain ⟨k, q, ts, hk, hq, rfl, rfl, htl, HO, HC, HN, hb⟩ := hrel
    obtain ⟨w2, rfl⟩ : ∃ x, x = wr := ⟨wr, rfl⟩
    have zb := hb.size
    obtain ⟨g, cap, rfl, hr3⟩ := HO.out
    by_cases hlt : k < s.size
    · have hki : (k : Int) < (s.size : Int) := by omega
      have hby := byteAt_get s k hlt
      have HST := hid_of (cut_step hq (by rw [HSL.out]; exact hlt) HN.out)
      by_cases h47 : byteAt s k = 47
      · have H4 := hid_of ((byteAt_47 s k).1 h47)
        go_wp2_with (
          at_builtin
          refine wpList_append_own _ rfl _ _ 29 rfl w.heap.size 9 i0 (.string ByteArray.empty) 1 16 Tryz.underlying29 hi0 hz0 hz1 hz2 rfl (by decide) _ ts.length _ rfl (hr3.alloc _) ⟨w2.heap.size, 0, none⟩ 1 1 [.string (s.extract q k)] rfl rfl (World.news_of_block (heap_alloc_new w2 _)) (by intro u hu; simp at hu; subst hu; rfl) (by unfold maxLen; omega) (by omega) (by simp; omega) ?_
          intro v' w4 hown hgrow hnn
          refine Hid.out ?_)
        refine hid_of ?_
        have z4 : w2.heap.size + 1 ≤ w4.heap.size := by have := hgrow.size; simpa using this
        have hb4 : Below w.heap.size w w4 := (hb.trans ((below_box w2 _).mono (by omega))).grown hgrow (by simp; omega) (fun j hj => (hr3.lt j hj).1)
        have hO4 : Own9 w.heap.size (ts ++ [s.extract q k]) v' w4 := Own9.of (n := ts.length + 1) (by simp) (by simpa using hown) (fun e => by cases (hnn.1 e).1)
        have HO4 := hid_of hO4
        obtain ⟨g4, cap4, rfl, -⟩ := hO4
        clear hown hgrow hnn
        go_wp2_with fail
        go_roundw
        case measure => simp [intOf]; omega
        case rel =>
          refine ⟨k + 1, k + 1, _, by omega, Nat.le_refl _, by go_num, by go_num, by simp; omega, HO4, hid_of ?_, hid_of (by simp), hb4⟩
          rw [HC.out, HST.out.1 H4.out, List.map_append, List.map_cons, List.map_nil, extract_l, List.append_assoc]
          rfl
      · have H4 := hid_of (fun h => h47 ((byteAt_47 s k).2 h))
        go_wp2_with fail
        go_roundw
        case measure => simp [intOf]; omega
        case rel => exact ⟨k + 1, q, ts, by omega, by omega, by go_num, rfl, by omega, HO, HC, hid_of (HST.out.2 H4.out), hb⟩
    · have ek : k = s.size := by omega
      subst ek
      have hqs : q ≤ s.size := hq
      have HE := hid_of (cut_end (l := s.toList) (fr := q) (by rw [HSL.out]; exact HN.out))
      go_wp2_with (
        at_builtin
        refine wpList_append_own _ rfl _ _ 29 rfl w.heap.size 9 i0 (.string ByteArray.empty) 1 16 Tryz.underlying29 hi0 hz0 hz1 hz2 rfl (by decide) _ ts.length _ rfl (hr3.alloc _) ⟨w2.heap.size, 0, none⟩ 1 1 [.string (s.extract q s.size)] rfl rfl (World.news_of_block (heap_alloc_new w2 _)) (by intro u hu; simp at hu; subst hu; rfl) (by unfold maxLen; omega) (by omega) (by simp; omega) ?_
        intro v' w4 hown hgrow hnn
        refine Hid.out ?_)
      refine hid_of ?_
      have z4 : w2.heap.size + 1 ≤ w4.heap.size := by have := hgrow.size; simpa using this
      have hb4 : Below w.heap.size w w4 := (hb.trans ((below_box w2 _).mono (by omega))).grown hgrow (by simp; omega) (fun j hj => (hr3.lt j hj).1)
      have hO4 : Own9 w.heap.size (ts ++ [s.extract q s.size]) v' w4 := Own9.of (n := ts.length + 1) (by simp) (by simpa using hown) (fun e => by cases (hnn.1 e).1)
      have HO4 := hid_of hO4
      obtain ⟨g4, cap4, rfl, -⟩ := hO4
      clear hown hgrow hnn
      go_wp2_with fail
      go_ret
      refine ⟨_, _, rfl, HO4.out, ?_, hb4⟩
      rw [HC.out, HE.out, List.map_append, List.map_cons, List.map_nil, extract_l, List.take_of_length_le (by rw [List.length_drop, HSL.out]; exact Nat.le_refl _)]
end Go.Proofs.YtokmgbidmnanpaaGreatDoor
