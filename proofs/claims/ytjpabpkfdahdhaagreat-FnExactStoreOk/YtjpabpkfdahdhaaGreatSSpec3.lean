import Derived.Test.YtjpabpkfdahdhaaGreatILen
import Derived.Test.YtjpabpkfdahdhaaGreatPFault
import Derived.Test.YtjpabpkfdahdhaaGreatSStoreI
import Derived.Test.YtjpabpkfdahdhaaGreatSSpec2
import Derived.IntWalk
namespace Go.Proofs.YtjpabpkfdahdhaaGreat
set_option linter.unusedSimpArgs false
set_option linter.unusedVariables false
open Go.RowKit

set_option maxHeartbeats 3200000 in
theorem l2Write_any (p : Pt) (w : World) (B : Nat) (v : Value) (hP : PRep w (· < B) p v) (hB : B ≤ w.heap.size) (hz : szP p ≤ 1048576) :
    Calls Tryz.prog 29 #[v] w fun e w' => e = .returned (.string ⟨(partL p).toArray⟩) ∧ Below w.heap.size w w' := by
  have hP' := hP
  obtain ⟨pname, types⟩ := p
  obtain ⟨ta, tc, rfl, hK, hnc, hpn⟩ := hP
  simp only at hK hnc hpn hP'
  have h56 := hK.1
  have hpl := partL_len ⟨pname, types⟩
  have hl2 : (partHeadL ⟨pname, types⟩).length + (typesL types types.length).length ≤ 34603020 := by rw [← List.length_append]; have : (partHeadL ⟨pname, types⟩ ++ typesL types types.length).length ≤ _ := hpl; omega
  have hpz : pname.size ≤ 1048576 := by have : pname.size + szTs types ≤ 1048576 := hz; omega
  have HP0 : Hid (partL ⟨pname, types⟩ = partHeadL ⟨pname, types⟩ ++ typesL types types.length) := rfl
  have HH : Hid ((⟨#[112, 97, 114, 116, 32]⟩ ++ pname ++ ⟨#[10]⟩ : ByteArray) = ⟨(partHeadL ⟨pname, types⟩ ++ typesL types 0).toArray⟩) := by show _ = _; apply ByteArray.ext; apply Array.toList_inj.1; rw [append_toList, append_toList, typesL, List.append_nil]; rfl
  have b1 : 5 + pname.size ≤ 9223372036854775807 := by omega
  have b2 : 5 + pname.size + 1 ≤ 9223372036854775807 := by omega
  have PC : ∀ W, Below (w.heap.size + 1) (w.alloc (.cells #[.string pname, .slice ta types.length tc] 31)) W → W.cell? ⟨w.heap.size, 1, none⟩ = some (.slice ta types.length tc) := fun W h => (h.cell (p := ⟨w.heap.size, 1, none⟩) (by show w.heap.size < _; omega)).trans (box_new _ _ 1 (by simp))
  go_enter Tryz.func29, Tryz.ntmps29
  go_wp2_with fail
  go_loopw [3, 4] (fun o i wr => ∃ k : Nat, ∃ x : ByteArray, k ≤ types.length ∧ i = .int .i64 k ∧ o = .string x ∧ Hid (x.data.toList = partHeadL ⟨pname, types⟩ ++ typesL types k) ∧ Below (w.heap.size + 1) (w.alloc (.cells #[.string pname, .slice ta types.length tc] 31)) wr) (fun _ i _ => types.length - (intOf i).toNat)
  case atStart => exact ⟨0, _, Nat.zero_le _, rfl, rfl, by show _ = _; rw [HH.out], Below.refl _ _⟩
  case round =>
    obtain ⟨k, x, hk, rfl, rfl, HX, hbl⟩ := hrel
    obtain ⟨w0, rfl⟩ : ∃ x, x = wr := ⟨wr, rfl⟩
    have hbw : Below w.heap.size w w0 := (below_box w _).trans (hbl.mono (by omega))
    have pc := PC w0 hbl
    have hz0 := hbl.size
    simp at hz0
    by_cases hlt : k < types.length
    · obtain ⟨b, off, fa, fc, rfl, htr, hcs⟩ := hK.at hB k hlt
      obtain ⟨c0, c1, c2⟩ := hcs w0 hbw
      obtain ⟨fa', fc', e0, e1, e2, hfs, hffc, hs1, hs2⟩ := htr.parts
      simp only [Value.slice.injEq] at e2
      obtain ⟨rfl, -, rfl⟩ := e2
      have hf56 := hfs.1
      have hszT := szT_le ⟨pname, types⟩ k hlt hz
      simp only at hszT
      have hszT2 : (tth types k).name.size + (tth types k).key.size + szFs (tth types k).fields ≤ 1048576 := hszT
      have hlk := typesL_le types (k + 1) _ hlt
      rw [typesL, List.length_append, List.length_append] at hlk
      have hxs : x.size = (partHeadL ⟨pname, types⟩).length + (typesL types k).length := by rw [← tl, HX.out, List.length_append]
      have b3 : x.size + 5 ≤ 9223372036854775807 := by omega
      have b4 : x.size + 5 + (tth types k).name.size ≤ 9223372036854775807 := by omega
      have b5 : x.size + 5 + (tth types k).name.size + 5 ≤ 9223372036854775807 := by omega
      have b6 : x.size + 5 + (tth types k).name.size + 5 + (tth types k).key.size ≤ 9223372036854775807 := by omega
      have b7 : x.size + 5 + (tth types k).name.size + 5 + (tth types k).key.size + 1 ≤ 9223372036854775807 := by omega
      have b8 : x.size + 5 + (tth types k).name.size + 1 ≤ 9223372036854775807 := by omega
      have HTY : Hid (typeHeadL (tth types k) = [116, 121, 112, 101, 32] ++ (tth types k).name.data.toList ++ keyL (tth types k) ++ [10]) := rfl
      have hk0 := heap_alloc_new w0 (.cells #[.string (tth types k).name, .string (tth types k).key, .slice fa (tth types k).fields.length fc] 54)
      clear hcs htr e0 e1 hxs
      cases hke : (tth types k).key.toList.isEmpty
      · have hkl : keyL (tth types k) = [32, 107, 101, 121, 32] ++ (tth types k).key.data.toList := by rw [keyL, if_neg (by rw [hke]; simp)]
        go_wp2_with fail
        have HTH : Hid ((x ++ ⟨#[116, 121, 112, 101, 32]⟩ ++ (tth types k).name ++ ⟨#[32, 107, 101, 121, 32]⟩ ++ (tth types k).key ++ ⟨#[10]⟩ : ByteArray).data.toList = partHeadL ⟨pname, types⟩ ++ typesL types k ++ typeHeadL (tth types k) ++ fieldsL (tth types k).fields 0) := by
          show _ = _
          rw [append_toList, append_toList, append_toList, append_toList, append_toList, HX.out, fieldsL, List.append_nil, HTY.out, hkl]; simp
        have TC : ∀ W : World, W.heap[w0.heap.size]? = some (.cells #[.string (tth types k).name, .string (tth types k).key, .slice fa (tth types k).fields.length fc] 54 (0, 0)) → W.cell? ⟨w0.heap.size, 2, none⟩ = some (.slice fa (tth types k).fields.length fc) := fun W h => (box_at h 2 (by simp)).1
        go_loopw [3, 6] (fun o i w2 => ∃ j : Nat, ∃ y : ByteArray, j ≤ (tth types k).fields.length ∧ i = .int .i64 j ∧ o = .string y ∧ Hid (y.data.toList = partHeadL ⟨pname, types⟩ ++ typesL types k ++ typeHeadL (tth types k) ++ fieldsL (tth types k).fields j) ∧ Below (w.heap.size + 1) (w.alloc (.cells #[.string pname, .slice (some ⟨b, off, none⟩) types.length tc] 31)) w2 ∧ w2.heap[w0.heap.size]? = some (.cells #[.string (tth types k).name, .string (tth types k).key, .slice fa (tth types k).fields.length fc] 54 (0, 0))) (fun _ i _ => (tth types k).fields.length - (intOf i).toNat)
        case atStart => exact ⟨0, _, Nat.zero_le _, rfl, rfl, HTH, hbl.alloc (by omega) _, hk0⟩
        case round =>
          obtain ⟨j, y, hj, rfl, rfl, HY, hbl5, hk5⟩ := hrel
          obtain ⟨w5, rfl⟩ : ∃ x, x = wr := ⟨wr, rfl⟩
          have hw5 : Below w.heap.size w w5 := (below_box w _).trans (hbl5.mono (by omega))
          have z5 : w0.heap.size < w5.heap.size := (Array.getElem?_eq_some_iff.1 hk5).1
          have t5 := TC w5 hk5
          by_cases hjl : j < (tth types k).fields.length
          · obtain ⟨b2, off2, na, nc, rfl, hfr2, hcs2⟩ := hfs.at hB j hjl
            obtain ⟨c0, c1, c2, c3, c4, c5, c6, c7⟩ := hcs2 w5 hw5
            have hsf := szF_le (tth types k) j hjl hszT
            have hln := fieldsL_le (tth types k).fields (j + 1) _ hjl
            rw [fieldsL, List.length_append] at hln
            have hys : y.size = (partHeadL ⟨pname, types⟩).length + (typesL types k).length + (typeHeadL (tth types k)).length + (fieldsL (tth types k).fields j).length := by rw [← tl, HY.out, List.length_append, List.length_append, List.length_append]
            have b9 : y.size + (lineB (fth (tth types k).fields j)).size ≤ 9223372036854775807 := by rw [tl] at hln; omega
            obtain ⟨-, -, -, -, -, -, -, -, hSt, hncc, -, -⟩ := hfr2.vals
            have hwl := l2Line_one (fth (tth types k).fields j).name (fth (tth types k).fields j).of (fth (tth types k).fields j).list (fth (tth types k).fields j).must (fth (tth types k).fields j).far (fth (tth types k).fields j).hidden (fth (tth types k).fields j).shared (fth (tth types k).fields j).needs w5 na nc ((hSt.under (hw5.mono hB)).sub fun q hq => by omega) hsf
            rw [show (⟨(fth (tth types k).fields j).name, (fth (tth types k).fields j).of, (fth (tth types k).fields j).list, (fth (tth types k).fields j).must, (fth (tth types k).fields j).far, (fth (tth types k).fields j).hidden, (fth (tth types k).fields j).shared, (fth (tth types k).fields j).needs⟩ : F) = fth (tth types k).fields j from rfl] at hwl
            clear hcs2 hys hln
            go_wp2_with (
              go_at_call 51
              refine hwl.mono ?_
              rintro e w6 ⟨rfl, hb6⟩)
            go_roundw
            case rel => exact ⟨j + 1, _, by omega, by go_num, rfl, by show _ = _; rw [fieldsL, append_toList, HY.out]; simp only [List.append_assoc], hbl5.trans (hb6.mono (by omega)), (hb6.block _ z5).trans hk5⟩
            case measure => simp [intOf]; omega
          · go_wp2_with fail
            go_roundw
            case rel =>
              have ej : j = (tth types k).fields.length := by omega
              exact ⟨k + 1, y, by omega, by go_num, rfl, by show _ = _; rw [HY.out, typesL, ej]; simp only [List.append_assoc], hbl5⟩
            case measure => simp [intOf]; omega
      · have hkl : keyL (tth types k) = [] := by rw [keyL, if_pos hke]
        go_wp2_with fail
        have HTH : Hid ((x ++ ⟨#[116, 121, 112, 101, 32]⟩ ++ (tth types k).name ++ ⟨#[10]⟩ : ByteArray).data.toList = partHeadL ⟨pname, types⟩ ++ typesL types k ++ typeHeadL (tth types k) ++ fieldsL (tth types k).fields 0) := by
          show _ = _
          rw [append_toList, append_toList, append_toList, HX.out, fieldsL, List.append_nil, HTY.out, hkl]; simp
        have TC : ∀ W : World, W.heap[w0.heap.size]? = some (.cells #[.string (tth types k).name, .string (tth types k).key, .slice fa (tth types k).fields.length fc] 54 (0, 0)) → W.cell? ⟨w0.heap.size, 2, none⟩ = some (.slice fa (tth types k).fields.length fc) := fun W h => (box_at h 2 (by simp)).1
        go_loopw [3, 6] (fun o i w2 => ∃ j : Nat, ∃ y : ByteArray, j ≤ (tth types k).fields.length ∧ i = .int .i64 j ∧ o = .string y ∧ Hid (y.data.toList = partHeadL ⟨pname, types⟩ ++ typesL types k ++ typeHeadL (tth types k) ++ fieldsL (tth types k).fields j) ∧ Below (w.heap.size + 1) (w.alloc (.cells #[.string pname, .slice (some ⟨b, off, none⟩) types.length tc] 31)) w2 ∧ w2.heap[w0.heap.size]? = some (.cells #[.string (tth types k).name, .string (tth types k).key, .slice fa (tth types k).fields.length fc] 54 (0, 0))) (fun _ i _ => (tth types k).fields.length - (intOf i).toNat)
        case atStart => exact ⟨0, _, Nat.zero_le _, rfl, rfl, HTH, hbl.alloc (by omega) _, hk0⟩
        case round =>
          obtain ⟨j, y, hj, rfl, rfl, HY, hbl5, hk5⟩ := hrel
          obtain ⟨w5, rfl⟩ : ∃ x, x = wr := ⟨wr, rfl⟩
          have hw5 : Below w.heap.size w w5 := (below_box w _).trans (hbl5.mono (by omega))
          have z5 : w0.heap.size < w5.heap.size := (Array.getElem?_eq_some_iff.1 hk5).1
          have t5 := TC w5 hk5
          by_cases hjl : j < (tth types k).fields.length
          · obtain ⟨b2, off2, na, nc, rfl, hfr2, hcs2⟩ := hfs.at hB j hjl
            obtain ⟨c0, c1, c2, c3, c4, c5, c6, c7⟩ := hcs2 w5 hw5
            have hsf := szF_le (tth types k) j hjl hszT
            have hln := fieldsL_le (tth types k).fields (j + 1) _ hjl
            rw [fieldsL, List.length_append] at hln
            have hys : y.size = (partHeadL ⟨pname, types⟩).length + (typesL types k).length + (typeHeadL (tth types k)).length + (fieldsL (tth types k).fields j).length := by rw [← tl, HY.out, List.length_append, List.length_append, List.length_append]
            have b9 : y.size + (lineB (fth (tth types k).fields j)).size ≤ 9223372036854775807 := by rw [tl] at hln; omega
            obtain ⟨-, -, -, -, -, -, -, -, hSt, hncc, -, -⟩ := hfr2.vals
            have hwl := l2Line_one (fth (tth types k).fields j).name (fth (tth types k).fields j).of (fth (tth types k).fields j).list (fth (tth types k).fields j).must (fth (tth types k).fields j).far (fth (tth types k).fields j).hidden (fth (tth types k).fields j).shared (fth (tth types k).fields j).needs w5 na nc ((hSt.under (hw5.mono hB)).sub fun q hq => by omega) hsf
            rw [show (⟨(fth (tth types k).fields j).name, (fth (tth types k).fields j).of, (fth (tth types k).fields j).list, (fth (tth types k).fields j).must, (fth (tth types k).fields j).far, (fth (tth types k).fields j).hidden, (fth (tth types k).fields j).shared, (fth (tth types k).fields j).needs⟩ : F) = fth (tth types k).fields j from rfl] at hwl
            clear hcs2 hys hln
            go_wp2_with (
              go_at_call 51
              refine hwl.mono ?_
              rintro e w6 ⟨rfl, hb6⟩)
            go_roundw
            case rel => exact ⟨j + 1, _, by omega, by go_num, rfl, by show _ = _; rw [fieldsL, append_toList, HY.out]; simp only [List.append_assoc], hbl5.trans (hb6.mono (by omega)), (hb6.block _ z5).trans hk5⟩
            case measure => simp [intOf]; omega
          · go_wp2_with fail
            go_roundw
            case rel =>
              have ej : j = (tth types k).fields.length := by omega
              exact ⟨k + 1, y, by omega, by go_num, rfl, by show _ = _; rw [HY.out, typesL, ej]; simp only [List.append_assoc], hbl5⟩
            case measure => simp [intOf]; omega
    · go_wp2_with fail
      have ek : k = types.length := by omega
      have hxe : x = ⟨(partL ⟨pname, types⟩).toArray⟩ := by apply ByteArray.ext; apply Array.toList_inj.1; rw [HX.out, HP0.out, ek]
      go_ret
      exact ⟨by rw [← hxe]; rfl, hbw⟩
end Go.Proofs.YtjpabpkfdahdhaaGreat

namespace Go.Proofs.YtjpabpkfdahdhaaGreat
set_option linter.unusedSimpArgs false
set_option linter.unusedVariables false
open Go.RowKit

theorem typeCode_fault (p : Pt) (i : Nat) : typeCode p i = if faultCode p i = 0 then (if rootTo (tth p.types i).fields (tth p.types i).fields.length = false then 7 else 0) else faultCode p i := by
  simp only [typeCode, faultCode]
  split
  · simp
  split
  · simp
  split
  · simp
  split
  · simp
  split
  · simp
  · simp

/-- What is wrong with a part: where, and the code. -/
def partFault (p : Pt) : Int × Int :=
  if 5 < p.types.length then (6, 6) else if nameB p.name = false then (0, 1) else if hasRootB p = false then (0, 7)
  else if badT p < p.types.length then (((badT p : Nat) : Int) + 1, typeCode p (badT p)) else if 1500 < (partL p).length then (0, 6) else (0, 0)

theorem partFault_ok (p : Pt) : ((partFault p).2 = 0 ↔ okP p = true) := by
  unfold partFault okP
  by_cases a : 5 < p.types.length
  · simp [a]
  rw [if_neg a]
  by_cases b : nameB p.name = false
  · simp [b]
  rw [if_neg b]
  by_cases c : hasRootB p = false
  · simp [c]
  rw [if_neg c]
  by_cases d : badT p < p.types.length
  · have hb : typeCode p (badT p) ≠ 0 := typeCode_bad p _ 0 (by rw [Nat.zero_add]; exact d)
    rw [if_pos d]
    simp [d, hb]
  rw [if_neg d]
  by_cases e : 1500 < (partL p).length
  · rw [if_pos e]; simp [e]
  · rw [if_neg e]
    simp only [Bool.not_eq_false] at b c
    simp [a, b, c, d, e]

set_option maxHeartbeats 3200000 in
theorem PartCheckS_any (p : Pt) (w : World) (B : Nat) (v : Value) (hP : PRep w (· < B) p v) (hB : B ≤ w.heap.size) (hz : szP p ≤ 1048576) :
    Calls Tryz.prog 14 #[v] w fun e w' => e = .returned (.agg #[.int .i64 (partFault p).1, .int .i64 (partFault p).2]) ∧ Below w.heap.size w w' := by
  have hP' := hP
  obtain ⟨pname, types⟩ := p
  obtain ⟨ta, tc, rfl, hK, hnc, hpn⟩ := hP
  simp only at hK hnc hpn hP'
  have h56 := hK.1
  have hE : Hid (partFault ⟨pname, types⟩ = if 5 < types.length then (6, 6) else if nameB pname = false then (0, 1) else if hasRootB ⟨pname, types⟩ = false then (0, 7)
    else if badT ⟨pname, types⟩ < types.length then (((badT ⟨pname, types⟩ : Nat) : Int) + 1, typeCode ⟨pname, types⟩ (badT ⟨pname, types⟩)) else if 1500 < (partL ⟨pname, types⟩).length then (0, 6) else (0, 0)) := rfl
  obtain ⟨X, hXe⟩ : ∃ X, X = ((w.alloc (.cells #[.string pname, .slice ta types.length tc] 31)).alloc (.cells #[.int .i64 0, .int .i64 0] 44)) := ⟨_, rfl⟩
  have PC : ∀ W, Below (w.heap.size + 1 + 1) X W → W.cell? ⟨w.heap.size, 0, none⟩ = some (.string pname) ∧ W.cell? ⟨w.heap.size, 1, none⟩ = some (.slice ta types.length tc) ∧ W.cell? ⟨w.heap.size + 1, 0, none⟩ = some (.int .i64 0) ∧ W.cell? ⟨w.heap.size + 1, 1, none⟩ = some (.int .i64 0) ∧ W.frozen? ⟨w.heap.size + 1, 0, none⟩ = false ∧ W.frozen? ⟨w.heap.size + 1, 1, none⟩ = false ∧ Below w.heap.size w W ∧ w.heap.size + 1 < W.heap.size := fun W h => by
    subst hXe
    have hz := h.size
    simp at hz
    have a : ∀ i (hi : i < 2), W.cell? ⟨w.heap.size, i, none⟩ = some #[Value.string pname, .slice ta types.length tc][i] := fun i hi => (h.cell (p := ⟨w.heap.size, i, none⟩) (by show w.heap.size < _; omega)).trans (((below_box _ _).cell (p := ⟨w.heap.size, i, none⟩) (by show w.heap.size < _; simp)).trans (box_new _ _ i (by simpa using hi)))
    have hb : W.heap[w.heap.size + 1]? = some (.cells #[.int .i64 0, .int .i64 0] 44 (0, 0)) := (h.block (w.heap.size + 1) (by omega)).trans (by have := heap_alloc_new (w.alloc (.cells #[.string pname, .slice ta types.length tc] 31)) (.cells #[.int .i64 0, .int .i64 0] 44); simpa using this)
    obtain ⟨r0, f0⟩ := box_at hb 0 (by simp)
    obtain ⟨r1, f1⟩ := box_at hb 1 (by simp)
    exact ⟨a 0 (by omega), a 1 (by omega), r0, r1, f0, f1, (below_box2 w _ _).trans (h.mono (by omega)), by omega⟩
  have hT0 : Below (w.heap.size + 1 + 1) X ((w.alloc (.cells #[.string pname, .slice ta types.length tc] 31)).alloc (.cells #[.int .i64 0, .int .i64 0] 44)) := by rw [hXe]; exact Below.refl _ _
  clear hXe
  have hBW := fun W (h : Below (w.heap.size + 1 + 1) X W) => show B ≤ W.heap.size by have := (PC W h).2.2.2.2.2.2.2; omega
  have hC := fun W h k hk => l2Fault_any ⟨pname, types⟩ k W B _ (hP'.under ((PC W h).2.2.2.2.2.2.1.mono hB)) hk (hBW W h)
  have hX := fun W h => l2Write_any ⟨pname, types⟩ W B _ (hP'.under ((PC W h).2.2.2.2.2.2.1.mono hB)) (hBW W h) hz
  have hN := fun W => l2Name_any pname W hpn
  have SET : ∀ W x y, Below w.heap.size w W → Below w.heap.size w ((W.setCell ⟨w.heap.size + 1, 0, none⟩ x).setCell ⟨w.heap.size + 1, 1, none⟩ y) := fun W x y h => (h.setCell (by show w.heap.size ≤ w.heap.size + 1; omega) _).setCell (by show w.heap.size ≤ w.heap.size + 1; omega) _
  obtain ⟨p0, p1, r0, r1, f0, f1, hbw, hz2⟩ := PC _ hT0
  by_cases h5 : 5 < types.length
  · have d : (5 : Int) < (types.length : Int) := by omega
    go_enter Tryz.func14, Tryz.ntmps14
    go_wp2_with fail
    refine bodyPost_ret (v := .agg #[.int .i64 6, .int .i64 6]) ?res rfl ⟨?_, below_box2 _ _ _⟩
    case res => simp [results, Tryz.results14, go_sem]
    rw [hE.out, if_pos h5]
  have d5 : ¬ (5 : Int) < (types.length : Int) := by omega
  cases hn : nameB pname
  · rw [hn] at hN
    go_enter Tryz.func14, Tryz.ntmps14
    go_wp2_with (
      go_at_call 27
      refine (hN _).mono ?_
      rintro e w1 ⟨rfl, rfl⟩)
    refine bodyPost_ret (v := .agg #[.int .i64 0, .int .i64 1]) ?res rfl ⟨?_, below_box2 _ _ _⟩
    case res => simp [results, Tryz.results14, go_sem]
    rw [hE.out, if_neg h5, if_pos hn]
  rw [hn] at hN
  by_cases h0 : types.length = 0
  · have d0 : ((types.length : Int) == 0) = true := by simp; exact List.eq_nil_of_length_eq_zero h0
    have hr : hasRootB ⟨pname, types⟩ = false := by simp [hasRootB, h0]
    go_enter Tryz.func14, Tryz.ntmps14
    go_wp2_with (first
      | (
        go_at_call 27
        refine (hN _).mono ?_
        rintro e w1 ⟨rfl, rfl⟩))
    refine bodyPost_ret (v := .agg #[.int .i64 0, .int .i64 7]) ?res rfl ⟨?_, below_box2 _ _ _⟩
    case res => simp [results, Tryz.results14, go_sem]
    rw [hE.out, if_neg h5, if_neg (by rw [hn]; simp), if_pos hr]
  have hl0 : 0 < types.length := by omega
  have d0 : ((types.length : Int) == 0) = false := by simp; intro e; simp [e] at h0
  have d1 : (0 : Int) < (types.length : Int) := by omega
  obtain ⟨b, off, fa0, fc0, rfl, htr0, hcs0⟩ := hK.at hB 0 hl0
  obtain ⟨a0, a1, a2⟩ := hcs0 _ hbw
  have HR : Hid (hasRootB ⟨pname, types⟩ = (isT (tth types 0).name [113, 117, 101, 114, 121] && (tth types 0).key.toList.isEmpty)) := by show _ = _; simp [hasRootB, hl0]
  simp only [Nat.zero_mul, Nat.add_zero] at a0 a1 a2
  cases x1 : ((tth types 0).name.toList == [113, 117, 101, 114, 121])
  · have hr : hasRootB ⟨pname, types⟩ = false := by rw [HR.out, isT, x1]; rfl
    go_enter Tryz.func14, Tryz.ntmps14
    go_wp2_with (first
      | (
        go_at_call 27
        refine (hN _).mono ?_
        rintro e w1 ⟨rfl, rfl⟩))
    refine bodyPost_ret (v := .agg #[.int .i64 0, .int .i64 7]) ?res rfl ⟨?_, below_box2 _ _ _⟩
    case res => simp [results, Tryz.results14, go_sem]
    rw [hE.out, if_neg h5, if_neg (by rw [hn]; simp), if_pos hr]
  cases x2 : (tth types 0).key.toList.isEmpty
  · have hr : hasRootB ⟨pname, types⟩ = false := by rw [HR.out, x2]; simp
    go_enter Tryz.func14, Tryz.ntmps14
    go_wp2_with (first
      | (
        go_at_call 27
        refine (hN _).mono ?_
        rintro e w1 ⟨rfl, rfl⟩))
    refine bodyPost_ret (v := .agg #[.int .i64 0, .int .i64 7]) ?res rfl ⟨?_, below_box2 _ _ _⟩
    case res => simp [results, Tryz.results14, go_sem]
    rw [hE.out, if_neg h5, if_neg (by rw [hn]; simp), if_pos hr]
  have hr : Hid (hasRootB ⟨pname, types⟩ = true) := by show _ = _; rw [HR.out, isT, x1, x2]; rfl
  go_enter Tryz.func14, Tryz.ntmps14
  go_wp2_with (first
      | (
        go_at_call 27
        refine (hN _).mono ?_
        rintro e w1 ⟨rfl, rfl⟩))
  go_loopw [3] (fun i wr => ∃ k : Nat, k ≤ types.length ∧ i = .int .i64 k ∧ Hid (badT ⟨pname, types⟩ = badAt ⟨pname, types⟩ k (types.length - k)) ∧ Below (w.heap.size + 1 + 1) X wr) (fun i _ => types.length - (intOf i).toNat)
  case atStart => exact ⟨0, Nat.zero_le _, rfl, rfl, hT0⟩
  case round =>
    clear p0 p1 r0 r1 f0 f1 hbw hz2 a0 a1 a2 d0 d1 htr0 hcs0 x1 x2 HR
    obtain ⟨k, hk, rfl, HBD, hbl⟩ := hrel
    obtain ⟨w0, rfl⟩ : ∃ x, x = wr := ⟨wr, rfl⟩
    obtain ⟨p0, p1, r0, r1, f0, f1, hbw, hz2⟩ := PC w0 hbl
    by_cases hlt : k < types.length
    · have hC1 := hC w0 hbl k hlt
      have HB2 : Hid (badT ⟨pname, types⟩ = if typeCode ⟨pname, types⟩ k = 0 then badAt ⟨pname, types⟩ (k + 1) (types.length - (k + 1)) else k) := by
        show _ = _
        rw [HBD.out, show types.length - k = (types.length - (k + 1)) + 1 by omega, badAt]
      by_cases hc : faultCode ⟨pname, types⟩ k = 0
      · rw [hc] at hC1
        have HTC : Hid (typeCode ⟨pname, types⟩ k = if rootTo (tth types k).fields (tth types k).fields.length = false then 7 else 0) := by show _ = _; rw [typeCode_fault, if_pos hc]
        obtain ⟨b', off', fa, fc, hta, htr, hcs⟩ := hK.at hB k hlt
        simp only [Option.some.injEq, Addr.mk.injEq, and_true] at hta
        obtain ⟨rfl, rfl⟩ := hta
        obtain ⟨fa', fc', e0, e1, e2, hfs, hffc, hs1, hs2⟩ := htr.parts
        simp only [Value.slice.injEq] at e2
        obtain ⟨rfl, -, rfl⟩ := e2
        have hf64 := hfs.1
        clear e0 e1 hc HBD htr
        have hki : (k : Int) < (types.length : Int) := by omega
        go_wp2_with (
          go_at_call 28
          refine hC1.mono ?_
          rintro e w3 ⟨rfl, hb3⟩
          have hT3 := hbl.trans (hb3.mono (by omega))
          obtain ⟨p30, p31, r30, r31, f30, f31, hbw3, hz3⟩ := PC w3 hT3
          obtain ⟨c0, c1, c2⟩ := hcs w3 hbw3)
        go_loop [5] (fun i => ∃ j : Nat, j ≤ (tth types k).fields.length ∧ i = .int .i64 j ∧ rootTo (tth types k).fields j = true) (fun i => (tth types k).fields.length - (intOf i).toNat)
        case atStart => exact ⟨0, Nat.zero_le _, rfl, rfl⟩
        case round =>
          obtain ⟨j, hj, rfl, hpj⟩ := hrel
          have HPJ : Hid (rootTo (tth types k).fields j = true) := hpj
          clear hpj
          by_cases hjt : j < (tth types k).fields.length
          · obtain ⟨fb, foff, na, nc, rfl, hfr, hcf⟩ := hfs.at hB j hjt
            obtain ⟨g0, g1, g2, g3, g4, g5, g6, g7⟩ := hcf w3 hbw3
            clear hcf hfr
            have hji : (j : Int) < ((tth types k).fields.length : Int) := by omega
            cases y1 : ((fth (tth types k).fields j).of.toList == [113, 117, 101, 114, 121])
            · go_wp2_with fail
              go_round
              case rel => exact ⟨j + 1, by omega, by go_num, by rw [rootTo_succ, HPJ.out, isT, y1]; rfl⟩
              case measure => simp [intOf]; omega
            · have hbad : rootTo (tth types k).fields (tth types k).fields.length = false := all_false (k := j) hjt (by rw [isT, y1]; rfl)
              have HC7 : Hid (typeCode ⟨pname, types⟩ k = 7) := by show _ = _; rw [HTC.out, if_pos hbad]
              have HBK : Hid (badT ⟨pname, types⟩ = k) := by show _ = _; rw [HB2.out, if_neg (by rw [HC7.out]; omega)]
              clear hbad
              go_wp2_with fail
              refine bodyPost_ret (v := .agg #[.int .i64 ((k : Nat) + 1 : Int), .int .i64 7]) ?res rfl ⟨?_, SET _ _ _ hbw3⟩
              case res => simp [results, Tryz.results14, go_sem, r30, r31]
              rw [hE.out, if_neg h5, if_neg (by rw [hn]; simp), if_neg (by rw [hr.out]; simp), HBK.out, if_pos hlt, HC7.out]
          · have hje : j = (tth types k).fields.length := by omega
            go_wp2_with fail
            go_roundw
            case rel => exact ⟨k + 1, by omega, by go_num, by show _ = _; rw [HB2.out, if_pos (by rw [HTC.out, ← hje, HPJ.out]; rfl)], hT3⟩
            case measure => simp [intOf]; omega
      · have hcd : typeCode ⟨pname, types⟩ k = faultCode ⟨pname, types⟩ k := by rw [typeCode_fault, if_neg hc]
        have HBK : Hid (badT ⟨pname, types⟩ = k) := by show _ = _; rw [HB2.out, if_neg (by rw [hcd]; exact hc)]
        have HCD : Hid (typeCode ⟨pname, types⟩ k = faultCode ⟨pname, types⟩ k) := hcd
        have hcn : (faultCode ⟨pname, types⟩ k != 0) = true := by simpa using hc
        clear hcd HB2 HBD
        generalize hfc : faultCode ⟨pname, types⟩ k = fcd at hC1 hcn HCD hc
        clear hfc hc
        go_wp2_with (
          go_at_call 28
          refine hC1.mono ?_
          rintro e w3 ⟨rfl, hb3⟩
          have hT3 := hbl.trans (hb3.mono (by omega))
          obtain ⟨p30, p31, r30, r31, f30, f31, hbw3, hz3⟩ := PC w3 hT3)
        refine bodyPost_ret (v := .agg #[.int .i64 ((k : Nat) + 1 : Int), .int .i64 fcd]) ?res rfl ⟨?_, SET _ _ _ hbw3⟩
        case res => simp [results, Tryz.results14, go_sem, r30, r31]
        rw [hE.out, if_neg h5, if_neg (by rw [hn]; simp), if_neg (by rw [hr.out]; simp), HBK.out, if_pos hlt, HCD.out]
    · have HBK : Hid (badT ⟨pname, types⟩ = types.length) := by
        show _ = _
        rw [HBD.out, show types.length - k = 0 by omega, badAt]; omega
      have hX1 := hX w0 hbl
      have hln := partL_len ⟨pname, types⟩
      have hsz : (⟨(partL ⟨pname, types⟩).toArray⟩ : ByteArray).size = (partL ⟨pname, types⟩).length := List.size_toArray
      generalize (⟨(partL ⟨pname, types⟩).toArray⟩ : ByteArray) = tx at hX1 hsz
      have htz : Hid (tx.size = (partL ⟨pname, types⟩).length) := hsz
      have hsm : tx.size ≤ 9223372036854775807 := by omega
      by_cases hlen : 1500 < (partL ⟨pname, types⟩).length
      · have d : (1500 : Int) < (tx.size : Int) := by omega
        clear hsz hln
        go_wp2_with (
          go_at_call 29
          refine hX1.mono ?_
          rintro e w3 ⟨rfl, hb3⟩
          have hT3 := hbl.trans (hb3.mono (by omega))
          obtain ⟨p30, p31, r30, r31, f30, f31, hbw3, hz3⟩ := PC w3 hT3)
        refine bodyPost_ret (v := .agg #[.int .i64 0, .int .i64 6]) ?res rfl ⟨?_, SET _ _ _ hbw3⟩
        case res => simp [results, Tryz.results14, go_sem, r30, r31]
        rw [hE.out, if_neg h5, if_neg (by rw [hn]; simp), if_neg (by rw [hr.out]; simp), HBK.out, if_neg (by omega), if_pos hlen]
      · have d : ¬ (1500 : Int) < (tx.size : Int) := by omega
        clear hsz hln
        go_wp2_with (
          go_at_call 29
          refine hX1.mono ?_
          rintro e w3 ⟨rfl, hb3⟩
          have hT3 := hbl.trans (hb3.mono (by omega))
          obtain ⟨p30, p31, r30, r31, f30, f31, hbw3, hz3⟩ := PC w3 hT3)
        refine bodyPost_ret (v := .agg #[.int .i64 0, .int .i64 0]) ?res rfl ⟨?_, SET _ _ _ hbw3⟩
        case res => simp [results, Tryz.results14, go_sem, r30, r31]
        rw [hE.out, if_neg h5, if_neg (by rw [hn]; simp), if_neg (by rw [hr.out]; simp), HBK.out, if_neg (by omega), if_neg hlen]

theorem field_code (a c : Value) (w : World) : Sem.run Tryz.prog (Instr.field 44 (.agg #[a, c]) 1) w = .ok c w := by
  simp [Instr.field, Tryz.underlying44, asAgg, go_sem]

end Go.Proofs.YtjpabpkfdahdhaaGreat

namespace Go.Proofs.YtjpabpkfdahdhaaGreat
set_option linter.unusedSimpArgs false
set_option linter.unusedVariables false
open Go.RowKit

/-- What the model's StoreOk answers. -/
def storeS (p : Pt) (rs : List Ro) : Bool := okP p && (decide (1 ≤ rs.length) && decide (rs.length ≤ 16)) && (isT (rth rs 0).type [113, 117, 101, 114, 121] && (rth rs 0).id == 0) && allTo (oneS p rs) rs.length

theorem tIx_nat (p : Pt) (s : ByteArray) (h : 0 ≤ tIx p s) : ∃ n : Nat, tIx p s = n ∧ n < p.types.length := by
  rcases tIx_bd p s with h1 | h1
  · exact ⟨(tIx p s).toNat, by omega, by omega⟩
  · omega

set_option maxRecDepth 20000 in
set_option maxHeartbeats 6400000 in
theorem StoreOkS_any (p : Pt) (rs : List Ro) (w : World) (B : Nat) (v : Value) (ra : Option Addr) (rc : Nat) (hP : PRep w (· < B) p v) (hRs : RoReps w (· < B) rs ra) (hB : B ≤ w.heap.size) (hz : szP p ≤ 1048576) :
    Calls Tryz.prog 6 #[v, .slice ra rs.length rc] w fun e w' => e = .returned (.bool (storeS p rs)) ∧ Below w.heap.size w w' := by
  have hP' := hP
  have h48 := hRs.1
  obtain ⟨name, types⟩ := p
  obtain ⟨ta, tc, rfl, hK, -⟩ := hP
  simp only at hP' hK
  have hC := fun W (h : Below w.heap.size w W) => PartCheckS_any ⟨name, types⟩ W B _ (hP'.under (h.mono hB)) (by have := h.size; omega) hz
  have hok := partFault_ok ⟨name, types⟩
  have HS : Hid (storeS ⟨name, types⟩ rs = (okP ⟨name, types⟩ && (decide (1 ≤ rs.length) && decide (rs.length ≤ 16)) && (isT (rth rs 0).type [113, 117, 101, 114, 121] && (rth rs 0).id == 0) && allTo (oneS ⟨name, types⟩ rs) rs.length)) := rfl
  generalize partFault ⟨name, types⟩ = pf at hC hok
  obtain ⟨pa, pc⟩ := pf
  simp only at hC hok
  have hfld := field_code (.int .i64 pa) (.int .i64 pc)
  obtain ⟨X, hXe⟩ : ∃ X, X = (w.alloc (.cells #[.string name, .slice ta types.length tc] 31)) := ⟨_, rfl⟩
  have TB : ∀ W, Below (w.heap.size + 1) X W → W.cell? ⟨w.heap.size, 0, none⟩ = some (.string name) ∧ W.cell? ⟨w.heap.size, 1, none⟩ = some (.slice ta types.length tc) ∧ Below w.heap.size w W ∧ w.heap.size < W.heap.size := fun W h => by
    have hz := h.size
    rw [hXe] at h
    have hz2 : X.heap.size = w.heap.size + 1 := by rw [hXe]; simp
    exact ⟨(h.cell (p := ⟨w.heap.size, 0, none⟩) (by show w.heap.size < _; omega)).trans (box_new _ _ 0 (by simp)), (h.cell (p := ⟨w.heap.size, 1, none⟩) (by show w.heap.size < _; omega)).trans (box_new _ _ 1 (by simp)), (below_box w _).trans (h.mono (by omega)), by omega⟩
  have hT0 : Below (w.heap.size + 1) X (w.alloc (.cells #[.string name, .slice ta types.length tc] 31)) := by rw [hXe]; exact Below.refl _ _
  clear hXe
  cases ho : okP ⟨name, types⟩
  · have hne : (pc != 0) = true := by simp; intro e; rw [hok.1 e] at ho; cases ho
    go_enter Tryz.func6, Tryz.ntmps6
    go_wp2_with (go_at_call 14; refine (hC _ (below_box _ _)).mono ?_; rintro e w1 ⟨rfl, hb1⟩)
    go_ret
    exact ⟨ret_bool (by rw [HS.out, ho]; rfl), (below_box w _).trans (hb1.mono (by simp))⟩
  have hp0 : pc = 0 := hok.2 ho
  subst hp0
  clear hok
  cases hl : (decide ((1 : Int) ≤ (rs.length : Int)) && decide ((rs.length : Int) ≤ 16))
  · have HL : Hid ((decide (1 ≤ rs.length) && decide (rs.length ≤ 16)) = false) := by
      show _ = _
      rw [← hl]; congr 1 <;> simp <;> omega
    go_enter Tryz.func6, Tryz.ntmps6
    go_wp2_with (first
      | (go_at_call 14; refine (hC _ (below_box _ _)).mono ?_; rintro e w1 ⟨rfl, hb1⟩)
      | (go_at_call 15; refine (l1In_any _ _ _ _).mono ?_; rw [hl]; rintro e w2 ⟨rfl, rfl⟩))
    go_ret
    exact ⟨ret_bool (by rw [HS.out, HL.out]; simp), (below_box w _).trans (hb1.mono (by simp))⟩
  have hln : 1 ≤ rs.length ∧ rs.length ≤ 16 := by simp only [Bool.and_eq_true, decide_eq_true_eq] at hl; omega
  obtain ⟨b, off, ca0, cc0, rfl, -, hcs0⟩ := hRs.at hB 0 (by omega)
  have h0l : (0 : Int) < (rs.length : Int) := by omega
  have FC : ∀ W, Below w.heap.size w W → W.cell? ⟨b, off, none⟩ = some (.string (rth rs 0).type) ∧ W.cell? ⟨b, off + 1, none⟩ = some (.int .i64 (rth rs 0).id) := fun W hb => by
    obtain ⟨x0, x1, -⟩ := hcs0 W hb
    simp only [Nat.zero_mul, Nat.add_zero] at x0 x1
    exact ⟨x0, x1⟩
  cases hf1 : ((rth rs 0).type.toList == [113, 117, 101, 114, 121])
  · have hf1' : ((rth rs 0).type.toList != [113, 117, 101, 114, 121]) = true := by simp only [bne, hf1]; rfl
    go_enter Tryz.func6, Tryz.ntmps6
    go_wp2_with (first
      | (go_at_call 14; refine (hC _ (below_box _ _)).mono ?_; rintro e w1 ⟨rfl, hb1⟩; have hw1 := (below_box w _).trans (hb1.mono (by simp)); obtain ⟨x0, x1⟩ := FC w1 hw1)
      | (go_at_call 15; refine (l1In_any _ _ _ _).mono ?_; rw [hl]; rintro e w2 ⟨rfl, rfl⟩))
    go_ret
    exact ⟨ret_bool (by rw [HS.out]; simp [isT, hf1]), hw1⟩
  have hf1' : ((rth rs 0).type.toList != [113, 117, 101, 114, 121]) = false := by simp only [bne, hf1]; rfl
  cases hf2 : ((rth rs 0).id == 0)
  · have hf2' : ((rth rs 0).id != 0) = true := by simp only [bne, hf2]; rfl
    go_enter Tryz.func6, Tryz.ntmps6
    go_wp2_with (first
      | (go_at_call 14; refine (hC _ (below_box _ _)).mono ?_; rintro e w1 ⟨rfl, hb1⟩; have hw1 := (below_box w _).trans (hb1.mono (by simp)); obtain ⟨x0, x1⟩ := FC w1 hw1)
      | (go_at_call 15; refine (l1In_any _ _ _ _).mono ?_; rw [hl]; rintro e w2 ⟨rfl, rfl⟩))
    go_ret
    exact ⟨ret_bool (by rw [HS.out]; simp [hf2]), hw1⟩
  have hf2' : ((rth rs 0).id != 0) = false := by simp only [bne, hf2]; rfl
  have HSR : Hid (storeS ⟨name, types⟩ rs = allTo (oneS ⟨name, types⟩ rs) rs.length) := by
    show _ = _
    rw [HS.out, ho, decide_eq_true hln.1, decide_eq_true hln.2, show isT (rth rs 0).type [113, 117, 101, 114, 121] = true from hf1, hf2]; rfl
  go_enter Tryz.func6, Tryz.ntmps6
  go_wp2_with (first
    | (go_at_call 14; refine (hC _ (below_box _ _)).mono ?_; rintro e w1 ⟨rfl, hb1⟩; have hw1 := (below_box w _).trans (hb1.mono (by simp)); obtain ⟨x0, x1⟩ := FC w1 hw1; have hT1 := hT0.trans (hb1.mono (by simp)))
    | (go_at_call 15; refine (l1In_any _ _ _ _).mono ?_; rw [hl]; rintro e w2 ⟨rfl, rfl⟩))
  clear x0 x1 hw1 hb1 hT0 hC hl hf1 hf1' hf2 hf2' FC hcs0 hfld HS
  go_loopw [5] (fun i wr => ∃ k : Nat, k ≤ rs.length ∧ i = .int .i64 k ∧ Below (w.heap.size + 1) X wr ∧ allTo (oneS ⟨name, types⟩ rs) k = true) (fun i _ => rs.length - (intOf i).toNat)
  case atStart => exact ⟨0, Nat.zero_le _, rfl, hT1, rfl⟩
  case round =>
    clear hT1
    obtain ⟨k, hk, rfl, hT, hp⟩ := hrel
    obtain ⟨w0, rfl⟩ : ∃ x, x = wr := ⟨wr, rfl⟩
    have HP : Hid (allTo (oneS ⟨name, types⟩ rs) k = true) := hp
    clear hp
    obtain ⟨p0, p1, hw0, hz0⟩ := TB w0 hT
    by_cases hlt : k < rs.length
    · have hki : (k : Int) < (rs.length : Int) := by omega
      obtain ⟨b2, off2, ca, cc, e2, hRo, hcs⟩ := hRs.at hB k hlt
      simp only [Option.some.injEq, Addr.mk.injEq, and_true] at e2
      obtain ⟨rfl, rfl⟩ := e2
      obtain ⟨c0, c1, c2⟩ := hcs w0 hw0
      have hL := l2Type_any ⟨name, types⟩ w0.drew B _ (rth rs k).type (hP'.under (hw0.drew.mono hB)) (by simp; omega)
      have HF : Hid (oneS ⟨name, types⟩ rs k = false → storeS ⟨name, types⟩ rs = false) := fun h => by rw [HSR.out]; exact allTo_false _ _ k hlt h
      have HN : Hid (oneS ⟨name, types⟩ rs k = true → allTo (oneS ⟨name, types⟩ rs) (k + 1) = true) := fun h => by rw [allTo_succ, HP.out]; exact h
      have HO : Hid (oneS ⟨name, types⟩ rs k = (decide (0 ≤ tIx ⟨name, types⟩ (rth rs k).type) && rowB (tth types (tIx ⟨name, types⟩ (rth rs k).type).toNat) (rth rs k) && (decide (k = 0) || (!(tIx ⟨name, types⟩ (rth rs k).type == 0) && !decide (tIx ⟨name, types⟩ (rth rs k).type < tIx ⟨name, types⟩ (rth rs (k - 1)).type) && !((tIx ⟨name, types⟩ (rth rs (k - 1)).type == tIx ⟨name, types⟩ (rth rs k).type) && decide ((rth rs k).id ≤ (rth rs (k - 1)).id)))))) := rfl
      have hnat := tIx_nat ⟨name, types⟩ (rth rs k).type
      have hL' : Calls Tryz.prog 16 #[.agg #[.string name, .slice ta types.length tc], .string (rth rs k).type] w0.drew fun e w' => e = .returned (.int .i64 (tIx ⟨name, types⟩ (rth rs k).type)) ∧ Below w0.drew.heap.size w0.drew w' := hL
      clear hL
      generalize tIx ⟨name, types⟩ (rth rs k).type = ix at hL' HO hnat
      go_wp2_with fail
      go_cut [6] (fun r wx => r = .int .i64 ix ∧ Below (w.heap.size + 1) X wx)
      case first =>
        go_region_held3 (fun w' => w'.cell? ⟨w.heap.size, 0, none⟩ = some (.string name) ∧ w'.cell? ⟨w.heap.size, 1, none⟩ = some (.slice ta types.length tc) ∧ w'.cell? ⟨b, off + k * 3, none⟩ = some (.string (rth rs k).type) ∧ w'.cell? ⟨b, off + k * 3 + 1, none⟩ = some (.int .i64 (rth rs k).id) ∧ w'.cell? ⟨b, off + k * 3 + 2, none⟩ = some (.slice ca (rth rs k).cells.length cc)) (go_keep)
          (first
            | (
              go_at_call 16
              refine hL'.mono ?_
              rintro e w1 ⟨rfl, hb1⟩
              have hT1 := hT.trans ((below_undrew hb1).mono (by omega))
              obtain ⟨p0', p1', hw1, hz1⟩ := TB w1 hT1
              obtain ⟨c0', c1', c2'⟩ := hcs w1 hw1))
        all_goals
          go_wp2_with fail
          go_meet
          case rel => exact ⟨rfl, hT1⟩
      case rest =>
      obtain ⟨rfl, hT2⟩ := hcut
      obtain ⟨w2, rfl⟩ : ∃ x, x = wc := ⟨wc, rfl⟩
      clear p0 p1 c0 c1 c2 hL' hw0 hz0 hT
      obtain ⟨p0, p1, hw2, hz2⟩ := TB w2 hT2
      obtain ⟨c0, c1, c2⟩ := hcs w2 hw2
      by_cases hix : ix < 0
      · have hix' : decide (ix < 0) = true := by simpa using hix
        have HQ : Hid (storeS ⟨name, types⟩ rs = false) := HF.out (by rw [HO.out, decide_eq_false (by omega : ¬ 0 ≤ ix)]; rfl)
        clear HF HN HO
        go_wp2_with fail
        go_quiet (fail)
        go_wp2_with fail
        go_ret
        exact ⟨ret_bool HQ.out.symm, below_drews hw2 _⟩
      obtain ⟨n, rfl, hn⟩ := hnat (by omega)
      have hn' : n < types.length := hn
      have hni : (n : Int) < (types.length : Int) := by omega
      have hn0 : decide ((n : Int) < 0) = false := by simp
      obtain ⟨tb, toff, fa, fc, rfl, hTR, hts⟩ := hK.at hB n hn'
      obtain ⟨t0, t1, t2⟩ := hts w2 hw2
      have hRow := l4Row_any (tth types n) (rth rs k) w2.drew B _ _ (hTR.under (hw2.drew.mono hB)) (hRo.under (hw2.drew.mono hB)) (by simp; omega)
      have HO2 : Hid (oneS ⟨name, types⟩ rs k = (rowB (tth types n) (rth rs k) && (decide (k = 0) || (!((n : Int) == 0) && !decide ((n : Int) < tIx ⟨name, types⟩ (rth rs (k - 1)).type) && !((tIx ⟨name, types⟩ (rth rs (k - 1)).type == (n : Int)) && decide ((rth rs k).id ≤ (rth rs (k - 1)).id)))))) := by show _ = _; rw [HO.out, decide_eq_true (by omega : (0 : Int) ≤ (n : Int))]; rfl
      generalize rowB (tth types n) (rth rs k) = rb at hRow HO2
      clear HO hnat hix hn
      go_wp2_with fail
      cases rb
      · have HQ : Hid (storeS ⟨name, types⟩ rs = false) := HF.out (by rw [HO2.out]; rfl)
        clear HF HN HO2
        refine wp_region_held_drew (S := fun w' => w'.cell? ⟨w.heap.size, 0, none⟩ = some (.string name) ∧ w'.cell? ⟨w.heap.size, 1, none⟩ = some (.slice (some ⟨tb, toff, none⟩) types.length tc) ∧ w'.cell? ⟨tb, toff + n * 3, none⟩ = some (.string (tth types n).name) ∧ w'.cell? ⟨tb, toff + n * 3 + 1, none⟩ = some (.string (tth types n).key) ∧ w'.cell? ⟨tb, toff + n * 3 + 2, none⟩ = some (.slice fa (tth types n).fields.length fc) ∧ w'.cell? ⟨b, off + k * 3, none⟩ = some (.string (rth rs k).type) ∧ w'.cell? ⟨b, off + k * 3 + 1, none⟩ = some (.int .i64 (rth rs k).id) ∧ w'.cell? ⟨b, off + k * 3 + 2, none⟩ = some (.slice ca (rth rs k).cells.length cc)) (by kernel_rfl) ⟨p0, p1, t0, t1, t2, c0, c1, c2⟩ (fun hHeld => ?_)
        refine wpAnyH_take (i := 0) (oi := { dst := some 45, op := Op.move (Operand.tmp 6), type := 3, pos := "l4_store.go:68", after := #[], guard := none }) (v := ?_) rfl (by kernel_rfl) (by kernel_rfl) (by kernel_rfl) (fun _ _ _ h => h) (Or.inl ⟨by rfl, ?_⟩) hHeld ?_
        rotate_left
        · intro w' hSw
          (try dsimp only at hSw)
          go_simp
          try with_reducible rfl
        try simp only [Act.put, List.setIfInBounds_toArray, List.set_cons_zero, List.set_cons_succ]
        refine wpAnyH_take (i := 1) (oi := { dst := some 46, op := Op.binOp BinOp.lss 3 (Operand.tmp 45) (Operand.const (Value.int IntKind.i64 0)) 3, type := 4, pos := "l4_store.go:68", after := #[{ on := 0, ground := Ground.data }], guard := none }) (v := ?_) rfl (by kernel_rfl) (by kernel_rfl) (by kernel_rfl) (fun _ _ _ h => h) (Or.inl ⟨by rfl, ?_⟩) hHeld ?_
        rotate_left
        · intro w' hSw
          (try dsimp only at hSw)
          go_simp
          try with_reducible rfl
        try simp only [Act.put, List.setIfInBounds_toArray, List.set_cons_zero, List.set_cons_succ]
        refine wpAnyH_take (i := 2) (oi := { dst := some 47, op := Op.move (Operand.tmp 46), type := 4, pos := "l4_store.go:68", after := #[{ on := 1, ground := Ground.data }], guard := none }) (v := ?_) rfl (by kernel_rfl) (by kernel_rfl) (by kernel_rfl) (fun _ _ _ h => h) (Or.inl ⟨by rfl, ?_⟩) hHeld ?_
        rotate_left
        · intro w' hSw
          (try dsimp only at hSw)
          go_simp
          try with_reducible rfl
        try simp only [Act.put, List.setIfInBounds_toArray, List.set_cons_zero, List.set_cons_succ]
        refine wpAnyH_take (i := 3) (oi := { dst := some 48, op := Op.fieldAddr 31 (Operand.tmp 2) 1, type := 0, pos := "l4_store.go:68", after := #[{ on := 2, ground := Ground.guard }], guard := some (2, false) }) (v := ?_) rfl (by kernel_rfl) (by kernel_rfl) (by kernel_rfl) (fun _ _ _ h => h) (Or.inl ⟨by rfl, ?_⟩) hHeld ?_
        rotate_left
        · intro w' hSw
          (try dsimp only at hSw)
          go_simp
          try with_reducible rfl
        try simp only [Act.put, List.setIfInBounds_toArray, List.set_cons_zero, List.set_cons_succ]
        refine wpAnyH_take (i := 4) (oi := { dst := some 49, op := Op.load 29 (Operand.tmp 48), type := 29, pos := "l4_store.go:68", after := #[{ on := 3, ground := Ground.data }, { on := 2, ground := Ground.guard }], guard := some (2, false) }) (v := ?_) rfl (by kernel_rfl) (by kernel_rfl) (by kernel_rfl) (fun _ _ _ h => h) (Or.inl ⟨by rfl, ?_⟩) hHeld ?_
        rotate_left
        · intro w' hSw
          (try dsimp only at hSw)
          go_simp
          try with_reducible rfl
        try simp only [Act.put, List.setIfInBounds_toArray, List.set_cons_zero, List.set_cons_succ]
        refine wpAnyH_take (i := 5) (oi := { dst := some 50, op := Op.move (Operand.tmp 6), type := 3, pos := "l4_store.go:68", after := #[{ on := 2, ground := Ground.guard }], guard := some (2, false) }) (v := ?_) rfl (by kernel_rfl) (by kernel_rfl) (by kernel_rfl) (fun _ _ _ h => h) (Or.inl ⟨by rfl, ?_⟩) hHeld ?_
        rotate_left
        · intro w' hSw
          (try dsimp only at hSw)
          go_simp
          try with_reducible rfl
        try simp only [Act.put, List.setIfInBounds_toArray, List.set_cons_zero, List.set_cons_succ]
        refine wpAnyH_take (i := 6) (oi := { dst := some 51, op := Op.indexAddr 29 (Operand.tmp 49) (Operand.tmp 50), type := 0, pos := "l4_store.go:68", after := #[{ on := 4, ground := Ground.data }, { on := 5, ground := Ground.data }, { on := 2, ground := Ground.guard }], guard := some (2, false) }) (v := ?_) rfl (by kernel_rfl) (by kernel_rfl) (by kernel_rfl) (fun _ _ _ h => h) (Or.inl ⟨by rfl, ?_⟩) hHeld ?_
        rotate_left
        · intro w' hSw
          (try dsimp only at hSw)
          go_simp
          try with_reducible rfl
        try simp only [Act.put, List.setIfInBounds_toArray, List.set_cons_zero, List.set_cons_succ]
        refine wpAnyH_take (i := 7) (oi := { dst := some 52, op := Op.load 54 (Operand.tmp 51), type := 54, pos := "l4_store.go:68", after := #[{ on := 6, ground := Ground.data }, { on := 2, ground := Ground.guard }], guard := some (2, false) }) (v := ?_) rfl (by kernel_rfl) (by kernel_rfl) (by kernel_rfl) (fun _ _ _ h => h) (Or.inl ⟨by rfl, ?_⟩) hHeld ?_
        rotate_left
        · intro w' hSw
          (try dsimp only at hSw)
          go_simp
          try with_reducible rfl
        try simp only [Act.put, List.setIfInBounds_toArray, List.set_cons_zero, List.set_cons_succ]
        refine wpAnyH_take (i := 8) (oi := { dst := some 53, op := Op.move (Operand.tmp 1), type := 33, pos := "l4_store.go:68", after := #[{ on := 2, ground := Ground.guard }], guard := some (2, false) }) (v := ?_) rfl (by kernel_rfl) (by kernel_rfl) (by kernel_rfl) (fun _ _ _ h => h) (Or.inl ⟨by rfl, ?_⟩) hHeld ?_
        rotate_left
        · intro w' hSw
          (try dsimp only at hSw)
          go_simp
          try with_reducible rfl
        try simp only [Act.put, List.setIfInBounds_toArray, List.set_cons_zero, List.set_cons_succ]
        refine wpAnyH_take (i := 9) (oi := { dst := some 54, op := Op.move (Operand.tmp 5), type := 3, pos := "l4_store.go:68", after := #[{ on := 2, ground := Ground.guard }], guard := some (2, false) }) (v := ?_) rfl (by kernel_rfl) (by kernel_rfl) (by kernel_rfl) (fun _ _ _ h => h) (Or.inl ⟨by rfl, ?_⟩) hHeld ?_
        rotate_left
        · intro w' hSw
          (try dsimp only at hSw)
          go_simp
          try with_reducible rfl
        try simp only [Act.put, List.setIfInBounds_toArray, List.set_cons_zero, List.set_cons_succ]
        refine wpAnyH_take (i := 10) (oi := { dst := some 55, op := Op.indexAddr 33 (Operand.tmp 53) (Operand.tmp 54), type := 0, pos := "l4_store.go:68", after := #[{ on := 8, ground := Ground.data }, { on := 9, ground := Ground.data }, { on := 2, ground := Ground.guard }], guard := some (2, false) }) (v := ?_) rfl (by kernel_rfl) (by kernel_rfl) (by kernel_rfl) (fun _ _ _ h => h) (Or.inl ⟨by rfl, ?_⟩) hHeld ?_
        rotate_left
        · intro w' hSw
          (try dsimp only at hSw)
          go_simp
          try with_reducible rfl
        try simp only [Act.put, List.setIfInBounds_toArray, List.set_cons_zero, List.set_cons_succ]
        refine wpAnyH_take (i := 11) (oi := { dst := some 56, op := Op.load 49 (Operand.tmp 55), type := 49, pos := "l4_store.go:68", after := #[{ on := 10, ground := Ground.data }, { on := 2, ground := Ground.guard }], guard := some (2, false) }) (v := ?_) rfl (by kernel_rfl) (by kernel_rfl) (by kernel_rfl) (fun _ _ _ h => h) (Or.inl ⟨by rfl, ?_⟩) hHeld ?_
        rotate_left
        · intro w' hSw
          (try dsimp only at hSw)
          go_simp
          try with_reducible rfl
        try simp only [Act.put, List.setIfInBounds_toArray, List.set_cons_zero, List.set_cons_succ]
        refine wpAnyH_ready (rs := [12]) (by kernel_rfl) (by simp) ?_
        refine AllReadyH.cons (o := { dst := some 57, op := Op.call { callee := Callee.value (Operand.func 17), args := #[Operand.tmp 52, Operand.tmp 56], argTypes := #[54, 49] }, type := 4, pos := "l4_store.go:68", after := #[{ on := 7, ground := Ground.data }, { on := 11, ground := Ground.data }, { on := 2, ground := Ground.chain }, { on := 2, ground := Ground.guard }], guard := some (2, false) }) rfl (fun K hK => ?_) AllReadyH.nil
        go_simp
        refine (hRow).mono ?_
        rintro e w3 ⟨rfl, hb3⟩
        have hb3' := below_undrew hb3
        have hT3 := hT2.trans (hb3'.mono (by omega))
        obtain ⟨p0', p1', hw3, hz3⟩ := TB w3 hT3
        obtain ⟨c0', c1', c2'⟩ := hcs w3 hw3
        obtain ⟨t0', t1', t2'⟩ := hts w3 hw3
        refine hK.out _ _ ⟨p0', p1', t0', t1', t2', c0', c1', c2'⟩ (fun hHeld => ?_)
        clear hK K
        try simp only [Act.put, List.setIfInBounds_toArray, List.set_cons_zero, List.set_cons_succ]
        refine wpAnyH_take (i := 13) (oi := { dst := some 58, op := Op.unOp UnOp.not 4 (Operand.tmp 57), type := 4, pos := "l4_store.go:68", after := #[{ on := 12, ground := Ground.data }, { on := 2, ground := Ground.guard }], guard := some (2, false) }) (v := ?_) rfl (by kernel_rfl) (by kernel_rfl) (by kernel_rfl) (fun _ _ _ h => h) (Or.inl ⟨by rfl, ?_⟩) hHeld ?_
        rotate_left
        · intro w' hSw
          (try dsimp only at hSw)
          go_simp
          try with_reducible rfl
        try simp only [Act.put, List.setIfInBounds_toArray, List.set_cons_zero, List.set_cons_succ]
        refine wpAnyH_take (i := 14) (oi := { dst := some 59, op := Op.pick (Operand.tmp 47) (Operand.const (Value.bool true)) (Operand.tmp 58), type := 4, pos := "l4_store.go:68", after := #[{ on := 2, ground := Ground.data }, { on := 13, ground := Ground.data }], guard := none }) (v := ?_) rfl (by kernel_rfl) (by kernel_rfl) (by kernel_rfl) (fun _ _ _ h => h) (Or.inl ⟨by rfl, ?_⟩) hHeld ?_
        rotate_left
        · intro w' hSw
          (try dsimp only at hSw)
          go_simp
          try with_reducible rfl
        try simp only [Act.put, List.setIfInBounds_toArray, List.set_cons_zero, List.set_cons_succ]
        refine wpAnyH_take (i := 15) (oi := { dst := some 60, op := Op.move (Operand.tmp 59), type := 4, pos := "l4_store.go:68", after := #[{ on := 14, ground := Ground.data }, { on := 12, ground := Ground.chain }], guard := none }) (v := ?_) rfl (by kernel_rfl) (by kernel_rfl) (by kernel_rfl) (fun _ _ _ h => h) (Or.inl ⟨by rfl, ?_⟩) hHeld ?_
        rotate_left
        · intro w' hSw
          (try dsimp only at hSw)
          go_simp
          try with_reducible rfl
        try simp only [Act.put, List.setIfInBounds_toArray, List.set_cons_zero, List.set_cons_succ]
        refine wpAnyH_take (i := 16) (oi := { dst := some 61, op := Op.move (Operand.tmp 5), type := 3, pos := "l4_store.go:68", after := #[{ on := 15, ground := Ground.guard }], guard := some (15, false) }) (v := undef) rfl (by kernel_rfl) (by kernel_rfl) (by kernel_rfl) (fun _ _ _ h => h) (Or.inr ⟨by rfl, rfl⟩) hHeld ?_
        try simp only [Act.put, List.setIfInBounds_toArray, List.set_cons_zero, List.set_cons_succ]
        refine wpAnyH_take (i := 17) (oi := { dst := some 62, op := Op.binOp BinOp.gtr 3 (Operand.tmp 61) (Operand.const (Value.int IntKind.i64 0)) 3, type := 4, pos := "l4_store.go:68", after := #[{ on := 16, ground := Ground.data }, { on := 15, ground := Ground.guard }], guard := some (15, false) }) (v := undef) rfl (by kernel_rfl) (by kernel_rfl) (by kernel_rfl) (fun _ _ _ h => h) (Or.inr ⟨by rfl, rfl⟩) hHeld ?_
        try simp only [Act.put, List.setIfInBounds_toArray, List.set_cons_zero, List.set_cons_succ]
        refine wpAnyH_take (i := 18) (oi := { dst := some 63, op := Op.move (Operand.tmp 62), type := 4, pos := "l4_store.go:68", after := #[{ on := 17, ground := Ground.data }, { on := 15, ground := Ground.chain }, { on := 15, ground := Ground.guard }], guard := some (15, false) }) (v := undef) rfl (by kernel_rfl) (by kernel_rfl) (by kernel_rfl) (fun _ _ _ h => h) (Or.inr ⟨by rfl, rfl⟩) hHeld ?_
        try simp only [Act.put, List.setIfInBounds_toArray, List.set_cons_zero, List.set_cons_succ]
        refine wpAnyH_take (i := 19) (oi := { dst := some 64, op := Op.move (Operand.tmp 6), type := 3, pos := "l4_store.go:68", after := #[{ on := 18, ground := Ground.guard }], guard := some (18, true) }) (v := undef) rfl (by kernel_rfl) (by kernel_rfl) (by kernel_rfl) (fun _ _ _ h => h) (Or.inr ⟨by rfl, rfl⟩) hHeld ?_
        try simp only [Act.put, List.setIfInBounds_toArray, List.set_cons_zero, List.set_cons_succ]
        refine wpAnyH_take (i := 20) (oi := { dst := some 65, op := Op.binOp BinOp.eql 3 (Operand.tmp 64) (Operand.const (Value.int IntKind.i64 0)) 3, type := 4, pos := "l4_store.go:68", after := #[{ on := 19, ground := Ground.data }, { on := 18, ground := Ground.guard }], guard := some (18, true) }) (v := undef) rfl (by kernel_rfl) (by kernel_rfl) (by kernel_rfl) (fun _ _ _ h => h) (Or.inr ⟨by rfl, rfl⟩) hHeld ?_
        try simp only [Act.put, List.setIfInBounds_toArray, List.set_cons_zero, List.set_cons_succ]
        refine wpAnyH_take (i := 21) (oi := { dst := some 66, op := Op.pick (Operand.tmp 63) (Operand.tmp 65) (Operand.const (Value.bool false)), type := 4, pos := "l4_store.go:68", after := #[{ on := 18, ground := Ground.data }, { on := 20, ground := Ground.data }, { on := 15, ground := Ground.guard }], guard := some (15, false) }) (v := undef) rfl (by kernel_rfl) (by kernel_rfl) (by kernel_rfl) (fun _ _ _ h => h) (Or.inr ⟨by rfl, rfl⟩) hHeld ?_
        try simp only [Act.put, List.setIfInBounds_toArray, List.set_cons_zero, List.set_cons_succ]
        refine wpAnyH_take (i := 22) (oi := { dst := some 67, op := Op.pick (Operand.tmp 60) (Operand.const (Value.bool true)) (Operand.tmp 66), type := 4, pos := "l4_store.go:68", after := #[{ on := 15, ground := Ground.data }, { on := 21, ground := Ground.data }], guard := none }) (v := ?_) rfl (by kernel_rfl) (by kernel_rfl) (by kernel_rfl) (fun _ _ _ h => h) (Or.inl ⟨by rfl, ?_⟩) hHeld ?_
        rotate_left
        · intro w' hSw
          (try dsimp only at hSw)
          go_simp
          try with_reducible rfl
        try simp only [Act.put, List.setIfInBounds_toArray, List.set_cons_zero, List.set_cons_succ]
        refine wpAnyH_done (by kernel_rfl) ?_ _
        go_wp2_with fail
        go_ret
        exact ⟨ret_bool HQ.out.symm, by first | exact hw3 | exact hw3.drew | exact below_drews hw3 _⟩
      by_cases hk0 : k = 0
      · have HQ : Hid (allTo (oneS ⟨name, types⟩ rs) (k + 1) = true) := HN.out (by rw [HO2.out, decide_eq_true hk0]; rfl)
        have d0 : decide ((0 : Int) < (k : Int)) = false := by simp; omega
        have d1 : decide (0 < k) = false := by simp; omega
        clear HF HN HO2 hk0
        refine wp_region_held_drew (S := fun w' => w'.cell? ⟨w.heap.size, 0, none⟩ = some (.string name) ∧ w'.cell? ⟨w.heap.size, 1, none⟩ = some (.slice (some ⟨tb, toff, none⟩) types.length tc) ∧ w'.cell? ⟨tb, toff + n * 3, none⟩ = some (.string (tth types n).name) ∧ w'.cell? ⟨tb, toff + n * 3 + 1, none⟩ = some (.string (tth types n).key) ∧ w'.cell? ⟨tb, toff + n * 3 + 2, none⟩ = some (.slice fa (tth types n).fields.length fc) ∧ w'.cell? ⟨b, off + k * 3, none⟩ = some (.string (rth rs k).type) ∧ w'.cell? ⟨b, off + k * 3 + 1, none⟩ = some (.int .i64 (rth rs k).id) ∧ w'.cell? ⟨b, off + k * 3 + 2, none⟩ = some (.slice ca (rth rs k).cells.length cc)) (by kernel_rfl) ⟨p0, p1, t0, t1, t2, c0, c1, c2⟩ (fun hHeld => ?_)
        refine wpAnyH_take (i := 0) (oi := { dst := some 45, op := Op.move (Operand.tmp 6), type := 3, pos := "l4_store.go:68", after := #[], guard := none }) (v := ?_) rfl (by kernel_rfl) (by kernel_rfl) (by kernel_rfl) (fun _ _ _ h => h) (Or.inl ⟨by rfl, ?_⟩) hHeld ?_
        rotate_left
        · intro w' hSw
          (try dsimp only at hSw)
          go_simp
          try with_reducible rfl
        try simp only [Act.put, List.setIfInBounds_toArray, List.set_cons_zero, List.set_cons_succ]
        refine wpAnyH_take (i := 1) (oi := { dst := some 46, op := Op.binOp BinOp.lss 3 (Operand.tmp 45) (Operand.const (Value.int IntKind.i64 0)) 3, type := 4, pos := "l4_store.go:68", after := #[{ on := 0, ground := Ground.data }], guard := none }) (v := ?_) rfl (by kernel_rfl) (by kernel_rfl) (by kernel_rfl) (fun _ _ _ h => h) (Or.inl ⟨by rfl, ?_⟩) hHeld ?_
        rotate_left
        · intro w' hSw
          (try dsimp only at hSw)
          go_simp
          try with_reducible rfl
        try simp only [Act.put, List.setIfInBounds_toArray, List.set_cons_zero, List.set_cons_succ]
        refine wpAnyH_take (i := 2) (oi := { dst := some 47, op := Op.move (Operand.tmp 46), type := 4, pos := "l4_store.go:68", after := #[{ on := 1, ground := Ground.data }], guard := none }) (v := ?_) rfl (by kernel_rfl) (by kernel_rfl) (by kernel_rfl) (fun _ _ _ h => h) (Or.inl ⟨by rfl, ?_⟩) hHeld ?_
        rotate_left
        · intro w' hSw
          (try dsimp only at hSw)
          go_simp
          try with_reducible rfl
        try simp only [Act.put, List.setIfInBounds_toArray, List.set_cons_zero, List.set_cons_succ]
        refine wpAnyH_take (i := 3) (oi := { dst := some 48, op := Op.fieldAddr 31 (Operand.tmp 2) 1, type := 0, pos := "l4_store.go:68", after := #[{ on := 2, ground := Ground.guard }], guard := some (2, false) }) (v := ?_) rfl (by kernel_rfl) (by kernel_rfl) (by kernel_rfl) (fun _ _ _ h => h) (Or.inl ⟨by rfl, ?_⟩) hHeld ?_
        rotate_left
        · intro w' hSw
          (try dsimp only at hSw)
          go_simp
          try with_reducible rfl
        try simp only [Act.put, List.setIfInBounds_toArray, List.set_cons_zero, List.set_cons_succ]
        refine wpAnyH_take (i := 4) (oi := { dst := some 49, op := Op.load 29 (Operand.tmp 48), type := 29, pos := "l4_store.go:68", after := #[{ on := 3, ground := Ground.data }, { on := 2, ground := Ground.guard }], guard := some (2, false) }) (v := ?_) rfl (by kernel_rfl) (by kernel_rfl) (by kernel_rfl) (fun _ _ _ h => h) (Or.inl ⟨by rfl, ?_⟩) hHeld ?_
        rotate_left
        · intro w' hSw
          (try dsimp only at hSw)
          go_simp
          try with_reducible rfl
        try simp only [Act.put, List.setIfInBounds_toArray, List.set_cons_zero, List.set_cons_succ]
        refine wpAnyH_take (i := 5) (oi := { dst := some 50, op := Op.move (Operand.tmp 6), type := 3, pos := "l4_store.go:68", after := #[{ on := 2, ground := Ground.guard }], guard := some (2, false) }) (v := ?_) rfl (by kernel_rfl) (by kernel_rfl) (by kernel_rfl) (fun _ _ _ h => h) (Or.inl ⟨by rfl, ?_⟩) hHeld ?_
        rotate_left
        · intro w' hSw
          (try dsimp only at hSw)
          go_simp
          try with_reducible rfl
        try simp only [Act.put, List.setIfInBounds_toArray, List.set_cons_zero, List.set_cons_succ]
        refine wpAnyH_take (i := 6) (oi := { dst := some 51, op := Op.indexAddr 29 (Operand.tmp 49) (Operand.tmp 50), type := 0, pos := "l4_store.go:68", after := #[{ on := 4, ground := Ground.data }, { on := 5, ground := Ground.data }, { on := 2, ground := Ground.guard }], guard := some (2, false) }) (v := ?_) rfl (by kernel_rfl) (by kernel_rfl) (by kernel_rfl) (fun _ _ _ h => h) (Or.inl ⟨by rfl, ?_⟩) hHeld ?_
        rotate_left
        · intro w' hSw
          (try dsimp only at hSw)
          go_simp
          try with_reducible rfl
        try simp only [Act.put, List.setIfInBounds_toArray, List.set_cons_zero, List.set_cons_succ]
        refine wpAnyH_take (i := 7) (oi := { dst := some 52, op := Op.load 54 (Operand.tmp 51), type := 54, pos := "l4_store.go:68", after := #[{ on := 6, ground := Ground.data }, { on := 2, ground := Ground.guard }], guard := some (2, false) }) (v := ?_) rfl (by kernel_rfl) (by kernel_rfl) (by kernel_rfl) (fun _ _ _ h => h) (Or.inl ⟨by rfl, ?_⟩) hHeld ?_
        rotate_left
        · intro w' hSw
          (try dsimp only at hSw)
          go_simp
          try with_reducible rfl
        try simp only [Act.put, List.setIfInBounds_toArray, List.set_cons_zero, List.set_cons_succ]
        refine wpAnyH_take (i := 8) (oi := { dst := some 53, op := Op.move (Operand.tmp 1), type := 33, pos := "l4_store.go:68", after := #[{ on := 2, ground := Ground.guard }], guard := some (2, false) }) (v := ?_) rfl (by kernel_rfl) (by kernel_rfl) (by kernel_rfl) (fun _ _ _ h => h) (Or.inl ⟨by rfl, ?_⟩) hHeld ?_
        rotate_left
        · intro w' hSw
          (try dsimp only at hSw)
          go_simp
          try with_reducible rfl
        try simp only [Act.put, List.setIfInBounds_toArray, List.set_cons_zero, List.set_cons_succ]
        refine wpAnyH_take (i := 9) (oi := { dst := some 54, op := Op.move (Operand.tmp 5), type := 3, pos := "l4_store.go:68", after := #[{ on := 2, ground := Ground.guard }], guard := some (2, false) }) (v := ?_) rfl (by kernel_rfl) (by kernel_rfl) (by kernel_rfl) (fun _ _ _ h => h) (Or.inl ⟨by rfl, ?_⟩) hHeld ?_
        rotate_left
        · intro w' hSw
          (try dsimp only at hSw)
          go_simp
          try with_reducible rfl
        try simp only [Act.put, List.setIfInBounds_toArray, List.set_cons_zero, List.set_cons_succ]
        refine wpAnyH_take (i := 10) (oi := { dst := some 55, op := Op.indexAddr 33 (Operand.tmp 53) (Operand.tmp 54), type := 0, pos := "l4_store.go:68", after := #[{ on := 8, ground := Ground.data }, { on := 9, ground := Ground.data }, { on := 2, ground := Ground.guard }], guard := some (2, false) }) (v := ?_) rfl (by kernel_rfl) (by kernel_rfl) (by kernel_rfl) (fun _ _ _ h => h) (Or.inl ⟨by rfl, ?_⟩) hHeld ?_
        rotate_left
        · intro w' hSw
          (try dsimp only at hSw)
          go_simp
          try with_reducible rfl
        try simp only [Act.put, List.setIfInBounds_toArray, List.set_cons_zero, List.set_cons_succ]
        refine wpAnyH_take (i := 11) (oi := { dst := some 56, op := Op.load 49 (Operand.tmp 55), type := 49, pos := "l4_store.go:68", after := #[{ on := 10, ground := Ground.data }, { on := 2, ground := Ground.guard }], guard := some (2, false) }) (v := ?_) rfl (by kernel_rfl) (by kernel_rfl) (by kernel_rfl) (fun _ _ _ h => h) (Or.inl ⟨by rfl, ?_⟩) hHeld ?_
        rotate_left
        · intro w' hSw
          (try dsimp only at hSw)
          go_simp
          try with_reducible rfl
        try simp only [Act.put, List.setIfInBounds_toArray, List.set_cons_zero, List.set_cons_succ]
        refine wpAnyH_ready (rs := [12]) (by kernel_rfl) (by simp) ?_
        refine AllReadyH.cons (o := { dst := some 57, op := Op.call { callee := Callee.value (Operand.func 17), args := #[Operand.tmp 52, Operand.tmp 56], argTypes := #[54, 49] }, type := 4, pos := "l4_store.go:68", after := #[{ on := 7, ground := Ground.data }, { on := 11, ground := Ground.data }, { on := 2, ground := Ground.chain }, { on := 2, ground := Ground.guard }], guard := some (2, false) }) rfl (fun K hK => ?_) AllReadyH.nil
        go_simp
        refine (hRow).mono ?_
        rintro e w3 ⟨rfl, hb3⟩
        have hb3' := below_undrew hb3
        have hT3 := hT2.trans (hb3'.mono (by omega))
        obtain ⟨p0', p1', hw3, hz3⟩ := TB w3 hT3
        obtain ⟨c0', c1', c2'⟩ := hcs w3 hw3
        obtain ⟨t0', t1', t2'⟩ := hts w3 hw3
        refine hK.out _ _ ⟨p0', p1', t0', t1', t2', c0', c1', c2'⟩ (fun hHeld => ?_)
        clear hK K
        try simp only [Act.put, List.setIfInBounds_toArray, List.set_cons_zero, List.set_cons_succ]
        refine wpAnyH_take (i := 13) (oi := { dst := some 58, op := Op.unOp UnOp.not 4 (Operand.tmp 57), type := 4, pos := "l4_store.go:68", after := #[{ on := 12, ground := Ground.data }, { on := 2, ground := Ground.guard }], guard := some (2, false) }) (v := ?_) rfl (by kernel_rfl) (by kernel_rfl) (by kernel_rfl) (fun _ _ _ h => h) (Or.inl ⟨by rfl, ?_⟩) hHeld ?_
        rotate_left
        · intro w' hSw
          (try dsimp only at hSw)
          go_simp
          try with_reducible rfl
        try simp only [Act.put, List.setIfInBounds_toArray, List.set_cons_zero, List.set_cons_succ]
        refine wpAnyH_take (i := 14) (oi := { dst := some 59, op := Op.pick (Operand.tmp 47) (Operand.const (Value.bool true)) (Operand.tmp 58), type := 4, pos := "l4_store.go:68", after := #[{ on := 2, ground := Ground.data }, { on := 13, ground := Ground.data }], guard := none }) (v := ?_) rfl (by kernel_rfl) (by kernel_rfl) (by kernel_rfl) (fun _ _ _ h => h) (Or.inl ⟨by rfl, ?_⟩) hHeld ?_
        rotate_left
        · intro w' hSw
          (try dsimp only at hSw)
          go_simp
          try with_reducible rfl
        try simp only [Act.put, List.setIfInBounds_toArray, List.set_cons_zero, List.set_cons_succ]
        refine wpAnyH_take (i := 15) (oi := { dst := some 60, op := Op.move (Operand.tmp 59), type := 4, pos := "l4_store.go:68", after := #[{ on := 14, ground := Ground.data }, { on := 12, ground := Ground.chain }], guard := none }) (v := ?_) rfl (by kernel_rfl) (by kernel_rfl) (by kernel_rfl) (fun _ _ _ h => h) (Or.inl ⟨by rfl, ?_⟩) hHeld ?_
        rotate_left
        · intro w' hSw
          (try dsimp only at hSw)
          go_simp
          try with_reducible rfl
        try simp only [Act.put, List.setIfInBounds_toArray, List.set_cons_zero, List.set_cons_succ]
        refine wpAnyH_take (i := 16) (oi := { dst := some 61, op := Op.move (Operand.tmp 5), type := 3, pos := "l4_store.go:68", after := #[{ on := 15, ground := Ground.guard }], guard := some (15, false) }) (v := ?_) rfl (by kernel_rfl) (by kernel_rfl) (by kernel_rfl) (fun _ _ _ h => h) (Or.inl ⟨by rfl, ?_⟩) hHeld ?_
        rotate_left
        · intro w' hSw
          (try dsimp only at hSw)
          go_simp
          try with_reducible rfl
        try simp only [Act.put, List.setIfInBounds_toArray, List.set_cons_zero, List.set_cons_succ]
        refine wpAnyH_take (i := 17) (oi := { dst := some 62, op := Op.binOp BinOp.gtr 3 (Operand.tmp 61) (Operand.const (Value.int IntKind.i64 0)) 3, type := 4, pos := "l4_store.go:68", after := #[{ on := 16, ground := Ground.data }, { on := 15, ground := Ground.guard }], guard := some (15, false) }) (v := ?_) rfl (by kernel_rfl) (by kernel_rfl) (by kernel_rfl) (fun _ _ _ h => h) (Or.inl ⟨by rfl, ?_⟩) hHeld ?_
        rotate_left
        · intro w' hSw
          (try dsimp only at hSw)
          go_simp
          try with_reducible rfl
        try simp only [Act.put, List.setIfInBounds_toArray, List.set_cons_zero, List.set_cons_succ]
        refine wpAnyH_take (i := 18) (oi := { dst := some 63, op := Op.move (Operand.tmp 62), type := 4, pos := "l4_store.go:68", after := #[{ on := 17, ground := Ground.data }, { on := 15, ground := Ground.chain }, { on := 15, ground := Ground.guard }], guard := some (15, false) }) (v := ?_) rfl (by kernel_rfl) (by kernel_rfl) (by kernel_rfl) (fun _ _ _ h => h) (Or.inl ⟨by rfl, ?_⟩) hHeld ?_
        rotate_left
        · intro w' hSw
          (try dsimp only at hSw)
          go_simp
          try with_reducible rfl
        try simp only [Act.put, List.setIfInBounds_toArray, List.set_cons_zero, List.set_cons_succ]
        refine wpAnyH_take (i := 19) (oi := { dst := some 64, op := Op.move (Operand.tmp 6), type := 3, pos := "l4_store.go:68", after := #[{ on := 18, ground := Ground.guard }], guard := some (18, true) }) (v := undef) rfl (by kernel_rfl) (by kernel_rfl) (by kernel_rfl) (fun _ _ _ h => h) (Or.inr ⟨by rfl, rfl⟩) hHeld ?_
        try simp only [Act.put, List.setIfInBounds_toArray, List.set_cons_zero, List.set_cons_succ]
        refine wpAnyH_take (i := 20) (oi := { dst := some 65, op := Op.binOp BinOp.eql 3 (Operand.tmp 64) (Operand.const (Value.int IntKind.i64 0)) 3, type := 4, pos := "l4_store.go:68", after := #[{ on := 19, ground := Ground.data }, { on := 18, ground := Ground.guard }], guard := some (18, true) }) (v := undef) rfl (by kernel_rfl) (by kernel_rfl) (by kernel_rfl) (fun _ _ _ h => h) (Or.inr ⟨by rfl, rfl⟩) hHeld ?_
        try simp only [Act.put, List.setIfInBounds_toArray, List.set_cons_zero, List.set_cons_succ]
        refine wpAnyH_take (i := 21) (oi := { dst := some 66, op := Op.pick (Operand.tmp 63) (Operand.tmp 65) (Operand.const (Value.bool false)), type := 4, pos := "l4_store.go:68", after := #[{ on := 18, ground := Ground.data }, { on := 20, ground := Ground.data }, { on := 15, ground := Ground.guard }], guard := some (15, false) }) (v := ?_) rfl (by kernel_rfl) (by kernel_rfl) (by kernel_rfl) (fun _ _ _ h => h) (Or.inl ⟨by rfl, ?_⟩) hHeld ?_
        rotate_left
        · intro w' hSw
          (try dsimp only at hSw)
          go_simp
          try with_reducible rfl
        try simp only [Act.put, List.setIfInBounds_toArray, List.set_cons_zero, List.set_cons_succ]
        refine wpAnyH_take (i := 22) (oi := { dst := some 67, op := Op.pick (Operand.tmp 60) (Operand.const (Value.bool true)) (Operand.tmp 66), type := 4, pos := "l4_store.go:68", after := #[{ on := 15, ground := Ground.data }, { on := 21, ground := Ground.data }], guard := none }) (v := ?_) rfl (by kernel_rfl) (by kernel_rfl) (by kernel_rfl) (fun _ _ _ h => h) (Or.inl ⟨by rfl, ?_⟩) hHeld ?_
        rotate_left
        · intro w' hSw
          (try dsimp only at hSw)
          go_simp
          try with_reducible rfl
        try simp only [Act.put, List.setIfInBounds_toArray, List.set_cons_zero, List.set_cons_succ]
        refine wpAnyH_done (by kernel_rfl) ?_ _
        go_wp2_with fail
        go_roundw
        case rel => exact ⟨k + 1, by omega, by go_num, by first | exact hT3 | exact hT3.drew | exact below_drews hT3 _, HQ.out⟩
        case measure => simp [intOf]; omega
      have d0 : decide ((0 : Int) < (k : Int)) = true := by simp; omega
      have d1 : decide (0 < k) = true := by simp; omega
      have HO3 : Hid (oneS ⟨name, types⟩ rs k = (!((n : Int) == 0) && !decide ((n : Int) < tIx ⟨name, types⟩ (rth rs (k - 1)).type) && !((tIx ⟨name, types⟩ (rth rs (k - 1)).type == (n : Int)) && decide ((rth rs k).id ≤ (rth rs (k - 1)).id)))) := by show _ = _; rw [HO2.out, decide_eq_false hk0]; rfl
      clear HO2
      go_cut [67] (fun r wx => r = .bool ((n : Int) == 0) ∧ Below (w.heap.size + 1) X wx)
      case first =>
        go_region_held3 (fun w' => w'.cell? ⟨w.heap.size, 0, none⟩ = some (.string name) ∧ w'.cell? ⟨w.heap.size, 1, none⟩ = some (.slice (some ⟨tb, toff, none⟩) types.length tc) ∧ w'.cell? ⟨tb, toff + n * 3, none⟩ = some (.string (tth types n).name) ∧ w'.cell? ⟨tb, toff + n * 3 + 1, none⟩ = some (.string (tth types n).key) ∧ w'.cell? ⟨tb, toff + n * 3 + 2, none⟩ = some (.slice fa (tth types n).fields.length fc) ∧ w'.cell? ⟨b, off + k * 3, none⟩ = some (.string (rth rs k).type) ∧ w'.cell? ⟨b, off + k * 3 + 1, none⟩ = some (.int .i64 (rth rs k).id) ∧ w'.cell? ⟨b, off + k * 3 + 2, none⟩ = some (.slice ca (rth rs k).cells.length cc)) (go_keep)
          (first
            | (
              go_at_call 17
              refine hRow.mono ?_
              rintro e w3 ⟨rfl, hb3⟩
              have hb3' := below_undrew hb3
              have hT3 := hT2.trans (hb3'.mono (by omega))
              obtain ⟨p0', p1', hw3, hz3⟩ := TB w3 hT3
              obtain ⟨c0', c1', c2'⟩ := hcs w3 hw3
              obtain ⟨t0', t1', t2'⟩ := hts w3 hw3))
        all_goals
          go_wp2_with fail
          go_meet
          case rel => exact ⟨rfl, hT3⟩
      case rest =>
      obtain ⟨rfl, hT3⟩ := hcut
      obtain ⟨w3, rfl⟩ : ∃ x, x = wc := ⟨wc, rfl⟩
      clear p0 p1 c0 c1 c2 t0 t1 t2 hRow hw2 hz2 hT2 hTR hts
      obtain ⟨p0, p1, hw3, hz3⟩ := TB w3 hT3
      cases hn00 : ((n : Int) == 0)
      case true =>
        have HQ : Hid (storeS ⟨name, types⟩ rs = false) := HF.out (by rw [HO3.out, hn00]; rfl)
        clear HF HN HO3
        go_wp2_with fail
        go_ret
        exact ⟨ret_bool HQ.out.symm, hw3⟩
      obtain ⟨j, hj⟩ : ∃ j, j = k - 1 := ⟨_, rfl⟩
      rw [← hj] at HO3
      have hjl : j < rs.length := by omega
      have hji : (j : Int) < (rs.length : Int) := by omega
      have hwr : IntKind.i64.wrap ((k : Int) - 1) = (j : Int) := by rw [IntWalk.i64_in _ (by omega)]; omega
      obtain ⟨b3, off3, ca3, cc3, e3, -, hcj⟩ := hRs.at hB j hjl
      simp only [Option.some.injEq, Addr.mk.injEq, and_true] at e3
      obtain ⟨rfl, rfl⟩ := e3
      obtain ⟨y0, y1, y2⟩ := hcj w3 hw3
      have hkj : (k : Int) - 1 = (j : Int) := by omega
      have hwj : IntKind.i64.wrap (j : Int) = (j : Int) := IntWalk.i64_in _ (by omega)
      have hj0 : (0 : Int) ≤ (j : Int) := by omega
      clear hj hk0
      have hL2 : Calls Tryz.prog 16 #[.agg #[.string name, .slice (some ⟨tb, toff, none⟩) types.length tc], .string (rth rs j).type] w3.drew fun e w' => e = .returned (.int .i64 (tIx ⟨name, types⟩ (rth rs j).type)) ∧ Below w3.drew.heap.size w3.drew w' := l2Type_any ⟨name, types⟩ w3.drew B _ (rth rs j).type (hP'.under (hw3.drew.mono hB)) (by simp; omega)
      generalize tIx ⟨name, types⟩ (rth rs j).type = bx at hL2 HO3
      go_wp2_with fail
      go_cut [7] (fun r wx => r = .int .i64 bx ∧ Below (w.heap.size + 1) X wx)
      case first =>
        go_region_held3 (fun w' => w'.cell? ⟨w.heap.size, 0, none⟩ = some (.string name) ∧ w'.cell? ⟨w.heap.size, 1, none⟩ = some (.slice (some ⟨tb, toff, none⟩) types.length tc) ∧ w'.cell? ⟨b, off + j * 3, none⟩ = some (.string (rth rs j).type)) (go_keep)
          (first
            | (
              go_at_call 16
              refine hL2.mono ?_
              rintro e w4 ⟨rfl, hb4⟩
              have hT4 := hT3.trans ((below_undrew hb4).mono (by omega))
              obtain ⟨p0', p1', hw4, hz4⟩ := TB w4 hT4
              obtain ⟨y0', y1', y2'⟩ := hcj w4 hw4))
        all_goals
          go_wp2_with fail
          go_meet
          case rel => exact ⟨rfl, hT4⟩
      case rest =>
      obtain ⟨rfl, hT4⟩ := hcut
      obtain ⟨w4, rfl⟩ : ∃ x, x = wc := ⟨wc, rfl⟩
      clear p0 p1 y0 y1 y2 hL2 hw3 hz3 hT3
      obtain ⟨p0, p1, hw4, hz4⟩ := TB w4 hT4
      obtain ⟨y0, y1, y2⟩ := hcj w4 hw4
      obtain ⟨c0, c1, c2⟩ := hcs w4 hw4
      rw [hn00] at HO3
      by_cases hbn : (n : Int) < bx
      · have hbn' : decide ((n : Int) < bx) = true := by simpa using hbn
        have HQ : Hid (storeS ⟨name, types⟩ rs = false) := HF.out (by rw [HO3.out, hbn']; rfl)
        clear HF HN HO3
        go_wp2_with fail
        go_quiet (fail)
        go_wp2_with fail
        go_ret
        exact ⟨ret_bool HQ.out.symm, below_drews hw4 _⟩
      have hbn' : decide ((n : Int) < bx) = false := by simpa using hbn
      rw [hbn'] at HO3
      cases hbe : (bx == (n : Int))
      · have HQ : Hid (allTo (oneS ⟨name, types⟩ rs) (k + 1) = true) := HN.out (by rw [HO3.out, hbe]; rfl)
        clear HF HN HO3
        go_wp2_with fail
        go_quiet (fail)
        go_wp2_with fail
        go_roundw
        case rel => exact ⟨k + 1, by omega, by go_num, below_drews hT4 _, HQ.out⟩
        case measure => simp [intOf]; omega
      rw [hbe] at HO3
      by_cases hle : (rth rs k).id ≤ (rth rs j).id
      · have hle' : decide ((rth rs k).id ≤ (rth rs j).id) = true := by simpa using hle
        have HQ : Hid (storeS ⟨name, types⟩ rs = false) := HF.out (by rw [HO3.out, hle']; rfl)
        clear HF HN HO3
        go_wp2_with fail
        go_quiet (fail)
        go_wp2_with fail
        go_ret
        exact ⟨ret_bool HQ.out.symm, below_drews hw4 _⟩
      · have hle' : decide ((rth rs k).id ≤ (rth rs j).id) = false := by simpa using hle
        have HQ : Hid (allTo (oneS ⟨name, types⟩ rs) (k + 1) = true) := HN.out (by rw [HO3.out, hle']; rfl)
        clear HF HN HO3
        go_wp2_with fail
        go_quiet (fail)
        go_wp2_with fail
        go_roundw
        case rel => exact ⟨k + 1, by omega, by go_num, below_drews hT4 _, HQ.out⟩
        case measure => simp [intOf]; omega
    · go_wp2_with fail
      go_ret
      have e : k = rs.length := by omega
      exact ⟨ret_bool (by rw [HSR.out, ← e, HP.out]), hw0⟩
end Go.Proofs.YtjpabpkfdahdhaaGreat
