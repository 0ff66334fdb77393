import Derived.Test.YtokmgbidmnanpaaGreatDoorB28
import Derived.Test.YtokmgbidmnanpaaGreatDoorB11
import Derived.Test.YtokmgbidmnanpaaGreatDoorB26
import Derived.Test.YtokmgbidmnanpaaGreatDoorB25
set_option linter.unusedSimpArgs false
set_option linter.unusedVariables false
namespace Go.Proofs.YtokmgbidmnanpaaGreatDoor
open Go.RowKit
def badAt (p : Pt) : Nat → Nat → Nat
  | k, 0 => k
  | k, n + 1 => if typeCode p k = 0 then badAt p (k + 1) n else k
def badT (p : Pt) : Nat := badAt p 0 p.types.length
end Go.Proofs.YtokmgbidmnanpaaGreatDoor
namespace Go.Proofs.YtokmgbidmnanpaaGreatDoor
open Go.RowKit
def okP (p : Pt) : Bool := !(decide (5 < p.types.length)) && nameB p.name && hasRootB p && !(decide (badT p < p.types.length)) && !(decide (1500 < (partL p).length))
theorem typeCode_bad (p : Pt) : ∀ n k, badAt p k n < k + n → typeCode p (badAt p k n) ≠ 0
  | 0, k, h => by simp [badAt] at h
  | n + 1, k, h => by
    rw [badAt] at h ⊢
    by_cases e : typeCode p k = 0
    · rw [if_pos e] at h ⊢; exact typeCode_bad p n (k + 1) (by omega)
    · rw [if_neg e]; exact e
end Go.Proofs.YtokmgbidmnanpaaGreatDoor
namespace Go.Proofs.YtokmgbidmnanpaaGreatDoor
open Go.RowKit
theorem sum_change (f g : Nat → Nat) (k : Nat) (h : ∀ i, i ≠ k → f i = g i) : ∀ n, k < n → ((List.range n).map f).sum + g k = ((List.range n).map g).sum + f k
  | 0, hk => absurd hk (Nat.not_lt_zero _)
  | n + 1, hk => by
    simp only [List.range_succ, List.map_append, List.map_cons, List.map_nil, List.sum_append, List.sum_cons, List.sum_nil, Nat.add_zero]
    by_cases e : k = n
    · subst e
      have : (List.range k).map f = (List.range k).map g := List.map_congr_left fun i hi => h i (by have := List.mem_range.1 hi; omega)
      rw [this]
      omega
    · have ih := sum_change f g k h n (by omega)
      have := h n (fun x => e x.symm)
      omega
theorem sum_same (f g : Nat → Nat) (n : Nat) (h : ∀ i, i < n → f i = g i) : ((List.range n).map f).sum = ((List.range n).map g).sum := by
  rw [List.map_congr_left fun i hi => h i (List.mem_range.1 hi)]
theorem ofB_ge (f : F) : f.of.size ≤ (ofB f).size := by
  unfold ofB; split <;> split <;> (first | simp only [ByteArray.size_append, sz_lit, List.size_toArray, List.length_cons, List.length_nil] | skip) <;> omega
theorem markB_ge (f : F) : f.name.size + f.of.size ≤ (markB f).size := by
  have := ofB_ge f
  unfold markB shaB hidB farB headB
  split <;> split <;> split <;> split <;> simp only [ByteArray.size_append, sz_lit, List.size_toArray, List.length_cons, List.length_nil] <;> omega
theorem lineTo_ge (f : F) : ∀ k, f.name.size + f.of.size + k + sumTo f.needs k ≤ (lineTo f k).size
  | 0 => by have := markB_ge f; simp only [lineTo, sumTo]; simp; omega
  | k + 1 => by
    have := lineTo_ge f k
    rw [lineTo, sumTo_succ]
    simp only [ByteArray.size_append, sz_lit, List.size_toArray, List.length_cons, List.length_nil]
    omega
theorem lineB_ge (f : F) : szF f + 1 ≤ (lineB f).data.toList.length := by
  have h1 := lineTo_ge f f.needs.length
  have h2 : szF f = f.name.size + f.of.size + (f.needs.length + sumTo f.needs f.needs.length) := rfl
  rw [tl, lineB, ByteArray.size_append]
  have h3 : (⟨#[10]⟩ : ByteArray).size = 1 := rfl
  omega
theorem fieldsL_ge (fs : List F) : ∀ n, szFsTo fs n + n ≤ (fieldsL fs n).length
  | 0 => by simp [fieldsL, szFsTo]
  | n + 1 => by
    have h1 := fieldsL_ge fs n
    have h2 := lineB_ge (fth fs n)
    rw [fieldsL, List.length_append, szFsTo_succ]
    omega
theorem typesL_ge (ts : List T) (hk : ∀ i, (tth ts i).key.size ≤ (keyL (tth ts i)).length) : ∀ n, szTsTo ts n + n ≤ (typesL ts n).length
  | 0 => by simp [typesL, szTsTo]
  | n + 1 => by
    have h1 := typesL_ge ts hk n
    have h3 := fieldsL_ge (tth ts n).fields (tth ts n).fields.length
    have h4 : szT (tth ts n) = (tth ts n).name.size + (tth ts n).key.size + ((tth ts n).fields.length + szFsTo (tth ts n).fields (tth ts n).fields.length) := rfl
    have h5 := hk n
    have h2 : ([116, 121, 112, 101, 32] : List UInt8).length = 5 := rfl
    have h6 : ([10] : List UInt8).length = 1 := rfl
    rw [typesL, List.length_append, List.length_append, szTsTo_succ, typeHeadL, List.length_append, List.length_append, List.length_append, tl]
    omega
theorem keyL_ge (t : T) : t.key.size ≤ (keyL t).length := by
  unfold keyL
  split
  · rename_i h
    have h0 : t.key.toList = [] := List.isEmpty_iff.1 h
    have h1 : t.key.data.toList = [] := by rw [← ByteArray.toList_eq]; exact h0
    rw [← tl, h1]
    exact Nat.le_refl _
  · rw [List.length_append, tl]; omega
theorem partL_ge (p : Pt) : szP p ≤ (partL p).length := by
  have h1 := typesL_ge p.types (fun i => keyL_ge _) p.types.length
  have h2 : szP p = p.name.size + (p.types.length + szTsTo p.types p.types.length) := rfl
  rw [partL, partHeadL, List.length_append, List.length_append, List.length_append, tl]
  omega
theorem okP_sz (p : Pt) (h : okP p = true) : szP p ≤ 1500 ∧ p.types.length ≤ 5 := by
  have h1 := partL_ge p
  unfold okP at h
  simp only [Bool.and_eq_true, Bool.not_eq_true', decide_eq_false_iff_not] at h
  omega
end Go.Proofs.YtokmgbidmnanpaaGreatDoor
namespace Go.Proofs.YtokmgbidmnanpaaGreatDoor
open Go.RowKit
set_option maxHeartbeats 3200000 in
theorem l2Write_any (p : Pt) (w : World) (B : Nat) (v : Value) (hP : PRep w (· < B) p v) (hB : B ≤ w.heap.size) (hz : szP p ≤ 1048576) :
    Calls Tryz.prog 76 #[v] w fun e w' => e = .returned (.string ⟨(partL p).toArray⟩) ∧ Below w.heap.size w w' := by
  have hP' := hP
  obtain ⟨pname, types⟩ := p
  obtain ⟨ta, tc, rfl, hK, hnc, hpn⟩ := hP
  simp only at hK hnc hpn hP'
  have h56 := hK.1
  have hpl := partL_len ⟨pname, types⟩
  have hl2 : (partHeadL ⟨pname, types⟩).length + (typesL types types.length).length ≤ 34603020 := by rw [← List.length_append]; have : (partHeadL ⟨pname, types⟩ ++ typesL types types.length).length ≤ _ := hpl; omega
  have hpz : pname.size ≤ 1048576 := by have : pname.size + szTs types ≤ 1048576 := hz; omega
  have HP0 : Hid (partL ⟨pname, types⟩ = partHeadL ⟨pname, types⟩ ++ typesL types types.length) := rfl
  have HH : Hid ((⟨#[112, 97, 114, 116, 32]⟩ ++ pname ++ ⟨#[10]⟩ : ByteArray) = ⟨(partHeadL ⟨pname, types⟩ ++ typesL types 0).toArray⟩) := by show _ = _; apply ByteArray.ext; apply Array.toList_inj.1; rw [append_toList, append_toList, typesL, List.append_nil]; rfl
  have b1 : 5 + pname.size ≤ 9223372036854775807 := by omega
  have b2 : 5 + pname.size + 1 ≤ 9223372036854775807 := by omega
  have PC : ∀ W, Below (w.heap.size + 1) (w.alloc (.cells #[.string pname, .slice ta types.length tc] 43)) W → W.cell? ⟨w.heap.size, 1, none⟩ = some (.slice ta types.length tc) := fun W h => (h.cell (p := ⟨w.heap.size, 1, none⟩) (by show w.heap.size < _; omega)).trans (box_new _ _ 1 (by simp))
  go_enter Tryz.func76, Tryz.ntmps76
  go_wp2_with fail
  go_loopw [3, 4] (fun o i wr => ∃ k : Nat, ∃ x : ByteArray, k ≤ types.length ∧ i = .int .i64 k ∧ o = .string x ∧ Hid (x.data.toList = partHeadL ⟨pname, types⟩ ++ typesL types k) ∧ Below (w.heap.size + 1) (w.alloc (.cells #[.string pname, .slice ta types.length tc] 43)) wr) (fun _ i _ => types.length - (intOf i).toNat)
  case atStart => exact ⟨0, _, Nat.zero_le _, rfl, rfl, by show _ = _; rw [HH.out], Below.refl _ _⟩
  case round =>
    obtain ⟨k, x, hk, rfl, rfl, HX, hbl⟩ := hrel
    obtain ⟨w0, rfl⟩ : ∃ x, x = wr := ⟨wr, rfl⟩
    have hbw : Below w.heap.size w w0 := (below_box w _).trans (hbl.mono (by omega))
    have pc := PC w0 hbl
    have hz0 := hbl.size
    simp at hz0
    by_cases hlt : k < types.length
    · obtain ⟨b, off, fa, fc, rfl, htr, hcs⟩ := hK.at hB k hlt
      obtain ⟨c0, c1, c2⟩ := hcs w0 hbw
      obtain ⟨fa', fc', e0, e1, e2, hfs, hffc, hs1, hs2⟩ := htr.parts
      simp only [Value.slice.injEq] at e2
      obtain ⟨rfl, -, rfl⟩ := e2
      have hf56 := hfs.1
      have hszT := szT_le ⟨pname, types⟩ k hlt hz
      simp only at hszT
      have hszT2 : (tth types k).name.size + (tth types k).key.size + szFs (tth types k).fields ≤ 1048576 := hszT
      have hlk := typesL_le types (k + 1) _ hlt
      rw [typesL, List.length_append, List.length_append] at hlk
      have hxs : x.size = (partHeadL ⟨pname, types⟩).length + (typesL types k).length := by rw [← tl, HX.out, List.length_append]
      have b3 : x.size + 5 ≤ 9223372036854775807 := by omega
      have b4 : x.size + 5 + (tth types k).name.size ≤ 9223372036854775807 := by omega
      have b5 : x.size + 5 + (tth types k).name.size + 5 ≤ 9223372036854775807 := by omega
      have b6 : x.size + 5 + (tth types k).name.size + 5 + (tth types k).key.size ≤ 9223372036854775807 := by omega
      have b7 : x.size + 5 + (tth types k).name.size + 5 + (tth types k).key.size + 1 ≤ 9223372036854775807 := by omega
      have b8 : x.size + 5 + (tth types k).name.size + 1 ≤ 9223372036854775807 := by omega
      have HTY : Hid (typeHeadL (tth types k) = [116, 121, 112, 101, 32] ++ (tth types k).name.data.toList ++ keyL (tth types k) ++ [10]) := rfl
      have hk0 := heap_alloc_new w0 (.cells #[.string (tth types k).name, .string (tth types k).key, .slice fa (tth types k).fields.length fc] 52)
      clear hcs htr e0 e1 hxs
      cases hke : (tth types k).key.toList.isEmpty
      · have hkl : keyL (tth types k) = [32, 107, 101, 121, 32] ++ (tth types k).key.data.toList := by rw [keyL, if_neg (by rw [hke]; simp)]
        go_wp2_with fail
        have HTH : Hid ((x ++ ⟨#[116, 121, 112, 101, 32]⟩ ++ (tth types k).name ++ ⟨#[32, 107, 101, 121, 32]⟩ ++ (tth types k).key ++ ⟨#[10]⟩ : ByteArray).data.toList = partHeadL ⟨pname, types⟩ ++ typesL types k ++ typeHeadL (tth types k) ++ fieldsL (tth types k).fields 0) := by
          show _ = _
          rw [append_toList, append_toList, append_toList, append_toList, append_toList, HX.out, fieldsL, List.append_nil, HTY.out, hkl]; simp
        have TC : ∀ W : World, W.heap[w0.heap.size]? = some (.cells #[.string (tth types k).name, .string (tth types k).key, .slice fa (tth types k).fields.length fc] 52 (0, 0)) → W.cell? ⟨w0.heap.size, 2, none⟩ = some (.slice fa (tth types k).fields.length fc) := fun W h => (box_at h 2 (by simp)).1
        go_loopw [3, 6] (fun o i w2 => ∃ j : Nat, ∃ y : ByteArray, j ≤ (tth types k).fields.length ∧ i = .int .i64 j ∧ o = .string y ∧ Hid (y.data.toList = partHeadL ⟨pname, types⟩ ++ typesL types k ++ typeHeadL (tth types k) ++ fieldsL (tth types k).fields j) ∧ Below (w.heap.size + 1) (w.alloc (.cells #[.string pname, .slice (some ⟨b, off, none⟩) types.length tc] 43)) w2 ∧ w2.heap[w0.heap.size]? = some (.cells #[.string (tth types k).name, .string (tth types k).key, .slice fa (tth types k).fields.length fc] 52 (0, 0))) (fun _ i _ => (tth types k).fields.length - (intOf i).toNat)
        case atStart => exact ⟨0, _, Nat.zero_le _, rfl, rfl, HTH, hbl.alloc (by omega) _, hk0⟩
        case round =>
          obtain ⟨j, y, hj, rfl, rfl, HY, hbl5, hk5⟩ := hrel
          obtain ⟨w5, rfl⟩ : ∃ x, x = wr := ⟨wr, rfl⟩
          have hw5 : Below w.heap.size w w5 := (below_box w _).trans (hbl5.mono (by omega))
          have z5 : w0.heap.size < w5.heap.size := (Array.getElem?_eq_some_iff.1 hk5).1
          have t5 := TC w5 hk5
          by_cases hjl : j < (tth types k).fields.length
          · obtain ⟨b2, off2, na, nc, rfl, hfr2, hcs2⟩ := hfs.at hB j hjl
            obtain ⟨c0, c1, c2, c3, c4, c5, c6, c7⟩ := hcs2 w5 hw5
            have hsf := szF_le (tth types k) j hjl hszT
            have hln := fieldsL_le (tth types k).fields (j + 1) _ hjl
            rw [fieldsL, List.length_append] at hln
            have hys : y.size = (partHeadL ⟨pname, types⟩).length + (typesL types k).length + (typeHeadL (tth types k)).length + (fieldsL (tth types k).fields j).length := by rw [← tl, HY.out, List.length_append, List.length_append, List.length_append]
            have b9 : y.size + (lineB (fth (tth types k).fields j)).size ≤ 9223372036854775807 := by rw [tl] at hln; omega
            obtain ⟨-, -, -, -, -, -, -, -, hSt, hncc, -, -⟩ := hfr2.vals
            have hwl := l2Line_one (fth (tth types k).fields j).name (fth (tth types k).fields j).of (fth (tth types k).fields j).list (fth (tth types k).fields j).must (fth (tth types k).fields j).far (fth (tth types k).fields j).hidden (fth (tth types k).fields j).shared (fth (tth types k).fields j).needs w5 na nc ((hSt.under (hw5.mono hB)).sub fun q hq => by omega) hsf
            rw [show (⟨(fth (tth types k).fields j).name, (fth (tth types k).fields j).of, (fth (tth types k).fields j).list, (fth (tth types k).fields j).must, (fth (tth types k).fields j).far, (fth (tth types k).fields j).hidden, (fth (tth types k).fields j).shared, (fth (tth types k).fields j).needs⟩ : F) = fth (tth types k).fields j from rfl] at hwl
            clear hcs2 hys hln
            go_wp2_with (
              go_at_call 118
              refine hwl.mono ?_
              rintro e w6 ⟨rfl, hb6⟩)
            go_roundw
            case rel => exact ⟨j + 1, _, by omega, by go_num, rfl, by show _ = _; rw [fieldsL, append_toList, HY.out]; simp only [List.append_assoc], hbl5.trans (hb6.mono (by omega)), (hb6.block _ z5).trans hk5⟩
            case measure => simp [intOf]; omega
          · go_wp2_with fail
            go_roundw
            case rel =>
              have ej : j = (tth types k).fields.length := by omega
              exact ⟨k + 1, y, by omega, by go_num, rfl, by show _ = _; rw [HY.out, typesL, ej]; simp only [List.append_assoc], hbl5⟩
            case measure => simp [intOf]; omega
      · have hkl : keyL (tth types k) = [] := by rw [keyL, if_pos hke]
        go_wp2_with fail
        have HTH : Hid ((x ++ ⟨#[116, 121, 112, 101, 32]⟩ ++ (tth types k).name ++ ⟨#[10]⟩ : ByteArray).data.toList = partHeadL ⟨pname, types⟩ ++ typesL types k ++ typeHeadL (tth types k) ++ fieldsL (tth types k).fields 0) := by
          show _ = _
          rw [append_toList, append_toList, append_toList, HX.out, fieldsL, List.append_nil, HTY.out, hkl]; simp
        have TC : ∀ W : World, W.heap[w0.heap.size]? = some (.cells #[.string (tth types k).name, .string (tth types k).key, .slice fa (tth types k).fields.length fc] 52 (0, 0)) → W.cell? ⟨w0.heap.size, 2, none⟩ = some (.slice fa (tth types k).fields.length fc) := fun W h => (box_at h 2 (by simp)).1
        go_loopw [3, 6] (fun o i w2 => ∃ j : Nat, ∃ y : ByteArray, j ≤ (tth types k).fields.length ∧ i = .int .i64 j ∧ o = .string y ∧ Hid (y.data.toList = partHeadL ⟨pname, types⟩ ++ typesL types k ++ typeHeadL (tth types k) ++ fieldsL (tth types k).fields j) ∧ Below (w.heap.size + 1) (w.alloc (.cells #[.string pname, .slice (some ⟨b, off, none⟩) types.length tc] 43)) w2 ∧ w2.heap[w0.heap.size]? = some (.cells #[.string (tth types k).name, .string (tth types k).key, .slice fa (tth types k).fields.length fc] 52 (0, 0))) (fun _ i _ => (tth types k).fields.length - (intOf i).toNat)
        case atStart => exact ⟨0, _, Nat.zero_le _, rfl, rfl, HTH, hbl.alloc (by omega) _, hk0⟩
        case round =>
          obtain ⟨j, y, hj, rfl, rfl, HY, hbl5, hk5⟩ := hrel
          obtain ⟨w5, rfl⟩ : ∃ x, x = wr := ⟨wr, rfl⟩
          have hw5 : Below w.heap.size w w5 := (below_box w _).trans (hbl5.mono (by omega))
          have z5 : w0.heap.size < w5.heap.size := (Array.getElem?_eq_some_iff.1 hk5).1
          have t5 := TC w5 hk5
          by_cases hjl : j < (tth types k).fields.length
          · obtain ⟨b2, off2, na, nc, rfl, hfr2, hcs2⟩ := hfs.at hB j hjl
            obtain ⟨c0, c1, c2, c3, c4, c5, c6, c7⟩ := hcs2 w5 hw5
            have hsf := szF_le (tth types k) j hjl hszT
            have hln := fieldsL_le (tth types k).fields (j + 1) _ hjl
            rw [fieldsL, List.length_append] at hln
            have hys : y.size = (partHeadL ⟨pname, types⟩).length + (typesL types k).length + (typeHeadL (tth types k)).length + (fieldsL (tth types k).fields j).length := by rw [← tl, HY.out, List.length_append, List.length_append, List.length_append]
            have b9 : y.size + (lineB (fth (tth types k).fields j)).size ≤ 9223372036854775807 := by rw [tl] at hln; omega
            obtain ⟨-, -, -, -, -, -, -, -, hSt, hncc, -, -⟩ := hfr2.vals
            have hwl := l2Line_one (fth (tth types k).fields j).name (fth (tth types k).fields j).of (fth (tth types k).fields j).list (fth (tth types k).fields j).must (fth (tth types k).fields j).far (fth (tth types k).fields j).hidden (fth (tth types k).fields j).shared (fth (tth types k).fields j).needs w5 na nc ((hSt.under (hw5.mono hB)).sub fun q hq => by omega) hsf
            rw [show (⟨(fth (tth types k).fields j).name, (fth (tth types k).fields j).of, (fth (tth types k).fields j).list, (fth (tth types k).fields j).must, (fth (tth types k).fields j).far, (fth (tth types k).fields j).hidden, (fth (tth types k).fields j).shared, (fth (tth types k).fields j).needs⟩ : F) = fth (tth types k).fields j from rfl] at hwl
            clear hcs2 hys hln
            go_wp2_with (
              go_at_call 118
              refine hwl.mono ?_
              rintro e w6 ⟨rfl, hb6⟩)
            go_roundw
            case rel => exact ⟨j + 1, _, by omega, by go_num, rfl, by show _ = _; rw [fieldsL, append_toList, HY.out]; simp only [List.append_assoc], hbl5.trans (hb6.mono (by omega)), (hb6.block _ z5).trans hk5⟩
            case measure => simp [intOf]; omega
          · go_wp2_with fail
            go_roundw
            case rel =>
              have ej : j = (tth types k).fields.length := by omega
              exact ⟨k + 1, y, by omega, by go_num, rfl, by show _ = _; rw [HY.out, typesL, ej]; simp only [List.append_assoc], hbl5⟩
            case measure => simp [intOf]; omega
    · go_wp2_with fail
      have ek : k = types.length := by omega
      have hxe : x = ⟨(partL ⟨pname, types⟩).toArray⟩ := by apply ByteArray.ext; apply Array.toList_inj.1; rw [HX.out, HP0.out, ek]
      go_ret
      exact ⟨by rw [← hxe]; rfl, hbw⟩
end Go.Proofs.YtokmgbidmnanpaaGreatDoor
namespace Go.Proofs.YtokmgbidmnanpaaGreatDoor
open Go.RowKit Go.Shelf Go.Maps
def NewS (B : Nat) (w : World) (ks : List Se) (e : Ending) (w' : World) : Prop := ∃ a c, e = .returned (.slice a ks.length c) ∧ SeReps w' (fun b => b < B ∨ (w.heap.size ≤ b ∧ b < w'.heap.size)) ks a ∧ Below w.heap.size w w'
def RowS (w : World) (ks : List Se) (e : Ending) (w' : World) : Prop := ∃ (es : List El) (v : Value), e = .returned v ∧ es.map El.s = ks ∧ RowP SeReps w.heap.size es v w' ∧ (∀ e ∈ es, ∀ b, e.Q b → w.heap.size ≤ b) ∧ (¬ v = .slice none 0 0) ∧ (∀ e ∈ es, e.s.al.size ≤ maxLen ∧ e.s.name.size ≤ maxLen) ∧ Below w.heap.size w w'
theorem RowS.new {w w' : World} {ks : List Se} {e : Ending} (h : RowS w ks e w') (hl : ks.length ≤ 1000000) : NewS 0 w ks e w' := by
  obtain ⟨es, v, rfl, hm, hr, hq, -, hz, hb⟩ := h
  have hel : es.length = ks.length := by rw [← hm]; simp
  obtain ⟨a, c, e, hRR⟩ := hr.reps (fun _ _ _ _ h => h) (by omega) hz (fun b => b < 0 ∨ (w.heap.size ≤ b ∧ b < w'.heap.size)) (fun b hb => Or.inr hb) (fun e he b hq2 => Or.inr ⟨hq e he b hq2, ((hr.kid e he).2 b hq2).1⟩)
  rw [hm] at hRR
  exact ⟨a, c, by rw [e, hel], hRR, hb⟩
set_option maxRecDepth 20000 in
set_option maxHeartbeats 3200000 in
theorem l3Copy_row : ∀ (f : Nat) (ks : List Se) (w : World) (P : Nat → Prop) (ka : Option Addr) (kc : Nat), FitS f ks → cntTo f ks ks.length ≤ 1000000 → SeReps w P ks ka → (∀ b, P b → b < w.heap.size) →
    Calls Tryz.prog 59 #[.slice ka ks.length kc] w fun e w' => RowS w ks e w' := by
  intro f
  induction f with
  | zero =>
    intro ks w P ka kc hf hcn hR hB
    have e : ks = [] := hf
    subst e
    go_enter Tryz.func59, Tryz.ntmps59
    go_wp2_with fail
    go_loopw [3, 4] (fun o i wr => i = .int .i64 0 ∧ o = .slice (some ⟨w.heap.size, 0, none⟩) 0 0 ∧ wr = w.alloc (.cells #[] 56)) (fun _ _ _ => 0)
    case atStart => exact ⟨rfl, rfl, rfl⟩
    case round =>
      obtain ⟨rfl, rfl, rfl⟩ := hrel
      go_wp2_with fail
      go_ret
      exact ⟨[], _, rfl, rfl, RowP.new w, (fun e he => by cases he), (by simp), (fun e he => by cases he), below_box _ _⟩
  | succ f IH =>
    intro ks w P ka kc hf hcn hR hB
    obtain ⟨i0, hi0, hz0, hz1, hz2⟩ := info_parts info_Sel
    have h72 := hR.1
    have HR := hid_of hR
    clear hR
    go_enter Tryz.func59, Tryz.ntmps59
    go_wp2_with fail
    go_loopw [3, 4] (fun o i wr => ∃ (k : Nat) (es : List El), k ≤ ks.length ∧ i = .int .i64 k ∧ Hid (es.length = k) ∧ Hid (es.map El.s = ks.take k) ∧ Hid (RowP SeReps w.heap.size es o wr) ∧ Hid (∀ e ∈ es, ∀ b, e.Q b → w.heap.size ≤ b) ∧ Hid (¬ o = .slice none 0 0) ∧ Below w.heap.size w wr) (fun _ i _ => ks.length - (intOf i).toNat)
    case atStart => exact ⟨0, [], Nat.zero_le _, rfl, hid_of rfl, hid_of (by simp), hid_of (RowP.new w), hid_of (fun e he => by cases he), hid_of (by simp), below_box _ _⟩
    case round =>
      obtain ⟨k, es, hk, rfl, HEL, HM, HO, HQ, HNN, hb⟩ := hrel
      obtain ⟨w2, rfl⟩ : ∃ x, x = wr := ⟨wr, rfl⟩
      have zb := hb.size
      by_cases hlt : k < ks.length
      case neg =>
        have e : k = ks.length := by omega
        subst e
        have HMM := hid_of (show es.map El.s = ks by rw [HM.out, List.take_length])
        have hlen := kids_len hf hcn
        have HSZ := hid_of (show ∀ e ∈ es, e.s.al.size ≤ maxLen ∧ e.s.name.size ≤ maxLen from fun e he => by
          have hm : e.s ∈ ks := by rw [← HMM.out]; exact List.mem_map.2 ⟨e, he, rfl⟩
          obtain ⟨-, C, -, hr⟩ := HR.out
          obtain ⟨i, hi, ei⟩ := List.mem_iff_getElem.1 hm
          have es1 : sth ks i = e.s := by simp [sth, List.getD_eq_getElem?_getD, hi, ei]
          obtain ⟨-, -, -, -, -, -, -, h1, h2, -⟩ := (hr i hi).pieces
          rw [es1] at h1 h2
          exact ⟨h1, h2⟩)
        obtain ⟨oa, oc, rfl⟩ := HO.out.slice
        go_wp2_with fail
        go_ret
        exact ⟨es, _, rfl, HMM.out, HO.out, HQ.out, HNN.out, HSZ.out, hb⟩
      have hki : (k : Int) < (ks.length : Int) := by omega
      obtain ⟨-, C, hA, hr⟩ := HR.out.mono fun b hb2 => hb.block b (hB b hb2)
      obtain ⟨kb, koff, rfl, hkB, hkc⟩ := hA (by omega)
      have hkW := hB kb hkB
      obtain ⟨sa, sc, e0, e1, e2, e3, e4, hal, hnm, hKids⟩ := (hr k hlt).pieces
      have q0 : w2.cell? ⟨kb, koff + k * 5, none⟩ = some (.string (sth ks k).al) := e0 ▸ hkc k hlt 0 (by omega)
      have q1 : w2.cell? ⟨kb, koff + k * 5 + 1, none⟩ = some (.string (sth ks k).name) := e1 ▸ hkc k hlt 1 (by omega)
      have q2 : w2.cell? ⟨kb, koff + k * 5 + 2, none⟩ = some (.bool (sth ks k).one) := e2 ▸ hkc k hlt 2 (by omega)
      have q3 : w2.cell? ⟨kb, koff + k * 5 + 3, none⟩ = some (.int .i64 (sth ks k).id) := e3 ▸ hkc k hlt 3 (by omega)
      have q4 : w2.cell? ⟨kb, koff + k * 5 + 4, none⟩ = some (.slice sa (sth ks k).kids.length sc) := e4 ▸ hkc k hlt 4 (by omega)
      have HT := hid_of (sth_take ks k hlt)
      have hc1 := cntTo_mono (f + 1) ks (show k + 1 ≤ ks.length by omega)
      rw [cntTo_succ, cntSe_kids] at hc1
      have HIH := hid_of (fun W (hW : Below w2.heap.size w2 W) => (IH (sth ks k).kids W P sa sc (hf k hlt) (by omega) (hKids.mono fun j hj => hW.block j (by have := hB j hj; omega)) (fun j hj => by have := hB j hj; have := hW.size; omega)).mono fun e w' h => h.new (kids_len (hf k hlt) (by omega)))
      have HSZ := hid_of (And.intro hal hnm)
      clear e0 e1 e2 e3 e4 hkc hr hA hKids IH hc1 hal hnm
      generalize sth ks k = s at *
      go_wp2_with fail
      refine (HIH.out _ (below_box w2 _)).mono ?_
      rintro e w3 ⟨a3, c3, rfl, hR3, hb3⟩
      have z3 : w2.heap.size + 1 ≤ w3.heap.size := by have := hb3.size; simpa using this
      have hbk : w3.heap[w2.heap.size]? = some (.cells #[.string s.al, .string s.name, .bool s.one, .int .i64 s.id, .slice sa s.kids.length sc] 56 (0, 0)) := (hb3.block _ (by simp)).trans (heap_alloc_new w2 _)
      have hb3' : Below w2.heap.size w2 w3 := (below_box w2 _).trans (hb3.mono (by simp))
      have p0 : w3.cell? ⟨w2.heap.size, 0, none⟩ = some (.string s.al) := by simp [World.cell?, hbk]
      have p1 : w3.cell? ⟨w2.heap.size, 1, none⟩ = some (.string s.name) := by simp [World.cell?, hbk]
      have p2 : w3.cell? ⟨w2.heap.size, 2, none⟩ = some (.bool s.one) := by simp [World.cell?, hbk]
      have p3 : w3.cell? ⟨w2.heap.size, 3, none⟩ = some (.int .i64 s.id) := by simp [World.cell?, hbk]
      have p4 : w3.cell? ⟨w2.heap.size, 4, none⟩ = some (.slice sa s.kids.length sc) := by simp [World.cell?, hbk]
      have p5 : w3.frozen? ⟨w2.heap.size, 4, none⟩ = false := by simp [World.frozen?, hbk]
      have HR3 := hid_of hR3
      have HB3 := hid_of hb3
      have HBK := hid_of hbk
      clear hR3 hb3 hbk q0 q1 q2 q3 q4 HIH
      obtain ⟨W, hW⟩ : ∃ W, W = w3.setCell ⟨w2.heap.size, 4, none⟩ (.slice a3 s.kids.length c3) := ⟨_, rfl⟩
      have hbW : Below w2.heap.size w2 W := by rw [hW]; exact hb3'.setCell (Nat.le_refl _) _
      have zW : W.heap.size = w3.heap.size := by rw [hW]; simp [World.setCell]
      have HRW := hid_of (HR3.out.mono (w' := W) fun b hq => by
        rw [hW]
        refine Below.heap_setCell _ _ _ _ ?_
        rcases hq with hq | hq
        · omega
        · have := hq.1; simp at this; show b ≠ w2.heap.size; omega)
      have HOW := hid_of (HO.out.keep looks_reps hbW)
      have hrow := HOW.out.row
      obtain ⟨g, cap, rfl⟩ := HO.out.form HNN.out
      have HOL := hid_of (fun j => HO.out.row.lt j)
      have hesl : es.length ≤ 1000000 := by
        have := kids_len (f := f + 1) (ks := ks) hf hcn
        have := HEL.out
        omega
      have hesk : es.length + 1 ≤ 1000000 := by
        have := kids_len (f := f + 1) (ks := ks) hf hcn
        have := HEL.out
        omega
      go_wp2_with (
        at_builtin
        rw [← hW]
        refine wpList_append_own_at _ rfl _ _ 23 rfl w.heap.size 56 i0 zeroSe 5 72 Tryz.underlying23 hi0 hz0 hz1 hz2 rfl (by decide) _ es.length _ rfl (hrow.alloc _) ⟨w3.heap.size, 0, none⟩ 1 1 [.string s.al, .string s.name, .bool s.one, .int .i64 s.id, .slice a3 s.kids.length c3] rfl rfl (by rw [← zW]; exact World.news_of_block (heap_alloc_new W _)) (by intro u hu; simp at hu; rcases hu with rfl | rfl | rfl | rfl | rfl <;> rfl) (by unfold maxLen; omega) (by omega) (by simp; omega) ?_
        intro v' w4 hown hgrow hnn hob
        refine Hid.out ?_)
      refine hid_of ?_
      have hpush := RowP.push looks_reps (HOW.out.keep looks_reps (below_box W _)) ⟨s, a3, c3, fun b => w2.heap.size + 1 ≤ b ∧ b < w3.heap.size⟩ rfl rfl hown hgrow hob (looks_reps _ _ _ _ _ (HRW.out.sub fun b hq => hq.elim (fun h => by omega) (fun h => by simpa using h)) fun b hq => (below_box W _).block b (by omega)) (fun b hq => ⟨by simp; omega, fun e2 => by have := (HOL.out b e2).2; have := hq.1; omega⟩)
      have z4 : w3.heap.size + 1 ≤ w4.heap.size := by have := hgrow.size; simp at this; omega
      have hb4 : Below w.heap.size w w4 := ((hb.trans (hbW.mono zb)).alloc (by omega) _).grown hgrow (by simp; omega) (fun j hj => (HOL.out j hj).1)
      have HP := hid_of hpush
      have HN4 := hid_of (fun e => absurd (hnn.1 e).2 (by decide) : ¬ v' = .slice none 0 0)
      obtain ⟨g4, cap4, rfl⟩ := hpush.form HN4.out
      clear hown hgrow hnn hob hpush
      go_wp2_with fail
      go_roundw
      case measure => simp [intOf]; omega
      case rel =>
        refine ⟨k + 1, _, by omega, by go_num, hid_of (by simp [HEL.out]), hid_of ?_, HP, hid_of ?_, HN4, hb4⟩
        · rw [List.map_append, HM.out, ← HT.out]; rfl
        · intro e he b hq
          rcases List.mem_append.1 he with he | he
          · exact HQ.out e he b hq
          · rw [List.mem_singleton.1 he] at hq
            have := hq.1
            omega
theorem l3Copy_any (f : Nat) (ks : List Se) (w : World) (P : Nat → Prop) (ka : Option Addr) (kc : Nat) (hf : FitS f ks) (hc : cntTo f ks ks.length ≤ 1000000) (hR : SeReps w P ks ka) (hP : ∀ b, P b → b < w.heap.size) :
    Calls Tryz.prog 59 #[.slice ka ks.length kc] w fun e w' => NewS 0 w ks e w' := (l3Copy_row f ks w P ka kc hf hc hR hP).mono fun e w' h => h.new (kids_len hf hc)
end Go.Proofs.YtokmgbidmnanpaaGreatDoor
namespace Go.Proofs.YtokmgbidmnanpaaGreatDoor
open Go.RowKit Go.Shelf Go.Maps
def Cells5 (w : World) (g o : Nat) (s : Se) (a : Option Addr) (c : Nat) : Prop :=
  w.cell? ⟨g, o, none⟩ = some (.string s.al) ∧ w.cell? ⟨g, o + 1, none⟩ = some (.string s.name) ∧ w.cell? ⟨g, o + 2, none⟩ = some (.bool s.one) ∧ w.cell? ⟨g, o + 3, none⟩ = some (.int .i64 s.id) ∧ w.cell? ⟨g, o + 4, none⟩ = some (.slice a s.kids.length c)
def OwnT : Nat → World → (Nat → Prop) → List Se → Option Addr → Prop
  | 0, _, _, ks, _ => ks = []
  | f + 1, w, Q, ks, a => ks.length ≤ 1000000 ∧ (0 < ks.length → ∃ (g : Nat) (R : Nat → Nat → Prop) (A : Nat → Option Addr) (c : Nat → Nat), a = some ⟨g, 0, none⟩ ∧ Q g ∧ (∀ j, w.frozen? ⟨g, j, none⟩ = false) ∧
      (∀ i, i < ks.length → ∀ b, R i b → Q b ∧ b ≠ g) ∧ (∀ i j, i < ks.length → j < ks.length → i ≠ j → ∀ b, R i b → ¬ R j b) ∧
      ∀ i, i < ks.length → Cells5 w g (i * 5) (sth ks i) (A i) (c i) ∧ (sth ks i).al.size ≤ maxLen ∧ (sth ks i).name.size ≤ maxLen ∧ OwnT f w (R i) (sth ks i).kids (A i))
theorem Cells5.keep {w w' : World} {g o : Nat} {s : Se} {a : Option Addr} {c : Nat} (h : Cells5 w g o s a c) (e : w'.heap[g]? = w.heap[g]?) : Cells5 w' g o s a c :=
  ⟨(World.cell?_of_block (a := ⟨g, o, none⟩) e).trans h.1, (World.cell?_of_block (a := ⟨g, o + 1, none⟩) e).trans h.2.1, (World.cell?_of_block (a := ⟨g, o + 2, none⟩) e).trans h.2.2.1, (World.cell?_of_block (a := ⟨g, o + 3, none⟩) e).trans h.2.2.2.1, (World.cell?_of_block (a := ⟨g, o + 4, none⟩) e).trans h.2.2.2.2⟩
theorem OwnT.keep : ∀ {f : Nat} {w w' : World} {Q : Nat → Prop} {ks : List Se} {a : Option Addr}, OwnT f w Q ks a → (∀ b, Q b → w'.heap[b]? = w.heap[b]?) → OwnT f w' Q ks a
  | 0, _, _, _, _, _, h, _ => h
  | f + 1, w, w', Q, ks, a, h, e => ⟨h.1, fun hn => by
    obtain ⟨g, R, A, c, h1, h2, h3, h4, h5, h6⟩ := h.2 hn
    refine ⟨g, R, A, c, h1, h2, fun j => (World.frozen?_of_block (a := ⟨g, j, none⟩) (e g h2)).trans (h3 j), h4, h5, fun i hi => ?_⟩
    obtain ⟨k1, k2, k3, k4⟩ := h6 i hi
    exact ⟨k1.keep (e g h2), k2, k3, k4.keep fun b hb => e b (h4 i hi b hb).1⟩⟩
theorem looks_own (f : Nat) : Looks (OwnT f) := fun w w' Q ks a h e => h.keep e
theorem OwnT.reps : ∀ {f : Nat} {w : World} {Q : Nat → Prop} {ks : List Se} {a : Option Addr}, OwnT f w Q ks a → SeReps w Q ks a
  | 0, w, Q, ks, a, h => by
    have e : ks = [] := h
    subst e
    exact ⟨by simp, fun _ _ => .bool false, fun hn => by simp at hn, fun i hi => by simp at hi⟩
  | f + 1, w, Q, ks, a, h => by
    by_cases hn : 0 < ks.length
    · obtain ⟨g, R, A, c, rfl, h2, h3, h4, h5, h6⟩ := h.2 hn
      refine ⟨by have := h.1; omega, fun i j => [Value.string (sth ks i).al, .string (sth ks i).name, .bool (sth ks i).one, .int .i64 (sth ks i).id, .slice (A i) (sth ks i).kids.length (c i)].getD j (.bool false), fun _ => ⟨g, 0, rfl, h2, fun i hi j hj => ?_⟩, fun i hi => ?_⟩
      · obtain ⟨⟨k0, k1, k2, k3, k4⟩, -⟩ := h6 i hi
        rw [Nat.zero_add]
        rcases j with _ | _ | _ | _ | _ | j
        · exact k0
        · exact k1
        · exact k2
        · exact k3
        · exact k4
        · omega
      · obtain ⟨-, k2, k3, k4⟩ := h6 i hi
        have hk := (OwnT.reps k4).sub fun b hb => (h4 i hi b hb).1
        show SeRep w Q (sth ks i) (.agg #[.string (sth ks i).al, .string (sth ks i).name, .bool (sth ks i).one, .int .i64 (sth ks i).id, .slice (A i) (sth ks i).kids.length (c i)])
        generalize sth ks i = s at *
        have hfin := SeRep.of_kids (s := s.al) (n := s.name) (o := s.one) (id := s.id) (kc := c i) k2 k3 hk
        obtain ⟨x1, x2, x3, x4, x5⟩ := s
        exact hfin
    · have e : ks = [] := by
        cases ks with
        | nil => rfl
        | cons x l => simp at hn
      subst e
      exact ⟨by simp, fun _ _ => .bool false, fun hn => by simp at hn, fun i hi => by simp at hi⟩
theorem RowP.own {f base : Nat} {es : List El} {v : Value} {w : World} (h : RowP (OwnT f) base es v w) (hl : es.length ≤ 1000000) (hs : ∀ e ∈ es, e.s.al.size ≤ maxLen ∧ e.s.name.size ≤ maxLen) (hap : es.Pairwise fun x y => ∀ b, x.Q b → ¬ y.Q b) (Q : Nat → Prop)
    (hQ : ∀ b, (base ≤ b ∧ b < w.heap.size) → Q b) (hQe : ∀ e ∈ es, ∀ b, e.Q b → Q b) : ∃ a c, v = .slice a es.length c ∧ OwnT (f + 1) w Q (es.map El.s) a := by
  rcases h.row.2 with ⟨rfl, h0⟩ | ⟨g, cap, cur, rfl, hb, hh, r⟩
  · have e : es = [] := List.length_eq_zero_iff.1 h0
    subst e
    exact ⟨none, 0, rfl, by simp, fun hn => by simp at hn⟩
  · refine ⟨_, _, rfl, by simpa using hl, fun hn => ⟨g, fun i => if hi : i < es.length then es[i].Q else fun _ => False, fun i => if hi : i < es.length then es[i].ka else none, fun i => if hi : i < es.length then es[i].kc else 0, rfl, hQ g ⟨hb, (Array.getElem?_eq_some_iff.1 hh).1⟩, fun j => h.row.frozenAt j, fun i hi b hq => ?_, fun i j hi hj hij b hq hq2 => ?_, fun i hi => ?_⟩⟩
    · have hi' : i < es.length := by simpa using hi
      simp only [dif_pos hi'] at hq
      have hm := List.getElem_mem hi'
      exact ⟨hQe _ hm b hq, fun e => ((h.kid _ hm).2 b hq).2 (by rw [e]; rfl)⟩
    · have hi' : i < es.length := by simpa using hi
      have hj' : j < es.length := by simpa using hj
      simp only [dif_pos hi'] at hq
      simp only [dif_pos hj'] at hq2
      rw [List.pairwise_iff_getElem] at hap
      rcases Nat.lt_or_gt_of_ne hij with h1 | h1
      · exact hap i j hi' hj' h1 b hq hq2
      · exact hap j i hj' hi' h1 b hq2 hq
    · have hi' : i < es.length := by simpa using hi
      have hm := List.getElem_mem hi'
      have es1 : sth (es.map El.s) i = es[i].s := by simp [sth, List.getD_eq_getElem?_getD, hi']
      have hc : ∀ j, j < 5 → w.cell? ⟨g, i * 5 + j, none⟩ = (es[i]).cells[j]? := fun j hj => by rw [h.row.cellAt (i * 5 + j) (by omega), flat5 es i j hi' hj]
      simp only [dif_pos hi', es1]
      exact ⟨⟨hc 0 (by omega), hc 1 (by omega), hc 2 (by omega), hc 3 (by omega), hc 4 (by omega)⟩, (hs _ hm).1, (hs _ hm).2, (h.kid _ hm).1⟩
structure LI (f base k : Nat) (es : List El) (o : Value) (wr : World) : Prop where
  len : es.length ≤ k
  row : RowP (OwnT f) base es o wr
  low : ∀ e ∈ es, ∀ b, e.Q b → base ≤ b
  ap : es.Pairwise fun x y => ∀ b, x.Q b → ¬ y.Q b
  sz : ∀ e ∈ es, e.s.al.size ≤ maxLen ∧ e.s.name.size ≤ maxLen
theorem LI.nil (f base : Nat) (w : World) : LI f base 0 [] (.slice none 0 0) w := ⟨Nat.le_refl _, RowP.nil _ _, (fun e he => by cases he), List.Pairwise.nil, (fun e he => by cases he)⟩
theorem LI.keep {f base k : Nat} {wr wr' : World} {es : List El} {o : Value} (h : LI f base k es o wr) (hb : Below wr.heap.size wr wr') : LI f base k es o wr' := ⟨h.len, h.row.keep (looks_own f) hb, h.low, h.ap, h.sz⟩
theorem LI.next {f base k : Nat} {wr : World} {es : List El} {o : Value} (h : LI f base k es o wr) : LI f base (k + 1) es o wr := ⟨Nat.le_succ_of_le h.len, h.row, h.low, h.ap, h.sz⟩
theorem LI.push {f base k N : Nat} {wr wr' : World} {es : List El} {o o' : Value} (h : LI f base k es o wr) (e : El) {xs : List Value} (hx : xs = e.cells)
    (hr : wr'.ownsRow base 56 5 o' (es.length + 1) (es.flatMap El.cells ++ xs)) (hg : wr.grownBy wr' o.ownBlock) (ho : o'.ownBlock = o.ownBlock ∨ o'.ownBlock = some wr.heap.size)
    (hk : OwnT f wr e.Q e.s.kids e.ka) (hq : ∀ b, e.Q b → b < wr.heap.size ∧ o.ownBlock ≠ some b) (hlow : ∀ b, e.Q b → base ≤ b ∧ N ≤ b) (hold : ∀ y ∈ es, ∀ b, y.Q b → b < N) (hsz : e.s.al.size ≤ maxLen ∧ e.s.name.size ≤ maxLen) : LI f base (k + 1) (es ++ [e]) o' wr' :=
  ⟨by have := h.len; simp; omega, h.row.push (looks_own f) e hx rfl hr hg ho hk hq, (fun y hy => by
    rcases List.mem_append.1 hy with hy | hy
    · exact h.low y hy
    · rw [List.mem_singleton.1 hy]; exact fun b hb => (hlow b hb).1), (by
    rw [List.pairwise_append]
    refine ⟨h.ap, by simp, fun x hx y hy b h1 h2 => ?_⟩
    rw [List.mem_singleton.1 hy] at h2
    have := hold x hx b h1
    have := (hlow b h2).2
    omega), fun y hy => by
    rcases List.mem_append.1 hy with hy | hy
    · exact h.sz y hy
    · rw [List.mem_singleton.1 hy]; exact hsz⟩
def OwnNew (f : Nat) (w : World) (L : List Se) (e : Ending) (w' : World) : Prop := ∃ a c, e = .returned (.slice a L.length c) ∧ OwnT f w' (fun b => w.heap.size ≤ b ∧ b < w'.heap.size) L a ∧ Below w.heap.size w w'
theorem lessI_len {es : List El} {L : List Se} (h : es.map El.s = L) : L.length = es.length := by rw [← h]; simp
theorem OwnT.nil (f : Nat) (w : World) (Q : Nat → Prop) (a : Option Addr) : OwnT f w Q [] a := by
  cases f with
  | zero => rfl
  | succ f => exact ⟨by simp, fun hn => by simp at hn⟩
theorem OwnT.sub {f : Nat} {w : World} {Q Q' : Nat → Prop} {ks : List Se} {a : Option Addr} (h : OwnT f w Q ks a) (e : ∀ b, Q b → Q' b) : OwnT f w Q' ks a := by
  cases f with
  | zero => exact h
  | succ f =>
    refine ⟨h.1, fun hn => ?_⟩
    obtain ⟨g, R, A, c, h1, h2, h3, h4, h5, h6⟩ := h.2 hn
    exact ⟨g, R, A, c, h1, e g h2, h3, fun i hi b hb => ⟨e b (h4 i hi b hb).1, (h4 i hi b hb).2⟩, h5, h6⟩
theorem OwnNew.up {f : Nat} {w w1 w2 : World} {L : List Se} {e : Ending} (h : OwnNew f w1 L e w2) (hb : Below w.heap.size w w1) : OwnNew f w L e w2 := by
  obtain ⟨a, c, h1, h2, h3⟩ := h
  exact ⟨a, c, h1, h2.sub fun b hb2 => ⟨Nat.le_trans hb.size hb2.1, hb2.2⟩, hb.trans (h3.mono hb.size)⟩
end Go.Proofs.YtokmgbidmnanpaaGreatDoor
namespace Go.Proofs.YtokmgbidmnanpaaGreatDoor
open Go.RowKit Go.Shelf Go.Maps
attribute [local go_sem] Oper.semAt_some
def askChk (f : Nat) (p : Pt) (ks : List Se) : Option (Way × Int) := if okP p = true ∧ askOk f ks = true then chkM p f [] qry ks ks.length else some ([], 1)
def wayO : Option (Way × Int) → Way
  | some x => x.1
  | none => []
def codeO : Option (Way × Int) → Int
  | some x => x.2
  | none => 0
end Go.Proofs.YtokmgbidmnanpaaGreatDoor
