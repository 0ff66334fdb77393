/-
  The model's text of a part.
-/
import Derived.Test.YtibpieomldhomaaGreatDoorILen
namespace Go.Proofs.YtibpieomldhomaaGreatDoor
set_option linter.unusedSimpArgs false
set_option linter.unusedVariables false
open Go.RowKit

set_option maxHeartbeats 3200000 in
theorem l2Write_any (p : Pt) (w : World) (B : Nat) (v : Value) (hP : PRep w (· < B) p v) (hB : B ≤ w.heap.size) (hz : szP p ≤ 1048576) :
    Calls Tryz.prog 26 #[v] w fun e w' => e = .returned (.string ⟨(partL p).toArray⟩) ∧ Below w.heap.size w w' := by
  have hP' := hP
  obtain ⟨pname, types⟩ := p
  obtain ⟨ta, tc, rfl, hK, hnc, hpn⟩ := hP
  simp only at hK hnc hpn hP'
  have h56 := hK.1
  have hpl := partL_len ⟨pname, types⟩
  have hl2 : (partHeadL ⟨pname, types⟩).length + (typesL types types.length).length ≤ 34603020 := by rw [← List.length_append]; have : (partHeadL ⟨pname, types⟩ ++ typesL types types.length).length ≤ _ := hpl; omega
  have hpz : pname.size ≤ 1048576 := by have : pname.size + szTs types ≤ 1048576 := hz; omega
  have HP0 : Hid (partL ⟨pname, types⟩ = partHeadL ⟨pname, types⟩ ++ typesL types types.length) := rfl
  have HH : Hid ((⟨#[112, 97, 114, 116, 32]⟩ ++ pname ++ ⟨#[10]⟩ : ByteArray) = ⟨(partHeadL ⟨pname, types⟩ ++ typesL types 0).toArray⟩) := by show _ = _; apply ByteArray.ext; apply Array.toList_inj.1; rw [append_toList, append_toList, typesL, List.append_nil]; rfl
  have b1 : 5 + pname.size ≤ 9223372036854775807 := by omega
  have b2 : 5 + pname.size + 1 ≤ 9223372036854775807 := by omega
  have PC : ∀ W, Below (w.heap.size + 1) (w.alloc (.cells #[.string pname, .slice ta types.length tc] 25)) W → W.cell? ⟨w.heap.size, 1, none⟩ = some (.slice ta types.length tc) := fun W h => (h.cell (p := ⟨w.heap.size, 1, none⟩) (by show w.heap.size < _; omega)).trans (box_new _ _ 1 (by simp))
  go_enter Tryz.func26, Tryz.ntmps26
  go_wp2_with fail
  go_loopw [3, 4] (fun o i wr => ∃ k : Nat, ∃ x : ByteArray, k ≤ types.length ∧ i = .int .i64 k ∧ o = .string x ∧ Hid (x.data.toList = partHeadL ⟨pname, types⟩ ++ typesL types k) ∧ Below (w.heap.size + 1) (w.alloc (.cells #[.string pname, .slice ta types.length tc] 25)) wr) (fun _ i _ => types.length - (intOf i).toNat)
  case atStart => exact ⟨0, _, Nat.zero_le _, rfl, rfl, by show _ = _; rw [HH.out], Below.refl _ _⟩
  case round =>
    obtain ⟨k, x, hk, rfl, rfl, HX, hbl⟩ := hrel
    obtain ⟨w0, rfl⟩ : ∃ x, x = wr := ⟨wr, rfl⟩
    have hbw : Below w.heap.size w w0 := (below_box w _).trans (hbl.mono (by omega))
    have pc := PC w0 hbl
    have hz0 := hbl.size
    simp at hz0
    by_cases hlt : k < types.length
    · obtain ⟨b, off, fa, fc, rfl, htr, hcs⟩ := hK.at hB k hlt
      obtain ⟨c0, c1, c2⟩ := hcs w0 hbw
      obtain ⟨fa', fc', e0, e1, e2, hfs, hffc, hs1, hs2⟩ := htr.parts
      simp only [Value.slice.injEq] at e2
      obtain ⟨rfl, -, rfl⟩ := e2
      have hf56 := hfs.1
      have hszT := szT_le ⟨pname, types⟩ k hlt hz
      simp only at hszT
      have hszT2 : (tth types k).name.size + (tth types k).key.size + szFs (tth types k).fields ≤ 1048576 := hszT
      have hlk := typesL_le types (k + 1) _ hlt
      rw [typesL, List.length_append, List.length_append] at hlk
      have hxs : x.size = (partHeadL ⟨pname, types⟩).length + (typesL types k).length := by rw [← tl, HX.out, List.length_append]
      have b3 : x.size + 5 ≤ 9223372036854775807 := by omega
      have b4 : x.size + 5 + (tth types k).name.size ≤ 9223372036854775807 := by omega
      have b5 : x.size + 5 + (tth types k).name.size + 5 ≤ 9223372036854775807 := by omega
      have b6 : x.size + 5 + (tth types k).name.size + 5 + (tth types k).key.size ≤ 9223372036854775807 := by omega
      have b7 : x.size + 5 + (tth types k).name.size + 5 + (tth types k).key.size + 1 ≤ 9223372036854775807 := by omega
      have b8 : x.size + 5 + (tth types k).name.size + 1 ≤ 9223372036854775807 := by omega
      have HTY : Hid (typeHeadL (tth types k) = [116, 121, 112, 101, 32] ++ (tth types k).name.data.toList ++ keyL (tth types k) ++ [10]) := rfl
      have hk0 := heap_alloc_new w0 (.cells #[.string (tth types k).name, .string (tth types k).key, .slice fa (tth types k).fields.length fc] 40)
      clear hcs htr e0 e1 hxs
      cases hke : (tth types k).key.toList.isEmpty
      · have hkl : keyL (tth types k) = [32, 107, 101, 121, 32] ++ (tth types k).key.data.toList := by rw [keyL, if_neg (by rw [hke]; simp)]
        go_wp2_with fail
        have HTH : Hid ((x ++ ⟨#[116, 121, 112, 101, 32]⟩ ++ (tth types k).name ++ ⟨#[32, 107, 101, 121, 32]⟩ ++ (tth types k).key ++ ⟨#[10]⟩ : ByteArray).data.toList = partHeadL ⟨pname, types⟩ ++ typesL types k ++ typeHeadL (tth types k) ++ fieldsL (tth types k).fields 0) := by
          show _ = _
          rw [append_toList, append_toList, append_toList, append_toList, append_toList, HX.out, fieldsL, List.append_nil, HTY.out, hkl]; simp
        have TC : ∀ W : World, W.heap[w0.heap.size]? = some (.cells #[.string (tth types k).name, .string (tth types k).key, .slice fa (tth types k).fields.length fc] 40 (0, 0)) → W.cell? ⟨w0.heap.size, 2, none⟩ = some (.slice fa (tth types k).fields.length fc) := fun W h => (box_at h 2 (by simp)).1
        go_loopw [3, 6] (fun o i w2 => ∃ j : Nat, ∃ y : ByteArray, j ≤ (tth types k).fields.length ∧ i = .int .i64 j ∧ o = .string y ∧ Hid (y.data.toList = partHeadL ⟨pname, types⟩ ++ typesL types k ++ typeHeadL (tth types k) ++ fieldsL (tth types k).fields j) ∧ Below (w.heap.size + 1) (w.alloc (.cells #[.string pname, .slice (some ⟨b, off, none⟩) types.length tc] 25)) w2 ∧ w2.heap[w0.heap.size]? = some (.cells #[.string (tth types k).name, .string (tth types k).key, .slice fa (tth types k).fields.length fc] 40 (0, 0))) (fun _ i _ => (tth types k).fields.length - (intOf i).toNat)
        case atStart => exact ⟨0, _, Nat.zero_le _, rfl, rfl, HTH, hbl.alloc (by omega) _, hk0⟩
        case round =>
          obtain ⟨j, y, hj, rfl, rfl, HY, hbl5, hk5⟩ := hrel
          obtain ⟨w5, rfl⟩ : ∃ x, x = wr := ⟨wr, rfl⟩
          have hw5 : Below w.heap.size w w5 := (below_box w _).trans (hbl5.mono (by omega))
          have z5 : w0.heap.size < w5.heap.size := (Array.getElem?_eq_some_iff.1 hk5).1
          have t5 := TC w5 hk5
          by_cases hjl : j < (tth types k).fields.length
          · obtain ⟨b2, off2, na, nc, rfl, hfr2, hcs2⟩ := hfs.at hB j hjl
            obtain ⟨c0, c1, c2, c3, c4, c5, c6, c7⟩ := hcs2 w5 hw5
            have hsf := szF_le (tth types k) j hjl hszT
            have hln := fieldsL_le (tth types k).fields (j + 1) _ hjl
            rw [fieldsL, List.length_append] at hln
            have hys : y.size = (partHeadL ⟨pname, types⟩).length + (typesL types k).length + (typeHeadL (tth types k)).length + (fieldsL (tth types k).fields j).length := by rw [← tl, HY.out, List.length_append, List.length_append, List.length_append]
            have b9 : y.size + (lineB (fth (tth types k).fields j)).size ≤ 9223372036854775807 := by rw [tl] at hln; omega
            obtain ⟨-, -, -, -, -, -, -, -, hSt, hncc, -, -⟩ := hfr2.vals
            have hwl := l2Line_one (fth (tth types k).fields j).name (fth (tth types k).fields j).of (fth (tth types k).fields j).list (fth (tth types k).fields j).must (fth (tth types k).fields j).far (fth (tth types k).fields j).hidden (fth (tth types k).fields j).shared (fth (tth types k).fields j).needs w5 na nc ((hSt.under (hw5.mono hB)).sub fun q hq => by omega) hsf
            rw [show (⟨(fth (tth types k).fields j).name, (fth (tth types k).fields j).of, (fth (tth types k).fields j).list, (fth (tth types k).fields j).must, (fth (tth types k).fields j).far, (fth (tth types k).fields j).hidden, (fth (tth types k).fields j).shared, (fth (tth types k).fields j).needs⟩ : F) = fth (tth types k).fields j from rfl] at hwl
            clear hcs2 hys hln
            go_wp2_with (
              go_at_call 39
              refine hwl.mono ?_
              rintro e w6 ⟨rfl, hb6⟩)
            go_roundw
            case rel => exact ⟨j + 1, _, by omega, by go_num, rfl, by show _ = _; rw [fieldsL, append_toList, HY.out]; simp only [List.append_assoc], hbl5.trans (hb6.mono (by omega)), (hb6.block _ z5).trans hk5⟩
            case measure => simp [intOf]; omega
          · go_wp2_with fail
            go_roundw
            case rel =>
              have ej : j = (tth types k).fields.length := by omega
              exact ⟨k + 1, y, by omega, by go_num, rfl, by show _ = _; rw [HY.out, typesL, ej]; simp only [List.append_assoc], hbl5⟩
            case measure => simp [intOf]; omega
      · have hkl : keyL (tth types k) = [] := by rw [keyL, if_pos hke]
        go_wp2_with fail
        have HTH : Hid ((x ++ ⟨#[116, 121, 112, 101, 32]⟩ ++ (tth types k).name ++ ⟨#[10]⟩ : ByteArray).data.toList = partHeadL ⟨pname, types⟩ ++ typesL types k ++ typeHeadL (tth types k) ++ fieldsL (tth types k).fields 0) := by
          show _ = _
          rw [append_toList, append_toList, append_toList, HX.out, fieldsL, List.append_nil, HTY.out, hkl]; simp
        have TC : ∀ W : World, W.heap[w0.heap.size]? = some (.cells #[.string (tth types k).name, .string (tth types k).key, .slice fa (tth types k).fields.length fc] 40 (0, 0)) → W.cell? ⟨w0.heap.size, 2, none⟩ = some (.slice fa (tth types k).fields.length fc) := fun W h => (box_at h 2 (by simp)).1
        go_loopw [3, 6] (fun o i w2 => ∃ j : Nat, ∃ y : ByteArray, j ≤ (tth types k).fields.length ∧ i = .int .i64 j ∧ o = .string y ∧ Hid (y.data.toList = partHeadL ⟨pname, types⟩ ++ typesL types k ++ typeHeadL (tth types k) ++ fieldsL (tth types k).fields j) ∧ Below (w.heap.size + 1) (w.alloc (.cells #[.string pname, .slice (some ⟨b, off, none⟩) types.length tc] 25)) w2 ∧ w2.heap[w0.heap.size]? = some (.cells #[.string (tth types k).name, .string (tth types k).key, .slice fa (tth types k).fields.length fc] 40 (0, 0))) (fun _ i _ => (tth types k).fields.length - (intOf i).toNat)
        case atStart => exact ⟨0, _, Nat.zero_le _, rfl, rfl, HTH, hbl.alloc (by omega) _, hk0⟩
        case round =>
          obtain ⟨j, y, hj, rfl, rfl, HY, hbl5, hk5⟩ := hrel
          obtain ⟨w5, rfl⟩ : ∃ x, x = wr := ⟨wr, rfl⟩
          have hw5 : Below w.heap.size w w5 := (below_box w _).trans (hbl5.mono (by omega))
          have z5 : w0.heap.size < w5.heap.size := (Array.getElem?_eq_some_iff.1 hk5).1
          have t5 := TC w5 hk5
          by_cases hjl : j < (tth types k).fields.length
          · obtain ⟨b2, off2, na, nc, rfl, hfr2, hcs2⟩ := hfs.at hB j hjl
            obtain ⟨c0, c1, c2, c3, c4, c5, c6, c7⟩ := hcs2 w5 hw5
            have hsf := szF_le (tth types k) j hjl hszT
            have hln := fieldsL_le (tth types k).fields (j + 1) _ hjl
            rw [fieldsL, List.length_append] at hln
            have hys : y.size = (partHeadL ⟨pname, types⟩).length + (typesL types k).length + (typeHeadL (tth types k)).length + (fieldsL (tth types k).fields j).length := by rw [← tl, HY.out, List.length_append, List.length_append, List.length_append]
            have b9 : y.size + (lineB (fth (tth types k).fields j)).size ≤ 9223372036854775807 := by rw [tl] at hln; omega
            obtain ⟨-, -, -, -, -, -, -, -, hSt, hncc, -, -⟩ := hfr2.vals
            have hwl := l2Line_one (fth (tth types k).fields j).name (fth (tth types k).fields j).of (fth (tth types k).fields j).list (fth (tth types k).fields j).must (fth (tth types k).fields j).far (fth (tth types k).fields j).hidden (fth (tth types k).fields j).shared (fth (tth types k).fields j).needs w5 na nc ((hSt.under (hw5.mono hB)).sub fun q hq => by omega) hsf
            rw [show (⟨(fth (tth types k).fields j).name, (fth (tth types k).fields j).of, (fth (tth types k).fields j).list, (fth (tth types k).fields j).must, (fth (tth types k).fields j).far, (fth (tth types k).fields j).hidden, (fth (tth types k).fields j).shared, (fth (tth types k).fields j).needs⟩ : F) = fth (tth types k).fields j from rfl] at hwl
            clear hcs2 hys hln
            go_wp2_with (
              go_at_call 39
              refine hwl.mono ?_
              rintro e w6 ⟨rfl, hb6⟩)
            go_roundw
            case rel => exact ⟨j + 1, _, by omega, by go_num, rfl, by show _ = _; rw [fieldsL, append_toList, HY.out]; simp only [List.append_assoc], hbl5.trans (hb6.mono (by omega)), (hb6.block _ z5).trans hk5⟩
            case measure => simp [intOf]; omega
          · go_wp2_with fail
            go_roundw
            case rel =>
              have ej : j = (tth types k).fields.length := by omega
              exact ⟨k + 1, y, by omega, by go_num, rfl, by show _ = _; rw [HY.out, typesL, ej]; simp only [List.append_assoc], hbl5⟩
            case measure => simp [intOf]; omega
    · go_wp2_with fail
      have ek : k = types.length := by omega
      have hxe : x = ⟨(partL ⟨pname, types⟩).toArray⟩ := by apply ByteArray.ext; apply Array.toList_inj.1; rw [HX.out, HP0.out, ek]
      go_ret
      exact ⟨by rw [← hxe]; rfl, hbw⟩
end Go.Proofs.YtibpieomldhomaaGreatDoor
