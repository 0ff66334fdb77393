/-
  The program's text of a part.
-/
import Derived.Test.YtibpieomldhomaaGreatDoorIField
import Derived.Test.YtibpieomldhomaaGreatDoorIType2
namespace Go.Proofs.YtibpieomldhomaaGreatDoor
set_option linter.unusedSimpArgs false
set_option linter.unusedVariables false
open Go.RowKit

def fieldsL (fs : List F) : Nat → List UInt8
  | 0 => []
  | n + 1 => fieldsL fs n ++ (lineB (fth fs n)).data.toList
def keyL (t : T) : List UInt8 := if t.key.toList.isEmpty = true then [] else [32, 107, 101, 121, 32] ++ t.key.data.toList
def typeHeadL (t : T) : List UInt8 := [116, 121, 112, 101, 32] ++ t.name.data.toList ++ keyL t ++ [10]
def typesL (ts : List T) : Nat → List UInt8
  | 0 => []
  | n + 1 => typesL ts n ++ (typeHeadL (tth ts n) ++ fieldsL (tth ts n).fields (tth ts n).fields.length)
def partHeadL (p : Pt) : List UInt8 := [112, 97, 114, 116, 32] ++ p.name.data.toList ++ [10]
def partL (p : Pt) : List UInt8 := partHeadL p ++ typesL p.types p.types.length

theorem fieldsL_le (fs : List F) (k : Nat) : ∀ n, k ≤ n → (fieldsL fs k).length ≤ (fieldsL fs n).length
  | 0, h => by rw [show k = 0 by omega]; exact Nat.le_refl _
  | n + 1, h => by
    by_cases e : k = n + 1
    · rw [e]; exact Nat.le_refl _
    · have := fieldsL_le fs k n (by omega); rw [fieldsL, List.length_append]; omega
theorem typesL_le (ts : List T) (k : Nat) : ∀ n, k ≤ n → (typesL ts k).length ≤ (typesL ts n).length
  | 0, h => by rw [show k = 0 by omega]; exact Nat.le_refl _
  | n + 1, h => by
    by_cases e : k = n + 1
    · rw [e]; exact Nat.le_refl _
    · have := typesL_le ts k n (by omega); rw [typesL, List.length_append]; omega

theorem Bld.fresh (w : World) (N : Nat) (hN : w.heap.size = N) : Bld N N [] (w.alloc (.cells #[.pointer none, .slice none 0 0] 78)) := by
  subst hN
  exact Or.inl ⟨Nat.le_refl _, .slice none 0 0, heap_alloc_new w _, ⟨rfl, Or.inl ⟨rfl, rfl⟩⟩, by simp [Value.ownBlock]⟩
theorem le_sum (g : Nat → Nat) (k : Nat) : ∀ n, k < n → g k ≤ ((List.range n).map g).sum
  | 0, h => by omega
  | n + 1, h => by
    rw [List.range_succ, List.map_append, List.sum_append]
    by_cases e : k = n
    · subst e; simp
    · have := le_sum g k n (by omega); omega
theorem szT_le (p : Pt) (k : Nat) (h : k < p.types.length) (hz : szP p ≤ 1048576) : szT (tth p.types k) ≤ 1048576 := by
  have h1 := le_sum (fun i => szT (tth p.types i)) k _ h
  have h2 : p.name.size + (p.types.length + szTsTo p.types p.types.length) ≤ 1048576 := hz
  have h3 : szTsTo p.types p.types.length = ((List.range p.types.length).map fun i => szT (tth p.types i)).sum := rfl
  omega
theorem szF_le (t : T) (k : Nat) (h : k < t.fields.length) (hz : szT t ≤ 1048576) : szF (fth t.fields k) ≤ 1048576 := by
  have h1 := le_sum (fun i => szF (fth t.fields i)) k _ h
  have h2 : t.name.size + t.key.size + (t.fields.length + szFsTo t.fields t.fields.length) ≤ 1048576 := hz
  have h3 : szFsTo t.fields t.fields.length = ((List.range t.fields.length).map fun i => szF (fth t.fields i)).sum := rfl
  omega
theorem tl (a : ByteArray) : a.data.toList.length = a.size := Array.length_toList

set_option maxHeartbeats 3200000 in
theorem partText_any (p : Pt) (w : World) (B : Nat) (v : Value) (hP : PRep w (· < B) p v) (hB : B ≤ w.heap.size) (hz : szP p ≤ 1048576) (hl : (partL p).length ≤ 70368744177664) :
    Calls Tryz.prog 27 #[v] w fun e w' => e = .returned (.string ⟨(partL p).toArray⟩) ∧ Below w.heap.size w w' := by
  obtain ⟨pname, types⟩ := p
  obtain ⟨ta, tc, rfl, hK, hnc, hpn⟩ := hP
  simp only at hK hnc hpn
  have h56 := hK.1
  have hl2 : (partHeadL ⟨pname, types⟩).length + (typesL types types.length).length ≤ 70368744177664 := by rw [← List.length_append]; exact hl
  have hpz : pname.size ≤ 1048576 := by have : pname.size + szTs types ≤ 1048576 := hz; omega
  have HP0 : Hid (partL ⟨pname, types⟩ = partHeadL ⟨pname, types⟩ ++ typesL types types.length) := rfl
  have HH : Hid ((⟨#[112, 97, 114, 116, 32]⟩ ++ pname ++ ⟨#[10]⟩ : ByteArray).data.toList = partHeadL ⟨pname, types⟩) := by show _ = _; rw [append_toList, append_toList]; rfl
  have hfr := Bld.fresh (w.alloc (.cells #[.string pname, .slice ta types.length tc] 25)) (w.heap.size + 1) (by simp)
  have b1 : 5 + pname.size ≤ 9223372036854775807 := by omega
  have b2 : 5 + pname.size + 1 ≤ 9223372036854775807 := by omega
  have PC : ∀ W, Below (w.heap.size + 1) (w.alloc (.cells #[.string pname, .slice ta types.length tc] 25)) W → W.cell? ⟨w.heap.size, 1, none⟩ = some (.slice ta types.length tc) := fun W h => (h.cell (p := ⟨w.heap.size, 1, none⟩) (by show w.heap.size < _; omega)).trans (box_new _ _ 1 (by simp))
  go_enter Tryz.func27, Tryz.ntmps27
  go_wp2_with (
    go_at_call 40
    refine (bldString_any (w.heap.size + 1) (w.heap.size + 1) [] _ _ hfr ?_ (by simp)).mono ?_
    · simp only [List.length_nil, ByteArray.size_append, sz_lit, List.size_toArray, List.length_cons]
      omega
    rintro e w1 ⟨rfl, hbd1, hbe1, hke1⟩
    have hbl1 : Below (w.heap.size + 1) (w.alloc (.cells #[.string pname, .slice ta types.length tc] 25)) w1 := ((Below.refl _ _).alloc (by simp) _).trans hbe1
    have pc1 := PC w1 hbl1)
  rw [List.nil_append, HH.out] at hbd1
  go_loopw [16] (fun i wr => ∃ k : Nat, k ≤ types.length ∧ i = .int .i64 k ∧ Bld (w.heap.size + 1) (w.heap.size + 1) (partHeadL ⟨pname, types⟩ ++ typesL types k) wr ∧ Below (w.heap.size + 1) (w.alloc (.cells #[.string pname, .slice ta types.length tc] 25)) wr ∧ w.heap.size + 1 < wr.heap.size) (fun i _ => types.length - (intOf i).toNat)
  case atStart => exact ⟨0, Nat.zero_le _, rfl, by rw [typesL, List.append_nil]; exact hbd1, hbl1, by have := hbe1.size; simp at this; omega⟩
  case round =>
    clear hbd1 hbe1 hke1 hbl1 pc1
    obtain ⟨k, hk, rfl, hbd, hbl, hsz⟩ := hrel
    obtain ⟨w0, rfl⟩ : ∃ x, x = wr := ⟨wr, rfl⟩
    have hbw : Below w.heap.size w w0 := (below_box w _).trans (hbl.mono (by omega))
    by_cases hlt : k < types.length
    · obtain ⟨b, off, fa, fc, rfl, htr, hcs⟩ := hK.at hB k hlt
      obtain ⟨c0, c1, c2⟩ := hcs w0 hbw
      obtain ⟨fa', fc', e0, e1, e2, hfs, hffc, hs1, hs2⟩ := htr.parts
      simp only [Value.slice.injEq] at e2
      obtain ⟨rfl, -, rfl⟩ := e2
      have hf56 := hfs.1
      have hszT := szT_le ⟨pname, types⟩ k hlt hz
      simp only at hszT
      have hszT2 : (tth types k).name.size + (tth types k).key.size + szFs (tth types k).fields ≤ 1048576 := hszT
      have hlk := typesL_le types (k + 1) _ hlt
      rw [typesL, List.length_append, List.length_append] at hlk
      have HTY : Hid (typeHeadL (tth types k) = [116, 121, 112, 101, 32] ++ (tth types k).name.data.toList ++ keyL (tth types k) ++ [10]) := rfl
      have hthl : (typeHeadL (tth types k)).length = 5 + (tth types k).name.size + (keyL (tth types k)).length + 1 := by rw [HTY.out]; simp only [List.length_append, tl, List.length_cons, List.length_nil]
      have b3 : 5 + (tth types k).name.size ≤ 9223372036854775807 := by omega
      have b4 : 5 + (tth types k).key.size ≤ 9223372036854775807 := by omega
      clear hcs htr e0 e1
      have hbd0 := hbd.kept (below_box w0 (.cells #[.string (tth types k).name, .string (tth types k).key, .slice fa (tth types k).fields.length fc] 40))
      have hW1 := bldString_any (w.heap.size + 1) (w.heap.size + 1) _ (⟨#[116, 121, 112, 101, 32]⟩ ++ (tth types k).name) _ hbd0 (by simp only [List.length_append, ByteArray.size_append, sz_lit, List.size_toArray, List.length_cons, List.length_nil]; omega) (by simp; omega)
      have hk0 := heap_alloc_new w0 (.cells #[.string (tth types k).name, .string (tth types k).key, .slice fa (tth types k).fields.length fc] 40)
      have TC : ∀ W : World, W.heap[w0.heap.size]? = some (.cells #[.string (tth types k).name, .string (tth types k).key, .slice fa (tth types k).fields.length fc] 40 (0, 0)) → W.cell? ⟨w0.heap.size, 1, none⟩ = some (.string (tth types k).key) ∧ W.cell? ⟨w0.heap.size, 2, none⟩ = some (.slice fa (tth types k).fields.length fc) := fun W h => ⟨(box_at h 1 (by simp)).1, (box_at h 2 (by simp)).1⟩
      cases hke : (tth types k).key.toList.isEmpty
      · have hkl : keyL (tth types k) = [32, 107, 101, 121, 32] ++ (tth types k).key.data.toList := by rw [keyL, if_neg (by rw [hke]; simp)]
        have hkll : (keyL (tth types k)).length = 5 + (tth types k).key.size := by rw [hkl]; simp only [List.length_append, tl, List.length_cons, List.length_nil]
        have hW2 := fun W1 (h : Bld (w.heap.size + 1) (w.heap.size + 1) (partHeadL ⟨pname, types⟩ ++ typesL types k ++ (⟨#[116, 121, 112, 101, 32]⟩ ++ (tth types k).name : ByteArray).data.toList) W1) hs => bldString_any (w.heap.size + 1) (w.heap.size + 1) _ (⟨#[32, 107, 101, 121, 32]⟩ ++ (tth types k).key) W1 h (by simp only [List.length_append, ByteArray.size_append, tl, sz_lit, List.size_toArray, List.length_cons, List.length_nil]; omega) hs
        have hW3 := fun W1 (h : Bld (w.heap.size + 1) (w.heap.size + 1) (partHeadL ⟨pname, types⟩ ++ typesL types k ++ (⟨#[116, 121, 112, 101, 32]⟩ ++ (tth types k).name : ByteArray).data.toList ++ (⟨#[32, 107, 101, 121, 32]⟩ ++ (tth types k).key : ByteArray).data.toList) W1) hs => bldByte_any (w.heap.size + 1) (w.heap.size + 1) _ 10 W1 h (by simp only [List.length_append, ByteArray.size_append, tl, sz_lit, List.size_toArray, List.length_cons, List.length_nil]; omega) hs
        go_wp2_with (first
          | (
            go_at_call_of 40 ((tth types k).name)
            refine hW1.mono ?_
            rintro e w1 ⟨rfl, hbd1, hbe1, hke1⟩
            have hk1 := hke1.block hk0 (by omega) (by decide)
            obtain ⟨t11, t12⟩ := TC w1 hk1
            have z1 := hbe1.size
            simp at z1)
          | (
            go_at_call_of 40 ((tth types k).key)
            refine (hW2 w1 hbd1 (by omega)).mono ?_
            rintro e w2 ⟨rfl, hbd2, hbe2, hke2⟩
            have hk2 := hke2.block hk1 (by omega) (by decide)
            obtain ⟨t21, t22⟩ := TC w2 hk2
            have z2 := hbe2.size)
          | (
            go_at_call 41
            have hwb := hW3 w2 hbd2 (by omega)
            rw [show (((10 : UInt8).toNat : Nat) : Int) = 10 from rfl] at hwb
            refine hwb.mono ?_
            rintro e w3 ⟨rfl, hbdX, hbe3, hke3⟩
            have hkX := hke3.block hk2 (by omega) (by decide)
            obtain ⟨t31, t32⟩ := TC w3 hkX))
        · have hblX : Below (w.heap.size + 1) (w.alloc (.cells #[.string pname, .slice (some ⟨b, off, none⟩) types.length tc] 25)) w3 := (((hbl.alloc (by omega) _).trans hbe1).trans hbe2).trans hbe3
          have HTH : Hid (partHeadL ⟨pname, types⟩ ++ typesL types k ++ typeHeadL (tth types k) = partHeadL ⟨pname, types⟩ ++ typesL types k ++ (⟨#[116, 121, 112, 101, 32]⟩ ++ (tth types k).name : ByteArray).data.toList ++ (⟨#[32, 107, 101, 121, 32]⟩ ++ (tth types k).key : ByteArray).data.toList ++ [10]) := by
            show _ = _
            rw [HTY.out, hkl, append_toList, append_toList]; simp
          clear hbd1 hbe1 hke1 hk1 hbd2 hbe2 hke2 hk2 hbe3 hke3 hbd0 hW1 hk0
          go_loopw [35] (fun i w2 => ∃ j : Nat, j ≤ (tth types k).fields.length ∧ i = .int .i64 j ∧ Bld (w.heap.size + 1) (w.heap.size + 1) (partHeadL ⟨pname, types⟩ ++ typesL types k ++ typeHeadL (tth types k) ++ fieldsL (tth types k).fields j) w2 ∧ Below (w.heap.size + 1) (w.alloc (.cells #[.string pname, .slice (some ⟨b, off, none⟩) types.length tc] 25)) w2 ∧ w2.heap[w0.heap.size]? = some (.cells #[.string (tth types k).name, .string (tth types k).key, .slice fa (tth types k).fields.length fc] 40 (0, 0))) (fun i _ => (tth types k).fields.length - (intOf i).toNat)
          case atStart => exact ⟨0, Nat.zero_le _, rfl, by rw [fieldsL, List.append_nil, HTH.out]; exact hbdX, hblX, hkX⟩
          case round =>
            clear hbdX hblX hkX
            obtain ⟨w5, rfl⟩ : ∃ x, x = wr := ⟨wr, rfl⟩
            obtain ⟨j, hj, rfl, hbd5, hbl5, hk5⟩ := hrel
            have hw5 : Below w.heap.size w w5 := (below_box w _).trans (hbl5.mono (by omega))
            have z5 : w0.heap.size < w5.heap.size := (Array.getElem?_eq_some_iff.1 hk5).1
            by_cases hjl : j < (tth types k).fields.length
            · obtain ⟨b2, off2, na, nc, rfl, hfr2, hcs2⟩ := hfs.at hB j hjl
              obtain ⟨c0, c1, c2, c3, c4, c5, c6, c7⟩ := hcs2 w5 hw5
              have hsf := szF_le (tth types k) j hjl hszT
              have hsf2 : (fth (tth types k).fields j).name.size + (fth (tth types k).fields j).of.size + szNs (fth (tth types k).fields j).needs ≤ 1048576 := hsf
              obtain ⟨-, -, -, -, -, -, -, -, hSt, hncc, -, -⟩ := hfr2.vals
              have hln := fieldsL_le (tth types k).fields j _ (Nat.le_of_lt hjl)
              have hwf := fun w6 (hb6 : Below (w5.heap.size + 1) (w5.alloc (.cells #[.string (fth (tth types k).fields j).name, .string (fth (tth types k).fields j).of, .bool (fth (tth types k).fields j).list, .bool (fth (tth types k).fields j).must, .bool (fth (tth types k).fields j).far, .bool (fth (tth types k).fields j).hidden, .bool (fth (tth types k).fields j).shared, .slice na (fth (tth types k).fields j).needs.length nc] 30)) w6) => writeField_any (fth (tth types k).fields j).name (fth (tth types k).fields j).of (fth (tth types k).fields j).list (fth (tth types k).fields j).must (fth (tth types k).fields j).far (fth (tth types k).fields j).hidden (fth (tth types k).fields j).shared (fth (tth types k).fields j).needs na nc w6 (w.heap.size + 1) (w.heap.size + 1) _ (hbd5.kept ((below_box w5 _).trans (hb6.mono (by omega)))) (by have := hb6.size; simp at this; omega) (by have := hb6.size; simp at this; omega) (by omega) (by omega) (by simp only [List.length_append] at hln ⊢; omega) ((hSt.under ((hw5.trans (((below_box w5 _).trans (hb6.mono (by omega))).mono (by omega))).mono hB)).sub fun q hq => by omega) hncc (by omega)
              clear hcs2
              go_wp2_with (first
                | (
                  go_at_call 43
                  refine (marksOf_any _ _ _ _ _ _ _ _ _ _ _).mono ?_
                  rintro e w6 ⟨rfl, hb6⟩
                  have hb6' := hb6.mono (show w5.heap.size + 1 ≤ _ by simp)
                  have z6 := hb6.size
                  simp at z6)
                | (
                  go_at_call 42
                  refine (hwf w6 hb6').mono ?_
                  rintro e w7 ⟨rfl, hbd7, hbe7, hke7⟩))
              have hk6 : w6.heap[w0.heap.size]? = some (.cells #[.string (tth types k).name, .string (tth types k).key, .slice (some ⟨b2, off2, none⟩) (tth types k).fields.length fc] 40 (0, 0)) := (hb6.block _ (by simp; omega)).trans (((below_box w5 _).block _ z5).trans hk5)
              go_roundw
              case rel => exact ⟨j + 1, by omega, by go_num, by rw [fieldsL, ← List.append_assoc]; exact hbd7, (hbl5.trans (((below_box w5 _).trans (hb6.mono (by simp))).mono (by omega))).trans hbe7, hke7.block hk6 (by omega) (by decide)⟩
              case measure => simp [intOf]; omega
            · go_wp2_with fail
              go_roundw
              case rel =>
                have ej : j = (tth types k).fields.length := by omega
                refine ⟨k + 1, by omega, by go_num, ?_, hbl5, by omega⟩
                rw [typesL, ← List.append_assoc, ← List.append_assoc, ← ej]
                exact hbd5
              case measure => simp [intOf]; omega
      · have hkl : keyL (tth types k) = [] := by rw [keyL, if_pos hke]
        have hkll : (keyL (tth types k)).length = 0 := by rw [hkl]; rfl
        have hW3 := fun W1 (h : Bld (w.heap.size + 1) (w.heap.size + 1) (partHeadL ⟨pname, types⟩ ++ typesL types k ++ (⟨#[116, 121, 112, 101, 32]⟩ ++ (tth types k).name : ByteArray).data.toList) W1) hs => bldByte_any (w.heap.size + 1) (w.heap.size + 1) _ 10 W1 h (by simp only [List.length_append, ByteArray.size_append, tl, sz_lit, List.size_toArray, List.length_cons, List.length_nil]; omega) hs
        go_wp2_with (first
          | (
            go_at_call_of 40 ((tth types k).name)
            refine hW1.mono ?_
            rintro e w1 ⟨rfl, hbd1, hbe1, hke1⟩
            have hk1 := hke1.block hk0 (by omega) (by decide)
            obtain ⟨t11, t12⟩ := TC w1 hk1
            have z1 := hbe1.size
            simp at z1)
          | (
            go_at_call 41
            have hwb := hW3 w1 hbd1 (by omega)
            rw [show (((10 : UInt8).toNat : Nat) : Int) = 10 from rfl] at hwb
            refine hwb.mono ?_
            rintro e w3 ⟨rfl, hbdX, hbe3, hke3⟩
            have hkX := hke3.block hk1 (by omega) (by decide)
            obtain ⟨t31, t32⟩ := TC w3 hkX))
        · have hblX : Below (w.heap.size + 1) (w.alloc (.cells #[.string pname, .slice (some ⟨b, off, none⟩) types.length tc] 25)) w3 := ((hbl.alloc (by omega) _).trans hbe1).trans hbe3
          have HTH : Hid (partHeadL ⟨pname, types⟩ ++ typesL types k ++ typeHeadL (tth types k) = partHeadL ⟨pname, types⟩ ++ typesL types k ++ (⟨#[116, 121, 112, 101, 32]⟩ ++ (tth types k).name : ByteArray).data.toList ++ [10]) := by
            show _ = _
            rw [HTY.out, hkl, append_toList]; simp
          clear hbd1 hbe1 hke1 hk1 hbe3 hke3 hbd0 hW1 hk0
          go_loopw [35] (fun i w2 => ∃ j : Nat, j ≤ (tth types k).fields.length ∧ i = .int .i64 j ∧ Bld (w.heap.size + 1) (w.heap.size + 1) (partHeadL ⟨pname, types⟩ ++ typesL types k ++ typeHeadL (tth types k) ++ fieldsL (tth types k).fields j) w2 ∧ Below (w.heap.size + 1) (w.alloc (.cells #[.string pname, .slice (some ⟨b, off, none⟩) types.length tc] 25)) w2 ∧ w2.heap[w0.heap.size]? = some (.cells #[.string (tth types k).name, .string (tth types k).key, .slice fa (tth types k).fields.length fc] 40 (0, 0))) (fun i _ => (tth types k).fields.length - (intOf i).toNat)
          case atStart => exact ⟨0, Nat.zero_le _, rfl, by rw [fieldsL, List.append_nil, HTH.out]; exact hbdX, hblX, hkX⟩
          case round =>
            clear hbdX hblX hkX
            obtain ⟨w5, rfl⟩ : ∃ x, x = wr := ⟨wr, rfl⟩
            obtain ⟨j, hj, rfl, hbd5, hbl5, hk5⟩ := hrel
            have hw5 : Below w.heap.size w w5 := (below_box w _).trans (hbl5.mono (by omega))
            have z5 : w0.heap.size < w5.heap.size := (Array.getElem?_eq_some_iff.1 hk5).1
            by_cases hjl : j < (tth types k).fields.length
            · obtain ⟨b2, off2, na, nc, rfl, hfr2, hcs2⟩ := hfs.at hB j hjl
              obtain ⟨c0, c1, c2, c3, c4, c5, c6, c7⟩ := hcs2 w5 hw5
              have hsf := szF_le (tth types k) j hjl hszT
              have hsf2 : (fth (tth types k).fields j).name.size + (fth (tth types k).fields j).of.size + szNs (fth (tth types k).fields j).needs ≤ 1048576 := hsf
              obtain ⟨-, -, -, -, -, -, -, -, hSt, hncc, -, -⟩ := hfr2.vals
              have hln := fieldsL_le (tth types k).fields j _ (Nat.le_of_lt hjl)
              have hwf := fun w6 (hb6 : Below (w5.heap.size + 1) (w5.alloc (.cells #[.string (fth (tth types k).fields j).name, .string (fth (tth types k).fields j).of, .bool (fth (tth types k).fields j).list, .bool (fth (tth types k).fields j).must, .bool (fth (tth types k).fields j).far, .bool (fth (tth types k).fields j).hidden, .bool (fth (tth types k).fields j).shared, .slice na (fth (tth types k).fields j).needs.length nc] 30)) w6) => writeField_any (fth (tth types k).fields j).name (fth (tth types k).fields j).of (fth (tth types k).fields j).list (fth (tth types k).fields j).must (fth (tth types k).fields j).far (fth (tth types k).fields j).hidden (fth (tth types k).fields j).shared (fth (tth types k).fields j).needs na nc w6 (w.heap.size + 1) (w.heap.size + 1) _ (hbd5.kept ((below_box w5 _).trans (hb6.mono (by omega)))) (by have := hb6.size; simp at this; omega) (by have := hb6.size; simp at this; omega) (by omega) (by omega) (by simp only [List.length_append] at hln ⊢; omega) ((hSt.under ((hw5.trans (((below_box w5 _).trans (hb6.mono (by omega))).mono (by omega))).mono hB)).sub fun q hq => by omega) hncc (by omega)
              clear hcs2
              go_wp2_with (first
                | (
                  go_at_call 43
                  refine (marksOf_any _ _ _ _ _ _ _ _ _ _ _).mono ?_
                  rintro e w6 ⟨rfl, hb6⟩
                  have hb6' := hb6.mono (show w5.heap.size + 1 ≤ _ by simp)
                  have z6 := hb6.size
                  simp at z6)
                | (
                  go_at_call 42
                  refine (hwf w6 hb6').mono ?_
                  rintro e w7 ⟨rfl, hbd7, hbe7, hke7⟩))
              have hk6 : w6.heap[w0.heap.size]? = some (.cells #[.string (tth types k).name, .string (tth types k).key, .slice (some ⟨b2, off2, none⟩) (tth types k).fields.length fc] 40 (0, 0)) := (hb6.block _ (by simp; omega)).trans (((below_box w5 _).block _ z5).trans hk5)
              go_roundw
              case rel => exact ⟨j + 1, by omega, by go_num, by rw [fieldsL, ← List.append_assoc]; exact hbd7, (hbl5.trans (((below_box w5 _).trans (hb6.mono (by simp))).mono (by omega))).trans hbe7, hke7.block hk6 (by omega) (by decide)⟩
              case measure => simp [intOf]; omega
            · go_wp2_with fail
              go_roundw
              case rel =>
                have ej : j = (tth types k).fields.length := by omega
                refine ⟨k + 1, by omega, by go_num, ?_, hbl5, by omega⟩
                rw [typesL, ← List.append_assoc, ← List.append_assoc, ← ej]
                exact hbd5
              case measure => simp [intOf]; omega
    · have ek : k = types.length := by omega
      go_wp2_with (
        go_at_call 44
        refine (bldDone_any (w.heap.size + 1) (w.heap.size + 1) _ w0 hbd (by omega)).mono ?_
        rintro e w9 ⟨rfl, hbe9⟩)
      exact ⟨rfl, .string ⟨(partHeadL ⟨pname, types⟩ ++ typesL types types.length).toArray⟩, by simp [results, Tryz.results27, go_sem], by rw [HP0.out], hbw.trans (hbe9.mono (by omega))⟩
end Go.Proofs.YtibpieomldhomaaGreatDoor
