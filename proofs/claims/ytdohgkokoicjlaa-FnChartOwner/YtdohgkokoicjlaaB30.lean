import Derived.Test.YtdohgkokoicjlaaB27
import Derived.Test.YtdohgkokoicjlaaB19
import Derived.Test.YtdohgkokoicjlaaB20
set_option linter.unusedSimpArgs false
set_option linter.unusedVariables false
namespace Go.Proofs.Ytdohgkokoicjlaa
open Go.RowKit
def fieldsL (fs : List F) : Nat → List UInt8
  | 0 => []
  | n + 1 => fieldsL fs n ++ (lineB (fth fs n)).data.toList
def keyL (t : T) : List UInt8 := if t.key.toList.isEmpty = true then [] else [32, 107, 101, 121, 32] ++ t.key.data.toList
def typeHeadL (t : T) : List UInt8 := [116, 121, 112, 101, 32] ++ t.name.data.toList ++ keyL t ++ [10]
def typesL (ts : List T) : Nat → List UInt8
  | 0 => []
  | n + 1 => typesL ts n ++ (typeHeadL (tth ts n) ++ fieldsL (tth ts n).fields (tth ts n).fields.length)
def partHeadL (p : Pt) : List UInt8 := [112, 97, 114, 116, 32] ++ p.name.data.toList ++ [10]
def partL (p : Pt) : List UInt8 := partHeadL p ++ typesL p.types p.types.length
theorem fieldsL_le (fs : List F) (k : Nat) : ∀ n, k ≤ n → (fieldsL fs k).length ≤ (fieldsL fs n).length
  | 0, h => by rw [show k = 0 by omega]; exact Nat.le_refl _
  | n + 1, h => by
    by_cases e : k = n + 1
    · rw [e]; exact Nat.le_refl _
    · have := fieldsL_le fs k n (by omega); rw [fieldsL, List.length_append]; omega
theorem typesL_le (ts : List T) (k : Nat) : ∀ n, k ≤ n → (typesL ts k).length ≤ (typesL ts n).length
  | 0, h => by rw [show k = 0 by omega]; exact Nat.le_refl _
  | n + 1, h => by
    by_cases e : k = n + 1
    · rw [e]; exact Nat.le_refl _
    · have := typesL_le ts k n (by omega); rw [typesL, List.length_append]; omega
theorem Bld.fresh (w : World) (N : Nat) (hN : w.heap.size = N) : Bld N N [] (w.alloc (.cells #[.pointer none, .slice none 0 0] 84)) := by
  subst hN
  exact Or.inl ⟨Nat.le_refl _, .slice none 0 0, heap_alloc_new w _, ⟨rfl, Or.inl ⟨rfl, rfl⟩⟩, by simp [Value.ownBlock]⟩
theorem le_sum (g : Nat → Nat) (k : Nat) : ∀ n, k < n → g k ≤ ((List.range n).map g).sum
  | 0, h => by omega
  | n + 1, h => by
    rw [List.range_succ, List.map_append, List.sum_append]
    by_cases e : k = n
    · subst e; simp
    · have := le_sum g k n (by omega); omega
theorem szT_le (p : Pt) (k : Nat) (h : k < p.types.length) (hz : szP p ≤ 1048576) : szT (tth p.types k) ≤ 1048576 := by
  have h1 := le_sum (fun i => szT (tth p.types i)) k _ h
  have h2 : p.name.size + (p.types.length + szTsTo p.types p.types.length) ≤ 1048576 := hz
  have h3 : szTsTo p.types p.types.length = ((List.range p.types.length).map fun i => szT (tth p.types i)).sum := rfl
  omega
theorem szF_le (t : T) (k : Nat) (h : k < t.fields.length) (hz : szT t ≤ 1048576) : szF (fth t.fields k) ≤ 1048576 := by
  have h1 := le_sum (fun i => szF (fth t.fields i)) k _ h
  have h2 : t.name.size + t.key.size + (t.fields.length + szFsTo t.fields t.fields.length) ≤ 1048576 := hz
  have h3 : szFsTo t.fields t.fields.length = ((List.range t.fields.length).map fun i => szF (fth t.fields i)).sum := rfl
  omega
theorem tl (a : ByteArray) : a.data.toList.length = a.size := Array.length_toList
set_option maxHeartbeats 3200000 in
theorem partText_any (p : Pt) (w : World) (B : Nat) (v : Value) (hP : PRep w (· < B) p v) (hB : B ≤ w.heap.size) (hz : szP p ≤ 1048576) (hl : (partL p).length ≤ 70368744177664) :
    Calls Try.prog 21 #[v] w fun e w' => e = .returned (.string ⟨(partL p).toArray⟩) ∧ Below w.heap.size w w' := by
  obtain ⟨pname, types⟩ := p
  obtain ⟨ta, tc, rfl, hK, hnc, hpn⟩ := hP
  simp only at hK hnc hpn
  have h56 := hK.1
  have hl2 : (partHeadL ⟨pname, types⟩).length + (typesL types types.length).length ≤ 70368744177664 := by rw [← List.length_append]; exact hl
  have hpz : pname.size ≤ 1048576 := by have : pname.size + szTs types ≤ 1048576 := hz; omega
  have HP0 : Hid (partL ⟨pname, types⟩ = partHeadL ⟨pname, types⟩ ++ typesL types types.length) := rfl
  have HH : Hid ((⟨#[112, 97, 114, 116, 32]⟩ ++ pname ++ ⟨#[10]⟩ : ByteArray).data.toList = partHeadL ⟨pname, types⟩) := by show _ = _; rw [append_toList, append_toList]; rfl
  have hfr := Bld.fresh (w.alloc (.cells #[.string pname, .slice ta types.length tc] 25)) (w.heap.size + 1) (by simp)
  have b1 : 5 + pname.size ≤ 9223372036854775807 := by omega
  have b2 : 5 + pname.size + 1 ≤ 9223372036854775807 := by omega
  have PC : ∀ W, Below (w.heap.size + 1) (w.alloc (.cells #[.string pname, .slice ta types.length tc] 25)) W → W.cell? ⟨w.heap.size, 1, none⟩ = some (.slice ta types.length tc) := fun W h => (h.cell (p := ⟨w.heap.size, 1, none⟩) (by show w.heap.size < _; omega)).trans (box_new _ _ 1 (by simp))
  go_enter Try.func21, Try.ntmps21
  go_wp2_with (
    go_at_call 38
    refine (bldString_any (w.heap.size + 1) (w.heap.size + 1) [] _ _ hfr ?_ (by simp)).mono ?_
    · simp only [List.length_nil, ByteArray.size_append, sz_lit, List.size_toArray, List.length_cons]
      omega
    rintro e w1 ⟨rfl, hbd1, hbe1, hke1⟩
    have hbl1 : Below (w.heap.size + 1) (w.alloc (.cells #[.string pname, .slice ta types.length tc] 25)) w1 := ((Below.refl _ _).alloc (by simp) _).trans hbe1
    have pc1 := PC w1 hbl1)
  rw [List.nil_append, HH.out] at hbd1
  go_loopw [16] (fun i wr => ∃ k : Nat, k ≤ types.length ∧ i = .int .i64 k ∧ Bld (w.heap.size + 1) (w.heap.size + 1) (partHeadL ⟨pname, types⟩ ++ typesL types k) wr ∧ Below (w.heap.size + 1) (w.alloc (.cells #[.string pname, .slice ta types.length tc] 25)) wr ∧ w.heap.size + 1 < wr.heap.size) (fun i _ => types.length - (intOf i).toNat)
  case atStart => exact ⟨0, Nat.zero_le _, rfl, by rw [typesL, List.append_nil]; exact hbd1, hbl1, by have := hbe1.size; simp at this; omega⟩
  case round =>
    clear hbd1 hbe1 hke1 hbl1 pc1
    obtain ⟨k, hk, rfl, hbd, hbl, hsz⟩ := hrel
    obtain ⟨w0, rfl⟩ : ∃ x, x = wr := ⟨wr, rfl⟩
    have hbw : Below w.heap.size w w0 := (below_box w _).trans (hbl.mono (by omega))
    by_cases hlt : k < types.length
    · obtain ⟨b, off, fa, fc, rfl, htr, hcs⟩ := hK.at hB k hlt
      obtain ⟨c0, c1, c2⟩ := hcs w0 hbw
      obtain ⟨fa', fc', e0, e1, e2, hfs, hffc, hs1, hs2⟩ := htr.parts
      simp only [Value.slice.injEq] at e2
      obtain ⟨rfl, -, rfl⟩ := e2
      have hf56 := hfs.1
      have hszT := szT_le ⟨pname, types⟩ k hlt hz
      simp only at hszT
      have hszT2 : (tth types k).name.size + (tth types k).key.size + szFs (tth types k).fields ≤ 1048576 := hszT
      have hlk := typesL_le types (k + 1) _ hlt
      rw [typesL, List.length_append, List.length_append] at hlk
      have HTY : Hid (typeHeadL (tth types k) = [116, 121, 112, 101, 32] ++ (tth types k).name.data.toList ++ keyL (tth types k) ++ [10]) := rfl
      have hthl : (typeHeadL (tth types k)).length = 5 + (tth types k).name.size + (keyL (tth types k)).length + 1 := by rw [HTY.out]; simp only [List.length_append, tl, List.length_cons, List.length_nil]
      have b3 : 5 + (tth types k).name.size ≤ 9223372036854775807 := by omega
      have b4 : 5 + (tth types k).key.size ≤ 9223372036854775807 := by omega
      clear hcs htr e0 e1
      have hbd0 := hbd.kept (below_box w0 (.cells #[.string (tth types k).name, .string (tth types k).key, .slice fa (tth types k).fields.length fc] 48))
      have hW1 := bldString_any (w.heap.size + 1) (w.heap.size + 1) _ (⟨#[116, 121, 112, 101, 32]⟩ ++ (tth types k).name) _ hbd0 (by simp only [List.length_append, ByteArray.size_append, sz_lit, List.size_toArray, List.length_cons, List.length_nil]; omega) (by simp; omega)
      have hk0 := heap_alloc_new w0 (.cells #[.string (tth types k).name, .string (tth types k).key, .slice fa (tth types k).fields.length fc] 48)
      have TC : ∀ W : World, W.heap[w0.heap.size]? = some (.cells #[.string (tth types k).name, .string (tth types k).key, .slice fa (tth types k).fields.length fc] 48 (0, 0)) → W.cell? ⟨w0.heap.size, 1, none⟩ = some (.string (tth types k).key) ∧ W.cell? ⟨w0.heap.size, 2, none⟩ = some (.slice fa (tth types k).fields.length fc) := fun W h => ⟨(box_at h 1 (by simp)).1, (box_at h 2 (by simp)).1⟩
      cases hke : (tth types k).key.toList.isEmpty
      · have hkl : keyL (tth types k) = [32, 107, 101, 121, 32] ++ (tth types k).key.data.toList := by rw [keyL, if_neg (by rw [hke]; simp)]
        have hkll : (keyL (tth types k)).length = 5 + (tth types k).key.size := by rw [hkl]; simp only [List.length_append, tl, List.length_cons, List.length_nil]
        have hW2 := fun W1 (h : Bld (w.heap.size + 1) (w.heap.size + 1) (partHeadL ⟨pname, types⟩ ++ typesL types k ++ (⟨#[116, 121, 112, 101, 32]⟩ ++ (tth types k).name : ByteArray).data.toList) W1) hs => bldString_any (w.heap.size + 1) (w.heap.size + 1) _ (⟨#[32, 107, 101, 121, 32]⟩ ++ (tth types k).key) W1 h (by simp only [List.length_append, ByteArray.size_append, tl, sz_lit, List.size_toArray, List.length_cons, List.length_nil]; omega) hs
        have hW3 := fun W1 (h : Bld (w.heap.size + 1) (w.heap.size + 1) (partHeadL ⟨pname, types⟩ ++ typesL types k ++ (⟨#[116, 121, 112, 101, 32]⟩ ++ (tth types k).name : ByteArray).data.toList ++ (⟨#[32, 107, 101, 121, 32]⟩ ++ (tth types k).key : ByteArray).data.toList) W1) hs => bldByte_any (w.heap.size + 1) (w.heap.size + 1) _ 10 W1 h (by simp only [List.length_append, ByteArray.size_append, tl, sz_lit, List.size_toArray, List.length_cons, List.length_nil]; omega) hs
        go_wp2_with (first
          | (
            go_at_call_of 38 ((tth types k).name)
            refine hW1.mono ?_
            rintro e w1 ⟨rfl, hbd1, hbe1, hke1⟩
            have hk1 := hke1.block hk0 (by omega) (by decide)
            obtain ⟨t11, t12⟩ := TC w1 hk1
            have z1 := hbe1.size
            simp at z1)
          | (
            go_at_call_of 38 ((tth types k).key)
            refine (hW2 w1 hbd1 (by omega)).mono ?_
            rintro e w2 ⟨rfl, hbd2, hbe2, hke2⟩
            have hk2 := hke2.block hk1 (by omega) (by decide)
            obtain ⟨t21, t22⟩ := TC w2 hk2
            have z2 := hbe2.size)
          | (
            go_at_call 39
            have hwb := hW3 w2 hbd2 (by omega)
            rw [show (((10 : UInt8).toNat : Nat) : Int) = 10 from rfl] at hwb
            refine hwb.mono ?_
            rintro e w3 ⟨rfl, hbdX, hbe3, hke3⟩
            have hkX := hke3.block hk2 (by omega) (by decide)
            obtain ⟨t31, t32⟩ := TC w3 hkX))
        · have hblX : Below (w.heap.size + 1) (w.alloc (.cells #[.string pname, .slice (some ⟨b, off, none⟩) types.length tc] 25)) w3 := (((hbl.alloc (by omega) _).trans hbe1).trans hbe2).trans hbe3
          have HTH : Hid (partHeadL ⟨pname, types⟩ ++ typesL types k ++ typeHeadL (tth types k) = partHeadL ⟨pname, types⟩ ++ typesL types k ++ (⟨#[116, 121, 112, 101, 32]⟩ ++ (tth types k).name : ByteArray).data.toList ++ (⟨#[32, 107, 101, 121, 32]⟩ ++ (tth types k).key : ByteArray).data.toList ++ [10]) := by
            show _ = _
            rw [HTY.out, hkl, append_toList, append_toList]; simp
          clear hbd1 hbe1 hke1 hk1 hbd2 hbe2 hke2 hk2 hbe3 hke3 hbd0 hW1 hk0
          go_loopw [35] (fun i w2 => ∃ j : Nat, j ≤ (tth types k).fields.length ∧ i = .int .i64 j ∧ Bld (w.heap.size + 1) (w.heap.size + 1) (partHeadL ⟨pname, types⟩ ++ typesL types k ++ typeHeadL (tth types k) ++ fieldsL (tth types k).fields j) w2 ∧ Below (w.heap.size + 1) (w.alloc (.cells #[.string pname, .slice (some ⟨b, off, none⟩) types.length tc] 25)) w2 ∧ w2.heap[w0.heap.size]? = some (.cells #[.string (tth types k).name, .string (tth types k).key, .slice fa (tth types k).fields.length fc] 48 (0, 0))) (fun i _ => (tth types k).fields.length - (intOf i).toNat)
          case atStart => exact ⟨0, Nat.zero_le _, rfl, by rw [fieldsL, List.append_nil, HTH.out]; exact hbdX, hblX, hkX⟩
          case round =>
            clear hbdX hblX hkX
            obtain ⟨w5, rfl⟩ : ∃ x, x = wr := ⟨wr, rfl⟩
            obtain ⟨j, hj, rfl, hbd5, hbl5, hk5⟩ := hrel
            have hw5 : Below w.heap.size w w5 := (below_box w _).trans (hbl5.mono (by omega))
            have z5 : w0.heap.size < w5.heap.size := (Array.getElem?_eq_some_iff.1 hk5).1
            by_cases hjl : j < (tth types k).fields.length
            · obtain ⟨b2, off2, na, nc, rfl, hfr2, hcs2⟩ := hfs.at hB j hjl
              obtain ⟨c0, c1, c2, c3, c4, c5, c6, c7⟩ := hcs2 w5 hw5
              have hsf := szF_le (tth types k) j hjl hszT
              have hsf2 : (fth (tth types k).fields j).name.size + (fth (tth types k).fields j).of.size + szNs (fth (tth types k).fields j).needs ≤ 1048576 := hsf
              obtain ⟨-, -, -, -, -, -, -, -, hSt, hncc, -, -⟩ := hfr2.vals
              have hln := fieldsL_le (tth types k).fields j _ (Nat.le_of_lt hjl)
              have hwf := fun w6 (hb6 : Below (w5.heap.size + 1) (w5.alloc (.cells #[.string (fth (tth types k).fields j).name, .string (fth (tth types k).fields j).of, .bool (fth (tth types k).fields j).list, .bool (fth (tth types k).fields j).must, .bool (fth (tth types k).fields j).far, .bool (fth (tth types k).fields j).hidden, .bool (fth (tth types k).fields j).shared, .slice na (fth (tth types k).fields j).needs.length nc] 37)) w6) => writeField_any (fth (tth types k).fields j).name (fth (tth types k).fields j).of (fth (tth types k).fields j).list (fth (tth types k).fields j).must (fth (tth types k).fields j).far (fth (tth types k).fields j).hidden (fth (tth types k).fields j).shared (fth (tth types k).fields j).needs na nc w6 (w.heap.size + 1) (w.heap.size + 1) _ (hbd5.kept ((below_box w5 _).trans (hb6.mono (by omega)))) (by have := hb6.size; simp at this; omega) (by have := hb6.size; simp at this; omega) (by omega) (by omega) (by simp only [List.length_append] at hln ⊢; omega) ((hSt.under ((hw5.trans (((below_box w5 _).trans (hb6.mono (by omega))).mono (by omega))).mono hB)).sub fun q hq => by omega) hncc (by omega)
              clear hcs2
              go_wp2_with (first
                | (
                  go_at_call 41
                  refine (marksOf_any _ _ _ _ _ _ _ _ _ _ _).mono ?_
                  rintro e w6 ⟨rfl, hb6⟩
                  have hb6' := hb6.mono (show w5.heap.size + 1 ≤ _ by simp)
                  have z6 := hb6.size
                  simp at z6)
                | (
                  go_at_call 40
                  refine (hwf w6 hb6').mono ?_
                  rintro e w7 ⟨rfl, hbd7, hbe7, hke7⟩))
              have hk6 : w6.heap[w0.heap.size]? = some (.cells #[.string (tth types k).name, .string (tth types k).key, .slice (some ⟨b2, off2, none⟩) (tth types k).fields.length fc] 48 (0, 0)) := (hb6.block _ (by simp; omega)).trans (((below_box w5 _).block _ z5).trans hk5)
              go_roundw
              case rel => exact ⟨j + 1, by omega, by go_num, by rw [fieldsL, ← List.append_assoc]; exact hbd7, (hbl5.trans (((below_box w5 _).trans (hb6.mono (by simp))).mono (by omega))).trans hbe7, hke7.block hk6 (by omega) (by decide)⟩
              case measure => simp [intOf]; omega
            · go_wp2_with fail
              go_roundw
              case rel =>
                have ej : j = (tth types k).fields.length := by omega
                refine ⟨k + 1, by omega, by go_num, ?_, hbl5, by omega⟩
                rw [typesL, ← List.append_assoc, ← List.append_assoc, ← ej]
                exact hbd5
              case measure => simp [intOf]; omega
      · have hkl : keyL (tth types k) = [] := by rw [keyL, if_pos hke]
        have hkll : (keyL (tth types k)).length = 0 := by rw [hkl]; rfl
        have hW3 := fun W1 (h : Bld (w.heap.size + 1) (w.heap.size + 1) (partHeadL ⟨pname, types⟩ ++ typesL types k ++ (⟨#[116, 121, 112, 101, 32]⟩ ++ (tth types k).name : ByteArray).data.toList) W1) hs => bldByte_any (w.heap.size + 1) (w.heap.size + 1) _ 10 W1 h (by simp only [List.length_append, ByteArray.size_append, tl, sz_lit, List.size_toArray, List.length_cons, List.length_nil]; omega) hs
        go_wp2_with (first
          | (
            go_at_call_of 38 ((tth types k).name)
            refine hW1.mono ?_
            rintro e w1 ⟨rfl, hbd1, hbe1, hke1⟩
            have hk1 := hke1.block hk0 (by omega) (by decide)
            obtain ⟨t11, t12⟩ := TC w1 hk1
            have z1 := hbe1.size
            simp at z1)
          | (
            go_at_call 39
            have hwb := hW3 w1 hbd1 (by omega)
            rw [show (((10 : UInt8).toNat : Nat) : Int) = 10 from rfl] at hwb
            refine hwb.mono ?_
            rintro e w3 ⟨rfl, hbdX, hbe3, hke3⟩
            have hkX := hke3.block hk1 (by omega) (by decide)
            obtain ⟨t31, t32⟩ := TC w3 hkX))
        · have hblX : Below (w.heap.size + 1) (w.alloc (.cells #[.string pname, .slice (some ⟨b, off, none⟩) types.length tc] 25)) w3 := ((hbl.alloc (by omega) _).trans hbe1).trans hbe3
          have HTH : Hid (partHeadL ⟨pname, types⟩ ++ typesL types k ++ typeHeadL (tth types k) = partHeadL ⟨pname, types⟩ ++ typesL types k ++ (⟨#[116, 121, 112, 101, 32]⟩ ++ (tth types k).name : ByteArray).data.toList ++ [10]) := by
            show _ = _
            rw [HTY.out, hkl, append_toList]; simp
          clear hbd1 hbe1 hke1 hk1 hbe3 hke3 hbd0 hW1 hk0
          go_loopw [35] (fun i w2 => ∃ j : Nat, j ≤ (tth types k).fields.length ∧ i = .int .i64 j ∧ Bld (w.heap.size + 1) (w.heap.size + 1) (partHeadL ⟨pname, types⟩ ++ typesL types k ++ typeHeadL (tth types k) ++ fieldsL (tth types k).fields j) w2 ∧ Below (w.heap.size + 1) (w.alloc (.cells #[.string pname, .slice (some ⟨b, off, none⟩) types.length tc] 25)) w2 ∧ w2.heap[w0.heap.size]? = some (.cells #[.string (tth types k).name, .string (tth types k).key, .slice fa (tth types k).fields.length fc] 48 (0, 0))) (fun i _ => (tth types k).fields.length - (intOf i).toNat)
          case atStart => exact ⟨0, Nat.zero_le _, rfl, by rw [fieldsL, List.append_nil, HTH.out]; exact hbdX, hblX, hkX⟩
          case round =>
            clear hbdX hblX hkX
            obtain ⟨w5, rfl⟩ : ∃ x, x = wr := ⟨wr, rfl⟩
            obtain ⟨j, hj, rfl, hbd5, hbl5, hk5⟩ := hrel
            have hw5 : Below w.heap.size w w5 := (below_box w _).trans (hbl5.mono (by omega))
            have z5 : w0.heap.size < w5.heap.size := (Array.getElem?_eq_some_iff.1 hk5).1
            by_cases hjl : j < (tth types k).fields.length
            · obtain ⟨b2, off2, na, nc, rfl, hfr2, hcs2⟩ := hfs.at hB j hjl
              obtain ⟨c0, c1, c2, c3, c4, c5, c6, c7⟩ := hcs2 w5 hw5
              have hsf := szF_le (tth types k) j hjl hszT
              have hsf2 : (fth (tth types k).fields j).name.size + (fth (tth types k).fields j).of.size + szNs (fth (tth types k).fields j).needs ≤ 1048576 := hsf
              obtain ⟨-, -, -, -, -, -, -, -, hSt, hncc, -, -⟩ := hfr2.vals
              have hln := fieldsL_le (tth types k).fields j _ (Nat.le_of_lt hjl)
              have hwf := fun w6 (hb6 : Below (w5.heap.size + 1) (w5.alloc (.cells #[.string (fth (tth types k).fields j).name, .string (fth (tth types k).fields j).of, .bool (fth (tth types k).fields j).list, .bool (fth (tth types k).fields j).must, .bool (fth (tth types k).fields j).far, .bool (fth (tth types k).fields j).hidden, .bool (fth (tth types k).fields j).shared, .slice na (fth (tth types k).fields j).needs.length nc] 37)) w6) => writeField_any (fth (tth types k).fields j).name (fth (tth types k).fields j).of (fth (tth types k).fields j).list (fth (tth types k).fields j).must (fth (tth types k).fields j).far (fth (tth types k).fields j).hidden (fth (tth types k).fields j).shared (fth (tth types k).fields j).needs na nc w6 (w.heap.size + 1) (w.heap.size + 1) _ (hbd5.kept ((below_box w5 _).trans (hb6.mono (by omega)))) (by have := hb6.size; simp at this; omega) (by have := hb6.size; simp at this; omega) (by omega) (by omega) (by simp only [List.length_append] at hln ⊢; omega) ((hSt.under ((hw5.trans (((below_box w5 _).trans (hb6.mono (by omega))).mono (by omega))).mono hB)).sub fun q hq => by omega) hncc (by omega)
              clear hcs2
              go_wp2_with (first
                | (
                  go_at_call 41
                  refine (marksOf_any _ _ _ _ _ _ _ _ _ _ _).mono ?_
                  rintro e w6 ⟨rfl, hb6⟩
                  have hb6' := hb6.mono (show w5.heap.size + 1 ≤ _ by simp)
                  have z6 := hb6.size
                  simp at z6)
                | (
                  go_at_call 40
                  refine (hwf w6 hb6').mono ?_
                  rintro e w7 ⟨rfl, hbd7, hbe7, hke7⟩))
              have hk6 : w6.heap[w0.heap.size]? = some (.cells #[.string (tth types k).name, .string (tth types k).key, .slice (some ⟨b2, off2, none⟩) (tth types k).fields.length fc] 48 (0, 0)) := (hb6.block _ (by simp; omega)).trans (((below_box w5 _).block _ z5).trans hk5)
              go_roundw
              case rel => exact ⟨j + 1, by omega, by go_num, by rw [fieldsL, ← List.append_assoc]; exact hbd7, (hbl5.trans (((below_box w5 _).trans (hb6.mono (by simp))).mono (by omega))).trans hbe7, hke7.block hk6 (by omega) (by decide)⟩
              case measure => simp [intOf]; omega
            · go_wp2_with fail
              go_roundw
              case rel =>
                have ej : j = (tth types k).fields.length := by omega
                refine ⟨k + 1, by omega, by go_num, ?_, hbl5, by omega⟩
                rw [typesL, ← List.append_assoc, ← List.append_assoc, ← ej]
                exact hbd5
              case measure => simp [intOf]; omega
    · have ek : k = types.length := by omega
      go_wp2_with (
        go_at_call 42
        refine (bldDone_any (w.heap.size + 1) (w.heap.size + 1) _ w0 hbd (by omega)).mono ?_
        rintro e w9 ⟨rfl, hbe9⟩)
      exact ⟨rfl, .string ⟨(partHeadL ⟨pname, types⟩ ++ typesL types types.length).toArray⟩, by simp [results, Try.results21, go_sem], by rw [HP0.out], hbw.trans (hbe9.mono (by omega))⟩
end Go.Proofs.Ytdohgkokoicjlaa
namespace Go.Proofs.Ytdohgkokoicjlaa
open Go.RowKit
theorem lineB_len (f : F) : (lineB f).data.toList.length ≤ szF f + 33 := by
  have h1 := lineTo_size f f.needs.length
  have h2 : szF f = f.name.size + f.of.size + (f.needs.length + sumTo f.needs f.needs.length) := rfl
  rw [tl, lineB, ByteArray.size_append]
  have h3 : (⟨#[10]⟩ : ByteArray).size = 1 := rfl
  omega
theorem fieldsL_len (fs : List F) : ∀ n, (fieldsL fs n).length ≤ szFsTo fs n + 33 * n
  | 0 => by simp [fieldsL]
  | n + 1 => by
    have h1 := fieldsL_len fs n
    have h2 := lineB_len (fth fs n)
    rw [fieldsL, List.length_append, szFsTo_succ]
    omega
theorem keyL_len (t : T) : (keyL t).length ≤ 5 + t.key.size := by
  unfold keyL
  split
  · exact Nat.zero_le _
  · rw [List.length_append, tl]; exact Nat.le_refl _
theorem typeHeadL_len (t : T) : (typeHeadL t).length ≤ 11 + t.name.size + t.key.size := by
  have h1 := keyL_len t
  have h2 : ([116, 121, 112, 101, 32] : List UInt8).length = 5 := rfl
  have h3 : ([10] : List UInt8).length = 1 := rfl
  rw [typeHeadL, List.length_append, List.length_append, List.length_append, tl]
  omega
theorem typesL_len (ts : List T) : ∀ n, (typesL ts n).length ≤ 33 * szTsTo ts n + 11 * n
  | 0 => by simp [typesL]
  | n + 1 => by
    have h1 := typesL_len ts n
    have h2 := typeHeadL_len (tth ts n)
    have h3 := fieldsL_len (tth ts n).fields (tth ts n).fields.length
    have h4 : szT (tth ts n) = (tth ts n).name.size + (tth ts n).key.size + ((tth ts n).fields.length + szFsTo (tth ts n).fields (tth ts n).fields.length) := rfl
    rw [typesL, List.length_append, List.length_append, szTsTo_succ]
    omega
theorem partL_len (p : Pt) : (partL p).length ≤ 33 * szP p + 6 := by
  have h1 := typesL_len p.types p.types.length
  have h2 : szP p = p.name.size + (p.types.length + szTsTo p.types p.types.length) := rfl
  have h3 : ([112, 97, 114, 116, 32] : List UInt8).length = 5 := rfl
  have h4 : ([10] : List UInt8).length = 1 := rfl
  rw [partL, partHeadL, List.length_append, List.length_append, List.length_append, tl]
  omega
theorem partText_all (p : Pt) (w : World) (B : Nat) (v : Value) (hP : PRep w (· < B) p v) (hB : B ≤ w.heap.size) (hz : szP p ≤ 1048576) :
    Calls Try.prog 21 #[v] w fun e w' => e = .returned (.string ⟨(partL p).toArray⟩) ∧ Below w.heap.size w w' :=
  partText_any p w B v hP hB hz (by have := partL_len p; omega)
end Go.Proofs.Ytdohgkokoicjlaa
namespace Go.Proofs.Ytdohgkokoicjlaa
open Go.RowKit
def badAt (p : Pt) : Nat → Nat → Nat
  | k, 0 => k
  | k, n + 1 => if typeCode p k = 0 then badAt p (k + 1) n else k
def badT (p : Pt) : Nat := badAt p 0 p.types.length
def partErr (p : Pt) : Value :=
  if 5 < p.types.length then .iface 79 (.agg #[.int .i64 6, .iface 77 (.int .i64 6)])
  else if nameB p.name = false then .iface 77 (.int .i64 1)
  else if hasRootB p = false then .iface 77 (.int .i64 7)
  else if badT p < p.types.length then .iface 79 (.agg #[.int .i64 ((badT p : Nat) + 1 : Int), codeErr (typeCode p (badT p))])
  else if 1500 < (partL p).length then .iface 77 (.int .i64 6) else .nilIface
set_option maxHeartbeats 3200000 in
theorem checkPart_any (p : Pt) (w : World) (B : Nat) (v : Value) (hP : PRep w (· < B) p v) (hB : B ≤ w.heap.size) (hz : szP p ≤ 1048576) :
    Calls Try.prog 20 #[v] w fun e w' => e = .returned (partErr p) ∧ Below w.heap.size w w' := by
  have hP' := hP
  obtain ⟨pname, types⟩ := p
  obtain ⟨ta, tc, rfl, hK, hnc, hpn⟩ := hP
  simp only at hK hnc hpn hP'
  have h56 := hK.1
  have hE : Hid (partErr ⟨pname, types⟩ = if 5 < types.length then .iface 79 (.agg #[.int .i64 6, .iface 77 (.int .i64 6)])
    else if nameB pname = false then .iface 77 (.int .i64 1)
    else if hasRootB ⟨pname, types⟩ = false then .iface 77 (.int .i64 7)
    else if badT ⟨pname, types⟩ < types.length then .iface 79 (.agg #[.int .i64 ((badT ⟨pname, types⟩ : Nat) + 1 : Int), codeErr (typeCode ⟨pname, types⟩ (badT ⟨pname, types⟩))])
    else if 1500 < (partL ⟨pname, types⟩).length then .iface 77 (.int .i64 6) else .nilIface) := rfl
  have PC : ∀ W, Below (w.heap.size + 1) (w.alloc (.cells #[.string pname, .slice ta types.length tc] 25)) W → W.cell? ⟨w.heap.size, 0, none⟩ = some (.string pname) ∧ W.cell? ⟨w.heap.size, 1, none⟩ = some (.slice ta types.length tc) ∧ Below w.heap.size w W ∧ B ≤ W.heap.size ∧ w.heap.size + 1 ≤ W.heap.size := fun W h => by
    have hs := h.size
    simp at hs
    exact ⟨(h.cell (p := ⟨w.heap.size, 0, none⟩) (by show w.heap.size < _; omega)).trans (box_new _ _ 0 (by simp)), (h.cell (p := ⟨w.heap.size, 1, none⟩) (by show w.heap.size < _; omega)).trans (box_new _ _ 1 (by simp)), (below_box w _).trans (h.mono (by omega)), by omega, by omega⟩
  have hT0 := Below.refl (w.heap.size + 1) (w.alloc (.cells #[.string pname, .slice ta types.length tc] 25))
  have hR := fun W h => hasRoot_any ⟨pname, types⟩ W B _ (hP'.under ((PC W h).2.2.1.mono hB)) (PC W h).2.2.2.1
  have hC := fun W h k hk => checkType_any ⟨pname, types⟩ k W B _ (hP'.under ((PC W h).2.2.1.mono hB)) hk (PC W h).2.2.2.1
  have hX := fun W h => partText_all ⟨pname, types⟩ W B _ (hP'.under ((PC W h).2.2.1.mono hB)) (PC W h).2.2.2.1 hz
  have hN := fun W => isName_any pname W hpn
  by_cases h5 : 5 < types.length
  · have d : (5 : Int) < (types.length : Int) := by omega
    go_enter Try.func20, Try.ntmps20
    go_wp2_with fail
    go_ret
    exact ⟨by rw [hE.out, if_pos h5]; rfl, (PC _ hT0).2.2.1⟩
  have d5 : ¬ (5 : Int) < (types.length : Int) := by omega
  cases hn : nameB pname
  · rw [hn] at hN
    go_enter Try.func20, Try.ntmps20
    go_wp2_with (
      go_at_call 35
      refine (hN _).mono ?_
      rintro e w1 ⟨rfl, rfl⟩)
    go_ret
    exact ⟨by rw [hE.out, if_neg h5, if_pos hn]; rfl, (PC _ hT0).2.2.1⟩
  cases hr : hasRootB ⟨pname, types⟩
  · rw [hn] at hN
    rw [hr] at hR
    go_enter Try.func20, Try.ntmps20
    go_wp2_with (first
      | (
        go_at_call 35
        refine (hN _).mono ?_
        rintro e w1 ⟨rfl, rfl⟩)
      | (
        go_at_call 36
        refine (hR _ hT0).mono ?_
        rintro e w2 ⟨rfl, hb2⟩
        have hT2 := hT0.trans (hb2.mono (by simp))))
    go_ret
    exact ⟨by rw [hE.out, if_neg h5, if_neg (by rw [hn]; simp), if_pos hr]; rfl, (PC _ hT2).2.2.1⟩
  rw [hn] at hN
  rw [hr] at hR
  go_enter Try.func20, Try.ntmps20
  go_wp2_with (first
    | (
      go_at_call 35
      refine (hN _).mono ?_
      rintro e w1 ⟨rfl, rfl⟩)
    | (
      go_at_call 36
      refine (hR _ hT0).mono ?_
      rintro e w2 ⟨rfl, hb2⟩
      have hT2 := hT0.trans (hb2.mono (by simp))
      obtain ⟨q20, q21, hw2, hB2, hs2⟩ := PC w2 hT2))
  go_loopw [24] (fun i wr => ∃ k : Nat, k ≤ types.length ∧ i = .int .i64 k ∧ Hid (badT ⟨pname, types⟩ = badAt ⟨pname, types⟩ k (types.length - k)) ∧ Below (w.heap.size + 1) (w.alloc (.cells #[.string pname, .slice ta types.length tc] 25)) wr) (fun i _ => types.length - (intOf i).toNat)
  case atStart => exact ⟨0, Nat.zero_le _, rfl, rfl, hT2⟩
  case round =>
    clear q20 q21 hw2 hB2 hs2 hT2 hb2
    obtain ⟨k, hk, rfl, HBD, hbl⟩ := hrel
    obtain ⟨w0, rfl⟩ : ∃ x, x = wr := ⟨wr, rfl⟩
    obtain ⟨q0, q1, hw0, hB0, hs0⟩ := PC w0 hbl
    by_cases hlt : k < types.length
    · have hC1 := hC w0 hbl k hlt
      have HB2 : Hid (badT ⟨pname, types⟩ = if typeCode ⟨pname, types⟩ k = 0 then badAt ⟨pname, types⟩ (k + 1) (types.length - (k + 1)) else k) := by
        show _ = _
        rw [HBD.out, show types.length - k = (types.length - (k + 1)) + 1 by omega, badAt]
      by_cases hc : typeCode ⟨pname, types⟩ k = 0
      · rw [hc, show codeErr 0 = .nilIface from rfl] at hC1
        go_wp2_with (
          go_at_call 37
          refine hC1.mono ?_
          rintro e w3 ⟨rfl, hb3⟩
          have hT3 := hbl.trans (hb3.mono (by omega)))
        go_roundw
        case rel => exact ⟨k + 1, by omega, by go_num, by show _ = _; rw [HB2.out, if_pos hc], hT3⟩
        case measure => simp [intOf]; omega
      · have HBK : Hid (badT ⟨pname, types⟩ = k) := by show _ = _; rw [HB2.out, if_neg hc]
        have hce : codeErr (typeCode ⟨pname, types⟩ k) = .iface 77 (.int .i64 (typeCode ⟨pname, types⟩ k)) := by rw [codeErr, if_neg hc]
        rw [hce] at hC1
        go_wp2_with (
          go_at_call 37
          refine hC1.mono ?_
          rintro e w3 ⟨rfl, hb3⟩
          have hT3 := hbl.trans (hb3.mono (by omega)))
        refine bodyPost_ret (v := .iface 79 (.agg #[.int .i64 ((k : Nat) + 1 : Int), .iface 77 (.int .i64 (typeCode ⟨pname, types⟩ k))])) ?res rfl ⟨?_, (PC _ hT3).2.2.1⟩
        case res => simp [results, Try.results20, go_sem]
        rw [hE.out, if_neg h5, if_neg (by rw [hn]; simp), if_neg (by rw [hr]; simp), HBK.out, if_pos hlt, hce]
    · have HBK : Hid (badT ⟨pname, types⟩ = types.length) := by
        show _ = _
        rw [HBD.out, show types.length - k = 0 by omega, badAt]; omega
      have hX1 := hX w0 hbl
      have hln := partL_len ⟨pname, types⟩
      have hsz : (⟨(partL ⟨pname, types⟩).toArray⟩ : ByteArray).size = (partL ⟨pname, types⟩).length := List.size_toArray
      generalize (⟨(partL ⟨pname, types⟩).toArray⟩ : ByteArray) = tx at hX1 hsz
      have htz : Hid (tx.size = (partL ⟨pname, types⟩).length) := hsz
      have hsm : tx.size ≤ 9223372036854775807 := by omega
      by_cases hlen : 1500 < (partL ⟨pname, types⟩).length
      · have d : (1500 : Int) < (tx.size : Int) := by omega
        clear hsz hln
        go_wp2_with (
          go_at_call 21
          refine hX1.mono ?_
          rintro e w3 ⟨rfl, hb3⟩
          have hT3 := hbl.trans (hb3.mono (by omega)))
        refine bodyPost_ret (v := .iface 77 (.int .i64 6)) ?res rfl ⟨?_, (PC _ hT3).2.2.1⟩
        case res => simp [results, Try.results20, go_sem]
        rw [hE.out, if_neg h5, if_neg (by rw [hn]; simp), if_neg (by rw [hr]; simp), HBK.out, if_neg (by omega), if_pos hlen]
      · have d : ¬ (1500 : Int) < (tx.size : Int) := by omega
        clear hsz hln
        go_wp2_with (
          go_at_call 21
          refine hX1.mono ?_
          rintro e w3 ⟨rfl, hb3⟩
          have hT3 := hbl.trans (hb3.mono (by omega)))
        refine bodyPost_ret (v := .nilIface) ?res rfl ⟨?_, (PC _ hT3).2.2.1⟩
        case res => simp [results, Try.results20, go_sem]
        rw [hE.out, if_neg h5, if_neg (by rw [hn]; simp), if_neg (by rw [hr]; simp), HBK.out, if_neg (by omega), if_neg hlen]
end Go.Proofs.Ytdohgkokoicjlaa
namespace Go.Proofs.Ytdohgkokoicjlaa
open Go.RowKit
set_option maxHeartbeats 3200000 in
theorem l2Write_any (p : Pt) (w : World) (B : Nat) (v : Value) (hP : PRep w (· < B) p v) (hB : B ≤ w.heap.size) (hz : szP p ≤ 1048576) :
    Calls Try.prog 22 #[v] w fun e w' => e = .returned (.string ⟨(partL p).toArray⟩) ∧ Below w.heap.size w w' := by
  have hP' := hP
  obtain ⟨pname, types⟩ := p
  obtain ⟨ta, tc, rfl, hK, hnc, hpn⟩ := hP
  simp only at hK hnc hpn hP'
  have h56 := hK.1
  have hpl := partL_len ⟨pname, types⟩
  have hl2 : (partHeadL ⟨pname, types⟩).length + (typesL types types.length).length ≤ 34603020 := by rw [← List.length_append]; have : (partHeadL ⟨pname, types⟩ ++ typesL types types.length).length ≤ _ := hpl; omega
  have hpz : pname.size ≤ 1048576 := by have : pname.size + szTs types ≤ 1048576 := hz; omega
  have HP0 : Hid (partL ⟨pname, types⟩ = partHeadL ⟨pname, types⟩ ++ typesL types types.length) := rfl
  have HH : Hid ((⟨#[112, 97, 114, 116, 32]⟩ ++ pname ++ ⟨#[10]⟩ : ByteArray) = ⟨(partHeadL ⟨pname, types⟩ ++ typesL types 0).toArray⟩) := by show _ = _; apply ByteArray.ext; apply Array.toList_inj.1; rw [append_toList, append_toList, typesL, List.append_nil]; rfl
  have b1 : 5 + pname.size ≤ 9223372036854775807 := by omega
  have b2 : 5 + pname.size + 1 ≤ 9223372036854775807 := by omega
  have PC : ∀ W, Below (w.heap.size + 1) (w.alloc (.cells #[.string pname, .slice ta types.length tc] 25)) W → W.cell? ⟨w.heap.size, 1, none⟩ = some (.slice ta types.length tc) := fun W h => (h.cell (p := ⟨w.heap.size, 1, none⟩) (by show w.heap.size < _; omega)).trans (box_new _ _ 1 (by simp))
  go_enter Try.func22, Try.ntmps22
  go_wp2_with fail
  go_loopw [3, 4] (fun o i wr => ∃ k : Nat, ∃ x : ByteArray, k ≤ types.length ∧ i = .int .i64 k ∧ o = .string x ∧ Hid (x.data.toList = partHeadL ⟨pname, types⟩ ++ typesL types k) ∧ Below (w.heap.size + 1) (w.alloc (.cells #[.string pname, .slice ta types.length tc] 25)) wr) (fun _ i _ => types.length - (intOf i).toNat)
  case atStart => exact ⟨0, _, Nat.zero_le _, rfl, rfl, by show _ = _; rw [HH.out], Below.refl _ _⟩
  case round =>
    obtain ⟨k, x, hk, rfl, rfl, HX, hbl⟩ := hrel
    obtain ⟨w0, rfl⟩ : ∃ x, x = wr := ⟨wr, rfl⟩
    have hbw : Below w.heap.size w w0 := (below_box w _).trans (hbl.mono (by omega))
    have pc := PC w0 hbl
    have hz0 := hbl.size
    simp at hz0
    by_cases hlt : k < types.length
    · obtain ⟨b, off, fa, fc, rfl, htr, hcs⟩ := hK.at hB k hlt
      obtain ⟨c0, c1, c2⟩ := hcs w0 hbw
      obtain ⟨fa', fc', e0, e1, e2, hfs, hffc, hs1, hs2⟩ := htr.parts
      simp only [Value.slice.injEq] at e2
      obtain ⟨rfl, -, rfl⟩ := e2
      have hf56 := hfs.1
      have hszT := szT_le ⟨pname, types⟩ k hlt hz
      simp only at hszT
      have hszT2 : (tth types k).name.size + (tth types k).key.size + szFs (tth types k).fields ≤ 1048576 := hszT
      have hlk := typesL_le types (k + 1) _ hlt
      rw [typesL, List.length_append, List.length_append] at hlk
      have hxs : x.size = (partHeadL ⟨pname, types⟩).length + (typesL types k).length := by rw [← tl, HX.out, List.length_append]
      have b3 : x.size + 5 ≤ 9223372036854775807 := by omega
      have b4 : x.size + 5 + (tth types k).name.size ≤ 9223372036854775807 := by omega
      have b5 : x.size + 5 + (tth types k).name.size + 5 ≤ 9223372036854775807 := by omega
      have b6 : x.size + 5 + (tth types k).name.size + 5 + (tth types k).key.size ≤ 9223372036854775807 := by omega
      have b7 : x.size + 5 + (tth types k).name.size + 5 + (tth types k).key.size + 1 ≤ 9223372036854775807 := by omega
      have b8 : x.size + 5 + (tth types k).name.size + 1 ≤ 9223372036854775807 := by omega
      have HTY : Hid (typeHeadL (tth types k) = [116, 121, 112, 101, 32] ++ (tth types k).name.data.toList ++ keyL (tth types k) ++ [10]) := rfl
      have hk0 := heap_alloc_new w0 (.cells #[.string (tth types k).name, .string (tth types k).key, .slice fa (tth types k).fields.length fc] 48)
      clear hcs htr e0 e1 hxs
      cases hke : (tth types k).key.toList.isEmpty
      · have hkl : keyL (tth types k) = [32, 107, 101, 121, 32] ++ (tth types k).key.data.toList := by rw [keyL, if_neg (by rw [hke]; simp)]
        go_wp2_with fail
        have HTH : Hid ((x ++ ⟨#[116, 121, 112, 101, 32]⟩ ++ (tth types k).name ++ ⟨#[32, 107, 101, 121, 32]⟩ ++ (tth types k).key ++ ⟨#[10]⟩ : ByteArray).data.toList = partHeadL ⟨pname, types⟩ ++ typesL types k ++ typeHeadL (tth types k) ++ fieldsL (tth types k).fields 0) := by
          show _ = _
          rw [append_toList, append_toList, append_toList, append_toList, append_toList, HX.out, fieldsL, List.append_nil, HTY.out, hkl]; simp
        have TC : ∀ W : World, W.heap[w0.heap.size]? = some (.cells #[.string (tth types k).name, .string (tth types k).key, .slice fa (tth types k).fields.length fc] 48 (0, 0)) → W.cell? ⟨w0.heap.size, 2, none⟩ = some (.slice fa (tth types k).fields.length fc) := fun W h => (box_at h 2 (by simp)).1
        go_loopw [3, 6] (fun o i w2 => ∃ j : Nat, ∃ y : ByteArray, j ≤ (tth types k).fields.length ∧ i = .int .i64 j ∧ o = .string y ∧ Hid (y.data.toList = partHeadL ⟨pname, types⟩ ++ typesL types k ++ typeHeadL (tth types k) ++ fieldsL (tth types k).fields j) ∧ Below (w.heap.size + 1) (w.alloc (.cells #[.string pname, .slice (some ⟨b, off, none⟩) types.length tc] 25)) w2 ∧ w2.heap[w0.heap.size]? = some (.cells #[.string (tth types k).name, .string (tth types k).key, .slice fa (tth types k).fields.length fc] 48 (0, 0))) (fun _ i _ => (tth types k).fields.length - (intOf i).toNat)
        case atStart => exact ⟨0, _, Nat.zero_le _, rfl, rfl, HTH, hbl.alloc (by omega) _, hk0⟩
        case round =>
          obtain ⟨j, y, hj, rfl, rfl, HY, hbl5, hk5⟩ := hrel
          obtain ⟨w5, rfl⟩ : ∃ x, x = wr := ⟨wr, rfl⟩
          have hw5 : Below w.heap.size w w5 := (below_box w _).trans (hbl5.mono (by omega))
          have z5 : w0.heap.size < w5.heap.size := (Array.getElem?_eq_some_iff.1 hk5).1
          have t5 := TC w5 hk5
          by_cases hjl : j < (tth types k).fields.length
          · obtain ⟨b2, off2, na, nc, rfl, hfr2, hcs2⟩ := hfs.at hB j hjl
            obtain ⟨c0, c1, c2, c3, c4, c5, c6, c7⟩ := hcs2 w5 hw5
            have hsf := szF_le (tth types k) j hjl hszT
            have hln := fieldsL_le (tth types k).fields (j + 1) _ hjl
            rw [fieldsL, List.length_append] at hln
            have hys : y.size = (partHeadL ⟨pname, types⟩).length + (typesL types k).length + (typeHeadL (tth types k)).length + (fieldsL (tth types k).fields j).length := by rw [← tl, HY.out, List.length_append, List.length_append, List.length_append]
            have b9 : y.size + (lineB (fth (tth types k).fields j)).size ≤ 9223372036854775807 := by rw [tl] at hln; omega
            obtain ⟨-, -, -, -, -, -, -, -, hSt, hncc, -, -⟩ := hfr2.vals
            have hwl := l2Line_one (fth (tth types k).fields j).name (fth (tth types k).fields j).of (fth (tth types k).fields j).list (fth (tth types k).fields j).must (fth (tth types k).fields j).far (fth (tth types k).fields j).hidden (fth (tth types k).fields j).shared (fth (tth types k).fields j).needs w5 na nc ((hSt.under (hw5.mono hB)).sub fun q hq => by omega) hsf
            rw [show (⟨(fth (tth types k).fields j).name, (fth (tth types k).fields j).of, (fth (tth types k).fields j).list, (fth (tth types k).fields j).must, (fth (tth types k).fields j).far, (fth (tth types k).fields j).hidden, (fth (tth types k).fields j).shared, (fth (tth types k).fields j).needs⟩ : F) = fth (tth types k).fields j from rfl] at hwl
            clear hcs2 hys hln
            go_wp2_with (
              go_at_call 43
              refine hwl.mono ?_
              rintro e w6 ⟨rfl, hb6⟩)
            go_roundw
            case rel => exact ⟨j + 1, _, by omega, by go_num, rfl, by show _ = _; rw [fieldsL, append_toList, HY.out]; simp only [List.append_assoc], hbl5.trans (hb6.mono (by omega)), (hb6.block _ z5).trans hk5⟩
            case measure => simp [intOf]; omega
          · go_wp2_with fail
            go_roundw
            case rel =>
              have ej : j = (tth types k).fields.length := by omega
              exact ⟨k + 1, y, by omega, by go_num, rfl, by show _ = _; rw [HY.out, typesL, ej]; simp only [List.append_assoc], hbl5⟩
            case measure => simp [intOf]; omega
      · have hkl : keyL (tth types k) = [] := by rw [keyL, if_pos hke]
        go_wp2_with fail
        have HTH : Hid ((x ++ ⟨#[116, 121, 112, 101, 32]⟩ ++ (tth types k).name ++ ⟨#[10]⟩ : ByteArray).data.toList = partHeadL ⟨pname, types⟩ ++ typesL types k ++ typeHeadL (tth types k) ++ fieldsL (tth types k).fields 0) := by
          show _ = _
          rw [append_toList, append_toList, append_toList, HX.out, fieldsL, List.append_nil, HTY.out, hkl]; simp
        have TC : ∀ W : World, W.heap[w0.heap.size]? = some (.cells #[.string (tth types k).name, .string (tth types k).key, .slice fa (tth types k).fields.length fc] 48 (0, 0)) → W.cell? ⟨w0.heap.size, 2, none⟩ = some (.slice fa (tth types k).fields.length fc) := fun W h => (box_at h 2 (by simp)).1
        go_loopw [3, 6] (fun o i w2 => ∃ j : Nat, ∃ y : ByteArray, j ≤ (tth types k).fields.length ∧ i = .int .i64 j ∧ o = .string y ∧ Hid (y.data.toList = partHeadL ⟨pname, types⟩ ++ typesL types k ++ typeHeadL (tth types k) ++ fieldsL (tth types k).fields j) ∧ Below (w.heap.size + 1) (w.alloc (.cells #[.string pname, .slice (some ⟨b, off, none⟩) types.length tc] 25)) w2 ∧ w2.heap[w0.heap.size]? = some (.cells #[.string (tth types k).name, .string (tth types k).key, .slice fa (tth types k).fields.length fc] 48 (0, 0))) (fun _ i _ => (tth types k).fields.length - (intOf i).toNat)
        case atStart => exact ⟨0, _, Nat.zero_le _, rfl, rfl, HTH, hbl.alloc (by omega) _, hk0⟩
        case round =>
          obtain ⟨j, y, hj, rfl, rfl, HY, hbl5, hk5⟩ := hrel
          obtain ⟨w5, rfl⟩ : ∃ x, x = wr := ⟨wr, rfl⟩
          have hw5 : Below w.heap.size w w5 := (below_box w _).trans (hbl5.mono (by omega))
          have z5 : w0.heap.size < w5.heap.size := (Array.getElem?_eq_some_iff.1 hk5).1
          have t5 := TC w5 hk5
          by_cases hjl : j < (tth types k).fields.length
          · obtain ⟨b2, off2, na, nc, rfl, hfr2, hcs2⟩ := hfs.at hB j hjl
            obtain ⟨c0, c1, c2, c3, c4, c5, c6, c7⟩ := hcs2 w5 hw5
            have hsf := szF_le (tth types k) j hjl hszT
            have hln := fieldsL_le (tth types k).fields (j + 1) _ hjl
            rw [fieldsL, List.length_append] at hln
            have hys : y.size = (partHeadL ⟨pname, types⟩).length + (typesL types k).length + (typeHeadL (tth types k)).length + (fieldsL (tth types k).fields j).length := by rw [← tl, HY.out, List.length_append, List.length_append, List.length_append]
            have b9 : y.size + (lineB (fth (tth types k).fields j)).size ≤ 9223372036854775807 := by rw [tl] at hln; omega
            obtain ⟨-, -, -, -, -, -, -, -, hSt, hncc, -, -⟩ := hfr2.vals
            have hwl := l2Line_one (fth (tth types k).fields j).name (fth (tth types k).fields j).of (fth (tth types k).fields j).list (fth (tth types k).fields j).must (fth (tth types k).fields j).far (fth (tth types k).fields j).hidden (fth (tth types k).fields j).shared (fth (tth types k).fields j).needs w5 na nc ((hSt.under (hw5.mono hB)).sub fun q hq => by omega) hsf
            rw [show (⟨(fth (tth types k).fields j).name, (fth (tth types k).fields j).of, (fth (tth types k).fields j).list, (fth (tth types k).fields j).must, (fth (tth types k).fields j).far, (fth (tth types k).fields j).hidden, (fth (tth types k).fields j).shared, (fth (tth types k).fields j).needs⟩ : F) = fth (tth types k).fields j from rfl] at hwl
            clear hcs2 hys hln
            go_wp2_with (
              go_at_call 43
              refine hwl.mono ?_
              rintro e w6 ⟨rfl, hb6⟩)
            go_roundw
            case rel => exact ⟨j + 1, _, by omega, by go_num, rfl, by show _ = _; rw [fieldsL, append_toList, HY.out]; simp only [List.append_assoc], hbl5.trans (hb6.mono (by omega)), (hb6.block _ z5).trans hk5⟩
            case measure => simp [intOf]; omega
          · go_wp2_with fail
            go_roundw
            case rel =>
              have ej : j = (tth types k).fields.length := by omega
              exact ⟨k + 1, y, by omega, by go_num, rfl, by show _ = _; rw [HY.out, typesL, ej]; simp only [List.append_assoc], hbl5⟩
            case measure => simp [intOf]; omega
    · go_wp2_with fail
      have ek : k = types.length := by omega
      have hxe : x = ⟨(partL ⟨pname, types⟩).toArray⟩ := by apply ByteArray.ext; apply Array.toList_inj.1; rw [HX.out, HP0.out, ek]
      go_ret
      exact ⟨by rw [← hxe]; rfl, hbw⟩
end Go.Proofs.Ytdohgkokoicjlaa
