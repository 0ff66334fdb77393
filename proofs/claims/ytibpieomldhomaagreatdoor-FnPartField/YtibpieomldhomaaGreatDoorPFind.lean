/-
  The model's questions of a part: where a type and a field stand.
-/
import Derived.Test.YtibpieomldhomaaGreatDoorPSpec
namespace Go.Proofs.YtibpieomldhomaaGreatDoor
set_option linter.unusedSimpArgs false
set_option linter.unusedVariables false
open Go.RowKit

/-- The first place that fits, -1 if none does. -/
def firstTo (p : Nat → Bool) (n : Nat) : Int := match (List.range n).find? p with
  | some i => i
  | none => -1
theorem firstTo_none {p : Nat → Bool} {n : Nat} (h : ∀ i, i < n → p i = false) : firstTo p n = -1 := by
  have : (List.range n).find? p = none := by
    rw [List.find?_eq_none]; intro i hi; simpa using h i (by simpa using hi)
  rw [firstTo, this]
theorem firstTo_hit {p : Nat → Bool} {n k : Nat} (h : ∀ i, i < k → p i = false) (hk : p k = true) (hn : k < n) : firstTo p n = k := by
  have : (List.range n).find? p = some k := by
    rw [List.find?_range_eq_some]
    exact ⟨hk, by simpa using hn, fun i hi => by simpa using h i hi⟩
  rw [firstTo, this]
theorem firstTo_cases (p : Nat → Bool) (n : Nat) : (firstTo p n = -1 ∧ ∀ i, i < n → p i = false) ∨ ∃ k : Nat, firstTo p n = k ∧ k < n ∧ p k = true ∧ ∀ i, i < k → p i = false := by
  cases h : (List.range n).find? p with
  | none =>
    left
    refine ⟨by rw [firstTo, h], fun i hi => ?_⟩
    rw [List.find?_eq_none] at h
    simpa using h i (by simpa using hi)
  | some k =>
    right
    rw [List.find?_range_eq_some] at h
    exact ⟨k, by rw [firstTo, List.find?_range_eq_some.2 h], by simpa using h.2.1, h.1, fun i hi => by simpa using h.2.2 i hi⟩

set_option maxHeartbeats 400000 in
theorem l2Type_any (p : Pt) (w : World) (B : Nat) (v : Value) (s : ByteArray) (hR : PRep w (· < B) p v) (hB : B ≤ w.heap.size) :
    Calls Tryz.prog 19 #[v, .string s] w fun e w' => e = .returned (.int .i64 (firstTo (fun i => (tth p.types i).name.toList == s.toList) p.types.length)) ∧ Below w.heap.size w w' := by
  obtain ⟨name, types⟩ := p
  obtain ⟨ta, tc, rfl, hK, hnc, hn⟩ := hR
  simp only at hK hnc hn ⊢
  have h3 := hK.1
  obtain ⟨-, C, hA, hr⟩ := hK
  by_cases hn0 : types.length = 0
  · go_enter Tryz.func19, Tryz.ntmps19
    go_wp2_with fail
    go_loop [5] (fun i => i = .int .i64 0) (fun _ => 0)
    case atStart => rfl
    case round =>
      subst hrel
      go_wp2_with fail
      go_ret
      exact ⟨ret_int (by first | rfl | (rw [hn0]; rfl)), below_box _ _⟩
  · obtain ⟨b, off, rfl, hbB, hc⟩ := hA (by omega)
    have hcell : ∀ k, k < types.length → ∀ o, (w.alloc o).cell? ⟨b, off + k * 3, none⟩ = some (.string (tth types k).name) := fun k hk o => by
      have h1 := hc k hk 0 (by omega)
      have h2 : C k 0 = .string (tth types k).name := by
        obtain ⟨x, y, hv, -⟩ := hr k hk
        simp only [Value.agg.injEq, Array.mk.injEq, List.cons.injEq] at hv
        exact hv.1
      rw [h2] at h1
      exact ((below_box w o).cell (p := ⟨b, off + k * 3, none⟩) (by show b < _; omega)).trans h1
    clear hc
    go_enter Tryz.func19, Tryz.ntmps19
    go_wp2_with fail
    go_loop [5] (fun i => ∃ k : Nat, k ≤ types.length ∧ i = .int .i64 k ∧ ∀ j, j < k → ((tth types j).name.toList == s.toList) = false) (fun i => types.length - (intOf i).toNat)
    case atStart => exact ⟨0, Nat.zero_le _, rfl, fun j hj => by omega⟩
    case round =>
      obtain ⟨k, hk, rfl, hp⟩ := hrel
      have HP : Hid (∀ j, j < k → ((tth types j).name.toList == s.toList) = false) := hp
      clear hp
      by_cases hlt : k < types.length
      · have hck := hcell k hlt
        clear hcell
        cases he : ((tth types k).name.toList == s.toList)
        · go_wp2_with fail
          go_round
          case rel => exact ⟨k + 1, by omega, by go_num, fun j hj => by by_cases e : j = k; · subst e; exact he
                                                                        · exact HP.out j (by omega)⟩
          case measure => simp [intOf]; omega
        · go_wp2_with fail
          go_ret
          exact ⟨ret_int (firstTo_hit HP.out he hlt).symm, below_box _ _⟩
      · go_wp2_with fail
        go_ret
        have e : k = types.length := by omega
        exact ⟨ret_int (firstTo_none (e ▸ HP.out)).symm, below_box _ _⟩

set_option maxHeartbeats 400000 in
theorem l2Field_any (t : T) (w : World) (B : Nat) (v : Value) (s : ByteArray) (hR : TRep w (· < B) t v) (hB : B ≤ w.heap.size) :
    Calls Tryz.prog 20 #[v, .string s] w fun e w' => e = .returned (.int .i64 (firstTo (fun i => (fth t.fields i).name.toList == s.toList) t.fields.length)) ∧ Below w.heap.size w w' := by
  obtain ⟨name, key, fields⟩ := t
  obtain ⟨ta, tc, rfl, hK, hnc, hn, ho⟩ := hR
  simp only at hK hnc hn ho ⊢
  have h3 := hK.1
  obtain ⟨-, C, hA, hr⟩ := hK
  by_cases hn0 : fields.length = 0
  · go_enter Tryz.func20, Tryz.ntmps20
    go_wp2_with fail
    go_loop [5] (fun i => i = .int .i64 0) (fun _ => 0)
    case atStart => rfl
    case round =>
      subst hrel
      go_wp2_with fail
      go_ret
      exact ⟨ret_int (by first | rfl | (rw [hn0]; rfl)), below_box _ _⟩
  · obtain ⟨b, off, rfl, hbB, hc⟩ := hA (by omega)
    have hcell : ∀ k, k < fields.length → ∀ o, (w.alloc o).cell? ⟨b, off + k * 8, none⟩ = some (.string (fth fields k).name) := fun k hk o => by
      have h1 := hc k hk 0 (by omega)
      have h2 : C k 0 = .string (fth fields k).name := by
        obtain ⟨x, y, hv, -⟩ := hr k hk
        simp only [Value.agg.injEq, Array.mk.injEq, List.cons.injEq] at hv
        exact hv.1
      rw [h2] at h1
      exact ((below_box w o).cell (p := ⟨b, off + k * 8, none⟩) (by show b < _; omega)).trans h1
    clear hc
    go_enter Tryz.func20, Tryz.ntmps20
    go_wp2_with fail
    go_loop [5] (fun i => ∃ k : Nat, k ≤ fields.length ∧ i = .int .i64 k ∧ ∀ j, j < k → ((fth fields j).name.toList == s.toList) = false) (fun i => fields.length - (intOf i).toNat)
    case atStart => exact ⟨0, Nat.zero_le _, rfl, fun j hj => by omega⟩
    case round =>
      obtain ⟨k, hk, rfl, hp⟩ := hrel
      have HP : Hid (∀ j, j < k → ((fth fields j).name.toList == s.toList) = false) := hp
      clear hp
      by_cases hlt : k < fields.length
      · have hck := hcell k hlt
        clear hcell
        cases he : ((fth fields k).name.toList == s.toList)
        · go_wp2_with fail
          go_round
          case rel => exact ⟨k + 1, by omega, by go_num, fun j hj => by by_cases e : j = k; · subst e; exact he
                                                                        · exact HP.out j (by omega)⟩
          case measure => simp [intOf]; omega
        · go_wp2_with fail
          go_ret
          exact ⟨ret_int (firstTo_hit HP.out he hlt).symm, below_box _ _⟩
      · go_wp2_with fail
        go_ret
        have e : k = fields.length := by omega
        exact ⟨ret_int (firstTo_none (e ▸ HP.out)).symm, below_box _ _⟩
end Go.Proofs.YtibpieomldhomaaGreatDoor
