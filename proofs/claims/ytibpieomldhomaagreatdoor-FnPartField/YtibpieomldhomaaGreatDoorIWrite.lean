/-
  The program's PartWrite.
-/
import Derived.Test.YtibpieomldhomaaGreatDoorICheckP
namespace Go.Proofs.YtibpieomldhomaaGreatDoor
set_option linter.unusedSimpArgs false
set_option linter.unusedVariables false
open Go.RowKit

/-- The program finds nothing wrong with a part. -/
def okP (p : Pt) : Bool := !(decide (5 < p.types.length)) && nameB p.name && hasRootB p && !(decide (badT p < p.types.length)) && !(decide (1500 < (partL p).length))
theorem typeCode_bad (p : Pt) : ∀ n k, badAt p k n < k + n → typeCode p (badAt p k n) ≠ 0
  | 0, k, h => by simp [badAt] at h
  | n + 1, k, h => by
    rw [badAt] at h ⊢
    by_cases e : typeCode p k = 0
    · rw [if_pos e] at h ⊢; exact typeCode_bad p n (k + 1) (by omega)
    · rw [if_neg e]; exact e
theorem partErr_ok (p : Pt) (h : okP p = true) : partErr p = .nilIface := by
  simp only [okP, Bool.and_eq_true, Bool.not_eq_true', decide_eq_false_iff_not] at h
  obtain ⟨⟨⟨⟨a, b⟩, c⟩, d⟩, e⟩ := h
  rw [partErr, if_neg a, if_neg (by rw [b]; simp), if_neg (by rw [c]; simp), if_neg d, if_neg e]
theorem partErr_bad (p : Pt) (h : okP p = false) : (∃ x, partErr p = .iface 65 (.int .i64 x)) ∨ ∃ i x, partErr p = .iface 67 (.agg #[.int .i64 i, .iface 65 (.int .i64 x)]) := by
  unfold partErr
  by_cases a : 5 < p.types.length
  · rw [if_pos a]; exact .inr ⟨_, _, rfl⟩
  rw [if_neg a]
  by_cases b : nameB p.name = false
  · rw [if_pos b]; exact .inl ⟨_, rfl⟩
  rw [if_neg b]
  by_cases c : hasRootB p = false
  · rw [if_pos c]; exact .inl ⟨_, rfl⟩
  rw [if_neg c]
  by_cases d : badT p < p.types.length
  · rw [if_pos d]
    have hb : typeCode p (badT p) ≠ 0 := typeCode_bad p _ 0 (by rw [Nat.zero_add]; exact d)
    exact .inr ⟨((badT p : Nat) + 1 : Int), typeCode p (badT p), by rw [codeErr, if_neg hb]⟩
  rw [if_neg d]
  by_cases e : 1500 < (partL p).length
  · rw [if_pos e]; exact .inl ⟨_, rfl⟩
  exfalso
  simp [okP, a, b, c, d, e] at h

set_option maxHeartbeats 1600000 in
theorem PartWrite_any (p : Pt) (w : World) (B : Nat) (v : Value) (hP : PRep w (· < B) p v) (hB : B ≤ w.heap.size) (hz : szP p ≤ 1048576) :
    Calls Tryz.prog 10 #[v] w fun e w' => e = .returned (.string (if okP p = true then ⟨(partL p).toArray⟩ else ByteArray.empty)) ∧ Below w.heap.size w w' := by
  have hP' := hP
  obtain ⟨pname, types⟩ := p
  obtain ⟨ta, tc, rfl, hK, hnc, hpn⟩ := hP
  have hC := fun W (h : Below w.heap.size w W) => checkPart_any ⟨pname, types⟩ W B _ (hP'.under (h.mono hB)) (by have := h.size; omega) hz
  have hX := fun W (h : Below w.heap.size w W) => partText_all ⟨pname, types⟩ W B _ (hP'.under (h.mono hB)) (by have := h.size; omega) hz
  have hbx := below_box w (.cells #[.string pname, .slice ta types.length tc] 25)
  have PC : ∀ W, Below (w.heap.size + 1) (w.alloc (.cells #[.string pname, .slice ta types.length tc] 25)) W → W.cell? ⟨w.heap.size, 0, none⟩ = some (.string pname) ∧ W.cell? ⟨w.heap.size, 1, none⟩ = some (.slice ta types.length tc) := fun W h =>
    ⟨(h.cell (p := ⟨w.heap.size, 0, none⟩) (by show w.heap.size < _; omega)).trans (box_new _ _ 0 (by simp)), (h.cell (p := ⟨w.heap.size, 1, none⟩) (by show w.heap.size < _; omega)).trans (box_new _ _ 1 (by simp))⟩
  cases ho : okP ⟨pname, types⟩
  · rw [if_neg (by simp)]
    rcases partErr_bad _ ho with ⟨x, hx⟩ | ⟨i, x, hx⟩ <;> rw [hx] at hC
    · go_enter Tryz.func10, Tryz.ntmps10
      go_wp2_with (
        go_at_call 15
        refine (hC _ (by first | exact hbx | exact Below.refl _ _)).mono ?_
        rintro e w1 ⟨rfl, hb1⟩)
      go_ret
      exact ⟨rfl, by first | exact hb1 | exact hbx.trans (hb1.mono (by simp))⟩
    · go_enter Tryz.func10, Tryz.ntmps10
      go_wp2_with (
        go_at_call 15
        refine (hC _ (by first | exact hbx | exact Below.refl _ _)).mono ?_
        rintro e w1 ⟨rfl, hb1⟩)
      go_ret
      exact ⟨rfl, by first | exact hb1 | exact hbx.trans (hb1.mono (by simp))⟩
  · rw [if_pos rfl]
    rw [partErr_ok _ ho] at hC
    generalize (⟨(partL ⟨pname, types⟩).toArray⟩ : ByteArray) = tx at hX ⊢
    go_enter Tryz.func10, Tryz.ntmps10
    go_wp2_with (first
      | (
        go_at_call 15
        refine (hC _ (by first | exact hbx | exact Below.refl _ _)).mono ?_
        rintro e w1 ⟨rfl, hb1⟩
        have hT1 : Below w.heap.size w w1 := by first | exact hb1 | exact hbx.trans (hb1.mono (by simp))
        obtain ⟨q0, q1⟩ := PC w1 (hb1.mono (by simp)))
      | (
        go_at_call 27
        refine (hX _ hT1).mono ?_
        rintro e w2 ⟨rfl, hb2⟩))
    go_ret
    exact ⟨rfl, hT1.trans (hb2.mono hT1.size)⟩
end Go.Proofs.YtibpieomldhomaaGreatDoor
