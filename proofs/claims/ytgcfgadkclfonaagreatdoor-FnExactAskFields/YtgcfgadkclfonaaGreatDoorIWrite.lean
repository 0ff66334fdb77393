/-
  The program's PartWrite.
-/
import Derived.Test.YtgcfgadkclfonaaGreatDoorICheckP
namespace Go.Proofs.YtgcfgadkclfonaaGreatDoor
set_option linter.unusedSimpArgs false
set_option linter.unusedVariables false
open Go.RowKit

/-- The program finds nothing wrong with a part. -/
def okP (p : Pt) : Bool := !(decide (5 < p.types.length)) && nameB p.name && hasRootB p && !(decide (badT p < p.types.length)) && !(decide (1500 < (partL p).length))
theorem typeCode_bad (p : Pt) : ∀ n k, badAt p k n < k + n → typeCode p (badAt p k n) ≠ 0
  | 0, k, h => by simp [badAt] at h
  | n + 1, k, h => by
    rw [badAt] at h ⊢
    by_cases e : typeCode p k = 0
    · rw [if_pos e] at h ⊢; exact typeCode_bad p n (k + 1) (by omega)
    · rw [if_neg e]; exact e
theorem partErr_ok (p : Pt) (h : okP p = true) : partErr p = .nilIface := by
  simp only [okP, Bool.and_eq_true, Bool.not_eq_true', decide_eq_false_iff_not] at h
  obtain ⟨⟨⟨⟨a, b⟩, c⟩, d⟩, e⟩ := h
  rw [partErr, if_neg a, if_neg (by rw [b]; simp), if_neg (by rw [c]; simp), if_neg d, if_neg e]
theorem partErr_bad (p : Pt) (h : okP p = false) : (∃ x, partErr p = .iface 97 (.int .i64 x)) ∨ ∃ i x, partErr p = .iface 99 (.agg #[.int .i64 i, .iface 97 (.int .i64 x)]) := by
  unfold partErr
  by_cases a : 5 < p.types.length
  · rw [if_pos a]; exact .inr ⟨_, _, rfl⟩
  rw [if_neg a]
  by_cases b : nameB p.name = false
  · rw [if_pos b]; exact .inl ⟨_, rfl⟩
  rw [if_neg b]
  by_cases c : hasRootB p = false
  · rw [if_pos c]; exact .inl ⟨_, rfl⟩
  rw [if_neg c]
  by_cases d : badT p < p.types.length
  · rw [if_pos d]
    have hb : typeCode p (badT p) ≠ 0 := typeCode_bad p _ 0 (by rw [Nat.zero_add]; exact d)
    exact .inr ⟨((badT p : Nat) + 1 : Int), typeCode p (badT p), by rw [codeErr, if_neg hb]⟩
  rw [if_neg d]
  by_cases e : 1500 < (partL p).length
  · rw [if_pos e]; exact .inl ⟨_, rfl⟩
  exfalso
  simp [okP, a, b, c, d, e] at h

end Go.Proofs.YtgcfgadkclfonaaGreatDoor
