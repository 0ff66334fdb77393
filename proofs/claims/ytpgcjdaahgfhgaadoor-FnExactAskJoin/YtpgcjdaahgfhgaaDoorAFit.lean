/-
  A tree has no more levels than fields.
-/
import Derived.Test.YtpgcjdaahgfhgaaDoorAPure
namespace Go.Proofs.YtpgcjdaahgfhgaaDoor
set_option linter.unusedSimpArgs false
set_option linter.unusedVariables false
open Go.RowKit

theorem FitS.le : ∀ {f g : Nat} {ks : List Se}, FitS f ks → f ≤ g → FitS g ks
  | 0, 0, ks, h, _ => h
  | 0, g + 1, ks, h, _ => by
    have e : ks = [] := h
    subst e
    exact fun i hi => by simp at hi
  | f + 1, 0, ks, h, hg => by omega
  | f + 1, g + 1, ks, h, hg => fun i hi => (h i hi).le (by omega)
/-- The count does not change beyond the levels that there are. -/
theorem cntTo_fit : ∀ {f : Nat} {ks : List Se} (g n : Nat), FitS f ks → f ≤ g → n ≤ ks.length → cntTo g ks n = cntTo f ks n
  | 0, ks, g, n, h, _, hn => by
    have e : ks = [] := h
    subst e
    have : n = 0 := by simpa using hn
    subst this
    simp [cntTo]
  | f + 1, ks, g, 0, h, hg, hn => by simp [cntTo]
  | f + 1, ks, 0, n + 1, h, hg, hn => by omega
  | f + 1, ks, g + 1, n + 1, h, hg, hn => by
    rw [cntTo_succ, cntTo_succ, cntTo_fit (g + 1) n h hg (by omega), cntSe_kids, cntSe_kids, cntTo_fit g _ (h n (by omega)) (by omega) (Nat.le_refl _)]
theorem cnt_one (f : Nat) (ks : List Se) : ∀ (n i : Nat), i < n → cntSe f (sth ks i) ≤ cntTo f ks n
  | 0, i, h => by omega
  | n + 1, i, h => by
    rw [cntTo_succ]
    by_cases e : i = n
    · subst e; omega
    · have := cnt_one f ks n i (by omega)
      omega
/-- So many levels are enough as there are fields. -/
theorem FitS.few : ∀ (f : Nat) {ks : List Se}, FitS f ks → ∀ m, cntTo f ks ks.length ≤ m → FitS m ks
  | 0, ks, h, m, hm => h.le (Nat.zero_le _)
  | f + 1, ks, h, m, hm => by
    cases m with
    | zero =>
      cases ks with
      | nil => rfl
      | cons a l =>
        have := cnt_one (f + 1) (a :: l) (a :: l).length 0 (by simp)
        rw [cntSe_kids] at this
        omega
    | succ m =>
      intro i hi
      have := cnt_one (f + 1) ks ks.length i hi
      rw [cntSe_kids] at this
      exact FitS.few f (h i hi) m (by omega)
end Go.Proofs.YtpgcjdaahgfhgaaDoor
