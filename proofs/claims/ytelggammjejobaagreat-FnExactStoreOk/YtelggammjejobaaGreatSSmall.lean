/-
  A part's fields and needs are no more than its size.
-/
import Derived.Test.YtelggammjejobaaGreatPRep
namespace Go.Proofs.YtelggammjejobaaGreat
set_option linter.unusedSimpArgs false
set_option linter.unusedVariables false
open Go.RowKit

theorem szFsTo_mono (fs : List F) : ∀ i n, i ≤ n → szFsTo fs i ≤ szFsTo fs n := fun i n h => by
  induction h with
  | refl => exact Nat.le_refl _
  | step h ih => exact Nat.le_trans ih (by rw [szFsTo_succ]; omega)
theorem szTsTo_mono (ts : List T) : ∀ i n, i ≤ n → szTsTo ts i ≤ szTsTo ts n := fun i n h => by
  induction h with
  | refl => exact Nat.le_refl _
  | step h ih => exact Nat.le_trans ih (by rw [szTsTo_succ]; omega)
theorem needs_small (fs : List F) (h : szFs fs ≤ 1048576) (j : Nat) : (fth fs j).needs.length ≤ 1048576 := by
  by_cases hj : j < fs.length
  · have h1 := szFsTo_mono fs (j + 1) fs.length hj
    rw [szFsTo_succ] at h1
    have h2 : (fth fs j).needs.length ≤ szF (fth fs j) := by simp only [szF, szNs]; omega
    have h3 : szFs fs = fs.length + szFsTo fs fs.length := rfl
    omega
  · have : fth fs j = F.zero := by simp [fth, List.getD_eq_getElem?_getD, List.getElem?_eq_none (Nat.le_of_not_lt hj)]
    rw [this]; simp [F.zero]
theorem fields_small (ts : List T) (h : szTs ts ≤ 1048576) (i : Nat) : szFs (tth ts i).fields ≤ 1048576 := by
  by_cases hi : i < ts.length
  · have h1 := szTsTo_mono ts (i + 1) ts.length hi
    rw [szTsTo_succ] at h1
    have h2 : szT (tth ts i) = (tth ts i).name.size + (tth ts i).key.size + szFs (tth ts i).fields := rfl
    have h3 : szTs ts = ts.length + szTsTo ts ts.length := rfl
    omega
  · have : tth ts i = T.zero := by simp [tth, List.getD_eq_getElem?_getD, List.getElem?_eq_none (Nat.le_of_not_lt hi)]
    rw [this]; decide
end Go.Proofs.YtelggammjejobaaGreat
