/-
  What is a store is the same by the program and by the model.
-/
import Derived.Test.YtelggammjejobaaGreatSStoreI
import Derived.Test.YtelggammjejobaaGreatSSpec3
namespace Go.Proofs.YtelggammjejobaaGreat
set_option linter.unusedSimpArgs false
set_option linter.unusedVariables false
open Go.RowKit

theorem store_same (p : Pt) (rs : List Ro) : storeI p rs = storeS p rs := by
  have e : (fun i => ordI p rs i && rowI p (rth rs i)) = oneI p rs := rfl
  have hd : (!(decide (rs.length = 0))) = decide (1 ≤ rs.length) := by
    by_cases h : rs.length = 0
    · simp [h]
    · rw [decide_eq_false h, decide_eq_true (by omega : 1 ≤ rs.length)]; rfl
  unfold storeI storeS
  rw [e, hd]
  cases hp : okP p
  · rfl
  · have hr : hasRootB p = true := by
      simp only [okP, Bool.and_eq_true] at hp
      exact hp.1.1.2
    cases h0 : (isT (rth rs 0).type [113, 117, 101, 114, 121] && (rth rs 0).id == 0)
    · by_cases hl : 1 ≤ rs.length
      · have h1 : allTo (oneI p rs) rs.length = false := allTo_false _ _ 0 (by omega) (by
          unfold oneI ordI
          rw [if_pos rfl, h0]; rfl)
        rw [h1]; simp
      · rw [decide_eq_false hl]; rfl
    · rw [all_same p hr rs h0]
      cases decide (1 ≤ rs.length) <;> cases decide (rs.length ≤ 16) <;> simp
end Go.Proofs.YtelggammjejobaaGreat
