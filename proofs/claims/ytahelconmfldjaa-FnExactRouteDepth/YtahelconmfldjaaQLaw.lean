/-
  The law of RouteDepth, walked: for all steps it returns true and writes nothing that was there.
-/
import Derived.Test.YtahelconmfldjaaQImpl
namespace Go.Proofs.Ytahelconmfldjaa
set_option linter.unusedSimpArgs false
set_option linter.unusedVariables false
open Go.RowKit

set_option maxHeartbeats 1600000 in
theorem lawD_walk (ss : List St) (w : World) (a : Option Addr) (c : Nat) (hK : StReps w (· < w.heap.size) ss a) :
    Calls Try.prog 3 #[.slice a ss.length c] w fun e w' => e = .returned (.bool true) ∧ Below w.heap.size w w' := by
  go_enter Try.func3, Try.ntmps3
  go_wp2_with fail
  refine (szStepS_any ss w w.heap.size a c _ hK (Nat.le_refl _) (by omega) (by omega)).mono ?_
  rintro e w1 ⟨y, rfl, hy0, hy1, hy2, b1⟩
  have z1 := b1.size
  go_wp2_with fail
  · go_ret
    exact ⟨rfl, b1⟩
  have hl : ss.length ≤ 1048576 := by have := (hy2 (by assumption)).1; omega
  refine (toStepS_nf ss w1 w.heap.size a c (hK.under b1) z1).mono ?_
  rintro e w2 ⟨rfl, hb2, hz2, hs2, -⟩
  have b2 : Below w.heap.size w w2 := b1.trans (hb2.mono z1)
  have z2 := b2.size
  clear hb2
  go_wp2_with fail
  refine (specDepth_any ss w2 w2.heap.size _ _ (hs2.sub fun k hk => hk.2) (Nat.le_refl _) hl).mono ?_
  rintro e w3 ⟨rfl, hb3⟩
  have b3 : Below w.heap.size w w3 := b2.trans (hb3.mono z2)
  have z3 := b3.size
  clear hb3 hs2
  go_wp2_with fail
  refine (toStepS_nf ss w3 w.heap.size a c (hK.under b3) z3).mono ?_
  rintro e w4 ⟨rfl, hb4, hz4, hs4, -⟩
  have b4 : Below w.heap.size w w4 := b3.trans (hb4.mono z3)
  have z4 := b4.size
  clear hb4
  go_wp2_with fail
  refine (implDepth_any ss w4 w4.heap.size _ _ (hs4.sub fun k hk => hk.2) (Nat.le_refl _) hl).mono ?_
  rintro e w5 ⟨rfl, hb5⟩
  have b5 : Below w.heap.size w w5 := b4.trans (hb5.mono z4)
  have z5 := b5.size
  have s5 : StReps w5 (· < w5.heap.size) ss (some ⟨w3.heap.size, 0, none⟩) := ((hs4.sub fun k hk => hk.2).under hb5).sub fun k hk => by have := hb5.size; omega
  clear hb5 hs4
  go_wp2_with fail
  refine (toStepS_nf ss w5 w.heap.size a c (hK.under b5) z5).mono ?_
  rintro e w6 ⟨rfl, hb6, hz6, hs6, -⟩
  have b6 : Below w.heap.size w w6 := b5.trans (hb6.mono z5)
  have z6 := b6.size
  have s6 : StReps w6 (· < w6.heap.size) ss (some ⟨w3.heap.size, 0, none⟩) := (s5.under hb6).sub fun k hk => by omega
  clear hb6 s5
  go_wp2_with fail
  refine (eqStepS_any ss w6 w6.heap.size _ _ _ _ s6 (hs6.sub fun k hk => hk.2) (Nat.le_refl _)).mono ?_
  rintro e w7 ⟨rfl, hb7⟩
  go_wp2_with fail
  go_ret
  exact ⟨rfl, b6.trans (hb7.mono z6)⟩
end Go.Proofs.Ytahelconmfldjaa
