/-
  Proved: laws.FnChartOwner returns true at every code that can be read as data (the form's own reach), and leaves it as it was: of a chart that is drawn, a type and a field, the program's ChartOwner names the parts that the model names, in ascending order, and names any just if all that is known has that field.
  Conditions: none but the row's own.
-/
import Derived.Test.YtdohgkokoicjlaaBO2
import Derived.Test.YtdohgkokoicjlaaB19
import Derived.Test.YtdohgkokoicjlaaRows
import Derived.ProofKit
import Derived.OpenShut
import Derived.ChangeOld
import Derived.SizedLaws
namespace Go.Proofs.Ytdohgkokoicjlaa
set_option linter.unusedSimpArgs false
set_option linter.unusedVariables false
open Go.ChangeShapes Go.WideShapes Go.ChangeAt Go.RowKit

theorem Try.own : ownKnob Try.prog.godebug = none := by kernel_rfl
theorem Try.laidOut : laidOutB Try.prog = true := by kernel_rfl

set_option maxRecDepth 100000 in
theorem lifted (os : Os) (started : os.Started) (H : Type) (enc : TypeId × Value → H) :
    ReturnsInHanded {} Try.checked os 3 .any (Rows.fnChartOwnerSpec.pre6 enc Try.prog Try.f3 Rows.fnChartOwnerRow.domain false) (Rows.fnChartOwnerSpec.post enc Try.prog Try.f3 false true false false) := by
  refine returnsInHanded_of_change_sized (C := Try.checked) Try.own started (by kernel_rfl) Try.func3
    (ChangeSpec.witness6 (enc := enc) (C := Try.checked) false ⟨#[], #[.slice none 0 0], []⟩ 8 (by kernel_rfl) (by kernel_rfl) (by kernel_rfl) (by kernel_rfl)) ?_
  intro W base args ds gs before hval0 hW hcnd hsz0 _
  have hsz : (DataW.weightsEach Try.prog (Try.f3.params.toList ++ Rows.fnChartOwnerSpec.plain.varTypes Try.prog) (ds ++ gs)).all (· ≤ reachBytes) = true := hsz0
  clear hsz0
  have hval : ∀ (j : Nat) t v, Try.f3.params[j]? = some t → args[j]? = some v → Value.okWide Try.prog W .any base t v := hval0
  have hW' := hW
  obtain ⟨p, q, hA0, hV, rfl, hfz, hnd⟩ := hW
  have hA : DataW.TrodAll enc Try.prog W 0 (fun _ => true) true Try.f3.params.toList args.toList ds p := hA0
  rw [Try.params3] at hA hval hsz
  obtain ⟨v0, d0, rfl, rfl, h0⟩ := trodAll_one hA
  obtain ⟨rfl, rfl⟩ := trodVars_none hV
  have k0 := h0
  have lt0 : ∀ x ∈ p, x.block < W.heap.size := by obtain ⟨m, hm⟩ := k0; exact DataW.trod_lt m _ _ _ hm
  have hv0 := hval 0 22 v0 rfl rfl
  obtain ⟨ra0, rl0, rc0, rfl⟩ := okWide_slice Try.underlying22 hv0
  obtain ⟨fuel0, hf0⟩ := h0
  have hl0 : Light 22 d0 := fun n hn => by
    have h1 := DataW.weights_mem_each (P := Try.prog) (ts := [22] ++ Rows.fnChartOwnerSpec.plain.varTypes Try.prog) (ds := [d0] ++ []) (j := 0) rfl rfl n hn
    have h2 := List.all_eq_true.1 hsz n h1
    simpa using h2
  have hf0' : DataW.trod enc Try.prog W 0 (fun _ => true) true fuel0 22 [.slice ra0 rl0 rc0] = some (d0, p) := by simpa [Value.cells] using hf0
  obtain ⟨n0, cap0, cb0, a0, hc0, hC0⟩ := code_new hf0' hl0 hv0
  clear hA0 hval0
  refine (own_walk W cb0 n0 _ hC0).mono fun e W' ⟨he, bel⟩ => ?_
  subst he
  have hk0 := Below.trod Try.laidOut (by kernel_rfl) (of_decide_eq_true (by kernel_rfl)) k0 bel lt0
  exact ⟨_, rfl, _, _, _, [], _, [], hW', trodAll_mk1 (shut_bool Try.underlying4 _), trodAll_mk1 hk0, rfl, bel.frame _, fun h => by cases h⟩

theorem fnChartOwner_holds : Rows.FnChartOwnerSaid :=
  OpenClaim.holds_of_wide 3 Try.f3 rfl rfl rfl rfl rfl rfl rfl ⟨rfl, rfl, rfl, rfl, rfl⟩ rfl rfl rfl rfl rfl (by kernel_rfl) Try.func3 (by kernel_rfl)
    (of_decide_eq_true (by kernel_rfl)) (by unfold Func.isWrapper; first | (rw [if_pos (by decide +kernel)]; kernel_rfl) | (rw [if_neg (by decide +kernel)]; exact ⟨rfl, rfl⟩))
    (fun os started H enc _ => lifted os started H enc)
#print axioms fnChartOwner_holds
end Go.Proofs.Ytdohgkokoicjlaa
