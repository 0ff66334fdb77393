/-
  Proved: laws.FnExactSailReady returns true at all steps and all numbers that can be read as data (the form's own reach; a list that leads back into itself is shut out by the reading), and leaves its arguments as they were: impl.SailReady answers as the model spec.SailReady does, writes into no argument, keeps nothing of one, and its answer owns its memory.
  Conditions: none but the row's own.
-/
import Derived.Test.YtahelconmfldjaaQLawR
import Derived.Test.YtahelconmfldjaaQOpen
import Derived.ProofKit
import Derived.OpenShut
import Derived.ChangeOld
import Derived.SizedLaws
namespace Go.Proofs.Ytahelconmfldjaa
set_option linter.unusedSimpArgs false
set_option linter.unusedVariables false
open Go.ChangeShapes Go.WideShapes Go.ChangeAt Go.RowKit

theorem Try.own : ownKnob Try.prog.godebug = none := by kernel_rfl
theorem Try.laidOut : laidOutB Try.prog = true := by kernel_rfl

set_option maxRecDepth 100000 in
theorem lifted (os : Os) (started : os.Started) (H : Type) (enc : TypeId × Value → H) :
    ReturnsInHanded {} Try.checked os 5 .any (Rows.fnExactSailReadySpec.pre6 enc Try.prog Try.f5 Rows.fnExactSailReadyRow.domain false) (Rows.fnExactSailReadySpec.post enc Try.prog Try.f5 false true false false) := by
  refine returnsInHanded_of_change_sized (C := Try.checked) Try.own started (by kernel_rfl) Try.func5
    (ChangeSpec.witness6 (enc := enc) (C := Try.checked) false ⟨#[], #[.slice none 0 0, .slice none 0 0], []⟩ 8 (by kernel_rfl) (by kernel_rfl) (by kernel_rfl) (by kernel_rfl)) ?_
  intro W base args ds gs before hval0 hW hcnd hsz0 _
  have hsz : (DataW.weightsEach Try.prog (Try.f5.params.toList ++ Rows.fnExactSailReadySpec.plain.varTypes Try.prog) (ds ++ gs)).all (· ≤ reachBytes) = true := hsz0
  clear hsz0
  have hval : ∀ (j : Nat) t v, Try.f5.params[j]? = some t → args[j]? = some v → Value.okWide Try.prog W .any base t v := hval0
  have hW' := hW
  obtain ⟨p, q, hA0, hV, rfl, hfz, hnd⟩ := hW
  have hA : DataW.TrodAll enc Try.prog W 0 (fun _ => true) true Try.f5.params.toList args.toList ds p := hA0
  rw [Try.params5] at hA hval hsz
  obtain ⟨v0, v1, d0, d1, p0, p1, rfl, rfl, rfl, h0, h1⟩ := trodAll_two hA
  obtain ⟨rfl, rfl⟩ := trodVars_none hV
  have k0 := h0
  have k1 := h1
  have lt0 : ∀ x ∈ p0, x.block < W.heap.size := by obtain ⟨m, hm⟩ := k0; exact DataW.trod_lt m _ _ _ hm
  have lt1 : ∀ x ∈ p1, x.block < W.heap.size := by obtain ⟨m, hm⟩ := k1; exact DataW.trod_lt m _ _ _ hm
  obtain ⟨ra0, rl0, rc0, rfl⟩ := okWide_slice Try.underlying22 (hval 0 22 v0 rfl rfl)
  obtain ⟨ra1, rl1, rc1, rfl⟩ := okWide_slice Try.underlying29 (hval 1 29 v1 rfl rfl)
  obtain ⟨fuel, hf⟩ := h0
  obtain ⟨fuel', hf'⟩ := h1
  have hl : Light 22 d0 := fun n hn => by
    have h1 := DataW.weights_mem_each (P := Try.prog) (ts := [22, 29] ++ Rows.fnExactSailReadySpec.plain.varTypes Try.prog) (ds := [d0, d1] ++ []) (j := 0) rfl rfl n hn
    have h2 := List.all_eq_true.1 hsz n h1
    simpa using h2
  have hl' : Light 29 d1 := fun n hn => by
    have h1 := DataW.weights_mem_each (P := Try.prog) (ts := [22, 29] ++ Rows.fnExactSailReadySpec.plain.varTypes Try.prog) (ds := [d0, d1] ++ []) (j := 1) rfl rfl n hn
    have h2 := List.all_eq_true.1 hsz n h1
    simpa using h2
  have hf0 : DataW.trod enc Try.prog W 0 (fun _ => true) true fuel 22 [.slice ra0 rl0 rc0] = some (d0, p0) := by simpa [Value.cells] using hf
  have hf1 : DataW.trod enc Try.prog W 0 (fun _ => true) true fuel' 29 [.slice ra1 rl1 rc1] = some (d1, p1) := by simpa [Value.cells] using hf'
  obtain ⟨ss, sa, sc, hds, hR, hsc, hwa⟩ := stepS_open hf0 hl
  obtain ⟨dd, da, dc, hdd, hD, hdc, hwd⟩ := ints_openW hf1 hl'
  rw [hds] at k0 hval hW' ⊢
  rw [hdd] at k1 hval hW' ⊢
  clear hA0 hval0
  refine (lawR_walk ss dd W sa da sc dc hR hD hwd hwa).mono fun e W' ⟨he, bel⟩ => ?_
  subst he
  have hk0 := Below.trod Try.laidOut (by kernel_rfl) (of_decide_eq_true (by kernel_rfl)) k0 bel lt0
  have hk1 := Below.trod Try.laidOut (by kernel_rfl) (of_decide_eq_true (by kernel_rfl)) k1 bel lt1
  exact ⟨_, rfl, _, _, _, [], _, [], hW', trodAll_mk1 (shut_bool Try.underlying4 _), trodAll_mk2 hk0 hk1, rfl, bel.frame _, fun h => by cases h⟩

theorem fnExactSailReady_holds : Rows.FnExactSailReadySaid :=
  OpenClaim.holds_of_wide 5 Try.f5 rfl rfl rfl rfl rfl rfl rfl ⟨rfl, rfl, rfl, rfl, rfl⟩ rfl rfl rfl rfl rfl (by kernel_rfl) Try.func5 (by kernel_rfl)
    (of_decide_eq_true (by kernel_rfl)) (by unfold Func.isWrapper; first | (rw [if_pos (by decide +kernel)]; kernel_rfl) | (rw [if_neg (by decide +kernel)]; exact ⟨rfl, rfl⟩))
    (fun os started H enc _ => lifted os started H enc)
#print axioms fnExactSailReady_holds
end Go.Proofs.Ytahelconmfldjaa
