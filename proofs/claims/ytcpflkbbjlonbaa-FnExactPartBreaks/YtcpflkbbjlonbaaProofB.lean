/-
  Proved: laws.FnExactPartBreaks returns true at every two parts that can be read as data (the form's own reach), and leaves its arguments as they were: impl.PartBreaks answers as the model spec.PartBreaks does, writes into no argument, keeps nothing of one, and its answer owns its memory.
  Conditions: none but the row's own.
-/
import Derived.Test.YtcpflkbbjlonbaaLawB
import Derived.Test.YtcpflkbbjlonbaaPOpen
import Derived.ProofKit
import Derived.OpenShut
import Derived.ChangeOld
import Derived.SizedLaws
namespace Go.Proofs.Ytcpflkbbjlonbaa
set_option linter.unusedSimpArgs false
set_option linter.unusedVariables false
open Go.ChangeShapes Go.WideShapes Go.ChangeAt Go.RowKit

theorem Try.own : ownKnob Try.prog.godebug = none := by kernel_rfl
theorem Try.laidOut : laidOutB Try.prog = true := by kernel_rfl

set_option maxRecDepth 100000 in
theorem lifted (os : Os) (started : os.Started) (H : Type) (enc : TypeId × Value → H) :
    ReturnsInHanded {} Try.checked os 5 .any (Rows.fnExactPartBreaksSpec.pre6 enc Try.prog Try.f5 Rows.fnExactPartBreaksRow.domain false) (Rows.fnExactPartBreaksSpec.post enc Try.prog Try.f5 false true false false) := by
  refine returnsInHanded_of_change_sized (C := Try.checked) Try.own started (by kernel_rfl) Try.func5
    (ChangeSpec.witness6 (enc := enc) (C := Try.checked) false ⟨#[], #[.agg #[.string ByteArray.empty, .slice none 0 0], .agg #[.string ByteArray.empty, .slice none 0 0]], []⟩ 8 (by kernel_rfl) (by kernel_rfl) (by kernel_rfl) (by kernel_rfl)) ?_
  intro W base args ds gs before hval0 hW hcnd hsz0 _
  have hsz : (DataW.weightsEach Try.prog (Try.f5.params.toList ++ Rows.fnExactPartBreaksSpec.plain.varTypes Try.prog) (ds ++ gs)).all (· ≤ reachBytes) = true := hsz0
  clear hsz0
  have hval : ∀ (j : Nat) t v, Try.f5.params[j]? = some t → args[j]? = some v → Value.okWide Try.prog W .any base t v := hval0
  have hW' := hW
  obtain ⟨p, q, hA0, hV, rfl, hfz, hnd⟩ := hW
  have hA : DataW.TrodAll enc Try.prog W 0 (fun _ => true) true Try.f5.params.toList args.toList ds p := hA0
  rw [Try.params5] at hA hval hsz
  obtain ⟨v0, v1, d0, d1, p0, p1, rfl, rfl, rfl, h0, h1⟩ := trodAll_two hA
  obtain ⟨rfl, rfl⟩ := trodVars_none hV
  have k0 := h0
  have k1 := h1
  have lt0 : ∀ x ∈ p0, x.block < W.heap.size := by obtain ⟨m, hm⟩ := k0; exact DataW.trod_lt m _ _ _ hm
  have lt1 : ∀ x ∈ p1, x.block < W.heap.size := by obtain ⟨m, hm⟩ := k1; exact DataW.trod_lt m _ _ _ hm
  obtain ⟨cs, rfl, -⟩ := okWide_struct Try.underlying24 (hval 0 24 v0 rfl rfl)
  obtain ⟨cs', rfl, -⟩ := okWide_struct Try.underlying24 (hval 1 24 v1 rfl rfl)
  obtain ⟨fuel, hf⟩ := h0
  obtain ⟨fuel', hf'⟩ := h1
  have hl : Light 24 d0 := fun n hn => by
    have h1 := DataW.weights_mem_each (P := Try.prog) (ts := [24, 24] ++ Rows.fnExactPartBreaksSpec.plain.varTypes Try.prog) (ds := [d0, d1] ++ []) (j := 0) rfl rfl n hn
    have h2 := List.all_eq_true.1 hsz n h1
    simpa using h2
  have hl' : Light 24 d1 := fun n hn => by
    have h1 := DataW.weights_mem_each (P := Try.prog) (ts := [24, 24] ++ Rows.fnExactPartBreaksSpec.plain.varTypes Try.prog) (ds := [d0, d1] ++ []) (j := 1) rfl rfl n hn
    have h2 := List.all_eq_true.1 hsz n h1
    simpa using h2
  obtain ⟨y, c0, c1, hcs, hR⟩ := part_open fuel _ _ hf hl
  have hcs' : cs = #[c0, c1] := by
    apply Array.toList_inj.1
    simpa [Value.cells] using hcs
  subst hcs'
  obtain ⟨y', e0, e1, hds, hR'⟩ := part_open fuel' _ _ hf' hl'
  have hds' : cs' = #[e0, e1] := by
    apply Array.toList_inj.1
    simpa [Value.cells] using hds
  subst hds'
  clear hA0 hval0
  refine (lawB_walk y y' W _ _ hR hR').mono fun e W' ⟨he, bel⟩ => ?_
  subst he
  have hk0 := Below.trod Try.laidOut (by kernel_rfl) (of_decide_eq_true (by kernel_rfl)) k0 bel lt0
  have hk1 := Below.trod Try.laidOut (by kernel_rfl) (of_decide_eq_true (by kernel_rfl)) k1 bel lt1
  exact ⟨_, rfl, _, _, _, [], _, [], hW', trodAll_mk1 (shut_bool Try.underlying4 _), trodAll_mk2 hk0 hk1, rfl, bel.frame _, fun h => by cases h⟩

theorem fnExactPartBreaks_holds : Rows.FnExactPartBreaksSaid :=
  OpenClaim.holds_of_wide 5 Try.f5 rfl rfl rfl rfl rfl rfl rfl ⟨rfl, rfl, rfl, rfl, rfl⟩ rfl rfl rfl rfl rfl (by kernel_rfl) Try.func5 (by kernel_rfl)
    (of_decide_eq_true (by kernel_rfl)) (by unfold Func.isWrapper; first | (rw [if_pos (by decide +kernel)]; kernel_rfl) | (rw [if_neg (by decide +kernel)]; exact ⟨rfl, rfl⟩))
    (fun os started H enc _ => lifted os started H enc)
#print axioms fnExactPartBreaks_holds
end Go.Proofs.Ytcpflkbbjlonbaa
