/-
  Proved: laws.FnExactPartField returns true at every part that can be read as data (the form's own reach) and every two texts, and leaves its arguments as they were: impl.PartField answers as the model spec.PartField does, writes into no argument, keeps nothing of one, and its answer owns its memory.
  Conditions: none but the row's own.
-/
import Derived.Test.YtcpflkbbjlonbaaLawF
import Derived.Test.YtcpflkbbjlonbaaPOpen
import Derived.ProofKit
import Derived.OpenShut
import Derived.ChangeOld
import Derived.SizedLaws
namespace Go.Proofs.Ytcpflkbbjlonbaa
set_option linter.unusedSimpArgs false
set_option linter.unusedVariables false
open Go.ChangeShapes Go.WideShapes Go.ChangeAt Go.RowKit

theorem Try.own : ownKnob Try.prog.godebug = none := by kernel_rfl
theorem Try.laidOut : laidOutB Try.prog = true := by kernel_rfl

set_option maxRecDepth 100000 in
theorem lifted (os : Os) (started : os.Started) (H : Type) (enc : TypeId × Value → H) :
    ReturnsInHanded {} Try.checked os 4 .any (Rows.fnExactPartFieldSpec.pre6 enc Try.prog Try.f4 Rows.fnExactPartFieldRow.domain false) (Rows.fnExactPartFieldSpec.post enc Try.prog Try.f4 false true false false) := by
  refine returnsInHanded_of_change_sized (C := Try.checked) Try.own started (by kernel_rfl) Try.func4
    (ChangeSpec.witness6 (enc := enc) (C := Try.checked) false ⟨#[], #[.agg #[.string ByteArray.empty, .slice none 0 0], .string ByteArray.empty, .string ByteArray.empty], []⟩ 8 (by kernel_rfl) (by kernel_rfl) (by kernel_rfl) (by kernel_rfl)) ?_
  intro W base args ds gs before hval0 hW hcnd hsz0 _
  have hsz : (DataW.weightsEach Try.prog (Try.f4.params.toList ++ Rows.fnExactPartFieldSpec.plain.varTypes Try.prog) (ds ++ gs)).all (· ≤ reachBytes) = true := hsz0
  clear hsz0
  have hval : ∀ (j : Nat) t v, Try.f4.params[j]? = some t → args[j]? = some v → Value.okWide Try.prog W .any base t v := hval0
  have hW' := hW
  obtain ⟨p, q, hA0, hV, rfl, hfz, hnd⟩ := hW
  have hA : DataW.TrodAll enc Try.prog W 0 (fun _ => true) true Try.f4.params.toList args.toList ds p := hA0
  rw [Try.params4] at hA hval hsz
  obtain ⟨v0, v1, v2, d0, d1, d2, p0, p1, p2, rfl, rfl, rfl, h0, h1, h2⟩ := trodAll_three hA
  obtain ⟨rfl, rfl⟩ := trodVars_none hV
  have k0 := h0
  have k1 := h1
  have k2 := h2
  have lt0 : ∀ x ∈ p0, x.block < W.heap.size := by obtain ⟨m, hm⟩ := k0; exact DataW.trod_lt m _ _ _ hm
  have lt1 : ∀ x ∈ p1, x.block < W.heap.size := by obtain ⟨m, hm⟩ := k1; exact DataW.trod_lt m _ _ _ hm
  have lt2 : ∀ x ∈ p2, x.block < W.heap.size := by obtain ⟨m, hm⟩ := k2; exact DataW.trod_lt m _ _ _ hm
  obtain ⟨cs, rfl, -⟩ := okWide_struct Try.underlying24 (hval 0 24 v0 rfl rfl)
  obtain ⟨s1, rfl⟩ := okWide_string Try.underlying9 (hval 1 9 v1 rfl rfl)
  obtain ⟨s2, rfl⟩ := okWide_string Try.underlying9 (hval 2 9 v2 rfl rfl)
  obtain ⟨fuel, hf⟩ := h0
  obtain ⟨fuel1, hf1⟩ := h1
  obtain ⟨fuel2, hf2⟩ := h2
  have g1 : s1.size ≤ maxLen := by
    obtain ⟨t1, e1, -, ht⟩ := DataW.trod_string Try.underlying9 hf1
    have : t1 = s1 := by simpa [Value.cells] using e1.symm
    rw [← this]; exact ht
  have g2 : s2.size ≤ maxLen := by
    obtain ⟨t1, e1, -, ht⟩ := DataW.trod_string Try.underlying9 hf2
    have : t1 = s2 := by simpa [Value.cells] using e1.symm
    rw [← this]; exact ht
  have hl : Light 24 d0 := fun n hn => by
    have h1 := DataW.weights_mem_each (P := Try.prog) (ts := [24, 9, 9] ++ Rows.fnExactPartFieldSpec.plain.varTypes Try.prog) (ds := [d0, d1, d2] ++ []) (j := 0) rfl rfl n hn
    have h2 := List.all_eq_true.1 hsz n h1
    simpa using h2
  obtain ⟨y, c0, c1, hcs, hR⟩ := part_open fuel _ _ hf hl
  have hcs' : cs = #[c0, c1] := by
    apply Array.toList_inj.1
    simpa [Value.cells] using hcs
  subst hcs'
  clear hA0 hval0
  refine (lawF_walk y s1 s2 W _ g1 g2 hR).mono fun e W' ⟨he, bel⟩ => ?_
  subst he
  have hk0 := Below.trod Try.laidOut (by kernel_rfl) (of_decide_eq_true (by kernel_rfl)) k0 bel lt0
  have hk1 := Below.trod Try.laidOut (by kernel_rfl) (of_decide_eq_true (by kernel_rfl)) k1 bel lt1
  have hk2 := Below.trod Try.laidOut (by kernel_rfl) (of_decide_eq_true (by kernel_rfl)) k2 bel lt2
  exact ⟨_, rfl, _, _, _, [], _, [], hW', trodAll_mk1 (shut_bool Try.underlying4 _), trodAll_cons_mk hk0 (trodAll_mk2 hk1 hk2), rfl, bel.frame _, fun h => by cases h⟩

theorem fnExactPartField_holds : Rows.FnExactPartFieldSaid :=
  OpenClaim.holds_of_wide 4 Try.f4 rfl rfl rfl rfl rfl rfl rfl ⟨rfl, rfl, rfl, rfl, rfl⟩ rfl rfl rfl rfl rfl (by kernel_rfl) Try.func4 (by kernel_rfl)
    (of_decide_eq_true (by kernel_rfl)) (by unfold Func.isWrapper; first | (rw [if_pos (by decide +kernel)]; kernel_rfl) | (rw [if_neg (by decide +kernel)]; exact ⟨rfl, rfl⟩))
    (fun os started H enc _ => lifted os started H enc)
#print axioms fnExactPartField_holds
end Go.Proofs.Ytcpflkbbjlonbaa
