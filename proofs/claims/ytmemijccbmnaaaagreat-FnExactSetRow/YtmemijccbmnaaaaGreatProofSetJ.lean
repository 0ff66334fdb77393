/-
  Proved: laws.FnExactSetRow returns true at every part, every list of rows and every change that can be read as data (the form's own reach; a list that leads back into itself is shut out by the reading), and leaves its arguments as they were: impl.SetRow answers as the model spec.SetRow does, writes into no argument, keeps nothing of one, and its answer owns its memory, behind another call too.
  Conditions: none but the row's own.
-/
import Derived.Test.YtmemijccbmnaaaaGreatJ21
import Derived.Test.YtmemijccbmnaaaaGreatJ22
import Derived.ProofKit
import Derived.OpenShut
import Derived.ChangeOld
import Derived.SizedLaws
namespace Go.Proofs.YtmemijccbmnaaaaGreat
set_option linter.unusedSimpArgs false
set_option linter.unusedVariables false
open Go.ChangeShapes Go.WideShapes Go.ChangeAt Go.RowKit

theorem Tryz.own : ownKnob Tryz.prog.godebug = none := by kernel_rfl
theorem Tryz.laidOut : laidOutB Tryz.prog = true := by kernel_rfl

set_option maxRecDepth 100000 in
theorem lifted (os : Os) (started : os.Started) (H : Type) (enc : TypeId × Value → H) :
    ReturnsInHanded {} Tryz.checked os 3 .any (Rows.fnExactSetRowSpec.pre6 enc Tryz.prog Tryz.f3 Rows.fnExactSetRowRow.domain false) (Rows.fnExactSetRowSpec.post enc Tryz.prog Tryz.f3 false true false false) := by
  refine returnsInHanded_of_change_sized (C := Tryz.checked) Tryz.own started (by kernel_rfl) Tryz.func3
    (ChangeSpec.witness6 (enc := enc) (C := Tryz.checked) false ⟨#[], #[.agg #[.string ByteArray.empty, .slice none 0 0], .slice none 0 0, .agg #[.string ByteArray.empty, .int .i64 0, .string ByteArray.empty, .int .i64 0, .int .i64 0, .string ByteArray.empty, .slice none 0 0, .slice none 0 0]], []⟩ 8 (by kernel_rfl) (by kernel_rfl) (by kernel_rfl) (by kernel_rfl)) ?_
  intro W base args ds gs before hval0 hW hcnd hsz0 _
  have hsz : (DataW.weightsEach Tryz.prog (Tryz.f3.params.toList ++ Rows.fnExactSetRowSpec.plain.varTypes Tryz.prog) (ds ++ gs)).all (· ≤ reachBytes) = true := hsz0
  clear hsz0
  have hval : ∀ (j : Nat) t v, Tryz.f3.params[j]? = some t → args[j]? = some v → Value.okWide Tryz.prog W .any base t v := hval0
  have hW' := hW
  obtain ⟨p, q, hA0, hV, rfl, hfz, hnd⟩ := hW
  have hA : DataW.TrodAll enc Tryz.prog W 0 (fun _ => true) true Tryz.f3.params.toList args.toList ds p := hA0
  rw [Tryz.params3] at hA hval hsz
  obtain ⟨v0, v1, v2, d0, d1, d2, p0, p1, p2, rfl, rfl, rfl, h0, h1, h2⟩ := trodAll_three hA
  obtain ⟨rfl, rfl⟩ := trodVars_none hV
  have k0 := h0
  have k1 := h1
  have k2 := h2
  have lt0 : ∀ x ∈ p0, x.block < W.heap.size := by obtain ⟨m, hm⟩ := k0; exact DataW.trod_lt m _ _ _ hm
  have lt1 : ∀ x ∈ p1, x.block < W.heap.size := by obtain ⟨m, hm⟩ := k1; exact DataW.trod_lt m _ _ _ hm
  have lt2 : ∀ x ∈ p2, x.block < W.heap.size := by obtain ⟨m, hm⟩ := k2; exact DataW.trod_lt m _ _ _ hm
  obtain ⟨cs, rfl, -⟩ := okWide_struct Tryz.underlying24 (hval 0 24 v0 rfl rfl)
  obtain ⟨ra0, rl0, rc0, rfl⟩ := okWide_slice Tryz.underlying25 (hval 1 25 v1 rfl rfl)
  obtain ⟨cs2, rfl, -⟩ := okWide_struct Tryz.underlying31 (hval 2 31 v2 rfl rfl)
  obtain ⟨fuel, hf⟩ := h0
  obtain ⟨fuel', hf'⟩ := h1
  obtain ⟨fuel2, hf2⟩ := h2
  have hl : Light 24 d0 := fun n hn => by
    have h1 := DataW.weights_mem_each (P := Tryz.prog) (ts := [24, 25, 31] ++ Rows.fnExactSetRowSpec.plain.varTypes Tryz.prog) (ds := [d0, d1, d2] ++ []) (j := 0) rfl rfl n hn
    have h2 := List.all_eq_true.1 hsz n h1
    simpa using h2
  have hl' : Light 25 d1 := fun n hn => by
    have h1 := DataW.weights_mem_each (P := Tryz.prog) (ts := [24, 25, 31] ++ Rows.fnExactSetRowSpec.plain.varTypes Tryz.prog) (ds := [d0, d1, d2] ++ []) (j := 1) rfl rfl n hn
    have h2 := List.all_eq_true.1 hsz n h1
    simpa using h2
  have hl2 : Light 31 d2 := fun n hn => by
    have h1 := DataW.weights_mem_each (P := Tryz.prog) (ts := [24, 25, 31] ++ Rows.fnExactSetRowSpec.plain.varTypes Tryz.prog) (ds := [d0, d1, d2] ++ []) (j := 2) rfl rfl n hn
    have h2 := List.all_eq_true.1 hsz n h1
    simpa using h2
  obtain ⟨y, c0, c1, hcs, hR⟩ := part_open fuel _ _ hf hl
  have hcs' : cs = #[c0, c1] := by
    apply Array.toList_inj.1
    simpa [Value.cells] using hcs
  subst hcs'
  obtain ⟨ch, g0, g1, g2, g3, g4, g5, g6, g7, hgs, hRC⟩ := change_open fuel2 _ _ hf2 hl2
  have hgs' : cs2 = #[g0, g1, g2, g3, g4, g5, g6, g7] := by
    apply Array.toList_inj.1
    simpa [Value.cells] using hgs
  subst hgs'
  have hf'' : DataW.trod enc Tryz.prog W 0 (fun _ => true) true fuel' 25 [.slice ra0 rl0 rc0] = some (d1, p1) := by simpa [Value.cells] using hf'
  obtain ⟨rs, ra, rc, hds, hR', hrc⟩ := rowS_open hf'' hl'
  rw [hds] at k1 hval hW' ⊢
  clear hA0 hval0
  refine (lawSet_walk y rs ch W _ ra rc _ hR hR' hRC).mono fun e W' ⟨he, bel⟩ => ?_
  subst he
  have hk0 := Below.trod Tryz.laidOut (by kernel_rfl) (of_decide_eq_true (by kernel_rfl)) k0 bel lt0
  have hk1 := Below.trod Tryz.laidOut (by kernel_rfl) (of_decide_eq_true (by kernel_rfl)) k1 bel lt1
  have hk2 := Below.trod Tryz.laidOut (by kernel_rfl) (of_decide_eq_true (by kernel_rfl)) k2 bel lt2
  exact ⟨_, rfl, _, _, _, [], _, [], hW', trodAll_mk1 (shut_bool Tryz.underlying4 _), trodAll_mk3 hk0 hk1 hk2, rfl, bel.frame _, fun h => by cases h⟩

theorem fnExactSetRow_holds : Rows.FnExactSetRowSaid :=
  OpenClaim.holds_of_wide 3 Tryz.f3 rfl rfl rfl rfl rfl rfl rfl ⟨rfl, rfl, rfl, rfl, rfl⟩ rfl rfl rfl rfl rfl (by kernel_rfl) Tryz.func3 (by kernel_rfl)
    (of_decide_eq_true (by kernel_rfl)) (by unfold Func.isWrapper; first | (rw [if_pos (by decide +kernel)]; kernel_rfl) | (rw [if_neg (by decide +kernel)]; exact ⟨rfl, rfl⟩))
    (fun os started H enc _ => lifted os started H enc)
#print axioms fnExactSetRow_holds
end Go.Proofs.YtmemijccbmnaaaaGreat
