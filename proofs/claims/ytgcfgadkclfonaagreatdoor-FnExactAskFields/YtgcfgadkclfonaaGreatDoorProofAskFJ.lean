/-
  Proved: laws.FnExactAskFields returns true at every part and every ask that can be read as data (the form's own reach; a list that leads back into itself is shut out by the reading), and leaves its arguments as they were: impl.AskFields answers as the model spec.AskFields does, writes into no argument, keeps nothing of one, and its answer owns its memory.
  Conditions: the row's own; the library's three tables hold what the program's text lays, and the card ties that to the text.
-/
import Derived.Test.YtgcfgadkclfonaaGreatDoorJF1
import Derived.Test.YtgcfgadkclfonaaGreatDoorJ15
namespace Go.Proofs.YtgcfgadkclfonaaGreatDoor
set_option linter.unusedSimpArgs false
set_option linter.unusedVariables false
open Go.ChangeShapes Go.WideShapes Go.ChangeAt Go.RowKit

set_option maxRecDepth 100000 in
theorem liftedAskFields (os : Os) (started : os.Started) (H : Type) (enc : TypeId × Value → H) :
    ReturnsInHanded {} Tryz.checked os 5 .any (fun w args => (Rows.fnExactAskFieldsSpec.pre enc Tryz.prog Tryz.f5 [] false w args ∧ laidMetH Tryz.prog Rows.fnExactAskFieldsRow.laid w) ∧ sizedMet enc Tryz.prog Tryz.f5 (OpenSpec.ofChange Rows.fnExactAskFieldsSpec) false w args)
      (Rows.fnExactAskFieldsSpec.post enc Tryz.prog Tryz.f5 false true false false) := by
  refine returnsInHanded_of_change_and (C := Tryz.checked) (X := fun w _ => laidMetH Tryz.prog Rows.fnExactAskFieldsRow.laid w) (fun _ _ _ hh h => h.of_heap hh) Tryz.own started (by kernel_rfl) Tryz.func5
    (ChangeSpec.witness_shaped (enc := enc) (C := Tryz.checked) (os := os) (X := fun w _ => laidMetH Tryz.prog Rows.fnExactAskFieldsRow.laid w) false (World.doorLaid Tryz.prog 24 os) #[.agg #[.string ByteArray.empty, .slice none 0 0], .slice none 0 0] 8 rfl (World.shaped_of_RefB (by kernel_rfl) (by kernel_rfl)) (by kernel_rfl) (by kernel_rfl) (by kernel_rfl) (door_metF os _)) ?_
  intro W base args ds gs before hval0 hW hcnd hsz0 hL _
  have hsz : (DataW.weightsEach Tryz.prog (Tryz.f5.params.toList ++ Rows.fnExactAskFieldsSpec.plain.varTypes Tryz.prog) (ds ++ gs)).all (· ≤ reachBytes) = true := hsz0
  clear hsz0
  have hval : ∀ (j : Nat) t v, Tryz.f5.params[j]? = some t → args[j]? = some v → Value.okWide Tryz.prog W .any base t v := hval0
  have hW' := hW
  obtain ⟨p, q, hA0, hV, rfl, hfz, hnd⟩ := hW
  have hA : DataW.TrodAll enc Tryz.prog W 0 (fun _ => true) true Tryz.f5.params.toList args.toList ds p := hA0
  rw [Tryz.params5] at hA hval hsz
  obtain ⟨v0, v1, d0, d1, p0, p1, rfl, rfl, rfl, h0, h1⟩ := trodAll_two hA
  obtain ⟨rfl, rfl⟩ := trodVars_none hV
  have k0 := h0
  have k1 := h1
  have lt1 : ∀ x ∈ p1, x.block < W.heap.size := by obtain ⟨m, hm⟩ := k1; exact DataW.trod_lt m _ _ _ hm
  have lt0 : ∀ x ∈ p0, x.block < W.heap.size := by obtain ⟨m, hm⟩ := k0; exact DataW.trod_lt m _ _ _ hm
  obtain ⟨cs, rfl, -⟩ := okWide_struct Tryz.underlying24 (hval 0 24 v0 rfl rfl)
  obtain ⟨ra1, rl1, rc1, rfl⟩ := okWide_slice Tryz.underlying25 (hval 1 25 v1 rfl rfl)
  obtain ⟨fuel, hf⟩ := h0
  obtain ⟨fuel1, hf1⟩ := h1
  have hl : Light 24 d0 := fun n hn => by
    have h1 := DataW.weights_mem_each (P := Tryz.prog) (ts := [24, 25] ++ Rows.fnExactAskFieldsSpec.plain.varTypes Tryz.prog) (ds := [d0, d1] ++ []) (j := 0) rfl rfl n hn
    have h2 := List.all_eq_true.1 hsz n h1
    simpa using h2
  have hl1 : Light 25 d1 := fun n hn => by
    have h1 := DataW.weights_mem_each (P := Tryz.prog) (ts := [24, 25] ++ Rows.fnExactAskFieldsSpec.plain.varTypes Tryz.prog) (ds := [d0, d1] ++ []) (j := 1) rfl rfl n hn
    have h2 := List.all_eq_true.1 hsz n h1
    simpa using h2
  obtain ⟨y, c0, c1, hcs, hP⟩ := part_open fuel _ _ hf hl
  have hcs' : cs = #[c0, c1] := by
    apply Array.toList_inj.1
    simpa [Value.cells] using hcs
  subst hcs'
  have hf1' : DataW.trod enc Tryz.prog W 0 (fun _ => true) true fuel1 25 [.slice ra1 rl1 rc1] = some (d1, p1) := by simpa [Value.cells] using hf1
  obtain ⟨ks, ka, kc, hds1, hR1⟩ := sels_open hf1' hl1
  rw [hds1] at k1 hval hW' ⊢
  clear hA0 hval0
  refine (lawAskFields_walk y ks _ W ka kc hP hR1 (tab_of_laidF hL)).mono fun e W' ⟨he, bel⟩ => ?_
  subst he
  exact ⟨_, rfl, _, _, _, [], _, [], hW', trodAll_mk1 (shut_bool Tryz.underlying4 _), trodAll_mk2 (Below.trod Tryz.laidOut (by kernel_rfl) (of_decide_eq_true (by kernel_rfl)) k0 bel lt0) (Below.trod Tryz.laidOut (by kernel_rfl) (of_decide_eq_true (by kernel_rfl)) k1 bel lt1), rfl, bel.frame _, fun h => by cases h⟩

theorem fnExactAskFields_row : Rows.FnExactAskFieldsSaid :=
  OpenClaim.holds_of_wide 5 Tryz.f5 rfl rfl rfl rfl rfl rfl rfl ⟨rfl, rfl, rfl, rfl, rfl⟩ rfl rfl rfl rfl rfl (by kernel_rfl) Tryz.func5 (by kernel_rfl)
    (of_decide_eq_true (by kernel_rfl)) (by unfold Func.isWrapper; first | (rw [if_pos (by decide +kernel)]; kernel_rfl) | (rw [if_neg (by decide +kernel)]; exact ⟨rfl, rfl⟩))
    (fun os started H enc _ => liftedAskFields os started H enc)

theorem fnExactAskFields_card : Rows.FnExactAskFieldsCardSaid :=
  Claim7.holds_tied_plain_at .later [] [.data, .data, .data] true Rows.fnExactAskFieldsCard.stood.harness false
    fnExactAskFields_row (fun _ h => by cases h) (by kernel_rfl) (fun _ h => by cases h) fnExactAskFields_row_tie rfl ⟨rfl, rfl⟩ (by kernel_rfl) rfl
    (fun f fn hf hfn => by
      obtain rfl : f = 5 := Option.some.inj ((show Tryz.prog.funcNamed Rows.fnExactAskFieldsRow.func = some 5 by kernel_rfl).symm.trans hf) |>.symm
      obtain rfl : fn = Tryz.f5 := (Option.some.inj (Tryz.func5.symm.trans hfn)).symm
      exact ⟨by kernel_rfl, fun j t ht => by
        rw [Tryz.params5] at ht
        rcases j with _ | _ | j
        · have h3 : t = 24 := by simpa using ht.symm
          subst h3
          exact (show Tryz.prog.wantsStandIn 24 = false by kernel_rfl)
        · have h3 : t = 25 := by simpa using ht.symm
          subst h3
          exact (show Tryz.prog.wantsStandIn 25 = false by kernel_rfl)
        · simp at ht⟩)
    (by kernel_rfl)
#print axioms fnExactAskFields_card
end Go.Proofs.YtgcfgadkclfonaaGreatDoor
