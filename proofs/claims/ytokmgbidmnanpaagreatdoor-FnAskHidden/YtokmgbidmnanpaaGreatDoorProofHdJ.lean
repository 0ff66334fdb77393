/-
  Proved: laws.FnAskHidden returns true at every two codes that can be read as data (the form's own reach), and leaves them as they were: what a drawn ask asks for of a drawn part is refused once the fields of that name of the first type are hidden, and impl.AskCheck and the model tell the same of part and ask.
  Conditions: the row's own; the library's three tables hold what the program's text lays, and the card ties that to the text.
-/
import Derived.Test.YtokmgbidmnanpaaGreatDoorQH1
import Derived.Test.YtokmgbidmnanpaaGreatDoorQ24
import Derived.Test.YtokmgbidmnanpaaGreatDoorQ8
import Derived.Test.YtokmgbidmnanpaaGreatDoorRows
import Derived.Test.YtokmgbidmnanpaaGreatDoorCards
import Derived.Test.YtokmgbidmnanpaaGreatDoorTie
import Derived.ProofKit
import Derived.LaidMore
import Derived.OpenShut
import Derived.Stop.Joined
import Derived.SizedLaws
import Derived.Lib.LaidTab
import Derived.SevenTiedAt
import Derived.ChangeOld
import Derived.ChangeSame
import Derived.ChangeVars
import Derived.JoinedOf
import Derived.Stop.LaidErr
namespace Go.Proofs.YtokmgbidmnanpaaGreatDoor
set_option linter.unusedSimpArgs false
set_option linter.unusedVariables false
open Go.ChangeShapes Go.WideShapes Go.ChangeAt Go.RowKit

theorem Tryz.own : ownKnob Tryz.prog.godebug = none := by kernel_rfl
theorem Tryz.laidOut : laidOutB Tryz.prog = true := by kernel_rfl
theorem Tryz.gpow : Tryz.prog.globalNamed "internal/strconv.uint64pow10" = some 1 := by kernel_rfl
theorem Tryz.tpow : (Tryz.prog.globals[1]?).map (·.type) = some 219 := by kernel_rfl
theorem Tryz.cpow : Tryz.prog.cellsOf 219 = 20 := by kernel_rfl
theorem Tryz.cu64 : Tryz.prog.cellsOf 213 = 1 := by kernel_rfl

theorem aSM (os : Os) (args : Array Value) : laidMetH Tryz.prog Rows.fnAskHiddenRow.laid ((World.doorLaid Tryz.prog 24 os).forCall (fun _ _ => 0) ⟨#[], args, []⟩).memory :=
  laidMetH_of_parts3 (fuel := 8) (laidMet_of_run' 8 (by kernel_rfl) (by kernel_rfl)) (by kernel_rfl) (by kernel_rfl)
theorem aNY {W : World} (h : laidMetH Tryz.prog Rows.fnAskHiddenRow.laid W) : Tab W.heap.size W := by
  rw [MakeChecks.laidMetH_plain _ _ _ (by kernel_rfl)] at h
  have h1 : Lib.TabIs Tryz.prog W "internal/strconv.uint64pow10" .u64 Lib.pow10Tab := Lib.tabIs_of_head (rest := []) Tryz.gpow Tryz.tpow Tryz.underlying219 Tryz.underlying213 Tryz.cu64 Tryz.cpow (laidMet.tail (laidMet.tail h))
  exact Lib.tabBelow_of_tabIs h1

set_option maxRecDepth 100000 in
theorem aUT (os : Os) (started : os.Started) (H : Type) (enc : TypeId × Value → H) :
    ReturnsInHanded {} Tryz.checked os 7 .any (fun w args => (Rows.fnAskHiddenSpec.pre enc Tryz.prog Tryz.f7 [] false w args ∧ laidMetH Tryz.prog Rows.fnAskHiddenRow.laid w) ∧ sizedMet enc Tryz.prog Tryz.f7 (OpenSpec.ofChange Rows.fnAskHiddenSpec) false w args)
      (Rows.fnAskHiddenSpec.post enc Tryz.prog Tryz.f7 false true false false) := by
  refine returnsInHanded_of_change_and (C := Tryz.checked) (X := fun w _ => laidMetH Tryz.prog Rows.fnAskHiddenRow.laid w) (fun _ _ _ hh h => h.of_heap hh) Tryz.own started (by kernel_rfl) Tryz.func7
    (ChangeSpec.witness_shaped (enc := enc) (C := Tryz.checked) (os := os) (X := fun w _ => laidMetH Tryz.prog Rows.fnAskHiddenRow.laid w) false (World.doorLaid Tryz.prog 24 os) #[.slice none 0 0, .slice none 0 0] 8 rfl (World.shaped_of_RefB (by kernel_rfl) (by kernel_rfl)) (by kernel_rfl) (by kernel_rfl) (by kernel_rfl) (aSM os _)) ?_
  intro W base args ds gs before hval0 hW hcnd hsz0 hL _
  have hsz : (DataW.weightsEach Tryz.prog (Tryz.f7.params.toList ++ Rows.fnAskHiddenSpec.plain.varTypes Tryz.prog) (ds ++ gs)).all (· ≤ reachBytes) = true := hsz0
  clear hsz0
  have hval : ∀ (j : Nat) t v, Tryz.f7.params[j]? = some t → args[j]? = some v → Value.okWide Tryz.prog W .any base t v := hval0
  have hW' := hW
  obtain ⟨p, q, hA0, hV, rfl, hfz, hnd⟩ := hW
  have hA : DataW.TrodAll enc Tryz.prog W 0 (fun _ => true) true Tryz.f7.params.toList args.toList ds p := hA0
  rw [Tryz.params7] at hA hval hsz
  obtain ⟨v0, v1, d0, d1, p0, p1, rfl, rfl, rfl, h0, h1⟩ := trodAll_two hA
  obtain ⟨rfl, rfl⟩ := trodVars_none hV
  have k0 := h0
  have k1 := h1
  have lt0 : ∀ x ∈ p0, x.block < W.heap.size := by obtain ⟨m, hm⟩ := k0; exact DataW.trod_lt m _ _ _ hm
  have lt1 : ∀ x ∈ p1, x.block < W.heap.size := by obtain ⟨m, hm⟩ := k1; exact DataW.trod_lt m _ _ _ hm
  have hv0 := hval 0 22 v0 rfl rfl
  obtain ⟨ra0, rl0, rc0, rfl⟩ := okWide_slice Tryz.underlying22 hv0
  obtain ⟨fuel0, hf0⟩ := h0
  have hv1 := hval 1 22 v1 rfl rfl
  obtain ⟨ra1, rl1, rc1, rfl⟩ := okWide_slice Tryz.underlying22 hv1
  obtain ⟨fuel1, hf1⟩ := h1
  have hl0 : aSD 22 d0 := fun n hn => by
    have h1 := DataW.weights_mem_each (P := Tryz.prog) (ts := [22, 22] ++ Rows.fnAskHiddenSpec.plain.varTypes Tryz.prog) (ds := [d0, d1] ++ []) (j := 0) rfl rfl n hn
    have h2 := List.all_eq_true.1 hsz n h1
    simpa using h2
  have hf0' : DataW.trod enc Tryz.prog W 0 (fun _ => true) true fuel0 22 [.slice ra0 rl0 rc0] = some (d0, p0) := by simpa [Value.cells] using hf0
  have hl1 : aSD 22 d1 := fun n hn => by
    have h1 := DataW.weights_mem_each (P := Tryz.prog) (ts := [22, 22] ++ Rows.fnAskHiddenSpec.plain.varTypes Tryz.prog) (ds := [d0, d1] ++ []) (j := 1) rfl rfl n hn
    have h2 := List.all_eq_true.1 hsz n h1
    simpa using h2
  have hf1' : DataW.trod enc Tryz.prog W 0 (fun _ => true) true fuel1 22 [.slice ra1 rl1 rc1] = some (d1, p1) := by simpa [Value.cells] using hf1
  have hT := aNY hL
  have hpos : 0 < W.heap.size := by have := aAR (Lib.TabIs.cell hT.here Tryz.gpow 0 (by decide)); omega
  obtain ⟨n0, cap0, cb0, a0, hc0, hC0⟩ := aQU hf0' hl0 hv0 hpos
  obtain ⟨n1, cap1, cb1, a1, hc1, hC1⟩ := aQU hf1' hl1 hv1 hpos
  clear hA0 hval0
  refine (hidden_walk W cb0 n0 _ cb1 n1 _ hC0 hC1 hT).mono fun e W' ⟨he, bel⟩ => ?_
  subst he
  have hk0 := Below.trod Tryz.laidOut (by kernel_rfl) (of_decide_eq_true (by kernel_rfl)) k0 bel lt0
  have hk1 := Below.trod Tryz.laidOut (by kernel_rfl) (of_decide_eq_true (by kernel_rfl)) k1 bel lt1
  exact ⟨_, rfl, _, _, _, [], _, [], hW', trodAll_mk1 (shut_bool Tryz.underlying4 _), trodAll_mk2 hk0 hk1, rfl, bel.frame _, fun h => by cases h⟩

theorem fnAskHidden_row : Rows.FnAskHiddenSaid :=
  OpenClaim.holds_of_wide 7 Tryz.f7 rfl rfl rfl rfl rfl rfl rfl ⟨rfl, rfl, rfl, rfl, rfl⟩ rfl rfl rfl rfl rfl (by kernel_rfl) Tryz.func7 (by kernel_rfl)
    (of_decide_eq_true (by kernel_rfl)) (by unfold Func.isWrapper; first | (rw [if_pos (by decide +kernel)]; kernel_rfl) | (rw [if_neg (by decide +kernel)]; exact ⟨rfl, rfl⟩))
    (fun os started H enc _ => aUT os started H enc)

theorem fnAskHidden_card : Rows.FnAskHiddenCardSaid :=
  Claim7.holds_tied_plain_at .later [] [.data, .data, .data] true Rows.fnAskHiddenCard.stood.harness false
    fnAskHidden_row (fun _ h => by cases h) (by kernel_rfl) (fun _ h => by cases h) fnAskHidden_row_tie rfl ⟨rfl, rfl⟩ (by kernel_rfl) rfl
    (fun f fn hf hfn => by
      obtain rfl : f = 7 := Option.some.inj ((show Tryz.prog.funcNamed Rows.fnAskHiddenRow.func = some 7 by kernel_rfl).symm.trans hf) |>.symm
      obtain rfl : fn = Tryz.f7 := (Option.some.inj (Tryz.func7.symm.trans hfn)).symm
      exact ⟨by kernel_rfl, fun j t ht => by
        rw [Tryz.params7] at ht
        have h3 : t = 22 := by
          rcases j with _ | _ | j
          · simpa using ht.symm
          · simpa using ht.symm
          · simp at ht
        subst h3
        exact (show Tryz.prog.wantsStandIn 22 = false by kernel_rfl)⟩)
    (by kernel_rfl)
#print axioms fnAskHidden_card
end Go.Proofs.YtokmgbidmnanpaaGreatDoor
