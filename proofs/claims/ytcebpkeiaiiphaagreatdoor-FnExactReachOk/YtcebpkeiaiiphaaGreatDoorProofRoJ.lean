/-
  Proved: laws.FnExactReachOk returns true at every list of parts that can be read as data (the form's own reach), and leaves its argument as it was: impl.ReachOk answers as the model spec.ReachOk does, its flag and its texts, writes into no argument, and its answer owns its memory, behind another call too.
  Conditions: the row's own; the package's eight variables of chart faults hold what the program's text lays, and the card ties that to the text.
-/
import Derived.Test.YtcebpkeiaiiphaaGreatDoorRB51
import Derived.Test.YtcebpkeiaiiphaaGreatDoorRB3
import Derived.Test.YtcebpkeiaiiphaaGreatDoorRows
import Derived.Test.YtcebpkeiaiiphaaGreatDoorCards
import Derived.Test.YtcebpkeiaiiphaaGreatDoorTie
import Derived.ProofKit
import Derived.LaidMore
import Derived.OpenShut
import Derived.OpenVars
import Derived.Stop.Joined
import Derived.SizedLaws
import Derived.SevenTiedAt
import Derived.ChangeOld
import Derived.ChangeSame
import Derived.ChangeVars
import Derived.JoinedOf
import Derived.Stop.LaidErr
namespace Go.Proofs.YtcebpkeiaiiphaaGreatDoor
set_option linter.unusedSimpArgs false
set_option linter.unusedVariables false
open Go.ChangeShapes Go.WideShapes Go.ChangeAt Go.RowKit

theorem Tryz.own : ownKnob Tryz.prog.godebug = none := by kernel_rfl
theorem Tryz.laidOut : laidOutB Tryz.prog = true := by kernel_rfl
theorem aOB : Tryz.prog.globalNamed "loop.example/portolan/impl.errChartBadPart" = some 1 := by kernel_rfl
theorem aTI : (Tryz.prog.globals[1]?).map (·.type) = some 101 := by kernel_rfl
theorem aTS : Tryz.prog.globalNamed "loop.example/portolan/impl.errChartTwice" = some 2 := by kernel_rfl
theorem aUY : (Tryz.prog.globals[2]?).map (·.type) = some 101 := by kernel_rfl
theorem aS4 : Tryz.prog.globalNamed "loop.example/portolan/impl.errChartUnlike" = some 4 := by kernel_rfl
theorem aTV : (Tryz.prog.globals[4]?).map (·.type) = some 101 := by kernel_rfl
theorem gKey : Tryz.prog.globalNamed "loop.example/portolan/impl.errChartKey" = some 3 := by kernel_rfl
theorem tKey : (Tryz.prog.globals[3]?).map (·.type) = some 101 := by kernel_rfl
theorem aR9 : Tryz.prog.globalNamed "loop.example/portolan/impl.errChartShared" = some 5 := by kernel_rfl
theorem aU3 : (Tryz.prog.globals[5]?).map (·.type) = some 101 := by kernel_rfl
theorem gFar : Tryz.prog.globalNamed "loop.example/portolan/impl.errChartFar" = some 6 := by kernel_rfl
theorem tFar : (Tryz.prog.globals[6]?).map (·.type) = some 101 := by kernel_rfl
theorem aTP : Tryz.prog.globalNamed "loop.example/portolan/impl.errChartNeeds" = some 7 := by kernel_rfl
theorem aV5 : (Tryz.prog.globals[7]?).map (·.type) = some 101 := by kernel_rfl
theorem aV8 : Tryz.prog.globalNamed "loop.example/portolan/impl.errChartMany" = some 0 := by kernel_rfl
theorem aVN : (Tryz.prog.globals[0]?).map (·.type) = some 101 := by kernel_rfl
theorem aRV : "*" ++ "errors.errorString" = "*errors.errorString" := by decide
theorem aHY (u : TypeId) (h : Tryz.prog.typeName? 3 u = some "*errors.errorString") : u = 267 :=
  typeName_ptr_named (nm := "errors.errorString") (by rw [aRV]; kernel_rfl) (by kernel_rfl) (by decide) u (by rw [aRV]; exact h)
theorem aE0 : Tryz.prog.cellsOf 287 = 1 := by kernel_rfl
theorem aUI : varsRowed Tryz.prog Rows.fnExactReachOkSpec.vars = true := by kernel_rfl
theorem aQI : Tryz.prog.bytesOf 43 = 40 := by kernel_rfl

section
variable {H : Type} {enc : TypeId × Value → H} {w : World}
theorem aPZ {fuel : Nat} {c : Value} {x : DataW H × List MemPlace} (h : DataW.trod enc Tryz.prog w 0 (fun _ => true) true fuel 22 [c] = some x) (hl : aJ2 22 x.1) :
    ∃ (ps : List Pt) (ra : Option Addr) (rc : Nat), c = .slice ra ps.length rc ∧ aAZ w (· < w.heap.size) ps ra := by
  obtain ⟨ps, ra, rc, C, e, -, hb, hA, hr⟩ := aJG Pt.zero (fun p cs => ∃ (c0 c1 : Value), cs = [c0, c1] ∧ PRep w (· < w.heap.size) p (.agg #[c0, c1])) 22 43 2 40 Tryz.underlying22 Tryz.cells43 aQI (by omega) h hl
    (fun m cs y h hl => by
      obtain ⟨p, c0, c1, e, hR⟩ := aRE m cs y h hl
      exact ⟨by rw [e]; rfl, p, c0, c1, e, hR⟩)
  refine ⟨ps, ra, rc, e, hb, C, hA, fun i hi => ?_⟩
  obtain ⟨d0, d1, hd, hR⟩ := hr i hi
  simp only [List.range, List.range.loop, List.map_cons, List.map_nil, List.cons.injEq, and_true] at hd
  obtain ⟨rfl, rfl⟩ := hd
  exact hR
end

theorem aP8 {H : Type} {enc : TypeId × Value → H} {P : Program} {w : World} {sp : Nat → Bool} {n1 n2 n3 n4 n5 n6 n7 n8 : String} {gs : List (DataW H)} {ps : List MemPlace} (h : DataW.TrodVars enc P w sp [n1, n2, n3, n4, n5, n6, n7, n8] gs ps) : ∃ g1 g2 g3 g4 g5 g6 g7 g8, gs = [g1, g2, g3, g4, g5, g6, g7, g8] := by
  rcases gs with _ | ⟨g1, gs⟩
  · exact h.elim
  obtain ⟨_, _, _, _, _, _, _, _, _, _, h, _⟩ := h
  rcases gs with _ | ⟨g2, gs⟩
  · exact h.elim
  obtain ⟨_, _, _, _, _, _, _, _, _, _, h, _⟩ := h
  rcases gs with _ | ⟨g3, gs⟩
  · exact h.elim
  obtain ⟨_, _, _, _, _, _, _, _, _, _, h, _⟩ := h
  rcases gs with _ | ⟨g4, gs⟩
  · exact h.elim
  obtain ⟨_, _, _, _, _, _, _, _, _, _, h, _⟩ := h
  rcases gs with _ | ⟨g5, gs⟩
  · exact h.elim
  obtain ⟨_, _, _, _, _, _, _, _, _, _, h, _⟩ := h
  rcases gs with _ | ⟨g6, gs⟩
  · exact h.elim
  obtain ⟨_, _, _, _, _, _, _, _, _, _, h, _⟩ := h
  rcases gs with _ | ⟨g7, gs⟩
  · exact h.elim
  obtain ⟨_, _, _, _, _, _, _, _, _, _, h, _⟩ := h
  rcases gs with _ | ⟨g8, gs⟩
  · exact h.elim
  obtain ⟨_, _, _, _, _, _, _, _, _, _, h, _⟩ := h
  rcases gs with _ | ⟨g9, gs⟩
  · exact ⟨g1, g2, g3, g4, g5, g6, g7, g8, rfl⟩
  · exact h.elim

theorem aTJ (os : Os) (args : Array Value) : laidMetH Tryz.prog Rows.fnExactReachOkRow.laid ((World.doorLaid Tryz.prog 400 os).forCall (fun _ _ => 0) ⟨#[], args, []⟩).memory :=
  laidMetH_of_parts3 (fuel := 8) (laidMet_of_run' 8 (by kernel_rfl) (by kernel_rfl)) (by kernel_rfl) (by kernel_rfl)
theorem aMM {W : World} (h : laidMetH Tryz.prog Rows.fnExactReachOkRow.laid W) : GErr W := by
  rw [MakeChecks.laidMetH_plain _ _ _ (by kernel_rfl)] at h
  have h0 := h
  obtain ⟨a0, s0, v0, -⟩ := laid_sentinel h0 aOB aTI Tryz.underlying101 aHY Tryz.underlying267 Tryz.underlying287 rfl rfl Tryz.underlying9 aE0 Tryz.cells9
  have h1 := laidMet.tail h0
  obtain ⟨a1, s1, v1, -⟩ := laid_sentinel h1 aTS aUY Tryz.underlying101 aHY Tryz.underlying267 Tryz.underlying287 rfl rfl Tryz.underlying9 aE0 Tryz.cells9
  have h2 := laidMet.tail h1
  obtain ⟨a2, s2, v2, -⟩ := laid_sentinel h2 aS4 aTV Tryz.underlying101 aHY Tryz.underlying267 Tryz.underlying287 rfl rfl Tryz.underlying9 aE0 Tryz.cells9
  have h3 := laidMet.tail h2
  obtain ⟨a3, s3, v3, -⟩ := laid_sentinel h3 gKey tKey Tryz.underlying101 aHY Tryz.underlying267 Tryz.underlying287 rfl rfl Tryz.underlying9 aE0 Tryz.cells9
  have h4 := laidMet.tail h3
  obtain ⟨a4, s4, v4, -⟩ := laid_sentinel h4 aR9 aU3 Tryz.underlying101 aHY Tryz.underlying267 Tryz.underlying287 rfl rfl Tryz.underlying9 aE0 Tryz.cells9
  have h5 := laidMet.tail h4
  obtain ⟨a5, s5, v5, -⟩ := laid_sentinel h5 gFar tFar Tryz.underlying101 aHY Tryz.underlying267 Tryz.underlying287 rfl rfl Tryz.underlying9 aE0 Tryz.cells9
  have h6 := laidMet.tail h5
  obtain ⟨a6, s6, v6, -⟩ := laid_sentinel h6 aTP aV5 Tryz.underlying101 aHY Tryz.underlying267 Tryz.underlying287 rfl rfl Tryz.underlying9 aE0 Tryz.cells9
  have h7 := laidMet.tail h6
  obtain ⟨a7, s7, v7, -⟩ := laid_sentinel h7 aV8 aVN Tryz.underlying101 aHY Tryz.underlying267 Tryz.underlying287 rfl rfl Tryz.underlying9 aE0 Tryz.cells9
  intro g hg
  have hg' : g = 0 ∨ g = 1 ∨ g = 2 ∨ g = 3 ∨ g = 4 ∨ g = 5 ∨ g = 6 ∨ g = 7 := by omega
  rcases hg' with rfl | rfl | rfl | rfl | rfl | rfl | rfl | rfl
  · exact ⟨_, _, by simpa using World.var?_cell aV8 v7 0⟩
  · exact ⟨_, _, by simpa using World.var?_cell aOB v0 0⟩
  · exact ⟨_, _, by simpa using World.var?_cell aTS v1 0⟩
  · exact ⟨_, _, by simpa using World.var?_cell gKey v3 0⟩
  · exact ⟨_, _, by simpa using World.var?_cell aS4 v2 0⟩
  · exact ⟨_, _, by simpa using World.var?_cell aR9 v4 0⟩
  · exact ⟨_, _, by simpa using World.var?_cell gFar v5 0⟩
  · exact ⟨_, _, by simpa using World.var?_cell aTP v6 0⟩

set_option maxRecDepth 100000 in
theorem aUS (os : Os) (started : os.Started) (H : Type) (enc : TypeId × Value → H) :
    ReturnsInHanded {} Tryz.checked os 4 .any (fun w args => (Rows.fnExactReachOkSpec.pre enc Tryz.prog Tryz.f4 [] false w args ∧ laidMetH Tryz.prog Rows.fnExactReachOkRow.laid w) ∧ sizedMet enc Tryz.prog Tryz.f4 (OpenSpec.ofChange Rows.fnExactReachOkSpec) false w args)
      (Rows.fnExactReachOkSpec.post enc Tryz.prog Tryz.f4 false true false false) := by
  refine returnsInHanded_of_change_and (C := Tryz.checked) (X := fun w _ => laidMetH Tryz.prog Rows.fnExactReachOkRow.laid w) (fun _ _ _ hh h => h.of_heap hh) Tryz.own started (by kernel_rfl) Tryz.func4
    (ChangeSpec.witness_shaped (enc := enc) (C := Tryz.checked) (os := os) (X := fun w _ => laidMetH Tryz.prog Rows.fnExactReachOkRow.laid w) false (World.doorLaid Tryz.prog 400 os) #[.slice none 0 0] 8 rfl (World.shaped_of_RefB (by kernel_rfl) (by kernel_rfl)) (by kernel_rfl) (by kernel_rfl) (by kernel_rfl) (aTJ os _)) ?_
  intro W base args ds gs before hval0 hW hcnd hsz0 hL _
  have hsz : (DataW.weightsEach Tryz.prog (Tryz.f4.params.toList ++ Rows.fnExactReachOkSpec.plain.varTypes Tryz.prog) (ds ++ gs)).all (· ≤ reachBytes) = true := hsz0
  clear hsz0
  have hval : ∀ (j : Nat) t v, Tryz.f4.params[j]? = some t → args[j]? = some v → Value.okWide Tryz.prog W .any base t v := hval0
  have hW' := hW
  obtain ⟨p, q, hA0, hV, rfl, hfz, hnd⟩ := hW
  have hA : DataW.TrodAll enc Tryz.prog W 0 (fun _ => true) true Tryz.f4.params.toList args.toList ds p := hA0
  rw [Tryz.params4] at hA hval hsz
  obtain ⟨v0, d0, rfl, rfl, h0⟩ := trodAll_one hA
  have k0 := h0
  have lt0 : ∀ x ∈ p, x.block < W.heap.size := by obtain ⟨m, hm⟩ := k0; exact DataW.trod_lt m _ _ _ hm
  have hv0 := hval 0 22 v0 rfl rfl
  obtain ⟨ra0, rl0, rc0, rfl⟩ := okWide_slice Tryz.underlying22 hv0
  obtain ⟨fuel0, hf0⟩ := h0
  have hl0 : aJ2 22 d0 := fun n hn => by
    have h1 := DataW.weights_mem_each (P := Tryz.prog) (ts := [22] ++ Rows.fnExactReachOkSpec.plain.varTypes Tryz.prog) (ds := [d0] ++ gs) (j := 0) rfl rfl n hn
    have h2 := List.all_eq_true.1 hsz n h1
    simpa using h2
  have hf0' : DataW.trod enc Tryz.prog W 0 (fun _ => true) true fuel0 22 [.slice ra0 rl0 rc0] = some (d0, p) := by simpa [Value.cells] using hf0
  obtain ⟨ps, ra, rc, hc, hR⟩ := aPZ hf0' hl0
  simp only [Value.slice.injEq] at hc
  obtain ⟨rfl, rfl, rfl⟩ := hc
  have hG := aMM hL
  obtain ⟨g1, g2, g3, g4, g5, g6, g7, g8, rfl⟩ : ∃ g1 g2 g3 g4 g5 g6 g7 g8, gs = [g1, g2, g3, g4, g5, g6, g7, g8] := aP8 hV
  clear hA0 hval0
  refine (aJO ps W _ _ hR hG).mono fun e W' ⟨he, bel⟩ => ?_
  subst he
  have hk0 := Below.trod Tryz.laidOut (by kernel_rfl) (of_decide_eq_true (by kernel_rfl)) k0 bel lt0
  have hkv := Below.trodVars Tryz.laidOut bel aUI hV
  exact ⟨_, rfl, _, _, _, [], _, _, hW', trodAll_mk1 (shut_bool Tryz.underlying4 _), trodAll_mk1 hk0, hkv, bel.frame _, fun h => by cases h⟩

theorem aGP : Rows.FnExactReachOkSaid :=
  OpenClaim.holds_of_wide 4 Tryz.f4 rfl rfl rfl rfl rfl rfl rfl ⟨rfl, rfl, rfl, rfl, rfl⟩ rfl rfl rfl rfl rfl (by kernel_rfl) Tryz.func4 (by kernel_rfl)
    (of_decide_eq_true (by kernel_rfl)) (by unfold Func.isWrapper; first | (rw [if_pos (by decide +kernel)]; kernel_rfl) | (rw [if_neg (by decide +kernel)]; exact ⟨rfl, rfl⟩))
    (fun os started H enc _ => aUS os started H enc)

theorem fnExactReachOk_card : Rows.FnExactReachOkCardSaid :=
  Claim7.holds_tied_plain_at .later [] [.sentinel, .sentinel, .sentinel, .sentinel, .sentinel, .sentinel, .sentinel, .sentinel] true Rows.fnExactReachOkCard.stood.harness true
    aGP (fun _ h => by cases h) (by kernel_rfl) (fun _ h => by cases h) fnExactReachOk_row_tie rfl ⟨rfl, rfl⟩ (by kernel_rfl) rfl
    (fun f fn hf hfn => by
      obtain rfl : f = 4 := Option.some.inj ((show Tryz.prog.funcNamed Rows.fnExactReachOkRow.func = some 4 by kernel_rfl).symm.trans hf) |>.symm
      obtain rfl : fn = Tryz.f4 := (Option.some.inj (Tryz.func4.symm.trans hfn)).symm
      exact ⟨by kernel_rfl, fun j t ht => by
        rw [Tryz.params4] at ht
        have h3 : t = 22 := by
          rcases j with _ | j
          · simpa using ht.symm
          · simp at ht
        subst h3
        exact (show Tryz.prog.wantsStandIn 22 = false by kernel_rfl)⟩)
    (by kernel_rfl)
#print axioms fnExactReachOk_card
end Go.Proofs.YtcebpkeiaiiphaaGreatDoor
