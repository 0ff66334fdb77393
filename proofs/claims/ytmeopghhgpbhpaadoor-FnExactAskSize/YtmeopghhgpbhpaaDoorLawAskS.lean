/-
  The law of AskSize, walked.
-/
import Derived.Test.YtmeopghhgpbhpaaDoorLawAsk0
import Derived.Test.YtmeopghhgpbhpaaDoorAWaysS
namespace Go.Proofs.YtmeopghhgpbhpaaDoor
set_option linter.unusedSimpArgs false
set_option linter.unusedVariables false
open Go.RowKit Go.Shelf Go.Maps

set_option maxRecDepth 20000 in
set_option maxHeartbeats 1600000 in
theorem lawAskSize_walk (ks : List Se) (w : World) (ra : Option Addr) (rc : Nat) (hR : SeReps w (· < w.heap.size) ks ra) (hT : Tab w.heap.size w) :
    Calls Tryd.prog 6 #[.slice ra ks.length rc] w fun e w' => e = .returned (.bool true) ∧ Below w.heap.size w w' := by
  obtain ⟨f0, hf0⟩ := FitS.ex hR
  have HCP := hid_of (fun W (hb : Below w.heap.size w W) => toSelS_nf ks (fun i _ => toSel_any _) W w.heap.size ra rc (hR.under hb) hb.size)
  have HSz := hid_of (szSelS_two ks (fun i _ => szSel_two _) w w.heap.size ra rc 1048576 hR (Nat.le_refl _) (by omega) (by omega))
  clear hR
  go_enter Tryd.func6, Tryd.ntmps6
  go_wp2_with fail
  refine HSz.out.mono ?_
  rintro e w1 ⟨y, rfl, hy0, hy1, hy2, hb1⟩
  have HY := hid_of hy2
  have HT := hid_of hT
  have HF0 := hid_of hf0
  clear hy2 HSz hT hf0
  by_cases hy : y < 0
  · go_wp2_with fail
    go_ret
    exact ⟨rfl, hb1⟩
  obtain ⟨F, hFn, hF⟩ : ∃ F : Nat, F ≤ 1000000000 ∧ Hid (FitS F ks ∧ SmallS F ks) := by
    obtain ⟨-, h2⟩ := HY.out (by omega)
    obtain ⟨F, hF⟩ : ∃ F : Nat, F = 1048576 := ⟨_, rfl⟩
    exact ⟨F, by omega, hid_of ⟨FitS.few f0 HF0.out F (by have := (h2 f0).1; omega), (h2 F).2⟩⟩
  clear HY
  go_wp2_with fail
  refine (HCP.out w1 hb1).mono ?_
  rintro e w2 ⟨rfl, hb2, z2, hR2, -⟩
  have bw2 := hb1.trans (hb2.mono hb1.size)
  have HSp := hid_of (AskSizeS_any F ks w2 w2.heap.size (some ⟨w1.heap.size, 0, none⟩) ks.length hF.out.1 hF.out.2 hFn (hR2.sub fun b hb => hb.2) (Nat.le_refl _))
  clear hR2
  go_wp2_with fail
  refine HSp.out.mono ?_
  rintro e w3 ⟨rfl, hb3⟩
  have bw3 := bw2.trans (hb3.mono bw2.size)
  clear HSp
  go_wp2_with fail
  refine (HCP.out w3 bw3).mono ?_
  rintro e w4 ⟨rfl, hb4, z4, hR4, hN4⟩
  have bw4 := bw3.trans (hb4.mono bw3.size)
  have HIm := hid_of (AskSizeI_any F ks _ w4.heap.size (some ⟨w3.heap.size, 0, none⟩) ks.length w4 (askIn_copied hF.out.1 hF.out.2 hFn hR4 hN4 ((HT.out.on bw4).up bw4.size)))
  have HR4 := hid_of hR4
  clear hR4 hN4
  go_wp2_with fail
  refine HIm.out.mono ?_
  rintro e w5 ⟨rfl, hb5⟩
  have bw5 := bw4.trans (hb5.mono bw4.size)
  clear HIm
  generalize (askWays F ks).length = v
  all_goals
    go_wp2_with fail
    refine (HCP.out w5 bw5).mono ?_
    rintro e w6 ⟨rfl, hb6, z6, hR6, -⟩
    have bw6 := bw5.trans (hb6.mono bw5.size)
    have z5 := hb5.size
    have HEq := hid_of (eqSelS_any ks (fun i _ => eqSel_any _) w6 w6.heap.size (some ⟨w3.heap.size, 0, none⟩) (some ⟨w5.heap.size, 0, none⟩) ks.length ks.length ((HR4.out.mono fun k hk => ((hb6.block k (by omega)).trans (hb5.block k hk.2))).sub fun b hb => by omega) (hR6.sub fun b hb => hb.2) (Nat.le_refl _))
    clear hR6
    go_wp2_with fail
    refine HEq.out.mono ?_
    rintro e w7 ⟨rfl, hb7⟩
    have bw7 := bw6.trans (hb7.mono bw6.size)
    go_wp2_with fail
    go_ret
    exact ⟨rfl, bw7⟩
end Go.Proofs.YtmeopghhgpbhpaaDoor
