import Derived.Test.YtmeopghhgpbhpaaDoorJ7
import Derived.Test.YtmeopghhgpbhpaaDoorJ8
namespace Go.Proofs.YtmeopghhgpbhpaaDoor
set_option linter.unusedSimpArgs false
set_option linter.unusedVariables false
open Go.RowKit Go.Shelf Go.Maps

theorem FitS.nil (f : Nat) : FitS f [] := by
  cases f with
  | zero => rfl
  | succ f => exact fun i hi => by simp at hi
theorem askLess_fit {f : Nat} {ks : List Se} {wo : List UInt8} (hf : FitS f ks) : FitS f (askLess f ks wo) := by
  unfold askLess
  split
  · exact lessM_fit f _ ks _ (Nat.le_refl _) hf
  · exact FitS.nil f
theorem askLess_cnt {f : Nat} {ks : List Se} {wo : List UInt8} : cntTo f (askLess f ks wo) (askLess f ks wo).length ≤ cntTo f ks ks.length := by
  unfold askLess
  split
  · rw [cnt_list]; exact lessM_cnt f _ ks _
  · simp [cntTo]

set_option maxRecDepth 20000 in
set_option maxHeartbeats 3200000 in
theorem lawAskLess_walk (ks : List Se) (wy : ByteArray) (w : World) (ra : Option Addr) (rc : Nat) (hR : SeReps w (· < w.heap.size) ks ra) (hT : Tab w.heap.size w) :
    Calls Tryd.prog 8 #[.slice ra ks.length rc, .string wy] w fun e w' => e = .returned (.bool true) ∧ Below w.heap.size w w' := by
  obtain ⟨f0, hf0⟩ := FitS.ex hR
  have HCP := hid_of (fun W (hb : Below w.heap.size w W) => toSelS_nf ks (fun i _ => toSel_any _) W w.heap.size ra rc (hR.under hb) hb.size)
  have HSz := hid_of (szSelS_two ks (fun i _ => szSel_two _) w w.heap.size ra rc 1048576 hR (Nat.le_refl _) (by omega) (by omega))
  clear hR
  by_cases hwy : wy.size ≤ 1048576
  rotate_left
  · have hwi : (1048576 : Int) < (wy.size : Int) := by omega
    go_enter Tryd.func8, Tryd.ntmps8
    go_wp2_with fail
    go_ret
    exact ⟨rfl, Below.refl _ _⟩
  have hwi : ¬ (1048576 : Int) < (wy.size : Int) := by omega
  go_enter Tryd.func8, Tryd.ntmps8
  go_wp2_with fail
  refine HSz.out.mono ?_
  rintro e w1 ⟨y, rfl, hy0, hy1, hy2, hb1⟩
  have HY := hid_of hy2
  have HT := hid_of hT
  have HF0 := hid_of hf0
  clear hy2 HSz hT hf0
  by_cases hy : y < 0
  · go_wp2_with fail
    go_ret
    exact ⟨rfl, hb1⟩
  obtain ⟨F, hFn, hF⟩ : ∃ F : Nat, F ≤ 1000000000 ∧ Hid (FitS F ks ∧ SmallS F ks) := by
    obtain ⟨-, h2⟩ := HY.out (by omega)
    obtain ⟨F, hF⟩ : ∃ F : Nat, F = 1048576 := ⟨_, rfl⟩
    exact ⟨F, by omega, hid_of ⟨FitS.few f0 HF0.out F (by have := (h2 f0).1; omega), (h2 F).2⟩⟩
  have HCN : Hid (ks.length ≤ 1048576 ∧ ∀ g, cntTo g ks ks.length ≤ 1048576) := hid_of (by
    obtain ⟨h1, h2⟩ := HY.out (by omega)
    exact ⟨by omega, fun g => by have := (h2 g).1; omega⟩)
  clear HY
  go_wp2_with fail
  refine (HCP.out w1 hb1).mono ?_
  rintro e w2 ⟨rfl, hb2, z2, hR2, -⟩
  have bw2 := hb1.trans (hb2.mono hb1.size)
  have HSp := hid_of (AskLessS_any F ks wy w2 w2.heap.size (some ⟨w1.heap.size, 0, none⟩) ks.length hF.out.1 hwy (hR2.sub fun b hb => hb.2) (Nat.le_refl _))
  clear hR2
  go_wp2_with fail
  refine HSp.out.mono ?_
  have HLF : Hid (FitS F (askLess F ks wy.toList) ∧ cntTo F (askLess F ks wy.toList) (askLess F ks wy.toList).length ≤ 1048576) := hid_of ⟨askLess_fit hF.out.1, Nat.le_trans askLess_cnt (HCN.out.2 F)⟩
  have HIM := hid_of (fun W ka kc P B (h : AskIn F ks P B ka W) => AskLessI_any F ks wy P B ka kc W h)
  obtain ⟨L, hL⟩ : ∃ L, L = askLess F ks wy.toList := ⟨_, rfl⟩
  rw [← hL] at HLF HIM ⊢
  clear hL
  rintro e w3 ⟨a0, cap0, rfl, hO0, hb3⟩
  have bw3 := bw2.trans (hb3.mono bw2.size)
  have HO0 := hid_of (hO0.sub (Q := fun b => w2.heap.size ≤ b ∧ b < w3.heap.size) fun b hb => hb.elim (fun h => by omega) id)
  clear HSp hO0
  go_wp2_with fail
  refine (HCP.out w3 bw3).mono ?_
  rintro e w4 ⟨rfl, hb4, z4, hR4, hN4⟩
  have bw4 := bw3.trans (hb4.mono bw3.size)
  have HIm := hid_of (HIM.out w4 (some ⟨w3.heap.size, 0, none⟩) ks.length _ w4.heap.size (askIn_copied hF.out.1 hF.out.2 hFn hR4 hN4 ((HT.out.on bw4).up bw4.size)))
  have HR4 := hid_of (And.intro hR4 hN4)
  clear hR4 hN4
  go_wp2_with fail
  refine HIm.out.mono ?_
  rintro e w5 ⟨ga, gc, rfl, hSG, hb5⟩
  have z3 := hb3.size
  have z5 := hb5.size
  have bw5 := bw4.trans (hb5.mono bw4.size)
  have hS0 := HO0.out
  obtain ⟨S1, hS1⟩ : ∃ S : Nat → Prop, ∀ b, S b ↔ (w3.heap.size ≤ b ∧ b < w4.heap.size) := ⟨_, fun b => Iff.rfl⟩
  obtain ⟨S2, hS2⟩ : ∃ S : Nat → Prop, ∀ b, S b ↔ (w3.heap.size ≤ b ∧ b < w5.heap.size) := ⟨_, fun b => Iff.rfl⟩
  have K0 : Hid (∀ W, Fram S2 w5 W → SeReps W (fun b => w2.heap.size ≤ b ∧ b < w3.heap.size) L a0) := hid_of fun W hW => hS0.mono fun k hk => ((hW.block k (by omega) (by rw [hS2]; omega)).trans (hb5.block k (by omega))).trans (hb4.block k hk.2)
  have KG : Hid (∀ W, Fram S1 w5 W → OwnT F W (fun b => w4.heap.size ≤ b ∧ b < w5.heap.size) L ga) := hid_of fun W hW => hSG.keep fun k hk => hW.block k hk.2 (by rw [hS1]; omega)
  have KB : Hid (∀ W, Fram S2 w5 W → Below w.heap.size w W) := hid_of fun W hW => bw5.trans (hW.below bw5.size fun b hb => by rw [hS2] at hb; have := bw3.size; omega)
  have K12 : Hid (∀ W, Fram S1 w5 W → Fram S2 w5 W) := hid_of fun W hW => ⟨hW.os, hW.tape, hW.output, hW.size, fun b hb hn => hW.block b hb fun e => hn (by rw [hS1] at e; rw [hS2]; omega)⟩
  have KX : Hid (∀ W, Below w5.heap.size w5 W → SeReps W (fun b => w3.heap.size ≤ b ∧ b < w4.heap.size) ks (some ⟨w3.heap.size, 0, none⟩)) := hid_of fun W hW => HR4.out.1.mono fun k hk => (hW.block k (by omega)).trans (hb5.block k hk.2)
  have KW : Hid (∃ f, ∀ W, Below w5.heap.size w5 W → WSels W w3.heap.size w4.heap.size f ks (some ⟨w3.heap.size, 0, none⟩)) := hid_of (by
    obtain ⟨f, hf⟩ := WSels.of_rep HR4.out.1 HR4.out.2
    exact ⟨f, fun W hW => (hf.keep (MarkedN.of_below 0 0 hb5)).keep (MarkedN.of_below 0 0 hW)⟩)
  clear HIm hSG hS0
  have HE1 := hid_of (eqSelS_any L (fun i _ => eqSel_any _) w5 w5.heap.size ga a0 gc cap0 ((KG.out w5 (Fram.of_below (Below.refl _ _))).reps.sub fun b hb => hb.2) ((K0.out w5 (Fram.of_below (Below.refl _ _))).sub fun b hb => by omega) (Nat.le_refl _))
  go_wp2_with fail
  refine HE1.out.mono ?_
  rintro e w6 ⟨rfl, hb6⟩
  clear HE1
  have z6 := hb6.size
  go_wp2_with fail
  refine (HCP.out w6 (KB.out w6 (Fram.of_below hb6))).mono ?_
  rintro e w7 ⟨rfl, hb7, z7, hR7, -⟩
  have bw7 := hb6.trans (hb7.mono z6)
  have HE2 := hid_of (eqSelS_any ks (fun i _ => eqSel_any _) w7 w7.heap.size (some ⟨w3.heap.size, 0, none⟩) (some ⟨w6.heap.size, 0, none⟩) ks.length ks.length ((KX.out w7 bw7).sub fun b hb => by omega) (hR7.sub fun b hb => hb.2) (Nat.le_refl _))
  clear hR7
  go_wp2_with fail
  refine HE2.out.mono ?_
  rintro e w8 ⟨rfl, hb8⟩
  clear HE2
  have bw8 := bw7.trans (hb8.mono bw7.size)
  obtain ⟨fw, hfw⟩ := KW.out
  have HMk := hid_of (markSelS_any fw ks ks.length w3.heap.size w4.heap.size 1 (some ⟨w3.heap.size, 0, none⟩) w8 (hfw w8 bw8) HCN.out.1 HCN.out.2 (by omega) (by have := HCN.out.2 fw; omega))
  clear hfw
  go_wp2_with fail
  refine HMk.out.mono ?_
  rintro e w9 ⟨⟨K9, rfl, hK9, -⟩, hM9⟩
  clear HMk
  have fr9 : Fram S1 w5 w9 := (Fram.of_below bw8).trans (Fram.of_marked hM9.m fun b hb => (hS1 b).2 hb)
  have hK9' : ¬ K9 < 0 := by omega
  have HFR9 := hid_of fr9
  have z9 := fr9.size
  have HE3 := hid_of (eqSelS_any L (fun i _ => eqSel_any _) w9 w9.heap.size ga a0 gc cap0 ((KG.out w9 fr9).reps.sub fun b hb => by omega) ((K0.out w9 (K12.out w9 fr9)).sub fun b hb => by omega) (Nat.le_refl _))
  clear hM9 fr9
  go_wp2_with fail
  refine HE3.out.mono ?_
  rintro e w10 ⟨rfl, hb10⟩
  clear HE3
  have z10 := hb10.size
  obtain ⟨mm, hm0, hm1, HMM⟩ : ∃ mm : Int, 0 ≤ mm ∧ mm ≤ 1000000000000 ∧ Hid (((1 + 4 * cntTo F L L.length : Nat) : Int) = mm) := ⟨_, by omega, by have := HLF.out.2; omega, hid_of rfl⟩
  have HMs : Hid (Calls Tryd.prog 23 #[.slice ga L.length gc, .int .i64 1] w10 fun e w' => e = .returned (.int .i64 mm) ∧ OwnT F w' (fun b => w4.heap.size ≤ b ∧ b < w5.heap.size) (markL F 1 L) ga ∧ Fram (fun b => w4.heap.size ≤ b ∧ b < w5.heap.size) w10 w') := hid_of (by
    have h := markSelS_own F L gc 1 ga w10 (fun b => w4.heap.size ≤ b ∧ b < w5.heap.size) (KG.out w10 (HFR9.out.trans (Fram.of_below hb10))) (fun b hb => by omega) (by have := HLF.out.2; omega)
    rw [HMM.out] at h
    exact h)
  go_wp2_with fail
  refine HMs.out.mono ?_
  rintro e w11 ⟨rfl, hO11, hF11⟩
  clear HMs
  have z11 := hF11.size
  have fr11 : Fram S2 w5 w11 := ((K12.out w9 HFR9.out).trans (Fram.of_below hb10)).trans ⟨hF11.os, hF11.tape, hF11.output, hF11.size, fun b hb hn => hF11.block b hb fun e => hn (by rw [hS2]; omega)⟩
  have HFR11 := hid_of fr11
  have HC11 : Hid (∀ W, Below w11.heap.size w11 W → Calls Tryd.prog 28 #[.slice ga L.length gc, .int .i64 1] W fun e w' => e = .returned (.int .i64 mm) ∧ Below W.heap.size W w') := hid_of fun W hW => by
    have h := heldSelS_own F L gc 1 ga W (fun b => w4.heap.size ≤ b ∧ b < w5.heap.size) (hO11.keep fun b hb => hW.block b (by omega)) (fun b hb => by have := hW.size; omega) HLF.out.1 (by have := HLF.out.2; omega)
    rw [HMM.out] at h
    exact h
  clear hO11 hF11 fr11
  have hmn : ¬ mm < 0 := by omega
  go_wp2_with fail
  refine (HC11.out w11 (Below.refl _ _)).mono ?_
  rintro e w12 ⟨rfl, hb12⟩
  have fr12 := HFR11.out.trans (Fram.of_below hb12)
  have HFR12 := hid_of fr12
  clear fr12
  go_wp2_with fail
  refine (HCP.out w12 (KB.out w12 HFR12.out)).mono ?_
  rintro e w13 ⟨rfl, hb13, z13, hR13, hN13⟩
  have b13 := (KB.out w12 HFR12.out).trans (hb13.mono (KB.out w12 HFR12.out).size)
  have HIm2 := hid_of (HIM.out w13 (some ⟨w12.heap.size, 0, none⟩) ks.length _ w13.heap.size (askIn_copied hF.out.1 hF.out.2 hFn hR13 hN13 ((HT.out.on b13).up b13.size)))
  clear hR13 hN13
  go_wp2_with fail
  refine HIm2.out.mono ?_
  rintro e w14 ⟨ha, hc, rfl, hSH, hb14⟩
  have b14 := hb13.trans (hb14.mono hb13.size)
  have z12 := hb12.size
  have z14 := b14.size
  have HFR14 := hid_of (HFR12.out.trans (Fram.of_below b14))
  have HE4 := hid_of (eqSelS_any L (fun i _ => eqSel_any _) w14 w14.heap.size ha a0 hc cap0 (hSH.reps.sub fun b hb => hb.2) ((K0.out w14 HFR14.out).sub fun b hb => by omega) (Nat.le_refl _))
  clear HIm2 hSH
  go_wp2_with fail
  refine HE4.out.mono ?_
  rintro e w15 ⟨rfl, hb15⟩
  clear HE4
  have b15 := (hb12.trans (b14.mono hb12.size)).trans (hb15.mono (by omega))
  have HFR15 := hid_of (HFR11.out.trans (Fram.of_below b15))
  go_wp2_with fail
  refine (HC11.out w15 b15).mono ?_
  rintro e w16 ⟨rfl, hb16⟩
  have HBB := hid_of (KB.out w16 (HFR15.out.trans (Fram.of_below hb16)))
  go_wp2_with fail
  go_ret
  exact ⟨rfl, HBB.out⟩
end Go.Proofs.YtmeopghhgpbhpaaDoor
