import Derived.Test.YtpgcjdaahgfhgaaDoorJ8
import Derived.Test.YtpgcjdaahgfhgaaDoorJ11
import Derived.Test.YtpgcjdaahgfhgaaDoorJ12
namespace Go.Proofs.YtpgcjdaahgfhgaaDoor
set_option linter.unusedSimpArgs false
set_option linter.unusedVariables false
open Go.RowKit Go.Shelf Go.Maps

theorem JEnd.res {f : Nat} {w w' : World} {o : Option (List Se)} {e : Ending} (h : JEnd f w o e w') : ∃ a c, e = .returned (.tuple #[.slice a (o.getD []).length c, .bool o.isSome]) ∧ OwnT f w' (fun b => w.heap.size ≤ b ∧ b < w'.heap.size) (o.getD []) a ∧ Below w.heap.size w w' := by
  obtain ⟨hb, h | ⟨L, a, c, rfl, rfl, h⟩⟩ := h
  · obtain ⟨rfl, rfl⟩ := h
    exact ⟨none, 0, rfl, OwnT.nil _ _ _ _, hb⟩
  · exact ⟨a, c, rfl, h, hb⟩
theorem JEndM.res {w w' : World} {o : Option (List Se)} {e : Ending} (h : JEndM 0 w o e w') : ∃ a c, e = .returned (.tuple #[.slice a (o.getD []).length c, .bool o.isSome]) ∧ SeReps w' (fun b => w.heap.size ≤ b ∧ b < w'.heap.size) (o.getD []) a ∧ Below w.heap.size w w' := by
  obtain ⟨hb, ⟨rfl, a, c, rfl⟩ | ⟨L, a, c, rfl, rfl, h⟩⟩ := h
  · exact ⟨a, c, rfl, ⟨by simp, fun _ _ => .bool false, fun hn => by simp at hn, fun i hi => by simp at hi⟩, hb⟩
  · exact ⟨a, c, rfl, h.sub fun b hb2 => hb2.elim (fun h => by omega) id, hb⟩
theorem FitS.nil (f : Nat) : FitS f [] := by
  cases f with
  | zero => rfl
  | succ f => exact fun i hi => by simp at hi
theorem askJoin_fit {f : Nat} {a b : List Se} (ha : FitS f a) (hb : FitS f b) : FitS f ((askJoin f a b).getD []) ∧ cntTo f ((askJoin f a b).getD []) ((askJoin f a b).getD []).length ≤ cntTo f a a.length + cntTo f b b.length := by
  cases h : askJoin f a b with
  | none => exact ⟨FitS.nil f, by simp [cntTo]⟩
  | some L =>
    have hj : joinF f a b = some L := by
      unfold askJoin at h
      split at h
      · cases hx : joinF f a b with
        | none => rw [hx] at h; simp at h
        | some x =>
          rw [hx] at h
          simp only [Option.bind_some] at h
          split at h
          · simpa using h
          · simp at h
      · simp at h
    exact ⟨joinF_fit f ha hb hj, joinF_cnt f hj⟩

set_option maxRecDepth 20000 in
set_option maxHeartbeats 3200000 in
theorem lawAskJoin_walk (ks bs : List Se) (w : World) (ra rb : Option Addr) (rc rd : Nat) (hR : SeReps w (· < w.heap.size) ks ra) (hR' : SeReps w (· < w.heap.size) bs rb) (hT : Tab w.heap.size w) :
    Calls Tryd.prog 3 #[.slice ra ks.length rc, .slice rb bs.length rd] w fun e w' => e = .returned (.bool true) ∧ Below w.heap.size w w' := by
  obtain ⟨f0, hf0⟩ := FitS.ex hR
  obtain ⟨f0', hf0'⟩ := FitS.ex hR'
  have HCA := hid_of (fun W (hb : Below w.heap.size w W) => toSelS_nf ks (fun i _ => toSel_any _) W w.heap.size ra rc (hR.under hb) hb.size)
  have HCB := hid_of (fun W (hb : Below w.heap.size w W) => toSelS_nf bs (fun i _ => toSel_any _) W w.heap.size rb rd (hR'.under hb) hb.size)
  have HSz := hid_of (szSelS_two ks (fun i _ => szSel_two _) w w.heap.size ra rc 1048576 hR (Nat.le_refl _) (by omega) (by omega))
  have HSz' := hid_of (fun W (hb : Below w.heap.size w W) left h0 h1 => szSelS_two bs (fun i _ => szSel_two _) W w.heap.size rb rd left (hR'.under hb) hb.size h0 h1)
  clear hR hR'
  go_enter Tryd.func3, Tryd.ntmps3
  go_wp2_with fail
  refine HSz.out.mono ?_
  rintro e w1 ⟨y, rfl, hy0, hy1, hy2, hb1⟩
  have HY := hid_of hy2
  have HT := hid_of hT
  have HF0 := hid_of (And.intro hf0 hf0')
  clear hy2 HSz hT hf0 hf0'
  by_cases hy : y < 0
  · go_wp2_with fail
    go_ret
    exact ⟨rfl, hb1⟩
  go_wp2_with fail
  refine (HSz'.out w1 hb1 y (by omega) (by omega)).mono ?_
  rintro e w2 ⟨v, rfl, hv0, hv1, hv2, hb2⟩
  have bw2 := hb1.trans (hb2.mono hb1.size)
  have HV := hid_of hv2
  clear hv2 HSz' hb2
  by_cases hv : v < 0
  · go_wp2_with fail
    go_ret
    exact ⟨rfl, bw2⟩
  obtain ⟨F, hFn, hF⟩ : ∃ F : Nat, F ≤ 1000000000 ∧ Hid ((FitS F ks ∧ SmallS F ks) ∧ (FitS F bs ∧ SmallS F bs)) := by
    obtain ⟨-, h2⟩ := HY.out (by omega)
    obtain ⟨-, h2'⟩ := HV.out (by omega)
    obtain ⟨F, hF⟩ : ∃ F : Nat, F = 1048576 := ⟨_, rfl⟩
    exact ⟨F, by omega, hid_of ⟨⟨FitS.few f0 HF0.out.1 F (by have := (h2 f0).1; omega), (h2 F).2⟩, ⟨FitS.few f0' HF0.out.2 F (by have := (h2' f0').1; omega), (h2' F).2⟩⟩⟩
  have HCN : Hid ((ks.length ≤ 1048576 ∧ ∀ g, cntTo g ks ks.length ≤ 1048576) ∧ (bs.length ≤ 1048576 ∧ ∀ g, cntTo g bs bs.length ≤ 1048576)) := hid_of (by
    obtain ⟨h1, h2⟩ := HY.out (by omega)
    obtain ⟨h1', h2'⟩ := HV.out (by omega)
    exact ⟨⟨by omega, fun g => by have := (h2 g).1; omega⟩, ⟨by omega, fun g => by have := (h2' g).1; omega⟩⟩)
  clear HY HV
  go_wp2_with fail
  refine (HCA.out w2 bw2).mono ?_
  rintro e w3 ⟨rfl, hb3, z3, hR3, -⟩
  have bw3 := bw2.trans (hb3.mono bw2.size)
  have HR3 := hid_of hR3
  clear hR3
  go_wp2_with fail
  refine (HCB.out w3 bw3).mono ?_
  rintro e w4 ⟨rfl, hb4, z4, hR4, -⟩
  have bw4 := bw3.trans (hb4.mono bw3.size)
  have HSp := hid_of (AskJoinS_any F ks bs w4 w4.heap.size (some ⟨w2.heap.size, 0, none⟩) (some ⟨w3.heap.size, 0, none⟩) ks.length bs.length hF.out.1.1 hF.out.2.1 ((HR3.out.mono fun j hj => hb4.block j hj.2).sub fun j hj => by have := hb4.size; omega) (hR4.sub fun b hb => hb.2) (Nat.le_refl _))
  have HLF : Hid (FitS F ((askJoin F ks bs).getD []) ∧ cntTo F ((askJoin F ks bs).getD []) ((askJoin F ks bs).getD []).length ≤ 2097152) := hid_of (by
    have h := askJoin_fit hF.out.1.1 hF.out.2.1
    have := HCN.out.1.2 F
    have := HCN.out.2.2 F
    exact ⟨h.1, by omega⟩)
  have HIM := hid_of (fun W ka kb kc kd P P' B B' (h : AskIn F ks P B ka W) (h' : AskIn F bs P' B' kb W) => (AskJoinI_any F ks bs P P' B B' ka kb kc kd W h h').mono fun e w' h => h.res)
  replace HSp := hid_of (HSp.out.mono fun e w' h => h.res)
  generalize (askJoin F ks bs).getD [] = L at *
  generalize (askJoin F ks bs).isSome = bo at *
  clear hR4 HR3
  go_wp2_with fail
  refine HSp.out.mono ?_
  rintro e w5 ⟨a0, cap0, rfl, hO0, hb5⟩
  have bw5 := bw4.trans (hb5.mono bw4.size)
  have HO0 := hid_of hO0
  clear HSp hO0
  go_wp2_with fail
  refine (HCA.out w5 bw5).mono ?_
  rintro e w6 ⟨rfl, hb6, z6, hR6, hN6⟩
  have bw6 := bw5.trans (hb6.mono bw5.size)
  have HI6 := hid_of (askIn_copied hF.out.1.1 hF.out.1.2 hFn hR6 hN6 ((HT.out.on bw6).up bw6.size))
  have HR6 := hid_of (And.intro hR6 hN6)
  clear hR6 hN6
  go_wp2_with fail
  refine (HCB.out w6 bw6).mono ?_
  rintro e w7 ⟨rfl, hb7, z7, hR7, hN7⟩
  have bw7 := bw6.trans (hb7.mono bw6.size)
  have HI7 := hid_of (askIn_copied hF.out.2.1 hF.out.2.2 hFn hR7 hN7 ((HT.out.on bw7).up bw7.size))
  have HR7 := hid_of (And.intro hR7 hN7)
  clear hR7 hN7
  have HIm := hid_of (HIM.out w7 (some ⟨w5.heap.size, 0, none⟩) (some ⟨w6.heap.size, 0, none⟩) ks.length bs.length _ _ _ _ (HI6.out.on hb7) HI7.out)
  clear HI6 HI7
  go_wp2_with fail
  refine HIm.out.mono ?_
  rintro e w8 ⟨ga, gc, rfl, hSG, hb8⟩
  have z5 := hb5.size
  have z8 := hb8.size
  have s6 := hb6.size
  have s7 := hb7.size
  have bw8 := bw7.trans (hb8.mono bw7.size)
  have hS0 := HO0.out
  obtain ⟨S1, hS1⟩ : ∃ S : Nat → Prop, ∀ b, S b ↔ (w5.heap.size ≤ b ∧ b < w7.heap.size) := ⟨_, fun b => Iff.rfl⟩
  obtain ⟨S2, hS2⟩ : ∃ S : Nat → Prop, ∀ b, S b ↔ (w5.heap.size ≤ b ∧ b < w8.heap.size) := ⟨_, fun b => Iff.rfl⟩
  have K0 : Hid (∀ W, Fram S2 w8 W → SeReps W (fun b => w4.heap.size ≤ b ∧ b < w5.heap.size) L a0) := hid_of fun W hW => hS0.mono fun k hk => ((hW.block k (by omega) (by rw [hS2]; omega)).trans (hb8.block k (by omega))).trans ((hb7.block k (by omega)).trans (hb6.block k hk.2))
  have KG : Hid (∀ W, Fram S1 w8 W → OwnT F W (fun b => w7.heap.size ≤ b ∧ b < w8.heap.size) L ga) := hid_of fun W hW => hSG.keep fun k hk => hW.block k hk.2 (by rw [hS1]; omega)
  have KB : Hid (∀ W, Fram S2 w8 W → Below w.heap.size w W) := hid_of fun W hW => bw8.trans (hW.below bw8.size fun b hb => by rw [hS2] at hb; have := bw5.size; omega)
  have K12 : Hid (∀ W, Fram S1 w8 W → Fram S2 w8 W) := hid_of fun W hW => ⟨hW.os, hW.tape, hW.output, hW.size, fun b hb hn => hW.block b hb fun e => hn (by rw [hS1] at e; rw [hS2]; omega)⟩
  have KX : Hid (∀ W, Below w8.heap.size w8 W → SeReps W (fun b => w5.heap.size ≤ b ∧ b < w6.heap.size) ks (some ⟨w5.heap.size, 0, none⟩)) := hid_of fun W hW => HR6.out.1.mono fun k hk => (hW.block k (by omega)).trans ((hb8.block k (by omega)).trans (hb7.block k hk.2))
  have KX' : Hid (∀ W, Below w8.heap.size w8 W → SeReps W (fun b => w6.heap.size ≤ b ∧ b < w7.heap.size) bs (some ⟨w6.heap.size, 0, none⟩)) := hid_of fun W hW => HR7.out.1.mono fun k hk => (hW.block k (by omega)).trans (hb8.block k hk.2)
  have KW : Hid (∃ f, ∀ W, Below w8.heap.size w8 W → WSels W w5.heap.size w6.heap.size f ks (some ⟨w5.heap.size, 0, none⟩)) := hid_of (by
    obtain ⟨f, hf⟩ := WSels.of_rep HR6.out.1 HR6.out.2
    exact ⟨f, fun W hW => ((hf.keep (MarkedN.of_below 0 0 hb7)).keep (MarkedN.of_below 0 0 hb8)).keep (MarkedN.of_below 0 0 hW)⟩)
  have KW' : Hid (∃ f, ∀ W, Below w8.heap.size w8 W → WSels W w6.heap.size w7.heap.size f bs (some ⟨w6.heap.size, 0, none⟩)) := hid_of (by
    obtain ⟨f, hf⟩ := WSels.of_rep HR7.out.1 HR7.out.2
    exact ⟨f, fun W hW => (hf.keep (MarkedN.of_below 0 0 hb8)).keep (MarkedN.of_below 0 0 hW)⟩)
  clear HIm hSG hS0
  have HE1 := hid_of (eqSelS_any L (fun i _ => eqSel_any _) w8 w8.heap.size ga a0 gc cap0 ((KG.out w8 (Fram.of_below (Below.refl _ _))).reps.sub fun b hb => hb.2) ((K0.out w8 (Fram.of_below (Below.refl _ _))).sub fun b hb => by omega) (Nat.le_refl _))
  go_wp2_with fail
  refine HE1.out.mono ?_
  rintro e w9 ⟨rfl, hb9⟩
  clear HE1
  have z9 := hb9.size
  go_wp2_with fail
  refine (HCA.out w9 (KB.out w9 (Fram.of_below hb9))).mono ?_
  rintro e w10 ⟨rfl, hb10, z10, hR10, -⟩
  have b10 := hb9.trans (hb10.mono z9)
  have HE2 := hid_of (eqSelS_any ks (fun i _ => eqSel_any _) w10 w10.heap.size (some ⟨w5.heap.size, 0, none⟩) (some ⟨w9.heap.size, 0, none⟩) ks.length ks.length ((KX.out w10 b10).sub fun b hb => by have := b10.size; omega) (hR10.sub fun b hb => hb.2) (Nat.le_refl _))
  clear hR10
  go_wp2_with fail
  refine HE2.out.mono ?_
  rintro e w11 ⟨rfl, hb11⟩
  clear HE2
  have b11 := b10.trans (hb11.mono b10.size)
  go_wp2_with fail
  refine (HCB.out w11 (KB.out w11 (Fram.of_below b11))).mono ?_
  rintro e w12 ⟨rfl, hb12, z12, hR12, -⟩
  have b12 := b11.trans (hb12.mono b11.size)
  have HE2 := hid_of (eqSelS_any bs (fun i _ => eqSel_any _) w12 w12.heap.size (some ⟨w6.heap.size, 0, none⟩) (some ⟨w11.heap.size, 0, none⟩) bs.length bs.length ((KX'.out w12 b12).sub fun b hb => by have := b12.size; omega) (hR12.sub fun b hb => hb.2) (Nat.le_refl _))
  clear hR12
  go_wp2_with fail
  refine HE2.out.mono ?_
  rintro e w13 ⟨rfl, hb13⟩
  clear HE2
  have b13 := b12.trans (hb13.mono b12.size)
  obtain ⟨fw, hfw⟩ := KW.out
  obtain ⟨fw', hfw'⟩ := KW'.out
  have HMk := hid_of (markSelS_any fw ks ks.length w5.heap.size w6.heap.size 1 (some ⟨w5.heap.size, 0, none⟩) w13 (hfw w13 b13) HCN.out.1.1 HCN.out.1.2 (by omega) (by have := HCN.out.1.2 fw; omega))
  have HW13 := hid_of (hfw' w13 b13)
  have hcw := HCN.out.1.2 fw
  have hcw' := HCN.out.2.2 fw'
  clear hfw hfw'
  go_wp2_with fail
  refine HMk.out.mono ?_
  rintro e w14 ⟨⟨K14, rfl, hK14, hK14'⟩, hM14⟩
  clear HMk
  have HMk := hid_of (markSelS_any fw' bs bs.length w6.heap.size w7.heap.size K14 (some ⟨w6.heap.size, 0, none⟩) w14 (HW13.out.keep hM14) HCN.out.2.1 HCN.out.2.2 hK14 (by omega))
  have fr14 : Fram S1 w8 w14 := (Fram.of_below b13).trans (Fram.of_marked hM14.m fun b hb => (hS1 b).2 (by omega))
  have HFR14 := hid_of fr14
  clear hM14 fr14 HW13 hcw hcw'
  go_wp2_with fail
  refine HMk.out.mono ?_
  rintro e w15 ⟨⟨K15, rfl, hK15, -⟩, hM15⟩
  clear HMk
  have fr15 : Fram S1 w8 w15 := HFR14.out.trans (Fram.of_marked hM15.m fun b hb => (hS1 b).2 (by omega))
  have hK15' : ¬ K15 < 0 := by omega
  have HFR15 := hid_of fr15
  have z15 := fr15.size
  have HE3 := hid_of (eqSelS_any L (fun i _ => eqSel_any _) w15 w15.heap.size ga a0 gc cap0 ((KG.out w15 fr15).reps.sub fun b hb => by omega) ((K0.out w15 (K12.out w15 fr15)).sub fun b hb => by omega) (Nat.le_refl _))
  clear hM15 fr15
  go_wp2_with fail
  refine HE3.out.mono ?_
  rintro e w16 ⟨rfl, hb16⟩
  clear HE3
  have z16 := hb16.size
  obtain ⟨mm, hm0, hm1, HMM⟩ : ∃ mm : Int, 0 ≤ mm ∧ mm ≤ 1000000000000 ∧ Hid (((1 + 4 * cntTo F L L.length : Nat) : Int) = mm) := ⟨_, by omega, by have := HLF.out.2; omega, hid_of rfl⟩
  have HMs : Hid (Calls Tryd.prog 9 #[.slice ga L.length gc, .int .i64 1] w16 fun e w' => e = .returned (.int .i64 mm) ∧ OwnT F w' (fun b => w7.heap.size ≤ b ∧ b < w8.heap.size) (markL F 1 L) ga ∧ Fram (fun b => w7.heap.size ≤ b ∧ b < w8.heap.size) w16 w') := hid_of (by
    have h := markSelS_own F L gc 1 ga w16 (fun b => w7.heap.size ≤ b ∧ b < w8.heap.size) (KG.out w16 (HFR15.out.trans (Fram.of_below hb16))) (fun b hb => by omega) (by have := HLF.out.2; omega)
    rw [HMM.out] at h
    exact h)
  go_wp2_with fail
  refine HMs.out.mono ?_
  rintro e w17 ⟨rfl, hO17, hF17⟩
  clear HMs
  have z17 := hF17.size
  have fr17 : Fram S2 w8 w17 := ((K12.out w15 HFR15.out).trans (Fram.of_below hb16)).trans ⟨hF17.os, hF17.tape, hF17.output, hF17.size, fun b hb hn => hF17.block b hb fun e => hn (by rw [hS2]; omega)⟩
  have HFR17 := hid_of fr17
  have HC17 : Hid (∀ W, Below w17.heap.size w17 W → Calls Tryd.prog 10 #[.slice ga L.length gc, .int .i64 1] W fun e w' => e = .returned (.int .i64 mm) ∧ Below W.heap.size W w') := hid_of fun W hW => by
    have h := heldSelS_own F L gc 1 ga W (fun b => w7.heap.size ≤ b ∧ b < w8.heap.size) (hO17.keep fun b hb => hW.block b (by omega)) (fun b hb => by have := hW.size; omega) HLF.out.1 (by have := HLF.out.2; omega)
    rw [HMM.out] at h
    exact h
  clear hO17 hF17 fr17
  have hmn : ¬ mm < 0 := by omega
  go_wp2_with fail
  refine (HC17.out w17 (Below.refl _ _)).mono ?_
  rintro e w18 ⟨rfl, hb18⟩
  have HFR18 := hid_of (HFR17.out.trans (Fram.of_below hb18))
  go_wp2_with fail
  refine (HCA.out w18 (KB.out w18 HFR18.out)).mono ?_
  rintro e w19 ⟨rfl, hb19, z19, hR19, hN19⟩
  have b19 := (KB.out w18 HFR18.out).trans (hb19.mono (KB.out w18 HFR18.out).size)
  have HI19 := hid_of (askIn_copied hF.out.1.1 hF.out.1.2 hFn hR19 hN19 ((HT.out.on b19).up b19.size))
  have HB19 := hid_of b19
  clear hR19 hN19
  go_wp2_with fail
  refine (HCB.out w19 HB19.out).mono ?_
  rintro e w20 ⟨rfl, hb20, z20, hR20, hN20⟩
  have b20 := HB19.out.trans (hb20.mono HB19.out.size)
  have HI20 := hid_of (askIn_copied hF.out.2.1 hF.out.2.2 hFn hR20 hN20 ((HT.out.on b20).up b20.size))
  have HIm2 := hid_of (HIM.out w20 (some ⟨w18.heap.size, 0, none⟩) (some ⟨w19.heap.size, 0, none⟩) ks.length bs.length _ _ _ _ (HI19.out.on hb20) HI20.out)
  clear hR20 hN20 HI19 HI20
  go_wp2_with fail
  refine HIm2.out.mono ?_
  rintro e w21 ⟨ha, hc, rfl, hSH, hb21⟩
  have z18 := hb18.size
  have b1821 := (hb19.trans (hb20.mono hb19.size)).trans (hb21.mono (hb19.trans (hb20.mono hb19.size)).size)
  have z21 := b1821.size
  have HFR21 := hid_of (HFR18.out.trans (Fram.of_below b1821))
  have HE4 := hid_of (eqSelS_any L (fun i _ => eqSel_any _) w21 w21.heap.size ha a0 hc cap0 (hSH.reps.sub fun b hb => hb.2) ((K0.out w21 HFR21.out).sub fun b hb => by omega) (Nat.le_refl _))
  clear HIm2 hSH
  go_wp2_with fail
  refine HE4.out.mono ?_
  rintro e w22 ⟨rfl, hb22⟩
  clear HE4
  have b22 := (hb18.trans (b1821.mono hb18.size)).trans (hb22.mono (by omega))
  have HFR22 := hid_of (HFR17.out.trans (Fram.of_below b22))
  go_wp2_with fail
  refine (HC17.out w22 b22).mono ?_
  rintro e w23 ⟨rfl, hb23⟩
  have HBB := hid_of (KB.out w23 (HFR22.out.trans (Fram.of_below hb23)))
  go_wp2_with fail
  go_ret
  exact ⟨rfl, HBB.out⟩
end Go.Proofs.YtpgcjdaahgfhgaaDoor
