/-
  The law of SailReady, walked: for all steps and all that is done it returns true and writes nothing that was there.
-/
import Derived.Test.YtahelconmfldjaaQReadyI
namespace Go.Proofs.Ytahelconmfldjaa
set_option linter.unusedSimpArgs false
set_option linter.unusedVariables false
open Go.RowKit

theorem below_marked {B lo hi : Nat} {a w w' : World} (h : Below B a w) (m : MarkedN lo hi w w') (hB : B ≤ lo) (hz : B ≤ w.heap.size) : Below B a w' :=
  ⟨m.m.os.trans h.os, m.m.tape.trans h.tape, m.m.output.trans h.output, Nat.le_trans h.size m.m.size, fun k hk => (m.m.block k (by omega) (by omega)).trans (h.block k hk)⟩

set_option maxRecDepth 20000 in
set_option maxHeartbeats 3200000 in
theorem lawR_walk (ss : List St) (ds : List Int) (w : World) (a da : Option Addr) (c dc : Nat) (hK : StReps w (· < w.heap.size) ss a) (hD : Ints w (· < w.heap.size) ds da)
    (hwd : ∀ i, (Lit.int .i64 (ith ds i)).wf = true) (hwa : ∀ i q, (Lit.int .i64 (ith (pth ss i).after q)).wf = true) :
    Calls Try.prog 5 #[.slice a ss.length c, .slice da ds.length dc] w fun e w' => e = .returned (.bool true) ∧ Below w.heap.size w w' := by
  by_cases hdl : 1048576 < ds.length
  · have d1 : (1048576 : Int) < (ds.length : Int) := by omega
    go_enter Try.func5, Try.ntmps5
    go_wp2_with fail
    go_ret
    exact ⟨rfl, Below.refl _ _⟩
  have d1 : ¬ (1048576 : Int) < (ds.length : Int) := by omega
  go_enter Try.func5, Try.ntmps5
  go_wp2_with fail
  clear d1
  refine (szStepS_any ss w w.heap.size a c _ hK (Nat.le_refl _) (by omega) (by omega)).mono ?_
  rintro e w1 ⟨y, rfl, hy0, hy1, hy2, b1⟩
  have z1 := b1.size
  go_wp2_with fail
  · go_ret
    exact ⟨rfl, b1⟩
  have hl : ss.length ≤ 1048576 := by have := (hy2 (by assumption)).1; omega
  have hsm : Hid (∀ i, i < ss.length → Small (pth ss i)) := (hy2 (by assumption)).2
  have hrl := rdL_le ss ds ss.length
  have SR := fun W B a da c dc h1 h2 h3 => specReady_any ss ds W B a da c dc h1 h2 h3 hl
  have IR := fun W B a da c dc h1 h2 h3 => implReady_any ss ds W B a da c dc h1 h2 h3 hl hwd hwa
  generalize rdL ss ds ss.length = L at hrl SR IR
  clear hy2 hwd hwa
  refine (toStepS_nf ss w1 w.heap.size a c (hK.under b1) z1).mono ?_
  rintro e w2 ⟨rfl, hb2, hz2, hs2, -⟩
  have b2 : Below w.heap.size w w2 := b1.trans (hb2.mono z1)
  have z2 := b2.size
  clear hb2 b1
  go_wp2_with fail
  refine (toIntS_nf ds w2 w.heap.size da dc (hD.under b2) z2).mono ?_
  rintro e w3 ⟨rfl, hb3, hz3, hs3, -⟩
  have b3 : Below w.heap.size w w3 := b2.trans (hb3.mono z2)
  have z3 := b3.size
  have r3 : StReps w3 (· < w3.heap.size) ss (some ⟨w1.heap.size, 0, none⟩) := ((hs2.sub fun k hk => hk.2).under hb3).sub fun k hk => by omega
  clear hb3 b2 hs2
  go_wp2_with fail
  refine (SR w3 w3.heap.size _ _ _ _ r3 (hs3.sub fun k hk => hk.2) (Nat.le_refl _)).mono ?_
  rintro e w4 ⟨a0, c0, rfl, hb4, hS4, -⟩
  have b4 : Below w.heap.size w w4 := b3.trans (hb4.mono z3)
  have z4 := b4.size
  have zz4 := hb4.size
  clear hb4 b3 r3 hs3 SR
  go_wp2_with fail
  refine (toStepS_nf ss w4 w.heap.size a c (hK.under b4) z4).mono ?_
  rintro e w5 ⟨rfl, hb5, hz5, hs5, n5⟩
  have b5 : Below w.heap.size w w5 := b4.trans (hb5.mono z4)
  have z5 := b5.size
  have S5 := hS4.mono fun k hk => hb5.block k hk.2
  have HW5 : Hid (WSteps w5 w4.heap.size w5.heap.size ss (some ⟨w4.heap.size, 0, none⟩)) := WSteps.of_rep hs5 n5
  clear hb5 b4 hS4 n5
  go_wp2_with fail
  refine (toIntS_nf ds w5 w.heap.size da dc (hD.under b5) z5).mono ?_
  rintro e w6 ⟨rfl, hb6, hz6, hs6, n6⟩
  have b6 : Below w.heap.size w w6 := b5.trans (hb6.mono z5)
  have z6 := b6.size
  have S6 := S5.mono fun k hk => hb6.block k (by omega)
  have X6 := hs5.mono fun k hk => hb6.block k hk.2
  have HW6 : Hid (WSteps w6 w4.heap.size w5.heap.size ss (some ⟨w4.heap.size, 0, none⟩) ∧ WInts w6 w5.heap.size w6.heap.size ds.length (some ⟨w5.heap.size, 0, none⟩)) := ⟨HW5.out.keep (MarkedN.of_below 0 0 hb6), WInts.of_rep hs6 n6⟩
  clear hb6 b5 S5 hs5 n6 HW5
  go_wp2_with fail
  refine (IR w6 w6.heap.size _ _ _ _ (X6.sub fun k hk => by omega) (hs6.sub fun k hk => hk.2) (Nat.le_refl _)).mono ?_
  rintro e w7 ⟨ag, cg, rfl, hb7, hG7, hWg⟩
  have b7 : Below w.heap.size w w7 := b6.trans (hb7.mono z6)
  have z7 := b7.size
  have zz7 := hb7.size
  have S7 := S6.mono fun k hk => hb7.block k (by omega)
  have X7 := X6.mono fun k hk => hb7.block k (by omega)
  have D7 := hs6.mono fun k hk => hb7.block k hk.2
  have HW7 : Hid (WSteps w7 w4.heap.size w5.heap.size ss (some ⟨w4.heap.size, 0, none⟩) ∧ WInts w7 w5.heap.size w6.heap.size ds.length (some ⟨w5.heap.size, 0, none⟩) ∧ WInts w7 w6.heap.size w7.heap.size L.length ag) := ⟨HW6.out.1.keep (MarkedN.of_below 0 0 hb7), HW6.out.2.keep (MarkedN.of_below 0 0 hb7), hWg⟩
  clear hb7 b6 S6 X6 hs6 HW6 hWg
  go_wp2_with fail
  refine (eqIntS_any L w7 w7.heap.size _ _ _ _ (hG7.sub fun k hk => hk.2) (S7.sub fun k hk => by omega) (Nat.le_refl _)).mono ?_
  rintro e w8 ⟨rfl, hb8⟩
  have b8 : Below w.heap.size w w8 := b7.trans (hb8.mono z7)
  have z8 := b8.size
  have zz8 := hb8.size
  have S8 := S7.mono fun k hk => hb8.block k (by omega)
  have X8 := X7.mono fun k hk => hb8.block k (by omega)
  have D8 := D7.mono fun k hk => hb8.block k (by omega)
  have G8 := hG7.mono fun k hk => hb8.block k hk.2
  have HW8 : Hid (WSteps w8 w4.heap.size w5.heap.size ss (some ⟨w4.heap.size, 0, none⟩) ∧ WInts w8 w5.heap.size w6.heap.size ds.length (some ⟨w5.heap.size, 0, none⟩) ∧ WInts w8 w6.heap.size w7.heap.size L.length ag) := ⟨HW7.out.1.keep (MarkedN.of_below 0 0 hb8), HW7.out.2.1.keep (MarkedN.of_below 0 0 hb8), HW7.out.2.2.keep (MarkedN.of_below 0 0 hb8)⟩
  clear hb8 b7 S7 X7 D7 hG7 HW7
  go_wp2_with fail
  refine (toStepS_nf ss w8 w.heap.size a c (hK.under b8) z8).mono ?_
  rintro e w9 ⟨rfl, hb9, hz9, hs9, -⟩
  have b9 : Below w.heap.size w w9 := b8.trans (hb9.mono z8)
  have z9 := b9.size
  have S9 := S8.mono fun k hk => hb9.block k (by omega)
  have X9 := X8.mono fun k hk => hb9.block k (by omega)
  have D9 := D8.mono fun k hk => hb9.block k (by omega)
  have G9 := G8.mono fun k hk => hb9.block k (by omega)
  have HW9 : Hid (WSteps w9 w4.heap.size w5.heap.size ss (some ⟨w4.heap.size, 0, none⟩) ∧ WInts w9 w5.heap.size w6.heap.size ds.length (some ⟨w5.heap.size, 0, none⟩) ∧ WInts w9 w6.heap.size w7.heap.size L.length ag) := ⟨HW8.out.1.keep (MarkedN.of_below 0 0 hb9), HW8.out.2.1.keep (MarkedN.of_below 0 0 hb9), HW8.out.2.2.keep (MarkedN.of_below 0 0 hb9)⟩
  clear hb9 b8 S8 X8 D8 G8 HW8
  go_wp2_with fail
  refine (eqStepS_any ss w9 w9.heap.size _ _ _ _ (X9.sub fun k hk => by omega) (hs9.sub fun k hk => hk.2) (Nat.le_refl _)).mono ?_
  rintro e w10 ⟨rfl, hb10⟩
  have b10 : Below w.heap.size w w10 := b9.trans (hb10.mono z9)
  have z10 := b10.size
  have zz10 := hb10.size
  have S10 := S9.mono fun k hk => hb10.block k (by omega)
  have D10 := D9.mono fun k hk => hb10.block k (by omega)
  have G10 := G9.mono fun k hk => hb10.block k (by omega)
  have HW10 : Hid (WSteps w10 w4.heap.size w5.heap.size ss (some ⟨w4.heap.size, 0, none⟩) ∧ WInts w10 w5.heap.size w6.heap.size ds.length (some ⟨w5.heap.size, 0, none⟩) ∧ WInts w10 w6.heap.size w7.heap.size L.length ag) := ⟨HW9.out.1.keep (MarkedN.of_below 0 0 hb10), HW9.out.2.1.keep (MarkedN.of_below 0 0 hb10), HW9.out.2.2.keep (MarkedN.of_below 0 0 hb10)⟩
  clear hb10 b9 S9 X9 D9 G9 HW9 hs9
  go_wp2_with fail
  refine (toIntS_nf ds w10 w.heap.size da dc (hD.under b10) z10).mono ?_
  rintro e w11 ⟨rfl, hb11, hz11, hs11, -⟩
  have b11 : Below w.heap.size w w11 := b10.trans (hb11.mono z10)
  have z11 := b11.size
  have S11 := S10.mono fun k hk => hb11.block k (by omega)
  have D11 := D10.mono fun k hk => hb11.block k (by omega)
  have G11 := G10.mono fun k hk => hb11.block k (by omega)
  have HW11 : Hid (WSteps w11 w4.heap.size w5.heap.size ss (some ⟨w4.heap.size, 0, none⟩) ∧ WInts w11 w5.heap.size w6.heap.size ds.length (some ⟨w5.heap.size, 0, none⟩) ∧ WInts w11 w6.heap.size w7.heap.size L.length ag) := ⟨HW10.out.1.keep (MarkedN.of_below 0 0 hb11), HW10.out.2.1.keep (MarkedN.of_below 0 0 hb11), HW10.out.2.2.keep (MarkedN.of_below 0 0 hb11)⟩
  clear hb11 b10 S10 D10 G10 HW10
  go_wp2_with fail
  refine (eqIntS_any ds w11 w11.heap.size _ _ _ _ (D11.sub fun k hk => by omega) (hs11.sub fun k hk => hk.2) (Nat.le_refl _)).mono ?_
  rintro e w12 ⟨rfl, hb12⟩
  have b12 : Below w.heap.size w w12 := b11.trans (hb12.mono z11)
  have z12 := b12.size
  have zz12 := hb12.size
  have S12 := S11.mono fun k hk => hb12.block k (by omega)
  have G12 := G11.mono fun k hk => hb12.block k (by omega)
  have HW12 : Hid (WSteps w12 w4.heap.size w5.heap.size ss (some ⟨w4.heap.size, 0, none⟩) ∧ WInts w12 w5.heap.size w6.heap.size ds.length (some ⟨w5.heap.size, 0, none⟩) ∧ WInts w12 w6.heap.size w7.heap.size L.length ag) := ⟨HW11.out.1.keep (MarkedN.of_below 0 0 hb12), HW11.out.2.1.keep (MarkedN.of_below 0 0 hb12), HW11.out.2.2.keep (MarkedN.of_below 0 0 hb12)⟩
  clear hb12 b11 S11 D11 G11 HW11 hs11
  go_wp2_with fail
  refine (markStepS_any ss _ w4.heap.size w5.heap.size _ w12 HW12.out.1 hl hsm.out).mono ?_
  rintro e w13 ⟨⟨K, rfl, hK0, hK1⟩, m13⟩
  have b13 : Below w.heap.size w w13 := below_marked b12 m13 (by omega) z12
  have z13 := b13.size
  have zz13 := m13.m.size
  have S13 := S12.mono fun k hk => m13.m.block k (by omega) (by omega)
  have G13 := G12.mono fun k hk => m13.m.block k (by omega) (by omega)
  have HW13 : Hid (WInts w13 w5.heap.size w6.heap.size ds.length (some ⟨w5.heap.size, 0, none⟩) ∧ WInts w13 w6.heap.size w7.heap.size L.length ag) := ⟨HW12.out.2.1.keep m13, HW12.out.2.2.keep m13⟩
  clear m13 b12 S12 G12 HW12
  go_wp2_with fail
  refine (markIntS_i ds.length _ w5.heap.size w6.heap.size K _ w13 HW13.out.1 (by omega) hK0 (by omega)).mono ?_
  rintro e w14 ⟨⟨K', rfl, hK'0, hK'1⟩, m14⟩
  have b14 : Below w.heap.size w w14 := below_marked b13 m14 (by omega) z13
  have z14 := b14.size
  have zz14 := m14.m.size
  have S14 := S13.mono fun k hk => m14.m.block k (by omega) (by omega)
  have G14 := G13.mono fun k hk => m14.m.block k (by omega) (by omega)
  have HW14 : Hid (WInts w14 w6.heap.size w7.heap.size L.length ag) := HW13.out.2.keep m14
  clear m14 b13 S13 G13 HW13
  go_wp2_with fail
  refine (eqIntS_any L w14 w14.heap.size _ _ _ _ (G14.sub fun k hk => by omega) (S14.sub fun k hk => by omega) (Nat.le_refl _)).mono ?_
  rintro e w15 ⟨rfl, hb15⟩
  have b15 : Below w.heap.size w w15 := b14.trans (hb15.mono z14)
  have z15 := b15.size
  have zz15 := hb15.size
  have S15 := S14.mono fun k hk => hb15.block k (by omega)
  have HW15 : Hid (WInts w15 w6.heap.size w7.heap.size L.length ag) := HW14.out.keep (MarkedN.of_below 0 0 hb15)
  clear hb15 b14 S14 G14 HW14
  go_wp2_with fail
  refine (markIntS_any L.length _ 1 w6.heap.size w7.heap.size ag w15 HW15.out (by omega) (by omega)).mono ?_
  rintro e w16 ⟨rfl, m16, hh16⟩
  have b16 : Below w.heap.size w w16 := below_marked b15 m16 (by omega) z15
  have z16 := b16.size
  have zz16 := m16.m.size
  have S16 := S15.mono fun k hk => m16.m.block k (by omega) (by omega)
  have HH16 : Hid (HeldN w16 L.length 1 ag) := fun h0 => by
    obtain ⟨b, off, e, -⟩ := HW15.out h0
    exact ⟨b, off, e, hh16 b off e⟩
  clear m16 b15 S15 HW15 hh16
  have hL0 : (0 : Int) ≤ ((1 + L.length : Nat) : Int) := by omega
  have hL1 : ¬ ((1 + L.length : Nat) : Int) < 0 := by omega
  obtain ⟨q, hq⟩ : ∃ q : Int, q = ((1 + L.length : Nat) : Int) := ⟨_, rfl⟩
  have HQ : Hid (q = ((1 + L.length : Nat) : Int)) := hq
  rw [← hq] at hL0 hL1 ⊢
  clear hq
  go_wp2_with fail
  refine (heldIntS_any L.length _ 1 ag w16 HH16.out (by omega) (by omega)).mono ?_
  rw [← HQ.out]
  rintro e w17 ⟨rfl, hb17⟩
  have b17 : Below w.heap.size w w17 := b16.trans (hb17.mono z16)
  have z17 := b17.size
  have zz17 := hb17.size
  have S17 := S16.mono fun k hk => hb17.block k (by omega)
  have HH17 : Hid (HeldN w17 L.length 1 ag) := HH16.out.keep hb17
  clear hb17 b16 S16 HH16
  go_wp2_with fail
  refine (toStepS_nf ss w17 w.heap.size a c (hK.under b17) z17).mono ?_
  rintro e w18 ⟨rfl, hb18, hz18, hs18, -⟩
  have b18 : Below w.heap.size w w18 := b17.trans (hb18.mono z17)
  have z18 := b18.size
  have S18 := S17.mono fun k hk => hb18.block k (by omega)
  have HH18 : Hid (HeldN w18 L.length 1 ag) := HH17.out.keep hb18
  clear hb18 b17 S17 HH17
  go_wp2_with fail
  refine (toIntS_nf ds w18 w.heap.size da dc (hD.under b18) z18).mono ?_
  rintro e w19 ⟨rfl, hb19, hz19, hs19, -⟩
  have b19 : Below w.heap.size w w19 := b18.trans (hb19.mono z18)
  have z19 := b19.size
  have S19 := S18.mono fun k hk => hb19.block k (by omega)
  have X19 : StReps w19 (· < w19.heap.size) ss (some ⟨w17.heap.size, 0, none⟩) := ((hs18.sub fun k hk => hk.2).under hb19).sub fun k hk => by omega
  have HH19 : Hid (HeldN w19 L.length 1 ag) := HH18.out.keep hb19
  clear hb19 b18 S18 HH18 hs18
  go_wp2_with fail
  refine (IR w19 w19.heap.size _ _ _ _ X19 (hs19.sub fun k hk => hk.2) (Nat.le_refl _)).mono ?_
  rintro e w20 ⟨ah, ch, rfl, hb20, hG20, -⟩
  have b20 : Below w.heap.size w w20 := b19.trans (hb20.mono z19)
  have z20 := b20.size
  have zz20 := hb20.size
  have S20 := S19.mono fun k hk => hb20.block k (by omega)
  have HH20 : Hid (HeldN w20 L.length 1 ag) := HH19.out.keep hb20
  clear hb20 b19 S19 HH19 X19 hs19 IR
  go_wp2_with fail
  refine (eqIntS_any L w20 w20.heap.size _ _ _ _ (hG20.sub fun k hk => hk.2) (S20.sub fun k hk => by omega) (Nat.le_refl _)).mono ?_
  rintro e w21 ⟨rfl, hb21⟩
  have b21 : Below w.heap.size w w21 := b20.trans (hb21.mono z20)
  have z21 := b21.size
  have HH21 : Hid (HeldN w21 L.length 1 ag) := HH20.out.keep hb21
  clear hb21 b20 S20 HH20 hG20
  go_wp2_with fail
  refine (heldIntS_any L.length _ 1 ag w21 HH21.out (by omega) (by omega)).mono ?_
  rw [← HQ.out]
  rintro e w22 ⟨rfl, hb22⟩
  have b22 : Below w.heap.size w w22 := b21.trans (hb22.mono z21)
  clear hb22 b21
  go_wp2_with fail
  go_ret
  exact ⟨rfl, b22⟩
end Go.Proofs.Ytahelconmfldjaa
