import Derived.Test.YtokmgbidmnanpaaGreatDoorBJ5
import Derived.Test.YtokmgbidmnanpaaGreatDoorB32
import Derived.Test.YtokmgbidmnanpaaGreatDoorBJ6
import Derived.Test.YtokmgbidmnanpaaGreatDoorBJ2
import Derived.Test.YtokmgbidmnanpaaGreatDoorBJ4
import Derived.Test.YtokmgbidmnanpaaGreatDoorBJ1
import Derived.Test.YtokmgbidmnanpaaGreatDoorB5
import Derived.Test.YtokmgbidmnanpaaGreatDoorB26
set_option linter.unusedSimpArgs false
set_option linter.unusedVariables false
namespace Go.Proofs.YtokmgbidmnanpaaGreatDoor
open Go.RowKit Go.Shelf Go.Maps
set_option maxHeartbeats 1600000 in
theorem AskJoinI_any (f : Nat) (a b : List Se) (P P' : Nat → Prop) (B B' : Nat) (ka kb : Option Addr) (kc kd : Nat) (w : World) (h : AskIn f a P B ka w) (h' : AskIn f b P' B' kb w) :
    Calls Tryz.prog 16 #[.slice ka a.length kc, .slice kb b.length kd] w fun e w' => JEnd f w (askJoin f a b) e w' := by
  have HO := hid_of (AskOkI_any f a P B ka kc w h)
  have HO' := hid_of (fun W (hW : Below w.heap.size w W) => AskOkI_any f b P' B' kb kd W (h'.on hW))
  cases ho : askOk f a
  · rw [ho] at HO
    have HE : Hid (askJoin f a b = none) := hid_of (by rw [askJoin, ho]; rfl)
    go_enter Tryz.func16, Tryz.ntmps16
    go_wp2_with fail
    refine HO.out.mono ?_
    rintro e w1 ⟨rfl, hb1⟩
    go_wp2_with fail
    go_ret2
    rw [HE.out]
    exact ⟨hb1, Or.inl ⟨rfl, rfl⟩⟩
  rw [ho] at HO
  cases ho' : askOk f b
  · rw [ho'] at HO'
    have HE : Hid (askJoin f a b = none) := hid_of (by rw [askJoin, ho, ho']; rfl)
    go_enter Tryz.func16, Tryz.ntmps16
    go_wp2_with fail
    refine HO.out.mono ?_
    rintro e w1 ⟨rfl, hb1⟩
    go_wp2_with fail
    refine (HO'.out w1 hb1).mono ?_
    rintro e w2 ⟨rfl, hb2⟩
    have hb02 := hb1.trans (hb2.mono hb1.size)
    go_wp2_with fail
    go_ret2
    rw [HE.out]
    exact ⟨hb02, Or.inl ⟨rfl, rfl⟩⟩
  rw [ho'] at HO'
  have hca : cntTo f a a.length ≤ 24 := by
    simp only [askOk, askB, Bool.and_eq_true, decide_eq_true_eq] at ho
    exact ho.1.2
  have hcb : cntTo f b b.length ≤ 24 := by
    simp only [askOk, askB, Bool.and_eq_true, decide_eq_true_eq] at ho'
    exact ho'.1.2
  have HE : Hid (askJoin f a b = (joinF f a b).bind fun x => if askOk f x = true then some x else none) := hid_of (by rw [askJoin, ho, ho']; rfl)
  have HJ := hid_of (fun W (hW : Below w.heap.size w W) => show Calls Tryz.prog 49 #[.slice ka a.length kc, .slice kb b.length kd, .agg #[.func (.func 89) #[] #[], .func (.func 93) #[] #[], .func (.func 94) #[] #[], .func (.func 95) #[] #[]]] W _ from joinTrees_any f a b W ka kb kc kd h.fit h'.fit (by omega) ((h.on hW).rep.sub fun j hj => by have := (h.apart j hj).1; have := h.le; have := hW.size; omega) ((h'.on hW).rep.sub fun j hj => by have := (h'.apart j hj).1; have := h'.le; have := hW.size; omega))
  have HT := hid_of h.tab
  have HFI := hid_of (fun x (hx : joinF f a b = some x) => And.intro (joinF_fit f h.fit h'.fit hx) (joinF_small f h.small h'.small hx))
  have hfew := h.few
  have HSP := hid_of (fun W => selPairs_any W)
  unfold pairsS at HSP
  clear hca hcb ho ho' h h'
  go_enter Tryz.func16, Tryz.ntmps16
  go_wp2_with fail
  refine HO.out.mono ?_
  rintro e w1 ⟨rfl, hb1⟩
  go_wp2_with fail
  refine (HO'.out w1 hb1).mono ?_
  rintro e w2 ⟨rfl, hb2⟩
  have hb02 := hb1.trans (hb2.mono hb1.size)
  clear hb1 hb2 HO HO'
  go_wp2_with fail
  refine (HSP.out w2).mono ?_
  rintro e w3 ⟨rfl, hb3⟩
  have hb03 := hb02.trans (hb3.mono hb02.size)
  clear hb02 hb3
  go_wp2_with fail
  refine (HJ.out w3 hb03).mono ?_
  rintro e w4 ⟨hb4, hend⟩
  have hb04 := hb03.trans (hb4.mono hb03.size)
  have z3 := hb03.size
  have z4 := hb4.size
  clear hb4 HJ HSP
  rcases hend with ⟨hn, rfl⟩ | ⟨L, r, rc, hs, rfl, hO⟩
  · have HE2 := hid_of (show askJoin f a b = none by rw [HE.out, hn]; rfl)
    clear hn
    go_wp2_with fail
    go_ret2
    exact ⟨hb04, Or.inl ⟨HE2.out, rfl⟩⟩
  have HOK := hid_of (AskOkI_any f L _ w4.heap.size r rc w4 (askIn_own (HFI.out L hs).1 (HFI.out L hs).2 hfew hO (fun b hb => hb.2) ((HT.out.on hb04).up hb04.size)))
  have HO := hid_of hO
  have HS := hid_of hs
  clear hO hs
  cases hok : askOk f L
  · rw [hok] at HOK
    have HE2 := hid_of (show askJoin f a b = none by rw [HE.out, HS.out]; simp [hok])
    go_wp2_with fail
    refine HOK.out.mono ?_
    rintro e w5 ⟨rfl, hb5⟩
    have hb05 := hb04.trans (hb5.mono hb04.size)
    go_wp2_with fail
    go_ret2
    exact ⟨hb05, Or.inl ⟨HE2.out, rfl⟩⟩
  · rw [hok] at HOK
    have HE2 := hid_of (show askJoin f a b = some L by rw [HE.out, HS.out]; simp [hok])
    go_wp2_with fail
    refine HOK.out.mono ?_
    rintro e w5 ⟨rfl, hb5⟩
    have hb05 := hb04.trans (hb5.mono hb04.size)
    have HO5 := hid_of ((HO.out.keep fun b hb => hb5.block b hb.2).sub (Q' := fun b => w.heap.size ≤ b ∧ b < w5.heap.size) fun b hb => by have := hb5.size; omega)
    go_wp2_with fail
    go_ret2
    exact ⟨hb05, Or.inr ⟨L, r, rc, HE2.out, rfl, HO5.out⟩⟩
end Go.Proofs.YtokmgbidmnanpaaGreatDoor
namespace Go.Proofs.YtokmgbidmnanpaaGreatDoor
open Go.RowKit Go.Shelf Go.Maps
set_option maxHeartbeats 1600000 in
theorem AskJoinS_any (f : Nat) (a b : List Se) (w : World) (B : Nat) (ka kb : Option Addr) (kc kd : Nat) (hfa : FitS f a) (hfb : FitS f b) (hRa : SeReps w (· < B) a ka) (hRb : SeReps w (· < B) b kb) (hB : B ≤ w.heap.size) :
    Calls Tryz.prog 25 #[.slice ka a.length kc, .slice kb b.length kd] w fun e w' => JEndM 0 w (askJoin f a b) e w' := by
  have HO := hid_of (AskOkS_any f a w B ka kc hfa hRa hB)
  have HO' := hid_of (fun W (hW : Below w.heap.size w W) => AskOkS_any f b W B kb kd hfb (hRb.under (hW.mono hB)) (by have := hW.size; omega))
  cases ho : askOk f a
  · rw [ho] at HO
    have HE : Hid (askJoin f a b = none) := hid_of (by rw [askJoin, ho]; rfl)
    go_enter Tryz.func25, Tryz.ntmps25
    go_wp2_with fail
    refine HO.out.mono ?_
    rintro e w1 ⟨rfl, hb1⟩
    go_wp2_with fail
    go_ret2
    rw [HE.out]
    exact ⟨hb1.trans ((below_box w1 _).mono hb1.size), Or.inl ⟨rfl, _, _, rfl⟩⟩
  rw [ho] at HO
  cases ho' : askOk f b
  · rw [ho'] at HO'
    have HE : Hid (askJoin f a b = none) := hid_of (by rw [askJoin, ho, ho']; rfl)
    go_enter Tryz.func25, Tryz.ntmps25
    go_wp2_with fail
    refine HO.out.mono ?_
    rintro e w1 ⟨rfl, hb1⟩
    go_wp2_with fail
    refine (HO'.out w1 hb1).mono ?_
    rintro e w2 ⟨rfl, hb2⟩
    have hb02 := hb1.trans (hb2.mono hb1.size)
    go_wp2_with fail
    go_ret2
    rw [HE.out]
    exact ⟨hb02.trans ((below_box w2 _).mono hb02.size), Or.inl ⟨rfl, _, _, rfl⟩⟩
  rw [ho'] at HO'
  have hca : okTo f 1 a a.length = true ∧ cntTo f a a.length ≤ 24 := by
    simp only [askOk, askB, Bool.and_eq_true, decide_eq_true_eq] at ho
    exact ⟨ho.1.1.2, ho.1.2⟩
  have hcb : okTo f 1 b b.length = true ∧ cntTo f b b.length ≤ 24 := by
    simp only [askOk, askB, Bool.and_eq_true, decide_eq_true_eq] at ho'
    exact ⟨ho'.1.1.2, ho'.1.2⟩
  have HE : Hid (askJoin f a b = (joinF f a b).bind fun x => if askOk f x = true then some x else none) := hid_of (by rw [askJoin, ho, ho']; rfl)
  have HJ := hid_of (fun W (hW : Below w.heap.size w W) => l12Join_any f a b W (· < B) B ka kb kc kd hfa hfb (nd_of_ok hca.1) (nd_of_ok hcb.1) (by omega) (hRa.under (hW.mono hB)) (fun j hj => by have := hW.size; have : j < B := hj; omega) (hRb.under (hW.mono hB)) (by have := hW.size; omega))
  have HFI := hid_of (fun x (hx : joinF f a b = some x) => And.intro (joinF_fit f hfa hfb hx) (Nat.le_trans (joinF_cnt f hx) (show cntTo f a a.length + cntTo f b b.length ≤ 1000000 by omega)))
  clear hca hcb ho ho' hRa hRb hfa hfb
  go_enter Tryz.func25, Tryz.ntmps25
  go_wp2_with fail
  refine HO.out.mono ?_
  rintro e w1 ⟨rfl, hb1⟩
  go_wp2_with fail
  refine (HO'.out w1 hb1).mono ?_
  rintro e w2 ⟨rfl, hb2⟩
  have hb02 := hb1.trans (hb2.mono hb1.size)
  clear hb1 hb2 HO HO'
  go_wp2_with fail
  refine (HJ.out w2 hb02).mono ?_
  rintro e w4 ⟨hb4, hend⟩
  have hb04 := hb02.trans (hb4.mono hb02.size)
  have z2 := hb02.size
  have z4 := hb4.size
  clear hb4 HJ
  rcases hend with ⟨hn, r, rc, rfl⟩ | ⟨L, r, rc, hs, rfl, hO⟩
  · have HE2 := hid_of (show askJoin f a b = none by rw [HE.out, hn]; rfl)
    clear hn
    go_wp2_with fail
    go_ret2
    exact ⟨hb04.trans ((below_box w4 _).mono hb04.size), Or.inl ⟨HE2.out, _, _, rfl⟩⟩
  have hO' := hO.sub (Q := (· < w4.heap.size)) fun j hj => by show j < _; omega
  have HOK := hid_of (AskOkS_any f L w4 w4.heap.size r rc (HFI.out L hs).1 hO' (Nat.le_refl _))
  have HCP := hid_of (fun W (hW : Below w4.heap.size w4 W) => l3Copy_any f L W (· < w4.heap.size) r rc (HFI.out L hs).1 (HFI.out L hs).2 (hO'.mono fun j hj => hW.block j hj) (fun j hj => Nat.lt_of_lt_of_le hj hW.size))
  have HS := hid_of hs
  clear hO hO' hs HFI
  cases hok : askOk f L
  · rw [hok] at HOK
    have HE2 := hid_of (show askJoin f a b = none by rw [HE.out, HS.out]; simp [hok])
    go_wp2_with fail
    refine HOK.out.mono ?_
    rintro e w5 ⟨rfl, hb5⟩
    have hb05 := hb04.trans (hb5.mono hb04.size)
    go_wp2_with fail
    go_ret2
    exact ⟨hb05.trans ((below_box w5 _).mono hb05.size), Or.inl ⟨HE2.out, _, _, rfl⟩⟩
  · rw [hok] at HOK
    have HE2 := hid_of (show askJoin f a b = some L by rw [HE.out, HS.out]; simp [hok])
    go_wp2_with fail
    refine HOK.out.mono ?_
    rintro e w5 ⟨rfl, hb5⟩
    have hb05 := hb04.trans (hb5.mono hb04.size)
    go_wp2_with fail
    refine (HCP.out w5 hb5).mono ?_
    rintro e w6 ⟨r6, c6, rfl, hR6, hb6⟩
    have hb06 := hb05.trans (hb6.mono hb05.size)
    have HR6 := hid_of (hR6.sub (Q := fun j => j < 0 ∨ (w.heap.size ≤ j ∧ j < w6.heap.size)) fun j hj => hj.imp id fun h => ⟨Nat.le_trans hb05.size h.1, h.2⟩)
    clear hR6
    go_wp2_with fail
    go_ret2
    exact ⟨hb06, Or.inr ⟨L, r6, c6, HE2.out, rfl, HR6.out⟩⟩
end Go.Proofs.YtokmgbidmnanpaaGreatDoor
namespace Go.Proofs.YtokmgbidmnanpaaGreatDoor
open Go.RowKit Go.Shelf Go.Maps
theorem JEnd.res {f : Nat} {w w' : World} {o : Option (List Se)} {e : Ending} (h : JEnd f w o e w') : ∃ a c, e = .returned (.tuple #[.slice a (o.getD []).length c, .bool o.isSome]) ∧ OwnT f w' (fun b => w.heap.size ≤ b ∧ b < w'.heap.size) (o.getD []) a ∧ Below w.heap.size w w' := by
  obtain ⟨hb, h | ⟨L, a, c, rfl, rfl, h⟩⟩ := h
  · obtain ⟨rfl, rfl⟩ := h
    exact ⟨none, 0, rfl, OwnT.nil _ _ _ _, hb⟩
  · exact ⟨a, c, rfl, h, hb⟩
theorem JEndM.res {w w' : World} {o : Option (List Se)} {e : Ending} (h : JEndM 0 w o e w') : ∃ a c, e = .returned (.tuple #[.slice a (o.getD []).length c, .bool o.isSome]) ∧ SeReps w' (fun b => w.heap.size ≤ b ∧ b < w'.heap.size) (o.getD []) a ∧ Below w.heap.size w w' := by
  obtain ⟨hb, ⟨rfl, a, c, rfl⟩ | ⟨L, a, c, rfl, rfl, h⟩⟩ := h
  · exact ⟨a, c, rfl, ⟨by simp, fun _ _ => .bool false, fun hn => by simp at hn, fun i hi => by simp at hi⟩, hb⟩
  · exact ⟨a, c, rfl, h.sub fun b hb2 => hb2.elim (fun h => by omega) id, hb⟩
theorem askJoin_fits {f : Nat} {a b : List Se} (ha : FitS f a) (hb : FitS f b) (sa : SmallS f a) (sb : SmallS f b) : FitS f ((askJoin f a b).getD []) ∧ SmallS f ((askJoin f a b).getD []) := by
  cases h : askJoin f a b with
  | none =>
    refine ⟨?_, ?_⟩
    · cases f with
      | zero => rfl
      | succ f => exact fun i hi => by simp at hi
    · cases f with
      | zero => trivial
      | succ f => exact fun i hi => by simp at hi
  | some L =>
    have hj : joinF f a b = some L := by
      unfold askJoin at h
      split at h
      · cases hx : joinF f a b with
        | none => rw [hx] at h; simp at h
        | some x =>
          rw [hx] at h
          simp only [Option.bind_some] at h
          split at h
          · simpa using h
          · simp at h
      · simp at h
    exact ⟨joinF_fit f ha hb hj, joinF_small f sa sb hj⟩
set_option maxRecDepth 20000 in
set_option maxHeartbeats 3200000 in
theorem join_walk (w : World) (cb n : Nat) (v : Value) (h : CodeOk w cb v n) (hT : Tab w.heap.size w) :
    Calls Tryz.prog 5 #[v] w fun e w' => e = .returned (.bool true) ∧ Below w.heap.size w w' := by
  by_cases hn : 1048576 < n
  · obtain ⟨a, c, off, rfl, -⟩ := h
    have h1' : (1048576 : Int) < (n : Int) := by omega
    go_enter Tryz.func5, Tryz.ntmps5
    go_wp2_with fail
    go_ret
    exact ⟨rfl, Below.refl _ _⟩
  have HDR := hid_of (DrawAskJoin_any w cb n v h (by omega))
  have HT := hid_of hT
  obtain ⟨a, cc, off, rfl, -⟩ := h
  have h1' : ¬ (1048576 : Int) < (n : Int) := by omega
  clear hT
  go_enter Tryz.func5, Tryz.ntmps5
  go_wp2_with fail
  refine HDR.out.mono ?_
  rintro e w1 ⟨ks, bs, ka, kb, kc, kd, rfl, hSA, hSB, hTr, hTr2, hb1⟩
  clear HDR h1' hn
  obtain ⟨F, hFn, hTr, hTr2⟩ : ∃ F : Nat, F ≤ 1000000000 ∧ Tr 4 F ks ∧ Tr 4 F bs := ⟨6, by omega, hTr, hTr2⟩
  have HB1 := hid_of hb1
  have HT1 := hid_of ((HT.out.on hb1).up hb1.size)
  have HA := hid_of (askIn_drawn hFn hTr hSA HT1.out)
  have HA2 := hid_of (askIn_drawn hFn hTr2 hSB HT1.out)
  have HO := hid_of hSA.old
  have HO2 := hid_of hSB.old
  have HF := hid_of (And.intro hTr.fit hTr2.fit)
  have HFn := hid_of hFn
  have HFT := hid_of (askJoin_fits HF.out.1 HF.out.2 (hTr.small F) (hTr2.small F))
  clear hTr hTr2 hSA hSB hb1 HT hFn
  have HJI := hid_of (fun W (hW : Below w1.heap.size w1 W) => (AskJoinI_any F ks bs _ _ _ _ ka kb kc kd W (HA.out.on hW) (HA2.out.on hW)).mono fun e w' h => h.res)
  have HJS := hid_of (fun W (hW : Below w1.heap.size w1 W) => (AskJoinS_any F ks bs W w1.heap.size ka kb kc kd HF.out.1 HF.out.2 (HO.out.under hW) (HO2.out.under hW) hW.size).mono fun e w' h => h.res)
  have HWI := hid_of (fun W (hW : Below w1.heap.size w1 W) => AskWriteI_any F ks _ _ ka kc W (HA.out.on hW))
  have HWS := hid_of (fun W (hW : Below w1.heap.size w1 W) => AskWriteS_any F ks W w1.heap.size ka kc HF.out.1 (HO.out.under hW) hW.size)
  have HAI := hid_of (fun W (hW : Below w1.heap.size w1 W) => AskWaysI_any F ks _ _ ka kc W (HA.out.on hW))
  have HBI := hid_of (fun W (hW : Below w1.heap.size w1 W) => AskWaysI_any F bs _ _ kb kd W (HA2.out.on hW))
  have HJW : Hid ((askJoin F ks bs).isSome = true → (∀ t ∈ askWays F ((askJoin F ks bs).getD []), t ∈ askWays F ks ∨ t ∈ askWays F bs) ∧ (∀ t ∈ askWays F ks, t ∈ askWays F ((askJoin F ks bs).getD [])) ∧ ∀ t ∈ askWays F bs, t ∈ askWays F ((askJoin F ks bs).getD [])) := hid_of fun h => by
    cases hj : askJoin F ks bs with
    | none => rw [hj] at h; simp at h
    | some L => exact askJoin_ways hj
  have HJN : Hid ((askJoin F ks bs).isSome = false → ((askJoin F ks bs).getD []).length = 0) := hid_of fun h => by
    cases hj : askJoin F ks bs with
    | none => rfl
    | some L => rw [hj] at h; simp at h
  generalize (askJoin F ks bs).getD [] = L at *
  generalize (askJoin F ks bs).isSome = bo at *
  go_wp2_with fail
  refine (HJI.out w1 (Below.refl _ _)).mono ?_
  rintro e w2 ⟨la, lc, rfl, hO2, b2⟩
  have HL2 := hid_of (hO2.reps.sub (Q := fun b => b < w2.heap.size) fun b hb => hb.2)
  have HAL := hid_of (askIn_own HFT.out.1 HFT.out.2 HFn.out hO2 (fun b hb => hb.2) ((HT1.out.on b2).up b2.size))
  clear hO2
  go_wp2_with fail
  refine (HJS.out w2 b2).mono ?_
  rintro e w3 ⟨la3, lc3, rfl, hR3, b3⟩
  have HQ3 := hid_of b3
  have b3 := b2.trans (b3.mono b2.size)
  have HS3 := hid_of (wpSels_any F L w3 w3.heap.size la la3 lc lc3 HFT.out.1 ((HL2.out.under HQ3.out).sub fun b hb => Nat.lt_of_lt_of_le hb HQ3.out.size) (hR3.sub fun b hb => hb.2) (Nat.le_refl _))
  clear hR3
  go_wp2_with fail
  refine HS3.out.mono ?_
  rintro e w4 ⟨rfl, b4⟩
  have HQ4 := hid_of (HQ3.out.trans (b4.mono HQ3.out.size))
  have b4 := b3.trans (b4.mono b3.size)
  clear HS3
  go_wp2_with fail
  refine (HWI.out w4 b4).mono ?_
  rintro e w5 ⟨⟨x5, rfl, hx5⟩, b5⟩
  have HQ5 := hid_of (HQ4.out.trans (b5.mono HQ4.out.size))
  have b5 := b4.trans (b5.mono b4.size)
  go_wp2_with fail
  refine (HWS.out w5 b5).mono ?_
  rintro e w6 ⟨⟨x6, rfl, hx6⟩, b6⟩
  obtain rfl : x6 = x5 := bytesInj (by rw [hx6, hx5])
  have HQ6 := hid_of (HQ5.out.trans (b6.mono HQ5.out.size))
  have b6 := b5.trans (b6.mono b5.size)
  clear hx5 hx6
  cases bo
  · have hl := HJN.out rfl
    go_wp2_with fail
    go_ret
    exact ⟨rfl, HB1.out.trans (b6.mono HB1.out.size)⟩
  have HJ := hid_of (HJW.out rfl)
  have HLI := hid_of (fun W (hW : Below w6.heap.size w6 W) => AskWaysI_any F L _ _ la lc W ((HAL.out.on HQ6.out).on hW))
  go_wp2_with fail
  refine (HAI.out w6 b6).mono ?_
  rintro e w7 ⟨us, av, rfl, hr7, ht7, hs7, hl7, b7⟩
  obtain ⟨aa, ac, rfl, hS7⟩ := own_texts hr7 hs7 (by omega)
  have H7 := hid_of b7
  have HS7 := hid_of (hS7.sub (Q := fun b => b < w7.heap.size) fun b hb => hb.2)
  have HT7 := hid_of ht7
  clear hr7 ht7 hs7 hS7
  go_wp2_with fail
  refine (HBI.out w7 (b6.trans (b7.mono b6.size))).mono ?_
  rintro e w8 ⟨cs, cv, rfl, hr8, ht8, hs8, hl8, b8⟩
  obtain ⟨ca, ccc, rfl, hS8⟩ := own_texts hr8 hs8 (by omega)
  have H8 := hid_of b8
  have HS8 := hid_of (hS8.sub (Q := fun b => b < w8.heap.size) fun b hb => hb.2)
  have HT8 := hid_of ht8
  clear hr8 ht8 hs8 hS8
  go_wp2_with fail
  refine (HLI.out w8 (b7.trans (b8.mono b7.size))).mono ?_
  rintro e w9 ⟨ls, lv, rfl, hr9, ht9, hs9, hl9, b9⟩
  obtain ⟨xa, xc, rfl, hS9⟩ := own_texts hr9 hs9 (by omega)
  have HB9 := hid_of (HB1.out.trans ((b6.trans ((b7.trans ((b8.trans (b9.mono b8.size)).mono b7.size)).mono b6.size)).mono HB1.out.size))
  have HA9 := hid_of ((HS7.out.under (H8.out.trans (b9.mono H8.out.size))).sub (Q := fun b => b < w9.heap.size) fun b hb => by have := H8.out.size; have := b9.size; omega)
  have HC9 := hid_of ((HS8.out.under b9).sub (Q := fun b => b < w9.heap.size) fun b hb => Nat.lt_of_lt_of_le hb b9.size)
  have HL9 := hid_of (hS9.sub (Q := fun b => b < w9.heap.size) fun b hb => hb.2)
  have HM1 : Hid (∀ i, i < ls.length → hasB us (nth ls i) = true ∨ hasB cs (nth ls i) = true) := hid_of fun i hi => by
    rw [hasB_mem, hasB_mem, HT7.out, HT8.out]
    exact HJ.out.1 _ (by rw [← ht9]; exact List.mem_map.2 ⟨_, by simp [nth, List.getD_eq_getElem?_getD, hi], rfl⟩)
  have HM2 : Hid (∀ i, i < us.length → hasB ls (nth us i) = true) := hid_of fun i hi => by
    rw [hasB_mem, ht9]
    exact HJ.out.2.1 _ (by rw [← HT7.out]; exact List.mem_map.2 ⟨_, by simp [nth, List.getD_eq_getElem?_getD, hi], rfl⟩)
  have HM3 : Hid (∀ i, i < cs.length → hasB ls (nth cs i) = true) := hid_of fun i hi => by
    rw [hasB_mem, ht9]
    exact HJ.out.2.2 _ (by rw [← HT8.out]; exact List.mem_map.2 ⟨_, by simp [nth, List.getD_eq_getElem?_getD, hi], rfl⟩)
  have cells : ∀ (ns : List ByteArray) (a : Option Addr), Strs w9 (fun b => b < w9.heap.size) ns a → Hid (∀ W, Below w9.heap.size w9 W → ∀ i, i < ns.length → ∃ b off, a = some ⟨b, off, none⟩ ∧ W.cell? ⟨b, off + i, none⟩ = some (.string (nth ns i))) := fun ns a hS => hid_of fun W hW i hi => by
    obtain ⟨b, off, e, hb, hc⟩ := hS.1 (by intro e; rw [e] at hi; simp at hi)
    exact ⟨b, off, e, (hW.cell (p := ⟨b, off + i, none⟩) hb).trans (hc i hi)⟩
  have KA := cells us aa HA9.out
  have KC := cells cs ca HC9.out
  have KL := cells ls xa HL9.out
  have HHA := hid_of (fun W (hW : Below w9.heap.size w9 W) s => wpHas_any us s aa ac W _ (HA9.out.under hW))
  have HHC := hid_of (fun W (hW : Below w9.heap.size w9 W) s => wpHas_any cs s ca ccc W _ (HC9.out.under hW))
  have HHL := hid_of (fun W (hW : Below w9.heap.size w9 W) s => wpHas_any ls s xa xc W _ (HL9.out.under hW))
  obtain ⟨na, hna⟩ : ∃ x, x = us.length := ⟨_, rfl⟩
  obtain ⟨nc, hnc⟩ : ∃ x, x = cs.length := ⟨_, rfl⟩
  obtain ⟨nl, hnl⟩ : ∃ x, x = ls.length := ⟨_, rfl⟩
  rw [← hna] at KA HHA HM2 hl7 ⊢
  rw [← hnc] at KC HHC HM3 hl8 ⊢
  rw [← hnl] at KL HHL HM1 hl9 ⊢
  clear hna hnc hnl cells HA9 HC9 HL9 hr9 ht9 hs9 hS9 HS7 HS8 HT7 HT8 H7 H8 HJ HLI HAI HBI HWI HWS HJI HJS HJW HJN b2 b3 b4 b5 b6 b7 b8 b9 HQ3 HQ4 HQ5 HQ6
  go_wp2_with fail
  go_loopw [12] (fun i wr => ∃ k : Nat, k ≤ nl ∧ i = .int .i64 k ∧ Below w9.heap.size w9 wr) (fun i _ => nl - (intOf i).toNat)
  case atStart => exact ⟨0, Nat.zero_le _, rfl, Below.refl _ _⟩
  case round =>
  obtain ⟨k, hk, rfl, hbk⟩ := hrel
  obtain ⟨wX, rfl⟩ : ∃ x, x = wr := ⟨wr, rfl⟩
  by_cases hlt : k < nl
  · have hlti : (k : Int) < (nl : Int) := by omega
    obtain ⟨b, o, rfl, ck⟩ := KL.out wX hbk k hlt
    have hm := HM1.out k hlt
    have hA := hid_of (HHA.out wX hbk (nth ls k))
    have hC := hid_of (fun W (hW : Below w9.heap.size w9 W) => HHC.out W hW (nth ls k))
    have hKc := hid_of (fun W (hW : Below w9.heap.size w9 W) => (KL.out W hW k hlt))
    generalize nth ls k = t at *
    cases h1 : hasB us t
    · have h2 : hasB cs t = true := by rw [h1] at hm; simpa using hm
      rw [h1] at hA
      rw [h2] at hC
      clear hm h1 h2
      go_wp2_with fail
      refine hA.out.mono ?_
      rintro e wY ⟨rfl, bY⟩
      have hbY := hbk.trans (bY.mono hbk.size)
      obtain ⟨b', o', e', ck'⟩ := hKc.out wY hbY
      cases e'
      go_wp2_with fail
      refine (hC.out wY hbY).mono ?_
      rintro e wZ ⟨rfl, bZ⟩
      have hbZ := hbY.trans (bZ.mono hbY.size)
      go_wp2_with fail
      go_roundw
      case rel => exact ⟨k + 1, by omega, by go_num, hbZ⟩
      case measure => simp [intOf]; omega
    · rw [h1] at hA
      clear hm h1
      go_wp2_with fail
      refine hA.out.mono ?_
      rintro e wY ⟨rfl, bY⟩
      have hbY := hbk.trans (bY.mono hbk.size)
      go_wp2_with fail
      go_roundw
      case rel => exact ⟨k + 1, by omega, by go_num, hbY⟩
      case measure => simp [intOf]; omega
  have hlti : ¬ (k : Int) < (nl : Int) := by omega
  have HBX := hid_of hbk
  clear hlt
  go_wp2_with fail
  go_loopw [13] (fun i wr => ∃ k : Nat, k ≤ na ∧ i = .int .i64 k ∧ Below w9.heap.size w9 wr) (fun i _ => na - (intOf i).toNat)
  case atStart => exact ⟨0, Nat.zero_le _, rfl, HBX.out⟩
  case round =>
  clear HBX hbk hlti hk
  obtain ⟨j, hj, rfl, hbk⟩ := hrel
  obtain ⟨wX2, rfl⟩ : ∃ x, x = wr := ⟨wr, rfl⟩
  by_cases hlt : j < na
  · have hlti : (j : Int) < (na : Int) := by omega
    obtain ⟨b, o, rfl, ck⟩ := KA.out wX2 hbk j hlt
    have hm := HM2.out j hlt
    have hL := hid_of (HHL.out wX2 hbk (nth us j))
    generalize nth us j = t at *
    rw [hm] at hL
    clear hm
    go_wp2_with fail
    refine hL.out.mono ?_
    rintro e wY ⟨rfl, bY⟩
    have hbY := hbk.trans (bY.mono hbk.size)
    go_wp2_with fail
    go_roundw
    case rel => exact ⟨j + 1, by omega, by go_num, hbY⟩
    case measure => simp [intOf]; omega
  have hlti : ¬ (j : Int) < (na : Int) := by omega
  have HBX := hid_of hbk
  clear hlt
  go_wp2_with fail
  go_loopw [14] (fun i wr => ∃ k : Nat, k ≤ nc ∧ i = .int .i64 k ∧ Below w9.heap.size w9 wr) (fun i _ => nc - (intOf i).toNat)
  case atStart => exact ⟨0, Nat.zero_le _, rfl, HBX.out⟩
  case round =>
  clear HBX hbk hlti hj
  obtain ⟨m, hm0, rfl, hbk⟩ := hrel
  obtain ⟨wX3, rfl⟩ : ∃ x, x = wr := ⟨wr, rfl⟩
  by_cases hlt : m < nc
  · have hlti : (m : Int) < (nc : Int) := by omega
    obtain ⟨b, o, rfl, ck⟩ := KC.out wX3 hbk m hlt
    have hm := HM3.out m hlt
    have hL := hid_of (HHL.out wX3 hbk (nth cs m))
    generalize nth cs m = t at *
    rw [hm] at hL
    clear hm
    go_wp2_with fail
    refine hL.out.mono ?_
    rintro e wY ⟨rfl, bY⟩
    have hbY := hbk.trans (bY.mono hbk.size)
    go_wp2_with fail
    go_roundw
    case rel => exact ⟨m + 1, by omega, by go_num, hbY⟩
    case measure => simp [intOf]; omega
  have hlti : ¬ (m : Int) < (nc : Int) := by omega
  go_wp2_with fail
  go_ret
  exact ⟨rfl, HB9.out.trans (hbk.mono HB9.out.size)⟩
end Go.Proofs.YtokmgbidmnanpaaGreatDoor
