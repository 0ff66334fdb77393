import Derived.Test.YtokmgbidmnanpaaGreatDoorBS7
import Derived.Test.YtokmgbidmnanpaaGreatDoorB32
import Derived.Test.YtokmgbidmnanpaaGreatDoorBS1
import Derived.Test.YtokmgbidmnanpaaGreatDoorBS2
import Derived.Test.YtokmgbidmnanpaaGreatDoorBS4
import Derived.Test.YtokmgbidmnanpaaGreatDoorBS3
import Derived.Test.YtokmgbidmnanpaaGreatDoorB5
set_option linter.unusedSimpArgs false
set_option linter.unusedVariables false
namespace Go.Proofs.YtokmgbidmnanpaaGreatDoor
open Go.RowKit Go.Shelf Go.Maps
set_option maxHeartbeats 1600000 in
theorem AskJoinI_any (f : Nat) (a b : List Se) (P P' : Nat → Prop) (B B' : Nat) (ka kb : Option Addr) (kc kd : Nat) (w : World) (h : AskIn f a P B ka w) (h' : AskIn f b P' B' kb w) :
    Calls Tryz.prog 16 #[.slice ka a.length kc, .slice kb b.length kd] w fun e w' => JEnd f w (askJoin f a b) e w' := by
  have HO := hid_of (AskOkI_any f a P B ka kc w h)
  have HO' := hid_of (fun W (hW : Below w.heap.size w W) => AskOkI_any f b P' B' kb kd W (h'.on hW))
  cases ho : askOk f a
  · rw [ho] at HO
    have HE : Hid (askJoin f a b = none) := hid_of (by rw [askJoin, ho]; rfl)
    go_enter Tryz.func16, Tryz.ntmps16
    go_wp2_with fail
    refine HO.out.mono ?_
    rintro e w1 ⟨rfl, hb1⟩
    go_wp2_with fail
    go_ret2
    rw [HE.out]
    exact ⟨hb1, Or.inl ⟨rfl, rfl⟩⟩
  rw [ho] at HO
  cases ho' : askOk f b
  · rw [ho'] at HO'
    have HE : Hid (askJoin f a b = none) := hid_of (by rw [askJoin, ho, ho']; rfl)
    go_enter Tryz.func16, Tryz.ntmps16
    go_wp2_with fail
    refine HO.out.mono ?_
    rintro e w1 ⟨rfl, hb1⟩
    go_wp2_with fail
    refine (HO'.out w1 hb1).mono ?_
    rintro e w2 ⟨rfl, hb2⟩
    have hb02 := hb1.trans (hb2.mono hb1.size)
    go_wp2_with fail
    go_ret2
    rw [HE.out]
    exact ⟨hb02, Or.inl ⟨rfl, rfl⟩⟩
  rw [ho'] at HO'
  have hca : cntTo f a a.length ≤ 24 := by
    simp only [askOk, askB, Bool.and_eq_true, decide_eq_true_eq] at ho
    exact ho.1.2
  have hcb : cntTo f b b.length ≤ 24 := by
    simp only [askOk, askB, Bool.and_eq_true, decide_eq_true_eq] at ho'
    exact ho'.1.2
  have HE : Hid (askJoin f a b = (joinF f a b).bind fun x => if askOk f x = true then some x else none) := hid_of (by rw [askJoin, ho, ho']; rfl)
  have HJ := hid_of (fun W (hW : Below w.heap.size w W) => show Calls Tryz.prog 49 #[.slice ka a.length kc, .slice kb b.length kd, .agg #[.func (.func 89) #[] #[], .func (.func 93) #[] #[], .func (.func 94) #[] #[], .func (.func 95) #[] #[]]] W _ from joinTrees_any f a b W ka kb kc kd h.fit h'.fit (by omega) ((h.on hW).rep.sub fun j hj => by have := (h.apart j hj).1; have := h.le; have := hW.size; omega) ((h'.on hW).rep.sub fun j hj => by have := (h'.apart j hj).1; have := h'.le; have := hW.size; omega))
  have HT := hid_of h.tab
  have HFI := hid_of (fun x (hx : joinF f a b = some x) => And.intro (joinF_fit f h.fit h'.fit hx) (joinF_small f h.small h'.small hx))
  have hfew := h.few
  have HSP := hid_of (fun W => selPairs_any W)
  unfold pairsS at HSP
  clear hca hcb ho ho' h h'
  go_enter Tryz.func16, Tryz.ntmps16
  go_wp2_with fail
  refine HO.out.mono ?_
  rintro e w1 ⟨rfl, hb1⟩
  go_wp2_with fail
  refine (HO'.out w1 hb1).mono ?_
  rintro e w2 ⟨rfl, hb2⟩
  have hb02 := hb1.trans (hb2.mono hb1.size)
  clear hb1 hb2 HO HO'
  go_wp2_with fail
  refine (HSP.out w2).mono ?_
  rintro e w3 ⟨rfl, hb3⟩
  have hb03 := hb02.trans (hb3.mono hb02.size)
  clear hb02 hb3
  go_wp2_with fail
  refine (HJ.out w3 hb03).mono ?_
  rintro e w4 ⟨hb4, hend⟩
  have hb04 := hb03.trans (hb4.mono hb03.size)
  have z3 := hb03.size
  have z4 := hb4.size
  clear hb4 HJ HSP
  rcases hend with ⟨hn, rfl⟩ | ⟨L, r, rc, hs, rfl, hO⟩
  · have HE2 := hid_of (show askJoin f a b = none by rw [HE.out, hn]; rfl)
    clear hn
    go_wp2_with fail
    go_ret2
    exact ⟨hb04, Or.inl ⟨HE2.out, rfl⟩⟩
  have HOK := hid_of (AskOkI_any f L _ w4.heap.size r rc w4 (askIn_own (HFI.out L hs).1 (HFI.out L hs).2 hfew hO (fun b hb => hb.2) ((HT.out.on hb04).up hb04.size)))
  have HO := hid_of hO
  have HS := hid_of hs
  clear hO hs
  cases hok : askOk f L
  · rw [hok] at HOK
    have HE2 := hid_of (show askJoin f a b = none by rw [HE.out, HS.out]; simp [hok])
    go_wp2_with fail
    refine HOK.out.mono ?_
    rintro e w5 ⟨rfl, hb5⟩
    have hb05 := hb04.trans (hb5.mono hb04.size)
    go_wp2_with fail
    go_ret2
    exact ⟨hb05, Or.inl ⟨HE2.out, rfl⟩⟩
  · rw [hok] at HOK
    have HE2 := hid_of (show askJoin f a b = some L by rw [HE.out, HS.out]; simp [hok])
    go_wp2_with fail
    refine HOK.out.mono ?_
    rintro e w5 ⟨rfl, hb5⟩
    have hb05 := hb04.trans (hb5.mono hb04.size)
    have HO5 := hid_of ((HO.out.keep fun b hb => hb5.block b hb.2).sub (Q' := fun b => w.heap.size ≤ b ∧ b < w5.heap.size) fun b hb => by have := hb5.size; omega)
    go_wp2_with fail
    go_ret2
    exact ⟨hb05, Or.inr ⟨L, r, rc, HE2.out, rfl, HO5.out⟩⟩
end Go.Proofs.YtokmgbidmnanpaaGreatDoor
namespace Go.Proofs.YtokmgbidmnanpaaGreatDoor
open Go.RowKit Go.Shelf Go.Maps
set_option maxRecDepth 20000 in
set_option maxHeartbeats 3200000 in
theorem size_walk (w : World) (cb n : Nat) (v : Value) (h : CodeOk w cb v n) (hT : Tab w.heap.size w) :
    Calls Tryz.prog 3 #[v] w fun e w' => e = .returned (.bool true) ∧ Below w.heap.size w w' := by
  by_cases hn : 1048576 < n
  · obtain ⟨a, c, off, rfl, -⟩ := h
    have h1' : (1048576 : Int) < (n : Int) := by omega
    go_enter Tryz.func3, Tryz.ntmps3
    go_wp2_with fail
    go_ret
    exact ⟨rfl, Below.refl _ _⟩
  have HDR := hid_of (DrawAskSize_any w cb n v h (by omega))
  have HT := hid_of hT
  obtain ⟨a, cc, off, rfl, -⟩ := h
  have h1' : ¬ (1048576 : Int) < (n : Int) := by omega
  clear hT
  go_enter Tryz.func3, Tryz.ntmps3
  go_wp2_with fail
  refine HDR.out.mono ?_
  rintro e w1 ⟨ks, ka, kc, rfl, hSA, hTr, hb1⟩
  clear HDR h1' hn
  obtain ⟨F, hFn, hTr⟩ : ∃ F : Nat, F ≤ 1000000000 ∧ Tr 4 F ks := ⟨6, by omega, hTr⟩
  have HB1 := hid_of hb1
  have HA := hid_of (askIn_drawn hFn hTr hSA ((HT.out.on hb1).up hb1.size))
  have HO := hid_of hSA.old
  have HF := hid_of hTr.fit
  have HS := hid_of (hTr.small F)
  have HFn := hid_of hFn
  have HC := hid_of hTr.cnt
  clear hTr hSA hb1 HT
  have HSI := hid_of (fun W (hW : Below w1.heap.size w1 W) => AskSizeI_any F ks _ _ ka kc W (HA.out.on hW))
  have HDI := hid_of (fun W (hW : Below w1.heap.size w1 W) => AskDepthI_any F ks _ _ ka kc W (HA.out.on hW))
  have HOI := hid_of (fun W (hW : Below w1.heap.size w1 W) => AskOkI_any F ks _ _ ka kc W (HA.out.on hW))
  have HWI := hid_of (fun W (hW : Below w1.heap.size w1 W) => AskWaysI_any F ks _ _ ka kc W (HA.out.on hW))
  have HSS := hid_of (fun W (hW : Below w1.heap.size w1 W) => AskSizeS_any F ks W w1.heap.size ka kc HF.out HS.out HFn.out (HO.out.under hW) hW.size)
  have HDS := hid_of (fun W (hW : Below w1.heap.size w1 W) => AskDepthS_any F ks W w1.heap.size ka kc HF.out HFn.out (HO.out.under hW) hW.size)
  have HOS := hid_of (fun W (hW : Below w1.heap.size w1 W) => AskOkS_any F ks W w1.heap.size ka kc HF.out (HO.out.under hW) hW.size)
  obtain ⟨wn, HN⟩ : ∃ x, Hid (x = (askWays F ks).length) := ⟨_, hid_of rfl⟩
  obtain ⟨dn, HD⟩ : ∃ x, Hid (x = askDep F ks) := ⟨_, hid_of rfl⟩
  obtain ⟨bo, HBO⟩ : ∃ x, Hid (x = askOk F ks) := ⟨_, hid_of rfl⟩
  rw [← HN.out] at HSI HSS
  rw [← HD.out] at HDI HDS
  rw [← HBO.out] at HOI HOS
  clear hFn
  go_wp2_with fail
  refine (HSI.out w1 (Below.refl _ _)).mono ?_
  rintro e w2 ⟨rfl, b2⟩
  go_wp2_with fail
  refine (HDI.out w2 b2).mono ?_
  rintro e w3 ⟨rfl, b3⟩
  have b3 := b2.trans (b3.mono b2.size)
  go_wp2_with fail
  refine (HSS.out w3 b3).mono ?_
  rintro e w4 ⟨rfl, b4⟩
  have b4 := b3.trans (b4.mono b3.size)
  go_wp2_with fail
  refine (HDS.out w4 b4).mono ?_
  rintro e w5 ⟨rfl, b5⟩
  have b5 := b4.trans (b5.mono b4.size)
  clear HSI HDI HSS HDS b2 b3 b4
  cases bo
  · have hno : ¬ askOk F ks = true := by rw [← HBO.out]; simp
    have HW0 : Hid (wn = 0 ∧ dn = 0) := hid_of ⟨by rw [HN.out]; unfold askWays; rw [if_neg hno]; rfl, by rw [HD.out]; unfold askDep; rw [if_neg hno]⟩
    obtain ⟨rfl, rfl⟩ := HW0.out
    clear hno HW0
    go_wp2_with fail
    refine (HOI.out w5 b5).mono ?_
    rintro e w6 ⟨rfl, b6⟩
    have b6 := b5.trans (b6.mono b5.size)
    go_wp2_with fail
    refine (HOS.out w6 b6).mono ?_
    rintro e w7 ⟨rfl, b7⟩
    have b7 := b6.trans (b7.mono b6.size)
    go_wp2_with fail
    refine (HOS.out w7 b7).mono ?_
    rintro e w8 ⟨rfl, b8⟩
    have b8 := b7.trans (b8.mono b7.size)
    go_wp2_with fail
    go_ret
    exact ⟨rfl, HB1.out.trans (b8.mono HB1.out.size)⟩
  · have hok : askOk F ks = true := by rw [← HBO.out]
    obtain ⟨-, -, h24, hd1, hd5, hdn, -⟩ := askOk_facts HF.out hok
    have HJ := hid_of (fun W (hW : Below w1.heap.size w1 W) => (AskJoinI_any F ks ks _ _ _ _ ka ka kc kc W (HA.out.on hW) (HA.out.on hW)).mono fun e w' h => show ∃ a c, e = .returned (.tuple #[.slice a ks.length c, .bool true]) ∧ OwnT F w' (fun b => W.heap.size ≤ b ∧ b < w'.heap.size) ks a ∧ Below W.heap.size W w' from by
      obtain ⟨hb, h | ⟨L, a, c, e1, rfl, h⟩⟩ := h
      · rw [askJoin_self hok] at h; exact absurd h.1 (by simp)
      · rw [askJoin_self hok] at e1
        obtain rfl := Option.some.inj e1
        exact ⟨a, c, rfl, h, hb⟩)
    have hw24 : wn ≤ 24 := by rw [HN.out, (askOk_facts HF.out hok).2.1]; exact h24
    rw [← HD.out] at hd1 hd5 hdn
    rw [← HN.out] at hdn
    clear hok h24
    go_wp2_with fail
    refine (HOI.out w5 b5).mono ?_
    rintro e w6 ⟨rfl, b6⟩
    have b6 := b5.trans (b6.mono b5.size)
    go_wp2_with fail
    refine (HOS.out w6 b6).mono ?_
    rintro e w7 ⟨rfl, b7⟩
    have b7 := b6.trans (b7.mono b6.size)
    go_wp2_with fail
    refine (HOS.out w7 b7).mono ?_
    rintro e w8 ⟨rfl, b8⟩
    have b8 := b7.trans (b8.mono b7.size)
    go_wp2_with fail
    refine (HJ.out w8 b8).mono ?_
    rintro e w9 ⟨ja, jc, rfl, hO9, b9⟩
    have bb9 := b8.trans (b9.mono b8.size)
    have HR9 := hid_of (hO9.reps.sub (Q := fun b => b < w9.heap.size) fun b hb => hb.2)
    clear hO9 b9
    go_wp2_with fail
    refine (HWI.out w9 bb9).mono ?_
    rintro e w10 ⟨ts, wv, rfl, hr, ht, -, -, b10⟩
    have HB10 := hid_of b10
    have hv : ∃ a c, wv = .slice a wn c := by
      have hl : ts.length = wn := by rw [HN.out, ← ht, List.length_map]
      rcases hr.2 with ⟨e, h0⟩ | ⟨g, cap, cur, e, _⟩
      · exact ⟨none, 0, by rw [e, ← hl, h0]⟩
      · exact ⟨_, _, by rw [e, hl]⟩
    obtain ⟨va, vc, rfl⟩ := hv
    clear hr ht b10
    have hd1i : (1 : Int) ≤ (dn : Int) := by omega
    have hdni : (dn : Int) ≤ (wn : Int) := by omega
    have hd5i : (dn : Int) ≤ 5 := by omega
    have hw24i : (wn : Int) ≤ 24 := by omega
    have HE := hid_of (wpSels_any F ks w10 w9.heap.size ja ka jc kc HF.out (HR9.out.under HB10.out) (((HO.out.under bb9).sub fun b hb => Nat.lt_of_lt_of_le hb bb9.size).under HB10.out) HB10.out.size)
    go_wp2_with fail
    refine HE.out.mono ?_
    rintro e w11 ⟨rfl, b11⟩
    have HB11 := hid_of (HB1.out.trans (((bb9.trans (HB10.out.mono bb9.size)).trans (b11.mono (bb9.trans (HB10.out.mono bb9.size)).size)).mono HB1.out.size))
    go_wp2_with fail
    go_ret
    exact ⟨rfl, HB11.out⟩
end Go.Proofs.YtokmgbidmnanpaaGreatDoor
