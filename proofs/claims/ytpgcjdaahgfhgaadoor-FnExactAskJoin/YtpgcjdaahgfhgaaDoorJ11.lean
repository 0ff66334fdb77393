import Derived.Test.YtpgcjdaahgfhgaaDoorJ10
namespace Go.Proofs.YtpgcjdaahgfhgaaDoor
set_option linter.unusedSimpArgs false
set_option linter.unusedVariables false
open Go.RowKit Go.Shelf Go.Maps

set_option maxHeartbeats 1600000 in
theorem AskJoinS_any (f : Nat) (a b : List Se) (w : World) (B : Nat) (ka kb : Option Addr) (kc kd : Nat) (hfa : FitS f a) (hfb : FitS f b) (hRa : SeReps w (· < B) a ka) (hRb : SeReps w (· < B) b kb) (hB : B ≤ w.heap.size) :
    Calls Tryd.prog 5 #[.slice ka a.length kc, .slice kb b.length kd] w fun e w' => JEndM 0 w (askJoin f a b) e w' := by
  have HO := hid_of (AskOkS_any f a w B ka kc hfa hRa hB)
  have HO' := hid_of (fun W (hW : Below w.heap.size w W) => AskOkS_any f b W B kb kd hfb (hRb.under (hW.mono hB)) (by have := hW.size; omega))
  cases ho : askOk f a
  · rw [ho] at HO
    have HE : Hid (askJoin f a b = none) := hid_of (by rw [askJoin, ho]; rfl)
    go_enter Tryd.func5, Tryd.ntmps5
    go_wp2_with fail
    refine HO.out.mono ?_
    rintro e w1 ⟨rfl, hb1⟩
    go_wp2_with fail
    go_ret2
    rw [HE.out]
    exact ⟨hb1.trans ((below_box w1 _).mono hb1.size), Or.inl ⟨rfl, _, _, rfl⟩⟩
  rw [ho] at HO
  cases ho' : askOk f b
  · rw [ho'] at HO'
    have HE : Hid (askJoin f a b = none) := hid_of (by rw [askJoin, ho, ho']; rfl)
    go_enter Tryd.func5, Tryd.ntmps5
    go_wp2_with fail
    refine HO.out.mono ?_
    rintro e w1 ⟨rfl, hb1⟩
    go_wp2_with fail
    refine (HO'.out w1 hb1).mono ?_
    rintro e w2 ⟨rfl, hb2⟩
    have hb02 := hb1.trans (hb2.mono hb1.size)
    go_wp2_with fail
    go_ret2
    rw [HE.out]
    exact ⟨hb02.trans ((below_box w2 _).mono hb02.size), Or.inl ⟨rfl, _, _, rfl⟩⟩
  rw [ho'] at HO'
  have hca : okTo f 1 a a.length = true ∧ cntTo f a a.length ≤ 24 := by
    simp only [askOk, askB, Bool.and_eq_true, decide_eq_true_eq] at ho
    exact ⟨ho.1.1.2, ho.1.2⟩
  have hcb : okTo f 1 b b.length = true ∧ cntTo f b b.length ≤ 24 := by
    simp only [askOk, askB, Bool.and_eq_true, decide_eq_true_eq] at ho'
    exact ⟨ho'.1.1.2, ho'.1.2⟩
  have HE : Hid (askJoin f a b = (joinF f a b).bind fun x => if askOk f x = true then some x else none) := hid_of (by rw [askJoin, ho, ho']; rfl)
  have HJ := hid_of (fun W (hW : Below w.heap.size w W) => l12Join_any f a b W (· < B) B ka kb kc kd hfa hfb (nd_of_ok hca.1) (nd_of_ok hcb.1) (by omega) (hRa.under (hW.mono hB)) (fun j hj => by have := hW.size; have : j < B := hj; omega) (hRb.under (hW.mono hB)) (by have := hW.size; omega))
  have HFI := hid_of (fun x (hx : joinF f a b = some x) => And.intro (joinF_fit f hfa hfb hx) (Nat.le_trans (joinF_cnt f hx) (show cntTo f a a.length + cntTo f b b.length ≤ 1000000 by omega)))
  clear hca hcb ho ho' hRa hRb hfa hfb
  go_enter Tryd.func5, Tryd.ntmps5
  go_wp2_with fail
  refine HO.out.mono ?_
  rintro e w1 ⟨rfl, hb1⟩
  go_wp2_with fail
  refine (HO'.out w1 hb1).mono ?_
  rintro e w2 ⟨rfl, hb2⟩
  have hb02 := hb1.trans (hb2.mono hb1.size)
  clear hb1 hb2 HO HO'
  go_wp2_with fail
  refine (HJ.out w2 hb02).mono ?_
  rintro e w4 ⟨hb4, hend⟩
  have hb04 := hb02.trans (hb4.mono hb02.size)
  have z2 := hb02.size
  have z4 := hb4.size
  clear hb4 HJ
  rcases hend with ⟨hn, r, rc, rfl⟩ | ⟨L, r, rc, hs, rfl, hO⟩
  · have HE2 := hid_of (show askJoin f a b = none by rw [HE.out, hn]; rfl)
    clear hn
    go_wp2_with fail
    go_ret2
    exact ⟨hb04.trans ((below_box w4 _).mono hb04.size), Or.inl ⟨HE2.out, _, _, rfl⟩⟩
  have hO' := hO.sub (Q := (· < w4.heap.size)) fun j hj => by show j < _; omega
  have HOK := hid_of (AskOkS_any f L w4 w4.heap.size r rc (HFI.out L hs).1 hO' (Nat.le_refl _))
  have HCP := hid_of (fun W (hW : Below w4.heap.size w4 W) => l3Copy_any f L W (· < w4.heap.size) r rc (HFI.out L hs).1 (HFI.out L hs).2 (hO'.mono fun j hj => hW.block j hj) (fun j hj => Nat.lt_of_lt_of_le hj hW.size))
  have HS := hid_of hs
  clear hO hO' hs HFI
  cases hok : askOk f L
  · rw [hok] at HOK
    have HE2 := hid_of (show askJoin f a b = none by rw [HE.out, HS.out]; simp [hok])
    go_wp2_with fail
    refine HOK.out.mono ?_
    rintro e w5 ⟨rfl, hb5⟩
    have hb05 := hb04.trans (hb5.mono hb04.size)
    go_wp2_with fail
    go_ret2
    exact ⟨hb05.trans ((below_box w5 _).mono hb05.size), Or.inl ⟨HE2.out, _, _, rfl⟩⟩
  · rw [hok] at HOK
    have HE2 := hid_of (show askJoin f a b = some L by rw [HE.out, HS.out]; simp [hok])
    go_wp2_with fail
    refine HOK.out.mono ?_
    rintro e w5 ⟨rfl, hb5⟩
    have hb05 := hb04.trans (hb5.mono hb04.size)
    go_wp2_with fail
    refine (HCP.out w5 hb5).mono ?_
    rintro e w6 ⟨r6, c6, rfl, hR6, hb6⟩
    have hb06 := hb05.trans (hb6.mono hb05.size)
    have HR6 := hid_of (hR6.sub (Q := fun j => j < 0 ∨ (w.heap.size ≤ j ∧ j < w6.heap.size)) fun j hj => hj.imp id fun h => ⟨Nat.le_trans hb05.size h.1, h.2⟩)
    clear hR6
    go_wp2_with fail
    go_ret2
    exact ⟨hb06, Or.inr ⟨L, r6, c6, HE2.out, rfl, HR6.out⟩⟩
end Go.Proofs.YtpgcjdaahgfhgaaDoor
