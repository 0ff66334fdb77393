import Derived.Test.YtdohgkokoicjlaaB1
import Derived.Test.YtdohgkokoicjlaaB15
import Derived.Deep.RegionWith
import Derived.Deep.RegionHeld3
import Derived.Deep.DeepCutAuto
import Derived.BigRegion
set_option linter.unusedSimpArgs false
set_option linter.unusedVariables false
namespace Go.Proofs.Ytdohgkokoicjlaa
open Go.RowKit Go.Maps
theorem giveResult (FW : World) (tmps : Array Value) (N : Nat) (v0 v1 : Value) (h6 : tmps.getD 6 undef = .pointer (some ⟨N, 0, none⟩))
    (d0 : FW.cell? ⟨N, 0, none⟩ = some v0) (d1 : FW.cell? ⟨N, 1, none⟩ = some v1) :
    (results Try.f56 tmps).run Try.prog FW = .ok (.agg #[v0, v1]) FW := by
  simp only [Array.getD_eq_getD_getElem?] at h6
  simp [results, Try.results56, go_sem, h6, d0, d1]
def Bd.more (B : Bd) (n : Nat) : Bd := { B with nf := B.nf + n }
theorem Bd.more_le (B : Bd) (n m : Nat) (h : n ≤ m) : (B.more n).le (B.more m) := ⟨Nat.le_refl _, by simp only [Bd.more]; omega, Nat.le_refl _, id⟩
theorem Bd.le_more (B : Bd) (n : Nat) : B.le (B.more n) := ⟨Nat.le_refl _, by simp only [Bd.more]; omega, Nat.le_refl _, id⟩
def GiveEnd (w : World) (σ : Sh) (B : Bd) (s : ByteArray) (len : Nat) (e : Ending) (w' : World) : Prop :=
  ∃ (σ' : Sh) (b' len' cap' : Nat), e = .returned (.agg #[.string s, .slice (some ⟨b', 0, none⟩) len' cap']) ∧ Wf w' σ' (B.more 2) ∧ Ext σ σ' ∧ (∀ x, x < w.heap.size → σ' x = σ x) ∧ Only (Hot σ) w w' ∧ len ≤ len' ∧ len' ≤ len + 2 ∧ len' ≤ cap' ∧ cap' ≤ maxLen ∧ σ' b' = some (48, cap')
theorem boxes3 (w : World) (c1 c2 c3 : Array Value) (T1 T2 T3 : TypeId) : (((w.alloc (.cells c1 T1)).alloc (.cells c2 T2)).alloc (.cells c3 T3)).heap[w.heap.size]? = some (.cells c1 T1 (0, 0)) ∧ (((w.alloc (.cells c1 T1)).alloc (.cells c2 T2)).alloc (.cells c3 T3)).heap[w.heap.size + 1]? = some (.cells c2 T2 (0, 0)) ∧ (((w.alloc (.cells c1 T1)).alloc (.cells c2 T2)).alloc (.cells c3 T3)).heap[w.heap.size + 1 + 1]? = some (.cells c3 T3 (0, 0)) := by
  refine ⟨?_, ?_, block_new _ _ (by simp)⟩
  · rw [(below_box2 _ _ _).block _ (by simp)]; exact block_new _ _ rfl
  · rw [(below_box _ _).block _ (by simp)]; exact block_new _ _ (by simp)
theorem give_close {w X w1 w2 : World} {σ σ1 σ2 : Sh} {B : Bd} {s nm : ByteArray} {fc : Array Value} {b len cap b1 len1 b2 len2 cap2 : Nat} (hW : Wf w σ B)
    (hX : X.heap[w.heap.size]? = some (.cells #[.string s, .slice (some ⟨b, 0, none⟩) len cap] 25 (0, 0)) ∧ X.heap[w.heap.size + 1]? = some (.cells fc 37 (0, 0)) ∧ X.heap[w.heap.size + 1 + 1]? = some (.cells #[.string ⟨#[]⟩, .slice none 0 0] 25 (0, 0))) (bX : Below w.heap.size w X) (zX : w.heap.size + 1 + 1 < X.heap.size)
    (o1 : Only (Hot σ) X w1) (x1 : Ext σ σ1) (s1 : ∀ x, x < X.heap.size → σ1 x = σ x) (hl1 : len ≤ len1) (hl2 : len1 ≤ len + 1) (t1 : TN w1 b1 len1 nm)
    (W2 : Wf w2 σ2 B) (o2 : Only (Hot σ1) w1 w2) (x2 : Ext σ1 σ2) (s2 : ∀ x, x < w1.heap.size → σ2 x = σ1 x) (hl3 : len1 ≤ len2) (hl4 : len2 ≤ len1 + 1) (hlc : len2 ≤ cap2) (hcm : cap2 ≤ maxLen) (hb2 : σ2 b2 = some (48, cap2)) (t2 : ∀ x, TN w1 b1 len1 x → TN w2 b2 len2 x) :
    GSt w σ B s fc len nm ((w2.setCell ⟨w.heap.size, 0, none⟩ (.string s)).setCell ⟨w.heap.size, 1, none⟩ (.slice (some ⟨b2, 0, none⟩) len2 cap2)) σ2 B b2 len2 cap2 := by
  have z1 := o1.size
  have z2 := o2.size
  have nn : ∀ x, w.heap.size ≤ x → x < X.heap.size → σ2 x = none := fun x h1 h2 => by rw [s2 x (by omega), s1 x h2]; exact hW.fresh h1
  have nh : ∀ x, w.heap.size ≤ x → ¬ Hot σ x := fun x h1 ⟨T, n, h, _⟩ => by rw [hW.fresh h1] at h; cases h
  have nh1 : ∀ x, w.heap.size ≤ x → x < X.heap.size → ¬ Hot σ1 x := fun x h1 h2 ⟨T, n, h, _⟩ => by rw [s1 x h2, hW.fresh h1] at h; cases h
  have hk : ∀ x, w.heap.size ≤ x → x < X.heap.size → w2.heap[x]? = X.heap[x]? := fun x h1 h2 => (o2.block x (by omega) (nh1 x h1 h2)).trans (o1.block x h2 (nh x h1))
  have p2 := (hk w.heap.size (Nat.le_refl _) (by omega)).trans hX.1
  have ho : Only (Hot σ) w w2 := ((Only.of_below (Hot σ) bX).trans o1 fun _ _ q => q).trans o2 fun x hx ⟨T, n, h, q⟩ => ⟨T, n, by rw [← s1 x (by omega)]; exact h, q⟩
  have hsz : ((w2.setCell ⟨w.heap.size, 0, none⟩ (.string s)).setCell ⟨w.heap.size, 1, none⟩ (.slice (some ⟨b2, 0, none⟩) len2 cap2)).heap.size = w2.heap.size := by rw [size_set, size_set]
  have hblk : ∀ x, x ≠ w.heap.size → ((w2.setCell ⟨w.heap.size, 0, none⟩ (.string s)).setCell ⟨w.heap.size, 1, none⟩ (.slice (some ⟨b2, 0, none⟩) len2 cap2)).heap[x]? = w2.heap[x]? := fun x hx => by rw [Below.heap_setCell _ _ _ _ hx, Below.heap_setCell _ _ _ _ hx]
  have n0 := nn w.heap.size (Nat.le_refl _) (by omega)
  refine ⟨?_, (hblk _ (by omega)).trans ((hk _ (by omega) (by omega)).trans hX.2.1), (hblk _ (by omega)).trans ((hk _ (by omega) (by omega)).trans hX.2.2), W2.keep fun x T n h => hblk x (fun e => by subst e; rw [n0] at h; cases h), x1.trans x2, fun x hx => by rw [s2 x (by have := bX.size; omega), s1 x (by have := bX.size; omega)], n0, nn _ (by omega) (by omega), nn _ (by omega) (by omega), (ho.set _ _ (Or.inr (Nat.le_refl _)) _).set _ _ (Or.inr (Nat.le_refl _)) _, by rw [hsz]; omega, by omega, by omega, hlc, hcm, hb2, ?_⟩
  · rw [set_box (set_box p2 0 _) 1 _]; rfl
  · obtain ⟨i, hi, hc⟩ := t2 nm t1
    exact ⟨i, hi, (World.cell?_of_block (a := ⟨b2, i * 3, none⟩) (hblk b2 (fun e => by subst e; rw [n0] at hb2; cases hb2))).trans hc⟩
theorem GSt.fin {w : World} {σ : Sh} {B : Bd} {s : ByteArray} {fc : Array Value} {len0 : Nat} {nm : ByteArray} {wx : World} {σ1 : Sh} {B1 : Bd} {b1 len1 cap1 : Nat} (h : GSt w σ B s fc len0 nm wx σ1 B1 b1 len1 cap1) (hB : B1.le (B.more 2)) :
    GiveEnd w σ B s len0 (.returned (.agg #[.string s, .slice (some ⟨b1, 0, none⟩) len1 cap1])) ((wx.setCell ⟨w.heap.size + 1 + 1, 0, none⟩ (.string s)).setCell ⟨w.heap.size + 1 + 1, 1, none⟩ (.slice (some ⟨b1, 0, none⟩) len1 cap1)) := by
  refine ⟨σ1, b1, len1, cap1, rfl, (h.wf.le hB).keep fun x T n hx => ?_, h.ext, h.old, (h.only.set _ _ (Or.inr (by omega)) _).set _ _ (Or.inr (by omega)) _, h.le, h.le2, h.lc, h.cm, h.blk⟩
  have hne : x ≠ w.heap.size + 1 + 1 := fun e => by subst e; rw [h.n2] at hx; cases hx
  rw [Below.heap_setCell _ _ _ _ hne, Below.heap_setCell _ _ _ _ hne]
set_option maxRecDepth 20000 in
set_option maxHeartbeats 1600000 in
theorem l11Give_any (w : World) (σ : Sh) (B : Bd) (s nm fn fo : ByteArray) (l m fr h sh : Bool) (na : Option Addr) (nl nc b len cap : Nat) (hW : Wf w σ B) (hs : s.size ≤ 12) (hb : σ b = some (48, cap)) (hl : len ≤ cap) (hcm : cap ≤ maxLen) (hN : len ≤ 10000) (hnm : nm.size ≤ 12) (hsc : scalarB nm = false) (hfn : fn.size ≤ 12) (hfo : fo.size ≤ 12) (hsl : SlOk σ 9 B.nn (.slice na nl nc)) (hnn : B.nn ≤ 1) (hnf : B.nf ≤ 10000) (hnf1 : 1 ≤ B.nf) :
    Calls Try.prog 56 #[.agg #[.string s, .slice (some ⟨b, 0, none⟩) len cap], .string nm, .agg (fcs fn fo l m fr h sh na nl nc)] w (GiveEnd w σ B s len) := by
  unfold fcs
  obtain ⟨X, hX⟩ : ∃ X, X = (((w.alloc (.cells #[.string s, .slice (some ⟨b, 0, none⟩) len cap] 25)).alloc (.cells #[.string fn, .string fo, .bool l, .bool m, .bool fr, .bool h, .bool sh, .slice na nl nc] 37)).alloc (.cells #[.string ⟨#[]⟩, .slice none 0 0] 25)) := ⟨_, rfl⟩
  have hXb := boxes3 w #[.string s, .slice (some ⟨b, 0, none⟩) len cap] #[.string fn, .string fo, .bool l, .bool m, .bool fr, .bool h, .bool sh, .slice na nl nc] #[.string ⟨#[]⟩, .slice none 0 0] 25 37 25
  have bX : Below w.heap.size w X := by rw [hX]; exact (below_box2 w _ _).alloc (by simp; omega) _
  have zX : w.heap.size + 1 + 1 < X.heap.size := by rw [hX]; simp
  rw [← hX] at hXb
  go_enter Try.func56, Try.ntmps56
  go_upto_region 1 with fail
  rw [← hX]
  have HXE := hid_of hX
  clear hX
  have hWX := hW.below bX
  obtain ⟨px0, -⟩ := box_at hXb.1 0 (by simp)
  obtain ⟨px1, -⟩ := box_at hXb.1 1 (by simp)
  obtain ⟨fx1, -⟩ := box_at hXb.2.1 1 (by simp)
  simp only [List.getElem_toArray, List.getElem_cons_zero, List.getElem_cons_succ] at px0 px1 fx1
  have nh : ∀ x, w.heap.size ≤ x → ¬ Hot σ x := fun x h1 ⟨T, n, h, _⟩ => by rw [hW.fresh h1] at h; cases h
  have LAW1 : Calls Try.prog 74 #[.agg #[.string s, .slice (some ⟨b, 0, none⟩) len cap], .string nm] X.drew fun e w1 => ∃ σ1 b1 len1 cap1, e = .returned (.agg #[.string s, .slice (some ⟨b1, 0, none⟩) len1 cap1]) ∧ w1.cell? ⟨w.heap.size + 1, 1, none⟩ = some (.string fo) ∧ Hid (Wf w1 σ1 B ∧ Ext σ σ1 ∧ (∀ x, x < X.heap.size → σ1 x = σ x) ∧ Only (Hot σ) X w1 ∧ TN w1 b1 len1 nm ∧ len ≤ len1 ∧ len1 ≤ len + 1 ∧ len1 ≤ cap1 ∧ cap1 ≤ maxLen ∧ σ1 b1 = some (48, cap1)) := by
    refine (l11Need_any X.drew σ B s nm b len cap (hWX.keep fun _ _ _ _ => rfl) hs hb hl hcm (by omega) hnm (by omega) (by omega) hnf1).mono ?_
    rintro e w1 ⟨σ1, b1, len1, cap1, rfl, W1, x1, s1, o1, hl1, hl2, hlc1, hcm1, hb1, -, t1⟩
    have k1 : w1.heap[w.heap.size + 1]? = X.heap[w.heap.size + 1]? := o1.block _ (by show _ < X.heap.size; omega) (nh _ (by omega))
    obtain ⟨fy1, -⟩ := box_at (k1.trans hXb.2.1) 1 (by simp)
    exact ⟨σ1, b1, len1, cap1, rfl, fy1, ⟨W1, x1, s1, ⟨o1.os, o1.tape, o1.output, o1.size, o1.block⟩, t1 hsc, hl1, hl2, hlc1, hcm1, hb1⟩⟩
  have LAW2 : ∀ w1 σ1 b1 len1 cap1, Hid (Wf w1 σ1 B ∧ Ext σ σ1 ∧ (∀ x, x < X.heap.size → σ1 x = σ x) ∧ Only (Hot σ) X w1 ∧ TN w1 b1 len1 nm ∧ len ≤ len1 ∧ len1 ≤ len + 1 ∧ len1 ≤ cap1 ∧ cap1 ≤ maxLen ∧ σ1 b1 = some (48, cap1)) →
      Calls Try.prog 74 #[.agg #[.string s, .slice (some ⟨b1, 0, none⟩) len1 cap1], .string fo] w1 fun e w2 => ∃ σ2 b2 len2 cap2, e = .returned (.agg #[.string s, .slice (some ⟨b2, 0, none⟩) len2 cap2]) ∧ w2.cell? ⟨w.heap.size, 0, none⟩ = some (.string s) ∧ w2.frozen? ⟨w.heap.size, 0, none⟩ = false ∧ w2.cell? ⟨w.heap.size, 1, none⟩ = some (.slice (some ⟨b, 0, none⟩) len cap) ∧ w2.frozen? ⟨w.heap.size, 1, none⟩ = false ∧
        Hid (GSt w σ B s #[.string fn, .string fo, .bool l, .bool m, .bool fr, .bool h, .bool sh, .slice na nl nc] len nm ((w2.setCell ⟨w.heap.size, 0, none⟩ (.string s)).setCell ⟨w.heap.size, 1, none⟩ (.slice (some ⟨b2, 0, none⟩) len2 cap2)) σ2 B b2 len2 cap2) := by
    intro w1 σ1 b1 len1 cap1 H
    obtain ⟨W1, x1, s1, o1, t1, hl1, hl2, hlc1, hcm1, hb1⟩ := H.out
    have z1 := o1.size
    refine (l11Need_any w1 σ1 B s fo b1 len1 cap1 W1 hs hb1 hlc1 hcm1 (by omega) hfo (by omega) (by omega) hnf1).mono ?_
    rintro e w2 ⟨σ2, b2, len2, cap2, rfl, W2, x2, s2, o2, hl3, hl4, hlc2, hcm2, hb2, t2, -⟩
    have hpb : w2.heap[w.heap.size]? = some (.cells #[.string s, .slice (some ⟨b, 0, none⟩) len cap] 25 (0, 0)) := ((o2.block _ (by omega) (fun ⟨T, n, hh, _⟩ => by rw [s1 _ (by omega), hW.fresh (Nat.le_refl _)] at hh; cases hh)).trans (o1.block _ (by omega) (nh _ (Nat.le_refl _)))).trans hXb.1
    obtain ⟨py0, pyf0⟩ := box_at hpb 0 (by simp)
    obtain ⟨py1, pyf1⟩ := box_at hpb 1 (by simp)
    exact ⟨σ2, b2, len2, cap2, rfl, py0, pyf0, py1, pyf1, give_close (b := b) hW hXb bX zX o1 x1 s1 hl1 hl2 t1 W2 o2 x2 s2 hl3 hl4 hlc2 hcm2 hb2 t2⟩
  go_cut [] (fun wx => ∃ σ2 b2 len2 cap2, Hid (GSt w σ B s #[.string fn, .string fo, .bool l, .bool m, .bool fr, .bool h, .bool sh, .slice na nl nc] len nm wx σ2 B b2 len2 cap2))
  case first =>
    have HL1 := hid_of LAW1
    have HL2 := hid_of LAW2
    clear hXb LAW1 LAW2 hWX bX nh
    go_region_with (first
      | (
        go_at_call_of 74 (Value.string nm)
        refine HL1.out.mono ?_
        rintro e w1 ⟨σ1, b1, len1, cap1, rfl, fy1, HS1⟩)
      | (
        go_at_call_of 74 (Value.string fo)
        refine (HL2.out w1 σ1 b1 len1 cap1 HS1).mono ?_
        rintro e w2 ⟨σ2, b2, len2, cap2, rfl, py0, pyf0, py1, pyf1, HG⟩))
    all_goals
      go_wp2_with fail
      go_meet
      case rel => exact ⟨σ2, b2, len2, cap2, HG⟩
  case rest =>
  obtain ⟨σ2, b2, len2, cap2, HG⟩ := hcut
  obtain ⟨wA, rfl⟩ : ∃ x, x = wc := ⟨wc, rfl⟩
  clear hXb LAW1 LAW2 hWX bX nh px0 px1 fx1 zX HXE
  obtain ⟨p0, -⟩ := box_at HG.out.pbox 0 (by simp)
  obtain ⟨p1, -⟩ := box_at HG.out.pbox 1 (by simp)
  simp only [List.getElem_toArray, List.getElem_cons_zero, List.getElem_cons_succ] at p0 p1
  have hln2 : len2 ≤ 100000 := by have := HG.out.le2; omega
  have HTY := hid_of (l2Type_wf wA σ2 B s nm b2 len2 cap2 HG.out.wf hs HG.out.blk HG.out.lc (by omega) (by omega) (by omega))
  go_wp2_with (go_at_call 46; refine HTY.out.mono ?_; rintro e wB ⟨ki, rfl, hk1, hk2, hk3, hbB⟩)
  have hk4 : 0 ≤ ki := hk3.2 HG.out.has
  obtain ⟨kt, rfl⟩ : ∃ n : Nat, ki = n := ⟨ki.toNat, by omega⟩
  have hkt : kt < len2 := by omega
  have HGB := hid_of (HG.out.below hbB)
  clear HG p0 p1 HTY hk3 hbB
  obtain ⟨n, ky, fa, fl, fp, r0, r1, r2, rf2, hn, hky, hfl, hflp, hfpm, h4⟩ := HGB.out.row kt hkt
  obtain ⟨p1, -⟩ := box_at HGB.out.pbox 1 (by simp)
  obtain ⟨f0, -⟩ := box_at HGB.out.fbox 0 (by simp)
  simp only [List.getElem_toArray, List.getElem_cons_zero, List.getElem_cons_succ] at p1 f0
  have HFI := hid_of (l2Field_wf wB.drew σ2 B n ky fn fa fl fp (HGB.out.wf.keep fun _ _ _ _ => rfl) hn hky hfl hflp hfpm h4 (by omega) (by omega))
  have hki : (kt : Int) < (len2 : Int) := by omega
  have hbl2 := HGB.out.wf.lt HGB.out.blk
  have hszB := HGB.out.size
  have HSB : Hid (∀ W, Below wB.heap.size wB W → W.cell? ⟨w.heap.size, 1, none⟩ = some (.slice (some ⟨b2, 0, none⟩) len2 cap2) ∧ W.cell? ⟨b2, kt * 3, none⟩ = some (.string n) ∧ W.cell? ⟨b2, kt * 3 + 1, none⟩ = some (.string ky) ∧ W.cell? ⟨b2, kt * 3 + 2, none⟩ = some (.slice fa fl fp) ∧ W.cell? ⟨w.heap.size + 1, 0, none⟩ = some (.string fn)) := hid_of fun W hW =>
    ⟨(hW.cell (p := ⟨w.heap.size, 1, none⟩) (by show w.heap.size < _; omega)).trans p1, (hW.cell (p := ⟨b2, kt * 3, none⟩) hbl2).trans r0, (hW.cell (p := ⟨b2, kt * 3 + 1, none⟩) hbl2).trans r1, (hW.cell (p := ⟨b2, kt * 3 + 2, none⟩) hbl2).trans r2, (hW.cell (p := ⟨w.heap.size + 1, 0, none⟩) (by show w.heap.size + 1 < _; omega)).trans f0⟩
  go_upto_region 3 with fail
  go_region_held3 (fun w' => w'.cell? ⟨w.heap.size, 1, none⟩ = some (.slice (some ⟨b2, 0, none⟩) len2 cap2) ∧ w'.cell? ⟨b2, kt * 3, none⟩ = some (.string n) ∧ w'.cell? ⟨b2, kt * 3 + 1, none⟩ = some (.string ky) ∧ w'.cell? ⟨b2, kt * 3 + 2, none⟩ = some (.slice fa fl fp) ∧ w'.cell? ⟨w.heap.size + 1, 0, none⟩ = some (.string fn)) (go_keep)
    (first | (go_at_call 47; refine HFI.out.mono ?_; rintro e wC ⟨k2, rfl, hk21, hk22, hbC⟩; have HGC := hid_of (HGB.out.below (below_undrew hbC)); obtain ⟨s0, s1, s2, s3, s4⟩ := HSB.out wC (below_undrew hbC)))
  clear HSB r0 r1 r2 rf2 p1 f0 HFI HGB hbC hszB
  obtain ⟨p0, -⟩ := box_at HGC.out.pbox 0 (by simp)
  obtain ⟨y0, yf0⟩ := box_at HGC.out.rbox 0 (by simp)
  obtain ⟨y1, yf1⟩ := box_at HGC.out.rbox 1 (by simp)
  simp only [List.getElem_toArray, List.getElem_cons_zero, List.getElem_cons_succ] at p0 y0 y1
  by_cases hk2 : 0 ≤ k2
  · obtain ⟨k3, rfl⟩ : ∃ n : Nat, k2 = n := ⟨k2.toNat, by omega⟩
    have hk3 : k3 < fl := by omega
    obtain ⟨fb, rfl, hfb⟩ : ∃ b, fa = some ⟨b, 0, none⟩ ∧ σ2 b = some (37, fp) := by
      rcases h4 with ⟨-, h, -⟩ | h
      · omega
      · exact h
    have hcell := fun j (hj : j < 8) => HGC.out.wf.cell hfb k3 j (by omega) (by rw [wideF]; exact hj)
    simp only [wideF] at hcell
    obtain ⟨e4, c4, o4, z4⟩ := hcell 4 (by omega)
    obtain ⟨far, rfl⟩ : BoOk e4 := by simpa [CellOk] using o4
    cases far
    · clear hcell
      go_wp2_with fail
      have hd := sets2_cells HGC.out.rbox (.string s) (.slice (some ⟨b2, 0, none⟩) len2 cap2)
      exact bodyPost_ret (giveResult _ _ (w.heap.size + 1 + 1) (.string s) (.slice (some ⟨b2, 0, none⟩) len2 cap2) rfl hd.1 hd.2) rfl (HGC.out.fin (Bd.le_more _ _))
    · obtain ⟨e0, c0, -, z0⟩ := hcell 0 (by omega)
      obtain ⟨e1, c1, -, z1⟩ := hcell 1 (by omega)
      obtain ⟨e2, c2, -, z2⟩ := hcell 2 (by omega)
      obtain ⟨e3, c3, -, z3⟩ := hcell 3 (by omega)
      obtain ⟨e5, c5, -, z5⟩ := hcell 5 (by omega)
      obtain ⟨e6, c6, -, z6⟩ := hcell 6 (by omega)
      obtain ⟨e7, c7, -, z7⟩ := hcell 7 (by omega)
      rw [Nat.add_zero] at c0 z0
      obtain ⟨f1, -⟩ := box_at HGC.out.fbox 1 (by simp)
      obtain ⟨f2, -⟩ := box_at HGC.out.fbox 2 (by simp)
      obtain ⟨f3, -⟩ := box_at HGC.out.fbox 3 (by simp)
      obtain ⟨f4, -⟩ := box_at HGC.out.fbox 4 (by simp)
      obtain ⟨f5, -⟩ := box_at HGC.out.fbox 5 (by simp)
      obtain ⟨f6, -⟩ := box_at HGC.out.fbox 6 (by simp)
      obtain ⟨f7, -⟩ := box_at HGC.out.fbox 7 (by simp)
      simp only [List.getElem_toArray, List.getElem_cons_zero, List.getElem_cons_succ] at f1 f2 f3 f4 f5 f6 f7
      clear hcell
      obtain ⟨Y, hY, HY⟩ : ∃ Y, Y = ((((((((wC.setCell ⟨fb, k3 * 8, none⟩ (.string fn)).setCell ⟨fb, k3 * 8 + 1, none⟩ (.string fo)).setCell ⟨fb, k3 * 8 + 2, none⟩ (.bool l)).setCell ⟨fb, k3 * 8 + 3, none⟩ (.bool m)).setCell ⟨fb, k3 * 8 + 4, none⟩ (.bool fr)).setCell ⟨fb, k3 * 8 + 5, none⟩ (.bool h)).setCell ⟨fb, k3 * 8 + 6, none⟩ (.bool sh)).setCell ⟨fb, k3 * 8 + 7, none⟩ (.slice na nl nc)) ∧ Hid (GSt w σ B s #[.string fn, .string fo, .bool l, .bool m, .bool fr, .bool h, .bool sh, .slice na nl nc] len nm Y σ2 B b2 len2 cap2) := ⟨_, rfl, HGC.out.put8 (k := k3) hfb fn fo l m fr h sh (.slice na nl nc) hfn hfo (hsl.ext HGC.out.ext (Nat.le_refl _))⟩
      have HYE := hid_of hY
      clear hY
      have HY := hid_of HY.out.drew
      have hk3i : (k3 : Int) < (fl : Int) := by omega
      go_upto_region 7 with fail
      go_region
      all_goals
        rw [← HYE.out]
        clear p0 y0 y1 yf0 yf1 s0 s1 s2 s3 s4 c0 c1 c2 c3 c4 c5 c6 c7 z0 z1 z2 z3 z4 z5 z6 z7 f1 f2 f3 f4 f5 f6 f7
        obtain ⟨p0, -⟩ := box_at HY.out.pbox 0 (by simp)
        obtain ⟨p1, -⟩ := box_at HY.out.pbox 1 (by simp)
        obtain ⟨y0, yf0⟩ := box_at HY.out.rbox 0 (by simp)
        obtain ⟨y1, yf1⟩ := box_at HY.out.rbox 1 (by simp)
        simp only [List.getElem_toArray, List.getElem_cons_zero, List.getElem_cons_succ] at p0 p1 y0 y1
        generalize Y.drew = Z at *
        go_wp2_with fail
        have hd := sets2_cells HY.out.rbox (.string s) (.slice (some ⟨b2, 0, none⟩) len2 cap2)
        exact bodyPost_ret (giveResult _ _ (w.heap.size + 1 + 1) (.string s) (.slice (some ⟨b2, 0, none⟩) len2 cap2) rfl hd.1 hd.2) rfl (HY.out.fin (Bd.le_more _ _))
  have hk2n : k2 < 0 := by omega
  obtain ⟨f7, -⟩ := box_at HGC.out.fbox 7 (by simp)
  simp only [List.getElem_toArray, List.getElem_cons_zero, List.getElem_cons_succ] at f7
  have hnl : nl ≤ 1 := by obtain ⟨_, _, _, e, h1, -⟩ := hsl; cases e; omega
  have hncm : nl ≤ nc := by obtain ⟨_, _, _, e, -, h1, -⟩ := hsl; cases e; exact h1
  go_upto_region 9 with fail
  have HGL := hid_of (HGC.out.le' (Bd.le_more B 0))
  obtain ⟨iF, hiF, hzF, hsF, hbF⟩ := info_parts infoF
  clear HGC p0 y0 yf0 y1 yf1 f7 s0 s1 s2 s3 s4 hn hky hfl hflp hfpm h4
  go_wp2_with fail
  go_loopw [9] (fun i wr => ∃ (j : Nat) (σ3 : Sh), j ≤ nl ∧ i = .int .i64 j ∧ Hid (GSt w σ B s #[.string fn, .string fo, .bool l, .bool m, .bool fr, .bool h, .bool sh, .slice na nl nc] len nm wr σ3 (B.more j) b2 len2 cap2)) (fun i _ => nl - (intOf i).toNat)
  case atStart => exact ⟨0, σ2, Nat.zero_le _, rfl, HGL⟩
  case round =>
    obtain ⟨j, σ3, hj, rfl, HGJ⟩ := hrel
    obtain ⟨wJ, rfl⟩ : ∃ x, x = wr := ⟨wr, rfl⟩
    clear HGL
    obtain ⟨f7, -⟩ := box_at HGJ.out.fbox 7 (by simp)
    simp only [List.getElem_toArray, List.getElem_cons_zero, List.getElem_cons_succ] at f7
    obtain ⟨n, ky, fa, fl, fp, r0, r1, r2, rf2, hn, hky, hfl, hflp, hfpm, h4⟩ := HGJ.out.row kt hkt
    have hfl' : fl ≤ 100000 := by simp only [Bd.more] at hfl; omega
    by_cases hlt : j < nl
    case neg =>
      have hje : ¬ (j : Int) < (nl : Int) := by omega
      go_upto_region 14 with fail
      have HGD := HGJ
      obtain ⟨wD, rfl⟩ : ∃ x, x = wJ := ⟨wJ, rfl⟩
      have HSD : Hid (∀ W, Below wD.heap.size wD W → W.cell? ⟨w.heap.size, 1, none⟩ = some (.slice (some ⟨b2, 0, none⟩) len2 cap2) ∧ W.cell? ⟨w.heap.size + 1, 0, none⟩ = some (.string fn) ∧ W.cell? ⟨w.heap.size + 1, 1, none⟩ = some (.string fo) ∧ W.cell? ⟨w.heap.size + 1, 2, none⟩ = some (.bool l) ∧ W.cell? ⟨w.heap.size + 1, 3, none⟩ = some (.bool m) ∧ W.cell? ⟨w.heap.size + 1, 4, none⟩ = some (.bool fr) ∧ W.cell? ⟨w.heap.size + 1, 5, none⟩ = some (.bool h) ∧ W.cell? ⟨w.heap.size + 1, 6, none⟩ = some (.bool sh) ∧ W.cell? ⟨w.heap.size + 1, 7, none⟩ = some (.slice na nl nc)) := hid_of fun W hW => by
        have hG := HGD.out.below hW
        exact ⟨(box_at hG.pbox 1 (by simp)).1, (box_at hG.fbox 0 (by simp)).1, (box_at hG.fbox 1 (by simp)).1, (box_at hG.fbox 2 (by simp)).1, (box_at hG.fbox 3 (by simp)).1, (box_at hG.fbox 4 (by simp)).1, (box_at hG.fbox 5 (by simp)).1, (box_at hG.fbox 6 (by simp)).1, (box_at hG.fbox 7 (by simp)).1⟩
      have HCL : Hid (∀ W, Below wD.heap.size wD W → W.cell? ⟨b2, kt * 3 + 2, none⟩ = some (.slice fa fl fp)) := hid_of fun W hW => (hW.cell (p := ⟨b2, kt * 3 + 2, none⟩) (HGD.out.wf.lt HGD.out.blk)).trans r2
      have HWW : Hid (∀ W, Below wD.heap.size wD W → Wf W σ3 (B.more j)) := hid_of fun W hW => HGD.out.wf.below hW
      have HROW : Hid (∀ W, Below wD.heap.size wD W → ∀ W', W.grownBy W' (Value.slice fa fl fp).ownBlock → ∀ x, x < wD.heap.size → (∀ c, σ3 x ≠ some (37, c)) → W'.heap[x]? = wD.heap[x]?) := hid_of fun W hW W' hg x hx hn => (hg.block x (Nat.lt_of_lt_of_le hx hW.size) (fun e => by
        rcases h4 with ⟨rfl, -, -⟩ | ⟨fb, rfl, hfb⟩
        · cases e
        · cases e; exact hn _ hfb)).trans (hW.block x hx)
      have hszD := HGD.out.size
      have HSF : Hid (∀ W, Below wD.heap.size wD W → ∀ W', W.grownBy W' (Value.slice fa fl fp).ownBlock → W'.cell? ⟨w.heap.size, 1, none⟩ = some (.slice (some ⟨b2, 0, none⟩) len2 cap2) ∧ W'.cell? ⟨w.heap.size + 1, 0, none⟩ = some (.string fn) ∧ W'.cell? ⟨w.heap.size + 1, 1, none⟩ = some (.string fo) ∧ W'.cell? ⟨w.heap.size + 1, 2, none⟩ = some (.bool l) ∧ W'.cell? ⟨w.heap.size + 1, 3, none⟩ = some (.bool m) ∧ W'.cell? ⟨w.heap.size + 1, 4, none⟩ = some (.bool fr) ∧ W'.cell? ⟨w.heap.size + 1, 5, none⟩ = some (.bool h) ∧ W'.cell? ⟨w.heap.size + 1, 6, none⟩ = some (.bool sh) ∧ W'.cell? ⟨w.heap.size + 1, 7, none⟩ = some (.slice na nl nc)) := hid_of fun W hW W' hg => by
        have kk := HROW.out W hW W' hg
        have kf := (kk _ (by omega) (fun c => by rw [HGD.out.n1]; simp)).trans HGD.out.fbox
        exact ⟨(box_at ((kk _ (by omega) (fun c => by rw [HGD.out.n0]; simp)).trans HGD.out.pbox) 1 (by simp)).1, (box_at kf 0 (by simp)).1, (box_at kf 1 (by simp)).1, (box_at kf 2 (by simp)).1, (box_at kf 3 (by simp)).1, (box_at kf 4 (by simp)).1, (box_at kf 5 (by simp)).1, (box_at kf 6 (by simp)).1, (box_at kf 7 (by simp)).1⟩
      have HBT : Hid (∀ W, Below wD.heap.size wD W → ∀ W', W.grownBy W' (Value.slice fa fl fp).ownBlock → W'.cell? ⟨b2, kt * 3 + 2, none⟩ = some (.slice fa fl fp) ∧ W'.frozen? ⟨b2, kt * 3 + 2, none⟩ = false) := hid_of fun W hW W' hg => by
        have kk := HROW.out W hW W' hg b2 (HGD.out.wf.lt HGD.out.blk) (fun c => by rw [HGD.out.blk]; simp)
        exact ⟨(World.cell?_of_block (a := ⟨b2, kt * 3 + 2, none⟩) kk).trans r2, (World.frozen?_of_block (a := ⟨b2, kt * 3 + 2, none⟩) kk).trans rf2⟩
      have HST : Hid (∀ W, Below wD.heap.size wD W → ∀ W', W.grownBy W' (Value.slice fa fl fp).ownBlock → ∀ v, (W'.setCell ⟨b2, kt * 3 + 2, none⟩ v).cell? ⟨w.heap.size, 1, none⟩ = some (.slice (some ⟨b2, 0, none⟩) len2 cap2) ∧ (W'.setCell ⟨b2, kt * 3 + 2, none⟩ v).cell? ⟨w.heap.size + 1, 0, none⟩ = some (.string fn) ∧ (W'.setCell ⟨b2, kt * 3 + 2, none⟩ v).cell? ⟨w.heap.size + 1, 1, none⟩ = some (.string fo) ∧ (W'.setCell ⟨b2, kt * 3 + 2, none⟩ v).cell? ⟨w.heap.size + 1, 2, none⟩ = some (.bool l) ∧ (W'.setCell ⟨b2, kt * 3 + 2, none⟩ v).cell? ⟨w.heap.size + 1, 3, none⟩ = some (.bool m) ∧ (W'.setCell ⟨b2, kt * 3 + 2, none⟩ v).cell? ⟨w.heap.size + 1, 4, none⟩ = some (.bool fr) ∧ (W'.setCell ⟨b2, kt * 3 + 2, none⟩ v).cell? ⟨w.heap.size + 1, 5, none⟩ = some (.bool h) ∧ (W'.setCell ⟨b2, kt * 3 + 2, none⟩ v).cell? ⟨w.heap.size + 1, 6, none⟩ = some (.bool sh) ∧ (W'.setCell ⟨b2, kt * 3 + 2, none⟩ v).cell? ⟨w.heap.size + 1, 7, none⟩ = some (.slice na nl nc)) := hid_of fun W hW W' hg v => by
        have hc : ∀ x o, x ≠ b2 → (W'.setCell ⟨b2, kt * 3 + 2, none⟩ v).cell? ⟨x, o, none⟩ = W'.cell? ⟨x, o, none⟩ := fun x o hx => World.cell?_of_block (a := ⟨x, o, none⟩) (Below.heap_setCell _ _ _ _ hx)
        have m0 : w.heap.size ≠ b2 := fun e => by have h0 := HGD.out.blk; rw [← e, HGD.out.n0] at h0; cases h0
        have m1 : w.heap.size + 1 ≠ b2 := fun e => by have h0 := HGD.out.blk; rw [← e, HGD.out.n1] at h0; cases h0
        obtain ⟨g0, g1, g2, g3, g4, g5, g6, g7, g8⟩ := HSF.out W hW W' hg
        exact ⟨(hc _ _ m0).trans g0, (hc _ _ m1).trans g1, (hc _ _ m1).trans g2, (hc _ _ m1).trans g3, (hc _ _ m1).trans g4, (hc _ _ m1).trans g5, (hc _ _ m1).trans g6, (hc _ _ m1).trans g7, (hc _ _ m1).trans g8⟩
      have HOK := hid_of (cells_list (T := 37) (cs := #[.string fn, .string fo, .bool l, .bool m, .bool fr, .bool h, .bool sh, .slice na nl nc]) rfl (fieldCells σ3 (B.more j) fn fo l m fr h sh (.slice na nl nc) hfn hfo (hsl.ext HGD.out.ext (Nat.le_refl _))))
      have HEND : Hid (∀ W, Below wD.heap.size wD W → ∀ W' gF capF σF, Wf W' σF (B.more j) → σF gF = some (37, capF) → fl + 1 ≤ capF → capF ≤ maxLen → Ext σ3 σF → (∀ x, x < W.heap.size → σF x = σ3 x) → W.grownBy W' (Value.slice fa fl fp).ownBlock → GSt w σ B s #[.string fn, .string fo, .bool l, .bool m, .bool fr, .bool h, .bool sh, .slice na nl nc] len nm (W'.setCell ⟨b2, kt * 3 + 2, none⟩ (.slice (some ⟨gF, 0, none⟩) (fl + 1) capF)) σF (B.more (j + 1)) b2 len2 cap2) := hid_of fun W hW W' gF capF σF q1 q2 q3 q4 q5 q6 q7 =>
        (HGD.out.grow hW h4 q1 q5 q6 q7).app (k := kt) q2 q3 q4 (Bd.more_le _ _ _ (by omega)) (by simp only [Bd.more] at hfl ⊢; omega)
      clear r0 r1 r2 rf2 f7 HROW HGJ
      refine wp_region_held_drew (S := (fun w' => w'.cell? ⟨w.heap.size, 1, none⟩ = some (.slice (some ⟨b2, 0, none⟩) len2 cap2) ∧ w'.cell? ⟨w.heap.size + 1, 0, none⟩ = some (.string fn) ∧ w'.cell? ⟨w.heap.size + 1, 1, none⟩ = some (.string fo) ∧ w'.cell? ⟨w.heap.size + 1, 2, none⟩ = some (.bool l) ∧ w'.cell? ⟨w.heap.size + 1, 3, none⟩ = some (.bool m) ∧ w'.cell? ⟨w.heap.size + 1, 4, none⟩ = some (.bool fr) ∧ w'.cell? ⟨w.heap.size + 1, 5, none⟩ = some (.bool h) ∧ w'.cell? ⟨w.heap.size + 1, 6, none⟩ = some (.bool sh) ∧ w'.cell? ⟨w.heap.size + 1, 7, none⟩ = some (.slice na nl nc))) (by kernel_rfl) (HSD.out _ (Below.refl _ _).drew) (fun hHeld => ?_)
      have bX : Below wD.heap.size wD wD.drew := (Below.refl _ _).drew
      generalize wD.drew = wE0 at *
      refine tkH 0 hHeld ?_
      refine tkH 1 hHeld ?_
      refine tkH 2 hHeld ?_
      refine tkH 3 hHeld ?_
      refine tkH 4 hHeld ?_
      refine tkH 5 hHeld ?_
      refine tkH 6 hHeld ?_
      refine tkH 7 hHeld ?_
      refine tkH 9 hHeld ?_
      refine rdyH [8, 10] ?_
      refine rcH (fun K hK => ?_) ?_
      · have c1 := HCL.out wE0 bX
        go_simp
        clear c1
        refine hK.out _ _ (HSD.out _ bX) (fun hHeld => ?_)
        clear hK K
        try simp only [Act.put, List.setIfInBounds_toArray, List.set_cons_zero, List.set_cons_succ]
        refine rdyH [10] ?_
        refine rcH (fun K hK => ?_) AllReadyH.nil
        go_simp
        have bE := below_box wE0 (.cells #[.string fn, .string fo, .bool l, .bool m, .bool fr, .bool h, .bool sh, .slice na nl nc] 37)
        obtain ⟨gE, hgE⟩ : ∃ g, g = wE0.heap.size := ⟨_, rfl⟩
        have nE := block_new (w := wE0) (N := gE) #[.string fn, .string fo, .bool l, .bool m, .bool fr, .bool h, .bool sh, .slice na nl nc] 37 hgE.symm
        have bX := bX.trans (bE.mono bX.size)
        refine hK.out _ _ (HSD.out _ bX) (fun hHeld => ?_)
        clear hK K
        try simp only [Act.put, List.setIfInBounds_toArray, List.set_cons_zero, List.set_cons_succ]
        rw [← hgE]
        generalize wE0.alloc (.cells #[.string fn, .string fo, .bool l, .bool m, .bool fr, .bool h, .bool sh, .slice na nl nc] 37) = wE at *
        clear hgE bE
        refine rdyH [11] ?_
        refine rcH (fun K hK => ?_) AllReadyH.nil
        refine step_append_wf (HWW.out wE bX) rfl (.tmp 97) (.tmp 99) 46 rfl 37 iF _ 64 Try.underlying46 hiF hzF hsF hbF rfl (zeroF _ _) fa fl fp rfl hflp hfpm h4 ⟨gE, 0, none⟩ 1 1 [.string fn, .string fo, .bool l, .bool m, .bool fr, .bool h, .bool sh, .slice na nl nc] rfl rfl (World.news_of_block nE) (by intro u hu; simp at hu; rcases hu with rfl | rfl | rfl | rfl | rfl | rfl | rfl | rfl <;> rfl) HOK.out (by omega) (by unfold maxLen; omega) (by omega) ?_
        intro gF capF wF σF q1 q2 q3 q4 q5 q6 q7 q8 q9
        have HQ := hid_of (And.intro q1 (And.intro q2 (And.intro q5 (And.intro q6 q7))))
        clear q1 q2 q5 q6 q7 q8 q9
        refine hK.out _ _ (HSF.out _ bX _ HQ.out.2.2.2.2) (fun hHeld => ?_)
        clear hK K
        try simp only [Act.put, List.setIfInBounds_toArray, List.set_cons_zero, List.set_cons_succ]
        refine tkH 12 hHeld ?_
        refine tkH 13 hHeld ?_
        refine rdyH [14] ?_
        refine rcH (fun K hK => ?_) AllReadyH.nil
        obtain ⟨c1, z1⟩ := HBT.out _ bX _ HQ.out.2.2.2.2
        go_simp
        clear c1 z1
        refine hK.out _ _ (HST.out _ bX _ HQ.out.2.2.2.2 _) (fun hHeld => ?_)
        clear hK K
        try simp only [Act.put, List.setIfInBounds_toArray, List.set_cons_zero, List.set_cons_succ]
        refine wpAnyH_done (by kernel_rfl) ?_ _
        have HFIN := hid_of (HEND.out _ bX _ gF capF σF HQ.out.1 HQ.out.2.1 q3 q4 HQ.out.2.2.1 HQ.out.2.2.2.1 HQ.out.2.2.2.2)
        clear HEND
        generalize wF.setCell ⟨b2, kt * 3 + 2, none⟩ (.slice (some ⟨gF, 0, none⟩) (fl + 1) capF) = Z at *
        obtain ⟨p0, -⟩ := box_at HFIN.out.pbox 0 (by simp)
        obtain ⟨p1, -⟩ := box_at HFIN.out.pbox 1 (by simp)
        obtain ⟨y0, yf0⟩ := box_at HFIN.out.rbox 0 (by simp)
        obtain ⟨y1, yf1⟩ := box_at HFIN.out.rbox 1 (by simp)
        simp only [List.getElem_toArray, List.getElem_cons_zero, List.getElem_cons_succ] at p0 p1 y0 y1
        go_wp2_with fail
        have hd := sets2_cells HFIN.out.rbox (.string s) (.slice (some ⟨b2, 0, none⟩) len2 cap2)
        exact bodyPost_ret (giveResult _ _ (w.heap.size + 1 + 1) (.string s) (.slice (some ⟨b2, 0, none⟩) len2 cap2) rfl hd.1 hd.2) rfl (HFIN.out.fin (Bd.more_le _ _ _ (by omega)))
      refine rcH (fun K hK => ?_) AllReadyH.nil
      go_simp
      have bE := below_box wE0 (.cells #[.string fn, .string fo, .bool l, .bool m, .bool fr, .bool h, .bool sh, .slice na nl nc] 37)
      obtain ⟨gE, hgE⟩ : ∃ g, g = wE0.heap.size := ⟨_, rfl⟩
      have nE := block_new (w := wE0) (N := gE) #[.string fn, .string fo, .bool l, .bool m, .bool fr, .bool h, .bool sh, .slice na nl nc] 37 hgE.symm
      have bX := bX.trans (bE.mono bX.size)
      refine hK.out _ _ (HSD.out _ bX) (fun hHeld => ?_)
      clear hK K
      try simp only [Act.put, List.setIfInBounds_toArray, List.set_cons_zero, List.set_cons_succ]
      rw [← hgE]
      generalize wE0.alloc (.cells #[.string fn, .string fo, .bool l, .bool m, .bool fr, .bool h, .bool sh, .slice na nl nc] 37) = wE at *
      clear hgE bE
      refine rdyH [8] ?_
      refine rcH (fun K hK => ?_) AllReadyH.nil
      have c1 := HCL.out wE bX
      go_simp
      clear c1
      refine hK.out _ _ (HSD.out _ bX) (fun hHeld => ?_)
      clear hK K
      try simp only [Act.put, List.setIfInBounds_toArray, List.set_cons_zero, List.set_cons_succ]
      refine rdyH [11] ?_
      refine rcH (fun K hK => ?_) AllReadyH.nil
      refine step_append_wf (HWW.out wE bX) rfl (.tmp 97) (.tmp 99) 46 rfl 37 iF _ 64 Try.underlying46 hiF hzF hsF hbF rfl (zeroF _ _) fa fl fp rfl hflp hfpm h4 ⟨gE, 0, none⟩ 1 1 [.string fn, .string fo, .bool l, .bool m, .bool fr, .bool h, .bool sh, .slice na nl nc] rfl rfl (World.news_of_block nE) (by intro u hu; simp at hu; rcases hu with rfl | rfl | rfl | rfl | rfl | rfl | rfl | rfl <;> rfl) HOK.out (by omega) (by unfold maxLen; omega) (by omega) ?_
      intro gF capF wF σF q1 q2 q3 q4 q5 q6 q7 q8 q9
      have HQ := hid_of (And.intro q1 (And.intro q2 (And.intro q5 (And.intro q6 q7))))
      clear q1 q2 q5 q6 q7 q8 q9
      refine hK.out _ _ (HSF.out _ bX _ HQ.out.2.2.2.2) (fun hHeld => ?_)
      clear hK K
      try simp only [Act.put, List.setIfInBounds_toArray, List.set_cons_zero, List.set_cons_succ]
      refine tkH 12 hHeld ?_
      refine tkH 13 hHeld ?_
      refine rdyH [14] ?_
      refine rcH (fun K hK => ?_) AllReadyH.nil
      obtain ⟨c1, z1⟩ := HBT.out _ bX _ HQ.out.2.2.2.2
      go_simp
      clear c1 z1
      refine hK.out _ _ (HST.out _ bX _ HQ.out.2.2.2.2 _) (fun hHeld => ?_)
      clear hK K
      try simp only [Act.put, List.setIfInBounds_toArray, List.set_cons_zero, List.set_cons_succ]
      refine wpAnyH_done (by kernel_rfl) ?_ _
      have HFIN := hid_of (HEND.out _ bX _ gF capF σF HQ.out.1 HQ.out.2.1 q3 q4 HQ.out.2.2.1 HQ.out.2.2.2.1 HQ.out.2.2.2.2)
      clear HEND
      generalize wF.setCell ⟨b2, kt * 3 + 2, none⟩ (.slice (some ⟨gF, 0, none⟩) (fl + 1) capF) = Z at *
      obtain ⟨p0, -⟩ := box_at HFIN.out.pbox 0 (by simp)
      obtain ⟨p1, -⟩ := box_at HFIN.out.pbox 1 (by simp)
      obtain ⟨y0, yf0⟩ := box_at HFIN.out.rbox 0 (by simp)
      obtain ⟨y1, yf1⟩ := box_at HFIN.out.rbox 1 (by simp)
      simp only [List.getElem_toArray, List.getElem_cons_zero, List.getElem_cons_succ] at p0 p1 y0 y1
      go_wp2_with fail
      have hd := sets2_cells HFIN.out.rbox (.string s) (.slice (some ⟨b2, 0, none⟩) len2 cap2)
      exact bodyPost_ret (giveResult _ _ (w.heap.size + 1 + 1) (.string s) (.slice (some ⟨b2, 0, none⟩) len2 cap2) rfl hd.1 hd.2) rfl (HFIN.out.fin (Bd.more_le _ _ _ (by omega)))
    have hji : (j : Int) < (nl : Int) := by omega
    obtain ⟨nb, rfl, hnb0⟩ : ∃ b, na = some ⟨b, 0, none⟩ ∧ σ b = some (9, nc) := by
      obtain ⟨_, _, _, e, -, -, -, h⟩ := hsl
      cases e
      rcases h with ⟨-, h, -⟩ | h
      · omega
      · exact h
    have hnb := HGJ.out.ext _ _ _ hnb0
    obtain ⟨tv, ct, ot, -⟩ := HGJ.out.wf.cell hnb j 0 (by omega) (by rw [wideS]; omega)
    rw [wideS, Nat.mul_one, Nat.add_zero] at ct
    obtain ⟨t, rfl, htz⟩ : StOk tv := by simpa [CellOk] using ot
    obtain ⟨p1, -⟩ := box_at HGJ.out.pbox 1 (by simp)
    simp only [List.getElem_toArray, List.getElem_cons_zero, List.getElem_cons_succ] at p1
    have HFI := hid_of (l2Field_wf wJ.drew σ3 (B.more j) n ky t fa fl fp (HGJ.out.wf.keep fun _ _ _ _ => rfl) hn hky hfl hflp hfpm h4 (by simp only [Bd.more]; omega) (by simp only [Bd.more]; omega))
    have HSB : Hid (∀ W, Below wJ.heap.size wJ W → W.cell? ⟨w.heap.size, 1, none⟩ = some (.slice (some ⟨b2, 0, none⟩) len2 cap2) ∧ W.cell? ⟨b2, kt * 3, none⟩ = some (.string n) ∧ W.cell? ⟨b2, kt * 3 + 1, none⟩ = some (.string ky) ∧ W.cell? ⟨b2, kt * 3 + 2, none⟩ = some (.slice fa fl fp) ∧ W.cell? ⟨w.heap.size + 1, 7, none⟩ = some (.slice (some ⟨nb, 0, none⟩) nl nc) ∧ W.cell? ⟨nb, j, none⟩ = some (.string t) ∧ W.frozen? ⟨b2, kt * 3 + 2, none⟩ = false) := hid_of fun W hW => by
      have hbl := HGJ.out.wf.lt HGJ.out.blk
      have hz := HGJ.out.size
      exact ⟨(hW.cell (p := ⟨w.heap.size, 1, none⟩) (by show w.heap.size < _; omega)).trans p1, (hW.cell (p := ⟨b2, kt * 3, none⟩) hbl).trans r0, (hW.cell (p := ⟨b2, kt * 3 + 1, none⟩) hbl).trans r1, (hW.cell (p := ⟨b2, kt * 3 + 2, none⟩) hbl).trans r2, (hW.cell (p := ⟨w.heap.size + 1, 7, none⟩) (by show w.heap.size + 1 < _; omega)).trans f7, (hW.cell (p := ⟨nb, j, none⟩) (HGJ.out.wf.lt hnb)).trans ct, (hW.frozen (p := ⟨b2, kt * 3 + 2, none⟩) hbl).trans rf2⟩
    go_upto_region 12 with fail
    go_region_held3 (fun w' => w'.cell? ⟨w.heap.size, 1, none⟩ = some (.slice (some ⟨b2, 0, none⟩) len2 cap2) ∧ w'.cell? ⟨b2, kt * 3, none⟩ = some (.string n) ∧ w'.cell? ⟨b2, kt * 3 + 1, none⟩ = some (.string ky) ∧ w'.cell? ⟨b2, kt * 3 + 2, none⟩ = some (.slice fa fl fp) ∧ w'.cell? ⟨w.heap.size + 1, 7, none⟩ = some (.slice (some ⟨nb, 0, none⟩) nl nc) ∧ w'.cell? ⟨nb, j, none⟩ = some (.string t)) (go_keep)
      (first | (go_at_call 47; refine HFI.out.mono ?_; rintro e wD ⟨k5, rfl, hk51, hk52, hbD⟩; have HGD := hid_of (HGJ.out.below (below_undrew hbD)); obtain ⟨s0, s1, s2, s3, s4, s5, s6⟩ := HSB.out wD (below_undrew hbD)))
    clear HSB r0 r1 r2 rf2 p1 f7 ct HFI HGJ hbD
    by_cases hk5 : k5 < 0
    · have r2 := s3
      have rf2 := s6
      have ct := s5
      have HSD : Hid (∀ W, Below wD.heap.size wD W → W.cell? ⟨w.heap.size, 1, none⟩ = some (.slice (some ⟨b2, 0, none⟩) len2 cap2) ∧ W.cell? ⟨w.heap.size + 1, 7, none⟩ = some (.slice (some ⟨nb, 0, none⟩) nl nc) ∧ W.cell? ⟨nb, j, none⟩ = some (.string t)) := hid_of fun W hW => by
        have hG := HGD.out.below hW
        exact ⟨(box_at hG.pbox 1 (by simp)).1, (box_at hG.fbox 7 (by simp)).1, (hW.cell (p := ⟨nb, j, none⟩) (HGD.out.wf.lt hnb)).trans ct⟩
      have HCL : Hid (∀ W, Below wD.heap.size wD W → W.cell? ⟨b2, kt * 3 + 2, none⟩ = some (.slice fa fl fp)) := hid_of fun W hW => (hW.cell (p := ⟨b2, kt * 3 + 2, none⟩) (HGD.out.wf.lt HGD.out.blk)).trans r2
      have HWW : Hid (∀ W, Below wD.heap.size wD W → Wf W σ3 (B.more j)) := hid_of fun W hW => HGD.out.wf.below hW
      have HROW : Hid (∀ W, Below wD.heap.size wD W → ∀ W', W.grownBy W' (Value.slice fa fl fp).ownBlock → ∀ x, x < wD.heap.size → (∀ c, σ3 x ≠ some (37, c)) → W'.heap[x]? = wD.heap[x]?) := hid_of fun W hW W' hg x hx hn => (hg.block x (Nat.lt_of_lt_of_le hx hW.size) (fun e => by
        rcases h4 with ⟨rfl, -, -⟩ | ⟨fb, rfl, hfb⟩
        · cases e
        · cases e; exact hn _ hfb)).trans (hW.block x hx)
      have hszD := HGD.out.size
      have HSF : Hid (∀ W, Below wD.heap.size wD W → ∀ W', W.grownBy W' (Value.slice fa fl fp).ownBlock → W'.cell? ⟨w.heap.size, 1, none⟩ = some (.slice (some ⟨b2, 0, none⟩) len2 cap2) ∧ W'.cell? ⟨w.heap.size + 1, 7, none⟩ = some (.slice (some ⟨nb, 0, none⟩) nl nc) ∧ W'.cell? ⟨nb, j, none⟩ = some (.string t)) := hid_of fun W hW W' hg => by
        have kk := HROW.out W hW W' hg
        exact ⟨(box_at ((kk _ (by omega) (fun c => by rw [HGD.out.n0]; simp)).trans HGD.out.pbox) 1 (by simp)).1, (box_at ((kk _ (by omega) (fun c => by rw [HGD.out.n1]; simp)).trans HGD.out.fbox) 7 (by simp)).1, (World.cell?_of_block (a := ⟨nb, j, none⟩) (kk nb (HGD.out.wf.lt hnb) (fun c => by rw [hnb]; simp))).trans ct⟩
      have HBT : Hid (∀ W, Below wD.heap.size wD W → ∀ W', W.grownBy W' (Value.slice fa fl fp).ownBlock → W'.cell? ⟨b2, kt * 3 + 2, none⟩ = some (.slice fa fl fp) ∧ W'.frozen? ⟨b2, kt * 3 + 2, none⟩ = false) := hid_of fun W hW W' hg => by
        have kk := HROW.out W hW W' hg b2 (HGD.out.wf.lt HGD.out.blk) (fun c => by rw [HGD.out.blk]; simp)
        exact ⟨(World.cell?_of_block (a := ⟨b2, kt * 3 + 2, none⟩) kk).trans r2, (World.frozen?_of_block (a := ⟨b2, kt * 3 + 2, none⟩) kk).trans rf2⟩
      have HST : Hid (∀ W, Below wD.heap.size wD W → ∀ W', W.grownBy W' (Value.slice fa fl fp).ownBlock → ∀ v, (W'.setCell ⟨b2, kt * 3 + 2, none⟩ v).cell? ⟨w.heap.size, 1, none⟩ = some (.slice (some ⟨b2, 0, none⟩) len2 cap2) ∧ (W'.setCell ⟨b2, kt * 3 + 2, none⟩ v).cell? ⟨w.heap.size + 1, 7, none⟩ = some (.slice (some ⟨nb, 0, none⟩) nl nc) ∧ (W'.setCell ⟨b2, kt * 3 + 2, none⟩ v).cell? ⟨nb, j, none⟩ = some (.string t)) := hid_of fun W hW W' hg v => by
        have hc : ∀ x o, x ≠ b2 → (W'.setCell ⟨b2, kt * 3 + 2, none⟩ v).cell? ⟨x, o, none⟩ = W'.cell? ⟨x, o, none⟩ := fun x o hx => World.cell?_of_block (a := ⟨x, o, none⟩) (Below.heap_setCell _ _ _ _ hx)
        have m0 : w.heap.size ≠ b2 := fun e => by have h0 := HGD.out.blk; rw [← e, HGD.out.n0] at h0; cases h0
        have m1 : w.heap.size + 1 ≠ b2 := fun e => by have h0 := HGD.out.blk; rw [← e, HGD.out.n1] at h0; cases h0
        have m2 : nb ≠ b2 := fun e => by have h0 := HGD.out.blk; rw [← e, hnb] at h0; simp at h0
        obtain ⟨g1, g2, g3⟩ := HSF.out W hW W' hg
        exact ⟨(hc _ _ m0).trans g1, (hc _ _ m1).trans g2, (hc _ _ m2).trans g3⟩
      have HOK := hid_of (cells_list (T := 37) (cs := #[.string t, .string ⟨#[105, 110, 116]⟩, .bool false, .bool false, .bool true, .bool false, .bool false, .slice none 0 0]) rfl (fieldCells σ3 (B.more j) t ⟨#[105, 110, 116]⟩ false false true false false (.slice none 0 0) htz (by decide) (sl_nil _ _ _)))
      have HEND : Hid (∀ W, Below wD.heap.size wD W → ∀ W' gF capF σF, Wf W' σF (B.more j) → σF gF = some (37, capF) → fl + 1 ≤ capF → capF ≤ maxLen → Ext σ3 σF → (∀ x, x < W.heap.size → σF x = σ3 x) → W.grownBy W' (Value.slice fa fl fp).ownBlock → GSt w σ B s #[.string fn, .string fo, .bool l, .bool m, .bool fr, .bool h, .bool sh, .slice (some ⟨nb, 0, none⟩) nl nc] len nm (W'.setCell ⟨b2, kt * 3 + 2, none⟩ (.slice (some ⟨gF, 0, none⟩) (fl + 1) capF)) σF (B.more (j + 1)) b2 len2 cap2) := hid_of fun W hW W' gF capF σF q1 q2 q3 q4 q5 q6 q7 =>
        (HGD.out.grow hW h4 q1 q5 q6 q7).app (k := kt) q2 q3 q4 (Bd.more_le _ _ _ (by omega)) (by simp only [Bd.more] at hfl ⊢; omega)
      clear s0 s1 s2 s3 s4 s5 s6 r2 rf2 ct HROW
      go_upto_region 13 with fail
      refine wp_region_held_drew (S := (fun w' => w'.cell? ⟨w.heap.size, 1, none⟩ = some (.slice (some ⟨b2, 0, none⟩) len2 cap2) ∧ w'.cell? ⟨w.heap.size + 1, 7, none⟩ = some (.slice (some ⟨nb, 0, none⟩) nl nc) ∧ w'.cell? ⟨nb, j, none⟩ = some (.string t))) (by kernel_rfl) (HSD.out _ (Below.refl _ _).drew) (fun hHeld => ?_)
      have bX : Below wD.heap.size wD wD.drew := (Below.refl _ _).drew
      generalize wD.drew = wE0 at *
      refine tkH 0 hHeld ?_
      refine tkH 1 hHeld ?_
      refine tkH 2 hHeld ?_
      refine tkH 3 hHeld ?_
      refine tkH 4 hHeld ?_
      refine tkH 5 hHeld ?_
      refine tkH 6 hHeld ?_
      refine tkH 7 hHeld ?_
      refine tkH 9 hHeld ?_
      refine tkH 10 hHeld ?_
      refine tkH 11 hHeld ?_
      refine tkH 12 hHeld ?_
      refine tkH 13 hHeld ?_
      refine tkH 14 hHeld ?_
      refine rdyH [8, 15] ?_
      refine rcH (fun K hK => ?_) ?_
      · have c1 := HCL.out wE0 bX
        go_simp
        clear c1
        refine hK.out _ _ (HSD.out _ bX) (fun hHeld => ?_)
        clear hK K
        try simp only [Act.put, List.setIfInBounds_toArray, List.set_cons_zero, List.set_cons_succ]
        refine rdyH [15] ?_
        refine rcH (fun K hK => ?_) AllReadyH.nil
        go_simp
        have bE := below_box wE0 (.cells #[.string t, .string ⟨#[105, 110, 116]⟩, .bool false, .bool false, .bool true, .bool false, .bool false, .slice none 0 0] 37)
        obtain ⟨gE, hgE⟩ : ∃ g, g = wE0.heap.size := ⟨_, rfl⟩
        have nE := block_new (w := wE0) (N := gE) #[.string t, .string ⟨#[105, 110, 116]⟩, .bool false, .bool false, .bool true, .bool false, .bool false, .slice none 0 0] 37 hgE.symm
        have bX := bX.trans (bE.mono bX.size)
        refine hK.out _ _ (HSD.out _ bX) (fun hHeld => ?_)
        clear hK K
        try simp only [Act.put, List.setIfInBounds_toArray, List.set_cons_zero, List.set_cons_succ]
        rw [← hgE]
        generalize wE0.alloc (.cells #[.string t, .string ⟨#[105, 110, 116]⟩, .bool false, .bool false, .bool true, .bool false, .bool false, .slice none 0 0] 37) = wE at *
        clear hgE bE
        refine rdyH [16] ?_
        refine rcH (fun K hK => ?_) AllReadyH.nil
        refine step_append_wf (HWW.out wE bX) rfl (.tmp 78) (.tmp 85) 46 rfl 37 iF _ 64 Try.underlying46 hiF hzF hsF hbF rfl (zeroF _ _) fa fl fp rfl hflp hfpm h4 ⟨gE, 0, none⟩ 1 1 [.string t, .string ⟨#[105, 110, 116]⟩, .bool false, .bool false, .bool true, .bool false, .bool false, .slice none 0 0] rfl rfl (World.news_of_block nE) (by intro u hu; simp at hu; rcases hu with rfl | rfl | rfl | rfl | rfl | rfl | rfl | rfl <;> rfl) HOK.out (by omega) (by unfold maxLen; omega) (by omega) ?_
        intro gF capF wF σF q1 q2 q3 q4 q5 q6 q7 q8 q9
        have HQ := hid_of (And.intro q1 (And.intro q2 (And.intro q5 (And.intro q6 q7))))
        clear q1 q2 q5 q6 q7 q8 q9
        refine hK.out _ _ (HSF.out _ bX _ HQ.out.2.2.2.2) (fun hHeld => ?_)
        clear hK K
        try simp only [Act.put, List.setIfInBounds_toArray, List.set_cons_zero, List.set_cons_succ]
        refine tkH 17 hHeld ?_
        refine tkH 18 hHeld ?_
        refine rdyH [19] ?_
        refine rcH (fun K hK => ?_) AllReadyH.nil
        obtain ⟨c1, z1⟩ := HBT.out _ bX _ HQ.out.2.2.2.2
        go_simp
        clear c1 z1
        refine hK.out _ _ (HST.out _ bX _ HQ.out.2.2.2.2 _) (fun hHeld => ?_)
        clear hK K
        try simp only [Act.put, List.setIfInBounds_toArray, List.set_cons_zero, List.set_cons_succ]
        refine wpAnyH_done (by kernel_rfl) ?_ _
        have HFIN := hid_of (HEND.out _ bX _ gF capF σF HQ.out.1 HQ.out.2.1 q3 q4 HQ.out.2.2.1 HQ.out.2.2.2.1 HQ.out.2.2.2.2)
        clear HEND
        go_wp2_with fail
        exact ⟨⟨j + 1, σF, by omega, by go_num, HFIN⟩, by simp [intOf]; omega⟩
      refine rcH (fun K hK => ?_) AllReadyH.nil
      go_simp
      have bE := below_box wE0 (.cells #[.string t, .string ⟨#[105, 110, 116]⟩, .bool false, .bool false, .bool true, .bool false, .bool false, .slice none 0 0] 37)
      obtain ⟨gE, hgE⟩ : ∃ g, g = wE0.heap.size := ⟨_, rfl⟩
      have nE := block_new (w := wE0) (N := gE) #[.string t, .string ⟨#[105, 110, 116]⟩, .bool false, .bool false, .bool true, .bool false, .bool false, .slice none 0 0] 37 hgE.symm
      have bX := bX.trans (bE.mono bX.size)
      refine hK.out _ _ (HSD.out _ bX) (fun hHeld => ?_)
      clear hK K
      try simp only [Act.put, List.setIfInBounds_toArray, List.set_cons_zero, List.set_cons_succ]
      rw [← hgE]
      generalize wE0.alloc (.cells #[.string t, .string ⟨#[105, 110, 116]⟩, .bool false, .bool false, .bool true, .bool false, .bool false, .slice none 0 0] 37) = wE at *
      clear hgE bE
      refine rdyH [8] ?_
      refine rcH (fun K hK => ?_) AllReadyH.nil
      have c1 := HCL.out wE bX
      go_simp
      clear c1
      refine hK.out _ _ (HSD.out _ bX) (fun hHeld => ?_)
      clear hK K
      try simp only [Act.put, List.setIfInBounds_toArray, List.set_cons_zero, List.set_cons_succ]
      refine rdyH [16] ?_
      refine rcH (fun K hK => ?_) AllReadyH.nil
      refine step_append_wf (HWW.out wE bX) rfl (.tmp 78) (.tmp 85) 46 rfl 37 iF _ 64 Try.underlying46 hiF hzF hsF hbF rfl (zeroF _ _) fa fl fp rfl hflp hfpm h4 ⟨gE, 0, none⟩ 1 1 [.string t, .string ⟨#[105, 110, 116]⟩, .bool false, .bool false, .bool true, .bool false, .bool false, .slice none 0 0] rfl rfl (World.news_of_block nE) (by intro u hu; simp at hu; rcases hu with rfl | rfl | rfl | rfl | rfl | rfl | rfl | rfl <;> rfl) HOK.out (by omega) (by unfold maxLen; omega) (by omega) ?_
      intro gF capF wF σF q1 q2 q3 q4 q5 q6 q7 q8 q9
      have HQ := hid_of (And.intro q1 (And.intro q2 (And.intro q5 (And.intro q6 q7))))
      clear q1 q2 q5 q6 q7 q8 q9
      refine hK.out _ _ (HSF.out _ bX _ HQ.out.2.2.2.2) (fun hHeld => ?_)
      clear hK K
      try simp only [Act.put, List.setIfInBounds_toArray, List.set_cons_zero, List.set_cons_succ]
      refine tkH 17 hHeld ?_
      refine tkH 18 hHeld ?_
      refine rdyH [19] ?_
      refine rcH (fun K hK => ?_) AllReadyH.nil
      obtain ⟨c1, z1⟩ := HBT.out _ bX _ HQ.out.2.2.2.2
      go_simp
      clear c1 z1
      refine hK.out _ _ (HST.out _ bX _ HQ.out.2.2.2.2 _) (fun hHeld => ?_)
      clear hK K
      try simp only [Act.put, List.setIfInBounds_toArray, List.set_cons_zero, List.set_cons_succ]
      refine wpAnyH_done (by kernel_rfl) ?_ _
      have HFIN := hid_of (HEND.out _ bX _ gF capF σF HQ.out.1 HQ.out.2.1 q3 q4 HQ.out.2.2.1 HQ.out.2.2.2.1 HQ.out.2.2.2.2)
      clear HEND
      go_wp2_with fail
      exact ⟨⟨j + 1, σF, by omega, by go_num, HFIN⟩, by simp [intOf]; omega⟩
    · have hk5' : ¬ k5 < 0 := hk5
      go_wp2_with fail
      exact ⟨⟨j + 1, σ3, by omega, by go_num, hid_of (HGD.out.le' (Bd.more_le _ _ _ (by omega)))⟩, by simp [intOf]; omega⟩
end Go.Proofs.Ytdohgkokoicjlaa
