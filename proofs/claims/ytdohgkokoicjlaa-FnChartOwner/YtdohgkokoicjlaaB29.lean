import Derived.Test.YtdohgkokoicjlaaB1
import Derived.Test.YtdohgkokoicjlaaB24
import Derived.Test.YtdohgkokoicjlaaB12
import Derived.Deep.RegionHeld3
import Derived.BigRegion
set_option linter.unusedSimpArgs false
set_option linter.unusedVariables false
namespace Go.Proofs.Ytdohgkokoicjlaa
open Go.RowKit Go.Maps
attribute [local go_sem] Oper.semAt_some
def bdS : Bd := ⟨0, 121, 2, false⟩
def bdC : Bd := ⟨0, 119, 1, false⟩
theorem bdCS : bdC.le bdS := ⟨Nat.le_refl _, by decide, by decide, id⟩
theorem spResult (FW : World) (tmps : Array Value) (N : Nat) (v0 v1 : Value) (h4 : tmps.getD 4 undef = .pointer (some ⟨N, 0, none⟩))
    (d0 : FW.cell? ⟨N, 0, none⟩ = some v0) (d1 : FW.cell? ⟨N, 1, none⟩ = some v1) :
    (results Try.f34 tmps).run Try.prog FW = .ok (.agg #[v0, v1]) FW := by
  simp only [Array.getD_eq_getD_getElem?] at h4
  simp [results, Try.results34, go_sem, h4, d0, d1]
theorem strList {σ : Sh} {B : Bd} {s : ByteArray} (h : s.size ≤ 12) : ∀ j u, ([.string s] : List Value)[j]? = some u → CellOk σ B 9 (j % wide 9) u := fun j u hu => by
  rcases j with _ | j
  · simp at hu; subst hu; simp [CellOk, StOk]; exact h
  · simp at hu
theorem Wf.list8 {w : World} {σ : Sh} {B : Bd} (h : Wf w σ B) {b n : Nat} (hb : σ b = some (37, n)) (k : Nat) (hk : k ≤ n) : ∃ L : List Value, L.length = k * 8 ∧ (∀ j u, L[j]? = some u → w.cell? ((⟨b, 0, none⟩ : Addr).add j) = some u) ∧ (∀ u ∈ L, u.oneCell' = true) ∧ ∀ j u, L[j]? = some u → CellOk σ B 37 (j % wide 37) u := by
  obtain ⟨cur, h1, h2, h3⟩ := h b _ n hb
  rw [wideF] at h2
  have hc : ∀ j u, (cur.toList.take (k * 8))[j]? = some u → cur[j]? = some u := fun j u hu => by
    rw [List.getElem?_take] at hu
    split at hu
    · simpa using hu
    · cases hu
  have hok : ∀ j u, (cur.toList.take (k * 8))[j]? = some u → CellOk σ B 37 (j % wide 37) u := fun j u hu => h3 j u (hc j u hu)
  refine ⟨cur.toList.take (k * 8), by rw [List.length_take, Array.length_toList]; omega, fun j u hu => ?_, fun u hu => ?_, hok⟩
  · rw [Addr.add_lit, Nat.zero_add, cell_of_row _ _ _ _ _ _ h1]; exact hc j u hu
  · obtain ⟨j, hj⟩ := List.getElem?_of_mem hu
    have := hok j u hj
    unfold CellOk at this
    rw [if_pos rfl] at this
    split at this
    · obtain ⟨s, rfl, -⟩ := this; rfl
    · split at this
      · obtain ⟨s, rfl⟩ := this; rfl
      · obtain ⟨a, n, c, rfl, -⟩ := this; rfl
theorem of_lit (W : World) (rb cb q : Nat) (hR : RdOk W rb cb q) (hq : q ≤ 100000) (ns : List ByteArray) (h0 : 0 < ns.length) (hl : ns.length ≤ 10) (hs : ∀ s ∈ ns, s.size ≤ 12) :
    Calls Try.prog 19 #[.pointer (some ⟨rb, 0, none⟩), .slice (some ⟨W.heap.size, 0, none⟩) ns.length ns.length] (W.alloc (.cells (ns.map Value.string).toArray 9)) fun e w' => ∃ s : ByteArray, e = .returned (.string s) ∧ s.size ≤ 12 ∧ RdOk w' rb cb (q + 1) ∧ Only (· = rb) W w' := by
  have hb := block_new (w := W) (ns.map Value.string).toArray 9 rfl
  have hn : ∀ i, i < ns.length → (nth ns i) ∈ ns := fun i hi => by simp [nth, List.getD_eq_getElem?_getD, hi]
  have hS : Strs (W.alloc (.cells (ns.map Value.string).toArray 9)) (· = W.heap.size) ns (some ⟨W.heap.size, 0, none⟩) := by
    refine ⟨fun _ => ⟨_, 0, rfl, rfl, fun i hi => ?_⟩, fun i => ?_, by unfold maxLen; omega⟩
    · rw [Nat.zero_add, cell_of_row _ _ _ _ _ _ hb]
      simp [nth, List.getD_eq_getElem?_getD, hi]
    · by_cases hi : i < ns.length
      · have := hs _ (hn i hi); unfold maxLen; omega
      · simp [nth, List.getD_eq_getElem?_getD, hi]
  refine (of_any _ rb cb q ns _ ns.length (· = W.heap.size) (hR.only (Only.of_below (fun _ => False) (below_box _ _)) id id) (by omega) hS (fun b hb => by have hb : b = W.heap.size := hb; have := hR.lt.1; subst hb; exact ⟨by simp, by omega⟩) h0 (by omega)).mono ?_
  rintro e w' ⟨k, hk, rfl, h1, h2, h3⟩
  exact ⟨_, rfl, hs _ (hn k hk), h1, (Only.of_below _ (below_box _ _)).trans h2 fun _ _ q => q⟩
theorem XSt.start {w w2 : World} {rb cb q : Nat} {pbox : Array Value} {nm : ByteArray} {n : Nat} (hR : RdOk w rb cb q) (hs : nm.size ≤ 12) (hn : 1 ≤ n) (e : Ending)
    (h : CPEnd ((w.alloc (.cells pbox 25)).alloc (.cells #[.string ⟨#[]⟩, .slice none 0 0] 25)) nm n 119 e w2) :
    ∃ (σ : Sh) (tb cap : Nat), e = .returned (.agg #[.string nm, .slice (some ⟨tb, 0, none⟩) n cap]) ∧ XSt w rb cb w2.heap.size (w2.alloc (.cells #[.string nm, .slice (some ⟨tb, 0, none⟩) n cap] 25)) σ bdC q nm tb n cap := by
  obtain ⟨σ, xa, xc, rfl, hW, hnw, hsl, hle, hcm, hb⟩ := h
  rcases hsl with ⟨-, h0, -⟩ | ⟨tb, rfl, htb⟩
  · omega
  have hz := hb.size
  simp at hz
  have b0 : Below w.heap.size w w2 := (below_box2 w _ _).trans (hb.mono (by simp; omega))
  have b1 : Below w.heap.size w (w2.alloc (.cells #[.string nm, .slice (some ⟨tb, 0, none⟩) n xc] 25)) := b0.alloc (by omega) _
  have hrb : w2.heap[w.heap.size + 1]? = some (.cells #[.string ⟨#[]⟩, .slice none 0 0] 25 (0, 0)) := (hb.block _ (by simp)).trans (block_new _ _ (by simp))
  have hnew : ∀ b T m, σ b = some (T, m) → w.heap.size + 1 + 1 ≤ b := fun b T m hb => by have := hnw b T m hb; simpa using this
  refine ⟨σ, tb, xc, rfl, hR.only (Only.of_below (fun _ => False) b1) id id, ((below_box w2 _).block _ (by omega)).trans hrb, block_new _ _ rfl, by omega, hW.below (below_box _ _), fun b T m hb' => ⟨by have := hnew b T m hb'; omega, fun e => ?_⟩, htb, hle, hcm, Only.of_below _ b1, hR.lt.1, hR.lt.2.1, hs⟩
  have := hW.lt hb'
  omega
set_option maxRecDepth 20000 in
set_option maxHeartbeats 12800000 in
theorem l11SpoilPart_any (w : World) (rb cb q : Nat) (p : Pt) (ta : Option Addr) (tc : Nat) (hR : RdOk w rb cb q) (hq : q ≤ 20000) (hP : PRep w (· < w.heap.size) p (.agg #[.string p.name, .slice ta p.types.length tc])) (hn1 : 1 ≤ p.types.length) (hn : p.types.length ≤ 113) (hsm : ∀ i, SmT 119 1 (tth p.types i)) (hnm : p.name.size ≤ 12) :
    Calls Try.prog 34 #[.pointer (some ⟨rb, 0, none⟩), .agg #[.string p.name, .slice ta p.types.length tc]] w (SpEnd w rb cb) := by
  have HCP : Hid (Calls Try.prog 57 #[.agg #[.string p.name, .slice ta p.types.length tc]] ((w.alloc (.cells #[.string p.name, .slice ta p.types.length tc] 25)).alloc (.cells #[.string ⟨#[]⟩, .slice none 0 0] 25)) fun e w2 => ∃ (σ : Sh) (tb cap : Nat), e = .returned (.agg #[.string p.name, .slice (some ⟨tb, 0, none⟩) p.types.length cap]) ∧ Hid (XSt w rb cb w2.heap.size (w2.alloc (.cells #[.string p.name, .slice (some ⟨tb, 0, none⟩) p.types.length cap] 25)) σ bdC q p.name tb p.types.length cap)) := hid_of (by
    refine (l2CopyPart_wf _ p ta tc 119 ((hP.under (below_box2 w _ _)).sub fun k hk => ?_) (by omega) (by omega) hsm).mono fun e w2 h => ?_
    · have hk : k < w.heap.size := hk
      simp; omega
    · obtain ⟨σ, tb, cap, h1, h2⟩ := XSt.start hR hnm hn1 e h
      exact ⟨σ, tb, cap, h1, h2⟩)
  obtain ⟨len, hlen⟩ : ∃ x, x = p.types.length := ⟨_, rfl⟩
  obtain ⟨nm, hnme⟩ : ∃ x, x = p.name := ⟨_, rfl⟩
  rw [← hlen] at HCP hn1 hn ⊢
  rw [← hnme] at HCP hnm ⊢
  clear hP hsm hlen hnme p hR
  go_enter Try.func34, Try.ntmps34
  go_upto_region 2 with (go_at_call 57; refine HCP.out.mono ?_; rintro e w2 ⟨σ, tb, cap, rfl, HX⟩)
  obtain ⟨XB, hXB⟩ : ∃ x, x = w2.heap.size := ⟨_, rfl⟩
  rw [← hXB] at HX
  simp only [← hXB]
  generalize w2.alloc (.cells #[.string nm, .slice (some ⟨tb, 0, none⟩) len cap] 25) = wA at *
  clear HCP hXB
  obtain ⟨x1, -⟩ := box_at HX.out.xb 1 (by simp)
  simp only [List.getElem_toArray, List.getElem_cons_zero, List.getElem_cons_succ] at x1
  have HPK := hid_of (pick_any wA rb cb q len HX.out.rd (by omega) (by omega) (by omega))
  go_upto_region 3 with (go_at_call 33; refine HPK.out.mono ?_; rintro e wB ⟨k, rfl, hk, r1, o1, z1⟩)
  have HX1 := hid_of (HX.out.move r1 o1)
  have hkl : k < len := by omega
  have hkl' : (k : Int) < (len : Int) := by omega
  clear HX HPK hk r1 o1 z1 x1
  obtain ⟨x1, -⟩ := box_at HX1.out.xb 1 (by simp)
  simp only [List.getElem_toArray, List.getElem_cons_zero, List.getElem_cons_succ] at x1
  have hkc : k < cap := by have := HX1.out.le; omega
  obtain ⟨v0, c0, o0, -⟩ := HX1.out.wf.cell HX1.out.blk k 0 hkc (by rw [wideT]; omega)
  obtain ⟨v1, c1, o1, -⟩ := HX1.out.wf.cell HX1.out.blk k 1 hkc (by rw [wideT]; omega)
  obtain ⟨v2, c2, o2, -⟩ := HX1.out.wf.cell HX1.out.blk k 2 hkc (by rw [wideT]; omega)
  rw [wideT] at c0 c1 c2
  rw [Nat.add_zero] at c0
  obtain ⟨tn, rfl, htn, -⟩ : NmOk bdC.st v0 := by simpa [CellOk] using o0
  obtain ⟨tk, rfl, htk⟩ : StOk v1 := by simpa [CellOk] using o1
  obtain ⟨fa, fl, fp, rfl, hf1, hf2, hf3, hf4⟩ : SlOk σ 37 bdC.nf v2 := by simpa [CellOk] using o2
  have hf1' : fl ≤ 119 := hf1
  obtain ⟨hX2, hT2⟩ := HX1.out.newBox (N := wB.heap.size) rfl #[.string tn, .string tk, .slice fa fl fp] 48
  have HX2 := hid_of hX2
  have HT2 := hid_of hT2
  clear hX2 hT2 HX1
  go_upto_region 4 with fail
  obtain ⟨TX, hTX⟩ : ∃ x, x = wB.heap.size := ⟨_, rfl⟩
  rw [← hTX] at HT2
  simp only [← hTX]
  generalize wB.alloc (.cells #[.string tn, .string tk, .slice fa fl fp] 48) = wC at *
  clear x1 c0 c1 c2 o0 o1 o2 hTX
  obtain ⟨b2, -⟩ := box_at HT2.out.box 2 (by simp)
  simp only [List.getElem_toArray, List.getElem_cons_zero, List.getElem_cons_succ] at b2
  have HPK := hid_of (pick_any wC rb cb (q + 1) ((fl : Int) + 1) HX2.out.rd (by omega) (by omega) (by omega))
  go_upto_region 5 with (go_at_call 33; refine HPK.out.mono ?_; rintro e wD ⟨m, rfl, hm, r1, o1, z1⟩)
  have HX3 := hid_of (HX2.out.move r1 o1)
  have HT3 := hid_of (HT2.out.chg HX2.out.rlt (Chg.pick σ o1))
  have hm1 : m < fl + 1 := by omega
  clear HX2 HT2 HPK r1 o1 z1 b2 hm
  obtain ⟨b2, -⟩ := box_at HT3.out.box 2 (by simp)
  simp only [List.getElem_toArray, List.getElem_cons_zero, List.getElem_cons_succ] at b2
  by_cases hmf : m < fl
  case pos =>
    have hmf' : (m : Int) < (fl : Int) := by omega
    obtain ⟨fb, rfl, hfb⟩ : ∃ b, fa = some ⟨b, 0, none⟩ ∧ σ b = some (37, fp) := by
      rcases hf4 with ⟨-, h, -⟩ | h
      · omega
      · exact h
    have hcc := fun j (hj : j < 8) => HX3.out.wf.cell hfb m j (by omega) (by rw [wideF]; exact hj)
    simp only [wideF] at hcc
    obtain ⟨v0, c0, o0, -⟩ := hcc 0 (by omega)
    obtain ⟨v1, c1, o1, -⟩ := hcc 1 (by omega)
    obtain ⟨v2, c2, o2, -⟩ := hcc 2 (by omega)
    obtain ⟨v3, c3, o3, -⟩ := hcc 3 (by omega)
    obtain ⟨v4, c4, o4, -⟩ := hcc 4 (by omega)
    obtain ⟨v5, c5, o5, -⟩ := hcc 5 (by omega)
    obtain ⟨v6, c6, o6, -⟩ := hcc 6 (by omega)
    obtain ⟨v7, c7, o7, -⟩ := hcc 7 (by omega)
    rw [Nat.add_zero] at c0
    obtain ⟨fn, rfl, hfn⟩ : StOk v0 := by simpa [CellOk] using o0
    obtain ⟨fo, rfl, hfo⟩ : StOk v1 := by simpa [CellOk] using o1
    obtain ⟨l, rfl⟩ : BoOk v2 := by simpa [CellOk] using o2
    obtain ⟨mu, rfl⟩ : BoOk v3 := by simpa [CellOk] using o3
    obtain ⟨fr, rfl⟩ : BoOk v4 := by simpa [CellOk] using o4
    obtain ⟨hd, rfl⟩ : BoOk v5 := by simpa [CellOk] using o5
    obtain ⟨sh, rfl⟩ : BoOk v6 := by simpa [CellOk] using o6
    obtain ⟨na, nl, nc, rfl, hs1, hs2, hs3, hs4⟩ : SlOk σ 9 bdC.nn v7 := by simpa [CellOk] using o7
    clear hcc
    obtain ⟨hX4, hF4⟩ := HX3.out.newBox (N := wD.heap.size) rfl #[.string fn, .string fo, .bool l, .bool mu, .bool fr, .bool hd, .bool sh, .slice na nl nc] 37
    have HX4 := hid_of hX4
    have HF4 := hid_of hF4
    have HT4 := hid_of (HT3.out.chg HX3.out.rlt (Chg.below rb σ (below_box wD (.cells #[.string fn, .string fo, .bool l, .bool mu, .bool fr, .bool hd, .bool sh, .slice na nl nc] 37))))
    have hTl := HT3.out.lt
    clear hX4 hF4 HX3 HT3
    go_upto_region 7 with fail
    obtain ⟨FX, hFX⟩ : ∃ x, x = wD.heap.size := ⟨_, rfl⟩
    rw [← hFX] at HF4 hTl
    simp only [← hFX]
    generalize wD.alloc (.cells #[.string fn, .string fo, .bool l, .bool mu, .bool fr, .bool hd, .bool sh, .slice na nl nc] 37) = wE at *
    have hTF : TX ≠ FX := by omega
    clear b2 c0 c1 c2 c3 c4 c5 c6 c7 o0 o1 o2 o3 o4 o5 o6 o7 hFX hTl
    have HPK := hid_of (pick_any wE rb cb (q + 2) 9 HX4.out.rd (by omega) (by omega) (by omega))
    go_upto_region 9 with (go_at_call 33; refine HPK.out.mono ?_; rintro e wG ⟨c, rfl, hc, r1, o1, z1⟩)
    have HX5 := hid_of (HX4.out.move r1 o1)
    have HT5 := hid_of (HT4.out.chg HX4.out.rlt (Chg.pick σ o1))
    have HF5 := hid_of (HF4.out.chg HX4.out.rlt (Chg.pick σ o1))
    have hc9 : c = 0 ∨ c = 1 ∨ c = 2 ∨ c = 3 ∨ c = 4 ∨ c = 5 ∨ c = 6 ∨ c = 7 ∨ c = 8 := by omega
    clear HX4 HT4 HF4 HPK r1 o1 z1 hc
    rcases hc9 with rfl | rfl | rfl | rfl | rfl | rfl | rfl | rfl | rfl
    · have HOF : Hid (Calls Try.prog 19 #[.pointer (some ⟨rb, 0, none⟩), .slice (some ⟨wG.heap.size, 0, none⟩) 5 5] (wG.alloc (.cells #[.string ⟨#[110, 111, 110, 101]⟩, .string ⟨#[113, 117, 101, 114, 121]⟩, .string ⟨#[116, 101, 120, 116]⟩, .string ⟨#[65]⟩, .string ⟨#[117, 115, 101, 114]⟩] 9)) fun e w' => ∃ s : ByteArray, e = .returned (.string s) ∧ s.size ≤ 12 ∧ RdOk w' rb cb (q + 4) ∧ Only (· = rb) wG w') := hid_of (of_lit wG rb cb (q + 3) HX5.out.rd (by omega) [⟨#[110, 111, 110, 101]⟩, ⟨#[113, 117, 101, 114, 121]⟩, ⟨#[116, 101, 120, 116]⟩, ⟨#[65]⟩, ⟨#[117, 115, 101, 114]⟩] (by simp) (by simp) (by intro s hs; simp at hs; rcases hs with rfl | rfl | rfl | rfl | rfl <;> decide))
      go_upto_region 25 with (go_at_call 19; refine HOF.out.mono ?_; rintro e wH ⟨tx, rfl, htx, r2, o2⟩; have HFb := hid_of (HF5.out.chg HX5.out.rlt (Chg.pick σ o2)); obtain ⟨dd, df⟩ := box_at HFb.out.box 1 (by simp); simp only [List.getElem_toArray, List.getElem_cons_zero, List.getElem_cons_succ] at dd)
      have HXb := hid_of (HX5.out.move r2 o2)
      have HTb := hid_of (HT5.out.chg HX5.out.rlt (Chg.pick σ o2))
      have HX := hid_of (HXb.out.boxed HFb.out 1 (.string tx))
      have HF : Hid (Box w (wH.setCell ⟨FX, 1, none⟩ (.string tx)) σ XB FX #[.string fn, .string tx, .bool l, .bool mu, .bool fr, .bool hd, .bool sh, .slice na nl nc] 37) := hid_of (HFb.out.set 1 (.string tx))
      have HT := hid_of (HTb.out.other (M := FX) (j := 1) hTF (.string tx))
      generalize wH.setCell ⟨FX, 1, none⟩ (.string tx) = wX at *
      clear HX5 HF5 HT5 HXb HFb HTb r2 o2 dd df HOF
      have HX := hid_of (HX.out.le' bdCS)
      obtain ⟨d0, -⟩ := box_at HF.out.box 0 (by simp)
      obtain ⟨d1, -⟩ := box_at HF.out.box 1 (by simp)
      obtain ⟨d2, -⟩ := box_at HF.out.box 2 (by simp)
      obtain ⟨d3, -⟩ := box_at HF.out.box 3 (by simp)
      obtain ⟨d4, -⟩ := box_at HF.out.box 4 (by simp)
      obtain ⟨d5, -⟩ := box_at HF.out.box 5 (by simp)
      obtain ⟨d6, -⟩ := box_at HF.out.box 6 (by simp)
      obtain ⟨d7, -⟩ := box_at HF.out.box 7 (by simp)
      obtain ⟨b2, -⟩ := box_at HT.out.box 2 (by simp)
      simp only [List.getElem_toArray, List.getElem_cons_zero, List.getElem_cons_succ] at d0 d1 d2 d3 d4 d5 d6 d7 b2
      have hcc := fun j (hj : j < 8) => HX.out.wf.cell hfb m j (by omega) (by rw [wideF]; exact hj)
      simp only [wideF] at hcc
      obtain ⟨e0, g0, -, z0⟩ := hcc 0 (by omega)
      obtain ⟨e1, g1, -, z1⟩ := hcc 1 (by omega)
      obtain ⟨e2, g2, -, z2⟩ := hcc 2 (by omega)
      obtain ⟨e3, g3, -, z3⟩ := hcc 3 (by omega)
      obtain ⟨e4, g4, -, z4⟩ := hcc 4 (by omega)
      obtain ⟨e5, g5, -, z5⟩ := hcc 5 (by omega)
      obtain ⟨e6, g6, -, z6⟩ := hcc 6 (by omega)
      obtain ⟨e7, g7, -, z7⟩ := hcc 7 (by omega)
      rw [Nat.add_zero] at g0 z0
      clear hcc
      obtain ⟨Y, hY, hX6, hB6⟩ : ∃ Y, Y = ((((((((wX.setCell ⟨fb, m * 8, none⟩ (.string fn)).setCell ⟨fb, m * 8 + 1, none⟩ (.string tx)).setCell ⟨fb, m * 8 + 2, none⟩ (.bool l)).setCell ⟨fb, m * 8 + 3, none⟩ (.bool mu)).setCell ⟨fb, m * 8 + 4, none⟩ (.bool fr)).setCell ⟨fb, m * 8 + 5, none⟩ (.bool hd)).setCell ⟨fb, m * 8 + 6, none⟩ (.bool sh)).setCell ⟨fb, m * 8 + 7, none⟩ (.slice na nl nc)) ∧ XSt w rb cb XB Y σ bdS (q + 4) nm tb len cap ∧ ∀ M cs T, Box w wX σ XB M cs T → Box w Y σ XB M cs T := ⟨_, rfl, HX.out.put8 (k := m) hfb fn tx l mu fr hd sh (.slice na nl nc) hfn htx ⟨_, _, _, rfl, Nat.le_trans hs1 (by decide), hs2, hs3, hs4⟩ _ rfl⟩
      have HYE := hid_of hY
      have HX6 := hid_of hX6
      have HT6 := hid_of (hB6 _ _ _ HT.out)
      clear hY hX6 hB6
      go_upto_region 26 with fail
      rw [← HYE.out]
      clear b2 d0 d1 d2 d3 d4 d5 d6 d7 g0 z0 g1 z1 g2 z2 g3 z3 g4 z4 g5 z5 g6 z6 g7 z7 HX HT HF HYE
      obtain ⟨b0, -⟩ := box_at HT6.out.box 0 (by simp)
      obtain ⟨b1, -⟩ := box_at HT6.out.box 1 (by simp)
      obtain ⟨b2, -⟩ := box_at HT6.out.box 2 (by simp)
      obtain ⟨x1, -⟩ := box_at HX6.out.xb 1 (by simp)
      simp only [List.getElem_toArray, List.getElem_cons_zero, List.getElem_cons_succ] at b0 b1 b2 x1
      have hkc : k < cap := by have := HX6.out.le; omega
      have hcc := fun j (hj : j < 3) => HX6.out.wf.cell HX6.out.blk k j hkc (by rw [wideT]; exact hj)
      simp only [wideT] at hcc
      obtain ⟨e0, g0, -, z0⟩ := hcc 0 (by omega)
      obtain ⟨e1, g1, -, z1⟩ := hcc 1 (by omega)
      obtain ⟨e2, g2, -, z2⟩ := hcc 2 (by omega)
      rw [Nat.add_zero] at g0 z0
      clear hcc
      obtain ⟨Z, hZ, hX7⟩ : ∃ Z, Z = (((Y.setCell ⟨tb, k * 3, none⟩ (.string tn)).setCell ⟨tb, k * 3 + 1, none⟩ (.string tk)).setCell ⟨tb, k * 3 + 2, none⟩ (.slice (some ⟨fb, 0, none⟩) fl fp)) ∧ XSt w rb cb XB Z σ bdS (q + 4) nm tb len cap := ⟨_, rfl, HX6.out.put3 k tn tk (.slice (some ⟨fb, 0, none⟩) fl fp) htn rfl htk ⟨_, _, _, rfl, Nat.le_trans hf1 (by decide), hf2, hf3, Or.inr ⟨fb, rfl, hfb⟩⟩ _ rfl⟩
      have HZE := hid_of hZ
      have HX7 := hid_of hX7
      clear hZ hX7
      go_upto_region 27 with fail
      rw [← HZE.out]
      clear b0 b1 b2 x1 g0 g1 g2 z0 z1 z2 HX6 HT6 HZE
      obtain ⟨x0, -⟩ := box_at HX7.out.xb 0 (by simp)
      obtain ⟨x1, -⟩ := box_at HX7.out.xb 1 (by simp)
      obtain ⟨y0, yf0⟩ := box_at HX7.out.rbox 0 (by simp)
      obtain ⟨y1, yf1⟩ := box_at HX7.out.rbox 1 (by simp)
      simp only [List.getElem_toArray, List.getElem_cons_zero, List.getElem_cons_succ] at x0 x1 y0 y1
      go_wp2_with fail
      have hdd := sets2_cells HX7.out.rbox (.string nm) (.slice (some ⟨tb, 0, none⟩) len cap)
      exact bodyPost_ret (spResult _ _ (w.heap.size + 1) (.string nm) (.slice (some ⟨tb, 0, none⟩) len cap) rfl hdd.1 hdd.2) rfl (HX7.out.fin (by decide) (by decide) 0 len cap (by omega) (by omega) HX7.out.le)
    · obtain ⟨dd, df⟩ := box_at HF5.out.box 2 (by simp)
      simp only [List.getElem_toArray, List.getElem_cons_zero, List.getElem_cons_succ] at dd
      have HX := hid_of (HX5.out.boxed HF5.out 2 (.bool (!l)))
      have HF : Hid (Box w (wG.setCell ⟨FX, 2, none⟩ (.bool (!l))) σ XB FX #[.string fn, .string fo, .bool (!l), .bool mu, .bool fr, .bool hd, .bool sh, .slice na nl nc] 37) := hid_of (HF5.out.set 2 (.bool (!l)))
      have HT := hid_of (HT5.out.other (M := FX) (j := 2) hTF (.bool (!l)))
      go_upto_region 25 with fail
      generalize wG.setCell ⟨FX, 2, none⟩ (.bool (!l)) = wX at *
      clear HX5 HF5 HT5 dd df
      have HX := hid_of (HX.out.le' bdCS)
      obtain ⟨d0, -⟩ := box_at HF.out.box 0 (by simp)
      obtain ⟨d1, -⟩ := box_at HF.out.box 1 (by simp)
      obtain ⟨d2, -⟩ := box_at HF.out.box 2 (by simp)
      obtain ⟨d3, -⟩ := box_at HF.out.box 3 (by simp)
      obtain ⟨d4, -⟩ := box_at HF.out.box 4 (by simp)
      obtain ⟨d5, -⟩ := box_at HF.out.box 5 (by simp)
      obtain ⟨d6, -⟩ := box_at HF.out.box 6 (by simp)
      obtain ⟨d7, -⟩ := box_at HF.out.box 7 (by simp)
      obtain ⟨b2, -⟩ := box_at HT.out.box 2 (by simp)
      simp only [List.getElem_toArray, List.getElem_cons_zero, List.getElem_cons_succ] at d0 d1 d2 d3 d4 d5 d6 d7 b2
      have hcc := fun j (hj : j < 8) => HX.out.wf.cell hfb m j (by omega) (by rw [wideF]; exact hj)
      simp only [wideF] at hcc
      obtain ⟨e0, g0, -, z0⟩ := hcc 0 (by omega)
      obtain ⟨e1, g1, -, z1⟩ := hcc 1 (by omega)
      obtain ⟨e2, g2, -, z2⟩ := hcc 2 (by omega)
      obtain ⟨e3, g3, -, z3⟩ := hcc 3 (by omega)
      obtain ⟨e4, g4, -, z4⟩ := hcc 4 (by omega)
      obtain ⟨e5, g5, -, z5⟩ := hcc 5 (by omega)
      obtain ⟨e6, g6, -, z6⟩ := hcc 6 (by omega)
      obtain ⟨e7, g7, -, z7⟩ := hcc 7 (by omega)
      rw [Nat.add_zero] at g0 z0
      clear hcc
      obtain ⟨Y, hY, hX6, hB6⟩ : ∃ Y, Y = ((((((((wX.setCell ⟨fb, m * 8, none⟩ (.string fn)).setCell ⟨fb, m * 8 + 1, none⟩ (.string fo)).setCell ⟨fb, m * 8 + 2, none⟩ (.bool (!l))).setCell ⟨fb, m * 8 + 3, none⟩ (.bool mu)).setCell ⟨fb, m * 8 + 4, none⟩ (.bool fr)).setCell ⟨fb, m * 8 + 5, none⟩ (.bool hd)).setCell ⟨fb, m * 8 + 6, none⟩ (.bool sh)).setCell ⟨fb, m * 8 + 7, none⟩ (.slice na nl nc)) ∧ XSt w rb cb XB Y σ bdS (q + 3) nm tb len cap ∧ ∀ M cs T, Box w wX σ XB M cs T → Box w Y σ XB M cs T := ⟨_, rfl, HX.out.put8 (k := m) hfb fn fo (!l) mu fr hd sh (.slice na nl nc) hfn hfo ⟨_, _, _, rfl, Nat.le_trans hs1 (by decide), hs2, hs3, hs4⟩ _ rfl⟩
      have HYE := hid_of hY
      have HX6 := hid_of hX6
      have HT6 := hid_of (hB6 _ _ _ HT.out)
      clear hY hX6 hB6
      go_upto_region 26 with fail
      rw [← HYE.out]
      clear b2 d0 d1 d2 d3 d4 d5 d6 d7 g0 z0 g1 z1 g2 z2 g3 z3 g4 z4 g5 z5 g6 z6 g7 z7 HX HT HF HYE
      obtain ⟨b0, -⟩ := box_at HT6.out.box 0 (by simp)
      obtain ⟨b1, -⟩ := box_at HT6.out.box 1 (by simp)
      obtain ⟨b2, -⟩ := box_at HT6.out.box 2 (by simp)
      obtain ⟨x1, -⟩ := box_at HX6.out.xb 1 (by simp)
      simp only [List.getElem_toArray, List.getElem_cons_zero, List.getElem_cons_succ] at b0 b1 b2 x1
      have hkc : k < cap := by have := HX6.out.le; omega
      have hcc := fun j (hj : j < 3) => HX6.out.wf.cell HX6.out.blk k j hkc (by rw [wideT]; exact hj)
      simp only [wideT] at hcc
      obtain ⟨e0, g0, -, z0⟩ := hcc 0 (by omega)
      obtain ⟨e1, g1, -, z1⟩ := hcc 1 (by omega)
      obtain ⟨e2, g2, -, z2⟩ := hcc 2 (by omega)
      rw [Nat.add_zero] at g0 z0
      clear hcc
      obtain ⟨Z, hZ, hX7⟩ : ∃ Z, Z = (((Y.setCell ⟨tb, k * 3, none⟩ (.string tn)).setCell ⟨tb, k * 3 + 1, none⟩ (.string tk)).setCell ⟨tb, k * 3 + 2, none⟩ (.slice (some ⟨fb, 0, none⟩) fl fp)) ∧ XSt w rb cb XB Z σ bdS (q + 3) nm tb len cap := ⟨_, rfl, HX6.out.put3 k tn tk (.slice (some ⟨fb, 0, none⟩) fl fp) htn rfl htk ⟨_, _, _, rfl, Nat.le_trans hf1 (by decide), hf2, hf3, Or.inr ⟨fb, rfl, hfb⟩⟩ _ rfl⟩
      have HZE := hid_of hZ
      have HX7 := hid_of hX7
      clear hZ hX7
      go_upto_region 27 with fail
      rw [← HZE.out]
      clear b0 b1 b2 x1 g0 g1 g2 z0 z1 z2 HX6 HT6 HZE
      obtain ⟨x0, -⟩ := box_at HX7.out.xb 0 (by simp)
      obtain ⟨x1, -⟩ := box_at HX7.out.xb 1 (by simp)
      obtain ⟨y0, yf0⟩ := box_at HX7.out.rbox 0 (by simp)
      obtain ⟨y1, yf1⟩ := box_at HX7.out.rbox 1 (by simp)
      simp only [List.getElem_toArray, List.getElem_cons_zero, List.getElem_cons_succ] at x0 x1 y0 y1
      go_wp2_with fail
      have hdd := sets2_cells HX7.out.rbox (.string nm) (.slice (some ⟨tb, 0, none⟩) len cap)
      exact bodyPost_ret (spResult _ _ (w.heap.size + 1) (.string nm) (.slice (some ⟨tb, 0, none⟩) len cap) rfl hdd.1 hdd.2) rfl (HX7.out.fin (by decide) (by decide) 0 len cap (by omega) (by omega) HX7.out.le)
    · obtain ⟨dd, df⟩ := box_at HF5.out.box 3 (by simp)
      simp only [List.getElem_toArray, List.getElem_cons_zero, List.getElem_cons_succ] at dd
      have HX := hid_of (HX5.out.boxed HF5.out 3 (.bool (!mu)))
      have HF : Hid (Box w (wG.setCell ⟨FX, 3, none⟩ (.bool (!mu))) σ XB FX #[.string fn, .string fo, .bool l, .bool (!mu), .bool fr, .bool hd, .bool sh, .slice na nl nc] 37) := hid_of (HF5.out.set 3 (.bool (!mu)))
      have HT := hid_of (HT5.out.other (M := FX) (j := 3) hTF (.bool (!mu)))
      go_upto_region 25 with fail
      generalize wG.setCell ⟨FX, 3, none⟩ (.bool (!mu)) = wX at *
      clear HX5 HF5 HT5 dd df
      have HX := hid_of (HX.out.le' bdCS)
      obtain ⟨d0, -⟩ := box_at HF.out.box 0 (by simp)
      obtain ⟨d1, -⟩ := box_at HF.out.box 1 (by simp)
      obtain ⟨d2, -⟩ := box_at HF.out.box 2 (by simp)
      obtain ⟨d3, -⟩ := box_at HF.out.box 3 (by simp)
      obtain ⟨d4, -⟩ := box_at HF.out.box 4 (by simp)
      obtain ⟨d5, -⟩ := box_at HF.out.box 5 (by simp)
      obtain ⟨d6, -⟩ := box_at HF.out.box 6 (by simp)
      obtain ⟨d7, -⟩ := box_at HF.out.box 7 (by simp)
      obtain ⟨b2, -⟩ := box_at HT.out.box 2 (by simp)
      simp only [List.getElem_toArray, List.getElem_cons_zero, List.getElem_cons_succ] at d0 d1 d2 d3 d4 d5 d6 d7 b2
      have hcc := fun j (hj : j < 8) => HX.out.wf.cell hfb m j (by omega) (by rw [wideF]; exact hj)
      simp only [wideF] at hcc
      obtain ⟨e0, g0, -, z0⟩ := hcc 0 (by omega)
      obtain ⟨e1, g1, -, z1⟩ := hcc 1 (by omega)
      obtain ⟨e2, g2, -, z2⟩ := hcc 2 (by omega)
      obtain ⟨e3, g3, -, z3⟩ := hcc 3 (by omega)
      obtain ⟨e4, g4, -, z4⟩ := hcc 4 (by omega)
      obtain ⟨e5, g5, -, z5⟩ := hcc 5 (by omega)
      obtain ⟨e6, g6, -, z6⟩ := hcc 6 (by omega)
      obtain ⟨e7, g7, -, z7⟩ := hcc 7 (by omega)
      rw [Nat.add_zero] at g0 z0
      clear hcc
      obtain ⟨Y, hY, hX6, hB6⟩ : ∃ Y, Y = ((((((((wX.setCell ⟨fb, m * 8, none⟩ (.string fn)).setCell ⟨fb, m * 8 + 1, none⟩ (.string fo)).setCell ⟨fb, m * 8 + 2, none⟩ (.bool l)).setCell ⟨fb, m * 8 + 3, none⟩ (.bool (!mu))).setCell ⟨fb, m * 8 + 4, none⟩ (.bool fr)).setCell ⟨fb, m * 8 + 5, none⟩ (.bool hd)).setCell ⟨fb, m * 8 + 6, none⟩ (.bool sh)).setCell ⟨fb, m * 8 + 7, none⟩ (.slice na nl nc)) ∧ XSt w rb cb XB Y σ bdS (q + 3) nm tb len cap ∧ ∀ M cs T, Box w wX σ XB M cs T → Box w Y σ XB M cs T := ⟨_, rfl, HX.out.put8 (k := m) hfb fn fo l (!mu) fr hd sh (.slice na nl nc) hfn hfo ⟨_, _, _, rfl, Nat.le_trans hs1 (by decide), hs2, hs3, hs4⟩ _ rfl⟩
      have HYE := hid_of hY
      have HX6 := hid_of hX6
      have HT6 := hid_of (hB6 _ _ _ HT.out)
      clear hY hX6 hB6
      go_upto_region 26 with fail
      rw [← HYE.out]
      clear b2 d0 d1 d2 d3 d4 d5 d6 d7 g0 z0 g1 z1 g2 z2 g3 z3 g4 z4 g5 z5 g6 z6 g7 z7 HX HT HF HYE
      obtain ⟨b0, -⟩ := box_at HT6.out.box 0 (by simp)
      obtain ⟨b1, -⟩ := box_at HT6.out.box 1 (by simp)
      obtain ⟨b2, -⟩ := box_at HT6.out.box 2 (by simp)
      obtain ⟨x1, -⟩ := box_at HX6.out.xb 1 (by simp)
      simp only [List.getElem_toArray, List.getElem_cons_zero, List.getElem_cons_succ] at b0 b1 b2 x1
      have hkc : k < cap := by have := HX6.out.le; omega
      have hcc := fun j (hj : j < 3) => HX6.out.wf.cell HX6.out.blk k j hkc (by rw [wideT]; exact hj)
      simp only [wideT] at hcc
      obtain ⟨e0, g0, -, z0⟩ := hcc 0 (by omega)
      obtain ⟨e1, g1, -, z1⟩ := hcc 1 (by omega)
      obtain ⟨e2, g2, -, z2⟩ := hcc 2 (by omega)
      rw [Nat.add_zero] at g0 z0
      clear hcc
      obtain ⟨Z, hZ, hX7⟩ : ∃ Z, Z = (((Y.setCell ⟨tb, k * 3, none⟩ (.string tn)).setCell ⟨tb, k * 3 + 1, none⟩ (.string tk)).setCell ⟨tb, k * 3 + 2, none⟩ (.slice (some ⟨fb, 0, none⟩) fl fp)) ∧ XSt w rb cb XB Z σ bdS (q + 3) nm tb len cap := ⟨_, rfl, HX6.out.put3 k tn tk (.slice (some ⟨fb, 0, none⟩) fl fp) htn rfl htk ⟨_, _, _, rfl, Nat.le_trans hf1 (by decide), hf2, hf3, Or.inr ⟨fb, rfl, hfb⟩⟩ _ rfl⟩
      have HZE := hid_of hZ
      have HX7 := hid_of hX7
      clear hZ hX7
      go_upto_region 27 with fail
      rw [← HZE.out]
      clear b0 b1 b2 x1 g0 g1 g2 z0 z1 z2 HX6 HT6 HZE
      obtain ⟨x0, -⟩ := box_at HX7.out.xb 0 (by simp)
      obtain ⟨x1, -⟩ := box_at HX7.out.xb 1 (by simp)
      obtain ⟨y0, yf0⟩ := box_at HX7.out.rbox 0 (by simp)
      obtain ⟨y1, yf1⟩ := box_at HX7.out.rbox 1 (by simp)
      simp only [List.getElem_toArray, List.getElem_cons_zero, List.getElem_cons_succ] at x0 x1 y0 y1
      go_wp2_with fail
      have hdd := sets2_cells HX7.out.rbox (.string nm) (.slice (some ⟨tb, 0, none⟩) len cap)
      exact bodyPost_ret (spResult _ _ (w.heap.size + 1) (.string nm) (.slice (some ⟨tb, 0, none⟩) len cap) rfl hdd.1 hdd.2) rfl (HX7.out.fin (by decide) (by decide) 0 len cap (by omega) (by omega) HX7.out.le)
    · obtain ⟨dd, df⟩ := box_at HF5.out.box 4 (by simp)
      simp only [List.getElem_toArray, List.getElem_cons_zero, List.getElem_cons_succ] at dd
      have HX := hid_of (HX5.out.boxed HF5.out 4 (.bool (!fr)))
      have HF : Hid (Box w (wG.setCell ⟨FX, 4, none⟩ (.bool (!fr))) σ XB FX #[.string fn, .string fo, .bool l, .bool mu, .bool (!fr), .bool hd, .bool sh, .slice na nl nc] 37) := hid_of (HF5.out.set 4 (.bool (!fr)))
      have HT := hid_of (HT5.out.other (M := FX) (j := 4) hTF (.bool (!fr)))
      go_upto_region 25 with fail
      generalize wG.setCell ⟨FX, 4, none⟩ (.bool (!fr)) = wX at *
      clear HX5 HF5 HT5 dd df
      have HX := hid_of (HX.out.le' bdCS)
      obtain ⟨d0, -⟩ := box_at HF.out.box 0 (by simp)
      obtain ⟨d1, -⟩ := box_at HF.out.box 1 (by simp)
      obtain ⟨d2, -⟩ := box_at HF.out.box 2 (by simp)
      obtain ⟨d3, -⟩ := box_at HF.out.box 3 (by simp)
      obtain ⟨d4, -⟩ := box_at HF.out.box 4 (by simp)
      obtain ⟨d5, -⟩ := box_at HF.out.box 5 (by simp)
      obtain ⟨d6, -⟩ := box_at HF.out.box 6 (by simp)
      obtain ⟨d7, -⟩ := box_at HF.out.box 7 (by simp)
      obtain ⟨b2, -⟩ := box_at HT.out.box 2 (by simp)
      simp only [List.getElem_toArray, List.getElem_cons_zero, List.getElem_cons_succ] at d0 d1 d2 d3 d4 d5 d6 d7 b2
      have hcc := fun j (hj : j < 8) => HX.out.wf.cell hfb m j (by omega) (by rw [wideF]; exact hj)
      simp only [wideF] at hcc
      obtain ⟨e0, g0, -, z0⟩ := hcc 0 (by omega)
      obtain ⟨e1, g1, -, z1⟩ := hcc 1 (by omega)
      obtain ⟨e2, g2, -, z2⟩ := hcc 2 (by omega)
      obtain ⟨e3, g3, -, z3⟩ := hcc 3 (by omega)
      obtain ⟨e4, g4, -, z4⟩ := hcc 4 (by omega)
      obtain ⟨e5, g5, -, z5⟩ := hcc 5 (by omega)
      obtain ⟨e6, g6, -, z6⟩ := hcc 6 (by omega)
      obtain ⟨e7, g7, -, z7⟩ := hcc 7 (by omega)
      rw [Nat.add_zero] at g0 z0
      clear hcc
      obtain ⟨Y, hY, hX6, hB6⟩ : ∃ Y, Y = ((((((((wX.setCell ⟨fb, m * 8, none⟩ (.string fn)).setCell ⟨fb, m * 8 + 1, none⟩ (.string fo)).setCell ⟨fb, m * 8 + 2, none⟩ (.bool l)).setCell ⟨fb, m * 8 + 3, none⟩ (.bool mu)).setCell ⟨fb, m * 8 + 4, none⟩ (.bool (!fr))).setCell ⟨fb, m * 8 + 5, none⟩ (.bool hd)).setCell ⟨fb, m * 8 + 6, none⟩ (.bool sh)).setCell ⟨fb, m * 8 + 7, none⟩ (.slice na nl nc)) ∧ XSt w rb cb XB Y σ bdS (q + 3) nm tb len cap ∧ ∀ M cs T, Box w wX σ XB M cs T → Box w Y σ XB M cs T := ⟨_, rfl, HX.out.put8 (k := m) hfb fn fo l mu (!fr) hd sh (.slice na nl nc) hfn hfo ⟨_, _, _, rfl, Nat.le_trans hs1 (by decide), hs2, hs3, hs4⟩ _ rfl⟩
      have HYE := hid_of hY
      have HX6 := hid_of hX6
      have HT6 := hid_of (hB6 _ _ _ HT.out)
      clear hY hX6 hB6
      go_upto_region 26 with fail
      rw [← HYE.out]
      clear b2 d0 d1 d2 d3 d4 d5 d6 d7 g0 z0 g1 z1 g2 z2 g3 z3 g4 z4 g5 z5 g6 z6 g7 z7 HX HT HF HYE
      obtain ⟨b0, -⟩ := box_at HT6.out.box 0 (by simp)
      obtain ⟨b1, -⟩ := box_at HT6.out.box 1 (by simp)
      obtain ⟨b2, -⟩ := box_at HT6.out.box 2 (by simp)
      obtain ⟨x1, -⟩ := box_at HX6.out.xb 1 (by simp)
      simp only [List.getElem_toArray, List.getElem_cons_zero, List.getElem_cons_succ] at b0 b1 b2 x1
      have hkc : k < cap := by have := HX6.out.le; omega
      have hcc := fun j (hj : j < 3) => HX6.out.wf.cell HX6.out.blk k j hkc (by rw [wideT]; exact hj)
      simp only [wideT] at hcc
      obtain ⟨e0, g0, -, z0⟩ := hcc 0 (by omega)
      obtain ⟨e1, g1, -, z1⟩ := hcc 1 (by omega)
      obtain ⟨e2, g2, -, z2⟩ := hcc 2 (by omega)
      rw [Nat.add_zero] at g0 z0
      clear hcc
      obtain ⟨Z, hZ, hX7⟩ : ∃ Z, Z = (((Y.setCell ⟨tb, k * 3, none⟩ (.string tn)).setCell ⟨tb, k * 3 + 1, none⟩ (.string tk)).setCell ⟨tb, k * 3 + 2, none⟩ (.slice (some ⟨fb, 0, none⟩) fl fp)) ∧ XSt w rb cb XB Z σ bdS (q + 3) nm tb len cap := ⟨_, rfl, HX6.out.put3 k tn tk (.slice (some ⟨fb, 0, none⟩) fl fp) htn rfl htk ⟨_, _, _, rfl, Nat.le_trans hf1 (by decide), hf2, hf3, Or.inr ⟨fb, rfl, hfb⟩⟩ _ rfl⟩
      have HZE := hid_of hZ
      have HX7 := hid_of hX7
      clear hZ hX7
      go_upto_region 27 with fail
      rw [← HZE.out]
      clear b0 b1 b2 x1 g0 g1 g2 z0 z1 z2 HX6 HT6 HZE
      obtain ⟨x0, -⟩ := box_at HX7.out.xb 0 (by simp)
      obtain ⟨x1, -⟩ := box_at HX7.out.xb 1 (by simp)
      obtain ⟨y0, yf0⟩ := box_at HX7.out.rbox 0 (by simp)
      obtain ⟨y1, yf1⟩ := box_at HX7.out.rbox 1 (by simp)
      simp only [List.getElem_toArray, List.getElem_cons_zero, List.getElem_cons_succ] at x0 x1 y0 y1
      go_wp2_with fail
      have hdd := sets2_cells HX7.out.rbox (.string nm) (.slice (some ⟨tb, 0, none⟩) len cap)
      exact bodyPost_ret (spResult _ _ (w.heap.size + 1) (.string nm) (.slice (some ⟨tb, 0, none⟩) len cap) rfl hdd.1 hdd.2) rfl (HX7.out.fin (by decide) (by decide) 0 len cap (by omega) (by omega) HX7.out.le)
    · obtain ⟨i9, hi9, hz9, hs9, hb9⟩ := info_parts info9'
      have hnl1 : nl ≤ 1 := hs1
      have HOFX : Hid (∀ W, RdOk W rb cb (q + 3) → Calls Try.prog 19 #[.pointer (some ⟨rb, 0, none⟩), .slice (some ⟨W.heap.size, 0, none⟩) 4 4] (W.alloc (.cells #[.string ⟨#[97, 103, 101]⟩, .string ⟨#[122, 122]⟩, .string ⟨#[105, 100]⟩, .string ⟨#[112, 114, 105, 99, 101]⟩] 9)) fun e w' => ∃ s : ByteArray, e = .returned (.string s) ∧ s.size ≤ 12 ∧ RdOk w' rb cb (q + 4) ∧ Only (· = rb) W w') := hid_of fun W hW => of_lit W rb cb (q + 3) hW (by omega) [⟨#[97, 103, 101]⟩, ⟨#[122, 122]⟩, ⟨#[105, 100]⟩, ⟨#[112, 114, 105, 99, 101]⟩] (by simp) (by simp) (by intro s hs; simp at hs; rcases hs with rfl | rfl | rfl | rfl <;> decide)
      have HCL : Hid (∀ W, Only (· = rb) wG W → W.cell? ⟨FX, 7, none⟩ = some (.slice na nl nc)) := hid_of fun W hW => (box_at (HF5.out.chg HX5.out.rlt (Chg.pick σ hW)).box 7 (by simp)).1
      have HWW : Hid (∀ W, Only (· = rb) wG W → Wf W σ bdC) := hid_of fun W hW => HX5.out.wf.keep fun b T n hb => hW.block b (HX5.out.wf.lt hb) (by have := (HX5.out.new b T n hb).1; have := HX5.out.rlt; omega)
      have HOWN : Hid (∀ x, (Value.slice na nl nc).ownBlock = some x → ∃ T n, σ x = some (T, n)) := hid_of fun x hx => ⟨_, _, SlIn.own (T := 9) hs4 x hx⟩
      have HRB : Hid (∀ W, Only (· = rb) wG W → ∀ W', W.grownBy W' (Value.slice na nl nc).ownBlock → ∀ x, x < w.heap.size → W'.heap[x]? = W.heap[x]?) := hid_of fun W hW W' hg x hx => hg.block x (by have := hW.size; have := HX5.out.only.size; omega) (fun e => by have := SlIn.own (T := 9) hs4 x e.symm; have := (HX5.out.new _ _ _ this).1; omega)
      go_upto_region 18 with fail
      refine wp_region_held_drew (S := (fun _ => True)) (by kernel_rfl) trivial (fun hHeld => ?_)
      have oX : Only (· = rb) wG wG.drew := ⟨rfl, rfl, rfl, Nat.le_refl _, fun _ _ _ => rfl⟩
      have rX : RdOk wG.drew rb cb (q + 3) := HX5.out.rd.keep rfl rfl (Nat.le_refl _)
      generalize wG.drew = wE0 at *
      refine tkH 0 hHeld ?_
      refine tkH 2 hHeld ?_
      refine rdyH [1, 3] ?_
      refine rcH (fun K hK => ?_) ?_
      · have c1 := HCL.out wE0 oX
        go_simp
        clear c1
        refine hK.out _ _ trivial (fun hHeld => ?_)
        clear hK K
        try simp only [Act.put, List.setIfInBounds_toArray, List.set_cons_zero, List.set_cons_succ]
        refine rdyH [3] ?_
        refine rcH (fun K hK => ?_) AllReadyH.nil
        go_simp
        have HOF := hid_of (HOFX.out wE0 rX)
        have o0X := oX
        have bA := below_box wE0 (.cells #[.string ⟨#[97, 103, 101]⟩, .string ⟨#[122, 122]⟩, .string ⟨#[105, 100]⟩, .string ⟨#[112, 114, 105, 99, 101]⟩] 9)
        have oX := oX.trans (Only.of_below (· = rb) bA) (fun _ _ q => q)
        obtain ⟨gA, hgA⟩ : ∃ g, g = wE0.heap.size := ⟨_, rfl⟩
        rw [← hgA] at HOF
        refine hK.out _ _ trivial (fun hHeld => ?_)
        clear hK K
        try simp only [Act.put, List.setIfInBounds_toArray, List.set_cons_zero, List.set_cons_succ]
        rw [← hgA]
        generalize wE0.alloc (.cells #[.string ⟨#[97, 103, 101]⟩, .string ⟨#[122, 122]⟩, .string ⟨#[105, 100]⟩, .string ⟨#[112, 114, 105, 99, 101]⟩] 9) = wA1 at *
        clear hgA bA
        refine rdyH [4] ?_
        refine rcH (fun K hK => ?_) AllReadyH.nil
        go_simp
        refine HOF.out.mono ?_
        rintro e wC1 ⟨tx, rfl, htx, r2, o2⟩
        have oX := o0X.trans o2 (fun _ _ q => q)
        refine hK.out _ _ trivial (fun hHeld => ?_)
        clear hK K
        try simp only [Act.put, List.setIfInBounds_toArray, List.set_cons_zero, List.set_cons_succ]
        refine rdyH [5] ?_
        refine rcH (fun K hK => ?_) AllReadyH.nil
        go_simp
        have bE := below_box wC1 (.cells #[.string tx] 9)
        obtain ⟨gE, hgE⟩ : ∃ g, g = wC1.heap.size := ⟨_, rfl⟩
        have nE := block_new (w := wC1) (N := gE) #[.string tx] 9 hgE.symm
        have oX := oX.trans (Only.of_below (· = rb) bE) (fun _ _ q => q)
        have r2 := r2.only (Only.of_below (fun _ => False) bE) id id
        refine hK.out _ _ trivial (fun hHeld => ?_)
        clear hK K
        try simp only [Act.put, List.setIfInBounds_toArray, List.set_cons_zero, List.set_cons_succ]
        rw [← hgE]
        generalize wC1.alloc (.cells #[.string tx] 9) = wE1 at *
        clear hgE bE
        refine rdyH [6] ?_
        refine rcH (fun K hK => ?_) AllReadyH.nil
        refine step_append_wf (HWW.out wE1 oX) rfl (.tmp 75) (.tmp 79) 35 rfl 9 i9 _ 16 Try.underlying35 hi9 hz9 hs9 hb9 rfl (zeroS _ _) na nl nc rfl hs2 hs3 hs4 ⟨gE, 0, none⟩ 1 1 [.string tx] rfl rfl (World.news_of_block nE) (by intro u hu; simp at hu; subst hu; rfl) (strList htx) (by omega) (by unfold maxLen; omega) (by omega) ?_
        intro gF capF wF1 σF q1 q2 q3 q4 q5 q6 q7 q8 q9
        have HQ := hid_of (And.intro q1 (And.intro q2 ((Chg.pick σ oX).grown q7 (fun x hx => HOWN.out x hx) q5 q6)))
        have rF := r2.keep (w' := wF1) (HRB.out wE1 oX wF1 q7 rb HX5.out.rlt) (HRB.out wE1 oX wF1 q7 cb HX5.out.clt) q7.size
        clear q1 q2 q5 q6 q7 q8 q9
        refine hK.out _ _ trivial (fun hHeld => ?_)
        clear hK K
        try simp only [Act.put, List.setIfInBounds_toArray, List.set_cons_zero, List.set_cons_succ]
        refine tkH 7 hHeld ?_
        refine rdyH [8] ?_
        refine rcH (fun K hK => ?_) AllReadyH.nil
        obtain ⟨c1, z1⟩ := box_at (HF5.out.chg HX5.out.rlt HQ.out.2.2).box 7 (by simp)
        simp only [List.getElem_toArray, List.getElem_cons_zero, List.getElem_cons_succ] at c1
        go_simp
        clear c1 z1
        refine hK.out _ _ trivial (fun hHeld => ?_)
        clear hK K
        try simp only [Act.put, List.setIfInBounds_toArray, List.set_cons_zero, List.set_cons_succ]
        refine wpAnyH_done (by kernel_rfl) ?_ _
        have HXb := hid_of (HX5.out.chg HQ.out.2.2 HQ.out.1 rF)
        have HFb := hid_of (HF5.out.chg HX5.out.rlt HQ.out.2.2)
        have HTb := hid_of (HT5.out.chg HX5.out.rlt HQ.out.2.2)
        have HX := hid_of (HXb.out.boxed HFb.out 7 (.slice (some ⟨gF, 0, none⟩) (nl + 1) capF))
        have HF : Hid (Box w (wF1.setCell ⟨FX, 7, none⟩ (.slice (some ⟨gF, 0, none⟩) (nl + 1) capF)) σF XB FX #[.string fn, .string fo, .bool l, .bool mu, .bool fr, .bool hd, .bool sh, .slice (some ⟨gF, 0, none⟩) (nl + 1) capF] 37) := hid_of (HFb.out.set 7 (.slice (some ⟨gF, 0, none⟩) (nl + 1) capF))
        have HT := hid_of (HTb.out.other (M := FX) (j := 7) hTF (.slice (some ⟨gF, 0, none⟩) (nl + 1) capF))
        have hQ2 := HQ.out.2.1
        have hEx := HQ.out.2.2.ext
        generalize wF1.setCell ⟨FX, 7, none⟩ (.slice (some ⟨gF, 0, none⟩) (nl + 1) capF) = wX at *
        clear HX5 HF5 HT5 HXb HFb HTb HQ
        have HQ2 := hid_of hQ2
        have HEx := hid_of hEx
        clear hQ2 hEx
        go_upto_region 25 with fail
        have HX := hid_of (HX.out.le' bdCS)
        obtain ⟨d0, -⟩ := box_at HF.out.box 0 (by simp)
        obtain ⟨d1, -⟩ := box_at HF.out.box 1 (by simp)
        obtain ⟨d2, -⟩ := box_at HF.out.box 2 (by simp)
        obtain ⟨d3, -⟩ := box_at HF.out.box 3 (by simp)
        obtain ⟨d4, -⟩ := box_at HF.out.box 4 (by simp)
        obtain ⟨d5, -⟩ := box_at HF.out.box 5 (by simp)
        obtain ⟨d6, -⟩ := box_at HF.out.box 6 (by simp)
        obtain ⟨d7, -⟩ := box_at HF.out.box 7 (by simp)
        obtain ⟨b2, -⟩ := box_at HT.out.box 2 (by simp)
        simp only [List.getElem_toArray, List.getElem_cons_zero, List.getElem_cons_succ] at d0 d1 d2 d3 d4 d5 d6 d7 b2
        have hcc := fun j (hj : j < 8) => HX.out.wf.cell (HEx.out _ _ _ hfb) m j (by omega) (by rw [wideF]; exact hj)
        simp only [wideF] at hcc
        obtain ⟨e0, g0, -, z0⟩ := hcc 0 (by omega)
        obtain ⟨e1, g1, -, z1⟩ := hcc 1 (by omega)
        obtain ⟨e2, g2, -, z2⟩ := hcc 2 (by omega)
        obtain ⟨e3, g3, -, z3⟩ := hcc 3 (by omega)
        obtain ⟨e4, g4, -, z4⟩ := hcc 4 (by omega)
        obtain ⟨e5, g5, -, z5⟩ := hcc 5 (by omega)
        obtain ⟨e6, g6, -, z6⟩ := hcc 6 (by omega)
        obtain ⟨e7, g7, -, z7⟩ := hcc 7 (by omega)
        rw [Nat.add_zero] at g0 z0
        clear hcc
        obtain ⟨Y, hY, hX6, hB6⟩ : ∃ Y, Y = ((((((((wX.setCell ⟨fb, m * 8, none⟩ (.string fn)).setCell ⟨fb, m * 8 + 1, none⟩ (.string fo)).setCell ⟨fb, m * 8 + 2, none⟩ (.bool l)).setCell ⟨fb, m * 8 + 3, none⟩ (.bool mu)).setCell ⟨fb, m * 8 + 4, none⟩ (.bool fr)).setCell ⟨fb, m * 8 + 5, none⟩ (.bool hd)).setCell ⟨fb, m * 8 + 6, none⟩ (.bool sh)).setCell ⟨fb, m * 8 + 7, none⟩ (.slice (some ⟨gF, 0, none⟩) (nl + 1) capF)) ∧ XSt w rb cb XB Y σF bdS (q + 4) nm tb len cap ∧ ∀ M cs T, Box w wX σF XB M cs T → Box w Y σF XB M cs T := ⟨_, rfl, HX.out.put8 (k := m) (HEx.out _ _ _ hfb) fn fo l mu fr hd sh (.slice (some ⟨gF, 0, none⟩) (nl + 1) capF) hfn hfo ⟨_, _, _, rfl, Nat.succ_le_succ hs1, q3, q4, Or.inr ⟨gF, rfl, HQ2.out⟩⟩ _ rfl⟩
        have HYE := hid_of hY
        have HX6 := hid_of hX6
        have HT6 := hid_of (hB6 _ _ _ HT.out)
        clear hY hX6 hB6
        go_upto_region 26 with fail
        rw [← HYE.out]
        clear b2 d0 d1 d2 d3 d4 d5 d6 d7 g0 z0 g1 z1 g2 z2 g3 z3 g4 z4 g5 z5 g6 z6 g7 z7 HX HT HF HYE
        obtain ⟨b0, -⟩ := box_at HT6.out.box 0 (by simp)
        obtain ⟨b1, -⟩ := box_at HT6.out.box 1 (by simp)
        obtain ⟨b2, -⟩ := box_at HT6.out.box 2 (by simp)
        obtain ⟨x1, -⟩ := box_at HX6.out.xb 1 (by simp)
        simp only [List.getElem_toArray, List.getElem_cons_zero, List.getElem_cons_succ] at b0 b1 b2 x1
        have hkc : k < cap := by have := HX6.out.le; omega
        have hcc := fun j (hj : j < 3) => HX6.out.wf.cell HX6.out.blk k j hkc (by rw [wideT]; exact hj)
        simp only [wideT] at hcc
        obtain ⟨e0, g0, -, z0⟩ := hcc 0 (by omega)
        obtain ⟨e1, g1, -, z1⟩ := hcc 1 (by omega)
        obtain ⟨e2, g2, -, z2⟩ := hcc 2 (by omega)
        rw [Nat.add_zero] at g0 z0
        clear hcc
        obtain ⟨Z, hZ, hX7⟩ : ∃ Z, Z = (((Y.setCell ⟨tb, k * 3, none⟩ (.string tn)).setCell ⟨tb, k * 3 + 1, none⟩ (.string tk)).setCell ⟨tb, k * 3 + 2, none⟩ (.slice (some ⟨fb, 0, none⟩) fl fp)) ∧ XSt w rb cb XB Z σF bdS (q + 4) nm tb len cap := ⟨_, rfl, HX6.out.put3 k tn tk (.slice (some ⟨fb, 0, none⟩) fl fp) htn rfl htk ⟨_, _, _, rfl, Nat.le_trans hf1 (by decide), hf2, hf3, Or.inr ⟨fb, rfl, HEx.out _ _ _ hfb⟩⟩ _ rfl⟩
        have HZE := hid_of hZ
        have HX7 := hid_of hX7
        clear hZ hX7
        go_upto_region 27 with fail
        rw [← HZE.out]
        clear b0 b1 b2 x1 g0 g1 g2 z0 z1 z2 HX6 HT6 HZE
        obtain ⟨x0, -⟩ := box_at HX7.out.xb 0 (by simp)
        obtain ⟨x1, -⟩ := box_at HX7.out.xb 1 (by simp)
        obtain ⟨y0, yf0⟩ := box_at HX7.out.rbox 0 (by simp)
        obtain ⟨y1, yf1⟩ := box_at HX7.out.rbox 1 (by simp)
        simp only [List.getElem_toArray, List.getElem_cons_zero, List.getElem_cons_succ] at x0 x1 y0 y1
        go_wp2_with fail
        have hdd := sets2_cells HX7.out.rbox (.string nm) (.slice (some ⟨tb, 0, none⟩) len cap)
        exact bodyPost_ret (spResult _ _ (w.heap.size + 1) (.string nm) (.slice (some ⟨tb, 0, none⟩) len cap) rfl hdd.1 hdd.2) rfl (HX7.out.fin (by decide) (by decide) 0 len cap (by omega) (by omega) HX7.out.le)
      refine rcH (fun K hK => ?_) AllReadyH.nil
      go_simp
      have HOF := hid_of (HOFX.out wE0 rX)
      have o0X := oX
      have bA := below_box wE0 (.cells #[.string ⟨#[97, 103, 101]⟩, .string ⟨#[122, 122]⟩, .string ⟨#[105, 100]⟩, .string ⟨#[112, 114, 105, 99, 101]⟩] 9)
      have oX := oX.trans (Only.of_below (· = rb) bA) (fun _ _ q => q)
      obtain ⟨gA, hgA⟩ : ∃ g, g = wE0.heap.size := ⟨_, rfl⟩
      rw [← hgA] at HOF
      refine hK.out _ _ trivial (fun hHeld => ?_)
      clear hK K
      try simp only [Act.put, List.setIfInBounds_toArray, List.set_cons_zero, List.set_cons_succ]
      rw [← hgA]
      generalize wE0.alloc (.cells #[.string ⟨#[97, 103, 101]⟩, .string ⟨#[122, 122]⟩, .string ⟨#[105, 100]⟩, .string ⟨#[112, 114, 105, 99, 101]⟩] 9) = wA1 at *
      clear hgA bA
      refine rdyH [1, 4] ?_
      refine rcH (fun K hK => ?_) ?_
      · have c1 := HCL.out wA1 oX
        go_simp
        clear c1
        refine hK.out _ _ trivial (fun hHeld => ?_)
        clear hK K
        try simp only [Act.put, List.setIfInBounds_toArray, List.set_cons_zero, List.set_cons_succ]
        refine rdyH [4] ?_
        refine rcH (fun K hK => ?_) AllReadyH.nil
        go_simp
        refine HOF.out.mono ?_
        rintro e wC1 ⟨tx, rfl, htx, r2, o2⟩
        have oX := o0X.trans o2 (fun _ _ q => q)
        refine hK.out _ _ trivial (fun hHeld => ?_)
        clear hK K
        try simp only [Act.put, List.setIfInBounds_toArray, List.set_cons_zero, List.set_cons_succ]
        refine rdyH [5] ?_
        refine rcH (fun K hK => ?_) AllReadyH.nil
        go_simp
        have bE := below_box wC1 (.cells #[.string tx] 9)
        obtain ⟨gE, hgE⟩ : ∃ g, g = wC1.heap.size := ⟨_, rfl⟩
        have nE := block_new (w := wC1) (N := gE) #[.string tx] 9 hgE.symm
        have oX := oX.trans (Only.of_below (· = rb) bE) (fun _ _ q => q)
        have r2 := r2.only (Only.of_below (fun _ => False) bE) id id
        refine hK.out _ _ trivial (fun hHeld => ?_)
        clear hK K
        try simp only [Act.put, List.setIfInBounds_toArray, List.set_cons_zero, List.set_cons_succ]
        rw [← hgE]
        generalize wC1.alloc (.cells #[.string tx] 9) = wE1 at *
        clear hgE bE
        refine rdyH [6] ?_
        refine rcH (fun K hK => ?_) AllReadyH.nil
        refine step_append_wf (HWW.out wE1 oX) rfl (.tmp 75) (.tmp 79) 35 rfl 9 i9 _ 16 Try.underlying35 hi9 hz9 hs9 hb9 rfl (zeroS _ _) na nl nc rfl hs2 hs3 hs4 ⟨gE, 0, none⟩ 1 1 [.string tx] rfl rfl (World.news_of_block nE) (by intro u hu; simp at hu; subst hu; rfl) (strList htx) (by omega) (by unfold maxLen; omega) (by omega) ?_
        intro gF capF wF1 σF q1 q2 q3 q4 q5 q6 q7 q8 q9
        have HQ := hid_of (And.intro q1 (And.intro q2 ((Chg.pick σ oX).grown q7 (fun x hx => HOWN.out x hx) q5 q6)))
        have rF := r2.keep (w' := wF1) (HRB.out wE1 oX wF1 q7 rb HX5.out.rlt) (HRB.out wE1 oX wF1 q7 cb HX5.out.clt) q7.size
        clear q1 q2 q5 q6 q7 q8 q9
        refine hK.out _ _ trivial (fun hHeld => ?_)
        clear hK K
        try simp only [Act.put, List.setIfInBounds_toArray, List.set_cons_zero, List.set_cons_succ]
        refine tkH 7 hHeld ?_
        refine rdyH [8] ?_
        refine rcH (fun K hK => ?_) AllReadyH.nil
        obtain ⟨c1, z1⟩ := box_at (HF5.out.chg HX5.out.rlt HQ.out.2.2).box 7 (by simp)
        simp only [List.getElem_toArray, List.getElem_cons_zero, List.getElem_cons_succ] at c1
        go_simp
        clear c1 z1
        refine hK.out _ _ trivial (fun hHeld => ?_)
        clear hK K
        try simp only [Act.put, List.setIfInBounds_toArray, List.set_cons_zero, List.set_cons_succ]
        refine wpAnyH_done (by kernel_rfl) ?_ _
        have HXb := hid_of (HX5.out.chg HQ.out.2.2 HQ.out.1 rF)
        have HFb := hid_of (HF5.out.chg HX5.out.rlt HQ.out.2.2)
        have HTb := hid_of (HT5.out.chg HX5.out.rlt HQ.out.2.2)
        have HX := hid_of (HXb.out.boxed HFb.out 7 (.slice (some ⟨gF, 0, none⟩) (nl + 1) capF))
        have HF : Hid (Box w (wF1.setCell ⟨FX, 7, none⟩ (.slice (some ⟨gF, 0, none⟩) (nl + 1) capF)) σF XB FX #[.string fn, .string fo, .bool l, .bool mu, .bool fr, .bool hd, .bool sh, .slice (some ⟨gF, 0, none⟩) (nl + 1) capF] 37) := hid_of (HFb.out.set 7 (.slice (some ⟨gF, 0, none⟩) (nl + 1) capF))
        have HT := hid_of (HTb.out.other (M := FX) (j := 7) hTF (.slice (some ⟨gF, 0, none⟩) (nl + 1) capF))
        have hQ2 := HQ.out.2.1
        have hEx := HQ.out.2.2.ext
        generalize wF1.setCell ⟨FX, 7, none⟩ (.slice (some ⟨gF, 0, none⟩) (nl + 1) capF) = wX at *
        clear HX5 HF5 HT5 HXb HFb HTb HQ
        have HQ2 := hid_of hQ2
        have HEx := hid_of hEx
        clear hQ2 hEx
        go_upto_region 25 with fail
        have HX := hid_of (HX.out.le' bdCS)
        obtain ⟨d0, -⟩ := box_at HF.out.box 0 (by simp)
        obtain ⟨d1, -⟩ := box_at HF.out.box 1 (by simp)
        obtain ⟨d2, -⟩ := box_at HF.out.box 2 (by simp)
        obtain ⟨d3, -⟩ := box_at HF.out.box 3 (by simp)
        obtain ⟨d4, -⟩ := box_at HF.out.box 4 (by simp)
        obtain ⟨d5, -⟩ := box_at HF.out.box 5 (by simp)
        obtain ⟨d6, -⟩ := box_at HF.out.box 6 (by simp)
        obtain ⟨d7, -⟩ := box_at HF.out.box 7 (by simp)
        obtain ⟨b2, -⟩ := box_at HT.out.box 2 (by simp)
        simp only [List.getElem_toArray, List.getElem_cons_zero, List.getElem_cons_succ] at d0 d1 d2 d3 d4 d5 d6 d7 b2
        have hcc := fun j (hj : j < 8) => HX.out.wf.cell (HEx.out _ _ _ hfb) m j (by omega) (by rw [wideF]; exact hj)
        simp only [wideF] at hcc
        obtain ⟨e0, g0, -, z0⟩ := hcc 0 (by omega)
        obtain ⟨e1, g1, -, z1⟩ := hcc 1 (by omega)
        obtain ⟨e2, g2, -, z2⟩ := hcc 2 (by omega)
        obtain ⟨e3, g3, -, z3⟩ := hcc 3 (by omega)
        obtain ⟨e4, g4, -, z4⟩ := hcc 4 (by omega)
        obtain ⟨e5, g5, -, z5⟩ := hcc 5 (by omega)
        obtain ⟨e6, g6, -, z6⟩ := hcc 6 (by omega)
        obtain ⟨e7, g7, -, z7⟩ := hcc 7 (by omega)
        rw [Nat.add_zero] at g0 z0
        clear hcc
        obtain ⟨Y, hY, hX6, hB6⟩ : ∃ Y, Y = ((((((((wX.setCell ⟨fb, m * 8, none⟩ (.string fn)).setCell ⟨fb, m * 8 + 1, none⟩ (.string fo)).setCell ⟨fb, m * 8 + 2, none⟩ (.bool l)).setCell ⟨fb, m * 8 + 3, none⟩ (.bool mu)).setCell ⟨fb, m * 8 + 4, none⟩ (.bool fr)).setCell ⟨fb, m * 8 + 5, none⟩ (.bool hd)).setCell ⟨fb, m * 8 + 6, none⟩ (.bool sh)).setCell ⟨fb, m * 8 + 7, none⟩ (.slice (some ⟨gF, 0, none⟩) (nl + 1) capF)) ∧ XSt w rb cb XB Y σF bdS (q + 4) nm tb len cap ∧ ∀ M cs T, Box w wX σF XB M cs T → Box w Y σF XB M cs T := ⟨_, rfl, HX.out.put8 (k := m) (HEx.out _ _ _ hfb) fn fo l mu fr hd sh (.slice (some ⟨gF, 0, none⟩) (nl + 1) capF) hfn hfo ⟨_, _, _, rfl, Nat.succ_le_succ hs1, q3, q4, Or.inr ⟨gF, rfl, HQ2.out⟩⟩ _ rfl⟩
        have HYE := hid_of hY
        have HX6 := hid_of hX6
        have HT6 := hid_of (hB6 _ _ _ HT.out)
        clear hY hX6 hB6
        go_upto_region 26 with fail
        rw [← HYE.out]
        clear b2 d0 d1 d2 d3 d4 d5 d6 d7 g0 z0 g1 z1 g2 z2 g3 z3 g4 z4 g5 z5 g6 z6 g7 z7 HX HT HF HYE
        obtain ⟨b0, -⟩ := box_at HT6.out.box 0 (by simp)
        obtain ⟨b1, -⟩ := box_at HT6.out.box 1 (by simp)
        obtain ⟨b2, -⟩ := box_at HT6.out.box 2 (by simp)
        obtain ⟨x1, -⟩ := box_at HX6.out.xb 1 (by simp)
        simp only [List.getElem_toArray, List.getElem_cons_zero, List.getElem_cons_succ] at b0 b1 b2 x1
        have hkc : k < cap := by have := HX6.out.le; omega
        have hcc := fun j (hj : j < 3) => HX6.out.wf.cell HX6.out.blk k j hkc (by rw [wideT]; exact hj)
        simp only [wideT] at hcc
        obtain ⟨e0, g0, -, z0⟩ := hcc 0 (by omega)
        obtain ⟨e1, g1, -, z1⟩ := hcc 1 (by omega)
        obtain ⟨e2, g2, -, z2⟩ := hcc 2 (by omega)
        rw [Nat.add_zero] at g0 z0
        clear hcc
        obtain ⟨Z, hZ, hX7⟩ : ∃ Z, Z = (((Y.setCell ⟨tb, k * 3, none⟩ (.string tn)).setCell ⟨tb, k * 3 + 1, none⟩ (.string tk)).setCell ⟨tb, k * 3 + 2, none⟩ (.slice (some ⟨fb, 0, none⟩) fl fp)) ∧ XSt w rb cb XB Z σF bdS (q + 4) nm tb len cap := ⟨_, rfl, HX6.out.put3 k tn tk (.slice (some ⟨fb, 0, none⟩) fl fp) htn rfl htk ⟨_, _, _, rfl, Nat.le_trans hf1 (by decide), hf2, hf3, Or.inr ⟨fb, rfl, HEx.out _ _ _ hfb⟩⟩ _ rfl⟩
        have HZE := hid_of hZ
        have HX7 := hid_of hX7
        clear hZ hX7
        go_upto_region 27 with fail
        rw [← HZE.out]
        clear b0 b1 b2 x1 g0 g1 g2 z0 z1 z2 HX6 HT6 HZE
        obtain ⟨x0, -⟩ := box_at HX7.out.xb 0 (by simp)
        obtain ⟨x1, -⟩ := box_at HX7.out.xb 1 (by simp)
        obtain ⟨y0, yf0⟩ := box_at HX7.out.rbox 0 (by simp)
        obtain ⟨y1, yf1⟩ := box_at HX7.out.rbox 1 (by simp)
        simp only [List.getElem_toArray, List.getElem_cons_zero, List.getElem_cons_succ] at x0 x1 y0 y1
        go_wp2_with fail
        have hdd := sets2_cells HX7.out.rbox (.string nm) (.slice (some ⟨tb, 0, none⟩) len cap)
        exact bodyPost_ret (spResult _ _ (w.heap.size + 1) (.string nm) (.slice (some ⟨tb, 0, none⟩) len cap) rfl hdd.1 hdd.2) rfl (HX7.out.fin (by decide) (by decide) 0 len cap (by omega) (by omega) HX7.out.le)
      refine rcH (fun K hK => ?_) AllReadyH.nil
      go_simp
      refine HOF.out.mono ?_
      rintro e wC1 ⟨tx, rfl, htx, r2, o2⟩
      have oX := o0X.trans o2 (fun _ _ q => q)
      refine hK.out _ _ trivial (fun hHeld => ?_)
      clear hK K
      try simp only [Act.put, List.setIfInBounds_toArray, List.set_cons_zero, List.set_cons_succ]
      refine rdyH [1, 5] ?_
      refine rcH (fun K hK => ?_) ?_
      · have c1 := HCL.out wC1 oX
        go_simp
        clear c1
        refine hK.out _ _ trivial (fun hHeld => ?_)
        clear hK K
        try simp only [Act.put, List.setIfInBounds_toArray, List.set_cons_zero, List.set_cons_succ]
        refine rdyH [5] ?_
        refine rcH (fun K hK => ?_) AllReadyH.nil
        go_simp
        have bE := below_box wC1 (.cells #[.string tx] 9)
        obtain ⟨gE, hgE⟩ : ∃ g, g = wC1.heap.size := ⟨_, rfl⟩
        have nE := block_new (w := wC1) (N := gE) #[.string tx] 9 hgE.symm
        have oX := oX.trans (Only.of_below (· = rb) bE) (fun _ _ q => q)
        have r2 := r2.only (Only.of_below (fun _ => False) bE) id id
        refine hK.out _ _ trivial (fun hHeld => ?_)
        clear hK K
        try simp only [Act.put, List.setIfInBounds_toArray, List.set_cons_zero, List.set_cons_succ]
        rw [← hgE]
        generalize wC1.alloc (.cells #[.string tx] 9) = wE1 at *
        clear hgE bE
        refine rdyH [6] ?_
        refine rcH (fun K hK => ?_) AllReadyH.nil
        refine step_append_wf (HWW.out wE1 oX) rfl (.tmp 75) (.tmp 79) 35 rfl 9 i9 _ 16 Try.underlying35 hi9 hz9 hs9 hb9 rfl (zeroS _ _) na nl nc rfl hs2 hs3 hs4 ⟨gE, 0, none⟩ 1 1 [.string tx] rfl rfl (World.news_of_block nE) (by intro u hu; simp at hu; subst hu; rfl) (strList htx) (by omega) (by unfold maxLen; omega) (by omega) ?_
        intro gF capF wF1 σF q1 q2 q3 q4 q5 q6 q7 q8 q9
        have HQ := hid_of (And.intro q1 (And.intro q2 ((Chg.pick σ oX).grown q7 (fun x hx => HOWN.out x hx) q5 q6)))
        have rF := r2.keep (w' := wF1) (HRB.out wE1 oX wF1 q7 rb HX5.out.rlt) (HRB.out wE1 oX wF1 q7 cb HX5.out.clt) q7.size
        clear q1 q2 q5 q6 q7 q8 q9
        refine hK.out _ _ trivial (fun hHeld => ?_)
        clear hK K
        try simp only [Act.put, List.setIfInBounds_toArray, List.set_cons_zero, List.set_cons_succ]
        refine tkH 7 hHeld ?_
        refine rdyH [8] ?_
        refine rcH (fun K hK => ?_) AllReadyH.nil
        obtain ⟨c1, z1⟩ := box_at (HF5.out.chg HX5.out.rlt HQ.out.2.2).box 7 (by simp)
        simp only [List.getElem_toArray, List.getElem_cons_zero, List.getElem_cons_succ] at c1
        go_simp
        clear c1 z1
        refine hK.out _ _ trivial (fun hHeld => ?_)
        clear hK K
        try simp only [Act.put, List.setIfInBounds_toArray, List.set_cons_zero, List.set_cons_succ]
        refine wpAnyH_done (by kernel_rfl) ?_ _
        have HXb := hid_of (HX5.out.chg HQ.out.2.2 HQ.out.1 rF)
        have HFb := hid_of (HF5.out.chg HX5.out.rlt HQ.out.2.2)
        have HTb := hid_of (HT5.out.chg HX5.out.rlt HQ.out.2.2)
        have HX := hid_of (HXb.out.boxed HFb.out 7 (.slice (some ⟨gF, 0, none⟩) (nl + 1) capF))
        have HF : Hid (Box w (wF1.setCell ⟨FX, 7, none⟩ (.slice (some ⟨gF, 0, none⟩) (nl + 1) capF)) σF XB FX #[.string fn, .string fo, .bool l, .bool mu, .bool fr, .bool hd, .bool sh, .slice (some ⟨gF, 0, none⟩) (nl + 1) capF] 37) := hid_of (HFb.out.set 7 (.slice (some ⟨gF, 0, none⟩) (nl + 1) capF))
        have HT := hid_of (HTb.out.other (M := FX) (j := 7) hTF (.slice (some ⟨gF, 0, none⟩) (nl + 1) capF))
        have hQ2 := HQ.out.2.1
        have hEx := HQ.out.2.2.ext
        generalize wF1.setCell ⟨FX, 7, none⟩ (.slice (some ⟨gF, 0, none⟩) (nl + 1) capF) = wX at *
        clear HX5 HF5 HT5 HXb HFb HTb HQ
        have HQ2 := hid_of hQ2
        have HEx := hid_of hEx
        clear hQ2 hEx
        go_upto_region 25 with fail
        have HX := hid_of (HX.out.le' bdCS)
        obtain ⟨d0, -⟩ := box_at HF.out.box 0 (by simp)
        obtain ⟨d1, -⟩ := box_at HF.out.box 1 (by simp)
        obtain ⟨d2, -⟩ := box_at HF.out.box 2 (by simp)
        obtain ⟨d3, -⟩ := box_at HF.out.box 3 (by simp)
        obtain ⟨d4, -⟩ := box_at HF.out.box 4 (by simp)
        obtain ⟨d5, -⟩ := box_at HF.out.box 5 (by simp)
        obtain ⟨d6, -⟩ := box_at HF.out.box 6 (by simp)
        obtain ⟨d7, -⟩ := box_at HF.out.box 7 (by simp)
        obtain ⟨b2, -⟩ := box_at HT.out.box 2 (by simp)
        simp only [List.getElem_toArray, List.getElem_cons_zero, List.getElem_cons_succ] at d0 d1 d2 d3 d4 d5 d6 d7 b2
        have hcc := fun j (hj : j < 8) => HX.out.wf.cell (HEx.out _ _ _ hfb) m j (by omega) (by rw [wideF]; exact hj)
        simp only [wideF] at hcc
        obtain ⟨e0, g0, -, z0⟩ := hcc 0 (by omega)
        obtain ⟨e1, g1, -, z1⟩ := hcc 1 (by omega)
        obtain ⟨e2, g2, -, z2⟩ := hcc 2 (by omega)
        obtain ⟨e3, g3, -, z3⟩ := hcc 3 (by omega)
        obtain ⟨e4, g4, -, z4⟩ := hcc 4 (by omega)
        obtain ⟨e5, g5, -, z5⟩ := hcc 5 (by omega)
        obtain ⟨e6, g6, -, z6⟩ := hcc 6 (by omega)
        obtain ⟨e7, g7, -, z7⟩ := hcc 7 (by omega)
        rw [Nat.add_zero] at g0 z0
        clear hcc
        obtain ⟨Y, hY, hX6, hB6⟩ : ∃ Y, Y = ((((((((wX.setCell ⟨fb, m * 8, none⟩ (.string fn)).setCell ⟨fb, m * 8 + 1, none⟩ (.string fo)).setCell ⟨fb, m * 8 + 2, none⟩ (.bool l)).setCell ⟨fb, m * 8 + 3, none⟩ (.bool mu)).setCell ⟨fb, m * 8 + 4, none⟩ (.bool fr)).setCell ⟨fb, m * 8 + 5, none⟩ (.bool hd)).setCell ⟨fb, m * 8 + 6, none⟩ (.bool sh)).setCell ⟨fb, m * 8 + 7, none⟩ (.slice (some ⟨gF, 0, none⟩) (nl + 1) capF)) ∧ XSt w rb cb XB Y σF bdS (q + 4) nm tb len cap ∧ ∀ M cs T, Box w wX σF XB M cs T → Box w Y σF XB M cs T := ⟨_, rfl, HX.out.put8 (k := m) (HEx.out _ _ _ hfb) fn fo l mu fr hd sh (.slice (some ⟨gF, 0, none⟩) (nl + 1) capF) hfn hfo ⟨_, _, _, rfl, Nat.succ_le_succ hs1, q3, q4, Or.inr ⟨gF, rfl, HQ2.out⟩⟩ _ rfl⟩
        have HYE := hid_of hY
        have HX6 := hid_of hX6
        have HT6 := hid_of (hB6 _ _ _ HT.out)
        clear hY hX6 hB6
        go_upto_region 26 with fail
        rw [← HYE.out]
        clear b2 d0 d1 d2 d3 d4 d5 d6 d7 g0 z0 g1 z1 g2 z2 g3 z3 g4 z4 g5 z5 g6 z6 g7 z7 HX HT HF HYE
        obtain ⟨b0, -⟩ := box_at HT6.out.box 0 (by simp)
        obtain ⟨b1, -⟩ := box_at HT6.out.box 1 (by simp)
        obtain ⟨b2, -⟩ := box_at HT6.out.box 2 (by simp)
        obtain ⟨x1, -⟩ := box_at HX6.out.xb 1 (by simp)
        simp only [List.getElem_toArray, List.getElem_cons_zero, List.getElem_cons_succ] at b0 b1 b2 x1
        have hkc : k < cap := by have := HX6.out.le; omega
        have hcc := fun j (hj : j < 3) => HX6.out.wf.cell HX6.out.blk k j hkc (by rw [wideT]; exact hj)
        simp only [wideT] at hcc
        obtain ⟨e0, g0, -, z0⟩ := hcc 0 (by omega)
        obtain ⟨e1, g1, -, z1⟩ := hcc 1 (by omega)
        obtain ⟨e2, g2, -, z2⟩ := hcc 2 (by omega)
        rw [Nat.add_zero] at g0 z0
        clear hcc
        obtain ⟨Z, hZ, hX7⟩ : ∃ Z, Z = (((Y.setCell ⟨tb, k * 3, none⟩ (.string tn)).setCell ⟨tb, k * 3 + 1, none⟩ (.string tk)).setCell ⟨tb, k * 3 + 2, none⟩ (.slice (some ⟨fb, 0, none⟩) fl fp)) ∧ XSt w rb cb XB Z σF bdS (q + 4) nm tb len cap := ⟨_, rfl, HX6.out.put3 k tn tk (.slice (some ⟨fb, 0, none⟩) fl fp) htn rfl htk ⟨_, _, _, rfl, Nat.le_trans hf1 (by decide), hf2, hf3, Or.inr ⟨fb, rfl, HEx.out _ _ _ hfb⟩⟩ _ rfl⟩
        have HZE := hid_of hZ
        have HX7 := hid_of hX7
        clear hZ hX7
        go_upto_region 27 with fail
        rw [← HZE.out]
        clear b0 b1 b2 x1 g0 g1 g2 z0 z1 z2 HX6 HT6 HZE
        obtain ⟨x0, -⟩ := box_at HX7.out.xb 0 (by simp)
        obtain ⟨x1, -⟩ := box_at HX7.out.xb 1 (by simp)
        obtain ⟨y0, yf0⟩ := box_at HX7.out.rbox 0 (by simp)
        obtain ⟨y1, yf1⟩ := box_at HX7.out.rbox 1 (by simp)
        simp only [List.getElem_toArray, List.getElem_cons_zero, List.getElem_cons_succ] at x0 x1 y0 y1
        go_wp2_with fail
        have hdd := sets2_cells HX7.out.rbox (.string nm) (.slice (some ⟨tb, 0, none⟩) len cap)
        exact bodyPost_ret (spResult _ _ (w.heap.size + 1) (.string nm) (.slice (some ⟨tb, 0, none⟩) len cap) rfl hdd.1 hdd.2) rfl (HX7.out.fin (by decide) (by decide) 0 len cap (by omega) (by omega) HX7.out.le)
      refine rcH (fun K hK => ?_) AllReadyH.nil
      go_simp
      have bE := below_box wC1 (.cells #[.string tx] 9)
      obtain ⟨gE, hgE⟩ : ∃ g, g = wC1.heap.size := ⟨_, rfl⟩
      have nE := block_new (w := wC1) (N := gE) #[.string tx] 9 hgE.symm
      have oX := oX.trans (Only.of_below (· = rb) bE) (fun _ _ q => q)
      have r2 := r2.only (Only.of_below (fun _ => False) bE) id id
      refine hK.out _ _ trivial (fun hHeld => ?_)
      clear hK K
      try simp only [Act.put, List.setIfInBounds_toArray, List.set_cons_zero, List.set_cons_succ]
      rw [← hgE]
      generalize wC1.alloc (.cells #[.string tx] 9) = wE1 at *
      clear hgE bE
      refine rdyH [1] ?_
      refine rcH (fun K hK => ?_) AllReadyH.nil
      have c1 := HCL.out wE1 oX
      go_simp
      clear c1
      refine hK.out _ _ trivial (fun hHeld => ?_)
      clear hK K
      try simp only [Act.put, List.setIfInBounds_toArray, List.set_cons_zero, List.set_cons_succ]
      refine rdyH [6] ?_
      refine rcH (fun K hK => ?_) AllReadyH.nil
      refine step_append_wf (HWW.out wE1 oX) rfl (.tmp 75) (.tmp 79) 35 rfl 9 i9 _ 16 Try.underlying35 hi9 hz9 hs9 hb9 rfl (zeroS _ _) na nl nc rfl hs2 hs3 hs4 ⟨gE, 0, none⟩ 1 1 [.string tx] rfl rfl (World.news_of_block nE) (by intro u hu; simp at hu; subst hu; rfl) (strList htx) (by omega) (by unfold maxLen; omega) (by omega) ?_
      intro gF capF wF1 σF q1 q2 q3 q4 q5 q6 q7 q8 q9
      have HQ := hid_of (And.intro q1 (And.intro q2 ((Chg.pick σ oX).grown q7 (fun x hx => HOWN.out x hx) q5 q6)))
      have rF := r2.keep (w' := wF1) (HRB.out wE1 oX wF1 q7 rb HX5.out.rlt) (HRB.out wE1 oX wF1 q7 cb HX5.out.clt) q7.size
      clear q1 q2 q5 q6 q7 q8 q9
      refine hK.out _ _ trivial (fun hHeld => ?_)
      clear hK K
      try simp only [Act.put, List.setIfInBounds_toArray, List.set_cons_zero, List.set_cons_succ]
      refine tkH 7 hHeld ?_
      refine rdyH [8] ?_
      refine rcH (fun K hK => ?_) AllReadyH.nil
      obtain ⟨c1, z1⟩ := box_at (HF5.out.chg HX5.out.rlt HQ.out.2.2).box 7 (by simp)
      simp only [List.getElem_toArray, List.getElem_cons_zero, List.getElem_cons_succ] at c1
      go_simp
      clear c1 z1
      refine hK.out _ _ trivial (fun hHeld => ?_)
      clear hK K
      try simp only [Act.put, List.setIfInBounds_toArray, List.set_cons_zero, List.set_cons_succ]
      refine wpAnyH_done (by kernel_rfl) ?_ _
      have HXb := hid_of (HX5.out.chg HQ.out.2.2 HQ.out.1 rF)
      have HFb := hid_of (HF5.out.chg HX5.out.rlt HQ.out.2.2)
      have HTb := hid_of (HT5.out.chg HX5.out.rlt HQ.out.2.2)
      have HX := hid_of (HXb.out.boxed HFb.out 7 (.slice (some ⟨gF, 0, none⟩) (nl + 1) capF))
      have HF : Hid (Box w (wF1.setCell ⟨FX, 7, none⟩ (.slice (some ⟨gF, 0, none⟩) (nl + 1) capF)) σF XB FX #[.string fn, .string fo, .bool l, .bool mu, .bool fr, .bool hd, .bool sh, .slice (some ⟨gF, 0, none⟩) (nl + 1) capF] 37) := hid_of (HFb.out.set 7 (.slice (some ⟨gF, 0, none⟩) (nl + 1) capF))
      have HT := hid_of (HTb.out.other (M := FX) (j := 7) hTF (.slice (some ⟨gF, 0, none⟩) (nl + 1) capF))
      have hQ2 := HQ.out.2.1
      have hEx := HQ.out.2.2.ext
      generalize wF1.setCell ⟨FX, 7, none⟩ (.slice (some ⟨gF, 0, none⟩) (nl + 1) capF) = wX at *
      clear HX5 HF5 HT5 HXb HFb HTb HQ
      have HQ2 := hid_of hQ2
      have HEx := hid_of hEx
      clear hQ2 hEx
      go_upto_region 25 with fail
      have HX := hid_of (HX.out.le' bdCS)
      obtain ⟨d0, -⟩ := box_at HF.out.box 0 (by simp)
      obtain ⟨d1, -⟩ := box_at HF.out.box 1 (by simp)
      obtain ⟨d2, -⟩ := box_at HF.out.box 2 (by simp)
      obtain ⟨d3, -⟩ := box_at HF.out.box 3 (by simp)
      obtain ⟨d4, -⟩ := box_at HF.out.box 4 (by simp)
      obtain ⟨d5, -⟩ := box_at HF.out.box 5 (by simp)
      obtain ⟨d6, -⟩ := box_at HF.out.box 6 (by simp)
      obtain ⟨d7, -⟩ := box_at HF.out.box 7 (by simp)
      obtain ⟨b2, -⟩ := box_at HT.out.box 2 (by simp)
      simp only [List.getElem_toArray, List.getElem_cons_zero, List.getElem_cons_succ] at d0 d1 d2 d3 d4 d5 d6 d7 b2
      have hcc := fun j (hj : j < 8) => HX.out.wf.cell (HEx.out _ _ _ hfb) m j (by omega) (by rw [wideF]; exact hj)
      simp only [wideF] at hcc
      obtain ⟨e0, g0, -, z0⟩ := hcc 0 (by omega)
      obtain ⟨e1, g1, -, z1⟩ := hcc 1 (by omega)
      obtain ⟨e2, g2, -, z2⟩ := hcc 2 (by omega)
      obtain ⟨e3, g3, -, z3⟩ := hcc 3 (by omega)
      obtain ⟨e4, g4, -, z4⟩ := hcc 4 (by omega)
      obtain ⟨e5, g5, -, z5⟩ := hcc 5 (by omega)
      obtain ⟨e6, g6, -, z6⟩ := hcc 6 (by omega)
      obtain ⟨e7, g7, -, z7⟩ := hcc 7 (by omega)
      rw [Nat.add_zero] at g0 z0
      clear hcc
      obtain ⟨Y, hY, hX6, hB6⟩ : ∃ Y, Y = ((((((((wX.setCell ⟨fb, m * 8, none⟩ (.string fn)).setCell ⟨fb, m * 8 + 1, none⟩ (.string fo)).setCell ⟨fb, m * 8 + 2, none⟩ (.bool l)).setCell ⟨fb, m * 8 + 3, none⟩ (.bool mu)).setCell ⟨fb, m * 8 + 4, none⟩ (.bool fr)).setCell ⟨fb, m * 8 + 5, none⟩ (.bool hd)).setCell ⟨fb, m * 8 + 6, none⟩ (.bool sh)).setCell ⟨fb, m * 8 + 7, none⟩ (.slice (some ⟨gF, 0, none⟩) (nl + 1) capF)) ∧ XSt w rb cb XB Y σF bdS (q + 4) nm tb len cap ∧ ∀ M cs T, Box w wX σF XB M cs T → Box w Y σF XB M cs T := ⟨_, rfl, HX.out.put8 (k := m) (HEx.out _ _ _ hfb) fn fo l mu fr hd sh (.slice (some ⟨gF, 0, none⟩) (nl + 1) capF) hfn hfo ⟨_, _, _, rfl, Nat.succ_le_succ hs1, q3, q4, Or.inr ⟨gF, rfl, HQ2.out⟩⟩ _ rfl⟩
      have HYE := hid_of hY
      have HX6 := hid_of hX6
      have HT6 := hid_of (hB6 _ _ _ HT.out)
      clear hY hX6 hB6
      go_upto_region 26 with fail
      rw [← HYE.out]
      clear b2 d0 d1 d2 d3 d4 d5 d6 d7 g0 z0 g1 z1 g2 z2 g3 z3 g4 z4 g5 z5 g6 z6 g7 z7 HX HT HF HYE
      obtain ⟨b0, -⟩ := box_at HT6.out.box 0 (by simp)
      obtain ⟨b1, -⟩ := box_at HT6.out.box 1 (by simp)
      obtain ⟨b2, -⟩ := box_at HT6.out.box 2 (by simp)
      obtain ⟨x1, -⟩ := box_at HX6.out.xb 1 (by simp)
      simp only [List.getElem_toArray, List.getElem_cons_zero, List.getElem_cons_succ] at b0 b1 b2 x1
      have hkc : k < cap := by have := HX6.out.le; omega
      have hcc := fun j (hj : j < 3) => HX6.out.wf.cell HX6.out.blk k j hkc (by rw [wideT]; exact hj)
      simp only [wideT] at hcc
      obtain ⟨e0, g0, -, z0⟩ := hcc 0 (by omega)
      obtain ⟨e1, g1, -, z1⟩ := hcc 1 (by omega)
      obtain ⟨e2, g2, -, z2⟩ := hcc 2 (by omega)
      rw [Nat.add_zero] at g0 z0
      clear hcc
      obtain ⟨Z, hZ, hX7⟩ : ∃ Z, Z = (((Y.setCell ⟨tb, k * 3, none⟩ (.string tn)).setCell ⟨tb, k * 3 + 1, none⟩ (.string tk)).setCell ⟨tb, k * 3 + 2, none⟩ (.slice (some ⟨fb, 0, none⟩) fl fp)) ∧ XSt w rb cb XB Z σF bdS (q + 4) nm tb len cap := ⟨_, rfl, HX6.out.put3 k tn tk (.slice (some ⟨fb, 0, none⟩) fl fp) htn rfl htk ⟨_, _, _, rfl, Nat.le_trans hf1 (by decide), hf2, hf3, Or.inr ⟨fb, rfl, HEx.out _ _ _ hfb⟩⟩ _ rfl⟩
      have HZE := hid_of hZ
      have HX7 := hid_of hX7
      clear hZ hX7
      go_upto_region 27 with fail
      rw [← HZE.out]
      clear b0 b1 b2 x1 g0 g1 g2 z0 z1 z2 HX6 HT6 HZE
      obtain ⟨x0, -⟩ := box_at HX7.out.xb 0 (by simp)
      obtain ⟨x1, -⟩ := box_at HX7.out.xb 1 (by simp)
      obtain ⟨y0, yf0⟩ := box_at HX7.out.rbox 0 (by simp)
      obtain ⟨y1, yf1⟩ := box_at HX7.out.rbox 1 (by simp)
      simp only [List.getElem_toArray, List.getElem_cons_zero, List.getElem_cons_succ] at x0 x1 y0 y1
      go_wp2_with fail
      have hdd := sets2_cells HX7.out.rbox (.string nm) (.slice (some ⟨tb, 0, none⟩) len cap)
      exact bodyPost_ret (spResult _ _ (w.heap.size + 1) (.string nm) (.slice (some ⟨tb, 0, none⟩) len cap) rfl hdd.1 hdd.2) rfl (HX7.out.fin (by decide) (by decide) 0 len cap (by omega) (by omega) HX7.out.le)
    · have HOF : Hid (Calls Try.prog 19 #[.pointer (some ⟨rb, 0, none⟩), .slice (some ⟨wG.heap.size, 0, none⟩) 6 6] (wG.alloc (.cells #[.string ⟨#[105, 100]⟩, .string ⟨#[110, 97, 109, 101]⟩, .string ⟨#[]⟩, .string ⟨#[102, 97, 114]⟩, .string ⟨#[116, 111, 111, 108, 111, 110, 103, 110, 97, 109, 101]⟩, .string ⟨#[95, 97]⟩] 9)) fun e w' => ∃ s : ByteArray, e = .returned (.string s) ∧ s.size ≤ 12 ∧ RdOk w' rb cb (q + 4) ∧ Only (· = rb) wG w') := hid_of (of_lit wG rb cb (q + 3) HX5.out.rd (by omega) [⟨#[105, 100]⟩, ⟨#[110, 97, 109, 101]⟩, ⟨#[]⟩, ⟨#[102, 97, 114]⟩, ⟨#[116, 111, 111, 108, 111, 110, 103, 110, 97, 109, 101]⟩, ⟨#[95, 97]⟩] (by simp) (by simp) (by intro s hs; simp at hs; rcases hs with rfl | rfl | rfl | rfl | rfl | rfl <;> decide))
      go_upto_region 25 with (go_at_call 19; refine HOF.out.mono ?_; rintro e wH ⟨tx, rfl, htx, r2, o2⟩; have HFb := hid_of (HF5.out.chg HX5.out.rlt (Chg.pick σ o2)); obtain ⟨dd, df⟩ := box_at HFb.out.box 0 (by simp); simp only [List.getElem_toArray, List.getElem_cons_zero, List.getElem_cons_succ] at dd)
      have HXb := hid_of (HX5.out.move r2 o2)
      have HTb := hid_of (HT5.out.chg HX5.out.rlt (Chg.pick σ o2))
      have HX := hid_of (HXb.out.boxed HFb.out 0 (.string tx))
      have HF : Hid (Box w (wH.setCell ⟨FX, 0, none⟩ (.string tx)) σ XB FX #[.string tx, .string fo, .bool l, .bool mu, .bool fr, .bool hd, .bool sh, .slice na nl nc] 37) := hid_of (HFb.out.set 0 (.string tx))
      have HT := hid_of (HTb.out.other (M := FX) (j := 0) hTF (.string tx))
      generalize wH.setCell ⟨FX, 0, none⟩ (.string tx) = wX at *
      clear HX5 HF5 HT5 HXb HFb HTb r2 o2 dd df HOF
      have HX := hid_of (HX.out.le' bdCS)
      obtain ⟨d0, -⟩ := box_at HF.out.box 0 (by simp)
      obtain ⟨d1, -⟩ := box_at HF.out.box 1 (by simp)
      obtain ⟨d2, -⟩ := box_at HF.out.box 2 (by simp)
      obtain ⟨d3, -⟩ := box_at HF.out.box 3 (by simp)
      obtain ⟨d4, -⟩ := box_at HF.out.box 4 (by simp)
      obtain ⟨d5, -⟩ := box_at HF.out.box 5 (by simp)
      obtain ⟨d6, -⟩ := box_at HF.out.box 6 (by simp)
      obtain ⟨d7, -⟩ := box_at HF.out.box 7 (by simp)
      obtain ⟨b2, -⟩ := box_at HT.out.box 2 (by simp)
      simp only [List.getElem_toArray, List.getElem_cons_zero, List.getElem_cons_succ] at d0 d1 d2 d3 d4 d5 d6 d7 b2
      have hcc := fun j (hj : j < 8) => HX.out.wf.cell hfb m j (by omega) (by rw [wideF]; exact hj)
      simp only [wideF] at hcc
      obtain ⟨e0, g0, -, z0⟩ := hcc 0 (by omega)
      obtain ⟨e1, g1, -, z1⟩ := hcc 1 (by omega)
      obtain ⟨e2, g2, -, z2⟩ := hcc 2 (by omega)
      obtain ⟨e3, g3, -, z3⟩ := hcc 3 (by omega)
      obtain ⟨e4, g4, -, z4⟩ := hcc 4 (by omega)
      obtain ⟨e5, g5, -, z5⟩ := hcc 5 (by omega)
      obtain ⟨e6, g6, -, z6⟩ := hcc 6 (by omega)
      obtain ⟨e7, g7, -, z7⟩ := hcc 7 (by omega)
      rw [Nat.add_zero] at g0 z0
      clear hcc
      obtain ⟨Y, hY, hX6, hB6⟩ : ∃ Y, Y = ((((((((wX.setCell ⟨fb, m * 8, none⟩ (.string tx)).setCell ⟨fb, m * 8 + 1, none⟩ (.string fo)).setCell ⟨fb, m * 8 + 2, none⟩ (.bool l)).setCell ⟨fb, m * 8 + 3, none⟩ (.bool mu)).setCell ⟨fb, m * 8 + 4, none⟩ (.bool fr)).setCell ⟨fb, m * 8 + 5, none⟩ (.bool hd)).setCell ⟨fb, m * 8 + 6, none⟩ (.bool sh)).setCell ⟨fb, m * 8 + 7, none⟩ (.slice na nl nc)) ∧ XSt w rb cb XB Y σ bdS (q + 4) nm tb len cap ∧ ∀ M cs T, Box w wX σ XB M cs T → Box w Y σ XB M cs T := ⟨_, rfl, HX.out.put8 (k := m) hfb tx fo l mu fr hd sh (.slice na nl nc) htx hfo ⟨_, _, _, rfl, Nat.le_trans hs1 (by decide), hs2, hs3, hs4⟩ _ rfl⟩
      have HYE := hid_of hY
      have HX6 := hid_of hX6
      have HT6 := hid_of (hB6 _ _ _ HT.out)
      clear hY hX6 hB6
      go_upto_region 26 with fail
      rw [← HYE.out]
      clear b2 d0 d1 d2 d3 d4 d5 d6 d7 g0 z0 g1 z1 g2 z2 g3 z3 g4 z4 g5 z5 g6 z6 g7 z7 HX HT HF HYE
      obtain ⟨b0, -⟩ := box_at HT6.out.box 0 (by simp)
      obtain ⟨b1, -⟩ := box_at HT6.out.box 1 (by simp)
      obtain ⟨b2, -⟩ := box_at HT6.out.box 2 (by simp)
      obtain ⟨x1, -⟩ := box_at HX6.out.xb 1 (by simp)
      simp only [List.getElem_toArray, List.getElem_cons_zero, List.getElem_cons_succ] at b0 b1 b2 x1
      have hkc : k < cap := by have := HX6.out.le; omega
      have hcc := fun j (hj : j < 3) => HX6.out.wf.cell HX6.out.blk k j hkc (by rw [wideT]; exact hj)
      simp only [wideT] at hcc
      obtain ⟨e0, g0, -, z0⟩ := hcc 0 (by omega)
      obtain ⟨e1, g1, -, z1⟩ := hcc 1 (by omega)
      obtain ⟨e2, g2, -, z2⟩ := hcc 2 (by omega)
      rw [Nat.add_zero] at g0 z0
      clear hcc
      obtain ⟨Z, hZ, hX7⟩ : ∃ Z, Z = (((Y.setCell ⟨tb, k * 3, none⟩ (.string tn)).setCell ⟨tb, k * 3 + 1, none⟩ (.string tk)).setCell ⟨tb, k * 3 + 2, none⟩ (.slice (some ⟨fb, 0, none⟩) fl fp)) ∧ XSt w rb cb XB Z σ bdS (q + 4) nm tb len cap := ⟨_, rfl, HX6.out.put3 k tn tk (.slice (some ⟨fb, 0, none⟩) fl fp) htn rfl htk ⟨_, _, _, rfl, Nat.le_trans hf1 (by decide), hf2, hf3, Or.inr ⟨fb, rfl, hfb⟩⟩ _ rfl⟩
      have HZE := hid_of hZ
      have HX7 := hid_of hX7
      clear hZ hX7
      go_upto_region 27 with fail
      rw [← HZE.out]
      clear b0 b1 b2 x1 g0 g1 g2 z0 z1 z2 HX6 HT6 HZE
      obtain ⟨x0, -⟩ := box_at HX7.out.xb 0 (by simp)
      obtain ⟨x1, -⟩ := box_at HX7.out.xb 1 (by simp)
      obtain ⟨y0, yf0⟩ := box_at HX7.out.rbox 0 (by simp)
      obtain ⟨y1, yf1⟩ := box_at HX7.out.rbox 1 (by simp)
      simp only [List.getElem_toArray, List.getElem_cons_zero, List.getElem_cons_succ] at x0 x1 y0 y1
      go_wp2_with fail
      have hdd := sets2_cells HX7.out.rbox (.string nm) (.slice (some ⟨tb, 0, none⟩) len cap)
      exact bodyPost_ret (spResult _ _ (w.heap.size + 1) (.string nm) (.slice (some ⟨tb, 0, none⟩) len cap) rfl hdd.1 hdd.2) rfl (HX7.out.fin (by decide) (by decide) 0 len cap (by omega) (by omega) HX7.out.le)
    · obtain ⟨dd, df⟩ := box_at HF5.out.box 6 (by simp)
      simp only [List.getElem_toArray, List.getElem_cons_zero, List.getElem_cons_succ] at dd
      have HX := hid_of (HX5.out.boxed HF5.out 6 (.bool (!sh)))
      have HF : Hid (Box w (wG.setCell ⟨FX, 6, none⟩ (.bool (!sh))) σ XB FX #[.string fn, .string fo, .bool l, .bool mu, .bool fr, .bool hd, .bool (!sh), .slice na nl nc] 37) := hid_of (HF5.out.set 6 (.bool (!sh)))
      have HT := hid_of (HT5.out.other (M := FX) (j := 6) hTF (.bool (!sh)))
      go_upto_region 25 with fail
      generalize wG.setCell ⟨FX, 6, none⟩ (.bool (!sh)) = wX at *
      clear HX5 HF5 HT5 dd df
      have HX := hid_of (HX.out.le' bdCS)
      obtain ⟨d0, -⟩ := box_at HF.out.box 0 (by simp)
      obtain ⟨d1, -⟩ := box_at HF.out.box 1 (by simp)
      obtain ⟨d2, -⟩ := box_at HF.out.box 2 (by simp)
      obtain ⟨d3, -⟩ := box_at HF.out.box 3 (by simp)
      obtain ⟨d4, -⟩ := box_at HF.out.box 4 (by simp)
      obtain ⟨d5, -⟩ := box_at HF.out.box 5 (by simp)
      obtain ⟨d6, -⟩ := box_at HF.out.box 6 (by simp)
      obtain ⟨d7, -⟩ := box_at HF.out.box 7 (by simp)
      obtain ⟨b2, -⟩ := box_at HT.out.box 2 (by simp)
      simp only [List.getElem_toArray, List.getElem_cons_zero, List.getElem_cons_succ] at d0 d1 d2 d3 d4 d5 d6 d7 b2
      have hcc := fun j (hj : j < 8) => HX.out.wf.cell hfb m j (by omega) (by rw [wideF]; exact hj)
      simp only [wideF] at hcc
      obtain ⟨e0, g0, -, z0⟩ := hcc 0 (by omega)
      obtain ⟨e1, g1, -, z1⟩ := hcc 1 (by omega)
      obtain ⟨e2, g2, -, z2⟩ := hcc 2 (by omega)
      obtain ⟨e3, g3, -, z3⟩ := hcc 3 (by omega)
      obtain ⟨e4, g4, -, z4⟩ := hcc 4 (by omega)
      obtain ⟨e5, g5, -, z5⟩ := hcc 5 (by omega)
      obtain ⟨e6, g6, -, z6⟩ := hcc 6 (by omega)
      obtain ⟨e7, g7, -, z7⟩ := hcc 7 (by omega)
      rw [Nat.add_zero] at g0 z0
      clear hcc
      obtain ⟨Y, hY, hX6, hB6⟩ : ∃ Y, Y = ((((((((wX.setCell ⟨fb, m * 8, none⟩ (.string fn)).setCell ⟨fb, m * 8 + 1, none⟩ (.string fo)).setCell ⟨fb, m * 8 + 2, none⟩ (.bool l)).setCell ⟨fb, m * 8 + 3, none⟩ (.bool mu)).setCell ⟨fb, m * 8 + 4, none⟩ (.bool fr)).setCell ⟨fb, m * 8 + 5, none⟩ (.bool hd)).setCell ⟨fb, m * 8 + 6, none⟩ (.bool (!sh))).setCell ⟨fb, m * 8 + 7, none⟩ (.slice na nl nc)) ∧ XSt w rb cb XB Y σ bdS (q + 3) nm tb len cap ∧ ∀ M cs T, Box w wX σ XB M cs T → Box w Y σ XB M cs T := ⟨_, rfl, HX.out.put8 (k := m) hfb fn fo l mu fr hd (!sh) (.slice na nl nc) hfn hfo ⟨_, _, _, rfl, Nat.le_trans hs1 (by decide), hs2, hs3, hs4⟩ _ rfl⟩
      have HYE := hid_of hY
      have HX6 := hid_of hX6
      have HT6 := hid_of (hB6 _ _ _ HT.out)
      clear hY hX6 hB6
      go_upto_region 26 with fail
      rw [← HYE.out]
      clear b2 d0 d1 d2 d3 d4 d5 d6 d7 g0 z0 g1 z1 g2 z2 g3 z3 g4 z4 g5 z5 g6 z6 g7 z7 HX HT HF HYE
      obtain ⟨b0, -⟩ := box_at HT6.out.box 0 (by simp)
      obtain ⟨b1, -⟩ := box_at HT6.out.box 1 (by simp)
      obtain ⟨b2, -⟩ := box_at HT6.out.box 2 (by simp)
      obtain ⟨x1, -⟩ := box_at HX6.out.xb 1 (by simp)
      simp only [List.getElem_toArray, List.getElem_cons_zero, List.getElem_cons_succ] at b0 b1 b2 x1
      have hkc : k < cap := by have := HX6.out.le; omega
      have hcc := fun j (hj : j < 3) => HX6.out.wf.cell HX6.out.blk k j hkc (by rw [wideT]; exact hj)
      simp only [wideT] at hcc
      obtain ⟨e0, g0, -, z0⟩ := hcc 0 (by omega)
      obtain ⟨e1, g1, -, z1⟩ := hcc 1 (by omega)
      obtain ⟨e2, g2, -, z2⟩ := hcc 2 (by omega)
      rw [Nat.add_zero] at g0 z0
      clear hcc
      obtain ⟨Z, hZ, hX7⟩ : ∃ Z, Z = (((Y.setCell ⟨tb, k * 3, none⟩ (.string tn)).setCell ⟨tb, k * 3 + 1, none⟩ (.string tk)).setCell ⟨tb, k * 3 + 2, none⟩ (.slice (some ⟨fb, 0, none⟩) fl fp)) ∧ XSt w rb cb XB Z σ bdS (q + 3) nm tb len cap := ⟨_, rfl, HX6.out.put3 k tn tk (.slice (some ⟨fb, 0, none⟩) fl fp) htn rfl htk ⟨_, _, _, rfl, Nat.le_trans hf1 (by decide), hf2, hf3, Or.inr ⟨fb, rfl, hfb⟩⟩ _ rfl⟩
      have HZE := hid_of hZ
      have HX7 := hid_of hX7
      clear hZ hX7
      go_upto_region 27 with fail
      rw [← HZE.out]
      clear b0 b1 b2 x1 g0 g1 g2 z0 z1 z2 HX6 HT6 HZE
      obtain ⟨x0, -⟩ := box_at HX7.out.xb 0 (by simp)
      obtain ⟨x1, -⟩ := box_at HX7.out.xb 1 (by simp)
      obtain ⟨y0, yf0⟩ := box_at HX7.out.rbox 0 (by simp)
      obtain ⟨y1, yf1⟩ := box_at HX7.out.rbox 1 (by simp)
      simp only [List.getElem_toArray, List.getElem_cons_zero, List.getElem_cons_succ] at x0 x1 y0 y1
      go_wp2_with fail
      have hdd := sets2_cells HX7.out.rbox (.string nm) (.slice (some ⟨tb, 0, none⟩) len cap)
      exact bodyPost_ret (spResult _ _ (w.heap.size + 1) (.string nm) (.slice (some ⟨tb, 0, none⟩) len cap) rfl hdd.1 hdd.2) rfl (HX7.out.fin (by decide) (by decide) 0 len cap (by omega) (by omega) HX7.out.le)
    · obtain ⟨dd, df⟩ := box_at HF5.out.box 5 (by simp)
      simp only [List.getElem_toArray, List.getElem_cons_zero, List.getElem_cons_succ] at dd
      have HX := hid_of (HX5.out.boxed HF5.out 5 (.bool (!hd)))
      have HF : Hid (Box w (wG.setCell ⟨FX, 5, none⟩ (.bool (!hd))) σ XB FX #[.string fn, .string fo, .bool l, .bool mu, .bool fr, .bool (!hd), .bool sh, .slice na nl nc] 37) := hid_of (HF5.out.set 5 (.bool (!hd)))
      have HT := hid_of (HT5.out.other (M := FX) (j := 5) hTF (.bool (!hd)))
      go_upto_region 25 with fail
      generalize wG.setCell ⟨FX, 5, none⟩ (.bool (!hd)) = wX at *
      clear HX5 HF5 HT5 dd df
      have HX := hid_of (HX.out.le' bdCS)
      obtain ⟨d0, -⟩ := box_at HF.out.box 0 (by simp)
      obtain ⟨d1, -⟩ := box_at HF.out.box 1 (by simp)
      obtain ⟨d2, -⟩ := box_at HF.out.box 2 (by simp)
      obtain ⟨d3, -⟩ := box_at HF.out.box 3 (by simp)
      obtain ⟨d4, -⟩ := box_at HF.out.box 4 (by simp)
      obtain ⟨d5, -⟩ := box_at HF.out.box 5 (by simp)
      obtain ⟨d6, -⟩ := box_at HF.out.box 6 (by simp)
      obtain ⟨d7, -⟩ := box_at HF.out.box 7 (by simp)
      obtain ⟨b2, -⟩ := box_at HT.out.box 2 (by simp)
      simp only [List.getElem_toArray, List.getElem_cons_zero, List.getElem_cons_succ] at d0 d1 d2 d3 d4 d5 d6 d7 b2
      have hcc := fun j (hj : j < 8) => HX.out.wf.cell hfb m j (by omega) (by rw [wideF]; exact hj)
      simp only [wideF] at hcc
      obtain ⟨e0, g0, -, z0⟩ := hcc 0 (by omega)
      obtain ⟨e1, g1, -, z1⟩ := hcc 1 (by omega)
      obtain ⟨e2, g2, -, z2⟩ := hcc 2 (by omega)
      obtain ⟨e3, g3, -, z3⟩ := hcc 3 (by omega)
      obtain ⟨e4, g4, -, z4⟩ := hcc 4 (by omega)
      obtain ⟨e5, g5, -, z5⟩ := hcc 5 (by omega)
      obtain ⟨e6, g6, -, z6⟩ := hcc 6 (by omega)
      obtain ⟨e7, g7, -, z7⟩ := hcc 7 (by omega)
      rw [Nat.add_zero] at g0 z0
      clear hcc
      obtain ⟨Y, hY, hX6, hB6⟩ : ∃ Y, Y = ((((((((wX.setCell ⟨fb, m * 8, none⟩ (.string fn)).setCell ⟨fb, m * 8 + 1, none⟩ (.string fo)).setCell ⟨fb, m * 8 + 2, none⟩ (.bool l)).setCell ⟨fb, m * 8 + 3, none⟩ (.bool mu)).setCell ⟨fb, m * 8 + 4, none⟩ (.bool fr)).setCell ⟨fb, m * 8 + 5, none⟩ (.bool (!hd))).setCell ⟨fb, m * 8 + 6, none⟩ (.bool sh)).setCell ⟨fb, m * 8 + 7, none⟩ (.slice na nl nc)) ∧ XSt w rb cb XB Y σ bdS (q + 3) nm tb len cap ∧ ∀ M cs T, Box w wX σ XB M cs T → Box w Y σ XB M cs T := ⟨_, rfl, HX.out.put8 (k := m) hfb fn fo l mu fr (!hd) sh (.slice na nl nc) hfn hfo ⟨_, _, _, rfl, Nat.le_trans hs1 (by decide), hs2, hs3, hs4⟩ _ rfl⟩
      have HYE := hid_of hY
      have HX6 := hid_of hX6
      have HT6 := hid_of (hB6 _ _ _ HT.out)
      clear hY hX6 hB6
      go_upto_region 26 with fail
      rw [← HYE.out]
      clear b2 d0 d1 d2 d3 d4 d5 d6 d7 g0 z0 g1 z1 g2 z2 g3 z3 g4 z4 g5 z5 g6 z6 g7 z7 HX HT HF HYE
      obtain ⟨b0, -⟩ := box_at HT6.out.box 0 (by simp)
      obtain ⟨b1, -⟩ := box_at HT6.out.box 1 (by simp)
      obtain ⟨b2, -⟩ := box_at HT6.out.box 2 (by simp)
      obtain ⟨x1, -⟩ := box_at HX6.out.xb 1 (by simp)
      simp only [List.getElem_toArray, List.getElem_cons_zero, List.getElem_cons_succ] at b0 b1 b2 x1
      have hkc : k < cap := by have := HX6.out.le; omega
      have hcc := fun j (hj : j < 3) => HX6.out.wf.cell HX6.out.blk k j hkc (by rw [wideT]; exact hj)
      simp only [wideT] at hcc
      obtain ⟨e0, g0, -, z0⟩ := hcc 0 (by omega)
      obtain ⟨e1, g1, -, z1⟩ := hcc 1 (by omega)
      obtain ⟨e2, g2, -, z2⟩ := hcc 2 (by omega)
      rw [Nat.add_zero] at g0 z0
      clear hcc
      obtain ⟨Z, hZ, hX7⟩ : ∃ Z, Z = (((Y.setCell ⟨tb, k * 3, none⟩ (.string tn)).setCell ⟨tb, k * 3 + 1, none⟩ (.string tk)).setCell ⟨tb, k * 3 + 2, none⟩ (.slice (some ⟨fb, 0, none⟩) fl fp)) ∧ XSt w rb cb XB Z σ bdS (q + 3) nm tb len cap := ⟨_, rfl, HX6.out.put3 k tn tk (.slice (some ⟨fb, 0, none⟩) fl fp) htn rfl htk ⟨_, _, _, rfl, Nat.le_trans hf1 (by decide), hf2, hf3, Or.inr ⟨fb, rfl, hfb⟩⟩ _ rfl⟩
      have HZE := hid_of hZ
      have HX7 := hid_of hX7
      clear hZ hX7
      go_upto_region 27 with fail
      rw [← HZE.out]
      clear b0 b1 b2 x1 g0 g1 g2 z0 z1 z2 HX6 HT6 HZE
      obtain ⟨x0, -⟩ := box_at HX7.out.xb 0 (by simp)
      obtain ⟨x1, -⟩ := box_at HX7.out.xb 1 (by simp)
      obtain ⟨y0, yf0⟩ := box_at HX7.out.rbox 0 (by simp)
      obtain ⟨y1, yf1⟩ := box_at HX7.out.rbox 1 (by simp)
      simp only [List.getElem_toArray, List.getElem_cons_zero, List.getElem_cons_succ] at x0 x1 y0 y1
      go_wp2_with fail
      have hdd := sets2_cells HX7.out.rbox (.string nm) (.slice (some ⟨tb, 0, none⟩) len cap)
      exact bodyPost_ret (spResult _ _ (w.heap.size + 1) (.string nm) (.slice (some ⟨tb, 0, none⟩) len cap) rfl hdd.1 hdd.2) rfl (HX7.out.fin (by decide) (by decide) 0 len cap (by omega) (by omega) HX7.out.le)
    · obtain ⟨iF, hiF, hzF, hsF, hbF⟩ := info_parts infoF
      obtain ⟨NL, hNL⟩ := HX5.out.wf.list8 hfb fl hf2
      have HNL := hid_of hNL
      clear hNL
      have hFr : FX ≠ rb := by have := HF5.out.gt; have := HX5.out.rlt; omega
      have HCL : Hid (∀ W, Below wG.heap.size wG W → W.cell? ⟨TX, 2, none⟩ = some (.slice (some ⟨fb, 0, none⟩) fl fp)) := hid_of fun W hW => (box_at ((hW.block _ HT5.out.lt).trans HT5.out.box) 2 (by simp)).1
      have HSD : Hid (∀ W : World, W.heap[FX]? = wG.heap[FX]? → W.cell? ⟨FX, 0, none⟩ = some (.string fn) ∧ W.cell? ⟨FX, 1, none⟩ = some (.string fo) ∧ W.cell? ⟨FX, 2, none⟩ = some (.bool l) ∧ W.cell? ⟨FX, 3, none⟩ = some (.bool mu) ∧ W.cell? ⟨FX, 4, none⟩ = some (.bool fr) ∧ W.cell? ⟨FX, 5, none⟩ = some (.bool hd) ∧ W.cell? ⟨FX, 6, none⟩ = some (.bool sh) ∧ W.cell? ⟨FX, 7, none⟩ = some (.slice na nl nc)) := hid_of fun W hW => by
        have hb := hW.trans HF5.out.box
        exact ⟨(box_at hb 0 (by simp)).1, (box_at hb 1 (by simp)).1, (box_at hb 2 (by simp)).1, (box_at hb 3 (by simp)).1, (box_at hb 4 (by simp)).1, (box_at hb 5 (by simp)).1, (box_at hb 6 (by simp)).1, (box_at hb 7 (by simp)).1⟩
      have HNEQ : Hid (∀ (x y : Nat) {W : World}, W.heap[x]? = some (.cells #[.string fn, .string fo, .bool l, .bool mu, .bool fr, .bool hd, .bool sh, .slice na nl nc] 37 (0, 0)) → W.heap[y]? = some (.cells #[] 37 (0, 0)) → x ≠ y) := hid_of fun x y W h1 h2 e => by subst e; rw [h1] at h2; simp at h2
      have HNR : Hid (∀ (σ' : Sh) (g : Nat) (T : TypeId) (c : Nat), (∀ x, x < wG.heap.size → σ' x = σ x) → σ' g = some (T, c) → g ≠ rb) := hid_of fun σ' g T c h1 h2 e => by
        subst e
        rw [h1 _ HX5.out.rd.lt.1] at h2
        have := (HX5.out.new _ _ _ h2).1
        have := HX5.out.rlt
        omega
      go_upto_region 8 with fail
      refine wp_region_held_drew (S := (fun w' => w'.cell? ⟨FX, 0, none⟩ = some (.string fn) ∧ w'.cell? ⟨FX, 1, none⟩ = some (.string fo) ∧ w'.cell? ⟨FX, 2, none⟩ = some (.bool l) ∧ w'.cell? ⟨FX, 3, none⟩ = some (.bool mu) ∧ w'.cell? ⟨FX, 4, none⟩ = some (.bool fr) ∧ w'.cell? ⟨FX, 5, none⟩ = some (.bool hd) ∧ w'.cell? ⟨FX, 6, none⟩ = some (.bool sh) ∧ w'.cell? ⟨FX, 7, none⟩ = some (.slice na nl nc))) (by kernel_rfl) (HSD.out _ ((Below.refl wG.heap.size wG).drew.block _ HF5.out.lt)) (fun hHeld => ?_)
      have bX : Below wG.heap.size wG wG.drew := (Below.refl _ _).drew
      generalize wG.drew = wE0 at *
      refine tkH 1 hHeld ?_
      refine tkH 4 hHeld ?_
      refine rdyH [0, 2, 5] ?_
      refine rcH (fun K hK => ?_) ?_
      · go_simp
        have bA := below_box wE0 (.cells #[] 37)
        obtain ⟨gA, hgA⟩ : ∃ g, g = wE0.heap.size := ⟨_, rfl⟩
        have nA := block_new (w := wE0) (N := gA) #[] 37 hgA.symm
        have hgA2 : wG.heap.size ≤ gA := by have := bX.size; omega
        have bX := bX.trans (bA.mono bX.size)
        refine hK.out _ _ (HSD.out _ (by first | exact cX.keep _ HF5.out.lt HF5.out.nil hFr | exact bX.block _ HF5.out.lt)) (fun hHeld => ?_)
        clear hK K
        try simp only [Act.put, List.setIfInBounds_toArray, List.set_cons_zero, List.set_cons_succ]
        rw [← hgA]
        generalize wE0.alloc (.cells #[] 37) = wA1 at *
        clear hgA bA
        refine rdyH [2, 5] ?_
        refine rcH (fun K hK => ?_) ?_
        · have c1 := HCL.out wA1 bX
          go_simp
          clear c1
          refine hK.out _ _ (HSD.out _ (by first | exact cX.keep _ HF5.out.lt HF5.out.nil hFr | exact bX.block _ HF5.out.lt)) (fun hHeld => ?_)
          clear hK K
          try simp only [Act.put, List.setIfInBounds_toArray, List.set_cons_zero, List.set_cons_succ]
          refine rdyH [3, 5] ?_
          refine rcH (fun K hK => ?_) ?_
          · have hWA : Wf wA1 (σ.add gA 37 0) bdC := (HX5.out.wf.below bX).add (HX5.out.wf.fresh hgA2) nA rfl (fun k v hv => by simp at hv)
            refine step_append_wf hWA rfl (.tmp 40) (.tmp 42) 46 rfl 37 iF _ 64 Try.underlying46 hiF hzF hsF hbF rfl (zeroF _ _) (some ⟨gA, 0, none⟩) 0 0 rfl (Nat.le_refl _) (Nat.zero_le _) (Or.inr ⟨gA, rfl, Sh.add_self _ _ _ _⟩) ⟨fb, 0, none⟩ fl fp NL rfl HNL.out.1 (fun j u hu => (bX.cell (p := (⟨fb, 0, none⟩ : Addr).add j) (by rw [Addr.add_lit]; exact HX5.out.wf.lt hfb)).trans (HNL.out.2.1 j u hu)) HNL.out.2.2.1 (fun j u hu => (HNL.out.2.2.2 j u hu).ext (Sh.add_ext (HX5.out.wf.fresh hgA2)) (Bd.le.refl _)) (by omega) (by unfold maxLen; omega) (by omega) ?_
            intro g1 cap1 wF1 σ1 q1 q2 q3 q4 q5 q6 q7 q8 q9
            simp only [Nat.zero_add] at q3 ⊢
            try have nE := (q7.block gE (Array.getElem?_eq_some_iff.1 nE).1 (fun e => HNEQ.out gE gA nE nA (Option.some.inj e))).trans nE
            have cA : Chg rb wG wA1 σ (σ.add gA 37 0) := ⟨Sh.add_ext (HX5.out.wf.fresh hgA2), fun x hx => Sh.add_ne _ _ _ _ _ (by omega), fun x hx _ _ => bX.block x hx, bX.size, bX.os, bX.tape, bX.output⟩
            have cX := cA.grown q7 (fun x hx => ⟨_, _, by cases hx; exact Sh.add_self _ _ _ _⟩) q5 q6
            have rX : wF1.heap[rb]? = wG.heap[rb]? := (q7.block rb (by have := bX.size; have := HX5.out.rd.lt.1; omega) (fun e => by have e := Option.some.inj e; have e : rb = gA := e; have := HX5.out.rd.lt.1; omega)).trans (bX.block rb HX5.out.rd.lt.1)
            have H1 := hid_of (And.intro q1 q2)
            have q31 := q3
            have q41 := q4
            clear hWA cA bX q1 q2 q3 q4 q5 q6 q7 q8 q9
            try have nA := (bF.block gA (Array.getElem?_eq_some_iff.1 nA).1).trans nA
            refine hK.out _ _ (HSD.out _ (by first | exact cX.keep _ HF5.out.lt HF5.out.nil hFr | exact bX.block _ HF5.out.lt)) (fun hHeld => ?_)
            clear hK K
            try simp only [Act.put, List.setIfInBounds_toArray, List.set_cons_zero, List.set_cons_succ]
            refine rdyH [5] ?_
            refine rcH (fun K hK => ?_) AllReadyH.nil
            go_simp
            have bE := below_box wF1 (.cells #[.string fn, .string fo, .bool l, .bool mu, .bool fr, .bool hd, .bool sh, .slice na nl nc] 37)
            obtain ⟨gE, hgE⟩ : ∃ g, g = wF1.heap.size := ⟨_, rfl⟩
            have nE := block_new (w := wF1) (N := gE) #[.string fn, .string fo, .bool l, .bool mu, .bool fr, .bool hd, .bool sh, .slice na nl nc] 37 hgE.symm
            try have bX := bX.trans (bE.mono bX.size)
            try have rX := (bE.block rb (by have := cX.size; have := HX5.out.rd.lt.1; omega)).trans rX
            try have cX := cX.trans (Chg.below rb _ bE)
            try have nA := (bE.block gA (Array.getElem?_eq_some_iff.1 nA).1).trans nA
            try have H1 := hid_of (And.intro (H1.out.1.below bE) H1.out.2)
            refine hK.out _ _ (HSD.out _ (by first | exact cX.keep _ HF5.out.lt HF5.out.nil hFr | exact bX.block _ HF5.out.lt)) (fun hHeld => ?_)
            clear hK K
            try simp only [Act.put, List.setIfInBounds_toArray, List.set_cons_zero, List.set_cons_succ]
            rw [← hgE]
            generalize wF1.alloc (.cells #[.string fn, .string fo, .bool l, .bool mu, .bool fr, .bool hd, .bool sh, .slice na nl nc] 37) = wE1 at *
            clear hgE bE
            refine rdyH [6] ?_
            refine rcH (fun K hK => ?_) AllReadyH.nil
            refine step_append_wf H1.out.1 rfl (.tmp 43) (.tmp 45) 46 rfl 37 iF _ 64 Try.underlying46 hiF hzF hsF hbF rfl (zeroF _ _) (some ⟨g1, 0, none⟩) fl cap1 rfl q31 q41 (Or.inr ⟨g1, rfl, H1.out.2⟩) ⟨gE, 0, none⟩ 1 1 [.string fn, .string fo, .bool l, .bool mu, .bool fr, .bool hd, .bool sh, .slice na nl nc] rfl rfl (World.news_of_block nE) (by intro u hu; simp at hu; rcases hu with rfl | rfl | rfl | rfl | rfl | rfl | rfl | rfl <;> rfl) (cells_list (T := 37) (cs := #[.string fn, .string fo, .bool l, .bool mu, .bool fr, .bool hd, .bool sh, .slice na nl nc]) rfl (fieldCells σ1 bdC fn fo l mu fr hd sh (.slice na nl nc) hfn hfo ⟨_, _, _, rfl, hs1, hs2, hs3, SlIn.ext (T := 9) (n := nl) hs4 cX.ext⟩)) (by omega) (by unfold maxLen; omega) (by omega) ?_
            intro gF capF wF2 σF q1 q2 q3 q4 q5 q6 q7 q8 q9
            have rX : wF2.heap[rb]? = wG.heap[rb]? := (q7.block rb (by have := cX.size; have := HX5.out.rd.lt.1; omega) (fun e => HNR.out σ1 g1 _ _ cX.same H1.out.2 (Option.some.inj e).symm)).trans rX
            have cX := cX.grown q7 (fun x hx => ⟨_, _, by cases hx; exact H1.out.2⟩) q5 q6
            have HQ := hid_of (And.intro q1 q2)
            have hq3 := q3
            have hq4 := q4
            clear q1 q2 q3 q4 q5 q6 q7 q8 q9
            try have nA := (bG.block gA (Array.getElem?_eq_some_iff.1 nA).1).trans nA
            try have H1 := hid_of (And.intro (H1.out.1.below bG) H1.out.2)
            try have nE := (bG.block gE (Array.getElem?_eq_some_iff.1 nE).1).trans nE
            refine hK.out _ _ (HSD.out _ (by first | exact cX.keep _ HF5.out.lt HF5.out.nil hFr | exact bX.block _ HF5.out.lt)) (fun hHeld => ?_)
            clear hK K
            try simp only [Act.put, List.setIfInBounds_toArray, List.set_cons_zero, List.set_cons_succ]
            refine tkH 7 hHeld ?_
            refine rdyH [8] ?_
            refine rcH (fun K hK => ?_) AllReadyH.nil
            obtain ⟨c1, z1⟩ := box_at (HT5.out.chg HX5.out.rlt cX).box 2 (by simp)
            simp only [List.getElem_toArray, List.getElem_cons_zero, List.getElem_cons_succ] at c1
            go_simp
            clear c1 z1
            refine hK.out _ _ (HSD.out _ ((Below.heap_setCell _ _ _ _ (Ne.symm hTF)).trans (cX.keep _ HF5.out.lt HF5.out.nil hFr))) (fun hHeld => ?_)
            clear hK K
            try simp only [Act.put, List.setIfInBounds_toArray, List.set_cons_zero, List.set_cons_succ]
            refine wpAnyH_done (by kernel_rfl) ?_ _
            have HXb := hid_of (HX5.out.chg cX HQ.out.1 (HX5.out.rdk cX rX))
            have HFb := hid_of (HF5.out.chg HX5.out.rlt cX)
            have HTb := hid_of (HT5.out.chg HX5.out.rlt cX)
            have HX := hid_of (HXb.out.boxed HTb.out 2 (.slice (some ⟨gF, 0, none⟩) (fl + 1) capF))
            have HT : Hid (Box w (wF2.setCell ⟨TX, 2, none⟩ (.slice (some ⟨gF, 0, none⟩) (fl + 1) capF)) σF XB TX #[.string tn, .string tk, .slice (some ⟨gF, 0, none⟩) (fl + 1) capF] 48) := hid_of (HTb.out.set 2 (.slice (some ⟨gF, 0, none⟩) (fl + 1) capF))
            have HF := hid_of (HFb.out.other (M := TX) (j := 2) (Ne.symm hTF) (.slice (some ⟨gF, 0, none⟩) (fl + 1) capF))
            have HQ2 := hid_of HQ.out.2
            have HEx := hid_of cX.ext
            generalize wF2.setCell ⟨TX, 2, none⟩ (.slice (some ⟨gF, 0, none⟩) (fl + 1) capF) = wX at *
            clear HX5 HF5 HT5 HXb HFb HTb HQ cX H1 rX nE HNL HCL HSD HNEQ HNR
            go_upto_region 25 with fail
            have HX := hid_of (HX.out.le' bdCS)
            obtain ⟨d0, -⟩ := box_at HF.out.box 0 (by simp)
            obtain ⟨d1, -⟩ := box_at HF.out.box 1 (by simp)
            obtain ⟨d2, -⟩ := box_at HF.out.box 2 (by simp)
            obtain ⟨d3, -⟩ := box_at HF.out.box 3 (by simp)
            obtain ⟨d4, -⟩ := box_at HF.out.box 4 (by simp)
            obtain ⟨d5, -⟩ := box_at HF.out.box 5 (by simp)
            obtain ⟨d6, -⟩ := box_at HF.out.box 6 (by simp)
            obtain ⟨d7, -⟩ := box_at HF.out.box 7 (by simp)
            obtain ⟨b2, -⟩ := box_at HT.out.box 2 (by simp)
            simp only [List.getElem_toArray, List.getElem_cons_zero, List.getElem_cons_succ] at d0 d1 d2 d3 d4 d5 d6 d7 b2
            have hcc := fun j (hj : j < 8) => HX.out.wf.cell HQ2.out m j (by omega) (by rw [wideF]; exact hj)
            simp only [wideF] at hcc
            obtain ⟨e0, g0, -, z0⟩ := hcc 0 (by omega)
            obtain ⟨e1, g1, -, z1⟩ := hcc 1 (by omega)
            obtain ⟨e2, g2, -, z2⟩ := hcc 2 (by omega)
            obtain ⟨e3, g3, -, z3⟩ := hcc 3 (by omega)
            obtain ⟨e4, g4, -, z4⟩ := hcc 4 (by omega)
            obtain ⟨e5, g5, -, z5⟩ := hcc 5 (by omega)
            obtain ⟨e6, g6, -, z6⟩ := hcc 6 (by omega)
            obtain ⟨e7, g7, -, z7⟩ := hcc 7 (by omega)
            rw [Nat.add_zero] at g0 z0
            clear hcc
            obtain ⟨Y, hY, hX6, hB6⟩ : ∃ Y, Y = ((((((((wX.setCell ⟨gF, m * 8, none⟩ (.string fn)).setCell ⟨gF, m * 8 + 1, none⟩ (.string fo)).setCell ⟨gF, m * 8 + 2, none⟩ (.bool l)).setCell ⟨gF, m * 8 + 3, none⟩ (.bool mu)).setCell ⟨gF, m * 8 + 4, none⟩ (.bool fr)).setCell ⟨gF, m * 8 + 5, none⟩ (.bool hd)).setCell ⟨gF, m * 8 + 6, none⟩ (.bool sh)).setCell ⟨gF, m * 8 + 7, none⟩ (.slice na nl nc)) ∧ XSt w rb cb XB Y σF bdS (q + 3) nm tb len cap ∧ ∀ M cs T, Box w wX σF XB M cs T → Box w Y σF XB M cs T := ⟨_, rfl, HX.out.put8 (k := m) HQ2.out fn fo l mu fr hd sh (.slice na nl nc) hfn hfo ⟨_, _, _, rfl, Nat.le_trans hs1 (by decide), hs2, hs3, SlIn.ext (T := 9) (n := nl) hs4 HEx.out⟩ _ rfl⟩
            have HYE := hid_of hY
            have HX6 := hid_of hX6
            have HT6 := hid_of (hB6 _ _ _ HT.out)
            clear hY hX6 hB6
            go_upto_region 26 with fail
            rw [← HYE.out]
            clear b2 d0 d1 d2 d3 d4 d5 d6 d7 g0 z0 g1 z1 g2 z2 g3 z3 g4 z4 g5 z5 g6 z6 g7 z7 HX HT HF HYE
            obtain ⟨b0, -⟩ := box_at HT6.out.box 0 (by simp)
            obtain ⟨b1, -⟩ := box_at HT6.out.box 1 (by simp)
            obtain ⟨b2, -⟩ := box_at HT6.out.box 2 (by simp)
            obtain ⟨x1, -⟩ := box_at HX6.out.xb 1 (by simp)
            simp only [List.getElem_toArray, List.getElem_cons_zero, List.getElem_cons_succ] at b0 b1 b2 x1
            have hkc : k < cap := by have := HX6.out.le; omega
            have hcc := fun j (hj : j < 3) => HX6.out.wf.cell HX6.out.blk k j hkc (by rw [wideT]; exact hj)
            simp only [wideT] at hcc
            obtain ⟨e0, g0, -, z0⟩ := hcc 0 (by omega)
            obtain ⟨e1, g1, -, z1⟩ := hcc 1 (by omega)
            obtain ⟨e2, g2, -, z2⟩ := hcc 2 (by omega)
            rw [Nat.add_zero] at g0 z0
            clear hcc
            obtain ⟨Z, hZ, hX7⟩ : ∃ Z, Z = (((Y.setCell ⟨tb, k * 3, none⟩ (.string tn)).setCell ⟨tb, k * 3 + 1, none⟩ (.string tk)).setCell ⟨tb, k * 3 + 2, none⟩ (.slice (some ⟨gF, 0, none⟩) (fl + 1) capF)) ∧ XSt w rb cb XB Z σF bdS (q + 3) nm tb len cap := ⟨_, rfl, HX6.out.put3 k tn tk (.slice (some ⟨gF, 0, none⟩) (fl + 1) capF) htn rfl htk ⟨_, _, _, rfl, by show fl + 1 ≤ 121; omega, hq3, hq4, Or.inr ⟨gF, rfl, HQ2.out⟩⟩ _ rfl⟩
            have HZE := hid_of hZ
            have HX7 := hid_of hX7
            clear hZ hX7
            go_upto_region 27 with fail
            rw [← HZE.out]
            clear b0 b1 b2 x1 g0 g1 g2 z0 z1 z2 HX6 HT6 HZE
            obtain ⟨x0, -⟩ := box_at HX7.out.xb 0 (by simp)
            obtain ⟨x1, -⟩ := box_at HX7.out.xb 1 (by simp)
            obtain ⟨y0, yf0⟩ := box_at HX7.out.rbox 0 (by simp)
            obtain ⟨y1, yf1⟩ := box_at HX7.out.rbox 1 (by simp)
            simp only [List.getElem_toArray, List.getElem_cons_zero, List.getElem_cons_succ] at x0 x1 y0 y1
            go_wp2_with fail
            have hdd := sets2_cells HX7.out.rbox (.string nm) (.slice (some ⟨tb, 0, none⟩) len cap)
            exact bodyPost_ret (spResult _ _ (w.heap.size + 1) (.string nm) (.slice (some ⟨tb, 0, none⟩) len cap) rfl hdd.1 hdd.2) rfl (HX7.out.fin (by decide) (by decide) 0 len cap (by omega) (by omega) HX7.out.le)
          refine rcH (fun K hK => ?_) AllReadyH.nil
          go_simp
          have bE := below_box wA1 (.cells #[.string fn, .string fo, .bool l, .bool mu, .bool fr, .bool hd, .bool sh, .slice na nl nc] 37)
          obtain ⟨gE, hgE⟩ : ∃ g, g = wA1.heap.size := ⟨_, rfl⟩
          have nE := block_new (w := wA1) (N := gE) #[.string fn, .string fo, .bool l, .bool mu, .bool fr, .bool hd, .bool sh, .slice na nl nc] 37 hgE.symm
          try have bX := bX.trans (bE.mono bX.size)
          try have rX := (bE.block rb (by have := cX.size; have := HX5.out.rd.lt.1; omega)).trans rX
          try have cX := cX.trans (Chg.below rb _ bE)
          try have nA := (bE.block gA (Array.getElem?_eq_some_iff.1 nA).1).trans nA
          refine hK.out _ _ (HSD.out _ (by first | exact cX.keep _ HF5.out.lt HF5.out.nil hFr | exact bX.block _ HF5.out.lt)) (fun hHeld => ?_)
          clear hK K
          try simp only [Act.put, List.setIfInBounds_toArray, List.set_cons_zero, List.set_cons_succ]
          rw [← hgE]
          generalize wA1.alloc (.cells #[.string fn, .string fo, .bool l, .bool mu, .bool fr, .bool hd, .bool sh, .slice na nl nc] 37) = wE1 at *
          clear hgE bE
          refine rdyH [3] ?_
          refine rcH (fun K hK => ?_) AllReadyH.nil
          have hWA : Wf wE1 (σ.add gA 37 0) bdC := (HX5.out.wf.below bX).add (HX5.out.wf.fresh hgA2) nA rfl (fun k v hv => by simp at hv)
          refine step_append_wf hWA rfl (.tmp 40) (.tmp 42) 46 rfl 37 iF _ 64 Try.underlying46 hiF hzF hsF hbF rfl (zeroF _ _) (some ⟨gA, 0, none⟩) 0 0 rfl (Nat.le_refl _) (Nat.zero_le _) (Or.inr ⟨gA, rfl, Sh.add_self _ _ _ _⟩) ⟨fb, 0, none⟩ fl fp NL rfl HNL.out.1 (fun j u hu => (bX.cell (p := (⟨fb, 0, none⟩ : Addr).add j) (by rw [Addr.add_lit]; exact HX5.out.wf.lt hfb)).trans (HNL.out.2.1 j u hu)) HNL.out.2.2.1 (fun j u hu => (HNL.out.2.2.2 j u hu).ext (Sh.add_ext (HX5.out.wf.fresh hgA2)) (Bd.le.refl _)) (by omega) (by unfold maxLen; omega) (by omega) ?_
          intro g1 cap1 wF1 σ1 q1 q2 q3 q4 q5 q6 q7 q8 q9
          simp only [Nat.zero_add] at q3 ⊢
          try have nE := (q7.block gE (Array.getElem?_eq_some_iff.1 nE).1 (fun e => HNEQ.out gE gA nE nA (Option.some.inj e))).trans nE
          have cA : Chg rb wG wE1 σ (σ.add gA 37 0) := ⟨Sh.add_ext (HX5.out.wf.fresh hgA2), fun x hx => Sh.add_ne _ _ _ _ _ (by omega), fun x hx _ _ => bX.block x hx, bX.size, bX.os, bX.tape, bX.output⟩
          have cX := cA.grown q7 (fun x hx => ⟨_, _, by cases hx; exact Sh.add_self _ _ _ _⟩) q5 q6
          have rX : wF1.heap[rb]? = wG.heap[rb]? := (q7.block rb (by have := bX.size; have := HX5.out.rd.lt.1; omega) (fun e => by have e := Option.some.inj e; have e : rb = gA := e; have := HX5.out.rd.lt.1; omega)).trans (bX.block rb HX5.out.rd.lt.1)
          have H1 := hid_of (And.intro q1 q2)
          have q31 := q3
          have q41 := q4
          clear hWA cA bX q1 q2 q3 q4 q5 q6 q7 q8 q9
          try have nA := (bF.block gA (Array.getElem?_eq_some_iff.1 nA).1).trans nA
          try have nE := (bF.block gE (Array.getElem?_eq_some_iff.1 nE).1).trans nE
          refine hK.out _ _ (HSD.out _ (by first | exact cX.keep _ HF5.out.lt HF5.out.nil hFr | exact bX.block _ HF5.out.lt)) (fun hHeld => ?_)
          clear hK K
          try simp only [Act.put, List.setIfInBounds_toArray, List.set_cons_zero, List.set_cons_succ]
          refine rdyH [6] ?_
          refine rcH (fun K hK => ?_) AllReadyH.nil
          refine step_append_wf H1.out.1 rfl (.tmp 43) (.tmp 45) 46 rfl 37 iF _ 64 Try.underlying46 hiF hzF hsF hbF rfl (zeroF _ _) (some ⟨g1, 0, none⟩) fl cap1 rfl q31 q41 (Or.inr ⟨g1, rfl, H1.out.2⟩) ⟨gE, 0, none⟩ 1 1 [.string fn, .string fo, .bool l, .bool mu, .bool fr, .bool hd, .bool sh, .slice na nl nc] rfl rfl (World.news_of_block nE) (by intro u hu; simp at hu; rcases hu with rfl | rfl | rfl | rfl | rfl | rfl | rfl | rfl <;> rfl) (cells_list (T := 37) (cs := #[.string fn, .string fo, .bool l, .bool mu, .bool fr, .bool hd, .bool sh, .slice na nl nc]) rfl (fieldCells σ1 bdC fn fo l mu fr hd sh (.slice na nl nc) hfn hfo ⟨_, _, _, rfl, hs1, hs2, hs3, SlIn.ext (T := 9) (n := nl) hs4 cX.ext⟩)) (by omega) (by unfold maxLen; omega) (by omega) ?_
          intro gF capF wF2 σF q1 q2 q3 q4 q5 q6 q7 q8 q9
          have rX : wF2.heap[rb]? = wG.heap[rb]? := (q7.block rb (by have := cX.size; have := HX5.out.rd.lt.1; omega) (fun e => HNR.out σ1 g1 _ _ cX.same H1.out.2 (Option.some.inj e).symm)).trans rX
          have cX := cX.grown q7 (fun x hx => ⟨_, _, by cases hx; exact H1.out.2⟩) q5 q6
          have HQ := hid_of (And.intro q1 q2)
          have hq3 := q3
          have hq4 := q4
          clear q1 q2 q3 q4 q5 q6 q7 q8 q9
          try have nA := (bG.block gA (Array.getElem?_eq_some_iff.1 nA).1).trans nA
          try have nE := (bG.block gE (Array.getElem?_eq_some_iff.1 nE).1).trans nE
          try have H1 := hid_of (And.intro (H1.out.1.below bG) H1.out.2)
          refine hK.out _ _ (HSD.out _ (by first | exact cX.keep _ HF5.out.lt HF5.out.nil hFr | exact bX.block _ HF5.out.lt)) (fun hHeld => ?_)
          clear hK K
          try simp only [Act.put, List.setIfInBounds_toArray, List.set_cons_zero, List.set_cons_succ]
          refine tkH 7 hHeld ?_
          refine rdyH [8] ?_
          refine rcH (fun K hK => ?_) AllReadyH.nil
          obtain ⟨c1, z1⟩ := box_at (HT5.out.chg HX5.out.rlt cX).box 2 (by simp)
          simp only [List.getElem_toArray, List.getElem_cons_zero, List.getElem_cons_succ] at c1
          go_simp
          clear c1 z1
          refine hK.out _ _ (HSD.out _ ((Below.heap_setCell _ _ _ _ (Ne.symm hTF)).trans (cX.keep _ HF5.out.lt HF5.out.nil hFr))) (fun hHeld => ?_)
          clear hK K
          try simp only [Act.put, List.setIfInBounds_toArray, List.set_cons_zero, List.set_cons_succ]
          refine wpAnyH_done (by kernel_rfl) ?_ _
          have HXb := hid_of (HX5.out.chg cX HQ.out.1 (HX5.out.rdk cX rX))
          have HFb := hid_of (HF5.out.chg HX5.out.rlt cX)
          have HTb := hid_of (HT5.out.chg HX5.out.rlt cX)
          have HX := hid_of (HXb.out.boxed HTb.out 2 (.slice (some ⟨gF, 0, none⟩) (fl + 1) capF))
          have HT : Hid (Box w (wF2.setCell ⟨TX, 2, none⟩ (.slice (some ⟨gF, 0, none⟩) (fl + 1) capF)) σF XB TX #[.string tn, .string tk, .slice (some ⟨gF, 0, none⟩) (fl + 1) capF] 48) := hid_of (HTb.out.set 2 (.slice (some ⟨gF, 0, none⟩) (fl + 1) capF))
          have HF := hid_of (HFb.out.other (M := TX) (j := 2) (Ne.symm hTF) (.slice (some ⟨gF, 0, none⟩) (fl + 1) capF))
          have HQ2 := hid_of HQ.out.2
          have HEx := hid_of cX.ext
          generalize wF2.setCell ⟨TX, 2, none⟩ (.slice (some ⟨gF, 0, none⟩) (fl + 1) capF) = wX at *
          clear HX5 HF5 HT5 HXb HFb HTb HQ cX H1 rX nE HNL HCL HSD HNEQ HNR
          go_upto_region 25 with fail
          have HX := hid_of (HX.out.le' bdCS)
          obtain ⟨d0, -⟩ := box_at HF.out.box 0 (by simp)
          obtain ⟨d1, -⟩ := box_at HF.out.box 1 (by simp)
          obtain ⟨d2, -⟩ := box_at HF.out.box 2 (by simp)
          obtain ⟨d3, -⟩ := box_at HF.out.box 3 (by simp)
          obtain ⟨d4, -⟩ := box_at HF.out.box 4 (by simp)
          obtain ⟨d5, -⟩ := box_at HF.out.box 5 (by simp)
          obtain ⟨d6, -⟩ := box_at HF.out.box 6 (by simp)
          obtain ⟨d7, -⟩ := box_at HF.out.box 7 (by simp)
          obtain ⟨b2, -⟩ := box_at HT.out.box 2 (by simp)
          simp only [List.getElem_toArray, List.getElem_cons_zero, List.getElem_cons_succ] at d0 d1 d2 d3 d4 d5 d6 d7 b2
          have hcc := fun j (hj : j < 8) => HX.out.wf.cell HQ2.out m j (by omega) (by rw [wideF]; exact hj)
          simp only [wideF] at hcc
          obtain ⟨e0, g0, -, z0⟩ := hcc 0 (by omega)
          obtain ⟨e1, g1, -, z1⟩ := hcc 1 (by omega)
          obtain ⟨e2, g2, -, z2⟩ := hcc 2 (by omega)
          obtain ⟨e3, g3, -, z3⟩ := hcc 3 (by omega)
          obtain ⟨e4, g4, -, z4⟩ := hcc 4 (by omega)
          obtain ⟨e5, g5, -, z5⟩ := hcc 5 (by omega)
          obtain ⟨e6, g6, -, z6⟩ := hcc 6 (by omega)
          obtain ⟨e7, g7, -, z7⟩ := hcc 7 (by omega)
          rw [Nat.add_zero] at g0 z0
          clear hcc
          obtain ⟨Y, hY, hX6, hB6⟩ : ∃ Y, Y = ((((((((wX.setCell ⟨gF, m * 8, none⟩ (.string fn)).setCell ⟨gF, m * 8 + 1, none⟩ (.string fo)).setCell ⟨gF, m * 8 + 2, none⟩ (.bool l)).setCell ⟨gF, m * 8 + 3, none⟩ (.bool mu)).setCell ⟨gF, m * 8 + 4, none⟩ (.bool fr)).setCell ⟨gF, m * 8 + 5, none⟩ (.bool hd)).setCell ⟨gF, m * 8 + 6, none⟩ (.bool sh)).setCell ⟨gF, m * 8 + 7, none⟩ (.slice na nl nc)) ∧ XSt w rb cb XB Y σF bdS (q + 3) nm tb len cap ∧ ∀ M cs T, Box w wX σF XB M cs T → Box w Y σF XB M cs T := ⟨_, rfl, HX.out.put8 (k := m) HQ2.out fn fo l mu fr hd sh (.slice na nl nc) hfn hfo ⟨_, _, _, rfl, Nat.le_trans hs1 (by decide), hs2, hs3, SlIn.ext (T := 9) (n := nl) hs4 HEx.out⟩ _ rfl⟩
          have HYE := hid_of hY
          have HX6 := hid_of hX6
          have HT6 := hid_of (hB6 _ _ _ HT.out)
          clear hY hX6 hB6
          go_upto_region 26 with fail
          rw [← HYE.out]
          clear b2 d0 d1 d2 d3 d4 d5 d6 d7 g0 z0 g1 z1 g2 z2 g3 z3 g4 z4 g5 z5 g6 z6 g7 z7 HX HT HF HYE
          obtain ⟨b0, -⟩ := box_at HT6.out.box 0 (by simp)
          obtain ⟨b1, -⟩ := box_at HT6.out.box 1 (by simp)
          obtain ⟨b2, -⟩ := box_at HT6.out.box 2 (by simp)
          obtain ⟨x1, -⟩ := box_at HX6.out.xb 1 (by simp)
          simp only [List.getElem_toArray, List.getElem_cons_zero, List.getElem_cons_succ] at b0 b1 b2 x1
          have hkc : k < cap := by have := HX6.out.le; omega
          have hcc := fun j (hj : j < 3) => HX6.out.wf.cell HX6.out.blk k j hkc (by rw [wideT]; exact hj)
          simp only [wideT] at hcc
          obtain ⟨e0, g0, -, z0⟩ := hcc 0 (by omega)
          obtain ⟨e1, g1, -, z1⟩ := hcc 1 (by omega)
          obtain ⟨e2, g2, -, z2⟩ := hcc 2 (by omega)
          rw [Nat.add_zero] at g0 z0
          clear hcc
          obtain ⟨Z, hZ, hX7⟩ : ∃ Z, Z = (((Y.setCell ⟨tb, k * 3, none⟩ (.string tn)).setCell ⟨tb, k * 3 + 1, none⟩ (.string tk)).setCell ⟨tb, k * 3 + 2, none⟩ (.slice (some ⟨gF, 0, none⟩) (fl + 1) capF)) ∧ XSt w rb cb XB Z σF bdS (q + 3) nm tb len cap := ⟨_, rfl, HX6.out.put3 k tn tk (.slice (some ⟨gF, 0, none⟩) (fl + 1) capF) htn rfl htk ⟨_, _, _, rfl, by show fl + 1 ≤ 121; omega, hq3, hq4, Or.inr ⟨gF, rfl, HQ2.out⟩⟩ _ rfl⟩
          have HZE := hid_of hZ
          have HX7 := hid_of hX7
          clear hZ hX7
          go_upto_region 27 with fail
          rw [← HZE.out]
          clear b0 b1 b2 x1 g0 g1 g2 z0 z1 z2 HX6 HT6 HZE
          obtain ⟨x0, -⟩ := box_at HX7.out.xb 0 (by simp)
          obtain ⟨x1, -⟩ := box_at HX7.out.xb 1 (by simp)
          obtain ⟨y0, yf0⟩ := box_at HX7.out.rbox 0 (by simp)
          obtain ⟨y1, yf1⟩ := box_at HX7.out.rbox 1 (by simp)
          simp only [List.getElem_toArray, List.getElem_cons_zero, List.getElem_cons_succ] at x0 x1 y0 y1
          go_wp2_with fail
          have hdd := sets2_cells HX7.out.rbox (.string nm) (.slice (some ⟨tb, 0, none⟩) len cap)
          exact bodyPost_ret (spResult _ _ (w.heap.size + 1) (.string nm) (.slice (some ⟨tb, 0, none⟩) len cap) rfl hdd.1 hdd.2) rfl (HX7.out.fin (by decide) (by decide) 0 len cap (by omega) (by omega) HX7.out.le)
        refine rcH (fun K hK => ?_) AllReadyH.nil
        go_simp
        have bE := below_box wA1 (.cells #[.string fn, .string fo, .bool l, .bool mu, .bool fr, .bool hd, .bool sh, .slice na nl nc] 37)
        obtain ⟨gE, hgE⟩ : ∃ g, g = wA1.heap.size := ⟨_, rfl⟩
        have nE := block_new (w := wA1) (N := gE) #[.string fn, .string fo, .bool l, .bool mu, .bool fr, .bool hd, .bool sh, .slice na nl nc] 37 hgE.symm
        try have bX := bX.trans (bE.mono bX.size)
        try have rX := (bE.block rb (by have := cX.size; have := HX5.out.rd.lt.1; omega)).trans rX
        try have cX := cX.trans (Chg.below rb _ bE)
        try have nA := (bE.block gA (Array.getElem?_eq_some_iff.1 nA).1).trans nA
        refine hK.out _ _ (HSD.out _ (by first | exact cX.keep _ HF5.out.lt HF5.out.nil hFr | exact bX.block _ HF5.out.lt)) (fun hHeld => ?_)
        clear hK K
        try simp only [Act.put, List.setIfInBounds_toArray, List.set_cons_zero, List.set_cons_succ]
        rw [← hgE]
        generalize wA1.alloc (.cells #[.string fn, .string fo, .bool l, .bool mu, .bool fr, .bool hd, .bool sh, .slice na nl nc] 37) = wE1 at *
        clear hgE bE
        refine rdyH [2] ?_
        refine rcH (fun K hK => ?_) AllReadyH.nil
        have c1 := HCL.out wE1 bX
        go_simp
        clear c1
        refine hK.out _ _ (HSD.out _ (by first | exact cX.keep _ HF5.out.lt HF5.out.nil hFr | exact bX.block _ HF5.out.lt)) (fun hHeld => ?_)
        clear hK K
        try simp only [Act.put, List.setIfInBounds_toArray, List.set_cons_zero, List.set_cons_succ]
        refine rdyH [3] ?_
        refine rcH (fun K hK => ?_) AllReadyH.nil
        have hWA : Wf wE1 (σ.add gA 37 0) bdC := (HX5.out.wf.below bX).add (HX5.out.wf.fresh hgA2) nA rfl (fun k v hv => by simp at hv)
        refine step_append_wf hWA rfl (.tmp 40) (.tmp 42) 46 rfl 37 iF _ 64 Try.underlying46 hiF hzF hsF hbF rfl (zeroF _ _) (some ⟨gA, 0, none⟩) 0 0 rfl (Nat.le_refl _) (Nat.zero_le _) (Or.inr ⟨gA, rfl, Sh.add_self _ _ _ _⟩) ⟨fb, 0, none⟩ fl fp NL rfl HNL.out.1 (fun j u hu => (bX.cell (p := (⟨fb, 0, none⟩ : Addr).add j) (by rw [Addr.add_lit]; exact HX5.out.wf.lt hfb)).trans (HNL.out.2.1 j u hu)) HNL.out.2.2.1 (fun j u hu => (HNL.out.2.2.2 j u hu).ext (Sh.add_ext (HX5.out.wf.fresh hgA2)) (Bd.le.refl _)) (by omega) (by unfold maxLen; omega) (by omega) ?_
        intro g1 cap1 wF1 σ1 q1 q2 q3 q4 q5 q6 q7 q8 q9
        simp only [Nat.zero_add] at q3 ⊢
        try have nE := (q7.block gE (Array.getElem?_eq_some_iff.1 nE).1 (fun e => HNEQ.out gE gA nE nA (Option.some.inj e))).trans nE
        have cA : Chg rb wG wE1 σ (σ.add gA 37 0) := ⟨Sh.add_ext (HX5.out.wf.fresh hgA2), fun x hx => Sh.add_ne _ _ _ _ _ (by omega), fun x hx _ _ => bX.block x hx, bX.size, bX.os, bX.tape, bX.output⟩
        have cX := cA.grown q7 (fun x hx => ⟨_, _, by cases hx; exact Sh.add_self _ _ _ _⟩) q5 q6
        have rX : wF1.heap[rb]? = wG.heap[rb]? := (q7.block rb (by have := bX.size; have := HX5.out.rd.lt.1; omega) (fun e => by have e := Option.some.inj e; have e : rb = gA := e; have := HX5.out.rd.lt.1; omega)).trans (bX.block rb HX5.out.rd.lt.1)
        have H1 := hid_of (And.intro q1 q2)
        have q31 := q3
        have q41 := q4
        clear hWA cA bX q1 q2 q3 q4 q5 q6 q7 q8 q9
        try have nA := (bF.block gA (Array.getElem?_eq_some_iff.1 nA).1).trans nA
        try have nE := (bF.block gE (Array.getElem?_eq_some_iff.1 nE).1).trans nE
        refine hK.out _ _ (HSD.out _ (by first | exact cX.keep _ HF5.out.lt HF5.out.nil hFr | exact bX.block _ HF5.out.lt)) (fun hHeld => ?_)
        clear hK K
        try simp only [Act.put, List.setIfInBounds_toArray, List.set_cons_zero, List.set_cons_succ]
        refine rdyH [6] ?_
        refine rcH (fun K hK => ?_) AllReadyH.nil
        refine step_append_wf H1.out.1 rfl (.tmp 43) (.tmp 45) 46 rfl 37 iF _ 64 Try.underlying46 hiF hzF hsF hbF rfl (zeroF _ _) (some ⟨g1, 0, none⟩) fl cap1 rfl q31 q41 (Or.inr ⟨g1, rfl, H1.out.2⟩) ⟨gE, 0, none⟩ 1 1 [.string fn, .string fo, .bool l, .bool mu, .bool fr, .bool hd, .bool sh, .slice na nl nc] rfl rfl (World.news_of_block nE) (by intro u hu; simp at hu; rcases hu with rfl | rfl | rfl | rfl | rfl | rfl | rfl | rfl <;> rfl) (cells_list (T := 37) (cs := #[.string fn, .string fo, .bool l, .bool mu, .bool fr, .bool hd, .bool sh, .slice na nl nc]) rfl (fieldCells σ1 bdC fn fo l mu fr hd sh (.slice na nl nc) hfn hfo ⟨_, _, _, rfl, hs1, hs2, hs3, SlIn.ext (T := 9) (n := nl) hs4 cX.ext⟩)) (by omega) (by unfold maxLen; omega) (by omega) ?_
        intro gF capF wF2 σF q1 q2 q3 q4 q5 q6 q7 q8 q9
        have rX : wF2.heap[rb]? = wG.heap[rb]? := (q7.block rb (by have := cX.size; have := HX5.out.rd.lt.1; omega) (fun e => HNR.out σ1 g1 _ _ cX.same H1.out.2 (Option.some.inj e).symm)).trans rX
        have cX := cX.grown q7 (fun x hx => ⟨_, _, by cases hx; exact H1.out.2⟩) q5 q6
        have HQ := hid_of (And.intro q1 q2)
        have hq3 := q3
        have hq4 := q4
        clear q1 q2 q3 q4 q5 q6 q7 q8 q9
        try have nA := (bG.block gA (Array.getElem?_eq_some_iff.1 nA).1).trans nA
        try have nE := (bG.block gE (Array.getElem?_eq_some_iff.1 nE).1).trans nE
        try have H1 := hid_of (And.intro (H1.out.1.below bG) H1.out.2)
        refine hK.out _ _ (HSD.out _ (by first | exact cX.keep _ HF5.out.lt HF5.out.nil hFr | exact bX.block _ HF5.out.lt)) (fun hHeld => ?_)
        clear hK K
        try simp only [Act.put, List.setIfInBounds_toArray, List.set_cons_zero, List.set_cons_succ]
        refine tkH 7 hHeld ?_
        refine rdyH [8] ?_
        refine rcH (fun K hK => ?_) AllReadyH.nil
        obtain ⟨c1, z1⟩ := box_at (HT5.out.chg HX5.out.rlt cX).box 2 (by simp)
        simp only [List.getElem_toArray, List.getElem_cons_zero, List.getElem_cons_succ] at c1
        go_simp
        clear c1 z1
        refine hK.out _ _ (HSD.out _ ((Below.heap_setCell _ _ _ _ (Ne.symm hTF)).trans (cX.keep _ HF5.out.lt HF5.out.nil hFr))) (fun hHeld => ?_)
        clear hK K
        try simp only [Act.put, List.setIfInBounds_toArray, List.set_cons_zero, List.set_cons_succ]
        refine wpAnyH_done (by kernel_rfl) ?_ _
        have HXb := hid_of (HX5.out.chg cX HQ.out.1 (HX5.out.rdk cX rX))
        have HFb := hid_of (HF5.out.chg HX5.out.rlt cX)
        have HTb := hid_of (HT5.out.chg HX5.out.rlt cX)
        have HX := hid_of (HXb.out.boxed HTb.out 2 (.slice (some ⟨gF, 0, none⟩) (fl + 1) capF))
        have HT : Hid (Box w (wF2.setCell ⟨TX, 2, none⟩ (.slice (some ⟨gF, 0, none⟩) (fl + 1) capF)) σF XB TX #[.string tn, .string tk, .slice (some ⟨gF, 0, none⟩) (fl + 1) capF] 48) := hid_of (HTb.out.set 2 (.slice (some ⟨gF, 0, none⟩) (fl + 1) capF))
        have HF := hid_of (HFb.out.other (M := TX) (j := 2) (Ne.symm hTF) (.slice (some ⟨gF, 0, none⟩) (fl + 1) capF))
        have HQ2 := hid_of HQ.out.2
        have HEx := hid_of cX.ext
        generalize wF2.setCell ⟨TX, 2, none⟩ (.slice (some ⟨gF, 0, none⟩) (fl + 1) capF) = wX at *
        clear HX5 HF5 HT5 HXb HFb HTb HQ cX H1 rX nE HNL HCL HSD HNEQ HNR
        go_upto_region 25 with fail
        have HX := hid_of (HX.out.le' bdCS)
        obtain ⟨d0, -⟩ := box_at HF.out.box 0 (by simp)
        obtain ⟨d1, -⟩ := box_at HF.out.box 1 (by simp)
        obtain ⟨d2, -⟩ := box_at HF.out.box 2 (by simp)
        obtain ⟨d3, -⟩ := box_at HF.out.box 3 (by simp)
        obtain ⟨d4, -⟩ := box_at HF.out.box 4 (by simp)
        obtain ⟨d5, -⟩ := box_at HF.out.box 5 (by simp)
        obtain ⟨d6, -⟩ := box_at HF.out.box 6 (by simp)
        obtain ⟨d7, -⟩ := box_at HF.out.box 7 (by simp)
        obtain ⟨b2, -⟩ := box_at HT.out.box 2 (by simp)
        simp only [List.getElem_toArray, List.getElem_cons_zero, List.getElem_cons_succ] at d0 d1 d2 d3 d4 d5 d6 d7 b2
        have hcc := fun j (hj : j < 8) => HX.out.wf.cell HQ2.out m j (by omega) (by rw [wideF]; exact hj)
        simp only [wideF] at hcc
        obtain ⟨e0, g0, -, z0⟩ := hcc 0 (by omega)
        obtain ⟨e1, g1, -, z1⟩ := hcc 1 (by omega)
        obtain ⟨e2, g2, -, z2⟩ := hcc 2 (by omega)
        obtain ⟨e3, g3, -, z3⟩ := hcc 3 (by omega)
        obtain ⟨e4, g4, -, z4⟩ := hcc 4 (by omega)
        obtain ⟨e5, g5, -, z5⟩ := hcc 5 (by omega)
        obtain ⟨e6, g6, -, z6⟩ := hcc 6 (by omega)
        obtain ⟨e7, g7, -, z7⟩ := hcc 7 (by omega)
        rw [Nat.add_zero] at g0 z0
        clear hcc
        obtain ⟨Y, hY, hX6, hB6⟩ : ∃ Y, Y = ((((((((wX.setCell ⟨gF, m * 8, none⟩ (.string fn)).setCell ⟨gF, m * 8 + 1, none⟩ (.string fo)).setCell ⟨gF, m * 8 + 2, none⟩ (.bool l)).setCell ⟨gF, m * 8 + 3, none⟩ (.bool mu)).setCell ⟨gF, m * 8 + 4, none⟩ (.bool fr)).setCell ⟨gF, m * 8 + 5, none⟩ (.bool hd)).setCell ⟨gF, m * 8 + 6, none⟩ (.bool sh)).setCell ⟨gF, m * 8 + 7, none⟩ (.slice na nl nc)) ∧ XSt w rb cb XB Y σF bdS (q + 3) nm tb len cap ∧ ∀ M cs T, Box w wX σF XB M cs T → Box w Y σF XB M cs T := ⟨_, rfl, HX.out.put8 (k := m) HQ2.out fn fo l mu fr hd sh (.slice na nl nc) hfn hfo ⟨_, _, _, rfl, Nat.le_trans hs1 (by decide), hs2, hs3, SlIn.ext (T := 9) (n := nl) hs4 HEx.out⟩ _ rfl⟩
        have HYE := hid_of hY
        have HX6 := hid_of hX6
        have HT6 := hid_of (hB6 _ _ _ HT.out)
        clear hY hX6 hB6
        go_upto_region 26 with fail
        rw [← HYE.out]
        clear b2 d0 d1 d2 d3 d4 d5 d6 d7 g0 z0 g1 z1 g2 z2 g3 z3 g4 z4 g5 z5 g6 z6 g7 z7 HX HT HF HYE
        obtain ⟨b0, -⟩ := box_at HT6.out.box 0 (by simp)
        obtain ⟨b1, -⟩ := box_at HT6.out.box 1 (by simp)
        obtain ⟨b2, -⟩ := box_at HT6.out.box 2 (by simp)
        obtain ⟨x1, -⟩ := box_at HX6.out.xb 1 (by simp)
        simp only [List.getElem_toArray, List.getElem_cons_zero, List.getElem_cons_succ] at b0 b1 b2 x1
        have hkc : k < cap := by have := HX6.out.le; omega
        have hcc := fun j (hj : j < 3) => HX6.out.wf.cell HX6.out.blk k j hkc (by rw [wideT]; exact hj)
        simp only [wideT] at hcc
        obtain ⟨e0, g0, -, z0⟩ := hcc 0 (by omega)
        obtain ⟨e1, g1, -, z1⟩ := hcc 1 (by omega)
        obtain ⟨e2, g2, -, z2⟩ := hcc 2 (by omega)
        rw [Nat.add_zero] at g0 z0
        clear hcc
        obtain ⟨Z, hZ, hX7⟩ : ∃ Z, Z = (((Y.setCell ⟨tb, k * 3, none⟩ (.string tn)).setCell ⟨tb, k * 3 + 1, none⟩ (.string tk)).setCell ⟨tb, k * 3 + 2, none⟩ (.slice (some ⟨gF, 0, none⟩) (fl + 1) capF)) ∧ XSt w rb cb XB Z σF bdS (q + 3) nm tb len cap := ⟨_, rfl, HX6.out.put3 k tn tk (.slice (some ⟨gF, 0, none⟩) (fl + 1) capF) htn rfl htk ⟨_, _, _, rfl, by show fl + 1 ≤ 121; omega, hq3, hq4, Or.inr ⟨gF, rfl, HQ2.out⟩⟩ _ rfl⟩
        have HZE := hid_of hZ
        have HX7 := hid_of hX7
        clear hZ hX7
        go_upto_region 27 with fail
        rw [← HZE.out]
        clear b0 b1 b2 x1 g0 g1 g2 z0 z1 z2 HX6 HT6 HZE
        obtain ⟨x0, -⟩ := box_at HX7.out.xb 0 (by simp)
        obtain ⟨x1, -⟩ := box_at HX7.out.xb 1 (by simp)
        obtain ⟨y0, yf0⟩ := box_at HX7.out.rbox 0 (by simp)
        obtain ⟨y1, yf1⟩ := box_at HX7.out.rbox 1 (by simp)
        simp only [List.getElem_toArray, List.getElem_cons_zero, List.getElem_cons_succ] at x0 x1 y0 y1
        go_wp2_with fail
        have hdd := sets2_cells HX7.out.rbox (.string nm) (.slice (some ⟨tb, 0, none⟩) len cap)
        exact bodyPost_ret (spResult _ _ (w.heap.size + 1) (.string nm) (.slice (some ⟨tb, 0, none⟩) len cap) rfl hdd.1 hdd.2) rfl (HX7.out.fin (by decide) (by decide) 0 len cap (by omega) (by omega) HX7.out.le)
      refine rcH (fun K hK => ?_) ?_
      · have c1 := HCL.out wE0 bX
        go_simp
        clear c1
        refine hK.out _ _ (HSD.out _ (by first | exact cX.keep _ HF5.out.lt HF5.out.nil hFr | exact bX.block _ HF5.out.lt)) (fun hHeld => ?_)
        clear hK K
        try simp only [Act.put, List.setIfInBounds_toArray, List.set_cons_zero, List.set_cons_succ]
        refine rdyH [0, 5] ?_
        refine rcH (fun K hK => ?_) ?_
        · go_simp
          have bA := below_box wE0 (.cells #[] 37)
          obtain ⟨gA, hgA⟩ : ∃ g, g = wE0.heap.size := ⟨_, rfl⟩
          have nA := block_new (w := wE0) (N := gA) #[] 37 hgA.symm
          have hgA2 : wG.heap.size ≤ gA := by have := bX.size; omega
          have bX := bX.trans (bA.mono bX.size)
          refine hK.out _ _ (HSD.out _ (by first | exact cX.keep _ HF5.out.lt HF5.out.nil hFr | exact bX.block _ HF5.out.lt)) (fun hHeld => ?_)
          clear hK K
          try simp only [Act.put, List.setIfInBounds_toArray, List.set_cons_zero, List.set_cons_succ]
          rw [← hgA]
          generalize wE0.alloc (.cells #[] 37) = wA1 at *
          clear hgA bA
          refine rdyH [3, 5] ?_
          refine rcH (fun K hK => ?_) ?_
          · have hWA : Wf wA1 (σ.add gA 37 0) bdC := (HX5.out.wf.below bX).add (HX5.out.wf.fresh hgA2) nA rfl (fun k v hv => by simp at hv)
            refine step_append_wf hWA rfl (.tmp 40) (.tmp 42) 46 rfl 37 iF _ 64 Try.underlying46 hiF hzF hsF hbF rfl (zeroF _ _) (some ⟨gA, 0, none⟩) 0 0 rfl (Nat.le_refl _) (Nat.zero_le _) (Or.inr ⟨gA, rfl, Sh.add_self _ _ _ _⟩) ⟨fb, 0, none⟩ fl fp NL rfl HNL.out.1 (fun j u hu => (bX.cell (p := (⟨fb, 0, none⟩ : Addr).add j) (by rw [Addr.add_lit]; exact HX5.out.wf.lt hfb)).trans (HNL.out.2.1 j u hu)) HNL.out.2.2.1 (fun j u hu => (HNL.out.2.2.2 j u hu).ext (Sh.add_ext (HX5.out.wf.fresh hgA2)) (Bd.le.refl _)) (by omega) (by unfold maxLen; omega) (by omega) ?_
            intro g1 cap1 wF1 σ1 q1 q2 q3 q4 q5 q6 q7 q8 q9
            simp only [Nat.zero_add] at q3 ⊢
            try have nE := (q7.block gE (Array.getElem?_eq_some_iff.1 nE).1 (fun e => HNEQ.out gE gA nE nA (Option.some.inj e))).trans nE
            have cA : Chg rb wG wA1 σ (σ.add gA 37 0) := ⟨Sh.add_ext (HX5.out.wf.fresh hgA2), fun x hx => Sh.add_ne _ _ _ _ _ (by omega), fun x hx _ _ => bX.block x hx, bX.size, bX.os, bX.tape, bX.output⟩
            have cX := cA.grown q7 (fun x hx => ⟨_, _, by cases hx; exact Sh.add_self _ _ _ _⟩) q5 q6
            have rX : wF1.heap[rb]? = wG.heap[rb]? := (q7.block rb (by have := bX.size; have := HX5.out.rd.lt.1; omega) (fun e => by have e := Option.some.inj e; have e : rb = gA := e; have := HX5.out.rd.lt.1; omega)).trans (bX.block rb HX5.out.rd.lt.1)
            have H1 := hid_of (And.intro q1 q2)
            have q31 := q3
            have q41 := q4
            clear hWA cA bX q1 q2 q3 q4 q5 q6 q7 q8 q9
            try have nA := (bF.block gA (Array.getElem?_eq_some_iff.1 nA).1).trans nA
            refine hK.out _ _ (HSD.out _ (by first | exact cX.keep _ HF5.out.lt HF5.out.nil hFr | exact bX.block _ HF5.out.lt)) (fun hHeld => ?_)
            clear hK K
            try simp only [Act.put, List.setIfInBounds_toArray, List.set_cons_zero, List.set_cons_succ]
            refine rdyH [5] ?_
            refine rcH (fun K hK => ?_) AllReadyH.nil
            go_simp
            have bE := below_box wF1 (.cells #[.string fn, .string fo, .bool l, .bool mu, .bool fr, .bool hd, .bool sh, .slice na nl nc] 37)
            obtain ⟨gE, hgE⟩ : ∃ g, g = wF1.heap.size := ⟨_, rfl⟩
            have nE := block_new (w := wF1) (N := gE) #[.string fn, .string fo, .bool l, .bool mu, .bool fr, .bool hd, .bool sh, .slice na nl nc] 37 hgE.symm
            try have bX := bX.trans (bE.mono bX.size)
            try have rX := (bE.block rb (by have := cX.size; have := HX5.out.rd.lt.1; omega)).trans rX
            try have cX := cX.trans (Chg.below rb _ bE)
            try have nA := (bE.block gA (Array.getElem?_eq_some_iff.1 nA).1).trans nA
            try have H1 := hid_of (And.intro (H1.out.1.below bE) H1.out.2)
            refine hK.out _ _ (HSD.out _ (by first | exact cX.keep _ HF5.out.lt HF5.out.nil hFr | exact bX.block _ HF5.out.lt)) (fun hHeld => ?_)
            clear hK K
            try simp only [Act.put, List.setIfInBounds_toArray, List.set_cons_zero, List.set_cons_succ]
            rw [← hgE]
            generalize wF1.alloc (.cells #[.string fn, .string fo, .bool l, .bool mu, .bool fr, .bool hd, .bool sh, .slice na nl nc] 37) = wE1 at *
            clear hgE bE
            refine rdyH [6] ?_
            refine rcH (fun K hK => ?_) AllReadyH.nil
            refine step_append_wf H1.out.1 rfl (.tmp 43) (.tmp 45) 46 rfl 37 iF _ 64 Try.underlying46 hiF hzF hsF hbF rfl (zeroF _ _) (some ⟨g1, 0, none⟩) fl cap1 rfl q31 q41 (Or.inr ⟨g1, rfl, H1.out.2⟩) ⟨gE, 0, none⟩ 1 1 [.string fn, .string fo, .bool l, .bool mu, .bool fr, .bool hd, .bool sh, .slice na nl nc] rfl rfl (World.news_of_block nE) (by intro u hu; simp at hu; rcases hu with rfl | rfl | rfl | rfl | rfl | rfl | rfl | rfl <;> rfl) (cells_list (T := 37) (cs := #[.string fn, .string fo, .bool l, .bool mu, .bool fr, .bool hd, .bool sh, .slice na nl nc]) rfl (fieldCells σ1 bdC fn fo l mu fr hd sh (.slice na nl nc) hfn hfo ⟨_, _, _, rfl, hs1, hs2, hs3, SlIn.ext (T := 9) (n := nl) hs4 cX.ext⟩)) (by omega) (by unfold maxLen; omega) (by omega) ?_
            intro gF capF wF2 σF q1 q2 q3 q4 q5 q6 q7 q8 q9
            have rX : wF2.heap[rb]? = wG.heap[rb]? := (q7.block rb (by have := cX.size; have := HX5.out.rd.lt.1; omega) (fun e => HNR.out σ1 g1 _ _ cX.same H1.out.2 (Option.some.inj e).symm)).trans rX
            have cX := cX.grown q7 (fun x hx => ⟨_, _, by cases hx; exact H1.out.2⟩) q5 q6
            have HQ := hid_of (And.intro q1 q2)
            have hq3 := q3
            have hq4 := q4
            clear q1 q2 q3 q4 q5 q6 q7 q8 q9
            try have nA := (bG.block gA (Array.getElem?_eq_some_iff.1 nA).1).trans nA
            try have H1 := hid_of (And.intro (H1.out.1.below bG) H1.out.2)
            try have nE := (bG.block gE (Array.getElem?_eq_some_iff.1 nE).1).trans nE
            refine hK.out _ _ (HSD.out _ (by first | exact cX.keep _ HF5.out.lt HF5.out.nil hFr | exact bX.block _ HF5.out.lt)) (fun hHeld => ?_)
            clear hK K
            try simp only [Act.put, List.setIfInBounds_toArray, List.set_cons_zero, List.set_cons_succ]
            refine tkH 7 hHeld ?_
            refine rdyH [8] ?_
            refine rcH (fun K hK => ?_) AllReadyH.nil
            obtain ⟨c1, z1⟩ := box_at (HT5.out.chg HX5.out.rlt cX).box 2 (by simp)
            simp only [List.getElem_toArray, List.getElem_cons_zero, List.getElem_cons_succ] at c1
            go_simp
            clear c1 z1
            refine hK.out _ _ (HSD.out _ ((Below.heap_setCell _ _ _ _ (Ne.symm hTF)).trans (cX.keep _ HF5.out.lt HF5.out.nil hFr))) (fun hHeld => ?_)
            clear hK K
            try simp only [Act.put, List.setIfInBounds_toArray, List.set_cons_zero, List.set_cons_succ]
            refine wpAnyH_done (by kernel_rfl) ?_ _
            have HXb := hid_of (HX5.out.chg cX HQ.out.1 (HX5.out.rdk cX rX))
            have HFb := hid_of (HF5.out.chg HX5.out.rlt cX)
            have HTb := hid_of (HT5.out.chg HX5.out.rlt cX)
            have HX := hid_of (HXb.out.boxed HTb.out 2 (.slice (some ⟨gF, 0, none⟩) (fl + 1) capF))
            have HT : Hid (Box w (wF2.setCell ⟨TX, 2, none⟩ (.slice (some ⟨gF, 0, none⟩) (fl + 1) capF)) σF XB TX #[.string tn, .string tk, .slice (some ⟨gF, 0, none⟩) (fl + 1) capF] 48) := hid_of (HTb.out.set 2 (.slice (some ⟨gF, 0, none⟩) (fl + 1) capF))
            have HF := hid_of (HFb.out.other (M := TX) (j := 2) (Ne.symm hTF) (.slice (some ⟨gF, 0, none⟩) (fl + 1) capF))
            have HQ2 := hid_of HQ.out.2
            have HEx := hid_of cX.ext
            generalize wF2.setCell ⟨TX, 2, none⟩ (.slice (some ⟨gF, 0, none⟩) (fl + 1) capF) = wX at *
            clear HX5 HF5 HT5 HXb HFb HTb HQ cX H1 rX nE HNL HCL HSD HNEQ HNR
            go_upto_region 25 with fail
            have HX := hid_of (HX.out.le' bdCS)
            obtain ⟨d0, -⟩ := box_at HF.out.box 0 (by simp)
            obtain ⟨d1, -⟩ := box_at HF.out.box 1 (by simp)
            obtain ⟨d2, -⟩ := box_at HF.out.box 2 (by simp)
            obtain ⟨d3, -⟩ := box_at HF.out.box 3 (by simp)
            obtain ⟨d4, -⟩ := box_at HF.out.box 4 (by simp)
            obtain ⟨d5, -⟩ := box_at HF.out.box 5 (by simp)
            obtain ⟨d6, -⟩ := box_at HF.out.box 6 (by simp)
            obtain ⟨d7, -⟩ := box_at HF.out.box 7 (by simp)
            obtain ⟨b2, -⟩ := box_at HT.out.box 2 (by simp)
            simp only [List.getElem_toArray, List.getElem_cons_zero, List.getElem_cons_succ] at d0 d1 d2 d3 d4 d5 d6 d7 b2
            have hcc := fun j (hj : j < 8) => HX.out.wf.cell HQ2.out m j (by omega) (by rw [wideF]; exact hj)
            simp only [wideF] at hcc
            obtain ⟨e0, g0, -, z0⟩ := hcc 0 (by omega)
            obtain ⟨e1, g1, -, z1⟩ := hcc 1 (by omega)
            obtain ⟨e2, g2, -, z2⟩ := hcc 2 (by omega)
            obtain ⟨e3, g3, -, z3⟩ := hcc 3 (by omega)
            obtain ⟨e4, g4, -, z4⟩ := hcc 4 (by omega)
            obtain ⟨e5, g5, -, z5⟩ := hcc 5 (by omega)
            obtain ⟨e6, g6, -, z6⟩ := hcc 6 (by omega)
            obtain ⟨e7, g7, -, z7⟩ := hcc 7 (by omega)
            rw [Nat.add_zero] at g0 z0
            clear hcc
            obtain ⟨Y, hY, hX6, hB6⟩ : ∃ Y, Y = ((((((((wX.setCell ⟨gF, m * 8, none⟩ (.string fn)).setCell ⟨gF, m * 8 + 1, none⟩ (.string fo)).setCell ⟨gF, m * 8 + 2, none⟩ (.bool l)).setCell ⟨gF, m * 8 + 3, none⟩ (.bool mu)).setCell ⟨gF, m * 8 + 4, none⟩ (.bool fr)).setCell ⟨gF, m * 8 + 5, none⟩ (.bool hd)).setCell ⟨gF, m * 8 + 6, none⟩ (.bool sh)).setCell ⟨gF, m * 8 + 7, none⟩ (.slice na nl nc)) ∧ XSt w rb cb XB Y σF bdS (q + 3) nm tb len cap ∧ ∀ M cs T, Box w wX σF XB M cs T → Box w Y σF XB M cs T := ⟨_, rfl, HX.out.put8 (k := m) HQ2.out fn fo l mu fr hd sh (.slice na nl nc) hfn hfo ⟨_, _, _, rfl, Nat.le_trans hs1 (by decide), hs2, hs3, SlIn.ext (T := 9) (n := nl) hs4 HEx.out⟩ _ rfl⟩
            have HYE := hid_of hY
            have HX6 := hid_of hX6
            have HT6 := hid_of (hB6 _ _ _ HT.out)
            clear hY hX6 hB6
            go_upto_region 26 with fail
            rw [← HYE.out]
            clear b2 d0 d1 d2 d3 d4 d5 d6 d7 g0 z0 g1 z1 g2 z2 g3 z3 g4 z4 g5 z5 g6 z6 g7 z7 HX HT HF HYE
            obtain ⟨b0, -⟩ := box_at HT6.out.box 0 (by simp)
            obtain ⟨b1, -⟩ := box_at HT6.out.box 1 (by simp)
            obtain ⟨b2, -⟩ := box_at HT6.out.box 2 (by simp)
            obtain ⟨x1, -⟩ := box_at HX6.out.xb 1 (by simp)
            simp only [List.getElem_toArray, List.getElem_cons_zero, List.getElem_cons_succ] at b0 b1 b2 x1
            have hkc : k < cap := by have := HX6.out.le; omega
            have hcc := fun j (hj : j < 3) => HX6.out.wf.cell HX6.out.blk k j hkc (by rw [wideT]; exact hj)
            simp only [wideT] at hcc
            obtain ⟨e0, g0, -, z0⟩ := hcc 0 (by omega)
            obtain ⟨e1, g1, -, z1⟩ := hcc 1 (by omega)
            obtain ⟨e2, g2, -, z2⟩ := hcc 2 (by omega)
            rw [Nat.add_zero] at g0 z0
            clear hcc
            obtain ⟨Z, hZ, hX7⟩ : ∃ Z, Z = (((Y.setCell ⟨tb, k * 3, none⟩ (.string tn)).setCell ⟨tb, k * 3 + 1, none⟩ (.string tk)).setCell ⟨tb, k * 3 + 2, none⟩ (.slice (some ⟨gF, 0, none⟩) (fl + 1) capF)) ∧ XSt w rb cb XB Z σF bdS (q + 3) nm tb len cap := ⟨_, rfl, HX6.out.put3 k tn tk (.slice (some ⟨gF, 0, none⟩) (fl + 1) capF) htn rfl htk ⟨_, _, _, rfl, by show fl + 1 ≤ 121; omega, hq3, hq4, Or.inr ⟨gF, rfl, HQ2.out⟩⟩ _ rfl⟩
            have HZE := hid_of hZ
            have HX7 := hid_of hX7
            clear hZ hX7
            go_upto_region 27 with fail
            rw [← HZE.out]
            clear b0 b1 b2 x1 g0 g1 g2 z0 z1 z2 HX6 HT6 HZE
            obtain ⟨x0, -⟩ := box_at HX7.out.xb 0 (by simp)
            obtain ⟨x1, -⟩ := box_at HX7.out.xb 1 (by simp)
            obtain ⟨y0, yf0⟩ := box_at HX7.out.rbox 0 (by simp)
            obtain ⟨y1, yf1⟩ := box_at HX7.out.rbox 1 (by simp)
            simp only [List.getElem_toArray, List.getElem_cons_zero, List.getElem_cons_succ] at x0 x1 y0 y1
            go_wp2_with fail
            have hdd := sets2_cells HX7.out.rbox (.string nm) (.slice (some ⟨tb, 0, none⟩) len cap)
            exact bodyPost_ret (spResult _ _ (w.heap.size + 1) (.string nm) (.slice (some ⟨tb, 0, none⟩) len cap) rfl hdd.1 hdd.2) rfl (HX7.out.fin (by decide) (by decide) 0 len cap (by omega) (by omega) HX7.out.le)
          refine rcH (fun K hK => ?_) AllReadyH.nil
          go_simp
          have bE := below_box wA1 (.cells #[.string fn, .string fo, .bool l, .bool mu, .bool fr, .bool hd, .bool sh, .slice na nl nc] 37)
          obtain ⟨gE, hgE⟩ : ∃ g, g = wA1.heap.size := ⟨_, rfl⟩
          have nE := block_new (w := wA1) (N := gE) #[.string fn, .string fo, .bool l, .bool mu, .bool fr, .bool hd, .bool sh, .slice na nl nc] 37 hgE.symm
          try have bX := bX.trans (bE.mono bX.size)
          try have rX := (bE.block rb (by have := cX.size; have := HX5.out.rd.lt.1; omega)).trans rX
          try have cX := cX.trans (Chg.below rb _ bE)
          try have nA := (bE.block gA (Array.getElem?_eq_some_iff.1 nA).1).trans nA
          refine hK.out _ _ (HSD.out _ (by first | exact cX.keep _ HF5.out.lt HF5.out.nil hFr | exact bX.block _ HF5.out.lt)) (fun hHeld => ?_)
          clear hK K
          try simp only [Act.put, List.setIfInBounds_toArray, List.set_cons_zero, List.set_cons_succ]
          rw [← hgE]
          generalize wA1.alloc (.cells #[.string fn, .string fo, .bool l, .bool mu, .bool fr, .bool hd, .bool sh, .slice na nl nc] 37) = wE1 at *
          clear hgE bE
          refine rdyH [3] ?_
          refine rcH (fun K hK => ?_) AllReadyH.nil
          have hWA : Wf wE1 (σ.add gA 37 0) bdC := (HX5.out.wf.below bX).add (HX5.out.wf.fresh hgA2) nA rfl (fun k v hv => by simp at hv)
          refine step_append_wf hWA rfl (.tmp 40) (.tmp 42) 46 rfl 37 iF _ 64 Try.underlying46 hiF hzF hsF hbF rfl (zeroF _ _) (some ⟨gA, 0, none⟩) 0 0 rfl (Nat.le_refl _) (Nat.zero_le _) (Or.inr ⟨gA, rfl, Sh.add_self _ _ _ _⟩) ⟨fb, 0, none⟩ fl fp NL rfl HNL.out.1 (fun j u hu => (bX.cell (p := (⟨fb, 0, none⟩ : Addr).add j) (by rw [Addr.add_lit]; exact HX5.out.wf.lt hfb)).trans (HNL.out.2.1 j u hu)) HNL.out.2.2.1 (fun j u hu => (HNL.out.2.2.2 j u hu).ext (Sh.add_ext (HX5.out.wf.fresh hgA2)) (Bd.le.refl _)) (by omega) (by unfold maxLen; omega) (by omega) ?_
          intro g1 cap1 wF1 σ1 q1 q2 q3 q4 q5 q6 q7 q8 q9
          simp only [Nat.zero_add] at q3 ⊢
          try have nE := (q7.block gE (Array.getElem?_eq_some_iff.1 nE).1 (fun e => HNEQ.out gE gA nE nA (Option.some.inj e))).trans nE
          have cA : Chg rb wG wE1 σ (σ.add gA 37 0) := ⟨Sh.add_ext (HX5.out.wf.fresh hgA2), fun x hx => Sh.add_ne _ _ _ _ _ (by omega), fun x hx _ _ => bX.block x hx, bX.size, bX.os, bX.tape, bX.output⟩
          have cX := cA.grown q7 (fun x hx => ⟨_, _, by cases hx; exact Sh.add_self _ _ _ _⟩) q5 q6
          have rX : wF1.heap[rb]? = wG.heap[rb]? := (q7.block rb (by have := bX.size; have := HX5.out.rd.lt.1; omega) (fun e => by have e := Option.some.inj e; have e : rb = gA := e; have := HX5.out.rd.lt.1; omega)).trans (bX.block rb HX5.out.rd.lt.1)
          have H1 := hid_of (And.intro q1 q2)
          have q31 := q3
          have q41 := q4
          clear hWA cA bX q1 q2 q3 q4 q5 q6 q7 q8 q9
          try have nA := (bF.block gA (Array.getElem?_eq_some_iff.1 nA).1).trans nA
          try have nE := (bF.block gE (Array.getElem?_eq_some_iff.1 nE).1).trans nE
          refine hK.out _ _ (HSD.out _ (by first | exact cX.keep _ HF5.out.lt HF5.out.nil hFr | exact bX.block _ HF5.out.lt)) (fun hHeld => ?_)
          clear hK K
          try simp only [Act.put, List.setIfInBounds_toArray, List.set_cons_zero, List.set_cons_succ]
          refine rdyH [6] ?_
          refine rcH (fun K hK => ?_) AllReadyH.nil
          refine step_append_wf H1.out.1 rfl (.tmp 43) (.tmp 45) 46 rfl 37 iF _ 64 Try.underlying46 hiF hzF hsF hbF rfl (zeroF _ _) (some ⟨g1, 0, none⟩) fl cap1 rfl q31 q41 (Or.inr ⟨g1, rfl, H1.out.2⟩) ⟨gE, 0, none⟩ 1 1 [.string fn, .string fo, .bool l, .bool mu, .bool fr, .bool hd, .bool sh, .slice na nl nc] rfl rfl (World.news_of_block nE) (by intro u hu; simp at hu; rcases hu with rfl | rfl | rfl | rfl | rfl | rfl | rfl | rfl <;> rfl) (cells_list (T := 37) (cs := #[.string fn, .string fo, .bool l, .bool mu, .bool fr, .bool hd, .bool sh, .slice na nl nc]) rfl (fieldCells σ1 bdC fn fo l mu fr hd sh (.slice na nl nc) hfn hfo ⟨_, _, _, rfl, hs1, hs2, hs3, SlIn.ext (T := 9) (n := nl) hs4 cX.ext⟩)) (by omega) (by unfold maxLen; omega) (by omega) ?_
          intro gF capF wF2 σF q1 q2 q3 q4 q5 q6 q7 q8 q9
          have rX : wF2.heap[rb]? = wG.heap[rb]? := (q7.block rb (by have := cX.size; have := HX5.out.rd.lt.1; omega) (fun e => HNR.out σ1 g1 _ _ cX.same H1.out.2 (Option.some.inj e).symm)).trans rX
          have cX := cX.grown q7 (fun x hx => ⟨_, _, by cases hx; exact H1.out.2⟩) q5 q6
          have HQ := hid_of (And.intro q1 q2)
          have hq3 := q3
          have hq4 := q4
          clear q1 q2 q3 q4 q5 q6 q7 q8 q9
          try have nA := (bG.block gA (Array.getElem?_eq_some_iff.1 nA).1).trans nA
          try have nE := (bG.block gE (Array.getElem?_eq_some_iff.1 nE).1).trans nE
          try have H1 := hid_of (And.intro (H1.out.1.below bG) H1.out.2)
          refine hK.out _ _ (HSD.out _ (by first | exact cX.keep _ HF5.out.lt HF5.out.nil hFr | exact bX.block _ HF5.out.lt)) (fun hHeld => ?_)
          clear hK K
          try simp only [Act.put, List.setIfInBounds_toArray, List.set_cons_zero, List.set_cons_succ]
          refine tkH 7 hHeld ?_
          refine rdyH [8] ?_
          refine rcH (fun K hK => ?_) AllReadyH.nil
          obtain ⟨c1, z1⟩ := box_at (HT5.out.chg HX5.out.rlt cX).box 2 (by simp)
          simp only [List.getElem_toArray, List.getElem_cons_zero, List.getElem_cons_succ] at c1
          go_simp
          clear c1 z1
          refine hK.out _ _ (HSD.out _ ((Below.heap_setCell _ _ _ _ (Ne.symm hTF)).trans (cX.keep _ HF5.out.lt HF5.out.nil hFr))) (fun hHeld => ?_)
          clear hK K
          try simp only [Act.put, List.setIfInBounds_toArray, List.set_cons_zero, List.set_cons_succ]
          refine wpAnyH_done (by kernel_rfl) ?_ _
          have HXb := hid_of (HX5.out.chg cX HQ.out.1 (HX5.out.rdk cX rX))
          have HFb := hid_of (HF5.out.chg HX5.out.rlt cX)
          have HTb := hid_of (HT5.out.chg HX5.out.rlt cX)
          have HX := hid_of (HXb.out.boxed HTb.out 2 (.slice (some ⟨gF, 0, none⟩) (fl + 1) capF))
          have HT : Hid (Box w (wF2.setCell ⟨TX, 2, none⟩ (.slice (some ⟨gF, 0, none⟩) (fl + 1) capF)) σF XB TX #[.string tn, .string tk, .slice (some ⟨gF, 0, none⟩) (fl + 1) capF] 48) := hid_of (HTb.out.set 2 (.slice (some ⟨gF, 0, none⟩) (fl + 1) capF))
          have HF := hid_of (HFb.out.other (M := TX) (j := 2) (Ne.symm hTF) (.slice (some ⟨gF, 0, none⟩) (fl + 1) capF))
          have HQ2 := hid_of HQ.out.2
          have HEx := hid_of cX.ext
          generalize wF2.setCell ⟨TX, 2, none⟩ (.slice (some ⟨gF, 0, none⟩) (fl + 1) capF) = wX at *
          clear HX5 HF5 HT5 HXb HFb HTb HQ cX H1 rX nE HNL HCL HSD HNEQ HNR
          go_upto_region 25 with fail
          have HX := hid_of (HX.out.le' bdCS)
          obtain ⟨d0, -⟩ := box_at HF.out.box 0 (by simp)
          obtain ⟨d1, -⟩ := box_at HF.out.box 1 (by simp)
          obtain ⟨d2, -⟩ := box_at HF.out.box 2 (by simp)
          obtain ⟨d3, -⟩ := box_at HF.out.box 3 (by simp)
          obtain ⟨d4, -⟩ := box_at HF.out.box 4 (by simp)
          obtain ⟨d5, -⟩ := box_at HF.out.box 5 (by simp)
          obtain ⟨d6, -⟩ := box_at HF.out.box 6 (by simp)
          obtain ⟨d7, -⟩ := box_at HF.out.box 7 (by simp)
          obtain ⟨b2, -⟩ := box_at HT.out.box 2 (by simp)
          simp only [List.getElem_toArray, List.getElem_cons_zero, List.getElem_cons_succ] at d0 d1 d2 d3 d4 d5 d6 d7 b2
          have hcc := fun j (hj : j < 8) => HX.out.wf.cell HQ2.out m j (by omega) (by rw [wideF]; exact hj)
          simp only [wideF] at hcc
          obtain ⟨e0, g0, -, z0⟩ := hcc 0 (by omega)
          obtain ⟨e1, g1, -, z1⟩ := hcc 1 (by omega)
          obtain ⟨e2, g2, -, z2⟩ := hcc 2 (by omega)
          obtain ⟨e3, g3, -, z3⟩ := hcc 3 (by omega)
          obtain ⟨e4, g4, -, z4⟩ := hcc 4 (by omega)
          obtain ⟨e5, g5, -, z5⟩ := hcc 5 (by omega)
          obtain ⟨e6, g6, -, z6⟩ := hcc 6 (by omega)
          obtain ⟨e7, g7, -, z7⟩ := hcc 7 (by omega)
          rw [Nat.add_zero] at g0 z0
          clear hcc
          obtain ⟨Y, hY, hX6, hB6⟩ : ∃ Y, Y = ((((((((wX.setCell ⟨gF, m * 8, none⟩ (.string fn)).setCell ⟨gF, m * 8 + 1, none⟩ (.string fo)).setCell ⟨gF, m * 8 + 2, none⟩ (.bool l)).setCell ⟨gF, m * 8 + 3, none⟩ (.bool mu)).setCell ⟨gF, m * 8 + 4, none⟩ (.bool fr)).setCell ⟨gF, m * 8 + 5, none⟩ (.bool hd)).setCell ⟨gF, m * 8 + 6, none⟩ (.bool sh)).setCell ⟨gF, m * 8 + 7, none⟩ (.slice na nl nc)) ∧ XSt w rb cb XB Y σF bdS (q + 3) nm tb len cap ∧ ∀ M cs T, Box w wX σF XB M cs T → Box w Y σF XB M cs T := ⟨_, rfl, HX.out.put8 (k := m) HQ2.out fn fo l mu fr hd sh (.slice na nl nc) hfn hfo ⟨_, _, _, rfl, Nat.le_trans hs1 (by decide), hs2, hs3, SlIn.ext (T := 9) (n := nl) hs4 HEx.out⟩ _ rfl⟩
          have HYE := hid_of hY
          have HX6 := hid_of hX6
          have HT6 := hid_of (hB6 _ _ _ HT.out)
          clear hY hX6 hB6
          go_upto_region 26 with fail
          rw [← HYE.out]
          clear b2 d0 d1 d2 d3 d4 d5 d6 d7 g0 z0 g1 z1 g2 z2 g3 z3 g4 z4 g5 z5 g6 z6 g7 z7 HX HT HF HYE
          obtain ⟨b0, -⟩ := box_at HT6.out.box 0 (by simp)
          obtain ⟨b1, -⟩ := box_at HT6.out.box 1 (by simp)
          obtain ⟨b2, -⟩ := box_at HT6.out.box 2 (by simp)
          obtain ⟨x1, -⟩ := box_at HX6.out.xb 1 (by simp)
          simp only [List.getElem_toArray, List.getElem_cons_zero, List.getElem_cons_succ] at b0 b1 b2 x1
          have hkc : k < cap := by have := HX6.out.le; omega
          have hcc := fun j (hj : j < 3) => HX6.out.wf.cell HX6.out.blk k j hkc (by rw [wideT]; exact hj)
          simp only [wideT] at hcc
          obtain ⟨e0, g0, -, z0⟩ := hcc 0 (by omega)
          obtain ⟨e1, g1, -, z1⟩ := hcc 1 (by omega)
          obtain ⟨e2, g2, -, z2⟩ := hcc 2 (by omega)
          rw [Nat.add_zero] at g0 z0
          clear hcc
          obtain ⟨Z, hZ, hX7⟩ : ∃ Z, Z = (((Y.setCell ⟨tb, k * 3, none⟩ (.string tn)).setCell ⟨tb, k * 3 + 1, none⟩ (.string tk)).setCell ⟨tb, k * 3 + 2, none⟩ (.slice (some ⟨gF, 0, none⟩) (fl + 1) capF)) ∧ XSt w rb cb XB Z σF bdS (q + 3) nm tb len cap := ⟨_, rfl, HX6.out.put3 k tn tk (.slice (some ⟨gF, 0, none⟩) (fl + 1) capF) htn rfl htk ⟨_, _, _, rfl, by show fl + 1 ≤ 121; omega, hq3, hq4, Or.inr ⟨gF, rfl, HQ2.out⟩⟩ _ rfl⟩
          have HZE := hid_of hZ
          have HX7 := hid_of hX7
          clear hZ hX7
          go_upto_region 27 with fail
          rw [← HZE.out]
          clear b0 b1 b2 x1 g0 g1 g2 z0 z1 z2 HX6 HT6 HZE
          obtain ⟨x0, -⟩ := box_at HX7.out.xb 0 (by simp)
          obtain ⟨x1, -⟩ := box_at HX7.out.xb 1 (by simp)
          obtain ⟨y0, yf0⟩ := box_at HX7.out.rbox 0 (by simp)
          obtain ⟨y1, yf1⟩ := box_at HX7.out.rbox 1 (by simp)
          simp only [List.getElem_toArray, List.getElem_cons_zero, List.getElem_cons_succ] at x0 x1 y0 y1
          go_wp2_with fail
          have hdd := sets2_cells HX7.out.rbox (.string nm) (.slice (some ⟨tb, 0, none⟩) len cap)
          exact bodyPost_ret (spResult _ _ (w.heap.size + 1) (.string nm) (.slice (some ⟨tb, 0, none⟩) len cap) rfl hdd.1 hdd.2) rfl (HX7.out.fin (by decide) (by decide) 0 len cap (by omega) (by omega) HX7.out.le)
        refine rcH (fun K hK => ?_) AllReadyH.nil
        go_simp
        have bE := below_box wE0 (.cells #[.string fn, .string fo, .bool l, .bool mu, .bool fr, .bool hd, .bool sh, .slice na nl nc] 37)
        obtain ⟨gE, hgE⟩ : ∃ g, g = wE0.heap.size := ⟨_, rfl⟩
        have nE := block_new (w := wE0) (N := gE) #[.string fn, .string fo, .bool l, .bool mu, .bool fr, .bool hd, .bool sh, .slice na nl nc] 37 hgE.symm
        try have bX := bX.trans (bE.mono bX.size)
        try have rX := (bE.block rb (by have := cX.size; have := HX5.out.rd.lt.1; omega)).trans rX
        try have cX := cX.trans (Chg.below rb _ bE)
        refine hK.out _ _ (HSD.out _ (by first | exact cX.keep _ HF5.out.lt HF5.out.nil hFr | exact bX.block _ HF5.out.lt)) (fun hHeld => ?_)
        clear hK K
        try simp only [Act.put, List.setIfInBounds_toArray, List.set_cons_zero, List.set_cons_succ]
        rw [← hgE]
        generalize wE0.alloc (.cells #[.string fn, .string fo, .bool l, .bool mu, .bool fr, .bool hd, .bool sh, .slice na nl nc] 37) = wE1 at *
        clear hgE bE
        refine rdyH [0] ?_
        refine rcH (fun K hK => ?_) AllReadyH.nil
        go_simp
        have bA := below_box wE1 (.cells #[] 37)
        obtain ⟨gA, hgA⟩ : ∃ g, g = wE1.heap.size := ⟨_, rfl⟩
        have nA := block_new (w := wE1) (N := gA) #[] 37 hgA.symm
        have hgA2 : wG.heap.size ≤ gA := by have := bX.size; omega
        have bX := bX.trans (bA.mono bX.size)
        try have nE := (bA.block gE (Array.getElem?_eq_some_iff.1 nE).1).trans nE
        refine hK.out _ _ (HSD.out _ (by first | exact cX.keep _ HF5.out.lt HF5.out.nil hFr | exact bX.block _ HF5.out.lt)) (fun hHeld => ?_)
        clear hK K
        try simp only [Act.put, List.setIfInBounds_toArray, List.set_cons_zero, List.set_cons_succ]
        rw [← hgA]
        generalize wE1.alloc (.cells #[] 37) = wA1 at *
        clear hgA bA
        refine rdyH [3] ?_
        refine rcH (fun K hK => ?_) AllReadyH.nil
        have hWA : Wf wA1 (σ.add gA 37 0) bdC := (HX5.out.wf.below bX).add (HX5.out.wf.fresh hgA2) nA rfl (fun k v hv => by simp at hv)
        refine step_append_wf hWA rfl (.tmp 40) (.tmp 42) 46 rfl 37 iF _ 64 Try.underlying46 hiF hzF hsF hbF rfl (zeroF _ _) (some ⟨gA, 0, none⟩) 0 0 rfl (Nat.le_refl _) (Nat.zero_le _) (Or.inr ⟨gA, rfl, Sh.add_self _ _ _ _⟩) ⟨fb, 0, none⟩ fl fp NL rfl HNL.out.1 (fun j u hu => (bX.cell (p := (⟨fb, 0, none⟩ : Addr).add j) (by rw [Addr.add_lit]; exact HX5.out.wf.lt hfb)).trans (HNL.out.2.1 j u hu)) HNL.out.2.2.1 (fun j u hu => (HNL.out.2.2.2 j u hu).ext (Sh.add_ext (HX5.out.wf.fresh hgA2)) (Bd.le.refl _)) (by omega) (by unfold maxLen; omega) (by omega) ?_
        intro g1 cap1 wF1 σ1 q1 q2 q3 q4 q5 q6 q7 q8 q9
        simp only [Nat.zero_add] at q3 ⊢
        try have nE := (q7.block gE (Array.getElem?_eq_some_iff.1 nE).1 (fun e => HNEQ.out gE gA nE nA (Option.some.inj e))).trans nE
        have cA : Chg rb wG wA1 σ (σ.add gA 37 0) := ⟨Sh.add_ext (HX5.out.wf.fresh hgA2), fun x hx => Sh.add_ne _ _ _ _ _ (by omega), fun x hx _ _ => bX.block x hx, bX.size, bX.os, bX.tape, bX.output⟩
        have cX := cA.grown q7 (fun x hx => ⟨_, _, by cases hx; exact Sh.add_self _ _ _ _⟩) q5 q6
        have rX : wF1.heap[rb]? = wG.heap[rb]? := (q7.block rb (by have := bX.size; have := HX5.out.rd.lt.1; omega) (fun e => by have e := Option.some.inj e; have e : rb = gA := e; have := HX5.out.rd.lt.1; omega)).trans (bX.block rb HX5.out.rd.lt.1)
        have H1 := hid_of (And.intro q1 q2)
        have q31 := q3
        have q41 := q4
        clear hWA cA bX q1 q2 q3 q4 q5 q6 q7 q8 q9
        try have nE := (bF.block gE (Array.getElem?_eq_some_iff.1 nE).1).trans nE
        try have nA := (bF.block gA (Array.getElem?_eq_some_iff.1 nA).1).trans nA
        refine hK.out _ _ (HSD.out _ (by first | exact cX.keep _ HF5.out.lt HF5.out.nil hFr | exact bX.block _ HF5.out.lt)) (fun hHeld => ?_)
        clear hK K
        try simp only [Act.put, List.setIfInBounds_toArray, List.set_cons_zero, List.set_cons_succ]
        refine rdyH [6] ?_
        refine rcH (fun K hK => ?_) AllReadyH.nil
        refine step_append_wf H1.out.1 rfl (.tmp 43) (.tmp 45) 46 rfl 37 iF _ 64 Try.underlying46 hiF hzF hsF hbF rfl (zeroF _ _) (some ⟨g1, 0, none⟩) fl cap1 rfl q31 q41 (Or.inr ⟨g1, rfl, H1.out.2⟩) ⟨gE, 0, none⟩ 1 1 [.string fn, .string fo, .bool l, .bool mu, .bool fr, .bool hd, .bool sh, .slice na nl nc] rfl rfl (World.news_of_block nE) (by intro u hu; simp at hu; rcases hu with rfl | rfl | rfl | rfl | rfl | rfl | rfl | rfl <;> rfl) (cells_list (T := 37) (cs := #[.string fn, .string fo, .bool l, .bool mu, .bool fr, .bool hd, .bool sh, .slice na nl nc]) rfl (fieldCells σ1 bdC fn fo l mu fr hd sh (.slice na nl nc) hfn hfo ⟨_, _, _, rfl, hs1, hs2, hs3, SlIn.ext (T := 9) (n := nl) hs4 cX.ext⟩)) (by omega) (by unfold maxLen; omega) (by omega) ?_
        intro gF capF wF2 σF q1 q2 q3 q4 q5 q6 q7 q8 q9
        have rX : wF2.heap[rb]? = wG.heap[rb]? := (q7.block rb (by have := cX.size; have := HX5.out.rd.lt.1; omega) (fun e => HNR.out σ1 g1 _ _ cX.same H1.out.2 (Option.some.inj e).symm)).trans rX
        have cX := cX.grown q7 (fun x hx => ⟨_, _, by cases hx; exact H1.out.2⟩) q5 q6
        have HQ := hid_of (And.intro q1 q2)
        have hq3 := q3
        have hq4 := q4
        clear q1 q2 q3 q4 q5 q6 q7 q8 q9
        try have nE := (bG.block gE (Array.getElem?_eq_some_iff.1 nE).1).trans nE
        try have nA := (bG.block gA (Array.getElem?_eq_some_iff.1 nA).1).trans nA
        try have H1 := hid_of (And.intro (H1.out.1.below bG) H1.out.2)
        refine hK.out _ _ (HSD.out _ (by first | exact cX.keep _ HF5.out.lt HF5.out.nil hFr | exact bX.block _ HF5.out.lt)) (fun hHeld => ?_)
        clear hK K
        try simp only [Act.put, List.setIfInBounds_toArray, List.set_cons_zero, List.set_cons_succ]
        refine tkH 7 hHeld ?_
        refine rdyH [8] ?_
        refine rcH (fun K hK => ?_) AllReadyH.nil
        obtain ⟨c1, z1⟩ := box_at (HT5.out.chg HX5.out.rlt cX).box 2 (by simp)
        simp only [List.getElem_toArray, List.getElem_cons_zero, List.getElem_cons_succ] at c1
        go_simp
        clear c1 z1
        refine hK.out _ _ (HSD.out _ ((Below.heap_setCell _ _ _ _ (Ne.symm hTF)).trans (cX.keep _ HF5.out.lt HF5.out.nil hFr))) (fun hHeld => ?_)
        clear hK K
        try simp only [Act.put, List.setIfInBounds_toArray, List.set_cons_zero, List.set_cons_succ]
        refine wpAnyH_done (by kernel_rfl) ?_ _
        have HXb := hid_of (HX5.out.chg cX HQ.out.1 (HX5.out.rdk cX rX))
        have HFb := hid_of (HF5.out.chg HX5.out.rlt cX)
        have HTb := hid_of (HT5.out.chg HX5.out.rlt cX)
        have HX := hid_of (HXb.out.boxed HTb.out 2 (.slice (some ⟨gF, 0, none⟩) (fl + 1) capF))
        have HT : Hid (Box w (wF2.setCell ⟨TX, 2, none⟩ (.slice (some ⟨gF, 0, none⟩) (fl + 1) capF)) σF XB TX #[.string tn, .string tk, .slice (some ⟨gF, 0, none⟩) (fl + 1) capF] 48) := hid_of (HTb.out.set 2 (.slice (some ⟨gF, 0, none⟩) (fl + 1) capF))
        have HF := hid_of (HFb.out.other (M := TX) (j := 2) (Ne.symm hTF) (.slice (some ⟨gF, 0, none⟩) (fl + 1) capF))
        have HQ2 := hid_of HQ.out.2
        have HEx := hid_of cX.ext
        generalize wF2.setCell ⟨TX, 2, none⟩ (.slice (some ⟨gF, 0, none⟩) (fl + 1) capF) = wX at *
        clear HX5 HF5 HT5 HXb HFb HTb HQ cX H1 rX nE HNL HCL HSD HNEQ HNR
        go_upto_region 25 with fail
        have HX := hid_of (HX.out.le' bdCS)
        obtain ⟨d0, -⟩ := box_at HF.out.box 0 (by simp)
        obtain ⟨d1, -⟩ := box_at HF.out.box 1 (by simp)
        obtain ⟨d2, -⟩ := box_at HF.out.box 2 (by simp)
        obtain ⟨d3, -⟩ := box_at HF.out.box 3 (by simp)
        obtain ⟨d4, -⟩ := box_at HF.out.box 4 (by simp)
        obtain ⟨d5, -⟩ := box_at HF.out.box 5 (by simp)
        obtain ⟨d6, -⟩ := box_at HF.out.box 6 (by simp)
        obtain ⟨d7, -⟩ := box_at HF.out.box 7 (by simp)
        obtain ⟨b2, -⟩ := box_at HT.out.box 2 (by simp)
        simp only [List.getElem_toArray, List.getElem_cons_zero, List.getElem_cons_succ] at d0 d1 d2 d3 d4 d5 d6 d7 b2
        have hcc := fun j (hj : j < 8) => HX.out.wf.cell HQ2.out m j (by omega) (by rw [wideF]; exact hj)
        simp only [wideF] at hcc
        obtain ⟨e0, g0, -, z0⟩ := hcc 0 (by omega)
        obtain ⟨e1, g1, -, z1⟩ := hcc 1 (by omega)
        obtain ⟨e2, g2, -, z2⟩ := hcc 2 (by omega)
        obtain ⟨e3, g3, -, z3⟩ := hcc 3 (by omega)
        obtain ⟨e4, g4, -, z4⟩ := hcc 4 (by omega)
        obtain ⟨e5, g5, -, z5⟩ := hcc 5 (by omega)
        obtain ⟨e6, g6, -, z6⟩ := hcc 6 (by omega)
        obtain ⟨e7, g7, -, z7⟩ := hcc 7 (by omega)
        rw [Nat.add_zero] at g0 z0
        clear hcc
        obtain ⟨Y, hY, hX6, hB6⟩ : ∃ Y, Y = ((((((((wX.setCell ⟨gF, m * 8, none⟩ (.string fn)).setCell ⟨gF, m * 8 + 1, none⟩ (.string fo)).setCell ⟨gF, m * 8 + 2, none⟩ (.bool l)).setCell ⟨gF, m * 8 + 3, none⟩ (.bool mu)).setCell ⟨gF, m * 8 + 4, none⟩ (.bool fr)).setCell ⟨gF, m * 8 + 5, none⟩ (.bool hd)).setCell ⟨gF, m * 8 + 6, none⟩ (.bool sh)).setCell ⟨gF, m * 8 + 7, none⟩ (.slice na nl nc)) ∧ XSt w rb cb XB Y σF bdS (q + 3) nm tb len cap ∧ ∀ M cs T, Box w wX σF XB M cs T → Box w Y σF XB M cs T := ⟨_, rfl, HX.out.put8 (k := m) HQ2.out fn fo l mu fr hd sh (.slice na nl nc) hfn hfo ⟨_, _, _, rfl, Nat.le_trans hs1 (by decide), hs2, hs3, SlIn.ext (T := 9) (n := nl) hs4 HEx.out⟩ _ rfl⟩
        have HYE := hid_of hY
        have HX6 := hid_of hX6
        have HT6 := hid_of (hB6 _ _ _ HT.out)
        clear hY hX6 hB6
        go_upto_region 26 with fail
        rw [← HYE.out]
        clear b2 d0 d1 d2 d3 d4 d5 d6 d7 g0 z0 g1 z1 g2 z2 g3 z3 g4 z4 g5 z5 g6 z6 g7 z7 HX HT HF HYE
        obtain ⟨b0, -⟩ := box_at HT6.out.box 0 (by simp)
        obtain ⟨b1, -⟩ := box_at HT6.out.box 1 (by simp)
        obtain ⟨b2, -⟩ := box_at HT6.out.box 2 (by simp)
        obtain ⟨x1, -⟩ := box_at HX6.out.xb 1 (by simp)
        simp only [List.getElem_toArray, List.getElem_cons_zero, List.getElem_cons_succ] at b0 b1 b2 x1
        have hkc : k < cap := by have := HX6.out.le; omega
        have hcc := fun j (hj : j < 3) => HX6.out.wf.cell HX6.out.blk k j hkc (by rw [wideT]; exact hj)
        simp only [wideT] at hcc
        obtain ⟨e0, g0, -, z0⟩ := hcc 0 (by omega)
        obtain ⟨e1, g1, -, z1⟩ := hcc 1 (by omega)
        obtain ⟨e2, g2, -, z2⟩ := hcc 2 (by omega)
        rw [Nat.add_zero] at g0 z0
        clear hcc
        obtain ⟨Z, hZ, hX7⟩ : ∃ Z, Z = (((Y.setCell ⟨tb, k * 3, none⟩ (.string tn)).setCell ⟨tb, k * 3 + 1, none⟩ (.string tk)).setCell ⟨tb, k * 3 + 2, none⟩ (.slice (some ⟨gF, 0, none⟩) (fl + 1) capF)) ∧ XSt w rb cb XB Z σF bdS (q + 3) nm tb len cap := ⟨_, rfl, HX6.out.put3 k tn tk (.slice (some ⟨gF, 0, none⟩) (fl + 1) capF) htn rfl htk ⟨_, _, _, rfl, by show fl + 1 ≤ 121; omega, hq3, hq4, Or.inr ⟨gF, rfl, HQ2.out⟩⟩ _ rfl⟩
        have HZE := hid_of hZ
        have HX7 := hid_of hX7
        clear hZ hX7
        go_upto_region 27 with fail
        rw [← HZE.out]
        clear b0 b1 b2 x1 g0 g1 g2 z0 z1 z2 HX6 HT6 HZE
        obtain ⟨x0, -⟩ := box_at HX7.out.xb 0 (by simp)
        obtain ⟨x1, -⟩ := box_at HX7.out.xb 1 (by simp)
        obtain ⟨y0, yf0⟩ := box_at HX7.out.rbox 0 (by simp)
        obtain ⟨y1, yf1⟩ := box_at HX7.out.rbox 1 (by simp)
        simp only [List.getElem_toArray, List.getElem_cons_zero, List.getElem_cons_succ] at x0 x1 y0 y1
        go_wp2_with fail
        have hdd := sets2_cells HX7.out.rbox (.string nm) (.slice (some ⟨tb, 0, none⟩) len cap)
        exact bodyPost_ret (spResult _ _ (w.heap.size + 1) (.string nm) (.slice (some ⟨tb, 0, none⟩) len cap) rfl hdd.1 hdd.2) rfl (HX7.out.fin (by decide) (by decide) 0 len cap (by omega) (by omega) HX7.out.le)
      refine rcH (fun K hK => ?_) AllReadyH.nil
      go_simp
      have bE := below_box wE0 (.cells #[.string fn, .string fo, .bool l, .bool mu, .bool fr, .bool hd, .bool sh, .slice na nl nc] 37)
      obtain ⟨gE, hgE⟩ : ∃ g, g = wE0.heap.size := ⟨_, rfl⟩
      have nE := block_new (w := wE0) (N := gE) #[.string fn, .string fo, .bool l, .bool mu, .bool fr, .bool hd, .bool sh, .slice na nl nc] 37 hgE.symm
      try have bX := bX.trans (bE.mono bX.size)
      try have rX := (bE.block rb (by have := cX.size; have := HX5.out.rd.lt.1; omega)).trans rX
      try have cX := cX.trans (Chg.below rb _ bE)
      refine hK.out _ _ (HSD.out _ (by first | exact cX.keep _ HF5.out.lt HF5.out.nil hFr | exact bX.block _ HF5.out.lt)) (fun hHeld => ?_)
      clear hK K
      try simp only [Act.put, List.setIfInBounds_toArray, List.set_cons_zero, List.set_cons_succ]
      rw [← hgE]
      generalize wE0.alloc (.cells #[.string fn, .string fo, .bool l, .bool mu, .bool fr, .bool hd, .bool sh, .slice na nl nc] 37) = wE1 at *
      clear hgE bE
      refine rdyH [0, 2] ?_
      refine rcH (fun K hK => ?_) ?_
      · go_simp
        have bA := below_box wE1 (.cells #[] 37)
        obtain ⟨gA, hgA⟩ : ∃ g, g = wE1.heap.size := ⟨_, rfl⟩
        have nA := block_new (w := wE1) (N := gA) #[] 37 hgA.symm
        have hgA2 : wG.heap.size ≤ gA := by have := bX.size; omega
        have bX := bX.trans (bA.mono bX.size)
        try have nE := (bA.block gE (Array.getElem?_eq_some_iff.1 nE).1).trans nE
        refine hK.out _ _ (HSD.out _ (by first | exact cX.keep _ HF5.out.lt HF5.out.nil hFr | exact bX.block _ HF5.out.lt)) (fun hHeld => ?_)
        clear hK K
        try simp only [Act.put, List.setIfInBounds_toArray, List.set_cons_zero, List.set_cons_succ]
        rw [← hgA]
        generalize wE1.alloc (.cells #[] 37) = wA1 at *
        clear hgA bA
        refine rdyH [2] ?_
        refine rcH (fun K hK => ?_) AllReadyH.nil
        have c1 := HCL.out wA1 bX
        go_simp
        clear c1
        refine hK.out _ _ (HSD.out _ (by first | exact cX.keep _ HF5.out.lt HF5.out.nil hFr | exact bX.block _ HF5.out.lt)) (fun hHeld => ?_)
        clear hK K
        try simp only [Act.put, List.setIfInBounds_toArray, List.set_cons_zero, List.set_cons_succ]
        refine rdyH [3] ?_
        refine rcH (fun K hK => ?_) AllReadyH.nil
        have hWA : Wf wA1 (σ.add gA 37 0) bdC := (HX5.out.wf.below bX).add (HX5.out.wf.fresh hgA2) nA rfl (fun k v hv => by simp at hv)
        refine step_append_wf hWA rfl (.tmp 40) (.tmp 42) 46 rfl 37 iF _ 64 Try.underlying46 hiF hzF hsF hbF rfl (zeroF _ _) (some ⟨gA, 0, none⟩) 0 0 rfl (Nat.le_refl _) (Nat.zero_le _) (Or.inr ⟨gA, rfl, Sh.add_self _ _ _ _⟩) ⟨fb, 0, none⟩ fl fp NL rfl HNL.out.1 (fun j u hu => (bX.cell (p := (⟨fb, 0, none⟩ : Addr).add j) (by rw [Addr.add_lit]; exact HX5.out.wf.lt hfb)).trans (HNL.out.2.1 j u hu)) HNL.out.2.2.1 (fun j u hu => (HNL.out.2.2.2 j u hu).ext (Sh.add_ext (HX5.out.wf.fresh hgA2)) (Bd.le.refl _)) (by omega) (by unfold maxLen; omega) (by omega) ?_
        intro g1 cap1 wF1 σ1 q1 q2 q3 q4 q5 q6 q7 q8 q9
        simp only [Nat.zero_add] at q3 ⊢
        try have nE := (q7.block gE (Array.getElem?_eq_some_iff.1 nE).1 (fun e => HNEQ.out gE gA nE nA (Option.some.inj e))).trans nE
        have cA : Chg rb wG wA1 σ (σ.add gA 37 0) := ⟨Sh.add_ext (HX5.out.wf.fresh hgA2), fun x hx => Sh.add_ne _ _ _ _ _ (by omega), fun x hx _ _ => bX.block x hx, bX.size, bX.os, bX.tape, bX.output⟩
        have cX := cA.grown q7 (fun x hx => ⟨_, _, by cases hx; exact Sh.add_self _ _ _ _⟩) q5 q6
        have rX : wF1.heap[rb]? = wG.heap[rb]? := (q7.block rb (by have := bX.size; have := HX5.out.rd.lt.1; omega) (fun e => by have e := Option.some.inj e; have e : rb = gA := e; have := HX5.out.rd.lt.1; omega)).trans (bX.block rb HX5.out.rd.lt.1)
        have H1 := hid_of (And.intro q1 q2)
        have q31 := q3
        have q41 := q4
        clear hWA cA bX q1 q2 q3 q4 q5 q6 q7 q8 q9
        try have nE := (bF.block gE (Array.getElem?_eq_some_iff.1 nE).1).trans nE
        try have nA := (bF.block gA (Array.getElem?_eq_some_iff.1 nA).1).trans nA
        refine hK.out _ _ (HSD.out _ (by first | exact cX.keep _ HF5.out.lt HF5.out.nil hFr | exact bX.block _ HF5.out.lt)) (fun hHeld => ?_)
        clear hK K
        try simp only [Act.put, List.setIfInBounds_toArray, List.set_cons_zero, List.set_cons_succ]
        refine rdyH [6] ?_
        refine rcH (fun K hK => ?_) AllReadyH.nil
        refine step_append_wf H1.out.1 rfl (.tmp 43) (.tmp 45) 46 rfl 37 iF _ 64 Try.underlying46 hiF hzF hsF hbF rfl (zeroF _ _) (some ⟨g1, 0, none⟩) fl cap1 rfl q31 q41 (Or.inr ⟨g1, rfl, H1.out.2⟩) ⟨gE, 0, none⟩ 1 1 [.string fn, .string fo, .bool l, .bool mu, .bool fr, .bool hd, .bool sh, .slice na nl nc] rfl rfl (World.news_of_block nE) (by intro u hu; simp at hu; rcases hu with rfl | rfl | rfl | rfl | rfl | rfl | rfl | rfl <;> rfl) (cells_list (T := 37) (cs := #[.string fn, .string fo, .bool l, .bool mu, .bool fr, .bool hd, .bool sh, .slice na nl nc]) rfl (fieldCells σ1 bdC fn fo l mu fr hd sh (.slice na nl nc) hfn hfo ⟨_, _, _, rfl, hs1, hs2, hs3, SlIn.ext (T := 9) (n := nl) hs4 cX.ext⟩)) (by omega) (by unfold maxLen; omega) (by omega) ?_
        intro gF capF wF2 σF q1 q2 q3 q4 q5 q6 q7 q8 q9
        have rX : wF2.heap[rb]? = wG.heap[rb]? := (q7.block rb (by have := cX.size; have := HX5.out.rd.lt.1; omega) (fun e => HNR.out σ1 g1 _ _ cX.same H1.out.2 (Option.some.inj e).symm)).trans rX
        have cX := cX.grown q7 (fun x hx => ⟨_, _, by cases hx; exact H1.out.2⟩) q5 q6
        have HQ := hid_of (And.intro q1 q2)
        have hq3 := q3
        have hq4 := q4
        clear q1 q2 q3 q4 q5 q6 q7 q8 q9
        try have nE := (bG.block gE (Array.getElem?_eq_some_iff.1 nE).1).trans nE
        try have nA := (bG.block gA (Array.getElem?_eq_some_iff.1 nA).1).trans nA
        try have H1 := hid_of (And.intro (H1.out.1.below bG) H1.out.2)
        refine hK.out _ _ (HSD.out _ (by first | exact cX.keep _ HF5.out.lt HF5.out.nil hFr | exact bX.block _ HF5.out.lt)) (fun hHeld => ?_)
        clear hK K
        try simp only [Act.put, List.setIfInBounds_toArray, List.set_cons_zero, List.set_cons_succ]
        refine tkH 7 hHeld ?_
        refine rdyH [8] ?_
        refine rcH (fun K hK => ?_) AllReadyH.nil
        obtain ⟨c1, z1⟩ := box_at (HT5.out.chg HX5.out.rlt cX).box 2 (by simp)
        simp only [List.getElem_toArray, List.getElem_cons_zero, List.getElem_cons_succ] at c1
        go_simp
        clear c1 z1
        refine hK.out _ _ (HSD.out _ ((Below.heap_setCell _ _ _ _ (Ne.symm hTF)).trans (cX.keep _ HF5.out.lt HF5.out.nil hFr))) (fun hHeld => ?_)
        clear hK K
        try simp only [Act.put, List.setIfInBounds_toArray, List.set_cons_zero, List.set_cons_succ]
        refine wpAnyH_done (by kernel_rfl) ?_ _
        have HXb := hid_of (HX5.out.chg cX HQ.out.1 (HX5.out.rdk cX rX))
        have HFb := hid_of (HF5.out.chg HX5.out.rlt cX)
        have HTb := hid_of (HT5.out.chg HX5.out.rlt cX)
        have HX := hid_of (HXb.out.boxed HTb.out 2 (.slice (some ⟨gF, 0, none⟩) (fl + 1) capF))
        have HT : Hid (Box w (wF2.setCell ⟨TX, 2, none⟩ (.slice (some ⟨gF, 0, none⟩) (fl + 1) capF)) σF XB TX #[.string tn, .string tk, .slice (some ⟨gF, 0, none⟩) (fl + 1) capF] 48) := hid_of (HTb.out.set 2 (.slice (some ⟨gF, 0, none⟩) (fl + 1) capF))
        have HF := hid_of (HFb.out.other (M := TX) (j := 2) (Ne.symm hTF) (.slice (some ⟨gF, 0, none⟩) (fl + 1) capF))
        have HQ2 := hid_of HQ.out.2
        have HEx := hid_of cX.ext
        generalize wF2.setCell ⟨TX, 2, none⟩ (.slice (some ⟨gF, 0, none⟩) (fl + 1) capF) = wX at *
        clear HX5 HF5 HT5 HXb HFb HTb HQ cX H1 rX nE HNL HCL HSD HNEQ HNR
        go_upto_region 25 with fail
        have HX := hid_of (HX.out.le' bdCS)
        obtain ⟨d0, -⟩ := box_at HF.out.box 0 (by simp)
        obtain ⟨d1, -⟩ := box_at HF.out.box 1 (by simp)
        obtain ⟨d2, -⟩ := box_at HF.out.box 2 (by simp)
        obtain ⟨d3, -⟩ := box_at HF.out.box 3 (by simp)
        obtain ⟨d4, -⟩ := box_at HF.out.box 4 (by simp)
        obtain ⟨d5, -⟩ := box_at HF.out.box 5 (by simp)
        obtain ⟨d6, -⟩ := box_at HF.out.box 6 (by simp)
        obtain ⟨d7, -⟩ := box_at HF.out.box 7 (by simp)
        obtain ⟨b2, -⟩ := box_at HT.out.box 2 (by simp)
        simp only [List.getElem_toArray, List.getElem_cons_zero, List.getElem_cons_succ] at d0 d1 d2 d3 d4 d5 d6 d7 b2
        have hcc := fun j (hj : j < 8) => HX.out.wf.cell HQ2.out m j (by omega) (by rw [wideF]; exact hj)
        simp only [wideF] at hcc
        obtain ⟨e0, g0, -, z0⟩ := hcc 0 (by omega)
        obtain ⟨e1, g1, -, z1⟩ := hcc 1 (by omega)
        obtain ⟨e2, g2, -, z2⟩ := hcc 2 (by omega)
        obtain ⟨e3, g3, -, z3⟩ := hcc 3 (by omega)
        obtain ⟨e4, g4, -, z4⟩ := hcc 4 (by omega)
        obtain ⟨e5, g5, -, z5⟩ := hcc 5 (by omega)
        obtain ⟨e6, g6, -, z6⟩ := hcc 6 (by omega)
        obtain ⟨e7, g7, -, z7⟩ := hcc 7 (by omega)
        rw [Nat.add_zero] at g0 z0
        clear hcc
        obtain ⟨Y, hY, hX6, hB6⟩ : ∃ Y, Y = ((((((((wX.setCell ⟨gF, m * 8, none⟩ (.string fn)).setCell ⟨gF, m * 8 + 1, none⟩ (.string fo)).setCell ⟨gF, m * 8 + 2, none⟩ (.bool l)).setCell ⟨gF, m * 8 + 3, none⟩ (.bool mu)).setCell ⟨gF, m * 8 + 4, none⟩ (.bool fr)).setCell ⟨gF, m * 8 + 5, none⟩ (.bool hd)).setCell ⟨gF, m * 8 + 6, none⟩ (.bool sh)).setCell ⟨gF, m * 8 + 7, none⟩ (.slice na nl nc)) ∧ XSt w rb cb XB Y σF bdS (q + 3) nm tb len cap ∧ ∀ M cs T, Box w wX σF XB M cs T → Box w Y σF XB M cs T := ⟨_, rfl, HX.out.put8 (k := m) HQ2.out fn fo l mu fr hd sh (.slice na nl nc) hfn hfo ⟨_, _, _, rfl, Nat.le_trans hs1 (by decide), hs2, hs3, SlIn.ext (T := 9) (n := nl) hs4 HEx.out⟩ _ rfl⟩
        have HYE := hid_of hY
        have HX6 := hid_of hX6
        have HT6 := hid_of (hB6 _ _ _ HT.out)
        clear hY hX6 hB6
        go_upto_region 26 with fail
        rw [← HYE.out]
        clear b2 d0 d1 d2 d3 d4 d5 d6 d7 g0 z0 g1 z1 g2 z2 g3 z3 g4 z4 g5 z5 g6 z6 g7 z7 HX HT HF HYE
        obtain ⟨b0, -⟩ := box_at HT6.out.box 0 (by simp)
        obtain ⟨b1, -⟩ := box_at HT6.out.box 1 (by simp)
        obtain ⟨b2, -⟩ := box_at HT6.out.box 2 (by simp)
        obtain ⟨x1, -⟩ := box_at HX6.out.xb 1 (by simp)
        simp only [List.getElem_toArray, List.getElem_cons_zero, List.getElem_cons_succ] at b0 b1 b2 x1
        have hkc : k < cap := by have := HX6.out.le; omega
        have hcc := fun j (hj : j < 3) => HX6.out.wf.cell HX6.out.blk k j hkc (by rw [wideT]; exact hj)
        simp only [wideT] at hcc
        obtain ⟨e0, g0, -, z0⟩ := hcc 0 (by omega)
        obtain ⟨e1, g1, -, z1⟩ := hcc 1 (by omega)
        obtain ⟨e2, g2, -, z2⟩ := hcc 2 (by omega)
        rw [Nat.add_zero] at g0 z0
        clear hcc
        obtain ⟨Z, hZ, hX7⟩ : ∃ Z, Z = (((Y.setCell ⟨tb, k * 3, none⟩ (.string tn)).setCell ⟨tb, k * 3 + 1, none⟩ (.string tk)).setCell ⟨tb, k * 3 + 2, none⟩ (.slice (some ⟨gF, 0, none⟩) (fl + 1) capF)) ∧ XSt w rb cb XB Z σF bdS (q + 3) nm tb len cap := ⟨_, rfl, HX6.out.put3 k tn tk (.slice (some ⟨gF, 0, none⟩) (fl + 1) capF) htn rfl htk ⟨_, _, _, rfl, by show fl + 1 ≤ 121; omega, hq3, hq4, Or.inr ⟨gF, rfl, HQ2.out⟩⟩ _ rfl⟩
        have HZE := hid_of hZ
        have HX7 := hid_of hX7
        clear hZ hX7
        go_upto_region 27 with fail
        rw [← HZE.out]
        clear b0 b1 b2 x1 g0 g1 g2 z0 z1 z2 HX6 HT6 HZE
        obtain ⟨x0, -⟩ := box_at HX7.out.xb 0 (by simp)
        obtain ⟨x1, -⟩ := box_at HX7.out.xb 1 (by simp)
        obtain ⟨y0, yf0⟩ := box_at HX7.out.rbox 0 (by simp)
        obtain ⟨y1, yf1⟩ := box_at HX7.out.rbox 1 (by simp)
        simp only [List.getElem_toArray, List.getElem_cons_zero, List.getElem_cons_succ] at x0 x1 y0 y1
        go_wp2_with fail
        have hdd := sets2_cells HX7.out.rbox (.string nm) (.slice (some ⟨tb, 0, none⟩) len cap)
        exact bodyPost_ret (spResult _ _ (w.heap.size + 1) (.string nm) (.slice (some ⟨tb, 0, none⟩) len cap) rfl hdd.1 hdd.2) rfl (HX7.out.fin (by decide) (by decide) 0 len cap (by omega) (by omega) HX7.out.le)
      refine rcH (fun K hK => ?_) AllReadyH.nil
      have c1 := HCL.out wE1 bX
      go_simp
      clear c1
      refine hK.out _ _ (HSD.out _ (by first | exact cX.keep _ HF5.out.lt HF5.out.nil hFr | exact bX.block _ HF5.out.lt)) (fun hHeld => ?_)
      clear hK K
      try simp only [Act.put, List.setIfInBounds_toArray, List.set_cons_zero, List.set_cons_succ]
      refine rdyH [0] ?_
      refine rcH (fun K hK => ?_) AllReadyH.nil
      go_simp
      have bA := below_box wE1 (.cells #[] 37)
      obtain ⟨gA, hgA⟩ : ∃ g, g = wE1.heap.size := ⟨_, rfl⟩
      have nA := block_new (w := wE1) (N := gA) #[] 37 hgA.symm
      have hgA2 : wG.heap.size ≤ gA := by have := bX.size; omega
      have bX := bX.trans (bA.mono bX.size)
      try have nE := (bA.block gE (Array.getElem?_eq_some_iff.1 nE).1).trans nE
      refine hK.out _ _ (HSD.out _ (by first | exact cX.keep _ HF5.out.lt HF5.out.nil hFr | exact bX.block _ HF5.out.lt)) (fun hHeld => ?_)
      clear hK K
      try simp only [Act.put, List.setIfInBounds_toArray, List.set_cons_zero, List.set_cons_succ]
      rw [← hgA]
      generalize wE1.alloc (.cells #[] 37) = wA1 at *
      clear hgA bA
      refine rdyH [3] ?_
      refine rcH (fun K hK => ?_) AllReadyH.nil
      have hWA : Wf wA1 (σ.add gA 37 0) bdC := (HX5.out.wf.below bX).add (HX5.out.wf.fresh hgA2) nA rfl (fun k v hv => by simp at hv)
      refine step_append_wf hWA rfl (.tmp 40) (.tmp 42) 46 rfl 37 iF _ 64 Try.underlying46 hiF hzF hsF hbF rfl (zeroF _ _) (some ⟨gA, 0, none⟩) 0 0 rfl (Nat.le_refl _) (Nat.zero_le _) (Or.inr ⟨gA, rfl, Sh.add_self _ _ _ _⟩) ⟨fb, 0, none⟩ fl fp NL rfl HNL.out.1 (fun j u hu => (bX.cell (p := (⟨fb, 0, none⟩ : Addr).add j) (by rw [Addr.add_lit]; exact HX5.out.wf.lt hfb)).trans (HNL.out.2.1 j u hu)) HNL.out.2.2.1 (fun j u hu => (HNL.out.2.2.2 j u hu).ext (Sh.add_ext (HX5.out.wf.fresh hgA2)) (Bd.le.refl _)) (by omega) (by unfold maxLen; omega) (by omega) ?_
      intro g1 cap1 wF1 σ1 q1 q2 q3 q4 q5 q6 q7 q8 q9
      simp only [Nat.zero_add] at q3 ⊢
      try have nE := (q7.block gE (Array.getElem?_eq_some_iff.1 nE).1 (fun e => HNEQ.out gE gA nE nA (Option.some.inj e))).trans nE
      have cA : Chg rb wG wA1 σ (σ.add gA 37 0) := ⟨Sh.add_ext (HX5.out.wf.fresh hgA2), fun x hx => Sh.add_ne _ _ _ _ _ (by omega), fun x hx _ _ => bX.block x hx, bX.size, bX.os, bX.tape, bX.output⟩
      have cX := cA.grown q7 (fun x hx => ⟨_, _, by cases hx; exact Sh.add_self _ _ _ _⟩) q5 q6
      have rX : wF1.heap[rb]? = wG.heap[rb]? := (q7.block rb (by have := bX.size; have := HX5.out.rd.lt.1; omega) (fun e => by have e := Option.some.inj e; have e : rb = gA := e; have := HX5.out.rd.lt.1; omega)).trans (bX.block rb HX5.out.rd.lt.1)
      have H1 := hid_of (And.intro q1 q2)
      have q31 := q3
      have q41 := q4
      clear hWA cA bX q1 q2 q3 q4 q5 q6 q7 q8 q9
      try have nE := (bF.block gE (Array.getElem?_eq_some_iff.1 nE).1).trans nE
      try have nA := (bF.block gA (Array.getElem?_eq_some_iff.1 nA).1).trans nA
      refine hK.out _ _ (HSD.out _ (by first | exact cX.keep _ HF5.out.lt HF5.out.nil hFr | exact bX.block _ HF5.out.lt)) (fun hHeld => ?_)
      clear hK K
      try simp only [Act.put, List.setIfInBounds_toArray, List.set_cons_zero, List.set_cons_succ]
      refine rdyH [6] ?_
      refine rcH (fun K hK => ?_) AllReadyH.nil
      refine step_append_wf H1.out.1 rfl (.tmp 43) (.tmp 45) 46 rfl 37 iF _ 64 Try.underlying46 hiF hzF hsF hbF rfl (zeroF _ _) (some ⟨g1, 0, none⟩) fl cap1 rfl q31 q41 (Or.inr ⟨g1, rfl, H1.out.2⟩) ⟨gE, 0, none⟩ 1 1 [.string fn, .string fo, .bool l, .bool mu, .bool fr, .bool hd, .bool sh, .slice na nl nc] rfl rfl (World.news_of_block nE) (by intro u hu; simp at hu; rcases hu with rfl | rfl | rfl | rfl | rfl | rfl | rfl | rfl <;> rfl) (cells_list (T := 37) (cs := #[.string fn, .string fo, .bool l, .bool mu, .bool fr, .bool hd, .bool sh, .slice na nl nc]) rfl (fieldCells σ1 bdC fn fo l mu fr hd sh (.slice na nl nc) hfn hfo ⟨_, _, _, rfl, hs1, hs2, hs3, SlIn.ext (T := 9) (n := nl) hs4 cX.ext⟩)) (by omega) (by unfold maxLen; omega) (by omega) ?_
      intro gF capF wF2 σF q1 q2 q3 q4 q5 q6 q7 q8 q9
      have rX : wF2.heap[rb]? = wG.heap[rb]? := (q7.block rb (by have := cX.size; have := HX5.out.rd.lt.1; omega) (fun e => HNR.out σ1 g1 _ _ cX.same H1.out.2 (Option.some.inj e).symm)).trans rX
      have cX := cX.grown q7 (fun x hx => ⟨_, _, by cases hx; exact H1.out.2⟩) q5 q6
      have HQ := hid_of (And.intro q1 q2)
      have hq3 := q3
      have hq4 := q4
      clear q1 q2 q3 q4 q5 q6 q7 q8 q9
      try have nE := (bG.block gE (Array.getElem?_eq_some_iff.1 nE).1).trans nE
      try have nA := (bG.block gA (Array.getElem?_eq_some_iff.1 nA).1).trans nA
      try have H1 := hid_of (And.intro (H1.out.1.below bG) H1.out.2)
      refine hK.out _ _ (HSD.out _ (by first | exact cX.keep _ HF5.out.lt HF5.out.nil hFr | exact bX.block _ HF5.out.lt)) (fun hHeld => ?_)
      clear hK K
      try simp only [Act.put, List.setIfInBounds_toArray, List.set_cons_zero, List.set_cons_succ]
      refine tkH 7 hHeld ?_
      refine rdyH [8] ?_
      refine rcH (fun K hK => ?_) AllReadyH.nil
      obtain ⟨c1, z1⟩ := box_at (HT5.out.chg HX5.out.rlt cX).box 2 (by simp)
      simp only [List.getElem_toArray, List.getElem_cons_zero, List.getElem_cons_succ] at c1
      go_simp
      clear c1 z1
      refine hK.out _ _ (HSD.out _ ((Below.heap_setCell _ _ _ _ (Ne.symm hTF)).trans (cX.keep _ HF5.out.lt HF5.out.nil hFr))) (fun hHeld => ?_)
      clear hK K
      try simp only [Act.put, List.setIfInBounds_toArray, List.set_cons_zero, List.set_cons_succ]
      refine wpAnyH_done (by kernel_rfl) ?_ _
      have HXb := hid_of (HX5.out.chg cX HQ.out.1 (HX5.out.rdk cX rX))
      have HFb := hid_of (HF5.out.chg HX5.out.rlt cX)
      have HTb := hid_of (HT5.out.chg HX5.out.rlt cX)
      have HX := hid_of (HXb.out.boxed HTb.out 2 (.slice (some ⟨gF, 0, none⟩) (fl + 1) capF))
      have HT : Hid (Box w (wF2.setCell ⟨TX, 2, none⟩ (.slice (some ⟨gF, 0, none⟩) (fl + 1) capF)) σF XB TX #[.string tn, .string tk, .slice (some ⟨gF, 0, none⟩) (fl + 1) capF] 48) := hid_of (HTb.out.set 2 (.slice (some ⟨gF, 0, none⟩) (fl + 1) capF))
      have HF := hid_of (HFb.out.other (M := TX) (j := 2) (Ne.symm hTF) (.slice (some ⟨gF, 0, none⟩) (fl + 1) capF))
      have HQ2 := hid_of HQ.out.2
      have HEx := hid_of cX.ext
      generalize wF2.setCell ⟨TX, 2, none⟩ (.slice (some ⟨gF, 0, none⟩) (fl + 1) capF) = wX at *
      clear HX5 HF5 HT5 HXb HFb HTb HQ cX H1 rX nE HNL HCL HSD HNEQ HNR
      go_upto_region 25 with fail
      have HX := hid_of (HX.out.le' bdCS)
      obtain ⟨d0, -⟩ := box_at HF.out.box 0 (by simp)
      obtain ⟨d1, -⟩ := box_at HF.out.box 1 (by simp)
      obtain ⟨d2, -⟩ := box_at HF.out.box 2 (by simp)
      obtain ⟨d3, -⟩ := box_at HF.out.box 3 (by simp)
      obtain ⟨d4, -⟩ := box_at HF.out.box 4 (by simp)
      obtain ⟨d5, -⟩ := box_at HF.out.box 5 (by simp)
      obtain ⟨d6, -⟩ := box_at HF.out.box 6 (by simp)
      obtain ⟨d7, -⟩ := box_at HF.out.box 7 (by simp)
      obtain ⟨b2, -⟩ := box_at HT.out.box 2 (by simp)
      simp only [List.getElem_toArray, List.getElem_cons_zero, List.getElem_cons_succ] at d0 d1 d2 d3 d4 d5 d6 d7 b2
      have hcc := fun j (hj : j < 8) => HX.out.wf.cell HQ2.out m j (by omega) (by rw [wideF]; exact hj)
      simp only [wideF] at hcc
      obtain ⟨e0, g0, -, z0⟩ := hcc 0 (by omega)
      obtain ⟨e1, g1, -, z1⟩ := hcc 1 (by omega)
      obtain ⟨e2, g2, -, z2⟩ := hcc 2 (by omega)
      obtain ⟨e3, g3, -, z3⟩ := hcc 3 (by omega)
      obtain ⟨e4, g4, -, z4⟩ := hcc 4 (by omega)
      obtain ⟨e5, g5, -, z5⟩ := hcc 5 (by omega)
      obtain ⟨e6, g6, -, z6⟩ := hcc 6 (by omega)
      obtain ⟨e7, g7, -, z7⟩ := hcc 7 (by omega)
      rw [Nat.add_zero] at g0 z0
      clear hcc
      obtain ⟨Y, hY, hX6, hB6⟩ : ∃ Y, Y = ((((((((wX.setCell ⟨gF, m * 8, none⟩ (.string fn)).setCell ⟨gF, m * 8 + 1, none⟩ (.string fo)).setCell ⟨gF, m * 8 + 2, none⟩ (.bool l)).setCell ⟨gF, m * 8 + 3, none⟩ (.bool mu)).setCell ⟨gF, m * 8 + 4, none⟩ (.bool fr)).setCell ⟨gF, m * 8 + 5, none⟩ (.bool hd)).setCell ⟨gF, m * 8 + 6, none⟩ (.bool sh)).setCell ⟨gF, m * 8 + 7, none⟩ (.slice na nl nc)) ∧ XSt w rb cb XB Y σF bdS (q + 3) nm tb len cap ∧ ∀ M cs T, Box w wX σF XB M cs T → Box w Y σF XB M cs T := ⟨_, rfl, HX.out.put8 (k := m) HQ2.out fn fo l mu fr hd sh (.slice na nl nc) hfn hfo ⟨_, _, _, rfl, Nat.le_trans hs1 (by decide), hs2, hs3, SlIn.ext (T := 9) (n := nl) hs4 HEx.out⟩ _ rfl⟩
      have HYE := hid_of hY
      have HX6 := hid_of hX6
      have HT6 := hid_of (hB6 _ _ _ HT.out)
      clear hY hX6 hB6
      go_upto_region 26 with fail
      rw [← HYE.out]
      clear b2 d0 d1 d2 d3 d4 d5 d6 d7 g0 z0 g1 z1 g2 z2 g3 z3 g4 z4 g5 z5 g6 z6 g7 z7 HX HT HF HYE
      obtain ⟨b0, -⟩ := box_at HT6.out.box 0 (by simp)
      obtain ⟨b1, -⟩ := box_at HT6.out.box 1 (by simp)
      obtain ⟨b2, -⟩ := box_at HT6.out.box 2 (by simp)
      obtain ⟨x1, -⟩ := box_at HX6.out.xb 1 (by simp)
      simp only [List.getElem_toArray, List.getElem_cons_zero, List.getElem_cons_succ] at b0 b1 b2 x1
      have hkc : k < cap := by have := HX6.out.le; omega
      have hcc := fun j (hj : j < 3) => HX6.out.wf.cell HX6.out.blk k j hkc (by rw [wideT]; exact hj)
      simp only [wideT] at hcc
      obtain ⟨e0, g0, -, z0⟩ := hcc 0 (by omega)
      obtain ⟨e1, g1, -, z1⟩ := hcc 1 (by omega)
      obtain ⟨e2, g2, -, z2⟩ := hcc 2 (by omega)
      rw [Nat.add_zero] at g0 z0
      clear hcc
      obtain ⟨Z, hZ, hX7⟩ : ∃ Z, Z = (((Y.setCell ⟨tb, k * 3, none⟩ (.string tn)).setCell ⟨tb, k * 3 + 1, none⟩ (.string tk)).setCell ⟨tb, k * 3 + 2, none⟩ (.slice (some ⟨gF, 0, none⟩) (fl + 1) capF)) ∧ XSt w rb cb XB Z σF bdS (q + 3) nm tb len cap := ⟨_, rfl, HX6.out.put3 k tn tk (.slice (some ⟨gF, 0, none⟩) (fl + 1) capF) htn rfl htk ⟨_, _, _, rfl, by show fl + 1 ≤ 121; omega, hq3, hq4, Or.inr ⟨gF, rfl, HQ2.out⟩⟩ _ rfl⟩
      have HZE := hid_of hZ
      have HX7 := hid_of hX7
      clear hZ hX7
      go_upto_region 27 with fail
      rw [← HZE.out]
      clear b0 b1 b2 x1 g0 g1 g2 z0 z1 z2 HX6 HT6 HZE
      obtain ⟨x0, -⟩ := box_at HX7.out.xb 0 (by simp)
      obtain ⟨x1, -⟩ := box_at HX7.out.xb 1 (by simp)
      obtain ⟨y0, yf0⟩ := box_at HX7.out.rbox 0 (by simp)
      obtain ⟨y1, yf1⟩ := box_at HX7.out.rbox 1 (by simp)
      simp only [List.getElem_toArray, List.getElem_cons_zero, List.getElem_cons_succ] at x0 x1 y0 y1
      go_wp2_with fail
      have hdd := sets2_cells HX7.out.rbox (.string nm) (.slice (some ⟨tb, 0, none⟩) len cap)
      exact bodyPost_ret (spResult _ _ (w.heap.size + 1) (.string nm) (.slice (some ⟨tb, 0, none⟩) len cap) rfl hdd.1 hdd.2) rfl (HX7.out.fin (by decide) (by decide) 0 len cap (by omega) (by omega) HX7.out.le)
  have hmf' : ¬ (m : Int) < (fl : Int) := by omega
  have HPK := hid_of (pick_any wD rb cb (q + 2) 5 HX3.out.rd (by omega) (by omega) (by omega))
  go_upto_region 30 with (go_at_call 33; refine HPK.out.mono ?_; rintro e wG ⟨c, rfl, hc, r1, o1, z1⟩)
  have HX5 := hid_of (HX3.out.move r1 o1)
  have HT5 := hid_of (HT3.out.chg HX3.out.rlt (Chg.pick σ o1))
  have hc9 : c = 0 ∨ c = 1 ∨ c = 2 ∨ c = 3 ∨ c = 4 := by omega
  clear HX3 HT3 HPK r1 o1 z1 hc b2
  obtain ⟨x1, -⟩ := box_at HX5.out.xb 1 (by simp)
  simp only [List.getElem_toArray, List.getElem_cons_zero, List.getElem_cons_succ] at x1
  have hkc : k < cap := by have := HX5.out.le; omega
  rcases hc9 with rfl | rfl | rfl | rfl | rfl
  · have HXD := hid_of (HX5.out.below (wy := wG.drew) ⟨rfl, rfl, rfl, Nat.le_refl _, fun _ _ => rfl⟩)
    have HOF : Hid (Calls Try.prog 19 #[.pointer (some ⟨rb, 0, none⟩), .slice (some ⟨wG.drew.heap.size, 0, none⟩) 4 4] (wG.drew.alloc (.cells #[.string ⟨#[]⟩, .string ⟨#[105, 100]⟩, .string ⟨#[110, 97, 109, 101]⟩, .string ⟨#[97, 103, 101]⟩] 9)) fun e w' => ∃ s : ByteArray, e = .returned (.string s) ∧ s.size ≤ 12 ∧ RdOk w' rb cb (q + 4) ∧ Only (· = rb) wG.drew w') := hid_of (of_lit wG.drew rb cb (q + 3) HXD.out.rd (by omega) [⟨#[]⟩, ⟨#[105, 100]⟩, ⟨#[110, 97, 109, 101]⟩, ⟨#[97, 103, 101]⟩] (by simp) (by simp) (by intro s hs; simp at hs; rcases hs with rfl | rfl | rfl | rfl <;> decide))
    have A1 : ∀ o, (wG.drew.alloc o).cell? ⟨XB, 1, none⟩ = some (.slice (some ⟨tb, 0, none⟩) len cap) := fun o => ((below_box wG.drew o).cell (p := ⟨XB, 1, none⟩) (World.block_lt_of_cell? _ _ x1)).trans x1
    have A2 : ∀ o, (wG.alloc o).cell? ⟨XB, 1, none⟩ = some (.slice (some ⟨tb, 0, none⟩) len cap) := fun o => ((below_box wG o).cell (p := ⟨XB, 1, none⟩) (World.block_lt_of_cell? _ _ x1)).trans x1
    go_upto_region 31 with fail
    go_region_with (go_at_call 19; refine HOF.out.mono ?_; rintro e wH ⟨tx, rfl, htx, r2, o2⟩; have HXb := hid_of (HXD.out.move r2 o2); obtain ⟨xx, -⟩ := box_at HXb.out.xb 1 (by simp); simp only [List.getElem_toArray, List.getElem_cons_zero, List.getElem_cons_succ] at xx; obtain ⟨e0, g0, -, z0⟩ := HXb.out.wf.cell HXb.out.blk k 1 hkc (by rw [wideT]; omega); rw [wideT] at g0 z0)
    all_goals
      have HX := hid_of (HXb.out.put HXb.out.blk (k * 3 + 1) (.string tx) (by rw [wideT, show (k * 3 + 1) % 3 = 1 by omega]; simp [CellOk, StOk, NmOk, bdC]; exact htx))
      generalize wH.setCell ⟨tb, k * 3 + 1, none⟩ (.string tx) = wX at *
      clear HXb HXD HX5 HT5 g0 z0 xx x1 A1 A2 r2 o2 HOF
      have HX := hid_of (HX.out.le' bdCS)
      obtain ⟨x0, -⟩ := box_at HX.out.xb 0 (by simp)
      obtain ⟨x1, -⟩ := box_at HX.out.xb 1 (by simp)
      obtain ⟨y0, yf0⟩ := box_at HX.out.rbox 0 (by simp)
      obtain ⟨y1, yf1⟩ := box_at HX.out.rbox 1 (by simp)
      simp only [List.getElem_toArray, List.getElem_cons_zero, List.getElem_cons_succ] at x0 x1 y0 y1
      go_wp2_with fail
      have hdd := sets2_cells HX.out.rbox (.string nm) (.slice (some ⟨tb, 0, none⟩) len cap)
      exact bodyPost_ret (spResult _ _ (w.heap.size + 1) (.string nm) (.slice (some ⟨tb, 0, none⟩) len cap) rfl hdd.1 hdd.2) rfl (HX.out.fin (by decide) (by decide) 0 len cap (by omega) (by omega) HX.out.le)
  · obtain ⟨b0, -⟩ := box_at HT5.out.box 0 (by simp)
    obtain ⟨b1, -⟩ := box_at HT5.out.box 1 (by simp)
    obtain ⟨b2, -⟩ := box_at HT5.out.box 2 (by simp)
    simp only [List.getElem_toArray, List.getElem_cons_zero, List.getElem_cons_succ] at b0 b1 b2
    obtain ⟨iT, hiT, hzT, hsT, hbT⟩ := info_parts infoT
    have HOK := hid_of (cells_list (T := 48) (cs := #[.string tn, .string tk, .slice fa fl fp]) rfl (typeCells σ bdC tn tk (.slice fa fl fp) htn (fun h => by cases h) htk ⟨fa, fl, fp, rfl, hf1, hf2, hf3, hf4⟩))
    have hlc := HX5.out.le
    have hcm := HX5.out.cm
    go_upto_region 38 with (
      at_builtin
      refine wpList_append_wf (HX5.out.wf.below (below_box _ _)) rfl _ _ 23 rfl 48 iT _ 56 Try.underlying23 hiT hzT hsT hbT rfl (zeroT _ _) (some ⟨tb, 0, none⟩) len cap rfl hlc hcm (Or.inr ⟨tb, rfl, HX5.out.blk⟩) ⟨wG.heap.size, 0, none⟩ 1 1 [.string tn, .string tk, .slice fa fl fp] rfl rfl (World.news_of_block (block_new _ _ rfl)) (by intro u hu; simp at hu; rcases hu with rfl | rfl | rfl <;> rfl) HOK.out (by omega) (by unfold maxLen; omega) (by omega) ?_
      intro gF capF wF σF q1 q2 q3 q4 q5 q6 q7 q8 q9
      have cF := (Chg.below rb σ (below_box wG (.cells #[.string tn, .string tk, .slice fa fl fp] 48))).grown q7 (fun x hx => ⟨_, _, by cases hx; exact HX5.out.blk⟩) q5 q6
      have hrF : wF.heap[rb]? = wG.heap[rb]? := (q7.block rb (by have := HX5.out.rd.lt.1; simp; omega) (fun e => by have e := Option.some.inj e; have e : rb = tb := e; have := (HX5.out.new _ _ _ HX5.out.blk).1; have := HX5.out.rlt; omega)).trans ((below_box wG _).block _ HX5.out.rd.lt.1)
      have HXF := hid_of (HX5.out.chg cF q1 (HX5.out.rdk cF hrF))
      obtain ⟨xx, xf⟩ := box_at HXF.out.xb 1 (by simp)
      simp only [List.getElem_toArray, List.getElem_cons_zero, List.getElem_cons_succ] at xx
      have HQ2 := hid_of q2
      clear cF hrF q1 q2 q5 q6 q7 q8 q9)
    have HX := hid_of (HXF.out.types HQ2.out q3 q4)
    generalize wF.setCell ⟨XB, 1, none⟩ (.slice (some ⟨gF, 0, none⟩) (len + 1) capF) = wX at *
    clear HXF HX5 HT5 b0 b1 b2 x1 xx xf
    have HX := hid_of (HX.out.le' bdCS)
    obtain ⟨x0, -⟩ := box_at HX.out.xb 0 (by simp)
    obtain ⟨x1, -⟩ := box_at HX.out.xb 1 (by simp)
    obtain ⟨y0, yf0⟩ := box_at HX.out.rbox 0 (by simp)
    obtain ⟨y1, yf1⟩ := box_at HX.out.rbox 1 (by simp)
    simp only [List.getElem_toArray, List.getElem_cons_zero, List.getElem_cons_succ] at x0 x1 y0 y1
    go_wp2_with fail
    have hdd := sets2_cells HX.out.rbox (.string nm) (.slice (some ⟨gF, 0, none⟩) (len + 1) capF)
    exact bodyPost_ret (spResult _ _ (w.heap.size + 1) (.string nm) (.slice (some ⟨gF, 0, none⟩) (len + 1) capF) rfl hdd.1 hdd.2) rfl (HX.out.fin (by decide) (by decide) 0 (len + 1) capF (by omega) (by omega) HX.out.le)
  · have HOF : Hid (Calls Try.prog 19 #[.pointer (some ⟨rb, 0, none⟩), .slice (some ⟨wG.heap.size, 0, none⟩) 3 3] (wG.alloc (.cells #[.string ⟨#[]⟩, .string ⟨#[112, 97, 114, 116]⟩, .string ⟨#[65]⟩] 9)) fun e w' => ∃ s : ByteArray, e = .returned (.string s) ∧ s.size ≤ 12 ∧ RdOk w' rb cb (q + 4) ∧ Only (· = rb) wG w') := hid_of (of_lit wG rb cb (q + 3) HX5.out.rd (by omega) [⟨#[]⟩, ⟨#[112, 97, 114, 116]⟩, ⟨#[65]⟩] (by simp) (by simp) (by intro s hs; simp at hs; rcases hs with rfl | rfl | rfl <;> decide))
    go_upto_region 38 with (go_at_call 19; refine HOF.out.mono ?_; rintro e wH ⟨tx, rfl, htx, r2, o2⟩; have HXb := hid_of (HX5.out.move r2 o2); obtain ⟨xx, xf⟩ := box_at HXb.out.xb 0 (by simp); simp only [List.getElem_toArray, List.getElem_cons_zero, List.getElem_cons_succ] at xx)
    have HX := hid_of (HXb.out.name tx htx)
    generalize wH.setCell ⟨XB, 0, none⟩ (.string tx) = wX at *
    clear HXb HX5 HT5 x1 xx xf r2 o2 HOF
    have HX := hid_of (HX.out.le' bdCS)
    obtain ⟨x0, -⟩ := box_at HX.out.xb 0 (by simp)
    obtain ⟨x1, -⟩ := box_at HX.out.xb 1 (by simp)
    obtain ⟨y0, yf0⟩ := box_at HX.out.rbox 0 (by simp)
    obtain ⟨y1, yf1⟩ := box_at HX.out.rbox 1 (by simp)
    simp only [List.getElem_toArray, List.getElem_cons_zero, List.getElem_cons_succ] at x0 x1 y0 y1
    go_wp2_with fail
    have hdd := sets2_cells HX.out.rbox (.string tx) (.slice (some ⟨tb, 0, none⟩) len cap)
    exact bodyPost_ret (spResult _ _ (w.heap.size + 1) (.string tx) (.slice (some ⟨tb, 0, none⟩) len cap) rfl hdd.1 hdd.2) rfl (HX.out.fin (by decide) (by decide) 0 len cap (by omega) (by omega) HX.out.le)
  · have HXD := hid_of (HX5.out.below (wy := wG.drew) ⟨rfl, rfl, rfl, Nat.le_refl _, fun _ _ => rfl⟩)
    have HOF : Hid (Calls Try.prog 19 #[.pointer (some ⟨rb, 0, none⟩), .slice (some ⟨wG.drew.heap.size, 0, none⟩) 4 4] (wG.drew.alloc (.cells #[.string ⟨#[113, 117, 101, 114, 121]⟩, .string ⟨#[117, 115, 101, 114]⟩, .string ⟨#[105, 110, 116]⟩, .string ⟨#[120]⟩] 9)) fun e w' => ∃ s : ByteArray, e = .returned (.string s) ∧ s.size ≤ 12 ∧ RdOk w' rb cb (q + 4) ∧ Only (· = rb) wG.drew w') := hid_of (of_lit wG.drew rb cb (q + 3) HXD.out.rd (by omega) [⟨#[113, 117, 101, 114, 121]⟩, ⟨#[117, 115, 101, 114]⟩, ⟨#[105, 110, 116]⟩, ⟨#[120]⟩] (by simp) (by simp) (by intro s hs; simp at hs; rcases hs with rfl | rfl | rfl | rfl <;> decide))
    have A1 : ∀ o, (wG.drew.alloc o).cell? ⟨XB, 1, none⟩ = some (.slice (some ⟨tb, 0, none⟩) len cap) := fun o => ((below_box wG.drew o).cell (p := ⟨XB, 1, none⟩) (World.block_lt_of_cell? _ _ x1)).trans x1
    have A2 : ∀ o, (wG.alloc o).cell? ⟨XB, 1, none⟩ = some (.slice (some ⟨tb, 0, none⟩) len cap) := fun o => ((below_box wG o).cell (p := ⟨XB, 1, none⟩) (World.block_lt_of_cell? _ _ x1)).trans x1
    go_upto_region 37 with fail
    go_region_with (go_at_call 19; refine HOF.out.mono ?_; rintro e wH ⟨tx, rfl, htx, r2, o2⟩; have HXb := hid_of (HXD.out.move r2 o2); obtain ⟨xx, -⟩ := box_at HXb.out.xb 1 (by simp); simp only [List.getElem_toArray, List.getElem_cons_zero, List.getElem_cons_succ] at xx; obtain ⟨e0, g0, -, z0⟩ := HXb.out.wf.cell HXb.out.blk k 0 hkc (by rw [wideT]; omega); rw [wideT, Nat.add_zero] at g0 z0)
    all_goals
      have HX := hid_of (HXb.out.put HXb.out.blk (k * 3) (.string tx) (by rw [wideT, show (k * 3) % 3 = 0 by omega]; simp [CellOk, StOk, NmOk, bdC]; exact htx))
      generalize wH.setCell ⟨tb, k * 3, none⟩ (.string tx) = wX at *
      clear HXb HXD HX5 HT5 g0 z0 xx x1 A1 A2 r2 o2 HOF
      have HX := hid_of (HX.out.le' bdCS)
      obtain ⟨x0, -⟩ := box_at HX.out.xb 0 (by simp)
      obtain ⟨x1, -⟩ := box_at HX.out.xb 1 (by simp)
      obtain ⟨y0, yf0⟩ := box_at HX.out.rbox 0 (by simp)
      obtain ⟨y1, yf1⟩ := box_at HX.out.rbox 1 (by simp)
      simp only [List.getElem_toArray, List.getElem_cons_zero, List.getElem_cons_succ] at x0 x1 y0 y1
      go_wp2_with fail
      have hdd := sets2_cells HX.out.rbox (.string nm) (.slice (some ⟨tb, 0, none⟩) len cap)
      exact bodyPost_ret (spResult _ _ (w.heap.size + 1) (.string nm) (.slice (some ⟨tb, 0, none⟩) len cap) rfl hdd.1 hdd.2) rfl (HX.out.fin (by decide) (by decide) 0 len cap (by omega) (by omega) HX.out.le)
  · have hlc := HX5.out.le
    have hcm := HX5.out.cm
    unfold maxLen at hcm
    by_cases hc1 : cap = 1
    · have hl1 : len = 1 := by omega
      subst hc1
      subst hl1
      obtain ⟨Y, hY⟩ : ∃ Y, Y = wG.setCell ⟨XB, 1, none⟩ (.slice (some ⟨tb, 0, none⟩) 0 0) := ⟨_, rfl⟩
      obtain ⟨hE, k1, k2⟩ := (HX5.out.le' bdCS).finX (by decide) (by decide) 0 0 0 (by omega) (by omega) (by omega) Y hY
      have HE := hid_of hE
      have HYE := hid_of hY
      obtain ⟨xx, xf⟩ := box_at HX5.out.xb 1 (by simp)
      clear hE hY HX5 HT5
      go_upto_region 38 with fail
      rw [← HYE.out]
      obtain ⟨g0, -⟩ := box_at k1 0 (by simp)
      obtain ⟨g1, -⟩ := box_at k1 1 (by simp)
      obtain ⟨y0, yf0⟩ := box_at k2 0 (by simp)
      obtain ⟨y1, yf1⟩ := box_at k2 1 (by simp)
      simp only [List.getElem_toArray, List.getElem_cons_zero, List.getElem_cons_succ] at g0 g1 y0 y1
      clear HYE x1 xx xf
      go_wp2_with fail
      have hdd := sets2_cells k2 (.string nm) (.slice (some ⟨tb, 0, none⟩) 0 0)
      exact bodyPost_ret (spResult _ _ (w.heap.size + 1) (.string nm) (.slice (some ⟨tb, 0, none⟩) 0 0) rfl hdd.1 hdd.2) rfl HE.out
    · have hc1f : (cap = 1) = False := by simp [hc1]
      have hl1 : (1 : Int) ≤ (len : Int) := by omega
      have hl2 : (len : Int) ≤ (cap : Int) := by omega
      obtain ⟨len1, rfl⟩ : ∃ x, len = x + 1 := ⟨len - 1, by omega⟩
      obtain ⟨cap1, rfl⟩ : ∃ x, cap = x + 1 := ⟨cap - 1, by omega⟩
      obtain ⟨Y, hY⟩ : ∃ Y, Y = wG.setCell ⟨XB, 1, none⟩ (.slice (some ⟨tb, 1 * 3, none⟩) len1 cap1) := ⟨_, rfl⟩
      obtain ⟨hE, k1, k2⟩ := (HX5.out.le' bdCS).finX (by decide) (by decide) 1 len1 cap1 (by omega) (by omega) (by omega) Y hY
      have HE := hid_of hE
      have HYE := hid_of hY
      obtain ⟨xx, xf⟩ := box_at HX5.out.xb 1 (by simp)
      clear hE hY HX5 HT5
      go_upto_region 38 with fail
      rw [← HYE.out]
      obtain ⟨g0, -⟩ := box_at k1 0 (by simp)
      obtain ⟨g1, -⟩ := box_at k1 1 (by simp)
      obtain ⟨y0, yf0⟩ := box_at k2 0 (by simp)
      obtain ⟨y1, yf1⟩ := box_at k2 1 (by simp)
      simp only [List.getElem_toArray, List.getElem_cons_zero, List.getElem_cons_succ] at g0 g1 y0 y1
      clear HYE x1 xx xf
      go_wp2_with fail
      have hdd := sets2_cells k2 (.string nm) (.slice (some ⟨tb, 1 * 3, none⟩) len1 cap1)
      exact bodyPost_ret (spResult _ _ (w.heap.size + 1) (.string nm) (.slice (some ⟨tb, 1 * 3, none⟩) len1 cap1) rfl hdd.1 hdd.2) rfl HE.out
end Go.Proofs.Ytdohgkokoicjlaa
