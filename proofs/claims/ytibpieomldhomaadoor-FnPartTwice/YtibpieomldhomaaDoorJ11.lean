import Derived.Test.YtibpieomldhomaaDoorJ9
import Derived.Test.YtibpieomldhomaaDoorJ6
import Derived.Test.YtibpieomldhomaaDoorJ5
import Derived.Test.YtibpieomldhomaaDoorJ10
namespace Go.Proofs.YtibpieomldhomaaDoor
set_option linter.unusedSimpArgs false
set_option linter.unusedVariables false
open Go.RowKit Go.Maps
attribute [local go_sem] Oper.semAt_some

theorem SmT.le {a b nn : Nat} {t : T} (h : SmT a nn t) (hab : a ≤ b) : SmT b nn t := ⟨h.1, h.2.1, Nat.le_trans h.2.2.1 hab, h.2.2.2⟩
theorem lpResult (FW : World) (tmps : Array Value) (N : Nat) (v0 v1 : Value) (h4 : tmps.getD 2 undef = .pointer (some ⟨N, 0, none⟩))
    (d0 : FW.cell? ⟨N, 0, none⟩ = some v0) (d1 : FW.cell? ⟨N, 1, none⟩ = some v1) :
    (results Tryd.f10 tmps).run Tryd.prog FW = .ok (.agg #[v0, v1]) FW := by
  simp only [Array.getD_eq_getD_getElem?] at h4
  simp [results, Tryd.results10, go_sem, h4, d0, d1]
/-- A part that is drawn, not yet spoilt. -/
structure Drawn (w : World) (rb cb : Nat) (w' : World) (σ : Sh) (c q : Nat) (s : ByteArray) (tb len cap : Nat) : Prop where
  wf : Wf w' σ (bdP c)
  c56 : c ≤ 56
  new : ∀ b T m, σ b = some (T, m) → w.heap.size ≤ b
  ok : PvOk σ (bdP c) ⟨s, tb, len, cap⟩
  rd : RdOk w' rb cb q
  only : Only (· = rb) w w'
  rlt : rb < w.heap.size
  clt : cb < w.heap.size
/-- What l11Part leaves. -/
def PartEnd (w : World) (rb cb : Nat) (e : Ending) (w' : World) : Prop := ∃ (σ : Sh) (c q : Nat) (s : ByteArray) (tb len cap : Nat), e = .returned (.agg #[.string s, .slice (some ⟨tb, 0, none⟩) len cap]) ∧ Drawn w rb cb w' σ c q s tb len cap ∧ q ≤ 19000
/-- A part of the row, in the result's box. -/
theorem Drawn.of {w w1 w3 : World} {rb cb n : Nat} {σ : Sh} {c q pb pc : Nat} {ps : List Pv} (hw1 : w1 = w.alloc (.cells #[.string ⟨#[]⟩, .slice none 0 0] 25)) (hr : rb < w.heap.size) (hc : cb < w.heap.size) (h : PSt w1 rb cb n w3 σ c q pb pc ps) (hc56 : c ≤ 56) (hq : q ≤ 19000) {i : Nat} (hi : i < n) :
    ∃ (s : ByteArray) (tb len cap : Nat), w3.cell? ⟨pb, i * 2, none⟩ = some (.string s) ∧ w3.cell? ⟨pb, i * 2 + 1, none⟩ = some (.slice (some ⟨tb, 0, none⟩) len cap) ∧ w3.heap[w.heap.size]? = some (.cells #[.string ⟨#[]⟩, .slice none 0 0] 25 (0, 0)) ∧
    PartEnd w rb cb (.returned (.agg #[.string s, .slice (some ⟨tb, 0, none⟩) len cap])) ((w3.setCell ⟨w.heap.size, 0, none⟩ (.string s)).setCell ⟨w.heap.size, 1, none⟩ (.slice (some ⟨tb, 0, none⟩) len cap)) := by
  subst hw1
  obtain ⟨p, hp, c0, c1, -, -⟩ := h.cells i hi
  have hsz : (w.alloc (.cells #[.string ⟨#[]⟩, .slice none 0 0] 25)).heap.size = w.heap.size + 1 := by simp
  have hset : ∀ x, x ≠ w.heap.size → ((w3.setCell ⟨w.heap.size, 0, none⟩ (.string p.s)).setCell ⟨w.heap.size, 1, none⟩ (.slice (some ⟨p.b, 0, none⟩) p.len p.cap)).heap[x]? = w3.heap[x]? := fun x hx => by rw [Below.heap_setCell _ _ _ _ hx, Below.heap_setCell _ _ _ _ hx]
  have hwf := h.wf.keep (w' := ((w3.setCell ⟨w.heap.size, 0, none⟩ (.string p.s)).setCell ⟨w.heap.size, 1, none⟩ (.slice (some ⟨p.b, 0, none⟩) p.len p.cap))) fun x T m hx => hset x (by have := h.new x T m hx; omega)
  have hbx : w3.heap[w.heap.size]? = some (.cells #[.string ⟨#[]⟩, .slice none 0 0] 25 (0, 0)) := (h.only.block _ (by omega) (by omega)).trans (block_new _ _ rfl)
  have ho : Only (· = rb) w ((w3.setCell ⟨w.heap.size, 0, none⟩ (.string p.s)).setCell ⟨w.heap.size, 1, none⟩ (.slice (some ⟨p.b, 0, none⟩) p.len p.cap)) :=
    ((((Only.of_below _ (below_box w _)).trans h.only fun _ _ q => q).set _ _ (Or.inr (Nat.le_refl _)) _).set _ _ (Or.inr (Nat.le_refl _)) _)
  exact ⟨p.s, p.b, p.len, p.cap, c0, c1, hbx, σ, c, q, p.s, p.b, p.len, p.cap, rfl, ⟨hwf, hc56, fun b T m hb => by have := h.new b T m hb; omega, hp, h.rd.keep (hset _ (by omega)) (hset _ (by omega)) (by simp [size_set]), ho, hr, hc⟩, hq⟩
theorem Drawn.move {w wx wy : World} {rb cb : Nat} {σ : Sh} {c q q' : Nat} {s : ByteArray} {tb len cap : Nat} (h : Drawn w rb cb wx σ c q s tb len cap) (hr : RdOk wy rb cb q') (ho : Only (· = rb) wx wy) : Drawn w rb cb wy σ c q' s tb len cap :=
  ⟨h.wf.keep fun b T m hb => ho.block b (h.wf.lt hb) (by have := h.new b T m hb; have := h.rlt; omega), h.c56, h.new, h.ok, hr, h.only.trans ho fun _ _ q => q, h.rlt, h.clt⟩
theorem Drawn.below {w wx wy : World} {rb cb : Nat} {σ : Sh} {c q : Nat} {s : ByteArray} {tb len cap : Nat} (h : Drawn w rb cb wx σ c q s tb len cap) (hb : Below wx.heap.size wx wy) : Drawn w rb cb wy σ c q s tb len cap :=
  h.move (h.rd.only (Only.of_below (fun _ => False) hb) id id) (Only.of_below _ hb)
/-- The part that it is. -/
theorem Drawn.part {w wx : World} {rb cb : Nat} {σ : Sh} {c q : Nat} {s : ByteArray} {tb len cap : Nat} (h : Drawn w rb cb wx σ c q s tb len cap) :
    ∃ p : Pt, p.name = s ∧ p.types.length = len ∧ PRep wx (· < wx.heap.size) p (.agg #[.string s, .slice (some ⟨tb, 0, none⟩) len cap]) ∧ 1 ≤ p.types.length ∧ p.types.length ≤ 113 ∧ (∀ i, SmT 119 1 (tth p.types i)) ∧ p.name.size ≤ 12 ∧ szP p ≤ 900000 := by
  obtain ⟨h1, h2, h3, h4, h5, h6⟩ := h.ok
  simp only at h1 h2 h3 h4 h5 h6
  have hc := h.c56
  have hnt : (bdP c).nt ≤ 113 := by simp only [bdP]; omega
  have hnf : (bdP c).nf ≤ 119 := by simp only [bdP]; omega
  have hnn : (bdP c).nn = 1 := rfl
  obtain ⟨ts, hts, hP, -, hz, hsm⟩ := h.wf.types (off := 0) (len := len) (c' := cap) h6 (by omega) (by omega) h4 (by omega) (by omega) s h1
  rw [hnn] at hz hsm
  refine ⟨⟨s, ts⟩, rfl, hts, ?_, ?_, ?_, fun i => (hsm i).le hnf, h1, ?_⟩
  · rw [Nat.zero_mul] at hP; exact hP
  · simp only [hts]; exact h2
  · simp only [hts]; omega
  · refine Nat.le_trans hz ?_
    have h1 : (25 + 13 * 1) * (bdP c).nf ≤ 38 * 119 := Nat.mul_le_mul (by omega) hnf
    have h2 : (25 + (25 + 13 * 1) * (bdP c).nf) * len ≤ (25 + 38 * 119) * 113 := Nat.mul_le_mul (by omega) (by omega)
    omega

set_option maxRecDepth 20000 in
set_option maxHeartbeats 6400000 in
theorem l11Part_any (w : World) (rb cb q0 : Nat) (hR : RdOk w rb cb q0) (hq : q0 ≤ 1000) :
    Calls Tryd.prog 10 #[.pointer (some ⟨rb, 0, none⟩)] w (PartEnd w rb cb) := by
  obtain ⟨hr1, hr2, hr3⟩ := hR.lt
  have HPS := hid_of (l11Parts_any (w.alloc (.cells #[.string ⟨#[]⟩, .slice none 0 0] 25)) rb cb q0 (hR.only (Only.of_below (fun _ => False) (below_box w _)) id id) hq)
  clear hR
  go_enter Tryd.func10, Tryd.ntmps10
  go_upto_region 2 with (go_at_call 19; refine HPS.out.mono ?_; rintro e w2 ⟨n, σ, c, q, pb, pc, ps, rfl, hn1, hn3, hc, hqq, hst⟩)
  have HPK := hid_of (pick_any w2 rb cb q n hst.rd (by omega) (by omega) (by omega))
  have HST := hid_of hst
  clear HPS hst
  have HE : Hid (∀ (i : Nat) w3, i < n → RdOk w3 rb cb (q + 1) → Only (· = rb) w2 w3 → _) := hid_of fun i w3 hi r3 o3 => Drawn.of rfl hr1 hr2 (HST.out.move r3 o3) hc (by omega) hi
  clear HST
  go_wp2_with (go_at_call 11; refine HPK.out.mono ?_; rintro e w3 ⟨i, rfl, hi, r3, o3, z3⟩; have hin : i < n := (by omega); obtain ⟨s, tb, len, cap, c0, c1, hbx, hE⟩ := HE.out i w3 hin r3 o3; have HEE := hid_of hE; have hi' : (i : Int) < (n : Int) := (by omega); obtain ⟨y0, yf0⟩ := box_at hbx 0 (by simp); obtain ⟨y1, yf1⟩ := box_at hbx 1 (by simp); simp only [List.getElem_toArray, List.getElem_cons_zero, List.getElem_cons_succ] at y0 y1; clear hE r3 o3 z3 hi HPK HE)
  have hdd := sets2_cells hbx (.string s) (.slice (some ⟨tb, 0, none⟩) len cap)
  exact bodyPost_ret (lpResult _ _ w.heap.size (.string s) (.slice (some ⟨tb, 0, none⟩) len cap) rfl hdd.1 hdd.2) rfl HEE.out

/-- The same, as known memory. -/
theorem Drawn.laid {w wx : World} {rb cb : Nat} {σ : Sh} {c q : Nat} {s : ByteArray} {tb len cap : Nat} (h : Drawn w rb cb wx σ c q s tb len cap) : Laid w wx σ (bdP c) s tb 0 len cap cap := by
  obtain ⟨h1, h2, h3, h4, h5, h6⟩ := h.ok
  simp only at h1 h2 h3 h4 h5 h6
  have hc := h.c56
  have hnt : (bdP c).nt ≤ 113 := by simp only [bdP]; omega
  have hnf : (bdP c).nf ≤ 119 := by simp only [bdP]; omega
  have hnn : (bdP c).nn = 1 := rfl
  exact ⟨h.wf, h.new, h6, by omega, by omega, h4, by omega, by omega, h1⟩
end Go.Proofs.YtibpieomldhomaaDoor

namespace Go.Proofs.YtibpieomldhomaaDoor
set_option linter.unusedSimpArgs false
set_option linter.unusedVariables false
open Go.RowKit Go.Maps
attribute [local go_sem] Oper.semAt_some

theorem dwResult (FW : World) (tmps : Array Value) (N : Nat) (v0 v1 : Value) (h4 : tmps.getD 2 undef = .pointer (some ⟨N, 0, none⟩))
    (d0 : FW.cell? ⟨N, 0, none⟩ = some v0) (d1 : FW.cell? ⟨N, 1, none⟩ = some v1) :
    (results Tryd.f4 tmps).run Tryd.prog FW = .ok (.agg #[v0, v1]) FW := by
  simp only [Array.getD_eq_getD_getElem?] at h4
  simp [results, Tryd.results4, go_sem, h4, d0, d1]

theorem CodeOk.below {w w' : World} {cb n : Nat} {v : Value} (h : CodeOk w cb v n) (hb : Below w.heap.size w w') : CodeOk w' cb v n := by
  obtain ⟨a, c, off, h1, h2, h3, h4, h5, h6, h7⟩ := h
  exact ⟨a, c, off, h1, h2, h3, by have := hb.size; omega, h5, h6, fun i hi => by obtain ⟨x, hx, hc⟩ := h7 i hi; exact ⟨x, hx, (hb.cell (p := ⟨cb, off + i, none⟩) h4).trans hc⟩⟩
/-- What DrawPartWrite leaves. -/
def DrawEnd (w : World) (e : Ending) (w' : World) : Prop := ∃ (p : Pt) (ta : Option Addr) (tc : Nat), e = .returned (.agg #[.string p.name, .slice ta p.types.length tc]) ∧ PRep w' (· < w'.heap.size) p (.agg #[.string p.name, .slice ta p.types.length tc]) ∧ szP p ≤ 900000 ∧ Below w.heap.size w w'
/-- The result's box is written last. -/
theorem DrawEnd.fin {w wa w5 : World} {σ : Sh} {B : Bd} {s : ByteArray} {tb off len c' cap : Nat} (h : Laid wa w5 σ B s tb off len c' cap) (ha : w.heap.size < wa.heap.size) (hb : Below w.heap.size w w5) :
    DrawEnd w (.returned (.agg #[.string s, .slice (some ⟨tb, off * 3, none⟩) len c'])) ((w5.setCell ⟨w.heap.size, 0, none⟩ (.string s)).setCell ⟨w.heap.size, 1, none⟩ (.slice (some ⟨tb, off * 3, none⟩) len c')) := by
  have hL := h.keep (w'' := ((w5.setCell ⟨w.heap.size, 0, none⟩ (.string s)).setCell ⟨w.heap.size, 1, none⟩ (.slice (some ⟨tb, off * 3, none⟩) len c'))) fun b hb _ => by rw [Below.heap_setCell _ _ _ _ (by show b ≠ w.heap.size; omega), Below.heap_setCell _ _ _ _ (by show b ≠ w.heap.size; omega)]
  obtain ⟨p, hP, hz⟩ := hL.part
  obtain ⟨ta, tc, he, hr⟩ := hP
  cases he
  exact ⟨p, _, _, rfl, ⟨_, _, rfl, hr⟩, hz, ((Only.of_below (fun _ => False) hb).set _ _ (Or.inr (Nat.le_refl _)) _ |>.set _ _ (Or.inr (Nat.le_refl _)) _).below (Nat.le_refl _) fun _ _ h => h⟩

set_option maxRecDepth 20000 in
set_option maxHeartbeats 6400000 in
theorem DrawPartWrite_any (w : World) (cb n : Nat) (v : Value) (h : CodeOk w cb v n) (hn : n ≤ 1048576) :
    Calls Tryd.prog 4 #[v] w (DrawEnd w) := by
  have HOP := hid_of (l1Open_any (w.alloc (.cells #[.string ⟨#[]⟩, .slice none 0 0] 25)) cb n v (h.below (below_box w _)) hn)
  clear h
  go_enter Tryd.func4, Tryd.ntmps4
  go_upto_region 2 with (go_at_call 9; refine HOP.out.mono ?_; rintro e w1 ⟨rb, rfl, hrb, hR, hb1⟩)
  have hrb' : w.heap.size + 1 ≤ rb := by simpa using hrb
  have hrw := hR.lt.1
  have hsz1 : w.heap.size + 1 ≤ w1.heap.size := by simpa using hb1.size
  have HPT := hid_of (l11Part_any w1 rb cb 0 hR (by omega))
  have bx1 := (hb1.block w.heap.size (by simp)).trans (block_new (w := w) #[.string ⟨#[]⟩, .slice none 0 0] 25 rfl)
  have b1 : Below w.heap.size w w1 := (below_box w _).trans (hb1.mono (by simp))
  clear HOP hR hb1 hrb
  go_upto_region 3 with (go_at_call 10; refine HPT.out.mono ?_; rintro e w2 ⟨σ, c, q, s, tb, len, cap, rfl, hD, hq⟩)
  have hD3 := hD.below (below_box w2 (.cells #[.string s, .slice (some ⟨tb, 0, none⟩) len cap] 25))
  have hs2 := hD.only.size
  have xb3 := block_new (w := w2) #[.string s, .slice (some ⟨tb, 0, none⟩) len cap] 25 rfl
  have hs3 : w2.heap.size < (w2.alloc (.cells #[.string s, .slice (some ⟨tb, 0, none⟩) len cap] 25)).heap.size := by simp
  obtain ⟨P, hP⟩ : ∃ x, x = w2.heap.size := ⟨_, rfl⟩
  rw [← hP] at xb3 hs3 hs2
  simp only [← hP]
  generalize w2.alloc (.cells #[.string s, .slice (some ⟨tb, 0, none⟩) len cap] 25) = w3 at *
  clear HPT hD hP
  have hok := hD3.ok
  have HPK := hid_of (pick_any w3 rb cb q 10 hD3.rd (by omega) (by omega) (by omega))
  go_upto_if 11 with (go_at_call 11; refine HPK.out.mono ?_; rintro e w4 ⟨x, rfl, hx, r4, o4, z4⟩)
  have hD4 := hD3.move r4 o4
  have xb4 := (o4.block P (by omega) (by omega)).trans xb3
  have bx4 : w4.heap[w.heap.size]? = _ := (o4.block w.heap.size (by omega) (by omega)).trans ((hD3.only.block w.heap.size (by omega) (by omega)).trans bx1)
  have b4 : Below w.heap.size w w4 := b1.trans (hD4.only.below (by omega) fun b hb => by omega)
  clear HPK r4 o4 hD3 xb3 bx1
  obtain ⟨p0, -⟩ := box_at xb4 0 (by simp)
  obtain ⟨p1, -⟩ := box_at xb4 1 (by simp)
  simp only [List.getElem_toArray, List.getElem_cons_zero, List.getElem_cons_succ] at p0 p1
  by_cases hx0 : x = 0
  · subst hx0
    obtain ⟨p, hp1, hp2, hp3, hp4, hp5, hp6, hp7, hp8⟩ := hD4.part
    have hSP := l11SpoilPart_any w4 rb cb (q + 1) p (some ⟨tb, 0, none⟩) cap hD4.rd (by omega) (by rw [hp1, hp2]; exact hp3) hp4 hp5 hp6 hp7
    rw [hp1, hp2] at hSP
    have HSP := hid_of hSP
    clear hSP hD4 hp1 hp2 hp3 hp4 hp5 hp6 hp7 hp8 p hok
    go_wp2_with (go_at_call 12; refine HSP.out.mono ?_; rintro e w5 ⟨σ5, B5, s5, tb5, off5, len5, c5, cap5, rfl, hL5, o5⟩; have bx5 : w5.heap[w.heap.size]? = _ := (o5.block w.heap.size (by have := b4.size; omega) (by omega)).trans bx4; obtain ⟨y0, yf0⟩ := box_at bx5 0 (by simp); obtain ⟨y1, yf1⟩ := box_at bx5 1 (by simp); simp only [List.getElem_toArray, List.getElem_cons_zero, List.getElem_cons_succ] at y0 y1)
    have hdd := sets2_cells bx5 (.string s5) (.slice (some ⟨tb5, off5 * 3, none⟩) len5 c5)
    exact bodyPost_ret (dwResult _ _ w.heap.size (.string s5) (.slice (some ⟨tb5, off5 * 3, none⟩) len5 c5) rfl hdd.1 hdd.2) rfl (DrawEnd.fin hL5 (by omega) (b4.trans (o5.below b4.size fun b hb => by omega)))
  · have hx0' : ¬ (x : Int) = 0 := by omega
    obtain ⟨y0, yf0⟩ := box_at bx4 0 (by simp)
    obtain ⟨y1, yf1⟩ := box_at bx4 1 (by simp)
    simp only [List.getElem_toArray, List.getElem_cons_zero, List.getElem_cons_succ] at y0 y1
    have hL4 := hD4.laid
    go_wp2_with fail
    have hdd := sets2_cells bx4 (.string s) (.slice (some ⟨tb, 0, none⟩) len cap)
    exact bodyPost_ret (dwResult _ _ w.heap.size (.string s) (.slice (some ⟨tb, 0, none⟩) len cap) rfl hdd.1 hdd.2) rfl (by have h := DrawEnd.fin hL4 (by omega) b4; rw [Nat.zero_mul] at h; exact h)
end Go.Proofs.YtibpieomldhomaaDoor
