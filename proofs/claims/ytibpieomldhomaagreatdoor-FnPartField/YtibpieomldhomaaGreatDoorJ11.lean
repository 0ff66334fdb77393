import Derived.Test.YtibpieomldhomaaGreatDoorJ9
import Derived.Test.YtibpieomldhomaaGreatDoorJ6
import Derived.Test.YtibpieomldhomaaGreatDoorJ5
import Derived.Test.YtibpieomldhomaaGreatDoorJ10
namespace Go.Proofs.YtibpieomldhomaaGreatDoor
set_option linter.unusedSimpArgs false
set_option linter.unusedVariables false
open Go.RowKit Go.Maps
attribute [local go_sem] Oper.semAt_some

theorem SmT.le {a b nn : Nat} {t : T} (h : SmT a nn t) (hab : a ≤ b) : SmT b nn t := ⟨h.1, h.2.1, Nat.le_trans h.2.2.1 hab, h.2.2.2⟩
theorem lpResult (FW : World) (tmps : Array Value) (N : Nat) (v0 v1 : Value) (h4 : tmps.getD 2 undef = .pointer (some ⟨N, 0, none⟩))
    (d0 : FW.cell? ⟨N, 0, none⟩ = some v0) (d1 : FW.cell? ⟨N, 1, none⟩ = some v1) :
    (results Tryz.f28 tmps).run Tryz.prog FW = .ok (.agg #[v0, v1]) FW := by
  simp only [Array.getD_eq_getD_getElem?] at h4
  simp [results, Tryz.results28, go_sem, h4, d0, d1]
/-- A part that is drawn, not yet spoilt. -/
structure Drawn (w : World) (rb cb : Nat) (w' : World) (σ : Sh) (c q : Nat) (s : ByteArray) (tb len cap : Nat) : Prop where
  wf : Wf w' σ (bdP c)
  c56 : c ≤ 56
  new : ∀ b T m, σ b = some (T, m) → w.heap.size ≤ b
  ok : PvOk σ (bdP c) ⟨s, tb, len, cap⟩
  rd : RdOk w' rb cb q
  only : Only (· = rb) w w'
  rlt : rb < w.heap.size
  clt : cb < w.heap.size
/-- What l11Part leaves. -/
def PartEnd (w : World) (rb cb : Nat) (e : Ending) (w' : World) : Prop := ∃ (σ : Sh) (c q : Nat) (s : ByteArray) (tb len cap : Nat), e = .returned (.agg #[.string s, .slice (some ⟨tb, 0, none⟩) len cap]) ∧ Drawn w rb cb w' σ c q s tb len cap ∧ q ≤ 19000
/-- A part of the row, in the result's box. -/
theorem Drawn.of {w w1 w3 : World} {rb cb n : Nat} {σ : Sh} {c q pb pc : Nat} {ps : List Pv} (hw1 : w1 = w.alloc (.cells #[.string ⟨#[]⟩, .slice none 0 0] 25)) (hr : rb < w.heap.size) (hc : cb < w.heap.size) (h : PSt w1 rb cb n w3 σ c q pb pc ps) (hc56 : c ≤ 56) (hq : q ≤ 19000) {i : Nat} (hi : i < n) :
    ∃ (s : ByteArray) (tb len cap : Nat), w3.cell? ⟨pb, i * 2, none⟩ = some (.string s) ∧ w3.cell? ⟨pb, i * 2 + 1, none⟩ = some (.slice (some ⟨tb, 0, none⟩) len cap) ∧ w3.heap[w.heap.size]? = some (.cells #[.string ⟨#[]⟩, .slice none 0 0] 25 (0, 0)) ∧
    PartEnd w rb cb (.returned (.agg #[.string s, .slice (some ⟨tb, 0, none⟩) len cap])) ((w3.setCell ⟨w.heap.size, 0, none⟩ (.string s)).setCell ⟨w.heap.size, 1, none⟩ (.slice (some ⟨tb, 0, none⟩) len cap)) := by
  subst hw1
  obtain ⟨p, hp, c0, c1, -, -⟩ := h.cells i hi
  have hsz : (w.alloc (.cells #[.string ⟨#[]⟩, .slice none 0 0] 25)).heap.size = w.heap.size + 1 := by simp
  have hset : ∀ x, x ≠ w.heap.size → ((w3.setCell ⟨w.heap.size, 0, none⟩ (.string p.s)).setCell ⟨w.heap.size, 1, none⟩ (.slice (some ⟨p.b, 0, none⟩) p.len p.cap)).heap[x]? = w3.heap[x]? := fun x hx => by rw [Below.heap_setCell _ _ _ _ hx, Below.heap_setCell _ _ _ _ hx]
  have hwf := h.wf.keep (w' := ((w3.setCell ⟨w.heap.size, 0, none⟩ (.string p.s)).setCell ⟨w.heap.size, 1, none⟩ (.slice (some ⟨p.b, 0, none⟩) p.len p.cap))) fun x T m hx => hset x (by have := h.new x T m hx; omega)
  have hbx : w3.heap[w.heap.size]? = some (.cells #[.string ⟨#[]⟩, .slice none 0 0] 25 (0, 0)) := (h.only.block _ (by omega) (by omega)).trans (block_new _ _ rfl)
  have ho : Only (· = rb) w ((w3.setCell ⟨w.heap.size, 0, none⟩ (.string p.s)).setCell ⟨w.heap.size, 1, none⟩ (.slice (some ⟨p.b, 0, none⟩) p.len p.cap)) :=
    ((((Only.of_below _ (below_box w _)).trans h.only fun _ _ q => q).set _ _ (Or.inr (Nat.le_refl _)) _).set _ _ (Or.inr (Nat.le_refl _)) _)
  exact ⟨p.s, p.b, p.len, p.cap, c0, c1, hbx, σ, c, q, p.s, p.b, p.len, p.cap, rfl, ⟨hwf, hc56, fun b T m hb => by have := h.new b T m hb; omega, hp, h.rd.keep (hset _ (by omega)) (hset _ (by omega)) (by simp [size_set]), ho, hr, hc⟩, hq⟩
theorem Drawn.move {w wx wy : World} {rb cb : Nat} {σ : Sh} {c q q' : Nat} {s : ByteArray} {tb len cap : Nat} (h : Drawn w rb cb wx σ c q s tb len cap) (hr : RdOk wy rb cb q') (ho : Only (· = rb) wx wy) : Drawn w rb cb wy σ c q' s tb len cap :=
  ⟨h.wf.keep fun b T m hb => ho.block b (h.wf.lt hb) (by have := h.new b T m hb; have := h.rlt; omega), h.c56, h.new, h.ok, hr, h.only.trans ho fun _ _ q => q, h.rlt, h.clt⟩
theorem Drawn.below {w wx wy : World} {rb cb : Nat} {σ : Sh} {c q : Nat} {s : ByteArray} {tb len cap : Nat} (h : Drawn w rb cb wx σ c q s tb len cap) (hb : Below wx.heap.size wx wy) : Drawn w rb cb wy σ c q s tb len cap :=
  h.move (h.rd.only (Only.of_below (fun _ => False) hb) id id) (Only.of_below _ hb)
/-- The part that it is. -/
theorem Drawn.part {w wx : World} {rb cb : Nat} {σ : Sh} {c q : Nat} {s : ByteArray} {tb len cap : Nat} (h : Drawn w rb cb wx σ c q s tb len cap) :
    ∃ p : Pt, p.name = s ∧ p.types.length = len ∧ PRep wx (· < wx.heap.size) p (.agg #[.string s, .slice (some ⟨tb, 0, none⟩) len cap]) ∧ 1 ≤ p.types.length ∧ p.types.length ≤ 113 ∧ (∀ i, SmT 119 1 (tth p.types i)) ∧ p.name.size ≤ 12 ∧ szP p ≤ 900000 := by
  obtain ⟨h1, h2, h3, h4, h5, h6⟩ := h.ok
  simp only at h1 h2 h3 h4 h5 h6
  have hc := h.c56
  have hnt : (bdP c).nt ≤ 113 := by simp only [bdP]; omega
  have hnf : (bdP c).nf ≤ 119 := by simp only [bdP]; omega
  have hnn : (bdP c).nn = 1 := rfl
  obtain ⟨ts, hts, hP, -, hz, hsm⟩ := h.wf.types (off := 0) (len := len) (c' := cap) h6 (by omega) (by omega) h4 (by omega) (by omega) s h1
  rw [hnn] at hz hsm
  refine ⟨⟨s, ts⟩, rfl, hts, ?_, ?_, ?_, fun i => (hsm i).le hnf, h1, ?_⟩
  · rw [Nat.zero_mul] at hP; exact hP
  · simp only [hts]; exact h2
  · simp only [hts]; omega
  · refine Nat.le_trans hz ?_
    have h1 : (25 + 13 * 1) * (bdP c).nf ≤ 38 * 119 := Nat.mul_le_mul (by omega) hnf
    have h2 : (25 + (25 + 13 * 1) * (bdP c).nf) * len ≤ (25 + 38 * 119) * 113 := Nat.mul_le_mul (by omega) (by omega)
    omega

set_option maxRecDepth 20000 in
set_option maxHeartbeats 6400000 in
theorem l11Part_any (w : World) (rb cb q0 : Nat) (hR : RdOk w rb cb q0) (hq : q0 ≤ 1000) :
    Calls Tryz.prog 28 #[.pointer (some ⟨rb, 0, none⟩)] w (PartEnd w rb cb) := by
  obtain ⟨hr1, hr2, hr3⟩ := hR.lt
  have HPS := hid_of (l11Parts_any (w.alloc (.cells #[.string ⟨#[]⟩, .slice none 0 0] 25)) rb cb q0 (hR.only (Only.of_below (fun _ => False) (below_box w _)) id id) hq)
  clear hR
  go_enter Tryz.func28, Tryz.ntmps28
  go_upto_region 2 with (go_at_call 45; refine HPS.out.mono ?_; rintro e w2 ⟨n, σ, c, q, pb, pc, ps, rfl, hn1, hn3, hc, hqq, hst⟩)
  have HPK := hid_of (pick_any w2 rb cb q n hst.rd (by omega) (by omega) (by omega))
  have HST := hid_of hst
  clear HPS hst
  have HE : Hid (∀ (i : Nat) w3, i < n → RdOk w3 rb cb (q + 1) → Only (· = rb) w2 w3 → _) := hid_of fun i w3 hi r3 o3 => Drawn.of rfl hr1 hr2 (HST.out.move r3 o3) hc (by omega) hi
  clear HST
  go_wp2_with (go_at_call 29; refine HPK.out.mono ?_; rintro e w3 ⟨i, rfl, hi, r3, o3, z3⟩; have hin : i < n := (by omega); obtain ⟨s, tb, len, cap, c0, c1, hbx, hE⟩ := HE.out i w3 hin r3 o3; have HEE := hid_of hE; have hi' : (i : Int) < (n : Int) := (by omega); obtain ⟨y0, yf0⟩ := box_at hbx 0 (by simp); obtain ⟨y1, yf1⟩ := box_at hbx 1 (by simp); simp only [List.getElem_toArray, List.getElem_cons_zero, List.getElem_cons_succ] at y0 y1; clear hE r3 o3 z3 hi HPK HE)
  have hdd := sets2_cells hbx (.string s) (.slice (some ⟨tb, 0, none⟩) len cap)
  exact bodyPost_ret (lpResult _ _ w.heap.size (.string s) (.slice (some ⟨tb, 0, none⟩) len cap) rfl hdd.1 hdd.2) rfl HEE.out

/-- The same, as known memory. -/
theorem Drawn.laid {w wx : World} {rb cb : Nat} {σ : Sh} {c q : Nat} {s : ByteArray} {tb len cap : Nat} (h : Drawn w rb cb wx σ c q s tb len cap) : Laid w wx σ (bdP c) s tb 0 len cap cap := by
  obtain ⟨h1, h2, h3, h4, h5, h6⟩ := h.ok
  simp only at h1 h2 h3 h4 h5 h6
  have hc := h.c56
  have hnt : (bdP c).nt ≤ 113 := by simp only [bdP]; omega
  have hnf : (bdP c).nf ≤ 119 := by simp only [bdP]; omega
  have hnn : (bdP c).nn = 1 := rfl
  exact ⟨h.wf, h.new, h6, by omega, by omega, h4, by omega, by omega, h1⟩
end Go.Proofs.YtibpieomldhomaaGreatDoor

namespace Go.Proofs.YtibpieomldhomaaGreatDoor
set_option linter.unusedSimpArgs false
set_option linter.unusedVariables false
open Go.RowKit Go.Maps
attribute [local go_sem] Oper.semAt_some

theorem dwResult (FW : World) (tmps : Array Value) (N : Nat) (v0 v1 : Value) (h4 : tmps.getD 2 undef = .pointer (some ⟨N, 0, none⟩))
    (d0 : FW.cell? ⟨N, 0, none⟩ = some v0) (d1 : FW.cell? ⟨N, 1, none⟩ = some v1) :
    (results Tryz.f13 tmps).run Tryz.prog FW = .ok (.agg #[v0, v1]) FW := by
  simp only [Array.getD_eq_getD_getElem?] at h4
  simp [results, Tryz.results13, go_sem, h4, d0, d1]

theorem CodeOk.below {w w' : World} {cb n : Nat} {v : Value} (h : CodeOk w cb v n) (hb : Below w.heap.size w w') : CodeOk w' cb v n := by
  obtain ⟨a, c, off, h1, h2, h3, h4, h5, h6, h7⟩ := h
  exact ⟨a, c, off, h1, h2, h3, by have := hb.size; omega, h5, h6, fun i hi => by obtain ⟨x, hx, hc⟩ := h7 i hi; exact ⟨x, hx, (hb.cell (p := ⟨cb, off + i, none⟩) h4).trans hc⟩⟩
/-- What DrawPartWrite leaves. -/
def DrawEnd (w : World) (e : Ending) (w' : World) : Prop := ∃ (p : Pt) (ta : Option Addr) (tc : Nat), e = .returned (.agg #[.string p.name, .slice ta p.types.length tc]) ∧ PRep w' (fun b => w.heap.size < b ∧ b < w'.heap.size) p (.agg #[.string p.name, .slice ta p.types.length tc]) ∧ szP p ≤ 900000 ∧ Below w.heap.size w w'
/-- The result's box is written last. -/
theorem DrawEnd.fin {w wa w5 : World} {σ : Sh} {B : Bd} {s : ByteArray} {tb off len c' cap : Nat} (h : Laid wa w5 σ B s tb off len c' cap) (ha : w.heap.size < wa.heap.size) (hb : Below w.heap.size w w5) :
    DrawEnd w (.returned (.agg #[.string s, .slice (some ⟨tb, off * 3, none⟩) len c'])) ((w5.setCell ⟨w.heap.size, 0, none⟩ (.string s)).setCell ⟨w.heap.size, 1, none⟩ (.slice (some ⟨tb, off * 3, none⟩) len c')) := by
  have hL := h.keep (w'' := ((w5.setCell ⟨w.heap.size, 0, none⟩ (.string s)).setCell ⟨w.heap.size, 1, none⟩ (.slice (some ⟨tb, off * 3, none⟩) len c'))) fun b hb _ => by rw [Below.heap_setCell _ _ _ _ (by show b ≠ w.heap.size; omega), Below.heap_setCell _ _ _ _ (by show b ≠ w.heap.size; omega)]
  obtain ⟨p, hP, hz⟩ := hL.partN
  have hP := hP.sub (Q := fun b => w.heap.size < b ∧ b < ((w5.setCell ⟨w.heap.size, 0, none⟩ (.string s)).setCell ⟨w.heap.size, 1, none⟩ (.slice (some ⟨tb, off * 3, none⟩) len c')).heap.size) fun b hb => ⟨by omega, hb.2⟩
  obtain ⟨ta, tc, he, hr⟩ := hP
  cases he
  exact ⟨p, _, _, rfl, ⟨_, _, rfl, hr⟩, hz, ((Only.of_below (fun _ => False) hb).set _ _ (Or.inr (Nat.le_refl _)) _ |>.set _ _ (Or.inr (Nat.le_refl _)) _).below (Nat.le_refl _) fun _ _ h => h⟩

set_option maxRecDepth 20000 in
set_option maxHeartbeats 6400000 in
theorem DrawPartWrite_any (w : World) (cb n : Nat) (v : Value) (h : CodeOk w cb v n) (hn : n ≤ 1048576) :
    Calls Tryz.prog 13 #[v] w (DrawEnd w) := by
  have HOP := hid_of (l1Open_any (w.alloc (.cells #[.string ⟨#[]⟩, .slice none 0 0] 25)) cb n v (h.below (below_box w _)) hn)
  clear h
  go_enter Tryz.func13, Tryz.ntmps13
  go_upto_region 2 with (go_at_call 12; refine HOP.out.mono ?_; rintro e w1 ⟨rb, rfl, hrb, hR, hb1⟩)
  have hrb' : w.heap.size + 1 ≤ rb := by simpa using hrb
  have hrw := hR.lt.1
  have hsz1 : w.heap.size + 1 ≤ w1.heap.size := by simpa using hb1.size
  have HPT := hid_of (l11Part_any w1 rb cb 0 hR (by omega))
  have bx1 := (hb1.block w.heap.size (by simp)).trans (block_new (w := w) #[.string ⟨#[]⟩, .slice none 0 0] 25 rfl)
  have b1 : Below w.heap.size w w1 := (below_box w _).trans (hb1.mono (by simp))
  clear HOP hR hb1 hrb
  go_upto_region 3 with (go_at_call 28; refine HPT.out.mono ?_; rintro e w2 ⟨σ, c, q, s, tb, len, cap, rfl, hD, hq⟩)
  have hD3 := hD.below (below_box w2 (.cells #[.string s, .slice (some ⟨tb, 0, none⟩) len cap] 25))
  have hs2 := hD.only.size
  have xb3 := block_new (w := w2) #[.string s, .slice (some ⟨tb, 0, none⟩) len cap] 25 rfl
  have hs3 : w2.heap.size < (w2.alloc (.cells #[.string s, .slice (some ⟨tb, 0, none⟩) len cap] 25)).heap.size := by simp
  obtain ⟨P, hP⟩ : ∃ x, x = w2.heap.size := ⟨_, rfl⟩
  rw [← hP] at xb3 hs3 hs2
  simp only [← hP]
  generalize w2.alloc (.cells #[.string s, .slice (some ⟨tb, 0, none⟩) len cap] 25) = w3 at *
  clear HPT hD hP
  have hok := hD3.ok
  have HPK := hid_of (pick_any w3 rb cb q 10 hD3.rd (by omega) (by omega) (by omega))
  go_upto_if 11 with (go_at_call 29; refine HPK.out.mono ?_; rintro e w4 ⟨x, rfl, hx, r4, o4, z4⟩)
  have hD4 := hD3.move r4 o4
  have xb4 := (o4.block P (by omega) (by omega)).trans xb3
  have bx4 : w4.heap[w.heap.size]? = _ := (o4.block w.heap.size (by omega) (by omega)).trans ((hD3.only.block w.heap.size (by omega) (by omega)).trans bx1)
  have b4 : Below w.heap.size w w4 := b1.trans (hD4.only.below (by omega) fun b hb => by omega)
  clear HPK r4 o4 hD3 xb3 bx1
  obtain ⟨p0, -⟩ := box_at xb4 0 (by simp)
  obtain ⟨p1, -⟩ := box_at xb4 1 (by simp)
  simp only [List.getElem_toArray, List.getElem_cons_zero, List.getElem_cons_succ] at p0 p1
  by_cases hx0 : x = 0
  · subst hx0
    obtain ⟨p, hp1, hp2, hp3, hp4, hp5, hp6, hp7, hp8⟩ := hD4.part
    have hSP := l11SpoilPart_any w4 rb cb (q + 1) p (some ⟨tb, 0, none⟩) cap hD4.rd (by omega) (by rw [hp1, hp2]; exact hp3) hp4 hp5 hp6 hp7
    rw [hp1, hp2] at hSP
    have HSP := hid_of hSP
    clear hSP hD4 hp1 hp2 hp3 hp4 hp5 hp6 hp7 hp8 p hok
    go_wp2_with (go_at_call 30; refine HSP.out.mono ?_; rintro e w5 ⟨σ5, B5, s5, tb5, off5, len5, c5, cap5, rfl, hL5, o5⟩; have bx5 : w5.heap[w.heap.size]? = _ := (o5.block w.heap.size (by have := b4.size; omega) (by omega)).trans bx4; obtain ⟨y0, yf0⟩ := box_at bx5 0 (by simp); obtain ⟨y1, yf1⟩ := box_at bx5 1 (by simp); simp only [List.getElem_toArray, List.getElem_cons_zero, List.getElem_cons_succ] at y0 y1)
    have hdd := sets2_cells bx5 (.string s5) (.slice (some ⟨tb5, off5 * 3, none⟩) len5 c5)
    exact bodyPost_ret (dwResult _ _ w.heap.size (.string s5) (.slice (some ⟨tb5, off5 * 3, none⟩) len5 c5) rfl hdd.1 hdd.2) rfl (DrawEnd.fin hL5 (by omega) (b4.trans (o5.below b4.size fun b hb => by omega)))
  · have hx0' : ¬ (x : Int) = 0 := by omega
    obtain ⟨y0, yf0⟩ := box_at bx4 0 (by simp)
    obtain ⟨y1, yf1⟩ := box_at bx4 1 (by simp)
    simp only [List.getElem_toArray, List.getElem_cons_zero, List.getElem_cons_succ] at y0 y1
    have hL4 := hD4.laid
    go_wp2_with fail
    have hdd := sets2_cells bx4 (.string s) (.slice (some ⟨tb, 0, none⟩) len cap)
    exact bodyPost_ret (dwResult _ _ w.heap.size (.string s) (.slice (some ⟨tb, 0, none⟩) len cap) rfl hdd.1 hdd.2) rfl (by have h := DrawEnd.fin hL4 (by omega) b4; rw [Nat.zero_mul] at h; exact h)
end Go.Proofs.YtibpieomldhomaaGreatDoor

namespace Go.Proofs.YtibpieomldhomaaGreatDoor
set_option linter.unusedSimpArgs false
set_option linter.unusedVariables false
open Go.RowKit Go.Maps
attribute [local go_sem] Oper.semAt_some

theorem dfResult (FW : World) (tmps : Array Value) (N : Nat) (v0 v1 s1 s2 : Value) (h2 : tmps.getD 2 undef = .pointer (some ⟨N, 0, none⟩)) (h3 : tmps.getD 3 undef = s1) (h4 : tmps.getD 4 undef = s2)
    (d0 : FW.cell? ⟨N, 0, none⟩ = some v0) (d1 : FW.cell? ⟨N, 1, none⟩ = some v1) :
    (results Tryz.f4 tmps).run Tryz.prog FW = .ok (.tuple #[.agg #[v0, v1], s1, s2]) FW := by
  simp only [Array.getD_eq_getD_getElem?] at h2 h3 h4
  simp [results, Tryz.results4, go_sem, h2, h3, h4, d0, d1]

/-- A text of a list that lies whole in a block. -/
theorem of_block (W : World) (rb cb q g : Nat) (hR : RdOk W rb cb q) (hq : q ≤ 100000) (ns : List ByteArray) (h0 : 0 < ns.length) (hl : ns.length ≤ 10) (hs : ∀ s ∈ ns, s.size ≤ 12) (hb : W.heap[g]? = some (.cells (ns.map Value.string).toArray 9 (0, 0))) (hg : g ≠ rb) :
    Calls Tryz.prog 14 #[.pointer (some ⟨rb, 0, none⟩), .slice (some ⟨g, 0, none⟩) ns.length ns.length] W fun e w' => ∃ s : ByteArray, e = .returned (.string s) ∧ s.size ≤ 12 ∧ RdOk w' rb cb (q + 1) ∧ Only (· = rb) W w' := by
  have hn : ∀ i, i < ns.length → (nth ns i) ∈ ns := fun i hi => by simp [nth, List.getD_eq_getElem?_getD, hi]
  have hS : Strs W (· = g) ns (some ⟨g, 0, none⟩) := by
    refine ⟨fun _ => ⟨_, 0, rfl, rfl, fun i hi => ?_⟩, fun i => ?_, by unfold maxLen; omega⟩
    · rw [Nat.zero_add, cell_of_row _ _ _ _ _ _ hb]
      simp [nth, List.getD_eq_getElem?_getD, hi]
    · by_cases hi : i < ns.length
      · have := hs _ (hn i hi); unfold maxLen; omega
      · simp [nth, List.getD_eq_getElem?_getD, hi]
  refine (of_any W rb cb q ns _ ns.length (· = g) hR (by omega) hS (fun b hb' => by have hb' : b = g := hb'; subst hb'; exact ⟨(Array.getElem?_eq_some_iff.1 hb).1, hg⟩) h0 (by omega)).mono ?_
  rintro e w' ⟨k, hk, rfl, h1, h2, h3⟩
  exact ⟨_, rfl, hs _ (hn k hk), h1, h2⟩

/-- What DrawPartField leaves. -/
def FieldEnd (w : World) (e : Ending) (w' : World) : Prop := ∃ (p : Pt) (ta : Option Addr) (tc : Nat) (s1 s2 : ByteArray), e = .returned (.tuple #[.agg #[.string p.name, .slice ta p.types.length tc], .string s1, .string s2]) ∧ PRep w' (· < w'.heap.size) p (.agg #[.string p.name, .slice ta p.types.length tc]) ∧ szP p ≤ 900000 ∧ s1.size ≤ 12 ∧ s2.size ≤ 12 ∧ Below w.heap.size w w'

set_option maxRecDepth 20000 in
set_option maxHeartbeats 3200000 in
theorem DrawPartField_any (w : World) (cb n : Nat) (v : Value) (h : CodeOk w cb v n) (hn : n ≤ 1048576) :
    Calls Tryz.prog 4 #[v] w (FieldEnd w) := by
  have HOP := hid_of (l1Open_any (w.alloc (.cells #[.string ⟨#[]⟩, .slice none 0 0] 25)) cb n v (h.below (below_box w _)) hn)
  have HCO : Hid (∀ W, Below w.heap.size w W → CodeOk W cb v n) := hid_of fun W hW => h.below hW
  clear h
  go_enter Tryz.func4, Tryz.ntmps4
  go_upto_region 2 with (go_at_call 12; refine HOP.out.mono ?_; rintro e w1 ⟨rb, rfl, hrb, hR, hb1⟩)
  have hrb' : w.heap.size + 1 ≤ rb := by simpa using hrb
  have hrw := hR.lt.1
  have hcw := hR.lt.2.1
  have bx1 := (hb1.block w.heap.size (by simp)).trans (block_new (w := w) #[.string ⟨#[]⟩, .slice none 0 0] 25 rfl)
  have b1 : Below w.heap.size w w1 := (below_box w _).trans (hb1.mono (by simp))
  have hsz1 : w.heap.size + 1 ≤ w1.heap.size := by simpa using hb1.size
  have HDW := hid_of (DrawPartWrite_any w1 cb n v (HCO.out w1 b1) hn)
  clear HOP hb1 hrb
  go_upto_region 3 with (go_at_call 13; refine HDW.out.mono ?_; rintro e w2 ⟨p, ta, tc, rfl, hP, hz, hb2⟩)
  have hz2 := hb2.size
  have hR2 := hR.keep (hb2.block rb hrw) (hb2.block cb hcw) hb2.size
  have bx2 := (hb2.block w.heap.size (by omega)).trans bx1
  have b2 : Below w.heap.size w w2 := b1.trans (hb2.mono b1.size)
  obtain ⟨l, HL⟩ : ∃ l, Hid (l = p.types.length) := ⟨_, rfl⟩
  have hP2 := hP.sub (Q := fun b => w1.heap.size < b ∧ b < w2.heap.size) fun b hb => hb
  rw [← HL.out] at hP2
  rw [← HL.out]
  have nP := block_new (w := w2) (N := w2.heap.size) #[.string p.name, .slice ta l tc] 25 rfl
  have b3 := below_box w2 (.cells #[.string p.name, .slice ta l tc] 25)
  have hs3 : w2.heap.size < (w2.alloc (.cells #[.string p.name, .slice ta l tc] 25)).heap.size := by simp
  generalize w2.alloc (.cells #[.string p.name, .slice ta l tc] 25) = w3 at *
  have HR3 := hid_of (hR2.keep (b3.block rb (by omega)) (b3.block cb (by omega)) b3.size)
  have HSD : Hid (∀ W, Only (· = rb) w3 W → W.cell? ⟨w2.heap.size, 0, none⟩ = some (.string p.name) ∧ W.cell? ⟨w2.heap.size, 1, none⟩ = some (.slice ta l tc)) := hid_of fun W hW => by
    have hb := (hW.block w2.heap.size hs3 (by omega)).trans nP
    exact ⟨(box_at hb 0 (by simp)).1, (box_at hb 1 (by simp)).1⟩
  have HRB : Hid (∀ W, Only (· = rb) w3 W → W.heap[w.heap.size]? = some (.cells #[.string ⟨#[]⟩, .slice none 0 0] 25 (0, 0))) := hid_of fun W hW => (hW.block w.heap.size (by omega) (by omega)).trans ((b3.block w.heap.size (by omega)).trans bx2)
  have HST : Hid (∀ W, Only (· = rb) w3 W → ((W.setCell ⟨w.heap.size, 0, none⟩ (.string p.name)).setCell ⟨w.heap.size, 1, none⟩ (.slice ta l tc)).cell? ⟨w2.heap.size, 0, none⟩ = some (.string p.name) ∧ ((W.setCell ⟨w.heap.size, 0, none⟩ (.string p.name)).setCell ⟨w.heap.size, 1, none⟩ (.slice ta l tc)).cell? ⟨w2.heap.size, 1, none⟩ = some (.slice ta l tc)) := hid_of fun W hW => by
    have hb : ((W.setCell ⟨w.heap.size, 0, none⟩ (.string p.name)).setCell ⟨w.heap.size, 1, none⟩ (.slice ta l tc)).heap[w2.heap.size]? = W.heap[w2.heap.size]? := by
      rw [Below.heap_setCell _ _ _ _ (by show w2.heap.size ≠ w.heap.size; omega), Below.heap_setCell _ _ _ _ (by show w2.heap.size ≠ w.heap.size; omega)]
    have h0 := HSD.out W hW
    exact ⟨(World.cell?_of_block (a := ⟨w2.heap.size, 0, none⟩) hb).trans h0.1, (World.cell?_of_block (a := ⟨w2.heap.size, 1, none⟩) hb).trans h0.2⟩
  have HEND : Hid (∀ W, Only (· = rb) w3 W → ∀ s1 s2 : ByteArray, s1.size ≤ 12 → s2.size ≤ 12 → FieldEnd w (.returned (.tuple #[.agg #[.string p.name, .slice ta l tc], .string s1, .string s2])) ((W.setCell ⟨w.heap.size, 0, none⟩ (.string p.name)).setCell ⟨w.heap.size, 1, none⟩ (.slice ta l tc))) := hid_of fun W hW s1 s2 h1 h2 => by
    have hzW := hW.size
    have hbl : ∀ b, b ≠ w.heap.size → ((W.setCell ⟨w.heap.size, 0, none⟩ (.string p.name)).setCell ⟨w.heap.size, 1, none⟩ (.slice ta l tc)).heap[b]? = W.heap[b]? := fun b hb => (Below.heap_setCell _ _ _ _ hb).trans (Below.heap_setCell _ _ _ _ hb)
    have hsz : ((W.setCell ⟨w.heap.size, 0, none⟩ (.string p.name)).setCell ⟨w.heap.size, 1, none⟩ (.slice ta l tc)).heap.size = W.heap.size := by simp
    have hP3 : PRep ((W.setCell ⟨w.heap.size, 0, none⟩ (.string p.name)).setCell ⟨w.heap.size, 1, none⟩ (.slice ta l tc)) (· < W.heap.size) p (.agg #[.string p.name, .slice ta l tc]) := (hP2.mono fun b hb => ((hbl b (by omega)).trans (hW.block b (by omega) (by omega))).trans (b3.block b hb.2)).sub fun b hb => by show b < W.heap.size; omega
    have bW : Below w.heap.size w W := (b2.trans (b3.mono (by omega))).trans (hW.below (by omega) fun b hb e => by omega)
    rw [← hsz] at hP3
    rw [HL.out] at hP3 ⊢
    exact ⟨p, ta, tc, s1, s2, rfl, hP3, hz, h1, h2, (bW.setCell (p := ⟨w.heap.size, 0, none⟩) (Nat.le_refl _) _).setCell (p := ⟨w.heap.size, 1, none⟩) (Nat.le_refl _) _⟩
  have HO5 : Hid (∀ W q g, RdOk W rb cb q → q ≤ 10 → W.heap[g]? = some (.cells #[.string ⟨#[113, 117, 101, 114, 121]⟩, .string ⟨#[117, 115, 101, 114]⟩, .string ⟨#[105, 116, 101, 109]⟩, .string ⟨#[110, 111, 116, 101]⟩, .string ⟨#[120]⟩] 9 (0, 0)) → g ≠ rb → Calls Tryz.prog 14 #[.pointer (some ⟨rb, 0, none⟩), .slice (some ⟨g, 0, none⟩) 5 5] W fun e w' => ∃ s : ByteArray, e = .returned (.string s) ∧ s.size ≤ 12 ∧ RdOk w' rb cb (q + 1) ∧ Only (· = rb) W w') := hid_of fun W q g h1 h2 h3 h4 => of_block W rb cb q g h1 (by omega) [⟨#[113, 117, 101, 114, 121]⟩, ⟨#[117, 115, 101, 114]⟩, ⟨#[105, 116, 101, 109]⟩, ⟨#[110, 111, 116, 101]⟩, ⟨#[120]⟩] (by simp) (by simp) (by intro s hs; simp at hs; rcases hs with rfl | rfl | rfl | rfl | rfl <;> decide) h3 h4
  have HO7 : Hid (∀ W q g, RdOk W rb cb q → q ≤ 10 → W.heap[g]? = some (.cells #[.string ⟨#[105, 100]⟩, .string ⟨#[110, 97, 109, 101]⟩, .string ⟨#[117, 115, 101, 114, 115]⟩, .string ⟨#[114, 97, 110, 107]⟩, .string ⟨#[116, 105, 116, 108, 101]⟩, .string ⟨#[98, 111, 100, 121]⟩, .string ⟨#[120]⟩] 9 (0, 0)) → g ≠ rb → Calls Tryz.prog 14 #[.pointer (some ⟨rb, 0, none⟩), .slice (some ⟨g, 0, none⟩) 7 7] W fun e w' => ∃ s : ByteArray, e = .returned (.string s) ∧ s.size ≤ 12 ∧ RdOk w' rb cb (q + 1) ∧ Only (· = rb) W w') := hid_of fun W q g h1 h2 h3 h4 => of_block W rb cb q g h1 (by omega) [⟨#[105, 100]⟩, ⟨#[110, 97, 109, 101]⟩, ⟨#[117, 115, 101, 114, 115]⟩, ⟨#[114, 97, 110, 107]⟩, ⟨#[116, 105, 116, 108, 101]⟩, ⟨#[98, 111, 100, 121]⟩, ⟨#[120]⟩] (by simp) (by simp) (by intro s hs; simp at hs; rcases hs with rfl | rfl | rfl | rfl | rfl | rfl | rfl <;> decide) h3 h4
  have hrb3 : rb < w3.heap.size := by omega
  clear HDW hP hP2 bx1 bx2 b1 b2 b3 nP hb2 hR hR2 HCO
  refine wp_region_held_drew (S := (fun w' => w'.cell? ⟨w2.heap.size, 0, none⟩ = some (.string p.name) ∧ w'.cell? ⟨w2.heap.size, 1, none⟩ = some (.slice ta l tc))) (by kernel_rfl) (HSD.out _ (by exact ⟨rfl, rfl, rfl, Nat.le_refl _, fun _ _ _ => rfl⟩)) (fun hHeld => ?_)
  have oX : Only (· = rb) w3 w3.drew := ⟨rfl, rfl, rfl, Nat.le_refl _, fun _ _ _ => rfl⟩
  have rX : RdOk w3.drew rb cb 0 := HR3.out.keep rfl rfl (Nat.le_refl _)
  generalize w3.drew = wE0 at *
  refine wpAnyH_take (i := 0) (oi := { dst := some 11, op := Op.load 25 (Operand.tmp 6), type := 25, pos := "l11_draw.go:355", after := #[], guard := none }) (v := ?_) rfl (by kernel_rfl) (by kernel_rfl) (by kernel_rfl) (fun _ _ _ h => h) (Or.inl ⟨by rfl, ?_⟩) hHeld ?_
  rotate_left
  · intro w' hSw
    (try dsimp only at hSw)
    go_simp
    try with_reducible rfl
  try simp only [Act.put, List.setIfInBounds_toArray, List.set_cons_zero, List.set_cons_succ]
  refine wpAnyH_take (i := 1) (oi := { dst := some 12, op := Op.move (Operand.tmp 5), type := 42, pos := "l11_draw.go:355", after := #[], guard := none }) (v := ?_) rfl (by kernel_rfl) (by kernel_rfl) (by kernel_rfl) (fun _ _ _ h => h) (Or.inl ⟨by rfl, ?_⟩) hHeld ?_
  rotate_left
  · intro w' hSw
    (try dsimp only at hSw)
    go_simp
    try with_reducible rfl
  try simp only [Act.put, List.setIfInBounds_toArray, List.set_cons_zero, List.set_cons_succ]
  refine wpAnyH_take (i := 4) (oi := { dst := some 15, op := Op.move (Operand.tmp 5), type := 42, pos := "l11_draw.go:355", after := #[], guard := none }) (v := ?_) rfl (by kernel_rfl) (by kernel_rfl) (by kernel_rfl) (fun _ _ _ h => h) (Or.inl ⟨by rfl, ?_⟩) hHeld ?_
  rotate_left
  · intro w' hSw
    (try dsimp only at hSw)
    go_simp
    try with_reducible rfl
  try simp only [Act.put, List.setIfInBounds_toArray, List.set_cons_zero, List.set_cons_succ]
  refine wpAnyH_ready (rs := [2, 5]) (by kernel_rfl) (by simp) ?_
  refine AllReadyH.cons (o := { dst := some 13, op := Op.buildSlice 28 5 #[(0, Operand.const (Value.string { data := #[113, 117, 101, 114, 121] })), (1, Operand.const (Value.string { data := #[117, 115, 101, 114] })), (2, Operand.const (Value.string { data := #[105, 116, 101, 109] })), (3, Operand.const (Value.string { data := #[110, 111, 116, 101] })), (4, Operand.const (Value.string { data := #[120] }))], type := 28, pos := "l11_draw.go:355", after := #[], guard := none }) rfl (fun K hK => ?_) ?_
  · go_simp
    have bA := below_box wE0 (.cells #[.string ⟨#[113, 117, 101, 114, 121]⟩, .string ⟨#[117, 115, 101, 114]⟩, .string ⟨#[105, 116, 101, 109]⟩, .string ⟨#[110, 111, 116, 101]⟩, .string ⟨#[120]⟩] 9)
    obtain ⟨gA, hgA⟩ : ∃ g, g = wE0.heap.size := ⟨_, rfl⟩
    have nA := block_new (w := wE0) (N := gA) #[.string ⟨#[113, 117, 101, 114, 121]⟩, .string ⟨#[117, 115, 101, 114]⟩, .string ⟨#[105, 116, 101, 109]⟩, .string ⟨#[110, 111, 116, 101]⟩, .string ⟨#[120]⟩] 9 hgA.symm
    have qA : w3.heap.size ≤ gA := by have := oX.size; omega
    have oX := oX.trans (Only.of_below (· = rb) bA) (fun _ _ q => q)
    have rX := rX.only (Only.of_below (fun _ => False) bA) id id
    refine hK.out _ _ (HSD.out _ oX) (fun hHeld => ?_)
    clear hK K
    try simp only [Act.put, List.setIfInBounds_toArray, List.set_cons_zero, List.set_cons_succ]
    rw [← hgA]
    generalize wE0.alloc (.cells #[.string ⟨#[113, 117, 101, 114, 121]⟩, .string ⟨#[117, 115, 101, 114]⟩, .string ⟨#[105, 116, 101, 109]⟩, .string ⟨#[110, 111, 116, 101]⟩, .string ⟨#[120]⟩] 9) = wA at *
    clear hgA bA
    refine wpAnyH_ready (rs := [3, 5]) (by kernel_rfl) (by simp) ?_
    refine AllReadyH.cons (o := { dst := some 14, op := Op.call { callee := Callee.value (Operand.func 14), args := #[Operand.tmp 12, Operand.tmp 13], argTypes := #[42, 28] }, type := 9, pos := "l11_draw.go:355", after := #[{ on := 1, ground := Ground.data }, { on := 2, ground := Ground.data }], guard := none }) rfl (fun K hK => ?_) ?_
    · go_simp
      refine (HO5.out wA _ gA rX (by omega) nA (by omega)).mono ?_
      rintro e wC ⟨s1, rfl, hs1, rX, oC⟩
      have oX := oX.trans oC (fun _ _ q => q)
      try have nA := (bC.block gA (Array.getElem?_eq_some_iff.1 nA).1).trans nA
      try have nA := (oC.block gA (Array.getElem?_eq_some_iff.1 nA).1 (by omega)).trans nA
      refine hK.out _ _ (HSD.out _ oX) (fun hHeld => ?_)
      clear hK K
      try simp only [Act.put, List.setIfInBounds_toArray, List.set_cons_zero, List.set_cons_succ]
      clear nA
      refine wpAnyH_ready (rs := [5]) (by kernel_rfl) (by simp) ?_
      refine AllReadyH.cons (o := { dst := some 16, op := Op.buildSlice 28 7 #[(0, Operand.const (Value.string { data := #[105, 100] })), (1, Operand.const (Value.string { data := #[110, 97, 109, 101] })), (2, Operand.const (Value.string { data := #[117, 115, 101, 114, 115] })), (3, Operand.const (Value.string { data := #[114, 97, 110, 107] })), (4, Operand.const (Value.string { data := #[116, 105, 116, 108, 101] })), (5, Operand.const (Value.string { data := #[98, 111, 100, 121] })), (6, Operand.const (Value.string { data := #[120] }))], type := 28, pos := "l11_draw.go:355", after := #[], guard := none }) rfl (fun K hK => ?_) AllReadyH.nil
      go_simp
      have bE := below_box wC (.cells #[.string ⟨#[105, 100]⟩, .string ⟨#[110, 97, 109, 101]⟩, .string ⟨#[117, 115, 101, 114, 115]⟩, .string ⟨#[114, 97, 110, 107]⟩, .string ⟨#[116, 105, 116, 108, 101]⟩, .string ⟨#[98, 111, 100, 121]⟩, .string ⟨#[120]⟩] 9)
      obtain ⟨gE, hgE⟩ : ∃ g, g = wC.heap.size := ⟨_, rfl⟩
      have nE := block_new (w := wC) (N := gE) #[.string ⟨#[105, 100]⟩, .string ⟨#[110, 97, 109, 101]⟩, .string ⟨#[117, 115, 101, 114, 115]⟩, .string ⟨#[114, 97, 110, 107]⟩, .string ⟨#[116, 105, 116, 108, 101]⟩, .string ⟨#[98, 111, 100, 121]⟩, .string ⟨#[120]⟩] 9 hgE.symm
      have qE : w3.heap.size ≤ gE := by have := oX.size; omega
      have oX := oX.trans (Only.of_below (· = rb) bE) (fun _ _ q => q)
      have rX := rX.only (Only.of_below (fun _ => False) bE) id id
      try have nA := (bE.block gA (Array.getElem?_eq_some_iff.1 nA).1).trans nA
      try have nA := (oE.block gA (Array.getElem?_eq_some_iff.1 nA).1 (by omega)).trans nA
      refine hK.out _ _ (HSD.out _ oX) (fun hHeld => ?_)
      clear hK K
      try simp only [Act.put, List.setIfInBounds_toArray, List.set_cons_zero, List.set_cons_succ]
      rw [← hgE]
      generalize wC.alloc (.cells #[.string ⟨#[105, 100]⟩, .string ⟨#[110, 97, 109, 101]⟩, .string ⟨#[117, 115, 101, 114, 115]⟩, .string ⟨#[114, 97, 110, 107]⟩, .string ⟨#[116, 105, 116, 108, 101]⟩, .string ⟨#[98, 111, 100, 121]⟩, .string ⟨#[120]⟩] 9) = wE at *
      clear hgE bE
      refine wpAnyH_ready (rs := [6]) (by kernel_rfl) (by simp) ?_
      refine AllReadyH.cons (o := { dst := some 17, op := Op.call { callee := Callee.value (Operand.func 14), args := #[Operand.tmp 15, Operand.tmp 16], argTypes := #[42, 28] }, type := 9, pos := "l11_draw.go:355", after := #[{ on := 4, ground := Ground.data }, { on := 5, ground := Ground.data }, { on := 3, ground := Ground.chain }], guard := none }) rfl (fun K hK => ?_) AllReadyH.nil
      go_simp
      refine (HO7.out wE _ gE rX (by omega) nE (by omega)).mono ?_
      rintro e wG ⟨s2, rfl, hs2, rX, oG⟩
      have oX := oX.trans oG (fun _ _ q => q)
      try have nA := (bG.block gA (Array.getElem?_eq_some_iff.1 nA).1).trans nA
      try have nA := (oG.block gA (Array.getElem?_eq_some_iff.1 nA).1 (by omega)).trans nA
      try have nE := (bG.block gE (Array.getElem?_eq_some_iff.1 nE).1).trans nE
      try have nE := (oG.block gE (Array.getElem?_eq_some_iff.1 nE).1 (by omega)).trans nE
      refine hK.out _ _ (HSD.out _ oX) (fun hHeld => ?_)
      clear hK K
      try simp only [Act.put, List.setIfInBounds_toArray, List.set_cons_zero, List.set_cons_succ]
      clear nE
      refine wpAnyH_ready (rs := [7]) (by kernel_rfl) (by simp) ?_
      refine AllReadyH.cons (o := { dst := none, op := Op.store 25 (Operand.tmp 2) (Operand.tmp 11), type := 0, pos := "l11_draw.go:355", after := #[{ on := 0, ground := Ground.data }, { on := 6, ground := Ground.chain }, { on := 0, ground := Ground.phase }, { on := 1, ground := Ground.textOnly Departure.lateStores }, { on := 2, ground := Ground.textOnly Departure.lateStores }, { on := 3, ground := Ground.textOnly Departure.lateStoresUnsure }, { on := 4, ground := Ground.textOnly Departure.lateStores }, { on := 5, ground := Ground.textOnly Departure.lateStores }, { on := 6, ground := Ground.textOnly Departure.lateStoresUnsure }], guard := none }) rfl (fun K hK => ?_) AllReadyH.nil
      obtain ⟨c0, z0⟩ := box_at (HRB.out _ oX) 0 (by simp)
      obtain ⟨c1, z1⟩ := box_at (HRB.out _ oX) 1 (by simp)
      simp only [List.getElem_toArray, List.getElem_cons_zero, List.getElem_cons_succ] at c0 c1
      go_simp
      clear c0 c1 z0 z1
      refine hK.out _ _ (HST.out _ oX) (fun hHeld => ?_)
      clear hK K
      try simp only [Act.put, List.setIfInBounds_toArray, List.set_cons_zero, List.set_cons_succ]
      refine wpAnyH_take (i := 8) (oi := { dst := some 3, op := Op.assign (Operand.tmp 14), type := 9, pos := "l11_draw.go:355", after := #[{ on := 3, ground := Ground.data }, { on := 7, ground := Ground.chain }, { on := 0, ground := Ground.phase }, { on := 1, ground := Ground.phase }, { on := 2, ground := Ground.phase }, { on := 3, ground := Ground.phase }, { on := 4, ground := Ground.textOnly Departure.lateStores }, { on := 5, ground := Ground.textOnly Departure.lateStores }, { on := 6, ground := Ground.textOnly Departure.lateStoresUnsure }, { on := 7, ground := Ground.phase }], guard := none }) (v := ?_) rfl (by kernel_rfl) (by kernel_rfl) (by kernel_rfl) (fun _ _ _ h => h) (Or.inl ⟨by rfl, ?_⟩) hHeld ?_
      rotate_left
      · intro w' hSw
        (try dsimp only at hSw)
        go_simp
        try with_reducible rfl
      try simp only [Act.put, List.setIfInBounds_toArray, List.set_cons_zero, List.set_cons_succ]
      refine wpAnyH_take (i := 9) (oi := { dst := some 4, op := Op.assign (Operand.tmp 17), type := 9, pos := "l11_draw.go:355", after := #[{ on := 6, ground := Ground.data }, { on := 8, ground := Ground.chain }, { on := 0, ground := Ground.phase }, { on := 1, ground := Ground.phase }, { on := 2, ground := Ground.phase }, { on := 3, ground := Ground.phase }, { on := 4, ground := Ground.phase }, { on := 5, ground := Ground.phase }, { on := 6, ground := Ground.phase }, { on := 7, ground := Ground.phase }, { on := 8, ground := Ground.phase }], guard := none }) (v := ?_) rfl (by kernel_rfl) (by kernel_rfl) (by kernel_rfl) (fun _ _ _ h => h) (Or.inl ⟨by rfl, ?_⟩) hHeld ?_
      rotate_left
      · intro w' hSw
        (try dsimp only at hSw)
        go_simp
        try with_reducible rfl
      try simp only [Act.put, List.setIfInBounds_toArray, List.set_cons_zero, List.set_cons_succ]
      refine wpAnyH_done (by kernel_rfl) ?_ _
      have HFIN := HEND.out _ oX s1 s2 hs1 hs2
      have hdd := sets2_cells (HRB.out _ oX) (.string p.name) (.slice ta l tc)
      go_wp2_with fail
      exact bodyPost_ret (dfResult _ _ w.heap.size (.string p.name) (.slice ta l tc) (.string s1) (.string s2) rfl rfl rfl hdd.1 hdd.2) rfl HFIN
    refine AllReadyH.cons (o := { dst := some 16, op := Op.buildSlice 28 7 #[(0, Operand.const (Value.string { data := #[105, 100] })), (1, Operand.const (Value.string { data := #[110, 97, 109, 101] })), (2, Operand.const (Value.string { data := #[117, 115, 101, 114, 115] })), (3, Operand.const (Value.string { data := #[114, 97, 110, 107] })), (4, Operand.const (Value.string { data := #[116, 105, 116, 108, 101] })), (5, Operand.const (Value.string { data := #[98, 111, 100, 121] })), (6, Operand.const (Value.string { data := #[120] }))], type := 28, pos := "l11_draw.go:355", after := #[], guard := none }) rfl (fun K hK => ?_) AllReadyH.nil
    go_simp
    have bE := below_box wA (.cells #[.string ⟨#[105, 100]⟩, .string ⟨#[110, 97, 109, 101]⟩, .string ⟨#[117, 115, 101, 114, 115]⟩, .string ⟨#[114, 97, 110, 107]⟩, .string ⟨#[116, 105, 116, 108, 101]⟩, .string ⟨#[98, 111, 100, 121]⟩, .string ⟨#[120]⟩] 9)
    obtain ⟨gE, hgE⟩ : ∃ g, g = wA.heap.size := ⟨_, rfl⟩
    have nE := block_new (w := wA) (N := gE) #[.string ⟨#[105, 100]⟩, .string ⟨#[110, 97, 109, 101]⟩, .string ⟨#[117, 115, 101, 114, 115]⟩, .string ⟨#[114, 97, 110, 107]⟩, .string ⟨#[116, 105, 116, 108, 101]⟩, .string ⟨#[98, 111, 100, 121]⟩, .string ⟨#[120]⟩] 9 hgE.symm
    have qE : w3.heap.size ≤ gE := by have := oX.size; omega
    have oX := oX.trans (Only.of_below (· = rb) bE) (fun _ _ q => q)
    have rX := rX.only (Only.of_below (fun _ => False) bE) id id
    try have nA := (bE.block gA (Array.getElem?_eq_some_iff.1 nA).1).trans nA
    try have nA := (oE.block gA (Array.getElem?_eq_some_iff.1 nA).1 (by omega)).trans nA
    refine hK.out _ _ (HSD.out _ oX) (fun hHeld => ?_)
    clear hK K
    try simp only [Act.put, List.setIfInBounds_toArray, List.set_cons_zero, List.set_cons_succ]
    rw [← hgE]
    generalize wA.alloc (.cells #[.string ⟨#[105, 100]⟩, .string ⟨#[110, 97, 109, 101]⟩, .string ⟨#[117, 115, 101, 114, 115]⟩, .string ⟨#[114, 97, 110, 107]⟩, .string ⟨#[116, 105, 116, 108, 101]⟩, .string ⟨#[98, 111, 100, 121]⟩, .string ⟨#[120]⟩] 9) = wE at *
    clear hgE bE
    refine wpAnyH_ready (rs := [3]) (by kernel_rfl) (by simp) ?_
    refine AllReadyH.cons (o := { dst := some 14, op := Op.call { callee := Callee.value (Operand.func 14), args := #[Operand.tmp 12, Operand.tmp 13], argTypes := #[42, 28] }, type := 9, pos := "l11_draw.go:355", after := #[{ on := 1, ground := Ground.data }, { on := 2, ground := Ground.data }], guard := none }) rfl (fun K hK => ?_) AllReadyH.nil
    go_simp
    refine (HO5.out wE _ gA rX (by omega) nA (by omega)).mono ?_
    rintro e wC ⟨s1, rfl, hs1, rX, oC⟩
    have oX := oX.trans oC (fun _ _ q => q)
    try have nA := (bC.block gA (Array.getElem?_eq_some_iff.1 nA).1).trans nA
    try have nA := (oC.block gA (Array.getElem?_eq_some_iff.1 nA).1 (by omega)).trans nA
    try have nE := (bC.block gE (Array.getElem?_eq_some_iff.1 nE).1).trans nE
    try have nE := (oC.block gE (Array.getElem?_eq_some_iff.1 nE).1 (by omega)).trans nE
    refine hK.out _ _ (HSD.out _ oX) (fun hHeld => ?_)
    clear hK K
    try simp only [Act.put, List.setIfInBounds_toArray, List.set_cons_zero, List.set_cons_succ]
    clear nA
    refine wpAnyH_ready (rs := [6]) (by kernel_rfl) (by simp) ?_
    refine AllReadyH.cons (o := { dst := some 17, op := Op.call { callee := Callee.value (Operand.func 14), args := #[Operand.tmp 15, Operand.tmp 16], argTypes := #[42, 28] }, type := 9, pos := "l11_draw.go:355", after := #[{ on := 4, ground := Ground.data }, { on := 5, ground := Ground.data }, { on := 3, ground := Ground.chain }], guard := none }) rfl (fun K hK => ?_) AllReadyH.nil
    go_simp
    refine (HO7.out wC _ gE rX (by omega) nE (by omega)).mono ?_
    rintro e wG ⟨s2, rfl, hs2, rX, oG⟩
    have oX := oX.trans oG (fun _ _ q => q)
    try have nA := (bG.block gA (Array.getElem?_eq_some_iff.1 nA).1).trans nA
    try have nA := (oG.block gA (Array.getElem?_eq_some_iff.1 nA).1 (by omega)).trans nA
    try have nE := (bG.block gE (Array.getElem?_eq_some_iff.1 nE).1).trans nE
    try have nE := (oG.block gE (Array.getElem?_eq_some_iff.1 nE).1 (by omega)).trans nE
    refine hK.out _ _ (HSD.out _ oX) (fun hHeld => ?_)
    clear hK K
    try simp only [Act.put, List.setIfInBounds_toArray, List.set_cons_zero, List.set_cons_succ]
    clear nE
    refine wpAnyH_ready (rs := [7]) (by kernel_rfl) (by simp) ?_
    refine AllReadyH.cons (o := { dst := none, op := Op.store 25 (Operand.tmp 2) (Operand.tmp 11), type := 0, pos := "l11_draw.go:355", after := #[{ on := 0, ground := Ground.data }, { on := 6, ground := Ground.chain }, { on := 0, ground := Ground.phase }, { on := 1, ground := Ground.textOnly Departure.lateStores }, { on := 2, ground := Ground.textOnly Departure.lateStores }, { on := 3, ground := Ground.textOnly Departure.lateStoresUnsure }, { on := 4, ground := Ground.textOnly Departure.lateStores }, { on := 5, ground := Ground.textOnly Departure.lateStores }, { on := 6, ground := Ground.textOnly Departure.lateStoresUnsure }], guard := none }) rfl (fun K hK => ?_) AllReadyH.nil
    obtain ⟨c0, z0⟩ := box_at (HRB.out _ oX) 0 (by simp)
    obtain ⟨c1, z1⟩ := box_at (HRB.out _ oX) 1 (by simp)
    simp only [List.getElem_toArray, List.getElem_cons_zero, List.getElem_cons_succ] at c0 c1
    go_simp
    clear c0 c1 z0 z1
    refine hK.out _ _ (HST.out _ oX) (fun hHeld => ?_)
    clear hK K
    try simp only [Act.put, List.setIfInBounds_toArray, List.set_cons_zero, List.set_cons_succ]
    refine wpAnyH_take (i := 8) (oi := { dst := some 3, op := Op.assign (Operand.tmp 14), type := 9, pos := "l11_draw.go:355", after := #[{ on := 3, ground := Ground.data }, { on := 7, ground := Ground.chain }, { on := 0, ground := Ground.phase }, { on := 1, ground := Ground.phase }, { on := 2, ground := Ground.phase }, { on := 3, ground := Ground.phase }, { on := 4, ground := Ground.textOnly Departure.lateStores }, { on := 5, ground := Ground.textOnly Departure.lateStores }, { on := 6, ground := Ground.textOnly Departure.lateStoresUnsure }, { on := 7, ground := Ground.phase }], guard := none }) (v := ?_) rfl (by kernel_rfl) (by kernel_rfl) (by kernel_rfl) (fun _ _ _ h => h) (Or.inl ⟨by rfl, ?_⟩) hHeld ?_
    rotate_left
    · intro w' hSw
      (try dsimp only at hSw)
      go_simp
      try with_reducible rfl
    try simp only [Act.put, List.setIfInBounds_toArray, List.set_cons_zero, List.set_cons_succ]
    refine wpAnyH_take (i := 9) (oi := { dst := some 4, op := Op.assign (Operand.tmp 17), type := 9, pos := "l11_draw.go:355", after := #[{ on := 6, ground := Ground.data }, { on := 8, ground := Ground.chain }, { on := 0, ground := Ground.phase }, { on := 1, ground := Ground.phase }, { on := 2, ground := Ground.phase }, { on := 3, ground := Ground.phase }, { on := 4, ground := Ground.phase }, { on := 5, ground := Ground.phase }, { on := 6, ground := Ground.phase }, { on := 7, ground := Ground.phase }, { on := 8, ground := Ground.phase }], guard := none }) (v := ?_) rfl (by kernel_rfl) (by kernel_rfl) (by kernel_rfl) (fun _ _ _ h => h) (Or.inl ⟨by rfl, ?_⟩) hHeld ?_
    rotate_left
    · intro w' hSw
      (try dsimp only at hSw)
      go_simp
      try with_reducible rfl
    try simp only [Act.put, List.setIfInBounds_toArray, List.set_cons_zero, List.set_cons_succ]
    refine wpAnyH_done (by kernel_rfl) ?_ _
    have HFIN := HEND.out _ oX s1 s2 hs1 hs2
    have hdd := sets2_cells (HRB.out _ oX) (.string p.name) (.slice ta l tc)
    go_wp2_with fail
    exact bodyPost_ret (dfResult _ _ w.heap.size (.string p.name) (.slice ta l tc) (.string s1) (.string s2) rfl rfl rfl hdd.1 hdd.2) rfl HFIN
  refine AllReadyH.cons (o := { dst := some 16, op := Op.buildSlice 28 7 #[(0, Operand.const (Value.string { data := #[105, 100] })), (1, Operand.const (Value.string { data := #[110, 97, 109, 101] })), (2, Operand.const (Value.string { data := #[117, 115, 101, 114, 115] })), (3, Operand.const (Value.string { data := #[114, 97, 110, 107] })), (4, Operand.const (Value.string { data := #[116, 105, 116, 108, 101] })), (5, Operand.const (Value.string { data := #[98, 111, 100, 121] })), (6, Operand.const (Value.string { data := #[120] }))], type := 28, pos := "l11_draw.go:355", after := #[], guard := none }) rfl (fun K hK => ?_) AllReadyH.nil
  go_simp
  have bE := below_box wE0 (.cells #[.string ⟨#[105, 100]⟩, .string ⟨#[110, 97, 109, 101]⟩, .string ⟨#[117, 115, 101, 114, 115]⟩, .string ⟨#[114, 97, 110, 107]⟩, .string ⟨#[116, 105, 116, 108, 101]⟩, .string ⟨#[98, 111, 100, 121]⟩, .string ⟨#[120]⟩] 9)
  obtain ⟨gE, hgE⟩ : ∃ g, g = wE0.heap.size := ⟨_, rfl⟩
  have nE := block_new (w := wE0) (N := gE) #[.string ⟨#[105, 100]⟩, .string ⟨#[110, 97, 109, 101]⟩, .string ⟨#[117, 115, 101, 114, 115]⟩, .string ⟨#[114, 97, 110, 107]⟩, .string ⟨#[116, 105, 116, 108, 101]⟩, .string ⟨#[98, 111, 100, 121]⟩, .string ⟨#[120]⟩] 9 hgE.symm
  have qE : w3.heap.size ≤ gE := by have := oX.size; omega
  have oX := oX.trans (Only.of_below (· = rb) bE) (fun _ _ q => q)
  have rX := rX.only (Only.of_below (fun _ => False) bE) id id
  refine hK.out _ _ (HSD.out _ oX) (fun hHeld => ?_)
  clear hK K
  try simp only [Act.put, List.setIfInBounds_toArray, List.set_cons_zero, List.set_cons_succ]
  rw [← hgE]
  generalize wE0.alloc (.cells #[.string ⟨#[105, 100]⟩, .string ⟨#[110, 97, 109, 101]⟩, .string ⟨#[117, 115, 101, 114, 115]⟩, .string ⟨#[114, 97, 110, 107]⟩, .string ⟨#[116, 105, 116, 108, 101]⟩, .string ⟨#[98, 111, 100, 121]⟩, .string ⟨#[120]⟩] 9) = wE at *
  clear hgE bE
  refine wpAnyH_ready (rs := [2]) (by kernel_rfl) (by simp) ?_
  refine AllReadyH.cons (o := { dst := some 13, op := Op.buildSlice 28 5 #[(0, Operand.const (Value.string { data := #[113, 117, 101, 114, 121] })), (1, Operand.const (Value.string { data := #[117, 115, 101, 114] })), (2, Operand.const (Value.string { data := #[105, 116, 101, 109] })), (3, Operand.const (Value.string { data := #[110, 111, 116, 101] })), (4, Operand.const (Value.string { data := #[120] }))], type := 28, pos := "l11_draw.go:355", after := #[], guard := none }) rfl (fun K hK => ?_) AllReadyH.nil
  go_simp
  have bA := below_box wE (.cells #[.string ⟨#[113, 117, 101, 114, 121]⟩, .string ⟨#[117, 115, 101, 114]⟩, .string ⟨#[105, 116, 101, 109]⟩, .string ⟨#[110, 111, 116, 101]⟩, .string ⟨#[120]⟩] 9)
  obtain ⟨gA, hgA⟩ : ∃ g, g = wE.heap.size := ⟨_, rfl⟩
  have nA := block_new (w := wE) (N := gA) #[.string ⟨#[113, 117, 101, 114, 121]⟩, .string ⟨#[117, 115, 101, 114]⟩, .string ⟨#[105, 116, 101, 109]⟩, .string ⟨#[110, 111, 116, 101]⟩, .string ⟨#[120]⟩] 9 hgA.symm
  have qA : w3.heap.size ≤ gA := by have := oX.size; omega
  have oX := oX.trans (Only.of_below (· = rb) bA) (fun _ _ q => q)
  have rX := rX.only (Only.of_below (fun _ => False) bA) id id
  try have nE := (bA.block gE (Array.getElem?_eq_some_iff.1 nE).1).trans nE
  try have nE := (oA.block gE (Array.getElem?_eq_some_iff.1 nE).1 (by omega)).trans nE
  refine hK.out _ _ (HSD.out _ oX) (fun hHeld => ?_)
  clear hK K
  try simp only [Act.put, List.setIfInBounds_toArray, List.set_cons_zero, List.set_cons_succ]
  rw [← hgA]
  generalize wE.alloc (.cells #[.string ⟨#[113, 117, 101, 114, 121]⟩, .string ⟨#[117, 115, 101, 114]⟩, .string ⟨#[105, 116, 101, 109]⟩, .string ⟨#[110, 111, 116, 101]⟩, .string ⟨#[120]⟩] 9) = wA at *
  clear hgA bA
  refine wpAnyH_ready (rs := [3]) (by kernel_rfl) (by simp) ?_
  refine AllReadyH.cons (o := { dst := some 14, op := Op.call { callee := Callee.value (Operand.func 14), args := #[Operand.tmp 12, Operand.tmp 13], argTypes := #[42, 28] }, type := 9, pos := "l11_draw.go:355", after := #[{ on := 1, ground := Ground.data }, { on := 2, ground := Ground.data }], guard := none }) rfl (fun K hK => ?_) AllReadyH.nil
  go_simp
  refine (HO5.out wA _ gA rX (by omega) nA (by omega)).mono ?_
  rintro e wC ⟨s1, rfl, hs1, rX, oC⟩
  have oX := oX.trans oC (fun _ _ q => q)
  try have nE := (bC.block gE (Array.getElem?_eq_some_iff.1 nE).1).trans nE
  try have nE := (oC.block gE (Array.getElem?_eq_some_iff.1 nE).1 (by omega)).trans nE
  try have nA := (bC.block gA (Array.getElem?_eq_some_iff.1 nA).1).trans nA
  try have nA := (oC.block gA (Array.getElem?_eq_some_iff.1 nA).1 (by omega)).trans nA
  refine hK.out _ _ (HSD.out _ oX) (fun hHeld => ?_)
  clear hK K
  try simp only [Act.put, List.setIfInBounds_toArray, List.set_cons_zero, List.set_cons_succ]
  clear nA
  refine wpAnyH_ready (rs := [6]) (by kernel_rfl) (by simp) ?_
  refine AllReadyH.cons (o := { dst := some 17, op := Op.call { callee := Callee.value (Operand.func 14), args := #[Operand.tmp 15, Operand.tmp 16], argTypes := #[42, 28] }, type := 9, pos := "l11_draw.go:355", after := #[{ on := 4, ground := Ground.data }, { on := 5, ground := Ground.data }, { on := 3, ground := Ground.chain }], guard := none }) rfl (fun K hK => ?_) AllReadyH.nil
  go_simp
  refine (HO7.out wC _ gE rX (by omega) nE (by omega)).mono ?_
  rintro e wG ⟨s2, rfl, hs2, rX, oG⟩
  have oX := oX.trans oG (fun _ _ q => q)
  try have nE := (bG.block gE (Array.getElem?_eq_some_iff.1 nE).1).trans nE
  try have nE := (oG.block gE (Array.getElem?_eq_some_iff.1 nE).1 (by omega)).trans nE
  try have nA := (bG.block gA (Array.getElem?_eq_some_iff.1 nA).1).trans nA
  try have nA := (oG.block gA (Array.getElem?_eq_some_iff.1 nA).1 (by omega)).trans nA
  refine hK.out _ _ (HSD.out _ oX) (fun hHeld => ?_)
  clear hK K
  try simp only [Act.put, List.setIfInBounds_toArray, List.set_cons_zero, List.set_cons_succ]
  clear nE
  refine wpAnyH_ready (rs := [7]) (by kernel_rfl) (by simp) ?_
  refine AllReadyH.cons (o := { dst := none, op := Op.store 25 (Operand.tmp 2) (Operand.tmp 11), type := 0, pos := "l11_draw.go:355", after := #[{ on := 0, ground := Ground.data }, { on := 6, ground := Ground.chain }, { on := 0, ground := Ground.phase }, { on := 1, ground := Ground.textOnly Departure.lateStores }, { on := 2, ground := Ground.textOnly Departure.lateStores }, { on := 3, ground := Ground.textOnly Departure.lateStoresUnsure }, { on := 4, ground := Ground.textOnly Departure.lateStores }, { on := 5, ground := Ground.textOnly Departure.lateStores }, { on := 6, ground := Ground.textOnly Departure.lateStoresUnsure }], guard := none }) rfl (fun K hK => ?_) AllReadyH.nil
  obtain ⟨c0, z0⟩ := box_at (HRB.out _ oX) 0 (by simp)
  obtain ⟨c1, z1⟩ := box_at (HRB.out _ oX) 1 (by simp)
  simp only [List.getElem_toArray, List.getElem_cons_zero, List.getElem_cons_succ] at c0 c1
  go_simp
  clear c0 c1 z0 z1
  refine hK.out _ _ (HST.out _ oX) (fun hHeld => ?_)
  clear hK K
  try simp only [Act.put, List.setIfInBounds_toArray, List.set_cons_zero, List.set_cons_succ]
  refine wpAnyH_take (i := 8) (oi := { dst := some 3, op := Op.assign (Operand.tmp 14), type := 9, pos := "l11_draw.go:355", after := #[{ on := 3, ground := Ground.data }, { on := 7, ground := Ground.chain }, { on := 0, ground := Ground.phase }, { on := 1, ground := Ground.phase }, { on := 2, ground := Ground.phase }, { on := 3, ground := Ground.phase }, { on := 4, ground := Ground.textOnly Departure.lateStores }, { on := 5, ground := Ground.textOnly Departure.lateStores }, { on := 6, ground := Ground.textOnly Departure.lateStoresUnsure }, { on := 7, ground := Ground.phase }], guard := none }) (v := ?_) rfl (by kernel_rfl) (by kernel_rfl) (by kernel_rfl) (fun _ _ _ h => h) (Or.inl ⟨by rfl, ?_⟩) hHeld ?_
  rotate_left
  · intro w' hSw
    (try dsimp only at hSw)
    go_simp
    try with_reducible rfl
  try simp only [Act.put, List.setIfInBounds_toArray, List.set_cons_zero, List.set_cons_succ]
  refine wpAnyH_take (i := 9) (oi := { dst := some 4, op := Op.assign (Operand.tmp 17), type := 9, pos := "l11_draw.go:355", after := #[{ on := 6, ground := Ground.data }, { on := 8, ground := Ground.chain }, { on := 0, ground := Ground.phase }, { on := 1, ground := Ground.phase }, { on := 2, ground := Ground.phase }, { on := 3, ground := Ground.phase }, { on := 4, ground := Ground.phase }, { on := 5, ground := Ground.phase }, { on := 6, ground := Ground.phase }, { on := 7, ground := Ground.phase }, { on := 8, ground := Ground.phase }], guard := none }) (v := ?_) rfl (by kernel_rfl) (by kernel_rfl) (by kernel_rfl) (fun _ _ _ h => h) (Or.inl ⟨by rfl, ?_⟩) hHeld ?_
  rotate_left
  · intro w' hSw
    (try dsimp only at hSw)
    go_simp
    try with_reducible rfl
  try simp only [Act.put, List.setIfInBounds_toArray, List.set_cons_zero, List.set_cons_succ]
  refine wpAnyH_done (by kernel_rfl) ?_ _
  have HFIN := HEND.out _ oX s1 s2 hs1 hs2
  have hdd := sets2_cells (HRB.out _ oX) (.string p.name) (.slice ta l tc)
  go_wp2_with fail
  exact bodyPost_ret (dfResult _ _ w.heap.size (.string p.name) (.slice ta l tc) (.string s1) (.string s2) rfl rfl rfl hdd.1 hdd.2) rfl HFIN
end Go.Proofs.YtibpieomldhomaaGreatDoor
