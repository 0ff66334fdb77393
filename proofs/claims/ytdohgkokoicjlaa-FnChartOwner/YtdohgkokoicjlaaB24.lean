import Derived.Test.YtdohgkokoicjlaaB23
import Derived.Test.YtdohgkokoicjlaaB18
import Derived.Test.YtdohgkokoicjlaaB22
import Derived.Deep.RegionHeld3
import Derived.Deep.DeepCutAuto
import Derived.BigRegion
import Derived.Test.YtdohgkokoicjlaaB11
import Derived.Test.YtdohgkokoicjlaaB8
set_option linter.unusedSimpArgs false
set_option linter.unusedVariables false
namespace Go.Proofs.Ytdohgkokoicjlaa
open Go.RowKit Go.Maps
structure XSt (w : World) (rb cb XB : Nat) (wx : World) (σ : Sh) (B : Bd) (q : Nat) (s : ByteArray) (tb len cap : Nat) : Prop where
  rd : RdOk wx rb cb q
  rbox : wx.heap[w.heap.size + 1]? = some (.cells #[.string ⟨#[]⟩, .slice none 0 0] 25 (0, 0))
  xb : wx.heap[XB]? = some (.cells #[.string s, .slice (some ⟨tb, 0, none⟩) len cap] 25 (0, 0))
  gt : w.heap.size + 1 < XB
  wf : Wf wx σ B
  new : ∀ b T n, σ b = some (T, n) → w.heap.size + 1 < b ∧ b ≠ XB
  blk : σ tb = some (48, cap)
  le : len ≤ cap
  cm : cap ≤ maxLen
  only : Only (· = rb) w wx
  rlt : rb < w.heap.size
  clt : cb < w.heap.size
  sm : s.size ≤ 12
structure Box (w wx : World) (σ : Sh) (XB N : Nat) (cs : Array Value) (T : TypeId) : Prop where
  box : wx.heap[N]? = some (.cells cs T (0, 0))
  nil : σ N = none
  ne : N ≠ XB
  gt : w.heap.size + 1 < N
section
variable {w : World} {rb cb XB : Nat} {wx wy : World} {σ σ' : Sh} {B B' : Bd} {q q' : Nat} {s : ByteArray} {tb len cap N : Nat} {cs : Array Value} {T : TypeId}
structure Chg (rb : Nat) (wx wy : World) (σ σ' : Sh) : Prop where
  ext : Ext σ σ'
  same : ∀ x, x < wx.heap.size → σ' x = σ x
  keep : ∀ x, x < wx.heap.size → σ x = none → x ≠ rb → wy.heap[x]? = wx.heap[x]?
  size : wx.heap.size ≤ wy.heap.size
  os : wy.os = wx.os
  tape : wy.tape = wx.tape
  output : wy.output = wx.output
theorem Chg.below (rb : Nat) (σ : Sh) (h : Below wx.heap.size wx wy) : Chg rb wx wy σ σ := ⟨Ext.refl _, fun _ _ => rfl, fun x hx _ _ => h.block x hx, h.size, h.os, h.tape, h.output⟩
theorem Chg.pick (σ : Sh) (h : Only (· = rb) wx wy) : Chg rb wx wy σ σ := ⟨Ext.refl _, fun _ _ => rfl, fun x hx _ hn => h.block x hx hn, h.size, h.os, h.tape, h.output⟩
theorem Chg.trans {wz : World} {σ'' : Sh} (h : Chg rb wx wy σ σ') (k : Chg rb wy wz σ' σ'') : Chg rb wx wz σ σ'' :=
  ⟨h.ext.trans k.ext, fun x hx => (k.same x (Nat.lt_of_lt_of_le hx h.size)).trans (h.same x hx), fun x hx hn hr => (k.keep x (Nat.lt_of_lt_of_le hx h.size) (by rw [h.same x hx]; exact hn) hr).trans (h.keep x hx hn hr), Nat.le_trans h.size k.size, k.os.trans h.os, k.tape.trans h.tape, k.output.trans h.output⟩
theorem Chg.set (σ : Sh) {b n i : Nat} {T : TypeId} (hb : σ b = some (T, n)) (v : Value) : Chg rb wx (wx.setCell ⟨b, i, none⟩ v) σ σ :=
  ⟨Ext.refl _, fun _ _ => rfl, fun x hx hn _ => Below.heap_setCell _ _ _ _ (fun e => by have e : x = b := e; subst e; rw [hn] at hb; cases hb), by rw [size_set]; exact Nat.le_refl _, rfl, rfl, rfl⟩
theorem Chg.grown {W : World} {row : Option Nat} {σ1 : Sh} (h : Chg rb wx W σ σ1) (hg : W.grownBy wy row) (hr : ∀ k, row = some k → ∃ T n, σ1 k = some (T, n)) (he : Ext σ1 σ') (hs : ∀ x, x < W.heap.size → σ' x = σ1 x) : Chg rb wx wy σ σ' :=
  h.trans ⟨he, hs, fun x hx hn _ => hg.block x hx (fun e => by obtain ⟨T, n, h1⟩ := hr x e.symm; rw [hn] at h1; cases h1), hg.size, hg.os, hg.tape, hg.output⟩
theorem XSt.lt (h : XSt w rb cb XB wx σ B q s tb len cap) : XB < wx.heap.size := (Array.getElem?_eq_some_iff.1 h.xb).1
theorem XSt.chg (h : XSt w rb cb XB wx σ B q s tb len cap) (c : Chg rb wx wy σ σ') (hw : Wf wy σ' B') (hr : RdOk wy rb cb q') : XSt w rb cb XB wy σ' B' q' s tb len cap := by
  have hrl := h.rlt
  have hlt := h.lt
  have hg := h.gt
  have n : ∀ x, x ≤ w.heap.size + 1 → σ x = none := fun x hx => by
    cases e : σ x with
    | none => rfl
    | some y => obtain ⟨T, m⟩ := y; have := (h.new x T m e).1; omega
  have nX : σ XB = none := by
    cases e : σ XB with
    | none => rfl
    | some y => obtain ⟨T, m⟩ := y; exact absurd rfl (h.new XB T m e).2
  refine ⟨hr, (c.keep _ (by omega) (n _ (by omega)) (by omega)).trans h.rbox, (c.keep _ hlt nX (by omega)).trans h.xb, hg, hw, fun b T m hb => ?_, c.ext _ _ _ h.blk, h.le, h.cm, ⟨c.os.trans h.only.os, c.tape.trans h.only.tape, c.output.trans h.only.output, Nat.le_trans h.only.size c.size, fun x hx hn => (c.keep x (Nat.lt_of_lt_of_le hx h.only.size) (n x (by omega)) hn).trans (h.only.block x hx hn)⟩, hrl, h.clt, h.sm⟩
  rcases Nat.lt_or_ge b wx.heap.size with h1 | h1
  · rw [c.same b h1] at hb; exact h.new b T m hb
  · exact ⟨by omega, by omega⟩
theorem XSt.rdk (h : XSt w rb cb XB wx σ B q s tb len cap) (c : Chg rb wx wy σ σ') (hr : wy.heap[rb]? = wx.heap[rb]?) : RdOk wy rb cb q := by
  have hn : σ cb = none := by
    cases e : σ cb with
    | none => rfl
    | some y => obtain ⟨T, m⟩ := y; have := (h.new cb T m e).1; have := h.clt; omega
  exact h.rd.keep hr (c.keep cb h.rd.lt.2.1 hn (Ne.symm h.rd.lt.2.2)) c.size
theorem XSt.below (h : XSt w rb cb XB wx σ B q s tb len cap) (hb : Below wx.heap.size wx wy) : XSt w rb cb XB wy σ B q s tb len cap :=
  h.chg (Chg.below rb σ hb) (h.wf.below hb) (h.rdk (Chg.below rb σ hb) (hb.block _ h.rd.lt.1))
theorem XSt.move (h : XSt w rb cb XB wx σ B q s tb len cap) (hr : RdOk wy rb cb q') (ho : Only (· = rb) wx wy) : XSt w rb cb XB wy σ B q' s tb len cap :=
  h.chg (Chg.pick σ ho) (h.wf.keep fun b T n hb => ho.block b (h.wf.lt hb) (by have := (h.new b T n hb).1; have := h.rlt; omega)) hr
theorem Box.lt (h : Box w wx σ XB N cs T) : N < wx.heap.size := (Array.getElem?_eq_some_iff.1 h.box).1
theorem Box.chg (h : Box w wx σ XB N cs T) (hr : rb < w.heap.size) (c : Chg rb wx wy σ σ') : Box w wy σ' XB N cs T :=
  ⟨(c.keep N h.lt h.nil (by have := h.gt; omega)).trans h.box, by rw [c.same N h.lt]; exact h.nil, h.ne, h.gt⟩
theorem Box.set (h : Box w wx σ XB N cs T) (j : Nat) (v : Value) : Box w (wx.setCell ⟨N, j, none⟩ v) σ XB N (cs.setIfInBounds j v) T := ⟨set_box h.box j v, h.nil, h.ne, h.gt⟩
theorem Box.other (h : Box w wx σ XB N cs T) {M j : Nat} (hM : N ≠ M) (v : Value) : Box w (wx.setCell ⟨M, j, none⟩ v) σ XB N cs T := ⟨(Below.heap_setCell _ _ _ _ hM).trans h.box, h.nil, h.ne, h.gt⟩
theorem XSt.boxed (h : XSt w rb cb XB wx σ B q s tb len cap) (b : Box w wx σ XB N cs T) (j : Nat) (v : Value) : XSt w rb cb XB (wx.setCell ⟨N, j, none⟩ v) σ B q s tb len cap := by
  have hg := b.gt
  have hk : ∀ x, x ≠ N → (wx.setCell ⟨N, j, none⟩ v).heap[x]? = wx.heap[x]? := fun x hx => Below.heap_setCell _ _ _ _ hx
  have hrl := h.rlt
  have hcl := h.clt
  exact ⟨h.rd.keep (hk rb (by omega)) (hk cb (by omega)) (by rw [size_set]; exact Nat.le_refl _), (hk _ (by omega)).trans h.rbox, (hk _ (Ne.symm b.ne)).trans h.xb, h.gt, h.wf.keep fun x T' n hx => hk x (fun e => by subst e; rw [b.nil] at hx; cases hx), h.new, h.blk, h.le, h.cm, h.only.set N j (Or.inr (by omega)) v, hrl, hcl, h.sm⟩
theorem XSt.newBox (h : XSt w rb cb XB wx σ B q s tb len cap) (hN : wx.heap.size = N) (cs : Array Value) (T : TypeId) : XSt w rb cb XB (wx.alloc (.cells cs T)) σ B q s tb len cap ∧ Box w (wx.alloc (.cells cs T)) σ XB N cs T := by
  subst hN
  exact ⟨h.below (below_box _ _), ⟨block_new _ _ rfl, h.wf.fresh (Nat.le_refl _), by have := h.lt; omega, by have := h.lt; have := h.gt; omega⟩⟩
theorem XSt.put (h : XSt w rb cb XB wx σ B q s tb len cap) {b n : Nat} {T : TypeId} (hb : σ b = some (T, n)) (j : Nat) (v : Value) (hv : CellOk σ B T (j % wide T) v) : XSt w rb cb XB (wx.setCell ⟨b, j, none⟩ v) σ B q s tb len cap := by
  have hne : rb ≠ b := by have := (h.new b T n hb).1; have := h.rlt; omega
  exact h.chg (Chg.set σ hb v) (h.wf.set hb j v hv) (h.rdk (Chg.set σ hb v) (Below.heap_setCell _ _ _ _ hne))
theorem Box.put (h : Box w wx σ XB N cs T) (hr : rb < w.heap.size) {b n : Nat} {T' : TypeId} (hb : σ b = some (T', n)) (j : Nat) (v : Value) : Box w (wx.setCell ⟨b, j, none⟩ v) σ XB N cs T := h.chg hr (Chg.set (rb := rb) σ hb v)
theorem XSt.name (h : XSt w rb cb XB wx σ B q s tb len cap) (s' : ByteArray) (hs : s'.size ≤ 12) : XSt w rb cb XB (wx.setCell ⟨XB, 0, none⟩ (.string s')) σ B q s' tb len cap := by
  have hg := h.gt
  have hk : ∀ x, x ≠ XB → (wx.setCell ⟨XB, 0, none⟩ (.string s')).heap[x]? = wx.heap[x]? := fun x hx => Below.heap_setCell _ _ _ _ hx
  have hrl := h.rlt
  have hcl := h.clt
  refine ⟨h.rd.keep (hk rb (by omega)) (hk cb (by omega)) (by rw [size_set]; exact Nat.le_refl _), (hk _ (by omega)).trans h.rbox, ?_, h.gt, h.wf.keep fun x T' n hx => hk x (h.new x T' n hx).2, h.new, h.blk, h.le, h.cm, h.only.set XB 0 (Or.inr (by omega)) _, hrl, hcl, hs⟩
  rw [set_box h.xb 0 _]; rfl
theorem XSt.types (h : XSt w rb cb XB wx σ B q s tb len cap) {tb' len' cap' : Nat} (hb : σ tb' = some (48, cap')) (hl : len' ≤ cap') (hc : cap' ≤ maxLen) : XSt w rb cb XB (wx.setCell ⟨XB, 1, none⟩ (.slice (some ⟨tb', 0, none⟩) len' cap')) σ B q s tb' len' cap' := by
  have hg := h.gt
  have hk : ∀ x, x ≠ XB → (wx.setCell ⟨XB, 1, none⟩ (.slice (some ⟨tb', 0, none⟩) len' cap')).heap[x]? = wx.heap[x]? := fun x hx => Below.heap_setCell _ _ _ _ hx
  have hrl := h.rlt
  have hcl := h.clt
  refine ⟨h.rd.keep (hk rb (by omega)) (hk cb (by omega)) (by rw [size_set]; exact Nat.le_refl _), (hk _ (by omega)).trans h.rbox, ?_, h.gt, h.wf.keep fun x T' n hx => hk x (h.new x T' n hx).2, h.new, hb, hl, hc, h.only.set XB 1 (Or.inr (by omega)) _, hrl, hcl, h.sm⟩
  rw [set_box h.xb 1 _]; rfl
theorem XSt.le' (h : XSt w rb cb XB wx σ B q s tb len cap) (hB : B.le B') : XSt w rb cb XB wx σ B' q s tb len cap :=
  ⟨h.rd, h.rbox, h.xb, h.gt, h.wf.le hB, h.new, h.blk, h.le, h.cm, h.only, h.rlt, h.clt, h.sm⟩
end
theorem XSt.put8 {w : World} {rb cb XB : Nat} {wx : World} {σ : Sh} {B : Bd} {q : Nat} {s : ByteArray} {tb len cap : Nat} (h : XSt w rb cb XB wx σ B q s tb len cap) {N k n : Nat} (hN : σ N = some (37, n)) (fn fo : ByteArray) (l m fr hd sh : Bool) (nv : Value) (h1 : fn.size ≤ 12) (h2 : fo.size ≤ 12) (h3 : SlOk σ 9 B.nn nv) (Y : World) (hY : Y = ((((((((wx.setCell ⟨N, k * 8, none⟩ (.string fn)).setCell ⟨N, k * 8 + 1, none⟩ (.string fo)).setCell ⟨N, k * 8 + 2, none⟩ (.bool l)).setCell ⟨N, k * 8 + 3, none⟩ (.bool m)).setCell ⟨N, k * 8 + 4, none⟩ (.bool fr)).setCell ⟨N, k * 8 + 5, none⟩ (.bool hd)).setCell ⟨N, k * 8 + 6, none⟩ (.bool sh)).setCell ⟨N, k * 8 + 7, none⟩ nv)) :
    XSt w rb cb XB Y σ B q s tb len cap ∧ ∀ M cs T, Box w wx σ XB M cs T → Box w Y σ XB M cs T := by
  have hm : ∀ j, j < 8 → (k * 8 + j) % wide 37 = j := fun j hj => by rw [wideF]; omega
  have hc := fieldCells σ B fn fo l m fr hd sh nv h1 h2 h3
  have qq : ∀ j (hj : j < 8) v, (#[.string fn, .string fo, .bool l, .bool m, .bool fr, .bool hd, .bool sh, nv] : Array Value)[j]? = some v → CellOk σ B 37 ((k * 8 + j) % wide 37) v := fun j hj v hv => by rw [hm j hj]; exact hc j v hv
  have hr := h.rlt
  subst hY
  refine ⟨?_, fun M cs T hb => ?_⟩
  · exact (((((((h.put hN _ _ (qq 0 (by omega) _ rfl)).put hN _ _ (qq 1 (by omega) _ rfl)).put hN _ _ (qq 2 (by omega) _ rfl)).put hN _ _ (qq 3 (by omega) _ rfl)).put hN _ _ (qq 4 (by omega) _ rfl)).put hN _ _ (qq 5 (by omega) _ rfl)).put hN _ _ (qq 6 (by omega) _ rfl)).put hN _ _ (qq 7 (by omega) _ rfl)
  · exact (((((((hb.put hr hN _ _).put hr hN _ _).put hr hN _ _).put hr hN _ _).put hr hN _ _).put hr hN _ _).put hr hN _ _).put hr hN _ _
theorem XSt.put3 {w : World} {rb cb XB : Nat} {wx : World} {σ : Sh} {B : Bd} {q : Nat} {s : ByteArray} {tb len cap : Nat} (h : XSt w rb cb XB wx σ B q s tb len cap) (k : Nat) (tn tk : ByteArray) (fv : Value) (h1 : tn.size ≤ 12) (hst : B.st = false) (h2 : tk.size ≤ 12) (h3 : SlOk σ 37 B.nf fv) (Y : World) (hY : Y = (((wx.setCell ⟨tb, k * 3, none⟩ (.string tn)).setCell ⟨tb, k * 3 + 1, none⟩ (.string tk)).setCell ⟨tb, k * 3 + 2, none⟩ fv)) :
    XSt w rb cb XB Y σ B q s tb len cap := by
  have hm : ∀ j, j < 3 → (k * 3 + j) % wide 48 = j := fun j hj => by rw [wideT]; omega
  have hc := typeCells σ B tn tk fv h1 (fun h => by rw [hst] at h; cases h) h2 h3
  have qq : ∀ j (hj : j < 3) v, (#[.string tn, .string tk, fv] : Array Value)[j]? = some v → CellOk σ B 48 ((k * 3 + j) % wide 48) v := fun j hj v hv => by rw [hm j hj]; exact hc j v hv
  subst hY
  exact ((h.put h.blk _ _ (qq 0 (by omega) _ rfl)).put h.blk _ _ (qq 1 (by omega) _ rfl)).put h.blk _ _ (qq 2 (by omega) _ rfl)
structure Laid (w w' : World) (σ : Sh) (B : Bd) (s : ByteArray) (tb off len c' cap : Nat) : Prop where
  wf : Wf w' σ B
  new : ∀ b T m, σ b = some (T, m) → w.heap.size ≤ b
  blk : σ tb = some (48, cap)
  inn : off + len ≤ cap
  few : len ≤ 115
  le : len ≤ c'
  nn : B.nn ≤ 2
  nf : B.nf ≤ 121
  sm : s.size ≤ 12
theorem Laid.keep {w w' w'' : World} {σ : Sh} {B : Bd} {s : ByteArray} {tb off len c' cap : Nat} (h : Laid w w' σ B s tb off len c' cap) (hk : ∀ b, w.heap.size ≤ b → b < w'.heap.size → w''.heap[b]? = w'.heap[b]?) : Laid w w'' σ B s tb off len c' cap :=
  ⟨h.wf.keep fun b T m hb => hk b (h.new b T m hb) (h.wf.lt hb), h.new, h.blk, h.inn, h.few, h.le, h.nn, h.nf, h.sm⟩
theorem Laid.part {w w' : World} {σ : Sh} {B : Bd} {s : ByteArray} {tb off len c' cap : Nat} (h : Laid w w' σ B s tb off len c' cap) :
    ∃ p : Pt, PRep w' (· < w'.heap.size) p (.agg #[.string s, .slice (some ⟨tb, off * 3, none⟩) len c']) ∧ szP p ≤ 900000 := by
  have hl := h.few
  have hnn := h.nn
  have hnf := h.nf
  obtain ⟨ts, hts, hP, -, hz, -⟩ := h.wf.types (off := off) (len := len) (c' := c') h.blk h.inn (by omega) h.le (by omega) (by omega) s h.sm
  refine ⟨⟨s, ts⟩, hP, Nat.le_trans hz ?_⟩
  have h1 : (25 + 13 * B.nn) * B.nf ≤ 51 * 121 := Nat.mul_le_mul (by omega) hnf
  have h2 : (25 + (25 + 13 * B.nn) * B.nf) * len ≤ (25 + 51 * 121) * 115 := Nat.mul_le_mul (by omega) hl
  omega
def SpEnd (w : World) (rb cb : Nat) (e : Ending) (w' : World) : Prop := ∃ (σ : Sh) (B : Bd) (s : ByteArray) (tb off len c' cap : Nat), e = .returned (.agg #[.string s, .slice (some ⟨tb, off * 3, none⟩) len c']) ∧ Laid w w' σ B s tb off len c' cap ∧ Only (· = rb) w w' ∧ RdOk w' rb cb 20010
theorem XSt.fin {w : World} {rb cb XB : Nat} {wx : World} {σ : Sh} {B : Bd} {q : Nat} {s : ByteArray} {tb len cap : Nat} (h : XSt w rb cb XB wx σ B q s tb len cap) (hB : B.nn ≤ 2) (hnf : B.nf ≤ 121) (off n c' : Nat) (hn : off + n ≤ len) (hl : n ≤ 115) (hc : n ≤ c') (hq : q ≤ 20010 := by omega) :
    SpEnd w rb cb (.returned (.agg #[.string s, .slice (some ⟨tb, off * 3, none⟩) n c'])) ((wx.setCell ⟨w.heap.size + 1, 0, none⟩ (.string s)).setCell ⟨w.heap.size + 1, 1, none⟩ (.slice (some ⟨tb, off * 3, none⟩) n c')) := by
  have hset : ∀ x, x ≠ w.heap.size + 1 → ((wx.setCell ⟨w.heap.size + 1, 0, none⟩ (.string s)).setCell ⟨w.heap.size + 1, 1, none⟩ (.slice (some ⟨tb, off * 3, none⟩) n c')).heap[x]? = wx.heap[x]? := fun x hx => by rw [Below.heap_setCell _ _ _ _ hx, Below.heap_setCell _ _ _ _ hx]
  have hw := h.wf.keep (w' := ((wx.setCell ⟨w.heap.size + 1, 0, none⟩ (.string s)).setCell ⟨w.heap.size + 1, 1, none⟩ (.slice (some ⟨tb, off * 3, none⟩) n c'))) fun x T m hx => hset x (by have := (h.new x T m hx).1; omega)
  exact ⟨σ, B, s, tb, off, n, c', cap, rfl, ⟨hw, fun b T m hb => by have := (h.new b T m hb).1; omega, h.blk, by have := h.le; omega, hl, hc, hB, hnf, h.sm⟩, (h.only.set _ _ (Or.inr (by omega)) _).set _ _ (Or.inr (by omega)) _, (h.rd.keep (hset rb (by have := h.rlt; omega)) (hset cb (by have := h.clt; omega)) (by simp [size_set])).le hq⟩
theorem XSt.finX {w : World} {rb cb XB : Nat} {wx : World} {σ : Sh} {B : Bd} {q : Nat} {s : ByteArray} {tb len cap : Nat} (h : XSt w rb cb XB wx σ B q s tb len cap) (hB : B.nn ≤ 2) (hnf : B.nf ≤ 121) (off n c' : Nat) (hn : off + n ≤ len) (hl : n ≤ 115) (hc : n ≤ c') (Y : World) (hY : Y = wx.setCell ⟨XB, 1, none⟩ (.slice (some ⟨tb, off * 3, none⟩) n c')) (hq : q ≤ 20010 := by omega) :
    SpEnd w rb cb (.returned (.agg #[.string s, .slice (some ⟨tb, off * 3, none⟩) n c'])) ((Y.setCell ⟨w.heap.size + 1, 0, none⟩ (.string s)).setCell ⟨w.heap.size + 1, 1, none⟩ (.slice (some ⟨tb, off * 3, none⟩) n c')) ∧ Y.heap[XB]? = some (.cells #[.string s, .slice (some ⟨tb, off * 3, none⟩) n c'] 25 (0, 0)) ∧ Y.heap[w.heap.size + 1]? = some (.cells #[.string ⟨#[]⟩, .slice none 0 0] 25 (0, 0)) := by
  subst hY
  have hg := h.gt
  have hset : ∀ x, x ≠ w.heap.size + 1 → x ≠ XB → (((wx.setCell ⟨XB, 1, none⟩ (.slice (some ⟨tb, off * 3, none⟩) n c')).setCell ⟨w.heap.size + 1, 0, none⟩ (.string s)).setCell ⟨w.heap.size + 1, 1, none⟩ (.slice (some ⟨tb, off * 3, none⟩) n c')).heap[x]? = wx.heap[x]? := fun x hx hx2 => by rw [Below.heap_setCell _ _ _ _ hx, Below.heap_setCell _ _ _ _ hx, Below.heap_setCell _ _ _ _ hx2]
  have hw := h.wf.keep (w' := (((wx.setCell ⟨XB, 1, none⟩ (.slice (some ⟨tb, off * 3, none⟩) n c')).setCell ⟨w.heap.size + 1, 0, none⟩ (.string s)).setCell ⟨w.heap.size + 1, 1, none⟩ (.slice (some ⟨tb, off * 3, none⟩) n c'))) fun x T m hx => hset x (by have := (h.new x T m hx).1; omega) (h.new x T m hx).2
  refine ⟨⟨σ, B, s, tb, off, n, c', cap, rfl, ⟨hw, fun b T m hb => by have := (h.new b T m hb).1; omega, h.blk, by have := h.le; omega, hl, hc, hB, hnf, h.sm⟩, ((h.only.set _ _ (Or.inr (by omega)) _).set _ _ (Or.inr (by omega)) _).set _ _ (Or.inr (by omega)) _, (h.rd.keep (hset rb (by have := h.rlt; omega) (by have := h.rlt; omega)) (hset cb (by have := h.clt; omega) (by have := h.clt; omega)) (by simp [size_set])).le hq⟩, ?_, (Below.heap_setCell _ _ _ _ (by show w.heap.size + 1 ≠ XB; omega)).trans h.rbox⟩
  rw [set_box h.xb 1 _]; rfl
end Go.Proofs.Ytdohgkokoicjlaa
namespace Go.Proofs.Ytdohgkokoicjlaa
open Go.RowKit Go.Maps
def NoText (w : World) (Q : Nat → Prop) : Prop := ∀ b, Q b → ∀ o s, w.cell? ⟨b, o, none⟩ ≠ some (.string s)
theorem Strs.avoid {w : World} {P Q : Nat → Prop} {ns : List ByteArray} {a : Option Addr} (h : Strs w P ns a) (hr : NoText w Q) : Strs w (fun b => P b ∧ ¬ Q b) ns a :=
  ⟨fun hn => by
    obtain ⟨b, off, e, hb, hc⟩ := h.1 hn
    exact ⟨b, off, e, ⟨hb, fun hq => hr _ hq _ _ (hc 0 (List.length_pos_iff.2 hn))⟩, hc⟩, h.2⟩
theorem FRep.avoid {w : World} {P Q : Nat → Prop} {f : F} {v : Value} (h : FRep w P f v) (hr : NoText w Q) : FRep w (fun b => P b ∧ ¬ Q b) f v := by
  obtain ⟨na, nc, h1, h2, h3⟩ := h
  exact ⟨na, nc, h1, h2.avoid hr, h3⟩
theorem FsRep.avoid {w : World} {P Q : Nat → Prop} {fs : List F} {a : Option Addr} (h : FsRep w P fs a) (hr : NoText w Q) : FsRep w (fun b => P b ∧ ¬ Q b) fs a := by
  obtain ⟨h0, C, hA, hR⟩ := h
  refine ⟨h0, C, fun hn => ?_, fun i hi => (hR i hi).avoid hr⟩
  obtain ⟨b, off, e, hb, hc⟩ := hA hn
  refine ⟨b, off, e, ⟨hb, fun hq => ?_⟩, hc⟩
  obtain ⟨na, nc, e1, -⟩ := hR 0 hn
  simp only [Value.agg.injEq, Array.mk.injEq, List.cons.injEq, and_true] at e1
  have := hc 0 hn 0 (by omega)
  rw [e1.1] at this
  exact hr _ hq _ _ this
theorem TRep.avoid {w : World} {P Q : Nat → Prop} {t : T} {v : Value} (h : TRep w P t v) (hr : NoText w Q) : TRep w (fun b => P b ∧ ¬ Q b) t v := by
  obtain ⟨fa, fc, h1, h2, h3⟩ := h
  exact ⟨fa, fc, h1, h2.avoid hr, h3⟩
theorem PRep.avoid {w : World} {P Q : Nat → Prop} {p : Pt} {v : Value} (h : PRep w P p v) (hr : NoText w Q) : PRep w (fun b => P b ∧ ¬ Q b) p v := by
  obtain ⟨ta, tc, h1, ⟨h0, C, hA, hR⟩, h3⟩ := h
  refine ⟨ta, tc, h1, ⟨h0, C, fun hn => ?_, fun i hi => (hR i hi).avoid hr⟩, h3⟩
  obtain ⟨b, off, e, hb, hc⟩ := hA hn
  refine ⟨b, off, e, ⟨hb, fun hq => ?_⟩, hc⟩
  obtain ⟨fa, fc, e1, -⟩ := hR 0 hn
  simp only [Value.agg.injEq, Array.mk.injEq, List.cons.injEq, and_true] at e1
  have := hc 0 hn 0 (by omega)
  rw [e1.1] at this
  exact hr _ hq _ _ this
def blank (w : World) (N : Nat) : World := { w with heap := w.heap.mapIdx fun i o => if i < N then .cells #[] 0 else o }
theorem blank_at (w : World) (N k : Nat) (h : N ≤ k) : (blank w N).heap[k]? = w.heap[k]? := by
  have : ¬ k < N := by omega
  simp [blank, Array.getElem?_mapIdx, this]
theorem blank_none (w : World) (N : Nat) : NoText (blank w N) (· < N) := fun b hb o s hc => by
  have hb' : b < N := hb
  unfold World.cell? at hc
  rcases h : w.heap[b]? with _ | x
  · simp [blank, Array.getElem?_mapIdx, h] at hc
  · simp [blank, Array.getElem?_mapIdx, h, hb'] at hc
theorem blank_size (w : World) (N : Nat) : (blank w N).heap.size = w.heap.size := by simp [blank]
theorem Laid.partN {w w' : World} {σ : Sh} {B : Bd} {s : ByteArray} {tb off len c' cap : Nat} (h : Laid w w' σ B s tb off len c' cap) :
    ∃ p : Pt, PRep w' (fun b => w.heap.size ≤ b ∧ b < w'.heap.size) p (.agg #[.string s, .slice (some ⟨tb, off * 3, none⟩) len c']) ∧ szP p ≤ 900000 := by
  have hB : Laid w (blank w' w.heap.size) σ B s tb off len c' cap := h.keep fun b h1 _ => blank_at _ _ _ h1
  obtain ⟨p, hP, hz⟩ := hB.part
  refine ⟨p, ((hP.avoid (blank_none w' w.heap.size)).mono fun k hk => ?_).sub fun b hb => ?_, hz⟩
  · have : ¬ k < w.heap.size := hk.2
    exact (blank_at _ _ _ (by omega)).symm
  · have h1 : ¬ b < w.heap.size := hb.2
    have h2 : b < (blank w' w.heap.size).heap.size := hb.1
    rw [blank_size] at h2
    exact ⟨by omega, h2⟩
end Go.Proofs.Ytdohgkokoicjlaa
namespace Go.Proofs.Ytdohgkokoicjlaa
open Go.RowKit Go.Maps
attribute [local go_sem] Oper.semAt_some
theorem infoP : (Try.prog.info? 25).map (fun i => (i.zero, i.size, i.bytes)) = some (some (.agg #[.string ByteArray.empty, .slice none 0 0]), 2, 40) := by kernel_rfl
theorem PSt.start {w wx : World} {rb cb q : Nat} (hr : RdOk wx rb cb q) (ho : Only (· = rb) w wx) (h1 : rb < w.heap.size) (h2 : cb < w.heap.size) (hz : w.heap.size ≤ wx.heap.size) :
    PSt w rb cb 0 (wx.alloc (.cells #[] 25)) (fun _ => none) 0 q wx.heap.size 0 [] :=
  ⟨hr.only (Only.of_below (fun _ => False) (below_box _ _)) id id, Wf.nil _ _, (fun _ _ _ h => by cases h), ⟨rfl, Or.inr ⟨wx.heap.size, 0, #[], rfl, hz, block_new _ _ rfl, Nat.le_refl _, Nat.zero_le _, rfl, rfl⟩⟩, rfl, (fun p hp => by simp at hp), rfl, ho.alloc _, h1, h2⟩
theorem PSt.push {w : World} {rb cb k : Nat} {w2 wP : World} {σ : Sh} {q pb pc g cap : Nat} {ps : List Pv} (h : PSt w rb cb k w2 σ 0 q pb pc ps) (fn nm : ByteArray) (hfn : fn.size ≤ 12) (hnm : nm.size ≤ 12) (W3 : World)
    (hW3 : W3 = (((w2.alloc (.cells #[.string fn, .string ⟨#[105, 110, 116]⟩, .bool false, .bool false, .bool false, .bool false, .bool false, .slice none 0 0] 37)).alloc (.cells #[.string ⟨#[113, 117, 101, 114, 121]⟩, .string ⟨#[]⟩, .slice (some ⟨w2.heap.size, 0, none⟩) 1 1] 48)).alloc (.cells #[.string nm, .slice (some ⟨w2.heap.size + 1, 0, none⟩) 1 1] 25)))
    (hown : wP.ownsRow w.heap.size 25 2 (.slice (some ⟨g, 0, none⟩) (k + 1) cap) (k + 1) (flatP ps ++ [.string nm, .slice (some ⟨w2.heap.size + 1, 0, none⟩) 1 1])) (hgr : W3.grownBy wP (Value.slice (some ⟨pb, 0, none⟩) k pc).ownBlock) (hg0 : (Value.slice (some ⟨pb, 0, none⟩) k pc).ownBlock = some g ∨ g = W3.heap.size) :
    PSt w rb cb (k + 1) wP ((σ.add w2.heap.size 37 1).add (w2.heap.size + 1) 48 1) 0 q g cap (ps ++ [⟨nm, w2.heap.size + 1, 1, 1⟩]) := by
  have hg : g = pb ∨ g = W3.heap.size := hg0.imp (fun e => (Option.some.inj e).symm) id
  have hgr : W3.grownBy wP (some pb) := hgr
  have b3 : Below w2.heap.size w2 W3 := by rw [hW3]; exact (below_box2 _ _ _).alloc (by simp; omega) _
  have z3 : W3.heap.size = w2.heap.size + 1 + 1 + 1 := by rw [hW3]; simp
  have h3 := h.below b3
  have hpl := h.plt
  have hrl := h.rlt
  have hcl := h.clt
  have hwz := h.only.size
  have kF : W3.heap[w2.heap.size]? = some (.cells #[.string fn, .string ⟨#[105, 110, 116]⟩, .bool false, .bool false, .bool false, .bool false, .bool false, .slice none 0 0] 37 (0, 0)) := by
    rw [hW3, (below_box2 _ _ _).block _ (by simp)]; exact block_new _ _ rfl
  have kT : W3.heap[w2.heap.size + 1]? = some (.cells #[.string ⟨#[113, 117, 101, 114, 121]⟩, .string ⟨#[]⟩, .slice (some ⟨w2.heap.size, 0, none⟩) 1 1] 48 (0, 0)) := by
    rw [hW3, (below_box _ _).block _ (by simp)]; exact block_new _ _ (by simp)
  have nF : σ w2.heap.size = none := h.wf.fresh (Nat.le_refl _)
  have nT : (σ.add w2.heap.size 37 1) (w2.heap.size + 1) = none := by rw [Sh.add_ne _ _ _ _ _ (by omega)]; exact h.wf.fresh (by omega)
  have W1 : Wf W3 (σ.add w2.heap.size 37 1) (bdP 0) := h3.wf.add nF kF rfl (cells_one rfl (fieldCells _ _ fn ⟨#[105, 110, 116]⟩ false false false false false _ hfn (by decide) (sl_nil _ _ _)))
  have W2 : Wf W3 ((σ.add w2.heap.size 37 1).add (w2.heap.size + 1) 48 1) (bdP 0) := W1.add nT kT rfl (cells_one rfl (typeCells _ _ ⟨#[113, 117, 101, 114, 121]⟩ ⟨#[]⟩ _ (by decide) (fun _ => by simp [scalarB, isT, ByteArray.toList_eq]) (by decide) ⟨_, 1, 1, rfl, by decide, Nat.le_refl _, by simp [maxLen], Or.inr ⟨_, rfl, Sh.add_self _ _ _ _⟩⟩))
  have he : Ext σ ((σ.add w2.heap.size 37 1).add (w2.heap.size + 1) 48 1) := (Sh.add_ext nF).trans (Sh.add_ext nT)
  have npb : ((σ.add w2.heap.size 37 1).add (w2.heap.size + 1) 48 1) pb = none := by rw [Sh.add_ne _ _ _ _ _ (by omega), Sh.add_ne _ _ _ _ _ (by omega)]; exact h.npb
  have hk : ∀ x, x < W3.heap.size → x ≠ pb → wP.heap[x]? = W3.heap[x]? := fun x hx hn => hgr.block x hx (fun e => hn (Option.some.inj e))
  refine ⟨h3.rd.keep (hk rb (by omega) (by omega)) (hk cb (by omega) (by omega)) hgr.size, W2.keep fun b T m hb => hk b (W2.lt hb) (fun e => by subst e; rw [npb] at hb; cases hb), fun b T m hb => ?_, by rw [flatP_app]; exact hown, by simp [h.len], fun p hp => ?_, ?_, h3.only.grown hgr (fun x hx => by cases hx; exact Or.inr hpl.1), hrl, hcl⟩
  · unfold Sh.add at hb
    split at hb
    · omega
    · split at hb
      · omega
      · exact h.new b T m hb
  · rcases List.mem_append.1 hp with hp | hp
    · exact (h.ok p hp).ext he (Nat.le_refl _)
    · obtain rfl : p = ⟨nm, w2.heap.size + 1, 1, 1⟩ := by simpa using hp
      exact ⟨hnm, Nat.le_refl _, Nat.le_refl _, Nat.le_refl _, by simp [maxLen], Sh.add_self _ _ _ _⟩
  · rcases hg with rfl | rfl
    · exact npb
    · exact W2.fresh (Nat.le_refl _)
theorem PSt.join {w : World} {rb cb n : Nat} {wx wy : World} {σ σL : Sh} {q pb pc tb : Nat} {ps : List Pv} (h : PSt w rb cb n wx σ 0 q pb pc ps) (hL : Wf wy σL bdL) (hb : σL tb = some (48, 4)) (hn : ∀ b T m, σL b = some (T, m) → wx.heap.size ≤ b) (hy : Below wx.heap.size wx wy) :
    ∃ σ', RSt w rb cb n wy σ' σL 0 q pb pc tb ps := by
  have hp := h.below hy
  have hz := h.only.size
  have hpl := h.plt
  let σ' : Sh := fun b => match σL b with
    | some (T, m) => if T = 9 then some (9, m) else σ b
    | none => σ b
  have e1 : ∀ b m, σL b = some (9, m) → σ' b = some (9, m) := fun b m h => by simp only [σ', h, if_pos]
  have e2 : ∀ b T m, σL b = some (T, m) → T ≠ 9 → σ' b = σ b := fun b T m h hT => by simp only [σ', h, if_neg hT]
  have e3 : ∀ b, σL b = none → σ' b = σ b := fun b h => by simp only [σ', h]
  have he : Ext σ σ' := fun b T m hb => by
    have hlt := h.wf.lt hb
    cases e : σL b with
    | none => rw [e3 b e]; exact hb
    | some x => obtain ⟨T', m'⟩ := x; have := hn b T' m' e; omega
  have hcase : ∀ b T m, σ' b = some (T, m) → σ b = some (T, m) ∨ (T = 9 ∧ σL b = some (9, m)) := fun b T m hb => by
    cases e : σL b with
    | none => rw [e3 b e] at hb; exact Or.inl hb
    | some x =>
      obtain ⟨T', m'⟩ := x
      by_cases hT : T' = 9
      · subst hT; rw [e1 b m' e] at hb; cases hb; exact Or.inr ⟨rfl, rfl⟩
      · rw [e2 b T' m' e hT] at hb; exact Or.inl hb
  refine ⟨σ', ⟨hp.rd, fun b T m hb => ?_, fun b T m hb => ?_, hp.own, hp.len, fun p hq => (hp.ok p hq).ext he (Nat.le_refl _), ?_, hp.only, hp.rlt, hp.clt⟩, hL, hb, fun b T m hb => by have := hn b T m hb; omega, e1, fun b T m hb hT => ⟨?_, ?_⟩⟩
  · rcases hcase b T m hb with h1 | ⟨rfl, h1⟩
    · obtain ⟨cur, k1, k2, k3⟩ := hp.wf b T m h1
      exact ⟨cur, k1, k2, fun k v hv => (k3 k v hv).ext he (Bd.le.refl _)⟩
    · obtain ⟨cur, k1, k2, k3⟩ := hL b 9 m h1
      refine ⟨cur, k1, k2, fun k v hv => ?_⟩
      have := k3 k v hv
      simpa [CellOk] using this
  · rcases hcase b T m hb with h1 | ⟨rfl, h1⟩
    · exact h.new b T m h1
    · have := hn b 9 m h1; omega
  · cases e : σ' pb with
    | none => rfl
    | some x =>
      obtain ⟨T, m⟩ := x
      rcases hcase pb T m e with h1 | ⟨rfl, h1⟩
      · rw [h.npb] at h1; cases h1
      · have := hn pb 9 m h1; omega
  · rw [e2 b T m hb hT]
    exact h.wf.fresh (hn b T m hb)
  · have := hn b T m hb; omega
def fcell (fn fo : ByteArray) (l m fr hd sh : Bool) (na : Option Addr) (nl nc : Nat) : Array Value := #[.string fn, .string fo, .bool l, .bool m, .bool fr, .bool hd, .bool sh, .slice na nl nc]
structure RF (w : World) (rb cb n : Nat) (σL : Sh) (pb pc tb fx : Nat) (wx : World) (σ : Sh) (c q : Nat) (ps : List Pv) (fn fo : ByteArray) (l m fr hd sh : Bool) (na : Option Addr) (nl nc : Nat) : Prop where
  r : RSt w rb cb n wx σ σL c q pb pc tb ps
  f : FBx w wx σ pb fx (fcell fn fo l m fr hd sh na nl nc)
  nL : σL fx = none
  sl : SlOk σ 9 1 (.slice na nl nc)
section
variable {w : World} {rb cb n : Nat} {σL : Sh} {pb pc tb fx : Nat} {wx wy : World} {σ : Sh} {c q q' : Nat} {ps : List Pv} {fn fo : ByteArray} {l m fr hd sh : Bool} {na : Option Addr} {nl nc : Nat}
theorem RF.move (h : RF w rb cb n σL pb pc tb fx wx σ c q ps fn fo l m fr hd sh na nl nc) (hr : RdOk wy rb cb q') (ho : Only (· = rb) wx wy) : RF w rb cb n σL pb pc tb fx wy σ c q' ps fn fo l m fr hd sh na nl nc :=
  ⟨h.r.move hr ho, h.f.move h.r.p.rlt ho, h.nL, h.sl⟩
theorem RF.setH (h : RF w rb cb n σL pb pc tb fx wx σ c q ps fn fo l m fr hd sh na nl nc) (b : Bool) : RF w rb cb n σL pb pc tb fx (wx.setCell ⟨fx, 5, none⟩ (.bool b)) σ c q ps fn fo l m fr b sh na nl nc :=
  ⟨⟨h.r.p.setF h.f 5 _, h.r.l.setF h.f h.nL 5 _⟩, h.f.set 5 (.bool b), h.nL, h.sl⟩
theorem RF.setS (h : RF w rb cb n σL pb pc tb fx wx σ c q ps fn fo l m fr hd sh na nl nc) (b : Bool) : RF w rb cb n σL pb pc tb fx (wx.setCell ⟨fx, 6, none⟩ (.bool b)) σ c q ps fn fo l m fr hd b na nl nc :=
  ⟨⟨h.r.p.setF h.f 6 _, h.r.l.setF h.f h.nL 6 _⟩, h.f.set 6 (.bool b), h.nL, h.sl⟩
theorem RF.drew (h : RF w rb cb n σL pb pc tb fx wx σ c q ps fn fo l m fr hd sh na nl nc) : RF w rb cb n σL pb pc tb fx wx.drew σ c q ps fn fo l m fr hd sh na nl nc :=
  h.move (h.r.p.rd.keep rfl rfl (Nat.le_refl _)) ⟨rfl, rfl, rfl, Nat.le_refl _, fun _ _ _ => rfl⟩
theorem RF.cell (h : RF w rb cb n σL pb pc tb fx wx σ c q ps fn fo l m fr hd sh na nl nc) : wx.cell? ⟨fx, 0, none⟩ = some (.string fn) ∧ wx.cell? ⟨fx, 1, none⟩ = some (.string fo) ∧ wx.cell? ⟨fx, 2, none⟩ = some (.bool l) ∧ wx.cell? ⟨fx, 3, none⟩ = some (.bool m) ∧ wx.cell? ⟨fx, 4, none⟩ = some (.bool fr) ∧ wx.cell? ⟨fx, 5, none⟩ = some (.bool hd) ∧ wx.cell? ⟨fx, 6, none⟩ = some (.bool sh) ∧ wx.cell? ⟨fx, 7, none⟩ = some (.slice na nl nc) ∧ wx.frozen? ⟨fx, 5, none⟩ = false ∧ wx.frozen? ⟨fx, 6, none⟩ = false := by
  have hb := h.f.box
  unfold fcell at hb
  exact ⟨(box_at hb 0 (by simp)).1, (box_at hb 1 (by simp)).1, (box_at hb 2 (by simp)).1, (box_at hb 3 (by simp)).1, (box_at hb 4 (by simp)).1, (box_at hb 5 (by simp)).1, (box_at hb 6 (by simp)).1, (box_at hb 7 (by simp)).1, (box_at hb 5 (by simp)).2, (box_at hb 6 (by simp)).2⟩
theorem RSt.box (h : RSt w rb cb n wx σ σL c q pb pc tb ps) (hsl : SlOk σ 9 1 (.slice na nl nc)) (hx : wx.heap.size = fx) : RF w rb cb n σL pb pc tb fx (wx.alloc (.cells #[.string fn, .string fo, .bool l, .bool m, .bool fr, .bool hd, .bool sh, .slice na nl nc] 37)) σ c q ps fn fo l m fr hd sh na nl nc := by
  subst hx
  obtain ⟨h1, h2, h3, h4⟩ := h.fresh (Nat.le_refl wx.heap.size)
  exact ⟨h.below (below_box _ _), ⟨block_new _ _ rfl, h1, h3, h4⟩, h2, hsl⟩
theorem RF.give (h : RF w rb cb n σL pb pc tb fx wx σ c q ps fn fo l m fr hd sh na nl nc) (hc : c ≤ 1000) {i : Nat} (hi : i < n) {p : Pv} (hp : PvOk σ (bdP c) p) {nm : ByteArray} (hnm : nm.size ≤ 12) (hsc : scalarB nm = false) (hfn : fn.size ≤ 12) (hfo : fo.size ≤ 12) :
    Calls Try.prog 56 #[.agg #[.string p.s, .slice (some ⟨p.b, 0, none⟩) p.len p.cap], .string nm, .agg #[.string fn, .string fo, .bool l, .bool m, .bool fr, .bool hd, .bool sh, .slice na nl nc]] wx fun e wy => ∃ (p' : Pv) (σ' : Sh), e = .returned (.agg #[.string p'.s, .slice (some ⟨p'.b, 0, none⟩) p'.len p'.cap]) ∧ (∃ v0 v1, wy.cell? ⟨pb, i * 2, none⟩ = some v0 ∧ wy.cell? ⟨pb, i * 2 + 1, none⟩ = some v1 ∧ wy.frozen? ⟨pb, i * 2, none⟩ = false ∧ wy.frozen? ⟨pb, i * 2 + 1, none⟩ = false) ∧
      Hid (RF w rb cb n σL pb pc tb fx ((wy.setCell ⟨pb, i * 2, none⟩ (.string p'.s)).setCell ⟨pb, i * 2 + 1, none⟩ (.slice (some ⟨p'.b, 0, none⟩) p'.len p'.cap)) σ' (c + 1) q (ps.set i p') fn fo l m fr hd sh na nl nc ∧ wy.heap[tb]? = wx.heap[tb]? ∧ tb ≠ pb ∧ wy.heap[fx]? = wx.heap[fx]? ∧ fx ≠ pb) := by
  refine (give_call h.r hc hi hp hnm hsc hfn hfo h.sl).mono ?_
  rintro e wy ⟨p', σ', rfl, h1, h2⟩
  obtain ⟨g1, g2, g3, g4, g5⟩ := h2.out
  exact ⟨p', σ', rfl, h1, ⟨⟨g1, g2 _ _ h.f, h.nL, h.sl.ext g3 (Nat.le_refl _)⟩, (g4 _ _ _ h.r.l.blk).1, (g4 _ _ _ h.r.l.blk).2, g5 _ _ h.f, h.f.ne⟩⟩
end
end Go.Proofs.Ytdohgkokoicjlaa
namespace Go.Proofs.Ytdohgkokoicjlaa
open Go.RowKit
theorem word_far (w : World) : Calls Try.prog 69 #[.int .u8 4] w fun e w' => e = .returned (.string ⟨#[102, 97, 114]⟩) ∧ w = w' := by
  go_enter Try.func69, Try.ntmps69
  go_wp2_with fail
  go_ret
  exact ⟨rfl, rfl⟩
theorem word_hidden (w : World) : Calls Try.prog 69 #[.int .u8 8] w fun e w' => e = .returned (.string ⟨#[104, 105, 100, 100, 101, 110]⟩) ∧ w = w' := by
  go_enter Try.func69, Try.ntmps69
  go_wp2_with fail
  go_ret
  exact ⟨rfl, rfl⟩
theorem word_shared (w : World) : Calls Try.prog 69 #[.int .u8 16] w fun e w' => e = .returned (.string ⟨#[115, 104, 97, 114, 101, 100]⟩) ∧ w = w' := by
  go_enter Try.func69, Try.ntmps69
  go_wp2_with fail
  go_ret
  exact ⟨rfl, rfl⟩
set_option maxHeartbeats 800000 in
theorem ofText_any (nm of : ByteArray) (l m fr hi sh : Bool) (needs : List ByteArray) (na : Option Addr) (nl nc : Nat) (w : World) (hs : of.size ≤ 1048576) :
    Calls Try.prog 67 #[.agg #[.int .u8 (bitsF l m fr hi sh), .string nm, .string of, .bool l, .bool m, .bool fr, .bool hi, .bool sh, .slice na nl nc]] w fun e w' => e = .returned (.string (ofB ⟨nm, of, l, m, fr, hi, sh, needs⟩)) ∧ Below w.heap.size w w' := by
  have h1 := fun w => hasAll_any (bitsF l m fr hi sh) 1 w
  have h2 := fun w => hasAll_any (bitsF l m fr hi sh) 2 w
  rw [bits_list] at h1
  rw [bits_must] at h2
  generalize bitsF l m fr hi sh = x at *
  have b1 : of.size + 1 ≤ 9223372036854775807 := by omega
  have b2 : of.size + 1 + 1 ≤ 9223372036854775807 := by omega
  have b3 : 1 + of.size + 1 + 1 ≤ 9223372036854775807 := by omega
  have b4 : 1 + of.size + 1 ≤ 9223372036854775807 := by omega
  have b5 : 1 + of.size ≤ 9223372036854775807 := by omega
  cases l <;> cases m
  all_goals
    go_enter Try.func67, Try.ntmps67
    go_wp2_with (first | (go_at_call_of 68 (Value.int IntKind.u8 1); refine (h1 _).mono ?_; rintro e w' ⟨rfl, rfl⟩) | (go_at_call_of 68 (Value.int IntKind.u8 2); refine (h2 _).mono ?_; rintro e w' ⟨rfl, rfl⟩))
    go_ret
    exact ⟨rfl, below_box _ _⟩
end Go.Proofs.Ytdohgkokoicjlaa
