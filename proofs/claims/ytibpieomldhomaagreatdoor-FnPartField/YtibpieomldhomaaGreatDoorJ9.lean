import Derived.Test.YtibpieomldhomaaGreatDoorJ8
import Derived.Test.YtibpieomldhomaaGreatDoorJ5
namespace Go.Proofs.YtibpieomldhomaaGreatDoor
set_option linter.unusedSimpArgs false
set_option linter.unusedVariables false
open Go.RowKit Go.Maps

/-- The copy in its box. -/
structure XSt (w : World) (rb cb XB : Nat) (wx : World) (σ : Sh) (B : Bd) (q : Nat) (s : ByteArray) (tb len cap : Nat) : Prop where
  rd : RdOk wx rb cb q
  rbox : wx.heap[w.heap.size + 1]? = some (.cells #[.string ⟨#[]⟩, .slice none 0 0] 25 (0, 0))
  xb : wx.heap[XB]? = some (.cells #[.string s, .slice (some ⟨tb, 0, none⟩) len cap] 25 (0, 0))
  gt : w.heap.size + 1 < XB
  wf : Wf wx σ B
  new : ∀ b T n, σ b = some (T, n) → w.heap.size + 1 < b ∧ b ≠ XB
  blk : σ tb = some (40, cap)
  le : len ≤ cap
  cm : cap ≤ maxLen
  only : Only (· = rb) w wx
  rlt : rb < w.heap.size
  clt : cb < w.heap.size
  sm : s.size ≤ 12
/-- A box beside it. -/
structure Box (w wx : World) (σ : Sh) (XB N : Nat) (cs : Array Value) (T : TypeId) : Prop where
  box : wx.heap[N]? = some (.cells cs T (0, 0))
  nil : σ N = none
  ne : N ≠ XB
  gt : w.heap.size + 1 < N
section
variable {w : World} {rb cb XB : Nat} {wx wy : World} {σ σ' : Sh} {B B' : Bd} {q q' : Nat} {s : ByteArray} {tb len cap N : Nat} {cs : Array Value} {T : TypeId}
/-- What may change: the reader, blocks of σ, new ones. -/
structure Chg (rb : Nat) (wx wy : World) (σ σ' : Sh) : Prop where
  ext : Ext σ σ'
  same : ∀ x, x < wx.heap.size → σ' x = σ x
  keep : ∀ x, x < wx.heap.size → σ x = none → x ≠ rb → wy.heap[x]? = wx.heap[x]?
  size : wx.heap.size ≤ wy.heap.size
  os : wy.os = wx.os
  tape : wy.tape = wx.tape
  output : wy.output = wx.output
theorem Chg.below (rb : Nat) (σ : Sh) (h : Below wx.heap.size wx wy) : Chg rb wx wy σ σ := ⟨Ext.refl _, fun _ _ => rfl, fun x hx _ _ => h.block x hx, h.size, h.os, h.tape, h.output⟩
theorem Chg.pick (σ : Sh) (h : Only (· = rb) wx wy) : Chg rb wx wy σ σ := ⟨Ext.refl _, fun _ _ => rfl, fun x hx _ hn => h.block x hx hn, h.size, h.os, h.tape, h.output⟩
theorem Chg.trans {wz : World} {σ'' : Sh} (h : Chg rb wx wy σ σ') (k : Chg rb wy wz σ' σ'') : Chg rb wx wz σ σ'' :=
  ⟨h.ext.trans k.ext, fun x hx => (k.same x (Nat.lt_of_lt_of_le hx h.size)).trans (h.same x hx), fun x hx hn hr => (k.keep x (Nat.lt_of_lt_of_le hx h.size) (by rw [h.same x hx]; exact hn) hr).trans (h.keep x hx hn hr), Nat.le_trans h.size k.size, k.os.trans h.os, k.tape.trans h.tape, k.output.trans h.output⟩
theorem Chg.set (σ : Sh) {b n i : Nat} {T : TypeId} (hb : σ b = some (T, n)) (v : Value) : Chg rb wx (wx.setCell ⟨b, i, none⟩ v) σ σ :=
  ⟨Ext.refl _, fun _ _ => rfl, fun x hx hn _ => Below.heap_setCell _ _ _ _ (fun e => by have e : x = b := e; subst e; rw [hn] at hb; cases hb), by rw [size_set]; exact Nat.le_refl _, rfl, rfl, rfl⟩
theorem Chg.grown {W : World} {row : Option Nat} {σ1 : Sh} (h : Chg rb wx W σ σ1) (hg : W.grownBy wy row) (hr : ∀ k, row = some k → ∃ T n, σ1 k = some (T, n)) (he : Ext σ1 σ') (hs : ∀ x, x < W.heap.size → σ' x = σ1 x) : Chg rb wx wy σ σ' :=
  h.trans ⟨he, hs, fun x hx hn _ => hg.block x hx (fun e => by obtain ⟨T, n, h1⟩ := hr x e.symm; rw [hn] at h1; cases h1), hg.size, hg.os, hg.tape, hg.output⟩
theorem XSt.lt (h : XSt w rb cb XB wx σ B q s tb len cap) : XB < wx.heap.size := (Array.getElem?_eq_some_iff.1 h.xb).1
theorem XSt.chg (h : XSt w rb cb XB wx σ B q s tb len cap) (c : Chg rb wx wy σ σ') (hw : Wf wy σ' B') (hr : RdOk wy rb cb q') : XSt w rb cb XB wy σ' B' q' s tb len cap := by
  have hrl := h.rlt
  have hlt := h.lt
  have hg := h.gt
  have n : ∀ x, x ≤ w.heap.size + 1 → σ x = none := fun x hx => by
    cases e : σ x with
    | none => rfl
    | some y => obtain ⟨T, m⟩ := y; have := (h.new x T m e).1; omega
  have nX : σ XB = none := by
    cases e : σ XB with
    | none => rfl
    | some y => obtain ⟨T, m⟩ := y; exact absurd rfl (h.new XB T m e).2
  refine ⟨hr, (c.keep _ (by omega) (n _ (by omega)) (by omega)).trans h.rbox, (c.keep _ hlt nX (by omega)).trans h.xb, hg, hw, fun b T m hb => ?_, c.ext _ _ _ h.blk, h.le, h.cm, ⟨c.os.trans h.only.os, c.tape.trans h.only.tape, c.output.trans h.only.output, Nat.le_trans h.only.size c.size, fun x hx hn => (c.keep x (Nat.lt_of_lt_of_le hx h.only.size) (n x (by omega)) hn).trans (h.only.block x hx hn)⟩, hrl, h.clt, h.sm⟩
  rcases Nat.lt_or_ge b wx.heap.size with h1 | h1
  · rw [c.same b h1] at hb; exact h.new b T m hb
  · exact ⟨by omega, by omega⟩
/-- The reader stays where the change leaves it. -/
theorem XSt.rdk (h : XSt w rb cb XB wx σ B q s tb len cap) (c : Chg rb wx wy σ σ') (hr : wy.heap[rb]? = wx.heap[rb]?) : RdOk wy rb cb q := by
  have hn : σ cb = none := by
    cases e : σ cb with
    | none => rfl
    | some y => obtain ⟨T, m⟩ := y; have := (h.new cb T m e).1; have := h.clt; omega
  exact h.rd.keep hr (c.keep cb h.rd.lt.2.1 hn (Ne.symm h.rd.lt.2.2)) c.size
theorem XSt.lowNil (h : XSt w rb cb XB wx σ B q s tb len cap) {x : Nat} (hx : x ≤ w.heap.size + 1) : σ x = none := by
  cases e : σ x with
  | none => rfl
  | some y => obtain ⟨T, m⟩ := y; have := (h.new x T m e).1; omega
theorem XSt.below (h : XSt w rb cb XB wx σ B q s tb len cap) (hb : Below wx.heap.size wx wy) : XSt w rb cb XB wy σ B q s tb len cap :=
  h.chg (Chg.below rb σ hb) (h.wf.below hb) (h.rdk (Chg.below rb σ hb) (hb.block _ h.rd.lt.1))
theorem XSt.move (h : XSt w rb cb XB wx σ B q s tb len cap) (hr : RdOk wy rb cb q') (ho : Only (· = rb) wx wy) : XSt w rb cb XB wy σ B q' s tb len cap :=
  h.chg (Chg.pick σ ho) (h.wf.keep fun b T n hb => ho.block b (h.wf.lt hb) (by have := (h.new b T n hb).1; have := h.rlt; omega)) hr
theorem Box.lt (h : Box w wx σ XB N cs T) : N < wx.heap.size := (Array.getElem?_eq_some_iff.1 h.box).1
theorem Box.chg (h : Box w wx σ XB N cs T) (hr : rb < w.heap.size) (c : Chg rb wx wy σ σ') : Box w wy σ' XB N cs T :=
  ⟨(c.keep N h.lt h.nil (by have := h.gt; omega)).trans h.box, by rw [c.same N h.lt]; exact h.nil, h.ne, h.gt⟩
theorem Box.set (h : Box w wx σ XB N cs T) (j : Nat) (v : Value) : Box w (wx.setCell ⟨N, j, none⟩ v) σ XB N (cs.setIfInBounds j v) T := ⟨set_box h.box j v, h.nil, h.ne, h.gt⟩
/-- Another box is written. -/
theorem Box.other (h : Box w wx σ XB N cs T) {M j : Nat} (hM : N ≠ M) (v : Value) : Box w (wx.setCell ⟨M, j, none⟩ v) σ XB N cs T := ⟨(Below.heap_setCell _ _ _ _ hM).trans h.box, h.nil, h.ne, h.gt⟩
/-- A box is written: the copy stays. -/
theorem XSt.boxed (h : XSt w rb cb XB wx σ B q s tb len cap) (b : Box w wx σ XB N cs T) (j : Nat) (v : Value) : XSt w rb cb XB (wx.setCell ⟨N, j, none⟩ v) σ B q s tb len cap := by
  have hg := b.gt
  have hk : ∀ x, x ≠ N → (wx.setCell ⟨N, j, none⟩ v).heap[x]? = wx.heap[x]? := fun x hx => Below.heap_setCell _ _ _ _ hx
  have hrl := h.rlt
  have hcl := h.clt
  exact ⟨h.rd.keep (hk rb (by omega)) (hk cb (by omega)) (by rw [size_set]; exact Nat.le_refl _), (hk _ (by omega)).trans h.rbox, (hk _ (Ne.symm b.ne)).trans h.xb, h.gt, h.wf.keep fun x T' n hx => hk x (fun e => by subst e; rw [b.nil] at hx; cases hx), h.new, h.blk, h.le, h.cm, h.only.set N j (Or.inr (by omega)) v, hrl, hcl, h.sm⟩
/-- A new box. -/
theorem XSt.newBox (h : XSt w rb cb XB wx σ B q s tb len cap) (hN : wx.heap.size = N) (cs : Array Value) (T : TypeId) : XSt w rb cb XB (wx.alloc (.cells cs T)) σ B q s tb len cap ∧ Box w (wx.alloc (.cells cs T)) σ XB N cs T := by
  subst hN
  exact ⟨h.below (below_box _ _), ⟨block_new _ _ rfl, h.wf.fresh (Nat.le_refl _), by have := h.lt; omega, by have := h.lt; have := h.gt; omega⟩⟩
/-- A cell of known memory is written. -/
theorem XSt.put (h : XSt w rb cb XB wx σ B q s tb len cap) {b n : Nat} {T : TypeId} (hb : σ b = some (T, n)) (j : Nat) (v : Value) (hv : CellOk σ B T (j % wide T) v) : XSt w rb cb XB (wx.setCell ⟨b, j, none⟩ v) σ B q s tb len cap := by
  have hne : rb ≠ b := by have := (h.new b T n hb).1; have := h.rlt; omega
  exact h.chg (Chg.set σ hb v) (h.wf.set hb j v hv) (h.rdk (Chg.set σ hb v) (Below.heap_setCell _ _ _ _ hne))
theorem Box.put (h : Box w wx σ XB N cs T) (hr : rb < w.heap.size) {b n : Nat} {T' : TypeId} (hb : σ b = some (T', n)) (j : Nat) (v : Value) : Box w (wx.setCell ⟨b, j, none⟩ v) σ XB N cs T := h.chg hr (Chg.set (rb := rb) σ hb v)
/-- The copy's box is written. -/
theorem XSt.name (h : XSt w rb cb XB wx σ B q s tb len cap) (s' : ByteArray) (hs : s'.size ≤ 12) : XSt w rb cb XB (wx.setCell ⟨XB, 0, none⟩ (.string s')) σ B q s' tb len cap := by
  have hg := h.gt
  have hk : ∀ x, x ≠ XB → (wx.setCell ⟨XB, 0, none⟩ (.string s')).heap[x]? = wx.heap[x]? := fun x hx => Below.heap_setCell _ _ _ _ hx
  have hrl := h.rlt
  have hcl := h.clt
  refine ⟨h.rd.keep (hk rb (by omega)) (hk cb (by omega)) (by rw [size_set]; exact Nat.le_refl _), (hk _ (by omega)).trans h.rbox, ?_, h.gt, h.wf.keep fun x T' n hx => hk x (h.new x T' n hx).2, h.new, h.blk, h.le, h.cm, h.only.set XB 0 (Or.inr (by omega)) _, hrl, hcl, hs⟩
  rw [set_box h.xb 0 _]; rfl
theorem XSt.types (h : XSt w rb cb XB wx σ B q s tb len cap) {tb' len' cap' : Nat} (hb : σ tb' = some (40, cap')) (hl : len' ≤ cap') (hc : cap' ≤ maxLen) : XSt w rb cb XB (wx.setCell ⟨XB, 1, none⟩ (.slice (some ⟨tb', 0, none⟩) len' cap')) σ B q s tb' len' cap' := by
  have hg := h.gt
  have hk : ∀ x, x ≠ XB → (wx.setCell ⟨XB, 1, none⟩ (.slice (some ⟨tb', 0, none⟩) len' cap')).heap[x]? = wx.heap[x]? := fun x hx => Below.heap_setCell _ _ _ _ hx
  have hrl := h.rlt
  have hcl := h.clt
  refine ⟨h.rd.keep (hk rb (by omega)) (hk cb (by omega)) (by rw [size_set]; exact Nat.le_refl _), (hk _ (by omega)).trans h.rbox, ?_, h.gt, h.wf.keep fun x T' n hx => hk x (h.new x T' n hx).2, h.new, hb, hl, hc, h.only.set XB 1 (Or.inr (by omega)) _, hrl, hcl, h.sm⟩
  rw [set_box h.xb 1 _]; rfl
theorem XSt.le' (h : XSt w rb cb XB wx σ B q s tb len cap) (hB : B.le B') : XSt w rb cb XB wx σ B' q s tb len cap :=
  ⟨h.rd, h.rbox, h.xb, h.gt, h.wf.le hB, h.new, h.blk, h.le, h.cm, h.only, h.rlt, h.clt, h.sm⟩
end
/-- A field is put in another's place. -/
theorem XSt.put8 {w : World} {rb cb XB : Nat} {wx : World} {σ : Sh} {B : Bd} {q : Nat} {s : ByteArray} {tb len cap : Nat} (h : XSt w rb cb XB wx σ B q s tb len cap) {N k n : Nat} (hN : σ N = some (30, n)) (fn fo : ByteArray) (l m fr hd sh : Bool) (nv : Value) (h1 : fn.size ≤ 12) (h2 : fo.size ≤ 12) (h3 : SlOk σ 9 B.nn nv) (Y : World) (hY : Y = ((((((((wx.setCell ⟨N, k * 8, none⟩ (.string fn)).setCell ⟨N, k * 8 + 1, none⟩ (.string fo)).setCell ⟨N, k * 8 + 2, none⟩ (.bool l)).setCell ⟨N, k * 8 + 3, none⟩ (.bool m)).setCell ⟨N, k * 8 + 4, none⟩ (.bool fr)).setCell ⟨N, k * 8 + 5, none⟩ (.bool hd)).setCell ⟨N, k * 8 + 6, none⟩ (.bool sh)).setCell ⟨N, k * 8 + 7, none⟩ nv)) :
    XSt w rb cb XB Y σ B q s tb len cap ∧ ∀ M cs T, Box w wx σ XB M cs T → Box w Y σ XB M cs T := by
  have hm : ∀ j, j < 8 → (k * 8 + j) % wide 30 = j := fun j hj => by rw [wideF]; omega
  have hc := fieldCells σ B fn fo l m fr hd sh nv h1 h2 h3
  have qq : ∀ j (hj : j < 8) v, (#[.string fn, .string fo, .bool l, .bool m, .bool fr, .bool hd, .bool sh, nv] : Array Value)[j]? = some v → CellOk σ B 30 ((k * 8 + j) % wide 30) v := fun j hj v hv => by rw [hm j hj]; exact hc j v hv
  have hr := h.rlt
  subst hY
  refine ⟨?_, fun M cs T hb => ?_⟩
  · exact (((((((h.put hN _ _ (qq 0 (by omega) _ rfl)).put hN _ _ (qq 1 (by omega) _ rfl)).put hN _ _ (qq 2 (by omega) _ rfl)).put hN _ _ (qq 3 (by omega) _ rfl)).put hN _ _ (qq 4 (by omega) _ rfl)).put hN _ _ (qq 5 (by omega) _ rfl)).put hN _ _ (qq 6 (by omega) _ rfl)).put hN _ _ (qq 7 (by omega) _ rfl)
  · exact (((((((hb.put hr hN _ _).put hr hN _ _).put hr hN _ _).put hr hN _ _).put hr hN _ _).put hr hN _ _).put hr hN _ _).put hr hN _ _
/-- A type is put in another's place. -/
theorem XSt.put3 {w : World} {rb cb XB : Nat} {wx : World} {σ : Sh} {B : Bd} {q : Nat} {s : ByteArray} {tb len cap : Nat} (h : XSt w rb cb XB wx σ B q s tb len cap) (k : Nat) (tn tk : ByteArray) (fv : Value) (h1 : tn.size ≤ 12) (hst : B.st = false) (h2 : tk.size ≤ 12) (h3 : SlOk σ 30 B.nf fv) (Y : World) (hY : Y = (((wx.setCell ⟨tb, k * 3, none⟩ (.string tn)).setCell ⟨tb, k * 3 + 1, none⟩ (.string tk)).setCell ⟨tb, k * 3 + 2, none⟩ fv)) :
    XSt w rb cb XB Y σ B q s tb len cap := by
  have hm : ∀ j, j < 3 → (k * 3 + j) % wide 40 = j := fun j hj => by rw [wideT]; omega
  have hc := typeCells σ B tn tk fv h1 (fun h => by rw [hst] at h; cases h) h2 h3
  have qq : ∀ j (hj : j < 3) v, (#[.string tn, .string tk, fv] : Array Value)[j]? = some v → CellOk σ B 40 ((k * 3 + j) % wide 40) v := fun j hj v hv => by rw [hm j hj]; exact hc j v hv
  subst hY
  exact ((h.put h.blk _ _ (qq 0 (by omega) _ rfl)).put h.blk _ _ (qq 1 (by omega) _ rfl)).put h.blk _ _ (qq 2 (by omega) _ rfl)
/-- A part in known memory, from some place on: all of it newer than w. -/
structure Laid (w w' : World) (σ : Sh) (B : Bd) (s : ByteArray) (tb off len c' cap : Nat) : Prop where
  wf : Wf w' σ B
  new : ∀ b T m, σ b = some (T, m) → w.heap.size ≤ b
  blk : σ tb = some (40, cap)
  inn : off + len ≤ cap
  few : len ≤ 115
  le : len ≤ c'
  nn : B.nn ≤ 2
  nf : B.nf ≤ 121
  sm : s.size ≤ 12
theorem Laid.keep {w w' w'' : World} {σ : Sh} {B : Bd} {s : ByteArray} {tb off len c' cap : Nat} (h : Laid w w' σ B s tb off len c' cap) (hk : ∀ b, w.heap.size ≤ b → b < w'.heap.size → w''.heap[b]? = w'.heap[b]?) : Laid w w'' σ B s tb off len c' cap :=
  ⟨h.wf.keep fun b T m hb => hk b (h.new b T m hb) (h.wf.lt hb), h.new, h.blk, h.inn, h.few, h.le, h.nn, h.nf, h.sm⟩
/-- The part that it is. -/
theorem Laid.part {w w' : World} {σ : Sh} {B : Bd} {s : ByteArray} {tb off len c' cap : Nat} (h : Laid w w' σ B s tb off len c' cap) :
    ∃ p : Pt, PRep w' (· < w'.heap.size) p (.agg #[.string s, .slice (some ⟨tb, off * 3, none⟩) len c']) ∧ szP p ≤ 900000 := by
  have hl := h.few
  have hnn := h.nn
  have hnf := h.nf
  obtain ⟨ts, hts, hP, -, hz, -⟩ := h.wf.types (off := off) (len := len) (c' := c') h.blk h.inn (by omega) h.le (by omega) (by omega) s h.sm
  refine ⟨⟨s, ts⟩, hP, Nat.le_trans hz ?_⟩
  have h1 : (25 + 13 * B.nn) * B.nf ≤ 51 * 121 := Nat.mul_le_mul (by omega) hnf
  have h2 : (25 + (25 + 13 * B.nn) * B.nf) * len ≤ (25 + 51 * 121) * 115 := Nat.mul_le_mul (by omega) hl
  omega
/-- What l11SpoilPart leaves: a part that is not great, the reader's block and new memory changed alone. -/
def SpEnd (w : World) (rb : Nat) (e : Ending) (w' : World) : Prop := ∃ (σ : Sh) (B : Bd) (s : ByteArray) (tb off len c' cap : Nat), e = .returned (.agg #[.string s, .slice (some ⟨tb, off * 3, none⟩) len c']) ∧ Laid w w' σ B s tb off len c' cap ∧ Only (· = rb) w w'
/-- The copy is handed back, from some place on. -/
theorem XSt.fin {w : World} {rb cb XB : Nat} {wx : World} {σ : Sh} {B : Bd} {q : Nat} {s : ByteArray} {tb len cap : Nat} (h : XSt w rb cb XB wx σ B q s tb len cap) (hB : B.nn ≤ 2) (hnf : B.nf ≤ 121) (off n c' : Nat) (hn : off + n ≤ len) (hl : n ≤ 115) (hc : n ≤ c') :
    SpEnd w rb (.returned (.agg #[.string s, .slice (some ⟨tb, off * 3, none⟩) n c'])) ((wx.setCell ⟨w.heap.size + 1, 0, none⟩ (.string s)).setCell ⟨w.heap.size + 1, 1, none⟩ (.slice (some ⟨tb, off * 3, none⟩) n c')) := by
  have hset : ∀ x, x ≠ w.heap.size + 1 → ((wx.setCell ⟨w.heap.size + 1, 0, none⟩ (.string s)).setCell ⟨w.heap.size + 1, 1, none⟩ (.slice (some ⟨tb, off * 3, none⟩) n c')).heap[x]? = wx.heap[x]? := fun x hx => by rw [Below.heap_setCell _ _ _ _ hx, Below.heap_setCell _ _ _ _ hx]
  have hw := h.wf.keep (w' := ((wx.setCell ⟨w.heap.size + 1, 0, none⟩ (.string s)).setCell ⟨w.heap.size + 1, 1, none⟩ (.slice (some ⟨tb, off * 3, none⟩) n c'))) fun x T m hx => hset x (by have := (h.new x T m hx).1; omega)
  exact ⟨σ, B, s, tb, off, n, c', cap, rfl, ⟨hw, fun b T m hb => by have := (h.new b T m hb).1; omega, h.blk, by have := h.le; omega, hl, hc, hB, hnf, h.sm⟩, (h.only.set _ _ (Or.inr (by omega)) _).set _ _ (Or.inr (by omega)) _⟩
/-- The same where the copy's own box was written last. -/
theorem XSt.finX {w : World} {rb cb XB : Nat} {wx : World} {σ : Sh} {B : Bd} {q : Nat} {s : ByteArray} {tb len cap : Nat} (h : XSt w rb cb XB wx σ B q s tb len cap) (hB : B.nn ≤ 2) (hnf : B.nf ≤ 121) (off n c' : Nat) (hn : off + n ≤ len) (hl : n ≤ 115) (hc : n ≤ c') (Y : World) (hY : Y = wx.setCell ⟨XB, 1, none⟩ (.slice (some ⟨tb, off * 3, none⟩) n c')) :
    SpEnd w rb (.returned (.agg #[.string s, .slice (some ⟨tb, off * 3, none⟩) n c'])) ((Y.setCell ⟨w.heap.size + 1, 0, none⟩ (.string s)).setCell ⟨w.heap.size + 1, 1, none⟩ (.slice (some ⟨tb, off * 3, none⟩) n c')) ∧ Y.heap[XB]? = some (.cells #[.string s, .slice (some ⟨tb, off * 3, none⟩) n c'] 25 (0, 0)) ∧ Y.heap[w.heap.size + 1]? = some (.cells #[.string ⟨#[]⟩, .slice none 0 0] 25 (0, 0)) := by
  subst hY
  have hg := h.gt
  have hset : ∀ x, x ≠ w.heap.size + 1 → x ≠ XB → (((wx.setCell ⟨XB, 1, none⟩ (.slice (some ⟨tb, off * 3, none⟩) n c')).setCell ⟨w.heap.size + 1, 0, none⟩ (.string s)).setCell ⟨w.heap.size + 1, 1, none⟩ (.slice (some ⟨tb, off * 3, none⟩) n c')).heap[x]? = wx.heap[x]? := fun x hx hx2 => by rw [Below.heap_setCell _ _ _ _ hx, Below.heap_setCell _ _ _ _ hx, Below.heap_setCell _ _ _ _ hx2]
  have hw := h.wf.keep (w' := (((wx.setCell ⟨XB, 1, none⟩ (.slice (some ⟨tb, off * 3, none⟩) n c')).setCell ⟨w.heap.size + 1, 0, none⟩ (.string s)).setCell ⟨w.heap.size + 1, 1, none⟩ (.slice (some ⟨tb, off * 3, none⟩) n c'))) fun x T m hx => hset x (by have := (h.new x T m hx).1; omega) (h.new x T m hx).2
  refine ⟨⟨σ, B, s, tb, off, n, c', cap, rfl, ⟨hw, fun b T m hb => by have := (h.new b T m hb).1; omega, h.blk, by have := h.le; omega, hl, hc, hB, hnf, h.sm⟩, ((h.only.set _ _ (Or.inr (by omega)) _).set _ _ (Or.inr (by omega)) _).set _ _ (Or.inr (by omega)) _⟩, ?_, (Below.heap_setCell _ _ _ _ (by show w.heap.size + 1 ≠ XB; omega)).trans h.rbox⟩
  rw [set_box h.xb 1 _]; rfl
end Go.Proofs.YtibpieomldhomaaGreatDoor

namespace Go.Proofs.YtibpieomldhomaaGreatDoor
set_option linter.unusedSimpArgs false
set_option linter.unusedVariables false
open Go.RowKit Go.Maps

/-! No list of texts, of fields or of types lies in a block that holds no text. -/
def NoText (w : World) (Q : Nat → Prop) : Prop := ∀ b, Q b → ∀ o s, w.cell? ⟨b, o, none⟩ ≠ some (.string s)
theorem Strs.avoid {w : World} {P Q : Nat → Prop} {ns : List ByteArray} {a : Option Addr} (h : Strs w P ns a) (hr : NoText w Q) : Strs w (fun b => P b ∧ ¬ Q b) ns a :=
  ⟨fun hn => by
    obtain ⟨b, off, e, hb, hc⟩ := h.1 hn
    exact ⟨b, off, e, ⟨hb, fun hq => hr _ hq _ _ (hc 0 (List.length_pos_iff.2 hn))⟩, hc⟩, h.2⟩
theorem FRep.avoid {w : World} {P Q : Nat → Prop} {f : F} {v : Value} (h : FRep w P f v) (hr : NoText w Q) : FRep w (fun b => P b ∧ ¬ Q b) f v := by
  obtain ⟨na, nc, h1, h2, h3⟩ := h
  exact ⟨na, nc, h1, h2.avoid hr, h3⟩
theorem FsRep.avoid {w : World} {P Q : Nat → Prop} {fs : List F} {a : Option Addr} (h : FsRep w P fs a) (hr : NoText w Q) : FsRep w (fun b => P b ∧ ¬ Q b) fs a := by
  obtain ⟨h0, C, hA, hR⟩ := h
  refine ⟨h0, C, fun hn => ?_, fun i hi => (hR i hi).avoid hr⟩
  obtain ⟨b, off, e, hb, hc⟩ := hA hn
  refine ⟨b, off, e, ⟨hb, fun hq => ?_⟩, hc⟩
  obtain ⟨na, nc, e1, -⟩ := hR 0 hn
  simp only [Value.agg.injEq, Array.mk.injEq, List.cons.injEq, and_true] at e1
  have := hc 0 hn 0 (by omega)
  rw [e1.1] at this
  exact hr _ hq _ _ this
theorem TRep.avoid {w : World} {P Q : Nat → Prop} {t : T} {v : Value} (h : TRep w P t v) (hr : NoText w Q) : TRep w (fun b => P b ∧ ¬ Q b) t v := by
  obtain ⟨fa, fc, h1, h2, h3⟩ := h
  exact ⟨fa, fc, h1, h2.avoid hr, h3⟩
theorem PRep.avoid {w : World} {P Q : Nat → Prop} {p : Pt} {v : Value} (h : PRep w P p v) (hr : NoText w Q) : PRep w (fun b => P b ∧ ¬ Q b) p v := by
  obtain ⟨ta, tc, h1, ⟨h0, C, hA, hR⟩, h3⟩ := h
  refine ⟨ta, tc, h1, ⟨h0, C, fun hn => ?_, fun i hi => (hR i hi).avoid hr⟩, h3⟩
  obtain ⟨b, off, e, hb, hc⟩ := hA hn
  refine ⟨b, off, e, ⟨hb, fun hq => ?_⟩, hc⟩
  obtain ⟨fa, fc, e1, -⟩ := hR 0 hn
  simp only [Value.agg.injEq, Array.mk.injEq, List.cons.injEq, and_true] at e1
  have := hc 0 hn 0 (by omega)
  rw [e1.1] at this
  exact hr _ hq _ _ this
/-- The same world, all blocks ahead of N emptied. -/
def blank (w : World) (N : Nat) : World := { w with heap := w.heap.mapIdx fun i o => if i < N then .cells #[] 0 else o }
theorem blank_at (w : World) (N k : Nat) (h : N ≤ k) : (blank w N).heap[k]? = w.heap[k]? := by
  have : ¬ k < N := by omega
  simp [blank, Array.getElem?_mapIdx, this]
theorem blank_none (w : World) (N : Nat) : NoText (blank w N) (· < N) := fun b hb o s hc => by
  have hb' : b < N := hb
  unfold World.cell? at hc
  rcases h : w.heap[b]? with _ | x
  · simp [blank, Array.getElem?_mapIdx, h] at hc
  · simp [blank, Array.getElem?_mapIdx, h, hb'] at hc
theorem blank_size (w : World) (N : Nat) : (blank w N).heap.size = w.heap.size := by simp [blank]
/-- The part that it is, in blocks that were laid since. -/
theorem Laid.partN {w w' : World} {σ : Sh} {B : Bd} {s : ByteArray} {tb off len c' cap : Nat} (h : Laid w w' σ B s tb off len c' cap) :
    ∃ p : Pt, PRep w' (fun b => w.heap.size ≤ b ∧ b < w'.heap.size) p (.agg #[.string s, .slice (some ⟨tb, off * 3, none⟩) len c']) ∧ szP p ≤ 900000 := by
  have hB : Laid w (blank w' w.heap.size) σ B s tb off len c' cap := h.keep fun b h1 _ => blank_at _ _ _ h1
  obtain ⟨p, hP, hz⟩ := hB.part
  refine ⟨p, ((hP.avoid (blank_none w' w.heap.size)).mono fun k hk => ?_).sub fun b hb => ?_, hz⟩
  · have : ¬ k < w.heap.size := hk.2
    exact (blank_at _ _ _ (by omega)).symm
  · have h1 : ¬ b < w.heap.size := hb.2
    have h2 : b < (blank w' w.heap.size).heap.size := hb.1
    rw [blank_size] at h2
    exact ⟨by omega, h2⟩
end Go.Proofs.YtibpieomldhomaaGreatDoor
