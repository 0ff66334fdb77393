import Derived.Test.YtokmgbidmnanpaaGreatDoorB8
import Derived.Deep.RegionHeld3
import Derived.Test.YtokmgbidmnanpaaGreatDoorB1
import Derived.Deep.RegionLaw
import Derived.Maps.AppendAt
import Derived.Test.YtokmgbidmnanpaaGreatDoorB2
import Derived.Test.YtokmgbidmnanpaaGreatDoorB6
set_option linter.unusedSimpArgs false
set_option linter.unusedVariables false
namespace Go.Proofs.YtokmgbidmnanpaaGreatDoor
open Go.RowKit Go.Maps
def fcs (fn fo : ByteArray) (l m fr h sh : Bool) (na : Option Addr) (nl nc : Nat) : Array Value := #[.string fn, .string fo, .bool l, .bool m, .bool fr, .bool h, .bool sh, .slice na nl nc]
structure GSt (w : World) (σ : Sh) (B : Bd) (s : ByteArray) (fc : Array Value) (len0 : Nat) (nm : ByteArray) (wx : World) (σ1 : Sh) (B1 : Bd) (b1 len1 cap1 : Nat) : Prop where
  pbox : wx.heap[w.heap.size]? = some (.cells #[.string s, .slice (some ⟨b1, 0, none⟩) len1 cap1] 43 (0, 0))
  fbox : wx.heap[w.heap.size + 1]? = some (.cells fc 54 (0, 0))
  rbox : wx.heap[w.heap.size + 1 + 1]? = some (.cells #[.string ⟨#[]⟩, .slice none 0 0] 43 (0, 0))
  wf : Wf wx σ1 B1
  ext : Ext σ σ1
  old : ∀ x, x < w.heap.size → σ1 x = σ x
  n0 : σ1 w.heap.size = none
  n1 : σ1 (w.heap.size + 1) = none
  n2 : σ1 (w.heap.size + 1 + 1) = none
  only : Only (Hot σ) w wx
  size : w.heap.size + 1 + 1 < wx.heap.size
  le : len0 ≤ len1
  le2 : len1 ≤ len0 + 2
  lc : len1 ≤ cap1
  cm : cap1 ≤ maxLen
  blk : σ1 b1 = some (52, cap1)
  has : TN wx b1 len1 nm
theorem GSt.below {w : World} {σ : Sh} {B : Bd} {s : ByteArray} {fc : Array Value} {len0 : Nat} {nm : ByteArray} {wx wy : World} {σ1 : Sh} {B1 : Bd} {b1 len1 cap1 : Nat} (h : GSt w σ B s fc len0 nm wx σ1 B1 b1 len1 cap1) (hb : Below wx.heap.size wx wy) : GSt w σ B s fc len0 nm wy σ1 B1 b1 len1 cap1 := by
  have hz := h.size
  have hk := hb.size
  refine ⟨(hb.block _ (by omega)).trans h.pbox, (hb.block _ (by omega)).trans h.fbox, (hb.block _ (by omega)).trans h.rbox, h.wf.below hb, h.ext, h.old, h.n0, h.n1, h.n2, h.only.trans (Only.of_below _ hb) (fun _ _ q => q), by omega, h.le, h.le2, h.lc, h.cm, h.blk, ?_⟩
  obtain ⟨i, hi, hc⟩ := h.has
  exact ⟨i, hi, (hb.cell (p := ⟨b1, i * 3, none⟩) (h.wf.lt h.blk)).trans hc⟩
theorem GSt.drew {w : World} {σ : Sh} {B : Bd} {s : ByteArray} {fc : Array Value} {len0 : Nat} {nm : ByteArray} {wx : World} {σ1 : Sh} {B1 : Bd} {b1 len1 cap1 : Nat} (h : GSt w σ B s fc len0 nm wx σ1 B1 b1 len1 cap1) : GSt w σ B s fc len0 nm wx.drew σ1 B1 b1 len1 cap1 :=
  h.below ⟨rfl, rfl, rfl, Nat.le_refl _, fun _ _ => rfl⟩
theorem GSt.row {w : World} {σ : Sh} {B : Bd} {s : ByteArray} {fc : Array Value} {len0 : Nat} {nm : ByteArray} {wx : World} {σ1 : Sh} {B1 : Bd} {b1 len1 cap1 : Nat} (h : GSt w σ B s fc len0 nm wx σ1 B1 b1 len1 cap1) (k : Nat) (hk : k < len1) :
    ∃ (n ky : ByteArray) (fa : Option Addr) (fl fp : Nat), wx.cell? ⟨b1, k * 3, none⟩ = some (.string n) ∧ wx.cell? ⟨b1, k * 3 + 1, none⟩ = some (.string ky) ∧ wx.cell? ⟨b1, k * 3 + 2, none⟩ = some (.slice fa fl fp) ∧ wx.frozen? ⟨b1, k * 3 + 2, none⟩ = false ∧ n.size ≤ 12 ∧ ky.size ≤ 12 ∧ fl ≤ B1.nf ∧ fl ≤ fp ∧ fp ≤ maxLen ∧ ((fa = none ∧ fl = 0 ∧ fp = 0) ∨ ∃ b, fa = some ⟨b, 0, none⟩ ∧ σ1 b = some (54, fp)) := by
  have hk2 : k < cap1 := Nat.lt_of_lt_of_le hk h.lc
  obtain ⟨v0, c0, o0, -⟩ := h.wf.cell h.blk k 0 hk2 (by rw [wideT]; omega)
  obtain ⟨v1, c1, o1, -⟩ := h.wf.cell h.blk k 1 hk2 (by rw [wideT]; omega)
  obtain ⟨v2, c2, o2, f2⟩ := h.wf.cell h.blk k 2 hk2 (by rw [wideT]; omega)
  rw [wideT] at c0 c1 c2 f2
  obtain ⟨n, rfl, z0, -⟩ : NmOk B1.st v0 := by simpa [CellOk] using o0
  obtain ⟨ky, rfl, z1⟩ : StOk v1 := by simpa [CellOk] using o1
  obtain ⟨fa, fl, fp, rfl, q1, q2, q3, q4⟩ : SlOk σ1 54 B1.nf v2 := by simpa [CellOk] using o2
  exact ⟨n, ky, fa, fl, fp, c0, c1, c2, f2, z0, z1, q1, q2, q3, q4⟩
set_option maxHeartbeats 400000 in
theorem l2Field_wf (w : World) (σ : Sh) (B : Bd) (n ky nm : ByteArray) (fa : Option Addr) (fl fp : Nat) (hW : Wf w σ B) (hn : n.size ≤ 12) (hk : ky.size ≤ 12) (h1 : fl ≤ B.nf) (h2 : fl ≤ fp) (h3 : fp ≤ maxLen) (h4 : (fa = none ∧ fl = 0 ∧ fp = 0) ∨ ∃ b, fa = some ⟨b, 0, none⟩ ∧ σ b = some (54, fp)) (hnn : B.nn ≤ 3) (hnf : B.nf ≤ 1000000) :
    Calls Tryz.prog 113 #[.agg #[.string n, .string ky, .slice fa fl fp], .string nm] w fun e w' => ∃ k : Int, e = .returned (.int .i64 k) ∧ -1 ≤ k ∧ k < fl ∧ Below w.heap.size w w' := by
  obtain ⟨a, c, fs, e, hF, hc, hl, -⟩ := hW.fields (N := B.nf) ⟨fa, fl, fp, rfl, h1, h2, h3, h4⟩ hnf hnn
  simp only [Value.slice.injEq] at e
  obtain ⟨rfl, rfl, rfl⟩ := e
  refine (l2Field_any ⟨n, ky, fs⟩ w w.heap.size _ nm ⟨_, _, rfl, hF, hc, by simp only [maxLen]; omega, by simp only [maxLen]; omega⟩ (Nat.le_refl _)).mono fun e w' h => ?_
  obtain ⟨he, hbl⟩ := h
  refine ⟨_, he, ?_, ?_, hbl⟩
  all_goals rcases firstTo_cases (fun i => (fth fs i).name.toList == nm.toList) fs.length with ⟨hx, hno⟩ | ⟨g, hx, hg, hyes, -⟩
  all_goals simp only [hx]
  all_goals omega
theorem GSt.put {w : World} {σ : Sh} {B : Bd} {s : ByteArray} {fc : Array Value} {len0 : Nat} {nm : ByteArray} {wx : World} {σ1 : Sh} {B1 : Bd} {b1 len1 cap1 : Nat} (h : GSt w σ B s fc len0 nm wx σ1 B1 b1 len1 cap1) {N k : Nat} {T : TypeId} {n : Nat} (hN : σ1 N = some (T, n)) (hT : T ≠ 9) (v : Value) (hv : CellOk σ1 B1 T (k % wide T) v) (hk : N = b1 → k % 3 ≠ 0) :
    GSt w σ B s fc len0 nm (wx.setCell ⟨N, k, none⟩ v) σ1 B1 b1 len1 cap1 := by
  have hz := h.size
  have e0 : w.heap.size ≠ N := fun e => by subst e; rw [h.n0] at hN; cases hN
  have e1 : w.heap.size + 1 ≠ N := fun e => by subst e; rw [h.n1] at hN; cases hN
  have e2 : w.heap.size + 1 + 1 ≠ N := fun e => by subst e; rw [h.n2] at hN; cases hN
  refine ⟨(Below.heap_setCell _ _ _ _ e0).trans h.pbox, (Below.heap_setCell _ _ _ _ e1).trans h.fbox, (Below.heap_setCell _ _ _ _ e2).trans h.rbox, h.wf.set hN k v hv, h.ext, h.old, h.n0, h.n1, h.n2, h.only.set N k ?_ v, by rw [size_set]; omega, h.le, h.le2, h.lc, h.cm, h.blk, ?_⟩
  · rcases Nat.lt_or_ge N w.heap.size with q | q
    · exact Or.inl ⟨T, n, by rw [← h.old N q]; exact hN, hT⟩
    · exact Or.inr q
  · obtain ⟨i, hi, hc⟩ := h.has
    refine ⟨i, hi, ?_⟩
    by_cases e : b1 = N
    · subst e
      have hne : (⟨b1, k, none⟩ : Addr) ≠ ⟨b1, i * 3, none⟩ := fun e => by
        simp only [Addr.mk.injEq, true_and, and_true] at e
        have := hk rfl
        omega
      rw [World.cell?_setCell_other _ _ _ _ hne]
      exact hc
    · exact (World.cell?_of_block (a := ⟨b1, i * 3, none⟩) (Below.heap_setCell _ _ _ _ e)).trans hc
theorem GSt.le' {w : World} {σ : Sh} {B : Bd} {s : ByteArray} {fc : Array Value} {len0 : Nat} {nm : ByteArray} {wx : World} {σ1 : Sh} {B1 B2 : Bd} {b1 len1 cap1 : Nat} (h : GSt w σ B s fc len0 nm wx σ1 B1 b1 len1 cap1) (hB : B1.le B2) : GSt w σ B s fc len0 nm wx σ1 B2 b1 len1 cap1 :=
  ⟨h.pbox, h.fbox, h.rbox, h.wf.le hB, h.ext, h.old, h.n0, h.n1, h.n2, h.only, h.size, h.le, h.le2, h.lc, h.cm, h.blk, h.has⟩
theorem GSt.grow {w : World} {σ : Sh} {B : Bd} {s : ByteArray} {fc : Array Value} {len0 : Nat} {nm : ByteArray} {wx W wP : World} {σ1 σ' : Sh} {B1 : Bd} {b1 len1 cap1 : Nat} (h0 : GSt w σ B s fc len0 nm wx σ1 B1 b1 len1 cap1) (hB : Below wx.heap.size wx W) {fa : Option Addr} {fl fp : Nat} (h4 : (fa = none ∧ fl = 0 ∧ fp = 0) ∨ ∃ b, fa = some ⟨b, 0, none⟩ ∧ σ1 b = some (54, fp))
    (q1 : Wf wP σ' B1) (q5 : Ext σ1 σ') (q6 : ∀ x, x < W.heap.size → σ' x = σ1 x) (q7 : W.grownBy wP (Value.slice fa fl fp).ownBlock) : GSt w σ B s fc len0 nm wP σ' B1 b1 len1 cap1 := by
  have h := h0.below hB
  have hz := h.size
  have hzP := q7.size
  have hrow : ∀ k, (Value.slice fa fl fp).ownBlock = some k → σ1 k = some (54, fp) := fun k hk => by
    rcases h4 with ⟨rfl, -, -⟩ | ⟨b, rfl, hb⟩
    · cases hk
    · cases hk; exact hb
  have hk : ∀ x, x < W.heap.size → (∀ n, σ1 x ≠ some (54, n)) → wP.heap[x]? = W.heap[x]? := fun x hx hn => q7.block x hx (fun e => hn _ (hrow x e.symm))
  refine ⟨(hk _ (by omega) (fun n => by rw [h.n0]; simp)).trans h.pbox, (hk _ (by omega) (fun n => by rw [h.n1]; simp)).trans h.fbox, (hk _ (by omega) (fun n => by rw [h.n2]; simp)).trans h.rbox, q1, h.ext.trans q5, fun x hx => by rw [q6 x (by omega)]; exact h.old x hx, by rw [q6 _ (by omega)]; exact h.n0, by rw [q6 _ (by omega)]; exact h.n1, by rw [q6 _ (by omega)]; exact h.n2, h.only.grown q7 (fun k hk => ?_), by omega, h.le, h.le2, h.lc, h.cm, q5 _ _ _ h.blk, ?_⟩
  · rcases Nat.lt_or_ge k w.heap.size with q | q
    · exact Or.inl ⟨_, _, by rw [← h.old k q]; exact hrow k hk, by decide⟩
    · exact Or.inr q
  · obtain ⟨i, hi, hc⟩ := h.has
    exact ⟨i, hi, (World.cell?_of_block (a := ⟨b1, i * 3, none⟩) (hk b1 (h.wf.lt h.blk) (fun n => by rw [h.blk]; simp))).trans hc⟩
theorem GSt.app {w : World} {σ : Sh} {B : Bd} {s : ByteArray} {fc : Array Value} {len0 : Nat} {nm : ByteArray} {wP : World} {σ' : Sh} {B1 B2 : Bd} {b1 len1 cap1 : Nat} (h : GSt w σ B s fc len0 nm wP σ' B1 b1 len1 cap1) {g n c k : Nat} (hg : σ' g = some (54, c)) (hn : n ≤ c) (hc : c ≤ maxLen) (hB : B1.le B2) (hn2 : n ≤ B2.nf) :
    GSt w σ B s fc len0 nm (wP.setCell ⟨b1, k * 3 + 2, none⟩ (.slice (some ⟨g, 0, none⟩) n c)) σ' B2 b1 len1 cap1 := by
  refine (h.le' hB).put h.blk (by decide) _ ?_ (fun _ => by omega)
  rw [wideT, show (k * 3 + 2) % 3 = 2 by omega]
  have : SlOk σ' 54 B2.nf (.slice (some ⟨g, 0, none⟩) n c) := ⟨_, n, c, rfl, hn2, hn, hc, Or.inr ⟨g, rfl, hg⟩⟩
  simpa [CellOk] using this
theorem GSt.put8 {w : World} {σ : Sh} {B : Bd} {s : ByteArray} {fc : Array Value} {len0 : Nat} {nm : ByteArray} {wx : World} {σ1 : Sh} {B1 : Bd} {b1 len1 cap1 : Nat} (h : GSt w σ B s fc len0 nm wx σ1 B1 b1 len1 cap1) {N k n : Nat} (hN : σ1 N = some (54, n)) (fn fo : ByteArray) (l m fr hd sh : Bool) (nv : Value) (h1 : fn.size ≤ 12) (h2 : fo.size ≤ 12) (h3 : SlOk σ1 9 B1.nn nv) :
    GSt w σ B s fc len0 nm ((((((((wx.setCell ⟨N, k * 8, none⟩ (.string fn)).setCell ⟨N, k * 8 + 1, none⟩ (.string fo)).setCell ⟨N, k * 8 + 2, none⟩ (.bool l)).setCell ⟨N, k * 8 + 3, none⟩ (.bool m)).setCell ⟨N, k * 8 + 4, none⟩ (.bool fr)).setCell ⟨N, k * 8 + 5, none⟩ (.bool hd)).setCell ⟨N, k * 8 + 6, none⟩ (.bool sh)).setCell ⟨N, k * 8 + 7, none⟩ nv) σ1 B1 b1 len1 cap1 := by
  have hb : N ≠ b1 := fun e => by subst e; rw [h.blk] at hN; simp at hN
  have hm : ∀ j, j < 8 → (k * 8 + j) % wide 54 = j := fun j hj => by rw [wideF]; omega
  have hc := fieldCells σ1 B1 fn fo l m fr hd sh nv h1 h2 h3
  have q : ∀ j (hj : j < 8) v, (#[.string fn, .string fo, .bool l, .bool m, .bool fr, .bool hd, .bool sh, nv] : Array Value)[j]? = some v → CellOk σ1 B1 54 ((k * 8 + j) % wide 54) v := fun j hj v hv => by rw [hm j hj]; exact hc j v hv
  exact (((((((h.put hN (by decide) _ (q 0 (by omega) _ rfl) (fun e => absurd e hb)).put hN (by decide) _ (q 1 (by omega) _ rfl) (fun e => absurd e hb)).put hN (by decide) _ (q 2 (by omega) _ rfl) (fun e => absurd e hb)).put hN (by decide) _ (q 3 (by omega) _ rfl) (fun e => absurd e hb)).put hN (by decide) _ (q 4 (by omega) _ rfl) (fun e => absurd e hb)).put hN (by decide) _ (q 5 (by omega) _ rfl) (fun e => absurd e hb)).put hN (by decide) _ (q 6 (by omega) _ rfl) (fun e => absurd e hb)).put hN (by decide) _ (q 7 (by omega) _ rfl) (fun e => absurd e hb)
end Go.Proofs.YtokmgbidmnanpaaGreatDoor
namespace Go.Proofs.YtokmgbidmnanpaaGreatDoor
open Go.RowKit
theorem FRep.vals {w : World} {P : Nat → Prop} {f : F} {nm of : ByteArray} {l m fr hi sh : Bool} {na : Option Addr} {nl nc : Nat} (h : FRep w P f (.agg #[.string nm, .string of, .bool l, .bool m, .bool fr, .bool hi, .bool sh, .slice na nl nc])) :
    nm = f.name ∧ of = f.of ∧ l = f.list ∧ m = f.must ∧ fr = f.far ∧ hi = f.hidden ∧ sh = f.shared ∧ nl = f.needs.length ∧ Strs w P f.needs na ∧ f.needs.length ≤ nc ∧ f.name.size ≤ maxLen ∧ f.of.size ≤ maxLen := by
  obtain ⟨e0, e1, e2, e3, e4, e5, e6, na', nc', e7, h1, h2, h3, h4⟩ := h.parts
  simp only [Value.string.injEq, Value.bool.injEq, Value.slice.injEq] at e0 e1 e2 e3 e4 e5 e6 e7
  obtain ⟨rfl, e8, rfl⟩ := e7
  exact ⟨e0, e1, e2, e3, e4, e5, e6, e8, h1, h2, h3, h4⟩
end Go.Proofs.YtokmgbidmnanpaaGreatDoor
namespace Go.Proofs.YtokmgbidmnanpaaGreatDoor
open Go.RowKit
theorem all_false {q : Nat → Bool} {n k : Nat} (hk : k < n) (h : q k = false) : (List.range n).all q = false := by
  cases e : (List.range n).all q
  · rfl
  · rw [List.all_eq_true] at e
    have := e k (by simpa using hk)
    rw [h] at this; cases this
def needOkF (t : T) (f : F) : Bool := needsB t f && !(f.far && f.shared)
def needOkTo (t : T) (n : Nat) : Bool := (List.range n).all fun i => needOkF t (fth t.fields i)
theorem needOkTo_succ (t : T) (n : Nat) : needOkTo t (n + 1) = (needOkTo t n && needOkF t (fth t.fields n)) := by simp [needOkTo, List.range_succ]
end Go.Proofs.YtokmgbidmnanpaaGreatDoor
namespace Go.Proofs.YtokmgbidmnanpaaGreatDoor
open Go.RowKit
theorem FsRep.at {w : World} {B : Nat} {fs : List F} {fa : Option Addr} (h : FsRep w (· < B) fs fa) (hB : B ≤ w.heap.size) (k : Nat) (hk : k < fs.length) : ∃ (b off : Nat) (na : Option Addr) (nc : Nat), fa = some ⟨b, off, none⟩ ∧
    FRep w (· < B) (fth fs k) (.agg #[.string (fth fs k).name, .string (fth fs k).of, .bool (fth fs k).list, .bool (fth fs k).must, .bool (fth fs k).far, .bool (fth fs k).hidden, .bool (fth fs k).shared, .slice na (fth fs k).needs.length nc]) ∧
    ∀ W, Below w.heap.size w W → W.cell? ⟨b, off + k * 8, none⟩ = some (.string (fth fs k).name) ∧ W.cell? ⟨b, off + k * 8 + 1, none⟩ = some (.string (fth fs k).of) ∧ W.cell? ⟨b, off + k * 8 + 2, none⟩ = some (.bool (fth fs k).list) ∧ W.cell? ⟨b, off + k * 8 + 3, none⟩ = some (.bool (fth fs k).must) ∧ W.cell? ⟨b, off + k * 8 + 4, none⟩ = some (.bool (fth fs k).far) ∧ W.cell? ⟨b, off + k * 8 + 5, none⟩ = some (.bool (fth fs k).hidden) ∧ W.cell? ⟨b, off + k * 8 + 6, none⟩ = some (.bool (fth fs k).shared) ∧ W.cell? ⟨b, off + k * 8 + 7, none⟩ = some (.slice na (fth fs k).needs.length nc) := by
  obtain ⟨-, C, hA, hr⟩ := h
  obtain ⟨b, off, rfl, hbB, hc⟩ := hA (by omega)
  have hkt := hr k hk
  obtain ⟨e0, e1, e2, e3, e4, e5, e6, na, nc, e7, -⟩ := (hr k hk).parts
  rw [e0, e1, e2, e3, e4, e5, e6, e7] at hkt
  refine ⟨b, off, na, nc, rfl, hkt, fun W hb => ?_⟩
  have hck : ∀ j, j < 8 → W.cell? ⟨b, off + k * 8 + j, none⟩ = some (C k j) := fun j hj => (hb.cell (p := ⟨b, off + k * 8 + j, none⟩) (by show b < _; omega)).trans (hc k hk j hj)
  have c0 : W.cell? ⟨b, off + k * 8, none⟩ = some (C k 0) := hck 0 (by omega)
  rw [c0, hck 1 (by omega), hck 2 (by omega), hck 3 (by omega), hck 4 (by omega), hck 5 (by omega), hck 6 (by omega), hck 7 (by omega), e0, e1, e2, e3, e4, e5, e6, e7]
  exact ⟨rfl, rfl, rfl, rfl, rfl, rfl, rfl, rfl⟩
def namesTo (ns : List ByteArray) (n : Nat) : Bool := (List.range n).all fun i => nameB (nth ns i)
theorem namesTo_succ (ns : List ByteArray) (n : Nat) : namesTo ns (n + 1) = (namesTo ns n && nameB (nth ns n)) := by simp [namesTo, List.range_succ]
def fieldNamesB (f : F) : Bool := nameB f.name && (scalarB f.of || nameB f.of) && namesTo f.needs f.needs.length
def fieldsNamesTo (fs : List F) (n : Nat) : Bool := (List.range n).all fun i => fieldNamesB (fth fs i)
theorem fieldsNamesTo_succ (fs : List F) (n : Nat) : fieldsNamesTo fs (n + 1) = (fieldsNamesTo fs n && fieldNamesB (fth fs n)) := by simp [fieldsNamesTo, List.range_succ]
def rootTo (fs : List F) (n : Nat) : Bool := (List.range n).all fun i => !isT (fth fs i).of [113, 117, 101, 114, 121]
theorem rootTo_succ (fs : List F) (n : Nat) : rootTo fs (n + 1) = (rootTo fs n && !isT (fth fs n).of [113, 117, 101, 114, 121]) := by simp [rootTo, List.range_succ]
end Go.Proofs.YtokmgbidmnanpaaGreatDoor
namespace Go.Proofs.YtokmgbidmnanpaaGreatDoor
open Go.RowKit
def typeNamesB (t : T) : Bool := nameB t.name && (t.key.toList.isEmpty || nameB t.key) && decide (0 < t.fields.length) && decide (t.fields.length ≤ 8) && fieldsNamesTo t.fields t.fields.length
end Go.Proofs.YtokmgbidmnanpaaGreatDoor
namespace Go.Proofs.YtokmgbidmnanpaaGreatDoor
open Go.RowKit
theorem TsRep.at {w : World} {B : Nat} {ts : List T} {ta : Option Addr} (h : TsRep w (· < B) ts ta) (hB : B ≤ w.heap.size) (k : Nat) (hk : k < ts.length) : ∃ (b off : Nat) (fa : Option Addr) (fc : Nat), ta = some ⟨b, off, none⟩ ∧
    TRep w (· < B) (tth ts k) (.agg #[.string (tth ts k).name, .string (tth ts k).key, .slice fa (tth ts k).fields.length fc]) ∧
    ∀ W, Below w.heap.size w W → W.cell? ⟨b, off + k * 3, none⟩ = some (.string (tth ts k).name) ∧ W.cell? ⟨b, off + k * 3 + 1, none⟩ = some (.string (tth ts k).key) ∧ W.cell? ⟨b, off + k * 3 + 2, none⟩ = some (.slice fa (tth ts k).fields.length fc) := by
  obtain ⟨-, C, hA, hr⟩ := h
  obtain ⟨b, off, rfl, hbB, hc⟩ := hA (by omega)
  have hkt := hr k hk
  obtain ⟨fa, fc, e0, e1, e2, -⟩ := (hr k hk).parts
  rw [e0, e1, e2] at hkt
  refine ⟨b, off, fa, fc, rfl, hkt, fun W hb => ?_⟩
  have hck : ∀ j, j < 3 → W.cell? ⟨b, off + k * 3 + j, none⟩ = some (C k j) := fun j hj => (hb.cell (p := ⟨b, off + k * 3 + j, none⟩) (by show b < _; omega)).trans (hc k hk j hj)
  have c0 : W.cell? ⟨b, off + k * 3, none⟩ = some (C k 0) := hck 0 (by omega)
  rw [c0, hck 1 (by omega), hck 2 (by omega), e0, e1, e2]
  exact ⟨rfl, rfl, rfl⟩
def knownF (p : Pt) (f : F) : Bool := decide (0 ≤ typeIx p f.of) || scalarB f.of
def knownTo (p : Pt) (fs : List F) (n : Nat) : Bool := (List.range n).all fun i => knownF p (fth fs i)
theorem knownTo_succ (p : Pt) (fs : List F) (n : Nat) : knownTo p fs (n + 1) = (knownTo p fs n && knownF p (fth fs n)) := by simp [knownTo, List.range_succ]
def hasRootB (p : Pt) : Bool := decide (0 < p.types.length) && isT (tth p.types 0).name [113, 117, 101, 114, 121] && (tth p.types 0).key.toList.isEmpty
end Go.Proofs.YtokmgbidmnanpaaGreatDoor
namespace Go.Proofs.YtokmgbidmnanpaaGreatDoor
open Go.RowKit
theorem fieldResultG (FW : World) (tmps : Array Value) (N : Nat) (ok : Bool) (v0 v1 v2 v3 v4 v5 v6 v7 : Value) (h6 : tmps.getD 6 undef = .pointer (some ⟨N, 0, none⟩)) (h7 : tmps.getD 7 undef = .bool ok)
    (d0 : FW.cell? ⟨N, 0, none⟩ = some v0) (d1 : FW.cell? ⟨N, 1, none⟩ = some v1) (d2 : FW.cell? ⟨N, 2, none⟩ = some v2) (d3 : FW.cell? ⟨N, 3, none⟩ = some v3) (d4 : FW.cell? ⟨N, 4, none⟩ = some v4) (d5 : FW.cell? ⟨N, 5, none⟩ = some v5) (d6 : FW.cell? ⟨N, 6, none⟩ = some v6) (d7 : FW.cell? ⟨N, 7, none⟩ = some v7) :
    (results Tryz.f74 tmps).run Tryz.prog FW = .ok (.tuple #[.agg #[v0, v1, v2, v3, v4, v5, v6, v7], .bool ok]) FW := by
  simp only [Array.getD_eq_getD_getElem?] at h6 h7
  simp [results, Tryz.results74, go_sem, h6, h7, d0, d1, d2, d3, d4, d5, d6, d7]
def getF (p : Pt) (s f : ByteArray) : F := if 0 ≤ typeIx p s then fieldOr (typeOr p s) f else F.zero
def getB (p : Pt) (s f : ByteArray) : Bool := decide (0 ≤ typeIx p s) && decide (0 ≤ fieldIx (typeOr p s) f)
set_option maxRecDepth 20000 in
set_option maxHeartbeats 3200000 in
theorem l2Get_any (p : Pt) (s f : ByteArray) (w : World) (B : Nat) (v : Value) (hP : PRep w (· < B) p v) (hB : B ≤ w.heap.size) :
    Calls Tryz.prog 74 #[v, .string s, .string f] w fun e w' => ∃ (nm of : ByteArray) (l m fr hi sh : Bool) (na : Option Addr) (nc : Nat),
      e = .returned (.tuple #[.agg #[.string nm, .string of, .bool l, .bool m, .bool fr, .bool hi, .bool sh, .slice na (getF p s f).needs.length nc], .bool (getB p s f)]) ∧ Below w.heap.size w w' ∧
      FRep w' (· < B) (getF p s f) (.agg #[.string nm, .string of, .bool l, .bool m, .bool fr, .bool hi, .bool sh, .slice na (getF p s f).needs.length nc]) := by
  have hP' := hP
  obtain ⟨pname, types⟩ := p
  obtain ⟨ta, tc, rfl, hK, hnc, hpn⟩ := hP
  simp only at hK hnc hpn hP'
  obtain ⟨X, hXe⟩ : ∃ X, X = ((w.alloc (.cells #[.string pname, .slice ta types.length tc] 43)).alloc (.cells #[.string ByteArray.empty, .string ByteArray.empty, .bool false, .bool false, .bool false, .bool false, .bool false, .slice none 0 0] 54)) := ⟨_, rfl⟩
  have PC : ∀ W, Below (w.heap.size + 1 + 1) X W → W.cell? ⟨w.heap.size, 0, none⟩ = some (.string pname) ∧ W.cell? ⟨w.heap.size, 1, none⟩ = some (.slice ta types.length tc) ∧ W.heap[w.heap.size + 1]? = some (.cells #[.string ByteArray.empty, .string ByteArray.empty, .bool false, .bool false, .bool false, .bool false, .bool false, .slice none 0 0] 54 (0, 0)) ∧ Below w.heap.size w W ∧ w.heap.size + 1 < W.heap.size := fun W h => by
    subst hXe
    have hz := h.size
    simp at hz
    have a : ∀ i (hi : i < 2), W.cell? ⟨w.heap.size, i, none⟩ = some #[Value.string pname, .slice ta types.length tc][i] := fun i hi => (h.cell (p := ⟨w.heap.size, i, none⟩) (by show w.heap.size < _; omega)).trans (((below_box _ _).cell (p := ⟨w.heap.size, i, none⟩) (by show w.heap.size < _; simp)).trans (box_new _ _ i (by simpa using hi)))
    have hb : W.heap[w.heap.size + 1]? = some (.cells #[.string ByteArray.empty, .string ByteArray.empty, .bool false, .bool false, .bool false, .bool false, .bool false, .slice none 0 0] 54 (0, 0)) := (h.block (w.heap.size + 1) (by omega)).trans (by have := heap_alloc_new (w.alloc (.cells #[.string pname, .slice ta types.length tc] 43)) (.cells #[.string ByteArray.empty, .string ByteArray.empty, .bool false, .bool false, .bool false, .bool false, .bool false, .slice none 0 0] 54); simpa using this)
    exact ⟨a 0 (by omega), a 1 (by omega), hb, (below_box2 w _ _).trans (h.mono (by omega)), by omega⟩
  have hT0 : Below (w.heap.size + 1 + 1) X ((w.alloc (.cells #[.string pname, .slice ta types.length tc] 43)).alloc (.cells #[.string ByteArray.empty, .string ByteArray.empty, .bool false, .bool false, .bool false, .bool false, .bool false, .slice none 0 0] 54)) := by rw [hXe]; exact Below.refl _ _
  clear hXe
  have hBW := fun W (h : Below (w.heap.size + 1 + 1) X W) => show B ≤ W.heap.size by have := (PC W h).2.2.2.2; omega
  have hI := fun W h => l2Type_any ⟨pname, types⟩ W B _ s (hP'.under ((PC W h).2.2.2.1.mono hB)) (hBW W h)
  have HTX : Hid (typeIx ⟨pname, types⟩ s = firstTo (fun i => (tth types i).name.toList == s.toList) types.length) := rfl
  simp only at hI
  rw [← HTX.out] at hI
  have I1 := hI _ hT0
  rcases firstTo_cases (fun i => (tth types i).name.toList == s.toList) types.length with ⟨hx, -⟩ | ⟨g, hx, hg, -, -⟩
  · rw [← HTX.out] at hx
    have HA : Hid (getF ⟨pname, types⟩ s f = F.zero ∧ getB ⟨pname, types⟩ s f = false) := ⟨by rw [getF, if_neg (by rw [hx]; omega)], by rw [getB, hx]; simp⟩
    rw [hx] at I1
    clear hx
    go_enter Tryz.func74, Tryz.ntmps74
    go_wp2_with (first
      | (
        go_at_call 112
        refine I1.mono ?_
        rintro e w1 ⟨rfl, hb1⟩
        have hT1 := hT0.trans (hb1.mono (by simp))
        obtain ⟨q0, q1, hbx, hw1, hz1⟩ := PC w1 hT1
        obtain ⟨a0, b0⟩ := box_at hbx 0 (by simp)
        obtain ⟨a1, b1⟩ := box_at hbx 1 (by simp)
        obtain ⟨a2, b2⟩ := box_at hbx 2 (by simp)
        obtain ⟨a3, b3⟩ := box_at hbx 3 (by simp)
        obtain ⟨a4, b4⟩ := box_at hbx 4 (by simp)
        obtain ⟨a5, b5⟩ := box_at hbx 5 (by simp)
        obtain ⟨a6, b6⟩ := box_at hbx 6 (by simp)
        obtain ⟨a7, b7⟩ := box_at hbx 7 (by simp)))
    obtain ⟨d0, d1, d2, d3, d4, d5, d6, d7⟩ := sets_cells hbx rfl (.string ⟨#[]⟩) (.string ⟨#[]⟩) (.bool false) (.bool false) (.bool false) (.bool false) (.bool false) (.slice none 0 0) _ rfl
    refine bodyPost_ret (fieldResultG _ _ (w.heap.size + 1) false (.string ⟨#[]⟩) (.string ⟨#[]⟩) (.bool false) (.bool false) (.bool false) (.bool false) (.bool false) (.slice none 0 0) rfl rfl d0 d1 d2 d3 d4 d5 d6 d7) rfl ?_
    rw [HA.out.1, HA.out.2]
    exact ⟨_, _, _, _, _, _, _, _, _, rfl, below_sets hw1 (Nat.le_succ _) _ _ _ _ _ _ _ _, FRep.zero _ _⟩
  rw [← HTX.out] at hx
  have hto : typeOr ⟨pname, types⟩ s = tth types g := by rw [typeOr, if_pos (by rw [hx]; omega), hx]; rfl
  have HA0 : Hid (getF ⟨pname, types⟩ s f = fieldOr (tth types g) f ∧ getB ⟨pname, types⟩ s f = decide (0 ≤ fieldIx (tth types g) f)) := ⟨by rw [getF, if_pos (by rw [hx]; omega), hto], by rw [getB, hx, hto]; simp⟩
  rw [hx] at I1
  clear hx hto
  obtain ⟨b, off, fa, fc, rfl, htr, hcs⟩ := hK.at hB g hg
  obtain ⟨fa', fc', e0, e1, e2, hff, hffc, hs1, hs2⟩ := htr.parts
  simp only [Value.slice.injEq] at e2
  obtain ⟨rfl, -, rfl⟩ := e2
  clear e0 e1
  have hgi : (g : Int) < (types.length : Int) := by omega
  have hg0 : ¬ (g : Int) < 0 := by omega
  have hL := fun W h => l2Field_any (tth types g) W B _ f (htr.under ((PC W h).2.2.2.1.mono hB)) (hBW W h)
  have HFX : Hid (fieldIx (tth types g) f = firstTo (fun i => (fth (tth types g).fields i).name.toList == f.toList) (tth types g).fields.length) := rfl
  rcases firstTo_cases (fun i => (fth (tth types g).fields i).name.toList == f.toList) (tth types g).fields.length with ⟨hx, -⟩ | ⟨h, hx, hh, -, -⟩
  · rw [hx] at hL
    have HA : Hid (getF ⟨pname, types⟩ s f = F.zero ∧ getB ⟨pname, types⟩ s f = false) := ⟨by rw [HA0.out.1, fieldOr, if_neg (by rw [HFX.out, hx]; omega)], by rw [HA0.out.2, HFX.out, hx]; rfl⟩
    clear hx
    go_enter Tryz.func74, Tryz.ntmps74
    go_wp2_with (first
      | (
        go_at_call 112
        refine I1.mono ?_
        rintro e w1 ⟨rfl, hb1⟩
        have hT1 := hT0.trans (hb1.mono (by simp))
        obtain ⟨q0, q1, -, hw1, hz1⟩ := PC w1 hT1
        obtain ⟨c0, c1, c2⟩ := hcs w1 hw1)
      | (
        go_at_call 113
        refine (hL w1 hT1).mono ?_
        rintro e w3 ⟨rfl, hb3⟩
        have hT3 := hT1.trans (hb3.mono (by omega))
        obtain ⟨y0, y1, hbx, hw3, hz3⟩ := PC w3 hT3
        obtain ⟨a0, b0⟩ := box_at hbx 0 (by simp)
        obtain ⟨a1, b1⟩ := box_at hbx 1 (by simp)
        obtain ⟨a2, b2⟩ := box_at hbx 2 (by simp)
        obtain ⟨a3, b3⟩ := box_at hbx 3 (by simp)
        obtain ⟨a4, b4⟩ := box_at hbx 4 (by simp)
        obtain ⟨a5, b5⟩ := box_at hbx 5 (by simp)
        obtain ⟨a6, b6⟩ := box_at hbx 6 (by simp)
        obtain ⟨a7, b7⟩ := box_at hbx 7 (by simp)))
    obtain ⟨d0, d1, d2, d3, d4, d5, d6, d7⟩ := sets_cells hbx rfl (.string ⟨#[]⟩) (.string ⟨#[]⟩) (.bool false) (.bool false) (.bool false) (.bool false) (.bool false) (.slice none 0 0) _ rfl
    refine bodyPost_ret (fieldResultG _ _ (w.heap.size + 1) false (.string ⟨#[]⟩) (.string ⟨#[]⟩) (.bool false) (.bool false) (.bool false) (.bool false) (.bool false) (.slice none 0 0) rfl rfl d0 d1 d2 d3 d4 d5 d6 d7) rfl ?_
    rw [HA.out.1, HA.out.2]
    exact ⟨_, _, _, _, _, _, _, _, _, rfl, below_sets hw3 (Nat.le_succ _) _ _ _ _ _ _ _ _, FRep.zero _ _⟩
  rw [hx] at hL
  have HA : Hid (getF ⟨pname, types⟩ s f = fth (tth types g).fields h ∧ getB ⟨pname, types⟩ s f = true) := ⟨by rw [HA0.out.1, fieldOr, HFX.out, hx, if_pos (by omega)]; rfl, by rw [HA0.out.2, HFX.out, hx]; simp⟩
  clear hx HA0 HFX
  obtain ⟨fb, foff, na, nc, rfl, hfr, hcf⟩ := hff.at hB h hh
  have hhi : (h : Int) < ((tth types g).fields.length : Int) := by omega
  have hh0 : ¬ (h : Int) < 0 := by omega
  generalize fth (tth types g).fields h = ff at *
  go_enter Tryz.func74, Tryz.ntmps74
  go_wp2_with (first
    | (
      go_at_call 112
      refine I1.mono ?_
      rintro e w1 ⟨rfl, hb1⟩
      have hT1 := hT0.trans (hb1.mono (by simp))
      obtain ⟨q0, q1, -, hw1, hz1⟩ := PC w1 hT1
      obtain ⟨c0, c1, c2⟩ := hcs w1 hw1)
    | (
      go_at_call 113
      refine (hL w1 hT1).mono ?_
      rintro e w3 ⟨rfl, hb3⟩
      have hT3 := hT1.trans (hb3.mono (by omega))
      obtain ⟨y0, y1, hbx, hw3, hz3⟩ := PC w3 hT3
      obtain ⟨c30, c31, c32⟩ := hcs w3 hw3
      obtain ⟨g0, g1, g2, g3, g4, g5, g6, g7⟩ := hcf w3 hw3
      obtain ⟨a0, b0⟩ := box_at hbx 0 (by simp)
      obtain ⟨a1, b1⟩ := box_at hbx 1 (by simp)
      obtain ⟨a2, b2⟩ := box_at hbx 2 (by simp)
      obtain ⟨a3, b3⟩ := box_at hbx 3 (by simp)
      obtain ⟨a4, b4⟩ := box_at hbx 4 (by simp)
      obtain ⟨a5, b5⟩ := box_at hbx 5 (by simp)
      obtain ⟨a6, b6⟩ := box_at hbx 6 (by simp)
      obtain ⟨a7, b7⟩ := box_at hbx 7 (by simp)))
  obtain ⟨d0, d1, d2, d3, d4, d5, d6, d7⟩ := sets_cells hbx rfl (.string ff.name) (.string ff.of) (.bool ff.list) (.bool ff.must) (.bool ff.far) (.bool ff.hidden) (.bool ff.shared) (.slice na ff.needs.length nc) _ rfl
  refine bodyPost_ret (fieldResultG _ _ (w.heap.size + 1) true (.string ff.name) (.string ff.of) (.bool ff.list) (.bool ff.must) (.bool ff.far) (.bool ff.hidden) (.bool ff.shared) (.slice na ff.needs.length nc) rfl rfl d0 d1 d2 d3 d4 d5 d6 d7) rfl ?_
  rw [HA.out.1, HA.out.2]
  exact ⟨_, _, _, _, _, _, _, _, _, rfl, below_sets hw3 (Nat.le_succ _) _ _ _ _ _ _ _ _, hfr.mono fun k hk => (sets_block (by omega) _ _ _ _ _ _ _ _ _).trans (hw3.block k (by omega))⟩
end Go.Proofs.YtokmgbidmnanpaaGreatDoor
namespace Go.Proofs.YtokmgbidmnanpaaGreatDoor
open Go.RowKit Go.Maps
def LiesAt (w : World) (xa : Option Addr) (m : Nat) (news : List Value) : Prop := 0 < m → ∃ ad, xa = some ad ∧ ∀ j u, news[j]? = some u → w.cell? (ad.add j) = some u
theorem run_append_none {P : Program} (w : World) (t ty e : TypeId) (i : TypeInfo) (ht : P.underlying t = some (.slice e)) (hi : P.info? e = some i) (g n cap c : Nat) (hn : n ≤ cap) :
    (Builtin.append_ #[t, t] ty #[.slice (some ⟨g, 0, none⟩) n cap, .slice none 0 c]).run P w = .ok (.slice (some ⟨g, 0, none⟩) n cap) w := by
  simp [Builtin.append_, run_underlying ht, sizeOf, typeInfo, hi, Builtin.lenOf, Builtin.firstCells, hn, storeCells]
theorem run_append_all {P : Program} {w : World} (base : Nat) (t ty e : TypeId) (i : TypeInfo) (z : Value) (size bytes : Nat) (ht : P.underlying t = some (.slice e)) (hi : P.info? e = some i) (hz : i.zero = some z)
    (hsize : i.size = size) (hby : i.bytes = bytes) (hzs : z.cells.size = size) (hsz : 0 < size)
    (g n cap : Nat) (xs : List Value) (hown : w.ownsRow base e size (.slice (some ⟨g, 0, none⟩) n cap) n xs)
    (xa : Option Addr) (m c : Nat) (news : List Value) (hl : news.length = m * size) (hnews : LiesAt w xa m news) (h1 : ∀ u ∈ news, u.oneCell' = true)
    (h63 : n + m ≤ maxLen) (hbytes : (n + m) * bytes ≤ 140737488355328) (hbase : base ≤ w.heap.size) :
    ∃ g' cap' w', (Builtin.append_ #[t, t] ty #[.slice (some ⟨g, 0, none⟩) n cap, .slice xa m c]).run P w = .ok (.slice (some ⟨g', 0, none⟩) (n + m) cap') w' ∧ w'.ownsRow base e size (.slice (some ⟨g', 0, none⟩) (n + m) cap') (n + m) (xs ++ news) ∧ w.grownBy w' (some g) ∧ (g' = g ∨ g' = w.heap.size) := by
  have hnc : n ≤ cap := by
    rcases hown.2 with ⟨h', _⟩ | ⟨g', cap', cur, h', _, _, hn, _⟩
    · simp at h'
    · simp only [Value.slice.injEq, true_and] at h'
      obtain ⟨-, rfl⟩ := h'
      exact hn
  rcases xa with _ | ad
  · have hm : m = 0 := by
      rcases Nat.eq_zero_or_pos m with h | h
      · exact h
      · obtain ⟨ad, e, -⟩ := hnews h
        cases e
    subst hm
    have hnil : news = [] := List.length_eq_zero_iff.1 (by simpa using hl)
    subst hnil
    exact ⟨g, cap, w, run_append_none w t ty e i ht hi g n cap c hnc, by simpa using hown, ⟨rfl, rfl, rfl, Nat.le_refl _, fun _ _ _ => rfl⟩, Or.inl rfl⟩
  · have hn2 : ∀ j u, news[j]? = some u → w.cell? (ad.add j) = some u := fun j u hu => by
      rcases Nat.eq_zero_or_pos m with h | h
      · subst h
        have hnil : news = [] := List.length_eq_zero_iff.1 (by simpa using hl)
        rw [hnil] at hu
        simp at hu
      · obtain ⟨ad', e, h2⟩ := hnews h
        cases e
        exact h2 j u hu
    obtain ⟨v', w', hrun, h2, h3, -, h5⟩ := run_append_own_at (P := P) w base t ty e i z size bytes ht hi hz hsize hby hzs hsz _ n xs hown ad m c news hl hn2 h1 h63 hbytes hbase
    rcases h2.2 with ⟨h', _⟩ | ⟨g', cap', cur, hv, -⟩
    · rw [h'] at h5; simp [Value.ownBlock] at h5
    · subst hv
      refine ⟨g', cap', w', hrun, h2, h3, ?_⟩
      simpa [Value.ownBlock] using h5
theorem step_append_all {P : Program} {w : World} {ops : Array Oper} {o : Oper} {a : Act} {K : Act → World → Prop} {Q : Exit → Act → World → Prop} {E : Prop} (hgd : o.guard = none) (s x : Operand) (t : TypeId)
    (ho : o.op = .call { callee := .builtin .append, args := #[s, x], argTypes := #[t, t] })
    (base : Nat) (e : TypeId) (i : TypeInfo) (z : Value) (size bytes : Nat) (ht : P.underlying t = some (.slice e)) (hi : P.info? e = some i) (hz : i.zero = some z)
    (hsize : i.size = size) (hby : i.bytes = bytes) (hzs : z.cells.size = size) (hsz : 0 < size)
    (g n cap : Nat) (xs : List Value) (hs : a.eval s = .slice (some ⟨g, 0, none⟩) n cap) (hown : w.ownsRow base e size (.slice (some ⟨g, 0, none⟩) n cap) n xs)
    (xa : Option Addr) (m c : Nat) (news : List Value) (hx : a.eval x = .slice xa m c) (hl : news.length = m * size) (hnews : LiesAt w xa m news) (h1 : ∀ u ∈ news, u.oneCell' = true)
    (h63 : n + m ≤ maxLen) (hbytes : (n + m) * bytes ≤ 140737488355328) (hbase : base ≤ w.heap.size)
    (h : ∀ g' cap' w', w'.ownsRow base e size (.slice (some ⟨g', 0, none⟩) (n + m) cap') (n + m) (xs ++ news) → w.grownBy w' (some g) → (g' = g ∨ g' = w.heap.size) → K (a.put o.dst (.slice (some ⟨g', 0, none⟩) (n + m) cap')) w') :
    if Region.wanted o (yielded ops a.tmps) = true then Oper.wp P o a w K Q else E := by
  have hw : Region.wanted o (yielded ops a.tmps) = true := by simp [Region.wanted, hgd]
  rw [if_pos hw]
  obtain ⟨g', cap', w', hrun, h2, h3, h4⟩ := run_append_all (P := P) (w := w) base t o.type e i z size bytes ht hi hz hsize hby hzs hsz g n cap xs hown xa m c news hl hnews h1 h63 hbytes hbase
  unfold Oper.wp execOp
  simp only [ho, resolve, invoke, builtin, Sem.run_bind, Sem.run_pure, Result.andThen_ok, List.map_toArray, List.map_cons, List.map_nil, hs, hx, hrun]
  exact h g' cap' w' h2 h3 h4
theorem wpList_append_all {P : Program} {w : World} {ops : Array Oper} {rest : List Oper} {o : Oper} {a : Act} {Q : Exit → Act → World → Prop} (hgd : o.guard = none) (s x : Operand) (t : TypeId)
    (ho : o.op = .call { callee := .builtin .append, args := #[s, x], argTypes := #[t, t] })
    (base : Nat) (e : TypeId) (i : TypeInfo) (z : Value) (size bytes : Nat) (ht : P.underlying t = some (.slice e)) (hi : P.info? e = some i) (hz : i.zero = some z)
    (hsize : i.size = size) (hby : i.bytes = bytes) (hzs : z.cells.size = size) (hsz : 0 < size)
    (g n cap : Nat) (xs : List Value) (hs : a.eval s = .slice (some ⟨g, 0, none⟩) n cap) (hown : w.ownsRow base e size (.slice (some ⟨g, 0, none⟩) n cap) n xs)
    (xa : Option Addr) (m c : Nat) (news : List Value) (hx : a.eval x = .slice xa m c) (hl : news.length = m * size) (hnews : LiesAt w xa m news) (h1 : ∀ u ∈ news, u.oneCell' = true)
    (h63 : n + m ≤ maxLen) (hbytes : (n + m) * bytes ≤ 140737488355328) (hbase : base ≤ w.heap.size)
    (h : ∀ g' cap' w', w'.ownsRow base e size (.slice (some ⟨g', 0, none⟩) (n + m) cap') (n + m) (xs ++ news) → w.grownBy w' (some g) → (g' = g ∨ g' = w.heap.size) → wpList P ops Q rest (a.put o.dst (.slice (some ⟨g', 0, none⟩) (n + m) cap')) w') :
    wpList P ops Q (o :: rest) a w := by
  obtain ⟨g', cap', w', hrun, h2, h3, h4⟩ := run_append_all (P := P) (w := w) base t o.type e i z size bytes ht hi hz hsize hby hzs hsz g n cap xs hown xa m c news hl hnews h1 h63 hbytes hbase
  refine wpList_plain hgd fun K hK => ?_
  unfold Oper.wp
  simp [execOp, ho, resolve, invoke, builtin, hs, hx, hrun, Result.andThen]
  exact hK _ _ (h g' cap' w' h2 h3 h4)
def flat8 (C : Nat → Nat → Value) (n : Nat) : List Value := (List.range (n * 8)).map fun j => C (j / 8) (j % 8)
theorem flat8_len (C : Nat → Nat → Value) (n : Nat) : (flat8 C n).length = n * 8 := by simp [flat8]
theorem flat8_at (C : Nat → Nat → Value) (n i j : Nat) (hi : i < n) (hj : j < 8) : (flat8 C n)[i * 8 + j]? = some (C i j) := by
  have h1 : i * 8 + j < n * 8 := by omega
  have h2 : (i * 8 + j) / 8 = i := by omega
  have h3 : (i * 8 + j) % 8 = j := by omega
  simp [flat8, h1, h2, h3]
theorem flat8_one {w : World} {P : Nat → Prop} {fs : List F} {C : Nat → Nat → Value} (hr : ∀ i, i < fs.length → FRep w P (fth fs i) (.agg #[C i 0, C i 1, C i 2, C i 3, C i 4, C i 5, C i 6, C i 7])) : ∀ u ∈ flat8 C fs.length, u.oneCell' = true := by
  intro u hu
  simp only [flat8, List.mem_map, List.mem_range] at hu
  obtain ⟨j, hj, rfl⟩ := hu
  obtain ⟨na, nc, e, -⟩ := hr (j / 8) (by omega)
  simp only [Value.agg.injEq, Array.mk.injEq, List.cons.injEq, and_true] at e
  obtain ⟨e0, e1, e2, e3, e4, e5, e6, e7⟩ := e
  have hm : j % 8 < 8 := Nat.mod_lt _ (by omega)
  generalize j % 8 = q at *
  rcases q with _ | _ | _ | _ | _ | _ | _ | _ | q
  · simp only [e0]; rfl
  · simp only [Nat.zero_add, e1]; rfl
  · simp only [Nat.zero_add, Nat.reduceAdd, e2]; rfl
  · simp only [Nat.zero_add, Nat.reduceAdd, e3]; rfl
  · simp only [Nat.zero_add, Nat.reduceAdd, e4]; rfl
  · simp only [Nat.zero_add, Nat.reduceAdd, e5]; rfl
  · simp only [Nat.zero_add, Nat.reduceAdd, e6]; rfl
  · simp only [Nat.zero_add, Nat.reduceAdd, e7]; rfl
  · omega
theorem flat8_lies {w : World} {P : Nat → Prop} {n : Nat} {a : Option Addr} {C : Nat → Nat → Value} (h : Arr w P 8 n a C) : LiesAt w a n (flat8 C n) := fun hn => by
  obtain ⟨b, off, e, -, hc⟩ := h hn
  refine ⟨_, e, fun j u hu => ?_⟩
  have hj : j < n * 8 := by
    have := (List.getElem?_eq_some_iff.1 hu).1
    rw [flat8_len] at this
    exact this
  have h1 := hc (j / 8) (by omega) (j % 8) (Nat.mod_lt _ (by omega))
  rw [Addr.add_lit]
  have e2 : off + j / 8 * 8 + j % 8 = off + j := by omega
  rw [e2] at h1
  rw [h1]
  have e3 : (flat8 C n)[j]? = some (C (j / 8) (j % 8)) := by simp [flat8, hj]
  rw [e3] at hu
  exact hu
theorem strs_lies {w : World} {P : Nat → Prop} {ns : List ByteArray} {a : Option Addr} (h : Strs w P ns a) : LiesAt w a ns.length (ns.map Value.string) := fun hn => by
  obtain ⟨b, off, e, -, hc⟩ := h.1 (List.length_pos_iff.1 hn)
  refine ⟨_, e, fun j u hu => ?_⟩
  rw [List.getElem?_map] at hu
  obtain ⟨s, hs, rfl⟩ := Option.map_eq_some_iff.1 hu
  obtain ⟨hj, rfl⟩ := List.getElem?_eq_some_iff.1 hs
  rw [Addr.add_lit, hc j hj]
  simp [nth, List.getD_eq_getElem?_getD, hj]
theorem strs_one (ns : List ByteArray) : ∀ u ∈ ns.map Value.string, u.oneCell' = true := by
  intro u hu
  simp at hu
  obtain ⟨x, -, rfl⟩ := hu
  rfl
theorem rowStrs {w : World} {base g n cap : Nat} {ns : List ByteArray} (h : w.ownsRow base 9 1 (.slice (some ⟨g, 0, none⟩) ns.length cap) ns.length (ns.map Value.string)) (hs : ∀ i, (nth ns i).size ≤ maxLen) (hl : ns.length ≤ maxLen) : Strs w (fun b => base ≤ b ∧ b < w.heap.size) ns (some ⟨g, 0, none⟩) :=
  ⟨fun _ => ⟨g, 0, rfl, h.lt g rfl, fun i hi => by
    rw [Nat.zero_add, h.cellAt i (by omega), List.getElem?_map]
    simp [nth, List.getD_eq_getElem?_getD, hi]⟩, hs, hl⟩
end Go.Proofs.YtokmgbidmnanpaaGreatDoor
namespace Go.Proofs.YtokmgbidmnanpaaGreatDoor
open Go.RowKit
theorem fth_take (fs : List F) (i j : Nat) (h : j < i) : fth (fs.take i) j = fth fs j := by
  simp [fth, List.getD_eq_getElem?_getD, List.getElem?_take, h]
theorem FsRep.take {w : World} {P : Nat → Prop} {fs : List F} {fa : Option Addr} (h : FsRep w P fs fa) (i : Nat) (hi : i ≤ fs.length) : FsRep w P (fs.take i) fa := by
  obtain ⟨h0, C, h1, h2⟩ := h
  have hl : (fs.take i).length = i := by simp; omega
  refine ⟨by rw [hl]; omega, C, fun hp => ?_, fun j hj => ?_⟩
  · obtain ⟨b, off, e, hb, hc⟩ := h1 (by omega)
    exact ⟨b, off, e, hb, fun j hj => hc j (by omega)⟩
  · rw [fth_take fs i j (by omega)]
    exact h2 j (by omega)
def onceF (t : T) (i : Nat) : Bool := !decide (0 ≤ firstTo (fun j => (fth t.fields j).name.toList == (fth t.fields i).name.toList) i)
def onceFTo (t : T) (n : Nat) : Bool := (List.range n).all fun i => onceF t i
theorem onceFTo_succ (t : T) (n : Nat) : onceFTo t (n + 1) = (onceFTo t n && onceF t n) := by simp [onceFTo, List.range_succ]
def twiceB (types : List T) (place : Nat) (t : T) : Bool := decide (0 ≤ firstTo (fun i => (tth types i).name.toList == t.name.toList) place) || !onceFTo t t.fields.length
end Go.Proofs.YtokmgbidmnanpaaGreatDoor
namespace Go.Proofs.YtokmgbidmnanpaaGreatDoor
open Go.RowKit
def typeCode (p : Pt) (i : Nat) : Int :=
  if typeNamesB (tth p.types i) = false then 1 else if twiceB p.types i (tth p.types i) = true then 2 else if knownTo p (tth p.types i).fields (tth p.types i).fields.length = false then 3
  else if keyB (tth p.types i) = false then 4 else if needOkTo (tth p.types i) (tth p.types i).fields.length = false then 5 else if rootTo (tth p.types i).fields (tth p.types i).fields.length = false then 7 else 0
end Go.Proofs.YtokmgbidmnanpaaGreatDoor
namespace Go.Proofs.YtokmgbidmnanpaaGreatDoor
open Go.RowKit Go.Maps
theorem step_append_own_at {P : Program} {w : World} {ops : Array Oper} {o : Oper} {a : Act} {K : Act → World → Prop} {Q : Exit → Act → World → Prop} {E : Prop} (hgd : o.guard = none) (s x : Operand) (t : TypeId)
    (ho : o.op = .call { callee := .builtin .append, args := #[s, x], argTypes := #[t, t] })
    (base : Nat) (e : TypeId) (i : TypeInfo) (z : Value) (size bytes : Nat) (ht : P.underlying t = some (.slice e)) (hi : P.info? e = some i) (hz : i.zero = some z)
    (hsize : i.size = size) (hby : i.bytes = bytes) (hzs : z.cells.size = size) (hsz : 0 < size)
    (v : Value) (n : Nat) (xs : List Value) (hs : a.eval s = v) (hown : w.ownsRow base e size v n xs)
    (ad : Addr) (m c : Nat) (news : List Value) (hx : a.eval x = .slice (some ad) m c) (hl : news.length = m * size) (hnews : ∀ j u, news[j]? = some u → w.cell? (ad.add j) = some u) (h1 : ∀ u ∈ news, u.oneCell' = true)
    (h63 : n + m ≤ maxLen) (hbytes : (n + m) * bytes ≤ 140737488355328) (hbase : base ≤ w.heap.size)
    (h : ∀ v' w', w'.ownsRow base e size v' (n + m) (xs ++ news) → w.grownBy w' v.ownBlock → (v' = .slice none 0 0 ↔ v = .slice none 0 0 ∧ m = 0) → (v'.ownBlock = v.ownBlock ∨ v'.ownBlock = some w.heap.size) → K (a.put o.dst v') w') :
    if Region.wanted o (yielded ops a.tmps) = true then Oper.wp P o a w K Q else E := by
  have hw : Region.wanted o (yielded ops a.tmps) = true := by simp [Region.wanted, hgd]
  rw [if_pos hw]
  obtain ⟨v', w', hr, h2, h3, h4, h5⟩ := run_append_own_at (P := P) w base t o.type e i z size bytes ht hi hz hsize hby hzs hsz v n xs hown ad m c news hl hnews h1 h63 hbytes hbase
  unfold Oper.wp execOp
  simp only [ho, resolve, invoke, builtin, Sem.run_bind, Sem.run_pure, Result.andThen_ok, List.map_toArray, List.map_cons, List.map_nil, hs, hx, hr]
  exact h v' w' h2 h3 h4 h5
end Go.Proofs.YtokmgbidmnanpaaGreatDoor
namespace Go.Proofs.YtokmgbidmnanpaaGreatDoor
open Go.RowKit
theorem cntTo_ge (ks : List Se) (f : Nat) : ∀ n, n ≤ cntTo (f + 1) ks n
  | 0 => Nat.zero_le _
  | n + 1 => by have := cntTo_ge ks f n; rw [cntTo_succ, cntSe_kids]; omega
end Go.Proofs.YtokmgbidmnanpaaGreatDoor
