/-
  Two lists of values gone through together: what is asked of joinTrees; its first loop.
-/
import Derived.Test.YtoohlmiegjaicaaSPairs
namespace Go.Proofs.Ytoohlmiegjaicaa
set_option linter.unusedSimpArgs false
set_option linter.unusedVariables false
open Go.RowKit

/-- Whether two values are the same, as far as so many levels. -/
def sameF : Nat → V → V → Bool
  | 0, _, _ => false
  | f + 1, x, y => alikeB x.sort x.num x.text x.names x.kids.length y.sort y.num y.text y.names y.kids.length && (List.range x.kids.length).all fun i => sameF f (kth x.kids i) (kth y.kids i)
/-- Whether so many of two lists are the same. -/
def sameTo (f : Nat) (xs ys : List V) (k : Nat) : Bool := (List.range k).all fun i => sameF f (kth xs i) (kth ys i)
theorem sameTo_succ (f : Nat) (xs ys : List V) (k : Nat) : sameTo f xs ys (k + 1) = (sameTo f xs ys k && sameF f (kth xs k) (kth ys k)) := by
  simp [sameTo, List.range_succ, List.all_append]
theorem sameTo_false (f : Nat) (xs ys : List V) (n k : Nat) (h : k < n) (hk : sameF f (kth xs k) (kth ys k) = false) : sameTo f xs ys n = false := by
  cases e : sameTo f xs ys n
  · rfl
  · rw [sameTo, List.all_eq_true] at e
    have := e k (by simpa using h)
    rw [hk] at this; cases this
theorem sameF_mk (f : Nat) (s n : Int) (t : ByteArray) (ns : List ByteArray) (ks : List V) (s' n' : Int) (t' : ByteArray) (ns' : List ByteArray) (ks' : List V) :
    sameF (f + 1) (.mk s n t ns ks) (.mk s' n' t' ns' ks') = (alikeB s n t ns ks.length s' n' t' ns' ks'.length && sameTo f ks ks' ks.length) := rfl

/-- What joinTrees does with two lists of values, the first of which is no deeper than so many levels. -/
def JnOk (f : Nat) : Prop := ∀ (xs ys : List V) (w : World) (B : Nat) (ka kb : Option Addr) (kc kd : Nat), (∀ i, i < xs.length → fit f (kth xs i)) → xs.length = ys.length → xs.length ≤ 600 → Kids w (· < B) xs ka → Kids w (· < B) ys kb → B ≤ w.heap.size →
  Calls Try.prog 25 #[.slice ka xs.length kc, .slice kb ys.length kd, pairsV] w fun e w' => ∃ (r : Option Addr) (rl rc : Nat), e = .returned (.tuple #[.slice r rl rc, .bool (sameTo f xs ys xs.length)]) ∧ Below w.heap.size w w'

/-- A row of values of the call's own, of which those from place k on still hold what was copied. -/
def OwnFrom (w : World) (lo : Nat) (ks : List V) (k : Nat) (g cap : Nat) (xs : List Value) : Prop :=
  w.ownsRow lo 30 5 (.slice (some ⟨g, 0, none⟩) ks.length cap) ks.length xs ∧ g < w.heap.size ∧ lo ≤ g ∧ ∀ i, k ≤ i → i < ks.length → Rep w (fun b => lo ≤ b ∧ b < w.heap.size ∧ b ≠ g) (kth ks i) (.agg #[xs.getD (i * 5) undef, xs.getD (i * 5 + 1) undef, xs.getD (i * 5 + 2) undef, xs.getD (i * 5 + 3) undef, xs.getD (i * 5 + 4) undef])

theorem OwnKids.from {w : World} {lo ob : Nat} {ks : List V} {v : Value} {xs : List Value} (h : OwnKids w lo ob ks ks.length v xs) (h0 : 0 < ks.length) : ∃ g cap, v = .slice (some ⟨g, 0, none⟩) ks.length cap ∧ OwnFrom w lo ks 0 g cap xs := by
  obtain ⟨g, cap, rfl, hlo, hlt⟩ := h.1.form h0
  exact ⟨g, cap, rfl, h.1, hlt, hlo, fun i _ hi => (h.2.2 i hi).sub fun b hb => ⟨hb.1, hb.2.1, fun e => hb.2.2.2 (by rw [e]; rfl)⟩⟩
theorem OwnFrom.cell {w : World} {lo : Nat} {ks : List V} {k g cap : Nat} {xs : List Value} (h : OwnFrom w lo ks k g cap xs) (i j : Nat) (hi : i < ks.length) (hj : j < 5) : w.cell? ⟨g, i * 5 + j, none⟩ = some (xs.getD (i * 5 + j) undef) := by
  have hx := h.1.1
  have := h.1.cellAt (i * 5 + j) (by omega)
  rw [this, List.getD_eq_getElem?_getD, List.getElem?_eq_getElem (by omega)]
  rfl
theorem OwnFrom.frozen {w : World} {lo : Nat} {ks : List V} {k g cap : Nat} {xs : List Value} (h : OwnFrom w lo ks k g cap xs) (j : Nat) : w.frozen? ⟨g, j, none⟩ = false := h.1.frozenAt j
theorem OwnFrom.under {w w' : World} {lo : Nat} {ks : List V} {k g cap : Nat} {xs : List Value} (h : OwnFrom w lo ks k g cap xs) (hb : Below w.heap.size w w') : OwnFrom w' lo ks k g cap xs :=
  ⟨h.1.kept (row := none) ⟨hb.os, hb.tape, hb.output, hb.size, fun b hb' _ => hb.block b hb'⟩ (by simp [Value.ownBlock]), Nat.lt_of_lt_of_le h.2.1 hb.size, h.2.2.1, fun i hk hi => ((h.2.2.2 i hk hi).mono fun b hb' => hb.block b hb'.2.1).sub fun b hb' => ⟨hb'.1, Nat.lt_of_lt_of_le hb'.2.1 hb.size, hb'.2.2⟩⟩
theorem OwnFrom.set {w : World} {lo : Nat} {ks : List V} {k g cap : Nat} {xs : List Value} (h : OwnFrom w lo ks k g cap xs) (u : Value) : OwnFrom (w.setCell ⟨g, k * 5 + 4, none⟩ u) lo ks (k + 1) g cap (xs.set (k * 5 + 4) u) := by
  obtain ⟨h1, h2⟩ := h.1.stored (k * 5 + 4) u
  refine ⟨h1, by rw [size_set]; exact h.2.1, h.2.2.1, fun i hk hi => ?_⟩
  have hg : ∀ j, (xs.set (k * 5 + 4) u).getD (i * 5 + j) undef = xs.getD (i * 5 + j) undef := fun j => by
    rw [List.getD_eq_getElem?_getD, List.getElem?_set_ne (by omega), List.getD_eq_getElem?_getD]
  have g0 : (xs.set (k * 5 + 4) u).getD (i * 5) undef = xs.getD (i * 5) undef := hg 0
  rw [g0, hg 1, hg 2, hg 3, hg 4]
  exact ((h.2.2.2 i (by omega) hi).mono fun b hb => Below.heap_setCell _ _ _ _ (fun e => hb.2.2 e)).sub fun b hb => ⟨hb.1, by rw [size_set]; exact hb.2.1, hb.2.2⟩

/-- The block of the four functions. -/
def byO : Obj := .cells #[.func (.func 30) #[] #[], .func (.func 31) #[] #[], .func (.func 33) #[] #[], .func (.func 34) #[] #[]] 52
theorem by_cells {w wx : World} (h : Below (w.heap.size + 1) (w.alloc byO) wx) : wx.cell? ⟨w.heap.size, 0, none⟩ = some (.func (.func 30) #[] #[]) ∧ wx.cell? ⟨w.heap.size, 1, none⟩ = some (.func (.func 31) #[] #[]) ∧ wx.cell? ⟨w.heap.size, 2, none⟩ = some (.func (.func 33) #[] #[]) ∧ wx.cell? ⟨w.heap.size, 3, none⟩ = some (.func (.func 34) #[] #[]) := by
  have hc : ∀ o, wx.cell? ⟨w.heap.size, o, none⟩ = (w.alloc byO).cell? ⟨w.heap.size, o, none⟩ := fun o => h.cell (p := ⟨w.heap.size, o, none⟩) (by show w.heap.size < _; omega)
  rw [hc, hc, hc, hc]
  simp [byO]
theorem below_by {w wx : World} (h : Below (w.heap.size + 1) (w.alloc byO) wx) : Below w.heap.size w wx := (below_box w byO).trans (h.mono (by omega))


theorem Rep.inv5 {w : World} {P : Nat → Prop} {s n : Int} {t : ByteArray} {ns : List ByteArray} {ks : List V} {a0 a1 a2 a3 a4 : Value} (h : Rep w P (.mk s n t ns ks) (.agg #[a0, a1, a2, a3, a4])) :
    ∃ (na ka : Option Addr) (nc kc : Nat), a0 = .int .i64 s ∧ a1 = .int .i64 n ∧ a2 = .string t ∧ a3 = .slice na ns.length nc ∧ a4 = .slice ka ks.length kc ∧ Strs w P ns na ∧ ns.length ≤ nc ∧ Kids w P ks ka := by
  obtain ⟨na, ka, nc, kc, hv, h1, h2, -, -, h3⟩ := h.inv
  simp only [Value.agg.injEq, Array.mk.injEq, List.cons.injEq, and_true] at hv
  obtain ⟨e0, e1, e2, e3, e4⟩ := hv
  exact ⟨na, ka, nc, kc, e0, e1, e2, e3, e4, h1, h2, h3⟩

/-- What is known in a round's later world: the four functions, the other value's box, the row. -/
theorem round_facts {w wr W : World} {lo : Nat} {ks : List V} {k g cap : Nat} {cs : List Value} {y0 y1 y2 y3 y4 : Value} (hbel : Below (w.heap.size + 1) (w.alloc byO) wr) (hsz : w.heap.size + 1 ≤ wr.heap.size) (hof : OwnFrom wr lo ks k g cap cs)
    (hA : Below (wr.heap.size + 1) (wr.alloc (.cells #[y0, y1, y2, y3, y4] 30)) W) :
    Below (w.heap.size + 1) (w.alloc byO) W ∧ Five W wr.heap.size y0 y1 y2 y3 y4 ∧ OwnFrom W lo ks k g cap cs ∧ Below wr.heap.size wr W ∧ wr.heap.size < W.heap.size := by
  have hz := hA.size
  simp at hz
  have hB : Below wr.heap.size wr W := (below_box wr _).trans (hA.mono (by omega))
  exact ⟨hbel.trans (hB.mono hsz), (Five.new wr _ _ _ _ _ _).keep (by simpa using hA) (by simp), hof.under hB, hB, by omega⟩
end Go.Proofs.Ytoohlmiegjaicaa
