import Derived.Test.YtbpdchlbhfjddaaGreatJ3
import Derived.Deep.AppendLies
import Derived.Deep.RegionLaw
import Derived.Deep.RegionHeld3
import Derived.Deep.OwnRows
import Derived.Laws.OwnMore
import Derived.Deep.LoopGhost
import Derived.Deep.DeepCutAuto
namespace Go.Proofs.YtbpdchlbhfjddaaGreat
set_option linter.unusedSimpArgs false
set_option linter.unusedVariables false
open Go.RowKit Go.Maps

/-- What a function says that a value weighs by itself, and which kids it has. -/
def OwnFn (F : Nat) (ow : V → Nat) : Prop := ∀ (w : World) (b o : Nat) (x : V) (na ka : Option Addr) (nc kc : Nat),
  w.cell? ⟨b, o, none⟩ = some (.int .i64 x.sort) → w.cell? ⟨b, o + 3, none⟩ = some (.slice na x.names.length nc) → w.cell? ⟨b, o + 4, none⟩ = some (.slice ka x.kids.length kc) → 16 * x.names.length ≤ 281474976710656 →
  Calls Tryz.prog F #[.pointer (some ⟨b, o, none⟩)] w fun e w' => e = .returned (.tuple #[.int .i64 (ow x : Nat), .slice ka x.kids.length kc]) ∧ ∃ n, w' = w.drewN n

/-- All open kids but the lowest stand in the value's own memory; the lowest is the root, in a block of its own. -/
def Std (w : World) (P : Nat → Prop) (b0 : Nat) : List Fr → Prop
  | [] => True
  | [f] => f.b = b0 ∧ f.o = 0
  | f :: g :: r => (KidsAt w P f.b f.o f.ks ∧ 0 < f.ks.length) ∧ Std w P b0 (g :: r)

theorem Std.kids {w : World} {P : Nat → Prop} {b0 : Nat} {f g : Fr} {r : List Fr} (h : Std w P b0 (f :: r)) (e : g.b = f.b ∧ g.o = f.o ∧ g.ks = f.ks) : Std w P b0 (g :: r) := by
  match r, h with
  | [], h => exact ⟨e.1.trans h.1, e.2.1.trans h.2⟩
  | a :: r, h => exact ⟨by rw [e.1, e.2.1, e.2.2]; exact h.1, h.2⟩

/-- The topmost kids can be read. -/
theorem Std.read {w wr : World} {P : Nat → Prop} {b0 : Nat} {ow : V → Nat} {root : V} {f : Fr} {r : List Fr} {c0 c1 c2 c3 c4 : Value} {t : TypeId} {fr : Nat × Nat} (h : Std w P b0 (f :: r)) (hU : Under ow root f r) (hR : Rep w P root (.agg #[c0, c1, c2, c3, c4]))
    (hb0 : wr.heap[b0]? = some (.cells #[c0, c1, c2, c3, c4] t fr)) (hP : ∀ b, P b → wr.heap[b]? = w.heap[b]?) (i : Nat) (hi : i < f.ks.length) :
    ∃ d0 d1 d2 d3 d4, Rep w P (kth f.ks i) (.agg #[d0, d1, d2, d3, d4]) ∧ wr.cell? ⟨f.b, f.o + i * 5, none⟩ = some d0 ∧ wr.cell? ⟨f.b, f.o + i * 5 + 1, none⟩ = some d1 ∧ wr.cell? ⟨f.b, f.o + i * 5 + 2, none⟩ = some d2 ∧ wr.cell? ⟨f.b, f.o + i * 5 + 3, none⟩ = some d3 ∧ wr.cell? ⟨f.b, f.o + i * 5 + 4, none⟩ = some d4 := by
  match r, h, hU with
  | [], h, hU =>
    have hU' : f.ks = [root] := hU
    have hi0 : i = 0 := by rw [hU'] at hi; simpa using hi
    subst hi0
    refine ⟨c0, c1, c2, c3, c4, by rw [hU']; exact hR, ?_, ?_, ?_, ?_, ?_⟩ <;> rw [h.1, h.2] <;> simp [World.cell?, hb0]
  | a :: r, h, hU =>
    obtain ⟨⟨⟨hPb, -, C, hc, hr⟩, -⟩, -⟩ := h
    have key : ∀ j, j < 5 → wr.cell? ⟨f.b, f.o + i * 5 + j, none⟩ = some (C i j) := fun j hj => (World.cell?_of_block (w := w) (a := ⟨f.b, f.o + i * 5 + j, none⟩) (hP _ hPb)).trans (hc i hi j hj)
    exact ⟨_, _, _, _, _, hr i hi, key 0 (by omega), key 1 (by omega), key 2 (by omega), key 3 (by omega), key 4 (by omega)⟩

def frs (r : List Fr) : List Value := r.reverse.flatMap Fr.cells
theorem frs_len (r : List Fr) : (frs r).length = r.length * 3 := by
  induction r with
  | nil => rfl
  | cons f r ih => simp only [frs, List.reverse_cons, List.flatMap_append, List.length_append] at ih ⊢; rw [ih]; simp [Fr.cells]; omega
theorem frs_cons (f : Fr) (r : List Fr) : frs (f :: r) = frs r ++ f.cells := by simp [frs]
theorem frs_get (f : Fr) (r : List Fr) (j : Nat) : (frs (f :: r))[r.length * 3 + j]? = f.cells[j]? := by
  rw [frs_cons, List.getElem?_append_right (by rw [frs_len]; omega), frs_len]
  congr 1; omega
theorem frs_set (f : Fr) (r : List Fr) (j : Nat) (u : Value) : (frs (f :: r)).set (r.length * 3 + j) u = frs r ++ f.cells.set j u := by
  rw [frs_cons, List.set_append, if_neg (by rw [frs_len]; omega), frs_len]
  congr 2; omega

/-- One less. -/
theorem owns_less {w : World} {base : Nat} {e : TypeId} {g c n : Nat} {xs ys : List Value} (h : w.ownsRow base e 3 (.slice (some ⟨g, 0, none⟩) (n + 1) c) (n + 1) (xs ++ ys)) (hx : xs.length = n * 3) : w.ownsRow base e 3 (.slice (some ⟨g, 0, none⟩) n c) n xs := by
  refine ⟨hx, ?_⟩
  rcases h.2 with ⟨h', _⟩ | ⟨g', c', cur, h', h1, h2, h3, h4, h5, h6⟩
  · simp at h'
  · simp only [Value.slice.injEq, Option.some.injEq, Addr.mk.injEq, and_true, true_and] at h'
    obtain ⟨rfl, rfl⟩ := h'
    refine .inr ⟨g, c, cur, rfl, h1, h2, by omega, h4, h5, ?_⟩
    have := congrArg (List.take (n * 3)) h6
    rw [List.take_take, List.take_append_of_le_length (by omega), Nat.min_eq_left (by omega)] at this
    rw [this, List.take_of_length_le (by omega)]

theorem Rep.form {w : World} {P : Nat → Prop} {x : V} {v : Value} (h : Rep w P x v) : ∃ (na ka : Option Addr) (nc kc : Nat), v = .agg #[.int .i64 x.sort, .int .i64 x.num, .string x.text, .slice na x.names.length nc, .slice ka x.kids.length kc] ∧ 16 * x.names.length ≤ 281474976710656 ∧ Kids w P x.kids ka := by
  obtain ⟨s, n, t, ns, ks⟩ := x
  obtain ⟨na, ka, nc, kc, h1, -, -, -, h5, h6⟩ := h.inv
  exact ⟨na, ka, nc, kc, h1, h5, h6⟩

/-- What a round of weigh knows. -/
def WInv (w : World) (P : Nat → Prop) (ow : V → Nat) (root : V) (bm : Nat) (O0 OS : Obj) (wr : World) (vo : Value) (f : Fr) (r : List Fr) : Prop :=
  w.grownBy wr (some bm) ∧ wr.heap[w.heap.size]? = some OS ∧ wr.heap[w.heap.size + 1 + 1]? = some O0 ∧ wr.ownsRow (w.heap.size + 1 + 1 + 1) 132 3 vo (r.length + 1) (frs (f :: r)) ∧
  (∃ G, OwnsK wr (fun v => ∃ b o n, v = pk b o n ∧ P b) bm G ∧ KnOk w P ow G (f :: r)) ∧ Std w P (w.heap.size + 1 + 1) (f :: r) ∧ Under ow root f r ∧ f.d ≤ f.ks.length ∧ f.x = wL ow (f.ks.take f.d)

theorem WInv.more {w : World} {P : Nat → Prop} {ow : V → Nat} {root : V} {bm : Nat} {O0 OS : Obj} {wr : World} {vo : Value} {f : Fr} {r : List Fr} (h : WInv w P ow root bm O0 OS wr vo f r) : w.heap.size + 1 + 1 < wr.heap.size := (Array.getElem?_eq_some_iff.1 h.2.2.1).1

/-- Nothing but the map has changed, and what is new. -/
theorem grown_trans {a b c : World} {m : Option Nat} (h : a.grownBy b m) (h' : b.grownBy c m) : a.grownBy c m :=
  ⟨h'.os.trans h.os, h'.tape.trans h.tape, h'.output.trans h.output, Nat.le_trans h.size h'.size, fun i hi hne => (h'.block i (Nat.lt_of_lt_of_le hi h.size) hne).trans (h.block i hi hne)⟩
theorem grown_new {a b c : World} {m : Option Nat} {g : Nat} (h : a.grownBy b m) (h' : b.grownBy c (some g)) (hg : a.heap.size ≤ g) : a.grownBy c m :=
  ⟨h'.os.trans h.os, h'.tape.trans h.tape, h'.output.trans h.output, Nat.le_trans h.size h'.size, fun i hi hne => (h'.block i (Nat.lt_of_lt_of_le hi h.size) (fun e => by simp at e; omega)).trans (h.block i hi hne)⟩
theorem grown_below {a b c : World} {m : Option Nat} (h : a.grownBy b m) (h' : Below b.heap.size b c) : a.grownBy c m :=
  ⟨h'.os.trans h.os, h'.tape.trans h.tape, h'.output.trans h.output, Nat.le_trans h.size h'.size, fun i hi hne => (h'.block i (Nat.lt_of_lt_of_le hi h.size)).trans (h.block i hi hne)⟩
theorem grown_self (a : World) (m : Option Nat) : a.grownBy a m := ⟨rfl, rfl, rfl, Nat.le_refl _, fun _ _ _ => rfl⟩
theorem grown_drew {a b : World} {m : Option Nat} (h : a.grownBy b m) (n : Nat) : (a.drewN n).grownBy b m := ⟨h.os, h.tape, h.output, h.size, h.block⟩

theorem hid_of {q : Prop} (h : q) : Hid q := h
/-- What a round knows of the memory. -/
def Mid (w : World) (P : Nat → Prop) (bm : Nat) (O0 OS : Obj) (W : World) (vo : Value) (f : Fr) (r : List Fr) (G : Value → Option Value) : Prop :=
  w.grownBy W (some bm) ∧ W.heap[w.heap.size]? = some OS ∧ W.heap[w.heap.size + 1 + 1]? = some O0 ∧ W.ownsRow (w.heap.size + 1 + 1 + 1) 132 3 vo (r.length + 1) (frs (f :: r)) ∧ OwnsK W (fun v => ∃ b o n, v = pk b o n ∧ P b) bm G
theorem Mid.drew {w : World} {P : Nat → Prop} {bm : Nat} {O0 OS : Obj} {W : World} {vo : Value} {f : Fr} {r : List Fr} {G : Value → Option Value} (h : Mid w P bm O0 OS W vo f r G) (k : Nat) : Mid w P bm O0 OS (W.drewN k) vo f r G :=
  ⟨⟨h.1.os, h.1.tape, h.1.output, h.1.size, h.1.block⟩, h.2.1, h.2.2.1, h.2.2.2.1, h.2.2.2.2⟩
theorem Mid.set {w : World} {P : Nat → Prop} {bm : Nat} {O0 OS : Obj} {W : World} {og oc : Nat} {f f' : Fr} {r : List Fr} {G : Value → Option Value} (h : Mid w P bm O0 OS W (.slice (some ⟨og, 0, none⟩) (r.length + 1) oc) f r G) (hog : w.heap.size + 1 + 1 + 1 ≤ og) (hbm : bm < w.heap.size)
    (j : Nat) (u : Value) (e : f.cells.set j u = f'.cells) (p : Nat) (hp : p = r.length * 3 + j) : Mid w P bm O0 OS (W.setCell ⟨og, p, none⟩ u) (.slice (some ⟨og, 0, none⟩) (r.length + 1) oc) f' r G := by
  obtain ⟨h1, h2, h3, h4, h5⟩ := h
  have hst := h4.stored p u
  rw [hp, frs_set, e, ← frs_cons] at hst
  rw [hp]
  have l2 := (Array.getElem?_eq_some_iff.1 h2).1
  have l3 := (Array.getElem?_eq_some_iff.1 h3).1
  refine ⟨grown_new h1 hst.2 (by omega), ?_, ?_, hst.1, h5.of_block (hst.2.block bm h5.lt (by simp; omega))⟩
  · rw [hst.2.block _ l2 (by simp; omega)]; exact h2
  · rw [hst.2.block _ l3 (by simp; omega)]; exact h3
theorem Mid.below {w : World} {P : Nat → Prop} {bm : Nat} {O0 OS : Obj} {W W' : World} {vo : Value} {f : Fr} {r : List Fr} {G : Value → Option Value} (h : Mid w P bm O0 OS W vo f r G) (hb : Below W.heap.size W W') : Mid w P bm O0 OS W' vo f r G := by
  obtain ⟨h1, h2, h3, h4, h5⟩ := h
  have l2 := (Array.getElem?_eq_some_iff.1 h2).1
  have l3 := (Array.getElem?_eq_some_iff.1 h3).1
  exact ⟨grown_below h1 hb, (hb.block _ l2).trans h2, (hb.block _ l3).trans h3, h4.kept (row := none) ⟨hb.os, hb.tape, hb.output, hb.size, fun i hi _ => hb.block i hi⟩ (by
    cases h : vo.ownBlock with
    | none => exact Or.inl rfl
    | some k => exact Or.inr (by simp)), h5.of_block (hb.block bm h5.lt)⟩
theorem Mid.map {w : World} {P : Nat → Prop} {bm : Nat} {O0 OS : Obj} {W W' : World} {vo : Value} {f : Fr} {r : List Fr} {G G' : Value → Option Value} (h : Mid w P bm O0 OS W vo f r G) (hbm : bm < w.heap.size) (hg : W.grownBy W' (some bm)) (hG : OwnsK W' (fun v => ∃ b o n, v = pk b o n ∧ P b) bm G') : Mid w P bm O0 OS W' vo f r G' := by
  obtain ⟨h1, h2, h3, h4, h5⟩ := h
  have l2 := (Array.getElem?_eq_some_iff.1 h2).1
  have l3 := (Array.getElem?_eq_some_iff.1 h3).1
  refine ⟨grown_trans h1 hg, (hg.block _ l2 (by simp; omega)).trans h2, (hg.block _ l3 (by simp; omega)).trans h3, h4.kept hg ?_, hG⟩
  cases hv : vo.ownBlock with
  | none => exact Or.inl rfl
  | some k => exact Or.inr (fun e => by have := (h4.lt k hv).1; simp at e; omega)
theorem Mid.push {w : World} {P : Nat → Prop} {bm : Nat} {O0 OS : Obj} {W W' : World} {og oc : Nat} {vo' : Value} {f g : Fr} {r : List Fr} {G : Value → Option Value} (h : Mid w P bm O0 OS W (.slice (some ⟨og, 0, none⟩) (r.length + 1) oc) f r G) (hog : w.heap.size + 1 + 1 + 1 ≤ og) (hbm : bm < w.heap.size)
    (hg : W.grownBy W' (some og)) (hrow : W'.ownsRow (w.heap.size + 1 + 1 + 1) 132 3 vo' (r.length + 1 + 1) (frs (f :: r) ++ g.cells)) : Mid w P bm O0 OS W' vo' g (f :: r) G := by
  obtain ⟨h1, h2, h3, h4, h5⟩ := h
  have l2 := (Array.getElem?_eq_some_iff.1 h2).1
  have l3 := (Array.getElem?_eq_some_iff.1 h3).1
  exact ⟨grown_new h1 hg (by omega), (hg.block _ l2 (by simp; omega)).trans h2, (hg.block _ l3 (by simp; omega)).trans h3, by rw [frs_cons]; exact hrow, h5.of_block (hg.block bm h5.lt (by simp; omega))⟩
/-- What can be read of the memory. -/
theorem Mid.read {w : World} {P : Nat → Prop} {bm : Nat} {O0 OS : Obj} {W : World} {og oc : Nat} {f : Fr} {r : List Fr} {G : Value → Option Value} (h : Mid w P bm O0 OS W (.slice (some ⟨og, 0, none⟩) (r.length + 1) oc) f r G) (q : Nat) (hq : q = r.length) :
    W.cell? ⟨og, q * 3, none⟩ = some (.slice (some ⟨f.b, f.o, none⟩) f.ks.length f.c) ∧ W.cell? ⟨og, q * 3 + 1, none⟩ = some (.int .i64 f.d) ∧ W.cell? ⟨og, q * 3 + 2, none⟩ = some (.int .i64 f.x) ∧ (∀ j, W.frozen? ⟨og, j, none⟩ = false) := by
  obtain ⟨h1, h2, h3, h4, h5⟩ := h
  subst hq
  exact ⟨(h4.cellAt (r.length * 3) (by omega)).trans (frs_get f r 0), (h4.cellAt (r.length * 3 + 1) (by omega)).trans (frs_get f r 1), (h4.cellAt (r.length * 3 + 2) (by omega)).trans (frs_get f r 2), fun j => h4.frozenAt j⟩

theorem Mid.inv {w : World} {P : Nat → Prop} {ow : V → Nat} {root : V} {bm : Nat} {O0 OS : Obj} {W : World} {vo : Value} {f : Fr} {r : List Fr} {G : Value → Option Value} (h : Mid w P bm O0 OS W vo f r G) (hK : KnOk w P ow G (f :: r)) (hS : Std w P (w.heap.size + 1 + 1) (f :: r)) (hU : Under ow root f r) (hd : f.d ≤ f.ks.length) (hx : f.x = wL ow (f.ks.take f.d)) : WInv w P ow root bm O0 OS W vo f r :=
  ⟨h.1, h.2.1, h.2.2.1, h.2.2.2.1, ⟨G, h.2.2.2.2, hK⟩, hS, hU, hd, hx⟩
theorem todo_next (f : Fr) (r : List Fr) (y : Nat) (h : f.d < f.ks.length) : todoF ({ f with d := f.d + 1, x := y } :: r) + 2 * cntV (kth f.ks f.d) = todoF (f :: r) := by
  have := cntL_drop f.ks f.d h
  simp only [todoF]; omega
theorem Mid.cells {w : World} {P : Nat → Prop} {bm : Nat} {O0 OS : Obj} {W : World} {vo : Value} {f : Fr} {r : List Fr} {G : Value → Option Value} {F : Nat} {ring most : Int} (h : Mid w P bm O0 OS W vo f r G) (hOS : OS = Obj.cells #[.func (.func F) #[] #[], .int .i64 ring, .int .i64 most, .map (some bm)] 93) :
    W.cell? ⟨w.heap.size, 1, none⟩ = some (.int .i64 ring) ∧ W.cell? ⟨w.heap.size, 2, none⟩ = some (.int .i64 most) ∧ W.cell? ⟨w.heap.size, 3, none⟩ = some (.map (some bm)) ∧ w.heap.size < W.heap.size := by
  have h2 := h.2.1
  rw [hOS] at h2
  refine ⟨?_, ?_, ?_, (Array.getElem?_eq_some_iff.1 h2).1⟩ <;> (rw [World.cell?, h2]; rfl)
theorem zero_int (w : World) : (zeroValue 2).run Tryz.prog w = .ok (.int .i64 0) w := by kernel_rfl
theorem Mid.key {w : World} {P : Nat → Prop} {bm : Nat} {O0 OS : Obj} {W : World} {vo : Value} {f : Fr} {r : List Fr} {G : Value → Option Value} (h : Mid w P bm O0 OS W vo f r G) (hP : ∀ b, P b → b < w.heap.size ∧ Apart w b) (hne : ∀ b, P b → b ≠ bm) : KeyAt Tryz.prog 136 (fun v => ∃ b o n, v = pk b o n ∧ P b) W :=
  keyK (w := W) (fun v hv => by obtain ⟨b, o, n, e, hb⟩ := hv; exact ⟨b, o, n, e, (hP b hb).2.of_block (h.1.block b (hP b hb).1 (fun e => hne b hb (by simpa using e)))⟩)
theorem info_wg : (Tryz.prog.info? 132).map (fun i => (i.zero, i.size, i.bytes)) = some (some (.agg #[.slice none 0 0, .int .i64 0, .int .i64 0]), 3, 40) := by kernel_rfl

theorem winv_pop {w : World} {P : Nat → Prop} {ow : V → Nat} {root : V} {bm : Nat} {O0 OS : Obj} {wr wa wb : World} {og oc : Nat} {f g : Fr} {r : List Fr} {G2 : Value → Option Value} (h : WInv w P ow root bm O0 OS wr (.slice (some ⟨og, 0, none⟩) (r.length + 1 + 1) oc) f (g :: r)) (hdl : f.d = f.ks.length) (hbm : bm < w.heap.size) (hog : w.heap.size + 1 + 1 + 1 ≤ og)
    (hG2 : OwnsK wa (fun v => ∃ b o n, v = pk b o n ∧ P b) bm G2) (hGx : G2 (pk f.b f.o f.ks.length) = some (.int .i64 f.x)) (hGo : ∃ G, KnOk w P ow G (f :: g :: r) ∧ ∀ y, y ≠ pk f.b f.o f.ks.length → G2 y = G y) (hgr2 : wr.grownBy wa (some bm)) (k : Nat)
    (hwb : wb = (wa.drewN k).setCell ⟨og, r.length * 3 + 2, none⟩ (.int .i64 ((g.x : Int) + f.x))) :
    WInv w P ow root bm O0 OS wb (.slice (some ⟨og, 0, none⟩) (r.length + 1) oc) { g with x := g.x + f.x } r := by
  obtain ⟨hgr, hOSr, hO0r, hrow, -, hStd, hU, hd, hx⟩ := h
  obtain ⟨G, hKn, hGo⟩ := hGo
  have hz := hgr.size
  have hz2 := hgr2.size
  have hlO := (Array.getElem?_eq_some_iff.1 hO0r).1
  have hlS := (Array.getElem?_eq_some_iff.1 hOSr).1
  have hfx : f.x = wL ow f.ks := by rw [hx, hdl, List.take_length]
  have hra : wa.ownsRow (w.heap.size + 1 + 1 + 1) 132 3 (.slice (some ⟨og, 0, none⟩) (r.length + 1 + 1) oc) (r.length + 1 + 1) (frs (f :: g :: r)) := hrow.kept hgr2 (Or.inr (by simp [Value.ownBlock]; omega))
  rw [frs_cons] at hra
  have hrl := owns_less hra (by rw [frs_len]; rfl)
  have hrk : (wa.drewN k).ownsRow (w.heap.size + 1 + 1 + 1) 132 3 (.slice (some ⟨og, 0, none⟩) (r.length + 1) oc) (r.length + 1) (frs (g :: r)) := hrl
  have hst := hrk.stored (r.length * 3 + 2) (.int .i64 ((g.x : Int) + f.x))
  rw [← hwb, frs_set] at hst
  have hgw : wa.grownBy wb (some og) := ⟨hst.2.os, hst.2.tape, hst.2.output, hst.2.size, hst.2.block⟩
  refine ⟨grown_new (grown_trans hgr hgr2) hgw (by omega), ?_, ?_, ?_, ⟨G2, hG2.of_block (hgw.block bm hG2.lt (by simp; omega)), KnOk.pop hKn ⟨rfl, rfl, rfl⟩ hStd.1.1 (by rw [hGx, hfx]) hGo⟩, hStd.2.kids ⟨rfl, rfl, rfl⟩, hU.2.kids rfl, hU.1.2.1, ?_⟩
  · rw [hgw.block _ (by omega) (by simp; omega), hgr2.block _ (by omega) (by simp; omega)]; exact hOSr
  · rw [hgw.block _ (by omega) (by simp; omega), hgr2.block _ (by omega) (by simp; omega)]; exact hO0r
  · have e : frs r ++ g.cells.set 2 (.int .i64 ((g.x : Int) + f.x)) = frs ({ g with x := g.x + f.x } :: r) := by
      rw [frs_cons]; simp [Fr.cells]
    rw [← e]; exact hst.1
  · show g.x + f.x = wL ow (g.ks.take g.d)
    rw [hfx]; exact hU.1.2.2.2

set_option maxRecDepth 100000 in
set_option maxHeartbeats 8000000 in
theorem weigh_any (F : Nat) (ow : V → Nat) (hF : OwnFn F ow) (hcf : ∀ (args : Array Value) (w : World), (callFunc F args).run Tryz.prog w = .ok (.enter F args) w) (root : V) (w : World) (P : Nat → Prop) (v : Value) (ring most : Int) (bm : Nat) (G0 : Value → Option Value)
    (hR : Rep w P root v) (hP : ∀ b, P b → b < w.heap.size ∧ Apart w b) (hown : OwnsK w (fun v => ∃ b o n, v = pk b o n ∧ P b) bm G0) (hkn : KnOk w P ow G0 [])
    (hw : (wV ow root : Int) ≤ most) (hmost : most ≤ 9223372036854775807) (hcnt : cntV root ≤ 2097152) :
    Calls Tryz.prog 44 #[scalesV F ring most bm, v] w fun e w' => e = .returned (.tuple #[.int .i64 (wV ow root : Nat), .bool true]) ∧ (∃ G, OwnsK w' (fun v => ∃ b o n, v = pk b o n ∧ P b) bm G ∧ KnOk w P ow G []) ∧ w.grownBy w' (some bm) := by
  obtain ⟨na, ka, nc, kc, rfl, -⟩ := hR.form
  have hbm := hown.lt
  have hne : ∀ b, P b → b ≠ bm := fun b hb e => by
    obtain ⟨es, clock, h1, -⟩ := hown
    obtain ⟨⟨c, t, f, h2⟩, -⟩ := (hP b hb).2
    rw [e, h1] at h2
    cases h2
  unfold scalesV
  go_enter Tryz.func44, Tryz.ntmps44
  go_wp2_with fail
  obtain ⟨O0, hO0⟩ : ∃ O, O = Obj.cells #[.int .i64 root.sort, .int .i64 root.num, .string root.text, .slice na root.names.length nc, .slice ka root.kids.length kc] 58 := ⟨_, rfl⟩
  obtain ⟨OS, hOS⟩ : ∃ O, O = Obj.cells #[.func (.func F) #[] #[], .int .i64 ring, .int .i64 most, .map (some bm)] 93 := ⟨_, rfl⟩
  go_loopg [6] (1 + 2 * cntV root) (fun g vo wr => ∃ f r, g = todoF (f :: r) ∧ WInv w P ow root bm O0 OS wr vo f r)
  case atStart =>
    refine ⟨⟨w.heap.size + 1 + 1, 0, 1, [root], 0, 0⟩, [], by simp [todoF, cntL], ⟨rfl, rfl, rfl, by simp; omega, fun b hb _ => ?_⟩, ?_, ?_, ?_, ⟨G0, hown.of_block ?_, fun b o n v hv => ?_⟩, ⟨rfl, rfl⟩, rfl, Nat.zero_le _, by simp [wL]⟩
    · rw [Below.heap_alloc _ _ _ (by simp; omega), Below.heap_alloc _ _ _ (by simp; omega), Below.heap_alloc _ _ _ (by simp; omega), Below.heap_alloc _ _ _ (by simpa using hb)]
    · rw [Below.heap_alloc _ _ _ (by simp; omega), Below.heap_alloc _ _ _ (by simp; omega), Below.heap_alloc _ _ _ (by simp), heap_alloc_new, hOS]
    · rw [Below.heap_alloc _ _ _ (by simp)]
      have := heap_alloc_new ((w.alloc (.cells #[.func (.func F) #[] #[], .int .i64 ring, .int .i64 most, .map (some bm)] 93)).alloc (.cells #[.int .i64 root.sort, .int .i64 root.num, .string root.text, .slice na root.names.length nc, .slice ka root.kids.length kc] 58)) (.cells #[.int .i64 root.sort, .int .i64 root.num, .string root.text, .slice na root.names.length nc, .slice ka root.kids.length kc] 58)
      simp only [World.size_alloc] at this
      rw [this, hO0]
    · have := World.ownsRow_lit (base := w.heap.size + 1 + 1 + 1) (e := 132) (size := 3) (((w.alloc (.cells #[.func (.func F) #[] #[], .int .i64 ring, .int .i64 most, .map (some bm)] 93)).alloc (.cells #[.int .i64 root.sort, .int .i64 root.num, .string root.text, .slice na root.names.length nc, .slice ka root.kids.length kc] 58)).alloc (.cells #[.int .i64 root.sort, .int .i64 root.num, .string root.text, .slice na root.names.length nc, .slice ka root.kids.length kc] 58)) #[.slice (some ⟨w.heap.size + 1 + 1, 0, none⟩) 1 1, .int .i64 0, .int .i64 0] 1 (by simp) (by unfold maxLen; omega) rfl
      simp only [World.size_alloc] at this
      exact this
    · rw [Below.heap_alloc _ _ _ (by simp; omega), Below.heap_alloc _ _ _ (by simp; omega), Below.heap_alloc _ _ _ (by simp; omega), Below.heap_alloc _ _ _ hbm]
    · rcases hkn b o n v hv with ⟨k, hk, -⟩ | h
      · simp at hk
      · exact Or.inr h
  case round =>
    obtain ⟨f, r, rfl, hI⟩ := hrel
    have HI : Hid (WInv w P ow root bm O0 OS wr _ f r) := hI
    obtain ⟨hgr, hOSr, hO0r, hrow, ⟨G, hG, hKn⟩, hStd, hU, hd, hx⟩ := hI
    rcases hrow.2 with ⟨-, h0⟩ | ⟨og, ocap, ocur, rfl, hog1, hog2, hog3, hog4, hog5, -⟩
    · omega
    have q0 : wr.cell? ⟨og, r.length * 3, none⟩ = some (.slice (some ⟨f.b, f.o, none⟩) f.ks.length f.c) := (hrow.cellAt (r.length * 3) (by omega)).trans (frs_get f r 0)
    have q1 : wr.cell? ⟨og, r.length * 3 + 1, none⟩ = some (.int .i64 f.d) := (hrow.cellAt (r.length * 3 + 1) (by omega)).trans (frs_get f r 1)
    have q2 : wr.cell? ⟨og, r.length * 3 + 2, none⟩ = some (.int .i64 f.x) := (hrow.cellAt (r.length * 3 + 2) (by omega)).trans (frs_get f r 2)
    have hle := hU.le
    have hri : (r.length : Int) ≤ 2097152 := by omega
    have hsame : ∀ b, P b → wr.heap[b]? = w.heap[b]? := fun b hb => hgr.block b (hP b hb).1 (fun e => hne b hb (by simpa using e))
    have hzz := hgr.size
    have hlm := hG.lt
    have hlo : og < wr.heap.size := (Array.getElem?_eq_some_iff.1 hog2).1
    have hls : w.heap.size < wr.heap.size := (Array.getElem?_eq_some_iff.1 hOSr).1
    have hs0 : wr.cell? ⟨w.heap.size, 0, none⟩ = some (.func (.func F) #[] #[]) := by rw [World.cell?, hOSr, hOS]; rfl
    have hs1 : wr.cell? ⟨w.heap.size, 1, none⟩ = some (.int .i64 ring) := by rw [World.cell?, hOSr, hOS]; rfl
    have hs2 : wr.cell? ⟨w.heap.size, 2, none⟩ = some (.int .i64 most) := by rw [World.cell?, hOSr, hOS]; rfl
    have hs3 : wr.cell? ⟨w.heap.size, 3, none⟩ = some (.map (some bm)) := by rw [World.cell?, hOSr, hOS]; rfl
    have HX : Hid (f.x = wL ow (f.ks.take f.d)) := hx
    have hxw : (f.x : Int) ≤ most := by have := wL_part ow f.ks f.d; omega
    clear hx
    by_cases hdl : f.d = f.ks.length
    · have hdi : (f.d : Int) = (f.ks.length : Int) := by omega
      rcases r with _ | ⟨g, r⟩
      · simp only [List.length_nil, Nat.zero_mul, Nat.zero_add] at q0 q1 q2 hrow
        rw [show ([] : List Fr).length + 1 = 1 from rfl]
        go_wp2_with fail
        go_quiet (fail)
        go_wp2_with fail
        go_ret2
        have hks : f.ks = [root] := hU
        have hxr : f.x = wV ow root := by rw [HX.out, hdl, List.take_length, hks]; simp [wL]
        refine ⟨by show Ending.returned (.tuple #[.int .i64 (f.x : Int), .bool true]) = _; rw [hxr], ⟨G, hG, fun b o n v hv => ?_⟩, ⟨hgr.os, hgr.tape, hgr.output, hgr.size, hgr.block⟩⟩
        rcases hKn b o n v hv with ⟨k, hk, k1, -, -, k4⟩ | h
        · exfalso
          have e : k = f := by simpa using hk
          have h1 := (hP b k4.1).1
          have h2 : f.b = w.heap.size + 1 + 1 := hStd.1
          rw [← k1, e, h2] at h1
          omega
        · exact Or.inr h
      · obtain ⟨q, hq⟩ : ∃ q, q = (g :: r).length := ⟨_, rfl⟩
        have hqr : q = r.length + 1 := by simpa using hq
        have hq0 : 0 < q := by omega
        have hqi : ¬ (q : Int) = 0 := by omega
        rw [← hq] at q0 q1 q2 hri hrow hog3 ⊢
        have HQ : Hid (q = r.length + 1) := hqr
        clear hq hqr
        have hKf := hStd.1.1
        have hk0 : 0 < f.ks.length := hStd.1.2
        go_wp2_with fail
        go_quiet (fail)
        go_wp2_with fail
        go_cut [] (fun wx => ∃ G2, OwnsK wx (fun v => ∃ b o n, v = pk b o n ∧ P b) bm G2 ∧ G2 (pk f.b f.o f.ks.length) = some (.int .i64 f.x) ∧ (∀ y, y ≠ pk f.b f.o f.ks.length → G2 y = G y) ∧ wr.grownBy wx (some bm))
        case first =>
          go_region_held3 (fun w' => w'.cell? ⟨w.heap.size, 3, none⟩ = some (.map (some bm)) ∧ w'.cell? ⟨og, q * 3, none⟩ = some (.slice (some ⟨f.b, f.o, none⟩) f.ks.length f.c) ∧ w'.cell? ⟨og, q * 3 + 2, none⟩ = some (.int .i64 f.x)) (go_keep)
            (first
              | (
                go_at_call 71
                refine (keyOfKids_any _ f.b f.o f.ks.length f.c hk0 hKf.2.1).mono ?_
                rintro e w1 ⟨rfl, hb1⟩
                have hbl : ∀ b, b < wr.heap.size → w1.heap[b]? = wr.heap[b]? := fun b hb => hb1.block b hb
                have hgr1 : wr.grownBy w1 (some bm) := ⟨hb1.os, hb1.tape, hb1.output, hb1.size, fun i hi _ => hb1.block i hi⟩
                have k3 : w1.cell? ⟨w.heap.size, 3, none⟩ = some (.map (some bm)) := (World.cell?_of_block (w := wr) (a := ⟨w.heap.size, 3, none⟩) (hbl _ hls)).trans hs3
                have kp : w1.cell? ⟨og, q * 3, none⟩ = some (.slice (some ⟨f.b, f.o, none⟩) f.ks.length f.c) := (World.cell?_of_block (w := wr) (a := ⟨og, q * 3, none⟩) (hbl _ hlo)).trans q0
                have kq : w1.cell? ⟨og, q * 3 + 2, none⟩ = some (.int .i64 f.x) := (World.cell?_of_block (w := wr) (a := ⟨og, q * 3 + 2, none⟩) (hbl _ hlo)).trans q2
                obtain ⟨w2, G2, hrun, hG2, hGx, hGo, hgr2⟩ := (hG.of_block (hbl _ hlm)).store (keyK (w := w1) (fun v hv => by obtain ⟨b, o, n, e, hb⟩ := hv; exact ⟨b, o, n, e, (hP b hb).2.of_block ((hbl b (by have := (hP b hb).1; omega)).trans (hsame b hb))⟩)) Tryz.underlying91 ⟨f.b, f.o, f.ks.length, rfl, hKf.1⟩ (.int .i64 f.x)
                have j3 : w2.cell? ⟨w.heap.size, 3, none⟩ = some (.map (some bm)) := (hgr2.cell_far ⟨w.heap.size, 3, none⟩ (by show w.heap.size < _; have := hb1.size; simp at this; omega) (by simp; omega)).trans k3
                have jp : w2.cell? ⟨og, q * 3, none⟩ = some (.slice (some ⟨f.b, f.o, none⟩) f.ks.length f.c) := (hgr2.cell_far ⟨og, q * 3, none⟩ (by show og < _; have := hb1.size; simp at this; omega) (by simp; omega)).trans kp
                have jq : w2.cell? ⟨og, q * 3 + 2, none⟩ = some (.int .i64 f.x) := (hgr2.cell_far ⟨og, q * 3 + 2, none⟩ (by show og < _; have := hb1.size; simp at this; omega) (by simp; omega)).trans kq))
          all_goals
            go_wp2_with fail
            go_meet
            case rel => exact ⟨G2, hG2, hGx, hGo, grown_trans hgr1 hgr2⟩
        case rest =>
        obtain ⟨G2, hG2, hGx, hGo, hgr2⟩ := hcut
        obtain ⟨wa, rfl⟩ : ∃ x, x = wc := ⟨wc, rfl⟩
        have j2 : wa.cell? ⟨w.heap.size, 2, none⟩ = some (.int .i64 most) := (hgr2.cell_far ⟨w.heap.size, 2, none⟩ hls (by simp; omega)).trans hs2
        have jq : wa.cell? ⟨og, q * 3 + 2, none⟩ = some (.int .i64 f.x) := (hgr2.cell_far ⟨og, q * 3 + 2, none⟩ hlo (by simp; omega)).trans q2
        obtain ⟨p, hp⟩ : ∃ p, p = r.length := ⟨_, rfl⟩
        have hgq : wa.cell? ⟨og, p * 3 + 2, none⟩ = some (.int .i64 g.x) := by
          have hra : wa.ownsRow (w.heap.size + 1 + 1 + 1) 132 3 (.slice (some ⟨og, 0, none⟩) (q + 1) ocap) (q + 1) (frs (f :: g :: r)) := hrow.kept hgr2 (Or.inr (by simp [Value.ownBlock]; omega))
          have := HQ.out
          rw [hra.cellAt (p * 3 + 2) (by omega), hp, frs_cons, List.getElem?_append_left (by rw [frs_len]; simp; omega), frs_get]
          rfl
        have hgf : wa.frozen? ⟨og, p * 3 + 2, none⟩ = false := by
          have : wa.heap[og]? = some (.cells ocur 132) := (hgr2.block og hlo (by simp; omega)).trans hog2
          exact frozen_of_row _ _ _ _ _ this
        have hsum : (g.x : Int) + f.x ≤ most := by
          have h1 := hU.1.2.2.2
          have h2 := hU.2.le
          have h3 := wL_part ow g.ks g.d
          have h4 := HX.out
          rw [hdl, List.take_length] at h4
          omega
        obtain ⟨m, hm⟩ : ∃ m, m = q * 3 := ⟨_, rfl⟩
        rw [← hm] at jq ⊢
        have HM : Hid (m = q * 3) := hm
        have HPP : Hid (p = r.length) := hp
        have hpq : q = p + 1 := by have := HQ.out; omega
        have hpi : (p : Int) ≤ 2097152 := by omega
        have hwr : IntKind.i64.wrap ((q : Int) - 1) = (p : Int) := by rw [IntWalk.i64_in _ (by omega)]; omega
        have hwj : IntKind.i64.wrap (p : Int) = (p : Int) := IntWalk.i64_in _ (by omega)
        have hq1 : (q : Int) - 1 = (p : Int) := by omega
        have hlt : (p : Int) < (q : Int) := by omega
        have hlt' : p < q := by omega
        have HPQ : Hid (q = p + 1) := hpq
        clear hm hp q0 q1 q2 hpq hle
        go_wp2_with fail
        go_region_with (
          go_at_call 72
          refine (add_yes wa.drew og (p * 3) (g.x : Int) (f.x : Int) most hgq hgf (by omega) (by omega) hsum hmost).mono ?_
          rintro e w3 ⟨rfl, hw3⟩)
        all_goals
          go_wp2_with fail
          go_roundg (todoF ({ g with x := g.x + f.x } :: r))
          case measure => simp only [todoF]; omega
          case rel =>
            have e1 : p = r.length := HPP.out
            have e2 : q = r.length + 1 := by have := HPQ.out; omega
            refine ⟨_, _, rfl, ?_⟩
            rw [e2]
            refine winv_pop (wr := wr) (wa := wa) (G2 := G2) ?_ hdl hbm hog1 hG2 hGx ⟨G, hKn, hGo⟩ hgr2 1 (by rw [e1]; rfl)
            exact HI.out
    · have hdlt : f.d < f.ks.length := by omega
      have hdi : ¬ (f.d : Int) = (f.ks.length : Int) := by omega
      have hdi2 : (f.d : Int) < (f.ks.length : Int) := by omega
      obtain ⟨d0, d1, d2, d3, d4, hRx, c0, -, -, c3, c4⟩ := hStd.read hU hR (by rw [hO0r, hO0]) hsame f.d hdlt
      obtain ⟨na', ka', nc', kc', ev, hn16, hKx⟩ := hRx.form
      simp only [Value.agg.injEq, Array.mk.injEq, List.cons.injEq, and_true] at ev
      obtain ⟨rfl, rfl, rfl, rfl, rfl⟩ := ev
      obtain ⟨x, hxe⟩ : ∃ x, x = kth f.ks f.d := ⟨_, rfl⟩
      rw [← hxe] at hn16 hKx c0 c3 c4
      have HXE : Hid (x = kth f.ks f.d) := hxe
      clear hxe
      obtain ⟨q, hq⟩ : ∃ q, q = r.length := ⟨_, rfl⟩
      rw [← hq] at q0 q1 q2 hri hrow hog3 ⊢
      have HQ : Hid (q = r.length) := hq
      have h80 : (f.ks.length : Int) ≤ 3518437208884 := by
        rcases r with _ | ⟨g, r⟩
        · have : f.ks = [root] := hU
          rw [this]; simp
        · have := hStd.1.1.2.1; omega
      have hwhole : (f.x : Int) + (ow x : Nat) + (wL ow x.kids : Nat) ≤ most := by
        have h1 := wL_take ow f.ks f.d hdlt
        rw [← HXE.out, wV_eq, ← HX.out] at h1
        have h2 := wL_part ow f.ks (f.d + 1)
        have h3 := hU.le
        omega
      have hFx := fun n => hF (wr.drewN n) f.b (f.o + f.d * 5) x na' ka' nc' kc' c0 c3 c4 hn16
      clear hq hle
      go_wp2_with fail
      go_quiet (fail)
      go_wp2_with fail
      go_cut [8, 9] (fun a b wx => a = .int .i64 (ow x : Nat) ∧ b = .slice ka' x.kids.length kc' ∧ ∃ k, wx = wr.drewN k)
      case first =>
        go_region_held3 (fun w' => w'.cell? ⟨w.heap.size, 0, none⟩ = some (.func (.func F) #[] #[]) ∧ w'.cell? ⟨og, q * 3, none⟩ = some (.slice (some ⟨f.b, f.o, none⟩) f.ks.length f.c) ∧ w'.cell? ⟨og, q * 3 + 1, none⟩ = some (.int .i64 f.d)) (go_keep)
          (first | (refine (hFx _).mono ?_; rintro e w1 ⟨rfl, k1, rfl⟩))
        all_goals
          go_wp2_with fail
          go_meet
          case rel => exact ⟨rfl, rfl, _, rfl⟩
      case rest =>
      obtain ⟨rfl, rfl, kd, rfl⟩ := hcut
      have hM0 : Hid (Mid w P bm O0 OS (wr.drewN kd) (.slice (some ⟨og, 0, none⟩) (r.length + 1) ocap) f r G) := Mid.drew ⟨hgr, hOSr, hO0r, by have := HI.out.2.2.2.1; exact this, hG⟩ kd
      have hfz : ∀ j, wr.frozen? ⟨og, j, none⟩ = false := fun j => hrow.frozenAt j
      have z1 := hfz (q * 3 + 1)
      have hown0 : (ow x : Int) + f.x ≤ most := by omega
      clear hfz
      have hM1 : Hid (Mid w P bm O0 OS ((wr.drewN kd).setCell ⟨og, q * 3 + 1, none⟩ (.int .i64 ((f.d : Int) + 1))) (.slice (some ⟨og, 0, none⟩) (r.length + 1) ocap) { f with d := f.d + 1 } r G) := hM0.out.set hog1 hbm 1 _ (by simp [Fr.cells]) _ (by rw [HQ.out])
      obtain ⟨-, -, c2, z2⟩ := hM1.out.read q HQ.out
      have z2' := z2 (q * 3 + 2)
      clear z2
      have hAdd := add_yes _ og (q * 3) (f.x : Int) (ow x : Int) most c2 z2' (by omega) (by omega) (by omega) hmost
      clear c2 z2'
      by_cases hk0 : x.kids = []
      · have hl0 : x.kids.length = 0 := by simp [hk0]
        have hl1 : (x.kids.length : Int) = 0 := by omega
        go_wp2_with fail
        refine hAdd.mono ?_
        rintro e w1 ⟨rfl, hw1⟩
        have hM2 : Mid w P bm O0 OS w1 (.slice (some ⟨og, 0, none⟩) (r.length + 1) ocap) { f with d := f.d + 1, x := f.x + ow x } r G := by
          rw [hw1]
          exact hM1.out.set hog1 hbm 2 _ (by simp [Fr.cells]) _ (by rw [HQ.out])
        have HM2 := hid_of hM2
        clear hw1 hM2
        go_wp2_with fail
        go_roundg (todoF ({ f with d := f.d + 1, x := f.x + ow x } :: r))
        case measure => have := todo_next f r (f.x + ow x) hdlt; have := cntV_pos (kth f.ks f.d); omega
        case rel =>
          refine ⟨{ f with d := f.d + 1, x := f.x + ow x }, r, rfl, ?_⟩
          rw [HQ.out]
          refine HM2.out.inv (hKn.stay ⟨rfl, rfl, rfl⟩) (hStd.kids ⟨rfl, rfl, rfl⟩) (hU.kids rfl) hdlt ?_
          show f.x + ow x = wL ow (f.ks.take (f.d + 1))
          rw [wL_take ow f.ks f.d hdlt, ← HXE.out, wV_eq, hk0, HX.out]; simp [wL]
      · obtain ⟨kb, ko, rfl, hKA⟩ := hKx.at hk0
        have hl0 : 0 < x.kids.length := List.length_pos_iff.2 hk0
        have hl1 : ¬ (x.kids.length : Int) = 0 := by omega
        go_wp2_with fail
        refine hAdd.mono ?_
        rintro e w1 ⟨rfl, hw1⟩
        have hM2 : Mid w P bm O0 OS w1 (.slice (some ⟨og, 0, none⟩) (r.length + 1) ocap) { f with d := f.d + 1, x := f.x + ow x } r G := by
          rw [hw1]
          exact hM1.out.set hog1 hbm 2 _ (by simp [Fr.cells]) _ (by rw [HQ.out])
        clear hw1 hAdd hM0 hM1 q0 q1 q2 c0 c3 c4 hs0 hs1 hs2 hs3
        obtain ⟨k1, k2, k3, kl⟩ := hM2.cells hOS
        obtain ⟨-, -, -, kz⟩ := hM2.read q HQ.out
        have HM2 := hid_of hM2
        clear hM2
        go_wp2_with fail
        go_cut [10, 11] (fun a b wx => ∃ (m : Int) (t : Bool), a = .int .i64 m ∧ b = .bool t ∧ ((t = true ∧ m = (wL ow x.kids : Nat)) ∨ (t = false ∧ m = 0)) ∧ Mid w P bm O0 OS wx (.slice (some ⟨og, 0, none⟩) (r.length + 1) ocap) { f with d := f.d + 1, x := f.x + ow x } r G)
        case first =>
          go_region_with (
            go_at_call 71
            refine (keyOfKids_any _ kb ko x.kids.length kc' hl0 hKA.2.1).mono ?_
            rintro e w2 ⟨rfl, hb2⟩
            have hM3 := (HM2.out.drew 1).below hb2
            obtain ⟨-, -, k3', -⟩ := hM3.cells hOS
            have hrun := hM3.2.2.2.2.look true (hM3.key hP hne) Tryz.underlying91 (zero_int w2) ⟨kb, ko, x.kids.length, rfl, hKA.1⟩
            rw [if_pos rfl] at hrun
            have HM3 := hid_of hM3
            clear hM3)
          all_goals
            go_wp2_with fail
            go_meet
            case rel =>
              cases hg : G (pk kb ko x.kids.length) with
              | none => exact ⟨0, false, rfl, rfl, Or.inr ⟨rfl, rfl⟩, HM3.out⟩
              | some v =>
                have hv : v = .int .i64 (wL ow x.kids : Nat) := by
                  have hKA' := hKA
                  rw [HXE.out] at hKA' hg ⊢
                  exact hKn.met hU hdlt hKA' hg
                exact ⟨(wL ow x.kids : Nat), true, hv, rfl, Or.inl ⟨rfl, rfl⟩, HM3.out⟩
        case rest =>
        obtain ⟨m, t, rfl, rfl, hmt, hM3⟩ := hcut
        obtain ⟨wa, rfl⟩ : ∃ y, y = wc := ⟨wc, rfl⟩
        clear k1 k2 k3 kl kz HM2
        obtain ⟨k1, k2, k3, kl⟩ := hM3.cells hOS
        obtain ⟨-, -, kx, kz⟩ := hM3.read q HQ.out
        have kz2 := kz (q * 3 + 2)
        have HM3 := hid_of hM3
        have hsum := hwhole
        rcases hmt with ⟨rfl, rfl⟩ | ⟨rfl, rfl⟩
        · have hAdd := add_yes _ og (q * 3) ((f.x + ow x : Nat) : Int) ((wL ow x.kids : Nat) : Int) most kx kz2 (by omega) (by omega) (by omega) hmost
          clear kz kx kz2 hM3
          go_wp2_with fail
          refine hAdd.mono ?_
          rintro e w4 ⟨rfl, hw4⟩
          have hM4 : Mid w P bm O0 OS w4 (.slice (some ⟨og, 0, none⟩) (r.length + 1) ocap) { f with d := f.d + 1, x := f.x + ow x + wL ow x.kids } r G := by
            rw [hw4]
            exact HM3.out.set hog1 hbm 2 _ (by simp [Fr.cells]) _ (by rw [HQ.out])
          have HM4 := hid_of hM4
          clear hw4 hM4
          go_wp2_with fail
          go_roundg (todoF ({ f with d := f.d + 1, x := f.x + ow x + wL ow x.kids } :: r))
          case measure => have := todo_next f r (f.x + ow x + wL ow x.kids) hdlt; have := cntV_pos (kth f.ks f.d); omega
          case rel =>
            refine ⟨{ f with d := f.d + 1, x := f.x + ow x + wL ow x.kids }, r, rfl, ?_⟩
            rw [HQ.out]
            refine HM4.out.inv (hKn.stay ⟨rfl, rfl, rfl⟩) (hStd.kids ⟨rfl, rfl, rfl⟩) (hU.kids rfl) hdlt ?_
            show f.x + ow x + wL ow x.kids = wL ow (f.ks.take (f.d + 1))
            rw [wL_take ow f.ks f.d hdlt, ← HXE.out, wV_eq, HX.out]; omega
        · have hAdd := add_yes _ og (q * 3) ((f.x + ow x : Nat) : Int) 0 most kx kz2 (by omega) (by omega) (by omega) hmost
          clear kz kx kz2 hM3
          go_wp2_with fail
          refine hAdd.mono ?_
          rintro e w4 ⟨rfl, hw4⟩
          have hM4 : Mid w P bm O0 OS w4 (.slice (some ⟨og, 0, none⟩) (r.length + 1) ocap) { f with d := f.d + 1, x := f.x + ow x } r G := by
            rw [hw4]
            exact HM3.out.set hog1 hbm 2 _ (by simp [Fr.cells]) _ (by rw [HQ.out])
          have HM4 := hid_of hM4
          clear hw4 k1 k2 k3 kl
          obtain ⟨k1, k2, k3, kl⟩ := hM4.cells hOS
          clear hM4
          go_wp2_with fail
          go_cut [] (fun wx => ∃ G2, Mid w P bm O0 OS wx (.slice (some ⟨og, 0, none⟩) (r.length + 1) ocap) { f with d := f.d + 1, x := f.x + ow x } r G2 ∧ ∀ y, y ≠ pk kb ko x.kids.length → G2 y = G y)
          case first =>
            go_region_with (
              go_at_call 71
              refine (keyOfKids_any _ kb ko x.kids.length kc' hl0 hKA.2.1).mono ?_
              rintro e w5 ⟨rfl, hb5⟩
              have hM5 := (HM4.out.drew 1).below hb5
              obtain ⟨k1', -, k3', -⟩ := hM5.cells hOS
              obtain ⟨w6, G6, hrun, hG6, -, hGo, hgr6⟩ := hM5.2.2.2.2.store (hM5.key hP hne) Tryz.underlying91 ⟨kb, ko, x.kids.length, rfl, hKA.1⟩ (.int .i64 ring)
              have HM6 := hid_of (hM5.map hbm hgr6 hG6)
              clear hM5)
            all_goals
              go_wp2_with fail
              go_meet
              case rel => exact ⟨G6, HM6.out, hGo⟩
          case rest =>
          obtain ⟨G6, hM6, hGo⟩ := hcut
          obtain ⟨wb, rfl⟩ : ∃ y, y = wc := ⟨wc, rfl⟩
          have hr6 : wb.ownsRow (w.heap.size + 1 + 1 + 1) 132 3 (.slice (some ⟨og, 0, none⟩) (q + 1) ocap) (q + 1) (frs ({ f with d := f.d + 1, x := f.x + ow x } :: r)) := by rw [HQ.out]; exact hM6.2.2.2.1
          have hl6 := hr6.lt og rfl
          obtain ⟨iw, hi, hi0, hi1, hi2⟩ := info_parts info_wg
          have HM6 := hid_of hM6
          have HGO := hid_of hGo
          clear hM6 hGo HM3 HM4 k1 k2 k3 kl
          go_wp2_with (
            at_builtin
            refine wpList_append_lies _ rfl _ _ 133 rfl (w.heap.size + 1 + 1 + 1) 132 iw (.agg #[.slice none 0 0, .int .i64 0, .int .i64 0]) 3 40 Tryz.underlying133 hi hi0 hi1 hi2 rfl (by decide) _ (q + 1) _ rfl (hr6.alloc _) ⟨wb.heap.size, 0, none⟩ 1 1 [.slice (some ⟨kb, ko, none⟩) x.kids.length kc', .int .i64 0, .int .i64 0] rfl rfl (World.news_of_block (heap_alloc_new wb _)) (by intro u hu; simp at hu; rcases hu with rfl | rfl | rfl <;> rfl) (by omega) (by unfold maxLen; omega) (by omega) (by simp; omega) _ rfl ?_)
          intro g2 cap2 w7 hown7 hgrow7 hat7 hlt7
          go_wp2_with fail
          go_roundg (todoF (⟨kb, ko, kc', x.kids, 0, 0⟩ :: { f with d := f.d + 1, x := f.x + ow x } :: r))
          case measure =>
            have h1 := todo_next f r (f.x + ow x) hdlt
            have h2 := cntV_eq x
            rw [← HXE.out] at h1
            simp only [todoF, List.drop_zero] at h1 ⊢
            omega
          case rel =>
            refine ⟨⟨kb, ko, kc', x.kids, 0, 0⟩, { f with d := f.d + 1, x := f.x + ow x } :: r, rfl, ?_⟩
            have hpush := Mid.push (W' := w7) (vo' := .slice (some ⟨g2, 0, none⟩) (q + 1 + 1) cap2) (g := ⟨kb, ko, kc', x.kids, 0, 0⟩) (HM6.out.below (below_box wb _)) hog1 hbm hgrow7 (by
              have := hown7
              rw [HQ.out] at this ⊢
              exact this)
            refine hpush.inv (KnOk.push (hKn.stay (f' := { f with d := f.d + 1, x := f.x + ow x }) ⟨rfl, rfl, rfl⟩) hKA HGO.out) ⟨⟨hKA, hl0⟩, hStd.kids ⟨rfl, rfl, rfl⟩⟩ ⟨⟨by simp, hdlt, ?_, ?_⟩, hU.kids rfl⟩ (Nat.zero_le _) (by simp [wL])
            · show x.kids = (kth f.ks (f.d + 1 - 1)).kids
              rw [Nat.add_sub_cancel, ← HXE.out]
            · show f.x + ow x + wL ow x.kids = wL ow (f.ks.take (f.d + 1))
              rw [wL_take ow f.ks f.d hdlt, ← HXE.out, wV_eq, HX.out]; omega
end Go.Proofs.YtbpdchlbhfjddaaGreat
