import Derived.Test.YtibpieomldhomaaGreatDoorCopyS
import Derived.Test.YtibpieomldhomaaGreatDoorPSpec
import Derived.Deep.AppendLies
import Derived.Deep.RegionLaw
import Derived.Maps.AppendAt
import Derived.Test.YtibpieomldhomaaGreatDoorIFind
import Derived.Test.YtibpieomldhomaaGreatDoorPFind
namespace Go.Proofs.YtibpieomldhomaaGreatDoor
set_option linter.unusedSimpArgs false
set_option linter.unusedVariables false
open Go.RowKit

theorem below_sets {B N : Nat} {a w : World} (h : Below B a w) (hN : B ≤ N) (v0 v1 v2 v3 v4 v5 v6 v7 : Value) :
    Below B a ((((((((w.setCell ⟨N, 0, none⟩ v0).setCell ⟨N, 1, none⟩ v1).setCell ⟨N, 2, none⟩ v2).setCell ⟨N, 3, none⟩ v3).setCell ⟨N, 4, none⟩ v4).setCell ⟨N, 5, none⟩ v5).setCell ⟨N, 6, none⟩ v6).setCell ⟨N, 7, none⟩ v7) :=
  puts_below hN [v0, v1, v2, v3, v4, v5, v6, v7] w 0 h
theorem sets_block {N b : Nat} (h : b ≠ N) (w : World) (v0 v1 v2 v3 v4 v5 v6 v7 : Value) :
    ((((((((w.setCell ⟨N, 0, none⟩ v0).setCell ⟨N, 1, none⟩ v1).setCell ⟨N, 2, none⟩ v2).setCell ⟨N, 3, none⟩ v3).setCell ⟨N, 4, none⟩ v4).setCell ⟨N, 5, none⟩ v5).setCell ⟨N, 6, none⟩ v6).setCell ⟨N, 7, none⟩ v7).heap[b]? = w.heap[b]? :=
  puts_block N b h [v0, v1, v2, v3, v4, v5, v6, v7] w 0
theorem sets_size {N : Nat} (w : World) (v0 v1 v2 v3 v4 v5 v6 v7 : Value) :
    ((((((((w.setCell ⟨N, 0, none⟩ v0).setCell ⟨N, 1, none⟩ v1).setCell ⟨N, 2, none⟩ v2).setCell ⟨N, 3, none⟩ v3).setCell ⟨N, 4, none⟩ v4).setCell ⟨N, 5, none⟩ v5).setCell ⟨N, 6, none⟩ v6).setCell ⟨N, 7, none⟩ v7).heap.size = w.heap.size :=
  puts_size N [v0, v1, v2, v3, v4, v5, v6, v7] w 0
theorem sets_cells {w : World} {N : Nat} {c : Array Value} {T : TypeId} (hb : w.heap[N]? = some (.cells c T (0, 0))) (hc : c.size = 8) (v0 v1 v2 v3 v4 v5 v6 v7 : Value) (W : World)
    (hW : W.heap[N]? = ((((((((w.setCell ⟨N, 0, none⟩ v0).setCell ⟨N, 1, none⟩ v1).setCell ⟨N, 2, none⟩ v2).setCell ⟨N, 3, none⟩ v3).setCell ⟨N, 4, none⟩ v4).setCell ⟨N, 5, none⟩ v5).setCell ⟨N, 6, none⟩ v6).setCell ⟨N, 7, none⟩ v7).heap[N]?) :
    W.cell? ⟨N, 0, none⟩ = some v0 ∧ W.cell? ⟨N, 1, none⟩ = some v1 ∧ W.cell? ⟨N, 2, none⟩ = some v2 ∧ W.cell? ⟨N, 3, none⟩ = some v3 ∧ W.cell? ⟨N, 4, none⟩ = some v4 ∧ W.cell? ⟨N, 5, none⟩ = some v5 ∧ W.cell? ⟨N, 6, none⟩ = some v6 ∧ W.cell? ⟨N, 7, none⟩ = some v7 := by
  have hrow : w.rowIs N T 8 (fun i => c[i]?.getD undef) := ⟨c, hb, hc, fun i hi => by simp [show i < c.size by omega]⟩
  obtain ⟨G', hG, hG1, -⟩ := puts_row [v0, v1, v2, v3, v4, v5, v6, v7] 0 hrow
  have hG2 : W.rowIs N T 8 G' := hG.of_block hW
  have g : ∀ j, j < 8 → W.cell? ⟨N, j, none⟩ = some ([v0, v1, v2, v3, v4, v5, v6, v7].getD j undef) := fun j hj => by
    have := hG1 j hj
    rw [Nat.zero_add] at this
    rw [hG2.cell hj, this]
  exact ⟨g 0 (by omega), g 1 (by omega), g 2 (by omega), g 3 (by omega), g 4 (by omega), g 5 (by omega), g 6 (by omega), g 7 (by omega)⟩
end Go.Proofs.YtibpieomldhomaaGreatDoor

namespace Go.Proofs.YtibpieomldhomaaGreatDoor
set_option linter.unusedSimpArgs false
set_option linter.unusedVariables false
open Go.RowKit Go.Maps

/-- What is known of blocks: the elements' type and how many there are. -/
abbrev Sh := Nat → Option (TypeId × Nat)
/-- How great things may be: types of a part, fields of a type, needs of a field, a text's bytes; and whether a type's name is no word of values. -/
structure Bd where
  nt : Nat
  nf : Nat
  nn : Nat
  st : Bool
def Bd.le (a b : Bd) : Prop := a.nt ≤ b.nt ∧ a.nf ≤ b.nf ∧ a.nn ≤ b.nn ∧ (b.st = true → a.st = true)
theorem Bd.le.refl (a : Bd) : a.le a := ⟨Nat.le_refl _, Nat.le_refl _, Nat.le_refl _, id⟩
theorem Bd.le.trans {a b c : Bd} (h : a.le b) (k : b.le c) : a.le c := ⟨Nat.le_trans h.1 k.1, Nat.le_trans h.2.1 k.2.1, Nat.le_trans h.2.2.1 k.2.2.1, fun x => h.2.2.2 (k.2.2.2 x)⟩

/-- How many cells an element has. -/
def wide (T : TypeId) : Nat := if T = 30 then 8 else if T = 40 then 3 else 1
theorem wide_pos (T : TypeId) : 0 < wide T := by
  unfold wide
  split
  · omega
  · split <;> omega
theorem wideF : wide 30 = 8 := rfl
theorem wideT : wide 40 = 3 := rfl
theorem wideS : wide 9 = 1 := rfl
/-- A slice of elements of a type, at a known block's begin. -/
def SlOk (σ : Sh) (T : TypeId) (N : Nat) (v : Value) : Prop := ∃ (a : Option Addr) (len cap : Nat), v = .slice a len cap ∧ len ≤ N ∧ len ≤ cap ∧ cap ≤ maxLen ∧ ((a = none ∧ len = 0 ∧ cap = 0) ∨ ∃ b, a = some ⟨b, 0, none⟩ ∧ σ b = some (T, cap))
def StOk (v : Value) : Prop := ∃ s : ByteArray, v = .string s ∧ s.size ≤ 12
def NmOk (st : Bool) (v : Value) : Prop := ∃ s : ByteArray, v = .string s ∧ s.size ≤ 12 ∧ (st = true → scalarB s = false)
def BoOk (v : Value) : Prop := ∃ b : Bool, v = .bool b
/-- What a cell may hold: by its element's type and its place within the element. -/
def CellOk (σ : Sh) (B : Bd) (T : TypeId) (j : Nat) (v : Value) : Prop :=
  if T = 30 then (if j < 2 then StOk v else if j < 7 then BoOk v else SlOk σ 9 B.nn v)
  else if T = 40 then (if j = 0 then NmOk B.st v else if j = 1 then StOk v else SlOk σ 30 B.nf v)
  else StOk v
/-- Memory is as σ says. -/
def Wf (w : World) (σ : Sh) (B : Bd) : Prop := ∀ b T n, σ b = some (T, n) → ∃ cur : Array Value, w.heap[b]? = some (.cells cur T (0, 0)) ∧ cur.size = n * wide T ∧ ∀ k v, cur[k]? = some v → CellOk σ B T (k % wide T) v
/-- All that was known is known. -/
def Ext (σ σ' : Sh) : Prop := ∀ b T n, σ b = some (T, n) → σ' b = some (T, n)
theorem Ext.refl (σ : Sh) : Ext σ σ := fun _ _ _ h => h
theorem Ext.trans {a b c : Sh} (h : Ext a b) (k : Ext b c) : Ext a c := fun x T n q => k x T n (h x T n q)
/-- One block more is known. -/
def Sh.add (σ : Sh) (N : Nat) (T : TypeId) (n : Nat) : Sh := fun b => if b = N then some (T, n) else σ b
theorem Sh.add_ext {σ : Sh} {N n : Nat} {T : TypeId} (h : σ N = none) : Ext σ (σ.add N T n) := fun b T' n' hb => by
  unfold Sh.add
  by_cases e : b = N
  · subst e; rw [h] at hb; cases hb
  · rw [if_neg e, hb]
theorem Sh.add_self (σ : Sh) (N : Nat) (T : TypeId) (n : Nat) : σ.add N T n N = some (T, n) := if_pos rfl
theorem Sh.add_ne (σ : Sh) (N : Nat) (T : TypeId) (n b : Nat) (h : b ≠ N) : σ.add N T n b = σ b := if_neg h

theorem SlOk.ext {σ σ' : Sh} {T : TypeId} {N N' : Nat} {v : Value} (h : SlOk σ T N v) (he : Ext σ σ') (hN : N ≤ N') : SlOk σ' T N' v := by
  obtain ⟨a, len, cap, rfl, h1, h2, h3, h4⟩ := h
  exact ⟨a, len, cap, rfl, by omega, h2, h3, h4.imp id fun ⟨b, hb, hs⟩ => ⟨b, hb, he _ _ _ hs⟩⟩
theorem CellOk.ext {σ σ' : Sh} {B B' : Bd} {T : TypeId} {j : Nat} {v : Value} (h : CellOk σ B T j v) (he : Ext σ σ') (hB : B.le B') : CellOk σ' B' T j v := by
  unfold CellOk at h ⊢
  obtain ⟨h1, h2, h3, h4⟩ := hB
  split
  · rename_i e; rw [if_pos e] at h
    split
    · rename_i e; rw [if_pos e] at h; exact h
    · rename_i e; rw [if_neg e] at h
      split
      · rename_i e; rw [if_pos e] at h; exact h
      · rename_i e; rw [if_neg e] at h; exact h.ext he h3
  · rename_i e; rw [if_neg e] at h
    split
    · rename_i e; rw [if_pos e] at h
      split
      · rename_i e; rw [if_pos e] at h
        obtain ⟨s, rfl, q1, q2⟩ := h
        exact ⟨s, rfl, q1, fun x => q2 (h4 x)⟩
      · rename_i e; rw [if_neg e] at h
        split
        · rename_i e; rw [if_pos e] at h; exact h
        · rename_i e; rw [if_neg e] at h; exact h.ext he h2
    · rename_i e; rw [if_neg e] at h; exact h
theorem Wf.le {w : World} {σ : Sh} {B B' : Bd} (h : Wf w σ B) (hB : B.le B') : Wf w σ B' := fun b T n hb => by
  obtain ⟨cur, h1, h2, h3⟩ := h b T n hb
  exact ⟨cur, h1, h2, fun k v hv => (h3 k v hv).ext (Ext.refl _) hB⟩
theorem Wf.keep {w w' : World} {σ : Sh} {B : Bd} (h : Wf w σ B) (hb : ∀ b T n, σ b = some (T, n) → w'.heap[b]? = w.heap[b]?) : Wf w' σ B := fun b T n hs => by
  obtain ⟨cur, h1, h2⟩ := h b T n hs
  exact ⟨cur, (hb b T n hs).trans h1, h2⟩
theorem Wf.lt {w : World} {σ : Sh} {B : Bd} (h : Wf w σ B) {b : Nat} {T : TypeId} {n : Nat} (hs : σ b = some (T, n)) : b < w.heap.size := by
  obtain ⟨cur, h1, -⟩ := h b T n hs
  exact (Array.getElem?_eq_some_iff.1 h1).1
theorem Wf.fresh {w : World} {σ : Sh} {B : Bd} (h : Wf w σ B) {b : Nat} (hb : w.heap.size ≤ b) : σ b = none := by
  cases e : σ b with
  | none => rfl
  | some x => obtain ⟨T, n⟩ := x; have := h.lt e; omega
theorem Wf.below {w w' : World} {σ : Sh} {B : Bd} (h : Wf w σ B) (hb : Below w.heap.size w w') : Wf w' σ B := h.keep fun b T n hs => hb.block b (h.lt hs)
theorem Wf.nil (w : World) (B : Bd) : Wf w (fun _ => none) B := fun _ _ _ h => by cases h
/-- A cell of a known block. -/
theorem Wf.cell {w : World} {σ : Sh} {B : Bd} (h : Wf w σ B) {b : Nat} {T : TypeId} {n : Nat} (hs : σ b = some (T, n)) (i j : Nat) (hi : i < n) (hj : j < wide T) : ∃ v, w.cell? ⟨b, i * wide T + j, none⟩ = some v ∧ CellOk σ B T j v ∧ w.frozen? ⟨b, i * wide T + j, none⟩ = false := by
  obtain ⟨cur, h1, h2, h3⟩ := h b T n hs
  have hlt : i * wide T + j < cur.size := by
    rw [h2]
    calc i * wide T + j < i * wide T + wide T := by omega
      _ = (i + 1) * wide T := by rw [Nat.add_mul, Nat.one_mul]
      _ ≤ n * wide T := Nat.mul_le_mul_right _ hi
  refine ⟨cur[i * wide T + j], ?_, ?_, ?_⟩
  · rw [cell_of_row w b _ cur T (0, 0) h1, Array.getElem?_eq_getElem hlt]
  · have := h3 _ _ (Array.getElem?_eq_getElem hlt)
    have e : (i * wide T + j) % wide T = j := by rw [Nat.mul_comm i, Nat.mul_add_mod, Nat.mod_eq_of_lt hj]
    rw [e] at this
    exact this
  · simp [World.frozen?, h1]
/-- A block becomes known. -/
theorem Wf.add {w : World} {σ : Sh} {B : Bd} (h : Wf w σ B) {N : Nat} {T : TypeId} {n : Nat} {cur : Array Value} (hN : σ N = none) (hb : w.heap[N]? = some (.cells cur T (0, 0))) (hz : cur.size = n * wide T) (hc : ∀ k v, cur[k]? = some v → CellOk σ B T (k % wide T) v) : Wf w (σ.add N T n) B := by
  have he := Sh.add_ext (T := T) (n := n) hN
  intro b T' n' hs
  by_cases e : b = N
  · subst e
    rw [Sh.add_self] at hs
    cases hs
    exact ⟨cur, hb, hz, fun k v hv => (hc k v hv).ext he (Bd.le.refl _)⟩
  · rw [Sh.add_ne _ _ _ _ _ e] at hs
    obtain ⟨cur', h1, h2, h3⟩ := h b T' n' hs
    exact ⟨cur', h1, h2, fun k v hv => (h3 k v hv).ext he (Bd.le.refl _)⟩
/-- A known block's cells are changed for others that may stand there. -/
theorem Wf.row {w w' : World} {σ : Sh} {B : Bd} (h : Wf w σ B) {N : Nat} {T : TypeId} {n : Nat} {cur : Array Value} (hN : σ N = some (T, n)) (hb : w'.heap[N]? = some (.cells cur T (0, 0))) (hz : cur.size = n * wide T) (hc : ∀ k v, cur[k]? = some v → CellOk σ B T (k % wide T) v) (hr : ∀ b, b ≠ N → b < w.heap.size → w'.heap[b]? = w.heap[b]?) : Wf w' σ B := by
  intro b T' n' hs
  by_cases e : b = N
  · subst e
    rw [hN] at hs
    cases hs
    exact ⟨cur, hb, hz, hc⟩
  · obtain ⟨cur', h1, h2⟩ := h b T' n' hs
    exact ⟨cur', (hr b e (h.lt hs)).trans h1, h2⟩
theorem Wf.set {w : World} {σ : Sh} {B : Bd} (h : Wf w σ B) {N : Nat} {T : TypeId} {n : Nat} (hN : σ N = some (T, n)) (k : Nat) (v : Value) (hv : CellOk σ B T (k % wide T) v) : Wf (w.setCell ⟨N, k, none⟩ v) σ B := by
  obtain ⟨cur, h1, h2, h3⟩ := h N T n hN
  refine h.row hN (cur := cur.setIfInBounds k v) ?_ (by simpa using h2) (fun j u hu => ?_) (fun b hb _ => Below.heap_setCell _ _ _ _ hb)
  · show (w.heap.modify N _)[N]? = _
    rw [Array.getElem?_modify]
    simp [h1]
  · by_cases e : j = k
    · subst e
      rw [Array.getElem?_setIfInBounds_self] at hu
      split at hu
      · cases hu; exact hv
      · cases hu
    · rw [Array.getElem?_setIfInBounds_ne (Ne.symm e)] at hu
      exact h3 j u hu

/-- The slice's own block, and the row that it has. -/
theorem run_append_wf {P : Program} {w : World} {σ : Sh} {B : Bd} (hW : Wf w σ B) (t ty e : TypeId) (i : TypeInfo) (z : Value) (bytes : Nat) (ht : P.underlying t = some (.slice e)) (hi : P.info? e = some i) (hz : i.zero = some z)
    (hsize : i.size = wide e) (hby : i.bytes = bytes) (hzs : z.cells.size = wide e) (hzc : ∀ j u, z.cells[j]? = some u → CellOk σ B e j u)
    (a : Option Addr) (n cap : Nat) (hnc : n ≤ cap) (hcm : cap ≤ maxLen) (hs : (a = none ∧ n = 0 ∧ cap = 0) ∨ ∃ b, a = some ⟨b, 0, none⟩ ∧ σ b = some (e, cap))
    (ad : Addr) (m c : Nat) (news : List Value) (hl : news.length = m * wide e) (hnews : ∀ j u, news[j]? = some u → w.cell? (ad.add j) = some u) (h1 : ∀ u ∈ news, u.oneCell' = true) (hok : ∀ j u, news[j]? = some u → CellOk σ B e (j % wide e) u)
    (hm : 0 < m) (h63 : n + m ≤ maxLen) (hbytes : (n + m) * bytes ≤ 140737488355328) :
    ∃ g cap' w' σ', (Builtin.append_ #[t, t] ty #[.slice a n cap, .slice (some ad) m c]).run P w = .ok (.slice (some ⟨g, 0, none⟩) (n + m) cap') w' ∧ Wf w' σ' B ∧ σ' g = some (e, cap') ∧ n + m ≤ cap' ∧ cap' ≤ maxLen ∧ Ext σ σ' ∧ (∀ b, b < w.heap.size → σ' b = σ b) ∧
      w.grownBy w' (Value.slice a n cap).ownBlock ∧ (∀ b, a = some ⟨b, 0, none⟩ → ∀ j, j < n * wide e → w'.cell? ⟨g, j, none⟩ = w.cell? ⟨b, j, none⟩) ∧ (∀ j u, news[j]? = some u → w'.cell? ⟨g, n * wide e + j, none⟩ = some u) := by
  have hpos := wide_pos e
  subst hby
  have hsmall : n + m ≤ 9223372036854775807 := by simp only [maxLen] at h63; omega
  have zc : ∀ q k v, (Builtin.zeroCells z.cells q)[k]? = some v → CellOk σ B e (k % wide e) v := by
    intro q k v hv
    have hk : k < q * wide e := by
      have := (Array.getElem?_eq_some_iff.1 hv).1
      rw [size_zeroCells, hzs] at this
      exact this
    refine hzc (k % wide e) v ?_
    unfold Builtin.zeroCells at hv
    rw [← hv]
    have hkm : k % wide e < z.cells.size := by rw [hzs]; exact Nat.mod_lt _ hpos
    simp [hzs, hk, hkm, Nat.mod_lt _ hpos]
  -- what the growing arm leaves
  have grown : ∀ (old : Nat) (xs : List Value), xs.length = n * wide e → (∀ j u, xs[j]? = some u → CellOk σ B e (j % wide e) u) → ∀ (row : Option Nat),
      Wf (w.drew.alloc (.cells (xs.toArray ++ news.toArray ++ Builtin.zeroCells z.cells (grownCap w (n + m) old e - (n + m))) e)) (σ.add w.heap.size e (grownCap w (n + m) old e)) B ∧ n + m ≤ grownCap w (n + m) old e ∧ grownCap w (n + m) old e ≤ maxLen ∧
      w.grownBy (w.drew.alloc (.cells (xs.toArray ++ news.toArray ++ Builtin.zeroCells z.cells (grownCap w (n + m) old e - (n + m))) e)) row ∧
      (∀ j u, xs[j]? = some u → (w.drew.alloc (.cells (xs.toArray ++ news.toArray ++ Builtin.zeroCells z.cells (grownCap w (n + m) old e - (n + m))) e)).cell? ⟨w.heap.size, j, none⟩ = some u) ∧
      (∀ j u, news[j]? = some u → (w.drew.alloc (.cells (xs.toArray ++ news.toArray ++ Builtin.zeroCells z.cells (grownCap w (n + m) old e - (n + m))) e)).cell? ⟨w.heap.size, n * wide e + j, none⟩ = some u) := by
    intro old xs hx hxo row
    have hge := grownCap_ge w (n + m) old e
    have hcm : grownCap w (n + m) old e ≤ maxLen := grownCap_le_maxLen w (n + m) old e h63
    generalize grownCap w (n + m) old e = q at *
    have hblk : (w.drew.alloc (.cells (xs.toArray ++ news.toArray ++ Builtin.zeroCells z.cells (q - (n + m))) e)).heap[w.heap.size]? = some (.cells (xs.toArray ++ news.toArray ++ Builtin.zeroCells z.cells (q - (n + m))) e (0, 0)) := heap_alloc_new w.drew _
    have hgr : ∀ row, w.grownBy (w.drew.alloc (.cells (xs.toArray ++ news.toArray ++ Builtin.zeroCells z.cells (q - (n + m))) e)) row := fun row => ⟨rfl, rfl, rfl, by simp, fun k hk _ => (World.grownBy_alloc w.drew _ none).block k hk (by simp)⟩
    have hWn : Wf (w.drew.alloc (.cells (xs.toArray ++ news.toArray ++ Builtin.zeroCells z.cells (q - (n + m))) e)) σ B := hW.keep fun b T n' hb => (hgr none).block b (hW.lt hb) (by simp)
    refine ⟨hWn.add (hW.fresh (Nat.le_refl _)) hblk ?_ ?_, hge, hcm, hgr row, fun j u hu => ?_, fun j u hu => ?_⟩
    · simp only [Array.size_append, List.size_toArray, size_zeroCells, hzs, hx, hl, ← Nat.add_mul]
      congr 1
      omega
    · intro k v hv
      rw [Array.getElem?_append, Array.getElem?_append] at hv
      simp only [Array.size_append, List.size_toArray, hx, hl] at hv
      split at hv
      · split at hv
        · exact hxo k v (by simpa using hv)
        · rename_i e1 e2
          have h2 := hok (k - n * wide e) v (by simpa using hv)
          have e3 : (k - n * wide e) % wide e = k % wide e := by
            obtain ⟨d, rfl⟩ : ∃ d, k = n * wide e + d := ⟨k - n * wide e, by omega⟩
            rw [Nat.add_sub_cancel_left, Nat.mul_comm n, Nat.mul_add_mod]
          rwa [e3] at h2
      · rename_i e1
        have h2 := zc _ (k - (n * wide e + m * wide e)) v hv
        have e3 : (k - (n * wide e + m * wide e)) % wide e = k % wide e := by
          rw [← Nat.add_mul] at e1 ⊢
          obtain ⟨d, rfl⟩ : ∃ d, k = (n + m) * wide e + d := ⟨k - (n + m) * wide e, by omega⟩
          rw [Nat.add_sub_cancel_left, Nat.mul_comm (n + m), Nat.mul_add_mod]
        rwa [e3] at h2
    · rw [cell_of_row _ _ _ _ _ _ hblk]
      have hj := (List.getElem?_eq_some_iff.1 hu).1
      rw [Array.getElem?_append, if_pos (by simp; omega), Array.getElem?_append, if_pos (by simpa using hj)]
      simpa using hu
    · rw [cell_of_row _ _ _ _ _ _ hblk]
      have hj := (List.getElem?_eq_some_iff.1 hu).1
      rw [Array.getElem?_append, if_pos (by simp [hx]; omega), Array.getElem?_append, if_neg (by simp [hx])]
      simpa [hx] using hu
  have hgext : ∀ q, Ext σ (σ.add w.heap.size e q) ∧ ∀ b, b < w.heap.size → (σ.add w.heap.size e q) b = σ b := fun q => ⟨Sh.add_ext (hW.fresh (Nat.le_refl _)), fun b hb => Sh.add_ne _ _ _ _ _ (by omega)⟩
  rcases hs with ⟨rfl, rfl, rfl⟩ | ⟨g, rfl, hg⟩
  · have hr := run_append_nil (P := P) w t ty e i z ht hi hz ad m c news (by rw [hsize]; exact hl) hnews (by omega) (by omega) (by have hb := hbytes; simp only [Nat.zero_add] at hb; omega)
    obtain ⟨g1, g2, g3, g4, -, g6⟩ := grown 0 [] (by simp) (fun j u hu => by simp at hu) none
    simp only [Nat.zero_add, List.nil_append, Array.empty_append] at g1 g2 g3 g4 g6 ⊢
    exact ⟨w.heap.size, _, _, _, hr, g1, Sh.add_self _ _ _ _, g2, g3, (hgext _).1, (hgext _).2, g4, (fun b hb => by cases hb), g6⟩
  · obtain ⟨cur, hb, hcs, hco⟩ := hW g e cap hg
    have hlen : (cur.toList.take (n * wide e)).length = n * wide e := by
      rw [List.length_take, Array.length_toList, hcs]
      exact Nat.min_eq_left (Nat.mul_le_mul_right _ hnc)
    have hxo : ∀ j u, (cur.toList.take (n * wide e))[j]? = some u → CellOk σ B e (j % wide e) u := fun j u hu => by
      rw [List.getElem?_take] at hu
      split at hu
      · exact hco j u (by simpa using hu)
      · cases hu
    have hxc : ∀ j, j < n * wide e → (cur.toList.take (n * wide e))[j]? = cur[j]? := fun j hj => by
      rw [List.getElem?_take, if_pos hj]; simp
    by_cases hroom : n + m ≤ cap
    · have hfit : n * i.size + news.length ≤ cur.size := by rw [hl, hcs, hsize, ← Nat.add_mul]; exact Nat.mul_le_mul_right _ hroom
      have hr := run_append_room (P := P) w t ty e i ht hi g n cap cur hb ad m c news (by rw [hsize]; exact hl) hnews h1 hroom hfit
      rw [hsize] at hr hfit
      have hb' := setRow_heap w g cur (cur.toList.take (n * wide e) ++ news ++ cur.toList.drop (n * wide e + news.length)).toArray e _ hb
      refine ⟨g, cap, _, σ, hr, ?_, hg, hroom, hcm, Ext.refl _, fun _ _ => rfl, ⟨rfl, rfl, rfl, by simp, fun k _ hk => setRow_other w g k _ (fun e => hk (by simp [Value.ownBlock, e]))⟩, fun b hbe j hj => ?_, fun j u hu => ?_⟩
      · refine hW.row hg hb' ?_ ?_ (fun b hb _ => setRow_other w g b _ hb)
        · simp only [List.size_toArray, List.length_append, hlen, List.length_drop, Array.length_toList]
          omega
        · intro k v hv
          simp only [List.getElem?_toArray] at hv
          rw [List.append_assoc, List.getElem?_append] at hv
          split at hv
          · exact hxo k v hv
          · rename_i e1
            rw [hlen] at e1 hv
            rw [List.getElem?_append] at hv
            split at hv
            · have h2 := hok _ v hv
              have e3 : (k - n * wide e) % wide e = k % wide e := by
                obtain ⟨d, rfl⟩ : ∃ d, k = n * wide e + d := ⟨k - n * wide e, by omega⟩
                rw [Nat.add_sub_cancel_left, Nat.mul_comm n, Nat.mul_add_mod]
              rwa [e3] at h2
            · rename_i e2
              rw [List.getElem?_drop] at hv
              have e4 : n * wide e + news.length + (k - n * wide e - news.length) = k := by omega
              rw [e4] at hv
              exact hco k v (by simpa using hv)
      · cases hbe
        rw [cell_of_row _ _ _ _ _ _ hb', cell_of_row _ _ _ _ _ _ hb]
        simp only [List.getElem?_toArray]
        rw [List.append_assoc, List.getElem?_append, if_pos (by rw [hlen]; exact hj), hxc j hj]
      · rw [cell_of_row _ _ _ _ _ _ hb']
        simp only [List.getElem?_toArray]
        have hj := (List.getElem?_eq_some_iff.1 hu).1
        rw [List.append_assoc, List.getElem?_append, if_neg (by rw [hlen]; omega), hlen, Nat.add_sub_cancel_left, List.getElem?_append, if_pos hj, hu]
    · have holds : ∀ j u, (cur.toList.take (n * wide e))[j]? = some u → w.cell? ((⟨g, 0, none⟩ : Addr).add j) = some u := fun j u hu => by
        rw [Addr.add_lit, Nat.zero_add, cell_of_row _ _ _ _ _ _ hb]
        have hj := (List.getElem?_eq_some_iff.1 hu).1
        rw [hlen] at hj
        rw [← hu, hxc j hj]
      have hr := run_append_grow (P := P) w t ty e i z ht hi hz ⟨g, 0, none⟩ n cap _ (by rw [hsize]; exact hlen) holds ad m c news (by rw [hsize]; exact hl) hnews (by omega) (by omega) (growslice_fits (by omega) hbytes)
      obtain ⟨g1, g2, g3, g4, g5, g6⟩ := grown cap _ hlen hxo (Value.ownBlock (.slice (some ⟨g, 0, none⟩) n cap))
      refine ⟨w.heap.size, _, _, _, hr, g1, Sh.add_self _ _ _ _, g2, g3, (hgext _).1, (hgext _).2, g4, fun b hbe j hj => ?_, g6⟩
      cases hbe
      have hj2 : j < cur.size := by
        rw [hcs]
        exact Nat.lt_of_lt_of_le hj (Nat.mul_le_mul_right _ hnc)
      rw [cell_of_row _ _ _ _ _ _ hb, Array.getElem?_eq_getElem hj2]
      exact g5 j _ (by rw [hxc j hj, Array.getElem?_eq_getElem hj2])

/-- At a plain region's list. -/
theorem wpList_append_wf {P : Program} {w : World} {σ : Sh} {B : Bd} (hW : Wf w σ B) {ops : Array Oper} {rest : List Oper} {o : Oper} {ac : Act} {Q : Exit → Act → World → Prop} (hgd : o.guard = none) (s x : Operand) (t : TypeId)
    (ho : o.op = .call { callee := .builtin .append, args := #[s, x], argTypes := #[t, t] })
    (e : TypeId) (i : TypeInfo) (z : Value) (bytes : Nat) (ht : P.underlying t = some (.slice e)) (hi : P.info? e = some i) (hz : i.zero = some z)
    (hsize : i.size = wide e) (hby : i.bytes = bytes) (hzs : z.cells.size = wide e) (hzc : ∀ j u, z.cells[j]? = some u → CellOk σ B e j u)
    (a : Option Addr) (n cap : Nat) (hsv : ac.eval s = .slice a n cap) (hnc : n ≤ cap) (hcm : cap ≤ maxLen) (hs : (a = none ∧ n = 0 ∧ cap = 0) ∨ ∃ b, a = some ⟨b, 0, none⟩ ∧ σ b = some (e, cap))
    (ad : Addr) (m c : Nat) (news : List Value) (hx : ac.eval x = .slice (some ad) m c) (hl : news.length = m * wide e) (hnews : ∀ j u, news[j]? = some u → w.cell? (ad.add j) = some u) (h1 : ∀ u ∈ news, u.oneCell' = true) (hok : ∀ j u, news[j]? = some u → CellOk σ B e (j % wide e) u)
    (hm : 0 < m) (h63 : n + m ≤ maxLen) (hbytes : (n + m) * bytes ≤ 140737488355328)
    (h : ∀ g cap' w' σ', Wf w' σ' B → σ' g = some (e, cap') → n + m ≤ cap' → cap' ≤ maxLen → Ext σ σ' → (∀ b, b < w.heap.size → σ' b = σ b) →
      w.grownBy w' (Value.slice a n cap).ownBlock → (∀ b, a = some ⟨b, 0, none⟩ → ∀ j, j < n * wide e → w'.cell? ⟨g, j, none⟩ = w.cell? ⟨b, j, none⟩) → (∀ j u, news[j]? = some u → w'.cell? ⟨g, n * wide e + j, none⟩ = some u) → wpList P ops Q rest (ac.put o.dst (.slice (some ⟨g, 0, none⟩) (n + m) cap')) w') :
    wpList P ops Q (o :: rest) ac w := by
  obtain ⟨g, cap', w', σ', hrun, q1, q2, q3, q4, q5, q6, q7, q8, q9⟩ := run_append_wf (P := P) hW t o.type e i z bytes ht hi hz hsize hby hzs hzc a n cap hnc hcm hs ad m c news hl hnews h1 hok hm h63 hbytes
  refine wpList_plain hgd fun K hK => ?_
  unfold Oper.wp
  simp [execOp, ho, resolve, invoke, builtin, hsv, hx, hrun, Result.andThen]
  exact hK _ _ (h g cap' w' σ' q1 q2 q3 q4 q5 q6 q7 q8 q9)
/-- At a step of a region that draws. -/
theorem step_append_wf {P : Program} {w : World} {σ : Sh} {B : Bd} (hW : Wf w σ B) {ops : Array Oper} {o : Oper} {ac : Act} {K : Act → World → Prop} {Q : Exit → Act → World → Prop} {E : Prop} (hgd : o.guard = none) (s x : Operand) (t : TypeId)
    (ho : o.op = .call { callee := .builtin .append, args := #[s, x], argTypes := #[t, t] })
    (e : TypeId) (i : TypeInfo) (z : Value) (bytes : Nat) (ht : P.underlying t = some (.slice e)) (hi : P.info? e = some i) (hz : i.zero = some z)
    (hsize : i.size = wide e) (hby : i.bytes = bytes) (hzs : z.cells.size = wide e) (hzc : ∀ j u, z.cells[j]? = some u → CellOk σ B e j u)
    (a : Option Addr) (n cap : Nat) (hsv : ac.eval s = .slice a n cap) (hnc : n ≤ cap) (hcm : cap ≤ maxLen) (hs : (a = none ∧ n = 0 ∧ cap = 0) ∨ ∃ b, a = some ⟨b, 0, none⟩ ∧ σ b = some (e, cap))
    (ad : Addr) (m c : Nat) (news : List Value) (hx : ac.eval x = .slice (some ad) m c) (hl : news.length = m * wide e) (hnews : ∀ j u, news[j]? = some u → w.cell? (ad.add j) = some u) (h1 : ∀ u ∈ news, u.oneCell' = true) (hok : ∀ j u, news[j]? = some u → CellOk σ B e (j % wide e) u)
    (hm : 0 < m) (h63 : n + m ≤ maxLen) (hbytes : (n + m) * bytes ≤ 140737488355328)
    (h : ∀ g cap' w' σ', Wf w' σ' B → σ' g = some (e, cap') → n + m ≤ cap' → cap' ≤ maxLen → Ext σ σ' → (∀ b, b < w.heap.size → σ' b = σ b) →
      w.grownBy w' (Value.slice a n cap).ownBlock → (∀ b, a = some ⟨b, 0, none⟩ → ∀ j, j < n * wide e → w'.cell? ⟨g, j, none⟩ = w.cell? ⟨b, j, none⟩) → (∀ j u, news[j]? = some u → w'.cell? ⟨g, n * wide e + j, none⟩ = some u) → K (ac.put o.dst (.slice (some ⟨g, 0, none⟩) (n + m) cap')) w') :
    if Region.wanted o (yielded ops ac.tmps) = true then Oper.wp P o ac w K Q else E := by
  have hw : Region.wanted o (yielded ops ac.tmps) = true := by simp [Region.wanted, hgd]
  rw [if_pos hw]
  obtain ⟨g, cap', w', σ', hrun, q1, q2, q3, q4, q5, q6, q7, q8, q9⟩ := run_append_wf (P := P) hW t o.type e i z bytes ht hi hz hsize hby hzs hzc a n cap hnc hcm hs ad m c news hl hnews h1 hok hm h63 hbytes
  unfold Oper.wp execOp
  simp only [ho, resolve, invoke, builtin, Sem.run_bind, Sem.run_pure, Result.andThen_ok, List.map_toArray, List.map_cons, List.map_nil, hsv, hx, hrun]
  exact h g cap' w' σ' q1 q2 q3 q4 q5 q6 q7 q8 q9
end Go.Proofs.YtibpieomldhomaaGreatDoor

namespace Go.Proofs.YtibpieomldhomaaGreatDoor
set_option linter.unusedSimpArgs false
set_option linter.unusedVariables false
open Go.RowKit Go.Maps

theorem hid_of {q : Prop} (h : q) : Hid q := h
theorem block_new {w : World} {N : Nat} (c : Array Value) (T : TypeId) (h : w.heap.size = N) : (w.alloc (.cells c T)).heap[N]? = some (.cells c T (0, 0)) := by subst h; exact heap_alloc_new w _
theorem set_box {w : World} {N : Nat} {cs : Array Value} {T : TypeId} (h : w.heap[N]? = some (.cells cs T (0, 0))) (i : Nat) (d : Value) : (w.setCell ⟨N, i, none⟩ d).heap[N]? = some (.cells (cs.setIfInBounds i d) T (0, 0)) := by
  show (w.heap.modify N _)[N]? = _
  rw [Array.getElem?_modify]
  simp [h]
/-- All blocks stay but those of O, and new ones. -/
structure Only (O : Nat → Prop) (w w' : World) : Prop where
  os : w'.os = w.os
  tape : w'.tape = w.tape
  output : w'.output = w.output
  size : w.heap.size ≤ w'.heap.size
  block : ∀ b, b < w.heap.size → ¬ O b → w'.heap[b]? = w.heap[b]?
theorem Only.refl (O : Nat → Prop) (w : World) : Only O w w := ⟨rfl, rfl, rfl, Nat.le_refl _, fun _ _ _ => rfl⟩
theorem Only.trans {O O' : Nat → Prop} {a b c : World} (h : Only O a b) (k : Only O' b c) (hO : ∀ x, x < a.heap.size → O' x → O x) : Only O a c :=
  ⟨k.os.trans h.os, k.tape.trans h.tape, k.output.trans h.output, Nat.le_trans h.size k.size, fun x hx hn => (k.block x (Nat.lt_of_lt_of_le hx h.size) fun q => hn (hO x hx q)).trans (h.block x hx hn)⟩
theorem Only.of_below {w w' : World} (O : Nat → Prop) (h : Below w.heap.size w w') : Only O w w' := ⟨h.os, h.tape, h.output, h.size, fun b hb _ => h.block b hb⟩
theorem Only.below {O : Nat → Prop} {w w' : World} {B : Nat} (h : Only O w w') (hB : B ≤ w.heap.size) (hO : ∀ b, b < B → ¬ O b) : Below B w w' := ⟨h.os, h.tape, h.output, h.size, fun b hb => h.block b (Nat.lt_of_lt_of_le hb hB) (hO b hb)⟩
theorem Only.imp {O O' : Nat → Prop} {w w' : World} (h : Only O w w') (hO : ∀ b, b < w.heap.size → O b → O' b) : Only O' w w' := ⟨h.os, h.tape, h.output, h.size, fun b hb hn => h.block b hb fun q => hn (hO b hb q)⟩
theorem Only.set {O : Nat → Prop} {a w : World} (h : Only O a w) (N i : Nat) (hN : O N ∨ a.heap.size ≤ N) (v : Value) : Only O a (w.setCell ⟨N, i, none⟩ v) :=
  ⟨h.os, h.tape, h.output, by rw [size_set]; exact h.size, fun b hb hn => (Below.heap_setCell _ _ _ _ (fun e => by subst e; rcases hN with q | q; exact hn q; omega)).trans (h.block b hb hn)⟩
theorem Only.alloc {O : Nat → Prop} {a w : World} (h : Only O a w) (o : Obj) : Only O a (w.alloc o) := h.trans (Only.of_below O (below_box w o)) fun _ _ q => q
theorem Only.grown {O : Nat → Prop} {a w w' : World} {row : Option Nat} (h : Only O a w) (hg : w.grownBy w' row) (hr : ∀ k, row = some k → O k ∨ a.heap.size ≤ k) : Only O a w' :=
  ⟨hg.os.trans h.os, hg.tape.trans h.tape, hg.output.trans h.output, Nat.le_trans h.size hg.size, fun b hb hn => (hg.block b (Nat.lt_of_lt_of_le hb h.size) (fun e => by rcases hr b e.symm with q | q; exact hn q; omega)).trans (h.block b hb hn)⟩

/-- The reader, at its block; the code, at its own. -/
def RdOk (w : World) (rb cb q : Nat) : Prop := ∃ (p n bc : Nat) (ba : Option Addr) (off : Nat), p ≤ q ∧ n ≤ 2000 ∧ rb ≠ cb ∧ w.heap[rb]? = some (.cells #[.slice ba n bc, .int .i64 p] 61 (0, 0)) ∧ cb < w.heap.size ∧ (0 < n → ba = some ⟨cb, off, none⟩) ∧ ∀ i, i < n → ∃ x : Nat, x < 256 ∧ w.cell? ⟨cb, off + i, none⟩ = some (.int .u8 x)
theorem RdOk.keep {w w' : World} {rb cb q : Nat} (h : RdOk w rb cb q) (h1 : w'.heap[rb]? = w.heap[rb]?) (h2 : w'.heap[cb]? = w.heap[cb]?) (hs : w.heap.size ≤ w'.heap.size) : RdOk w' rb cb q := by
  obtain ⟨p, n, bc, ba, off, a1, a2, a3, a4, a5, a6, a7⟩ := h
  exact ⟨p, n, bc, ba, off, a1, a2, a3, h1.trans a4, by omega, a6, fun i hi => by obtain ⟨x, hx, hc⟩ := a7 i hi; exact ⟨x, hx, (World.cell?_of_block (a := ⟨cb, off + i, none⟩) h2).trans hc⟩⟩
theorem RdOk.lt {w : World} {rb cb q : Nat} (h : RdOk w rb cb q) : rb < w.heap.size ∧ cb < w.heap.size ∧ rb ≠ cb := by
  obtain ⟨p, n, bc, ba, off, a1, a2, a3, a4, a5, a6, a7⟩ := h
  exact ⟨(Array.getElem?_eq_some_iff.1 a4).1, a5, a3⟩
theorem RdOk.only {O : Nat → Prop} {w w' : World} {rb cb q : Nat} (h : RdOk w rb cb q) (ho : Only O w w') (h1 : ¬ O rb) (h2 : ¬ O cb) : RdOk w' rb cb q :=
  h.keep (ho.block _ h.lt.1 h1) (ho.block _ h.lt.2.1 h2) ho.size
theorem RdOk.le {w : World} {rb cb q q' : Nat} (h : RdOk w rb cb q) (hq : q ≤ q') : RdOk w rb cb q' := by
  obtain ⟨p, n, bc, ba, off, a1, a⟩ := h
  exact ⟨p, n, bc, ba, off, by omega, a⟩
end Go.Proofs.YtibpieomldhomaaGreatDoor

namespace Go.Proofs.YtibpieomldhomaaGreatDoor
set_option linter.unusedSimpArgs false
set_option linter.unusedVariables false
open Go.RowKit Go.Maps

/-- A part's value: its types lie in known memory, and there is one at least. -/
def PtOk (σ : Sh) (B : Bd) (v : Value) : Prop := ∃ (s : ByteArray) (b len cap : Nat), v = .agg #[.string s, .slice (some ⟨b, 0, none⟩) len cap] ∧ s.size ≤ 12 ∧ 1 ≤ len ∧ len ≤ B.nt ∧ len ≤ cap ∧ cap ≤ maxLen ∧ σ b = some (40, cap)
/-- The part has a type of this name. -/
def HasN (w : World) (v : Value) (nm : ByteArray) : Prop := ∃ (s : ByteArray) (b len cap i : Nat), v = .agg #[.string s, .slice (some ⟨b, 0, none⟩) len cap] ∧ i < len ∧ w.cell? ⟨b, i * 3, none⟩ = some (.string nm)
/-- Blocks that may be written: all that are known but texts. -/
def Hot (σ : Sh) (b : Nat) : Prop := ∃ T n, σ b = some (T, n) ∧ T ≠ 9
theorem Hot.old {σ σ' : Sh} {N : Nat} (h : ∀ b, b < N → σ' b = σ b) : ∀ b, b < N → Hot σ' b → Hot σ b := fun b hb ⟨T, n, h1, h2⟩ => ⟨T, n, by rw [← h b hb]; exact h1, h2⟩
theorem PtOk.ext {σ σ' : Sh} {B B' : Bd} {v : Value} (h : PtOk σ B v) (he : Ext σ σ') (hB : B.nt ≤ B'.nt) : PtOk σ' B' v := by
  obtain ⟨s, b, len, cap, rfl, h1, h2, h3, h4, h5, h6⟩ := h
  exact ⟨s, b, len, cap, rfl, h1, h2, by omega, h4, h5, he _ _ _ h6⟩

/-- Small things: texts of at most 12 bytes, so many needs and fields. -/
def SmF (nn : Nat) (f : F) : Prop := f.name.size ≤ 12 ∧ f.of.size ≤ 12 ∧ f.needs.length ≤ nn ∧ ∀ i, (nth f.needs i).size ≤ 12
def SmT (nf nn : Nat) (t : T) : Prop := t.name.size ≤ 12 ∧ t.key.size ≤ 12 ∧ t.fields.length ≤ nf ∧ ∀ i, SmF nn (fth t.fields i)
theorem SmF.zero (nn : Nat) : SmF nn F.zero := ⟨by decide, by decide, Nat.zero_le _, fun i => by simp [F.zero, nth]⟩
theorem SmT.zero (nf nn : Nat) : SmT nf nn T.zero := ⟨by decide, by decide, Nat.zero_le _, fun i => by simpa [T.zero, fth] using SmF.zero nn⟩
/-- Texts in known memory. -/
theorem Wf.strs {w : World} {σ : Sh} {B : Bd} (h : Wf w σ B) {v : Value} {N : Nat} (hv : SlOk σ 9 N v) : ∃ (a : Option Addr) (c : Nat) (ns : List ByteArray), v = .slice a ns.length c ∧ Strs w (· < w.heap.size) ns a ∧ ns.length ≤ c ∧ ns.length ≤ N ∧ (∀ i, (nth ns i).size ≤ 12) := by
  obtain ⟨a, len, cap, rfl, h1, h2, h3, h4⟩ := hv
  rcases h4 with ⟨rfl, rfl, rfl⟩ | ⟨b, rfl, hb⟩
  · exact ⟨none, 0, [], rfl, ⟨fun h => absurd rfl h, fun i => by simp [nth], by simp [maxLen]⟩, by simp, by simp, fun i => by simp [nth]⟩
  · have hall : ∀ i, i < len → ∃ s : ByteArray, w.cell? ⟨b, i, none⟩ = some (.string s) ∧ s.size ≤ 12 := fun i hi => by
      obtain ⟨v, hc, ho, -⟩ := h.cell hb i 0 (by omega) (by rw [wideS]; omega)
      rw [wideS, Nat.mul_one, Nat.add_zero] at hc
      obtain ⟨s, rfl, hs⟩ : StOk v := by simpa [CellOk] using ho
      exact ⟨s, hc, hs⟩
    let f : Fin len → ByteArray := fun i => Classical.choose (hall i.val i.isLt)
    have hf : ∀ i : Fin len, w.cell? ⟨b, i.val, none⟩ = some (.string (f i)) ∧ (f i).size ≤ 12 := fun i => Classical.choose_spec (hall i.val i.isLt)
    have hn : ∀ i (hi : i < len), nth (List.ofFn f) i = f ⟨i, hi⟩ := fun i hi => by simp [nth, List.getD_eq_getElem?_getD, hi]
    have hs12 : ∀ i, (nth (List.ofFn f) i).size ≤ 12 := fun i => by
      by_cases hi : i < len
      · rw [hn i hi]; exact (hf ⟨i, hi⟩).2
      · simp [nth, List.getD_eq_getElem?_getD, hi]
    refine ⟨some ⟨b, 0, none⟩, cap, List.ofFn f, by simp, ⟨fun _ => ⟨b, 0, rfl, h.lt hb, fun i hi => ?_⟩, fun i => by have := hs12 i; unfold maxLen; omega, by simp; omega⟩, by simpa using h2, by simpa using h1, hs12⟩
    have hi' : i < len := by simpa using hi
    rw [Nat.zero_add, hn i hi']
    exact (hf ⟨i, hi'⟩).1

/-- A field in known memory. -/
theorem Wf.field {w : World} {σ : Sh} {B : Bd} (h : Wf w σ B) (C : Nat → Value) (hC : ∀ j, j < 8 → CellOk σ B 30 j (C j)) (hnn : B.nn ≤ 3) :
    ∃ f : F, FRep w (· < w.heap.size) f (.agg #[C 0, C 1, C 2, C 3, C 4, C 5, C 6, C 7]) ∧ szF f ≤ 24 + 13 * B.nn ∧ SmF B.nn f := by
  obtain ⟨s0, e0, z0⟩ : StOk (C 0) := by simpa [CellOk] using hC 0 (by omega)
  obtain ⟨s1, e1, z1⟩ : StOk (C 1) := by simpa [CellOk] using hC 1 (by omega)
  obtain ⟨b2, e2⟩ : BoOk (C 2) := by simpa [CellOk] using hC 2 (by omega)
  obtain ⟨b3, e3⟩ : BoOk (C 3) := by simpa [CellOk] using hC 3 (by omega)
  obtain ⟨b4, e4⟩ : BoOk (C 4) := by simpa [CellOk] using hC 4 (by omega)
  obtain ⟨b5, e5⟩ : BoOk (C 5) := by simpa [CellOk] using hC 5 (by omega)
  obtain ⟨b6, e6⟩ : BoOk (C 6) := by simpa [CellOk] using hC 6 (by omega)
  have h7 : SlOk σ 9 B.nn (C 7) := by simpa [CellOk] using hC 7 (by omega)
  obtain ⟨a, c, ns, e7, hS, hc, hl, hz⟩ := h.strs h7
  refine ⟨⟨s0, s1, b2, b3, b4, b5, b6, ns⟩, ⟨a, c, by rw [e0, e1, e2, e3, e4, e5, e6, e7], hS, hc, by simp only [maxLen]; omega, by simp only [maxLen]; omega, by simp only; omega⟩, ?_, z0, z1, hl, hz⟩
  have hsum : ∀ n, sumTo ns n ≤ 12 * n := fun n => by
    induction n with
    | zero => simp [sumTo]
    | succ n ih => rw [sumTo_succ]; have := hz n; omega
  have := hsum ns.length
  simp only [szF, szNs]
  omega
/-- Fields in known memory. -/
theorem Wf.fields {w : World} {σ : Sh} {B : Bd} (h : Wf w σ B) {v : Value} {N : Nat} (hv : SlOk σ 30 N v) (hN : N ≤ 1000000) (hnn : B.nn ≤ 3) :
    ∃ (a : Option Addr) (c : Nat) (fs : List F), v = .slice a fs.length c ∧ FsRep w (· < w.heap.size) fs a ∧ fs.length ≤ c ∧ fs.length ≤ N ∧ (∀ i, szF (fth fs i) ≤ 24 + 13 * B.nn) ∧ (∀ i, SmF B.nn (fth fs i)) := by
  obtain ⟨a, len, cap, rfl, h1, h2, h3, h4⟩ := hv
  rcases h4 with ⟨rfl, rfl, rfl⟩ | ⟨b, rfl, hb⟩
  · exact ⟨none, 0, [], rfl, ⟨by simp, fun _ _ => undef, fun h => by simp at h, fun i hi => by simp at hi⟩, by simp, by simp, (fun i => by simp [fth, F.zero, szF, szNs, sumTo]), fun i => by simpa [fth] using SmF.zero B.nn⟩
  · have hall : ∀ i j, i < len → j < 8 → ∃ v, w.cell? ⟨b, i * 8 + j, none⟩ = some v ∧ CellOk σ B 30 j v := fun i j hi hj => by
      obtain ⟨v, hc, ho, -⟩ := h.cell hb i j (by omega) (by rw [wideF]; omega)
      rw [wideF] at hc
      exact ⟨v, hc, ho⟩
    have hall' : ∀ i j, ∃ v, i < len → j < 8 → w.cell? ⟨b, i * 8 + j, none⟩ = some v ∧ CellOk σ B 30 j v := fun i j => by
      by_cases hi : i < len
      · by_cases hj : j < 8
        · obtain ⟨v, hv⟩ := hall i j hi hj; exact ⟨v, fun _ _ => hv⟩
        · exact ⟨undef, fun _ h => absurd h hj⟩
      · exact ⟨undef, fun h => absurd h hi⟩
    let C : Nat → Nat → Value := fun i j => Classical.choose (hall' i j)
    have hC : ∀ i j, i < len → j < 8 → w.cell? ⟨b, i * 8 + j, none⟩ = some (C i j) ∧ CellOk σ B 30 j (C i j) := fun i j => Classical.choose_spec (hall' i j)
    have hF : ∀ i, ∃ f : F, i < len → FRep w (· < w.heap.size) f (.agg #[C i 0, C i 1, C i 2, C i 3, C i 4, C i 5, C i 6, C i 7]) ∧ szF f ≤ 24 + 13 * B.nn ∧ SmF B.nn f := fun i => by
      by_cases hi : i < len
      · obtain ⟨f, hf⟩ := h.field (C i) (fun j hj => (hC i j hi hj).2) hnn; exact ⟨f, fun _ => hf⟩
      · exact ⟨F.zero, fun h => absurd h hi⟩
    let f : Nat → F := fun i => Classical.choose (hF i)
    have hf : ∀ i, i < len → FRep w (· < w.heap.size) (f i) (.agg #[C i 0, C i 1, C i 2, C i 3, C i 4, C i 5, C i 6, C i 7]) ∧ szF (f i) ≤ 24 + 13 * B.nn ∧ SmF B.nn (f i) := fun i => Classical.choose_spec (hF i)
    have hlen : ((List.range len).map f).length = len := by simp
    have hn : ∀ i, i < len → fth ((List.range len).map f) i = f i := fun i hi => by simp [fth, List.getD_eq_getElem?_getD, hi]
    refine ⟨some ⟨b, 0, none⟩, cap, (List.range len).map f, by rw [hlen], ⟨by rw [hlen]; omega, C, fun _ => ⟨b, 0, rfl, h.lt hb, fun i hi j hj => ?_⟩, fun i hi => ?_⟩, by rw [hlen]; exact h2, by rw [hlen]; exact h1, fun i => ?_, fun i => ?_⟩
    · rw [hlen] at hi; rw [Nat.zero_add]; exact (hC i j hi hj).1
    · rw [hlen] at hi; rw [hn i hi]; exact (hf i hi).1
    · by_cases hi : i < len
      · rw [hn i hi]; exact (hf i hi).2.1
      · simp [fth, List.getD_eq_getElem?_getD, hi, F.zero, szF, szNs, sumTo]
    · by_cases hi : i < len
      · rw [hn i hi]; exact (hf i hi).2.2
      · have e : fth ((List.range len).map f) i = F.zero := by simp [fth, List.getD_eq_getElem?_getD, hi]
        rw [e]; exact SmF.zero _
/-- A type in known memory. -/
theorem Wf.type {w : World} {σ : Sh} {B : Bd} (h : Wf w σ B) (C : Nat → Value) (hC : ∀ j, j < 3 → CellOk σ B 40 j (C j)) (hnn : B.nn ≤ 3) (hnf : B.nf ≤ 1000000) :
    ∃ t : T, TRep w (· < w.heap.size) t (.agg #[C 0, C 1, C 2]) ∧ szT t ≤ 24 + (25 + 13 * B.nn) * B.nf ∧ C 0 = .string t.name ∧ SmT B.nf B.nn t := by
  obtain ⟨s0, e0, z0, -⟩ : NmOk B.st (C 0) := by simpa [CellOk] using hC 0 (by omega)
  obtain ⟨s1, e1, z1⟩ : StOk (C 1) := by simpa [CellOk] using hC 1 (by omega)
  have h2 : SlOk σ 30 B.nf (C 2) := by simpa [CellOk] using hC 2 (by omega)
  obtain ⟨a, c, fs, e2, hS, hc, hl, hz, hsm⟩ := h.fields h2 hnf hnn
  refine ⟨⟨s0, s1, fs⟩, ⟨a, c, by rw [e0, e1, e2], hS, hc, by simp only [maxLen]; omega, by simp only [maxLen]; omega⟩, ?_, e0, z0, z1, hl, hsm⟩
  have hsum : ∀ n, szFsTo fs n ≤ (24 + 13 * B.nn) * n := fun n => by
    induction n with
    | zero => simp [szFsTo]
    | succ n ih => rw [szFsTo_succ, Nat.mul_succ]; have := hz n; omega
  have := hsum fs.length
  have h5 : (24 + 13 * B.nn) * fs.length ≤ (24 + 13 * B.nn) * B.nf := Nat.mul_le_mul_left _ hl
  simp only [szT, szFs]
  have h6 : (25 + 13 * B.nn) * B.nf = (24 + 13 * B.nn) * B.nf + B.nf := by rw [show 25 + 13 * B.nn = (24 + 13 * B.nn) + 1 by omega, Nat.add_mul, Nat.one_mul]
  omega
/-- Types in known memory, from some place on. -/
theorem Wf.types {w : World} {σ : Sh} {B : Bd} (h : Wf w σ B) {b off len cap c' : Nat} (hb : σ b = some (40, cap)) (hl : off + len ≤ cap) (hN : len ≤ 1000000) (hc' : len ≤ c') (hnn : B.nn ≤ 3) (hnf : B.nf ≤ 1000000) (s : ByteArray) (hs : s.size ≤ 12) :
    ∃ ts : List T, ts.length = len ∧ PRep w (· < w.heap.size) ⟨s, ts⟩ (.agg #[.string s, .slice (some ⟨b, off * 3, none⟩) len c']) ∧ (∀ i, i < len → w.cell? ⟨b, (off + i) * 3, none⟩ = some (.string (tth ts i).name)) ∧ szP ⟨s, ts⟩ ≤ 12 + (25 + (25 + 13 * B.nn) * B.nf) * len ∧ (∀ i, SmT B.nf B.nn (tth ts i)) := by
  have hall : ∀ i j, i < len → j < 3 → ∃ v, w.cell? ⟨b, (off + i) * 3 + j, none⟩ = some v ∧ CellOk σ B 40 j v := fun i j hi hj => by
    obtain ⟨v, hc, ho, -⟩ := h.cell hb (off + i) j (by omega) (by rw [wideT]; omega)
    rw [wideT] at hc
    exact ⟨v, hc, ho⟩
  have hall' : ∀ i j, ∃ v, i < len → j < 3 → w.cell? ⟨b, (off + i) * 3 + j, none⟩ = some v ∧ CellOk σ B 40 j v := fun i j => by
    by_cases hi : i < len
    · by_cases hj : j < 3
      · obtain ⟨v, hv⟩ := hall i j hi hj; exact ⟨v, fun _ _ => hv⟩
      · exact ⟨undef, fun _ h => absurd h hj⟩
    · exact ⟨undef, fun h => absurd h hi⟩
  let C : Nat → Nat → Value := fun i j => Classical.choose (hall' i j)
  have hC : ∀ i j, i < len → j < 3 → w.cell? ⟨b, (off + i) * 3 + j, none⟩ = some (C i j) ∧ CellOk σ B 40 j (C i j) := fun i j => Classical.choose_spec (hall' i j)
  have hF : ∀ i, ∃ t : T, i < len → TRep w (· < w.heap.size) t (.agg #[C i 0, C i 1, C i 2]) ∧ szT t ≤ 24 + (25 + 13 * B.nn) * B.nf ∧ C i 0 = .string t.name ∧ SmT B.nf B.nn t := fun i => by
    by_cases hi : i < len
    · obtain ⟨f, hf⟩ := h.type (C i) (fun j hj => (hC i j hi hj).2) hnn hnf; exact ⟨f, fun _ => hf⟩
    · exact ⟨T.zero, fun h => absurd h hi⟩
  let f : Nat → T := fun i => Classical.choose (hF i)
  have hf : ∀ i, i < len → TRep w (· < w.heap.size) (f i) (.agg #[C i 0, C i 1, C i 2]) ∧ szT (f i) ≤ 24 + (25 + 13 * B.nn) * B.nf ∧ C i 0 = .string (f i).name ∧ SmT B.nf B.nn (f i) := fun i => Classical.choose_spec (hF i)
  have hlen : ((List.range len).map f).length = len := by simp
  have hn : ∀ i, i < len → tth ((List.range len).map f) i = f i := fun i hi => by simp [tth, List.getD_eq_getElem?_getD, hi]
  refine ⟨(List.range len).map f, hlen, ⟨some ⟨b, off * 3, none⟩, c', by rw [hlen], ⟨by rw [hlen]; omega, C, fun _ => ⟨b, off * 3, rfl, h.lt hb, fun i hi j hj => ?_⟩, fun i hi => ?_⟩, by rw [hlen]; exact hc', by simp only; unfold maxLen; omega⟩, fun i hi => ?_, ?_, fun i => ?_⟩
  · rw [hlen] at hi
    rw [show off * 3 + i * 3 + j = (off + i) * 3 + j by omega]
    exact (hC i j hi hj).1
  · rw [hlen] at hi; rw [hn i hi]; exact (hf i hi).1
  · rw [hn i hi, ← (hf i hi).2.2.1]
    exact (hC i 0 hi (by omega)).1
  · have hsum : ∀ n, n ≤ len → szTsTo ((List.range len).map f) n ≤ (24 + (25 + 13 * B.nn) * B.nf) * n := fun n => by
      induction n with
      | zero => intro _; simp [szTsTo]
      | succ n ih => intro hn'; rw [szTsTo_succ, Nat.mul_succ, hn n (by omega)]; have := (hf n (by omega)).2.1; have := ih (by omega); omega
    have := hsum len (Nat.le_refl _)
    simp only [szP, szTs, hlen]
    rw [show 25 + (25 + 13 * B.nn) * B.nf = (24 + (25 + 13 * B.nn) * B.nf) + 1 by omega, Nat.add_mul, Nat.one_mul]
    omega
  · by_cases hi : i < len
    · rw [hn i hi]; exact (hf i hi).2.2.2
    · have e : tth ((List.range len).map f) i = T.zero := by simp [tth, List.getD_eq_getElem?_getD, hi]
      rw [e]; exact SmT.zero _ _
end Go.Proofs.YtibpieomldhomaaGreatDoor

namespace Go.Proofs.YtibpieomldhomaaGreatDoor
set_option linter.unusedSimpArgs false
set_option linter.unusedVariables false
open Go.RowKit Go.Maps

/-- One of the types at a block has this name. -/
def TN (w : World) (b len : Nat) (nm : ByteArray) : Prop := ∃ i, i < len ∧ w.cell? ⟨b, i * 3, none⟩ = some (.string nm)
theorem bytes_eqB {a b : ByteArray} : (a.toList == b.toList) = true ↔ a = b := by
  constructor
  · intro h
    have h1 : a.toList = b.toList := by simpa using h
    rw [ByteArray.toList_eq, ByteArray.toList_eq] at h1
    cases a; cases b; congr; exact Array.toList_inj.1 h1
  · rintro rfl; simp
set_option maxHeartbeats 400000 in
theorem l2Type_wf (w : World) (σ : Sh) (B : Bd) (s nm : ByteArray) (b len cap : Nat) (hW : Wf w σ B) (hs : s.size ≤ 12) (hb : σ b = some (40, cap)) (hl : len ≤ cap) (hN : len ≤ 1000000) (hnn : B.nn ≤ 3) (hnf : B.nf ≤ 1000000) :
    Calls Tryz.prog 19 #[.agg #[.string s, .slice (some ⟨b, 0, none⟩) len cap], .string nm] w fun e w' => ∃ k : Int, e = .returned (.int .i64 k) ∧ -1 ≤ k ∧ k < len ∧ (0 ≤ k ↔ TN w b len nm) ∧ Below w.heap.size w w' := by
  obtain ⟨ts, hlen, hP, hnm, -⟩ := hW.types (off := 0) (c' := cap) hb (by omega) hN hl hnn hnf s hs
  subst hlen
  refine (l2Type_any _ w w.heap.size _ nm (by simpa using hP) (Nat.le_refl _)).mono fun e w' h => ?_
  obtain ⟨he, hbl⟩ := h
  refine ⟨_, he, ?_, ?_, ?_, hbl⟩
  all_goals rcases firstTo_cases (fun i => (tth ts i).name.toList == nm.toList) ts.length with ⟨hx, hno⟩ | ⟨g, hx, hg, hyes, -⟩
  all_goals simp only [hx]
  · omega
  · omega
  · omega
  · omega
  · refine ⟨fun h => by omega, fun ⟨i, hi, hc⟩ => ?_⟩
    have h1 := hnm i hi
    rw [Nat.zero_add] at h1
    rw [h1] at hc
    simp only [Option.some.injEq, Value.string.injEq] at hc
    have h2 := hno i hi
    rw [hc] at h2
    simp at h2
  · refine ⟨fun _ => ⟨g, hg, ?_⟩, fun _ => by omega⟩
    have h1 := hnm g hg
    rw [Nat.zero_add] at h1
    rw [h1, bytes_eqB.1 hyes]

theorem infoT : (Tryz.prog.info? 40).map (fun i => (i.zero, i.size, i.bytes)) = some (some (.agg #[.string ByteArray.empty, .string ByteArray.empty, .slice none 0 0]), 3, 56) := by kernel_rfl
theorem infoF : (Tryz.prog.info? 30).map (fun i => (i.zero, i.size, i.bytes)) = some (some (.agg #[.string ByteArray.empty, .string ByteArray.empty, .bool false, .bool false, .bool false, .bool false, .bool false, .slice none 0 0]), 8, 64) := by kernel_rfl
theorem sl_nil (σ : Sh) (T : TypeId) (N : Nat) : SlOk σ T N (.slice none 0 0) := ⟨none, 0, 0, rfl, Nat.zero_le _, Nat.le_refl _, Nat.zero_le _, Or.inl ⟨rfl, rfl, rfl⟩⟩
theorem sc_empty : scalarB ByteArray.empty = false := by simp [scalarB, isT, ByteArray.toList_eq]
/-- A field's cells may stand in a block of fields. -/
theorem fieldCells (σ : Sh) (B : Bd) (n o : ByteArray) (l m f h s : Bool) (nv : Value) (hn : n.size ≤ 12) (ho : o.size ≤ 12) (hv : SlOk σ 9 B.nn nv) : ∀ j u, (#[.string n, .string o, .bool l, .bool m, .bool f, .bool h, .bool s, nv] : Array Value)[j]? = some u → CellOk σ B 30 j u := fun j u hu => by
  rcases j with _ | _ | _ | _ | _ | _ | _ | _ | j
  · simp at hu; subst hu; simp [CellOk, StOk]; exact hn
  · simp at hu; subst hu; simp [CellOk, StOk]; exact ho
  · simp at hu; subst hu; simp [CellOk, BoOk]
  · simp at hu; subst hu; simp [CellOk, BoOk]
  · simp at hu; subst hu; simp [CellOk, BoOk]
  · simp at hu; subst hu; simp [CellOk, BoOk]
  · simp at hu; subst hu; simp [CellOk, BoOk]
  · simp at hu; subst hu; simpa [CellOk] using hv
  · simp at hu
theorem typeCells (σ : Sh) (B : Bd) (n k : ByteArray) (fv : Value) (hn : n.size ≤ 12) (hsc : B.st = true → scalarB n = false) (hk : k.size ≤ 12) (hv : SlOk σ 30 B.nf fv) : ∀ j u, (#[.string n, .string k, fv] : Array Value)[j]? = some u → CellOk σ B 40 j u := fun j u hu => by
  rcases j with _ | _ | _ | j
  · simp at hu; subst hu; simp [CellOk, NmOk]; exact ⟨hn, hsc⟩
  · simp at hu; subst hu; simp [CellOk, StOk]; exact hk
  · simp at hu; subst hu; simpa [CellOk] using hv
  · simp at hu
theorem zeroT (σ : Sh) (B : Bd) : ∀ j u, (Value.agg #[.string ByteArray.empty, .string ByteArray.empty, .slice none 0 0]).cells[j]? = some u → CellOk σ B 40 j u := typeCells σ B _ _ _ (by decide) (fun _ => sc_empty) (by decide) (sl_nil _ _ _)
theorem zeroF (σ : Sh) (B : Bd) : ∀ j u, (Value.agg #[.string ByteArray.empty, .string ByteArray.empty, .bool false, .bool false, .bool false, .bool false, .bool false, .slice none 0 0]).cells[j]? = some u → CellOk σ B 30 j u := fieldCells σ B _ _ _ _ _ _ _ _ (by decide) (by decide) (sl_nil _ _ _)
/-- One element's cells, as a block of one. -/
theorem cells_one {σ : Sh} {B : Bd} {T : TypeId} {cs : Array Value} (hz : cs.size = wide T) (h : ∀ j u, cs[j]? = some u → CellOk σ B T j u) : ∀ k v, cs[k]? = some v → CellOk σ B T (k % wide T) v := fun k v hv => by
  have hk := (Array.getElem?_eq_some_iff.1 hv).1
  rw [hz] at hk
  rw [Nat.mod_eq_of_lt hk]
  exact h k v hv

theorem cells_list {σ : Sh} {B : Bd} {T : TypeId} {cs : Array Value} (hz : cs.size = wide T) (h : ∀ j u, cs[j]? = some u → CellOk σ B T j u) : ∀ k v, cs.toList[k]? = some v → CellOk σ B T (k % wide T) v := fun k v hv => cells_one hz h k v (by simpa using hv)
theorem sets2_cells {W : World} {N : Nat} {a b : Value} {T : TypeId} (h : W.heap[N]? = some (.cells #[a, b] T (0, 0))) (v0 v1 : Value) :
    ((W.setCell ⟨N, 0, none⟩ v0).setCell ⟨N, 1, none⟩ v1).cell? ⟨N, 0, none⟩ = some v0 ∧ ((W.setCell ⟨N, 0, none⟩ v0).setCell ⟨N, 1, none⟩ v1).cell? ⟨N, 1, none⟩ = some v1 := by
  have h2 := set_box (set_box h 0 v0) 1 v1
  exact ⟨(box_at h2 0 (by simp)).1, (box_at h2 1 (by simp)).1⟩
theorem needResult (FW : World) (tmps : Array Value) (N : Nat) (v0 v1 : Value) (h4 : tmps.getD 4 undef = .pointer (some ⟨N, 0, none⟩))
    (d0 : FW.cell? ⟨N, 0, none⟩ = some v0) (d1 : FW.cell? ⟨N, 1, none⟩ = some v1) :
    (results Tryz.f82 tmps).run Tryz.prog FW = .ok (.agg #[v0, v1]) FW := by
  simp only [Array.getD_eq_getD_getElem?] at h4
  simp [results, Tryz.results82, go_sem, h4, d0, d1]

theorem boxes2 {w w1 : World} {c1 c2 : Array Value} {T1 T2 : TypeId} (hb : Below ((w.alloc (.cells c1 T1)).alloc (.cells c2 T2)).heap.size ((w.alloc (.cells c1 T1)).alloc (.cells c2 T2)) w1) :
    w1.heap[w.heap.size]? = some (.cells c1 T1 (0, 0)) ∧ w1.heap[w.heap.size + 1]? = some (.cells c2 T2 (0, 0)) ∧ w.heap.size + 1 < w1.heap.size ∧ Below w.heap.size w w1 := by
  have hz := hb.size
  simp at hz
  refine ⟨(hb.block _ (by simp; omega)).trans ?_, (hb.block _ (by simp)).trans (block_new _ _ (by simp)), by omega, (below_box2 w _ _).trans (hb.mono (by simp; omega))⟩
  rw [(below_box _ _).block _ (by simp)]
  exact block_new _ _ rfl

/-- What l11Need leaves. -/
def NeedEnd (w : World) (σ : Sh) (B : Bd) (s nm : ByteArray) (b len : Nat) (e : Ending) (w' : World) : Prop :=
  ∃ (σ' : Sh) (b' len' cap' : Nat), e = .returned (.agg #[.string s, .slice (some ⟨b', 0, none⟩) len' cap']) ∧ Wf w' σ' B ∧ Ext σ σ' ∧ (∀ x, x < w.heap.size → σ' x = σ x) ∧ Only (Hot σ) w w' ∧ len ≤ len' ∧ len' ≤ len + 1 ∧ len' ≤ cap' ∧ cap' ≤ maxLen ∧ σ' b' = some (40, cap') ∧ (∀ x, TN w b len x → TN w' b' len' x) ∧ (scalarB nm = false → TN w' b' len' nm)

theorem need_close {w W3 wP Wz : World} {σ σ' : Sh} {B : Bd} {s nm : ByteArray} {b len cap g cap' FB : Nat} (hW : Wf w σ B) (hb : σ b = some (40, cap)) (bw : Below w.heap.size w W3) (hF : w.heap.size + 1 < FB) (hF3 : FB < W3.heap.size)
    (q1 : Wf wP σ' B) (q2 : σ' g = some (40, cap')) (q3 : len + 1 ≤ cap') (q4 : cap' ≤ maxLen) (q5 : Ext (σ.add FB 30 1) σ') (q6 : ∀ x, x < W3.heap.size → σ' x = (σ.add FB 30 1) x) (q7 : W3.grownBy wP (some b))
    (q8 : ∀ j, j < len * 3 → wP.cell? ⟨g, j, none⟩ = W3.cell? ⟨b, j, none⟩) (q9 : wP.cell? ⟨g, len * 3 + 0, none⟩ = some (.string nm))
    (hz : ∀ x, x ≠ w.heap.size → x ≠ w.heap.size + 1 → Wz.heap[x]? = wP.heap[x]?) (hzs : Wz.heap.size = wP.heap.size) (ho : Wz.os = wP.os) (ht : Wz.tape = wP.tape) (hu : Wz.output = wP.output) :
    NeedEnd w σ B s nm b len (.returned (.agg #[.string s, .slice (some ⟨g, 0, none⟩) (len + 1) cap'])) Wz := by
  have hbl := hW.lt hb
  have hs3 := bw.size
  have hsg : ∀ x, x < w.heap.size → σ' x = σ x := fun x hx => by rw [q6 x (by omega), Sh.add_ne _ _ _ _ _ (by omega)]
  have n0 : σ' w.heap.size = none := by rw [q6 _ (by omega), Sh.add_ne _ _ _ _ _ (by omega)]; exact hW.fresh (Nat.le_refl _)
  have n1 : σ' (w.heap.size + 1) = none := by rw [q6 _ (by omega), Sh.add_ne _ _ _ _ _ (by omega)]; exact hW.fresh (by omega)
  have hk : ∀ x T n, σ' x = some (T, n) → Wz.heap[x]? = wP.heap[x]? := fun x T n hx => hz x (fun e => by subst e; rw [n0] at hx; cases hx) (fun e => by subst e; rw [n1] at hx; cases hx)
  have hgc : ∀ j, Wz.cell? ⟨g, j, none⟩ = wP.cell? ⟨g, j, none⟩ := fun j => World.cell?_of_block (a := ⟨g, j, none⟩) (hk _ _ _ q2)
  have hbc : ∀ j, W3.cell? ⟨b, j, none⟩ = w.cell? ⟨b, j, none⟩ := fun j => bw.cell (p := ⟨b, j, none⟩) hbl
  refine ⟨σ', g, len + 1, cap', rfl, q1.keep hk, (Sh.add_ext (hW.fresh (by omega))).trans q5, hsg, ⟨by rw [ho, q7.os, bw.os], by rw [ht, q7.tape, bw.tape], by rw [hu, q7.output, bw.output], by have := q7.size; omega, fun x hx hn => ?_⟩, by omega, by omega, q3, q4, q2, fun x hx => ?_, fun _ => ⟨len, by omega, ?_⟩⟩
  · rw [hz x (by omega) (by omega), q7.block x (by omega) (fun e => hn ⟨_, _, by cases e; exact hb, by decide⟩), bw.block x hx]
  · obtain ⟨i, hi, hc⟩ := hx
    exact ⟨i, by omega, by rw [hgc, q8 _ (by omega), hbc]; exact hc⟩
  · rw [hgc]; exact q9

set_option maxRecDepth 20000 in
set_option maxHeartbeats 1600000 in
theorem l11Need_any (w : World) (σ : Sh) (B : Bd) (s nm : ByteArray) (b len cap : Nat) (hW : Wf w σ B) (hs : s.size ≤ 12) (hb : σ b = some (40, cap)) (hl : len ≤ cap) (hcm : cap ≤ maxLen) (hN : len ≤ 100000) (hnm : nm.size ≤ 12) (hnn : B.nn ≤ 3) (hnf : B.nf ≤ 1000000) (hnf1 : 1 ≤ B.nf) :
    Calls Tryz.prog 82 #[.agg #[.string s, .slice (some ⟨b, 0, none⟩) len cap], .string nm] w (NeedEnd w σ B s nm b len) := by
  have hS := l2Scalar_any nm
  have HT : Hid (∀ W, Below w.heap.size w W → Calls Tryz.prog 19 #[.agg #[.string s, .slice (some ⟨b, 0, none⟩) len cap], .string nm] W fun e w' => ∃ k : Int, e = .returned (.int .i64 k) ∧ -1 ≤ k ∧ k < len ∧ (0 ≤ k ↔ TN w b len nm) ∧ Below W.heap.size W w') := hid_of fun W hWb => (l2Type_wf W σ B s nm b len cap (hW.below hWb) hs hb hl (by omega) hnn hnf).mono fun e w' ⟨k, h1, h2, h3, h4, h5⟩ => ⟨k, h1, h2, h3, h4.trans (by
      have : ∀ i, W.cell? ⟨b, i * 3, none⟩ = w.cell? ⟨b, i * 3, none⟩ := fun i => hWb.cell (p := ⟨b, i * 3, none⟩) (hW.lt hb)
      simp only [TN, this]), h5⟩
  have HSTAY : Hid (∀ W, Below w.heap.size w W → (scalarB nm = false → TN w b len nm) → NeedEnd w σ B s nm b len (.returned (.agg #[.string s, .slice (some ⟨b, 0, none⟩) len cap])) W) := hid_of fun W hWb htn => by
    have hc : ∀ i, W.cell? ⟨b, i * 3, none⟩ = w.cell? ⟨b, i * 3, none⟩ := fun i => hWb.cell (p := ⟨b, i * 3, none⟩) (hW.lt hb)
    exact ⟨σ, b, len, cap, rfl, hW.below hWb, Ext.refl _, fun _ _ => rfl, Only.of_below _ hWb, Nat.le_refl _, by omega, hl, hcm, hb, fun x hx => by simpa only [TN, hc] using hx, fun h => by simpa only [TN, hc] using htn h⟩
  cases hsc : scalarB nm
  case true =>
    rw [hsc] at hS
    go_enter Tryz.func82, Tryz.ntmps82
    go_wp2_with (go_at_call 36; refine (hS _).mono ?_; rintro e w' ⟨rfl, rfl⟩)
    refine bodyPost_ret (needResult _ _ (w.heap.size + 1) (.string s) (.slice (some ⟨b, 0, none⟩) len cap) rfl (by simp) (by simp)) rfl ?_
    exact HSTAY.out _ (below_box2 _ _ _) (fun h => by rw [hsc] at h; cases h)
  rw [hsc] at hS
  go_enter Tryz.func82, Tryz.ntmps82
  go_wp2_with (go_at_call 36; refine (hS _).mono ?_; rintro e w' ⟨rfl, rfl⟩)
  refine (HT.out _ (below_box2 _ _ _)).mono ?_
  rintro e w1 ⟨k, rfl, hk1, hk2, hk3, hb1⟩
  obtain ⟨pb, rb, hz1, bw⟩ := boxes2 hb1
  clear hb1
  obtain ⟨p0, -⟩ := box_at pb 0 (by simp)
  obtain ⟨p1, pf1⟩ := box_at pb 1 (by simp)
  obtain ⟨r0, rf0⟩ := box_at rb 0 (by simp)
  obtain ⟨r1, rf1⟩ := box_at rb 1 (by simp)
  simp only [List.getElem_toArray, List.getElem_cons_zero, List.getElem_cons_succ] at p0 p1 r0 r1
  have hlt1 : w.heap.size < w1.heap.size := by omega
  have A2 : ∀ o o', ((w1.alloc o).alloc o').cell? ⟨w.heap.size, 1, none⟩ = some (.slice (some ⟨b, 0, none⟩) len cap) := fun o o' => ((below_box2 w1 o o').cell (p := ⟨w.heap.size, 1, none⟩) hlt1).trans p1
  have A3 : ∀ o o' o'', (((w1.alloc o).alloc o').alloc o'').cell? ⟨w.heap.size, 1, none⟩ = some (.slice (some ⟨b, 0, none⟩) len cap) := fun o o' o'' => ((below_box _ _).cell (p := ⟨w.heap.size, 1, none⟩) (by simp; omega)).trans (A2 o o')
  have B3 : ∀ o o' o'', Below w.heap.size w (((w1.alloc o).alloc o').alloc o'') := fun o o' o'' => (bw.trans ((below_box2 w1 o o').mono (by omega))).alloc (by simp; omega) o''
  obtain ⟨iT, hiT, hzT, hsT, hbT⟩ := info_parts infoT
  have HEND : Hid (∀ W3 wP g cap' σ' FB, Below w.heap.size w W3 → w1.heap.size ≤ FB → FB < W3.heap.size → W3.heap[w.heap.size]? = w1.heap[w.heap.size]? → W3.heap[w.heap.size + 1]? = w1.heap[w.heap.size + 1]? → Wf wP σ' B → σ' g = some (40, cap') → len + 1 ≤ cap' → cap' ≤ maxLen → Ext (σ.add FB 30 1) σ' → (∀ x, x < W3.heap.size → σ' x = (σ.add FB 30 1) x) → W3.grownBy wP (some b) →
      (∀ j, j < len * 3 → wP.cell? ⟨g, j, none⟩ = W3.cell? ⟨b, j, none⟩) → wP.cell? ⟨g, len * 3 + 0, none⟩ = some (.string nm) →
      NeedEnd w σ B s nm b len (.returned (.agg #[.string s, .slice (some ⟨g, 0, none⟩) (len + 1) cap'])) (((wP.setCell ⟨w.heap.size, 1, none⟩ (.slice (some ⟨g, 0, none⟩) (len + 1) cap')).setCell ⟨w.heap.size + 1, 0, none⟩ (.string s)).setCell ⟨w.heap.size + 1, 1, none⟩ (.slice (some ⟨g, 0, none⟩) (len + 1) cap')) ∧
      wP.heap[w.heap.size]? = some (.cells #[.string s, .slice (some ⟨b, 0, none⟩) len cap] 25 (0, 0)) ∧ wP.heap[w.heap.size + 1]? = some (.cells #[.string ⟨#[]⟩, .slice none 0 0] 25 (0, 0)) ∧ w.heap.size + 1 < wP.heap.size) := hid_of fun W3 wP g cap' σ' FB b3 hF hF3 e0 e1 q1 q2 q3 q4 q5 q6 q7 q8 q9 => by
    have hbl := hW.lt hb
    have z3 := b3.size
    refine ⟨need_close hW hb b3 (by omega) hF3 q1 q2 q3 q4 q5 q6 q7 q8 q9 (fun x h0 h1 => ?_) (by simp [size_set]) rfl rfl rfl, ?_, ?_, ?_⟩
    · rw [Below.heap_setCell _ _ _ _ h1, Below.heap_setCell _ _ _ _ h1, Below.heap_setCell _ _ _ _ h0]
    · rw [q7.block _ (by omega) (by intro e; cases e; omega), e0]; exact pb
    · rw [q7.block _ (by omega) (by intro e; cases e; omega), e1]; exact rb
    · have := q7.size; omega
  by_cases htn : TN w b len nm
  · have hk4 := hk3.2 htn
    clear A2 A3 HEND
    go_wp2_with fail
    have hd := sets2_cells rb (.string s) (.slice (some ⟨b, 0, none⟩) len cap)
    refine bodyPost_ret (needResult _ _ (w.heap.size + 1) (.string s) (.slice (some ⟨b, 0, none⟩) len cap) rfl hd.1 hd.2) rfl ?_
    · exact HSTAY.out _ ((bw.setCell (by show w.heap.size ≤ w.heap.size + 1; omega) _).setCell (by show w.heap.size ≤ w.heap.size + 1; omega) _) (fun _ => htn)
  have hk4 : k < 0 := by
    have h : ¬ 0 ≤ k := fun h => htn (hk3.1 h)
    omega
  cases hno : (nm.toList == [110, 111, 116, 101])
  case true =>
    have WF : ∀ o o', Wf (((w1.alloc o).alloc (.cells #[.string ⟨#[98, 111, 100, 121]⟩, .string ⟨#[116, 101, 120, 116]⟩, .bool false, .bool true, .bool false, .bool false, .bool true, .slice none 0 0] 30)).alloc o') (σ.add (w1.heap.size + 1) 30 1) B ∧ Below w.heap.size w (((w1.alloc o).alloc (.cells #[.string ⟨#[98, 111, 100, 121]⟩, .string ⟨#[116, 101, 120, 116]⟩, .bool false, .bool true, .bool false, .bool false, .bool true, .slice none 0 0] 30)).alloc o') ∧ (((w1.alloc o).alloc (.cells #[.string ⟨#[98, 111, 100, 121]⟩, .string ⟨#[116, 101, 120, 116]⟩, .bool false, .bool true, .bool false, .bool false, .bool true, .slice none 0 0] 30)).alloc o').heap[w.heap.size]? = w1.heap[w.heap.size]? ∧ (((w1.alloc o).alloc (.cells #[.string ⟨#[98, 111, 100, 121]⟩, .string ⟨#[116, 101, 120, 116]⟩, .bool false, .bool true, .bool false, .bool false, .bool true, .slice none 0 0] 30)).alloc o').heap[w.heap.size + 1]? = w1.heap[w.heap.size + 1]? := fun o o' => by
      have hB : Below w1.heap.size w1 (((w1.alloc o).alloc (.cells #[.string ⟨#[98, 111, 100, 121]⟩, .string ⟨#[116, 101, 120, 116]⟩, .bool false, .bool true, .bool false, .bool false, .bool true, .slice none 0 0] 30)).alloc o') := (below_box2 w1 _ _).alloc (by simp; omega) _
      refine ⟨(hW.below (bw.trans (hB.mono (by omega)))).add (hW.fresh (by omega)) ?_ rfl (cells_one rfl (fieldCells _ _ ⟨#[98, 111, 100, 121]⟩ ⟨#[116, 101, 120, 116]⟩ false true false false true _ (by decide) (by decide) (sl_nil _ _ _))), bw.trans (hB.mono (by omega)), hB.block _ (by omega), hB.block _ (by omega)⟩
      rw [(below_box _ _).block _ (by simp)]
      exact block_new _ _ (by simp)
    have TOK := typeCells (σ.add (w1.heap.size + 1) 30 1) B nm ⟨#[]⟩ (.slice (some ⟨w1.heap.size + 1, 0, none⟩) 1 1) hnm (fun _ => hsc) (by decide) ⟨_, 1, 1, rfl, hnf1, by omega, by simp [maxLen], Or.inr ⟨_, rfl, Sh.add_self _ _ _ _⟩⟩
    have HWF := hid_of WF
    have HTOK := hid_of TOK
    clear WF TOK A3
    go_wp2_with (
      at_builtin
      (refine wpList_append_wf (HWF.out _ _).1 rfl _ _ 23 rfl 40 iT _ 56 Tryz.underlying23 hiT hzT hsT hbT rfl (zeroT _ _) (some ⟨b, 0, none⟩) len cap rfl hl hcm (Or.inr ⟨b, rfl, (Sh.add_ext (hW.fresh (by omega))) _ _ _ hb⟩) ⟨w1.heap.size + 1 + 1, 0, none⟩ 1 1 [.string nm, .string ⟨#[]⟩, .slice (some ⟨w1.heap.size + 1, 0, none⟩) 1 1] rfl rfl (World.news_of_block (block_new _ _ (by simp))) (by intro u hu; simp at hu; rcases hu with rfl | rfl | rfl <;> rfl) (cells_list (T := 40) (cs := #[.string nm, .string ⟨#[]⟩, .slice (some ⟨w1.heap.size + 1, 0, none⟩) 1 1]) rfl HTOK.out) (by omega) (by unfold maxLen; omega) (by omega) ?_)
      intro g cap' wP σ' q1 q2 q3 q4 q5 q6 q7 q8 q9
      (obtain ⟨hE, x0, x1, hzP⟩ := HEND.out _ wP g cap' σ' _ (HWF.out _ _).2.1 (by omega) (by simp) (HWF.out _ _).2.2.1 (HWF.out _ _).2.2.2 q1 q2 q3 q4 q5 q6 q7 (q8 b rfl) (q9 0 _ rfl))
      have HE := hid_of hE
      clear hE q1 q2 q5 q6 q7 q8 q9
      obtain ⟨y0, -⟩ := box_at x0 0 (by simp)
      obtain ⟨y1, yf1⟩ := box_at x0 1 (by simp)
      obtain ⟨u0, uf0⟩ := box_at x1 0 (by simp)
      obtain ⟨u1, uf1⟩ := box_at x1 1 (by simp)
      simp only [List.getElem_toArray, List.getElem_cons_zero, List.getElem_cons_succ] at y0 y1 u0 u1)
    have hd := sets2_cells ((Below.heap_setCell wP ⟨w.heap.size, 1, none⟩ (.slice (some ⟨g, 0, none⟩) (len + 1) cap') (w.heap.size + 1) (by show w.heap.size + 1 ≠ w.heap.size; omega)).trans x1) (.string s) (.slice (some ⟨g, 0, none⟩) (len + 1) cap')
    exact bodyPost_ret (needResult _ _ (w.heap.size + 1) (.string s) (.slice (some ⟨g, 0, none⟩) (len + 1) cap') rfl hd.1 hd.2) rfl HE.out
  case false =>
    have WF : ∀ o o1 o', Wf ((((w1.alloc o).alloc o1).alloc (.cells #[.string ⟨#[105, 100]⟩, .string ⟨#[105, 110, 116]⟩, .bool false, .bool true, .bool false, .bool false, .bool false, .slice none 0 0] 30)).alloc o') (σ.add (w1.heap.size + 1 + 1) 30 1) B ∧ Below w.heap.size w ((((w1.alloc o).alloc o1).alloc (.cells #[.string ⟨#[105, 100]⟩, .string ⟨#[105, 110, 116]⟩, .bool false, .bool true, .bool false, .bool false, .bool false, .slice none 0 0] 30)).alloc o') ∧ ((((w1.alloc o).alloc o1).alloc (.cells #[.string ⟨#[105, 100]⟩, .string ⟨#[105, 110, 116]⟩, .bool false, .bool true, .bool false, .bool false, .bool false, .slice none 0 0] 30)).alloc o').heap[w.heap.size]? = w1.heap[w.heap.size]? ∧ ((((w1.alloc o).alloc o1).alloc (.cells #[.string ⟨#[105, 100]⟩, .string ⟨#[105, 110, 116]⟩, .bool false, .bool true, .bool false, .bool false, .bool false, .slice none 0 0] 30)).alloc o').heap[w.heap.size + 1]? = w1.heap[w.heap.size + 1]? := fun o o1 o' => by
      have hB : Below w1.heap.size w1 ((((w1.alloc o).alloc o1).alloc (.cells #[.string ⟨#[105, 100]⟩, .string ⟨#[105, 110, 116]⟩, .bool false, .bool true, .bool false, .bool false, .bool false, .slice none 0 0] 30)).alloc o') := ((below_box2 w1 _ _).alloc (by simp; omega) _).alloc (by simp; omega) _
      refine ⟨(hW.below (bw.trans (hB.mono (by omega)))).add (hW.fresh (by omega)) ?_ rfl (cells_one rfl (fieldCells _ _ ⟨#[105, 100]⟩ ⟨#[105, 110, 116]⟩ false true false false false _ (by decide) (by decide) (sl_nil _ _ _))), bw.trans (hB.mono (by omega)), hB.block _ (by omega), hB.block _ (by omega)⟩
      rw [(below_box _ _).block _ (by simp)]
      exact block_new _ _ (by simp)
    have TOK := typeCells (σ.add (w1.heap.size + 1 + 1) 30 1) B nm ⟨#[105, 100]⟩ (.slice (some ⟨w1.heap.size + 1 + 1, 0, none⟩) 1 1) hnm (fun _ => hsc) (by decide) ⟨_, 1, 1, rfl, hnf1, by omega, by simp [maxLen], Or.inr ⟨_, rfl, Sh.add_self _ _ _ _⟩⟩
    have HWF := hid_of WF
    have HTOK := hid_of TOK
    clear WF TOK A2
    go_wp2_with (
      at_builtin
      (refine wpList_append_wf (HWF.out _ _ _).1 rfl _ _ 23 rfl 40 iT _ 56 Tryz.underlying23 hiT hzT hsT hbT rfl (zeroT _ _) (some ⟨b, 0, none⟩) len cap rfl hl hcm (Or.inr ⟨b, rfl, (Sh.add_ext (hW.fresh (by omega))) _ _ _ hb⟩) ⟨w1.heap.size + 1 + 1 + 1, 0, none⟩ 1 1 [.string nm, .string ⟨#[105, 100]⟩, .slice (some ⟨w1.heap.size + 1 + 1, 0, none⟩) 1 1] rfl rfl (World.news_of_block (block_new _ _ (by simp))) (by intro u hu; simp at hu; rcases hu with rfl | rfl | rfl <;> rfl) (cells_list (T := 40) (cs := #[.string nm, .string ⟨#[105, 100]⟩, .slice (some ⟨w1.heap.size + 1 + 1, 0, none⟩) 1 1]) rfl HTOK.out) (by omega) (by unfold maxLen; omega) (by omega) ?_)
      intro g cap' wP σ' q1 q2 q3 q4 q5 q6 q7 q8 q9
      (obtain ⟨hE, x0, x1, hzP⟩ := HEND.out _ wP g cap' σ' _ (HWF.out _ _ _).2.1 (by omega) (by simp) (HWF.out _ _ _).2.2.1 (HWF.out _ _ _).2.2.2 q1 q2 q3 q4 q5 q6 q7 (q8 b rfl) (q9 0 _ rfl))
      have HE := hid_of hE
      clear hE q1 q2 q5 q6 q7 q8 q9
      obtain ⟨y0, -⟩ := box_at x0 0 (by simp)
      obtain ⟨y1, yf1⟩ := box_at x0 1 (by simp)
      obtain ⟨u0, uf0⟩ := box_at x1 0 (by simp)
      obtain ⟨u1, uf1⟩ := box_at x1 1 (by simp)
      simp only [List.getElem_toArray, List.getElem_cons_zero, List.getElem_cons_succ] at y0 y1 u0 u1)
    have hd := sets2_cells ((Below.heap_setCell wP ⟨w.heap.size, 1, none⟩ (.slice (some ⟨g, 0, none⟩) (len + 1) cap') (w.heap.size + 1) (by show w.heap.size + 1 ≠ w.heap.size; omega)).trans x1) (.string s) (.slice (some ⟨g, 0, none⟩) (len + 1) cap')
    exact bodyPost_ret (needResult _ _ (w.heap.size + 1) (.string s) (.slice (some ⟨g, 0, none⟩) (len + 1) cap') rfl hd.1 hd.2) rfl HE.out
end Go.Proofs.YtibpieomldhomaaGreatDoor

namespace Go.Proofs.YtibpieomldhomaaGreatDoor
set_option linter.unusedSimpArgs false
set_option linter.unusedVariables false
open Go.RowKit Go.Maps

/-- A field's cells. -/
def fcs (fn fo : ByteArray) (l m fr h sh : Bool) (na : Option Addr) (nl nc : Nat) : Array Value := #[.string fn, .string fo, .bool l, .bool m, .bool fr, .bool h, .bool sh, .slice na nl nc]
/-- What is known behind l11Give's first line: the part in its box, the field in its, the result's. -/
structure GSt (w : World) (σ : Sh) (B : Bd) (s : ByteArray) (fc : Array Value) (len0 : Nat) (nm : ByteArray) (wx : World) (σ1 : Sh) (B1 : Bd) (b1 len1 cap1 : Nat) : Prop where
  pbox : wx.heap[w.heap.size]? = some (.cells #[.string s, .slice (some ⟨b1, 0, none⟩) len1 cap1] 25 (0, 0))
  fbox : wx.heap[w.heap.size + 1]? = some (.cells fc 30 (0, 0))
  rbox : wx.heap[w.heap.size + 1 + 1]? = some (.cells #[.string ⟨#[]⟩, .slice none 0 0] 25 (0, 0))
  wf : Wf wx σ1 B1
  ext : Ext σ σ1
  old : ∀ x, x < w.heap.size → σ1 x = σ x
  n0 : σ1 w.heap.size = none
  n1 : σ1 (w.heap.size + 1) = none
  n2 : σ1 (w.heap.size + 1 + 1) = none
  only : Only (Hot σ) w wx
  size : w.heap.size + 1 + 1 < wx.heap.size
  le : len0 ≤ len1
  le2 : len1 ≤ len0 + 2
  lc : len1 ≤ cap1
  cm : cap1 ≤ maxLen
  blk : σ1 b1 = some (40, cap1)
  has : TN wx b1 len1 nm
theorem GSt.below {w : World} {σ : Sh} {B : Bd} {s : ByteArray} {fc : Array Value} {len0 : Nat} {nm : ByteArray} {wx wy : World} {σ1 : Sh} {B1 : Bd} {b1 len1 cap1 : Nat} (h : GSt w σ B s fc len0 nm wx σ1 B1 b1 len1 cap1) (hb : Below wx.heap.size wx wy) : GSt w σ B s fc len0 nm wy σ1 B1 b1 len1 cap1 := by
  have hz := h.size
  have hk := hb.size
  refine ⟨(hb.block _ (by omega)).trans h.pbox, (hb.block _ (by omega)).trans h.fbox, (hb.block _ (by omega)).trans h.rbox, h.wf.below hb, h.ext, h.old, h.n0, h.n1, h.n2, h.only.trans (Only.of_below _ hb) (fun _ _ q => q), by omega, h.le, h.le2, h.lc, h.cm, h.blk, ?_⟩
  obtain ⟨i, hi, hc⟩ := h.has
  exact ⟨i, hi, (hb.cell (p := ⟨b1, i * 3, none⟩) (h.wf.lt h.blk)).trans hc⟩
theorem GSt.drew {w : World} {σ : Sh} {B : Bd} {s : ByteArray} {fc : Array Value} {len0 : Nat} {nm : ByteArray} {wx : World} {σ1 : Sh} {B1 : Bd} {b1 len1 cap1 : Nat} (h : GSt w σ B s fc len0 nm wx σ1 B1 b1 len1 cap1) : GSt w σ B s fc len0 nm wx.drew σ1 B1 b1 len1 cap1 :=
  h.below ⟨rfl, rfl, rfl, Nat.le_refl _, fun _ _ => rfl⟩
/-- The cells of a type that is there. -/
theorem GSt.row {w : World} {σ : Sh} {B : Bd} {s : ByteArray} {fc : Array Value} {len0 : Nat} {nm : ByteArray} {wx : World} {σ1 : Sh} {B1 : Bd} {b1 len1 cap1 : Nat} (h : GSt w σ B s fc len0 nm wx σ1 B1 b1 len1 cap1) (k : Nat) (hk : k < len1) :
    ∃ (n ky : ByteArray) (fa : Option Addr) (fl fp : Nat), wx.cell? ⟨b1, k * 3, none⟩ = some (.string n) ∧ wx.cell? ⟨b1, k * 3 + 1, none⟩ = some (.string ky) ∧ wx.cell? ⟨b1, k * 3 + 2, none⟩ = some (.slice fa fl fp) ∧ wx.frozen? ⟨b1, k * 3 + 2, none⟩ = false ∧ n.size ≤ 12 ∧ ky.size ≤ 12 ∧ fl ≤ B1.nf ∧ fl ≤ fp ∧ fp ≤ maxLen ∧ ((fa = none ∧ fl = 0 ∧ fp = 0) ∨ ∃ b, fa = some ⟨b, 0, none⟩ ∧ σ1 b = some (30, fp)) := by
  have hk2 : k < cap1 := Nat.lt_of_lt_of_le hk h.lc
  obtain ⟨v0, c0, o0, -⟩ := h.wf.cell h.blk k 0 hk2 (by rw [wideT]; omega)
  obtain ⟨v1, c1, o1, -⟩ := h.wf.cell h.blk k 1 hk2 (by rw [wideT]; omega)
  obtain ⟨v2, c2, o2, f2⟩ := h.wf.cell h.blk k 2 hk2 (by rw [wideT]; omega)
  rw [wideT] at c0 c1 c2 f2
  obtain ⟨n, rfl, z0, -⟩ : NmOk B1.st v0 := by simpa [CellOk] using o0
  obtain ⟨ky, rfl, z1⟩ : StOk v1 := by simpa [CellOk] using o1
  obtain ⟨fa, fl, fp, rfl, q1, q2, q3, q4⟩ : SlOk σ1 30 B1.nf v2 := by simpa [CellOk] using o2
  exact ⟨n, ky, fa, fl, fp, c0, c1, c2, f2, z0, z1, q1, q2, q3, q4⟩

set_option maxHeartbeats 400000 in
theorem l2Field_wf (w : World) (σ : Sh) (B : Bd) (n ky nm : ByteArray) (fa : Option Addr) (fl fp : Nat) (hW : Wf w σ B) (hn : n.size ≤ 12) (hk : ky.size ≤ 12) (h1 : fl ≤ B.nf) (h2 : fl ≤ fp) (h3 : fp ≤ maxLen) (h4 : (fa = none ∧ fl = 0 ∧ fp = 0) ∨ ∃ b, fa = some ⟨b, 0, none⟩ ∧ σ b = some (30, fp)) (hnn : B.nn ≤ 3) (hnf : B.nf ≤ 1000000) :
    Calls Tryz.prog 20 #[.agg #[.string n, .string ky, .slice fa fl fp], .string nm] w fun e w' => ∃ k : Int, e = .returned (.int .i64 k) ∧ -1 ≤ k ∧ k < fl ∧ Below w.heap.size w w' := by
  obtain ⟨a, c, fs, e, hF, hc, hl, -⟩ := hW.fields (N := B.nf) ⟨fa, fl, fp, rfl, h1, h2, h3, h4⟩ hnf hnn
  simp only [Value.slice.injEq] at e
  obtain ⟨rfl, rfl, rfl⟩ := e
  refine (l2Field_any ⟨n, ky, fs⟩ w w.heap.size _ nm ⟨_, _, rfl, hF, hc, by simp only [maxLen]; omega, by simp only [maxLen]; omega⟩ (Nat.le_refl _)).mono fun e w' h => ?_
  obtain ⟨he, hbl⟩ := h
  refine ⟨_, he, ?_, ?_, hbl⟩
  all_goals rcases firstTo_cases (fun i => (fth fs i).name.toList == nm.toList) fs.length with ⟨hx, hno⟩ | ⟨g, hx, hg, hyes, -⟩
  all_goals simp only [hx]
  all_goals omega
/-- A cell of a type's fields is written: the part's, the field's and the result's boxes stay. -/
theorem GSt.put {w : World} {σ : Sh} {B : Bd} {s : ByteArray} {fc : Array Value} {len0 : Nat} {nm : ByteArray} {wx : World} {σ1 : Sh} {B1 : Bd} {b1 len1 cap1 : Nat} (h : GSt w σ B s fc len0 nm wx σ1 B1 b1 len1 cap1) {N k : Nat} {T : TypeId} {n : Nat} (hN : σ1 N = some (T, n)) (hT : T ≠ 9) (v : Value) (hv : CellOk σ1 B1 T (k % wide T) v) (hk : N = b1 → k % 3 ≠ 0) :
    GSt w σ B s fc len0 nm (wx.setCell ⟨N, k, none⟩ v) σ1 B1 b1 len1 cap1 := by
  have hz := h.size
  have e0 : w.heap.size ≠ N := fun e => by subst e; rw [h.n0] at hN; cases hN
  have e1 : w.heap.size + 1 ≠ N := fun e => by subst e; rw [h.n1] at hN; cases hN
  have e2 : w.heap.size + 1 + 1 ≠ N := fun e => by subst e; rw [h.n2] at hN; cases hN
  refine ⟨(Below.heap_setCell _ _ _ _ e0).trans h.pbox, (Below.heap_setCell _ _ _ _ e1).trans h.fbox, (Below.heap_setCell _ _ _ _ e2).trans h.rbox, h.wf.set hN k v hv, h.ext, h.old, h.n0, h.n1, h.n2, h.only.set N k ?_ v, by rw [size_set]; omega, h.le, h.le2, h.lc, h.cm, h.blk, ?_⟩
  · rcases Nat.lt_or_ge N w.heap.size with q | q
    · exact Or.inl ⟨T, n, by rw [← h.old N q]; exact hN, hT⟩
    · exact Or.inr q
  · obtain ⟨i, hi, hc⟩ := h.has
    refine ⟨i, hi, ?_⟩
    by_cases e : b1 = N
    · subst e
      have hne : (⟨b1, k, none⟩ : Addr) ≠ ⟨b1, i * 3, none⟩ := fun e => by
        simp only [Addr.mk.injEq, true_and, and_true] at e
        have := hk rfl
        omega
      rw [World.cell?_setCell_other _ _ _ _ hne]
      exact hc
    · exact (World.cell?_of_block (a := ⟨b1, i * 3, none⟩) (Below.heap_setCell _ _ _ _ e)).trans hc
theorem GSt.le' {w : World} {σ : Sh} {B : Bd} {s : ByteArray} {fc : Array Value} {len0 : Nat} {nm : ByteArray} {wx : World} {σ1 : Sh} {B1 B2 : Bd} {b1 len1 cap1 : Nat} (h : GSt w σ B s fc len0 nm wx σ1 B1 b1 len1 cap1) (hB : B1.le B2) : GSt w σ B s fc len0 nm wx σ1 B2 b1 len1 cap1 :=
  ⟨h.pbox, h.fbox, h.rbox, h.wf.le hB, h.ext, h.old, h.n0, h.n1, h.n2, h.only, h.size, h.le, h.le2, h.lc, h.cm, h.blk, h.has⟩
/-- Fields are appended to. -/
theorem GSt.grow {w : World} {σ : Sh} {B : Bd} {s : ByteArray} {fc : Array Value} {len0 : Nat} {nm : ByteArray} {wx W wP : World} {σ1 σ' : Sh} {B1 : Bd} {b1 len1 cap1 : Nat} (h0 : GSt w σ B s fc len0 nm wx σ1 B1 b1 len1 cap1) (hB : Below wx.heap.size wx W) {fa : Option Addr} {fl fp : Nat} (h4 : (fa = none ∧ fl = 0 ∧ fp = 0) ∨ ∃ b, fa = some ⟨b, 0, none⟩ ∧ σ1 b = some (30, fp))
    (q1 : Wf wP σ' B1) (q5 : Ext σ1 σ') (q6 : ∀ x, x < W.heap.size → σ' x = σ1 x) (q7 : W.grownBy wP (Value.slice fa fl fp).ownBlock) : GSt w σ B s fc len0 nm wP σ' B1 b1 len1 cap1 := by
  have h := h0.below hB
  have hz := h.size
  have hzP := q7.size
  have hrow : ∀ k, (Value.slice fa fl fp).ownBlock = some k → σ1 k = some (30, fp) := fun k hk => by
    rcases h4 with ⟨rfl, -, -⟩ | ⟨b, rfl, hb⟩
    · cases hk
    · cases hk; exact hb
  have hk : ∀ x, x < W.heap.size → (∀ n, σ1 x ≠ some (30, n)) → wP.heap[x]? = W.heap[x]? := fun x hx hn => q7.block x hx (fun e => hn _ (hrow x e.symm))
  refine ⟨(hk _ (by omega) (fun n => by rw [h.n0]; simp)).trans h.pbox, (hk _ (by omega) (fun n => by rw [h.n1]; simp)).trans h.fbox, (hk _ (by omega) (fun n => by rw [h.n2]; simp)).trans h.rbox, q1, h.ext.trans q5, fun x hx => by rw [q6 x (by omega)]; exact h.old x hx, by rw [q6 _ (by omega)]; exact h.n0, by rw [q6 _ (by omega)]; exact h.n1, by rw [q6 _ (by omega)]; exact h.n2, h.only.grown q7 (fun k hk => ?_), by omega, h.le, h.le2, h.lc, h.cm, q5 _ _ _ h.blk, ?_⟩
  · rcases Nat.lt_or_ge k w.heap.size with q | q
    · exact Or.inl ⟨_, _, by rw [← h.old k q]; exact hrow k hk, by decide⟩
    · exact Or.inr q
  · obtain ⟨i, hi, hc⟩ := h.has
    exact ⟨i, hi, (World.cell?_of_block (a := ⟨b1, i * 3, none⟩) (hk b1 (h.wf.lt h.blk) (fun n => by rw [h.blk]; simp))).trans hc⟩
/-- And the type has them. -/
theorem GSt.app {w : World} {σ : Sh} {B : Bd} {s : ByteArray} {fc : Array Value} {len0 : Nat} {nm : ByteArray} {wP : World} {σ' : Sh} {B1 B2 : Bd} {b1 len1 cap1 : Nat} (h : GSt w σ B s fc len0 nm wP σ' B1 b1 len1 cap1) {g n c k : Nat} (hg : σ' g = some (30, c)) (hn : n ≤ c) (hc : c ≤ maxLen) (hB : B1.le B2) (hn2 : n ≤ B2.nf) :
    GSt w σ B s fc len0 nm (wP.setCell ⟨b1, k * 3 + 2, none⟩ (.slice (some ⟨g, 0, none⟩) n c)) σ' B2 b1 len1 cap1 := by
  refine (h.le' hB).put h.blk (by decide) _ ?_ (fun _ => by omega)
  rw [wideT, show (k * 3 + 2) % 3 = 2 by omega]
  have : SlOk σ' 30 B2.nf (.slice (some ⟨g, 0, none⟩) n c) := ⟨_, n, c, rfl, hn2, hn, hc, Or.inr ⟨g, rfl, hg⟩⟩
  simpa [CellOk] using this
/-- A field put in another's place. -/
theorem GSt.put8 {w : World} {σ : Sh} {B : Bd} {s : ByteArray} {fc : Array Value} {len0 : Nat} {nm : ByteArray} {wx : World} {σ1 : Sh} {B1 : Bd} {b1 len1 cap1 : Nat} (h : GSt w σ B s fc len0 nm wx σ1 B1 b1 len1 cap1) {N k n : Nat} (hN : σ1 N = some (30, n)) (fn fo : ByteArray) (l m fr hd sh : Bool) (nv : Value) (h1 : fn.size ≤ 12) (h2 : fo.size ≤ 12) (h3 : SlOk σ1 9 B1.nn nv) :
    GSt w σ B s fc len0 nm ((((((((wx.setCell ⟨N, k * 8, none⟩ (.string fn)).setCell ⟨N, k * 8 + 1, none⟩ (.string fo)).setCell ⟨N, k * 8 + 2, none⟩ (.bool l)).setCell ⟨N, k * 8 + 3, none⟩ (.bool m)).setCell ⟨N, k * 8 + 4, none⟩ (.bool fr)).setCell ⟨N, k * 8 + 5, none⟩ (.bool hd)).setCell ⟨N, k * 8 + 6, none⟩ (.bool sh)).setCell ⟨N, k * 8 + 7, none⟩ nv) σ1 B1 b1 len1 cap1 := by
  have hb : N ≠ b1 := fun e => by subst e; rw [h.blk] at hN; simp at hN
  have hm : ∀ j, j < 8 → (k * 8 + j) % wide 30 = j := fun j hj => by rw [wideF]; omega
  have hc := fieldCells σ1 B1 fn fo l m fr hd sh nv h1 h2 h3
  have q : ∀ j (hj : j < 8) v, (#[.string fn, .string fo, .bool l, .bool m, .bool fr, .bool hd, .bool sh, nv] : Array Value)[j]? = some v → CellOk σ1 B1 30 ((k * 8 + j) % wide 30) v := fun j hj v hv => by rw [hm j hj]; exact hc j v hv
  exact (((((((h.put hN (by decide) _ (q 0 (by omega) _ rfl) (fun e => absurd e hb)).put hN (by decide) _ (q 1 (by omega) _ rfl) (fun e => absurd e hb)).put hN (by decide) _ (q 2 (by omega) _ rfl) (fun e => absurd e hb)).put hN (by decide) _ (q 3 (by omega) _ rfl) (fun e => absurd e hb)).put hN (by decide) _ (q 4 (by omega) _ rfl) (fun e => absurd e hb)).put hN (by decide) _ (q 5 (by omega) _ rfl) (fun e => absurd e hb)).put hN (by decide) _ (q 6 (by omega) _ rfl) (fun e => absurd e hb)).put hN (by decide) _ (q 7 (by omega) _ rfl) (fun e => absurd e hb)
end Go.Proofs.YtibpieomldhomaaGreatDoor
