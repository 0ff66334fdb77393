import Derived.Test.YtdohgkokoicjlaaB5
import Derived.Deep.AppendLies
import Derived.Deep.RegionLaw
import Derived.Maps.AppendAt
set_option linter.unusedSimpArgs false
set_option linter.unusedVariables false
namespace Go.Proofs.Ytdohgkokoicjlaa
open Go.RowKit Go.Maps
abbrev Sh := Nat → Option (TypeId × Nat)
structure Bd where
  nt : Nat
  nf : Nat
  nn : Nat
  st : Bool
def Bd.le (a b : Bd) : Prop := a.nt ≤ b.nt ∧ a.nf ≤ b.nf ∧ a.nn ≤ b.nn ∧ (b.st = true → a.st = true)
theorem Bd.le.refl (a : Bd) : a.le a := ⟨Nat.le_refl _, Nat.le_refl _, Nat.le_refl _, id⟩
theorem Bd.le.trans {a b c : Bd} (h : a.le b) (k : b.le c) : a.le c := ⟨Nat.le_trans h.1 k.1, Nat.le_trans h.2.1 k.2.1, Nat.le_trans h.2.2.1 k.2.2.1, fun x => h.2.2.2 (k.2.2.2 x)⟩
def wide (T : TypeId) : Nat := if T = 37 then 8 else if T = 48 then 3 else 1
theorem wide_pos (T : TypeId) : 0 < wide T := by
  unfold wide
  split
  · omega
  · split <;> omega
theorem wideF : wide 37 = 8 := rfl
theorem wideT : wide 48 = 3 := rfl
theorem wideS : wide 9 = 1 := rfl
def SlOk (σ : Sh) (T : TypeId) (N : Nat) (v : Value) : Prop := ∃ (a : Option Addr) (len cap : Nat), v = .slice a len cap ∧ len ≤ N ∧ len ≤ cap ∧ cap ≤ maxLen ∧ ((a = none ∧ len = 0 ∧ cap = 0) ∨ ∃ b, a = some ⟨b, 0, none⟩ ∧ σ b = some (T, cap))
def StOk (v : Value) : Prop := ∃ s : ByteArray, v = .string s ∧ s.size ≤ 12
def NmOk (st : Bool) (v : Value) : Prop := ∃ s : ByteArray, v = .string s ∧ s.size ≤ 12 ∧ (st = true → scalarB s = false)
def BoOk (v : Value) : Prop := ∃ b : Bool, v = .bool b
def CellOk (σ : Sh) (B : Bd) (T : TypeId) (j : Nat) (v : Value) : Prop :=
  if T = 37 then (if j < 2 then StOk v else if j < 7 then BoOk v else SlOk σ 9 B.nn v)
  else if T = 48 then (if j = 0 then NmOk B.st v else if j = 1 then StOk v else SlOk σ 37 B.nf v)
  else StOk v
def Wf (w : World) (σ : Sh) (B : Bd) : Prop := ∀ b T n, σ b = some (T, n) → ∃ cur : Array Value, w.heap[b]? = some (.cells cur T (0, 0)) ∧ cur.size = n * wide T ∧ ∀ k v, cur[k]? = some v → CellOk σ B T (k % wide T) v
def Ext (σ σ' : Sh) : Prop := ∀ b T n, σ b = some (T, n) → σ' b = some (T, n)
theorem Ext.refl (σ : Sh) : Ext σ σ := fun _ _ _ h => h
theorem Ext.trans {a b c : Sh} (h : Ext a b) (k : Ext b c) : Ext a c := fun x T n q => k x T n (h x T n q)
def Sh.add (σ : Sh) (N : Nat) (T : TypeId) (n : Nat) : Sh := fun b => if b = N then some (T, n) else σ b
theorem Sh.add_ext {σ : Sh} {N n : Nat} {T : TypeId} (h : σ N = none) : Ext σ (σ.add N T n) := fun b T' n' hb => by
  unfold Sh.add
  by_cases e : b = N
  · subst e; rw [h] at hb; cases hb
  · rw [if_neg e, hb]
theorem Sh.add_self (σ : Sh) (N : Nat) (T : TypeId) (n : Nat) : σ.add N T n N = some (T, n) := if_pos rfl
theorem Sh.add_ne (σ : Sh) (N : Nat) (T : TypeId) (n b : Nat) (h : b ≠ N) : σ.add N T n b = σ b := if_neg h
theorem SlOk.ext {σ σ' : Sh} {T : TypeId} {N N' : Nat} {v : Value} (h : SlOk σ T N v) (he : Ext σ σ') (hN : N ≤ N') : SlOk σ' T N' v := by
  obtain ⟨a, len, cap, rfl, h1, h2, h3, h4⟩ := h
  exact ⟨a, len, cap, rfl, by omega, h2, h3, h4.imp id fun ⟨b, hb, hs⟩ => ⟨b, hb, he _ _ _ hs⟩⟩
theorem CellOk.ext {σ σ' : Sh} {B B' : Bd} {T : TypeId} {j : Nat} {v : Value} (h : CellOk σ B T j v) (he : Ext σ σ') (hB : B.le B') : CellOk σ' B' T j v := by
  unfold CellOk at h ⊢
  obtain ⟨h1, h2, h3, h4⟩ := hB
  split
  · rename_i e; rw [if_pos e] at h
    split
    · rename_i e; rw [if_pos e] at h; exact h
    · rename_i e; rw [if_neg e] at h
      split
      · rename_i e; rw [if_pos e] at h; exact h
      · rename_i e; rw [if_neg e] at h; exact h.ext he h3
  · rename_i e; rw [if_neg e] at h
    split
    · rename_i e; rw [if_pos e] at h
      split
      · rename_i e; rw [if_pos e] at h
        obtain ⟨s, rfl, q1, q2⟩ := h
        exact ⟨s, rfl, q1, fun x => q2 (h4 x)⟩
      · rename_i e; rw [if_neg e] at h
        split
        · rename_i e; rw [if_pos e] at h; exact h
        · rename_i e; rw [if_neg e] at h; exact h.ext he h2
    · rename_i e; rw [if_neg e] at h; exact h
theorem Wf.le {w : World} {σ : Sh} {B B' : Bd} (h : Wf w σ B) (hB : B.le B') : Wf w σ B' := fun b T n hb => by
  obtain ⟨cur, h1, h2, h3⟩ := h b T n hb
  exact ⟨cur, h1, h2, fun k v hv => (h3 k v hv).ext (Ext.refl _) hB⟩
theorem Wf.keep {w w' : World} {σ : Sh} {B : Bd} (h : Wf w σ B) (hb : ∀ b T n, σ b = some (T, n) → w'.heap[b]? = w.heap[b]?) : Wf w' σ B := fun b T n hs => by
  obtain ⟨cur, h1, h2⟩ := h b T n hs
  exact ⟨cur, (hb b T n hs).trans h1, h2⟩
theorem Wf.lt {w : World} {σ : Sh} {B : Bd} (h : Wf w σ B) {b : Nat} {T : TypeId} {n : Nat} (hs : σ b = some (T, n)) : b < w.heap.size := by
  obtain ⟨cur, h1, -⟩ := h b T n hs
  exact (Array.getElem?_eq_some_iff.1 h1).1
theorem Wf.fresh {w : World} {σ : Sh} {B : Bd} (h : Wf w σ B) {b : Nat} (hb : w.heap.size ≤ b) : σ b = none := by
  cases e : σ b with
  | none => rfl
  | some x => obtain ⟨T, n⟩ := x; have := h.lt e; omega
theorem Wf.below {w w' : World} {σ : Sh} {B : Bd} (h : Wf w σ B) (hb : Below w.heap.size w w') : Wf w' σ B := h.keep fun b T n hs => hb.block b (h.lt hs)
theorem Wf.nil (w : World) (B : Bd) : Wf w (fun _ => none) B := fun _ _ _ h => by cases h
theorem Wf.cell {w : World} {σ : Sh} {B : Bd} (h : Wf w σ B) {b : Nat} {T : TypeId} {n : Nat} (hs : σ b = some (T, n)) (i j : Nat) (hi : i < n) (hj : j < wide T) : ∃ v, w.cell? ⟨b, i * wide T + j, none⟩ = some v ∧ CellOk σ B T j v ∧ w.frozen? ⟨b, i * wide T + j, none⟩ = false := by
  obtain ⟨cur, h1, h2, h3⟩ := h b T n hs
  have hlt : i * wide T + j < cur.size := by
    rw [h2]
    calc i * wide T + j < i * wide T + wide T := by omega
      _ = (i + 1) * wide T := by rw [Nat.add_mul, Nat.one_mul]
      _ ≤ n * wide T := Nat.mul_le_mul_right _ hi
  refine ⟨cur[i * wide T + j], ?_, ?_, ?_⟩
  · rw [cell_of_row w b _ cur T (0, 0) h1, Array.getElem?_eq_getElem hlt]
  · have := h3 _ _ (Array.getElem?_eq_getElem hlt)
    have e : (i * wide T + j) % wide T = j := by rw [Nat.mul_comm i, Nat.mul_add_mod, Nat.mod_eq_of_lt hj]
    rw [e] at this
    exact this
  · simp [World.frozen?, h1]
theorem Wf.add {w : World} {σ : Sh} {B : Bd} (h : Wf w σ B) {N : Nat} {T : TypeId} {n : Nat} {cur : Array Value} (hN : σ N = none) (hb : w.heap[N]? = some (.cells cur T (0, 0))) (hz : cur.size = n * wide T) (hc : ∀ k v, cur[k]? = some v → CellOk σ B T (k % wide T) v) : Wf w (σ.add N T n) B := by
  have he := Sh.add_ext (T := T) (n := n) hN
  intro b T' n' hs
  by_cases e : b = N
  · subst e
    rw [Sh.add_self] at hs
    cases hs
    exact ⟨cur, hb, hz, fun k v hv => (hc k v hv).ext he (Bd.le.refl _)⟩
  · rw [Sh.add_ne _ _ _ _ _ e] at hs
    obtain ⟨cur', h1, h2, h3⟩ := h b T' n' hs
    exact ⟨cur', h1, h2, fun k v hv => (h3 k v hv).ext he (Bd.le.refl _)⟩
theorem Wf.row {w w' : World} {σ : Sh} {B : Bd} (h : Wf w σ B) {N : Nat} {T : TypeId} {n : Nat} {cur : Array Value} (hN : σ N = some (T, n)) (hb : w'.heap[N]? = some (.cells cur T (0, 0))) (hz : cur.size = n * wide T) (hc : ∀ k v, cur[k]? = some v → CellOk σ B T (k % wide T) v) (hr : ∀ b, b ≠ N → b < w.heap.size → w'.heap[b]? = w.heap[b]?) : Wf w' σ B := by
  intro b T' n' hs
  by_cases e : b = N
  · subst e
    rw [hN] at hs
    cases hs
    exact ⟨cur, hb, hz, hc⟩
  · obtain ⟨cur', h1, h2⟩ := h b T' n' hs
    exact ⟨cur', (hr b e (h.lt hs)).trans h1, h2⟩
theorem Wf.set {w : World} {σ : Sh} {B : Bd} (h : Wf w σ B) {N : Nat} {T : TypeId} {n : Nat} (hN : σ N = some (T, n)) (k : Nat) (v : Value) (hv : CellOk σ B T (k % wide T) v) : Wf (w.setCell ⟨N, k, none⟩ v) σ B := by
  obtain ⟨cur, h1, h2, h3⟩ := h N T n hN
  refine h.row hN (cur := cur.setIfInBounds k v) ?_ (by simpa using h2) (fun j u hu => ?_) (fun b hb _ => Below.heap_setCell _ _ _ _ hb)
  · show (w.heap.modify N _)[N]? = _
    rw [Array.getElem?_modify]
    simp [h1]
  · by_cases e : j = k
    · subst e
      rw [Array.getElem?_setIfInBounds_self] at hu
      split at hu
      · cases hu; exact hv
      · cases hu
    · rw [Array.getElem?_setIfInBounds_ne (Ne.symm e)] at hu
      exact h3 j u hu
theorem run_append_wf {P : Program} {w : World} {σ : Sh} {B : Bd} (hW : Wf w σ B) (t ty e : TypeId) (i : TypeInfo) (z : Value) (bytes : Nat) (ht : P.underlying t = some (.slice e)) (hi : P.info? e = some i) (hz : i.zero = some z)
    (hsize : i.size = wide e) (hby : i.bytes = bytes) (hzs : z.cells.size = wide e) (hzc : ∀ j u, z.cells[j]? = some u → CellOk σ B e j u)
    (a : Option Addr) (n cap : Nat) (hnc : n ≤ cap) (hcm : cap ≤ maxLen) (hs : (a = none ∧ n = 0 ∧ cap = 0) ∨ ∃ b, a = some ⟨b, 0, none⟩ ∧ σ b = some (e, cap))
    (ad : Addr) (m c : Nat) (news : List Value) (hl : news.length = m * wide e) (hnews : ∀ j u, news[j]? = some u → w.cell? (ad.add j) = some u) (h1 : ∀ u ∈ news, u.oneCell' = true) (hok : ∀ j u, news[j]? = some u → CellOk σ B e (j % wide e) u)
    (hm : 0 < m) (h63 : n + m ≤ maxLen) (hbytes : (n + m) * bytes ≤ 140737488355328) :
    ∃ g cap' w' σ', (Builtin.append_ #[t, t] ty #[.slice a n cap, .slice (some ad) m c]).run P w = .ok (.slice (some ⟨g, 0, none⟩) (n + m) cap') w' ∧ Wf w' σ' B ∧ σ' g = some (e, cap') ∧ n + m ≤ cap' ∧ cap' ≤ maxLen ∧ Ext σ σ' ∧ (∀ b, b < w.heap.size → σ' b = σ b) ∧
      w.grownBy w' (Value.slice a n cap).ownBlock ∧ (∀ b, a = some ⟨b, 0, none⟩ → ∀ j, j < n * wide e → w'.cell? ⟨g, j, none⟩ = w.cell? ⟨b, j, none⟩) ∧ (∀ j u, news[j]? = some u → w'.cell? ⟨g, n * wide e + j, none⟩ = some u) := by
  have hpos := wide_pos e
  subst hby
  have hsmall : n + m ≤ 9223372036854775807 := by simp only [maxLen] at h63; omega
  have zc : ∀ q k v, (Builtin.zeroCells z.cells q)[k]? = some v → CellOk σ B e (k % wide e) v := by
    intro q k v hv
    have hk : k < q * wide e := by
      have := (Array.getElem?_eq_some_iff.1 hv).1
      rw [size_zeroCells, hzs] at this
      exact this
    refine hzc (k % wide e) v ?_
    unfold Builtin.zeroCells at hv
    rw [← hv]
    have hkm : k % wide e < z.cells.size := by rw [hzs]; exact Nat.mod_lt _ hpos
    simp [hzs, hk, hkm, Nat.mod_lt _ hpos]
  have grown : ∀ (old : Nat) (xs : List Value), xs.length = n * wide e → (∀ j u, xs[j]? = some u → CellOk σ B e (j % wide e) u) → ∀ (row : Option Nat),
      Wf (w.drew.alloc (.cells (xs.toArray ++ news.toArray ++ Builtin.zeroCells z.cells (grownCap w (n + m) old e - (n + m))) e)) (σ.add w.heap.size e (grownCap w (n + m) old e)) B ∧ n + m ≤ grownCap w (n + m) old e ∧ grownCap w (n + m) old e ≤ maxLen ∧
      w.grownBy (w.drew.alloc (.cells (xs.toArray ++ news.toArray ++ Builtin.zeroCells z.cells (grownCap w (n + m) old e - (n + m))) e)) row ∧
      (∀ j u, xs[j]? = some u → (w.drew.alloc (.cells (xs.toArray ++ news.toArray ++ Builtin.zeroCells z.cells (grownCap w (n + m) old e - (n + m))) e)).cell? ⟨w.heap.size, j, none⟩ = some u) ∧
      (∀ j u, news[j]? = some u → (w.drew.alloc (.cells (xs.toArray ++ news.toArray ++ Builtin.zeroCells z.cells (grownCap w (n + m) old e - (n + m))) e)).cell? ⟨w.heap.size, n * wide e + j, none⟩ = some u) := by
    intro old xs hx hxo row
    have hge := grownCap_ge w (n + m) old e
    have hcm : grownCap w (n + m) old e ≤ maxLen := grownCap_le_maxLen w (n + m) old e h63
    generalize grownCap w (n + m) old e = q at *
    have hblk : (w.drew.alloc (.cells (xs.toArray ++ news.toArray ++ Builtin.zeroCells z.cells (q - (n + m))) e)).heap[w.heap.size]? = some (.cells (xs.toArray ++ news.toArray ++ Builtin.zeroCells z.cells (q - (n + m))) e (0, 0)) := heap_alloc_new w.drew _
    have hgr : ∀ row, w.grownBy (w.drew.alloc (.cells (xs.toArray ++ news.toArray ++ Builtin.zeroCells z.cells (q - (n + m))) e)) row := fun row => ⟨rfl, rfl, rfl, by simp, fun k hk _ => (World.grownBy_alloc w.drew _ none).block k hk (by simp)⟩
    have hWn : Wf (w.drew.alloc (.cells (xs.toArray ++ news.toArray ++ Builtin.zeroCells z.cells (q - (n + m))) e)) σ B := hW.keep fun b T n' hb => (hgr none).block b (hW.lt hb) (by simp)
    refine ⟨hWn.add (hW.fresh (Nat.le_refl _)) hblk ?_ ?_, hge, hcm, hgr row, fun j u hu => ?_, fun j u hu => ?_⟩
    · simp only [Array.size_append, List.size_toArray, size_zeroCells, hzs, hx, hl, ← Nat.add_mul]
      congr 1
      omega
    · intro k v hv
      rw [Array.getElem?_append, Array.getElem?_append] at hv
      simp only [Array.size_append, List.size_toArray, hx, hl] at hv
      split at hv
      · split at hv
        · exact hxo k v (by simpa using hv)
        · rename_i e1 e2
          have h2 := hok (k - n * wide e) v (by simpa using hv)
          have e3 : (k - n * wide e) % wide e = k % wide e := by
            obtain ⟨d, rfl⟩ : ∃ d, k = n * wide e + d := ⟨k - n * wide e, by omega⟩
            rw [Nat.add_sub_cancel_left, Nat.mul_comm n, Nat.mul_add_mod]
          rwa [e3] at h2
      · rename_i e1
        have h2 := zc _ (k - (n * wide e + m * wide e)) v hv
        have e3 : (k - (n * wide e + m * wide e)) % wide e = k % wide e := by
          rw [← Nat.add_mul] at e1 ⊢
          obtain ⟨d, rfl⟩ : ∃ d, k = (n + m) * wide e + d := ⟨k - (n + m) * wide e, by omega⟩
          rw [Nat.add_sub_cancel_left, Nat.mul_comm (n + m), Nat.mul_add_mod]
        rwa [e3] at h2
    · rw [cell_of_row _ _ _ _ _ _ hblk]
      have hj := (List.getElem?_eq_some_iff.1 hu).1
      rw [Array.getElem?_append, if_pos (by simp; omega), Array.getElem?_append, if_pos (by simpa using hj)]
      simpa using hu
    · rw [cell_of_row _ _ _ _ _ _ hblk]
      have hj := (List.getElem?_eq_some_iff.1 hu).1
      rw [Array.getElem?_append, if_pos (by simp [hx]; omega), Array.getElem?_append, if_neg (by simp [hx])]
      simpa [hx] using hu
  have hgext : ∀ q, Ext σ (σ.add w.heap.size e q) ∧ ∀ b, b < w.heap.size → (σ.add w.heap.size e q) b = σ b := fun q => ⟨Sh.add_ext (hW.fresh (Nat.le_refl _)), fun b hb => Sh.add_ne _ _ _ _ _ (by omega)⟩
  rcases hs with ⟨rfl, rfl, rfl⟩ | ⟨g, rfl, hg⟩
  · have hr := run_append_nil (P := P) w t ty e i z ht hi hz ad m c news (by rw [hsize]; exact hl) hnews (by omega) (by omega) (by have hb := hbytes; simp only [Nat.zero_add] at hb; omega)
    obtain ⟨g1, g2, g3, g4, -, g6⟩ := grown 0 [] (by simp) (fun j u hu => by simp at hu) none
    simp only [Nat.zero_add, List.nil_append, Array.empty_append] at g1 g2 g3 g4 g6 ⊢
    exact ⟨w.heap.size, _, _, _, hr, g1, Sh.add_self _ _ _ _, g2, g3, (hgext _).1, (hgext _).2, g4, (fun b hb => by cases hb), g6⟩
  · obtain ⟨cur, hb, hcs, hco⟩ := hW g e cap hg
    have hlen : (cur.toList.take (n * wide e)).length = n * wide e := by
      rw [List.length_take, Array.length_toList, hcs]
      exact Nat.min_eq_left (Nat.mul_le_mul_right _ hnc)
    have hxo : ∀ j u, (cur.toList.take (n * wide e))[j]? = some u → CellOk σ B e (j % wide e) u := fun j u hu => by
      rw [List.getElem?_take] at hu
      split at hu
      · exact hco j u (by simpa using hu)
      · cases hu
    have hxc : ∀ j, j < n * wide e → (cur.toList.take (n * wide e))[j]? = cur[j]? := fun j hj => by
      rw [List.getElem?_take, if_pos hj]; simp
    by_cases hroom : n + m ≤ cap
    · have hfit : n * i.size + news.length ≤ cur.size := by rw [hl, hcs, hsize, ← Nat.add_mul]; exact Nat.mul_le_mul_right _ hroom
      have hr := run_append_room (P := P) w t ty e i ht hi g n cap cur hb ad m c news (by rw [hsize]; exact hl) hnews h1 hroom hfit
      rw [hsize] at hr hfit
      have hb' := setRow_heap w g cur (cur.toList.take (n * wide e) ++ news ++ cur.toList.drop (n * wide e + news.length)).toArray e _ hb
      refine ⟨g, cap, _, σ, hr, ?_, hg, hroom, hcm, Ext.refl _, fun _ _ => rfl, ⟨rfl, rfl, rfl, by simp, fun k _ hk => setRow_other w g k _ (fun e => hk (by simp [Value.ownBlock, e]))⟩, fun b hbe j hj => ?_, fun j u hu => ?_⟩
      · refine hW.row hg hb' ?_ ?_ (fun b hb _ => setRow_other w g b _ hb)
        · simp only [List.size_toArray, List.length_append, hlen, List.length_drop, Array.length_toList]
          omega
        · intro k v hv
          simp only [List.getElem?_toArray] at hv
          rw [List.append_assoc, List.getElem?_append] at hv
          split at hv
          · exact hxo k v hv
          · rename_i e1
            rw [hlen] at e1 hv
            rw [List.getElem?_append] at hv
            split at hv
            · have h2 := hok _ v hv
              have e3 : (k - n * wide e) % wide e = k % wide e := by
                obtain ⟨d, rfl⟩ : ∃ d, k = n * wide e + d := ⟨k - n * wide e, by omega⟩
                rw [Nat.add_sub_cancel_left, Nat.mul_comm n, Nat.mul_add_mod]
              rwa [e3] at h2
            · rename_i e2
              rw [List.getElem?_drop] at hv
              have e4 : n * wide e + news.length + (k - n * wide e - news.length) = k := by omega
              rw [e4] at hv
              exact hco k v (by simpa using hv)
      · cases hbe
        rw [cell_of_row _ _ _ _ _ _ hb', cell_of_row _ _ _ _ _ _ hb]
        simp only [List.getElem?_toArray]
        rw [List.append_assoc, List.getElem?_append, if_pos (by rw [hlen]; exact hj), hxc j hj]
      · rw [cell_of_row _ _ _ _ _ _ hb']
        simp only [List.getElem?_toArray]
        have hj := (List.getElem?_eq_some_iff.1 hu).1
        rw [List.append_assoc, List.getElem?_append, if_neg (by rw [hlen]; omega), hlen, Nat.add_sub_cancel_left, List.getElem?_append, if_pos hj, hu]
    · have holds : ∀ j u, (cur.toList.take (n * wide e))[j]? = some u → w.cell? ((⟨g, 0, none⟩ : Addr).add j) = some u := fun j u hu => by
        rw [Addr.add_lit, Nat.zero_add, cell_of_row _ _ _ _ _ _ hb]
        have hj := (List.getElem?_eq_some_iff.1 hu).1
        rw [hlen] at hj
        rw [← hu, hxc j hj]
      have hr := run_append_grow (P := P) w t ty e i z ht hi hz ⟨g, 0, none⟩ n cap _ (by rw [hsize]; exact hlen) holds ad m c news (by rw [hsize]; exact hl) hnews (by omega) (by omega) (growslice_fits (by omega) hbytes)
      obtain ⟨g1, g2, g3, g4, g5, g6⟩ := grown cap _ hlen hxo (Value.ownBlock (.slice (some ⟨g, 0, none⟩) n cap))
      refine ⟨w.heap.size, _, _, _, hr, g1, Sh.add_self _ _ _ _, g2, g3, (hgext _).1, (hgext _).2, g4, fun b hbe j hj => ?_, g6⟩
      cases hbe
      have hj2 : j < cur.size := by
        rw [hcs]
        exact Nat.lt_of_lt_of_le hj (Nat.mul_le_mul_right _ hnc)
      rw [cell_of_row _ _ _ _ _ _ hb, Array.getElem?_eq_getElem hj2]
      exact g5 j _ (by rw [hxc j hj, Array.getElem?_eq_getElem hj2])
theorem wpList_append_wf {P : Program} {w : World} {σ : Sh} {B : Bd} (hW : Wf w σ B) {ops : Array Oper} {rest : List Oper} {o : Oper} {ac : Act} {Q : Exit → Act → World → Prop} (hgd : o.guard = none) (s x : Operand) (t : TypeId)
    (ho : o.op = .call { callee := .builtin .append, args := #[s, x], argTypes := #[t, t] })
    (e : TypeId) (i : TypeInfo) (z : Value) (bytes : Nat) (ht : P.underlying t = some (.slice e)) (hi : P.info? e = some i) (hz : i.zero = some z)
    (hsize : i.size = wide e) (hby : i.bytes = bytes) (hzs : z.cells.size = wide e) (hzc : ∀ j u, z.cells[j]? = some u → CellOk σ B e j u)
    (a : Option Addr) (n cap : Nat) (hsv : ac.eval s = .slice a n cap) (hnc : n ≤ cap) (hcm : cap ≤ maxLen) (hs : (a = none ∧ n = 0 ∧ cap = 0) ∨ ∃ b, a = some ⟨b, 0, none⟩ ∧ σ b = some (e, cap))
    (ad : Addr) (m c : Nat) (news : List Value) (hx : ac.eval x = .slice (some ad) m c) (hl : news.length = m * wide e) (hnews : ∀ j u, news[j]? = some u → w.cell? (ad.add j) = some u) (h1 : ∀ u ∈ news, u.oneCell' = true) (hok : ∀ j u, news[j]? = some u → CellOk σ B e (j % wide e) u)
    (hm : 0 < m) (h63 : n + m ≤ maxLen) (hbytes : (n + m) * bytes ≤ 140737488355328)
    (h : ∀ g cap' w' σ', Wf w' σ' B → σ' g = some (e, cap') → n + m ≤ cap' → cap' ≤ maxLen → Ext σ σ' → (∀ b, b < w.heap.size → σ' b = σ b) →
      w.grownBy w' (Value.slice a n cap).ownBlock → (∀ b, a = some ⟨b, 0, none⟩ → ∀ j, j < n * wide e → w'.cell? ⟨g, j, none⟩ = w.cell? ⟨b, j, none⟩) → (∀ j u, news[j]? = some u → w'.cell? ⟨g, n * wide e + j, none⟩ = some u) → wpList P ops Q rest (ac.put o.dst (.slice (some ⟨g, 0, none⟩) (n + m) cap')) w') :
    wpList P ops Q (o :: rest) ac w := by
  obtain ⟨g, cap', w', σ', hrun, q1, q2, q3, q4, q5, q6, q7, q8, q9⟩ := run_append_wf (P := P) hW t o.type e i z bytes ht hi hz hsize hby hzs hzc a n cap hnc hcm hs ad m c news hl hnews h1 hok hm h63 hbytes
  refine wpList_plain hgd fun K hK => ?_
  unfold Oper.wp
  simp [execOp, ho, resolve, invoke, builtin, hsv, hx, hrun, Result.andThen]
  exact hK _ _ (h g cap' w' σ' q1 q2 q3 q4 q5 q6 q7 q8 q9)
theorem step_append_wf {P : Program} {w : World} {σ : Sh} {B : Bd} (hW : Wf w σ B) {ops : Array Oper} {o : Oper} {ac : Act} {K : Act → World → Prop} {Q : Exit → Act → World → Prop} {E : Prop} (hgd : o.guard = none) (s x : Operand) (t : TypeId)
    (ho : o.op = .call { callee := .builtin .append, args := #[s, x], argTypes := #[t, t] })
    (e : TypeId) (i : TypeInfo) (z : Value) (bytes : Nat) (ht : P.underlying t = some (.slice e)) (hi : P.info? e = some i) (hz : i.zero = some z)
    (hsize : i.size = wide e) (hby : i.bytes = bytes) (hzs : z.cells.size = wide e) (hzc : ∀ j u, z.cells[j]? = some u → CellOk σ B e j u)
    (a : Option Addr) (n cap : Nat) (hsv : ac.eval s = .slice a n cap) (hnc : n ≤ cap) (hcm : cap ≤ maxLen) (hs : (a = none ∧ n = 0 ∧ cap = 0) ∨ ∃ b, a = some ⟨b, 0, none⟩ ∧ σ b = some (e, cap))
    (ad : Addr) (m c : Nat) (news : List Value) (hx : ac.eval x = .slice (some ad) m c) (hl : news.length = m * wide e) (hnews : ∀ j u, news[j]? = some u → w.cell? (ad.add j) = some u) (h1 : ∀ u ∈ news, u.oneCell' = true) (hok : ∀ j u, news[j]? = some u → CellOk σ B e (j % wide e) u)
    (hm : 0 < m) (h63 : n + m ≤ maxLen) (hbytes : (n + m) * bytes ≤ 140737488355328)
    (h : ∀ g cap' w' σ', Wf w' σ' B → σ' g = some (e, cap') → n + m ≤ cap' → cap' ≤ maxLen → Ext σ σ' → (∀ b, b < w.heap.size → σ' b = σ b) →
      w.grownBy w' (Value.slice a n cap).ownBlock → (∀ b, a = some ⟨b, 0, none⟩ → ∀ j, j < n * wide e → w'.cell? ⟨g, j, none⟩ = w.cell? ⟨b, j, none⟩) → (∀ j u, news[j]? = some u → w'.cell? ⟨g, n * wide e + j, none⟩ = some u) → K (ac.put o.dst (.slice (some ⟨g, 0, none⟩) (n + m) cap')) w') :
    if Region.wanted o (yielded ops ac.tmps) = true then Oper.wp P o ac w K Q else E := by
  have hw : Region.wanted o (yielded ops ac.tmps) = true := by simp [Region.wanted, hgd]
  rw [if_pos hw]
  obtain ⟨g, cap', w', σ', hrun, q1, q2, q3, q4, q5, q6, q7, q8, q9⟩ := run_append_wf (P := P) hW t o.type e i z bytes ht hi hz hsize hby hzs hzc a n cap hnc hcm hs ad m c news hl hnews h1 hok hm h63 hbytes
  unfold Oper.wp execOp
  simp only [ho, resolve, invoke, builtin, Sem.run_bind, Sem.run_pure, Result.andThen_ok, List.map_toArray, List.map_cons, List.map_nil, hsv, hx, hrun]
  exact h g cap' w' σ' q1 q2 q3 q4 q5 q6 q7 q8 q9
end Go.Proofs.Ytdohgkokoicjlaa
namespace Go.Proofs.Ytdohgkokoicjlaa
open Go.RowKit
def firstTo (p : Nat → Bool) (n : Nat) : Int := match (List.range n).find? p with
  | some i => i
  | none => -1
theorem firstTo_none {p : Nat → Bool} {n : Nat} (h : ∀ i, i < n → p i = false) : firstTo p n = -1 := by
  have : (List.range n).find? p = none := by
    rw [List.find?_eq_none]; intro i hi; simpa using h i (by simpa using hi)
  rw [firstTo, this]
theorem firstTo_hit {p : Nat → Bool} {n k : Nat} (h : ∀ i, i < k → p i = false) (hk : p k = true) (hn : k < n) : firstTo p n = k := by
  have : (List.range n).find? p = some k := by
    rw [List.find?_range_eq_some]
    exact ⟨hk, by simpa using hn, fun i hi => by simpa using h i hi⟩
  rw [firstTo, this]
theorem firstTo_cases (p : Nat → Bool) (n : Nat) : (firstTo p n = -1 ∧ ∀ i, i < n → p i = false) ∨ ∃ k : Nat, firstTo p n = k ∧ k < n ∧ p k = true ∧ ∀ i, i < k → p i = false := by
  cases h : (List.range n).find? p with
  | none =>
    left
    refine ⟨by rw [firstTo, h], fun i hi => ?_⟩
    rw [List.find?_eq_none] at h
    simpa using h i (by simpa using hi)
  | some k =>
    right
    rw [List.find?_range_eq_some] at h
    exact ⟨k, by rw [firstTo, List.find?_range_eq_some.2 h], by simpa using h.2.1, h.1, fun i hi => by simpa using h.2.2 i hi⟩
set_option maxHeartbeats 400000 in
theorem l2Type_any (p : Pt) (w : World) (B : Nat) (v : Value) (s : ByteArray) (hR : PRep w (· < B) p v) (hB : B ≤ w.heap.size) :
    Calls Try.prog 46 #[v, .string s] w fun e w' => e = .returned (.int .i64 (firstTo (fun i => (tth p.types i).name.toList == s.toList) p.types.length)) ∧ Below w.heap.size w w' := by
  obtain ⟨name, types⟩ := p
  obtain ⟨ta, tc, rfl, hK, hnc, hn⟩ := hR
  simp only at hK hnc hn ⊢
  have h3 := hK.1
  obtain ⟨-, C, hA, hr⟩ := hK
  by_cases hn0 : types.length = 0
  · go_enter Try.func46, Try.ntmps46
    go_wp2_with fail
    go_loop [5] (fun i => i = .int .i64 0) (fun _ => 0)
    case atStart => rfl
    case round =>
      subst hrel
      go_wp2_with fail
      go_ret
      exact ⟨ret_int (by first | rfl | (rw [hn0]; rfl)), below_box _ _⟩
  · obtain ⟨b, off, rfl, hbB, hc⟩ := hA (by omega)
    have hcell : ∀ k, k < types.length → ∀ o, (w.alloc o).cell? ⟨b, off + k * 3, none⟩ = some (.string (tth types k).name) := fun k hk o => by
      have h1 := hc k hk 0 (by omega)
      have h2 : C k 0 = .string (tth types k).name := by
        obtain ⟨x, y, hv, -⟩ := hr k hk
        simp only [Value.agg.injEq, Array.mk.injEq, List.cons.injEq] at hv
        exact hv.1
      rw [h2] at h1
      exact ((below_box w o).cell (p := ⟨b, off + k * 3, none⟩) (by show b < _; omega)).trans h1
    clear hc
    go_enter Try.func46, Try.ntmps46
    go_wp2_with fail
    go_loop [5] (fun i => ∃ k : Nat, k ≤ types.length ∧ i = .int .i64 k ∧ ∀ j, j < k → ((tth types j).name.toList == s.toList) = false) (fun i => types.length - (intOf i).toNat)
    case atStart => exact ⟨0, Nat.zero_le _, rfl, fun j hj => by omega⟩
    case round =>
      obtain ⟨k, hk, rfl, hp⟩ := hrel
      have HP : Hid (∀ j, j < k → ((tth types j).name.toList == s.toList) = false) := hp
      clear hp
      by_cases hlt : k < types.length
      · have hck := hcell k hlt
        clear hcell
        cases he : ((tth types k).name.toList == s.toList)
        · go_wp2_with fail
          go_round
          case rel => exact ⟨k + 1, by omega, by go_num, fun j hj => by by_cases e : j = k; (subst e; exact he); exact HP.out j (by omega)⟩
          case measure => simp [intOf]; omega
        · go_wp2_with fail
          go_ret
          exact ⟨ret_int (firstTo_hit HP.out he hlt).symm, below_box _ _⟩
      · go_wp2_with fail
        go_ret
        have e : k = types.length := by omega
        exact ⟨ret_int (firstTo_none (e ▸ HP.out)).symm, below_box _ _⟩
set_option maxHeartbeats 400000 in
theorem l2Field_any (t : T) (w : World) (B : Nat) (v : Value) (s : ByteArray) (hR : TRep w (· < B) t v) (hB : B ≤ w.heap.size) :
    Calls Try.prog 47 #[v, .string s] w fun e w' => e = .returned (.int .i64 (firstTo (fun i => (fth t.fields i).name.toList == s.toList) t.fields.length)) ∧ Below w.heap.size w w' := by
  obtain ⟨name, key, fields⟩ := t
  obtain ⟨ta, tc, rfl, hK, hnc, hn, ho⟩ := hR
  simp only at hK hnc hn ho ⊢
  have h3 := hK.1
  obtain ⟨-, C, hA, hr⟩ := hK
  by_cases hn0 : fields.length = 0
  · go_enter Try.func47, Try.ntmps47
    go_wp2_with fail
    go_loop [5] (fun i => i = .int .i64 0) (fun _ => 0)
    case atStart => rfl
    case round =>
      subst hrel
      go_wp2_with fail
      go_ret
      exact ⟨ret_int (by first | rfl | (rw [hn0]; rfl)), below_box _ _⟩
  · obtain ⟨b, off, rfl, hbB, hc⟩ := hA (by omega)
    have hcell : ∀ k, k < fields.length → ∀ o, (w.alloc o).cell? ⟨b, off + k * 8, none⟩ = some (.string (fth fields k).name) := fun k hk o => by
      have h1 := hc k hk 0 (by omega)
      have h2 : C k 0 = .string (fth fields k).name := by
        obtain ⟨x, y, hv, -⟩ := hr k hk
        simp only [Value.agg.injEq, Array.mk.injEq, List.cons.injEq] at hv
        exact hv.1
      rw [h2] at h1
      exact ((below_box w o).cell (p := ⟨b, off + k * 8, none⟩) (by show b < _; omega)).trans h1
    clear hc
    go_enter Try.func47, Try.ntmps47
    go_wp2_with fail
    go_loop [5] (fun i => ∃ k : Nat, k ≤ fields.length ∧ i = .int .i64 k ∧ ∀ j, j < k → ((fth fields j).name.toList == s.toList) = false) (fun i => fields.length - (intOf i).toNat)
    case atStart => exact ⟨0, Nat.zero_le _, rfl, fun j hj => by omega⟩
    case round =>
      obtain ⟨k, hk, rfl, hp⟩ := hrel
      have HP : Hid (∀ j, j < k → ((fth fields j).name.toList == s.toList) = false) := hp
      clear hp
      by_cases hlt : k < fields.length
      · have hck := hcell k hlt
        clear hcell
        cases he : ((fth fields k).name.toList == s.toList)
        · go_wp2_with fail
          go_round
          case rel => exact ⟨k + 1, by omega, by go_num, fun j hj => by by_cases e : j = k; (subst e; exact he); exact HP.out j (by omega)⟩
          case measure => simp [intOf]; omega
        · go_wp2_with fail
          go_ret
          exact ⟨ret_int (firstTo_hit HP.out he hlt).symm, below_box _ _⟩
      · go_wp2_with fail
        go_ret
        have e : k = fields.length := by omega
        exact ⟨ret_int (firstTo_none (e ▸ HP.out)).symm, below_box _ _⟩
end Go.Proofs.Ytdohgkokoicjlaa
namespace Go.Proofs.Ytdohgkokoicjlaa
open Go.RowKit
set_option maxHeartbeats 400000 in
theorem isLeaf_any (s : ByteArray) (w : World) :
    Calls Try.prog 78 #[.string s] w fun e w' => e = .returned (.bool (scalarB s)) ∧ w = w' := by
  cases h1 : (s.toList == [105, 110, 116]) <;> cases h2 : (s.toList == [116, 101, 120, 116]) <;>
  · go_enter Try.func78, Try.ntmps78
    go_wp2_with fail
    go_ret
    exact ⟨ret_bool (by simp only [scalarB, isT, h1, h2]; rfl), rfl⟩
def keptB (s : ByteArray) : Bool := isT s [112, 97, 114, 116] || isT s [116, 121, 112, 101] || isT s [107, 101, 121] || isT s [102, 97, 114] || isT s [104, 105, 100, 100, 101, 110] || isT s [115, 104, 97, 114, 101, 100] || isT s [110, 101, 101, 100, 115] || scalarB s
set_option maxHeartbeats 1600000 in
theorem isKept_any (s : ByteArray) (w : World) :
    Calls Try.prog 59 #[.string s] w fun e w' => e = .returned (.bool (keptB s)) ∧ w = w' := by
  cases k0 : (s.toList == [112, 97, 114, 116])
  case true =>
    go_enter Try.func59, Try.ntmps59
    go_wp2_with fail
    go_ret
    exact ⟨ret_bool (by simp [keptB, isT, k0]), rfl⟩
  cases k1 : (s.toList == [116, 121, 112, 101])
  case true =>
    go_enter Try.func59, Try.ntmps59
    go_wp2_with fail
    go_ret
    exact ⟨ret_bool (by simp [keptB, isT, k1]), rfl⟩
  cases k2 : (s.toList == [107, 101, 121])
  case true =>
    go_enter Try.func59, Try.ntmps59
    go_wp2_with fail
    go_ret
    exact ⟨ret_bool (by simp [keptB, isT, k2]), rfl⟩
  cases k3 : (s.toList == [102, 97, 114])
  case true =>
    go_enter Try.func59, Try.ntmps59
    go_wp2_with fail
    go_ret
    exact ⟨ret_bool (by simp [keptB, isT, k3]), rfl⟩
  cases k4 : (s.toList == [104, 105, 100, 100, 101, 110])
  case true =>
    go_enter Try.func59, Try.ntmps59
    go_wp2_with fail
    go_ret
    exact ⟨ret_bool (by simp [keptB, isT, k4]), rfl⟩
  cases k5 : (s.toList == [115, 104, 97, 114, 101, 100])
  case true =>
    go_enter Try.func59, Try.ntmps59
    go_wp2_with fail
    go_ret
    exact ⟨ret_bool (by simp [keptB, isT, k5]), rfl⟩
  cases k6 : (s.toList == [110, 101, 101, 100, 115])
  case true =>
    go_enter Try.func59, Try.ntmps59
    go_wp2_with fail
    go_ret
    exact ⟨ret_bool (by simp [keptB, isT, k6]), rfl⟩
  go_enter Try.func59, Try.ntmps59
  go_wp2_with (go_at_call 78; refine (isLeaf_any _ _).mono ?_; rintro e w' ⟨rfl, rfl⟩)
  go_ret
  exact ⟨ret_bool (by simp [keptB, isT, k0, k1, k2, k3, k4, k5, k6]), rfl⟩
theorem nameB_eq (s : ByteArray) : nameB s = (decide (s.size ≤ 8) && wordB s && !(byteAt s 0 == 95) && !keptB s) := by
  simp only [nameB, keptB]
  cases wordB s <;> cases decide (s.size ≤ 8) <;> cases (byteAt s 0 == 95) <;> cases scalarB s <;> simp [Bool.and_assoc]
set_option maxHeartbeats 1600000 in
theorem isName_any (s : ByteArray) (w : World) (hs : s.size ≤ maxLen) :
    Calls Try.prog 35 #[.string s] w fun e w' => e = .returned (.bool (nameB s)) ∧ w = w' := by
  rw [nameB_eq]
  have hcw := fun w => isWord_any s w hs
  have hck := fun w => isKept_any s w
  by_cases h8 : s.size ≤ 8
  case neg =>
    have h8' : ¬ (s.size : Int) ≤ 8 := by omega
    have h8d : decide ((s.size : Int) ≤ 8) = false := by simpa using h8'
    go_enter Try.func35, Try.ntmps35
    go_wp2_with fail
    go_ret
    exact ⟨ret_bool (by simp [h8]), rfl⟩
  have h8' : (s.size : Int) ≤ 8 := by omega
  have H8 : Hid (decide (s.size ≤ 8) = true) := by show _ = _; simpa using h8
  cases hw : wordB s
  · rw [hw] at hcw
    go_enter Try.func35, Try.ntmps35
    go_wp2_with (go_at_call 58; refine (hcw _).mono ?_; rintro e w' ⟨rfl, rfl⟩)
    go_ret
    exact ⟨ret_bool (by simp), rfl⟩
  rw [hw] at hcw
  have h1 : 0 < s.size := by
    rw [wordB] at hw; simp only [Bool.and_eq_true, decide_eq_true_eq] at hw; omega
  have hb0 := byteAt_get s 0 h1
  cases hu : (byteAt s 0 == 95)
  case true =>
    have hu' : (byteAt s 0 != 95) = false := by simp only [bne, hu]; rfl
    go_enter Try.func35, Try.ntmps35
    go_wp2_with (go_at_call 58; refine (hcw _).mono ?_; rintro e w' ⟨rfl, rfl⟩)
    go_ret
    exact ⟨ret_bool (by simp), rfl⟩
  have hu' : (byteAt s 0 != 95) = true := by simp only [bne, hu]; rfl
  cases hk : keptB s
  all_goals
    rw [hk] at hck
    go_enter Try.func35, Try.ntmps35
    go_wp2_with (first | (go_at_call 58; refine (hcw _).mono ?_; rintro e w' ⟨rfl, rfl⟩) | (go_at_call 59; refine (hck _).mono ?_; rintro e w' ⟨rfl, rfl⟩))
    go_ret
    exact ⟨ret_bool (by simp [H8.out]), rfl⟩
end Go.Proofs.Ytdohgkokoicjlaa
