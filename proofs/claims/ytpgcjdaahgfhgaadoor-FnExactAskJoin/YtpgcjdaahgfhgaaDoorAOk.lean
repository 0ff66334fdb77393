/-
  The program's areSelsOk.
-/
import Derived.Test.YtpgcjdaahgfhgaaDoorAWay
import Derived.Test.YtpgcjdaahgfhgaaDoorAFit
namespace Go.Proofs.YtpgcjdaahgfhgaaDoor
set_option linter.unusedSimpArgs false
set_option linter.unusedVariables false
open Go.RowKit Go.Shelf
attribute [local go_sem] Oper.semAt_some

theorem yieldAt_wide {n m : Nat} {P : Program} {l : Nat} {args : Array Value} {W : World} {R : Ending → World → Prop} (h : YieldAt Fence.wide n P l args W R) : YieldAt Fence.wide m P l args W R := by
  obtain ⟨fn, tmps, assign, body, h1, h2, h3⟩ := h
  exact ⟨fn, tmps, assign, body, h1, h2, fun c cs _ => h3 c cs (room_wide _)⟩
/-- Texts that are gathered in a list of the call's own, in a box of its own. -/
def Gat (base bw : Nat) (ts : List ByteArray) (wv : Value) (A : World) : Prop :=
  A.heap[bw]? = some (.cells #[wv] 58 (0, 0)) ∧ A.ownsRow base 9 1 wv ts.length (ts.map Value.string) ∧ wv.ownBlock ≠ some bw
theorem Gat.of {base bw : Nat} {ts : List ByteArray} {wv : Value} {A B : World} (h : Gat base bw ts wv A) (e : ∀ (k : Nat) (c : Array Value) (t : TypeId), (k = bw ∨ wv.ownBlock = some k) → A.heap[k]? = some (Obj.cells c t (0, 0)) → B.heap[k]? = some (Obj.cells c t (0, 0))) : Gat base bw ts wv B := by
  obtain ⟨h1, h2, h3⟩ := h
  refine ⟨e _ _ _ (Or.inl rfl) h1, ⟨h2.1, ?_⟩, h3⟩
  rcases h2.2 with hn | ⟨g, cap, cur, hv, hb, hh, r⟩
  · exact Or.inl hn
  · exact Or.inr ⟨g, cap, cur, hv, hb, e _ _ _ (Or.inr (by rw [hv]; rfl)) hh, r⟩
theorem Gat.still {base bw : Nat} {ts : List ByteArray} {wv : Value} {A : World} (h : Gat base bw ts wv A) {l : Nat} {o o' : Obj} (hl : A.heap[l]? = some o) (ho : o.isCells = false) : Gat base bw ts wv (A.putObj l o') :=
  h.of fun k c t _ hk => by
    have hne : k ≠ l := by intro e; rw [e, hl] at hk; cases hk; cases ho
    exact (World.putObj_heap_other hne).trans hk
theorem Gat.grow {base bw : Nat} {ts : List ByteArray} {wv : Value} {A B : World} (h : Gat base bw ts wv A) (hb : Below A.heap.size A B) : Gat base bw ts wv B :=
  h.of fun k c t _ hk => (hb.block k (Array.getElem?_eq_some_iff.1 hk).1).trans hk
theorem Gat.strs {base bw : Nat} {ts : List ByteArray} {wv : Value} {A : World} (h : Gat base bw ts wv A) (hs : ∀ t ∈ ts, t.size ≤ maxLen) (hl : ts.length ≤ 1000000) : ∃ a c, wv = .slice a ts.length c ∧ Strs A (fun _ => True) ts a := by
  obtain ⟨-, h2, -⟩ := h
  have hsz : ∀ i, (nth ts i).size ≤ maxLen := fun i => by
    by_cases hi : i < ts.length
    · simp only [nth, List.getD_eq_getElem?_getD, List.getElem?_eq_getElem hi, Option.getD_some]
      exact hs _ (List.getElem_mem hi)
    · simp only [nth, List.getD_eq_getElem?_getD, List.getElem?_eq_none (by omega : ts.length ≤ i), Option.getD_none]
      unfold maxLen; decide
  rcases h2.2 with ⟨rfl, h0⟩ | ⟨g, cap, cur, rfl, hb, hh, r⟩
  · have e : ts = [] := List.length_eq_zero_iff.1 h0
    subst e
    exact ⟨none, 0, rfl, fun h => absurd rfl h, hsz, by unfold maxLen; simp⟩
  · refine ⟨_, _, rfl, fun _ => ⟨g, 0, rfl, trivial, fun i hi => ?_⟩, hsz, by unfold maxLen; omega⟩
    have := h2.cellAt i (by omega)
    rw [Nat.zero_add, this, List.getElem?_map]
    simp [nth, List.getD_eq_getElem?_getD, hi]
theorem preTo_some {f : Nat} {ks : List Se} (hf : FitS f ks) : (0 < (preTo f [] ks ks.length).length) ↔ ks.isEmpty = false := by
  rw [preTo_len f [] ks _ (Nat.le_refl _) hf]
  cases ks with
  | nil => simp [cntTo]
  | cons a l =>
    simp only [List.isEmpty_cons, iff_true]
    cases f with
    | zero => exact absurd hf (by simp [FitS])
    | succ f =>
      have := cnt_one (f + 1) (a :: l) (a :: l).length 0 (by simp)
      rw [cntSe_kids] at this
      omega
theorem walkB_app : ∀ (l : List (Way × Se)) (ws : List (List UInt8)) (m : List (Way × Se)), walkB ws (l ++ m) = (walkB ws l && walkB (ws ++ l.map fun x => joinW x.1) m)
  | [], ws, m => by simp [walkB]
  | x :: l, ws, m => by
    rw [List.cons_append, walkB, walkB, walkB_app l, List.map_cons, Bool.and_assoc]
    simp
theorem walkB_bad {xs pre : List (Way × Se)} {x : Way × Se} (hp : pre ++ [x] <+: xs) (hb : stepB (pre.map fun x => joinW x.1) x = false) : walkB [] xs = false := by
  obtain ⟨m, rfl⟩ := hp
  rw [List.append_assoc, walkB_app]
  simp [walkB, hb]
theorem walkB_one {pre : List (Way × Se)} {x : Way × Se} (hw : walkB [] pre = true) (hs : stepB (pre.map fun x => joinW x.1) x = true) : walkB [] (pre ++ [x]) = true := by
  rw [walkB_app, hw]
  simp [walkB, hs]
end Go.Proofs.YtpgcjdaahgfhgaaDoor
