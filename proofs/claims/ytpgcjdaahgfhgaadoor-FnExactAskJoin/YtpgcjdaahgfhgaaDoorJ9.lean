import Derived.Test.YtpgcjdaahgfhgaaDoorJ6
namespace Go.Proofs.YtpgcjdaahgfhgaaDoor
set_option linter.unusedSimpArgs false
set_option linter.unusedVariables false
open Go.RowKit Go.Shelf Go.Maps

/-- The last of the first n fields that is answered under a name, -1 if there is none. -/
def lastM (out : List Se) (k : ByteArray) : Nat → Int
  | 0 => -1
  | n + 1 => if (keyS (sth out n)).toList == k.toList then (n : Nat) else lastM out k n
theorem lastM_mate {f : Nat} {out : List Se} {k : ByteArray} (h : Nd (f + 1) out) : lastM out k out.length = mateI out k := by
  cases hm : mateS out k with
  | none =>
    have hn := mateS_none.1 hm
    have key : ∀ n, n ≤ out.length → lastM out k n = -1 := by
      intro n
      induction n with
      | zero => intro _; rfl
      | succ n ih =>
        intro hl
        rw [lastM, if_neg (by simpa using hn n (by omega))]
        exact ih (by omega)
    rw [key _ (Nat.le_refl _)]
    unfold mateI; rw [hm]
  | some i =>
    obtain ⟨hi, he, -⟩ := mateS_some.1 hm
    have key : ∀ n, n ≤ out.length → i < n → lastM out k n = (i : Nat) := by
      intro n
      induction n with
      | zero => intro _ h0; omega
      | succ n ih =>
        intro hl hlt
        rw [lastM]
        by_cases e : i = n
        · subst e
          rw [if_pos (by simpa using he)]
        · rw [if_neg]
          · exact ih (by omega) (by omega)
          · intro h2
            exact e (h.1 i n hi (by omega) (he.trans (by simpa using h2 : (keyS (sth out n)).toList = k.toList).symm))
    rw [key _ (Nat.le_refl _) hi]
    unfold mateI; rw [hm]
/-- What l12Join has gathered. -/
structure LJ (B base k : Nat) (es : List El) (o : Value) (wr : World) : Prop where
  len : es.length ≤ k
  row : RowP SeReps base es o wr
  low : ∀ e ∈ es, ∀ b, e.Q b → b < B ∨ base ≤ b
  sz : ∀ e ∈ es, e.s.al.size ≤ maxLen ∧ e.s.name.size ≤ maxLen
  nn : ¬ o = .slice none 0 0
theorem LJ.keep {B base k : Nat} {wr wr' : World} {es : List El} {o : Value} (h : LJ B base k es o wr) (hb : Below wr.heap.size wr wr') : LJ B base k es o wr' := ⟨h.len, h.row.keep looks_reps hb, h.low, h.sz, h.nn⟩
theorem LJ.next {B base k : Nat} {wr : World} {es : List El} {o : Value} (h : LJ B base k es o wr) : LJ B base (k + 1) es o wr := ⟨Nat.le_succ_of_le h.len, h.row, h.low, h.sz, h.nn⟩
theorem LJ.push {B base k : Nat} {wr wr' : World} {es : List El} {o o' : Value} (h : LJ B base k es o wr) (e : El) {xs : List Value} (hx : xs = e.cells)
    (hr : wr'.ownsRow base 37 5 o' (es.length + 1) (es.flatMap El.cells ++ xs)) (hg : wr.grownBy wr' o.ownBlock) (hnn : o' = .slice none 0 0 ↔ o = .slice none 0 0 ∧ 1 = 0) (ho : o'.ownBlock = o.ownBlock ∨ o'.ownBlock = some wr.heap.size)
    (hk : SeReps wr e.Q e.s.kids e.ka) (hq : ∀ b, e.Q b → b < wr.heap.size ∧ o.ownBlock ≠ some b) (hlow : ∀ b, e.Q b → b < B ∨ base ≤ b) (hsz : e.s.al.size ≤ maxLen ∧ e.s.name.size ≤ maxLen) : LJ B base (k + 1) (es ++ [e]) o' wr' :=
  ⟨by have := h.len; simp; omega, h.row.push looks_reps e hx rfl hr hg ho hk hq, (fun y hy => by
    rcases List.mem_append.1 hy with hy | hy
    · exact h.low y hy
    · rw [List.mem_singleton.1 hy]; exact hlow), (fun y hy => by
    rcases List.mem_append.1 hy with hy | hy
    · exact h.sz y hy
    · rw [List.mem_singleton.1 hy]; exact hsz), fun e => by cases (hnn.1 e).2⟩
theorem LJ.put {B base k g cap : Nat} {es : List El} {w : World} (h : LJ B base k es (.slice (some ⟨g, 0, none⟩) es.length cap) w) (i : Nat) (hi : i < es.length) (a : Option Addr) (c : Nat) (Q : Nat → Prop) (K : List Se) (hO : SeReps w Q K a) (hq : ∀ b, Q b → b < w.heap.size ∧ b ≠ g) (hlow : ∀ b, Q b → b < B ∨ base ≤ b) :
    LJ B base k (es.set i ⟨(es[i]).s.sub K, a, c, Q⟩) (.slice (some ⟨g, 0, none⟩) es.length cap) (w.setCell ⟨g, i * 5 + 4, none⟩ (.slice a K.length c)) := by
  have hset : ∀ b, b ≠ g → (w.setCell ⟨g, i * 5 + 4, none⟩ (.slice a K.length c)).heap[b]? = w.heap[b]? := fun b hb => Below.heap_setCell _ _ _ _ hb
  refine ⟨by simpa using h.len, ⟨?_, fun y hy => ?_⟩, fun y hy => ?_, fun y hy => ?_, h.nn⟩
  · obtain ⟨h1, -⟩ := h.row.row.stored (i * 5 + 4) (.slice a K.length c)
    rw [flat_set es i a c Q K hi] at h1
    simpa using h1
  · rcases mem_set hy with hy | rfl
    · obtain ⟨h1, h2⟩ := h.row.kid y hy
      refine ⟨h1.mono fun b hb => hset b fun e => (h2 b hb).2 (by rw [e]; rfl), fun b hb => ⟨by rw [size_set]; exact (h2 b hb).1, (h2 b hb).2⟩⟩
    · exact ⟨hO.mono fun b hb => hset b (hq b hb).2, fun b hb => ⟨by rw [size_set]; exact (hq b hb).1, fun e => (hq b hb).2 (by simpa [Value.ownBlock] using e.symm)⟩⟩
  · rcases mem_set hy with hy | rfl
    · exact h.low y hy
    · exact fun b hb => hlow b hb
  · rcases mem_set hy with hy | rfl
    · exact h.sz y hy
    · have h1 := h.sz (es[i]) (List.getElem_mem hi)
      exact h1
theorem LJ.cells {B base k g cap : Nat} {es : List El} {w : World} (h : LJ B base k es (.slice (some ⟨g, 0, none⟩) es.length cap) w) (i : Nat) (hi : i < es.length) : Cells5 w g (i * 5) (es[i]).s (es[i]).ka (es[i]).kc ∧ g < w.heap.size ∧ base ≤ g ∧ w.frozen? ⟨g, i * 5 + 4, none⟩ = false := by
  have hc : ∀ j, j < 5 → w.cell? ⟨g, i * 5 + j, none⟩ = (es[i]).cells[j]? := fun j hj => by rw [h.row.row.cellAt (i * 5 + j) (by omega), flat5 es i j hi hj]
  have hl := h.row.row.lt g rfl
  exact ⟨⟨hc 0 (by omega), hc 1 (by omega), hc 2 (by omega), hc 3 (by omega), hc 4 (by omega)⟩, hl.2, hl.1, h.row.row.frozenAt _⟩
/-- How l12Join ends. -/
def JEndM (B : Nat) (w : World) (o : Option (List Se)) (e : Ending) (w' : World) : Prop := Below w.heap.size w w' ∧ ((o = none ∧ ∃ a c, e = .returned (.tuple #[.slice a 0 c, .bool false])) ∨ ∃ L a c, o = some L ∧ e = .returned (.tuple #[.slice a L.length c, .bool true]) ∧ SeReps w' (fun b => b < B ∨ (w.heap.size ≤ b ∧ b < w'.heap.size)) L a)
end Go.Proofs.YtpgcjdaahgfhgaaDoor
