import Derived.Test.YtokmgbidmnanpaaGreatDoorBJ3
import Derived.Test.YtokmgbidmnanpaaGreatDoorBJ1
import Derived.Test.YtokmgbidmnanpaaGreatDoorBJ2
set_option linter.unusedSimpArgs false
set_option linter.unusedVariables false
namespace Go.Proofs.YtokmgbidmnanpaaGreatDoor
open Go.RowKit Go.Shelf Go.Maps
def JEnd (f : Nat) (w : World) (o : Option (List Se)) (e : Ending) (w' : World) : Prop := Below w.heap.size w w' ∧ ((o = none ∧ e = .returned (.tuple #[.slice none 0 0, .bool false])) ∨ ∃ L a c, o = some L ∧ e = .returned (.tuple #[.slice a L.length c, .bool true]) ∧ OwnT f w' (fun b => w.heap.size ≤ b ∧ b < w'.heap.size) L a)
def JnS (f : Nat) : Prop := ∀ (a b : List Se) (w : World) (ka kb : Option Addr) (kc kd : Nat), FitS f a → FitS f b → cntTo f a a.length + cntTo f b b.length ≤ 1000 → SeReps w (· < w.heap.size) a ka → SeReps w (· < w.heap.size) b kb →
  Calls Tryz.prog 49 #[.slice ka a.length kc, .slice kb b.length kd, pairsS] w fun e w' => JEnd f w (joinF f a b) e w'
def byS : Obj := .cells #[.func (.func 89) #[] #[], .func (.func 93) #[] #[], .func (.func 94) #[] #[], .func (.func 95) #[] #[]] 76
def ByAt (W : World) (b : Nat) : Prop := W.cell? ⟨b, 0, none⟩ = some (.func (.func 89) #[] #[]) ∧ W.cell? ⟨b, 1, none⟩ = some (.func (.func 93) #[] #[]) ∧ W.cell? ⟨b, 2, none⟩ = some (.func (.func 94) #[] #[]) ∧ W.cell? ⟨b, 3, none⟩ = some (.func (.func 95) #[] #[])
theorem ByAt.new (w : World) : ByAt (w.alloc byS) w.heap.size := by
  refine ⟨?_, ?_, ?_, ?_⟩ <;> simp [byS]
theorem ByAt.keep {w w' : World} {b : Nat} (h : ByAt w b) (hb : b < w.heap.size) (k : Below w.heap.size w w') : ByAt w' b := by
  have hc : ∀ o, w'.cell? ⟨b, o, none⟩ = w.cell? ⟨b, o, none⟩ := fun o => k.cell (p := ⟨b, o, none⟩) hb
  unfold ByAt
  rw [hc, hc, hc, hc]
  exact h
theorem LI.put {f base k N g cap : Nat} {es : List El} {w : World} (h : LI f base k es (.slice (some ⟨g, 0, none⟩) es.length cap) w) (i : Nat) (hi : i < es.length) (a : Option Addr) (c : Nat) (Q : Nat → Prop) (K : List Se) (hO : OwnT f w Q K a) (hq : ∀ b, Q b → b < w.heap.size ∧ b ≠ g) (hlow : ∀ b, Q b → base ≤ b ∧ N ≤ b) (hold : ∀ y ∈ es, ∀ b, y.Q b → b < N) :
    LI f base k (es.set i ⟨(es[i]).s.sub K, a, c, Q⟩) (.slice (some ⟨g, 0, none⟩) es.length cap) (w.setCell ⟨g, i * 5 + 4, none⟩ (.slice a K.length c)) := by
  have hset : ∀ b, b ≠ g → (w.setCell ⟨g, i * 5 + 4, none⟩ (.slice a K.length c)).heap[b]? = w.heap[b]? := fun b hb => Below.heap_setCell _ _ _ _ hb
  refine ⟨by simpa using h.len, ⟨?_, fun y hy => ?_⟩, fun y hy => ?_, ?_, fun y hy => ?_⟩
  · obtain ⟨h1, -⟩ := h.row.row.stored (i * 5 + 4) (.slice a K.length c)
    rw [flat_set es i a c Q K hi] at h1
    simpa using h1
  · rcases mem_set hy with hy | rfl
    · obtain ⟨h1, h2⟩ := h.row.kid y hy
      refine ⟨h1.keep fun b hb => hset b fun e => (h2 b hb).2 (by rw [e]; rfl), fun b hb => ⟨by rw [size_set]; exact (h2 b hb).1, (h2 b hb).2⟩⟩
    · exact ⟨hO.keep fun b hb => hset b (hq b hb).2, fun b hb => ⟨by rw [size_set]; exact (hq b hb).1, fun e => (hq b hb).2 (by simpa [Value.ownBlock] using e.symm)⟩⟩
  · rcases mem_set hy with hy | rfl
    · exact h.low y hy
    · exact fun b hb => (hlow b hb).1
  · have hap := h.ap
    rw [List.pairwise_iff_getElem] at hap ⊢
    intro p q hp hq2 hpq b h1 h2
    simp only [List.length_set] at hp hq2
    rw [List.getElem_set] at h1 h2
    split at h1 <;> split at h2
    · omega
    · have := (hlow b h1).2
      have := hold _ (List.getElem_mem hq2) b h2
      omega
    · have := (hlow b h2).2
      have := hold _ (List.getElem_mem hp) b h1
      omega
    · exact hap p q hp hq2 hpq b h1 h2
  · rcases mem_set hy with hy | rfl
    · exact h.sz y hy
    · have h1 := h.sz (es[i]) (List.getElem_mem hi)
      exact h1
theorem LI.cells {f base k g cap : Nat} {es : List El} {w : World} (h : LI f base k es (.slice (some ⟨g, 0, none⟩) es.length cap) w) (i : Nat) (hi : i < es.length) : Cells5 w g (i * 5) (es[i]).s (es[i]).ka (es[i]).kc ∧ g < w.heap.size ∧ base ≤ g ∧ w.frozen? ⟨g, i * 5 + 4, none⟩ = false := by
  have hc : ∀ j, j < 5 → w.cell? ⟨g, i * 5 + j, none⟩ = (es[i]).cells[j]? := fun j hj => by rw [h.row.row.cellAt (i * 5 + j) (by omega), flat5 es i j hi hj]
  have hl := h.row.row.lt g rfl
  exact ⟨⟨hc 0 (by omega), hc 1 (by omega), hc 2 (by omega), hc 3 (by omega), hc 4 (by omega)⟩, hl.2, hl.1, h.row.row.frozenAt _⟩
theorem LI.old {f base k : Nat} {es : List El} {v : Value} {w : World} (h : LI f base k es v w) : ∀ y ∈ es, ∀ b, y.Q b → b < w.heap.size := fun y hy b hq => ((h.row.kid y hy).2 b hq).1
theorem LI.reps {f base k : Nat} {es : List El} {v : Value} {w : World} (h : LI f base k es v w) (hk : k ≤ 1000000) : ∃ a c, v = .slice a es.length c ∧ SeReps w (· < w.heap.size) (es.map El.s) a := h.row.reps (fun _ _ _ _ h => h.reps) (by have := h.len; omega) h.sz _ (fun b hb => hb.2) (fun e he b hq => h.old e he b hq)
end Go.Proofs.YtokmgbidmnanpaaGreatDoor
namespace Go.Proofs.YtokmgbidmnanpaaGreatDoor
open Go.RowKit Go.Shelf Go.Maps
def lastM (out : List Se) (k : ByteArray) : Nat → Int
  | 0 => -1
  | n + 1 => if (keyS (sth out n)).toList == k.toList then (n : Nat) else lastM out k n
theorem lastM_mate {f : Nat} {out : List Se} {k : ByteArray} (h : Nd (f + 1) out) : lastM out k out.length = mateI out k := by
  cases hm : mateS out k with
  | none =>
    have hn := mateS_none.1 hm
    have key : ∀ n, n ≤ out.length → lastM out k n = -1 := by
      intro n
      induction n with
      | zero => intro _; rfl
      | succ n ih =>
        intro hl
        rw [lastM, if_neg (by simpa using hn n (by omega))]
        exact ih (by omega)
    rw [key _ (Nat.le_refl _)]
    unfold mateI; rw [hm]
  | some i =>
    obtain ⟨hi, he, -⟩ := mateS_some.1 hm
    have key : ∀ n, n ≤ out.length → i < n → lastM out k n = (i : Nat) := by
      intro n
      induction n with
      | zero => intro _ h0; omega
      | succ n ih =>
        intro hl hlt
        rw [lastM]
        by_cases e : i = n
        · subst e
          rw [if_pos (by simpa using he)]
        · rw [if_neg]
          · exact ih (by omega) (by omega)
          · intro h2
            exact e (h.1 i n hi (by omega) (he.trans (by simpa using h2 : (keyS (sth out n)).toList = k.toList).symm))
    rw [key _ (Nat.le_refl _) hi]
    unfold mateI; rw [hm]
structure LJ (B base k : Nat) (es : List El) (o : Value) (wr : World) : Prop where
  len : es.length ≤ k
  row : RowP SeReps base es o wr
  low : ∀ e ∈ es, ∀ b, e.Q b → b < B ∨ base ≤ b
  sz : ∀ e ∈ es, e.s.al.size ≤ maxLen ∧ e.s.name.size ≤ maxLen
  nn : ¬ o = .slice none 0 0
theorem LJ.keep {B base k : Nat} {wr wr' : World} {es : List El} {o : Value} (h : LJ B base k es o wr) (hb : Below wr.heap.size wr wr') : LJ B base k es o wr' := ⟨h.len, h.row.keep looks_reps hb, h.low, h.sz, h.nn⟩
theorem LJ.next {B base k : Nat} {wr : World} {es : List El} {o : Value} (h : LJ B base k es o wr) : LJ B base (k + 1) es o wr := ⟨Nat.le_succ_of_le h.len, h.row, h.low, h.sz, h.nn⟩
theorem LJ.push {B base k : Nat} {wr wr' : World} {es : List El} {o o' : Value} (h : LJ B base k es o wr) (e : El) {xs : List Value} (hx : xs = e.cells)
    (hr : wr'.ownsRow base 56 5 o' (es.length + 1) (es.flatMap El.cells ++ xs)) (hg : wr.grownBy wr' o.ownBlock) (hnn : o' = .slice none 0 0 ↔ o = .slice none 0 0 ∧ 1 = 0) (ho : o'.ownBlock = o.ownBlock ∨ o'.ownBlock = some wr.heap.size)
    (hk : SeReps wr e.Q e.s.kids e.ka) (hq : ∀ b, e.Q b → b < wr.heap.size ∧ o.ownBlock ≠ some b) (hlow : ∀ b, e.Q b → b < B ∨ base ≤ b) (hsz : e.s.al.size ≤ maxLen ∧ e.s.name.size ≤ maxLen) : LJ B base (k + 1) (es ++ [e]) o' wr' :=
  ⟨by have := h.len; simp; omega, h.row.push looks_reps e hx rfl hr hg ho hk hq, (fun y hy => by
    rcases List.mem_append.1 hy with hy | hy
    · exact h.low y hy
    · rw [List.mem_singleton.1 hy]; exact hlow), (fun y hy => by
    rcases List.mem_append.1 hy with hy | hy
    · exact h.sz y hy
    · rw [List.mem_singleton.1 hy]; exact hsz), fun e => by cases (hnn.1 e).2⟩
theorem LJ.put {B base k g cap : Nat} {es : List El} {w : World} (h : LJ B base k es (.slice (some ⟨g, 0, none⟩) es.length cap) w) (i : Nat) (hi : i < es.length) (a : Option Addr) (c : Nat) (Q : Nat → Prop) (K : List Se) (hO : SeReps w Q K a) (hq : ∀ b, Q b → b < w.heap.size ∧ b ≠ g) (hlow : ∀ b, Q b → b < B ∨ base ≤ b) :
    LJ B base k (es.set i ⟨(es[i]).s.sub K, a, c, Q⟩) (.slice (some ⟨g, 0, none⟩) es.length cap) (w.setCell ⟨g, i * 5 + 4, none⟩ (.slice a K.length c)) := by
  have hset : ∀ b, b ≠ g → (w.setCell ⟨g, i * 5 + 4, none⟩ (.slice a K.length c)).heap[b]? = w.heap[b]? := fun b hb => Below.heap_setCell _ _ _ _ hb
  refine ⟨by simpa using h.len, ⟨?_, fun y hy => ?_⟩, fun y hy => ?_, fun y hy => ?_, h.nn⟩
  · obtain ⟨h1, -⟩ := h.row.row.stored (i * 5 + 4) (.slice a K.length c)
    rw [flat_set es i a c Q K hi] at h1
    simpa using h1
  · rcases mem_set hy with hy | rfl
    · obtain ⟨h1, h2⟩ := h.row.kid y hy
      refine ⟨h1.mono fun b hb => hset b fun e => (h2 b hb).2 (by rw [e]; rfl), fun b hb => ⟨by rw [size_set]; exact (h2 b hb).1, (h2 b hb).2⟩⟩
    · exact ⟨hO.mono fun b hb => hset b (hq b hb).2, fun b hb => ⟨by rw [size_set]; exact (hq b hb).1, fun e => (hq b hb).2 (by simpa [Value.ownBlock] using e.symm)⟩⟩
  · rcases mem_set hy with hy | rfl
    · exact h.low y hy
    · exact fun b hb => hlow b hb
  · rcases mem_set hy with hy | rfl
    · exact h.sz y hy
    · have h1 := h.sz (es[i]) (List.getElem_mem hi)
      exact h1
theorem LJ.cells {B base k g cap : Nat} {es : List El} {w : World} (h : LJ B base k es (.slice (some ⟨g, 0, none⟩) es.length cap) w) (i : Nat) (hi : i < es.length) : Cells5 w g (i * 5) (es[i]).s (es[i]).ka (es[i]).kc ∧ g < w.heap.size ∧ base ≤ g ∧ w.frozen? ⟨g, i * 5 + 4, none⟩ = false := by
  have hc : ∀ j, j < 5 → w.cell? ⟨g, i * 5 + j, none⟩ = (es[i]).cells[j]? := fun j hj => by rw [h.row.row.cellAt (i * 5 + j) (by omega), flat5 es i j hi hj]
  have hl := h.row.row.lt g rfl
  exact ⟨⟨hc 0 (by omega), hc 1 (by omega), hc 2 (by omega), hc 3 (by omega), hc 4 (by omega)⟩, hl.2, hl.1, h.row.row.frozenAt _⟩
def JEndM (B : Nat) (w : World) (o : Option (List Se)) (e : Ending) (w' : World) : Prop := Below w.heap.size w w' ∧ ((o = none ∧ ∃ a c, e = .returned (.tuple #[.slice a 0 c, .bool false])) ∨ ∃ L a c, o = some L ∧ e = .returned (.tuple #[.slice a L.length c, .bool true]) ∧ SeReps w' (fun b => b < B ∨ (w.heap.size ≤ b ∧ b < w'.heap.size)) L a)
end Go.Proofs.YtokmgbidmnanpaaGreatDoor
namespace Go.Proofs.YtokmgbidmnanpaaGreatDoor
open Go.RowKit
def inW (f : Nat) (ah : Way) (ks : List Se) (t : List UInt8) : Prop := ∃ x ∈ preTo f ah ks ks.length, joinW x.1 = t
def atW (f : Nat) (ah : Way) (s : Se) (t : List UInt8) : Prop := t = joinW (ah ++ [keyS s]) ∨ inW f (ah ++ [keyS s]) s.kids t
theorem inW_zero (ah : Way) (ks : List Se) (t : List UInt8) : ¬ inW 0 ah ks t := by
  rintro ⟨x, hx, -⟩
  simp [preTo] at hx
theorem inW_succ (f : Nat) (ah : Way) (ks : List Se) (t : List UInt8) : inW (f + 1) ah ks t ↔ ∃ i, i < ks.length ∧ atW f ah (sth ks i) t := by
  unfold inW atW
  rw [preTo_flat]
  constructor
  · rintro ⟨x, hx, rfl⟩
    obtain ⟨s, hs, hx⟩ := List.mem_flatMap.1 hx
    obtain ⟨i, hi, rfl⟩ := List.mem_iff_getElem.1 hs
    refine ⟨i, hi, ?_⟩
    rw [sth_get hi]
    rcases List.mem_cons.1 hx with rfl | hx
    · exact Or.inl rfl
    · exact Or.inr ⟨x, hx, rfl⟩
  · rintro ⟨i, hi, h⟩
    have hm : sth ks i ∈ ks := sth_mem hi
    rcases h with rfl | ⟨x, hx, rfl⟩
    · exact ⟨_, List.mem_flatMap.2 ⟨_, hm, List.mem_cons_self ..⟩, rfl⟩
    · exact ⟨x, List.mem_flatMap.2 ⟨_, hm, List.mem_cons_of_mem _ hx⟩, rfl⟩
theorem joinF_ways : ∀ (f : Nat) {a b out : List Se} (ah : Way) (t : List UInt8), joinF f a b = some out → (inW f ah out t ↔ inW f ah a t ∨ inW f ah b t)
  | 0, a, b, out, ah, t, h => ⟨fun h => absurd h (inW_zero _ _ _), fun h => by rcases h with h | h <;> exact absurd h (inW_zero _ _ _)⟩
  | f + 1, a, b, out, ah, t, h => by
    have key : ∀ n, n ≤ b.length → ∀ out, joinTo (joinF f) a b n = some out → (inW (f + 1) ah out t ↔ inW (f + 1) ah a t ∨ ∃ j, j < n ∧ atW f ah (sth b j) t) := by
      intro n
      induction n with
      | zero =>
        intro _ out h
        simp [joinTo] at h
        subst h
        exact ⟨Or.inl, fun h => h.elim id fun ⟨j, hj, _⟩ => absurd hj (by omega)⟩
      | succ n ih =>
        intro hn out' h
        obtain ⟨out, h1, h2⟩ := joinTo_split h
        have ho := ih (by omega) out h1
        have hgoal : (inW (f + 1) ah out' t ↔ inW (f + 1) ah out t ∨ atW f ah (sth b n) t) → (inW (f + 1) ah out' t ↔ inW (f + 1) ah a t ∨ ∃ j, j < n + 1 ∧ atW f ah (sth b j) t) := fun hg => by
          rw [hg, ho]
          constructor
          · rintro ((h | ⟨j, hj, h⟩) | h)
            · exact Or.inl h
            · exact Or.inr ⟨j, by omega, h⟩
            · exact Or.inr ⟨n, by omega, h⟩
          · rintro (h | ⟨j, hj, hh⟩)
            · exact Or.inl (Or.inl h)
            · by_cases e : j = n
              · rw [e] at hh; exact Or.inr hh
              · exact Or.inl (Or.inr ⟨j, by omega, hh⟩)
        apply hgoal
        rw [inW_succ, inW_succ]
        rcases stepJ_cases h2 with ⟨-, rfl⟩ | ⟨i, K, hm, hi, -, hK, rfl⟩
        · have e1 : ∀ i, i < out.length → sth (out ++ [sth b n]) i = sth out i := fun i hi => by simp [sth, List.getD_eq_getElem?_getD, List.getElem?_append_left hi]
          have e2 : sth (out ++ [sth b n]) out.length = sth b n := by simp [sth, List.getD_eq_getElem?_getD]
          constructor
          · rintro ⟨i, hi, h⟩
            rw [List.length_append, List.length_singleton] at hi
            by_cases e : i < out.length
            · rw [e1 i e] at h; exact Or.inl ⟨i, e, h⟩
            · have : i = out.length := by omega
              subst this
              rw [e2] at h; exact Or.inr h
          · rintro (⟨i, hi, h⟩ | h)
            · exact ⟨i, by rw [List.length_append]; omega, by rw [e1 i hi]; exact h⟩
            · exact ⟨out.length, by rw [List.length_append, List.length_singleton]; omega, by rw [e2]; exact h⟩
        · have hkey : keyS (sth out i) = keyS (sth b n) := bytesInj (mateS_some.1 hm).2.1
          have hkk := joinF_ways f (ah ++ [keyS (sth out i)]) t hK
          have hat : atW f ah ((sth out i).sub K) t ↔ atW f ah (sth out i) t ∨ atW f ah (sth b n) t := by
            unfold atW
            have e0 : keyS ((sth out i).sub K) = keyS (sth out i) := rfl
            have e1 : ((sth out i).sub K).kids = K := rfl
            rw [e0, e1, hkk, ← hkey]
            constructor
            · rintro (h | h | h)
              · exact Or.inl (Or.inl h)
              · exact Or.inl (Or.inr h)
              · exact Or.inr (Or.inr h)
            · rintro ((h | h) | h | h)
              · exact Or.inl h
              · exact Or.inr (Or.inl h)
              · exact Or.inl h
              · exact Or.inr (Or.inr h)
          constructor
          · rintro ⟨j, hj, h⟩
            rw [List.length_set] at hj
            rw [sth_set out i _ hi] at h
            by_cases e : j = i
            · rw [if_pos e] at h
              rcases hat.1 h with h | h
              · exact Or.inl ⟨i, hi, h⟩
              · exact Or.inr h
            · rw [if_neg e] at h
              exact Or.inl ⟨j, hj, h⟩
          · rintro (⟨j, hj, hh⟩ | h)
            · refine ⟨j, by rw [List.length_set]; exact hj, ?_⟩
              rw [sth_set out i _ hi]
              by_cases e : j = i
              · rw [e] at hh; rw [if_pos e]; exact hat.2 (Or.inl hh)
              · rw [if_neg e]; exact hh
            · refine ⟨i, by rw [List.length_set]; exact hi, ?_⟩
              rw [sth_set out i _ hi, if_pos rfl]
              exact hat.2 (Or.inr h)
    have := key _ (Nat.le_refl _) out h
    rw [this, inW_succ f ah b t]
theorem askWays_mem {f : Nat} {ks : List Se} (h : askOk f ks = true) (t : List UInt8) : t ∈ askWays f ks ↔ inW f [] ks t := by
  unfold askWays inW
  rw [if_pos h, List.mem_map]
theorem askJoin_ways {f : Nat} {a b L : List Se} (h : askJoin f a b = some L) : (∀ t ∈ askWays f L, t ∈ askWays f a ∨ t ∈ askWays f b) ∧ (∀ t ∈ askWays f a, t ∈ askWays f L) ∧ ∀ t ∈ askWays f b, t ∈ askWays f L := by
  unfold askJoin at h
  split at h
  · next hab =>
    cases hj : joinF f a b with
    | none => rw [hj] at h; simp at h
    | some x =>
      rw [hj] at h
      simp only [Option.bind_some] at h
      split at h
      · next hx =>
        obtain rfl := Option.some.inj h
        have hw := fun t => joinF_ways f [] t hj
        refine ⟨fun t ht => ?_, fun t ht => ?_, fun t ht => ?_⟩
        · rw [askWays_mem hx, hw] at ht
          rw [askWays_mem hab.1, askWays_mem hab.2]
          exact ht
        · rw [askWays_mem hab.1] at ht
          rw [askWays_mem hx, hw]
          exact Or.inl ht
        · rw [askWays_mem hab.2] at ht
          rw [askWays_mem hx, hw]
          exact Or.inr ht
      · simp at h
  · simp at h
end Go.Proofs.YtokmgbidmnanpaaGreatDoor
