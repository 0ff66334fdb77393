import Derived.Test.YtokmgbidmnanpaaGreatDoorBS5
set_option linter.unusedSimpArgs false
set_option linter.unusedVariables false
namespace Go.Proofs.YtokmgbidmnanpaaGreatDoor
open Go.RowKit Go.Shelf Go.Maps
def JEnd (f : Nat) (w : World) (o : Option (List Se)) (e : Ending) (w' : World) : Prop := Below w.heap.size w w' ∧ ((o = none ∧ e = .returned (.tuple #[.slice none 0 0, .bool false])) ∨ ∃ L a c, o = some L ∧ e = .returned (.tuple #[.slice a L.length c, .bool true]) ∧ OwnT f w' (fun b => w.heap.size ≤ b ∧ b < w'.heap.size) L a)
def JnS (f : Nat) : Prop := ∀ (a b : List Se) (w : World) (ka kb : Option Addr) (kc kd : Nat), FitS f a → FitS f b → cntTo f a a.length + cntTo f b b.length ≤ 1000 → SeReps w (· < w.heap.size) a ka → SeReps w (· < w.heap.size) b kb →
  Calls Tryz.prog 49 #[.slice ka a.length kc, .slice kb b.length kd, pairsS] w fun e w' => JEnd f w (joinF f a b) e w'
def byS : Obj := .cells #[.func (.func 89) #[] #[], .func (.func 93) #[] #[], .func (.func 94) #[] #[], .func (.func 95) #[] #[]] 76
def ByAt (W : World) (b : Nat) : Prop := W.cell? ⟨b, 0, none⟩ = some (.func (.func 89) #[] #[]) ∧ W.cell? ⟨b, 1, none⟩ = some (.func (.func 93) #[] #[]) ∧ W.cell? ⟨b, 2, none⟩ = some (.func (.func 94) #[] #[]) ∧ W.cell? ⟨b, 3, none⟩ = some (.func (.func 95) #[] #[])
theorem ByAt.new (w : World) : ByAt (w.alloc byS) w.heap.size := by
  refine ⟨?_, ?_, ?_, ?_⟩ <;> simp [byS]
theorem ByAt.keep {w w' : World} {b : Nat} (h : ByAt w b) (hb : b < w.heap.size) (k : Below w.heap.size w w') : ByAt w' b := by
  have hc : ∀ o, w'.cell? ⟨b, o, none⟩ = w.cell? ⟨b, o, none⟩ := fun o => k.cell (p := ⟨b, o, none⟩) hb
  unfold ByAt
  rw [hc, hc, hc, hc]
  exact h
theorem LI.put {f base k N g cap : Nat} {es : List El} {w : World} (h : LI f base k es (.slice (some ⟨g, 0, none⟩) es.length cap) w) (i : Nat) (hi : i < es.length) (a : Option Addr) (c : Nat) (Q : Nat → Prop) (K : List Se) (hO : OwnT f w Q K a) (hq : ∀ b, Q b → b < w.heap.size ∧ b ≠ g) (hlow : ∀ b, Q b → base ≤ b ∧ N ≤ b) (hold : ∀ y ∈ es, ∀ b, y.Q b → b < N) :
    LI f base k (es.set i ⟨(es[i]).s.sub K, a, c, Q⟩) (.slice (some ⟨g, 0, none⟩) es.length cap) (w.setCell ⟨g, i * 5 + 4, none⟩ (.slice a K.length c)) := by
  have hset : ∀ b, b ≠ g → (w.setCell ⟨g, i * 5 + 4, none⟩ (.slice a K.length c)).heap[b]? = w.heap[b]? := fun b hb => Below.heap_setCell _ _ _ _ hb
  refine ⟨by simpa using h.len, ⟨?_, fun y hy => ?_⟩, fun y hy => ?_, ?_, fun y hy => ?_⟩
  · obtain ⟨h1, -⟩ := h.row.row.stored (i * 5 + 4) (.slice a K.length c)
    rw [flat_set es i a c Q K hi] at h1
    simpa using h1
  · rcases mem_set hy with hy | rfl
    · obtain ⟨h1, h2⟩ := h.row.kid y hy
      refine ⟨h1.keep fun b hb => hset b fun e => (h2 b hb).2 (by rw [e]; rfl), fun b hb => ⟨by rw [size_set]; exact (h2 b hb).1, (h2 b hb).2⟩⟩
    · exact ⟨hO.keep fun b hb => hset b (hq b hb).2, fun b hb => ⟨by rw [size_set]; exact (hq b hb).1, fun e => (hq b hb).2 (by simpa [Value.ownBlock] using e.symm)⟩⟩
  · rcases mem_set hy with hy | rfl
    · exact h.low y hy
    · exact fun b hb => (hlow b hb).1
  · have hap := h.ap
    rw [List.pairwise_iff_getElem] at hap ⊢
    intro p q hp hq2 hpq b h1 h2
    simp only [List.length_set] at hp hq2
    rw [List.getElem_set] at h1 h2
    split at h1 <;> split at h2
    · omega
    · have := (hlow b h1).2
      have := hold _ (List.getElem_mem hq2) b h2
      omega
    · have := (hlow b h2).2
      have := hold _ (List.getElem_mem hp) b h1
      omega
    · exact hap p q hp hq2 hpq b h1 h2
  · rcases mem_set hy with hy | rfl
    · exact h.sz y hy
    · have h1 := h.sz (es[i]) (List.getElem_mem hi)
      exact h1
theorem LI.cells {f base k g cap : Nat} {es : List El} {w : World} (h : LI f base k es (.slice (some ⟨g, 0, none⟩) es.length cap) w) (i : Nat) (hi : i < es.length) : Cells5 w g (i * 5) (es[i]).s (es[i]).ka (es[i]).kc ∧ g < w.heap.size ∧ base ≤ g ∧ w.frozen? ⟨g, i * 5 + 4, none⟩ = false := by
  have hc : ∀ j, j < 5 → w.cell? ⟨g, i * 5 + j, none⟩ = (es[i]).cells[j]? := fun j hj => by rw [h.row.row.cellAt (i * 5 + j) (by omega), flat5 es i j hi hj]
  have hl := h.row.row.lt g rfl
  exact ⟨⟨hc 0 (by omega), hc 1 (by omega), hc 2 (by omega), hc 3 (by omega), hc 4 (by omega)⟩, hl.2, hl.1, h.row.row.frozenAt _⟩
theorem LI.old {f base k : Nat} {es : List El} {v : Value} {w : World} (h : LI f base k es v w) : ∀ y ∈ es, ∀ b, y.Q b → b < w.heap.size := fun y hy b hq => ((h.row.kid y hy).2 b hq).1
theorem LI.reps {f base k : Nat} {es : List El} {v : Value} {w : World} (h : LI f base k es v w) (hk : k ≤ 1000000) : ∃ a c, v = .slice a es.length c ∧ SeReps w (· < w.heap.size) (es.map El.s) a := h.row.reps (fun _ _ _ _ h => h.reps) (by have := h.len; omega) h.sz _ (fun b hb => hb.2) (fun e he b hq => h.old e he b hq)
end Go.Proofs.YtokmgbidmnanpaaGreatDoor
