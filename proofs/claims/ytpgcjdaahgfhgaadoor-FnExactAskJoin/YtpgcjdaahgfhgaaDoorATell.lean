/-
  What tellSels keeps while others' rounds run between its own steps.
-/
import Derived.Test.YtpgcjdaahgfhgaaDoorAImpl1
import Derived.Test.YtpgcjdaahgfhgaaDoorARange
import Derived.Test.YtpgcjdaahgfhgaaDoorACopyT
namespace Go.Proofs.YtpgcjdaahgfhgaaDoor
set_option linter.unusedSimpArgs false
set_option linter.unusedVariables false
open Go.RowKit Go.Shelf

/-- Where a cell is, the block is cells. -/
theorem cell_cells {W : World} {b i : Nat} {v : Value} (h : W.cell? ⟨b, i, none⟩ = some v) : ∃ o, W.heap[b]? = some o ∧ o.isCells = true := by
  cases hb : W.heap[b]? with
  | none => simp [World.cell?, hb] at h
  | some o =>
    refine ⟨o, rfl, ?_⟩
    cases o <;> simp_all [World.cell?, Obj.isCells]
theorem KeepO.cell {O : Nat → Prop} {A B : World} (h : KeepO O A B) {b i : Nat} {v : Value} (hb : ¬ O b) (hc : A.cell? ⟨b, i, none⟩ = some v) : B.cell? ⟨b, i, none⟩ = some v := by
  obtain ⟨o, h1, h2⟩ := cell_cells hc
  have h3 := h.cells b o hb h1 h2
  exact (World.cell?_of_block (w := A) (a := ⟨b, i, none⟩) (h3.trans h1.symm)).trans hc
/-- A list of texts in blocks that a round does not change. -/
theorem strs_keepO {O O' : Nat → Prop} {A B : World} {ns : List ByteArray} {a : Option Addr} (h : Strs A (fun b => ¬ O b ∧ b < A.heap.size) ns a) (k : KeepO O A B) (ho : ∀ b, O' b → O b ∨ A.heap.size ≤ b) : Strs B (fun b => ¬ O' b ∧ b < B.heap.size) ns a := by
  obtain ⟨h1, h2, h3⟩ := h
  refine ⟨fun hn => ?_, h2, h3⟩
  obtain ⟨b, off, e, hb, hc⟩ := h1 hn
  exact ⟨b, off, e, ⟨fun h => (ho b h).elim hb.1 (fun h' => by omega), by have := k.size; omega⟩, fun i hi => k.cell hb.1 (hc i hi)⟩
theorem strs_below {O : Nat → Prop} {A B : World} {ns : List ByteArray} {a : Option Addr} (h : Strs A (fun b => ¬ O b ∧ b < A.heap.size) ns a) (k : Below A.heap.size A B) : Strs B (fun b => ¬ O b ∧ b < B.heap.size) ns a :=
  strs_keepO h (KeepO.below k) (fun b hb => Or.inl hb)
theorem se_keepO {O : Nat → Prop} {A B : World} {lo : Nat} (hO : ∀ b, O b → lo ≤ b) (k : KeepO O A B) : ∀ {f : Nat} {x : Se} {v : Value}, SeN A (· < lo) f x v → SeN B (· < lo) f x v
  | 0, _, _, h => h.elim
  | f + 1, x, v, h => by
    obtain ⟨ka, kc, C, h1, h2, h3, h4, hA, hr⟩ := h
    refine ⟨ka, kc, C, h1, h2, h3, h4, fun hn => ?_, fun i hi => se_keepO hO k (hr i hi)⟩
    obtain ⟨b, off, e, hb, hc⟩ := hA hn
    exact ⟨b, off, e, hb, fun i hi j hj => k.cell (fun h => by have := hO b h; omega) (hc i hi j hj)⟩
theorem ses_keepO {O : Nat → Prop} {A B : World} {lo : Nat} {ks : List Se} {a : Option Addr} (h : SeReps A (· < lo) ks a) (hO : ∀ b, O b → lo ≤ b) (k : KeepO O A B) : SeReps B (· < lo) ks a := by
  obtain ⟨h0, C, hA, hr⟩ := h
  refine ⟨h0, C, fun hn => ?_, fun i hi => ?_⟩
  · obtain ⟨b, off, e, hb, hc⟩ := hA hn
    exact ⟨b, off, e, hb, fun i hi j hj => k.cell (fun h => by have := hO b h; omega) (hc i hi j hj)⟩
  · obtain ⟨f, hf⟩ := hr i hi
    exact ⟨f, se_keepO hO k hf⟩
/-- What a round is handed: a way and a field, in blocks that are not the caller's. -/
def ArgT (x : Way × Se) (ar : Array Value) (A : World) : Prop := ∃ (wa : Option Addr) (wc : Nat) (ka : Option Addr) (kc : Nat),
  ar = #[.slice wa x.1.length wc, .agg #[.string x.2.al, .string x.2.name, .bool x.2.one, .int .i64 x.2.id, .slice ka x.2.kids.length kc]] ∧ x.1.length ≤ wc ∧ Strs A (· < A.heap.size) x.1 wa ∧ x.2.al.size ≤ maxLen ∧ x.2.name.size ≤ maxLen ∧ (∀ a ∈ x.1, a.size ≤ 1048576) ∧ x.1 ≠ []
/-- How tellSels ends. -/
def TellP (J : List (Way × Se) → (Nat → Prop) → World → Prop) (Jx : World → Prop) (O : Nat → Prop) (lo : Nat) (all : List (Way × Se)) (A : World) (e : Ending) (B : World) : Prop :=
  ∃ go, e = .returned (.bool go) ∧ ((go = true ∧ ∃ O', J all O' B ∧ KeepO O A B ∧ (∀ b, O' b → O b ∨ A.heap.size ≤ b) ∧ ∀ b, O' b → lo ≤ b) ∨ (go = false ∧ Jx B))
end Go.Proofs.YtpgcjdaahgfhgaaDoor
