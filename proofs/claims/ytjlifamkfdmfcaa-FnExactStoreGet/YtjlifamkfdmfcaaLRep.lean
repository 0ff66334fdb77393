/-
  Values whose lists lie apart: each block bears the way to its owner as a label.
-/
import Derived.Test.YtjlifamkfdmfcaaVSize
import Derived.Test.YtjlifamkfdmfcaaNf
namespace Go.Proofs.Ytjlifamkfdmfcaa
set_option linter.unusedSimpArgs false
set_option linter.unusedVariables false
open Go.RowKit

/-- The names of the value at the way p: their block bears the label 0 :: p, and may be written. -/
def LStrs (w : World) (lab : Nat → List Nat) (p : List Nat) (ns : List ByteArray) (na : Option Addr) : Prop :=
  ns ≠ [] → ∃ b off, na = some ⟨b, off, none⟩ ∧ lab b = 0 :: p ∧ (∀ i, w.frozen? ⟨b, i, none⟩ = false) ∧ ∀ i, i < ns.length → w.cell? ⟨b, off + i, none⟩ = some (.string (nth ns i))
/-- The value at the way p: the block of its kids bears the label 1 :: p, kid i is at the way (i + 2) :: p. -/
def LRepN (w : World) (lab : Nat → List Nat) : Nat → List Nat → V → Value → Prop
  | 0, _, _, _ => False
  | f + 1, p, x, v => ∃ (na ka : Option Addr) (nc kc b off : Nat) (C : Nat → Nat → Value),
      v = .agg #[.int .i64 x.sort, .int .i64 x.num, .string x.text, .slice na x.names.length nc, .slice ka x.kids.length kc] ∧ LStrs w lab p x.names na ∧
      (x.kids ≠ [] → ka = some ⟨b, off, none⟩ ∧ lab b = 1 :: p ∧ ∀ i, w.frozen? ⟨b, i, none⟩ = false) ∧ (∀ i, i < x.kids.length → ∀ j, j < 5 → w.cell? ⟨b, off + i * 5 + j, none⟩ = some (C i j)) ∧
      ∀ i, i < x.kids.length → LRepN w lab f ((i + 2) :: p) (kth x.kids i) (.agg #[C i 0, C i 1, C i 2, C i 3, C i 4])
def LRep (w : World) (lab : Nat → List Nat) (p : List Nat) (x : V) (v : Value) : Prop := ∃ f, LRepN w lab f p x v
/-- The kids of the value at the way p. -/
def LKids (w : World) (lab : Nat → List Nat) (p : List Nat) (ks : List V) (ka : Option Addr) : Prop :=
  ∃ (b off : Nat) (C : Nat → Nat → Value), (ks ≠ [] → ka = some ⟨b, off, none⟩ ∧ lab b = 1 :: p ∧ ∀ i, w.frozen? ⟨b, i, none⟩ = false) ∧ (∀ i, i < ks.length → ∀ j, j < 5 → w.cell? ⟨b, off + i * 5 + j, none⟩ = some (C i j)) ∧
    ∀ i, i < ks.length → LRep w lab ((i + 2) :: p) (kth ks i) (.agg #[C i 0, C i 1, C i 2, C i 3, C i 4])

theorem LRepN.le {w : World} {lab : Nat → List Nat} : ∀ {f g : Nat} {p : List Nat} {x : V} {v : Value}, LRepN w lab f p x v → f ≤ g → LRepN w lab g p x v
  | 0, _, _, _, _, h, _ => h.elim
  | f + 1, 0, _, _, _, _, hg => by omega
  | f + 1, g + 1, p, x, v, h, hg => by
    obtain ⟨na, ka, nc, kc, b, off, C, h1, h2, h3, h4, h5⟩ := h
    exact ⟨na, ka, nc, kc, b, off, C, h1, h2, h3, h4, fun i hi => (h5 i hi).le (by omega)⟩
theorem lrep_bound {w : World} {lab : Nat → List Nat} {W : Nat → List Nat} {X : Nat → V} {U : Nat → Value} : ∀ n : Nat, (∀ i, i < n → LRep w lab (W i) (X i) (U i)) → ∃ f, ∀ i, i < n → LRepN w lab f (W i) (X i) (U i)
  | 0, _ => ⟨0, fun i hi => by omega⟩
  | n + 1, h => by
    obtain ⟨f, hf⟩ := lrep_bound n fun i hi => h i (by omega)
    obtain ⟨g, hg⟩ := h n (by omega)
    refine ⟨f + g, fun i hi => ?_⟩
    by_cases e : i = n
    · subst e; exact hg.le (by omega)
    · exact (hf i (by omega)).le (by omega)
theorem LRep.of_kids {w : World} {lab : Nat → List Nat} {p : List Nat} {s n : Int} {t : ByteArray} {ns : List ByteArray} {ks : List V} {na ka : Option Addr} {nc kc : Nat} (hs : LStrs w lab p ns na) (hK : LKids w lab p ks ka) :
    LRep w lab p (.mk s n t ns ks) (.agg #[.int .i64 s, .int .i64 n, .string t, .slice na ns.length nc, .slice ka ks.length kc]) := by
  obtain ⟨b, off, C, hka, hc, hr⟩ := hK
  obtain ⟨f, hf⟩ := lrep_bound ks.length hr
  exact ⟨f + 1, na, ka, nc, kc, b, off, C, rfl, hs, hka, hc, hf⟩
theorem LRep.inv {w : World} {lab : Nat → List Nat} {p : List Nat} {x : V} {v : Value} (h : LRep w lab p x v) :
    ∃ (na ka : Option Addr) (nc kc : Nat), v = .agg #[.int .i64 x.sort, .int .i64 x.num, .string x.text, .slice na x.names.length nc, .slice ka x.kids.length kc] ∧ LStrs w lab p x.names na ∧ LKids w lab p x.kids ka := by
  obtain ⟨f, h⟩ := h
  match f, h with
  | f + 1, h =>
    obtain ⟨na, ka, nc, kc, b, off, C, hv, hs, hka, hc, hr⟩ := h
    exact ⟨na, ka, nc, kc, hv, hs, b, off, C, hka, hc, fun i hi => ⟨f, hr i hi⟩⟩

theorem suffix_cons {a : Nat} {p l : List Nat} (h : (a :: p) <:+ l) : p <:+ l := (List.suffix_cons a p).trans h
theorem LStrs.keep {w w' : World} {lab : Nat → List Nat} {p : List Nat} {ns : List ByteArray} {na : Option Addr} (h : LStrs w lab p ns na) (e : ∀ b, lab b ≠ [] → p <:+ lab b → w'.heap[b]? = w.heap[b]?) : LStrs w' lab p ns na := fun hn => by
  obtain ⟨b, off, h1, h2, h3, h4⟩ := h hn
  have hb := e b (by rw [h2]; simp) (by rw [h2]; exact List.suffix_cons 0 p)
  exact ⟨b, off, h1, h2, fun i => (World.frozen?_of_block (w := w) (a := ⟨b, i, none⟩) hb).trans (h3 i), fun i hi => (World.cell?_of_block (w := w) (a := ⟨b, off + i, none⟩) hb).trans (h4 i hi)⟩
theorem LRepN.keep {w w' : World} {lab : Nat → List Nat} : ∀ {f : Nat} {p : List Nat} {x : V} {v : Value}, LRepN w lab f p x v → (∀ b, lab b ≠ [] → p <:+ lab b → w'.heap[b]? = w.heap[b]?) → LRepN w' lab f p x v
  | 0, _, _, _, h, _ => h.elim
  | f + 1, p, x, v, h, e => by
    obtain ⟨na, ka, nc, kc, b, off, C, h1, h2, h3, h4, h5⟩ := h
    refine ⟨na, ka, nc, kc, b, off, C, h1, h2.keep e, fun hn => ?_, fun i hi j hj => ?_, fun i hi => (h5 i hi).keep fun b' hb' hs' => e b' hb' (suffix_cons hs')⟩
    · obtain ⟨k1, k2, k3⟩ := h3 hn
      have hb := e b (by rw [k2]; simp) (by rw [k2]; exact List.suffix_cons 1 p)
      exact ⟨k1, k2, fun i => (World.frozen?_of_block (w := w) (a := ⟨b, i, none⟩) hb).trans (k3 i)⟩
    · obtain ⟨k1, k2, k3⟩ := h3 (by intro e; simp [e] at hi)
      have hb := e b (by rw [k2]; simp) (by rw [k2]; exact List.suffix_cons 1 p)
      exact (World.cell?_of_block (w := w) (a := ⟨b, off + i * 5 + j, none⟩) hb).trans (h4 i hi j hj)
theorem LRep.keep {w w' : World} {lab : Nat → List Nat} {p : List Nat} {x : V} {v : Value} (h : LRep w lab p x v) (e : ∀ b, lab b ≠ [] → p <:+ lab b → w'.heap[b]? = w.heap[b]?) : LRep w' lab p x v := by
  obtain ⟨f, h⟩ := h; exact ⟨f, h.keep e⟩
theorem LKids.keep {w w' : World} {lab : Nat → List Nat} {p : List Nat} {ks : List V} {ka : Option Addr} (h : LKids w lab p ks ka) (e : ∀ b, lab b ≠ [] → p <:+ lab b → w'.heap[b]? = w.heap[b]?) : LKids w' lab p ks ka := by
  obtain ⟨b, off, C, h3, h4, h5⟩ := h
  refine ⟨b, off, C, fun hn => ?_, fun i hi j hj => ?_, fun i hi => (h5 i hi).keep fun b' hb' hs' => e b' hb' (suffix_cons hs')⟩
  · obtain ⟨k1, k2, k3⟩ := h3 hn
    have hb := e b (by rw [k2]; simp) (by rw [k2]; exact List.suffix_cons 1 p)
    exact ⟨k1, k2, fun i => (World.frozen?_of_block (w := w) (a := ⟨b, i, none⟩) hb).trans (k3 i)⟩
  · obtain ⟨k1, k2, k3⟩ := h3 (by intro e; simp [e] at hi)
    have hb := e b (by rw [k2]; simp) (by rw [k2]; exact List.suffix_cons 1 p)
    exact (World.cell?_of_block (w := w) (a := ⟨b, off + i * 5 + j, none⟩) hb).trans (h4 i hi j hj)
end Go.Proofs.Ytjlifamkfdmfcaa
