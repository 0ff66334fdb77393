/-
  Whether a field can still be asked for; how a field is told.
-/
import Derived.Test.YtcpflkbbjlonbaaIFind
namespace Go.Proofs.Ytcpflkbbjlonbaa
set_option linter.unusedSimpArgs false
set_option linter.unusedVariables false
open Go.RowKit

/-- A field can be asked for as it was. -/
def stillB (f : F) (t : T) : Bool := decide (0 ≤ fieldIx t f.name) && (!(fieldOr t f.name).hidden && ((fieldOr t f.name).of.toList == f.of.toList && (fieldOr t f.name).list == f.list))

set_option maxHeartbeats 3200000 in
theorem isStillAsked_any (f : F) (t : T) (w : World) (B : Nat) (v u : Value) (hF : FRep w (· < B) f v) (hT : TRep w (· < B) t u) (hB : B ≤ w.heap.size) :
    Calls Try.prog 37 #[v, u] w fun e w' => e = .returned (.bool (stillB f t)) ∧ Below w.heap.size w w' := by
  have hT' := hT
  obtain ⟨nm, of, l, m, fr, hi, sh, needs⟩ := f
  obtain ⟨na, nc, rfl, hS, hnc, hn1, hn2, hn16⟩ := hF
  obtain ⟨fa, fc, rfl, hK, hfc, ht1, ht2⟩ := hT
  simp only at hS hnc hn1 hn2 hn16
  have hQ := fun W (h : Below w.heap.size w W) => findField_any t W B _ nm (hT'.under (h.mono hB)) (by have := h.size; omega)
  have hE : Hid (stillB ⟨nm, of, l, m, fr, hi, sh, needs⟩ t = (decide (0 ≤ fieldIx t nm) && (!(fieldOr t nm).hidden && ((fieldOr t nm).of.toList == of.toList && (fieldOr t nm).list == l)))) := rfl
  generalize fieldOr t nm = g at hQ hE
  generalize hd : decide (0 ≤ fieldIx t nm) = d at hQ hE
  have hbx : Below w.heap.size w ((w.alloc (.cells #[.string nm, .string of, .bool l, .bool m, .bool fr, .bool hi, .bool sh, .slice na needs.length nc] 35)).alloc (.cells #[.string t.name, .string t.key, .slice fa t.fields.length fc] 59)) := below_box2 w _ _
  have A : ∀ W, Below (w.heap.size + 1 + 1) ((w.alloc (.cells #[.string nm, .string of, .bool l, .bool m, .bool fr, .bool hi, .bool sh, .slice na needs.length nc] 35)).alloc (.cells #[.string t.name, .string t.key, .slice fa t.fields.length fc] 59)) W → (∀ o, (W.alloc o).cell? ⟨w.heap.size, 1, none⟩ = some (.string of)) ∧ (∀ o, (W.alloc o).cell? ⟨w.heap.size, 2, none⟩ = some (.bool l)) := fun W h => by
    have hz := h.size
    simp at hz
    have a : ∀ o i (hq : i < 8), (W.alloc o).cell? ⟨w.heap.size, i, none⟩ = some #[Value.string nm, .string of, .bool l, .bool m, .bool fr, .bool hi, .bool sh, .slice na needs.length nc][i] := fun o i hq => ((below_box W o).cell (p := ⟨w.heap.size, i, none⟩) (by show w.heap.size < _; omega)).trans ((h.cell (p := ⟨w.heap.size, i, none⟩) (by show w.heap.size < _; omega)).trans (((below_box _ _).cell (p := ⟨w.heap.size, i, none⟩) (by show w.heap.size < _; simp)).trans (box_new _ _ i (by simpa using hq))))
    exact ⟨fun o => a o 1 (by omega), fun o => a o 2 (by omega)⟩
  obtain ⟨gn, go, gl, gm, gf, gh, gs, gN⟩ := g
  simp only at hE
  have hQ1 := hQ _ hbx
  clear hQ
  cases d
  · go_enter Try.func37, Try.ntmps37
    go_wp2_with (
      go_at_call 33
      refine hQ1.mono ?_
      rintro e w1 ⟨nm', of', l', m', fr', hi', sh', na', nl', nc', rfl, hb1, na2, nc2, he, -⟩
      simp only [Value.agg.injEq, Array.mk.injEq, List.cons.injEq, Value.string.injEq, Value.bool.injEq] at he
      obtain ⟨rfl, rfl, rfl, rfl, rfl, rfl, rfl, -⟩ := he
      obtain ⟨a1, a2⟩ := A w1 (hb1.mono (by simp))
      have hw1 := hbx.trans (hb1.mono (by simp; omega)))
    go_ret
    exact ⟨ret_bool (by rw [hE.out]; rfl), by first | exact hw1 | exact hw1.alloc (by have := hw1.size; omega) _⟩
  cases gh
  rotate_left
  · go_enter Try.func37, Try.ntmps37
    go_wp2_with (
      go_at_call 33
      refine hQ1.mono ?_
      rintro e w1 ⟨nm', of', l', m', fr', hi', sh', na', nl', nc', rfl, hb1, na2, nc2, he, -⟩
      simp only [Value.agg.injEq, Array.mk.injEq, List.cons.injEq, Value.string.injEq, Value.bool.injEq] at he
      obtain ⟨rfl, rfl, rfl, rfl, rfl, rfl, rfl, -⟩ := he
      obtain ⟨a1, a2⟩ := A w1 (hb1.mono (by simp))
      have hw1 := hbx.trans (hb1.mono (by simp; omega)))
    go_ret
    exact ⟨ret_bool (by rw [hE.out]; rfl), by first | exact hw1 | exact hw1.alloc (by have := hw1.size; omega) _⟩
  cases hq : (go.toList == of.toList)
  · go_enter Try.func37, Try.ntmps37
    go_wp2_with (
      go_at_call 33
      refine hQ1.mono ?_
      rintro e w1 ⟨nm', of', l', m', fr', hi', sh', na', nl', nc', rfl, hb1, na2, nc2, he, -⟩
      simp only [Value.agg.injEq, Array.mk.injEq, List.cons.injEq, Value.string.injEq, Value.bool.injEq] at he
      obtain ⟨rfl, rfl, rfl, rfl, rfl, rfl, rfl, -⟩ := he
      obtain ⟨a1, a2⟩ := A w1 (hb1.mono (by simp))
      have hw1 := hbx.trans (hb1.mono (by simp; omega)))
    go_ret
    exact ⟨ret_bool (by rw [hE.out]; rw [hq]; rfl), by first | exact hw1 | exact hw1.alloc (by have := hw1.size; omega) _⟩
  · go_enter Try.func37, Try.ntmps37
    go_wp2_with (
      go_at_call 33
      refine hQ1.mono ?_
      rintro e w1 ⟨nm', of', l', m', fr', hi', sh', na', nl', nc', rfl, hb1, na2, nc2, he, -⟩
      simp only [Value.agg.injEq, Array.mk.injEq, List.cons.injEq, Value.string.injEq, Value.bool.injEq] at he
      obtain ⟨rfl, rfl, rfl, rfl, rfl, rfl, rfl, -⟩ := he
      obtain ⟨a1, a2⟩ := A w1 (hb1.mono (by simp))
      have hw1 := hbx.trans (hb1.mono (by simp; omega)))
    go_ret
    exact ⟨ret_bool (by rw [hE.out]; rw [hq]; rfl), by first | exact hw1 | exact hw1.alloc (by have := hw1.size; omega) _⟩

set_option maxHeartbeats 400000 in
theorem fieldText_any (a b : ByteArray) (w : World) (h : a.size + b.size + 1 ≤ 9223372036854775807) :
    Calls Try.prog 38 #[.string a, .string b] w fun e w' => e = .returned (.string (a ++ ⟨#[46]⟩ ++ b)) ∧ w = w' := by
  have h1 : a.size + 1 ≤ 9223372036854775807 := by omega
  have h2 : a.size + 1 + b.size ≤ 9223372036854775807 := by omega
  go_enter Try.func38, Try.ntmps38
  go_wp2_with fail
  go_ret
  exact ⟨rfl, rfl⟩
end Go.Proofs.Ytcpflkbbjlonbaa
