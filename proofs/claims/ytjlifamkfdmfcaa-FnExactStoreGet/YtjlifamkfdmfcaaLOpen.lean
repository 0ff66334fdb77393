/-
  A value that is copied place by place, its lists apart: the places that are still open, and what holds when they are shut.
-/
import Derived.Test.YtjlifamkfdmfcaaLRep
import Derived.Test.YtjlifamkfdmfcaaSOpen
namespace Go.Proofs.Ytjlifamkfdmfcaa
set_option linter.unusedSimpArgs false
set_option linter.unusedVariables false
open Go.RowKit

/-- A place that is still to be copied: the way to it, its block, where it begins there, and what is meant there. -/
structure Pq where
  p : List Nat
  b : Nat
  o : Nat
  y : V
def Pq.has (e : Pq) (b o : Nat) : Prop := e.b = b ∧ e.o ≤ o ∧ o < e.o + 5
def inQ (L : List Pq) (b o : Nat) : Prop := ∃ e ∈ L, e.has b o
/-- A place holds a value, its lists apart. -/
def RepLab (w : World) (P : Nat → Prop) (lab : Nat → List Nat) (p : List Nat) (b o : Nat) (y : V) : Prop := ∃ c0 c1 c2 c3 c4 : Value, w.cell? ⟨b, o, none⟩ = some c0 ∧ w.cell? ⟨b, o + 1, none⟩ = some c1 ∧ w.cell? ⟨b, o + 2, none⟩ = some c2 ∧ w.cell? ⟨b, o + 3, none⟩ = some c3 ∧ w.cell? ⟨b, o + 4, none⟩ = some c4 ∧ Rep w P y (.agg #[c0, c1, c2, c3, c4]) ∧ LRep w lab p y (.agg #[c0, c1, c2, c3, c4])
/-- In every later world that keeps the blocks T outside the open places, and in which each open place holds its value in new memory, the root holds x in new memory. -/
def ClosesL (w : World) (lab : Nat → List Nat) (base : Nat) (T : Nat → Prop) (L : List Pq) (root : Nat) (x : V) : Prop :=
  ∀ (w' : World) (lab' : Nat → List Nat), w.heap.size ≤ w'.heap.size → (∀ b, T b → lab' b = lab b) → (∀ b o, T b → ¬ inQ L b o → w'.cell? ⟨b, o, none⟩ = w.cell? ⟨b, o, none⟩) → (∀ b i, T b → w'.frozen? ⟨b, i, none⟩ = w.frozen? ⟨b, i, none⟩) →
    (∀ e, e ∈ L → RepLab w' (New base w') lab' e.p e.b e.o e.y) → RepLab w' (New base w') lab' [] root 0 x

theorem ClosesL.start (w : World) (lab : Nat → List Nat) (base : Nat) (T : Nat → Prop) (root : Nat) (x : V) : ClosesL w lab base T [⟨[], root, 0, x⟩] root x := fun w' lab' _ _ _ _ h => h ⟨[], root, 0, x⟩ (by simp)
theorem ClosesL.done {w : World} {lab : Nat → List Nat} {base : Nat} {T : Nat → Prop} {root : Nat} {x : V} (h : ClosesL w lab base T [] root x) : RepLab w (New base w) lab [] root 0 x :=
  h w lab (Nat.le_refl _) (fun _ _ => rfl) (fun _ _ _ _ => rfl) (fun _ _ _ => rfl) (fun e he => by simp at he)

/-- The places of the first kids. -/
def kidQ (p : List Nat) (kb : Nat) (ks : List V) (n : Nat) : List Pq := (List.range n).map fun i => ⟨(i + 2) :: p, kb, i * 5, kth ks i⟩
theorem kidQ_succ (p : List Nat) (kb : Nat) (ks : List V) (n : Nat) : kidQ p kb ks (n + 1) = kidQ p kb ks n ++ [⟨(n + 2) :: p, kb, n * 5, kth ks n⟩] := by simp [kidQ, List.range_succ]
theorem kidQ_mem {p : List Nat} {kb : Nat} {ks : List V} {n : Nat} {e : Pq} (h : e ∈ kidQ p kb ks n) : ∃ i, i < n ∧ e = ⟨(i + 2) :: p, kb, i * 5, kth ks i⟩ := by
  simp only [kidQ, List.mem_map, List.mem_range] at h
  obtain ⟨i, hi, rfl⟩ := h
  exact ⟨i, hi, rfl⟩
theorem kidQ_in (p : List Nat) (kb : Nat) (ks : List V) {n i : Nat} (h : i < n) : (⟨(i + 2) :: p, kb, i * 5, kth ks i⟩ : Pq) ∈ kidQ p kb ks n := by
  simp only [kidQ, List.mem_map, List.mem_range]; exact ⟨i, h, rfl⟩

/-- What is to be done still: the parts of all open places. -/
def todoQ (L : List Pq) : Nat := cntL (L.map Pq.y)
theorem kidQ_vals (p : List Nat) (kb : Nat) (ks : List V) : (kidQ p kb ks ks.length).map Pq.y = ks := by
  apply List.ext_getElem
  · simp [kidQ]
  · intro i h1 h2; simp [kidQ, kth, List.getD_eq_getElem?_getD, List.getElem?_eq_getElem h2]
theorem todoQ_step (L0 : List Pq) (p : List Nat) (b o : Nat) (s n : Int) (t : ByteArray) (ns : List ByteArray) (ks : List V) (kb : Nat) : todoQ (L0 ++ kidQ p kb ks ks.length) + 1 = todoQ (L0 ++ [⟨p, b, o, .mk s n t ns ks⟩]) := by
  simp only [todoQ, List.map_append, cntL_append, kidQ_vals, List.map_cons, List.map_nil, cntL, cntV]
  omega
theorem todoQ_len (L : List Pq) : L.length ≤ todoQ L := by
  induction L with
  | nil => simp
  | cons e r ih =>
    have := cntV_pos e.y
    simp only [todoQ, List.map_cons, cntL, List.length_cons] at ih ⊢
    omega

theorem ClosesL.step {w w2 : World} {lab lab2 : Nat → List Nat} {base : Nat} {T T2 N : Nat → Prop} {L0 : List Pq} {p : List Nat} {b o : Nat} {s n : Int} {t : ByteArray} {ns : List ByteArray} {ks : List V} {root : Nat} {x : V} {na ka : Option Addr} {nc kc kb : Nat}
    (h : ClosesL w lab base T (L0 ++ [⟨p, b, o, .mk s n t ns ks⟩]) root x) (hsz : w.heap.size ≤ w2.heap.size) (hbz : base + 1 < w.heap.size)
    (hT : ∀ c, T c → base ≤ c ∧ c < w.heap.size) (hTb : T b) (hT2 : ∀ c, T c → T2 c) (hN2 : ∀ c, N c → T2 c) (hk2 : ks ≠ [] → T2 kb)
    (hL0 : ∀ e, e ∈ L0 → T e.b) (hap : ∀ e, e ∈ L0 → e.b ≠ b ∨ e.o + 5 ≤ o ∨ o + 5 ≤ e.o)
    (hN : ∀ c, N c → w.heap.size ≤ c ∧ c < w2.heap.size ∧ c ≠ kb) (hkb : w.heap.size ≤ kb) (hkb2 : ks ≠ [] → kb < w2.heap.size)
    (hkeep : ∀ c i, T c → ¬ inQ (L0 ++ [⟨p, b, o, .mk s n t ns ks⟩]) c i → w2.cell? ⟨c, i, none⟩ = w.cell? ⟨c, i, none⟩) (hfk : ∀ c i, T c → w2.frozen? ⟨c, i, none⟩ = w.frozen? ⟨c, i, none⟩)
    (hl1 : ∀ c, T c → lab2 c = lab c) (hl2 : ∀ c, N c → lab2 c = 0 :: p) (hl3 : ks ≠ [] → lab2 kb = 1 :: p) (hf2 : ∀ nb off, na = some ⟨nb, off, none⟩ → ∀ i, w2.frozen? ⟨nb, i, none⟩ = false) (hf3 : ks ≠ [] → ∀ i, w2.frozen? ⟨kb, i, none⟩ = false)
    (c0 : w2.cell? ⟨b, o, none⟩ = some (.int .i64 s)) (c1 : w2.cell? ⟨b, o + 1, none⟩ = some (.int .i64 n)) (c2 : w2.cell? ⟨b, o + 2, none⟩ = some (.string t)) (c3 : w2.cell? ⟨b, o + 3, none⟩ = some (.slice na ns.length nc)) (c4 : w2.cell? ⟨b, o + 4, none⟩ = some (.slice ka ks.length kc))
    (hS : Strs w2 N ns na) (hnc : ns.length ≤ nc) (ht : t.size ≤ maxLen) (hbs : 16 * ns.length ≤ 281474976710656) (hbk : 80 * ks.length ≤ 281474976710656) (hka : ks ≠ [] → ka = some ⟨kb, 0, none⟩) :
    ClosesL w2 lab2 base T2 (L0 ++ kidQ p kb ks ks.length) root x := by
  intro w' lab' hz hlab hk hfr hr
  have hbb := hT b hTb
  have notK : ∀ c i, c < w.heap.size → ¬ inQ (kidQ p kb ks ks.length) c i := by
    rintro c i hc ⟨e, he, h1, -⟩
    obtain ⟨j, hj, rfl⟩ := kidQ_mem he
    simp only at h1
    omega
  refine h w' lab' (by omega) (fun c hc => (hlab c (hT2 c hc)).trans (hl1 c hc)) (fun c i hc hn => ?_) (fun c i hc => (hfr c i (hT2 c hc)).trans (hfk c i hc)) (fun e he => ?_)
  · rw [hk c i (hT2 c hc) (fun hin => hn ?_), hkeep c i hc hn]
    obtain ⟨e, he, hh⟩ := hin
    rcases List.mem_append.1 he with he | he
    · exact ⟨e, List.mem_append_left _ he, hh⟩
    · exact absurd ⟨e, he, hh⟩ (notK c i (hT c hc).2)
  · rcases List.mem_append.1 he with he | he
    · exact hr e (List.mem_append_left _ he)
    · obtain rfl : e = ⟨p, b, o, .mk s n t ns ks⟩ := by simpa using he
      have cell : ∀ j, j < 5 → w'.cell? ⟨b, o + j, none⟩ = w2.cell? ⟨b, o + j, none⟩ := fun j hj => hk b (o + j) (hT2 b hTb) fun hin => by
        obtain ⟨e, he, h1, h2, h3⟩ := hin
        rcases List.mem_append.1 he with he' | he'
        · rcases hap e he' with h4 | h4 | h4
          · exact h4 h1
          · omega
          · omega
        · exact notK b (o + j) hbb.2 ⟨e, he', h1, h2, h3⟩
      have hncell : ∀ nb off, N nb → ∀ i, w'.cell? ⟨nb, off + i, none⟩ = w2.cell? ⟨nb, off + i, none⟩ := fun nb off e2 i => hk nb (off + i) (hN2 nb e2) fun hin => by
        have hn := hN nb e2
        obtain ⟨e, he, h1, h2, h3⟩ := hin
        rcases List.mem_append.1 he with he' | he'
        · have := (hT _ (hL0 e he')).2; omega
        · obtain ⟨j, hj, rfl⟩ := kidQ_mem he'
          exact hn.2.2 h1.symm
      have hK : ∀ i, ∃ C : Nat → Value, i < ks.length → (∀ j, j < 5 → w'.cell? ⟨kb, 0 + i * 5 + j, none⟩ = some (C j)) ∧ Rep w' (New base w') (kth ks i) (.agg #[C 0, C 1, C 2, C 3, C 4]) ∧ LRep w' lab' ((i + 2) :: p) (kth ks i) (.agg #[C 0, C 1, C 2, C 3, C 4]) := fun i => by
        by_cases hi : i < ks.length
        · obtain ⟨d0, d1, d2, d3, d4, g0, g1, g2, g3, g4, hR, hL⟩ := hr ⟨(i + 2) :: p, kb, i * 5, kth ks i⟩ (List.mem_append_right _ (kidQ_in p kb ks hi))
          refine ⟨fun j => if j = 0 then d0 else if j = 1 then d1 else if j = 2 then d2 else if j = 3 then d3 else d4, fun _ => ⟨fun j hj => ?_, by simpa using hR, by simpa using hL⟩⟩
          have : j = 0 ∨ j = 1 ∨ j = 2 ∨ j = 3 ∨ j = 4 := by omega
          rcases this with rfl | rfl | rfl | rfl | rfl
          · simpa using g0
          · simpa using g1
          · simpa using g2
          · simpa using g3
          · simpa using g4
        · exact ⟨fun _ => undef, fun h => absurd h hi⟩
      obtain ⟨C, hC⟩ := Classical.skolem.1 hK
      refine ⟨_, _, _, _, _, (cell 0 (by omega)).trans c0, (cell 1 (by omega)).trans c1, (cell 2 (by omega)).trans c2, (cell 3 (by omega)).trans c3, (cell 4 (by omega)).trans c4, Rep.of_kids ⟨fun hne => ?_, hS.2⟩ hnc ht hbs ⟨hbk, kb, 0, C, fun hne => ⟨hka hne, by omega, by have := hkb2 hne; omega, by omega⟩, fun i hi => (hC i hi).1, fun i hi => (hC i hi).2.1⟩, LRep.of_kids (fun hne => ?_) ⟨kb, 0, C, fun hne => ⟨hka hne, ?_, fun i => ?_⟩, fun i hi => (hC i hi).1, fun i hi => (hC i hi).2.2⟩⟩
      · obtain ⟨nb, off, e1, e2, e3⟩ := hS.1 hne
        have hn := hN nb e2
        exact ⟨nb, off, e1, ⟨by omega, by omega, by omega⟩, fun i hi => (hncell nb off e2 i).trans (e3 i hi)⟩
      · obtain ⟨nb, off, e1, e2, e3⟩ := hS.1 hne
        exact ⟨nb, off, e1, (hlab nb (hN2 nb e2)).trans (hl2 nb e2), fun i => (hfr nb i (hN2 nb e2)).trans (hf2 nb off e1 i), fun i hi => (hncell nb off e2 i).trans (e3 i hi)⟩
      · exact (hlab kb (hk2 hne)).trans (hl3 hne)
      · exact (hfr kb i (hk2 hne)).trans (hf3 hne i)
end Go.Proofs.Ytjlifamkfdmfcaa
