/-
  A value that is copied place by place: the places that are still open, and what holds when they are shut.
-/
import Derived.Test.YtjlifamkfdmfcaaEq
namespace Go.Proofs.Ytjlifamkfdmfcaa
set_option linter.unusedSimpArgs false
set_option linter.unusedVariables false
open Go.RowKit

mutual
/-- How many parts a value has. -/
def cntV : V → Nat
  | .mk _ _ _ _ ks => 1 + cntL ks
/-- The same of a list of values. -/
def cntL : List V → Nat
  | [] => 0
  | k :: r => cntV k + cntL r
end
theorem cntV_pos (x : V) : 1 ≤ cntV x := by cases x; simp [cntV]
theorem len_cntL (ks : List V) : ks.length ≤ cntL ks := by
  induction ks with
  | nil => simp
  | cons k r ih =>
    have := cntV_pos k
    simp only [cntL, List.length_cons]
    omega

/-- A place that is still to be copied: its block, where it begins there, and what is meant there. -/
structure Pl where
  b : Nat
  o : Nat
  y : V
def Pl.has (e : Pl) (b o : Nat) : Prop := e.b = b ∧ e.o ≤ o ∧ o < e.o + 5
def inL (L : List Pl) (b o : Nat) : Prop := ∃ e ∈ L, e.has b o
/-- A place holds a value. -/
def RepAt (w : World) (P : Nat → Prop) (b o : Nat) (y : V) : Prop := ∃ c0 c1 c2 c3 c4 : Value, w.cell? ⟨b, o, none⟩ = some c0 ∧ w.cell? ⟨b, o + 1, none⟩ = some c1 ∧ w.cell? ⟨b, o + 2, none⟩ = some c2 ∧ w.cell? ⟨b, o + 3, none⟩ = some c3 ∧ w.cell? ⟨b, o + 4, none⟩ = some c4 ∧ Rep w P y (.agg #[c0, c1, c2, c3, c4])
/-- The blocks that a call has made, but for its result's own. -/
def New (base : Nat) (w : World) : Nat → Prop := fun b => base ≤ b ∧ b < w.heap.size ∧ b ≠ base + 1
/-- In every later world that keeps the blocks T outside the open places, and in which each open place holds its value in new memory, the root holds x in new memory. -/
def Closes (w : World) (base : Nat) (T : Nat → Prop) (L : List Pl) (root : Nat) (x : V) : Prop :=
  ∀ w' : World, w.heap.size ≤ w'.heap.size → (∀ b o, T b → ¬ inL L b o → w'.cell? ⟨b, o, none⟩ = w.cell? ⟨b, o, none⟩) → (∀ e, e ∈ L → RepAt w' (New base w') e.b e.o e.y) → RepAt w' (New base w') root 0 x

theorem Closes.start (w : World) (base : Nat) (T : Nat → Prop) (root : Nat) (x : V) : Closes w base T [⟨root, 0, x⟩] root x := fun w' _ _ h => h ⟨root, 0, x⟩ (by simp)
theorem Closes.done {w : World} {base : Nat} {T : Nat → Prop} {root : Nat} {x : V} (h : Closes w base T [] root x) : RepAt w (New base w) root 0 x :=
  h w (Nat.le_refl _) (fun _ _ _ _ => rfl) (fun e he => by simp at he)

/-- The places of the first kids. -/
def kidPls (kb : Nat) (ks : List V) (n : Nat) : List Pl := (List.range n).map fun i => ⟨kb, i * 5, kth ks i⟩
theorem kidPls_succ (kb : Nat) (ks : List V) (n : Nat) : kidPls kb ks (n + 1) = kidPls kb ks n ++ [⟨kb, n * 5, kth ks n⟩] := by simp [kidPls, List.range_succ]
theorem kidPls_mem {kb : Nat} {ks : List V} {n : Nat} {e : Pl} (h : e ∈ kidPls kb ks n) : ∃ i, i < n ∧ e = ⟨kb, i * 5, kth ks i⟩ := by
  simp only [kidPls, List.mem_map, List.mem_range] at h
  obtain ⟨i, hi, rfl⟩ := h
  exact ⟨i, hi, rfl⟩
theorem kidPls_in (kb : Nat) (ks : List V) {n i : Nat} (h : i < n) : (⟨kb, i * 5, kth ks i⟩ : Pl) ∈ kidPls kb ks n := by
  simp only [kidPls, List.mem_map, List.mem_range]; exact ⟨i, h, rfl⟩

/-- What is to be done still: the parts of all open places. -/
def todo (L : List Pl) : Nat := cntL (L.map Pl.y)
theorem cntL_append (a b : List V) : cntL (a ++ b) = cntL a + cntL b := by
  induction a with
  | nil => simp [cntL]
  | cons k r ih => simp [cntL, ih]; omega
theorem kid_vals (kb : Nat) (ks : List V) : (kidPls kb ks ks.length).map Pl.y = ks := by
  apply List.ext_getElem
  · simp [kidPls]
  · intro i h1 h2; simp [kidPls, kth, List.getD_eq_getElem?_getD, List.getElem?_eq_getElem h2]
theorem todo_step (L0 : List Pl) (b o : Nat) (s n : Int) (t : ByteArray) (ns : List ByteArray) (ks : List V) (kb : Nat) : todo (L0 ++ kidPls kb ks ks.length) + 1 = todo (L0 ++ [⟨b, o, .mk s n t ns ks⟩]) := by
  simp only [todo, List.map_append, cntL_append, kid_vals, List.map_cons, List.map_nil, cntL, cntV]
  omega
theorem todo_len (L : List Pl) : L.length ≤ todo L := by
  induction L with
  | nil => simp
  | cons e r ih =>
    have := cntV_pos e.y
    simp only [todo, List.map_cons, cntL, List.length_cons] at ih ⊢
    omega

theorem Closes.step {w w2 : World} {base : Nat} {T T2 N : Nat → Prop} {L0 : List Pl} {b o : Nat} {s n : Int} {t : ByteArray} {ns : List ByteArray} {ks : List V} {root : Nat} {x : V} {na ka : Option Addr} {nc kc kb : Nat}
    (h : Closes w base T (L0 ++ [⟨b, o, .mk s n t ns ks⟩]) root x) (hsz : w.heap.size ≤ w2.heap.size) (hbz : base + 1 < w.heap.size)
    (hT : ∀ c, T c → base ≤ c ∧ c < w.heap.size) (hTb : T b) (hT2 : ∀ c, T c → T2 c) (hN2 : ∀ c, N c → T2 c)
    (hL0 : ∀ e, e ∈ L0 → T e.b) (hap : ∀ e, e ∈ L0 → e.b ≠ b ∨ e.o + 5 ≤ o ∨ o + 5 ≤ e.o)
    (hN : ∀ c, N c → w.heap.size ≤ c ∧ c < w2.heap.size ∧ c ≠ kb) (hkb : w.heap.size ≤ kb) (hkb2 : ks ≠ [] → kb < w2.heap.size)
    (hkeep : ∀ c i, T c → ¬ inL (L0 ++ [⟨b, o, .mk s n t ns ks⟩]) c i → w2.cell? ⟨c, i, none⟩ = w.cell? ⟨c, i, none⟩)
    (c0 : w2.cell? ⟨b, o, none⟩ = some (.int .i64 s)) (c1 : w2.cell? ⟨b, o + 1, none⟩ = some (.int .i64 n)) (c2 : w2.cell? ⟨b, o + 2, none⟩ = some (.string t)) (c3 : w2.cell? ⟨b, o + 3, none⟩ = some (.slice na ns.length nc)) (c4 : w2.cell? ⟨b, o + 4, none⟩ = some (.slice ka ks.length kc))
    (hS : Strs w2 N ns na) (hnc : ns.length ≤ nc) (ht : t.size ≤ maxLen) (hbs : 16 * ns.length ≤ 281474976710656) (hbk : 80 * ks.length ≤ 281474976710656) (hka : ks ≠ [] → ka = some ⟨kb, 0, none⟩) :
    Closes w2 base T2 (L0 ++ kidPls kb ks ks.length) root x := by
  intro w' hz hk hr
  have hbb := hT b hTb
  have notK : ∀ c i, c < w.heap.size → ¬ inL (kidPls kb ks ks.length) c i := by
    rintro c i hc ⟨e, he, h1, -⟩
    obtain ⟨j, hj, rfl⟩ := kidPls_mem he
    simp only at h1
    omega
  refine h w' (by omega) (fun c i hc hn => ?_) (fun e he => ?_)
  · rw [hk c i (hT2 c hc) (fun hin => hn ?_), hkeep c i hc hn]
    obtain ⟨e, he, hh⟩ := hin
    rcases List.mem_append.1 he with he | he
    · exact ⟨e, List.mem_append_left _ he, hh⟩
    · exact absurd ⟨e, he, hh⟩ (notK c i (hT c hc).2)
  · rcases List.mem_append.1 he with he | he
    · exact hr e (List.mem_append_left _ he)
    · obtain rfl : e = ⟨b, o, .mk s n t ns ks⟩ := by simpa using he
      have cell : ∀ j, j < 5 → w'.cell? ⟨b, o + j, none⟩ = w2.cell? ⟨b, o + j, none⟩ := fun j hj => hk b (o + j) (hT2 b hTb) fun hin => by
        obtain ⟨e, he, h1, h2, h3⟩ := hin
        rcases List.mem_append.1 he with he' | he'
        · rcases hap e he' with h4 | h4 | h4
          · exact h4 h1
          · omega
          · omega
        · exact notK b (o + j) hbb.2 ⟨e, he', h1, h2, h3⟩
      refine ⟨_, _, _, _, _, (cell 0 (by omega)).trans c0, (cell 1 (by omega)).trans c1, (cell 2 (by omega)).trans c2, (cell 3 (by omega)).trans c3, (cell 4 (by omega)).trans c4, Rep.of_kids ⟨fun hne => ?_, hS.2⟩ hnc ht hbs ?_⟩
      · obtain ⟨nb, off, e1, e2, e3⟩ := hS.1 hne
        have hn := hN nb e2
        refine ⟨nb, off, e1, ⟨by omega, by omega, by omega⟩, fun i hi => (hk nb (off + i) (hN2 nb e2) fun hin => ?_).trans (e3 i hi)⟩
        obtain ⟨e, he, h1, h2, h3⟩ := hin
        rcases List.mem_append.1 he with he' | he'
        · have := (hT _ (hL0 e he')).2; omega
        · obtain ⟨j, hj, rfl⟩ := kidPls_mem he'
          exact hn.2.2 h1.symm
      · refine ⟨hbk, ?_⟩
        have hK : ∀ i, ∃ C : Nat → Value, i < ks.length → (∀ j, j < 5 → w'.cell? ⟨kb, 0 + i * 5 + j, none⟩ = some (C j)) ∧ Rep w' (New base w') (kth ks i) (.agg #[C 0, C 1, C 2, C 3, C 4]) := fun i => by
          by_cases hi : i < ks.length
          · obtain ⟨d0, d1, d2, d3, d4, g0, g1, g2, g3, g4, hR⟩ := hr ⟨kb, i * 5, kth ks i⟩ (List.mem_append_right _ (kidPls_in kb ks hi))
            refine ⟨fun j => if j = 0 then d0 else if j = 1 then d1 else if j = 2 then d2 else if j = 3 then d3 else d4, fun _ => ⟨fun j hj => ?_, by simpa using hR⟩⟩
            have : j = 0 ∨ j = 1 ∨ j = 2 ∨ j = 3 ∨ j = 4 := by omega
            rcases this with rfl | rfl | rfl | rfl | rfl
            · simpa using g0
            · simpa using g1
            · simpa using g2
            · simpa using g3
            · simpa using g4
          · exact ⟨fun _ => undef, fun h => absurd h hi⟩
        obtain ⟨C, hC⟩ := Classical.skolem.1 hK
        exact ⟨kb, 0, C, fun hne => ⟨hka hne, by omega, by have := hkb2 hne; omega, by omega⟩, fun i hi => (hC i hi).1, fun i hi => (hC i hi).2⟩
end Go.Proofs.Ytjlifamkfdmfcaa
