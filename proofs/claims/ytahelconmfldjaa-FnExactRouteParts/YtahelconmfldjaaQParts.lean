/-
  The parts that steps ask, ascending, each once: as it is meant.
-/
import Derived.Test.YtahelconmfldjaaQSet
namespace Go.Proofs.Ytahelconmfldjaa
set_option linter.unusedSimpArgs false
set_option linter.unusedVariables false
open Go.RowKit Go.Maps

/-- The parts of steps. -/
def pl (ss : List St) : List Int := ss.map St.part
theorem ith_pl (ss : List St) (i : Nat) : ith (pl ss) i = (pth ss i).part := by
  simp only [ith, pl, pth, List.getD_eq_getElem?_getD, List.getElem?_map]
  cases h : ss[i]? <;> simp [St.zero]
/-- A number put into an ascending list, once. -/
def ins : List Int → Int → List Int
  | [], p => [p]
  | x :: xs, p => if x < p then x :: ins xs p else if x = p then x :: xs else p :: x :: xs
/-- At which place. -/
def pos : List Int → Int → Nat
  | [], _ => 0
  | x :: xs, p => if x < p then pos xs p + 1 else 0
theorem pos_le : ∀ (L : List Int) (p : Int), pos L p ≤ L.length
  | [], _ => Nat.le_refl _
  | x :: xs, p => by
    rw [pos]
    split
    · have := pos_le xs p; simp; omega
    · simp
theorem pos_lt : ∀ (L : List Int) (p : Int) (i : Nat), i < pos L p → ith L i < p
  | [], _, i, h => by simp [pos] at h
  | x :: xs, p, i, h => by
    rw [pos] at h
    split at h
    · cases i with
      | zero => simpa [ith] using by assumption
      | succ i => have := pos_lt xs p i (by omega); simpa [ith] using this
    · omega
theorem pos_stop : ∀ (L : List Int) (p : Int), pos L p < L.length → ¬ ith L (pos L p) < p
  | [], _, h => by simp at h
  | x :: xs, p, h => by
    rw [pos] at h ⊢
    split
    · rename_i hx
      rw [if_pos hx] at h
      have := pos_stop xs p (by simpa using h)
      simpa [ith] using this
    · rename_i hx
      simp [ith]; omega
theorem pos_of {L : List Int} {p : Int} {k : Nat} (h1 : ∀ i, i < k → ith L i < p) (h2 : k ≤ L.length) (h3 : k < L.length → ¬ ith L k < p) : k = pos L p := by
  rcases Nat.lt_trichotomy k (pos L p) with h | h | h
  · exact absurd (pos_lt L p k h) (h3 (by have := pos_le L p; omega))
  · exact h
  · exact absurd (h1 _ h) (pos_stop L p (by omega))
theorem ins_new : ∀ (L : List Int) (p : Int), (pos L p = L.length ∨ ith L (pos L p) ≠ p) → ins L p = L.take (pos L p) ++ [p] ++ L.drop (pos L p)
  | [], p, _ => by simp [ins, pos]
  | x :: xs, p, h => by
    rw [ins, pos] at *
    by_cases hx : x < p
    · rw [if_pos hx] at *
      rw [if_pos hx, ins_new xs p (by simpa [ith, hx] using h)]
      simp
    · rw [if_neg hx] at *
      rw [if_neg hx]
      have : x ≠ p := by
        rcases h with h | h
        · simp at h
        · simpa [ith] using h
      rw [if_neg this]
      simp
theorem ins_old : ∀ (L : List Int) (p : Int), pos L p < L.length → ith L (pos L p) = p → ins L p = L
  | [], p, h, _ => by simp at h
  | x :: xs, p, h, h2 => by
    rw [ins]
    rw [pos] at h h2
    by_cases hx : x < p
    · rw [if_pos hx] at h h2 ⊢
      rw [ins_old xs p (by simpa using h) (by simpa [ith] using h2)]
    · rw [if_neg hx] at h h2 ⊢
      have : x = p := by simpa [ith] using h2
      rw [if_pos this]
theorem mem_ins (x : Int) : ∀ (L : List Int) (p : Int), x ∈ ins L p ↔ x = p ∨ x ∈ L
  | [], p => by simp [ins]
  | y :: ys, p => by
    rw [ins]
    by_cases hy : y < p
    · rw [if_pos hy]
      simp only [List.mem_cons, mem_ins x ys p]
      constructor
      · rintro (h | h | h) <;> simp [h]
      · rintro (h | h | h) <;> simp [h]
    · rw [if_neg hy]
      by_cases e : y = p
      · rw [if_pos e]
        subst e
        simp
      · rw [if_neg e]
        simp
theorem ins_sorted : ∀ (L : List Int) (p : Int), L.Pairwise (· < ·) → (ins L p).Pairwise (· < ·)
  | [], p, _ => by simp [ins]
  | y :: ys, p, h => by
    obtain ⟨h1, h2⟩ := List.pairwise_cons.1 h
    rw [ins]
    by_cases hy : y < p
    · rw [if_pos hy]
      refine List.pairwise_cons.2 ⟨fun z hz => ?_, ins_sorted ys p h2⟩
      rcases (mem_ins z ys p).1 hz with rfl | hz
      · exact hy
      · exact h1 z hz
    · rw [if_neg hy]
      by_cases e : y = p
      · rw [if_pos e]; exact h
      · rw [if_neg e]
        refine List.pairwise_cons.2 ⟨fun z hz => ?_, h⟩
        rcases List.mem_cons.1 hz with rfl | hz
        · omega
        · have := h1 z hz; omega
theorem ins_len : ∀ (L : List Int) (p : Int), (ins L p).length ≤ L.length + 1
  | [], p => by simp [ins]
  | y :: ys, p => by
    have := ins_len ys p
    rw [ins]
    by_cases hy : y < p
    · rw [if_pos hy]; simp; omega
    · rw [if_neg hy]
      by_cases e : y = p
      · rw [if_pos e]; simp
      · rw [if_neg e]; simp
/-- The parts of the first steps, ascending, each once. -/
def rp (ss : List St) : Nat → List Int
  | 0 => []
  | n + 1 => ins (rp ss n) (pth ss n).part
theorem rp_sorted (ss : List St) : ∀ n, (rp ss n).Pairwise (· < ·)
  | 0 => List.Pairwise.nil
  | n + 1 => ins_sorted _ _ (rp_sorted ss n)
theorem rp_len (ss : List St) : ∀ n, (rp ss n).length ≤ n
  | 0 => Nat.le_refl _
  | n + 1 => by have := rp_len ss n; have := ins_len (rp ss n) (pth ss n).part; rw [rp]; omega
theorem mem_rp (ss : List St) (x : Int) : ∀ n, x ∈ rp ss n ↔ hasI (pl ss) x n = true
  | 0 => by simp [rp, hasI]
  | n + 1 => by
    rw [rp, mem_ins, mem_rp ss x n, hasI_succ, ith_pl]
    constructor
    · rintro (rfl | h)
      · simp
      · simp [h]
    · intro h
      rw [Bool.or_eq_true] at h
      rcases h with h | h
      · exact .inr h
      · exact .inl (by have h2 := eq_of_beq h; exact h2.symm)

theorem addKey_len (L : List Lit) : ∀ xs : List Lit, (xs.foldl addKey L).length ≤ L.length + xs.length := by
  intro xs
  induction xs generalizing L with
  | nil => simp
  | cons x xs ih =>
    have h := ih (addKey L x)
    have h2 : (addKey L x).length ≤ L.length + 1 := by
      unfold addKey
      split
      · omega
      · simp
    simp only [List.foldl_cons, List.length_cons]
    omega
theorem Sd_size (ds : List Int) (n : Nat) : Maps.size (Sd ds n) ≤ n := by
  rw [Sd, size_setOf _ _ (fun y hy => by obtain ⟨_, _, rfl⟩ := List.mem_map.1 hy; trivial)]
  have := addKey_len [] ((List.range n).map fun i => Lit.int .i64 (ith ds i))
  simpa using this

end Go.Proofs.Ytahelconmfldjaa
