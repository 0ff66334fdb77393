import Derived.Test.YtgcfgadkclfonaaGreatDoorJ5
import Derived.Test.YtgcfgadkclfonaaGreatDoorJ16
import Derived.Test.YtgcfgadkclfonaaGreatDoorJ1
import Derived.Test.YtgcfgadkclfonaaGreatDoorJ19
import Derived.Deep.RegionHeld3
import Derived.Test.YtgcfgadkclfonaaGreatDoorJ17
import Derived.Test.YtgcfgadkclfonaaGreatDoorJ18
import Derived.Test.YtgcfgadkclfonaaGreatDoorJ15
namespace Go.Proofs.YtgcfgadkclfonaaGreatDoor
set_option linter.unusedSimpArgs false
set_option linter.unusedVariables false
open Go.RowKit

/-- What an ask costs, as the model counts; so many levels at most. -/
def costM (p : Pt) : Nat → ByteArray → List Se → Nat → Nat
  | 0, _, _, _ => 1
  | _ + 1, _, _, 0 => 1
  | f + 1, nm, ks, n + 1 => costM p (f + 1) nm ks n + (if (fldF p nm (sth ks n).name).list = true then 1 + 3 * costM p f (fldF p nm (sth ks n).name).of (sth ks n).kids (sth ks n).kids.length else costM p f (fldF p nm (sth ks n).name).of (sth ks n).kids (sth ks n).kids.length)
def nthN (M : List Nat) (i : Nat) : Nat := M.getD i 0
/-- One field more, as the program counts: the sum, and how many things there are at each level. -/
def stepC (p : Pt) (st : Nat × List Nat) (y : Way × Se × ByteArray) : Nat × List Nat :=
  (st.1 + (if (fldF p y.2.2 y.2.1.name).list = true then nthN st.2 (y.1.length - 1) else 0) + (if (fldF p y.2.2 y.2.1.name).list = true then nthN st.2 (y.1.length - 1) * 3 else nthN st.2 (y.1.length - 1)),
    st.2.take y.1.length ++ [if (fldF p y.2.2 y.2.1.name).list = true then nthN st.2 (y.1.length - 1) * 3 else nthN st.2 (y.1.length - 1)])
def costF (p : Pt) (st : Nat × List Nat) (l : List (Way × Se × ByteArray)) : Nat × List Nat := l.foldl (stepC p) st
theorem costF_app (p : Pt) (st : Nat × List Nat) (l m : List (Way × Se × ByteArray)) : costF p st (l ++ m) = costF p (costF p st l) m := by simp [costF, List.foldl_append]
theorem nthN_take {A B : List Nat} {i : Nat} (h : A.take (i + 1) = B.take (i + 1)) : nthN A i = nthN B i := by
  have e := congrArg (fun l => l.getD i 0) h
  simpa [nthN, List.getD_eq_getElem?_getD, List.getElem?_take] using e
/-- The program's sum is the model's. -/
theorem cost_walk (p : Pt) : ∀ (f : Nat) (ah : Way) (nm : ByteArray) (ks : List Se) (n : Nat) (T : List ByteArray) (M : List Nat) (c : Nat), n ≤ ks.length → ah.length < T.length → nth T ah.length = nm → ah.length < M.length →
    (costF p (c, M) (askF p T (preTo f ah ks n))).1 + nthN M ah.length = c + nthN M ah.length * costM p f nm ks n ∧ (costF p (c, M) (askF p T (preTo f ah ks n))).2.take (ah.length + 1) = M.take (ah.length + 1) ∧ ah.length < (costF p (c, M) (askF p T (preTo f ah ks n))).2.length
  | 0, ah, nm, ks, n, T, M, c, hn, hl, hT, hM => by simp [preTo, askF, costF, costM, hM]
  | f + 1, ah, nm, ks, 0, T, M, c, hn, hl, hT, hM => by simp [preTo, askF, costF, costM, hM]
  | f + 1, ah, nm, ks, n + 1, T, M, c, hn, hl, hT, hM => by
    obtain ⟨-, h2, h3⟩ := ask_walk p (f + 1) ah nm ks n T (by omega) hl hT
    obtain ⟨g1, g2, g3⟩ := cost_walk p (f + 1) ah nm ks n T M c (by omega) hl hT hM
    rw [preTo_succ, askF_app, costF_app]
    generalize tyF p T (preTo (f + 1) ah ks n) = U at h2 h3 ⊢
    generalize costF p (c, M) (askF p T (preTo (f + 1) ah ks n)) = st at g1 g2 g3 ⊢
    obtain ⟨c1, M1⟩ := st
    simp only at g1 g2 g3
    have hUT : nth U ah.length = nm := by
      have e : U.getD ah.length ByteArray.empty = T.getD ah.length ByteArray.empty := by
        have e2 := congrArg (fun l => l.getD ah.length ByteArray.empty) h2
        simpa [List.getD_eq_getElem?_getD, List.getElem?_take] using e2
      have : nth U ah.length = nth T ah.length := e
      rw [this, hT]
    have hm : nthN M1 ah.length = nthN M ah.length := nthN_take g2
    have hxl : (ah ++ [keyS (sth ks n)]).length = ah.length + 1 := by simp
    have hnm : nth U ((ah ++ [keyS (sth ks n)]).length - 1) = nm := by rw [hxl]; exact hUT
    have hV : tyS p U (ah ++ [keyS (sth ks n)], sth ks n) = U.take (ah.length + 1) ++ [(fldF p nm (sth ks n).name).of] := by
      unfold tyS
      simp only
      rw [hnm, hxl]
    have hVl : (U.take (ah.length + 1) ++ [(fldF p nm (sth ks n).name).of]).length = ah.length + 2 := by simp; omega
    rw [askF, hV]
    simp only
    rw [hnm]
    have hst : ∀ l, costF p (c1, M1) ((ah ++ [keyS (sth ks n)], sth ks n, nm) :: l) = costF p (c1 + (if (fldF p nm (sth ks n).name).list = true then nthN M ah.length else 0) + (if (fldF p nm (sth ks n).name).list = true then nthN M ah.length * 3 else nthN M ah.length), M1.take (ah.length + 1) ++ [if (fldF p nm (sth ks n).name).list = true then nthN M ah.length * 3 else nthN M ah.length]) l := fun l => by
      unfold costF
      rw [List.foldl_cons]
      congr 1
      unfold stepC
      simp only
      rw [hxl, Nat.add_sub_cancel, hm]
    rw [hst]
    generalize hmm : (if (fldF p nm (sth ks n).name).list = true then nthN M ah.length * 3 else nthN M ah.length) = mm
    have hnl : nthN (M1.take (ah.length + 1) ++ [mm]) (ah ++ [keyS (sth ks n)]).length = mm := by
      rw [hxl]
      unfold nthN
      rw [List.getD_eq_getElem?_getD, List.getElem?_append_right (by rw [List.length_take]; omega), List.length_take, Nat.min_eq_left (by omega)]
      simp
    obtain ⟨k1, k2, k3⟩ := cost_walk p f (ah ++ [keyS (sth ks n)]) (fldF p nm (sth ks n).name).of (sth ks n).kids (sth ks n).kids.length (U.take (ah.length + 1) ++ [(fldF p nm (sth ks n).name).of]) (M1.take (ah.length + 1) ++ [mm]) (c1 + (if (fldF p nm (sth ks n).name).list = true then nthN M ah.length else 0) + mm) (Nat.le_refl _) (by rw [hxl, hVl]; omega) (by
      rw [hxl]
      unfold nth
      rw [List.getD_eq_getElem?_getD, List.getElem?_append_right (by rw [List.length_take]; omega), List.length_take, Nat.min_eq_left (by omega)]
      simp) (by rw [hxl]; simp; omega)
    rw [hnl] at k1
    rw [hxl] at k2 k3
    refine ⟨?_, ?_, by omega⟩
    · rw [costM]
      generalize costM p f (fldF p nm (sth ks n).name).of (sth ks n).kids (sth ks n).kids.length = one at k1 ⊢
      generalize costM p (f + 1) nm ks n = A at g1 ⊢
      generalize nthN M ah.length = m at g1 hmm k1 ⊢
      cases hL : (fldF p nm (sth ks n).name).list
      · simp only [hL, Bool.false_eq_true, if_false] at hmm k1 ⊢
        subst hmm
        rw [Nat.mul_add]
        omega
      · simp only [hL, if_true] at hmm k1 ⊢
        subst hmm
        rw [Nat.mul_add, Nat.mul_add, Nat.mul_one, ← Nat.mul_assoc]
        omega
    · have e := congrArg (fun l => l.take (ah.length + 1)) k2
      simp only [List.take_take, Nat.min_eq_left (show ah.length + 1 ≤ ah.length + 1 + 1 by omega)] at e
      rw [e, List.take_append_of_le_length (by simp; omega), List.take_take, Nat.min_self, g2]
/-- At most so many things at a level. -/
def FewT (M : List Nat) : Prop := ∀ i, i ≤ 5 → nthN M i ≤ 3 ^ i
theorem stepC_few (p : Pt) (st : Nat × List Nat) (y : Way × Se × ByteArray) (h1 : 1 ≤ y.1.length) (h5 : y.1.length ≤ 5) (h : FewT st.2) : (stepC p st y).1 ≤ st.1 + 324 ∧ FewT (stepC p st y).2 := by
  obtain ⟨c, M⟩ := st
  simp only at h
  have h0 := h (y.1.length - 1) (by omega)
  have hp : 3 ^ (y.1.length - 1) ≤ 3 ^ 4 := Nat.pow_le_pow_right (by omega) (by omega)
  have hq : 3 ^ y.1.length = 3 ^ (y.1.length - 1) * 3 := by rw [← Nat.pow_succ]; congr 1; omega
  generalize hm : nthN M (y.1.length - 1) = m at h0
  generalize hL : (fldF p y.2.2 y.2.1.name).list = L
  have hr : (if L = true then m * 3 else m) ≤ 3 ^ y.1.length := by split <;> omega
  refine ⟨?_, fun i hi => ?_⟩
  · unfold stepC
    simp only
    rw [hL, hm]
    cases L <;> simp <;> omega
  · unfold stepC
    simp only
    rw [hL, hm]
    unfold nthN
    rw [List.getD_eq_getElem?_getD]
    by_cases hc : i < (M.take y.1.length).length
    · rw [List.getElem?_append_left hc, List.getElem?_take]
      rw [List.length_take] at hc
      rw [if_pos (by omega), ← List.getD_eq_getElem?_getD]
      exact h i hi
    · rw [List.getElem?_append_right (by omega)]
      by_cases hz : i = (M.take y.1.length).length
      · rw [hz, Nat.sub_self]
        simp only [List.getElem?_cons_zero, Option.getD_some]
        rw [List.length_take] at hz ⊢
        by_cases hl : y.1.length ≤ M.length
        · rw [Nat.min_eq_left hl]; exact hr
        · have hm0 : m = 0 := by
            rw [← hm]
            unfold nthN
            rw [List.getD_eq_getElem?_getD, List.getElem?_eq_none (by omega)]
            rfl
          subst hm0
          simp
      · rw [List.getElem?_eq_none (by simp; simp at hc hz; omega)]
        simp
theorem costF_few (p : Pt) : ∀ (l : List (Way × Se × ByteArray)) (st : Nat × List Nat), (∀ y ∈ l, 1 ≤ y.1.length ∧ y.1.length ≤ 5) → FewT st.2 → (costF p st l).1 ≤ st.1 + 324 * l.length ∧ FewT (costF p st l).2
  | [], st, h, hf => ⟨by simp [costF], hf⟩
  | y :: l, st, h, hf => by
    have h0 := stepC_few p st y (h y (by simp)).1 (h y (by simp)).2 hf
    have h1 := costF_few p l (stepC p st y) (fun z hz => h z (by simp [hz])) h0.2
    have e : costF p st (y :: l) = costF p (stepC p st y) l := rfl
    rw [e]
    refine ⟨?_, h1.2⟩
    have := h1.1
    have := h0.1
    simp only [List.length_cons]
    omega
theorem costM_pos (p : Pt) : ∀ (f : Nat) (nm : ByteArray) (ks : List Se) (n : Nat), 1 ≤ costM p f nm ks n
  | 0, _, _, _ => by simp [costM]
  | _ + 1, _, _, 0 => by simp [costM]
  | f + 1, nm, ks, n + 1 => by rw [costM]; have := costM_pos p (f + 1) nm ks n; omega
theorem costM_mono (p : Pt) (f : Nat) (nm : ByteArray) (ks : List Se) (n : Nat) : ∀ m, n ≤ m → costM p (f + 1) nm ks n ≤ costM p (f + 1) nm ks m := fun m h => by
  induction h with
  | refl => exact Nat.le_refl _
  | step h ih => rw [costM]; omega
end Go.Proofs.YtgcfgadkclfonaaGreatDoor

namespace Go.Proofs.YtgcfgadkclfonaaGreatDoor
set_option linter.unusedSimpArgs false
set_option linter.unusedVariables false
open Go.RowKit Go.Shelf Go.Maps

theorem askF_prefix (p : Pt) : ∀ (pre : List (Way × Se × ByteArray)) (XS : List (Way × Se)) (T : List ByteArray) (x : Way × Se × ByteArray), pre ++ [x] <+: askF p T XS → ∃ pre' x', pre' ++ [x'] <+: XS ∧ askF p T pre' = pre ∧ x'.1 = x.1
  | [], [], T, x, h => by simp [askF] at h
  | [], y :: ys, T, x, h => by
    obtain ⟨t, ht⟩ := h
    simp only [askF, List.nil_append, List.singleton_append, List.cons.injEq] at ht
    exact ⟨[], y, ⟨ys, rfl⟩, rfl, by rw [ht.1]⟩
  | a :: pre, [], T, x, h => by simp [askF] at h
  | a :: pre, y :: ys, T, x, h => by
    obtain ⟨t, ht⟩ := h
    simp only [askF, List.cons_append, List.cons.injEq] at ht
    obtain ⟨pre', x', ⟨t', ht'⟩, h2, h3⟩ := askF_prefix p pre ys (tyS p T y) x ⟨t, ht.2⟩
    refine ⟨y :: pre', x', ⟨t', by simp only [List.cons_append, ht']⟩, ?_, h3⟩
    rw [askF, h2, ht.1]
theorem costF_len (p : Pt) : ∀ (xs : List (Way × Se)) (T : List ByteArray) (st : Nat × List Nat), st.2.length = T.length → (costF p st (askF p T xs)).2.length = (tyF p T xs).length
  | [], T, st, h => h
  | y :: ys, T, st, h => by
    have e : costF p st (askF p T (y :: ys)) = costF p (stepC p st (y.1, y.2, nth T (y.1.length - 1))) (askF p (tyS p T y) ys) := rfl
    have e2 : tyF p T (y :: ys) = tyF p (tyS p T y) ys := rfl
    rw [e, e2]
    refine costF_len p ys (tyS p T y) _ ?_
    simp [stepC, tyS, h]
theorem cost_bound (p : Pt) (f : Nat) (ks : List Se) (c : Nat) (pre : List (Way × Se × ByteArray)) (x : Way × Se × ByteArray) (h : pre ++ [x] <+: askF p [qry] (preTo f [] ks ks.length)) : x.1.length ≤ (costF p (c, [1]) pre).2.length ∧ 1 ≤ x.1.length := by
  obtain ⟨pre', x', h1, h2, h3⟩ := askF_prefix p pre _ _ x h
  have := ask_bound p f [] ks _ [qry] pre' x' (Nat.le_refl _) (by simp) h1
  rw [← h2, costF_len p pre' [qry] _ rfl, ← h3]
  exact this
theorem askF_length (p : Pt) : ∀ (xs : List (Way × Se)) (T : List ByteArray), (askF p T xs).length = xs.length
  | [], T => rfl
  | y :: ys, T => by simp [askF, askF_length p ys]
theorem few_one : FewT [1] := fun i hi => by
  rcases i with _ | i
  · simp [nthN]
  · simp [nthN]
/-- The sum is what the model counts. -/
theorem cost_all (p : Pt) (f : Nat) (ks : List Se) : (costF p (1, [1]) (askF p [qry] (preTo f [] ks ks.length))).1 = costM p f qry ks ks.length := by
  obtain ⟨h, -⟩ := cost_walk p f [] qry ks ks.length [qry] [1] 1 (Nat.le_refl _) (by simp) rfl (by simp)
  simp [nthN] at h
  omega
/-- Sums of a part of the walk are small. -/
theorem cost_small (p : Pt) (f : Nat) (ks : List Se) (h5 : ∀ x ∈ preTo f [] ks ks.length, x.1.length ≤ 5) (h24 : (preTo f [] ks ks.length).length ≤ 24) (pre : List (Way × Se × ByteArray)) (h : pre <+: askF p [qry] (preTo f [] ks ks.length)) :
    (costF p (1, [1]) pre).1 ≤ 10000 ∧ FewT (costF p (1, [1]) pre).2 := by
  have hl : pre.length ≤ 24 := by
    have := h.length_le
    rw [askF_length] at this
    omega
  have h1 : ∀ y ∈ pre, 1 ≤ y.1.length ∧ y.1.length ≤ 5 := fun y hy => by
    obtain ⟨s, t, rfl⟩ := List.append_of_mem hy
    have hp : s ++ [y] <+: askF p [qry] (preTo f [] ks ks.length) := List.IsPrefix.trans ⟨t, by simp⟩ h
    refine ⟨(cost_bound p f ks 1 s y hp).2, ?_⟩
    obtain ⟨x, hx, e⟩ := askF_mem p _ _ y (h.subset hy)
    rw [← e]
    exact h5 x hx
  obtain ⟨g1, g2⟩ := costF_few p pre (1, [1]) h1 few_one
  exact ⟨by omega, g2⟩
theorem few_le {M : List Nat} (h : FewT M) (i : Nat) (hi : i ≤ 5) : nthN M i ≤ 243 := Nat.le_trans (h i hi) (Nat.le_trans (Nat.pow_le_pow_right (by omega) hi) (by decide))

/-- Whole numbers as a list's cells. -/
def intsV (M : List Nat) : List Value := M.map fun (n : Nat) => Value.int .i64 (n : Int)
theorem intsV_len (M : List Nat) : (intsV M).length = M.length := by simp [intsV]
/-- What the rounds of AskCost know. -/
structure ICs (p : Pt) (w : World) (cb tb : Nat) (pre : List (Way × Se × ByteArray)) (O : Nat → Prop) (tv : Value) (A : World) : Prop where
  cst : A.heap[cb]? = some (.cells #[.int .i64 ((costF p (1, [1]) pre).1 : Int)] 3 (0, 0))
  thg : A.heap[tb]? = some (.cells #[tv] 78 (0, 0))
  row : A.ownsRow w.heap.size 3 1 tv (costF p (1, [1]) pre).2.length (intsV (costF p (1, [1]) pre).2)
  nb : tv.ownBlock ≠ some cb ∧ tv.ownBlock ≠ some tb
  bel : Below w.heap.size w A
  own : ∀ b, O b ↔ b = cb ∨ b = tb ∨ tv.ownBlock = some b
theorem ICs.looks (p : Pt) (w : World) (cb tb Y : Nat) (hY : w.heap.size ≤ Y) (pre : List (Way × Se × ByteArray)) (O : Nat → Prop) : LooksAt Y O (fun A => ∃ tv, ICs p w cb tb pre O tv A) := by
  rintro A B ⟨tv, h⟩ h1 h2 h3 h4 h5
  exact ⟨tv, (h5 _ (Array.getElem?_eq_some_iff.1 h.cst).1 (Or.inr ((h.own _).2 (Or.inl rfl)))).trans h.cst, (h5 _ (Array.getElem?_eq_some_iff.1 h.thg).1 (Or.inr ((h.own _).2 (Or.inr (Or.inl rfl))))).trans h.thg, owns_at h.row fun k hk => h5 k (h.row.lt k hk).2 (Or.inr ((h.own k).2 (Or.inr (Or.inr hk)))), h.nb, ⟨h2.trans h.bel.os, h3.trans h.bel.tape, h4.trans h.bel.output, Nat.le_trans h.bel.size h1, fun b hb => (h5 b (Nat.lt_of_lt_of_le hb h.bel.size) (Or.inl (by omega))).trans (h.bel.block b hb)⟩, h.own⟩
theorem ICs.cells {p : Pt} {w : World} {cb tb : Nat} {pre : List (Way × Se × ByteArray)} {O : Nat → Prop} {tv : Value} {A : World} (h : ICs p w cb tb pre O tv A) : CellsIn O A := fun b hb => by
  rcases (h.own b).1 hb with rfl | rfl | hb
  · exact ⟨_, h.cst, rfl⟩
  · exact ⟨_, h.thg, rfl⟩
  · exact owns_cells h.row hb
/-- Behind a round. -/
theorem ICs.turn {p : Pt} {w : World} {cb tb : Nat} {pre : List (Way × Se × ByteArray)} {O : Nat → Prop} {tv tv' : Value} {A W2 : World} {x : Way × Se × ByteArray} (h : ICs p w cb tb pre O tv A) (hcb : w.heap.size ≤ cb) (htb : w.heap.size ≤ tb) (hct : cb ≠ tb)
    (hsz : A.heap.size ≤ W2.heap.size) (hos : W2.os = A.os ∧ W2.tape = A.tape ∧ W2.output = A.output) (hbl : ∀ b, b < A.heap.size → b ≠ cb → tv.ownBlock ≠ some b → W2.heap[b]? = A.heap[b]?)
    (hc : W2.heap[cb]? = some (.cells #[.int .i64 ((costF p (1, [1]) (pre ++ [x])).1 : Int)] 3 (0, 0)))
    (hown : W2.ownsRow w.heap.size 3 1 tv' (costF p (1, [1]) (pre ++ [x])).2.length (intsV (costF p (1, [1]) (pre ++ [x])).2)) (hat : tv'.ownBlock = tv.ownBlock ∨ ∃ g, tv'.ownBlock = some g ∧ A.heap.size ≤ g) :
    Told (fun pre O A => ∃ tv, ICs p w cb tb pre O tv A) (fun _ => False) O pre x A true (W2.setCell ⟨tb, 0, none⟩ tv') ∧ KeepsOthers A (W2.setCell ⟨tb, 0, none⟩ tv') := by
  have lcb := (Array.getElem?_eq_some_iff.1 h.cst).1
  have ltb := (Array.getElem?_eq_some_iff.1 h.thg).1
  have hset : ∀ b, b ≠ tb → (W2.setCell ⟨tb, 0, none⟩ tv').heap[b]? = W2.heap[b]? := fun b hb => Below.heap_setCell _ _ _ _ hb
  have hz : (W2.setCell ⟨tb, 0, none⟩ tv').heap.size = W2.heap.size := size_set _ _ _
  have htb2 : (W2.setCell ⟨tb, 0, none⟩ tv').heap[tb]? = some (.cells #[tv'] 78 (0, 0)) := by
    rw [set_box ((hbl tb ltb (Ne.symm hct) h.nb.2).trans h.thg)]
    rfl
  have hn : ∀ k, k < A.heap.size → tv.ownBlock ≠ some k → tv'.ownBlock ≠ some k := fun k hk h1 e => by
    rcases hat with e2 | ⟨g, e2, hg⟩
    · exact h1 (e2 ▸ e)
    · rw [e2] at e; simp at e; omega
  have hblk : ∀ b, b < A.heap.size → b ≠ cb → b ≠ tb → tv.ownBlock ≠ some b → (W2.setCell ⟨tb, 0, none⟩ tv').heap[b]? = A.heap[b]? := fun b h1 h2 h3 h4 => (hset b h3).trans (hbl b h1 h2 h4)
  refine ⟨Or.inl ⟨rfl, fun b => b = cb ∨ b = tb ∨ tv'.ownBlock = some b, ⟨tv', (hset cb hct).trans hc, htb2, owns_at hown fun k hk => hset k fun e => hn tb ltb h.nb.2 (e ▸ hk), ⟨hn cb lcb h.nb.1, hn tb ltb h.nb.2⟩, ?_, fun b => Iff.rfl⟩, ⟨by omega, fun b o hb ho _ => ?_⟩, fun b hb => ?_⟩, ⟨by omega, fun k o hko ho => ?_⟩⟩
  · refine ⟨hos.1.trans h.bel.os, hos.2.1.trans h.bel.tape, hos.2.2.trans h.bel.output, by have := h.bel.size; omega, fun b hb => ?_⟩
    have := h.bel.size
    exact (hblk b (by omega) (by omega) (by omega) (fun e => by have := (h.row.lt b e).1; omega)).trans (h.bel.block b hb)
  · have hlt := (Array.getElem?_eq_some_iff.1 ho).1
    exact (hblk b hlt (fun e => hb ((h.own b).2 (Or.inl e))) (fun e => hb ((h.own b).2 (Or.inr (Or.inl e)))) (fun e => hb ((h.own b).2 (Or.inr (Or.inr e))))).trans ho
  · rcases hb with rfl | rfl | hb
    · exact Or.inl ((h.own _).2 (Or.inl rfl))
    · exact Or.inl ((h.own _).2 (Or.inr (Or.inl rfl)))
    · rcases hat with e2 | ⟨g, e2, hg⟩
      · exact Or.inl ((h.own _).2 (Or.inr (Or.inr (e2 ▸ hb))))
      · rw [e2] at hb
        simp only [Option.some.injEq] at hb
        exact Or.inr (by omega)
  · refine (hblk k (Array.getElem?_eq_some_iff.1 hko).1 (fun e => ?_) (fun e => ?_) (fun e => ?_)).trans hko
    · rw [e, h.cst] at hko; cases hko; cases ho
    · rw [e, h.thg] at hko; cases hko; cases ho
    · obtain ⟨o2, h1, h2⟩ := owns_cells h.row e
      rw [hko] at h1; cases h1; rw [ho] at h2; cases h2
end Go.Proofs.YtgcfgadkclfonaaGreatDoor

namespace Go.Proofs.YtgcfgadkclfonaaGreatDoor
set_option linter.unusedSimpArgs false
set_option linter.unusedVariables false
open Go.RowKit Go.Shelf Go.Maps

theorem fault_code (a c : Value) (w : World) : Sem.run Tryz.prog (Instr.field 30 (.agg #[a, c]) 1) w = .ok c w := by
  simp [Instr.field, Tryz.underlying30, asAgg, go_sem]
attribute [local go_sem] Oper.semAt_some fault_code

/-- What an ask of a part costs, if it fits. -/
def askCost (f : Nat) (p : Pt) (ks : List Se) : Nat := if codeO (askChk f p ks) = 0 then costM p f qry ks ks.length else 0
theorem askChk_zero {f : Nat} {p : Pt} {ks : List Se} (h : codeO (askChk f p ks) = 0) : okP p = true ∧ askOk f ks = true := by
  unfold askChk at h
  split at h
  · assumption
  · simp [codeO] at h
theorem askOk_few {f : Nat} {ks : List Se} (hf : FitS f ks) (h : askOk f ks = true) : (∀ x ∈ preTo f [] ks ks.length, x.1.length ≤ 5) ∧ (preTo f [] ks ks.length).length ≤ 24 := by
  have hq : askB f ks = true := by
    simp only [askOk, Bool.and_eq_true] at h
    exact h.1
  have := askB_walk f ks hf
  rw [hq] at this
  have h2 : walkB [] (preTo f [] ks ks.length) = true := by
    cases hw : walkB [] (preTo f [] ks ks.length)
    · rw [hw] at this; simp at this
    · rfl
  have h3 := (walkB_all _ []).1 h2
  refine ⟨fun x hx => (h3.1 x hx).1, ?_⟩
  by_cases he : preTo f [] ks ks.length = []
  · rw [he]; simp
  · have := h3.2.1 he
    simpa using this
theorem askCost_small {f : Nat} {p : Pt} {ks : List Se} (hf : FitS f ks) (h : codeO (askChk f p ks) = 0) : costM p f qry ks ks.length ≤ 10000 := by
  obtain ⟨h5, h24⟩ := askOk_few hf (askChk_zero h).2
  rw [← cost_all]
  exact (cost_small p f ks h5 h24 _ (List.prefix_refl _)).1
theorem Told.goes {α : Type} {I : List α → (Nat → Prop) → World → Prop} {Ix : World → Prop} {O : Nat → Prop} {pre : List α} {x : α} {A B : World} (h : Told I Ix O pre x A true B) : ∃ O', I (pre ++ [x]) O' B ∧ KeepO O A B ∧ ∀ b, O' b → O b ∨ A.heap.size ≤ b := by
  rcases h with ⟨-, h⟩ | ⟨h, -⟩
  · exact h
  · cases h
theorem nth_ints (M : List Nat) (k : Nat) (h : k < M.length) : (intsV M)[k]? = some (.int .i64 (nthN M k : Int)) := by
  simp [intsV, nthN, List.getD_eq_getElem?_getD, h]

set_option maxRecDepth 20000 in
set_option maxHeartbeats 1600000 in
theorem AskCostI_any (f : Nat) (p : Pt) (ks : List Se) (P : Nat → Prop) (B : Nat) (ka : Option Addr) (kc : Nat) (v : Value) (w : World) (h : AskIn f ks P B ka w) (hP : PRep w (· < w.heap.size) p v) (hz : szP p ≤ 1048576) :
    Calls Tryz.prog 20 #[v, .slice ka ks.length kc] w fun e w' => e = .returned (.int .i64 (askCost f p ks : Nat)) ∧ Below w.heap.size w w' := by
  have hP' := hP
  obtain ⟨ta, tc, rfl, -, -, -⟩ := hP
  obtain ⟨i3, hi3, hy0, hy1, hy2⟩ := info_parts info3
  have bX := below_box w (.cells #[.string p.name, .slice ta p.types.length tc] 34)
  have zX : (w.alloc (.cells #[.string p.name, .slice ta p.types.length tc] 34)).heap.size = w.heap.size + 1 := by simp
  have nX := heap_alloc_new w (.cells #[.string p.name, .slice ta p.types.length tc] 34)
  have HC := hid_of (fun W (hW : Below w.heap.size w W) => AskCheckI_any f p ks P B ka kc _ W (h.on hW) ((hP'.under hW).sub fun b hb => Nat.lt_of_lt_of_le hb hW.size) hz)
  obtain ⟨code, hcode⟩ : ∃ code, code = codeO (askChk f p ks) := ⟨_, rfl⟩
  have HC : Hid (∀ W, Below w.heap.size w W → Calls Tryz.prog 11 #[.agg #[.string p.name, .slice ta p.types.length tc], .slice ka ks.length kc] W fun e w' => ∃ a n c, e = .returned (.agg #[.slice a n c, .int .i64 code]) ∧ Below W.heap.size W w') := hid_of fun W hW => (HC.out W hW).mono fun e w' h => by
    obtain ⟨a, c, h1, -, h3⟩ := h
    exact ⟨a, _, c, by rw [h1, hcode], h3⟩
  by_cases hc0 : code = 0
  case neg =>
    have HE : Hid (askCost f p ks = 0) := hid_of (by rw [askCost, ← hcode, if_neg hc0])
    have hcb : (code == 0) = false := by simpa using hc0
    have hcn : (code != 0) = true := by simpa using hc0
    clear hcode nX
    refine (callsIn_wide (n := 3)).1 ?_
    refine callsIn_of_wp_marks Tryz.func20 rfl trivial ?_ rfl
    simp only [Tryz.ntmps20, List.size_toArray, List.length_cons, List.length_nil, Nat.reduceAdd, Nat.reduceSub, Array.replicate_succ, Array.replicate_zero, List.push_toArray, List.append_toArray, List.nil_append, List.cons_append]
    gi_wp2_with (refine ⟨trivial, ?_⟩; gi_at_call 11; refine (callsIn_wide.2 (HC.out _ bX)).mono ?_; rintro e w1 ⟨a1, n1, c1, rfl, hb1⟩; have b01 := bX.trans (hb1.mono (by omega)))
    refine ⟨.int .i64 0, by simp [results, Tryz.results20, go_sem], ?_⟩
    rw [HE.out]
    exact ⟨rfl, b01⟩
  subst hc0
  obtain ⟨h5, h24⟩ := askOk_few h.fit (askChk_zero hcode.symm).2
  obtain ⟨XS, hXS⟩ : ∃ XS, XS = preTo f [] ks ks.length := ⟨_, rfl⟩
  obtain ⟨AS, hAS⟩ : ∃ AS, AS = askF p [qry] XS := ⟨_, rfl⟩
  have HE : Hid (askCost f p ks = (costF p (1, [1]) AS).1) := hid_of (by rw [askCost, ← hcode, if_pos rfl, hAS, hXS, cost_all])
  have HSM : Hid (∀ pre, pre <+: AS → (costF p (1, [1]) pre).1 ≤ 10000 ∧ FewT (costF p (1, [1]) pre).2) := hid_of fun pre hp => cost_small p f ks h5 h24 pre (by rw [← hXS, ← hAS]; exact hp)
  have HBD : Hid (∀ pre x, pre ++ [x] <+: AS → x.1.length ≤ (costF p (1, [1]) pre).2.length ∧ 1 ≤ x.1.length ∧ x.1.length ≤ 5) := hid_of fun pre x hp => by
    obtain ⟨g1, g2⟩ := cost_bound p f ks 1 pre x (by rw [← hXS, ← hAS]; exact hp)
    refine ⟨g1, g2, ?_⟩
    obtain ⟨y, hy, e⟩ := askF_mem p XS [qry] x (by rw [← hAS]; exact hp.subset (by simp))
    rw [← e]
    exact h5 y (hXS ▸ hy)
  rw [← hXS] at h5
  have HAS := hid_of (And.intro hAS hXS)
  clear hAS hXS hcode h24
  have HXP : Hid (∀ W', Below (w.heap.size + 1) (w.alloc (.cells #[.string p.name, .slice ta p.types.length tc] 34)) W' → W'.cell? ⟨w.heap.size, 0, none⟩ = some (.string p.name) ∧ W'.cell? ⟨w.heap.size, 1, none⟩ = some (.slice ta p.types.length tc)) := hid_of fun W' hW => by
    have hp := (hW.block _ (by omega)).trans nX
    exact ⟨(box_at hp 0 (by simp)).1, (box_at hp 1 (by simp)).1⟩
  clear nX
  refine (callsIn_wide (n := 3)).1 ?_
  refine callsIn_of_wp_marks Tryz.func20 rfl trivial ?_ rfl
  simp only [Tryz.ntmps20, List.size_toArray, List.length_cons, List.length_nil, Nat.reduceAdd, Nat.reduceSub, Array.replicate_succ, Array.replicate_zero, List.push_toArray, List.append_toArray, List.nil_append, List.cons_append]
  gi_wp2_with (first
    | (
      refine ⟨trivial, ?_⟩
      gi_at_call 11
      refine (callsIn_wide.2 (HC.out _ bX)).mono ?_
      rintro e w1 ⟨a1, n1, c1, rfl, hb1⟩
      have b01 := bX.trans (hb1.mono (by omega))
      have hb1' : Below (w.heap.size + 1) (w.alloc (.cells #[.string p.name, .slice ta p.types.length tc] 34)) w1 := by rw [zX] at hb1; exact hb1
      have xa := fun o1 o2 o3 => (HXP.out (((w1.alloc o1).alloc o2).alloc o3) (hb1'.trans (((below_box2 w1 o1 o2).trans ((below_box _ o3).mono (by simp <;> omega))).mono (by have := hb1'.size; omega)))).1
      have xb := fun o1 o2 o3 => (HXP.out (((w1.alloc o1).alloc o2).alloc o3) (hb1'.trans (((below_box2 w1 o1 o2).trans ((below_box _ o3).mono (by simp <;> omega))).mono (by have := hb1'.size; omega)))).2)
    | (refine ⟨trivial, ?_⟩; gi_at_call 35; refine (callsIn_wide.2 (askedOf_any _ _ _ ka ks.length kc)).mono ?_; rintro e w' ⟨rfl, rfl⟩))
  obtain ⟨Y, hY⟩ : ∃ Y, Y = ((((w1.alloc (.cells #[.int .i64 1] 3)).alloc (.cells #[.int .i64 1] 3)).alloc (.cells #[.slice (some ⟨w1.heap.size + 1, 0, none⟩) 1 1] 78)).alloc (.cells #[.string p.name, .slice ta p.types.length tc] 34)).alloc (.cells #[.slice ka ks.length kc] 36) := ⟨_, rfl⟩
  have zY : Y.heap.size = w1.heap.size + 5 := by rw [hY]; simp
  have z1 := b01.size
  have bY : Below w1.heap.size w1 Y := by rw [hY]; exact (((((Below.refl _ _).alloc (Nat.le_refl _) _).alloc (by simp) _).alloc (by simp <;> omega) _).alloc (by simp <;> omega) _).alloc (by simp <;> omega) _
  have cY : Y.heap[w1.heap.size]? = some (.cells #[.int .i64 1] 3 (0, 0)) := by
    rw [hY, (below_box _ _).block _ (by simp <;> omega), (below_box _ _).block _ (by simp <;> omega), (below_box _ _).block _ (by simp <;> omega), (below_box _ _).block _ (by simp)]
    exact block_new _ _ rfl
  have lY : Y.heap[w1.heap.size + 1]? = some (.cells #[.int .i64 1] 3 (0, 0)) := by
    rw [hY, (below_box _ _).block _ (by simp <;> omega), (below_box _ _).block _ (by simp <;> omega), (below_box _ _).block _ (by simp)]
    exact block_new _ _ (by simp)
  have tY : Y.heap[w1.heap.size + 1 + 1]? = some (.cells #[.slice (some ⟨w1.heap.size + 1, 0, none⟩) 1 1] 78 (0, 0)) := by
    rw [hY, (below_box _ _).block _ (by simp <;> omega), (below_box _ _).block _ (by simp)]
    exact block_new _ _ (by simp)
  have pY : Y.heap[w1.heap.size + 1 + 1 + 1]? = some (.cells #[.string p.name, .slice ta p.types.length tc] 34 (0, 0)) := by
    rw [hY, (below_box _ _).block _ (by simp)]
    exact block_new _ _ (by simp)
  have sY : Y.heap[w1.heap.size + 1 + 1 + 1 + 1]? = some (.cells #[.slice ka ks.length kc] 36 (0, 0)) := by
    rw [hY]
    exact block_new _ _ (by simp)
  have bwY := b01.trans (bY.mono b01.size)
  rw [← hY]
  clear hY HC xa xb hb1 hb1' HXP
  refine range_stop2 (w := Y) rfl (by omega) (gf := 61) (lb := #[.pointer (some ⟨w1.heap.size + 1 + 1 + 1 + 1, 0, none⟩), .pointer (some ⟨w1.heap.size + 1 + 1 + 1, 0, none⟩)]) rfl trivial (enters_of Tryz.func61 (by kernel_rfl) rfl)
    AS (fun pre O x ar A => ArgA w.heap.size O p x ar A ∧ pre ++ [x] <+: AS) ?ps (fun pre O A => ∃ tv, ICs p w w1.heap.size (w1.heap.size + 1 + 1) pre O tv A) ?looks ?cells (fun _ => False) ?xstill
    (fun b => b = w1.heap.size ∨ b = w1.heap.size + 1 + 1 ∨ b = w1.heap.size + 1) ?start ?seq
    (fun pre O x ar a' A => ∃ (g wc : Nat) (sa : Option Addr) (sc : Nat) (na : Option Addr) (nc sx : Nat), pre ++ [x] <+: AS ∧ a' = { tmps := #[.agg #[.string p.name, .slice ta p.types.length tc], .slice ka ks.length kc, .pointer (some ⟨w.heap.size, 0, none⟩), undef, .int .i64 0, .pointer (some ⟨w1.heap.size, 0, none⟩), .pointer (some ⟨w1.heap.size + 1 + 1, 0, none⟩), .slice (some ⟨g, 0, none⟩) x.1.length wc, .pointer (some ⟨sx, 0, none⟩), undef, undef, .agg #[.string p.name, .slice ta p.types.length tc], .slice ka ks.length kc, .agg #[.slice a1 n1 c1, .int .i64 0], .int .i64 0, .bool false, .slice (some ⟨w1.heap.size + 1, 0, none⟩) 1 1, .agg #[.string p.name, .slice ta p.types.length tc], .slice ka ks.length kc, .func (.func 61) #[] #[.pointer (some ⟨w1.heap.size + 1 + 1 + 1 + 1, 0, none⟩), .pointer (some ⟨w1.heap.size + 1 + 1 + 1, 0, none⟩)], .slice (some ⟨g, 0, none⟩) x.1.length wc, .agg #[.string x.2.1.al, .string x.2.1.name, .bool x.2.1.one, .int .i64 x.2.1.id, .slice sa x.2.1.kids.length sc, .string x.2.2, .string (fldF p x.2.2 x.2.1.name).name, .string (fldF p x.2.2 x.2.1.name).of, .bool (fldF p x.2.2 x.2.1.name).list, .bool (fldF p x.2.2 x.2.1.name).must, .bool (fldF p x.2.2 x.2.1.name).far, .bool (fldF p x.2.2 x.2.1.name).hidden, .bool (fldF p x.2.2 x.2.1.name).shared, .slice na (fldF p x.2.2 x.2.1.name).needs.length nc, .bool (fldB p x.2.2 x.2.1.name && !(fldF p x.2.2 x.2.1.name).hidden)], undef, undef, undef, undef, undef, undef, undef, undef, undef, undef, undef, undef, undef, undef, undef, undef, undef, undef, undef, undef, undef, undef, undef, undef, undef], defers := [] } ∧ A.heap[sx]? = some (.cells #[.string x.2.1.al, .string x.2.1.name, .bool x.2.1.one, .int .i64 x.2.1.id, .slice sa x.2.1.kids.length sc, .string x.2.2, .string (fldF p x.2.2 x.2.1.name).name, .string (fldF p x.2.2 x.2.1.name).of, .bool (fldF p x.2.2 x.2.1.name).list, .bool (fldF p x.2.2 x.2.1.name).must, .bool (fldF p x.2.2 x.2.1.name).far, .bool (fldF p x.2.2 x.2.1.name).hidden, .bool (fldF p x.2.2 x.2.1.name).shared, .slice na (fldF p x.2.2 x.2.1.name).needs.length nc, .bool (fldB p x.2.2 x.2.1.name && !(fldF p x.2.2 x.2.1.name).hidden)] 71 (0, 0))) ?astill ?assign ?body ?done ?stop
  case ps =>
    rintro pre O x ar A ⟨⟨g, wc, sa, sc, na, nc, rfl, -⟩, -⟩
    rfl
  case looks => exact fun pre O => ICs.looks p w _ _ _ (by omega) pre O
  case cells =>
    rintro pre O A ⟨tv, h⟩
    exact h.cells
  case xstill => exact fun A l o o' h _ _ _ => h
  case start =>
    refine ⟨.slice (some ⟨w1.heap.size + 1, 0, none⟩) 1 1, cY, tY, ⟨rfl, Or.inr ⟨w1.heap.size + 1, 1, _, rfl, by omega, lY, by simp [costF], by unfold maxLen; omega, rfl, rfl⟩⟩, ⟨by simp [Value.ownBlock], by simp [Value.ownBlock]⟩, bwY, fun b => by simp [Value.ownBlock, eq_comm]⟩
  case seq =>
    intro l J Jx W hb hJl hXs hJc hy h0
    have hbW := bwY.trans (hb.mono bwY.size)
    have zW := hb.size
    have := askedOf1_any p (.string p.name) (.slice ta p.types.length tc) f ks l J Jx w.heap.size (3 - 1) _ W ka kc (w1.heap.size + 1 + 1 + 1 + 1) (w1.heap.size + 1 + 1 + 1) hJl hXs hJc (fun n pre O x ar A hJ hp hA => yieldAt_wide (hy pre O x ar A hJ ⟨hA, by rw [HAS.out.1, HAS.out.2]; exact hp⟩)) h.fit h.small ((h.on hbW).rep.sub fun b hb => by have := (h.apart b hb).1; have := h.le; show b < _; omega) (hP'.under hbW) hbW.size h.few (by rw [← HAS.out.2]; exact h5) h0 (by rintro b (rfl | rfl | rfl) <;> omega) ((hb.cell (p := ⟨w1.heap.size + 1 + 1 + 1 + 1, 0, none⟩) (by show w1.heap.size + 1 + 1 + 1 + 1 < _; omega)).trans (box_at sY 0 (by simp)).1) ((hb.cell (p := ⟨w1.heap.size + 1 + 1 + 1, 0, none⟩) (by show w1.heap.size + 1 + 1 + 1 < _; omega)).trans (box_at pY 0 (by simp)).1) ((hb.cell (p := ⟨w1.heap.size + 1 + 1 + 1, 1, none⟩) (by show w1.heap.size + 1 + 1 + 1 < _; omega)).trans (box_at pY 1 (by simp)).1)
    rw [← HAS.out.2, ← HAS.out.1] at this
    exact this
  case astill =>
    rintro pre O x ar a' A l o o' ⟨g, wc, sa, sc, na, nc, sx, h1, h2, h4⟩ hl ho1 ho2
    exact ⟨g, wc, sa, sc, na, nc, sx, h1, h2, still_cells ho1 ho2 h4⟩
  case assign =>
    rintro l pre O x ar A K ⟨⟨g, wc, sa, sc, na, nc, rfl, h3, h4, h6, h7, h8, h9, h10, -⟩, hp⟩ hK
    have HK := hid_of hK
    clear hK
    unfold askedV
    gi_wp2
    refine HK.out _ _ (below_box A _) ⟨g, wc, sa, sc, na, nc, A.heap.size, hp, rfl, block_new _ _ rfl⟩
  case done =>
    rintro D O W hD ⟨tv, h2⟩ hK
    have HH := hid_of h2
    obtain ⟨r0, f0⟩ := box_at h2.cst 0 (by simp)
    simp only [List.getElem_toArray, List.getElem_cons_zero] at r0
    clear h2
    gi_wp2
    refine ⟨by simp, .inl ⟨_, _, rfl, run_takeDeferred hK, .int .i64 ((costF p (1, [1]) AS).1 : Int), by simp [results, Tryz.results20, go_sem], ?_⟩⟩
    rw [HE.out]
    exact ⟨rfl, HH.out.bel.trans (below_putObj _ _ (by omega))⟩
  case stop =>
    rintro D W hD h1 hK
    exact h1.elim
  case body =>
    rintro l pre O x ar a' A ⟨tv, h2⟩ ⟨g, wc, sa, sc, na, nc, sx, hp, rfl, h9⟩
    clear zY
    have d8 := (box_at h9 8 (by simp)).1
    simp only [List.getElem_toArray, List.getElem_cons_zero, List.getElem_cons_succ] at d8
    obtain ⟨hb1, hb2, hb5⟩ := HBD.out pre x hp
    obtain ⟨hs1, hs2⟩ := HSM.out pre (List.IsPrefix.trans ⟨[x], rfl⟩ hp)
    obtain ⟨k, hk⟩ : ∃ k, x.1.length = k + 1 := ⟨x.1.length - 1, by omega⟩
    obtain ⟨C, hC⟩ : ∃ C, C = (costF p (1, [1]) pre).1 := ⟨_, rfl⟩
    obtain ⟨M, hM⟩ : ∃ M, M = (costF p (1, [1]) pre).2 := ⟨_, rfl⟩
    obtain ⟨m, hm⟩ : ∃ m, m = nthN M k := ⟨_, rfl⟩
    have hm243 : m ≤ 243 := by rw [hm]; exact few_le (hM ▸ hs2) k (by omega)
    obtain ⟨gl, hgl⟩ : ∃ gl, gl = (fldF p x.2.2 x.2.1.name).list := ⟨_, rfl⟩
    have HNX : Hid (costF p (1, [1]) (pre ++ [x]) = (C + (if gl = true then m else 0) + (if gl = true then m * 3 else m), M.take (k + 1) ++ [if gl = true then m * 3 else m])) := hid_of (by
      rw [costF_app]
      show stepC p (costF p (1, [1]) pre) x = _
      unfold stepC
      rw [hk, Nat.add_sub_cancel, ← hM, ← hC, ← hm, ← hgl])
    have hrow := h2.row
    have hcst := h2.cst
    rw [← hM] at hrow hb1
    rw [← hC] at hcst hs1
    obtain ⟨tg, tcap, rfl, htc⟩ : ∃ tg tcap, tv = .slice (some ⟨tg, 0, none⟩) M.length tcap ∧ M.length ≤ tcap := by
      rcases hrow.2 with ⟨-, h0⟩ | ⟨g', cap', cur, e, -, -, hn, -⟩
      · omega
      · exact ⟨g', cap', e, hn⟩
    have hkT : k < M.length := by omega
    have hol := hrow.lt tg rfl
    have lcb := (Array.getElem?_eq_some_iff.1 hcst).1
    have ltb := (Array.getElem?_eq_some_iff.1 h2.thg).1
    have hg1 : tg ≠ w1.heap.size := fun e => h2.nb.1 (by rw [e]; rfl)
    have hg2 : tg ≠ w1.heap.size + 1 + 1 := fun e => h2.nb.2 (by rw [e]; rfl)
    have ce : A.cell? ⟨tg, k, none⟩ = some (.int .i64 (m : Int)) := by
      rw [hrow.cellAt k (by omega), hm]
      exact nth_ints M k hkT
    obtain ⟨r0, f0⟩ := box_at hcst 0 (by simp)
    have t0 := (box_at h2.thg 0 (by simp)).1
    simp only [List.getElem_toArray, List.getElem_cons_zero] at r0 t0
    have HA1 : Hid (∀ V, (A.setCell ⟨w1.heap.size, 0, none⟩ V).heap[w1.heap.size]? = some (.cells #[V] 3 (0, 0)) ∧ ∀ b, b ≠ w1.heap.size → (A.setCell ⟨w1.heap.size, 0, none⟩ V).heap[b]? = A.heap[b]?) := hid_of fun V => ⟨by rw [set_box hcst]; rfl, fun b hb => Below.heap_setCell _ _ _ _ hb⟩
    have HA2 : Hid (∀ V V', ((A.setCell ⟨w1.heap.size, 0, none⟩ V).setCell ⟨w1.heap.size, 0, none⟩ V').heap[w1.heap.size]? = some (.cells #[V'] 3 (0, 0)) ∧ ∀ b, b ≠ w1.heap.size → ((A.setCell ⟨w1.heap.size, 0, none⟩ V).setCell ⟨w1.heap.size, 0, none⟩ V').heap[b]? = A.heap[b]?) := hid_of fun V V' => ⟨by rw [set_box (HA1.out V).1]; rfl, fun b hb => (Below.heap_setCell _ _ _ _ hb).trans ((HA1.out V).2 b hb)⟩
    have HROW := hid_of (owns_take hrow (show k + 1 ≤ M.length by omega))
    have HH := hid_of h2
    have HP := hid_of hp
    have hki : ((k + 1 : Nat) : Int) - 1 = (k : Int) := by omega
    have hkTi : (k : Int) < (M.length : Int) := by omega
    have hwr : IntKind.i64.wrap (k : Int) = (k : Int) := IntWalk.i64_in _ (by omega)
    have hwr1 : IntKind.i64.wrap ((k + 1 : Nat) : Int) = ((k + 1 : Nat) : Int) := IntWalk.i64_in _ (by omega)
    have hk0i : (0 : Int) ≤ (k : Int) := by omega
    have hk0j : (0 : Int) ≤ (k : Int) + 1 := by omega
    have hkcj : (k : Int) + 1 ≤ (tcap : Int) := by omega
    have hcne : (tcap = 0) = False := by simp; omega
    have hkci : ((k + 1 : Nat) : Int) ≤ (tcap : Int) := by omega
    have HK := hid_of hk
    have HCM := hid_of (And.intro hC hM)
    rw [← hgl] at d8
    rw [hk]
    have hFIN : Hid (∀ (W1 W2 : World) (v' : Value), A.heap.size ≤ W1.heap.size → W1.os = A.os ∧ W1.tape = A.tape ∧ W1.output = A.output → (∀ b, b < A.heap.size → b ≠ w1.heap.size → W1.heap[b]? = A.heap[b]?) → W1.heap[w1.heap.size]? = some (.cells #[.int .i64 ((C + (if gl = true then m else 0) + (if gl = true then m * 3 else m) : Nat) : Int)] 3 (0, 0)) →
        W2.ownsRow w.heap.size 3 1 v' (k + 1 + 1) (intsV (M.take (k + 1)) ++ [.int .i64 (((if gl = true then m * 3 else m) : Nat) : Int)]) → W1.grownBy W2 (some tg) → (v'.ownBlock = some tg ∨ v'.ownBlock = some W1.heap.size) →
        W2.heap[w1.heap.size + 1 + 1]? = some (.cells #[.slice (some ⟨tg, 0, none⟩) M.length tcap] 78 (0, 0)) ∧ Told (fun pre O A => ∃ tv, ICs p w w1.heap.size (w1.heap.size + 1 + 1) pre O tv A) (fun _ => False) O pre x A true (W2.setCell ⟨w1.heap.size + 1 + 1, 0, none⟩ v') ∧ KeepsFrom Y.heap.size A (W2.setCell ⟨w1.heap.size + 1 + 1, 0, none⟩ v')) := hid_of fun W1 W2 v' q1 q2 q3 q4 q5 q6 q7 => by
      have hlt : ∀ b, b < A.heap.size → b ≠ w1.heap.size → tg ≠ b → W2.heap[b]? = A.heap[b]? := fun b h1 h2 h3 => (q6.block b (by omega) (fun e => h3 (Option.some.inj e).symm)).trans (q3 b h1 h2)
      have hT := HH.out.turn (x := x) (W2 := W2) (tv' := v') (by omega) (by omega) (by omega) (Nat.le_trans q1 q6.size) ⟨q6.os.trans q2.1, q6.tape.trans q2.2.1, q6.output.trans q2.2.2⟩ (fun b h1 h2 h3 => hlt b h1 h2 (fun e => h3 (by rw [e]; rfl))) (by
          rw [HNX.out]
          exact (q6.block _ (by omega) (fun e => hg1 (Option.some.inj e).symm)).trans q4) (by
          rw [HNX.out]
          simp only [List.length_append, List.length_take, List.length_singleton, Nat.min_eq_left (show k + 1 ≤ M.length by omega)]
          have e : intsV (M.take (k + 1) ++ [if gl = true then m * 3 else m]) = intsV (M.take (k + 1)) ++ [.int .i64 (((if gl = true then m * 3 else m) : Nat) : Int)] := by simp [intsV]
          rw [e]
          exact q5) (q7.imp id fun e => ⟨_, e, q1⟩)
      exact ⟨(hlt _ ltb (by omega) (by omega)).trans HH.out.thg, hT.1, hT.2.from _⟩
    have hk5 : k ≤ 4 := by omega
    clear h2 hrow hcst hp hk hC hM hm hgl hb1 hb2 hb5 HNX h9
    have HOW1 : Hid (∀ V o, ((A.setCell ⟨w1.heap.size, 0, none⟩ V).alloc o).ownsRow w.heap.size 3 1 (.slice (some ⟨tg, 0, none⟩) (k + 1) tcap) (k + 1) (intsV (M.take (k + 1)))) := hid_of fun V o => by
      have e : intsV (M.take (k + 1)) = (intsV M).take (k + 1) := by simp [intsV]
      rw [e]
      refine owns_at HROW.out fun j hj => ?_
      simp only [Value.ownBlock, Option.some.injEq] at hj
      subst hj
      exact ((below_box _ o).block _ (by simp <;> omega)).trans ((HA1.out V).2 _ hg1)
    have HOW2 : Hid (∀ V V' o, (((A.setCell ⟨w1.heap.size, 0, none⟩ V).setCell ⟨w1.heap.size, 0, none⟩ V').alloc o).ownsRow w.heap.size 3 1 (.slice (some ⟨tg, 0, none⟩) (k + 1) tcap) (k + 1) (intsV (M.take (k + 1)))) := hid_of fun V V' o => by
      have e : intsV (M.take (k + 1)) = (intsV M).take (k + 1) := by simp [intsV]
      rw [e]
      refine owns_at HROW.out fun j hj => ?_
      simp only [Value.ownBlock, Option.some.injEq] at hj
      subst hj
      exact ((below_box _ o).block _ (by simp <;> omega)).trans ((HA2.out V V').2 _ hg1)
    have r1 := fun V => (box_at (HA1.out V).1 0 (by simp)).1
    have f1 := fun V => (box_at (HA1.out V).1 0 (by simp)).2
    simp only [List.getElem_toArray, List.getElem_cons_zero] at r1
    have t1 : ∀ V, (A.setCell ⟨w1.heap.size, 0, none⟩ V).cell? ⟨w1.heap.size + 1 + 1, 0, none⟩ = some (.slice (some ⟨tg, 0, none⟩) M.length tcap) := fun V => (World.cell?_of_block (a := ⟨w1.heap.size + 1 + 1, 0, none⟩) ((HA1.out V).2 _ (by show w1.heap.size + 1 + 1 ≠ _; omega))).trans t0
    have t2 : ∀ V V', ((A.setCell ⟨w1.heap.size, 0, none⟩ V).setCell ⟨w1.heap.size, 0, none⟩ V').cell? ⟨w1.heap.size + 1 + 1, 0, none⟩ = some (.slice (some ⟨tg, 0, none⟩) M.length tcap) := fun V V' => (World.cell?_of_block (a := ⟨w1.heap.size + 1 + 1, 0, none⟩) ((HA2.out V V').2 _ (by show w1.heap.size + 1 + 1 ≠ _; omega))).trans t0
    have hw1 : IntKind.i64.wrap ((C : Int) + (m : Int)) = (C : Int) + (m : Int) := IntWalk.i64_in _ (by omega)
    have hw2 : IntKind.i64.wrap ((m : Int) * 3) = (m : Int) * 3 := IntWalk.i64_in _ (by omega)
    have hw3 : IntKind.i64.wrap ((C : Int) + (m : Int) + (m : Int) * 3) = (C : Int) + (m : Int) + (m : Int) * 3 := IntWalk.i64_in _ (by omega)
    cases gl
    · gi_wp2_with (
        gi_at_builtin
        refine wpListIn_append_own_at _ rfl _ _ 78 rfl w.heap.size 3 i3 (.int .i64 0) 1 8 Tryz.underlying78 hi3 hy0 hy1 hy2 rfl (by decide) (.slice (some ⟨tg, 0, none⟩) (k + 1) tcap) (k + 1) (intsV (M.take (k + 1))) rfl (HOW1.out _ _) ⟨A.heap.size, 0, none⟩ 1 1 [.int .i64 (m : Int)] rfl rfl (World.news_of_block (block_new _ _ (by simp))) (by intro u hu; simp at hu; subst hu; rfl) (by unfold maxLen; omega) (by omega) (by simp <;> omega) ?_
        intro v' w4 hown hgrow _ hat
        have HN := hid_of (hFIN.out ((A.setCell ⟨w1.heap.size, 0, none⟩ (.int .i64 ((C : Int) + (m : Int)))).alloc (.cells #[.int .i64 (m : Int)] 3)) w4 v' (by simp) ⟨rfl, rfl, rfl⟩ (fun b h1 h2 => ((below_box _ _).block b (by simp <;> omega)).trans ((HA1.out _).2 b h2)) (((below_box _ _).block _ (by simp <;> omega)).trans ((HA1.out _).1.trans (by simp))) (by simpa using hown) hgrow hat)
        have n4 := HN.out.1
        have g1 := (box_at n4 0 (by simp)).1
        have g1f := (box_at n4 0 (by simp)).2
        simp only [List.getElem_toArray, List.getElem_cons_zero] at g1
        obtain ⟨a4, m4, c4, rfl⟩ : ∃ a n c, v' = .slice a n c := by
          rcases hown.2 with ⟨hv, _⟩ | ⟨g, cap, cur, hv, _⟩
          · exact ⟨_, _, _, hv⟩
          · exact ⟨_, _, _, hv⟩
        clear hown hgrow hat n4)
      exact ⟨HN.out.2.2, Or.inl ⟨rfl, Told.goes HN.out.2.1⟩⟩
    · gi_wp2_with (
        gi_at_builtin
        refine wpListIn_append_own_at _ rfl _ _ 78 rfl w.heap.size 3 i3 (.int .i64 0) 1 8 Tryz.underlying78 hi3 hy0 hy1 hy2 rfl (by decide) (.slice (some ⟨tg, 0, none⟩) (k + 1) tcap) (k + 1) (intsV (M.take (k + 1))) rfl (HOW2.out _ _ _) ⟨A.heap.size, 0, none⟩ 1 1 [.int .i64 ((m : Int) * 3)] rfl rfl (World.news_of_block (block_new _ _ (by simp))) (by intro u hu; simp at hu; subst hu; rfl) (by unfold maxLen; omega) (by omega) (by simp <;> omega) ?_
        intro v' w4 hown hgrow _ hat
        have HN := hid_of (hFIN.out (((A.setCell ⟨w1.heap.size, 0, none⟩ (.int .i64 ((C : Int) + (m : Int)))).setCell ⟨w1.heap.size, 0, none⟩ (.int .i64 ((C : Int) + (m : Int) + (m : Int) * 3))).alloc (.cells #[.int .i64 ((m : Int) * 3)] 3)) w4 v' (by simp) ⟨rfl, rfl, rfl⟩ (fun b h1 h2 => ((below_box _ _).block b (by simp <;> omega)).trans ((HA2.out _ _).2 b h2)) (((below_box _ _).block _ (by simp <;> omega)).trans ((HA2.out _ _).1.trans (by simp))) (by simpa using hown) hgrow hat)
        have n4 := HN.out.1
        have g1 := (box_at n4 0 (by simp)).1
        have g1f := (box_at n4 0 (by simp)).2
        simp only [List.getElem_toArray, List.getElem_cons_zero] at g1
        obtain ⟨a4, m4, c4, rfl⟩ : ∃ a n c, v' = .slice a n c := by
          rcases hown.2 with ⟨hv, _⟩ | ⟨g, cap, cur, hv, _⟩
          · exact ⟨_, _, _, hv⟩
          · exact ⟨_, _, _, hv⟩
        clear hown hgrow hat n4)
      exact ⟨HN.out.2.2, Or.inl ⟨rfl, Told.goes HN.out.2.1⟩⟩
end Go.Proofs.YtgcfgadkclfonaaGreatDoor

namespace Go.Proofs.YtgcfgadkclfonaaGreatDoor
set_option linter.unusedSimpArgs false
set_option linter.unusedVariables false
open Go.RowKit Go.Shelf Go.Maps
attribute [local go_sem] Oper.semAt_some

set_option maxRecDepth 20000 in
set_option maxHeartbeats 1600000 in
theorem l12Cost_any (p : Pt) (c0 c1 : Value) : ∀ (f : Nat) (nm : ByteArray) (ks : List Se) (w : World) (ka : Option Addr) (kc : Nat), FitS f ks → SeReps w (· < w.heap.size) ks ka → PRep w (· < w.heap.size) p (.agg #[c0, c1]) → costM p f nm ks ks.length ≤ 1000000000 →
    Calls Tryz.prog 41 #[.agg #[c0, c1], .string nm, .slice ka ks.length kc] w fun e w' => e = .returned (.int .i64 ((costM p f nm ks ks.length : Nat) : Int)) ∧ Below w.heap.size w w' := by
  intro f
  induction f with
  | zero =>
    intro nm ks w ka kc hf hR hP hbd
    have e : ks = [] := hf
    subst e
    clear hf hR hP hbd
    have bB := below_box w (.cells #[c0, c1] 34)
    go_enter Tryz.func41, Tryz.ntmps41
    go_wp2_with fail
    generalize w.alloc (.cells #[c0, c1] 34) = Z at *
    go_loopw [7, 8] (fun y i wr => y = .int .i64 1 ∧ i = .int .i64 0 ∧ wr = Z) (fun _ _ _ => 0)
    case atStart => exact ⟨rfl, rfl, rfl⟩
    case round =>
      obtain ⟨rfl, rfl, rfl⟩ := hrel
      go_wp2_with fail
      go_ret
      exact ⟨by simp [costM], bB⟩
  | succ f IH =>
    intro nm ks w ka kc hf hR hP hbd
    have h72 := hR.1
    have HR := hid_of hR
    have HP := hid_of hP
    have HF := hid_of hf
    have HBD := hid_of hbd
    clear hR hP hf hbd
    have bB := below_box w (.cells #[c0, c1] 34)
    have zB : (w.alloc (.cells #[c0, c1] 34)).heap.size = w.heap.size + 1 := by simp
    have nP := heap_alloc_new w (.cells #[c0, c1] 34)
    go_enter Tryz.func41, Tryz.ntmps41
    go_wp2_with fail
    generalize w.alloc (.cells #[c0, c1] 34) = Z at *
    have HZ : Hid (∀ W', Below Z.heap.size Z W' → (W'.cell? ⟨w.heap.size, 0, none⟩ = some c0 ∧ W'.cell? ⟨w.heap.size, 1, none⟩ = some c1) ∧ Below w.heap.size w W') := hid_of fun W' hW => by
      have hp := (hW.block _ (by omega)).trans nP
      exact ⟨⟨(box_at hp 0 (by simp)).1, (box_at hp 1 (by simp)).1⟩, bB.trans (hW.mono (by omega))⟩
    clear nP bB
    go_loopw [7, 8] (fun y i wr => ∃ k A : Nat, k ≤ ks.length ∧ y = .int .i64 A ∧ i = .int .i64 k ∧ Hid (costM p (f + 1) nm ks k = A) ∧ Below Z.heap.size Z wr) (fun _ i _ => ks.length - (intOf i).toNat)
    case atStart => exact ⟨0, 1, Nat.zero_le _, rfl, rfl, hid_of (by simp [costM]), Below.refl _ _⟩
    case round =>
      obtain ⟨k, A, hk, rfl, rfl, HM, hb⟩ := hrel
      obtain ⟨w0, rfl⟩ : ∃ x, x = wr := ⟨wr, rfl⟩
      have zb := hb.size
      obtain ⟨⟨z0, z1⟩, hbw⟩ := HZ.out w0 hb
      by_cases hlt : k < ks.length
      case neg =>
        have e : k = ks.length := by omega
        subst e
        clear z0 z1
        go_wp2_with fail
        go_ret
        exact ⟨by rw [HM.out]; rfl, hbw⟩
      have hki : (k : Int) < (ks.length : Int) := by omega
      obtain ⟨-, C, hA, hr⟩ := HR.out.mono fun b hb2 => hbw.block b hb2
      obtain ⟨kb, koff, rfl, hkB, hkc⟩ := hA (by omega)
      obtain ⟨sa, sc, e0, e1, e2, e3, e4, hal, hnm, hKids⟩ := (hr k hlt).pieces
      have hkB' : kb < w.heap.size := hkB
      have hkz := hbw.size
      have q1 : w0.cell? ⟨kb, koff + k * 5 + 1, none⟩ = some (.string (sth ks k).name) := e1 ▸ hkc k hlt 1 (by omega)
      have q4 : w0.cell? ⟨kb, koff + k * 5 + 4, none⟩ = some (.slice sa (sth ks k).kids.length sc) := e4 ▸ hkc k hlt 4 (by omega)
      have HSU : Hid (costM p (f + 1) nm ks (k + 1) = A + (if (fldF p nm (sth ks k).name).list = true then 1 + 3 * costM p f (fldF p nm (sth ks k).name).of (sth ks k).kids (sth ks k).kids.length else costM p f (fldF p nm (sth ks k).name).of (sth ks k).kids (sth ks k).kids.length)) := hid_of (by rw [costM, HM.out])
      have hB1 : costM p (f + 1) nm ks (k + 1) ≤ 1000000000 := Nat.le_trans (costM_mono p f nm ks (k + 1) ks.length hlt) HBD.out
      have HKD := hid_of (fun W (hW : Below w0.heap.size w0 W) => (hKids.mono fun j hj => hW.block j (Nat.lt_of_lt_of_le hj hbw.size)).sub fun j hj => Nat.lt_of_lt_of_le hj (Nat.le_trans hbw.size hW.size))
      have HFK := hid_of (HF.out k hlt)
      clear e0 e1 e2 e3 e4 hkc hr hA hKids hal hnm
      generalize sth ks k = s at *
      obtain ⟨gF, hgF⟩ : ∃ gF, gF = fldF p nm s.name := ⟨_, rfl⟩
      have HG : Hid (∀ W, Below w0.heap.size w0 W → Calls Tryz.prog 52 #[.agg #[c0, c1], .string nm, .string s.name] W fun e w' => ∃ na nc kn, e = .returned (.tuple #[.agg #[.string gF.name, .string gF.of, .bool gF.list, .bool gF.must, .bool gF.far, .bool gF.hidden, .bool gF.shared, .slice na gF.needs.length nc], .bool kn]) ∧ Below W.heap.size W w') := hid_of fun W hW => (l2Get_any p nm s.name W w.heap.size _ (HP.out.under (hbw.trans (hW.mono hbw.size))) (Nat.le_trans hbw.size hW.size)).mono fun e w' ⟨n1, o1, l1, m1, f1, h1, s1, na, nc, he, hb, hf⟩ => by
        obtain ⟨na', nc', hv', -⟩ := hf
        rw [he, hv', getF_eq, ← hgF]
        exact ⟨na', nc', _, rfl, hb⟩
      rw [← hgF] at HSU
      clear hgF
      obtain ⟨gn, gof, gl, gm, gfr, gh, gs, gd⟩ := gF
      simp only at HSU HG
      obtain ⟨one, HON⟩ : ∃ one, Hid (costM p f gof s.kids s.kids.length = one) := ⟨_, hid_of rfl⟩
      rw [HON.out] at HSU
      have hB1' : A + (if gl = true then 1 + 3 * one else one) ≤ 1000000000 := by rw [← HSU.out]; exact hB1
      have hone : one ≤ 1000000000 := by revert hB1'; split <;> omega
      have hA9 : A ≤ 1000000000 := by omega
      have HREC : Hid (∀ W, Below w0.heap.size w0 W → Calls Tryz.prog 41 #[.agg #[c0, c1], .string gof, .slice sa s.kids.length sc] W fun e w' => e = .returned (.int .i64 (one : Int)) ∧ Below W.heap.size W w') := hid_of fun W hW => by
        have h := IH gof s.kids W sa sc HFK.out (HKD.out W hW) ((HP.out.under (hbw.trans (hW.mono hbw.size))).sub fun b hq => by have : b < w.heap.size := hq; have := hW.size; show b < _; omega) (by rw [HON.out]; exact hone)
        rw [HON.out] at h
        exact h
      clear hB1
      have HCL : Hid (∀ W, Below w0.heap.size w0 W → W.cell? ⟨w.heap.size, 0, none⟩ = some c0 ∧ W.cell? ⟨w.heap.size, 1, none⟩ = some c1 ∧ W.cell? ⟨kb, koff + k * 5 + 1, none⟩ = some (.string s.name) ∧ W.cell? ⟨kb, koff + k * 5 + 4, none⟩ = some (.slice sa s.kids.length sc)) := hid_of fun W hW => ⟨(hW.cell (p := ⟨w.heap.size, 0, none⟩) (by show w.heap.size < _; omega)).trans z0, (hW.cell (p := ⟨w.heap.size, 1, none⟩) (by show w.heap.size < _; omega)).trans z1, (hW.cell (p := ⟨kb, koff + k * 5 + 1, none⟩) (by show kb < _; omega)).trans q1, (hW.cell (p := ⟨kb, koff + k * 5 + 4, none⟩) (by show kb < _; omega)).trans q4⟩
      clear z0 z1 q1 q4
      go_wp2_with fail
      go_cut [9] (fun r wx => ∃ fb : Nat, r = .pointer (some ⟨fb, 0, none⟩) ∧ Hid (w0.heap.size ≤ fb ∧ wx.cell? ⟨fb, 1, none⟩ = some (.string gof) ∧ wx.cell? ⟨fb, 2, none⟩ = some (.bool gl)) ∧ Below w0.heap.size w0 wx)
      case first =>
        refine wp_region_held_drew (S := (fun w' => w'.cell? ⟨w.heap.size, 0, none⟩ = some c0 ∧ w'.cell? ⟨w.heap.size, 1, none⟩ = some c1 ∧ w'.cell? ⟨kb, koff + k * 5 + 1, none⟩ = some (.string s.name) ∧ w'.cell? ⟨kb, koff + k * 5 + 4, none⟩ = some (.slice sa s.kids.length sc))) (by kernel_rfl) (HCL.out _ (Below.refl _ _).drew) (fun hHeld => ?_)
        have bX : Below w0.heap.size w0 w0.drew := (Below.refl _ _).drew
        generalize w0.drew = wD at *
        refine wpAnyH_take (i := 0) (oi := { dst := some 19, op := Op.load 34 (Operand.tmp 3), type := 34, pos := "l12_asks.go:96", after := #[], guard := none }) (v := ?_) rfl (by kernel_rfl) (by kernel_rfl) (by kernel_rfl) (fun _ _ _ h => h) (Or.inl ⟨by rfl, ?_⟩) hHeld ?_
        rotate_left
        · intro w' hSw
          (try dsimp only at hSw)
          go_simp
          try with_reducible rfl
        try simp only [Act.put, List.setIfInBounds_toArray, List.set_cons_zero, List.set_cons_succ]
        refine wpAnyH_take (i := 1) (oi := { dst := some 20, op := Op.move (Operand.tmp 1), type := 9, pos := "l12_asks.go:96", after := #[], guard := none }) (v := ?_) rfl (by kernel_rfl) (by kernel_rfl) (by kernel_rfl) (fun _ _ _ h => h) (Or.inl ⟨by rfl, ?_⟩) hHeld ?_
        rotate_left
        · intro w' hSw
          (try dsimp only at hSw)
          go_simp
          try with_reducible rfl
        try simp only [Act.put, List.setIfInBounds_toArray, List.set_cons_zero, List.set_cons_succ]
        refine wpAnyH_take (i := 2) (oi := { dst := some 21, op := Op.move (Operand.tmp 2), type := 36, pos := "l12_asks.go:96", after := #[], guard := none }) (v := ?_) rfl (by kernel_rfl) (by kernel_rfl) (by kernel_rfl) (fun _ _ _ h => h) (Or.inl ⟨by rfl, ?_⟩) hHeld ?_
        rotate_left
        · intro w' hSw
          (try dsimp only at hSw)
          go_simp
          try with_reducible rfl
        try simp only [Act.put, List.setIfInBounds_toArray, List.set_cons_zero, List.set_cons_succ]
        refine wpAnyH_take (i := 3) (oi := { dst := some 22, op := Op.move (Operand.tmp 8), type := 3, pos := "l12_asks.go:96", after := #[], guard := none }) (v := ?_) rfl (by kernel_rfl) (by kernel_rfl) (by kernel_rfl) (fun _ _ _ h => h) (Or.inl ⟨by rfl, ?_⟩) hHeld ?_
        rotate_left
        · intro w' hSw
          (try dsimp only at hSw)
          go_simp
          try with_reducible rfl
        try simp only [Act.put, List.setIfInBounds_toArray, List.set_cons_zero, List.set_cons_succ]
        refine wpAnyH_take (i := 4) (oi := { dst := some 23, op := Op.indexAddr 36 (Operand.tmp 21) (Operand.tmp 22), type := 0, pos := "l12_asks.go:96", after := #[{ on := 2, ground := Ground.data }, { on := 3, ground := Ground.data }], guard := none }) (v := ?_) rfl (by kernel_rfl) (by kernel_rfl) (by kernel_rfl) (fun _ _ _ h => h) (Or.inl ⟨by rfl, ?_⟩) hHeld ?_
        rotate_left
        · intro w' hSw
          (try dsimp only at hSw)
          go_simp
          try with_reducible rfl
        try simp only [Act.put, List.setIfInBounds_toArray, List.set_cons_zero, List.set_cons_succ]
        refine wpAnyH_take (i := 5) (oi := { dst := some 24, op := Op.fieldAddr 60 (Operand.tmp 23) 1, type := 0, pos := "l12_asks.go:96", after := #[{ on := 4, ground := Ground.data }], guard := none }) (v := ?_) rfl (by kernel_rfl) (by kernel_rfl) (by kernel_rfl) (fun _ _ _ h => h) (Or.inl ⟨by rfl, ?_⟩) hHeld ?_
        rotate_left
        · intro w' hSw
          (try dsimp only at hSw)
          go_simp
          try with_reducible rfl
        try simp only [Act.put, List.setIfInBounds_toArray, List.set_cons_zero, List.set_cons_succ]
        refine wpAnyH_take (i := 6) (oi := { dst := some 25, op := Op.load 9 (Operand.tmp 24), type := 9, pos := "l12_asks.go:96", after := #[{ on := 5, ground := Ground.data }], guard := none }) (v := ?_) rfl (by kernel_rfl) (by kernel_rfl) (by kernel_rfl) (fun _ _ _ h => h) (Or.inl ⟨by rfl, ?_⟩) hHeld ?_
        rotate_left
        · intro w' hSw
          (try dsimp only at hSw)
          go_simp
          try with_reducible rfl
        try simp only [Act.put, List.setIfInBounds_toArray, List.set_cons_zero, List.set_cons_succ]
        refine wpAnyH_ready (rs := [7, 11]) (by kernel_rfl) (by simp) ?_
        refine AllReadyH.cons (o := { dst := some 26, op := Op.call { callee := Callee.value (Operand.func 52), args := #[Operand.tmp 19, Operand.tmp 20, Operand.tmp 25], argTypes := #[34, 9, 9] }, type := 94, pos := "l12_asks.go:96", after := #[{ on := 0, ground := Ground.data }, { on := 1, ground := Ground.data }, { on := 6, ground := Ground.data }], guard := none }) rfl (fun K hK => ?_) ?_
        · go_simp
          refine (HG.out wD bX).mono ?_
          rintro e wK ⟨na, nc, kn, rfl, bK⟩
          have bX := bX.trans (bK.mono bX.size)
          refine hK.out _ _ (HCL.out _ bX) (fun hHeld => ?_)
          clear hK K
          try simp only [Act.put, List.setIfInBounds_toArray, List.set_cons_zero, List.set_cons_succ]
          refine wpAnyH_take (i := 8) (oi := { dst := some 18, op := Op.move (Operand.tmp 26), type := 94, pos := "l12_asks.go:96", after := #[{ on := 7, ground := Ground.data }], guard := none }) (v := ?_) rfl (by kernel_rfl) (by kernel_rfl) (by kernel_rfl) (fun _ _ _ h => h) (Or.inl ⟨by rfl, ?_⟩) hHeld ?_
          rotate_left
          · intro w' hSw
            (try dsimp only at hSw)
            go_simp
            try with_reducible rfl
          try simp only [Act.put, List.setIfInBounds_toArray, List.set_cons_zero, List.set_cons_succ]
          refine wpAnyH_take (i := 9) (oi := { dst := some 27, op := Op.extract (Operand.tmp 18) 0, type := 69, pos := "l12_asks.go:96", after := #[{ on := 8, ground := Ground.data }], guard := none }) (v := ?_) rfl (by kernel_rfl) (by kernel_rfl) (by kernel_rfl) (fun _ _ _ h => h) (Or.inl ⟨by rfl, ?_⟩) hHeld ?_
          rotate_left
          · intro w' hSw
            (try dsimp only at hSw)
            go_simp
            try with_reducible rfl
          try simp only [Act.put, List.setIfInBounds_toArray, List.set_cons_zero, List.set_cons_succ]
          refine wpAnyH_take (i := 10) (oi := { dst := some 28, op := Op.extract (Operand.tmp 18) 1, type := 4, pos := "l12_asks.go:96", after := #[{ on := 8, ground := Ground.data }, { on := 12, ground := Ground.gcOnly Departure.lateStores }], guard := none }) (v := ?_) rfl (by kernel_rfl) (by kernel_rfl) (by kernel_rfl) (fun _ _ _ h => h) (Or.inl ⟨by rfl, ?_⟩) hHeld ?_
          rotate_left
          · intro w' hSw
            (try dsimp only at hSw)
            go_simp
            try with_reducible rfl
          try simp only [Act.put, List.setIfInBounds_toArray, List.set_cons_zero, List.set_cons_succ]
          refine wpAnyH_ready (rs := [11]) (by kernel_rfl) (by simp) ?_
          refine AllReadyH.cons (o := { dst := some 9, op := Op.alloc 69, type := 0, pos := "l12_asks.go:96", after := #[], guard := none }) rfl (fun K hK => ?_) AllReadyH.nil
          go_simp
          have bE := below_box wK (.cells #[.string ⟨#[]⟩, .string ⟨#[]⟩, .bool false, .bool false, .bool false, .bool false, .bool false, .slice none 0 0] 69)
          have nE := block_new (w := wK) #[.string ⟨#[]⟩, .string ⟨#[]⟩, .bool false, .bool false, .bool false, .bool false, .bool false, .slice none 0 0] 69 rfl
          have qE : w0.heap.size ≤ wK.heap.size := bX.size
          have zE : wK.heap.size < (wK.alloc (.cells #[.string ⟨#[]⟩, .string ⟨#[]⟩, .bool false, .bool false, .bool false, .bool false, .bool false, .slice none 0 0] 69)).heap.size := by simp
          have bX := bX.trans (bE.mono bX.size)
          refine hK.out _ _ (HCL.out _ bX) (fun hHeld => ?_)
          clear hK K
          try simp only [Act.put, List.setIfInBounds_toArray, List.set_cons_zero, List.set_cons_succ]
          generalize wK.alloc (.cells #[.string ⟨#[]⟩, .string ⟨#[]⟩, .bool false, .bool false, .bool false, .bool false, .bool false, .slice none 0 0] 69) = wE at *
          refine wpAnyH_ready (rs := [12]) (by kernel_rfl) (by simp) ?_
          refine AllReadyH.cons (o := { dst := none, op := Op.store 69 (Operand.tmp 9) (Operand.tmp 27), type := 0, pos := "l12_asks.go:96", after := #[{ on := 11, ground := Ground.data }, { on := 9, ground := Ground.data }, { on := 7, ground := Ground.chain }, { on := 0, ground := Ground.phase }, { on := 1, ground := Ground.phase }, { on := 2, ground := Ground.phase }, { on := 3, ground := Ground.phase }, { on := 4, ground := Ground.phase }, { on := 5, ground := Ground.phase }, { on := 6, ground := Ground.phase }, { on := 7, ground := Ground.phase }, { on := 8, ground := Ground.phase }, { on := 9, ground := Ground.phase }, { on := 10, ground := Ground.textOnly Departure.lateStores }, { on := 11, ground := Ground.phase }], guard := none }) rfl (fun K hK => ?_) AllReadyH.nil
          obtain ⟨y0, g0⟩ := box_at nE 0 (by simp)
          obtain ⟨y1, g1⟩ := box_at nE 1 (by simp)
          obtain ⟨y2, g2⟩ := box_at nE 2 (by simp)
          obtain ⟨y3, g3⟩ := box_at nE 3 (by simp)
          obtain ⟨y4, g4⟩ := box_at nE 4 (by simp)
          obtain ⟨y5, g5⟩ := box_at nE 5 (by simp)
          obtain ⟨y6, g6⟩ := box_at nE 6 (by simp)
          obtain ⟨y7, g7⟩ := box_at nE 7 (by simp)
          go_simp
          refine hK.out _ _ (HCL.out _ (below_sets bX qE _ _ _ _ _ _ _ _)) (fun hHeld => ?_)
          clear hK K
          try simp only [Act.put, List.setIfInBounds_toArray, List.set_cons_zero, List.set_cons_succ]
          refine wpAnyH_take (i := 13) (oi := { dst := some 10, op := Op.assign (Operand.tmp 28), type := 4, pos := "l12_asks.go:96", after := #[{ on := 10, ground := Ground.data }, { on := 12, ground := Ground.chain }, { on := 0, ground := Ground.phase }, { on := 1, ground := Ground.phase }, { on := 2, ground := Ground.phase }, { on := 3, ground := Ground.phase }, { on := 4, ground := Ground.phase }, { on := 5, ground := Ground.phase }, { on := 6, ground := Ground.phase }, { on := 7, ground := Ground.phase }, { on := 8, ground := Ground.phase }, { on := 9, ground := Ground.phase }, { on := 10, ground := Ground.phase }, { on := 11, ground := Ground.phase }, { on := 12, ground := Ground.phase }], guard := none }) (v := ?_) rfl (by kernel_rfl) (by kernel_rfl) (by kernel_rfl) (fun _ _ _ h => h) (Or.inl ⟨by rfl, ?_⟩) hHeld ?_
          rotate_left
          · intro w' hSw
            (try dsimp only at hSw)
            go_simp
            try with_reducible rfl
          try simp only [Act.put, List.setIfInBounds_toArray, List.set_cons_zero, List.set_cons_succ]
          refine wpAnyH_done (by kernel_rfl) ?_ _
          go_wp2_with fail
          go_meet
          case rel =>
            obtain ⟨-, x1, x2, -⟩ := sets_cells nE rfl (.string gn) (.string gof) (.bool gl) (.bool gm) (.bool gfr) (.bool gh) (.bool gs) (.slice na gd.length nc) _ rfl
            exact ⟨_, rfl, hid_of ⟨qE, x1, x2⟩, below_sets bX qE _ _ _ _ _ _ _ _⟩
        refine AllReadyH.cons (o := { dst := some 9, op := Op.alloc 69, type := 0, pos := "l12_asks.go:96", after := #[], guard := none }) rfl (fun K hK => ?_) AllReadyH.nil
        go_simp
        have bE := below_box wD (.cells #[.string ⟨#[]⟩, .string ⟨#[]⟩, .bool false, .bool false, .bool false, .bool false, .bool false, .slice none 0 0] 69)
        have nE := block_new (w := wD) #[.string ⟨#[]⟩, .string ⟨#[]⟩, .bool false, .bool false, .bool false, .bool false, .bool false, .slice none 0 0] 69 rfl
        have qE : w0.heap.size ≤ wD.heap.size := bX.size
        have zE : wD.heap.size < (wD.alloc (.cells #[.string ⟨#[]⟩, .string ⟨#[]⟩, .bool false, .bool false, .bool false, .bool false, .bool false, .slice none 0 0] 69)).heap.size := by simp
        have bX := bX.trans (bE.mono bX.size)
        refine hK.out _ _ (HCL.out _ bX) (fun hHeld => ?_)
        clear hK K
        try simp only [Act.put, List.setIfInBounds_toArray, List.set_cons_zero, List.set_cons_succ]
        generalize wD.alloc (.cells #[.string ⟨#[]⟩, .string ⟨#[]⟩, .bool false, .bool false, .bool false, .bool false, .bool false, .slice none 0 0] 69) = wE at *
        refine wpAnyH_ready (rs := [7]) (by kernel_rfl) (by simp) ?_
        refine AllReadyH.cons (o := { dst := some 26, op := Op.call { callee := Callee.value (Operand.func 52), args := #[Operand.tmp 19, Operand.tmp 20, Operand.tmp 25], argTypes := #[34, 9, 9] }, type := 94, pos := "l12_asks.go:96", after := #[{ on := 0, ground := Ground.data }, { on := 1, ground := Ground.data }, { on := 6, ground := Ground.data }], guard := none }) rfl (fun K hK => ?_) AllReadyH.nil
        go_simp
        refine (HG.out wE bX).mono ?_
        rintro e wK ⟨na, nc, kn, rfl, bK⟩
        have bX := bX.trans (bK.mono bX.size)
        have nE := (bK.block _ zE).trans nE
        have zE := Nat.lt_of_lt_of_le zE bK.size
        refine hK.out _ _ (HCL.out _ bX) (fun hHeld => ?_)
        clear hK K
        try simp only [Act.put, List.setIfInBounds_toArray, List.set_cons_zero, List.set_cons_succ]
        refine wpAnyH_take (i := 8) (oi := { dst := some 18, op := Op.move (Operand.tmp 26), type := 94, pos := "l12_asks.go:96", after := #[{ on := 7, ground := Ground.data }], guard := none }) (v := ?_) rfl (by kernel_rfl) (by kernel_rfl) (by kernel_rfl) (fun _ _ _ h => h) (Or.inl ⟨by rfl, ?_⟩) hHeld ?_
        rotate_left
        · intro w' hSw
          (try dsimp only at hSw)
          go_simp
          try with_reducible rfl
        try simp only [Act.put, List.setIfInBounds_toArray, List.set_cons_zero, List.set_cons_succ]
        refine wpAnyH_take (i := 9) (oi := { dst := some 27, op := Op.extract (Operand.tmp 18) 0, type := 69, pos := "l12_asks.go:96", after := #[{ on := 8, ground := Ground.data }], guard := none }) (v := ?_) rfl (by kernel_rfl) (by kernel_rfl) (by kernel_rfl) (fun _ _ _ h => h) (Or.inl ⟨by rfl, ?_⟩) hHeld ?_
        rotate_left
        · intro w' hSw
          (try dsimp only at hSw)
          go_simp
          try with_reducible rfl
        try simp only [Act.put, List.setIfInBounds_toArray, List.set_cons_zero, List.set_cons_succ]
        refine wpAnyH_take (i := 10) (oi := { dst := some 28, op := Op.extract (Operand.tmp 18) 1, type := 4, pos := "l12_asks.go:96", after := #[{ on := 8, ground := Ground.data }, { on := 12, ground := Ground.gcOnly Departure.lateStores }], guard := none }) (v := ?_) rfl (by kernel_rfl) (by kernel_rfl) (by kernel_rfl) (fun _ _ _ h => h) (Or.inl ⟨by rfl, ?_⟩) hHeld ?_
        rotate_left
        · intro w' hSw
          (try dsimp only at hSw)
          go_simp
          try with_reducible rfl
        try simp only [Act.put, List.setIfInBounds_toArray, List.set_cons_zero, List.set_cons_succ]
        refine wpAnyH_ready (rs := [12]) (by kernel_rfl) (by simp) ?_
        refine AllReadyH.cons (o := { dst := none, op := Op.store 69 (Operand.tmp 9) (Operand.tmp 27), type := 0, pos := "l12_asks.go:96", after := #[{ on := 11, ground := Ground.data }, { on := 9, ground := Ground.data }, { on := 7, ground := Ground.chain }, { on := 0, ground := Ground.phase }, { on := 1, ground := Ground.phase }, { on := 2, ground := Ground.phase }, { on := 3, ground := Ground.phase }, { on := 4, ground := Ground.phase }, { on := 5, ground := Ground.phase }, { on := 6, ground := Ground.phase }, { on := 7, ground := Ground.phase }, { on := 8, ground := Ground.phase }, { on := 9, ground := Ground.phase }, { on := 10, ground := Ground.textOnly Departure.lateStores }, { on := 11, ground := Ground.phase }], guard := none }) rfl (fun K hK => ?_) AllReadyH.nil
        obtain ⟨y0, g0⟩ := box_at nE 0 (by simp)
        obtain ⟨y1, g1⟩ := box_at nE 1 (by simp)
        obtain ⟨y2, g2⟩ := box_at nE 2 (by simp)
        obtain ⟨y3, g3⟩ := box_at nE 3 (by simp)
        obtain ⟨y4, g4⟩ := box_at nE 4 (by simp)
        obtain ⟨y5, g5⟩ := box_at nE 5 (by simp)
        obtain ⟨y6, g6⟩ := box_at nE 6 (by simp)
        obtain ⟨y7, g7⟩ := box_at nE 7 (by simp)
        go_simp
        refine hK.out _ _ (HCL.out _ (below_sets bX qE _ _ _ _ _ _ _ _)) (fun hHeld => ?_)
        clear hK K
        try simp only [Act.put, List.setIfInBounds_toArray, List.set_cons_zero, List.set_cons_succ]
        refine wpAnyH_take (i := 13) (oi := { dst := some 10, op := Op.assign (Operand.tmp 28), type := 4, pos := "l12_asks.go:96", after := #[{ on := 10, ground := Ground.data }, { on := 12, ground := Ground.chain }, { on := 0, ground := Ground.phase }, { on := 1, ground := Ground.phase }, { on := 2, ground := Ground.phase }, { on := 3, ground := Ground.phase }, { on := 4, ground := Ground.phase }, { on := 5, ground := Ground.phase }, { on := 6, ground := Ground.phase }, { on := 7, ground := Ground.phase }, { on := 8, ground := Ground.phase }, { on := 9, ground := Ground.phase }, { on := 10, ground := Ground.phase }, { on := 11, ground := Ground.phase }, { on := 12, ground := Ground.phase }], guard := none }) (v := ?_) rfl (by kernel_rfl) (by kernel_rfl) (by kernel_rfl) (fun _ _ _ h => h) (Or.inl ⟨by rfl, ?_⟩) hHeld ?_
        rotate_left
        · intro w' hSw
          (try dsimp only at hSw)
          go_simp
          try with_reducible rfl
        try simp only [Act.put, List.setIfInBounds_toArray, List.set_cons_zero, List.set_cons_succ]
        refine wpAnyH_done (by kernel_rfl) ?_ _
        go_wp2_with fail
        go_meet
        case rel =>
          obtain ⟨-, x1, x2, -⟩ := sets_cells nE rfl (.string gn) (.string gof) (.bool gl) (.bool gm) (.bool gfr) (.bool gh) (.bool gs) (.slice na gd.length nc) _ rfl
          exact ⟨_, rfl, hid_of ⟨qE, x1, x2⟩, below_sets bX qE _ _ _ _ _ _ _ _⟩
      case rest =>
      obtain ⟨fb, rfl, HBX, bx⟩ := hcut
      obtain ⟨wx, rfl⟩ : ∃ x, x = wc := ⟨wc, rfl⟩
      have HC2 : Hid (∀ W, Below wx.heap.size wx W → W.cell? ⟨w.heap.size, 0, none⟩ = some c0 ∧ W.cell? ⟨w.heap.size, 1, none⟩ = some c1 ∧ W.cell? ⟨fb, 1, none⟩ = some (.string gof) ∧ W.cell? ⟨kb, koff + k * 5 + 4, none⟩ = some (.slice sa s.kids.length sc) ∧ W.cell? ⟨fb, 2, none⟩ = some (.bool gl)) := hid_of fun W hW => by
        obtain ⟨y0, y1, -, y3⟩ := HCL.out W (bx.trans (hW.mono bx.size))
        obtain ⟨-, x1, x2⟩ := HBX.out
        exact ⟨y0, y1, (hW.cell (cell_lt x1)).trans x1, y3, (hW.cell (cell_lt x2)).trans x2⟩
      go_wp2_with fail
      refine wp_region_held_drew (S := (fun w' => w'.cell? ⟨w.heap.size, 0, none⟩ = some c0 ∧ w'.cell? ⟨w.heap.size, 1, none⟩ = some c1 ∧ w'.cell? ⟨fb, 1, none⟩ = some (.string gof) ∧ w'.cell? ⟨kb, koff + k * 5 + 4, none⟩ = some (.slice sa s.kids.length sc) ∧ w'.cell? ⟨fb, 2, none⟩ = some (.bool gl))) (by kernel_rfl) (HC2.out _ (Below.refl _ _).drew) (fun hHeld => ?_)
      have bX : Below wx.heap.size wx wx.drew := (Below.refl _ _).drew
      generalize wx.drew = wD at *
      refine wpAnyH_take (i := 0) (oi := { dst := some 29, op := Op.load 34 (Operand.tmp 3), type := 34, pos := "l12_asks.go:97", after := #[], guard := none }) (v := ?_) rfl (by kernel_rfl) (by kernel_rfl) (by kernel_rfl) (fun _ _ _ h => h) (Or.inl ⟨by rfl, ?_⟩) hHeld ?_
      rotate_left
      · intro w' hSw
        (try dsimp only at hSw)
        go_simp
        try with_reducible rfl
      try simp only [Act.put, List.setIfInBounds_toArray, List.set_cons_zero, List.set_cons_succ]
      refine wpAnyH_take (i := 1) (oi := { dst := some 30, op := Op.fieldAddr 69 (Operand.tmp 9) 1, type := 0, pos := "l12_asks.go:97", after := #[], guard := none }) (v := ?_) rfl (by kernel_rfl) (by kernel_rfl) (by kernel_rfl) (fun _ _ _ h => h) (Or.inl ⟨by rfl, ?_⟩) hHeld ?_
      rotate_left
      · intro w' hSw
        (try dsimp only at hSw)
        go_simp
        try with_reducible rfl
      try simp only [Act.put, List.setIfInBounds_toArray, List.set_cons_zero, List.set_cons_succ]
      refine wpAnyH_take (i := 2) (oi := { dst := some 31, op := Op.load 9 (Operand.tmp 30), type := 9, pos := "l12_asks.go:97", after := #[{ on := 1, ground := Ground.data }], guard := none }) (v := ?_) rfl (by kernel_rfl) (by kernel_rfl) (by kernel_rfl) (fun _ _ _ h => h) (Or.inl ⟨by rfl, ?_⟩) hHeld ?_
      rotate_left
      · intro w' hSw
        (try dsimp only at hSw)
        go_simp
        try with_reducible rfl
      try simp only [Act.put, List.setIfInBounds_toArray, List.set_cons_zero, List.set_cons_succ]
      refine wpAnyH_take (i := 3) (oi := { dst := some 32, op := Op.move (Operand.tmp 2), type := 36, pos := "l12_asks.go:97", after := #[], guard := none }) (v := ?_) rfl (by kernel_rfl) (by kernel_rfl) (by kernel_rfl) (fun _ _ _ h => h) (Or.inl ⟨by rfl, ?_⟩) hHeld ?_
      rotate_left
      · intro w' hSw
        (try dsimp only at hSw)
        go_simp
        try with_reducible rfl
      try simp only [Act.put, List.setIfInBounds_toArray, List.set_cons_zero, List.set_cons_succ]
      refine wpAnyH_take (i := 4) (oi := { dst := some 33, op := Op.move (Operand.tmp 8), type := 3, pos := "l12_asks.go:97", after := #[], guard := none }) (v := ?_) rfl (by kernel_rfl) (by kernel_rfl) (by kernel_rfl) (fun _ _ _ h => h) (Or.inl ⟨by rfl, ?_⟩) hHeld ?_
      rotate_left
      · intro w' hSw
        (try dsimp only at hSw)
        go_simp
        try with_reducible rfl
      try simp only [Act.put, List.setIfInBounds_toArray, List.set_cons_zero, List.set_cons_succ]
      refine wpAnyH_take (i := 5) (oi := { dst := some 34, op := Op.indexAddr 36 (Operand.tmp 32) (Operand.tmp 33), type := 0, pos := "l12_asks.go:97", after := #[{ on := 3, ground := Ground.data }, { on := 4, ground := Ground.data }], guard := none }) (v := ?_) rfl (by kernel_rfl) (by kernel_rfl) (by kernel_rfl) (fun _ _ _ h => h) (Or.inl ⟨by rfl, ?_⟩) hHeld ?_
      rotate_left
      · intro w' hSw
        (try dsimp only at hSw)
        go_simp
        try with_reducible rfl
      try simp only [Act.put, List.setIfInBounds_toArray, List.set_cons_zero, List.set_cons_succ]
      refine wpAnyH_take (i := 6) (oi := { dst := some 35, op := Op.fieldAddr 60 (Operand.tmp 34) 4, type := 0, pos := "l12_asks.go:97", after := #[{ on := 5, ground := Ground.data }], guard := none }) (v := ?_) rfl (by kernel_rfl) (by kernel_rfl) (by kernel_rfl) (fun _ _ _ h => h) (Or.inl ⟨by rfl, ?_⟩) hHeld ?_
      rotate_left
      · intro w' hSw
        (try dsimp only at hSw)
        go_simp
        try with_reducible rfl
      try simp only [Act.put, List.setIfInBounds_toArray, List.set_cons_zero, List.set_cons_succ]
      refine wpAnyH_take (i := 7) (oi := { dst := some 36, op := Op.load 36 (Operand.tmp 35), type := 36, pos := "l12_asks.go:97", after := #[{ on := 6, ground := Ground.data }], guard := none }) (v := ?_) rfl (by kernel_rfl) (by kernel_rfl) (by kernel_rfl) (fun _ _ _ h => h) (Or.inl ⟨by rfl, ?_⟩) hHeld ?_
      rotate_left
      · intro w' hSw
        (try dsimp only at hSw)
        go_simp
        try with_reducible rfl
      try simp only [Act.put, List.setIfInBounds_toArray, List.set_cons_zero, List.set_cons_succ]
      refine wpAnyH_ready (rs := [8]) (by kernel_rfl) (by simp) ?_
      refine AllReadyH.cons (o := { dst := some 37, op := Op.call { callee := Callee.value (Operand.func 41), args := #[Operand.tmp 29, Operand.tmp 31, Operand.tmp 36], argTypes := #[34, 9, 36] }, type := 3, pos := "l12_asks.go:97", after := #[{ on := 0, ground := Ground.data }, { on := 2, ground := Ground.data }, { on := 7, ground := Ground.data }], guard := none }) rfl (fun K hK => ?_) AllReadyH.nil
      go_simp
      refine (HREC.out wD (bx.trans (bX.mono bx.size))).mono ?_
      rintro e wK ⟨rfl, bK⟩
      have bX := bX.trans (bK.mono bX.size)
      refine hK.out _ _ (HC2.out _ bX) (fun hHeld => ?_)
      clear hK K
      try simp only [Act.put, List.setIfInBounds_toArray, List.set_cons_zero, List.set_cons_succ]
      refine wpAnyH_take (i := 9) (oi := { dst := some 11, op := Op.assign (Operand.tmp 37), type := 3, pos := "l12_asks.go:97", after := #[{ on := 8, ground := Ground.data }, { on := 8, ground := Ground.chain }, { on := 0, ground := Ground.phase }, { on := 1, ground := Ground.phase }, { on := 2, ground := Ground.phase }, { on := 3, ground := Ground.phase }, { on := 4, ground := Ground.phase }, { on := 5, ground := Ground.phase }, { on := 6, ground := Ground.phase }, { on := 7, ground := Ground.phase }, { on := 8, ground := Ground.phase }], guard := none }) (v := ?_) rfl (by kernel_rfl) (by kernel_rfl) (by kernel_rfl) (fun _ _ _ h => h) (Or.inl ⟨by rfl, ?_⟩) hHeld ?_
      rotate_left
      · intro w' hSw
        (try dsimp only at hSw)
        go_simp
        try with_reducible rfl
      try simp only [Act.put, List.setIfInBounds_toArray, List.set_cons_zero, List.set_cons_succ]
      refine wpAnyH_done (by kernel_rfl) ?_ _
      obtain ⟨-, -, -, -, o2⟩ := HC2.out wK bX
      have b0K := bx.trans (bX.mono bx.size)
      have bZK := hb.trans (b0K.mono zb)
      clear HC2 HREC HG HCL
      cases gl
      · have HN : Hid (costM p (f + 1) nm ks (k + 1) = A + one) := hid_of (by rw [HSU.out]; simp)
        have hAo : A + one ≤ 1000000000 := by simpa using hB1'
        clear HSU hB1'
        go_wp2_with fail
        go_roundw
        case measure => simp [intOf]; omega
        case rel => exact ⟨k + 1, A + one, by omega, by go_num, by go_num, HN, bZK⟩
      · have HN : Hid (costM p (f + 1) nm ks (k + 1) = A + 1 + 3 * one) := hid_of (by rw [HSU.out]; simp; omega)
        have hAo : A + 1 + 3 * one ≤ 1000000000 := by simp at hB1'; omega
        clear HSU hB1'
        go_wp2_with fail
        go_roundw
        case measure => simp [intOf]; omega
        case rel => exact ⟨k + 1, A + 1 + 3 * one, by omega, by go_num, by go_num, HN, bZK⟩
end Go.Proofs.YtgcfgadkclfonaaGreatDoor

namespace Go.Proofs.YtgcfgadkclfonaaGreatDoor
set_option linter.unusedSimpArgs false
set_option linter.unusedVariables false
open Go.RowKit Go.Shelf Go.Maps
attribute [local go_sem] Oper.semAt_some fault_code

set_option maxRecDepth 20000 in
set_option maxHeartbeats 1600000 in
theorem AskCostS_any (f : Nat) (p : Pt) (ks : List Se) (ka : Option Addr) (kc : Nat) (v : Value) (w : World) (hf : FitS f ks) (hR : SeReps w (· < w.heap.size) ks ka) (hfew : f ≤ 1000000000) (hP : PRep w (· < w.heap.size) p v) (hz : szP p ≤ 1048576) :
    Calls Tryz.prog 19 #[v, .slice ka ks.length kc] w fun e w' => e = .returned (.int .i64 (askCost f p ks : Nat)) ∧ Below w.heap.size w w' := by
  have hP' := hP
  obtain ⟨ta, tc, rfl, -, -, -⟩ := hP
  have bX := below_box w (.cells #[.string p.name, .slice ta p.types.length tc] 34)
  have zX : (w.alloc (.cells #[.string p.name, .slice ta p.types.length tc] 34)).heap.size = w.heap.size + 1 := by simp
  have nX := heap_alloc_new w (.cells #[.string p.name, .slice ta p.types.length tc] 34)
  have HU : Hid (∀ W, Below w.heap.size w W → SeReps W (· < W.heap.size) ks ka ∧ PRep W (· < W.heap.size) p (.agg #[.string p.name, .slice ta p.types.length tc])) := hid_of fun W hW => ⟨(hR.under hW).sub fun b hb => Nat.lt_of_lt_of_le hb hW.size, (hP'.under hW).sub fun b hb => Nat.lt_of_lt_of_le hb hW.size⟩
  obtain ⟨code, hcode⟩ : ∃ code, code = codeO (askChk f p ks) := ⟨_, rfl⟩
  have HC : Hid (∀ W, Below w.heap.size w W → Calls Tryz.prog 8 #[.agg #[.string p.name, .slice ta p.types.length tc], .slice ka ks.length kc] W fun e w' => ∃ a n c, e = .returned (.agg #[.slice a n c, .int .i64 code]) ∧ Below W.heap.size W w') := hid_of fun W hW => (AskCheckS_any f p ks ka kc _ W hf (HU.out W hW).1 hfew (HU.out W hW).2 hz).mono fun e w' h => by
    obtain ⟨a, c, h1, -, h3⟩ := h
    exact ⟨a, _, c, by rw [h1, hcode], h3⟩
  clear hR hP'
  by_cases hc0 : code = 0
  case neg =>
    have HE : Hid (askCost f p ks = 0) := hid_of (by rw [askCost, ← hcode, if_neg hc0])
    have hcb : (code == 0) = false := by simpa using hc0
    have hcn : (code != 0) = true := by simpa using hc0
    clear hcode nX
    go_enter Tryz.func19, Tryz.ntmps19
    go_wp2_with (go_at_call 8; refine (HC.out _ bX).mono ?_; rintro e w1 ⟨a1, n1, c1, rfl, hb1⟩; have b01 := bX.trans (hb1.mono (by omega)))
    go_ret
    rw [HE.out]
    exact ⟨rfl, b01⟩
  subst hc0
  have HE : Hid (askCost f p ks = costM p f qry ks ks.length) := hid_of (by rw [askCost, ← hcode, if_pos rfl])
  have HL : Hid (∀ W, Below w.heap.size w W → Calls Tryz.prog 41 #[.agg #[.string p.name, .slice ta p.types.length tc], .string (⟨#[113, 117, 101, 114, 121]⟩ : ByteArray), .slice ka ks.length kc] W fun e w' => e = .returned (.int .i64 ((askCost f p ks : Nat) : Int)) ∧ Below W.heap.size W w') := hid_of fun W hW => by
    rw [HE.out]
    exact l12Cost_any p _ _ f qry ks W ka kc hf (HU.out W hW).1 (HU.out W hW).2 (Nat.le_trans (askCost_small hf hcode.symm) (by decide))
  generalize askCost f p ks = cost at *
  clear hcode HE
  have HXP : Hid (∀ W', Below (w.heap.size + 1) (w.alloc (.cells #[.string p.name, .slice ta p.types.length tc] 34)) W' → W'.cell? ⟨w.heap.size, 0, none⟩ = some (.string p.name) ∧ W'.cell? ⟨w.heap.size, 1, none⟩ = some (.slice ta p.types.length tc)) := hid_of fun W' hW => by
    have hp := (hW.block _ (by omega)).trans nX
    exact ⟨(box_at hp 0 (by simp)).1, (box_at hp 1 (by simp)).1⟩
  clear nX
  go_enter Tryz.func19, Tryz.ntmps19
  go_wp2_with (first
    | (go_at_call 8; refine (HC.out _ bX).mono ?_; rintro e w1 ⟨a1, n1, c1, rfl, hb1⟩; have b01 := bX.trans (hb1.mono (by omega)); obtain ⟨x0, x1⟩ := HXP.out w1 (by rw [zX] at hb1; exact hb1))
    | (go_at_call 41; refine (HL.out w1 b01).mono ?_; rintro e w2 ⟨rfl, hb2⟩; have b02 := b01.trans (hb2.mono b01.size)))
  go_ret
  exact ⟨rfl, b02⟩
end Go.Proofs.YtgcfgadkclfonaaGreatDoor

namespace Go.Proofs.YtgcfgadkclfonaaGreatDoor
set_option linter.unusedSimpArgs false
set_option linter.unusedVariables false
open Go.RowKit Go.Shelf Go.Maps

set_option maxRecDepth 20000 in
set_option maxHeartbeats 3200000 in
theorem lawAskCost_walk (p : Pt) (ks : List Se) (v : Value) (w : World) (ra : Option Addr) (rc : Nat) (hP : PRep w (· < w.heap.size) p v) (hR : SeReps w (· < w.heap.size) ks ra) (hT : Tab w.heap.size w) :
    Calls Tryz.prog 4 #[v, .slice ra ks.length rc] w fun e w' => e = .returned (.bool true) ∧ Below w.heap.size w w' := by
  obtain ⟨f0, hf0⟩ := FitS.ex hR
  have hP' := hP
  obtain ⟨ta, tc, rfl, -⟩ := hP
  have HTP := hid_of (fun W (hb : Below w.heap.size w W) => toPart_nf p W w.heap.size _ (hP'.under hb) hb.size)
  have HCA := hid_of (fun W (hb : Below w.heap.size w W) => toSelS_nf ks (fun i _ => toSel_any _) W w.heap.size ra rc (hR.under hb) hb.size)
  have HPz := hid_of (fun W (hb : Below w.heap.size w W) => szPart_any p W w.heap.size _ 1048576 (hP'.under hb) hb.size (by omega) (by omega))
  have HSz := hid_of (fun W (hb : Below w.heap.size w W) left h0 h1 => szSelS_two ks (fun i _ => szSel_two _) W w.heap.size ra rc left (hR.under hb) hb.size h0 h1)
  have HT := hid_of hT
  have HF0 := hid_of hf0
  have bX := below_box w (.cells #[.string p.name, .slice ta p.types.length tc] 24)
  have nX := heap_alloc_new w (.cells #[.string p.name, .slice ta p.types.length tc] 24)
  have zX : (w.alloc (.cells #[.string p.name, .slice ta p.types.length tc] 24)).heap.size = w.heap.size + 1 := by simp
  clear hR hT hP' hf0
  go_enter Tryz.func4, Tryz.ntmps4
  go_wp2_with fail
  generalize w.alloc (.cells #[.string p.name, .slice ta p.types.length tc] 24) = X at *
  have HX : Hid (∀ W, Below X.heap.size X W → (W.cell? ⟨w.heap.size, 0, none⟩ = some (.string p.name) ∧ W.cell? ⟨w.heap.size, 1, none⟩ = some (.slice ta p.types.length tc)) ∧ Below w.heap.size w W) := hid_of fun W hW => by
    have h := (hW.block _ (by omega)).trans nX
    exact ⟨⟨(box_at h 0 (by simp)).1, (box_at h 1 (by simp)).1⟩, bX.trans (hW.mono (by omega))⟩
  clear nX
  refine (HPz.out X bX).mono ?_
  rintro e w1 ⟨y, rfl, hy0, hy1, hy2, hb1⟩
  have HY := hid_of hy2
  clear hy2 HPz
  by_cases hy : y < 0
  · go_wp2_with fail
    go_ret
    exact ⟨rfl, (HX.out w1 hb1).2⟩
  go_wp2_with fail
  refine (HSz.out w1 (HX.out w1 hb1).2 y (by omega) (by omega)).mono ?_
  rintro e w2 ⟨u, rfl, hu0, hu1, hu2, hb2⟩
  have x2 := hb1.trans (hb2.mono hb1.size)
  have HU := hid_of hu2
  clear hu2 HSz hb1 hb2
  by_cases hu : u < 0
  · go_wp2_with fail
    go_ret
    exact ⟨rfl, (HX.out w2 x2).2⟩
  have HPZ : Hid (szP p ≤ 1048576) := hid_of (by have := HY.out (by omega); omega)
  obtain ⟨F, hFn, hF⟩ : ∃ F : Nat, F ≤ 1000000000 ∧ Hid (FitS F ks ∧ SmallS F ks) := by
    obtain ⟨-, h2⟩ := HU.out (by omega)
    obtain ⟨F, hF⟩ : ∃ F : Nat, F = 1048576 := ⟨_, rfl⟩
    exact ⟨F, by omega, hid_of ⟨FitS.few f0 HF0.out F (by have := (h2 f0).1; omega), (h2 F).2⟩⟩
  have HCN : Hid (ks.length ≤ 1048576 ∧ ∀ g, cntTo g ks ks.length ≤ 1048576) := hid_of (by
    obtain ⟨h1, h2⟩ := HU.out (by omega)
    exact ⟨by omega, fun g => by have := (h2 g).1; omega⟩)
  clear HY HU
  obtain ⟨cost, HWC⟩ : ∃ cost, Hid (askCost F p ks = cost) := ⟨_, hid_of rfl⟩
  have HIM : Hid (∀ W P B ka kc v', AskIn F ks P B ka W → PRep W (· < W.heap.size) p v' → Calls Tryz.prog 20 #[v', .slice ka ks.length kc] W fun e w' => e = .returned (.int .i64 ((cost : Nat) : Int)) ∧ Below W.heap.size W w') := hid_of fun W P B ka kc v' h hv => (AskCostI_any F p ks P B ka kc v' W h hv HPZ.out).mono fun e w' h => by
    rw [HWC.out] at h
    exact h
  obtain ⟨⟨p0, p1⟩, bw2⟩ := HX.out w2 x2
  go_wp2_with fail
  clear p0 p1
  refine (HTP.out w2 bw2).mono ?_
  rintro e w3 ⟨ta3, tc3, rfl, hb3, hR3, -⟩
  have x3 := x2.trans (hb3.mono x2.size)
  have HR3 := hid_of hR3
  clear hR3
  go_wp2_with fail
  refine (HCA.out w3 (HX.out w3 x3).2).mono ?_
  rintro e w4 ⟨rfl, hb4, z4, hR4, -⟩
  have x4 := x3.trans (hb4.mono x3.size)
  have HSp : Hid (Calls Tryz.prog 19 #[.agg #[.string p.name, .slice ta3 p.types.length tc3], .slice (some ⟨w3.heap.size, 0, none⟩) ks.length ks.length] w4 fun e w' => e = .returned (.int .i64 ((cost : Nat) : Int)) ∧ Below w4.heap.size w4 w') := hid_of ((AskCostS_any F p ks (some ⟨w3.heap.size, 0, none⟩) ks.length _ w4 hF.out.1 (hR4.sub fun b hb => hb.2) hFn ((HR3.out.mono fun j hj => hb4.block j hj.2).sub fun j hj => by have := hb4.size; omega) HPZ.out).mono fun e w' h => by
    rw [HWC.out] at h
    exact h)
  clear hR4 HR3 HWC
  go_wp2_with fail
  refine HSp.out.mono ?_
  rintro e w5 ⟨rfl, hb5⟩
  have x5 := x4.trans (hb5.mono x4.size)
  clear HSp hb3 hb4 z4
  obtain ⟨⟨p0, p1⟩, bw5⟩ := HX.out _ x5
  go_wp2_with fail
  clear p0 p1
  refine (HTP.out w5 bw5).mono ?_
  rintro e w6 ⟨ta6, tc6, rfl, hb6, hR6, hN6⟩
  have x6 := x5.trans (hb6.mono x5.size)
  have s6 := hb6.size
  have HR6 := hid_of hR6
  have b6a := below_box w6 (.cells #[.string p.name, .slice ta6 p.types.length tc6] 34)
  have n6 := heap_alloc_new w6 (.cells #[.string p.name, .slice ta6 p.types.length tc6] 34)
  have z6a : (w6.alloc (.cells #[.string p.name, .slice ta6 p.types.length tc6] 34)).heap.size = w6.heap.size + 1 := by simp
  have x6a := x6.trans (b6a.mono x6.size)
  have bw6 := (HX.out _ x6a).2
  clear hR6 hN6
  go_wp2_with fail
  generalize w6.alloc (.cells #[.string p.name, .slice ta6 p.types.length tc6] 34) = Y6 at *
  refine (HCA.out Y6 bw6).mono ?_
  rintro e w7 ⟨rfl, hb7, z7, hR7, hN7⟩
  replace hR7 : SeReps w7 (fun b => Y6.heap.size ≤ b ∧ b < w7.heap.size) ks (some ⟨w6.heap.size + 1, 0, none⟩) := by rw [← z6a]; exact hR7
  have x7 := x6a.trans (hb7.mono x6a.size)
  have bw7 := (HX.out _ x7).2
  have B67 : Below w6.heap.size w6 w7 := b6a.trans (hb7.mono b6a.size)
  have HI7 := hid_of (askIn_copied hF.out.1 hF.out.2 hFn hR7 hN7 ((HT.out.on bw7).up bw7.size))
  have HR7 := hid_of hR7
  have n67 := (hb7.block _ (by omega)).trans n6
  obtain ⟨q0, -⟩ := box_at n67 0 (by simp)
  obtain ⟨q1, -⟩ := box_at n67 1 (by simp)
  simp only [List.getElem_toArray, List.getElem_cons_succ, List.getElem_cons_zero] at q0 q1
  have HP7 : Hid (PRep w7 (· < w7.heap.size) p (.agg #[.string p.name, .slice ta6 p.types.length tc6])) := hid_of ((HR6.out.mono fun k hk => B67.block k hk.2).sub fun k hk => show k < w7.heap.size by omega)
  have HIm := hid_of (HIM.out w7 _ _ (some ⟨w6.heap.size + 1, 0, none⟩) ks.length _ HI7.out HP7.out)
  clear hR7 hN7
  go_wp2_with fail
  clear q0 q1
  refine HIm.out.mono ?_
  rintro e w8 ⟨rfl, hb8⟩
  have x8 := x7.trans (hb8.mono x7.size)
  have s8 := hb8.size
  clear HI7 HP7 HIm
  have B68 : Below w6.heap.size w6 w8 := B67.trans (hb8.mono B67.size)
  have KX : Hid (∀ W, Below w8.heap.size w8 W → (W.cell? ⟨w.heap.size, 0, none⟩ = some (.string p.name) ∧ W.cell? ⟨w.heap.size, 1, none⟩ = some (.slice ta p.types.length tc)) ∧ Below w.heap.size w W) := hid_of fun W hW => HX.out W (x8.trans (hW.mono x8.size))
  have n68 := (hb8.block _ (by omega)).trans n67
  have K7 : Hid (∀ W, Below w8.heap.size w8 W → (W.cell? ⟨w6.heap.size, 0, none⟩ = some (.string p.name) ∧ W.cell? ⟨w6.heap.size, 1, none⟩ = some (.slice ta6 p.types.length tc6)) ∧ PRep W (· < W.heap.size) p (.agg #[.string p.name, .slice ta6 p.types.length tc6])) := hid_of fun W hW => by
    have h := (hW.block _ (by omega)).trans n68
    have b6 := B68.trans (hW.mono B68.size)
    exact ⟨⟨(box_at h 0 (by simp)).1, (box_at h 1 (by simp)).1⟩, (HR6.out.mono fun k hk => b6.block k hk.2).sub fun k hk => by have := b6.size; show k < _; omega⟩
  have KS : Hid (∀ W, Below w8.heap.size w8 W → SeReps W (fun b => Y6.heap.size ≤ b ∧ b < w7.heap.size) ks (some ⟨w6.heap.size + 1, 0, none⟩)) := hid_of fun W hW => HR7.out.mono fun k hk => (hW.block k (by omega)).trans (hb8.block k hk.2)
  clear n68 B68 n67 n6 hb6 hb7 hb8 B67 b6a x2 x3 x4 x5 x6 x6a x7 x8 bw2 bw5 bw6 bw7 hb5
  obtain ⟨⟨p0, p1⟩, x8⟩ := KX.out w8 (Below.refl _ _)
  obtain ⟨⟨q0, q1⟩, -⟩ := K7.out w8 (Below.refl _ _)
  have HX8 := hid_of (K7.out w8 (Below.refl _ _)).2
  have l0 : w.heap.size < w8.heap.size := World.block_lt_of_cell? w8 _ p0
  have l6 : w6.heap.size < w8.heap.size := World.block_lt_of_cell? w8 _ q0
  go_wp2_with fail
  go_region_held3 (fun w' => w'.cell? ⟨w.heap.size, 0, none⟩ = some (.string p.name) ∧ w'.cell? ⟨w.heap.size, 1, none⟩ = some (.slice ta p.types.length tc) ∧ w'.cell? ⟨w6.heap.size, 0, none⟩ = some (.string p.name) ∧ w'.cell? ⟨w6.heap.size, 1, none⟩ = some (.slice ta6 p.types.length tc6)) (go_keep)
    (first
      | (
        go_at_call 9
        refine (HTP.out w8.drew x8.drew).mono ?_
        rintro e w10 ⟨ta7, tc7, rfl, hb10, hr10, -⟩
        have hb10' := below_undrew hb10
        have z10 := hb10'.size
        have p70 := (hb10'.cell (p := ⟨w.heap.size, 0, none⟩) (by show w.heap.size < _; omega)).trans p0
        have p71 := (hb10'.cell (p := ⟨w.heap.size, 1, none⟩) (by show w.heap.size < _; omega)).trans p1
        have q70 := (hb10'.cell (p := ⟨w6.heap.size, 0, none⟩) (by show w6.heap.size < _; omega)).trans q0
        have q71 := (hb10'.cell (p := ⟨w6.heap.size, 1, none⟩) (by show w6.heap.size < _; omega)).trans q1
        have hX10 : PRep w10 (· < w10.heap.size) p (.agg #[.string p.name, .slice ta6 p.types.length tc6]) := (HX8.out.mono fun k hk => hb10'.block k hk).sub fun k hk => Nat.lt_of_lt_of_le hk z10)
      | (
        go_at_call 13
        refine (eqPart_any p w10 w10.heap.size _ _ hX10 (hr10.sub fun k hk => hk.2) (Nat.le_refl _)).mono ?_
        rintro e w11 ⟨rfl, hb11⟩
        have p80 := (hb11.cell (p := ⟨w.heap.size, 0, none⟩) (by show w.heap.size < _; omega)).trans p70
        have p81 := (hb11.cell (p := ⟨w.heap.size, 1, none⟩) (by show w.heap.size < _; omega)).trans p71
        have q80 := (hb11.cell (p := ⟨w6.heap.size, 0, none⟩) (by show w6.heap.size < _; omega)).trans q70
        have q81 := (hb11.cell (p := ⟨w6.heap.size, 1, none⟩) (by show w6.heap.size < _; omega)).trans q71))
  have b11 : Below w8.heap.size w8 w11 := hb10'.trans (hb11.mono z10)
  have z11 := b11.size
  clear p0 p1 q0 q1 p70 p71 q70 q71 p80 p81 q80 q81 hX10 hr10 hb10 hb10' hb11
  go_wp2_with fail
  refine (HCA.out w11 (KX.out w11 b11).2).mono ?_
  rintro e w12 ⟨rfl, hb12, z12, hR12, -⟩
  have b12 := b11.trans (hb12.mono z11)
  have HE2 := hid_of (eqSelS_any ks (fun i _ => eqSel_any _) w12 w12.heap.size (some ⟨w6.heap.size + 1, 0, none⟩) (some ⟨w11.heap.size, 0, none⟩) ks.length ks.length ((KS.out w12 b12).sub fun b hb => by show b < _; have := b12.size; omega) (hR12.sub fun b hb => hb.2) (Nat.le_refl _))
  clear hR12
  go_wp2_with fail
  refine HE2.out.mono ?_
  rintro e w13 ⟨rfl, hb13⟩
  clear HE2
  have HBB := hid_of (KX.out w13 (b12.trans (hb13.mono b12.size))).2
  go_wp2_with fail
  go_ret
  exact ⟨rfl, HBB.out⟩
end Go.Proofs.YtgcfgadkclfonaaGreatDoor

namespace Go.Proofs.YtgcfgadkclfonaaGreatDoor
set_option linter.unusedSimpArgs false
set_option linter.unusedVariables false
open Go.ChangeShapes Go.WideShapes Go.ChangeAt Go.RowKit

theorem door_metN (os : Os) (args : Array Value) : laidMetH Tryz.prog Rows.fnExactAskCostRow.laid ((World.doorLaid Tryz.prog 24 os).forCall (fun _ _ => 0) ⟨#[], args, []⟩).memory :=
  laidMetH_of_parts3 (fuel := 8) (laidMet_of_run' 8 (by kernel_rfl) (by kernel_rfl)) (by kernel_rfl) (by kernel_rfl)
theorem tab_of_laidN {W : World} (h : laidMetH Tryz.prog Rows.fnExactAskCostRow.laid W) : Tab W.heap.size W := by
  rw [MakeChecks.laidMetH_plain _ _ _ (by kernel_rfl)] at h
  have h1 : Lib.TabIs Tryz.prog W "internal/strconv.uint64pow10" .u64 Lib.pow10Tab := Lib.tabIs_of_head (rest := []) Tryz.gpow Tryz.tpow Tryz.underlying194 Tryz.underlying187 Tryz.cu64 Tryz.cpow (laidMet.tail (laidMet.tail h))
  exact Lib.tabBelow_of_tabIs h1
end Go.Proofs.YtgcfgadkclfonaaGreatDoor
