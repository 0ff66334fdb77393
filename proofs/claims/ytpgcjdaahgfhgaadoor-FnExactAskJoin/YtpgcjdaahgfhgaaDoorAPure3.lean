/-
  The text of an ask while it is being written: lists that are open, what is known of lists that are written: pure.
-/
import Derived.Test.YtpgcjdaahgfhgaaDoorAFit
import Derived.Test.YtpgcjdaahgfhgaaDoorAPure2
namespace Go.Proofs.YtpgcjdaahgfhgaaDoor
set_option linter.unusedSimpArgs false
set_option linter.unusedVariables false
open Go.RowKit

/-- The text does not change beyond the levels that there are. -/
theorem txtTo_fit : ∀ {f : Nat} {ks : List Se} (g n : Nat), FitS f ks → f ≤ g → n ≤ ks.length → txtTo g ks n = txtTo f ks n
  | 0, ks, g, n, h, _, hn => by
    have e : ks = [] := h
    subst e
    have : n = 0 := by simpa using hn
    subst this
    cases g <;> simp [txtTo]
  | f + 1, ks, g, 0, h, hg, hn => by cases g <;> simp [txtTo]
  | f + 1, ks, 0, n + 1, h, hg, hn => by omega
  | f + 1, ks, g + 1, n + 1, h, hg, hn => by
    rw [txtTo_succ, txtTo_succ, txtTo_fit (g + 1) n h hg (by omega), txtTo_fit g _ (h n (by omega)) (by omega) (Nat.le_refl _)]
theorem txtL_fit {f g : Nat} {ks : List Se} (hf : FitS f ks) (hg : FitS g ks) : txtL f ks = txtL g ks := by
  unfold txtL
  rcases Nat.le_total f g with h | h
  · rw [txtTo_fit g _ hf h (Nat.le_refl _)]
  · rw [txtTo_fit f _ hg h (Nat.le_refl _)]
/-- A part of a list is written at the beginning. -/
theorem txtTo_pre : ∀ (f : Nat) (ks : List Se) (d n : Nat), d ≤ n → ∃ t, txtTo f ks n = txtTo f ks d ++ t
  | 0, ks, d, n, h => ⟨[], by simp [txtTo]⟩
  | f + 1, ks, d, 0, h => by
    have e : d = 0 := by omega
    subst e
    exact ⟨[], by simp⟩
  | f + 1, ks, d, n + 1, h => by
    by_cases e : d = n + 1
    · subst e; exact ⟨[], by simp⟩
    · obtain ⟨t, ht⟩ := txtTo_pre (f + 1) ks d n (by omega)
      exact ⟨_, by rw [txtTo_succ, ht, List.append_assoc]⟩
/-- What is still to be written of a list: the fields from one on, and the bracket. -/
def restTo (f : Nat) (ks : List Se) (d : Nat) : List UInt8 := (txtTo f ks ks.length).drop (txtTo f ks d).length ++ [125]
theorem restTo_eq (f : Nat) (ks : List Se) (d : Nat) (h : d ≤ ks.length) : txtTo f ks d ++ restTo f ks d = txtTo f ks ks.length ++ [125] := by
  obtain ⟨t, ht⟩ := txtTo_pre f ks d _ h
  unfold restTo
  rw [ht, List.drop_left, List.append_assoc]
theorem restTo_end (f : Nat) (ks : List Se) : restTo f ks ks.length = [125] := by simp [restTo]
theorem restTo_all (f : Nat) (ks : List Se) : 123 :: restTo f ks 0 = txtL f ks := by
  have h := restTo_eq f ks 0 (Nat.zero_le _)
  have e : txtTo f ks 0 = [] := by cases f <;> simp [txtTo]
  rw [e, List.nil_append] at h
  rw [h]; rfl
/-- The next field. -/
theorem restTo_next (f : Nat) (ks : List Se) (d : Nat) (h : d < ks.length) :
    restTo (f + 1) ks d = ((if d = 0 then [] else [44]) ++ headL (sth ks d)) ++ ((if (sth ks d).kids.isEmpty = true then [] else txtL f (sth ks d).kids) ++ restTo (f + 1) ks (d + 1)) := by
  have h1 := restTo_eq (f + 1) ks d (by omega)
  have h2 := restTo_eq (f + 1) ks (d + 1) (by omega)
  rw [← h2, txtTo_succ, List.append_assoc, List.append_cancel_left_eq] at h1
  unfold txtL
  rw [h1]
  simp only [List.append_assoc]

/-- Fields that are being written: where they stand, how many are done, and from where on. -/
structure Op where
  b : Nat
  o : Nat
  c : Nat
  f : Nat
  g : Nat
  ks : List Se
  d : Nat
  x : Nat
def Op.cells (p : Op) : List Value := [.slice (some ⟨p.b, p.o, none⟩) p.ks.length p.c, .int .i64 p.d, .int .i64 p.x]
/-- What is still to be written of all that is open. -/
def rests : List Op → List UInt8
  | [] => []
  | p :: r => restTo p.f p.ks p.d ++ rests r
theorem rests_len : ∀ r : List Op, r.length ≤ (rests r).length
  | [] => by simp [rests]
  | p :: r => by
    have := rests_len r
    simp only [rests, restTo, List.length_append, List.length_cons, List.length_nil]
    omega
/-- From where on each list stands in the text so far. -/
def OpsOk (T : List UInt8) : List UInt8 → List Op → Prop
  | _, [] => True
  | acc, p :: r => p.x ≤ T.length ∧ p.d ≤ p.ks.length ∧ T.drop p.x ++ (acc ++ restTo p.f p.ks p.d) = txtL p.f p.ks ∧ OpsOk T (acc ++ restTo p.f p.ks p.d) r
/-- What is written next is taken from what is still to be written. -/
theorem OpsOk.next {T x : List UInt8} : ∀ {r : List Op} {acc acc' : List UInt8}, OpsOk T acc r → acc = x ++ acc' → OpsOk (T ++ x) acc' r
  | [], _, _, _, _ => trivial
  | p :: r, acc, acc', h, e => by
    obtain ⟨h1, h2, h3, h4⟩ := h
    subst e
    refine ⟨by simp; omega, h2, ?_, OpsOk.next h4 (by rw [List.append_assoc])⟩
    rw [← h3, List.drop_append_of_le_length h1]
    simp
/-- The topmost goes on. -/
theorem OpsOk.step {T x : List UInt8} {p : Op} {r : List Op} (h : OpsOk T [] (p :: r)) {d : Nat} (hd : d ≤ p.ks.length) (e : restTo p.f p.ks p.d = x ++ restTo p.f p.ks d) : OpsOk (T ++ x) [] ({ p with d := d } :: r) := by
  obtain ⟨h1, h2, h3, h4⟩ := h
  refine ⟨by simp; omega, hd, ?_, ?_⟩
  · rw [← h3, List.drop_append_of_le_length h1, List.nil_append, List.nil_append, e]
    simp
  · exact h4.next (by rw [List.nil_append, e, List.nil_append])
/-- The topmost is open, one of its fields has a list of its own that is begun. -/
theorem OpsOk.push {T x : List UInt8} {p q : Op} {r : List Op} (h : OpsOk T [] (p :: r)) {d : Nat} (hd : d ≤ p.ks.length) (e : restTo p.f p.ks p.d = x ++ (txtL q.f q.ks ++ restTo p.f p.ks d)) (hq : q.d = 0) (hx : q.x = (T ++ x).length) :
    OpsOk (T ++ x ++ [123]) [] (q :: { p with d := d } :: r) := by
  obtain ⟨h1, h2, h3, h4⟩ := h
  have hall := restTo_all q.f q.ks
  have e2 : restTo p.f p.ks p.d = (x ++ [123]) ++ (restTo q.f q.ks q.d ++ restTo p.f p.ks d) := by
    rw [e, ← hall, hq]; simp
  refine ⟨by rw [hx]; simp, by rw [hq]; omega, ?_, by simp; omega, hd, ?_, ?_⟩
  · rw [hx, List.drop_append_of_le_length (by simp), List.drop_length, hq, ← hall]; rfl
  · rw [← h3, List.append_assoc, List.drop_append_of_le_length h1, List.nil_append, List.nil_append, e2]
    simp
  · rw [List.append_assoc]
    exact h4.next (by rw [List.nil_append, e2, List.nil_append])
/-- The topmost is done. -/
theorem OpsOk.pop {T : List UInt8} {p : Op} {r : List Op} (h : OpsOk T [] (p :: r)) (hd : p.d = p.ks.length) : OpsOk (T ++ [125]) [] r ∧ (T ++ [125]).drop p.x = txtL p.f p.ks ∧ p.x ≤ T.length := by
  obtain ⟨h1, h2, h3, h4⟩ := h
  rw [hd, restTo_end] at h3 h4
  refine ⟨h4.next (by simp), ?_, h1⟩
  rw [← h3, List.drop_append_of_le_length h1]; rfl

/-- One place holds one list of fields. -/
theorem seN_one {w : World} {P Q : Nat → Prop} : ∀ (f : Nat) {x y : Se} {v : Value}, SeN w P f x v → SeRep w Q y v → x = y
  | 0, _, _, _, h, _ => h.elim
  | f + 1, x, y, v, h, h' => by
    obtain ⟨s, n, o, id, ks⟩ := x
    obtain ⟨s', n', o', id', ks'⟩ := y
    obtain ⟨ka, kc, C, h1, -, -, -, h5, h6⟩ := h
    obtain ⟨ka', kc', g1, -, -, -, C', g5, g6⟩ := h'.inv
    rw [h1] at g1
    simp only [Value.agg.injEq, Array.mk.injEq, List.cons.injEq, and_true, Value.int.injEq, true_and, Value.string.injEq, Value.slice.injEq, Value.bool.injEq] at g1
    obtain ⟨rfl, rfl, rfl, rfl, rfl, e2, rfl⟩ := g1
    simp only at e2 h5 h6
    have hks : ks = ks' := by
      by_cases hn : ks = []
      · subst hn
        exact (List.length_eq_zero_iff.1 e2.symm).symm
      · have hl : 0 < ks.length := List.length_pos_iff.2 hn
        obtain ⟨b, off, rfl, -, hc⟩ := h5 hl
        obtain ⟨b', off', e', -, hc'⟩ := g5 (by omega)
        simp only [Option.some.injEq, Addr.mk.injEq, and_true] at e'
        obtain ⟨rfl, rfl⟩ := e'
        apply List.ext_getElem e2
        intro i hi hi'
        have hC : ∀ j, j < 5 → C i j = C' i j := fun j hj => Option.some.inj ((hc i hi j hj).symm.trans (hc' i hi' j hj))
        have r1 := h6 i hi
        have r2 := g6 i hi'
        rw [← hC 0 (by omega), ← hC 1 (by omega), ← hC 2 (by omega), ← hC 3 (by omega), ← hC 4 (by omega)] at r2
        have := seN_one f r1 r2
        simpa [sth, List.getD_eq_getElem?_getD, List.getElem?_eq_getElem hi, List.getElem?_eq_getElem hi'] using this
    rw [hks]
theorem seReps_one {w : World} {P Q : Nat → Prop} {a c : List Se} {A : Option Addr} (h : SeReps w P a A) (h' : SeReps w Q c A) (hl : a.length = c.length) : a = c := by
  obtain ⟨-, C, h5, h6⟩ := h
  obtain ⟨-, C', g5, g6⟩ := h'
  by_cases hn : a = []
  · subst hn
    exact (List.length_eq_zero_iff.1 hl.symm).symm
  · have hp : 0 < a.length := List.length_pos_iff.2 hn
    obtain ⟨b, off, rfl, -, hc⟩ := h5 hp
    obtain ⟨b', off', e', -, hc'⟩ := g5 (by omega)
    simp only [Option.some.injEq, Addr.mk.injEq, and_true] at e'
    obtain ⟨rfl, rfl⟩ := e'
    apply List.ext_getElem hl
    intro i hi hi'
    have hC : ∀ j, j < 5 → C i j = C' i j := fun j hj => Option.some.inj ((hc i hi j hj).symm.trans (hc' i hi' j hj))
    obtain ⟨f, r1⟩ := h6 i hi
    have r2 := g6 i hi'
    rw [← hC 0 (by omega), ← hC 1 (by omega), ← hC 2 (by omega), ← hC 3 (by omega), ← hC 4 (by omega)] at r2
    have := seN_one f r1 r2
    simpa [sth, List.getD_eq_getElem?_getD, List.getElem?_eq_getElem hi, List.getElem?_eq_getElem hi'] using this
/-- What is ok of a list is ok of one of its fields. -/
theorem okTo_at {f d : Nat} {ks : List Se} : ∀ {n i : Nat}, okTo (f + 1) d ks n = true → i < n → selB (sth ks i) = true ∧ okTo f (d + 1) (sth ks i).kids (sth ks i).kids.length = true
  | 0, i, _, h => by omega
  | n + 1, i, h, hi => by
    rw [okTo_succ, Bool.and_eq_true] at h
    by_cases e : i = n
    · subst e
      simp only [Bool.and_eq_true] at h
      exact ⟨h.2.1.1, h.2.2.2⟩
    · exact okTo_at h.1 (by omega)
theorem headL_pos {s : Se} (h : selB s = true) : 0 < (headL s).length := by
  simp only [selB, Bool.and_eq_true] at h
  have h1 := h.1.1.1
  simp only [nameB, wordB, Bool.and_eq_true, decide_eq_true_eq] at h1
  have h2 : 1 ≤ s.name.size := h1.1.1.1.1.1.1.1.1.1.1.1.1.1
  have h3 := toList_len s.name
  unfold headL
  rw [List.length_append, List.length_append]
  omega
end Go.Proofs.YtpgcjdaahgfhgaaDoor
