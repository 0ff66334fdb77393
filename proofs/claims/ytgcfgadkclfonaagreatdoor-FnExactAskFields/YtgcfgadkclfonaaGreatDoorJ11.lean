import Derived.Test.YtgcfgadkclfonaaGreatDoorJ8
import Derived.Test.YtgcfgadkclfonaaGreatDoorJ2
import Derived.Test.YtgcfgadkclfonaaGreatDoorIShelf
import Derived.Shelf.Strings.BuilderK
import Derived.Lib.FrozenHead2
import Derived.Lib.OthersKept
import Derived.Shelf.RegionOpenPlain
import Derived.Laws.Externs
import Derived.Lib.Walk
import Derived.Deep.AppendLies
import Derived.Shelf.Strconv.Itoa3
import Derived.Test.YtgcfgadkclfonaaGreatDoorWords
namespace Go.Proofs.YtgcfgadkclfonaaGreatDoor
set_option linter.unusedSimpArgs false
set_option linter.unusedVariables false
open Go.RowKit

/-- The text does not change beyond the levels that there are. -/
theorem txtTo_fit : ∀ {f : Nat} {ks : List Se} (g n : Nat), FitS f ks → f ≤ g → n ≤ ks.length → txtTo g ks n = txtTo f ks n
  | 0, ks, g, n, h, _, hn => by
    have e : ks = [] := h
    subst e
    have : n = 0 := by simpa using hn
    subst this
    cases g <;> simp [txtTo]
  | f + 1, ks, g, 0, h, hg, hn => by cases g <;> simp [txtTo]
  | f + 1, ks, 0, n + 1, h, hg, hn => by omega
  | f + 1, ks, g + 1, n + 1, h, hg, hn => by
    rw [txtTo_succ, txtTo_succ, txtTo_fit (g + 1) n h hg (by omega), txtTo_fit g _ (h n (by omega)) (by omega) (Nat.le_refl _)]
theorem txtL_fit {f g : Nat} {ks : List Se} (hf : FitS f ks) (hg : FitS g ks) : txtL f ks = txtL g ks := by
  unfold txtL
  rcases Nat.le_total f g with h | h
  · rw [txtTo_fit g _ hf h (Nat.le_refl _)]
  · rw [txtTo_fit f _ hg h (Nat.le_refl _)]
/-- A part of a list is written at the beginning. -/
theorem txtTo_pre : ∀ (f : Nat) (ks : List Se) (d n : Nat), d ≤ n → ∃ t, txtTo f ks n = txtTo f ks d ++ t
  | 0, ks, d, n, h => ⟨[], by simp [txtTo]⟩
  | f + 1, ks, d, 0, h => by
    have e : d = 0 := by omega
    subst e
    exact ⟨[], by simp⟩
  | f + 1, ks, d, n + 1, h => by
    by_cases e : d = n + 1
    · subst e; exact ⟨[], by simp⟩
    · obtain ⟨t, ht⟩ := txtTo_pre (f + 1) ks d n (by omega)
      exact ⟨_, by rw [txtTo_succ, ht, List.append_assoc]⟩
/-- What is still to be written of a list: the fields from one on, and the bracket. -/
def restTo (f : Nat) (ks : List Se) (d : Nat) : List UInt8 := (txtTo f ks ks.length).drop (txtTo f ks d).length ++ [125]
theorem restTo_eq (f : Nat) (ks : List Se) (d : Nat) (h : d ≤ ks.length) : txtTo f ks d ++ restTo f ks d = txtTo f ks ks.length ++ [125] := by
  obtain ⟨t, ht⟩ := txtTo_pre f ks d _ h
  unfold restTo
  rw [ht, List.drop_left, List.append_assoc]
theorem restTo_end (f : Nat) (ks : List Se) : restTo f ks ks.length = [125] := by simp [restTo]
theorem restTo_all (f : Nat) (ks : List Se) : 123 :: restTo f ks 0 = txtL f ks := by
  have h := restTo_eq f ks 0 (Nat.zero_le _)
  have e : txtTo f ks 0 = [] := by cases f <;> simp [txtTo]
  rw [e, List.nil_append] at h
  rw [h]; rfl
/-- The next field. -/
theorem restTo_next (f : Nat) (ks : List Se) (d : Nat) (h : d < ks.length) :
    restTo (f + 1) ks d = ((if d = 0 then [] else [44]) ++ headL (sth ks d)) ++ ((if (sth ks d).kids.isEmpty = true then [] else txtL f (sth ks d).kids) ++ restTo (f + 1) ks (d + 1)) := by
  have h1 := restTo_eq (f + 1) ks d (by omega)
  have h2 := restTo_eq (f + 1) ks (d + 1) (by omega)
  rw [← h2, txtTo_succ, List.append_assoc, List.append_cancel_left_eq] at h1
  unfold txtL
  rw [h1]
  simp only [List.append_assoc]

/-- Fields that are being written: where they stand, how many are done, and from where on. -/
structure Op where
  b : Nat
  o : Nat
  c : Nat
  f : Nat
  g : Nat
  ks : List Se
  d : Nat
  x : Nat
def Op.cells (p : Op) : List Value := [.slice (some ⟨p.b, p.o, none⟩) p.ks.length p.c, .int .i64 p.d, .int .i64 p.x]
/-- What is still to be written of all that is open. -/
def rests : List Op → List UInt8
  | [] => []
  | p :: r => restTo p.f p.ks p.d ++ rests r
theorem rests_len : ∀ r : List Op, r.length ≤ (rests r).length
  | [] => by simp [rests]
  | p :: r => by
    have := rests_len r
    simp only [rests, restTo, List.length_append, List.length_cons, List.length_nil]
    omega
/-- From where on each list stands in the text so far. -/
def OpsOk (T : List UInt8) : List UInt8 → List Op → Prop
  | _, [] => True
  | acc, p :: r => p.x ≤ T.length ∧ p.d ≤ p.ks.length ∧ T.drop p.x ++ (acc ++ restTo p.f p.ks p.d) = txtL p.f p.ks ∧ OpsOk T (acc ++ restTo p.f p.ks p.d) r
/-- What is written next is taken from what is still to be written. -/
theorem OpsOk.next {T x : List UInt8} : ∀ {r : List Op} {acc acc' : List UInt8}, OpsOk T acc r → acc = x ++ acc' → OpsOk (T ++ x) acc' r
  | [], _, _, _, _ => trivial
  | p :: r, acc, acc', h, e => by
    obtain ⟨h1, h2, h3, h4⟩ := h
    subst e
    refine ⟨by simp; omega, h2, ?_, OpsOk.next h4 (by rw [List.append_assoc])⟩
    rw [← h3, List.drop_append_of_le_length h1]
    simp
/-- The topmost goes on. -/
theorem OpsOk.step {T x : List UInt8} {p : Op} {r : List Op} (h : OpsOk T [] (p :: r)) {d : Nat} (hd : d ≤ p.ks.length) (e : restTo p.f p.ks p.d = x ++ restTo p.f p.ks d) : OpsOk (T ++ x) [] ({ p with d := d } :: r) := by
  obtain ⟨h1, h2, h3, h4⟩ := h
  refine ⟨by simp; omega, hd, ?_, ?_⟩
  · rw [← h3, List.drop_append_of_le_length h1, List.nil_append, List.nil_append, e]
    simp
  · exact h4.next (by rw [List.nil_append, e, List.nil_append])
/-- The topmost is open, one of its fields has a list of its own that is begun. -/
theorem OpsOk.push {T x : List UInt8} {p q : Op} {r : List Op} (h : OpsOk T [] (p :: r)) {d : Nat} (hd : d ≤ p.ks.length) (e : restTo p.f p.ks p.d = x ++ (txtL q.f q.ks ++ restTo p.f p.ks d)) (hq : q.d = 0) (hx : q.x = (T ++ x).length) :
    OpsOk (T ++ x ++ [123]) [] (q :: { p with d := d } :: r) := by
  obtain ⟨h1, h2, h3, h4⟩ := h
  have hall := restTo_all q.f q.ks
  have e2 : restTo p.f p.ks p.d = (x ++ [123]) ++ (restTo q.f q.ks q.d ++ restTo p.f p.ks d) := by
    rw [e, ← hall, hq]; simp
  refine ⟨by rw [hx]; simp, by rw [hq]; omega, ?_, by simp; omega, hd, ?_, ?_⟩
  · rw [hx, List.drop_append_of_le_length (by simp), List.drop_length, hq, ← hall]; rfl
  · rw [← h3, List.append_assoc, List.drop_append_of_le_length h1, List.nil_append, List.nil_append, e2]
    simp
  · rw [List.append_assoc]
    exact h4.next (by rw [List.nil_append, e2, List.nil_append])
/-- The topmost is done. -/
theorem OpsOk.pop {T : List UInt8} {p : Op} {r : List Op} (h : OpsOk T [] (p :: r)) (hd : p.d = p.ks.length) : OpsOk (T ++ [125]) [] r ∧ (T ++ [125]).drop p.x = txtL p.f p.ks ∧ p.x ≤ T.length := by
  obtain ⟨h1, h2, h3, h4⟩ := h
  rw [hd, restTo_end] at h3 h4
  refine ⟨h4.next (by simp), ?_, h1⟩
  rw [← h3, List.drop_append_of_le_length h1]; rfl

/-- One place holds one list of fields. -/
theorem seN_one {w : World} {P Q : Nat → Prop} : ∀ (f : Nat) {x y : Se} {v : Value}, SeN w P f x v → SeRep w Q y v → x = y
  | 0, _, _, _, h, _ => h.elim
  | f + 1, x, y, v, h, h' => by
    obtain ⟨s, n, o, id, ks⟩ := x
    obtain ⟨s', n', o', id', ks'⟩ := y
    obtain ⟨ka, kc, C, h1, -, -, -, h5, h6⟩ := h
    obtain ⟨ka', kc', g1, -, -, -, C', g5, g6⟩ := h'.inv
    rw [h1] at g1
    simp only [Value.agg.injEq, Array.mk.injEq, List.cons.injEq, and_true, Value.int.injEq, true_and, Value.string.injEq, Value.slice.injEq, Value.bool.injEq] at g1
    obtain ⟨rfl, rfl, rfl, rfl, rfl, e2, rfl⟩ := g1
    simp only at e2 h5 h6
    have hks : ks = ks' := by
      by_cases hn : ks = []
      · subst hn
        exact (List.length_eq_zero_iff.1 e2.symm).symm
      · have hl : 0 < ks.length := List.length_pos_iff.2 hn
        obtain ⟨b, off, rfl, -, hc⟩ := h5 hl
        obtain ⟨b', off', e', -, hc'⟩ := g5 (by omega)
        simp only [Option.some.injEq, Addr.mk.injEq, and_true] at e'
        obtain ⟨rfl, rfl⟩ := e'
        apply List.ext_getElem e2
        intro i hi hi'
        have hC : ∀ j, j < 5 → C i j = C' i j := fun j hj => Option.some.inj ((hc i hi j hj).symm.trans (hc' i hi' j hj))
        have r1 := h6 i hi
        have r2 := g6 i hi'
        rw [← hC 0 (by omega), ← hC 1 (by omega), ← hC 2 (by omega), ← hC 3 (by omega), ← hC 4 (by omega)] at r2
        have := seN_one f r1 r2
        simpa [sth, List.getD_eq_getElem?_getD, List.getElem?_eq_getElem hi, List.getElem?_eq_getElem hi'] using this
    rw [hks]
theorem seReps_one {w : World} {P Q : Nat → Prop} {a c : List Se} {A : Option Addr} (h : SeReps w P a A) (h' : SeReps w Q c A) (hl : a.length = c.length) : a = c := by
  obtain ⟨-, C, h5, h6⟩ := h
  obtain ⟨-, C', g5, g6⟩ := h'
  by_cases hn : a = []
  · subst hn
    exact (List.length_eq_zero_iff.1 hl.symm).symm
  · have hp : 0 < a.length := List.length_pos_iff.2 hn
    obtain ⟨b, off, rfl, -, hc⟩ := h5 hp
    obtain ⟨b', off', e', -, hc'⟩ := g5 (by omega)
    simp only [Option.some.injEq, Addr.mk.injEq, and_true] at e'
    obtain ⟨rfl, rfl⟩ := e'
    apply List.ext_getElem hl
    intro i hi hi'
    have hC : ∀ j, j < 5 → C i j = C' i j := fun j hj => Option.some.inj ((hc i hi j hj).symm.trans (hc' i hi' j hj))
    obtain ⟨f, r1⟩ := h6 i hi
    have r2 := g6 i hi'
    rw [← hC 0 (by omega), ← hC 1 (by omega), ← hC 2 (by omega), ← hC 3 (by omega), ← hC 4 (by omega)] at r2
    have := seN_one f r1 r2
    simpa [sth, List.getD_eq_getElem?_getD, List.getElem?_eq_getElem hi, List.getElem?_eq_getElem hi'] using this
/-- What is ok of a list is ok of one of its fields. -/
theorem okTo_at {f d : Nat} {ks : List Se} : ∀ {n i : Nat}, okTo (f + 1) d ks n = true → i < n → selB (sth ks i) = true ∧ okTo f (d + 1) (sth ks i).kids (sth ks i).kids.length = true
  | 0, i, _, h => by omega
  | n + 1, i, h, hi => by
    rw [okTo_succ, Bool.and_eq_true] at h
    by_cases e : i = n
    · subst e
      simp only [Bool.and_eq_true] at h
      exact ⟨h.2.1.1, h.2.2.2⟩
    · exact okTo_at h.1 (by omega)
theorem headL_pos {s : Se} (h : selB s = true) : 0 < (headL s).length := by
  simp only [selB, Bool.and_eq_true] at h
  have h1 := h.1.1.1
  simp only [nameB, wordB, Bool.and_eq_true, decide_eq_true_eq] at h1
  have h2 : 1 ≤ s.name.size := h1.1.1.1.1.1.1.1.1.1.1.1.1.1
  have h3 := toList_len s.name
  unfold headL
  rw [List.length_append, List.length_append]
  omega
end Go.Proofs.YtgcfgadkclfonaaGreatDoor

namespace Go.Proofs.YtgcfgadkclfonaaGreatDoor
set_option linter.unusedSimpArgs false
set_option linter.unusedVariables false
open Go.RowKit Go.Shelf

/-- The text of an ask, in a block of its own: so many bytes are written, and the map is this. -/
def AskT (B b : Nat) (m : Value) (l : List UInt8) (w : World) : Prop :=
  B ≤ b ∧ ∃ p v, (p = .pointer none ∨ p = .pointer (some ⟨b, 0, none⟩)) ∧ w.heap[b]? = some (.cells #[p, v, m] 141 (0, 0)) ∧ w.ownsRowF B 5 1 v l.length (Lib.byteCells l)
/-- The same, and it has been written to. -/
def AskU (B b : Nat) (m : Value) (l : List UInt8) (w : World) : Prop :=
  B ≤ b ∧ ∃ v, w.heap[b]? = some (.cells #[.pointer (some ⟨b, 0, none⟩), v, m] 141 (0, 0)) ∧ w.ownsRowF B 5 1 v l.length (Lib.byteCells l)
theorem AskU.t {B b : Nat} {m : Value} {l : List UInt8} {w : World} (h : AskU B b m l w) : AskT B b m l w := by
  obtain ⟨h1, v, h2, h3⟩ := h
  exact ⟨h1, _, v, Or.inr rfl, h2, h3⟩
theorem tag_ne : (141 : TypeId) ≠ 5 := by decide
theorem AskT.lt {B b : Nat} {m : Value} {l : List UInt8} {w : World} (h : AskT B b m l w) : b < w.heap.size := by
  obtain ⟨-, p, v, -, h2, -⟩ := h
  exact (Array.getElem?_eq_some_iff.1 h2).1
theorem AskT.map {B b : Nat} {m : Value} {l : List UInt8} {w : World} (h : AskT B b m l w) : w.cell? ⟨b, 2, none⟩ = some m := by
  obtain ⟨-, p, v, -, h2, -⟩ := h
  rw [Lib.cell_of_heap h2]; rfl
/-- What keeps the builder's block and its bytes keeps the text. -/
theorem AskT.of_blocks {B b : Nat} {m : Value} {l : List UInt8} {w w' : World} (h : AskT B b m l w) (e : ∀ (k : Nat) (c : Array Value) (t : TypeId) (f : Nat × Nat), (t = 141 ∨ t = 5) → w.heap[k]? = some (Obj.cells c t f) → w'.heap[k]? = some (Obj.cells c t f)) : AskT B b m l w' := by
  obtain ⟨h1, p, v, hp, h2, h3, h4⟩ := h
  refine ⟨h1, p, v, hp, e _ _ _ _ (Or.inl rfl) h2, h3, ?_⟩
  rcases h4 with h4 | ⟨g, cap, cur, fz, hv, hb, hg, r⟩
  · exact Or.inl h4
  · exact Or.inr ⟨g, cap, cur, fz, hv, hb, e _ _ _ _ (Or.inr rfl) hg, r⟩
theorem AskT.below {B b : Nat} {m : Value} {l : List UInt8} {w w' : World} (h : AskT B b m l w) (hb : Below w.heap.size w w') : AskT B b m l w' :=
  h.of_blocks fun k c t f _ hk => (hb.block k (Array.getElem?_eq_some_iff.1 hk).1).trans hk

theorem info_byte : (Tryz.prog.info? 5).map (fun i => (i.zero, i.size, i.bytes)) = some (some (.int .u8 0), 1, 1) := by kernel_rfl
theorem size_builder : (Tryz.prog.info? 123).map (fun i => i.size) = some 2 := by kernel_rfl
theorem lies_builder : liesAt Tryz.prog Tryz.prog.depth 141 (3 / Tryz.prog.cellsOf 141) 0 123 1 = true := by kernel_rfl

set_option maxHeartbeats 1000000 in
set_option maxRecDepth 100000 in
theorem copyCheck_used (b : Nat) (w : World) (h0 : w.cell? ⟨b, 0, none⟩ = some (.pointer (some ⟨b, 0, none⟩))) :
    Calls Tryz.prog 113 #[.pointer (some ⟨b, 0, none⟩)] w fun e w' => e = .returned (.tuple #[]) ∧ w' = w := by
  obtain ⟨j, hj, -⟩ := Option.map_eq_some_iff.1 size_builder
  go_enter Tryz.func113, Tryz.ntmps113
  go_wp2_with fail
  rw [Lib.run_neq_ptr_same w _ Tryz.underlying121 hj]
  go_wp2_with fail
  go_end0
  exact ⟨rfl, rfl⟩

set_option maxHeartbeats 1000000 in
set_option maxRecDepth 100000 in
theorem copyCheck_fresh (b : Nat) (w : World) (h0 : w.cell? ⟨b, 0, none⟩ = some (.pointer none)) (hsh : w.shape? b = some (141, 3)) (hfz : w.frozen? ⟨b, 0, none⟩ = false) :
    Calls Tryz.prog 113 #[.pointer (some ⟨b, 0, none⟩)] w fun e w' => e = .returned (.tuple #[]) ∧ w' = w.setCell ⟨b, 0, none⟩ (.pointer (some ⟨b, 0, none⟩)) := by
  obtain ⟨j, hj, hjs⟩ := Option.map_eq_some_iff.1 size_builder
  have hx := run_callFunc_extern (P := Tryz.prog) Tryz.func130 (by kernel_rfl) (by kernel_rfl) (by kernel_rfl) (e := Extern.AbiNoEscape.same) (by kernel_rfl)
  go_enter Tryz.func113, Tryz.ntmps113
  go_wp2_with fail
  rw [Lib.run_to_unsafe w ⟨b, 0, none⟩ Tryz.underlying121 Tryz.underlying178 hj (by rw [hjs]; decide) hsh (Nat.zero_lt_succ 2)]
  simp only [Result.andThen]
  rw [Oper.upon_value]
  go_wp2_with fail
  rw [Lib.run_noEscape]
  simp only [Result.andThen]
  rw [Oper.upon_value]
  go_wp2_with fail
  rw [Lib.run_from_unsafe w ⟨b, 0, none⟩ Tryz.underlying178 Tryz.underlying121 hj hsh lies_builder]
  simp only [Result.andThen]
  rw [Oper.upon_value]
  go_wp2_with fail
  go_end0
  exact ⟨rfl, rfl⟩

theorem AskT.used {B b : Nat} {m v : Value} {l : List UInt8} {w : World} (hB : B ≤ b) (h : w.heap[b]? = some (.cells #[.pointer none, v, m] 141 (0, 0))) (ho : w.ownsRowF B 5 1 v l.length (Lib.byteCells l)) :
    AskU B b m l (w.setCell ⟨b, 0, none⟩ (.pointer (some ⟨b, 0, none⟩))) := by
  have hne := Lib.ownBlock_neF ho h tag_ne
  refine ⟨hB, v, by rw [set_box h]; rfl, ho.kept (row := some b) ⟨rfl, rfl, rfl, by simp [World.setCell], fun k _ hk => Below.heap_setCell _ _ _ _ (fun e => hk (by simp [e]))⟩ (Or.inr hne)⟩
theorem AskU.put {B b : Nat} {m p v v' : Value} {l' : List UInt8} {w : World} (hB : B ≤ b) (hp : p = .pointer (some ⟨b, 0, none⟩)) (h : w.heap[b]? = some (.cells #[p, v, m] 141 (0, 0))) (ho : w.ownsRowF B 5 1 v' l'.length (Lib.byteCells l')) :
    AskU B b m l' (w.setCell ⟨b, 1, none⟩ v') := by
  subst hp
  have hne := Lib.ownBlock_neF ho h tag_ne
  refine ⟨hB, v', by rw [set_box h]; rfl, ho.kept (row := some b) ⟨rfl, rfl, rfl, by simp [World.setCell], fun k _ hk => Below.heap_setCell _ _ _ _ (fun e => hk (by simp [e]))⟩ (Or.inr hne)⟩

theorem copyCheckA (B b : Nat) (m : Value) (l : List UInt8) (w : World) (h : AskT B b m l w) :
    Calls Tryz.prog 113 #[.pointer (some ⟨b, 0, none⟩)] w fun e w' => e = .returned (.tuple #[]) ∧ AskU B b m l w' ∧ Below B w w' ∧ Kept b w w' := by
  obtain ⟨hB, p, v, hp, hb, ho⟩ := h
  rcases hp with rfl | rfl
  · refine (copyCheck_fresh b w (by rw [Lib.cell_of_heap hb]; rfl) (by simp [World.shape?, hb]) (Lib.frozen_of_heap hb 0)).mono ?_
    rintro e w' ⟨rfl, rfl⟩
    exact ⟨rfl, AskT.used hB hb ho, (Below.refl B w).setCell (p := ⟨b, 0, none⟩) hB _, (Lib.OthersKept.refl _ _ w).setCell ⟨b, 0, none⟩ rfl _⟩
  · refine (copyCheck_used b w (by rw [Lib.cell_of_heap hb]; rfl)).mono ?_
    rintro e w' ⟨rfl, rfl⟩
    exact ⟨rfl, ⟨hB, v, hb, ho⟩, Below.refl B _, Lib.OthersKept.refl _ _ _⟩

set_option maxHeartbeats 1000000 in
set_option maxRecDepth 100000 in
theorem writeStringA (B b : Nat) (m : Value) (l : List UInt8) (s : ByteArray) (w : World) (h : AskT B b m l w) (hlen : l.length + s.size ≤ 140737488355328) (hBw : B ≤ w.heap.size) :
    Calls Tryz.prog 87 #[.pointer (some ⟨b, 0, none⟩), .string s] w fun e w' => e = .returned (.tuple #[.int .i64 s.size, .nilIface]) ∧ AskT B b m (l ++ s.data.toList) w' ∧ Below B w w' ∧ Kept b w w' := by
  obtain ⟨i0, hi, hz0, hz1, hz2⟩ := info_parts info_byte
  have HC := hid_of (copyCheckA B b m l w h)
  go_enter Tryz.func87, Tryz.ntmps87
  go_wp2_with fail
  refine HC.out.mono ?_
  rintro e w1 ⟨rfl, ⟨hB, v, hbk, hown⟩, hb1, hk1⟩
  have hne := Lib.ownBlock_neF hown hbk tag_ne
  have c0 : w1.cell? ⟨b, 0, none⟩ = some (.pointer (some ⟨b, 0, none⟩)) := by rw [Lib.cell_of_heap hbk]; rfl
  have c1 : w1.cell? ⟨b, 1, none⟩ = some v := by rw [Lib.cell_of_heap hbk]; rfl
  have hz1' := hb1.size
  go_wp2_with (
    at_builtin
    refine Lib.wpList_append_own_stringF _ rfl _ _ 109 9 rfl B 5 i0 Tryz.underlying109 Tryz.underlying9 hi hz0 hz1 hz2 _ _ _ rfl hown s rfl (by unfold maxLen; omega) (by omega) (by omega) ?_)
  intro v' w2 hown' hgrow _
  have hlt : b < w1.heap.size := (Array.getElem?_eq_some_iff.1 hbk).1
  have hb2 : w2.heap[b]? = some (.cells #[.pointer (some ⟨b, 0, none⟩), v, m] 141 (0, 0)) := by
    rw [hgrow.block b hlt (fun e => hne e.symm)]
    exact hbk
  have d0 : w2.cell? ⟨b, 0, none⟩ = some (.pointer (some ⟨b, 0, none⟩)) := by rw [Lib.cell_of_heap hb2]; rfl
  have d1 : w2.cell? ⟨b, 1, none⟩ = some v := by rw [Lib.cell_of_heap hb2]; rfl
  have f1 : w2.frozen? ⟨b, 1, none⟩ = false := Lib.frozen_of_heap hb2 1
  have HE := hid_of (And.intro hown' hgrow)
  obtain ⟨ao, n', cap, rfl⟩ : ∃ ao n' cap, v' = .slice ao n' cap := by
    rcases hown'.2 with ⟨hv, _⟩ | ⟨g, cap, cur, fz, hv, _⟩
    · exact ⟨_, _, _, hv⟩
    · exact ⟨_, _, _, hv⟩
  clear hown' hgrow
  go_wp2_with fail
  go_ret2
  obtain ⟨hown', hgrow⟩ := HE.out
  refine ⟨rfl, (AskU.put (l' := l ++ s.data.toList) hB rfl hb2 ?_).t, ?_, ?_⟩
  · rw [Lib.strCells_eq, byteCells_append] at hown'
    simpa using hown'
  · exact (hb1.grown hgrow (by omega) (fun k hk => (hown.lt k hk).1)).setCell (p := ⟨b, 1, none⟩) hB _
  · exact (hk1.grown hgrow (Lib.ownsRowF_kind hown)).setCell ⟨b, 1, none⟩ rfl _

set_option maxHeartbeats 1000000 in
set_option maxRecDepth 100000 in
theorem writeByteA (B b : Nat) (m : Value) (l : List UInt8) (c : UInt8) (w : World) (h : AskT B b m l w) (hlen : l.length + 1 ≤ 140737488355328) (hBw : B ≤ w.heap.size) :
    Calls Tryz.prog 88 #[.pointer (some ⟨b, 0, none⟩), .int .u8 c.toNat] w fun e w' => e = .returned .nilIface ∧ AskT B b m (l ++ [c]) w' ∧ Below B w w' ∧ Kept b w w' := by
  obtain ⟨i0, hi, hz0, hz1, hz2⟩ := info_parts info_byte
  have HC := hid_of (copyCheckA B b m l w h)
  go_enter Tryz.func88, Tryz.ntmps88
  go_wp2_with fail
  refine HC.out.mono ?_
  rintro e w1 ⟨rfl, ⟨hB, v, hbk, hown⟩, hb1, hk1⟩
  have hne := Lib.ownBlock_neF hown hbk tag_ne
  have c0 : w1.cell? ⟨b, 0, none⟩ = some (.pointer (some ⟨b, 0, none⟩)) := by rw [Lib.cell_of_heap hbk]; rfl
  have c1 : w1.cell? ⟨b, 1, none⟩ = some v := by rw [Lib.cell_of_heap hbk]; rfl
  have hz1' := hb1.size
  have hlt : b < w1.heap.size := (Array.getElem?_eq_some_iff.1 hbk).1
  go_wp2_with (
    at_builtin
    refine wpList_append_ownF _ rfl _ _ 109 rfl B 5 i0 (.int .u8 0) 1 1 Tryz.underlying109 hi hz0 hz1 hz2 rfl (by decide) _ _ _ rfl (hown.alloc _) ⟨w1.heap.size, 0, none⟩ 1 1 [.int .u8 c.toNat] rfl rfl (World.news_of_block (heap_alloc_new w1 _)) (by intro u hu; simp at hu; subst hu; rfl) (by unfold maxLen; omega) (by omega) (by simp; omega) ?_)
  intro v' w2 hown' hgrow _
  have hb2 : w2.heap[b]? = some (.cells #[.pointer (some ⟨b, 0, none⟩), v, m] 141 (0, 0)) := by
    rw [hgrow.block b (by simp; omega) (fun e => hne e.symm)]
    exact (Lib.alloc_old w1 _ b hlt).trans hbk
  have d0 : w2.cell? ⟨b, 0, none⟩ = some (.pointer (some ⟨b, 0, none⟩)) := by rw [Lib.cell_of_heap hb2]; rfl
  have d1 : w2.cell? ⟨b, 1, none⟩ = some v := by rw [Lib.cell_of_heap hb2]; rfl
  have f1 : w2.frozen? ⟨b, 1, none⟩ = false := Lib.frozen_of_heap hb2 1
  have HE := hid_of (And.intro hown' hgrow)
  obtain ⟨ao, n', cap, rfl⟩ : ∃ ao n' cap, v' = .slice ao n' cap := by
    rcases hown'.2 with ⟨hv, _⟩ | ⟨g, cap, cur, fz, hv, _⟩
    · exact ⟨_, _, _, hv⟩
    · exact ⟨_, _, _, hv⟩
  clear hown' hgrow
  go_wp2_with fail
  go_ret
  obtain ⟨hown', hgrow⟩ := HE.out
  refine ⟨rfl, (AskU.put (l' := l ++ [c]) hB rfl hb2 ?_).t, ?_, ?_⟩
  · rw [show [Value.int .u8 (c.toNat : Int)] = Lib.byteCells [c] from rfl, byteCells_append] at hown'
    simpa using hown'
  · exact ((hb1.alloc (by omega) _).grown hgrow (by simp; omega) (fun k hk => (hown.lt k hk).1)).setCell (p := ⟨b, 1, none⟩) hB _
  · exact ((hk1.alloc _).grown hgrow (Lib.ownsRowF_kind (hown.alloc _))).setCell ⟨b, 1, none⟩ rfl _

set_option maxHeartbeats 1000000 in
set_option maxRecDepth 100000 in
theorem lenA (B b : Nat) (m : Value) (l : List UInt8) (w : World) (h : AskT B b m l w) :
    Calls Tryz.prog 119 #[.pointer (some ⟨b, 0, none⟩)] w fun e w' => e = .returned (.int .i64 l.length) ∧ w = w' := by
  obtain ⟨hB, p, v, -, hbk, hown⟩ := h
  obtain ⟨ao, cap, rfl⟩ : ∃ ao cap, v = .slice ao l.length cap := by
    rcases hown.2 with ⟨hv, h0⟩ | ⟨g, cap, cur, fz, hv, _⟩
    · exact ⟨none, 0, by rw [hv, h0]⟩
    · exact ⟨_, _, hv⟩
  have c1 : w.cell? ⟨b, 1, none⟩ = some (.slice ao l.length cap) := by rw [Lib.cell_of_heap hbk]; rfl
  go_enter Tryz.func119, Tryz.ntmps119
  go_wp2_with fail
  go_ret
  exact ⟨rfl, rfl⟩

/-- Behind String the text is the same. -/
theorem AskT.froze {B b g cap : Nat} {m p : Value} {l : List UInt8} {w : World} (hB : B ≤ b) (hp : p = .pointer none ∨ p = .pointer (some ⟨b, 0, none⟩)) (hbk : w.heap[b]? = some (.cells #[p, .slice (some ⟨g, 0, none⟩) l.length cap, m] 141 (0, 0))) (ho : w.ownsRowF B 5 1 (.slice (some ⟨g, 0, none⟩) l.length cap) l.length (Lib.byteCells l)) :
    AskT B b m l (w.freeze ⟨g, 0, none⟩ l.length) := by
  have hne := Lib.ownBlock_neF ho hbk tag_ne
  have hgb : g ≠ b := fun e => hne (by simp [Value.ownBlock, e])
  unfold World.freeze
  split
  · exact ⟨hB, p, _, hp, hbk, ho⟩
  · refine ⟨hB, p, .slice (some ⟨g, 0, none⟩) l.length cap, hp, ?_, ho.1, ?_⟩
    · simp only [Array.getElem?_modify]
      rw [if_neg hgb]
      exact hbk
    · rcases ho.2 with ⟨hv, _⟩ | ⟨g', cap', cur, fz, hv, hbg, hg, hfz, rest⟩
      · cases hv
      · simp only [Value.slice.injEq, Option.some.injEq, Addr.mk.injEq, and_true, true_and] at hv
        obtain ⟨rfl, rfl⟩ := hv
        obtain ⟨lo, hi⟩ := fz
        refine Or.inr ⟨g, _, cur, (if lo == hi then (0, 0 + l.length) else (min lo 0, max hi (0 + l.length))), rfl, hbg, ?_, ?_, rest⟩
        · simp [Array.getElem?_modify, hg]
        · simp only at hfz
          split <;> simp <;> omega

theorem cells_byte : Tryz.prog.cellsOf 5 = 1 := by kernel_rfl

set_option maxHeartbeats 1000000 in
set_option maxRecDepth 100000 in
theorem stringA (B b : Nat) (m : Value) (l : List UInt8) (w : World) (h : AskT B b m l w) (h0 : l ≠ []) :
    Calls Tryz.prog 91 #[.pointer (some ⟨b, 0, none⟩)] w fun e w' => e = .returned (.string ⟨l.toArray⟩) ∧ AskT B b m l w' ∧ Below B w w' ∧ Kept b w w' := by
  obtain ⟨hB, p, v, hp, hbk, hown⟩ := h
  have hl0 : l.length ≠ 0 := by simpa using h0
  obtain ⟨g, cap, cur, fz, rfl, hbg, hg, hfz, hnc, hcm, hcs, htake⟩ : ∃ g cap cur fz, v = .slice (some ⟨g, 0, none⟩) l.length cap ∧ B ≤ g ∧ w.heap[g]? = some (.cells cur 5 fz) ∧ fz.2 ≤ l.length * 1 ∧ l.length ≤ cap ∧ cap ≤ maxLen ∧ cur.size = cap * 1 ∧ cur.toList.take (l.length * 1) = Lib.byteCells l := by
    rcases hown.2 with ⟨_, hz⟩ | ⟨g, cap, cur, fz, hv, r⟩
    · exact absurd hz hl0
    · exact ⟨g, cap, cur, fz, hv, r⟩
  have c1 : w.drew.cell? ⟨b, 1, none⟩ = some (.slice (some ⟨g, 0, none⟩) l.length cap) := by
    have : w.drew.heap[b]? = some (.cells #[p, .slice (some ⟨g, 0, none⟩) l.length cap, m] 141 (0, 0)) := hbk
    rw [Lib.cell_of_heap this]; rfl
  have hSD : (Builtin.unsafeSliceData_ #[109] 162 #[.slice (some ⟨g, 0, none⟩) l.length cap]).run Tryz.prog w.drew = .ok (.pointer (some ⟨g, 0, none⟩)) w.drew :=
    Lib.run_unsafeSliceData_row _ _ _ _ _ _ (by omega)
  have hUS : (Builtin.unsafeString_ #[162, 3] 9 #[.pointer (some ⟨g, 0, none⟩), .int .i64 l.length]).run Tryz.prog w.drew = .ok (.string ⟨l.toArray⟩) (w.drew.freeze ⟨g, 0, none⟩ l.length) := by
    refine Lib.run_unsafeString_row w.drew 162 3 9 5 Tryz.underlying162 cells_byte g cur.size (by have hg' : w.drew.heap[g]? = some (.cells cur 5 fz) := hg; simp [World.shape?, hg']) l h0 (by omega) (by unfold maxLen at hcm; omega) ?_
    intro j x hx
    exact hown.cells (g := g) rfl j (.int .u8 x.toNat) (by simp [Lib.byteCells, hx])
  have mixed : Tryz.prog.follows Departure.mixedOrders = true := by kernel_rfl
  have HK : Hid (AskT B b m l (w.drew.freeze ⟨g, 0, none⟩ l.length)) := hid_of (AskT.froze (w := w.drew) hB hp hbk hown)
  go_enter Tryz.func91, Tryz.ntmps91
  go_wp2_with fail
  go_region_o
  all_goals
    go_wp2_with fail
    go_ret
    exact ⟨rfl, HK.out, Lib.below_freeze (Below.drew (Below.refl B w)) (p := ⟨g, 0, none⟩) hbg _, ((Lib.OthersKept.refl _ _ w).drew).freeze ⟨g, 0, none⟩ _ ⟨cur, fz, hg⟩⟩
end Go.Proofs.YtgcfgadkclfonaaGreatDoor

namespace Go.Proofs.YtgcfgadkclfonaaGreatDoor
open Go.Shelf
def itoaL_ren : Go.Shelf.Ren := ⟨fun | 171 => 133 | 243 => 135 | 246 => 137 | 283 => 138 | 284 => 139 | 285 => 140 | 286 => 141 | 129 => 143 | 317 => 142 | 318 => 144 | 319 => 145 | 320 => 146 | 337 => 147 | 338 => 148 | n => n, fun | 3 => 3 | 9 => 9 | 2 => 2 | 4 => 4 | 171 => 186 | 0 => 0 | 53 => 187 | 37 => 109 | 5 => 5 | 173 => 190 | 212 => 194 | 51 => 195 | 20 => 20 | 213 => 196 | 46 => 159 | 232 => 200 | 233 => 201 | n => n, fun | 17 => 1 | 18 => 2 | 19 => 3 | n => n⟩
theorem itoaL : Go.Proofs.LaysM.n171 Tryz.prog itoaL_ren := {
  mixed := by kernel_rfl
  f129 := Tryz.func143.trans (congrArg some (by kernel_rfl))
  f171 := Tryz.func133.trans (congrArg some (by kernel_rfl))
  f243 := Tryz.func135.trans (congrArg some (by kernel_rfl))
  f246 := Tryz.func137.trans (congrArg some (by kernel_rfl))
  f283 := Tryz.func138.trans (congrArg some (by kernel_rfl))
  f284 := Tryz.func139.trans (congrArg some (by kernel_rfl))
  f285 := Tryz.func140.trans (congrArg some (by kernel_rfl))
  f286 := Tryz.func141.trans (congrArg some (by kernel_rfl))
  f317 := Tryz.func142.trans (congrArg some (by kernel_rfl))
  f318 := Tryz.func144.trans (congrArg some (by kernel_rfl))
  f319 := Tryz.func145.trans (congrArg some (by kernel_rfl))
  f320 := Tryz.func146.trans (congrArg some (by kernel_rfl))
  f337 := Tryz.func147.trans (congrArg some (by kernel_rfl))
  f338 := Tryz.func148.trans (congrArg some (by kernel_rfl))
  t0 := Tryz.underlying0
  a0 := Tryz.isAgg0
  z0 := Tryz.sizeOf0
  v0 := Tryz.zeroValue0
  t2 := Tryz.underlying2
  a2 := Tryz.isAgg2
  z2 := Tryz.sizeOf2
  v2 := Tryz.zeroValue2
  t3 := Tryz.underlying3
  a3 := Tryz.isAgg3
  z3 := Tryz.sizeOf3
  v3 := Tryz.zeroValue3
  t4 := Tryz.underlying4
  a4 := Tryz.isAgg4
  z4 := Tryz.sizeOf4
  v4 := Tryz.zeroValue4
  t5 := Tryz.underlying5
  a5 := Tryz.isAgg5
  z5 := Tryz.sizeOf5
  v5 := Tryz.zeroValue5
  t9 := Tryz.underlying9
  a9 := Tryz.isAgg9
  z9 := Tryz.sizeOf9
  v9 := Tryz.zeroValue9
  t20 := Tryz.underlying20
  a20 := Tryz.isAgg20
  z20 := Tryz.sizeOf20
  v20 := Tryz.zeroValue20
  t37 := Tryz.underlying109
  a37 := Tryz.isAgg109
  z37 := Tryz.sizeOf109
  v37 := Tryz.zeroValue109
  t46 := Tryz.underlying159
  a46 := Tryz.isAgg159
  z46 := Tryz.sizeOf159
  v46 := Tryz.zeroValue159
  t51 := Tryz.underlying195
  a51 := Tryz.isAgg195
  z51 := Tryz.sizeOf195
  v51 := Tryz.zeroValue195
  t53 := Tryz.underlying187
  a53 := Tryz.isAgg187
  z53 := Tryz.sizeOf187
  v53 := Tryz.zeroValue187
  t171 := Tryz.underlying186
  a171 := Tryz.isAgg186
  z171 := Tryz.sizeOf186
  v171 := Tryz.zeroValue186
  t173 := Tryz.underlying190
  a173 := Tryz.isAgg190
  z173 := Tryz.sizeOf190
  v173 := Tryz.zeroValue190
  t212 := Tryz.underlying194
  a212 := Tryz.isAgg194
  z212 := Tryz.sizeOf194
  v212 := Tryz.zeroValue194
  t213 := Tryz.underlying196
  a213 := Tryz.isAgg196
  z213 := Tryz.sizeOf196
  t232 := Tryz.underlying200
  a232 := Tryz.isAgg200
  z232 := Tryz.sizeOf200
  v232 := Tryz.zeroValue200
  t233 := Tryz.underlying201
  a233 := Tryz.isAgg201
  z233 := Tryz.sizeOf201
  v233 := Tryz.zeroValue201
  g17 := by kernel_rfl
  g18 := by kernel_rfl
  g19 := by kernel_rfl
  i0 := by kernel_rfl
  i2 := by kernel_rfl
  i3 := by kernel_rfl
  i4 := by kernel_rfl
  i5 := by kernel_rfl
  i9 := by kernel_rfl
  i20 := by kernel_rfl
  i37 := by kernel_rfl
  i46 := by kernel_rfl
  i51 := by kernel_rfl
  i53 := by kernel_rfl
  i171 := by kernel_rfl
  i173 := by kernel_rfl
  i212 := by kernel_rfl
  i232 := by kernel_rfl
  i233 := by kernel_rfl
  m17 := by kernel_rfl
  m18 := by kernel_rfl
  m19 := by kernel_rfl }
end Go.Proofs.YtgcfgadkclfonaaGreatDoor
