/-
  How many parts a value has: the model's l12Count and JsonCount, the program's JsonCount.
-/
import Derived.Test.YtoohlmiegjaicaaLaw
namespace Go.Proofs.Ytoohlmiegjaicaa
set_option linter.unusedSimpArgs false
set_option linter.unusedVariables false
open Go.RowKit

/-- How many parts a value has, as far as it is looked into. -/
def countF : Nat → V → Int
  | 0, _ => 0
  | f + 1, x => x.kids.foldl (fun n k => n + countF f k) 1
/-- How many parts some values have, behind so many. -/
def countL (f : Nat) (ks : List V) (n : Int) : Int := ks.foldl (fun n k => n + countF f k) n

theorem countF_succ (f : Nat) (s n : Int) (t : ByteArray) (ns : List ByteArray) (ks : List V) : countF (f + 1) (.mk s n t ns ks) = countL f ks 1 := rfl
theorem countL_cons (f : Nat) (k : V) (ks : List V) (n : Int) : countL f (k :: ks) n = countL f ks (n + countF f k) := rfl
theorem countL_take (f : Nat) (ks : List V) (k : Nat) (h : k < ks.length) (n : Int) : countL f (ks.take (k + 1)) n = countL f (ks.take k) n + countF f (kth ks k) := by
  rw [take_kth ks k h]; simp [countL, List.foldl_append]
theorem count_nonneg (f : Nat) : (∀ x : V, 0 ≤ countF f x) ∧ ∀ (ks : List V) (n : Int), n ≤ countL f ks n := by
  induction f with
  | zero => refine ⟨fun x => Int.le_refl _, fun ks => ?_⟩; induction ks with
    | nil => intro n; exact Int.le_refl _
    | cons k ks ih => intro n; rw [countL_cons]; have := ih (n + countF 0 k); simp only [countF] at *; omega
  | succ f ih =>
    have h1 : ∀ x : V, 0 ≤ countF (f + 1) x := fun x => by
      obtain ⟨s, n, t, ns, ks⟩ := x
      rw [countF_succ]; have := ih.2 ks 1; omega
    refine ⟨h1, fun ks => ?_⟩
    induction ks with
    | nil => intro n; exact Int.le_refl _
    | cons k ks ih => intro n; rw [countL_cons]; have := ih (n + countF (f + 1) k); have := h1 k; omega
theorem countL_part (f : Nat) (ks : List V) (k : Nat) (n : Int) : countL f (ks.take k) n ≤ countL f ks n := by
  conv => rhs; rw [← List.take_append_drop k ks]
  simp only [countL, List.foldl_append]
  exact (count_nonneg f).2 (ks.drop k) _

theorem fold_neg (f : Nat) (ks : List V) : ∀ m : Int, m < 0 → ks.foldl (fun n k => if 0 ≤ n then partsF f k n else n) m = m := by
  induction ks with
  | nil => intro m _; rfl
  | cons a ks ih3 => intro m hm; rw [List.foldl_cons, if_neg (by omega)]; exact ih3 m hm

/-- Of a value that is ok what is taken is what is counted. -/
theorem count_parts (f : Nat) : ∀ (x : V) (l : Int), 0 ≤ partsF f x l → partsF f x l = l - countF f x := by
  induction f with
  | zero => intro x l h; simp [partsF] at h
  | succ f ih =>
    intro x l h
    obtain ⟨s, n, t, ns, ks⟩ := x
    rw [partsF] at h ⊢
    rw [countF_succ]
    split at h
    · omega
    rename_i hc
    rw [if_neg hc]
    have key : ∀ (ks : List V) (n : Int), 0 ≤ ks.foldl (fun n k => if 0 ≤ n then partsF f k n else n) n → ∀ c, ks.foldl (fun n k => if 0 ≤ n then partsF f k n else n) n = n + c - countL f ks c := by
      intro ks
      induction ks with
      | nil => intro n _ c; simp [countL]
      | cons k ks ih2 =>
        intro n hn c
        rw [List.foldl_cons] at hn ⊢
        by_cases h0 : 0 ≤ n
        · rw [if_pos h0] at hn ⊢
          by_cases h1 : 0 ≤ partsF f k n
          · rw [ih2 _ hn (c + countF f k), countL_cons, ih k n h1]; omega
          · exfalso
            rw [fold_neg f ks _ (by omega)] at hn; omega
        · exfalso
          rw [if_neg h0] at hn
          rw [fold_neg f ks _ (by omega)] at hn; omega
    have := key ks (l - 1) h 1
    show List.foldl (fun n k => if 0 ≤ n then partsF f k n else n) (l - 1) ks = _
    omega

/-- A value that goes no deeper than so many levels. -/
def shallow : Nat → V → Prop
  | 0, _ => False
  | f + 1, x => ∀ i, i < x.kids.length → shallow f (kth x.kids i)

theorem shallow_parts (f : Nat) : ∀ (x : V) (l : Int), 0 ≤ partsF f x l → shallow f x := by
  induction f with
  | zero => intro x l h; simp [partsF] at h
  | succ f ih =>
    intro x l h
    obtain ⟨s, n, t, ns, ks⟩ := x
    rw [partsF] at h
    split at h
    · omega
    rename_i hc
    have hneg := fold_neg f
    have key : ∀ (ks : List V) (n : Int), 0 ≤ ks.foldl (fun n k => if 0 ≤ n then partsF f k n else n) n → ∀ i, i < ks.length → shallow f (kth ks i) := by
      intro ks
      induction ks with
      | nil => intro n _ i hi; simp at hi
      | cons k ks ih2 =>
        intro n hn i hi
        rw [List.foldl_cons] at hn
        by_cases h0 : 0 ≤ n
        · rw [if_pos h0] at hn
          by_cases h1 : 0 ≤ partsF f k n
          · match i, hi with
            | 0, _ => exact ih k n h1
            | i + 1, hi => exact ih2 _ hn i (by simpa using hi)
          · rw [hneg ks _ (by omega)] at hn; omega
        · rw [if_neg h0, hneg ks _ (by omega)] at hn; omega
    exact fun i hi => key ks (l - 1) h i hi

def CtOk (f : Nat) : Prop := ∀ (x : V) (w : World) (B : Nat) (v : Value), shallow f x → countF f x ≤ 600 → Rep w (· < B) x v → B ≤ w.heap.size →
  Calls Try.prog 23 #[v] w fun e w' => e = .returned (.int .i64 (countF f x)) ∧ Below w.heap.size w w'

set_option maxHeartbeats 800000 in
theorem l12Count_step (f : Nat) (IH : CtOk f) : CtOk (f + 1) := by
  intro x w B v hsh hle hR hB
  obtain ⟨s, n, t, ns, ks⟩ := x
  obtain ⟨na, ka, nc, kc, rfl, hs, hns, ht, hbs, hK⟩ := hR.inv
  clear hR
  rw [countF_succ] at hle ⊢
  have hsh' : Hid (∀ i, i < ks.length → shallow f (kth ks i)) := hsh
  clear hsh
  have HL : Hid (countL f ks 1 ≤ 600) := hle
  clear hle
  go_enter Try.func23, Try.ntmps23
  go_wp2_with fail
  have h3 := hK.1
  obtain ⟨-, b, off, C, hka, hc, hr⟩ := hK
  go_loopw [3, 4] (fun q i wr => ∃ (k : Nat) (x : Int), k ≤ ks.length ∧ i = .int .i64 k ∧ q = .int .i64 x ∧ countL f (ks.take k) 1 = x ∧ Below w.heap.size w wr ∧ wr.cell? ⟨w.heap.size, 4, none⟩ = some (.slice ka ks.length kc) ∧ w.heap.size < wr.heap.size) (fun _ i _ => ks.length - (intOf i).toNat)
  case atStart => exact ⟨0, _, Nat.zero_le _, rfl, rfl, by simp [countL], below_box _ _, by simp, by simp⟩
  case round =>
    obtain ⟨k, x, hk, rfl, rfl, hx, hbel, hx4, hsz⟩ := hrel
    have HX : Hid (countL f (ks.take k) 1 = x) := hx
    have hbd : 0 ≤ x ∧ x ≤ 600 := by have := countL_part f ks k 1; have := (count_nonneg f).2 (ks.take k) 1; have := HL.out; omega
    clear hx
    by_cases hlt : k < ks.length
    · obtain ⟨rfl, hbB⟩ := hka (by intro e; simp [e] at hlt)
      have hck : ∀ j, j < 5 → wr.cell? ⟨b, off + k * 5 + j, none⟩ = some (C k j) := fun j hj => (hbel.cell (p := ⟨b, off + k * 5 + j, none⟩) (by show b < _; omega)).trans (hc k hlt j hj)
      have hc0 : wr.cell? ⟨b, off + k * 5, none⟩ = some (C k 0) := hck 0 (by omega)
      have hc1 := hck 1 (by omega)
      have hc2 := hck 2 (by omega)
      have hc3 := hck 3 (by omega)
      have hc4 := hck 4 (by omega)
      have hxk := countL_take f ks k hlt 1
      have hpk := countL_part f ks (k + 1) 1
      rw [HX.out] at hxk
      have hnn := (count_nonneg f).1 (kth ks k)
      have HL' := HL.out
      have hck6 : countF f (kth ks k) ≤ 600 := by omega
      have hsum : x + countF f (kth ks k) ≤ 600 := by omega
      have HXK : Hid (countL f (ks.take (k + 1)) 1 = x + countF f (kth ks k)) := hxk
      clear hck hc hxk hpk HL'
      go_wp2_with (go_at_call 23; refine (IH (kth ks k) _ B _ (hsh'.out k hlt) hck6 ((hr k hlt).under (hbel.mono hB)) (by omega)).mono ?_; rintro e w2 ⟨rfl, hb2⟩)
      go_roundw
      case rel =>
        have hs2 := hb2.size
        exact ⟨k + 1, _, by omega, by go_num, rfl, HXK.out, hbel.trans (hb2.mono hbel.size), (hb2.cell (p := ⟨w.heap.size, 4, none⟩) hsz).trans hx4, by omega⟩
      case measure => simp [intOf]; omega
    · go_wp2_with fail
      go_ret
      have e : k = ks.length := by omega
      exact ⟨ret_int (by rw [← HX.out, e, List.take_length]), hbel⟩

theorem l12Count_any (f : Nat) : CtOk f := by
  induction f with
  | zero => intro x w B v h; exact h.elim
  | succ f ih => exact l12Count_step f ih

/-- How many parts a value has; 0 if it is not ok. -/
def countV (x : V) : Int := if okV x = true then countF 16 x else 0
theorem okV_parts (x : V) (h : okV x = true) : 0 ≤ partsF 16 x 600 := by
  have h' : 0 ≤ partsV x 1 600 := by simpa [okV] using h
  exact h'
theorem okV_count (x : V) (h : okV x = true) : partsV x 1 600 = 600 - countF 16 x ∧ countF 16 x ≤ 600 := by
  have h1 := okV_parts x h
  have h2 := count_parts 16 x 600 h1
  have h3 : partsV x 1 600 = partsF 16 x 600 := rfl
  omega

set_option maxHeartbeats 400000 in
theorem specCount_any (x : V) (w : World) (B : Nat) (v : Value) (hR : Rep w (· < B) x v) (hB : B ≤ w.heap.size) :
    Calls Try.prog 11 #[v] w fun e w' => e = .returned (.int .i64 (countV x)) ∧ Below w.heap.size w w' := by
  have hR' := hR
  obtain ⟨s, n, t, ns, ks⟩ := x
  obtain ⟨na, ka, nc, kc, rfl, -⟩ := hR.inv
  have hspec := fun o => specOk_any (.mk s n t ns ks) (w.alloc o) B _ (hR'.under ((below_box w o).mono hB)) (by simp; omega)
  cases hok : okV (.mk s n t ns ks)
  · rw [hok] at hspec
    have e0 : countV (.mk s n t ns ks) = 0 := by simp [countV, hok]
    rw [e0]
    go_enter Try.func11, Try.ntmps11
    go_wp2_with (go_at_call 7; refine (hspec _).mono ?_; rintro e w2 ⟨rfl, hb2⟩)
    go_ret
    exact ⟨rfl, (below_box w _).trans (hb2.mono (by simp))⟩
  · rw [hok] at hspec
    have e0 : countV (.mk s n t ns ks) = countF 16 (.mk s n t ns ks) := by simp [countV, hok]
    have hsh := shallow_parts 16 _ _ (okV_parts _ hok)
    have hle := (okV_count _ hok).2
    rw [e0]
    go_enter Try.func11, Try.ntmps11
    go_wp2_with (
      go_at_call 7
      refine (hspec _).mono ?_
      rintro e w2 ⟨rfl, hb2⟩
      have z2 := hb2.size
      simp at z2
      have F2 := (Five.new w _ _ _ _ _ _).keep hb2 (by simp)
      obtain ⟨p0, p1, p2, p3, p4⟩ := F2)
    refine (l12Count_any 16 (.mk s n t ns ks) w2 B _ hsh hle (hR'.under (((below_box w _).trans (hb2.mono (by simp))).mono hB)) (by omega)).mono ?_
    rintro e w3 ⟨rfl, hb3⟩
    go_wp2_with fail
    go_ret
    exact ⟨rfl, ((below_box w _).trans (hb2.mono (by simp))).trans (hb3.mono (by omega))⟩

set_option maxHeartbeats 400000 in
theorem implCount_any (x : V) (w : World) (B : Nat) (v : Value) (hR : Rep w (· < B) x v) (hB : B ≤ w.heap.size) :
    Calls Try.prog 12 #[v] w fun e w' => e = .returned (.int .i64 (countV x)) ∧ Below w.heap.size w w' := by
  have hR' := hR
  obtain ⟨s, n, t, ns, ks⟩ := x
  obtain ⟨na, ka, nc, kc, rfl, -⟩ := hR.inv
  have hw2 : ∀ o c, ((w.alloc o).alloc (.cells #[c] 42)).cell? ⟨w.heap.size + 1, 0, none⟩ = some c := fun o c => by simp
  have hf2 : ∀ o c i, ((w.alloc o).alloc (.cells #[c] 42)).frozen? ⟨w.heap.size + 1, i, none⟩ = false := fun o c i => by simp
  have htk := fun o => takes_any (.mk s n t ns ks) ((w.alloc o).alloc (.cells #[.int .i64 600] 42)) w.heap.size (w.heap.size + 1) _ 1 600 ((hR'.under ((below_box2 w _ _).mono hB)).sub fun k hk => by omega) (by omega) (by simp) (hw2 _ _) (hf2 _ _) (by omega) (by omega) (by omega) (by omega)
  cases hok : okV (.mk s n t ns ks)
  · have hd : decide (0 ≤ partsV (.mk s n t ns ks) 1 600) = false := hok
    have e0 : countV (.mk s n t ns ks) = 0 := by simp [countV, hok]
    rw [hd] at htk
    rw [e0]
    go_enter Try.func12, Try.ntmps12
    go_wp2_with (go_at_call 20; refine (htk _).mono ?_; rintro e w2 ⟨q, rfl, hq, -, -, -, -, hb⟩)
    go_ret
    exact ⟨rfl, (below_box2 w _ _).trans (hb.below (by omega) (by simp; omega))⟩
  · have hd : decide (0 ≤ partsV (.mk s n t ns ks) 1 600) = true := hok
    have hp : Hid (0 ≤ partsV (.mk s n t ns ks) 1 600) := by show 0 ≤ _; exact of_decide_eq_true hd
    have e0 : Hid (countV (.mk s n t ns ks) = countF 16 (.mk s n t ns ks)) := by show _ = _; simp [countV, hok]
    have e1 : Hid (partsV (.mk s n t ns ks) 1 600 = 600 - countF 16 (.mk s n t ns ks)) := (okV_count _ hok).1
    rw [hd] at htk
    clear hd hok
    go_enter Try.func12, Try.ntmps12
    go_wp2_with (go_at_call 20; refine (htk _).mono ?_; rintro e w2 ⟨q, rfl, hq, hq0, hq1, hqc, -, hb⟩)
    go_ret
    have := hq hp.out
    exact ⟨ret_int (by rw [e0.out]; have := e1.out; omega), (below_box2 w _ _).trans (hb.below (by omega) (by simp; omega))⟩
end Go.Proofs.Ytoohlmiegjaicaa
