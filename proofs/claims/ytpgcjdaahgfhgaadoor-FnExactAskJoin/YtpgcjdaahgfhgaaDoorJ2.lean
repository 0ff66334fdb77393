import Derived.Test.YtpgcjdaahgfhgaaDoorJ1
import Derived.Test.YtpgcjdaahgfhgaaDoorQSel
import Derived.Test.YtpgcjdaahgfhgaaDoorASpec1
import Derived.Test.YtpgcjdaahgfhgaaDoorAAsk
namespace Go.Proofs.YtpgcjdaahgfhgaaDoor
set_option linter.unusedSimpArgs false
set_option linter.unusedVariables false
open Go.RowKit

/-- Fields that may be written, with all that is asked of them, within a range of blocks. -/
def WSels (w : World) (lo hi : Nat) : Nat → List Se → Option Addr → Prop
  | 0, ks, _ => ks.length = 0
  | f + 1, ks, a => 0 < ks.length → ∃ b off, a = some ⟨b, off, none⟩ ∧ lo ≤ b ∧ b < hi ∧ ∀ i, i < ks.length → TextAt w ⟨b, off + i * 5, none⟩ ∧ TextAt w ⟨b, off + i * 5 + 1, none⟩ ∧ FlagAt w ⟨b, off + i * 5 + 2, none⟩ ∧ NumAt w ⟨b, off + i * 5 + 3, none⟩ ∧
      ∃ ka kc, w.cell? ⟨b, off + i * 5 + 4, none⟩ = some (.slice ka (sth ks i).kids.length kc) ∧ WSels w lo hi f (sth ks i).kids ka
theorem WSels.keep {lo hi lo' hi' : Nat} {w w' : World} (m : MarkedN lo' hi' w w') : ∀ {f : Nat} {ks : List Se} {a : Option Addr}, WSels w lo hi f ks a → WSels w' lo hi f ks a
  | 0, _, _, h => h
  | f + 1, ks, a, h => fun hn => by
    obtain ⟨b, off, e, h1, h2, hc⟩ := h hn
    refine ⟨b, off, e, h1, h2, fun i hi => ?_⟩
    obtain ⟨q0, q1, q2, q3, ka, kc, q4, q5⟩ := hc i hi
    exact ⟨q0.keep m.m, q1.keep m.m, q2.keep m.m, q3.keep m, ka, kc, m.m.list _ _ _ _ q4, q5.keep m⟩
theorem WSels.of_n {w : World} {lo hi : Nat} (nf : NF lo w) : ∀ {f : Nat} {ks : List Se} {a : Option Addr} {C : Nat → Nat → Value}, Arr w (fun b => lo ≤ b ∧ b < hi) 5 ks.length a C → (∀ i, i < ks.length → SeN w (fun b => lo ≤ b ∧ b < hi) f (sth ks i) (.agg #[C i 0, C i 1, C i 2, C i 3, C i 4])) → WSels w lo hi (f + 1) ks a
  | 0, ks, a, C, hA, hr => fun hn => (hr 0 hn).elim
  | f + 1, ks, a, C, hA, hr => fun hn => by
    obtain ⟨b, off, e, hb, hc⟩ := hA hn
    refine ⟨b, off, e, hb.1, hb.2, fun i hi => ?_⟩
    obtain ⟨ka, kc, D, hv, -, -, -, hA2, hr2⟩ := hr i hi
    simp only [Value.agg.injEq, Array.mk.injEq, List.cons.injEq, and_true] at hv
    obtain ⟨e0, e1, e2, e3, e4⟩ := hv
    have c0 := hc i hi 0 (by omega)
    have c1 := hc i hi 1 (by omega)
    have c2 := hc i hi 2 (by omega)
    have c3 := hc i hi 3 (by omega)
    have c4 := hc i hi 4 (by omega)
    rw [e0] at c0
    rw [e1] at c1
    rw [e2] at c2
    rw [e3] at c3
    rw [e4] at c4
    exact ⟨⟨⟨_, c0⟩, nf _ hb.1⟩, ⟨⟨_, c1⟩, nf _ hb.1⟩, ⟨⟨_, c2⟩, nf _ hb.1⟩, ⟨⟨_, c3⟩, nf _ hb.1⟩, ka, kc, c4, WSels.of_n nf hA2 hr2⟩
theorem WSels.of_rep {w : World} {lo hi : Nat} {ks : List Se} {a : Option Addr} (h : SeReps w (fun b => lo ≤ b ∧ b < hi) ks a) (nf : NF lo w) : ∃ f, WSels w lo hi f ks a := by
  obtain ⟨h0, C, hA, hr⟩ := h
  obtain ⟨f, hf⟩ := se_bound ks.length hr
  exact ⟨f + 1, WSels.of_n nf hA hf⟩

theorem cntTo_ge (ks : List Se) (f : Nat) : ∀ n, n ≤ cntTo (f + 1) ks n
  | 0 => Nat.zero_le _
  | n + 1 => by have := cntTo_ge ks f n; rw [cntTo_succ, cntSe_kids]; omega
theorem kids_le (ks : List Se) (h : ∀ g, cntTo g ks ks.length ≤ 1048576) {j : Nat} (hj : j < ks.length) : (sth ks j).kids.length ≤ 1048576 := by
  have g1 := h 2
  have g2 := cntTo_mono 2 ks (show j + 1 ≤ ks.length by omega)
  have g3 := cntTo_succ 2 ks j
  have g4 : cntSe 2 (sth ks j) = 1 + cntTo 1 (sth ks j).kids (sth ks j).kids.length := cntSe_kids _ _
  have g5 : (sth ks j).kids.length ≤ cntTo 1 (sth ks j).kids (sth ks j).kids.length := cntTo_ge (sth ks j).kids 0 (sth ks j).kids.length
  omega
theorem markText_i (K : Int) (w : World) (h0 : 0 ≤ K) (h1 : K ≤ 1000000000000000000) :
    Calls Tryd.prog 20 #[.int .i64 K] w fun e w' => (∃ s, e = .returned (.string s)) ∧ Below w.heap.size w w' := by
  have h := markText_any K.toNat w (by omega)
  rw [show ((K.toNat : Nat) : Int) = K by omega] at h
  exact h.mono fun e w' ⟨h1, h2⟩ => ⟨⟨_, h1⟩, h2⟩
set_option maxRecDepth 20000 in
set_option maxHeartbeats 1600000 in
theorem markSelS_any (f : Nat) : ∀ (ks : List Se) (c lo hi : Nat) (K : Int) (a : Option Addr) (w : World), WSels w lo hi f ks a → ks.length ≤ 1048576 → (∀ g, cntTo g ks ks.length ≤ 1048576) → 0 ≤ K → K + 4 * cntTo f ks ks.length ≤ 100000000000000000 →
    Calls Tryd.prog 9 #[.slice a ks.length c, .int .i64 K] w fun e w' => (∃ K' : Int, e = .returned (.int .i64 K') ∧ 0 ≤ K' ∧ K' ≤ K + 4 * cntTo f ks ks.length) ∧ MarkedN lo hi w w' := by
  induction f with
  | zero =>
    intro ks c lo hi K a w h hn hcn hk0 hk
    have h0 : ks.length = 0 := h
    have hks : ks = [] := by simpa using h0
    subst hks
    go_enter Tryd.func9, Tryd.ntmps9
    go_wp2_with fail
    go_loopw [1, 5] (fun kk i wr => kk = .int .i64 K ∧ i = .int .i64 0 ∧ wr = w) (fun _ _ _ => 0)
    case atStart => exact ⟨rfl, rfl, rfl⟩
    case round =>
      obtain ⟨rfl, rfl, rfl⟩ := hrel
      go_wp2_with fail
      go_ret
      exact ⟨⟨K, rfl, hk0, by omega⟩, MarkedN.refl _ _ _⟩
  | succ f ih =>
    intro ks c lo hi K0 a w h hn hcn hk0 hk
    go_enter Tryd.func9, Tryd.ntmps9
    go_wp2_with fail
    go_loopw [1, 5] (fun kk i wr => ∃ (j : Nat) (q : Int), j ≤ ks.length ∧ 0 ≤ q ∧ q ≤ K0 + 4 * cntTo (f + 1) ks j ∧ kk = .int .i64 q ∧ i = .int .i64 j ∧ MarkedN lo hi w wr) (fun _ i _ => ks.length - (intOf i).toNat)
    case atStart => exact ⟨0, K0, Nat.zero_le _, hk0, by omega, rfl, rfl, MarkedN.refl _ _ _⟩
    case round =>
      obtain ⟨j, K, hj, hK0, hKq, rfl, rfl, hm⟩ := hrel
      obtain ⟨w0, rfl⟩ : ∃ x, x = wr := ⟨wr, rfl⟩
      by_cases hlt : j < ks.length
      · obtain ⟨b, off, rfl, h1, h2, hcc⟩ := (h.keep hm) (by omega)
        obtain ⟨x0, x1, x2, x3, ka, kc, x4, x5⟩ := hcc j hlt
        clear hcc
        have hji : (j : Int) < (ks.length : Int) := by omega
        have hmono : cntTo (f + 1) ks (j + 1) ≤ cntTo (f + 1) ks ks.length := cntTo_mono _ _ (by omega)
        have hsucc := cntTo_succ (f + 1) ks j
        have hkid : cntSe (f + 1) (sth ks j) = 1 + cntTo f (sth ks j).kids (sth ks j).kids.length := cntSe_kids _ _
        have hkl : (sth ks j).kids.length ≤ 1048576 := kids_le ks hcn hlt
        have hkc : ∀ g, cntTo g (sth ks j).kids (sth ks j).kids.length ≤ 1048576 := fun g => by
          have g1 := hcn (g + 1)
          have g2 := cntTo_mono (g + 1) ks (show j + 1 ≤ ks.length by omega)
          have g3 := cntTo_succ (g + 1) ks j
          have g4 : cntSe (g + 1) (sth ks j) = 1 + cntTo g (sth ks j).kids (sth ks j).kids.length := cntSe_kids _ _
          omega
        have HKB : Hid (K0 + 4 * cntTo (f + 1) ks ks.length ≤ 100000000000000000 ∧ K ≤ K0 + 4 * cntTo (f + 1) ks j ∧ cntTo (f + 1) ks (j + 1) = cntTo (f + 1) ks j + 1 + cntTo f (sth ks j).kids (sth ks j).kids.length ∧ cntTo (f + 1) ks (j + 1) ≤ cntTo (f + 1) ks ks.length) := ⟨hk, hKq, by omega, hmono⟩
        have hKm : K + 4 + 4 * cntTo f (sth ks j).kids (sth ks j).kids.length ≤ 100000000000000000 := by omega
        have HC : Hid (∀ g, cntTo g (sth ks j).kids (sth ks j).kids.length ≤ 1048576) := hkc
        have hB1 : Hid (lo ≤ b ∧ b < hi) := ⟨h1, h2⟩
        have HX : Hid (TextAt w0 ⟨b, off + j * 5, none⟩ ∧ TextAt w0 ⟨b, off + j * 5 + 1, none⟩ ∧ FlagAt w0 ⟨b, off + j * 5 + 2, none⟩ ∧ NumAt w0 ⟨b, off + j * 5 + 3, none⟩ ∧ w0.cell? ⟨b, off + j * 5 + 4, none⟩ = some (.slice ka (sth ks j).kids.length kc) ∧ WSels w0 lo hi f (sth ks j).kids ka) := ⟨x0, x1, x2, x3, x4, x5⟩
        clear x0 x1 x2 x3 x4 x5 h1 h2 hmono hsucc hkid hkc hk hKq hcn
        go_wp2_with fail
        refine (markText_i K w0 hK0 (by omega)).mono ?_
        rintro e w1 ⟨⟨mt0, rfl⟩, hb1⟩
        have m1 := MarkedN.of_below lo hi hb1
        obtain ⟨⟨s0, t0⟩, f0⟩ := HX.out.1.keep m1.m
        have m1' := m1.trans (MarkedN.set_text t0 hB1.out.1 hB1.out.2 mt0)
        go_wp2_with fail
        obtain ⟨W1, hW1⟩ : ∃ W, W = w1.setCell ⟨b, off + j * 5, none⟩ (.string mt0) := ⟨_, rfl⟩
        rw [← hW1] at m1' ⊢
        clear hW1 t0 f0 m1 hb1
        refine (markText_i (K + 1) W1 (by omega) (by omega)).mono ?_
        rintro e w2 ⟨⟨mt1, rfl⟩, hb2⟩
        have m2 := m1'.trans (MarkedN.of_below lo hi hb2)
        obtain ⟨⟨s1, t1⟩, f1⟩ := HX.out.2.1.keep m2.m
        obtain ⟨⟨s2, t2⟩, f2⟩ := HX.out.2.2.1.keep m2.m
        obtain ⟨⟨s3, t3⟩, f3⟩ := HX.out.2.2.2.1.keep m2
        have t4 := m2.m.list _ _ _ _ HX.out.2.2.2.2.1
        have HM2 : Hid (MarkedN lo hi w0 w2) := m2
        clear m1' hb2 m2
        go_wp2_with fail
        have n1 := MarkedN.set_text t1 hB1.out.1 hB1.out.2 mt1
        obtain ⟨⟨s2', t2'⟩, -⟩ := FlagAt.keep ⟨⟨_, t2⟩, f2⟩ n1.m
        have n2 := n1.trans (MarkedN.set_flag t2' hB1.out.1 hB1.out.2 ((K + 1 + 1) % 3 == 0))
        obtain ⟨⟨s3', t3'⟩, -⟩ := NumAt.keep ⟨⟨_, t3⟩, f3⟩ n2
        have n3 := HM2.out.trans (n2.trans (MarkedN.set_num t3' hB1.out.1 hB1.out.2 (K + 1 + 1 + 1)))
        refine (ih (sth ks j).kids kc lo hi (K + 1 + 1 + 1 + 1) ka _ (HX.out.2.2.2.2.2.keep n3) hkl HC.out (by omega) (by omega)).mono ?_
        rintro e w5 ⟨⟨K', rfl, hK'0, hK'1⟩, m6⟩
        have m7 := hm.trans (n3.trans m6)
        clear n1 n2 n3 m6 t1 t2 t3 t4 t2' t3' f1 f2 f3 ih
        go_wp2_with fail
        go_roundw
        case rel => exact ⟨j + 1, K', by omega, hK'0, by have := HKB.out; omega, rfl, by go_num, m7⟩
        case measure => simp [intOf]; omega
      · go_wp2_with fail
        go_ret
        have e : j = ks.length := by omega
        exact ⟨⟨K, rfl, hK0, by rw [← e]; exact hKq⟩, hm⟩


end Go.Proofs.YtpgcjdaahgfhgaaDoor

namespace Go.Proofs.YtpgcjdaahgfhgaaDoor
set_option linter.unusedSimpArgs false
set_option linter.unusedVariables false
open Go.RowKit Go.Shelf Go.Maps

/-- A field with other kids. -/
def Se.sub (s : Se) (K : List Se) : Se := ⟨s.al, s.name, s.one, s.id, K⟩
theorem Se.sub_self (s : Se) : s.sub s.kids = s := by cases s; rfl
theorem sth_take (ks : List Se) (n : Nat) (h : n < ks.length) : ks.take n ++ [sth ks n] = ks.take (n + 1) := by
  rw [List.take_add_one]
  simp [sth, List.getD_eq_getElem?_getD, h]
theorem cnt_list (f : Nat) (ks : List Se) : cntTo f ks ks.length = (ks.map (cntSe f)).sum := by
  have h : ∀ n, n ≤ ks.length → cntTo f ks n = ((ks.take n).map (cntSe f)).sum := by
    intro n
    induction n with
    | zero => intro _; simp [cntTo]
    | succ n ih =>
      intro hn
      rw [cntTo_succ, ih (by omega), ← sth_take ks n (by omega), List.map_append, List.sum_append]
      simp
  rw [h _ (Nat.le_refl _), List.take_length]
theorem fit_mem {f : Nat} {ks : List Se} : FitS (f + 1) ks ↔ ∀ x ∈ ks, FitS f x.kids := by
  constructor
  · intro h x hx
    obtain ⟨i, hi, e⟩ := List.mem_iff_getElem.1 hx
    have := h i hi
    have es : sth ks i = x := by simp [sth, List.getD_eq_getElem?_getD, hi, e]
    rwa [es] at this
  · intro h i hi
    have es : sth ks i = ks[i] := by simp [sth, List.getD_eq_getElem?_getD, hi]
    rw [es]
    exact h _ (List.getElem_mem hi)
theorem sth_mem {ks : List Se} {i : Nat} (hi : i < ks.length) : sth ks i ∈ ks := by
  have es : sth ks i = ks[i] := by simp [sth, List.getD_eq_getElem?_getD, hi]
  rw [es]
  exact List.getElem_mem hi
/-- What is left has no more levels. -/
theorem kids_len {f : Nat} {ks : List Se} (hf : FitS f ks) (hc : cntTo f ks ks.length ≤ 1000000) : ks.length ≤ 1000000 := by
  cases f with
  | zero => have e : ks = [] := hf; rw [e]; simp
  | succ f => exact Nat.le_trans (cntTo_ge ks f _) hc
/-- Nothing but some old blocks has changed. -/
structure Fram (S : Nat → Prop) (A B : World) : Prop where
  os : B.os = A.os
  tape : B.tape = A.tape
  output : B.output = A.output
  size : A.heap.size ≤ B.heap.size
  block : ∀ b, b < A.heap.size → ¬ S b → B.heap[b]? = A.heap[b]?
theorem Fram.of_below {S : Nat → Prop} {A B : World} (h : Below A.heap.size A B) : Fram S A B := ⟨h.os, h.tape, h.output, h.size, fun b hb _ => h.block b hb⟩
theorem Fram.of_marked {S : Nat → Prop} {lo hi : Nat} {A B : World} (h : Marked lo hi A B) (hS : ∀ b, lo ≤ b ∧ b < hi → S b) : Fram S A B := ⟨h.os, h.tape, h.output, h.size, fun b hb hn => h.block b hb fun e => hn (hS b e)⟩
theorem Fram.trans {S : Nat → Prop} {A B C : World} (h : Fram S A B) (k : Fram S B C) : Fram S A C := ⟨k.os.trans h.os, k.tape.trans h.tape, k.output.trans h.output, Nat.le_trans h.size k.size, fun b hb hn => (k.block b (Nat.lt_of_lt_of_le hb h.size) hn).trans (h.block b hb hn)⟩
theorem Fram.below {S : Nat → Prop} {A B : World} {N : Nat} (h : Fram S A B) (hN : N ≤ A.heap.size) (hS : ∀ b, S b → N ≤ b) : Below N A B := ⟨h.os, h.tape, h.output, h.size, fun b hb => h.block b (by omega) fun e => by have := hS b e; omega⟩
end Go.Proofs.YtpgcjdaahgfhgaaDoor

namespace Go.Proofs.YtpgcjdaahgfhgaaDoor
set_option linter.unusedSimpArgs false
set_option linter.unusedVariables false
open Go.RowKit Go.Shelf Go.Maps

/-- A field in a list: where its kids lie, and in which blocks. -/
structure El where
  s : Se
  ka : Option Addr
  kc : Nat
  Q : Nat → Prop
def El.cells (e : El) : List Value := [.string e.s.al, .string e.s.name, .bool e.s.one, .int .i64 e.s.id, .slice e.ka e.s.kids.length e.kc]
/-- A word about a list in memory that looks at blocks of a set alone. -/
def Looks (P : World → (Nat → Prop) → List Se → Option Addr → Prop) : Prop := ∀ (w w' : World) (Q : Nat → Prop) (ks : List Se) (a : Option Addr), P w Q ks a → (∀ b, Q b → w'.heap[b]? = w.heap[b]?) → P w' Q ks a
theorem looks_reps : Looks SeReps := fun w w' Q ks a h e => h.mono e
/-- A list of the call's own. -/
structure RowP (P : World → (Nat → Prop) → List Se → Option Addr → Prop) (base : Nat) (es : List El) (v : Value) (w : World) : Prop where
  row : w.ownsRow base 37 5 v es.length (es.flatMap El.cells)
  kid : ∀ e ∈ es, P w e.Q e.s.kids e.ka ∧ ∀ b, e.Q b → b < w.heap.size ∧ v.ownBlock ≠ some b
theorem RowP.nil {P : World → (Nat → Prop) → List Se → Option Addr → Prop} (base : Nat) (w : World) : RowP P base [] (.slice none 0 0) w := ⟨World.ownsRow_nil _ _ _ _, fun e he => by cases he⟩
theorem RowP.new {P : World → (Nat → Prop) → List Se → Option Addr → Prop} (w : World) : RowP P w.heap.size [] (.slice (some ⟨w.heap.size, 0, none⟩) 0 0) (w.alloc (.cells #[] 37)) :=
  ⟨⟨rfl, Or.inr ⟨w.heap.size, 0, #[], rfl, Nat.le_refl _, heap_alloc_new w _, Nat.le_refl _, by unfold maxLen; omega, rfl, rfl⟩⟩, fun e he => by cases he⟩
theorem RowP.form {P : World → (Nat → Prop) → List Se → Option Addr → Prop} {base : Nat} {es : List El} {v : Value} {w : World} (h : RowP P base es v w) (hn : ¬ v = .slice none 0 0) : ∃ g cap, v = .slice (some ⟨g, 0, none⟩) es.length cap := by
  rcases h.row.2 with ⟨e, -⟩ | ⟨g, cap, cur, e, -⟩
  · exact absurd e hn
  · exact ⟨g, cap, e⟩
theorem RowP.slice {P : World → (Nat → Prop) → List Se → Option Addr → Prop} {base : Nat} {es : List El} {v : Value} {w : World} (h : RowP P base es v w) : ∃ a cap, v = .slice a es.length cap := by
  rcases h.row.2 with ⟨e, e2⟩ | ⟨g, cap, cur, e, -⟩
  · exact ⟨none, 0, by rw [e, e2]⟩
  · exact ⟨_, cap, e⟩
theorem RowP.keep {P : World → (Nat → Prop) → List Se → Option Addr → Prop} (hP : Looks P) {base : Nat} {es : List El} {v : Value} {w w' : World} (h : RowP P base es v w) (hb : Below w.heap.size w w') : RowP P base es v w' := by
  refine ⟨owns_keep' h.row hb, fun e he => ?_⟩
  obtain ⟨h1, h2⟩ := h.kid e he
  exact ⟨hP _ _ _ _ _ h1 fun b hq => hb.block b (h2 b hq).1, fun b hq => ⟨Nat.lt_of_lt_of_le (h2 b hq).1 hb.size, (h2 b hq).2⟩⟩
theorem RowP.push {P : World → (Nat → Prop) → List Se → Option Addr → Prop} (hP : Looks P) {base : Nat} {es : List El} {v v' : Value} {w w' : World} (h : RowP P base es v w) (e : El) {xs : List Value} (hx : xs = e.cells) {n : Nat} (hn : n = es.length)
    (hr : w'.ownsRow base 37 5 v' (n + 1) (es.flatMap El.cells ++ xs)) (hg : w.grownBy w' v.ownBlock) (ho : v'.ownBlock = v.ownBlock ∨ v'.ownBlock = some w.heap.size)
    (hk : P w e.Q e.s.kids e.ka) (hq : ∀ b, e.Q b → b < w.heap.size ∧ v.ownBlock ≠ some b) : RowP P base (es ++ [e]) v' w' := by
  subst hx hn
  have hall : ∀ y ∈ es ++ [e], P w y.Q y.s.kids y.ka ∧ ∀ b, y.Q b → b < w.heap.size ∧ v.ownBlock ≠ some b := fun y hy => by
    rcases List.mem_append.1 hy with hy | hy
    · exact h.kid y hy
    · rw [List.mem_singleton.1 hy]; exact ⟨hk, hq⟩
  refine ⟨by simpa [List.flatMap_append] using hr, fun y hy => ?_⟩
  obtain ⟨h1, h2⟩ := hall y hy
  refine ⟨hP _ _ _ _ _ h1 fun b hb => hg.block b (h2 b hb).1 (h2 b hb).2.symm, fun b hb => ⟨Nat.lt_of_lt_of_le (h2 b hb).1 hg.size, fun e2 => ?_⟩⟩
  rcases ho with ho | ho
  · exact (h2 b hb).2 (ho ▸ e2)
  · rw [ho] at e2
    have := (h2 b hb).1
    simp at e2
    omega
theorem flat5 (es : List El) : ∀ (i j : Nat) (hi : i < es.length), j < 5 → (es.flatMap El.cells)[i * 5 + j]? = (es[i]).cells[j]? := by
  induction es with
  | nil => intro i j hi; simp at hi
  | cons e es ih =>
    intro i j hi hj
    rw [List.flatMap_cons]
    have hl : e.cells.length = 5 := rfl
    cases i with
    | zero => rw [List.getElem?_append_left (by omega)]; simp
    | succ i =>
      rw [List.getElem?_append_right (by omega), hl, show (i + 1) * 5 + j - 5 = i * 5 + j by omega]
      simpa using ih i j (by simpa using hi) hj
/-- The fields of a list of the call's own, as a tree in memory. -/
theorem RowP.reps {P : World → (Nat → Prop) → List Se → Option Addr → Prop} (hP : ∀ w Q ks a, P w Q ks a → SeReps w Q ks a) {base : Nat} {es : List El} {v : Value} {w : World} (h : RowP P base es v w) (hl : es.length ≤ 1000000) (hs : ∀ e ∈ es, e.s.al.size ≤ maxLen ∧ e.s.name.size ≤ maxLen) (R : Nat → Prop)
    (hR : ∀ b, (base ≤ b ∧ b < w.heap.size) → R b) (hRe : ∀ e ∈ es, ∀ b, e.Q b → R b) :
    ∃ a c, v = .slice a es.length c ∧ SeReps w R (es.map El.s) a := by
  rcases h.row.2 with ⟨rfl, h0⟩ | ⟨g, cap, cur, rfl, hb, hh, r⟩
  · have e : es = [] := List.length_eq_zero_iff.1 h0
    subst e
    exact ⟨none, 0, rfl, by simp, fun _ _ => .bool false, fun hn => by simp at hn, fun i hi => by simp at hi⟩
  · refine ⟨_, _, rfl, by simp; omega, fun i j => ((es.flatMap El.cells)[i * 5 + j]?).getD (.bool false), fun hn => ⟨g, 0, rfl, hR g ⟨hb, (Array.getElem?_eq_some_iff.1 hh).1⟩, fun i hi j hj => ?_⟩, fun i hi => ?_⟩
    · have hi' : i < es.length := by simpa using hi
      rw [Nat.zero_add, h.row.cellAt (i * 5 + j) (by omega)]
      have hlt : i * 5 + j < (es.flatMap El.cells).length := by rw [h.row.1]; omega
      show _ = some ((es.flatMap El.cells)[i * 5 + j]?.getD (.bool false))
      rw [List.getElem?_eq_getElem hlt]; rfl
    · have hi' : i < es.length := by simpa using hi
      have hm := List.getElem_mem hi'
      have c0 := flat5 es i 0 hi' (by omega)
      have c1 := flat5 es i 1 hi' (by omega)
      have c2 := flat5 es i 2 hi' (by omega)
      have c3 := flat5 es i 3 hi' (by omega)
      have c4 := flat5 es i 4 hi' (by omega)
      simp only
      rw [c0, c1, c2, c3, c4]
      have es1 : sth (es.map El.s) i = es[i].s := by simp [sth, List.getD_eq_getElem?_getD, hi']
      rw [es1]
      have hk := (hP _ _ _ _ (h.kid _ hm).1).sub (hRe _ hm)
      have hz := hs _ hm
      generalize es[i] = x at *
      simp only [El.cells, List.getElem?_cons_zero, List.getElem?_cons_succ, Option.getD_some]
      obtain ⟨⟨x1, x2, x3, x4, x5⟩, x6, x7, x8⟩ := x
      exact SeRep.of_kids hz.1 hz.2 hk
end Go.Proofs.YtpgcjdaahgfhgaaDoor
