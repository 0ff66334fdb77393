/-
  The laws' marks on fields that are asked for, and on steps.
-/
import Derived.Test.YtahelconmfldjaaQMark
import Derived.Test.YtahelconmfldjaaQCopy
namespace Go.Proofs.Ytahelconmfldjaa
set_option linter.unusedSimpArgs false
set_option linter.unusedVariables false
open Go.RowKit

/-- Fields that may be written, with all that is asked of them, within a range of blocks. -/
def WSels (w : World) (lo hi : Nat) : Nat → List Se → Option Addr → Prop
  | 0, ks, _ => ks.length = 0
  | f + 1, ks, a => 0 < ks.length → ∃ b off, a = some ⟨b, off, none⟩ ∧ lo ≤ b ∧ b < hi ∧ ∀ i, i < ks.length → TextAt w ⟨b, off + i * 5, none⟩ ∧ TextAt w ⟨b, off + i * 5 + 1, none⟩ ∧ FlagAt w ⟨b, off + i * 5 + 2, none⟩ ∧ NumAt w ⟨b, off + i * 5 + 3, none⟩ ∧
      ∃ ka kc, w.cell? ⟨b, off + i * 5 + 4, none⟩ = some (.slice ka (sth ks i).kids.length kc) ∧ WSels w lo hi f (sth ks i).kids ka
theorem WSels.keep {lo hi lo' hi' : Nat} {w w' : World} (m : MarkedN lo' hi' w w') : ∀ {f : Nat} {ks : List Se} {a : Option Addr}, WSels w lo hi f ks a → WSels w' lo hi f ks a
  | 0, _, _, h => h
  | f + 1, ks, a, h => fun hn => by
    obtain ⟨b, off, e, h1, h2, hc⟩ := h hn
    refine ⟨b, off, e, h1, h2, fun i hi => ?_⟩
    obtain ⟨q0, q1, q2, q3, ka, kc, q4, q5⟩ := hc i hi
    exact ⟨q0.keep m.m, q1.keep m.m, q2.keep m.m, q3.keep m, ka, kc, m.m.list _ _ _ _ q4, q5.keep m⟩
theorem WSels.of_n {w : World} {lo hi : Nat} (nf : NF lo w) : ∀ {f : Nat} {ks : List Se} {a : Option Addr} {C : Nat → Nat → Value}, Arr w (fun b => lo ≤ b ∧ b < hi) 5 ks.length a C → (∀ i, i < ks.length → SeN w (fun b => lo ≤ b ∧ b < hi) f (sth ks i) (.agg #[C i 0, C i 1, C i 2, C i 3, C i 4])) → WSels w lo hi (f + 1) ks a
  | 0, ks, a, C, hA, hr => fun hn => (hr 0 hn).elim
  | f + 1, ks, a, C, hA, hr => fun hn => by
    obtain ⟨b, off, e, hb, hc⟩ := hA hn
    refine ⟨b, off, e, hb.1, hb.2, fun i hi => ?_⟩
    obtain ⟨ka, kc, D, hv, -, -, -, hA2, hr2⟩ := hr i hi
    simp only [Value.agg.injEq, Array.mk.injEq, List.cons.injEq, and_true] at hv
    obtain ⟨e0, e1, e2, e3, e4⟩ := hv
    have c0 := hc i hi 0 (by omega)
    have c1 := hc i hi 1 (by omega)
    have c2 := hc i hi 2 (by omega)
    have c3 := hc i hi 3 (by omega)
    have c4 := hc i hi 4 (by omega)
    rw [e0] at c0
    rw [e1] at c1
    rw [e2] at c2
    rw [e3] at c3
    rw [e4] at c4
    exact ⟨⟨⟨_, c0⟩, nf _ hb.1⟩, ⟨⟨_, c1⟩, nf _ hb.1⟩, ⟨⟨_, c2⟩, nf _ hb.1⟩, ⟨⟨_, c3⟩, nf _ hb.1⟩, ka, kc, c4, WSels.of_n nf hA2 hr2⟩
theorem WSels.of_rep {w : World} {lo hi : Nat} {ks : List Se} {a : Option Addr} (h : SeReps w (fun b => lo ≤ b ∧ b < hi) ks a) (nf : NF lo w) : ∃ f, WSels w lo hi f ks a := by
  obtain ⟨h0, C, hA, hr⟩ := h
  obtain ⟨f, hf⟩ := se_bound ks.length hr
  exact ⟨f + 1, WSels.of_n nf hA hf⟩

theorem cntTo_mono (f : Nat) (ks : List Se) {i n : Nat} (h : i ≤ n) : cntTo f ks i ≤ cntTo f ks n := by
  induction h with
  | refl => exact Nat.le_refl _
  | step h ih => rw [cntTo_succ]; omega
theorem cntTo_ge (ks : List Se) (f : Nat) : ∀ n, n ≤ cntTo (f + 1) ks n
  | 0 => Nat.zero_le _
  | n + 1 => by have := cntTo_ge ks f n; rw [cntTo_succ, cntSe_kids]; omega
theorem kids_le (ks : List Se) (h : ∀ g, cntTo g ks ks.length ≤ 1048576) {j : Nat} (hj : j < ks.length) : (sth ks j).kids.length ≤ 1048576 := by
  have g1 := h 2
  have g2 := cntTo_mono 2 ks (show j + 1 ≤ ks.length by omega)
  have g3 := cntTo_succ 2 ks j
  have g4 : cntSe 2 (sth ks j) = 1 + cntTo 1 (sth ks j).kids (sth ks j).kids.length := cntSe_kids _ _
  have g5 : (sth ks j).kids.length ≤ cntTo 1 (sth ks j).kids (sth ks j).kids.length := cntTo_ge (sth ks j).kids 0 (sth ks j).kids.length
  omega
theorem markText_i (K : Int) (w : World) (h0 : 0 ≤ K) (h1 : K ≤ 1000000000000000000) :
    Calls Try.prog 29 #[.int .i64 K] w fun e w' => (∃ s, e = .returned (.string s)) ∧ Below w.heap.size w w' := by
  have h := markText_any K.toNat w (by omega)
  rw [show ((K.toNat : Nat) : Int) = K by omega] at h
  exact h.mono fun e w' ⟨h1, h2⟩ => ⟨⟨_, h1⟩, h2⟩
theorem markStringS_i (n c lo hi : Nat) (K : Int) (a : Option Addr) (w : World) (hw : WStrs w lo hi n a) (hn : n ≤ 1048576) (h0 : 0 ≤ K) (h1 : K ≤ 100000000000000000) :
    Calls Try.prog 28 #[.slice a n c, .int .i64 K] w fun e w' => (∃ K' : Int, e = .returned (.int .i64 K') ∧ 0 ≤ K' ∧ K' ≤ K + n) ∧ MarkedN lo hi w w' := by
  have h := markStringS_num n c K.toNat lo hi a w hw hn (by omega)
  rw [show ((K.toNat : Nat) : Int) = K by omega] at h
  exact h.mono fun e w' ⟨h1, h2, _⟩ => ⟨⟨_, h1, by omega, by omega⟩, h2⟩
theorem markIntS_i (n c lo hi : Nat) (K : Int) (a : Option Addr) (w : World) (hw : WInts w lo hi n a) (hn : n ≤ 1048576) (h0 : 0 ≤ K) (h1 : K ≤ 100000000000000000) :
    Calls Try.prog 15 #[.slice a n c, .int .i64 K] w fun e w' => (∃ K' : Int, e = .returned (.int .i64 K') ∧ 0 ≤ K' ∧ K' ≤ K + n) ∧ MarkedN lo hi w w' := by
  have h := markIntS_any n c K.toNat lo hi a w hw hn (by omega)
  rw [show ((K.toNat : Nat) : Int) = K by omega] at h
  exact h.mono fun e w' ⟨h1, h2, _⟩ => ⟨⟨_, h1, by omega, by omega⟩, h2⟩

set_option maxRecDepth 20000 in
set_option maxHeartbeats 1600000 in
theorem markSelS_any (f : Nat) : ∀ (ks : List Se) (c lo hi : Nat) (K : Int) (a : Option Addr) (w : World), WSels w lo hi f ks a → ks.length ≤ 1048576 → (∀ g, cntTo g ks ks.length ≤ 1048576) → 0 ≤ K → K + 4 * cntTo f ks ks.length ≤ 100000000000000000 →
    Calls Try.prog 30 #[.slice a ks.length c, .int .i64 K] w fun e w' => (∃ K' : Int, e = .returned (.int .i64 K') ∧ 0 ≤ K' ∧ K' ≤ K + 4 * cntTo f ks ks.length) ∧ MarkedN lo hi w w' := by
  induction f with
  | zero =>
    intro ks c lo hi K a w h hn hcn hk0 hk
    have h0 : ks.length = 0 := h
    have hks : ks = [] := by simpa using h0
    subst hks
    go_enter Try.func30, Try.ntmps30
    go_wp2_with fail
    go_loopw [1, 5] (fun kk i wr => kk = .int .i64 K ∧ i = .int .i64 0 ∧ wr = w) (fun _ _ _ => 0)
    case atStart => exact ⟨rfl, rfl, rfl⟩
    case round =>
      obtain ⟨rfl, rfl, rfl⟩ := hrel
      go_wp2_with fail
      go_ret
      exact ⟨⟨K, rfl, hk0, by omega⟩, MarkedN.refl _ _ _⟩
  | succ f ih =>
    intro ks c lo hi K0 a w h hn hcn hk0 hk
    go_enter Try.func30, Try.ntmps30
    go_wp2_with fail
    go_loopw [1, 5] (fun kk i wr => ∃ (j : Nat) (q : Int), j ≤ ks.length ∧ 0 ≤ q ∧ q ≤ K0 + 4 * cntTo (f + 1) ks j ∧ kk = .int .i64 q ∧ i = .int .i64 j ∧ MarkedN lo hi w wr) (fun _ i _ => ks.length - (intOf i).toNat)
    case atStart => exact ⟨0, K0, Nat.zero_le _, hk0, by omega, rfl, rfl, MarkedN.refl _ _ _⟩
    case round =>
      obtain ⟨j, K, hj, hK0, hKq, rfl, rfl, hm⟩ := hrel
      obtain ⟨w0, rfl⟩ : ∃ x, x = wr := ⟨wr, rfl⟩
      by_cases hlt : j < ks.length
      · obtain ⟨b, off, rfl, h1, h2, hcc⟩ := (h.keep hm) (by omega)
        obtain ⟨x0, x1, x2, x3, ka, kc, x4, x5⟩ := hcc j hlt
        clear hcc
        have hji : (j : Int) < (ks.length : Int) := by omega
        have hmono : cntTo (f + 1) ks (j + 1) ≤ cntTo (f + 1) ks ks.length := cntTo_mono _ _ (by omega)
        have hsucc := cntTo_succ (f + 1) ks j
        have hkid : cntSe (f + 1) (sth ks j) = 1 + cntTo f (sth ks j).kids (sth ks j).kids.length := cntSe_kids _ _
        have hkl : (sth ks j).kids.length ≤ 1048576 := kids_le ks hcn hlt
        have hkc : ∀ g, cntTo g (sth ks j).kids (sth ks j).kids.length ≤ 1048576 := fun g => by
          have g1 := hcn (g + 1)
          have g2 := cntTo_mono (g + 1) ks (show j + 1 ≤ ks.length by omega)
          have g3 := cntTo_succ (g + 1) ks j
          have g4 : cntSe (g + 1) (sth ks j) = 1 + cntTo g (sth ks j).kids (sth ks j).kids.length := cntSe_kids _ _
          omega
        have HKB : Hid (K0 + 4 * cntTo (f + 1) ks ks.length ≤ 100000000000000000 ∧ K ≤ K0 + 4 * cntTo (f + 1) ks j ∧ cntTo (f + 1) ks (j + 1) = cntTo (f + 1) ks j + 1 + cntTo f (sth ks j).kids (sth ks j).kids.length ∧ cntTo (f + 1) ks (j + 1) ≤ cntTo (f + 1) ks ks.length) := ⟨hk, hKq, by omega, hmono⟩
        have hKm : K + 4 + 4 * cntTo f (sth ks j).kids (sth ks j).kids.length ≤ 100000000000000000 := by omega
        have HC : Hid (∀ g, cntTo g (sth ks j).kids (sth ks j).kids.length ≤ 1048576) := hkc
        have hB1 : Hid (lo ≤ b ∧ b < hi) := ⟨h1, h2⟩
        have HX : Hid (TextAt w0 ⟨b, off + j * 5, none⟩ ∧ TextAt w0 ⟨b, off + j * 5 + 1, none⟩ ∧ FlagAt w0 ⟨b, off + j * 5 + 2, none⟩ ∧ NumAt w0 ⟨b, off + j * 5 + 3, none⟩ ∧ w0.cell? ⟨b, off + j * 5 + 4, none⟩ = some (.slice ka (sth ks j).kids.length kc) ∧ WSels w0 lo hi f (sth ks j).kids ka) := ⟨x0, x1, x2, x3, x4, x5⟩
        clear x0 x1 x2 x3 x4 x5 h1 h2 hmono hsucc hkid hkc hk hKq hcn
        go_wp2_with fail
        refine (markText_i K w0 hK0 (by omega)).mono ?_
        rintro e w1 ⟨⟨mt0, rfl⟩, hb1⟩
        have m1 := MarkedN.of_below lo hi hb1
        obtain ⟨⟨s0, t0⟩, f0⟩ := HX.out.1.keep m1.m
        have m1' := m1.trans (MarkedN.set_text t0 hB1.out.1 hB1.out.2 mt0)
        go_wp2_with fail
        obtain ⟨W1, hW1⟩ : ∃ W, W = w1.setCell ⟨b, off + j * 5, none⟩ (.string mt0) := ⟨_, rfl⟩
        rw [← hW1] at m1' ⊢
        clear hW1 t0 f0 m1 hb1
        refine (markText_i (K + 1) W1 (by omega) (by omega)).mono ?_
        rintro e w2 ⟨⟨mt1, rfl⟩, hb2⟩
        have m2 := m1'.trans (MarkedN.of_below lo hi hb2)
        obtain ⟨⟨s1, t1⟩, f1⟩ := HX.out.2.1.keep m2.m
        obtain ⟨⟨s2, t2⟩, f2⟩ := HX.out.2.2.1.keep m2.m
        obtain ⟨⟨s3, t3⟩, f3⟩ := HX.out.2.2.2.1.keep m2
        have t4 := m2.m.list _ _ _ _ HX.out.2.2.2.2.1
        have HM2 : Hid (MarkedN lo hi w0 w2) := m2
        clear m1' hb2 m2
        go_wp2_with fail
        have n1 := MarkedN.set_text t1 hB1.out.1 hB1.out.2 mt1
        obtain ⟨⟨s2', t2'⟩, -⟩ := FlagAt.keep ⟨⟨_, t2⟩, f2⟩ n1.m
        have n2 := n1.trans (MarkedN.set_flag t2' hB1.out.1 hB1.out.2 ((K + 1 + 1) % 3 == 0))
        obtain ⟨⟨s3', t3'⟩, -⟩ := NumAt.keep ⟨⟨_, t3⟩, f3⟩ n2
        have n3 := HM2.out.trans (n2.trans (MarkedN.set_num t3' hB1.out.1 hB1.out.2 (K + 1 + 1 + 1)))
        refine (ih (sth ks j).kids kc lo hi (K + 1 + 1 + 1 + 1) ka _ (HX.out.2.2.2.2.2.keep n3) hkl HC.out (by omega) (by omega)).mono ?_
        rintro e w5 ⟨⟨K', rfl, hK'0, hK'1⟩, m6⟩
        have m7 := hm.trans (n3.trans m6)
        clear n1 n2 n3 m6 t1 t2 t3 t4 t2' t3' f1 f2 f3 ih
        go_wp2_with fail
        go_roundw
        case rel => exact ⟨j + 1, K', by omega, hK'0, by have := HKB.out; omega, rfl, by go_num, m7⟩
        case measure => simp [intOf]; omega
      · go_wp2_with fail
        go_ret
        have e : j = ks.length := by omega
        exact ⟨⟨K, rfl, hK0, by rw [← e]; exact hKq⟩, hm⟩

/-- Steps that may be written, within a range of blocks. -/
def WSteps (w : World) (lo hi : Nat) (ss : List St) (a : Option Addr) : Prop := 0 < ss.length → ∃ b off, a = some ⟨b, off, none⟩ ∧ lo ≤ b ∧ b < hi ∧ ∀ i, i < ss.length →
  NumAt w ⟨b, off + i * 6, none⟩ ∧ TextAt w ⟨b, off + i * 6 + 2, none⟩ ∧
  (∃ wa wc, w.cell? ⟨b, off + i * 6 + 1, none⟩ = some (.slice wa (pth ss i).way.length wc) ∧ WStrs w lo hi (pth ss i).way.length wa) ∧
  (∃ sa sc f, w.cell? ⟨b, off + i * 6 + 3, none⟩ = some (.slice sa (pth ss i).sels.length sc) ∧ WSels w lo hi f (pth ss i).sels sa) ∧
  (∃ aa ac, w.cell? ⟨b, off + i * 6 + 4, none⟩ = some (.slice aa (pth ss i).after.length ac) ∧ WInts w lo hi (pth ss i).after.length aa) ∧
  (∃ ba bc, w.cell? ⟨b, off + i * 6 + 5, none⟩ = some (.slice ba (pth ss i).brings.length bc) ∧ WStrs w lo hi (pth ss i).brings.length ba)
theorem WSteps.keep {lo hi lo' hi' : Nat} {ss : List St} {w w' : World} {a : Option Addr} (h : WSteps w lo hi ss a) (m : MarkedN lo' hi' w w') : WSteps w' lo hi ss a := fun hn => by
  obtain ⟨b, off, e, h1, h2, hc⟩ := h hn
  refine ⟨b, off, e, h1, h2, fun i hi => ?_⟩
  obtain ⟨x0, x2, ⟨wa, wc, c1, y1⟩, ⟨sa, sc, f, c3, y3⟩, ⟨aa, ac, c4, y4⟩, ba, bc, c5, y5⟩ := hc i hi
  exact ⟨x0.keep m, x2.keep m.m, ⟨wa, wc, m.m.list _ _ _ _ c1, y1.keep m.m⟩, ⟨sa, sc, f, m.m.list _ _ _ _ c3, y3.keep m⟩, ⟨aa, ac, m.m.list _ _ _ _ c4, y4.keep m⟩, ba, bc, m.m.list _ _ _ _ c5, y5.keep m.m⟩
theorem WSteps.of_rep {w : World} {lo hi : Nat} {ss : List St} {a : Option Addr} (h : StReps w (fun b => lo ≤ b ∧ b < hi) ss a) (nf : NF lo w) : WSteps w lo hi ss a := fun hn => by
  obtain ⟨-, C, hA, hr⟩ := h
  obtain ⟨b, off, e, hb, hc⟩ := hA hn
  refine ⟨b, off, e, hb.1, hb.2, fun i hi => ?_⟩
  obtain ⟨wa, sa, aa, ba, wc, sc, ac, bc, hv, h2, -, -, h5, h6, -, h8, -⟩ := hr i hi
  simp only [Value.agg.injEq, Array.mk.injEq, List.cons.injEq, and_true] at hv
  obtain ⟨e0, e1, e2, e3, e4, e5⟩ := hv
  have c0 := hc i hi 0 (by omega)
  have c1 := hc i hi 1 (by omega)
  have c2 := hc i hi 2 (by omega)
  have c3 := hc i hi 3 (by omega)
  have c4 := hc i hi 4 (by omega)
  have c5 := hc i hi 5 (by omega)
  rw [e0] at c0
  rw [e1] at c1
  rw [e2] at c2
  rw [e3] at c3
  rw [e4] at c4
  rw [e5] at c5
  obtain ⟨f, hf⟩ := WSels.of_rep h5 nf
  exact ⟨⟨⟨_, c0⟩, nf _ hb.1⟩, ⟨⟨_, c2⟩, nf _ hb.1⟩, ⟨wa, wc, c1, WStrs.of_rep h2 nf⟩, ⟨sa, sc, f, c3, hf⟩, ⟨aa, ac, c4, WInts.of_rep h6 nf⟩, ba, bc, c5, WStrs.of_rep h8 nf⟩

set_option maxRecDepth 20000 in
set_option maxHeartbeats 1600000 in
theorem markStepS_any (ss : List St) (c lo hi : Nat) (a : Option Addr) (w : World) (hw : WSteps w lo hi ss a) (hl : ss.length ≤ 1048576) (hs : ∀ i, i < ss.length → Small (pth ss i)) :
    Calls Try.prog 14 #[.slice a ss.length c, .int .i64 1] w fun e w' => (∃ K : Int, e = .returned (.int .i64 K) ∧ 0 ≤ K ∧ K ≤ 10000000000000000) ∧ MarkedN lo hi w w' := by
  go_enter Try.func14, Try.ntmps14
  go_wp2_with fail
  go_loopw [1, 5] (fun kk i wr => ∃ (j : Nat) (q : Int), j ≤ ss.length ∧ 0 ≤ q ∧ q ≤ 1 + 8388608 * j ∧ kk = .int .i64 q ∧ i = .int .i64 j ∧ MarkedN lo hi w wr) (fun _ i _ => ss.length - (intOf i).toNat)
  case atStart => exact ⟨0, 1, Nat.zero_le _, by omega, by omega, rfl, rfl, MarkedN.refl _ _ _⟩
  case round =>
    obtain ⟨j, K, hj, hK0, hKq, rfl, rfl, hm⟩ := hrel
    obtain ⟨w0, rfl⟩ : ∃ x, x = wr := ⟨wr, rfl⟩
    by_cases hlt : j < ss.length
    · obtain ⟨b, off, rfl, h1, h2, hcc⟩ := (hw.keep hm) (by omega)
      obtain ⟨x0, x2, ⟨wa, wc, c1, y1⟩, ⟨sa, sc, f, c3, y3⟩, ⟨aa, ac, c4, y4⟩, ba, bc, c5, y5⟩ := hcc j hlt
      clear hcc
      obtain ⟨g1, g2, g3, g4⟩ := hs j hlt
      have hji : (j : Int) < (ss.length : Int) := by omega
      have gf := g2 f
      have gl : (pth ss j).sels.length ≤ 1048576 := Nat.le_trans (cntTo_ge _ 0 _) (g2 1)
      have HKQ : Hid (K ≤ 1 + 8388608 * j) := hKq
      have hKb : K ≤ 10000000000000 := by omega
      have HB : Hid (lo ≤ b ∧ b < hi) := ⟨h1, h2⟩
      have HG : Hid (∀ g, cntTo g (pth ss j).sels (pth ss j).sels.length ≤ 1048576) := g2
      obtain ⟨⟨s0, t0⟩, f0⟩ := x0
      have n0 := MarkedN.set_num t0 HB.out.1 HB.out.2 K
      have c1' := n0.m.list _ _ _ _ c1
      have HY : Hid (WStrs w0 lo hi (pth ss j).way.length wa ∧ WSels w0 lo hi f (pth ss j).sels sa ∧ WInts w0 lo hi (pth ss j).after.length aa ∧ WStrs w0 lo hi (pth ss j).brings.length ba ∧ TextAt w0 ⟨b, off + j * 6 + 2, none⟩) := ⟨y1, y3, y4, y5, x2⟩
      have HCC : Hid (w0.cell? ⟨b, off + j * 6 + 3, none⟩ = some (.slice sa (pth ss j).sels.length sc) ∧ w0.cell? ⟨b, off + j * 6 + 4, none⟩ = some (.slice aa (pth ss j).after.length ac) ∧ w0.cell? ⟨b, off + j * 6 + 5, none⟩ = some (.slice ba (pth ss j).brings.length bc)) := ⟨c3, c4, c5⟩
      have HN0 : Hid (MarkedN lo hi w0 (w0.setCell ⟨b, off + j * 6, none⟩ (.int .i64 K))) := n0
      clear x2 y1 y3 y4 y5 c3 c4 c5 g2 h1 h2 hKq n0
      go_wp2_with fail
      clear t0 f0 c1 c1'
      obtain ⟨X0, hX0⟩ : ∃ X, X = w0.setCell ⟨b, off + j * 6, none⟩ (.int .i64 K) := ⟨_, rfl⟩
      have m0 : MarkedN lo hi w0 X0 := by rw [hX0]; exact HN0.out
      rw [← hX0]
      clear hX0
      refine (markStringS_i (pth ss j).way.length wc lo hi (K + 1) wa X0 (HY.out.1.keep m0.m) g1 (by omega) (by omega)).mono ?_
      rintro e w1 ⟨⟨K1, rfl, p1, q1⟩, m1⟩
      have M1 := m0.trans m1
      clear m0 m1
      go_wp2_with fail
      refine (markText_i K1 w1 p1 (by omega)).mono ?_
      rintro e w2 ⟨⟨mt, rfl⟩, hb2⟩
      have M2 := M1.trans (MarkedN.of_below lo hi hb2)
      obtain ⟨⟨s2, t2⟩, f2⟩ := HY.out.2.2.2.2.keep M2.m
      have n2 := M2.trans (MarkedN.set_text t2 HB.out.1 HB.out.2 mt)
      have d3 := M2.m.list _ _ _ _ HCC.out.1
      clear M1 hb2 M2
      go_wp2_with fail
      clear t2 f2 d3
      obtain ⟨X2, hX2⟩ : ∃ X, X = w2.setCell ⟨b, off + j * 6 + 2, none⟩ (.string mt) := ⟨_, rfl⟩
      rw [← hX2] at n2 ⊢
      clear hX2
      refine (markSelS_any f (pth ss j).sels sc lo hi (K1 + 1) sa X2 (HY.out.2.1.keep n2) gl HG.out (by omega) (by omega)).mono ?_
      rintro e w3 ⟨⟨K3, rfl, p3, q3⟩, m3⟩
      have M3 := n2.trans m3
      have d4 := M3.m.list _ _ _ _ HCC.out.2.1
      clear n2 m3
      go_wp2_with fail
      clear d4
      refine (markIntS_i (pth ss j).after.length ac lo hi K3 aa w3 (HY.out.2.2.1.keep M3) g3 p3 (by omega)).mono ?_
      rintro e w4 ⟨⟨K4, rfl, p4, q4⟩, m4⟩
      have M4 := M3.trans m4
      have d5 := M4.m.list _ _ _ _ HCC.out.2.2
      clear M3 m4
      go_wp2_with fail
      clear d5
      refine (markStringS_i (pth ss j).brings.length bc lo hi K4 ba w4 (HY.out.2.2.2.1.keep M4.m) g4 p4 (by omega)).mono ?_
      rintro e w5 ⟨⟨K5, rfl, p5, q5⟩, m5⟩
      have M5 := hm.trans (M4.trans m5)
      clear M4 m5
      go_wp2_with fail
      go_roundw
      case rel => exact ⟨j + 1, K5, by omega, p5, by have := HKQ.out; omega, rfl, by go_num, M5⟩
      case measure => simp [intOf]; omega
    · go_wp2_with fail
      go_ret
      exact ⟨⟨K, rfl, hK0, by omega⟩, hm⟩
end Go.Proofs.Ytahelconmfldjaa
