/-
  The laws' marks on asks; texts that are held.
-/
import Derived.Test.YtmeopghhgpbhpaaDoorQMark
import Derived.Test.YtmeopghhgpbhpaaDoorQSel
import Derived.Test.YtmeopghhgpbhpaaDoorASpec1
namespace Go.Proofs.YtmeopghhgpbhpaaDoor
set_option linter.unusedSimpArgs false
set_option linter.unusedVariables false
open Go.RowKit

/-- Fields that may be written, with all that is asked of them, within a range of blocks. -/
def WSels (w : World) (lo hi : Nat) : Nat → List Se → Option Addr → Prop
  | 0, ks, _ => ks.length = 0
  | f + 1, ks, a => 0 < ks.length → ∃ b off, a = some ⟨b, off, none⟩ ∧ lo ≤ b ∧ b < hi ∧ ∀ i, i < ks.length → TextAt w ⟨b, off + i * 5, none⟩ ∧ TextAt w ⟨b, off + i * 5 + 1, none⟩ ∧ FlagAt w ⟨b, off + i * 5 + 2, none⟩ ∧ NumAt w ⟨b, off + i * 5 + 3, none⟩ ∧
      ∃ ka kc, w.cell? ⟨b, off + i * 5 + 4, none⟩ = some (.slice ka (sth ks i).kids.length kc) ∧ WSels w lo hi f (sth ks i).kids ka
theorem WSels.keep {lo hi lo' hi' : Nat} {w w' : World} (m : MarkedN lo' hi' w w') : ∀ {f : Nat} {ks : List Se} {a : Option Addr}, WSels w lo hi f ks a → WSels w' lo hi f ks a
  | 0, _, _, h => h
  | f + 1, ks, a, h => fun hn => by
    obtain ⟨b, off, e, h1, h2, hc⟩ := h hn
    refine ⟨b, off, e, h1, h2, fun i hi => ?_⟩
    obtain ⟨q0, q1, q2, q3, ka, kc, q4, q5⟩ := hc i hi
    exact ⟨q0.keep m.m, q1.keep m.m, q2.keep m.m, q3.keep m, ka, kc, m.m.list _ _ _ _ q4, q5.keep m⟩
theorem WSels.of_n {w : World} {lo hi : Nat} (nf : NF lo w) : ∀ {f : Nat} {ks : List Se} {a : Option Addr} {C : Nat → Nat → Value}, Arr w (fun b => lo ≤ b ∧ b < hi) 5 ks.length a C → (∀ i, i < ks.length → SeN w (fun b => lo ≤ b ∧ b < hi) f (sth ks i) (.agg #[C i 0, C i 1, C i 2, C i 3, C i 4])) → WSels w lo hi (f + 1) ks a
  | 0, ks, a, C, hA, hr => fun hn => (hr 0 hn).elim
  | f + 1, ks, a, C, hA, hr => fun hn => by
    obtain ⟨b, off, e, hb, hc⟩ := hA hn
    refine ⟨b, off, e, hb.1, hb.2, fun i hi => ?_⟩
    obtain ⟨ka, kc, D, hv, -, -, -, hA2, hr2⟩ := hr i hi
    simp only [Value.agg.injEq, Array.mk.injEq, List.cons.injEq, and_true] at hv
    obtain ⟨e0, e1, e2, e3, e4⟩ := hv
    have c0 := hc i hi 0 (by omega)
    have c1 := hc i hi 1 (by omega)
    have c2 := hc i hi 2 (by omega)
    have c3 := hc i hi 3 (by omega)
    have c4 := hc i hi 4 (by omega)
    rw [e0] at c0
    rw [e1] at c1
    rw [e2] at c2
    rw [e3] at c3
    rw [e4] at c4
    exact ⟨⟨⟨_, c0⟩, nf _ hb.1⟩, ⟨⟨_, c1⟩, nf _ hb.1⟩, ⟨⟨_, c2⟩, nf _ hb.1⟩, ⟨⟨_, c3⟩, nf _ hb.1⟩, ka, kc, c4, WSels.of_n nf hA2 hr2⟩
theorem WSels.of_rep {w : World} {lo hi : Nat} {ks : List Se} {a : Option Addr} (h : SeReps w (fun b => lo ≤ b ∧ b < hi) ks a) (nf : NF lo w) : ∃ f, WSels w lo hi f ks a := by
  obtain ⟨h0, C, hA, hr⟩ := h
  obtain ⟨f, hf⟩ := se_bound ks.length hr
  exact ⟨f + 1, WSels.of_n nf hA hf⟩

theorem cntTo_ge (ks : List Se) (f : Nat) : ∀ n, n ≤ cntTo (f + 1) ks n
  | 0 => Nat.zero_le _
  | n + 1 => by have := cntTo_ge ks f n; rw [cntTo_succ, cntSe_kids]; omega
theorem kids_le (ks : List Se) (h : ∀ g, cntTo g ks ks.length ≤ 1048576) {j : Nat} (hj : j < ks.length) : (sth ks j).kids.length ≤ 1048576 := by
  have g1 := h 2
  have g2 := cntTo_mono 2 ks (show j + 1 ≤ ks.length by omega)
  have g3 := cntTo_succ 2 ks j
  have g4 : cntSe 2 (sth ks j) = 1 + cntTo 1 (sth ks j).kids (sth ks j).kids.length := cntSe_kids _ _
  have g5 : (sth ks j).kids.length ≤ cntTo 1 (sth ks j).kids (sth ks j).kids.length := cntTo_ge (sth ks j).kids 0 (sth ks j).kids.length
  omega
theorem markText_i (K : Int) (w : World) (h0 : 0 ≤ K) (h1 : K ≤ 1000000000000000000) :
    Calls Tryd.prog 40 #[.int .i64 K] w fun e w' => (∃ s, e = .returned (.string s)) ∧ Below w.heap.size w w' := by
  have h := markText_any K.toNat w (by omega)
  rw [show ((K.toNat : Nat) : Int) = K by omega] at h
  exact h.mono fun e w' ⟨h1, h2⟩ => ⟨⟨_, h1⟩, h2⟩
theorem markStringS_i (n c lo hi : Nat) (K : Int) (a : Option Addr) (w : World) (hw : WStrs w lo hi n a) (hn : n ≤ 1048576) (h0 : 0 ≤ K) (h1 : K ≤ 100000000000000000) :
    Calls Tryd.prog 24 #[.slice a n c, .int .i64 K] w fun e w' => (∃ K' : Int, e = .returned (.int .i64 K') ∧ 0 ≤ K' ∧ K' ≤ K + n) ∧ MarkedN lo hi w w' := by
  have h := markStringS_num n c K.toNat lo hi a w hw hn (by omega)
  rw [show ((K.toNat : Nat) : Int) = K by omega] at h
  exact h.mono fun e w' ⟨h1, h2, _⟩ => ⟨⟨_, h1, by omega, by omega⟩, h2⟩
set_option maxRecDepth 20000 in
set_option maxHeartbeats 1600000 in
theorem markSelS_any (f : Nat) : ∀ (ks : List Se) (c lo hi : Nat) (K : Int) (a : Option Addr) (w : World), WSels w lo hi f ks a → ks.length ≤ 1048576 → (∀ g, cntTo g ks ks.length ≤ 1048576) → 0 ≤ K → K + 4 * cntTo f ks ks.length ≤ 100000000000000000 →
    Calls Tryd.prog 23 #[.slice a ks.length c, .int .i64 K] w fun e w' => (∃ K' : Int, e = .returned (.int .i64 K') ∧ 0 ≤ K' ∧ K' ≤ K + 4 * cntTo f ks ks.length) ∧ MarkedN lo hi w w' := by
  induction f with
  | zero =>
    intro ks c lo hi K a w h hn hcn hk0 hk
    have h0 : ks.length = 0 := h
    have hks : ks = [] := by simpa using h0
    subst hks
    go_enter Tryd.func23, Tryd.ntmps23
    go_wp2_with fail
    go_loopw [1, 5] (fun kk i wr => kk = .int .i64 K ∧ i = .int .i64 0 ∧ wr = w) (fun _ _ _ => 0)
    case atStart => exact ⟨rfl, rfl, rfl⟩
    case round =>
      obtain ⟨rfl, rfl, rfl⟩ := hrel
      go_wp2_with fail
      go_ret
      exact ⟨⟨K, rfl, hk0, by omega⟩, MarkedN.refl _ _ _⟩
  | succ f ih =>
    intro ks c lo hi K0 a w h hn hcn hk0 hk
    go_enter Tryd.func23, Tryd.ntmps23
    go_wp2_with fail
    go_loopw [1, 5] (fun kk i wr => ∃ (j : Nat) (q : Int), j ≤ ks.length ∧ 0 ≤ q ∧ q ≤ K0 + 4 * cntTo (f + 1) ks j ∧ kk = .int .i64 q ∧ i = .int .i64 j ∧ MarkedN lo hi w wr) (fun _ i _ => ks.length - (intOf i).toNat)
    case atStart => exact ⟨0, K0, Nat.zero_le _, hk0, by omega, rfl, rfl, MarkedN.refl _ _ _⟩
    case round =>
      obtain ⟨j, K, hj, hK0, hKq, rfl, rfl, hm⟩ := hrel
      obtain ⟨w0, rfl⟩ : ∃ x, x = wr := ⟨wr, rfl⟩
      by_cases hlt : j < ks.length
      · obtain ⟨b, off, rfl, h1, h2, hcc⟩ := (h.keep hm) (by omega)
        obtain ⟨x0, x1, x2, x3, ka, kc, x4, x5⟩ := hcc j hlt
        clear hcc
        have hji : (j : Int) < (ks.length : Int) := by omega
        have hmono : cntTo (f + 1) ks (j + 1) ≤ cntTo (f + 1) ks ks.length := cntTo_mono _ _ (by omega)
        have hsucc := cntTo_succ (f + 1) ks j
        have hkid : cntSe (f + 1) (sth ks j) = 1 + cntTo f (sth ks j).kids (sth ks j).kids.length := cntSe_kids _ _
        have hkl : (sth ks j).kids.length ≤ 1048576 := kids_le ks hcn hlt
        have hkc : ∀ g, cntTo g (sth ks j).kids (sth ks j).kids.length ≤ 1048576 := fun g => by
          have g1 := hcn (g + 1)
          have g2 := cntTo_mono (g + 1) ks (show j + 1 ≤ ks.length by omega)
          have g3 := cntTo_succ (g + 1) ks j
          have g4 : cntSe (g + 1) (sth ks j) = 1 + cntTo g (sth ks j).kids (sth ks j).kids.length := cntSe_kids _ _
          omega
        have HKB : Hid (K0 + 4 * cntTo (f + 1) ks ks.length ≤ 100000000000000000 ∧ K ≤ K0 + 4 * cntTo (f + 1) ks j ∧ cntTo (f + 1) ks (j + 1) = cntTo (f + 1) ks j + 1 + cntTo f (sth ks j).kids (sth ks j).kids.length ∧ cntTo (f + 1) ks (j + 1) ≤ cntTo (f + 1) ks ks.length) := ⟨hk, hKq, by omega, hmono⟩
        have hKm : K + 4 + 4 * cntTo f (sth ks j).kids (sth ks j).kids.length ≤ 100000000000000000 := by omega
        have HC : Hid (∀ g, cntTo g (sth ks j).kids (sth ks j).kids.length ≤ 1048576) := hkc
        have hB1 : Hid (lo ≤ b ∧ b < hi) := ⟨h1, h2⟩
        have HX : Hid (TextAt w0 ⟨b, off + j * 5, none⟩ ∧ TextAt w0 ⟨b, off + j * 5 + 1, none⟩ ∧ FlagAt w0 ⟨b, off + j * 5 + 2, none⟩ ∧ NumAt w0 ⟨b, off + j * 5 + 3, none⟩ ∧ w0.cell? ⟨b, off + j * 5 + 4, none⟩ = some (.slice ka (sth ks j).kids.length kc) ∧ WSels w0 lo hi f (sth ks j).kids ka) := ⟨x0, x1, x2, x3, x4, x5⟩
        clear x0 x1 x2 x3 x4 x5 h1 h2 hmono hsucc hkid hkc hk hKq hcn
        go_wp2_with fail
        refine (markText_i K w0 hK0 (by omega)).mono ?_
        rintro e w1 ⟨⟨mt0, rfl⟩, hb1⟩
        have m1 := MarkedN.of_below lo hi hb1
        obtain ⟨⟨s0, t0⟩, f0⟩ := HX.out.1.keep m1.m
        have m1' := m1.trans (MarkedN.set_text t0 hB1.out.1 hB1.out.2 mt0)
        go_wp2_with fail
        obtain ⟨W1, hW1⟩ : ∃ W, W = w1.setCell ⟨b, off + j * 5, none⟩ (.string mt0) := ⟨_, rfl⟩
        rw [← hW1] at m1' ⊢
        clear hW1 t0 f0 m1 hb1
        refine (markText_i (K + 1) W1 (by omega) (by omega)).mono ?_
        rintro e w2 ⟨⟨mt1, rfl⟩, hb2⟩
        have m2 := m1'.trans (MarkedN.of_below lo hi hb2)
        obtain ⟨⟨s1, t1⟩, f1⟩ := HX.out.2.1.keep m2.m
        obtain ⟨⟨s2, t2⟩, f2⟩ := HX.out.2.2.1.keep m2.m
        obtain ⟨⟨s3, t3⟩, f3⟩ := HX.out.2.2.2.1.keep m2
        have t4 := m2.m.list _ _ _ _ HX.out.2.2.2.2.1
        have HM2 : Hid (MarkedN lo hi w0 w2) := m2
        clear m1' hb2 m2
        go_wp2_with fail
        have n1 := MarkedN.set_text t1 hB1.out.1 hB1.out.2 mt1
        obtain ⟨⟨s2', t2'⟩, -⟩ := FlagAt.keep ⟨⟨_, t2⟩, f2⟩ n1.m
        have n2 := n1.trans (MarkedN.set_flag t2' hB1.out.1 hB1.out.2 ((K + 1 + 1) % 3 == 0))
        obtain ⟨⟨s3', t3'⟩, -⟩ := NumAt.keep ⟨⟨_, t3⟩, f3⟩ n2
        have n3 := HM2.out.trans (n2.trans (MarkedN.set_num t3' hB1.out.1 hB1.out.2 (K + 1 + 1 + 1)))
        refine (ih (sth ks j).kids kc lo hi (K + 1 + 1 + 1 + 1) ka _ (HX.out.2.2.2.2.2.keep n3) hkl HC.out (by omega) (by omega)).mono ?_
        rintro e w5 ⟨⟨K', rfl, hK'0, hK'1⟩, m6⟩
        have m7 := hm.trans (n3.trans m6)
        clear n1 n2 n3 m6 t1 t2 t3 t4 t2' t3' f1 f2 f3 ih
        go_wp2_with fail
        go_roundw
        case rel => exact ⟨j + 1, K', by omega, hK'0, by have := HKB.out; omega, rfl, by go_num, m7⟩
        case measure => simp [intOf]; omega
      · go_wp2_with fail
        go_ret
        have e : j = ks.length := by omega
        exact ⟨⟨K, rfl, hK0, by rw [← e]; exact hKq⟩, hm⟩


set_option maxRecDepth 20000 in
set_option maxHeartbeats 1600000 in
theorem heldStringS_any (n c k : Nat) (a : Option Addr) (w : World) (ha : 0 < n → ∃ b off, a = some ⟨b, off, none⟩ ∧ ∀ i, i < n → w.cell? ⟨b, off + i, none⟩ = some (.string (mtext (k + i)))) (hn : n ≤ 1048576) (hk : k ≤ 1000000000000) :
    Calls Tryd.prog 25 #[.slice a n c, .int .i64 k] w fun e w' => e = .returned (.int .i64 ((k + n : Nat) : Int)) ∧ Below w.heap.size w w' := by
  go_enter Tryd.func25, Tryd.ntmps25
  go_wp2_with fail
  go_loopw [1, 5] (fun kk i wr => ∃ j : Nat, j ≤ n ∧ kk = .int .i64 ((k + j : Nat) : Int) ∧ i = .int .i64 j ∧ Below w.heap.size w wr) (fun _ i _ => n - (intOf i).toNat)
  case atStart => exact ⟨0, Nat.zero_le _, rfl, rfl, Below.refl _ _⟩
  case round =>
    obtain ⟨j, hj, rfl, rfl, hb⟩ := hrel
    obtain ⟨w0, rfl⟩ : ∃ x, x = wr := ⟨wr, rfl⟩
    by_cases hlt : j < n
    · obtain ⟨b, off, rfl, hcc⟩ := ha (by omega)
      have hx := hcc j hlt
      have hbl := cell_block hx
      have c0 := (hb.cell hbl).trans hx
      have hM := markText_any (k + j) w0.drew (by omega)
      have hji : (j : Int) < (n : Int) := by omega
      have hz := hb.size
      clear hcc
      generalize mtext (k + j) = mt at hx c0 hM
      go_wp2_with fail
      go_region_held3 (fun w' => w'.cell? ⟨b, off + j, none⟩ = some (.string mt)) (go_keep)
        (first
          | (
            go_at_call 40
            refine hM.mono ?_
            rintro e w1 ⟨rfl, hb1⟩
            have hb1' := below_undrew hb1
            have hw1 := hb.trans (hb1'.mono hz)
            have c1 := (hw1.cell hbl).trans hx))
      go_wp2_with fail
      go_roundw
      case rel => exact ⟨j + 1, by omega, by go_num, by go_num, hw1⟩
      case measure => simp [intOf]; omega
    · go_wp2_with fail
      go_ret
      have e : j = n := by omega
      exact ⟨by rw [e]; rfl, hb⟩
end Go.Proofs.YtmeopghhgpbhpaaDoor
