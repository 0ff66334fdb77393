import Derived.Test.YtmemijccbmnaaaaGreatJ8
import Derived.Test.YtmemijccbmnaaaaGreatJ3
import Derived.Test.YtmemijccbmnaaaaGreatJ2
namespace Go.Proofs.YtmemijccbmnaaaaGreat
set_option linter.unusedSimpArgs false
set_option linter.unusedVariables false
open Go.RowKit

/-- Cells that may be written: numbers. -/
def NumAt (w : World) (a : Addr) : Prop := (∃ s, w.cell? a = some (.int .i64 s)) ∧ w.frozen? a = false
/-- A change as by marks that keeps numbers numbers, too. -/
structure MarkedN (lo hi : Nat) (w w' : World) : Prop where
  m : Marked lo hi w w'
  num : ∀ a s, w.cell? a = some (.int .i64 s) → ∃ s', w'.cell? a = some (.int .i64 s')
theorem MarkedN.refl (lo hi : Nat) (w : World) : MarkedN lo hi w w := ⟨Marked.refl _ _ _, fun _ s h => ⟨s, h⟩⟩
theorem MarkedN.trans {lo hi : Nat} {a b c : World} (h : MarkedN lo hi a b) (k : MarkedN lo hi b c) : MarkedN lo hi a c :=
  ⟨h.m.trans k.m, fun a s e => by obtain ⟨s', e'⟩ := h.num a s e; exact k.num a s' e'⟩
theorem MarkedN.of_below {w w' : World} (lo hi : Nat) (h : Below w.heap.size w w') : MarkedN lo hi w w' := ⟨Marked.of_below lo hi h, fun a s e => ⟨s, (h.cell (cell_block e)).trans e⟩⟩
theorem MarkedN.set_text {w : World} {lo hi : Nat} {p : Addr} {s : ByteArray} (h : w.cell? p = some (.string s)) (h1 : lo ≤ p.block) (h2 : p.block < hi) (t : ByteArray) : MarkedN lo hi w (w.setCell p (.string t)) := by
  refine ⟨Marked.set_text h h1 h2 t, fun a u e => ?_⟩
  have hp : p ≠ a := by intro hp; rw [hp, e] at h; cases h
  exact ⟨u, (World.cell?_setCell_other _ _ _ _ hp).trans e⟩
theorem MarkedN.set_num {w : World} {lo hi : Nat} {p : Addr} {s : Int} (h : w.cell? p = some (.int .i64 s)) (h1 : lo ≤ p.block) (h2 : p.block < hi) (t : Int) : MarkedN lo hi w (w.setCell p (.int .i64 t)) := by
  refine ⟨⟨rfl, rfl, rfl, by rw [size_set]; exact Nat.le_refl _, fun b hb hn => Below.heap_setCell _ _ _ _ (by intro e; exact hn (by rw [e]; exact ⟨h1, h2⟩)), fun a u e => ?_, fun a u e => ?_, fun a x n c e => ?_, fun a ha => by simp⟩, fun a u e => ?_⟩
  · have hp : p ≠ a := by intro hp; rw [hp, e] at h; cases h
    exact ⟨u, (World.cell?_setCell_other _ _ _ _ hp).trans e⟩
  · have hp : p ≠ a := by intro hp; rw [hp, e] at h; cases h
    exact ⟨u, (World.cell?_setCell_other _ _ _ _ hp).trans e⟩
  · have hp : p ≠ a := by intro hp; rw [hp, e] at h; cases h
    exact (World.cell?_setCell_other _ _ _ _ hp).trans e
  · by_cases hp : p = a
    · subst hp; exact ⟨t, World.cell?_setCell_same _ _ _ h⟩
    · exact ⟨u, (World.cell?_setCell_other _ _ _ _ hp).trans e⟩
theorem NumAt.keep {lo hi : Nat} {w w' : World} {a : Addr} (h : NumAt w a) (m : MarkedN lo hi w w') : NumAt w' a := by
  obtain ⟨⟨s, e⟩, f⟩ := h
  exact ⟨m.num a s e, (m.m.frozen a (cell_block e)).trans f⟩
theorem WStrs.of_rep {w : World} {lo hi : Nat} {ns : List ByteArray} {a : Option Addr} (h : Strs w (fun b => lo ≤ b ∧ b < hi) ns a) (nf : NF lo w) : WStrs w lo hi ns.length a := fun hn => by
  obtain ⟨b, off, e, hb, hc⟩ := h.1 (by intro e; simp [e] at hn)
  exact ⟨b, off, e, hb.1, hb.2, fun i hi => ⟨⟨_, hc i hi⟩, nf _ hb.1⟩⟩

set_option maxRecDepth 20000 in
set_option maxHeartbeats 1600000 in
theorem markStringS_num (n c k lo hi : Nat) (a : Option Addr) (w : World) (hw : WStrs w lo hi n a) (hn : n ≤ 1048576) (hk : k ≤ 100000000000000000) :
    Calls Tryz.prog 69 #[.slice a n c, .int .i64 k] w fun e w' => e = .returned (.int .i64 ((k + n : Nat) : Int)) ∧ MarkedN lo hi w w' ∧ (∀ b off, a = some ⟨b, off, none⟩ → ∀ i, i < n → w'.cell? ⟨b, off + i, none⟩ = some (.string (mtext (k + i)))) := by
  go_enter Tryz.func69, Tryz.ntmps69
  go_wp2_with fail
  go_loopw [1, 5] (fun kk i wr => ∃ j : Nat, j ≤ n ∧ kk = .int .i64 ((k + j : Nat) : Int) ∧ i = .int .i64 j ∧ MarkedN lo hi w wr ∧ (∀ b off, a = some ⟨b, off, none⟩ → ∀ i, i < j → wr.cell? ⟨b, off + i, none⟩ = some (.string (mtext (k + i))))) (fun _ i _ => n - (intOf i).toNat)
  case atStart => exact ⟨0, Nat.zero_le _, rfl, rfl, MarkedN.refl _ _ _, fun _ _ _ i hi => by omega⟩
  case round =>
    obtain ⟨j, hj, rfl, rfl, hm, hc⟩ := hrel
    obtain ⟨w0, rfl⟩ : ∃ x, x = wr := ⟨wr, rfl⟩
    by_cases hlt : j < n
    · obtain ⟨b, off, rfl, h1, h2, hcc⟩ := hw (by omega)
      have HC : Hid (∀ i, i < j → w0.cell? ⟨b, off + i, none⟩ = some (.string (mtext (k + i)))) := fun i hi => hc b off rfl i hi
      have HT : Hid (TextAt w0 ⟨b, off + j, none⟩) := (hcc j hlt).keep hm.m
      have hM := markText_any (k + j) w0 (by omega)
      clear hc hcc
      have hji : (j : Int) < (n : Int) := by omega
      go_wp2_with (
        go_at_call 36
        refine hM.mono ?_
        rintro e w1 ⟨rfl, hb1⟩
        have hm1 := MarkedN.of_below lo hi hb1
        obtain ⟨⟨s, ht⟩, hf⟩ := HT.out.keep hm1.m)
      go_roundw
      case rel =>
        refine ⟨j + 1, by omega, by go_num, by go_num, (hm.trans hm1).trans (MarkedN.set_text ht h1 h2 _), fun b' off' he i hi => ?_⟩
        simp only [Option.some.injEq, Addr.mk.injEq, and_true] at he
        obtain ⟨rfl, rfl⟩ := he
        by_cases hij : i = j
        · subst hij; exact World.cell?_setCell_same _ _ _ ht
        · rw [World.cell?_setCell_other _ _ _ _ (by intro e; simp only [Addr.mk.injEq] at e; omega)]
          have hx := HC.out i (by omega)
          exact (hb1.cell (cell_block hx)).trans hx
      case measure => simp [intOf]; omega
    · go_wp2_with fail
      go_ret
      have e : j = n := by omega
      exact ⟨by rw [e]; rfl, hm, by rw [← e]; exact hc⟩
theorem markText_i (K : Int) (w : World) (h0 : 0 ≤ K) (h1 : K ≤ 1000000000000000000) :
    Calls Tryz.prog 36 #[.int .i64 K] w fun e w' => (∃ s, e = .returned (.string s)) ∧ Below w.heap.size w w' := by
  have h := markText_any K.toNat w (by omega)
  rw [show ((K.toNat : Nat) : Int) = K by omega] at h
  exact h.mono fun e w' ⟨h1, h2⟩ => ⟨⟨_, h1⟩, h2⟩
theorem markStringS_i (n c lo hi : Nat) (K : Int) (a : Option Addr) (w : World) (hw : WStrs w lo hi n a) (hn : n ≤ 1048576) (h0 : 0 ≤ K) (h1 : K ≤ 100000000000000000) :
    Calls Tryz.prog 69 #[.slice a n c, .int .i64 K] w fun e w' => (∃ K' : Int, e = .returned (.int .i64 K') ∧ 0 ≤ K' ∧ K' ≤ K + n) ∧ MarkedN lo hi w w' := by
  have h := markStringS_num n c K.toNat lo hi a w hw hn (by omega)
  rw [show ((K.toNat : Nat) : Int) = K by omega] at h
  exact h.mono fun e w' ⟨h1, h2, _⟩ => ⟨⟨_, h1, by omega, by omega⟩, h2⟩

theorem hidM {q : Prop} (h : q) : Hid q := h
/-- Values that may be written, with all that they have, within a range of blocks. -/
def WVals (w : World) (lo hi : Nat) : Nat → List V → Option Addr → Prop
  | 0, ks, _ => ks.length = 0
  | f + 1, ks, a => 0 < ks.length → ∃ b off, a = some ⟨b, off, none⟩ ∧ lo ≤ b ∧ b < hi ∧ ∀ i, i < ks.length → NumAt w ⟨b, off + i * 5, none⟩ ∧ NumAt w ⟨b, off + i * 5 + 1, none⟩ ∧ TextAt w ⟨b, off + i * 5 + 2, none⟩ ∧
      (∃ na nc, w.cell? ⟨b, off + i * 5 + 3, none⟩ = some (.slice na (kth ks i).names.length nc) ∧ WStrs w lo hi (kth ks i).names.length na) ∧
      ∃ ka kc, w.cell? ⟨b, off + i * 5 + 4, none⟩ = some (.slice ka (kth ks i).kids.length kc) ∧ WVals w lo hi f (kth ks i).kids ka
theorem WVals.keep {lo hi lo' hi' : Nat} {w w' : World} (m : MarkedN lo' hi' w w') : ∀ {f : Nat} {ks : List V} {a : Option Addr}, WVals w lo hi f ks a → WVals w' lo hi f ks a
  | 0, _, _, h => h
  | f + 1, ks, a, h => fun hn => by
    obtain ⟨b, off, e, h1, h2, hc⟩ := h hn
    refine ⟨b, off, e, h1, h2, fun i hi => ?_⟩
    obtain ⟨q0, q1, q2, ⟨na, nc, q3, q5⟩, ka, kc, q4, q6⟩ := hc i hi
    exact ⟨q0.keep m, q1.keep m, q2.keep m.m, ⟨na, nc, m.m.list _ _ _ _ q3, q5.keep m.m⟩, ka, kc, m.m.list _ _ _ _ q4, q6.keep m⟩
theorem WVals.of_n {w : World} {lo hi : Nat} (nf : NF lo w) : ∀ {f : Nat} {ks : List V} {b off : Nat} {ka : Option Addr} {C : Nat → Nat → Value}, (ks ≠ [] → ka = some ⟨b, off, none⟩ ∧ lo ≤ b ∧ b < hi) → (∀ i, i < ks.length → ∀ j, j < 5 → w.cell? ⟨b, off + i * 5 + j, none⟩ = some (C i j)) → (∀ i, i < ks.length → RepN w (fun b => lo ≤ b ∧ b < hi) f (kth ks i) (.agg #[C i 0, C i 1, C i 2, C i 3, C i 4])) → WVals w lo hi (f + 1) ks ka
  | 0, ks, b, off, ka, C, hk, hc, hr => fun hn => (hr 0 hn).elim
  | f + 1, ks, b, off, ka, C, hk, hc, hr => fun hn => by
    obtain ⟨e, hb1, hb2⟩ := hk (by intro e; simp [e] at hn)
    refine ⟨b, off, e, hb1, hb2, fun i hi => ?_⟩
    obtain ⟨na, ka', nc, kc, b', off', C', hv, hs, -, -, -, -, hka, hc', hr'⟩ := hr i hi
    simp only [Value.agg.injEq, Array.mk.injEq, List.cons.injEq, and_true] at hv
    obtain ⟨e0, e1, e2, e3, e4⟩ := hv
    have c0 := hc i hi 0 (by omega)
    have c1 := hc i hi 1 (by omega)
    have c2 := hc i hi 2 (by omega)
    have c3 := hc i hi 3 (by omega)
    have c4 := hc i hi 4 (by omega)
    rw [e0] at c0
    rw [e1] at c1
    rw [e2] at c2
    rw [e3] at c3
    rw [e4] at c4
    exact ⟨⟨⟨_, c0⟩, nf _ hb1⟩, ⟨⟨_, c1⟩, nf _ hb1⟩, ⟨⟨_, c2⟩, nf _ hb1⟩, ⟨na, nc, c3, WStrs.of_rep hs nf⟩, ka', kc, c4, WVals.of_n nf hka hc' hr'⟩

/-- How many marks a list of values takes at most, a quarter of it. -/
def kSz (ks : List V) : Nat := ks.length + sL ks
theorem kSz_take (ks : List V) (j : Nat) (h : j < ks.length) : kSz (ks.take (j + 1)) = kSz (ks.take j) + (1 + szV (kth ks j)) := by
  have := sL_take ks j h
  simp only [kSz, List.length_take]
  omega
theorem kSz_part (ks : List V) (j : Nat) : kSz (ks.take j) ≤ kSz ks := by
  have : sL (ks.take j) ≤ sL ks := by
    conv => rhs; rw [← List.take_append_drop j ks]
    rw [sL_append]; omega
  simp only [kSz, List.length_take]
  omega

set_option maxRecDepth 20000 in
set_option maxHeartbeats 1600000 in
theorem markValueS_k (f : Nat) : ∀ (ks : List V) (c lo hi : Nat) (K : Int) (a : Option Addr) (w : World), WVals w lo hi f ks a → kSz ks ≤ 1048576 → 0 ≤ K → K + 4 * kSz ks ≤ 10000000000000000 →
    Calls Tryz.prog 70 #[.slice a ks.length c, .int .i64 K] w fun e w' => (∃ K' : Int, e = .returned (.int .i64 K') ∧ 0 ≤ K' ∧ K' ≤ K + 4 * kSz ks) ∧ MarkedN lo hi w w' := by
  induction f with
  | zero =>
    intro ks c lo hi K a w h hn hk0 hk
    have h0 : ks.length = 0 := h
    have hks : ks = [] := by simpa using h0
    subst hks
    go_enter Tryz.func70, Tryz.ntmps70
    go_wp2_with fail
    go_loopw [1, 5] (fun kk i wr => kk = .int .i64 K ∧ i = .int .i64 0 ∧ wr = w) (fun _ _ _ => 0)
    case atStart => exact ⟨rfl, rfl, rfl⟩
    case round =>
      obtain ⟨rfl, rfl, rfl⟩ := hrel
      go_wp2_with fail
      go_ret
      exact ⟨⟨K, rfl, hk0, by omega⟩, MarkedN.refl _ _ _⟩
  | succ f ih =>
    intro ks c lo hi K0 a w h hn hk0 hk
    have hlen : ks.length ≤ 1048576 := by unfold kSz at hn; omega
    go_enter Tryz.func70, Tryz.ntmps70
    go_wp2_with fail
    go_loopw [1, 5] (fun kk i wr => ∃ (j : Nat) (q : Int), j ≤ ks.length ∧ 0 ≤ q ∧ q ≤ K0 + 4 * kSz (ks.take j) ∧ kk = .int .i64 q ∧ i = .int .i64 j ∧ MarkedN lo hi w wr) (fun _ i _ => ks.length - (intOf i).toNat)
    case atStart => exact ⟨0, K0, Nat.zero_le _, hk0, by omega, rfl, rfl, MarkedN.refl _ _ _⟩
    case round =>
      obtain ⟨j, K, hj, hK0, hKq, rfl, rfl, hm⟩ := hrel
      obtain ⟨w0, rfl⟩ : ∃ x, x = wr := ⟨wr, rfl⟩
      by_cases hlt : j < ks.length
      · obtain ⟨b, off, rfl, h1, h2, hcc⟩ := (h.keep hm) (by omega)
        obtain ⟨x0, x1, x2, ⟨na, nc, x3, x5⟩, ka, kc, x4, x6⟩ := hcc j hlt
        clear hcc
        have hji : (j : Int) < (ks.length : Int) := by omega
        have g1 := kSz_take ks j hlt
        have g2 := kSz_part ks (j + 1)
        have g3 := szV_eq (kth ks j)
        have g4 := len_szNs (kth ks j).names
        have hkk : kSz (kth ks j).kids = (kth ks j).kids.length + sL (kth ks j).kids := rfl
        have hnl : (kth ks j).names.length ≤ 1048576 := by omega
        have hkl : kSz (kth ks j).kids ≤ 1048576 := by omega
        have hKm : K + 3 + (kth ks j).names.length + 4 * kSz (kth ks j).kids ≤ K0 + 4 * kSz (ks.take (j + 1)) ∧ K0 + 4 * kSz (ks.take (j + 1)) ≤ 10000000000000000 := by omega
        have hKn : K + 3 + (kth ks j).names.length + 4 * kSz (kth ks j).kids ≤ 10000000000000000 := by omega
        have HKB := hidM hKm
        have hB1 : Hid (lo ≤ b ∧ b < hi) := ⟨h1, h2⟩
        have HX := hidM (And.intro x0 (And.intro x1 (And.intro x2 (And.intro x3 (And.intro x4 (And.intro x5 x6))))))
        clear x0 x1 x2 x3 x4 x5 x6 h1 h2 g1 g2 g3 g4 hkk hKq hk hKm
        obtain ⟨⟨s0, t0⟩, f0⟩ := HX.out.1
        obtain ⟨⟨s1, t1⟩, f1⟩ := HX.out.2.1
        go_wp2_with fail
        have n0 := MarkedN.set_num t0 hB1.out.1 hB1.out.2 K
        obtain ⟨⟨s1', t1'⟩, -⟩ := NumAt.keep ⟨⟨_, t1⟩, f1⟩ n0
        have n1 := n0.trans (MarkedN.set_num t1' hB1.out.1 hB1.out.2 (K + 1))
        obtain ⟨W1, hW1⟩ : ∃ W, W = (w0.setCell ⟨b, off + j * 5, none⟩ (.int .i64 K)).setCell ⟨b, off + j * 5 + 1, none⟩ (.int .i64 (K + 1)) := ⟨_, rfl⟩
        rw [← hW1] at n1 ⊢
        clear hW1 t0 f0 t1 f1 t1' n0
        refine (markText_i (K + 1 + 1) W1 (by omega) (by omega)).mono ?_
        rintro e w2 ⟨⟨mt1, rfl⟩, hb2⟩
        have m2 := n1.trans (MarkedN.of_below lo hi hb2)
        obtain ⟨⟨s2, t2⟩, f2⟩ := HX.out.2.2.1.keep m2.m
        have t3 := m2.m.list _ _ _ _ HX.out.2.2.2.1
        have n2 := m2.trans (MarkedN.set_text t2 hB1.out.1 hB1.out.2 mt1)
        have HN2 := hidM n2
        clear n1 hb2 m2 n2
        go_wp2_with fail
        have n2 := HN2.out
        obtain ⟨X2, hX2⟩ : ∃ W, W = w2.setCell ⟨b, off + j * 5 + 2, none⟩ (.string mt1) := ⟨_, rfl⟩
        rw [← hX2] at n2 ⊢
        clear hX2 t2 t3 f2 HN2
        refine (markStringS_i (kth ks j).names.length nc lo hi (K + 1 + 1 + 1) na X2 (HX.out.2.2.2.2.2.1.keep n2.m) hnl (by omega) (by omega)).mono ?_
        rintro e w3 ⟨⟨K3, rfl, p3, q3⟩, m3⟩
        have M3 := n2.trans m3
        have d4 := M3.m.list _ _ _ _ HX.out.2.2.2.2.1
        have HM3 := hidM M3
        clear n2 m3 M3
        go_wp2_with fail
        clear d4
        refine (ih (kth ks j).kids kc lo hi K3 ka w3 (HX.out.2.2.2.2.2.2.keep HM3.out) hkl p3 (by omega)).mono ?_
        rintro e w5 ⟨⟨K', rfl, hK'0, hK'1⟩, m6⟩
        have m7 := hm.trans (HM3.out.trans m6)
        clear m6 ih
        go_wp2_with fail
        go_roundw
        case rel => exact ⟨j + 1, K', by omega, hK'0, by have := HKB.out; omega, rfl, by go_num, m7⟩
        case measure => simp [intOf]; omega
      · go_wp2_with fail
        go_ret
        have e : j = ks.length := by omega
        exact ⟨⟨K, rfl, hK0, by rw [e, List.take_length] at hKq; exact hKq⟩, hm⟩

/-- Cells that may be written, within a range of blocks. -/
def WCells (w : World) (lo hi : Nat) (cs : List Ce) (a : Option Addr) : Prop := 0 < cs.length → ∃ b off, a = some ⟨b, off, none⟩ ∧ lo ≤ b ∧ b < hi ∧ ∀ i, i < cs.length → TextAt w ⟨b, off + i * 6, none⟩ ∧ NumAt w ⟨b, off + i * 6 + 1, none⟩ ∧ NumAt w ⟨b, off + i * 6 + 1 + 1, none⟩ ∧ TextAt w ⟨b, off + i * 6 + 1 + 2, none⟩ ∧
      (∃ na nc, w.cell? ⟨b, off + i * 6 + 1 + 3, none⟩ = some (.slice na (cth cs i).val.names.length nc) ∧ WStrs w lo hi (cth cs i).val.names.length na) ∧
      ∃ f ka kc, w.cell? ⟨b, off + i * 6 + 1 + 4, none⟩ = some (.slice ka (cth cs i).val.kids.length kc) ∧ WVals w lo hi f (cth cs i).val.kids ka
theorem WCells.keep {lo hi lo' hi' : Nat} {w w' : World} {cs : List Ce} {a : Option Addr} (h : WCells w lo hi cs a) (m : MarkedN lo' hi' w w') : WCells w' lo hi cs a := fun hn => by
    obtain ⟨b, off, e, h1, h2, hc⟩ := h hn
    refine ⟨b, off, e, h1, h2, fun i hi => ?_⟩
    obtain ⟨q0, q1, q1', q2, ⟨na, nc, q3, q5⟩, f, ka, kc, q4, q6⟩ := hc i hi
    exact ⟨q0.keep m.m, q1.keep m, q1'.keep m, q2.keep m.m, ⟨na, nc, m.m.list _ _ _ _ q3, q5.keep m.m⟩, f, ka, kc, m.m.list _ _ _ _ q4, q6.keep m⟩
theorem WCells.of_rep {w : World} {lo hi : Nat} {cs : List Ce} {a : Option Addr} (h : CeReps w (fun b => lo ≤ b ∧ b < hi) cs a) (nf : NF lo w) : WCells w lo hi cs a := fun hn => by
    obtain ⟨-, C, hA, hr⟩ := h
    obtain ⟨b, off, e, hb, hc⟩ := hA hn
    refine ⟨b, off, e, hb.1, hb.2, fun i hi => ?_⟩
    obtain ⟨e0, hV, -⟩ := (hr i hi).pieces
    obtain ⟨f, hV⟩ := hV
    match f, hV with
    | f + 1, hV =>
    obtain ⟨na, ka', nc, kc, b', off', C', hv, hs, -, -, -, -, hka, hc', hr'⟩ := hV
    simp only [Value.agg.injEq, Array.mk.injEq, List.cons.injEq, and_true] at hv
    obtain ⟨e1, e2, e3, e4, e5⟩ := hv
    have c0 := hc i hi 0 (by omega)
    have c1 := hc i hi 1 (by omega)
    have c2 := hc i hi 2 (by omega)
    have c3 := hc i hi 3 (by omega)
    have c4 := hc i hi 4 (by omega)
    have c5 := hc i hi 5 (by omega)
    rw [e0] at c0
    rw [e1] at c1
    rw [e2] at c2
    rw [e3] at c3
    rw [e4] at c4
    rw [e5] at c5
    exact ⟨⟨⟨_, c0⟩, nf _ hb.1⟩, ⟨⟨_, c1⟩, nf _ hb.1⟩, ⟨⟨_, c2⟩, nf _ hb.1⟩, ⟨⟨_, c3⟩, nf _ hb.1⟩, ⟨na, nc, c4, WStrs.of_rep hs nf⟩, f + 1, ka', kc, c5, WVals.of_n nf hka hc' hr'⟩

/-- How many marks cells take at most, a quarter of it. -/
def cSz (cs : List Ce) : Nat := cs.length + (cs.map szC).sum
theorem cSz_take (cs : List Ce) (j : Nat) (h : j < cs.length) : cSz (cs.take (j + 1)) = cSz (cs.take j) + (1 + szC (cth cs j)) := by
  have h1 : _ = _ + szC (cth cs j) := sum_take szC Ce.zero cs j h
  simp only [cSz, List.length_take]
  omega
theorem cSz_part (cs : List Ce) (j : Nat) : cSz (cs.take j) ≤ cSz cs := by
  have := sum_part szC cs j
  simp only [cSz, List.length_take]
  omega

set_option maxRecDepth 20000 in
set_option maxHeartbeats 1600000 in
theorem markCellS_k (cs : List Ce) (c lo hi : Nat) (K0 : Int) (a : Option Addr) (w : World) (h : WCells w lo hi cs a) (hn : cSz cs ≤ 1048576) (hk0 : 0 ≤ K0) (hk : K0 + 4 * cSz cs ≤ 10000000000000000) :
    Calls Tryz.prog 37 #[.slice a cs.length c, .int .i64 K0] w fun e w' => (∃ K' : Int, e = .returned (.int .i64 K') ∧ 0 ≤ K' ∧ K' ≤ K0 + 4 * cSz cs) ∧ MarkedN lo hi w w' := by
    have hlen : cs.length ≤ 1048576 := by unfold cSz at hn; omega
    go_enter Tryz.func37, Tryz.ntmps37
    go_wp2_with fail
    go_loopw [1, 5] (fun kk i wr => ∃ (j : Nat) (q : Int), j ≤ cs.length ∧ 0 ≤ q ∧ q ≤ K0 + 4 * cSz (cs.take j) ∧ kk = .int .i64 q ∧ i = .int .i64 j ∧ MarkedN lo hi w wr) (fun _ i _ => cs.length - (intOf i).toNat)
    case atStart => exact ⟨0, K0, Nat.zero_le _, hk0, by omega, rfl, rfl, MarkedN.refl _ _ _⟩
    case round =>
      obtain ⟨j, K, hj, hK0, hKq, rfl, rfl, hm⟩ := hrel
      obtain ⟨w0, rfl⟩ : ∃ x, x = wr := ⟨wr, rfl⟩
      by_cases hlt : j < cs.length
      · obtain ⟨b, off, rfl, h1, h2, hcc⟩ := (h.keep hm) (by omega)
        obtain ⟨x0, x1, x1', x2, ⟨na, nc, x3, x5⟩, f, ka, kc, x4, x6⟩ := hcc j hlt
        clear hcc
        have hji : (j : Int) < (cs.length : Int) := by omega
        have g1 := cSz_take cs j hlt
        have g2 := cSz_part cs (j + 1)
        have g0 : szC (cth cs j) = (cth cs j).name.size + szV (cth cs j).val := rfl
        have g3 := szV_eq (cth cs j).val
        have g4 := len_szNs (cth cs j).val.names
        have hkk : kSz (cth cs j).val.kids = (cth cs j).val.kids.length + sL (cth cs j).val.kids := rfl
        have hnl : (cth cs j).val.names.length ≤ 1048576 := by omega
        have hkl : kSz (cth cs j).val.kids ≤ 1048576 := by omega
        have hKm : K + 4 + (cth cs j).val.names.length + 4 * kSz (cth cs j).val.kids ≤ K0 + 4 * cSz (cs.take (j + 1)) ∧ K0 + 4 * cSz (cs.take (j + 1)) ≤ 10000000000000000 := by omega
        have hKn : K + 4 + (cth cs j).val.names.length + 4 * kSz (cth cs j).val.kids ≤ 10000000000000000 := by omega
        have HKB := hidM hKm
        have hB1 : Hid (lo ≤ b ∧ b < hi) := ⟨h1, h2⟩
        have HX := hidM (And.intro x0 (And.intro x1 (And.intro x1' (And.intro x2 (And.intro x3 (And.intro x4 (And.intro x5 x6)))))))
        clear x0 x1 x1' x2 x3 x4 x5 x6 h1 h2 g0 g1 g2 g3 g4 hkk hKq hk hKm
        go_wp2_with fail
        refine (markText_i K w0 hK0 (by omega)).mono ?_
        rintro e w1 ⟨⟨mt0, rfl⟩, hb1⟩
        have m1 := MarkedN.of_below lo hi hb1
        obtain ⟨⟨s0, t0⟩, f0⟩ := HX.out.1.keep m1.m
        obtain ⟨⟨s1, t1⟩, f1⟩ := HX.out.2.1.keep m1
        obtain ⟨⟨s2, t2⟩, f2⟩ := HX.out.2.2.1.keep m1
        have HM1 := hidM m1
        clear m1 hb1
        go_wp2_with fail
        have n0 := MarkedN.set_text t0 hB1.out.1 hB1.out.2 mt0
        obtain ⟨⟨s1', t1'⟩, -⟩ := NumAt.keep ⟨⟨_, t1⟩, f1⟩ n0
        have n1 := n0.trans (MarkedN.set_num t1' hB1.out.1 hB1.out.2 (K + 1))
        obtain ⟨⟨s2', t2'⟩, -⟩ := NumAt.keep ⟨⟨_, t2⟩, f2⟩ n1
        have n2 := HM1.out.trans (n1.trans (MarkedN.set_num t2' hB1.out.1 hB1.out.2 (K + 1 + 1)))
        obtain ⟨W1, hW1⟩ : ∃ W, W = ((w1.setCell ⟨b, off + j * 6, none⟩ (.string mt0)).setCell ⟨b, off + j * 6 + 1, none⟩ (.int .i64 (K + 1))).setCell ⟨b, off + j * 6 + 1 + 1, none⟩ (.int .i64 (K + 1 + 1)) := ⟨_, rfl⟩
        rw [← hW1] at n2
        rw [← hW1]
        clear hW1 t0 f0 t1 f1 t1' t2 f2 t2' n0 n1
        refine (markText_i (K + 1 + 1 + 1) W1 (by omega) (by omega)).mono ?_
        rintro e w2 ⟨⟨mt1, rfl⟩, hb2⟩
        have m2 := n2.trans (MarkedN.of_below lo hi hb2)
        obtain ⟨⟨s2, t2⟩, f2⟩ := HX.out.2.2.2.1.keep m2.m
        have t3 := m2.m.list _ _ _ _ HX.out.2.2.2.2.1
        have n3 := m2.trans (MarkedN.set_text t2 hB1.out.1 hB1.out.2 mt1)
        have HN2 := hidM n3
        clear n2 hb2 m2 n3
        go_wp2_with fail
        have n2 := HN2.out
        obtain ⟨X2, hX2⟩ : ∃ W, W = w2.setCell ⟨b, off + j * 6 + 1 + 2, none⟩ (.string mt1) := ⟨_, rfl⟩
        rw [← hX2] at n2
        rw [← hX2]
        clear hX2 t2 t3 f2 HN2
        refine (markStringS_i (cth cs j).val.names.length nc lo hi (K + 1 + 1 + 1 + 1) na X2 (HX.out.2.2.2.2.2.2.1.keep n2.m) hnl (by omega) (by omega)).mono ?_
        rintro e w3 ⟨⟨K3, rfl, p3, q3⟩, m3⟩
        have M3 := n2.trans m3
        have d4 := M3.m.list _ _ _ _ HX.out.2.2.2.2.2.1
        have HM3 := hidM M3
        clear n2 m3 M3
        go_wp2_with fail
        clear d4
        refine (markValueS_k f (cth cs j).val.kids kc lo hi K3 ka w3 (HX.out.2.2.2.2.2.2.2.keep HM3.out) hkl p3 (by omega)).mono ?_
        rintro e w5 ⟨⟨K', rfl, hK'0, hK'1⟩, m6⟩
        have m7 := hm.trans (HM3.out.trans m6)
        clear m6
        go_wp2_with fail
        go_roundw
        case rel => exact ⟨j + 1, K', by omega, hK'0, by have := HKB.out; omega, rfl, by go_num, m7⟩
        case measure => simp [intOf]; omega
      · go_wp2_with fail
        go_ret
        have e : j = cs.length := by omega
        exact ⟨⟨K, rfl, hK0, by rw [e, List.take_length] at hKq; exact hKq⟩, hm⟩

/-- Rows that may be written, within a range of blocks. -/
def WRows (w : World) (lo hi : Nat) (rs : List Ro) (a : Option Addr) : Prop := 0 < rs.length → ∃ b off, a = some ⟨b, off, none⟩ ∧ lo ≤ b ∧ b < hi ∧ ∀ i, i < rs.length → TextAt w ⟨b, off + i * 3, none⟩ ∧ NumAt w ⟨b, off + i * 3 + 1, none⟩ ∧
      ∃ ca cc, w.cell? ⟨b, off + i * 3 + 2, none⟩ = some (.slice ca (rth rs i).cells.length cc) ∧ WCells w lo hi (rth rs i).cells ca
theorem WRows.keep {lo hi lo' hi' : Nat} {w w' : World} {rs : List Ro} {a : Option Addr} (h : WRows w lo hi rs a) (m : MarkedN lo' hi' w w') : WRows w' lo hi rs a := fun hn => by
    obtain ⟨b, off, e, h1, h2, hc⟩ := h hn
    refine ⟨b, off, e, h1, h2, fun i hi => ?_⟩
    obtain ⟨q0, q1, ca, cc, q3, q5⟩ := hc i hi
    exact ⟨q0.keep m.m, q1.keep m, ca, cc, m.m.list _ _ _ _ q3, q5.keep m⟩
theorem WRows.of_rep {w : World} {lo hi : Nat} {rs : List Ro} {a : Option Addr} (h : RoReps w (fun b => lo ≤ b ∧ b < hi) rs a) (nf : NF lo w) : WRows w lo hi rs a := fun hn => by
    obtain ⟨-, C, hA, hr⟩ := h
    obtain ⟨b, off, e, hb, hc⟩ := hA hn
    refine ⟨b, off, e, hb.1, hb.2, fun i hi => ?_⟩
    obtain ⟨ca, cc, e0, e1, e2, hC, -⟩ := (hr i hi).pieces
    have c0 := hc i hi 0 (by omega)
    have c1 := hc i hi 1 (by omega)
    have c2 := hc i hi 2 (by omega)
    rw [e0] at c0
    rw [e1] at c1
    rw [e2] at c2
    exact ⟨⟨⟨_, c0⟩, nf _ hb.1⟩, ⟨⟨_, c1⟩, nf _ hb.1⟩, ca, cc, c2, WCells.of_rep hC nf⟩

def rSz (rs : List Ro) : Nat := rs.length + (rs.map szR).sum
theorem rSz_take (rs : List Ro) (j : Nat) (h : j < rs.length) : rSz (rs.take (j + 1)) = rSz (rs.take j) + (1 + szR (rth rs j)) := by
  have h1 : _ = _ + szR (rth rs j) := sum_take szR Ro.zero rs j h
  simp only [rSz, List.length_take]
  omega
theorem rSz_part (rs : List Ro) (j : Nat) : rSz (rs.take j) ≤ rSz rs := by
  have := sum_part szR rs j
  simp only [rSz, List.length_take]
  omega

end Go.Proofs.YtmemijccbmnaaaaGreat
