import Derived.Test.YtgcfgadkclfonaaGreatDoorJ3
import Derived.Test.YtgcfgadkclfonaaGreatDoorJ1
import Derived.Test.YtgcfgadkclfonaaGreatDoorJ4
import Derived.Test.YtgcfgadkclfonaaGreatDoorJ8
import Derived.Test.YtgcfgadkclfonaaGreatDoorJ2
import Derived.Test.YtgcfgadkclfonaaGreatDoorJ16
namespace Go.Proofs.YtgcfgadkclfonaaGreatDoor
set_option linter.unusedSimpArgs false
set_option linter.unusedVariables false
open Go.RowKit

/-- Cells that may be written: numbers. -/
def NumAt (w : World) (a : Addr) : Prop := (∃ s, w.cell? a = some (.int .i64 s)) ∧ w.frozen? a = false
/-- A change as by marks that keeps numbers numbers, too. -/
structure MarkedN (lo hi : Nat) (w w' : World) : Prop where
  m : Marked lo hi w w'
  num : ∀ a s, w.cell? a = some (.int .i64 s) → ∃ s', w'.cell? a = some (.int .i64 s')
theorem MarkedN.refl (lo hi : Nat) (w : World) : MarkedN lo hi w w := ⟨Marked.refl _ _ _, fun _ s h => ⟨s, h⟩⟩
theorem MarkedN.trans {lo hi : Nat} {a b c : World} (h : MarkedN lo hi a b) (k : MarkedN lo hi b c) : MarkedN lo hi a c :=
  ⟨h.m.trans k.m, fun a s e => by obtain ⟨s', e'⟩ := h.num a s e; exact k.num a s' e'⟩
theorem MarkedN.of_below {w w' : World} (lo hi : Nat) (h : Below w.heap.size w w') : MarkedN lo hi w w' := ⟨Marked.of_below lo hi h, fun a s e => ⟨s, (h.cell (cell_block e)).trans e⟩⟩
theorem MarkedN.set_text {w : World} {lo hi : Nat} {p : Addr} {s : ByteArray} (h : w.cell? p = some (.string s)) (h1 : lo ≤ p.block) (h2 : p.block < hi) (t : ByteArray) : MarkedN lo hi w (w.setCell p (.string t)) := by
  refine ⟨Marked.set_text h h1 h2 t, fun a u e => ?_⟩
  have hp : p ≠ a := by intro hp; rw [hp, e] at h; cases h
  exact ⟨u, (World.cell?_setCell_other _ _ _ _ hp).trans e⟩
theorem MarkedN.set_num {w : World} {lo hi : Nat} {p : Addr} {s : Int} (h : w.cell? p = some (.int .i64 s)) (h1 : lo ≤ p.block) (h2 : p.block < hi) (t : Int) : MarkedN lo hi w (w.setCell p (.int .i64 t)) := by
  refine ⟨⟨rfl, rfl, rfl, by rw [size_set]; exact Nat.le_refl _, fun b hb hn => Below.heap_setCell _ _ _ _ (by intro e; exact hn (by rw [e]; exact ⟨h1, h2⟩)), fun a u e => ?_, fun a u e => ?_, fun a x n c e => ?_, fun a ha => by simp⟩, fun a u e => ?_⟩
  · have hp : p ≠ a := by intro hp; rw [hp, e] at h; cases h
    exact ⟨u, (World.cell?_setCell_other _ _ _ _ hp).trans e⟩
  · have hp : p ≠ a := by intro hp; rw [hp, e] at h; cases h
    exact ⟨u, (World.cell?_setCell_other _ _ _ _ hp).trans e⟩
  · have hp : p ≠ a := by intro hp; rw [hp, e] at h; cases h
    exact (World.cell?_setCell_other _ _ _ _ hp).trans e
  · by_cases hp : p = a
    · subst hp; exact ⟨t, World.cell?_setCell_same _ _ _ h⟩
    · exact ⟨u, (World.cell?_setCell_other _ _ _ _ hp).trans e⟩
theorem NumAt.keep {lo hi : Nat} {w w' : World} {a : Addr} (h : NumAt w a) (m : MarkedN lo hi w w') : NumAt w' a := by
  obtain ⟨⟨s, e⟩, f⟩ := h
  exact ⟨m.num a s e, (m.m.frozen a (cell_block e)).trans f⟩
/-- A list of numbers that may be written, within a range of blocks. -/
def WInts (w : World) (lo hi n : Nat) (a : Option Addr) : Prop := 0 < n → ∃ b off, a = some ⟨b, off, none⟩ ∧ lo ≤ b ∧ b < hi ∧ ∀ i, i < n → NumAt w ⟨b, off + i, none⟩
theorem WInts.keep {lo hi lo' hi' n : Nat} {w w' : World} {a : Option Addr} (h : WInts w lo hi n a) (m : MarkedN lo' hi' w w') : WInts w' lo hi n a := fun hn => by
  obtain ⟨b, off, e, h1, h2, hc⟩ := h hn
  exact ⟨b, off, e, h1, h2, fun i hi => (hc i hi).keep m⟩
theorem WInts.of_rep {w : World} {lo hi : Nat} {ns : List Int} {a : Option Addr} (h : Ints w (fun b => lo ≤ b ∧ b < hi) ns a) (nf : NF lo w) : WInts w lo hi ns.length a := fun hn => by
  obtain ⟨b, off, e, hb, hc⟩ := h.2 hn
  exact ⟨b, off, e, hb.1, hb.2, fun i hi => ⟨⟨_, hc i hi⟩, nf _ hb.1⟩⟩
theorem WInts.block {lo hi n : Nat} {w w' : World} {a : Option Addr} (h : WInts w lo hi n a) (e : ∀ b, lo ≤ b → b < hi → w'.heap[b]? = w.heap[b]?) : WInts w' lo hi n a := fun hn => by
  obtain ⟨b, off, ea, h1, h2, hc⟩ := h hn
  refine ⟨b, off, ea, h1, h2, fun i hi => ?_⟩
  obtain ⟨⟨s, hs⟩, hf⟩ := hc i hi
  exact ⟨⟨s, (World.cell?_of_block (w := w) (a := ⟨b, off + i, none⟩) (e b h1 h2)).trans hs⟩, by rw [← hf]; simp only [World.frozen?, e b h1 h2]⟩
/-- A number at each place of a list, as marked. -/
def HeldN (w : World) (n k : Nat) (a : Option Addr) : Prop := 0 < n → ∃ b off, a = some ⟨b, off, none⟩ ∧ ∀ i, i < n → w.cell? ⟨b, off + i, none⟩ = some (.int .i64 ((k + i : Nat) : Int))
theorem HeldN.keep {w w' : World} {n k : Nat} {a : Option Addr} (h : HeldN w n k a) (hb : Below w.heap.size w w') : HeldN w' n k a := fun h0 => by
  obtain ⟨b, off, e, hc⟩ := h h0
  exact ⟨b, off, e, fun i hi => (hb.cell (cell_block (hc i hi))).trans (hc i hi)⟩
theorem MarkedN.set_flag {w : World} {lo hi : Nat} {p : Addr} {s : Bool} (h : w.cell? p = some (.bool s)) (h1 : lo ≤ p.block) (h2 : p.block < hi) (t : Bool) : MarkedN lo hi w (w.setCell p (.bool t)) := by
  refine ⟨Marked.set_flag h h1 h2 t, fun a u e => ?_⟩
  have hp : p ≠ a := by intro hp; rw [hp, e] at h; cases h
  exact ⟨u, (World.cell?_setCell_other _ _ _ _ hp).trans e⟩
set_option maxRecDepth 20000 in
set_option maxHeartbeats 1600000 in
theorem markStringS_num (n c k lo hi : Nat) (a : Option Addr) (w : World) (hw : WStrs w lo hi n a) (hn : n ≤ 1048576) (hk : k ≤ 100000000000000000) :
    Calls Tryz.prog 24 #[.slice a n c, .int .i64 k] w fun e w' => e = .returned (.int .i64 ((k + n : Nat) : Int)) ∧ MarkedN lo hi w w' ∧ (∀ b off, a = some ⟨b, off, none⟩ → ∀ i, i < n → w'.cell? ⟨b, off + i, none⟩ = some (.string (mtext (k + i)))) := by
  go_enter Tryz.func24, Tryz.ntmps24
  go_wp2_with fail
  go_loopw [1, 5] (fun kk i wr => ∃ j : Nat, j ≤ n ∧ kk = .int .i64 ((k + j : Nat) : Int) ∧ i = .int .i64 j ∧ MarkedN lo hi w wr ∧ (∀ b off, a = some ⟨b, off, none⟩ → ∀ i, i < j → wr.cell? ⟨b, off + i, none⟩ = some (.string (mtext (k + i))))) (fun _ i _ => n - (intOf i).toNat)
  case atStart => exact ⟨0, Nat.zero_le _, rfl, rfl, MarkedN.refl _ _ _, fun _ _ _ i hi => by omega⟩
  case round =>
    obtain ⟨j, hj, rfl, rfl, hm, hc⟩ := hrel
    obtain ⟨w0, rfl⟩ : ∃ x, x = wr := ⟨wr, rfl⟩
    by_cases hlt : j < n
    · obtain ⟨b, off, rfl, h1, h2, hcc⟩ := hw (by omega)
      have HC : Hid (∀ i, i < j → w0.cell? ⟨b, off + i, none⟩ = some (.string (mtext (k + i)))) := fun i hi => hc b off rfl i hi
      have HT : Hid (TextAt w0 ⟨b, off + j, none⟩) := (hcc j hlt).keep hm.m
      have hM := markText_any (k + j) w0 (by omega)
      clear hc hcc
      have hji : (j : Int) < (n : Int) := by omega
      go_wp2_with (
        go_at_call 40
        refine hM.mono ?_
        rintro e w1 ⟨rfl, hb1⟩
        have hm1 := MarkedN.of_below lo hi hb1
        obtain ⟨⟨s, ht⟩, hf⟩ := HT.out.keep hm1.m)
      go_roundw
      case rel =>
        refine ⟨j + 1, by omega, by go_num, by go_num, (hm.trans hm1).trans (MarkedN.set_text ht h1 h2 _), fun b' off' he i hi => ?_⟩
        simp only [Option.some.injEq, Addr.mk.injEq, and_true] at he
        obtain ⟨rfl, rfl⟩ := he
        by_cases hij : i = j
        · subst hij; exact World.cell?_setCell_same _ _ _ ht
        · rw [World.cell?_setCell_other _ _ _ _ (by intro e; simp only [Addr.mk.injEq] at e; omega)]
          have hx := HC.out i (by omega)
          exact (hb1.cell (cell_block hx)).trans hx
      case measure => simp [intOf]; omega
    · go_wp2_with fail
      go_ret
      have e : j = n := by omega
      exact ⟨by rw [e]; rfl, hm, by rw [← e]; exact hc⟩
end Go.Proofs.YtgcfgadkclfonaaGreatDoor

namespace Go.Proofs.YtgcfgadkclfonaaGreatDoor
set_option linter.unusedSimpArgs false
set_option linter.unusedVariables false
open Go.RowKit

/-- Fields that may be written, with all that is asked of them, within a range of blocks. -/
def WSels (w : World) (lo hi : Nat) : Nat → List Se → Option Addr → Prop
  | 0, ks, _ => ks.length = 0
  | f + 1, ks, a => 0 < ks.length → ∃ b off, a = some ⟨b, off, none⟩ ∧ lo ≤ b ∧ b < hi ∧ ∀ i, i < ks.length → TextAt w ⟨b, off + i * 5, none⟩ ∧ TextAt w ⟨b, off + i * 5 + 1, none⟩ ∧ FlagAt w ⟨b, off + i * 5 + 2, none⟩ ∧ NumAt w ⟨b, off + i * 5 + 3, none⟩ ∧
      ∃ ka kc, w.cell? ⟨b, off + i * 5 + 4, none⟩ = some (.slice ka (sth ks i).kids.length kc) ∧ WSels w lo hi f (sth ks i).kids ka
theorem WSels.keep {lo hi lo' hi' : Nat} {w w' : World} (m : MarkedN lo' hi' w w') : ∀ {f : Nat} {ks : List Se} {a : Option Addr}, WSels w lo hi f ks a → WSels w' lo hi f ks a
  | 0, _, _, h => h
  | f + 1, ks, a, h => fun hn => by
    obtain ⟨b, off, e, h1, h2, hc⟩ := h hn
    refine ⟨b, off, e, h1, h2, fun i hi => ?_⟩
    obtain ⟨q0, q1, q2, q3, ka, kc, q4, q5⟩ := hc i hi
    exact ⟨q0.keep m.m, q1.keep m.m, q2.keep m.m, q3.keep m, ka, kc, m.m.list _ _ _ _ q4, q5.keep m⟩
theorem WSels.of_n {w : World} {lo hi : Nat} (nf : NF lo w) : ∀ {f : Nat} {ks : List Se} {a : Option Addr} {C : Nat → Nat → Value}, Arr w (fun b => lo ≤ b ∧ b < hi) 5 ks.length a C → (∀ i, i < ks.length → SeN w (fun b => lo ≤ b ∧ b < hi) f (sth ks i) (.agg #[C i 0, C i 1, C i 2, C i 3, C i 4])) → WSels w lo hi (f + 1) ks a
  | 0, ks, a, C, hA, hr => fun hn => (hr 0 hn).elim
  | f + 1, ks, a, C, hA, hr => fun hn => by
    obtain ⟨b, off, e, hb, hc⟩ := hA hn
    refine ⟨b, off, e, hb.1, hb.2, fun i hi => ?_⟩
    obtain ⟨ka, kc, D, hv, -, -, -, hA2, hr2⟩ := hr i hi
    simp only [Value.agg.injEq, Array.mk.injEq, List.cons.injEq, and_true] at hv
    obtain ⟨e0, e1, e2, e3, e4⟩ := hv
    have c0 := hc i hi 0 (by omega)
    have c1 := hc i hi 1 (by omega)
    have c2 := hc i hi 2 (by omega)
    have c3 := hc i hi 3 (by omega)
    have c4 := hc i hi 4 (by omega)
    rw [e0] at c0
    rw [e1] at c1
    rw [e2] at c2
    rw [e3] at c3
    rw [e4] at c4
    exact ⟨⟨⟨_, c0⟩, nf _ hb.1⟩, ⟨⟨_, c1⟩, nf _ hb.1⟩, ⟨⟨_, c2⟩, nf _ hb.1⟩, ⟨⟨_, c3⟩, nf _ hb.1⟩, ka, kc, c4, WSels.of_n nf hA2 hr2⟩
theorem WSels.of_rep {w : World} {lo hi : Nat} {ks : List Se} {a : Option Addr} (h : SeReps w (fun b => lo ≤ b ∧ b < hi) ks a) (nf : NF lo w) : ∃ f, WSels w lo hi f ks a := by
  obtain ⟨h0, C, hA, hr⟩ := h
  obtain ⟨f, hf⟩ := se_bound ks.length hr
  exact ⟨f + 1, WSels.of_n nf hA hf⟩

theorem cntTo_ge (ks : List Se) (f : Nat) : ∀ n, n ≤ cntTo (f + 1) ks n
  | 0 => Nat.zero_le _
  | n + 1 => by have := cntTo_ge ks f n; rw [cntTo_succ, cntSe_kids]; omega
theorem kids_le (ks : List Se) (h : ∀ g, cntTo g ks ks.length ≤ 1048576) {j : Nat} (hj : j < ks.length) : (sth ks j).kids.length ≤ 1048576 := by
  have g1 := h 2
  have g2 := cntTo_mono 2 ks (show j + 1 ≤ ks.length by omega)
  have g3 := cntTo_succ 2 ks j
  have g4 : cntSe 2 (sth ks j) = 1 + cntTo 1 (sth ks j).kids (sth ks j).kids.length := cntSe_kids _ _
  have g5 : (sth ks j).kids.length ≤ cntTo 1 (sth ks j).kids (sth ks j).kids.length := cntTo_ge (sth ks j).kids 0 (sth ks j).kids.length
  omega
theorem markText_i (K : Int) (w : World) (h0 : 0 ≤ K) (h1 : K ≤ 1000000000000000000) :
    Calls Tryz.prog 40 #[.int .i64 K] w fun e w' => (∃ s, e = .returned (.string s)) ∧ Below w.heap.size w w' := by
  have h := markText_any K.toNat w (by omega)
  rw [show ((K.toNat : Nat) : Int) = K by omega] at h
  exact h.mono fun e w' ⟨h1, h2⟩ => ⟨⟨_, h1⟩, h2⟩
theorem markStringS_i (n c lo hi : Nat) (K : Int) (a : Option Addr) (w : World) (hw : WStrs w lo hi n a) (hn : n ≤ 1048576) (h0 : 0 ≤ K) (h1 : K ≤ 100000000000000000) :
    Calls Tryz.prog 24 #[.slice a n c, .int .i64 K] w fun e w' => (∃ K' : Int, e = .returned (.int .i64 K') ∧ 0 ≤ K' ∧ K' ≤ K + n) ∧ MarkedN lo hi w w' := by
  have h := markStringS_num n c K.toNat lo hi a w hw hn (by omega)
  rw [show ((K.toNat : Nat) : Int) = K by omega] at h
  exact h.mono fun e w' ⟨h1, h2, _⟩ => ⟨⟨_, h1, by omega, by omega⟩, h2⟩
set_option maxRecDepth 20000 in
set_option maxHeartbeats 1600000 in
theorem markSelS_any (f : Nat) : ∀ (ks : List Se) (c lo hi : Nat) (K : Int) (a : Option Addr) (w : World), WSels w lo hi f ks a → ks.length ≤ 1048576 → (∀ g, cntTo g ks ks.length ≤ 1048576) → 0 ≤ K → K + 4 * cntTo f ks ks.length ≤ 100000000000000000 →
    Calls Tryz.prog 16 #[.slice a ks.length c, .int .i64 K] w fun e w' => (∃ K' : Int, e = .returned (.int .i64 K') ∧ 0 ≤ K' ∧ K' ≤ K + 4 * cntTo f ks ks.length) ∧ MarkedN lo hi w w' := by
  induction f with
  | zero =>
    intro ks c lo hi K a w h hn hcn hk0 hk
    have h0 : ks.length = 0 := h
    have hks : ks = [] := by simpa using h0
    subst hks
    go_enter Tryz.func16, Tryz.ntmps16
    go_wp2_with fail
    go_loopw [1, 5] (fun kk i wr => kk = .int .i64 K ∧ i = .int .i64 0 ∧ wr = w) (fun _ _ _ => 0)
    case atStart => exact ⟨rfl, rfl, rfl⟩
    case round =>
      obtain ⟨rfl, rfl, rfl⟩ := hrel
      go_wp2_with fail
      go_ret
      exact ⟨⟨K, rfl, hk0, by omega⟩, MarkedN.refl _ _ _⟩
  | succ f ih =>
    intro ks c lo hi K0 a w h hn hcn hk0 hk
    go_enter Tryz.func16, Tryz.ntmps16
    go_wp2_with fail
    go_loopw [1, 5] (fun kk i wr => ∃ (j : Nat) (q : Int), j ≤ ks.length ∧ 0 ≤ q ∧ q ≤ K0 + 4 * cntTo (f + 1) ks j ∧ kk = .int .i64 q ∧ i = .int .i64 j ∧ MarkedN lo hi w wr) (fun _ i _ => ks.length - (intOf i).toNat)
    case atStart => exact ⟨0, K0, Nat.zero_le _, hk0, by omega, rfl, rfl, MarkedN.refl _ _ _⟩
    case round =>
      obtain ⟨j, K, hj, hK0, hKq, rfl, rfl, hm⟩ := hrel
      obtain ⟨w0, rfl⟩ : ∃ x, x = wr := ⟨wr, rfl⟩
      by_cases hlt : j < ks.length
      · obtain ⟨b, off, rfl, h1, h2, hcc⟩ := (h.keep hm) (by omega)
        obtain ⟨x0, x1, x2, x3, ka, kc, x4, x5⟩ := hcc j hlt
        clear hcc
        have hji : (j : Int) < (ks.length : Int) := by omega
        have hmono : cntTo (f + 1) ks (j + 1) ≤ cntTo (f + 1) ks ks.length := cntTo_mono _ _ (by omega)
        have hsucc := cntTo_succ (f + 1) ks j
        have hkid : cntSe (f + 1) (sth ks j) = 1 + cntTo f (sth ks j).kids (sth ks j).kids.length := cntSe_kids _ _
        have hkl : (sth ks j).kids.length ≤ 1048576 := kids_le ks hcn hlt
        have hkc : ∀ g, cntTo g (sth ks j).kids (sth ks j).kids.length ≤ 1048576 := fun g => by
          have g1 := hcn (g + 1)
          have g2 := cntTo_mono (g + 1) ks (show j + 1 ≤ ks.length by omega)
          have g3 := cntTo_succ (g + 1) ks j
          have g4 : cntSe (g + 1) (sth ks j) = 1 + cntTo g (sth ks j).kids (sth ks j).kids.length := cntSe_kids _ _
          omega
        have HKB : Hid (K0 + 4 * cntTo (f + 1) ks ks.length ≤ 100000000000000000 ∧ K ≤ K0 + 4 * cntTo (f + 1) ks j ∧ cntTo (f + 1) ks (j + 1) = cntTo (f + 1) ks j + 1 + cntTo f (sth ks j).kids (sth ks j).kids.length ∧ cntTo (f + 1) ks (j + 1) ≤ cntTo (f + 1) ks ks.length) := ⟨hk, hKq, by omega, hmono⟩
        have hKm : K + 4 + 4 * cntTo f (sth ks j).kids (sth ks j).kids.length ≤ 100000000000000000 := by omega
        have HC : Hid (∀ g, cntTo g (sth ks j).kids (sth ks j).kids.length ≤ 1048576) := hkc
        have hB1 : Hid (lo ≤ b ∧ b < hi) := ⟨h1, h2⟩
        have HX : Hid (TextAt w0 ⟨b, off + j * 5, none⟩ ∧ TextAt w0 ⟨b, off + j * 5 + 1, none⟩ ∧ FlagAt w0 ⟨b, off + j * 5 + 2, none⟩ ∧ NumAt w0 ⟨b, off + j * 5 + 3, none⟩ ∧ w0.cell? ⟨b, off + j * 5 + 4, none⟩ = some (.slice ka (sth ks j).kids.length kc) ∧ WSels w0 lo hi f (sth ks j).kids ka) := ⟨x0, x1, x2, x3, x4, x5⟩
        clear x0 x1 x2 x3 x4 x5 h1 h2 hmono hsucc hkid hkc hk hKq hcn
        go_wp2_with fail
        refine (markText_i K w0 hK0 (by omega)).mono ?_
        rintro e w1 ⟨⟨mt0, rfl⟩, hb1⟩
        have m1 := MarkedN.of_below lo hi hb1
        obtain ⟨⟨s0, t0⟩, f0⟩ := HX.out.1.keep m1.m
        have m1' := m1.trans (MarkedN.set_text t0 hB1.out.1 hB1.out.2 mt0)
        go_wp2_with fail
        obtain ⟨W1, hW1⟩ : ∃ W, W = w1.setCell ⟨b, off + j * 5, none⟩ (.string mt0) := ⟨_, rfl⟩
        rw [← hW1] at m1' ⊢
        clear hW1 t0 f0 m1 hb1
        refine (markText_i (K + 1) W1 (by omega) (by omega)).mono ?_
        rintro e w2 ⟨⟨mt1, rfl⟩, hb2⟩
        have m2 := m1'.trans (MarkedN.of_below lo hi hb2)
        obtain ⟨⟨s1, t1⟩, f1⟩ := HX.out.2.1.keep m2.m
        obtain ⟨⟨s2, t2⟩, f2⟩ := HX.out.2.2.1.keep m2.m
        obtain ⟨⟨s3, t3⟩, f3⟩ := HX.out.2.2.2.1.keep m2
        have t4 := m2.m.list _ _ _ _ HX.out.2.2.2.2.1
        have HM2 : Hid (MarkedN lo hi w0 w2) := m2
        clear m1' hb2 m2
        go_wp2_with fail
        have n1 := MarkedN.set_text t1 hB1.out.1 hB1.out.2 mt1
        obtain ⟨⟨s2', t2'⟩, -⟩ := FlagAt.keep ⟨⟨_, t2⟩, f2⟩ n1.m
        have n2 := n1.trans (MarkedN.set_flag t2' hB1.out.1 hB1.out.2 ((K + 1 + 1) % 3 == 0))
        obtain ⟨⟨s3', t3'⟩, -⟩ := NumAt.keep ⟨⟨_, t3⟩, f3⟩ n2
        have n3 := HM2.out.trans (n2.trans (MarkedN.set_num t3' hB1.out.1 hB1.out.2 (K + 1 + 1 + 1)))
        refine (ih (sth ks j).kids kc lo hi (K + 1 + 1 + 1 + 1) ka _ (HX.out.2.2.2.2.2.keep n3) hkl HC.out (by omega) (by omega)).mono ?_
        rintro e w5 ⟨⟨K', rfl, hK'0, hK'1⟩, m6⟩
        have m7 := hm.trans (n3.trans m6)
        clear n1 n2 n3 m6 t1 t2 t3 t4 t2' t3' f1 f2 f3 ih
        go_wp2_with fail
        go_roundw
        case rel => exact ⟨j + 1, K', by omega, hK'0, by have := HKB.out; omega, rfl, by go_num, m7⟩
        case measure => simp [intOf]; omega
      · go_wp2_with fail
        go_ret
        have e : j = ks.length := by omega
        exact ⟨⟨K, rfl, hK0, by rw [← e]; exact hKq⟩, hm⟩
end Go.Proofs.YtgcfgadkclfonaaGreatDoor

namespace Go.Proofs.YtgcfgadkclfonaaGreatDoor
set_option linter.unusedSimpArgs false
set_option linter.unusedVariables false
open Go.RowKit

/-- What szSel does with a field. -/
def SzOk2 (x : Se) : Prop := ∀ (w : World) (B : Nat) (v : Value) (left : Int), SeRep w (· < B) x v → B ≤ w.heap.size → 0 ≤ left → left ≤ 1048576 →
  Calls Tryz.prog 27 #[v, .int .i64 left] w fun e w' => ∃ y : Int, e = .returned (.int .i64 y) ∧ -1 ≤ y ∧ y ≤ left ∧ (0 ≤ y → x.al.size ≤ 1048576 ∧ x.name.size ≤ 1048576 ∧ ∀ f, y + cntSe f x ≤ left + 1 ∧ SmallS f x.kids) ∧ Below w.heap.size w w'

set_option maxHeartbeats 800000 in
theorem szSelS_two (ks : List Se) (IH : ∀ i, i < ks.length → SzOk2 (sth ks i)) (w : World) (B : Nat) (a : Option Addr) (c : Nat) (left : Int) (hK : SeReps w (· < B) ks a) (hB : B ≤ w.heap.size) (hl0 : 0 ≤ left) (hl1 : left ≤ 1048576) :
    Calls Tryz.prog 7 #[.slice a ks.length c, .int .i64 left] w fun e w' => ∃ y : Int, e = .returned (.int .i64 y) ∧ -1 ≤ y ∧ y ≤ left ∧ (0 ≤ y → y + ks.length ≤ left ∧ ∀ f, y + cntTo f ks ks.length ≤ left ∧ SmallS f ks) ∧ Below w.heap.size w w' := by
  obtain ⟨h3, C, hA, hr⟩ := hK
  by_cases hbig : left < ks.length
  · go_enter Tryz.func7, Tryz.ntmps7
    go_wp2_with fail
    go_ret
    exact ⟨-1, rfl, by omega, by omega, by omega, Below.refl _ _⟩
  · go_enter Tryz.func7, Tryz.ntmps7
    go_wp2_with fail
    go_loopw [1, 5] (fun l i wr => ∃ (k : Nat) (x : Int), k ≤ ks.length ∧ i = .int .i64 k ∧ l = .int .i64 x ∧ 0 ≤ x ∧ x + ks.length ≤ left ∧ Hid (∀ f, x + cntTo f ks k + ks.length ≤ left + k ∧ ∀ i, i < k → (sth ks i).al.size ≤ 1048576 ∧ (sth ks i).name.size ≤ 1048576 ∧ SmallS f (sth ks i).kids) ∧ Below w.heap.size w wr) (fun _ i _ => ks.length - (intOf i).toNat)
    case atStart => exact ⟨0, _, Nat.zero_le _, rfl, rfl, by omega, by omega, fun f => ⟨by simp [cntTo], fun i hi => by omega⟩, Below.refl _ _⟩
    case round =>
      obtain ⟨k, x, hk, rfl, rfl, hx0, hx1, HX, hbel⟩ := hrel
      by_cases hlt : k < ks.length
      · obtain ⟨b, off, rfl, hbB, hc⟩ := hA (by omega)
        have hck : ∀ j, j < 5 → wr.cell? ⟨b, off + k * 5 + j, none⟩ = some (C k j) := fun j hj => (hbel.cell (p := ⟨b, off + k * 5 + j, none⟩) (by show b < _; omega)).trans (hc k hlt j hj)
        have hc0 : wr.cell? ⟨b, off + k * 5, none⟩ = some (C k 0) := hck 0 (by omega)
        have hc1 := hck 1 (by omega)
        have hc2 := hck 2 (by omega)
        have hc3 := hck 3 (by omega)
        have hc4 := hck 4 (by omega)
        clear hck hc
        go_wp2_with (go_at_call 27; refine (IH k hlt _ B _ x ((hr k hlt).under (hbel.mono hB)) (by have := hbel.size; omega) hx0 (by omega)).mono ?_; rintro e w' ⟨y, rfl, hy0, hy1, hy2', hby⟩; have hy2 := hid_of hy2'; clear hy2')
        · go_ret
          exact ⟨-1, rfl, by omega, by omega, by omega, hbel.trans (hby.mono hbel.size)⟩
        · go_roundw
          case rel =>
            rename_i hy
            refine ⟨k + 1, y, by omega, by go_num, rfl, hy, by omega, fun f => ?_, hbel.trans (hby.mono hbel.size)⟩
            obtain ⟨g1, g2⟩ := HX.out f
            obtain ⟨g3, g4, g5⟩ := hy2.out hy
            refine ⟨by have := (g5 f).1; rw [cntTo_succ]; omega, fun i hi => ?_⟩
            by_cases e : i = k
            · subst e; exact ⟨g3, g4, (g5 f).2⟩
            · exact g2 i (by omega)
          case measure => simp [intOf]; omega
      · go_wp2_with fail
        go_ret
        have e : k = ks.length := by omega
        refine ⟨x, rfl, by omega, by omega, fun _ => ⟨by omega, fun f => ?_⟩, hbel⟩
        obtain ⟨g1, g2⟩ := HX.out f
        rw [e] at g1 g2
        refine ⟨by omega, ?_⟩
        cases f with
        | zero => trivial
        | succ f => exact fun i hi => ⟨(g2 i hi).1, (g2 i hi).2.1, ((HX.out f).2 i (by omega)).2.2⟩

set_option maxHeartbeats 400000 in
theorem szSel_step2 (s n : ByteArray) (o : Bool) (id : Int) (ks : List Se) (IH : ∀ i, i < ks.length → SzOk2 (sth ks i)) : SzOk2 (.mk s n o id ks) := by
  intro w B v left hR hB hl0 hl1
  obtain ⟨ka, kc, rfl, hs, hn, hK⟩ := hR.inv
  clear hR
  unfold maxLen at hs hn
  by_cases h1 : left < s.size
  · go_enter Tryz.func27, Tryz.ntmps27
    go_wp2_with fail
    go_ret
    exact ⟨-1, rfl, by omega, by omega, by omega, below_box _ _⟩
  by_cases h2 : left - s.size < n.size
  · go_enter Tryz.func27, Tryz.ntmps27
    go_wp2_with fail
    go_ret
    exact ⟨-1, rfl, by omega, by omega, by omega, below_box _ _⟩
  go_enter Tryz.func27, Tryz.ntmps27
  go_wp2_with (go_at_call 7; refine (szSelS_two ks IH _ B ka kc _ (hK.under ((below_box w _).mono hB)) (by simp; omega) (by omega) (by omega)).mono ?_; rintro e w' ⟨y, rfl, hy0, hy1, hy2', hb⟩; have hy2 := hid_of hy2'; clear hy2')
  · go_ret
    exact ⟨-1, rfl, by omega, by omega, by omega, (below_box w _).trans (hb.mono (by simp))⟩
  · go_ret
    refine ⟨y, rfl, by omega, by omega, fun h => ⟨by show s.size ≤ _; omega, by show n.size ≤ _; omega, fun f => ?_⟩, (below_box w _).trans (hb.mono (by simp))⟩
    obtain ⟨-, g2⟩ := hy2.out h
    refine ⟨?_, (g2 f).2⟩
    cases f with
    | zero => simp [cntSe]; omega
    | succ f => have := (g2 f).1; rw [cntSe_kids]; simp only; omega

theorem sz_all2 (m : Nat) : ∀ x : Se, SizeOf.sizeOf x < m → SzOk2 x := by
  induction m with
  | zero => intro x h; omega
  | succ m ih =>
    intro x h
    match x, h with
    | .mk s n o id ks, h => exact szSel_step2 s n o id ks fun i hi => ih _ (by have := sth_lt ks i hi; simp at h; omega)
theorem szSel_two (x : Se) : SzOk2 x := sz_all2 _ x (Nat.lt_succ_self _)
end Go.Proofs.YtgcfgadkclfonaaGreatDoor

namespace Go.Proofs.YtgcfgadkclfonaaGreatDoor
set_option linter.unusedSimpArgs false
set_option linter.unusedVariables false
open Go.RowKit Go.Shelf Go.Maps

theorem seN_apart {w : World} {P : Nat → Prop} (hF : ∀ b, P b → ∀ a : Addr, a.block = b → w.frozen? a = false) : ∀ {f : Nat} {x : Se} {v : Value}, SeN w P f x v → SeN w (fun b => P b ∧ Apart w b) f x v
  | 0, _, _, h => h.elim
  | f + 1, x, v, h => by
    obtain ⟨ka, kc, C, h1, h2, h3, h4, hA, hr⟩ := h
    refine ⟨ka, kc, C, h1, h2, h3, h4, fun hl => ?_, fun i hi => seN_apart hF (hr i hi)⟩
    obtain ⟨b, off, e, hb, hc⟩ := hA hl
    exact ⟨b, off, e, ⟨hb, Apart.of_cell (hc 0 hl 0 (by omega)) (hF b hb)⟩, hc⟩
theorem seReps_apart {w : World} {P : Nat → Prop} {ks : List Se} {a : Option Addr} (hF : ∀ b, P b → ∀ a : Addr, a.block = b → w.frozen? a = false) (h : SeReps w P ks a) : SeReps w (fun b => P b ∧ Apart w b) ks a := by
  obtain ⟨h0, C, hA, hr⟩ := h
  refine ⟨h0, C, fun hl => ?_, fun i hi => ?_⟩
  · obtain ⟨b, off, e, hb, hc⟩ := hA hl
    exact ⟨b, off, e, ⟨hb, Apart.of_cell (hc 0 hl 0 (by omega)) (hF b hb)⟩, hc⟩
  · obtain ⟨f, hf⟩ := hr i hi
    exact ⟨f, seN_apart hF hf⟩
/-- What was copied may be handed on. -/
theorem askIn_copied {f : Nat} {ks : List Se} {a : Option Addr} {N : Nat} {w : World} (hf : FitS f ks) (hs : SmallS f ks) (hfew : f ≤ 1000000000) (hR : SeReps w (fun b => N ≤ b ∧ b < w.heap.size) ks a) (hN : NF N w) (hT : Tab w.heap.size w) :
    AskIn f ks (fun b => (N ≤ b ∧ b < w.heap.size) ∧ Apart w b) w.heap.size a w :=
  ⟨hf, hs, hfew, seReps_apart (fun b hb a ha => hN a (by omega)) hR, fun b hb => ⟨hb.1.2, hb.2⟩, Nat.le_refl _, hT⟩
end Go.Proofs.YtgcfgadkclfonaaGreatDoor
