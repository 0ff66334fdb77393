/-
  The laws' marks on fields, types and parts.
-/
import Derived.Test.YtcpflkbbjlonbaaMStrs
import Derived.Test.YtcpflkbbjlonbaaPRep
namespace Go.Proofs.Ytcpflkbbjlonbaa
set_option linter.unusedSimpArgs false
set_option linter.unusedVariables false
open Go.RowKit

theorem Marked.set_flags {lo hi b : Nat} (h1 : lo ≤ b) (h2 : b < hi) : ∀ (ps : List (Nat × Bool)) {w W : World}, Marked lo hi w W → (∀ p ∈ ps, FlagAt W ⟨b, p.1, none⟩) → Marked lo hi w (ps.foldl (fun W p => W.setCell ⟨b, p.1, none⟩ (.bool p.2)) W)
  | [], w, W, m, _ => m
  | p :: ps, w, W, m, h => by
    obtain ⟨⟨v, hv⟩, hf⟩ := h p (List.mem_cons_self ..)
    have m1 := Marked.set_flag (lo := lo) (hi := hi) hv h1 h2 p.2
    exact Marked.set_flags h1 h2 ps (m.trans m1) (fun q hq => (h q (List.mem_cons_of_mem _ hq)).keep m1)

theorem markText_int (t : Int) (w : World) (h0 : 0 ≤ t) (h1 : t ≤ 1000000000000000) :
    Calls Try.prog 39 #[.int .i64 t] w fun e w' => e = .returned (.string (mtext t.toNat)) ∧ Below w.heap.size w w' := by
  have h := markText_any t.toNat w (by omega)
  rw [show ((t.toNat : Nat) : Int) = t by omega] at h
  exact h
theorem markStringS_int (n c : Nat) (t : Int) (lo hi : Nat) (a : Option Addr) (w : World) (hw : WStrs w lo hi n a) (hn : n ≤ 1048576) (h0 : 0 ≤ t) (h1 : t ≤ 1000000000000) :
    Calls Try.prog 20 #[.slice a n c, .int .i64 t] w fun e w' => e = .returned (.int .i64 (t + n)) ∧ Marked lo hi w w' := by
  have h := markStringS_any n c t.toNat lo hi a w hw hn (by omega)
  rw [show ((t.toNat : Nat) : Int) = t by omega, show (((t.toNat + n : Nat)) : Int) = t + n by omega] at h
  exact h.mono fun e w' ⟨x, y, _⟩ => ⟨x, y⟩

theorem markField_any (f0 f1 : Value) (l m fr hi' sh : Value) (n c k lo hi : Nat) (a : Option Addr) (w : World) (hw : WStrs w lo hi n a) (hn : n ≤ 1048576) (hk : k ≤ 1000000000000) :
    Calls Try.prog 15 #[.agg #[f0, f1, l, m, fr, hi', sh, .slice a n c], .int .i64 k] w fun e w' => e = .returned (.int .i64 ((k + n : Nat) : Int)) ∧ Marked lo hi w w' ∧ (∀ b off, a = some ⟨b, off, none⟩ → ∀ i, i < n → w'.cell? ⟨b, off + i, none⟩ = some (.string (mtext (k + i)))) := by
  have hM := fun o => markStringS_any n c k lo hi a (w.alloc o) (hw.keep (Marked.of_below lo hi (below_box w o))) hn hk
  go_enter Try.func15, Try.ntmps15
  go_wp2_with (
    go_at_call 20
    refine (hM _).mono ?_
    rintro e w1 ⟨rfl, hm1, hc1⟩)
  go_ret
  exact ⟨rfl, (Marked.of_below lo hi (below_box w _)).trans hm1, hc1⟩

theorem heldField_any (f0 f1 : Value) (l m fr hi' sh : Value) (n c k : Nat) (a : Option Addr) (w : World) (ha : 0 < n → ∃ b off, a = some ⟨b, off, none⟩ ∧ ∀ i, i < n → w.cell? ⟨b, off + i, none⟩ = some (.string (mtext (k + i)))) (hn : n ≤ 1048576) (hk : k ≤ 1000000000000) :
    Calls Try.prog 16 #[.agg #[f0, f1, l, m, fr, hi', sh, .slice a n c], .int .i64 k] w fun e w' => e = .returned (.int .i64 ((k + n : Nat) : Int)) ∧ Below w.heap.size w w' := by
  have hH := fun o => heldStringS_any n c k a (w.alloc o) (fun h => by
    obtain ⟨b, off, e, hc⟩ := ha h
    exact ⟨b, off, e, fun i hi => ((below_box w o).cell (cell_block (hc i hi))).trans (hc i hi)⟩) hn hk
  have h0 : ¬ ((k + n : Nat) : Int) < 0 := by omega
  go_enter Try.func16, Try.ntmps16
  go_wp2_with (
    go_at_call 21
    refine (hH _).mono ?_
    rintro e w1 ⟨rfl, hb1⟩)
  go_ret
  exact ⟨rfl, (below_box w _).trans (hb1.mono (by simp))⟩

/-- A list of fields that may be written, within a range of blocks. -/
def WFs (w : World) (lo hi : Nat) (fs : List F) (a : Option Addr) : Prop := 0 < fs.length → ∃ b off, a = some ⟨b, off, none⟩ ∧ lo ≤ b ∧ b < hi ∧ ∀ i, i < fs.length →
  TextAt w ⟨b, off + i * 8, none⟩ ∧ TextAt w ⟨b, off + i * 8 + 1, none⟩ ∧ FlagAt w ⟨b, off + i * 8 + 2, none⟩ ∧ FlagAt w ⟨b, off + i * 8 + 3, none⟩ ∧ FlagAt w ⟨b, off + i * 8 + 4, none⟩ ∧ FlagAt w ⟨b, off + i * 8 + 5, none⟩ ∧ FlagAt w ⟨b, off + i * 8 + 6, none⟩ ∧
  ∃ na nc, w.cell? ⟨b, off + i * 8 + 7, none⟩ = some (.slice na (fth fs i).needs.length nc) ∧ WStrs w lo hi (fth fs i).needs.length na
theorem WFs.keep {lo hi lo' hi' : Nat} {fs : List F} {w w' : World} {a : Option Addr} (h : WFs w lo hi fs a) (m : Marked lo' hi' w w') : WFs w' lo hi fs a := fun hn => by
  obtain ⟨b, off, e, h1, h2, hc⟩ := h hn
  refine ⟨b, off, e, h1, h2, fun i hi => ?_⟩
  obtain ⟨x0, x1, x2, x3, x4, x5, x6, na, nc, x7, x8⟩ := hc i hi
  exact ⟨x0.keep m, x1.keep m, x2.keep m, x3.keep m, x4.keep m, x5.keep m, x6.keep m, na, nc, m.list _ _ _ _ x7, x8.keep m⟩

/-- How many marks fields take. -/
def mFs (fs : List F) : Nat → Nat
  | 0 => 0
  | n + 1 => mFs fs n + 7 + (fth fs n).needs.length

set_option maxRecDepth 20000 in
set_option maxHeartbeats 3200000 in
theorem markFieldS_any (fs : List F) (c k lo hi : Nat) (a : Option Addr) (w : World) (hw : WFs w lo hi fs a) (hl : fs.length ≤ 1048576) (hn : ∀ i, (fth fs i).needs.length ≤ 1048576) (hk : ∀ i, i ≤ fs.length → k + mFs fs i ≤ 1000000000000) :
    Calls Try.prog 54 #[.slice a fs.length c, .int .i64 k] w fun e w' => e = .returned (.int .i64 ((k + mFs fs fs.length : Nat) : Int)) ∧ Marked lo hi w w' := by
  go_enter Try.func54, Try.ntmps54
  go_wp2_with fail
  go_loopw [1, 5] (fun kk i wr => ∃ j : Nat, j ≤ fs.length ∧ kk = .int .i64 ((k + mFs fs j : Nat) : Int) ∧ i = .int .i64 j ∧ Marked lo hi w wr) (fun _ i _ => fs.length - (intOf i).toNat)
  case atStart => exact ⟨0, Nat.zero_le _, rfl, rfl, Marked.refl _ _ _⟩
  case round =>
    obtain ⟨j, hj, rfl, rfl, hm⟩ := hrel
    obtain ⟨w0, rfl⟩ : ∃ x, x = wr := ⟨wr, rfl⟩
    by_cases hlt : j < fs.length
    · obtain ⟨b, off, rfl, h1, h2, hcc⟩ := (hw.keep hm) (by omega)
      obtain ⟨x0, x1, x2, x3, x4, x5, x6, na, nc, x7, x8⟩ := hcc j hlt
      clear hcc
      have hji : (j : Int) < (fs.length : Int) := by omega
      have hkj := hk (j + 1) (by omega)
      have HK : Hid (mFs fs (j + 1) = mFs fs j + 7 + (fth fs j).needs.length) := rfl
      rw [HK.out] at hkj
      generalize mFs fs j = mj at hkj HK
      obtain ⟨K, hKe⟩ : ∃ K : Int, K = ((k + mj : Nat) : Int) := ⟨_, rfl⟩
      have hK0 : 0 ≤ K := by omega
      have hK1 : K + 7 + (fth fs j).needs.length ≤ 1000000000000 := by omega
      have HKE : Hid (K = ((k + mj : Nat) : Int)) := hKe
      rw [← hKe]
      clear hKe
      have hB1 : Hid (lo ≤ b ∧ b < hi) := ⟨h1, h2⟩
      have HX : Hid (TextAt w0 ⟨b, off + j * 8, none⟩ ∧ TextAt w0 ⟨b, off + j * 8 + 1, none⟩ ∧ FlagAt w0 ⟨b, off + j * 8 + 2, none⟩ ∧ FlagAt w0 ⟨b, off + j * 8 + 3, none⟩ ∧ FlagAt w0 ⟨b, off + j * 8 + 4, none⟩ ∧ FlagAt w0 ⟨b, off + j * 8 + 5, none⟩ ∧ FlagAt w0 ⟨b, off + j * 8 + 6, none⟩ ∧ w0.cell? ⟨b, off + j * 8 + 7, none⟩ = some (.slice na (fth fs j).needs.length nc) ∧ WStrs w0 lo hi (fth fs j).needs.length na) := ⟨x0, x1, x2, x3, x4, x5, x6, x7, x8⟩
      clear x0 x1 x2 x3 x4 x5 x6 x7 x8 h1 h2
      go_wp2_with fail
      refine (markText_int K w0 hK0 (by omega)).mono ?_
      rintro e w1 ⟨rfl, hb1⟩
      have m1 := Marked.of_below lo hi hb1
      obtain ⟨⟨s0, t0⟩, f0⟩ := HX.out.1.keep m1
      have m1' := m1.trans (Marked.set_text t0 hB1.out.1 hB1.out.2 (mtext K.toNat))
      generalize mtext K.toNat = mt0 at m1' ⊢
      go_wp2_with fail
      obtain ⟨W1, hW1⟩ : ∃ W, W = w1.setCell ⟨b, off + j * 8, none⟩ (.string mt0) := ⟨_, rfl⟩
      rw [← hW1] at m1' ⊢
      clear hW1 t0 f0 m1 hb1
      refine (markText_int (K + 1) W1 (by omega) (by omega)).mono ?_
      rintro e w2 ⟨rfl, hb2⟩
      have m2 := m1'.trans (Marked.of_below lo hi hb2)
      obtain ⟨⟨s1, t1⟩, f1⟩ := HX.out.2.1.keep m2
      generalize mtext (K + 1).toNat = mt1
      have m3 := m2.trans (Marked.set_text t1 hB1.out.1 hB1.out.2 mt1)
      obtain ⟨W2, hW2⟩ : ∃ W, W = w2.setCell ⟨b, off + j * 8 + 1, none⟩ (.string mt1) := ⟨_, rfl⟩
      rw [← hW2] at m3
      obtain ⟨⟨v2, q2⟩, g2⟩ := HX.out.2.2.1.keep m3
      obtain ⟨⟨v3, q3⟩, g3⟩ := HX.out.2.2.2.1.keep m3
      obtain ⟨⟨v4, q4⟩, g4⟩ := HX.out.2.2.2.2.1.keep m3
      obtain ⟨⟨v5, q5⟩, g5⟩ := HX.out.2.2.2.2.2.1.keep m3
      obtain ⟨⟨v6, q6⟩, g6⟩ := HX.out.2.2.2.2.2.2.1.keep m3
      have q7 := m3.list _ _ _ _ HX.out.2.2.2.2.2.2.2.1
      rw [hW2] at q2 q3 q4 q5 q6 q7 g2 g3 g4 g5 g6
      have m4 := Marked.set_flags hB1.out.1 hB1.out.2 [(off + j * 8 + 2, (K + 1 + 1) % 3 == 0), (off + j * 8 + 3, (K + 1 + 1 + 1) % 3 == 0), (off + j * 8 + 4, (K + 1 + 1 + 1 + 1) % 3 == 0), (off + j * 8 + 5, (K + 1 + 1 + 1 + 1 + 1) % 3 == 0), (off + j * 8 + 6, (K + 1 + 1 + 1 + 1 + 1 + 1) % 3 == 0)] m3 (fun p hp => by
        simp only [List.mem_cons, List.not_mem_nil, or_false] at hp
        rcases hp with rfl | rfl | rfl | rfl | rfl
        · exact HX.out.2.2.1.keep m3
        · exact HX.out.2.2.2.1.keep m3
        · exact HX.out.2.2.2.2.1.keep m3
        · exact HX.out.2.2.2.2.2.1.keep m3
        · exact HX.out.2.2.2.2.2.2.1.keep m3)
      simp only [List.foldl_cons, List.foldl_nil, hW2] at m4
      have H8 : Hid (WStrs _ lo hi (fth fs j).needs.length na) := HX.out.2.2.2.2.2.2.2.2.keep m4
      clear m1' hb2 m2
      go_wp2_with fail
      refine (markStringS_int (fth fs j).needs.length nc (K + 1 + 1 + 1 + 1 + 1 + 1 + 1) lo hi na _ H8.out (hn j) (by omega) (by omega)).mono ?_
      rintro e w5 ⟨rfl, m5⟩
      have hfin : Hid (K + 1 + 1 + 1 + 1 + 1 + 1 + 1 + (fth fs j).needs.length = ((k + mFs fs (j + 1) : Nat) : Int)) := by show _ = _; rw [HK.out, HKE.out]; omega
      have m6 := hm.trans (m4.trans m5)
      clear q2 q3 q4 q5 q6 q7 g2 g3 g4 g5 g6 t1 f1 m3 m4 m5
      go_wp2_with fail
      go_roundw
      case rel => exact ⟨j + 1, by omega, by rw [← hfin.out], by go_num, m6⟩
      case measure => simp [intOf]; omega
    · go_wp2_with fail
      go_ret
      have e : j = fs.length := by omega
      exact ⟨by rw [e]; rfl, hm⟩
end Go.Proofs.Ytcpflkbbjlonbaa
