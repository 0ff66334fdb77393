/-
  The laws' marks on types and parts.
-/
import Derived.Test.YtcpflkbbjlonbaaMPart
namespace Go.Proofs.Ytcpflkbbjlonbaa
set_option linter.unusedSimpArgs false
set_option linter.unusedVariables false
open Go.RowKit

theorem markFieldS_int (fs : List F) (c : Nat) (t : Int) (lo hi : Nat) (a : Option Addr) (w : World) (hw : WFs w lo hi fs a) (hl : fs.length ≤ 1048576) (hn : ∀ i, (fth fs i).needs.length ≤ 1048576) (h0 : 0 ≤ t) (h1 : ∀ i, i ≤ fs.length → t + mFs fs i ≤ 1000000000000) :
    Calls Try.prog 54 #[.slice a fs.length c, .int .i64 t] w fun e w' => e = .returned (.int .i64 (t + mFs fs fs.length)) ∧ Marked lo hi w w' := by
  have h := markFieldS_any fs c t.toNat lo hi a w hw hl hn (fun i hi => by have := h1 i hi; omega)
  rw [show ((t.toNat : Nat) : Int) = t by omega, show (((t.toNat + mFs fs fs.length : Nat)) : Int) = t + mFs fs fs.length by omega] at h
  exact h

/-- A list of types that may be written, within a range of blocks. -/
def WTs (w : World) (lo hi : Nat) (ts : List T) (a : Option Addr) : Prop := 0 < ts.length → ∃ b off, a = some ⟨b, off, none⟩ ∧ lo ≤ b ∧ b < hi ∧ ∀ i, i < ts.length →
  TextAt w ⟨b, off + i * 3, none⟩ ∧ TextAt w ⟨b, off + i * 3 + 1, none⟩ ∧ ∃ fa fc, w.cell? ⟨b, off + i * 3 + 2, none⟩ = some (.slice fa (tth ts i).fields.length fc) ∧ WFs w lo hi (tth ts i).fields fa
theorem WTs.keep {lo hi lo' hi' : Nat} {ts : List T} {w w' : World} {a : Option Addr} (h : WTs w lo hi ts a) (m : Marked lo' hi' w w') : WTs w' lo hi ts a := fun hn => by
  obtain ⟨b, off, e, h1, h2, hc⟩ := h hn
  refine ⟨b, off, e, h1, h2, fun i hi => ?_⟩
  obtain ⟨x0, x1, fa, fc, x2, x3⟩ := hc i hi
  exact ⟨x0.keep m, x1.keep m, fa, fc, m.list _ _ _ _ x2, x3.keep m⟩

/-- How many marks types take. -/
def mTs (ts : List T) : Nat → Nat
  | 0 => 0
  | n + 1 => mTs ts n + 2 + mFs (tth ts n).fields (tth ts n).fields.length
theorem mFs_le (fs : List F) : ∀ i n, i ≤ n → mFs fs i ≤ mFs fs n := fun i n h => by
  induction h with
  | refl => exact Nat.le_refl _
  | step h ih => exact Nat.le_trans ih (by show _ ≤ mFs fs _ + 7 + _; omega)

set_option maxRecDepth 20000 in
set_option maxHeartbeats 3200000 in
theorem markTypeS_any (ts : List T) (c k lo hi : Nat) (a : Option Addr) (w : World) (hw : WTs w lo hi ts a) (hl : ts.length ≤ 1048576) (hf : ∀ i, (tth ts i).fields.length ≤ 1048576) (hn : ∀ i j, (fth (tth ts i).fields j).needs.length ≤ 1048576) (hk : ∀ i, i ≤ ts.length → k + mTs ts i ≤ 1000000000000) :
    Calls Try.prog 35 #[.slice a ts.length c, .int .i64 k] w fun e w' => e = .returned (.int .i64 ((k + mTs ts ts.length : Nat) : Int)) ∧ Marked lo hi w w' := by
  go_enter Try.func35, Try.ntmps35
  go_wp2_with fail
  go_loopw [1, 5] (fun kk i wr => ∃ j : Nat, j ≤ ts.length ∧ kk = .int .i64 ((k + mTs ts j : Nat) : Int) ∧ i = .int .i64 j ∧ Marked lo hi w wr) (fun _ i _ => ts.length - (intOf i).toNat)
  case atStart => exact ⟨0, Nat.zero_le _, rfl, rfl, Marked.refl _ _ _⟩
  case round =>
    obtain ⟨j, hj, rfl, rfl, hm⟩ := hrel
    obtain ⟨w0, rfl⟩ : ∃ x, x = wr := ⟨wr, rfl⟩
    by_cases hlt : j < ts.length
    · obtain ⟨b, off, rfl, h1, h2, hcc⟩ := (hw.keep hm) (by omega)
      obtain ⟨x0, x1, fa, fc, x2, x3⟩ := hcc j hlt
      clear hcc
      have hji : (j : Int) < (ts.length : Int) := by omega
      have hkj := hk (j + 1) (by omega)
      have HK : Hid (mTs ts (j + 1) = mTs ts j + 2 + mFs (tth ts j).fields (tth ts j).fields.length) := rfl
      rw [HK.out] at hkj
      generalize mTs ts j = mj at hkj HK
      obtain ⟨K, hKe⟩ : ∃ K : Int, K = ((k + mj : Nat) : Int) := ⟨_, rfl⟩
      have hK0 : 0 ≤ K := by omega
      have hK1 : K + 2 + mFs (tth ts j).fields (tth ts j).fields.length ≤ 1000000000000 := by omega
      have HKE : Hid (K = ((k + mj : Nat) : Int)) := hKe
      rw [← hKe]
      clear hKe
      have hB1 : Hid (lo ≤ b ∧ b < hi) := ⟨h1, h2⟩
      have HX : Hid (TextAt w0 ⟨b, off + j * 3, none⟩ ∧ TextAt w0 ⟨b, off + j * 3 + 1, none⟩ ∧ w0.cell? ⟨b, off + j * 3 + 2, none⟩ = some (.slice fa (tth ts j).fields.length fc) ∧ WFs w0 lo hi (tth ts j).fields fa) := ⟨x0, x1, x2, x3⟩
      clear x0 x1 x2 x3 h1 h2
      go_wp2_with fail
      refine (markText_int K w0 hK0 (by omega)).mono ?_
      rintro e w1 ⟨rfl, hb1⟩
      have m1 := Marked.of_below lo hi hb1
      obtain ⟨⟨s0, t0⟩, f0⟩ := HX.out.1.keep m1
      have m1' := m1.trans (Marked.set_text t0 hB1.out.1 hB1.out.2 (mtext K.toNat))
      generalize mtext K.toNat = mt0 at m1' ⊢
      go_wp2_with fail
      obtain ⟨W1, hW1⟩ : ∃ W, W = w1.setCell ⟨b, off + j * 3, none⟩ (.string mt0) := ⟨_, rfl⟩
      rw [← hW1] at m1' ⊢
      clear hW1 t0 f0 m1 hb1
      refine (markText_int (K + 1) W1 (by omega) (by omega)).mono ?_
      rintro e w2 ⟨rfl, hb2⟩
      have m2 := m1'.trans (Marked.of_below lo hi hb2)
      obtain ⟨⟨s1, t1⟩, f1⟩ := HX.out.2.1.keep m2
      generalize mtext (K + 1).toNat = mt1
      have m3 := m2.trans (Marked.set_text t1 hB1.out.1 hB1.out.2 mt1)
      have q2 := m3.list _ _ _ _ HX.out.2.2.1
      have H8 : Hid (WFs _ lo hi (tth ts j).fields fa) := HX.out.2.2.2.keep m3
      clear m1' hb2 m2
      go_wp2_with fail
      refine (markFieldS_int (tth ts j).fields fc (K + 1 + 1) lo hi fa _ H8.out (hf j) (hn j) (by omega) (fun i hi => by have := mFs_le (tth ts j).fields i _ hi; omega)).mono ?_
      rintro e w5 ⟨rfl, m5⟩
      have hfin : Hid (K + 1 + 1 + (mFs (tth ts j).fields (tth ts j).fields.length : Nat) = ((k + mTs ts (j + 1) : Nat) : Int)) := by show _ = _; rw [HK.out, HKE.out]; omega
      have m6 := hm.trans (m3.trans m5)
      clear q2 t1 f1 m3 m5
      go_wp2_with fail
      go_roundw
      case rel => exact ⟨j + 1, by omega, by rw [← hfin.out], by go_num, m6⟩
      case measure => simp [intOf]; omega
    · go_wp2_with fail
      go_ret
      have e : j = ts.length := by omega
      exact ⟨by rw [e]; rfl, hm⟩

/-- A part's fields and types are no more than its size. -/
theorem mFs_sz (fs : List F) : ∀ n, mFs fs n ≤ 8 * szFsTo fs n + 7 * n
  | 0 => by simp [mFs]
  | n + 1 => by
    rw [mFs, szFsTo_succ]
    have := mFs_sz fs n
    have h : (fth fs n).needs.length ≤ szF (fth fs n) := by simp only [szF, szNs]; omega
    omega
theorem mTs_sz (ts : List T) : ∀ n, mTs ts n ≤ 8 * szTsTo ts n + 2 * n
  | 0 => by simp [mTs]
  | n + 1 => by
    rw [mTs, szTsTo_succ]
    have := mTs_sz ts n
    have h1 := mFs_sz (tth ts n).fields (tth ts n).fields.length
    have h2 : szT (tth ts n) = (tth ts n).name.size + (tth ts n).key.size + ((tth ts n).fields.length + szFsTo (tth ts n).fields (tth ts n).fields.length) := rfl
    omega
theorem szFsTo_mono (fs : List F) : ∀ i n, i ≤ n → szFsTo fs i ≤ szFsTo fs n := fun i n h => by
  induction h with
  | refl => exact Nat.le_refl _
  | step h ih => exact Nat.le_trans ih (by rw [szFsTo_succ]; omega)
theorem szTsTo_mono (ts : List T) : ∀ i n, i ≤ n → szTsTo ts i ≤ szTsTo ts n := fun i n h => by
  induction h with
  | refl => exact Nat.le_refl _
  | step h ih => exact Nat.le_trans ih (by rw [szTsTo_succ]; omega)
theorem needs_small (fs : List F) (h : szFs fs ≤ 1048576) (j : Nat) : (fth fs j).needs.length ≤ 1048576 := by
  by_cases hj : j < fs.length
  · have h1 := szFsTo_mono fs (j + 1) fs.length hj
    rw [szFsTo_succ] at h1
    have h2 : (fth fs j).needs.length ≤ szF (fth fs j) := by simp only [szF, szNs]; omega
    have h3 : szFs fs = fs.length + szFsTo fs fs.length := rfl
    omega
  · have : fth fs j = F.zero := by simp [fth, List.getD_eq_getElem?_getD, List.getElem?_eq_none (Nat.le_of_not_lt hj)]
    rw [this]; simp [F.zero]
theorem fields_small (ts : List T) (h : szTs ts ≤ 1048576) (i : Nat) : szFs (tth ts i).fields ≤ 1048576 := by
  by_cases hi : i < ts.length
  · have h1 := szTsTo_mono ts (i + 1) ts.length hi
    rw [szTsTo_succ] at h1
    have h2 : szT (tth ts i) = (tth ts i).name.size + (tth ts i).key.size + szFs (tth ts i).fields := rfl
    have h3 : szTs ts = ts.length + szTsTo ts ts.length := rfl
    omega
  · have : tth ts i = T.zero := by simp [tth, List.getD_eq_getElem?_getD, List.getElem?_eq_none (Nat.le_of_not_lt hi)]
    rw [this]; decide

/-- A mark of a whole part: nothing outside of its own memory turns. -/
theorem markPart_any (p : Pt) (c lo hi : Nat) (a : Option Addr) (w : World) (hw : WTs w lo hi p.types a) (hz : szP p ≤ 1048576) :
    Calls Try.prog 14 #[.agg #[.string p.name, .slice a p.types.length c], .int .i64 1] w fun e w' => ∃ x : Nat, e = .returned (.int .i64 (x : Int)) ∧ Marked lo hi w w' := by
  obtain ⟨name, types⟩ := p
  have hs : szTs types ≤ 1048576 := by have : szP ⟨name, types⟩ = name.size + szTs types := rfl; omega
  have hM := fun o => markTypeS_any types c 1 lo hi a (w.alloc o) (hw.keep (Marked.of_below lo hi (below_box w o))) (by have : szTs types = types.length + szTsTo types types.length := rfl; omega)
    (fun i => by have := fields_small types hs i; have h3 : szFs (tth types i).fields = (tth types i).fields.length + szFsTo (tth types i).fields (tth types i).fields.length := rfl; omega)
    (fun i j => needs_small _ (fields_small types hs i) j)
    (fun i hi => by have h1 := mTs_sz types i; have h2 := szTsTo_mono types i _ hi; have h3 : szTs types = types.length + szTsTo types types.length := rfl; omega)
  go_enter Try.func14, Try.ntmps14
  go_wp2_with (
    go_at_call 35
    refine (hM _).mono ?_
    rintro e w1 ⟨rfl, hm1⟩)
  go_ret
  exact ⟨_, rfl, (Marked.of_below lo hi (below_box w _)).trans hm1⟩
end Go.Proofs.Ytcpflkbbjlonbaa
