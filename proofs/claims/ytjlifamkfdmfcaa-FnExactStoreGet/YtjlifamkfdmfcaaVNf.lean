/-
  toValue, once more: the copy may be written.
-/
import Derived.Test.YtjlifamkfdmfcaaCopy2
import Derived.Test.YtjlifamkfdmfcaaNf
namespace Go.Proofs.Ytjlifamkfdmfcaa
set_option linter.unusedSimpArgs false
set_option linter.unusedVariables false
open Go.RowKit

/-- What toValue does with a value, and that it may be written. -/
def CpNf (x : V) : Prop := ∀ (w : World) (B : Nat) (v : Value), Rep w (· < B) x v → B ≤ w.heap.size →
  Calls Try.prog 39 #[v] w fun e w' => ∃ (s n : Int) (t : ByteArray) (na ka : Option Addr) (nl nc kl kc : Nat), e = .returned (.agg #[.int .i64 s, .int .i64 n, .string t, .slice na nl nc, .slice ka kl kc]) ∧ Below w.heap.size w w' ∧
    Rep w' (fun b => w.heap.size ≤ b ∧ b < w'.heap.size) x (.agg #[.int .i64 s, .int .i64 n, .string t, .slice na nl nc, .slice ka kl kc]) ∧ NF w.heap.size w'

set_option maxHeartbeats 400000 in
theorem toValueS_nf (ks : List V) (IH : ∀ i, i < ks.length → CpNf (kth ks i)) (w : World) (B : Nat) (a : Option Addr) (c : Nat) (hK : Kids w (· < B) ks a) (hB : B ≤ w.heap.size) :
    Calls Try.prog 56 #[.slice a ks.length c] w fun e w' => e = .returned (.slice (some ⟨w.heap.size, 0, none⟩) ks.length ks.length) ∧ Below w.heap.size w w' ∧ w.heap.size < w'.heap.size ∧
      Kids w' (fun b => w.heap.size ≤ b ∧ b < w'.heap.size) ks (some ⟨w.heap.size, 0, none⟩) ∧ NF w.heap.size w' := by
  have h3 := hK.1
  obtain ⟨-, b, off, C, hka, hc, hr⟩ := hK
  have hmk := run_make_any (P := Try.prog) 25 27 zeroV #[.int .i64 0, .int .i64 0, .string ByteArray.empty, .slice none 0 0, .slice none 0 0] rfl 5 80 Try.underlying25 info30 .i64 .i64 ks.length h3 (by omega)
  go_enter Try.func56, Try.ntmps56
  go_wp2_with fail
  go_loopw [4] (fun i wr => ∃ (k : Nat) (F : Nat → Value), k ≤ ks.length ∧ i = .int .i64 k ∧ Below w.heap.size w wr ∧ wr.rowIs w.heap.size 27 (ks.length * 5) F ∧
      (∀ i, i < k → Rep wr (fun b => w.heap.size < b ∧ b < wr.heap.size) (kth ks i) (.agg #[F (i * 5), F (i * 5 + 1), F (i * 5 + 2), F (i * 5 + 3), F (i * 5 + 4)])) ∧ NF w.heap.size wr) (fun i _ => ks.length - (intOf i).toNat)
  case atStart =>
    refine ⟨0, fun i => (madeCells #[Value.int .i64 0, .int .i64 0, .string ByteArray.empty, .slice none 0 0, .slice none 0 0] (ks.length * 5))[i]?.getD undef, Nat.zero_le _, rfl, (Below.refl _ _).alloc (Nat.le_refl _) _, ?_, fun i hi => by omega, (NF.new w).alloc _ _⟩
    have h := World.rowIs_alloc w (madeCells #[Value.int .i64 0, .int .i64 0, .string ByteArray.empty, .slice none 0 0, .slice none 0 0] (ks.length * 5)) 27 (fun i => (madeCells #[Value.int .i64 0, .int .i64 0, .string ByteArray.empty, .slice none 0 0, .slice none 0 0] (ks.length * 5))[i]?.getD undef) (fun i hi => by simp [hi])
    rw [size_madeCells] at h
    exact h
  case round =>
    obtain ⟨k, F, hk, rfl, hbel, hrow, hreps, hnf⟩ := hrel
    have HNF : Hid (NF w.heap.size wr) := hnf
    clear hnf
    by_cases hlt : k < ks.length
    · obtain ⟨rfl, hbB⟩ := hka (by intro e; simp [e] at hlt)
      have hck : ∀ j, j < 5 → wr.cell? ⟨b, off + k * 5 + j, none⟩ = some (C k j) := fun j hj => (hbel.cell (p := ⟨b, off + k * 5 + j, none⟩) (by show b < _; omega)).trans (hc k hlt j hj)
      have hc0 : wr.cell? ⟨b, off + k * 5, none⟩ = some (C k 0) := hck 0 (by omega)
      have hc1 := hck 1 (by omega)
      have hc2 := hck 2 (by omega)
      have hc3 := hck 3 (by omega)
      have hc4 := hck 4 (by omega)
      clear hck hc
      have hlt5 : k * 5 + 4 < ks.length * 5 := by omega
      go_wp2_with (
        go_at_call 39
        refine (IH k hlt _ B _ ((hr k hlt).under (hbel.mono hB)) (by have := hbel.size; omega)).mono ?_
        rintro e w1 ⟨s, n, t, na, ka, nl, nc, kl, kc, rfl, hby, hry, hnf1⟩
        have HN1 : Hid (NF w.heap.size w1) := NF.call HNF.out hby hnf1
        clear hnf1
        have hrow1 := hrow.of_block (hby.block _ hrow.lt)
        have q0 : w1.cell? ⟨w.heap.size, k * 5, none⟩ = some (F (k * 5)) := hrow1.cell (by omega)
        have q1 : w1.cell? ⟨w.heap.size, k * 5 + 1, none⟩ = some (F (k * 5 + 1)) := hrow1.cell (by omega)
        have q2 : w1.cell? ⟨w.heap.size, k * 5 + 2, none⟩ = some (F (k * 5 + 2)) := hrow1.cell (by omega)
        have q3 : w1.cell? ⟨w.heap.size, k * 5 + 3, none⟩ = some (F (k * 5 + 3)) := hrow1.cell (by omega)
        have q4 : w1.cell? ⟨w.heap.size, k * 5 + 4, none⟩ = some (F (k * 5 + 4)) := hrow1.cell (by omega)
        have z0 : ∀ j, w1.frozen? ⟨w.heap.size, j, none⟩ = false := fun j => hrow1.frozen j)
      go_roundw
      case rel =>
        obtain ⟨G, hG, ⟨g0, g1, g2, g3, g4⟩, hGF⟩ := put5_row hrow1 (k * 5) (.int .i64 s) (.int .i64 n) (.string t) (.slice na nl nc) (.slice ka kl kc)
        have hs1 := hbel.size
        have hs2 := hby.size
        have hs3 := hrow.lt
        refine ⟨k + 1, G, by omega, by go_num, put5_below (hbel.trans (hby.mono hs1)) (Nat.le_refl _) _ _ _ _ _ _, hG, fun i hi => ?_, ((((HN1.out.set _ _).set _ _).set _ _).set _ _).set _ _⟩
        by_cases e1 : i = k
        · subst e1
          rw [g0, g1, g2, g3, g4]
          refine (hry.mono fun b hb => put5_block w1 _ _ _ _ _ _ _ b (by omega)).sub fun b hb => ⟨by omega, ?_⟩
          have := put5_size w1 w.heap.size (i * 5) (.int .i64 s) (.int .i64 n) (.string t) (.slice na nl nc) (.slice ka kl kc)
          show b < (put5 w1 w.heap.size (i * 5) (.int .i64 s) (.int .i64 n) (.string t) (.slice na nl nc) (.slice ka kl kc)).heap.size
          omega
        · rw [hGF _ (by omega), hGF _ (by omega), hGF _ (by omega), hGF _ (by omega), hGF _ (by omega)]
          refine ((hreps i (by omega)).mono fun b hb => (put5_block w1 _ _ _ _ _ _ _ b (by omega)).trans (hby.block b hb.2)).sub fun b hb => ⟨hb.1, ?_⟩
          have := put5_size w1 w.heap.size (k * 5) (.int .i64 s) (.int .i64 n) (.string t) (.slice na nl nc) (.slice ka kl kc)
          show b < (put5 w1 w.heap.size (k * 5) (.int .i64 s) (.int .i64 n) (.string t) (.slice na nl nc) (.slice ka kl kc)).heap.size
          omega
      case measure => simp [intOf]; omega
    · go_wp2_with fail
      go_ret
      have e : k = ks.length := by omega
      subst e
      refine ⟨rfl, hbel, hrow.lt, ⟨h3, w.heap.size, 0, fun i j => F (i * 5 + j), fun _ => ⟨rfl, Nat.le_refl _, hrow.lt⟩, fun i hi j hj => ?_, fun i hi => (hreps i hi).sub fun b hb => ⟨by omega, hb.2⟩⟩, HNF.out⟩
      have := hrow.cell (i := i * 5 + j) (by omega)
      simpa using this
set_option maxHeartbeats 800000 in
theorem toValue_nfstep (s n : Int) (t : ByteArray) (ns : List ByteArray) (ks : List V) (IH : ∀ i, i < ks.length → CpNf (kth ks i)) : CpNf (.mk s n t ns ks) := by
  intro w B v hR hB
  obtain ⟨na, ka, nc, kc, rfl, hs, hns, ht, hbs, hK⟩ := hR.inv
  clear hR
  have hb3 : ∀ o1 o2 o3, Below w.heap.size w (((w.alloc o1).alloc o2).alloc o3) := fun o1 o2 o3 => (((Below.refl _ _).alloc (Nat.le_refl _) _).alloc (by simp) _).alloc (by simp; omega) _
  go_enter Try.func39, Try.ntmps39
  go_wp2_with (first
    | (
      go_at_call 55
      refine (toStringS_nf ns na nc _ ((hs.under ((hb3 _ _ _).mono hB)).sub fun k hk => by simp; omega) hbs).mono ?_
      rintro e w1 ⟨rfl, hb1, hsz1, hst1, hnf1⟩
      have HN1 : Hid (NF w.heap.size w1) := NF.call (NF.three w _ _ _ _ _ _) hb1 hnf1
      clear hnf1
      obtain ⟨c1, f1⟩ := bcell hb1
      simp at hsz1
      have hlt1 : w.heap.size + 1 + 1 < w1.heap.size := by omega)
    | (
      go_at_call 56
      have hbw : Below w.heap.size w w1 := (hb3 _ _ _).trans (hb1.mono (by simp; omega))
      refine (toValueS_nf ks IH _ B ka kc (hK.under ((hbw.setCell (by show w.heap.size ≤ w.heap.size + 1 + 1; omega) _).mono hB)) (by simp [World.setCell]; omega)).mono ?_
      rintro e w2 ⟨rfl, hb2, hsz2, hkd2, hnf2⟩
      have HN2 : Hid (NF w.heap.size w2) := NF.call (HN1.out.set _ _) hb2 hnf2
      clear hnf2
      obtain ⟨c2, f2⟩ := bcell hb2
      simp [World.setCell] at hsz2
      have hlt2 : w.heap.size + 1 + 1 < w2.heap.size := by omega))
  have hbw : Below w.heap.size w w1 := (hb3 _ _ _).trans (hb1.mono (by simp; omega))
  have fin := cp_end (w := w) (w1 := w1) (w2 := w2) (s := s) (n := n) (t := t) (ns := ns) (ks := ks) (x := .slice (some ⟨w.heap.size + 1 + 1 + 1, 0, none⟩) ns.length ns.length) (y := .slice (some ⟨w.heap.size + 1 + 1 + 1 + 1, 0, none⟩) ks.length ks.length) (N := w.heap.size) rfl hbw hsz1 (by simpa using hst1) (by simpa [World.setCell] using hb2) hsz2 (by simpa [World.setCell] using hkd2) ht hbs (.int .i64 s) (.int .i64 n) (.string t) (.slice (some ⟨w.heap.size + 1 + 1 + 1, 0, none⟩) ns.length ns.length) (.slice (some ⟨w.heap.size + 1 + 1 + 1 + 1, 0, none⟩) ks.length ks.length)
  refine bodyPost_ret (v := .agg #[.int .i64 s, .int .i64 n, .string t, .slice (some ⟨w.heap.size + 1 + 1 + 1, 0, none⟩) ns.length ns.length, .slice (some ⟨w.heap.size + 1 + 1 + 1 + 1, 0, none⟩) ks.length ks.length]) ?res rfl ⟨s, n, t, _, _, _, _, _, _, rfl, fin.1, fin.2, (((((HN2.out.set _ _).set _ _).set _ _).set _ _).set _ _).set _ _⟩
  case res =>
    have hr0 : ∀ o1 o3 c, ((((w.alloc o1).alloc (.cells c 27)).alloc o3)).rowIs (w.heap.size + 1) 27 c.size (fun i => c[i]?.getD undef) := fun o1 o3 c => by
      have h := ((w.alloc o1).rowIs_alloc c 27 (fun i => c[i]?.getD undef) (fun i hi => by simp [hi])).alloc o3
      simpa using h
    have hr1 := (hr0 _ _ _).of_block (hb1.block (w.heap.size + 1) (by simp))
    have hr2 := (hr1.setOther (a := ⟨w.heap.size + 1 + 1, 3, none⟩) (by show w.heap.size + 1 ≠ w.heap.size + 1 + 1; omega) (.slice (some ⟨w.heap.size + 1 + 1 + 1, 0, none⟩) ns.length ns.length)).of_block (hb2.block (w.heap.size + 1) (by simp [World.setCell]; omega))
    have p0 := hr2.cell (i := 0) (by simp)
    have p1 := hr2.cell (i := 1) (by simp)
    have p2 := hr2.cell (i := 2) (by simp)
    have p3 := hr2.cell (i := 3) (by simp)
    have p4 := hr2.cell (i := 4) (by simp)
    clear fin hkd2 hst1 hK hs IH c1 c2 f1 f2 hb1 hb2 hr0 hr1 hr2
    simp [results, Try.results39, go_sem, p0, p1, p2, p3, p4]

theorem cpnf_all (m : Nat) : ∀ x : V, SizeOf.sizeOf x < m → CpNf x := by
  induction m with
  | zero => intro x h; omega
  | succ m ih =>
    intro x h
    match x, h with
    | .mk s n t ns ks, h => exact toValue_nfstep s n t ns ks fun i hi => ih _ (by have := kth_lt ks i hi; simp at h; omega)
theorem toValue_nf (x : V) : CpNf x := cpnf_all _ x (Nat.lt_succ_self _)
end Go.Proofs.Ytjlifamkfdmfcaa
