/-
  toValue: a copy of a value in new memory, by induction over the value.
-/
import Derived.Test.YtjlifamkfdmfcaaCopy
namespace Go.Proofs.Ytjlifamkfdmfcaa
set_option linter.unusedSimpArgs false
set_option linter.unusedVariables false
open Go.RowKit

/-- What toValue's last steps leave: the result's cells hold what was built. -/
theorem cp_end {w w1 w2 : World} {s n : Int} {t : ByteArray} {ns : List ByteArray} {ks : List V} {x y : Value} {N : Nat} (hN : N = w.heap.size) (hbw : Below N w w1) (hsz1 : w1.heap.size = N + 1 + 1 + 1 + 1)
    (hst1 : Strs w1 (· = N + 1 + 1 + 1) ns (some ⟨N + 1 + 1 + 1, 0, none⟩)) (hb2 : Below w1.heap.size (w1.setCell ⟨N + 1 + 1, 3, none⟩ x) w2) (hlt : w1.heap.size < w2.heap.size)
    (hkd2 : Kids w2 (fun b => w1.heap.size ≤ b ∧ b < w2.heap.size) ks (some ⟨w1.heap.size, 0, none⟩)) (ht : t.size ≤ maxLen) (hbs : 16 * ns.length ≤ 281474976710656) (c0 c1 c2 c3 c4 : Value) :
    Below N w (put5 (w2.setCell ⟨N + 1 + 1, 4, none⟩ y) (N + 1) 0 c0 c1 c2 c3 c4) ∧
    Rep (put5 (w2.setCell ⟨N + 1 + 1, 4, none⟩ y) (N + 1) 0 c0 c1 c2 c3 c4) (fun b => N ≤ b ∧ b < (put5 (w2.setCell ⟨N + 1 + 1, 4, none⟩ y) (N + 1) 0 c0 c1 c2 c3 c4).heap.size) (.mk s n t ns ks)
      (.agg #[.int .i64 s, .int .i64 n, .string t, .slice (some ⟨N + 1 + 1 + 1, 0, none⟩) ns.length ns.length, .slice (some ⟨N + 1 + 1 + 1 + 1, 0, none⟩) ks.length ks.length]) := by
  have hsz : (put5 (w2.setCell ⟨N + 1 + 1, 4, none⟩ y) (N + 1) 0 c0 c1 c2 c3 c4).heap.size = w2.heap.size := by rw [put5_size]; simp [World.setCell]
  have hoff : ∀ b, b ≠ N + 1 → b ≠ N + 1 + 1 → (put5 (w2.setCell ⟨N + 1 + 1, 4, none⟩ y) (N + 1) 0 c0 c1 c2 c3 c4).heap[b]? = w2.heap[b]? := fun b h1 h2 => by
    rw [put5_block _ _ _ _ _ _ _ _ _ h1, Below.heap_setCell _ _ _ _ h2]
  refine ⟨put5_below (((hbw.setCell (by show N ≤ N + 1 + 1; omega) _).trans (hb2.mono (by omega))).setCell (by show N ≤ N + 1 + 1; omega) _) (by omega) _ _ _ _ _ _, ?_⟩
  refine Rep.of_kids ((hst1.mono fun k hk => ?_).sub fun k hk => ?_) (Nat.le_refl _) ht hbs ?_
  · rw [hoff k (by omega) (by omega), hb2.block k (by omega), Below.heap_setCell _ _ _ _ (by show k ≠ N + 1 + 1; omega)]
  · rw [hsz]; omega
  · rw [hsz1] at hkd2
    exact (hkd2.mono fun k hk => hoff k (by omega) (by omega)).sub fun k hk => by rw [hsz]; omega

set_option maxHeartbeats 800000 in
theorem toValue_step (s n : Int) (t : ByteArray) (ns : List ByteArray) (ks : List V) (IH : ∀ i, i < ks.length → CpOk (kth ks i)) : CpOk (.mk s n t ns ks) := by
  intro w B v hR hB
  obtain ⟨na, ka, nc, kc, rfl, hs, hns, ht, hbs, hK⟩ := hR.inv
  clear hR
  have hb3 : ∀ o1 o2 o3, Below w.heap.size w (((w.alloc o1).alloc o2).alloc o3) := fun o1 o2 o3 => (((Below.refl _ _).alloc (Nat.le_refl _) _).alloc (by simp) _).alloc (by simp; omega) _
  go_enter Try.func39, Try.ntmps39
  go_wp2_with (first
    | (
      go_at_call 55
      refine (toStringS_any ns na nc _ ((hs.under ((hb3 _ _ _).mono hB)).sub fun k hk => by simp; omega) hbs).mono ?_
      rintro e w1 ⟨rfl, hb1, hsz1, hst1⟩
      obtain ⟨c1, f1⟩ := bcell hb1
      simp at hsz1
      have hlt1 : w.heap.size + 1 + 1 < w1.heap.size := by omega)
    | (
      go_at_call 56
      have hbw : Below w.heap.size w w1 := (hb3 _ _ _).trans (hb1.mono (by simp; omega))
      refine (toValueS_any ks IH _ B ka kc (hK.under ((hbw.setCell (by show w.heap.size ≤ w.heap.size + 1 + 1; omega) _).mono hB)) (by simp [World.setCell]; omega)).mono ?_
      rintro e w2 ⟨rfl, hb2, hsz2, hkd2⟩
      obtain ⟨c2, f2⟩ := bcell hb2
      simp [World.setCell] at hsz2
      have hlt2 : w.heap.size + 1 + 1 < w2.heap.size := by omega))
  have hbw : Below w.heap.size w w1 := (hb3 _ _ _).trans (hb1.mono (by simp; omega))
  have fin := cp_end (w := w) (w1 := w1) (w2 := w2) (s := s) (n := n) (t := t) (ns := ns) (ks := ks) (x := .slice (some ⟨w.heap.size + 1 + 1 + 1, 0, none⟩) ns.length ns.length) (y := .slice (some ⟨w.heap.size + 1 + 1 + 1 + 1, 0, none⟩) ks.length ks.length) (N := w.heap.size) rfl hbw hsz1 (by simpa using hst1) (by simpa [World.setCell] using hb2) hsz2 (by simpa [World.setCell] using hkd2) ht hbs (.int .i64 s) (.int .i64 n) (.string t) (.slice (some ⟨w.heap.size + 1 + 1 + 1, 0, none⟩) ns.length ns.length) (.slice (some ⟨w.heap.size + 1 + 1 + 1 + 1, 0, none⟩) ks.length ks.length)
  refine bodyPost_ret (v := .agg #[.int .i64 s, .int .i64 n, .string t, .slice (some ⟨w.heap.size + 1 + 1 + 1, 0, none⟩) ns.length ns.length, .slice (some ⟨w.heap.size + 1 + 1 + 1 + 1, 0, none⟩) ks.length ks.length]) ?res rfl ⟨s, n, t, _, _, _, _, _, _, rfl, fin.1, fin.2⟩
  case res =>
    have hr0 : ∀ o1 o3 c, ((((w.alloc o1).alloc (.cells c 27)).alloc o3)).rowIs (w.heap.size + 1) 27 c.size (fun i => c[i]?.getD undef) := fun o1 o3 c => by
      have h := ((w.alloc o1).rowIs_alloc c 27 (fun i => c[i]?.getD undef) (fun i hi => by simp [hi])).alloc o3
      simpa using h
    have hr1 := (hr0 _ _ _).of_block (hb1.block (w.heap.size + 1) (by simp))
    have hr2 := (hr1.setOther (a := ⟨w.heap.size + 1 + 1, 3, none⟩) (by show w.heap.size + 1 ≠ w.heap.size + 1 + 1; omega) (.slice (some ⟨w.heap.size + 1 + 1 + 1, 0, none⟩) ns.length ns.length)).of_block (hb2.block (w.heap.size + 1) (by simp [World.setCell]; omega))
    have p0 := hr2.cell (i := 0) (by simp)
    have p1 := hr2.cell (i := 1) (by simp)
    have p2 := hr2.cell (i := 2) (by simp)
    have p3 := hr2.cell (i := 3) (by simp)
    have p4 := hr2.cell (i := 4) (by simp)
    clear fin hkd2 hst1 hK hs IH c1 c2 f1 f2 hb1 hb2 hr0 hr1 hr2
    simp [results, Try.results39, go_sem, p0, p1, p2, p3, p4]

theorem cp_all (m : Nat) : ∀ x : V, SizeOf.sizeOf x < m → CpOk x := by
  induction m with
  | zero => intro x h; omega
  | succ m ih =>
    intro x h
    match x, h with
    | .mk s n t ns ks, h => exact toValue_step s n t ns ks fun i hi => ih _ (by have := kth_lt ks i hi; simp at h; omega)
theorem toValue_any (x : V) : CpOk x := cp_all _ x (Nat.lt_succ_self _)
end Go.Proofs.Ytjlifamkfdmfcaa
