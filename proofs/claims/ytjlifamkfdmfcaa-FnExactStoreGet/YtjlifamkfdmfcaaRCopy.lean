/-
  toCell, toRow and their lists: copies in new memory.
-/
import Derived.Test.YtjlifamkfdmfcaaRRep
namespace Go.Proofs.Ytjlifamkfdmfcaa
set_option linter.unusedSimpArgs false
set_option linter.unusedVariables false
open Go.RowKit

theorem info_Cell : (Try.prog.info? 60).map (fun i => (i.zero, i.size, i.bytes)) = some (some (.agg #[.string ByteArray.empty, .int .i64 0, .int .i64 0, .string ByteArray.empty, .slice none 0 0, .slice none 0 0]), 6, 96) := by kernel_rfl
theorem info_Row : (Try.prog.info? 58).map (fun i => (i.zero, i.size, i.bytes)) = some (some (.agg #[.string ByteArray.empty, .int .i64 0, .slice none 0 0]), 3, 48) := by kernel_rfl

set_option maxHeartbeats 1600000 in
theorem toCell_nf (c : Ce) (w : World) (B : Nat) (v : Value) (hR : CeRep w (· < B) c v) (hB : B ≤ w.heap.size) :
    Calls Try.prog 62 #[v] w fun e w' => ∃ (s n : Int) (t : ByteArray) (na ka : Option Addr) (nl nc kl kc : Nat), e = .returned (.agg #[.string c.name, .int .i64 s, .int .i64 n, .string t, .slice na nl nc, .slice ka kl kc]) ∧ Below w.heap.size w w' ∧
      CeRep w' (fun b => w.heap.size ≤ b ∧ b < w'.heap.size) c (.agg #[.string c.name, .int .i64 s, .int .i64 n, .string t, .slice na nl nc, .slice ka kl kc]) ∧ NF w.heap.size w' := by
  obtain ⟨c1, c2, c3, c4, c5, rfl, hV, hn⟩ := hR
  have hb3 : ∀ o1 o2 o3, Below w.heap.size w (((w.alloc o1).alloc o2).alloc o3) := fun o1 o2 o3 => (((Below.refl _ _).alloc (Nat.le_refl _) _).alloc (by simp) _).alloc (by simp; omega) _
  go_enter Try.func62, Try.ntmps62
  go_wp2_with fail
  refine (toValue_nf c.val _ B _ (hV.under ((hb3 _ _ _).mono hB)) (by simp; omega)).mono ?_
  rintro e w1 ⟨s1, n1, t1, na1, ka1, nl1, nc1, kl1, kc1, rfl, hb1, hr1, hnf1⟩
  have HN1 : Hid (NF w.heap.size w1) := NF.call (NF.three w _ _ _ _ _ _) hb1 hnf1
  clear hnf1
  have z1 := hb1.size
  simp at z1
  have b1 : Below w.heap.size w w1 := (hb3 _ _ _).trans (hb1.mono (by simp; omega))
  have K2 : w1.heap[w.heap.size + 1 + 1]? = some (.cells #[.string c.name, .int .i64 0, .int .i64 0, .string ByteArray.empty, .slice none 0 0, .slice none 0 0] 60 (0, 0)) := (hb1.block _ (by simp)).trans (by
    have := heap_alloc_new ((w.alloc (.cells #[.string c.name, c1, c2, c3, c4, c5] 128)).alloc (.cells #[.string ByteArray.empty, .int .i64 0, .int .i64 0, .string ByteArray.empty, .slice none 0 0, .slice none 0 0] 60)) (.cells #[.string c.name, .int .i64 0, .int .i64 0, .string ByteArray.empty, .slice none 0 0, .slice none 0 0] 60)
    rw [show ((w.alloc (.cells #[.string c.name, c1, c2, c3, c4, c5] 128)).alloc (.cells #[.string ByteArray.empty, .int .i64 0, .int .i64 0, .string ByteArray.empty, .slice none 0 0, .slice none 0 0] 60)).heap.size = w.heap.size + 1 + 1 by simp] at this
    exact this)
  have K1 : w1.heap[w.heap.size + 1]? = some (.cells #[.string ByteArray.empty, .int .i64 0, .int .i64 0, .string ByteArray.empty, .slice none 0 0, .slice none 0 0] 60 (0, 0)) := (hb1.block _ (by simp)).trans (by
    have := heap_alloc_new (w.alloc (.cells #[.string c.name, c1, c2, c3, c4, c5] 128)) (.cells #[.string ByteArray.empty, .int .i64 0, .int .i64 0, .string ByteArray.empty, .slice none 0 0, .slice none 0 0] 60)
    refine ((below_box _ _).block _ (by simp)).trans ?_
    rw [show (w.alloc (.cells #[.string c.name, c1, c2, c3, c4, c5] 128)).heap.size = w.heap.size + 1 by simp] at this
    exact this)
  have r1 : w1.rowIs (w.heap.size + 1) 60 6 (fun i => #[.string ByteArray.empty, .int .i64 0, .int .i64 0, .string ByteArray.empty, .slice none 0 0, .slice none 0 0][i]?.getD undef) := ⟨_, K1, rfl, fun i hi => by simp [hi]⟩
  have r2 : w1.rowIs (w.heap.size + 1 + 1) 60 6 (fun i => #[.string c.name, .int .i64 0, .int .i64 0, .string ByteArray.empty, .slice none 0 0, .slice none 0 0][i]?.getD undef) := ⟨_, K2, rfl, fun i hi => by simp [hi]⟩
  have q0 := r2.cell (i := 0) (by omega)
  have q1 := r2.cell (i := 1) (by omega)
  have q2 := r2.cell (i := 2) (by omega)
  have q3 := r2.cell (i := 3) (by omega)
  have q4 := r2.cell (i := 4) (by omega)
  have q5 := r2.cell (i := 5) (by omega)
  have u0 := r1.cell (i := 0) (by omega)
  have u1 := r1.cell (i := 1) (by omega)
  have u2 := r1.cell (i := 2) (by omega)
  have u3 := r1.cell (i := 3) (by omega)
  have u4 := r1.cell (i := 4) (by omega)
  have u5 := r1.cell (i := 5) (by omega)
  have qf := fun i => r2.frozen i
  have uf := fun i => r1.frozen i
  simp at q0 q1 q2 q3 q4 q5 u0 u1 u2 u3 u4 u5
  clear K1 K2
  go_wp2_with fail
  have zf : (puts (puts w1 (w.heap.size + 1 + 1) 1 [.int .i64 s1, .int .i64 n1, .string t1, .slice na1 nl1 nc1, .slice ka1 kl1 kc1]) (w.heap.size + 1) 0 [.string c.name, .int .i64 s1, .int .i64 n1, .string t1, .slice na1 nl1 nc1, .slice ka1 kl1 kc1]).heap.size = w1.heap.size := by rw [puts_size, puts_size]
  have ef : ∀ k, k ≠ w.heap.size + 1 + 1 → k ≠ w.heap.size + 1 → (puts (puts w1 (w.heap.size + 1 + 1) 1 [.int .i64 s1, .int .i64 n1, .string t1, .slice na1 nl1 nc1, .slice ka1 kl1 kc1]) (w.heap.size + 1) 0 [.string c.name, .int .i64 s1, .int .i64 n1, .string t1, .slice na1 nl1 nc1, .slice ka1 kl1 kc1]).heap[k]? = w1.heap[k]? := fun k h1 h2 => by rw [puts_block _ _ h2, puts_block _ _ h1]
  have bf : Below w.heap.size w (puts (puts w1 (w.heap.size + 1 + 1) 1 [.int .i64 s1, .int .i64 n1, .string t1, .slice na1 nl1 nc1, .slice ka1 kl1 kc1]) (w.heap.size + 1) 0 [.string c.name, .int .i64 s1, .int .i64 n1, .string t1, .slice na1 nl1 nc1, .slice ka1 kl1 kc1]) := puts_below (by omega) _ _ _ (puts_below (by omega) _ _ _ b1)
  have hm : ∀ k, (((w.alloc (.cells #[.string c.name, c1, c2, c3, c4, c5] 128)).alloc (.cells #[.string ByteArray.empty, .int .i64 0, .int .i64 0, .string ByteArray.empty, .slice none 0 0, .slice none 0 0] 60)).alloc (.cells #[.string c.name, .int .i64 0, .int .i64 0, .string ByteArray.empty, .slice none 0 0, .slice none 0 0] 60)).heap.size ≤ k → w.heap.size + 1 + 1 < k := fun k hk => by simp at hk; omega
  have fV : CeRep (puts (puts w1 (w.heap.size + 1 + 1) 1 [.int .i64 s1, .int .i64 n1, .string t1, .slice na1 nl1 nc1, .slice ka1 kl1 kc1]) (w.heap.size + 1) 0 [.string c.name, .int .i64 s1, .int .i64 n1, .string t1, .slice na1 nl1 nc1, .slice ka1 kl1 kc1]) (fun b => w.heap.size ≤ b ∧ b < (puts (puts w1 (w.heap.size + 1 + 1) 1 [.int .i64 s1, .int .i64 n1, .string t1, .slice na1 nl1 nc1, .slice ka1 kl1 kc1]) (w.heap.size + 1) 0 [.string c.name, .int .i64 s1, .int .i64 n1, .string t1, .slice na1 nl1 nc1, .slice ka1 kl1 kc1]).heap.size) c (.agg #[.string c.name, .int .i64 s1, .int .i64 n1, .string t1, .slice na1 nl1 nc1, .slice ka1 kl1 kc1]) := ⟨_, _, _, _, _, rfl, (hr1.mono fun k hk => by
    have := hm k hk.1
    exact ef k (by omega) (by omega)).sub fun k hk => by
      have := hm k hk.1
      rw [zf]; omega, hn⟩
  refine bodyPost_ret (v := .agg #[.string c.name, .int .i64 s1, .int .i64 n1, .string t1, .slice na1 nl1 nc1, .slice ka1 kl1 kc1]) ?res rfl ⟨s1, n1, t1, na1, ka1, nl1, nc1, kl1, kc1, rfl, bf, fV, fun a ha => by simp only [World.frozen?_setCell]; exact HN1.out a ha⟩
  case res =>
    obtain ⟨G, t1', hG, -⟩ := puts_row [.string c.name, .int .i64 s1, .int .i64 n1, .string t1, .slice na1 nl1 nc1, .slice ka1 kl1 kc1] 0 (r1.of_block (w' := puts w1 (w.heap.size + 1 + 1) 1 [.int .i64 s1, .int .i64 n1, .string t1, .slice na1 nl1 nc1, .slice ka1 kl1 kc1]) (puts_block _ _ (by omega) _ _ _))
    have p0 := t1'.cell (i := 0) (by omega)
    have p1 := t1'.cell (i := 1) (by omega)
    have p2 := t1'.cell (i := 2) (by omega)
    have p3 := t1'.cell (i := 3) (by omega)
    have p4 := t1'.cell (i := 4) (by omega)
    have p5 := t1'.cell (i := 5) (by omega)
    have g0 := hG 0 (by simp)
    have g1 := hG 1 (by simp)
    have g2 := hG 2 (by simp)
    have g3 := hG 3 (by simp)
    have g4 := hG 4 (by simp)
    have g5 := hG 5 (by simp)
    simp only [Nat.zero_add] at g0 g1 g2 g3 g4 g5
    rw [g0] at p0
    rw [g1] at p1
    rw [g2] at p2
    rw [g3] at p3
    rw [g4] at p4
    rw [g5] at p5
    simp only [puts, Nat.zero_add, Nat.reduceAdd, List.getD_cons_zero, List.getD_cons_succ] at p0 p1 p2 p3 p4 p5
    clear bf fV ef zf hm t1' q0 q1 q2 q3 q4 q5 u0 u1 u2 u3 u4 u5 qf uf r1 r2 hr1 hG g0 g1 g2 g3 g4 g5
    simp [results, Try.results62, go_sem, p0, p1, p2, p3, p4, p5]

set_option maxHeartbeats 1600000 in
theorem toCellS_nf (xs : List Ce) (w : World) (B : Nat) (a : Option Addr) (c : Nat) (hK : CeReps w (· < B) xs a) (hB : B ≤ w.heap.size) :
    Calls Try.prog 46 #[.slice a xs.length c] w fun e w' => e = .returned (.slice (some ⟨w.heap.size, 0, none⟩) xs.length xs.length) ∧ Below w.heap.size w w' ∧ w.heap.size < w'.heap.size ∧
      CeReps w' (fun b => w.heap.size ≤ b ∧ b < w'.heap.size) xs (some ⟨w.heap.size, 0, none⟩) ∧ NF w.heap.size w' := by
  have h3 := hK.1
  obtain ⟨-, C, hA, hr⟩ := hK
  have hmk := run_make_any (P := Try.prog) 56 60 (.agg #[.string ByteArray.empty, .int .i64 0, .int .i64 0, .string ByteArray.empty, .slice none 0 0, .slice none 0 0]) #[.string ByteArray.empty, .int .i64 0, .int .i64 0, .string ByteArray.empty, .slice none 0 0, .slice none 0 0] rfl 6 96 Try.underlying56 info_Cell .i64 .i64 xs.length h3 (by omega)
  go_enter Try.func46, Try.ntmps46
  go_wp2_with fail
  go_loopw [4] (fun i wr => ∃ (k : Nat) (G : Nat → Value), k ≤ xs.length ∧ i = .int .i64 k ∧ Below w.heap.size w wr ∧ wr.rowIs w.heap.size 60 (xs.length * 6) G ∧
      (∀ i, i < k → CeRep wr (fun b => w.heap.size < b ∧ b < wr.heap.size) (cth xs i) (.agg #[G (i * 6), G (i * 6 + 1), G (i * 6 + 2), G (i * 6 + 3), G (i * 6 + 4), G (i * 6 + 5)])) ∧ NF w.heap.size wr) (fun i _ => xs.length - (intOf i).toNat)
  case atStart =>
    obtain ⟨G, hG⟩ := made_row w #[.string ByteArray.empty, .int .i64 0, .int .i64 0, .string ByteArray.empty, .slice none 0 0, .slice none 0 0] (xs.length * 6) 60
    exact ⟨0, G, Nat.zero_le _, rfl, below_box _ _, hG, fun i hi => by omega, (NF.new w).alloc _ _⟩
  case round =>
    obtain ⟨k, G, hk, rfl, hbel, hrow, hreps, hnf⟩ := hrel
    have HNF : Hid (NF w.heap.size wr) := hnf
    clear hnf
    by_cases hlt : k < xs.length
    · obtain ⟨b, off, rfl, hbB, hc⟩ := hA (by omega)
      have hck : ∀ j, j < 6 → wr.cell? ⟨b, off + k * 6 + j, none⟩ = some (C k j) := fun j hj => (hbel.cell (p := ⟨b, off + k * 6 + j, none⟩) (by show b < _; omega)).trans (hc k hlt j hj)
      have hc0 : wr.cell? ⟨b, off + k * 6, none⟩ = some (C k 0) := hck 0 (by omega)
      have hc1 : wr.cell? ⟨b, off + k * 6 + 1, none⟩ = some (C k 1) := hck 1 (by omega)
      have hc2 : wr.cell? ⟨b, off + k * 6 + 2, none⟩ = some (C k 2) := hck 2 (by omega)
      have hc3 : wr.cell? ⟨b, off + k * 6 + 3, none⟩ = some (C k 3) := hck 3 (by omega)
      have hc4 : wr.cell? ⟨b, off + k * 6 + 4, none⟩ = some (C k 4) := hck 4 (by omega)
      have hc5 : wr.cell? ⟨b, off + k * 6 + 5, none⟩ = some (C k 5) := hck 5 (by omega)
      clear hck hc
      go_wp2_with (
        go_at_call 62
        refine (toCell_nf (cth xs k) _ B _ ((hr k hlt).under (hbel.mono hB)) (by have := hbel.size; omega)).mono ?_
        rintro e w1 ⟨s, n, t, na, ka, nl, nc, kl, kc, rfl, hby, hry, hnf1⟩
        have HN1 : Hid (NF w.heap.size w1) := NF.call HNF.out hby hnf1
        clear hnf1
        have hrow1 := hrow.of_block (hby.block _ hrow.lt)
        have q0 : w1.cell? ⟨w.heap.size, k * 6, none⟩ = some (G (k * 6)) := hrow1.cell (by omega)
        have q1 : w1.cell? ⟨w.heap.size, k * 6 + 1, none⟩ = some (G (k * 6 + 1)) := hrow1.cell (by omega)
        have q2 : w1.cell? ⟨w.heap.size, k * 6 + 2, none⟩ = some (G (k * 6 + 2)) := hrow1.cell (by omega)
        have q3 : w1.cell? ⟨w.heap.size, k * 6 + 3, none⟩ = some (G (k * 6 + 3)) := hrow1.cell (by omega)
        have q4 : w1.cell? ⟨w.heap.size, k * 6 + 4, none⟩ = some (G (k * 6 + 4)) := hrow1.cell (by omega)
        have q5 : w1.cell? ⟨w.heap.size, k * 6 + 5, none⟩ = some (G (k * 6 + 5)) := hrow1.cell (by omega)
        have z0 : ∀ j, w1.frozen? ⟨w.heap.size, j, none⟩ = false := fun j => hrow1.frozen j)
      go_roundw
      case rel =>
        obtain ⟨G', hG, hG1, hGF⟩ := puts_row [.string (cth xs k).name, .int .i64 s, .int .i64 n, .string t, .slice na nl nc, .slice ka kl kc] (k * 6) hrow1
        have hs1 := hbel.size
        have hs2 := hby.size
        have hs3 := hrow.lt
        have g0 : G' (k * 6) = .string (cth xs k).name := hG1 0 (by simp)
        have g1 : G' (k * 6 + 1) = .int .i64 s := hG1 1 (by simp)
        have g2 : G' (k * 6 + 2) = .int .i64 n := hG1 2 (by simp)
        have g3 : G' (k * 6 + 3) = .string t := hG1 3 (by simp)
        have g4 : G' (k * 6 + 4) = .slice na nl nc := hG1 4 (by simp)
        have g5 : G' (k * 6 + 5) = .slice ka kl kc := hG1 5 (by simp)
        have hpb := puts_block w.heap.size
        have hps := puts_size w.heap.size [.string (cth xs k).name, .int .i64 s, .int .i64 n, .string t, .slice na nl nc, .slice ka kl kc] w1 (k * 6)
        refine ⟨k + 1, G', by omega, by go_num, puts_below (Nat.le_refl _) [.string (cth xs k).name, .int .i64 s, .int .i64 n, .string t, .slice na nl nc, .slice ka kl kc] w1 (k * 6) (hbel.trans (hby.mono hs1)), hG, fun i hi => ?_, HN1.out.puts w.heap.size (k * 6) [.string (cth xs k).name, .int .i64 s, .int .i64 n, .string t, .slice na nl nc, .slice ka kl kc]⟩
        by_cases e1 : i = k
        · rw [e1, g0, g1, g2, g3, g4, g5]
          refine (hry.mono fun b hb => hpb b (by omega) [.string (cth xs k).name, .int .i64 s, .int .i64 n, .string t, .slice na nl nc, .slice ka kl kc] w1 _).sub fun b hb => ⟨by omega, ?_⟩
          show b < (puts w1 w.heap.size (k * 6) [.string (cth xs k).name, .int .i64 s, .int .i64 n, .string t, .slice na nl nc, .slice ka kl kc]).heap.size
          omega
        · rw [hGF _ (by omega), hGF _ (by omega), hGF _ (by omega), hGF _ (by omega), hGF _ (by omega), hGF _ (by omega)]
          refine ((hreps i (by omega)).mono fun b hb => (hpb b (by omega) [.string (cth xs k).name, .int .i64 s, .int .i64 n, .string t, .slice na nl nc, .slice ka kl kc] w1 _).trans (hby.block b hb.2)).sub fun b hb => ⟨hb.1, ?_⟩
          show b < (puts w1 w.heap.size (k * 6) [.string (cth xs k).name, .int .i64 s, .int .i64 n, .string t, .slice na nl nc, .slice ka kl kc]).heap.size
          omega
      case measure => simp [intOf]; omega
    · go_wp2_with fail
      go_ret
      have e : k = xs.length := by omega
      subst e
      refine ⟨rfl, hbel, hrow.lt, ⟨h3, fun i j => G (i * 6 + j), fun _ => ⟨_, _, rfl, ⟨Nat.le_refl _, hrow.lt⟩, fun i hi j hj => ?_⟩, fun i hi => (hreps i hi).sub fun b hb => ⟨by omega, hb.2⟩⟩, HNF.out⟩
      have := hrow.cell (i := i * 6 + j) (by omega)
      simpa using this

/-- What toRow's last steps leave. -/
theorem cpRo_end {w w1 : World} {t : Ro} {x : Value} {N : Nat} (hN : N = w.heap.size) (hbw : Below N w w1) (hsz1 : N + 1 + 1 + 1 < w1.heap.size)
    (hst1 : CeReps w1 (fun b => N + 1 + 1 + 1 ≤ b ∧ b < w1.heap.size) t.cells (some ⟨N + 1 + 1 + 1, 0, none⟩)) (h1 : t.type.size ≤ maxLen) (cs : List Value) :
    Below N w (puts (w1.setCell ⟨N + 1 + 1, 2, none⟩ x) (N + 1) 0 cs) ∧
    RoRep (puts (w1.setCell ⟨N + 1 + 1, 2, none⟩ x) (N + 1) 0 cs) (fun b => N ≤ b ∧ b < (puts (w1.setCell ⟨N + 1 + 1, 2, none⟩ x) (N + 1) 0 cs).heap.size) t
      (.agg #[.string t.type, .int .i64 t.id, .slice (some ⟨N + 1 + 1 + 1, 0, none⟩) t.cells.length t.cells.length]) := by
  have hsz : (puts (w1.setCell ⟨N + 1 + 1, 2, none⟩ x) (N + 1) 0 cs).heap.size = w1.heap.size := by rw [puts_size, size_set]
  refine ⟨puts_below (by omega) _ _ _ (hbw.setCell (by show N ≤ N + 1 + 1; omega) _), _, _, rfl, (hst1.mono fun k hk => ?_).sub fun k hk => ?_, Nat.le_refl _, h1⟩
  · rw [puts_block _ _ (by omega), Below.heap_setCell _ _ _ _ (by show k ≠ N + 1 + 1; omega)]
  · rw [hsz]; omega

set_option maxHeartbeats 800000 in
theorem toRow_nf (t : Ro) (w : World) (B : Nat) (v : Value) (hR : RoRep w (· < B) t v) (hB : B ≤ w.heap.size) :
    Calls Try.prog 22 #[v] w fun e w' => ∃ (fa : Option Addr) (fc : Nat), e = .returned (.agg #[.string t.type, .int .i64 t.id, .slice fa t.cells.length fc]) ∧ Below w.heap.size w w' ∧
      RoRep w' (fun b => w.heap.size ≤ b ∧ b < w'.heap.size) t (.agg #[.string t.type, .int .i64 t.id, .slice fa t.cells.length fc]) ∧ NF w.heap.size w' := by
  obtain ⟨na, nc, rfl, hs, hnc, hn⟩ := hR
  obtain ⟨type, id, cells⟩ := t
  simp only at hs hnc hn
  have hb3 : ∀ o1 o2 o3, Below w.heap.size w (((w.alloc o1).alloc o2).alloc o3) := fun o1 o2 o3 => (((Below.refl _ _).alloc (Nat.le_refl _) _).alloc (by simp) _).alloc (by simp; omega) _
  go_enter Try.func22, Try.ntmps22
  go_wp2_with (
      go_at_call 46
      refine (toCellS_nf cells _ B na nc (hs.under ((hb3 _ _ _).mono hB)) (by simp; omega)).mono ?_
      rintro e w1 ⟨rfl, hb1, hsz1, hst1, hnf1⟩
      have HN1 : Hid (NF w.heap.size w1) := NF.call (NF.three w _ _ _ _ _ _) hb1 hnf1
      clear hnf1
      obtain ⟨c1, f1⟩ := bcell hb1
      simp at hsz1
      have hlt1 : w.heap.size + 1 + 1 < w1.heap.size := by omega)
  have hbw : Below w.heap.size w w1 := (hb3 _ _ _).trans (hb1.mono (by simp; omega))
  have fin := cpRo_end (w := w) (w1 := w1) (t := ⟨type, id, cells⟩) (x := .slice (some ⟨w.heap.size + 1 + 1 + 1, 0, none⟩) cells.length cells.length) (N := w.heap.size) rfl hbw hsz1 (by simpa using hst1) hn [.string type, .int .i64 id, .slice (some ⟨w.heap.size + 1 + 1 + 1, 0, none⟩) cells.length cells.length]
  refine bodyPost_ret (v := .agg #[.string type, .int .i64 id, .slice (some ⟨w.heap.size + 1 + 1 + 1, 0, none⟩) cells.length cells.length]) ?res rfl ⟨_, _, rfl, fin.1, fin.2, fun a ha => by simp only [World.frozen?_setCell]; exact HN1.out a ha⟩
  case res =>
    have hr0 : ∀ o1 o3 c, ((((w.alloc o1).alloc (.cells c 58)).alloc o3)).rowIs (w.heap.size + 1) 58 c.size (fun i => c[i]?.getD undef) := fun o1 o3 c => by
      have h := ((w.alloc o1).rowIs_alloc c 58 (fun i => c[i]?.getD undef) (fun i hi => by simp [hi])).alloc o3
      simpa using h
    have hr1 := (hr0 _ _ _).of_block (hb1.block (w.heap.size + 1) (by simp))
    have p0 := hr1.cell (i := 0) (by simp)
    have p1 := hr1.cell (i := 1) (by simp)
    have p2 := hr1.cell (i := 2) (by simp)
    clear fin hst1 hs c1 f1 hb1 hr0 hr1
    simp [results, Try.results22, go_sem, p0, p1, p2]

set_option maxHeartbeats 1600000 in
theorem toRowS_nf (xs : List Ro) (w : World) (B : Nat) (a : Option Addr) (c : Nat) (hK : RoReps w (· < B) xs a) (hB : B ≤ w.heap.size) :
    Calls Try.prog 7 #[.slice a xs.length c] w fun e w' => e = .returned (.slice (some ⟨w.heap.size, 0, none⟩) xs.length xs.length) ∧ Below w.heap.size w w' ∧ w.heap.size < w'.heap.size ∧
      RoReps w' (fun b => w.heap.size ≤ b ∧ b < w'.heap.size) xs (some ⟨w.heap.size, 0, none⟩) ∧ NF w.heap.size w' := by
  have h3 := hK.1
  obtain ⟨-, C, hA, hr⟩ := hK
  have hmk := run_make_any (P := Try.prog) 30 58 (.agg #[.string ByteArray.empty, .int .i64 0, .slice none 0 0]) #[.string ByteArray.empty, .int .i64 0, .slice none 0 0] rfl 3 48 Try.underlying30 info_Row .i64 .i64 xs.length h3 (by omega)
  go_enter Try.func7, Try.ntmps7
  go_wp2_with fail
  go_loopw [4] (fun i wr => ∃ (k : Nat) (G : Nat → Value), k ≤ xs.length ∧ i = .int .i64 k ∧ Below w.heap.size w wr ∧ wr.rowIs w.heap.size 58 (xs.length * 3) G ∧
      (∀ i, i < k → RoRep wr (fun b => w.heap.size < b ∧ b < wr.heap.size) (rth xs i) (.agg #[G (i * 3), G (i * 3 + 1), G (i * 3 + 2)])) ∧ NF w.heap.size wr) (fun i _ => xs.length - (intOf i).toNat)
  case atStart =>
    obtain ⟨G, hG⟩ := made_row w #[.string ByteArray.empty, .int .i64 0, .slice none 0 0] (xs.length * 3) 58
    exact ⟨0, G, Nat.zero_le _, rfl, below_box _ _, hG, fun i hi => by omega, (NF.new w).alloc _ _⟩
  case round =>
    obtain ⟨k, G, hk, rfl, hbel, hrow, hreps, hnf⟩ := hrel
    have HNF : Hid (NF w.heap.size wr) := hnf
    clear hnf
    by_cases hlt : k < xs.length
    · obtain ⟨b, off, rfl, hbB, hc⟩ := hA (by omega)
      have hck : ∀ j, j < 3 → wr.cell? ⟨b, off + k * 3 + j, none⟩ = some (C k j) := fun j hj => (hbel.cell (p := ⟨b, off + k * 3 + j, none⟩) (by show b < _; omega)).trans (hc k hlt j hj)
      have hc0 : wr.cell? ⟨b, off + k * 3, none⟩ = some (C k 0) := hck 0 (by omega)
      have hc1 : wr.cell? ⟨b, off + k * 3 + 1, none⟩ = some (C k 1) := hck 1 (by omega)
      have hc2 : wr.cell? ⟨b, off + k * 3 + 2, none⟩ = some (C k 2) := hck 2 (by omega)
      clear hck hc
      go_wp2_with (
        go_at_call 22
        refine (toRow_nf (rth xs k) _ B _ ((hr k hlt).under (hbel.mono hB)) (by have := hbel.size; omega)).mono ?_
        rintro e w1 ⟨na, nc, rfl, hby, hry, hnf1⟩
        have HN1 : Hid (NF w.heap.size w1) := NF.call HNF.out hby hnf1
        clear hnf1
        have hrow1 := hrow.of_block (hby.block _ hrow.lt)
        have q0 : w1.cell? ⟨w.heap.size, k * 3, none⟩ = some (G (k * 3)) := hrow1.cell (by omega)
        have q1 : w1.cell? ⟨w.heap.size, k * 3 + 1, none⟩ = some (G (k * 3 + 1)) := hrow1.cell (by omega)
        have q2 : w1.cell? ⟨w.heap.size, k * 3 + 2, none⟩ = some (G (k * 3 + 2)) := hrow1.cell (by omega)
        have z0 : ∀ j, w1.frozen? ⟨w.heap.size, j, none⟩ = false := fun j => hrow1.frozen j)
      go_roundw
      case rel =>
        obtain ⟨G', hG, hG1, hGF⟩ := puts_row [.string (rth xs k).type, .int .i64 (rth xs k).id, .slice na (rth xs k).cells.length nc] (k * 3) hrow1
        have hs1 := hbel.size
        have hs2 := hby.size
        have hs3 := hrow.lt
        have g0 : G' (k * 3) = .string (rth xs k).type := hG1 0 (by simp)
        have g1 : G' (k * 3 + 1) = .int .i64 (rth xs k).id := hG1 1 (by simp)
        have g2 : G' (k * 3 + 2) = .slice na (rth xs k).cells.length nc := hG1 2 (by simp)
        have hpb := puts_block w.heap.size
        have hps := puts_size w.heap.size [.string (rth xs k).type, .int .i64 (rth xs k).id, .slice na (rth xs k).cells.length nc] w1 (k * 3)
        refine ⟨k + 1, G', by omega, by go_num, puts_below (Nat.le_refl _) [.string (rth xs k).type, .int .i64 (rth xs k).id, .slice na (rth xs k).cells.length nc] w1 (k * 3) (hbel.trans (hby.mono hs1)), hG, fun i hi => ?_, HN1.out.puts w.heap.size (k * 3) [.string (rth xs k).type, .int .i64 (rth xs k).id, .slice na (rth xs k).cells.length nc]⟩
        by_cases e1 : i = k
        · rw [e1, g0, g1, g2]
          refine (hry.mono fun b hb => hpb b (by omega) [.string (rth xs k).type, .int .i64 (rth xs k).id, .slice na (rth xs k).cells.length nc] w1 _).sub fun b hb => ⟨by omega, ?_⟩
          show b < (puts w1 w.heap.size (k * 3) [.string (rth xs k).type, .int .i64 (rth xs k).id, .slice na (rth xs k).cells.length nc]).heap.size
          omega
        · rw [hGF _ (by omega), hGF _ (by omega), hGF _ (by omega)]
          refine ((hreps i (by omega)).mono fun b hb => (hpb b (by omega) [.string (rth xs k).type, .int .i64 (rth xs k).id, .slice na (rth xs k).cells.length nc] w1 _).trans (hby.block b hb.2)).sub fun b hb => ⟨hb.1, ?_⟩
          show b < (puts w1 w.heap.size (k * 3) [.string (rth xs k).type, .int .i64 (rth xs k).id, .slice na (rth xs k).cells.length nc]).heap.size
          omega
      case measure => simp [intOf]; omega
    · go_wp2_with fail
      go_ret
      have e : k = xs.length := by omega
      subst e
      refine ⟨rfl, hbel, hrow.lt, ⟨h3, fun i j => G (i * 3 + j), fun _ => ⟨_, _, rfl, ⟨Nat.le_refl _, hrow.lt⟩, fun i hi j hj => ?_⟩, fun i hi => (hreps i hi).sub fun b hb => ⟨by omega, hb.2⟩⟩, HNF.out⟩
      have := hrow.cell (i := i * 3 + j) (by omega)
      simpa using this
end Go.Proofs.Ytjlifamkfdmfcaa
