import Derived.Test.YtbpdchlbhfjddaaGreatJ4
import Derived.Test.YtbpdchlbhfjddaaGreatJ3
import Derived.Test.YtbpdchlbhfjddaaGreatJ1
import Derived.Test.YtbpdchlbhfjddaaGreatCopyS
import Derived.Laws.IdiomStrings
namespace Go.Proofs.YtbpdchlbhfjddaaGreat
set_option linter.unusedSimpArgs false
set_option linter.unusedVariables false
open Go.RowKit

theorem info_Cell : (Tryz.prog.info? 62).map (fun i => (i.zero, i.size, i.bytes)) = some (some (.agg #[.string ByteArray.empty, .int .i64 0, .int .i64 0, .string ByteArray.empty, .slice none 0 0, .slice none 0 0]), 6, 96) := by kernel_rfl
theorem info_Row : (Tryz.prog.info? 51).map (fun i => (i.zero, i.size, i.bytes)) = some (some (.agg #[.string ByteArray.empty, .int .i64 0, .slice none 0 0]), 3, 48) := by kernel_rfl

set_option maxHeartbeats 1600000 in
theorem toCell_nf (c : Ce) (w : World) (B : Nat) (v : Value) (hR : CeRep w (· < B) c v) (hB : B ≤ w.heap.size) :
    Calls Tryz.prog 64 #[v] w fun e w' => ∃ (s n : Int) (t : ByteArray) (na ka : Option Addr) (nl nc kl kc : Nat), e = .returned (.agg #[.string c.name, .int .i64 s, .int .i64 n, .string t, .slice na nl nc, .slice ka kl kc]) ∧ Below w.heap.size w w' ∧
      CeRep w' (fun b => w.heap.size ≤ b ∧ b < w'.heap.size) c (.agg #[.string c.name, .int .i64 s, .int .i64 n, .string t, .slice na nl nc, .slice ka kl kc]) ∧ NF w.heap.size w' := by
  obtain ⟨c1, c2, c3, c4, c5, rfl, hV, hn⟩ := hR
  have hb3 : ∀ o1 o2 o3, Below w.heap.size w (((w.alloc o1).alloc o2).alloc o3) := fun o1 o2 o3 => (((Below.refl _ _).alloc (Nat.le_refl _) _).alloc (by simp) _).alloc (by simp; omega) _
  go_enter Tryz.func64, Tryz.ntmps64
  go_wp2_with fail
  refine (toValue_nf c.val _ B _ (hV.under ((hb3 _ _ _).mono hB)) (by simp; omega)).mono ?_
  rintro e w1 ⟨s1, n1, t1, na1, ka1, nl1, nc1, kl1, kc1, rfl, hb1, hr1, hnf1⟩
  have HN1 : Hid (NF w.heap.size w1) := NF.call (NF.three w _ _ _ _ _ _) hb1 hnf1
  clear hnf1
  have z1 := hb1.size
  simp at z1
  have b1 : Below w.heap.size w w1 := (hb3 _ _ _).trans (hb1.mono (by simp; omega))
  have K2 : w1.heap[w.heap.size + 1 + 1]? = some (.cells #[.string c.name, .int .i64 0, .int .i64 0, .string ByteArray.empty, .slice none 0 0, .slice none 0 0] 62 (0, 0)) := (hb1.block _ (by simp)).trans (by
    have := heap_alloc_new ((w.alloc (.cells #[.string c.name, c1, c2, c3, c4, c5] 112)).alloc (.cells #[.string ByteArray.empty, .int .i64 0, .int .i64 0, .string ByteArray.empty, .slice none 0 0, .slice none 0 0] 62)) (.cells #[.string c.name, .int .i64 0, .int .i64 0, .string ByteArray.empty, .slice none 0 0, .slice none 0 0] 62)
    rw [show ((w.alloc (.cells #[.string c.name, c1, c2, c3, c4, c5] 112)).alloc (.cells #[.string ByteArray.empty, .int .i64 0, .int .i64 0, .string ByteArray.empty, .slice none 0 0, .slice none 0 0] 62)).heap.size = w.heap.size + 1 + 1 by simp] at this
    exact this)
  have K1 : w1.heap[w.heap.size + 1]? = some (.cells #[.string ByteArray.empty, .int .i64 0, .int .i64 0, .string ByteArray.empty, .slice none 0 0, .slice none 0 0] 62 (0, 0)) := (hb1.block _ (by simp)).trans (by
    have := heap_alloc_new (w.alloc (.cells #[.string c.name, c1, c2, c3, c4, c5] 112)) (.cells #[.string ByteArray.empty, .int .i64 0, .int .i64 0, .string ByteArray.empty, .slice none 0 0, .slice none 0 0] 62)
    refine ((below_box _ _).block _ (by simp)).trans ?_
    rw [show (w.alloc (.cells #[.string c.name, c1, c2, c3, c4, c5] 112)).heap.size = w.heap.size + 1 by simp] at this
    exact this)
  have r1 : w1.rowIs (w.heap.size + 1) 62 6 (fun i => #[.string ByteArray.empty, .int .i64 0, .int .i64 0, .string ByteArray.empty, .slice none 0 0, .slice none 0 0][i]?.getD undef) := ⟨_, K1, rfl, fun i hi => by simp [hi]⟩
  have r2 : w1.rowIs (w.heap.size + 1 + 1) 62 6 (fun i => #[.string c.name, .int .i64 0, .int .i64 0, .string ByteArray.empty, .slice none 0 0, .slice none 0 0][i]?.getD undef) := ⟨_, K2, rfl, fun i hi => by simp [hi]⟩
  have q0 := r2.cell (i := 0) (by omega)
  have q1 := r2.cell (i := 1) (by omega)
  have q2 := r2.cell (i := 2) (by omega)
  have q3 := r2.cell (i := 3) (by omega)
  have q4 := r2.cell (i := 4) (by omega)
  have q5 := r2.cell (i := 5) (by omega)
  have u0 := r1.cell (i := 0) (by omega)
  have u1 := r1.cell (i := 1) (by omega)
  have u2 := r1.cell (i := 2) (by omega)
  have u3 := r1.cell (i := 3) (by omega)
  have u4 := r1.cell (i := 4) (by omega)
  have u5 := r1.cell (i := 5) (by omega)
  have qf := fun i => r2.frozen i
  have uf := fun i => r1.frozen i
  simp at q0 q1 q2 q3 q4 q5 u0 u1 u2 u3 u4 u5
  clear K1 K2
  go_wp2_with fail
  have zf : (puts (puts w1 (w.heap.size + 1 + 1) 1 [.int .i64 s1, .int .i64 n1, .string t1, .slice na1 nl1 nc1, .slice ka1 kl1 kc1]) (w.heap.size + 1) 0 [.string c.name, .int .i64 s1, .int .i64 n1, .string t1, .slice na1 nl1 nc1, .slice ka1 kl1 kc1]).heap.size = w1.heap.size := by rw [puts_size, puts_size]
  have ef : ∀ k, k ≠ w.heap.size + 1 + 1 → k ≠ w.heap.size + 1 → (puts (puts w1 (w.heap.size + 1 + 1) 1 [.int .i64 s1, .int .i64 n1, .string t1, .slice na1 nl1 nc1, .slice ka1 kl1 kc1]) (w.heap.size + 1) 0 [.string c.name, .int .i64 s1, .int .i64 n1, .string t1, .slice na1 nl1 nc1, .slice ka1 kl1 kc1]).heap[k]? = w1.heap[k]? := fun k h1 h2 => by rw [puts_block _ _ h2, puts_block _ _ h1]
  have bf : Below w.heap.size w (puts (puts w1 (w.heap.size + 1 + 1) 1 [.int .i64 s1, .int .i64 n1, .string t1, .slice na1 nl1 nc1, .slice ka1 kl1 kc1]) (w.heap.size + 1) 0 [.string c.name, .int .i64 s1, .int .i64 n1, .string t1, .slice na1 nl1 nc1, .slice ka1 kl1 kc1]) := puts_below (by omega) _ _ _ (puts_below (by omega) _ _ _ b1)
  have hm : ∀ k, (((w.alloc (.cells #[.string c.name, c1, c2, c3, c4, c5] 112)).alloc (.cells #[.string ByteArray.empty, .int .i64 0, .int .i64 0, .string ByteArray.empty, .slice none 0 0, .slice none 0 0] 62)).alloc (.cells #[.string c.name, .int .i64 0, .int .i64 0, .string ByteArray.empty, .slice none 0 0, .slice none 0 0] 62)).heap.size ≤ k → w.heap.size + 1 + 1 < k := fun k hk => by simp at hk; omega
  have fV : CeRep (puts (puts w1 (w.heap.size + 1 + 1) 1 [.int .i64 s1, .int .i64 n1, .string t1, .slice na1 nl1 nc1, .slice ka1 kl1 kc1]) (w.heap.size + 1) 0 [.string c.name, .int .i64 s1, .int .i64 n1, .string t1, .slice na1 nl1 nc1, .slice ka1 kl1 kc1]) (fun b => w.heap.size ≤ b ∧ b < (puts (puts w1 (w.heap.size + 1 + 1) 1 [.int .i64 s1, .int .i64 n1, .string t1, .slice na1 nl1 nc1, .slice ka1 kl1 kc1]) (w.heap.size + 1) 0 [.string c.name, .int .i64 s1, .int .i64 n1, .string t1, .slice na1 nl1 nc1, .slice ka1 kl1 kc1]).heap.size) c (.agg #[.string c.name, .int .i64 s1, .int .i64 n1, .string t1, .slice na1 nl1 nc1, .slice ka1 kl1 kc1]) := ⟨_, _, _, _, _, rfl, (hr1.mono fun k hk => by
    have := hm k hk.1
    exact ef k (by omega) (by omega)).sub fun k hk => by
      have := hm k hk.1
      rw [zf]; omega, hn⟩
  refine bodyPost_ret (v := .agg #[.string c.name, .int .i64 s1, .int .i64 n1, .string t1, .slice na1 nl1 nc1, .slice ka1 kl1 kc1]) ?res rfl ⟨s1, n1, t1, na1, ka1, nl1, nc1, kl1, kc1, rfl, bf, fV, fun a ha => by simp only [World.frozen?_setCell]; exact HN1.out a ha⟩
  case res =>
    obtain ⟨G, t1', hG, -⟩ := puts_row [.string c.name, .int .i64 s1, .int .i64 n1, .string t1, .slice na1 nl1 nc1, .slice ka1 kl1 kc1] 0 (r1.of_block (w' := puts w1 (w.heap.size + 1 + 1) 1 [.int .i64 s1, .int .i64 n1, .string t1, .slice na1 nl1 nc1, .slice ka1 kl1 kc1]) (puts_block _ _ (by omega) _ _ _))
    have p0 := t1'.cell (i := 0) (by omega)
    have p1 := t1'.cell (i := 1) (by omega)
    have p2 := t1'.cell (i := 2) (by omega)
    have p3 := t1'.cell (i := 3) (by omega)
    have p4 := t1'.cell (i := 4) (by omega)
    have p5 := t1'.cell (i := 5) (by omega)
    have g0 := hG 0 (by simp)
    have g1 := hG 1 (by simp)
    have g2 := hG 2 (by simp)
    have g3 := hG 3 (by simp)
    have g4 := hG 4 (by simp)
    have g5 := hG 5 (by simp)
    simp only [Nat.zero_add] at g0 g1 g2 g3 g4 g5
    rw [g0] at p0
    rw [g1] at p1
    rw [g2] at p2
    rw [g3] at p3
    rw [g4] at p4
    rw [g5] at p5
    simp only [puts, Nat.zero_add, Nat.reduceAdd, List.getD_cons_zero, List.getD_cons_succ] at p0 p1 p2 p3 p4 p5
    clear bf fV ef zf hm t1' q0 q1 q2 q3 q4 q5 u0 u1 u2 u3 u4 u5 qf uf r1 r2 hr1 hG g0 g1 g2 g3 g4 g5
    simp [results, Tryz.results64, go_sem, p0, p1, p2, p3, p4, p5]

set_option maxHeartbeats 1600000 in
theorem toCellS_nf (xs : List Ce) (w : World) (B : Nat) (a : Option Addr) (c : Nat) (hK : CeReps w (· < B) xs a) (hB : B ≤ w.heap.size) :
    Calls Tryz.prog 38 #[.slice a xs.length c] w fun e w' => e = .returned (.slice (some ⟨w.heap.size, 0, none⟩) xs.length xs.length) ∧ Below w.heap.size w w' ∧ w.heap.size < w'.heap.size ∧
      CeReps w' (fun b => w.heap.size ≤ b ∧ b < w'.heap.size) xs (some ⟨w.heap.size, 0, none⟩) ∧ NF w.heap.size w' := by
  have h3 := hK.1
  obtain ⟨-, C, hA, hr⟩ := hK
  have hmk := run_make_any (P := Tryz.prog) 49 62 (.agg #[.string ByteArray.empty, .int .i64 0, .int .i64 0, .string ByteArray.empty, .slice none 0 0, .slice none 0 0]) #[.string ByteArray.empty, .int .i64 0, .int .i64 0, .string ByteArray.empty, .slice none 0 0, .slice none 0 0] rfl 6 96 Tryz.underlying49 info_Cell .i64 .i64 xs.length h3 (by omega)
  go_enter Tryz.func38, Tryz.ntmps38
  go_wp2_with fail
  go_loopw [4] (fun i wr => ∃ (k : Nat) (G : Nat → Value), k ≤ xs.length ∧ i = .int .i64 k ∧ Below w.heap.size w wr ∧ wr.rowIs w.heap.size 62 (xs.length * 6) G ∧
      (∀ i, i < k → CeRep wr (fun b => w.heap.size < b ∧ b < wr.heap.size) (cth xs i) (.agg #[G (i * 6), G (i * 6 + 1), G (i * 6 + 2), G (i * 6 + 3), G (i * 6 + 4), G (i * 6 + 5)])) ∧ NF w.heap.size wr) (fun i _ => xs.length - (intOf i).toNat)
  case atStart =>
    obtain ⟨G, hG⟩ := made_row w #[.string ByteArray.empty, .int .i64 0, .int .i64 0, .string ByteArray.empty, .slice none 0 0, .slice none 0 0] (xs.length * 6) 62
    exact ⟨0, G, Nat.zero_le _, rfl, below_box _ _, hG, fun i hi => by omega, (NF.new w).alloc _ _⟩
  case round =>
    obtain ⟨k, G, hk, rfl, hbel, hrow, hreps, hnf⟩ := hrel
    have HNF : Hid (NF w.heap.size wr) := hnf
    clear hnf
    by_cases hlt : k < xs.length
    · obtain ⟨b, off, rfl, hbB, hc⟩ := hA (by omega)
      have hck : ∀ j, j < 6 → wr.cell? ⟨b, off + k * 6 + j, none⟩ = some (C k j) := fun j hj => (hbel.cell (p := ⟨b, off + k * 6 + j, none⟩) (by show b < _; omega)).trans (hc k hlt j hj)
      have hc0 : wr.cell? ⟨b, off + k * 6, none⟩ = some (C k 0) := hck 0 (by omega)
      have hc1 : wr.cell? ⟨b, off + k * 6 + 1, none⟩ = some (C k 1) := hck 1 (by omega)
      have hc2 : wr.cell? ⟨b, off + k * 6 + 2, none⟩ = some (C k 2) := hck 2 (by omega)
      have hc3 : wr.cell? ⟨b, off + k * 6 + 3, none⟩ = some (C k 3) := hck 3 (by omega)
      have hc4 : wr.cell? ⟨b, off + k * 6 + 4, none⟩ = some (C k 4) := hck 4 (by omega)
      have hc5 : wr.cell? ⟨b, off + k * 6 + 5, none⟩ = some (C k 5) := hck 5 (by omega)
      clear hck hc
      go_wp2_with (
        go_at_call 64
        refine (toCell_nf (cth xs k) _ B _ ((hr k hlt).under (hbel.mono hB)) (by have := hbel.size; omega)).mono ?_
        rintro e w1 ⟨s, n, t, na, ka, nl, nc, kl, kc, rfl, hby, hry, hnf1⟩
        have HN1 : Hid (NF w.heap.size w1) := NF.call HNF.out hby hnf1
        clear hnf1
        have hrow1 := hrow.of_block (hby.block _ hrow.lt)
        have q0 : w1.cell? ⟨w.heap.size, k * 6, none⟩ = some (G (k * 6)) := hrow1.cell (by omega)
        have q1 : w1.cell? ⟨w.heap.size, k * 6 + 1, none⟩ = some (G (k * 6 + 1)) := hrow1.cell (by omega)
        have q2 : w1.cell? ⟨w.heap.size, k * 6 + 2, none⟩ = some (G (k * 6 + 2)) := hrow1.cell (by omega)
        have q3 : w1.cell? ⟨w.heap.size, k * 6 + 3, none⟩ = some (G (k * 6 + 3)) := hrow1.cell (by omega)
        have q4 : w1.cell? ⟨w.heap.size, k * 6 + 4, none⟩ = some (G (k * 6 + 4)) := hrow1.cell (by omega)
        have q5 : w1.cell? ⟨w.heap.size, k * 6 + 5, none⟩ = some (G (k * 6 + 5)) := hrow1.cell (by omega)
        have z0 : ∀ j, w1.frozen? ⟨w.heap.size, j, none⟩ = false := fun j => hrow1.frozen j)
      go_roundw
      case rel =>
        obtain ⟨G', hG, hG1, hGF⟩ := puts_row [.string (cth xs k).name, .int .i64 s, .int .i64 n, .string t, .slice na nl nc, .slice ka kl kc] (k * 6) hrow1
        have hs1 := hbel.size
        have hs2 := hby.size
        have hs3 := hrow.lt
        have g0 : G' (k * 6) = .string (cth xs k).name := hG1 0 (by simp)
        have g1 : G' (k * 6 + 1) = .int .i64 s := hG1 1 (by simp)
        have g2 : G' (k * 6 + 2) = .int .i64 n := hG1 2 (by simp)
        have g3 : G' (k * 6 + 3) = .string t := hG1 3 (by simp)
        have g4 : G' (k * 6 + 4) = .slice na nl nc := hG1 4 (by simp)
        have g5 : G' (k * 6 + 5) = .slice ka kl kc := hG1 5 (by simp)
        have hpb := puts_block w.heap.size
        have hps := puts_size w.heap.size [.string (cth xs k).name, .int .i64 s, .int .i64 n, .string t, .slice na nl nc, .slice ka kl kc] w1 (k * 6)
        refine ⟨k + 1, G', by omega, by go_num, puts_below (Nat.le_refl _) [.string (cth xs k).name, .int .i64 s, .int .i64 n, .string t, .slice na nl nc, .slice ka kl kc] w1 (k * 6) (hbel.trans (hby.mono hs1)), hG, fun i hi => ?_, HN1.out.puts w.heap.size (k * 6) [.string (cth xs k).name, .int .i64 s, .int .i64 n, .string t, .slice na nl nc, .slice ka kl kc]⟩
        by_cases e1 : i = k
        · rw [e1, g0, g1, g2, g3, g4, g5]
          refine (hry.mono fun b hb => hpb b (by omega) [.string (cth xs k).name, .int .i64 s, .int .i64 n, .string t, .slice na nl nc, .slice ka kl kc] w1 _).sub fun b hb => ⟨by omega, ?_⟩
          show b < (puts w1 w.heap.size (k * 6) [.string (cth xs k).name, .int .i64 s, .int .i64 n, .string t, .slice na nl nc, .slice ka kl kc]).heap.size
          omega
        · rw [hGF _ (by omega), hGF _ (by omega), hGF _ (by omega), hGF _ (by omega), hGF _ (by omega), hGF _ (by omega)]
          refine ((hreps i (by omega)).mono fun b hb => (hpb b (by omega) [.string (cth xs k).name, .int .i64 s, .int .i64 n, .string t, .slice na nl nc, .slice ka kl kc] w1 _).trans (hby.block b hb.2)).sub fun b hb => ⟨hb.1, ?_⟩
          show b < (puts w1 w.heap.size (k * 6) [.string (cth xs k).name, .int .i64 s, .int .i64 n, .string t, .slice na nl nc, .slice ka kl kc]).heap.size
          omega
      case measure => simp [intOf]; omega
    · go_wp2_with fail
      go_ret
      have e : k = xs.length := by omega
      subst e
      refine ⟨rfl, hbel, hrow.lt, ⟨h3, fun i j => G (i * 6 + j), fun _ => ⟨_, _, rfl, ⟨Nat.le_refl _, hrow.lt⟩, fun i hi j hj => ?_⟩, fun i hi => (hreps i hi).sub fun b hb => ⟨by omega, hb.2⟩⟩, HNF.out⟩
      have := hrow.cell (i := i * 6 + j) (by omega)
      simpa using this

/-- What toRow's last steps leave. -/
theorem cpRo_end {w w1 : World} {t : Ro} {x : Value} {N : Nat} (hN : N = w.heap.size) (hbw : Below N w w1) (hsz1 : N + 1 + 1 + 1 < w1.heap.size)
    (hst1 : CeReps w1 (fun b => N + 1 + 1 + 1 ≤ b ∧ b < w1.heap.size) t.cells (some ⟨N + 1 + 1 + 1, 0, none⟩)) (h1 : t.type.size ≤ maxLen) (cs : List Value) :
    Below N w (puts (w1.setCell ⟨N + 1 + 1, 2, none⟩ x) (N + 1) 0 cs) ∧
    RoRep (puts (w1.setCell ⟨N + 1 + 1, 2, none⟩ x) (N + 1) 0 cs) (fun b => N ≤ b ∧ b < (puts (w1.setCell ⟨N + 1 + 1, 2, none⟩ x) (N + 1) 0 cs).heap.size) t
      (.agg #[.string t.type, .int .i64 t.id, .slice (some ⟨N + 1 + 1 + 1, 0, none⟩) t.cells.length t.cells.length]) := by
  have hsz : (puts (w1.setCell ⟨N + 1 + 1, 2, none⟩ x) (N + 1) 0 cs).heap.size = w1.heap.size := by rw [puts_size, size_set]
  refine ⟨puts_below (by omega) _ _ _ (hbw.setCell (by show N ≤ N + 1 + 1; omega) _), _, _, rfl, (hst1.mono fun k hk => ?_).sub fun k hk => ?_, Nat.le_refl _, h1⟩
  · rw [puts_block _ _ (by omega), Below.heap_setCell _ _ _ _ (by show k ≠ N + 1 + 1; omega)]
  · rw [hsz]; omega

set_option maxHeartbeats 800000 in
theorem toRow_nf (t : Ro) (w : World) (B : Nat) (v : Value) (hR : RoRep w (· < B) t v) (hB : B ≤ w.heap.size) :
    Calls Tryz.prog 20 #[v] w fun e w' => ∃ (fa : Option Addr) (fc : Nat), e = .returned (.agg #[.string t.type, .int .i64 t.id, .slice fa t.cells.length fc]) ∧ Below w.heap.size w w' ∧
      RoRep w' (fun b => w.heap.size ≤ b ∧ b < w'.heap.size) t (.agg #[.string t.type, .int .i64 t.id, .slice fa t.cells.length fc]) ∧ NF w.heap.size w' := by
  obtain ⟨na, nc, rfl, hs, hnc, hn⟩ := hR
  obtain ⟨type, id, cells⟩ := t
  simp only at hs hnc hn
  have hb3 : ∀ o1 o2 o3, Below w.heap.size w (((w.alloc o1).alloc o2).alloc o3) := fun o1 o2 o3 => (((Below.refl _ _).alloc (Nat.le_refl _) _).alloc (by simp) _).alloc (by simp; omega) _
  go_enter Tryz.func20, Tryz.ntmps20
  go_wp2_with (
      go_at_call 38
      refine (toCellS_nf cells _ B na nc (hs.under ((hb3 _ _ _).mono hB)) (by simp; omega)).mono ?_
      rintro e w1 ⟨rfl, hb1, hsz1, hst1, hnf1⟩
      have HN1 : Hid (NF w.heap.size w1) := NF.call (NF.three w _ _ _ _ _ _) hb1 hnf1
      clear hnf1
      obtain ⟨c1, f1⟩ := bcell hb1
      simp at hsz1
      have hlt1 : w.heap.size + 1 + 1 < w1.heap.size := by omega)
  have hbw : Below w.heap.size w w1 := (hb3 _ _ _).trans (hb1.mono (by simp; omega))
  have fin := cpRo_end (w := w) (w1 := w1) (t := ⟨type, id, cells⟩) (x := .slice (some ⟨w.heap.size + 1 + 1 + 1, 0, none⟩) cells.length cells.length) (N := w.heap.size) rfl hbw hsz1 (by simpa using hst1) hn [.string type, .int .i64 id, .slice (some ⟨w.heap.size + 1 + 1 + 1, 0, none⟩) cells.length cells.length]
  refine bodyPost_ret (v := .agg #[.string type, .int .i64 id, .slice (some ⟨w.heap.size + 1 + 1 + 1, 0, none⟩) cells.length cells.length]) ?res rfl ⟨_, _, rfl, fin.1, fin.2, fun a ha => by simp only [World.frozen?_setCell]; exact HN1.out a ha⟩
  case res =>
    have hr0 : ∀ o1 o3 c, ((((w.alloc o1).alloc (.cells c 51)).alloc o3)).rowIs (w.heap.size + 1) 51 c.size (fun i => c[i]?.getD undef) := fun o1 o3 c => by
      have h := ((w.alloc o1).rowIs_alloc c 51 (fun i => c[i]?.getD undef) (fun i hi => by simp [hi])).alloc o3
      simpa using h
    have hr1 := (hr0 _ _ _).of_block (hb1.block (w.heap.size + 1) (by simp))
    have p0 := hr1.cell (i := 0) (by simp)
    have p1 := hr1.cell (i := 1) (by simp)
    have p2 := hr1.cell (i := 2) (by simp)
    clear fin hst1 hs c1 f1 hb1 hr0 hr1
    simp [results, Tryz.results20, go_sem, p0, p1, p2]

set_option maxHeartbeats 1600000 in
theorem toRowS_nf (xs : List Ro) (w : World) (B : Nat) (a : Option Addr) (c : Nat) (hK : RoReps w (· < B) xs a) (hB : B ≤ w.heap.size) :
    Calls Tryz.prog 8 #[.slice a xs.length c] w fun e w' => e = .returned (.slice (some ⟨w.heap.size, 0, none⟩) xs.length xs.length) ∧ Below w.heap.size w w' ∧ w.heap.size < w'.heap.size ∧
      RoReps w' (fun b => w.heap.size ≤ b ∧ b < w'.heap.size) xs (some ⟨w.heap.size, 0, none⟩) ∧ NF w.heap.size w' := by
  have h3 := hK.1
  obtain ⟨-, C, hA, hr⟩ := hK
  have hmk := run_make_any (P := Tryz.prog) 28 51 (.agg #[.string ByteArray.empty, .int .i64 0, .slice none 0 0]) #[.string ByteArray.empty, .int .i64 0, .slice none 0 0] rfl 3 48 Tryz.underlying28 info_Row .i64 .i64 xs.length h3 (by omega)
  go_enter Tryz.func8, Tryz.ntmps8
  go_wp2_with fail
  go_loopw [4] (fun i wr => ∃ (k : Nat) (G : Nat → Value), k ≤ xs.length ∧ i = .int .i64 k ∧ Below w.heap.size w wr ∧ wr.rowIs w.heap.size 51 (xs.length * 3) G ∧
      (∀ i, i < k → RoRep wr (fun b => w.heap.size < b ∧ b < wr.heap.size) (rth xs i) (.agg #[G (i * 3), G (i * 3 + 1), G (i * 3 + 2)])) ∧ NF w.heap.size wr) (fun i _ => xs.length - (intOf i).toNat)
  case atStart =>
    obtain ⟨G, hG⟩ := made_row w #[.string ByteArray.empty, .int .i64 0, .slice none 0 0] (xs.length * 3) 51
    exact ⟨0, G, Nat.zero_le _, rfl, below_box _ _, hG, fun i hi => by omega, (NF.new w).alloc _ _⟩
  case round =>
    obtain ⟨k, G, hk, rfl, hbel, hrow, hreps, hnf⟩ := hrel
    have HNF : Hid (NF w.heap.size wr) := hnf
    clear hnf
    by_cases hlt : k < xs.length
    · obtain ⟨b, off, rfl, hbB, hc⟩ := hA (by omega)
      have hck : ∀ j, j < 3 → wr.cell? ⟨b, off + k * 3 + j, none⟩ = some (C k j) := fun j hj => (hbel.cell (p := ⟨b, off + k * 3 + j, none⟩) (by show b < _; omega)).trans (hc k hlt j hj)
      have hc0 : wr.cell? ⟨b, off + k * 3, none⟩ = some (C k 0) := hck 0 (by omega)
      have hc1 : wr.cell? ⟨b, off + k * 3 + 1, none⟩ = some (C k 1) := hck 1 (by omega)
      have hc2 : wr.cell? ⟨b, off + k * 3 + 2, none⟩ = some (C k 2) := hck 2 (by omega)
      clear hck hc
      go_wp2_with (
        go_at_call 20
        refine (toRow_nf (rth xs k) _ B _ ((hr k hlt).under (hbel.mono hB)) (by have := hbel.size; omega)).mono ?_
        rintro e w1 ⟨na, nc, rfl, hby, hry, hnf1⟩
        have HN1 : Hid (NF w.heap.size w1) := NF.call HNF.out hby hnf1
        clear hnf1
        have hrow1 := hrow.of_block (hby.block _ hrow.lt)
        have q0 : w1.cell? ⟨w.heap.size, k * 3, none⟩ = some (G (k * 3)) := hrow1.cell (by omega)
        have q1 : w1.cell? ⟨w.heap.size, k * 3 + 1, none⟩ = some (G (k * 3 + 1)) := hrow1.cell (by omega)
        have q2 : w1.cell? ⟨w.heap.size, k * 3 + 2, none⟩ = some (G (k * 3 + 2)) := hrow1.cell (by omega)
        have z0 : ∀ j, w1.frozen? ⟨w.heap.size, j, none⟩ = false := fun j => hrow1.frozen j)
      go_roundw
      case rel =>
        obtain ⟨G', hG, hG1, hGF⟩ := puts_row [.string (rth xs k).type, .int .i64 (rth xs k).id, .slice na (rth xs k).cells.length nc] (k * 3) hrow1
        have hs1 := hbel.size
        have hs2 := hby.size
        have hs3 := hrow.lt
        have g0 : G' (k * 3) = .string (rth xs k).type := hG1 0 (by simp)
        have g1 : G' (k * 3 + 1) = .int .i64 (rth xs k).id := hG1 1 (by simp)
        have g2 : G' (k * 3 + 2) = .slice na (rth xs k).cells.length nc := hG1 2 (by simp)
        have hpb := puts_block w.heap.size
        have hps := puts_size w.heap.size [.string (rth xs k).type, .int .i64 (rth xs k).id, .slice na (rth xs k).cells.length nc] w1 (k * 3)
        refine ⟨k + 1, G', by omega, by go_num, puts_below (Nat.le_refl _) [.string (rth xs k).type, .int .i64 (rth xs k).id, .slice na (rth xs k).cells.length nc] w1 (k * 3) (hbel.trans (hby.mono hs1)), hG, fun i hi => ?_, HN1.out.puts w.heap.size (k * 3) [.string (rth xs k).type, .int .i64 (rth xs k).id, .slice na (rth xs k).cells.length nc]⟩
        by_cases e1 : i = k
        · rw [e1, g0, g1, g2]
          refine (hry.mono fun b hb => hpb b (by omega) [.string (rth xs k).type, .int .i64 (rth xs k).id, .slice na (rth xs k).cells.length nc] w1 _).sub fun b hb => ⟨by omega, ?_⟩
          show b < (puts w1 w.heap.size (k * 3) [.string (rth xs k).type, .int .i64 (rth xs k).id, .slice na (rth xs k).cells.length nc]).heap.size
          omega
        · rw [hGF _ (by omega), hGF _ (by omega), hGF _ (by omega)]
          refine ((hreps i (by omega)).mono fun b hb => (hpb b (by omega) [.string (rth xs k).type, .int .i64 (rth xs k).id, .slice na (rth xs k).cells.length nc] w1 _).trans (hby.block b hb.2)).sub fun b hb => ⟨hb.1, ?_⟩
          show b < (puts w1 w.heap.size (k * 3) [.string (rth xs k).type, .int .i64 (rth xs k).id, .slice na (rth xs k).cells.length nc]).heap.size
          omega
      case measure => simp [intOf]; omega
    · go_wp2_with fail
      go_ret
      have e : k = xs.length := by omega
      subst e
      refine ⟨rfl, hbel, hrow.lt, ⟨h3, fun i j => G (i * 3 + j), fun _ => ⟨_, _, rfl, ⟨Nat.le_refl _, hrow.lt⟩, fun i hi j hj => ?_⟩, fun i hi => (hreps i hi).sub fun b hb => ⟨by omega, hb.2⟩⟩, HNF.out⟩
      have := hrow.cell (i := i * 3 + j) (by omega)
      simpa using this
end Go.Proofs.YtbpdchlbhfjddaaGreat

namespace Go.Proofs.YtbpdchlbhfjddaaGreat
set_option linter.unusedSimpArgs false
set_option linter.unusedVariables false
open Go.RowKit

/-- The names of the value at the way p: their block bears the label 0 :: p, and may be written. -/
def LStrs (w : World) (lab : Nat → List Nat) (p : List Nat) (ns : List ByteArray) (na : Option Addr) : Prop :=
  ns ≠ [] → ∃ b off, na = some ⟨b, off, none⟩ ∧ lab b = 0 :: p ∧ (∀ i, w.frozen? ⟨b, i, none⟩ = false) ∧ ∀ i, i < ns.length → w.cell? ⟨b, off + i, none⟩ = some (.string (nth ns i))
/-- The value at the way p: the block of its kids bears the label 1 :: p, kid i is at the way (i + 2) :: p. -/
def LRepN (w : World) (lab : Nat → List Nat) : Nat → List Nat → V → Value → Prop
  | 0, _, _, _ => False
  | f + 1, p, x, v => ∃ (na ka : Option Addr) (nc kc b off : Nat) (C : Nat → Nat → Value),
      v = .agg #[.int .i64 x.sort, .int .i64 x.num, .string x.text, .slice na x.names.length nc, .slice ka x.kids.length kc] ∧ LStrs w lab p x.names na ∧
      (x.kids ≠ [] → ka = some ⟨b, off, none⟩ ∧ lab b = 1 :: p ∧ ∀ i, w.frozen? ⟨b, i, none⟩ = false) ∧ (∀ i, i < x.kids.length → ∀ j, j < 5 → w.cell? ⟨b, off + i * 5 + j, none⟩ = some (C i j)) ∧
      ∀ i, i < x.kids.length → LRepN w lab f ((i + 2) :: p) (kth x.kids i) (.agg #[C i 0, C i 1, C i 2, C i 3, C i 4])
def LRep (w : World) (lab : Nat → List Nat) (p : List Nat) (x : V) (v : Value) : Prop := ∃ f, LRepN w lab f p x v
/-- The kids of the value at the way p. -/
def LKids (w : World) (lab : Nat → List Nat) (p : List Nat) (ks : List V) (ka : Option Addr) : Prop :=
  ∃ (b off : Nat) (C : Nat → Nat → Value), (ks ≠ [] → ka = some ⟨b, off, none⟩ ∧ lab b = 1 :: p ∧ ∀ i, w.frozen? ⟨b, i, none⟩ = false) ∧ (∀ i, i < ks.length → ∀ j, j < 5 → w.cell? ⟨b, off + i * 5 + j, none⟩ = some (C i j)) ∧
    ∀ i, i < ks.length → LRep w lab ((i + 2) :: p) (kth ks i) (.agg #[C i 0, C i 1, C i 2, C i 3, C i 4])

theorem LRepN.le {w : World} {lab : Nat → List Nat} : ∀ {f g : Nat} {p : List Nat} {x : V} {v : Value}, LRepN w lab f p x v → f ≤ g → LRepN w lab g p x v
  | 0, _, _, _, _, h, _ => h.elim
  | f + 1, 0, _, _, _, _, hg => by omega
  | f + 1, g + 1, p, x, v, h, hg => by
    obtain ⟨na, ka, nc, kc, b, off, C, h1, h2, h3, h4, h5⟩ := h
    exact ⟨na, ka, nc, kc, b, off, C, h1, h2, h3, h4, fun i hi => (h5 i hi).le (by omega)⟩
theorem lrep_bound {w : World} {lab : Nat → List Nat} {W : Nat → List Nat} {X : Nat → V} {U : Nat → Value} : ∀ n : Nat, (∀ i, i < n → LRep w lab (W i) (X i) (U i)) → ∃ f, ∀ i, i < n → LRepN w lab f (W i) (X i) (U i)
  | 0, _ => ⟨0, fun i hi => by omega⟩
  | n + 1, h => by
    obtain ⟨f, hf⟩ := lrep_bound n fun i hi => h i (by omega)
    obtain ⟨g, hg⟩ := h n (by omega)
    refine ⟨f + g, fun i hi => ?_⟩
    by_cases e : i = n
    · subst e; exact hg.le (by omega)
    · exact (hf i (by omega)).le (by omega)
theorem LRep.of_kids {w : World} {lab : Nat → List Nat} {p : List Nat} {s n : Int} {t : ByteArray} {ns : List ByteArray} {ks : List V} {na ka : Option Addr} {nc kc : Nat} (hs : LStrs w lab p ns na) (hK : LKids w lab p ks ka) :
    LRep w lab p (.mk s n t ns ks) (.agg #[.int .i64 s, .int .i64 n, .string t, .slice na ns.length nc, .slice ka ks.length kc]) := by
  obtain ⟨b, off, C, hka, hc, hr⟩ := hK
  obtain ⟨f, hf⟩ := lrep_bound ks.length hr
  exact ⟨f + 1, na, ka, nc, kc, b, off, C, rfl, hs, hka, hc, hf⟩
theorem LRep.inv {w : World} {lab : Nat → List Nat} {p : List Nat} {x : V} {v : Value} (h : LRep w lab p x v) :
    ∃ (na ka : Option Addr) (nc kc : Nat), v = .agg #[.int .i64 x.sort, .int .i64 x.num, .string x.text, .slice na x.names.length nc, .slice ka x.kids.length kc] ∧ LStrs w lab p x.names na ∧ LKids w lab p x.kids ka := by
  obtain ⟨f, h⟩ := h
  match f, h with
  | f + 1, h =>
    obtain ⟨na, ka, nc, kc, b, off, C, hv, hs, hka, hc, hr⟩ := h
    exact ⟨na, ka, nc, kc, hv, hs, b, off, C, hka, hc, fun i hi => ⟨f, hr i hi⟩⟩

theorem suffix_cons {a : Nat} {p l : List Nat} (h : (a :: p) <:+ l) : p <:+ l := (List.suffix_cons a p).trans h
theorem LStrs.keep {w w' : World} {lab : Nat → List Nat} {p : List Nat} {ns : List ByteArray} {na : Option Addr} (h : LStrs w lab p ns na) (e : ∀ b, lab b ≠ [] → p <:+ lab b → w'.heap[b]? = w.heap[b]?) : LStrs w' lab p ns na := fun hn => by
  obtain ⟨b, off, h1, h2, h3, h4⟩ := h hn
  have hb := e b (by rw [h2]; simp) (by rw [h2]; exact List.suffix_cons 0 p)
  exact ⟨b, off, h1, h2, fun i => (World.frozen?_of_block (w := w) (a := ⟨b, i, none⟩) hb).trans (h3 i), fun i hi => (World.cell?_of_block (w := w) (a := ⟨b, off + i, none⟩) hb).trans (h4 i hi)⟩
theorem LRepN.keep {w w' : World} {lab : Nat → List Nat} : ∀ {f : Nat} {p : List Nat} {x : V} {v : Value}, LRepN w lab f p x v → (∀ b, lab b ≠ [] → p <:+ lab b → w'.heap[b]? = w.heap[b]?) → LRepN w' lab f p x v
  | 0, _, _, _, h, _ => h.elim
  | f + 1, p, x, v, h, e => by
    obtain ⟨na, ka, nc, kc, b, off, C, h1, h2, h3, h4, h5⟩ := h
    refine ⟨na, ka, nc, kc, b, off, C, h1, h2.keep e, fun hn => ?_, fun i hi j hj => ?_, fun i hi => (h5 i hi).keep fun b' hb' hs' => e b' hb' (suffix_cons hs')⟩
    · obtain ⟨k1, k2, k3⟩ := h3 hn
      have hb := e b (by rw [k2]; simp) (by rw [k2]; exact List.suffix_cons 1 p)
      exact ⟨k1, k2, fun i => (World.frozen?_of_block (w := w) (a := ⟨b, i, none⟩) hb).trans (k3 i)⟩
    · obtain ⟨k1, k2, k3⟩ := h3 (by intro e; simp [e] at hi)
      have hb := e b (by rw [k2]; simp) (by rw [k2]; exact List.suffix_cons 1 p)
      exact (World.cell?_of_block (w := w) (a := ⟨b, off + i * 5 + j, none⟩) hb).trans (h4 i hi j hj)
theorem LRep.keep {w w' : World} {lab : Nat → List Nat} {p : List Nat} {x : V} {v : Value} (h : LRep w lab p x v) (e : ∀ b, lab b ≠ [] → p <:+ lab b → w'.heap[b]? = w.heap[b]?) : LRep w' lab p x v := by
  obtain ⟨f, h⟩ := h; exact ⟨f, h.keep e⟩
theorem LKids.keep {w w' : World} {lab : Nat → List Nat} {p : List Nat} {ks : List V} {ka : Option Addr} (h : LKids w lab p ks ka) (e : ∀ b, lab b ≠ [] → p <:+ lab b → w'.heap[b]? = w.heap[b]?) : LKids w' lab p ks ka := by
  obtain ⟨b, off, C, h3, h4, h5⟩ := h
  refine ⟨b, off, C, fun hn => ?_, fun i hi j hj => ?_, fun i hi => (h5 i hi).keep fun b' hb' hs' => e b' hb' (suffix_cons hs')⟩
  · obtain ⟨k1, k2, k3⟩ := h3 hn
    have hb := e b (by rw [k2]; simp) (by rw [k2]; exact List.suffix_cons 1 p)
    exact ⟨k1, k2, fun i => (World.frozen?_of_block (w := w) (a := ⟨b, i, none⟩) hb).trans (k3 i)⟩
  · obtain ⟨k1, k2, k3⟩ := h3 (by intro e; simp [e] at hi)
    have hb := e b (by rw [k2]; simp) (by rw [k2]; exact List.suffix_cons 1 p)
    exact (World.cell?_of_block (w := w) (a := ⟨b, off + i * 5 + j, none⟩) hb).trans (h4 i hi j hj)
end Go.Proofs.YtbpdchlbhfjddaaGreat

namespace Go.Proofs.YtbpdchlbhfjddaaGreat
set_option linter.unusedSimpArgs false
set_option linter.unusedVariables false
open Go.RowKit

/-- The figures of a number ahead of others. -/
def digs : Nat → Nat → List UInt8 → List UInt8
  | 0, _, acc => acc
  | f + 1, k, acc => if k = 0 then acc else digs f (k / 10) (UInt8.ofNat (48 + k % 10) :: acc)
/-- The text of a mark. -/
def mtext (k : Nat) : ByteArray := ⟨(109 :: (if k = 0 then [48] else digs 64 k [])).toArray⟩
theorem digs_zero (f : Nat) (acc : List UInt8) : digs f 0 acc = acc := by cases f <;> simp [digs]
theorem digs_len : ∀ (f k : Nat) (acc : List UInt8), (digs f k acc).length ≤ f + acc.length
  | 0, _, acc => by simp [digs]
  | f + 1, k, acc => by
    rw [digs]
    split
    · omega
    · have := digs_len f (k / 10) (UInt8.ofNat (48 + k % 10) :: acc)
      simp only [List.length_cons] at this
      omega

set_option maxRecDepth 20000 in
set_option maxHeartbeats 800000 in
theorem markText_any (k : Nat) (w : World) (hk : k ≤ 1152921504606846976) :
    Calls Tryz.prog 27 #[.int .i64 k] w fun e w' => e = .returned (.string (mtext k)) ∧ Below w.heap.size w w' := by
  by_cases h0 : k = 0
  · subst h0
    go_enter Tryz.func27, Tryz.ntmps27
    go_wp2_with fail
    go_ret
    exact ⟨by rw [mtext]; rfl, Below.refl _ _⟩
  have h1 : ¬ (k : Int) ≤ 0 := by omega
  have h2 : ¬ k ≤ 0 := by omega
  have HM : Hid (mtext k = ⟨(109 :: digs 64 k []).toArray⟩) := by show _ = _; rw [mtext, if_neg h0]
  go_enter Tryz.func27, Tryz.ntmps27
  go_wp2_with fail
  go_loopw [0, 3] (fun kk o wr => ∃ (n f : Nat) (x : ByteArray), kk = .int .i64 n ∧ o = .string x ∧ Hid (n < 10 ^ f ∧ n ≤ k ∧ x.size + f ≤ 64 ∧ digs 64 k [] = digs f n x.data.toList) ∧ Below w.heap.size w wr) (fun kk _ _ => (intOf kk).toNat)
  case atStart => exact ⟨k, 64, ByteArray.empty, rfl, rfl, ⟨by omega, Nat.le_refl _, by decide, rfl⟩, Below.refl _ _⟩
  case round =>
    obtain ⟨n, f, x, rfl, rfl, HH, hb⟩ := hrel
    obtain ⟨w0, rfl⟩ : ∃ x, x = wr := ⟨wr, rfl⟩
    have hxs : x.size + 1 ≤ 9223372036854775807 := by have := HH.out.2.2.1; omega
    have hxs2 : 1 + x.size ≤ 9223372036854775807 := by omega
    by_cases hn0 : n = 0
    · subst hn0
      have hfin : Hid (mtext k = ⟨#[109]⟩ ++ x) := by
        show _ = _
        rw [HM.out, HH.out.2.2.2, digs_zero]
        apply ByteArray.ext
        apply Array.toList_inj.1
        rw [ByteArray.data_append]
        simp
      go_wp2_with fail
      go_ret
      exact ⟨by rw [hfin.out]; rfl, hb⟩
    · have g0 : (0 : Int) < (n : Int) := by omega
      have hni : (n : Int) ≤ 1152921504606846976 := by have := HH.out.2.1; omega
      have hcv : Sem.run Tryz.prog (convert 103 9 (.slice (some ⟨w0.heap.size, 0, none⟩) 1 1)) (w0.alloc (.cells #[.int .u8 (48 + (n : Int) % 10)] 5)) = .ok (.string ⟨#[UInt8.ofNat (48 + n % 10)]⟩) (w0.alloc (.cells #[.int .u8 (48 + (n : Int) % 10)] 5)) :=
        run_convert_bytes_back (P := Tryz.prog) _ 103 9 5 ⟨w0.heap.size, 0, none⟩ 1 [UInt8.ofNat (48 + n % 10)] Tryz.underlying103 Tryz.underlying5 Tryz.underlying9 (fun j hj => by
          have hj0 : j = 0 := by simpa using hj
          subst hj0
          have hd : (UInt8.ofNat (48 + n % 10)).toNat = 48 + n % 10 := by rw [UInt8.toNat_ofNat']; omega
          simp only [List.getElem_cons_zero, hd]
          simp [Addr.add])
      generalize hdd : UInt8.ofNat (48 + n % 10) = d at hcv
      have hsd : (⟨#[d]⟩ : ByteArray).size = 1 := rfl
      go_wp2_with fail
      obtain ⟨q1, q2, q3, q4⟩ := HH.out
      obtain ⟨f, rfl⟩ : ∃ g, f = g + 1 := ⟨f - 1, by
        rcases Nat.eq_zero_or_pos f with h | h
        · subst h; simp at q1; omega
        · omega⟩
      go_roundw
      case rel =>
        refine ⟨n / 10, f, ⟨#[d]⟩ ++ x, by simp, rfl, ⟨?_, ?_, ?_, ?_⟩, hb.alloc hb.size _⟩
        · rw [Nat.pow_succ] at q1; omega
        · omega
        · rw [ByteArray.size_append, hsd]; omega
        · rw [q4, digs, if_neg hn0, hdd, ByteArray.data_append]; simp
      case measure => simp [intOf]; omega
end Go.Proofs.YtbpdchlbhfjddaaGreat
