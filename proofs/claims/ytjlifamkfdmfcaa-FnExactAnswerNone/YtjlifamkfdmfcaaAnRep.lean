/-
  Answers in memory, and the laws' functions over them.
-/
import Derived.Test.YtjlifamkfdmfcaaWrRep
namespace Go.Proofs.Ytjlifamkfdmfcaa
set_option linter.unusedSimpArgs false
set_option linter.unusedVariables false
open Go.RowKit

theorem hidA {q : Prop} (h : q) : Hid q := h
/-- An answer as it is meant. -/
structure An where
  data : V
  wrongs : List Wr
def AnRep (w : World) (P : Nat → Prop) (t : An) (v : Value) : Prop := ∃ (c0 c1 c2 c3 c4 : Value) (fa : Option Addr) (fc : Nat),
  v = .agg #[c0, c1, c2, c3, c4, .slice fa t.wrongs.length fc] ∧ Rep w P t.data (.agg #[c0, c1, c2, c3, c4]) ∧ WrReps w P t.wrongs fa ∧ t.wrongs.length ≤ fc
theorem AnRep.mono {w w' : World} {P : Nat → Prop} {t : An} {v : Value} (h : AnRep w P t v) (e : ∀ k, P k → w'.heap[k]? = w.heap[k]?) : AnRep w' P t v := by
  obtain ⟨c0, c1, c2, c3, c4, fa, fc, h1, h2, h3, h4⟩ := h; exact ⟨c0, c1, c2, c3, c4, fa, fc, h1, h2.mono e, h3.mono e, h4⟩
theorem AnRep.sub {w : World} {P Q : Nat → Prop} {t : An} {v : Value} (h : AnRep w P t v) (e : ∀ k, P k → Q k) : AnRep w Q t v := by
  obtain ⟨c0, c1, c2, c3, c4, fa, fc, h1, h2, h3, h4⟩ := h; exact ⟨c0, c1, c2, c3, c4, fa, fc, h1, h2.sub e, h3.sub e, h4⟩
theorem AnRep.under {w w' : World} {B : Nat} {x : An} {v : Value} (h : AnRep w (· < B) x v) (hb : Below B w w') : AnRep w' (· < B) x v := h.mono fun k hk => hb.block k hk

set_option maxHeartbeats 400000 in
theorem szAnswer_any (t : An) (w : World) (B : Nat) (v : Value) (left : Int) (hR : AnRep w (· < B) t v) (hB : B ≤ w.heap.size) (hl0 : 0 ≤ left) (hl1 : left ≤ 1048576) :
    Calls Try.prog 14 #[v, .int .i64 left] w fun e w' => ∃ x : Int, e = .returned (.int .i64 x) ∧ -1 ≤ x ∧ x ≤ left ∧ (0 ≤ x → x + szV t.data ≤ left) ∧ Below w.heap.size w w' := by
  obtain ⟨c0, c1, c2, c3, c4, fa, fc, rfl, hV, hW, hfc⟩ := hR
  go_enter Try.func14, Try.ntmps14
  go_wp2_with fail
  refine (szValue_sum t.data _ B _ left (hV.under ((below_box w _).mono hB)) (by simp; omega) hl0 hl1).mono ?_
  rintro e w1 ⟨y, rfl, hy0, hy1, hy2, hb1⟩
  have b1 : Below w.heap.size w w1 := (below_box w _).trans (hb1.mono (by simp))
  have z1 := hb1.size
  simp at z1
  have p5 : w1.cell? ⟨w.heap.size, 5, none⟩ = some (.slice fa t.wrongs.length fc) := (hb1.cell (p := ⟨w.heap.size, 5, none⟩) (by simp)).trans (by simp)
  by_cases hy : y < 0
  · go_wp2_with fail
    go_ret
    exact ⟨-1, rfl, by omega, by omega, by omega, b1⟩
  · go_wp2_with (go_at_call 37; refine (szWrongS_any t.wrongs _ B fa fc y (hW.under (b1.mono hB)) (by omega) (by omega) (by omega)).mono ?_; rintro e w2 ⟨u, rfl, hu0, hu1, -, hb2⟩)
    · go_ret
      exact ⟨-1, rfl, by omega, by omega, by omega, b1.trans (hb2.mono (by omega))⟩
    · go_ret
      exact ⟨u, rfl, by omega, by omega, fun h => by have := hy2 (by omega); omega, b1.trans (hb2.mono (by omega))⟩

set_option maxHeartbeats 800000 in
theorem eqAnswer_any (t : An) (w : World) (B : Nat) (v v' : Value) (hR : AnRep w (· < B) t v) (hR' : AnRep w (· < B) t v') (hB : B ≤ w.heap.size) :
    Calls Try.prog 18 #[v, v'] w fun e w' => e = .returned (.bool true) ∧ Below w.heap.size w w' := by
  obtain ⟨c0, c1, c2, c3, c4, fa, fc, rfl, hV, hW, hfc⟩ := hR
  obtain ⟨d0, d1, d2, d3, d4, ga, gc, rfl, hV', hW', hgc⟩ := hR'
  go_enter Try.func18, Try.ntmps18
  go_wp2_with fail
  refine (eqValue_any t.data _ B _ _ (hV.under ((below_box2 w _ _).mono hB)) (hV'.under ((below_box2 w _ _).mono hB)) (by simp; omega)).mono ?_
  rintro e w1 ⟨rfl, hb1⟩
  have b1 : Below w.heap.size w w1 := (below_box2 w _ _).trans (hb1.mono (by simp; omega))
  have z1 := hb1.size
  simp at z1
  have p5 : w1.cell? ⟨w.heap.size, 5, none⟩ = some (.slice fa t.wrongs.length fc) := (hb1.cell (p := ⟨w.heap.size, 5, none⟩) (by show w.heap.size < _; simp; omega)).trans (by simp)
  have q5 : w1.cell? ⟨w.heap.size + 1, 5, none⟩ = some (.slice ga t.wrongs.length gc) := (hb1.cell (p := ⟨w.heap.size + 1, 5, none⟩) (by simp)).trans (by simp)
  go_wp2_with (go_at_call 44; refine (eqWrongS_any t.wrongs _ B fa ga fc gc (hW.under (b1.mono hB)) (hW'.under (b1.mono hB)) (by omega)).mono ?_; rintro e w2 ⟨rfl, hb2⟩)
  go_ret
  exact ⟨rfl, b1.trans (hb2.mono (by omega))⟩

set_option maxHeartbeats 1600000 in
theorem toAnswer_nf (t : An) (w : World) (B : Nat) (v : Value) (hR : AnRep w (· < B) t v) (hB : B ≤ w.heap.size) :
    Calls Try.prog 16 #[v] w fun e w' => ∃ (s n : Int) (tx : ByteArray) (na ka : Option Addr) (nl nc kl kc : Nat) (fa : Option Addr) (fc : Nat), e = .returned (.agg #[.int .i64 s, .int .i64 n, .string tx, .slice na nl nc, .slice ka kl kc, .slice fa t.wrongs.length fc]) ∧ Below w.heap.size w w' ∧
      AnRep w' (fun b => w.heap.size ≤ b ∧ b < w'.heap.size) t (.agg #[.int .i64 s, .int .i64 n, .string tx, .slice na nl nc, .slice ka kl kc, .slice fa t.wrongs.length fc]) ∧ NF w.heap.size w' := by
  obtain ⟨c0, c1, c2, c3, c4, wa, wc, rfl, hV, hW, hfc⟩ := hR
  have hb3 : ∀ o1 o2 o3, Below w.heap.size w (((w.alloc o1).alloc o2).alloc o3) := fun o1 o2 o3 => (((Below.refl _ _).alloc (Nat.le_refl _) _).alloc (by simp) _).alloc (by simp; omega) _
  go_enter Try.func16, Try.ntmps16
  go_wp2_with fail
  refine (toValue_nf t.data _ B _ (hV.under ((hb3 _ _ _).mono hB)) (by simp; omega)).mono ?_
  rintro e w1 ⟨s1, n1, t1, na1, ka1, nl1, nc1, kl1, kc1, rfl, hb1, hr1, hnf1⟩
  have z1 := hb1.size
  simp at z1
  have b1 : Below w.heap.size w w1 := (hb3 _ _ _).trans (hb1.mono (by simp; omega))
  have HN1 : Hid (NF w.heap.size w1) := NF.call (NF.three w _ _ _ _ _ _) hb1 hnf1
  clear hnf1
  have K2 : w1.heap[w.heap.size + 1 + 1]? = some (.cells #[.int .i64 0, .int .i64 0, .string ByteArray.empty, .slice none 0 0, .slice none 0 0, .slice none 0 0] 47 (0, 0)) := (hb1.block _ (by simp)).trans (by
    have := heap_alloc_new ((w.alloc (.cells #[c0, c1, c2, c3, c4, .slice wa t.wrongs.length wc] 42)).alloc (.cells #[.int .i64 0, .int .i64 0, .string ByteArray.empty, .slice none 0 0, .slice none 0 0, .slice none 0 0] 47)) (.cells #[.int .i64 0, .int .i64 0, .string ByteArray.empty, .slice none 0 0, .slice none 0 0, .slice none 0 0] 47)
    simp only [World.size_alloc] at this
    exact this)
  have K1 : w1.heap[w.heap.size + 1]? = some (.cells #[.int .i64 0, .int .i64 0, .string ByteArray.empty, .slice none 0 0, .slice none 0 0, .slice none 0 0] 47 (0, 0)) := (hb1.block _ (by simp)).trans (by
    have := heap_alloc_new (w.alloc (.cells #[c0, c1, c2, c3, c4, .slice wa t.wrongs.length wc] 42)) (.cells #[.int .i64 0, .int .i64 0, .string ByteArray.empty, .slice none 0 0, .slice none 0 0, .slice none 0 0] 47)
    refine ((below_box _ _).block _ (by simp)).trans ?_
    simp only [World.size_alloc] at this
    exact this)
  have r1 : w1.rowIs (w.heap.size + 1) 47 6 (fun i => #[.int .i64 0, .int .i64 0, .string ByteArray.empty, .slice none 0 0, .slice none 0 0, .slice none 0 0][i]?.getD undef) := ⟨_, K1, rfl, fun i hi => by simp [hi]⟩
  have r2 : w1.rowIs (w.heap.size + 1 + 1) 47 6 (fun i => #[.int .i64 0, .int .i64 0, .string ByteArray.empty, .slice none 0 0, .slice none 0 0, .slice none 0 0][i]?.getD undef) := ⟨_, K2, rfl, fun i hi => by simp [hi]⟩
  have q0 := r2.cell (i := 0) (by omega)
  have q1 := r2.cell (i := 1) (by omega)
  have q2 := r2.cell (i := 2) (by omega)
  have q3 := r2.cell (i := 3) (by omega)
  have q4 := r2.cell (i := 4) (by omega)
  have qf := fun i => r2.frozen i
  have K0 : w1.heap[w.heap.size]? = some (.cells #[c0, c1, c2, c3, c4, .slice wa t.wrongs.length wc] 42 (0, 0)) := (hb1.block _ (by simp; omega)).trans (by rw [Below.heap_alloc _ _ _ (by simp; omega), Below.heap_alloc _ _ _ (by simp), heap_alloc_new])
  have p5 : w1.cell? ⟨w.heap.size, 5, none⟩ = some (.slice wa t.wrongs.length wc) := by rw [World.cell?, K0]; rfl
  simp at q0 q1 q2 q3 q4
  obtain ⟨G2, rW2, hG2, hG2'⟩ := puts_row [.int .i64 s1, .int .i64 n1, .string t1, .slice na1 nl1 nc1, .slice ka1 kl1 kc1] 0 r2
  have rW1 := r1.of_block (w' := puts w1 (w.heap.size + 1 + 1) 0 [.int .i64 s1, .int .i64 n1, .string t1, .slice na1 nl1 nc1, .slice ka1 kl1 kc1]) (puts_block _ _ (by omega) _ _ _)
  have bW : Below w.heap.size w (puts w1 (w.heap.size + 1 + 1) 0 [.int .i64 s1, .int .i64 n1, .string t1, .slice na1 nl1 nc1, .slice ka1 kl1 kc1]) := puts_below (by omega) _ _ _ b1
  have zW : (puts w1 (w.heap.size + 1 + 1) 0 [.int .i64 s1, .int .i64 n1, .string t1, .slice na1 nl1 nc1, .slice ka1 kl1 kc1]).heap.size = w1.heap.size := puts_size _ _ _ _
  have CW := toWrongS_nf t.wrongs (puts w1 (w.heap.size + 1 + 1) 0 [.int .i64 s1, .int .i64 n1, .string t1, .slice na1 nl1 nc1, .slice ka1 kl1 kc1]) B wa wc (hW.under (bW.mono hB)) (by omega)
  have HW := hidA CW
  have HNW := HN1.out.puts (w.heap.size + 1 + 1) 0 [.int .i64 s1, .int .i64 n1, .string t1, .slice na1 nl1 nc1, .slice ka1 kl1 kc1]
  have HNW' := hidA HNW
  clear K1 K2 CW HNW rW1
  go_wp2_with fail
  refine HW.out.mono ?_
  rw [zW]
  rintro e w2 ⟨rfl, hb2, hsz2, hst2, hnf2⟩
  have z2 : w1.heap.size ≤ w2.heap.size := by omega
  have blW : ∀ k, k < w1.heap.size → w2.heap[k]? = (puts w1 (w.heap.size + 1 + 1) 0 [.int .i64 s1, .int .i64 n1, .string t1, .slice na1 nl1 nc1, .slice ka1 kl1 kc1]).heap[k]? := fun k hk => hb2.block k hk
  have b2 : Below w.heap.size w w2 := bW.trans (hb2.mono (by omega))
  have HN2 := hidA (NF.call (w := puts w1 (w.heap.size + 1 + 1) 0 [.int .i64 s1, .int .i64 n1, .string t1, .slice na1 nl1 nc1, .slice ka1 kl1 kc1]) HNW'.out (by rw [zW]; exact hb2) (by rw [zW]; exact hnf2))
  have r22 := rW2.of_block (blW (w.heap.size + 1 + 1) (by omega))
  have r21 := r1.of_block (w' := w2) ((blW (w.heap.size + 1) (by omega)).trans (puts_block _ _ (by omega) _ _ _))
  have g0 := r22.cell (i := 0) (by omega)
  have g1 := r22.cell (i := 1) (by omega)
  have g2 := r22.cell (i := 2) (by omega)
  have g3 := r22.cell (i := 3) (by omega)
  have g4 := r22.cell (i := 4) (by omega)
  have g5 := r22.cell (i := 5) (by omega)
  have e0 : G2 0 = _ := hG2 0 (by simp)
  have e1 : G2 1 = _ := hG2 1 (by simp)
  have e2 : G2 2 = _ := hG2 2 (by simp)
  have e3 : G2 3 = _ := hG2 3 (by simp)
  have e4 : G2 4 = _ := hG2 4 (by simp)
  rw [e0] at g0
  rw [e1] at g1
  rw [e2] at g2
  rw [e3] at g3
  rw [e4] at g4
  simp only [List.getD_cons_zero, List.getD_cons_succ] at g0 g1 g2 g3 g4
  have gf := fun i => r22.frozen i
  have u0 := r21.cell (i := 0) (by omega)
  have u1 := r21.cell (i := 1) (by omega)
  have u2 := r21.cell (i := 2) (by omega)
  have u3 := r21.cell (i := 3) (by omega)
  have u4 := r21.cell (i := 4) (by omega)
  have u5 := r21.cell (i := 5) (by omega)
  have uf := fun i => r21.frozen i
  simp at u0 u1 u2 u3 u4 u5
  clear e0 e1 e2 e3 e4 q0 q1 q2 q3 q4 qf p5 HW
  go_wp2_with fail
  have zf : (puts (w2.setCell ⟨w.heap.size + 1 + 1, 5, none⟩ (.slice (some ⟨w1.heap.size, 0, none⟩) t.wrongs.length t.wrongs.length)) (w.heap.size + 1) 0 [.int .i64 s1, .int .i64 n1, .string t1, .slice na1 nl1 nc1, .slice ka1 kl1 kc1, .slice (some ⟨w1.heap.size, 0, none⟩) t.wrongs.length t.wrongs.length]).heap.size = w2.heap.size := by rw [puts_size, size_set]
  have ef : ∀ k, k ≠ w.heap.size + 1 + 1 → k ≠ w.heap.size + 1 → (puts (w2.setCell ⟨w.heap.size + 1 + 1, 5, none⟩ (.slice (some ⟨w1.heap.size, 0, none⟩) t.wrongs.length t.wrongs.length)) (w.heap.size + 1) 0 [.int .i64 s1, .int .i64 n1, .string t1, .slice na1 nl1 nc1, .slice ka1 kl1 kc1, .slice (some ⟨w1.heap.size, 0, none⟩) t.wrongs.length t.wrongs.length]).heap[k]? = w2.heap[k]? := fun k h1 h2 => by rw [puts_block _ _ h2, Below.heap_setCell _ _ _ _ (by show k ≠ w.heap.size + 1 + 1; exact h1)]
  have bf : Below w.heap.size w (puts (w2.setCell ⟨w.heap.size + 1 + 1, 5, none⟩ (.slice (some ⟨w1.heap.size, 0, none⟩) t.wrongs.length t.wrongs.length)) (w.heap.size + 1) 0 [.int .i64 s1, .int .i64 n1, .string t1, .slice na1 nl1 nc1, .slice ka1 kl1 kc1, .slice (some ⟨w1.heap.size, 0, none⟩) t.wrongs.length t.wrongs.length]) := puts_below (by omega) _ _ _ (b2.setCell (by show w.heap.size ≤ w.heap.size + 1 + 1; omega) _)
  have hm : ∀ k, (((w.alloc (.cells #[c0, c1, c2, c3, c4, .slice wa t.wrongs.length wc] 42)).alloc (.cells #[.int .i64 0, .int .i64 0, .string ByteArray.empty, .slice none 0 0, .slice none 0 0, .slice none 0 0] 47)).alloc (.cells #[.int .i64 0, .int .i64 0, .string ByteArray.empty, .slice none 0 0, .slice none 0 0, .slice none 0 0] 47)).heap.size ≤ k → w.heap.size + 1 + 1 < k := fun k hk => by simp at hk; omega
  have fA : AnRep (puts (w2.setCell ⟨w.heap.size + 1 + 1, 5, none⟩ (.slice (some ⟨w1.heap.size, 0, none⟩) t.wrongs.length t.wrongs.length)) (w.heap.size + 1) 0 [.int .i64 s1, .int .i64 n1, .string t1, .slice na1 nl1 nc1, .slice ka1 kl1 kc1, .slice (some ⟨w1.heap.size, 0, none⟩) t.wrongs.length t.wrongs.length]) (fun b => w.heap.size ≤ b ∧ b < (puts (w2.setCell ⟨w.heap.size + 1 + 1, 5, none⟩ (.slice (some ⟨w1.heap.size, 0, none⟩) t.wrongs.length t.wrongs.length)) (w.heap.size + 1) 0 [.int .i64 s1, .int .i64 n1, .string t1, .slice na1 nl1 nc1, .slice ka1 kl1 kc1, .slice (some ⟨w1.heap.size, 0, none⟩) t.wrongs.length t.wrongs.length]).heap.size) t (.agg #[.int .i64 s1, .int .i64 n1, .string t1, .slice na1 nl1 nc1, .slice ka1 kl1 kc1, .slice (some ⟨w1.heap.size, 0, none⟩) t.wrongs.length t.wrongs.length]) := by
    refine ⟨_, _, _, _, _, _, _, rfl, (hr1.mono fun k hk => ?_).sub fun k hk => ?_, (hst2.mono fun k hk => ?_).sub fun k hk => ?_, Nat.le_refl _⟩
    · have := hm k hk.1
      rw [ef k (by omega) (by omega), blW k hk.2, puts_block _ _ (by omega)]
    · have := hm k hk.1
      rw [zf]; omega
    · exact ef k (by omega) (by omega)
    · rw [zf]; omega
  refine bodyPost_ret (v := .agg #[.int .i64 s1, .int .i64 n1, .string t1, .slice na1 nl1 nc1, .slice ka1 kl1 kc1, .slice (some ⟨w1.heap.size, 0, none⟩) t.wrongs.length t.wrongs.length]) ?res rfl ⟨s1, n1, t1, na1, ka1, nl1, nc1, kl1, kc1, _, _, rfl, bf, fA, (HN2.out.set _ _).puts _ _ [.int .i64 s1, .int .i64 n1, .string t1, .slice na1 nl1 nc1, .slice ka1 kl1 kc1, .slice (some ⟨w1.heap.size, 0, none⟩) t.wrongs.length t.wrongs.length]⟩
  case res =>
    obtain ⟨G, t1', hG, -⟩ := puts_row [.int .i64 s1, .int .i64 n1, .string t1, .slice na1 nl1 nc1, .slice ka1 kl1 kc1, .slice (some ⟨w1.heap.size, 0, none⟩) t.wrongs.length t.wrongs.length] 0 (r21.of_block (w' := w2.setCell ⟨w.heap.size + 1 + 1, 5, none⟩ (.slice (some ⟨w1.heap.size, 0, none⟩) t.wrongs.length t.wrongs.length)) (Below.heap_setCell _ _ _ _ (by show w.heap.size + 1 ≠ w.heap.size + 1 + 1; omega)))
    have p0 := t1'.cell (i := 0) (by omega)
    have p1 := t1'.cell (i := 1) (by omega)
    have p2 := t1'.cell (i := 2) (by omega)
    have p3 := t1'.cell (i := 3) (by omega)
    have p4 := t1'.cell (i := 4) (by omega)
    have p5 := t1'.cell (i := 5) (by omega)
    have g0 := hG 0 (by simp)
    have g1 := hG 1 (by simp)
    have g2 := hG 2 (by simp)
    have g3 := hG 3 (by simp)
    have g4 := hG 4 (by simp)
    have g5 := hG 5 (by simp)
    simp only [Nat.zero_add] at g0 g1 g2 g3 g4 g5
    rw [g0] at p0
    rw [g1] at p1
    rw [g2] at p2
    rw [g3] at p3
    rw [g4] at p4
    rw [g5] at p5
    simp only [puts, Nat.zero_add, Nat.reduceAdd, List.getD_cons_zero, List.getD_cons_succ] at p0 p1 p2 p3 p4 p5
    clear bf fA ef zf hm t1' u0 u1 u2 u3 u4 u5 uf gf r1 r2 r21 r22 hr1 hst2 hG g0 g1 g2 g3 g4 g5
    simp [results, Try.results16, go_sem, p0, p1, p2, p3, p4, p5]
end Go.Proofs.Ytjlifamkfdmfcaa
