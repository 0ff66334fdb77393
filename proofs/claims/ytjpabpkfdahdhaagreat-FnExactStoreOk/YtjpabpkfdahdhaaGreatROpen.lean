import Derived.Test.YtjpabpkfdahdhaaGreatSStoreI
import Derived.Test.YtjpabpkfdahdhaaGreatSSpec3
import Derived.Test.YtjpabpkfdahdhaaGreatRRep
import Derived.BigRegion
import Derived.Deep.RegionWith
import Derived.Deep.RegionHeld3
import Derived.Deep.DeepCutAuto
import Derived.Test.YtjpabpkfdahdhaaGreatPRep
import Derived.ProofKit
import Derived.SizedLaws
import Derived.SliceStrings
import Derived.Deep.Slices
namespace Go.Proofs.YtjpabpkfdahdhaaGreat
set_option linter.unusedSimpArgs false
set_option linter.unusedVariables false
open Go.RowKit

theorem store_same (p : Pt) (rs : List Ro) : storeI p rs = storeS p rs := by
  have e : (fun i => ordI p rs i && rowI p (rth rs i)) = oneI p rs := rfl
  have hd : (!(decide (rs.length = 0))) = decide (1 ≤ rs.length) := by
    by_cases h : rs.length = 0
    · simp [h]
    · rw [decide_eq_false h, decide_eq_true (by omega : 1 ≤ rs.length)]; rfl
  unfold storeI storeS
  rw [e, hd]
  cases hp : okP p
  · rfl
  · have hr : hasRootB p = true := by
      simp only [okP, Bool.and_eq_true] at hp
      exact hp.1.1.2
    cases h0 : (isT (rth rs 0).type [113, 117, 101, 114, 121] && (rth rs 0).id == 0)
    · by_cases hl : 1 ≤ rs.length
      · have h1 : allTo (oneI p rs) rs.length = false := allTo_false _ _ 0 (by omega) (by
          unfold oneI ordI
          rw [if_pos rfl, h0]; rfl)
        rw [h1]; simp
      · rw [decide_eq_false hl]; rfl
    · rw [all_same p hr rs h0]
      cases decide (1 ≤ rs.length) <;> cases decide (rs.length ≤ 16) <;> simp
end Go.Proofs.YtjpabpkfdahdhaaGreat

namespace Go.Proofs.YtjpabpkfdahdhaaGreat
set_option linter.unusedSimpArgs false
set_option linter.unusedVariables false
open Go.RowKit

theorem info_Cell : (Tryz.prog.info? 79).map (fun i => (i.zero, i.size, i.bytes)) = some (some (.agg #[.string ByteArray.empty, .int .i64 0, .int .i64 0, .string ByteArray.empty, .slice none 0 0, .slice none 0 0]), 6, 96) := by kernel_rfl
theorem info_Row : (Tryz.prog.info? 49).map (fun i => (i.zero, i.size, i.bytes)) = some (some (.agg #[.string ByteArray.empty, .int .i64 0, .slice none 0 0]), 3, 48) := by kernel_rfl

set_option maxHeartbeats 1600000 in
theorem toCell_any (c : Ce) (w : World) (B : Nat) (v : Value) (hR : CeRep w (· < B) c v) (hB : B ≤ w.heap.size) :
    Calls Tryz.prog 55 #[v] w fun e w' => ∃ (s n : Int) (t : ByteArray) (na ka : Option Addr) (nl nc kl kc : Nat), e = .returned (.agg #[.string c.name, .int .i64 s, .int .i64 n, .string t, .slice na nl nc, .slice ka kl kc]) ∧ Below w.heap.size w w' ∧
      CeRep w' (fun b => w.heap.size ≤ b ∧ b < w'.heap.size) c (.agg #[.string c.name, .int .i64 s, .int .i64 n, .string t, .slice na nl nc, .slice ka kl kc]) := by
  obtain ⟨c1, c2, c3, c4, c5, rfl, hV, hn⟩ := hR
  have hb3 : ∀ o1 o2 o3, Below w.heap.size w (((w.alloc o1).alloc o2).alloc o3) := fun o1 o2 o3 => (((Below.refl _ _).alloc (Nat.le_refl _) _).alloc (by simp) _).alloc (by simp; omega) _
  go_enter Tryz.func55, Tryz.ntmps55
  go_wp2_with fail
  refine (toValue_any c.val _ B _ (hV.under ((hb3 _ _ _).mono hB)) (by simp; omega)).mono ?_
  rintro e w1 ⟨s1, n1, t1, na1, ka1, nl1, nc1, kl1, kc1, rfl, hb1, hr1⟩
  have z1 := hb1.size
  simp at z1
  have b1 : Below w.heap.size w w1 := (hb3 _ _ _).trans (hb1.mono (by simp; omega))
  have K2 : w1.heap[w.heap.size + 1 + 1]? = some (.cells #[.string c.name, .int .i64 0, .int .i64 0, .string ByteArray.empty, .slice none 0 0, .slice none 0 0] 79 (0, 0)) := (hb1.block _ (by simp)).trans (by
    have := heap_alloc_new ((w.alloc (.cells #[.string c.name, c1, c2, c3, c4, c5] 100)).alloc (.cells #[.string ByteArray.empty, .int .i64 0, .int .i64 0, .string ByteArray.empty, .slice none 0 0, .slice none 0 0] 79)) (.cells #[.string c.name, .int .i64 0, .int .i64 0, .string ByteArray.empty, .slice none 0 0, .slice none 0 0] 79)
    rw [show ((w.alloc (.cells #[.string c.name, c1, c2, c3, c4, c5] 100)).alloc (.cells #[.string ByteArray.empty, .int .i64 0, .int .i64 0, .string ByteArray.empty, .slice none 0 0, .slice none 0 0] 79)).heap.size = w.heap.size + 1 + 1 by simp] at this
    exact this)
  have K1 : w1.heap[w.heap.size + 1]? = some (.cells #[.string ByteArray.empty, .int .i64 0, .int .i64 0, .string ByteArray.empty, .slice none 0 0, .slice none 0 0] 79 (0, 0)) := (hb1.block _ (by simp)).trans (by
    have := heap_alloc_new (w.alloc (.cells #[.string c.name, c1, c2, c3, c4, c5] 100)) (.cells #[.string ByteArray.empty, .int .i64 0, .int .i64 0, .string ByteArray.empty, .slice none 0 0, .slice none 0 0] 79)
    refine ((below_box _ _).block _ (by simp)).trans ?_
    rw [show (w.alloc (.cells #[.string c.name, c1, c2, c3, c4, c5] 100)).heap.size = w.heap.size + 1 by simp] at this
    exact this)
  have r1 : w1.rowIs (w.heap.size + 1) 79 6 (fun i => #[.string ByteArray.empty, .int .i64 0, .int .i64 0, .string ByteArray.empty, .slice none 0 0, .slice none 0 0][i]?.getD undef) := ⟨_, K1, rfl, fun i hi => by simp [hi]⟩
  have r2 : w1.rowIs (w.heap.size + 1 + 1) 79 6 (fun i => #[.string c.name, .int .i64 0, .int .i64 0, .string ByteArray.empty, .slice none 0 0, .slice none 0 0][i]?.getD undef) := ⟨_, K2, rfl, fun i hi => by simp [hi]⟩
  have q0 := r2.cell (i := 0) (by omega)
  have q1 := r2.cell (i := 1) (by omega)
  have q2 := r2.cell (i := 2) (by omega)
  have q3 := r2.cell (i := 3) (by omega)
  have q4 := r2.cell (i := 4) (by omega)
  have q5 := r2.cell (i := 5) (by omega)
  have u0 := r1.cell (i := 0) (by omega)
  have u1 := r1.cell (i := 1) (by omega)
  have u2 := r1.cell (i := 2) (by omega)
  have u3 := r1.cell (i := 3) (by omega)
  have u4 := r1.cell (i := 4) (by omega)
  have u5 := r1.cell (i := 5) (by omega)
  have qf := fun i => r2.frozen i
  have uf := fun i => r1.frozen i
  simp at q0 q1 q2 q3 q4 q5 u0 u1 u2 u3 u4 u5
  clear K1 K2
  go_wp2_with fail
  have zf : (puts (puts w1 (w.heap.size + 1 + 1) 1 [.int .i64 s1, .int .i64 n1, .string t1, .slice na1 nl1 nc1, .slice ka1 kl1 kc1]) (w.heap.size + 1) 0 [.string c.name, .int .i64 s1, .int .i64 n1, .string t1, .slice na1 nl1 nc1, .slice ka1 kl1 kc1]).heap.size = w1.heap.size := by rw [puts_size, puts_size]
  have ef : ∀ k, k ≠ w.heap.size + 1 + 1 → k ≠ w.heap.size + 1 → (puts (puts w1 (w.heap.size + 1 + 1) 1 [.int .i64 s1, .int .i64 n1, .string t1, .slice na1 nl1 nc1, .slice ka1 kl1 kc1]) (w.heap.size + 1) 0 [.string c.name, .int .i64 s1, .int .i64 n1, .string t1, .slice na1 nl1 nc1, .slice ka1 kl1 kc1]).heap[k]? = w1.heap[k]? := fun k h1 h2 => by rw [puts_block _ _ h2, puts_block _ _ h1]
  have bf : Below w.heap.size w (puts (puts w1 (w.heap.size + 1 + 1) 1 [.int .i64 s1, .int .i64 n1, .string t1, .slice na1 nl1 nc1, .slice ka1 kl1 kc1]) (w.heap.size + 1) 0 [.string c.name, .int .i64 s1, .int .i64 n1, .string t1, .slice na1 nl1 nc1, .slice ka1 kl1 kc1]) := puts_below (by omega) _ _ _ (puts_below (by omega) _ _ _ b1)
  have hm : ∀ k, (((w.alloc (.cells #[.string c.name, c1, c2, c3, c4, c5] 100)).alloc (.cells #[.string ByteArray.empty, .int .i64 0, .int .i64 0, .string ByteArray.empty, .slice none 0 0, .slice none 0 0] 79)).alloc (.cells #[.string c.name, .int .i64 0, .int .i64 0, .string ByteArray.empty, .slice none 0 0, .slice none 0 0] 79)).heap.size ≤ k → w.heap.size + 1 + 1 < k := fun k hk => by simp at hk; omega
  have fV : CeRep (puts (puts w1 (w.heap.size + 1 + 1) 1 [.int .i64 s1, .int .i64 n1, .string t1, .slice na1 nl1 nc1, .slice ka1 kl1 kc1]) (w.heap.size + 1) 0 [.string c.name, .int .i64 s1, .int .i64 n1, .string t1, .slice na1 nl1 nc1, .slice ka1 kl1 kc1]) (fun b => w.heap.size ≤ b ∧ b < (puts (puts w1 (w.heap.size + 1 + 1) 1 [.int .i64 s1, .int .i64 n1, .string t1, .slice na1 nl1 nc1, .slice ka1 kl1 kc1]) (w.heap.size + 1) 0 [.string c.name, .int .i64 s1, .int .i64 n1, .string t1, .slice na1 nl1 nc1, .slice ka1 kl1 kc1]).heap.size) c (.agg #[.string c.name, .int .i64 s1, .int .i64 n1, .string t1, .slice na1 nl1 nc1, .slice ka1 kl1 kc1]) := ⟨_, _, _, _, _, rfl, (hr1.mono fun k hk => by
    have := hm k hk.1
    exact ef k (by omega) (by omega)).sub fun k hk => by
      have := hm k hk.1
      rw [zf]; omega, hn⟩
  refine bodyPost_ret (v := .agg #[.string c.name, .int .i64 s1, .int .i64 n1, .string t1, .slice na1 nl1 nc1, .slice ka1 kl1 kc1]) ?res rfl ⟨s1, n1, t1, na1, ka1, nl1, nc1, kl1, kc1, rfl, bf, fV⟩
  case res =>
    obtain ⟨G, t1', hG, -⟩ := puts_row [.string c.name, .int .i64 s1, .int .i64 n1, .string t1, .slice na1 nl1 nc1, .slice ka1 kl1 kc1] 0 (r1.of_block (w' := puts w1 (w.heap.size + 1 + 1) 1 [.int .i64 s1, .int .i64 n1, .string t1, .slice na1 nl1 nc1, .slice ka1 kl1 kc1]) (puts_block _ _ (by omega) _ _ _))
    have p0 := t1'.cell (i := 0) (by omega)
    have p1 := t1'.cell (i := 1) (by omega)
    have p2 := t1'.cell (i := 2) (by omega)
    have p3 := t1'.cell (i := 3) (by omega)
    have p4 := t1'.cell (i := 4) (by omega)
    have p5 := t1'.cell (i := 5) (by omega)
    have g0 := hG 0 (by simp)
    have g1 := hG 1 (by simp)
    have g2 := hG 2 (by simp)
    have g3 := hG 3 (by simp)
    have g4 := hG 4 (by simp)
    have g5 := hG 5 (by simp)
    simp only [Nat.zero_add] at g0 g1 g2 g3 g4 g5
    rw [g0] at p0
    rw [g1] at p1
    rw [g2] at p2
    rw [g3] at p3
    rw [g4] at p4
    rw [g5] at p5
    simp only [puts, Nat.zero_add, Nat.reduceAdd, List.getD_cons_zero, List.getD_cons_succ] at p0 p1 p2 p3 p4 p5
    clear bf fV ef zf hm t1' q0 q1 q2 q3 q4 q5 u0 u1 u2 u3 u4 u5 qf uf r1 r2 hr1 hG g0 g1 g2 g3 g4 g5
    simp [results, Tryz.results55, go_sem, p0, p1, p2, p3, p4, p5]

set_option maxHeartbeats 1600000 in
theorem toCellS_any (xs : List Ce) (w : World) (B : Nat) (a : Option Addr) (c : Nat) (hK : CeReps w (· < B) xs a) (hB : B ≤ w.heap.size) :
    Calls Tryz.prog 32 #[.slice a xs.length c] w fun e w' => e = .returned (.slice (some ⟨w.heap.size, 0, none⟩) xs.length xs.length) ∧ Below w.heap.size w w' ∧ w.heap.size < w'.heap.size ∧
      CeReps w' (fun b => w.heap.size ≤ b ∧ b < w'.heap.size) xs (some ⟨w.heap.size, 0, none⟩) := by
  have h3 := hK.1
  obtain ⟨-, C, hA, hr⟩ := hK
  have hmk := run_make_any (P := Tryz.prog) 47 79 (.agg #[.string ByteArray.empty, .int .i64 0, .int .i64 0, .string ByteArray.empty, .slice none 0 0, .slice none 0 0]) #[.string ByteArray.empty, .int .i64 0, .int .i64 0, .string ByteArray.empty, .slice none 0 0, .slice none 0 0] rfl 6 96 Tryz.underlying47 info_Cell .i64 .i64 xs.length h3 (by omega)
  go_enter Tryz.func32, Tryz.ntmps32
  go_wp2_with fail
  go_loopw [4] (fun i wr => ∃ (k : Nat) (G : Nat → Value), k ≤ xs.length ∧ i = .int .i64 k ∧ Below w.heap.size w wr ∧ wr.rowIs w.heap.size 79 (xs.length * 6) G ∧
      (∀ i, i < k → CeRep wr (fun b => w.heap.size < b ∧ b < wr.heap.size) (cth xs i) (.agg #[G (i * 6), G (i * 6 + 1), G (i * 6 + 2), G (i * 6 + 3), G (i * 6 + 4), G (i * 6 + 5)]))) (fun i _ => xs.length - (intOf i).toNat)
  case atStart =>
    obtain ⟨G, hG⟩ := made_row w #[.string ByteArray.empty, .int .i64 0, .int .i64 0, .string ByteArray.empty, .slice none 0 0, .slice none 0 0] (xs.length * 6) 79
    exact ⟨0, G, Nat.zero_le _, rfl, below_box _ _, hG, fun i hi => by omega⟩
  case round =>
    obtain ⟨k, G, hk, rfl, hbel, hrow, hreps⟩ := hrel
    by_cases hlt : k < xs.length
    · obtain ⟨b, off, rfl, hbB, hc⟩ := hA (by omega)
      have hck : ∀ j, j < 6 → wr.cell? ⟨b, off + k * 6 + j, none⟩ = some (C k j) := fun j hj => (hbel.cell (p := ⟨b, off + k * 6 + j, none⟩) (by show b < _; omega)).trans (hc k hlt j hj)
      have hc0 : wr.cell? ⟨b, off + k * 6, none⟩ = some (C k 0) := hck 0 (by omega)
      have hc1 : wr.cell? ⟨b, off + k * 6 + 1, none⟩ = some (C k 1) := hck 1 (by omega)
      have hc2 : wr.cell? ⟨b, off + k * 6 + 2, none⟩ = some (C k 2) := hck 2 (by omega)
      have hc3 : wr.cell? ⟨b, off + k * 6 + 3, none⟩ = some (C k 3) := hck 3 (by omega)
      have hc4 : wr.cell? ⟨b, off + k * 6 + 4, none⟩ = some (C k 4) := hck 4 (by omega)
      have hc5 : wr.cell? ⟨b, off + k * 6 + 5, none⟩ = some (C k 5) := hck 5 (by omega)
      clear hck hc
      go_wp2_with (
        go_at_call 55
        refine (toCell_any (cth xs k) _ B _ ((hr k hlt).under (hbel.mono hB)) (by have := hbel.size; omega)).mono ?_
        rintro e w1 ⟨s, n, t, na, ka, nl, nc, kl, kc, rfl, hby, hry⟩
        have hrow1 := hrow.of_block (hby.block _ hrow.lt)
        have q0 : w1.cell? ⟨w.heap.size, k * 6, none⟩ = some (G (k * 6)) := hrow1.cell (by omega)
        have q1 : w1.cell? ⟨w.heap.size, k * 6 + 1, none⟩ = some (G (k * 6 + 1)) := hrow1.cell (by omega)
        have q2 : w1.cell? ⟨w.heap.size, k * 6 + 2, none⟩ = some (G (k * 6 + 2)) := hrow1.cell (by omega)
        have q3 : w1.cell? ⟨w.heap.size, k * 6 + 3, none⟩ = some (G (k * 6 + 3)) := hrow1.cell (by omega)
        have q4 : w1.cell? ⟨w.heap.size, k * 6 + 4, none⟩ = some (G (k * 6 + 4)) := hrow1.cell (by omega)
        have q5 : w1.cell? ⟨w.heap.size, k * 6 + 5, none⟩ = some (G (k * 6 + 5)) := hrow1.cell (by omega)
        have z0 : ∀ j, w1.frozen? ⟨w.heap.size, j, none⟩ = false := fun j => hrow1.frozen j)
      go_roundw
      case rel =>
        obtain ⟨G', hG, hG1, hGF⟩ := puts_row [.string (cth xs k).name, .int .i64 s, .int .i64 n, .string t, .slice na nl nc, .slice ka kl kc] (k * 6) hrow1
        have hs1 := hbel.size
        have hs2 := hby.size
        have hs3 := hrow.lt
        have g0 : G' (k * 6) = .string (cth xs k).name := hG1 0 (by simp)
        have g1 : G' (k * 6 + 1) = .int .i64 s := hG1 1 (by simp)
        have g2 : G' (k * 6 + 2) = .int .i64 n := hG1 2 (by simp)
        have g3 : G' (k * 6 + 3) = .string t := hG1 3 (by simp)
        have g4 : G' (k * 6 + 4) = .slice na nl nc := hG1 4 (by simp)
        have g5 : G' (k * 6 + 5) = .slice ka kl kc := hG1 5 (by simp)
        have hpb := puts_block w.heap.size
        have hps := puts_size w.heap.size [.string (cth xs k).name, .int .i64 s, .int .i64 n, .string t, .slice na nl nc, .slice ka kl kc] w1 (k * 6)
        refine ⟨k + 1, G', by omega, by go_num, puts_below (Nat.le_refl _) [.string (cth xs k).name, .int .i64 s, .int .i64 n, .string t, .slice na nl nc, .slice ka kl kc] w1 (k * 6) (hbel.trans (hby.mono hs1)), hG, fun i hi => ?_⟩
        by_cases e1 : i = k
        · rw [e1, g0, g1, g2, g3, g4, g5]
          refine (hry.mono fun b hb => hpb b (by omega) [.string (cth xs k).name, .int .i64 s, .int .i64 n, .string t, .slice na nl nc, .slice ka kl kc] w1 _).sub fun b hb => ⟨by omega, ?_⟩
          show b < (puts w1 w.heap.size (k * 6) [.string (cth xs k).name, .int .i64 s, .int .i64 n, .string t, .slice na nl nc, .slice ka kl kc]).heap.size
          omega
        · rw [hGF _ (by omega), hGF _ (by omega), hGF _ (by omega), hGF _ (by omega), hGF _ (by omega), hGF _ (by omega)]
          refine ((hreps i (by omega)).mono fun b hb => (hpb b (by omega) [.string (cth xs k).name, .int .i64 s, .int .i64 n, .string t, .slice na nl nc, .slice ka kl kc] w1 _).trans (hby.block b hb.2)).sub fun b hb => ⟨hb.1, ?_⟩
          show b < (puts w1 w.heap.size (k * 6) [.string (cth xs k).name, .int .i64 s, .int .i64 n, .string t, .slice na nl nc, .slice ka kl kc]).heap.size
          omega
      case measure => simp [intOf]; omega
    · go_wp2_with fail
      go_ret
      have e : k = xs.length := by omega
      subst e
      refine ⟨rfl, hbel, hrow.lt, ⟨h3, fun i j => G (i * 6 + j), fun _ => ⟨_, _, rfl, ⟨Nat.le_refl _, hrow.lt⟩, fun i hi j hj => ?_⟩, fun i hi => (hreps i hi).sub fun b hb => ⟨by omega, hb.2⟩⟩⟩
      have := hrow.cell (i := i * 6 + j) (by omega)
      simpa using this

/-- What toRow's last steps leave. -/
theorem cpRo_end {w w1 : World} {t : Ro} {x : Value} {N : Nat} (hN : N = w.heap.size) (hbw : Below N w w1) (hsz1 : N + 1 + 1 + 1 < w1.heap.size)
    (hst1 : CeReps w1 (fun b => N + 1 + 1 + 1 ≤ b ∧ b < w1.heap.size) t.cells (some ⟨N + 1 + 1 + 1, 0, none⟩)) (h1 : t.type.size ≤ maxLen) (cs : List Value) :
    Below N w (puts (w1.setCell ⟨N + 1 + 1, 2, none⟩ x) (N + 1) 0 cs) ∧
    RoRep (puts (w1.setCell ⟨N + 1 + 1, 2, none⟩ x) (N + 1) 0 cs) (fun b => N ≤ b ∧ b < (puts (w1.setCell ⟨N + 1 + 1, 2, none⟩ x) (N + 1) 0 cs).heap.size) t
      (.agg #[.string t.type, .int .i64 t.id, .slice (some ⟨N + 1 + 1 + 1, 0, none⟩) t.cells.length t.cells.length]) := by
  have hsz : (puts (w1.setCell ⟨N + 1 + 1, 2, none⟩ x) (N + 1) 0 cs).heap.size = w1.heap.size := by rw [puts_size, size_set]
  refine ⟨puts_below (by omega) _ _ _ (hbw.setCell (by show N ≤ N + 1 + 1; omega) _), _, _, rfl, (hst1.mono fun k hk => ?_).sub fun k hk => ?_, Nat.le_refl _, h1⟩
  · rw [puts_block _ _ (by omega), Below.heap_setCell _ _ _ _ (by show k ≠ N + 1 + 1; omega)]
  · rw [hsz]; omega

set_option maxHeartbeats 800000 in
theorem toRow_any (t : Ro) (w : World) (B : Nat) (v : Value) (hR : RoRep w (· < B) t v) (hB : B ≤ w.heap.size) :
    Calls Tryz.prog 19 #[v] w fun e w' => ∃ (fa : Option Addr) (fc : Nat), e = .returned (.agg #[.string t.type, .int .i64 t.id, .slice fa t.cells.length fc]) ∧ Below w.heap.size w w' ∧
      RoRep w' (fun b => w.heap.size ≤ b ∧ b < w'.heap.size) t (.agg #[.string t.type, .int .i64 t.id, .slice fa t.cells.length fc]) := by
  obtain ⟨na, nc, rfl, hs, hnc, hn⟩ := hR
  obtain ⟨type, id, cells⟩ := t
  simp only at hs hnc hn
  have hb3 : ∀ o1 o2 o3, Below w.heap.size w (((w.alloc o1).alloc o2).alloc o3) := fun o1 o2 o3 => (((Below.refl _ _).alloc (Nat.le_refl _) _).alloc (by simp) _).alloc (by simp; omega) _
  go_enter Tryz.func19, Tryz.ntmps19
  go_wp2_with (
      go_at_call 32
      refine (toCellS_any cells _ B na nc (hs.under ((hb3 _ _ _).mono hB)) (by simp; omega)).mono ?_
      rintro e w1 ⟨rfl, hb1, hsz1, hst1⟩
      obtain ⟨c1, f1⟩ := bcell hb1
      simp at hsz1
      have hlt1 : w.heap.size + 1 + 1 < w1.heap.size := by omega)
  have hbw : Below w.heap.size w w1 := (hb3 _ _ _).trans (hb1.mono (by simp; omega))
  have fin := cpRo_end (w := w) (w1 := w1) (t := ⟨type, id, cells⟩) (x := .slice (some ⟨w.heap.size + 1 + 1 + 1, 0, none⟩) cells.length cells.length) (N := w.heap.size) rfl hbw hsz1 (by simpa using hst1) hn [.string type, .int .i64 id, .slice (some ⟨w.heap.size + 1 + 1 + 1, 0, none⟩) cells.length cells.length]
  refine bodyPost_ret (v := .agg #[.string type, .int .i64 id, .slice (some ⟨w.heap.size + 1 + 1 + 1, 0, none⟩) cells.length cells.length]) ?res rfl ⟨_, _, rfl, fin.1, fin.2⟩
  case res =>
    have hr0 : ∀ o1 o3 c, ((((w.alloc o1).alloc (.cells c 49)).alloc o3)).rowIs (w.heap.size + 1) 49 c.size (fun i => c[i]?.getD undef) := fun o1 o3 c => by
      have h := ((w.alloc o1).rowIs_alloc c 49 (fun i => c[i]?.getD undef) (fun i hi => by simp [hi])).alloc o3
      simpa using h
    have hr1 := (hr0 _ _ _).of_block (hb1.block (w.heap.size + 1) (by simp))
    have p0 := hr1.cell (i := 0) (by simp)
    have p1 := hr1.cell (i := 1) (by simp)
    have p2 := hr1.cell (i := 2) (by simp)
    clear fin hst1 hs c1 f1 hb1 hr0 hr1
    simp [results, Tryz.results19, go_sem, p0, p1, p2]

set_option maxHeartbeats 1600000 in
theorem toRowS_any (xs : List Ro) (w : World) (B : Nat) (a : Option Addr) (c : Nat) (hK : RoReps w (· < B) xs a) (hB : B ≤ w.heap.size) :
    Calls Tryz.prog 8 #[.slice a xs.length c] w fun e w' => e = .returned (.slice (some ⟨w.heap.size, 0, none⟩) xs.length xs.length) ∧ Below w.heap.size w w' ∧ w.heap.size < w'.heap.size ∧
      RoReps w' (fun b => w.heap.size ≤ b ∧ b < w'.heap.size) xs (some ⟨w.heap.size, 0, none⟩) := by
  have h3 := hK.1
  obtain ⟨-, C, hA, hr⟩ := hK
  have hmk := run_make_any (P := Tryz.prog) 33 49 (.agg #[.string ByteArray.empty, .int .i64 0, .slice none 0 0]) #[.string ByteArray.empty, .int .i64 0, .slice none 0 0] rfl 3 48 Tryz.underlying33 info_Row .i64 .i64 xs.length h3 (by omega)
  go_enter Tryz.func8, Tryz.ntmps8
  go_wp2_with fail
  go_loopw [4] (fun i wr => ∃ (k : Nat) (G : Nat → Value), k ≤ xs.length ∧ i = .int .i64 k ∧ Below w.heap.size w wr ∧ wr.rowIs w.heap.size 49 (xs.length * 3) G ∧
      (∀ i, i < k → RoRep wr (fun b => w.heap.size < b ∧ b < wr.heap.size) (rth xs i) (.agg #[G (i * 3), G (i * 3 + 1), G (i * 3 + 2)]))) (fun i _ => xs.length - (intOf i).toNat)
  case atStart =>
    obtain ⟨G, hG⟩ := made_row w #[.string ByteArray.empty, .int .i64 0, .slice none 0 0] (xs.length * 3) 49
    exact ⟨0, G, Nat.zero_le _, rfl, below_box _ _, hG, fun i hi => by omega⟩
  case round =>
    obtain ⟨k, G, hk, rfl, hbel, hrow, hreps⟩ := hrel
    by_cases hlt : k < xs.length
    · obtain ⟨b, off, rfl, hbB, hc⟩ := hA (by omega)
      have hck : ∀ j, j < 3 → wr.cell? ⟨b, off + k * 3 + j, none⟩ = some (C k j) := fun j hj => (hbel.cell (p := ⟨b, off + k * 3 + j, none⟩) (by show b < _; omega)).trans (hc k hlt j hj)
      have hc0 : wr.cell? ⟨b, off + k * 3, none⟩ = some (C k 0) := hck 0 (by omega)
      have hc1 : wr.cell? ⟨b, off + k * 3 + 1, none⟩ = some (C k 1) := hck 1 (by omega)
      have hc2 : wr.cell? ⟨b, off + k * 3 + 2, none⟩ = some (C k 2) := hck 2 (by omega)
      clear hck hc
      go_wp2_with (
        go_at_call 19
        refine (toRow_any (rth xs k) _ B _ ((hr k hlt).under (hbel.mono hB)) (by have := hbel.size; omega)).mono ?_
        rintro e w1 ⟨na, nc, rfl, hby, hry⟩
        have hrow1 := hrow.of_block (hby.block _ hrow.lt)
        have q0 : w1.cell? ⟨w.heap.size, k * 3, none⟩ = some (G (k * 3)) := hrow1.cell (by omega)
        have q1 : w1.cell? ⟨w.heap.size, k * 3 + 1, none⟩ = some (G (k * 3 + 1)) := hrow1.cell (by omega)
        have q2 : w1.cell? ⟨w.heap.size, k * 3 + 2, none⟩ = some (G (k * 3 + 2)) := hrow1.cell (by omega)
        have z0 : ∀ j, w1.frozen? ⟨w.heap.size, j, none⟩ = false := fun j => hrow1.frozen j)
      go_roundw
      case rel =>
        obtain ⟨G', hG, hG1, hGF⟩ := puts_row [.string (rth xs k).type, .int .i64 (rth xs k).id, .slice na (rth xs k).cells.length nc] (k * 3) hrow1
        have hs1 := hbel.size
        have hs2 := hby.size
        have hs3 := hrow.lt
        have g0 : G' (k * 3) = .string (rth xs k).type := hG1 0 (by simp)
        have g1 : G' (k * 3 + 1) = .int .i64 (rth xs k).id := hG1 1 (by simp)
        have g2 : G' (k * 3 + 2) = .slice na (rth xs k).cells.length nc := hG1 2 (by simp)
        have hpb := puts_block w.heap.size
        have hps := puts_size w.heap.size [.string (rth xs k).type, .int .i64 (rth xs k).id, .slice na (rth xs k).cells.length nc] w1 (k * 3)
        refine ⟨k + 1, G', by omega, by go_num, puts_below (Nat.le_refl _) [.string (rth xs k).type, .int .i64 (rth xs k).id, .slice na (rth xs k).cells.length nc] w1 (k * 3) (hbel.trans (hby.mono hs1)), hG, fun i hi => ?_⟩
        by_cases e1 : i = k
        · rw [e1, g0, g1, g2]
          refine (hry.mono fun b hb => hpb b (by omega) [.string (rth xs k).type, .int .i64 (rth xs k).id, .slice na (rth xs k).cells.length nc] w1 _).sub fun b hb => ⟨by omega, ?_⟩
          show b < (puts w1 w.heap.size (k * 3) [.string (rth xs k).type, .int .i64 (rth xs k).id, .slice na (rth xs k).cells.length nc]).heap.size
          omega
        · rw [hGF _ (by omega), hGF _ (by omega), hGF _ (by omega)]
          refine ((hreps i (by omega)).mono fun b hb => (hpb b (by omega) [.string (rth xs k).type, .int .i64 (rth xs k).id, .slice na (rth xs k).cells.length nc] w1 _).trans (hby.block b hb.2)).sub fun b hb => ⟨hb.1, ?_⟩
          show b < (puts w1 w.heap.size (k * 3) [.string (rth xs k).type, .int .i64 (rth xs k).id, .slice na (rth xs k).cells.length nc]).heap.size
          omega
      case measure => simp [intOf]; omega
    · go_wp2_with fail
      go_ret
      have e : k = xs.length := by omega
      subst e
      refine ⟨rfl, hbel, hrow.lt, ⟨h3, fun i j => G (i * 3 + j), fun _ => ⟨_, _, rfl, ⟨Nat.le_refl _, hrow.lt⟩, fun i hi j hj => ?_⟩, fun i hi => (hreps i hi).sub fun b hb => ⟨by omega, hb.2⟩⟩⟩
      have := hrow.cell (i := i * 3 + j) (by omega)
      simpa using this
end Go.Proofs.YtjpabpkfdahdhaaGreat

namespace Go.Proofs.YtjpabpkfdahdhaaGreat
set_option linter.unusedSimpArgs false
set_option linter.unusedVariables false
open Go.RowKit

set_option maxHeartbeats 800000 in
theorem eqCell_any (c : Ce) (w : World) (B : Nat) (v v' : Value) (hR : CeRep w (· < B) c v) (hR' : CeRep w (· < B) c v') (hB : B ≤ w.heap.size) :
    Calls Tryz.prog 76 #[v, v'] w fun e w' => e = .returned (.bool true) ∧ Below w.heap.size w w' := by
  obtain ⟨c1, c2, c3, c4, c5, rfl, hV, -⟩ := hR
  obtain ⟨d1, d2, d3, d4, d5, rfl, hV', -⟩ := hR'
  go_enter Tryz.func76, Tryz.ntmps76
  go_wp2_with (
      go_at_call 100
      refine (eqValue_any c.val _ B _ _ (hV.under ((below_box2 w _ _).mono hB)) (hV'.under ((below_box2 w _ _).mono hB)) (by simp; omega)).mono ?_
      rintro e w' ⟨rfl, hb⟩)
  go_ret
  exact ⟨rfl, (below_box2 w _ _).trans (hb.mono (by simp; omega))⟩

set_option maxHeartbeats 1600000 in
theorem eqCellS_any (xs : List Ce) (w : World) (B : Nat) (a a' : Option Addr) (c c' : Nat) (hK : CeReps w (· < B) xs a) (hK' : CeReps w (· < B) xs a') (hB : B ≤ w.heap.size) :
    Calls Tryz.prog 43 #[.slice a xs.length c, .slice a' xs.length c'] w fun e w' => e = .returned (.bool true) ∧ Below w.heap.size w w' := by
  have h3 := hK.1
  obtain ⟨-, C, hA, hr⟩ := hK
  obtain ⟨-, C', hA', hr'⟩ := hK'
  go_enter Tryz.func43, Tryz.ntmps43
  go_wp2_with fail
  go_loopw [5] (fun i wr => ∃ k : Nat, k ≤ xs.length ∧ i = .int .i64 k ∧ Below w.heap.size w wr) (fun i _ => xs.length - (intOf i).toNat)
  case atStart => exact ⟨0, Nat.zero_le _, rfl, Below.refl _ _⟩
  case round =>
    obtain ⟨k, hk, rfl, hbel⟩ := hrel
    by_cases hlt : k < xs.length
    · obtain ⟨b, off, rfl, hbB, hc⟩ := hA (by omega)
      obtain ⟨b', off', rfl, hbB', hd⟩ := hA' (by omega)
      clear hA hA'
      have hck : ∀ j, j < 6 → wr.cell? ⟨b, off + k * 6 + j, none⟩ = some (C k j) := fun j hj => (hbel.cell (p := ⟨b, off + k * 6 + j, none⟩) (by show b < _; omega)).trans (hc k hlt j hj)
      have hc0 : wr.cell? ⟨b, off + k * 6, none⟩ = some (C k 0) := hck 0 (by omega)
      have hc1 : wr.cell? ⟨b, off + k * 6 + 1, none⟩ = some (C k 1) := hck 1 (by omega)
      have hc2 : wr.cell? ⟨b, off + k * 6 + 2, none⟩ = some (C k 2) := hck 2 (by omega)
      have hc3 : wr.cell? ⟨b, off + k * 6 + 3, none⟩ = some (C k 3) := hck 3 (by omega)
      have hc4 : wr.cell? ⟨b, off + k * 6 + 4, none⟩ = some (C k 4) := hck 4 (by omega)
      have hc5 : wr.cell? ⟨b, off + k * 6 + 5, none⟩ = some (C k 5) := hck 5 (by omega)
      clear hck hc
      have hdk : ∀ j, j < 6 → wr.cell? ⟨b', off' + k * 6 + j, none⟩ = some (C' k j) := fun j hj => (hbel.cell (p := ⟨b', off' + k * 6 + j, none⟩) (by show b' < _; omega)).trans (hd k hlt j hj)
      have hd0 : wr.cell? ⟨b', off' + k * 6, none⟩ = some (C' k 0) := hdk 0 (by omega)
      have hd1 : wr.cell? ⟨b', off' + k * 6 + 1, none⟩ = some (C' k 1) := hdk 1 (by omega)
      have hd2 : wr.cell? ⟨b', off' + k * 6 + 2, none⟩ = some (C' k 2) := hdk 2 (by omega)
      have hd3 : wr.cell? ⟨b', off' + k * 6 + 3, none⟩ = some (C' k 3) := hdk 3 (by omega)
      have hd4 : wr.cell? ⟨b', off' + k * 6 + 4, none⟩ = some (C' k 4) := hdk 4 (by omega)
      have hd5 : wr.cell? ⟨b', off' + k * 6 + 5, none⟩ = some (C' k 5) := hdk 5 (by omega)
      clear hdk hd
      go_wp2_with fail
      go_region_with (go_at_call 76; refine (eqCell_any (cth xs k) _ B _ _ ((hr k hlt).under ((hbel.drew).mono hB)) ((hr' k hlt).under ((hbel.drew).mono hB)) (by have := hbel.size; simp; omega)).mono ?_; rintro e w1 ⟨rfl, hby⟩)
      all_goals
        go_wp2_with fail
        go_roundw
        case rel => exact ⟨k + 1, by omega, by go_num, hbel.drew.trans (hby.mono (by have := hbel.size; simpa using this))⟩
        case measure => simp [intOf]; omega
    · go_wp2_with fail
      go_ret
      exact ⟨rfl, hbel⟩

set_option maxHeartbeats 800000 in
theorem eqRow_any (t : Ro) (w : World) (B : Nat) (v v' : Value) (hR : RoRep w (· < B) t v) (hR' : RoRep w (· < B) t v') (hB : B ≤ w.heap.size) :
    Calls Tryz.prog 24 #[v, v'] w fun e w' => e = .returned (.bool true) ∧ Below w.heap.size w w' := by
  obtain ⟨na, nc, rfl, hs, -⟩ := hR
  obtain ⟨na', nc', rfl, hs', -⟩ := hR'
  obtain ⟨type, id, cells⟩ := t
  simp only at hs hs'
  go_enter Tryz.func24, Tryz.ntmps24
  go_wp2_with (
      go_at_call 43
      refine (eqCellS_any cells _ B na na' nc nc' (hs.under ((below_box2 w _ _).mono hB)) (hs'.under ((below_box2 w _ _).mono hB)) (by simp; omega)).mono ?_
      rintro e w' ⟨rfl, hb⟩)
  go_ret
  exact ⟨rfl, (below_box2 w _ _).trans (hb.mono (by simp; omega))⟩

set_option maxHeartbeats 1600000 in
theorem eqRowS_any (xs : List Ro) (w : World) (B : Nat) (a a' : Option Addr) (c c' : Nat) (hK : RoReps w (· < B) xs a) (hK' : RoReps w (· < B) xs a') (hB : B ≤ w.heap.size) :
    Calls Tryz.prog 11 #[.slice a xs.length c, .slice a' xs.length c'] w fun e w' => e = .returned (.bool true) ∧ Below w.heap.size w w' := by
  have h3 := hK.1
  obtain ⟨-, C, hA, hr⟩ := hK
  obtain ⟨-, C', hA', hr'⟩ := hK'
  go_enter Tryz.func11, Tryz.ntmps11
  go_wp2_with fail
  go_loopw [5] (fun i wr => ∃ k : Nat, k ≤ xs.length ∧ i = .int .i64 k ∧ Below w.heap.size w wr) (fun i _ => xs.length - (intOf i).toNat)
  case atStart => exact ⟨0, Nat.zero_le _, rfl, Below.refl _ _⟩
  case round =>
    obtain ⟨k, hk, rfl, hbel⟩ := hrel
    by_cases hlt : k < xs.length
    · obtain ⟨b, off, rfl, hbB, hc⟩ := hA (by omega)
      obtain ⟨b', off', rfl, hbB', hd⟩ := hA' (by omega)
      clear hA hA'
      have hck : ∀ j, j < 3 → wr.cell? ⟨b, off + k * 3 + j, none⟩ = some (C k j) := fun j hj => (hbel.cell (p := ⟨b, off + k * 3 + j, none⟩) (by show b < _; omega)).trans (hc k hlt j hj)
      have hc0 : wr.cell? ⟨b, off + k * 3, none⟩ = some (C k 0) := hck 0 (by omega)
      have hc1 : wr.cell? ⟨b, off + k * 3 + 1, none⟩ = some (C k 1) := hck 1 (by omega)
      have hc2 : wr.cell? ⟨b, off + k * 3 + 2, none⟩ = some (C k 2) := hck 2 (by omega)
      clear hck hc
      have hdk : ∀ j, j < 3 → wr.cell? ⟨b', off' + k * 3 + j, none⟩ = some (C' k j) := fun j hj => (hbel.cell (p := ⟨b', off' + k * 3 + j, none⟩) (by show b' < _; omega)).trans (hd k hlt j hj)
      have hd0 : wr.cell? ⟨b', off' + k * 3, none⟩ = some (C' k 0) := hdk 0 (by omega)
      have hd1 : wr.cell? ⟨b', off' + k * 3 + 1, none⟩ = some (C' k 1) := hdk 1 (by omega)
      have hd2 : wr.cell? ⟨b', off' + k * 3 + 2, none⟩ = some (C' k 2) := hdk 2 (by omega)
      clear hdk hd
      go_wp2_with fail
      go_region_with (go_at_call 24; refine (eqRow_any (rth xs k) _ B _ _ ((hr k hlt).under ((hbel.drew).mono hB)) ((hr' k hlt).under ((hbel.drew).mono hB)) (by have := hbel.size; simp; omega)).mono ?_; rintro e w1 ⟨rfl, hby⟩)
      all_goals
        go_wp2_with fail
        go_roundw
        case rel => exact ⟨k + 1, by omega, by go_num, hbel.drew.trans (hby.mono (by have := hbel.size; simpa using this))⟩
        case measure => simp [intOf]; omega
    · go_wp2_with fail
      go_ret
      exact ⟨rfl, hbel⟩
end Go.Proofs.YtjpabpkfdahdhaaGreat

namespace Go.Proofs.YtjpabpkfdahdhaaGreat
set_option linter.unusedSimpArgs false
set_option linter.unusedVariables false
open Go.RowKit

theorem box_cells {w W : World} {x0 x1 : Value} {T : TypeId} (h : Below (w.heap.size + 1) (w.alloc (.cells #[x0, x1] T)) W) :
    W.cell? ⟨w.heap.size, 0, none⟩ = some x0 ∧ W.cell? ⟨w.heap.size, 1, none⟩ = some x1 ∧ Below w.heap.size w W ∧ w.heap.size < W.heap.size := by
  have hz := h.size
  simp at hz
  have a : ∀ i (hi : i < 2), W.cell? ⟨w.heap.size, i, none⟩ = some #[x0, x1][i] := fun i hi => (h.cell (p := ⟨w.heap.size, i, none⟩) (by show w.heap.size < _; omega)).trans (box_new _ _ i (by simpa using hi))
  exact ⟨a 0 (by omega), a 1 (by omega), (below_box w _).trans (h.mono (by omega)), by omega⟩

set_option maxRecDepth 20000 in
set_option maxHeartbeats 6400000 in
theorem lawS_walk (p : Pt) (rs : List Ro) (w : World) (v : Value) (ra : Option Addr) (rc : Nat) (hR : PRep w (· < w.heap.size) p v) (hRs : RoReps w (· < w.heap.size) rs ra) :
    Calls Tryz.prog 3 #[v, .slice ra rs.length rc] w fun e w' => e = .returned (.bool true) ∧ Below w.heap.size w w' := by
  have hx := hR
  obtain ⟨pn, pt⟩ := p
  obtain ⟨ta, tc, rfl, -⟩ := hR
  simp only at hx
  obtain ⟨X, hXe⟩ : ∃ X, X = (w.alloc (.cells #[.string pn, .slice ta pt.length tc] 24)) := ⟨_, rfl⟩
  have TB : ∀ W, Below (w.heap.size + 1) X W → W.cell? ⟨w.heap.size, 0, none⟩ = some (.string pn) ∧ W.cell? ⟨w.heap.size, 1, none⟩ = some (.slice ta pt.length tc) ∧ Below w.heap.size w W ∧ w.heap.size < W.heap.size := fun W h => box_cells (by rw [← hXe]; exact h)
  have hT0 : Below (w.heap.size + 1) X (w.alloc (.cells #[.string pn, .slice ta pt.length tc] 24)) := by rw [hXe]; exact Below.refl _ _
  clear hXe
  have CPx := fun W (hb : Below w.heap.size w W) => toPart_any ⟨pn, pt⟩ W w.heap.size _ (hx.under hb) hb.size
  have CRx := fun W (hb : Below w.heap.size w W) => toRowS_any rs W w.heap.size ra rc (hRs.under hb) hb.size
  simp only at CPx
  go_enter Tryz.func3, Tryz.ntmps3
  go_wp2_with fail
  refine (szPart_any _ _ w.heap.size _ _ (hx.under (TB _ hT0).2.2.1) (by simp) (by omega) (by omega)).mono ?_
  rintro e w1 ⟨y1, rfl, hy0, hy1, hy2, hb1⟩
  have hT1 := hT0.trans (hb1.mono (by simp))
  clear hb1 hT0
  obtain ⟨p0, p1, hbw1, hz1⟩ := TB w1 hT1
  by_cases h1 : y1 < 0
  · go_wp2_with fail
    go_ret
    exact ⟨rfl, hbw1⟩
  have hzp : szP ⟨pn, pt⟩ ≤ 1048576 := by have := hy2 (by omega); omega
  go_wp2_with fail
  clear p0 p1
  refine (szRowS_any _ _ w.heap.size _ _ _ (hRs.under hbw1) (by omega) (by omega) (by omega)).mono ?_
  rintro e w2 ⟨y2, rfl, hy20, hy21, hy22, hb2⟩
  have hT2 := hT1.trans (hb2.mono (by omega))
  obtain ⟨p0, p1, hbw2, hz2⟩ := TB w2 hT2
  by_cases h2 : y2 < 0
  · go_wp2_with fail
    go_ret
    exact ⟨rfl, hbw2⟩
  clear hb2 hT1 hbw1 hz1 hy0 hy1 hy2 hy20 hy21 hy22
  have SB := fun W B v a c h1 h2 h3 => StoreOkS_any ⟨pn, pt⟩ rs W B v a c h1 h2 h3 hzp
  have IB := fun W B v a c h1 h2 h3 h4 => StoreOkI_any ⟨pn, pt⟩ rs W B v a c h1 h2 h3 h4 hzp
  rw [store_same] at IB
  generalize storeS ⟨pn, pt⟩ rs = bv at SB IB
  go_wp2_with fail
  clear p0 p1
  refine (CPx w2 hbw2).mono ?_
  rintro e w3 ⟨ta3, tc3, rfl, hb3, hr3⟩
  have hT3 := hT2.trans (hb3.mono (by omega))
  obtain ⟨p0, p1, hbw3, hz3⟩ := TB w3 hT3
  go_wp2_with fail
  clear p0 p1
  refine (CRx w3 hbw3).mono ?_
  rintro e w4 ⟨rfl, hb4, hz43, hr4⟩
  have hT4 := hT3.trans (hb4.mono (by omega))
  go_wp2_with fail
  refine (SB w4 w4.heap.size _ _ _ ((hr3.mono fun b hb => hb4.block b hb.2).sub fun b hb => by omega) (hr4.sub fun b hb => hb.2) (Nat.le_refl _)).mono ?_
  rintro e w5 ⟨rfl, hb5⟩
  have hz54 := hb5.size
  have hT5 := hT4.trans (hb5.mono (by have := hT4.size; have := hT3.size; omega))
  clear hb3 hb4 hb5 hr3 hr4 hT2 hT3 hT4 hbw2 hbw3 hz2 hz3
  obtain ⟨p0, p1, hbw5, hz5⟩ := TB w5 hT5
  go_wp2_with fail
  refine (CPx w5 hbw5).mono ?_
  rintro e w6 ⟨ta6, tc6, rfl, hb6, hr6⟩
  have hT6 := hT5.trans (hb6.mono (by omega))
  have hz65 := hb6.size
  obtain ⟨Y, hYe⟩ : ∃ Y, Y = (w6.alloc (.cells #[.string pn, .slice ta6 pt.length tc6] 31)) := ⟨_, rfl⟩
  have hYb : Below w6.heap.size w6 Y := by rw [hYe]; exact below_box _ _
  have hYz : w6.heap.size < Y.heap.size := by rw [hYe]; simp
  have hYs : Y.heap.size < w6.heap.size + 2 := by rw [hYe]; simp
  have YB : ∀ W, Below (w6.heap.size + 1) Y W → W.cell? ⟨w6.heap.size, 0, none⟩ = some (.string pn) ∧ W.cell? ⟨w6.heap.size, 1, none⟩ = some (.slice ta6 pt.length tc6) ∧ Below w6.heap.size w6 W ∧ w6.heap.size < W.heap.size := fun W h => box_cells (by rw [← hYe]; exact h)
  have hT6a := hT6.trans (hYb.mono (by omega))
  have hY0 := Below.refl (w6.heap.size + 1) Y
  have X6 : PRep Y (fun b => w5.heap.size ≤ b ∧ b < w6.heap.size) ⟨pn, pt⟩ (.agg #[.string pn, .slice ta6 pt.length tc6]) := hr6.mono fun b hb => hYb.block b hb.2
  clear p0 p1 hb6 hr6 hYb
  obtain ⟨p0, p1, hbw6, hz6⟩ := TB Y hT6a
  go_wp2_with fail
  rw [← hYe]
  clear hYe
  refine (CRx Y hbw6).mono ?_
  rintro e w7 ⟨rfl, hb7, hz7, hr7⟩
  have hT7 := hT6a.trans (hb7.mono (by omega))
  have hY7 := hY0.trans (hb7.mono (by omega))
  have X7 := X6.mono fun b hb => hb7.block b (by omega)
  clear p0 p1 hT6 hT6a hY0 X6 hb7 hbw6
  obtain ⟨p0, p1, hbw7, hz7'⟩ := TB w7 hT7
  obtain ⟨q0, q1, hq7, hz76⟩ := YB w7 hY7
  go_wp2_with fail
  refine (IB w7 w7.heap.size _ _ _ (X7.sub fun b hb => by omega) (hr7.sub fun b hb => hb.2) (Nat.le_refl _) (Nat.le_refl _)).mono ?_
  rintro e w8 ⟨rfl, hb8⟩
  have hz87 := hb8.size
  have hT8 := hT7.trans (hb8.mono (by omega))
  have hY8 := hY7.trans (hb8.mono (by omega))
  have X8 := X7.mono fun b hb => hb8.block b (by omega)
  have R8 := hr7.mono fun b hb => hb8.block b hb.2
  clear p0 p1 q0 q1 hT7 hY7 X7 hr7 hb8 hbw7 hq7
  obtain ⟨p0, p1, hbw8, hz8⟩ := TB w8 hT8
  obtain ⟨q0, q1, hq8, hz86⟩ := YB w8 hY8
  go_wp2_with fail
  go_region_held3 (fun w' => w'.cell? ⟨w6.heap.size, 0, none⟩ = some (.string pn) ∧ w'.cell? ⟨w6.heap.size, 1, none⟩ = some (.slice ta6 pt.length tc6) ∧ w'.cell? ⟨w.heap.size, 0, none⟩ = some (.string pn) ∧ w'.cell? ⟨w.heap.size, 1, none⟩ = some (.slice ta pt.length tc)) (go_keep)
    (first
      | (
        go_at_call 7
        refine (CPx w8.drew hbw8.drew).mono ?_
        rintro e w9 ⟨ta9, tc9, rfl, hb9, hr9⟩
        have hu9 := below_undrew hb9
        have hz98 := hu9.size
        obtain ⟨q0', q1', -, -⟩ := YB w9 (hY8.trans (hu9.mono (by omega)))
        obtain ⟨p0', p1', hbw9, hz9⟩ := TB w9 (hT8.trans (hu9.mono (by omega))))
      | (
        go_at_call 10
        refine (eqPart_any ⟨pn, pt⟩ w9 w9.heap.size _ _ ((X8.mono fun b hb => hu9.block b (by omega)).sub fun b hb => by omega) (hr9.sub fun b hb => hb.2) (Nat.le_refl _)).mono ?_
        rintro e w10 ⟨rfl, hb10⟩
        have hu10 := hu9.trans (hb10.mono hz98)
        have hz108 := hu10.size
        obtain ⟨q0'', q1'', -, -⟩ := YB w10 (hY8.trans (hu10.mono (by omega)))
        obtain ⟨p0'', p1'', hbw10, hz10⟩ := TB w10 (hT8.trans (hu10.mono (by omega)))))
  all_goals
    clear p0 p1 q0 q1
    go_wp2_with fail
    refine (CRx w10 hbw10).mono ?_
    rintro e w11 ⟨rfl, hb11, hz11, hr11⟩
    have hu11 := hu10.trans (hb11.mono hz108)
    have hz118 := hu11.size
    go_wp2_with fail
    refine (eqRowS_any rs w11 w11.heap.size _ _ _ _ ((R8.mono fun b hb => hu11.block b (by omega)).sub fun b hb => by omega) (hr11.sub fun b hb => hb.2) (Nat.le_refl _)).mono ?_
    rintro e w12 ⟨rfl, hb12⟩
    have hu12 := hu11.trans (hb12.mono hz118)
    obtain ⟨-, -, hbw12, -⟩ := TB w12 (hT8.trans (hu12.mono (by omega)))
    go_wp2_with fail
    go_ret
    exact ⟨rfl, hbw12⟩
end Go.Proofs.YtjpabpkfdahdhaaGreat

namespace Go.Proofs.YtjpabpkfdahdhaaGreat
set_option linter.unusedSimpArgs false
set_option linter.unusedVariables false
open Go.RowKit Go.Deep Go.ChangeShapes

theorem Tryz.cells24 : Tryz.prog.cellsOf 24 = 2 := by kernel_rfl
theorem Tryz.cells67 : Tryz.prog.cellsOf 67 = 3 := by kernel_rfl
theorem Tryz.cells129 : Tryz.prog.cellsOf 129 = 8 := by kernel_rfl
theorem Tryz.cells4 : Tryz.prog.cellsOf 4 = 1 := by kernel_rfl
theorem Tryz.cells9 : Tryz.prog.cellsOf 9 = 1 := by kernel_rfl
theorem Tryz.cells71 : Tryz.prog.cellsOf 71 = 1 := by kernel_rfl
theorem Tryz.cells22 : Tryz.prog.cellsOf 22 = 1 := by kernel_rfl
theorem Tryz.cells65 : Tryz.prog.cellsOf 65 = 1 := by kernel_rfl
theorem Tryz.bytes9 : Tryz.prog.bytesOf 9 = 16 := by kernel_rfl
theorem Tryz.bytes67 : Tryz.prog.bytesOf 67 = 56 := by kernel_rfl
theorem Tryz.bytes129 : Tryz.prog.bytesOf 129 = 64 := by kernel_rfl

theorem add_plain (b off k : Nat) : (⟨b, off, none⟩ : Addr).add k = ⟨b, off + k, none⟩ := by by_cases h : k = 0 <;> simp [Addr.add, h]

section
variable {H : Type} {enc : TypeId × Value → H} {w : World}

/-- A datum's parts, each within the reach. -/
def Light (t : TypeId) (d : DataW H) : Prop := ∀ n ∈ d.weights Tryz.prog t, n ≤ reachBytes

theorem light_all {e : TypeId} : ∀ {l : List (DataW H)} {d : DataW H}, d ∈ l → ∀ n ∈ d.weights Tryz.prog e, n ∈ DataW.weightsAll Tryz.prog e l
  | x :: r, d, hd, n, hn => by
    rw [DataW.weightsAll, List.mem_append]
    rcases List.mem_cons.1 hd with rfl | h
    · exact Or.inl hn
    · exact Or.inr (light_all h n hn)

theorem strs_open {fuel : Nat} {c : Value} {x : DataW H × List MemPlace} (h : DataW.trod enc Tryz.prog w 0 (fun _ => true) true fuel 71 [c] = some x) (hl : Light 71 x.1) :
    ∃ (ns : List ByteArray) (na : Option Addr) (nc : Nat), c = .slice na ns.length nc ∧ Strs w (· < w.heap.size) ns na ∧ ns.length ≤ nc ∧ 16 * ns.length ≤ 281474976710656 := by
  rcases open_strings Tryz.underlying71 Tryz.underlying9 Tryz.cells9 h with ⟨hc, hx⟩ | ⟨a, len, cap, ss, hc, -, hlc, hcm, hsl, rfl, hcell, hsz⟩
  · simp only [List.cons.injEq, and_true] at hc
    exact ⟨[], none, 0, hc, ⟨fun h => absurd rfl h, fun i => by simp [nth], by simp⟩, by simp, by simp⟩
  · simp only [List.cons.injEq, and_true] at hc
    simp only [if_true] at hsl
    have hlen : (ss.take len).length = len := by simp; omega
    refine ⟨ss.take len, some a, cap, by rw [hlen]; exact hc, ⟨fun hne => ?_, fun i => ?_, by rw [hlen]; omega⟩, by omega, ?_⟩
    · have h0 : 0 < len := by
        rcases Nat.eq_zero_or_pos len with h | h
        · subst h; simp at hne
        · exact h
      obtain ⟨b, off, spot⟩ := a
      have hs : spot = none := by simpa [Addr.add] using World.cell?_spot (hcell 0 (by omega))
      subst hs
      refine ⟨b, off, rfl, ?_, fun i hi => ?_⟩
      · have h1 := hcell 0 (by omega)
        have : w.cells? 0 ⟨b, off, none⟩ 1 = some [.string (ss.getD 0 ByteArray.empty)] := cells?_one (Nat.zero_le _) (by simpa [Addr.add] using h1)
        exact World.cells?_block this (by omega)
      · have := hcell i (by omega)
        rw [add_plain] at this
        rw [this]
        simp [nth, List.getD_eq_getElem?_getD, List.getElem?_take, show i < len by omega]
    · simp only [nth, List.getD_eq_getElem?_getD, List.getElem?_take]
      split
      · by_cases hi : i < ss.length
        · rw [List.getElem?_eq_getElem hi]; exact hsz _ (List.getElem_mem hi)
        · rw [List.getElem?_eq_none (by omega)]; simp
      · simp
    · have h1 := hl ((strs (H := H) (ss.take len)).length + (strs (H := H) (ss.drop len)).length |>.mul (Tryz.prog.bytesOf 9)) (by
        simp only [DataW.weights, Tryz.underlying71]; exact List.mem_cons_self ..)
      have h2 : ((strs (H := H) (ss.take len)).length + (strs (H := H) (ss.drop len)).length) * Tryz.prog.bytesOf 9 ≤ reachBytes := h1
      rw [Tryz.bytes9] at h2
      simp only [strs, List.length_map, List.length_take, List.length_drop, reachBytes] at h2
      omega

/-- A list of things of so many cells each, opened. -/
theorem rows_open {X : Type} (z : X) (R : X → List Value → Prop) (sl e : TypeId) (sz by' : Nat) (hu : Tryz.prog.underlying sl = some (.slice e)) (hc : Tryz.prog.cellsOf e = sz) (hby : Tryz.prog.bytesOf e = by') (hs0 : 0 < sz)
    {fuel : Nat} {c : Value} {x : DataW H × List MemPlace} (h : DataW.trod enc Tryz.prog w 0 (fun _ => true) true fuel sl [c] = some x) (hl : Light sl x.1)
    (ih : ∀ m cs y, DataW.trod enc Tryz.prog w 0 (fun _ => true) true m e cs = some y → Light e y.1 → cs.length = sz ∧ ∃ a, R a cs) :
    ∃ (xs : List X) (a : Option Addr) (cap : Nat) (C : Nat → Nat → Value), c = .slice a xs.length cap ∧ xs.length ≤ cap ∧ by' * xs.length ≤ 281474976710656 ∧ Arr w (· < w.heap.size) sz xs.length a C ∧ ∀ i, i < xs.length → R (xs.getD i z) ((List.range sz).map (C i)) := by
  rcases DataW.trod_slice hu h with ⟨hc0, -⟩ | ⟨a, len, cap, elems, rest, n', hfu, hc0, rfl, -, hlc, hcm, hle, hel, -, -⟩
  · simp only [List.cons.injEq, and_true] at hc0
    exact ⟨[], none, 0, fun _ _ => undef, hc0, by simp, by simp, fun h => by simp at h, fun i hi => by simp at hi⟩
  · simp only [List.cons.injEq, and_true] at hc0
    have hw : by' * len ≤ 281474976710656 := by
      have h1 := hl (((elems.map (·.1)).length + (rest.map (·.1)).length) * Tryz.prog.bytesOf e) (by simp only [DataW.weights, hu]; exact List.mem_cons_self ..)
      rw [hby] at h1
      simp only [List.length_map, reachBytes] at h1
      have h2 : len * by' ≤ (elems.length + rest.length) * by' := Nat.mul_le_mul_right _ (by omega)
      have h3 : by' * len = len * by' := Nat.mul_comm _ _
      omega
    have hk : ∀ i, ∃ r : X × (Nat → Value), i < len → (∀ j, j < sz → w.cell? ((a.add (i * sz)).add j) = some (r.2 j)) ∧ R r.1 ((List.range sz).map r.2) := by
      intro i
      by_cases hi : i < len
      · have hi' : i < elems.length := by omega
        have h1 := hel i hi
        rw [List.getElem?_eq_getElem hi', hc] at h1
        obtain ⟨cs', hcs, htr⟩ := Option.bind_eq_some_iff.1 h1
        obtain ⟨hlen, y, hR⟩ := ih n' cs' _ htr (fun k hk => hl k (by
          simp only [DataW.weights, hu]
          refine List.mem_cons_of_mem _ (List.mem_append_left _ (light_all (d := elems[i].1) ?_ k hk))
          exact List.mem_map.2 ⟨elems[i], List.getElem_mem hi', rfl⟩))
        obtain ⟨-, -, hcc⟩ := World.cells?_some hcs
        have hcs2 : (List.range sz).map (fun j => cs'.getD j undef) = cs' := by
          apply List.ext_getElem
          · simp [hlen]
          · intro j h1 h2; simp [List.getD_eq_getElem?_getD, List.getElem?_eq_getElem h2]
        refine ⟨(y, fun j => cs'.getD j undef), fun _ => ⟨fun j hj => ?_, ?_⟩⟩
        · rw [hcc j hj]
          simp [List.getD_eq_getElem?_getD, List.getElem?_eq_getElem (show j < cs'.length by omega)]
        · show R y ((List.range sz).map (fun j => cs'.getD j undef))
          rw [hcs2]; exact hR
      · exact ⟨(z, fun _ => undef), fun h => absurd h hi⟩
    obtain ⟨f, hfk⟩ := Classical.skolem.1 hk
    have hkl : ((List.range len).map fun i => (f i).1).length = len := by simp
    refine ⟨(List.range len).map fun i => (f i).1, some a, cap, fun i => (f i).2, by rw [hkl]; exact hc0, by rw [hkl]; exact hlc, by rw [hkl]; exact hw, ?_, ?_⟩
    · intro h0
      rw [hkl] at h0 ⊢
      have h1 := (hfk 0 h0).1 0 hs0
      have h2 : w.cell? a = some ((f 0).2 0) := by simpa [Addr.add] using h1
      have hsp := World.cell?_spot h2
      obtain ⟨b, off, spot⟩ := a
      simp only at hsp
      subst hsp
      have : w.cells? 0 ⟨b, off, none⟩ 1 = some [(f 0).2 0] := cells?_one (Nat.zero_le _) h2
      refine ⟨b, off, rfl, World.cells?_block this (by omega), fun i hi j hj => ?_⟩
      have h3 := (hfk i hi).1 j hj
      rw [add_plain, add_plain] at h3
      exact h3
    · intro i hi
      rw [hkl] at hi
      have h1 := (hfk i hi).2
      simpa [List.getD_eq_getElem?_getD, List.getElem?_map, List.getElem?_range hi] using h1

theorem field_open (fuel : Nat) (cs : List Value) (x : DataW H × List MemPlace) (h : DataW.trod enc Tryz.prog w 0 (fun _ => true) true fuel 129 cs = some x) (hl : Light 129 x.1) :
    cs.length = 8 ∧ ∃ (f : F) (c0 c1 c2 c3 c4 c5 c6 c7 : Value), cs = [c0, c1, c2, c3, c4, c5, c6, c7] ∧ FRep w (· < w.heap.size) f (.agg #[c0, c1, c2, c3, c4, c5, c6, c7]) := by
  obtain ⟨xs, m, rfl, rfl, hlen, hxl, hf⟩ := DataW.trod_struct Tryz.underlying129 h
  rw [Tryz.cells129] at hlen
  refine ⟨hlen, ?_⟩
  have hxl' : xs.length = 8 := hxl
  clear hxl
  rcases cs with _ | ⟨c0, _ | ⟨c1, _ | ⟨c2, _ | ⟨c3, _ | ⟨c4, _ | ⟨c5, _ | ⟨c6, _ | ⟨c7, _ | ⟨c8, cs9⟩⟩⟩⟩⟩⟩⟩⟩⟩ <;> simp at hlen
  rcases xs with _ | ⟨y0, _ | ⟨y1, _ | ⟨y2, _ | ⟨y3, _ | ⟨y4, _ | ⟨y5, _ | ⟨y6, _ | ⟨y7, _ | ⟨y8, ys9⟩⟩⟩⟩⟩⟩⟩⟩⟩ <;> simp at hxl'
  have f0 : DataW.trod enc Tryz.prog w 0 (fun _ => true) true m 9 [c0] = some y0 := by have := hf 0 _ rfl; simpa [Tryz.cells9] using this
  have f1 : DataW.trod enc Tryz.prog w 0 (fun _ => true) true m 9 [c1] = some y1 := by have := hf 1 _ rfl; simpa [Tryz.cells9] using this
  have f2 : DataW.trod enc Tryz.prog w 0 (fun _ => true) true m 4 [c2] = some y2 := by have := hf 2 _ rfl; simpa [Tryz.cells4] using this
  have f3 : DataW.trod enc Tryz.prog w 0 (fun _ => true) true m 4 [c3] = some y3 := by have := hf 3 _ rfl; simpa [Tryz.cells4] using this
  have f4 : DataW.trod enc Tryz.prog w 0 (fun _ => true) true m 4 [c4] = some y4 := by have := hf 4 _ rfl; simpa [Tryz.cells4] using this
  have f5 : DataW.trod enc Tryz.prog w 0 (fun _ => true) true m 4 [c5] = some y5 := by have := hf 5 _ rfl; simpa [Tryz.cells4] using this
  have f6 : DataW.trod enc Tryz.prog w 0 (fun _ => true) true m 4 [c6] = some y6 := by have := hf 6 _ rfl; simpa [Tryz.cells4] using this
  have f7 : DataW.trod enc Tryz.prog w 0 (fun _ => true) true m 71 [c7] = some y7 := by have := hf 7 _ rfl; simpa [Tryz.cells71] using this
  have l7 : Light 71 y7.1 := fun k hk => hl k (by simp [DataW.weights, Tryz.underlying129, DataW.weightsEach, hk])
  clear hf h hl
  obtain ⟨nm, e0, -, hn⟩ := DataW.trod_string Tryz.underlying9 f0
  obtain ⟨of, e1, -, ho⟩ := DataW.trod_string Tryz.underlying9 f1
  obtain ⟨b2, e2, -⟩ := DataW.trod_bool Tryz.underlying4 f2
  obtain ⟨b3, e3, -⟩ := DataW.trod_bool Tryz.underlying4 f3
  obtain ⟨b4, e4, -⟩ := DataW.trod_bool Tryz.underlying4 f4
  obtain ⟨b5, e5, -⟩ := DataW.trod_bool Tryz.underlying4 f5
  obtain ⟨b6, e6, -⟩ := DataW.trod_bool Tryz.underlying4 f6
  obtain ⟨ns, na, nc, rfl, hS, hnc, hb⟩ := strs_open f7 l7
  simp only [List.cons.injEq, and_true] at e0 e1 e2 e3 e4 e5 e6
  subst e0 e1 e2 e3 e4 e5 e6
  exact ⟨⟨nm, of, b2, b3, b4, b5, b6, ns⟩, _, _, _, _, _, _, _, _, rfl, na, nc, rfl, hS, hnc, hn, ho, hb⟩

theorem type_open (fuel : Nat) (cs : List Value) (x : DataW H × List MemPlace) (h : DataW.trod enc Tryz.prog w 0 (fun _ => true) true fuel 67 cs = some x) (hl : Light 67 x.1) :
    cs.length = 3 ∧ ∃ (t : T) (c0 c1 c2 : Value), cs = [c0, c1, c2] ∧ TRep w (· < w.heap.size) t (.agg #[c0, c1, c2]) := by
  obtain ⟨xs, m, rfl, rfl, hlen, hxl, hf⟩ := DataW.trod_struct Tryz.underlying67 h
  rw [Tryz.cells67] at hlen
  refine ⟨hlen, ?_⟩
  have hxl' : xs.length = 3 := hxl
  clear hxl
  rcases cs with _ | ⟨c0, _ | ⟨c1, _ | ⟨c2, _ | ⟨c3, cs9⟩⟩⟩⟩ <;> simp at hlen
  rcases xs with _ | ⟨y0, _ | ⟨y1, _ | ⟨y2, _ | ⟨y3, ys9⟩⟩⟩⟩ <;> simp at hxl'
  have f0 : DataW.trod enc Tryz.prog w 0 (fun _ => true) true m 9 [c0] = some y0 := by have := hf 0 _ rfl; simpa [Tryz.cells9] using this
  have f1 : DataW.trod enc Tryz.prog w 0 (fun _ => true) true m 9 [c1] = some y1 := by have := hf 1 _ rfl; simpa [Tryz.cells9] using this
  have f2 : DataW.trod enc Tryz.prog w 0 (fun _ => true) true m 65 [c2] = some y2 := by have := hf 2 _ rfl; simpa [Tryz.cells65] using this
  have l2 : Light 65 y2.1 := fun k hk => hl k (by simp [DataW.weights, Tryz.underlying67, DataW.weightsEach, hk])
  clear hf h hl
  obtain ⟨nm, e0, -, hn⟩ := DataW.trod_string Tryz.underlying9 f0
  obtain ⟨ky, e1, -, ho⟩ := DataW.trod_string Tryz.underlying9 f1
  obtain ⟨fs, fa, fc, C, rfl, hfc, hb, hA, hr⟩ := rows_open F.zero (fun f cs => ∃ (c0 c1 c2 c3 c4 c5 c6 c7 : Value), cs = [c0, c1, c2, c3, c4, c5, c6, c7] ∧ FRep w (· < w.heap.size) f (.agg #[c0, c1, c2, c3, c4, c5, c6, c7])) 65 129 8 64 Tryz.underlying65 Tryz.cells129 Tryz.bytes129 (by omega) f2 l2 field_open
  simp only [List.cons.injEq, and_true] at e0 e1
  subst e0 e1
  refine ⟨⟨nm, ky, fs⟩, _, _, _, rfl, fa, fc, rfl, ⟨hb, C, hA, fun i hi => ?_⟩, hfc, hn, ho⟩
  obtain ⟨d0, d1, d2, d3, d4, d5, d6, d7, hd, hR⟩ := hr i hi
  simp only [List.range, List.range.loop, List.map_cons, List.map_nil, List.cons.injEq, and_true] at hd
  obtain ⟨rfl, rfl, rfl, rfl, rfl, rfl, rfl, rfl⟩ := hd
  exact hR

theorem part_open (fuel : Nat) (cs : List Value) (x : DataW H × List MemPlace) (h : DataW.trod enc Tryz.prog w 0 (fun _ => true) true fuel 24 cs = some x) (hl : Light 24 x.1) :
    ∃ (p : Pt) (c0 c1 : Value), cs = [c0, c1] ∧ PRep w (· < w.heap.size) p (.agg #[c0, c1]) := by
  obtain ⟨xs, m, rfl, rfl, hlen, hxl, hf⟩ := DataW.trod_struct Tryz.underlying24 h
  rw [Tryz.cells24] at hlen
  have hxl' : xs.length = 2 := hxl
  clear hxl
  rcases cs with _ | ⟨c0, _ | ⟨c1, _ | ⟨c2, cs9⟩⟩⟩ <;> simp at hlen
  rcases xs with _ | ⟨y0, _ | ⟨y1, _ | ⟨y2, ys9⟩⟩⟩ <;> simp at hxl'
  have f0 : DataW.trod enc Tryz.prog w 0 (fun _ => true) true m 9 [c0] = some y0 := by have := hf 0 _ rfl; simpa [Tryz.cells9] using this
  have f1 : DataW.trod enc Tryz.prog w 0 (fun _ => true) true m 22 [c1] = some y1 := by have := hf 1 _ rfl; simpa [Tryz.cells22] using this
  have l1 : Light 22 y1.1 := fun k hk => hl k (by simp [DataW.weights, Tryz.underlying24, DataW.weightsEach, hk])
  clear hf h hl
  obtain ⟨nm, e0, -, hn⟩ := DataW.trod_string Tryz.underlying9 f0
  obtain ⟨ts, ta, tc, C, rfl, htc, hb, hA, hr⟩ := rows_open T.zero (fun t cs => ∃ (c0 c1 c2 : Value), cs = [c0, c1, c2] ∧ TRep w (· < w.heap.size) t (.agg #[c0, c1, c2])) 22 67 3 56 Tryz.underlying22 Tryz.cells67 Tryz.bytes67 (by omega) f1 l1 type_open
  simp only [List.cons.injEq, and_true] at e0
  subst e0
  refine ⟨⟨nm, ts⟩, _, _, rfl, ta, tc, rfl, ⟨hb, C, hA, fun i hi => ?_⟩, htc, hn⟩
  obtain ⟨d0, d1, d2, hd, hR⟩ := hr i hi
  simp only [List.range, List.range.loop, List.map_cons, List.map_nil, List.cons.injEq, and_true] at hd
  obtain ⟨rfl, rfl, rfl⟩ := hd
  exact hR
end
end Go.Proofs.YtjpabpkfdahdhaaGreat

namespace Go.Proofs.YtjpabpkfdahdhaaGreat
set_option linter.unusedSimpArgs false
set_option linter.unusedVariables false
open Go.RowKit Go.Deep Go.ChangeShapes

theorem Tryz.cells98 : Tryz.prog.cellsOf 98 = 5 := by kernel_rfl
theorem Tryz.cells100 : Tryz.prog.cellsOf 100 = 6 := by kernel_rfl
theorem Tryz.cells42 : Tryz.prog.cellsOf 42 = 3 := by kernel_rfl
theorem Tryz.cells3 : Tryz.prog.cellsOf 3 = 1 := by kernel_rfl
theorem Tryz.cells96 : Tryz.prog.cellsOf 96 = 1 := by kernel_rfl
theorem Tryz.cells40 : Tryz.prog.cellsOf 40 = 1 := by kernel_rfl
theorem Tryz.cells25 : Tryz.prog.cellsOf 25 = 1 := by kernel_rfl
theorem Tryz.bytes98 : Tryz.prog.bytesOf 98 = 80 := by kernel_rfl
theorem Tryz.bytes100 : Tryz.prog.bytesOf 100 = 96 := by kernel_rfl
theorem Tryz.bytes42 : Tryz.prog.bytesOf 42 = 48 := by kernel_rfl

section
variable {H : Type} {enc : TypeId × Value → H} {w : World}

set_option maxRecDepth 20000 in
theorem rep_open (fuel : Nat) : ∀ (cs : List Value) (x : DataW H × List MemPlace), DataW.trod enc Tryz.prog w 0 (fun _ => true) true fuel 98 cs = some x → Light 98 x.1 →
    ∃ (y : V) (c0 c1 c2 c3 c4 : Value), cs = [c0, c1, c2, c3, c4] ∧ Rep w (· < w.heap.size) y (.agg #[c0, c1, c2, c3, c4]) := by
  induction fuel using Nat.strongRecOn with
  | ind fuel ih =>
    intro cs x h hl
    obtain ⟨xs, m, rfl, rfl, hlen, hxl, hf⟩ := DataW.trod_struct Tryz.underlying98 h
    rw [Tryz.cells98] at hlen
    match cs, hlen with
    | [c0, c1, c2, c3, c4], _ =>
      match xs, hxl with
      | [y0, y1, y2, y3, y4], _ =>
        have f0 : DataW.trod enc Tryz.prog w 0 (fun _ => true) true m 3 [c0] = some y0 := by have := hf 0 _ rfl; simpa [Tryz.cells3] using this
        have f1 : DataW.trod enc Tryz.prog w 0 (fun _ => true) true m 3 [c1] = some y1 := by have := hf 1 _ rfl; simpa [Tryz.cells3] using this
        have f2 : DataW.trod enc Tryz.prog w 0 (fun _ => true) true m 9 [c2] = some y2 := by have := hf 2 _ rfl; simpa [Tryz.cells9] using this
        have f3 : DataW.trod enc Tryz.prog w 0 (fun _ => true) true m 71 [c3] = some y3 := by have := hf 3 _ rfl; simpa [Tryz.cells71] using this
        have f4 : DataW.trod enc Tryz.prog w 0 (fun _ => true) true m 96 [c4] = some y4 := by have := hf 4 _ rfl; simpa [Tryz.cells96] using this
        have l3 : Light 71 y3.1 := fun k hk => hl k (by simp [DataW.weights, Tryz.underlying98, DataW.weightsEach, hk])
        have l4 : Light 96 y4.1 := fun k hk => hl k (by simp [DataW.weights, Tryz.underlying98, DataW.weightsEach, hk])
        clear hf h hl
        obtain ⟨s, e0, -, -⟩ := DataW.trod_int Tryz.underlying3 f0
        obtain ⟨n, e1, -, -⟩ := DataW.trod_int Tryz.underlying3 f1
        obtain ⟨t, e2, -, ht⟩ := DataW.trod_string Tryz.underlying9 f2
        obtain ⟨ns, na, nc, rfl, hS, hnc, hb⟩ := strs_open f3 l3
        simp only [List.cons.injEq, and_true] at e0 e1 e2
        subst e0 e1 e2
        rcases DataW.trod_slice Tryz.underlying96 f4 with ⟨hc, -⟩ | ⟨a, len, cap, elems, rest, n', hfu, hc, rfl, -, hlc, hcm, hle, hel, -, -⟩
        · simp only [List.cons.injEq, and_true] at hc
          subst hc
          exact ⟨.mk s n t ns [], _, _, _, _, _, rfl, Rep.of_kids hS hnc ht hb ⟨by simp, 0, 0, fun _ _ => undef, fun h => absurd rfl h, fun i hi => by simp at hi, fun i hi => by simp at hi⟩⟩
        · simp only [List.cons.injEq, and_true] at hc
          subst hc
          have hw : 80 * len ≤ 281474976710656 := by
            have h1 := l4 (((elems.map (·.1)).length + (rest.map (·.1)).length) * Tryz.prog.bytesOf 98) (by simp only [DataW.weights, Tryz.underlying96]; exact List.mem_cons_self ..)
            rw [Tryz.bytes98] at h1
            simp only [List.length_map, reachBytes] at h1
            omega
          have hk : ∀ i, ∃ r : V × (Nat → Value), i < len → (∀ j, j < 5 → w.cell? ((a.add (i * 5)).add j) = some (r.2 j)) ∧ Rep w (· < w.heap.size) r.1 (.agg #[r.2 0, r.2 1, r.2 2, r.2 3, r.2 4]) := by
            intro i
            by_cases hi : i < len
            · have hi' : i < elems.length := by omega
              have h1 := hel i hi
              rw [List.getElem?_eq_getElem hi', Tryz.cells98] at h1
              obtain ⟨cs', hcs, htr⟩ := Option.bind_eq_some_iff.1 h1
              obtain ⟨y, d0, d1, d2, d3, d4, rfl, hR⟩ := ih n' (by omega) cs' _ htr (fun k hk => l4 k (by
                simp only [DataW.weights, Tryz.underlying96]
                refine List.mem_cons_of_mem _ (List.mem_append_left _ (light_all (d := elems[i].1) ?_ k hk))
                exact List.mem_map.2 ⟨elems[i], List.getElem_mem hi', rfl⟩))
              obtain ⟨-, -, hcc⟩ := World.cells?_some hcs
              refine ⟨(y, fun j => [d0, d1, d2, d3, d4].getD j undef), fun _ => ⟨fun j hj => ?_, hR⟩⟩
              rw [hcc j hj]
              simp [List.getD_eq_getElem?_getD, List.getElem?_eq_getElem (show j < [d0, d1, d2, d3, d4].length from hj)]
            · exact ⟨(V.zero, fun _ => undef), fun h => absurd h hi⟩
          obtain ⟨f, hfk⟩ := Classical.skolem.1 hk
          have hkl : ((List.range len).map fun i => (f i).1).length = len := by simp
          have hkth : ∀ i, i < len → kth ((List.range len).map fun i => (f i).1) i = (f i).1 := fun i hi => by
            simp [kth, List.getD_eq_getElem?_getD, List.getElem?_map, List.getElem?_range hi]
          refine ⟨.mk s n t ns ((List.range len).map fun i => (f i).1), _, _, _, _, _, rfl, ?_⟩
          have hK : Kids w (· < w.heap.size) ((List.range len).map fun i => (f i).1) (some a) := by
            refine ⟨by rw [hkl]; exact hw, a.block, a.off, fun i => (f i).2, fun hne => ?_, fun i hi j hj => ?_, fun i hi => ?_⟩
            · have h0 : 0 < len := by
                rcases Nat.eq_zero_or_pos len with h | h
                · subst h; simp at hne
                · exact h
              have h1 := (hfk 0 h0).1 0 (by omega)
              have h2 : w.cell? a = some ((f 0).2 0) := by simpa [Addr.add] using h1
              have hsp := World.cell?_spot h2
              obtain ⟨b, off, spot⟩ := a
              simp only at hsp
              subst hsp
              have : w.cells? 0 ⟨b, off, none⟩ 1 = some [(f 0).2 0] := cells?_one (Nat.zero_le _) h2
              exact ⟨rfl, World.cells?_block this (by omega)⟩
            · rw [hkl] at hi
              have h1 := (hfk i hi).1 j hj
              have h0 := (hfk 0 (by omega)).1 0 (by omega)
              have h2 : w.cell? a = some ((f 0).2 0) := by simpa [Addr.add] using h0
              have hsp := World.cell?_spot h2
              obtain ⟨b, off, spot⟩ := a
              simp only at hsp
              subst hsp
              rw [add_plain, add_plain] at h1
              exact h1
            · rw [hkl] at hi
              rw [hkth i hi]
              exact (hfk i hi).2
          have := Rep.of_kids (s := s) (n := n) (kc := cap) hS hnc ht hb hK
          rw [hkl] at this
          exact this

theorem cell_open (fuel : Nat) (cs : List Value) (x : DataW H × List MemPlace) (h : DataW.trod enc Tryz.prog w 0 (fun _ => true) true fuel 100 cs = some x) (hl : Light 100 x.1) :
    cs.length = 6 ∧ ∃ (f : Ce) (c0 c1 c2 c3 c4 c5 : Value), cs = [c0, c1, c2, c3, c4, c5] ∧ CeRep w (· < w.heap.size) f (.agg #[c0, c1, c2, c3, c4, c5]) := by
  obtain ⟨xs, m, rfl, rfl, hlen, hxl, hf⟩ := DataW.trod_struct Tryz.underlying100 h
  rw [Tryz.cells100] at hlen
  refine ⟨hlen, ?_⟩
  have hxl' : xs.length = 2 := hxl
  clear hxl
  rcases cs with _ | ⟨c0, _ | ⟨c1, _ | ⟨c2, _ | ⟨c3, _ | ⟨c4, _ | ⟨c5, _ | ⟨c6, cs9⟩⟩⟩⟩⟩⟩⟩ <;> simp at hlen
  rcases xs with _ | ⟨y0, _ | ⟨y1, _ | ⟨y2, ys9⟩⟩⟩ <;> simp at hxl'
  have f0 : DataW.trod enc Tryz.prog w 0 (fun _ => true) true m 9 [c0] = some y0 := by have := hf 0 _ rfl; simpa [Tryz.cells9] using this
  have f1 : DataW.trod enc Tryz.prog w 0 (fun _ => true) true m 98 [c1, c2, c3, c4, c5] = some y1 := by have := hf 1 _ rfl; simpa [Tryz.cells9, Tryz.cells98] using this
  have l1 : Light 98 y1.1 := fun k hk => hl k (by simp [DataW.weights, Tryz.underlying100, DataW.weightsEach, hk])
  clear hf h hl
  obtain ⟨nm, e0, -, hn⟩ := DataW.trod_string Tryz.underlying9 f0
  obtain ⟨y, d1, d2, d3, d4, d5, e1, hR⟩ := rep_open m _ _ f1 l1
  simp only [List.cons.injEq, and_true] at e0 e1
  obtain ⟨rfl, rfl, rfl, rfl, rfl⟩ := e1
  subst e0
  exact ⟨⟨nm, y⟩, _, _, _, _, _, _, rfl, _, _, _, _, _, rfl, hR, hn⟩

theorem row_open (fuel : Nat) (cs : List Value) (x : DataW H × List MemPlace) (h : DataW.trod enc Tryz.prog w 0 (fun _ => true) true fuel 42 cs = some x) (hl : Light 42 x.1) :
    cs.length = 3 ∧ ∃ (t : Ro) (c0 c1 c2 : Value), cs = [c0, c1, c2] ∧ RoRep w (· < w.heap.size) t (.agg #[c0, c1, c2]) := by
  obtain ⟨xs, m, rfl, rfl, hlen, hxl, hf⟩ := DataW.trod_struct Tryz.underlying42 h
  rw [Tryz.cells42] at hlen
  refine ⟨hlen, ?_⟩
  have hxl' : xs.length = 3 := hxl
  clear hxl
  rcases cs with _ | ⟨c0, _ | ⟨c1, _ | ⟨c2, _ | ⟨c3, cs9⟩⟩⟩⟩ <;> simp at hlen
  rcases xs with _ | ⟨y0, _ | ⟨y1, _ | ⟨y2, _ | ⟨y3, ys9⟩⟩⟩⟩ <;> simp at hxl'
  have f0 : DataW.trod enc Tryz.prog w 0 (fun _ => true) true m 9 [c0] = some y0 := by have := hf 0 _ rfl; simpa [Tryz.cells9] using this
  have f1 : DataW.trod enc Tryz.prog w 0 (fun _ => true) true m 3 [c1] = some y1 := by have := hf 1 _ rfl; simpa [Tryz.cells3] using this
  have f2 : DataW.trod enc Tryz.prog w 0 (fun _ => true) true m 40 [c2] = some y2 := by have := hf 2 _ rfl; simpa [Tryz.cells40] using this
  have l2 : Light 40 y2.1 := fun k hk => hl k (by simp [DataW.weights, Tryz.underlying42, DataW.weightsEach, hk])
  clear hf h hl
  obtain ⟨nm, e0, -, hn⟩ := DataW.trod_string Tryz.underlying9 f0
  obtain ⟨id, e1, -, -⟩ := DataW.trod_int Tryz.underlying3 f1
  obtain ⟨fs, fa, fc, C, rfl, hfc, hb, hA, hr⟩ := rows_open Ce.zero (fun f cs => ∃ (c0 c1 c2 c3 c4 c5 : Value), cs = [c0, c1, c2, c3, c4, c5] ∧ CeRep w (· < w.heap.size) f (.agg #[c0, c1, c2, c3, c4, c5])) 40 100 6 96 Tryz.underlying40 Tryz.cells100 Tryz.bytes100 (by omega) f2 l2 cell_open
  simp only [List.cons.injEq, and_true] at e0 e1
  subst e0 e1
  refine ⟨⟨nm, id, fs⟩, _, _, _, rfl, fa, fc, rfl, ⟨hb, C, hA, fun i hi => ?_⟩, hfc, hn⟩
  obtain ⟨d0, d1, d2, d3, d4, d5, hd, hR⟩ := hr i hi
  simp only [List.range, List.range.loop, List.map_cons, List.map_nil, List.cons.injEq, and_true] at hd
  obtain ⟨rfl, rfl, rfl, rfl, rfl, rfl⟩ := hd
  exact hR

theorem rowS_open {fuel : Nat} {c : Value} {x : DataW H × List MemPlace} (h : DataW.trod enc Tryz.prog w 0 (fun _ => true) true fuel 25 [c] = some x) (hl : Light 25 x.1) :
    ∃ (rs : List Ro) (ra : Option Addr) (rc : Nat), c = .slice ra rs.length rc ∧ RoReps w (· < w.heap.size) rs ra ∧ rs.length ≤ rc := by
  obtain ⟨rs, ra, rc, C, rfl, hrc, hb, hA, hr⟩ := rows_open Ro.zero (fun t cs => ∃ (c0 c1 c2 : Value), cs = [c0, c1, c2] ∧ RoRep w (· < w.heap.size) t (.agg #[c0, c1, c2])) 25 42 3 48 Tryz.underlying25 Tryz.cells42 Tryz.bytes42 (by omega) h hl row_open
  refine ⟨rs, ra, rc, rfl, ⟨hb, C, hA, fun i hi => ?_⟩, hrc⟩
  obtain ⟨d0, d1, d2, hd, hR⟩ := hr i hi
  simp only [List.range, List.range.loop, List.map_cons, List.map_nil, List.cons.injEq, and_true] at hd
  obtain ⟨rfl, rfl, rfl⟩ := hd
  exact hR
end
end Go.Proofs.YtjpabpkfdahdhaaGreat
