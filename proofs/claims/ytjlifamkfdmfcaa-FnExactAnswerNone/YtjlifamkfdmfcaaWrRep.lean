/-
  Wrongs and answers in memory, and the laws' functions over them.
-/
import Derived.Test.YtjlifamkfdmfcaaVSize
import Derived.Test.YtjlifamkfdmfcaaVNf
import Derived.Test.YtjlifamkfdmfcaaArr
import Derived.Test.YtjlifamkfdmfcaaEq
namespace Go.Proofs.Ytjlifamkfdmfcaa
set_option linter.unusedSimpArgs false
set_option linter.unusedVariables false
open Go.RowKit

/-- What went wrong, as it is meant. -/
structure Wr where
  way : List ByteArray
  code : Int
def Wr.zero : Wr := ⟨[], 0⟩
def wth (ts : List Wr) (i : Nat) : Wr := ts.getD i Wr.zero
def WrRep (w : World) (P : Nat → Prop) (t : Wr) (v : Value) : Prop := ∃ (fa : Option Addr) (fc : Nat),
  v = .agg #[.slice fa t.way.length fc, .int .i64 t.code] ∧ Strs w P t.way fa ∧ t.way.length ≤ fc ∧ 16 * t.way.length ≤ 281474976710656
def WrReps (w : World) (P : Nat → Prop) (ts : List Wr) (a : Option Addr) : Prop := 32 * ts.length ≤ 281474976710656 ∧ ∃ C : Nat → Nat → Value, Arr w P 2 ts.length a C ∧ ∀ i, i < ts.length → WrRep w P (wth ts i) (.agg #[C i 0, C i 1])
theorem WrRep.mono {w w' : World} {P : Nat → Prop} {t : Wr} {v : Value} (h : WrRep w P t v) (e : ∀ k, P k → w'.heap[k]? = w.heap[k]?) : WrRep w' P t v := by
  obtain ⟨fa, fc, h1, h2, h3⟩ := h; exact ⟨fa, fc, h1, h2.mono e, h3⟩
theorem WrRep.sub {w : World} {P Q : Nat → Prop} {t : Wr} {v : Value} (h : WrRep w P t v) (e : ∀ k, P k → Q k) : WrRep w Q t v := by
  obtain ⟨fa, fc, h1, h2, h3⟩ := h; exact ⟨fa, fc, h1, h2.sub e, h3⟩
theorem WrReps.mono {w w' : World} {P : Nat → Prop} {f : List Wr} {v : Option Addr} (h : WrReps w P f v) (e : ∀ k, P k → w'.heap[k]? = w.heap[k]?) : WrReps w' P f v := by
  obtain ⟨h0, C, h1, h2⟩ := h; exact ⟨h0, C, h1.mono e, fun i hi => (h2 i hi).mono e⟩
theorem WrReps.sub {w : World} {P Q : Nat → Prop} {f : List Wr} {v : Option Addr} (h : WrReps w P f v) (e : ∀ k, P k → Q k) : WrReps w Q f v := by
  obtain ⟨h0, C, h1, h2⟩ := h; exact ⟨h0, C, h1.sub e, fun i hi => (h2 i hi).sub e⟩
theorem WrRep.under {w w' : World} {B : Nat} {x : Wr} {v : Value} (h : WrRep w (· < B) x v) (hb : Below B w w') : WrRep w' (· < B) x v := h.mono fun k hk => hb.block k hk
theorem WrReps.under {w w' : World} {B : Nat} {x : List Wr} {v : Option Addr} (h : WrReps w (· < B) x v) (hb : Below B w w') : WrReps w' (· < B) x v := h.mono fun k hk => hb.block k hk

set_option maxHeartbeats 400000 in
theorem szWrong_any (t : Wr) (w : World) (B : Nat) (v : Value) (left : Int) (hR : WrRep w (· < B) t v) (hB : B ≤ w.heap.size) (hl0 : 0 ≤ left) (hl1 : left ≤ 1048576) :
    Calls Try.prog 54 #[v, .int .i64 left] w fun e w' => ∃ x : Int, e = .returned (.int .i64 x) ∧ -1 ≤ x ∧ x ≤ left ∧ Below w.heap.size w w' := by
  obtain ⟨fa, fc, rfl, hs, hnc, hn⟩ := hR
  go_enter Try.func54, Try.ntmps54
  go_wp2_with (go_at_call 52; refine (szStringS_any t.way fa fc _ (· < B) (hs.under ((below_box w _).mono hB)) _ (by omega) (by omega)).mono ?_; rintro e w' ⟨y, rfl, hy0, hy1, -, rfl⟩)
  · go_ret
    exact ⟨-1, rfl, by omega, by omega, below_box _ _⟩
  · go_ret
    exact ⟨y, rfl, by omega, by omega, below_box _ _⟩

set_option maxHeartbeats 400000 in
theorem szWrongS_any (xs : List Wr) (w : World) (B : Nat) (a : Option Addr) (c : Nat) (left : Int) (hK : WrReps w (· < B) xs a) (hB : B ≤ w.heap.size) (hl0 : 0 ≤ left) (hl1 : left ≤ 1048576) :
    Calls Try.prog 37 #[.slice a xs.length c, .int .i64 left] w fun e w' => ∃ x : Int, e = .returned (.int .i64 x) ∧ -1 ≤ x ∧ x ≤ left ∧ (0 ≤ x → x + xs.length ≤ left) ∧ Below w.heap.size w w' := by
  obtain ⟨h3, C, hA, hr⟩ := hK
  by_cases hbig : left < xs.length
  · go_enter Try.func37, Try.ntmps37
    go_wp2_with fail
    go_ret
    exact ⟨-1, rfl, by omega, by omega, by omega, Below.refl _ _⟩
  · go_enter Try.func37, Try.ntmps37
    go_wp2_with fail
    go_loopw [1, 5] (fun l i wr => ∃ (k : Nat) (x : Int), k ≤ xs.length ∧ i = .int .i64 k ∧ l = .int .i64 x ∧ 0 ≤ x ∧ x + xs.length ≤ left ∧ Below w.heap.size w wr) (fun _ i _ => xs.length - (intOf i).toNat)
    case atStart => exact ⟨0, _, Nat.zero_le _, rfl, rfl, by omega, by omega, Below.refl _ _⟩
    case round =>
      obtain ⟨k, x, hk, rfl, rfl, hx0, hx1, hbel⟩ := hrel
      by_cases hlt : k < xs.length
      · obtain ⟨b, off, rfl, hbB, hc⟩ := hA (by omega)
        have hck : ∀ j, j < 2 → wr.cell? ⟨b, off + k * 2 + j, none⟩ = some (C k j) := fun j hj => (hbel.cell (p := ⟨b, off + k * 2 + j, none⟩) (by show b < _; omega)).trans (hc k hlt j hj)
        have hc0 : wr.cell? ⟨b, off + k * 2, none⟩ = some (C k 0) := hck 0 (by omega)
        have hc1 : wr.cell? ⟨b, off + k * 2 + 1, none⟩ = some (C k 1) := hck 1 (by omega)
        clear hck hc
        go_wp2_with (go_at_call 54; refine (szWrong_any _ _ B _ x ((hr k hlt).under (hbel.mono hB)) (by have := hbel.size; omega) hx0 (by omega)).mono ?_; rintro e w' ⟨y, rfl, hy0, hy1, hby⟩)
        · go_ret
          exact ⟨-1, rfl, by omega, by omega, by omega, hbel.trans (hby.mono hbel.size)⟩
        · go_roundw
          case rel => exact ⟨k + 1, y, by omega, by go_num, rfl, by assumption, by omega, hbel.trans (hby.mono hbel.size)⟩
          case measure => simp [intOf]; omega
      · go_wp2_with fail
        go_ret
        exact ⟨x, rfl, by omega, by omega, fun _ => by omega, hbel⟩

theorem info_Wrong : (Try.prog.info? 113).map (fun i => (i.zero, i.size, i.bytes)) = some (some (.agg #[.slice none 0 0, .int .i64 0]), 2, 32) := by kernel_rfl

theorem cpWr_end {w w1 : World} {t : Wr} {x y : Value} {N : Nat} (hN : N = w.heap.size) (hbw : Below N w w1) (hsz1 : w1.heap.size = N + 1 + 1 + 1 + 1)
    (hst1 : Strs w1 (· = N + 1 + 1 + 1) t.way (some ⟨N + 1 + 1 + 1, 0, none⟩)) (h1 : 16 * t.way.length ≤ 281474976710656) (cs : List Value) :
    Below N w (puts ((w1.setCell ⟨N + 1 + 1, 0, none⟩ x).setCell ⟨N + 1 + 1, 1, none⟩ y) (N + 1) 0 cs) ∧
    WrRep (puts ((w1.setCell ⟨N + 1 + 1, 0, none⟩ x).setCell ⟨N + 1 + 1, 1, none⟩ y) (N + 1) 0 cs) (fun b => N ≤ b ∧ b < (puts ((w1.setCell ⟨N + 1 + 1, 0, none⟩ x).setCell ⟨N + 1 + 1, 1, none⟩ y) (N + 1) 0 cs).heap.size) t
      (.agg #[.slice (some ⟨N + 1 + 1 + 1, 0, none⟩) t.way.length t.way.length, .int .i64 t.code]) := by
  have hsz : (puts ((w1.setCell ⟨N + 1 + 1, 0, none⟩ x).setCell ⟨N + 1 + 1, 1, none⟩ y) (N + 1) 0 cs).heap.size = w1.heap.size := by rw [puts_size, size_set, size_set]
  refine ⟨puts_below (by omega) _ _ _ ((hbw.setCell (by show N ≤ N + 1 + 1; omega) _).setCell (by show N ≤ N + 1 + 1; omega) _), _, _, rfl, (hst1.mono fun k hk => ?_).sub fun k hk => ?_, Nat.le_refl _, h1⟩
  · rw [puts_block _ _ (by omega), Below.heap_setCell _ _ _ _ (by show k ≠ N + 1 + 1; omega), Below.heap_setCell _ _ _ _ (by show k ≠ N + 1 + 1; omega)]
  · rw [hsz]; omega

set_option maxHeartbeats 800000 in
theorem toWrong_nf (t : Wr) (w : World) (B : Nat) (v : Value) (hR : WrRep w (· < B) t v) (hB : B ≤ w.heap.size) :
    Calls Try.prog 57 #[v] w fun e w' => ∃ (fa : Option Addr) (fc : Nat), e = .returned (.agg #[.slice fa t.way.length fc, .int .i64 t.code]) ∧ Below w.heap.size w w' ∧
      WrRep w' (fun b => w.heap.size ≤ b ∧ b < w'.heap.size) t (.agg #[.slice fa t.way.length fc, .int .i64 t.code]) ∧ NF w.heap.size w' := by
  obtain ⟨na, nc, rfl, hs, hnc, hn⟩ := hR
  obtain ⟨way, code⟩ := t
  simp only at hs hnc hn
  have hb3 : ∀ o1 o2 o3, Below w.heap.size w (((w.alloc o1).alloc o2).alloc o3) := fun o1 o2 o3 => (((Below.refl _ _).alloc (Nat.le_refl _) _).alloc (by simp) _).alloc (by simp; omega) _
  go_enter Try.func57, Try.ntmps57
  go_wp2_with (
      go_at_call 55
      refine (toStringS_nf way na nc _ ((hs.under ((hb3 _ _ _).mono hB)).sub fun k hk => by simp; omega) hn).mono ?_
      rintro e w1 ⟨rfl, hb1, hsz1, hst1, hnf1⟩
      have HN1 : Hid (NF w.heap.size w1) := NF.call (NF.three w _ _ _ _ _ _) hb1 hnf1
      clear hnf1
      obtain ⟨c1, f1⟩ := bcell hb1
      simp at hsz1
      have hlt1 : w.heap.size + 1 + 1 < w1.heap.size := by omega)
  have hbw : Below w.heap.size w w1 := (hb3 _ _ _).trans (hb1.mono (by simp; omega))
  have fin := cpWr_end (w := w) (w1 := w1) (t := ⟨way, code⟩) (x := .slice (some ⟨w.heap.size + 1 + 1 + 1, 0, none⟩) way.length way.length) (y := .int .i64 code) (N := w.heap.size) rfl hbw hsz1 (by simpa using hst1) hn [.slice (some ⟨w.heap.size + 1 + 1 + 1, 0, none⟩) way.length way.length, .int .i64 code]
  refine bodyPost_ret (v := .agg #[.slice (some ⟨w.heap.size + 1 + 1 + 1, 0, none⟩) way.length way.length, .int .i64 code]) ?res rfl ⟨_, _, rfl, fin.1, fin.2, fun a ha => by simp only [World.frozen?_setCell]; exact HN1.out a ha⟩
  case res =>
    have hr0 : ∀ o1 o3 c, ((((w.alloc o1).alloc (.cells c 113)).alloc o3)).rowIs (w.heap.size + 1) 113 c.size (fun i => c[i]?.getD undef) := fun o1 o3 c => by
      have h := ((w.alloc o1).rowIs_alloc c 113 (fun i => c[i]?.getD undef) (fun i hi => by simp [hi])).alloc o3
      simpa using h
    have hr1 := (hr0 _ _ _).of_block (hb1.block (w.heap.size + 1) (by simp))
    have p0 := hr1.cell (i := 0) (by simp)
    have p1 := hr1.cell (i := 1) (by simp)
    clear fin hst1 hs c1 f1 hb1 hr0 hr1
    simp [results, Try.results57, go_sem, p0, p1]

set_option maxHeartbeats 1600000 in
theorem toWrongS_nf (xs : List Wr) (w : World) (B : Nat) (a : Option Addr) (c : Nat) (hK : WrReps w (· < B) xs a) (hB : B ≤ w.heap.size) :
    Calls Try.prog 40 #[.slice a xs.length c] w fun e w' => e = .returned (.slice (some ⟨w.heap.size, 0, none⟩) xs.length xs.length) ∧ Below w.heap.size w w' ∧ w.heap.size < w'.heap.size ∧
      WrReps w' (fun b => w.heap.size ≤ b ∧ b < w'.heap.size) xs (some ⟨w.heap.size, 0, none⟩) ∧ NF w.heap.size w' := by
  have h3 := hK.1
  obtain ⟨-, C, hA, hr⟩ := hK
  have hmk := run_make_any (P := Try.prog) 45 113 (.agg #[.slice none 0 0, .int .i64 0]) #[.slice none 0 0, .int .i64 0] rfl 2 32 Try.underlying45 info_Wrong .i64 .i64 xs.length h3 (by omega)
  go_enter Try.func40, Try.ntmps40
  go_wp2_with fail
  go_loopw [4] (fun i wr => ∃ (k : Nat) (G : Nat → Value), k ≤ xs.length ∧ i = .int .i64 k ∧ Below w.heap.size w wr ∧ wr.rowIs w.heap.size 113 (xs.length * 2) G ∧
      (∀ i, i < k → WrRep wr (fun b => w.heap.size < b ∧ b < wr.heap.size) (wth xs i) (.agg #[G (i * 2), G (i * 2 + 1)])) ∧ NF w.heap.size wr) (fun i _ => xs.length - (intOf i).toNat)
  case atStart =>
    obtain ⟨G, hG⟩ := made_row w #[.slice none 0 0, .int .i64 0] (xs.length * 2) 113
    exact ⟨0, G, Nat.zero_le _, rfl, below_box _ _, hG, fun i hi => by omega, (NF.new w).alloc _ _⟩
  case round =>
    obtain ⟨k, G, hk, rfl, hbel, hrow, hreps, hnf⟩ := hrel
    have HNF : Hid (NF w.heap.size wr) := hnf
    clear hnf
    by_cases hlt : k < xs.length
    · obtain ⟨b, off, rfl, hbB, hc⟩ := hA (by omega)
      have hck : ∀ j, j < 2 → wr.cell? ⟨b, off + k * 2 + j, none⟩ = some (C k j) := fun j hj => (hbel.cell (p := ⟨b, off + k * 2 + j, none⟩) (by show b < _; omega)).trans (hc k hlt j hj)
      have hc0 : wr.cell? ⟨b, off + k * 2, none⟩ = some (C k 0) := hck 0 (by omega)
      have hc1 : wr.cell? ⟨b, off + k * 2 + 1, none⟩ = some (C k 1) := hck 1 (by omega)
      clear hck hc
      go_wp2_with (
        go_at_call 57
        refine (toWrong_nf (wth xs k) _ B _ ((hr k hlt).under (hbel.mono hB)) (by have := hbel.size; omega)).mono ?_
        rintro e w1 ⟨na, nc, rfl, hby, hry, hnf1⟩
        have HN1 : Hid (NF w.heap.size w1) := NF.call HNF.out hby hnf1
        clear hnf1
        have hrow1 := hrow.of_block (hby.block _ hrow.lt)
        have q0 : w1.cell? ⟨w.heap.size, k * 2, none⟩ = some (G (k * 2)) := hrow1.cell (by omega)
        have q1 : w1.cell? ⟨w.heap.size, k * 2 + 1, none⟩ = some (G (k * 2 + 1)) := hrow1.cell (by omega)
        have z0 : ∀ j, w1.frozen? ⟨w.heap.size, j, none⟩ = false := fun j => hrow1.frozen j)
      go_roundw
      case rel =>
        obtain ⟨G', hG, hG1, hGF⟩ := puts_row [.slice na (wth xs k).way.length nc, .int .i64 (wth xs k).code] (k * 2) hrow1
        have hs1 := hbel.size
        have hs2 := hby.size
        have hs3 := hrow.lt
        have g0 : G' (k * 2) = .slice na (wth xs k).way.length nc := hG1 0 (by simp)
        have g1 : G' (k * 2 + 1) = .int .i64 (wth xs k).code := hG1 1 (by simp)
        have hpb := puts_block w.heap.size
        have hps := puts_size w.heap.size [.slice na (wth xs k).way.length nc, .int .i64 (wth xs k).code] w1 (k * 2)
        refine ⟨k + 1, G', by omega, by go_num, puts_below (Nat.le_refl _) [.slice na (wth xs k).way.length nc, .int .i64 (wth xs k).code] w1 (k * 2) (hbel.trans (hby.mono hs1)), hG, fun i hi => ?_, HN1.out.puts w.heap.size (k * 2) [.slice na (wth xs k).way.length nc, .int .i64 (wth xs k).code]⟩
        by_cases e1 : i = k
        · rw [e1, g0, g1]
          refine (hry.mono fun b hb => hpb b (by omega) [.slice na (wth xs k).way.length nc, .int .i64 (wth xs k).code] w1 _).sub fun b hb => ⟨by omega, ?_⟩
          show b < (puts w1 w.heap.size (k * 2) [.slice na (wth xs k).way.length nc, .int .i64 (wth xs k).code]).heap.size
          omega
        · rw [hGF _ (by omega), hGF _ (by omega)]
          refine ((hreps i (by omega)).mono fun b hb => (hpb b (by omega) [.slice na (wth xs k).way.length nc, .int .i64 (wth xs k).code] w1 _).trans (hby.block b hb.2)).sub fun b hb => ⟨hb.1, ?_⟩
          show b < (puts w1 w.heap.size (k * 2) [.slice na (wth xs k).way.length nc, .int .i64 (wth xs k).code]).heap.size
          omega
      case measure => simp [intOf]; omega
    · go_wp2_with fail
      go_ret
      have e : k = xs.length := by omega
      subst e
      refine ⟨rfl, hbel, hrow.lt, ⟨h3, fun i j => G (i * 2 + j), fun _ => ⟨_, _, rfl, ⟨Nat.le_refl _, hrow.lt⟩, fun i hi j hj => ?_⟩, fun i hi => (hreps i hi).sub fun b hb => ⟨by omega, hb.2⟩⟩, HNF.out⟩
      have := hrow.cell (i := i * 2 + j) (by omega)
      simpa using this

set_option maxHeartbeats 800000 in
theorem eqWrong_any (t : Wr) (w : World) (B : Nat) (v v' : Value) (hR : WrRep w (· < B) t v) (hR' : WrRep w (· < B) t v') (hB : B ≤ w.heap.size) :
    Calls Try.prog 60 #[v, v'] w fun e w' => e = .returned (.bool true) ∧ Below w.heap.size w w' := by
  obtain ⟨na, nc, rfl, hs, hnc, hn⟩ := hR
  obtain ⟨na', nc', rfl, hs', hnc', hn'⟩ := hR'
  go_enter Try.func60, Try.ntmps60
  go_wp2_with (
      go_at_call 27
      refine (eqStringS_any t.way na na' nc nc' _ _ _ (hs.under ((below_box2 w _ _).mono hB)) (hs'.under ((below_box2 w _ _).mono hB))).mono ?_
      rintro e w' ⟨rfl, n, rfl⟩)
  go_ret
  exact ⟨rfl, below_drews (below_box2 w _ _) _⟩

set_option maxHeartbeats 1600000 in
theorem eqWrongS_any (xs : List Wr) (w : World) (B : Nat) (a a' : Option Addr) (c c' : Nat) (hK : WrReps w (· < B) xs a) (hK' : WrReps w (· < B) xs a') (hB : B ≤ w.heap.size) :
    Calls Try.prog 44 #[.slice a xs.length c, .slice a' xs.length c'] w fun e w' => e = .returned (.bool true) ∧ Below w.heap.size w w' := by
  have h3 := hK.1
  obtain ⟨-, C, hA, hr⟩ := hK
  obtain ⟨-, C', hA', hr'⟩ := hK'
  go_enter Try.func44, Try.ntmps44
  go_wp2_with fail
  go_loopw [5] (fun i wr => ∃ k : Nat, k ≤ xs.length ∧ i = .int .i64 k ∧ Below w.heap.size w wr) (fun i _ => xs.length - (intOf i).toNat)
  case atStart => exact ⟨0, Nat.zero_le _, rfl, Below.refl _ _⟩
  case round =>
    obtain ⟨k, hk, rfl, hbel⟩ := hrel
    by_cases hlt : k < xs.length
    · obtain ⟨b, off, rfl, hbB, hc⟩ := hA (by omega)
      obtain ⟨b', off', rfl, hbB', hd⟩ := hA' (by omega)
      clear hA hA'
      have hck : ∀ j, j < 2 → wr.cell? ⟨b, off + k * 2 + j, none⟩ = some (C k j) := fun j hj => (hbel.cell (p := ⟨b, off + k * 2 + j, none⟩) (by show b < _; omega)).trans (hc k hlt j hj)
      have hc0 : wr.cell? ⟨b, off + k * 2, none⟩ = some (C k 0) := hck 0 (by omega)
      have hc1 : wr.cell? ⟨b, off + k * 2 + 1, none⟩ = some (C k 1) := hck 1 (by omega)
      clear hck hc
      have hdk : ∀ j, j < 2 → wr.cell? ⟨b', off' + k * 2 + j, none⟩ = some (C' k j) := fun j hj => (hbel.cell (p := ⟨b', off' + k * 2 + j, none⟩) (by show b' < _; omega)).trans (hd k hlt j hj)
      have hd0 : wr.cell? ⟨b', off' + k * 2, none⟩ = some (C' k 0) := hdk 0 (by omega)
      have hd1 : wr.cell? ⟨b', off' + k * 2 + 1, none⟩ = some (C' k 1) := hdk 1 (by omega)
      clear hdk hd
      go_wp2_with fail
      go_region_with (go_at_call 60; refine (eqWrong_any (wth xs k) _ B _ _ ((hr k hlt).under ((hbel.drew).mono hB)) ((hr' k hlt).under ((hbel.drew).mono hB)) (by have := hbel.size; simp; omega)).mono ?_; rintro e w1 ⟨rfl, hby⟩)
      all_goals
        go_wp2_with fail
        go_roundw
        case rel => exact ⟨k + 1, by omega, by go_num, hbel.drew.trans (hby.mono (by have := hbel.size; simpa using this))⟩
        case measure => simp [intOf]; omega
    · go_wp2_with fail
      go_ret
      exact ⟨rfl, hbel⟩
end Go.Proofs.Ytjlifamkfdmfcaa
