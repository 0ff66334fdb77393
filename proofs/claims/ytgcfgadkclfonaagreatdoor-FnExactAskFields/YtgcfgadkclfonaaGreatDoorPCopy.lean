/-
  Copies of fields, types and parts in new memory.
-/
import Derived.Test.YtgcfgadkclfonaaGreatDoorPRep
namespace Go.Proofs.YtgcfgadkclfonaaGreatDoor
set_option linter.unusedSimpArgs false
set_option linter.unusedVariables false
open Go.RowKit

/-- What toField's last steps leave. -/
theorem cpF_end {w w1 : World} {f : F} {x : Value} {N : Nat} (hN : N = w.heap.size) (hbw : Below N w w1) (hsz1 : w1.heap.size = N + 1 + 1 + 1 + 1)
    (hst1 : Strs w1 (· = N + 1 + 1 + 1) f.needs (some ⟨N + 1 + 1 + 1, 0, none⟩)) (h1 : f.name.size ≤ maxLen) (h2 : f.of.size ≤ maxLen) (hbs : 16 * f.needs.length ≤ 281474976710656) (cs : List Value) :
    Below N w (puts (w1.setCell ⟨N + 1 + 1, 7, none⟩ x) (N + 1) 0 cs) ∧
    FRep (puts (w1.setCell ⟨N + 1 + 1, 7, none⟩ x) (N + 1) 0 cs) (fun b => N ≤ b ∧ b < (puts (w1.setCell ⟨N + 1 + 1, 7, none⟩ x) (N + 1) 0 cs).heap.size) f
      (.agg #[.string f.name, .string f.of, .bool f.list, .bool f.must, .bool f.far, .bool f.hidden, .bool f.shared, .slice (some ⟨N + 1 + 1 + 1, 0, none⟩) f.needs.length f.needs.length]) := by
  have hsz : (puts (w1.setCell ⟨N + 1 + 1, 7, none⟩ x) (N + 1) 0 cs).heap.size = w1.heap.size := by rw [puts_size, size_set]
  refine ⟨puts_below (by omega) _ _ _ (hbw.setCell (by show N ≤ N + 1 + 1; omega) _), _, _, rfl, (hst1.mono fun k hk => ?_).sub fun k hk => ?_, Nat.le_refl _, h1, h2, hbs⟩
  · rw [puts_block _ _ (by omega), Below.heap_setCell _ _ _ _ (by show k ≠ N + 1 + 1; omega)]
  · rw [hsz]; omega

set_option maxHeartbeats 800000 in
theorem toField_any (f : F) (w : World) (B : Nat) (v : Value) (hR : FRep w (· < B) f v) (hB : B ≤ w.heap.size) :
    Calls Tryz.prog 104 #[v] w fun e w' => ∃ (na : Option Addr) (nc : Nat), e = .returned (.agg #[.string f.name, .string f.of, .bool f.list, .bool f.must, .bool f.far, .bool f.hidden, .bool f.shared, .slice na f.needs.length nc]) ∧ Below w.heap.size w w' ∧
      FRep w' (fun b => w.heap.size ≤ b ∧ b < w'.heap.size) f (.agg #[.string f.name, .string f.of, .bool f.list, .bool f.must, .bool f.far, .bool f.hidden, .bool f.shared, .slice na f.needs.length nc]) := by
  obtain ⟨na, nc, rfl, hs, hnc, hn, ho, hbs⟩ := hR
  obtain ⟨name, of, l, m, fa, hi, sh, needs⟩ := f
  simp only at hs hnc hn ho hbs
  have hb3 : ∀ o1 o2 o3, Below w.heap.size w (((w.alloc o1).alloc o2).alloc o3) := fun o1 o2 o3 => (((Below.refl _ _).alloc (Nat.le_refl _) _).alloc (by simp) _).alloc (by simp; omega) _
  go_enter Tryz.func104, Tryz.ntmps104
  go_wp2_with (
      go_at_call 127
      refine (toStringS_any needs na nc _ ((hs.under ((hb3 _ _ _).mono hB)).sub fun k hk => by simp; omega) hbs).mono ?_
      rintro e w1 ⟨rfl, hb1, hsz1, hst1⟩
      obtain ⟨c1, f1⟩ := bcell hb1
      simp at hsz1
      have hlt1 : w.heap.size + 1 + 1 < w1.heap.size := by omega)
  have hbw : Below w.heap.size w w1 := (hb3 _ _ _).trans (hb1.mono (by simp; omega))
  have fin := cpF_end (w := w) (w1 := w1) (f := ⟨name, of, l, m, fa, hi, sh, needs⟩) (x := .slice (some ⟨w.heap.size + 1 + 1 + 1, 0, none⟩) needs.length needs.length) (N := w.heap.size) rfl hbw hsz1 (by simpa using hst1) hn ho hbs [.string name, .string of, .bool l, .bool m, .bool fa, .bool hi, .bool sh, .slice (some ⟨w.heap.size + 1 + 1 + 1, 0, none⟩) needs.length needs.length]
  refine bodyPost_ret (v := .agg #[.string name, .string of, .bool l, .bool m, .bool fa, .bool hi, .bool sh, .slice (some ⟨w.heap.size + 1 + 1 + 1, 0, none⟩) needs.length needs.length]) ?res rfl ⟨_, _, rfl, fin.1, fin.2⟩
  case res =>
    have hr0 : ∀ o1 o3 c, ((((w.alloc o1).alloc (.cells c 69)).alloc o3)).rowIs (w.heap.size + 1) 69 c.size (fun i => c[i]?.getD undef) := fun o1 o3 c => by
      have h := ((w.alloc o1).rowIs_alloc c 69 (fun i => c[i]?.getD undef) (fun i hi => by simp [hi])).alloc o3
      simpa using h
    have hr1 := (hr0 _ _ _).of_block (hb1.block (w.heap.size + 1) (by simp))
    have p0 := hr1.cell (i := 0) (by simp)
    have p1 := hr1.cell (i := 1) (by simp)
    have p2 := hr1.cell (i := 2) (by simp)
    have p3 := hr1.cell (i := 3) (by simp)
    have p4 := hr1.cell (i := 4) (by simp)
    have p5 := hr1.cell (i := 5) (by simp)
    have p6 := hr1.cell (i := 6) (by simp)
    have p7 := hr1.cell (i := 7) (by simp)
    clear fin hst1 hs c1 f1 hb1 hr0 hr1
    simp [results, Tryz.results104, go_sem, p0, p1, p2, p3, p4, p5, p6, p7]


theorem info_Field : (Tryz.prog.info? 69).map (fun i => (i.zero, i.size, i.bytes)) = some (some (.agg #[.string ByteArray.empty, .string ByteArray.empty, .bool false, .bool false, .bool false, .bool false, .bool false, .slice none 0 0]), 8, 64) := by kernel_rfl

set_option maxHeartbeats 800000 in
theorem toFieldS_any (xs : List F) (w : World) (B : Nat) (a : Option Addr) (c : Nat) (hK : FsRep w (· < B) xs a) (hB : B ≤ w.heap.size) :
    Calls Tryz.prog 78 #[.slice a xs.length c] w fun e w' => e = .returned (.slice (some ⟨w.heap.size, 0, none⟩) xs.length xs.length) ∧ Below w.heap.size w w' ∧ w.heap.size < w'.heap.size ∧
      FsRep w' (fun b => w.heap.size ≤ b ∧ b < w'.heap.size) xs (some ⟨w.heap.size, 0, none⟩) := by
  have h3 := hK.1
  obtain ⟨-, C, hA, hr⟩ := hK
  have hmk := run_make_any (P := Tryz.prog) 87 69 (.agg #[.string ByteArray.empty, .string ByteArray.empty, .bool false, .bool false, .bool false, .bool false, .bool false, .slice none 0 0]) #[.string ByteArray.empty, .string ByteArray.empty, .bool false, .bool false, .bool false, .bool false, .bool false, .slice none 0 0] rfl 8 64 Tryz.underlying87 info_Field .i64 .i64 xs.length h3 (by omega)
  go_enter Tryz.func78, Tryz.ntmps78
  go_wp2_with fail
  go_loopw [4] (fun i wr => ∃ (k : Nat) (G : Nat → Value), k ≤ xs.length ∧ i = .int .i64 k ∧ Below w.heap.size w wr ∧ wr.rowIs w.heap.size 69 (xs.length * 8) G ∧
      ∀ i, i < k → FRep wr (fun b => w.heap.size < b ∧ b < wr.heap.size) (fth xs i) (.agg #[G (i * 8), G (i * 8 + 1), G (i * 8 + 2), G (i * 8 + 3), G (i * 8 + 4), G (i * 8 + 5), G (i * 8 + 6), G (i * 8 + 7)])) (fun i _ => xs.length - (intOf i).toNat)
  case atStart =>
    obtain ⟨G, hG⟩ := made_row w #[.string ByteArray.empty, .string ByteArray.empty, .bool false, .bool false, .bool false, .bool false, .bool false, .slice none 0 0] (xs.length * 8) 69
    exact ⟨0, G, Nat.zero_le _, rfl, below_box _ _, hG, fun i hi => by omega⟩
  case round =>
    obtain ⟨k, G, hk, rfl, hbel, hrow, hreps⟩ := hrel
    by_cases hlt : k < xs.length
    · obtain ⟨b, off, rfl, hbB, hc⟩ := hA (by omega)
      have hck : ∀ j, j < 8 → wr.cell? ⟨b, off + k * 8 + j, none⟩ = some (C k j) := fun j hj => (hbel.cell (p := ⟨b, off + k * 8 + j, none⟩) (by show b < _; omega)).trans (hc k hlt j hj)
      have hc0 : wr.cell? ⟨b, off + k * 8, none⟩ = some (C k 0) := hck 0 (by omega)
      have hc1 : wr.cell? ⟨b, off + k * 8 + 1, none⟩ = some (C k 1) := hck 1 (by omega)
      have hc2 : wr.cell? ⟨b, off + k * 8 + 2, none⟩ = some (C k 2) := hck 2 (by omega)
      have hc3 : wr.cell? ⟨b, off + k * 8 + 3, none⟩ = some (C k 3) := hck 3 (by omega)
      have hc4 : wr.cell? ⟨b, off + k * 8 + 4, none⟩ = some (C k 4) := hck 4 (by omega)
      have hc5 : wr.cell? ⟨b, off + k * 8 + 5, none⟩ = some (C k 5) := hck 5 (by omega)
      have hc6 : wr.cell? ⟨b, off + k * 8 + 6, none⟩ = some (C k 6) := hck 6 (by omega)
      have hc7 : wr.cell? ⟨b, off + k * 8 + 7, none⟩ = some (C k 7) := hck 7 (by omega)
      clear hck hc
      go_wp2_with (
        go_at_call 104
        refine (toField_any (fth xs k) _ B _ ((hr k hlt).under (hbel.mono hB)) (by have := hbel.size; omega)).mono ?_
        rintro e w1 ⟨na, nc, rfl, hby, hry⟩
        have hrow1 := hrow.of_block (hby.block _ hrow.lt)
        have q0 : w1.cell? ⟨w.heap.size, k * 8, none⟩ = some (G (k * 8)) := hrow1.cell (by omega)
        have q1 : w1.cell? ⟨w.heap.size, k * 8 + 1, none⟩ = some (G (k * 8 + 1)) := hrow1.cell (by omega)
        have q2 : w1.cell? ⟨w.heap.size, k * 8 + 2, none⟩ = some (G (k * 8 + 2)) := hrow1.cell (by omega)
        have q3 : w1.cell? ⟨w.heap.size, k * 8 + 3, none⟩ = some (G (k * 8 + 3)) := hrow1.cell (by omega)
        have q4 : w1.cell? ⟨w.heap.size, k * 8 + 4, none⟩ = some (G (k * 8 + 4)) := hrow1.cell (by omega)
        have q5 : w1.cell? ⟨w.heap.size, k * 8 + 5, none⟩ = some (G (k * 8 + 5)) := hrow1.cell (by omega)
        have q6 : w1.cell? ⟨w.heap.size, k * 8 + 6, none⟩ = some (G (k * 8 + 6)) := hrow1.cell (by omega)
        have q7 : w1.cell? ⟨w.heap.size, k * 8 + 7, none⟩ = some (G (k * 8 + 7)) := hrow1.cell (by omega)
        have z0 : ∀ j, w1.frozen? ⟨w.heap.size, j, none⟩ = false := fun j => hrow1.frozen j)
      go_roundw
      case rel =>
        obtain ⟨G', hG, hG1, hGF⟩ := puts_row [.string (fth xs k).name, .string (fth xs k).of, .bool (fth xs k).list, .bool (fth xs k).must, .bool (fth xs k).far, .bool (fth xs k).hidden, .bool (fth xs k).shared, .slice na (fth xs k).needs.length nc] (k * 8) hrow1
        have hs1 := hbel.size
        have hs2 := hby.size
        have hs3 := hrow.lt
        have g0 : G' (k * 8) = .string (fth xs k).name := hG1 0 (by simp)
        have g1 : G' (k * 8 + 1) = .string (fth xs k).of := hG1 1 (by simp)
        have g2 : G' (k * 8 + 2) = .bool (fth xs k).list := hG1 2 (by simp)
        have g3 : G' (k * 8 + 3) = .bool (fth xs k).must := hG1 3 (by simp)
        have g4 : G' (k * 8 + 4) = .bool (fth xs k).far := hG1 4 (by simp)
        have g5 : G' (k * 8 + 5) = .bool (fth xs k).hidden := hG1 5 (by simp)
        have g6 : G' (k * 8 + 6) = .bool (fth xs k).shared := hG1 6 (by simp)
        have g7 : G' (k * 8 + 7) = .slice na (fth xs k).needs.length nc := hG1 7 (by simp)
        have hpb := puts_block w.heap.size
        have hps := puts_size w.heap.size [.string (fth xs k).name, .string (fth xs k).of, .bool (fth xs k).list, .bool (fth xs k).must, .bool (fth xs k).far, .bool (fth xs k).hidden, .bool (fth xs k).shared, .slice na (fth xs k).needs.length nc] w1 (k * 8)
        refine ⟨k + 1, G', by omega, by go_num, puts_below (Nat.le_refl _) [.string (fth xs k).name, .string (fth xs k).of, .bool (fth xs k).list, .bool (fth xs k).must, .bool (fth xs k).far, .bool (fth xs k).hidden, .bool (fth xs k).shared, .slice na (fth xs k).needs.length nc] w1 (k * 8) (hbel.trans (hby.mono hs1)), hG, fun i hi => ?_⟩
        by_cases e1 : i = k
        · rw [e1, g0, g1, g2, g3, g4, g5, g6, g7]
          refine (hry.mono fun b hb => hpb b (by omega) [.string (fth xs k).name, .string (fth xs k).of, .bool (fth xs k).list, .bool (fth xs k).must, .bool (fth xs k).far, .bool (fth xs k).hidden, .bool (fth xs k).shared, .slice na (fth xs k).needs.length nc] w1 _).sub fun b hb => ⟨by omega, ?_⟩
          show b < (puts w1 w.heap.size (k * 8) [.string (fth xs k).name, .string (fth xs k).of, .bool (fth xs k).list, .bool (fth xs k).must, .bool (fth xs k).far, .bool (fth xs k).hidden, .bool (fth xs k).shared, .slice na (fth xs k).needs.length nc]).heap.size
          omega
        · rw [hGF _ (by omega), hGF _ (by omega), hGF _ (by omega), hGF _ (by omega), hGF _ (by omega), hGF _ (by omega), hGF _ (by omega), hGF _ (by omega)]
          refine ((hreps i (by omega)).mono fun b hb => (hpb b (by omega) [.string (fth xs k).name, .string (fth xs k).of, .bool (fth xs k).list, .bool (fth xs k).must, .bool (fth xs k).far, .bool (fth xs k).hidden, .bool (fth xs k).shared, .slice na (fth xs k).needs.length nc] w1 _).trans (hby.block b hb.2)).sub fun b hb => ⟨hb.1, ?_⟩
          show b < (puts w1 w.heap.size (k * 8) [.string (fth xs k).name, .string (fth xs k).of, .bool (fth xs k).list, .bool (fth xs k).must, .bool (fth xs k).far, .bool (fth xs k).hidden, .bool (fth xs k).shared, .slice na (fth xs k).needs.length nc]).heap.size
          omega
      case measure => simp [intOf]; omega
    · go_wp2_with fail
      go_ret
      have e : k = xs.length := by omega
      subst e
      refine ⟨rfl, hbel, hrow.lt, h3, fun i j => G (i * 8 + j), fun _ => ⟨_, _, rfl, ⟨Nat.le_refl _, hrow.lt⟩, fun i hi j hj => ?_⟩, fun i hi => (hreps i hi).sub fun b hb => ⟨by omega, hb.2⟩⟩
      have := hrow.cell (i := i * 8 + j) (by omega)
      simpa using this

/-- What toType's last steps leave. -/
theorem cpT_end {w w1 : World} {t : T} {x : Value} {N : Nat} (hN : N = w.heap.size) (hbw : Below N w w1) (hsz1 : N + 1 + 1 + 1 < w1.heap.size)
    (hst1 : FsRep w1 (fun b => N + 1 + 1 + 1 ≤ b ∧ b < w1.heap.size) t.fields (some ⟨N + 1 + 1 + 1, 0, none⟩)) (h1 : t.name.size ≤ maxLen) (h2 : t.key.size ≤ maxLen) (cs : List Value) :
    Below N w (puts (w1.setCell ⟨N + 1 + 1, 2, none⟩ x) (N + 1) 0 cs) ∧
    TRep (puts (w1.setCell ⟨N + 1 + 1, 2, none⟩ x) (N + 1) 0 cs) (fun b => N ≤ b ∧ b < (puts (w1.setCell ⟨N + 1 + 1, 2, none⟩ x) (N + 1) 0 cs).heap.size) t
      (.agg #[.string t.name, .string t.key, .slice (some ⟨N + 1 + 1 + 1, 0, none⟩) t.fields.length t.fields.length]) := by
  have hsz : (puts (w1.setCell ⟨N + 1 + 1, 2, none⟩ x) (N + 1) 0 cs).heap.size = w1.heap.size := by rw [puts_size, size_set]
  refine ⟨puts_below (by omega) _ _ _ (hbw.setCell (by show N ≤ N + 1 + 1; omega) _), _, _, rfl, (hst1.mono fun k hk => ?_).sub fun k hk => ?_, Nat.le_refl _, h1, h2⟩
  · rw [puts_block _ _ (by omega), Below.heap_setCell _ _ _ _ (by show k ≠ N + 1 + 1; omega)]
  · rw [hsz]; omega

set_option maxHeartbeats 800000 in
theorem toType_any (t : T) (w : World) (B : Nat) (v : Value) (hR : TRep w (· < B) t v) (hB : B ≤ w.heap.size) :
    Calls Tryz.prog 54 #[v] w fun e w' => ∃ (fa : Option Addr) (fc : Nat), e = .returned (.agg #[.string t.name, .string t.key, .slice fa t.fields.length fc]) ∧ Below w.heap.size w w' ∧
      TRep w' (fun b => w.heap.size ≤ b ∧ b < w'.heap.size) t (.agg #[.string t.name, .string t.key, .slice fa t.fields.length fc]) := by
  obtain ⟨na, nc, rfl, hs, hnc, hn, ho⟩ := hR
  obtain ⟨name, key, fields⟩ := t
  simp only at hs hnc hn ho
  have hb3 : ∀ o1 o2 o3, Below w.heap.size w (((w.alloc o1).alloc o2).alloc o3) := fun o1 o2 o3 => (((Below.refl _ _).alloc (Nat.le_refl _) _).alloc (by simp) _).alloc (by simp; omega) _
  go_enter Tryz.func54, Tryz.ntmps54
  go_wp2_with (
      go_at_call 78
      refine (toFieldS_any fields _ B na nc (hs.under ((hb3 _ _ _).mono hB)) (by simp; omega)).mono ?_
      rintro e w1 ⟨rfl, hb1, hsz1, hst1⟩
      obtain ⟨c1, f1⟩ := bcell hb1
      simp at hsz1
      have hlt1 : w.heap.size + 1 + 1 < w1.heap.size := by omega)
  have hbw : Below w.heap.size w w1 := (hb3 _ _ _).trans (hb1.mono (by simp; omega))
  have fin := cpT_end (w := w) (w1 := w1) (t := ⟨name, key, fields⟩) (x := .slice (some ⟨w.heap.size + 1 + 1 + 1, 0, none⟩) fields.length fields.length) (N := w.heap.size) rfl hbw hsz1 (by simpa using hst1) hn ho [.string name, .string key, .slice (some ⟨w.heap.size + 1 + 1 + 1, 0, none⟩) fields.length fields.length]
  refine bodyPost_ret (v := .agg #[.string name, .string key, .slice (some ⟨w.heap.size + 1 + 1 + 1, 0, none⟩) fields.length fields.length]) ?res rfl ⟨_, _, rfl, fin.1, fin.2⟩
  case res =>
    have hr0 : ∀ o1 o3 c, ((((w.alloc o1).alloc (.cells c 89)).alloc o3)).rowIs (w.heap.size + 1) 89 c.size (fun i => c[i]?.getD undef) := fun o1 o3 c => by
      have h := ((w.alloc o1).rowIs_alloc c 89 (fun i => c[i]?.getD undef) (fun i hi => by simp [hi])).alloc o3
      simpa using h
    have hr1 := (hr0 _ _ _).of_block (hb1.block (w.heap.size + 1) (by simp))
    have p0 := hr1.cell (i := 0) (by simp)
    have p1 := hr1.cell (i := 1) (by simp)
    have p2 := hr1.cell (i := 2) (by simp)
    clear fin hst1 hs c1 f1 hb1 hr0 hr1
    simp [results, Tryz.results54, go_sem, p0, p1, p2]

theorem info_Type : (Tryz.prog.info? 89).map (fun i => (i.zero, i.size, i.bytes)) = some (some (.agg #[.string ByteArray.empty, .string ByteArray.empty, .slice none 0 0]), 3, 56) := by kernel_rfl

set_option maxHeartbeats 800000 in
theorem toTypeS_any (xs : List T) (w : World) (B : Nat) (a : Option Addr) (c : Nat) (hK : TsRep w (· < B) xs a) (hB : B ≤ w.heap.size) :
    Calls Tryz.prog 31 #[.slice a xs.length c] w fun e w' => e = .returned (.slice (some ⟨w.heap.size, 0, none⟩) xs.length xs.length) ∧ Below w.heap.size w w' ∧ w.heap.size < w'.heap.size ∧
      TsRep w' (fun b => w.heap.size ≤ b ∧ b < w'.heap.size) xs (some ⟨w.heap.size, 0, none⟩) := by
  have h3 := hK.1
  obtain ⟨-, C, hA, hr⟩ := hK
  have hmk := run_make_any (P := Tryz.prog) 32 89 (.agg #[.string ByteArray.empty, .string ByteArray.empty, .slice none 0 0]) #[.string ByteArray.empty, .string ByteArray.empty, .slice none 0 0] rfl 3 56 Tryz.underlying32 info_Type .i64 .i64 xs.length h3 (by omega)
  go_enter Tryz.func31, Tryz.ntmps31
  go_wp2_with fail
  go_loopw [4] (fun i wr => ∃ (k : Nat) (G : Nat → Value), k ≤ xs.length ∧ i = .int .i64 k ∧ Below w.heap.size w wr ∧ wr.rowIs w.heap.size 89 (xs.length * 3) G ∧
      ∀ i, i < k → TRep wr (fun b => w.heap.size < b ∧ b < wr.heap.size) (tth xs i) (.agg #[G (i * 3), G (i * 3 + 1), G (i * 3 + 2)])) (fun i _ => xs.length - (intOf i).toNat)
  case atStart =>
    obtain ⟨G, hG⟩ := made_row w #[.string ByteArray.empty, .string ByteArray.empty, .slice none 0 0] (xs.length * 3) 89
    exact ⟨0, G, Nat.zero_le _, rfl, below_box _ _, hG, fun i hi => by omega⟩
  case round =>
    obtain ⟨k, G, hk, rfl, hbel, hrow, hreps⟩ := hrel
    by_cases hlt : k < xs.length
    · obtain ⟨b, off, rfl, hbB, hc⟩ := hA (by omega)
      have hck : ∀ j, j < 3 → wr.cell? ⟨b, off + k * 3 + j, none⟩ = some (C k j) := fun j hj => (hbel.cell (p := ⟨b, off + k * 3 + j, none⟩) (by show b < _; omega)).trans (hc k hlt j hj)
      have hc0 : wr.cell? ⟨b, off + k * 3, none⟩ = some (C k 0) := hck 0 (by omega)
      have hc1 : wr.cell? ⟨b, off + k * 3 + 1, none⟩ = some (C k 1) := hck 1 (by omega)
      have hc2 : wr.cell? ⟨b, off + k * 3 + 2, none⟩ = some (C k 2) := hck 2 (by omega)
      clear hck hc
      go_wp2_with (
        go_at_call 54
        refine (toType_any (tth xs k) _ B _ ((hr k hlt).under (hbel.mono hB)) (by have := hbel.size; omega)).mono ?_
        rintro e w1 ⟨na, nc, rfl, hby, hry⟩
        have hrow1 := hrow.of_block (hby.block _ hrow.lt)
        have q0 : w1.cell? ⟨w.heap.size, k * 3, none⟩ = some (G (k * 3)) := hrow1.cell (by omega)
        have q1 : w1.cell? ⟨w.heap.size, k * 3 + 1, none⟩ = some (G (k * 3 + 1)) := hrow1.cell (by omega)
        have q2 : w1.cell? ⟨w.heap.size, k * 3 + 2, none⟩ = some (G (k * 3 + 2)) := hrow1.cell (by omega)
        have z0 : ∀ j, w1.frozen? ⟨w.heap.size, j, none⟩ = false := fun j => hrow1.frozen j)
      go_roundw
      case rel =>
        obtain ⟨G', hG, hG1, hGF⟩ := puts_row [.string (tth xs k).name, .string (tth xs k).key, .slice na (tth xs k).fields.length nc] (k * 3) hrow1
        have hs1 := hbel.size
        have hs2 := hby.size
        have hs3 := hrow.lt
        have g0 : G' (k * 3) = .string (tth xs k).name := hG1 0 (by simp)
        have g1 : G' (k * 3 + 1) = .string (tth xs k).key := hG1 1 (by simp)
        have g2 : G' (k * 3 + 2) = .slice na (tth xs k).fields.length nc := hG1 2 (by simp)
        have hpb := puts_block w.heap.size
        have hps := puts_size w.heap.size [.string (tth xs k).name, .string (tth xs k).key, .slice na (tth xs k).fields.length nc] w1 (k * 3)
        refine ⟨k + 1, G', by omega, by go_num, puts_below (Nat.le_refl _) [.string (tth xs k).name, .string (tth xs k).key, .slice na (tth xs k).fields.length nc] w1 (k * 3) (hbel.trans (hby.mono hs1)), hG, fun i hi => ?_⟩
        by_cases e1 : i = k
        · rw [e1, g0, g1, g2]
          refine (hry.mono fun b hb => hpb b (by omega) [.string (tth xs k).name, .string (tth xs k).key, .slice na (tth xs k).fields.length nc] w1 _).sub fun b hb => ⟨by omega, ?_⟩
          show b < (puts w1 w.heap.size (k * 3) [.string (tth xs k).name, .string (tth xs k).key, .slice na (tth xs k).fields.length nc]).heap.size
          omega
        · rw [hGF _ (by omega), hGF _ (by omega), hGF _ (by omega)]
          refine ((hreps i (by omega)).mono fun b hb => (hpb b (by omega) [.string (tth xs k).name, .string (tth xs k).key, .slice na (tth xs k).fields.length nc] w1 _).trans (hby.block b hb.2)).sub fun b hb => ⟨hb.1, ?_⟩
          show b < (puts w1 w.heap.size (k * 3) [.string (tth xs k).name, .string (tth xs k).key, .slice na (tth xs k).fields.length nc]).heap.size
          omega
      case measure => simp [intOf]; omega
    · go_wp2_with fail
      go_ret
      have e : k = xs.length := by omega
      subst e
      refine ⟨rfl, hbel, hrow.lt, h3, fun i j => G (i * 3 + j), fun _ => ⟨_, _, rfl, ⟨Nat.le_refl _, hrow.lt⟩, fun i hi j hj => ?_⟩, fun i hi => (hreps i hi).sub fun b hb => ⟨by omega, hb.2⟩⟩
      have := hrow.cell (i := i * 3 + j) (by omega)
      simpa using this

theorem cpP_end {w w1 : World} {p : Pt} {x : Value} {N : Nat} (hN : N = w.heap.size) (hbw : Below N w w1) (hsz1 : N + 1 + 1 + 1 < w1.heap.size)
    (hst1 : TsRep w1 (fun b => N + 1 + 1 + 1 ≤ b ∧ b < w1.heap.size) p.types (some ⟨N + 1 + 1 + 1, 0, none⟩)) (h1 : p.name.size ≤ maxLen) (cs : List Value) :
    Below N w (puts (w1.setCell ⟨N + 1 + 1, 1, none⟩ x) (N + 1) 0 cs) ∧
    PRep (puts (w1.setCell ⟨N + 1 + 1, 1, none⟩ x) (N + 1) 0 cs) (fun b => N ≤ b ∧ b < (puts (w1.setCell ⟨N + 1 + 1, 1, none⟩ x) (N + 1) 0 cs).heap.size) p
      (.agg #[.string p.name, .slice (some ⟨N + 1 + 1 + 1, 0, none⟩) p.types.length p.types.length]) := by
  have hsz : (puts (w1.setCell ⟨N + 1 + 1, 1, none⟩ x) (N + 1) 0 cs).heap.size = w1.heap.size := by rw [puts_size, size_set]
  refine ⟨puts_below (by omega) _ _ _ (hbw.setCell (by show N ≤ N + 1 + 1; omega) _), _, _, rfl, (hst1.mono fun k hk => ?_).sub fun k hk => ?_, Nat.le_refl _, h1⟩
  · rw [puts_block _ _ (by omega), Below.heap_setCell _ _ _ _ (by show k ≠ N + 1 + 1; omega)]
  · rw [hsz]; omega

set_option maxHeartbeats 800000 in
theorem toPart_any (p : Pt) (w : World) (B : Nat) (v : Value) (hR : PRep w (· < B) p v) (hB : B ≤ w.heap.size) :
    Calls Tryz.prog 9 #[v] w fun e w' => ∃ (ta : Option Addr) (tc : Nat), e = .returned (.agg #[.string p.name, .slice ta p.types.length tc]) ∧ Below w.heap.size w w' ∧
      PRep w' (fun b => w.heap.size ≤ b ∧ b < w'.heap.size) p (.agg #[.string p.name, .slice ta p.types.length tc]) := by
  obtain ⟨na, nc, rfl, hs, hnc, hn⟩ := hR
  obtain ⟨name, types⟩ := p
  simp only at hs hnc hn
  have hb3 : ∀ o1 o2 o3, Below w.heap.size w (((w.alloc o1).alloc o2).alloc o3) := fun o1 o2 o3 => (((Below.refl _ _).alloc (Nat.le_refl _) _).alloc (by simp) _).alloc (by simp; omega) _
  go_enter Tryz.func9, Tryz.ntmps9
  go_wp2_with (
      go_at_call 31
      refine (toTypeS_any types _ B na nc (hs.under ((hb3 _ _ _).mono hB)) (by simp; omega)).mono ?_
      rintro e w1 ⟨rfl, hb1, hsz1, hst1⟩
      obtain ⟨c1, f1⟩ := bcell hb1
      simp at hsz1
      have hlt1 : w.heap.size + 1 + 1 < w1.heap.size := by omega)
  have hbw : Below w.heap.size w w1 := (hb3 _ _ _).trans (hb1.mono (by simp; omega))
  have fin := cpP_end (w := w) (w1 := w1) (p := ⟨name, types⟩) (x := .slice (some ⟨w.heap.size + 1 + 1 + 1, 0, none⟩) types.length types.length) (N := w.heap.size) rfl hbw hsz1 (by simpa using hst1) hn [.string name, .slice (some ⟨w.heap.size + 1 + 1 + 1, 0, none⟩) types.length types.length]
  refine bodyPost_ret (v := .agg #[.string name, .slice (some ⟨w.heap.size + 1 + 1 + 1, 0, none⟩) types.length types.length]) ?res rfl ⟨_, _, rfl, fin.1, fin.2⟩
  case res =>
    have hr0 : ∀ o1 o3 c, ((((w.alloc o1).alloc (.cells c 34)).alloc o3)).rowIs (w.heap.size + 1) 34 c.size (fun i => c[i]?.getD undef) := fun o1 o3 c => by
      have h := ((w.alloc o1).rowIs_alloc c 34 (fun i => c[i]?.getD undef) (fun i hi => by simp [hi])).alloc o3
      simpa using h
    have hr1 := (hr0 _ _ _).of_block (hb1.block (w.heap.size + 1) (by simp))
    have p0 := hr1.cell (i := 0) (by simp)
    have p1 := hr1.cell (i := 1) (by simp)
    clear fin hst1 hs c1 f1 hb1 hr0 hr1
    simp [results, Tryz.results9, go_sem, p0, p1]
end Go.Proofs.YtgcfgadkclfonaaGreatDoor
