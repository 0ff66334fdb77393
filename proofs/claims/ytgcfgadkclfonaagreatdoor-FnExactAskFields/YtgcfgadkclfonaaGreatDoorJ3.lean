import Derived.Test.YtgcfgadkclfonaaGreatDoorCopyS
import Derived.Laws.IdiomStrings
import Derived.Deep.RegionHeld3
import Derived.Test.YtgcfgadkclfonaaGreatDoorPRep
import Derived.Test.YtgcfgadkclfonaaGreatDoorPCopy
import Derived.Test.YtgcfgadkclfonaaGreatDoorJ1
namespace Go.Proofs.YtgcfgadkclfonaaGreatDoor
set_option linter.unusedSimpArgs false
set_option linter.unusedVariables false
open Go.RowKit

/-- The figures of a number ahead of others. -/
def digs : Nat → Nat → List UInt8 → List UInt8
  | 0, _, acc => acc
  | f + 1, k, acc => if k = 0 then acc else digs f (k / 10) (UInt8.ofNat (48 + k % 10) :: acc)
/-- The text of a mark. -/
def mtext (k : Nat) : ByteArray := ⟨(109 :: (if k = 0 then [48] else digs 64 k [])).toArray⟩
theorem digs_zero (f : Nat) (acc : List UInt8) : digs f 0 acc = acc := by cases f <;> simp [digs]
theorem digs_len : ∀ (f k : Nat) (acc : List UInt8), (digs f k acc).length ≤ f + acc.length
  | 0, _, acc => by simp [digs]
  | f + 1, k, acc => by
    rw [digs]
    split
    · omega
    · have := digs_len f (k / 10) (UInt8.ofNat (48 + k % 10) :: acc)
      simp only [List.length_cons] at this
      omega

set_option maxRecDepth 20000 in
set_option maxHeartbeats 800000 in
theorem markText_any (k : Nat) (w : World) (hk : k ≤ 1152921504606846976) :
    Calls Tryz.prog 40 #[.int .i64 k] w fun e w' => e = .returned (.string (mtext k)) ∧ Below w.heap.size w w' := by
  by_cases h0 : k = 0
  · subst h0
    go_enter Tryz.func40, Tryz.ntmps40
    go_wp2_with fail
    go_ret
    exact ⟨by rw [mtext]; rfl, Below.refl _ _⟩
  have h1 : ¬ (k : Int) ≤ 0 := by omega
  have h2 : ¬ k ≤ 0 := by omega
  have HM : Hid (mtext k = ⟨(109 :: digs 64 k []).toArray⟩) := by show _ = _; rw [mtext, if_neg h0]
  go_enter Tryz.func40, Tryz.ntmps40
  go_wp2_with fail
  go_loopw [0, 3] (fun kk o wr => ∃ (n f : Nat) (x : ByteArray), kk = .int .i64 n ∧ o = .string x ∧ Hid (n < 10 ^ f ∧ n ≤ k ∧ x.size + f ≤ 64 ∧ digs 64 k [] = digs f n x.data.toList) ∧ Below w.heap.size w wr) (fun kk _ _ => (intOf kk).toNat)
  case atStart => exact ⟨k, 64, ByteArray.empty, rfl, rfl, ⟨by omega, Nat.le_refl _, by decide, rfl⟩, Below.refl _ _⟩
  case round =>
    obtain ⟨n, f, x, rfl, rfl, HH, hb⟩ := hrel
    obtain ⟨w0, rfl⟩ : ∃ x, x = wr := ⟨wr, rfl⟩
    have hxs : x.size + 1 ≤ 9223372036854775807 := by have := HH.out.2.2.1; omega
    have hxs2 : 1 + x.size ≤ 9223372036854775807 := by omega
    by_cases hn0 : n = 0
    · subst hn0
      have hfin : Hid (mtext k = ⟨#[109]⟩ ++ x) := by
        show _ = _
        rw [HM.out, HH.out.2.2.2, digs_zero]
        apply ByteArray.ext
        apply Array.toList_inj.1
        rw [ByteArray.data_append]
        simp
      go_wp2_with fail
      go_ret
      exact ⟨by rw [hfin.out]; rfl, hb⟩
    · have g0 : (0 : Int) < (n : Int) := by omega
      have hni : (n : Int) ≤ 1152921504606846976 := by have := HH.out.2.1; omega
      have hcv : Sem.run Tryz.prog (convert 109 9 (.slice (some ⟨w0.heap.size, 0, none⟩) 1 1)) (w0.alloc (.cells #[.int .u8 (48 + (n : Int) % 10)] 5)) = .ok (.string ⟨#[UInt8.ofNat (48 + n % 10)]⟩) (w0.alloc (.cells #[.int .u8 (48 + (n : Int) % 10)] 5)) :=
        run_convert_bytes_back (P := Tryz.prog) _ 109 9 5 ⟨w0.heap.size, 0, none⟩ 1 [UInt8.ofNat (48 + n % 10)] Tryz.underlying109 Tryz.underlying5 Tryz.underlying9 (fun j hj => by
          have hj0 : j = 0 := by simpa using hj
          subst hj0
          have hd : (UInt8.ofNat (48 + n % 10)).toNat = 48 + n % 10 := by rw [UInt8.toNat_ofNat']; omega
          simp only [List.getElem_cons_zero, hd]
          simp [Addr.add])
      generalize hdd : UInt8.ofNat (48 + n % 10) = d at hcv
      have hsd : (⟨#[d]⟩ : ByteArray).size = 1 := rfl
      go_wp2_with fail
      obtain ⟨q1, q2, q3, q4⟩ := HH.out
      obtain ⟨f, rfl⟩ : ∃ g, f = g + 1 := ⟨f - 1, by
        rcases Nat.eq_zero_or_pos f with h | h
        · subst h; simp at q1; omega
        · omega⟩
      go_roundw
      case rel =>
        refine ⟨n / 10, f, ⟨#[d]⟩ ++ x, by simp, rfl, ⟨?_, ?_, ?_, ?_⟩, hb.alloc hb.size _⟩
        · rw [Nat.pow_succ] at q1; omega
        · omega
        · rw [ByteArray.size_append, hsd]; omega
        · rw [q4, digs, if_neg hn0, hdd, ByteArray.data_append]; simp
      case measure => simp [intOf]; omega
end Go.Proofs.YtgcfgadkclfonaaGreatDoor

namespace Go.Proofs.YtgcfgadkclfonaaGreatDoor
set_option linter.unusedSimpArgs false
set_option linter.unusedVariables false
open Go.RowKit

/-- A change within a range of blocks that keeps of every cell its kind: texts stay texts, bools stay bools, lists stay as they are. -/
structure Marked (lo hi : Nat) (w w' : World) : Prop where
  os : w'.os = w.os
  tape : w'.tape = w.tape
  output : w'.output = w.output
  size : w.heap.size ≤ w'.heap.size
  block : ∀ b, b < w.heap.size → ¬ (lo ≤ b ∧ b < hi) → w'.heap[b]? = w.heap[b]?
  text : ∀ a s, w.cell? a = some (.string s) → ∃ s', w'.cell? a = some (.string s')
  flag : ∀ a s, w.cell? a = some (.bool s) → ∃ s', w'.cell? a = some (.bool s')
  list : ∀ a x n c, w.cell? a = some (.slice x n c) → w'.cell? a = some (.slice x n c)
  frozen : ∀ a, a.block < w.heap.size → w'.frozen? a = w.frozen? a

theorem cell_block {w : World} {t : Addr} {old : Value} (h : w.cell? t = some old) : t.block < w.heap.size := by
  rcases Nat.lt_or_ge t.block w.heap.size with h1 | h1
  · exact h1
  · simp [World.cell?, Array.getElem?_eq_none h1] at h

theorem Marked.refl (lo hi : Nat) (w : World) : Marked lo hi w w :=
  ⟨rfl, rfl, rfl, Nat.le_refl _, fun _ _ _ => rfl, fun _ s h => ⟨s, h⟩, fun _ s h => ⟨s, h⟩, fun _ _ _ _ h => h, fun _ _ => rfl⟩
theorem Marked.trans {lo hi : Nat} {a b c : World} (h : Marked lo hi a b) (k : Marked lo hi b c) : Marked lo hi a c :=
  ⟨k.os.trans h.os, k.tape.trans h.tape, k.output.trans h.output, Nat.le_trans h.size k.size,
    fun i hi hn => (k.block i (Nat.lt_of_lt_of_le hi h.size) hn).trans (h.block i hi hn),
    fun a s e => by obtain ⟨s', e'⟩ := h.text a s e; exact k.text a s' e',
    fun a s e => by obtain ⟨s', e'⟩ := h.flag a s e; exact k.flag a s' e',
    fun a x n c e => k.list a x n c (h.list a x n c e), fun a ha => (k.frozen a (Nat.lt_of_lt_of_le ha h.size)).trans (h.frozen a ha)⟩
theorem Marked.of_below {w w' : World} (lo hi : Nat) (h : Below w.heap.size w w') : Marked lo hi w w' :=
  ⟨h.os, h.tape, h.output, h.size, fun b hb _ => h.block b hb, fun a s e => ⟨s, (h.cell (cell_block e)).trans e⟩, fun a s e => ⟨s, (h.cell (cell_block e)).trans e⟩,
    fun a x n c e => (h.cell (cell_block e)).trans e, fun a ha => h.frozen ha⟩
theorem Marked.set_text {w : World} {lo hi : Nat} {p : Addr} {s : ByteArray} (h : w.cell? p = some (.string s)) (h1 : lo ≤ p.block) (h2 : p.block < hi) (t : ByteArray) : Marked lo hi w (w.setCell p (.string t)) := by
  refine ⟨rfl, rfl, rfl, by rw [size_set]; exact Nat.le_refl _, fun b hb hn => Below.heap_setCell _ _ _ _ (by intro e; exact hn (by rw [e]; exact ⟨h1, h2⟩)), fun a u e => ?_, fun a u e => ?_, fun a x n c e => ?_, fun a ha => by simp⟩
  · by_cases hp : p = a
    · subst hp; exact ⟨t, World.cell?_setCell_same _ _ _ h⟩
    · exact ⟨u, (World.cell?_setCell_other _ _ _ _ hp).trans e⟩
  · have hp : p ≠ a := by intro hp; rw [hp, e] at h; cases h
    exact ⟨u, (World.cell?_setCell_other _ _ _ _ hp).trans e⟩
  · have hp : p ≠ a := by intro hp; rw [hp, e] at h; cases h
    exact (World.cell?_setCell_other _ _ _ _ hp).trans e
theorem Marked.set_flag {w : World} {lo hi : Nat} {p : Addr} {s : Bool} (h : w.cell? p = some (.bool s)) (h1 : lo ≤ p.block) (h2 : p.block < hi) (t : Bool) : Marked lo hi w (w.setCell p (.bool t)) := by
  refine ⟨rfl, rfl, rfl, by rw [size_set]; exact Nat.le_refl _, fun b hb hn => Below.heap_setCell _ _ _ _ (by intro e; exact hn (by rw [e]; exact ⟨h1, h2⟩)), fun a u e => ?_, fun a u e => ?_, fun a x n c e => ?_, fun a ha => by simp⟩
  · have hp : p ≠ a := by intro hp; rw [hp, e] at h; cases h
    exact ⟨u, (World.cell?_setCell_other _ _ _ _ hp).trans e⟩
  · by_cases hp : p = a
    · subst hp; exact ⟨t, World.cell?_setCell_same _ _ _ h⟩
    · exact ⟨u, (World.cell?_setCell_other _ _ _ _ hp).trans e⟩
  · have hp : p ≠ a := by intro hp; rw [hp, e] at h; cases h
    exact (World.cell?_setCell_other _ _ _ _ hp).trans e

/-- A cell that holds a text and may be written. -/
def TextAt (w : World) (a : Addr) : Prop := (∃ s, w.cell? a = some (.string s)) ∧ w.frozen? a = false
def FlagAt (w : World) (a : Addr) : Prop := (∃ s, w.cell? a = some (.bool s)) ∧ w.frozen? a = false
theorem TextAt.keep {lo hi : Nat} {w w' : World} {a : Addr} (h : TextAt w a) (m : Marked lo hi w w') : TextAt w' a := by
  obtain ⟨⟨s, e⟩, f⟩ := h
  exact ⟨m.text a s e, (m.frozen a (cell_block e)).trans f⟩
theorem FlagAt.keep {lo hi : Nat} {w w' : World} {a : Addr} (h : FlagAt w a) (m : Marked lo hi w w') : FlagAt w' a := by
  obtain ⟨⟨s, e⟩, f⟩ := h
  exact ⟨m.flag a s e, (m.frozen a (cell_block e)).trans f⟩

/-- A list of texts that may be written, within a range of blocks. -/
def WStrs (w : World) (lo hi n : Nat) (a : Option Addr) : Prop := 0 < n → ∃ b off, a = some ⟨b, off, none⟩ ∧ lo ≤ b ∧ b < hi ∧ ∀ i, i < n → TextAt w ⟨b, off + i, none⟩
theorem WStrs.keep {lo hi lo' hi' n : Nat} {w w' : World} {a : Option Addr} (h : WStrs w lo hi n a) (m : Marked lo' hi' w w') : WStrs w' lo hi n a := fun hn => by
  obtain ⟨b, off, e, h1, h2, hc⟩ := h hn
  exact ⟨b, off, e, h1, h2, fun i hi => (hc i hi).keep m⟩

set_option maxRecDepth 20000 in
set_option maxHeartbeats 1600000 in
theorem markStringS_any (n c k lo hi : Nat) (a : Option Addr) (w : World) (hw : WStrs w lo hi n a) (hn : n ≤ 1048576) (hk : k ≤ 1000000000000) :
    Calls Tryz.prog 24 #[.slice a n c, .int .i64 k] w fun e w' => e = .returned (.int .i64 ((k + n : Nat) : Int)) ∧ Marked lo hi w w' ∧ (∀ b off, a = some ⟨b, off, none⟩ → ∀ i, i < n → w'.cell? ⟨b, off + i, none⟩ = some (.string (mtext (k + i)))) := by
  go_enter Tryz.func24, Tryz.ntmps24
  go_wp2_with fail
  go_loopw [1, 5] (fun kk i wr => ∃ j : Nat, j ≤ n ∧ kk = .int .i64 ((k + j : Nat) : Int) ∧ i = .int .i64 j ∧ Marked lo hi w wr ∧ (∀ b off, a = some ⟨b, off, none⟩ → ∀ i, i < j → wr.cell? ⟨b, off + i, none⟩ = some (.string (mtext (k + i))))) (fun _ i _ => n - (intOf i).toNat)
  case atStart => exact ⟨0, Nat.zero_le _, rfl, rfl, Marked.refl _ _ _, fun _ _ _ i hi => by omega⟩
  case round =>
    obtain ⟨j, hj, rfl, rfl, hm, hc⟩ := hrel
    obtain ⟨w0, rfl⟩ : ∃ x, x = wr := ⟨wr, rfl⟩
    by_cases hlt : j < n
    · obtain ⟨b, off, rfl, h1, h2, hcc⟩ := hw (by omega)
      have HC : Hid (∀ i, i < j → w0.cell? ⟨b, off + i, none⟩ = some (.string (mtext (k + i)))) := fun i hi => hc b off rfl i hi
      have HT : Hid (TextAt w0 ⟨b, off + j, none⟩) := (hcc j hlt).keep hm
      have hM := markText_any (k + j) w0 (by omega)
      clear hc hcc
      have hji : (j : Int) < (n : Int) := by omega
      go_wp2_with (
        go_at_call 40
        refine hM.mono ?_
        rintro e w1 ⟨rfl, hb1⟩
        have hm1 := Marked.of_below lo hi hb1
        obtain ⟨⟨s, ht⟩, hf⟩ := HT.out.keep hm1)
      go_roundw
      case rel =>
        refine ⟨j + 1, by omega, by go_num, by go_num, (hm.trans hm1).trans (Marked.set_text ht h1 h2 _), fun b' off' he i hi => ?_⟩
        simp only [Option.some.injEq, Addr.mk.injEq, and_true] at he
        obtain ⟨rfl, rfl⟩ := he
        by_cases hij : i = j
        · subst hij; exact World.cell?_setCell_same _ _ _ ht
        · rw [World.cell?_setCell_other _ _ _ _ (by intro e; simp only [Addr.mk.injEq] at e; omega)]
          have hx := HC.out i (by omega)
          exact (hb1.cell (cell_block hx)).trans hx
      case measure => simp [intOf]; omega
    · go_wp2_with fail
      go_ret
      have e : j = n := by omega
      exact ⟨by rw [e]; rfl, hm, by rw [← e]; exact hc⟩

set_option maxRecDepth 20000 in
set_option maxHeartbeats 1600000 in
theorem heldStringS_any (n c k : Nat) (a : Option Addr) (w : World) (ha : 0 < n → ∃ b off, a = some ⟨b, off, none⟩ ∧ ∀ i, i < n → w.cell? ⟨b, off + i, none⟩ = some (.string (mtext (k + i)))) (hn : n ≤ 1048576) (hk : k ≤ 1000000000000) :
    Calls Tryz.prog 25 #[.slice a n c, .int .i64 k] w fun e w' => e = .returned (.int .i64 ((k + n : Nat) : Int)) ∧ Below w.heap.size w w' := by
  go_enter Tryz.func25, Tryz.ntmps25
  go_wp2_with fail
  go_loopw [1, 5] (fun kk i wr => ∃ j : Nat, j ≤ n ∧ kk = .int .i64 ((k + j : Nat) : Int) ∧ i = .int .i64 j ∧ Below w.heap.size w wr) (fun _ i _ => n - (intOf i).toNat)
  case atStart => exact ⟨0, Nat.zero_le _, rfl, rfl, Below.refl _ _⟩
  case round =>
    obtain ⟨j, hj, rfl, rfl, hb⟩ := hrel
    obtain ⟨w0, rfl⟩ : ∃ x, x = wr := ⟨wr, rfl⟩
    by_cases hlt : j < n
    · obtain ⟨b, off, rfl, hcc⟩ := ha (by omega)
      have hx := hcc j hlt
      have hbl := cell_block hx
      have c0 := (hb.cell hbl).trans hx
      have hM := markText_any (k + j) w0.drew (by omega)
      have hji : (j : Int) < (n : Int) := by omega
      have hz := hb.size
      clear hcc
      generalize mtext (k + j) = mt at hx c0 hM
      go_wp2_with fail
      go_region_held3 (fun w' => w'.cell? ⟨b, off + j, none⟩ = some (.string mt)) (go_keep)
        (first
          | (
            go_at_call 40
            refine hM.mono ?_
            rintro e w1 ⟨rfl, hb1⟩
            have hb1' := below_undrew hb1
            have hw1 := hb.trans (hb1'.mono hz)
            have c1 := (hw1.cell hbl).trans hx))
      go_wp2_with fail
      go_roundw
      case rel => exact ⟨j + 1, by omega, by go_num, by go_num, hw1⟩
      case measure => simp [intOf]; omega
    · go_wp2_with fail
      go_ret
      have e : j = n := by omega
      exact ⟨by rw [e]; rfl, hb⟩
end Go.Proofs.YtgcfgadkclfonaaGreatDoor

namespace Go.Proofs.YtgcfgadkclfonaaGreatDoor
set_option linter.unusedSimpArgs false
set_option linter.unusedVariables false
open Go.RowKit

theorem Marked.set_flags {lo hi b : Nat} (h1 : lo ≤ b) (h2 : b < hi) : ∀ (ps : List (Nat × Bool)) {w W : World}, Marked lo hi w W → (∀ p ∈ ps, FlagAt W ⟨b, p.1, none⟩) → Marked lo hi w (ps.foldl (fun W p => W.setCell ⟨b, p.1, none⟩ (.bool p.2)) W)
  | [], w, W, m, _ => m
  | p :: ps, w, W, m, h => by
    obtain ⟨⟨v, hv⟩, hf⟩ := h p (List.mem_cons_self ..)
    have m1 := Marked.set_flag (lo := lo) (hi := hi) hv h1 h2 p.2
    exact Marked.set_flags h1 h2 ps (m.trans m1) (fun q hq => (h q (List.mem_cons_of_mem _ hq)).keep m1)

theorem markText_int (t : Int) (w : World) (h0 : 0 ≤ t) (h1 : t ≤ 1000000000000000) :
    Calls Tryz.prog 40 #[.int .i64 t] w fun e w' => e = .returned (.string (mtext t.toNat)) ∧ Below w.heap.size w w' := by
  have h := markText_any t.toNat w (by omega)
  rw [show ((t.toNat : Nat) : Int) = t by omega] at h
  exact h
theorem markStringS_int (n c : Nat) (t : Int) (lo hi : Nat) (a : Option Addr) (w : World) (hw : WStrs w lo hi n a) (hn : n ≤ 1048576) (h0 : 0 ≤ t) (h1 : t ≤ 1000000000000) :
    Calls Tryz.prog 24 #[.slice a n c, .int .i64 t] w fun e w' => e = .returned (.int .i64 (t + n)) ∧ Marked lo hi w w' := by
  have h := markStringS_any n c t.toNat lo hi a w hw hn (by omega)
  rw [show ((t.toNat : Nat) : Int) = t by omega, show (((t.toNat + n : Nat)) : Int) = t + n by omega] at h
  exact h.mono fun e w' ⟨x, y, _⟩ => ⟨x, y⟩

/-- A list of fields that may be written, within a range of blocks. -/
def WFs (w : World) (lo hi : Nat) (fs : List F) (a : Option Addr) : Prop := 0 < fs.length → ∃ b off, a = some ⟨b, off, none⟩ ∧ lo ≤ b ∧ b < hi ∧ ∀ i, i < fs.length →
  TextAt w ⟨b, off + i * 8, none⟩ ∧ TextAt w ⟨b, off + i * 8 + 1, none⟩ ∧ FlagAt w ⟨b, off + i * 8 + 2, none⟩ ∧ FlagAt w ⟨b, off + i * 8 + 3, none⟩ ∧ FlagAt w ⟨b, off + i * 8 + 4, none⟩ ∧ FlagAt w ⟨b, off + i * 8 + 5, none⟩ ∧ FlagAt w ⟨b, off + i * 8 + 6, none⟩ ∧
  ∃ na nc, w.cell? ⟨b, off + i * 8 + 7, none⟩ = some (.slice na (fth fs i).needs.length nc) ∧ WStrs w lo hi (fth fs i).needs.length na
theorem WFs.keep {lo hi lo' hi' : Nat} {fs : List F} {w w' : World} {a : Option Addr} (h : WFs w lo hi fs a) (m : Marked lo' hi' w w') : WFs w' lo hi fs a := fun hn => by
  obtain ⟨b, off, e, h1, h2, hc⟩ := h hn
  refine ⟨b, off, e, h1, h2, fun i hi => ?_⟩
  obtain ⟨x0, x1, x2, x3, x4, x5, x6, na, nc, x7, x8⟩ := hc i hi
  exact ⟨x0.keep m, x1.keep m, x2.keep m, x3.keep m, x4.keep m, x5.keep m, x6.keep m, na, nc, m.list _ _ _ _ x7, x8.keep m⟩

/-- How many marks fields take. -/
def mFs (fs : List F) : Nat → Nat
  | 0 => 0
  | n + 1 => mFs fs n + 7 + (fth fs n).needs.length

set_option maxRecDepth 20000 in
set_option maxHeartbeats 3200000 in
theorem markFieldS_any (fs : List F) (c k lo hi : Nat) (a : Option Addr) (w : World) (hw : WFs w lo hi fs a) (hl : fs.length ≤ 1048576) (hn : ∀ i, (fth fs i).needs.length ≤ 1048576) (hk : ∀ i, i ≤ fs.length → k + mFs fs i ≤ 1000000000000) :
    Calls Tryz.prog 66 #[.slice a fs.length c, .int .i64 k] w fun e w' => e = .returned (.int .i64 ((k + mFs fs fs.length : Nat) : Int)) ∧ Marked lo hi w w' := by
  go_enter Tryz.func66, Tryz.ntmps66
  go_wp2_with fail
  go_loopw [1, 5] (fun kk i wr => ∃ j : Nat, j ≤ fs.length ∧ kk = .int .i64 ((k + mFs fs j : Nat) : Int) ∧ i = .int .i64 j ∧ Marked lo hi w wr) (fun _ i _ => fs.length - (intOf i).toNat)
  case atStart => exact ⟨0, Nat.zero_le _, rfl, rfl, Marked.refl _ _ _⟩
  case round =>
    obtain ⟨j, hj, rfl, rfl, hm⟩ := hrel
    obtain ⟨w0, rfl⟩ : ∃ x, x = wr := ⟨wr, rfl⟩
    by_cases hlt : j < fs.length
    · obtain ⟨b, off, rfl, h1, h2, hcc⟩ := (hw.keep hm) (by omega)
      obtain ⟨x0, x1, x2, x3, x4, x5, x6, na, nc, x7, x8⟩ := hcc j hlt
      clear hcc
      have hji : (j : Int) < (fs.length : Int) := by omega
      have hkj := hk (j + 1) (by omega)
      have HK : Hid (mFs fs (j + 1) = mFs fs j + 7 + (fth fs j).needs.length) := rfl
      rw [HK.out] at hkj
      generalize mFs fs j = mj at hkj HK
      obtain ⟨K, hKe⟩ : ∃ K : Int, K = ((k + mj : Nat) : Int) := ⟨_, rfl⟩
      have hK0 : 0 ≤ K := by omega
      have hK1 : K + 7 + (fth fs j).needs.length ≤ 1000000000000 := by omega
      have HKE : Hid (K = ((k + mj : Nat) : Int)) := hKe
      rw [← hKe]
      clear hKe
      have hB1 : Hid (lo ≤ b ∧ b < hi) := ⟨h1, h2⟩
      have HX : Hid (TextAt w0 ⟨b, off + j * 8, none⟩ ∧ TextAt w0 ⟨b, off + j * 8 + 1, none⟩ ∧ FlagAt w0 ⟨b, off + j * 8 + 2, none⟩ ∧ FlagAt w0 ⟨b, off + j * 8 + 3, none⟩ ∧ FlagAt w0 ⟨b, off + j * 8 + 4, none⟩ ∧ FlagAt w0 ⟨b, off + j * 8 + 5, none⟩ ∧ FlagAt w0 ⟨b, off + j * 8 + 6, none⟩ ∧ w0.cell? ⟨b, off + j * 8 + 7, none⟩ = some (.slice na (fth fs j).needs.length nc) ∧ WStrs w0 lo hi (fth fs j).needs.length na) := ⟨x0, x1, x2, x3, x4, x5, x6, x7, x8⟩
      clear x0 x1 x2 x3 x4 x5 x6 x7 x8 h1 h2
      go_wp2_with fail
      refine (markText_int K w0 hK0 (by omega)).mono ?_
      rintro e w1 ⟨rfl, hb1⟩
      have m1 := Marked.of_below lo hi hb1
      obtain ⟨⟨s0, t0⟩, f0⟩ := HX.out.1.keep m1
      have m1' := m1.trans (Marked.set_text t0 hB1.out.1 hB1.out.2 (mtext K.toNat))
      generalize mtext K.toNat = mt0 at m1' ⊢
      go_wp2_with fail
      obtain ⟨W1, hW1⟩ : ∃ W, W = w1.setCell ⟨b, off + j * 8, none⟩ (.string mt0) := ⟨_, rfl⟩
      rw [← hW1] at m1' ⊢
      clear hW1 t0 f0 m1 hb1
      refine (markText_int (K + 1) W1 (by omega) (by omega)).mono ?_
      rintro e w2 ⟨rfl, hb2⟩
      have m2 := m1'.trans (Marked.of_below lo hi hb2)
      obtain ⟨⟨s1, t1⟩, f1⟩ := HX.out.2.1.keep m2
      generalize mtext (K + 1).toNat = mt1
      have m3 := m2.trans (Marked.set_text t1 hB1.out.1 hB1.out.2 mt1)
      obtain ⟨W2, hW2⟩ : ∃ W, W = w2.setCell ⟨b, off + j * 8 + 1, none⟩ (.string mt1) := ⟨_, rfl⟩
      rw [← hW2] at m3
      obtain ⟨⟨v2, q2⟩, g2⟩ := HX.out.2.2.1.keep m3
      obtain ⟨⟨v3, q3⟩, g3⟩ := HX.out.2.2.2.1.keep m3
      obtain ⟨⟨v4, q4⟩, g4⟩ := HX.out.2.2.2.2.1.keep m3
      obtain ⟨⟨v5, q5⟩, g5⟩ := HX.out.2.2.2.2.2.1.keep m3
      obtain ⟨⟨v6, q6⟩, g6⟩ := HX.out.2.2.2.2.2.2.1.keep m3
      have q7 := m3.list _ _ _ _ HX.out.2.2.2.2.2.2.2.1
      rw [hW2] at q2 q3 q4 q5 q6 q7 g2 g3 g4 g5 g6
      have m4 := Marked.set_flags hB1.out.1 hB1.out.2 [(off + j * 8 + 2, (K + 1 + 1) % 3 == 0), (off + j * 8 + 3, (K + 1 + 1 + 1) % 3 == 0), (off + j * 8 + 4, (K + 1 + 1 + 1 + 1) % 3 == 0), (off + j * 8 + 5, (K + 1 + 1 + 1 + 1 + 1) % 3 == 0), (off + j * 8 + 6, (K + 1 + 1 + 1 + 1 + 1 + 1) % 3 == 0)] m3 (fun p hp => by
        simp only [List.mem_cons, List.not_mem_nil, or_false] at hp
        rcases hp with rfl | rfl | rfl | rfl | rfl
        · exact HX.out.2.2.1.keep m3
        · exact HX.out.2.2.2.1.keep m3
        · exact HX.out.2.2.2.2.1.keep m3
        · exact HX.out.2.2.2.2.2.1.keep m3
        · exact HX.out.2.2.2.2.2.2.1.keep m3)
      simp only [List.foldl_cons, List.foldl_nil, hW2] at m4
      have H8 : Hid (WStrs _ lo hi (fth fs j).needs.length na) := HX.out.2.2.2.2.2.2.2.2.keep m4
      clear m1' hb2 m2
      go_wp2_with fail
      refine (markStringS_int (fth fs j).needs.length nc (K + 1 + 1 + 1 + 1 + 1 + 1 + 1) lo hi na _ H8.out (hn j) (by omega) (by omega)).mono ?_
      rintro e w5 ⟨rfl, m5⟩
      have hfin : Hid (K + 1 + 1 + 1 + 1 + 1 + 1 + 1 + (fth fs j).needs.length = ((k + mFs fs (j + 1) : Nat) : Int)) := by show _ = _; rw [HK.out, HKE.out]; omega
      have m6 := hm.trans (m4.trans m5)
      clear q2 q3 q4 q5 q6 q7 g2 g3 g4 g5 g6 t1 f1 m3 m4 m5
      go_wp2_with fail
      go_roundw
      case rel => exact ⟨j + 1, by omega, by rw [← hfin.out], by go_num, m6⟩
      case measure => simp [intOf]; omega
    · go_wp2_with fail
      go_ret
      have e : j = fs.length := by omega
      exact ⟨by rw [e]; rfl, hm⟩
end Go.Proofs.YtgcfgadkclfonaaGreatDoor

namespace Go.Proofs.YtgcfgadkclfonaaGreatDoor
set_option linter.unusedSimpArgs false
set_option linter.unusedVariables false
open Go.RowKit

theorem markFieldS_int (fs : List F) (c : Nat) (t : Int) (lo hi : Nat) (a : Option Addr) (w : World) (hw : WFs w lo hi fs a) (hl : fs.length ≤ 1048576) (hn : ∀ i, (fth fs i).needs.length ≤ 1048576) (h0 : 0 ≤ t) (h1 : ∀ i, i ≤ fs.length → t + mFs fs i ≤ 1000000000000) :
    Calls Tryz.prog 66 #[.slice a fs.length c, .int .i64 t] w fun e w' => e = .returned (.int .i64 (t + mFs fs fs.length)) ∧ Marked lo hi w w' := by
  have h := markFieldS_any fs c t.toNat lo hi a w hw hl hn (fun i hi => by have := h1 i hi; omega)
  rw [show ((t.toNat : Nat) : Int) = t by omega, show (((t.toNat + mFs fs fs.length : Nat)) : Int) = t + mFs fs fs.length by omega] at h
  exact h

/-- A list of types that may be written, within a range of blocks. -/
def WTs (w : World) (lo hi : Nat) (ts : List T) (a : Option Addr) : Prop := 0 < ts.length → ∃ b off, a = some ⟨b, off, none⟩ ∧ lo ≤ b ∧ b < hi ∧ ∀ i, i < ts.length →
  TextAt w ⟨b, off + i * 3, none⟩ ∧ TextAt w ⟨b, off + i * 3 + 1, none⟩ ∧ ∃ fa fc, w.cell? ⟨b, off + i * 3 + 2, none⟩ = some (.slice fa (tth ts i).fields.length fc) ∧ WFs w lo hi (tth ts i).fields fa
theorem WTs.keep {lo hi lo' hi' : Nat} {ts : List T} {w w' : World} {a : Option Addr} (h : WTs w lo hi ts a) (m : Marked lo' hi' w w') : WTs w' lo hi ts a := fun hn => by
  obtain ⟨b, off, e, h1, h2, hc⟩ := h hn
  refine ⟨b, off, e, h1, h2, fun i hi => ?_⟩
  obtain ⟨x0, x1, fa, fc, x2, x3⟩ := hc i hi
  exact ⟨x0.keep m, x1.keep m, fa, fc, m.list _ _ _ _ x2, x3.keep m⟩

/-- How many marks types take. -/
def mTs (ts : List T) : Nat → Nat
  | 0 => 0
  | n + 1 => mTs ts n + 2 + mFs (tth ts n).fields (tth ts n).fields.length
theorem mFs_le (fs : List F) : ∀ i n, i ≤ n → mFs fs i ≤ mFs fs n := fun i n h => by
  induction h with
  | refl => exact Nat.le_refl _
  | step h ih => exact Nat.le_trans ih (by show _ ≤ mFs fs _ + 7 + _; omega)

set_option maxRecDepth 20000 in
set_option maxHeartbeats 3200000 in
theorem markTypeS_any (ts : List T) (c k lo hi : Nat) (a : Option Addr) (w : World) (hw : WTs w lo hi ts a) (hl : ts.length ≤ 1048576) (hf : ∀ i, (tth ts i).fields.length ≤ 1048576) (hn : ∀ i j, (fth (tth ts i).fields j).needs.length ≤ 1048576) (hk : ∀ i, i ≤ ts.length → k + mTs ts i ≤ 1000000000000) :
    Calls Tryz.prog 39 #[.slice a ts.length c, .int .i64 k] w fun e w' => e = .returned (.int .i64 ((k + mTs ts ts.length : Nat) : Int)) ∧ Marked lo hi w w' := by
  go_enter Tryz.func39, Tryz.ntmps39
  go_wp2_with fail
  go_loopw [1, 5] (fun kk i wr => ∃ j : Nat, j ≤ ts.length ∧ kk = .int .i64 ((k + mTs ts j : Nat) : Int) ∧ i = .int .i64 j ∧ Marked lo hi w wr) (fun _ i _ => ts.length - (intOf i).toNat)
  case atStart => exact ⟨0, Nat.zero_le _, rfl, rfl, Marked.refl _ _ _⟩
  case round =>
    obtain ⟨j, hj, rfl, rfl, hm⟩ := hrel
    obtain ⟨w0, rfl⟩ : ∃ x, x = wr := ⟨wr, rfl⟩
    by_cases hlt : j < ts.length
    · obtain ⟨b, off, rfl, h1, h2, hcc⟩ := (hw.keep hm) (by omega)
      obtain ⟨x0, x1, fa, fc, x2, x3⟩ := hcc j hlt
      clear hcc
      have hji : (j : Int) < (ts.length : Int) := by omega
      have hkj := hk (j + 1) (by omega)
      have HK : Hid (mTs ts (j + 1) = mTs ts j + 2 + mFs (tth ts j).fields (tth ts j).fields.length) := rfl
      rw [HK.out] at hkj
      generalize mTs ts j = mj at hkj HK
      obtain ⟨K, hKe⟩ : ∃ K : Int, K = ((k + mj : Nat) : Int) := ⟨_, rfl⟩
      have hK0 : 0 ≤ K := by omega
      have hK1 : K + 2 + mFs (tth ts j).fields (tth ts j).fields.length ≤ 1000000000000 := by omega
      have HKE : Hid (K = ((k + mj : Nat) : Int)) := hKe
      rw [← hKe]
      clear hKe
      have hB1 : Hid (lo ≤ b ∧ b < hi) := ⟨h1, h2⟩
      have HX : Hid (TextAt w0 ⟨b, off + j * 3, none⟩ ∧ TextAt w0 ⟨b, off + j * 3 + 1, none⟩ ∧ w0.cell? ⟨b, off + j * 3 + 2, none⟩ = some (.slice fa (tth ts j).fields.length fc) ∧ WFs w0 lo hi (tth ts j).fields fa) := ⟨x0, x1, x2, x3⟩
      clear x0 x1 x2 x3 h1 h2
      go_wp2_with fail
      refine (markText_int K w0 hK0 (by omega)).mono ?_
      rintro e w1 ⟨rfl, hb1⟩
      have m1 := Marked.of_below lo hi hb1
      obtain ⟨⟨s0, t0⟩, f0⟩ := HX.out.1.keep m1
      have m1' := m1.trans (Marked.set_text t0 hB1.out.1 hB1.out.2 (mtext K.toNat))
      generalize mtext K.toNat = mt0 at m1' ⊢
      go_wp2_with fail
      obtain ⟨W1, hW1⟩ : ∃ W, W = w1.setCell ⟨b, off + j * 3, none⟩ (.string mt0) := ⟨_, rfl⟩
      rw [← hW1] at m1' ⊢
      clear hW1 t0 f0 m1 hb1
      refine (markText_int (K + 1) W1 (by omega) (by omega)).mono ?_
      rintro e w2 ⟨rfl, hb2⟩
      have m2 := m1'.trans (Marked.of_below lo hi hb2)
      obtain ⟨⟨s1, t1⟩, f1⟩ := HX.out.2.1.keep m2
      generalize mtext (K + 1).toNat = mt1
      have m3 := m2.trans (Marked.set_text t1 hB1.out.1 hB1.out.2 mt1)
      have q2 := m3.list _ _ _ _ HX.out.2.2.1
      have H8 : Hid (WFs _ lo hi (tth ts j).fields fa) := HX.out.2.2.2.keep m3
      clear m1' hb2 m2
      go_wp2_with fail
      refine (markFieldS_int (tth ts j).fields fc (K + 1 + 1) lo hi fa _ H8.out (hf j) (hn j) (by omega) (fun i hi => by have := mFs_le (tth ts j).fields i _ hi; omega)).mono ?_
      rintro e w5 ⟨rfl, m5⟩
      have hfin : Hid (K + 1 + 1 + (mFs (tth ts j).fields (tth ts j).fields.length : Nat) = ((k + mTs ts (j + 1) : Nat) : Int)) := by show _ = _; rw [HK.out, HKE.out]; omega
      have m6 := hm.trans (m3.trans m5)
      clear q2 t1 f1 m3 m5
      go_wp2_with fail
      go_roundw
      case rel => exact ⟨j + 1, by omega, by rw [← hfin.out], by go_num, m6⟩
      case measure => simp [intOf]; omega
    · go_wp2_with fail
      go_ret
      have e : j = ts.length := by omega
      exact ⟨by rw [e]; rfl, hm⟩

/-- A part's fields and types are no more than its size. -/
theorem mFs_sz (fs : List F) : ∀ n, mFs fs n ≤ 8 * szFsTo fs n + 7 * n
  | 0 => by simp [mFs]
  | n + 1 => by
    rw [mFs, szFsTo_succ]
    have := mFs_sz fs n
    have h : (fth fs n).needs.length ≤ szF (fth fs n) := by simp only [szF, szNs]; omega
    omega
theorem mTs_sz (ts : List T) : ∀ n, mTs ts n ≤ 8 * szTsTo ts n + 2 * n
  | 0 => by simp [mTs]
  | n + 1 => by
    rw [mTs, szTsTo_succ]
    have := mTs_sz ts n
    have h1 := mFs_sz (tth ts n).fields (tth ts n).fields.length
    have h2 : szT (tth ts n) = (tth ts n).name.size + (tth ts n).key.size + ((tth ts n).fields.length + szFsTo (tth ts n).fields (tth ts n).fields.length) := rfl
    omega
theorem szFsTo_mono (fs : List F) : ∀ i n, i ≤ n → szFsTo fs i ≤ szFsTo fs n := fun i n h => by
  induction h with
  | refl => exact Nat.le_refl _
  | step h ih => exact Nat.le_trans ih (by rw [szFsTo_succ]; omega)
theorem szTsTo_mono (ts : List T) : ∀ i n, i ≤ n → szTsTo ts i ≤ szTsTo ts n := fun i n h => by
  induction h with
  | refl => exact Nat.le_refl _
  | step h ih => exact Nat.le_trans ih (by rw [szTsTo_succ]; omega)
theorem needs_small (fs : List F) (h : szFs fs ≤ 1048576) (j : Nat) : (fth fs j).needs.length ≤ 1048576 := by
  by_cases hj : j < fs.length
  · have h1 := szFsTo_mono fs (j + 1) fs.length hj
    rw [szFsTo_succ] at h1
    have h2 : (fth fs j).needs.length ≤ szF (fth fs j) := by simp only [szF, szNs]; omega
    have h3 : szFs fs = fs.length + szFsTo fs fs.length := rfl
    omega
  · have : fth fs j = F.zero := by simp [fth, List.getD_eq_getElem?_getD, List.getElem?_eq_none (Nat.le_of_not_lt hj)]
    rw [this]; simp [F.zero]
theorem fields_small (ts : List T) (h : szTs ts ≤ 1048576) (i : Nat) : szFs (tth ts i).fields ≤ 1048576 := by
  by_cases hi : i < ts.length
  · have h1 := szTsTo_mono ts (i + 1) ts.length hi
    rw [szTsTo_succ] at h1
    have h2 : szT (tth ts i) = (tth ts i).name.size + (tth ts i).key.size + szFs (tth ts i).fields := rfl
    have h3 : szTs ts = ts.length + szTsTo ts ts.length := rfl
    omega
  · have : tth ts i = T.zero := by simp [tth, List.getD_eq_getElem?_getD, List.getElem?_eq_none (Nat.le_of_not_lt hi)]
    rw [this]; decide

/-- A mark of a whole part: nothing outside of its own memory turns. -/
theorem markPart_any (p : Pt) (c lo hi : Nat) (a : Option Addr) (w : World) (hw : WTs w lo hi p.types a) (hz : szP p ≤ 1048576) :
    Calls Tryz.prog 15 #[.agg #[.string p.name, .slice a p.types.length c], .int .i64 1] w fun e w' => ∃ x : Nat, e = .returned (.int .i64 (x : Int)) ∧ Marked lo hi w w' := by
  obtain ⟨name, types⟩ := p
  have hs : szTs types ≤ 1048576 := by have : szP ⟨name, types⟩ = name.size + szTs types := rfl; omega
  have hM := fun o => markTypeS_any types c 1 lo hi a (w.alloc o) (hw.keep (Marked.of_below lo hi (below_box w o))) (by have : szTs types = types.length + szTsTo types types.length := rfl; omega)
    (fun i => by have := fields_small types hs i; have h3 : szFs (tth types i).fields = (tth types i).fields.length + szFsTo (tth types i).fields (tth types i).fields.length := rfl; omega)
    (fun i j => needs_small _ (fields_small types hs i) j)
    (fun i hi => by have h1 := mTs_sz types i; have h2 := szTsTo_mono types i _ hi; have h3 : szTs types = types.length + szTsTo types types.length := rfl; omega)
  go_enter Tryz.func15, Tryz.ntmps15
  go_wp2_with (
    go_at_call 39
    refine (hM _).mono ?_
    rintro e w1 ⟨rfl, hm1⟩)
  go_ret
  exact ⟨_, rfl, (Marked.of_below lo hi (below_box w _)).trans hm1⟩
end Go.Proofs.YtgcfgadkclfonaaGreatDoor

namespace Go.Proofs.YtgcfgadkclfonaaGreatDoor
set_option linter.unusedSimpArgs false
set_option linter.unusedVariables false
open Go.RowKit


set_option maxHeartbeats 800000 in
theorem toField_nf (f : F) (w : World) (B : Nat) (v : Value) (hR : FRep w (· < B) f v) (hB : B ≤ w.heap.size) :
    Calls Tryz.prog 104 #[v] w fun e w' => ∃ (na : Option Addr) (nc : Nat), e = .returned (.agg #[.string f.name, .string f.of, .bool f.list, .bool f.must, .bool f.far, .bool f.hidden, .bool f.shared, .slice na f.needs.length nc]) ∧ Below w.heap.size w w' ∧
      FRep w' (fun b => w.heap.size ≤ b ∧ b < w'.heap.size) f (.agg #[.string f.name, .string f.of, .bool f.list, .bool f.must, .bool f.far, .bool f.hidden, .bool f.shared, .slice na f.needs.length nc]) ∧ NF w.heap.size w' := by
  obtain ⟨na, nc, rfl, hs, hnc, hn, ho, hbs⟩ := hR
  obtain ⟨name, of, l, m, fa, hi, sh, needs⟩ := f
  simp only at hs hnc hn ho hbs
  have hb3 : ∀ o1 o2 o3, Below w.heap.size w (((w.alloc o1).alloc o2).alloc o3) := fun o1 o2 o3 => (((Below.refl _ _).alloc (Nat.le_refl _) _).alloc (by simp) _).alloc (by simp; omega) _
  go_enter Tryz.func104, Tryz.ntmps104
  go_wp2_with (
      go_at_call 127
      refine (toStringS_nf needs na nc _ ((hs.under ((hb3 _ _ _).mono hB)).sub fun k hk => by simp; omega) hbs).mono ?_
      rintro e w1 ⟨rfl, hb1, hsz1, hst1, hnf1⟩
      have HN1 : Hid (NF w.heap.size w1) := NF.call (NF.three w _ _ _ _ _ _) hb1 hnf1
      clear hnf1
      obtain ⟨c1, f1⟩ := bcell hb1
      simp at hsz1
      have hlt1 : w.heap.size + 1 + 1 < w1.heap.size := by omega)
  have hbw : Below w.heap.size w w1 := (hb3 _ _ _).trans (hb1.mono (by simp; omega))
  have fin := cpF_end (w := w) (w1 := w1) (f := ⟨name, of, l, m, fa, hi, sh, needs⟩) (x := .slice (some ⟨w.heap.size + 1 + 1 + 1, 0, none⟩) needs.length needs.length) (N := w.heap.size) rfl hbw hsz1 (by simpa using hst1) hn ho hbs [.string name, .string of, .bool l, .bool m, .bool fa, .bool hi, .bool sh, .slice (some ⟨w.heap.size + 1 + 1 + 1, 0, none⟩) needs.length needs.length]
  refine bodyPost_ret (v := .agg #[.string name, .string of, .bool l, .bool m, .bool fa, .bool hi, .bool sh, .slice (some ⟨w.heap.size + 1 + 1 + 1, 0, none⟩) needs.length needs.length]) ?res rfl ⟨_, _, rfl, fin.1, fin.2, fun a ha => by simp only [World.frozen?_setCell]; exact HN1.out a ha⟩
  case res =>
    have hr0 : ∀ o1 o3 c, ((((w.alloc o1).alloc (.cells c 69)).alloc o3)).rowIs (w.heap.size + 1) 69 c.size (fun i => c[i]?.getD undef) := fun o1 o3 c => by
      have h := ((w.alloc o1).rowIs_alloc c 69 (fun i => c[i]?.getD undef) (fun i hi => by simp [hi])).alloc o3
      simpa using h
    have hr1 := (hr0 _ _ _).of_block (hb1.block (w.heap.size + 1) (by simp))
    have p0 := hr1.cell (i := 0) (by simp)
    have p1 := hr1.cell (i := 1) (by simp)
    have p2 := hr1.cell (i := 2) (by simp)
    have p3 := hr1.cell (i := 3) (by simp)
    have p4 := hr1.cell (i := 4) (by simp)
    have p5 := hr1.cell (i := 5) (by simp)
    have p6 := hr1.cell (i := 6) (by simp)
    have p7 := hr1.cell (i := 7) (by simp)
    clear fin hst1 hs c1 f1 hb1 hr0 hr1
    simp [results, Tryz.results104, go_sem, p0, p1, p2, p3, p4, p5, p6, p7]


set_option maxHeartbeats 800000 in
theorem toFieldS_nf (xs : List F) (w : World) (B : Nat) (a : Option Addr) (c : Nat) (hK : FsRep w (· < B) xs a) (hB : B ≤ w.heap.size) :
    Calls Tryz.prog 78 #[.slice a xs.length c] w fun e w' => e = .returned (.slice (some ⟨w.heap.size, 0, none⟩) xs.length xs.length) ∧ Below w.heap.size w w' ∧ w.heap.size < w'.heap.size ∧
      FsRep w' (fun b => w.heap.size ≤ b ∧ b < w'.heap.size) xs (some ⟨w.heap.size, 0, none⟩) ∧ NF w.heap.size w' := by
  have h3 := hK.1
  obtain ⟨-, C, hA, hr⟩ := hK
  have hmk := run_make_any (P := Tryz.prog) 87 69 (.agg #[.string ByteArray.empty, .string ByteArray.empty, .bool false, .bool false, .bool false, .bool false, .bool false, .slice none 0 0]) #[.string ByteArray.empty, .string ByteArray.empty, .bool false, .bool false, .bool false, .bool false, .bool false, .slice none 0 0] rfl 8 64 Tryz.underlying87 info_Field .i64 .i64 xs.length h3 (by omega)
  go_enter Tryz.func78, Tryz.ntmps78
  go_wp2_with fail
  go_loopw [4] (fun i wr => ∃ (k : Nat) (G : Nat → Value), k ≤ xs.length ∧ i = .int .i64 k ∧ Below w.heap.size w wr ∧ wr.rowIs w.heap.size 69 (xs.length * 8) G ∧
      (∀ i, i < k → FRep wr (fun b => w.heap.size < b ∧ b < wr.heap.size) (fth xs i) (.agg #[G (i * 8), G (i * 8 + 1), G (i * 8 + 2), G (i * 8 + 3), G (i * 8 + 4), G (i * 8 + 5), G (i * 8 + 6), G (i * 8 + 7)])) ∧ NF w.heap.size wr) (fun i _ => xs.length - (intOf i).toNat)
  case atStart =>
    obtain ⟨G, hG⟩ := made_row w #[.string ByteArray.empty, .string ByteArray.empty, .bool false, .bool false, .bool false, .bool false, .bool false, .slice none 0 0] (xs.length * 8) 69
    exact ⟨0, G, Nat.zero_le _, rfl, below_box _ _, hG, fun i hi => by omega, (NF.new w).alloc _ _⟩
  case round =>
    obtain ⟨k, G, hk, rfl, hbel, hrow, hreps, hnf⟩ := hrel
    have HNF : Hid (NF w.heap.size wr) := hnf
    clear hnf
    by_cases hlt : k < xs.length
    · obtain ⟨b, off, rfl, hbB, hc⟩ := hA (by omega)
      have hck : ∀ j, j < 8 → wr.cell? ⟨b, off + k * 8 + j, none⟩ = some (C k j) := fun j hj => (hbel.cell (p := ⟨b, off + k * 8 + j, none⟩) (by show b < _; omega)).trans (hc k hlt j hj)
      have hc0 : wr.cell? ⟨b, off + k * 8, none⟩ = some (C k 0) := hck 0 (by omega)
      have hc1 : wr.cell? ⟨b, off + k * 8 + 1, none⟩ = some (C k 1) := hck 1 (by omega)
      have hc2 : wr.cell? ⟨b, off + k * 8 + 2, none⟩ = some (C k 2) := hck 2 (by omega)
      have hc3 : wr.cell? ⟨b, off + k * 8 + 3, none⟩ = some (C k 3) := hck 3 (by omega)
      have hc4 : wr.cell? ⟨b, off + k * 8 + 4, none⟩ = some (C k 4) := hck 4 (by omega)
      have hc5 : wr.cell? ⟨b, off + k * 8 + 5, none⟩ = some (C k 5) := hck 5 (by omega)
      have hc6 : wr.cell? ⟨b, off + k * 8 + 6, none⟩ = some (C k 6) := hck 6 (by omega)
      have hc7 : wr.cell? ⟨b, off + k * 8 + 7, none⟩ = some (C k 7) := hck 7 (by omega)
      clear hck hc
      go_wp2_with (
        go_at_call 104
        refine (toField_nf (fth xs k) _ B _ ((hr k hlt).under (hbel.mono hB)) (by have := hbel.size; omega)).mono ?_
        rintro e w1 ⟨na, nc, rfl, hby, hry, hnf1⟩
        have HN1 : Hid (NF w.heap.size w1) := NF.call HNF.out hby hnf1
        clear hnf1
        have hrow1 := hrow.of_block (hby.block _ hrow.lt)
        have q0 : w1.cell? ⟨w.heap.size, k * 8, none⟩ = some (G (k * 8)) := hrow1.cell (by omega)
        have q1 : w1.cell? ⟨w.heap.size, k * 8 + 1, none⟩ = some (G (k * 8 + 1)) := hrow1.cell (by omega)
        have q2 : w1.cell? ⟨w.heap.size, k * 8 + 2, none⟩ = some (G (k * 8 + 2)) := hrow1.cell (by omega)
        have q3 : w1.cell? ⟨w.heap.size, k * 8 + 3, none⟩ = some (G (k * 8 + 3)) := hrow1.cell (by omega)
        have q4 : w1.cell? ⟨w.heap.size, k * 8 + 4, none⟩ = some (G (k * 8 + 4)) := hrow1.cell (by omega)
        have q5 : w1.cell? ⟨w.heap.size, k * 8 + 5, none⟩ = some (G (k * 8 + 5)) := hrow1.cell (by omega)
        have q6 : w1.cell? ⟨w.heap.size, k * 8 + 6, none⟩ = some (G (k * 8 + 6)) := hrow1.cell (by omega)
        have q7 : w1.cell? ⟨w.heap.size, k * 8 + 7, none⟩ = some (G (k * 8 + 7)) := hrow1.cell (by omega)
        have z0 : ∀ j, w1.frozen? ⟨w.heap.size, j, none⟩ = false := fun j => hrow1.frozen j)
      go_roundw
      case rel =>
        obtain ⟨G', hG, hG1, hGF⟩ := puts_row [.string (fth xs k).name, .string (fth xs k).of, .bool (fth xs k).list, .bool (fth xs k).must, .bool (fth xs k).far, .bool (fth xs k).hidden, .bool (fth xs k).shared, .slice na (fth xs k).needs.length nc] (k * 8) hrow1
        have hs1 := hbel.size
        have hs2 := hby.size
        have hs3 := hrow.lt
        have g0 : G' (k * 8) = .string (fth xs k).name := hG1 0 (by simp)
        have g1 : G' (k * 8 + 1) = .string (fth xs k).of := hG1 1 (by simp)
        have g2 : G' (k * 8 + 2) = .bool (fth xs k).list := hG1 2 (by simp)
        have g3 : G' (k * 8 + 3) = .bool (fth xs k).must := hG1 3 (by simp)
        have g4 : G' (k * 8 + 4) = .bool (fth xs k).far := hG1 4 (by simp)
        have g5 : G' (k * 8 + 5) = .bool (fth xs k).hidden := hG1 5 (by simp)
        have g6 : G' (k * 8 + 6) = .bool (fth xs k).shared := hG1 6 (by simp)
        have g7 : G' (k * 8 + 7) = .slice na (fth xs k).needs.length nc := hG1 7 (by simp)
        have hpb := puts_block w.heap.size
        have hps := puts_size w.heap.size [.string (fth xs k).name, .string (fth xs k).of, .bool (fth xs k).list, .bool (fth xs k).must, .bool (fth xs k).far, .bool (fth xs k).hidden, .bool (fth xs k).shared, .slice na (fth xs k).needs.length nc] w1 (k * 8)
        refine ⟨k + 1, G', by omega, by go_num, puts_below (Nat.le_refl _) [.string (fth xs k).name, .string (fth xs k).of, .bool (fth xs k).list, .bool (fth xs k).must, .bool (fth xs k).far, .bool (fth xs k).hidden, .bool (fth xs k).shared, .slice na (fth xs k).needs.length nc] w1 (k * 8) (hbel.trans (hby.mono hs1)), hG, fun i hi => ?_, fun a ha => by simp only [World.frozen?_setCell]; exact HN1.out a ha⟩
        by_cases e1 : i = k
        · rw [e1, g0, g1, g2, g3, g4, g5, g6, g7]
          refine (hry.mono fun b hb => hpb b (by omega) [.string (fth xs k).name, .string (fth xs k).of, .bool (fth xs k).list, .bool (fth xs k).must, .bool (fth xs k).far, .bool (fth xs k).hidden, .bool (fth xs k).shared, .slice na (fth xs k).needs.length nc] w1 _).sub fun b hb => ⟨by omega, ?_⟩
          show b < (puts w1 w.heap.size (k * 8) [.string (fth xs k).name, .string (fth xs k).of, .bool (fth xs k).list, .bool (fth xs k).must, .bool (fth xs k).far, .bool (fth xs k).hidden, .bool (fth xs k).shared, .slice na (fth xs k).needs.length nc]).heap.size
          omega
        · rw [hGF _ (by omega), hGF _ (by omega), hGF _ (by omega), hGF _ (by omega), hGF _ (by omega), hGF _ (by omega), hGF _ (by omega), hGF _ (by omega)]
          refine ((hreps i (by omega)).mono fun b hb => (hpb b (by omega) [.string (fth xs k).name, .string (fth xs k).of, .bool (fth xs k).list, .bool (fth xs k).must, .bool (fth xs k).far, .bool (fth xs k).hidden, .bool (fth xs k).shared, .slice na (fth xs k).needs.length nc] w1 _).trans (hby.block b hb.2)).sub fun b hb => ⟨hb.1, ?_⟩
          show b < (puts w1 w.heap.size (k * 8) [.string (fth xs k).name, .string (fth xs k).of, .bool (fth xs k).list, .bool (fth xs k).must, .bool (fth xs k).far, .bool (fth xs k).hidden, .bool (fth xs k).shared, .slice na (fth xs k).needs.length nc]).heap.size
          omega
      case measure => simp [intOf]; omega
    · go_wp2_with fail
      go_ret
      have e : k = xs.length := by omega
      subst e
      refine ⟨rfl, hbel, hrow.lt, ⟨h3, fun i j => G (i * 8 + j), fun _ => ⟨_, _, rfl, ⟨Nat.le_refl _, hrow.lt⟩, fun i hi j hj => ?_⟩, fun i hi => (hreps i hi).sub fun b hb => ⟨by omega, hb.2⟩⟩, HNF.out⟩
      have := hrow.cell (i := i * 8 + j) (by omega)
      simpa using this

set_option maxHeartbeats 800000 in
theorem toType_nf (t : T) (w : World) (B : Nat) (v : Value) (hR : TRep w (· < B) t v) (hB : B ≤ w.heap.size) :
    Calls Tryz.prog 54 #[v] w fun e w' => ∃ (fa : Option Addr) (fc : Nat), e = .returned (.agg #[.string t.name, .string t.key, .slice fa t.fields.length fc]) ∧ Below w.heap.size w w' ∧
      TRep w' (fun b => w.heap.size ≤ b ∧ b < w'.heap.size) t (.agg #[.string t.name, .string t.key, .slice fa t.fields.length fc]) ∧ NF w.heap.size w' := by
  obtain ⟨na, nc, rfl, hs, hnc, hn, ho⟩ := hR
  obtain ⟨name, key, fields⟩ := t
  simp only at hs hnc hn ho
  have hb3 : ∀ o1 o2 o3, Below w.heap.size w (((w.alloc o1).alloc o2).alloc o3) := fun o1 o2 o3 => (((Below.refl _ _).alloc (Nat.le_refl _) _).alloc (by simp) _).alloc (by simp; omega) _
  go_enter Tryz.func54, Tryz.ntmps54
  go_wp2_with (
      go_at_call 78
      refine (toFieldS_nf fields _ B na nc (hs.under ((hb3 _ _ _).mono hB)) (by simp; omega)).mono ?_
      rintro e w1 ⟨rfl, hb1, hsz1, hst1, hnf1⟩
      have HN1 : Hid (NF w.heap.size w1) := NF.call (NF.three w _ _ _ _ _ _) hb1 hnf1
      clear hnf1
      obtain ⟨c1, f1⟩ := bcell hb1
      simp at hsz1
      have hlt1 : w.heap.size + 1 + 1 < w1.heap.size := by omega)
  have hbw : Below w.heap.size w w1 := (hb3 _ _ _).trans (hb1.mono (by simp; omega))
  have fin := cpT_end (w := w) (w1 := w1) (t := ⟨name, key, fields⟩) (x := .slice (some ⟨w.heap.size + 1 + 1 + 1, 0, none⟩) fields.length fields.length) (N := w.heap.size) rfl hbw hsz1 (by simpa using hst1) hn ho [.string name, .string key, .slice (some ⟨w.heap.size + 1 + 1 + 1, 0, none⟩) fields.length fields.length]
  refine bodyPost_ret (v := .agg #[.string name, .string key, .slice (some ⟨w.heap.size + 1 + 1 + 1, 0, none⟩) fields.length fields.length]) ?res rfl ⟨_, _, rfl, fin.1, fin.2, fun a ha => by simp only [World.frozen?_setCell]; exact HN1.out a ha⟩
  case res =>
    have hr0 : ∀ o1 o3 c, ((((w.alloc o1).alloc (.cells c 89)).alloc o3)).rowIs (w.heap.size + 1) 89 c.size (fun i => c[i]?.getD undef) := fun o1 o3 c => by
      have h := ((w.alloc o1).rowIs_alloc c 89 (fun i => c[i]?.getD undef) (fun i hi => by simp [hi])).alloc o3
      simpa using h
    have hr1 := (hr0 _ _ _).of_block (hb1.block (w.heap.size + 1) (by simp))
    have p0 := hr1.cell (i := 0) (by simp)
    have p1 := hr1.cell (i := 1) (by simp)
    have p2 := hr1.cell (i := 2) (by simp)
    clear fin hst1 hs c1 f1 hb1 hr0 hr1
    simp [results, Tryz.results54, go_sem, p0, p1, p2]

set_option maxHeartbeats 800000 in
theorem toTypeS_nf (xs : List T) (w : World) (B : Nat) (a : Option Addr) (c : Nat) (hK : TsRep w (· < B) xs a) (hB : B ≤ w.heap.size) :
    Calls Tryz.prog 31 #[.slice a xs.length c] w fun e w' => e = .returned (.slice (some ⟨w.heap.size, 0, none⟩) xs.length xs.length) ∧ Below w.heap.size w w' ∧ w.heap.size < w'.heap.size ∧
      TsRep w' (fun b => w.heap.size ≤ b ∧ b < w'.heap.size) xs (some ⟨w.heap.size, 0, none⟩) ∧ NF w.heap.size w' := by
  have h3 := hK.1
  obtain ⟨-, C, hA, hr⟩ := hK
  have hmk := run_make_any (P := Tryz.prog) 32 89 (.agg #[.string ByteArray.empty, .string ByteArray.empty, .slice none 0 0]) #[.string ByteArray.empty, .string ByteArray.empty, .slice none 0 0] rfl 3 56 Tryz.underlying32 info_Type .i64 .i64 xs.length h3 (by omega)
  go_enter Tryz.func31, Tryz.ntmps31
  go_wp2_with fail
  go_loopw [4] (fun i wr => ∃ (k : Nat) (G : Nat → Value), k ≤ xs.length ∧ i = .int .i64 k ∧ Below w.heap.size w wr ∧ wr.rowIs w.heap.size 89 (xs.length * 3) G ∧
      (∀ i, i < k → TRep wr (fun b => w.heap.size < b ∧ b < wr.heap.size) (tth xs i) (.agg #[G (i * 3), G (i * 3 + 1), G (i * 3 + 2)])) ∧ NF w.heap.size wr) (fun i _ => xs.length - (intOf i).toNat)
  case atStart =>
    obtain ⟨G, hG⟩ := made_row w #[.string ByteArray.empty, .string ByteArray.empty, .slice none 0 0] (xs.length * 3) 89
    exact ⟨0, G, Nat.zero_le _, rfl, below_box _ _, hG, fun i hi => by omega, (NF.new w).alloc _ _⟩
  case round =>
    obtain ⟨k, G, hk, rfl, hbel, hrow, hreps, hnf⟩ := hrel
    have HNF : Hid (NF w.heap.size wr) := hnf
    clear hnf
    by_cases hlt : k < xs.length
    · obtain ⟨b, off, rfl, hbB, hc⟩ := hA (by omega)
      have hck : ∀ j, j < 3 → wr.cell? ⟨b, off + k * 3 + j, none⟩ = some (C k j) := fun j hj => (hbel.cell (p := ⟨b, off + k * 3 + j, none⟩) (by show b < _; omega)).trans (hc k hlt j hj)
      have hc0 : wr.cell? ⟨b, off + k * 3, none⟩ = some (C k 0) := hck 0 (by omega)
      have hc1 : wr.cell? ⟨b, off + k * 3 + 1, none⟩ = some (C k 1) := hck 1 (by omega)
      have hc2 : wr.cell? ⟨b, off + k * 3 + 2, none⟩ = some (C k 2) := hck 2 (by omega)
      clear hck hc
      go_wp2_with (
        go_at_call 54
        refine (toType_nf (tth xs k) _ B _ ((hr k hlt).under (hbel.mono hB)) (by have := hbel.size; omega)).mono ?_
        rintro e w1 ⟨na, nc, rfl, hby, hry, hnf1⟩
        have HN1 : Hid (NF w.heap.size w1) := NF.call HNF.out hby hnf1
        clear hnf1
        have hrow1 := hrow.of_block (hby.block _ hrow.lt)
        have q0 : w1.cell? ⟨w.heap.size, k * 3, none⟩ = some (G (k * 3)) := hrow1.cell (by omega)
        have q1 : w1.cell? ⟨w.heap.size, k * 3 + 1, none⟩ = some (G (k * 3 + 1)) := hrow1.cell (by omega)
        have q2 : w1.cell? ⟨w.heap.size, k * 3 + 2, none⟩ = some (G (k * 3 + 2)) := hrow1.cell (by omega)
        have z0 : ∀ j, w1.frozen? ⟨w.heap.size, j, none⟩ = false := fun j => hrow1.frozen j)
      go_roundw
      case rel =>
        obtain ⟨G', hG, hG1, hGF⟩ := puts_row [.string (tth xs k).name, .string (tth xs k).key, .slice na (tth xs k).fields.length nc] (k * 3) hrow1
        have hs1 := hbel.size
        have hs2 := hby.size
        have hs3 := hrow.lt
        have g0 : G' (k * 3) = .string (tth xs k).name := hG1 0 (by simp)
        have g1 : G' (k * 3 + 1) = .string (tth xs k).key := hG1 1 (by simp)
        have g2 : G' (k * 3 + 2) = .slice na (tth xs k).fields.length nc := hG1 2 (by simp)
        have hpb := puts_block w.heap.size
        have hps := puts_size w.heap.size [.string (tth xs k).name, .string (tth xs k).key, .slice na (tth xs k).fields.length nc] w1 (k * 3)
        refine ⟨k + 1, G', by omega, by go_num, puts_below (Nat.le_refl _) [.string (tth xs k).name, .string (tth xs k).key, .slice na (tth xs k).fields.length nc] w1 (k * 3) (hbel.trans (hby.mono hs1)), hG, fun i hi => ?_, fun a ha => by simp only [World.frozen?_setCell]; exact HN1.out a ha⟩
        by_cases e1 : i = k
        · rw [e1, g0, g1, g2]
          refine (hry.mono fun b hb => hpb b (by omega) [.string (tth xs k).name, .string (tth xs k).key, .slice na (tth xs k).fields.length nc] w1 _).sub fun b hb => ⟨by omega, ?_⟩
          show b < (puts w1 w.heap.size (k * 3) [.string (tth xs k).name, .string (tth xs k).key, .slice na (tth xs k).fields.length nc]).heap.size
          omega
        · rw [hGF _ (by omega), hGF _ (by omega), hGF _ (by omega)]
          refine ((hreps i (by omega)).mono fun b hb => (hpb b (by omega) [.string (tth xs k).name, .string (tth xs k).key, .slice na (tth xs k).fields.length nc] w1 _).trans (hby.block b hb.2)).sub fun b hb => ⟨hb.1, ?_⟩
          show b < (puts w1 w.heap.size (k * 3) [.string (tth xs k).name, .string (tth xs k).key, .slice na (tth xs k).fields.length nc]).heap.size
          omega
      case measure => simp [intOf]; omega
    · go_wp2_with fail
      go_ret
      have e : k = xs.length := by omega
      subst e
      refine ⟨rfl, hbel, hrow.lt, ⟨h3, fun i j => G (i * 3 + j), fun _ => ⟨_, _, rfl, ⟨Nat.le_refl _, hrow.lt⟩, fun i hi j hj => ?_⟩, fun i hi => (hreps i hi).sub fun b hb => ⟨by omega, hb.2⟩⟩, HNF.out⟩
      have := hrow.cell (i := i * 3 + j) (by omega)
      simpa using this

set_option maxHeartbeats 800000 in
theorem toPart_nf (p : Pt) (w : World) (B : Nat) (v : Value) (hR : PRep w (· < B) p v) (hB : B ≤ w.heap.size) :
    Calls Tryz.prog 9 #[v] w fun e w' => ∃ (ta : Option Addr) (tc : Nat), e = .returned (.agg #[.string p.name, .slice ta p.types.length tc]) ∧ Below w.heap.size w w' ∧
      PRep w' (fun b => w.heap.size ≤ b ∧ b < w'.heap.size) p (.agg #[.string p.name, .slice ta p.types.length tc]) ∧ NF w.heap.size w' := by
  obtain ⟨na, nc, rfl, hs, hnc, hn⟩ := hR
  obtain ⟨name, types⟩ := p
  simp only at hs hnc hn
  have hb3 : ∀ o1 o2 o3, Below w.heap.size w (((w.alloc o1).alloc o2).alloc o3) := fun o1 o2 o3 => (((Below.refl _ _).alloc (Nat.le_refl _) _).alloc (by simp) _).alloc (by simp; omega) _
  go_enter Tryz.func9, Tryz.ntmps9
  go_wp2_with (
      go_at_call 31
      refine (toTypeS_nf types _ B na nc (hs.under ((hb3 _ _ _).mono hB)) (by simp; omega)).mono ?_
      rintro e w1 ⟨rfl, hb1, hsz1, hst1, hnf1⟩
      have HN1 : Hid (NF w.heap.size w1) := NF.call (NF.three w _ _ _ _ _ _) hb1 hnf1
      clear hnf1
      obtain ⟨c1, f1⟩ := bcell hb1
      simp at hsz1
      have hlt1 : w.heap.size + 1 + 1 < w1.heap.size := by omega)
  have hbw : Below w.heap.size w w1 := (hb3 _ _ _).trans (hb1.mono (by simp; omega))
  have fin := cpP_end (w := w) (w1 := w1) (p := ⟨name, types⟩) (x := .slice (some ⟨w.heap.size + 1 + 1 + 1, 0, none⟩) types.length types.length) (N := w.heap.size) rfl hbw hsz1 (by simpa using hst1) hn [.string name, .slice (some ⟨w.heap.size + 1 + 1 + 1, 0, none⟩) types.length types.length]
  refine bodyPost_ret (v := .agg #[.string name, .slice (some ⟨w.heap.size + 1 + 1 + 1, 0, none⟩) types.length types.length]) ?res rfl ⟨_, _, rfl, fin.1, fin.2, fun a ha => by simp only [World.frozen?_setCell]; exact HN1.out a ha⟩
  case res =>
    have hr0 : ∀ o1 o3 c, ((((w.alloc o1).alloc (.cells c 34)).alloc o3)).rowIs (w.heap.size + 1) 34 c.size (fun i => c[i]?.getD undef) := fun o1 o3 c => by
      have h := ((w.alloc o1).rowIs_alloc c 34 (fun i => c[i]?.getD undef) (fun i hi => by simp [hi])).alloc o3
      simpa using h
    have hr1 := (hr0 _ _ _).of_block (hb1.block (w.heap.size + 1) (by simp))
    have p0 := hr1.cell (i := 0) (by simp)
    have p1 := hr1.cell (i := 1) (by simp)
    clear fin hst1 hs c1 f1 hb1 hr0 hr1
    simp [results, Tryz.results9, go_sem, p0, p1]
end Go.Proofs.YtgcfgadkclfonaaGreatDoor

namespace Go.Proofs.YtgcfgadkclfonaaGreatDoor
set_option linter.unusedSimpArgs false
set_option linter.unusedVariables false
open Go.RowKit

theorem FRep.pieces {w : World} {P : Nat → Prop} {f : F} {c0 c1 c2 c3 c4 c5 c6 c7 : Value} (h : FRep w P f (.agg #[c0, c1, c2, c3, c4, c5, c6, c7])) :
    c0 = .string f.name ∧ c1 = .string f.of ∧ c2 = .bool f.list ∧ c3 = .bool f.must ∧ c4 = .bool f.far ∧ c5 = .bool f.hidden ∧ c6 = .bool f.shared ∧ ∃ na nc, c7 = .slice na f.needs.length nc ∧ Strs w P f.needs na ∧ f.needs.length ≤ nc ∧ f.name.size ≤ maxLen ∧ f.of.size ≤ maxLen := by
  obtain ⟨na, nc, hv, h2, h3, h4, h5, -⟩ := h
  simp only [Value.agg.injEq, Array.mk.injEq, List.cons.injEq, and_true] at hv
  obtain ⟨e0, e1, e2, e3, e4, e5, e6, e7⟩ := hv
  exact ⟨e0, e1, e2, e3, e4, e5, e6, na, nc, e7, h2, h3, h4, h5⟩
theorem TRep.pieces {w : World} {P : Nat → Prop} {t : T} {c0 c1 c2 : Value} (h : TRep w P t (.agg #[c0, c1, c2])) :
    ∃ (fa : Option Addr) (fc : Nat), c0 = .string t.name ∧ c1 = .string t.key ∧ c2 = .slice fa t.fields.length fc ∧ FsRep w P t.fields fa ∧ t.fields.length ≤ fc ∧ t.name.size ≤ maxLen ∧ t.key.size ≤ maxLen := by
  obtain ⟨fa, fc, hv, h2, h3, h4, h5⟩ := h
  simp only [Value.agg.injEq, Array.mk.injEq, List.cons.injEq, and_true] at hv
  exact ⟨fa, fc, hv.1, hv.2.1, hv.2.2, h2, h3, h4, h5⟩
theorem boxNew {w : World} (cs : Array Value) (T : TypeId) (i : Nat) (hi : i < cs.size) : (w.alloc (.cells cs T)).cell? ⟨w.heap.size, i, none⟩ = some cs[i] := by
  rw [cell_of_row (w.alloc (.cells cs T)) w.heap.size i cs T (0, 0) (heap_alloc_new w _)]
  simp [hi]
theorem boxAt {W : World} {b : Nat} {cs : Array Value} {T : TypeId} (h : W.heap[b]? = some (.cells cs T (0, 0))) (i : Nat) (hi : i < cs.size) : W.cell? ⟨b, i, none⟩ = some cs[i] ∧ W.frozen? ⟨b, i, none⟩ = false := by
  refine ⟨?_, frozen_of_row W b i cs T h⟩
  rw [cell_of_row W b i cs T (0, 0) h]
  simp [hi]

/-- How many marks a part takes. -/
def mP (p : Pt) : Nat := mTs p.types p.types.length
theorem mP_small (p : Pt) (hz : szP p ≤ 1048576) : mP p ≤ 10485760 := by
  have h1 := mTs_sz p.types p.types.length
  have h3 : szP p = p.name.size + (p.types.length + szTsTo p.types p.types.length) := rfl
  unfold mP
  omega
theorem markPart_from (p : Pt) (nm : Value) (c k lo hi : Nat) (a : Option Addr) (w : World) (hw : WTs w lo hi p.types a) (hz : szP p ≤ 1048576) (hk : k ≤ 500000000000) :
    Calls Tryz.prog 15 #[.agg #[nm, .slice a p.types.length c], .int .i64 k] w fun e w' => e = .returned (.int .i64 ((k + mP p : Nat) : Int)) ∧ Marked lo hi w w' := by
  obtain ⟨name, types⟩ := p
  have hs : szTs types ≤ 1048576 := by have : szP ⟨name, types⟩ = name.size + szTs types := rfl; omega
  have hM := fun o => markTypeS_any types c k lo hi a (w.alloc o) (hw.keep (Marked.of_below lo hi (below_box w o))) (by have : szTs types = types.length + szTsTo types types.length := rfl; omega)
    (fun i => by have := fields_small types hs i; have h3 : szFs (tth types i).fields = (tth types i).fields.length + szFsTo (tth types i).fields (tth types i).fields.length := rfl; omega)
    (fun i j => needs_small _ (fields_small types hs i) j)
    (fun i hi => by have h1 := mTs_sz types i; have h2 := szTsTo_mono types i _ hi; have h3 : szTs types = types.length + szTsTo types types.length := rfl; omega)
  go_enter Tryz.func15, Tryz.ntmps15
  go_wp2_with (
    go_at_call 39
    refine (hM _).mono ?_
    rintro e w1 ⟨rfl, hm1⟩)
  go_ret
  exact ⟨rfl, (Marked.of_below lo hi (below_box w _)).trans hm1⟩

/-- A change within blocks of which S holds that keeps of every cell its kind. -/
structure KeptS (S : Nat → Prop) (w w' : World) : Prop where
  m : Marked 0 w.heap.size w w'
  block : ∀ b, b < w.heap.size → ¬ S b → w'.heap[b]? = w.heap[b]?
theorem Marked.all {lo hi : Nat} {w w' : World} (h : Marked lo hi w w') : Marked 0 w.heap.size w w' :=
  ⟨h.os, h.tape, h.output, h.size, fun b hb hn => absurd ⟨Nat.zero_le b, hb⟩ hn, h.text, h.flag, h.list, h.frozen⟩
theorem KeptS.refl (S : Nat → Prop) (w : World) : KeptS S w w := ⟨Marked.refl _ _ _, fun _ _ _ => rfl⟩
theorem KeptS.trans {S : Nat → Prop} {a b c : World} (h : KeptS S a b) (k : KeptS S b c) : KeptS S a c :=
  ⟨⟨k.m.os.trans h.m.os, k.m.tape.trans h.m.tape, k.m.output.trans h.m.output, Nat.le_trans h.m.size k.m.size, fun b hb hn => absurd ⟨Nat.zero_le b, hb⟩ hn,
    fun a s e => by obtain ⟨s', e'⟩ := h.m.text a s e; exact k.m.text a s' e', fun a s e => by obtain ⟨s', e'⟩ := h.m.flag a s e; exact k.m.flag a s' e',
    fun a x n c e => k.m.list a x n c (h.m.list a x n c e), fun a ha => (k.m.frozen a (Nat.lt_of_lt_of_le ha h.m.size)).trans (h.m.frozen a ha)⟩,
   fun i hi hn => (k.block i (Nat.lt_of_lt_of_le hi h.m.size) hn).trans (h.block i hi hn)⟩
theorem KeptS.of_below {S : Nat → Prop} {w w' : World} (h : Below w.heap.size w w') : KeptS S w w' := ⟨(Marked.of_below 0 0 h).all, fun b hb _ => h.block b hb⟩
theorem KeptS.of_marked {S : Nat → Prop} {lo hi : Nat} {w w' : World} (h : Marked lo hi w w') (hS : ∀ b, lo ≤ b → b < hi → S b) : KeptS S w w' := ⟨h.all, fun b hb hn => h.block b hb fun e => hn (hS b e.1 e.2)⟩
theorem KeptS.below {S : Nat → Prop} {w w' : World} {B : Nat} (h : KeptS S w w') (hB : B ≤ w.heap.size) (hS : ∀ b, S b → B ≤ b) : Below B w w' :=
  ⟨h.m.os, h.m.tape, h.m.output, h.m.size, fun b hb => h.block b (by omega) fun e => by have := hS b e; omega⟩
theorem KeptS.cell {S : Nat → Prop} {w w' : World} {p : Addr} {v : Value} (h : KeptS S w w') (hc : w.cell? p = some v) (hS : ¬ S p.block) : w'.cell? p = some v :=
  (World.cell?_of_block (h.block _ (cell_block hc) hS)).trans hc

theorem eqStringS_b (ns : List ByteArray) (a a' : Option Addr) (c c' : Nat) (w : World) (P P' : Nat → Prop) (hS : Strs w P ns a) (hS' : Strs w P' ns a') :
    Calls Tryz.prog 23 #[.slice a ns.length c, .slice a' ns.length c'] w fun e w' => e = .returned (.bool true) ∧ Below w.heap.size w w' := by
  refine (eqStringS_any ns a a' c c' w P P' hS hS').mono ?_
  rintro e w' ⟨rfl, n, rfl⟩
  exact ⟨rfl, below_drews (Below.refl _ _) n⟩

theorem WStrs.of_rep {w : World} {lo hi : Nat} {ns : List ByteArray} {a : Option Addr} (h : Strs w (fun b => lo ≤ b ∧ b < hi) ns a) (nf : NF lo w) : WStrs w lo hi ns.length a := fun hn => by
  obtain ⟨b, off, e, hb, hc⟩ := h.1 (by intro e; simp [e] at hn)
  exact ⟨b, off, e, hb.1, hb.2, fun i hi => ⟨⟨_, hc i hi⟩, nf _ hb.1⟩⟩
theorem WFs.of_rep {w : World} {lo hi : Nat} {fs : List F} {a : Option Addr} (h : FsRep w (fun b => lo ≤ b ∧ b < hi) fs a) (nf : NF lo w) : WFs w lo hi fs a := fun hn => by
  obtain ⟨-, C, hA, hr⟩ := h
  obtain ⟨b, off, e, hb, hc⟩ := hA hn
  refine ⟨b, off, e, hb.1, hb.2, fun i hi => ?_⟩
  obtain ⟨e0, e1, e2, e3, e4, e5, e6, na, nc, e7, hS, -⟩ := (hr i hi).pieces
  have c : ∀ j, j < 8 → w.cell? ⟨b, off + i * 8 + j, none⟩ = some (C i j) := fun j hj => hc i hi j hj
  have c0 : w.cell? ⟨b, off + i * 8, none⟩ = some (C i 0) := c 0 (by omega)
  exact ⟨⟨⟨_, c0.trans (congrArg some e0)⟩, nf _ hb.1⟩, ⟨⟨_, (c 1 (by omega)).trans (congrArg some e1)⟩, nf _ hb.1⟩, ⟨⟨_, (c 2 (by omega)).trans (congrArg some e2)⟩, nf _ hb.1⟩, ⟨⟨_, (c 3 (by omega)).trans (congrArg some e3)⟩, nf _ hb.1⟩, ⟨⟨_, (c 4 (by omega)).trans (congrArg some e4)⟩, nf _ hb.1⟩, ⟨⟨_, (c 5 (by omega)).trans (congrArg some e5)⟩, nf _ hb.1⟩, ⟨⟨_, (c 6 (by omega)).trans (congrArg some e6)⟩, nf _ hb.1⟩, na, nc, (c 7 (by omega)).trans (congrArg some e7), WStrs.of_rep hS nf⟩
theorem WTs.of_rep {w : World} {lo hi : Nat} {ts : List T} {a : Option Addr} (h : TsRep w (fun b => lo ≤ b ∧ b < hi) ts a) (nf : NF lo w) : WTs w lo hi ts a := fun hn => by
  obtain ⟨-, C, hA, hr⟩ := h
  obtain ⟨b, off, e, hb, hc⟩ := hA hn
  refine ⟨b, off, e, hb.1, hb.2, fun i hi => ?_⟩
  obtain ⟨fa, fc, e0, e1, e2, hF, -⟩ := (hr i hi).pieces
  have c : ∀ j, j < 3 → w.cell? ⟨b, off + i * 3 + j, none⟩ = some (C i j) := fun j hj => hc i hi j hj
  have c0 : w.cell? ⟨b, off + i * 3, none⟩ = some (C i 0) := c 0 (by omega)
  exact ⟨⟨⟨_, c0.trans (congrArg some e0)⟩, nf _ hb.1⟩, ⟨⟨_, (c 1 (by omega)).trans (congrArg some e1)⟩, nf _ hb.1⟩, fa, fc, (c 2 (by omega)).trans (congrArg some e2), WFs.of_rep hF nf⟩

/-- A text at each place of a list, as marked. -/
def HeldT (w : World) (n k : Nat) (a : Option Addr) : Prop := 0 < n → ∃ b off, a = some ⟨b, off, none⟩ ∧ ∀ i, i < n → w.cell? ⟨b, off + i, none⟩ = some (.string (mtext (k + i)))
theorem HeldT.keep {w w' : World} {n k : Nat} {a : Option Addr} (h : HeldT w n k a) (hb : Below w.heap.size w w') : HeldT w' n k a := fun h0 => by
  obtain ⟨b, off, e, hc⟩ := h h0
  exact ⟨b, off, e, fun i hi => (hb.cell (cell_block (hc i hi))).trans (hc i hi)⟩
end Go.Proofs.YtgcfgadkclfonaaGreatDoor
