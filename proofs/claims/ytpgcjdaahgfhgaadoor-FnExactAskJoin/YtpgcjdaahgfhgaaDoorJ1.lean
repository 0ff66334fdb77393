import Derived.Test.YtpgcjdaahgfhgaaDoorCopyS
import Derived.Laws.IdiomStrings
import Derived.Test.YtpgcjdaahgfhgaaDoorQBase
namespace Go.Proofs.YtpgcjdaahgfhgaaDoor
set_option linter.unusedSimpArgs false
set_option linter.unusedVariables false
open Go.RowKit

/-- The figures of a number ahead of others. -/
def digs : Nat → Nat → List UInt8 → List UInt8
  | 0, _, acc => acc
  | f + 1, k, acc => if k = 0 then acc else digs f (k / 10) (UInt8.ofNat (48 + k % 10) :: acc)
/-- The text of a mark. -/
def mtext (k : Nat) : ByteArray := ⟨(109 :: (if k = 0 then [48] else digs 64 k [])).toArray⟩
theorem digs_zero (f : Nat) (acc : List UInt8) : digs f 0 acc = acc := by cases f <;> simp [digs]
theorem digs_len : ∀ (f k : Nat) (acc : List UInt8), (digs f k acc).length ≤ f + acc.length
  | 0, _, acc => by simp [digs]
  | f + 1, k, acc => by
    rw [digs]
    split
    · omega
    · have := digs_len f (k / 10) (UInt8.ofNat (48 + k % 10) :: acc)
      simp only [List.length_cons] at this
      omega

set_option maxRecDepth 20000 in
set_option maxHeartbeats 800000 in
theorem markText_any (k : Nat) (w : World) (hk : k ≤ 1152921504606846976) :
    Calls Tryd.prog 20 #[.int .i64 k] w fun e w' => e = .returned (.string (mtext k)) ∧ Below w.heap.size w w' := by
  by_cases h0 : k = 0
  · subst h0
    go_enter Tryd.func20, Tryd.ntmps20
    go_wp2_with fail
    go_ret
    exact ⟨by rw [mtext]; rfl, Below.refl _ _⟩
  have h1 : ¬ (k : Int) ≤ 0 := by omega
  have h2 : ¬ k ≤ 0 := by omega
  have HM : Hid (mtext k = ⟨(109 :: digs 64 k []).toArray⟩) := by show _ = _; rw [mtext, if_neg h0]
  go_enter Tryd.func20, Tryd.ntmps20
  go_wp2_with fail
  go_loopw [0, 3] (fun kk o wr => ∃ (n f : Nat) (x : ByteArray), kk = .int .i64 n ∧ o = .string x ∧ Hid (n < 10 ^ f ∧ n ≤ k ∧ x.size + f ≤ 64 ∧ digs 64 k [] = digs f n x.data.toList) ∧ Below w.heap.size w wr) (fun kk _ _ => (intOf kk).toNat)
  case atStart => exact ⟨k, 64, ByteArray.empty, rfl, rfl, ⟨by omega, Nat.le_refl _, by decide, rfl⟩, Below.refl _ _⟩
  case round =>
    obtain ⟨n, f, x, rfl, rfl, HH, hb⟩ := hrel
    obtain ⟨w0, rfl⟩ : ∃ x, x = wr := ⟨wr, rfl⟩
    have hxs : x.size + 1 ≤ 9223372036854775807 := by have := HH.out.2.2.1; omega
    have hxs2 : 1 + x.size ≤ 9223372036854775807 := by omega
    by_cases hn0 : n = 0
    · subst hn0
      have hfin : Hid (mtext k = ⟨#[109]⟩ ++ x) := by
        show _ = _
        rw [HM.out, HH.out.2.2.2, digs_zero]
        apply ByteArray.ext
        apply Array.toList_inj.1
        rw [ByteArray.data_append]
        simp
      go_wp2_with fail
      go_ret
      exact ⟨by rw [hfin.out]; rfl, hb⟩
    · have g0 : (0 : Int) < (n : Int) := by omega
      have hni : (n : Int) ≤ 1152921504606846976 := by have := HH.out.2.1; omega
      have hcv : Sem.run Tryd.prog (convert 55 9 (.slice (some ⟨w0.heap.size, 0, none⟩) 1 1)) (w0.alloc (.cells #[.int .u8 (48 + (n : Int) % 10)] 5)) = .ok (.string ⟨#[UInt8.ofNat (48 + n % 10)]⟩) (w0.alloc (.cells #[.int .u8 (48 + (n : Int) % 10)] 5)) :=
        run_convert_bytes_back (P := Tryd.prog) _ 55 9 5 ⟨w0.heap.size, 0, none⟩ 1 [UInt8.ofNat (48 + n % 10)] Tryd.underlying55 Tryd.underlying5 Tryd.underlying9 (fun j hj => by
          have hj0 : j = 0 := by simpa using hj
          subst hj0
          have hd : (UInt8.ofNat (48 + n % 10)).toNat = 48 + n % 10 := by rw [UInt8.toNat_ofNat']; omega
          simp only [List.getElem_cons_zero, hd]
          simp [Addr.add])
      generalize hdd : UInt8.ofNat (48 + n % 10) = d at hcv
      have hsd : (⟨#[d]⟩ : ByteArray).size = 1 := rfl
      go_wp2_with fail
      obtain ⟨q1, q2, q3, q4⟩ := HH.out
      obtain ⟨f, rfl⟩ : ∃ g, f = g + 1 := ⟨f - 1, by
        rcases Nat.eq_zero_or_pos f with h | h
        · subst h; simp at q1; omega
        · omega⟩
      go_roundw
      case rel =>
        refine ⟨n / 10, f, ⟨#[d]⟩ ++ x, by simp, rfl, ⟨?_, ?_, ?_, ?_⟩, hb.alloc hb.size _⟩
        · rw [Nat.pow_succ] at q1; omega
        · omega
        · rw [ByteArray.size_append, hsd]; omega
        · rw [q4, digs, if_neg hn0, hdd, ByteArray.data_append]; simp
      case measure => simp [intOf]; omega
end Go.Proofs.YtpgcjdaahgfhgaaDoor

namespace Go.Proofs.YtpgcjdaahgfhgaaDoor
set_option linter.unusedSimpArgs false
set_option linter.unusedVariables false
open Go.RowKit

/-- A change within a range of blocks that keeps of every cell its kind: texts stay texts, bools stay bools, lists stay as they are. -/
structure Marked (lo hi : Nat) (w w' : World) : Prop where
  os : w'.os = w.os
  tape : w'.tape = w.tape
  output : w'.output = w.output
  size : w.heap.size ≤ w'.heap.size
  block : ∀ b, b < w.heap.size → ¬ (lo ≤ b ∧ b < hi) → w'.heap[b]? = w.heap[b]?
  text : ∀ a s, w.cell? a = some (.string s) → ∃ s', w'.cell? a = some (.string s')
  flag : ∀ a s, w.cell? a = some (.bool s) → ∃ s', w'.cell? a = some (.bool s')
  list : ∀ a x n c, w.cell? a = some (.slice x n c) → w'.cell? a = some (.slice x n c)
  frozen : ∀ a, a.block < w.heap.size → w'.frozen? a = w.frozen? a
theorem cell_block {w : World} {t : Addr} {old : Value} (h : w.cell? t = some old) : t.block < w.heap.size := by
  rcases Nat.lt_or_ge t.block w.heap.size with h1 | h1
  · exact h1
  · simp [World.cell?, Array.getElem?_eq_none h1] at h

theorem Marked.refl (lo hi : Nat) (w : World) : Marked lo hi w w :=
  ⟨rfl, rfl, rfl, Nat.le_refl _, fun _ _ _ => rfl, fun _ s h => ⟨s, h⟩, fun _ s h => ⟨s, h⟩, fun _ _ _ _ h => h, fun _ _ => rfl⟩
theorem Marked.trans {lo hi : Nat} {a b c : World} (h : Marked lo hi a b) (k : Marked lo hi b c) : Marked lo hi a c :=
  ⟨k.os.trans h.os, k.tape.trans h.tape, k.output.trans h.output, Nat.le_trans h.size k.size,
    fun i hi hn => (k.block i (Nat.lt_of_lt_of_le hi h.size) hn).trans (h.block i hi hn),
    fun a s e => by obtain ⟨s', e'⟩ := h.text a s e; exact k.text a s' e',
    fun a s e => by obtain ⟨s', e'⟩ := h.flag a s e; exact k.flag a s' e',
    fun a x n c e => k.list a x n c (h.list a x n c e), fun a ha => (k.frozen a (Nat.lt_of_lt_of_le ha h.size)).trans (h.frozen a ha)⟩
theorem Marked.of_below {w w' : World} (lo hi : Nat) (h : Below w.heap.size w w') : Marked lo hi w w' :=
  ⟨h.os, h.tape, h.output, h.size, fun b hb _ => h.block b hb, fun a s e => ⟨s, (h.cell (cell_block e)).trans e⟩, fun a s e => ⟨s, (h.cell (cell_block e)).trans e⟩,
    fun a x n c e => (h.cell (cell_block e)).trans e, fun a ha => h.frozen ha⟩
theorem Marked.set_text {w : World} {lo hi : Nat} {p : Addr} {s : ByteArray} (h : w.cell? p = some (.string s)) (h1 : lo ≤ p.block) (h2 : p.block < hi) (t : ByteArray) : Marked lo hi w (w.setCell p (.string t)) := by
  refine ⟨rfl, rfl, rfl, by rw [size_set]; exact Nat.le_refl _, fun b hb hn => Below.heap_setCell _ _ _ _ (by intro e; exact hn (by rw [e]; exact ⟨h1, h2⟩)), fun a u e => ?_, fun a u e => ?_, fun a x n c e => ?_, fun a ha => by simp⟩
  · by_cases hp : p = a
    · subst hp; exact ⟨t, World.cell?_setCell_same _ _ _ h⟩
    · exact ⟨u, (World.cell?_setCell_other _ _ _ _ hp).trans e⟩
  · have hp : p ≠ a := by intro hp; rw [hp, e] at h; cases h
    exact ⟨u, (World.cell?_setCell_other _ _ _ _ hp).trans e⟩
  · have hp : p ≠ a := by intro hp; rw [hp, e] at h; cases h
    exact (World.cell?_setCell_other _ _ _ _ hp).trans e
theorem Marked.set_flag {w : World} {lo hi : Nat} {p : Addr} {s : Bool} (h : w.cell? p = some (.bool s)) (h1 : lo ≤ p.block) (h2 : p.block < hi) (t : Bool) : Marked lo hi w (w.setCell p (.bool t)) := by
  refine ⟨rfl, rfl, rfl, by rw [size_set]; exact Nat.le_refl _, fun b hb hn => Below.heap_setCell _ _ _ _ (by intro e; exact hn (by rw [e]; exact ⟨h1, h2⟩)), fun a u e => ?_, fun a u e => ?_, fun a x n c e => ?_, fun a ha => by simp⟩
  · have hp : p ≠ a := by intro hp; rw [hp, e] at h; cases h
    exact ⟨u, (World.cell?_setCell_other _ _ _ _ hp).trans e⟩
  · by_cases hp : p = a
    · subst hp; exact ⟨t, World.cell?_setCell_same _ _ _ h⟩
    · exact ⟨u, (World.cell?_setCell_other _ _ _ _ hp).trans e⟩
  · have hp : p ≠ a := by intro hp; rw [hp, e] at h; cases h
    exact (World.cell?_setCell_other _ _ _ _ hp).trans e
/-- A cell that holds a text and may be written. -/
def TextAt (w : World) (a : Addr) : Prop := (∃ s, w.cell? a = some (.string s)) ∧ w.frozen? a = false
def FlagAt (w : World) (a : Addr) : Prop := (∃ s, w.cell? a = some (.bool s)) ∧ w.frozen? a = false
theorem TextAt.keep {lo hi : Nat} {w w' : World} {a : Addr} (h : TextAt w a) (m : Marked lo hi w w') : TextAt w' a := by
  obtain ⟨⟨s, e⟩, f⟩ := h
  exact ⟨m.text a s e, (m.frozen a (cell_block e)).trans f⟩
theorem FlagAt.keep {lo hi : Nat} {w w' : World} {a : Addr} (h : FlagAt w a) (m : Marked lo hi w w') : FlagAt w' a := by
  obtain ⟨⟨s, e⟩, f⟩ := h
  exact ⟨m.flag a s e, (m.frozen a (cell_block e)).trans f⟩
/-- A list of texts that may be written, within a range of blocks. -/
def WStrs (w : World) (lo hi n : Nat) (a : Option Addr) : Prop := 0 < n → ∃ b off, a = some ⟨b, off, none⟩ ∧ lo ≤ b ∧ b < hi ∧ ∀ i, i < n → TextAt w ⟨b, off + i, none⟩
theorem WStrs.keep {lo hi lo' hi' n : Nat} {w w' : World} {a : Option Addr} (h : WStrs w lo hi n a) (m : Marked lo' hi' w w') : WStrs w' lo hi n a := fun hn => by
  obtain ⟨b, off, e, h1, h2, hc⟩ := h hn
  exact ⟨b, off, e, h1, h2, fun i hi => (hc i hi).keep m⟩
/-- Cells that may be written: numbers. -/
def NumAt (w : World) (a : Addr) : Prop := (∃ s, w.cell? a = some (.int .i64 s)) ∧ w.frozen? a = false
/-- A change as by marks that keeps numbers numbers, too. -/
structure MarkedN (lo hi : Nat) (w w' : World) : Prop where
  m : Marked lo hi w w'
  num : ∀ a s, w.cell? a = some (.int .i64 s) → ∃ s', w'.cell? a = some (.int .i64 s')
theorem MarkedN.refl (lo hi : Nat) (w : World) : MarkedN lo hi w w := ⟨Marked.refl _ _ _, fun _ s h => ⟨s, h⟩⟩
theorem MarkedN.trans {lo hi : Nat} {a b c : World} (h : MarkedN lo hi a b) (k : MarkedN lo hi b c) : MarkedN lo hi a c :=
  ⟨h.m.trans k.m, fun a s e => by obtain ⟨s', e'⟩ := h.num a s e; exact k.num a s' e'⟩
theorem MarkedN.of_below {w w' : World} (lo hi : Nat) (h : Below w.heap.size w w') : MarkedN lo hi w w' := ⟨Marked.of_below lo hi h, fun a s e => ⟨s, (h.cell (cell_block e)).trans e⟩⟩
theorem MarkedN.set_text {w : World} {lo hi : Nat} {p : Addr} {s : ByteArray} (h : w.cell? p = some (.string s)) (h1 : lo ≤ p.block) (h2 : p.block < hi) (t : ByteArray) : MarkedN lo hi w (w.setCell p (.string t)) := by
  refine ⟨Marked.set_text h h1 h2 t, fun a u e => ?_⟩
  have hp : p ≠ a := by intro hp; rw [hp, e] at h; cases h
  exact ⟨u, (World.cell?_setCell_other _ _ _ _ hp).trans e⟩
theorem MarkedN.set_num {w : World} {lo hi : Nat} {p : Addr} {s : Int} (h : w.cell? p = some (.int .i64 s)) (h1 : lo ≤ p.block) (h2 : p.block < hi) (t : Int) : MarkedN lo hi w (w.setCell p (.int .i64 t)) := by
  refine ⟨⟨rfl, rfl, rfl, by rw [size_set]; exact Nat.le_refl _, fun b hb hn => Below.heap_setCell _ _ _ _ (by intro e; exact hn (by rw [e]; exact ⟨h1, h2⟩)), fun a u e => ?_, fun a u e => ?_, fun a x n c e => ?_, fun a ha => by simp⟩, fun a u e => ?_⟩
  · have hp : p ≠ a := by intro hp; rw [hp, e] at h; cases h
    exact ⟨u, (World.cell?_setCell_other _ _ _ _ hp).trans e⟩
  · have hp : p ≠ a := by intro hp; rw [hp, e] at h; cases h
    exact ⟨u, (World.cell?_setCell_other _ _ _ _ hp).trans e⟩
  · have hp : p ≠ a := by intro hp; rw [hp, e] at h; cases h
    exact (World.cell?_setCell_other _ _ _ _ hp).trans e
  · by_cases hp : p = a
    · subst hp; exact ⟨t, World.cell?_setCell_same _ _ _ h⟩
    · exact ⟨u, (World.cell?_setCell_other _ _ _ _ hp).trans e⟩
theorem NumAt.keep {lo hi : Nat} {w w' : World} {a : Addr} (h : NumAt w a) (m : MarkedN lo hi w w') : NumAt w' a := by
  obtain ⟨⟨s, e⟩, f⟩ := h
  exact ⟨m.num a s e, (m.m.frozen a (cell_block e)).trans f⟩
/-- A list of numbers that may be written, within a range of blocks. -/
def WInts (w : World) (lo hi n : Nat) (a : Option Addr) : Prop := 0 < n → ∃ b off, a = some ⟨b, off, none⟩ ∧ lo ≤ b ∧ b < hi ∧ ∀ i, i < n → NumAt w ⟨b, off + i, none⟩
theorem WInts.keep {lo hi lo' hi' n : Nat} {w w' : World} {a : Option Addr} (h : WInts w lo hi n a) (m : MarkedN lo' hi' w w') : WInts w' lo hi n a := fun hn => by
  obtain ⟨b, off, e, h1, h2, hc⟩ := h hn
  exact ⟨b, off, e, h1, h2, fun i hi => (hc i hi).keep m⟩
theorem WInts.of_rep {w : World} {lo hi : Nat} {ns : List Int} {a : Option Addr} (h : Ints w (fun b => lo ≤ b ∧ b < hi) ns a) (nf : NF lo w) : WInts w lo hi ns.length a := fun hn => by
  obtain ⟨b, off, e, hb, hc⟩ := h.2 hn
  exact ⟨b, off, e, hb.1, hb.2, fun i hi => ⟨⟨_, hc i hi⟩, nf _ hb.1⟩⟩
theorem WInts.block {lo hi n : Nat} {w w' : World} {a : Option Addr} (h : WInts w lo hi n a) (e : ∀ b, lo ≤ b → b < hi → w'.heap[b]? = w.heap[b]?) : WInts w' lo hi n a := fun hn => by
  obtain ⟨b, off, ea, h1, h2, hc⟩ := h hn
  refine ⟨b, off, ea, h1, h2, fun i hi => ?_⟩
  obtain ⟨⟨s, hs⟩, hf⟩ := hc i hi
  exact ⟨⟨s, (World.cell?_of_block (w := w) (a := ⟨b, off + i, none⟩) (e b h1 h2)).trans hs⟩, by rw [← hf]; simp only [World.frozen?, e b h1 h2]⟩
/-- A number at each place of a list, as marked. -/
def HeldN (w : World) (n k : Nat) (a : Option Addr) : Prop := 0 < n → ∃ b off, a = some ⟨b, off, none⟩ ∧ ∀ i, i < n → w.cell? ⟨b, off + i, none⟩ = some (.int .i64 ((k + i : Nat) : Int))
theorem HeldN.keep {w w' : World} {n k : Nat} {a : Option Addr} (h : HeldN w n k a) (hb : Below w.heap.size w w') : HeldN w' n k a := fun h0 => by
  obtain ⟨b, off, e, hc⟩ := h h0
  exact ⟨b, off, e, fun i hi => (hb.cell (cell_block (hc i hi))).trans (hc i hi)⟩
theorem MarkedN.set_flag {w : World} {lo hi : Nat} {p : Addr} {s : Bool} (h : w.cell? p = some (.bool s)) (h1 : lo ≤ p.block) (h2 : p.block < hi) (t : Bool) : MarkedN lo hi w (w.setCell p (.bool t)) := by
  refine ⟨Marked.set_flag h h1 h2 t, fun a u e => ?_⟩
  have hp : p ≠ a := by intro hp; rw [hp, e] at h; cases h
  exact ⟨u, (World.cell?_setCell_other _ _ _ _ hp).trans e⟩
theorem WStrs.of_rep {w : World} {lo hi : Nat} {ns : List ByteArray} {a : Option Addr} (h : Strs w (fun b => lo ≤ b ∧ b < hi) ns a) (nf : NF lo w) : WStrs w lo hi ns.length a := fun hn => by
  obtain ⟨b, off, e, hb, hc⟩ := h.1 (by intro e; simp [e] at hn)
  exact ⟨b, off, e, hb.1, hb.2, fun i hi => ⟨⟨_, hc i hi⟩, nf _ hb.1⟩⟩

end Go.Proofs.YtpgcjdaahgfhgaaDoor
