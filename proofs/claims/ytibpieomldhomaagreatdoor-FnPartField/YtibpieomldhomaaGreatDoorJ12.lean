import Derived.Test.YtibpieomldhomaaGreatDoorPCheck
import Derived.Test.YtibpieomldhomaaGreatDoorPRep
import Derived.Deep.QuietTactic
import Derived.BigQuiet
import Derived.Test.YtibpieomldhomaaGreatDoorCopyS
import Derived.Laws.IdiomStrings
import Derived.Deep.RegionHeld3
import Derived.RowKit3
import Derived.Test.YtibpieomldhomaaGreatDoorPCopy
import Derived.Deep.AppendLies
import Derived.Laws.AppendOwnNone
import Derived.Test.YtibpieomldhomaaGreatDoorIWrite
import Derived.Test.YtibpieomldhomaaGreatDoorJ1
namespace Go.Proofs.YtibpieomldhomaaGreatDoor
set_option linter.unusedSimpArgs false
set_option linter.unusedVariables false
open Go.RowKit Go.Maps

theorem badAt_le (p : Pt) : ∀ n k i, k ≤ i → i < k + n → typeCode p i ≠ 0 → badAt p k n ≤ i
  | 0, k, i, h1, h2, h3 => by omega
  | n + 1, k, i, h1, h2, h3 => by
    rw [badAt]
    by_cases e : typeCode p k = 0
    · rw [if_pos e]
      have : k ≠ i := fun h => h3 (h ▸ e)
      exact badAt_le p n (k + 1) i (by omega) (by omega) h3
    · rw [if_neg e]; exact h1
theorem okP_all {p : Pt} (h : okP p = true) {i : Nat} (hi : i < p.types.length) : typeCode p i = 0 := by
  by_cases e : typeCode p i = 0
  · exact e
  · have := badAt_le p p.types.length 0 i (Nat.zero_le _) (by omega) e
    have h4 : ¬ badT p < p.types.length := fun hc => by simp [okP, hc] at h
    unfold badT at h4
    omega
theorem okP_zero {p : Pt} (h : okP p = true) : 0 < p.types.length ∧ p.types.length ≤ 5 := by
  simp [okP, hasRootB] at h
  omega
theorem code_names {p : Pt} {i : Nat} (h : typeCode p i = 0) : 0 < (tth p.types i).fields.length ∧ (tth p.types i).fields.length ≤ 8 ∧ twiceB p.types i (tth p.types i) = false := by
  unfold typeCode at h
  by_cases a : typeNamesB (tth p.types i) = false
  · rw [if_pos a] at h; omega
  rw [if_neg a] at h
  by_cases b : twiceB p.types i (tth p.types i) = true
  · rw [if_pos b] at h; omega
  simp [typeNamesB] at a
  exact ⟨by omega, by omega, by simpa using b⟩
theorem firstTo_some {q : Nat → Bool} {n k : Nat} (hk : k < n) (hq : q k = true) : 0 ≤ firstTo q n := by
  rcases firstTo_cases q n with ⟨h, ha⟩ | ⟨j, h, hj, hqj, ha⟩
  · rw [ha k hk] at hq; cases hq
  · omega
theorem tth_app (a : List T) (t : T) : tth (a ++ [t]) a.length = t := by simp [tth, List.getD_eq_getElem?_getD]
theorem tth_app_lt (a : List T) (t : T) {i : Nat} (h : i < a.length) : tth (a ++ [t]) i = tth a i := by simp [tth, List.getD_eq_getElem?_getD, List.getElem?_append_left h]
theorem fth_app (a : List F) (t : F) : fth (a ++ [t]) a.length = t := by simp [fth, List.getD_eq_getElem?_getD]
theorem fth_app_lt (a : List F) (t : F) {i : Nat} (h : i < a.length) : fth (a ++ [t]) i = fth a i := by simp [fth, List.getD_eq_getElem?_getD, List.getElem?_append_left h]
/-- A type once more. -/
theorem twiceT_bad (p : Pt) (k : Nat) (hk : k < p.types.length) : (partFault ⟨p.name, p.types ++ [tth p.types k]⟩).2 ≠ 0 := fun h => by
  have hok := (partFault_ok _).1 h
  have h2 := (code_names (okP_all hok (i := p.types.length) (by simp))).2.2
  simp only [tth_app, twiceB, Bool.or_eq_false_iff] at h2
  have := firstTo_some (q := fun i => (tth (p.types ++ [tth p.types k]) i).name.toList == (tth p.types k).name.toList) hk (by simp [tth_app_lt _ _ hk])
  simp at h2
  omega
/-- A field once more. -/
theorem twiceF_bad (p : Pt) (k : Nat) (hk : k < p.types.length) (h0 : 0 < (tth p.types k).fields.length) : (partFault ⟨p.name, p.types.set k ⟨(tth p.types k).name, (tth p.types k).key, (tth p.types k).fields ++ [fth (tth p.types k).fields 0]⟩⟩).2 ≠ 0 := fun h => by
  have hok := (partFault_ok _).1 h
  have h2 := (code_names (okP_all hok (i := k) (by simpa using hk))).2.2
  have ht : tth (p.types.set k ⟨(tth p.types k).name, (tth p.types k).key, (tth p.types k).fields ++ [fth (tth p.types k).fields 0]⟩) k = ⟨(tth p.types k).name, (tth p.types k).key, (tth p.types k).fields ++ [fth (tth p.types k).fields 0]⟩ := by
    simp [tth, List.getD_eq_getElem?_getD, hk]
  simp only [ht, twiceB, Bool.or_eq_false_iff, List.length_append, List.length_cons, List.length_nil, Nat.zero_add, onceFTo_succ] at h2
  have h3 := h2.2
  have hf := firstTo_some (q := fun j => (fth ((tth p.types k).fields ++ [fth (tth p.types k).fields 0]) j).name.toList == (fth ((tth p.types k).fields ++ [fth (tth p.types k).fields 0]) (tth p.types k).fields.length).name.toList) h0 (by simp [fth_app, fth_app_lt _ _ h0])
  have : onceF ⟨(tth p.types k).name, (tth p.types k).key, (tth p.types k).fields ++ [fth (tth p.types k).fields 0]⟩ (tth p.types k).fields.length = false := by
    simp only [onceF, hf, decide_true, Bool.not_true]
  rw [this] at h3
  simp at h3
end Go.Proofs.YtibpieomldhomaaGreatDoor

namespace Go.Proofs.YtibpieomldhomaaGreatDoor
set_option linter.unusedSimpArgs false
set_option linter.unusedVariables false
open Go.RowKit

set_option maxHeartbeats 400000 in
theorem wpWords_any (ns : List ByteArray) (a a' : Option Addr) (c c' : Nat) (w : World) (P P' : Nat → Prop) (hS : Strs w P ns a) (hS' : Strs w P' ns a') :
    Calls Tryz.prog 22 #[.slice a ns.length c, .slice a' ns.length c'] w fun e w' => e = .returned (.bool true) ∧ ∃ n, w' = w.drewN n := by
  obtain ⟨h1, h2, h3⟩ := hS
  obtain ⟨g1, -, -⟩ := hS'
  unfold maxLen at h3
  by_cases hn0 : ns.length = 0
  · have hns : ns = [] := by simpa using hn0
    subst hns
    go_enter Tryz.func22, Tryz.ntmps22
    go_wp2
    go_loop [5] (fun i => i = .int .i64 0) (fun _ => 0)
    case atStart => rfl
    case round =>
      subst hrel
      go_wp2
      go_ret
      exact ⟨rfl, 0, rfl⟩
  · obtain ⟨b, off, rfl, _, hc⟩ := h1 (by intro e; simp [e] at hn0)
    obtain ⟨b', off', rfl, _, hc'⟩ := g1 (by intro e; simp [e] at hn0)
    clear h1 h2 g1
    go_enter Tryz.func22, Tryz.ntmps22
    go_wp2
    go_loopw [5] (fun i wr => ∃ k m : Nat, k ≤ ns.length ∧ i = .int .i64 k ∧ wr = w.drewN m) (fun i _ => ns.length - (intOf i).toNat)
    case atStart => exact ⟨0, 0, Nat.zero_le _, rfl, rfl⟩
    case round =>
      obtain ⟨k, m, hk, rfl, rfl⟩ := hrel
      by_cases hlt : k < ns.length
      · have hck := hc k hlt
        have hck' := hc' k hlt
        clear hc hc'
        go_wp2
        go_quiet (fail)
        go_wp2
        go_roundw
        case rel => exact ⟨k + 1, _, by omega, by go_num, rfl⟩
        case measure => simp [intOf]; omega
      · go_wp2
        go_ret
        exact ⟨rfl, m, rfl⟩
set_option maxHeartbeats 800000 in
theorem wpField_any (f : F) (w : World) (B : Nat) (v v' : Value) (hR : FRep w (· < B) f v) (hR' : FRep w (· < B) f v') (hB : B ≤ w.heap.size) :
    Calls Tryz.prog 7 #[v, v'] w fun e w' => e = .returned (.bool true) ∧ Below w.heap.size w w' := by
  obtain ⟨na, nc, rfl, hs, -⟩ := hR
  obtain ⟨na', nc', rfl, hs', -⟩ := hR'
  obtain ⟨name, of, l, m, fa, hi, sh, needs⟩ := f
  simp only at hs hs'
  go_enter Tryz.func7, Tryz.ntmps7
  go_wp2_with (
      go_at_call 22
      refine (wpWords_any needs na na' nc nc' _ (· < B) (· < B) (hs.under ((below_box2 w _ _).mono hB)) (hs'.under ((below_box2 w _ _).mono hB))).mono ?_
      rintro e w' ⟨rfl, m, rfl⟩)
  go_ret
  exact ⟨rfl, below_drews (below_box2 w _ _) _⟩

end Go.Proofs.YtibpieomldhomaaGreatDoor

namespace Go.Proofs.YtibpieomldhomaaGreatDoor
set_option linter.unusedSimpArgs false
set_option linter.unusedVariables false
open Go.RowKit

/-- The figures of a number ahead of others. -/
def digs : Nat → Nat → List UInt8 → List UInt8
  | 0, _, acc => acc
  | f + 1, k, acc => if k = 0 then acc else digs f (k / 10) (UInt8.ofNat (48 + k % 10) :: acc)
/-- The text of a mark. -/
def mtext (k : Nat) : ByteArray := ⟨(109 :: (if k = 0 then [48] else digs 64 k [])).toArray⟩
theorem digs_zero (f : Nat) (acc : List UInt8) : digs f 0 acc = acc := by cases f <;> simp [digs]
theorem digs_len : ∀ (f k : Nat) (acc : List UInt8), (digs f k acc).length ≤ f + acc.length
  | 0, _, acc => by simp [digs]
  | f + 1, k, acc => by
    rw [digs]
    split
    · omega
    · have := digs_len f (k / 10) (UInt8.ofNat (48 + k % 10) :: acc)
      simp only [List.length_cons] at this
      omega

end Go.Proofs.YtibpieomldhomaaGreatDoor

namespace Go.Proofs.YtibpieomldhomaaGreatDoor
set_option linter.unusedSimpArgs false
set_option linter.unusedVariables false
open Go.RowKit

/-- A change within a range of blocks that keeps of every cell its kind: texts stay texts, bools stay bools, lists stay as they are. -/
structure Marked (lo hi : Nat) (w w' : World) : Prop where
  os : w'.os = w.os
  tape : w'.tape = w.tape
  output : w'.output = w.output
  size : w.heap.size ≤ w'.heap.size
  block : ∀ b, b < w.heap.size → ¬ (lo ≤ b ∧ b < hi) → w'.heap[b]? = w.heap[b]?
  text : ∀ a s, w.cell? a = some (.string s) → ∃ s', w'.cell? a = some (.string s')
  flag : ∀ a s, w.cell? a = some (.bool s) → ∃ s', w'.cell? a = some (.bool s')
  list : ∀ a x n c, w.cell? a = some (.slice x n c) → w'.cell? a = some (.slice x n c)
  frozen : ∀ a, a.block < w.heap.size → w'.frozen? a = w.frozen? a

theorem cell_block {w : World} {t : Addr} {old : Value} (h : w.cell? t = some old) : t.block < w.heap.size := by
  rcases Nat.lt_or_ge t.block w.heap.size with h1 | h1
  · exact h1
  · simp [World.cell?, Array.getElem?_eq_none h1] at h

theorem Marked.refl (lo hi : Nat) (w : World) : Marked lo hi w w :=
  ⟨rfl, rfl, rfl, Nat.le_refl _, fun _ _ _ => rfl, fun _ s h => ⟨s, h⟩, fun _ s h => ⟨s, h⟩, fun _ _ _ _ h => h, fun _ _ => rfl⟩
theorem Marked.trans {lo hi : Nat} {a b c : World} (h : Marked lo hi a b) (k : Marked lo hi b c) : Marked lo hi a c :=
  ⟨k.os.trans h.os, k.tape.trans h.tape, k.output.trans h.output, Nat.le_trans h.size k.size,
    fun i hi hn => (k.block i (Nat.lt_of_lt_of_le hi h.size) hn).trans (h.block i hi hn),
    fun a s e => by obtain ⟨s', e'⟩ := h.text a s e; exact k.text a s' e',
    fun a s e => by obtain ⟨s', e'⟩ := h.flag a s e; exact k.flag a s' e',
    fun a x n c e => k.list a x n c (h.list a x n c e), fun a ha => (k.frozen a (Nat.lt_of_lt_of_le ha h.size)).trans (h.frozen a ha)⟩
theorem Marked.of_below {w w' : World} (lo hi : Nat) (h : Below w.heap.size w w') : Marked lo hi w w' :=
  ⟨h.os, h.tape, h.output, h.size, fun b hb _ => h.block b hb, fun a s e => ⟨s, (h.cell (cell_block e)).trans e⟩, fun a s e => ⟨s, (h.cell (cell_block e)).trans e⟩,
    fun a x n c e => (h.cell (cell_block e)).trans e, fun a ha => h.frozen ha⟩
theorem Marked.set_text {w : World} {lo hi : Nat} {p : Addr} {s : ByteArray} (h : w.cell? p = some (.string s)) (h1 : lo ≤ p.block) (h2 : p.block < hi) (t : ByteArray) : Marked lo hi w (w.setCell p (.string t)) := by
  refine ⟨rfl, rfl, rfl, by rw [size_set]; exact Nat.le_refl _, fun b hb hn => Below.heap_setCell _ _ _ _ (by intro e; exact hn (by rw [e]; exact ⟨h1, h2⟩)), fun a u e => ?_, fun a u e => ?_, fun a x n c e => ?_, fun a ha => by simp⟩
  · by_cases hp : p = a
    · subst hp; exact ⟨t, World.cell?_setCell_same _ _ _ h⟩
    · exact ⟨u, (World.cell?_setCell_other _ _ _ _ hp).trans e⟩
  · have hp : p ≠ a := by intro hp; rw [hp, e] at h; cases h
    exact ⟨u, (World.cell?_setCell_other _ _ _ _ hp).trans e⟩
  · have hp : p ≠ a := by intro hp; rw [hp, e] at h; cases h
    exact (World.cell?_setCell_other _ _ _ _ hp).trans e
theorem Marked.set_flag {w : World} {lo hi : Nat} {p : Addr} {s : Bool} (h : w.cell? p = some (.bool s)) (h1 : lo ≤ p.block) (h2 : p.block < hi) (t : Bool) : Marked lo hi w (w.setCell p (.bool t)) := by
  refine ⟨rfl, rfl, rfl, by rw [size_set]; exact Nat.le_refl _, fun b hb hn => Below.heap_setCell _ _ _ _ (by intro e; exact hn (by rw [e]; exact ⟨h1, h2⟩)), fun a u e => ?_, fun a u e => ?_, fun a x n c e => ?_, fun a ha => by simp⟩
  · have hp : p ≠ a := by intro hp; rw [hp, e] at h; cases h
    exact ⟨u, (World.cell?_setCell_other _ _ _ _ hp).trans e⟩
  · by_cases hp : p = a
    · subst hp; exact ⟨t, World.cell?_setCell_same _ _ _ h⟩
    · exact ⟨u, (World.cell?_setCell_other _ _ _ _ hp).trans e⟩
  · have hp : p ≠ a := by intro hp; rw [hp, e] at h; cases h
    exact (World.cell?_setCell_other _ _ _ _ hp).trans e

/-- A cell that holds a text and may be written. -/
def TextAt (w : World) (a : Addr) : Prop := (∃ s, w.cell? a = some (.string s)) ∧ w.frozen? a = false
def FlagAt (w : World) (a : Addr) : Prop := (∃ s, w.cell? a = some (.bool s)) ∧ w.frozen? a = false
theorem TextAt.keep {lo hi : Nat} {w w' : World} {a : Addr} (h : TextAt w a) (m : Marked lo hi w w') : TextAt w' a := by
  obtain ⟨⟨s, e⟩, f⟩ := h
  exact ⟨m.text a s e, (m.frozen a (cell_block e)).trans f⟩
theorem FlagAt.keep {lo hi : Nat} {w w' : World} {a : Addr} (h : FlagAt w a) (m : Marked lo hi w w') : FlagAt w' a := by
  obtain ⟨⟨s, e⟩, f⟩ := h
  exact ⟨m.flag a s e, (m.frozen a (cell_block e)).trans f⟩

/-- A list of texts that may be written, within a range of blocks. -/
def WStrs (w : World) (lo hi n : Nat) (a : Option Addr) : Prop := 0 < n → ∃ b off, a = some ⟨b, off, none⟩ ∧ lo ≤ b ∧ b < hi ∧ ∀ i, i < n → TextAt w ⟨b, off + i, none⟩
theorem WStrs.keep {lo hi lo' hi' n : Nat} {w w' : World} {a : Option Addr} (h : WStrs w lo hi n a) (m : Marked lo' hi' w w') : WStrs w' lo hi n a := fun hn => by
  obtain ⟨b, off, e, h1, h2, hc⟩ := h hn
  exact ⟨b, off, e, h1, h2, fun i hi => (hc i hi).keep m⟩

end Go.Proofs.YtibpieomldhomaaGreatDoor

namespace Go.Proofs.YtibpieomldhomaaGreatDoor
set_option linter.unusedSimpArgs false
set_option linter.unusedVariables false
open Go.RowKit

theorem Marked.set_flags {lo hi b : Nat} (h1 : lo ≤ b) (h2 : b < hi) : ∀ (ps : List (Nat × Bool)) {w W : World}, Marked lo hi w W → (∀ p ∈ ps, FlagAt W ⟨b, p.1, none⟩) → Marked lo hi w (ps.foldl (fun W p => W.setCell ⟨b, p.1, none⟩ (.bool p.2)) W)
  | [], w, W, m, _ => m
  | p :: ps, w, W, m, h => by
    obtain ⟨⟨v, hv⟩, hf⟩ := h p (List.mem_cons_self ..)
    have m1 := Marked.set_flag (lo := lo) (hi := hi) hv h1 h2 p.2
    exact Marked.set_flags h1 h2 ps (m.trans m1) (fun q hq => (h q (List.mem_cons_of_mem _ hq)).keep m1)

/-- A list of fields that may be written, within a range of blocks. -/
def WFs (w : World) (lo hi : Nat) (fs : List F) (a : Option Addr) : Prop := 0 < fs.length → ∃ b off, a = some ⟨b, off, none⟩ ∧ lo ≤ b ∧ b < hi ∧ ∀ i, i < fs.length →
  TextAt w ⟨b, off + i * 8, none⟩ ∧ TextAt w ⟨b, off + i * 8 + 1, none⟩ ∧ FlagAt w ⟨b, off + i * 8 + 2, none⟩ ∧ FlagAt w ⟨b, off + i * 8 + 3, none⟩ ∧ FlagAt w ⟨b, off + i * 8 + 4, none⟩ ∧ FlagAt w ⟨b, off + i * 8 + 5, none⟩ ∧ FlagAt w ⟨b, off + i * 8 + 6, none⟩ ∧
  ∃ na nc, w.cell? ⟨b, off + i * 8 + 7, none⟩ = some (.slice na (fth fs i).needs.length nc) ∧ WStrs w lo hi (fth fs i).needs.length na
theorem WFs.keep {lo hi lo' hi' : Nat} {fs : List F} {w w' : World} {a : Option Addr} (h : WFs w lo hi fs a) (m : Marked lo' hi' w w') : WFs w' lo hi fs a := fun hn => by
  obtain ⟨b, off, e, h1, h2, hc⟩ := h hn
  refine ⟨b, off, e, h1, h2, fun i hi => ?_⟩
  obtain ⟨x0, x1, x2, x3, x4, x5, x6, na, nc, x7, x8⟩ := hc i hi
  exact ⟨x0.keep m, x1.keep m, x2.keep m, x3.keep m, x4.keep m, x5.keep m, x6.keep m, na, nc, m.list _ _ _ _ x7, x8.keep m⟩

/-- How many marks fields take. -/
def mFs (fs : List F) : Nat → Nat
  | 0 => 0
  | n + 1 => mFs fs n + 7 + (fth fs n).needs.length

end Go.Proofs.YtibpieomldhomaaGreatDoor

namespace Go.Proofs.YtibpieomldhomaaGreatDoor
set_option linter.unusedSimpArgs false
set_option linter.unusedVariables false
open Go.RowKit

/-- A list of types that may be written, within a range of blocks. -/
def WTs (w : World) (lo hi : Nat) (ts : List T) (a : Option Addr) : Prop := 0 < ts.length → ∃ b off, a = some ⟨b, off, none⟩ ∧ lo ≤ b ∧ b < hi ∧ ∀ i, i < ts.length →
  TextAt w ⟨b, off + i * 3, none⟩ ∧ TextAt w ⟨b, off + i * 3 + 1, none⟩ ∧ ∃ fa fc, w.cell? ⟨b, off + i * 3 + 2, none⟩ = some (.slice fa (tth ts i).fields.length fc) ∧ WFs w lo hi (tth ts i).fields fa
theorem WTs.keep {lo hi lo' hi' : Nat} {ts : List T} {w w' : World} {a : Option Addr} (h : WTs w lo hi ts a) (m : Marked lo' hi' w w') : WTs w' lo hi ts a := fun hn => by
  obtain ⟨b, off, e, h1, h2, hc⟩ := h hn
  refine ⟨b, off, e, h1, h2, fun i hi => ?_⟩
  obtain ⟨x0, x1, fa, fc, x2, x3⟩ := hc i hi
  exact ⟨x0.keep m, x1.keep m, fa, fc, m.list _ _ _ _ x2, x3.keep m⟩

/-- How many marks types take. -/
def mTs (ts : List T) : Nat → Nat
  | 0 => 0
  | n + 1 => mTs ts n + 2 + mFs (tth ts n).fields (tth ts n).fields.length
theorem mFs_le (fs : List F) : ∀ i n, i ≤ n → mFs fs i ≤ mFs fs n := fun i n h => by
  induction h with
  | refl => exact Nat.le_refl _
  | step h ih => exact Nat.le_trans ih (by show _ ≤ mFs fs _ + 7 + _; omega)

/-- A part's fields and types are no more than its size. -/
theorem mFs_sz (fs : List F) : ∀ n, mFs fs n ≤ 8 * szFsTo fs n + 7 * n
  | 0 => by simp [mFs]
  | n + 1 => by
    rw [mFs, szFsTo_succ]
    have := mFs_sz fs n
    have h : (fth fs n).needs.length ≤ szF (fth fs n) := by simp only [szF, szNs]; omega
    omega
theorem mTs_sz (ts : List T) : ∀ n, mTs ts n ≤ 8 * szTsTo ts n + 2 * n
  | 0 => by simp [mTs]
  | n + 1 => by
    rw [mTs, szTsTo_succ]
    have := mTs_sz ts n
    have h1 := mFs_sz (tth ts n).fields (tth ts n).fields.length
    have h2 : szT (tth ts n) = (tth ts n).name.size + (tth ts n).key.size + ((tth ts n).fields.length + szFsTo (tth ts n).fields (tth ts n).fields.length) := rfl
    omega
theorem szFsTo_mono (fs : List F) : ∀ i n, i ≤ n → szFsTo fs i ≤ szFsTo fs n := fun i n h => by
  induction h with
  | refl => exact Nat.le_refl _
  | step h ih => exact Nat.le_trans ih (by rw [szFsTo_succ]; omega)
theorem szTsTo_mono (ts : List T) : ∀ i n, i ≤ n → szTsTo ts i ≤ szTsTo ts n := fun i n h => by
  induction h with
  | refl => exact Nat.le_refl _
  | step h ih => exact Nat.le_trans ih (by rw [szTsTo_succ]; omega)
theorem needs_small (fs : List F) (h : szFs fs ≤ 1048576) (j : Nat) : (fth fs j).needs.length ≤ 1048576 := by
  by_cases hj : j < fs.length
  · have h1 := szFsTo_mono fs (j + 1) fs.length hj
    rw [szFsTo_succ] at h1
    have h2 : (fth fs j).needs.length ≤ szF (fth fs j) := by simp only [szF, szNs]; omega
    have h3 : szFs fs = fs.length + szFsTo fs fs.length := rfl
    omega
  · have : fth fs j = F.zero := by simp [fth, List.getD_eq_getElem?_getD, List.getElem?_eq_none (Nat.le_of_not_lt hj)]
    rw [this]; simp [F.zero]
theorem fields_small (ts : List T) (h : szTs ts ≤ 1048576) (i : Nat) : szFs (tth ts i).fields ≤ 1048576 := by
  by_cases hi : i < ts.length
  · have h1 := szTsTo_mono ts (i + 1) ts.length hi
    rw [szTsTo_succ] at h1
    have h2 : szT (tth ts i) = (tth ts i).name.size + (tth ts i).key.size + szFs (tth ts i).fields := rfl
    have h3 : szTs ts = ts.length + szTsTo ts ts.length := rfl
    omega
  · have : tth ts i = T.zero := by simp [tth, List.getD_eq_getElem?_getD, List.getElem?_eq_none (Nat.le_of_not_lt hi)]
    rw [this]; decide

end Go.Proofs.YtibpieomldhomaaGreatDoor

namespace Go.Proofs.YtibpieomldhomaaGreatDoor
set_option linter.unusedSimpArgs false
set_option linter.unusedVariables false
open Go.RowKit

/-- From a block on nothing is frozen. -/
def NF (lo : Nat) (w : World) : Prop := ∀ a : Addr, lo ≤ a.block → w.frozen? a = false
theorem NF.new (w : World) : NF w.heap.size w := fun a h => by simp [World.frozen?, Array.getElem?_eq_none h]
theorem NF.alloc {lo : Nat} {w : World} (h : NF lo w) (c : Array Value) (t : TypeId) : NF lo (w.alloc (.cells c t)) := fun a ha => by rw [frozen?_alloc_cells]; exact h a ha
theorem NF.set {lo : Nat} {w : World} (h : NF lo w) (p : Addr) (v : Value) : NF lo (w.setCell p v) := fun a ha => by rw [World.frozen?_setCell]; exact h a ha
theorem NF.puts {lo : Nat} : ∀ {w : World} (h : NF lo w) (N k : Nat) (cs : List Value), NF lo (puts w N k cs)
  | w, h, N, k, [] => h
  | w, h, N, k, c :: cs => NF.puts (h.set ⟨N, k, none⟩ c) N (k + 1) cs
theorem NF.call {lo : Nat} {w w' : World} (h : NF lo w) (hb : Below w.heap.size w w') (h' : NF w.heap.size w') : NF lo w' := fun a ha => by
  rcases Nat.lt_or_ge a.block w.heap.size with h1 | h1
  · rw [hb.frozen h1]; exact h a ha
  · exact h' a h1
theorem NF.three (w : World) (c1 c2 c3 : Array Value) (t1 t2 t3 : TypeId) : NF w.heap.size (((w.alloc (.cells c1 t1)).alloc (.cells c2 t2)).alloc (.cells c3 t3)) := (((NF.new w).alloc c1 t1).alloc c2 t2).alloc c3 t3
end Go.Proofs.YtibpieomldhomaaGreatDoor

namespace Go.Proofs.YtibpieomldhomaaGreatDoor
set_option linter.unusedSimpArgs false
set_option linter.unusedVariables false
open Go.RowKit


end Go.Proofs.YtibpieomldhomaaGreatDoor

namespace Go.Proofs.YtibpieomldhomaaGreatDoor
set_option linter.unusedSimpArgs false
set_option linter.unusedVariables false
open Go.RowKit

theorem below_grown {B : Nat} {a w w' : World} (h : Below B a w) (hg : w.grownBy w' none) (hB : B ≤ w.heap.size) : Below B a w' :=
  h.trans ⟨hg.os, hg.tape, hg.output, hg.size, fun k hk => hg.block k (by omega) (by simp)⟩
theorem nth_map (ns : List ByteArray) (j : Nat) (u : Value) (h : (ns.map Value.string)[j]? = some u) : j < ns.length ∧ u = .string (nth ns j) := by
  rw [List.getElem?_map] at h
  obtain ⟨b, hb, rfl⟩ := Option.map_eq_some_iff.1 h
  obtain ⟨hj, rfl⟩ := List.getElem?_eq_some_iff.1 hb
  exact ⟨hj, by simp [nth, List.getD_eq_getElem?_getD, hj]⟩
/-- A block of this kind is nowhere frozen. -/
theorem frozen_cells {w : World} {g : Nat} {cur : Array Value} {e : TypeId} (h : w.heap[g]? = some (.cells cur e (0, 0))) (o : Nat) : w.frozen? ⟨g, o, none⟩ = false := by simp [World.frozen?, h]
theorem strs_ownedW {w : World} {base : Nat} {ns : List ByteArray} {g cap : Nat} (h : w.ownsRow base 9 1 (.slice (some ⟨g, 0, none⟩) ns.length cap) ns.length (ns.map Value.string)) (h2 : ∀ i, (nth ns i).size ≤ maxLen) (h3 : ns.length ≤ maxLen) (hlt : g < w.heap.size) :
    Strs w (fun b => base ≤ b ∧ b < w.heap.size) ns (some ⟨g, 0, none⟩) ∧ ns.length ≤ cap ∧ WStrs w base w.heap.size ns.length (some ⟨g, 0, none⟩) := by
  have hb : base ≤ g ∧ ns.length ≤ cap ∧ ∀ o, w.frozen? ⟨g, o, none⟩ = false := by
    rcases h.2 with ⟨h', _⟩ | ⟨g', cap', cur, h', hb, hh, hn, _⟩
    · simp at h'
    · simp only [Value.slice.injEq, Option.some.injEq, Addr.mk.injEq, and_true, true_and] at h'
      obtain ⟨rfl, rfl⟩ := h'
      exact ⟨hb, hn, frozen_cells hh⟩
  have hc : ∀ i, i < ns.length → w.cell? ⟨g, 0 + i, none⟩ = some (.string (nth ns i)) := fun i hi => by
    have := h.cellAt i (by omega)
    rw [Nat.zero_add, this, List.getElem?_map]
    simp [nth, List.getD_eq_getElem?_getD, hi]
  exact ⟨⟨fun _ => ⟨g, 0, rfl, ⟨hb.1, hlt⟩, hc⟩, h2, h3⟩, hb.2.1, fun _ => ⟨g, 0, rfl, hb.1, hlt, fun i hi => ⟨⟨_, hc i hi⟩, hb.2.2 _⟩⟩⟩

set_option maxHeartbeats 400000 in
theorem copyTexts_anyW (ns : List ByteArray) (a : Option Addr) (c : Nat) (w : World) (P : Nat → Prop) (hS : Strs w P ns a) (hb : 16 * ns.length ≤ 140737488355328) :
    Calls Tryz.prog 18 #[.slice a ns.length c] w fun e w' => ∃ (a' : Option Addr) (c' : Nat), e = .returned (.slice a' ns.length c') ∧ ns.length ≤ c' ∧ Below w.heap.size w w' ∧ Strs w' (fun b => w.heap.size ≤ b ∧ b < w'.heap.size) ns a' ∧ WStrs w' w.heap.size w'.heap.size ns.length a' := by
  obtain ⟨h1, h2, h3⟩ := hS
  obtain ⟨i0, hi, hz0, hz1, hz2⟩ := info_parts info9
  by_cases hn0 : ns.length = 0
  · have hns : ns = [] := by simpa using hn0
    subst hns
    cases a with
    | none =>
      go_enter Tryz.func18, Tryz.ntmps18
      go_wp2_with fail
      go_ret
      exact ⟨none, 0, rfl, by simp, Below.refl _ _, ⟨fun h => absurd rfl h, h2, h3⟩, fun h => by simp at h⟩
    | some ad =>
      go_enter Tryz.func18, Tryz.ntmps18
      go_wp2_with fail
      go_ret
      exact ⟨none, 0, rfl, by simp, Below.refl _ _, ⟨fun h => absurd rfl h, h2, h3⟩, fun h => by simp at h⟩
  · obtain ⟨b, off, rfl, _, hc⟩ := h1 (by intro e; simp [e] at hn0)
    clear h1
    go_enter Tryz.func18, Tryz.ntmps18
    go_wp2_with (at_builtin; refine wpList_append_lies _ rfl _ _ 28 rfl w.heap.size 9 i0 (.string ByteArray.empty) 1 16 Tryz.underlying28 hi hz0 hz1 hz2 rfl (by decide) (.slice none 0 0) 0 [] rfl (World.ownsRow_nil _ _ _ _) ⟨b, off, none⟩ ns.length c (ns.map Value.string) rfl (by simp) ?c1 ?c2 (by omega) ?c3 (by omega) (Nat.le_refl _) _ rfl ?_)
    case c1 =>
      intro j u hj
      obtain ⟨hj', rfl⟩ := nth_map ns j u hj
      rw [Addr.add_lit]
      exact hc j hj'
    case c2 => intro u hu; simp at hu; obtain ⟨x, -, rfl⟩ := hu; rfl
    case c3 => omega
    intro g cap w1 hown hgrow hat hlt
    go_wp2_with fail
    go_ret
    have hS := strs_ownedW (base := w.heap.size) (by simpa using hown) h2 h3 hlt
    exact ⟨_, cap, by simp, hS.2.1, below_grown (Below.refl _ _) hgrow (Nat.le_refl _), hS.1, hS.2.2⟩
end Go.Proofs.YtibpieomldhomaaGreatDoor

namespace Go.Proofs.YtibpieomldhomaaGreatDoor
set_option linter.unusedSimpArgs false
set_option linter.unusedVariables false
open Go.RowKit

/-- The field that PartField answers, and whether it is there. -/
def fieldAns (p : Pt) (s f : ByteArray) : F := if okP p = true then (if 0 ≤ typeIx p s then fieldOr (typeOr p s) f else F.zero) else F.zero
def fieldOkB (p : Pt) (s f : ByteArray) : Bool := okP p && (decide (0 ≤ typeIx p s) && decide (0 ≤ fieldIx (typeOr p s) f))

theorem typeOr_sz (p : Pt) (s : ByteArray) (hz : szP p ≤ 1048576) : szFs (typeOr p s).fields ≤ 1048576 := by
  unfold typeOr
  split
  · refine fields_small _ ?_ _
    have : szP p = p.name.size + szTs p.types := rfl
    omega
  · decide
theorem fieldOr_needs (t : T) (f : ByteArray) (h : szFs t.fields ≤ 1048576) : (fieldOr t f).needs.length ≤ 1048576 := by
  unfold fieldOr
  split
  · exact needs_small _ h _
  · simp [F.zero]
theorem fieldAns_needs (p : Pt) (s f : ByteArray) (hz : szP p ≤ 1048576) : (fieldAns p s f).needs.length ≤ 1048576 := by
  unfold fieldAns
  split
  · split
    · exact fieldOr_needs _ _ (typeOr_sz p s hz)
    · simp [F.zero]
  · simp [F.zero]

/-- What a call of PartField leaves: the field in new memory that may be written. -/
def FieldNew (w w' : World) (f : F) (ok : Bool) (e : Ending) : Prop := ∃ (nm of : ByteArray) (l m fr hi sh : Bool) (na : Option Addr) (nc : Nat),
  e = .returned (.tuple #[.agg #[.string nm, .string of, .bool l, .bool m, .bool fr, .bool hi, .bool sh, .slice na f.needs.length nc], .bool ok]) ∧ Below w.heap.size w w' ∧
  FRep w' (fun b => w.heap.size ≤ b ∧ b < w'.heap.size) f (.agg #[.string nm, .string of, .bool l, .bool m, .bool fr, .bool hi, .bool sh, .slice na f.needs.length nc]) ∧ WStrs w' w.heap.size w'.heap.size f.needs.length na

theorem fieldResult (FW : World) (tmps : Array Value) (N : Nat) (ok : Bool) (v0 v1 v2 v3 v4 v5 v6 v7 : Value) (h6 : tmps.getD 6 undef = .pointer (some ⟨N, 0, none⟩)) (h7 : tmps.getD 7 undef = .bool ok)
    (d0 : FW.cell? ⟨N, 0, none⟩ = some v0) (d1 : FW.cell? ⟨N, 1, none⟩ = some v1) (d2 : FW.cell? ⟨N, 2, none⟩ = some v2) (d3 : FW.cell? ⟨N, 3, none⟩ = some v3) (d4 : FW.cell? ⟨N, 4, none⟩ = some v4) (d5 : FW.cell? ⟨N, 5, none⟩ = some v5) (d6 : FW.cell? ⟨N, 6, none⟩ = some v6) (d7 : FW.cell? ⟨N, 7, none⟩ = some v7) :
    (results Tryz.f5 tmps).run Tryz.prog FW = .ok (.tuple #[.agg #[v0, v1, v2, v3, v4, v5, v6, v7], .bool ok]) FW := by
  simp only [Array.getD_eq_getD_getElem?] at h6 h7
  simp [results, Tryz.results5, go_sem, h6, h7, d0, d1, d2, d3, d4, d5, d6, d7]
theorem WStrs.mono {w w' : World} {lo hi n : Nat} {a : Option Addr} (h : WStrs w lo hi n a) (e : ∀ b, lo ≤ b → b < hi → w'.heap[b]? = w.heap[b]?) : WStrs w' lo hi n a := fun hn => by
  obtain ⟨b, off, ha, h1, h2, hc⟩ := h hn
  refine ⟨b, off, ha, h1, h2, fun i hi => ?_⟩
  obtain ⟨⟨s, hs⟩, hf⟩ := hc i hi
  exact ⟨⟨s, (World.cell?_of_block (w := w) (a := ⟨b, off + i, none⟩) (e b h1 h2)).trans hs⟩, (World.frozen?_of_block (w := w) (e b h1 h2)).trans hf⟩
theorem WStrs.wide {w : World} {lo hi lo' hi' n : Nat} {a : Option Addr} (h : WStrs w lo hi n a) (h1 : lo' ≤ lo) (h2 : hi ≤ hi') : WStrs w lo' hi' n a := fun hn => by
  obtain ⟨b, off, ha, x1, x2, hc⟩ := h hn
  exact ⟨b, off, ha, by omega, by omega, hc⟩

set_option maxRecDepth 20000 in
set_option maxHeartbeats 3200000 in
theorem PartFieldI_any (p : Pt) (s f : ByteArray) (w : World) (B : Nat) (v : Value) (hP : PRep w (· < B) p v) (hB : B ≤ w.heap.size) (hz : szP p ≤ 1048576) :
    Calls Tryz.prog 5 #[v, .string s, .string f] w fun e w' => FieldNew w w' (fieldAns p s f) (fieldOkB p s f) e := by
  have hP' := hP
  have hfs := typeOr_sz p s hz
  have hfn := fieldOr_needs (typeOr p s) f hfs
  obtain ⟨pname, types⟩ := p
  obtain ⟨ta, tc, rfl, hK, hnc, hpn⟩ := hP
  simp only at hK hnc hpn hP'
  obtain ⟨X, hXe⟩ : ∃ X, X = ((w.alloc (.cells #[.string pname, .slice ta types.length tc] 25)).alloc (.cells #[.string ByteArray.empty, .string ByteArray.empty, .bool false, .bool false, .bool false, .bool false, .bool false, .slice none 0 0] 30)) := ⟨_, rfl⟩
  have PC : ∀ W, Below (w.heap.size + 1 + 1) X W → W.cell? ⟨w.heap.size, 0, none⟩ = some (.string pname) ∧ W.cell? ⟨w.heap.size, 1, none⟩ = some (.slice ta types.length tc) ∧ W.heap[w.heap.size + 1]? = some (.cells #[.string ByteArray.empty, .string ByteArray.empty, .bool false, .bool false, .bool false, .bool false, .bool false, .slice none 0 0] 30 (0, 0)) ∧ Below w.heap.size w W ∧ w.heap.size + 1 < W.heap.size := fun W h => by
    subst hXe
    have hz := h.size
    simp at hz
    have a : ∀ i (hi : i < 2), W.cell? ⟨w.heap.size, i, none⟩ = some #[Value.string pname, .slice ta types.length tc][i] := fun i hi => (h.cell (p := ⟨w.heap.size, i, none⟩) (by show w.heap.size < _; omega)).trans (((below_box _ _).cell (p := ⟨w.heap.size, i, none⟩) (by show w.heap.size < _; simp)).trans (box_new _ _ i (by simpa using hi)))
    have hb : W.heap[w.heap.size + 1]? = some (.cells #[.string ByteArray.empty, .string ByteArray.empty, .bool false, .bool false, .bool false, .bool false, .bool false, .slice none 0 0] 30 (0, 0)) := (h.block (w.heap.size + 1) (by omega)).trans (by have := heap_alloc_new (w.alloc (.cells #[.string pname, .slice ta types.length tc] 25)) (.cells #[.string ByteArray.empty, .string ByteArray.empty, .bool false, .bool false, .bool false, .bool false, .bool false, .slice none 0 0] 30); simpa using this)
    exact ⟨a 0 (by omega), a 1 (by omega), hb, (below_box2 w _ _).trans (h.mono (by omega)), by omega⟩
  have hT0 : Below (w.heap.size + 1 + 1) X ((w.alloc (.cells #[.string pname, .slice ta types.length tc] 25)).alloc (.cells #[.string ByteArray.empty, .string ByteArray.empty, .bool false, .bool false, .bool false, .bool false, .bool false, .slice none 0 0] 30)) := by rw [hXe]; exact Below.refl _ _
  clear hXe
  have hBW := fun W (h : Below (w.heap.size + 1 + 1) X W) => show B ≤ W.heap.size by have := (PC W h).2.2.2.2; omega
  have hC := fun W h => checkPart_any ⟨pname, types⟩ W B _ (hP'.under ((PC W h).2.2.2.1.mono hB)) (hBW W h) hz
  have hF := fun W h => findType_any ⟨pname, types⟩ W B _ s (hP'.under ((PC W h).2.2.2.1.mono hB)) (hBW W h)
  cases ho : okP ⟨pname, types⟩
  · have HA : Hid (fieldAns ⟨pname, types⟩ s f = F.zero ∧ fieldOkB ⟨pname, types⟩ s f = false) := ⟨by rw [fieldAns, if_neg (by rw [ho]; simp)], by rw [fieldOkB, ho]; rfl⟩
    rcases partErr_bad _ ho with ⟨x, hx⟩ | ⟨i, x, hx⟩ <;> rw [hx] at hC
    all_goals
      clear hF hfs hfn
      go_enter Tryz.func5, Tryz.ntmps5
      go_wp2_with (
        go_at_call 15
        refine (hC _ hT0).mono ?_
        rintro e w1 ⟨rfl, hb1⟩
        have hT1 := hT0.trans (hb1.mono (by simp))
        obtain ⟨q0, q1, hbx, hw1, hz1⟩ := PC w1 hT1
        obtain ⟨a0, b0⟩ := box_at hbx 0 (by simp)
        obtain ⟨a1, b1⟩ := box_at hbx 1 (by simp)
        obtain ⟨a2, b2⟩ := box_at hbx 2 (by simp)
        obtain ⟨a3, b3⟩ := box_at hbx 3 (by simp)
        obtain ⟨a4, b4⟩ := box_at hbx 4 (by simp)
        obtain ⟨a5, b5⟩ := box_at hbx 5 (by simp)
        obtain ⟨a6, b6⟩ := box_at hbx 6 (by simp)
        obtain ⟨a7, b7⟩ := box_at hbx 7 (by simp))
      obtain ⟨d0, d1, d2, d3, d4, d5, d6, d7⟩ := sets_cells hbx rfl (.string ⟨#[]⟩) (.string ⟨#[]⟩) (.bool false) (.bool false) (.bool false) (.bool false) (.bool false) (.slice none 0 0) _ rfl
      refine bodyPost_ret (fieldResult _ _ (w.heap.size + 1) false (.string ⟨#[]⟩) (.string ⟨#[]⟩) (.bool false) (.bool false) (.bool false) (.bool false) (.bool false) (.slice none 0 0) rfl rfl d0 d1 d2 d3 d4 d5 d6 d7) rfl ?_
      rw [HA.out.1, HA.out.2]
      exact ⟨_, _, _, _, _, _, _, _, _, rfl, below_sets hw1 (Nat.le_succ _) _ _ _ _ _ _ _ _, FRep.zero _ _, fun h => by simp [F.zero] at h⟩
  have HO : Hid (okP ⟨pname, types⟩ = true) := ho
  rw [partErr_ok _ ho] at hC
  cases hx : decide (0 ≤ typeIx ⟨pname, types⟩ s)
  · have HA : Hid (fieldAns ⟨pname, types⟩ s f = F.zero ∧ fieldOkB ⟨pname, types⟩ s f = false) := ⟨by rw [fieldAns, if_pos HO.out, if_neg (by simpa using hx)], by rw [fieldOkB, hx]; simp⟩
    rw [hx] at hF
    clear hfs hfn ho
    go_enter Tryz.func5, Tryz.ntmps5
    go_wp2_with (first
      | (
        go_at_call 15
        refine (hC _ hT0).mono ?_
        rintro e w1 ⟨rfl, hb1⟩
        have hT1 := hT0.trans (hb1.mono (by simp))
        obtain ⟨q0, q1, -, hw1, hz1⟩ := PC w1 hT1)
      | (
        go_at_call 16
        refine (hF w1 hT1).mono ?_
        rintro e w2 ⟨tn, tk, fa, fl, fc, rfl, hb2, -⟩
        have hT2 := hT1.trans (hb2.mono (by omega))
        obtain ⟨-, -, hbx, hw2, hz2⟩ := PC w2 hT2
        obtain ⟨a0, b0⟩ := box_at hbx 0 (by simp)
        obtain ⟨a1, b1⟩ := box_at hbx 1 (by simp)
        obtain ⟨a2, b2⟩ := box_at hbx 2 (by simp)
        obtain ⟨a3, b3⟩ := box_at hbx 3 (by simp)
        obtain ⟨a4, b4⟩ := box_at hbx 4 (by simp)
        obtain ⟨a5, b5⟩ := box_at hbx 5 (by simp)
        obtain ⟨a6, b6⟩ := box_at hbx 6 (by simp)
        obtain ⟨a7, b7⟩ := box_at hbx 7 (by simp)))
    obtain ⟨d0, d1, d2, d3, d4, d5, d6, d7⟩ := sets_cells hbx rfl (.string ⟨#[]⟩) (.string ⟨#[]⟩) (.bool false) (.bool false) (.bool false) (.bool false) (.bool false) (.slice none 0 0) _ (Below.heap_alloc _ (.cells #[.string tn, .string tk, .slice fa fl fc] 40) _ (by rw [sets_size]; omega))
    refine bodyPost_ret (fieldResult _ _ (w.heap.size + 1) false (.string ⟨#[]⟩) (.string ⟨#[]⟩) (.bool false) (.bool false) (.bool false) (.bool false) (.bool false) (.slice none 0 0) rfl rfl d0 d1 d2 d3 d4 d5 d6 d7) rfl ?_
    rw [HA.out.1, HA.out.2]
    exact ⟨_, _, _, _, _, _, _, _, _, rfl, (below_sets hw2 (Nat.le_succ _) _ _ _ _ _ _ _ _).alloc (by rw [sets_size]; omega) _, FRep.zero _ _, fun h => by simp [F.zero] at h⟩
  have HA : Hid (fieldAns ⟨pname, types⟩ s f = fieldOr (typeOr ⟨pname, types⟩ s) f ∧ fieldOkB ⟨pname, types⟩ s f = decide (0 ≤ fieldIx (typeOr ⟨pname, types⟩ s) f)) := ⟨by rw [fieldAns, if_pos HO.out, if_pos (by simpa using hx)], by rw [fieldOkB, hx, HO.out]; rfl⟩
  rw [hx] at hF
  clear ho hfs
  generalize typeOr ⟨pname, types⟩ s = tt at *
  go_enter Tryz.func5, Tryz.ntmps5
  go_wp2_with (first
    | (
      go_at_call 15
      refine (hC _ hT0).mono ?_
      rintro e w1 ⟨rfl, hb1⟩
      have hT1 := hT0.trans (hb1.mono (by simp))
      obtain ⟨q0, q1, -, hw1, hz1⟩ := PC w1 hT1)
    | (
      go_at_call 16
      refine (hF w1 hT1).mono ?_
      rintro e w2 ⟨tn, tk, fa, fl, fc, rfl, hb2, htr⟩
      have hT2 := hT1.trans (hb2.mono (by omega))
      obtain ⟨-, -, -, hw2, hz2⟩ := PC w2 hT2))
  have hT3 := hT2.alloc (by omega) (.cells #[.string tn, .string tk, .slice fa fl fc] 40)
  refine (findField_any tt (w2.alloc (.cells #[.string tn, .string tk, .slice fa fl fc] 40)) B _ f (htr.under ((below_box w2 _).mono (by omega))) (by simp; omega)).mono ?_
  rintro e w3 ⟨nm, of, l, m, fr, hi, sh, na, nl, nc, rfl, hb3, hfr⟩
  have hT4 := hT3.trans (hb3.mono (by simp; omega))
  obtain ⟨-, -, -, hw3, hz3⟩ := PC w3 hT4
  have hB3 := hBW w3 hT4
  have hfr' := hfr
  obtain ⟨na', nc', hv, hS, hcap, hs0, hs1, h16⟩ := hfr
  simp only [Value.agg.injEq, Array.mk.injEq, List.cons.injEq, Value.string.injEq, Value.bool.injEq, Value.slice.injEq, and_true] at hv
  obtain ⟨rfl, rfl, rfl, rfl, rfl, rfl, rfl, rfl, rfl, rfl⟩ := hv
  generalize fieldOr tt f = ff at *
  go_wp2_with fail
  have hal := heap_alloc_new w3 (.cells #[.string ff.name, .string ff.of, .bool ff.list, .bool ff.must, .bool ff.far, .bool ff.hidden, .bool ff.shared, .slice na ff.needs.length nc] 30)
  have hsa : (w3.alloc (.cells #[.string ff.name, .string ff.of, .bool ff.list, .bool ff.must, .bool ff.far, .bool ff.hidden, .bool ff.shared, .slice na ff.needs.length nc] 30)).heap.size = w3.heap.size + 1 := by simp
  refine (copyTexts_anyW ff.needs na nc (w3.alloc (.cells #[.string ff.name, .string ff.of, .bool ff.list, .bool ff.must, .bool ff.far, .bool ff.hidden, .bool ff.shared, .slice na ff.needs.length nc] 30)) (· < B) (hS.mono fun k hk => Below.heap_alloc _ _ _ (by omega)) (by omega)).mono ?_
  rintro e w4 ⟨a', c', rfl, hc4, hb4, hS4, hW4⟩
  have hT5 := (hT4.alloc (by omega) (.cells #[.string ff.name, .string ff.of, .bool ff.list, .bool ff.must, .bool ff.far, .bool ff.hidden, .bool ff.shared, .slice na ff.needs.length nc] 30)).trans (hb4.mono (by rw [hsa]; omega))
  obtain ⟨-, -, hbx4, hw4, hz4⟩ := PC w4 hT5
  have hz4' := hb4.size
  rw [hsa] at hz4' hb4 hS4 hW4
  have hF4 := (hb4.block w3.heap.size (by omega)).trans hal
  have hbx : (w4.setCell ⟨w3.heap.size, 7, none⟩ (.slice a' ff.needs.length c')).heap[w.heap.size + 1]? = some (.cells #[.string ByteArray.empty, .string ByteArray.empty, .bool false, .bool false, .bool false, .bool false, .bool false, .slice none 0 0] 30 (0, 0)) := (Below.heap_setCell _ _ _ _ (by show w.heap.size + 1 ≠ w3.heap.size; omega)).trans hbx4
  obtain ⟨g7, z7⟩ := box_at hF4 7 (by simp)
  have hg : ∀ j, j < 7 → (w4.setCell ⟨w3.heap.size, 7, none⟩ (.slice a' ff.needs.length c')).cell? ⟨w3.heap.size, j, none⟩ = w4.cell? ⟨w3.heap.size, j, none⟩ := fun j hj => World.cell?_setCell_other _ _ _ _ (by intro e; simp only [Addr.mk.injEq] at e; omega)
  have c0 := (hg 0 (by omega)).trans (box_at hF4 0 (by simp)).1
  have c1 := (hg 1 (by omega)).trans (box_at hF4 1 (by simp)).1
  have c2 := (hg 2 (by omega)).trans (box_at hF4 2 (by simp)).1
  have c3 := (hg 3 (by omega)).trans (box_at hF4 3 (by simp)).1
  have c4 := (hg 4 (by omega)).trans (box_at hF4 4 (by simp)).1
  have c5 := (hg 5 (by omega)).trans (box_at hF4 5 (by simp)).1
  have c6 := (hg 6 (by omega)).trans (box_at hF4 6 (by simp)).1
  have c7 : (w4.setCell ⟨w3.heap.size, 7, none⟩ (.slice a' ff.needs.length c')).cell? ⟨w3.heap.size, 7, none⟩ = some (.slice a' ff.needs.length c') := World.cell?_setCell_same _ _ _ g7
  simp only [List.getElem_toArray, List.getElem_cons_succ, List.getElem_cons_zero] at c0 c1 c2 c3 c4 c5 c6 g7
  obtain ⟨a0, b0⟩ := box_at hbx 0 (by simp)
  obtain ⟨a1, b1⟩ := box_at hbx 1 (by simp)
  obtain ⟨a2, b2⟩ := box_at hbx 2 (by simp)
  obtain ⟨a3, b3⟩ := box_at hbx 3 (by simp)
  obtain ⟨a4, b4⟩ := box_at hbx 4 (by simp)
  obtain ⟨a5, b5⟩ := box_at hbx 5 (by simp)
  obtain ⟨a6, b6⟩ := box_at hbx 6 (by simp)
  obtain ⟨a7, b7⟩ := box_at hbx 7 (by simp)
  have HB : Hid ((w4.setCell ⟨w3.heap.size, 7, none⟩ (.slice a' ff.needs.length c')).heap[w.heap.size + 1]? = some (.cells #[.string ByteArray.empty, .string ByteArray.empty, .bool false, .bool false, .bool false, .bool false, .bool false, .slice none 0 0] 30 (0, 0))) := hbx
  clear hg hF4 hal hbx hbx4 hT5 hT4 hT3 hT2 hT1 hT0
  go_wp2_with fail
  obtain ⟨d0, d1, d2, d3, d4, d5, d6, d7⟩ := sets_cells HB.out rfl (.string ff.name) (.string ff.of) (.bool ff.list) (.bool ff.must) (.bool ff.far) (.bool ff.hidden) (.bool ff.shared) (.slice a' ff.needs.length c') _ rfl
  refine bodyPost_ret (fieldResult _ _ (w.heap.size + 1) (decide (0 ≤ fieldIx tt f)) (.string ff.name) (.string ff.of) (.bool ff.list) (.bool ff.must) (.bool ff.far) (.bool ff.hidden) (.bool ff.shared) (.slice a' ff.needs.length c') rfl rfl d0 d1 d2 d3 d4 d5 d6 d7) rfl ?_
  rw [HA.out.1, HA.out.2]
  have hblk : ∀ (k : Nat), w3.heap.size + 1 ≤ k → ∀ v0 v1 v2 v3 v4 v5 v6 v7, ((((((((((w4.setCell ⟨w3.heap.size, 7, none⟩ (.slice a' ff.needs.length c')).setCell ⟨w.heap.size + 1, 0, none⟩ v0).setCell ⟨w.heap.size + 1, 1, none⟩ v1).setCell ⟨w.heap.size + 1, 2, none⟩ v2).setCell ⟨w.heap.size + 1, 3, none⟩ v3).setCell ⟨w.heap.size + 1, 4, none⟩ v4).setCell ⟨w.heap.size + 1, 5, none⟩ v5).setCell ⟨w.heap.size + 1, 6, none⟩ v6).setCell ⟨w.heap.size + 1, 7, none⟩ v7)).heap[k]? = w4.heap[k]? := fun k hk v0 v1 v2 v3 v4 v5 v6 v7 =>
    (sets_block (by omega) _ _ _ _ _ _ _ _ _).trans (Below.heap_setCell _ _ _ _ (by show k ≠ w3.heap.size; omega))
  refine ⟨_, _, _, _, _, _, _, _, _, rfl, below_sets (hw4.setCell (by show w.heap.size ≤ w3.heap.size; omega) _) (Nat.le_succ _) _ _ _ _ _ _ _ _, ⟨a', c', rfl, (hS4.mono fun k hk => hblk k hk.1 _ _ _ _ _ _ _ _).sub fun k hk => ?_, hc4, hs0, hs1, h16⟩, (hW4.mono fun k h1 h2 => hblk k h1 _ _ _ _ _ _ _ _).wide (by omega) ?_⟩
  · rw [sets_size, size_set]; omega
  · rw [sets_size, size_set]; omega
end Go.Proofs.YtibpieomldhomaaGreatDoor

namespace Go.Proofs.YtibpieomldhomaaGreatDoor
set_option linter.unusedSimpArgs false
set_option linter.unusedVariables false
open Go.RowKit Go.Maps

/-- What the law has found behind so many fields of a type; behind so many types. -/
def fdF (p : Pt) (s f : ByteArray) (i : Nat) : Nat → Bool
  | 0 => false
  | k + 1 => fdF p s f i k || ((tth p.types i).name.toList == s.toList && (fth (tth p.types i).fields k).name.toList == f.toList)
def fdT (p : Pt) (s f : ByteArray) : Nat → Bool
  | 0 => false
  | i + 1 => fdT p s f i || fdF p s f i (tth p.types i).fields.length
theorem fdF_true {p : Pt} {s f : ByteArray} {i : Nat} : ∀ {n : Nat}, fdF p s f i n = true ↔ ∃ k, k < n ∧ (tth p.types i).name.toList = s.toList ∧ (fth (tth p.types i).fields k).name.toList = f.toList
  | 0 => by simp [fdF]
  | n + 1 => by
    rw [fdF, Bool.or_eq_true, fdF_true, Bool.and_eq_true, beq_iff_eq, beq_iff_eq]
    constructor
    · rintro (⟨k, h1, h2, h3⟩ | ⟨h2, h3⟩)
      · exact ⟨k, by omega, h2, h3⟩
      · exact ⟨n, by omega, h2, h3⟩
    · rintro ⟨k, h1, h2, h3⟩
      by_cases e : k = n
      · subst e; exact Or.inr ⟨h2, h3⟩
      · exact Or.inl ⟨k, by omega, h2, h3⟩
theorem fdT_true {p : Pt} {s f : ByteArray} : ∀ {n : Nat}, fdT p s f n = true ↔ ∃ i, i < n ∧ fdF p s f i (tth p.types i).fields.length = true
  | 0 => by simp [fdT]
  | n + 1 => by
    rw [fdT, Bool.or_eq_true, fdT_true]
    constructor
    · rintro (⟨k, h1, h2⟩ | h2)
      · exact ⟨k, by omega, h2⟩
      · exact ⟨n, by omega, h2⟩
    · rintro ⟨k, h1, h2⟩
      by_cases e : k = n
      · subst e; exact Or.inr h2
      · exact Or.inl ⟨k, by omega, h2⟩
theorem firstTo_got {q : Nat → Bool} {n : Nat} (h : 0 ≤ firstTo q n) : (firstTo q n).toNat < n ∧ q (firstTo q n).toNat = true := by
  rcases firstTo_cases q n with ⟨h1, -⟩ | ⟨j, h1, hj, hq, -⟩
  · omega
  · rw [h1]; exact ⟨by simpa using hj, by simpa using hq⟩
theorem firstTo_least {q : Nat → Bool} {n k : Nat} (hk : k < n) (hq : q k = true) : 0 ≤ firstTo q n ∧ (firstTo q n).toNat ≤ k := by
  rcases firstTo_cases q n with ⟨h, ha⟩ | ⟨j, h, hj, hqj, ha⟩
  · rw [ha k hk] at hq; cases hq
  · refine ⟨by omega, ?_⟩
    rw [h]
    show ((j : Int)).toNat ≤ k
    rcases Nat.lt_or_ge k j with h1 | h1
    · rw [ha k h1] at hq; cases hq
    · omega
/-- Of a good part. -/
theorem found_ok {p : Pt} {s f : ByteArray} (h : okP p = true) : fieldOkB p s f = fdT p s f p.types.length := by
  rw [Bool.eq_iff_iff, fdT_true]
  unfold fieldOkB
  rw [h, Bool.true_and, Bool.and_eq_true, decide_eq_true_eq, decide_eq_true_eq]
  constructor
  · rintro ⟨h1, h2⟩
    have ht : typeOr p s = tth p.types (typeIx p s).toNat := by unfold typeOr; rw [if_pos h1]
    rw [ht] at h2
    obtain ⟨a1, a2⟩ := firstTo_got (show 0 ≤ firstTo _ _ from h1)
    obtain ⟨b1, b2⟩ := firstTo_got (show 0 ≤ firstTo _ _ from h2)
    refine ⟨(typeIx p s).toNat, a1, fdF_true.2 ⟨(fieldIx (tth p.types (typeIx p s).toNat) f).toNat, b1, ?_, ?_⟩⟩
    · exact beq_iff_eq.1 a2
    · exact beq_iff_eq.1 b2
  · rintro ⟨i, hi, hf⟩
    obtain ⟨k, hk, e1, e2⟩ := fdF_true.1 hf
    obtain ⟨h1, h2⟩ := firstTo_least (q := fun i => (tth p.types i).name.toList == s.toList) hi (beq_iff_eq.2 e1)
    have h1' : 0 ≤ typeIx p s := h1
    have h2' : (typeIx p s).toNat ≤ i := h2
    obtain ⟨a1, a2⟩ := firstTo_got (show 0 ≤ firstTo _ _ from h1')
    have a2' : (tth p.types (typeIx p s).toNat).name.toList = s.toList := beq_iff_eq.1 a2
    have hej : (typeIx p s).toNat = i := by
      rcases Nat.lt_or_ge (typeIx p s).toNat i with hlt | hge
      · have hc := (code_names (okP_all h hi)).2.2
        simp only [twiceB, Bool.or_eq_false_iff] at hc
        have h3 := firstTo_some (q := fun x => (tth p.types x).name.toList == (tth p.types i).name.toList) hlt (beq_iff_eq.2 (a2'.trans e1.symm))
        have h4 := hc.1
        rw [decide_eq_false_iff_not] at h4
        exact absurd h3 h4
      · omega
    have ht : typeOr p s = tth p.types i := by unfold typeOr; rw [if_pos h1', hej]
    refine ⟨h1', ?_⟩
    rw [ht]
    exact (firstTo_least (q := fun x => (fth (tth p.types i).fields x).name.toList == f.toList) hk (beq_iff_eq.2 e2)).1
/-- The field that is found bears that name. -/
theorem found_name {p : Pt} {s f : ByteArray} (h : fieldOkB p s f = true) : (fieldAns p s f).name.toList = f.toList := by
  unfold fieldOkB at h
  rw [Bool.and_eq_true, Bool.and_eq_true, decide_eq_true_eq, decide_eq_true_eq] at h
  obtain ⟨h1, h2, h3⟩ := h
  unfold fieldAns fieldOr
  rw [if_pos h1, if_pos h2, if_pos h3]
  exact beq_iff_eq.1 (firstTo_got (show 0 ≤ firstTo _ _ from h3)).2
end Go.Proofs.YtibpieomldhomaaGreatDoor

namespace Go.Proofs.YtibpieomldhomaaGreatDoor
set_option linter.unusedSimpArgs false
set_option linter.unusedVariables false
open Go.RowKit

theorem copyResult (FW : World) (tmps : Array Value) (N : Nat) (v0 v1 v2 v3 v4 v5 v6 v7 : Value) (h2 : tmps.getD 2 undef = .pointer (some ⟨N, 0, none⟩))
    (d0 : FW.cell? ⟨N, 0, none⟩ = some v0) (d1 : FW.cell? ⟨N, 1, none⟩ = some v1) (d2 : FW.cell? ⟨N, 2, none⟩ = some v2) (d3 : FW.cell? ⟨N, 3, none⟩ = some v3) (d4 : FW.cell? ⟨N, 4, none⟩ = some v4) (d5 : FW.cell? ⟨N, 5, none⟩ = some v5) (d6 : FW.cell? ⟨N, 6, none⟩ = some v6) (d7 : FW.cell? ⟨N, 7, none⟩ = some v7) :
    (results Tryz.f21 tmps).run Tryz.prog FW = .ok (.agg #[v0, v1, v2, v3, v4, v5, v6, v7]) FW := by
  simp only [Array.getD_eq_getD_getElem?] at h2
  simp [results, Tryz.results21, go_sem, h2, d0, d1, d2, d3, d4, d5, d6, d7]

set_option maxRecDepth 20000 in
set_option maxHeartbeats 3200000 in
theorem l2Copy_any (f : F) (w : World) (B : Nat) (v : Value) (hR : FRep w (· < B) f v) (hB : B ≤ w.heap.size) (hn : f.needs.length ≤ 1048576) :
    Calls Tryz.prog 21 #[v] w fun e w' => ∃ (a : Option Addr) (c : Nat), e = .returned (.agg #[.string f.name, .string f.of, .bool f.list, .bool f.must, .bool f.far, .bool f.hidden, .bool f.shared, .slice a f.needs.length c]) ∧ Below w.heap.size w w' ∧
      FRep w' (fun b => w.heap.size ≤ b ∧ b < w'.heap.size) f (.agg #[.string f.name, .string f.of, .bool f.list, .bool f.must, .bool f.far, .bool f.hidden, .bool f.shared, .slice a f.needs.length c]) := by
  obtain ⟨na, nc, rfl, hS, hcap, hs0, hs1, h16⟩ := hR
  obtain ⟨h1, h2, h3⟩ := hS
  obtain ⟨i0, hi, hz0, hz1, hz2⟩ := info_parts info9
  by_cases hn0 : f.needs.length = 0
  · have hns : f.needs = [] := by simpa using hn0
    rw [hn0] at hcap h16 ⊢
    cases na
    all_goals
      go_enter Tryz.func21, Tryz.ntmps21
      go_wp2_with fail
      refine bodyPost_ret (v := .agg #[.string f.name, .string f.of, .bool f.list, .bool f.must, .bool f.far, .bool f.hidden, .bool f.shared, .slice (some ⟨w.heap.size + 1 + 1, 0, none⟩) 0 0]) ?res rfl ⟨_, _, rfl, (below_box2 w _ _).alloc (by simp; omega) _, ⟨_, 0, by rw [hn0], ⟨fun h => absurd hns h, h2, h3⟩, by rw [hn0]; exact Nat.le_refl _, hs0, hs1, by rw [hn0]; omega⟩⟩
      case res => simp [results, Tryz.results21, go_sem]
  · obtain ⟨b, off, rfl, hbB, hc⟩ := h1 (by intro e; simp [e] at hn0)
    clear h1
    have hx3 : (((w.alloc (.cells #[.string f.name, .string f.of, .bool f.list, .bool f.must, .bool f.far, .bool f.hidden, .bool f.shared, .slice (some ⟨b, off, none⟩) f.needs.length nc] 30)).alloc (.cells #[.string ⟨#[]⟩, .string ⟨#[]⟩, .bool false, .bool false, .bool false, .bool false, .bool false, .slice none 0 0] 30)).alloc (.cells #[] 9)).heap.size = w.heap.size + 1 + 1 + 1 := by simp
    have hx2 : (((w.alloc (.cells #[.string f.name, .string f.of, .bool f.list, .bool f.must, .bool f.far, .bool f.hidden, .bool f.shared, .slice (some ⟨b, off, none⟩) f.needs.length nc] 30)).alloc (.cells #[.string ⟨#[]⟩, .string ⟨#[]⟩, .bool false, .bool false, .bool false, .bool false, .bool false, .slice none 0 0] 30)).alloc (.cells #[] 9)).heap[w.heap.size + 1 + 1]? = some (.cells #[] 9 (0, 0)) := by
      have := heap_alloc_new ((w.alloc (.cells #[.string f.name, .string f.of, .bool f.list, .bool f.must, .bool f.far, .bool f.hidden, .bool f.shared, .slice (some ⟨b, off, none⟩) f.needs.length nc] 30)).alloc (.cells #[.string ⟨#[]⟩, .string ⟨#[]⟩, .bool false, .bool false, .bool false, .bool false, .bool false, .slice none 0 0] 30)) (.cells #[] 9)
      simpa using this
    have hx1 : (((w.alloc (.cells #[.string f.name, .string f.of, .bool f.list, .bool f.must, .bool f.far, .bool f.hidden, .bool f.shared, .slice (some ⟨b, off, none⟩) f.needs.length nc] 30)).alloc (.cells #[.string ⟨#[]⟩, .string ⟨#[]⟩, .bool false, .bool false, .bool false, .bool false, .bool false, .slice none 0 0] 30)).alloc (.cells #[] 9)).heap[w.heap.size + 1]? = some (.cells #[.string ⟨#[]⟩, .string ⟨#[]⟩, .bool false, .bool false, .bool false, .bool false, .bool false, .slice none 0 0] 30 (0, 0)) := by
      rw [Below.heap_alloc _ _ _ (by simp)]
      have := heap_alloc_new (w.alloc (.cells #[.string f.name, .string f.of, .bool f.list, .bool f.must, .bool f.far, .bool f.hidden, .bool f.shared, .slice (some ⟨b, off, none⟩) f.needs.length nc] 30)) (.cells #[.string ⟨#[]⟩, .string ⟨#[]⟩, .bool false, .bool false, .bool false, .bool false, .bool false, .slice none 0 0] 30)
      rw [show (w.alloc (.cells #[.string f.name, .string f.of, .bool f.list, .bool f.must, .bool f.far, .bool f.hidden, .bool f.shared, .slice (some ⟨b, off, none⟩) f.needs.length nc] 30)).heap.size = w.heap.size + 1 by simp] at this
      exact this
    have hx0 : (((w.alloc (.cells #[.string f.name, .string f.of, .bool f.list, .bool f.must, .bool f.far, .bool f.hidden, .bool f.shared, .slice (some ⟨b, off, none⟩) f.needs.length nc] 30)).alloc (.cells #[.string ⟨#[]⟩, .string ⟨#[]⟩, .bool false, .bool false, .bool false, .bool false, .bool false, .slice none 0 0] 30)).alloc (.cells #[] 9)).heap[w.heap.size]? = some (.cells #[.string f.name, .string f.of, .bool f.list, .bool f.must, .bool f.far, .bool f.hidden, .bool f.shared, .slice (some ⟨b, off, none⟩) f.needs.length nc] 30 (0, 0)) := by
      rw [Below.heap_alloc _ _ _ (by simp; omega), Below.heap_alloc _ _ _ (by simp)]
      exact heap_alloc_new _ _
    have hxb : Below w.heap.size w (((w.alloc (.cells #[.string f.name, .string f.of, .bool f.list, .bool f.must, .bool f.far, .bool f.hidden, .bool f.shared, .slice (some ⟨b, off, none⟩) f.needs.length nc] 30)).alloc (.cells #[.string ⟨#[]⟩, .string ⟨#[]⟩, .bool false, .bool false, .bool false, .bool false, .bool false, .slice none 0 0] 30)).alloc (.cells #[] 9)) := (below_box2 w _ _).alloc (by simp; omega) _
    have hcx : ∀ i, i < f.needs.length → (((w.alloc (.cells #[.string f.name, .string f.of, .bool f.list, .bool f.must, .bool f.far, .bool f.hidden, .bool f.shared, .slice (some ⟨b, off, none⟩) f.needs.length nc] 30)).alloc (.cells #[.string ⟨#[]⟩, .string ⟨#[]⟩, .bool false, .bool false, .bool false, .bool false, .bool false, .slice none 0 0] 30)).alloc (.cells #[] 9)).cell? ⟨b, off + i, none⟩ = some (.string (nth f.needs i)) := fun i hi => (hxb.cell (p := ⟨b, off + i, none⟩) (by show b < _; omega)).trans (hc i hi)
    have hown0 : (((w.alloc (.cells #[.string f.name, .string f.of, .bool f.list, .bool f.must, .bool f.far, .bool f.hidden, .bool f.shared, .slice (some ⟨b, off, none⟩) f.needs.length nc] 30)).alloc (.cells #[.string ⟨#[]⟩, .string ⟨#[]⟩, .bool false, .bool false, .bool false, .bool false, .bool false, .slice none 0 0] 30)).alloc (.cells #[] 9)).ownsRow (w.heap.size + 1 + 1) 9 1 (.slice (some ⟨w.heap.size + 1 + 1, 0, none⟩) 0 0) 0 [] := ⟨rfl, .inr ⟨_, 0, #[], rfl, Nat.le_refl _, hx2, Nat.le_refl _, by simp, rfl, rfl⟩⟩
    go_enter Tryz.func21, Tryz.ntmps21
    go_wp2_with (at_builtin; refine wpList_append_lies _ rfl (.tmp 3) (.tmp 5) 28 rfl (w.heap.size + 1 + 1) 9 i0 (.string ByteArray.empty) 1 16 Tryz.underlying28 hi hz0 hz1 hz2 rfl (by decide) (.slice (some ⟨w.heap.size + 1 + 1, 0, none⟩) 0 0) 0 [] rfl hown0 ⟨b, off, none⟩ f.needs.length nc (f.needs.map Value.string) rfl (by simp) ?c1 ?c2 (by omega) ?c3 (by omega) (by rw [hx3]; omega) _ rfl ?_)
    case c1 =>
      intro j u hj
      obtain ⟨hj', rfl⟩ := nth_map f.needs j u hj
      rw [Addr.add_lit]
      exact hcx j hj'
    case c2 => intro u hu; simp at hu; obtain ⟨x, -, rfl⟩ := hu; rfl
    case c3 => omega
    intro g cap w1 hown hgrow hat hlt
    have hbw := Below.grown (Below.refl (w.heap.size + 1 + 1) _) hgrow (by simp) (fun k hk => by simp [Value.ownBlock] at hk; omega)
    have hSo := (strs_ownedW (base := w.heap.size + 1 + 1) (by simpa using hown) h2 h3 hlt)
    have hF1 := (hbw.block w.heap.size (by omega)).trans hx0
    have hR1 := (hbw.block (w.heap.size + 1) (by omega)).trans hx1
    have hw1 : Below w.heap.size w w1 := hxb.trans (hbw.mono (by omega))
    have hz1 := hbw.size
    rw [hx3] at hz1
    clear hgrow hown hown0 hcx hx0 hx1 hx2 hbw hxb
    obtain ⟨g7, z7⟩ := box_at hF1 7 (by simp)
    have hbx : (w1.setCell ⟨w.heap.size, 7, none⟩ (.slice (some ⟨g, 0, none⟩) f.needs.length cap)).heap[w.heap.size + 1]? = some (.cells #[.string ⟨#[]⟩, .string ⟨#[]⟩, .bool false, .bool false, .bool false, .bool false, .bool false, .slice none 0 0] 30 (0, 0)) := (Below.heap_setCell _ _ _ _ (by show w.heap.size + 1 ≠ w.heap.size; omega)).trans hR1
    have hg : ∀ j, j < 7 → (w1.setCell ⟨w.heap.size, 7, none⟩ (.slice (some ⟨g, 0, none⟩) f.needs.length cap)).cell? ⟨w.heap.size, j, none⟩ = w1.cell? ⟨w.heap.size, j, none⟩ := fun j hj => World.cell?_setCell_other _ _ _ _ (by intro e; simp only [Addr.mk.injEq] at e; omega)
    have c0 := (hg 0 (by omega)).trans (box_at hF1 0 (by simp)).1
    have c1 := (hg 1 (by omega)).trans (box_at hF1 1 (by simp)).1
    have c2 := (hg 2 (by omega)).trans (box_at hF1 2 (by simp)).1
    have c3 := (hg 3 (by omega)).trans (box_at hF1 3 (by simp)).1
    have c4 := (hg 4 (by omega)).trans (box_at hF1 4 (by simp)).1
    have c5 := (hg 5 (by omega)).trans (box_at hF1 5 (by simp)).1
    have c6 := (hg 6 (by omega)).trans (box_at hF1 6 (by simp)).1
    have c7 : (w1.setCell ⟨w.heap.size, 7, none⟩ (.slice (some ⟨g, 0, none⟩) f.needs.length cap)).cell? ⟨w.heap.size, 7, none⟩ = some (.slice (some ⟨g, 0, none⟩) f.needs.length cap) := World.cell?_setCell_same _ _ _ g7
    simp only [List.getElem_toArray, List.getElem_cons_succ, List.getElem_cons_zero] at c0 c1 c2 c3 c4 c5 c6 g7
    obtain ⟨a0, b0⟩ := box_at hbx 0 (by simp)
    obtain ⟨a1, b1⟩ := box_at hbx 1 (by simp)
    obtain ⟨a2, b2⟩ := box_at hbx 2 (by simp)
    obtain ⟨a3, b3⟩ := box_at hbx 3 (by simp)
    obtain ⟨a4, b4⟩ := box_at hbx 4 (by simp)
    obtain ⟨a5, b5⟩ := box_at hbx 5 (by simp)
    obtain ⟨a6, b6⟩ := box_at hbx 6 (by simp)
    obtain ⟨a7, b7⟩ := box_at hbx 7 (by simp)
    have HB : Hid ((w1.setCell ⟨w.heap.size, 7, none⟩ (.slice (some ⟨g, 0, none⟩) f.needs.length cap)).heap[w.heap.size + 1]? = some (.cells #[.string ⟨#[]⟩, .string ⟨#[]⟩, .bool false, .bool false, .bool false, .bool false, .bool false, .slice none 0 0] 30 (0, 0))) := hbx
    clear hg hF1 hbx hR1
    go_wp2_with fail
    obtain ⟨d0, d1, d2, d3, d4, d5, d6, d7⟩ := sets_cells HB.out rfl (.string f.name) (.string f.of) (.bool f.list) (.bool f.must) (.bool f.far) (.bool f.hidden) (.bool f.shared) (.slice (some ⟨g, 0, none⟩) f.needs.length cap) _ rfl
    refine bodyPost_ret (copyResult _ _ (w.heap.size + 1) (.string f.name) (.string f.of) (.bool f.list) (.bool f.must) (.bool f.far) (.bool f.hidden) (.bool f.shared) (.slice (some ⟨g, 0, none⟩) f.needs.length cap) rfl d0 d1 d2 d3 d4 d5 d6 d7) rfl ?_
    have hblk : ∀ (k : Nat), w.heap.size + 1 + 1 ≤ k → ∀ v0 v1 v2 v3 v4 v5 v6 v7, ((((((((((w1.setCell ⟨w.heap.size, 7, none⟩ (.slice (some ⟨g, 0, none⟩) f.needs.length cap)).setCell ⟨w.heap.size + 1, 0, none⟩ v0).setCell ⟨w.heap.size + 1, 1, none⟩ v1).setCell ⟨w.heap.size + 1, 2, none⟩ v2).setCell ⟨w.heap.size + 1, 3, none⟩ v3).setCell ⟨w.heap.size + 1, 4, none⟩ v4).setCell ⟨w.heap.size + 1, 5, none⟩ v5).setCell ⟨w.heap.size + 1, 6, none⟩ v6).setCell ⟨w.heap.size + 1, 7, none⟩ v7)).heap[k]? = w1.heap[k]? := fun k hk v0 v1 v2 v3 v4 v5 v6 v7 =>
      (sets_block (by omega) _ _ _ _ _ _ _ _ _).trans (Below.heap_setCell _ _ _ _ (by show k ≠ w.heap.size; omega))
    refine ⟨_, _, rfl, below_sets (hw1.setCell (by show w.heap.size ≤ w.heap.size; omega) _) (Nat.le_succ _) _ _ _ _ _ _ _ _, ⟨_, _, rfl, (hSo.1.mono fun k hk => hblk k hk.1 _ _ _ _ _ _ _ _).sub fun k hk => ?_, hSo.2.1, hs0, hs1, h16⟩⟩
    rw [sets_size, size_set]; omega
end Go.Proofs.YtibpieomldhomaaGreatDoor

namespace Go.Proofs.YtibpieomldhomaaGreatDoor
set_option linter.unusedSimpArgs false
set_option linter.unusedVariables false
open Go.RowKit

theorem fieldResultS (FW : World) (tmps : Array Value) (N : Nat) (ok : Bool) (v0 v1 v2 v3 v4 v5 v6 v7 : Value) (h6 : tmps.getD 6 undef = .pointer (some ⟨N, 0, none⟩)) (h7 : tmps.getD 7 undef = .bool ok)
    (d0 : FW.cell? ⟨N, 0, none⟩ = some v0) (d1 : FW.cell? ⟨N, 1, none⟩ = some v1) (d2 : FW.cell? ⟨N, 2, none⟩ = some v2) (d3 : FW.cell? ⟨N, 3, none⟩ = some v3) (d4 : FW.cell? ⟨N, 4, none⟩ = some v4) (d5 : FW.cell? ⟨N, 5, none⟩ = some v5) (d6 : FW.cell? ⟨N, 6, none⟩ = some v6) (d7 : FW.cell? ⟨N, 7, none⟩ = some v7) :
    (results Tryz.f6 tmps).run Tryz.prog FW = .ok (.tuple #[.agg #[v0, v1, v2, v3, v4, v5, v6, v7], .bool ok]) FW := by
  simp only [Array.getD_eq_getD_getElem?] at h6 h7
  simp [results, Tryz.results6, go_sem, h6, h7, d0, d1, d2, d3, d4, d5, d6, d7]

set_option maxRecDepth 20000 in
set_option maxHeartbeats 3200000 in
theorem PartFieldS_any (p : Pt) (s f : ByteArray) (w : World) (B : Nat) (v : Value) (hP : PRep w (· < B) p v) (hB : B ≤ w.heap.size) (hz : szP p ≤ 1048576) :
    Calls Tryz.prog 6 #[v, .string s, .string f] w fun e w' => ∃ (nm of : ByteArray) (l m fr hi sh : Bool) (na : Option Addr) (nc : Nat),
      e = .returned (.tuple #[.agg #[.string nm, .string of, .bool l, .bool m, .bool fr, .bool hi, .bool sh, .slice na (fieldAns p s f).needs.length nc], .bool (fieldOkB p s f)]) ∧ Below w.heap.size w w' ∧
      FRep w' (fun b => w.heap.size ≤ b ∧ b < w'.heap.size) (fieldAns p s f) (.agg #[.string nm, .string of, .bool l, .bool m, .bool fr, .bool hi, .bool sh, .slice na (fieldAns p s f).needs.length nc]) := by
  have hP' := hP
  have hfs := typeOr_sz p s hz
  have hfn := fieldOr_needs (typeOr p s) f hfs
  obtain ⟨pname, types⟩ := p
  obtain ⟨ta, tc, rfl, hK, hnc, hpn⟩ := hP
  simp only at hK hnc hpn hP'
  obtain ⟨X, hXe⟩ : ∃ X, X = ((w.alloc (.cells #[.string pname, .slice ta types.length tc] 25)).alloc (.cells #[.string ByteArray.empty, .string ByteArray.empty, .bool false, .bool false, .bool false, .bool false, .bool false, .slice none 0 0] 30)) := ⟨_, rfl⟩
  have PC : ∀ W, Below (w.heap.size + 1 + 1) X W → W.cell? ⟨w.heap.size, 0, none⟩ = some (.string pname) ∧ W.cell? ⟨w.heap.size, 1, none⟩ = some (.slice ta types.length tc) ∧ W.heap[w.heap.size + 1]? = some (.cells #[.string ByteArray.empty, .string ByteArray.empty, .bool false, .bool false, .bool false, .bool false, .bool false, .slice none 0 0] 30 (0, 0)) ∧ Below w.heap.size w W ∧ w.heap.size + 1 < W.heap.size := fun W h => by
    subst hXe
    have hz := h.size
    simp at hz
    have a : ∀ i (hi : i < 2), W.cell? ⟨w.heap.size, i, none⟩ = some #[Value.string pname, .slice ta types.length tc][i] := fun i hi => (h.cell (p := ⟨w.heap.size, i, none⟩) (by show w.heap.size < _; omega)).trans (((below_box _ _).cell (p := ⟨w.heap.size, i, none⟩) (by show w.heap.size < _; simp)).trans (box_new _ _ i (by simpa using hi)))
    have hb : W.heap[w.heap.size + 1]? = some (.cells #[.string ByteArray.empty, .string ByteArray.empty, .bool false, .bool false, .bool false, .bool false, .bool false, .slice none 0 0] 30 (0, 0)) := (h.block (w.heap.size + 1) (by omega)).trans (by have := heap_alloc_new (w.alloc (.cells #[.string pname, .slice ta types.length tc] 25)) (.cells #[.string ByteArray.empty, .string ByteArray.empty, .bool false, .bool false, .bool false, .bool false, .bool false, .slice none 0 0] 30); simpa using this)
    exact ⟨a 0 (by omega), a 1 (by omega), hb, (below_box2 w _ _).trans (h.mono (by omega)), by omega⟩
  have hT0 : Below (w.heap.size + 1 + 1) X ((w.alloc (.cells #[.string pname, .slice ta types.length tc] 25)).alloc (.cells #[.string ByteArray.empty, .string ByteArray.empty, .bool false, .bool false, .bool false, .bool false, .bool false, .slice none 0 0] 30)) := by rw [hXe]; exact Below.refl _ _
  clear hXe
  have hBW := fun W (h : Below (w.heap.size + 1 + 1) X W) => show B ≤ W.heap.size by have := (PC W h).2.2.2.2; omega
  have hC := fun W h => PartCheckS_any ⟨pname, types⟩ W B _ (hP'.under ((PC W h).2.2.2.1.mono hB)) (hBW W h) hz
  have hI := fun W h => l2Type_any ⟨pname, types⟩ W B _ s (hP'.under ((PC W h).2.2.2.1.mono hB)) (hBW W h)
  have hok := partFault_ok ⟨pname, types⟩
  have HTX : Hid (typeIx ⟨pname, types⟩ s = firstTo (fun i => (tth types i).name.toList == s.toList) types.length) := rfl
  simp only at hI
  rw [← HTX.out] at hI
  generalize partFault ⟨pname, types⟩ = pf at hC hok
  obtain ⟨pa, pc⟩ := pf
  simp only at hC hok
  have hfld := field_code (.int .i64 pa) (.int .i64 pc)
  have I1 := hI _ hT0
  cases ho : okP ⟨pname, types⟩
  · have HA : Hid (fieldAns ⟨pname, types⟩ s f = F.zero ∧ fieldOkB ⟨pname, types⟩ s f = false) := ⟨by rw [fieldAns, if_neg (by rw [ho]; simp)], by rw [fieldOkB, ho]; rfl⟩
    have hne : (pc != 0) = true := by simp; intro e; rw [hok.1 e] at ho; cases ho
    clear hok ho hfs hfn
    generalize typeIx ⟨pname, types⟩ s = ix at I1
    go_enter Tryz.func6, Tryz.ntmps6
    go_wp2_with (first
      | (
        go_at_call 19
        refine I1.mono ?_
        rintro e w1 ⟨rfl, hb1⟩
        have hT1 := hT0.trans (hb1.mono (by simp))
        obtain ⟨q0, q1, -, hw1, hz1⟩ := PC w1 hT1)
      | (
        go_at_call 9
        refine (hC w1 hT1).mono ?_
        rintro e w2 ⟨rfl, hb2⟩
        have hT2 := hT1.trans (hb2.mono (by omega))
        obtain ⟨p0, p1, hbx, hw2, hz2⟩ := PC w2 hT2
        obtain ⟨a0, b0⟩ := box_at hbx 0 (by simp)
        obtain ⟨a1, b1⟩ := box_at hbx 1 (by simp)
        obtain ⟨a2, b2⟩ := box_at hbx 2 (by simp)
        obtain ⟨a3, b3⟩ := box_at hbx 3 (by simp)
        obtain ⟨a4, b4⟩ := box_at hbx 4 (by simp)
        obtain ⟨a5, b5⟩ := box_at hbx 5 (by simp)
        obtain ⟨a6, b6⟩ := box_at hbx 6 (by simp)
        obtain ⟨a7, b7⟩ := box_at hbx 7 (by simp)))
    obtain ⟨d0, d1, d2, d3, d4, d5, d6, d7⟩ := sets_cells hbx rfl (.string ⟨#[]⟩) (.string ⟨#[]⟩) (.bool false) (.bool false) (.bool false) (.bool false) (.bool false) (.slice none 0 0) _ rfl
    refine bodyPost_ret (fieldResultS _ _ (w.heap.size + 1) false (.string ⟨#[]⟩) (.string ⟨#[]⟩) (.bool false) (.bool false) (.bool false) (.bool false) (.bool false) (.slice none 0 0) rfl rfl d0 d1 d2 d3 d4 d5 d6 d7) rfl ?_
    rw [HA.out.1, HA.out.2]
    exact ⟨_, _, _, _, _, _, _, _, _, rfl, below_sets hw2 (Nat.le_succ _) _ _ _ _ _ _ _ _, FRep.zero _ _⟩
  have HO : Hid (okP ⟨pname, types⟩ = true) := ho
  have hp0 : pc = 0 := hok.2 ho
  subst hp0
  clear hok ho
  rcases firstTo_cases (fun i => (tth types i).name.toList == s.toList) types.length with ⟨hx, -⟩ | ⟨g, hx, hg, -, -⟩
  · rw [← HTX.out] at hx
    have HA : Hid (fieldAns ⟨pname, types⟩ s f = F.zero ∧ fieldOkB ⟨pname, types⟩ s f = false) := ⟨by rw [fieldAns, if_pos HO.out, if_neg (by rw [hx]; omega)], by rw [fieldOkB, hx]; simp⟩
    rw [hx] at I1
    clear hx hfs hfn
    go_enter Tryz.func6, Tryz.ntmps6
    go_wp2_with (first
      | (
        go_at_call 19
        refine I1.mono ?_
        rintro e w1 ⟨rfl, hb1⟩
        have hT1 := hT0.trans (hb1.mono (by simp))
        obtain ⟨q0, q1, -, hw1, hz1⟩ := PC w1 hT1)
      | (
        go_at_call 9
        refine (hC w1 hT1).mono ?_
        rintro e w2 ⟨rfl, hb2⟩
        have hT2 := hT1.trans (hb2.mono (by omega))
        obtain ⟨p0, p1, hbx, hw2, hz2⟩ := PC w2 hT2
        obtain ⟨a0, b0⟩ := box_at hbx 0 (by simp)
        obtain ⟨a1, b1⟩ := box_at hbx 1 (by simp)
        obtain ⟨a2, b2⟩ := box_at hbx 2 (by simp)
        obtain ⟨a3, b3⟩ := box_at hbx 3 (by simp)
        obtain ⟨a4, b4⟩ := box_at hbx 4 (by simp)
        obtain ⟨a5, b5⟩ := box_at hbx 5 (by simp)
        obtain ⟨a6, b6⟩ := box_at hbx 6 (by simp)
        obtain ⟨a7, b7⟩ := box_at hbx 7 (by simp)))
    obtain ⟨d0, d1, d2, d3, d4, d5, d6, d7⟩ := sets_cells hbx rfl (.string ⟨#[]⟩) (.string ⟨#[]⟩) (.bool false) (.bool false) (.bool false) (.bool false) (.bool false) (.slice none 0 0) _ rfl
    refine bodyPost_ret (fieldResultS _ _ (w.heap.size + 1) false (.string ⟨#[]⟩) (.string ⟨#[]⟩) (.bool false) (.bool false) (.bool false) (.bool false) (.bool false) (.slice none 0 0) rfl rfl d0 d1 d2 d3 d4 d5 d6 d7) rfl ?_
    rw [HA.out.1, HA.out.2]
    exact ⟨_, _, _, _, _, _, _, _, _, rfl, below_sets hw2 (Nat.le_succ _) _ _ _ _ _ _ _ _, FRep.zero _ _⟩
  rw [← HTX.out] at hx
  have hto : typeOr ⟨pname, types⟩ s = tth types g := by rw [typeOr, if_pos (by rw [hx]; omega), hx]; rfl
  have HA0 : Hid (fieldAns ⟨pname, types⟩ s f = fieldOr (tth types g) f ∧ fieldOkB ⟨pname, types⟩ s f = decide (0 ≤ fieldIx (tth types g) f)) := ⟨by rw [fieldAns, if_pos HO.out, if_pos (by rw [hx]; omega), hto], by rw [fieldOkB, HO.out, hx, hto]; simp⟩
  rw [hto] at hfs hfn
  rw [hx] at I1
  clear hx hto
  obtain ⟨b, off, fa, fc, rfl, htr, hcs⟩ := hK.at hB g hg
  obtain ⟨fa', fc', e0, e1, e2, hff, hffc, hs1, hs2⟩ := htr.parts
  simp only [Value.slice.injEq] at e2
  obtain ⟨rfl, -, rfl⟩ := e2
  clear e0 e1
  have hgi : (g : Int) < (types.length : Int) := by omega
  have hg0 : ¬ (g : Int) < 0 := by omega
  have hL := fun W h => l2Field_any (tth types g) W B _ f (htr.under ((PC W h).2.2.2.1.mono hB)) (hBW W h)
  have HFX : Hid (fieldIx (tth types g) f = firstTo (fun i => (fth (tth types g).fields i).name.toList == f.toList) (tth types g).fields.length) := rfl
  rcases firstTo_cases (fun i => (fth (tth types g).fields i).name.toList == f.toList) (tth types g).fields.length with ⟨hx, -⟩ | ⟨h, hx, hh, -, -⟩
  · rw [hx] at hL
    have HA : Hid (fieldAns ⟨pname, types⟩ s f = F.zero ∧ fieldOkB ⟨pname, types⟩ s f = false) := ⟨by rw [HA0.out.1, fieldOr, if_neg (by rw [HFX.out, hx]; omega)], by rw [HA0.out.2, HFX.out, hx]; rfl⟩
    clear hx hfs hfn
    go_enter Tryz.func6, Tryz.ntmps6
    go_wp2_with (first
      | (
        go_at_call 19
        refine I1.mono ?_
        rintro e w1 ⟨rfl, hb1⟩
        have hT1 := hT0.trans (hb1.mono (by simp))
        obtain ⟨q0, q1, -, hw1, hz1⟩ := PC w1 hT1)
      | (
        go_at_call 9
        refine (hC w1 hT1).mono ?_
        rintro e w2 ⟨rfl, hb2⟩
        have hT2 := hT1.trans (hb2.mono (by omega))
        obtain ⟨p0, p1, -, hw2, hz2⟩ := PC w2 hT2
        obtain ⟨c0, c1, c2⟩ := hcs w2 hw2)
      | (
        go_at_call 20
        refine (hL w2 hT2).mono ?_
        rintro e w3 ⟨rfl, hb3⟩
        have hT3 := hT2.trans (hb3.mono (by omega))
        obtain ⟨y0, y1, hbx, hw3, hz3⟩ := PC w3 hT3
        obtain ⟨a0, b0⟩ := box_at hbx 0 (by simp)
        obtain ⟨a1, b1⟩ := box_at hbx 1 (by simp)
        obtain ⟨a2, b2⟩ := box_at hbx 2 (by simp)
        obtain ⟨a3, b3⟩ := box_at hbx 3 (by simp)
        obtain ⟨a4, b4⟩ := box_at hbx 4 (by simp)
        obtain ⟨a5, b5⟩ := box_at hbx 5 (by simp)
        obtain ⟨a6, b6⟩ := box_at hbx 6 (by simp)
        obtain ⟨a7, b7⟩ := box_at hbx 7 (by simp)))
    obtain ⟨d0, d1, d2, d3, d4, d5, d6, d7⟩ := sets_cells hbx rfl (.string ⟨#[]⟩) (.string ⟨#[]⟩) (.bool false) (.bool false) (.bool false) (.bool false) (.bool false) (.slice none 0 0) _ rfl
    refine bodyPost_ret (fieldResultS _ _ (w.heap.size + 1) false (.string ⟨#[]⟩) (.string ⟨#[]⟩) (.bool false) (.bool false) (.bool false) (.bool false) (.bool false) (.slice none 0 0) rfl rfl d0 d1 d2 d3 d4 d5 d6 d7) rfl ?_
    rw [HA.out.1, HA.out.2]
    exact ⟨_, _, _, _, _, _, _, _, _, rfl, below_sets hw3 (Nat.le_succ _) _ _ _ _ _ _ _ _, FRep.zero _ _⟩
  rw [hx] at hL
  have HA : Hid (fieldAns ⟨pname, types⟩ s f = fth (tth types g).fields h ∧ fieldOkB ⟨pname, types⟩ s f = true) := ⟨by rw [HA0.out.1, fieldOr, HFX.out, hx, if_pos (by omega)]; rfl, by rw [HA0.out.2, HFX.out, hx]; simp⟩
  have hnn := needs_small _ hfs h
  clear hx hfs hfn HA0 HFX
  obtain ⟨fb, foff, na, nc, rfl, hfr, hcf⟩ := hff.at hB h hh
  have hhi : (h : Int) < ((tth types g).fields.length : Int) := by omega
  have hh0 : ¬ (h : Int) < 0 := by omega
  have hCP := fun W h' => l2Copy_any (fth (tth types g).fields h) W B _ (hfr.under ((PC W h').2.2.2.1.mono hB)) (hBW W h') hnn
  generalize fth (tth types g).fields h = ff at *
  go_enter Tryz.func6, Tryz.ntmps6
  go_wp2_with (first
    | (
      go_at_call 19
      refine I1.mono ?_
      rintro e w1 ⟨rfl, hb1⟩
      have hT1 := hT0.trans (hb1.mono (by simp))
      obtain ⟨q0, q1, -, hw1, hz1⟩ := PC w1 hT1)
    | (
      go_at_call 9
      refine (hC w1 hT1).mono ?_
      rintro e w2 ⟨rfl, hb2⟩
      have hT2 := hT1.trans (hb2.mono (by omega))
      obtain ⟨p0, p1, -, hw2, hz2⟩ := PC w2 hT2
      obtain ⟨c0, c1, c2⟩ := hcs w2 hw2)
    | (
      go_at_call 20
      refine (hL w2 hT2).mono ?_
      rintro e w3 ⟨rfl, hb3⟩
      have hT3 := hT2.trans (hb3.mono (by omega))
      obtain ⟨y0, y1, -, hw3, hz3⟩ := PC w3 hT3
      obtain ⟨c30, c31, c32⟩ := hcs w3 hw3
      obtain ⟨g0, g1, g2, g3, g4, g5, g6, g7⟩ := hcf w3 hw3)
    | (
      go_at_call 21
      refine (hCP w3 hT3).mono ?_
      rintro e w4 ⟨a', c', rfl, hb4, hf4⟩
      have hT4 := hT3.trans (hb4.mono (by omega))
      obtain ⟨-, -, hbx, hw4, hz4⟩ := PC w4 hT4
      obtain ⟨a0, b0⟩ := box_at hbx 0 (by simp)
      obtain ⟨a1, b1⟩ := box_at hbx 1 (by simp)
      obtain ⟨a2, b2⟩ := box_at hbx 2 (by simp)
      obtain ⟨a3, b3⟩ := box_at hbx 3 (by simp)
      obtain ⟨a4, b4⟩ := box_at hbx 4 (by simp)
      obtain ⟨a5, b5⟩ := box_at hbx 5 (by simp)
      obtain ⟨a6, b6⟩ := box_at hbx 6 (by simp)
      obtain ⟨a7, b7⟩ := box_at hbx 7 (by simp)))
  have hz43 := hb4.size
  obtain ⟨d0, d1, d2, d3, d4, d5, d6, d7⟩ := sets_cells hbx rfl (.string ff.name) (.string ff.of) (.bool ff.list) (.bool ff.must) (.bool ff.far) (.bool ff.hidden) (.bool ff.shared) (.slice a' ff.needs.length c') _ rfl
  refine bodyPost_ret (fieldResultS _ _ (w.heap.size + 1) true (.string ff.name) (.string ff.of) (.bool ff.list) (.bool ff.must) (.bool ff.far) (.bool ff.hidden) (.bool ff.shared) (.slice a' ff.needs.length c') rfl rfl d0 d1 d2 d3 d4 d5 d6 d7) rfl ?_
  rw [HA.out.1, HA.out.2]
  refine ⟨_, _, _, _, _, _, _, _, _, rfl, below_sets hw4 (Nat.le_succ _) _ _ _ _ _ _ _ _, (hf4.mono fun k hk => sets_block (by omega) _ _ _ _ _ _ _ _ _).sub fun k hk => ?_⟩
  rw [sets_size]; omega
end Go.Proofs.YtibpieomldhomaaGreatDoor
