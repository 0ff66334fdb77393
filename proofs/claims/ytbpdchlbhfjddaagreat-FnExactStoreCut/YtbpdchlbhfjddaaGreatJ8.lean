import Derived.Test.YtbpdchlbhfjddaaGreatJ7
import Derived.Deep.RegionHeld3
import Derived.Test.YtbpdchlbhfjddaaGreatJ4
namespace Go.Proofs.YtbpdchlbhfjddaaGreat
set_option linter.unusedSimpArgs false
set_option linter.unusedVariables false
open Go.RowKit

/-- A change within a range of blocks that keeps of every cell its kind: texts stay texts, bools stay bools, lists stay as they are. -/
structure Marked (lo hi : Nat) (w w' : World) : Prop where
  os : w'.os = w.os
  tape : w'.tape = w.tape
  output : w'.output = w.output
  size : w.heap.size ≤ w'.heap.size
  block : ∀ b, b < w.heap.size → ¬ (lo ≤ b ∧ b < hi) → w'.heap[b]? = w.heap[b]?
  text : ∀ a s, w.cell? a = some (.string s) → ∃ s', w'.cell? a = some (.string s')
  flag : ∀ a s, w.cell? a = some (.bool s) → ∃ s', w'.cell? a = some (.bool s')
  list : ∀ a x n c, w.cell? a = some (.slice x n c) → w'.cell? a = some (.slice x n c)
  frozen : ∀ a, a.block < w.heap.size → w'.frozen? a = w.frozen? a

theorem cell_block {w : World} {t : Addr} {old : Value} (h : w.cell? t = some old) : t.block < w.heap.size := by
  rcases Nat.lt_or_ge t.block w.heap.size with h1 | h1
  · exact h1
  · simp [World.cell?, Array.getElem?_eq_none h1] at h

theorem Marked.refl (lo hi : Nat) (w : World) : Marked lo hi w w :=
  ⟨rfl, rfl, rfl, Nat.le_refl _, fun _ _ _ => rfl, fun _ s h => ⟨s, h⟩, fun _ s h => ⟨s, h⟩, fun _ _ _ _ h => h, fun _ _ => rfl⟩
theorem Marked.trans {lo hi : Nat} {a b c : World} (h : Marked lo hi a b) (k : Marked lo hi b c) : Marked lo hi a c :=
  ⟨k.os.trans h.os, k.tape.trans h.tape, k.output.trans h.output, Nat.le_trans h.size k.size,
    fun i hi hn => (k.block i (Nat.lt_of_lt_of_le hi h.size) hn).trans (h.block i hi hn),
    fun a s e => by obtain ⟨s', e'⟩ := h.text a s e; exact k.text a s' e',
    fun a s e => by obtain ⟨s', e'⟩ := h.flag a s e; exact k.flag a s' e',
    fun a x n c e => k.list a x n c (h.list a x n c e), fun a ha => (k.frozen a (Nat.lt_of_lt_of_le ha h.size)).trans (h.frozen a ha)⟩
theorem Marked.of_below {w w' : World} (lo hi : Nat) (h : Below w.heap.size w w') : Marked lo hi w w' :=
  ⟨h.os, h.tape, h.output, h.size, fun b hb _ => h.block b hb, fun a s e => ⟨s, (h.cell (cell_block e)).trans e⟩, fun a s e => ⟨s, (h.cell (cell_block e)).trans e⟩,
    fun a x n c e => (h.cell (cell_block e)).trans e, fun a ha => h.frozen ha⟩
theorem Marked.set_text {w : World} {lo hi : Nat} {p : Addr} {s : ByteArray} (h : w.cell? p = some (.string s)) (h1 : lo ≤ p.block) (h2 : p.block < hi) (t : ByteArray) : Marked lo hi w (w.setCell p (.string t)) := by
  refine ⟨rfl, rfl, rfl, by rw [size_set]; exact Nat.le_refl _, fun b hb hn => Below.heap_setCell _ _ _ _ (by intro e; exact hn (by rw [e]; exact ⟨h1, h2⟩)), fun a u e => ?_, fun a u e => ?_, fun a x n c e => ?_, fun a ha => by simp⟩
  · by_cases hp : p = a
    · subst hp; exact ⟨t, World.cell?_setCell_same _ _ _ h⟩
    · exact ⟨u, (World.cell?_setCell_other _ _ _ _ hp).trans e⟩
  · have hp : p ≠ a := by intro hp; rw [hp, e] at h; cases h
    exact ⟨u, (World.cell?_setCell_other _ _ _ _ hp).trans e⟩
  · have hp : p ≠ a := by intro hp; rw [hp, e] at h; cases h
    exact (World.cell?_setCell_other _ _ _ _ hp).trans e
theorem Marked.set_flag {w : World} {lo hi : Nat} {p : Addr} {s : Bool} (h : w.cell? p = some (.bool s)) (h1 : lo ≤ p.block) (h2 : p.block < hi) (t : Bool) : Marked lo hi w (w.setCell p (.bool t)) := by
  refine ⟨rfl, rfl, rfl, by rw [size_set]; exact Nat.le_refl _, fun b hb hn => Below.heap_setCell _ _ _ _ (by intro e; exact hn (by rw [e]; exact ⟨h1, h2⟩)), fun a u e => ?_, fun a u e => ?_, fun a x n c e => ?_, fun a ha => by simp⟩
  · have hp : p ≠ a := by intro hp; rw [hp, e] at h; cases h
    exact ⟨u, (World.cell?_setCell_other _ _ _ _ hp).trans e⟩
  · by_cases hp : p = a
    · subst hp; exact ⟨t, World.cell?_setCell_same _ _ _ h⟩
    · exact ⟨u, (World.cell?_setCell_other _ _ _ _ hp).trans e⟩
  · have hp : p ≠ a := by intro hp; rw [hp, e] at h; cases h
    exact (World.cell?_setCell_other _ _ _ _ hp).trans e

/-- A cell that holds a text and may be written. -/
def TextAt (w : World) (a : Addr) : Prop := (∃ s, w.cell? a = some (.string s)) ∧ w.frozen? a = false
def FlagAt (w : World) (a : Addr) : Prop := (∃ s, w.cell? a = some (.bool s)) ∧ w.frozen? a = false
theorem TextAt.keep {lo hi : Nat} {w w' : World} {a : Addr} (h : TextAt w a) (m : Marked lo hi w w') : TextAt w' a := by
  obtain ⟨⟨s, e⟩, f⟩ := h
  exact ⟨m.text a s e, (m.frozen a (cell_block e)).trans f⟩
theorem FlagAt.keep {lo hi : Nat} {w w' : World} {a : Addr} (h : FlagAt w a) (m : Marked lo hi w w') : FlagAt w' a := by
  obtain ⟨⟨s, e⟩, f⟩ := h
  exact ⟨m.flag a s e, (m.frozen a (cell_block e)).trans f⟩

/-- A list of texts that may be written, within a range of blocks. -/
def WStrs (w : World) (lo hi n : Nat) (a : Option Addr) : Prop := 0 < n → ∃ b off, a = some ⟨b, off, none⟩ ∧ lo ≤ b ∧ b < hi ∧ ∀ i, i < n → TextAt w ⟨b, off + i, none⟩
theorem WStrs.keep {lo hi lo' hi' n : Nat} {w w' : World} {a : Option Addr} (h : WStrs w lo hi n a) (m : Marked lo' hi' w w') : WStrs w' lo hi n a := fun hn => by
  obtain ⟨b, off, e, h1, h2, hc⟩ := h hn
  exact ⟨b, off, e, h1, h2, fun i hi => (hc i hi).keep m⟩

set_option maxRecDepth 20000 in
set_option maxHeartbeats 1600000 in
theorem markStringS_any (n c k lo hi : Nat) (a : Option Addr) (w : World) (hw : WStrs w lo hi n a) (hn : n ≤ 1048576) (hk : k ≤ 1000000000000) :
    Calls Tryz.prog 49 #[.slice a n c, .int .i64 k] w fun e w' => e = .returned (.int .i64 ((k + n : Nat) : Int)) ∧ Marked lo hi w w' ∧ (∀ b off, a = some ⟨b, off, none⟩ → ∀ i, i < n → w'.cell? ⟨b, off + i, none⟩ = some (.string (mtext (k + i)))) := by
  go_enter Tryz.func49, Tryz.ntmps49
  go_wp2_with fail
  go_loopw [1, 5] (fun kk i wr => ∃ j : Nat, j ≤ n ∧ kk = .int .i64 ((k + j : Nat) : Int) ∧ i = .int .i64 j ∧ Marked lo hi w wr ∧ (∀ b off, a = some ⟨b, off, none⟩ → ∀ i, i < j → wr.cell? ⟨b, off + i, none⟩ = some (.string (mtext (k + i))))) (fun _ i _ => n - (intOf i).toNat)
  case atStart => exact ⟨0, Nat.zero_le _, rfl, rfl, Marked.refl _ _ _, fun _ _ _ i hi => by omega⟩
  case round =>
    obtain ⟨j, hj, rfl, rfl, hm, hc⟩ := hrel
    obtain ⟨w0, rfl⟩ : ∃ x, x = wr := ⟨wr, rfl⟩
    by_cases hlt : j < n
    · obtain ⟨b, off, rfl, h1, h2, hcc⟩ := hw (by omega)
      have HC : Hid (∀ i, i < j → w0.cell? ⟨b, off + i, none⟩ = some (.string (mtext (k + i)))) := fun i hi => hc b off rfl i hi
      have HT : Hid (TextAt w0 ⟨b, off + j, none⟩) := (hcc j hlt).keep hm
      have hM := markText_any (k + j) w0 (by omega)
      clear hc hcc
      have hji : (j : Int) < (n : Int) := by omega
      go_wp2_with (
        go_at_call 27
        refine hM.mono ?_
        rintro e w1 ⟨rfl, hb1⟩
        have hm1 := Marked.of_below lo hi hb1
        obtain ⟨⟨s, ht⟩, hf⟩ := HT.out.keep hm1)
      go_roundw
      case rel =>
        refine ⟨j + 1, by omega, by go_num, by go_num, (hm.trans hm1).trans (Marked.set_text ht h1 h2 _), fun b' off' he i hi => ?_⟩
        simp only [Option.some.injEq, Addr.mk.injEq, and_true] at he
        obtain ⟨rfl, rfl⟩ := he
        by_cases hij : i = j
        · subst hij; exact World.cell?_setCell_same _ _ _ ht
        · rw [World.cell?_setCell_other _ _ _ _ (by intro e; simp only [Addr.mk.injEq] at e; omega)]
          have hx := HC.out i (by omega)
          exact (hb1.cell (cell_block hx)).trans hx
      case measure => simp [intOf]; omega
    · go_wp2_with fail
      go_ret
      have e : j = n := by omega
      exact ⟨by rw [e]; rfl, hm, by rw [← e]; exact hc⟩

set_option maxRecDepth 20000 in
set_option maxHeartbeats 1600000 in
theorem heldStringS_any (n c k : Nat) (a : Option Addr) (w : World) (ha : 0 < n → ∃ b off, a = some ⟨b, off, none⟩ ∧ ∀ i, i < n → w.cell? ⟨b, off + i, none⟩ = some (.string (mtext (k + i)))) (hn : n ≤ 1048576) (hk : k ≤ 1000000000000) :
    Calls Tryz.prog 51 #[.slice a n c, .int .i64 k] w fun e w' => e = .returned (.int .i64 ((k + n : Nat) : Int)) ∧ Below w.heap.size w w' := by
  go_enter Tryz.func51, Tryz.ntmps51
  go_wp2_with fail
  go_loopw [1, 5] (fun kk i wr => ∃ j : Nat, j ≤ n ∧ kk = .int .i64 ((k + j : Nat) : Int) ∧ i = .int .i64 j ∧ Below w.heap.size w wr) (fun _ i _ => n - (intOf i).toNat)
  case atStart => exact ⟨0, Nat.zero_le _, rfl, rfl, Below.refl _ _⟩
  case round =>
    obtain ⟨j, hj, rfl, rfl, hb⟩ := hrel
    obtain ⟨w0, rfl⟩ : ∃ x, x = wr := ⟨wr, rfl⟩
    by_cases hlt : j < n
    · obtain ⟨b, off, rfl, hcc⟩ := ha (by omega)
      have hx := hcc j hlt
      have hbl := cell_block hx
      have c0 := (hb.cell hbl).trans hx
      have hM := markText_any (k + j) w0.drew (by omega)
      have hji : (j : Int) < (n : Int) := by omega
      have hz := hb.size
      clear hcc
      generalize mtext (k + j) = mt at hx c0 hM
      go_wp2_with fail
      go_region_held3 (fun w' => w'.cell? ⟨b, off + j, none⟩ = some (.string mt)) (go_keep)
        (first
          | (
            go_at_call 27
            refine hM.mono ?_
            rintro e w1 ⟨rfl, hb1⟩
            have hb1' := below_undrew hb1
            have hw1 := hb.trans (hb1'.mono hz)
            have c1 := (hw1.cell hbl).trans hx))
      go_wp2_with fail
      go_roundw
      case rel => exact ⟨j + 1, by omega, by go_num, by go_num, hw1⟩
      case measure => simp [intOf]; omega
    · go_wp2_with fail
      go_ret
      have e : j = n := by omega
      exact ⟨by rw [e]; rfl, hb⟩
end Go.Proofs.YtbpdchlbhfjddaaGreat

namespace Go.Proofs.YtbpdchlbhfjddaaGreat
set_option linter.unusedSimpArgs false
set_option linter.unusedVariables false
open Go.RowKit

mutual
/-- How many marks a value takes inside. -/
def nV : V → Nat
  | .mk _ _ _ ns ks => ns.length + nL ks
/-- How many marks values take. -/
def nL : List V → Nat
  | [] => 0
  | k :: r => 3 + nV k + nL r
end
theorem nV_eq (x : V) : nV x = x.names.length + nL x.kids := by obtain ⟨s, n, t, ns, ks⟩ := x; simp only [nV]
theorem nL_append (a b : List V) : nL (a ++ b) = nL a + nL b := by
  induction a with
  | nil => simp [nL]
  | cons k r ih => simp [nL, ih]; omega
theorem nL_take (ks : List V) (k : Nat) (h : k < ks.length) : nL (ks.take (k + 1)) = nL (ks.take k) + (3 + nV (kth ks k)) := by
  rw [take_kth' ks k h, nL_append]; simp [nL]
theorem nL_part (ks : List V) (k : Nat) : nL (ks.take k) ≤ nL ks := by
  conv => rhs; rw [← List.take_append_drop k ks]
  rw [nL_append]; omega
theorem nV_sz (x : V) : nV x ≤ 3 * szV x := by
  refine v_ind (q := fun x => nV x ≤ 3 * szV x) (fun x ih => ?_) x
  have h1 := sums (f := fun k => 3 + nV k) (g := fun k => 3 * (1 + szV k)) (F := nL) (G := fun l => 3 * (l.length + sL l)) rfl rfl (fun _ _ => by simp [nL]) (fun _ _ => by simp [sL]; omega) x.kids (fun i hi => by have := ih i hi; show 3 + nV (kth x.kids i) ≤ 3 * (1 + szV (kth x.kids i)); omega)
  rw [nV_eq, szV_eq]
  have := len_szNs x.names
  omega

def mkNs (n k : Nat) : List ByteArray := (List.range n).map fun i => mtext (k + i)
theorem mkNs_len (n k : Nat) : (mkNs n k).length = n := by simp [mkNs]
theorem mkNs_nth (n k i : Nat) (h : i < n) : nth (mkNs n k) i = mtext (k + i) := by simp [mkNs, nth, List.getD_eq_getElem?_getD, List.getElem?_map, List.getElem?_range h]
/-- Values as they are when they are marked, from k on. -/
def mkL : List V → Nat → List V
  | [], _ => []
  | .mk _ _ _ ns ks :: r, k => .mk (k : Nat) ((k + 1 : Nat) : Int) (mtext (k + 2)) (mkNs ns.length (k + 3)) (mkL ks (k + 3 + ns.length)) :: mkL r (k + 3 + (ns.length + nL ks))
/-- A value as it is when it is marked, from k on. -/
def mk1 (x : V) (k : Nat) : V := .mk (k : Nat) ((k + 1 : Nat) : Int) (mtext (k + 2)) (mkNs x.names.length (k + 3)) (mkL x.kids (k + 3 + x.names.length))
theorem mkL_cons (x : V) (r : List V) (k : Nat) : mkL (x :: r) k = mk1 x k :: mkL r (k + 3 + nV x) := by
  obtain ⟨s, n, t, ns, ks⟩ := x
  simp only [mkL, mk1, nV]
theorem mkL_len : ∀ (ks : List V) (k : Nat), (mkL ks k).length = ks.length
  | [], _ => by simp [mkL]
  | x :: r, k => by rw [mkL_cons]; simp [mkL_len r]
theorem mkL_kth : ∀ (ks : List V) (k i : Nat), i < ks.length → kth (mkL ks k) i = mk1 (kth ks i) (k + nL (ks.take i))
  | [], _, _, h => by simp at h
  | x :: r, k, 0, _ => by rw [mkL_cons]; simp [kth, nL]
  | x :: r, k, i + 1, h => by
    rw [mkL_cons]
    have := mkL_kth r (k + 3 + nV x) i (by simpa using h)
    simp only [kth, List.getD_cons_succ, List.take_succ_cons, nL] at this ⊢
    rw [this]
    congr 1
    omega

/-- What marks on the kids at a way change. -/
def Sk (lab : Nat → List Nat) (p : List Nat) (b : Nat) : Prop := lab b = 1 :: p ∨ ∃ i, ((i + 2) :: p) <:+ lab b
theorem same_len {a b : Nat} {p q l : List Nat} (h : (a :: p) <:+ l) (h' : (b :: q) <:+ l) (e : p.length = q.length) : a = b ∧ p = q := by
  have := List.suffix_of_suffix_length_le h h' (by simp [e])
  have := this.eq_of_length (by simp [e])
  simpa using this
theorem Sk.zero {lab : Nat → List Nat} {p : List Nat} {b : Nat} (h : lab b = 0 :: p) : ¬ Sk lab p b := by
  rintro (h1 | ⟨i, h1⟩)
  · rw [h] at h1; simp at h1
  · rw [h] at h1
    have := same_len h1 (List.suffix_refl _) rfl
    omega
theorem Sk.up {lab : Nat → List Nat} {p : List Nat} {b i : Nat} (h : Sk lab ((i + 2) :: p) b) : Sk lab p b := by
  rcases h with h1 | ⟨j, h1⟩
  · exact Or.inr ⟨i, by rw [h1]; exact List.suffix_cons _ _⟩
  · exact Or.inr ⟨i, suffix_cons h1⟩
/-- Marks on one kid leave another one alone. -/
theorem apart_kids {lab : Nat → List Nat} {p : List Nat} {b i j : Nat} (hij : i ≠ j) (h : ((i + 2) :: p) <:+ lab b) : lab b ≠ 1 :: p ∧ lab b ≠ 0 :: (j + 2) :: p ∧ ¬ Sk lab ((j + 2) :: p) b := by
  refine ⟨fun e => ?_, fun e => ?_, ?_⟩
  · rw [e] at h
    have := same_len h (List.suffix_refl _) rfl
    omega
  · have h2 : ((j + 2) :: p) <:+ lab b := by rw [e]; exact List.suffix_cons _ _
    have := same_len h h2 rfl
    omega
  · rintro (h1 | ⟨m, h1⟩)
    · have h2 : ((j + 2) :: p) <:+ lab b := by rw [h1]; exact List.suffix_cons _ _
      have := same_len h h2 rfl
      omega
    · have := same_len h (suffix_cons h1) rfl
      omega

/-- Nothing but some blocks has changed; none is frozen that wasn't. -/
structure Only (S : Nat → Prop) (w w' : World) : Prop where
  os : w'.os = w.os
  tape : w'.tape = w.tape
  output : w'.output = w.output
  size : w.heap.size ≤ w'.heap.size
  block : ∀ b, b < w.heap.size → ¬ S b → w'.heap[b]? = w.heap[b]?
  frozen : ∀ a, a.block < w.heap.size → w'.frozen? a = w.frozen? a
theorem Only.refl (S : Nat → Prop) (w : World) : Only S w w := ⟨rfl, rfl, rfl, Nat.le_refl _, fun _ _ _ => rfl, fun _ _ => rfl⟩
theorem Only.trans {S : Nat → Prop} {a b c : World} (h : Only S a b) (k : Only S b c) : Only S a c :=
  ⟨k.os.trans h.os, k.tape.trans h.tape, k.output.trans h.output, Nat.le_trans h.size k.size, fun i hi hn => (k.block i (Nat.lt_of_lt_of_le hi h.size) hn).trans (h.block i hi hn), fun a ha => (k.frozen a (Nat.lt_of_lt_of_le ha h.size)).trans (h.frozen a ha)⟩
theorem Only.wider {S S' : Nat → Prop} {a b : World} (h : Only S a b) (e : ∀ c, S c → S' c) : Only S' a b := ⟨h.os, h.tape, h.output, h.size, fun i hi hn => h.block i hi (fun hs => hn (e i hs)), h.frozen⟩
theorem Only.of_below {w w' : World} (S : Nat → Prop) (h : Below w.heap.size w w') : Only S w w' := ⟨h.os, h.tape, h.output, h.size, fun b hb _ => h.block b hb, fun a ha => h.frozen ha⟩
theorem Only.set {w : World} {S : Nat → Prop} (p : Addr) (v : Value) (h : S p.block) : Only S w (w.setCell p v) :=
  ⟨rfl, rfl, rfl, by rw [size_set]; exact Nat.le_refl _, fun b _ hn => Below.heap_setCell _ _ _ _ (fun e => hn (by rw [e]; exact h)), fun a _ => by simp⟩
theorem Only.of_marked {lo hi : Nat} {w w' : World} {S : Nat → Prop} (h : Marked lo hi w w') (e : ∀ b, lo ≤ b → b < hi → S b) : Only S w w' :=
  ⟨h.os, h.tape, h.output, h.size, fun b hb hn => h.block b hb (fun hh => hn (e b hh.1 hh.2)), h.frozen⟩

/-- markStringS on names that lie apart. -/
theorem markNames_l (lab : Nat → List Nat) (p : List Nat) (ns : List ByteArray) (a : Option Addr) (c k : Nat) (w : World) (h : LStrs w lab p ns a) (hn : ns.length ≤ 1048576) (hk : k ≤ 1000000000000) :
    Calls Tryz.prog 49 #[.slice a ns.length c, .int .i64 k] w fun e w' => e = .returned (.int .i64 ((k + ns.length : Nat) : Int)) ∧ Only (fun b => lab b = 0 :: p) w w' ∧ LStrs w' lab p (mkNs ns.length k) a := by
  by_cases h0 : ns = []
  · subst h0
    refine (markStringS_any 0 c k 0 0 a w (fun h => by omega) (by omega) hk).mono ?_
    rintro e w' ⟨rfl, hm, -⟩
    exact ⟨rfl, Only.of_marked hm (fun b h1 h2 => by omega), fun h => absurd rfl h⟩
  · obtain ⟨b, off, rfl, hl, hf, hc⟩ := h h0
    refine (markStringS_any ns.length c k b (b + 1) _ w (fun _ => ⟨b, off, rfl, Nat.le_refl _, Nat.lt_succ_self _, fun i hi => ⟨⟨_, hc i hi⟩, hf _⟩⟩) hn hk).mono ?_
    rintro e w' ⟨rfl, hm, hcc⟩
    have hb := cell_block (hc 0 (List.length_pos_iff.2 h0))
    refine ⟨rfl, Only.of_marked hm (fun b' h1 h2 => by rw [show b' = b by omega]; exact hl), fun _ => ⟨b, off, rfl, hl, fun i => (hm.frozen ⟨b, i, none⟩ hb).trans (hf i), fun i hi => ?_⟩⟩
    rw [mkNs_len] at hi
    rw [hcc b off rfl i hi, mkNs_nth _ _ _ hi]

/-- Five cells of a row, each kid in memory of its own. -/
def LRow (w : World) (lab : Nat → List Nat) (p : List Nat) (n : Nat) (X : Nat → V) (b off : Nat) : Prop :=
  ∃ C : Nat → Nat → Value, (∀ i, i < n → ∀ j, j < 5 → w.cell? ⟨b, off + i * 5 + j, none⟩ = some (C i j)) ∧ ∀ i, i < n → LRep w lab ((i + 2) :: p) (X i) (.agg #[C i 0, C i 1, C i 2, C i 3, C i 4])

/-- One kid is marked. -/
theorem LRow.mark {w w' : World} {lab : Nat → List Nat} {p : List Nat} {n : Nat} {X : Nat → V} {b off j : Nat} (h : LRow w lab p n X b off) (hj : j < n) (hb : lab b = 1 :: p) {y : V} {c0 c1 c2 c3 c4 : Value}
    (hlt : ∀ c, lab c ≠ [] → c < w.heap.size) (hO : Only (fun c => c = b ∨ lab c = 0 :: (j + 2) :: p ∨ Sk lab ((j + 2) :: p) c) w w') (hcell : ∀ m, ¬ (off + j * 5 ≤ m ∧ m < off + j * 5 + 3) → w'.cell? ⟨b, m, none⟩ = w.cell? ⟨b, m, none⟩)
    (k0 : w'.cell? ⟨b, off + j * 5, none⟩ = some c0) (k1 : w'.cell? ⟨b, off + j * 5 + 1, none⟩ = some c1) (k2 : w'.cell? ⟨b, off + j * 5 + 2, none⟩ = some c2) (k3 : w'.cell? ⟨b, off + j * 5 + 3, none⟩ = some c3) (k4 : w'.cell? ⟨b, off + j * 5 + 4, none⟩ = some c4)
    (hy : LRep w' lab ((j + 2) :: p) y (.agg #[c0, c1, c2, c3, c4])) : LRow w' lab p n (fun i => if i = j then y else X i) b off := by
  obtain ⟨C, hc, hr⟩ := h
  refine ⟨fun i m => if i = j then [c0, c1, c2, c3, c4].getD m undef else C i m, fun i hi m hm => ?_, fun i hi => ?_⟩
  · show w'.cell? ⟨b, off + i * 5 + m, none⟩ = some (if i = j then [c0, c1, c2, c3, c4].getD m undef else C i m)
    by_cases e : i = j
    · subst e
      rw [if_pos rfl]
      have : m = 0 ∨ m = 1 ∨ m = 2 ∨ m = 3 ∨ m = 4 := by omega
      rcases this with rfl | rfl | rfl | rfl | rfl
      · exact k0
      · exact k1
      · exact k2
      · exact k3
      · exact k4
    · rw [if_neg e, hcell _ (by omega)]
      exact hc i hi m hm
  · by_cases e : i = j
    · subst e
      simpa using hy
    · simp only [if_neg e]
      refine (hr i hi).keep fun c h1 h2 => hO.block c (hlt c h1) ?_
      have ha := apart_kids (j := j) e h2
      rintro (h3 | h3 | h3)
      · rw [h3] at ha; exact ha.1 hb
      · exact ha.2.1 h3
      · exact ha.2.2 h3
end Go.Proofs.YtbpdchlbhfjddaaGreat

namespace Go.Proofs.YtbpdchlbhfjddaaGreat
set_option linter.unusedSimpArgs false
set_option linter.unusedVariables false
open Go.RowKit

/-- What a thing at a way holds stays while all that lies behind the way stays. -/
def Keeps (lab : Nat → List Nat) (p : List Nat) (E : World → Nat → (Nat → Value) → Prop) : Prop :=
  ∀ w w' i c, E w i c → (∀ b, lab b ≠ [] → ((i + 2) :: p) <:+ lab b → w'.heap[b]? = w.heap[b]?) → E w' i c
/-- A list of things of so many cells each, at a way: its block bears the label 1 :: p. -/
def GRow (w : World) (sz n b off : Nat) (E : World → Nat → (Nat → Value) → Prop) : Prop :=
  ∃ C : Nat → Nat → Value, (∀ i, i < n → ∀ j, j < sz → w.cell? ⟨b, off + i * sz + j, none⟩ = some (C i j)) ∧ ∀ i, i < n → E w i (C i)
/-- Within a block nothing but a window has changed; beside it nothing but some blocks. -/
structure Win (S : Nat → Prop) (b lo hi : Nat) (w w' : World) : Prop where
  only : Only S w w'
  cell : ∀ m, ¬ (lo ≤ m ∧ m < hi) → w'.cell? ⟨b, m, none⟩ = w.cell? ⟨b, m, none⟩
theorem Win.refl (S : Nat → Prop) (b lo hi : Nat) (w : World) : Win S b lo hi w w := ⟨Only.refl _ _, fun _ _ => rfl⟩
theorem Win.trans {S : Nat → Prop} {b lo hi : Nat} {a c d : World} (h : Win S b lo hi a c) (k : Win S b lo hi c d) : Win S b lo hi a d :=
  ⟨h.only.trans k.only, fun m hm => (k.cell m hm).trans (h.cell m hm)⟩
theorem Win.below {S : Nat → Prop} {b lo hi : Nat} {w w' : World} (h : Below w.heap.size w w') (hb : b < w.heap.size) : Win S b lo hi w w' :=
  ⟨Only.of_below _ h, fun m _ => h.cell (p := ⟨b, m, none⟩) hb⟩
theorem Win.set {S : Nat → Prop} {b lo hi : Nat} {w : World} (m : Nat) (v : Value) (h : S b) (h1 : lo ≤ m) (h2 : m < hi) : Win S b lo hi w (w.setCell ⟨b, m, none⟩ v) :=
  ⟨Only.set _ _ h, fun n hn => World.cell?_setCell_other _ _ _ _ (by intro e; simp only [Addr.mk.injEq, and_true, true_and] at e; omega)⟩
theorem Win.beside {S S' : Nat → Prop} {b lo hi : Nat} {w w' : World} (h : Only S' w w') (hs : ∀ c, S' c → S c) (hb : b < w.heap.size) (hn : ¬ S' b) : Win S b lo hi w w' :=
  ⟨h.wider hs, fun m _ => World.cell?_of_block (w := w) (a := ⟨b, m, none⟩) (h.block b hb hn)⟩

/-- One thing of a list has been dealt with. -/
theorem GRow.mark {w w' : World} {lab : Nat → List Nat} {p : List Nat} {sz n b off j : Nat} {M U : World → Nat → (Nat → Value) → Prop} (h : GRow w sz n b off (fun w i c => if i < j then M w i c else U w i c)) (hj : j < n) (hb : lab b = 1 :: p)
    (hM : Keeps lab p M) (hU : Keeps lab p U) (hlt : ∀ c, lab c ≠ [] → c < w.heap.size) (hO : Win (fun c => c = b ∨ ((j + 2) :: p) <:+ lab c) b (off + j * sz) (off + j * sz + sz) w w')
    (c : Nat → Value) (hc : ∀ m, m < sz → w'.cell? ⟨b, off + j * sz + m, none⟩ = some (c m)) (hm : M w' j c) : GRow w' sz n b off (fun w i c => if i < j + 1 then M w i c else U w i c) := by
  obtain ⟨C, hC, hr⟩ := h
  refine ⟨fun i m => if i = j then c m else C i m, fun i hi m hms => ?_, fun i hi => ?_⟩
  · show w'.cell? ⟨b, off + i * sz + m, none⟩ = some (if i = j then c m else C i m)
    by_cases e : i = j
    · subst e
      rw [if_pos rfl]
      exact hc m hms
    · rw [if_neg e, hO.cell _ ?_]
      · exact hC i hi m hms
      · rintro ⟨h1, h2⟩
        rcases Nat.lt_or_ge i j with h3 | h3
        · have : (i + 1) * sz ≤ j * sz := Nat.mul_le_mul_right _ (by omega)
          rw [Nat.add_mul, Nat.one_mul] at this
          omega
        · have : (j + 1) * sz ≤ i * sz := Nat.mul_le_mul_right _ (by omega)
          rw [Nat.add_mul, Nat.one_mul] at this
          omega
  · by_cases e : i = j
    · subst e
      have e' : (fun m => if i = i then c m else C i m) = c := by funext m; simp
      simp only [if_pos (Nat.lt_succ_self i), e']
      exact hm
    · have e' : (fun m => if i = j then c m else C i m) = C i := by funext m; simp [e]
      have hk : ∀ b', lab b' ≠ [] → ((i + 2) :: p) <:+ lab b' → w'.heap[b']? = w.heap[b']? := fun b' h1 h2 => hO.only.block b' (hlt b' h1) (by
        rintro (h3 | h3)
        · rw [h3, hb] at h2
          have := same_len h2 (List.suffix_refl _) rfl
          omega
        · have := same_len h2 h3 rfl
          omega)
      have h1 := hr i hi
      show if i < j + 1 then M w' i (fun m => if i = j then c m else C i m) else U w' i (fun m => if i = j then c m else C i m)
      rw [e']
      by_cases e2 : i < j
      · rw [if_pos (by omega)]
        simp only [if_pos e2] at h1
        exact hM _ _ _ _ h1 hk
      · rw [if_neg (by omega)]
        simp only [if_neg e2] at h1
        exact hU _ _ _ _ h1 hk
theorem GRow.start {w : World} {sz n b off : Nat} {M U : World → Nat → (Nat → Value) → Prop} (h : GRow w sz n b off U) : GRow w sz n b off (fun w i c => if i < 0 then M w i c else U w i c) := by
  obtain ⟨C, h1, h2⟩ := h
  exact ⟨C, h1, fun i hi => by simpa using h2 i hi⟩
theorem GRow.done {w : World} {sz n b off : Nat} {M U : World → Nat → (Nat → Value) → Prop} (h : GRow w sz n b off (fun w i c => if i < n then M w i c else U w i c)) : GRow w sz n b off M := by
  obtain ⟨C, h1, h2⟩ := h
  exact ⟨C, h1, fun i hi => by have := h2 i hi; simp only [if_pos hi] at this; exact this⟩
theorem GRow.now {w : World} {sz n b off j : Nat} {M U : World → Nat → (Nat → Value) → Prop} (h : GRow w sz n b off (fun w i c => if i < j then M w i c else U w i c)) (hj : j < n) : ∃ c : Nat → Value, (∀ m, m < sz → w.cell? ⟨b, off + j * sz + m, none⟩ = some (c m)) ∧ U w j c := by
  obtain ⟨C, h1, h2⟩ := h
  exact ⟨C j, h1 j hj, by have := h2 j hj; simp only [Nat.lt_irrefl, if_false] at this; exact this⟩
theorem GRow.keep {w w' : World} {lab : Nat → List Nat} {p : List Nat} {sz n b off : Nat} {E : World → Nat → (Nat → Value) → Prop} (h : GRow w sz n b off E) (hE : Keeps lab p E) (hbl : w'.heap[b]? = w.heap[b]?) (e : ∀ c, lab c ≠ [] → p <:+ lab c → w'.heap[c]? = w.heap[c]?) : GRow w' sz n b off E := by
  obtain ⟨C, h1, h2⟩ := h
  exact ⟨C, fun i hi j hj => (World.cell?_of_block (w := w) (a := ⟨b, off + i * sz + j, none⟩) hbl).trans (h1 i hi j hj), fun i hi => hE _ _ _ _ (h2 i hi) fun b' k1 k2 => e b' k1 (suffix_cons k2)⟩
theorem GRow.at {w : World} {sz n b off : Nat} {E : World → Nat → (Nat → Value) → Prop} (h : GRow w sz n b off E) {j : Nat} (hj : j < n) : ∃ c : Nat → Value, (∀ m, m < sz → w.cell? ⟨b, off + j * sz + m, none⟩ = some (c m)) ∧ E w j c := by
  obtain ⟨C, h1, h2⟩ := h
  exact ⟨C j, h1 j hj, h2 j hj⟩

/-- A cell at a way. -/
def LCe (lab : Nat → List Nat) (p : List Nat) (X : Nat → Ce) (w : World) (i : Nat) (c : Nat → Value) : Prop :=
  c 0 = .string (X i).name ∧ LRep w lab ((i + 2) :: p) (X i).val (.agg #[c 1, c 2, c 3, c 4, c 5])
/-- Cells at a way. -/
def LCells (w : World) (lab : Nat → List Nat) (p : List Nat) (cs : List Ce) (a : Option Addr) : Prop :=
  0 < cs.length → ∃ b off, a = some ⟨b, off, none⟩ ∧ lab b = 1 :: p ∧ (∀ i, w.frozen? ⟨b, i, none⟩ = false) ∧ GRow w 6 cs.length b off (LCe lab p (cth cs))
/-- A row at a way. -/
def LRo (lab : Nat → List Nat) (p : List Nat) (X : Nat → Ro) (w : World) (i : Nat) (c : Nat → Value) : Prop :=
  c 0 = .string (X i).type ∧ c 1 = .int .i64 (X i).id ∧ ∃ ca cc, c 2 = .slice ca (X i).cells.length cc ∧ LCells w lab ((i + 2) :: p) (X i).cells ca
/-- Rows at a way. -/
def LRows (w : World) (lab : Nat → List Nat) (p : List Nat) (rs : List Ro) (a : Option Addr) : Prop :=
  0 < rs.length → ∃ b off, a = some ⟨b, off, none⟩ ∧ lab b = 1 :: p ∧ (∀ i, w.frozen? ⟨b, i, none⟩ = false) ∧ GRow w 3 rs.length b off (LRo lab p (rth rs))
theorem LCe.keeps (lab : Nat → List Nat) (p : List Nat) (X : Nat → Ce) : Keeps lab p (LCe lab p X) := fun w w' i c h e => ⟨h.1, h.2.keep e⟩
theorem LCells.keep {w w' : World} {lab : Nat → List Nat} {p : List Nat} {cs : List Ce} {a : Option Addr} (h : LCells w lab p cs a) (e : ∀ c, lab c ≠ [] → p <:+ lab c → w'.heap[c]? = w.heap[c]?) : LCells w' lab p cs a := fun hn => by
  obtain ⟨b, off, h1, h2, h3, h4⟩ := h hn
  have hb := e b (by rw [h2]; simp) (by rw [h2]; exact List.suffix_cons _ _)
  exact ⟨b, off, h1, h2, fun i => (World.frozen?_of_block (w := w) (a := ⟨b, i, none⟩) hb).trans (h3 i), h4.keep (LCe.keeps _ _ _) hb e⟩
theorem LRo.keeps (lab : Nat → List Nat) (p : List Nat) (X : Nat → Ro) : Keeps lab p (LRo lab p X) := fun w w' i c h e => by
  obtain ⟨h1, h2, ca, cc, h3, h4⟩ := h
  exact ⟨h1, h2, ca, cc, h3, h4.keep e⟩
theorem LRows.keep {w w' : World} {lab : Nat → List Nat} {p : List Nat} {rs : List Ro} {a : Option Addr} (h : LRows w lab p rs a) (e : ∀ c, lab c ≠ [] → p <:+ lab c → w'.heap[c]? = w.heap[c]?) : LRows w' lab p rs a := fun hn => by
  obtain ⟨b, off, h1, h2, h3, h4⟩ := h hn
  have hb := e b (by rw [h2]; simp) (by rw [h2]; exact List.suffix_cons _ _)
  exact ⟨b, off, h1, h2, fun i => (World.frozen?_of_block (w := w) (a := ⟨b, i, none⟩) hb).trans (h3 i), h4.keep (LRo.keeps _ _ _) hb e⟩

/-- Other labels, longer by a way. -/
theorem LRepN.relabel {w : World} {lab lab' : Nat → List Nat} {q : List Nat} (e : ∀ b, lab b ≠ [] → lab' b = lab b ++ q) : ∀ {f : Nat} {p : List Nat} {x : V} {v : Value}, LRepN w lab f p x v → LRepN w lab' f (p ++ q) x v
  | 0, _, _, _, h => h.elim
  | f + 1, p, x, v, h => by
    obtain ⟨na, ka, nc, kc, b, off, C, h1, h2, h3, h4, h5⟩ := h
    refine ⟨na, ka, nc, kc, b, off, C, h1, fun hn => ?_, fun hn => ?_, h4, fun i hi => (h5 i hi).relabel e⟩
    · obtain ⟨b', o', k1, k2, k3⟩ := h2 hn
      exact ⟨b', o', k1, by rw [e b' (by rw [k2]; simp), k2]; rfl, k3⟩
    · obtain ⟨k1, k2, k3⟩ := h3 hn
      exact ⟨k1, by rw [e b (by rw [k2]; simp), k2]; rfl, k3⟩
theorem LRep.relabel {w : World} {lab lab' : Nat → List Nat} {p q : List Nat} {x : V} {v : Value} (h : LRep w lab p x v) (e : ∀ b, lab b ≠ [] → lab' b = lab b ++ q) : LRep w lab' (p ++ q) x v := by
  obtain ⟨f, h⟩ := h; exact ⟨f, h.relabel e⟩
/-- The same labels where it matters. -/
theorem LRepN.labels {w : World} {lab lab' : Nat → List Nat} : ∀ {f : Nat} {p : List Nat} {x : V} {v : Value}, LRepN w lab f p x v → (∀ b, lab b ≠ [] → p <:+ lab b → lab' b = lab b) → LRepN w lab' f p x v
  | 0, _, _, _, h, _ => h.elim
  | f + 1, p, x, v, h, e => by
    obtain ⟨na, ka, nc, kc, b, off, C, h1, h2, h3, h4, h5⟩ := h
    refine ⟨na, ka, nc, kc, b, off, C, h1, fun hn => ?_, fun hn => ?_, h4, fun i hi => (h5 i hi).labels fun b' hb' hs' => e b' hb' (suffix_cons hs')⟩
    · obtain ⟨b', o', k1, k2, k3⟩ := h2 hn
      exact ⟨b', o', k1, by rw [e b' (by rw [k2]; simp) (by rw [k2]; exact List.suffix_cons _ _), k2], k3⟩
    · obtain ⟨k1, k2, k3⟩ := h3 hn
      exact ⟨k1, by rw [e b (by rw [k2]; simp) (by rw [k2]; exact List.suffix_cons _ _), k2], k3⟩
theorem LRep.labels {w : World} {lab lab' : Nat → List Nat} {p : List Nat} {x : V} {v : Value} (h : LRep w lab p x v) (e : ∀ b, lab b ≠ [] → p <:+ lab b → lab' b = lab b) : LRep w lab' p x v := by
  obtain ⟨f, h⟩ := h; exact ⟨f, h.labels e⟩
end Go.Proofs.YtbpdchlbhfjddaaGreat
