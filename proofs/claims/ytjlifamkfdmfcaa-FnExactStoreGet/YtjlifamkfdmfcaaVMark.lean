/-
  The laws' marks on a value whose lists lie apart: markValueS, markValue.
-/
import Derived.Test.YtjlifamkfdmfcaaLRep
import Derived.Test.YtjlifamkfdmfcaaMStrs
namespace Go.Proofs.Ytjlifamkfdmfcaa
set_option linter.unusedSimpArgs false
set_option linter.unusedVariables false
open Go.RowKit

mutual
/-- How many marks a value takes inside. -/
def nV : V → Nat
  | .mk _ _ _ ns ks => ns.length + nL ks
/-- How many marks values take. -/
def nL : List V → Nat
  | [] => 0
  | k :: r => 3 + nV k + nL r
end
theorem nV_eq (x : V) : nV x = x.names.length + nL x.kids := by obtain ⟨s, n, t, ns, ks⟩ := x; simp only [nV]
theorem nL_append (a b : List V) : nL (a ++ b) = nL a + nL b := by
  induction a with
  | nil => simp [nL]
  | cons k r ih => simp [nL, ih]; omega
theorem nL_take (ks : List V) (k : Nat) (h : k < ks.length) : nL (ks.take (k + 1)) = nL (ks.take k) + (3 + nV (kth ks k)) := by
  rw [take_kth' ks k h, nL_append]; simp [nL]
theorem nL_part (ks : List V) (k : Nat) : nL (ks.take k) ≤ nL ks := by
  conv => rhs; rw [← List.take_append_drop k ks]
  rw [nL_append]; omega
theorem nV_sz (x : V) : nV x ≤ 3 * szV x := by
  refine v_ind (q := fun x => nV x ≤ 3 * szV x) (fun x ih => ?_) x
  have h1 := sums (f := fun k => 3 + nV k) (g := fun k => 3 * (1 + szV k)) (F := nL) (G := fun l => 3 * (l.length + sL l)) rfl rfl (fun _ _ => by simp [nL]) (fun _ _ => by simp [sL]; omega) x.kids (fun i hi => by have := ih i hi; show 3 + nV (kth x.kids i) ≤ 3 * (1 + szV (kth x.kids i)); omega)
  rw [nV_eq, szV_eq]
  have := len_szNs x.names
  omega

def mkNs (n k : Nat) : List ByteArray := (List.range n).map fun i => mtext (k + i)
theorem mkNs_len (n k : Nat) : (mkNs n k).length = n := by simp [mkNs]
theorem mkNs_nth (n k i : Nat) (h : i < n) : nth (mkNs n k) i = mtext (k + i) := by simp [mkNs, nth, List.getD_eq_getElem?_getD, List.getElem?_map, List.getElem?_range h]
/-- Values as they are when they are marked, from k on. -/
def mkL : List V → Nat → List V
  | [], _ => []
  | .mk _ _ _ ns ks :: r, k => .mk (k : Nat) ((k + 1 : Nat) : Int) (mtext (k + 2)) (mkNs ns.length (k + 3)) (mkL ks (k + 3 + ns.length)) :: mkL r (k + 3 + (ns.length + nL ks))
/-- A value as it is when it is marked, from k on. -/
def mk1 (x : V) (k : Nat) : V := .mk (k : Nat) ((k + 1 : Nat) : Int) (mtext (k + 2)) (mkNs x.names.length (k + 3)) (mkL x.kids (k + 3 + x.names.length))
theorem mkL_cons (x : V) (r : List V) (k : Nat) : mkL (x :: r) k = mk1 x k :: mkL r (k + 3 + nV x) := by
  obtain ⟨s, n, t, ns, ks⟩ := x
  simp only [mkL, mk1, nV]
theorem mkL_len : ∀ (ks : List V) (k : Nat), (mkL ks k).length = ks.length
  | [], _ => by simp [mkL]
  | x :: r, k => by rw [mkL_cons]; simp [mkL_len r]
theorem mkL_kth : ∀ (ks : List V) (k i : Nat), i < ks.length → kth (mkL ks k) i = mk1 (kth ks i) (k + nL (ks.take i))
  | [], _, _, h => by simp at h
  | x :: r, k, 0, _ => by rw [mkL_cons]; simp [kth, nL]
  | x :: r, k, i + 1, h => by
    rw [mkL_cons]
    have := mkL_kth r (k + 3 + nV x) i (by simpa using h)
    simp only [kth, List.getD_cons_succ, List.take_succ_cons, nL] at this ⊢
    rw [this]
    congr 1
    omega

/-- What marks on the kids at a way change. -/
def Sk (lab : Nat → List Nat) (p : List Nat) (b : Nat) : Prop := lab b = 1 :: p ∨ ∃ i, ((i + 2) :: p) <:+ lab b
theorem same_len {a b : Nat} {p q l : List Nat} (h : (a :: p) <:+ l) (h' : (b :: q) <:+ l) (e : p.length = q.length) : a = b ∧ p = q := by
  have := List.suffix_of_suffix_length_le h h' (by simp [e])
  have := this.eq_of_length (by simp [e])
  simpa using this
theorem Sk.zero {lab : Nat → List Nat} {p : List Nat} {b : Nat} (h : lab b = 0 :: p) : ¬ Sk lab p b := by
  rintro (h1 | ⟨i, h1⟩)
  · rw [h] at h1; simp at h1
  · rw [h] at h1
    have := same_len h1 (List.suffix_refl _) rfl
    omega
theorem Sk.up {lab : Nat → List Nat} {p : List Nat} {b i : Nat} (h : Sk lab ((i + 2) :: p) b) : Sk lab p b := by
  rcases h with h1 | ⟨j, h1⟩
  · exact Or.inr ⟨i, by rw [h1]; exact List.suffix_cons _ _⟩
  · exact Or.inr ⟨i, suffix_cons h1⟩
/-- Marks on one kid leave another one alone. -/
theorem apart_kids {lab : Nat → List Nat} {p : List Nat} {b i j : Nat} (hij : i ≠ j) (h : ((i + 2) :: p) <:+ lab b) : lab b ≠ 1 :: p ∧ lab b ≠ 0 :: (j + 2) :: p ∧ ¬ Sk lab ((j + 2) :: p) b := by
  refine ⟨fun e => ?_, fun e => ?_, ?_⟩
  · rw [e] at h
    have := same_len h (List.suffix_refl _) rfl
    omega
  · have h2 : ((j + 2) :: p) <:+ lab b := by rw [e]; exact List.suffix_cons _ _
    have := same_len h h2 rfl
    omega
  · rintro (h1 | ⟨m, h1⟩)
    · have h2 : ((j + 2) :: p) <:+ lab b := by rw [h1]; exact List.suffix_cons _ _
      have := same_len h h2 rfl
      omega
    · have := same_len h (suffix_cons h1) rfl
      omega

/-- Nothing but some blocks has changed; none is frozen that wasn't. -/
structure Only (S : Nat → Prop) (w w' : World) : Prop where
  os : w'.os = w.os
  tape : w'.tape = w.tape
  output : w'.output = w.output
  size : w.heap.size ≤ w'.heap.size
  block : ∀ b, b < w.heap.size → ¬ S b → w'.heap[b]? = w.heap[b]?
  frozen : ∀ a, a.block < w.heap.size → w'.frozen? a = w.frozen? a
theorem Only.refl (S : Nat → Prop) (w : World) : Only S w w := ⟨rfl, rfl, rfl, Nat.le_refl _, fun _ _ _ => rfl, fun _ _ => rfl⟩
theorem Only.trans {S : Nat → Prop} {a b c : World} (h : Only S a b) (k : Only S b c) : Only S a c :=
  ⟨k.os.trans h.os, k.tape.trans h.tape, k.output.trans h.output, Nat.le_trans h.size k.size, fun i hi hn => (k.block i (Nat.lt_of_lt_of_le hi h.size) hn).trans (h.block i hi hn), fun a ha => (k.frozen a (Nat.lt_of_lt_of_le ha h.size)).trans (h.frozen a ha)⟩
theorem Only.wider {S S' : Nat → Prop} {a b : World} (h : Only S a b) (e : ∀ c, S c → S' c) : Only S' a b := ⟨h.os, h.tape, h.output, h.size, fun i hi hn => h.block i hi (fun hs => hn (e i hs)), h.frozen⟩
theorem Only.of_below {w w' : World} (S : Nat → Prop) (h : Below w.heap.size w w') : Only S w w' := ⟨h.os, h.tape, h.output, h.size, fun b hb _ => h.block b hb, fun a ha => h.frozen ha⟩
theorem Only.set {w : World} {S : Nat → Prop} (p : Addr) (v : Value) (h : S p.block) : Only S w (w.setCell p v) :=
  ⟨rfl, rfl, rfl, by rw [size_set]; exact Nat.le_refl _, fun b _ hn => Below.heap_setCell _ _ _ _ (fun e => hn (by rw [e]; exact h)), fun a _ => by simp⟩
theorem Only.of_marked {lo hi : Nat} {w w' : World} {S : Nat → Prop} (h : Marked lo hi w w') (e : ∀ b, lo ≤ b → b < hi → S b) : Only S w w' :=
  ⟨h.os, h.tape, h.output, h.size, fun b hb hn => h.block b hb (fun hh => hn (e b hh.1 hh.2)), h.frozen⟩

/-- markStringS on names that lie apart. -/
theorem markNames_l (lab : Nat → List Nat) (p : List Nat) (ns : List ByteArray) (a : Option Addr) (c k : Nat) (w : World) (h : LStrs w lab p ns a) (hn : ns.length ≤ 1048576) (hk : k ≤ 1000000000000) :
    Calls Try.prog 32 #[.slice a ns.length c, .int .i64 k] w fun e w' => e = .returned (.int .i64 ((k + ns.length : Nat) : Int)) ∧ Only (fun b => lab b = 0 :: p) w w' ∧ LStrs w' lab p (mkNs ns.length k) a := by
  by_cases h0 : ns = []
  · subst h0
    refine (markStringS_any 0 c k 0 0 a w (fun h => by omega) (by omega) hk).mono ?_
    rintro e w' ⟨rfl, hm, -⟩
    exact ⟨rfl, Only.of_marked hm (fun b h1 h2 => by omega), fun h => absurd rfl h⟩
  · obtain ⟨b, off, rfl, hl, hf, hc⟩ := h h0
    refine (markStringS_any ns.length c k b (b + 1) _ w (fun _ => ⟨b, off, rfl, Nat.le_refl _, Nat.lt_succ_self _, fun i hi => ⟨⟨_, hc i hi⟩, hf _⟩⟩) hn hk).mono ?_
    rintro e w' ⟨rfl, hm, hcc⟩
    have hb := cell_block (hc 0 (List.length_pos_iff.2 h0))
    refine ⟨rfl, Only.of_marked hm (fun b' h1 h2 => by rw [show b' = b by omega]; exact hl), fun _ => ⟨b, off, rfl, hl, fun i => (hm.frozen ⟨b, i, none⟩ hb).trans (hf i), fun i hi => ?_⟩⟩
    rw [mkNs_len] at hi
    rw [hcc b off rfl i hi, mkNs_nth _ _ _ hi]

/-- Five cells of a row, each kid in memory of its own. -/
def LRow (w : World) (lab : Nat → List Nat) (p : List Nat) (n : Nat) (X : Nat → V) (b off : Nat) : Prop :=
  ∃ C : Nat → Nat → Value, (∀ i, i < n → ∀ j, j < 5 → w.cell? ⟨b, off + i * 5 + j, none⟩ = some (C i j)) ∧ ∀ i, i < n → LRep w lab ((i + 2) :: p) (X i) (.agg #[C i 0, C i 1, C i 2, C i 3, C i 4])

/-- One kid is marked. -/
theorem LRow.mark {w w' : World} {lab : Nat → List Nat} {p : List Nat} {n : Nat} {X : Nat → V} {b off j : Nat} (h : LRow w lab p n X b off) (hj : j < n) (hb : lab b = 1 :: p) {y : V} {c0 c1 c2 c3 c4 : Value}
    (hlt : ∀ c, lab c ≠ [] → c < w.heap.size) (hO : Only (fun c => c = b ∨ lab c = 0 :: (j + 2) :: p ∨ Sk lab ((j + 2) :: p) c) w w') (hcell : ∀ m, ¬ (off + j * 5 ≤ m ∧ m < off + j * 5 + 3) → w'.cell? ⟨b, m, none⟩ = w.cell? ⟨b, m, none⟩)
    (k0 : w'.cell? ⟨b, off + j * 5, none⟩ = some c0) (k1 : w'.cell? ⟨b, off + j * 5 + 1, none⟩ = some c1) (k2 : w'.cell? ⟨b, off + j * 5 + 2, none⟩ = some c2) (k3 : w'.cell? ⟨b, off + j * 5 + 3, none⟩ = some c3) (k4 : w'.cell? ⟨b, off + j * 5 + 4, none⟩ = some c4)
    (hy : LRep w' lab ((j + 2) :: p) y (.agg #[c0, c1, c2, c3, c4])) : LRow w' lab p n (fun i => if i = j then y else X i) b off := by
  obtain ⟨C, hc, hr⟩ := h
  refine ⟨fun i m => if i = j then [c0, c1, c2, c3, c4].getD m undef else C i m, fun i hi m hm => ?_, fun i hi => ?_⟩
  · show w'.cell? ⟨b, off + i * 5 + m, none⟩ = some (if i = j then [c0, c1, c2, c3, c4].getD m undef else C i m)
    by_cases e : i = j
    · subst e
      rw [if_pos rfl]
      have : m = 0 ∨ m = 1 ∨ m = 2 ∨ m = 3 ∨ m = 4 := by omega
      rcases this with rfl | rfl | rfl | rfl | rfl
      · exact k0
      · exact k1
      · exact k2
      · exact k3
      · exact k4
    · rw [if_neg e, hcell _ (by omega)]
      exact hc i hi m hm
  · by_cases e : i = j
    · subst e
      simpa using hy
    · simp only [if_neg e]
      refine (hr i hi).keep fun c h1 h2 => hO.block c (hlt c h1) ?_
      have ha := apart_kids (j := j) e h2
      rintro (h3 | h3 | h3)
      · rw [h3] at ha; exact ha.1 hb
      · exact ha.2.1 h3
      · exact ha.2.2 h3
end Go.Proofs.Ytjlifamkfdmfcaa
