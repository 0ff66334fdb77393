import Derived.Test.YtdohgkokoicjlaaB3
import Derived.Test.YtdohgkokoicjlaaB4
import Derived.Deep.AppendLies
import Derived.Laws.AppendOwnNone
set_option linter.unusedSimpArgs false
set_option linter.unusedVariables false
namespace Go.Proofs.Ytdohgkokoicjlaa
open Go.RowKit
def isT (s : ByteArray) (l : List UInt8) : Bool := s.toList == l
def scalarB (s : ByteArray) : Bool := isT s [105, 110, 116] || isT s [116, 101, 120, 116] || isT s [98, 111, 111, 108]
set_option maxHeartbeats 400000 in
theorem l2Scalar_any (s : ByteArray) (w : World) :
    Calls Try.prog 45 #[.string s] w fun e w' => e = .returned (.bool (scalarB s)) ∧ w = w' := by
  cases h1 : (s.toList == [105, 110, 116]) <;> cases h2 : (s.toList == [116, 101, 120, 116]) <;>
  · go_enter Try.func45, Try.ntmps45
    go_wp2
    go_ret
    exact ⟨ret_bool (by simp only [scalarB, isT, h1, h2]; rfl), rfl⟩
def nameB (s : ByteArray) : Bool := wordB s && decide (s.size ≤ 8) && !(byteAt s 0 == 95) && !scalarB s && !isT s [112, 97, 114, 116] && !isT s [116, 121, 112, 101] && !isT s [107, 101, 121] && !isT s [102, 97, 114] && !isT s [104, 105, 100, 100, 101, 110] && !isT s [115, 104, 97, 114, 101, 100] && !isT s [110, 101, 101, 100, 115]
set_option maxHeartbeats 1600000 in
theorem l2Name_any (s : ByteArray) (w : World) (hs : s.size ≤ maxLen) :
    Calls Try.prog 27 #[.string s] w fun e w' => e = .returned (.bool (nameB s)) ∧ w = w' := by
  cases hw : wordB s
  · go_enter Try.func27, Try.ntmps27
    go_wp2_with (first | (go_at_call 44; refine (l1Name_any _ _ hs).mono ?_; rintro e w' ⟨rfl, rfl⟩) | (go_at_call 45; refine (l2Scalar_any _ _).mono ?_; rintro e w' ⟨rfl, rfl⟩))
    go_ret
    exact ⟨ret_bool (by simp [nameB, isT, hw]), rfl⟩
  have h1 : 0 < s.size := by
    rw [wordB] at hw; simp only [Bool.and_eq_true, decide_eq_true_eq] at hw; omega
  have hb0 := byteAt_get s 0 h1
  by_cases h8 : s.size ≤ 8
  case neg =>
    have h8' : ¬ (s.size : Int) ≤ 8 := by omega
    go_enter Try.func27, Try.ntmps27
    go_wp2_with (first | (go_at_call 44; refine (l1Name_any _ _ hs).mono ?_; rintro e w' ⟨rfl, rfl⟩) | (go_at_call 45; refine (l2Scalar_any _ _).mono ?_; rintro e w' ⟨rfl, rfl⟩))
    go_ret
    exact ⟨ret_bool (by simp [nameB]; omega), rfl⟩
  have H8 : Hid (decide (s.size ≤ 8) = true) := by show _ = _; simpa using h8
  cases hu : (byteAt s 0 == 95)
  case true =>
    have hu' : (byteAt s 0 != 95) = false := by simp only [bne, hu]; rfl
    go_enter Try.func27, Try.ntmps27
    go_wp2_with (first | (go_at_call 44; refine (l1Name_any _ _ hs).mono ?_; rintro e w' ⟨rfl, rfl⟩) | (go_at_call 45; refine (l2Scalar_any _ _).mono ?_; rintro e w' ⟨rfl, rfl⟩))
    go_ret
    exact ⟨ret_bool (by simp only [nameB, hu]; simp), rfl⟩
  have hu' : (byteAt s 0 != 95) = true := by simp only [bne, hu]; rfl
  cases hc : scalarB s
  case true =>
    go_enter Try.func27, Try.ntmps27
    go_wp2_with (first | (go_at_call 44; refine (l1Name_any _ _ hs).mono ?_; rintro e w' ⟨rfl, rfl⟩) | (go_at_call 45; refine (l2Scalar_any _ _).mono ?_; rintro e w' ⟨rfl, rfl⟩))
    go_ret
    exact ⟨ret_bool (by simp only [nameB, hc]; simp), rfl⟩
  cases k0 : (s.toList == [112, 97, 114, 116])
  case true =>
    go_enter Try.func27, Try.ntmps27
    go_wp2_with (first | (go_at_call 44; refine (l1Name_any _ _ hs).mono ?_; rintro e w' ⟨rfl, rfl⟩) | (go_at_call 45; refine (l2Scalar_any _ _).mono ?_; rintro e w' ⟨rfl, rfl⟩))
    go_ret
    exact ⟨ret_bool (by simp only [nameB, isT, k0]; simp), rfl⟩
  cases k1 : (s.toList == [116, 121, 112, 101])
  case true =>
    go_enter Try.func27, Try.ntmps27
    go_wp2_with (first | (go_at_call 44; refine (l1Name_any _ _ hs).mono ?_; rintro e w' ⟨rfl, rfl⟩) | (go_at_call 45; refine (l2Scalar_any _ _).mono ?_; rintro e w' ⟨rfl, rfl⟩))
    go_ret
    exact ⟨ret_bool (by simp only [nameB, isT, k1]; simp), rfl⟩
  cases k2 : (s.toList == [107, 101, 121])
  case true =>
    go_enter Try.func27, Try.ntmps27
    go_wp2_with (first | (go_at_call 44; refine (l1Name_any _ _ hs).mono ?_; rintro e w' ⟨rfl, rfl⟩) | (go_at_call 45; refine (l2Scalar_any _ _).mono ?_; rintro e w' ⟨rfl, rfl⟩))
    go_ret
    exact ⟨ret_bool (by simp only [nameB, isT, k2]; simp), rfl⟩
  cases k3 : (s.toList == [102, 97, 114])
  case true =>
    go_enter Try.func27, Try.ntmps27
    go_wp2_with (first | (go_at_call 44; refine (l1Name_any _ _ hs).mono ?_; rintro e w' ⟨rfl, rfl⟩) | (go_at_call 45; refine (l2Scalar_any _ _).mono ?_; rintro e w' ⟨rfl, rfl⟩))
    go_ret
    exact ⟨ret_bool (by simp only [nameB, isT, k3]; simp), rfl⟩
  cases k4 : (s.toList == [104, 105, 100, 100, 101, 110])
  case true =>
    go_enter Try.func27, Try.ntmps27
    go_wp2_with (first | (go_at_call 44; refine (l1Name_any _ _ hs).mono ?_; rintro e w' ⟨rfl, rfl⟩) | (go_at_call 45; refine (l2Scalar_any _ _).mono ?_; rintro e w' ⟨rfl, rfl⟩))
    go_ret
    exact ⟨ret_bool (by simp only [nameB, isT, k4]; simp), rfl⟩
  cases k5 : (s.toList == [115, 104, 97, 114, 101, 100])
  case true =>
    go_enter Try.func27, Try.ntmps27
    go_wp2_with (first | (go_at_call 44; refine (l1Name_any _ _ hs).mono ?_; rintro e w' ⟨rfl, rfl⟩) | (go_at_call 45; refine (l2Scalar_any _ _).mono ?_; rintro e w' ⟨rfl, rfl⟩))
    go_ret
    exact ⟨ret_bool (by simp only [nameB, isT, k5]; simp), rfl⟩
  go_enter Try.func27, Try.ntmps27
  go_wp2_with (first | (go_at_call 44; refine (l1Name_any _ _ hs).mono ?_; rintro e w' ⟨rfl, rfl⟩) | (go_at_call 45; refine (l2Scalar_any _ _).mono ?_; rintro e w' ⟨rfl, rfl⟩))
  go_ret
  exact ⟨ret_bool (by simp only [nameB, isT, hw, H8.out, hu, hc, k0, k1, k2, k3, k4, k5]; simp), rfl⟩
end Go.Proofs.Ytdohgkokoicjlaa
namespace Go.Proofs.Ytdohgkokoicjlaa
open Go.RowKit
structure O where
  type : ByteArray
  field : ByteArray
  parts : List Int
def O.zero : O := ⟨ByteArray.empty, ByteArray.empty, []⟩
def oth (ts : List O) (i : Nat) : O := ts.getD i O.zero
def ORep (w : World) (P : Nat → Prop) (t : O) (v : Value) : Prop := ∃ (fa : Option Addr) (fc : Nat),
  v = .agg #[.string t.type, .string t.field, .slice fa t.parts.length fc] ∧ Ints w P t.parts fa ∧ t.parts.length ≤ fc ∧ t.type.size ≤ maxLen ∧ t.field.size ≤ maxLen
def OsRep (w : World) (P : Nat → Prop) (ts : List O) (a : Option Addr) : Prop := 56 * ts.length ≤ 281474976710656 ∧ ∃ C : Nat → Nat → Value, Arr w P 3 ts.length a C ∧ ∀ i, i < ts.length → ORep w P (oth ts i) (.agg #[C i 0, C i 1, C i 2])
theorem ORep.mono {w w' : World} {P : Nat → Prop} {t : O} {v : Value} (h : ORep w P t v) (e : ∀ k, P k → w'.heap[k]? = w.heap[k]?) : ORep w' P t v := by
  obtain ⟨fa, fc, h1, h2, h3⟩ := h; exact ⟨fa, fc, h1, h2.mono e, h3⟩
theorem ORep.sub {w : World} {P Q : Nat → Prop} {t : O} {v : Value} (h : ORep w P t v) (e : ∀ k, P k → Q k) : ORep w Q t v := by
  obtain ⟨fa, fc, h1, h2, h3⟩ := h; exact ⟨fa, fc, h1, h2.sub e, h3⟩
theorem OsRep.mono {w w' : World} {P : Nat → Prop} {f : List O} {v : Option Addr} (h : OsRep w P f v) (e : ∀ k, P k → w'.heap[k]? = w.heap[k]?) : OsRep w' P f v := by
  obtain ⟨h0, C, h1, h2⟩ := h; exact ⟨h0, C, h1.mono e, fun i hi => (h2 i hi).mono e⟩
theorem OsRep.sub {w : World} {P Q : Nat → Prop} {f : List O} {v : Option Addr} (h : OsRep w P f v) (e : ∀ k, P k → Q k) : OsRep w Q f v := by
  obtain ⟨h0, C, h1, h2⟩ := h; exact ⟨h0, C, h1.sub e, fun i hi => (h2 i hi).sub e⟩
theorem ORep.under {w w' : World} {B : Nat} {x : O} {v : Value} (h : ORep w (· < B) x v) (hb : Below B w w') : ORep w' (· < B) x v := h.mono fun k hk => hb.block k hk
theorem OsRep.under {w w' : World} {B : Nat} {x : List O} {v : Option Addr} (h : OsRep w (· < B) x v) (hb : Below B w w') : OsRep w' (· < B) x v := h.mono fun k hk => hb.block k hk
theorem ORep.pieces {w : World} {P : Nat → Prop} {t : O} {c0 c1 c2 : Value} (h : ORep w P t (.agg #[c0, c1, c2])) :
    ∃ (fa : Option Addr) (fc : Nat), c0 = .string t.type ∧ c1 = .string t.field ∧ c2 = .slice fa t.parts.length fc ∧ Ints w P t.parts fa ∧ t.parts.length ≤ fc ∧ t.type.size ≤ maxLen ∧ t.field.size ≤ maxLen := by
  obtain ⟨fa, fc, hv, h2, h3, h4, h5⟩ := h
  simp only [Value.agg.injEq, Array.mk.injEq, List.cons.injEq, and_true] at hv
  exact ⟨fa, fc, hv.1, hv.2.1, hv.2.2, h2, h3, h4, h5⟩
def szO (t : O) : Nat := t.type.size + t.field.size + szIs t.parts
def szOsTo (ts : List O) (n : Nat) : Nat := ((List.range n).map fun i => szO (oth ts i)).sum
theorem szOsTo_succ (ts : List O) (n : Nat) : szOsTo ts (n + 1) = szOsTo ts n + szO (oth ts n) := by simp [szOsTo, List.range_succ]
def szOs (ts : List O) : Nat := ts.length + szOsTo ts ts.length
end Go.Proofs.Ytdohgkokoicjlaa
namespace Go.Proofs.Ytdohgkokoicjlaa
open Go.RowKit
structure Ch where
  all : Pt
  owners : List O
def CRep (w : World) (P : Nat → Prop) (c : Ch) (v : Value) : Prop := ∃ (ta oa : Option Addr) (tc oc : Nat),
  v = .agg #[.string c.all.name, .slice ta c.all.types.length tc, .slice oa c.owners.length oc] ∧ PRep w P c.all (.agg #[.string c.all.name, .slice ta c.all.types.length tc]) ∧ OsRep w P c.owners oa ∧ c.owners.length ≤ oc
theorem CRep.mono {w w' : World} {P : Nat → Prop} {c : Ch} {v : Value} (h : CRep w P c v) (e : ∀ k, P k → w'.heap[k]? = w.heap[k]?) : CRep w' P c v := by
  obtain ⟨ta, oa, tc, oc, h1, h2, h3, h4⟩ := h; exact ⟨ta, oa, tc, oc, h1, h2.mono e, h3.mono e, h4⟩
theorem CRep.sub {w : World} {P Q : Nat → Prop} {c : Ch} {v : Value} (h : CRep w P c v) (e : ∀ k, P k → Q k) : CRep w Q c v := by
  obtain ⟨ta, oa, tc, oc, h1, h2, h3, h4⟩ := h; exact ⟨ta, oa, tc, oc, h1, h2.sub e, h3.sub e, h4⟩
theorem CRep.under {w w' : World} {B : Nat} {x : Ch} {v : Value} (h : CRep w (· < B) x v) (hb : Below B w w') : CRep w' (· < B) x v := h.mono fun k hk => hb.block k hk
def szC (c : Ch) : Nat := szP c.all + szOs c.owners
theorem TextAt.block {w w' : World} {a : Addr} (h : TextAt w a) (e : w'.heap[a.block]? = w.heap[a.block]?) : TextAt w' a := by
  obtain ⟨⟨s, hs⟩, hf⟩ := h
  exact ⟨⟨s, (World.cell?_of_block e).trans hs⟩, by rw [← hf]; simp only [World.frozen?, e]⟩
theorem szOsTo_le (os : List O) : ∀ n i, i < n → (oth os i).parts.length ≤ szOsTo os n
  | 0, i, h => by omega
  | n + 1, i, h => by
    rw [szOsTo_succ]
    have h2 : szO (oth os n) = (oth os n).type.size + (oth os n).field.size + szIs (oth os n).parts := rfl
    simp only [szIs] at h2
    by_cases e : i = n
    · subst e; omega
    · have := szOsTo_le os n i (by omega); omega
theorem parts_small (os : List O) (h : szOs os ≤ 1048576) (i : Nat) : (oth os i).parts.length ≤ 1048576 := by
  have h3 : szOs os = os.length + szOsTo os os.length := rfl
  by_cases hi : i < os.length
  · have := szOsTo_le os os.length i hi; omega
  · have : oth os i = O.zero := by simp [oth, List.getD_eq_getElem?_getD, List.getElem?_eq_none (Nat.le_of_not_lt hi)]
    rw [this]; simp [O.zero]
end Go.Proofs.Ytdohgkokoicjlaa
namespace Go.Proofs.Ytdohgkokoicjlaa
open Go.RowKit
def hitO (os : List O) (s f : ByteArray) (i : Nat) : Bool := (oth os i).type.toList == s.toList && (oth os i).field.toList == f.toList
def ownL (os : List O) (s f : ByteArray) : List Int := match (List.range os.length).find? (hitO os s f) with
  | some i => (oth os i).parts
  | none => []
theorem ownL_none {os : List O} {s f : ByteArray} (h : ∀ i, i < os.length → hitO os s f i = false) : ownL os s f = [] := by
  have : (List.range os.length).find? (hitO os s f) = none := by
    rw [List.find?_eq_none]; intro i hi; simpa using h i (by simpa using hi)
  rw [ownL, this]
theorem ownL_hit {os : List O} {s f : ByteArray} {k : Nat} (h : ∀ i, i < k → hitO os s f i = false) (hk : hitO os s f k = true) (hn : k < os.length) : ownL os s f = (oth os k).parts := by
  have : (List.range os.length).find? (hitO os s f) = some k := by
    rw [List.find?_range_eq_some]
    exact ⟨hk, by simpa using hn, fun i hi => by simpa using h i hi⟩
  rw [ownL, this]
theorem ownL_len (os : List O) (s f : ByteArray) (hz : szOs os ≤ 1048576) : (ownL os s f).length ≤ 1048576 := by
  rw [ownL]
  split
  · exact parts_small os hz _
  · simp
def IntsNew (w w' : World) (ns : List Int) (e : Ending) : Prop := ∃ (a : Option Addr) (c : Nat), e = .returned (.slice a ns.length c) ∧ Below w.heap.size w w' ∧ Ints w' (fun b => w.heap.size ≤ b ∧ b < w'.heap.size) ns a ∧ WInts w' w.heap.size w'.heap.size ns.length a
theorem ith_map (ns : List Int) (j : Nat) (u : Value) (h : (ns.map (Value.int .i64))[j]? = some u) : j < ns.length ∧ u = .int .i64 (ith ns j) := by
  rw [List.getElem?_map] at h
  obtain ⟨b, hb, rfl⟩ := Option.map_eq_some_iff.1 h
  obtain ⟨hj, rfl⟩ := List.getElem?_eq_some_iff.1 hb
  exact ⟨hj, by simp [ith, List.getD_eq_getElem?_getD, hj]⟩
theorem frozen_cellsN {w : World} {g : Nat} {cur : Array Value} {e : TypeId} (h : w.heap[g]? = some (.cells cur e (0, 0))) (o : Nat) : w.frozen? ⟨g, o, none⟩ = false := by simp [World.frozen?, h]
theorem ints_owned {w : World} {base : Nat} {ns : List Int} {g cap : Nat} (h : w.ownsRow base 3 1 (.slice (some ⟨g, 0, none⟩) ns.length cap) ns.length (ns.map (Value.int .i64))) (h3 : 8 * ns.length ≤ 281474976710656) (hlt : g < w.heap.size) :
    Ints w (fun b => base ≤ b ∧ b < w.heap.size) ns (some ⟨g, 0, none⟩) ∧ WInts w base w.heap.size ns.length (some ⟨g, 0, none⟩) := by
  have hb : base ≤ g ∧ ns.length ≤ cap ∧ ∀ o, w.frozen? ⟨g, o, none⟩ = false := by
    rcases h.2 with ⟨h', _⟩ | ⟨g', cap', cur, h', hb, hh, hn, _⟩
    · simp at h'
    · simp only [Value.slice.injEq, Option.some.injEq, Addr.mk.injEq, and_true, true_and] at h'
      obtain ⟨rfl, rfl⟩ := h'
      exact ⟨hb, hn, frozen_cellsN hh⟩
  have hc : ∀ i, i < ns.length → w.cell? ⟨g, 0 + i, none⟩ = some (.int .i64 (ith ns i)) := fun i hi => by
    have := h.cellAt i (by omega)
    rw [Nat.zero_add, this, List.getElem?_map]
    simp [ith, List.getD_eq_getElem?_getD, hi]
  exact ⟨⟨h3, fun _ => ⟨g, 0, rfl, ⟨hb.1, hlt⟩, hc⟩⟩, fun _ => ⟨g, 0, rfl, hb.1, hlt, fun i hi => ⟨⟨_, hc i hi⟩, hb.2.2 _⟩⟩⟩
theorem below_grownN {B : Nat} {a w w' : World} (h : Below B a w) (hg : w.grownBy w' none) (hB : B ≤ w.heap.size) : Below B a w' :=
  h.trans ⟨hg.os, hg.tape, hg.output, hg.size, fun k hk => hg.block k (by omega) (by simp)⟩
set_option maxHeartbeats 1600000 in
theorem ChartOwnerI_any (c : Ch) (s f : ByteArray) (w : World) (B : Nat) (v : Value) (hR : CRep w (· < B) c v) (hB : B ≤ w.heap.size) (hz : szC c ≤ 1048576) :
    Calls Try.prog 6 #[v, .string s, .string f] w fun e w' => IntsNew w w' (ownL c.owners s f) e := by
  obtain ⟨ta, oa, tc, oc, rfl, hP, hO, hoc⟩ := hR
  obtain ⟨⟨name, types⟩, owners⟩ := c
  simp only at hP hO hoc ⊢
  have hps := parts_small owners (by have : szC ⟨⟨name, types⟩, owners⟩ = szP ⟨name, types⟩ + szOs owners := rfl; omega)
  obtain ⟨h3, C, hA, hr⟩ := hO
  obtain ⟨i0, hi, hz0, hz1, hz2⟩ := info_parts info3
  clear hP
  go_enter Try.func6, Try.ntmps6
  go_wp2_with fail
  go_loopw [12] (fun i wr => ∃ k : Nat, k ≤ owners.length ∧ i = .int .i64 k ∧ Below w.heap.size w wr ∧ ∀ j, j < k → hitO owners s f j = false) (fun i _ => owners.length - (intOf i).toNat)
  case atStart => exact ⟨0, Nat.zero_le _, rfl, below_box _ _, fun j hj => by omega⟩
  case round =>
    obtain ⟨k, hk, rfl, hbel, hno⟩ := hrel
    obtain ⟨w0, rfl⟩ : ∃ x, x = wr := ⟨wr, rfl⟩
    have HNO : Hid (∀ j, j < k → hitO owners s f j = false) := hno
    clear hno
    by_cases hlt : k < owners.length
    · have hki : (k : Int) < (owners.length : Int) := by omega
      obtain ⟨b, off, rfl, hbB, hc⟩ := hA (by omega)
      obtain ⟨fa, fc, e0, e1, e2, hI, -⟩ := (hr k hlt).pieces
      have hck : ∀ j, j < 3 → w0.cell? ⟨b, off + k * 3 + j, none⟩ = some (C k j) := fun j hj => (hbel.cell (p := ⟨b, off + k * 3 + j, none⟩) (by show b < _; omega)).trans (hc k hlt j hj)
      have hc0 : w0.cell? ⟨b, off + k * 3, none⟩ = some (C k 0) := hck 0 (by omega)
      have hc1 : w0.cell? ⟨b, off + k * 3 + 1, none⟩ = some (C k 1) := hck 1 (by omega)
      have hc2 : w0.cell? ⟨b, off + k * 3 + 2, none⟩ = some (C k 2) := hck 2 (by omega)
      rw [e0] at hc0
      rw [e1] at hc1
      rw [e2] at hc2
      have hpk := hps k
      have HH : Hid (hitO owners s f k = ((oth owners k).type.toList == s.toList && (oth owners k).field.toList == f.toList)) := rfl
      have z0 := hbel.size
      clear hck hc hA hr e0 e1 e2
      cases h1 : ((oth owners k).type.toList == s.toList)
      · go_wp2_with fail
        go_roundw
        case rel => exact ⟨k + 1, by omega, by go_num, hbel.alloc (by omega) _, fun j hj => by
          by_cases e : j = k
          · rw [e, HH.out, h1]; rfl
          · exact HNO.out j (by omega)⟩
        case measure => simp [intOf]; omega
      · cases h2 : ((oth owners k).field.toList == f.toList)
        · go_wp2_with fail
          go_roundw
          case rel => exact ⟨k + 1, by omega, by go_num, hbel.alloc (by omega) _, fun j hj => by
            by_cases e : j = k
            · rw [e, HH.out, h1, h2]; rfl
            · exact HNO.out j (by omega)⟩
          case measure => simp [intOf]; omega
        · have HE : Hid (ownL owners s f = (oth owners k).parts) := ownL_hit HNO.out (by rw [HH.out, h1, h2]; rfl) hlt
          by_cases hn0 : (oth owners k).parts.length = 0
          · have hns : (oth owners k).parts = [] := by simpa using hn0
            rw [hn0] at hc2
            cases fa
            all_goals
              go_wp2_with fail
              go_ret
              exact ⟨none, 0, by rw [HE.out, hns]; rfl, hbel.alloc (by omega) _, by rw [HE.out, hns]; exact Ints.nil _ _ _, by rw [HE.out, hns]; intro h; simp at h⟩
          · obtain ⟨b', off', rfl, hbB', hcc⟩ := hI.2 (by omega)
            have bx := below_box w0 (.cells #[.string (oth owners k).type, .string (oth owners k).field, .slice (some ⟨b', off', none⟩) (oth owners k).parts.length fc] 59)
            have hcx : ∀ i, i < (oth owners k).parts.length → (w0.alloc (.cells #[.string (oth owners k).type, .string (oth owners k).field, .slice (some ⟨b', off', none⟩) (oth owners k).parts.length fc] 59)).cell? ⟨b', off' + i, none⟩ = some (.int .i64 (ith (oth owners k).parts i)) := fun i hi => (bx.cell (p := ⟨b', off' + i, none⟩) (by show b' < _; omega)).trans ((hbel.cell (p := ⟨b', off' + i, none⟩) (by show b' < _; omega)).trans (hcc i hi))
            clear hcc bx
            go_wp2_with (at_builtin; refine wpList_append_lies _ rfl _ _ 31 rfl (w0.heap.size + 1) 3 i0 (.int .i64 0) 1 8 Try.underlying31 hi hz0 hz1 hz2 rfl (by decide) (.slice none 0 0) 0 [] rfl (World.ownsRow_nil _ _ _ _) ⟨b', off', none⟩ (oth owners k).parts.length fc ((oth owners k).parts.map (Value.int .i64)) rfl (by simp) ?c1 ?c2 (by omega) ?c3 (by omega) (by simp) _ rfl ?_)
            case c1 =>
              intro j u hj
              obtain ⟨hj', rfl⟩ := ith_map _ j u hj
              rw [Addr.add_lit]
              exact hcx j hj'
            case c2 => intro u hu; simp at hu; obtain ⟨x, -, rfl⟩ := hu; rfl
            case c3 => unfold maxLen; omega
            intro g cap w1 hown hgrow hat hlt1
            go_wp2_with fail
            go_ret
            have hS := ints_owned (base := w0.heap.size + 1) (by simpa using hown) hI.1 hlt1
            refine ⟨some ⟨g, 0, none⟩, cap, ?_, below_grownN (hbel.alloc (by omega) _) hgrow (by simp; omega), ?_, ?_⟩
            · rw [HE.out]; simp
            · rw [HE.out]; exact hS.1.sub fun x hx => by omega
            · rw [HE.out]; intro h0; obtain ⟨b2, o2, q1, q2, q3, q4⟩ := hS.2 h0; exact ⟨b2, o2, q1, by omega, q3, q4⟩
    · go_wp2_with fail
      go_ret
      have e : k = owners.length := by omega
      subst e
      have HE : ownL owners s f = [] := ownL_none HNO.out
      exact ⟨none, 0, by rw [HE]; rfl, hbel, by rw [HE]; exact Ints.nil _ _ _, by rw [HE]; intro h; simp at h⟩
end Go.Proofs.Ytdohgkokoicjlaa
