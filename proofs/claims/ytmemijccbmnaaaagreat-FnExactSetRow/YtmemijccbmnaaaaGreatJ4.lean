import Derived.Test.YtmemijccbmnaaaaGreatJ3
import Derived.Test.YtmemijccbmnaaaaGreatIType2
namespace Go.Proofs.YtmemijccbmnaaaaGreat
set_option linter.unusedSimpArgs false
set_option linter.unusedVariables false
open Go.RowKit

/-- The sort of what is of a word; of a type it is a number. -/
def sortW (s : ByteArray) : Int := if isT s [116, 101, 120, 116] = true then 4 else if isT s [98, 111, 111, 108] = true then 2 else 3
theorem sortW_cases (s : ByteArray) : sortW s = 4 ∨ sortW s = 2 ∨ sortW s = 3 := by
  unfold sortW; split
  · exact Or.inl rfl
  · split
    · exact Or.inr (Or.inl rfl)
    · exact Or.inr (Or.inr rfl)
def plainX (x : V) : Bool := plainV x.sort x.num x.text x.names x.kids.length
/-- A value of the sort Bad, all else being nothing. -/
def badB (x : V) : Bool := x.num == 0 && x.text.toList.isEmpty && nokV x.names x.kids.length
/-- What is in a list that fits, as the program asks. -/
def kidsI (of : ByteArray) (ks : List V) (n : Nat) : Bool := (List.range n).all fun i => (kth ks i).sort == 1 || (kth ks i).sort == sortW of
def listI (of : ByteArray) (x : V) : Bool := x.sort == 5 && decide (x.kids.length ≤ 3) && okV x && kidsI of x.kids x.kids.length
def fitI (f : F) (x : V) : Bool :=
  if x.sort = 7 then badB x else if x.sort = 1 then !f.must && okV x else if f.list = false then x.sort == sortW f.of && okV x else listI f.of x
/-- One of a type, as the model asks. -/
def oneB (of : ByteArray) (x : V) : Bool := plainX x && (x.sort == 1 || x.sort == sortW of)
def kidsS (of : ByteArray) (ks : List V) (n : Nat) : Bool := (List.range n).all fun i => oneB of (kth ks i) && (kth ks i).kids.length == 0
def fitS (f : F) (x : V) : Bool :=
  if x.sort = 7 then badB x else if f.must = true ∧ x.sort = 1 then false else if f.list = false ∨ x.sort = 1 then oneB f.of x
  else x.sort == 5 && plainX x && decide (x.kids.length ≤ 3) && kidsS f.of x.kids x.kids.length

theorem kidsI_succ (of : ByteArray) (ks : List V) (n : Nat) : kidsI of ks (n + 1) = (kidsI of ks n && ((kth ks n).sort == 1 || (kth ks n).sort == sortW of)) := by simp [kidsI, List.range_succ]
theorem kidsS_succ (of : ByteArray) (ks : List V) (n : Nat) : kidsS of ks (n + 1) = (kidsS of ks n && (oneB of (kth ks n) && (kth ks n).kids.length == 0)) := by simp [kidsS, List.range_succ]
theorem kidsI_false (of : ByteArray) (ks : List V) (n k : Nat) (hk : k < n) (h : ((kth ks k).sort == 1 || (kth ks k).sort == sortW of) = false) : kidsI of ks n = false := by
  rw [kidsI, List.all_eq_false]; exact ⟨k, by simpa using hk, by simpa using h⟩
theorem kidsS_false (of : ByteArray) (ks : List V) (n k : Nat) (hk : k < n) (h : (oneB of (kth ks k) && (kth ks k).kids.length == 0) = false) : kidsS of ks n = false := by
  rw [kidsS, List.all_eq_false]; exact ⟨k, by simpa using hk, by simpa using h⟩

/-- Of these sorts nothing is in a value that is plain. -/
theorem plain_leaf (x : V) (h : plainX x = true) (hs : x.sort = 1 ∨ x.sort = 2 ∨ x.sort = 3 ∨ x.sort = 4) : x.kids = [] := by
  have : x.kids.length = 0 := by
    unfold plainX plainV at h
    simp only [Bool.or_eq_true, Bool.and_eq_true, beq_iff_eq] at h
    omega
  simpa using this
theorem leaf_parts (x : V) (d l : Int) (hd : d ≤ 16) (hl : 1 ≤ l) (hs : x.sort = 1 ∨ x.sort = 2 ∨ x.sort = 3 ∨ x.sort = 4) : partsV x d l = if plainX x = true then l - 1 else -1 := by
  obtain ⟨s, n, t, ns, ks⟩ := x
  rw [partsV_eq]
  cases h : plainX ⟨s, n, t, ns, ks⟩
  · have h' : plainV s n t ns ks.length = false := h
    rw [if_pos (Or.inr (Or.inr h'))]; simp
  · have h' : plainV s n t ns ks.length = true := h
    have hk : ks = [] := plain_leaf ⟨s, n, t, ns, ks⟩ h hs
    rw [if_neg (by simp [h']; omega)]
    subst hk
    simp [partsL_nil]
theorem okV_leaf (x : V) (hs : x.sort = 1 ∨ x.sort = 2 ∨ x.sort = 3 ∨ x.sort = 4) : okV x = plainX x := by
  have h := leaf_parts x 1 600 (by omega) (by omega) hs
  have e : okV x = decide (0 ≤ partsV x 1 600) := rfl
  rw [e, h]
  cases plainX x <;> simp
theorem leaf_list (of : ByteArray) (d : Int) (hd : d ≤ 16) (ks : List V) : ∀ n, n ≤ ks.length → n ≤ 3 → kidsI of ks n = true → partsL (ks.take n) d 599 = if kidsS of ks n = true then 599 - (n : Int) else -1
  | 0, _, _, _ => by simp [partsL_nil, kidsS]
  | n + 1, h1, h2, h3 => by
    rw [kidsI_succ, Bool.and_eq_true] at h3
    have ih := leaf_list of d hd ks n (by omega) (by omega) h3.1
    have hs : (kth ks n).sort = 1 ∨ (kth ks n).sort = 2 ∨ (kth ks n).sort = 3 ∨ (kth ks n).sort = 4 := by
      have := h3.2
      simp only [Bool.or_eq_true, beq_iff_eq] at this
      have := sortW_cases of
      omega
    rw [take_kth ks n (by omega), partsL_append, kidsS_succ, ih]
    cases hk : kidsS of ks n
    · simp [partsL_neg]
    · simp only [if_true, Bool.true_and]
      rw [partsL_cons, if_pos (by omega), partsL_nil, leaf_parts _ d _ hd (by omega) hs]
      have h4 : (oneB of (kth ks n) && (kth ks n).kids.length == 0) = plainX (kth ks n) := by
        cases hp : plainX (kth ks n)
        · simp [oneB, hp]
        · simp [oneB, hp, plain_leaf _ hp hs, h3.2]
      rw [h4]
      cases plainX (kth ks n) <;> simp <;> omega
theorem kidsS_I (of : ByteArray) (ks : List V) (n : Nat) (h : kidsS of ks n = true) : kidsI of ks n = true := by
  rw [kidsS, List.all_eq_true] at h
  rw [kidsI, List.all_eq_true]
  intro i hi
  have := h i hi
  simp only [oneB, Bool.and_eq_true] at this
  exact this.1.2
theorem okV_list (of : ByteArray) (x : V) (h5 : x.sort = 5) (h3 : x.kids.length ≤ 3) (hk : kidsI of x.kids x.kids.length = true) : okV x = (plainX x && kidsS of x.kids x.kids.length) := by
  obtain ⟨s, n, t, ns, ks⟩ := x
  simp only at h5 h3 hk
  have e : okV ⟨s, n, t, ns, ks⟩ = decide (0 ≤ partsV ⟨s, n, t, ns, ks⟩ 1 600) := rfl
  rw [e, partsV_eq]
  cases hp : plainX ⟨s, n, t, ns, ks⟩
  · have h' : plainV s n t ns ks.length = false := hp
    rw [if_pos (Or.inr (Or.inr h'))]; simp
  · have h' : plainV s n t ns ks.length = true := hp
    rw [if_neg (by simp [h'])]
    have := leaf_list of 2 (by omega) ks ks.length (Nat.le_refl _) h3 hk
    rw [List.take_length] at this
    simp only [show (1 : Int) + 1 = 2 by omega, show (600 : Int) - 1 = 599 by omega]
    rw [this]
    cases kidsS of ks ks.length <;> simp <;> omega

/-- What fits is the same by both. -/
theorem fit_same (f : F) (x : V) : fitI f x = fitS f x := by
  unfold fitI fitS
  by_cases h7 : x.sort = 7
  · rw [if_pos h7, if_pos h7]
  rw [if_neg h7, if_neg h7]
  by_cases h1 : x.sort = 1
  · rw [if_pos h1, okV_leaf x (Or.inl h1)]
    cases hm : f.must
    · simp [h1, oneB]
    · simp [h1]
  have hmn : ¬ (f.must = true ∧ x.sort = 1) := fun h => h1 h.2
  rw [if_neg h1, if_neg hmn]
  cases hl : f.list
  · simp only [if_true, true_or]
    have hw := sortW_cases f.of
    by_cases hs : x.sort = sortW f.of
    · rw [okV_leaf x (by omega)]
      have h1' : (x.sort == 1) = false := by simpa using h1
      simp [oneB, hs, h1']
    · have hs' : (x.sort == sortW f.of) = false := by simpa using hs
      have h1' : (x.sort == 1) = false := by simpa using h1
      simp [oneB, hs', h1']
  · simp only [h1, Bool.true_eq_false, or_self, if_false]
    unfold listI
    by_cases h5 : x.sort = 5
    · by_cases h3 : x.kids.length ≤ 3
      · cases hk : kidsI f.of x.kids x.kids.length
        · have : kidsS f.of x.kids x.kids.length = false := by
            cases h : kidsS f.of x.kids x.kids.length
            · rfl
            · rw [kidsS_I _ _ _ h] at hk; cases hk
          simp [this]
        · rw [okV_list f.of x h5 h3 hk]
          simp [h5, h3]
      · simp [h3]
    · have h5' : (x.sort == 5) = false := by simpa using h5
      simp [h5']

/-- A cell that may stand for a field of a row of a type. -/
def cellB (t : T) (id : Int) (f : F) (c : Ce) : Bool := c.name.toList == f.name.toList && fitS f c.val && (!(f.name.toList == t.key.toList) || (c.val.sort == 3 && c.val.num == id))
def cellsTo (t : T) (r : Ro) (ks : List F) (n : Nat) : Bool := (List.range n).all fun i => cellB t r.id (fth ks i) (cth r.cells i)
theorem cellsTo_succ (t : T) (r : Ro) (ks : List F) (n : Nat) : cellsTo t r ks (n + 1) = (cellsTo t r ks n && cellB t r.id (fth ks n) (cth r.cells n)) := by simp [cellsTo, List.range_succ]
theorem cellsTo_false (t : T) (r : Ro) (ks : List F) (n k : Nat) (hk : k < n) (h : cellB t r.id (fth ks k) (cth r.cells k) = false) : cellsTo t r ks n = false := by
  rw [cellsTo, List.all_eq_false]; exact ⟨k, by simpa using hk, by simpa using h⟩
/-- A row of a type. -/
def rowB (t : T) (r : Ro) : Bool := decide (0 ≤ r.id) && decide (r.id ≤ 999999) && decide (r.cells.length = (KF t.fields t.fields.length).length) && cellsTo t r (KF t.fields t.fields.length) (KF t.fields t.fields.length).length

theorem cells_grow (t : T) (r : Ro) (n : Nat) (hn : n < t.fields.length) (hf : (fth t.fields n).far = false) (h : cellsTo t r (KF t.fields t.fields.length) (KF t.fields n).length = true) (hc : cellB t r.id (fth t.fields n) (cth r.cells (KF t.fields n).length) = true) :
    cellsTo t r (KF t.fields t.fields.length) (KF t.fields (n + 1)).length = true := by
  have h1 := KF_at t.fields n t.fields.length hn hf
  rw [KF, if_neg (by simp [hf]), List.length_append, List.length_singleton, cellsTo_succ, h, h1.2, hc]; rfl
theorem row_short (t : T) (r : Ro) (n : Nat) (hn : n < t.fields.length) (hf : (fth t.fields n).far = false) (h : r.cells.length ≤ (KF t.fields n).length) : rowB t r = false := by
  have h1 := KF_at t.fields n t.fields.length hn hf
  have : ¬ r.cells.length = (KF t.fields t.fields.length).length := by omega
  simp [rowB, this]
theorem row_bad (t : T) (r : Ro) (n : Nat) (hn : n < t.fields.length) (hf : (fth t.fields n).far = false) (hc : cellB t r.id (fth t.fields n) (cth r.cells (KF t.fields n).length) = false) : rowB t r = false := by
  have h1 := KF_at t.fields n t.fields.length hn hf
  have : cellsTo t r (KF t.fields t.fields.length) (KF t.fields t.fields.length).length = false := cellsTo_false t r _ _ _ h1.1 (by rw [h1.2]; exact hc)
  simp [rowB, this]

/-- Where a type stands. -/
def tIx (p : Pt) (s : ByteArray) : Int := firstTo (fun i => (tth p.types i).name.toList == s.toList) p.types.length
theorem tIx_bd (p : Pt) (s : ByteArray) : -1 ≤ tIx p s ∧ tIx p s < p.types.length ∨ tIx p s = -1 := by
  unfold tIx
  rcases firstTo_cases (fun i => (tth p.types i).name.toList == s.toList) p.types.length with ⟨h, -⟩ | ⟨k, h, hk, -⟩
  · right; exact h
  · left; omega
theorem tIx_hit (p : Pt) (s : ByteArray) (h : 0 ≤ tIx p s) : ((tth p.types (tIx p s).toNat).name.toList == s.toList) = true := by
  unfold tIx at h ⊢
  rcases firstTo_cases (fun i => (tth p.types i).name.toList == s.toList) p.types.length with ⟨h', -⟩ | ⟨k, h', hk, hp, -⟩
  · omega
  · rw [h']; simpa using hp
theorem tIx_same (p : Pt) (s s' : ByteArray) (h : (s.toList == s'.toList) = true) : tIx p s = tIx p s' := by
  have : s.toList = s'.toList := by simpa using h
  unfold tIx; rw [this]
theorem tIx_apart (p : Pt) (s s' : ByteArray) (h : (s.toList == s'.toList) = false) (h0 : 0 ≤ tIx p s) : tIx p s ≠ tIx p s' := fun e => by
  have h1 := tIx_hit p s h0
  have h2 := tIx_hit p s' (by omega)
  rw [← e] at h2
  simp only [beq_iff_eq] at h1 h2
  rw [← h1, ← h2] at h
  simp at h
theorem tIx_root (p : Pt) (hr : hasRootB p = true) (s : ByteArray) : (tIx p s = 0) ↔ (isT s [113, 117, 101, 114, 121] = true) := by
  simp only [hasRootB, isT, Bool.and_eq_true, decide_eq_true_eq, beq_iff_eq] at hr ⊢
  obtain ⟨⟨h0, h1⟩, -⟩ := hr
  constructor
  · intro h
    have := tIx_hit p s (by omega)
    rw [h] at this
    simp only [Int.toNat_zero, beq_iff_eq] at this
    rw [← this, h1]
  · intro h
    exact firstTo_hit (k := 0) (fun i hi => by omega) (by simp [h1, h]) h0

/-- A row that may stand behind those ahead of it, as the program asks. -/
def ordI (p : Pt) (rs : List Ro) (i : Nat) : Bool :=
  if i = 0 then isT (rth rs 0).type [113, 117, 101, 114, 121] && (rth rs 0).id == 0
  else if ((rth rs i).type.toList == (rth rs (i - 1)).type.toList) = true then !isT (rth rs i).type [113, 117, 101, 114, 121] && decide ((rth rs (i - 1)).id < (rth rs i).id)
  else decide (tIx p (rth rs (i - 1)).type < tIx p (rth rs i).type)
def oneI (p : Pt) (rs : List Ro) (i : Nat) : Bool := ordI p rs i && (decide (0 ≤ tIx p (rth rs i).type) && rowB (tth p.types (tIx p (rth rs i).type).toNat) (rth rs i))
/-- The same as the model asks, of rows whose first is right. -/
def oneS (p : Pt) (rs : List Ro) (i : Nat) : Bool :=
  decide (0 ≤ tIx p (rth rs i).type) && rowB (tth p.types (tIx p (rth rs i).type).toNat) (rth rs i) &&
  (decide (i = 0) || (!(tIx p (rth rs i).type == 0) && !decide (tIx p (rth rs i).type < tIx p (rth rs (i - 1)).type) && !((tIx p (rth rs (i - 1)).type == tIx p (rth rs i).type) && decide ((rth rs i).id ≤ (rth rs (i - 1)).id))))
def allTo (f : Nat → Bool) (n : Nat) : Bool := (List.range n).all f
theorem allTo_succ (f : Nat → Bool) (n : Nat) : allTo f (n + 1) = (allTo f n && f n) := by simp [allTo, List.range_succ]
theorem allTo_false (f : Nat → Bool) (n k : Nat) (hk : k < n) (h : f k = false) : allTo f n = false := by
  rw [allTo, List.all_eq_false]; exact ⟨k, by simpa using hk, by simpa using h⟩
theorem allTo_at (f : Nat → Bool) (n k : Nat) (hk : k < n) (h : allTo f n = true) : f k = true := by
  rw [allTo, List.all_eq_true] at h; exact h k (by simpa using hk)
theorem one_same (p : Pt) (hr : hasRootB p = true) (rs : List Ro) (i : Nat) (hp : 0 < i → 0 ≤ tIx p (rth rs (i - 1)).type) (h0 : i = 0 → (isT (rth rs 0).type [113, 117, 101, 114, 121] && (rth rs 0).id == 0) = true) : oneI p rs i = oneS p rs i := by
  unfold oneI oneS ordI
  by_cases hi : i = 0
  · subst hi
    have := h0 rfl
    simp [this]
  rw [if_neg hi]
  have hp' := hp (by omega)
  have hroot := tIx_root p hr (rth rs i).type
  cases he : ((rth rs i).type.toList == (rth rs (i - 1)).type.toList)
  · have hne := tIx_apart p _ _ he
    simp only [Bool.false_eq_true, if_false]
    by_cases h1 : 0 ≤ tIx p (rth rs i).type
    · have hne' := hne h1
      have e1 : decide (tIx p (rth rs (i - 1)).type < tIx p (rth rs i).type) = (!(tIx p (rth rs i).type == 0) && !decide (tIx p (rth rs i).type < tIx p (rth rs (i - 1)).type) && !((tIx p (rth rs (i - 1)).type == tIx p (rth rs i).type) && decide ((rth rs i).id ≤ (rth rs (i - 1)).id))) := by
        rw [Bool.eq_iff_iff]
        simp
        omega
      rw [e1]
      simp only [hi, decide_false, Bool.false_or]
      rw [Bool.and_comm]
    · simp [h1]
  · have hsame := tIx_same p _ _ he
    simp only [if_true]
    have e1 : (!isT (rth rs i).type [113, 117, 101, 114, 121] && decide ((rth rs (i - 1)).id < (rth rs i).id)) = (!(tIx p (rth rs i).type == 0) && !decide (tIx p (rth rs i).type < tIx p (rth rs (i - 1)).type) && !((tIx p (rth rs (i - 1)).type == tIx p (rth rs i).type) && decide ((rth rs i).id ≤ (rth rs (i - 1)).id))) := by
      rw [← hsame]
      rw [Bool.eq_iff_iff]
      simp only [Bool.and_eq_true, Bool.not_eq_true', decide_eq_true_eq, beq_eq_false_iff_ne, ne_eq, decide_eq_false_iff_not, beq_self_eq_true, Bool.true_and, hroot]
      simp
    rw [e1]
    simp only [hi, decide_false, Bool.false_or]
    rw [Bool.and_comm]
theorem all_same (p : Pt) (hr : hasRootB p = true) (rs : List Ro) (h0 : (isT (rth rs 0).type [113, 117, 101, 114, 121] && (rth rs 0).id == 0) = true) : ∀ n, allTo (oneI p rs) n = allTo (oneS p rs) n
  | 0 => rfl
  | n + 1 => by
    rw [allTo_succ, allTo_succ, all_same p hr rs h0 n]
    cases h : allTo (oneS p rs) n
    · rfl
    · rw [one_same p hr rs n (fun hn => ?_) (fun _ => h0)]
      have := allTo_at _ n (n - 1) (by omega) h
      simp only [oneS, Bool.and_eq_true, decide_eq_true_eq] at this
      exact this.1.1
end Go.Proofs.YtmemijccbmnaaaaGreat

namespace Go.Proofs.YtmemijccbmnaaaaGreat
set_option linter.unusedSimpArgs false
set_option linter.unusedVariables false
open Go.RowKit

/-- All that was there is as it was, but for one block. -/
structure But (rb : Nat) (w w' : World) : Prop where
  os : w'.os = w.os
  tape : w'.tape = w.tape
  output : w'.output = w.output
  size : w.heap.size ≤ w'.heap.size
  block : ∀ k, k < w.heap.size → k ≠ rb → w'.heap[k]? = w.heap[k]?
theorem But.refl (rb : Nat) (w : World) : But rb w w := ⟨rfl, rfl, rfl, Nat.le_refl _, fun _ _ _ => rfl⟩
theorem But.trans {rb : Nat} {a b c : World} (h : But rb a b) (k : But rb b c) : But rb a c :=
  ⟨k.os.trans h.os, k.tape.trans h.tape, k.output.trans h.output, Nat.le_trans h.size k.size, fun i hi hn => (k.block i (Nat.lt_of_lt_of_le hi h.size) hn).trans (h.block i hi hn)⟩
theorem But.of_below {rb : Nat} {w w' : World} (h : Below w.heap.size w w') : But rb w w' := ⟨h.os, h.tape, h.output, h.size, fun k hk _ => h.block k hk⟩
theorem But.below {rb B : Nat} {w w' : World} (h : But rb w w') (h1 : B ≤ rb) (h2 : B ≤ w.heap.size) : Below B w w' := ⟨h.os, h.tape, h.output, h.size, fun k hk => h.block k (by omega) (by omega)⟩
theorem But.drew {rb : Nat} {a w : World} (h : But rb a w) : But rb a w.drew := ⟨h.os, h.tape, h.output, h.size, h.block⟩
theorem But.setCell {rb : Nat} {a w : World} (h : But rb a w) (o : Nat) (u : Value) : But rb a (w.setCell ⟨rb, o, none⟩ u) :=
  h.trans ⟨rfl, rfl, rfl, by simp [World.setCell], fun k _ hn => Below.heap_setCell _ _ _ _ hn⟩
theorem But.alloc {rb : Nat} {a w : World} (h : But rb a w) (o : Obj) : But rb a (w.alloc o) := h.trans (.of_below (below_box w o))
theorem But.cell {rb : Nat} {w w' : World} (h : But rb w w') {p : Addr} (hp : p.block < w.heap.size) (hn : p.block ≠ rb) : w'.cell? p = w.cell? p := World.cell?_of_block (w := w) (h.block p.block hp hn)

/-- What 'takes' does with a value, 'rb' being the block of the room. -/
def TkOk (x : V) : Prop := ∀ (w : World) (B rb : Nat) (v : Value) (d p : Int), Rep w (· < B) x v → B ≤ rb → rb < w.heap.size → w.cell? ⟨rb, 0, none⟩ = some (.int .i64 p) → (∀ i, w.frozen? ⟨rb, i, none⟩ = false) → 0 ≤ d → d ≤ 17 → 0 ≤ p → p ≤ 600 →
  Calls Tryz.prog 143 #[.pointer (some ⟨rb, 0, none⟩), v, .int .i64 d] w fun e w' => ∃ q : Int, e = .returned (.bool (decide (0 ≤ partsV x d p))) ∧ (0 ≤ partsV x d p → q = partsV x d p) ∧ 0 ≤ q ∧ q ≤ 600 ∧
    w'.cell? ⟨rb, 0, none⟩ = some (.int .i64 q) ∧ (∀ i, w'.frozen? ⟨rb, i, none⟩ = false) ∧ But rb w w'

set_option maxHeartbeats 800000 in
theorem takes_no (s n : Int) (t : ByteArray) (ns : List ByteArray) (ks : List V) (na ka : Option Addr) (nc kc : Nat) (w : World) (rb : Nat) (d p : Int) (hrb : rb < w.heap.size) (hcell : w.cell? ⟨rb, 0, none⟩ = some (.int .i64 p)) (hfz : ∀ i, w.frozen? ⟨rb, i, none⟩ = false) (hp0 : 0 ≤ p) (hp1 : p ≤ 600) (e1 : 16 < d ∨ p = 0) :
    Calls Tryz.prog 143 #[.pointer (some ⟨rb, 0, none⟩), .agg #[.int .i64 s, .int .i64 n, .string t, .slice na ns.length nc, .slice ka ks.length kc], .int .i64 d] w fun e w' => ∃ q : Int, e = .returned (.bool (decide (0 ≤ partsV (.mk s n t ns ks) d p))) ∧ (0 ≤ partsV (.mk s n t ns ks) d p → q = partsV (.mk s n t ns ks) d p) ∧ 0 ≤ q ∧ q ≤ 600 ∧
      w'.cell? ⟨rb, 0, none⟩ = some (.int .i64 q) ∧ (∀ i, w'.frozen? ⟨rb, i, none⟩ = false) ∧ But rb w w' := by
  have hpv : partsV (.mk s n t ns ks) d p = -1 := by rw [partsV_eq, if_pos (by omega)]
  have hent : ∀ w', w'.cell? ⟨rb, 0, none⟩ = some (.int .i64 p) → Calls Tryz.prog 148 #[.pointer (some ⟨rb, 0, none⟩), .int .i64 d] w' fun e w'' => e = .returned (.bool false) ∧ w' = w'' := fun w' h => enter_no rb d p w' h e1
  have hc1 : ∀ o, (w.alloc o).cell? ⟨rb, 0, none⟩ = some (.int .i64 p) := fun o => ((below_box w o).cell (p := ⟨rb, 0, none⟩) hrb).trans hcell
  have hf1 : ∀ o i, (w.alloc o).frozen? ⟨rb, i, none⟩ = false := fun o i => ((below_box w o).frozen (p := ⟨rb, i, none⟩) hrb).trans (hfz i)
  rw [hpv]
  clear e1
  go_enter Tryz.func143, Tryz.ntmps143
  go_wp2_with fail
  first | (go_region_with (go_at_call 148; refine (hent _ ?_).mono ?_; exact hc1 _; rintro e w1 ⟨rfl, rfl⟩)) | fail
  all_goals
    go_wp2_with fail
    go_ret
    exact ⟨p, rfl, fun h => by omega, hp0, hp1, by simpa using hc1 _, fun i => by simpa using hf1 _ i, ((But.refl _ _).alloc _).drew⟩
end Go.Proofs.YtmemijccbmnaaaaGreat

namespace Go.Proofs.YtmemijccbmnaaaaGreat
set_option linter.unusedSimpArgs false
set_option linter.unusedVariables false
open Go.RowKit

theorem box_cell4 (w : World) (rb : Nat) (v c0 c1 c2 c3 c4 : Value) (T : TypeId) : ((w.setCell ⟨rb, 0, none⟩ v).alloc (.cells #[c0, c1, c2, c3, c4] T)).drew.cell? ⟨w.heap.size, 4, none⟩ = some c4 := by
  have h := (World.rowIs_alloc (w.setCell ⟨rb, 0, none⟩ v) #[c0, c1, c2, c3, c4] T (fun i => #[c0, c1, c2, c3, c4][i]?.getD undef) (fun i hi => by rw [Array.getElem?_eq_getElem hi]; rfl)).cell (i := 4) (by simp)
  rw [size_set] at h
  exact h
theorem set_cell (w : World) (rb : Nat) (v u : Value) (o : Obj) (hrb : rb < w.heap.size) (hc : w.cell? ⟨rb, 0, none⟩ = some u) : ((w.setCell ⟨rb, 0, none⟩ v).alloc o).drew.cell? ⟨rb, 0, none⟩ = some v := by
  have h1 : (w.setCell ⟨rb, 0, none⟩ v).cell? ⟨rb, 0, none⟩ = some v := by go_simp
  exact ((below_box _ o).cell (p := ⟨rb, 0, none⟩) (by rw [size_set]; exact hrb)).trans h1
theorem set_frozen (w : World) (rb : Nat) (v : Value) (o : Obj) (hrb : rb < w.heap.size) (hf : ∀ i, w.frozen? ⟨rb, i, none⟩ = false) (i : Nat) : ((w.setCell ⟨rb, 0, none⟩ v).alloc o).drew.frozen? ⟨rb, i, none⟩ = false := by
  have h1 : (w.setCell ⟨rb, 0, none⟩ v).frozen? ⟨rb, i, none⟩ = false := by go_simp
  exact ((below_box _ o).frozen (p := ⟨rb, i, none⟩) (by rw [size_set]; exact hrb)).trans h1
theorem box_size (w : World) (rb : Nat) (v : Value) (o : Obj) : ((w.setCell ⟨rb, 0, none⟩ v).alloc o).drew.heap.size = w.heap.size + 1 := by
  show ((w.setCell ⟨rb, 0, none⟩ v).heap.push o).size = _
  rw [Array.size_push, size_set]

set_option maxHeartbeats 1600000 in
theorem takes_bad (T : TypeId) (F : FuncId) (s n : Int) (t : ByteArray) (ns : List ByteArray) (ks : List V) (na ka : Option Addr) (nc kc : Nat) (w : World) (B rb : Nat) (d p : Int) (hs : Strs w (· < B) ns na) (hns : ns.length ≤ nc) (ht : t.size ≤ maxLen)
    (hB : B ≤ rb) (hrb : rb < w.heap.size) (hcell : w.cell? ⟨rb, 0, none⟩ = some (.int .i64 p)) (hfz : ∀ i, w.frozen? ⟨rb, i, none⟩ = false) (hd0 : 0 ≤ d) (hp1 : p ≤ 600) (hd2 : d ≤ 16) (hp2 : 0 < p) (e2 : (ks.length : Int) ≤ p - 1)
    (hsort : ∀ w', Calls Tryz.prog 149 #[.int .i64 s] w' fun e w'' => e = .returned (.tuple #[.iface T (.agg #[]), .bool true]) ∧ w' = w'')
    (hmeth : ∀ w', (method 345 T (.agg #[]) "loop.example/portolan/impl.holds").run Tryz.prog w' = .ok (F, .agg #[]) w')
    (hpl : plainV s n t ns ks.length = false) (hcf : ∀ args w', (callFunc F args).run Tryz.prog w' = .ok (.enter F args) w')
    (hhold : ∀ w', Strs w' (· < w'.heap.size) ns na → Calls Tryz.prog F #[.agg #[], .agg #[.int .i64 s, .int .i64 n, .string t, .slice na ns.length nc, .slice ka ks.length kc]] w' fun e w'' => e = .returned (.bool false) ∧ Below w'.heap.size w' w'') :
    Calls Tryz.prog 143 #[.pointer (some ⟨rb, 0, none⟩), .agg #[.int .i64 s, .int .i64 n, .string t, .slice na ns.length nc, .slice ka ks.length kc], .int .i64 d] w fun e w' => ∃ q : Int, e = .returned (.bool (decide (0 ≤ partsV (.mk s n t ns ks) d p))) ∧ (0 ≤ partsV (.mk s n t ns ks) d p → q = partsV (.mk s n t ns ks) d p) ∧ 0 ≤ q ∧ q ≤ 600 ∧
      w'.cell? ⟨rb, 0, none⟩ = some (.int .i64 q) ∧ (∀ i, w'.frozen? ⟨rb, i, none⟩ = false) ∧ But rb w w' := by
  have hent : ∀ w', w'.cell? ⟨rb, 0, none⟩ = some (.int .i64 p) → w'.frozen? ⟨rb, 0, none⟩ = false → Calls Tryz.prog 148 #[.pointer (some ⟨rb, 0, none⟩), .int .i64 d] w' fun e w'' => e = .returned (.bool true) ∧ w'.setCell ⟨rb, 0, none⟩ (.int .i64 (p - 1)) = w'' := fun w' h hf => enter_yes rb d p w' h hf hd2 hp2 hp1
  have hc1 : ∀ o, (w.alloc o).cell? ⟨rb, 0, none⟩ = some (.int .i64 p) := fun o => ((below_box w o).cell (p := ⟨rb, 0, none⟩) hrb).trans hcell
  have hf1 : ∀ o i, (w.alloc o).frozen? ⟨rb, i, none⟩ = false := fun o i => ((below_box w o).frozen (p := ⟨rb, i, none⟩) hrb).trans (hfz i)
  have hne : w.heap.size ≠ rb := by omega
  have hst : ∀ w', But rb w w' → Strs w' (· < w'.heap.size) ns na := fun w' h => (hs.under (h.below hB (by omega))).sub fun k hk => by have := h.size; omega
  have hpv : partsV (.mk s n t ns ks) d p = -1 := by rw [partsV_eq, if_pos (Or.inr (Or.inr hpl))]
  rw [hpv]
  go_enter Tryz.func143, Tryz.ntmps143
  go_wp2_with fail
  first | (go_region_with (go_at_call 148; refine (hent _ ?_ ?_).mono ?_; exact hc1 _; exact hf1 _ _; rintro e w1 ⟨rfl, rfl⟩)) | fail
  all_goals
    go_wp2_with (go_at_call 149; refine (hsort _).mono ?_; rintro e w1 ⟨rfl, rfl⟩)
    refine (hhold _ (hst _ ((((But.refl rb w).setCell 0 _).alloc _).drew))).mono ?_
    rintro e w1 ⟨rfl, hb1⟩
    have hx4 : w1.cell? ⟨w.heap.size, 4, none⟩ = some (.slice ka ks.length kc) := by rw [hb1.cell (by rw [box_size]; show w.heap.size < _; omega)]; exact box_cell4 _ _ _ _ _ _ _ _ _
    have hbut := (((But.refl rb w).setCell 0 (.int .i64 (p - 1))).alloc (.cells #[.int .i64 s, .int .i64 n, .string t, .slice na ns.length nc, .slice ka ks.length kc] 45)).drew.trans (.of_below hb1)
    have hxr : w1.cell? ⟨rb, 0, none⟩ = some (.int .i64 (p - 1)) := by rw [hb1.cell (by rw [box_size]; show rb < _; omega)]; exact set_cell w rb _ _ _ hrb hcell
    have hxf : ∀ i, w1.frozen? ⟨rb, i, none⟩ = false := fun i => by rw [hb1.frozen (by rw [box_size]; show rb < _; omega)]; exact set_frozen w rb _ _ hrb hfz i
    clear hb1
    go_wp2_with fail
    go_ret
    exact ⟨p - 1, rfl, fun h => by omega, by omega, by omega, hxr, hxf, hbut⟩

end Go.Proofs.YtmemijccbmnaaaaGreat

namespace Go.Proofs.YtmemijccbmnaaaaGreat
set_option linter.unusedSimpArgs false
set_option linter.unusedVariables false
open Go.RowKit

theorem Rep.shape5 {w : World} {P : Nat → Prop} {x : V} {a0 a1 a2 a3 a4 : Value} (h : Rep w P x (.agg #[a0, a1, a2, a3, a4])) :
    ∃ (s n : Int) (t : ByteArray) (na ka : Option Addr) (nl nc kl kc : Nat), a0 = .int .i64 s ∧ a1 = .int .i64 n ∧ a2 = .string t ∧ a3 = .slice na nl nc ∧ a4 = .slice ka kl kc := by
  obtain ⟨s, n, t, ns, ks⟩ := x
  obtain ⟨na, ka, nc, kc, hv, -⟩ := h.inv
  simp only [Value.agg.injEq, Array.mk.injEq, List.cons.injEq, and_true] at hv
  obtain ⟨h0, h1, h2, h3, h4⟩ := hv
  exact ⟨s, n, t, na, ka, _, nc, _, kc, h0, h1, h2, h3, h4⟩

set_option maxHeartbeats 1600000 in
theorem takes_yes (T : TypeId) (F : FuncId) (s n : Int) (t : ByteArray) (ns : List ByteArray) (ks : List V) (IH : ∀ i, i < ks.length → TkOk (kth ks i)) (na ka : Option Addr) (nc kc : Nat) (w : World) (B rb : Nat) (d p : Int) (hs : Strs w (· < B) ns na) (hns : ns.length ≤ nc) (ht : t.size ≤ maxLen) (hK : Kids w (· < B) ks ka)
    (hB : B ≤ rb) (hrb : rb < w.heap.size) (hcell : w.cell? ⟨rb, 0, none⟩ = some (.int .i64 p)) (hfz : ∀ i, w.frozen? ⟨rb, i, none⟩ = false) (hd0 : 0 ≤ d) (hp1 : p ≤ 600) (hd2 : d ≤ 16) (hp2 : 0 < p) (e2 : (ks.length : Int) ≤ p - 1)
    (hsort : ∀ w', Calls Tryz.prog 149 #[.int .i64 s] w' fun e w'' => e = .returned (.tuple #[.iface T (.agg #[]), .bool true]) ∧ w' = w'')
    (hmeth : ∀ w', (method 345 T (.agg #[]) "loop.example/portolan/impl.holds").run Tryz.prog w' = .ok (F, .agg #[]) w')
    (hpl : plainV s n t ns ks.length = true) (hcf : ∀ args w', (callFunc F args).run Tryz.prog w' = .ok (.enter F args) w')
    (hhold : ∀ w', Strs w' (· < w'.heap.size) ns na → Calls Tryz.prog F #[.agg #[], .agg #[.int .i64 s, .int .i64 n, .string t, .slice na ns.length nc, .slice ka ks.length kc]] w' fun e w'' => e = .returned (.bool true) ∧ Below w'.heap.size w' w'') :
    Calls Tryz.prog 143 #[.pointer (some ⟨rb, 0, none⟩), .agg #[.int .i64 s, .int .i64 n, .string t, .slice na ns.length nc, .slice ka ks.length kc], .int .i64 d] w fun e w' => ∃ q : Int, e = .returned (.bool (decide (0 ≤ partsV (.mk s n t ns ks) d p))) ∧ (0 ≤ partsV (.mk s n t ns ks) d p → q = partsV (.mk s n t ns ks) d p) ∧ 0 ≤ q ∧ q ≤ 600 ∧
      w'.cell? ⟨rb, 0, none⟩ = some (.int .i64 q) ∧ (∀ i, w'.frozen? ⟨rb, i, none⟩ = false) ∧ But rb w w' := by
  have hent : ∀ w', w'.cell? ⟨rb, 0, none⟩ = some (.int .i64 p) → w'.frozen? ⟨rb, 0, none⟩ = false → Calls Tryz.prog 148 #[.pointer (some ⟨rb, 0, none⟩), .int .i64 d] w' fun e w'' => e = .returned (.bool true) ∧ w'.setCell ⟨rb, 0, none⟩ (.int .i64 (p - 1)) = w'' := fun w' h hf => enter_yes rb d p w' h hf hd2 hp2 hp1
  have hc1 : ∀ o, (w.alloc o).cell? ⟨rb, 0, none⟩ = some (.int .i64 p) := fun o => ((below_box w o).cell (p := ⟨rb, 0, none⟩) hrb).trans hcell
  have hf1 : ∀ o i, (w.alloc o).frozen? ⟨rb, i, none⟩ = false := fun o i => ((below_box w o).frozen (p := ⟨rb, i, none⟩) hrb).trans (hfz i)
  have hne : w.heap.size ≠ rb := by omega
  have hst : ∀ w', But rb w w' → Strs w' (· < w'.heap.size) ns na := fun w' h => (hs.under (h.below hB (by omega))).sub fun k hk => by have := h.size; omega
  go_enter Tryz.func143, Tryz.ntmps143
  go_wp2_with fail
  first | (go_region_with (go_at_call 148; refine (hent _ ?_ ?_).mono ?_; exact hc1 _; exact hf1 _ _; rintro e w1 ⟨rfl, rfl⟩)) | fail
  all_goals
    go_wp2_with (go_at_call 149; refine (hsort _).mono ?_; rintro e w1 ⟨rfl, rfl⟩)
    refine (hhold _ (hst _ ((((But.refl rb w).setCell 0 _).alloc _).drew))).mono ?_
    rintro e w1 ⟨rfl, hb1⟩
    have hx4 : w1.cell? ⟨w.heap.size, 4, none⟩ = some (.slice ka ks.length kc) := by rw [hb1.cell (by rw [box_size]; show w.heap.size < _; omega)]; exact box_cell4 _ _ _ _ _ _ _ _ _
    have hbut := (((But.refl rb w).setCell 0 (.int .i64 (p - 1))).alloc (.cells #[.int .i64 s, .int .i64 n, .string t, .slice na ns.length nc, .slice ka ks.length kc] 45)).drew.trans (.of_below hb1)
    have hxr : w1.cell? ⟨rb, 0, none⟩ = some (.int .i64 (p - 1)) := by rw [hb1.cell (by rw [box_size]; show rb < _; omega)]; exact set_cell w rb _ _ _ hrb hcell
    have hxf : ∀ i, w1.frozen? ⟨rb, i, none⟩ = false := fun i => by rw [hb1.frozen (by rw [box_size]; show rb < _; omega)]; exact set_frozen w rb _ _ hrb hfz i
    clear hb1
    go_wp2_with fail
    have h3 := hK.1
    obtain ⟨-, b, off, C, hka, hc, hr⟩ := hK
    clear hmeth hcf hhold hsort hent hc1 hf1 hst
    go_loopw [42] (fun i wr => ∃ (k : Nat) (q : Int), k ≤ ks.length ∧ i = .int .i64 k ∧ partsL (ks.take k) (d + 1) (p - 1) = q ∧ 0 ≤ q ∧ But rb w wr ∧ wr.cell? ⟨rb, 0, none⟩ = some (.int .i64 q) ∧ (∀ i, wr.frozen? ⟨rb, i, none⟩ = false)) (fun i _ => ks.length - (intOf i).toNat)
    case atStart => exact ⟨0, _, Nat.zero_le _, rfl, by simp [partsL_nil], by omega, hbut, hxr, hxf⟩
    case round =>
      clear hbut hxr hxf hx4
      obtain ⟨k, q, hk, rfl, hq, hq0, hbut, hxr, hxf⟩ := hrel
      have HQ : Hid (partsL (ks.take k) (d + 1) (p - 1) = q) := hq
      have hq1 : q ≤ 600 := by have := partsL_bd (ks.take k) (d + 1) (p - 1) (by omega); omega
      clear hq
      have hsz := hbut.size
      by_cases hlt : k < ks.length
      · obtain ⟨rfl, hbB⟩ := hka (by intro e; simp [e] at hlt)
        have hrk := hr k hlt
        obtain ⟨s', n', t', na', ka', nl', nc', kl', kc', j0, j1, j2, j3, j4⟩ := hrk.shape5
        have hck : ∀ j, j < 5 → wr.cell? ⟨b, off + k * 5 + j, none⟩ = some (C k j) := fun j hj => (hbut.cell (p := ⟨b, off + k * 5 + j, none⟩) (by show b < _; omega) (by show b ≠ _; omega)).trans (hc k hlt j hj)
        have hc0 : wr.cell? ⟨b, off + k * 5, none⟩ = some (C k 0) := hck 0 (by omega)
        have hc1 := hck 1 (by omega)
        have hc2 := hck 2 (by omega)
        have hc3 := hck 3 (by omega)
        have hc4 := hck 4 (by omega)
        rw [j0] at hc0 hrk
        rw [j1] at hc1 hrk
        rw [j2] at hc2 hrk
        rw [j3] at hc3 hrk
        rw [j4] at hc4 hrk
        have hxr' : ∀ o, (wr.alloc o).cell? ⟨rb, 0, none⟩ = some (.int .i64 q) := fun o => ((below_box wr o).cell (p := ⟨rb, 0, none⟩) (by show rb < _; omega)).trans hxr
        have hxf' : ∀ o i, (wr.alloc o).frozen? ⟨rb, i, none⟩ = false := fun o i => ((below_box wr o).frozen (p := ⟨rb, i, none⟩) (by show rb < _; omega)).trans (hxf i)
        have hih := fun o => IH k hlt (wr.alloc o) B rb _ (d + 1) q (hrk.under ((hbut.alloc o).below hB (by omega))) hB (by simp; omega) (hxr' o) (hxf' o) (by omega) (by omega) hq0 hq1
        clear hck hc j0 j1 j2 j3 j4
        by_cases hpos : 0 ≤ partsV (kth ks k) (d + 1) q
        · have hdec : decide (0 ≤ partsV (kth ks k) (d + 1) q) = true := by simpa using hpos
          have HPOS : Hid (0 ≤ partsV (kth ks k) (d + 1) q) := hpos
          rw [hdec] at hih
          clear hdec hpos
          go_wp2_with (go_at_call 143; refine (hih _).mono ?_; rintro e w2 ⟨q2, rfl, hq2, hq20, hq21, hr2, hf2, hb2⟩)
          go_roundw
          case rel =>
            have e2 := hq2 HPOS.out
            exact ⟨k + 1, q2, by omega, by go_num, by rw [partsL_succ ks k hlt _ _ (by rw [HQ.out]; exact hq0), HQ.out, e2], hq20, (hbut.alloc _).trans hb2, hr2, hf2⟩
          case measure => simp [intOf]; omega
        · have hdec : decide (0 ≤ partsV (kth ks k) (d + 1) q) = false := by simpa using hpos
          have hfin : Hid (decide (0 ≤ partsV (.mk s n t ns ks) d p) = false ∧ ¬ 0 ≤ partsV (.mk s n t ns ks) d p) := by
            have e1 : partsL (ks.take (k + 1)) (d + 1) (p - 1) = partsV (kth ks k) (d + 1) q := by rw [partsL_succ ks k hlt _ _ (by rw [HQ.out]; exact hq0), HQ.out]
            have e2 := partsL_stop ks (k + 1) (d + 1) (p - 1) (by omega)
            have e3 : partsV (.mk s n t ns ks) d p = partsL ks (d + 1) (p - 1) := by rw [partsV_eq, if_neg (by rw [hpl]; simp; omega)]
            exact ⟨by simp; omega, by omega⟩
          rw [hdec] at hih
          clear hdec hpos
          go_wp2_with (go_at_call 143; refine (hih _).mono ?_; rintro e w2 ⟨q2, rfl, hq2, hq20, hq21, hr2, hf2, hb2⟩)
          go_ret
          have hneg : partsV (.mk s n t ns ks) d p < 0 := by have := hfin.out.2; omega
          exact ⟨q2, ret_bool hfin.out.1.symm, fun h => by omega, hq20, hq21, hr2, hf2, (hbut.alloc _).trans hb2⟩
      · go_wp2_with fail
        go_ret
        have e : k = ks.length := by omega
        have e3 : partsV (.mk s n t ns ks) d p = q := by rw [partsV_eq, if_neg (by rw [hpl]; simp; omega), ← HQ.out, e, List.take_length]
        exact ⟨ret_bool (by rw [e3]; simpa using hq0), q, fun _ => e3.symm, hq0, hq1, hxr, hxf, hbut⟩

theorem cf_of {f : FuncId} {fn : Func} {c : Code} (hf : Tryz.prog.funcs[f]? = some fn) (hname : (fn.name == "runtime.NumGoroutine") = false) (hb : fn.body = some c) : ∀ args w', (callFunc f args).run Tryz.prog w' = .ok (.enter f args) w' := fun args w' => by
  have h1 : fn.name ≠ "runtime.NumGoroutine" := by simpa using hname
  simp [callFunc, hf, h1, hb]
end Go.Proofs.YtmemijccbmnaaaaGreat

namespace Go.Proofs.YtmemijccbmnaaaaGreat
set_option linter.unusedSimpArgs false
set_option linter.unusedVariables false
open Go.RowKit

set_option maxHeartbeats 1600000 in
theorem takes_big (s n : Int) (t : ByteArray) (ns : List ByteArray) (ks : List V) (na ka : Option Addr) (nc kc : Nat) (w : World) (rb : Nat) (d p : Int)
    (hrb : rb < w.heap.size) (hcell : w.cell? ⟨rb, 0, none⟩ = some (.int .i64 p)) (hfz : ∀ i, w.frozen? ⟨rb, i, none⟩ = false) (hp1 : p ≤ 600) (hd2 : d ≤ 16) (hp2 : 0 < p) (e2 : p - 1 < (ks.length : Int)) :
    Calls Tryz.prog 143 #[.pointer (some ⟨rb, 0, none⟩), .agg #[.int .i64 s, .int .i64 n, .string t, .slice na ns.length nc, .slice ka ks.length kc], .int .i64 d] w fun e w' => ∃ q : Int, e = .returned (.bool (decide (0 ≤ partsV (.mk s n t ns ks) d p))) ∧ (0 ≤ partsV (.mk s n t ns ks) d p → q = partsV (.mk s n t ns ks) d p) ∧ 0 ≤ q ∧ q ≤ 600 ∧
      w'.cell? ⟨rb, 0, none⟩ = some (.int .i64 q) ∧ (∀ i, w'.frozen? ⟨rb, i, none⟩ = false) ∧ But rb w w' := by
  have hent : ∀ w', w'.cell? ⟨rb, 0, none⟩ = some (.int .i64 p) → w'.frozen? ⟨rb, 0, none⟩ = false → Calls Tryz.prog 148 #[.pointer (some ⟨rb, 0, none⟩), .int .i64 d] w' fun e w'' => e = .returned (.bool true) ∧ w'.setCell ⟨rb, 0, none⟩ (.int .i64 (p - 1)) = w'' := fun w' h hf => enter_yes rb d p w' h hf hd2 hp2 hp1
  have hc1 : ∀ o, (w.alloc o).cell? ⟨rb, 0, none⟩ = some (.int .i64 p) := fun o => ((below_box w o).cell (p := ⟨rb, 0, none⟩) hrb).trans hcell
  have hf1 : ∀ o i, (w.alloc o).frozen? ⟨rb, i, none⟩ = false := fun o i => ((below_box w o).frozen (p := ⟨rb, i, none⟩) hrb).trans (hfz i)
  have hne : w.heap.size ≠ rb := by omega
  have hneg : partsV (.mk s n t ns ks) d p < 0 := by
    rw [partsV_eq]
    split
    · omega
    · have := partsL_bd ks (d + 1) (p - 1) (by omega); omega
  have hdec : decide (0 ≤ partsV (.mk s n t ns ks) d p) = false := by simp; omega
  rw [hdec]
  clear hdec
  have HN : Hid (partsV (.mk s n t ns ks) d p < 0) := hneg
  clear hneg
  go_enter Tryz.func143, Tryz.ntmps143
  go_wp2_with fail
  first | (go_region_with (go_at_call 148; refine (hent _ ?_ ?_).mono ?_; exact hc1 _; exact hf1 _ _; rintro e w1 ⟨rfl, rfl⟩)) | fail
  all_goals
    go_wp2_with fail
    go_ret
    exact ⟨p - 1, rfl, fun h => by have := HN.out; omega, by omega, by omega, set_cell w rb _ _ _ hrb hcell, set_frozen w rb _ _ hrb hfz, (((But.refl rb w).setCell 0 _).alloc _).drew⟩

set_option maxHeartbeats 1600000 in
theorem takes_none (s n : Int) (t : ByteArray) (ns : List ByteArray) (ks : List V) (na ka : Option Addr) (nc kc : Nat) (w : World) (rb : Nat) (d p : Int)
    (hrb : rb < w.heap.size) (hcell : w.cell? ⟨rb, 0, none⟩ = some (.int .i64 p)) (hfz : ∀ i, w.frozen? ⟨rb, i, none⟩ = false) (hp1 : p ≤ 600) (hd2 : d ≤ 16) (hp2 : 0 < p) (e2 : (ks.length : Int) ≤ p - 1) (hno : isSort s = false) :
    Calls Tryz.prog 143 #[.pointer (some ⟨rb, 0, none⟩), .agg #[.int .i64 s, .int .i64 n, .string t, .slice na ns.length nc, .slice ka ks.length kc], .int .i64 d] w fun e w' => ∃ q : Int, e = .returned (.bool (decide (0 ≤ partsV (.mk s n t ns ks) d p))) ∧ (0 ≤ partsV (.mk s n t ns ks) d p → q = partsV (.mk s n t ns ks) d p) ∧ 0 ≤ q ∧ q ≤ 600 ∧
      w'.cell? ⟨rb, 0, none⟩ = some (.int .i64 q) ∧ (∀ i, w'.frozen? ⟨rb, i, none⟩ = false) ∧ But rb w w' := by
  have hent : ∀ w', w'.cell? ⟨rb, 0, none⟩ = some (.int .i64 p) → w'.frozen? ⟨rb, 0, none⟩ = false → Calls Tryz.prog 148 #[.pointer (some ⟨rb, 0, none⟩), .int .i64 d] w' fun e w'' => e = .returned (.bool true) ∧ w'.setCell ⟨rb, 0, none⟩ (.int .i64 (p - 1)) = w'' := fun w' h hf => enter_yes rb d p w' h hf hd2 hp2 hp1
  have hc1 : ∀ o, (w.alloc o).cell? ⟨rb, 0, none⟩ = some (.int .i64 p) := fun o => ((below_box w o).cell (p := ⟨rb, 0, none⟩) hrb).trans hcell
  have hf1 : ∀ o i, (w.alloc o).frozen? ⟨rb, i, none⟩ = false := fun o i => ((below_box w o).frozen (p := ⟨rb, i, none⟩) hrb).trans (hfz i)
  have hne : w.heap.size ≠ rb := by omega
  have hsv : sortV s = .nilIface := by
    have : ¬ (1 ≤ s ∧ s ≤ 6) := by simpa [isSort] using hno
    simp [sortV, show s ≠ 1 by omega, show s ≠ 2 by omega, show s ≠ 3 by omega, show s ≠ 4 by omega, show s ≠ 5 by omega, show s ≠ 6 by omega]
  have hsort : ∀ w', Calls Tryz.prog 149 #[.int .i64 s] w' fun e w'' => e = .returned (.tuple #[.nilIface, .bool false]) ∧ w' = w'' := fun w' => by
    have := sortOf_any s w'; rw [hsv, hno] at this; exact this
  have hneg : partsV (.mk s n t ns ks) d p = -1 := by
    have h : ¬ (1 ≤ s ∧ s ≤ 6) := by simpa [isSort] using hno
    rw [partsV_eq, if_pos]
    refine Or.inr (Or.inr ?_)
    have g : ∀ i : Int, 1 ≤ i → i ≤ 6 → (s == i) = false := fun i h1 h2 => by simp; omega
    simp [plainV, g 1, g 2, g 3, g 4, g 5, g 6]
  rw [hneg]
  clear hno hsv hneg
  go_enter Tryz.func143, Tryz.ntmps143
  go_wp2_with fail
  first | (go_region_with (go_at_call 148; refine (hent _ ?_ ?_).mono ?_; exact hc1 _; exact hf1 _ _; rintro e w1 ⟨rfl, rfl⟩)) | fail
  all_goals
    go_wp2_with (go_at_call 149; refine (hsort _).mono ?_; rintro e w1 ⟨rfl, rfl⟩)
    go_ret
    exact ⟨p - 1, rfl, fun h => by omega, by omega, by omega, set_cell w rb _ _ _ hrb hcell, set_frozen w rb _ _ hrb hfz, (((But.refl rb w).setCell 0 _).alloc _).drew⟩
end Go.Proofs.YtmemijccbmnaaaaGreat

namespace Go.Proofs.YtmemijccbmnaaaaGreat
set_option linter.unusedSimpArgs false
set_option linter.unusedVariables false
open Go.RowKit

theorem meth1 (w : World) : (method 345 212 (.agg #[]) "loop.example/portolan/impl.holds").run Tryz.prog w = .ok (175, .agg #[]) w := by kernel_rfl
theorem meth2 (w : World) : (method 345 213 (.agg #[]) "loop.example/portolan/impl.holds").run Tryz.prog w = .ok (179, .agg #[]) w := by kernel_rfl
theorem meth3 (w : World) : (method 345 214 (.agg #[]) "loop.example/portolan/impl.holds").run Tryz.prog w = .ok (183, .agg #[]) w := by kernel_rfl
theorem meth4 (w : World) : (method 345 215 (.agg #[]) "loop.example/portolan/impl.holds").run Tryz.prog w = .ok (187, .agg #[]) w := by kernel_rfl
theorem meth5 (w : World) : (method 345 216 (.agg #[]) "loop.example/portolan/impl.holds").run Tryz.prog w = .ok (193, .agg #[]) w := by kernel_rfl
theorem meth6 (w : World) : (method 345 217 (.agg #[]) "loop.example/portolan/impl.holds").run Tryz.prog w = .ok (200, .agg #[]) w := by kernel_rfl

theorem plain1 (n : Int) (t : ByteArray) (ns : List ByteArray) (kl : Nat) : (n == 0 && t.toList.isEmpty && nokV ns kl) = plainV 1 n t ns kl := by
  rw [Bool.eq_iff_iff]; simp [plainV, nokV]; grind
theorem plain2 (n : Int) (t : ByteArray) (ns : List ByteArray) (kl : Nat) : ((n == 0 || n == 1) && t.toList.isEmpty && nokV ns kl) = plainV 2 n t ns kl := by
  rw [Bool.eq_iff_iff]; simp [plainV, nokV]; grind
theorem plain3 (n : Int) (t : ByteArray) (ns : List ByteArray) (kl : Nat) : (decide (-999999 ≤ n) && decide (n ≤ 999999) && t.toList.isEmpty && nokV ns kl) = plainV 3 n t ns kl := by
  rw [Bool.eq_iff_iff]; simp [plainV, nokV]; grind
theorem plain4 (n : Int) (t : ByteArray) (ns : List ByteArray) (kl : Nat) : (n == 0 && plainB t && nokV ns kl) = plainV 4 n t ns kl := by
  rw [Bool.eq_iff_iff]; simp [plainV, nokV]; grind
theorem plain5 (n : Int) (t : ByteArray) (ns : List ByteArray) (kl : Nat) : (n == 0 && t.toList.isEmpty && (ns.length : Int) == 0) = plainV 5 n t ns kl := by
  rw [Bool.eq_iff_iff]; simp [plainV]
theorem plain6 (n : Int) (t : ByteArray) (ns : List ByteArray) (kl : Nat) : (n == 0 && t.toList.isEmpty && (ns.length : Int) == (kl : Int) && onceTo ns ns.length) = plainV 6 n t ns kl := by
  rw [Bool.eq_iff_iff]; simp [plainV]

/-- A row of the table: its type, its method, and what that answers. -/
def SortRow (s : Int) : Prop := ∃ (T : TypeId) (F : FuncId), (∀ w', Calls Tryz.prog 149 #[.int .i64 s] w' fun e w'' => e = .returned (.tuple #[.iface T (.agg #[]), .bool true]) ∧ w' = w'') ∧
  (∀ w', (method 345 T (.agg #[]) "loop.example/portolan/impl.holds").run Tryz.prog w' = .ok (F, .agg #[]) w') ∧ (∀ args w', (callFunc F args).run Tryz.prog w' = .ok (.enter F args) w') ∧
  ∀ (n : Int) (t : ByteArray) (ns : List ByteArray) (na ka : Option Addr) (nc kc kl : Nat) (w : World), t.size ≤ maxLen → Strs w (· < w.heap.size) ns na → ns.length ≤ nc →
    Calls Tryz.prog F #[.agg #[], .agg #[.int .i64 s, .int .i64 n, .string t, .slice na ns.length nc, .slice ka kl kc]] w fun e w' => e = .returned (.bool (plainV s n t ns kl)) ∧ Below w.heap.size w w'

theorem row1 : SortRow 1 := ⟨212, 175, fun w' => sortOf_any 1 w', meth1, cf_of Tryz.func175 (by kernel_rfl) rfl, fun n t ns na ka nc kc kl w _ _ _ => by
  rw [← plain1]; exact holds1_any 1 n t ns na ka nc kc kl w⟩
theorem row2 : SortRow 2 := ⟨213, 179, fun w' => sortOf_any 2 w', meth2, cf_of Tryz.func179 (by kernel_rfl) rfl, fun n t ns na ka nc kc kl w _ _ _ => by
  rw [← plain2]; exact holds2_any 2 n t ns na ka nc kc kl w⟩
theorem row3 : SortRow 3 := ⟨214, 183, fun w' => sortOf_any 3 w', meth3, cf_of Tryz.func183 (by kernel_rfl) rfl, fun n t ns na ka nc kc kl w _ _ _ => by
  rw [← plain3]; exact holds3_any 3 n t ns na ka nc kc kl w⟩
theorem row4 : SortRow 4 := ⟨215, 187, fun w' => sortOf_any 4 w', meth4, cf_of Tryz.func187 (by kernel_rfl) rfl, fun n t ns na ka nc kc kl w ht _ _ => by
  rw [← plain4]; exact holds4_any 4 n t ns na ka nc kc kl w ht⟩
theorem row5 : SortRow 5 := ⟨216, 193, fun w' => sortOf_any 5 w', meth5, cf_of Tryz.func193 (by kernel_rfl) rfl, fun n t ns na ka nc kc kl w _ _ _ => by
  rw [← plain5]; exact holds5_any 5 n t ns na ka nc kc kl w⟩
theorem row6 : SortRow 6 := ⟨217, 200, fun w' => sortOf_any 6 w', meth6, cf_of Tryz.func200 (by kernel_rfl) rfl, fun n t ns na ka nc kc kl w _ hS hc => by
  rw [← plain6]; exact holds6_any 6 n t ns na ka nc kc kl w hS hc⟩
theorem row_of (s : Int) (h : isSort s = true) : SortRow s := by
  have h' : s = 1 ∨ s = 2 ∨ s = 3 ∨ s = 4 ∨ s = 5 ∨ s = 6 := by simp [isSort] at h; omega
  rcases h' with rfl | rfl | rfl | rfl | rfl | rfl
  · exact row1
  · exact row2
  · exact row3
  · exact row4
  · exact row5
  · exact row6

theorem takes_step (s n : Int) (t : ByteArray) (ns : List ByteArray) (ks : List V) (IH : ∀ i, i < ks.length → TkOk (kth ks i)) : TkOk (.mk s n t ns ks) := by
  intro w B rb v d p hR hB hrb hcell hfz hd0 hd1 hp0 hp1
  obtain ⟨na, ka, nc, kc, rfl, hs, hns, ht, hbs, hK⟩ := hR.inv
  by_cases e1 : 16 < d ∨ p = 0
  · exact takes_no s n t ns ks na ka nc kc w rb d p hrb hcell hfz hp0 hp1 e1
  by_cases e2 : p - 1 < (ks.length : Int)
  · exact takes_big s n t ns ks na ka nc kc w rb d p hrb hcell hfz hp1 (by omega) (by omega) e2
  cases e3 : isSort s
  · exact takes_none s n t ns ks na ka nc kc w rb d p hrb hcell hfz hp1 (by omega) (by omega) (by omega) e3
  obtain ⟨T, F, hsort, hmeth, hcf, hhold⟩ := row_of s e3
  have hh := fun w' h => hhold n t ns na ka nc kc ks.length w' ht h hns
  cases e4 : plainV s n t ns ks.length
  · rw [e4] at hh
    exact takes_bad T F s n t ns ks na ka nc kc w B rb d p hs hns ht hB hrb hcell hfz hd0 hp1 (by omega) (by omega) (by omega) hsort hmeth e4 hcf hh
  · rw [e4] at hh
    exact takes_yes T F s n t ns ks IH na ka nc kc w B rb d p hs hns ht hK hB hrb hcell hfz hd0 hp1 (by omega) (by omega) (by omega) hsort hmeth e4 hcf hh

theorem tk_all (m : Nat) : ∀ x : V, SizeOf.sizeOf x < m → TkOk x := by
  induction m with
  | zero => intro x h; omega
  | succ m ih =>
    intro x h
    match x, h with
    | .mk s n t ns ks, h => exact takes_step s n t ns ks fun i hi => ih _ (by have := kth_lt ks i hi; simp at h; omega)
theorem takes_any (x : V) : TkOk x := tk_all _ x (Nat.lt_succ_self _)

set_option maxHeartbeats 400000 in
theorem implOk_any (x : V) (w : World) (B : Nat) (v : Value) (hR : Rep w (· < B) x v) (hB : B ≤ w.heap.size) :
    Calls Tryz.prog 124 #[v] w fun e w' => e = .returned (.bool (okV x)) ∧ Below w.heap.size w w' := by
  have hR' := hR
  obtain ⟨s, n, t, ns, ks⟩ := x
  obtain ⟨na, ka, nc, kc, rfl, -⟩ := hR.inv
  have hw2 : ∀ o c, ((w.alloc o).alloc (.cells #[c] 198)).cell? ⟨w.heap.size + 1, 0, none⟩ = some c := fun o c => by simp
  have hf2 : ∀ o c i, ((w.alloc o).alloc (.cells #[c] 198)).frozen? ⟨w.heap.size + 1, i, none⟩ = false := fun o c i => by simp
  go_enter Tryz.func124, Tryz.ntmps124
  go_wp2_with (go_at_call 143; refine (takes_any (.mk s n t ns ks) _ w.heap.size (w.heap.size + 1) _ _ 600 ((hR'.under ((below_box2 w _ _).mono hB)).sub fun k hk => by omega) (by omega) (by simp) (hw2 _ _) (hf2 _ _) (by omega) (by omega) (by omega) (by omega)).mono ?_; rintro e w2 ⟨q, rfl, -, -, -, -, -, hb⟩)
  go_ret
  exact ⟨rfl, (below_box2 w _ _).trans (hb.below (by omega) (by simp; omega))⟩
end Go.Proofs.YtmemijccbmnaaaaGreat
