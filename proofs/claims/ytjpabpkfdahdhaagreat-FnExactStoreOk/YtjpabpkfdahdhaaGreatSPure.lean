/-
  Stores: what fits, what is a row, what is a store: as the program asks and as the model asks.
-/
import Derived.Test.YtjpabpkfdahdhaaGreatRRep
import Derived.Test.YtjpabpkfdahdhaaGreatParts
import Derived.Test.YtjpabpkfdahdhaaGreatIType2
import Derived.Test.YtjpabpkfdahdhaaGreatHolds
namespace Go.Proofs.YtjpabpkfdahdhaaGreat
set_option linter.unusedSimpArgs false
set_option linter.unusedVariables false
open Go.RowKit

/-- The sort of what is of a word; of a type it is a number. -/
def sortW (s : ByteArray) : Int := if isT s [116, 101, 120, 116] = true then 4 else if isT s [98, 111, 111, 108] = true then 2 else 3
theorem sortW_cases (s : ByteArray) : sortW s = 4 ∨ sortW s = 2 ∨ sortW s = 3 := by
  unfold sortW; split
  · exact Or.inl rfl
  · split
    · exact Or.inr (Or.inl rfl)
    · exact Or.inr (Or.inr rfl)
def plainX (x : V) : Bool := plainV x.sort x.num x.text x.names x.kids.length
/-- A value of the sort Bad, all else being nothing. -/
def badB (x : V) : Bool := x.num == 0 && x.text.toList.isEmpty && nokV x.names x.kids.length
/-- What is in a list that fits, as the program asks. -/
def kidsI (of : ByteArray) (ks : List V) (n : Nat) : Bool := (List.range n).all fun i => (kth ks i).sort == 1 || (kth ks i).sort == sortW of
def listI (of : ByteArray) (x : V) : Bool := x.sort == 5 && decide (x.kids.length ≤ 3) && okV x && kidsI of x.kids x.kids.length
def fitI (f : F) (x : V) : Bool :=
  if x.sort = 7 then badB x else if x.sort = 1 then !f.must && okV x else if f.list = false then x.sort == sortW f.of && okV x else listI f.of x
/-- One of a type, as the model asks. -/
def oneB (of : ByteArray) (x : V) : Bool := plainX x && (x.sort == 1 || x.sort == sortW of)
def kidsS (of : ByteArray) (ks : List V) (n : Nat) : Bool := (List.range n).all fun i => oneB of (kth ks i) && (kth ks i).kids.length == 0
def fitS (f : F) (x : V) : Bool :=
  if x.sort = 7 then badB x else if f.must = true ∧ x.sort = 1 then false else if f.list = false ∨ x.sort = 1 then oneB f.of x
  else x.sort == 5 && plainX x && decide (x.kids.length ≤ 3) && kidsS f.of x.kids x.kids.length

theorem kidsI_succ (of : ByteArray) (ks : List V) (n : Nat) : kidsI of ks (n + 1) = (kidsI of ks n && ((kth ks n).sort == 1 || (kth ks n).sort == sortW of)) := by simp [kidsI, List.range_succ]
theorem kidsS_succ (of : ByteArray) (ks : List V) (n : Nat) : kidsS of ks (n + 1) = (kidsS of ks n && (oneB of (kth ks n) && (kth ks n).kids.length == 0)) := by simp [kidsS, List.range_succ]
theorem kidsI_false (of : ByteArray) (ks : List V) (n k : Nat) (hk : k < n) (h : ((kth ks k).sort == 1 || (kth ks k).sort == sortW of) = false) : kidsI of ks n = false := by
  rw [kidsI, List.all_eq_false]; exact ⟨k, by simpa using hk, by simpa using h⟩
theorem kidsS_false (of : ByteArray) (ks : List V) (n k : Nat) (hk : k < n) (h : (oneB of (kth ks k) && (kth ks k).kids.length == 0) = false) : kidsS of ks n = false := by
  rw [kidsS, List.all_eq_false]; exact ⟨k, by simpa using hk, by simpa using h⟩

/-- Of these sorts nothing is in a value that is plain. -/
theorem plain_leaf (x : V) (h : plainX x = true) (hs : x.sort = 1 ∨ x.sort = 2 ∨ x.sort = 3 ∨ x.sort = 4) : x.kids = [] := by
  have : x.kids.length = 0 := by
    unfold plainX plainV at h
    simp only [Bool.or_eq_true, Bool.and_eq_true, beq_iff_eq] at h
    omega
  simpa using this
theorem leaf_parts (x : V) (d l : Int) (hd : d ≤ 16) (hl : 1 ≤ l) (hs : x.sort = 1 ∨ x.sort = 2 ∨ x.sort = 3 ∨ x.sort = 4) : partsV x d l = if plainX x = true then l - 1 else -1 := by
  obtain ⟨s, n, t, ns, ks⟩ := x
  rw [partsV_eq]
  cases h : plainX ⟨s, n, t, ns, ks⟩
  · have h' : plainV s n t ns ks.length = false := h
    rw [if_pos (Or.inr (Or.inr h'))]; simp
  · have h' : plainV s n t ns ks.length = true := h
    have hk : ks = [] := plain_leaf ⟨s, n, t, ns, ks⟩ h hs
    rw [if_neg (by simp [h']; omega)]
    subst hk
    simp [partsL_nil]
theorem okV_leaf (x : V) (hs : x.sort = 1 ∨ x.sort = 2 ∨ x.sort = 3 ∨ x.sort = 4) : okV x = plainX x := by
  have h := leaf_parts x 1 600 (by omega) (by omega) hs
  have e : okV x = decide (0 ≤ partsV x 1 600) := rfl
  rw [e, h]
  cases plainX x <;> simp
theorem leaf_list (of : ByteArray) (d : Int) (hd : d ≤ 16) (ks : List V) : ∀ n, n ≤ ks.length → n ≤ 3 → kidsI of ks n = true → partsL (ks.take n) d 599 = if kidsS of ks n = true then 599 - (n : Int) else -1
  | 0, _, _, _ => by simp [partsL_nil, kidsS]
  | n + 1, h1, h2, h3 => by
    rw [kidsI_succ, Bool.and_eq_true] at h3
    have ih := leaf_list of d hd ks n (by omega) (by omega) h3.1
    have hs : (kth ks n).sort = 1 ∨ (kth ks n).sort = 2 ∨ (kth ks n).sort = 3 ∨ (kth ks n).sort = 4 := by
      have := h3.2
      simp only [Bool.or_eq_true, beq_iff_eq] at this
      have := sortW_cases of
      omega
    rw [take_kth ks n (by omega), partsL_append, kidsS_succ, ih]
    cases hk : kidsS of ks n
    · simp [partsL_neg]
    · simp only [if_true, Bool.true_and]
      rw [partsL_cons, if_pos (by omega), partsL_nil, leaf_parts _ d _ hd (by omega) hs]
      have h4 : (oneB of (kth ks n) && (kth ks n).kids.length == 0) = plainX (kth ks n) := by
        cases hp : plainX (kth ks n)
        · simp [oneB, hp]
        · simp [oneB, hp, plain_leaf _ hp hs, h3.2]
      rw [h4]
      cases plainX (kth ks n) <;> simp <;> omega
theorem kidsS_I (of : ByteArray) (ks : List V) (n : Nat) (h : kidsS of ks n = true) : kidsI of ks n = true := by
  rw [kidsS, List.all_eq_true] at h
  rw [kidsI, List.all_eq_true]
  intro i hi
  have := h i hi
  simp only [oneB, Bool.and_eq_true] at this
  exact this.1.2
theorem okV_list (of : ByteArray) (x : V) (h5 : x.sort = 5) (h3 : x.kids.length ≤ 3) (hk : kidsI of x.kids x.kids.length = true) : okV x = (plainX x && kidsS of x.kids x.kids.length) := by
  obtain ⟨s, n, t, ns, ks⟩ := x
  simp only at h5 h3 hk
  have e : okV ⟨s, n, t, ns, ks⟩ = decide (0 ≤ partsV ⟨s, n, t, ns, ks⟩ 1 600) := rfl
  rw [e, partsV_eq]
  cases hp : plainX ⟨s, n, t, ns, ks⟩
  · have h' : plainV s n t ns ks.length = false := hp
    rw [if_pos (Or.inr (Or.inr h'))]; simp
  · have h' : plainV s n t ns ks.length = true := hp
    rw [if_neg (by simp [h'])]
    have := leaf_list of 2 (by omega) ks ks.length (Nat.le_refl _) h3 hk
    rw [List.take_length] at this
    simp only [show (1 : Int) + 1 = 2 by omega, show (600 : Int) - 1 = 599 by omega]
    rw [this]
    cases kidsS of ks ks.length <;> simp <;> omega

/-- What fits is the same by both. -/
theorem fit_same (f : F) (x : V) : fitI f x = fitS f x := by
  unfold fitI fitS
  by_cases h7 : x.sort = 7
  · rw [if_pos h7, if_pos h7]
  rw [if_neg h7, if_neg h7]
  by_cases h1 : x.sort = 1
  · rw [if_pos h1, okV_leaf x (Or.inl h1)]
    cases hm : f.must
    · simp [h1, oneB]
    · simp [h1]
  have hmn : ¬ (f.must = true ∧ x.sort = 1) := fun h => h1 h.2
  rw [if_neg h1, if_neg hmn]
  cases hl : f.list
  · simp only [if_true, true_or]
    have hw := sortW_cases f.of
    by_cases hs : x.sort = sortW f.of
    · rw [okV_leaf x (by omega)]
      have h1' : (x.sort == 1) = false := by simpa using h1
      simp [oneB, hs, h1']
    · have hs' : (x.sort == sortW f.of) = false := by simpa using hs
      have h1' : (x.sort == 1) = false := by simpa using h1
      simp [oneB, hs', h1']
  · simp only [h1, Bool.true_eq_false, or_self, if_false]
    unfold listI
    by_cases h5 : x.sort = 5
    · by_cases h3 : x.kids.length ≤ 3
      · cases hk : kidsI f.of x.kids x.kids.length
        · have : kidsS f.of x.kids x.kids.length = false := by
            cases h : kidsS f.of x.kids x.kids.length
            · rfl
            · rw [kidsS_I _ _ _ h] at hk; cases hk
          simp [this]
        · rw [okV_list f.of x h5 h3 hk]
          simp [h5, h3]
      · simp [h3]
    · have h5' : (x.sort == 5) = false := by simpa using h5
      simp [h5']

/-- The first fields that a part knows itself. -/
def KF (fs : List F) : Nat → List F
  | 0 => []
  | n + 1 => if (fth fs n).far = true then KF fs n else KF fs n ++ [fth fs n]
theorem KF_pre (fs : List F) : ∀ n m, n ≤ m → ∃ l, KF fs m = KF fs n ++ l := fun n m h => by
  induction h with
  | refl => exact ⟨[], by simp⟩
  | step h ih =>
    obtain ⟨l, hl⟩ := ih
    rw [KF]
    split
    · exact ⟨l, hl⟩
    · exact ⟨l ++ [fth fs _], by rw [hl, List.append_assoc]⟩
theorem KF_len (fs : List F) : ∀ n, (KF fs n).length ≤ n
  | 0 => by simp [KF]
  | n + 1 => by
    have := KF_len fs n
    rw [KF]; split
    · omega
    · simp; omega
theorem KF_at (fs : List F) (n m : Nat) (h : n < m) (hf : (fth fs n).far = false) : (KF fs n).length < (KF fs m).length ∧ fth (KF fs m) (KF fs n).length = fth fs n := by
  obtain ⟨l, hl⟩ := KF_pre fs (n + 1) m h
  rw [KF, if_neg (by simp [hf])] at hl
  rw [hl]
  constructor
  · simp
  · simp [fth, List.getD_eq_getElem?_getD]

/-- A cell that may stand for a field of a row of a type. -/
def cellB (t : T) (id : Int) (f : F) (c : Ce) : Bool := c.name.toList == f.name.toList && fitS f c.val && (!(f.name.toList == t.key.toList) || (c.val.sort == 3 && c.val.num == id))
def cellsTo (t : T) (r : Ro) (ks : List F) (n : Nat) : Bool := (List.range n).all fun i => cellB t r.id (fth ks i) (cth r.cells i)
theorem cellsTo_succ (t : T) (r : Ro) (ks : List F) (n : Nat) : cellsTo t r ks (n + 1) = (cellsTo t r ks n && cellB t r.id (fth ks n) (cth r.cells n)) := by simp [cellsTo, List.range_succ]
theorem cellsTo_false (t : T) (r : Ro) (ks : List F) (n k : Nat) (hk : k < n) (h : cellB t r.id (fth ks k) (cth r.cells k) = false) : cellsTo t r ks n = false := by
  rw [cellsTo, List.all_eq_false]; exact ⟨k, by simpa using hk, by simpa using h⟩
/-- A row of a type. -/
def rowB (t : T) (r : Ro) : Bool := decide (0 ≤ r.id) && decide (r.id ≤ 999999) && decide (r.cells.length = (KF t.fields t.fields.length).length) && cellsTo t r (KF t.fields t.fields.length) (KF t.fields t.fields.length).length

theorem cells_grow (t : T) (r : Ro) (n : Nat) (hn : n < t.fields.length) (hf : (fth t.fields n).far = false) (h : cellsTo t r (KF t.fields t.fields.length) (KF t.fields n).length = true) (hc : cellB t r.id (fth t.fields n) (cth r.cells (KF t.fields n).length) = true) :
    cellsTo t r (KF t.fields t.fields.length) (KF t.fields (n + 1)).length = true := by
  have h1 := KF_at t.fields n t.fields.length hn hf
  rw [KF, if_neg (by simp [hf]), List.length_append, List.length_singleton, cellsTo_succ, h, h1.2, hc]; rfl
theorem row_short (t : T) (r : Ro) (n : Nat) (hn : n < t.fields.length) (hf : (fth t.fields n).far = false) (h : r.cells.length ≤ (KF t.fields n).length) : rowB t r = false := by
  have h1 := KF_at t.fields n t.fields.length hn hf
  have : ¬ r.cells.length = (KF t.fields t.fields.length).length := by omega
  simp [rowB, this]
theorem row_bad (t : T) (r : Ro) (n : Nat) (hn : n < t.fields.length) (hf : (fth t.fields n).far = false) (hc : cellB t r.id (fth t.fields n) (cth r.cells (KF t.fields n).length) = false) : rowB t r = false := by
  have h1 := KF_at t.fields n t.fields.length hn hf
  have : cellsTo t r (KF t.fields t.fields.length) (KF t.fields t.fields.length).length = false := cellsTo_false t r _ _ _ h1.1 (by rw [h1.2]; exact hc)
  simp [rowB, this]

/-- Where a type stands. -/
def tIx (p : Pt) (s : ByteArray) : Int := firstTo (fun i => (tth p.types i).name.toList == s.toList) p.types.length
theorem tIx_bd (p : Pt) (s : ByteArray) : -1 ≤ tIx p s ∧ tIx p s < p.types.length ∨ tIx p s = -1 := by
  unfold tIx
  rcases firstTo_cases (fun i => (tth p.types i).name.toList == s.toList) p.types.length with ⟨h, -⟩ | ⟨k, h, hk, -⟩
  · right; exact h
  · left; omega
theorem tIx_hit (p : Pt) (s : ByteArray) (h : 0 ≤ tIx p s) : ((tth p.types (tIx p s).toNat).name.toList == s.toList) = true := by
  unfold tIx at h ⊢
  rcases firstTo_cases (fun i => (tth p.types i).name.toList == s.toList) p.types.length with ⟨h', -⟩ | ⟨k, h', hk, hp, -⟩
  · omega
  · rw [h']; simpa using hp
theorem tIx_same (p : Pt) (s s' : ByteArray) (h : (s.toList == s'.toList) = true) : tIx p s = tIx p s' := by
  have : s.toList = s'.toList := by simpa using h
  unfold tIx; rw [this]
theorem tIx_apart (p : Pt) (s s' : ByteArray) (h : (s.toList == s'.toList) = false) (h0 : 0 ≤ tIx p s) : tIx p s ≠ tIx p s' := fun e => by
  have h1 := tIx_hit p s h0
  have h2 := tIx_hit p s' (by omega)
  rw [← e] at h2
  simp only [beq_iff_eq] at h1 h2
  rw [← h1, ← h2] at h
  simp at h
theorem tIx_root (p : Pt) (hr : hasRootB p = true) (s : ByteArray) : (tIx p s = 0) ↔ (isT s [113, 117, 101, 114, 121] = true) := by
  simp only [hasRootB, isT, Bool.and_eq_true, decide_eq_true_eq, beq_iff_eq] at hr ⊢
  obtain ⟨⟨h0, h1⟩, -⟩ := hr
  constructor
  · intro h
    have := tIx_hit p s (by omega)
    rw [h] at this
    simp only [Int.toNat_zero, beq_iff_eq] at this
    rw [← this, h1]
  · intro h
    exact firstTo_hit (k := 0) (fun i hi => by omega) (by simp [h1, h]) h0

/-- A row that may stand behind those ahead of it, as the program asks. -/
def ordI (p : Pt) (rs : List Ro) (i : Nat) : Bool :=
  if i = 0 then isT (rth rs 0).type [113, 117, 101, 114, 121] && (rth rs 0).id == 0
  else if ((rth rs i).type.toList == (rth rs (i - 1)).type.toList) = true then !isT (rth rs i).type [113, 117, 101, 114, 121] && decide ((rth rs (i - 1)).id < (rth rs i).id)
  else decide (tIx p (rth rs (i - 1)).type < tIx p (rth rs i).type)
def oneI (p : Pt) (rs : List Ro) (i : Nat) : Bool := ordI p rs i && (decide (0 ≤ tIx p (rth rs i).type) && rowB (tth p.types (tIx p (rth rs i).type).toNat) (rth rs i))
/-- The same as the model asks, of rows whose first is right. -/
def oneS (p : Pt) (rs : List Ro) (i : Nat) : Bool :=
  decide (0 ≤ tIx p (rth rs i).type) && rowB (tth p.types (tIx p (rth rs i).type).toNat) (rth rs i) &&
  (decide (i = 0) || (!(tIx p (rth rs i).type == 0) && !decide (tIx p (rth rs i).type < tIx p (rth rs (i - 1)).type) && !((tIx p (rth rs (i - 1)).type == tIx p (rth rs i).type) && decide ((rth rs i).id ≤ (rth rs (i - 1)).id))))
def allTo (f : Nat → Bool) (n : Nat) : Bool := (List.range n).all f
theorem allTo_succ (f : Nat → Bool) (n : Nat) : allTo f (n + 1) = (allTo f n && f n) := by simp [allTo, List.range_succ]
theorem allTo_false (f : Nat → Bool) (n k : Nat) (hk : k < n) (h : f k = false) : allTo f n = false := by
  rw [allTo, List.all_eq_false]; exact ⟨k, by simpa using hk, by simpa using h⟩
theorem allTo_at (f : Nat → Bool) (n k : Nat) (hk : k < n) (h : allTo f n = true) : f k = true := by
  rw [allTo, List.all_eq_true] at h; exact h k (by simpa using hk)
theorem one_same (p : Pt) (hr : hasRootB p = true) (rs : List Ro) (i : Nat) (hp : 0 < i → 0 ≤ tIx p (rth rs (i - 1)).type) (h0 : i = 0 → (isT (rth rs 0).type [113, 117, 101, 114, 121] && (rth rs 0).id == 0) = true) : oneI p rs i = oneS p rs i := by
  unfold oneI oneS ordI
  by_cases hi : i = 0
  · subst hi
    have := h0 rfl
    simp [this]
  rw [if_neg hi]
  have hp' := hp (by omega)
  have hroot := tIx_root p hr (rth rs i).type
  cases he : ((rth rs i).type.toList == (rth rs (i - 1)).type.toList)
  · have hne := tIx_apart p _ _ he
    simp only [Bool.false_eq_true, if_false]
    by_cases h1 : 0 ≤ tIx p (rth rs i).type
    · have hne' := hne h1
      have e1 : decide (tIx p (rth rs (i - 1)).type < tIx p (rth rs i).type) = (!(tIx p (rth rs i).type == 0) && !decide (tIx p (rth rs i).type < tIx p (rth rs (i - 1)).type) && !((tIx p (rth rs (i - 1)).type == tIx p (rth rs i).type) && decide ((rth rs i).id ≤ (rth rs (i - 1)).id))) := by
        rw [Bool.eq_iff_iff]
        simp
        omega
      rw [e1]
      simp only [hi, decide_false, Bool.false_or]
      rw [Bool.and_comm]
    · simp [h1]
  · have hsame := tIx_same p _ _ he
    simp only [if_true]
    have e1 : (!isT (rth rs i).type [113, 117, 101, 114, 121] && decide ((rth rs (i - 1)).id < (rth rs i).id)) = (!(tIx p (rth rs i).type == 0) && !decide (tIx p (rth rs i).type < tIx p (rth rs (i - 1)).type) && !((tIx p (rth rs (i - 1)).type == tIx p (rth rs i).type) && decide ((rth rs i).id ≤ (rth rs (i - 1)).id))) := by
      rw [← hsame]
      rw [Bool.eq_iff_iff]
      simp only [Bool.and_eq_true, Bool.not_eq_true', decide_eq_true_eq, beq_eq_false_iff_ne, ne_eq, decide_eq_false_iff_not, beq_self_eq_true, Bool.true_and, hroot]
      simp
    rw [e1]
    simp only [hi, decide_false, Bool.false_or]
    rw [Bool.and_comm]
theorem all_same (p : Pt) (hr : hasRootB p = true) (rs : List Ro) (h0 : (isT (rth rs 0).type [113, 117, 101, 114, 121] && (rth rs 0).id == 0) = true) : ∀ n, allTo (oneI p rs) n = allTo (oneS p rs) n
  | 0 => rfl
  | n + 1 => by
    rw [allTo_succ, allTo_succ, all_same p hr rs h0 n]
    cases h : allTo (oneS p rs) n
    · rfl
    · rw [one_same p hr rs n (fun hn => ?_) (fun _ => h0)]
      have := allTo_at _ n (n - 1) (by omega) h
      simp only [oneS, Bool.and_eq_true, decide_eq_true_eq] at this
      exact this.1.1
end Go.Proofs.YtjpabpkfdahdhaaGreat
