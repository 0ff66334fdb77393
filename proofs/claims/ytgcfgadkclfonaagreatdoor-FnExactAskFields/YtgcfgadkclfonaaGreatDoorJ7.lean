import Derived.Test.YtgcfgadkclfonaaGreatDoorJ6
import Derived.Test.YtgcfgadkclfonaaGreatDoorJ2
import Derived.RangeFuncNested
import Derived.RangeFuncBound
import Derived.RangeFuncCalls
import Derived.RangeFuncLeaves
import Derived.Shelf.Abstract
import Derived.Shelf.RegionOpen
import Derived.OwnWalkIn
import Derived.TacticsInMore
import Derived.LoopNIn
import Derived.LoopIn
import Derived.Deep.AppendLies
import Derived.Laws.AppendOwnNone
namespace Go.Proofs.YtgcfgadkclfonaaGreatDoor
set_option linter.unusedSimpArgs false
set_option linter.unusedVariables false
open Go.RowKit

set_option maxHeartbeats 400000 in
theorem answeredAs_any (s : Se) (w : World) (v2 v3 v4 : Value) :
    Calls Tryz.prog 124 #[.agg #[.string s.al, .string s.name, v2, v3, v4]] w fun e w' => e = .returned (.string (keyS s)) ∧ Below w.heap.size w w' := by
  have HK : Hid (∀ b, s.al.toList.isEmpty = b → keyS s = if b = true then s.name else s.al) := fun b hb => by unfold keyS; rw [hb]
  cases he : s.al.toList.isEmpty
  · go_enter Tryz.func124, Tryz.ntmps124
    go_wp2_with fail
    go_ret
    exact ⟨by rw [HK.out false he]; rfl, below_box w _⟩
  · go_enter Tryz.func124, Tryz.ntmps124
    go_wp2_with fail
    go_ret
    exact ⟨by rw [HK.out true he]; rfl, below_box w _⟩

theorem name_some {s : ByteArray} (h : nameB s = true) : s.toList.isEmpty = false := by
  simp only [nameB, wordB, Bool.and_eq_true, decide_eq_true_eq] at h
  have h1 : 1 ≤ s.size := h.1.1.1.1.1.1.1.1.1.1.1.1.1
  have h2 := toList_len s
  cases e : s.toList with
  | nil => rw [e] at h2; simp at h2; omega
  | cons a l => rfl

set_option maxRecDepth 20000 in
set_option maxHeartbeats 1600000 in
theorem isSelOk_any (s : Se) (w : World) (v4 : Value) (hal : s.al.size ≤ maxLen) (hnm : s.name.size ≤ maxLen) :
    Calls Tryz.prog 92 #[.agg #[.string s.al, .string s.name, .bool s.one, .int .i64 s.id, v4]] w fun e w' => e = .returned (.bool (selB s)) ∧ Below w.heap.size w w' := by
  have HSE : Hid (selB s = (nameB s.name && (s.al.toList.isEmpty || (nameB s.al && !(s.al.toList == s.name.toList))) && (s.one || decide (s.id = 0)) && (decide (0 ≤ s.id) && decide (s.id ≤ 999999)))) := rfl
  have N1 := fun W => isName_any s.name W hnm
  have N2 := fun W => isName_any s.al W hal
  obtain ⟨sel, hsel⟩ : ∃ b, b = selB s := ⟨_, rfl⟩
  rw [← hsel] at HSE ⊢
  clear hsel
  have hne : nameB s.name = true → s.al.toList.isEmpty = true → (s.al.toList == s.name.toList) = false := fun h1 h2 => by
    have h3 := name_some h1
    rw [List.isEmpty_iff] at h2
    rw [h2]
    cases e : s.name.toList with
    | nil => rw [e] at h3; simp at h3
    | cons a l => rfl
  generalize s.al = al at *
  generalize s.name = name at *
  generalize s.one = one at *
  generalize s.id = id at *
  cases hn1 : nameB name
  · rw [hn1] at HSE
    have hs : sel = false := by rw [HSE.out]; simp
    simp only [hn1] at N1
    have HS := hid_of hs
    clear hs
    go_enter Tryz.func92, Tryz.ntmps92
    go_wp2_with (first
      | (
        go_at_call_of 55 (Value.string name)
        refine (N1 _).mono ?_
        rintro e w' ⟨rfl, rfl⟩)
      | (
        go_at_call_of 55 (Value.string al)
        refine (N2 _).mono ?_
        rintro e w' ⟨rfl, rfl⟩))
    go_ret
    exact ⟨ret_bool (by first | (rw [HS.out]; done) | (rw [HS.out]; simp [hid])), below_box w _⟩
  rw [hn1] at HSE
  simp only [hn1] at N1
  cases he : al.toList.isEmpty
  · rw [he] at HSE
    cases hn2 : nameB al
    · rw [hn2] at HSE
      have hs : sel = false := by rw [HSE.out]; simp
      simp only [hn2] at N2
      have HS := hid_of hs
      clear hs
      go_enter Tryz.func92, Tryz.ntmps92
      go_wp2_with (first
        | (
          go_at_call_of 55 (Value.string name)
          refine (N1 _).mono ?_
          rintro e w' ⟨rfl, rfl⟩)
        | (
          go_at_call_of 55 (Value.string al)
          refine (N2 _).mono ?_
          rintro e w' ⟨rfl, rfl⟩))
      go_ret
      exact ⟨ret_bool (by first | (rw [HS.out]; done) | (rw [HS.out]; simp [hid])), below_box w _⟩
    rw [hn2] at HSE
    simp only [hn2] at N2
    cases hq : (al.toList == name.toList)
    rotate_left
    · rw [hq] at HSE
      have hs : sel = false := by rw [HSE.out]; simp
      have HS := hid_of hs
      clear hs
      go_enter Tryz.func92, Tryz.ntmps92
      go_wp2_with (first
        | (
          go_at_call_of 55 (Value.string name)
          refine (N1 _).mono ?_
          rintro e w' ⟨rfl, rfl⟩)
        | (
          go_at_call_of 55 (Value.string al)
          refine (N2 _).mono ?_
          rintro e w' ⟨rfl, rfl⟩))
      go_ret
      exact ⟨ret_bool (by first | (rw [HS.out]; done) | (rw [HS.out]; simp [hid])), below_box w _⟩
    rw [hq] at HSE
    clear hne
    by_cases h0 : 0 ≤ id
    rotate_left
    · have hs : sel = false := by rw [HSE.out]; simp [h0]
      have HS := hid_of hs
      clear hs
      go_enter Tryz.func92, Tryz.ntmps92
      go_wp2_with (first
        | (
          go_at_call_of 55 (Value.string name)
          refine (N1 _).mono ?_
          rintro e w' ⟨rfl, rfl⟩)
        | (
          go_at_call_of 55 (Value.string al)
          refine (N2 _).mono ?_
          rintro e w' ⟨rfl, rfl⟩))
      go_ret
      exact ⟨ret_bool (by first | (rw [HS.out]; done) | (rw [HS.out]; simp [hid])), below_box w _⟩
    by_cases h9 : id ≤ 999999
    rotate_left
    · have hs : sel = false := by rw [HSE.out]; simp [h9]
      have HS := hid_of hs
      clear hs
      go_enter Tryz.func92, Tryz.ntmps92
      go_wp2_with (first
        | (
          go_at_call_of 55 (Value.string name)
          refine (N1 _).mono ?_
          rintro e w' ⟨rfl, rfl⟩)
        | (
          go_at_call_of 55 (Value.string al)
          refine (N2 _).mono ?_
          rintro e w' ⟨rfl, rfl⟩))
      go_ret
      exact ⟨ret_bool (by first | (rw [HS.out]; done) | (rw [HS.out]; simp [hid])), below_box w _⟩
    cases one
    · by_cases hid : id = 0
      · subst hid
        have hs : sel = true := by rw [HSE.out]; simp
        have HS := hid_of hs
        clear hs
        go_enter Tryz.func92, Tryz.ntmps92
        go_wp2_with (first
          | (
            go_at_call_of 55 (Value.string name)
            refine (N1 _).mono ?_
            rintro e w' ⟨rfl, rfl⟩)
          | (
            go_at_call_of 55 (Value.string al)
            refine (N2 _).mono ?_
            rintro e w' ⟨rfl, rfl⟩))
        go_ret
        exact ⟨ret_bool (by first | (rw [HS.out]; done) | (rw [HS.out]; simp [hid])), below_box w _⟩
      · have hs : sel = false := by rw [HSE.out]; simp [hid]
        have HS := hid_of hs
        clear hs
        go_enter Tryz.func92, Tryz.ntmps92
        go_wp2_with (first
          | (
            go_at_call_of 55 (Value.string name)
            refine (N1 _).mono ?_
            rintro e w' ⟨rfl, rfl⟩)
          | (
            go_at_call_of 55 (Value.string al)
            refine (N2 _).mono ?_
            rintro e w' ⟨rfl, rfl⟩))
        go_ret
        exact ⟨ret_bool (by first | (rw [HS.out]; done) | (rw [HS.out]; simp [hid])), below_box w _⟩
    · have hs : sel = true := by rw [HSE.out]; simp [h0, h9]
      have HS := hid_of hs
      clear hs
      go_enter Tryz.func92, Tryz.ntmps92
      go_wp2_with (first
        | (
          go_at_call_of 55 (Value.string name)
          refine (N1 _).mono ?_
          rintro e w' ⟨rfl, rfl⟩)
        | (
          go_at_call_of 55 (Value.string al)
          refine (N2 _).mono ?_
          rintro e w' ⟨rfl, rfl⟩))
      go_ret
      exact ⟨ret_bool (by first | (rw [HS.out]; done) | (rw [HS.out]; simp [hid])), below_box w _⟩
  · rw [he] at HSE
    have hq := hne hn1 he
    clear hne
    by_cases h0 : 0 ≤ id
    rotate_left
    · have hs : sel = false := by rw [HSE.out]; simp [h0]
      have HS := hid_of hs
      clear hs
      go_enter Tryz.func92, Tryz.ntmps92
      go_wp2_with (first
        | (
          go_at_call_of 55 (Value.string name)
          refine (N1 _).mono ?_
          rintro e w' ⟨rfl, rfl⟩)
        | (
          go_at_call_of 55 (Value.string al)
          refine (N2 _).mono ?_
          rintro e w' ⟨rfl, rfl⟩))
      go_ret
      exact ⟨ret_bool (by first | (rw [HS.out]; done) | (rw [HS.out]; simp [hid])), below_box w _⟩
    by_cases h9 : id ≤ 999999
    rotate_left
    · have hs : sel = false := by rw [HSE.out]; simp [h9]
      have HS := hid_of hs
      clear hs
      go_enter Tryz.func92, Tryz.ntmps92
      go_wp2_with (first
        | (
          go_at_call_of 55 (Value.string name)
          refine (N1 _).mono ?_
          rintro e w' ⟨rfl, rfl⟩)
        | (
          go_at_call_of 55 (Value.string al)
          refine (N2 _).mono ?_
          rintro e w' ⟨rfl, rfl⟩))
      go_ret
      exact ⟨ret_bool (by first | (rw [HS.out]; done) | (rw [HS.out]; simp [hid])), below_box w _⟩
    cases one
    · by_cases hid : id = 0
      · subst hid
        have hs : sel = true := by rw [HSE.out]; simp
        have HS := hid_of hs
        clear hs
        go_enter Tryz.func92, Tryz.ntmps92
        go_wp2_with (first
          | (
            go_at_call_of 55 (Value.string name)
            refine (N1 _).mono ?_
            rintro e w' ⟨rfl, rfl⟩)
          | (
            go_at_call_of 55 (Value.string al)
            refine (N2 _).mono ?_
            rintro e w' ⟨rfl, rfl⟩))
        go_ret
        exact ⟨ret_bool (by first | (rw [HS.out]; done) | (rw [HS.out]; simp [hid])), below_box w _⟩
      · have hs : sel = false := by rw [HSE.out]; simp [hid]
        have HS := hid_of hs
        clear hs
        go_enter Tryz.func92, Tryz.ntmps92
        go_wp2_with (first
          | (
            go_at_call_of 55 (Value.string name)
            refine (N1 _).mono ?_
            rintro e w' ⟨rfl, rfl⟩)
          | (
            go_at_call_of 55 (Value.string al)
            refine (N2 _).mono ?_
            rintro e w' ⟨rfl, rfl⟩))
        go_ret
        exact ⟨ret_bool (by first | (rw [HS.out]; done) | (rw [HS.out]; simp [hid])), below_box w _⟩
    · have hs : sel = true := by rw [HSE.out]; simp [h0, h9]
      have HS := hid_of hs
      clear hs
      go_enter Tryz.func92, Tryz.ntmps92
      go_wp2_with (first
        | (
          go_at_call_of 55 (Value.string name)
          refine (N1 _).mono ?_
          rintro e w' ⟨rfl, rfl⟩)
        | (
          go_at_call_of 55 (Value.string al)
          refine (N2 _).mono ?_
          rintro e w' ⟨rfl, rfl⟩))
      go_ret
      exact ⟨ret_bool (by first | (rw [HS.out]; done) | (rw [HS.out]; simp [hid])), below_box w _⟩

/-- Where a text stands first in a list, -1 if it doesn't. -/
def ixS (ns : List ByteArray) (s : ByteArray) : Nat → Int
  | 0 => -1
  | n + 1 => if 0 ≤ ixS ns s n then ixS ns s n else if (nth ns n).toList == s.toList then (n : Nat) else -1
theorem ixS_cases (ns : List ByteArray) (s : ByteArray) : ∀ n, ixS ns s n = -1 ∨ 0 ≤ ixS ns s n
  | 0 => Or.inl rfl
  | n + 1 => by
    rw [ixS]
    rcases ixS_cases ns s n with h | h
    · rw [h, if_neg (by omega)]
      split
      · right; omega
      · left; rfl
    · rw [if_pos h]; exact Or.inr h
theorem ixS_in (ns : List ByteArray) (s : ByteArray) : ∀ n, n ≤ ns.length → (0 ≤ ixS ns s n ↔ ∃ i, i < n ∧ (nth ns i).toList = s.toList)
  | 0, _ => by simp [ixS]
  | n + 1, h => by
    have ih := ixS_in ns s n (by omega)
    rw [ixS]
    by_cases h0 : 0 ≤ ixS ns s n
    · rw [if_pos h0]
      obtain ⟨i, hi, e⟩ := ih.1 h0
      exact ⟨fun _ => ⟨i, by omega, e⟩, fun _ => h0⟩
    · rw [if_neg h0]
      by_cases hq : ((nth ns n).toList == s.toList) = true
      · rw [if_pos hq]
        exact ⟨fun _ => ⟨n, by omega, by simpa using hq⟩, fun _ => by omega⟩
      · rw [if_neg hq]
        refine ⟨fun h => by omega, fun ⟨i, hi, e⟩ => ?_⟩
        by_cases ei : i = n
        · subst ei; exact absurd (by simpa using e) hq
        · exact absurd (ih.2 ⟨i, by omega, e⟩) h0

set_option maxHeartbeats 800000 in
theorem indexS_any (ns : List ByteArray) (s : ByteArray) (w : World) (P : Nat → Prop) (a : Option Addr) (c : Nat) (hS : Strs w P ns a) (hl : ns.length ≤ 1048576) :
    Calls Tryz.prog 102 #[.slice a ns.length c, .string s] w fun e w' => e = .returned (.int .i64 (ixS ns s ns.length)) ∧ w = w' := by
  obtain ⟨hS1, hS2, hS3⟩ := hS
  go_enter Tryz.func102, Tryz.ntmps102
  go_wp2_with fail
  go_loopw [8] (fun i wr => ∃ k : Nat, k ≤ ns.length ∧ i = .int .i64 k ∧ Hid (ixS ns s k = -1) ∧ wr = w) (fun i _ => ns.length - (intOf i).toNat)
  case atStart => exact ⟨0, Nat.zero_le _, rfl, hid_of rfl, rfl⟩
  case round =>
    obtain ⟨k, hk, rfl, HI, rfl⟩ := hrel
    by_cases hlt : k < ns.length
    · obtain ⟨b, off, rfl, -, hc⟩ := hS1 (by intro e; rw [e] at hlt; simp at hlt)
      have hki : (k : Int) < (ns.length : Int) := by omega
      have q0 := hc k hlt
      have HX : Hid (ixS ns s (k + 1) = if ((nth ns k).toList == s.toList) = true then ((k : Nat) : Int) else -1) := hid_of (by rw [ixS, HI.out, if_neg (by omega)])
      have HM : Hid (((nth ns k).toList == s.toList) = true → ixS ns s ns.length = (k : Nat)) := hid_of fun h => by
        have h1 : ixS ns s (k + 1) = (k : Nat) := by rw [HX.out, if_pos h]
        have key : ∀ m, k + 1 ≤ m → ixS ns s m = (k : Nat) := fun m hm => by
          induction m with
          | zero => omega
          | succ m ih =>
            by_cases em : m = k
            · rw [em]; exact h1
            · rw [ixS, ih (by omega), if_pos (by omega)]
        exact key ns.length (by omega)
      clear hc hS1 hS2
      generalize nth ns k = x at *
      cases hq : (s.toList == x.toList)
      · have hq2 : (x.toList == s.toList) = false := by rw [Bool.beq_comm]; exact hq
        rw [hq2] at HX
        clear HM
        go_wp2_with fail
        go_roundw
        case measure => simp [intOf]; omega
        case rel => exact ⟨k + 1, by omega, by go_num, hid_of (by rw [HX.out]; rfl), trivial⟩
      · have hq2 : (x.toList == s.toList) = true := by rw [Bool.beq_comm]; exact hq
        have HR := hid_of (HM.out hq2)
        clear HM HX
        go_wp2_with fail
        go_ret
        exact ⟨ret_int (by rw [HR.out]), rfl⟩
    · have e : k = ns.length := by omega
      subst e
      go_wp2_with fail
      go_ret
      exact ⟨ret_int (by rw [HI.out]), rfl⟩

set_option maxHeartbeats 400000 in
theorem containsS_any (ns : List ByteArray) (s : ByteArray) (w : World) (P : Nat → Prop) (a : Option Addr) (c : Nat) (hS : Strs w P ns a) (hl : ns.length ≤ 1048576) :
    Calls Tryz.prog 68 #[.slice a ns.length c, .string s] w fun e w' => e = .returned (.bool ((ns.map ByteArray.toList).contains s.toList)) ∧ w = w' := by
  have hI := indexS_any ns s w P a c hS hl
  have HC : Hid ((ns.map ByteArray.toList).contains s.toList = decide (0 ≤ ixS ns s ns.length)) := hid_of (by
    rw [Bool.eq_iff_iff, decide_eq_true_eq, ixS_in ns s _ (Nat.le_refl _)]
    simp only [List.contains_iff_mem, List.mem_map]
    constructor
    · rintro ⟨x, hx, e⟩
      obtain ⟨i, hi, rfl⟩ := List.mem_iff_getElem.1 hx
      exact ⟨i, hi, by rw [← e]; simp [nth, List.getD_eq_getElem?_getD, hi]⟩
    · rintro ⟨i, hi, e⟩
      exact ⟨ns[i], List.getElem_mem hi, by rw [← e]; simp [nth, List.getD_eq_getElem?_getD, hi]⟩)
  have hcs := ixS_cases ns s ns.length
  generalize ixS ns s ns.length = x at *
  by_cases hx : 0 ≤ x
  · have hx' : x ≥ 0 := hx
    go_enter Tryz.func68, Tryz.ntmps68
    go_wp2_with fail
    refine hI.mono ?_
    rintro e w1 ⟨rfl, rfl⟩
    go_wp2_with fail
    go_ret
    exact ⟨ret_bool (by rw [HC.out]; simp [hx]), rfl⟩
  · have hx' : ¬ x ≥ 0 := hx
    go_enter Tryz.func68, Tryz.ntmps68
    go_wp2_with fail
    refine hI.mono ?_
    rintro e w1 ⟨rfl, rfl⟩
    go_wp2_with fail
    go_ret
    exact ⟨ret_bool (by rw [HC.out]; try simp [hx]), rfl⟩
end Go.Proofs.YtgcfgadkclfonaaGreatDoor

namespace Go.Proofs.YtgcfgadkclfonaaGreatDoor
set_option linter.unusedSimpArgs false
set_option linter.unusedVariables false
open Go.RowKit Go.Shelf

theorem below_putObj {B l : Nat} (W : World) (o : Obj) (h : B ≤ l) : Below B W (W.putObj l o) := ⟨rfl, rfl, rfl, by simp, fun k hk => World.putObj_heap_other (by omega)⟩
/-- All cells stay but those of some blocks. -/
structure KeepO (O : Nat → Prop) (A B : World) : Prop where
  size : A.heap.size ≤ B.heap.size
  cells : ∀ b o, ¬ O b → A.heap[b]? = some o → o.isCells = true → B.heap[b]? = some o
theorem KeepO.refl (O : Nat → Prop) (A : World) : KeepO O A A := ⟨Nat.le_refl _, fun _ _ _ h _ => h⟩
theorem KeepO.trans {O : Nat → Prop} {A B C : World} (h : KeepO O A B) (k : KeepO O B C) : KeepO O A C := ⟨Nat.le_trans h.size k.size, fun b o hb h1 h2 => k.cells b o hb (h.cells b o hb h1 h2) h2⟩
theorem KeepO.below {O : Nat → Prop} {A B : World} (h : Below A.heap.size A B) : KeepO O A B := ⟨h.size, fun b o _ h1 _ => (h.block b (Array.getElem?_eq_some_iff.1 h1).1).trans h1⟩
theorem KeepO.putObj {O : Nat → Prop} {l : Nat} {W : World} {o : Obj} (h : W.heap[l]? = some o) (ho : o.isCells = false) (o' : Obj) : KeepO O W (W.putObj l o') := ⟨by simp, fun b o2 hb h1 h2 => by
  have hne : b ≠ l := by intro e; rw [e, h] at h1; cases h1; rw [ho] at h2; cases h2
  exact (World.putObj_heap_other hne).trans h1⟩
/-- What a turn of the loop's own record leaves as it was. -/
def Still (lo : Nat) (p : World → Prop) : Prop := ∀ A l o o', p A → lo ≤ l → A.heap[l]? = some o → o.isCells = false → p (A.putObj l o')
/-- What new blocks leave ar it was. -/
def Grows (p : World → Prop) : Prop := ∀ A B, p A → Below A.heap.size A B → p B
/-- How a round ends: the caller's word goes on by one, or it has said 'no more'. -/
def Told {α : Type} (I : List α → (Nat → Prop) → World → Prop) (Ix : World → Prop) (O : Nat → Prop) (pre : List α) (x : α) (A : World) (go : Bool) (B : World) : Prop :=
  (go = true ∧ ∃ O', I (pre ++ [x]) O' B ∧ KeepO O A B ∧ ∀ b, O' b → O b ∨ A.heap.size ≤ b) ∨ (go = false ∧ Ix B)

theorem range_stop {F : Fence} {n : Nat} {P : Program} {g : Operand} {ps : Array Tmp} {assign body : Code} {Q : Exit → Act → World → Prop} {a : Act} {w : World}
    (hro : F.round = none) (h1 : 1 ≤ n) {gf : Nat} {lb : Array Value} (hg : a.eval g = .func (.func gf) #[] lb) (hFg : F.fn gf) (eg : ∀ args w, (callFunc gf args).run P w = .ok (.enter gf args) w)
    {α : Type} (xs : List α) (Arg : List α → α → Array Value → World → Prop) (hps : ∀ pre x ar A, Arg pre x ar A → ar.size = ps.size)
    (I : List α → (Nat → Prop) → World → Prop) (hIs : ∀ pre O, Still w.heap.size (I pre O)) (hIg : ∀ pre O, Grows (I pre O)) (hIO : ∀ pre O A, I pre O A → ∀ b, O b → b < A.heap.size)
    (Ix : World → Prop) (hXs : Still w.heap.size Ix)
    (O0 : Nat → Prop) (h0 : I [] O0 w)
    (hseq : ∀ (l : Nat) (J : List α → (Nat → Prop) → World → Prop) (Jx : World → Prop) (W : World), Below w.heap.size w W → (∀ pre O, Grows (J pre O)) → (∀ pre O A, J pre O A → ∀ b, O b → b < A.heap.size) →
      (∀ pre O x ar A, J pre O A → Arg pre x ar A → YieldAt F (n - 1 - 1) P l ar A fun e B => ∃ go, e = .returned (.bool go) ∧ Told J Jx O pre x A go B) → J [] O0 W →
      CallsIn F (n - 1) P gf (#[.func (.yield l) #[] #[]] ++ lb) W fun e W' => (∃ v, e = .returned v) ∧ ((∃ O', J xs O' W') ∨ Jx W'))
    (Ax : List α → α → Array Value → Act → World → Prop) (hAs : ∀ pre x ar a', Still w.heap.size (Ax pre x ar a'))
    (hassign : ∀ (l : Nat) (pre : List α) (x : α) (ar : Array Value) (A : World) (K : Act → World → Prop), Arg pre x ar A → (∀ a' B, Below A.heap.size A B → Ax pre x ar a' B → K a' B) →
      assign.wpIn (F.inRound l) (n - 1 - 1) P (Exit.then K (fun _ _ _ => False)) { tmps := (ps.zip ar).foldl (fun t (p, v) => t.setIfInBounds p v) a.tmps, defers := [] } A)
    (hbody : ∀ (l : Nat) (pre : List α) (O : Nat → Prop) (x : α) (ar : Array Value) (a' : Act) (A : World), I pre O A → Ax pre x ar a' A →
      body.wpIn (F.inRound l) (n - 1 - 1) P (fun e _ B => KeepsFrom w.heap.size A B ∧ ((e = .normal ∧ Told I Ix O pre x A true B) ∨ (e = .ret ∧ Told I Ix O pre x A false B))) a' A)
    (hdone : ∀ (D : Nat) (O : Nat → Prop) (W : World), w.heap.size ≤ D → I xs O W → W.heap[D]? = some (.deferred (some [])) → Q .normal { a with defers := { target := .collected D, args := #[] } :: a.defers } W)
    (hstop : ∀ (D : Nat) (W : World), w.heap.size ≤ D → Ix W → W.heap[D]? = some (.deferred (some [])) → Code.ret.wpIn F n P Q { a with defers := { target := .collected D, args := #[] } :: a.defers } W) :
    (Code.rangeFunc g ps assign body).wpIn F n P Q a w := by
  refine wpIn_rangeFunc fun fn hfn => ?_
  rw [hro]
  obtain ⟨rec, hrec⟩ : ∃ rec : LoopState → Option Code → Loop, rec = fun st pe => { state := st, pending := pe, fn, tmps := a.tmps, params := ps, assign, body, defers := w.heap.size } := ⟨_, rfl⟩
  obtain ⟨X, hX⟩ : ∃ X, X = (w.alloc (.deferred (some []))).alloc (.loop (rec .ready none)) := ⟨_, rfl⟩
  have bX : Below w.heap.size w X := by rw [hX]; exact ((Below.refl _ w).alloc (Nat.le_refl _) _).alloc (by simp) _
  have lX : X.heap[w.heap.size + 1]? = some (.loop (rec .ready none)) := by
    rw [hX]; have := World.alloc_heap_new (w.alloc (.deferred (some []))) (.loop (rec .ready none)); rwa [World.size_alloc] at this
  have dX : X.heap[w.heap.size]? = some (.deferred (some [])) := by
    rw [hX]; exact (Below.heap_alloc _ _ _ (by simp)).trans (World.alloc_heap_new w _)
  refine ⟨w.heap.size + 1, [{ target := .collected w.heap.size, args := #[] }], X, { target := .fn (.func gf) lb, args := #[.func (.yield (w.heap.size + 1)) #[] #[]] }, X, gf,
    #[.func (.yield (w.heap.size + 1)) #[] #[]] ++ lb, X, ?_, ?_, ?_, ?_, fun _ => h1, ?_⟩
  · rw [hX, hrec]; exact run_enterLoop_outer _ _ _ _ _
  · simp only [resolve, hg]
    simp [go_sem]
  · intro f' hf'; simp [Target.leads] at hf'; subst hf'; exact hFg
  · simp [invoke, go_sem, eg]
  · have key : ∀ {A B : World}, Below A.heap.size A B → ∀ {b : Nat} {o : Obj}, A.heap[b]? = some o → B.heap[b]? = some o := by
      intro A B h b o hb
      exact (h.block b (Array.getElem?_eq_some_iff.1 hb).1).trans hb
    refine (hseq (w.heap.size + 1) (fun pre O W => I pre O W ∧ W.heap[w.heap.size + 1]? = some (.loop (rec .ready none)) ∧ W.heap[w.heap.size]? = some (.deferred (some [])))
      (fun W => Ix W ∧ W.heap[w.heap.size + 1]? = some (.loop (rec .done (some .ret))) ∧ W.heap[w.heap.size]? = some (.deferred (some []))) X bX
      (fun pre O A B h hb => ⟨hIg pre O A B h.1 hb, key hb h.2.1, key hb h.2.2⟩) (fun pre O A h => hIO pre O A h.1) ?_ ⟨hIg [] O0 w X h0 bX, lX, dX⟩).mono ?_
    · rintro pre O x ar W ⟨hi, hl, hd⟩ harg
      have hy := run_yield (P := P) (args := ar) hl (by rw [hrec]; exact hps pre x ar W harg)
      rw [hrec] at hy
      refine ⟨fn, _, assign, body, hy, roundIn_of_wpIn hfn (hassign _ pre x ar W _ harg fun a' B hAB hax => ?_)⟩
      have lB := key hAB hl
      have dB := key hAB hd
      have hlt : w.heap.size + 1 < B.heap.size := (Array.getElem?_eq_some_iff.1 lB).1
      have hlt0 : w.heap.size < B.heap.size := by omega
      refine ⟨_, run_beginRound lB (by rw [hrec]), ?_⟩
      obtain ⟨Y, hY⟩ : ∃ Y, Y = B.putObj (w.heap.size + 1) (.loop { rec .ready none with state := .busy }) := ⟨_, rfl⟩
      have lY : Y.heap[w.heap.size + 1]? = some (.loop { rec .ready none with state := .busy }) := by rw [hY]; exact World.putObj_heap_same hlt
      have dY : Y.heap[w.heap.size]? = some (.deferred (some [])) := by rw [hY]; exact (World.putObj_heap_other (by omega)).trans dB
      have zY : Y.heap.size = B.heap.size := by rw [hY]; simp
      have kY : KeepO O W Y := by rw [hY]; exact (KeepO.below hAB).trans (KeepO.putObj lB rfl _)
      have iY : I pre O Y := by rw [hY]; exact hIs pre O _ _ _ _ (hIg pre O _ _ hi hAB) (by omega) lB rfl
      have aY : Ax pre x ar a' Y := by rw [hY]; exact hAs pre x ar a' _ _ _ _ hax (by omega) lB rfl
      rw [← hY]
      refine wpIn_mono (hbody _ pre O x ar a' Y iY aY) ?_
      rintro e a3 Z ⟨hk3, hp⟩
      have lZ := hk3.same _ _ (by omega) lY rfl
      have dZ := hk3.same _ _ (by omega) dY rfl
      have hzl : w.heap.size + 1 < Z.heap.size := (Array.getElem?_eq_some_iff.1 lZ).1
      rcases hp with ⟨rfl, hT⟩ | ⟨rfl, hT⟩
      · rcases hT with ⟨-, O', i3, k3, o3⟩ | ⟨h, -⟩
        · have hr := run_endRound (P := P) none lZ
          refine ⟨_, _, hr, true, rfl, Or.inl ⟨rfl, O', ⟨hIs _ _ _ _ _ _ i3 (by omega) lZ rfl, ?_, (World.putObj_heap_other (by omega)).trans dZ⟩, (kY.trans k3).trans (KeepO.putObj lZ rfl _), fun b hb => (o3 b hb).imp id fun h => ?_⟩⟩
          · rw [hrec]; exact World.putObj_heap_same hzl
          · have := hAB.size; omega
        · cases h
      · rcases hT with ⟨h, -⟩ | ⟨-, i3⟩
        · cases h
        · have hr := run_endRound (P := P) (some .ret) lZ
          refine ⟨_, _, hr, false, rfl, Or.inr ⟨rfl, hXs _ _ _ _ i3 (by omega) lZ rfl, ?_, (World.putObj_heap_other (by omega)).trans dZ⟩⟩
          rw [hrec]; exact World.putObj_heap_same hzl
    · rintro e W ⟨⟨v, rfl⟩, hfin⟩
      rcases hfin with ⟨O', hi, hl, hd⟩ | ⟨hi, hl, hd⟩
      · exact ⟨none, _, by have := run_endLoop (P := P) hl (by rw [hrec]; simp); rw [hrec] at this; exact this, hdone w.heap.size O' _ (Nat.le_refl _) (hIs _ _ _ _ _ _ hi (by omega) hl rfl) ((World.putObj_heap_other (by omega)).trans hd)⟩
      · exact ⟨some .ret, _, by have := run_endLoop (P := P) hl (by rw [hrec]; simp); rw [hrec] at this; exact this, hstop w.heap.size _ (Nat.le_refl _) (hXs _ _ _ _ hi (by omega) hl rfl) ((World.putObj_heap_other (by omega)).trans hd)⟩
end Go.Proofs.YtgcfgadkclfonaaGreatDoor

namespace Go.Proofs.YtgcfgadkclfonaaGreatDoor
set_option linter.unusedSimpArgs false
set_option linter.unusedVariables false
open Go.RowKit

theorem nth_map (ns : List ByteArray) (j : Nat) (u : Value) (h : (ns.map Value.string)[j]? = some u) : j < ns.length ∧ u = .string (nth ns j) := by
  rw [List.getElem?_map] at h
  obtain ⟨b, hb, rfl⟩ := Option.map_eq_some_iff.1 h
  obtain ⟨hj, rfl⟩ := List.getElem?_eq_some_iff.1 hb
  exact ⟨hj, by simp [nth, List.getD_eq_getElem?_getD, hj]⟩

set_option maxHeartbeats 400000 in
theorem copyTexts_own (ns : List ByteArray) (a : Option Addr) (c : Nat) (w : World) (P : Nat → Prop) (hS : Strs w P ns a) (hb : 16 * ns.length ≤ 140737488355328) :
    Calls Tryz.prog 123 #[.slice a ns.length c] w fun e w' => ∃ v : Value, e = .returned v ∧ w'.ownsRow w.heap.size 9 1 v ns.length (ns.map Value.string) ∧ Below w.heap.size w w' := by
  obtain ⟨h1, h2, h3⟩ := hS
  obtain ⟨i0, hi, hz0, hz1, hz2⟩ := info_parts info9
  by_cases hn0 : ns.length = 0
  · have hns : ns = [] := by simpa using hn0
    subst hns
    cases a with
    | none =>
      go_enter Tryz.func123, Tryz.ntmps123
      go_wp2_with fail
      go_ret
      exact ⟨_, rfl, World.ownsRow_nil _ _ _ _, Below.refl _ _⟩
    | some ad =>
      go_enter Tryz.func123, Tryz.ntmps123
      go_wp2_with fail
      go_ret
      exact ⟨_, rfl, World.ownsRow_nil _ _ _ _, Below.refl _ _⟩
  · obtain ⟨b, off, rfl, _, hc⟩ := h1 (by intro e; simp [e] at hn0)
    clear h1
    go_enter Tryz.func123, Tryz.ntmps123
    go_wp2_with (at_builtin; refine wpList_append_lies _ rfl _ _ 28 rfl w.heap.size 9 i0 (.string ByteArray.empty) 1 16 Tryz.underlying28 hi hz0 hz1 hz2 rfl (by decide) (.slice none 0 0) 0 [] rfl (World.ownsRow_nil _ _ _ _) ⟨b, off, none⟩ ns.length c (ns.map Value.string) rfl (by simp) ?c1 ?c2 (by omega) ?c3 (by omega) (Nat.le_refl _) _ rfl ?_)
    case c1 =>
      intro j u hj
      obtain ⟨hj', rfl⟩ := nth_map ns j u hj
      rw [Addr.add_lit]
      exact hc j hj'
    case c2 =>
      intro u hu
      obtain ⟨s, -, rfl⟩ := List.mem_map.1 hu
      rfl
    case c3 => omega
    intro g cap w' hown hgrow hat hlt
    have HO := hid_of hown
    have HB := hid_of ((Below.refl w.heap.size w).grown hgrow (Nat.le_refl _) (fun k hk => by simp [Value.ownBlock] at hk))
    clear hown hgrow hat
    go_wp2_with fail
    go_ret
    exact ⟨_, rfl, by simpa using HO.out, HB.out⟩
end Go.Proofs.YtgcfgadkclfonaaGreatDoor

namespace Go.Proofs.YtgcfgadkclfonaaGreatDoor
set_option linter.unusedSimpArgs false
set_option linter.unusedVariables false
open Go.RowKit Go.Shelf

/-- Where a cell is, the block is cells. -/
theorem cell_cells {W : World} {b i : Nat} {v : Value} (h : W.cell? ⟨b, i, none⟩ = some v) : ∃ o, W.heap[b]? = some o ∧ o.isCells = true := by
  cases hb : W.heap[b]? with
  | none => simp [World.cell?, hb] at h
  | some o =>
    refine ⟨o, rfl, ?_⟩
    cases o <;> simp_all [World.cell?, Obj.isCells]
theorem KeepO.cell {O : Nat → Prop} {A B : World} (h : KeepO O A B) {b i : Nat} {v : Value} (hb : ¬ O b) (hc : A.cell? ⟨b, i, none⟩ = some v) : B.cell? ⟨b, i, none⟩ = some v := by
  obtain ⟨o, h1, h2⟩ := cell_cells hc
  have h3 := h.cells b o hb h1 h2
  exact (World.cell?_of_block (w := A) (a := ⟨b, i, none⟩) (h3.trans h1.symm)).trans hc
/-- A list of texts in blocks that a round does not change. -/
theorem strs_keepO {O O' : Nat → Prop} {A B : World} {ns : List ByteArray} {a : Option Addr} (h : Strs A (fun b => ¬ O b ∧ b < A.heap.size) ns a) (k : KeepO O A B) (ho : ∀ b, O' b → O b ∨ A.heap.size ≤ b) : Strs B (fun b => ¬ O' b ∧ b < B.heap.size) ns a := by
  obtain ⟨h1, h2, h3⟩ := h
  refine ⟨fun hn => ?_, h2, h3⟩
  obtain ⟨b, off, e, hb, hc⟩ := h1 hn
  exact ⟨b, off, e, ⟨fun h => (ho b h).elim hb.1 (fun h' => by omega), by have := k.size; omega⟩, fun i hi => k.cell hb.1 (hc i hi)⟩
theorem strs_below {O : Nat → Prop} {A B : World} {ns : List ByteArray} {a : Option Addr} (h : Strs A (fun b => ¬ O b ∧ b < A.heap.size) ns a) (k : Below A.heap.size A B) : Strs B (fun b => ¬ O b ∧ b < B.heap.size) ns a :=
  strs_keepO h (KeepO.below k) (fun b hb => Or.inl hb)
theorem se_keepO {O : Nat → Prop} {A B : World} {lo : Nat} (hO : ∀ b, O b → lo ≤ b) (k : KeepO O A B) : ∀ {f : Nat} {x : Se} {v : Value}, SeN A (· < lo) f x v → SeN B (· < lo) f x v
  | 0, _, _, h => h.elim
  | f + 1, x, v, h => by
    obtain ⟨ka, kc, C, h1, h2, h3, h4, hA, hr⟩ := h
    refine ⟨ka, kc, C, h1, h2, h3, h4, fun hn => ?_, fun i hi => se_keepO hO k (hr i hi)⟩
    obtain ⟨b, off, e, hb, hc⟩ := hA hn
    exact ⟨b, off, e, hb, fun i hi j hj => k.cell (fun h => by have := hO b h; omega) (hc i hi j hj)⟩
theorem ses_keepO {O : Nat → Prop} {A B : World} {lo : Nat} {ks : List Se} {a : Option Addr} (h : SeReps A (· < lo) ks a) (hO : ∀ b, O b → lo ≤ b) (k : KeepO O A B) : SeReps B (· < lo) ks a := by
  obtain ⟨h0, C, hA, hr⟩ := h
  refine ⟨h0, C, fun hn => ?_, fun i hi => ?_⟩
  · obtain ⟨b, off, e, hb, hc⟩ := hA hn
    exact ⟨b, off, e, hb, fun i hi j hj => k.cell (fun h => by have := hO b h; omega) (hc i hi j hj)⟩
  · obtain ⟨f, hf⟩ := hr i hi
    exact ⟨f, se_keepO hO k hf⟩
/-- What a round is handed: a way and a field, in blocks that are not the caller's. -/
def ArgT (x : Way × Se) (ar : Array Value) (A : World) : Prop := ∃ (wa : Option Addr) (wc : Nat) (ka : Option Addr) (kc : Nat),
  ar = #[.slice wa x.1.length wc, .agg #[.string x.2.al, .string x.2.name, .bool x.2.one, .int .i64 x.2.id, .slice ka x.2.kids.length kc]] ∧ x.1.length ≤ wc ∧ Strs A (· < A.heap.size) x.1 wa ∧ x.2.al.size ≤ maxLen ∧ x.2.name.size ≤ maxLen ∧ (∀ a ∈ x.1, a.size ≤ 1048576) ∧ x.1 ≠ []
/-- The same, the way in a block of its own that may be written. -/
def ArgN (lo : Nat) (O : Nat → Prop) (x : Way × Se) (ar : Array Value) (A : World) : Prop := ArgT x ar A ∧ ∃ (g c : Nat) (v : Value), ar = #[.slice (some ⟨g, 0, none⟩) x.1.length c, v] ∧ lo ≤ g ∧ g < A.heap.size ∧ (¬ O g) ∧ ∀ j, A.frozen? ⟨g, j, none⟩ = false
/-- How tellSels ends. -/
def TellP (J : List (Way × Se) → (Nat → Prop) → World → Prop) (Jx : World → Prop) (O : Nat → Prop) (lo : Nat) (all : List (Way × Se)) (A : World) (e : Ending) (B : World) : Prop :=
  ∃ go, e = .returned (.bool go) ∧ ((go = true ∧ ∃ O', J all O' B ∧ KeepO O A B ∧ (∀ b, O' b → O b ∨ A.heap.size ≤ b) ∧ ∀ b, O' b → lo ≤ b) ∨ (go = false ∧ Jx B))
end Go.Proofs.YtgcfgadkclfonaaGreatDoor
