/-
  Contracts of the functions over words: what each call answers, nothing written.
-/
import Derived.Test.YtjlifamkfdmfcaaRows
import Derived.WalkKit
import Derived.WalkSpells
import Derived.WalkLawsBesides
namespace Go.Proofs.Ytjlifamkfdmfcaa
set_option linter.unusedSimpArgs false
set_option linter.unusedVariables false
open Go.RowKit

theorem ret_bool {a b : Bool} (h : a = b) : Ending.returned (.bool a) = .returned (.bool b) := by rw [h]
theorem ret_int {k : IntKind} {a b : Int} (h : a = b) : Ending.returned (.int k a) = .returned (.int k b) := by rw [h]

def digB (c : Int) : Bool := decide (48 ≤ c) && decide (c ≤ 57)
def wbB (c : Int) : Bool := decide (97 ≤ c) && decide (c ≤ 122) || (c == 95) || digB c

/-- Byte i of a text, as a number. -/
def byteAt (s : ByteArray) (i : Nat) : Int := ((s.data.toList.getD i 0).toNat : Int)

theorem byteAt_lt (s : ByteArray) (i : Nat) : 0 ≤ byteAt s i ∧ byteAt s i ≤ 255 := by
  unfold byteAt
  have := (s.data.toList.getD i 0).toNat_lt
  omega
theorem byteAt_get (s : ByteArray) (i : Nat) (h : i < s.size) : ((s[i].toNat : Nat) : Int) = byteAt s i := by
  unfold byteAt
  have h' : i < s.data.toList.length := by simpa using h
  rw [List.getD_eq_getElem?_getD, List.getElem?_eq_getElem h']
  rfl

/-- A word's bytes up to a place. -/
def wordTo (s : ByteArray) (n : Nat) : Bool := (List.range n).all fun i => wbB (byteAt s i)
theorem wordTo_succ (s : ByteArray) (n : Nat) : wordTo s (n + 1) = (wordTo s n && wbB (byteAt s n)) := by
  simp [wordTo, List.range_succ]
theorem wordTo_false (s : ByteArray) (n k : Nat) (hk : k < n) (h : wbB (byteAt s k) = false) : wordTo s n = false := by
  rw [wordTo, List.all_eq_false]
  exact ⟨k, by simpa using hk, by simpa using h⟩
def wordB (s : ByteArray) : Bool := decide (1 ≤ s.size) && decide (s.size ≤ 9) && !digB (byteAt s 0) && wordTo s s.size

/-- A name's bytes up to a place, as the model asks. -/
def nbB (i : Nat) (c : Int) : Bool := decide (97 ≤ c) && decide (c ≤ 122) || (c == 95) || (decide (0 < i) && digB c)
def nameTo (s : ByteArray) (n : Nat) : Bool := (List.range n).all fun i => nbB i (byteAt s i)
theorem nameTo_succ (s : ByteArray) (n : Nat) : nameTo s (n + 1) = (nameTo s n && nbB n (byteAt s n)) := by
  simp [nameTo, List.range_succ]
theorem nameTo_false (s : ByteArray) (n k : Nat) (hk : k < n) (h : nbB k (byteAt s k) = false) : nameTo s n = false := by
  rw [nameTo, List.all_eq_false]
  exact ⟨k, by simpa using hk, by simpa using h⟩
theorem nameTo_word (s : ByteArray) (n : Nat) : nameTo s (n + 1) = (!digB (byteAt s 0) && wordTo s (n + 1)) := by
  induction n with
  | zero =>
    rw [nameTo_succ, wordTo_succ]
    simp only [nameTo, wordTo, List.range_zero, List.all_nil, Bool.true_and, nbB, wbB]
    generalize byteAt s 0 = c
    rw [Bool.eq_iff_iff]; simp [digB]; omega
  | succ n ih =>
    rw [nameTo_succ, ih, wordTo_succ s (n + 1), Bool.and_assoc]
    simp [nbB, wbB]
theorem name_word (s : ByteArray) (h : 1 ≤ s.size) : nameTo s s.size = (!digB (byteAt s 0) && wordTo s s.size) := by
  obtain ⟨n, hn⟩ : ∃ n, s.size = n + 1 := ⟨s.size - 1, by omega⟩
  rw [hn]; exact nameTo_word s n

end Go.Proofs.Ytjlifamkfdmfcaa
