/-
  Lists of texts: what the model and the program ask of an object's names.
-/
import Derived.Test.YtjlifamkfdmfcaaStrs
import Derived.Test.YtjlifamkfdmfcaaLeaf
namespace Go.Proofs.Ytjlifamkfdmfcaa
set_option linter.unusedSimpArgs false
set_option linter.unusedVariables false
open Go.RowKit

/-- A text is in a list. -/
def hasTo (ns : List ByteArray) (s : ByteArray) (n : Nat) : Bool := (List.range n).any fun i => (nth ns i).toList == s.toList
theorem hasTo_succ (ns : List ByteArray) (s : ByteArray) (n : Nat) : hasTo ns s (n + 1) = (hasTo ns s n || ((nth ns n).toList == s.toList)) := by
  simp [hasTo, List.range_succ]
theorem hasTo_true (ns : List ByteArray) (s : ByteArray) (n k : Nat) (hk : k < n) (h : ((nth ns k).toList == s.toList) = true) : hasTo ns s n = true := by
  rw [hasTo, List.any_eq_true]
  exact ⟨k, by simpa using hk, h⟩

/-- The first texts of a list are words, none twice. -/
def onceTo (ns : List ByteArray) (n : Nat) : Bool := (List.range n).all fun i => wordB (nth ns i) && !hasTo ns (nth ns i) i
theorem onceTo_succ (ns : List ByteArray) (n : Nat) : onceTo ns (n + 1) = (onceTo ns n && (wordB (nth ns n) && !hasTo ns (nth ns n) n)) := by
  simp [onceTo, List.range_succ]
theorem onceTo_false (ns : List ByteArray) (n k : Nat) (hk : k < n) (h : (wordB (nth ns k) && !hasTo ns (nth ns k) k) = false) : onceTo ns n = false := by
  rw [onceTo, List.all_eq_false]
  exact ⟨k, by simpa using hk, by simpa using h⟩

end Go.Proofs.Ytjlifamkfdmfcaa
