/-
  Contracts of the leaf functions of values: what each call answers, nothing written.
-/
import Derived.Test.YtjlifamkfdmfcaaWords
import Derived.WalkKit
import Derived.WalkSpells
import Derived.WalkLawsBesides
namespace Go.Proofs.Ytjlifamkfdmfcaa
set_option linter.unusedSimpArgs false
set_option linter.unusedVariables false
open Go.RowKit

/-- Whether all bytes from a place on are plain. -/
def plainTo (s : ByteArray) (n : Nat) : Bool := (List.range n).all fun i => decide (32 ≤ byteAt s i) && decide (byteAt s i ≤ 126)
theorem plainTo_succ (s : ByteArray) (n : Nat) : plainTo s (n + 1) = (plainTo s n && (decide (32 ≤ byteAt s n) && decide (byteAt s n ≤ 126))) := by
  simp [plainTo, List.range_succ]
theorem plainTo_false (s : ByteArray) (n k : Nat) (hk : k < n) (h : (decide (32 ≤ byteAt s k) && decide (byteAt s k ≤ 126)) = false) : plainTo s n = false := by
  rw [plainTo, List.all_eq_false]
  exact ⟨k, by simpa using hk, by simpa using h⟩

def plainB (s : ByteArray) : Bool := decide (s.size ≤ 24) && plainTo s s.size

end Go.Proofs.Ytjlifamkfdmfcaa
