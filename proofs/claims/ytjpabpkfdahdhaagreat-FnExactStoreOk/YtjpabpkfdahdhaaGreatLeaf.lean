/-
  Contracts of the leaf functions of values: what each call answers, nothing written.
-/
import Derived.Test.YtjpabpkfdahdhaaGreatWords
import Derived.WalkKit
import Derived.WalkSpells
import Derived.WalkLawsBesides
namespace Go.Proofs.YtjpabpkfdahdhaaGreat
set_option linter.unusedSimpArgs false
set_option linter.unusedVariables false
open Go.RowKit

/-- Whether all bytes from a place on are plain. -/
def plainTo (s : ByteArray) (n : Nat) : Bool := (List.range n).all fun i => decide (32 ≤ byteAt s i) && decide (byteAt s i ≤ 126)
theorem plainTo_succ (s : ByteArray) (n : Nat) : plainTo s (n + 1) = (plainTo s n && (decide (32 ≤ byteAt s n) && decide (byteAt s n ≤ 126))) := by
  simp [plainTo, List.range_succ]
theorem plainTo_false (s : ByteArray) (n k : Nat) (hk : k < n) (h : (decide (32 ≤ byteAt s k) && decide (byteAt s k ≤ 126)) = false) : plainTo s n = false := by
  rw [plainTo, List.all_eq_false]
  exact ⟨k, by simpa using hk, by simpa using h⟩

def plainB (s : ByteArray) : Bool := decide (s.size ≤ 24) && plainTo s s.size

set_option maxHeartbeats 400000 in
theorem isPlainText_any (s : ByteArray) (w : World) (hs : s.size ≤ maxLen) :
    Calls Tryz.prog 152 #[.string s] w fun e w' => e = .returned (.bool (plainB s)) ∧ w = w' := by
  unfold maxLen at hs
  by_cases hl : s.size ≤ 24
  · go_enter Tryz.func152, Tryz.ntmps152
    go_wp2
    go_loop [3] (fun i => ∃ k : Nat, k ≤ s.size ∧ i = .int .i64 k ∧ plainTo s k = true) (fun i => s.size - (intOf i).toNat)
    case atStart => exact ⟨0, Nat.zero_le _, rfl, rfl⟩
    case round =>
      obtain ⟨k, hk, rfl, hp⟩ := hrel
      have HP : Hid (plainTo s k = true) := hp
      clear hp
      by_cases hlt : k < s.size
      · have hb := byteAt_get s k hlt
        by_cases h1 : byteAt s k < 32
        · go_wp2
          go_ret
          exact ⟨ret_bool (by rw [plainB, plainTo_false s _ k hlt (by simp; omega)]; simp), rfl⟩
        · by_cases h2 : 126 < byteAt s k
          · go_wp2
            go_ret
            exact ⟨ret_bool (by rw [plainB, plainTo_false s _ k hlt (by simp; omega)]; simp), rfl⟩
          · go_wp2
            go_round
            case rel => exact ⟨k + 1, by omega, by go_num, by rw [plainTo_succ, HP.out]; simp; omega⟩
            case measure => simp [intOf]; omega
      · go_wp2
        go_ret
        have e : k = s.size := by omega
        exact ⟨ret_bool (by rw [plainB, ← e, HP.out]; simp; omega), rfl⟩
  · go_enter Tryz.func152, Tryz.ntmps152
    go_wp2
    go_ret
    exact ⟨ret_bool (by rw [plainB]; simp; omega), rfl⟩

set_option maxHeartbeats 400000 in
theorem l1Text_any (s : ByteArray) (w : World) (hs : s.size ≤ maxLen) :
    Calls Tryz.prog 79 #[.string s] w fun e w' => e = .returned (.bool (plainB s)) ∧ w = w' := by
  unfold maxLen at hs
  go_enter Tryz.func79, Tryz.ntmps79
  go_wp2
  go_loop [3] (fun i => ∃ k : Nat, k ≤ s.size ∧ i = .int .i64 k ∧ plainTo s k = true) (fun i => s.size - (intOf i).toNat)
  case atStart => exact ⟨0, Nat.zero_le _, rfl, rfl⟩
  case round =>
    obtain ⟨k, hk, rfl, hp⟩ := hrel
    have HP : Hid (plainTo s k = true) := hp
    clear hp
    by_cases hlt : k < s.size
    · have hb := byteAt_get s k hlt
      by_cases h1 : byteAt s k < 32
      · go_wp2
        go_ret
        exact ⟨ret_bool (by rw [plainB, plainTo_false s _ k hlt (by simp; omega)]; simp), rfl⟩
      · by_cases h2 : 126 < byteAt s k
        · go_wp2
          go_ret
          exact ⟨ret_bool (by rw [plainB, plainTo_false s _ k hlt (by simp; omega)]; simp), rfl⟩
        · go_wp2
          go_round
          case rel => exact ⟨k + 1, by omega, by go_num, by rw [plainTo_succ, HP.out]; simp; omega⟩
          case measure => simp [intOf]; omega
    · go_wp2
      go_ret
      have e : k = s.size := by omega
      exact ⟨ret_bool (by rw [plainB, ← e, HP.out]; simp; omega), rfl⟩

end Go.Proofs.YtjpabpkfdahdhaaGreat
