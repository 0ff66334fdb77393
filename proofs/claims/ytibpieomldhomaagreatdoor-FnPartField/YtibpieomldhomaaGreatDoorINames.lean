/-
  The program's questions of a part: words and names.
-/
import Derived.Test.YtibpieomldhomaaGreatDoorPFind
namespace Go.Proofs.YtibpieomldhomaaGreatDoor
set_option linter.unusedSimpArgs false
set_option linter.unusedVariables false
open Go.RowKit

set_option maxHeartbeats 400000 in
theorem isLeaf_any (s : ByteArray) (w : World) :
    Calls Tryz.prog 71 #[.string s] w fun e w' => e = .returned (.bool (scalarB s)) ∧ w = w' := by
  cases h1 : (s.toList == [105, 110, 116]) <;> cases h2 : (s.toList == [116, 101, 120, 116]) <;>
  · go_enter Tryz.func71, Tryz.ntmps71
    go_wp2_with fail
    go_ret
    exact ⟨ret_bool (by simp only [scalarB, isT, h1, h2]; rfl), rfl⟩

/-- A word that means something in the text of a part. -/
def keptB (s : ByteArray) : Bool := isT s [112, 97, 114, 116] || isT s [116, 121, 112, 101] || isT s [107, 101, 121] || isT s [102, 97, 114] || isT s [104, 105, 100, 100, 101, 110] || isT s [115, 104, 97, 114, 101, 100] || isT s [110, 101, 101, 100, 115] || scalarB s

set_option maxHeartbeats 1600000 in
theorem isKept_any (s : ByteArray) (w : World) :
    Calls Tryz.prog 48 #[.string s] w fun e w' => e = .returned (.bool (keptB s)) ∧ w = w' := by
  cases k0 : (s.toList == [112, 97, 114, 116])
  case true =>
    go_enter Tryz.func48, Tryz.ntmps48
    go_wp2_with fail
    go_ret
    exact ⟨ret_bool (by simp [keptB, isT, k0]), rfl⟩
  cases k1 : (s.toList == [116, 121, 112, 101])
  case true =>
    go_enter Tryz.func48, Tryz.ntmps48
    go_wp2_with fail
    go_ret
    exact ⟨ret_bool (by simp [keptB, isT, k1]), rfl⟩
  cases k2 : (s.toList == [107, 101, 121])
  case true =>
    go_enter Tryz.func48, Tryz.ntmps48
    go_wp2_with fail
    go_ret
    exact ⟨ret_bool (by simp [keptB, isT, k2]), rfl⟩
  cases k3 : (s.toList == [102, 97, 114])
  case true =>
    go_enter Tryz.func48, Tryz.ntmps48
    go_wp2_with fail
    go_ret
    exact ⟨ret_bool (by simp [keptB, isT, k3]), rfl⟩
  cases k4 : (s.toList == [104, 105, 100, 100, 101, 110])
  case true =>
    go_enter Tryz.func48, Tryz.ntmps48
    go_wp2_with fail
    go_ret
    exact ⟨ret_bool (by simp [keptB, isT, k4]), rfl⟩
  cases k5 : (s.toList == [115, 104, 97, 114, 101, 100])
  case true =>
    go_enter Tryz.func48, Tryz.ntmps48
    go_wp2_with fail
    go_ret
    exact ⟨ret_bool (by simp [keptB, isT, k5]), rfl⟩
  cases k6 : (s.toList == [110, 101, 101, 100, 115])
  case true =>
    go_enter Tryz.func48, Tryz.ntmps48
    go_wp2_with fail
    go_ret
    exact ⟨ret_bool (by simp [keptB, isT, k6]), rfl⟩
  go_enter Tryz.func48, Tryz.ntmps48
  go_wp2_with (go_at_call 71; refine (isLeaf_any _ _).mono ?_; rintro e w' ⟨rfl, rfl⟩)
  go_ret
  exact ⟨ret_bool (by simp [keptB, isT, k0, k1, k2, k3, k4, k5, k6]), rfl⟩

theorem nameB_eq (s : ByteArray) : nameB s = (decide (s.size ≤ 8) && wordB s && !(byteAt s 0 == 95) && !keptB s) := by
  simp only [nameB, keptB]
  cases wordB s <;> cases decide (s.size ≤ 8) <;> cases (byteAt s 0 == 95) <;> cases scalarB s <;> simp [Bool.and_assoc]

set_option maxHeartbeats 1600000 in
theorem isName_any (s : ByteArray) (w : World) (hs : s.size ≤ maxLen) :
    Calls Tryz.prog 31 #[.string s] w fun e w' => e = .returned (.bool (nameB s)) ∧ w = w' := by
  rw [nameB_eq]
  have hcw := fun w => isWord_any s w hs
  have hck := fun w => isKept_any s w
  by_cases h8 : s.size ≤ 8
  case neg =>
    have h8' : ¬ (s.size : Int) ≤ 8 := by omega
    have h8d : decide ((s.size : Int) ≤ 8) = false := by simpa using h8'
    go_enter Tryz.func31, Tryz.ntmps31
    go_wp2_with fail
    go_ret
    exact ⟨ret_bool (by simp [h8]), rfl⟩
  have h8' : (s.size : Int) ≤ 8 := by omega
  have H8 : Hid (decide (s.size ≤ 8) = true) := by show _ = _; simpa using h8
  cases hw : wordB s
  · rw [hw] at hcw
    go_enter Tryz.func31, Tryz.ntmps31
    go_wp2_with (go_at_call 47; refine (hcw _).mono ?_; rintro e w' ⟨rfl, rfl⟩)
    go_ret
    exact ⟨ret_bool (by simp), rfl⟩
  rw [hw] at hcw
  have h1 : 0 < s.size := by
    rw [wordB] at hw; simp only [Bool.and_eq_true, decide_eq_true_eq] at hw; omega
  have hb0 := byteAt_get s 0 h1
  cases hu : (byteAt s 0 == 95)
  case true =>
    have hu' : (byteAt s 0 != 95) = false := by simp only [bne, hu]; rfl
    go_enter Tryz.func31, Tryz.ntmps31
    go_wp2_with (go_at_call 47; refine (hcw _).mono ?_; rintro e w' ⟨rfl, rfl⟩)
    go_ret
    exact ⟨ret_bool (by simp), rfl⟩
  have hu' : (byteAt s 0 != 95) = true := by simp only [bne, hu]; rfl
  cases hk : keptB s
  all_goals
    rw [hk] at hck
    go_enter Tryz.func31, Tryz.ntmps31
    go_wp2_with (first | (go_at_call 47; refine (hcw _).mono ?_; rintro e w' ⟨rfl, rfl⟩) | (go_at_call 48; refine (hck _).mono ?_; rintro e w' ⟨rfl, rfl⟩))
    go_ret
    exact ⟨ret_bool (by simp [H8.out]), rfl⟩
end Go.Proofs.YtibpieomldhomaaGreatDoor
