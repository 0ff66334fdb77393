/-
  The text of a field: what it is of, and the words of its marks.
-/
import Derived.Test.YtibpieomldhomaaGreatDoorIMarks
import Derived.Test.YtibpieomldhomaaGreatDoorPLine
namespace Go.Proofs.YtibpieomldhomaaGreatDoor
set_option linter.unusedSimpArgs false
set_option linter.unusedVariables false
open Go.RowKit

theorem word_far (w : World) : Calls Tryz.prog 63 #[.int .u8 4] w fun e w' => e = .returned (.string ⟨#[102, 97, 114]⟩) ∧ w = w' := by
  go_enter Tryz.func63, Tryz.ntmps63
  go_wp2_with fail
  go_ret
  exact ⟨rfl, rfl⟩
theorem word_hidden (w : World) : Calls Tryz.prog 63 #[.int .u8 8] w fun e w' => e = .returned (.string ⟨#[104, 105, 100, 100, 101, 110]⟩) ∧ w = w' := by
  go_enter Tryz.func63, Tryz.ntmps63
  go_wp2_with fail
  go_ret
  exact ⟨rfl, rfl⟩
theorem word_shared (w : World) : Calls Tryz.prog 63 #[.int .u8 16] w fun e w' => e = .returned (.string ⟨#[115, 104, 97, 114, 101, 100]⟩) ∧ w = w' := by
  go_enter Tryz.func63, Tryz.ntmps63
  go_wp2_with fail
  go_ret
  exact ⟨rfl, rfl⟩

set_option maxHeartbeats 800000 in
theorem ofText_any (nm of : ByteArray) (l m fr hi sh : Bool) (needs : List ByteArray) (na : Option Addr) (nl nc : Nat) (w : World) (hs : of.size ≤ 1048576) :
    Calls Tryz.prog 61 #[.agg #[.int .u8 (bitsF l m fr hi sh), .string nm, .string of, .bool l, .bool m, .bool fr, .bool hi, .bool sh, .slice na nl nc]] w fun e w' => e = .returned (.string (ofB ⟨nm, of, l, m, fr, hi, sh, needs⟩)) ∧ Below w.heap.size w w' := by
  have h1 := fun w => hasAll_any (bitsF l m fr hi sh) 1 w
  have h2 := fun w => hasAll_any (bitsF l m fr hi sh) 2 w
  rw [bits_list] at h1
  rw [bits_must] at h2
  generalize bitsF l m fr hi sh = x at *
  have b1 : of.size + 1 ≤ 9223372036854775807 := by omega
  have b2 : of.size + 1 + 1 ≤ 9223372036854775807 := by omega
  have b3 : 1 + of.size + 1 + 1 ≤ 9223372036854775807 := by omega
  have b4 : 1 + of.size + 1 ≤ 9223372036854775807 := by omega
  have b5 : 1 + of.size ≤ 9223372036854775807 := by omega
  cases l <;> cases m
  all_goals
    go_enter Tryz.func61, Tryz.ntmps61
    go_wp2_with (first | (go_at_call_of 62 (Value.int IntKind.u8 1); refine (h1 _).mono ?_; rintro e w' ⟨rfl, rfl⟩) | (go_at_call_of 62 (Value.int IntKind.u8 2); refine (h2 _).mono ?_; rintro e w' ⟨rfl, rfl⟩))
    go_ret
    exact ⟨rfl, below_box _ _⟩
end Go.Proofs.YtibpieomldhomaaGreatDoor
