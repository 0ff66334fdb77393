/-
  The text of a field: what it is of, and the words of its marks.
-/
import Derived.Test.YtibpieomldhomaaDoorIMarks
import Derived.Test.YtibpieomldhomaaDoorPLine
namespace Go.Proofs.YtibpieomldhomaaDoor
set_option linter.unusedSimpArgs false
set_option linter.unusedVariables false
open Go.RowKit

theorem word_far (w : World) : Calls Tryd.prog 58 #[.int .u8 4] w fun e w' => e = .returned (.string ⟨#[102, 97, 114]⟩) ∧ w = w' := by
  go_enter Tryd.func58, Tryd.ntmps58
  go_wp2_with fail
  go_ret
  exact ⟨rfl, rfl⟩
theorem word_hidden (w : World) : Calls Tryd.prog 58 #[.int .u8 8] w fun e w' => e = .returned (.string ⟨#[104, 105, 100, 100, 101, 110]⟩) ∧ w = w' := by
  go_enter Tryd.func58, Tryd.ntmps58
  go_wp2_with fail
  go_ret
  exact ⟨rfl, rfl⟩
theorem word_shared (w : World) : Calls Tryd.prog 58 #[.int .u8 16] w fun e w' => e = .returned (.string ⟨#[115, 104, 97, 114, 101, 100]⟩) ∧ w = w' := by
  go_enter Tryd.func58, Tryd.ntmps58
  go_wp2_with fail
  go_ret
  exact ⟨rfl, rfl⟩

set_option maxHeartbeats 800000 in
theorem ofText_any (nm of : ByteArray) (l m fr hi sh : Bool) (needs : List ByteArray) (na : Option Addr) (nl nc : Nat) (w : World) (hs : of.size ≤ 1048576) :
    Calls Tryd.prog 56 #[.agg #[.int .u8 (bitsF l m fr hi sh), .string nm, .string of, .bool l, .bool m, .bool fr, .bool hi, .bool sh, .slice na nl nc]] w fun e w' => e = .returned (.string (ofB ⟨nm, of, l, m, fr, hi, sh, needs⟩)) ∧ Below w.heap.size w w' := by
  have h1 := fun w => hasAll_any (bitsF l m fr hi sh) 1 w
  have h2 := fun w => hasAll_any (bitsF l m fr hi sh) 2 w
  rw [bits_list] at h1
  rw [bits_must] at h2
  generalize bitsF l m fr hi sh = x at *
  have b1 : of.size + 1 ≤ 9223372036854775807 := by omega
  have b2 : of.size + 1 + 1 ≤ 9223372036854775807 := by omega
  have b3 : 1 + of.size + 1 + 1 ≤ 9223372036854775807 := by omega
  have b4 : 1 + of.size + 1 ≤ 9223372036854775807 := by omega
  have b5 : 1 + of.size ≤ 9223372036854775807 := by omega
  cases l <;> cases m
  all_goals
    go_enter Tryd.func56, Tryd.ntmps56
    go_wp2_with (first | (go_at_call_of 57 (Value.int IntKind.u8 1); refine (h1 _).mono ?_; rintro e w' ⟨rfl, rfl⟩) | (go_at_call_of 57 (Value.int IntKind.u8 2); refine (h2 _).mono ?_; rintro e w' ⟨rfl, rfl⟩))
    go_ret
    exact ⟨rfl, below_box _ _⟩
end Go.Proofs.YtibpieomldhomaaDoor
