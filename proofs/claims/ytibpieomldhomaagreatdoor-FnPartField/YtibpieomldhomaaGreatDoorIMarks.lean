/-
  Marks of fields as bits.
-/
import Derived.Test.YtibpieomldhomaaGreatDoorIFind
import Derived.Test.YtibpieomldhomaaGreatDoorPNeed
namespace Go.Proofs.YtibpieomldhomaaGreatDoor
set_option linter.unusedSimpArgs false
set_option linter.unusedVariables false
open Go.RowKit

/-- A bit more, or not. -/
def orB (on : Bool) (x s : Int) : Int := if on then bits BinOp.or IntKind.u8 x s else x

theorem set_lit (W : World) (N : Nat) (hN : W.heap.size = N) (x s : Int) (c1 c2 c3 c4 c5 c6 c7 c8 : Value) (on : Bool) :
    Calls Tryz.prog 65 #[.pointer (some ⟨N, 0, none⟩), .int .u8 s, .bool on] (W.alloc (.cells #[.int .u8 x, c1, c2, c3, c4, c5, c6, c7, c8] 85)) fun e w' => e = .returned (.tuple #[]) ∧ W.alloc (.cells #[.int .u8 (orB on x s), c1, c2, c3, c4, c5, c6, c7, c8] 85) = w' := by
  subst hN
  cases on
  · go_enter Tryz.func65, Tryz.ntmps65
    go_wp2_with fail
    refine bodyPost_end (v := .tuple #[]) ?res rfl ⟨rfl, rfl⟩
    case res => simp [results, Tryz.results65, go_sem]
  · go_enter Tryz.func65, Tryz.ntmps65
    go_wp2_with fail
    refine bodyPost_end (v := .tuple #[]) ?res rfl ⟨rfl, rfl⟩
    case res => simp [results, Tryz.results65, go_sem]

/-- The bits of a field's marks. -/
def bitsF (l m fr hi sh : Bool) : Int := orB sh (orB hi (orB fr (orB m (orB l 0 1) 2) 4) 8) 16

set_option maxHeartbeats 800000 in
theorem marksOf_any (nm of : ByteArray) (l m fr hi sh : Bool) (na : Option Addr) (nl nc : Nat) (w : World) :
    Calls Tryz.prog 43 #[.agg #[.string nm, .string of, .bool l, .bool m, .bool fr, .bool hi, .bool sh, .slice na nl nc]] w fun e w' => e = .returned (.agg #[.int .u8 (bitsF l m fr hi sh), .string nm, .string of, .bool l, .bool m, .bool fr, .bool hi, .bool sh, .slice na nl nc]) ∧ Below w.heap.size w w' := by
  go_enter Tryz.func43, Tryz.ntmps43
  go_wp2_with (go_at_call 65; refine (set_lit _ _ (by simp) _ _ _ _ _ _ _ _ _ _ _).mono ?_; rintro e w' ⟨rfl, rfl⟩)
  refine bodyPost_ret (v := .agg #[.int .u8 (bitsF l m fr hi sh), .string nm, .string of, .bool l, .bool m, .bool fr, .bool hi, .bool sh, .slice na nl nc]) ?res rfl ⟨rfl, ?_⟩
  case res => simp [results, Tryz.results43, go_sem, bitsF]
  exact (((Below.refl _ _).alloc (Nat.le_refl _) _).alloc (by simp) _).alloc (by simp; omega) _

/-- What 'hasAll' and 'hasAny' say of bits. -/
def allB (x s : Int) : Bool := bits BinOp.and IntKind.u8 x s == s
def anyB (x s : Int) : Bool := bits BinOp.and IntKind.u8 x s != 0

theorem hasAll_any (x s : Int) (w : World) : Calls Tryz.prog 62 #[.int .u8 x, .int .u8 s] w fun e w' => e = .returned (.bool (allB x s)) ∧ w = w' := by
  go_enter Tryz.func62, Tryz.ntmps62
  go_wp2_with fail
  go_ret
  exact ⟨rfl, rfl⟩
theorem hasAny_any (x s : Int) (w : World) : Calls Tryz.prog 83 #[.int .u8 x, .int .u8 s] w fun e w' => e = .returned (.bool (anyB x s)) ∧ w = w' := by
  go_enter Tryz.func83, Tryz.ntmps83
  go_wp2_with fail
  go_ret
  exact ⟨rfl, rfl⟩

theorem bits_must (l m fr hi sh : Bool) : allB (bitsF l m fr hi sh) 2 = m := by cases l <;> cases m <;> cases fr <;> cases hi <;> cases sh <;> decide
theorem bits_list (l m fr hi sh : Bool) : allB (bitsF l m fr hi sh) 1 = l := by cases l <;> cases m <;> cases fr <;> cases hi <;> cases sh <;> decide
theorem bits_far (l m fr hi sh : Bool) : allB (bitsF l m fr hi sh) 4 = fr := by cases l <;> cases m <;> cases fr <;> cases hi <;> cases sh <;> decide
theorem bits_hidden (l m fr hi sh : Bool) : allB (bitsF l m fr hi sh) 8 = hi := by cases l <;> cases m <;> cases fr <;> cases hi <;> cases sh <;> decide
theorem bits_shared (l m fr hi sh : Bool) : allB (bitsF l m fr hi sh) 16 = sh := by cases l <;> cases m <;> cases fr <;> cases hi <;> cases sh <;> decide
theorem bits_farsh (l m fr hi sh : Bool) : allB (bitsF l m fr hi sh) 20 = (fr && sh) := by cases l <;> cases m <;> cases fr <;> cases hi <;> cases sh <;> decide
theorem bits_key (l m fr hi sh : Bool) : anyB (bitsF l m fr hi sh) 13 = (l || fr || hi) := by cases l <;> cases m <;> cases fr <;> cases hi <;> cases sh <;> decide
theorem bits_anyl (l m fr hi sh : Bool) : anyB (bitsF l m fr hi sh) 1 = l := by cases l <;> cases m <;> cases fr <;> cases hi <;> cases sh <;> decide
theorem bits_need (l m fr hi sh : Bool) : anyB (bitsF l m fr hi sh) 7 = (l || fr || m) := by cases l <;> cases m <;> cases fr <;> cases hi <;> cases sh <;> decide
end Go.Proofs.YtibpieomldhomaaGreatDoor
