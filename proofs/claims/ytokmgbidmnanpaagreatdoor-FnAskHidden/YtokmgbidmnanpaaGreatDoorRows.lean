/-
  NARROWER THAN 'FOR EVERY INPUT', by the rows' own cells (each row's printed sentence says how): FnAskSize: laid · FnAskWays: laid · FnAskJoin: laid · FnAskFields: laid · FnAskHidden: laid · FnPartBreaks: laid.
  DERIVED. THE GIVEN ROWS OF THIS SEAT. 6 by the template 'for every input the law returns true; each argument reads behind the call as it read before'; 0 by the template 'total and deterministic' (their statements: YtokmgbidmnanpaaGreatDoorTotals.lean).
  GIVEN WITH THE SEED: the statements are not yours to turn. If you find one false, say at which input.
  Laid BY PROGRAM, IN A SANDBOX (cutbox-rows.mjs): the forced cells as the released guide's own fill.sh prints them over the translation fa9b26a5e3d03443… (all of the seat's roots in one cut). By AI agents, Wed Nov 11 2026. No macro, syntax, notation, axiom, sorry.
-/
import Derived.Test.YtokmgbidmnanpaaGreatDoorChecked
import GoSem.Claim
import GoSem.ClaimJoined
import GoSem.ClaimMapViews
import Derived.JoinedTies
import Derived.KernelRfl
namespace Go.Proofs.YtokmgbidmnanpaaGreatDoor
/- THE CELL 'sum', in the pinned program and in every row, IS THE sha256 OF THE DUMP (.gsa) THAT YtokmgbidmnanpaaGreatDoorProg.lean LOADS. Nothing in Lean hashes anything: it is a label: what it is worth is what the hold of that sum in a sandbox is worth. -/
noncomputable def Tryz.pinned : Pinned := { name := "ytokmgbidmnanpaagreatdoor", sum := "fa9b26a5e3d034433c735ffbe5ce959e38c2b198a52ccd2054f2dedba25f9c9f", checked := Tryz.checked }
namespace Rows
def none {H : Type} : Left H := { results := [], args := [] }

/- WHAT THE LISTED PACKAGE-LEVEL VARIABLES READ AS WHEN THE CALL BEGINS. Each datum BY PROGRAM (the guide's laid-datum.mjs) off the statement by which the dump's own 'gosem.cut.vars' lays the variable. In a bare row this is a premise. The card (YtokmgbidmnanpaaGreatDoorCards.lean) ties it to the program's text. -/
def laid_math_bits_deBruijn32tab {H : Type} : DataW H := .agg [.lit (.int .u8 0), .lit (.int .u8 1), .lit (.int .u8 28), .lit (.int .u8 2), .lit (.int .u8 29), .lit (.int .u8 14), .lit (.int .u8 24), .lit (.int .u8 3), .lit (.int .u8 30), .lit (.int .u8 22), .lit (.int .u8 20), .lit (.int .u8 15), .lit (.int .u8 25), .lit (.int .u8 17), .lit (.int .u8 4), .lit (.int .u8 8), .lit (.int .u8 31), .lit (.int .u8 27), .lit (.int .u8 13), .lit (.int .u8 23), .lit (.int .u8 21), .lit (.int .u8 19), .lit (.int .u8 16), .lit (.int .u8 7), .lit (.int .u8 26), .lit (.int .u8 12), .lit (.int .u8 18), .lit (.int .u8 6), .lit (.int .u8 11), .lit (.int .u8 5), .lit (.int .u8 10), .lit (.int .u8 9)]
def laid_math_bits_deBruijn64tab {H : Type} : DataW H := .agg [.lit (.int .u8 0), .lit (.int .u8 1), .lit (.int .u8 56), .lit (.int .u8 2), .lit (.int .u8 57), .lit (.int .u8 49), .lit (.int .u8 28), .lit (.int .u8 3), .lit (.int .u8 61), .lit (.int .u8 58), .lit (.int .u8 42), .lit (.int .u8 50), .lit (.int .u8 38), .lit (.int .u8 29), .lit (.int .u8 17), .lit (.int .u8 4), .lit (.int .u8 62), .lit (.int .u8 47), .lit (.int .u8 59), .lit (.int .u8 36), .lit (.int .u8 45), .lit (.int .u8 43), .lit (.int .u8 51), .lit (.int .u8 22), .lit (.int .u8 53), .lit (.int .u8 39), .lit (.int .u8 33), .lit (.int .u8 30), .lit (.int .u8 24), .lit (.int .u8 18), .lit (.int .u8 12), .lit (.int .u8 5), .lit (.int .u8 63), .lit (.int .u8 55), .lit (.int .u8 48), .lit (.int .u8 27), .lit (.int .u8 60), .lit (.int .u8 41), .lit (.int .u8 37), .lit (.int .u8 16), .lit (.int .u8 46), .lit (.int .u8 35), .lit (.int .u8 44), .lit (.int .u8 21), .lit (.int .u8 52), .lit (.int .u8 32), .lit (.int .u8 23), .lit (.int .u8 11), .lit (.int .u8 54), .lit (.int .u8 26), .lit (.int .u8 40), .lit (.int .u8 15), .lit (.int .u8 34), .lit (.int .u8 20), .lit (.int .u8 31), .lit (.int .u8 10), .lit (.int .u8 25), .lit (.int .u8 14), .lit (.int .u8 19), .lit (.int .u8 9), .lit (.int .u8 13), .lit (.int .u8 8), .lit (.int .u8 7), .lit (.int .u8 6)]
def laid_internal_strconv_uint64pow10 {H : Type} : DataW H := .agg [.lit (.int .u64 1), .lit (.int .u64 10), .lit (.int .u64 100), .lit (.int .u64 1000), .lit (.int .u64 10000), .lit (.int .u64 100000), .lit (.int .u64 1000000), .lit (.int .u64 10000000), .lit (.int .u64 100000000), .lit (.int .u64 1000000000), .lit (.int .u64 10000000000), .lit (.int .u64 100000000000), .lit (.int .u64 1000000000000), .lit (.int .u64 10000000000000), .lit (.int .u64 100000000000000), .lit (.int .u64 1000000000000000), .lit (.int .u64 10000000000000000), .lit (.int .u64 100000000000000000), .lit (.int .u64 1000000000000000000), .lit (.int .u64 10000000000000000000)]

/-- 'laws.FnAskSize': WHATEVER THE INPUT: true; the input reads as it did. -/
def fnAskSizeSpec : ChangeSpec := { name := "fnAskSize", fn := fun _ => fun
  | [d] => { results := [.lit (.bool true)], args := [d] }
  | _ => none }
def fnAskSizeRow : OpenClaim := { program := "ytokmgbidmnanpaagreatdoor", sum := "fa9b26a5e3d034433c735ffbe5ce959e38c2b198a52ccd2054f2dedba25f9c9f", func := "loop.example/portolan/laws.FnAskSize", spec := "fnAskSize", inPlace := ["internal/abi.NoEscape", "internal/bytealg.MakeNoZero"], unfollowed := true, recurses := true, named := ["internal/strconv.uint64pow10", "math/bits.deBruijn32tab", "math/bits.deBruijn64tab"], plainKeys := false, apart := false, laid := [("math/bits.deBruijn32tab", laid_math_bits_deBruijn32tab), ("math/bits.deBruijn64tab", laid_math_bits_deBruijn64tab), ("internal/strconv.uint64pow10", laid_internal_strconv_uint64pow10)] }
def FnAskSizeSaid : Prop := fnAskSizeRow.holds Tryz.pinned (OpenSpec.ofChange fnAskSizeSpec)

/-- ITS FALSE NEIGHBOUR: 'it returns false'. Refute it at one input. -/
def fnAskSizeWrong : ChangeSpec := { name := "fnAskSize", fn := fun _ => fun
  | [d] => { results := [.lit (.bool false)], args := [d] }
  | _ => none }
def FnAskSizeWrongFalsely : Prop := fnAskSizeRow.holds Tryz.pinned (OpenSpec.ofChange fnAskSizeWrong)

/-- 'laws.FnAskWays': WHATEVER THE INPUT: true; the input reads as it did. -/
def fnAskWaysSpec : ChangeSpec := { name := "fnAskWays", fn := fun _ => fun
  | [d] => { results := [.lit (.bool true)], args := [d] }
  | _ => none }
def fnAskWaysRow : OpenClaim := { program := "ytokmgbidmnanpaagreatdoor", sum := "fa9b26a5e3d034433c735ffbe5ce959e38c2b198a52ccd2054f2dedba25f9c9f", func := "loop.example/portolan/laws.FnAskWays", spec := "fnAskWays", inPlace := ["internal/abi.NoEscape", "internal/bytealg.MakeNoZero"], unfollowed := true, recurses := true, named := ["internal/strconv.uint64pow10", "math/bits.deBruijn32tab", "math/bits.deBruijn64tab"], plainKeys := false, apart := false, laid := [("math/bits.deBruijn32tab", laid_math_bits_deBruijn32tab), ("math/bits.deBruijn64tab", laid_math_bits_deBruijn64tab), ("internal/strconv.uint64pow10", laid_internal_strconv_uint64pow10)] }
def FnAskWaysSaid : Prop := fnAskWaysRow.holds Tryz.pinned (OpenSpec.ofChange fnAskWaysSpec)

/-- ITS FALSE NEIGHBOUR: 'it returns false'. Refute it at one input. -/
def fnAskWaysWrong : ChangeSpec := { name := "fnAskWays", fn := fun _ => fun
  | [d] => { results := [.lit (.bool false)], args := [d] }
  | _ => none }
def FnAskWaysWrongFalsely : Prop := fnAskWaysRow.holds Tryz.pinned (OpenSpec.ofChange fnAskWaysWrong)

/-- 'laws.FnAskJoin': WHATEVER THE INPUT: true; the input reads as it did. -/
def fnAskJoinSpec : ChangeSpec := { name := "fnAskJoin", fn := fun _ => fun
  | [d] => { results := [.lit (.bool true)], args := [d] }
  | _ => none }
def fnAskJoinRow : OpenClaim := { program := "ytokmgbidmnanpaagreatdoor", sum := "fa9b26a5e3d034433c735ffbe5ce959e38c2b198a52ccd2054f2dedba25f9c9f", func := "loop.example/portolan/laws.FnAskJoin", spec := "fnAskJoin", inPlace := ["internal/abi.NoEscape", "internal/bytealg.MakeNoZero"], unfollowed := true, recurses := true, named := ["internal/strconv.uint64pow10", "math/bits.deBruijn32tab", "math/bits.deBruijn64tab"], plainKeys := false, apart := false, laid := [("math/bits.deBruijn32tab", laid_math_bits_deBruijn32tab), ("math/bits.deBruijn64tab", laid_math_bits_deBruijn64tab), ("internal/strconv.uint64pow10", laid_internal_strconv_uint64pow10)] }
def FnAskJoinSaid : Prop := fnAskJoinRow.holds Tryz.pinned (OpenSpec.ofChange fnAskJoinSpec)

/-- ITS FALSE NEIGHBOUR: 'it returns false'. Refute it at one input. -/
def fnAskJoinWrong : ChangeSpec := { name := "fnAskJoin", fn := fun _ => fun
  | [d] => { results := [.lit (.bool false)], args := [d] }
  | _ => none }
def FnAskJoinWrongFalsely : Prop := fnAskJoinRow.holds Tryz.pinned (OpenSpec.ofChange fnAskJoinWrong)

/-- 'laws.FnAskFields': WHATEVER THE INPUT: true; the input reads as it did. -/
def fnAskFieldsSpec : ChangeSpec := { name := "fnAskFields", fn := fun _ => fun
  | [d] => { results := [.lit (.bool true)], args := [d] }
  | _ => none }
def fnAskFieldsRow : OpenClaim := { program := "ytokmgbidmnanpaagreatdoor", sum := "fa9b26a5e3d034433c735ffbe5ce959e38c2b198a52ccd2054f2dedba25f9c9f", func := "loop.example/portolan/laws.FnAskFields", spec := "fnAskFields", inPlace := ["internal/abi.NoEscape", "internal/bytealg.MakeNoZero"], unfollowed := true, recurses := true, named := ["internal/strconv.uint64pow10", "math/bits.deBruijn32tab", "math/bits.deBruijn64tab"], plainKeys := false, apart := false, laid := [("math/bits.deBruijn32tab", laid_math_bits_deBruijn32tab), ("math/bits.deBruijn64tab", laid_math_bits_deBruijn64tab), ("internal/strconv.uint64pow10", laid_internal_strconv_uint64pow10)] }
def FnAskFieldsSaid : Prop := fnAskFieldsRow.holds Tryz.pinned (OpenSpec.ofChange fnAskFieldsSpec)

/-- ITS FALSE NEIGHBOUR: 'it returns false'. Refute it at one input. -/
def fnAskFieldsWrong : ChangeSpec := { name := "fnAskFields", fn := fun _ => fun
  | [d] => { results := [.lit (.bool false)], args := [d] }
  | _ => none }
def FnAskFieldsWrongFalsely : Prop := fnAskFieldsRow.holds Tryz.pinned (OpenSpec.ofChange fnAskFieldsWrong)

/-- 'laws.FnAskHidden': WHATEVER THE INPUT: true; the input reads as it did. -/
def fnAskHiddenSpec : ChangeSpec := { name := "fnAskHidden", fn := fun _ => fun
  | [d1, d2] => { results := [.lit (.bool true)], args := [d1, d2] }
  | _ => none }
def fnAskHiddenRow : OpenClaim := { program := "ytokmgbidmnanpaagreatdoor", sum := "fa9b26a5e3d034433c735ffbe5ce959e38c2b198a52ccd2054f2dedba25f9c9f", func := "loop.example/portolan/laws.FnAskHidden", spec := "fnAskHidden", inPlace := ["internal/abi.NoEscape", "internal/bytealg.MakeNoZero"], unfollowed := true, recurses := true, named := ["internal/strconv.uint64pow10", "math/bits.deBruijn32tab", "math/bits.deBruijn64tab"], plainKeys := false, apart := false, laid := [("math/bits.deBruijn32tab", laid_math_bits_deBruijn32tab), ("math/bits.deBruijn64tab", laid_math_bits_deBruijn64tab), ("internal/strconv.uint64pow10", laid_internal_strconv_uint64pow10)] }
def FnAskHiddenSaid : Prop := fnAskHiddenRow.holds Tryz.pinned (OpenSpec.ofChange fnAskHiddenSpec)

/-- ITS FALSE NEIGHBOUR: 'it returns false'. Refute it at one input. -/
def fnAskHiddenWrong : ChangeSpec := { name := "fnAskHidden", fn := fun _ => fun
  | [d1, d2] => { results := [.lit (.bool false)], args := [d1, d2] }
  | _ => none }
def FnAskHiddenWrongFalsely : Prop := fnAskHiddenRow.holds Tryz.pinned (OpenSpec.ofChange fnAskHiddenWrong)

/-- 'laws.FnPartBreaks': WHATEVER THE INPUT: true; the input reads as it did. -/
def fnPartBreaksSpec : ChangeSpec := { name := "fnPartBreaks", fn := fun _ => fun
  | [d1, d2] => { results := [.lit (.bool true)], args := [d1, d2] }
  | _ => none }
def fnPartBreaksRow : OpenClaim := { program := "ytokmgbidmnanpaagreatdoor", sum := "fa9b26a5e3d034433c735ffbe5ce959e38c2b198a52ccd2054f2dedba25f9c9f", func := "loop.example/portolan/laws.FnPartBreaks", spec := "fnPartBreaks", inPlace := ["internal/abi.NoEscape", "internal/bytealg.MakeNoZero"], unfollowed := true, recurses := true, named := ["internal/strconv.uint64pow10", "math/bits.deBruijn32tab", "math/bits.deBruijn64tab"], plainKeys := false, apart := false, laid := [("math/bits.deBruijn32tab", laid_math_bits_deBruijn32tab), ("math/bits.deBruijn64tab", laid_math_bits_deBruijn64tab), ("internal/strconv.uint64pow10", laid_internal_strconv_uint64pow10)] }
def FnPartBreaksSaid : Prop := fnPartBreaksRow.holds Tryz.pinned (OpenSpec.ofChange fnPartBreaksSpec)

/-- ITS FALSE NEIGHBOUR: 'it returns false'. Refute it at one input. -/
def fnPartBreaksWrong : ChangeSpec := { name := "fnPartBreaks", fn := fun _ => fun
  | [d1, d2] => { results := [.lit (.bool false)], args := [d1, d2] }
  | _ => none }
def FnPartBreaksWrongFalsely : Prop := fnPartBreaksRow.holds Tryz.pinned (OpenSpec.ofChange fnPartBreaksWrong)

/- THE SECOND FORM. 'bulk': how many values and letters a reading holds, each counted each time it is reached (what is shared counts as often as it is met; a slice's spare places count too). A statement '..UptoSaid' is the law's where the arguments, and the package variables that the reading takes, are together of bulk at most 1048576: NARROWER than '..Said'. Prove '..Said' where nothing that the law and all that it calls make is longer than what came in: it says more and counts as full. Else prove '..UptoSaid'. A law counts once. -/
mutual
def uptoBulk {H : Type} : DataW H → Nat
  | .lit (.string bytes) => bytes.length + 1
  | .lit _ => 1
  | .nil => 1
  | .ptr d => uptoBulk d + 1
  | .slice elems spare => uptoBulkAll elems + uptoBulkAll spare + 1
  | .agg parts => uptoBulkAll parts + 1
  | .iface _ d => uptoBulk d + 1
  | .map entries => uptoBulkEntries entries + 1
  | .held _ => 1
def uptoBulkAll {H : Type} : List (DataW H) → Nat
  | [] => 0
  | d :: r => uptoBulk d + uptoBulkAll r
def uptoBulkEntries {H : Type} : List (Lit × DataW H) → Nat
  | [] => 0
  | x :: r => uptoBulkEntry x + uptoBulkEntries r
def uptoBulkEntry {H : Type} : Lit × DataW H → Nat
  | (.string bytes, d) => bytes.length + uptoBulk d + 1
  | (_, d) => uptoBulk d + 1
 end
def uptoSmall : (H : Type) → List (DataW H) → Bool := fun _ ds => decide (uptoBulkAll ds ≤ 1048576)
def OpenSpec.upto (s : _root_.Go.ChangeSpec) : _root_.Go.OpenSpec := { _root_.Go.OpenSpec.ofChange s with cond := some uptoSmall }

/-- 'laws.FnAskSize', WHERE WHAT IT READS IS OF BULK AT MOST 1048576: true; the input reads as it did. -/
def fnAskSizeUptoRow : OpenClaim := { program := "ytokmgbidmnanpaagreatdoor", sum := "fa9b26a5e3d034433c735ffbe5ce959e38c2b198a52ccd2054f2dedba25f9c9f", func := "loop.example/portolan/laws.FnAskSize", spec := "fnAskSize", inPlace := ["internal/abi.NoEscape", "internal/bytealg.MakeNoZero"], unfollowed := true, recurses := true, named := ["internal/strconv.uint64pow10", "math/bits.deBruijn32tab", "math/bits.deBruijn64tab"], plainKeys := false, apart := false, laid := [("math/bits.deBruijn32tab", laid_math_bits_deBruijn32tab), ("math/bits.deBruijn64tab", laid_math_bits_deBruijn64tab), ("internal/strconv.uint64pow10", laid_internal_strconv_uint64pow10)], narrowed := true }
def FnAskSizeUptoSaid : Prop := fnAskSizeUptoRow.holds Tryz.pinned (OpenSpec.upto fnAskSizeSpec)

/-- 'laws.FnAskWays', WHERE WHAT IT READS IS OF BULK AT MOST 1048576: true; the input reads as it did. -/
def fnAskWaysUptoRow : OpenClaim := { program := "ytokmgbidmnanpaagreatdoor", sum := "fa9b26a5e3d034433c735ffbe5ce959e38c2b198a52ccd2054f2dedba25f9c9f", func := "loop.example/portolan/laws.FnAskWays", spec := "fnAskWays", inPlace := ["internal/abi.NoEscape", "internal/bytealg.MakeNoZero"], unfollowed := true, recurses := true, named := ["internal/strconv.uint64pow10", "math/bits.deBruijn32tab", "math/bits.deBruijn64tab"], plainKeys := false, apart := false, laid := [("math/bits.deBruijn32tab", laid_math_bits_deBruijn32tab), ("math/bits.deBruijn64tab", laid_math_bits_deBruijn64tab), ("internal/strconv.uint64pow10", laid_internal_strconv_uint64pow10)], narrowed := true }
def FnAskWaysUptoSaid : Prop := fnAskWaysUptoRow.holds Tryz.pinned (OpenSpec.upto fnAskWaysSpec)

/-- 'laws.FnAskJoin', WHERE WHAT IT READS IS OF BULK AT MOST 1048576: true; the input reads as it did. -/
def fnAskJoinUptoRow : OpenClaim := { program := "ytokmgbidmnanpaagreatdoor", sum := "fa9b26a5e3d034433c735ffbe5ce959e38c2b198a52ccd2054f2dedba25f9c9f", func := "loop.example/portolan/laws.FnAskJoin", spec := "fnAskJoin", inPlace := ["internal/abi.NoEscape", "internal/bytealg.MakeNoZero"], unfollowed := true, recurses := true, named := ["internal/strconv.uint64pow10", "math/bits.deBruijn32tab", "math/bits.deBruijn64tab"], plainKeys := false, apart := false, laid := [("math/bits.deBruijn32tab", laid_math_bits_deBruijn32tab), ("math/bits.deBruijn64tab", laid_math_bits_deBruijn64tab), ("internal/strconv.uint64pow10", laid_internal_strconv_uint64pow10)], narrowed := true }
def FnAskJoinUptoSaid : Prop := fnAskJoinUptoRow.holds Tryz.pinned (OpenSpec.upto fnAskJoinSpec)

/-- 'laws.FnAskFields', WHERE WHAT IT READS IS OF BULK AT MOST 1048576: true; the input reads as it did. -/
def fnAskFieldsUptoRow : OpenClaim := { program := "ytokmgbidmnanpaagreatdoor", sum := "fa9b26a5e3d034433c735ffbe5ce959e38c2b198a52ccd2054f2dedba25f9c9f", func := "loop.example/portolan/laws.FnAskFields", spec := "fnAskFields", inPlace := ["internal/abi.NoEscape", "internal/bytealg.MakeNoZero"], unfollowed := true, recurses := true, named := ["internal/strconv.uint64pow10", "math/bits.deBruijn32tab", "math/bits.deBruijn64tab"], plainKeys := false, apart := false, laid := [("math/bits.deBruijn32tab", laid_math_bits_deBruijn32tab), ("math/bits.deBruijn64tab", laid_math_bits_deBruijn64tab), ("internal/strconv.uint64pow10", laid_internal_strconv_uint64pow10)], narrowed := true }
def FnAskFieldsUptoSaid : Prop := fnAskFieldsUptoRow.holds Tryz.pinned (OpenSpec.upto fnAskFieldsSpec)

/-- 'laws.FnAskHidden', WHERE WHAT IT READS IS OF BULK AT MOST 1048576: true; the input reads as it did. -/
def fnAskHiddenUptoRow : OpenClaim := { program := "ytokmgbidmnanpaagreatdoor", sum := "fa9b26a5e3d034433c735ffbe5ce959e38c2b198a52ccd2054f2dedba25f9c9f", func := "loop.example/portolan/laws.FnAskHidden", spec := "fnAskHidden", inPlace := ["internal/abi.NoEscape", "internal/bytealg.MakeNoZero"], unfollowed := true, recurses := true, named := ["internal/strconv.uint64pow10", "math/bits.deBruijn32tab", "math/bits.deBruijn64tab"], plainKeys := false, apart := false, laid := [("math/bits.deBruijn32tab", laid_math_bits_deBruijn32tab), ("math/bits.deBruijn64tab", laid_math_bits_deBruijn64tab), ("internal/strconv.uint64pow10", laid_internal_strconv_uint64pow10)], narrowed := true }
def FnAskHiddenUptoSaid : Prop := fnAskHiddenUptoRow.holds Tryz.pinned (OpenSpec.upto fnAskHiddenSpec)

/-- 'laws.FnPartBreaks', WHERE WHAT IT READS IS OF BULK AT MOST 1048576: true; the input reads as it did. -/
def fnPartBreaksUptoRow : OpenClaim := { program := "ytokmgbidmnanpaagreatdoor", sum := "fa9b26a5e3d034433c735ffbe5ce959e38c2b198a52ccd2054f2dedba25f9c9f", func := "loop.example/portolan/laws.FnPartBreaks", spec := "fnPartBreaks", inPlace := ["internal/abi.NoEscape", "internal/bytealg.MakeNoZero"], unfollowed := true, recurses := true, named := ["internal/strconv.uint64pow10", "math/bits.deBruijn32tab", "math/bits.deBruijn64tab"], plainKeys := false, apart := false, laid := [("math/bits.deBruijn32tab", laid_math_bits_deBruijn32tab), ("math/bits.deBruijn64tab", laid_math_bits_deBruijn64tab), ("internal/strconv.uint64pow10", laid_internal_strconv_uint64pow10)], narrowed := true }
def FnPartBreaksUptoSaid : Prop := fnPartBreaksUptoRow.holds Tryz.pinned (OpenSpec.upto fnPartBreaksSpec)

end Rows
end Go.Proofs.YtokmgbidmnanpaaGreatDoor
