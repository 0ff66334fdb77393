/-
  No cell of these rows narrows 'for every input' (looked for: loops, veiled, ifaces, maps, wideKeys, modest, calm, conditions, laid).
  DERIVED. THE GIVEN ROWS OF THIS SEAT. 3 by the template 'for every input the law returns true; each argument reads behind the call as it read before'; 0 by the template 'total and deterministic' (their statements: YtcpflkbbjlonbaaTotals.lean).
  GIVEN WITH THE SEED: the statements are not yours to turn. If you find one false, say at which input.
  Laid BY PROGRAM, IN A SANDBOX (cutbox-rows.mjs): the forced cells as the released guide's own fill.sh prints them over the translation 9c45ac005ad91631… (all of the seat's roots in one cut). By AI agents, Wed Nov 11 2026. No macro, syntax, notation, axiom, sorry.
-/
import Derived.Test.YtcpflkbbjlonbaaChecked
import GoSem.Claim
import GoSem.ClaimJoined
import GoSem.ClaimMapViews
import Derived.JoinedTies
import Derived.KernelRfl
namespace Go.Proofs.Ytcpflkbbjlonbaa
/- THE CELL 'sum', in the pinned program and in every row, IS THE sha256 OF THE DUMP (.gsa) THAT YtcpflkbbjlonbaaProg.lean LOADS. Nothing in Lean hashes anything: it is a label: what it is worth is what the hold of that sum in a sandbox is worth. -/
noncomputable def Try.pinned : Pinned := { name := "ytcpflkbbjlonbaa", sum := "9c45ac005ad9163179df70984e33946ab82e633eda3ebf1d79b8f8cf97172cc3", checked := Try.checked }
namespace Rows
def none {H : Type} : Left H := { results := [], args := [] }

/-- 'laws.FnExactPartWrite': WHATEVER THE INPUT: true; the input reads as it did. -/
def fnExactPartWriteSpec : ChangeSpec := { name := "fnExactPartWrite", fn := fun _ => fun
  | [d] => { results := [.lit (.bool true)], args := [d] }
  | _ => none }
def fnExactPartWriteRow : OpenClaim := { program := "ytcpflkbbjlonbaa", sum := "9c45ac005ad9163179df70984e33946ab82e633eda3ebf1d79b8f8cf97172cc3", func := "loop.example/portolan/laws.FnExactPartWrite", spec := "fnExactPartWrite", inPlace := ["internal/abi.NoEscape", "internal/bytealg.MakeNoZero"], apart := false }
def FnExactPartWriteSaid : Prop := fnExactPartWriteRow.holds Try.pinned (OpenSpec.ofChange fnExactPartWriteSpec)

/-- ITS FALSE NEIGHBOUR: 'it returns false'. Refute it at one input. -/
def fnExactPartWriteWrong : ChangeSpec := { name := "fnExactPartWrite", fn := fun _ => fun
  | [d] => { results := [.lit (.bool false)], args := [d] }
  | _ => none }
def FnExactPartWriteWrongFalsely : Prop := fnExactPartWriteRow.holds Try.pinned (OpenSpec.ofChange fnExactPartWriteWrong)

/-- 'laws.FnExactPartField': WHATEVER THE INPUT: true; the input reads as it did. -/
def fnExactPartFieldSpec : ChangeSpec := { name := "fnExactPartField", fn := fun _ => fun
  | [d1, d2, d3] => { results := [.lit (.bool true)], args := [d1, d2, d3] }
  | _ => none }
def fnExactPartFieldRow : OpenClaim := { program := "ytcpflkbbjlonbaa", sum := "9c45ac005ad9163179df70984e33946ab82e633eda3ebf1d79b8f8cf97172cc3", func := "loop.example/portolan/laws.FnExactPartField", spec := "fnExactPartField", inPlace := ["internal/abi.NoEscape", "internal/bytealg.MakeNoZero"], apart := false }
def FnExactPartFieldSaid : Prop := fnExactPartFieldRow.holds Try.pinned (OpenSpec.ofChange fnExactPartFieldSpec)

/-- ITS FALSE NEIGHBOUR: 'it returns false'. Refute it at one input. -/
def fnExactPartFieldWrong : ChangeSpec := { name := "fnExactPartField", fn := fun _ => fun
  | [d1, d2, d3] => { results := [.lit (.bool false)], args := [d1, d2, d3] }
  | _ => none }
def FnExactPartFieldWrongFalsely : Prop := fnExactPartFieldRow.holds Try.pinned (OpenSpec.ofChange fnExactPartFieldWrong)

/-- 'laws.FnExactPartBreaks': WHATEVER THE INPUT: true; the input reads as it did. -/
def fnExactPartBreaksSpec : ChangeSpec := { name := "fnExactPartBreaks", fn := fun _ => fun
  | [d1, d2] => { results := [.lit (.bool true)], args := [d1, d2] }
  | _ => none }
def fnExactPartBreaksRow : OpenClaim := { program := "ytcpflkbbjlonbaa", sum := "9c45ac005ad9163179df70984e33946ab82e633eda3ebf1d79b8f8cf97172cc3", func := "loop.example/portolan/laws.FnExactPartBreaks", spec := "fnExactPartBreaks", inPlace := ["internal/abi.NoEscape", "internal/bytealg.MakeNoZero"], apart := false }
def FnExactPartBreaksSaid : Prop := fnExactPartBreaksRow.holds Try.pinned (OpenSpec.ofChange fnExactPartBreaksSpec)

/-- ITS FALSE NEIGHBOUR: 'it returns false'. Refute it at one input. -/
def fnExactPartBreaksWrong : ChangeSpec := { name := "fnExactPartBreaks", fn := fun _ => fun
  | [d1, d2] => { results := [.lit (.bool false)], args := [d1, d2] }
  | _ => none }
def FnExactPartBreaksWrongFalsely : Prop := fnExactPartBreaksRow.holds Try.pinned (OpenSpec.ofChange fnExactPartBreaksWrong)

/- THE SECOND FORM. 'bulk': how many values and letters a reading holds, each counted each time it is reached (what is shared counts as often as it is met; a slice's spare places count too). A statement '..UptoSaid' is the law's where the arguments, and the package variables that the reading takes, are together of bulk at most 1048576: NARROWER than '..Said'. Prove '..Said' where nothing that the law and all that it calls make is longer than what came in: it says more and counts as full. Else prove '..UptoSaid'. A law counts once. -/
mutual
def uptoBulk {H : Type} : DataW H → Nat
  | .lit (.string bytes) => bytes.length + 1
  | .lit _ => 1
  | .nil => 1
  | .ptr d => uptoBulk d + 1
  | .slice elems spare => uptoBulkAll elems + uptoBulkAll spare + 1
  | .agg parts => uptoBulkAll parts + 1
  | .iface _ d => uptoBulk d + 1
  | .map entries => uptoBulkEntries entries + 1
  | .held _ => 1
def uptoBulkAll {H : Type} : List (DataW H) → Nat
  | [] => 0
  | d :: r => uptoBulk d + uptoBulkAll r
def uptoBulkEntries {H : Type} : List (Lit × DataW H) → Nat
  | [] => 0
  | x :: r => uptoBulkEntry x + uptoBulkEntries r
def uptoBulkEntry {H : Type} : Lit × DataW H → Nat
  | (.string bytes, d) => bytes.length + uptoBulk d + 1
  | (_, d) => uptoBulk d + 1
 end
def uptoSmall : (H : Type) → List (DataW H) → Bool := fun _ ds => decide (uptoBulkAll ds ≤ 1048576)
def OpenSpec.upto (s : _root_.Go.ChangeSpec) : _root_.Go.OpenSpec := { _root_.Go.OpenSpec.ofChange s with cond := some uptoSmall }

/-- 'laws.FnExactPartWrite', WHERE WHAT IT READS IS OF BULK AT MOST 1048576: true; the input reads as it did. -/
def fnExactPartWriteUptoRow : OpenClaim := { program := "ytcpflkbbjlonbaa", sum := "9c45ac005ad9163179df70984e33946ab82e633eda3ebf1d79b8f8cf97172cc3", func := "loop.example/portolan/laws.FnExactPartWrite", spec := "fnExactPartWrite", inPlace := ["internal/abi.NoEscape", "internal/bytealg.MakeNoZero"], apart := false, narrowed := true }
def FnExactPartWriteUptoSaid : Prop := fnExactPartWriteUptoRow.holds Try.pinned (OpenSpec.upto fnExactPartWriteSpec)

/-- 'laws.FnExactPartField', WHERE WHAT IT READS IS OF BULK AT MOST 1048576: true; the input reads as it did. -/
def fnExactPartFieldUptoRow : OpenClaim := { program := "ytcpflkbbjlonbaa", sum := "9c45ac005ad9163179df70984e33946ab82e633eda3ebf1d79b8f8cf97172cc3", func := "loop.example/portolan/laws.FnExactPartField", spec := "fnExactPartField", inPlace := ["internal/abi.NoEscape", "internal/bytealg.MakeNoZero"], apart := false, narrowed := true }
def FnExactPartFieldUptoSaid : Prop := fnExactPartFieldUptoRow.holds Try.pinned (OpenSpec.upto fnExactPartFieldSpec)

/-- 'laws.FnExactPartBreaks', WHERE WHAT IT READS IS OF BULK AT MOST 1048576: true; the input reads as it did. -/
def fnExactPartBreaksUptoRow : OpenClaim := { program := "ytcpflkbbjlonbaa", sum := "9c45ac005ad9163179df70984e33946ab82e633eda3ebf1d79b8f8cf97172cc3", func := "loop.example/portolan/laws.FnExactPartBreaks", spec := "fnExactPartBreaks", inPlace := ["internal/abi.NoEscape", "internal/bytealg.MakeNoZero"], apart := false, narrowed := true }
def FnExactPartBreaksUptoSaid : Prop := fnExactPartBreaksUptoRow.holds Try.pinned (OpenSpec.upto fnExactPartBreaksSpec)

end Rows
end Go.Proofs.Ytcpflkbbjlonbaa
