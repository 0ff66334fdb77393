/-
  NARROWER THAN 'FOR EVERY INPUT', by the rows' own cells (each row's printed sentence says how): FnExactRouteDepth: loops · FnExactRouteParts: loops · FnExactSailReady: loops.
  DERIVED. THE GIVEN ROWS OF THIS SEAT. 3 by the template 'for every input the law returns true; each argument reads behind the call as it read before'; 0 by the template 'total and deterministic' (their statements: YtahelconmfldjaaTotals.lean).
  GIVEN WITH THE SEED: the statements are not yours to turn. If you find one false, say at which input.
  Laid BY PROGRAM, IN A SANDBOX (cutbox-rows.mjs): the forced cells as the released guide's own fill.sh prints them over the translation 0c2088132a5f95de… (all of the seat's roots in one cut). By AI agents, Wed Nov 11 2026. No macro, syntax, notation, axiom, sorry.
-/
import Derived.Test.YtahelconmfldjaaChecked
import GoSem.Claim
import GoSem.ClaimJoined
import GoSem.ClaimMapViews
import Derived.JoinedTies
import Derived.KernelRfl
namespace Go.Proofs.Ytahelconmfldjaa
/- THE CELL 'sum', in the pinned program and in every row, IS THE sha256 OF THE DUMP (.gsa) THAT YtahelconmfldjaaProg.lean LOADS. Nothing in Lean hashes anything: it is a label: what it is worth is what the hold of that sum in a sandbox is worth. -/
noncomputable def Try.pinned : Pinned := { name := "ytahelconmfldjaa", sum := "0c2088132a5f95de3aa7ece6e2e237975d20875ef1b750ffca57d3c109257123", checked := Try.checked }
namespace Rows
def none {H : Type} : Left H := { results := [], args := [] }

/-- 'laws.FnExactRouteDepth': WHATEVER THE INPUT: true; the input reads as it did. -/
def fnExactRouteDepthSpec : ChangeSpec := { name := "fnExactRouteDepth", fn := fun _ => fun
  | [d] => { results := [.lit (.bool true)], args := [d] }
  | _ => none }
def fnExactRouteDepthRow : OpenClaim := { program := "ytahelconmfldjaa", sum := "0c2088132a5f95de3aa7ece6e2e237975d20875ef1b750ffca57d3c109257123", func := "loop.example/portolan/laws.FnExactRouteDepth", spec := "fnExactRouteDepth", unfollowed := true, recurses := true, loops := true, apart := false }
def FnExactRouteDepthSaid : Prop := fnExactRouteDepthRow.holds Try.pinned (OpenSpec.ofChange fnExactRouteDepthSpec)

/-- ITS FALSE NEIGHBOUR: 'it returns false'. Refute it at one input. -/
def fnExactRouteDepthWrong : ChangeSpec := { name := "fnExactRouteDepth", fn := fun _ => fun
  | [d] => { results := [.lit (.bool false)], args := [d] }
  | _ => none }
def FnExactRouteDepthWrongFalsely : Prop := fnExactRouteDepthRow.holds Try.pinned (OpenSpec.ofChange fnExactRouteDepthWrong)

/-- 'laws.FnExactRouteParts': WHATEVER THE INPUT: true; the input reads as it did. -/
def fnExactRoutePartsSpec : ChangeSpec := { name := "fnExactRouteParts", fn := fun _ => fun
  | [d] => { results := [.lit (.bool true)], args := [d] }
  | _ => none }
def fnExactRoutePartsRow : OpenClaim := { program := "ytahelconmfldjaa", sum := "0c2088132a5f95de3aa7ece6e2e237975d20875ef1b750ffca57d3c109257123", func := "loop.example/portolan/laws.FnExactRouteParts", spec := "fnExactRouteParts", unfollowed := true, recurses := true, loops := true, apart := false }
def FnExactRoutePartsSaid : Prop := fnExactRoutePartsRow.holds Try.pinned (OpenSpec.ofChange fnExactRoutePartsSpec)

/-- ITS FALSE NEIGHBOUR: 'it returns false'. Refute it at one input. -/
def fnExactRoutePartsWrong : ChangeSpec := { name := "fnExactRouteParts", fn := fun _ => fun
  | [d] => { results := [.lit (.bool false)], args := [d] }
  | _ => none }
def FnExactRoutePartsWrongFalsely : Prop := fnExactRoutePartsRow.holds Try.pinned (OpenSpec.ofChange fnExactRoutePartsWrong)

/-- 'laws.FnExactSailReady': WHATEVER THE INPUT: true; the input reads as it did. -/
def fnExactSailReadySpec : ChangeSpec := { name := "fnExactSailReady", fn := fun _ => fun
  | [d1, d2] => { results := [.lit (.bool true)], args := [d1, d2] }
  | _ => none }
def fnExactSailReadyRow : OpenClaim := { program := "ytahelconmfldjaa", sum := "0c2088132a5f95de3aa7ece6e2e237975d20875ef1b750ffca57d3c109257123", func := "loop.example/portolan/laws.FnExactSailReady", spec := "fnExactSailReady", unfollowed := true, recurses := true, loops := true, apart := false }
def FnExactSailReadySaid : Prop := fnExactSailReadyRow.holds Try.pinned (OpenSpec.ofChange fnExactSailReadySpec)

/-- ITS FALSE NEIGHBOUR: 'it returns false'. Refute it at one input. -/
def fnExactSailReadyWrong : ChangeSpec := { name := "fnExactSailReady", fn := fun _ => fun
  | [d1, d2] => { results := [.lit (.bool false)], args := [d1, d2] }
  | _ => none }
def FnExactSailReadyWrongFalsely : Prop := fnExactSailReadyRow.holds Try.pinned (OpenSpec.ofChange fnExactSailReadyWrong)

/- THE SECOND FORM. 'bulk': how many values and letters a reading holds, each counted each time it is reached (what is shared counts as often as it is met; a slice's spare places count too). A statement '..UptoSaid' is the law's where the arguments, and the package variables that the reading takes, are together of bulk at most 1048576: NARROWER than '..Said'. Prove '..Said' where nothing that the law and all that it calls make is longer than what came in: it says more and counts as full. Else prove '..UptoSaid'. A law counts once. -/
mutual
def uptoBulk {H : Type} : DataW H → Nat
  | .lit (.string bytes) => bytes.length + 1
  | .lit _ => 1
  | .nil => 1
  | .ptr d => uptoBulk d + 1
  | .slice elems spare => uptoBulkAll elems + uptoBulkAll spare + 1
  | .agg parts => uptoBulkAll parts + 1
  | .iface _ d => uptoBulk d + 1
  | .map entries => uptoBulkEntries entries + 1
  | .held _ => 1
def uptoBulkAll {H : Type} : List (DataW H) → Nat
  | [] => 0
  | d :: r => uptoBulk d + uptoBulkAll r
def uptoBulkEntries {H : Type} : List (Lit × DataW H) → Nat
  | [] => 0
  | x :: r => uptoBulkEntry x + uptoBulkEntries r
def uptoBulkEntry {H : Type} : Lit × DataW H → Nat
  | (.string bytes, d) => bytes.length + uptoBulk d + 1
  | (_, d) => uptoBulk d + 1
 end
def uptoSmall : (H : Type) → List (DataW H) → Bool := fun _ ds => decide (uptoBulkAll ds ≤ 1048576)
def OpenSpec.upto (s : _root_.Go.ChangeSpec) : _root_.Go.OpenSpec := { _root_.Go.OpenSpec.ofChange s with cond := some uptoSmall }

/-- 'laws.FnExactRouteDepth', WHERE WHAT IT READS IS OF BULK AT MOST 1048576: true; the input reads as it did. -/
def fnExactRouteDepthUptoRow : OpenClaim := { program := "ytahelconmfldjaa", sum := "0c2088132a5f95de3aa7ece6e2e237975d20875ef1b750ffca57d3c109257123", func := "loop.example/portolan/laws.FnExactRouteDepth", spec := "fnExactRouteDepth", unfollowed := true, recurses := true, loops := true, apart := false, narrowed := true }
def FnExactRouteDepthUptoSaid : Prop := fnExactRouteDepthUptoRow.holds Try.pinned (OpenSpec.upto fnExactRouteDepthSpec)

/-- 'laws.FnExactRouteParts', WHERE WHAT IT READS IS OF BULK AT MOST 1048576: true; the input reads as it did. -/
def fnExactRoutePartsUptoRow : OpenClaim := { program := "ytahelconmfldjaa", sum := "0c2088132a5f95de3aa7ece6e2e237975d20875ef1b750ffca57d3c109257123", func := "loop.example/portolan/laws.FnExactRouteParts", spec := "fnExactRouteParts", unfollowed := true, recurses := true, loops := true, apart := false, narrowed := true }
def FnExactRoutePartsUptoSaid : Prop := fnExactRoutePartsUptoRow.holds Try.pinned (OpenSpec.upto fnExactRoutePartsSpec)

/-- 'laws.FnExactSailReady', WHERE WHAT IT READS IS OF BULK AT MOST 1048576: true; the input reads as it did. -/
def fnExactSailReadyUptoRow : OpenClaim := { program := "ytahelconmfldjaa", sum := "0c2088132a5f95de3aa7ece6e2e237975d20875ef1b750ffca57d3c109257123", func := "loop.example/portolan/laws.FnExactSailReady", spec := "fnExactSailReady", unfollowed := true, recurses := true, loops := true, apart := false, narrowed := true }
def FnExactSailReadyUptoSaid : Prop := fnExactSailReadyUptoRow.holds Try.pinned (OpenSpec.upto fnExactSailReadySpec)

end Rows
end Go.Proofs.Ytahelconmfldjaa
