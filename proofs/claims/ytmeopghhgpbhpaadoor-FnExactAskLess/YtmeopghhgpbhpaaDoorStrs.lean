/-
  Lists of texts in memory, and the contracts of the functions over them.
-/
import Derived.Test.YtmeopghhgpbhpaaDoorWords
import Derived.Deep.OwnRows
import Derived.Deep.QuietTactic
import Derived.BigQuiet
namespace Go.Proofs.YtmeopghhgpbhpaaDoor
set_option linter.unusedSimpArgs false
set_option linter.unusedVariables false
open Go.RowKit

/-- Text i of a list. -/
def nth (ns : List ByteArray) (i : Nat) : ByteArray := ns.getD i ByteArray.empty

/-- The slice that begins at 'a' holds the texts 'ns', in blocks of which P holds. -/
def Strs (w : World) (P : Nat → Prop) (ns : List ByteArray) (a : Option Addr) : Prop :=
  (ns ≠ [] → ∃ b off, a = some ⟨b, off, none⟩ ∧ P b ∧ ∀ i, i < ns.length → w.cell? ⟨b, off + i, none⟩ = some (.string (nth ns i))) ∧
  (∀ i, (nth ns i).size ≤ maxLen) ∧ ns.length ≤ maxLen

theorem Strs.mono {w w' : World} {P : Nat → Prop} {ns : List ByteArray} {a : Option Addr} (h : Strs w P ns a) (e : ∀ k, P k → w'.heap[k]? = w.heap[k]?) : Strs w' P ns a := by
  refine ⟨fun hn => ?_, h.2⟩
  obtain ⟨b, off, ha, hP, hc⟩ := h.1 hn
  exact ⟨b, off, ha, hP, fun i hi => (World.cell?_of_block (w := w) (a := ⟨b, off + i, none⟩) (e b hP)).trans (hc i hi)⟩
theorem Strs.sub {w : World} {P Q : Nat → Prop} {ns : List ByteArray} {a : Option Addr} (h : Strs w P ns a) (e : ∀ k, P k → Q k) : Strs w Q ns a := by
  refine ⟨fun hn => ?_, h.2⟩
  obtain ⟨b, off, ha, hP, hc⟩ := h.1 hn
  exact ⟨b, off, ha, e _ hP, hc⟩
theorem Strs.take {w : World} {P : Nat → Prop} {ns : List ByteArray} {a : Option Addr} (h : Strs w P ns a) (k : Nat) : Strs w P (ns.take k) a := by
  refine ⟨fun hn => ?_, fun i => ?_, by have := h.2.2; simp; omega⟩
  · obtain ⟨b, off, ha, hP, hc⟩ := h.1 (by intro e; simp [e] at hn)
    refine ⟨b, off, ha, hP, fun i hi => ?_⟩
    have hi' : i < k ∧ i < ns.length := by simp at hi; omega
    rw [hc i hi'.2]; simp [nth, List.getD_eq_getElem?_getD, List.getElem?_take, hi'.1]
  · have := h.2.1 i
    simp only [nth, List.getD_eq_getElem?_getD, List.getElem?_take] at this ⊢
    split
    · exact this
    · simp

/-- The bytes of the first texts of a list. -/
def sumTo (ns : List ByteArray) (n : Nat) : Nat := ((List.range n).map fun i => (nth ns i).size).sum
theorem sumTo_succ (ns : List ByteArray) (n : Nat) : sumTo ns (n + 1) = sumTo ns n + (nth ns n).size := by
  simp [sumTo, List.range_succ]
/-- What a list of texts weighs. -/
def szNs (ns : List ByteArray) : Nat := ns.length + sumTo ns ns.length

set_option maxHeartbeats 400000 in
theorem eqStringS_any (ns : List ByteArray) (a a' : Option Addr) (c c' : Nat) (w : World) (P P' : Nat → Prop) (hS : Strs w P ns a) (hS' : Strs w P' ns a') :
    Calls Tryd.prog 22 #[.slice a ns.length c, .slice a' ns.length c'] w fun e w' => e = .returned (.bool true) ∧ ∃ n, w' = w.drewN n := by
  obtain ⟨h1, h2, h3⟩ := hS
  obtain ⟨g1, -, -⟩ := hS'
  unfold maxLen at h3
  by_cases hn0 : ns.length = 0
  · have hns : ns = [] := by simpa using hn0
    subst hns
    go_enter Tryd.func22, Tryd.ntmps22
    go_wp2
    go_loop [5] (fun i => i = .int .i64 0) (fun _ => 0)
    case atStart => rfl
    case round =>
      subst hrel
      go_wp2
      go_ret
      exact ⟨rfl, 0, rfl⟩
  · obtain ⟨b, off, rfl, _, hc⟩ := h1 (by intro e; simp [e] at hn0)
    obtain ⟨b', off', rfl, _, hc'⟩ := g1 (by intro e; simp [e] at hn0)
    clear h1 h2 g1
    go_enter Tryd.func22, Tryd.ntmps22
    go_wp2
    go_loopw [5] (fun i wr => ∃ k m : Nat, k ≤ ns.length ∧ i = .int .i64 k ∧ wr = w.drewN m) (fun i _ => ns.length - (intOf i).toNat)
    case atStart => exact ⟨0, 0, Nat.zero_le _, rfl, rfl⟩
    case round =>
      obtain ⟨k, m, hk, rfl, rfl⟩ := hrel
      by_cases hlt : k < ns.length
      · have hck := hc k hlt
        have hck' := hc' k hlt
        clear hc hc'
        go_wp2
        go_quiet (fail)
        go_wp2
        go_roundw
        case rel => exact ⟨k + 1, _, by omega, by go_num, rfl⟩
        case measure => simp [intOf]; omega
      · go_wp2
        go_ret
        exact ⟨rfl, m, rfl⟩
end Go.Proofs.YtmeopghhgpbhpaaDoor
