/-
  Lists of texts in memory, and the contracts of the functions over them.
-/
import Derived.Test.YtgcfgadkclfonaaGreatDoorWords
import Derived.Deep.OwnRows
import Derived.Deep.QuietTactic
import Derived.BigQuiet
namespace Go.Proofs.YtgcfgadkclfonaaGreatDoor
set_option linter.unusedSimpArgs false
set_option linter.unusedVariables false
open Go.RowKit

/-- Text i of a list. -/
def nth (ns : List ByteArray) (i : Nat) : ByteArray := ns.getD i ByteArray.empty

/-- The slice that begins at 'a' holds the texts 'ns', in blocks of which P holds. -/
def Strs (w : World) (P : Nat → Prop) (ns : List ByteArray) (a : Option Addr) : Prop :=
  (ns ≠ [] → ∃ b off, a = some ⟨b, off, none⟩ ∧ P b ∧ ∀ i, i < ns.length → w.cell? ⟨b, off + i, none⟩ = some (.string (nth ns i))) ∧
  (∀ i, (nth ns i).size ≤ maxLen) ∧ ns.length ≤ maxLen

theorem Strs.mono {w w' : World} {P : Nat → Prop} {ns : List ByteArray} {a : Option Addr} (h : Strs w P ns a) (e : ∀ k, P k → w'.heap[k]? = w.heap[k]?) : Strs w' P ns a := by
  refine ⟨fun hn => ?_, h.2⟩
  obtain ⟨b, off, ha, hP, hc⟩ := h.1 hn
  exact ⟨b, off, ha, hP, fun i hi => (World.cell?_of_block (w := w) (a := ⟨b, off + i, none⟩) (e b hP)).trans (hc i hi)⟩
theorem Strs.sub {w : World} {P Q : Nat → Prop} {ns : List ByteArray} {a : Option Addr} (h : Strs w P ns a) (e : ∀ k, P k → Q k) : Strs w Q ns a := by
  refine ⟨fun hn => ?_, h.2⟩
  obtain ⟨b, off, ha, hP, hc⟩ := h.1 hn
  exact ⟨b, off, ha, e _ hP, hc⟩
theorem Strs.take {w : World} {P : Nat → Prop} {ns : List ByteArray} {a : Option Addr} (h : Strs w P ns a) (k : Nat) : Strs w P (ns.take k) a := by
  refine ⟨fun hn => ?_, fun i => ?_, by have := h.2.2; simp; omega⟩
  · obtain ⟨b, off, ha, hP, hc⟩ := h.1 (by intro e; simp [e] at hn)
    refine ⟨b, off, ha, hP, fun i hi => ?_⟩
    have hi' : i < k ∧ i < ns.length := by simp at hi; omega
    rw [hc i hi'.2]; simp [nth, List.getD_eq_getElem?_getD, List.getElem?_take, hi'.1]
  · have := h.2.1 i
    simp only [nth, List.getD_eq_getElem?_getD, List.getElem?_take] at this ⊢
    split
    · exact this
    · simp

/-- The bytes of the first texts of a list. -/
def sumTo (ns : List ByteArray) (n : Nat) : Nat := ((List.range n).map fun i => (nth ns i).size).sum
theorem sumTo_succ (ns : List ByteArray) (n : Nat) : sumTo ns (n + 1) = sumTo ns n + (nth ns n).size := by
  simp [sumTo, List.range_succ]
/-- What a list of texts weighs. -/
def szNs (ns : List ByteArray) : Nat := ns.length + sumTo ns ns.length

set_option maxHeartbeats 400000 in
theorem szStringS_any (ns : List ByteArray) (a : Option Addr) (c : Nat) (w : World) (P : Nat → Prop) (hS : Strs w P ns a) (left : Int) (hl0 : 0 ≤ left) (hl1 : left ≤ 1048576) :
    Calls Tryz.prog 126 #[.slice a ns.length c, .int .i64 left] w fun e w' => ∃ x : Int, e = .returned (.int .i64 x) ∧ -1 ≤ x ∧ x ≤ left ∧ (0 ≤ x → x + szNs ns ≤ left) ∧ w = w' := by
  obtain ⟨h1, h2, h3⟩ := hS
  unfold maxLen at h3 h2
  by_cases hbig : left < ns.length
  · go_enter Tryz.func126, Tryz.ntmps126
    go_wp2
    go_ret
    exact ⟨-1, rfl, by omega, by omega, by omega, rfl⟩
  by_cases hn0 : ns.length = 0
  · have hns : ns = [] := by simpa using hn0
    subst hns
    go_enter Tryz.func126, Tryz.ntmps126
    go_wp2
    go_loop [1, 5] (fun l i => i = .int .i64 0 ∧ l = .int .i64 left) (fun _ _ => 0)
    case atStart => exact ⟨rfl, rfl⟩
    case round =>
      obtain ⟨rfl, rfl⟩ := hrel
      go_wp2
      go_ret
      exact ⟨left, rfl, by omega, by omega, by simp [szNs, sumTo], rfl⟩
  · obtain ⟨b, off, rfl, _, hc⟩ := h1 (by intro e; simp [e] at hn0)
    clear h1
    go_enter Tryz.func126, Tryz.ntmps126
    go_wp2
    go_loop [1, 5] (fun l i => ∃ (k : Nat) (x : Int), k ≤ ns.length ∧ i = .int .i64 k ∧ l = .int .i64 x ∧ 0 ≤ x ∧ x ≤ left ∧ x + sumTo ns k + ns.length = left) (fun _ i => ns.length - (intOf i).toNat)
    case atStart => exact ⟨0, _, Nat.zero_le _, rfl, rfl, by omega, by omega, by simp [sumTo]⟩
    case round =>
      obtain ⟨k, x, hk, rfl, rfl, hx0, hx1, hx2⟩ := hrel
      have HX : Hid (x + sumTo ns k + ns.length = left) := hx2
      clear hx2
      by_cases hlt : k < ns.length
      · have hck := hc k hlt
        have h2k := h2 k
        clear hc h2
        by_cases hs : x < (nth ns k).size
        · go_wp2
          go_ret
          exact ⟨-1, rfl, by omega, by omega, by omega, rfl⟩
        · go_wp2
          go_round
          case rel => exact ⟨k + 1, _, by omega, by go_num, rfl, by omega, by omega, by have := HX.out; rw [sumTo_succ]; omega⟩
          case measure => simp [intOf]; omega
      · go_wp2
        go_ret
        have e : k = ns.length := by omega
        exact ⟨x, rfl, by omega, by omega, fun _ => by have := HX.out; rw [szNs]; rw [e] at this; omega, rfl⟩

set_option maxHeartbeats 400000 in
theorem eqStringS_any (ns : List ByteArray) (a a' : Option Addr) (c c' : Nat) (w : World) (P P' : Nat → Prop) (hS : Strs w P ns a) (hS' : Strs w P' ns a') :
    Calls Tryz.prog 23 #[.slice a ns.length c, .slice a' ns.length c'] w fun e w' => e = .returned (.bool true) ∧ ∃ n, w' = w.drewN n := by
  obtain ⟨h1, h2, h3⟩ := hS
  obtain ⟨g1, -, -⟩ := hS'
  unfold maxLen at h3
  by_cases hn0 : ns.length = 0
  · have hns : ns = [] := by simpa using hn0
    subst hns
    go_enter Tryz.func23, Tryz.ntmps23
    go_wp2
    go_loop [5] (fun i => i = .int .i64 0) (fun _ => 0)
    case atStart => rfl
    case round =>
      subst hrel
      go_wp2
      go_ret
      exact ⟨rfl, 0, rfl⟩
  · obtain ⟨b, off, rfl, _, hc⟩ := h1 (by intro e; simp [e] at hn0)
    obtain ⟨b', off', rfl, _, hc'⟩ := g1 (by intro e; simp [e] at hn0)
    clear h1 h2 g1
    go_enter Tryz.func23, Tryz.ntmps23
    go_wp2
    go_loopw [5] (fun i wr => ∃ k m : Nat, k ≤ ns.length ∧ i = .int .i64 k ∧ wr = w.drewN m) (fun i _ => ns.length - (intOf i).toNat)
    case atStart => exact ⟨0, 0, Nat.zero_le _, rfl, rfl⟩
    case round =>
      obtain ⟨k, m, hk, rfl, rfl⟩ := hrel
      by_cases hlt : k < ns.length
      · have hck := hc k hlt
        have hck' := hc' k hlt
        clear hc hc'
        go_wp2
        go_quiet (fail)
        go_wp2
        go_roundw
        case rel => exact ⟨k + 1, _, by omega, by go_num, rfl⟩
        case measure => simp [intOf]; omega
      · go_wp2
        go_ret
        exact ⟨rfl, m, rfl⟩
end Go.Proofs.YtgcfgadkclfonaaGreatDoor
