/-
  The program's own copies: copyTexts.
-/
import Derived.Test.YtjlifamkfdmfcaaFive
import Derived.Test.YtjlifamkfdmfcaaEq
import Derived.Deep.AppendLies
import Derived.Laws.AppendOwnNone
namespace Go.Proofs.Ytjlifamkfdmfcaa
set_option linter.unusedSimpArgs false
set_option linter.unusedVariables false
open Go.RowKit

theorem below_grown {B : Nat} {a w w' : World} (h : Below B a w) (hg : w.grownBy w' none) (hB : B ≤ w.heap.size) : Below B a w' :=
  h.trans ⟨hg.os, hg.tape, hg.output, hg.size, fun k hk => hg.block k (by omega) (by simp)⟩
theorem nth_map (ns : List ByteArray) (j : Nat) (u : Value) (h : (ns.map Value.string)[j]? = some u) : j < ns.length ∧ u = .string (nth ns j) := by
  rw [List.getElem?_map] at h
  obtain ⟨b, hb, rfl⟩ := Option.map_eq_some_iff.1 h
  obtain ⟨hj, rfl⟩ := List.getElem?_eq_some_iff.1 hb
  exact ⟨hj, by simp [nth, List.getD_eq_getElem?_getD, hj]⟩
theorem strs_owned {w : World} {base : Nat} {ns : List ByteArray} {g cap : Nat} (h : w.ownsRow base 9 1 (.slice (some ⟨g, 0, none⟩) ns.length cap) ns.length (ns.map Value.string)) (h2 : ∀ i, (nth ns i).size ≤ maxLen) (h3 : ns.length ≤ maxLen) (hlt : g < w.heap.size) :
    Strs w (fun b => base ≤ b ∧ b < w.heap.size) ns (some ⟨g, 0, none⟩) ∧ ns.length ≤ cap := by
  have hb : base ≤ g ∧ ns.length ≤ cap := by
    rcases h.2 with ⟨h', _⟩ | ⟨g', cap', cur, h', hb, _, hn, _⟩
    · simp at h'
    · simp only [Value.slice.injEq, Option.some.injEq, Addr.mk.injEq, and_true, true_and] at h'
      obtain ⟨rfl, rfl⟩ := h'
      exact ⟨hb, hn⟩
  refine ⟨⟨fun _ => ⟨g, 0, rfl, ⟨hb.1, hlt⟩, fun i hi => ?_⟩, h2, h3⟩, hb.2⟩
  have := h.cellAt i (by omega)
  rw [Nat.zero_add, this, List.getElem?_map]
  simp [nth, List.getD_eq_getElem?_getD, hi]

set_option maxHeartbeats 400000 in
theorem copyTexts_any (ns : List ByteArray) (a : Option Addr) (c : Nat) (w : World) (P : Nat → Prop) (hS : Strs w P ns a) (hb : 16 * ns.length ≤ 140737488355328) :
    Calls Try.prog 64 #[.slice a ns.length c] w fun e w' => ∃ (a' : Option Addr) (c' : Nat), e = .returned (.slice a' ns.length c') ∧ ns.length ≤ c' ∧ Below w.heap.size w w' ∧ Strs w' (fun b => w.heap.size ≤ b ∧ b < w'.heap.size) ns a' ∧ ∀ b o, a' = some ⟨b, o, none⟩ → (w.heap.size ≤ b ∧ b < w'.heap.size) ∧ ∀ i, w'.frozen? ⟨b, i, none⟩ = false := by
  obtain ⟨h1, h2, h3⟩ := hS
  obtain ⟨i0, hi, hz0, hz1, hz2⟩ := info_parts info9
  by_cases hn0 : ns.length = 0
  · have hns : ns = [] := by simpa using hn0
    subst hns
    cases a with
    | none =>
      go_enter Try.func64, Try.ntmps64
      go_wp2_with fail
      go_ret
      exact ⟨none, 0, rfl, by simp, Below.refl _ _, ⟨fun h => absurd rfl h, h2, h3⟩, fun b o h => by cases h⟩
    | some ad =>
      go_enter Try.func64, Try.ntmps64
      go_wp2_with fail
      go_ret
      exact ⟨none, 0, rfl, by simp, Below.refl _ _, ⟨fun h => absurd rfl h, h2, h3⟩, fun b o h => by cases h⟩
  · obtain ⟨b, off, rfl, _, hc⟩ := h1 (by intro e; simp [e] at hn0)
    clear h1
    go_enter Try.func64, Try.ntmps64
    go_wp2_with (at_builtin; refine wpList_append_lies _ rfl _ _ 24 rfl w.heap.size 9 i0 (.string ByteArray.empty) 1 16 Try.underlying24 hi hz0 hz1 hz2 rfl (by decide) (.slice none 0 0) 0 [] rfl (World.ownsRow_nil _ _ _ _) ⟨b, off, none⟩ ns.length c (ns.map Value.string) rfl (by simp) ?c1 ?c2 (by omega) ?c3 (by omega) (Nat.le_refl _) _ rfl ?_)
    case c1 =>
      intro j u hj
      obtain ⟨hj', rfl⟩ := nth_map ns j u hj
      rw [Addr.add_lit]
      exact hc j hj'
    case c2 => intro u hu; simp at hu; obtain ⟨x, -, rfl⟩ := hu; rfl
    case c3 => omega
    intro g cap w1 hown hgrow hat hlt
    go_wp2_with fail
    go_ret
    have hS := strs_owned (base := w.heap.size) (by simpa using hown) h2 h3 hlt
    exact ⟨_, cap, by simp, hS.2, below_grown (Below.refl _ _) hgrow (Nat.le_refl _), hS.1, fun b o h => by cases h; exact ⟨hown.lt g rfl, fun i => hown.frozenAt i⟩⟩
end Go.Proofs.Ytjlifamkfdmfcaa
