/-
  The program's copyTexts: a list of texts of the call's own, onto which can be appended.
-/
import Derived.Test.YtpgcjdaahgfhgaaDoorABase
import Derived.Deep.AppendLies
import Derived.Laws.AppendOwnNone
namespace Go.Proofs.YtpgcjdaahgfhgaaDoor
set_option linter.unusedSimpArgs false
set_option linter.unusedVariables false
open Go.RowKit

theorem nth_map (ns : List ByteArray) (j : Nat) (u : Value) (h : (ns.map Value.string)[j]? = some u) : j < ns.length ∧ u = .string (nth ns j) := by
  rw [List.getElem?_map] at h
  obtain ⟨b, hb, rfl⟩ := Option.map_eq_some_iff.1 h
  obtain ⟨hj, rfl⟩ := List.getElem?_eq_some_iff.1 hb
  exact ⟨hj, by simp [nth, List.getD_eq_getElem?_getD, hj]⟩

set_option maxHeartbeats 400000 in
theorem copyTexts_own (ns : List ByteArray) (a : Option Addr) (c : Nat) (w : World) (P : Nat → Prop) (hS : Strs w P ns a) (hb : 16 * ns.length ≤ 140737488355328) :
    Calls Tryd.prog 57 #[.slice a ns.length c] w fun e w' => ∃ v : Value, e = .returned v ∧ w'.ownsRow w.heap.size 9 1 v ns.length (ns.map Value.string) ∧ Below w.heap.size w w' := by
  obtain ⟨h1, h2, h3⟩ := hS
  obtain ⟨i0, hi, hz0, hz1, hz2⟩ := info_parts info9
  by_cases hn0 : ns.length = 0
  · have hns : ns = [] := by simpa using hn0
    subst hns
    cases a with
    | none =>
      go_enter Tryd.func57, Tryd.ntmps57
      go_wp2_with fail
      go_ret
      exact ⟨_, rfl, World.ownsRow_nil _ _ _ _, Below.refl _ _⟩
    | some ad =>
      go_enter Tryd.func57, Tryd.ntmps57
      go_wp2_with fail
      go_ret
      exact ⟨_, rfl, World.ownsRow_nil _ _ _ _, Below.refl _ _⟩
  · obtain ⟨b, off, rfl, _, hc⟩ := h1 (by intro e; simp [e] at hn0)
    clear h1
    go_enter Tryd.func57, Tryd.ntmps57
    go_wp2_with (at_builtin; refine wpList_append_lies _ rfl _ _ 58 rfl w.heap.size 9 i0 (.string ByteArray.empty) 1 16 Tryd.underlying58 hi hz0 hz1 hz2 rfl (by decide) (.slice none 0 0) 0 [] rfl (World.ownsRow_nil _ _ _ _) ⟨b, off, none⟩ ns.length c (ns.map Value.string) rfl (by simp) ?c1 ?c2 (by omega) ?c3 (by omega) (Nat.le_refl _) _ rfl ?_)
    case c1 =>
      intro j u hj
      obtain ⟨hj', rfl⟩ := nth_map ns j u hj
      rw [Addr.add_lit]
      exact hc j hj'
    case c2 =>
      intro u hu
      obtain ⟨s, -, rfl⟩ := List.mem_map.1 hu
      rfl
    case c3 => omega
    intro g cap w' hown hgrow hat hlt
    have HO := hid_of hown
    have HB := hid_of ((Below.refl w.heap.size w).grown hgrow (Nat.le_refl _) (fun k hk => by simp [Value.ownBlock] at hk))
    clear hown hgrow hat
    go_wp2_with fail
    go_ret
    exact ⟨_, rfl, by simpa using HO.out, HB.out⟩
end Go.Proofs.YtpgcjdaahgfhgaaDoor
