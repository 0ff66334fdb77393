/-
  What weigh calls: keyOfKids, add, and what a value weighs by itself (ownNulls, copyBytes); scalesOf.
-/
import Derived.Test.YtjlifamkfdmfcaaWKey
import Derived.Deep.RegionWith
import Derived.BigRegion
import Derived.Laws.EntriesVeiled
namespace Go.Proofs.Ytjlifamkfdmfcaa
set_option linter.unusedSimpArgs false
set_option linter.unusedVariables false
open Go.RowKit

set_option maxHeartbeats 400000 in
theorem keyOfKids_any (w : World) (b o n c : Nat) (hn : 0 < n) (h80 : 80 * n ≤ 281474976710656) :
    Calls Try.prog 58 #[.slice (some ⟨b, o, none⟩) n c] w fun e w' => e = .returned (pk b o n) ∧ Below w.heap.size w w' := by
  have hni : (0 : Int) < (n : Int) := by omega
  have hn0 : ¬ (n : Int) = 0 := by omega
  go_enter Try.func58, Try.ntmps58
  go_wp2_with fail
  refine bodyPost_ret (v := pk b o n) (by simp [results, Try.results58, go_sem, pk]) rfl ⟨rfl, ?_⟩
  exact below_box _ _

set_option maxHeartbeats 400000 in
theorem add_yes (w : World) (b o : Nat) (x more most : Int) (hc : w.cell? ⟨b, o + 2, none⟩ = some (.int .i64 x)) (hf : w.frozen? ⟨b, o + 2, none⟩ = false) (hx : 0 ≤ x) (hm : 0 ≤ more) (hs : x + more ≤ most) (hmost : most ≤ 9223372036854775807) :
    Calls Try.prog 59 #[.pointer (some ⟨b, o, none⟩), .int .i64 more, .int .i64 most] w fun e w' => e = .returned (.bool true) ∧ w' = w.setCell ⟨b, o + 2, none⟩ (.int .i64 (x + more)) := by
  have h1 : ¬ most - x < more := by omega
  go_enter Try.func59, Try.ntmps59
  go_wp2_with fail
  go_ret
  exact ⟨rfl, rfl⟩

def nullW (s : Int) : Int := if s = 1 then 1 else 0

set_option maxHeartbeats 400000 in
theorem ownNulls_any (w : World) (b o : Nat) (s : Int) (ka : Option Addr) (kl kc : Nat) (h0 : w.cell? ⟨b, o, none⟩ = some (.int .i64 s)) (h4 : w.cell? ⟨b, o + 4, none⟩ = some (.slice ka kl kc)) :
    Calls Try.prog 42 #[.pointer (some ⟨b, o, none⟩)] w fun e w' => e = .returned (.tuple #[.int .i64 (nullW s), .slice ka kl kc]) ∧ ∃ n, w' = w.drewN n := by
  by_cases hs : s = 1
  · have e1 : nullW s = 1 := by simp [nullW, hs]
    rw [e1]
    go_enter Try.func42, Try.ntmps42
    go_wp2_with fail
    go_quiet (fail)
    go_wp2_with fail
    go_ret2
    exact ⟨rfl, _, rfl⟩
  · have e1 : nullW s = 0 := by simp [nullW, hs]
    rw [e1]
    go_enter Try.func42, Try.ntmps42
    go_wp2_with fail
    go_quiet (fail)
    go_wp2_with fail
    go_ret2
    exact ⟨rfl, _, rfl⟩

set_option maxHeartbeats 400000 in
theorem copyBytes_any (w : World) (b o : Nat) (na ka : Option Addr) (nl nc kl kc : Nat) (h3 : w.cell? ⟨b, o + 3, none⟩ = some (.slice na nl nc)) (h4 : w.cell? ⟨b, o + 4, none⟩ = some (.slice ka kl kc)) (hn : 16 * nl ≤ 281474976710656) :
    Calls Try.prog 49 #[.pointer (some ⟨b, o, none⟩)] w fun e w' => e = .returned (.tuple #[.int .i64 (80 + 16 * nl), .slice ka kl kc]) ∧ ∃ n, w' = w.drewN n := by
  go_enter Try.func49, Try.ntmps49
  go_wp2_with fail
  go_quiet (fail)
  go_wp2_with fail
  go_ret2
  exact ⟨rfl, _, rfl⟩

/-- The four cells of scales: what each weighs, rings, the most, what is known. -/
def scalesV (F : Nat) (ring most : Int) (m : Nat) : Value := .agg #[.func (.func F) #[] #[], .int .i64 ring, .int .i64 most, .map (some m)]

set_option maxHeartbeats 400000 in
theorem scalesOf_any (w : World) (F : Nat) (ring most : Int) :
    Calls Try.prog 41 #[.agg #[.func (.func F) #[] #[], .int .i64 ring, .int .i64 most]] w fun e w' => ∃ m, e = .returned (scalesV F ring most m) ∧ w.heap.size ≤ m ∧ m < w'.heap.size ∧ OwnsK w' (fun _ => False) m (fun _ => none) ∧ Below w.heap.size w w' := by
  have hmm := @run_makeMap Try.prog
  go_enter Try.func41, Try.ntmps41
  go_wp2_with fail
  refine bodyPost_ret (v := scalesV F ring most (w.heap.size + 1 + 1)) (by simp [results, Try.results41, go_sem, scalesV]) rfl ⟨_, rfl, by omega, by simp [World.setCell], ?_, ?_⟩
  · have h := OwnsK.made ((w.alloc (.cells #[.func (.func F) #[] #[], .int .i64 ring, .int .i64 most] 89)).alloc (.cells #[.func (.func F) #[] #[], .int .i64 ring, .int .i64 most, .map (some (w.heap.size + 1 + 1))] 92)) (fun _ => False)
    simp only [World.size_alloc] at h
    exact h
  · exact ((((Below.refl w.heap.size w).alloc (Nat.le_refl _) _).alloc (by simp) _).alloc (by simp; omega) _)
end Go.Proofs.Ytjlifamkfdmfcaa
