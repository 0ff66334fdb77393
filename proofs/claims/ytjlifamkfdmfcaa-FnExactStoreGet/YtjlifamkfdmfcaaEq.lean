/-
  eqValue: of two that hold one value it is true.
-/
import Derived.Test.YtjlifamkfdmfcaaCopy2
import Derived.BigRegion
import Derived.Deep.RegionWith
import Derived.Deep.RegionHeld3
namespace Go.Proofs.Ytjlifamkfdmfcaa
set_option linter.unusedSimpArgs false
set_option linter.unusedVariables false
open Go.RowKit

def EqOk (x : V) : Prop := ∀ (w : World) (B : Nat) (v v' : Value), Rep w (· < B) x v → Rep w (· < B) x v' → B ≤ w.heap.size →
  Calls Try.prog 9 #[v, v'] w fun e w' => e = .returned (.bool true) ∧ Below w.heap.size w w'

set_option maxHeartbeats 400000 in
theorem eqValueS_any (ks : List V) (IH : ∀ i, i < ks.length → EqOk (kth ks i)) (w : World) (B : Nat) (a a' : Option Addr) (c c' : Nat) (hK : Kids w (· < B) ks a) (hK' : Kids w (· < B) ks a') (hB : B ≤ w.heap.size) :
    Calls Try.prog 28 #[.slice a ks.length c, .slice a' ks.length c'] w fun e w' => e = .returned (.bool true) ∧ Below w.heap.size w w' := by
  obtain ⟨h3, b, off, C, hka, hc, hr⟩ := hK
  obtain ⟨-, b', off', C', hka', hc', hr'⟩ := hK'
  by_cases hn0 : ks.length = 0
  · have hns : ks = [] := by simpa using hn0
    subst hns
    go_enter Try.func28, Try.ntmps28
    go_wp2_with fail
    go_loop [5] (fun i => i = .int .i64 0) (fun _ => 0)
    case atStart => rfl
    case round =>
      subst hrel
      go_wp2_with fail
      go_ret
      exact ⟨rfl, Below.refl _ _⟩
  · obtain ⟨rfl, hbB⟩ := hka (by intro e; simp [e] at hn0)
    obtain ⟨rfl, hbB'⟩ := hka' (by intro e; simp [e] at hn0)
    clear hka hka'
    go_enter Try.func28, Try.ntmps28
    go_wp2_with fail
    go_loopw [5] (fun i wr => ∃ k : Nat, k ≤ ks.length ∧ i = .int .i64 k ∧ Below w.heap.size w wr) (fun i _ => ks.length - (intOf i).toNat)
    case atStart => exact ⟨0, Nat.zero_le _, rfl, Below.refl _ _⟩
    case round =>
      obtain ⟨k, hk, rfl, hbel⟩ := hrel
      by_cases hlt : k < ks.length
      · have hck : ∀ j, j < 5 → wr.cell? ⟨b, off + k * 5 + j, none⟩ = some (C k j) := fun j hj => (hbel.cell (p := ⟨b, off + k * 5 + j, none⟩) (by show b < _; omega)).trans (hc k hlt j hj)
        have hc0 : wr.cell? ⟨b, off + k * 5, none⟩ = some (C k 0) := hck 0 (by omega)
        have hc1 := hck 1 (by omega)
        have hc2 := hck 2 (by omega)
        have hc3 := hck 3 (by omega)
        have hc4 := hck 4 (by omega)
        have hdk : ∀ j, j < 5 → wr.cell? ⟨b', off' + k * 5 + j, none⟩ = some (C' k j) := fun j hj => (hbel.cell (p := ⟨b', off' + k * 5 + j, none⟩) (by show b' < _; omega)).trans (hc' k hlt j hj)
        have hd0 : wr.cell? ⟨b', off' + k * 5, none⟩ = some (C' k 0) := hdk 0 (by omega)
        have hd1 := hdk 1 (by omega)
        have hd2 := hdk 2 (by omega)
        have hd3 := hdk 3 (by omega)
        have hd4 := hdk 4 (by omega)
        clear hck hc hdk hc'
        go_wp2_with fail
        go_region_with (go_at_call 9; refine (IH k hlt _ B _ _ ((hr k hlt).under ((hbel.drew).mono hB)) ((hr' k hlt).under ((hbel.drew).mono hB)) (by have := hbel.size; simp; omega)).mono ?_; rintro e w1 ⟨rfl, hby⟩)
        all_goals
          go_wp2_with fail
          go_roundw
          case rel => exact ⟨k + 1, by omega, by go_num, hbel.drew.trans (hby.mono (by have := hbel.size; simpa using this))⟩
          case measure => simp [intOf]; omega
      · go_wp2_with fail
        go_ret
        exact ⟨rfl, hbel⟩

set_option maxHeartbeats 400000 in
theorem eqValue_step (s n : Int) (t : ByteArray) (ns : List ByteArray) (ks : List V) (IH : ∀ i, i < ks.length → EqOk (kth ks i)) : EqOk (.mk s n t ns ks) := by
  intro w B v v' hR hR' hB
  obtain ⟨na, ka, nc, kc, rfl, hs, hns, ht, hbs, hK⟩ := hR.inv
  obtain ⟨na', ka', nc', kc', rfl, hs', hns', -, -, hK'⟩ := hR'.inv
  clear hR hR'
  have hb2 : ∀ o1 o2, Below w.heap.size w ((w.alloc o1).alloc o2) := fun o1 o2 => ((Below.refl _ _).alloc (Nat.le_refl _) _).alloc (by simp) _
  go_enter Try.func9, Try.ntmps9
  go_wp2_with (first
    | (
      go_at_call 27
      refine (eqStringS_any ns na na' nc nc' _ (· < B) (· < B) (hs.under ((hb2 _ _).mono hB)) (hs'.under ((hb2 _ _).mono hB))).mono ?_
      rintro e w' ⟨rfl, m, rfl⟩)
    | (
      go_at_call 28
      refine (eqValueS_any ks IH _ B ka ka' kc kc' (hK.under ((below_drews (hb2 _ _) m).mono hB)) (hK'.under ((below_drews (hb2 _ _) m).mono hB)) (by simp; omega)).mono ?_
      rintro e w' ⟨rfl, hb⟩))
  go_ret
  exact ⟨rfl, (below_drews (hb2 _ _) m).trans (hb.mono (by simp; omega))⟩

theorem eq_all (m : Nat) : ∀ x : V, SizeOf.sizeOf x < m → EqOk x := by
  induction m with
  | zero => intro x h; omega
  | succ m ih =>
    intro x h
    match x, h with
    | .mk s n t ns ks, h => exact eqValue_step s n t ns ks fun i hi => ih _ (by have := kth_lt ks i hi; simp at h; omega)
theorem eqValue_any (x : V) : EqOk x := eq_all _ x (Nat.lt_succ_self _)
end Go.Proofs.Ytjlifamkfdmfcaa
