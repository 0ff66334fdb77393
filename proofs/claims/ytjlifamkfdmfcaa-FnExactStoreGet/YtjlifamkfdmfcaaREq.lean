/-
  eqCell, eqRow and their lists: of two that hold one thing they are true.
-/
import Derived.Test.YtjlifamkfdmfcaaRCopy
import Derived.BigRegion
import Derived.Deep.RegionWith
namespace Go.Proofs.Ytjlifamkfdmfcaa
set_option linter.unusedSimpArgs false
set_option linter.unusedVariables false
open Go.RowKit

set_option maxHeartbeats 800000 in
theorem eqCell_any (c : Ce) (w : World) (B : Nat) (v v' : Value) (hR : CeRep w (· < B) c v) (hR' : CeRep w (· < B) c v') (hB : B ≤ w.heap.size) :
    Calls Try.prog 65 #[v, v'] w fun e w' => e = .returned (.bool true) ∧ Below w.heap.size w w' := by
  obtain ⟨c1, c2, c3, c4, c5, rfl, hV, -⟩ := hR
  obtain ⟨d1, d2, d3, d4, d5, rfl, hV', -⟩ := hR'
  go_enter Try.func65, Try.ntmps65
  go_wp2_with (
      go_at_call 9
      refine (eqValue_any c.val _ B _ _ (hV.under ((below_box2 w _ _).mono hB)) (hV'.under ((below_box2 w _ _).mono hB)) (by simp; omega)).mono ?_
      rintro e w' ⟨rfl, hb⟩)
  go_ret
  exact ⟨rfl, (below_box2 w _ _).trans (hb.mono (by simp; omega))⟩

set_option maxHeartbeats 1600000 in
theorem eqCellS_any (xs : List Ce) (w : World) (B : Nat) (a a' : Option Addr) (c c' : Nat) (hK : CeReps w (· < B) xs a) (hK' : CeReps w (· < B) xs a') (hB : B ≤ w.heap.size) :
    Calls Try.prog 51 #[.slice a xs.length c, .slice a' xs.length c'] w fun e w' => e = .returned (.bool true) ∧ Below w.heap.size w w' := by
  have h3 := hK.1
  obtain ⟨-, C, hA, hr⟩ := hK
  obtain ⟨-, C', hA', hr'⟩ := hK'
  go_enter Try.func51, Try.ntmps51
  go_wp2_with fail
  go_loopw [5] (fun i wr => ∃ k : Nat, k ≤ xs.length ∧ i = .int .i64 k ∧ Below w.heap.size w wr) (fun i _ => xs.length - (intOf i).toNat)
  case atStart => exact ⟨0, Nat.zero_le _, rfl, Below.refl _ _⟩
  case round =>
    obtain ⟨k, hk, rfl, hbel⟩ := hrel
    by_cases hlt : k < xs.length
    · obtain ⟨b, off, rfl, hbB, hc⟩ := hA (by omega)
      obtain ⟨b', off', rfl, hbB', hd⟩ := hA' (by omega)
      clear hA hA'
      have hck : ∀ j, j < 6 → wr.cell? ⟨b, off + k * 6 + j, none⟩ = some (C k j) := fun j hj => (hbel.cell (p := ⟨b, off + k * 6 + j, none⟩) (by show b < _; omega)).trans (hc k hlt j hj)
      have hc0 : wr.cell? ⟨b, off + k * 6, none⟩ = some (C k 0) := hck 0 (by omega)
      have hc1 : wr.cell? ⟨b, off + k * 6 + 1, none⟩ = some (C k 1) := hck 1 (by omega)
      have hc2 : wr.cell? ⟨b, off + k * 6 + 2, none⟩ = some (C k 2) := hck 2 (by omega)
      have hc3 : wr.cell? ⟨b, off + k * 6 + 3, none⟩ = some (C k 3) := hck 3 (by omega)
      have hc4 : wr.cell? ⟨b, off + k * 6 + 4, none⟩ = some (C k 4) := hck 4 (by omega)
      have hc5 : wr.cell? ⟨b, off + k * 6 + 5, none⟩ = some (C k 5) := hck 5 (by omega)
      clear hck hc
      have hdk : ∀ j, j < 6 → wr.cell? ⟨b', off' + k * 6 + j, none⟩ = some (C' k j) := fun j hj => (hbel.cell (p := ⟨b', off' + k * 6 + j, none⟩) (by show b' < _; omega)).trans (hd k hlt j hj)
      have hd0 : wr.cell? ⟨b', off' + k * 6, none⟩ = some (C' k 0) := hdk 0 (by omega)
      have hd1 : wr.cell? ⟨b', off' + k * 6 + 1, none⟩ = some (C' k 1) := hdk 1 (by omega)
      have hd2 : wr.cell? ⟨b', off' + k * 6 + 2, none⟩ = some (C' k 2) := hdk 2 (by omega)
      have hd3 : wr.cell? ⟨b', off' + k * 6 + 3, none⟩ = some (C' k 3) := hdk 3 (by omega)
      have hd4 : wr.cell? ⟨b', off' + k * 6 + 4, none⟩ = some (C' k 4) := hdk 4 (by omega)
      have hd5 : wr.cell? ⟨b', off' + k * 6 + 5, none⟩ = some (C' k 5) := hdk 5 (by omega)
      clear hdk hd
      go_wp2_with fail
      go_region_with (go_at_call 65; refine (eqCell_any (cth xs k) _ B _ _ ((hr k hlt).under ((hbel.drew).mono hB)) ((hr' k hlt).under ((hbel.drew).mono hB)) (by have := hbel.size; simp; omega)).mono ?_; rintro e w1 ⟨rfl, hby⟩)
      all_goals
        go_wp2_with fail
        go_roundw
        case rel => exact ⟨k + 1, by omega, by go_num, hbel.drew.trans (hby.mono (by have := hbel.size; simpa using this))⟩
        case measure => simp [intOf]; omega
    · go_wp2_with fail
      go_ret
      exact ⟨rfl, hbel⟩

set_option maxHeartbeats 800000 in
theorem eqRow_any (t : Ro) (w : World) (B : Nat) (v v' : Value) (hR : RoRep w (· < B) t v) (hR' : RoRep w (· < B) t v') (hB : B ≤ w.heap.size) :
    Calls Try.prog 29 #[v, v'] w fun e w' => e = .returned (.bool true) ∧ Below w.heap.size w w' := by
  obtain ⟨na, nc, rfl, hs, -⟩ := hR
  obtain ⟨na', nc', rfl, hs', -⟩ := hR'
  obtain ⟨type, id, cells⟩ := t
  simp only at hs hs'
  go_enter Try.func29, Try.ntmps29
  go_wp2_with (
      go_at_call 51
      refine (eqCellS_any cells _ B na na' nc nc' (hs.under ((below_box2 w _ _).mono hB)) (hs'.under ((below_box2 w _ _).mono hB)) (by simp; omega)).mono ?_
      rintro e w' ⟨rfl, hb⟩)
  go_ret
  exact ⟨rfl, (below_box2 w _ _).trans (hb.mono (by simp; omega))⟩

set_option maxHeartbeats 1600000 in
theorem eqRowS_any (xs : List Ro) (w : World) (B : Nat) (a a' : Option Addr) (c c' : Nat) (hK : RoReps w (· < B) xs a) (hK' : RoReps w (· < B) xs a') (hB : B ≤ w.heap.size) :
    Calls Try.prog 10 #[.slice a xs.length c, .slice a' xs.length c'] w fun e w' => e = .returned (.bool true) ∧ Below w.heap.size w w' := by
  have h3 := hK.1
  obtain ⟨-, C, hA, hr⟩ := hK
  obtain ⟨-, C', hA', hr'⟩ := hK'
  go_enter Try.func10, Try.ntmps10
  go_wp2_with fail
  go_loopw [5] (fun i wr => ∃ k : Nat, k ≤ xs.length ∧ i = .int .i64 k ∧ Below w.heap.size w wr) (fun i _ => xs.length - (intOf i).toNat)
  case atStart => exact ⟨0, Nat.zero_le _, rfl, Below.refl _ _⟩
  case round =>
    obtain ⟨k, hk, rfl, hbel⟩ := hrel
    by_cases hlt : k < xs.length
    · obtain ⟨b, off, rfl, hbB, hc⟩ := hA (by omega)
      obtain ⟨b', off', rfl, hbB', hd⟩ := hA' (by omega)
      clear hA hA'
      have hck : ∀ j, j < 3 → wr.cell? ⟨b, off + k * 3 + j, none⟩ = some (C k j) := fun j hj => (hbel.cell (p := ⟨b, off + k * 3 + j, none⟩) (by show b < _; omega)).trans (hc k hlt j hj)
      have hc0 : wr.cell? ⟨b, off + k * 3, none⟩ = some (C k 0) := hck 0 (by omega)
      have hc1 : wr.cell? ⟨b, off + k * 3 + 1, none⟩ = some (C k 1) := hck 1 (by omega)
      have hc2 : wr.cell? ⟨b, off + k * 3 + 2, none⟩ = some (C k 2) := hck 2 (by omega)
      clear hck hc
      have hdk : ∀ j, j < 3 → wr.cell? ⟨b', off' + k * 3 + j, none⟩ = some (C' k j) := fun j hj => (hbel.cell (p := ⟨b', off' + k * 3 + j, none⟩) (by show b' < _; omega)).trans (hd k hlt j hj)
      have hd0 : wr.cell? ⟨b', off' + k * 3, none⟩ = some (C' k 0) := hdk 0 (by omega)
      have hd1 : wr.cell? ⟨b', off' + k * 3 + 1, none⟩ = some (C' k 1) := hdk 1 (by omega)
      have hd2 : wr.cell? ⟨b', off' + k * 3 + 2, none⟩ = some (C' k 2) := hdk 2 (by omega)
      clear hdk hd
      go_wp2_with fail
      go_region_with (go_at_call 29; refine (eqRow_any (rth xs k) _ B _ _ ((hr k hlt).under ((hbel.drew).mono hB)) ((hr' k hlt).under ((hbel.drew).mono hB)) (by have := hbel.size; simp; omega)).mono ?_; rintro e w1 ⟨rfl, hby⟩)
      all_goals
        go_wp2_with fail
        go_roundw
        case rel => exact ⟨k + 1, by omega, by go_num, hbel.drew.trans (hby.mono (by have := hbel.size; simpa using this))⟩
        case measure => simp [intOf]; omega
    · go_wp2_with fail
      go_ret
      exact ⟨rfl, hbel⟩
end Go.Proofs.Ytjlifamkfdmfcaa
