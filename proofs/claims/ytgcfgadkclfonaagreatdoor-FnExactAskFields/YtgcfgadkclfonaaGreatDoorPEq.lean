/-
  eqField, eqType, eqPart: of two that hold one thing they are true.
-/
import Derived.Test.YtgcfgadkclfonaaGreatDoorPCopy
import Derived.BigRegion
import Derived.Deep.RegionWith
namespace Go.Proofs.YtgcfgadkclfonaaGreatDoor
set_option linter.unusedSimpArgs false
set_option linter.unusedVariables false
open Go.RowKit

set_option maxHeartbeats 800000 in
theorem eqField_any (f : F) (w : World) (B : Nat) (v v' : Value) (hR : FRep w (· < B) f v) (hR' : FRep w (· < B) f v') (hB : B ≤ w.heap.size) :
    Calls Tryz.prog 125 #[v, v'] w fun e w' => e = .returned (.bool true) ∧ Below w.heap.size w w' := by
  obtain ⟨na, nc, rfl, hs, -⟩ := hR
  obtain ⟨na', nc', rfl, hs', -⟩ := hR'
  obtain ⟨name, of, l, m, fa, hi, sh, needs⟩ := f
  simp only at hs hs'
  go_enter Tryz.func125, Tryz.ntmps125
  go_wp2_with (
      go_at_call 23
      refine (eqStringS_any needs na na' nc nc' _ (· < B) (· < B) (hs.under ((below_box2 w _ _).mono hB)) (hs'.under ((below_box2 w _ _).mono hB))).mono ?_
      rintro e w' ⟨rfl, m, rfl⟩)
  go_ret
  exact ⟨rfl, below_drews (below_box2 w _ _) _⟩

set_option maxHeartbeats 800000 in
theorem eqFieldS_any (ks : List F) (w : World) (B : Nat) (a a' : Option Addr) (c c' : Nat) (hK : FsRep w (· < B) ks a) (hK' : FsRep w (· < B) ks a') (hB : B ≤ w.heap.size) :
    Calls Tryz.prog 100 #[.slice a ks.length c, .slice a' ks.length c'] w fun e w' => e = .returned (.bool true) ∧ Below w.heap.size w w' := by
  have h3 := hK.1
  obtain ⟨-, C, hA, hr⟩ := hK
  obtain ⟨-, C', hA', hr'⟩ := hK'
  by_cases hn0 : ks.length = 0
  · have hns : ks = [] := by simpa using hn0
    subst hns
    go_enter Tryz.func100, Tryz.ntmps100
    go_wp2_with fail
    go_loop [5] (fun i => i = .int .i64 0) (fun _ => 0)
    case atStart => rfl
    case round =>
      subst hrel
      go_wp2_with fail
      go_ret
      exact ⟨rfl, Below.refl _ _⟩
  · obtain ⟨b, off, rfl, hbB, hc⟩ := hA (by omega)
    obtain ⟨b', off', rfl, hbB', hd⟩ := hA' (by omega)
    clear hA hA'
    go_enter Tryz.func100, Tryz.ntmps100
    go_wp2_with fail
    go_loopw [5] (fun i wr => ∃ k : Nat, k ≤ ks.length ∧ i = .int .i64 k ∧ Below w.heap.size w wr) (fun i _ => ks.length - (intOf i).toNat)
    case atStart => exact ⟨0, Nat.zero_le _, rfl, Below.refl _ _⟩
    case round =>
      obtain ⟨k, hk, rfl, hbel⟩ := hrel
      by_cases hlt : k < ks.length
      · have hck : ∀ j, j < 8 → wr.cell? ⟨b, off + k * 8 + j, none⟩ = some (C k j) := fun j hj => (hbel.cell (p := ⟨b, off + k * 8 + j, none⟩) (by show b < _; omega)).trans (hc k hlt j hj)
        have hc0 : wr.cell? ⟨b, off + k * 8, none⟩ = some (C k 0) := hck 0 (by omega)
        have hc1 : wr.cell? ⟨b, off + k * 8 + 1, none⟩ = some (C k 1) := hck 1 (by omega)
        have hc2 : wr.cell? ⟨b, off + k * 8 + 2, none⟩ = some (C k 2) := hck 2 (by omega)
        have hc3 : wr.cell? ⟨b, off + k * 8 + 3, none⟩ = some (C k 3) := hck 3 (by omega)
        have hc4 : wr.cell? ⟨b, off + k * 8 + 4, none⟩ = some (C k 4) := hck 4 (by omega)
        have hc5 : wr.cell? ⟨b, off + k * 8 + 5, none⟩ = some (C k 5) := hck 5 (by omega)
        have hc6 : wr.cell? ⟨b, off + k * 8 + 6, none⟩ = some (C k 6) := hck 6 (by omega)
        have hc7 : wr.cell? ⟨b, off + k * 8 + 7, none⟩ = some (C k 7) := hck 7 (by omega)
        clear hck hc
        have hdk : ∀ j, j < 8 → wr.cell? ⟨b', off' + k * 8 + j, none⟩ = some (C' k j) := fun j hj => (hbel.cell (p := ⟨b', off' + k * 8 + j, none⟩) (by show b' < _; omega)).trans (hd k hlt j hj)
        have hd0 : wr.cell? ⟨b', off' + k * 8, none⟩ = some (C' k 0) := hdk 0 (by omega)
        have hd1 : wr.cell? ⟨b', off' + k * 8 + 1, none⟩ = some (C' k 1) := hdk 1 (by omega)
        have hd2 : wr.cell? ⟨b', off' + k * 8 + 2, none⟩ = some (C' k 2) := hdk 2 (by omega)
        have hd3 : wr.cell? ⟨b', off' + k * 8 + 3, none⟩ = some (C' k 3) := hdk 3 (by omega)
        have hd4 : wr.cell? ⟨b', off' + k * 8 + 4, none⟩ = some (C' k 4) := hdk 4 (by omega)
        have hd5 : wr.cell? ⟨b', off' + k * 8 + 5, none⟩ = some (C' k 5) := hdk 5 (by omega)
        have hd6 : wr.cell? ⟨b', off' + k * 8 + 6, none⟩ = some (C' k 6) := hdk 6 (by omega)
        have hd7 : wr.cell? ⟨b', off' + k * 8 + 7, none⟩ = some (C' k 7) := hdk 7 (by omega)
        clear hdk hd
        go_wp2_with fail
        go_region_with (go_at_call 125; refine (eqField_any (fth ks k) _ B _ _ ((hr k hlt).under ((hbel.drew).mono hB)) ((hr' k hlt).under ((hbel.drew).mono hB)) (by have := hbel.size; simp; omega)).mono ?_; rintro e w1 ⟨rfl, hby⟩)
        all_goals
          go_wp2_with fail
          go_roundw
          case rel => exact ⟨k + 1, by omega, by go_num, hbel.drew.trans (hby.mono (by have := hbel.size; simpa using this))⟩
          case measure => simp [intOf]; omega
      · go_wp2_with fail
        go_ret
        exact ⟨rfl, hbel⟩

set_option maxHeartbeats 800000 in
theorem eqType_any (t : T) (w : World) (B : Nat) (v v' : Value) (hR : TRep w (· < B) t v) (hR' : TRep w (· < B) t v') (hB : B ≤ w.heap.size) :
    Calls Tryz.prog 65 #[v, v'] w fun e w' => e = .returned (.bool true) ∧ Below w.heap.size w w' := by
  obtain ⟨na, nc, rfl, hs, -⟩ := hR
  obtain ⟨na', nc', rfl, hs', -⟩ := hR'
  obtain ⟨name, key, fields⟩ := t
  simp only at hs hs'
  go_enter Tryz.func65, Tryz.ntmps65
  go_wp2_with (
      go_at_call 100
      refine (eqFieldS_any fields _ B na na' nc nc' (hs.under ((below_box2 w _ _).mono hB)) (hs'.under ((below_box2 w _ _).mono hB)) (by simp; omega)).mono ?_
      rintro e w' ⟨rfl, hb⟩)
  go_ret
  exact ⟨rfl, (below_box2 w _ _).trans (hb.mono (by simp; omega))⟩

set_option maxHeartbeats 800000 in
theorem eqTypeS_any (ks : List T) (w : World) (B : Nat) (a a' : Option Addr) (c c' : Nat) (hK : TsRep w (· < B) ks a) (hK' : TsRep w (· < B) ks a') (hB : B ≤ w.heap.size) :
    Calls Tryz.prog 37 #[.slice a ks.length c, .slice a' ks.length c'] w fun e w' => e = .returned (.bool true) ∧ Below w.heap.size w w' := by
  have h3 := hK.1
  obtain ⟨-, C, hA, hr⟩ := hK
  obtain ⟨-, C', hA', hr'⟩ := hK'
  by_cases hn0 : ks.length = 0
  · have hns : ks = [] := by simpa using hn0
    subst hns
    go_enter Tryz.func37, Tryz.ntmps37
    go_wp2_with fail
    go_loop [5] (fun i => i = .int .i64 0) (fun _ => 0)
    case atStart => rfl
    case round =>
      subst hrel
      go_wp2_with fail
      go_ret
      exact ⟨rfl, Below.refl _ _⟩
  · obtain ⟨b, off, rfl, hbB, hc⟩ := hA (by omega)
    obtain ⟨b', off', rfl, hbB', hd⟩ := hA' (by omega)
    clear hA hA'
    go_enter Tryz.func37, Tryz.ntmps37
    go_wp2_with fail
    go_loopw [5] (fun i wr => ∃ k : Nat, k ≤ ks.length ∧ i = .int .i64 k ∧ Below w.heap.size w wr) (fun i _ => ks.length - (intOf i).toNat)
    case atStart => exact ⟨0, Nat.zero_le _, rfl, Below.refl _ _⟩
    case round =>
      obtain ⟨k, hk, rfl, hbel⟩ := hrel
      by_cases hlt : k < ks.length
      · have hck : ∀ j, j < 3 → wr.cell? ⟨b, off + k * 3 + j, none⟩ = some (C k j) := fun j hj => (hbel.cell (p := ⟨b, off + k * 3 + j, none⟩) (by show b < _; omega)).trans (hc k hlt j hj)
        have hc0 : wr.cell? ⟨b, off + k * 3, none⟩ = some (C k 0) := hck 0 (by omega)
        have hc1 : wr.cell? ⟨b, off + k * 3 + 1, none⟩ = some (C k 1) := hck 1 (by omega)
        have hc2 : wr.cell? ⟨b, off + k * 3 + 2, none⟩ = some (C k 2) := hck 2 (by omega)
        clear hck hc
        have hdk : ∀ j, j < 3 → wr.cell? ⟨b', off' + k * 3 + j, none⟩ = some (C' k j) := fun j hj => (hbel.cell (p := ⟨b', off' + k * 3 + j, none⟩) (by show b' < _; omega)).trans (hd k hlt j hj)
        have hd0 : wr.cell? ⟨b', off' + k * 3, none⟩ = some (C' k 0) := hdk 0 (by omega)
        have hd1 : wr.cell? ⟨b', off' + k * 3 + 1, none⟩ = some (C' k 1) := hdk 1 (by omega)
        have hd2 : wr.cell? ⟨b', off' + k * 3 + 2, none⟩ = some (C' k 2) := hdk 2 (by omega)
        clear hdk hd
        go_wp2_with fail
        go_region_with (go_at_call 65; refine (eqType_any (tth ks k) _ B _ _ ((hr k hlt).under ((hbel.drew).mono hB)) ((hr' k hlt).under ((hbel.drew).mono hB)) (by have := hbel.size; simp; omega)).mono ?_; rintro e w1 ⟨rfl, hby⟩)
        all_goals
          go_wp2_with fail
          go_roundw
          case rel => exact ⟨k + 1, by omega, by go_num, hbel.drew.trans (hby.mono (by have := hbel.size; simpa using this))⟩
          case measure => simp [intOf]; omega
      · go_wp2_with fail
        go_ret
        exact ⟨rfl, hbel⟩

set_option maxHeartbeats 800000 in
theorem eqPart_any (p : Pt) (w : World) (B : Nat) (v v' : Value) (hR : PRep w (· < B) p v) (hR' : PRep w (· < B) p v') (hB : B ≤ w.heap.size) :
    Calls Tryz.prog 13 #[v, v'] w fun e w' => e = .returned (.bool true) ∧ Below w.heap.size w w' := by
  obtain ⟨na, nc, rfl, hs, -⟩ := hR
  obtain ⟨na', nc', rfl, hs', -⟩ := hR'
  obtain ⟨name, types⟩ := p
  simp only at hs hs'
  go_enter Tryz.func13, Tryz.ntmps13
  go_wp2_with (
      go_at_call 37
      refine (eqTypeS_any types _ B na na' nc nc' (hs.under ((below_box2 w _ _).mono hB)) (hs'.under ((below_box2 w _ _).mono hB)) (by simp; omega)).mono ?_
      rintro e w' ⟨rfl, hb⟩)
  go_ret
  exact ⟨rfl, (below_box2 w _ _).trans (hb.mono (by simp; omega))⟩
end Go.Proofs.YtgcfgadkclfonaaGreatDoor
