/-
  'takes' of every value, and the program's JsonOk: it answers as the model does.
-/
import Derived.Test.YtjpabpkfdahdhaaGreatTakes3
namespace Go.Proofs.YtjpabpkfdahdhaaGreat
set_option linter.unusedSimpArgs false
set_option linter.unusedVariables false
open Go.RowKit

set_option maxHeartbeats 1600000 in
theorem takes_big (s n : Int) (t : ByteArray) (ns : List ByteArray) (ks : List V) (na ka : Option Addr) (nc kc : Nat) (w : World) (rb : Nat) (d p : Int)
    (hrb : rb < w.heap.size) (hcell : w.cell? ⟨rb, 0, none⟩ = some (.int .i64 p)) (hfz : ∀ i, w.frozen? ⟨rb, i, none⟩ = false) (hp1 : p ≤ 600) (hd2 : d ≤ 16) (hp2 : 0 < p) (e2 : p - 1 < (ks.length : Int)) :
    Calls Tryz.prog 98 #[.pointer (some ⟨rb, 0, none⟩), .agg #[.int .i64 s, .int .i64 n, .string t, .slice na ns.length nc, .slice ka ks.length kc], .int .i64 d] w fun e w' => ∃ q : Int, e = .returned (.bool (decide (0 ≤ partsV (.mk s n t ns ks) d p))) ∧ (0 ≤ partsV (.mk s n t ns ks) d p → q = partsV (.mk s n t ns ks) d p) ∧ 0 ≤ q ∧ q ≤ 600 ∧
      w'.cell? ⟨rb, 0, none⟩ = some (.int .i64 q) ∧ (∀ i, w'.frozen? ⟨rb, i, none⟩ = false) ∧ But rb w w' := by
  have hent : ∀ w', w'.cell? ⟨rb, 0, none⟩ = some (.int .i64 p) → w'.frozen? ⟨rb, 0, none⟩ = false → Calls Tryz.prog 109 #[.pointer (some ⟨rb, 0, none⟩), .int .i64 d] w' fun e w'' => e = .returned (.bool true) ∧ w'.setCell ⟨rb, 0, none⟩ (.int .i64 (p - 1)) = w'' := fun w' h hf => enter_yes rb d p w' h hf hd2 hp2 hp1
  have hc1 : ∀ o, (w.alloc o).cell? ⟨rb, 0, none⟩ = some (.int .i64 p) := fun o => ((below_box w o).cell (p := ⟨rb, 0, none⟩) hrb).trans hcell
  have hf1 : ∀ o i, (w.alloc o).frozen? ⟨rb, i, none⟩ = false := fun o i => ((below_box w o).frozen (p := ⟨rb, i, none⟩) hrb).trans (hfz i)
  have hne : w.heap.size ≠ rb := by omega
  have hneg : partsV (.mk s n t ns ks) d p < 0 := by
    rw [partsV_eq]
    split
    · omega
    · have := partsL_bd ks (d + 1) (p - 1) (by omega); omega
  have hdec : decide (0 ≤ partsV (.mk s n t ns ks) d p) = false := by simp; omega
  rw [hdec]
  clear hdec
  have HN : Hid (partsV (.mk s n t ns ks) d p < 0) := hneg
  clear hneg
  go_enter Tryz.func98, Tryz.ntmps98
  go_wp2_with fail
  first | (go_region_with (go_at_call 109; refine (hent _ ?_ ?_).mono ?_; exact hc1 _; exact hf1 _ _; rintro e w1 ⟨rfl, rfl⟩)) | fail
  all_goals
    go_wp2_with fail
    go_ret
    exact ⟨p - 1, rfl, fun h => by have := HN.out; omega, by omega, by omega, set_cell w rb _ _ _ hrb hcell, set_frozen w rb _ _ hrb hfz, (((But.refl rb w).setCell 0 _).alloc _).drew⟩

set_option maxHeartbeats 1600000 in
theorem takes_none (s n : Int) (t : ByteArray) (ns : List ByteArray) (ks : List V) (na ka : Option Addr) (nc kc : Nat) (w : World) (rb : Nat) (d p : Int)
    (hrb : rb < w.heap.size) (hcell : w.cell? ⟨rb, 0, none⟩ = some (.int .i64 p)) (hfz : ∀ i, w.frozen? ⟨rb, i, none⟩ = false) (hp1 : p ≤ 600) (hd2 : d ≤ 16) (hp2 : 0 < p) (e2 : (ks.length : Int) ≤ p - 1) (hno : isSort s = false) :
    Calls Tryz.prog 98 #[.pointer (some ⟨rb, 0, none⟩), .agg #[.int .i64 s, .int .i64 n, .string t, .slice na ns.length nc, .slice ka ks.length kc], .int .i64 d] w fun e w' => ∃ q : Int, e = .returned (.bool (decide (0 ≤ partsV (.mk s n t ns ks) d p))) ∧ (0 ≤ partsV (.mk s n t ns ks) d p → q = partsV (.mk s n t ns ks) d p) ∧ 0 ≤ q ∧ q ≤ 600 ∧
      w'.cell? ⟨rb, 0, none⟩ = some (.int .i64 q) ∧ (∀ i, w'.frozen? ⟨rb, i, none⟩ = false) ∧ But rb w w' := by
  have hent : ∀ w', w'.cell? ⟨rb, 0, none⟩ = some (.int .i64 p) → w'.frozen? ⟨rb, 0, none⟩ = false → Calls Tryz.prog 109 #[.pointer (some ⟨rb, 0, none⟩), .int .i64 d] w' fun e w'' => e = .returned (.bool true) ∧ w'.setCell ⟨rb, 0, none⟩ (.int .i64 (p - 1)) = w'' := fun w' h hf => enter_yes rb d p w' h hf hd2 hp2 hp1
  have hc1 : ∀ o, (w.alloc o).cell? ⟨rb, 0, none⟩ = some (.int .i64 p) := fun o => ((below_box w o).cell (p := ⟨rb, 0, none⟩) hrb).trans hcell
  have hf1 : ∀ o i, (w.alloc o).frozen? ⟨rb, i, none⟩ = false := fun o i => ((below_box w o).frozen (p := ⟨rb, i, none⟩) hrb).trans (hfz i)
  have hne : w.heap.size ≠ rb := by omega
  have hsv : sortV s = .nilIface := by
    have : ¬ (1 ≤ s ∧ s ≤ 6) := by simpa [isSort] using hno
    simp [sortV, show s ≠ 1 by omega, show s ≠ 2 by omega, show s ≠ 3 by omega, show s ≠ 4 by omega, show s ≠ 5 by omega, show s ≠ 6 by omega]
  have hsort : ∀ w', Calls Tryz.prog 110 #[.int .i64 s] w' fun e w'' => e = .returned (.tuple #[.nilIface, .bool false]) ∧ w' = w'' := fun w' => by
    have := sortOf_any s w'; rw [hsv, hno] at this; exact this
  have hneg : partsV (.mk s n t ns ks) d p = -1 := by
    have h : ¬ (1 ≤ s ∧ s ≤ 6) := by simpa [isSort] using hno
    rw [partsV_eq, if_pos]
    refine Or.inr (Or.inr ?_)
    have g : ∀ i : Int, 1 ≤ i → i ≤ 6 → (s == i) = false := fun i h1 h2 => by simp; omega
    simp [plainV, g 1, g 2, g 3, g 4, g 5, g 6]
  rw [hneg]
  clear hno hsv hneg
  go_enter Tryz.func98, Tryz.ntmps98
  go_wp2_with fail
  first | (go_region_with (go_at_call 109; refine (hent _ ?_ ?_).mono ?_; exact hc1 _; exact hf1 _ _; rintro e w1 ⟨rfl, rfl⟩)) | fail
  all_goals
    go_wp2_with (go_at_call 110; refine (hsort _).mono ?_; rintro e w1 ⟨rfl, rfl⟩)
    go_ret
    exact ⟨p - 1, rfl, fun h => by omega, by omega, by omega, set_cell w rb _ _ _ hrb hcell, set_frozen w rb _ _ hrb hfz, (((But.refl rb w).setCell 0 _).alloc _).drew⟩
end Go.Proofs.YtjpabpkfdahdhaaGreat
