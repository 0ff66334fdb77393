/-
  The program's JsonOk: 'takes' gives up as soon as room is short, and otherwise counts as the model does.
-/
import Derived.Test.YtjpabpkfdahdhaaGreatHolds
namespace Go.Proofs.YtjpabpkfdahdhaaGreat
set_option linter.unusedSimpArgs false
set_option linter.unusedVariables false
open Go.RowKit

/-- All that was there is as it was, but for one block. -/
structure But (rb : Nat) (w w' : World) : Prop where
  os : w'.os = w.os
  tape : w'.tape = w.tape
  output : w'.output = w.output
  size : w.heap.size ≤ w'.heap.size
  block : ∀ k, k < w.heap.size → k ≠ rb → w'.heap[k]? = w.heap[k]?
theorem But.refl (rb : Nat) (w : World) : But rb w w := ⟨rfl, rfl, rfl, Nat.le_refl _, fun _ _ _ => rfl⟩
theorem But.trans {rb : Nat} {a b c : World} (h : But rb a b) (k : But rb b c) : But rb a c :=
  ⟨k.os.trans h.os, k.tape.trans h.tape, k.output.trans h.output, Nat.le_trans h.size k.size, fun i hi hn => (k.block i (Nat.lt_of_lt_of_le hi h.size) hn).trans (h.block i hi hn)⟩
theorem But.of_below {rb : Nat} {w w' : World} (h : Below w.heap.size w w') : But rb w w' := ⟨h.os, h.tape, h.output, h.size, fun k hk _ => h.block k hk⟩
theorem But.below {rb B : Nat} {w w' : World} (h : But rb w w') (h1 : B ≤ rb) (h2 : B ≤ w.heap.size) : Below B w w' := ⟨h.os, h.tape, h.output, h.size, fun k hk => h.block k (by omega) (by omega)⟩
theorem But.drew {rb : Nat} {a w : World} (h : But rb a w) : But rb a w.drew := ⟨h.os, h.tape, h.output, h.size, h.block⟩
theorem But.setCell {rb : Nat} {a w : World} (h : But rb a w) (o : Nat) (u : Value) : But rb a (w.setCell ⟨rb, o, none⟩ u) :=
  h.trans ⟨rfl, rfl, rfl, by simp [World.setCell], fun k _ hn => Below.heap_setCell _ _ _ _ hn⟩
theorem But.alloc {rb : Nat} {a w : World} (h : But rb a w) (o : Obj) : But rb a (w.alloc o) := h.trans (.of_below (below_box w o))
theorem But.cell {rb : Nat} {w w' : World} (h : But rb w w') {p : Addr} (hp : p.block < w.heap.size) (hn : p.block ≠ rb) : w'.cell? p = w.cell? p := World.cell?_of_block (w := w) (h.block p.block hp hn)

/-- What 'takes' does with a value, 'rb' being the block of the room. -/
def TkOk (x : V) : Prop := ∀ (w : World) (B rb : Nat) (v : Value) (d p : Int), Rep w (· < B) x v → B ≤ rb → rb < w.heap.size → w.cell? ⟨rb, 0, none⟩ = some (.int .i64 p) → (∀ i, w.frozen? ⟨rb, i, none⟩ = false) → 0 ≤ d → d ≤ 17 → 0 ≤ p → p ≤ 600 →
  Calls Tryz.prog 98 #[.pointer (some ⟨rb, 0, none⟩), v, .int .i64 d] w fun e w' => ∃ q : Int, e = .returned (.bool (decide (0 ≤ partsV x d p))) ∧ (0 ≤ partsV x d p → q = partsV x d p) ∧ 0 ≤ q ∧ q ≤ 600 ∧
    w'.cell? ⟨rb, 0, none⟩ = some (.int .i64 q) ∧ (∀ i, w'.frozen? ⟨rb, i, none⟩ = false) ∧ But rb w w'

set_option maxHeartbeats 800000 in
theorem takes_no (s n : Int) (t : ByteArray) (ns : List ByteArray) (ks : List V) (na ka : Option Addr) (nc kc : Nat) (w : World) (rb : Nat) (d p : Int) (hrb : rb < w.heap.size) (hcell : w.cell? ⟨rb, 0, none⟩ = some (.int .i64 p)) (hfz : ∀ i, w.frozen? ⟨rb, i, none⟩ = false) (hp0 : 0 ≤ p) (hp1 : p ≤ 600) (e1 : 16 < d ∨ p = 0) :
    Calls Tryz.prog 98 #[.pointer (some ⟨rb, 0, none⟩), .agg #[.int .i64 s, .int .i64 n, .string t, .slice na ns.length nc, .slice ka ks.length kc], .int .i64 d] w fun e w' => ∃ q : Int, e = .returned (.bool (decide (0 ≤ partsV (.mk s n t ns ks) d p))) ∧ (0 ≤ partsV (.mk s n t ns ks) d p → q = partsV (.mk s n t ns ks) d p) ∧ 0 ≤ q ∧ q ≤ 600 ∧
      w'.cell? ⟨rb, 0, none⟩ = some (.int .i64 q) ∧ (∀ i, w'.frozen? ⟨rb, i, none⟩ = false) ∧ But rb w w' := by
  have hpv : partsV (.mk s n t ns ks) d p = -1 := by rw [partsV_eq, if_pos (by omega)]
  have hent : ∀ w', w'.cell? ⟨rb, 0, none⟩ = some (.int .i64 p) → Calls Tryz.prog 109 #[.pointer (some ⟨rb, 0, none⟩), .int .i64 d] w' fun e w'' => e = .returned (.bool false) ∧ w' = w'' := fun w' h => enter_no rb d p w' h e1
  have hc1 : ∀ o, (w.alloc o).cell? ⟨rb, 0, none⟩ = some (.int .i64 p) := fun o => ((below_box w o).cell (p := ⟨rb, 0, none⟩) hrb).trans hcell
  have hf1 : ∀ o i, (w.alloc o).frozen? ⟨rb, i, none⟩ = false := fun o i => ((below_box w o).frozen (p := ⟨rb, i, none⟩) hrb).trans (hfz i)
  rw [hpv]
  clear e1
  go_enter Tryz.func98, Tryz.ntmps98
  go_wp2_with fail
  first | (go_region_with (go_at_call 109; refine (hent _ ?_).mono ?_; exact hc1 _; rintro e w1 ⟨rfl, rfl⟩)) | fail
  all_goals
    go_wp2_with fail
    go_ret
    exact ⟨p, rfl, fun h => by omega, hp0, hp1, by simpa using hc1 _, fun i => by simpa using hf1 _ i, ((But.refl _ _).alloc _).drew⟩
end Go.Proofs.YtjpabpkfdahdhaaGreat
