/-
  The program's AnswerNone.
-/
import Derived.Test.YtjlifamkfdmfcaaNone
namespace Go.Proofs.Ytjlifamkfdmfcaa
set_option linter.unusedSimpArgs false
set_option linter.unusedVariables false
open Go.RowKit

theorem callNulls (args : Array Value) (w : World) : (callFunc 42 args).run Try.prog w = .ok (.enter 42 args) w := by kernel_rfl

set_option maxRecDepth 20000 in
set_option maxHeartbeats 800000 in
theorem implNone_any (x : V) (w : World) (P : Nat → Prop) (c0 c1 c2 c3 c4 : Value) (wa : Option Addr) (wl wc : Nat) (hc : cntV x ≤ 2097152) (hR : Rep w P x (.agg #[c0, c1, c2, c3, c4])) (hP : ∀ b, P b → b < w.heap.size ∧ Apart w b) :
    Calls Try.prog 17 #[.agg #[c0, c1, c2, c3, c4, .slice wa wl wc]] w fun e w' => e = .returned (.int .i64 (wV nullN x : Nat)) ∧ Below w.heap.size w w' := by
  have hn := null_cnt x
  have hni : (wV nullN x : Int) ≤ 9223372036854775807 := by omega
  have hni2 : (wV nullN x : Int) ≤ 2097152 := by omega
  have hBX : ∀ o, Below w.heap.size w (w.alloc o) := fun o => below_box w o
  have hpc : ∀ (o : Obj) (W : World), Below (w.alloc o).heap.size (w.alloc o) W → ∀ k, k < w.heap.size → W.heap[k]? = w.heap[k]? := fun o W hb k hk => (hb.block k (by simp; omega)).trans ((hBX o).block k hk)
  go_enter Try.func17, Try.ntmps17
  go_wp2_with fail
  go_cut [3, 4] (fun a b wx => a = .int .i64 (wV nullN x : Nat) ∧ b = .bool true ∧ Below w.heap.size w wx)
  case first =>
    go_region_held3 (fun w' => w'.cell? ⟨w.heap.size, 0, none⟩ = some c0 ∧ w'.cell? ⟨w.heap.size, 1, none⟩ = some c1 ∧ w'.cell? ⟨w.heap.size, 2, none⟩ = some c2 ∧ w'.cell? ⟨w.heap.size, 3, none⟩ = some c3 ∧ w'.cell? ⟨w.heap.size, 4, none⟩ = some c4) (go_keep)
      (first
        | (
          go_at_call 41
          refine (scalesOf_any _ 42 0 9223372036854775807).mono ?_
          rintro e w1 ⟨m, rfl, hm1, hm2, hO, hb1⟩
          have hb1' := below_undrew hb1
          have q0 := (hb1'.cell (p := ⟨w.heap.size, 0, none⟩) (by simp)).trans (show _ = some c0 by simp)
          have q1 := (hb1'.cell (p := ⟨w.heap.size, 1, none⟩) (by simp)).trans (show _ = some c1 by simp)
          have q2 := (hb1'.cell (p := ⟨w.heap.size, 2, none⟩) (by simp)).trans (show _ = some c2 by simp)
          have q3 := (hb1'.cell (p := ⟨w.heap.size, 3, none⟩) (by simp)).trans (show _ = some c3 by simp)
          have q4 := (hb1'.cell (p := ⟨w.heap.size, 4, none⟩) (by simp)).trans (show _ = some c4 by simp)
          simp at hm1
          have hW := weigh_any 42 nullN ownNulls_fn callNulls x w1 P (.agg #[c0, c1, c2, c3, c4]) 0 9223372036854775807 m (fun _ => none) (hR.mono fun k hk => hpc _ w1 hb1' k (hP k hk).1) (fun b hb => ⟨by have := (hP b hb).1; have := hb1'.size; simp at this; omega, (hP b hb).2.of_block (hpc _ w1 hb1' b (hP b hb).1)⟩) (hO.widen fun _ h => h.elim) (fun b o n v h => by cases h) hni (by omega) hc
          have HW := hid_of hW
          clear hW)
        | (
          go_at_call 43
          refine HW.out.mono ?_
          rintro e w2 ⟨rfl, -, hg2⟩
          have hb2 : Below w.heap.size w w2 := (hBX _).trans ((hb1'.mono (by simp)).grown hg2 (by have := hb1'.size; simp at this; omega) (fun k hk => by cases hk; omega))
          have r0 := (hg2.cell_far ⟨w.heap.size, 0, none⟩ (by show w.heap.size < _; have := hb1'.size; simp at this; omega) (by simp; omega)).trans q0
          have r1 := (hg2.cell_far ⟨w.heap.size, 1, none⟩ (by show w.heap.size < _; have := hb1'.size; simp at this; omega) (by simp; omega)).trans q1
          have r2 := (hg2.cell_far ⟨w.heap.size, 2, none⟩ (by show w.heap.size < _; have := hb1'.size; simp at this; omega) (by simp; omega)).trans q2
          have r3 := (hg2.cell_far ⟨w.heap.size, 3, none⟩ (by show w.heap.size < _; have := hb1'.size; simp at this; omega) (by simp; omega)).trans q3
          have r4 := (hg2.cell_far ⟨w.heap.size, 4, none⟩ (by show w.heap.size < _; have := hb1'.size; simp at this; omega) (by simp; omega)).trans q4))
    all_goals
      go_wp2_with fail
      go_meet
      case rel => exact ⟨rfl, rfl, hb2⟩
  case rest =>
  obtain ⟨rfl, rfl, hb2⟩ := hcut
  go_wp2_with fail
  go_ret
  exact ⟨rfl, hb2⟩
end Go.Proofs.Ytjlifamkfdmfcaa
