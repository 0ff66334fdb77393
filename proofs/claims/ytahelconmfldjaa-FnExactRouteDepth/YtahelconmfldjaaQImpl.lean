/-
  The program's RouteDepth.
-/
import Derived.Test.YtahelconmfldjaaQIter
namespace Go.Proofs.Ytahelconmfldjaa
set_option linter.unusedSimpArgs false
set_option linter.unusedVariables false
open Go.RowKit Go.Shelf
attribute [local go_sem] Oper.semAt_some

theorem depthsOf_any (v : Value) (w : World) (hv : ∃ a n c, v = .slice a n c) :
    Calls Try.prog 23 #[v] w fun e w' => e = .returned (.func (.func 40) #[] #[.pointer (some ⟨w.heap.size, 0, none⟩)]) ∧ w' = w.alloc (.cells #[v] 25) := by
  obtain ⟨a, n, c, rfl⟩ := hv
  go_enter Try.func23, Try.ntmps23
  go_wp2_with fail
  go_ret
  exact ⟨rfl, rfl⟩

set_option maxRecDepth 20000 in
set_option maxHeartbeats 1200000 in
theorem implDepth_any (ss : List St) (w : World) (B : Nat) (a : Option Addr) (c : Nat) (hK : StReps w (· < B) ss a) (hB : B ≤ w.heap.size) (hl : ss.length ≤ 1048576) :
    Calls Try.prog 9 #[.slice a ss.length c] w fun e w' => e = .returned (.int .i64 (top ss ss.length)) ∧ Below w.heap.size w w' := by
  refine (callsIn_wide (n := 3)).1 ?_
  refine callsIn_of_wp_marks Try.func9 rfl trivial ?_ rfl
  simp only [Try.ntmps9, List.size_toArray, List.length_cons, List.length_nil, Nat.reduceAdd, Nat.reduceSub, Array.replicate_succ, Array.replicate_zero, List.push_toArray, List.append_toArray, List.nil_append, List.cons_append]
  gi_wp2_with (refine ⟨trivial, ?_⟩; gi_at_call 23; refine (callsIn_wide.2 (depthsOf_any _ _ ⟨_, _, _, rfl⟩)).mono ?_; rintro e w' ⟨rfl, rfl⟩)
  obtain ⟨Y, hY⟩ : ∃ Y, Y = (w.alloc (.cells #[.int .i64 0] 3)).alloc (.cells #[.slice a ss.length c] 25) := ⟨_, rfl⟩
  have zY : Y.heap.size = w.heap.size + 1 + 1 := by rw [hY]; simp
  have bY : Below w.heap.size w Y := by rw [hY]; exact below_box2 _ _ _
  have cY : Y.cell? ⟨w.heap.size, 0, none⟩ = some (.int .i64 0) := by rw [hY]; simp
  have fY : Y.frozen? ⟨w.heap.size, 0, none⟩ = false := by rw [hY]; simp
  have sY : Y.cell? ⟨w.heap.size + 1, 0, none⟩ = some (.slice a ss.length c) := by
    rw [hY]
    simp
  rw [← hY]
  clear hY
  refine range_full (w := Y) rfl (by omega) (gf := 40) (lb := #[.pointer (some ⟨w.heap.size + 1, 0, none⟩)]) rfl trivial (enters_of Try.func40 (by kernel_rfl) rfl) w.heap.size ss.length (by omega) (fun i => #[.int .i64 i, .int .i64 (dn ss i)]) (fun _ => rfl)
    ?seq (fun i W => W.cell? ⟨w.heap.size, 0, none⟩ = some (.int .i64 (top ss i)) ∧ W.frozen? ⟨w.heap.size, 0, none⟩ = false ∧ Below w.heap.size w W)
    ?own ⟨cY, fY, bY⟩
    (fun i => { tmps := #[.slice a ss.length c, undef, .int .i64 0, .pointer (some ⟨w.heap.size, 0, none⟩), undef, .int .i64 (dn ss i), .slice a ss.length c, .func (.func 40) #[] #[.pointer (some ⟨w.heap.size + 1, 0, none⟩)], .int .i64 i, .int .i64 (dn ss i), undef, undef, undef, undef], defers := [] }) ?assign ?body ?done
  case seq =>
    intro l J W hb hlt hJ hY h0
    exact depths_seq 2 (by omega) ss hl a c B w.heap.size (w.heap.size + 1) l J W ((hb.cell (p := ⟨w.heap.size + 1, 0, none⟩) (by show w.heap.size + 1 < _; omega)).trans sY) (hK.under ((bY.trans (hb.mono (by omega))).mono hB)) hB (by omega) (by omega) hJ hY h0
  case own =>
    rintro i X Z ⟨h1, h2, h3⟩ hb
    exact ⟨(hb.cell (p := ⟨w.heap.size, 0, none⟩) (by show w.heap.size < _; omega)).trans h1, (hb.frozen (p := ⟨w.heap.size, 0, none⟩) (by show w.heap.size < _; omega)).trans h2, h3.trans (hb.mono (by omega))⟩
  case assign =>
    intro l i W K hK
    gi_wp2
    exact hK
  case body =>
    rintro l i W ⟨hc, hf, hb⟩ hi
    have ht := top_le ss i
    have hd := dn_le ss i
    have HT : Hid (top ss (i + 1) = max (top ss i) (dn ss i)) := rfl
    obtain ⟨t, hte⟩ : ∃ t, t = top ss i := ⟨_, rfl⟩
    obtain ⟨d, hde⟩ : ∃ d, d = dn ss i := ⟨_, rfl⟩
    rw [← hte] at hc ht HT
    rw [← hde] at hd HT ⊢
    clear hte hde
    have fin : ∀ v : Nat, v = max t d → KeepsOthers W (W.setCell ⟨w.heap.size, 0, none⟩ (.int .i64 (v : Int))) ∧ KeepBut w.heap.size W (W.setCell ⟨w.heap.size, 0, none⟩ (.int .i64 (v : Int))) ∧ (v : Int) = ((top ss (i + 1) : Nat) : Int) ∧ Below w.heap.size w (W.setCell ⟨w.heap.size, 0, none⟩ (.int .i64 (v : Int))) := fun v hv =>
      ⟨KeepsOthers.setCell _ _ _, ⟨(Below.refl _ W).setCell (p := ⟨w.heap.size, 0, none⟩) (Nat.le_refl _) _, fun b o hb' h1 _ => (Below.heap_setCell _ _ _ _ (by show b ≠ w.heap.size; exact hb')).trans h1⟩, by rw [HT.out, ← hv], hb.setCell (p := ⟨w.heap.size, 0, none⟩) (Nat.le_refl _) _⟩
    by_cases hgt : t < d
    · have hgi : (t : Int) < (d : Int) := by omega
      gi_wp2
      exact fin d (by omega)
    · gi_wp2
      exact fin t (by omega)
  case done =>
    rintro D W hD ⟨hc, hf, hb⟩ hK
    gi_wp2
    refine ⟨by simp, .inl ⟨_, _, rfl, run_takeDeferred hK, ?_⟩⟩
    refine ⟨_, results_tmp rfl _ _ _, rfl, hb.trans ?_⟩
    exact below_putObj _ _ (by omega)
end Go.Proofs.Ytahelconmfldjaa
