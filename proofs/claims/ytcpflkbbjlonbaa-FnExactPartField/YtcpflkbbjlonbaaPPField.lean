/-
  The model's PartField.
-/
import Derived.Test.YtcpflkbbjlonbaaPCheck
import Derived.Test.YtcpflkbbjlonbaaIPField
namespace Go.Proofs.Ytcpflkbbjlonbaa
set_option linter.unusedSimpArgs false
set_option linter.unusedVariables false
open Go.RowKit

theorem copyResult (FW : World) (tmps : Array Value) (N : Nat) (v0 v1 v2 v3 v4 v5 v6 v7 : Value) (h2 : tmps.getD 2 undef = .pointer (some ⟨N, 0, none⟩))
    (d0 : FW.cell? ⟨N, 0, none⟩ = some v0) (d1 : FW.cell? ⟨N, 1, none⟩ = some v1) (d2 : FW.cell? ⟨N, 2, none⟩ = some v2) (d3 : FW.cell? ⟨N, 3, none⟩ = some v3) (d4 : FW.cell? ⟨N, 4, none⟩ = some v4) (d5 : FW.cell? ⟨N, 5, none⟩ = some v5) (d6 : FW.cell? ⟨N, 6, none⟩ = some v6) (d7 : FW.cell? ⟨N, 7, none⟩ = some v7) :
    (results Try.f31 tmps).run Try.prog FW = .ok (.agg #[v0, v1, v2, v3, v4, v5, v6, v7]) FW := by
  simp only [Array.getD_eq_getD_getElem?] at h2
  simp [results, Try.results31, go_sem, h2, d0, d1, d2, d3, d4, d5, d6, d7]

set_option maxRecDepth 20000 in
set_option maxHeartbeats 3200000 in
theorem l2Copy_any (f : F) (w : World) (B : Nat) (v : Value) (hR : FRep w (· < B) f v) (hB : B ≤ w.heap.size) (hn : f.needs.length ≤ 1048576) :
    Calls Try.prog 31 #[v] w fun e w' => ∃ (a : Option Addr) (c : Nat), e = .returned (.agg #[.string f.name, .string f.of, .bool f.list, .bool f.must, .bool f.far, .bool f.hidden, .bool f.shared, .slice a f.needs.length c]) ∧ Below w.heap.size w w' ∧
      FRep w' (fun b => w.heap.size ≤ b ∧ b < w'.heap.size) f (.agg #[.string f.name, .string f.of, .bool f.list, .bool f.must, .bool f.far, .bool f.hidden, .bool f.shared, .slice a f.needs.length c]) := by
  obtain ⟨na, nc, rfl, hS, hcap, hs0, hs1, h16⟩ := hR
  obtain ⟨h1, h2, h3⟩ := hS
  obtain ⟨i0, hi, hz0, hz1, hz2⟩ := info_parts info9
  by_cases hn0 : f.needs.length = 0
  · have hns : f.needs = [] := by simpa using hn0
    rw [hn0] at hcap h16 ⊢
    cases na
    all_goals
      go_enter Try.func31, Try.ntmps31
      go_wp2_with fail
      refine bodyPost_ret (v := .agg #[.string f.name, .string f.of, .bool f.list, .bool f.must, .bool f.far, .bool f.hidden, .bool f.shared, .slice (some ⟨w.heap.size + 1 + 1, 0, none⟩) 0 0]) ?res rfl ⟨_, _, rfl, (below_box2 w _ _).alloc (by simp; omega) _, ⟨_, 0, by rw [hn0], ⟨fun h => absurd hns h, h2, h3⟩, by rw [hn0]; exact Nat.le_refl _, hs0, hs1, by rw [hn0]; omega⟩⟩
      case res => simp [results, Try.results31, go_sem]
  · obtain ⟨b, off, rfl, hbB, hc⟩ := h1 (by intro e; simp [e] at hn0)
    clear h1
    have hx3 : (((w.alloc (.cells #[.string f.name, .string f.of, .bool f.list, .bool f.must, .bool f.far, .bool f.hidden, .bool f.shared, .slice (some ⟨b, off, none⟩) f.needs.length nc] 35)).alloc (.cells #[.string ⟨#[]⟩, .string ⟨#[]⟩, .bool false, .bool false, .bool false, .bool false, .bool false, .slice none 0 0] 35)).alloc (.cells #[] 9)).heap.size = w.heap.size + 1 + 1 + 1 := by simp
    have hx2 : (((w.alloc (.cells #[.string f.name, .string f.of, .bool f.list, .bool f.must, .bool f.far, .bool f.hidden, .bool f.shared, .slice (some ⟨b, off, none⟩) f.needs.length nc] 35)).alloc (.cells #[.string ⟨#[]⟩, .string ⟨#[]⟩, .bool false, .bool false, .bool false, .bool false, .bool false, .slice none 0 0] 35)).alloc (.cells #[] 9)).heap[w.heap.size + 1 + 1]? = some (.cells #[] 9 (0, 0)) := by
      have := heap_alloc_new ((w.alloc (.cells #[.string f.name, .string f.of, .bool f.list, .bool f.must, .bool f.far, .bool f.hidden, .bool f.shared, .slice (some ⟨b, off, none⟩) f.needs.length nc] 35)).alloc (.cells #[.string ⟨#[]⟩, .string ⟨#[]⟩, .bool false, .bool false, .bool false, .bool false, .bool false, .slice none 0 0] 35)) (.cells #[] 9)
      simpa using this
    have hx1 : (((w.alloc (.cells #[.string f.name, .string f.of, .bool f.list, .bool f.must, .bool f.far, .bool f.hidden, .bool f.shared, .slice (some ⟨b, off, none⟩) f.needs.length nc] 35)).alloc (.cells #[.string ⟨#[]⟩, .string ⟨#[]⟩, .bool false, .bool false, .bool false, .bool false, .bool false, .slice none 0 0] 35)).alloc (.cells #[] 9)).heap[w.heap.size + 1]? = some (.cells #[.string ⟨#[]⟩, .string ⟨#[]⟩, .bool false, .bool false, .bool false, .bool false, .bool false, .slice none 0 0] 35 (0, 0)) := by
      rw [Below.heap_alloc _ _ _ (by simp)]
      have := heap_alloc_new (w.alloc (.cells #[.string f.name, .string f.of, .bool f.list, .bool f.must, .bool f.far, .bool f.hidden, .bool f.shared, .slice (some ⟨b, off, none⟩) f.needs.length nc] 35)) (.cells #[.string ⟨#[]⟩, .string ⟨#[]⟩, .bool false, .bool false, .bool false, .bool false, .bool false, .slice none 0 0] 35)
      rw [show (w.alloc (.cells #[.string f.name, .string f.of, .bool f.list, .bool f.must, .bool f.far, .bool f.hidden, .bool f.shared, .slice (some ⟨b, off, none⟩) f.needs.length nc] 35)).heap.size = w.heap.size + 1 by simp] at this
      exact this
    have hx0 : (((w.alloc (.cells #[.string f.name, .string f.of, .bool f.list, .bool f.must, .bool f.far, .bool f.hidden, .bool f.shared, .slice (some ⟨b, off, none⟩) f.needs.length nc] 35)).alloc (.cells #[.string ⟨#[]⟩, .string ⟨#[]⟩, .bool false, .bool false, .bool false, .bool false, .bool false, .slice none 0 0] 35)).alloc (.cells #[] 9)).heap[w.heap.size]? = some (.cells #[.string f.name, .string f.of, .bool f.list, .bool f.must, .bool f.far, .bool f.hidden, .bool f.shared, .slice (some ⟨b, off, none⟩) f.needs.length nc] 35 (0, 0)) := by
      rw [Below.heap_alloc _ _ _ (by simp; omega), Below.heap_alloc _ _ _ (by simp)]
      exact heap_alloc_new _ _
    have hxb : Below w.heap.size w (((w.alloc (.cells #[.string f.name, .string f.of, .bool f.list, .bool f.must, .bool f.far, .bool f.hidden, .bool f.shared, .slice (some ⟨b, off, none⟩) f.needs.length nc] 35)).alloc (.cells #[.string ⟨#[]⟩, .string ⟨#[]⟩, .bool false, .bool false, .bool false, .bool false, .bool false, .slice none 0 0] 35)).alloc (.cells #[] 9)) := (below_box2 w _ _).alloc (by simp; omega) _
    have hcx : ∀ i, i < f.needs.length → (((w.alloc (.cells #[.string f.name, .string f.of, .bool f.list, .bool f.must, .bool f.far, .bool f.hidden, .bool f.shared, .slice (some ⟨b, off, none⟩) f.needs.length nc] 35)).alloc (.cells #[.string ⟨#[]⟩, .string ⟨#[]⟩, .bool false, .bool false, .bool false, .bool false, .bool false, .slice none 0 0] 35)).alloc (.cells #[] 9)).cell? ⟨b, off + i, none⟩ = some (.string (nth f.needs i)) := fun i hi => (hxb.cell (p := ⟨b, off + i, none⟩) (by show b < _; omega)).trans (hc i hi)
    have hown0 : (((w.alloc (.cells #[.string f.name, .string f.of, .bool f.list, .bool f.must, .bool f.far, .bool f.hidden, .bool f.shared, .slice (some ⟨b, off, none⟩) f.needs.length nc] 35)).alloc (.cells #[.string ⟨#[]⟩, .string ⟨#[]⟩, .bool false, .bool false, .bool false, .bool false, .bool false, .slice none 0 0] 35)).alloc (.cells #[] 9)).ownsRow (w.heap.size + 1 + 1) 9 1 (.slice (some ⟨w.heap.size + 1 + 1, 0, none⟩) 0 0) 0 [] := ⟨rfl, .inr ⟨_, 0, #[], rfl, Nat.le_refl _, hx2, Nat.le_refl _, by simp, rfl, rfl⟩⟩
    go_enter Try.func31, Try.ntmps31
    go_wp2_with (at_builtin; refine wpList_append_lies _ rfl (.tmp 3) (.tmp 5) 33 rfl (w.heap.size + 1 + 1) 9 i0 (.string ByteArray.empty) 1 16 Try.underlying33 hi hz0 hz1 hz2 rfl (by decide) (.slice (some ⟨w.heap.size + 1 + 1, 0, none⟩) 0 0) 0 [] rfl hown0 ⟨b, off, none⟩ f.needs.length nc (f.needs.map Value.string) rfl (by simp) ?c1 ?c2 (by omega) ?c3 (by omega) (by rw [hx3]; omega) _ rfl ?_)
    case c1 =>
      intro j u hj
      obtain ⟨hj', rfl⟩ := nth_map f.needs j u hj
      rw [Addr.add_lit]
      exact hcx j hj'
    case c2 => intro u hu; simp at hu; obtain ⟨x, -, rfl⟩ := hu; rfl
    case c3 => omega
    intro g cap w1 hown hgrow hat hlt
    have hbw := Below.grown (Below.refl (w.heap.size + 1 + 1) _) hgrow (by simp) (fun k hk => by simp [Value.ownBlock] at hk; omega)
    have hSo := (strs_owned (base := w.heap.size + 1 + 1) (by simpa using hown) h2 h3 hlt)
    have hF1 := (hbw.block w.heap.size (by omega)).trans hx0
    have hR1 := (hbw.block (w.heap.size + 1) (by omega)).trans hx1
    have hw1 : Below w.heap.size w w1 := hxb.trans (hbw.mono (by omega))
    have hz1 := hbw.size
    rw [hx3] at hz1
    clear hgrow hown hown0 hcx hx0 hx1 hx2 hbw hxb
    obtain ⟨g7, z7⟩ := box_at hF1 7 (by simp)
    have hbx : (w1.setCell ⟨w.heap.size, 7, none⟩ (.slice (some ⟨g, 0, none⟩) f.needs.length cap)).heap[w.heap.size + 1]? = some (.cells #[.string ⟨#[]⟩, .string ⟨#[]⟩, .bool false, .bool false, .bool false, .bool false, .bool false, .slice none 0 0] 35 (0, 0)) := (Below.heap_setCell _ _ _ _ (by show w.heap.size + 1 ≠ w.heap.size; omega)).trans hR1
    have hg : ∀ j, j < 7 → (w1.setCell ⟨w.heap.size, 7, none⟩ (.slice (some ⟨g, 0, none⟩) f.needs.length cap)).cell? ⟨w.heap.size, j, none⟩ = w1.cell? ⟨w.heap.size, j, none⟩ := fun j hj => World.cell?_setCell_other _ _ _ _ (by intro e; simp only [Addr.mk.injEq] at e; omega)
    have c0 := (hg 0 (by omega)).trans (box_at hF1 0 (by simp)).1
    have c1 := (hg 1 (by omega)).trans (box_at hF1 1 (by simp)).1
    have c2 := (hg 2 (by omega)).trans (box_at hF1 2 (by simp)).1
    have c3 := (hg 3 (by omega)).trans (box_at hF1 3 (by simp)).1
    have c4 := (hg 4 (by omega)).trans (box_at hF1 4 (by simp)).1
    have c5 := (hg 5 (by omega)).trans (box_at hF1 5 (by simp)).1
    have c6 := (hg 6 (by omega)).trans (box_at hF1 6 (by simp)).1
    have c7 : (w1.setCell ⟨w.heap.size, 7, none⟩ (.slice (some ⟨g, 0, none⟩) f.needs.length cap)).cell? ⟨w.heap.size, 7, none⟩ = some (.slice (some ⟨g, 0, none⟩) f.needs.length cap) := World.cell?_setCell_same _ _ _ g7
    simp only [List.getElem_toArray, List.getElem_cons_succ, List.getElem_cons_zero] at c0 c1 c2 c3 c4 c5 c6 g7
    obtain ⟨a0, b0⟩ := box_at hbx 0 (by simp)
    obtain ⟨a1, b1⟩ := box_at hbx 1 (by simp)
    obtain ⟨a2, b2⟩ := box_at hbx 2 (by simp)
    obtain ⟨a3, b3⟩ := box_at hbx 3 (by simp)
    obtain ⟨a4, b4⟩ := box_at hbx 4 (by simp)
    obtain ⟨a5, b5⟩ := box_at hbx 5 (by simp)
    obtain ⟨a6, b6⟩ := box_at hbx 6 (by simp)
    obtain ⟨a7, b7⟩ := box_at hbx 7 (by simp)
    have HB : Hid ((w1.setCell ⟨w.heap.size, 7, none⟩ (.slice (some ⟨g, 0, none⟩) f.needs.length cap)).heap[w.heap.size + 1]? = some (.cells #[.string ⟨#[]⟩, .string ⟨#[]⟩, .bool false, .bool false, .bool false, .bool false, .bool false, .slice none 0 0] 35 (0, 0))) := hbx
    clear hg hF1 hbx hR1
    go_wp2_with fail
    obtain ⟨d0, d1, d2, d3, d4, d5, d6, d7⟩ := sets_cells HB.out rfl (.string f.name) (.string f.of) (.bool f.list) (.bool f.must) (.bool f.far) (.bool f.hidden) (.bool f.shared) (.slice (some ⟨g, 0, none⟩) f.needs.length cap) _ rfl
    refine bodyPost_ret (copyResult _ _ (w.heap.size + 1) (.string f.name) (.string f.of) (.bool f.list) (.bool f.must) (.bool f.far) (.bool f.hidden) (.bool f.shared) (.slice (some ⟨g, 0, none⟩) f.needs.length cap) rfl d0 d1 d2 d3 d4 d5 d6 d7) rfl ?_
    have hblk : ∀ (k : Nat), w.heap.size + 1 + 1 ≤ k → ∀ v0 v1 v2 v3 v4 v5 v6 v7, ((((((((((w1.setCell ⟨w.heap.size, 7, none⟩ (.slice (some ⟨g, 0, none⟩) f.needs.length cap)).setCell ⟨w.heap.size + 1, 0, none⟩ v0).setCell ⟨w.heap.size + 1, 1, none⟩ v1).setCell ⟨w.heap.size + 1, 2, none⟩ v2).setCell ⟨w.heap.size + 1, 3, none⟩ v3).setCell ⟨w.heap.size + 1, 4, none⟩ v4).setCell ⟨w.heap.size + 1, 5, none⟩ v5).setCell ⟨w.heap.size + 1, 6, none⟩ v6).setCell ⟨w.heap.size + 1, 7, none⟩ v7)).heap[k]? = w1.heap[k]? := fun k hk v0 v1 v2 v3 v4 v5 v6 v7 =>
      (sets_block (by omega) _ _ _ _ _ _ _ _ _).trans (Below.heap_setCell _ _ _ _ (by show k ≠ w.heap.size; omega))
    refine ⟨_, _, rfl, below_sets (hw1.setCell (by show w.heap.size ≤ w.heap.size; omega) _) (Nat.le_succ _) _ _ _ _ _ _ _ _, ⟨_, _, rfl, (hSo.1.mono fun k hk => hblk k hk.1 _ _ _ _ _ _ _ _).sub fun k hk => ?_, hSo.2.1, hs0, hs1, h16⟩⟩
    rw [sets_size, size_set]; omega
end Go.Proofs.Ytcpflkbbjlonbaa
