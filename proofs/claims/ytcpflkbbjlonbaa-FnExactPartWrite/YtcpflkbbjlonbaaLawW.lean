/-
  The law of PartWrite, walked: for every part it returns true and writes nothing that was there.
-/
import Derived.Test.YtcpflkbbjlonbaaPCheck
namespace Go.Proofs.Ytcpflkbbjlonbaa
set_option linter.unusedSimpArgs false
set_option linter.unusedVariables false
open Go.RowKit

/-- Two cells of a block. -/
def Two (w : World) (N : Nat) (c0 c1 : Value) : Prop := w.cell? ⟨N, 0, none⟩ = some c0 ∧ w.cell? ⟨N, 1, none⟩ = some c1
theorem Two.new (w : World) (c0 c1 : Value) (T : TypeId) : Two (w.alloc (.cells #[c0, c1] T)) w.heap.size c0 c1 := by simp [Two]
theorem Two.keep {w w' : World} {N : Nat} {c0 c1 : Value} (h : Two w N c0 c1) (hb : Below w.heap.size w w') (hN : N < w.heap.size) : Two w' N c0 c1 :=
  ⟨(hb.cell (p := ⟨N, 0, none⟩) hN).trans h.1, (hb.cell (p := ⟨N, 1, none⟩) hN).trans h.2⟩

set_option maxRecDepth 20000 in
set_option maxHeartbeats 1600000 in
theorem lawW_walk (p : Pt) (w : World) (v : Value) (hR : PRep w (· < w.heap.size) p v) :
    Calls Try.prog 3 #[v] w fun e w' => e = .returned (.bool true) ∧ Below w.heap.size w w' := by
  have hR' := hR
  obtain ⟨name, types⟩ := p
  obtain ⟨ta, tc, rfl, -⟩ := hR
  simp only at hR'
  obtain ⟨S, HS⟩ : ∃ S : Pt → ByteArray, Hid (∀ q, S q = (if okP q = true then ⟨(partL q).toArray⟩ else ByteArray.empty)) := ⟨_, fun _ => rfl⟩
  go_enter Try.func3, Try.ntmps3
  go_wp2_with fail
  refine (szPart_any _ _ w.heap.size _ _ (hR'.under (below_box w _)) (by simp) (by omega) (by omega)).mono ?_
  rintro e w1 ⟨y, rfl, hy0, hy1, hy2, hb1⟩
  have z1 : w.heap.size < w1.heap.size := by have := hb1.size; simp at this; omega
  have b1 : Below w.heap.size w w1 := (below_box w _).trans (hb1.mono (by simp))
  have F1 := (Two.new w _ _ _).keep hb1 (by simp)
  clear hb1
  obtain ⟨p0, p1⟩ := id F1
  by_cases hy : y < 0
  · go_wp2_with fail
    go_ret
    exact ⟨rfl, b1⟩
  have hz : szP ⟨name, types⟩ ≤ 1048576 := by have := hy2 (by omega); omega
  go_wp2_with fail
  clear p0 p1
  refine (toPart_any ⟨name, types⟩ w1 w.heap.size _ (hR'.under b1) (by omega)).mono ?_
  rintro e w2 ⟨ta2, tc2, rfl, hb2, hr2⟩
  have z2 := hb2.size
  have b2 : Below w.heap.size w w2 := b1.trans (hb2.mono (by omega))
  have F2 := F1.keep hb2 z1
  clear hb2 F1 b1
  go_wp2_with fail
  refine (PartWriteS_any ⟨name, types⟩ w2 w2.heap.size _ (hr2.sub fun k hk => hk.2) (Nat.le_refl _) hz).mono ?_
  rw [← HS.out]
  rintro e w3 ⟨rfl, hb3⟩
  have z3 := hb3.size
  have b3 : Below w.heap.size w w3 := b2.trans (hb3.mono (by omega))
  have F3 := F2.keep hb3 (by omega)
  clear hb3 F2 b2 hr2
  obtain ⟨p0, p1⟩ := id F3
  go_wp2_with fail
  clear p0 p1
  refine (toPart_any ⟨name, types⟩ w3 w.heap.size _ (hR'.under b3) (by omega)).mono ?_
  rintro e w4 ⟨ta4, tc4, rfl, hb4, hr4⟩
  have z4 := hb4.size
  have b4 : Below w.heap.size w w4 := b3.trans (hb4.mono (by omega))
  have F4 := F3.keep hb4 (by omega)
  clear hb4 F3 b3
  go_wp2_with fail
  refine (PartWrite_any ⟨name, types⟩ _ w4.heap.size _ ((hr4.sub fun k hk => hk.2).under (below_box w4 _)) (by simp) hz).mono ?_
  rw [← HS.out]
  rintro e w5 ⟨rfl, hb5⟩
  have z5 := hb5.size
  have b5 : Below w.heap.size w w5 := (b4.trans ((below_box w4 _).mono (by omega))).trans (hb5.mono (by simp; omega))
  have r5 := ((hr4.sub fun k hk => hk.2).under (below_box w4 _)).under (hb5.mono (by simp))
  have F5 := (F4.keep (below_box w4 _) (by omega)).keep hb5 (by simp; omega)
  have G5 := (Two.new w4 _ _ _).keep hb5 (by simp)
  simp at z5
  clear hb5 F4 b4 hr4
  go_wp2_with fail
  obtain ⟨p0, p1⟩ := F5
  obtain ⟨q0, q1⟩ := id G5
  go_region_with (first
    | (
      go_at_call 8
      refine (toPart_any ⟨name, types⟩ _ w.heap.size _ (hR'.under b5.drew) ?_).mono ?_
      · have := b5.size; simpa using this
      rintro e w6 ⟨ta6, tc6, rfl, hb6, hr6⟩
      have hb6' := below_undrew hb6
      have z6 := hb6'.size
      have r6 : PRep w6 (· < w6.heap.size) ⟨name, types⟩ (.agg #[.string name, .slice ta4 types.length tc4]) := (r5.under (hb6'.mono (by omega))).sub fun k hk => by omega
      have G6 := G5.keep hb6' (by omega)
      obtain ⟨g0, g1⟩ := G6)
    | (
      go_at_call 10
      refine (eqPart_any ⟨name, types⟩ w6 w6.heap.size _ _ r6 (hr6.sub fun k hk => hk.2) (Nat.le_refl _)).mono ?_
      rintro e w7 ⟨rfl, hb7⟩))
  all_goals
    go_wp2_with fail
    go_ret
    exact ⟨rfl, (b5.trans (hb6'.mono b5.size)).trans (hb7.mono (by have := b5.size; omega))⟩
end Go.Proofs.Ytcpflkbbjlonbaa
