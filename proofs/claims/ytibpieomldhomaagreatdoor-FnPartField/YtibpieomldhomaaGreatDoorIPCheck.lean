/-
  What is wrong with a part, as the program tells it: PartCheck.
-/
import Derived.Test.YtibpieomldhomaaGreatDoorPCheck
import Derived.Test.YtibpieomldhomaaGreatDoorIFaultOf
namespace Go.Proofs.YtibpieomldhomaaGreatDoor
set_option linter.unusedSimpArgs false
set_option linter.unusedVariables false
open Go.RowKit

theorem faultOf_part (p : Pt) (w : World) (hg : Handle w) : Calls Tryz.prog 23 #[partErr p] w fun e w' => e = .returned (.agg #[.int .i64 (partFault p).1, .int .i64 (partFault p).2]) ∧ Below w.heap.size w w' := by
  unfold partErr partFault
  by_cases a : 5 < p.types.length
  · rw [if_pos a, if_pos a]; exact faultOf_place _ _ w hg
  rw [if_neg a, if_neg a]
  by_cases b : nameB p.name = false
  · rw [if_pos b, if_pos b]; exact faultOf_code _ w hg
  rw [if_neg b, if_neg b]
  by_cases c : hasRootB p = false
  · rw [if_pos c, if_pos c]; exact faultOf_code _ w hg
  rw [if_neg c, if_neg c]
  by_cases d : badT p < p.types.length
  · have hb : typeCode p (badT p) ≠ 0 := typeCode_bad p _ 0 (by rw [Nat.zero_add]; exact d)
    rw [if_pos d, if_pos d, codeErr, if_neg hb]; exact faultOf_place _ _ w hg
  rw [if_neg d, if_neg d]
  by_cases e : 1500 < (partL p).length
  · rw [if_pos e, if_pos e]; exact faultOf_code _ w hg
  · rw [if_neg e, if_neg e]; exact faultOf_nil w

set_option maxRecDepth 20000 in
set_option maxHeartbeats 1600000 in
theorem PartCheckI_any (p : Pt) (w : World) (B : Nat) (v : Value) (hg : Handle w) (hP : PRep w (· < B) p v) (hB : B ≤ w.heap.size) (hz : szP p ≤ 1048576) :
    Calls Tryz.prog 8 #[v] w fun e w' => e = .returned (.agg #[.int .i64 (partFault p).1, .int .i64 (partFault p).2]) ∧ Below w.heap.size w w' := by
  have hP' := hP
  have hpos := hg.pos
  obtain ⟨pname, types⟩ := p
  obtain ⟨ta, tc, rfl, hK, hnc, hpn⟩ := hP
  have hbx := below_box2 w (.cells #[.string pname, .slice ta types.length tc] 25) (.cells #[.int .i64 0, .int .i64 0] 35)
  have hX1 : ((w.alloc (.cells #[.string pname, .slice ta types.length tc] 25)).alloc (.cells #[.int .i64 0, .int .i64 0] 35)).heap[w.heap.size + 1]? = some (.cells #[.int .i64 0, .int .i64 0] 35 (0, 0)) := by
    have := heap_alloc_new (w.alloc (.cells #[.string pname, .slice ta types.length tc] 25)) (.cells #[.int .i64 0, .int .i64 0] 35)
    simpa using this
  have C1 := checkPart_any ⟨pname, types⟩ _ B _ (hP'.under (hbx.mono hB)) (by simp; omega) hz
  have C2 := fun W h => faultOf_part ⟨pname, types⟩ W h
  generalize partErr ⟨pname, types⟩ = pe at C1 C2
  generalize partFault ⟨pname, types⟩ = pf at C2 ⊢
  obtain ⟨fa, fc⟩ := pf
  go_enter Tryz.func8, Tryz.ntmps8
  go_wp2_with fail
  refine C1.mono ?_
  clear C1
  rintro e w1 ⟨rfl, hb1⟩
  have hw1 : Below w.heap.size w w1 := hbx.trans (hb1.mono (by simp; omega))
  have h1 := (hb1.block (w.heap.size + 1) (by simp)).trans hX1
  have hz1 := hb1.size
  simp at hz1
  clear hX1 hb1
  go_wp2_with fail
  refine (C2 w1 (hg.below hw1 hpos)).mono ?_
  clear C2
  rintro e w2 ⟨rfl, hb2⟩
  obtain ⟨a0, b0⟩ := box_at ((hb2.block (w.heap.size + 1) (by omega)).trans h1) 0 (by simp)
  obtain ⟨a1, b1⟩ := box_at ((hb2.block (w.heap.size + 1) (by omega)).trans h1) 1 (by simp)
  simp only [List.getElem_toArray, List.getElem_cons_succ, List.getElem_cons_zero] at a0 a1
  have hw2 : Below w.heap.size w w2 := hw1.trans (hb2.mono (by omega))
  clear h1 hb2 hw1
  go_wp2_with fail
  refine bodyPost_ret (v := .agg #[.int .i64 fa, .int .i64 fc]) ?res rfl ⟨rfl, ?_⟩
  case res => simp [results, Tryz.results8, go_sem, a0, a1]
  exact (hw2.setCell (by show w.heap.size ≤ w.heap.size + 1; omega) _).setCell (by show w.heap.size ≤ w.heap.size + 1; omega) _
end Go.Proofs.YtibpieomldhomaaGreatDoor
