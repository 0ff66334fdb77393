/-
  What an error says of a part: the program's faultOf.
-/
import Derived.Test.YtibpieomldhomaaGreatDoorAsU
import Derived.Test.YtibpieomldhomaaGreatDoorIFind
namespace Go.Proofs.YtibpieomldhomaaGreatDoor
set_option linter.unusedSimpArgs false
set_option linter.unusedVariables false
open Go.RowKit Go.Extern.Stop Go.Stop Go.Extern

/-- The library's variable holds the handle of the type error. -/
def Handle (w : World) : Prop := w.cell? ⟨0, 0, none⟩ = some (.iface 121 (.agg #[.pointer (some ⟨2, 47, none⟩)]))
theorem Handle.pos {w : World} (h : Handle w) : 0 < w.heap.size := by
  rcases Nat.eq_zero_or_pos w.heap.size with h0 | h1
  · simp [Handle, World.cell?, h0] at h
  · exact h1
theorem Handle.below {w w' : World} {B : Nat} (h : Handle w) (hb : Below B w w') (hB : 0 < B) : Handle w' := (hb.cell (p := ⟨0, 0, none⟩) hB).trans h

theorem below4 (w : World) (a b c d : Obj) : Below w.heap.size w ((((w.alloc a).alloc b).alloc c).alloc d) := ((below_box2 w a b).alloc (by simp; omega) c).alloc (by simp; omega) d
theorem below3 (w : World) (a b c : Obj) : Below w.heap.size w (((w.alloc a).alloc b).alloc c) := (below_box2 w a b).alloc (by simp; omega) c
theorem frozen_of_block {w w' : World} {b o : Nat} (e : w'.heap[b]? = w.heap[b]?) : w'.frozen? ⟨b, o, none⟩ = w.frozen? ⟨b, o, none⟩ := by simp only [World.frozen?, e]
theorem cell_lt {w : World} {t : Addr} {old : Value} (h : w.cell? t = some old) : t.block < w.heap.size := by
  rcases Nat.lt_or_ge t.block w.heap.size with h1 | h1
  · exact h1
  · simp [World.cell?, Array.getElem?_eq_none h1] at h

theorem hitC (c : Int) (t : Addr) (old : Value) (w : World) (hg : Handle w) (ht : w.cell? t = some old) (hf : w.frozen? t = false) :
    Calls Tryz.prog 34 #[.iface 65 (.int .i64 c), .iface 71 (.pointer (some t))] w fun ev w' => ev = .returned (.bool true) ∧ Below t.block w w' ∧ w'.cell? t = some (.int .i64 c) := by
  have hlt := cell_lt ht
  refine (as_hitC c t old w hg ht hf).mono ?_
  rintro e w' ⟨rfl, rfl⟩
  have hb := below4 w (.cells #[.pointer (some t)] 71) (.cells #[.pointer (some ⟨2, 71, none⟩), .pointer (some ⟨w.heap.size, 0, none⟩), .int .u64 150] 96) (.cells #[.pointer (some ⟨2, 71, none⟩), .pointer (some ⟨w.heap.size, 0, none⟩), .int .u64 150] 96) (.cells #[.int .i64 c] 65)
  exact ⟨rfl, (hb.mono (by omega)).setCell (Nat.le_refl _) _, World.cell?_setCell_same _ _ _ ((hb.cell hlt).trans ht)⟩
theorem thruC (i c : Int) (t : Addr) (old : Value) (w : World) (hg : Handle w) (ht : w.cell? t = some old) (hf : w.frozen? t = false) :
    Calls Tryz.prog 34 #[.iface 67 (.agg #[.int .i64 i, .iface 65 (.int .i64 c)]), .iface 71 (.pointer (some t))] w fun ev w' => ev = .returned (.bool true) ∧ Below t.block w w' ∧ w'.cell? t = some (.int .i64 c) := by
  have hlt := cell_lt ht
  refine (as_thruC i c t old w hg ht hf).mono ?_
  rintro e w' ⟨rfl, rfl⟩
  have hb := (below4 w (.cells #[.pointer (some t)] 71) (.cells #[.pointer (some ⟨2, 71, none⟩), .pointer (some ⟨w.heap.size, 0, none⟩), .int .u64 150] 96) (.cells #[.pointer (some ⟨2, 71, none⟩), .pointer (some ⟨w.heap.size, 0, none⟩), .int .u64 150] 96) (.cells #[.int .i64 i, .iface 65 (.int .i64 c)] 67)).alloc (by simp; omega) (.cells #[.int .i64 c] 65)
  exact ⟨rfl, (hb.mono (by omega)).setCell (Nat.le_refl _) _, World.cell?_setCell_same _ _ _ ((hb.cell hlt).trans ht)⟩
theorem hitP (i c : Int) (tb : Nat) (o0 o1 : Value) (w : World) (hg : Handle w) (ht0 : w.cell? ⟨tb, 0, none⟩ = some o0) (ht1 : w.cell? ⟨tb, 1, none⟩ = some o1) (hf0 : w.frozen? ⟨tb, 0, none⟩ = false) (hf1 : w.frozen? ⟨tb, 1, none⟩ = false) :
    Calls Tryz.prog 34 #[.iface 67 (.agg #[.int .i64 i, .iface 65 (.int .i64 c)]), .iface 72 (.pointer (some ⟨tb, 0, none⟩))] w fun ev w' => ev = .returned (.bool true) ∧ Below tb w w' ∧ w'.cell? ⟨tb, 0, none⟩ = some (.int .i64 i) := by
  have hlt := cell_lt ht0
  refine (as_hitP i c tb o0 o1 w hg ht0 ht1 hf0 hf1).mono ?_
  rintro e w' ⟨rfl, rfl⟩
  have hb := below4 w (.cells #[.pointer (some ⟨tb, 0, none⟩)] 72) (.cells #[.pointer (some ⟨2, 72, none⟩), .pointer (some ⟨w.heap.size, 0, none⟩), .int .u64 150] 96) (.cells #[.pointer (some ⟨2, 72, none⟩), .pointer (some ⟨w.heap.size, 0, none⟩), .int .u64 150] 96) (.cells #[.int .i64 i, .iface 65 (.int .i64 c)] 67)
  have hlt' : tb < w.heap.size := hlt
  have hb2 := hb.mono (Nat.le_of_lt hlt')
  exact ⟨rfl, (hb2.setCell (by show tb ≤ tb; exact Nat.le_refl _) _).setCell (by show tb ≤ tb; exact Nat.le_refl _) _, (World.cell?_setCell_other _ _ _ _ (by simp)).trans (World.cell?_setCell_same _ _ _ ((hb.cell hlt).trans ht0))⟩
theorem missP (c : Int) (t : Addr) (w : World) (hg : Handle w) :
    Calls Tryz.prog 34 #[.iface 65 (.int .i64 c), .iface 72 (.pointer (some t))] w fun ev w' => ev = .returned (.bool false) ∧ Below w.heap.size w w' := by
  refine (as_missP c t w hg).mono ?_
  rintro e w' ⟨rfl, rfl⟩
  exact ⟨rfl, (below_box2 w _ _).alloc (by simp; omega) _⟩

theorem faultOf_nil (w : World) : Calls Tryz.prog 23 #[.nilIface] w fun e w' => e = .returned (.agg #[.int .i64 0, .int .i64 0]) ∧ Below w.heap.size w w' := by
  go_enter Tryz.func23, Tryz.ntmps23
  go_wp2_with (go_at_call 34; refine (as_nil _ _).mono ?_; rintro e w' ⟨rfl, rfl⟩)
  refine bodyPost_ret (v := .agg #[.int .i64 0, .int .i64 0]) ?res rfl ⟨rfl, below4 _ _ _ _ _⟩
  case res => simp [results, Tryz.results23, go_sem]

set_option maxRecDepth 20000 in
set_option maxHeartbeats 1600000 in
theorem faultOf_code (c : Int) (w : World) (hg : Handle w) : Calls Tryz.prog 23 #[.iface 65 (.int .i64 c)] w fun e w' => e = .returned (.agg #[.int .i64 0, .int .i64 c]) ∧ Below w.heap.size w w' := by
  have hpos := hg.pos
  obtain ⟨X, hXe⟩ : ∃ X, X = ((w.alloc (.cells #[.int .i64 0, .int .i64 0] 35)).alloc (.cells #[.int .i64 0, .int .i64 0] 35)).alloc (.cells #[.int .i64 0] 65) := ⟨_, rfl⟩
  have hXs : X.heap.size = w.heap.size + 1 + 1 + 1 := by rw [hXe]; simp
  have hXb : Below w.heap.size w X := by rw [hXe]; exact below3 _ _ _ _
  have hXc : X.cell? ⟨w.heap.size + 1 + 1, 0, none⟩ = some (.int .i64 0) ∧ X.frozen? ⟨w.heap.size + 1 + 1, 0, none⟩ = false := by
    have hb : X.heap[w.heap.size + 1 + 1]? = some (.cells #[.int .i64 0] 65 (0, 0)) := by
      have := heap_alloc_new ((w.alloc (.cells #[.int .i64 0, .int .i64 0] 35)).alloc (.cells #[.int .i64 0, .int .i64 0] 35)) (.cells #[.int .i64 0] 65)
      rw [hXe]
      simpa using this
    exact box_at hb 0 (by simp)
  have hs1 : (w.alloc (.cells #[.int .i64 0, .int .i64 0] 35)).heap.size = w.heap.size + 1 := by simp
  have hs2 : ((w.alloc (.cells #[.int .i64 0, .int .i64 0] 35)).alloc (.cells #[.int .i64 0, .int .i64 0] 35)).heap.size = w.heap.size + 1 + 1 := by simp
  have hX0 : X.heap[w.heap.size]? = some (.cells #[.int .i64 0, .int .i64 0] 35 (0, 0)) := by
    rw [hXe, Below.heap_alloc _ _ _ (by rw [hs2]; omega), Below.heap_alloc _ _ _ (by rw [hs1]; omega)]; exact heap_alloc_new _ _
  have hX1 : X.heap[w.heap.size + 1]? = some (.cells #[.int .i64 0, .int .i64 0] 35 (0, 0)) := by
    rw [hXe, Below.heap_alloc _ _ _ (by rw [hs2]; omega)]
    have := heap_alloc_new (w.alloc (.cells #[.int .i64 0, .int .i64 0] 35)) (.cells #[.int .i64 0, .int .i64 0] 35)
    rw [hs1] at this
    exact this
  have hXg : Handle X := hg.below hXb hpos
  have C1 := hitC c ⟨w.heap.size + 1 + 1, 0, none⟩ _ X hXg hXc.1 hXc.2
  rw [hXe] at C1 hX0 hX1 hXs hXb
  clear hXe hXc hXg hs1 hs2
  go_enter Tryz.func23, Tryz.ntmps23
  go_wp2_with fail
  refine C1.mono ?_
  clear C1
  rintro e w1 ⟨rfl, hb1, hc1⟩
  have hbb : Below (w.heap.size + 1 + 1) (((w.alloc (.cells #[.int .i64 0, .int .i64 0] 35)).alloc (.cells #[.int .i64 0, .int .i64 0] 35)).alloc (.cells #[.int .i64 0] 65)) w1 := hb1
  have h0 := (hbb.block w.heap.size (by omega)).trans hX0
  have h1 := (hbb.block (w.heap.size + 1) (by omega)).trans hX1
  have hw1 : Below w.heap.size w w1 := hXb.trans (hbb.mono (by omega))
  have hz1 := hbb.size
  rw [hXs] at hz1
  clear hX0 hX1 hXs hXb hb1 hbb
  obtain ⟨a0, b0⟩ := box_at h0 0 (by simp)
  obtain ⟨a1, b1⟩ := box_at h0 1 (by simp)
  obtain ⟨a2, b2⟩ := box_at h1 0 (by simp)
  obtain ⟨a3, b3⟩ := box_at h1 1 (by simp)
  simp only [List.getElem_toArray, List.getElem_cons_succ, List.getElem_cons_zero] at a0 a1 a2 a3
  go_wp2_with fail
  obtain ⟨W2, hW2⟩ : ∃ W2, W2 = w1.setCell ⟨w.heap.size + 1, 1, none⟩ (.int .i64 c) := ⟨_, rfl⟩
  rw [← hW2]
  have s2 : W2.heap.size = w1.heap.size := by rw [hW2, size_set]
  have hw2 : Below w.heap.size w W2 := by rw [hW2]; exact hw1.setCell (by show w.heap.size ≤ w.heap.size + 1; omega) _
  have q0 : W2.cell? ⟨w.heap.size, 0, none⟩ = some (.int .i64 0) := by rw [hW2]; exact (World.cell?_setCell_other _ _ _ _ (by simp)).trans a0
  have q1 : W2.cell? ⟨w.heap.size, 1, none⟩ = some (.int .i64 0) := by rw [hW2]; exact (World.cell?_setCell_other _ _ _ _ (by simp)).trans a1
  have q2 : W2.cell? ⟨w.heap.size + 1, 0, none⟩ = some (.int .i64 0) := by rw [hW2]; exact (World.cell?_setCell_other _ _ _ _ (by simp)).trans a2
  have q3 : W2.cell? ⟨w.heap.size + 1, 1, none⟩ = some (.int .i64 c) := by rw [hW2]; exact World.cell?_setCell_same _ _ _ a3
  have r0 : W2.frozen? ⟨w.heap.size, 0, none⟩ = false := by rw [hW2]; simpa using b0
  have r1 : W2.frozen? ⟨w.heap.size, 1, none⟩ = false := by rw [hW2]; simpa using b1
  have r2 : W2.frozen? ⟨w.heap.size + 1, 0, none⟩ = false := by rw [hW2]; simpa using b2
  clear hW2 a0 a1 a2 a3 b0 b1 b2 b3 h0 h1 hc1
  have hg2 : Handle (W2.alloc (.cells #[.int .i64 0, .nilIface] 67)) := (hg.below hw2 hpos).below (below_box _ _) (by omega)
  have hbP : (W2.alloc (.cells #[.int .i64 0, .nilIface] 67)).heap[w1.heap.size]? = some (.cells #[.int .i64 0, .nilIface] 67 (0, 0)) := by rw [← s2]; exact heap_alloc_new _ _
  refine (missP c ⟨w1.heap.size, 0, none⟩ (W2.alloc (.cells #[.int .i64 0, .nilIface] 67)) hg2).mono ?_
  rintro e w3 ⟨rfl, hb3'⟩
  have hb3 : Below w1.heap.size (W2.alloc (.cells #[.int .i64 0, .nilIface] 67)) w3 := hb3'.mono (by simp; omega)
  clear hb3'
  have hw3 : Below w.heap.size w w3 := (hw2.trans ((below_box W2 _).mono (by omega))).trans (hb3.mono (by omega))
  have CC : ∀ b o, b < w1.heap.size → w3.cell? ⟨b, o, none⟩ = W2.cell? ⟨b, o, none⟩ ∧ w3.frozen? ⟨b, o, none⟩ = W2.frozen? ⟨b, o, none⟩ := fun b o h => by
    have e : w3.heap[b]? = W2.heap[b]? := (hb3.block b h).trans (Below.heap_alloc _ _ _ (by omega))
    exact ⟨World.cell?_of_block (a := ⟨b, o, none⟩) e, frozen_of_block e⟩
  have p0 := (CC w.heap.size 0 (by omega)).1.trans q0
  have p1 := (CC w.heap.size 1 (by omega)).1.trans q1
  have p2 := (CC (w.heap.size + 1) 0 (by omega)).1.trans q2
  have p3 := (CC (w.heap.size + 1) 1 (by omega)).1.trans q3
  have z0 := (CC w.heap.size 0 (by omega)).2.trans r0
  have z1 := (CC w.heap.size 1 (by omega)).2.trans r1
  have z2 := (CC (w.heap.size + 1) 0 (by omega)).2.trans r2
  clear CC q0 q1 q2 q3 r0 r1 r2 hb3 hbP hg2
  go_wp2_with fail
  refine bodyPost_ret (v := .agg #[.int .i64 0, .int .i64 c]) ?res rfl ⟨rfl, ?_⟩
  case res => simp [results, Tryz.results23, go_sem, p0, p1, p2, p3]
  exact (hw3.setCell (by show w.heap.size ≤ w.heap.size; exact Nat.le_refl _) _).setCell (by show w.heap.size ≤ w.heap.size; exact Nat.le_refl _) _

set_option maxRecDepth 20000 in
set_option maxHeartbeats 1600000 in
theorem faultOf_place (i c : Int) (w : World) (hg : Handle w) : Calls Tryz.prog 23 #[.iface 67 (.agg #[.int .i64 i, .iface 65 (.int .i64 c)])] w fun e w' => e = .returned (.agg #[.int .i64 i, .int .i64 c]) ∧ Below w.heap.size w w' := by
  have hpos := hg.pos
  obtain ⟨X, hXe⟩ : ∃ X, X = ((w.alloc (.cells #[.int .i64 0, .int .i64 0] 35)).alloc (.cells #[.int .i64 0, .int .i64 0] 35)).alloc (.cells #[.int .i64 0] 65) := ⟨_, rfl⟩
  have hXs : X.heap.size = w.heap.size + 1 + 1 + 1 := by rw [hXe]; simp
  have hXb : Below w.heap.size w X := by rw [hXe]; exact below3 _ _ _ _
  have hXc : X.cell? ⟨w.heap.size + 1 + 1, 0, none⟩ = some (.int .i64 0) ∧ X.frozen? ⟨w.heap.size + 1 + 1, 0, none⟩ = false := by
    have hb : X.heap[w.heap.size + 1 + 1]? = some (.cells #[.int .i64 0] 65 (0, 0)) := by
      have := heap_alloc_new ((w.alloc (.cells #[.int .i64 0, .int .i64 0] 35)).alloc (.cells #[.int .i64 0, .int .i64 0] 35)) (.cells #[.int .i64 0] 65)
      rw [hXe]
      simpa using this
    exact box_at hb 0 (by simp)
  have hs1 : (w.alloc (.cells #[.int .i64 0, .int .i64 0] 35)).heap.size = w.heap.size + 1 := by simp
  have hs2 : ((w.alloc (.cells #[.int .i64 0, .int .i64 0] 35)).alloc (.cells #[.int .i64 0, .int .i64 0] 35)).heap.size = w.heap.size + 1 + 1 := by simp
  have hX0 : X.heap[w.heap.size]? = some (.cells #[.int .i64 0, .int .i64 0] 35 (0, 0)) := by
    rw [hXe, Below.heap_alloc _ _ _ (by rw [hs2]; omega), Below.heap_alloc _ _ _ (by rw [hs1]; omega)]; exact heap_alloc_new _ _
  have hX1 : X.heap[w.heap.size + 1]? = some (.cells #[.int .i64 0, .int .i64 0] 35 (0, 0)) := by
    rw [hXe, Below.heap_alloc _ _ _ (by rw [hs2]; omega)]
    have := heap_alloc_new (w.alloc (.cells #[.int .i64 0, .int .i64 0] 35)) (.cells #[.int .i64 0, .int .i64 0] 35)
    rw [hs1] at this
    exact this
  have hXg : Handle X := hg.below hXb hpos
  have C1 := thruC i c ⟨w.heap.size + 1 + 1, 0, none⟩ _ X hXg hXc.1 hXc.2
  rw [hXe] at C1 hX0 hX1 hXs hXb
  clear hXe hXc hXg hs1 hs2
  go_enter Tryz.func23, Tryz.ntmps23
  go_wp2_with fail
  refine C1.mono ?_
  clear C1
  rintro e w1 ⟨rfl, hb1, hc1⟩
  have hbb : Below (w.heap.size + 1 + 1) (((w.alloc (.cells #[.int .i64 0, .int .i64 0] 35)).alloc (.cells #[.int .i64 0, .int .i64 0] 35)).alloc (.cells #[.int .i64 0] 65)) w1 := hb1
  have h0 := (hbb.block w.heap.size (by omega)).trans hX0
  have h1 := (hbb.block (w.heap.size + 1) (by omega)).trans hX1
  have hw1 : Below w.heap.size w w1 := hXb.trans (hbb.mono (by omega))
  have hz1 := hbb.size
  rw [hXs] at hz1
  clear hX0 hX1 hXs hXb hb1 hbb
  obtain ⟨a0, b0⟩ := box_at h0 0 (by simp)
  obtain ⟨a1, b1⟩ := box_at h0 1 (by simp)
  obtain ⟨a2, b2⟩ := box_at h1 0 (by simp)
  obtain ⟨a3, b3⟩ := box_at h1 1 (by simp)
  simp only [List.getElem_toArray, List.getElem_cons_succ, List.getElem_cons_zero] at a0 a1 a2 a3
  go_wp2_with fail
  obtain ⟨W2, hW2⟩ : ∃ W2, W2 = w1.setCell ⟨w.heap.size + 1, 1, none⟩ (.int .i64 c) := ⟨_, rfl⟩
  rw [← hW2]
  have s2 : W2.heap.size = w1.heap.size := by rw [hW2, size_set]
  have hw2 : Below w.heap.size w W2 := by rw [hW2]; exact hw1.setCell (by show w.heap.size ≤ w.heap.size + 1; omega) _
  have q0 : W2.cell? ⟨w.heap.size, 0, none⟩ = some (.int .i64 0) := by rw [hW2]; exact (World.cell?_setCell_other _ _ _ _ (by simp)).trans a0
  have q1 : W2.cell? ⟨w.heap.size, 1, none⟩ = some (.int .i64 0) := by rw [hW2]; exact (World.cell?_setCell_other _ _ _ _ (by simp)).trans a1
  have q2 : W2.cell? ⟨w.heap.size + 1, 0, none⟩ = some (.int .i64 0) := by rw [hW2]; exact (World.cell?_setCell_other _ _ _ _ (by simp)).trans a2
  have q3 : W2.cell? ⟨w.heap.size + 1, 1, none⟩ = some (.int .i64 c) := by rw [hW2]; exact World.cell?_setCell_same _ _ _ a3
  have r0 : W2.frozen? ⟨w.heap.size, 0, none⟩ = false := by rw [hW2]; simpa using b0
  have r1 : W2.frozen? ⟨w.heap.size, 1, none⟩ = false := by rw [hW2]; simpa using b1
  have r2 : W2.frozen? ⟨w.heap.size + 1, 0, none⟩ = false := by rw [hW2]; simpa using b2
  clear hW2 a0 a1 a2 a3 b0 b1 b2 b3 h0 h1 hc1
  have hg2 : Handle (W2.alloc (.cells #[.int .i64 0, .nilIface] 67)) := (hg.below hw2 hpos).below (below_box _ _) (by omega)
  have hbP : (W2.alloc (.cells #[.int .i64 0, .nilIface] 67)).heap[w1.heap.size]? = some (.cells #[.int .i64 0, .nilIface] 67 (0, 0)) := by rw [← s2]; exact heap_alloc_new _ _
  refine (hitP i c w1.heap.size (.int .i64 0) .nilIface (W2.alloc (.cells #[.int .i64 0, .nilIface] 67)) hg2 (box_at hbP 0 (by simp)).1 (box_at hbP 1 (by simp)).1 (box_at hbP 0 (by simp)).2 (box_at hbP 1 (by simp)).2).mono ?_
  rintro e w3 ⟨rfl, hb3, hc3⟩
  have hw3 : Below w.heap.size w w3 := (hw2.trans ((below_box W2 _).mono (by omega))).trans (hb3.mono (by omega))
  have CC : ∀ b o, b < w1.heap.size → w3.cell? ⟨b, o, none⟩ = W2.cell? ⟨b, o, none⟩ ∧ w3.frozen? ⟨b, o, none⟩ = W2.frozen? ⟨b, o, none⟩ := fun b o h => by
    have e : w3.heap[b]? = W2.heap[b]? := (hb3.block b h).trans (Below.heap_alloc _ _ _ (by omega))
    exact ⟨World.cell?_of_block (a := ⟨b, o, none⟩) e, frozen_of_block e⟩
  have p0 := (CC w.heap.size 0 (by omega)).1.trans q0
  have p1 := (CC w.heap.size 1 (by omega)).1.trans q1
  have p2 := (CC (w.heap.size + 1) 0 (by omega)).1.trans q2
  have p3 := (CC (w.heap.size + 1) 1 (by omega)).1.trans q3
  have z0 := (CC w.heap.size 0 (by omega)).2.trans r0
  have z1 := (CC w.heap.size 1 (by omega)).2.trans r1
  have z2 := (CC (w.heap.size + 1) 0 (by omega)).2.trans r2
  clear CC q0 q1 q2 q3 r0 r1 r2 hb3 hbP hg2
  go_wp2_with fail
  refine bodyPost_ret (v := .agg #[.int .i64 i, .int .i64 c]) ?res rfl ⟨rfl, ?_⟩
  case res => simp [results, Tryz.results23, go_sem, p0, p1, p2, p3]
  exact ((hw3.setCell (by show w.heap.size ≤ w.heap.size + 1; omega) _).setCell (by show w.heap.size ≤ w.heap.size; exact Nat.le_refl _) _).setCell (by show w.heap.size ≤ w.heap.size; exact Nat.le_refl _) _
end Go.Proofs.YtibpieomldhomaaGreatDoor
