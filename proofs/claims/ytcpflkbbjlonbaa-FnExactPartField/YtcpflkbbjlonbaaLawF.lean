/-
  The law of PartField, walked: for every part and every two texts it returns true and writes nothing that was there.
-/
import Derived.Test.YtcpflkbbjlonbaaPPField2
import Derived.Deep.RegionHeld3
namespace Go.Proofs.Ytcpflkbbjlonbaa
set_option linter.unusedSimpArgs false
set_option linter.unusedVariables false
open Go.RowKit

theorem WStrs.of {w : World} {lo hi : Nat} {ns : List ByteArray} {a : Option Addr} (h : Strs w (fun b => lo ≤ b ∧ b < hi) ns a) (nf : NF lo w) : WStrs w lo hi ns.length a := fun hn => by
  obtain ⟨b, off, e, hb, hc⟩ := h.1 (by intro e; simp [e] at hn)
  exact ⟨b, off, e, hb.1, hb.2, fun i hi => ⟨⟨_, hc i hi⟩, nf _ hb.1⟩⟩
theorem WFs.of {w : World} {lo hi : Nat} {fs : List F} {a : Option Addr} (h : FsRep w (fun b => lo ≤ b ∧ b < hi) fs a) (nf : NF lo w) : WFs w lo hi fs a := fun hn => by
  obtain ⟨-, C, hA, hr⟩ := h
  obtain ⟨b, off, e, hb, hc⟩ := hA hn
  refine ⟨b, off, e, hb.1, hb.2, fun i hi => ?_⟩
  obtain ⟨e0, e1, e2, e3, e4, e5, e6, na, nc, e7, hS, -⟩ := (hr i hi).parts
  have c : ∀ j, j < 8 → w.cell? ⟨b, off + i * 8 + j, none⟩ = some (C i j) := fun j hj => hc i hi j hj
  have c0 : w.cell? ⟨b, off + i * 8, none⟩ = some (C i 0) := c 0 (by omega)
  exact ⟨⟨⟨_, c0.trans (congrArg some e0)⟩, nf _ hb.1⟩, ⟨⟨_, (c 1 (by omega)).trans (congrArg some e1)⟩, nf _ hb.1⟩, ⟨⟨_, (c 2 (by omega)).trans (congrArg some e2)⟩, nf _ hb.1⟩, ⟨⟨_, (c 3 (by omega)).trans (congrArg some e3)⟩, nf _ hb.1⟩, ⟨⟨_, (c 4 (by omega)).trans (congrArg some e4)⟩, nf _ hb.1⟩, ⟨⟨_, (c 5 (by omega)).trans (congrArg some e5)⟩, nf _ hb.1⟩, ⟨⟨_, (c 6 (by omega)).trans (congrArg some e6)⟩, nf _ hb.1⟩, na, nc, (c 7 (by omega)).trans (congrArg some e7), WStrs.of hS nf⟩
theorem WTs.of {w : World} {lo hi : Nat} {ts : List T} {a : Option Addr} (h : TsRep w (fun b => lo ≤ b ∧ b < hi) ts a) (nf : NF lo w) : WTs w lo hi ts a := fun hn => by
  obtain ⟨-, C, hA, hr⟩ := h
  obtain ⟨b, off, e, hb, hc⟩ := hA hn
  refine ⟨b, off, e, hb.1, hb.2, fun i hi => ?_⟩
  obtain ⟨fa, fc, e0, e1, e2, hF, -⟩ := (hr i hi).parts
  have c : ∀ j, j < 3 → w.cell? ⟨b, off + i * 3 + j, none⟩ = some (C i j) := fun j hj => hc i hi j hj
  have c0 : w.cell? ⟨b, off + i * 3, none⟩ = some (C i 0) := c 0 (by omega)
  exact ⟨⟨⟨_, c0.trans (congrArg some e0)⟩, nf _ hb.1⟩, ⟨⟨_, (c 1 (by omega)).trans (congrArg some e1)⟩, nf _ hb.1⟩, fa, fc, (c 2 (by omega)).trans (congrArg some e2), WFs.of hF nf⟩
theorem held_keep {w w' : World} {n : Nat} {a : Option Addr} (h : 0 < n → ∃ b off, a = some ⟨b, off, none⟩ ∧ ∀ i, i < n → w.cell? ⟨b, off + i, none⟩ = some (.string (mtext (1 + i)))) (hb : Below w.heap.size w w') :
    0 < n → ∃ b off, a = some ⟨b, off, none⟩ ∧ ∀ i, i < n → w'.cell? ⟨b, off + i, none⟩ = some (.string (mtext (1 + i))) := fun h0 => by
  obtain ⟨b, off, e, hc⟩ := h h0
  exact ⟨b, off, e, fun i hi => (hb.cell (cell_block (hc i hi))).trans (hc i hi)⟩
theorem Marked.below {lo hi B : Nat} {w w' : World} (m : Marked lo hi w w') (h1 : B ≤ lo) (h2 : B ≤ w.heap.size) : Below B w w' := ⟨m.os, m.tape, m.output, m.size, fun k hk => m.block k (by omega) (by omega)⟩

set_option maxRecDepth 20000 in
set_option maxHeartbeats 6400000 in
theorem lawF_walk (p : Pt) (s f : ByteArray) (w : World) (v : Value) (hs : s.size ≤ maxLen) (hf : f.size ≤ maxLen) (hR : PRep w (· < w.heap.size) p v) :
    Calls Try.prog 4 #[v, .string s, .string f] w fun e w' => e = .returned (.bool true) ∧ Below w.heap.size w w' := by
  have hR' := hR
  unfold maxLen at hs hf
  obtain ⟨name, types⟩ := p
  obtain ⟨ta, tc, rfl, -⟩ := hR
  simp only at hR'
  by_cases h1 : 1048576 < s.size
  · have d1 : (1048576 : Int) < (s.size : Int) := by omega
    go_enter Try.func4, Try.ntmps4
    go_wp2_with fail
    go_ret
    exact ⟨rfl, below_box _ _⟩
  have d1 : ¬ (1048576 : Int) < (s.size : Int) := by omega
  by_cases h2 : 1048576 < f.size
  · have d2 : (1048576 : Int) < (f.size : Int) := by omega
    go_enter Try.func4, Try.ntmps4
    go_wp2_with fail
    go_ret
    exact ⟨rfl, below_box _ _⟩
  have d2 : ¬ (1048576 : Int) < (f.size : Int) := by omega
  go_enter Try.func4, Try.ntmps4
  go_wp2_with fail
  clear d1 d2 h1 h2
  refine (szPart_any _ _ w.heap.size _ _ (hR'.under (below_box w _)) (by simp) (by omega) (by omega)).mono ?_
  rintro e w1 ⟨y, rfl, hy0, hy1, hy2, hb1⟩
  have z1 : w.heap.size < w1.heap.size := by have := hb1.size; simp at this; omega
  have b1 : Below w.heap.size w w1 := (below_box w _).trans (hb1.mono (by simp))
  have B1 : w1.heap[w.heap.size]? = some (.cells #[.string name, .slice ta types.length tc] 24 (0, 0)) := (hb1.block _ (by simp)).trans (heap_alloc_new _ _)
  clear hb1
  have p0 := (box_at B1 0 (by simp)).1
  have p1 := (box_at B1 1 (by simp)).1
  simp only [List.getElem_toArray, List.getElem_cons_succ, List.getElem_cons_zero] at p0 p1
  by_cases hy : y < 0
  · go_wp2_with fail
    go_ret
    exact ⟨rfl, b1⟩
  have hz : szP ⟨name, types⟩ ≤ 1048576 := by have := hy2 (by omega); omega
  have hnn := fieldAns_needs ⟨name, types⟩ s f hz
  obtain ⟨F0, OK, HF⟩ : ∃ F0 OK, Hid (fieldAns ⟨name, types⟩ s f = F0 ∧ fieldOkB ⟨name, types⟩ s f = OK) := ⟨_, _, rfl, rfl⟩
  rw [HF.out.1] at hnn
  clear hy0 hy1 hy2
  go_wp2_with fail
  clear p0 p1
  refine (toPart_any ⟨name, types⟩ w1 w.heap.size _ (hR'.under b1) (by omega)).mono ?_
  rintro e w2 ⟨ta2, tc2, rfl, hb2, hr2⟩
  have z2 := hb2.size
  go_wp2_with fail
  refine (PartFieldS_any ⟨name, types⟩ s f w2 w2.heap.size _ (hr2.sub fun k hk => hk.2) (Nat.le_refl _) hz).mono ?_
  rw [HF.out.1, HF.out.2]
  rintro e w3 ⟨nm0, of0, l0, m0, fr0, hi0, sh0, na0, nc0, rfl, hb3, hR0⟩
  have z3 := hb3.size
  have b3 : Below w.heap.size w w3 := (b1.trans (hb2.mono (by omega))).trans (hb3.mono (by omega))
  have B3 := (hb3.block _ (by omega)).trans ((hb2.block _ (by omega)).trans B1)
  clear hb2 hb3 hr2 b1 B1
  have zA : (w3.alloc (.cells #[.string nm0, .string of0, .bool l0, .bool m0, .bool fr0, .bool hi0, .bool sh0, .slice na0 F0.needs.length nc0] 35)).heap.size = w3.heap.size + 1 := by simp
  have bA := (below_box w3 (.cells #[.string nm0, .string of0, .bool l0, .bool m0, .bool fr0, .bool hi0, .bool sh0, .slice na0 F0.needs.length nc0] 35))
  have BA0 := (bA.block _ (by omega)).trans B3
  have BA8 := heap_alloc_new w3 (.cells #[.string nm0, .string of0, .bool l0, .bool m0, .bool fr0, .bool hi0, .bool sh0, .slice na0 F0.needs.length nc0] 35)
  have RA0 := hR0.mono fun k hk => bA.block k hk.2
  have b3a : Below w.heap.size w (w3.alloc (.cells #[.string nm0, .string of0, .bool l0, .bool m0, .bool fr0, .bool hi0, .bool sh0, .slice na0 F0.needs.length nc0] 35)) := b3.trans (bA.mono (by omega))
  clear hR0 b3 B3 bA
  have p0 := (box_at BA0 0 (by simp)).1
  have p1 := (box_at BA0 1 (by simp)).1
  simp only [List.getElem_toArray, List.getElem_cons_succ, List.getElem_cons_zero] at p0 p1
  go_wp2_with fail
  clear p0 p1
  refine (toPart_nf ⟨name, types⟩ (w3.alloc (.cells #[.string nm0, .string of0, .bool l0, .bool m0, .bool fr0, .bool hi0, .bool sh0, .slice na0 F0.needs.length nc0] 35)) w.heap.size _ (hR'.under b3a) (by omega)).mono ?_
  rintro e w4 ⟨ta4, tc4, rfl, hb4, hr4, nf4⟩
  have z4 := hb4.size
  rw [zA] at z4 hr4 nf4
  have HX4 : Hid (WTs w4 (w3.heap.size + 1) w4.heap.size types ta4) := by
    obtain ⟨ta5, tc5, e5, hK, -⟩ := hr4
    simp only [Value.agg.injEq, Array.mk.injEq, List.cons.injEq, Value.slice.injEq, and_true, true_and] at e5
    obtain ⟨rfl, rfl⟩ := e5
    exact WTs.of hK nf4
  have b4 : Below w.heap.size w w4 := b3a.trans (hb4.mono (by rw [zA]; omega))
  have B40 := (hb4.block _ (by rw [zA]; omega)).trans BA0
  have B48 := (hb4.block _ (by rw [zA]; omega)).trans BA8
  have R40 := RA0.mono fun k hk => hb4.block k (by rw [zA]; omega)
  clear hb4 BA0 BA8 RA0 b3a nf4 zA
  -- the program's answer
  have zB : (w4.alloc (.cells #[.string name, .slice ta4 types.length tc4] 29)).heap.size = w4.heap.size + 1 := by simp
  have bB := (below_box w4 (.cells #[.string name, .slice ta4 types.length tc4] 29))
  have BB0 := (bB.block _ (by omega)).trans B40
  have BB8 := (bB.block _ (by omega)).trans B48
  have BB10 := heap_alloc_new w4 (.cells #[.string name, .slice ta4 types.length tc4] 29)
  have RB0 := R40.mono fun k hk => bB.block k (by omega)
  have XB4 := hr4.mono fun k hk => bB.block k hk.2
  have HXB : Hid (WTs (w4.alloc (.cells #[.string name, .slice ta4 types.length tc4] 29)) (w3.heap.size + 1) w4.heap.size types ta4) := HX4.out.keep (Marked.of_below 0 0 bB)
  have b4a : Below w.heap.size w (w4.alloc (.cells #[.string name, .slice ta4 types.length tc4] 29)) := b4.trans (bB.mono (by omega))
  clear B40 B48 R40 hr4 HX4 b4 bB
  go_wp2_with fail
  refine (PartFieldI_any ⟨name, types⟩ s f (w4.alloc (.cells #[.string name, .slice ta4 types.length tc4] 29)) w4.heap.size _ (XB4.sub fun k hk => hk.2) (by omega) hz).mono ?_
  rw [HF.out.1, HF.out.2]
  rintro e w5 ⟨nm1, of1, l1, m1, fr1, hi1, sh1, na1, nc1, rfl, hb5, hRG, hWG⟩
  have z5 := hb5.size
  rw [zB] at z5 hRG hWG
  have HWG : Hid (WStrs w5 (w4.heap.size + 1) w5.heap.size F0.needs.length na1) := hWG
  have b5 : Below w.heap.size w w5 := b4a.trans (hb5.mono (by rw [zB]; omega))
  have B50 := (hb5.block _ (by rw [zB]; omega)).trans BB0
  have B58 := (hb5.block _ (by rw [zB]; omega)).trans BB8
  have B510 := (hb5.block _ (by rw [zB]; omega)).trans BB10
  have R50 := RB0.mono fun k hk => hb5.block k (by rw [zB]; omega)
  have X5 := XB4.mono fun k hk => hb5.block k (by rw [zB]; omega)
  have HX5 : Hid (WTs w5 (w3.heap.size + 1) w4.heap.size types ta4) := HXB.out.keep (Marked.of_below 0 0 hb5)
  clear hb5 BB0 BB8 BB10 RB0 XB4 HXB b4a hWG zB
  have zC : (w5.alloc (.cells #[.string nm1, .string of1, .bool l1, .bool m1, .bool fr1, .bool hi1, .bool sh1, .slice na1 F0.needs.length nc1] 35)).heap.size = w5.heap.size + 1 := by simp
  have bC := (below_box w5 (.cells #[.string nm1, .string of1, .bool l1, .bool m1, .bool fr1, .bool hi1, .bool sh1, .slice na1 F0.needs.length nc1] 35))
  have K0c := (bC.block _ (by omega)).trans B50
  have K8c := (bC.block _ (by omega)).trans B58
  have K10c := (bC.block _ (by omega)).trans B510
  have K11c := heap_alloc_new w5 (.cells #[.string nm1, .string of1, .bool l1, .bool m1, .bool fr1, .bool hi1, .bool sh1, .slice na1 F0.needs.length nc1] 35)
  have R0c := R50.mono fun k hk => bC.block k (by omega)
  have RGc := hRG.mono fun k hk => bC.block k hk.2
  have Xc := X5.mono fun k hk => bC.block k (by omega)
  have HXc : Hid (WTs (w5.alloc (.cells #[.string nm1, .string of1, .bool l1, .bool m1, .bool fr1, .bool hi1, .bool sh1, .slice na1 F0.needs.length nc1] 35)) (w3.heap.size + 1) w4.heap.size types ta4) := HX5.out.keep (Marked.of_below 0 0 bC)
  have HWc : Hid (WStrs (w5.alloc (.cells #[.string nm1, .string of1, .bool l1, .bool m1, .bool fr1, .bool hi1, .bool sh1, .slice na1 F0.needs.length nc1] 35)) (w4.heap.size + 1) w5.heap.size F0.needs.length na1) := HWG.out.keep (Marked.of_below 0 0 bC)
  have bbc : Below w.heap.size w (w5.alloc (.cells #[.string nm1, .string of1, .bool l1, .bool m1, .bool fr1, .bool hi1, .bool sh1, .slice na1 F0.needs.length nc1] 35)) := b5.trans (bC.mono (by omega))
  clear B50 B58 B510 R50 hRG X5 HX5 HWG b5 bC
  have g0 := (box_at K11c 0 (by simp)).1
  have g1 := (box_at K11c 1 (by simp)).1
  have g2 := (box_at K11c 2 (by simp)).1
  have g3 := (box_at K11c 3 (by simp)).1
  have g4 := (box_at K11c 4 (by simp)).1
  have g5 := (box_at K11c 5 (by simp)).1
  have g6 := (box_at K11c 6 (by simp)).1
  have g7 := (box_at K11c 7 (by simp)).1
  simp only [List.getElem_toArray, List.getElem_cons_succ, List.getElem_cons_zero] at g0 g1 g2 g3 g4 g5 g6 g7
  have u0 := (box_at K8c 0 (by simp)).1
  have u1 := (box_at K8c 1 (by simp)).1
  have u2 := (box_at K8c 2 (by simp)).1
  have u3 := (box_at K8c 3 (by simp)).1
  have u4 := (box_at K8c 4 (by simp)).1
  have u5 := (box_at K8c 5 (by simp)).1
  have u6 := (box_at K8c 6 (by simp)).1
  have u7 := (box_at K8c 7 (by simp)).1
  simp only [List.getElem_toArray, List.getElem_cons_succ, List.getElem_cons_zero] at u0 u1 u2 u3 u4 u5 u6 u7
  go_wp2_with fail
  clear g0 g1 g2 g3 g4 g5 g6 g7
  clear u0 u1 u2 u3 u4 u5 u6 u7
  refine (eqField_any F0 (w5.alloc (.cells #[.string nm1, .string of1, .bool l1, .bool m1, .bool fr1, .bool hi1, .bool sh1, .slice na1 F0.needs.length nc1] 35)) (w5.heap.size + 1) _ _ (RGc.sub fun k hk => by omega) (R0c.sub fun k hk => by omega) (by omega)).mono ?_
  rintro e w6 ⟨rfl, hb6⟩
  have z6 := hb6.size
  rw [zC] at z6
  rw [zC] at hb6
  have K0d := (hb6.block _ (by omega)).trans K0c
  have K8d := (hb6.block _ (by omega)).trans K8c
  have K10d := (hb6.block _ (by omega)).trans K10c
  have K11d := (hb6.block _ (by omega)).trans K11c
  have R0d := R0c.mono fun k hk => hb6.block k (by omega)
  have RGd := RGc.mono fun k hk => hb6.block k (by omega)
  have Xd := Xc.mono fun k hk => hb6.block k (by omega)
  have HXd : Hid (WTs w6 (w3.heap.size + 1) w4.heap.size types ta4) := HXc.out.keep (Marked.of_below 0 0 (by rw [zC]; exact hb6))
  have HWd : Hid (WStrs w6 (w4.heap.size + 1) w5.heap.size F0.needs.length na1) := HWc.out.keep (Marked.of_below 0 0 (by rw [zC]; exact hb6))
  have bbd : Below w.heap.size w w6 := bbc.trans (hb6.mono (by omega))
  clear K0c K8c K10c K11c R0c RGc Xc HXc HWc bbc
  clear hb6
  have p0 := (box_at K0d 0 (by simp)).1
  have p1 := (box_at K0d 1 (by simp)).1
  simp only [List.getElem_toArray, List.getElem_cons_succ, List.getElem_cons_zero] at p0 p1
  have q0 := (box_at K10d 0 (by simp)).1
  have q1 := (box_at K10d 1 (by simp)).1
  simp only [List.getElem_toArray, List.getElem_cons_succ, List.getElem_cons_zero] at q0 q1
  go_wp2_with fail
  go_region_held3 (fun w' => w'.cell? ⟨w.heap.size, 0, none⟩ = some (.string name) ∧ w'.cell? ⟨w.heap.size, 1, none⟩ = some (.slice ta types.length tc) ∧ w'.cell? ⟨w4.heap.size, 0, none⟩ = some (.string name) ∧ w'.cell? ⟨w4.heap.size, 1, none⟩ = some (.slice ta4 types.length tc4)) (go_keep)
    (first
      | (
        go_at_call 8
        refine (toPart_any ⟨name, types⟩ w6.drew w.heap.size _ (hR'.under bbd.drew) (by have := bbd.size; simpa using this)).mono ?_
        rintro e w7 ⟨ta7, tc7, rfl, hb7, hr7⟩
        have hb7' := below_undrew hb7
        have z7 := hb7'.size
        have p70 := (hb7'.cell (p := ⟨w.heap.size, 0, none⟩) (by show w.heap.size < _; omega)).trans p0
        have p71 := (hb7'.cell (p := ⟨w.heap.size, 1, none⟩) (by show w.heap.size < _; omega)).trans p1
        have q70 := (hb7'.cell (p := ⟨w4.heap.size, 0, none⟩) (by show w4.heap.size < _; omega)).trans q0
        have q71 := (hb7'.cell (p := ⟨w4.heap.size, 1, none⟩) (by show w4.heap.size < _; omega)).trans q1
        have hX7 : PRep w7 (· < w7.heap.size) ⟨name, types⟩ (.agg #[.string name, .slice ta4 types.length tc4]) := (Xd.mono fun k hk => hb7'.block k (by omega)).sub fun k hk => by omega)
      | (
        go_at_call 10
        refine (eqPart_any ⟨name, types⟩ w7 w7.heap.size _ _ hX7 (hr7.sub fun k hk => hk.2) (Nat.le_refl _)).mono ?_
        rintro e w8 ⟨rfl, hb8⟩
        have p80 := (hb8.cell (p := ⟨w.heap.size, 0, none⟩) (by show w.heap.size < _; omega)).trans p70
        have p81 := (hb8.cell (p := ⟨w.heap.size, 1, none⟩) (by show w.heap.size < _; omega)).trans p71
        have q80 := (hb8.cell (p := ⟨w4.heap.size, 0, none⟩) (by show w4.heap.size < _; omega)).trans q70
        have q81 := (hb8.cell (p := ⟨w4.heap.size, 1, none⟩) (by show w4.heap.size < _; omega)).trans q71))
  have hb68 : Below w6.heap.size w6 w8 := hb7'.trans (hb8.mono z7)
  have z8 : w6.heap.size ≤ w8.heap.size := hb68.size
  clear p0 p1 q0 q1 p70 p71 q70 q71 p80 p81 q80 q81 hX7 hr7 hb7 hb7' hb8
  have K0e := (hb68.block _ (by omega)).trans K0d
  have K8e := (hb68.block _ (by omega)).trans K8d
  have K10e := (hb68.block _ (by omega)).trans K10d
  have K11e := (hb68.block _ (by omega)).trans K11d
  have R0e := R0d.mono fun k hk => hb68.block k (by omega)
  have RGe := RGd.mono fun k hk => hb68.block k (by omega)
  have HXe : Hid (WTs w8 (w3.heap.size + 1) w4.heap.size types ta4) := HXd.out.keep (Marked.of_below 0 0 hb68)
  have HWe : Hid (WStrs w8 (w4.heap.size + 1) w5.heap.size F0.needs.length na1) := HWd.out.keep (Marked.of_below 0 0 hb68)
  have bbe : Below w.heap.size w (w8) := bbd.trans (hb68.mono (by omega))
  clear K0d K8d K10d K11d R0d RGd HXd HWd bbd
  clear Xd hb68 z7
  have q0 := (box_at K10e 0 (by simp)).1
  have q1 := (box_at K10e 1 (by simp)).1
  simp only [List.getElem_toArray, List.getElem_cons_succ, List.getElem_cons_zero] at q0 q1
  go_wp2_with fail
  clear q0 q1
  refine (markPart_any ⟨name, types⟩ tc4 (w3.heap.size + 1) w4.heap.size ta4 w8 HXe.out hz).mono ?_
  rintro e w9 ⟨x, rfl, hm9⟩
  have z9 := hm9.size
  clear HXe
  have K0f := (hm9.block _ (by omega) (by omega)).trans K0e
  have K8f := (hm9.block _ (by omega) (by omega)).trans K8e
  have K10f := (hm9.block _ (by omega) (by omega)).trans K10e
  have K11f := (hm9.block _ (by omega) (by omega)).trans K11e
  have R0f := R0e.mono fun k hk => hm9.block k (by omega) (by omega)
  have RGf := RGe.mono fun k hk => hm9.block k (by omega) (by omega)
  have HWf : Hid (WStrs w9 (w4.heap.size + 1) w5.heap.size F0.needs.length na1) := HWe.out.keep hm9
  have bbf : Below w.heap.size w (w9) := bbe.trans (hm9.below (by omega) (by omega))
  clear K0e K8e K10e K11e R0e RGe HWe bbe
  clear hm9
  have hx0 : ¬ ((x : Nat) : Int) < 0 := by omega
  have hx1 : decide (((x : Nat) : Int) < 0) = false := decide_eq_false hx0
  have g0 := (box_at K11f 0 (by simp)).1
  have g1 := (box_at K11f 1 (by simp)).1
  have g2 := (box_at K11f 2 (by simp)).1
  have g3 := (box_at K11f 3 (by simp)).1
  have g4 := (box_at K11f 4 (by simp)).1
  have g5 := (box_at K11f 5 (by simp)).1
  have g6 := (box_at K11f 6 (by simp)).1
  have g7 := (box_at K11f 7 (by simp)).1
  simp only [List.getElem_toArray, List.getElem_cons_succ, List.getElem_cons_zero] at g0 g1 g2 g3 g4 g5 g6 g7
  have u0 := (box_at K8f 0 (by simp)).1
  have u1 := (box_at K8f 1 (by simp)).1
  have u2 := (box_at K8f 2 (by simp)).1
  have u3 := (box_at K8f 3 (by simp)).1
  have u4 := (box_at K8f 4 (by simp)).1
  have u5 := (box_at K8f 5 (by simp)).1
  have u6 := (box_at K8f 6 (by simp)).1
  have u7 := (box_at K8f 7 (by simp)).1
  simp only [List.getElem_toArray, List.getElem_cons_succ, List.getElem_cons_zero] at u0 u1 u2 u3 u4 u5 u6 u7
  go_wp2_with fail
  clear g0 g1 g2 g3 g4 g5 g6 g7
  clear u0 u1 u2 u3 u4 u5 u6 u7
  refine (eqField_any F0 w9 w9.heap.size _ _ (RGf.sub fun k hk => by omega) (R0f.sub fun k hk => by omega) (Nat.le_refl _)).mono ?_
  rintro e w10 ⟨rfl, hb10⟩
  have z10 := hb10.size
  have K0g := (hb10.block _ (by omega)).trans K0f
  have K8g := (hb10.block _ (by omega)).trans K8f
  have K10g := (hb10.block _ (by omega)).trans K10f
  have K11g := (hb10.block _ (by omega)).trans K11f
  have R0g := R0f.mono fun k hk => hb10.block k (by omega)
  have HWg : Hid (WStrs w10 (w4.heap.size + 1) w5.heap.size F0.needs.length na1) := HWf.out.keep (Marked.of_below 0 0 hb10)
  have bbg : Below w.heap.size w (w10) := bbf.trans (hb10.mono (by omega))
  clear K0f K8f K10f K11f R0f HWf bbf
  clear hb10 RGf hx0 hx1
  have g0 := (box_at K11g 0 (by simp)).1
  have g1 := (box_at K11g 1 (by simp)).1
  have g2 := (box_at K11g 2 (by simp)).1
  have g3 := (box_at K11g 3 (by simp)).1
  have g4 := (box_at K11g 4 (by simp)).1
  have g5 := (box_at K11g 5 (by simp)).1
  have g6 := (box_at K11g 6 (by simp)).1
  have g7 := (box_at K11g 7 (by simp)).1
  simp only [List.getElem_toArray, List.getElem_cons_succ, List.getElem_cons_zero] at g0 g1 g2 g3 g4 g5 g6 g7
  go_wp2_with fail
  clear g0 g1 g2 g3 g4 g5 g6 g7
  refine (markField_any (.string nm1) (.string of1) (.bool l1) (.bool m1) (.bool fr1) (.bool hi1) (.bool sh1) F0.needs.length nc1 1 (w4.heap.size + 1) w5.heap.size na1 w10 HWg.out hnn (by omega)).mono ?_
  rintro e w11 ⟨rfl, hm11, hc11⟩
  have z11 := hm11.size
  have HHh : Hid (0 < F0.needs.length → ∃ b off, na1 = some ⟨b, off, none⟩ ∧ ∀ i, i < F0.needs.length → (w11).cell? ⟨b, off + i, none⟩ = some (.string (mtext (1 + i)))) := fun h0 => by
    obtain ⟨b, off, e, -⟩ := HWg.out h0
    exact ⟨b, off, e, hc11 b off e⟩
  clear hc11 HWg
  have K0h := (hm11.block _ (by omega) (by omega)).trans K0g
  have K8h := (hm11.block _ (by omega) (by omega)).trans K8g
  have K10h := (hm11.block _ (by omega) (by omega)).trans K10g
  have K11h := (hm11.block _ (by omega) (by omega)).trans K11g
  have R0h := R0g.mono fun k hk => hm11.block k (by omega) (by omega)
  have bbh : Below w.heap.size w (w11) := bbg.trans (hm11.below (by omega) (by omega))
  clear K0g K8g K10g K11g R0g bbg
  clear hm11
  have g0 := (box_at K11h 0 (by simp)).1
  have g1 := (box_at K11h 1 (by simp)).1
  have g2 := (box_at K11h 2 (by simp)).1
  have g3 := (box_at K11h 3 (by simp)).1
  have g4 := (box_at K11h 4 (by simp)).1
  have g5 := (box_at K11h 5 (by simp)).1
  have g6 := (box_at K11h 6 (by simp)).1
  have g7 := (box_at K11h 7 (by simp)).1
  simp only [List.getElem_toArray, List.getElem_cons_succ, List.getElem_cons_zero] at g0 g1 g2 g3 g4 g5 g6 g7
  go_wp2_with fail
  clear g0 g1 g2 g3 g4 g5 g6 g7
  refine (heldField_any (.string nm1) (.string of1) (.bool l1) (.bool m1) (.bool fr1) (.bool hi1) (.bool sh1) F0.needs.length nc1 1 na1 w11 HHh.out hnn (by omega)).mono ?_
  rintro e w12 ⟨rfl, hb12⟩
  have z12 := hb12.size
  have K0i := (hb12.block _ (by omega)).trans K0h
  have K8i := (hb12.block _ (by omega)).trans K8h
  have K10i := (hb12.block _ (by omega)).trans K10h
  have K11i := (hb12.block _ (by omega)).trans K11h
  have R0i := R0h.mono fun k hk => hb12.block k (by omega)
  have HHi : Hid (0 < F0.needs.length → ∃ b off, na1 = some ⟨b, off, none⟩ ∧ ∀ i, i < F0.needs.length → (w12).cell? ⟨b, off + i, none⟩ = some (.string (mtext (1 + i)))) := held_keep HHh.out hb12
  have bbi : Below w.heap.size w (w12) := bbh.trans (hb12.mono (by omega))
  clear K0h K8h K10h K11h R0h HHh bbh
  clear hb12
  generalize hQ : ((1 + F0.needs.length : Nat) : Int) = Q
  have hq0 : ¬ Q < 0 := by omega
  have p0 := (box_at K0i 0 (by simp)).1
  have p1 := (box_at K0i 1 (by simp)).1
  simp only [List.getElem_toArray, List.getElem_cons_succ, List.getElem_cons_zero] at p0 p1
  go_wp2_with fail
  clear p0 p1
  refine (toPart_any ⟨name, types⟩ w12 w.heap.size _ (hR'.under bbi) (by have := bbi.size; omega)).mono ?_
  rintro e w13 ⟨ta13, tc13, rfl, hb13, hr13⟩
  have z13 := hb13.size
  have K0j := (hb13.block _ (by omega)).trans K0i
  have K8j := (hb13.block _ (by omega)).trans K8i
  have K10j := (hb13.block _ (by omega)).trans K10i
  have K11j := (hb13.block _ (by omega)).trans K11i
  have R0j := R0i.mono fun k hk => hb13.block k (by omega)
  have HHj : Hid (0 < F0.needs.length → ∃ b off, na1 = some ⟨b, off, none⟩ ∧ ∀ i, i < F0.needs.length → (w13).cell? ⟨b, off + i, none⟩ = some (.string (mtext (1 + i)))) := held_keep HHi.out hb13
  have bbj : Below w.heap.size w (w13) := bbi.trans (hb13.mono (by omega))
  clear K0i K8i K10i K11i R0i HHi bbi
  clear hb13
  go_wp2_with fail
  refine (PartFieldI_any ⟨name, types⟩ s f w13 w13.heap.size _ (hr13.sub fun k hk => hk.2) (Nat.le_refl _) hz).mono ?_
  rw [HF.out.1, HF.out.2]
  rintro e w14 ⟨nm2, of2, l2, m2, fr2, hi2, sh2, na2, nc2, rfl, hb14, hR2, -⟩
  have z14 := hb14.size
  have K0k := (hb14.block _ (by omega)).trans K0j
  have K8k := (hb14.block _ (by omega)).trans K8j
  have K10k := (hb14.block _ (by omega)).trans K10j
  have K11k := (hb14.block _ (by omega)).trans K11j
  have R0k := R0j.mono fun k hk => hb14.block k (by omega)
  have HHk : Hid (0 < F0.needs.length → ∃ b off, na1 = some ⟨b, off, none⟩ ∧ ∀ i, i < F0.needs.length → (w14).cell? ⟨b, off + i, none⟩ = some (.string (mtext (1 + i)))) := held_keep HHj.out hb14
  have bbk : Below w.heap.size w (w14) := bbj.trans (hb14.mono (by omega))
  clear K0j K8j K10j K11j R0j HHj bbj
  clear hb14 hr13
  have zD : (w14.alloc (.cells #[.string nm2, .string of2, .bool l2, .bool m2, .bool fr2, .bool hi2, .bool sh2, .slice na2 F0.needs.length nc2] 35)).heap.size = w14.heap.size + 1 := by simp
  have bD := (below_box w14 (.cells #[.string nm2, .string of2, .bool l2, .bool m2, .bool fr2, .bool hi2, .bool sh2, .slice na2 F0.needs.length nc2] 35))
  have K16 := heap_alloc_new w14 (.cells #[.string nm2, .string of2, .bool l2, .bool m2, .bool fr2, .bool hi2, .bool sh2, .slice na2 F0.needs.length nc2] 35)
  have R2 := hR2.mono fun k hk => bD.block k hk.2
  have K0l := (bD.block _ (by omega)).trans K0k
  have K8l := (bD.block _ (by omega)).trans K8k
  have K10l := (bD.block _ (by omega)).trans K10k
  have K11l := (bD.block _ (by omega)).trans K11k
  have R0l := R0k.mono fun k hk => bD.block k (by omega)
  have HHl : Hid (0 < F0.needs.length → ∃ b off, na1 = some ⟨b, off, none⟩ ∧ ∀ i, i < F0.needs.length → ((w14.alloc (.cells #[.string nm2, .string of2, .bool l2, .bool m2, .bool fr2, .bool hi2, .bool sh2, .slice na2 F0.needs.length nc2] 35))).cell? ⟨b, off + i, none⟩ = some (.string (mtext (1 + i)))) := held_keep HHk.out bD
  have bbl : Below w.heap.size w ((w14.alloc (.cells #[.string nm2, .string of2, .bool l2, .bool m2, .bool fr2, .bool hi2, .bool sh2, .slice na2 F0.needs.length nc2] 35))) := bbk.trans (bD.mono (by omega))
  clear K0k K8k K10k K11k R0k HHk bbk
  clear bD hR2
  have g0 := (box_at K16 0 (by simp)).1
  have g1 := (box_at K16 1 (by simp)).1
  have g2 := (box_at K16 2 (by simp)).1
  have g3 := (box_at K16 3 (by simp)).1
  have g4 := (box_at K16 4 (by simp)).1
  have g5 := (box_at K16 5 (by simp)).1
  have g6 := (box_at K16 6 (by simp)).1
  have g7 := (box_at K16 7 (by simp)).1
  simp only [List.getElem_toArray, List.getElem_cons_succ, List.getElem_cons_zero] at g0 g1 g2 g3 g4 g5 g6 g7
  have u0 := (box_at K8l 0 (by simp)).1
  have u1 := (box_at K8l 1 (by simp)).1
  have u2 := (box_at K8l 2 (by simp)).1
  have u3 := (box_at K8l 3 (by simp)).1
  have u4 := (box_at K8l 4 (by simp)).1
  have u5 := (box_at K8l 5 (by simp)).1
  have u6 := (box_at K8l 6 (by simp)).1
  have u7 := (box_at K8l 7 (by simp)).1
  simp only [List.getElem_toArray, List.getElem_cons_succ, List.getElem_cons_zero] at u0 u1 u2 u3 u4 u5 u6 u7
  go_wp2_with fail
  clear g0 g1 g2 g3 g4 g5 g6 g7
  clear u0 u1 u2 u3 u4 u5 u6 u7
  refine (eqField_any F0 (w14.alloc (.cells #[.string nm2, .string of2, .bool l2, .bool m2, .bool fr2, .bool hi2, .bool sh2, .slice na2 F0.needs.length nc2] 35)) (w14.heap.size + 1) _ _ (R2.sub fun k hk => by omega) (R0l.sub fun k hk => by omega) (by omega)).mono ?_
  rintro e w15 ⟨rfl, hb15⟩
  have z15 := hb15.size
  rw [zD] at z15
  have K11m := (hb15.block _ (by omega)).trans K11l
  have HHm : Hid (0 < F0.needs.length → ∃ b off, na1 = some ⟨b, off, none⟩ ∧ ∀ i, i < F0.needs.length → (w15).cell? ⟨b, off + i, none⟩ = some (.string (mtext (1 + i)))) := held_keep HHl.out hb15
  have bbm : Below w.heap.size w w15 := bbl.trans (hb15.mono (by rw [zD]; omega))
  clear hb15 K0l K8l K10l K11l R0l HHl bbl R2 K16
  have g0 := (box_at K11m 0 (by simp)).1
  have g1 := (box_at K11m 1 (by simp)).1
  have g2 := (box_at K11m 2 (by simp)).1
  have g3 := (box_at K11m 3 (by simp)).1
  have g4 := (box_at K11m 4 (by simp)).1
  have g5 := (box_at K11m 5 (by simp)).1
  have g6 := (box_at K11m 6 (by simp)).1
  have g7 := (box_at K11m 7 (by simp)).1
  simp only [List.getElem_toArray, List.getElem_cons_succ, List.getElem_cons_zero] at g0 g1 g2 g3 g4 g5 g6 g7
  go_wp2_with fail
  clear g0 g1 g2 g3 g4 g5 g6 g7
  refine (heldField_any (.string nm1) (.string of1) (.bool l1) (.bool m1) (.bool fr1) (.bool hi1) (.bool sh1) F0.needs.length nc1 1 na1 w15 HHm.out hnn (by omega)).mono ?_
  rw [hQ]
  rintro e w16 ⟨rfl, hb16⟩
  have bbn : Below w.heap.size w w16 := bbm.trans (hb16.mono (by have := bbm.size; omega))
  go_wp2_with fail
  go_ret
  exact ⟨rfl, bbn⟩
end Go.Proofs.Ytcpflkbbjlonbaa
