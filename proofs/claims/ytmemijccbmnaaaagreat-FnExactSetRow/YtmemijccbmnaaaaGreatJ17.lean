import Derived.Test.YtmemijccbmnaaaaGreatJ16
import Derived.Deep.RegionHeld3
import Derived.Deep.DeepCutAuto
namespace Go.Proofs.YtmemijccbmnaaaaGreat
set_option linter.unusedSimpArgs false
set_option linter.unusedVariables false
open Go.RowKit

theorem fieldIx_zero (s : ByteArray) : fieldIx T.zero s = -1 := firstTo_none fun i hi => by simp [T.zero] at hi
theorem known_same (p : Pt) (c : Ch) : (decide (0 ≤ fieldIx (typeOr p c.type) c.field) && !(fieldOr (typeOr p c.type) c.field).far) = knB p c := by
  unfold knB getB getF
  by_cases h : 0 ≤ typeIx p c.type
  · rw [if_pos h]; simp [h]
  · have e : typeOr p c.type = T.zero := by unfold typeOr; rw [if_neg h]
    rw [e, fieldIx_zero, if_neg h]
    simp [h]

theorem drew_heap (w : World) (N : Nat) : w.drew.heap[N]? = w.heap[N]? := rfl
theorem fieldResultK (FW : World) (tmps : Array Value) (N : Nat) (ok : Bool) (v0 v1 v2 v3 v4 v5 v6 v7 : Value) (h6 : tmps.getD 6 undef = .pointer (some ⟨N, 0, none⟩)) (h7 : tmps.getD 7 undef = .bool ok)
    (d0 : FW.cell? ⟨N, 0, none⟩ = some v0) (d1 : FW.cell? ⟨N, 1, none⟩ = some v1) (d2 : FW.cell? ⟨N, 2, none⟩ = some v2) (d3 : FW.cell? ⟨N, 3, none⟩ = some v3) (d4 : FW.cell? ⟨N, 4, none⟩ = some v4) (d5 : FW.cell? ⟨N, 5, none⟩ = some v5) (d6 : FW.cell? ⟨N, 6, none⟩ = some v6) (d7 : FW.cell? ⟨N, 7, none⟩ = some v7) :
    (results Tryz.f60 tmps).run Tryz.prog FW = .ok (.tuple #[.agg #[v0, v1, v2, v3, v4, v5, v6, v7], .bool ok]) FW := by
  simp only [Array.getD_eq_getD_getElem?] at h6 h7
  simp [results, Tryz.results60, go_sem, h6, h7, d0, d1, d2, d3, d4, d5, d6, d7]

set_option maxRecDepth 20000 in
set_option maxHeartbeats 3200000 in
theorem knows_any (p : Pt) (c : Ch) (w : World) (B pb : Nat) (pc : Nat) (x1 x2 : Value) (pn : ByteArray) (ta : Option Addr) (tl tc : Nat) (hPt : PRep w (· < B) p (.agg #[.string pn, .slice ta tl tc])) (hB : B ≤ w.heap.size) (hp0 : w.cell? ⟨pb, 0, none⟩ = some (.string pn)) (hp1 : w.cell? ⟨pb, 1, none⟩ = some (.slice ta tl tc)) :
    Calls Tryz.prog 60 #[.agg #[.slice (some ⟨pb, 0, none⟩) 1 pc, x1, x2], .int .i64 0, .agg #[.string c.type, .string c.field]] w fun e w' => (∃ (nm of : ByteArray) (l m fr hi sh : Bool) (na : Option Addr) (nl nc : Nat), e = .returned (.tuple #[.agg #[.string nm, .string of, .bool l, .bool m, .bool fr, .bool hi, .bool sh, .slice na nl nc], .bool (knB p c)])) ∧ Below w.heap.size w w' := by
  have hpb : pb < w.heap.size := cell_block' hp0
  have hks := known_same p c
  have hFT := fun W (h : Below w.heap.size w W) => findType_any p W B _ c.type (hPt.under (h.mono hB)) (by have := h.size; omega)
  have hFF := fun W u (hT : TRep W (· < B) (typeOr p c.type) u) (hW : B ≤ W.heap.size) => findField_any (typeOr p c.type) W B u c.field hT hW
  generalize typeOr p c.type = t at hFT hFF hks
  have HKS := hid_of hks
  clear hks
  go_enter Tryz.func60, Tryz.ntmps60
  go_wp2_with fail
  obtain ⟨A, hA⟩ : ∃ A, A = ((w.alloc (.cells #[.slice (some ⟨pb, 0, none⟩) 1 pc, x1, x2] 74)).alloc (.cells #[.string c.type, .string c.field] 122)).alloc (.cells #[.string ⟨#[]⟩, .string ⟨#[]⟩, .bool false, .bool false, .bool false, .bool false, .bool false, .slice none 0 0] 103) := ⟨_, rfl⟩
  have bA : Below w.heap.size w A := by rw [hA]; exact ((below_box2 w _ _).alloc (by simp; omega) _)
  have n0 : A.heap[w.heap.size]? = some (.cells #[.slice (some ⟨pb, 0, none⟩) 1 pc, x1, x2] 74 (0, 0)) := by rw [hA]; exact block_old _ (block_old _ (block_new _ _ rfl) (by simp)) (by simp; omega)
  have n1 : A.heap[w.heap.size + 1]? = some (.cells #[.string c.type, .string c.field] 122 (0, 0)) := by rw [hA]; exact block_old _ (block_new _ _ (by simp)) (by simp)
  have n2 : A.heap[w.heap.size + 1 + 1]? = some (.cells #[.string ⟨#[]⟩, .string ⟨#[]⟩, .bool false, .bool false, .bool false, .bool false, .bool false, .slice none 0 0] 103 (0, 0)) := by rw [hA]; exact block_new _ _ (by simp)
  have zA : w.heap.size + 1 + 1 < A.heap.size := by rw [hA]; simp
  rw [← hA]
  clear hA
  have a0 := (box_at n0 0 (by simp)).1
  have a1 := (box_at n1 0 (by simp)).1
  have a2 := (bA.cell (p := ⟨pb, 0, none⟩) hpb).trans hp0
  have a3 := (bA.cell (p := ⟨pb, 1, none⟩) hpb).trans hp1
  have m0 := World.new_ne A ⟨w.heap.size, 0, none⟩ a0
  have m1 := World.new_ne A ⟨w.heap.size + 1, 0, none⟩ a1
  have m2 := World.new_ne A ⟨pb, 0, none⟩ a2
  have m3 := World.new_ne A ⟨pb, 1, none⟩ a3
  have HSA : Hid (∀ W, Below A.heap.size A W → (W.cell? ⟨w.heap.size, 0, none⟩ = some (.slice (some ⟨pb, 0, none⟩) 1 pc) ∧ W.cell? ⟨w.heap.size + 1, 0, none⟩ = some (.string c.type) ∧ W.cell? ⟨pb, 0, none⟩ = some (.string pn) ∧ W.cell? ⟨pb, 1, none⟩ = some (.slice ta tl tc))) := hid_of fun W h => ⟨(h.cell (p := ⟨w.heap.size, 0, none⟩) (by show w.heap.size < _; omega)).trans a0, (h.cell (p := ⟨w.heap.size + 1, 0, none⟩) (by show w.heap.size + 1 < _; omega)).trans a1, (h.cell (p := ⟨pb, 0, none⟩) (by show pb < _; have := bA.size; omega)).trans a2, (h.cell (p := ⟨pb, 1, none⟩) (by show pb < _; have := bA.size; omega)).trans a3⟩
  have HFT := hid_of hFT
  clear hFT
  go_cut [8, 9] (fun q r wx => ∃ (tb : Nat) (nm ky : ByteArray) (fa : Option Addr) (fl fc : Nat) (ok : Bool), q = .pointer (some ⟨tb, 0, none⟩) ∧ r = .bool ok ∧ A.heap.size ≤ tb ∧ tb < wx.heap.size ∧ wx.heap[tb]? = some (.cells #[.string nm, .string ky, .slice fa fl fc] 101 (0, 0)) ∧ Below A.heap.size A wx ∧ TRep wx (· < B) t (.agg #[.string nm, .string ky, .slice fa fl fc]))
  case first =>
    have e0 : Below A.heap.size A A.drew := (Below.refl _ _).drew
    go_region_held3 (fun w' => w'.cell? ⟨w.heap.size, 0, none⟩ = some (.slice (some ⟨pb, 0, none⟩) 1 pc) ∧ w'.cell? ⟨w.heap.size + 1, 0, none⟩ = some (.string c.type) ∧ w'.cell? ⟨pb, 0, none⟩ = some (.string pn) ∧ w'.cell? ⟨pb, 1, none⟩ = some (.slice ta tl tc)) (go_keep)
      (first
        | (
          go_at_call 88
          refine (HFT.out _ (by first | exact bA.drew | exact (bA.alloc (by omega) _).drew | exact (bA.drew.alloc (by show _ ≤ A.heap.size; omega) _))).mono ?_
          rintro e w1 ⟨nm, ky, fa, fl, fc, rfl, hb1, hT1⟩
          first
            | (
              have hw1 : Below A.heap.size A w1 := below_undrew hb1
              obtain ⟨s0, s1, s2, s3⟩ := HSA.out w1 hw1
              have nB : True := trivial
              have HT := hid_of hT1
              clear hb1 hT1)
            | (
              have hb1' := below_undrew hb1
              have hw1 : Below A.heap.size A w1 := (below_box A _).trans (hb1'.mono (by simp))
              obtain ⟨s0, s1, s2, s3⟩ := HSA.out w1 hw1
              have nB := (hb1'.block A.heap.size (by simp)).trans (block_new (w := A) #[.string ⟨#[]⟩, .string ⟨#[]⟩, .slice none 0 0] 101 rfl)
              have y0 := (box_at nB 0 (by simp)).1
              have y1 := (box_at nB 1 (by simp)).1
              have y2 := (box_at nB 2 (by simp)).1
              have g0 := (box_at nB 0 (by simp)).2
              have g1 := (box_at nB 1 (by simp)).2
              have g2 := (box_at nB 2 (by simp)).2
              have HT := hid_of hT1
              clear hb1 hb1' hT1)))
    all_goals
      go_wp2_with fail
      go_meet
      case rel =>
        have zw := hw1.size
        first
          | exact ⟨w1.heap.size, nm, ky, fa, fl, fc, _, rfl, rfl, zw, by simp, block_new _ _ rfl, hw1.trans ((below_box w1 _).mono zw), HT.out.mono fun b hb => (below_box w1 _).block b (by have := bA.size; omega)⟩
          | exact ⟨A.heap.size, nm, ky, fa, fl, fc, _, rfl, rfl, Nat.le_refl _, Nat.lt_of_lt_of_eq (Array.getElem?_eq_some_iff.1 nB).1 (put3_size _ _ _ _ _).symm, put3_box nB _ _ _, put3_below hw1 (Nat.le_refl _) _ _ _, HT.out.mono fun b hb => put3_block _ _ _ _ _ b (by have := bA.size; omega)⟩
  case rest =>
  obtain ⟨tb, nm, ky, fa, fl, fc, ok, rfl, rfl, htb, htz, nT, hAc, hT⟩ := hcut
  obtain ⟨w2, rfl⟩ : ∃ x, x = wc := ⟨wc, rfl⟩
  clear a0 a1 a2 a3 m0 m1 m2 m3 HSA HFT
  have z2 := hAc.size
  have t0 := (box_at nT 0 (by simp)).1
  have t1 := (box_at nT 1 (by simp)).1
  have t2 := (box_at nT 2 (by simp)).1
  have k1 := (box_at ((hAc.block _ (by omega)).trans n1) 1 (by simp)).1
  have HFF := hid_of (hFF w2 _ hT (by have := bA.size; omega))
  clear hFF hT
  go_wp2_with fail
  refine HFF.out.mono ?_
  rintro e w3 ⟨fnm, fof, l, mu, fr, hid, sh, fna, fnl, fnc, rfl, hb3, hF3⟩
  clear t0 t1 t2 k1 HFF
  have hfr : fr = (fieldOr t c.field).far := by
    obtain ⟨na', nc', ev, -⟩ := hF3
    simp only [Value.agg.injEq, Array.mk.injEq, List.cons.injEq, Value.bool.injEq, and_true] at ev
    exact ev.2.2.2.2.1
  obtain ⟨ok2, hok2⟩ : ∃ ok2, ok2 = decide (0 ≤ fieldIx t c.field) := ⟨_, rfl⟩
  have HKB : Hid (knB p c = (ok2 && !fr)) := hid_of (by rw [← HKS.out, ← hok2, hfr])
  rw [← hok2]
  clear hok2 hfr hF3
  have z3 := hb3.size
  have b3 : Below w.heap.size w w3 := (bA.trans (hAc.mono bA.size)).trans (hb3.mono (by have := bA.size; omega))
  have n23 := (hb3.block _ (by omega)).trans ((hAc.block _ (by omega)).trans n2)
  have b4 := b3.trans ((below_box w3 (.cells #[.string fnm, .string fof, .bool l, .bool mu, .bool fr, .bool hid, .bool sh, .slice fna fnl fnc] 103)).mono b3.size)
  have n4 := block_new (w := w3) #[.string fnm, .string fof, .bool l, .bool mu, .bool fr, .bool hid, .bool sh, .slice fna fnl fnc] 103 rfl
  have n24 := ((below_box w3 (.cells #[.string fnm, .string fof, .bool l, .bool mu, .bool fr, .bool hid, .bool sh, .slice fna fnl fnc] 103)).block _ (by omega)).trans n23
  have m1 : ¬ w.heap.size + 1 + 1 = w3.heap.size := by omega
  have m2 : ¬ w3.heap.size = w.heap.size + 1 + 1 := by omega
  have HN := hid_of (And.intro b4 n24)
  obtain ⟨c0, g0⟩ := box_at n24 0 (by simp)
  obtain ⟨c1, g1⟩ := box_at n24 1 (by simp)
  obtain ⟨c2, g2⟩ := box_at n24 2 (by simp)
  obtain ⟨c3, g3⟩ := box_at n24 3 (by simp)
  obtain ⟨c4, g4⟩ := box_at n24 4 (by simp)
  obtain ⟨c5, g5⟩ := box_at n24 5 (by simp)
  obtain ⟨c6, g6⟩ := box_at n24 6 (by simp)
  obtain ⟨c7, g7⟩ := box_at n24 7 (by simp)
  obtain ⟨d0, -⟩ := box_at n4 0 (by simp)
  obtain ⟨d1, -⟩ := box_at n4 1 (by simp)
  obtain ⟨d2, -⟩ := box_at n4 2 (by simp)
  obtain ⟨d3, -⟩ := box_at n4 3 (by simp)
  obtain ⟨d4, -⟩ := box_at n4 4 (by simp)
  obtain ⟨d5, -⟩ := box_at n4 5 (by simp)
  obtain ⟨d6, -⟩ := box_at n4 6 (by simp)
  obtain ⟨d7, -⟩ := box_at n4 7 (by simp)
  clear b4 n24 n23 n4 n0 n1 n2 nT
  cases ok2
  · go_wp2_with fail
    generalize (w3.alloc (.cells #[.string fnm, .string fof, .bool l, .bool mu, .bool fr, .bool hid, .bool sh, .slice fna fnl fnc] 103)) = w4 at *
    go_region
    all_goals
      go_wp2_with fail
      obtain ⟨e0, e1, e2, e3, e4, e5, e6, e7⟩ := sets_cells (w := w4) HN.out.2 rfl (.string fnm) (.string fof) (.bool l) (.bool mu) (.bool fr) (.bool hid) (.bool sh) (.slice fna fnl fnc) (World.drew (World.setCell (World.setCell (World.setCell (World.setCell (World.setCell (World.setCell (World.setCell (World.setCell w4 ⟨w.heap.size + 1 + 1, 0, none⟩ (.string fnm)) ⟨w.heap.size + 1 + 1, 1, none⟩ (.string fof)) ⟨w.heap.size + 1 + 1, 2, none⟩ (.bool l)) ⟨w.heap.size + 1 + 1, 3, none⟩ (.bool mu)) ⟨w.heap.size + 1 + 1, 4, none⟩ (.bool fr)) ⟨w.heap.size + 1 + 1, 5, none⟩ (.bool hid)) ⟨w.heap.size + 1 + 1, 6, none⟩ (.bool sh)) ⟨w.heap.size + 1 + 1, 7, none⟩ (.slice fna fnl fnc))) (drew_heap _ _)
      refine bodyPost_ret (fieldResultK (World.drew (World.setCell (World.setCell (World.setCell (World.setCell (World.setCell (World.setCell (World.setCell (World.setCell w4 ⟨w.heap.size + 1 + 1, 0, none⟩ (.string fnm)) ⟨w.heap.size + 1 + 1, 1, none⟩ (.string fof)) ⟨w.heap.size + 1 + 1, 2, none⟩ (.bool l)) ⟨w.heap.size + 1 + 1, 3, none⟩ (.bool mu)) ⟨w.heap.size + 1 + 1, 4, none⟩ (.bool fr)) ⟨w.heap.size + 1 + 1, 5, none⟩ (.bool hid)) ⟨w.heap.size + 1 + 1, 6, none⟩ (.bool sh)) ⟨w.heap.size + 1 + 1, 7, none⟩ (.slice fna fnl fnc))) _ (w.heap.size + 1 + 1) false (.string fnm) (.string fof) (.bool l) (.bool mu) (.bool fr) (.bool hid) (.bool sh) (.slice fna fnl fnc) rfl rfl e0 e1 e2 e3 e4 e5 e6 e7) rfl ?_
      exact ⟨⟨fnm, fof, l, mu, fr, hid, sh, fna, fnl, fnc, by rw [HKB.out]; rfl⟩, (below_sets HN.out.1 (by omega) _ _ _ _ _ _ _ _).drew⟩
  · cases fr
    · go_wp2_with fail
      generalize (w3.alloc (.cells #[.string fnm, .string fof, .bool l, .bool mu, .bool false, .bool hid, .bool sh, .slice fna fnl fnc] 103)) = w4 at *
      go_region
      all_goals
        go_wp2_with fail
        obtain ⟨e0, e1, e2, e3, e4, e5, e6, e7⟩ := sets_cells (w := w4) HN.out.2 rfl (.string fnm) (.string fof) (.bool l) (.bool mu) (.bool false) (.bool hid) (.bool sh) (.slice fna fnl fnc) (World.drew (World.setCell (World.setCell (World.setCell (World.setCell (World.setCell (World.setCell (World.setCell (World.setCell w4 ⟨w.heap.size + 1 + 1, 0, none⟩ (.string fnm)) ⟨w.heap.size + 1 + 1, 1, none⟩ (.string fof)) ⟨w.heap.size + 1 + 1, 2, none⟩ (.bool l)) ⟨w.heap.size + 1 + 1, 3, none⟩ (.bool mu)) ⟨w.heap.size + 1 + 1, 4, none⟩ (.bool false)) ⟨w.heap.size + 1 + 1, 5, none⟩ (.bool hid)) ⟨w.heap.size + 1 + 1, 6, none⟩ (.bool sh)) ⟨w.heap.size + 1 + 1, 7, none⟩ (.slice fna fnl fnc))) (drew_heap _ _)
        refine bodyPost_ret (fieldResultK (World.drew (World.setCell (World.setCell (World.setCell (World.setCell (World.setCell (World.setCell (World.setCell (World.setCell w4 ⟨w.heap.size + 1 + 1, 0, none⟩ (.string fnm)) ⟨w.heap.size + 1 + 1, 1, none⟩ (.string fof)) ⟨w.heap.size + 1 + 1, 2, none⟩ (.bool l)) ⟨w.heap.size + 1 + 1, 3, none⟩ (.bool mu)) ⟨w.heap.size + 1 + 1, 4, none⟩ (.bool false)) ⟨w.heap.size + 1 + 1, 5, none⟩ (.bool hid)) ⟨w.heap.size + 1 + 1, 6, none⟩ (.bool sh)) ⟨w.heap.size + 1 + 1, 7, none⟩ (.slice fna fnl fnc))) _ (w.heap.size + 1 + 1) true (.string fnm) (.string fof) (.bool l) (.bool mu) (.bool false) (.bool hid) (.bool sh) (.slice fna fnl fnc) rfl rfl e0 e1 e2 e3 e4 e5 e6 e7) rfl ?_
        exact ⟨⟨fnm, fof, l, mu, false, hid, sh, fna, fnl, fnc, by rw [HKB.out]; rfl⟩, (below_sets HN.out.1 (by omega) _ _ _ _ _ _ _ _).drew⟩
    · go_wp2_with fail
      generalize (w3.alloc (.cells #[.string fnm, .string fof, .bool l, .bool mu, .bool true, .bool hid, .bool sh, .slice fna fnl fnc] 103)) = w4 at *
      go_region
      all_goals
        go_wp2_with fail
        obtain ⟨e0, e1, e2, e3, e4, e5, e6, e7⟩ := sets_cells (w := w4) HN.out.2 rfl (.string fnm) (.string fof) (.bool l) (.bool mu) (.bool true) (.bool hid) (.bool sh) (.slice fna fnl fnc) (World.drew (World.setCell (World.setCell (World.setCell (World.setCell (World.setCell (World.setCell (World.setCell (World.setCell w4 ⟨w.heap.size + 1 + 1, 0, none⟩ (.string fnm)) ⟨w.heap.size + 1 + 1, 1, none⟩ (.string fof)) ⟨w.heap.size + 1 + 1, 2, none⟩ (.bool l)) ⟨w.heap.size + 1 + 1, 3, none⟩ (.bool mu)) ⟨w.heap.size + 1 + 1, 4, none⟩ (.bool true)) ⟨w.heap.size + 1 + 1, 5, none⟩ (.bool hid)) ⟨w.heap.size + 1 + 1, 6, none⟩ (.bool sh)) ⟨w.heap.size + 1 + 1, 7, none⟩ (.slice fna fnl fnc))) (drew_heap _ _)
        refine bodyPost_ret (fieldResultK (World.drew (World.setCell (World.setCell (World.setCell (World.setCell (World.setCell (World.setCell (World.setCell (World.setCell w4 ⟨w.heap.size + 1 + 1, 0, none⟩ (.string fnm)) ⟨w.heap.size + 1 + 1, 1, none⟩ (.string fof)) ⟨w.heap.size + 1 + 1, 2, none⟩ (.bool l)) ⟨w.heap.size + 1 + 1, 3, none⟩ (.bool mu)) ⟨w.heap.size + 1 + 1, 4, none⟩ (.bool true)) ⟨w.heap.size + 1 + 1, 5, none⟩ (.bool hid)) ⟨w.heap.size + 1 + 1, 6, none⟩ (.bool sh)) ⟨w.heap.size + 1 + 1, 7, none⟩ (.slice fna fnl fnc))) _ (w.heap.size + 1 + 1) false (.string fnm) (.string fof) (.bool l) (.bool mu) (.bool true) (.bool hid) (.bool sh) (.slice fna fnl fnc) rfl rfl e0 e1 e2 e3 e4 e5 e6 e7) rfl ?_
        exact ⟨⟨fnm, fof, l, mu, true, hid, sh, fna, fnl, fnc, by rw [HKB.out]; rfl⟩, (below_sets HN.out.1 (by omega) _ _ _ _ _ _ _ _).drew⟩
end Go.Proofs.YtmemijccbmnaaaaGreat

namespace Go.Proofs.YtmemijccbmnaaaaGreat
set_option linter.unusedSimpArgs false
set_option linter.unusedVariables false
open Go.RowKit

/-- The code of a change of one store that the part knows. -/
def codeI (p : Pt) (rs : List Ro) (c : Ch) : Int :=
  if (cTo rs c rs.length).isNone = true then 2 else if (c.field.toList == (typeOr p c.type).key.toList) = true then 3
  else if (c.val.sort == 7 || !fitI (fieldOr (typeOr p c.type) c.field) c.val) = true then 4 else 0

set_option maxRecDepth 20000 in
set_option maxHeartbeats 3200000 in
theorem fault_one (p : Pt) (rs : List Ro) (c : Ch) (w : World) (B : Nat) (P : Nat → Prop) (x0 x3 : Value) (pn : ByteArray) (ta : Option Addr) (tl tc : Nat) (ra : Option Addr) (rc ob oc : Nat) (s n : Int) (t : ByteArray) (na ka : Option Addr) (nl nc kl kc : Nat)
    (hPt : PRep w (· < B) p (.agg #[.string pn, .slice ta tl tc])) (hB : B ≤ w.heap.size) (hR : RoReps w P rs ra) (hP : ∀ b, P b → b < w.heap.size) (hV : Rep w (· < B) c.val (.agg #[.int .i64 s, .int .i64 n, .string t, .slice na nl nc, .slice ka kl kc])) (ho : w.cell? ⟨ob, 0, none⟩ = some (.slice ra rs.length rc)) :
    Calls Tryz.prog 61 #[.agg #[x0, .string pn, .slice ta tl tc, x3], .agg #[.string c.type, .int .i64 c.id, .string c.field, .int .i64 s, .int .i64 n, .string t, .slice na nl nc, .slice ka kl kc], .slice (some ⟨ob, 0, none⟩) 1 oc] w fun e w' => e = .returned (.int .i64 (codeI p rs c)) ∧ Below w.heap.size w w' := by
  have hob : ob < w.heap.size := cell_block' ho
  have HCO : Hid (codeI p rs c = if (cTo rs c rs.length).isNone = true then 2 else if (c.field.toList == (typeOr p c.type).key.toList) = true then 3 else if (c.val.sort == 7 || !fitI (fieldOr (typeOr p c.type) c.field) c.val) = true then 4 else 0) := hid_of rfl
  have hFT := fun W (h : Below w.heap.size w W) => findType_any p W B _ c.type (hPt.under (h.mono hB)) (by have := h.size; omega)
  have hFF := fun W u (hT : TRep W (· < B) (typeOr p c.type) u) (hW : B ≤ W.heap.size) => findField_any (typeOr p c.type) W B u c.field hT hW
  have hCE := fun W (h : Below w.heap.size w W) => cell_any rs c W P ra rc (.int .i64 s) (.int .i64 n) (.string t) (.slice na nl nc) (.slice ka kl kc) (hR.mono fun k hk => h.block k (hP k hk)) (fun b hb => by have := hP b hb; have := h.size; omega)
  have hLK := fun W (h : Below w.heap.size w W) cb hc => containsLacks_any rs c W P ra rc cb ob oc (.int .i64 s) (.int .i64 n) (.string t) (.slice na nl nc) (.slice ka kl kc) (hR.mono fun k hk => h.block k (hP k hk)) (fun b hb => by have := hP b hb; have := h.size; omega) hc ⟨⟨s, n, t, na, ka, nl, nc, kl, kc, rfl, rfl, rfl, rfl, rfl⟩⟩ ((h.cell (p := ⟨ob, 0, none⟩) hob).trans ho)
  unfold chv at hCE
  generalize typeOr p c.type = T0 at hFT hFF HCO
  go_enter Tryz.func61, Tryz.ntmps61
  go_wp2_with fail
  obtain ⟨A, hA⟩ : ∃ A, A = (w.alloc (.cells #[x0, .string pn, .slice ta tl tc, x3] 77)).alloc (.cells #[.string c.type, .int .i64 c.id, .string c.field, .int .i64 s, .int .i64 n, .string t, .slice na nl nc, .slice ka kl kc] 47) := ⟨_, rfl⟩
  have bA : Below w.heap.size w A := by rw [hA]; exact below_box2 w _ _
  have n1 : A.heap[w.heap.size + 1]? = some (.cells #[.string c.type, .int .i64 c.id, .string c.field, .int .i64 s, .int .i64 n, .string t, .slice na nl nc, .slice ka kl kc] 47 (0, 0)) := by rw [hA]; exact block_new _ _ (by simp)
  have zA : w.heap.size + 1 < A.heap.size := by rw [hA]; simp
  rw [← hA]
  clear hA
  have HCE := hid_of hCE
  have HLK := hid_of hLK
  clear hCE hLK
  have HCB : Hid (∀ W, Below A.heap.size A W → W.heap[w.heap.size + 1]? = some (.cells #[.string c.type, .int .i64 c.id, .string c.field, .int .i64 s, .int .i64 n, .string t, .slice na nl nc, .slice ka kl kc] 47 (0, 0))) := hid_of fun W h => (h.block _ zA).trans n1
  refine (hFT A bA).mono ?_
  rintro e w1 ⟨nm, ky, fa, fl, fc, rfl, hb1, hT1⟩
  have z1 := hb1.size
  have hkey : ky = T0.key := by
    obtain ⟨fa', fc', ev, -⟩ := hT1
    simp only [Value.agg.injEq, Array.mk.injEq, List.cons.injEq, Value.string.injEq, and_true] at ev
    exact ev.2.1
  subst hkey
  have k2 := (box_at (HCB.out w1 hb1) 2 (by simp)).1
  clear hFT
  have b1x := hb1.trans ((below_box w1 (.cells #[.string nm, .string T0.key, .slice fa fl fc] 101)).mono z1)
  have n1x := block_new (w := w1) #[.string nm, .string T0.key, .slice fa fl fc] 101 rfl
  have HF1 := hid_of (hFF _ _ (hT1.mono (w' := w1.alloc (.cells #[.string nm, .string T0.key, .slice fa fl fc] 101)) fun b hb => (below_box w1 _).block b (by have := bA.size; omega)) (by simp; have := bA.size; omega))
  clear hFF hT1 hb1
  have m1 : ¬ w1.heap.size = w.heap.size + 1 := by omega
  have m2 : ¬ w.heap.size + 1 = w1.heap.size := by omega
  have m3 : w.heap.size + 1 < w1.heap.size := by omega
  have k2a := (box_at (HCB.out _ b1x) 2 (by simp)).1
  go_wp2_with fail
  refine HF1.out.mono ?_
  rintro e w2 ⟨fnm, fof, l, mu, fr, hid, sh, fna, fnl, fnc, rfl, hb2, hF2⟩
  have z2 := hb2.size
  simp at z2
  have b2 : Below A.heap.size A w2 := b1x.trans (hb2.mono (by simp; omega))
  have n2 := (hb2.block _ (by simp)).trans n1x
  have bw2 := bA.trans (b2.mono bA.size)
  have b3 := b2.trans ((below_box w2 (.cells #[.string fnm, .string fof, .bool l, .bool mu, .bool fr, .bool hid, .bool sh, .slice fna fnl fnc] 103)).mono b2.size)
  have n3 := ((below_box w2 (.cells #[.string fnm, .string fof, .bool l, .bool mu, .bool fr, .bool hid, .bool sh, .slice fna fnl fnc] 103)).block _ (by omega)).trans n2
  have n4 := block_new (w := w2) #[.string fnm, .string fof, .bool l, .bool mu, .bool fr, .bool hid, .bool sh, .slice fna fnl fnc] 103 rfl
  have HF2 := hid_of (hF2.mono (w' := w2.alloc (.cells #[.string fnm, .string fof, .bool l, .bool mu, .bool fr, .bool hid, .bool sh, .slice fna fnl fnc] 103)) fun b hb => (below_box w2 _).block b (by have := bw2.size; omega))
  have z3 : w2.heap.size < (w2.alloc (.cells #[.string fnm, .string fof, .bool l, .bool mu, .bool fr, .bool hid, .bool sh, .slice fna fnl fnc] 103)).heap.size := by simp
  clear k2 k2a m1 m2 m3 HF1 hF2 b1x n1x hb2 b2 n2
  go_wp2_with fail
  generalize (w2.alloc (.cells #[.string fnm, .string fof, .bool l, .bool mu, .bool fr, .bool hid, .bool sh, .slice fna fnl fnc] 103)) = w3 at *
  have bw3 := bA.trans (b3.mono bA.size)
  have nC := HCB.out w3 b3
  obtain ⟨q0, -⟩ := box_at nC 0 (by simp)
  obtain ⟨q1, -⟩ := box_at nC 1 (by simp)
  obtain ⟨q2, -⟩ := box_at nC 2 (by simp)
  obtain ⟨q3, -⟩ := box_at nC 3 (by simp)
  obtain ⟨q4, -⟩ := box_at nC 4 (by simp)
  obtain ⟨q5, -⟩ := box_at nC 5 (by simp)
  obtain ⟨q6, -⟩ := box_at nC 6 (by simp)
  obtain ⟨q7, -⟩ := box_at nC 7 (by simp)
  have o3 := (bw3.cell (p := ⟨ob, 0, none⟩) hob).trans ho
  obtain ⟨lk, hlk⟩ : ∃ lk, lk = (cTo rs c rs.length).isNone := ⟨_, rfl⟩
  go_cut [31] (fun r wx => r = .bool lk ∧ Below w3.heap.size w3 wx)
  case first =>
    go_region_held3 (fun w' => w'.cell? ⟨w.heap.size + 1, 0, none⟩ = some (.string c.type) ∧ w'.cell? ⟨w.heap.size + 1, 1, none⟩ = some (.int .i64 c.id) ∧ w'.cell? ⟨w.heap.size + 1, 2, none⟩ = some (.string c.field) ∧ w'.cell? ⟨w.heap.size + 1, 3, none⟩ = some (.int .i64 s) ∧ w'.cell? ⟨w.heap.size + 1, 4, none⟩ = some (.int .i64 n) ∧ w'.cell? ⟨w.heap.size + 1, 5, none⟩ = some (.string t) ∧ w'.cell? ⟨w.heap.size + 1, 6, none⟩ = some (.slice na nl nc) ∧ w'.cell? ⟨w.heap.size + 1, 7, none⟩ = some (.slice ka kl kc) ∧ w'.cell? ⟨ob, 0, none⟩ = some (.slice ra rs.length rc)) (go_keep)
      (first
        | (
          go_at_call 94
          refine (HCE.out w3.drew bw3.drew).mono ?_
          rintro e w4 ⟨hp, hb4⟩
          have hb4' := below_undrew hb4
          have bw4 := bw3.trans (hb4'.mono bw3.size)
          have nC4 := HCB.out w4 (b3.trans (hb4'.mono b3.size))
          obtain ⟨y0, -⟩ := box_at nC4 0 (by simp)
          obtain ⟨y1, -⟩ := box_at nC4 1 (by simp)
          obtain ⟨y2, -⟩ := box_at nC4 2 (by simp)
          obtain ⟨y3, -⟩ := box_at nC4 3 (by simp)
          obtain ⟨y4, -⟩ := box_at nC4 4 (by simp)
          obtain ⟨y5, -⟩ := box_at nC4 5 (by simp)
          obtain ⟨y6, -⟩ := box_at nC4 6 (by simp)
          obtain ⟨y7, -⟩ := box_at nC4 7 (by simp)
          have o4 := (bw4.cell (p := ⟨ob, 0, none⟩) hob).trans ho
          obtain ⟨pv, hpe, hpl⟩ : ∃ pv, e = .returned (.pointer pv) ∧ pv.isNone = lk := by
            cases hq : cTo rs c rs.length with
            | none => exact ⟨none, hp.none hq, by rw [hlk, hq]; rfl⟩
            | some q =>
              obtain ⟨a, ha⟩ := hp.some hq
              exact ⟨some a, ha, by rw [hlk, hq]; rfl⟩
          subst hpe
          have HPL := hid_of hpl
          clear hpl hp hb4 nC4))
    all_goals
      cases pv
      · go_wp2_with fail
        go_meet
        case rel => exact ⟨by rw [← HPL.out], hb4'⟩
      · go_wp2_with fail
        go_meet
        case rel => exact ⟨by rw [← HPL.out], hb4'⟩
  case rest =>
  obtain ⟨rfl, hb4⟩ := hcut
  obtain ⟨w4, rfl⟩ : ∃ x, x = wc := ⟨wc, rfl⟩
  clear q0 q1 q2 q3 q4 q5 q6 q7 o3 HCE nC
  have HLQ := hid_of hlk
  clear hlk
  have bw4 := bw3.trans (hb4.mono bw3.size)
  have nC4 := HCB.out w4 (b3.trans (hb4.mono b3.size))
  have z4 := hb4.size
  have n34 := (hb4.block _ (by omega)).trans n3
  have n44 := (hb4.block _ z3).trans n4
  have hF4 := HF2.out.mono (w' := w4) fun b hb => hb4.block b (by have := bw3.size; omega)
  have hV4 := hV.under (bw4.mono hB)
  have hsort : s = c.val.sort := by
    obtain ⟨_, _, _, _, e, -⟩ := hV.heads
    simpa using e
  have HSO := hid_of hsort
  have k1 := (box_at n34 1 (by simp)).1
  obtain ⟨y2, -⟩ := box_at nC4 2 (by simp)
  obtain ⟨y3, -⟩ := box_at nC4 3 (by simp)
  obtain ⟨y4, -⟩ := box_at nC4 4 (by simp)
  obtain ⟨y5, -⟩ := box_at nC4 5 (by simp)
  obtain ⟨y6, -⟩ := box_at nC4 6 (by simp)
  obtain ⟨y7, -⟩ := box_at nC4 7 (by simp)
  obtain ⟨d0, -⟩ := box_at n44 0 (by simp)
  obtain ⟨d1, -⟩ := box_at n44 1 (by simp)
  obtain ⟨d2, -⟩ := box_at n44 2 (by simp)
  obtain ⟨d3, -⟩ := box_at n44 3 (by simp)
  obtain ⟨d4, -⟩ := box_at n44 4 (by simp)
  obtain ⟨d5, -⟩ := box_at n44 5 (by simp)
  obtain ⟨d6, -⟩ := box_at n44 6 (by simp)
  obtain ⟨d7, -⟩ := box_at n44 7 (by simp)
  clear hsort nC4 n34 n44 n3 n4
  cases lk
  rotate_left
  · go_wp2_with fail
    go_ret
    exact ⟨ret_int (by rw [HCO.out, ← HLQ.out, if_pos rfl]), bw4⟩
  · have HC2 : Hid (codeI p rs c = if (c.field.toList == T0.key.toList) = true then 3 else if (c.val.sort == 7 || !fitI (fieldOr T0 c.field) c.val) = true then 4 else 0) := hid_of (by rw [HCO.out, ← HLQ.out, if_neg (by simp)])
    cases hk : (c.field.toList == T0.key.toList)
    rotate_left
    · go_wp2_with fail
      go_ret
      exact ⟨ret_int (by rw [HC2.out, hk, if_pos rfl]), bw4⟩
    · by_cases h7 : s = 7
      · go_wp2_with fail
        go_ret
        exact ⟨ret_int (by rw [HC2.out, hk, if_neg (by simp), if_pos (by rw [← HSO.out, h7]; rfl)]), bw4⟩
      · have hFit := isFit_any (fieldOr T0 c.field) c.val w4 B _ _ hF4 hV4 (by have := bw4.size; omega)
        have HFT := hid_of hFit
        have h7' : (s == 7) = false := by simpa using h7
        have HF7 := hid_of h7'
        obtain ⟨ft, hft⟩ : ∃ ft, ft = fitI (fieldOr T0 c.field) c.val := ⟨_, rfl⟩
        rw [← hft] at HFT
        have HFT2 := hid_of hft
        clear hFit hF4 hV4 hft
        cases ft
        · go_wp2_with fail
          refine HFT.out.mono ?_
          rintro e w5 ⟨rfl, hb5⟩
          have bw5 := bw4.trans (hb5.mono bw4.size)
          go_wp2_with fail
          go_ret
          exact ⟨ret_int (by rw [HC2.out, hk, if_neg (by simp), if_pos (by rw [← HFT2.out]; simp)]), bw5⟩
        · go_wp2_with fail
          refine HFT.out.mono ?_
          rintro e w5 ⟨rfl, hb5⟩
          have bw5 := bw4.trans (hb5.mono bw4.size)
          have hL := HLK.out w5 bw5 (w.heap.size + 1) (HCB.out w5 ((b3.trans (hb4.mono b3.size)).trans (hb5.mono (by have := b3.size; omega))))
          rw [← HLQ.out] at hL
          have HL5 := hid_of hL
          clear hL
          go_wp2_with fail
          refine HL5.out.mono ?_
          rintro e w6 ⟨rfl, hb6⟩
          go_wp2_with fail
          go_ret
          exact ⟨ret_int (by rw [HC2.out, hk, if_neg (by simp), if_neg (by rw [← HFT2.out, ← HSO.out, HF7.out]; simp)]), bw5.trans (hb6.mono bw5.size)⟩
set_option maxRecDepth 20000 in
set_option maxHeartbeats 3200000 in
theorem fault_none (p : Pt) (c : Ch) (w : World) (B : Nat) (x0 x3 : Value) (pn : ByteArray) (ta : Option Addr) (tl tc : Nat) (s n : Int) (t : ByteArray) (na ka : Option Addr) (nl nc kl kc : Nat)
    (hPt : PRep w (· < B) p (.agg #[.string pn, .slice ta tl tc])) (hB : B ≤ w.heap.size) :
    Calls Tryz.prog 61 #[.agg #[x0, .string pn, .slice ta tl tc, x3], .agg #[.string c.type, .int .i64 c.id, .string c.field, .int .i64 s, .int .i64 n, .string t, .slice na nl nc, .slice ka kl kc], .slice none 0 0] w fun e w' => e = .returned (.int .i64 1) ∧ Below w.heap.size w w' := by
  have hFT := fun W (h : Below w.heap.size w W) => findType_any p W B _ c.type (hPt.under (h.mono hB)) (by have := h.size; omega)
  have hFF := fun W u (hT : TRep W (· < B) (typeOr p c.type) u) (hW : B ≤ W.heap.size) => findField_any (typeOr p c.type) W B u c.field hT hW
  generalize typeOr p c.type = T0 at hFT hFF
  go_enter Tryz.func61, Tryz.ntmps61
  go_wp2_with fail
  obtain ⟨A, hA⟩ : ∃ A, A = (w.alloc (.cells #[x0, .string pn, .slice ta tl tc, x3] 77)).alloc (.cells #[.string c.type, .int .i64 c.id, .string c.field, .int .i64 s, .int .i64 n, .string t, .slice na nl nc, .slice ka kl kc] 47) := ⟨_, rfl⟩
  have bA : Below w.heap.size w A := by rw [hA]; exact below_box2 w _ _
  have n1 : A.heap[w.heap.size + 1]? = some (.cells #[.string c.type, .int .i64 c.id, .string c.field, .int .i64 s, .int .i64 n, .string t, .slice na nl nc, .slice ka kl kc] 47 (0, 0)) := by rw [hA]; exact block_new _ _ (by simp)
  have zA : w.heap.size + 1 < A.heap.size := by rw [hA]; simp
  rw [← hA]
  clear hA
  have HCB : Hid (∀ W, Below A.heap.size A W → W.heap[w.heap.size + 1]? = some (.cells #[.string c.type, .int .i64 c.id, .string c.field, .int .i64 s, .int .i64 n, .string t, .slice na nl nc, .slice ka kl kc] 47 (0, 0))) := hid_of fun W h => (h.block _ zA).trans n1
  refine (hFT A bA).mono ?_
  rintro e w1 ⟨nm, ky, fa, fl, fc, rfl, hb1, hT1⟩
  have z1 := hb1.size
  have hkey : ky = T0.key := by
    obtain ⟨fa', fc', ev, -⟩ := hT1
    simp only [Value.agg.injEq, Array.mk.injEq, List.cons.injEq, Value.string.injEq, and_true] at ev
    exact ev.2.1
  subst hkey
  have k2 := (box_at (HCB.out w1 hb1) 2 (by simp)).1
  clear hFT
  have b1x := hb1.trans ((below_box w1 (.cells #[.string nm, .string T0.key, .slice fa fl fc] 101)).mono z1)
  have n1x := block_new (w := w1) #[.string nm, .string T0.key, .slice fa fl fc] 101 rfl
  have HF1 := hid_of (hFF _ _ (hT1.mono (w' := w1.alloc (.cells #[.string nm, .string T0.key, .slice fa fl fc] 101)) fun b hb => (below_box w1 _).block b (by have := bA.size; omega)) (by simp; have := bA.size; omega))
  clear hFF hT1 hb1
  have m1 : ¬ w1.heap.size = w.heap.size + 1 := by omega
  have m2 : ¬ w.heap.size + 1 = w1.heap.size := by omega
  have m3 : w.heap.size + 1 < w1.heap.size := by omega
  have k2a := (box_at (HCB.out _ b1x) 2 (by simp)).1
  go_wp2_with fail
  refine HF1.out.mono ?_
  rintro e w2 ⟨fnm, fof, l, mu, fr, hid, sh, fna, fnl, fnc, rfl, hb2, hF2⟩
  have z2 := hb2.size
  simp at z2
  have b2 : Below A.heap.size A w2 := b1x.trans (hb2.mono (by simp; omega))
  have bw2 := bA.trans (b2.mono bA.size)
  clear k2 k2a m1 m2 m3 HF1 hF2 b1x n1x hb2
  go_wp2_with fail
  go_ret
  exact ⟨rfl, bw2.trans ((below_box w2 _).mono bw2.size)⟩
end Go.Proofs.YtmemijccbmnaaaaGreat

namespace Go.Proofs.YtmemijccbmnaaaaGreat
set_option linter.unusedSimpArgs false
set_option linter.unusedVariables false
open Go.RowKit

theorem kn_field {p : Pt} {c : Ch} (hk : knB p c = true) : getF p c.type c.field = fieldOr (typeOr p c.type) c.field := by
  unfold knB getB at hk
  simp only [Bool.and_eq_true, decide_eq_true_eq] at hk
  unfold getF
  rw [if_pos hk.1.1]
theorem cTo_none {p : Pt} {rs : List Ro} {c : Ch} (h : storeS p rs = true) (hk : knB p c = true) : (cTo rs c rs.length).isNone = true ↔ fi rs c.type c.id rs.length = none := by
  rw [cTo_fi h hk rs.length (Nat.le_refl _)]
  cases hf : fi rs c.type c.id rs.length with
  | none => simp
  | some i =>
    obtain ⟨j, hj, -⟩ := store_cell h hk (fi_lt hf) (fi_hit hf).1
    simp [hj]
theorem code_same {p : Pt} {rs : List Ro} {c : Ch} (h : storeS p rs = true) (hk : knB p c = true) : codeI p rs c = codeC p rs c := by
  unfold codeI codeC
  rw [kn_field hk, fit_same, if_neg (c := knB p c = false) (by simp [hk])]
  by_cases e : fi rs c.type c.id rs.length = none
  · rw [if_pos ((cTo_none h hk).2 e), if_pos e]
  · rw [if_neg (fun q => e ((cTo_none h hk).1 q)), if_neg e]
theorem code_unknown {p : Pt} {rs : List Ro} {c : Ch} (hk : knB p c = false) : codeC p rs c = 1 := by
  unfold codeC
  rw [if_pos hk]
/-- A change that is taken: where it goes. -/
theorem code_zero {p : Pt} {rs : List Ro} {c : Ch} (h : storeS p rs = true) (hc : codeC p rs c = 0) : ∃ i j, cTo rs c rs.length = some (i, j) ∧ fi rs c.type c.id rs.length = some i ∧ i < rs.length ∧ j < (rth rs i).cells.length ∧ putC (rth rs i).cells c.field c.val = (rth rs i).cells.set j ⟨c.field, c.val⟩ := by
  have hk : knB p c = true := by
    cases e : knB p c with
    | true => rfl
    | false => rw [code_unknown e] at hc; omega
  cases hf : fi rs c.type c.id rs.length with
  | none =>
    unfold codeC at hc
    rw [if_neg (by simp [hk]), if_pos hf] at hc
    omega
  | some i =>
    have hi := fi_lt hf
    obtain ⟨j, hj, hje⟩ := store_cell h hk hi (fi_hit hf).1
    have hjl := fc_lt hj
    refine ⟨i, j, ?_, rfl, hi, hjl, putC_set (store_row h hi).2.2 hjl hje⟩
    rw [cTo_fi h hk rs.length (Nat.le_refl _), hf]
    simp [hj]
end Go.Proofs.YtmemijccbmnaaaaGreat

namespace Go.Proofs.YtmemijccbmnaaaaGreat
set_option linter.unusedSimpArgs false
set_option linter.unusedVariables false
open Go.RowKit

theorem info_RowS : (Tryz.prog.info? 35).map (fun i => (i.zero, i.size, i.bytes)) = some (some (.slice none 0 0), 1, 24) := by kernel_rfl
theorem Aside.below {S : Nat → Prop} {w w' : World} {lo : Nat} (h : Aside S w w') (hlo : lo ≤ w.heap.size) (hS : ∀ b, S b → lo ≤ b) : Below lo w w' := ⟨h.os, h.tape, h.output, h.size, fun b hb => h.block b (by omega) (fun e => by have := hS b e; omega)⟩
theorem Aside.wider {S S' : Nat → Prop} {w w' : World} (h : Aside S w w') (hs : ∀ b, S b → S' b) : Aside S' w w' := ⟨h.os, h.tape, h.output, h.size, fun b hb hn => h.block b hb (fun e => hn (hs b e))⟩

set_option maxRecDepth 20000 in
set_option maxHeartbeats 1600000 in
theorem forEach_one (w : World) (ob oc : Nat) (u ch : Value) (Q : World → Prop) (ho : w.cell? ⟨ob, 0, none⟩ = some u) (hs : ∃ a n c, u = .slice a n c) (hF : Calls Tryz.prog 63 #[ch, u] w fun e w' => e = .returned (.tuple #[]) ∧ Q w') :
    Calls Tryz.prog 62 #[.slice (some ⟨ob, 0, none⟩) 1 oc, .func (.func 63) #[ch] #[]] w fun e w' => e = .returned (.tuple #[]) ∧ Q w' := by
  obtain ⟨ra, rn, rc, rfl⟩ := hs
  go_enter Tryz.func62, Tryz.ntmps62
  go_wp2_with fail
  go_loopw [8] (fun i wr => ∃ k : Nat, k ≤ 1 ∧ i = .int .i64 k ∧ (k = 0 → wr = w) ∧ (0 < k → Hid (Q wr))) (fun i _ => 1 - (intOf i).toNat)
  case atStart => exact ⟨0, by omega, rfl, fun _ => rfl, fun h => by omega⟩
  case round =>
    obtain ⟨k, hk, rfl, h0, h1⟩ := hrel
    by_cases hlt : k < 1
    · have e : k = 0 := by omega
      subst e
      have hw := h0 rfl
      subst hw
      clear h0 h1
      go_wp2_with fail
      refine hF.mono ?_
      rintro e w1 ⟨rfl, hq⟩
      have HQ := hid_of hq
      clear hq
      go_wp2_with fail
      go_roundw
      case rel => exact ⟨1, by omega, rfl, fun h => by omega, fun _ => HQ⟩
      case measure => simp [intOf]
    · have e : k = 1 := by omega
      subst e
      have HQ := h1 (by omega)
      clear h0 h1
      go_wp2_with fail
      refine bodyPost_end (v := .tuple #[]) ?res rfl ⟨rfl, HQ.out⟩
      case res => simp [results, Tryz.results62, go_sem]

/-- The rows behind a change, as the program's set leaves them. -/
def setL (p : Pt) (rs : List Ro) (c : Ch) : List Ro := if codeC p rs c = 0 then putR rs ((fi rs c.type c.id rs.length).getD 0) c.field c.val else rs
theorem setL_put {p : Pt} {rs : List Ro} {c : Ch} (h : storeS p rs = true) (hc : codeC p rs c = 0) : ∃ i j, cTo rs c rs.length = some (i, j) ∧ setL p rs c = putAt rs i j c.field c.val := by
  obtain ⟨i, j, h1, h2, h3, h4, h5⟩ := code_zero h hc
  refine ⟨i, j, h1, ?_⟩
  unfold setL putR putAt
  rw [if_pos hc, h2, Option.getD_some, h5]
theorem setL_same {p : Pt} {rs : List Ro} {c : Ch} (hc : codeC p rs c ≠ 0) : setL p rs c = rs := by unfold setL; rw [if_neg hc]

set_option maxRecDepth 20000 in
set_option maxHeartbeats 3200000 in
theorem set_any (p : Pt) (rs : List Ro) (c : Ch) (w : World) (lo B : Nat) (pn : ByteArray) (ta : Option Addr) (tl tc : Nat) (ra : Option Addr) (rc b0 : Nat) (A : Nat → Option Addr) (K : Nat → Nat) (lab : Nat → List Nat) (pb pc sb sc : Nat) (s n : Int) (t : ByteArray) (na ka : Option Addr) (nl nc kl kc : Nat)
    (hPt : PRep w (· < B) p (.agg #[.string pn, .slice ta tl tc])) (hB : B ≤ lo) (hlo : lo ≤ w.heap.size) (hM : RM true lo w rs ra b0 A K lab) (hV : Rep w (· < B) c.val (.agg #[.int .i64 s, .int .i64 n, .string t, .slice na nl nc, .slice ka kl kc])) (hsx : szV c.val ≤ 1048576)
    (hp0 : w.cell? ⟨pb, 0, none⟩ = some (.string pn)) (hp1 : w.cell? ⟨pb, 1, none⟩ = some (.slice ta tl tc)) (ho : w.cell? ⟨sb, 0, none⟩ = some (.slice ra rs.length rc)) (hst : storeS p rs = true) :
    Calls Tryz.prog 31 #[.agg #[.slice (some ⟨pb, 0, none⟩) 1 pc, .string pn, .slice ta tl tc, .slice (some ⟨sb, 0, none⟩) 1 sc], .agg #[.string c.type, .int .i64 c.id, .string c.field, .int .i64 s, .int .i64 n, .string t, .slice na nl nc, .slice ka kl kc]] w fun e w' => e = .returned (.int .i64 (codeC p rs c)) ∧ Aside (fun b => lab b ≠ []) w w' ∧ ∃ lab', RM true lo w' (setL p rs c) ra b0 A K lab' := by
  obtain ⟨i0, hi, hz0, hz1, hz2⟩ := info_parts info_RowS
  have hpb : pb < w.heap.size := cell_block' hp0
  have hsb : sb < w.heap.size := cell_block' ho
  have hwz := hlo
  have hKN := fun W (h : Below w.heap.size w W) => knows_any p c W B pb pc (.string pn) (.slice ta tl tc) pn ta tl tc (hPt.under (h.mono (by omega))) (by have := h.size; omega) ((h.cell (p := ⟨pb, 0, none⟩) hpb).trans hp0) ((h.cell (p := ⟨pb, 1, none⟩) hpb).trans hp1)
  have hF1 := fun W ob oc (h : Below w.heap.size w W) (hob : W.cell? ⟨ob, 0, none⟩ = some (.slice ra rs.length rc)) => fault_one p rs c W B (fun b => lo ≤ b ∧ b < w.heap.size) (.slice (some ⟨pb, 0, none⟩) 1 pc) (.slice (some ⟨sb, 0, none⟩) 1 sc) pn ta tl tc ra rc ob oc s n t na ka nl nc kl kc (hPt.under (h.mono (by omega))) (by have := h.size; omega) (hM.reps.mono fun b hb => h.block b hb.2) (fun b hb => by have := h.size; omega) (hV.under (h.mono (by omega))) hob
  have hF0 := fun W (h : Below w.heap.size w W) => fault_none p c W B (.slice (some ⟨pb, 0, none⟩) 1 pc) (.slice (some ⟨sb, 0, none⟩) 1 sc) pn ta tl tc s n t na ka nl nc kl kc (hPt.under (h.mono (by omega))) (by have := h.size; omega)
  have HKN := hid_of hKN
  have HF1 := hid_of hF1
  have HF0 := hid_of hF0
  have HPU : Hid (∀ W i j, Below w.heap.size w W → cTo rs c rs.length = some (i, j) → Calls Tryz.prog 63 #[.agg #[.string c.type, .int .i64 c.id, .string c.field, .int .i64 s, .int .i64 n, .string t, .slice na nl nc, .slice ka kl kc], .slice ra rs.length rc] W fun e w' => e = .returned (.tuple #[]) ∧ (Aside (fun b => lab b ≠ []) W w' ∧ ∃ lab', RM true lo w' (putAt rs i j c.field c.val) ra b0 A K lab')) := hid_of fun W i j h hq => put_any rs c W lo B ra rc b0 A K lab _ _ _ _ _ ⟨s, n, t, na, ka, nl, nc, kl, kc, rfl, rfl, rfl, rfl, rfl⟩ (hM.keep h) (by have := h.size; omega) (hV.under (h.mono (by omega))) (by have := h.size; omega) hsx i j hq
  have HMM := hid_of hM
  clear hKN hF1 hF0 hPt hV hM hp0 hp1
  have HCS : Hid (knB p c = true → codeI p rs c = codeC p rs c) := hid_of fun hk => code_same hst hk
  have HST := hid_of hst
  clear hst
  go_enter Tryz.func31, Tryz.ntmps31
  go_wp2_with fail
  have bX := below_box2 w (.cells #[.slice (some ⟨pb, 0, none⟩) 1 pc, .string pn, .slice ta tl tc, .slice (some ⟨sb, 0, none⟩) 1 sc] 77) (.cells #[.string c.type, .int .i64 c.id, .string c.field, .int .i64 s, .int .i64 n, .string t, .slice na nl nc, .slice ka kl kc] 47)
  have n0 := block_old (.cells #[.string c.type, .int .i64 c.id, .string c.field, .int .i64 s, .int .i64 n, .string t, .slice na nl nc, .slice ka kl kc] 47) (block_new (w := w) #[.slice (some ⟨pb, 0, none⟩) 1 pc, .string pn, .slice ta tl tc, .slice (some ⟨sb, 0, none⟩) 1 sc] 77 rfl) (by simp)
  have n1 := block_new (w := w.alloc (.cells #[.slice (some ⟨pb, 0, none⟩) 1 pc, .string pn, .slice ta tl tc, .slice (some ⟨sb, 0, none⟩) 1 sc] 77)) #[.string c.type, .int .i64 c.id, .string c.field, .int .i64 s, .int .i64 n, .string t, .slice na nl nc, .slice ka kl kc] 47 (N := w.heap.size + 1) (by simp)
  have zX : w.heap.size + 1 < ((w.alloc (.cells #[.slice (some ⟨pb, 0, none⟩) 1 pc, .string pn, .slice ta tl tc, .slice (some ⟨sb, 0, none⟩) 1 sc] 77)).alloc (.cells #[.string c.type, .int .i64 c.id, .string c.field, .int .i64 s, .int .i64 n, .string t, .slice na nl nc, .slice ka kl kc] 47)).heap.size := by simp
  obtain ⟨X, hX⟩ : ∃ X, X = (w.alloc (.cells #[.slice (some ⟨pb, 0, none⟩) 1 pc, .string pn, .slice ta tl tc, .slice (some ⟨sb, 0, none⟩) 1 sc] 77)).alloc (.cells #[.string c.type, .int .i64 c.id, .string c.field, .int .i64 s, .int .i64 n, .string t, .slice na nl nc, .slice ka kl kc] 47) := ⟨_, rfl⟩
  rw [← hX] at bX n0 n1 zX
  have HX := hid_of hX
  clear hX
  have HN : Hid (∀ W, Below X.heap.size X W → W.heap[w.heap.size]? = some (.cells #[.slice (some ⟨pb, 0, none⟩) 1 pc, .string pn, .slice ta tl tc, .slice (some ⟨sb, 0, none⟩) 1 sc] 77 (0, 0)) ∧ W.heap[w.heap.size + 1]? = some (.cells #[.string c.type, .int .i64 c.id, .string c.field, .int .i64 s, .int .i64 n, .string t, .slice na nl nc, .slice ka kl kc] 47 (0, 0)) ∧ Below w.heap.size w W ∧ W.cell? ⟨sb, 0, none⟩ = some (.slice ra rs.length rc)) := hid_of fun W h => ⟨(h.block _ (by omega)).trans n0, (h.block _ (by omega)).trans n1, bX.trans (h.mono (by omega)), ((bX.trans (h.mono (by omega))).cell (p := ⟨sb, 0, none⟩) hsb).trans ho⟩
  clear n0 n1 ho
  obtain ⟨kn, hkn⟩ : ∃ kn, kn = knB p c := ⟨_, rfl⟩
  rw [← hkn] at HCS
  have HK0 := hid_of hkn
  clear hkn
  go_loopw [5, 14] (fun o i wr => ∃ (k : Nat), k ≤ 1 ∧ i = .int .i64 k ∧ Below X.heap.size X wr ∧ (k = 0 → o = .slice none 0 0) ∧ (0 < k → kn = false → o = .slice none 0 0) ∧ (0 < k → kn = true → ∃ ob oc, o = .slice (some ⟨ob, 0, none⟩) 1 oc ∧ wr.cell? ⟨ob, 0, none⟩ = some (.slice ra rs.length rc) ∧ w.heap.size ≤ ob ∧ X.heap.size ≤ ob)) (fun _ i _ => 1 - (intOf i).toNat)
  case atStart => exact ⟨0, by omega, rfl, by rw [← HX.out]; exact Below.refl _ _, fun _ => rfl, fun h => by omega, fun h => by omega⟩
  case round =>
    obtain ⟨k, hk, rfl, hbel, h0, h1, h2⟩ := hrel
    obtain ⟨w0, rfl⟩ : ∃ x, x = wr := ⟨wr, rfl⟩
    obtain ⟨m0, m1, bw0, so⟩ := HN.out w0 hbel
    by_cases hlt : k < 1
    · have e : k = 0 := by omega
      subst e
      have ho := h0 rfl
      subst ho
      clear h0 h1 h2
      obtain ⟨a0, -⟩ := box_at m0 0 (by simp)
      obtain ⟨a1, -⟩ := box_at m0 1 (by simp)
      obtain ⟨a2, -⟩ := box_at m0 2 (by simp)
      obtain ⟨c0, -⟩ := box_at m1 0 (by simp)
      obtain ⟨c2, -⟩ := box_at m1 2 (by simp)
      have hK := HKN.out w0 bw0
      rw [← HK0.out] at hK
      have HKK := hid_of hK
      clear hK m0 m1
      go_wp2_with fail
      refine HKK.out.mono ?_
      rintro e w1 ⟨⟨nm, of, l, m, fr, hi', sh, na', nl', nc', rfl⟩, hb1⟩
      have z1 := hb1.size
      have b01 : Below X.heap.size X w1 := hbel.trans (hb1.mono hbel.size)
      have b02 := b01.trans ((below_box w1 (.cells #[.string nm, .string of, .bool l, .bool m, .bool fr, .bool hi', .bool sh, .slice na' nl' nc'] 103)).mono b01.size)
      clear a0 a1 a2 c0 c2 HKK so
      cases kn
      · go_wp2_with fail
        go_roundw
        case measure => simp [intOf]
        case rel => exact ⟨1, by omega, rfl, b02, fun h => by omega, fun _ _ => rfl, fun _ h => by cases h⟩
      · go_wp2_with (at_builtin; refine wpList_append_lies _ rfl _ _ 75 rfl X.heap.size 35 i0 (.slice none 0 0) 1 24 Tryz.underlying75 hi hz0 hz1 hz2 rfl (by decide) (.slice none 0 0) 0 [] rfl ?own ⟨w1.heap.size + 1, 0, none⟩ 1 1 [.slice ra rs.length rc] rfl rfl ?c1 ?c2 (by omega) ?c3 (by omega) ?c4 _ rfl ?_)
        case own => exact World.ownsRow_nil _ _ _ _
        case c1 => exact World.news_of_block (block_new _ _ (by simp))
        case c2 => intro u hu; simp at hu; subst hu; rfl
        case c3 => unfold maxLen; omega
        case c4 => have := b01.size; simp; omega
        intro g cap w5 hown5 hgrow hat hlt5
        have HG := hid_of (And.intro hown5 (And.intro hgrow hat))
        have b03 := b02.trans ((below_box (w1.alloc (.cells #[.string nm, .string of, .bool l, .bool m, .bool fr, .bool hi', .bool sh, .slice na' nl' nc'] 103)) (.cells #[.slice ra rs.length rc] 35)).mono b02.size)
        clear hown5 hgrow hat
        go_wp2_with fail
        go_roundw
        case measure => simp [intOf]
        case rel =>
          obtain ⟨hown5, hgrow, hat⟩ := HG.out
          have hg : X.heap.size ≤ g := by
            rcases hat with h | h
            · simp [Value.ownBlock] at h
            · have := b01.size; (try simp at h); omega
          refine ⟨1, by omega, rfl, b03.grown hgrow b03.size (fun k hk => by simp [Value.ownBlock] at hk), (fun h => by omega), (fun _ h => by cases h), fun _ _ => ⟨g, cap, rfl, ?_, by have := bX.size; omega, hg⟩⟩
          have := hown5.cellAt 0 (by simp)
          simpa using this
    · have e : k = 1 := by omega
      subst e
      have g1 := h1 (by omega)
      have g2 := h2 (by omega)
      clear h0 h1 h2
      obtain ⟨a0, -⟩ := box_at m0 0 (by simp)
      obtain ⟨a1, -⟩ := box_at m0 1 (by simp)
      obtain ⟨a2, -⟩ := box_at m0 2 (by simp)
      obtain ⟨a3, -⟩ := box_at m0 3 (by simp)
      obtain ⟨c0, -⟩ := box_at m1 0 (by simp)
      obtain ⟨c1, -⟩ := box_at m1 1 (by simp)
      obtain ⟨c2, -⟩ := box_at m1 2 (by simp)
      obtain ⟨c3, -⟩ := box_at m1 3 (by simp)
      obtain ⟨c4, -⟩ := box_at m1 4 (by simp)
      obtain ⟨c5, -⟩ := box_at m1 5 (by simp)
      obtain ⟨c6, -⟩ := box_at m1 6 (by simp)
      obtain ⟨c7, -⟩ := box_at m1 7 (by simp)
      clear m0 m1
      cases kn
      · have ho := g1 rfl
        subst ho
        clear g1 g2
        have hF := HF0.out w0 bw0
        have HF := hid_of hF
        clear hF
        have hcc : codeC p rs c = 1 := code_unknown HK0.out.symm
        have HCC := hid_of hcc
        clear hcc
        go_wp2_with fail
        refine HF.out.mono ?_
        rintro e w1 ⟨rfl, hb1⟩
        have bw1 := bw0.trans (hb1.mono bw0.size)
        go_wp2_with fail
        go_ret
        refine ⟨ret_int (by rw [HCC.out]), Aside.of_below bw1 (Nat.le_refl _), lab, ?_⟩
        rw [setL_same (by rw [HCC.out]; decide)]
        exact HMM.out.keep bw1
      · obtain ⟨ob, oc, rfl, hob, hob2, hob3⟩ := g2 rfl
        clear g1 g2
        have hF := HF1.out w0 ob oc bw0 hob
        rw [HCS.out rfl] at hF
        have hobz : ob < w0.heap.size := cell_block' hob
        have HF := hid_of hF
        clear hF
        by_cases hc0 : codeC p rs c = 0
        · obtain ⟨i, j, hq, hset⟩ := setL_put HST.out hc0
          have HQS := hid_of (And.intro hq hset)
          have HC0 := hid_of hc0
          rw [hc0] at HF
          clear hq hset hc0
          go_wp2_with fail
          refine HF.out.mono ?_
          rintro e w1 ⟨rfl, hb1⟩
          have bw1 := bw0.trans (hb1.mono bw0.size)
          have bX1 := hbel.trans (hb1.mono hbel.size)
          obtain ⟨-, m1, -, -⟩ := HN.out w1 bX1
          obtain ⟨d0, -⟩ := box_at m1 0 (by simp)
          obtain ⟨d1, -⟩ := box_at m1 1 (by simp)
          obtain ⟨d2, -⟩ := box_at m1 2 (by simp)
          obtain ⟨d3, -⟩ := box_at m1 3 (by simp)
          obtain ⟨d4, -⟩ := box_at m1 4 (by simp)
          obtain ⟨d5, -⟩ := box_at m1 5 (by simp)
          obtain ⟨d6, -⟩ := box_at m1 6 (by simp)
          obtain ⟨d7, -⟩ := box_at m1 7 (by simp)
          have hFE := forEach_one w1 ob oc _ _ _ ((hb1.cell (p := ⟨ob, 0, none⟩) hobz).trans hob) ⟨_, _, _, rfl⟩ (HPU.out w1 i j bw1 HQS.out.1)
          have HFE := hid_of hFE
          clear hFE m1 a0 a1 a2 a3 c0 c1 c2 c3 c4 c5 c6 c7
          go_wp2_with fail
          refine HFE.out.mono ?_
          rintro e w2 ⟨rfl, has, lab', hM'⟩
          have H2 := hid_of (And.intro has hM')
          clear has hM'
          go_wp2_with fail
          go_ret
          refine ⟨ret_int (by rw [HC0.out]), (Aside.of_below bw1 (Nat.le_refl _)).trans H2.out.1, lab', ?_⟩
          rw [HQS.out.2]
          exact H2.out.2
        · have HC0 := hid_of hc0
          have hne : (codeC p rs c == 0) = false := by simpa using hc0
          generalize hcd : codeC p rs c = cd at *
          have HCD := hid_of hcd
          clear hcd
          go_wp2_with fail
          refine HF.out.mono ?_
          rintro e w1 ⟨rfl, hb1⟩
          have bw1 := bw0.trans (hb1.mono bw0.size)
          go_wp2_with fail
          go_ret
          refine ⟨ret_int (by rw [HCD.out]), Aside.of_below bw1 (Nat.le_refl _), lab, ?_⟩
          rw [setL_same (by rw [HCD.out]; exact HC0.out)]
          exact HMM.out.keep bw1
end Go.Proofs.YtmemijccbmnaaaaGreat
