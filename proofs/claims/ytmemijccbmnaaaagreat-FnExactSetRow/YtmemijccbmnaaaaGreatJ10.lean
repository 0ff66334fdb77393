import Derived.Test.YtmemijccbmnaaaaGreatJ9
import Derived.Test.YtmemijccbmnaaaaGreatJ6
import Derived.Deep.RegionHeld3
import Derived.Deep.DeepCutAuto
import Derived.Test.YtmemijccbmnaaaaGreatJ2
import Derived.Test.YtmemijccbmnaaaaGreatJ8
import Derived.Test.YtmemijccbmnaaaaGreatJ3
namespace Go.Proofs.YtmemijccbmnaaaaGreat
set_option linter.unusedSimpArgs false
set_option linter.unusedVariables false
open Go.RowKit

set_option maxRecDepth 20000 in
set_option maxHeartbeats 1600000 in
theorem l13Code_any (p : Pt) (rs : List Ro) (c : Ch) (w : World) (B : Nat) (pn : ByteArray) (ta : Option Addr) (tl tc : Nat) (ra : Option Addr) (rc : Nat) (s n : Int) (t : ByteArray) (na ka : Option Addr) (nl nc kl kc : Nat)
    (hPt : PRep w (· < B) p (.agg #[.string pn, .slice ta tl tc])) (hB : B ≤ w.heap.size) (hR : RoReps w (· < B) rs ra) (hV : Rep w (· < B) c.val (.agg #[.int .i64 s, .int .i64 n, .string t, .slice na nl nc, .slice ka kl kc])) :
    Calls Tryz.prog 23 #[.agg #[.string pn, .slice ta tl tc], .slice ra rs.length rc, .agg #[.string c.type, .int .i64 c.id, .string c.field, .int .i64 s, .int .i64 n, .string t, .slice na nl nc, .slice ka kl kc]] w fun e w' => e = .returned (.int .i64 (codeC p rs c)) ∧ Below w.heap.size w w' := by
  have hG := fun W (h : Below w.heap.size w W) => l2Get_any p c.type c.field W B _ (hPt.under (h.mono hB)) (by have := h.size; omega)
  have hL := fun W (h : Below w.heap.size w W) => l4Find_any rs c.type c.id W (· < B) ra rc (hR.under (h.mono hB))
  go_enter Tryz.func23, Tryz.ntmps23
  go_wp2_with fail
  refine (hG _ (below_box2 w _ _)).mono ?_
  rintro e w1 ⟨nm, of, l, m, fr, hi, sh, ga, gc, rfl, hb1, hF⟩
  have z1 := hb1.size
  simp at z1
  have bw1 := (below_box2 w _ _).trans (hb1.mono (by simp; omega))
  have q0 : w1.cell? ⟨w.heap.size + 1, 0, none⟩ = some (.string c.type) := (hb1.cell (p := ⟨w.heap.size + 1, 0, none⟩) (by simp)).trans (by simp [go_sem])
  have q1 : w1.cell? ⟨w.heap.size + 1, 1, none⟩ = some (.int .i64 c.id) := (hb1.cell (p := ⟨w.heap.size + 1, 1, none⟩) (by simp)).trans (by simp [go_sem])
  have q2 : w1.cell? ⟨w.heap.size + 1, 2, none⟩ = some (.string c.field) := (hb1.cell (p := ⟨w.heap.size + 1, 2, none⟩) (by simp)).trans (by simp [go_sem])
  have q3 : w1.cell? ⟨w.heap.size + 1, 3, none⟩ = some (.int .i64 s) := (hb1.cell (p := ⟨w.heap.size + 1, 3, none⟩) (by simp)).trans (by simp [go_sem])
  have q4 : w1.cell? ⟨w.heap.size + 1, 4, none⟩ = some (.int .i64 n) := (hb1.cell (p := ⟨w.heap.size + 1, 4, none⟩) (by simp)).trans (by simp [go_sem])
  have q5 : w1.cell? ⟨w.heap.size + 1, 5, none⟩ = some (.string t) := (hb1.cell (p := ⟨w.heap.size + 1, 5, none⟩) (by simp)).trans (by simp [go_sem])
  have q6 : w1.cell? ⟨w.heap.size + 1, 6, none⟩ = some (.slice na nl nc) := (hb1.cell (p := ⟨w.heap.size + 1, 6, none⟩) (by simp)).trans (by simp [go_sem])
  have q7 : w1.cell? ⟨w.heap.size + 1, 7, none⟩ = some (.slice ka kl kc) := (hb1.cell (p := ⟨w.heap.size + 1, 7, none⟩) (by simp)).trans (by simp [go_sem])
  have p0 : w1.cell? ⟨w.heap.size, 0, none⟩ = some (.string pn) := (hb1.cell (p := ⟨w.heap.size, 0, none⟩) (by simp; omega)).trans (by simp [go_sem])
  have p1 : w1.cell? ⟨w.heap.size, 1, none⟩ = some (.slice ta tl tc) := (hb1.cell (p := ⟨w.heap.size, 1, none⟩) (by simp; omega)).trans (by simp [go_sem])
  clear hb1
  have hfar : fr = (getF p c.type c.field).far := by
    obtain ⟨na', nc', hv, -⟩ := hF
    simp only [Value.agg.injEq, Array.mk.injEq, List.cons.injEq, Value.bool.injEq] at hv
    exact hv.2.2.2.2.1
  have HKN : Hid (knB p c = (getB p c.type c.field && !fr)) := hid_of (by rw [knB, ← hfar])
  clear hfar
  cases hgb : getB p c.type c.field
  · go_wp2_with fail
    go_ret
    exact ⟨ret_int (by rw [codeC, if_pos (by rw [HKN.out, hgb]; rfl)]), bw1.trans (below_box w1 _ |>.mono (by omega))⟩
  cases fr
  rotate_left
  · go_wp2_with fail
    go_ret
    exact ⟨ret_int (by rw [codeC, if_pos (by rw [HKN.out, hgb]; rfl)]), bw1.trans (below_box w1 _ |>.mono (by omega))⟩
  have y0 : (w1.alloc (.cells #[.string nm, .string of, .bool l, .bool m, .bool false, .bool hi, .bool sh, .slice ga (getF p c.type c.field).needs.length gc] 103)).cell? ⟨w.heap.size + 1, 0, none⟩ = some (.string c.type) := ((below_box w1 _).cell (p := ⟨w.heap.size + 1, 0, none⟩) (by show w.heap.size + 1 < _; omega)).trans q0
  have y1 : (w1.alloc (.cells #[.string nm, .string of, .bool l, .bool m, .bool false, .bool hi, .bool sh, .slice ga (getF p c.type c.field).needs.length gc] 103)).cell? ⟨w.heap.size + 1, 1, none⟩ = some (.int .i64 c.id) := ((below_box w1 _).cell (p := ⟨w.heap.size + 1, 1, none⟩) (by show w.heap.size + 1 < _; omega)).trans q1
  have y2 : (w1.alloc (.cells #[.string nm, .string of, .bool l, .bool m, .bool false, .bool hi, .bool sh, .slice ga (getF p c.type c.field).needs.length gc] 103)).cell? ⟨w.heap.size + 1, 2, none⟩ = some (.string c.field) := ((below_box w1 _).cell (p := ⟨w.heap.size + 1, 2, none⟩) (by show w.heap.size + 1 < _; omega)).trans q2
  have y3 : (w1.alloc (.cells #[.string nm, .string of, .bool l, .bool m, .bool false, .bool hi, .bool sh, .slice ga (getF p c.type c.field).needs.length gc] 103)).cell? ⟨w.heap.size + 1, 3, none⟩ = some (.int .i64 s) := ((below_box w1 _).cell (p := ⟨w.heap.size + 1, 3, none⟩) (by show w.heap.size + 1 < _; omega)).trans q3
  have y4 : (w1.alloc (.cells #[.string nm, .string of, .bool l, .bool m, .bool false, .bool hi, .bool sh, .slice ga (getF p c.type c.field).needs.length gc] 103)).cell? ⟨w.heap.size + 1, 4, none⟩ = some (.int .i64 n) := ((below_box w1 _).cell (p := ⟨w.heap.size + 1, 4, none⟩) (by show w.heap.size + 1 < _; omega)).trans q4
  have y5 : (w1.alloc (.cells #[.string nm, .string of, .bool l, .bool m, .bool false, .bool hi, .bool sh, .slice ga (getF p c.type c.field).needs.length gc] 103)).cell? ⟨w.heap.size + 1, 5, none⟩ = some (.string t) := ((below_box w1 _).cell (p := ⟨w.heap.size + 1, 5, none⟩) (by show w.heap.size + 1 < _; omega)).trans q5
  have y6 : (w1.alloc (.cells #[.string nm, .string of, .bool l, .bool m, .bool false, .bool hi, .bool sh, .slice ga (getF p c.type c.field).needs.length gc] 103)).cell? ⟨w.heap.size + 1, 6, none⟩ = some (.slice na nl nc) := ((below_box w1 _).cell (p := ⟨w.heap.size + 1, 6, none⟩) (by show w.heap.size + 1 < _; omega)).trans q6
  have y7 : (w1.alloc (.cells #[.string nm, .string of, .bool l, .bool m, .bool false, .bool hi, .bool sh, .slice ga (getF p c.type c.field).needs.length gc] 103)).cell? ⟨w.heap.size + 1, 7, none⟩ = some (.slice ka kl kc) := ((below_box w1 _).cell (p := ⟨w.heap.size + 1, 7, none⟩) (by show w.heap.size + 1 < _; omega)).trans q7
  have z0 : (w1.alloc (.cells #[.string nm, .string of, .bool l, .bool m, .bool false, .bool hi, .bool sh, .slice ga (getF p c.type c.field).needs.length gc] 103)).cell? ⟨w.heap.size, 0, none⟩ = some (.string pn) := ((below_box w1 _).cell (p := ⟨w.heap.size, 0, none⟩) (by show w.heap.size < _; omega)).trans p0
  have z2 : (w1.alloc (.cells #[.string nm, .string of, .bool l, .bool m, .bool false, .bool hi, .bool sh, .slice ga (getF p c.type c.field).needs.length gc] 103)).cell? ⟨w.heap.size, 1, none⟩ = some (.slice ta tl tc) := ((below_box w1 _).cell (p := ⟨w.heap.size, 1, none⟩) (by show w.heap.size < _; omega)).trans p1
  have bw2 : Below w.heap.size w (w1.alloc (.cells #[.string nm, .string of, .bool l, .bool m, .bool false, .bool hi, .bool sh, .slice ga (getF p c.type c.field).needs.length gc] 103)) := bw1.trans (below_box w1 _ |>.mono (by omega))
  go_wp2_with fail
  refine (hL _ bw2).mono ?_
  rintro e w2 ⟨rfl, dm, hdm⟩
  have x0 : w2.cell? ⟨w.heap.size + 1, 0, none⟩ = some (.string c.type) := by rw [hdm]; exact y0
  have x1 : w2.cell? ⟨w.heap.size + 1, 1, none⟩ = some (.int .i64 c.id) := by rw [hdm]; exact y1
  have x2 : w2.cell? ⟨w.heap.size + 1, 2, none⟩ = some (.string c.field) := by rw [hdm]; exact y2
  have x3 : w2.cell? ⟨w.heap.size + 1, 3, none⟩ = some (.int .i64 s) := by rw [hdm]; exact y3
  have x4 : w2.cell? ⟨w.heap.size + 1, 4, none⟩ = some (.int .i64 n) := by rw [hdm]; exact y4
  have x5 : w2.cell? ⟨w.heap.size + 1, 5, none⟩ = some (.string t) := by rw [hdm]; exact y5
  have x6 : w2.cell? ⟨w.heap.size + 1, 6, none⟩ = some (.slice na nl nc) := by rw [hdm]; exact y6
  have x7 : w2.cell? ⟨w.heap.size + 1, 7, none⟩ = some (.slice ka kl kc) := by rw [hdm]; exact y7
  have x8 : w2.cell? ⟨w.heap.size, 0, none⟩ = some (.string pn) := by rw [hdm]; exact z0
  have x9 : w2.cell? ⟨w.heap.size, 1, none⟩ = some (.slice ta tl tc) := by rw [hdm]; exact z2
  have f0 : w2.cell? ⟨w1.heap.size, 0, none⟩ = some (.string nm) := by rw [hdm]; exact box_new _ _ 0 (by simp)
  have f1 : w2.cell? ⟨w1.heap.size, 1, none⟩ = some (.string of) := by rw [hdm]; exact box_new _ _ 1 (by simp)
  have f2 : w2.cell? ⟨w1.heap.size, 2, none⟩ = some (.bool l) := by rw [hdm]; exact box_new _ _ 2 (by simp)
  have f3 : w2.cell? ⟨w1.heap.size, 3, none⟩ = some (.bool m) := by rw [hdm]; exact box_new _ _ 3 (by simp)
  have f4 : w2.cell? ⟨w1.heap.size, 4, none⟩ = some (.bool false) := by rw [hdm]; exact box_new _ _ 4 (by simp)
  have f5 : w2.cell? ⟨w1.heap.size, 5, none⟩ = some (.bool hi) := by rw [hdm]; exact box_new _ _ 5 (by simp)
  have f6 : w2.cell? ⟨w1.heap.size, 6, none⟩ = some (.bool sh) := by rw [hdm]; exact box_new _ _ 6 (by simp)
  have f7 : w2.cell? ⟨w1.heap.size, 7, none⟩ = some (.slice ga (getF p c.type c.field).needs.length gc) := by rw [hdm]; exact box_new _ _ 7 (by simp)
  have bw3 : Below w.heap.size w w2 := by rw [hdm]; exact below_drews bw2 dm
  have HF2 : Hid (FRep w2 (· < B) (getF p c.type c.field) (.agg #[.string nm, .string of, .bool l, .bool m, .bool false, .bool hi, .bool sh, .slice ga (getF p c.type c.field).needs.length gc])) := hid_of (by
    rw [hdm]
    exact hF.under (below_drews ((below_box w1 _).mono (by omega)) dm))
  clear hdm y0 y1 y2 y3 y4 y5 y6 y7 z0 z2 q0 q1 q2 q3 q4 q5 q6 q7 p0 p1 bw2
  have HKT : Hid (knB p c = true) := hid_of (by rw [HKN.out, hgb]; rfl)
  cases hfi : fi rs c.type c.id rs.length with
  | none =>
    have e0 : fiI (none : Option Nat) = -1 := rfl
    rw [e0]
    go_wp2_with fail
    go_ret
    exact ⟨ret_int (by rw [codeC, if_neg (by rw [HKT.out]; simp), if_pos hfi]), bw3⟩
  | some i =>
    have e0 : fiI (some i) = (i : Nat) := rfl
    rw [e0]
    have HI := hid_of hfi
    clear hfi
    have hkt : 0 ≤ typeIx p c.type := by
      have := HKT.out
      simp only [knB, getB, Bool.and_eq_true, decide_eq_true_eq] at this
      exact this.1.1
    obtain ⟨ti, hti, htl⟩ : ∃ ti : Nat, typeIx p c.type = ti ∧ ti < p.types.length := by
      rcases firstTo_cases (fun i => (tth p.types i).name.toList == c.type.toList) p.types.length with ⟨hx, -⟩ | ⟨g, hx, hg, -, -⟩
      · have : typeIx p c.type = -1 := hx
        omega
      · exact ⟨g, hx, hg⟩
    have hto : typeOr p c.type = tth p.types ti := by rw [typeOr, if_pos hkt, hti]; rfl
    have HLT := hid_of (fun W (h : Below w.heap.size w W) => l2Type_any p W B _ c.type (hPt.under (h.mono hB)) (by have := h.size; omega))
    have HTI : Hid (firstTo (fun i => (tth p.types i).name.toList == c.type.toList) p.types.length = (ti : Int)) := hid_of hti
    obtain ⟨ta', tc', ev, hK, -, -⟩ := hPt
    simp only [Value.agg.injEq, Array.mk.injEq, List.cons.injEq, Value.string.injEq, Value.slice.injEq, and_true] at ev
    obtain ⟨rfl, rfl, rfl, rfl⟩ := ev
    obtain ⟨tb, toff, fa, fc', rfl, htr, hcs⟩ := hK.at hB ti htl
    have HCS := hid_of hcs
    obtain ⟨-, t1, -⟩ := hcs w2 bw3
    have hsort : s = c.val.sort := by
      obtain ⟨_, _, _, _, e, -⟩ := hV.heads
      simpa using e
    have HSO := hid_of hsort
    have HVV := hid_of hV
    have HC2 : Hid (codeC p rs c = if (c.field.toList == (tth p.types ti).key.toList) = true then 3 else if (c.val.sort == 7 || !fitS (getF p c.type c.field) c.val) = true then 4 else 0) := hid_of (by rw [codeC, if_neg (by rw [HKT.out]; simp), if_neg (by rw [HI.out]; simp), hto])
    have htli : (ti : Int) < (p.types.length : Int) := by omega
    obtain ⟨ky, hky⟩ : ∃ ky, ky = (tth p.types ti).key := ⟨_, rfl⟩
    rw [← hky] at HC2 t1
    have HKY := hid_of hky
    clear hky hsort hto hkt hcs htr hV hti hG hL hF
    have HB2 : Hid (∀ W, Below w2.heap.size w2 W → W.cell? ⟨w.heap.size + 1, 2, none⟩ = some (.string c.field) ∧ W.cell? ⟨w.heap.size, 1, none⟩ = some (.slice (some ⟨tb, toff, none⟩) p.types.length tc) ∧ W.cell? ⟨w.heap.size, 0, none⟩ = some (.string p.name) ∧ W.cell? ⟨w.heap.size + 1, 0, none⟩ = some (.string c.type) ∧ W.cell? ⟨tb, toff + ti * 3 + 1, none⟩ = some (.string ky)) := hid_of fun W h => by
      have hz : w.heap.size + 1 < w2.heap.size := cell_block' x2
      have hz2 : tb < w2.heap.size := cell_block' t1
      exact ⟨(h.cell (p := ⟨w.heap.size + 1, 2, none⟩) hz).trans x2, (h.cell (p := ⟨w.heap.size, 1, none⟩) (by show w.heap.size < _; omega)).trans x9, (h.cell (p := ⟨w.heap.size, 0, none⟩) (by show w.heap.size < _; omega)).trans x8, (h.cell (p := ⟨w.heap.size + 1, 0, none⟩) hz).trans x0, (h.cell (p := ⟨tb, toff + ti * 3 + 1, none⟩) hz2).trans t1⟩
    have HB3 : Hid (∀ W, Below w2.heap.size w2 W → (W.cell? ⟨w.heap.size + 1, 3, none⟩ = some (.int .i64 s) ∧ W.cell? ⟨w.heap.size + 1, 4, none⟩ = some (.int .i64 n) ∧ W.cell? ⟨w.heap.size + 1, 5, none⟩ = some (.string t) ∧ W.cell? ⟨w.heap.size + 1, 6, none⟩ = some (.slice na nl nc) ∧ W.cell? ⟨w.heap.size + 1, 7, none⟩ = some (.slice ka kl kc)) ∧ (W.cell? ⟨w1.heap.size, 0, none⟩ = some (.string nm) ∧ W.cell? ⟨w1.heap.size, 1, none⟩ = some (.string of) ∧ W.cell? ⟨w1.heap.size, 2, none⟩ = some (.bool l) ∧ W.cell? ⟨w1.heap.size, 3, none⟩ = some (.bool m) ∧ W.cell? ⟨w1.heap.size, 4, none⟩ = some (.bool false) ∧ W.cell? ⟨w1.heap.size, 5, none⟩ = some (.bool hi) ∧ W.cell? ⟨w1.heap.size, 6, none⟩ = some (.bool sh) ∧ W.cell? ⟨w1.heap.size, 7, none⟩ = some (.slice ga (getF p c.type c.field).needs.length gc))) := hid_of fun W h => by
      have hz : w.heap.size + 1 < w2.heap.size := cell_block' x2
      have hz2 : w1.heap.size < w2.heap.size := cell_block' f0
      exact ⟨⟨(h.cell (p := ⟨w.heap.size + 1, 3, none⟩) hz).trans x3, (h.cell (p := ⟨w.heap.size + 1, 4, none⟩) hz).trans x4, (h.cell (p := ⟨w.heap.size + 1, 5, none⟩) hz).trans x5, (h.cell (p := ⟨w.heap.size + 1, 6, none⟩) hz).trans x6, (h.cell (p := ⟨w.heap.size + 1, 7, none⟩) hz).trans x7⟩, (h.cell (p := ⟨w1.heap.size, 0, none⟩) hz2).trans f0, (h.cell (p := ⟨w1.heap.size, 1, none⟩) hz2).trans f1, (h.cell (p := ⟨w1.heap.size, 2, none⟩) hz2).trans f2, (h.cell (p := ⟨w1.heap.size, 3, none⟩) hz2).trans f3, (h.cell (p := ⟨w1.heap.size, 4, none⟩) hz2).trans f4, (h.cell (p := ⟨w1.heap.size, 5, none⟩) hz2).trans f5, (h.cell (p := ⟨w1.heap.size, 6, none⟩) hz2).trans f6, (h.cell (p := ⟨w1.heap.size, 7, none⟩) hz2).trans f7⟩
    clear x1 x3 x4 x5 x6 x7 f0 f1 f2 f3 f4 f5 f6 f7
    go_wp2_with fail
    have HBW := hid_of bw3
    clear bw3 bw1
    obtain ⟨eqk, heqk⟩ : ∃ b, b = (c.field.toList == ky.toList) := ⟨_, rfl⟩
    rw [← heqk] at HC2
    have heqk' := heqk.symm
    clear heqk
    go_cut [33] (fun r wx => r = .bool eqk ∧ Below w2.heap.size w2 wx)
    case first =>
      go_region_held3 (fun w' => w'.cell? ⟨w.heap.size + 1, 2, none⟩ = some (.string c.field) ∧ w'.cell? ⟨w.heap.size, 1, none⟩ = some (.slice (some ⟨tb, toff, none⟩) p.types.length tc) ∧ w'.cell? ⟨w.heap.size, 0, none⟩ = some (.string p.name) ∧ w'.cell? ⟨w.heap.size + 1, 0, none⟩ = some (.string c.type) ∧ w'.cell? ⟨tb, toff + ti * 3 + 1, none⟩ = some (.string ky)) (go_keep)
        (first
          | (
            go_at_call 46
            refine (HLT.out w2.drew HBW.out.drew).mono ?_
            rintro e w3 ⟨he, hb3⟩
            rw [HTI.out] at he
            subst he
            have hb3' := below_undrew hb3
            obtain ⟨y0, y1, y2, y3, y4⟩ := HB2.out w3 hb3'
            clear hb3))
      all_goals
        go_wp2_with fail
        go_meet
        case rel => exact ⟨by first | rfl | rw [heqk'] | simp [heqk'], hb3'⟩
    case rest =>
    obtain ⟨rfl, hb3⟩ := hcut
    obtain ⟨w3, rfl⟩ : ∃ x, x = wc := ⟨wc, rfl⟩
    clear x0 x2 x8 x9 t1
    obtain ⟨⟨y3, y4, y5, y6, y7⟩, g0, g1, g2, g3, g4, g5, g6, g7⟩ := HB3.out w3 hb3
    have bw4 := HBW.out.trans (hb3.mono HBW.out.size)
    cases eqk
    rotate_left
    · go_wp2_with fail
      go_ret
      exact ⟨ret_int (by rw [HC2.out]; simp), bw4⟩
    · by_cases h7 : s = 7
      · go_wp2_with fail
        go_ret
        exact ⟨ret_int (by rw [HC2.out, if_neg (by simp), if_pos (by rw [← HSO.out, h7]; rfl)]), bw4⟩
      · have hFit := l4Fits_any (getF p c.type c.field) c.val w3 B _ _ (HF2.out.mono fun b hb => hb3.block b (by have := HBW.out.size; omega)) (HVV.out.under (bw4.mono hB)) (by have := bw4.size; omega)
        have HFT := hid_of hFit
        have h7' : (s == 7) = false := by simpa using h7
        have HF7 := hid_of h7'
        obtain ⟨ft, hft⟩ : ∃ ft, ft = fitS (getF p c.type c.field) c.val := ⟨_, rfl⟩
        rw [← hft] at HFT
        have HFT2 := hid_of hft
        clear hFit hft
        cases ft
        · go_wp2_with fail
          refine HFT.out.mono ?_
          rintro e w5 ⟨rfl, hb5⟩
          have bw5 := bw4.trans (hb5.mono bw4.size)
          go_wp2_with fail
          go_ret
          exact ⟨ret_int (by rw [HC2.out, if_neg (by simp), if_pos (by rw [← HFT2.out]; simp)]), bw5⟩
        · go_wp2_with fail
          refine HFT.out.mono ?_
          rintro e w5 ⟨rfl, hb5⟩
          have bw5 := bw4.trans (hb5.mono bw4.size)
          go_wp2_with fail
          go_ret
          exact ⟨ret_int (by rw [HC2.out, if_neg (by simp), if_neg (by rw [← HFT2.out, ← HSO.out, HF7.out]; simp)]), bw5⟩
end Go.Proofs.YtmemijccbmnaaaaGreat

namespace Go.Proofs.YtmemijccbmnaaaaGreat
set_option linter.unusedSimpArgs false
set_option linter.unusedVariables false
open Go.RowKit

/-- The names of the value at the way p: their block bears the label 0 :: p, and may be written. -/
def LStrs (w : World) (lab : Nat → List Nat) (p : List Nat) (ns : List ByteArray) (na : Option Addr) : Prop :=
  ns ≠ [] → ∃ b off, na = some ⟨b, off, none⟩ ∧ lab b = 0 :: p ∧ (∀ i, w.frozen? ⟨b, i, none⟩ = false) ∧ ∀ i, i < ns.length → w.cell? ⟨b, off + i, none⟩ = some (.string (nth ns i))
/-- The value at the way p: the block of its kids bears the label 1 :: p, kid i is at the way (i + 2) :: p. -/
def LRepN (w : World) (lab : Nat → List Nat) : Nat → List Nat → V → Value → Prop
  | 0, _, _, _ => False
  | f + 1, p, x, v => ∃ (na ka : Option Addr) (nc kc b off : Nat) (C : Nat → Nat → Value),
      v = .agg #[.int .i64 x.sort, .int .i64 x.num, .string x.text, .slice na x.names.length nc, .slice ka x.kids.length kc] ∧ LStrs w lab p x.names na ∧
      (x.kids ≠ [] → ka = some ⟨b, off, none⟩ ∧ lab b = 1 :: p ∧ ∀ i, w.frozen? ⟨b, i, none⟩ = false) ∧ (∀ i, i < x.kids.length → ∀ j, j < 5 → w.cell? ⟨b, off + i * 5 + j, none⟩ = some (C i j)) ∧
      ∀ i, i < x.kids.length → LRepN w lab f ((i + 2) :: p) (kth x.kids i) (.agg #[C i 0, C i 1, C i 2, C i 3, C i 4])
def LRep (w : World) (lab : Nat → List Nat) (p : List Nat) (x : V) (v : Value) : Prop := ∃ f, LRepN w lab f p x v
/-- The kids of the value at the way p. -/
def LKids (w : World) (lab : Nat → List Nat) (p : List Nat) (ks : List V) (ka : Option Addr) : Prop :=
  ∃ (b off : Nat) (C : Nat → Nat → Value), (ks ≠ [] → ka = some ⟨b, off, none⟩ ∧ lab b = 1 :: p ∧ ∀ i, w.frozen? ⟨b, i, none⟩ = false) ∧ (∀ i, i < ks.length → ∀ j, j < 5 → w.cell? ⟨b, off + i * 5 + j, none⟩ = some (C i j)) ∧
    ∀ i, i < ks.length → LRep w lab ((i + 2) :: p) (kth ks i) (.agg #[C i 0, C i 1, C i 2, C i 3, C i 4])

theorem LRepN.le {w : World} {lab : Nat → List Nat} : ∀ {f g : Nat} {p : List Nat} {x : V} {v : Value}, LRepN w lab f p x v → f ≤ g → LRepN w lab g p x v
  | 0, _, _, _, _, h, _ => h.elim
  | f + 1, 0, _, _, _, _, hg => by omega
  | f + 1, g + 1, p, x, v, h, hg => by
    obtain ⟨na, ka, nc, kc, b, off, C, h1, h2, h3, h4, h5⟩ := h
    exact ⟨na, ka, nc, kc, b, off, C, h1, h2, h3, h4, fun i hi => (h5 i hi).le (by omega)⟩
theorem lrep_bound {w : World} {lab : Nat → List Nat} {W : Nat → List Nat} {X : Nat → V} {U : Nat → Value} : ∀ n : Nat, (∀ i, i < n → LRep w lab (W i) (X i) (U i)) → ∃ f, ∀ i, i < n → LRepN w lab f (W i) (X i) (U i)
  | 0, _ => ⟨0, fun i hi => by omega⟩
  | n + 1, h => by
    obtain ⟨f, hf⟩ := lrep_bound n fun i hi => h i (by omega)
    obtain ⟨g, hg⟩ := h n (by omega)
    refine ⟨f + g, fun i hi => ?_⟩
    by_cases e : i = n
    · subst e; exact hg.le (by omega)
    · exact (hf i (by omega)).le (by omega)
theorem LRep.of_kids {w : World} {lab : Nat → List Nat} {p : List Nat} {s n : Int} {t : ByteArray} {ns : List ByteArray} {ks : List V} {na ka : Option Addr} {nc kc : Nat} (hs : LStrs w lab p ns na) (hK : LKids w lab p ks ka) :
    LRep w lab p (.mk s n t ns ks) (.agg #[.int .i64 s, .int .i64 n, .string t, .slice na ns.length nc, .slice ka ks.length kc]) := by
  obtain ⟨b, off, C, hka, hc, hr⟩ := hK
  obtain ⟨f, hf⟩ := lrep_bound ks.length hr
  exact ⟨f + 1, na, ka, nc, kc, b, off, C, rfl, hs, hka, hc, hf⟩
theorem LRep.inv {w : World} {lab : Nat → List Nat} {p : List Nat} {x : V} {v : Value} (h : LRep w lab p x v) :
    ∃ (na ka : Option Addr) (nc kc : Nat), v = .agg #[.int .i64 x.sort, .int .i64 x.num, .string x.text, .slice na x.names.length nc, .slice ka x.kids.length kc] ∧ LStrs w lab p x.names na ∧ LKids w lab p x.kids ka := by
  obtain ⟨f, h⟩ := h
  match f, h with
  | f + 1, h =>
    obtain ⟨na, ka, nc, kc, b, off, C, hv, hs, hka, hc, hr⟩ := h
    exact ⟨na, ka, nc, kc, hv, hs, b, off, C, hka, hc, fun i hi => ⟨f, hr i hi⟩⟩

theorem suffix_cons {a : Nat} {p l : List Nat} (h : (a :: p) <:+ l) : p <:+ l := (List.suffix_cons a p).trans h
theorem LStrs.keep {w w' : World} {lab : Nat → List Nat} {p : List Nat} {ns : List ByteArray} {na : Option Addr} (h : LStrs w lab p ns na) (e : ∀ b, lab b ≠ [] → p <:+ lab b → w'.heap[b]? = w.heap[b]?) : LStrs w' lab p ns na := fun hn => by
  obtain ⟨b, off, h1, h2, h3, h4⟩ := h hn
  have hb := e b (by rw [h2]; simp) (by rw [h2]; exact List.suffix_cons 0 p)
  exact ⟨b, off, h1, h2, fun i => (World.frozen?_of_block (w := w) (a := ⟨b, i, none⟩) hb).trans (h3 i), fun i hi => (World.cell?_of_block (w := w) (a := ⟨b, off + i, none⟩) hb).trans (h4 i hi)⟩
theorem LRepN.keep {w w' : World} {lab : Nat → List Nat} : ∀ {f : Nat} {p : List Nat} {x : V} {v : Value}, LRepN w lab f p x v → (∀ b, lab b ≠ [] → p <:+ lab b → w'.heap[b]? = w.heap[b]?) → LRepN w' lab f p x v
  | 0, _, _, _, h, _ => h.elim
  | f + 1, p, x, v, h, e => by
    obtain ⟨na, ka, nc, kc, b, off, C, h1, h2, h3, h4, h5⟩ := h
    refine ⟨na, ka, nc, kc, b, off, C, h1, h2.keep e, fun hn => ?_, fun i hi j hj => ?_, fun i hi => (h5 i hi).keep fun b' hb' hs' => e b' hb' (suffix_cons hs')⟩
    · obtain ⟨k1, k2, k3⟩ := h3 hn
      have hb := e b (by rw [k2]; simp) (by rw [k2]; exact List.suffix_cons 1 p)
      exact ⟨k1, k2, fun i => (World.frozen?_of_block (w := w) (a := ⟨b, i, none⟩) hb).trans (k3 i)⟩
    · obtain ⟨k1, k2, k3⟩ := h3 (by intro e; simp [e] at hi)
      have hb := e b (by rw [k2]; simp) (by rw [k2]; exact List.suffix_cons 1 p)
      exact (World.cell?_of_block (w := w) (a := ⟨b, off + i * 5 + j, none⟩) hb).trans (h4 i hi j hj)
theorem LRep.keep {w w' : World} {lab : Nat → List Nat} {p : List Nat} {x : V} {v : Value} (h : LRep w lab p x v) (e : ∀ b, lab b ≠ [] → p <:+ lab b → w'.heap[b]? = w.heap[b]?) : LRep w' lab p x v := by
  obtain ⟨f, h⟩ := h; exact ⟨f, h.keep e⟩
theorem LKids.keep {w w' : World} {lab : Nat → List Nat} {p : List Nat} {ks : List V} {ka : Option Addr} (h : LKids w lab p ks ka) (e : ∀ b, lab b ≠ [] → p <:+ lab b → w'.heap[b]? = w.heap[b]?) : LKids w' lab p ks ka := by
  obtain ⟨b, off, C, h3, h4, h5⟩ := h
  refine ⟨b, off, C, fun hn => ?_, fun i hi j hj => ?_, fun i hi => (h5 i hi).keep fun b' hb' hs' => e b' hb' (suffix_cons hs')⟩
  · obtain ⟨k1, k2, k3⟩ := h3 hn
    have hb := e b (by rw [k2]; simp) (by rw [k2]; exact List.suffix_cons 1 p)
    exact ⟨k1, k2, fun i => (World.frozen?_of_block (w := w) (a := ⟨b, i, none⟩) hb).trans (k3 i)⟩
  · obtain ⟨k1, k2, k3⟩ := h3 (by intro e; simp [e] at hi)
    have hb := e b (by rw [k2]; simp) (by rw [k2]; exact List.suffix_cons 1 p)
    exact (World.cell?_of_block (w := w) (a := ⟨b, off + i * 5 + j, none⟩) hb).trans (h4 i hi j hj)
end Go.Proofs.YtmemijccbmnaaaaGreat

namespace Go.Proofs.YtmemijccbmnaaaaGreat
set_option linter.unusedSimpArgs false
set_option linter.unusedVariables false
open Go.RowKit

mutual
/-- How many marks a value takes inside. -/
def nV : V → Nat
  | .mk _ _ _ ns ks => ns.length + nL ks
/-- How many marks values take. -/
def nL : List V → Nat
  | [] => 0
  | k :: r => 3 + nV k + nL r
end
theorem nV_eq (x : V) : nV x = x.names.length + nL x.kids := by obtain ⟨s, n, t, ns, ks⟩ := x; simp only [nV]
theorem nL_append (a b : List V) : nL (a ++ b) = nL a + nL b := by
  induction a with
  | nil => simp [nL]
  | cons k r ih => simp [nL, ih]; omega
theorem nL_take (ks : List V) (k : Nat) (h : k < ks.length) : nL (ks.take (k + 1)) = nL (ks.take k) + (3 + nV (kth ks k)) := by
  rw [take_kth' ks k h, nL_append]; simp [nL]
theorem nL_part (ks : List V) (k : Nat) : nL (ks.take k) ≤ nL ks := by
  conv => rhs; rw [← List.take_append_drop k ks]
  rw [nL_append]; omega
theorem nV_sz (x : V) : nV x ≤ 3 * szV x := by
  refine v_ind (q := fun x => nV x ≤ 3 * szV x) (fun x ih => ?_) x
  have h1 := sums (f := fun k => 3 + nV k) (g := fun k => 3 * (1 + szV k)) (F := nL) (G := fun l => 3 * (l.length + sL l)) rfl rfl (fun _ _ => by simp [nL]) (fun _ _ => by simp [sL]; omega) x.kids (fun i hi => by have := ih i hi; show 3 + nV (kth x.kids i) ≤ 3 * (1 + szV (kth x.kids i)); omega)
  rw [nV_eq, szV_eq]
  have := len_szNs x.names
  omega

def mkNs (n k : Nat) : List ByteArray := (List.range n).map fun i => mtext (k + i)
theorem mkNs_len (n k : Nat) : (mkNs n k).length = n := by simp [mkNs]
theorem mkNs_nth (n k i : Nat) (h : i < n) : nth (mkNs n k) i = mtext (k + i) := by simp [mkNs, nth, List.getD_eq_getElem?_getD, List.getElem?_map, List.getElem?_range h]
/-- Values as they are when they are marked, from k on. -/
def mkL : List V → Nat → List V
  | [], _ => []
  | .mk _ _ _ ns ks :: r, k => .mk (k : Nat) ((k + 1 : Nat) : Int) (mtext (k + 2)) (mkNs ns.length (k + 3)) (mkL ks (k + 3 + ns.length)) :: mkL r (k + 3 + (ns.length + nL ks))
/-- A value as it is when it is marked, from k on. -/
def mk1 (x : V) (k : Nat) : V := .mk (k : Nat) ((k + 1 : Nat) : Int) (mtext (k + 2)) (mkNs x.names.length (k + 3)) (mkL x.kids (k + 3 + x.names.length))
theorem mkL_cons (x : V) (r : List V) (k : Nat) : mkL (x :: r) k = mk1 x k :: mkL r (k + 3 + nV x) := by
  obtain ⟨s, n, t, ns, ks⟩ := x
  simp only [mkL, mk1, nV]
theorem mkL_len : ∀ (ks : List V) (k : Nat), (mkL ks k).length = ks.length
  | [], _ => by simp [mkL]
  | x :: r, k => by rw [mkL_cons]; simp [mkL_len r]
theorem mkL_kth : ∀ (ks : List V) (k i : Nat), i < ks.length → kth (mkL ks k) i = mk1 (kth ks i) (k + nL (ks.take i))
  | [], _, _, h => by simp at h
  | x :: r, k, 0, _ => by rw [mkL_cons]; simp [kth, nL]
  | x :: r, k, i + 1, h => by
    rw [mkL_cons]
    have := mkL_kth r (k + 3 + nV x) i (by simpa using h)
    simp only [kth, List.getD_cons_succ, List.take_succ_cons, nL] at this ⊢
    rw [this]
    congr 1
    omega

/-- What marks on the kids at a way change. -/
def Sk (lab : Nat → List Nat) (p : List Nat) (b : Nat) : Prop := lab b = 1 :: p ∨ ∃ i, ((i + 2) :: p) <:+ lab b
theorem same_len {a b : Nat} {p q l : List Nat} (h : (a :: p) <:+ l) (h' : (b :: q) <:+ l) (e : p.length = q.length) : a = b ∧ p = q := by
  have := List.suffix_of_suffix_length_le h h' (by simp [e])
  have := this.eq_of_length (by simp [e])
  simpa using this
theorem Sk.zero {lab : Nat → List Nat} {p : List Nat} {b : Nat} (h : lab b = 0 :: p) : ¬ Sk lab p b := by
  rintro (h1 | ⟨i, h1⟩)
  · rw [h] at h1; simp at h1
  · rw [h] at h1
    have := same_len h1 (List.suffix_refl _) rfl
    omega
theorem Sk.up {lab : Nat → List Nat} {p : List Nat} {b i : Nat} (h : Sk lab ((i + 2) :: p) b) : Sk lab p b := by
  rcases h with h1 | ⟨j, h1⟩
  · exact Or.inr ⟨i, by rw [h1]; exact List.suffix_cons _ _⟩
  · exact Or.inr ⟨i, suffix_cons h1⟩
/-- Marks on one kid leave another one alone. -/
theorem apart_kids {lab : Nat → List Nat} {p : List Nat} {b i j : Nat} (hij : i ≠ j) (h : ((i + 2) :: p) <:+ lab b) : lab b ≠ 1 :: p ∧ lab b ≠ 0 :: (j + 2) :: p ∧ ¬ Sk lab ((j + 2) :: p) b := by
  refine ⟨fun e => ?_, fun e => ?_, ?_⟩
  · rw [e] at h
    have := same_len h (List.suffix_refl _) rfl
    omega
  · have h2 : ((j + 2) :: p) <:+ lab b := by rw [e]; exact List.suffix_cons _ _
    have := same_len h h2 rfl
    omega
  · rintro (h1 | ⟨m, h1⟩)
    · have h2 : ((j + 2) :: p) <:+ lab b := by rw [h1]; exact List.suffix_cons _ _
      have := same_len h h2 rfl
      omega
    · have := same_len h (suffix_cons h1) rfl
      omega

/-- Nothing but some blocks has changed; none is frozen that wasn't. -/
structure Only (S : Nat → Prop) (w w' : World) : Prop where
  os : w'.os = w.os
  tape : w'.tape = w.tape
  output : w'.output = w.output
  size : w.heap.size ≤ w'.heap.size
  block : ∀ b, b < w.heap.size → ¬ S b → w'.heap[b]? = w.heap[b]?
  frozen : ∀ a, a.block < w.heap.size → w'.frozen? a = w.frozen? a
theorem Only.refl (S : Nat → Prop) (w : World) : Only S w w := ⟨rfl, rfl, rfl, Nat.le_refl _, fun _ _ _ => rfl, fun _ _ => rfl⟩
theorem Only.trans {S : Nat → Prop} {a b c : World} (h : Only S a b) (k : Only S b c) : Only S a c :=
  ⟨k.os.trans h.os, k.tape.trans h.tape, k.output.trans h.output, Nat.le_trans h.size k.size, fun i hi hn => (k.block i (Nat.lt_of_lt_of_le hi h.size) hn).trans (h.block i hi hn), fun a ha => (k.frozen a (Nat.lt_of_lt_of_le ha h.size)).trans (h.frozen a ha)⟩
theorem Only.wider {S S' : Nat → Prop} {a b : World} (h : Only S a b) (e : ∀ c, S c → S' c) : Only S' a b := ⟨h.os, h.tape, h.output, h.size, fun i hi hn => h.block i hi (fun hs => hn (e i hs)), h.frozen⟩
theorem Only.of_below {w w' : World} (S : Nat → Prop) (h : Below w.heap.size w w') : Only S w w' := ⟨h.os, h.tape, h.output, h.size, fun b hb _ => h.block b hb, fun a ha => h.frozen ha⟩
theorem Only.set {w : World} {S : Nat → Prop} (p : Addr) (v : Value) (h : S p.block) : Only S w (w.setCell p v) :=
  ⟨rfl, rfl, rfl, by rw [size_set]; exact Nat.le_refl _, fun b _ hn => Below.heap_setCell _ _ _ _ (fun e => hn (by rw [e]; exact h)), fun a _ => by simp⟩
theorem Only.of_marked {lo hi : Nat} {w w' : World} {S : Nat → Prop} (h : Marked lo hi w w') (e : ∀ b, lo ≤ b → b < hi → S b) : Only S w w' :=
  ⟨h.os, h.tape, h.output, h.size, fun b hb hn => h.block b hb (fun hh => hn (e b hh.1 hh.2)), h.frozen⟩

/-- markStringS on names that lie apart. -/
theorem markNames_l (lab : Nat → List Nat) (p : List Nat) (ns : List ByteArray) (a : Option Addr) (c k : Nat) (w : World) (h : LStrs w lab p ns a) (hn : ns.length ≤ 1048576) (hk : k ≤ 1000000000000) :
    Calls Tryz.prog 69 #[.slice a ns.length c, .int .i64 k] w fun e w' => e = .returned (.int .i64 ((k + ns.length : Nat) : Int)) ∧ Only (fun b => lab b = 0 :: p) w w' ∧ LStrs w' lab p (mkNs ns.length k) a := by
  by_cases h0 : ns = []
  · subst h0
    refine (markStringS_any 0 c k 0 0 a w (fun h => by omega) (by omega) hk).mono ?_
    rintro e w' ⟨rfl, hm, -⟩
    exact ⟨rfl, Only.of_marked hm (fun b h1 h2 => by omega), fun h => absurd rfl h⟩
  · obtain ⟨b, off, rfl, hl, hf, hc⟩ := h h0
    refine (markStringS_any ns.length c k b (b + 1) _ w (fun _ => ⟨b, off, rfl, Nat.le_refl _, Nat.lt_succ_self _, fun i hi => ⟨⟨_, hc i hi⟩, hf _⟩⟩) hn hk).mono ?_
    rintro e w' ⟨rfl, hm, hcc⟩
    have hb := cell_block (hc 0 (List.length_pos_iff.2 h0))
    refine ⟨rfl, Only.of_marked hm (fun b' h1 h2 => by rw [show b' = b by omega]; exact hl), fun _ => ⟨b, off, rfl, hl, fun i => (hm.frozen ⟨b, i, none⟩ hb).trans (hf i), fun i hi => ?_⟩⟩
    rw [mkNs_len] at hi
    rw [hcc b off rfl i hi, mkNs_nth _ _ _ hi]

/-- Five cells of a row, each kid in memory of its own. -/
def LRow (w : World) (lab : Nat → List Nat) (p : List Nat) (n : Nat) (X : Nat → V) (b off : Nat) : Prop :=
  ∃ C : Nat → Nat → Value, (∀ i, i < n → ∀ j, j < 5 → w.cell? ⟨b, off + i * 5 + j, none⟩ = some (C i j)) ∧ ∀ i, i < n → LRep w lab ((i + 2) :: p) (X i) (.agg #[C i 0, C i 1, C i 2, C i 3, C i 4])

/-- One kid is marked. -/
theorem LRow.mark {w w' : World} {lab : Nat → List Nat} {p : List Nat} {n : Nat} {X : Nat → V} {b off j : Nat} (h : LRow w lab p n X b off) (hj : j < n) (hb : lab b = 1 :: p) {y : V} {c0 c1 c2 c3 c4 : Value}
    (hlt : ∀ c, lab c ≠ [] → c < w.heap.size) (hO : Only (fun c => c = b ∨ lab c = 0 :: (j + 2) :: p ∨ Sk lab ((j + 2) :: p) c) w w') (hcell : ∀ m, ¬ (off + j * 5 ≤ m ∧ m < off + j * 5 + 3) → w'.cell? ⟨b, m, none⟩ = w.cell? ⟨b, m, none⟩)
    (k0 : w'.cell? ⟨b, off + j * 5, none⟩ = some c0) (k1 : w'.cell? ⟨b, off + j * 5 + 1, none⟩ = some c1) (k2 : w'.cell? ⟨b, off + j * 5 + 2, none⟩ = some c2) (k3 : w'.cell? ⟨b, off + j * 5 + 3, none⟩ = some c3) (k4 : w'.cell? ⟨b, off + j * 5 + 4, none⟩ = some c4)
    (hy : LRep w' lab ((j + 2) :: p) y (.agg #[c0, c1, c2, c3, c4])) : LRow w' lab p n (fun i => if i = j then y else X i) b off := by
  obtain ⟨C, hc, hr⟩ := h
  refine ⟨fun i m => if i = j then [c0, c1, c2, c3, c4].getD m undef else C i m, fun i hi m hm => ?_, fun i hi => ?_⟩
  · show w'.cell? ⟨b, off + i * 5 + m, none⟩ = some (if i = j then [c0, c1, c2, c3, c4].getD m undef else C i m)
    by_cases e : i = j
    · subst e
      rw [if_pos rfl]
      have : m = 0 ∨ m = 1 ∨ m = 2 ∨ m = 3 ∨ m = 4 := by omega
      rcases this with rfl | rfl | rfl | rfl | rfl
      · exact k0
      · exact k1
      · exact k2
      · exact k3
      · exact k4
    · rw [if_neg e, hcell _ (by omega)]
      exact hc i hi m hm
  · by_cases e : i = j
    · subst e
      simpa using hy
    · simp only [if_neg e]
      refine (hr i hi).keep fun c h1 h2 => hO.block c (hlt c h1) ?_
      have ha := apart_kids (j := j) e h2
      rintro (h3 | h3 | h3)
      · rw [h3] at ha; exact ha.1 hb
      · exact ha.2.1 h3
      · exact ha.2.2 h3
end Go.Proofs.YtmemijccbmnaaaaGreat

namespace Go.Proofs.YtmemijccbmnaaaaGreat
set_option linter.unusedSimpArgs false
set_option linter.unusedVariables false
open Go.RowKit

/-- What a thing at a way holds stays while all that lies behind the way stays. -/
def Keeps (lab : Nat → List Nat) (p : List Nat) (E : World → Nat → (Nat → Value) → Prop) : Prop :=
  ∀ w w' i c, E w i c → (∀ b, lab b ≠ [] → ((i + 2) :: p) <:+ lab b → w'.heap[b]? = w.heap[b]?) → E w' i c
/-- A list of things of so many cells each, at a way: its block bears the label 1 :: p. -/
def GRow (w : World) (sz n b off : Nat) (E : World → Nat → (Nat → Value) → Prop) : Prop :=
  ∃ C : Nat → Nat → Value, (∀ i, i < n → ∀ j, j < sz → w.cell? ⟨b, off + i * sz + j, none⟩ = some (C i j)) ∧ ∀ i, i < n → E w i (C i)
/-- Within a block nothing but a window has changed; beside it nothing but some blocks. -/
structure Win (S : Nat → Prop) (b lo hi : Nat) (w w' : World) : Prop where
  only : Only S w w'
  cell : ∀ m, ¬ (lo ≤ m ∧ m < hi) → w'.cell? ⟨b, m, none⟩ = w.cell? ⟨b, m, none⟩
theorem Win.refl (S : Nat → Prop) (b lo hi : Nat) (w : World) : Win S b lo hi w w := ⟨Only.refl _ _, fun _ _ => rfl⟩
theorem Win.trans {S : Nat → Prop} {b lo hi : Nat} {a c d : World} (h : Win S b lo hi a c) (k : Win S b lo hi c d) : Win S b lo hi a d :=
  ⟨h.only.trans k.only, fun m hm => (k.cell m hm).trans (h.cell m hm)⟩
theorem Win.below {S : Nat → Prop} {b lo hi : Nat} {w w' : World} (h : Below w.heap.size w w') (hb : b < w.heap.size) : Win S b lo hi w w' :=
  ⟨Only.of_below _ h, fun m _ => h.cell (p := ⟨b, m, none⟩) hb⟩
theorem Win.set {S : Nat → Prop} {b lo hi : Nat} {w : World} (m : Nat) (v : Value) (h : S b) (h1 : lo ≤ m) (h2 : m < hi) : Win S b lo hi w (w.setCell ⟨b, m, none⟩ v) :=
  ⟨Only.set _ _ h, fun n hn => World.cell?_setCell_other _ _ _ _ (by intro e; simp only [Addr.mk.injEq, and_true, true_and] at e; omega)⟩
theorem Win.beside {S S' : Nat → Prop} {b lo hi : Nat} {w w' : World} (h : Only S' w w') (hs : ∀ c, S' c → S c) (hb : b < w.heap.size) (hn : ¬ S' b) : Win S b lo hi w w' :=
  ⟨h.wider hs, fun m _ => World.cell?_of_block (w := w) (a := ⟨b, m, none⟩) (h.block b hb hn)⟩

/-- One thing of a list has been dealt with. -/
theorem GRow.mark {w w' : World} {lab : Nat → List Nat} {p : List Nat} {sz n b off j : Nat} {M U : World → Nat → (Nat → Value) → Prop} (h : GRow w sz n b off (fun w i c => if i < j then M w i c else U w i c)) (hj : j < n) (hb : lab b = 1 :: p)
    (hM : Keeps lab p M) (hU : Keeps lab p U) (hlt : ∀ c, lab c ≠ [] → c < w.heap.size) (hO : Win (fun c => c = b ∨ ((j + 2) :: p) <:+ lab c) b (off + j * sz) (off + j * sz + sz) w w')
    (c : Nat → Value) (hc : ∀ m, m < sz → w'.cell? ⟨b, off + j * sz + m, none⟩ = some (c m)) (hm : M w' j c) : GRow w' sz n b off (fun w i c => if i < j + 1 then M w i c else U w i c) := by
  obtain ⟨C, hC, hr⟩ := h
  refine ⟨fun i m => if i = j then c m else C i m, fun i hi m hms => ?_, fun i hi => ?_⟩
  · show w'.cell? ⟨b, off + i * sz + m, none⟩ = some (if i = j then c m else C i m)
    by_cases e : i = j
    · subst e
      rw [if_pos rfl]
      exact hc m hms
    · rw [if_neg e, hO.cell _ ?_]
      · exact hC i hi m hms
      · rintro ⟨h1, h2⟩
        rcases Nat.lt_or_ge i j with h3 | h3
        · have : (i + 1) * sz ≤ j * sz := Nat.mul_le_mul_right _ (by omega)
          rw [Nat.add_mul, Nat.one_mul] at this
          omega
        · have : (j + 1) * sz ≤ i * sz := Nat.mul_le_mul_right _ (by omega)
          rw [Nat.add_mul, Nat.one_mul] at this
          omega
  · by_cases e : i = j
    · subst e
      have e' : (fun m => if i = i then c m else C i m) = c := by funext m; simp
      simp only [if_pos (Nat.lt_succ_self i), e']
      exact hm
    · have e' : (fun m => if i = j then c m else C i m) = C i := by funext m; simp [e]
      have hk : ∀ b', lab b' ≠ [] → ((i + 2) :: p) <:+ lab b' → w'.heap[b']? = w.heap[b']? := fun b' h1 h2 => hO.only.block b' (hlt b' h1) (by
        rintro (h3 | h3)
        · rw [h3, hb] at h2
          have := same_len h2 (List.suffix_refl _) rfl
          omega
        · have := same_len h2 h3 rfl
          omega)
      have h1 := hr i hi
      show if i < j + 1 then M w' i (fun m => if i = j then c m else C i m) else U w' i (fun m => if i = j then c m else C i m)
      rw [e']
      by_cases e2 : i < j
      · rw [if_pos (by omega)]
        simp only [if_pos e2] at h1
        exact hM _ _ _ _ h1 hk
      · rw [if_neg (by omega)]
        simp only [if_neg e2] at h1
        exact hU _ _ _ _ h1 hk
theorem GRow.start {w : World} {sz n b off : Nat} {M U : World → Nat → (Nat → Value) → Prop} (h : GRow w sz n b off U) : GRow w sz n b off (fun w i c => if i < 0 then M w i c else U w i c) := by
  obtain ⟨C, h1, h2⟩ := h
  exact ⟨C, h1, fun i hi => by simpa using h2 i hi⟩
theorem GRow.done {w : World} {sz n b off : Nat} {M U : World → Nat → (Nat → Value) → Prop} (h : GRow w sz n b off (fun w i c => if i < n then M w i c else U w i c)) : GRow w sz n b off M := by
  obtain ⟨C, h1, h2⟩ := h
  exact ⟨C, h1, fun i hi => by have := h2 i hi; simp only [if_pos hi] at this; exact this⟩
theorem GRow.now {w : World} {sz n b off j : Nat} {M U : World → Nat → (Nat → Value) → Prop} (h : GRow w sz n b off (fun w i c => if i < j then M w i c else U w i c)) (hj : j < n) : ∃ c : Nat → Value, (∀ m, m < sz → w.cell? ⟨b, off + j * sz + m, none⟩ = some (c m)) ∧ U w j c := by
  obtain ⟨C, h1, h2⟩ := h
  exact ⟨C j, h1 j hj, by have := h2 j hj; simp only [Nat.lt_irrefl, if_false] at this; exact this⟩
theorem GRow.keep {w w' : World} {lab : Nat → List Nat} {p : List Nat} {sz n b off : Nat} {E : World → Nat → (Nat → Value) → Prop} (h : GRow w sz n b off E) (hE : Keeps lab p E) (hbl : w'.heap[b]? = w.heap[b]?) (e : ∀ c, lab c ≠ [] → p <:+ lab c → w'.heap[c]? = w.heap[c]?) : GRow w' sz n b off E := by
  obtain ⟨C, h1, h2⟩ := h
  exact ⟨C, fun i hi j hj => (World.cell?_of_block (w := w) (a := ⟨b, off + i * sz + j, none⟩) hbl).trans (h1 i hi j hj), fun i hi => hE _ _ _ _ (h2 i hi) fun b' k1 k2 => e b' k1 (suffix_cons k2)⟩
theorem GRow.at {w : World} {sz n b off : Nat} {E : World → Nat → (Nat → Value) → Prop} (h : GRow w sz n b off E) {j : Nat} (hj : j < n) : ∃ c : Nat → Value, (∀ m, m < sz → w.cell? ⟨b, off + j * sz + m, none⟩ = some (c m)) ∧ E w j c := by
  obtain ⟨C, h1, h2⟩ := h
  exact ⟨C j, h1 j hj, h2 j hj⟩

/-- A cell at a way. -/
def LCe (lab : Nat → List Nat) (p : List Nat) (X : Nat → Ce) (w : World) (i : Nat) (c : Nat → Value) : Prop :=
  c 0 = .string (X i).name ∧ LRep w lab ((i + 2) :: p) (X i).val (.agg #[c 1, c 2, c 3, c 4, c 5])
/-- Cells at a way. -/
def LCells (w : World) (lab : Nat → List Nat) (p : List Nat) (cs : List Ce) (a : Option Addr) : Prop :=
  0 < cs.length → ∃ b off, a = some ⟨b, off, none⟩ ∧ lab b = 1 :: p ∧ (∀ i, w.frozen? ⟨b, i, none⟩ = false) ∧ GRow w 6 cs.length b off (LCe lab p (cth cs))
/-- A row at a way. -/
def LRo (lab : Nat → List Nat) (p : List Nat) (X : Nat → Ro) (w : World) (i : Nat) (c : Nat → Value) : Prop :=
  c 0 = .string (X i).type ∧ c 1 = .int .i64 (X i).id ∧ ∃ ca cc, c 2 = .slice ca (X i).cells.length cc ∧ LCells w lab ((i + 2) :: p) (X i).cells ca
/-- Rows at a way. -/
def LRows (w : World) (lab : Nat → List Nat) (p : List Nat) (rs : List Ro) (a : Option Addr) : Prop :=
  0 < rs.length → ∃ b off, a = some ⟨b, off, none⟩ ∧ lab b = 1 :: p ∧ (∀ i, w.frozen? ⟨b, i, none⟩ = false) ∧ GRow w 3 rs.length b off (LRo lab p (rth rs))
theorem LCe.keeps (lab : Nat → List Nat) (p : List Nat) (X : Nat → Ce) : Keeps lab p (LCe lab p X) := fun w w' i c h e => ⟨h.1, h.2.keep e⟩
theorem LCells.keep {w w' : World} {lab : Nat → List Nat} {p : List Nat} {cs : List Ce} {a : Option Addr} (h : LCells w lab p cs a) (e : ∀ c, lab c ≠ [] → p <:+ lab c → w'.heap[c]? = w.heap[c]?) : LCells w' lab p cs a := fun hn => by
  obtain ⟨b, off, h1, h2, h3, h4⟩ := h hn
  have hb := e b (by rw [h2]; simp) (by rw [h2]; exact List.suffix_cons _ _)
  exact ⟨b, off, h1, h2, fun i => (World.frozen?_of_block (w := w) (a := ⟨b, i, none⟩) hb).trans (h3 i), h4.keep (LCe.keeps _ _ _) hb e⟩
theorem LRo.keeps (lab : Nat → List Nat) (p : List Nat) (X : Nat → Ro) : Keeps lab p (LRo lab p X) := fun w w' i c h e => by
  obtain ⟨h1, h2, ca, cc, h3, h4⟩ := h
  exact ⟨h1, h2, ca, cc, h3, h4.keep e⟩
theorem LRows.keep {w w' : World} {lab : Nat → List Nat} {p : List Nat} {rs : List Ro} {a : Option Addr} (h : LRows w lab p rs a) (e : ∀ c, lab c ≠ [] → p <:+ lab c → w'.heap[c]? = w.heap[c]?) : LRows w' lab p rs a := fun hn => by
  obtain ⟨b, off, h1, h2, h3, h4⟩ := h hn
  have hb := e b (by rw [h2]; simp) (by rw [h2]; exact List.suffix_cons _ _)
  exact ⟨b, off, h1, h2, fun i => (World.frozen?_of_block (w := w) (a := ⟨b, i, none⟩) hb).trans (h3 i), h4.keep (LRo.keeps _ _ _) hb e⟩

/-- Other labels, longer by a way. -/
theorem LRepN.relabel {w : World} {lab lab' : Nat → List Nat} {q : List Nat} (e : ∀ b, lab b ≠ [] → lab' b = lab b ++ q) : ∀ {f : Nat} {p : List Nat} {x : V} {v : Value}, LRepN w lab f p x v → LRepN w lab' f (p ++ q) x v
  | 0, _, _, _, h => h.elim
  | f + 1, p, x, v, h => by
    obtain ⟨na, ka, nc, kc, b, off, C, h1, h2, h3, h4, h5⟩ := h
    refine ⟨na, ka, nc, kc, b, off, C, h1, fun hn => ?_, fun hn => ?_, h4, fun i hi => (h5 i hi).relabel e⟩
    · obtain ⟨b', o', k1, k2, k3⟩ := h2 hn
      exact ⟨b', o', k1, by rw [e b' (by rw [k2]; simp), k2]; rfl, k3⟩
    · obtain ⟨k1, k2, k3⟩ := h3 hn
      exact ⟨k1, by rw [e b (by rw [k2]; simp), k2]; rfl, k3⟩
theorem LRep.relabel {w : World} {lab lab' : Nat → List Nat} {p q : List Nat} {x : V} {v : Value} (h : LRep w lab p x v) (e : ∀ b, lab b ≠ [] → lab' b = lab b ++ q) : LRep w lab' (p ++ q) x v := by
  obtain ⟨f, h⟩ := h; exact ⟨f, h.relabel e⟩
/-- The same labels where it matters. -/
theorem LRepN.labels {w : World} {lab lab' : Nat → List Nat} : ∀ {f : Nat} {p : List Nat} {x : V} {v : Value}, LRepN w lab f p x v → (∀ b, lab b ≠ [] → p <:+ lab b → lab' b = lab b) → LRepN w lab' f p x v
  | 0, _, _, _, h, _ => h.elim
  | f + 1, p, x, v, h, e => by
    obtain ⟨na, ka, nc, kc, b, off, C, h1, h2, h3, h4, h5⟩ := h
    refine ⟨na, ka, nc, kc, b, off, C, h1, fun hn => ?_, fun hn => ?_, h4, fun i hi => (h5 i hi).labels fun b' hb' hs' => e b' hb' (suffix_cons hs')⟩
    · obtain ⟨b', o', k1, k2, k3⟩ := h2 hn
      exact ⟨b', o', k1, by rw [e b' (by rw [k2]; simp) (by rw [k2]; exact List.suffix_cons _ _), k2], k3⟩
    · obtain ⟨k1, k2, k3⟩ := h3 hn
      exact ⟨k1, by rw [e b (by rw [k2]; simp) (by rw [k2]; exact List.suffix_cons _ _), k2], k3⟩
theorem LRep.labels {w : World} {lab lab' : Nat → List Nat} {p : List Nat} {x : V} {v : Value} (h : LRep w lab p x v) (e : ∀ b, lab b ≠ [] → p <:+ lab b → lab' b = lab b) : LRep w lab' p x v := by
  obtain ⟨f, h⟩ := h; exact ⟨f, h.labels e⟩
end Go.Proofs.YtmemijccbmnaaaaGreat
