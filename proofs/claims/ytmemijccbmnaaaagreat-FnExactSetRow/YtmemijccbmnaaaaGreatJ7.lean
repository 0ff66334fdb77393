import Derived.Test.YtmemijccbmnaaaaGreatJ6
import Derived.Test.YtmemijccbmnaaaaGreatJ5
import Derived.Test.YtmemijccbmnaaaaGreatPCheck
import Derived.IntWalk
namespace Go.Proofs.YtmemijccbmnaaaaGreat
set_option linter.unusedSimpArgs false
set_option linter.unusedVariables false
open Go.RowKit

set_option maxRecDepth 20000 in
set_option maxHeartbeats 6400000 in
theorem l4Row_any (t : T) (r : Ro) (w : World) (B : Nat) (v u : Value) (hT : TRep w (· < B) t v) (hR : RoRep w (· < B) r u) (hB : B ≤ w.heap.size) :
    Calls Tryz.prog 47 #[v, u] w fun e w' => e = .returned (.bool (rowB t r)) ∧ Below w.heap.size w w' := by
  obtain ⟨type, id, cells⟩ := r
  obtain ⟨ca, cc, rfl, hC, hcc, -⟩ := hR
  obtain ⟨name, key, fields⟩ := t
  obtain ⟨fa, fc, rfl, hK, -⟩ := hT
  simp only at hC hcc hK
  have h96 := hC.1
  have h64 := hK.1
  have HRB : Hid (rowB ⟨name, key, fields⟩ ⟨type, id, cells⟩ = (decide (0 ≤ id) && decide (id ≤ 999999) && decide (cells.length = (KF fields fields.length).length) && cellsTo ⟨name, key, fields⟩ ⟨type, id, cells⟩ (KF fields fields.length) (KF fields fields.length).length)) := rfl
  have RS := row_short ⟨name, key, fields⟩ ⟨type, id, cells⟩
  have RBD := row_bad ⟨name, key, fields⟩ ⟨type, id, cells⟩
  have CG := cells_grow ⟨name, key, fields⟩ ⟨type, id, cells⟩
  simp only at RS RBD CG
  obtain ⟨X, hXe⟩ : ∃ X, X = ((w.alloc (.cells #[.string name, .string key, .slice fa fields.length fc] 101)).alloc (.cells #[.string type, .int .i64 id, .slice ca cells.length cc] 69)) := ⟨_, rfl⟩
  have TB : ∀ W, Below (w.heap.size + 1 + 1) X W → (W.cell? ⟨w.heap.size, 1, none⟩ = some (.string key) ∧ W.cell? ⟨w.heap.size, 2, none⟩ = some (.slice fa fields.length fc)) ∧ (W.cell? ⟨w.heap.size + 1, 1, none⟩ = some (.int .i64 id) ∧ W.cell? ⟨w.heap.size + 1, 2, none⟩ = some (.slice ca cells.length cc)) ∧ Below w.heap.size w W ∧ w.heap.size + 1 < W.heap.size := fun W h => by
    obtain ⟨h1, h2, h3, h4⟩ := boxes2 (by rw [← hXe]; exact h)
    exact ⟨⟨h1 1 (by simp), h1 2 (by simp)⟩, ⟨h2 1 (by simp), h2 2 (by simp)⟩, h3, h4⟩
  have hT0 : Below (w.heap.size + 1 + 1) X ((w.alloc (.cells #[.string name, .string key, .slice fa fields.length fc] 101)).alloc (.cells #[.string type, .int .i64 id, .slice ca cells.length cc] 69)) := by rw [hXe]; exact Below.refl _ _
  clear hXe
  go_enter Tryz.func47, Tryz.ntmps47
  go_wp2_with fail
  go_loopw [5, 6] (fun kk ii wr => ∃ i : Nat, i ≤ fields.length ∧ kk = .int .i64 ((KF fields i).length : Int) ∧ ii = .int .i64 i ∧ Below (w.heap.size + 1 + 1) X wr ∧ cellsTo ⟨name, key, fields⟩ ⟨type, id, cells⟩ (KF fields fields.length) (KF fields i).length = true) (fun _ ii _ => fields.length - (intOf ii).toNat)
  case atStart => exact ⟨0, Nat.zero_le _, rfl, rfl, hT0, rfl⟩
  case round =>
    clear hT0
    obtain ⟨i, hi, rfl, rfl, hT, hp⟩ := hrel
    obtain ⟨w0, rfl⟩ : ∃ x, x = wr := ⟨wr, rfl⟩
    have HP : Hid (cellsTo ⟨name, key, fields⟩ ⟨type, id, cells⟩ (KF fields fields.length) (KF fields i).length = true) := hp
    clear hp
    have hkl := KF_len fields i
    obtain ⟨⟨p1, p2⟩, ⟨q1, q2⟩, hw0, hz0⟩ := TB w0 hT
    by_cases hlt : i < fields.length
    · have hii : (i : Int) < (fields.length : Int) := by omega
      obtain ⟨b, off, na, nc, rfl, hFR, hcs⟩ := hK.at hB i hlt
      obtain ⟨f0, f1, f2, f3, f4, f5, f6, f7⟩ := hcs w0 hw0
      clear hcs
      cases hf : (fth fields i).far
      case true =>
        rw [hf] at f4
        have HN : Hid (KF fields (i + 1) = KF fields i) := by show _ = _; rw [KF, if_pos hf]
        go_wp2_with fail
        go_roundw
        case rel => exact ⟨i + 1, by omega, by rw [HN.out], by go_num, hT.alloc (by omega) _, by rw [HN.out]; exact HP.out⟩
        case measure => simp [intOf]; omega
      rw [hf] at f4 hFR
      have HN : Hid ((KF fields (i + 1)).length = (KF fields i).length + 1) := by show _ = _; rw [KF, if_neg (by simp [hf])]; simp
      have HRS : Hid (cells.length ≤ (KF fields i).length → rowB ⟨name, key, fields⟩ ⟨type, id, cells⟩ = false) := RS i hlt hf
      have HRBD : Hid (cellB ⟨name, key, fields⟩ id (fth fields i) (cth cells (KF fields i).length) = false → rowB ⟨name, key, fields⟩ ⟨type, id, cells⟩ = false) := RBD i hlt hf
      have HCG : Hid (cellB ⟨name, key, fields⟩ id (fth fields i) (cth cells (KF fields i).length) = true → cellsTo ⟨name, key, fields⟩ ⟨type, id, cells⟩ (KF fields fields.length) (KF fields (i + 1)).length = true) := CG i hlt hf HP.out
      have HKE : Hid (∃ k, k = (KF fields i).length) := ⟨_, rfl⟩
      generalize hkk : (KF fields i).length = k at hkl HN HRS HRBD HCG
      go_wp2_with fail
      obtain ⟨W1, hW1⟩ : ∃ x, x = (w0.alloc (.cells #[.string (fth fields i).name, .string (fth fields i).of, .bool (fth fields i).list, .bool (fth fields i).must, .bool false, .bool (fth fields i).hidden, .bool (fth fields i).shared, .slice na (fth fields i).needs.length nc] 103)) := ⟨_, rfl⟩
      have bF : Below w0.heap.size w0 W1 := by rw [hW1]; exact below_box _ _
      have zW1 : w0.heap.size < W1.heap.size := by rw [hW1]; simp
      have KFB : W1.heap[w0.heap.size]? = some (.cells #[.string (fth fields i).name, .string (fth fields i).of, .bool (fth fields i).list, .bool (fth fields i).must, .bool false, .bool (fth fields i).hidden, .bool (fth fields i).shared, .slice na (fth fields i).needs.length nc] 103 (0, 0)) := by rw [hW1]; exact heap_alloc_new _ _
      rw [← hW1]
      clear hW1 f0 f1 f2 f3 f4 f5 f6 f7 p1 p2 q1 q2
      have hT1 := hT.trans (bF.mono (by omega))
      obtain ⟨⟨p1', p2'⟩, ⟨q1', q2'⟩, hw1, hz1⟩ := TB W1 hT1
      by_cases hkc : k < cells.length
      case neg =>
        have hk1 : (cells.length : Int) ≤ (k : Int) := by omega
        have hk2 : decide ((cells.length : Int) ≤ (k : Int)) = true := by simp; omega
        have HQ : Hid (rowB ⟨name, key, fields⟩ ⟨type, id, cells⟩ = false) := HRS.out (by omega)
        clear hkk HRS HRBD HCG HN
        go_quiet (fail)
        go_wp2_with fail
        go_ret
        exact ⟨ret_bool HQ.out.symm, below_drews hw1 _⟩
      have hkci : (k : Int) < (cells.length : Int) := by omega
      have hkci2 : decide ((cells.length : Int) ≤ (k : Int)) = false := by simp; omega
      have hkci3 : decide (cells.length ≤ k) = false := by simp; omega
      obtain ⟨b', off', na2, ka2, nc2, kc2, rfl, hV, hds⟩ := hC.at hB k hkc
      have AF : ∀ W, Below W1.heap.size W1 W → (W.cell? ⟨w0.heap.size, 0, none⟩ = some (.string (fth fields i).name) ∧ W.cell? ⟨w0.heap.size, 1, none⟩ = some (.string (fth fields i).of) ∧ W.cell? ⟨w0.heap.size, 2, none⟩ = some (.bool (fth fields i).list) ∧ W.cell? ⟨w0.heap.size, 3, none⟩ = some (.bool (fth fields i).must) ∧ W.cell? ⟨w0.heap.size, 4, none⟩ = some (.bool false) ∧ W.cell? ⟨w0.heap.size, 5, none⟩ = some (.bool (fth fields i).hidden) ∧ W.cell? ⟨w0.heap.size, 6, none⟩ = some (.bool (fth fields i).shared) ∧ W.cell? ⟨w0.heap.size, 7, none⟩ = some (.slice na (fth fields i).needs.length nc)) ∧ (W.cell? ⟨b', off' + k * 6, none⟩ = some (.string (cth cells k).name) ∧ W.cell? ⟨b', off' + k * 6 + 1, none⟩ = some (.int .i64 (cth cells k).val.sort) ∧ W.cell? ⟨b', off' + k * 6 + 2, none⟩ = some (.int .i64 (cth cells k).val.num) ∧ W.cell? ⟨b', off' + k * 6 + 3, none⟩ = some (.string (cth cells k).val.text) ∧ W.cell? ⟨b', off' + k * 6 + 4, none⟩ = some (.slice na2 (cth cells k).val.names.length nc2) ∧ W.cell? ⟨b', off' + k * 6 + 5, none⟩ = some (.slice ka2 (cth cells k).val.kids.length kc2)) ∧ W.cell? ⟨w.heap.size, 1, none⟩ = some (.string key) ∧ W.cell? ⟨w.heap.size + 1, 1, none⟩ = some (.int .i64 id) ∧ W.cell? ⟨w.heap.size + 1, 2, none⟩ = some (.slice (some ⟨b', off', none⟩) cells.length cc) ∧ Below (w.heap.size + 1 + 1) X W ∧ Below w.heap.size w W := fun W h => by
        have K := (h.block _ zW1).trans KFB
        have h2 := hT1.trans (h.mono (by omega))
        obtain ⟨⟨a1, a2⟩, ⟨a3, a4⟩, a5, -⟩ := TB W h2
        exact ⟨⟨(box_at K 0 (by simp)).1, (box_at K 1 (by simp)).1, (box_at K 2 (by simp)).1, (box_at K 3 (by simp)).1, (box_at K 4 (by simp)).1, (box_at K 5 (by simp)).1, (box_at K 6 (by simp)).1, (box_at K 7 (by simp)).1⟩, hds W a5, a1, a3, a4, h2, a5⟩
      have hfit := l4Fits_any (fth fields i) (cth cells k).val W1.drew B _ _ (hFR.under (hw1.drew.mono hB)) (hV.under (hw1.drew.mono hB)) (by simp; omega)
      have HCB : Hid (cellB ⟨name, key, fields⟩ id (fth fields i) (cth cells k) = ((cth cells k).name.toList == (fth fields i).name.toList && fitS (fth fields i) (cth cells k).val && (!((fth fields i).name.toList == key.toList) || ((cth cells k).val.sort == 3 && (cth cells k).val.num == id)))) := rfl
      generalize fitS (fth fields i) (cth cells k).val = fi at hfit HCB
      obtain ⟨⟨g0', g1', g2', g3', g4', g5', g6', g7'⟩, ⟨d0, d1, d2, d3, d4, d5⟩, -⟩ := AF _ (Below.refl _ _)
      clear hds HRS
      cases x1 : ((cth cells k).name.toList == (fth fields i).name.toList)
      · have x1' : ((cth cells k).name.toList != (fth fields i).name.toList) = true := by simp only [bne, x1]; rfl
        have HQ : Hid (rowB ⟨name, key, fields⟩ ⟨type, id, cells⟩ = false) := HRBD.out (by rw [HCB.out, x1]; rfl)
        clear hkk HRBD HCG HN HCB AF hfit
        go_quiet (fail)
        go_wp2_with fail
        go_ret
        exact ⟨ret_bool HQ.out.symm, below_drews hw1 _⟩
      have x1' : ((cth cells k).name.toList != (fth fields i).name.toList) = false := by simp only [bne, x1]; rfl
      rw [x1] at HCB
      clear hkk
      go_cut [49] (fun r wx => r = .bool (!fi) ∧ Below W1.heap.size W1 wx)
      case first =>
        go_region_held3 (fun w' => w'.cell? ⟨w.heap.size + 1, 2, none⟩ = some (.slice (some ⟨b', off', none⟩) cells.length cc) ∧ w'.cell? ⟨w0.heap.size, 0, none⟩ = some (.string (fth fields i).name) ∧ w'.cell? ⟨w0.heap.size, 1, none⟩ = some (.string (fth fields i).of) ∧ w'.cell? ⟨w0.heap.size, 2, none⟩ = some (.bool (fth fields i).list) ∧ w'.cell? ⟨w0.heap.size, 3, none⟩ = some (.bool (fth fields i).must) ∧ w'.cell? ⟨w0.heap.size, 4, none⟩ = some (.bool false) ∧ w'.cell? ⟨w0.heap.size, 5, none⟩ = some (.bool (fth fields i).hidden) ∧ w'.cell? ⟨w0.heap.size, 6, none⟩ = some (.bool (fth fields i).shared) ∧ w'.cell? ⟨w0.heap.size, 7, none⟩ = some (.slice na (fth fields i).needs.length nc) ∧ w'.cell? ⟨b', off' + k * 6, none⟩ = some (.string (cth cells k).name) ∧ w'.cell? ⟨b', off' + k * 6 + 1, none⟩ = some (.int .i64 (cth cells k).val.sort) ∧ w'.cell? ⟨b', off' + k * 6 + 2, none⟩ = some (.int .i64 (cth cells k).val.num) ∧ w'.cell? ⟨b', off' + k * 6 + 3, none⟩ = some (.string (cth cells k).val.text) ∧ w'.cell? ⟨b', off' + k * 6 + 4, none⟩ = some (.slice na2 (cth cells k).val.names.length nc2) ∧ w'.cell? ⟨b', off' + k * 6 + 5, none⟩ = some (.slice ka2 (cth cells k).val.kids.length kc2)) (go_keep)
          (first
            | (
              go_at_call 50
              refine hfit.mono ?_
              rintro e w3 ⟨rfl, hb3⟩
              have hb3' := below_undrew hb3
              obtain ⟨⟨m0, m1, m2, m3, m4, m5, m6, m7⟩, ⟨n0, n1, n2, n3, n4, n5⟩, o1, o2, o3, hT3, hw3⟩ := AF w3 hb3'))
        all_goals
          go_wp2_with fail
          go_meet
          case rel => exact ⟨rfl, hb3'⟩
      case rest =>
      obtain ⟨rfl, hb3⟩ := hcut
      obtain ⟨w3, rfl⟩ : ∃ x, x = wc := ⟨wc, rfl⟩
      have AF3 := AF w3 hb3
      have z31 := hb3.size
      clear g0' g1' g2' g3' g4' g5' g6' g7' d0 d1 d2 d3 d4 d5 hfit p1' p2' q1' q2' hw1 hT1 AF hb3
      obtain ⟨⟨m0, m1, m2, m3, m4, m5, m6, m7⟩, ⟨n0, n1, n2, n3, n4, n5⟩, o1, o2, o3, hT3, hw3⟩ := AF3
      cases fi
      · have HQ : Hid (rowB ⟨name, key, fields⟩ ⟨type, id, cells⟩ = false) := HRBD.out (by rw [HCB.out]; rfl)
        clear HRBD HCG HN HCB
        go_wp2_with fail
        go_ret
        exact ⟨ret_bool HQ.out.symm, hw3⟩
      have z3 := hT3.size
      have HTV := hT3.alloc (by omega) (.cells #[.int .i64 (cth cells k).val.sort, .int .i64 (cth cells k).val.num, .string (cth cells k).val.text, .slice na2 (cth cells k).val.names.length nc2, .slice ka2 (cth cells k).val.kids.length kc2] 45)
      obtain ⟨⟨l1, -⟩, ⟨l2, -⟩, hwV, -⟩ := TB _ HTV
      have l0 := fun o => ((below_box w3 o).cell (p := ⟨w0.heap.size, 0, none⟩) (cell_block' m0)).trans m0
      cases x3 : ((fth fields i).name.toList == key.toList)
      · have HQ : Hid (cellsTo ⟨name, key, fields⟩ ⟨type, id, cells⟩ (KF fields fields.length) (KF fields (i + 1)).length = true) := HCG.out (by rw [HCB.out, x3]; rfl)
        clear HRBD HCG HCB
        go_wp2_with fail
        go_roundw
        case rel => exact ⟨i + 1, by omega, by rw [HN.out]; go_num, by go_num, HTV, HQ.out⟩
        case measure => simp [intOf]; omega
      rw [x3] at HCB
      cases x4 : ((cth cells k).val.sort == 3)
      · have x4' : ((cth cells k).val.sort != 3) = true := by simp only [bne, x4]; rfl
        have HQ : Hid (rowB ⟨name, key, fields⟩ ⟨type, id, cells⟩ = false) := HRBD.out (by rw [HCB.out, x4]; rfl)
        clear HRBD HCG HN HCB
        go_wp2_with fail
        go_ret
        exact ⟨ret_bool HQ.out.symm, hwV⟩
      have x4' : ((cth cells k).val.sort != 3) = false := by simp only [bne, x4]; rfl
      rw [x4] at HCB
      cases x5 : ((cth cells k).val.num == id)
      · have x5' : ((cth cells k).val.num != id) = true := by simp only [bne, x5]; rfl
        have HQ : Hid (rowB ⟨name, key, fields⟩ ⟨type, id, cells⟩ = false) := HRBD.out (by rw [HCB.out, x5]; rfl)
        clear HRBD HCG HN HCB
        go_wp2_with fail
        go_ret
        exact ⟨ret_bool HQ.out.symm, hwV⟩
      · have x5' : ((cth cells k).val.num != id) = false := by simp only [bne, x5]; rfl
        have HQ : Hid (cellsTo ⟨name, key, fields⟩ ⟨type, id, cells⟩ (KF fields fields.length) (KF fields (i + 1)).length = true) := HCG.out (by rw [HCB.out, x5]; rfl)
        clear HRBD HCG HCB
        go_wp2_with fail
        go_roundw
        case rel => exact ⟨i + 1, by omega, by rw [HN.out]; go_num, by go_num, HTV, HQ.out⟩
        case measure => simp [intOf]; omega
    · have e : i = fields.length := by omega
      subst e
      have HQ : Hid (rowB ⟨name, key, fields⟩ ⟨type, id, cells⟩ = (decide (0 ≤ id) && decide (id ≤ 999999) && decide (cells.length = (KF fields fields.length).length))) := by show _ = _; rw [HRB.out, HP.out]; simp
      by_cases hl : (KF fields fields.length).length = cells.length
      · have hl1 : (((KF fields fields.length).length : Int) == (cells.length : Int)) = true := by rw [hl]; simp
        go_wp2_with (go_at_call 45; refine (l1In_any _ _ _ _).mono ?_; rintro e w1 ⟨rfl, rfl⟩)
        go_ret
        exact ⟨ret_bool (by rw [HQ.out, decide_eq_true hl.symm]; simp), hw0⟩
      · have hl1 : (((KF fields fields.length).length : Int) == (cells.length : Int)) = false := by rw [beq_eq_false_iff_ne]; omega
        go_wp2_with fail
        go_ret
        have hne : ¬ cells.length = (KF fields fields.length).length := fun e => hl e.symm
        exact ⟨ret_bool (by rw [HQ.out, decide_eq_false hne]; simp), hw0⟩
end Go.Proofs.YtmemijccbmnaaaaGreat

namespace Go.Proofs.YtmemijccbmnaaaaGreat
set_option linter.unusedSimpArgs false
set_option linter.unusedVariables false
open Go.RowKit

/-- What the model's StoreOk answers. -/
def storeS (p : Pt) (rs : List Ro) : Bool := okP p && (decide (1 ≤ rs.length) && decide (rs.length ≤ 16)) && (isT (rth rs 0).type [113, 117, 101, 114, 121] && (rth rs 0).id == 0) && allTo (oneS p rs) rs.length

theorem tIx_nat (p : Pt) (s : ByteArray) (h : 0 ≤ tIx p s) : ∃ n : Nat, tIx p s = n ∧ n < p.types.length := by
  rcases tIx_bd p s with h1 | h1
  · exact ⟨(tIx p s).toNat, by omega, by omega⟩
  · omega

set_option maxRecDepth 20000 in
set_option maxHeartbeats 6400000 in
theorem StoreOkS_any (p : Pt) (rs : List Ro) (w : World) (B : Nat) (v : Value) (ra : Option Addr) (rc : Nat) (hP : PRep w (· < B) p v) (hRs : RoReps w (· < B) rs ra) (hB : B ≤ w.heap.size) (hz : szP p ≤ 1048576) :
    Calls Tryz.prog 22 #[v, .slice ra rs.length rc] w fun e w' => e = .returned (.bool (storeS p rs)) ∧ Below w.heap.size w w' := by
  have hP' := hP
  have h48 := hRs.1
  obtain ⟨name, types⟩ := p
  obtain ⟨ta, tc, rfl, hK, -⟩ := hP
  simp only at hP' hK
  have hC := fun W (h : Below w.heap.size w W) => PartCheckS_any ⟨name, types⟩ W B _ (hP'.under (h.mono hB)) (by have := h.size; omega) hz
  have hok := partFault_ok ⟨name, types⟩
  have HS : Hid (storeS ⟨name, types⟩ rs = (okP ⟨name, types⟩ && (decide (1 ≤ rs.length) && decide (rs.length ≤ 16)) && (isT (rth rs 0).type [113, 117, 101, 114, 121] && (rth rs 0).id == 0) && allTo (oneS ⟨name, types⟩ rs) rs.length)) := rfl
  generalize partFault ⟨name, types⟩ = pf at hC hok
  obtain ⟨pa, pc⟩ := pf
  simp only at hC hok
  have hfld := field_code (.int .i64 pa) (.int .i64 pc)
  obtain ⟨X, hXe⟩ : ∃ X, X = (w.alloc (.cells #[.string name, .slice ta types.length tc] 40)) := ⟨_, rfl⟩
  have TB : ∀ W, Below (w.heap.size + 1) X W → W.cell? ⟨w.heap.size, 0, none⟩ = some (.string name) ∧ W.cell? ⟨w.heap.size, 1, none⟩ = some (.slice ta types.length tc) ∧ Below w.heap.size w W ∧ w.heap.size < W.heap.size := fun W h => by
    have hz := h.size
    rw [hXe] at h
    have hz2 : X.heap.size = w.heap.size + 1 := by rw [hXe]; simp
    exact ⟨(h.cell (p := ⟨w.heap.size, 0, none⟩) (by show w.heap.size < _; omega)).trans (box_new _ _ 0 (by simp)), (h.cell (p := ⟨w.heap.size, 1, none⟩) (by show w.heap.size < _; omega)).trans (box_new _ _ 1 (by simp)), (below_box w _).trans (h.mono (by omega)), by omega⟩
  have hT0 : Below (w.heap.size + 1) X (w.alloc (.cells #[.string name, .slice ta types.length tc] 40)) := by rw [hXe]; exact Below.refl _ _
  clear hXe
  cases ho : okP ⟨name, types⟩
  · have hne : (pc != 0) = true := by simp; intro e; rw [hok.1 e] at ho; cases ho
    go_enter Tryz.func22, Tryz.ntmps22
    go_wp2_with (go_at_call 44; refine (hC _ (below_box _ _)).mono ?_; rintro e w1 ⟨rfl, hb1⟩)
    go_ret
    exact ⟨ret_bool (by rw [HS.out, ho]; rfl), (below_box w _).trans (hb1.mono (by simp))⟩
  have hp0 : pc = 0 := hok.2 ho
  subst hp0
  clear hok
  cases hl : (decide ((1 : Int) ≤ (rs.length : Int)) && decide ((rs.length : Int) ≤ 16))
  · have HL : Hid ((decide (1 ≤ rs.length) && decide (rs.length ≤ 16)) = false) := by
      show _ = _
      rw [← hl]; congr 1 <;> simp <;> omega
    go_enter Tryz.func22, Tryz.ntmps22
    go_wp2_with (first
      | (go_at_call 44; refine (hC _ (below_box _ _)).mono ?_; rintro e w1 ⟨rfl, hb1⟩)
      | (go_at_call 45; refine (l1In_any _ _ _ _).mono ?_; rw [hl]; rintro e w2 ⟨rfl, rfl⟩))
    go_ret
    exact ⟨ret_bool (by rw [HS.out, HL.out]; simp), (below_box w _).trans (hb1.mono (by simp))⟩
  have hln : 1 ≤ rs.length ∧ rs.length ≤ 16 := by simp only [Bool.and_eq_true, decide_eq_true_eq] at hl; omega
  obtain ⟨b, off, ca0, cc0, rfl, -, hcs0⟩ := hRs.at hB 0 (by omega)
  have h0l : (0 : Int) < (rs.length : Int) := by omega
  have FC : ∀ W, Below w.heap.size w W → W.cell? ⟨b, off, none⟩ = some (.string (rth rs 0).type) ∧ W.cell? ⟨b, off + 1, none⟩ = some (.int .i64 (rth rs 0).id) := fun W hb => by
    obtain ⟨x0, x1, -⟩ := hcs0 W hb
    simp only [Nat.zero_mul, Nat.add_zero] at x0 x1
    exact ⟨x0, x1⟩
  cases hf1 : ((rth rs 0).type.toList == [113, 117, 101, 114, 121])
  · have hf1' : ((rth rs 0).type.toList != [113, 117, 101, 114, 121]) = true := by simp only [bne, hf1]; rfl
    go_enter Tryz.func22, Tryz.ntmps22
    go_wp2_with (first
      | (go_at_call 44; refine (hC _ (below_box _ _)).mono ?_; rintro e w1 ⟨rfl, hb1⟩; have hw1 := (below_box w _).trans (hb1.mono (by simp)); obtain ⟨x0, x1⟩ := FC w1 hw1)
      | (go_at_call 45; refine (l1In_any _ _ _ _).mono ?_; rw [hl]; rintro e w2 ⟨rfl, rfl⟩))
    go_ret
    exact ⟨ret_bool (by rw [HS.out]; simp [isT, hf1]), hw1⟩
  have hf1' : ((rth rs 0).type.toList != [113, 117, 101, 114, 121]) = false := by simp only [bne, hf1]; rfl
  cases hf2 : ((rth rs 0).id == 0)
  · have hf2' : ((rth rs 0).id != 0) = true := by simp only [bne, hf2]; rfl
    go_enter Tryz.func22, Tryz.ntmps22
    go_wp2_with (first
      | (go_at_call 44; refine (hC _ (below_box _ _)).mono ?_; rintro e w1 ⟨rfl, hb1⟩; have hw1 := (below_box w _).trans (hb1.mono (by simp)); obtain ⟨x0, x1⟩ := FC w1 hw1)
      | (go_at_call 45; refine (l1In_any _ _ _ _).mono ?_; rw [hl]; rintro e w2 ⟨rfl, rfl⟩))
    go_ret
    exact ⟨ret_bool (by rw [HS.out]; simp [hf2]), hw1⟩
  have hf2' : ((rth rs 0).id != 0) = false := by simp only [bne, hf2]; rfl
  have HSR : Hid (storeS ⟨name, types⟩ rs = allTo (oneS ⟨name, types⟩ rs) rs.length) := by
    show _ = _
    rw [HS.out, ho, decide_eq_true hln.1, decide_eq_true hln.2, show isT (rth rs 0).type [113, 117, 101, 114, 121] = true from hf1, hf2]; rfl
  go_enter Tryz.func22, Tryz.ntmps22
  go_wp2_with (first
    | (go_at_call 44; refine (hC _ (below_box _ _)).mono ?_; rintro e w1 ⟨rfl, hb1⟩; have hw1 := (below_box w _).trans (hb1.mono (by simp)); obtain ⟨x0, x1⟩ := FC w1 hw1; have hT1 := hT0.trans (hb1.mono (by simp)))
    | (go_at_call 45; refine (l1In_any _ _ _ _).mono ?_; rw [hl]; rintro e w2 ⟨rfl, rfl⟩))
  clear x0 x1 hw1 hb1 hT0 hC hl hf1 hf1' hf2 hf2' FC hcs0 hfld HS
  go_loopw [5] (fun i wr => ∃ k : Nat, k ≤ rs.length ∧ i = .int .i64 k ∧ Below (w.heap.size + 1) X wr ∧ allTo (oneS ⟨name, types⟩ rs) k = true) (fun i _ => rs.length - (intOf i).toNat)
  case atStart => exact ⟨0, Nat.zero_le _, rfl, hT1, rfl⟩
  case round =>
    clear hT1
    obtain ⟨k, hk, rfl, hT, hp⟩ := hrel
    obtain ⟨w0, rfl⟩ : ∃ x, x = wr := ⟨wr, rfl⟩
    have HP : Hid (allTo (oneS ⟨name, types⟩ rs) k = true) := hp
    clear hp
    obtain ⟨p0, p1, hw0, hz0⟩ := TB w0 hT
    by_cases hlt : k < rs.length
    · have hki : (k : Int) < (rs.length : Int) := by omega
      obtain ⟨b2, off2, ca, cc, e2, hRo, hcs⟩ := hRs.at hB k hlt
      simp only [Option.some.injEq, Addr.mk.injEq, and_true] at e2
      obtain ⟨rfl, rfl⟩ := e2
      obtain ⟨c0, c1, c2⟩ := hcs w0 hw0
      have hL := l2Type_any ⟨name, types⟩ w0.drew B _ (rth rs k).type (hP'.under (hw0.drew.mono hB)) (by simp; omega)
      have HF : Hid (oneS ⟨name, types⟩ rs k = false → storeS ⟨name, types⟩ rs = false) := fun h => by rw [HSR.out]; exact allTo_false _ _ k hlt h
      have HN : Hid (oneS ⟨name, types⟩ rs k = true → allTo (oneS ⟨name, types⟩ rs) (k + 1) = true) := fun h => by rw [allTo_succ, HP.out]; exact h
      have HO : Hid (oneS ⟨name, types⟩ rs k = (decide (0 ≤ tIx ⟨name, types⟩ (rth rs k).type) && rowB (tth types (tIx ⟨name, types⟩ (rth rs k).type).toNat) (rth rs k) && (decide (k = 0) || (!(tIx ⟨name, types⟩ (rth rs k).type == 0) && !decide (tIx ⟨name, types⟩ (rth rs k).type < tIx ⟨name, types⟩ (rth rs (k - 1)).type) && !((tIx ⟨name, types⟩ (rth rs (k - 1)).type == tIx ⟨name, types⟩ (rth rs k).type) && decide ((rth rs k).id ≤ (rth rs (k - 1)).id)))))) := rfl
      have hnat := tIx_nat ⟨name, types⟩ (rth rs k).type
      have hL' : Calls Tryz.prog 46 #[.agg #[.string name, .slice ta types.length tc], .string (rth rs k).type] w0.drew fun e w' => e = .returned (.int .i64 (tIx ⟨name, types⟩ (rth rs k).type)) ∧ Below w0.drew.heap.size w0.drew w' := hL
      clear hL
      generalize tIx ⟨name, types⟩ (rth rs k).type = ix at hL' HO hnat
      go_wp2_with fail
      go_cut [6] (fun r wx => r = .int .i64 ix ∧ Below (w.heap.size + 1) X wx)
      case first =>
        go_region_held3 (fun w' => w'.cell? ⟨w.heap.size, 0, none⟩ = some (.string name) ∧ w'.cell? ⟨w.heap.size, 1, none⟩ = some (.slice ta types.length tc) ∧ w'.cell? ⟨b, off + k * 3, none⟩ = some (.string (rth rs k).type) ∧ w'.cell? ⟨b, off + k * 3 + 1, none⟩ = some (.int .i64 (rth rs k).id) ∧ w'.cell? ⟨b, off + k * 3 + 2, none⟩ = some (.slice ca (rth rs k).cells.length cc)) (go_keep)
          (first
            | (
              go_at_call 46
              refine hL'.mono ?_
              rintro e w1 ⟨rfl, hb1⟩
              have hT1 := hT.trans ((below_undrew hb1).mono (by omega))
              obtain ⟨p0', p1', hw1, hz1⟩ := TB w1 hT1
              obtain ⟨c0', c1', c2'⟩ := hcs w1 hw1))
        all_goals
          go_wp2_with fail
          go_meet
          case rel => exact ⟨rfl, hT1⟩
      case rest =>
      obtain ⟨rfl, hT2⟩ := hcut
      obtain ⟨w2, rfl⟩ : ∃ x, x = wc := ⟨wc, rfl⟩
      clear p0 p1 c0 c1 c2 hL' hw0 hz0 hT
      obtain ⟨p0, p1, hw2, hz2⟩ := TB w2 hT2
      obtain ⟨c0, c1, c2⟩ := hcs w2 hw2
      by_cases hix : ix < 0
      · have hix' : decide (ix < 0) = true := by simpa using hix
        have HQ : Hid (storeS ⟨name, types⟩ rs = false) := HF.out (by rw [HO.out, decide_eq_false (by omega : ¬ 0 ≤ ix)]; rfl)
        clear HF HN HO
        go_wp2_with fail
        go_quiet (fail)
        go_wp2_with fail
        go_ret
        exact ⟨ret_bool HQ.out.symm, below_drews hw2 _⟩
      obtain ⟨n, rfl, hn⟩ := hnat (by omega)
      have hn' : n < types.length := hn
      have hni : (n : Int) < (types.length : Int) := by omega
      have hn0 : decide ((n : Int) < 0) = false := by simp
      obtain ⟨tb, toff, fa, fc, rfl, hTR, hts⟩ := hK.at hB n hn'
      obtain ⟨t0, t1, t2⟩ := hts w2 hw2
      have hRow := l4Row_any (tth types n) (rth rs k) w2.drew B _ _ (hTR.under (hw2.drew.mono hB)) (hRo.under (hw2.drew.mono hB)) (by simp; omega)
      have HO2 : Hid (oneS ⟨name, types⟩ rs k = (rowB (tth types n) (rth rs k) && (decide (k = 0) || (!((n : Int) == 0) && !decide ((n : Int) < tIx ⟨name, types⟩ (rth rs (k - 1)).type) && !((tIx ⟨name, types⟩ (rth rs (k - 1)).type == (n : Int)) && decide ((rth rs k).id ≤ (rth rs (k - 1)).id)))))) := by show _ = _; rw [HO.out, decide_eq_true (by omega : (0 : Int) ≤ (n : Int))]; rfl
      generalize rowB (tth types n) (rth rs k) = rb at hRow HO2
      clear HO hnat hix hn
      go_wp2_with fail
      cases rb
      · have HQ : Hid (storeS ⟨name, types⟩ rs = false) := HF.out (by rw [HO2.out]; rfl)
        clear HF HN HO2
        refine wp_region_held_drew (S := fun w' => w'.cell? ⟨w.heap.size, 0, none⟩ = some (.string name) ∧ w'.cell? ⟨w.heap.size, 1, none⟩ = some (.slice (some ⟨tb, toff, none⟩) types.length tc) ∧ w'.cell? ⟨tb, toff + n * 3, none⟩ = some (.string (tth types n).name) ∧ w'.cell? ⟨tb, toff + n * 3 + 1, none⟩ = some (.string (tth types n).key) ∧ w'.cell? ⟨tb, toff + n * 3 + 2, none⟩ = some (.slice fa (tth types n).fields.length fc) ∧ w'.cell? ⟨b, off + k * 3, none⟩ = some (.string (rth rs k).type) ∧ w'.cell? ⟨b, off + k * 3 + 1, none⟩ = some (.int .i64 (rth rs k).id) ∧ w'.cell? ⟨b, off + k * 3 + 2, none⟩ = some (.slice ca (rth rs k).cells.length cc)) (by kernel_rfl) ⟨p0, p1, t0, t1, t2, c0, c1, c2⟩ (fun hHeld => ?_)
        refine wpAnyH_take (i := 0) (oi := { dst := some 45, op := Op.move (Operand.tmp 6), type := 3, pos := "l4_store.go:68", after := #[], guard := none }) (v := ?_) rfl (by kernel_rfl) (by kernel_rfl) (by kernel_rfl) (fun _ _ _ h => h) (Or.inl ⟨by rfl, ?_⟩) hHeld ?_
        rotate_left
        · intro w' hSw
          (try dsimp only at hSw)
          go_simp
          try with_reducible rfl
        try simp only [Act.put, List.setIfInBounds_toArray, List.set_cons_zero, List.set_cons_succ]
        refine wpAnyH_take (i := 1) (oi := { dst := some 46, op := Op.binOp BinOp.lss 3 (Operand.tmp 45) (Operand.const (Value.int IntKind.i64 0)) 3, type := 4, pos := "l4_store.go:68", after := #[{ on := 0, ground := Ground.data }], guard := none }) (v := ?_) rfl (by kernel_rfl) (by kernel_rfl) (by kernel_rfl) (fun _ _ _ h => h) (Or.inl ⟨by rfl, ?_⟩) hHeld ?_
        rotate_left
        · intro w' hSw
          (try dsimp only at hSw)
          go_simp
          try with_reducible rfl
        try simp only [Act.put, List.setIfInBounds_toArray, List.set_cons_zero, List.set_cons_succ]
        refine wpAnyH_take (i := 2) (oi := { dst := some 47, op := Op.move (Operand.tmp 46), type := 4, pos := "l4_store.go:68", after := #[{ on := 1, ground := Ground.data }], guard := none }) (v := ?_) rfl (by kernel_rfl) (by kernel_rfl) (by kernel_rfl) (fun _ _ _ h => h) (Or.inl ⟨by rfl, ?_⟩) hHeld ?_
        rotate_left
        · intro w' hSw
          (try dsimp only at hSw)
          go_simp
          try with_reducible rfl
        try simp only [Act.put, List.setIfInBounds_toArray, List.set_cons_zero, List.set_cons_succ]
        refine wpAnyH_take (i := 3) (oi := { dst := some 48, op := Op.fieldAddr 40 (Operand.tmp 2) 1, type := 0, pos := "l4_store.go:68", after := #[{ on := 2, ground := Ground.guard }], guard := some (2, false) }) (v := ?_) rfl (by kernel_rfl) (by kernel_rfl) (by kernel_rfl) (fun _ _ _ h => h) (Or.inl ⟨by rfl, ?_⟩) hHeld ?_
        rotate_left
        · intro w' hSw
          (try dsimp only at hSw)
          go_simp
          try with_reducible rfl
        try simp only [Act.put, List.setIfInBounds_toArray, List.set_cons_zero, List.set_cons_succ]
        refine wpAnyH_take (i := 4) (oi := { dst := some 49, op := Op.load 38 (Operand.tmp 48), type := 38, pos := "l4_store.go:68", after := #[{ on := 3, ground := Ground.data }, { on := 2, ground := Ground.guard }], guard := some (2, false) }) (v := ?_) rfl (by kernel_rfl) (by kernel_rfl) (by kernel_rfl) (fun _ _ _ h => h) (Or.inl ⟨by rfl, ?_⟩) hHeld ?_
        rotate_left
        · intro w' hSw
          (try dsimp only at hSw)
          go_simp
          try with_reducible rfl
        try simp only [Act.put, List.setIfInBounds_toArray, List.set_cons_zero, List.set_cons_succ]
        refine wpAnyH_take (i := 5) (oi := { dst := some 50, op := Op.move (Operand.tmp 6), type := 3, pos := "l4_store.go:68", after := #[{ on := 2, ground := Ground.guard }], guard := some (2, false) }) (v := ?_) rfl (by kernel_rfl) (by kernel_rfl) (by kernel_rfl) (fun _ _ _ h => h) (Or.inl ⟨by rfl, ?_⟩) hHeld ?_
        rotate_left
        · intro w' hSw
          (try dsimp only at hSw)
          go_simp
          try with_reducible rfl
        try simp only [Act.put, List.setIfInBounds_toArray, List.set_cons_zero, List.set_cons_succ]
        refine wpAnyH_take (i := 6) (oi := { dst := some 51, op := Op.indexAddr 38 (Operand.tmp 49) (Operand.tmp 50), type := 0, pos := "l4_store.go:68", after := #[{ on := 4, ground := Ground.data }, { on := 5, ground := Ground.data }, { on := 2, ground := Ground.guard }], guard := some (2, false) }) (v := ?_) rfl (by kernel_rfl) (by kernel_rfl) (by kernel_rfl) (fun _ _ _ h => h) (Or.inl ⟨by rfl, ?_⟩) hHeld ?_
        rotate_left
        · intro w' hSw
          (try dsimp only at hSw)
          go_simp
          try with_reducible rfl
        try simp only [Act.put, List.setIfInBounds_toArray, List.set_cons_zero, List.set_cons_succ]
        refine wpAnyH_take (i := 7) (oi := { dst := some 52, op := Op.load 101 (Operand.tmp 51), type := 101, pos := "l4_store.go:68", after := #[{ on := 6, ground := Ground.data }, { on := 2, ground := Ground.guard }], guard := some (2, false) }) (v := ?_) rfl (by kernel_rfl) (by kernel_rfl) (by kernel_rfl) (fun _ _ _ h => h) (Or.inl ⟨by rfl, ?_⟩) hHeld ?_
        rotate_left
        · intro w' hSw
          (try dsimp only at hSw)
          go_simp
          try with_reducible rfl
        try simp only [Act.put, List.setIfInBounds_toArray, List.set_cons_zero, List.set_cons_succ]
        refine wpAnyH_take (i := 8) (oi := { dst := some 53, op := Op.move (Operand.tmp 1), type := 35, pos := "l4_store.go:68", after := #[{ on := 2, ground := Ground.guard }], guard := some (2, false) }) (v := ?_) rfl (by kernel_rfl) (by kernel_rfl) (by kernel_rfl) (fun _ _ _ h => h) (Or.inl ⟨by rfl, ?_⟩) hHeld ?_
        rotate_left
        · intro w' hSw
          (try dsimp only at hSw)
          go_simp
          try with_reducible rfl
        try simp only [Act.put, List.setIfInBounds_toArray, List.set_cons_zero, List.set_cons_succ]
        refine wpAnyH_take (i := 9) (oi := { dst := some 54, op := Op.move (Operand.tmp 5), type := 3, pos := "l4_store.go:68", after := #[{ on := 2, ground := Ground.guard }], guard := some (2, false) }) (v := ?_) rfl (by kernel_rfl) (by kernel_rfl) (by kernel_rfl) (fun _ _ _ h => h) (Or.inl ⟨by rfl, ?_⟩) hHeld ?_
        rotate_left
        · intro w' hSw
          (try dsimp only at hSw)
          go_simp
          try with_reducible rfl
        try simp only [Act.put, List.setIfInBounds_toArray, List.set_cons_zero, List.set_cons_succ]
        refine wpAnyH_take (i := 10) (oi := { dst := some 55, op := Op.indexAddr 35 (Operand.tmp 53) (Operand.tmp 54), type := 0, pos := "l4_store.go:68", after := #[{ on := 8, ground := Ground.data }, { on := 9, ground := Ground.data }, { on := 2, ground := Ground.guard }], guard := some (2, false) }) (v := ?_) rfl (by kernel_rfl) (by kernel_rfl) (by kernel_rfl) (fun _ _ _ h => h) (Or.inl ⟨by rfl, ?_⟩) hHeld ?_
        rotate_left
        · intro w' hSw
          (try dsimp only at hSw)
          go_simp
          try with_reducible rfl
        try simp only [Act.put, List.setIfInBounds_toArray, List.set_cons_zero, List.set_cons_succ]
        refine wpAnyH_take (i := 11) (oi := { dst := some 56, op := Op.load 69 (Operand.tmp 55), type := 69, pos := "l4_store.go:68", after := #[{ on := 10, ground := Ground.data }, { on := 2, ground := Ground.guard }], guard := some (2, false) }) (v := ?_) rfl (by kernel_rfl) (by kernel_rfl) (by kernel_rfl) (fun _ _ _ h => h) (Or.inl ⟨by rfl, ?_⟩) hHeld ?_
        rotate_left
        · intro w' hSw
          (try dsimp only at hSw)
          go_simp
          try with_reducible rfl
        try simp only [Act.put, List.setIfInBounds_toArray, List.set_cons_zero, List.set_cons_succ]
        refine wpAnyH_ready (rs := [12]) (by kernel_rfl) (by simp) ?_
        refine AllReadyH.cons (o := { dst := some 57, op := Op.call { callee := Callee.value (Operand.func 47), args := #[Operand.tmp 52, Operand.tmp 56], argTypes := #[101, 69] }, type := 4, pos := "l4_store.go:68", after := #[{ on := 7, ground := Ground.data }, { on := 11, ground := Ground.data }, { on := 2, ground := Ground.chain }, { on := 2, ground := Ground.guard }], guard := some (2, false) }) rfl (fun K hK => ?_) AllReadyH.nil
        go_simp
        refine (hRow).mono ?_
        rintro e w3 ⟨rfl, hb3⟩
        have hb3' := below_undrew hb3
        have hT3 := hT2.trans (hb3'.mono (by omega))
        obtain ⟨p0', p1', hw3, hz3⟩ := TB w3 hT3
        obtain ⟨c0', c1', c2'⟩ := hcs w3 hw3
        obtain ⟨t0', t1', t2'⟩ := hts w3 hw3
        refine hK.out _ _ ⟨p0', p1', t0', t1', t2', c0', c1', c2'⟩ (fun hHeld => ?_)
        clear hK K
        try simp only [Act.put, List.setIfInBounds_toArray, List.set_cons_zero, List.set_cons_succ]
        refine wpAnyH_take (i := 13) (oi := { dst := some 58, op := Op.unOp UnOp.not 4 (Operand.tmp 57), type := 4, pos := "l4_store.go:68", after := #[{ on := 12, ground := Ground.data }, { on := 2, ground := Ground.guard }], guard := some (2, false) }) (v := ?_) rfl (by kernel_rfl) (by kernel_rfl) (by kernel_rfl) (fun _ _ _ h => h) (Or.inl ⟨by rfl, ?_⟩) hHeld ?_
        rotate_left
        · intro w' hSw
          (try dsimp only at hSw)
          go_simp
          try with_reducible rfl
        try simp only [Act.put, List.setIfInBounds_toArray, List.set_cons_zero, List.set_cons_succ]
        refine wpAnyH_take (i := 14) (oi := { dst := some 59, op := Op.pick (Operand.tmp 47) (Operand.const (Value.bool true)) (Operand.tmp 58), type := 4, pos := "l4_store.go:68", after := #[{ on := 2, ground := Ground.data }, { on := 13, ground := Ground.data }], guard := none }) (v := ?_) rfl (by kernel_rfl) (by kernel_rfl) (by kernel_rfl) (fun _ _ _ h => h) (Or.inl ⟨by rfl, ?_⟩) hHeld ?_
        rotate_left
        · intro w' hSw
          (try dsimp only at hSw)
          go_simp
          try with_reducible rfl
        try simp only [Act.put, List.setIfInBounds_toArray, List.set_cons_zero, List.set_cons_succ]
        refine wpAnyH_take (i := 15) (oi := { dst := some 60, op := Op.move (Operand.tmp 59), type := 4, pos := "l4_store.go:68", after := #[{ on := 14, ground := Ground.data }, { on := 12, ground := Ground.chain }], guard := none }) (v := ?_) rfl (by kernel_rfl) (by kernel_rfl) (by kernel_rfl) (fun _ _ _ h => h) (Or.inl ⟨by rfl, ?_⟩) hHeld ?_
        rotate_left
        · intro w' hSw
          (try dsimp only at hSw)
          go_simp
          try with_reducible rfl
        try simp only [Act.put, List.setIfInBounds_toArray, List.set_cons_zero, List.set_cons_succ]
        refine wpAnyH_take (i := 16) (oi := { dst := some 61, op := Op.move (Operand.tmp 5), type := 3, pos := "l4_store.go:68", after := #[{ on := 15, ground := Ground.guard }], guard := some (15, false) }) (v := undef) rfl (by kernel_rfl) (by kernel_rfl) (by kernel_rfl) (fun _ _ _ h => h) (Or.inr ⟨by rfl, rfl⟩) hHeld ?_
        try simp only [Act.put, List.setIfInBounds_toArray, List.set_cons_zero, List.set_cons_succ]
        refine wpAnyH_take (i := 17) (oi := { dst := some 62, op := Op.binOp BinOp.gtr 3 (Operand.tmp 61) (Operand.const (Value.int IntKind.i64 0)) 3, type := 4, pos := "l4_store.go:68", after := #[{ on := 16, ground := Ground.data }, { on := 15, ground := Ground.guard }], guard := some (15, false) }) (v := undef) rfl (by kernel_rfl) (by kernel_rfl) (by kernel_rfl) (fun _ _ _ h => h) (Or.inr ⟨by rfl, rfl⟩) hHeld ?_
        try simp only [Act.put, List.setIfInBounds_toArray, List.set_cons_zero, List.set_cons_succ]
        refine wpAnyH_take (i := 18) (oi := { dst := some 63, op := Op.move (Operand.tmp 62), type := 4, pos := "l4_store.go:68", after := #[{ on := 17, ground := Ground.data }, { on := 15, ground := Ground.chain }, { on := 15, ground := Ground.guard }], guard := some (15, false) }) (v := undef) rfl (by kernel_rfl) (by kernel_rfl) (by kernel_rfl) (fun _ _ _ h => h) (Or.inr ⟨by rfl, rfl⟩) hHeld ?_
        try simp only [Act.put, List.setIfInBounds_toArray, List.set_cons_zero, List.set_cons_succ]
        refine wpAnyH_take (i := 19) (oi := { dst := some 64, op := Op.move (Operand.tmp 6), type := 3, pos := "l4_store.go:68", after := #[{ on := 18, ground := Ground.guard }], guard := some (18, true) }) (v := undef) rfl (by kernel_rfl) (by kernel_rfl) (by kernel_rfl) (fun _ _ _ h => h) (Or.inr ⟨by rfl, rfl⟩) hHeld ?_
        try simp only [Act.put, List.setIfInBounds_toArray, List.set_cons_zero, List.set_cons_succ]
        refine wpAnyH_take (i := 20) (oi := { dst := some 65, op := Op.binOp BinOp.eql 3 (Operand.tmp 64) (Operand.const (Value.int IntKind.i64 0)) 3, type := 4, pos := "l4_store.go:68", after := #[{ on := 19, ground := Ground.data }, { on := 18, ground := Ground.guard }], guard := some (18, true) }) (v := undef) rfl (by kernel_rfl) (by kernel_rfl) (by kernel_rfl) (fun _ _ _ h => h) (Or.inr ⟨by rfl, rfl⟩) hHeld ?_
        try simp only [Act.put, List.setIfInBounds_toArray, List.set_cons_zero, List.set_cons_succ]
        refine wpAnyH_take (i := 21) (oi := { dst := some 66, op := Op.pick (Operand.tmp 63) (Operand.tmp 65) (Operand.const (Value.bool false)), type := 4, pos := "l4_store.go:68", after := #[{ on := 18, ground := Ground.data }, { on := 20, ground := Ground.data }, { on := 15, ground := Ground.guard }], guard := some (15, false) }) (v := undef) rfl (by kernel_rfl) (by kernel_rfl) (by kernel_rfl) (fun _ _ _ h => h) (Or.inr ⟨by rfl, rfl⟩) hHeld ?_
        try simp only [Act.put, List.setIfInBounds_toArray, List.set_cons_zero, List.set_cons_succ]
        refine wpAnyH_take (i := 22) (oi := { dst := some 67, op := Op.pick (Operand.tmp 60) (Operand.const (Value.bool true)) (Operand.tmp 66), type := 4, pos := "l4_store.go:68", after := #[{ on := 15, ground := Ground.data }, { on := 21, ground := Ground.data }], guard := none }) (v := ?_) rfl (by kernel_rfl) (by kernel_rfl) (by kernel_rfl) (fun _ _ _ h => h) (Or.inl ⟨by rfl, ?_⟩) hHeld ?_
        rotate_left
        · intro w' hSw
          (try dsimp only at hSw)
          go_simp
          try with_reducible rfl
        try simp only [Act.put, List.setIfInBounds_toArray, List.set_cons_zero, List.set_cons_succ]
        refine wpAnyH_done (by kernel_rfl) ?_ _
        go_wp2_with fail
        go_ret
        exact ⟨ret_bool HQ.out.symm, by first | exact hw3 | exact hw3.drew | exact below_drews hw3 _⟩
      by_cases hk0 : k = 0
      · have HQ : Hid (allTo (oneS ⟨name, types⟩ rs) (k + 1) = true) := HN.out (by rw [HO2.out, decide_eq_true hk0]; rfl)
        have d0 : decide ((0 : Int) < (k : Int)) = false := by simp; omega
        have d1 : decide (0 < k) = false := by simp; omega
        clear HF HN HO2 hk0
        refine wp_region_held_drew (S := fun w' => w'.cell? ⟨w.heap.size, 0, none⟩ = some (.string name) ∧ w'.cell? ⟨w.heap.size, 1, none⟩ = some (.slice (some ⟨tb, toff, none⟩) types.length tc) ∧ w'.cell? ⟨tb, toff + n * 3, none⟩ = some (.string (tth types n).name) ∧ w'.cell? ⟨tb, toff + n * 3 + 1, none⟩ = some (.string (tth types n).key) ∧ w'.cell? ⟨tb, toff + n * 3 + 2, none⟩ = some (.slice fa (tth types n).fields.length fc) ∧ w'.cell? ⟨b, off + k * 3, none⟩ = some (.string (rth rs k).type) ∧ w'.cell? ⟨b, off + k * 3 + 1, none⟩ = some (.int .i64 (rth rs k).id) ∧ w'.cell? ⟨b, off + k * 3 + 2, none⟩ = some (.slice ca (rth rs k).cells.length cc)) (by kernel_rfl) ⟨p0, p1, t0, t1, t2, c0, c1, c2⟩ (fun hHeld => ?_)
        refine wpAnyH_take (i := 0) (oi := { dst := some 45, op := Op.move (Operand.tmp 6), type := 3, pos := "l4_store.go:68", after := #[], guard := none }) (v := ?_) rfl (by kernel_rfl) (by kernel_rfl) (by kernel_rfl) (fun _ _ _ h => h) (Or.inl ⟨by rfl, ?_⟩) hHeld ?_
        rotate_left
        · intro w' hSw
          (try dsimp only at hSw)
          go_simp
          try with_reducible rfl
        try simp only [Act.put, List.setIfInBounds_toArray, List.set_cons_zero, List.set_cons_succ]
        refine wpAnyH_take (i := 1) (oi := { dst := some 46, op := Op.binOp BinOp.lss 3 (Operand.tmp 45) (Operand.const (Value.int IntKind.i64 0)) 3, type := 4, pos := "l4_store.go:68", after := #[{ on := 0, ground := Ground.data }], guard := none }) (v := ?_) rfl (by kernel_rfl) (by kernel_rfl) (by kernel_rfl) (fun _ _ _ h => h) (Or.inl ⟨by rfl, ?_⟩) hHeld ?_
        rotate_left
        · intro w' hSw
          (try dsimp only at hSw)
          go_simp
          try with_reducible rfl
        try simp only [Act.put, List.setIfInBounds_toArray, List.set_cons_zero, List.set_cons_succ]
        refine wpAnyH_take (i := 2) (oi := { dst := some 47, op := Op.move (Operand.tmp 46), type := 4, pos := "l4_store.go:68", after := #[{ on := 1, ground := Ground.data }], guard := none }) (v := ?_) rfl (by kernel_rfl) (by kernel_rfl) (by kernel_rfl) (fun _ _ _ h => h) (Or.inl ⟨by rfl, ?_⟩) hHeld ?_
        rotate_left
        · intro w' hSw
          (try dsimp only at hSw)
          go_simp
          try with_reducible rfl
        try simp only [Act.put, List.setIfInBounds_toArray, List.set_cons_zero, List.set_cons_succ]
        refine wpAnyH_take (i := 3) (oi := { dst := some 48, op := Op.fieldAddr 40 (Operand.tmp 2) 1, type := 0, pos := "l4_store.go:68", after := #[{ on := 2, ground := Ground.guard }], guard := some (2, false) }) (v := ?_) rfl (by kernel_rfl) (by kernel_rfl) (by kernel_rfl) (fun _ _ _ h => h) (Or.inl ⟨by rfl, ?_⟩) hHeld ?_
        rotate_left
        · intro w' hSw
          (try dsimp only at hSw)
          go_simp
          try with_reducible rfl
        try simp only [Act.put, List.setIfInBounds_toArray, List.set_cons_zero, List.set_cons_succ]
        refine wpAnyH_take (i := 4) (oi := { dst := some 49, op := Op.load 38 (Operand.tmp 48), type := 38, pos := "l4_store.go:68", after := #[{ on := 3, ground := Ground.data }, { on := 2, ground := Ground.guard }], guard := some (2, false) }) (v := ?_) rfl (by kernel_rfl) (by kernel_rfl) (by kernel_rfl) (fun _ _ _ h => h) (Or.inl ⟨by rfl, ?_⟩) hHeld ?_
        rotate_left
        · intro w' hSw
          (try dsimp only at hSw)
          go_simp
          try with_reducible rfl
        try simp only [Act.put, List.setIfInBounds_toArray, List.set_cons_zero, List.set_cons_succ]
        refine wpAnyH_take (i := 5) (oi := { dst := some 50, op := Op.move (Operand.tmp 6), type := 3, pos := "l4_store.go:68", after := #[{ on := 2, ground := Ground.guard }], guard := some (2, false) }) (v := ?_) rfl (by kernel_rfl) (by kernel_rfl) (by kernel_rfl) (fun _ _ _ h => h) (Or.inl ⟨by rfl, ?_⟩) hHeld ?_
        rotate_left
        · intro w' hSw
          (try dsimp only at hSw)
          go_simp
          try with_reducible rfl
        try simp only [Act.put, List.setIfInBounds_toArray, List.set_cons_zero, List.set_cons_succ]
        refine wpAnyH_take (i := 6) (oi := { dst := some 51, op := Op.indexAddr 38 (Operand.tmp 49) (Operand.tmp 50), type := 0, pos := "l4_store.go:68", after := #[{ on := 4, ground := Ground.data }, { on := 5, ground := Ground.data }, { on := 2, ground := Ground.guard }], guard := some (2, false) }) (v := ?_) rfl (by kernel_rfl) (by kernel_rfl) (by kernel_rfl) (fun _ _ _ h => h) (Or.inl ⟨by rfl, ?_⟩) hHeld ?_
        rotate_left
        · intro w' hSw
          (try dsimp only at hSw)
          go_simp
          try with_reducible rfl
        try simp only [Act.put, List.setIfInBounds_toArray, List.set_cons_zero, List.set_cons_succ]
        refine wpAnyH_take (i := 7) (oi := { dst := some 52, op := Op.load 101 (Operand.tmp 51), type := 101, pos := "l4_store.go:68", after := #[{ on := 6, ground := Ground.data }, { on := 2, ground := Ground.guard }], guard := some (2, false) }) (v := ?_) rfl (by kernel_rfl) (by kernel_rfl) (by kernel_rfl) (fun _ _ _ h => h) (Or.inl ⟨by rfl, ?_⟩) hHeld ?_
        rotate_left
        · intro w' hSw
          (try dsimp only at hSw)
          go_simp
          try with_reducible rfl
        try simp only [Act.put, List.setIfInBounds_toArray, List.set_cons_zero, List.set_cons_succ]
        refine wpAnyH_take (i := 8) (oi := { dst := some 53, op := Op.move (Operand.tmp 1), type := 35, pos := "l4_store.go:68", after := #[{ on := 2, ground := Ground.guard }], guard := some (2, false) }) (v := ?_) rfl (by kernel_rfl) (by kernel_rfl) (by kernel_rfl) (fun _ _ _ h => h) (Or.inl ⟨by rfl, ?_⟩) hHeld ?_
        rotate_left
        · intro w' hSw
          (try dsimp only at hSw)
          go_simp
          try with_reducible rfl
        try simp only [Act.put, List.setIfInBounds_toArray, List.set_cons_zero, List.set_cons_succ]
        refine wpAnyH_take (i := 9) (oi := { dst := some 54, op := Op.move (Operand.tmp 5), type := 3, pos := "l4_store.go:68", after := #[{ on := 2, ground := Ground.guard }], guard := some (2, false) }) (v := ?_) rfl (by kernel_rfl) (by kernel_rfl) (by kernel_rfl) (fun _ _ _ h => h) (Or.inl ⟨by rfl, ?_⟩) hHeld ?_
        rotate_left
        · intro w' hSw
          (try dsimp only at hSw)
          go_simp
          try with_reducible rfl
        try simp only [Act.put, List.setIfInBounds_toArray, List.set_cons_zero, List.set_cons_succ]
        refine wpAnyH_take (i := 10) (oi := { dst := some 55, op := Op.indexAddr 35 (Operand.tmp 53) (Operand.tmp 54), type := 0, pos := "l4_store.go:68", after := #[{ on := 8, ground := Ground.data }, { on := 9, ground := Ground.data }, { on := 2, ground := Ground.guard }], guard := some (2, false) }) (v := ?_) rfl (by kernel_rfl) (by kernel_rfl) (by kernel_rfl) (fun _ _ _ h => h) (Or.inl ⟨by rfl, ?_⟩) hHeld ?_
        rotate_left
        · intro w' hSw
          (try dsimp only at hSw)
          go_simp
          try with_reducible rfl
        try simp only [Act.put, List.setIfInBounds_toArray, List.set_cons_zero, List.set_cons_succ]
        refine wpAnyH_take (i := 11) (oi := { dst := some 56, op := Op.load 69 (Operand.tmp 55), type := 69, pos := "l4_store.go:68", after := #[{ on := 10, ground := Ground.data }, { on := 2, ground := Ground.guard }], guard := some (2, false) }) (v := ?_) rfl (by kernel_rfl) (by kernel_rfl) (by kernel_rfl) (fun _ _ _ h => h) (Or.inl ⟨by rfl, ?_⟩) hHeld ?_
        rotate_left
        · intro w' hSw
          (try dsimp only at hSw)
          go_simp
          try with_reducible rfl
        try simp only [Act.put, List.setIfInBounds_toArray, List.set_cons_zero, List.set_cons_succ]
        refine wpAnyH_ready (rs := [12]) (by kernel_rfl) (by simp) ?_
        refine AllReadyH.cons (o := { dst := some 57, op := Op.call { callee := Callee.value (Operand.func 47), args := #[Operand.tmp 52, Operand.tmp 56], argTypes := #[101, 69] }, type := 4, pos := "l4_store.go:68", after := #[{ on := 7, ground := Ground.data }, { on := 11, ground := Ground.data }, { on := 2, ground := Ground.chain }, { on := 2, ground := Ground.guard }], guard := some (2, false) }) rfl (fun K hK => ?_) AllReadyH.nil
        go_simp
        refine (hRow).mono ?_
        rintro e w3 ⟨rfl, hb3⟩
        have hb3' := below_undrew hb3
        have hT3 := hT2.trans (hb3'.mono (by omega))
        obtain ⟨p0', p1', hw3, hz3⟩ := TB w3 hT3
        obtain ⟨c0', c1', c2'⟩ := hcs w3 hw3
        obtain ⟨t0', t1', t2'⟩ := hts w3 hw3
        refine hK.out _ _ ⟨p0', p1', t0', t1', t2', c0', c1', c2'⟩ (fun hHeld => ?_)
        clear hK K
        try simp only [Act.put, List.setIfInBounds_toArray, List.set_cons_zero, List.set_cons_succ]
        refine wpAnyH_take (i := 13) (oi := { dst := some 58, op := Op.unOp UnOp.not 4 (Operand.tmp 57), type := 4, pos := "l4_store.go:68", after := #[{ on := 12, ground := Ground.data }, { on := 2, ground := Ground.guard }], guard := some (2, false) }) (v := ?_) rfl (by kernel_rfl) (by kernel_rfl) (by kernel_rfl) (fun _ _ _ h => h) (Or.inl ⟨by rfl, ?_⟩) hHeld ?_
        rotate_left
        · intro w' hSw
          (try dsimp only at hSw)
          go_simp
          try with_reducible rfl
        try simp only [Act.put, List.setIfInBounds_toArray, List.set_cons_zero, List.set_cons_succ]
        refine wpAnyH_take (i := 14) (oi := { dst := some 59, op := Op.pick (Operand.tmp 47) (Operand.const (Value.bool true)) (Operand.tmp 58), type := 4, pos := "l4_store.go:68", after := #[{ on := 2, ground := Ground.data }, { on := 13, ground := Ground.data }], guard := none }) (v := ?_) rfl (by kernel_rfl) (by kernel_rfl) (by kernel_rfl) (fun _ _ _ h => h) (Or.inl ⟨by rfl, ?_⟩) hHeld ?_
        rotate_left
        · intro w' hSw
          (try dsimp only at hSw)
          go_simp
          try with_reducible rfl
        try simp only [Act.put, List.setIfInBounds_toArray, List.set_cons_zero, List.set_cons_succ]
        refine wpAnyH_take (i := 15) (oi := { dst := some 60, op := Op.move (Operand.tmp 59), type := 4, pos := "l4_store.go:68", after := #[{ on := 14, ground := Ground.data }, { on := 12, ground := Ground.chain }], guard := none }) (v := ?_) rfl (by kernel_rfl) (by kernel_rfl) (by kernel_rfl) (fun _ _ _ h => h) (Or.inl ⟨by rfl, ?_⟩) hHeld ?_
        rotate_left
        · intro w' hSw
          (try dsimp only at hSw)
          go_simp
          try with_reducible rfl
        try simp only [Act.put, List.setIfInBounds_toArray, List.set_cons_zero, List.set_cons_succ]
        refine wpAnyH_take (i := 16) (oi := { dst := some 61, op := Op.move (Operand.tmp 5), type := 3, pos := "l4_store.go:68", after := #[{ on := 15, ground := Ground.guard }], guard := some (15, false) }) (v := ?_) rfl (by kernel_rfl) (by kernel_rfl) (by kernel_rfl) (fun _ _ _ h => h) (Or.inl ⟨by rfl, ?_⟩) hHeld ?_
        rotate_left
        · intro w' hSw
          (try dsimp only at hSw)
          go_simp
          try with_reducible rfl
        try simp only [Act.put, List.setIfInBounds_toArray, List.set_cons_zero, List.set_cons_succ]
        refine wpAnyH_take (i := 17) (oi := { dst := some 62, op := Op.binOp BinOp.gtr 3 (Operand.tmp 61) (Operand.const (Value.int IntKind.i64 0)) 3, type := 4, pos := "l4_store.go:68", after := #[{ on := 16, ground := Ground.data }, { on := 15, ground := Ground.guard }], guard := some (15, false) }) (v := ?_) rfl (by kernel_rfl) (by kernel_rfl) (by kernel_rfl) (fun _ _ _ h => h) (Or.inl ⟨by rfl, ?_⟩) hHeld ?_
        rotate_left
        · intro w' hSw
          (try dsimp only at hSw)
          go_simp
          try with_reducible rfl
        try simp only [Act.put, List.setIfInBounds_toArray, List.set_cons_zero, List.set_cons_succ]
        refine wpAnyH_take (i := 18) (oi := { dst := some 63, op := Op.move (Operand.tmp 62), type := 4, pos := "l4_store.go:68", after := #[{ on := 17, ground := Ground.data }, { on := 15, ground := Ground.chain }, { on := 15, ground := Ground.guard }], guard := some (15, false) }) (v := ?_) rfl (by kernel_rfl) (by kernel_rfl) (by kernel_rfl) (fun _ _ _ h => h) (Or.inl ⟨by rfl, ?_⟩) hHeld ?_
        rotate_left
        · intro w' hSw
          (try dsimp only at hSw)
          go_simp
          try with_reducible rfl
        try simp only [Act.put, List.setIfInBounds_toArray, List.set_cons_zero, List.set_cons_succ]
        refine wpAnyH_take (i := 19) (oi := { dst := some 64, op := Op.move (Operand.tmp 6), type := 3, pos := "l4_store.go:68", after := #[{ on := 18, ground := Ground.guard }], guard := some (18, true) }) (v := undef) rfl (by kernel_rfl) (by kernel_rfl) (by kernel_rfl) (fun _ _ _ h => h) (Or.inr ⟨by rfl, rfl⟩) hHeld ?_
        try simp only [Act.put, List.setIfInBounds_toArray, List.set_cons_zero, List.set_cons_succ]
        refine wpAnyH_take (i := 20) (oi := { dst := some 65, op := Op.binOp BinOp.eql 3 (Operand.tmp 64) (Operand.const (Value.int IntKind.i64 0)) 3, type := 4, pos := "l4_store.go:68", after := #[{ on := 19, ground := Ground.data }, { on := 18, ground := Ground.guard }], guard := some (18, true) }) (v := undef) rfl (by kernel_rfl) (by kernel_rfl) (by kernel_rfl) (fun _ _ _ h => h) (Or.inr ⟨by rfl, rfl⟩) hHeld ?_
        try simp only [Act.put, List.setIfInBounds_toArray, List.set_cons_zero, List.set_cons_succ]
        refine wpAnyH_take (i := 21) (oi := { dst := some 66, op := Op.pick (Operand.tmp 63) (Operand.tmp 65) (Operand.const (Value.bool false)), type := 4, pos := "l4_store.go:68", after := #[{ on := 18, ground := Ground.data }, { on := 20, ground := Ground.data }, { on := 15, ground := Ground.guard }], guard := some (15, false) }) (v := ?_) rfl (by kernel_rfl) (by kernel_rfl) (by kernel_rfl) (fun _ _ _ h => h) (Or.inl ⟨by rfl, ?_⟩) hHeld ?_
        rotate_left
        · intro w' hSw
          (try dsimp only at hSw)
          go_simp
          try with_reducible rfl
        try simp only [Act.put, List.setIfInBounds_toArray, List.set_cons_zero, List.set_cons_succ]
        refine wpAnyH_take (i := 22) (oi := { dst := some 67, op := Op.pick (Operand.tmp 60) (Operand.const (Value.bool true)) (Operand.tmp 66), type := 4, pos := "l4_store.go:68", after := #[{ on := 15, ground := Ground.data }, { on := 21, ground := Ground.data }], guard := none }) (v := ?_) rfl (by kernel_rfl) (by kernel_rfl) (by kernel_rfl) (fun _ _ _ h => h) (Or.inl ⟨by rfl, ?_⟩) hHeld ?_
        rotate_left
        · intro w' hSw
          (try dsimp only at hSw)
          go_simp
          try with_reducible rfl
        try simp only [Act.put, List.setIfInBounds_toArray, List.set_cons_zero, List.set_cons_succ]
        refine wpAnyH_done (by kernel_rfl) ?_ _
        go_wp2_with fail
        go_roundw
        case rel => exact ⟨k + 1, by omega, by go_num, by first | exact hT3 | exact hT3.drew | exact below_drews hT3 _, HQ.out⟩
        case measure => simp [intOf]; omega
      have d0 : decide ((0 : Int) < (k : Int)) = true := by simp; omega
      have d1 : decide (0 < k) = true := by simp; omega
      have HO3 : Hid (oneS ⟨name, types⟩ rs k = (!((n : Int) == 0) && !decide ((n : Int) < tIx ⟨name, types⟩ (rth rs (k - 1)).type) && !((tIx ⟨name, types⟩ (rth rs (k - 1)).type == (n : Int)) && decide ((rth rs k).id ≤ (rth rs (k - 1)).id)))) := by show _ = _; rw [HO2.out, decide_eq_false hk0]; rfl
      clear HO2
      go_cut [67] (fun r wx => r = .bool ((n : Int) == 0) ∧ Below (w.heap.size + 1) X wx)
      case first =>
        go_region_held3 (fun w' => w'.cell? ⟨w.heap.size, 0, none⟩ = some (.string name) ∧ w'.cell? ⟨w.heap.size, 1, none⟩ = some (.slice (some ⟨tb, toff, none⟩) types.length tc) ∧ w'.cell? ⟨tb, toff + n * 3, none⟩ = some (.string (tth types n).name) ∧ w'.cell? ⟨tb, toff + n * 3 + 1, none⟩ = some (.string (tth types n).key) ∧ w'.cell? ⟨tb, toff + n * 3 + 2, none⟩ = some (.slice fa (tth types n).fields.length fc) ∧ w'.cell? ⟨b, off + k * 3, none⟩ = some (.string (rth rs k).type) ∧ w'.cell? ⟨b, off + k * 3 + 1, none⟩ = some (.int .i64 (rth rs k).id) ∧ w'.cell? ⟨b, off + k * 3 + 2, none⟩ = some (.slice ca (rth rs k).cells.length cc)) (go_keep)
          (first
            | (
              go_at_call 47
              refine hRow.mono ?_
              rintro e w3 ⟨rfl, hb3⟩
              have hb3' := below_undrew hb3
              have hT3 := hT2.trans (hb3'.mono (by omega))
              obtain ⟨p0', p1', hw3, hz3⟩ := TB w3 hT3
              obtain ⟨c0', c1', c2'⟩ := hcs w3 hw3
              obtain ⟨t0', t1', t2'⟩ := hts w3 hw3))
        all_goals
          go_wp2_with fail
          go_meet
          case rel => exact ⟨rfl, hT3⟩
      case rest =>
      obtain ⟨rfl, hT3⟩ := hcut
      obtain ⟨w3, rfl⟩ : ∃ x, x = wc := ⟨wc, rfl⟩
      clear p0 p1 c0 c1 c2 t0 t1 t2 hRow hw2 hz2 hT2 hTR hts
      obtain ⟨p0, p1, hw3, hz3⟩ := TB w3 hT3
      cases hn00 : ((n : Int) == 0)
      case true =>
        have HQ : Hid (storeS ⟨name, types⟩ rs = false) := HF.out (by rw [HO3.out, hn00]; rfl)
        clear HF HN HO3
        go_wp2_with fail
        go_ret
        exact ⟨ret_bool HQ.out.symm, hw3⟩
      obtain ⟨j, hj⟩ : ∃ j, j = k - 1 := ⟨_, rfl⟩
      rw [← hj] at HO3
      have hjl : j < rs.length := by omega
      have hji : (j : Int) < (rs.length : Int) := by omega
      have hwr : IntKind.i64.wrap ((k : Int) - 1) = (j : Int) := by rw [IntWalk.i64_in _ (by omega)]; omega
      obtain ⟨b3, off3, ca3, cc3, e3, -, hcj⟩ := hRs.at hB j hjl
      simp only [Option.some.injEq, Addr.mk.injEq, and_true] at e3
      obtain ⟨rfl, rfl⟩ := e3
      obtain ⟨y0, y1, y2⟩ := hcj w3 hw3
      have hkj : (k : Int) - 1 = (j : Int) := by omega
      have hwj : IntKind.i64.wrap (j : Int) = (j : Int) := IntWalk.i64_in _ (by omega)
      have hj0 : (0 : Int) ≤ (j : Int) := by omega
      clear hj hk0
      have hL2 : Calls Tryz.prog 46 #[.agg #[.string name, .slice (some ⟨tb, toff, none⟩) types.length tc], .string (rth rs j).type] w3.drew fun e w' => e = .returned (.int .i64 (tIx ⟨name, types⟩ (rth rs j).type)) ∧ Below w3.drew.heap.size w3.drew w' := l2Type_any ⟨name, types⟩ w3.drew B _ (rth rs j).type (hP'.under (hw3.drew.mono hB)) (by simp; omega)
      generalize tIx ⟨name, types⟩ (rth rs j).type = bx at hL2 HO3
      go_wp2_with fail
      go_cut [7] (fun r wx => r = .int .i64 bx ∧ Below (w.heap.size + 1) X wx)
      case first =>
        go_region_held3 (fun w' => w'.cell? ⟨w.heap.size, 0, none⟩ = some (.string name) ∧ w'.cell? ⟨w.heap.size, 1, none⟩ = some (.slice (some ⟨tb, toff, none⟩) types.length tc) ∧ w'.cell? ⟨b, off + j * 3, none⟩ = some (.string (rth rs j).type)) (go_keep)
          (first
            | (
              go_at_call 46
              refine hL2.mono ?_
              rintro e w4 ⟨rfl, hb4⟩
              have hT4 := hT3.trans ((below_undrew hb4).mono (by omega))
              obtain ⟨p0', p1', hw4, hz4⟩ := TB w4 hT4
              obtain ⟨y0', y1', y2'⟩ := hcj w4 hw4))
        all_goals
          go_wp2_with fail
          go_meet
          case rel => exact ⟨rfl, hT4⟩
      case rest =>
      obtain ⟨rfl, hT4⟩ := hcut
      obtain ⟨w4, rfl⟩ : ∃ x, x = wc := ⟨wc, rfl⟩
      clear p0 p1 y0 y1 y2 hL2 hw3 hz3 hT3
      obtain ⟨p0, p1, hw4, hz4⟩ := TB w4 hT4
      obtain ⟨y0, y1, y2⟩ := hcj w4 hw4
      obtain ⟨c0, c1, c2⟩ := hcs w4 hw4
      rw [hn00] at HO3
      by_cases hbn : (n : Int) < bx
      · have hbn' : decide ((n : Int) < bx) = true := by simpa using hbn
        have HQ : Hid (storeS ⟨name, types⟩ rs = false) := HF.out (by rw [HO3.out, hbn']; rfl)
        clear HF HN HO3
        go_wp2_with fail
        go_quiet (fail)
        go_wp2_with fail
        go_ret
        exact ⟨ret_bool HQ.out.symm, below_drews hw4 _⟩
      have hbn' : decide ((n : Int) < bx) = false := by simpa using hbn
      rw [hbn'] at HO3
      cases hbe : (bx == (n : Int))
      · have HQ : Hid (allTo (oneS ⟨name, types⟩ rs) (k + 1) = true) := HN.out (by rw [HO3.out, hbe]; rfl)
        clear HF HN HO3
        go_wp2_with fail
        go_quiet (fail)
        go_wp2_with fail
        go_roundw
        case rel => exact ⟨k + 1, by omega, by go_num, below_drews hT4 _, HQ.out⟩
        case measure => simp [intOf]; omega
      rw [hbe] at HO3
      by_cases hle : (rth rs k).id ≤ (rth rs j).id
      · have hle' : decide ((rth rs k).id ≤ (rth rs j).id) = true := by simpa using hle
        have HQ : Hid (storeS ⟨name, types⟩ rs = false) := HF.out (by rw [HO3.out, hle']; rfl)
        clear HF HN HO3
        go_wp2_with fail
        go_quiet (fail)
        go_wp2_with fail
        go_ret
        exact ⟨ret_bool HQ.out.symm, below_drews hw4 _⟩
      · have hle' : decide ((rth rs k).id ≤ (rth rs j).id) = false := by simpa using hle
        have HQ : Hid (allTo (oneS ⟨name, types⟩ rs) (k + 1) = true) := HN.out (by rw [HO3.out, hle']; rfl)
        clear HF HN HO3
        go_wp2_with fail
        go_quiet (fail)
        go_wp2_with fail
        go_roundw
        case rel => exact ⟨k + 1, by omega, by go_num, below_drews hT4 _, HQ.out⟩
        case measure => simp [intOf]; omega
    · go_wp2_with fail
      go_ret
      have e : k = rs.length := by omega
      exact ⟨ret_bool (by rw [HSR.out, ← e, HP.out]), hw0⟩
end Go.Proofs.YtmemijccbmnaaaaGreat
