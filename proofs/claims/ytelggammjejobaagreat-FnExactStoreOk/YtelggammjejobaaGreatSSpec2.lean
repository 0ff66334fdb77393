/-
  A row of a type, by the model.
-/
import Derived.Test.YtelggammjejobaaGreatSSpec1
import Derived.Test.YtelggammjejobaaGreatSRow
namespace Go.Proofs.YtelggammjejobaaGreat
set_option linter.unusedSimpArgs false
set_option linter.unusedVariables false
open Go.RowKit

set_option maxRecDepth 20000 in
set_option maxHeartbeats 6400000 in
theorem l4Row_any (t : T) (r : Ro) (w : World) (B : Nat) (v u : Value) (hT : TRep w (· < B) t v) (hR : RoRep w (· < B) r u) (hB : B ≤ w.heap.size) :
    Calls Tryz.prog 17 #[v, u] w fun e w' => e = .returned (.bool (rowB t r)) ∧ Below w.heap.size w w' := by
  obtain ⟨type, id, cells⟩ := r
  obtain ⟨ca, cc, rfl, hC, hcc, -⟩ := hR
  obtain ⟨name, key, fields⟩ := t
  obtain ⟨fa, fc, rfl, hK, -⟩ := hT
  simp only at hC hcc hK
  have h96 := hC.1
  have h64 := hK.1
  have HRB : Hid (rowB ⟨name, key, fields⟩ ⟨type, id, cells⟩ = (decide (0 ≤ id) && decide (id ≤ 999999) && decide (cells.length = (KF fields fields.length).length) && cellsTo ⟨name, key, fields⟩ ⟨type, id, cells⟩ (KF fields fields.length) (KF fields fields.length).length)) := rfl
  have RS := row_short ⟨name, key, fields⟩ ⟨type, id, cells⟩
  have RBD := row_bad ⟨name, key, fields⟩ ⟨type, id, cells⟩
  have CG := cells_grow ⟨name, key, fields⟩ ⟨type, id, cells⟩
  simp only at RS RBD CG
  obtain ⟨X, hXe⟩ : ∃ X, X = ((w.alloc (.cells #[.string name, .string key, .slice fa fields.length fc] 54)).alloc (.cells #[.string type, .int .i64 id, .slice ca cells.length cc] 49)) := ⟨_, rfl⟩
  have TB : ∀ W, Below (w.heap.size + 1 + 1) X W → (W.cell? ⟨w.heap.size, 1, none⟩ = some (.string key) ∧ W.cell? ⟨w.heap.size, 2, none⟩ = some (.slice fa fields.length fc)) ∧ (W.cell? ⟨w.heap.size + 1, 1, none⟩ = some (.int .i64 id) ∧ W.cell? ⟨w.heap.size + 1, 2, none⟩ = some (.slice ca cells.length cc)) ∧ Below w.heap.size w W ∧ w.heap.size + 1 < W.heap.size := fun W h => by
    obtain ⟨h1, h2, h3, h4⟩ := boxes2 (by rw [← hXe]; exact h)
    exact ⟨⟨h1 1 (by simp), h1 2 (by simp)⟩, ⟨h2 1 (by simp), h2 2 (by simp)⟩, h3, h4⟩
  have hT0 : Below (w.heap.size + 1 + 1) X ((w.alloc (.cells #[.string name, .string key, .slice fa fields.length fc] 54)).alloc (.cells #[.string type, .int .i64 id, .slice ca cells.length cc] 49)) := by rw [hXe]; exact Below.refl _ _
  clear hXe
  go_enter Tryz.func17, Tryz.ntmps17
  go_wp2_with fail
  go_loopw [5, 6] (fun kk ii wr => ∃ i : Nat, i ≤ fields.length ∧ kk = .int .i64 ((KF fields i).length : Int) ∧ ii = .int .i64 i ∧ Below (w.heap.size + 1 + 1) X wr ∧ cellsTo ⟨name, key, fields⟩ ⟨type, id, cells⟩ (KF fields fields.length) (KF fields i).length = true) (fun _ ii _ => fields.length - (intOf ii).toNat)
  case atStart => exact ⟨0, Nat.zero_le _, rfl, rfl, hT0, rfl⟩
  case round =>
    clear hT0
    obtain ⟨i, hi, rfl, rfl, hT, hp⟩ := hrel
    obtain ⟨w0, rfl⟩ : ∃ x, x = wr := ⟨wr, rfl⟩
    have HP : Hid (cellsTo ⟨name, key, fields⟩ ⟨type, id, cells⟩ (KF fields fields.length) (KF fields i).length = true) := hp
    clear hp
    have hkl := KF_len fields i
    obtain ⟨⟨p1, p2⟩, ⟨q1, q2⟩, hw0, hz0⟩ := TB w0 hT
    by_cases hlt : i < fields.length
    · have hii : (i : Int) < (fields.length : Int) := by omega
      obtain ⟨b, off, na, nc, rfl, hFR, hcs⟩ := hK.at hB i hlt
      obtain ⟨f0, f1, f2, f3, f4, f5, f6, f7⟩ := hcs w0 hw0
      clear hcs
      cases hf : (fth fields i).far
      case true =>
        rw [hf] at f4
        have HN : Hid (KF fields (i + 1) = KF fields i) := by show _ = _; rw [KF, if_pos hf]
        go_wp2_with fail
        go_roundw
        case rel => exact ⟨i + 1, by omega, by rw [HN.out], by go_num, hT.alloc (by omega) _, by rw [HN.out]; exact HP.out⟩
        case measure => simp [intOf]; omega
      rw [hf] at f4 hFR
      have HN : Hid ((KF fields (i + 1)).length = (KF fields i).length + 1) := by show _ = _; rw [KF, if_neg (by simp [hf])]; simp
      have HRS : Hid (cells.length ≤ (KF fields i).length → rowB ⟨name, key, fields⟩ ⟨type, id, cells⟩ = false) := RS i hlt hf
      have HRBD : Hid (cellB ⟨name, key, fields⟩ id (fth fields i) (cth cells (KF fields i).length) = false → rowB ⟨name, key, fields⟩ ⟨type, id, cells⟩ = false) := RBD i hlt hf
      have HCG : Hid (cellB ⟨name, key, fields⟩ id (fth fields i) (cth cells (KF fields i).length) = true → cellsTo ⟨name, key, fields⟩ ⟨type, id, cells⟩ (KF fields fields.length) (KF fields (i + 1)).length = true) := CG i hlt hf HP.out
      have HKE : Hid (∃ k, k = (KF fields i).length) := ⟨_, rfl⟩
      generalize hkk : (KF fields i).length = k at hkl HN HRS HRBD HCG
      go_wp2_with fail
      obtain ⟨W1, hW1⟩ : ∃ x, x = (w0.alloc (.cells #[.string (fth fields i).name, .string (fth fields i).of, .bool (fth fields i).list, .bool (fth fields i).must, .bool false, .bool (fth fields i).hidden, .bool (fth fields i).shared, .slice na (fth fields i).needs.length nc] 73)) := ⟨_, rfl⟩
      have bF : Below w0.heap.size w0 W1 := by rw [hW1]; exact below_box _ _
      have zW1 : w0.heap.size < W1.heap.size := by rw [hW1]; simp
      have KFB : W1.heap[w0.heap.size]? = some (.cells #[.string (fth fields i).name, .string (fth fields i).of, .bool (fth fields i).list, .bool (fth fields i).must, .bool false, .bool (fth fields i).hidden, .bool (fth fields i).shared, .slice na (fth fields i).needs.length nc] 73 (0, 0)) := by rw [hW1]; exact heap_alloc_new _ _
      rw [← hW1]
      clear hW1 f0 f1 f2 f3 f4 f5 f6 f7 p1 p2 q1 q2
      have hT1 := hT.trans (bF.mono (by omega))
      obtain ⟨⟨p1', p2'⟩, ⟨q1', q2'⟩, hw1, hz1⟩ := TB W1 hT1
      by_cases hkc : k < cells.length
      case neg =>
        have hk1 : (cells.length : Int) ≤ (k : Int) := by omega
        have hk2 : decide ((cells.length : Int) ≤ (k : Int)) = true := by simp; omega
        have HQ : Hid (rowB ⟨name, key, fields⟩ ⟨type, id, cells⟩ = false) := HRS.out (by omega)
        clear hkk HRS HRBD HCG HN
        go_quiet (fail)
        go_wp2_with fail
        go_ret
        exact ⟨ret_bool HQ.out.symm, below_drews hw1 _⟩
      have hkci : (k : Int) < (cells.length : Int) := by omega
      have hkci2 : decide ((cells.length : Int) ≤ (k : Int)) = false := by simp; omega
      have hkci3 : decide (cells.length ≤ k) = false := by simp; omega
      obtain ⟨b', off', na2, ka2, nc2, kc2, rfl, hV, hds⟩ := hC.at hB k hkc
      have AF : ∀ W, Below W1.heap.size W1 W → (W.cell? ⟨w0.heap.size, 0, none⟩ = some (.string (fth fields i).name) ∧ W.cell? ⟨w0.heap.size, 1, none⟩ = some (.string (fth fields i).of) ∧ W.cell? ⟨w0.heap.size, 2, none⟩ = some (.bool (fth fields i).list) ∧ W.cell? ⟨w0.heap.size, 3, none⟩ = some (.bool (fth fields i).must) ∧ W.cell? ⟨w0.heap.size, 4, none⟩ = some (.bool false) ∧ W.cell? ⟨w0.heap.size, 5, none⟩ = some (.bool (fth fields i).hidden) ∧ W.cell? ⟨w0.heap.size, 6, none⟩ = some (.bool (fth fields i).shared) ∧ W.cell? ⟨w0.heap.size, 7, none⟩ = some (.slice na (fth fields i).needs.length nc)) ∧ (W.cell? ⟨b', off' + k * 6, none⟩ = some (.string (cth cells k).name) ∧ W.cell? ⟨b', off' + k * 6 + 1, none⟩ = some (.int .i64 (cth cells k).val.sort) ∧ W.cell? ⟨b', off' + k * 6 + 2, none⟩ = some (.int .i64 (cth cells k).val.num) ∧ W.cell? ⟨b', off' + k * 6 + 3, none⟩ = some (.string (cth cells k).val.text) ∧ W.cell? ⟨b', off' + k * 6 + 4, none⟩ = some (.slice na2 (cth cells k).val.names.length nc2) ∧ W.cell? ⟨b', off' + k * 6 + 5, none⟩ = some (.slice ka2 (cth cells k).val.kids.length kc2)) ∧ W.cell? ⟨w.heap.size, 1, none⟩ = some (.string key) ∧ W.cell? ⟨w.heap.size + 1, 1, none⟩ = some (.int .i64 id) ∧ W.cell? ⟨w.heap.size + 1, 2, none⟩ = some (.slice (some ⟨b', off', none⟩) cells.length cc) ∧ Below (w.heap.size + 1 + 1) X W ∧ Below w.heap.size w W := fun W h => by
        have K := (h.block _ zW1).trans KFB
        have h2 := hT1.trans (h.mono (by omega))
        obtain ⟨⟨a1, a2⟩, ⟨a3, a4⟩, a5, -⟩ := TB W h2
        exact ⟨⟨(box_at K 0 (by simp)).1, (box_at K 1 (by simp)).1, (box_at K 2 (by simp)).1, (box_at K 3 (by simp)).1, (box_at K 4 (by simp)).1, (box_at K 5 (by simp)).1, (box_at K 6 (by simp)).1, (box_at K 7 (by simp)).1⟩, hds W a5, a1, a3, a4, h2, a5⟩
      have hfit := l4Fits_any (fth fields i) (cth cells k).val W1.drew B _ _ (hFR.under (hw1.drew.mono hB)) (hV.under (hw1.drew.mono hB)) (by simp; omega)
      have HCB : Hid (cellB ⟨name, key, fields⟩ id (fth fields i) (cth cells k) = ((cth cells k).name.toList == (fth fields i).name.toList && fitS (fth fields i) (cth cells k).val && (!((fth fields i).name.toList == key.toList) || ((cth cells k).val.sort == 3 && (cth cells k).val.num == id)))) := rfl
      generalize fitS (fth fields i) (cth cells k).val = fi at hfit HCB
      obtain ⟨⟨g0', g1', g2', g3', g4', g5', g6', g7'⟩, ⟨d0, d1, d2, d3, d4, d5⟩, -⟩ := AF _ (Below.refl _ _)
      clear hds HRS
      cases x1 : ((cth cells k).name.toList == (fth fields i).name.toList)
      · have x1' : ((cth cells k).name.toList != (fth fields i).name.toList) = true := by simp only [bne, x1]; rfl
        have HQ : Hid (rowB ⟨name, key, fields⟩ ⟨type, id, cells⟩ = false) := HRBD.out (by rw [HCB.out, x1]; rfl)
        clear hkk HRBD HCG HN HCB AF hfit
        go_quiet (fail)
        go_wp2_with fail
        go_ret
        exact ⟨ret_bool HQ.out.symm, below_drews hw1 _⟩
      have x1' : ((cth cells k).name.toList != (fth fields i).name.toList) = false := by simp only [bne, x1]; rfl
      rw [x1] at HCB
      clear hkk
      go_cut [49] (fun r wx => r = .bool (!fi) ∧ Below W1.heap.size W1 wx)
      case first =>
        go_region_held3 (fun w' => w'.cell? ⟨w.heap.size + 1, 2, none⟩ = some (.slice (some ⟨b', off', none⟩) cells.length cc) ∧ w'.cell? ⟨w0.heap.size, 0, none⟩ = some (.string (fth fields i).name) ∧ w'.cell? ⟨w0.heap.size, 1, none⟩ = some (.string (fth fields i).of) ∧ w'.cell? ⟨w0.heap.size, 2, none⟩ = some (.bool (fth fields i).list) ∧ w'.cell? ⟨w0.heap.size, 3, none⟩ = some (.bool (fth fields i).must) ∧ w'.cell? ⟨w0.heap.size, 4, none⟩ = some (.bool false) ∧ w'.cell? ⟨w0.heap.size, 5, none⟩ = some (.bool (fth fields i).hidden) ∧ w'.cell? ⟨w0.heap.size, 6, none⟩ = some (.bool (fth fields i).shared) ∧ w'.cell? ⟨w0.heap.size, 7, none⟩ = some (.slice na (fth fields i).needs.length nc) ∧ w'.cell? ⟨b', off' + k * 6, none⟩ = some (.string (cth cells k).name) ∧ w'.cell? ⟨b', off' + k * 6 + 1, none⟩ = some (.int .i64 (cth cells k).val.sort) ∧ w'.cell? ⟨b', off' + k * 6 + 2, none⟩ = some (.int .i64 (cth cells k).val.num) ∧ w'.cell? ⟨b', off' + k * 6 + 3, none⟩ = some (.string (cth cells k).val.text) ∧ w'.cell? ⟨b', off' + k * 6 + 4, none⟩ = some (.slice na2 (cth cells k).val.names.length nc2) ∧ w'.cell? ⟨b', off' + k * 6 + 5, none⟩ = some (.slice ka2 (cth cells k).val.kids.length kc2)) (go_keep)
          (first
            | (
              go_at_call 30
              refine hfit.mono ?_
              rintro e w3 ⟨rfl, hb3⟩
              have hb3' := below_undrew hb3
              obtain ⟨⟨m0, m1, m2, m3, m4, m5, m6, m7⟩, ⟨n0, n1, n2, n3, n4, n5⟩, o1, o2, o3, hT3, hw3⟩ := AF w3 hb3'))
        all_goals
          go_wp2_with fail
          go_meet
          case rel => exact ⟨rfl, hb3'⟩
      case rest =>
      obtain ⟨rfl, hb3⟩ := hcut
      obtain ⟨w3, rfl⟩ : ∃ x, x = wc := ⟨wc, rfl⟩
      have AF3 := AF w3 hb3
      have z31 := hb3.size
      clear g0' g1' g2' g3' g4' g5' g6' g7' d0 d1 d2 d3 d4 d5 hfit p1' p2' q1' q2' hw1 hT1 AF hb3
      obtain ⟨⟨m0, m1, m2, m3, m4, m5, m6, m7⟩, ⟨n0, n1, n2, n3, n4, n5⟩, o1, o2, o3, hT3, hw3⟩ := AF3
      cases fi
      · have HQ : Hid (rowB ⟨name, key, fields⟩ ⟨type, id, cells⟩ = false) := HRBD.out (by rw [HCB.out]; rfl)
        clear HRBD HCG HN HCB
        go_wp2_with fail
        go_ret
        exact ⟨ret_bool HQ.out.symm, hw3⟩
      have z3 := hT3.size
      have HTV := hT3.alloc (by omega) (.cells #[.int .i64 (cth cells k).val.sort, .int .i64 (cth cells k).val.num, .string (cth cells k).val.text, .slice na2 (cth cells k).val.names.length nc2, .slice ka2 (cth cells k).val.kids.length kc2] 77)
      obtain ⟨⟨l1, -⟩, ⟨l2, -⟩, hwV, -⟩ := TB _ HTV
      have l0 := fun o => ((below_box w3 o).cell (p := ⟨w0.heap.size, 0, none⟩) (cell_block' m0)).trans m0
      cases x3 : ((fth fields i).name.toList == key.toList)
      · have HQ : Hid (cellsTo ⟨name, key, fields⟩ ⟨type, id, cells⟩ (KF fields fields.length) (KF fields (i + 1)).length = true) := HCG.out (by rw [HCB.out, x3]; rfl)
        clear HRBD HCG HCB
        go_wp2_with fail
        go_roundw
        case rel => exact ⟨i + 1, by omega, by rw [HN.out]; go_num, by go_num, HTV, HQ.out⟩
        case measure => simp [intOf]; omega
      rw [x3] at HCB
      cases x4 : ((cth cells k).val.sort == 3)
      · have x4' : ((cth cells k).val.sort != 3) = true := by simp only [bne, x4]; rfl
        have HQ : Hid (rowB ⟨name, key, fields⟩ ⟨type, id, cells⟩ = false) := HRBD.out (by rw [HCB.out, x4]; rfl)
        clear HRBD HCG HN HCB
        go_wp2_with fail
        go_ret
        exact ⟨ret_bool HQ.out.symm, hwV⟩
      have x4' : ((cth cells k).val.sort != 3) = false := by simp only [bne, x4]; rfl
      rw [x4] at HCB
      cases x5 : ((cth cells k).val.num == id)
      · have x5' : ((cth cells k).val.num != id) = true := by simp only [bne, x5]; rfl
        have HQ : Hid (rowB ⟨name, key, fields⟩ ⟨type, id, cells⟩ = false) := HRBD.out (by rw [HCB.out, x5]; rfl)
        clear HRBD HCG HN HCB
        go_wp2_with fail
        go_ret
        exact ⟨ret_bool HQ.out.symm, hwV⟩
      · have x5' : ((cth cells k).val.num != id) = false := by simp only [bne, x5]; rfl
        have HQ : Hid (cellsTo ⟨name, key, fields⟩ ⟨type, id, cells⟩ (KF fields fields.length) (KF fields (i + 1)).length = true) := HCG.out (by rw [HCB.out, x5]; rfl)
        clear HRBD HCG HCB
        go_wp2_with fail
        go_roundw
        case rel => exact ⟨i + 1, by omega, by rw [HN.out]; go_num, by go_num, HTV, HQ.out⟩
        case measure => simp [intOf]; omega
    · have e : i = fields.length := by omega
      subst e
      have HQ : Hid (rowB ⟨name, key, fields⟩ ⟨type, id, cells⟩ = (decide (0 ≤ id) && decide (id ≤ 999999) && decide (cells.length = (KF fields fields.length).length))) := by show _ = _; rw [HRB.out, HP.out]; simp
      by_cases hl : (KF fields fields.length).length = cells.length
      · have hl1 : (((KF fields fields.length).length : Int) == (cells.length : Int)) = true := by rw [hl]; simp
        go_wp2_with (go_at_call 15; refine (l1In_any _ _ _ _).mono ?_; rintro e w1 ⟨rfl, rfl⟩)
        go_ret
        exact ⟨ret_bool (by rw [HQ.out, decide_eq_true hl.symm]; simp), hw0⟩
      · have hl1 : (((KF fields fields.length).length : Int) == (cells.length : Int)) = false := by rw [beq_eq_false_iff_ne]; omega
        go_wp2_with fail
        go_ret
        have hne : ¬ cells.length = (KF fields fields.length).length := fun e => hl e.symm
        exact ⟨ret_bool (by rw [HQ.out, decide_eq_false hne]; simp), hw0⟩
end Go.Proofs.YtelggammjejobaaGreat
