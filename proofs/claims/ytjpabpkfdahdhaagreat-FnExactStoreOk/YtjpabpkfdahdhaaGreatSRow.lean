import Derived.Test.YtjpabpkfdahdhaaGreatPRep
import Derived.Test.YtjpabpkfdahdhaaGreatSOrder
namespace Go.Proofs.YtjpabpkfdahdhaaGreat
set_option linter.unusedSimpArgs false
set_option linter.unusedVariables false
open Go.RowKit

theorem szFsTo_mono (fs : List F) : ∀ i n, i ≤ n → szFsTo fs i ≤ szFsTo fs n := fun i n h => by
  induction h with
  | refl => exact Nat.le_refl _
  | step h ih => exact Nat.le_trans ih (by rw [szFsTo_succ]; omega)
theorem szTsTo_mono (ts : List T) : ∀ i n, i ≤ n → szTsTo ts i ≤ szTsTo ts n := fun i n h => by
  induction h with
  | refl => exact Nat.le_refl _
  | step h ih => exact Nat.le_trans ih (by rw [szTsTo_succ]; omega)
theorem needs_small (fs : List F) (h : szFs fs ≤ 1048576) (j : Nat) : (fth fs j).needs.length ≤ 1048576 := by
  by_cases hj : j < fs.length
  · have h1 := szFsTo_mono fs (j + 1) fs.length hj
    rw [szFsTo_succ] at h1
    have h2 : (fth fs j).needs.length ≤ szF (fth fs j) := by simp only [szF, szNs]; omega
    have h3 : szFs fs = fs.length + szFsTo fs fs.length := rfl
    omega
  · have : fth fs j = F.zero := by simp [fth, List.getD_eq_getElem?_getD, List.getElem?_eq_none (Nat.le_of_not_lt hj)]
    rw [this]; simp [F.zero]
theorem fields_small (ts : List T) (h : szTs ts ≤ 1048576) (i : Nat) : szFs (tth ts i).fields ≤ 1048576 := by
  by_cases hi : i < ts.length
  · have h1 := szTsTo_mono ts (i + 1) ts.length hi
    rw [szTsTo_succ] at h1
    have h2 : szT (tth ts i) = (tth ts i).name.size + (tth ts i).key.size + szFs (tth ts i).fields := rfl
    have h3 : szTs ts = ts.length + szTsTo ts ts.length := rfl
    omega
  · have : tth ts i = T.zero := by simp [tth, List.getD_eq_getElem?_getD, List.getElem?_eq_none (Nat.le_of_not_lt hi)]
    rw [this]; decide
end Go.Proofs.YtjpabpkfdahdhaaGreat

namespace Go.Proofs.YtjpabpkfdahdhaaGreat
set_option linter.unusedSimpArgs false
set_option linter.unusedVariables false
open Go.RowKit

theorem CeReps.at {w : World} {B : Nat} {cs : List Ce} {ca : Option Addr} (h : CeReps w (· < B) cs ca) (hB : B ≤ w.heap.size) (k : Nat) (hk : k < cs.length) : ∃ (b off : Nat) (na ka : Option Addr) (nc kc : Nat), ca = some ⟨b, off, none⟩ ∧
    Rep w (· < B) (cth cs k).val (.agg #[.int .i64 (cth cs k).val.sort, .int .i64 (cth cs k).val.num, .string (cth cs k).val.text, .slice na (cth cs k).val.names.length nc, .slice ka (cth cs k).val.kids.length kc]) ∧
    ∀ W, Below w.heap.size w W → W.cell? ⟨b, off + k * 6, none⟩ = some (.string (cth cs k).name) ∧ W.cell? ⟨b, off + k * 6 + 1, none⟩ = some (.int .i64 (cth cs k).val.sort) ∧ W.cell? ⟨b, off + k * 6 + 2, none⟩ = some (.int .i64 (cth cs k).val.num) ∧ W.cell? ⟨b, off + k * 6 + 3, none⟩ = some (.string (cth cs k).val.text) ∧ W.cell? ⟨b, off + k * 6 + 4, none⟩ = some (.slice na (cth cs k).val.names.length nc) ∧ W.cell? ⟨b, off + k * 6 + 5, none⟩ = some (.slice ka (cth cs k).val.kids.length kc) := by
  obtain ⟨-, C, hA, hr⟩ := h
  obtain ⟨b, off, rfl, hbB, hc⟩ := hA (by omega)
  obtain ⟨e0, hV, -⟩ := (hr k hk).pieces
  obtain ⟨na, ka, nc, kc, e1, e2, e3, e4, e5⟩ := hV.heads
  rw [e1, e2, e3, e4, e5] at hV
  have c : ∀ W, Below w.heap.size w W → ∀ j, j < 6 → W.cell? ⟨b, off + k * 6 + j, none⟩ = some (C k j) := fun W hb j hj => (hb.cell (p := ⟨b, off + k * 6 + j, none⟩) (by show b < _; omega)).trans (hc k hk j hj)
  exact ⟨b, off, na, ka, nc, kc, rfl, hV, fun W hb => ⟨(c W hb 0 (by omega)).trans (congrArg some e0), (c W hb 1 (by omega)).trans (congrArg some e1), (c W hb 2 (by omega)).trans (congrArg some e2), (c W hb 3 (by omega)).trans (congrArg some e3), (c W hb 4 (by omega)).trans (congrArg some e4), (c W hb 5 (by omega)).trans (congrArg some e5)⟩⟩

/-- What isRowOk answers. -/
def rowI (p : Pt) (r : Ro) : Bool := decide (0 ≤ tIx p r.type) && rowB (tth p.types (tIx p r.type).toNat) r
theorem rowI_or (p : Pt) (r : Ro) (h : 0 ≤ typeIx p r.type) : rowI p r = rowB (typeOr p r.type) r := by
  have h' : 0 ≤ tIx p r.type := h
  rw [rowI, typeOr, if_pos h, decide_eq_true h']; rfl

set_option maxRecDepth 20000 in
set_option maxHeartbeats 3200000 in
theorem isRowOk_any (p : Pt) (r : Ro) (w : World) (B : Nat) (v u : Value) (hP : PRep w (· < B) p v) (hR : RoRep w (· < B) r u) (hB : B ≤ w.heap.size) (hz : szP p ≤ 1048576) :
    Calls Tryz.prog 22 #[v, u] w fun e w' => e = .returned (.bool (rowI p r)) ∧ Below w.heap.size w w' := by
  have hP' := hP
  obtain ⟨type, id, cells⟩ := r
  obtain ⟨ca, cc, rfl, hC, hcc, -⟩ := hR
  obtain ⟨name, types⟩ := p
  obtain ⟨ta, tc, rfl, -⟩ := hP
  simp only at hP' hC hcc
  have h96 := hC.1
  have hfs : (typeOr ⟨name, types⟩ type).fields.length ≤ 1048576 := by
    unfold typeOr
    split
    · have hs : szTs types ≤ 1048576 := by have : szP ⟨name, types⟩ = name.size + szTs types := rfl; omega
      have h1 := fields_small types hs (typeIx ⟨name, types⟩ type).toNat
      have h2 : szFs (tth types (typeIx ⟨name, types⟩ type).toNat).fields = (tth types (typeIx ⟨name, types⟩ type).toNat).fields.length + szFsTo (tth types (typeIx ⟨name, types⟩ type).toNat).fields (tth types (typeIx ⟨name, types⟩ type).toNat).fields.length := rfl
      show (tth types (typeIx ⟨name, types⟩ type).toNat).fields.length ≤ _
      omega
    · simp [T.zero]
  have HRI : Hid (0 ≤ typeIx ⟨name, types⟩ type → rowI ⟨name, types⟩ ⟨type, id, cells⟩ = rowB (typeOr ⟨name, types⟩ type) ⟨type, id, cells⟩) := rowI_or ⟨name, types⟩ ⟨type, id, cells⟩
  have HRN : Hid (¬ 0 ≤ typeIx ⟨name, types⟩ type → rowI ⟨name, types⟩ ⟨type, id, cells⟩ = false) := fun h => by
    have h' : ¬ 0 ≤ tIx ⟨name, types⟩ type := h
    simp [rowI, h']
  have hb2 : ∀ o1 o2, Below w.heap.size w ((w.alloc o1).alloc o2) := below_box2 w
  have hFT := fun o1 o2 => findType_any ⟨name, types⟩ ((w.alloc o1).alloc o2) B _ type (hP'.under ((hb2 _ _).mono hB)) (by simp; omega)
  generalize typeIx ⟨name, types⟩ type = ix at HRI HRN hFT
  generalize typeOr ⟨name, types⟩ type = t at hfs HRI hFT
  go_enter Tryz.func22, Tryz.ntmps22
  go_wp2_with fail
  refine (hFT _ _).mono ?_
  rintro e w1 ⟨nm, ky, fa, fl, fc, rfl, hb1, hT1⟩
  obtain ⟨fa', fc', e0, e1, e2, -⟩ := hT1.parts
  simp only [Value.string.injEq, Value.slice.injEq] at e0 e1 e2
  obtain ⟨rfl, rfl, rfl⟩ := e2
  subst e0 e1
  have z1 := hb1.size
  simp at z1
  have hw1 : Below w.heap.size w w1 := (hb2 _ _).trans (hb1.mono (by simp; omega))
  have bT := below_box w1 (.cells #[.string t.name, .string t.key, .slice fa t.fields.length fc] 54)
  have hwT := hw1.trans (bT.mono (by omega))
  have hKF := knownFields_any t (w1.alloc (.cells #[.string t.name, .string t.key, .slice fa t.fields.length fc] 54)) B _ (hT1.under (bT.mono (by omega))) (by simp; omega) hfs
  have HL : Hid (rowB t ⟨type, id, cells⟩ = (decide (0 ≤ id) && decide (id ≤ 999999) && decide (cells.length = (KF t.fields t.fields.length).length) && cellsTo t ⟨type, id, cells⟩ (KF t.fields t.fields.length) (KF t.fields t.fields.length).length)) := rfl
  have hKl := KF_len t.fields t.fields.length
  generalize KF t.fields t.fields.length = KL at hKF HL hKl
  go_wp2_with fail
  refine hKF.mono ?_
  rintro e w2 ⟨a, c, rfl, hb2', hkc, hFs⟩
  have z2 := hb2'.size
  simp at z2
  have hw2 : Below w.heap.size w w2 := hwT.trans (hb2'.mono (by simp; omega))
  have KT := (hb2'.block _ (by simp)).trans (heap_alloc_new w1 (.cells #[.string t.name, .string t.key, .slice fa t.fields.length fc] 54))
  have hx := boxes2 (w := w) (W := w2) (A1 := #[.string name, .slice ta types.length tc]) (A2 := #[.string type, .int .i64 id, .slice ca cells.length cc]) (T1 := 31) (T2 := 49) (((hb1.trans (bT.mono (by simp; omega))).trans (hb2'.mono (by simp; omega))).mono (by simp))
  have FW : ∀ W, Below w2.heap.size w2 W → W.cell? ⟨w.heap.size + 1, 1, none⟩ = some (.int .i64 id) ∧ W.cell? ⟨w.heap.size + 1, 2, none⟩ = some (.slice ca cells.length cc) ∧ W.cell? ⟨w1.heap.size, 1, none⟩ = some (.string t.key) ∧ Below w.heap.size w W ∧ w2.heap.size ≤ W.heap.size := fun W h =>
    ⟨(h.cell (p := ⟨w.heap.size + 1, 1, none⟩) (by show w.heap.size + 1 < _; omega)).trans (hx.2.1 1 (by simp)), (h.cell (p := ⟨w.heap.size + 1, 2, none⟩) (by show w.heap.size + 1 < _; omega)).trans (hx.2.1 2 (by simp)), (h.cell (p := ⟨w1.heap.size, 1, none⟩) (by show w1.heap.size < _; omega)).trans (box_at KT 1 (by simp)).1, hw2.trans (h.mono (by omega)), h.size⟩
  obtain ⟨x1, x2, x3, -, -⟩ := FW w2 (Below.refl _ _)
  clear hb2' KT hx hwT bT hw1 hb1 hT1 hKF
  cases hix : decide (0 ≤ ix)
  · go_wp2_with fail
    go_ret
    exact ⟨ret_bool (HRN.out (by simpa using hix)).symm, hw2⟩
  have HR : Hid (rowI ⟨name, types⟩ ⟨type, id, cells⟩ = rowB t ⟨type, id, cells⟩) := HRI.out (by simpa using hix)
  by_cases hi1 : id < 0
  · have hi1' : decide (id < 0) = true := by simpa using hi1
    go_wp2_with fail
    go_ret
    exact ⟨ret_bool (by rw [HR.out, HL.out, decide_eq_false (by omega : ¬ 0 ≤ id)]; rfl), hw2⟩
  have hi1' : decide (id < 0) = false := by simpa using hi1
  by_cases hi2 : 999999 < id
  · have hi2' : decide (999999 < id) = true := by simpa using hi2
    go_wp2_with fail
    go_ret
    exact ⟨ret_bool (by rw [HR.out, HL.out, decide_eq_false (by omega : ¬ id ≤ 999999)]; simp), hw2⟩
  have hi2' : decide (999999 < id) = false := by simpa using hi2
  by_cases hlen : cells.length = KL.length
  case neg =>
    have hl1 : ((cells.length : Int) == (KL.length : Int)) = false := by simp; omega
    have hl2 : ((cells.length : Int) != (KL.length : Int)) = true := by simp only [bne, hl1]; rfl
    go_wp2_with fail
    go_ret
    exact ⟨ret_bool (by rw [HR.out, HL.out, decide_eq_false hlen]; simp), hw2⟩
  have hl1 : ((cells.length : Int) == (KL.length : Int)) = true := by simp; omega
  have hl2 : ((cells.length : Int) != (KL.length : Int)) = false := by simp only [bne, hl1]; rfl
  have HRR : Hid (rowI ⟨name, types⟩ ⟨type, id, cells⟩ = cellsTo t ⟨type, id, cells⟩ KL KL.length) := by
    show _ = _
    rw [HR.out, HL.out, decide_eq_true (by omega : 0 ≤ id), decide_eq_true (by omega : id ≤ 999999), decide_eq_true hlen]; rfl
  clear HR HL HRI HRN
  go_wp2_with fail
  clear x1 x2 x3 hl1 hl2 hi1' hi2'
  go_loopw [42] (fun i wr => ∃ k : Nat, k ≤ KL.length ∧ i = .int .i64 k ∧ Below w2.heap.size w2 wr ∧ cellsTo t ⟨type, id, cells⟩ KL k = true) (fun i _ => KL.length - (intOf i).toNat)
  case atStart => exact ⟨0, Nat.zero_le _, rfl, Below.refl _ _, rfl⟩
  case round =>
    obtain ⟨k, hk, rfl, hbel, hp⟩ := hrel
    obtain ⟨w0, rfl⟩ : ∃ x, x = wr := ⟨wr, rfl⟩
    have HP : Hid (cellsTo t ⟨type, id, cells⟩ KL k = true) := hp
    clear hp
    obtain ⟨x1, x2, x3, hww, hz0⟩ := FW w0 hbel
    by_cases hlt : k < KL.length
    · have hki : (k : Int) < (KL.length : Int) := by omega
      have hkc2 : (k : Int) < (cells.length : Int) := by omega
      obtain ⟨b, off, na, nc, rfl, hFR, hcs⟩ := hFs.at (Nat.le_refl _) k hlt
      obtain ⟨f0, f1, f2, f3, f4, f5, f6, f7⟩ := hcs w0 hbel
      obtain ⟨b', off', na2, ka2, nc2, kc2, rfl, hV, hds⟩ := hC.at hB k (by omega)
      have bF := below_box w0 (.cells #[.string (fth KL k).name, .string (fth KL k).of, .bool (fth KL k).list, .bool (fth KL k).must, .bool (fth KL k).far, .bool (fth KL k).hidden, .bool (fth KL k).shared, .slice na (fth KL k).needs.length nc] 73)
      have bC := below_box (w0.alloc (.cells #[.string (fth KL k).name, .string (fth KL k).of, .bool (fth KL k).list, .bool (fth KL k).must, .bool (fth KL k).far, .bool (fth KL k).hidden, .bool (fth KL k).shared, .slice na (fth KL k).needs.length nc] 73)) (.cells #[.string (cth cells k).name, .int .i64 (cth cells k).val.sort, .int .i64 (cth cells k).val.num, .string (cth cells k).val.text, .slice na2 (cth cells k).val.names.length nc2, .slice ka2 (cth cells k).val.kids.length kc2] 79)
      obtain ⟨d0, d1, d2, d3, d4, d5⟩ := hds (w0.alloc (.cells #[.string (fth KL k).name, .string (fth KL k).of, .bool (fth KL k).list, .bool (fth KL k).must, .bool (fth KL k).far, .bool (fth KL k).hidden, .bool (fth KL k).shared, .slice na (fth KL k).needs.length nc] 73)) (hww.trans (bF.mono (by omega)))
      have bFC := bF.trans (bC.mono (by simp))
      have hbel2 := hbel.trans (bFC.mono (by omega))
      obtain ⟨y1, y2, y3, hww2, hz2⟩ := FW _ hbel2
      obtain ⟨g1, g2, g3, -⟩ := FW _ (hbel.trans (bF.mono (by omega)))
      have HCB : Hid (cellB t id (fth KL k) (cth cells k) = ((cth cells k).name.toList == (fth KL k).name.toList && fitS (fth KL k) (cth cells k).val && (!((fth KL k).name.toList == t.key.toList) || ((cth cells k).val.sort == 3 && (cth cells k).val.num == id)))) := rfl
      have HF : Hid (cellB t id (fth KL k) (cth cells k) = false → cellsTo t ⟨type, id, cells⟩ KL KL.length = false) := cellsTo_false t ⟨type, id, cells⟩ KL _ k hlt
      have HS : Hid (cellB t id (fth KL k) (cth cells k) = true → cellsTo t ⟨type, id, cells⟩ KL (k + 1) = true) := fun h => by rw [cellsTo_succ, HP.out]; exact h
      have hfit := isFit_any (fth KL k) (cth cells k).val ((w0.alloc (.cells #[.string (fth KL k).name, .string (fth KL k).of, .bool (fth KL k).list, .bool (fth KL k).must, .bool (fth KL k).far, .bool (fth KL k).hidden, .bool (fth KL k).shared, .slice na (fth KL k).needs.length nc] 73)).alloc (.cells #[.string (cth cells k).name, .int .i64 (cth cells k).val.sort, .int .i64 (cth cells k).val.num, .string (cth cells k).val.text, .slice na2 (cth cells k).val.names.length nc2, .slice ka2 (cth cells k).val.kids.length kc2] 79)) w2.heap.size _ _ (hFR.under hbel2) ((hV.under (hww2.mono hB)).sub fun b hb => by have := hw2.size; omega) (by simp; omega)
      rw [fit_same] at hfit
      clear hcs hds
      cases q1 : ((cth cells k).name.toList == (fth KL k).name.toList)
      · have q1' : ((cth cells k).name.toList != (fth KL k).name.toList) = true := by simp only [bne, q1]; rfl
        go_wp2_with fail
        go_ret
        exact ⟨ret_bool (by rw [HRR.out, HF.out (by rw [HCB.out, q1]; rfl)]), hww2⟩
      have q1' : ((cth cells k).name.toList != (fth KL k).name.toList) = false := by simp only [bne, q1]; rfl
      cases q2 : fitS (fth KL k) (cth cells k).val
      · rw [q2] at hfit
        go_wp2_with (go_at_call 40; refine hfit.mono ?_; rintro e w3 ⟨rfl, hb3⟩)
        go_ret
        exact ⟨ret_bool (by rw [HRR.out, HF.out (by rw [HCB.out, q1, q2]; rfl)]), hww2.trans (hb3.mono (by simp; omega))⟩
      rw [q2] at hfit
      have hafter : ∀ W, Below ((w0.alloc (.cells #[.string (fth KL k).name, .string (fth KL k).of, .bool (fth KL k).list, .bool (fth KL k).must, .bool (fth KL k).far, .bool (fth KL k).hidden, .bool (fth KL k).shared, .slice na (fth KL k).needs.length nc] 73)).alloc (.cells #[.string (cth cells k).name, .int .i64 (cth cells k).val.sort, .int .i64 (cth cells k).val.num, .string (cth cells k).val.text, .slice na2 (cth cells k).val.names.length nc2, .slice ka2 (cth cells k).val.kids.length kc2] 79)).heap.size ((w0.alloc (.cells #[.string (fth KL k).name, .string (fth KL k).of, .bool (fth KL k).list, .bool (fth KL k).must, .bool (fth KL k).far, .bool (fth KL k).hidden, .bool (fth KL k).shared, .slice na (fth KL k).needs.length nc] 73)).alloc (.cells #[.string (cth cells k).name, .int .i64 (cth cells k).val.sort, .int .i64 (cth cells k).val.num, .string (cth cells k).val.text, .slice na2 (cth cells k).val.names.length nc2, .slice ka2 (cth cells k).val.kids.length kc2] 79)) W →
          W.cell? ⟨w0.heap.size, 0, none⟩ = some (.string (fth KL k).name) ∧ (W.cell? ⟨w0.heap.size + 1, 1, none⟩ = some (.int .i64 (cth cells k).val.sort) ∧ W.cell? ⟨w0.heap.size + 1, 2, none⟩ = some (.int .i64 (cth cells k).val.num) ∧ W.cell? ⟨w0.heap.size + 1, 3, none⟩ = some (.string (cth cells k).val.text) ∧ W.cell? ⟨w0.heap.size + 1, 4, none⟩ = some (.slice na2 (cth cells k).val.names.length nc2) ∧ W.cell? ⟨w0.heap.size + 1, 5, none⟩ = some (.slice ka2 (cth cells k).val.kids.length kc2)) ∧
          W.cell? ⟨w.heap.size + 1, 1, none⟩ = some (.int .i64 id) ∧ W.cell? ⟨w1.heap.size, 1, none⟩ = some (.string t.key) ∧ Below w2.heap.size w2 W ∧ Below w.heap.size w W := fun W h => by
        have hx := boxes2 (w := w0) (W := W) (A1 := #[.string (fth KL k).name, .string (fth KL k).of, .bool (fth KL k).list, .bool (fth KL k).must, .bool (fth KL k).far, .bool (fth KL k).hidden, .bool (fth KL k).shared, .slice na (fth KL k).needs.length nc]) (A2 := #[.string (cth cells k).name, .int .i64 (cth cells k).val.sort, .int .i64 (cth cells k).val.num, .string (cth cells k).val.text, .slice na2 (cth cells k).val.names.length nc2, .slice ka2 (cth cells k).val.kids.length kc2]) (T1 := 73) (T2 := 79) (h.mono (by simp))
        have h2 := hbel2.trans (h.mono (by simp; omega))
        obtain ⟨a1, a2, a3, a4, -⟩ := FW W h2
        exact ⟨hx.1 0 (by simp), ⟨hx.2.1 1 (by simp), hx.2.1 2 (by simp), hx.2.1 3 (by simp), hx.2.1 4 (by simp), hx.2.1 5 (by simp)⟩, a1, a3, h2, a4⟩
      cases q3 : ((fth KL k).name.toList == t.key.toList)
      · go_wp2_with (
          go_at_call 40
          refine hfit.mono ?_
          rintro e w3 ⟨rfl, hb3⟩
          obtain ⟨m0, ⟨m1, m2, m3, m4, m5⟩, m6, m7, hbel3, hww3⟩ := hafter w3 hb3)
        go_roundw
        case rel => exact ⟨k + 1, by omega, by go_num, hbel3, HS.out (by rw [HCB.out, q1, q2, q3]; rfl)⟩
        case measure => simp [intOf]; omega
      · cases q4 : ((cth cells k).val.sort == 3 && (cth cells k).val.num == id)
        · go_wp2_with (first
            | (
              go_at_call 40
              refine hfit.mono ?_
              rintro e w3 ⟨rfl, hb3⟩
              obtain ⟨m0, ⟨m1, m2, m3, m4, m5⟩, m6, m7, hbel3, hww3⟩ := hafter w3 hb3)
            | (
              go_at_call 41
              refine (isNumber_any _ _ _ _ _ id w3).mono ?_
              rw [q4]
              rintro e w4 ⟨rfl, hb4⟩))
          go_ret
          exact ⟨ret_bool (by rw [HRR.out, HF.out (by rw [HCB.out, q1, q2, q3, q4]; rfl)]), hww3.trans (hb4.mono (by have := hww3.size; omega))⟩
        · go_wp2_with (first
            | (
              go_at_call 40
              refine hfit.mono ?_
              rintro e w3 ⟨rfl, hb3⟩
              obtain ⟨m0, ⟨m1, m2, m3, m4, m5⟩, m6, m7, hbel3, hww3⟩ := hafter w3 hb3)
            | (
              go_at_call 41
              refine (isNumber_any _ _ _ _ _ id w3).mono ?_
              rw [q4]
              rintro e w4 ⟨rfl, hb4⟩))
          go_roundw
          case rel => exact ⟨k + 1, by omega, by go_num, hbel3.trans (hb4.mono (by have := hbel3.size; omega)), HS.out (by rw [HCB.out, q1, q2, q3, q4]; rfl)⟩
          case measure => simp [intOf]; omega
    · go_wp2_with fail
      go_ret
      have e : k = KL.length := by omega
      exact ⟨ret_bool (by rw [HRR.out, ← e, HP.out]), hww⟩
end Go.Proofs.YtjpabpkfdahdhaaGreat
