import Derived.Test.YtjpabpkfdahdhaaGreatICheckP
import Derived.Test.YtjpabpkfdahdhaaGreatSRow
import Derived.Deep.RegionHeld3
import Derived.Deep.DeepCutAuto
namespace Go.Proofs.YtjpabpkfdahdhaaGreat
set_option linter.unusedSimpArgs false
set_option linter.unusedVariables false
open Go.RowKit

/-- The program finds nothing wrong with a part. -/
def okP (p : Pt) : Bool := !(decide (5 < p.types.length)) && nameB p.name && hasRootB p && !(decide (badT p < p.types.length)) && !(decide (1500 < (partL p).length))
theorem typeCode_bad (p : Pt) : ∀ n k, badAt p k n < k + n → typeCode p (badAt p k n) ≠ 0
  | 0, k, h => by simp [badAt] at h
  | n + 1, k, h => by
    rw [badAt] at h ⊢
    by_cases e : typeCode p k = 0
    · rw [if_pos e] at h ⊢; exact typeCode_bad p n (k + 1) (by omega)
    · rw [if_neg e]; exact e
theorem partErr_ok (p : Pt) (h : okP p = true) : partErr p = .nilIface := by
  simp only [okP, Bool.and_eq_true, Bool.not_eq_true', decide_eq_false_iff_not] at h
  obtain ⟨⟨⟨⟨a, b⟩, c⟩, d⟩, e⟩ := h
  rw [partErr, if_neg a, if_neg (by rw [b]; simp), if_neg (by rw [c]; simp), if_neg d, if_neg e]
theorem partErr_bad (p : Pt) (h : okP p = false) : (∃ x, partErr p = .iface 83 (.int .i64 x)) ∨ ∃ i x, partErr p = .iface 85 (.agg #[.int .i64 i, .iface 83 (.int .i64 x)]) := by
  unfold partErr
  by_cases a : 5 < p.types.length
  · rw [if_pos a]; exact .inr ⟨_, _, rfl⟩
  rw [if_neg a]
  by_cases b : nameB p.name = false
  · rw [if_pos b]; exact .inl ⟨_, rfl⟩
  rw [if_neg b]
  by_cases c : hasRootB p = false
  · rw [if_pos c]; exact .inl ⟨_, rfl⟩
  rw [if_neg c]
  by_cases d : badT p < p.types.length
  · rw [if_pos d]
    have hb : typeCode p (badT p) ≠ 0 := typeCode_bad p _ 0 (by rw [Nat.zero_add]; exact d)
    exact .inr ⟨((badT p : Nat) + 1 : Int), typeCode p (badT p), by rw [codeErr, if_neg hb]⟩
  rw [if_neg d]
  by_cases e : 1500 < (partL p).length
  · rw [if_pos e]; exact .inl ⟨_, rfl⟩
  exfalso
  simp [okP, a, b, c, d, e] at h

end Go.Proofs.YtjpabpkfdahdhaaGreat

namespace Go.Proofs.YtjpabpkfdahdhaaGreat
set_option linter.unusedSimpArgs false
set_option linter.unusedVariables false
open Go.RowKit

/-- What the program's StoreOk answers. -/
def storeI (p : Pt) (rs : List Ro) : Bool := okP p && !(decide (rs.length = 0)) && decide (rs.length ≤ 16) && allTo (fun i => ordI p rs i && rowI p (rth rs i)) rs.length

set_option maxRecDepth 20000 in
set_option maxHeartbeats 6400000 in
theorem StoreOkI_any (p : Pt) (rs : List Ro) (w : World) (B : Nat) (v : Value) (ra : Option Addr) (rc : Nat) (hP : PRep w (· < B) p v) (hRs : RoReps w (· < B) rs ra) (hrc : rs.length ≤ rc) (hB : B ≤ w.heap.size) (hz : szP p ≤ 1048576) :
    Calls Tryz.prog 9 #[v, .slice ra rs.length rc] w fun e w' => e = .returned (.bool (storeI p rs)) ∧ Below w.heap.size w w' := by
  have hP' := hP
  have h48 := hRs.1
  obtain ⟨name, types⟩ := p
  obtain ⟨ta, tc, rfl, -⟩ := hP
  simp only at hP'
  have hC := fun W (h : Below w.heap.size w W) => checkPart_any ⟨name, types⟩ W B _ (hP'.under (h.mono hB)) (by have := h.size; omega) hz
  have HS : Hid (storeI ⟨name, types⟩ rs = (okP ⟨name, types⟩ && !(decide (rs.length = 0)) && decide (rs.length ≤ 16) && allTo (fun i => ordI ⟨name, types⟩ rs i && rowI ⟨name, types⟩ (rth rs i)) rs.length)) := rfl
  cases ho : okP ⟨name, types⟩
  · rcases partErr_bad _ ho with ⟨x, hx⟩ | ⟨i, x, hx⟩ <;> rw [hx] at hC
    all_goals
      go_enter Tryz.func9, Tryz.ntmps9
      go_wp2_with (go_at_call 20; refine (hC _ (below_box _ _)).mono ?_; rintro e w1 ⟨rfl, hb1⟩)
      go_ret
      exact ⟨ret_bool (by rw [HS.out, ho]; rfl), (below_box w _).trans (hb1.mono (by simp))⟩
  rw [partErr_ok _ ho] at hC
  by_cases h0 : rs.length = 0
  · have g0 : ((rs.length : Int) == 0) = true := by rw [h0]; rfl
    go_enter Tryz.func9, Tryz.ntmps9
    go_wp2_with (go_at_call 20; refine (hC _ (below_box _ _)).mono ?_; rintro e w1 ⟨rfl, hb1⟩)
    go_ret
    exact ⟨ret_bool (by rw [HS.out, ho, decide_eq_true h0]; rfl), (below_box w _).trans (hb1.mono (by simp))⟩
  have g0 : ((rs.length : Int) == 0) = false := by rw [beq_eq_false_iff_ne]; omega
  by_cases h16 : 16 < rs.length
  · have g16 : decide ((16 : Int) < (rs.length : Int)) = true := by simp; omega
    go_enter Tryz.func9, Tryz.ntmps9
    go_wp2_with (go_at_call 20; refine (hC _ (below_box _ _)).mono ?_; rintro e w1 ⟨rfl, hb1⟩)
    go_ret
    exact ⟨ret_bool (by rw [HS.out, decide_eq_false (by omega : ¬ rs.length ≤ 16)]; simp), (below_box w _).trans (hb1.mono (by simp))⟩
  have g16 : decide ((16 : Int) < (rs.length : Int)) = false := by simp; omega
  have HSR : Hid (storeI ⟨name, types⟩ rs = allTo (fun i => ordI ⟨name, types⟩ rs i && rowI ⟨name, types⟩ (rth rs i)) rs.length) := by
    show _ = _
    rw [HS.out, ho, decide_eq_false h0, decide_eq_true (by omega : rs.length ≤ 16)]; rfl
  obtain ⟨X, hXe⟩ : ∃ X, X = (w.alloc (.cells #[.string name, .slice ta types.length tc] 31)) := ⟨_, rfl⟩
  have TB : ∀ W, Below (w.heap.size + 1) X W → W.cell? ⟨w.heap.size, 0, none⟩ = some (.string name) ∧ W.cell? ⟨w.heap.size, 1, none⟩ = some (.slice ta types.length tc) ∧ Below w.heap.size w W ∧ w.heap.size < W.heap.size := fun W h => by
    have hz := h.size
    rw [hXe] at h
    have hz2 : X.heap.size = w.heap.size + 1 := by rw [hXe]; simp
    exact ⟨(h.cell (p := ⟨w.heap.size, 0, none⟩) (by show w.heap.size < _; omega)).trans (box_new _ _ 0 (by simp)), (h.cell (p := ⟨w.heap.size, 1, none⟩) (by show w.heap.size < _; omega)).trans (box_new _ _ 1 (by simp)), (below_box w _).trans (h.mono (by omega)), by omega⟩
  have hT0 : Below (w.heap.size + 1) X (w.alloc (.cells #[.string name, .slice ta types.length tc] 31)) := by rw [hXe]; exact Below.refl _ _
  clear hXe
  go_enter Tryz.func9, Tryz.ntmps9
  go_wp2_with (
    go_at_call 20
    refine (hC _ (below_box _ _)).mono ?_
    rintro e w1 ⟨rfl, hb1⟩
    have hT1 := hT0.trans (hb1.mono (by simp)))
  clear hb1 hT0 hC g0 g16
  go_loopw [22] (fun i wr => ∃ k : Nat, k ≤ rs.length ∧ i = .int .i64 k ∧ Below (w.heap.size + 1) X wr ∧ allTo (fun i => ordI ⟨name, types⟩ rs i && rowI ⟨name, types⟩ (rth rs i)) k = true) (fun i _ => rs.length - (intOf i).toNat)
  case atStart => exact ⟨0, Nat.zero_le _, rfl, hT1, rfl⟩
  case round =>
    clear hT1
    obtain ⟨k, hk, rfl, hT, hp⟩ := hrel
    obtain ⟨w0, rfl⟩ : ∃ x, x = wr := ⟨wr, rfl⟩
    have HP : Hid (allTo (fun i => ordI ⟨name, types⟩ rs i && rowI ⟨name, types⟩ (rth rs i)) k = true) := hp
    clear hp
    obtain ⟨p0, p1, hww, hz0⟩ := TB w0 hT
    by_cases hlt : k < rs.length
    · have hki : (k : Int) < (rs.length : Int) := by omega
      have hki2 : (k : Int) ≤ (rs.length : Int) := by omega
      have hkrc : (k : Int) ≤ (rc : Int) := by omega
      have hkrc2 : k ≤ rc := by omega
      obtain ⟨b, off, ca, cc, rfl, hRo, hcs⟩ := hRs.at hB k hlt
      obtain ⟨c0, c1, c2⟩ := hcs w0 hww
      have bR := below_box w0 (.cells #[.string (rth rs k).type, .int .i64 (rth rs k).id, .slice ca (rth rs k).cells.length cc] 49)
      have HT2 := hT.trans (bR.mono (by omega))
      obtain ⟨p0', p1', hww2, hz2⟩ := TB _ HT2
      have KR := heap_alloc_new w0 (.cells #[.string (rth rs k).type, .int .i64 (rth rs k).id, .slice ca (rth rs k).cells.length cc] 49)
      have RB : ∀ W, Below (w0.alloc (.cells #[.string (rth rs k).type, .int .i64 (rth rs k).id, .slice ca (rth rs k).cells.length cc] 49)).heap.size (w0.alloc (.cells #[.string (rth rs k).type, .int .i64 (rth rs k).id, .slice ca (rth rs k).cells.length cc] 49)) W → W.cell? ⟨w0.heap.size, 0, none⟩ = some (.string (rth rs k).type) ∧ W.cell? ⟨w0.heap.size, 1, none⟩ = some (.int .i64 (rth rs k).id) ∧ W.cell? ⟨w0.heap.size, 2, none⟩ = some (.slice ca (rth rs k).cells.length cc) ∧ Below (w.heap.size + 1) X W := fun W h => by
        have K := (h.block _ (by simp)).trans KR
        exact ⟨(box_at K 0 (by simp)).1, (box_at K 1 (by simp)).1, (box_at K 2 (by simp)).1, HT2.trans (h.mono (by simp; omega))⟩
      have hIO := isRowInOrder_any ⟨name, types⟩ rs k (w0.alloc (.cells #[.string (rth rs k).type, .int .i64 (rth rs k).id, .slice ca (rth rs k).cells.length cc] 49)).drew B _ _ _ rc (hP'.under (hww2.drew.mono hB)) (hRs.under (hww2.drew.mono hB)) hlt (hRo.under (hww2.drew.mono hB)) (by simp; omega)
      have hRK := fun W (hb : Below w.heap.size w W) => isRowOk_any ⟨name, types⟩ (rth rs k) W B _ _ (hP'.under (hb.mono hB)) (hRo.under (hb.mono hB)) (by have := hb.size; omega) hz
      have HF : Hid ((ordI ⟨name, types⟩ rs k && rowI ⟨name, types⟩ (rth rs k)) = false → allTo (fun i => ordI ⟨name, types⟩ rs i && rowI ⟨name, types⟩ (rth rs i)) rs.length = false) := allTo_false (fun i => ordI ⟨name, types⟩ rs i && rowI ⟨name, types⟩ (rth rs i)) _ k hlt
      have HN : Hid ((ordI ⟨name, types⟩ rs k && rowI ⟨name, types⟩ (rth rs k)) = true → allTo (fun i => ordI ⟨name, types⟩ rs i && rowI ⟨name, types⟩ (rth rs i)) (k + 1) = true) := fun h => by rw [allTo_succ, HP.out]; exact h
      obtain ⟨q0, q1, q2, -⟩ := RB _ (Below.refl _ _)
      clear hcs
      cases x1 : ordI ⟨name, types⟩ rs k
      · rw [x1] at hIO HF
        go_wp2_with fail
        refine wp_region_held_drew (S := fun w' => w'.cell? ⟨w.heap.size, 0, none⟩ = some (.string name) ∧ w'.cell? ⟨w.heap.size, 1, none⟩ = some (.slice ta types.length tc) ∧ w'.cell? ⟨w0.heap.size, 0, none⟩ = some (.string (rth rs k).type) ∧ w'.cell? ⟨w0.heap.size, 1, none⟩ = some (.int .i64 (rth rs k).id) ∧ w'.cell? ⟨w0.heap.size, 2, none⟩ = some (.slice ca (rth rs k).cells.length cc)) (by kernel_rfl) ⟨p0', p1', q0, q1, q2⟩ (fun hHeld => ?_)
        refine wpAnyH_take (i := 0) (oi := { dst := some 27, op := Op.load 31 (Operand.tmp 2), type := 31, pos := "l4_store.go:31", after := #[], guard := none }) (v := ?_) rfl (by kernel_rfl) (by kernel_rfl) (by kernel_rfl) (fun _ _ _ h => h) (Or.inl ⟨by rfl, ?_⟩) hHeld ?_
        rotate_left
        · intro w' hSw
          (try dsimp only at hSw)
          go_simp
          try with_reducible rfl
        try simp only [Act.put, List.setIfInBounds_toArray, List.set_cons_zero, List.set_cons_succ]
        refine wpAnyH_take (i := 1) (oi := { dst := some 28, op := Op.move (Operand.tmp 1), type := 33, pos := "l4_store.go:31", after := #[], guard := none }) (v := ?_) rfl (by kernel_rfl) (by kernel_rfl) (by kernel_rfl) (fun _ _ _ h => h) (Or.inl ⟨by rfl, ?_⟩) hHeld ?_
        rotate_left
        · intro w' hSw
          (try dsimp only at hSw)
          go_simp
          try with_reducible rfl
        try simp only [Act.put, List.setIfInBounds_toArray, List.set_cons_zero, List.set_cons_succ]
        refine wpAnyH_take (i := 2) (oi := { dst := some 29, op := Op.move (Operand.tmp 5), type := 3, pos := "l4_store.go:31", after := #[], guard := none }) (v := ?_) rfl (by kernel_rfl) (by kernel_rfl) (by kernel_rfl) (fun _ _ _ h => h) (Or.inl ⟨by rfl, ?_⟩) hHeld ?_
        rotate_left
        · intro w' hSw
          (try dsimp only at hSw)
          go_simp
          try with_reducible rfl
        try simp only [Act.put, List.setIfInBounds_toArray, List.set_cons_zero, List.set_cons_succ]
        refine wpAnyH_take (i := 3) (oi := { dst := some 30, op := Op.slice 33 (Operand.tmp 28) none (some (Operand.tmp 29)) none, type := 33, pos := "l4_store.go:31", after := #[{ on := 1, ground := Ground.data }, { on := 2, ground := Ground.data }], guard := none }) (v := ?_) rfl (by kernel_rfl) (by kernel_rfl) (by kernel_rfl) (fun _ _ _ h => h) (Or.inl ⟨by rfl, ?_⟩) hHeld ?_
        rotate_left
        · intro w' hSw
          (try dsimp only at hSw)
          go_simp
          try with_reducible rfl
        try simp only [Act.put, List.setIfInBounds_toArray, List.set_cons_zero, List.set_cons_succ]
        refine wpAnyH_take (i := 4) (oi := { dst := some 31, op := Op.load 49 (Operand.tmp 6), type := 49, pos := "l4_store.go:31", after := #[], guard := none }) (v := ?_) rfl (by kernel_rfl) (by kernel_rfl) (by kernel_rfl) (fun _ _ _ h => h) (Or.inl ⟨by rfl, ?_⟩) hHeld ?_
        rotate_left
        · intro w' hSw
          (try dsimp only at hSw)
          go_simp
          try with_reducible rfl
        try simp only [Act.put, List.setIfInBounds_toArray, List.set_cons_zero, List.set_cons_succ]
        refine wpAnyH_ready (rs := [5]) (by kernel_rfl) (by simp) ?_
        refine AllReadyH.cons (o := { dst := some 32, op := Op.call { callee := Callee.value (Operand.func 21), args := #[Operand.tmp 27, Operand.tmp 30, Operand.tmp 31], argTypes := #[31, 33, 49] }, type := 4, pos := "l4_store.go:31", after := #[{ on := 0, ground := Ground.data }, { on := 3, ground := Ground.data }, { on := 4, ground := Ground.data }], guard := none }) rfl (fun K hK => ?_) AllReadyH.nil
        go_simp
        refine (hIO).mono ?_
        rintro e w7 ⟨rfl, hb7⟩
        obtain ⟨a0, a1, a2, hT7⟩ := RB w7 (below_undrew hb7)
        obtain ⟨b0, b1, hww7, hz7⟩ := TB w7 hT7
        refine hK.out _ _ ⟨b0, b1, a0, a1, a2⟩ (fun hHeld => ?_)
        clear hK K
        try simp only [Act.put, List.setIfInBounds_toArray, List.set_cons_zero, List.set_cons_succ]
        refine wpAnyH_take (i := 6) (oi := { dst := some 33, op := Op.unOp UnOp.not 4 (Operand.tmp 32), type := 4, pos := "l4_store.go:31", after := #[{ on := 5, ground := Ground.data }], guard := none }) (v := ?_) rfl (by kernel_rfl) (by kernel_rfl) (by kernel_rfl) (fun _ _ _ h => h) (Or.inl ⟨by rfl, ?_⟩) hHeld ?_
        rotate_left
        · intro w' hSw
          (try dsimp only at hSw)
          go_simp
          try with_reducible rfl
        try simp only [Act.put, List.setIfInBounds_toArray, List.set_cons_zero, List.set_cons_succ]
        refine wpAnyH_take (i := 7) (oi := { dst := some 34, op := Op.move (Operand.tmp 33), type := 4, pos := "l4_store.go:31", after := #[{ on := 6, ground := Ground.data }, { on := 5, ground := Ground.chain }], guard := none }) (v := ?_) rfl (by kernel_rfl) (by kernel_rfl) (by kernel_rfl) (fun _ _ _ h => h) (Or.inl ⟨by rfl, ?_⟩) hHeld ?_
        rotate_left
        · intro w' hSw
          (try dsimp only at hSw)
          go_simp
          try with_reducible rfl
        try simp only [Act.put, List.setIfInBounds_toArray, List.set_cons_zero, List.set_cons_succ]
        refine wpAnyH_take (i := 8) (oi := { dst := some 35, op := Op.load 31 (Operand.tmp 2), type := 31, pos := "l4_store.go:31", after := #[{ on := 7, ground := Ground.guard }], guard := some (7, false) }) (v := undef) rfl (by kernel_rfl) (by kernel_rfl) (by kernel_rfl) (fun _ _ _ h => h) (Or.inr ⟨by rfl, rfl⟩) hHeld ?_
        try simp only [Act.put, List.setIfInBounds_toArray, List.set_cons_zero, List.set_cons_succ]
        refine wpAnyH_take (i := 9) (oi := { dst := some 36, op := Op.load 49 (Operand.tmp 6), type := 49, pos := "l4_store.go:31", after := #[{ on := 7, ground := Ground.guard }], guard := some (7, false) }) (v := undef) rfl (by kernel_rfl) (by kernel_rfl) (by kernel_rfl) (fun _ _ _ h => h) (Or.inr ⟨by rfl, rfl⟩) hHeld ?_
        try simp only [Act.put, List.setIfInBounds_toArray, List.set_cons_zero, List.set_cons_succ]
        refine wpAnyH_take (i := 10) (oi := { dst := some 37, op := Op.call { callee := Callee.value (Operand.func 22), args := #[Operand.tmp 35, Operand.tmp 36], argTypes := #[31, 49] }, type := 4, pos := "l4_store.go:31", after := #[{ on := 8, ground := Ground.data }, { on := 9, ground := Ground.data }, { on := 7, ground := Ground.chain }, { on := 7, ground := Ground.guard }], guard := some (7, false) }) (v := undef) rfl (by kernel_rfl) (by kernel_rfl) (by kernel_rfl) (fun _ _ _ h => h) (Or.inr ⟨by rfl, rfl⟩) hHeld ?_
        try simp only [Act.put, List.setIfInBounds_toArray, List.set_cons_zero, List.set_cons_succ]
        refine wpAnyH_take (i := 11) (oi := { dst := some 38, op := Op.unOp UnOp.not 4 (Operand.tmp 37), type := 4, pos := "l4_store.go:31", after := #[{ on := 10, ground := Ground.data }, { on := 7, ground := Ground.guard }], guard := some (7, false) }) (v := undef) rfl (by kernel_rfl) (by kernel_rfl) (by kernel_rfl) (fun _ _ _ h => h) (Or.inr ⟨by rfl, rfl⟩) hHeld ?_
        try simp only [Act.put, List.setIfInBounds_toArray, List.set_cons_zero, List.set_cons_succ]
        refine wpAnyH_take (i := 12) (oi := { dst := some 39, op := Op.pick (Operand.tmp 34) (Operand.const (Value.bool true)) (Operand.tmp 38), type := 4, pos := "l4_store.go:31", after := #[{ on := 7, ground := Ground.data }, { on := 11, ground := Ground.data }], guard := none }) (v := ?_) rfl (by kernel_rfl) (by kernel_rfl) (by kernel_rfl) (fun _ _ _ h => h) (Or.inl ⟨by rfl, ?_⟩) hHeld ?_
        rotate_left
        · intro w' hSw
          (try dsimp only at hSw)
          go_simp
          try with_reducible rfl
        try simp only [Act.put, List.setIfInBounds_toArray, List.set_cons_zero, List.set_cons_succ]
        refine wpAnyH_done (by kernel_rfl) ?_ _
        go_wp2_with fail
        go_ret
        exact ⟨ret_bool (by rw [HSR.out, HF.out (by rfl)]), by first | exact hww7 | exact hww7.drew | exact below_drews hww7 _⟩
      rw [x1] at hIO HF HN
      have hfin : ∀ W r, Hid (Below (w0.alloc (.cells #[.string (rth rs k).type, .int .i64 (rth rs k).id, .slice ca (rth rs k).cells.length cc] 49)).heap.size (w0.alloc (.cells #[.string (rth rs k).type, .int .i64 (rth rs k).id, .slice ca (rth rs k).cells.length cc] 49)) W ∧ r = rowI ⟨name, types⟩ (rth rs k)) → (r = true → allTo (fun i => ordI ⟨name, types⟩ rs i && rowI ⟨name, types⟩ (rth rs i)) (k + 1) = true) ∧ (r = false → storeI ⟨name, types⟩ rs = false) := fun W r h => ⟨fun e => HN.out (by rw [← h.out.2, e]; rfl), fun e => by rw [HSR.out]; exact HF.out (by rw [← h.out.2, e]; rfl)⟩
      generalize rowI ⟨name, types⟩ (rth rs k) = rr at hRK hfin
      go_wp2_with fail
      go_cut [39] (fun r wx => r = .bool (!rr) ∧ Below (w0.alloc (.cells #[.string (rth rs k).type, .int .i64 (rth rs k).id, .slice ca (rth rs k).cells.length cc] 49)).heap.size (w0.alloc (.cells #[.string (rth rs k).type, .int .i64 (rth rs k).id, .slice ca (rth rs k).cells.length cc] 49)) wx)
      case first =>
        go_region_held3 (fun w' => w'.cell? ⟨w.heap.size, 0, none⟩ = some (.string name) ∧ w'.cell? ⟨w.heap.size, 1, none⟩ = some (.slice ta types.length tc) ∧ w'.cell? ⟨w0.heap.size, 0, none⟩ = some (.string (rth rs k).type) ∧ w'.cell? ⟨w0.heap.size, 1, none⟩ = some (.int .i64 (rth rs k).id) ∧ w'.cell? ⟨w0.heap.size, 2, none⟩ = some (.slice ca (rth rs k).cells.length cc)) (go_keep)
          (first
            | (
              go_at_call 21
              refine hIO.mono ?_
              rintro e w7 ⟨rfl, hb7⟩
              have hb7' := below_undrew hb7
              obtain ⟨a0, a1, a2, hT7⟩ := RB w7 hb7'
              obtain ⟨b0, b1, hww7, hz7⟩ := TB w7 hT7)
            | (
              go_at_call 22
              refine (hRK w7 hww7).mono ?_
              rintro e w8 ⟨rfl, hb8⟩
              have hb8' := hb7'.trans (hb8.mono hb7'.size)
              obtain ⟨a0', a1', a2', hT8⟩ := RB w8 hb8'
              obtain ⟨b0', b1', hww8, hz8⟩ := TB w8 hT8))
        all_goals
          go_wp2_with fail
          go_meet
          case rel => exact ⟨rfl, hb8'⟩
      case rest =>
      obtain ⟨rfl, hb8⟩ := hcut
      obtain ⟨w8, rfl⟩ : ∃ x, x = wc := ⟨wc, rfl⟩
      obtain ⟨-, -, -, hT8⟩ := RB w8 hb8
      obtain ⟨-, -, hww8, -⟩ := TB w8 hT8
      have hfi := hfin w8 rr ⟨hb8, rfl⟩
      have HFI : Hid ((rr = true → allTo (fun i => ordI ⟨name, types⟩ rs i && rowI ⟨name, types⟩ (rth rs i)) (k + 1) = true) ∧ (rr = false → storeI ⟨name, types⟩ rs = false)) := hfi
      clear hfi hfin hb8 q0 q1 q2 p0' p1'
      cases rr
      · go_wp2_with fail
        go_ret
        exact ⟨ret_bool (HFI.out.2 (by simp)).symm, hww8⟩
      · go_wp2_with fail
        go_roundw
        case rel => exact ⟨k + 1, by omega, by go_num, hT8, HFI.out.1 (by simp)⟩
        case measure => simp [intOf]; omega
    · go_wp2_with fail
      go_ret
      have e : k = rs.length := by omega
      exact ⟨ret_bool (by rw [HSR.out, ← e, HP.out]), hww⟩
end Go.Proofs.YtjpabpkfdahdhaaGreat
