import Derived.Test.YtmemijccbmnaaaaGreatJ5
import Derived.Test.YtmemijccbmnaaaaGreatIWrite
import Derived.Deep.RegionHeld3
import Derived.Deep.DeepCutAuto
import Derived.Test.YtmemijccbmnaaaaGreatJ4
namespace Go.Proofs.YtmemijccbmnaaaaGreat
set_option linter.unusedSimpArgs false
set_option linter.unusedVariables false
open Go.RowKit

/-- What the program's StoreOk answers. -/
def storeI (p : Pt) (rs : List Ro) : Bool := okP p && !(decide (rs.length = 0)) && decide (rs.length ≤ 16) && allTo (fun i => ordI p rs i && rowI p (rth rs i)) rs.length

set_option maxRecDepth 20000 in
set_option maxHeartbeats 6400000 in
theorem StoreOkI_any (p : Pt) (rs : List Ro) (w : World) (B : Nat) (v : Value) (ra : Option Addr) (rc : Nat) (hP : PRep w (· < B) p v) (hRs : RoReps w (· < B) rs ra) (hrc : rs.length ≤ rc) (hB : B ≤ w.heap.size) (hz : szP p ≤ 1048576) :
    Calls Tryz.prog 29 #[v, .slice ra rs.length rc] w fun e w' => e = .returned (.bool (storeI p rs)) ∧ Below w.heap.size w w' := by
  have hP' := hP
  have h48 := hRs.1
  obtain ⟨name, types⟩ := p
  obtain ⟨ta, tc, rfl, -⟩ := hP
  simp only at hP'
  have hC := fun W (h : Below w.heap.size w W) => checkPart_any ⟨name, types⟩ W B _ (hP'.under (h.mono hB)) (by have := h.size; omega) hz
  have HS : Hid (storeI ⟨name, types⟩ rs = (okP ⟨name, types⟩ && !(decide (rs.length = 0)) && decide (rs.length ≤ 16) && allTo (fun i => ordI ⟨name, types⟩ rs i && rowI ⟨name, types⟩ (rth rs i)) rs.length)) := rfl
  cases ho : okP ⟨name, types⟩
  · rcases partErr_bad _ ho with ⟨x, hx⟩ | ⟨i, x, hx⟩ <;> rw [hx] at hC
    all_goals
      go_enter Tryz.func29, Tryz.ntmps29
      go_wp2_with (go_at_call 56; refine (hC _ (below_box _ _)).mono ?_; rintro e w1 ⟨rfl, hb1⟩)
      go_ret
      exact ⟨ret_bool (by rw [HS.out, ho]; rfl), (below_box w _).trans (hb1.mono (by simp))⟩
  rw [partErr_ok _ ho] at hC
  by_cases h0 : rs.length = 0
  · have g0 : ((rs.length : Int) == 0) = true := by rw [h0]; rfl
    go_enter Tryz.func29, Tryz.ntmps29
    go_wp2_with (go_at_call 56; refine (hC _ (below_box _ _)).mono ?_; rintro e w1 ⟨rfl, hb1⟩)
    go_ret
    exact ⟨ret_bool (by rw [HS.out, ho, decide_eq_true h0]; rfl), (below_box w _).trans (hb1.mono (by simp))⟩
  have g0 : ((rs.length : Int) == 0) = false := by rw [beq_eq_false_iff_ne]; omega
  by_cases h16 : 16 < rs.length
  · have g16 : decide ((16 : Int) < (rs.length : Int)) = true := by simp; omega
    go_enter Tryz.func29, Tryz.ntmps29
    go_wp2_with (go_at_call 56; refine (hC _ (below_box _ _)).mono ?_; rintro e w1 ⟨rfl, hb1⟩)
    go_ret
    exact ⟨ret_bool (by rw [HS.out, decide_eq_false (by omega : ¬ rs.length ≤ 16)]; simp), (below_box w _).trans (hb1.mono (by simp))⟩
  have g16 : decide ((16 : Int) < (rs.length : Int)) = false := by simp; omega
  have HSR : Hid (storeI ⟨name, types⟩ rs = allTo (fun i => ordI ⟨name, types⟩ rs i && rowI ⟨name, types⟩ (rth rs i)) rs.length) := by
    show _ = _
    rw [HS.out, ho, decide_eq_false h0, decide_eq_true (by omega : rs.length ≤ 16)]; rfl
  obtain ⟨X, hXe⟩ : ∃ X, X = (w.alloc (.cells #[.string name, .slice ta types.length tc] 40)) := ⟨_, rfl⟩
  have TB : ∀ W, Below (w.heap.size + 1) X W → W.cell? ⟨w.heap.size, 0, none⟩ = some (.string name) ∧ W.cell? ⟨w.heap.size, 1, none⟩ = some (.slice ta types.length tc) ∧ Below w.heap.size w W ∧ w.heap.size < W.heap.size := fun W h => by
    have hz := h.size
    rw [hXe] at h
    have hz2 : X.heap.size = w.heap.size + 1 := by rw [hXe]; simp
    exact ⟨(h.cell (p := ⟨w.heap.size, 0, none⟩) (by show w.heap.size < _; omega)).trans (box_new _ _ 0 (by simp)), (h.cell (p := ⟨w.heap.size, 1, none⟩) (by show w.heap.size < _; omega)).trans (box_new _ _ 1 (by simp)), (below_box w _).trans (h.mono (by omega)), by omega⟩
  have hT0 : Below (w.heap.size + 1) X (w.alloc (.cells #[.string name, .slice ta types.length tc] 40)) := by rw [hXe]; exact Below.refl _ _
  clear hXe
  go_enter Tryz.func29, Tryz.ntmps29
  go_wp2_with (
    go_at_call 56
    refine (hC _ (below_box _ _)).mono ?_
    rintro e w1 ⟨rfl, hb1⟩
    have hT1 := hT0.trans (hb1.mono (by simp)))
  clear hb1 hT0 hC g0 g16
  go_loopw [22] (fun i wr => ∃ k : Nat, k ≤ rs.length ∧ i = .int .i64 k ∧ Below (w.heap.size + 1) X wr ∧ allTo (fun i => ordI ⟨name, types⟩ rs i && rowI ⟨name, types⟩ (rth rs i)) k = true) (fun i _ => rs.length - (intOf i).toNat)
  case atStart => exact ⟨0, Nat.zero_le _, rfl, hT1, rfl⟩
  case round =>
    clear hT1
    obtain ⟨k, hk, rfl, hT, hp⟩ := hrel
    obtain ⟨w0, rfl⟩ : ∃ x, x = wr := ⟨wr, rfl⟩
    have HP : Hid (allTo (fun i => ordI ⟨name, types⟩ rs i && rowI ⟨name, types⟩ (rth rs i)) k = true) := hp
    clear hp
    obtain ⟨p0, p1, hww, hz0⟩ := TB w0 hT
    by_cases hlt : k < rs.length
    · have hki : (k : Int) < (rs.length : Int) := by omega
      have hki2 : (k : Int) ≤ (rs.length : Int) := by omega
      have hkrc : (k : Int) ≤ (rc : Int) := by omega
      have hkrc2 : k ≤ rc := by omega
      obtain ⟨b, off, ca, cc, rfl, hRo, hcs⟩ := hRs.at hB k hlt
      obtain ⟨c0, c1, c2⟩ := hcs w0 hww
      have bR := below_box w0 (.cells #[.string (rth rs k).type, .int .i64 (rth rs k).id, .slice ca (rth rs k).cells.length cc] 69)
      have HT2 := hT.trans (bR.mono (by omega))
      obtain ⟨p0', p1', hww2, hz2⟩ := TB _ HT2
      have KR := heap_alloc_new w0 (.cells #[.string (rth rs k).type, .int .i64 (rth rs k).id, .slice ca (rth rs k).cells.length cc] 69)
      have RB : ∀ W, Below (w0.alloc (.cells #[.string (rth rs k).type, .int .i64 (rth rs k).id, .slice ca (rth rs k).cells.length cc] 69)).heap.size (w0.alloc (.cells #[.string (rth rs k).type, .int .i64 (rth rs k).id, .slice ca (rth rs k).cells.length cc] 69)) W → W.cell? ⟨w0.heap.size, 0, none⟩ = some (.string (rth rs k).type) ∧ W.cell? ⟨w0.heap.size, 1, none⟩ = some (.int .i64 (rth rs k).id) ∧ W.cell? ⟨w0.heap.size, 2, none⟩ = some (.slice ca (rth rs k).cells.length cc) ∧ Below (w.heap.size + 1) X W := fun W h => by
        have K := (h.block _ (by simp)).trans KR
        exact ⟨(box_at K 0 (by simp)).1, (box_at K 1 (by simp)).1, (box_at K 2 (by simp)).1, HT2.trans (h.mono (by simp; omega))⟩
      have hIO := isRowInOrder_any ⟨name, types⟩ rs k (w0.alloc (.cells #[.string (rth rs k).type, .int .i64 (rth rs k).id, .slice ca (rth rs k).cells.length cc] 69)).drew B _ _ _ rc (hP'.under (hww2.drew.mono hB)) (hRs.under (hww2.drew.mono hB)) hlt (hRo.under (hww2.drew.mono hB)) (by simp; omega)
      have hRK := fun W (hb : Below w.heap.size w W) => isRowOk_any ⟨name, types⟩ (rth rs k) W B _ _ (hP'.under (hb.mono hB)) (hRo.under (hb.mono hB)) (by have := hb.size; omega) hz
      have HF : Hid ((ordI ⟨name, types⟩ rs k && rowI ⟨name, types⟩ (rth rs k)) = false → allTo (fun i => ordI ⟨name, types⟩ rs i && rowI ⟨name, types⟩ (rth rs i)) rs.length = false) := allTo_false (fun i => ordI ⟨name, types⟩ rs i && rowI ⟨name, types⟩ (rth rs i)) _ k hlt
      have HN : Hid ((ordI ⟨name, types⟩ rs k && rowI ⟨name, types⟩ (rth rs k)) = true → allTo (fun i => ordI ⟨name, types⟩ rs i && rowI ⟨name, types⟩ (rth rs i)) (k + 1) = true) := fun h => by rw [allTo_succ, HP.out]; exact h
      obtain ⟨q0, q1, q2, -⟩ := RB _ (Below.refl _ _)
      clear hcs
      cases x1 : ordI ⟨name, types⟩ rs k
      · rw [x1] at hIO HF
        go_wp2_with fail
        refine wp_region_held_drew (S := fun w' => w'.cell? ⟨w.heap.size, 0, none⟩ = some (.string name) ∧ w'.cell? ⟨w.heap.size, 1, none⟩ = some (.slice ta types.length tc) ∧ w'.cell? ⟨w0.heap.size, 0, none⟩ = some (.string (rth rs k).type) ∧ w'.cell? ⟨w0.heap.size, 1, none⟩ = some (.int .i64 (rth rs k).id) ∧ w'.cell? ⟨w0.heap.size, 2, none⟩ = some (.slice ca (rth rs k).cells.length cc)) (by kernel_rfl) ⟨p0', p1', q0, q1, q2⟩ (fun hHeld => ?_)
        refine wpAnyH_take (i := 0) (oi := { dst := some 27, op := Op.load 40 (Operand.tmp 2), type := 40, pos := "l4_store.go:31", after := #[], guard := none }) (v := ?_) rfl (by kernel_rfl) (by kernel_rfl) (by kernel_rfl) (fun _ _ _ h => h) (Or.inl ⟨by rfl, ?_⟩) hHeld ?_
        rotate_left
        · intro w' hSw
          (try dsimp only at hSw)
          go_simp
          try with_reducible rfl
        try simp only [Act.put, List.setIfInBounds_toArray, List.set_cons_zero, List.set_cons_succ]
        refine wpAnyH_take (i := 1) (oi := { dst := some 28, op := Op.move (Operand.tmp 1), type := 35, pos := "l4_store.go:31", after := #[], guard := none }) (v := ?_) rfl (by kernel_rfl) (by kernel_rfl) (by kernel_rfl) (fun _ _ _ h => h) (Or.inl ⟨by rfl, ?_⟩) hHeld ?_
        rotate_left
        · intro w' hSw
          (try dsimp only at hSw)
          go_simp
          try with_reducible rfl
        try simp only [Act.put, List.setIfInBounds_toArray, List.set_cons_zero, List.set_cons_succ]
        refine wpAnyH_take (i := 2) (oi := { dst := some 29, op := Op.move (Operand.tmp 5), type := 3, pos := "l4_store.go:31", after := #[], guard := none }) (v := ?_) rfl (by kernel_rfl) (by kernel_rfl) (by kernel_rfl) (fun _ _ _ h => h) (Or.inl ⟨by rfl, ?_⟩) hHeld ?_
        rotate_left
        · intro w' hSw
          (try dsimp only at hSw)
          go_simp
          try with_reducible rfl
        try simp only [Act.put, List.setIfInBounds_toArray, List.set_cons_zero, List.set_cons_succ]
        refine wpAnyH_take (i := 3) (oi := { dst := some 30, op := Op.slice 35 (Operand.tmp 28) none (some (Operand.tmp 29)) none, type := 35, pos := "l4_store.go:31", after := #[{ on := 1, ground := Ground.data }, { on := 2, ground := Ground.data }], guard := none }) (v := ?_) rfl (by kernel_rfl) (by kernel_rfl) (by kernel_rfl) (fun _ _ _ h => h) (Or.inl ⟨by rfl, ?_⟩) hHeld ?_
        rotate_left
        · intro w' hSw
          (try dsimp only at hSw)
          go_simp
          try with_reducible rfl
        try simp only [Act.put, List.setIfInBounds_toArray, List.set_cons_zero, List.set_cons_succ]
        refine wpAnyH_take (i := 4) (oi := { dst := some 31, op := Op.load 69 (Operand.tmp 6), type := 69, pos := "l4_store.go:31", after := #[], guard := none }) (v := ?_) rfl (by kernel_rfl) (by kernel_rfl) (by kernel_rfl) (fun _ _ _ h => h) (Or.inl ⟨by rfl, ?_⟩) hHeld ?_
        rotate_left
        · intro w' hSw
          (try dsimp only at hSw)
          go_simp
          try with_reducible rfl
        try simp only [Act.put, List.setIfInBounds_toArray, List.set_cons_zero, List.set_cons_succ]
        refine wpAnyH_ready (rs := [5]) (by kernel_rfl) (by simp) ?_
        refine AllReadyH.cons (o := { dst := some 32, op := Op.call { callee := Callee.value (Operand.func 57), args := #[Operand.tmp 27, Operand.tmp 30, Operand.tmp 31], argTypes := #[40, 35, 69] }, type := 4, pos := "l4_store.go:31", after := #[{ on := 0, ground := Ground.data }, { on := 3, ground := Ground.data }, { on := 4, ground := Ground.data }], guard := none }) rfl (fun K hK => ?_) AllReadyH.nil
        go_simp
        refine (hIO).mono ?_
        rintro e w7 ⟨rfl, hb7⟩
        obtain ⟨a0, a1, a2, hT7⟩ := RB w7 (below_undrew hb7)
        obtain ⟨b0, b1, hww7, hz7⟩ := TB w7 hT7
        refine hK.out _ _ ⟨b0, b1, a0, a1, a2⟩ (fun hHeld => ?_)
        clear hK K
        try simp only [Act.put, List.setIfInBounds_toArray, List.set_cons_zero, List.set_cons_succ]
        refine wpAnyH_take (i := 6) (oi := { dst := some 33, op := Op.unOp UnOp.not 4 (Operand.tmp 32), type := 4, pos := "l4_store.go:31", after := #[{ on := 5, ground := Ground.data }], guard := none }) (v := ?_) rfl (by kernel_rfl) (by kernel_rfl) (by kernel_rfl) (fun _ _ _ h => h) (Or.inl ⟨by rfl, ?_⟩) hHeld ?_
        rotate_left
        · intro w' hSw
          (try dsimp only at hSw)
          go_simp
          try with_reducible rfl
        try simp only [Act.put, List.setIfInBounds_toArray, List.set_cons_zero, List.set_cons_succ]
        refine wpAnyH_take (i := 7) (oi := { dst := some 34, op := Op.move (Operand.tmp 33), type := 4, pos := "l4_store.go:31", after := #[{ on := 6, ground := Ground.data }, { on := 5, ground := Ground.chain }], guard := none }) (v := ?_) rfl (by kernel_rfl) (by kernel_rfl) (by kernel_rfl) (fun _ _ _ h => h) (Or.inl ⟨by rfl, ?_⟩) hHeld ?_
        rotate_left
        · intro w' hSw
          (try dsimp only at hSw)
          go_simp
          try with_reducible rfl
        try simp only [Act.put, List.setIfInBounds_toArray, List.set_cons_zero, List.set_cons_succ]
        refine wpAnyH_take (i := 8) (oi := { dst := some 35, op := Op.load 40 (Operand.tmp 2), type := 40, pos := "l4_store.go:31", after := #[{ on := 7, ground := Ground.guard }], guard := some (7, false) }) (v := undef) rfl (by kernel_rfl) (by kernel_rfl) (by kernel_rfl) (fun _ _ _ h => h) (Or.inr ⟨by rfl, rfl⟩) hHeld ?_
        try simp only [Act.put, List.setIfInBounds_toArray, List.set_cons_zero, List.set_cons_succ]
        refine wpAnyH_take (i := 9) (oi := { dst := some 36, op := Op.load 69 (Operand.tmp 6), type := 69, pos := "l4_store.go:31", after := #[{ on := 7, ground := Ground.guard }], guard := some (7, false) }) (v := undef) rfl (by kernel_rfl) (by kernel_rfl) (by kernel_rfl) (fun _ _ _ h => h) (Or.inr ⟨by rfl, rfl⟩) hHeld ?_
        try simp only [Act.put, List.setIfInBounds_toArray, List.set_cons_zero, List.set_cons_succ]
        refine wpAnyH_take (i := 10) (oi := { dst := some 37, op := Op.call { callee := Callee.value (Operand.func 58), args := #[Operand.tmp 35, Operand.tmp 36], argTypes := #[40, 69] }, type := 4, pos := "l4_store.go:31", after := #[{ on := 8, ground := Ground.data }, { on := 9, ground := Ground.data }, { on := 7, ground := Ground.chain }, { on := 7, ground := Ground.guard }], guard := some (7, false) }) (v := undef) rfl (by kernel_rfl) (by kernel_rfl) (by kernel_rfl) (fun _ _ _ h => h) (Or.inr ⟨by rfl, rfl⟩) hHeld ?_
        try simp only [Act.put, List.setIfInBounds_toArray, List.set_cons_zero, List.set_cons_succ]
        refine wpAnyH_take (i := 11) (oi := { dst := some 38, op := Op.unOp UnOp.not 4 (Operand.tmp 37), type := 4, pos := "l4_store.go:31", after := #[{ on := 10, ground := Ground.data }, { on := 7, ground := Ground.guard }], guard := some (7, false) }) (v := undef) rfl (by kernel_rfl) (by kernel_rfl) (by kernel_rfl) (fun _ _ _ h => h) (Or.inr ⟨by rfl, rfl⟩) hHeld ?_
        try simp only [Act.put, List.setIfInBounds_toArray, List.set_cons_zero, List.set_cons_succ]
        refine wpAnyH_take (i := 12) (oi := { dst := some 39, op := Op.pick (Operand.tmp 34) (Operand.const (Value.bool true)) (Operand.tmp 38), type := 4, pos := "l4_store.go:31", after := #[{ on := 7, ground := Ground.data }, { on := 11, ground := Ground.data }], guard := none }) (v := ?_) rfl (by kernel_rfl) (by kernel_rfl) (by kernel_rfl) (fun _ _ _ h => h) (Or.inl ⟨by rfl, ?_⟩) hHeld ?_
        rotate_left
        · intro w' hSw
          (try dsimp only at hSw)
          go_simp
          try with_reducible rfl
        try simp only [Act.put, List.setIfInBounds_toArray, List.set_cons_zero, List.set_cons_succ]
        refine wpAnyH_done (by kernel_rfl) ?_ _
        go_wp2_with fail
        go_ret
        exact ⟨ret_bool (by rw [HSR.out, HF.out (by rfl)]), by first | exact hww7 | exact hww7.drew | exact below_drews hww7 _⟩
      rw [x1] at hIO HF HN
      have hfin : ∀ W r, Hid (Below (w0.alloc (.cells #[.string (rth rs k).type, .int .i64 (rth rs k).id, .slice ca (rth rs k).cells.length cc] 69)).heap.size (w0.alloc (.cells #[.string (rth rs k).type, .int .i64 (rth rs k).id, .slice ca (rth rs k).cells.length cc] 69)) W ∧ r = rowI ⟨name, types⟩ (rth rs k)) → (r = true → allTo (fun i => ordI ⟨name, types⟩ rs i && rowI ⟨name, types⟩ (rth rs i)) (k + 1) = true) ∧ (r = false → storeI ⟨name, types⟩ rs = false) := fun W r h => ⟨fun e => HN.out (by rw [← h.out.2, e]; rfl), fun e => by rw [HSR.out]; exact HF.out (by rw [← h.out.2, e]; rfl)⟩
      generalize rowI ⟨name, types⟩ (rth rs k) = rr at hRK hfin
      go_wp2_with fail
      go_cut [39] (fun r wx => r = .bool (!rr) ∧ Below (w0.alloc (.cells #[.string (rth rs k).type, .int .i64 (rth rs k).id, .slice ca (rth rs k).cells.length cc] 69)).heap.size (w0.alloc (.cells #[.string (rth rs k).type, .int .i64 (rth rs k).id, .slice ca (rth rs k).cells.length cc] 69)) wx)
      case first =>
        go_region_held3 (fun w' => w'.cell? ⟨w.heap.size, 0, none⟩ = some (.string name) ∧ w'.cell? ⟨w.heap.size, 1, none⟩ = some (.slice ta types.length tc) ∧ w'.cell? ⟨w0.heap.size, 0, none⟩ = some (.string (rth rs k).type) ∧ w'.cell? ⟨w0.heap.size, 1, none⟩ = some (.int .i64 (rth rs k).id) ∧ w'.cell? ⟨w0.heap.size, 2, none⟩ = some (.slice ca (rth rs k).cells.length cc)) (go_keep)
          (first
            | (
              go_at_call 57
              refine hIO.mono ?_
              rintro e w7 ⟨rfl, hb7⟩
              have hb7' := below_undrew hb7
              obtain ⟨a0, a1, a2, hT7⟩ := RB w7 hb7'
              obtain ⟨b0, b1, hww7, hz7⟩ := TB w7 hT7)
            | (
              go_at_call 58
              refine (hRK w7 hww7).mono ?_
              rintro e w8 ⟨rfl, hb8⟩
              have hb8' := hb7'.trans (hb8.mono hb7'.size)
              obtain ⟨a0', a1', a2', hT8⟩ := RB w8 hb8'
              obtain ⟨b0', b1', hww8, hz8⟩ := TB w8 hT8))
        all_goals
          go_wp2_with fail
          go_meet
          case rel => exact ⟨rfl, hb8'⟩
      case rest =>
      obtain ⟨rfl, hb8⟩ := hcut
      obtain ⟨w8, rfl⟩ : ∃ x, x = wc := ⟨wc, rfl⟩
      obtain ⟨-, -, -, hT8⟩ := RB w8 hb8
      obtain ⟨-, -, hww8, -⟩ := TB w8 hT8
      have hfi := hfin w8 rr ⟨hb8, rfl⟩
      have HFI : Hid ((rr = true → allTo (fun i => ordI ⟨name, types⟩ rs i && rowI ⟨name, types⟩ (rth rs i)) (k + 1) = true) ∧ (rr = false → storeI ⟨name, types⟩ rs = false)) := hfi
      clear hfi hfin hb8 q0 q1 q2 p0' p1'
      cases rr
      · go_wp2_with fail
        go_ret
        exact ⟨ret_bool (HFI.out.2 (by simp)).symm, hww8⟩
      · go_wp2_with fail
        go_roundw
        case rel => exact ⟨k + 1, by omega, by go_num, hT8, HFI.out.1 (by simp)⟩
        case measure => simp [intOf]; omega
    · go_wp2_with fail
      go_ret
      have e : k = rs.length := by omega
      exact ⟨ret_bool (by rw [HSR.out, ← e, HP.out]), hww⟩
end Go.Proofs.YtmemijccbmnaaaaGreat

namespace Go.Proofs.YtmemijccbmnaaaaGreat
set_option linter.unusedSimpArgs false
set_option linter.unusedVariables false
open Go.RowKit

theorem plain_any (x : V) (w : World) (B : Nat) (v : Value) (hR : Rep w (· < B) x v) (hB : B ≤ w.heap.size) :
    Calls Tryz.prog 80 #[v] w fun e w' => e = .returned (.bool (plainX x)) ∧ Below w.heap.size w w' := by
  obtain ⟨s, n, t, ns, ks⟩ := x
  obtain ⟨na, ka, nc, kc, rfl, hs, hns, ht, -, -⟩ := hR.inv
  exact l1Plain_any s n t ns na ka nc kc ks.length w (hs.sub fun k hk => by omega) hns ht

set_option maxHeartbeats 800000 in
theorem l4One_any (of : ByteArray) (x : V) (w : World) (B : Nat) (v : Value) (hR : Rep w (· < B) x v) (hB : B ≤ w.heap.size) :
    Calls Tryz.prog 79 #[.string of, v] w fun e w' => e = .returned (.bool (oneB of x)) ∧ Below w.heap.size w w' := by
  have hR' := hR
  obtain ⟨s, n, t, ns, ks⟩ := x
  obtain ⟨na, ka, nc, kc, rfl, -⟩ := hR.inv
  have hPl := plain_any (.mk s n t ns ks) (w.alloc (.cells #[.int .i64 s, .int .i64 n, .string t, .slice na ns.length nc, .slice ka ks.length kc] 45)) B _ (hR'.under ((below_box w _).mono hB)) (by simp; omega)
  have HE : Hid (oneB of (.mk s n t ns ks) = (plainX (.mk s n t ns ks) && (s == 1 || s == sortW of))) := rfl
  have PC : ∀ W, Below (w.alloc (.cells #[.int .i64 s, .int .i64 n, .string t, .slice na ns.length nc, .slice ka ks.length kc] 45)).heap.size (w.alloc (.cells #[.int .i64 s, .int .i64 n, .string t, .slice na ns.length nc, .slice ka ks.length kc] 45)) W → W.cell? ⟨w.heap.size, 0, none⟩ = some (.int .i64 s) ∧ Below w.heap.size w W := fun W h =>
    ⟨(h.cell (p := ⟨w.heap.size, 0, none⟩) (by show w.heap.size < _; simp)).trans (box_new _ _ 0 (by simp)), (below_box w _).trans (h.mono (by simp))⟩
  cases hp : plainX (.mk s n t ns ks)
  · rw [hp] at hPl
    go_enter Tryz.func79, Tryz.ntmps79
    go_wp2_with (go_at_call 80; refine hPl.mono ?_; rintro e w1 ⟨rfl, hb1⟩)
    go_ret
    exact ⟨ret_bool (by rw [HE.out, hp]; rfl), (PC _ hb1).2⟩
  rw [hp] at hPl
  rw [hp] at HE
  cases h1 : (s == 1)
  · cases h2 : (of.toList == [98, 111, 111, 108])
    · cases h3 : (of.toList == [116, 101, 120, 116])
      all_goals
        go_enter Tryz.func79, Tryz.ntmps79
        go_wp2_with (go_at_call 80; refine hPl.mono ?_; rintro e w1 ⟨rfl, hb1⟩; obtain ⟨c0, hw1⟩ := PC _ hb1)
        go_ret
        exact ⟨ret_bool (by rw [HE.out]; simp [sortW, isT, h1, h2, h3]), hw1⟩
    · have h3 : (of.toList == [116, 101, 120, 116]) = false := by
        have : of.toList = [98, 111, 111, 108] := by simpa using h2
        rw [this]; rfl
      go_enter Tryz.func79, Tryz.ntmps79
      go_wp2_with (go_at_call 80; refine hPl.mono ?_; rintro e w1 ⟨rfl, hb1⟩; obtain ⟨c0, hw1⟩ := PC _ hb1)
      go_ret
      exact ⟨ret_bool (by rw [HE.out]; simp [sortW, isT, h1, h2, h3]), hw1⟩
  · cases h2 : (of.toList == [98, 111, 111, 108]) <;> cases h3 : (of.toList == [116, 101, 120, 116])
    all_goals
      go_enter Tryz.func79, Tryz.ntmps79
      go_wp2_with (go_at_call 80; refine hPl.mono ?_; rintro e w1 ⟨rfl, hb1⟩; obtain ⟨c0, hw1⟩ := PC _ hb1)
      go_ret
      exact ⟨ret_bool (by rw [HE.out]; simp [h1]), hw1⟩

set_option maxRecDepth 20000 in
set_option maxHeartbeats 3200000 in
theorem l4Fits_any (f : F) (x : V) (w : World) (B : Nat) (u v : Value) (hF : FRep w (· < B) f u) (hR : Rep w (· < B) x v) (hB : B ≤ w.heap.size) :
    Calls Tryz.prog 50 #[u, v] w fun e w' => e = .returned (.bool (fitS f x)) ∧ Below w.heap.size w w' := by
  have hR' := hR
  obtain ⟨s, n, t, ns, ks⟩ := x
  obtain ⟨na, ka, nc, kc, rfl, hs, hns, -, hbs, hK⟩ := hR.inv
  obtain ⟨fa, fc, rfl, -⟩ := hF
  have hns3 := hs.2.2
  unfold maxLen at hns3
  have h80 := hK.1
  have hbx : ∀ o1 o2, Below w.heap.size w ((w.alloc o1).alloc o2) := below_box2 w
  by_cases h7 : s = 7
  · subst h7
    have HE : Hid (fitS f (.mk 7 n t ns ks) = (n == 0 && t.toList.isEmpty && nokV ns ks.length)) := rfl
    have HN : Hid (nokV ns ks.length = (((ns.length : Int) + (ks.length : Int)) == 0)) := by
      show _ = _
      unfold nokV
      rw [Bool.eq_iff_iff]; simp only [Bool.and_eq_true, beq_iff_eq]; omega
    cases hn : (n == 0)
    · go_enter Tryz.func50, Tryz.ntmps50
      go_wp2_with fail
      go_ret
      exact ⟨ret_bool (by rw [HE.out, hn]; rfl), hbx _ _⟩
    · cases ht : t.toList.isEmpty
      · go_enter Tryz.func50, Tryz.ntmps50
        go_wp2_with fail
        go_ret
        exact ⟨ret_bool (by rw [HE.out, hn, ht]; rfl), hbx _ _⟩
      · go_enter Tryz.func50, Tryz.ntmps50
        go_wp2_with fail
        go_ret
        exact ⟨ret_bool (by rw [HE.out, hn, ht, HN.out]; simp), hbx _ _⟩
  have g7 : (s == 7) = false := by simpa using h7
  have hO := fun W (hb : Below w.heap.size w W) => l4One_any f.of (.mk s n t ns ks) W B _ (hR'.under (hb.mono hB)) (by have := hb.size; omega)
  by_cases h1 : s = 1
  · subst h1
    cases hm : f.must
    · have HE : Hid (fitS f (.mk 1 n t ns ks) = oneB f.of (.mk 1 n t ns ks)) := by show _ = _; unfold fitS; rw [if_neg (by simp), if_neg (by simp [hm]), if_pos (Or.inr rfl)]
      cases hl : f.list
      all_goals
        go_enter Tryz.func50, Tryz.ntmps50
        go_wp2_with (go_at_call 79; refine (hO _ (hbx _ _)).mono ?_; rintro e w1 ⟨rfl, hb1⟩)
        go_ret
        exact ⟨ret_bool (by rw [HE.out]), (hbx _ _).trans (hb1.mono (by simp; omega))⟩
    · have HE : Hid (fitS f (.mk 1 n t ns ks) = false) := by show _ = _; unfold fitS; rw [if_neg (by simp), if_pos ⟨hm, rfl⟩]
      go_enter Tryz.func50, Tryz.ntmps50
      go_wp2_with fail
      go_ret
      exact ⟨ret_bool HE.out.symm, hbx _ _⟩
  have g1 : (s == 1) = false := by simpa using h1
  cases hl : f.list
  · have HE : Hid (fitS f (.mk s n t ns ks) = oneB f.of (.mk s n t ns ks)) := by show _ = _; unfold fitS; rw [if_neg h7, if_neg (fun h => h1 h.2), if_pos (Or.inl hl)]
    cases hm : f.must
    all_goals
      go_enter Tryz.func50, Tryz.ntmps50
      go_wp2_with (go_at_call 79; refine (hO _ (hbx _ _)).mono ?_; rintro e w1 ⟨rfl, hb1⟩)
      go_ret
      exact ⟨ret_bool (by rw [HE.out]), (hbx _ _).trans (hb1.mono (by simp; omega))⟩
  have HE : Hid (fitS f (.mk s n t ns ks) = (s == 5 && plainX (.mk s n t ns ks) && decide (ks.length ≤ 3) && kidsS f.of ks ks.length)) := by show _ = _; unfold fitS; rw [if_neg h7, if_neg (fun h => h1 h.2), if_neg (by simp [hl, h1])]
  clear hO
  generalize f.must = m
  have hPl := plain_any (.mk s n t ns ks) ((w.alloc (.cells #[.string f.name, .string f.of, .bool true, .bool m, .bool f.far, .bool f.hidden, .bool f.shared, .slice fa f.needs.length fc] 103)).alloc (.cells #[.int .i64 s, .int .i64 n, .string t, .slice na ns.length nc, .slice ka ks.length kc] 45)) B _ (hR'.under ((below_box2 w _ _).mono hB)) (by simp; omega)
  obtain ⟨X, hXe⟩ : ∃ X, X = ((w.alloc (.cells #[.string f.name, .string f.of, .bool true, .bool m, .bool f.far, .bool f.hidden, .bool f.shared, .slice fa f.needs.length fc] 103)).alloc (.cells #[.int .i64 s, .int .i64 n, .string t, .slice na ns.length nc, .slice ka ks.length kc] 45)) := ⟨_, rfl⟩
  have TB : ∀ W, Below (w.heap.size + 1 + 1) X W → W.cell? ⟨w.heap.size, 1, none⟩ = some (.string f.of) ∧ (W.cell? ⟨w.heap.size + 1, 0, none⟩ = some (.int .i64 s) ∧ W.cell? ⟨w.heap.size + 1, 1, none⟩ = some (.int .i64 n) ∧ W.cell? ⟨w.heap.size + 1, 2, none⟩ = some (.string t) ∧ W.cell? ⟨w.heap.size + 1, 3, none⟩ = some (.slice na ns.length nc) ∧ W.cell? ⟨w.heap.size + 1, 4, none⟩ = some (.slice ka ks.length kc)) ∧ Below w.heap.size w W ∧ w.heap.size + 1 < W.heap.size := fun W h => by
    obtain ⟨h1, h2, h3, h4⟩ := boxes2 (by rw [← hXe]; exact h)
    exact ⟨h1 1 (by simp), ⟨h2 0 (by simp), h2 1 (by simp), h2 2 (by simp), h2 3 (by simp), h2 4 (by simp)⟩, h3, h4⟩
  have hT0 : Below (w.heap.size + 1 + 1) X X := Below.refl _ _
  rw [← hXe] at hPl
  obtain ⟨-, -, hw0, hz0⟩ := TB X hT0
  cases h5 : (s == 5)
  · have h5' : (s != 5) = true := by simp only [bne, h5]; rfl
    cases m
    all_goals
      go_enter Tryz.func50, Tryz.ntmps50
      go_wp2_with fail
      go_ret
      exact ⟨ret_bool (by rw [HE.out, h5]; rfl), hbx _ _⟩
  have h5' : (s != 5) = false := by simp only [bne, h5]; rfl
  cases hp : plainX (.mk s n t ns ks)
  · rw [hp] at hPl
    cases m
    all_goals
      go_enter Tryz.func50, Tryz.ntmps50
      go_wp2_with (go_at_call 80; rw [← hXe]; refine hPl.mono ?_; rintro e w1 ⟨rfl, hb1⟩)
      go_ret
      exact ⟨ret_bool (by rw [HE.out, hp]; simp), (TB _ (hT0.trans (hb1.mono (by omega)))).2.2.1⟩
  rw [hp] at hPl HE
  by_cases h3 : ks.length ≤ 3
  case neg =>
    have h3' : (3 : Int) < (ks.length : Int) := by omega
    have h3'' : decide ((3 : Int) < (ks.length : Int)) = true := by simp; omega
    cases m
    all_goals
      go_enter Tryz.func50, Tryz.ntmps50
      go_wp2_with (
        go_at_call 80
        rw [← hXe]
        refine hPl.mono ?_
        rintro e w1 ⟨rfl, hb1⟩
        obtain ⟨p1, ⟨v0, v1, v2, v3, v4⟩, hw1, hz1⟩ := TB w1 (hT0.trans (hb1.mono (by omega))))
      go_ret
      exact ⟨ret_bool (by rw [HE.out, decide_eq_false h3]; simp), hw1⟩
  have h3' : ¬ (3 : Int) < (ks.length : Int) := by omega
  have h3'' : decide ((3 : Int) < (ks.length : Int)) = false := by simp; omega
  have HR : Hid (fitS f (.mk s n t ns ks) = kidsS f.of ks ks.length) := by show _ = _; rw [HE.out, h5, decide_eq_true h3]; rfl
  obtain ⟨-, b, off, C, hka, hc, hr⟩ := hK
  have hO := fun i (hi : i < ks.length) W (hb : Below w.heap.size w W) => l4One_any f.of (kth ks i) W B _ ((hr i hi).under (hb.mono hB)) (by have := hb.size; omega)
  clear HE
  cases m
  all_goals
    go_enter Tryz.func50, Tryz.ntmps50
    go_wp2_with (
      go_at_call 80
      rw [← hXe]
      refine hPl.mono ?_
      rintro e w1 ⟨rfl, hb1⟩
      have hT1 := hT0.trans (hb1.mono (by omega))
      obtain ⟨p1, ⟨v0, v1, v2, v3, v4⟩, hw1, hz1⟩ := TB w1 hT1)
    clear p1 v0 v1 v2 v3 v4 hw1 hz1 hb1 hPl hXe
    go_loopw [5] (fun i wr => ∃ k : Nat, k ≤ ks.length ∧ i = .int .i64 k ∧ Below (w.heap.size + 1 + 1) X wr ∧ kidsS f.of ks k = true) (fun i _ => ks.length - (intOf i).toNat)
    case atStart => exact ⟨0, Nat.zero_le _, rfl, hT1, rfl⟩
    case round =>
      clear hT1
      obtain ⟨k, hk, rfl, hT, hp⟩ := hrel
      obtain ⟨w2, rfl⟩ : ∃ x, x = wr := ⟨wr, rfl⟩
      have HP : Hid (kidsS f.of ks k = true) := hp
      clear hp
      obtain ⟨p1, ⟨v0, v1, v2, v3, v4⟩, hw2, hz2⟩ := TB w2 hT
      by_cases hlt : k < ks.length
      · have hki : (k : Int) < (ks.length : Int) := by omega
        obtain ⟨rfl, hbB⟩ := hka (by intro e; simp [e] at hlt)
        obtain ⟨na2, ka2, nc2, kc2, e0, e1, e2, e3, e4⟩ := (hr k hlt).heads
        have hck : ∀ W, Below w.heap.size w W → ∀ j, j < 5 → W.cell? ⟨b, off + k * 5 + j, none⟩ = some (C k j) := fun W hb j hj => (hb.cell (p := ⟨b, off + k * 5 + j, none⟩) (by show b < _; omega)).trans (hc k hlt j hj)
        have hcs : ∀ W, Below w.heap.size w W → W.cell? ⟨b, off + k * 5, none⟩ = some (.int .i64 (kth ks k).sort) ∧ W.cell? ⟨b, off + k * 5 + 1, none⟩ = some (.int .i64 (kth ks k).num) ∧ W.cell? ⟨b, off + k * 5 + 2, none⟩ = some (.string (kth ks k).text) ∧ W.cell? ⟨b, off + k * 5 + 3, none⟩ = some (.slice na2 (kth ks k).names.length nc2) ∧ W.cell? ⟨b, off + k * 5 + 4, none⟩ = some (.slice ka2 (kth ks k).kids.length kc2) := fun W hb =>
          ⟨(hck W hb 0 (by omega)).trans (congrArg some e0), (hck W hb 1 (by omega)).trans (congrArg some e1), (hck W hb 2 (by omega)).trans (congrArg some e2), (hck W hb 3 (by omega)).trans (congrArg some e3), (hck W hb 4 (by omega)).trans (congrArg some e4)⟩
        obtain ⟨c0, c1, c2, c3, c4⟩ := hcs w2 hw2
        have hOk := hO k hlt w2.drew hw2.drew
        rw [e0, e1, e2, e3, e4] at hOk
        have HF : Hid ((oneB f.of (kth ks k) && (kth ks k).kids.length == 0) = false → fitS f (.mk s n t ns ks) = false) := fun h => by rw [HR.out]; exact kidsS_false f.of ks _ k hlt h
        have HN : Hid ((oneB f.of (kth ks k) && (kth ks k).kids.length == 0) = true → kidsS f.of ks (k + 1) = true) := fun h => by rw [kidsS_succ, HP.out, h]; rfl
        generalize oneB f.of (kth ks k) = ob at hOk HF HN
        clear hck e0 e1 e2 e3 e4 hO
        cases ob
        · go_wp2_with fail
          refine wp_region_held_drew (S := fun w' => w'.cell? ⟨w.heap.size, 1, none⟩ = some (.string f.of) ∧ w'.cell? ⟨w.heap.size + 1, 4, none⟩ = some (.slice (some ⟨b, off, none⟩) ks.length kc) ∧ w'.cell? ⟨b, off + k * 5, none⟩ = some (.int .i64 (kth ks k).sort) ∧ w'.cell? ⟨b, off + k * 5 + 1, none⟩ = some (.int .i64 (kth ks k).num) ∧ w'.cell? ⟨b, off + k * 5 + 2, none⟩ = some (.string (kth ks k).text) ∧ w'.cell? ⟨b, off + k * 5 + 3, none⟩ = some (.slice na2 (kth ks k).names.length nc2) ∧ w'.cell? ⟨b, off + k * 5 + 4, none⟩ = some (.slice ka2 (kth ks k).kids.length kc2)) (by kernel_rfl) ⟨p1, v4, c0, c1, c2, c3, c4⟩ (fun hHeld => ?_)
          refine wpAnyH_take (i := 0) (oi := { dst := some 67, op := Op.fieldAddr 103 (Operand.tmp 2) 1, type := 0, pos := "l4_store.go:34", after := #[], guard := none }) (v := ?_) rfl (by kernel_rfl) (by kernel_rfl) (by kernel_rfl) (fun _ _ _ h => h) (Or.inl ⟨by rfl, ?_⟩) hHeld ?_
          rotate_left
          · intro w' hSw
            (try dsimp only at hSw)
            go_simp
            try with_reducible rfl
          try simp only [Act.put, List.setIfInBounds_toArray, List.set_cons_zero, List.set_cons_succ]
          refine wpAnyH_take (i := 1) (oi := { dst := some 68, op := Op.load 9 (Operand.tmp 67), type := 9, pos := "l4_store.go:34", after := #[{ on := 0, ground := Ground.data }], guard := none }) (v := ?_) rfl (by kernel_rfl) (by kernel_rfl) (by kernel_rfl) (fun _ _ _ h => h) (Or.inl ⟨by rfl, ?_⟩) hHeld ?_
          rotate_left
          · intro w' hSw
            (try dsimp only at hSw)
            go_simp
            try with_reducible rfl
          try simp only [Act.put, List.setIfInBounds_toArray, List.set_cons_zero, List.set_cons_succ]
          refine wpAnyH_take (i := 2) (oi := { dst := some 69, op := Op.fieldAddr 45 (Operand.tmp 3) 4, type := 0, pos := "l4_store.go:34", after := #[], guard := none }) (v := ?_) rfl (by kernel_rfl) (by kernel_rfl) (by kernel_rfl) (fun _ _ _ h => h) (Or.inl ⟨by rfl, ?_⟩) hHeld ?_
          rotate_left
          · intro w' hSw
            (try dsimp only at hSw)
            go_simp
            try with_reducible rfl
          try simp only [Act.put, List.setIfInBounds_toArray, List.set_cons_zero, List.set_cons_succ]
          refine wpAnyH_take (i := 3) (oi := { dst := some 70, op := Op.load 43 (Operand.tmp 69), type := 43, pos := "l4_store.go:34", after := #[{ on := 2, ground := Ground.data }], guard := none }) (v := ?_) rfl (by kernel_rfl) (by kernel_rfl) (by kernel_rfl) (fun _ _ _ h => h) (Or.inl ⟨by rfl, ?_⟩) hHeld ?_
          rotate_left
          · intro w' hSw
            (try dsimp only at hSw)
            go_simp
            try with_reducible rfl
          try simp only [Act.put, List.setIfInBounds_toArray, List.set_cons_zero, List.set_cons_succ]
          refine wpAnyH_take (i := 4) (oi := { dst := some 71, op := Op.move (Operand.tmp 5), type := 3, pos := "l4_store.go:34", after := #[], guard := none }) (v := ?_) rfl (by kernel_rfl) (by kernel_rfl) (by kernel_rfl) (fun _ _ _ h => h) (Or.inl ⟨by rfl, ?_⟩) hHeld ?_
          rotate_left
          · intro w' hSw
            (try dsimp only at hSw)
            go_simp
            try with_reducible rfl
          try simp only [Act.put, List.setIfInBounds_toArray, List.set_cons_zero, List.set_cons_succ]
          refine wpAnyH_take (i := 5) (oi := { dst := some 72, op := Op.indexAddr 43 (Operand.tmp 70) (Operand.tmp 71), type := 0, pos := "l4_store.go:34", after := #[{ on := 3, ground := Ground.data }, { on := 4, ground := Ground.data }], guard := none }) (v := ?_) rfl (by kernel_rfl) (by kernel_rfl) (by kernel_rfl) (fun _ _ _ h => h) (Or.inl ⟨by rfl, ?_⟩) hHeld ?_
          rotate_left
          · intro w' hSw
            (try dsimp only at hSw)
            go_simp
            try with_reducible rfl
          try simp only [Act.put, List.setIfInBounds_toArray, List.set_cons_zero, List.set_cons_succ]
          refine wpAnyH_take (i := 6) (oi := { dst := some 73, op := Op.load 45 (Operand.tmp 72), type := 45, pos := "l4_store.go:34", after := #[{ on := 5, ground := Ground.data }], guard := none }) (v := ?_) rfl (by kernel_rfl) (by kernel_rfl) (by kernel_rfl) (fun _ _ _ h => h) (Or.inl ⟨by rfl, ?_⟩) hHeld ?_
          rotate_left
          · intro w' hSw
            (try dsimp only at hSw)
            go_simp
            try with_reducible rfl
          try simp only [Act.put, List.setIfInBounds_toArray, List.set_cons_zero, List.set_cons_succ]
          refine wpAnyH_ready (rs := [7]) (by kernel_rfl) (by simp) ?_
          refine AllReadyH.cons (o := { dst := some 74, op := Op.call { callee := Callee.value (Operand.func 79), args := #[Operand.tmp 68, Operand.tmp 73], argTypes := #[9, 45] }, type := 4, pos := "l4_store.go:34", after := #[{ on := 1, ground := Ground.data }, { on := 6, ground := Ground.data }], guard := none }) rfl (fun K hK => ?_) AllReadyH.nil
          go_simp
          refine (hOk).mono ?_
          rintro e w3 ⟨rfl, hb3⟩
          have hT3 := hT.trans ((below_undrew hb3).mono (by omega))
          obtain ⟨p1', ⟨v0', v1', v2', v3', v4'⟩, hw3, hz3⟩ := TB w3 hT3
          obtain ⟨c0', c1', c2', c3', c4'⟩ := hcs w3 hw3
          refine hK.out _ _ ⟨p1', v4', c0', c1', c2', c3', c4'⟩ (fun hHeld => ?_)
          clear hK K
          try simp only [Act.put, List.setIfInBounds_toArray, List.set_cons_zero, List.set_cons_succ]
          refine wpAnyH_take (i := 8) (oi := { dst := some 75, op := Op.unOp UnOp.not 4 (Operand.tmp 74), type := 4, pos := "l4_store.go:34", after := #[{ on := 7, ground := Ground.data }], guard := none }) (v := ?_) rfl (by kernel_rfl) (by kernel_rfl) (by kernel_rfl) (fun _ _ _ h => h) (Or.inl ⟨by rfl, ?_⟩) hHeld ?_
          rotate_left
          · intro w' hSw
            (try dsimp only at hSw)
            go_simp
            try with_reducible rfl
          try simp only [Act.put, List.setIfInBounds_toArray, List.set_cons_zero, List.set_cons_succ]
          refine wpAnyH_take (i := 9) (oi := { dst := some 76, op := Op.move (Operand.tmp 75), type := 4, pos := "l4_store.go:34", after := #[{ on := 8, ground := Ground.data }, { on := 7, ground := Ground.chain }], guard := none }) (v := ?_) rfl (by kernel_rfl) (by kernel_rfl) (by kernel_rfl) (fun _ _ _ h => h) (Or.inl ⟨by rfl, ?_⟩) hHeld ?_
          rotate_left
          · intro w' hSw
            (try dsimp only at hSw)
            go_simp
            try with_reducible rfl
          try simp only [Act.put, List.setIfInBounds_toArray, List.set_cons_zero, List.set_cons_succ]
          refine wpAnyH_take (i := 10) (oi := { dst := some 77, op := Op.fieldAddr 45 (Operand.tmp 3) 4, type := 0, pos := "l4_store.go:34", after := #[{ on := 9, ground := Ground.guard }], guard := some (9, false) }) (v := undef) rfl (by kernel_rfl) (by kernel_rfl) (by kernel_rfl) (fun _ _ _ h => h) (Or.inr ⟨by rfl, rfl⟩) hHeld ?_
          try simp only [Act.put, List.setIfInBounds_toArray, List.set_cons_zero, List.set_cons_succ]
          refine wpAnyH_take (i := 11) (oi := { dst := some 78, op := Op.load 43 (Operand.tmp 77), type := 43, pos := "l4_store.go:34", after := #[{ on := 10, ground := Ground.data }, { on := 9, ground := Ground.guard }], guard := some (9, false) }) (v := undef) rfl (by kernel_rfl) (by kernel_rfl) (by kernel_rfl) (fun _ _ _ h => h) (Or.inr ⟨by rfl, rfl⟩) hHeld ?_
          try simp only [Act.put, List.setIfInBounds_toArray, List.set_cons_zero, List.set_cons_succ]
          refine wpAnyH_take (i := 12) (oi := { dst := some 79, op := Op.move (Operand.tmp 5), type := 3, pos := "l4_store.go:34", after := #[{ on := 9, ground := Ground.guard }], guard := some (9, false) }) (v := undef) rfl (by kernel_rfl) (by kernel_rfl) (by kernel_rfl) (fun _ _ _ h => h) (Or.inr ⟨by rfl, rfl⟩) hHeld ?_
          try simp only [Act.put, List.setIfInBounds_toArray, List.set_cons_zero, List.set_cons_succ]
          refine wpAnyH_take (i := 13) (oi := { dst := some 80, op := Op.indexAddr 43 (Operand.tmp 78) (Operand.tmp 79), type := 0, pos := "l4_store.go:34", after := #[{ on := 11, ground := Ground.data }, { on := 12, ground := Ground.data }, { on := 9, ground := Ground.guard }], guard := some (9, false) }) (v := undef) rfl (by kernel_rfl) (by kernel_rfl) (by kernel_rfl) (fun _ _ _ h => h) (Or.inr ⟨by rfl, rfl⟩) hHeld ?_
          try simp only [Act.put, List.setIfInBounds_toArray, List.set_cons_zero, List.set_cons_succ]
          refine wpAnyH_take (i := 14) (oi := { dst := some 81, op := Op.fieldAddr 45 (Operand.tmp 80) 4, type := 0, pos := "l4_store.go:34", after := #[{ on := 13, ground := Ground.data }, { on := 9, ground := Ground.guard }], guard := some (9, false) }) (v := undef) rfl (by kernel_rfl) (by kernel_rfl) (by kernel_rfl) (fun _ _ _ h => h) (Or.inr ⟨by rfl, rfl⟩) hHeld ?_
          try simp only [Act.put, List.setIfInBounds_toArray, List.set_cons_zero, List.set_cons_succ]
          refine wpAnyH_take (i := 15) (oi := { dst := some 82, op := Op.load 43 (Operand.tmp 81), type := 43, pos := "l4_store.go:34", after := #[{ on := 14, ground := Ground.data }, { on := 9, ground := Ground.guard }], guard := some (9, false) }) (v := undef) rfl (by kernel_rfl) (by kernel_rfl) (by kernel_rfl) (fun _ _ _ h => h) (Or.inr ⟨by rfl, rfl⟩) hHeld ?_
          try simp only [Act.put, List.setIfInBounds_toArray, List.set_cons_zero, List.set_cons_succ]
          refine wpAnyH_take (i := 16) (oi := { dst := some 83, op := Op.call { callee := Callee.builtin Builtin.len, args := #[Operand.tmp 82], argTypes := #[43] }, type := 3, pos := "l4_store.go:34", after := #[{ on := 15, ground := Ground.data }, { on := 9, ground := Ground.guard }], guard := some (9, false) }) (v := undef) rfl (by kernel_rfl) (by kernel_rfl) (by kernel_rfl) (fun _ _ _ h => h) (Or.inr ⟨by rfl, rfl⟩) hHeld ?_
          try simp only [Act.put, List.setIfInBounds_toArray, List.set_cons_zero, List.set_cons_succ]
          refine wpAnyH_take (i := 17) (oi := { dst := some 84, op := Op.binOp BinOp.gtr 3 (Operand.tmp 83) (Operand.const (Value.int IntKind.i64 0)) 3, type := 4, pos := "l4_store.go:34", after := #[{ on := 16, ground := Ground.data }, { on := 9, ground := Ground.guard }], guard := some (9, false) }) (v := undef) rfl (by kernel_rfl) (by kernel_rfl) (by kernel_rfl) (fun _ _ _ h => h) (Or.inr ⟨by rfl, rfl⟩) hHeld ?_
          try simp only [Act.put, List.setIfInBounds_toArray, List.set_cons_zero, List.set_cons_succ]
          refine wpAnyH_take (i := 18) (oi := { dst := some 85, op := Op.pick (Operand.tmp 76) (Operand.const (Value.bool true)) (Operand.tmp 84), type := 4, pos := "l4_store.go:34", after := #[{ on := 9, ground := Ground.data }, { on := 17, ground := Ground.data }], guard := none }) (v := ?_) rfl (by kernel_rfl) (by kernel_rfl) (by kernel_rfl) (fun _ _ _ h => h) (Or.inl ⟨by rfl, ?_⟩) hHeld ?_
          rotate_left
          · intro w' hSw
            (try dsimp only at hSw)
            go_simp
            try with_reducible rfl
          try simp only [Act.put, List.setIfInBounds_toArray, List.set_cons_zero, List.set_cons_succ]
          refine wpAnyH_done (by kernel_rfl) ?_ _
          go_wp2_with fail
          go_ret
          exact ⟨ret_bool (HF.out (by rfl)).symm, by first | exact hw3 | exact hw3.drew | exact below_drews hw3 _⟩
        · have HKL : Hid (∀ q : Bool, q = decide (0 < (kth ks k).kids.length) → (q = true → fitS f (.mk s n t ns ks) = false) ∧ (q = false → kidsS f.of ks (k + 1) = true)) := fun q hq => ⟨fun e => HF.out (by rw [e] at hq; have := of_decide_eq_true hq.symm; simp; intro e0; rw [e0] at this; simp at this), fun e => HN.out (by rw [e] at hq; have := of_decide_eq_false hq.symm; simp; simpa using (show (kth ks k).kids.length = 0 by omega))⟩
          have h80k : 0 ≤ ((kth ks k).kids.length : Int) := by omega
          go_wp2_with fail
          go_cut [85] (fun r wx => r = .bool (decide (0 < (kth ks k).kids.length)) ∧ Below (w.heap.size + 1 + 1) X wx)
          case first =>
            go_region_held3 (fun w' => w'.cell? ⟨w.heap.size, 1, none⟩ = some (.string f.of) ∧ w'.cell? ⟨w.heap.size + 1, 4, none⟩ = some (.slice (some ⟨b, off, none⟩) ks.length kc) ∧ w'.cell? ⟨b, off + k * 5, none⟩ = some (.int .i64 (kth ks k).sort) ∧ w'.cell? ⟨b, off + k * 5 + 1, none⟩ = some (.int .i64 (kth ks k).num) ∧ w'.cell? ⟨b, off + k * 5 + 2, none⟩ = some (.string (kth ks k).text) ∧ w'.cell? ⟨b, off + k * 5 + 3, none⟩ = some (.slice na2 (kth ks k).names.length nc2) ∧ w'.cell? ⟨b, off + k * 5 + 4, none⟩ = some (.slice ka2 (kth ks k).kids.length kc2)) (go_keep)
              (first
                | (
                  go_at_call 79
                  refine hOk.mono ?_
                  rintro e w3 ⟨rfl, hb3⟩
                  have hT3 := hT.trans ((below_undrew hb3).mono (by omega))
                  obtain ⟨p1', ⟨v0', v1', v2', v3', v4'⟩, hw3, hz3⟩ := TB w3 hT3
                  obtain ⟨c0', c1', c2', c3', c4'⟩ := hcs w3 hw3))
            all_goals
              go_wp2_with fail
              go_meet
              case rel => exact ⟨rfl, hT3⟩
          case rest =>
          obtain ⟨rfl, hT3⟩ := hcut
          obtain ⟨w3, rfl⟩ : ∃ x, x = wc := ⟨wc, rfl⟩
          obtain ⟨-, -, hw3, -⟩ := TB w3 hT3
          clear p1 v0 v1 v2 v3 v4 c0 c1 c2 c3 c4
          cases hq : decide (0 < (kth ks k).kids.length)
          · have HQ := (HKL.out _ rfl).2 hq
            have HQ' : Hid (kidsS f.of ks (k + 1) = true) := HQ
            clear HQ
            go_wp2_with fail
            go_roundw
            case rel => exact ⟨k + 1, by omega, by go_num, hT3, HQ'.out⟩
            case measure => simp [intOf]; omega
          · have HQ := (HKL.out _ rfl).1 hq
            have HQ' : Hid (fitS f (.mk s n t ns ks) = false) := HQ
            clear HQ
            go_wp2_with fail
            go_ret
            exact ⟨ret_bool HQ'.out.symm, hw3⟩
      · go_wp2_with fail
        go_ret
        have e : k = ks.length := by omega
        exact ⟨ret_bool (by rw [HR.out, ← e, HP.out]), hw2⟩
end Go.Proofs.YtmemijccbmnaaaaGreat
