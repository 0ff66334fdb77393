/-
  StoreOk, by the model.
-/
import Derived.Test.YtelggammjejobaaGreatSSpec2
import Derived.Test.YtelggammjejobaaGreatPCheck
import Derived.IntWalk
namespace Go.Proofs.YtelggammjejobaaGreat
set_option linter.unusedSimpArgs false
set_option linter.unusedVariables false
open Go.RowKit

/-- What the model's StoreOk answers. -/
def storeS (p : Pt) (rs : List Ro) : Bool := okP p && (decide (1 ≤ rs.length) && decide (rs.length ≤ 16)) && (isT (rth rs 0).type [113, 117, 101, 114, 121] && (rth rs 0).id == 0) && allTo (oneS p rs) rs.length

theorem tIx_nat (p : Pt) (s : ByteArray) (h : 0 ≤ tIx p s) : ∃ n : Nat, tIx p s = n ∧ n < p.types.length := by
  rcases tIx_bd p s with h1 | h1
  · exact ⟨(tIx p s).toNat, by omega, by omega⟩
  · omega

set_option maxRecDepth 20000 in
set_option maxHeartbeats 6400000 in
theorem StoreOkS_any (p : Pt) (rs : List Ro) (w : World) (B : Nat) (v : Value) (ra : Option Addr) (rc : Nat) (hP : PRep w (· < B) p v) (hRs : RoReps w (· < B) rs ra) (hB : B ≤ w.heap.size) (hz : szP p ≤ 1048576) :
    Calls Tryz.prog 6 #[v, .slice ra rs.length rc] w fun e w' => e = .returned (.bool (storeS p rs)) ∧ Below w.heap.size w w' := by
  have hP' := hP
  have h48 := hRs.1
  obtain ⟨name, types⟩ := p
  obtain ⟨ta, tc, rfl, hK, -⟩ := hP
  simp only at hP' hK
  have hC := fun W (h : Below w.heap.size w W) => PartCheckS_any ⟨name, types⟩ W B _ (hP'.under (h.mono hB)) (by have := h.size; omega) hz
  have hok := partFault_ok ⟨name, types⟩
  have HS : Hid (storeS ⟨name, types⟩ rs = (okP ⟨name, types⟩ && (decide (1 ≤ rs.length) && decide (rs.length ≤ 16)) && (isT (rth rs 0).type [113, 117, 101, 114, 121] && (rth rs 0).id == 0) && allTo (oneS ⟨name, types⟩ rs) rs.length)) := rfl
  generalize partFault ⟨name, types⟩ = pf at hC hok
  obtain ⟨pa, pc⟩ := pf
  simp only at hC hok
  have hfld := field_code (.int .i64 pa) (.int .i64 pc)
  obtain ⟨X, hXe⟩ : ∃ X, X = (w.alloc (.cells #[.string name, .slice ta types.length tc] 31)) := ⟨_, rfl⟩
  have TB : ∀ W, Below (w.heap.size + 1) X W → W.cell? ⟨w.heap.size, 0, none⟩ = some (.string name) ∧ W.cell? ⟨w.heap.size, 1, none⟩ = some (.slice ta types.length tc) ∧ Below w.heap.size w W ∧ w.heap.size < W.heap.size := fun W h => by
    have hz := h.size
    rw [hXe] at h
    have hz2 : X.heap.size = w.heap.size + 1 := by rw [hXe]; simp
    exact ⟨(h.cell (p := ⟨w.heap.size, 0, none⟩) (by show w.heap.size < _; omega)).trans (box_new _ _ 0 (by simp)), (h.cell (p := ⟨w.heap.size, 1, none⟩) (by show w.heap.size < _; omega)).trans (box_new _ _ 1 (by simp)), (below_box w _).trans (h.mono (by omega)), by omega⟩
  have hT0 : Below (w.heap.size + 1) X (w.alloc (.cells #[.string name, .slice ta types.length tc] 31)) := by rw [hXe]; exact Below.refl _ _
  clear hXe
  cases ho : okP ⟨name, types⟩
  · have hne : (pc != 0) = true := by simp; intro e; rw [hok.1 e] at ho; cases ho
    go_enter Tryz.func6, Tryz.ntmps6
    go_wp2_with (go_at_call 14; refine (hC _ (below_box _ _)).mono ?_; rintro e w1 ⟨rfl, hb1⟩)
    go_ret
    exact ⟨ret_bool (by rw [HS.out, ho]; rfl), (below_box w _).trans (hb1.mono (by simp))⟩
  have hp0 : pc = 0 := hok.2 ho
  subst hp0
  clear hok
  cases hl : (decide ((1 : Int) ≤ (rs.length : Int)) && decide ((rs.length : Int) ≤ 16))
  · have HL : Hid ((decide (1 ≤ rs.length) && decide (rs.length ≤ 16)) = false) := by
      show _ = _
      rw [← hl]; congr 1 <;> simp <;> omega
    go_enter Tryz.func6, Tryz.ntmps6
    go_wp2_with (first
      | (go_at_call 14; refine (hC _ (below_box _ _)).mono ?_; rintro e w1 ⟨rfl, hb1⟩)
      | (go_at_call 15; refine (l1In_any _ _ _ _).mono ?_; rw [hl]; rintro e w2 ⟨rfl, rfl⟩))
    go_ret
    exact ⟨ret_bool (by rw [HS.out, HL.out]; simp), (below_box w _).trans (hb1.mono (by simp))⟩
  have hln : 1 ≤ rs.length ∧ rs.length ≤ 16 := by simp only [Bool.and_eq_true, decide_eq_true_eq] at hl; omega
  obtain ⟨b, off, ca0, cc0, rfl, -, hcs0⟩ := hRs.at hB 0 (by omega)
  have h0l : (0 : Int) < (rs.length : Int) := by omega
  have FC : ∀ W, Below w.heap.size w W → W.cell? ⟨b, off, none⟩ = some (.string (rth rs 0).type) ∧ W.cell? ⟨b, off + 1, none⟩ = some (.int .i64 (rth rs 0).id) := fun W hb => by
    obtain ⟨x0, x1, -⟩ := hcs0 W hb
    simp only [Nat.zero_mul, Nat.add_zero] at x0 x1
    exact ⟨x0, x1⟩
  cases hf1 : ((rth rs 0).type.toList == [113, 117, 101, 114, 121])
  · have hf1' : ((rth rs 0).type.toList != [113, 117, 101, 114, 121]) = true := by simp only [bne, hf1]; rfl
    go_enter Tryz.func6, Tryz.ntmps6
    go_wp2_with (first
      | (go_at_call 14; refine (hC _ (below_box _ _)).mono ?_; rintro e w1 ⟨rfl, hb1⟩; have hw1 := (below_box w _).trans (hb1.mono (by simp)); obtain ⟨x0, x1⟩ := FC w1 hw1)
      | (go_at_call 15; refine (l1In_any _ _ _ _).mono ?_; rw [hl]; rintro e w2 ⟨rfl, rfl⟩))
    go_ret
    exact ⟨ret_bool (by rw [HS.out]; simp [isT, hf1]), hw1⟩
  have hf1' : ((rth rs 0).type.toList != [113, 117, 101, 114, 121]) = false := by simp only [bne, hf1]; rfl
  cases hf2 : ((rth rs 0).id == 0)
  · have hf2' : ((rth rs 0).id != 0) = true := by simp only [bne, hf2]; rfl
    go_enter Tryz.func6, Tryz.ntmps6
    go_wp2_with (first
      | (go_at_call 14; refine (hC _ (below_box _ _)).mono ?_; rintro e w1 ⟨rfl, hb1⟩; have hw1 := (below_box w _).trans (hb1.mono (by simp)); obtain ⟨x0, x1⟩ := FC w1 hw1)
      | (go_at_call 15; refine (l1In_any _ _ _ _).mono ?_; rw [hl]; rintro e w2 ⟨rfl, rfl⟩))
    go_ret
    exact ⟨ret_bool (by rw [HS.out]; simp [hf2]), hw1⟩
  have hf2' : ((rth rs 0).id != 0) = false := by simp only [bne, hf2]; rfl
  have HSR : Hid (storeS ⟨name, types⟩ rs = allTo (oneS ⟨name, types⟩ rs) rs.length) := by
    show _ = _
    rw [HS.out, ho, decide_eq_true hln.1, decide_eq_true hln.2, show isT (rth rs 0).type [113, 117, 101, 114, 121] = true from hf1, hf2]; rfl
  go_enter Tryz.func6, Tryz.ntmps6
  go_wp2_with (first
    | (go_at_call 14; refine (hC _ (below_box _ _)).mono ?_; rintro e w1 ⟨rfl, hb1⟩; have hw1 := (below_box w _).trans (hb1.mono (by simp)); obtain ⟨x0, x1⟩ := FC w1 hw1; have hT1 := hT0.trans (hb1.mono (by simp)))
    | (go_at_call 15; refine (l1In_any _ _ _ _).mono ?_; rw [hl]; rintro e w2 ⟨rfl, rfl⟩))
  clear x0 x1 hw1 hb1 hT0 hC hl hf1 hf1' hf2 hf2' FC hcs0 hfld HS
  go_loopw [5] (fun i wr => ∃ k : Nat, k ≤ rs.length ∧ i = .int .i64 k ∧ Below (w.heap.size + 1) X wr ∧ allTo (oneS ⟨name, types⟩ rs) k = true) (fun i _ => rs.length - (intOf i).toNat)
  case atStart => exact ⟨0, Nat.zero_le _, rfl, hT1, rfl⟩
  case round =>
    clear hT1
    obtain ⟨k, hk, rfl, hT, hp⟩ := hrel
    obtain ⟨w0, rfl⟩ : ∃ x, x = wr := ⟨wr, rfl⟩
    have HP : Hid (allTo (oneS ⟨name, types⟩ rs) k = true) := hp
    clear hp
    obtain ⟨p0, p1, hw0, hz0⟩ := TB w0 hT
    by_cases hlt : k < rs.length
    · have hki : (k : Int) < (rs.length : Int) := by omega
      obtain ⟨b2, off2, ca, cc, e2, hRo, hcs⟩ := hRs.at hB k hlt
      simp only [Option.some.injEq, Addr.mk.injEq, and_true] at e2
      obtain ⟨rfl, rfl⟩ := e2
      obtain ⟨c0, c1, c2⟩ := hcs w0 hw0
      have hL := l2Type_any ⟨name, types⟩ w0.drew B _ (rth rs k).type (hP'.under (hw0.drew.mono hB)) (by simp; omega)
      have HF : Hid (oneS ⟨name, types⟩ rs k = false → storeS ⟨name, types⟩ rs = false) := fun h => by rw [HSR.out]; exact allTo_false _ _ k hlt h
      have HN : Hid (oneS ⟨name, types⟩ rs k = true → allTo (oneS ⟨name, types⟩ rs) (k + 1) = true) := fun h => by rw [allTo_succ, HP.out]; exact h
      have HO : Hid (oneS ⟨name, types⟩ rs k = (decide (0 ≤ tIx ⟨name, types⟩ (rth rs k).type) && rowB (tth types (tIx ⟨name, types⟩ (rth rs k).type).toNat) (rth rs k) && (decide (k = 0) || (!(tIx ⟨name, types⟩ (rth rs k).type == 0) && !decide (tIx ⟨name, types⟩ (rth rs k).type < tIx ⟨name, types⟩ (rth rs (k - 1)).type) && !((tIx ⟨name, types⟩ (rth rs (k - 1)).type == tIx ⟨name, types⟩ (rth rs k).type) && decide ((rth rs k).id ≤ (rth rs (k - 1)).id)))))) := rfl
      have hnat := tIx_nat ⟨name, types⟩ (rth rs k).type
      have hL' : Calls Tryz.prog 16 #[.agg #[.string name, .slice ta types.length tc], .string (rth rs k).type] w0.drew fun e w' => e = .returned (.int .i64 (tIx ⟨name, types⟩ (rth rs k).type)) ∧ Below w0.drew.heap.size w0.drew w' := hL
      clear hL
      generalize tIx ⟨name, types⟩ (rth rs k).type = ix at hL' HO hnat
      go_wp2_with fail
      go_cut [6] (fun r wx => r = .int .i64 ix ∧ Below (w.heap.size + 1) X wx)
      case first =>
        go_region_held3 (fun w' => w'.cell? ⟨w.heap.size, 0, none⟩ = some (.string name) ∧ w'.cell? ⟨w.heap.size, 1, none⟩ = some (.slice ta types.length tc) ∧ w'.cell? ⟨b, off + k * 3, none⟩ = some (.string (rth rs k).type) ∧ w'.cell? ⟨b, off + k * 3 + 1, none⟩ = some (.int .i64 (rth rs k).id) ∧ w'.cell? ⟨b, off + k * 3 + 2, none⟩ = some (.slice ca (rth rs k).cells.length cc)) (go_keep)
          (first
            | (
              go_at_call 16
              refine hL'.mono ?_
              rintro e w1 ⟨rfl, hb1⟩
              have hT1 := hT.trans ((below_undrew hb1).mono (by omega))
              obtain ⟨p0', p1', hw1, hz1⟩ := TB w1 hT1
              obtain ⟨c0', c1', c2'⟩ := hcs w1 hw1))
        all_goals
          go_wp2_with fail
          go_meet
          case rel => exact ⟨rfl, hT1⟩
      case rest =>
      obtain ⟨rfl, hT2⟩ := hcut
      obtain ⟨w2, rfl⟩ : ∃ x, x = wc := ⟨wc, rfl⟩
      clear p0 p1 c0 c1 c2 hL' hw0 hz0 hT
      obtain ⟨p0, p1, hw2, hz2⟩ := TB w2 hT2
      obtain ⟨c0, c1, c2⟩ := hcs w2 hw2
      by_cases hix : ix < 0
      · have hix' : decide (ix < 0) = true := by simpa using hix
        have HQ : Hid (storeS ⟨name, types⟩ rs = false) := HF.out (by rw [HO.out, decide_eq_false (by omega : ¬ 0 ≤ ix)]; rfl)
        clear HF HN HO
        go_wp2_with fail
        go_quiet (fail)
        go_wp2_with fail
        go_ret
        exact ⟨ret_bool HQ.out.symm, below_drews hw2 _⟩
      obtain ⟨n, rfl, hn⟩ := hnat (by omega)
      have hn' : n < types.length := hn
      have hni : (n : Int) < (types.length : Int) := by omega
      have hn0 : decide ((n : Int) < 0) = false := by simp
      obtain ⟨tb, toff, fa, fc, rfl, hTR, hts⟩ := hK.at hB n hn'
      obtain ⟨t0, t1, t2⟩ := hts w2 hw2
      have hRow := l4Row_any (tth types n) (rth rs k) w2.drew B _ _ (hTR.under (hw2.drew.mono hB)) (hRo.under (hw2.drew.mono hB)) (by simp; omega)
      have HO2 : Hid (oneS ⟨name, types⟩ rs k = (rowB (tth types n) (rth rs k) && (decide (k = 0) || (!((n : Int) == 0) && !decide ((n : Int) < tIx ⟨name, types⟩ (rth rs (k - 1)).type) && !((tIx ⟨name, types⟩ (rth rs (k - 1)).type == (n : Int)) && decide ((rth rs k).id ≤ (rth rs (k - 1)).id)))))) := by show _ = _; rw [HO.out, decide_eq_true (by omega : (0 : Int) ≤ (n : Int))]; rfl
      generalize rowB (tth types n) (rth rs k) = rb at hRow HO2
      clear HO hnat hix hn
      go_wp2_with fail
      cases rb
      · have HQ : Hid (storeS ⟨name, types⟩ rs = false) := HF.out (by rw [HO2.out]; rfl)
        clear HF HN HO2
        refine wp_region_held_drew (S := fun w' => w'.cell? ⟨w.heap.size, 0, none⟩ = some (.string name) ∧ w'.cell? ⟨w.heap.size, 1, none⟩ = some (.slice (some ⟨tb, toff, none⟩) types.length tc) ∧ w'.cell? ⟨tb, toff + n * 3, none⟩ = some (.string (tth types n).name) ∧ w'.cell? ⟨tb, toff + n * 3 + 1, none⟩ = some (.string (tth types n).key) ∧ w'.cell? ⟨tb, toff + n * 3 + 2, none⟩ = some (.slice fa (tth types n).fields.length fc) ∧ w'.cell? ⟨b, off + k * 3, none⟩ = some (.string (rth rs k).type) ∧ w'.cell? ⟨b, off + k * 3 + 1, none⟩ = some (.int .i64 (rth rs k).id) ∧ w'.cell? ⟨b, off + k * 3 + 2, none⟩ = some (.slice ca (rth rs k).cells.length cc)) (by kernel_rfl) ⟨p0, p1, t0, t1, t2, c0, c1, c2⟩ (fun hHeld => ?_)
        refine wpAnyH_take (i := 0) (oi := { dst := some 45, op := Op.move (Operand.tmp 6), type := 3, pos := "l4_store.go:68", after := #[], guard := none }) (v := ?_) rfl (by kernel_rfl) (by kernel_rfl) (by kernel_rfl) (fun _ _ _ h => h) (Or.inl ⟨by rfl, ?_⟩) hHeld ?_
        rotate_left
        · intro w' hSw
          (try dsimp only at hSw)
          go_simp
          try with_reducible rfl
        try simp only [Act.put, List.setIfInBounds_toArray, List.set_cons_zero, List.set_cons_succ]
        refine wpAnyH_take (i := 1) (oi := { dst := some 46, op := Op.binOp BinOp.lss 3 (Operand.tmp 45) (Operand.const (Value.int IntKind.i64 0)) 3, type := 4, pos := "l4_store.go:68", after := #[{ on := 0, ground := Ground.data }], guard := none }) (v := ?_) rfl (by kernel_rfl) (by kernel_rfl) (by kernel_rfl) (fun _ _ _ h => h) (Or.inl ⟨by rfl, ?_⟩) hHeld ?_
        rotate_left
        · intro w' hSw
          (try dsimp only at hSw)
          go_simp
          try with_reducible rfl
        try simp only [Act.put, List.setIfInBounds_toArray, List.set_cons_zero, List.set_cons_succ]
        refine wpAnyH_take (i := 2) (oi := { dst := some 47, op := Op.move (Operand.tmp 46), type := 4, pos := "l4_store.go:68", after := #[{ on := 1, ground := Ground.data }], guard := none }) (v := ?_) rfl (by kernel_rfl) (by kernel_rfl) (by kernel_rfl) (fun _ _ _ h => h) (Or.inl ⟨by rfl, ?_⟩) hHeld ?_
        rotate_left
        · intro w' hSw
          (try dsimp only at hSw)
          go_simp
          try with_reducible rfl
        try simp only [Act.put, List.setIfInBounds_toArray, List.set_cons_zero, List.set_cons_succ]
        refine wpAnyH_take (i := 3) (oi := { dst := some 48, op := Op.fieldAddr 31 (Operand.tmp 2) 1, type := 0, pos := "l4_store.go:68", after := #[{ on := 2, ground := Ground.guard }], guard := some (2, false) }) (v := ?_) rfl (by kernel_rfl) (by kernel_rfl) (by kernel_rfl) (fun _ _ _ h => h) (Or.inl ⟨by rfl, ?_⟩) hHeld ?_
        rotate_left
        · intro w' hSw
          (try dsimp only at hSw)
          go_simp
          try with_reducible rfl
        try simp only [Act.put, List.setIfInBounds_toArray, List.set_cons_zero, List.set_cons_succ]
        refine wpAnyH_take (i := 4) (oi := { dst := some 49, op := Op.load 29 (Operand.tmp 48), type := 29, pos := "l4_store.go:68", after := #[{ on := 3, ground := Ground.data }, { on := 2, ground := Ground.guard }], guard := some (2, false) }) (v := ?_) rfl (by kernel_rfl) (by kernel_rfl) (by kernel_rfl) (fun _ _ _ h => h) (Or.inl ⟨by rfl, ?_⟩) hHeld ?_
        rotate_left
        · intro w' hSw
          (try dsimp only at hSw)
          go_simp
          try with_reducible rfl
        try simp only [Act.put, List.setIfInBounds_toArray, List.set_cons_zero, List.set_cons_succ]
        refine wpAnyH_take (i := 5) (oi := { dst := some 50, op := Op.move (Operand.tmp 6), type := 3, pos := "l4_store.go:68", after := #[{ on := 2, ground := Ground.guard }], guard := some (2, false) }) (v := ?_) rfl (by kernel_rfl) (by kernel_rfl) (by kernel_rfl) (fun _ _ _ h => h) (Or.inl ⟨by rfl, ?_⟩) hHeld ?_
        rotate_left
        · intro w' hSw
          (try dsimp only at hSw)
          go_simp
          try with_reducible rfl
        try simp only [Act.put, List.setIfInBounds_toArray, List.set_cons_zero, List.set_cons_succ]
        refine wpAnyH_take (i := 6) (oi := { dst := some 51, op := Op.indexAddr 29 (Operand.tmp 49) (Operand.tmp 50), type := 0, pos := "l4_store.go:68", after := #[{ on := 4, ground := Ground.data }, { on := 5, ground := Ground.data }, { on := 2, ground := Ground.guard }], guard := some (2, false) }) (v := ?_) rfl (by kernel_rfl) (by kernel_rfl) (by kernel_rfl) (fun _ _ _ h => h) (Or.inl ⟨by rfl, ?_⟩) hHeld ?_
        rotate_left
        · intro w' hSw
          (try dsimp only at hSw)
          go_simp
          try with_reducible rfl
        try simp only [Act.put, List.setIfInBounds_toArray, List.set_cons_zero, List.set_cons_succ]
        refine wpAnyH_take (i := 7) (oi := { dst := some 52, op := Op.load 54 (Operand.tmp 51), type := 54, pos := "l4_store.go:68", after := #[{ on := 6, ground := Ground.data }, { on := 2, ground := Ground.guard }], guard := some (2, false) }) (v := ?_) rfl (by kernel_rfl) (by kernel_rfl) (by kernel_rfl) (fun _ _ _ h => h) (Or.inl ⟨by rfl, ?_⟩) hHeld ?_
        rotate_left
        · intro w' hSw
          (try dsimp only at hSw)
          go_simp
          try with_reducible rfl
        try simp only [Act.put, List.setIfInBounds_toArray, List.set_cons_zero, List.set_cons_succ]
        refine wpAnyH_take (i := 8) (oi := { dst := some 53, op := Op.move (Operand.tmp 1), type := 33, pos := "l4_store.go:68", after := #[{ on := 2, ground := Ground.guard }], guard := some (2, false) }) (v := ?_) rfl (by kernel_rfl) (by kernel_rfl) (by kernel_rfl) (fun _ _ _ h => h) (Or.inl ⟨by rfl, ?_⟩) hHeld ?_
        rotate_left
        · intro w' hSw
          (try dsimp only at hSw)
          go_simp
          try with_reducible rfl
        try simp only [Act.put, List.setIfInBounds_toArray, List.set_cons_zero, List.set_cons_succ]
        refine wpAnyH_take (i := 9) (oi := { dst := some 54, op := Op.move (Operand.tmp 5), type := 3, pos := "l4_store.go:68", after := #[{ on := 2, ground := Ground.guard }], guard := some (2, false) }) (v := ?_) rfl (by kernel_rfl) (by kernel_rfl) (by kernel_rfl) (fun _ _ _ h => h) (Or.inl ⟨by rfl, ?_⟩) hHeld ?_
        rotate_left
        · intro w' hSw
          (try dsimp only at hSw)
          go_simp
          try with_reducible rfl
        try simp only [Act.put, List.setIfInBounds_toArray, List.set_cons_zero, List.set_cons_succ]
        refine wpAnyH_take (i := 10) (oi := { dst := some 55, op := Op.indexAddr 33 (Operand.tmp 53) (Operand.tmp 54), type := 0, pos := "l4_store.go:68", after := #[{ on := 8, ground := Ground.data }, { on := 9, ground := Ground.data }, { on := 2, ground := Ground.guard }], guard := some (2, false) }) (v := ?_) rfl (by kernel_rfl) (by kernel_rfl) (by kernel_rfl) (fun _ _ _ h => h) (Or.inl ⟨by rfl, ?_⟩) hHeld ?_
        rotate_left
        · intro w' hSw
          (try dsimp only at hSw)
          go_simp
          try with_reducible rfl
        try simp only [Act.put, List.setIfInBounds_toArray, List.set_cons_zero, List.set_cons_succ]
        refine wpAnyH_take (i := 11) (oi := { dst := some 56, op := Op.load 49 (Operand.tmp 55), type := 49, pos := "l4_store.go:68", after := #[{ on := 10, ground := Ground.data }, { on := 2, ground := Ground.guard }], guard := some (2, false) }) (v := ?_) rfl (by kernel_rfl) (by kernel_rfl) (by kernel_rfl) (fun _ _ _ h => h) (Or.inl ⟨by rfl, ?_⟩) hHeld ?_
        rotate_left
        · intro w' hSw
          (try dsimp only at hSw)
          go_simp
          try with_reducible rfl
        try simp only [Act.put, List.setIfInBounds_toArray, List.set_cons_zero, List.set_cons_succ]
        refine wpAnyH_ready (rs := [12]) (by kernel_rfl) (by simp) ?_
        refine AllReadyH.cons (o := { dst := some 57, op := Op.call { callee := Callee.value (Operand.func 17), args := #[Operand.tmp 52, Operand.tmp 56], argTypes := #[54, 49] }, type := 4, pos := "l4_store.go:68", after := #[{ on := 7, ground := Ground.data }, { on := 11, ground := Ground.data }, { on := 2, ground := Ground.chain }, { on := 2, ground := Ground.guard }], guard := some (2, false) }) rfl (fun K hK => ?_) AllReadyH.nil
        go_simp
        refine (hRow).mono ?_
        rintro e w3 ⟨rfl, hb3⟩
        have hb3' := below_undrew hb3
        have hT3 := hT2.trans (hb3'.mono (by omega))
        obtain ⟨p0', p1', hw3, hz3⟩ := TB w3 hT3
        obtain ⟨c0', c1', c2'⟩ := hcs w3 hw3
        obtain ⟨t0', t1', t2'⟩ := hts w3 hw3
        refine hK.out _ _ ⟨p0', p1', t0', t1', t2', c0', c1', c2'⟩ (fun hHeld => ?_)
        clear hK K
        try simp only [Act.put, List.setIfInBounds_toArray, List.set_cons_zero, List.set_cons_succ]
        refine wpAnyH_take (i := 13) (oi := { dst := some 58, op := Op.unOp UnOp.not 4 (Operand.tmp 57), type := 4, pos := "l4_store.go:68", after := #[{ on := 12, ground := Ground.data }, { on := 2, ground := Ground.guard }], guard := some (2, false) }) (v := ?_) rfl (by kernel_rfl) (by kernel_rfl) (by kernel_rfl) (fun _ _ _ h => h) (Or.inl ⟨by rfl, ?_⟩) hHeld ?_
        rotate_left
        · intro w' hSw
          (try dsimp only at hSw)
          go_simp
          try with_reducible rfl
        try simp only [Act.put, List.setIfInBounds_toArray, List.set_cons_zero, List.set_cons_succ]
        refine wpAnyH_take (i := 14) (oi := { dst := some 59, op := Op.pick (Operand.tmp 47) (Operand.const (Value.bool true)) (Operand.tmp 58), type := 4, pos := "l4_store.go:68", after := #[{ on := 2, ground := Ground.data }, { on := 13, ground := Ground.data }], guard := none }) (v := ?_) rfl (by kernel_rfl) (by kernel_rfl) (by kernel_rfl) (fun _ _ _ h => h) (Or.inl ⟨by rfl, ?_⟩) hHeld ?_
        rotate_left
        · intro w' hSw
          (try dsimp only at hSw)
          go_simp
          try with_reducible rfl
        try simp only [Act.put, List.setIfInBounds_toArray, List.set_cons_zero, List.set_cons_succ]
        refine wpAnyH_take (i := 15) (oi := { dst := some 60, op := Op.move (Operand.tmp 59), type := 4, pos := "l4_store.go:68", after := #[{ on := 14, ground := Ground.data }, { on := 12, ground := Ground.chain }], guard := none }) (v := ?_) rfl (by kernel_rfl) (by kernel_rfl) (by kernel_rfl) (fun _ _ _ h => h) (Or.inl ⟨by rfl, ?_⟩) hHeld ?_
        rotate_left
        · intro w' hSw
          (try dsimp only at hSw)
          go_simp
          try with_reducible rfl
        try simp only [Act.put, List.setIfInBounds_toArray, List.set_cons_zero, List.set_cons_succ]
        refine wpAnyH_take (i := 16) (oi := { dst := some 61, op := Op.move (Operand.tmp 5), type := 3, pos := "l4_store.go:68", after := #[{ on := 15, ground := Ground.guard }], guard := some (15, false) }) (v := undef) rfl (by kernel_rfl) (by kernel_rfl) (by kernel_rfl) (fun _ _ _ h => h) (Or.inr ⟨by rfl, rfl⟩) hHeld ?_
        try simp only [Act.put, List.setIfInBounds_toArray, List.set_cons_zero, List.set_cons_succ]
        refine wpAnyH_take (i := 17) (oi := { dst := some 62, op := Op.binOp BinOp.gtr 3 (Operand.tmp 61) (Operand.const (Value.int IntKind.i64 0)) 3, type := 4, pos := "l4_store.go:68", after := #[{ on := 16, ground := Ground.data }, { on := 15, ground := Ground.guard }], guard := some (15, false) }) (v := undef) rfl (by kernel_rfl) (by kernel_rfl) (by kernel_rfl) (fun _ _ _ h => h) (Or.inr ⟨by rfl, rfl⟩) hHeld ?_
        try simp only [Act.put, List.setIfInBounds_toArray, List.set_cons_zero, List.set_cons_succ]
        refine wpAnyH_take (i := 18) (oi := { dst := some 63, op := Op.move (Operand.tmp 62), type := 4, pos := "l4_store.go:68", after := #[{ on := 17, ground := Ground.data }, { on := 15, ground := Ground.chain }, { on := 15, ground := Ground.guard }], guard := some (15, false) }) (v := undef) rfl (by kernel_rfl) (by kernel_rfl) (by kernel_rfl) (fun _ _ _ h => h) (Or.inr ⟨by rfl, rfl⟩) hHeld ?_
        try simp only [Act.put, List.setIfInBounds_toArray, List.set_cons_zero, List.set_cons_succ]
        refine wpAnyH_take (i := 19) (oi := { dst := some 64, op := Op.move (Operand.tmp 6), type := 3, pos := "l4_store.go:68", after := #[{ on := 18, ground := Ground.guard }], guard := some (18, true) }) (v := undef) rfl (by kernel_rfl) (by kernel_rfl) (by kernel_rfl) (fun _ _ _ h => h) (Or.inr ⟨by rfl, rfl⟩) hHeld ?_
        try simp only [Act.put, List.setIfInBounds_toArray, List.set_cons_zero, List.set_cons_succ]
        refine wpAnyH_take (i := 20) (oi := { dst := some 65, op := Op.binOp BinOp.eql 3 (Operand.tmp 64) (Operand.const (Value.int IntKind.i64 0)) 3, type := 4, pos := "l4_store.go:68", after := #[{ on := 19, ground := Ground.data }, { on := 18, ground := Ground.guard }], guard := some (18, true) }) (v := undef) rfl (by kernel_rfl) (by kernel_rfl) (by kernel_rfl) (fun _ _ _ h => h) (Or.inr ⟨by rfl, rfl⟩) hHeld ?_
        try simp only [Act.put, List.setIfInBounds_toArray, List.set_cons_zero, List.set_cons_succ]
        refine wpAnyH_take (i := 21) (oi := { dst := some 66, op := Op.pick (Operand.tmp 63) (Operand.tmp 65) (Operand.const (Value.bool false)), type := 4, pos := "l4_store.go:68", after := #[{ on := 18, ground := Ground.data }, { on := 20, ground := Ground.data }, { on := 15, ground := Ground.guard }], guard := some (15, false) }) (v := undef) rfl (by kernel_rfl) (by kernel_rfl) (by kernel_rfl) (fun _ _ _ h => h) (Or.inr ⟨by rfl, rfl⟩) hHeld ?_
        try simp only [Act.put, List.setIfInBounds_toArray, List.set_cons_zero, List.set_cons_succ]
        refine wpAnyH_take (i := 22) (oi := { dst := some 67, op := Op.pick (Operand.tmp 60) (Operand.const (Value.bool true)) (Operand.tmp 66), type := 4, pos := "l4_store.go:68", after := #[{ on := 15, ground := Ground.data }, { on := 21, ground := Ground.data }], guard := none }) (v := ?_) rfl (by kernel_rfl) (by kernel_rfl) (by kernel_rfl) (fun _ _ _ h => h) (Or.inl ⟨by rfl, ?_⟩) hHeld ?_
        rotate_left
        · intro w' hSw
          (try dsimp only at hSw)
          go_simp
          try with_reducible rfl
        try simp only [Act.put, List.setIfInBounds_toArray, List.set_cons_zero, List.set_cons_succ]
        refine wpAnyH_done (by kernel_rfl) ?_ _
        go_wp2_with fail
        go_ret
        exact ⟨ret_bool HQ.out.symm, by first | exact hw3 | exact hw3.drew | exact below_drews hw3 _⟩
      by_cases hk0 : k = 0
      · have HQ : Hid (allTo (oneS ⟨name, types⟩ rs) (k + 1) = true) := HN.out (by rw [HO2.out, decide_eq_true hk0]; rfl)
        have d0 : decide ((0 : Int) < (k : Int)) = false := by simp; omega
        have d1 : decide (0 < k) = false := by simp; omega
        clear HF HN HO2 hk0
        refine wp_region_held_drew (S := fun w' => w'.cell? ⟨w.heap.size, 0, none⟩ = some (.string name) ∧ w'.cell? ⟨w.heap.size, 1, none⟩ = some (.slice (some ⟨tb, toff, none⟩) types.length tc) ∧ w'.cell? ⟨tb, toff + n * 3, none⟩ = some (.string (tth types n).name) ∧ w'.cell? ⟨tb, toff + n * 3 + 1, none⟩ = some (.string (tth types n).key) ∧ w'.cell? ⟨tb, toff + n * 3 + 2, none⟩ = some (.slice fa (tth types n).fields.length fc) ∧ w'.cell? ⟨b, off + k * 3, none⟩ = some (.string (rth rs k).type) ∧ w'.cell? ⟨b, off + k * 3 + 1, none⟩ = some (.int .i64 (rth rs k).id) ∧ w'.cell? ⟨b, off + k * 3 + 2, none⟩ = some (.slice ca (rth rs k).cells.length cc)) (by kernel_rfl) ⟨p0, p1, t0, t1, t2, c0, c1, c2⟩ (fun hHeld => ?_)
        refine wpAnyH_take (i := 0) (oi := { dst := some 45, op := Op.move (Operand.tmp 6), type := 3, pos := "l4_store.go:68", after := #[], guard := none }) (v := ?_) rfl (by kernel_rfl) (by kernel_rfl) (by kernel_rfl) (fun _ _ _ h => h) (Or.inl ⟨by rfl, ?_⟩) hHeld ?_
        rotate_left
        · intro w' hSw
          (try dsimp only at hSw)
          go_simp
          try with_reducible rfl
        try simp only [Act.put, List.setIfInBounds_toArray, List.set_cons_zero, List.set_cons_succ]
        refine wpAnyH_take (i := 1) (oi := { dst := some 46, op := Op.binOp BinOp.lss 3 (Operand.tmp 45) (Operand.const (Value.int IntKind.i64 0)) 3, type := 4, pos := "l4_store.go:68", after := #[{ on := 0, ground := Ground.data }], guard := none }) (v := ?_) rfl (by kernel_rfl) (by kernel_rfl) (by kernel_rfl) (fun _ _ _ h => h) (Or.inl ⟨by rfl, ?_⟩) hHeld ?_
        rotate_left
        · intro w' hSw
          (try dsimp only at hSw)
          go_simp
          try with_reducible rfl
        try simp only [Act.put, List.setIfInBounds_toArray, List.set_cons_zero, List.set_cons_succ]
        refine wpAnyH_take (i := 2) (oi := { dst := some 47, op := Op.move (Operand.tmp 46), type := 4, pos := "l4_store.go:68", after := #[{ on := 1, ground := Ground.data }], guard := none }) (v := ?_) rfl (by kernel_rfl) (by kernel_rfl) (by kernel_rfl) (fun _ _ _ h => h) (Or.inl ⟨by rfl, ?_⟩) hHeld ?_
        rotate_left
        · intro w' hSw
          (try dsimp only at hSw)
          go_simp
          try with_reducible rfl
        try simp only [Act.put, List.setIfInBounds_toArray, List.set_cons_zero, List.set_cons_succ]
        refine wpAnyH_take (i := 3) (oi := { dst := some 48, op := Op.fieldAddr 31 (Operand.tmp 2) 1, type := 0, pos := "l4_store.go:68", after := #[{ on := 2, ground := Ground.guard }], guard := some (2, false) }) (v := ?_) rfl (by kernel_rfl) (by kernel_rfl) (by kernel_rfl) (fun _ _ _ h => h) (Or.inl ⟨by rfl, ?_⟩) hHeld ?_
        rotate_left
        · intro w' hSw
          (try dsimp only at hSw)
          go_simp
          try with_reducible rfl
        try simp only [Act.put, List.setIfInBounds_toArray, List.set_cons_zero, List.set_cons_succ]
        refine wpAnyH_take (i := 4) (oi := { dst := some 49, op := Op.load 29 (Operand.tmp 48), type := 29, pos := "l4_store.go:68", after := #[{ on := 3, ground := Ground.data }, { on := 2, ground := Ground.guard }], guard := some (2, false) }) (v := ?_) rfl (by kernel_rfl) (by kernel_rfl) (by kernel_rfl) (fun _ _ _ h => h) (Or.inl ⟨by rfl, ?_⟩) hHeld ?_
        rotate_left
        · intro w' hSw
          (try dsimp only at hSw)
          go_simp
          try with_reducible rfl
        try simp only [Act.put, List.setIfInBounds_toArray, List.set_cons_zero, List.set_cons_succ]
        refine wpAnyH_take (i := 5) (oi := { dst := some 50, op := Op.move (Operand.tmp 6), type := 3, pos := "l4_store.go:68", after := #[{ on := 2, ground := Ground.guard }], guard := some (2, false) }) (v := ?_) rfl (by kernel_rfl) (by kernel_rfl) (by kernel_rfl) (fun _ _ _ h => h) (Or.inl ⟨by rfl, ?_⟩) hHeld ?_
        rotate_left
        · intro w' hSw
          (try dsimp only at hSw)
          go_simp
          try with_reducible rfl
        try simp only [Act.put, List.setIfInBounds_toArray, List.set_cons_zero, List.set_cons_succ]
        refine wpAnyH_take (i := 6) (oi := { dst := some 51, op := Op.indexAddr 29 (Operand.tmp 49) (Operand.tmp 50), type := 0, pos := "l4_store.go:68", after := #[{ on := 4, ground := Ground.data }, { on := 5, ground := Ground.data }, { on := 2, ground := Ground.guard }], guard := some (2, false) }) (v := ?_) rfl (by kernel_rfl) (by kernel_rfl) (by kernel_rfl) (fun _ _ _ h => h) (Or.inl ⟨by rfl, ?_⟩) hHeld ?_
        rotate_left
        · intro w' hSw
          (try dsimp only at hSw)
          go_simp
          try with_reducible rfl
        try simp only [Act.put, List.setIfInBounds_toArray, List.set_cons_zero, List.set_cons_succ]
        refine wpAnyH_take (i := 7) (oi := { dst := some 52, op := Op.load 54 (Operand.tmp 51), type := 54, pos := "l4_store.go:68", after := #[{ on := 6, ground := Ground.data }, { on := 2, ground := Ground.guard }], guard := some (2, false) }) (v := ?_) rfl (by kernel_rfl) (by kernel_rfl) (by kernel_rfl) (fun _ _ _ h => h) (Or.inl ⟨by rfl, ?_⟩) hHeld ?_
        rotate_left
        · intro w' hSw
          (try dsimp only at hSw)
          go_simp
          try with_reducible rfl
        try simp only [Act.put, List.setIfInBounds_toArray, List.set_cons_zero, List.set_cons_succ]
        refine wpAnyH_take (i := 8) (oi := { dst := some 53, op := Op.move (Operand.tmp 1), type := 33, pos := "l4_store.go:68", after := #[{ on := 2, ground := Ground.guard }], guard := some (2, false) }) (v := ?_) rfl (by kernel_rfl) (by kernel_rfl) (by kernel_rfl) (fun _ _ _ h => h) (Or.inl ⟨by rfl, ?_⟩) hHeld ?_
        rotate_left
        · intro w' hSw
          (try dsimp only at hSw)
          go_simp
          try with_reducible rfl
        try simp only [Act.put, List.setIfInBounds_toArray, List.set_cons_zero, List.set_cons_succ]
        refine wpAnyH_take (i := 9) (oi := { dst := some 54, op := Op.move (Operand.tmp 5), type := 3, pos := "l4_store.go:68", after := #[{ on := 2, ground := Ground.guard }], guard := some (2, false) }) (v := ?_) rfl (by kernel_rfl) (by kernel_rfl) (by kernel_rfl) (fun _ _ _ h => h) (Or.inl ⟨by rfl, ?_⟩) hHeld ?_
        rotate_left
        · intro w' hSw
          (try dsimp only at hSw)
          go_simp
          try with_reducible rfl
        try simp only [Act.put, List.setIfInBounds_toArray, List.set_cons_zero, List.set_cons_succ]
        refine wpAnyH_take (i := 10) (oi := { dst := some 55, op := Op.indexAddr 33 (Operand.tmp 53) (Operand.tmp 54), type := 0, pos := "l4_store.go:68", after := #[{ on := 8, ground := Ground.data }, { on := 9, ground := Ground.data }, { on := 2, ground := Ground.guard }], guard := some (2, false) }) (v := ?_) rfl (by kernel_rfl) (by kernel_rfl) (by kernel_rfl) (fun _ _ _ h => h) (Or.inl ⟨by rfl, ?_⟩) hHeld ?_
        rotate_left
        · intro w' hSw
          (try dsimp only at hSw)
          go_simp
          try with_reducible rfl
        try simp only [Act.put, List.setIfInBounds_toArray, List.set_cons_zero, List.set_cons_succ]
        refine wpAnyH_take (i := 11) (oi := { dst := some 56, op := Op.load 49 (Operand.tmp 55), type := 49, pos := "l4_store.go:68", after := #[{ on := 10, ground := Ground.data }, { on := 2, ground := Ground.guard }], guard := some (2, false) }) (v := ?_) rfl (by kernel_rfl) (by kernel_rfl) (by kernel_rfl) (fun _ _ _ h => h) (Or.inl ⟨by rfl, ?_⟩) hHeld ?_
        rotate_left
        · intro w' hSw
          (try dsimp only at hSw)
          go_simp
          try with_reducible rfl
        try simp only [Act.put, List.setIfInBounds_toArray, List.set_cons_zero, List.set_cons_succ]
        refine wpAnyH_ready (rs := [12]) (by kernel_rfl) (by simp) ?_
        refine AllReadyH.cons (o := { dst := some 57, op := Op.call { callee := Callee.value (Operand.func 17), args := #[Operand.tmp 52, Operand.tmp 56], argTypes := #[54, 49] }, type := 4, pos := "l4_store.go:68", after := #[{ on := 7, ground := Ground.data }, { on := 11, ground := Ground.data }, { on := 2, ground := Ground.chain }, { on := 2, ground := Ground.guard }], guard := some (2, false) }) rfl (fun K hK => ?_) AllReadyH.nil
        go_simp
        refine (hRow).mono ?_
        rintro e w3 ⟨rfl, hb3⟩
        have hb3' := below_undrew hb3
        have hT3 := hT2.trans (hb3'.mono (by omega))
        obtain ⟨p0', p1', hw3, hz3⟩ := TB w3 hT3
        obtain ⟨c0', c1', c2'⟩ := hcs w3 hw3
        obtain ⟨t0', t1', t2'⟩ := hts w3 hw3
        refine hK.out _ _ ⟨p0', p1', t0', t1', t2', c0', c1', c2'⟩ (fun hHeld => ?_)
        clear hK K
        try simp only [Act.put, List.setIfInBounds_toArray, List.set_cons_zero, List.set_cons_succ]
        refine wpAnyH_take (i := 13) (oi := { dst := some 58, op := Op.unOp UnOp.not 4 (Operand.tmp 57), type := 4, pos := "l4_store.go:68", after := #[{ on := 12, ground := Ground.data }, { on := 2, ground := Ground.guard }], guard := some (2, false) }) (v := ?_) rfl (by kernel_rfl) (by kernel_rfl) (by kernel_rfl) (fun _ _ _ h => h) (Or.inl ⟨by rfl, ?_⟩) hHeld ?_
        rotate_left
        · intro w' hSw
          (try dsimp only at hSw)
          go_simp
          try with_reducible rfl
        try simp only [Act.put, List.setIfInBounds_toArray, List.set_cons_zero, List.set_cons_succ]
        refine wpAnyH_take (i := 14) (oi := { dst := some 59, op := Op.pick (Operand.tmp 47) (Operand.const (Value.bool true)) (Operand.tmp 58), type := 4, pos := "l4_store.go:68", after := #[{ on := 2, ground := Ground.data }, { on := 13, ground := Ground.data }], guard := none }) (v := ?_) rfl (by kernel_rfl) (by kernel_rfl) (by kernel_rfl) (fun _ _ _ h => h) (Or.inl ⟨by rfl, ?_⟩) hHeld ?_
        rotate_left
        · intro w' hSw
          (try dsimp only at hSw)
          go_simp
          try with_reducible rfl
        try simp only [Act.put, List.setIfInBounds_toArray, List.set_cons_zero, List.set_cons_succ]
        refine wpAnyH_take (i := 15) (oi := { dst := some 60, op := Op.move (Operand.tmp 59), type := 4, pos := "l4_store.go:68", after := #[{ on := 14, ground := Ground.data }, { on := 12, ground := Ground.chain }], guard := none }) (v := ?_) rfl (by kernel_rfl) (by kernel_rfl) (by kernel_rfl) (fun _ _ _ h => h) (Or.inl ⟨by rfl, ?_⟩) hHeld ?_
        rotate_left
        · intro w' hSw
          (try dsimp only at hSw)
          go_simp
          try with_reducible rfl
        try simp only [Act.put, List.setIfInBounds_toArray, List.set_cons_zero, List.set_cons_succ]
        refine wpAnyH_take (i := 16) (oi := { dst := some 61, op := Op.move (Operand.tmp 5), type := 3, pos := "l4_store.go:68", after := #[{ on := 15, ground := Ground.guard }], guard := some (15, false) }) (v := ?_) rfl (by kernel_rfl) (by kernel_rfl) (by kernel_rfl) (fun _ _ _ h => h) (Or.inl ⟨by rfl, ?_⟩) hHeld ?_
        rotate_left
        · intro w' hSw
          (try dsimp only at hSw)
          go_simp
          try with_reducible rfl
        try simp only [Act.put, List.setIfInBounds_toArray, List.set_cons_zero, List.set_cons_succ]
        refine wpAnyH_take (i := 17) (oi := { dst := some 62, op := Op.binOp BinOp.gtr 3 (Operand.tmp 61) (Operand.const (Value.int IntKind.i64 0)) 3, type := 4, pos := "l4_store.go:68", after := #[{ on := 16, ground := Ground.data }, { on := 15, ground := Ground.guard }], guard := some (15, false) }) (v := ?_) rfl (by kernel_rfl) (by kernel_rfl) (by kernel_rfl) (fun _ _ _ h => h) (Or.inl ⟨by rfl, ?_⟩) hHeld ?_
        rotate_left
        · intro w' hSw
          (try dsimp only at hSw)
          go_simp
          try with_reducible rfl
        try simp only [Act.put, List.setIfInBounds_toArray, List.set_cons_zero, List.set_cons_succ]
        refine wpAnyH_take (i := 18) (oi := { dst := some 63, op := Op.move (Operand.tmp 62), type := 4, pos := "l4_store.go:68", after := #[{ on := 17, ground := Ground.data }, { on := 15, ground := Ground.chain }, { on := 15, ground := Ground.guard }], guard := some (15, false) }) (v := ?_) rfl (by kernel_rfl) (by kernel_rfl) (by kernel_rfl) (fun _ _ _ h => h) (Or.inl ⟨by rfl, ?_⟩) hHeld ?_
        rotate_left
        · intro w' hSw
          (try dsimp only at hSw)
          go_simp
          try with_reducible rfl
        try simp only [Act.put, List.setIfInBounds_toArray, List.set_cons_zero, List.set_cons_succ]
        refine wpAnyH_take (i := 19) (oi := { dst := some 64, op := Op.move (Operand.tmp 6), type := 3, pos := "l4_store.go:68", after := #[{ on := 18, ground := Ground.guard }], guard := some (18, true) }) (v := undef) rfl (by kernel_rfl) (by kernel_rfl) (by kernel_rfl) (fun _ _ _ h => h) (Or.inr ⟨by rfl, rfl⟩) hHeld ?_
        try simp only [Act.put, List.setIfInBounds_toArray, List.set_cons_zero, List.set_cons_succ]
        refine wpAnyH_take (i := 20) (oi := { dst := some 65, op := Op.binOp BinOp.eql 3 (Operand.tmp 64) (Operand.const (Value.int IntKind.i64 0)) 3, type := 4, pos := "l4_store.go:68", after := #[{ on := 19, ground := Ground.data }, { on := 18, ground := Ground.guard }], guard := some (18, true) }) (v := undef) rfl (by kernel_rfl) (by kernel_rfl) (by kernel_rfl) (fun _ _ _ h => h) (Or.inr ⟨by rfl, rfl⟩) hHeld ?_
        try simp only [Act.put, List.setIfInBounds_toArray, List.set_cons_zero, List.set_cons_succ]
        refine wpAnyH_take (i := 21) (oi := { dst := some 66, op := Op.pick (Operand.tmp 63) (Operand.tmp 65) (Operand.const (Value.bool false)), type := 4, pos := "l4_store.go:68", after := #[{ on := 18, ground := Ground.data }, { on := 20, ground := Ground.data }, { on := 15, ground := Ground.guard }], guard := some (15, false) }) (v := ?_) rfl (by kernel_rfl) (by kernel_rfl) (by kernel_rfl) (fun _ _ _ h => h) (Or.inl ⟨by rfl, ?_⟩) hHeld ?_
        rotate_left
        · intro w' hSw
          (try dsimp only at hSw)
          go_simp
          try with_reducible rfl
        try simp only [Act.put, List.setIfInBounds_toArray, List.set_cons_zero, List.set_cons_succ]
        refine wpAnyH_take (i := 22) (oi := { dst := some 67, op := Op.pick (Operand.tmp 60) (Operand.const (Value.bool true)) (Operand.tmp 66), type := 4, pos := "l4_store.go:68", after := #[{ on := 15, ground := Ground.data }, { on := 21, ground := Ground.data }], guard := none }) (v := ?_) rfl (by kernel_rfl) (by kernel_rfl) (by kernel_rfl) (fun _ _ _ h => h) (Or.inl ⟨by rfl, ?_⟩) hHeld ?_
        rotate_left
        · intro w' hSw
          (try dsimp only at hSw)
          go_simp
          try with_reducible rfl
        try simp only [Act.put, List.setIfInBounds_toArray, List.set_cons_zero, List.set_cons_succ]
        refine wpAnyH_done (by kernel_rfl) ?_ _
        go_wp2_with fail
        go_roundw
        case rel => exact ⟨k + 1, by omega, by go_num, by first | exact hT3 | exact hT3.drew | exact below_drews hT3 _, HQ.out⟩
        case measure => simp [intOf]; omega
      have d0 : decide ((0 : Int) < (k : Int)) = true := by simp; omega
      have d1 : decide (0 < k) = true := by simp; omega
      have HO3 : Hid (oneS ⟨name, types⟩ rs k = (!((n : Int) == 0) && !decide ((n : Int) < tIx ⟨name, types⟩ (rth rs (k - 1)).type) && !((tIx ⟨name, types⟩ (rth rs (k - 1)).type == (n : Int)) && decide ((rth rs k).id ≤ (rth rs (k - 1)).id)))) := by show _ = _; rw [HO2.out, decide_eq_false hk0]; rfl
      clear HO2
      go_cut [67] (fun r wx => r = .bool ((n : Int) == 0) ∧ Below (w.heap.size + 1) X wx)
      case first =>
        go_region_held3 (fun w' => w'.cell? ⟨w.heap.size, 0, none⟩ = some (.string name) ∧ w'.cell? ⟨w.heap.size, 1, none⟩ = some (.slice (some ⟨tb, toff, none⟩) types.length tc) ∧ w'.cell? ⟨tb, toff + n * 3, none⟩ = some (.string (tth types n).name) ∧ w'.cell? ⟨tb, toff + n * 3 + 1, none⟩ = some (.string (tth types n).key) ∧ w'.cell? ⟨tb, toff + n * 3 + 2, none⟩ = some (.slice fa (tth types n).fields.length fc) ∧ w'.cell? ⟨b, off + k * 3, none⟩ = some (.string (rth rs k).type) ∧ w'.cell? ⟨b, off + k * 3 + 1, none⟩ = some (.int .i64 (rth rs k).id) ∧ w'.cell? ⟨b, off + k * 3 + 2, none⟩ = some (.slice ca (rth rs k).cells.length cc)) (go_keep)
          (first
            | (
              go_at_call 17
              refine hRow.mono ?_
              rintro e w3 ⟨rfl, hb3⟩
              have hb3' := below_undrew hb3
              have hT3 := hT2.trans (hb3'.mono (by omega))
              obtain ⟨p0', p1', hw3, hz3⟩ := TB w3 hT3
              obtain ⟨c0', c1', c2'⟩ := hcs w3 hw3
              obtain ⟨t0', t1', t2'⟩ := hts w3 hw3))
        all_goals
          go_wp2_with fail
          go_meet
          case rel => exact ⟨rfl, hT3⟩
      case rest =>
      obtain ⟨rfl, hT3⟩ := hcut
      obtain ⟨w3, rfl⟩ : ∃ x, x = wc := ⟨wc, rfl⟩
      clear p0 p1 c0 c1 c2 t0 t1 t2 hRow hw2 hz2 hT2 hTR hts
      obtain ⟨p0, p1, hw3, hz3⟩ := TB w3 hT3
      cases hn00 : ((n : Int) == 0)
      case true =>
        have HQ : Hid (storeS ⟨name, types⟩ rs = false) := HF.out (by rw [HO3.out, hn00]; rfl)
        clear HF HN HO3
        go_wp2_with fail
        go_ret
        exact ⟨ret_bool HQ.out.symm, hw3⟩
      obtain ⟨j, hj⟩ : ∃ j, j = k - 1 := ⟨_, rfl⟩
      rw [← hj] at HO3
      have hjl : j < rs.length := by omega
      have hji : (j : Int) < (rs.length : Int) := by omega
      have hwr : IntKind.i64.wrap ((k : Int) - 1) = (j : Int) := by rw [IntWalk.i64_in _ (by omega)]; omega
      obtain ⟨b3, off3, ca3, cc3, e3, -, hcj⟩ := hRs.at hB j hjl
      simp only [Option.some.injEq, Addr.mk.injEq, and_true] at e3
      obtain ⟨rfl, rfl⟩ := e3
      obtain ⟨y0, y1, y2⟩ := hcj w3 hw3
      have hkj : (k : Int) - 1 = (j : Int) := by omega
      have hwj : IntKind.i64.wrap (j : Int) = (j : Int) := IntWalk.i64_in _ (by omega)
      have hj0 : (0 : Int) ≤ (j : Int) := by omega
      clear hj hk0
      have hL2 : Calls Tryz.prog 16 #[.agg #[.string name, .slice (some ⟨tb, toff, none⟩) types.length tc], .string (rth rs j).type] w3.drew fun e w' => e = .returned (.int .i64 (tIx ⟨name, types⟩ (rth rs j).type)) ∧ Below w3.drew.heap.size w3.drew w' := l2Type_any ⟨name, types⟩ w3.drew B _ (rth rs j).type (hP'.under (hw3.drew.mono hB)) (by simp; omega)
      generalize tIx ⟨name, types⟩ (rth rs j).type = bx at hL2 HO3
      go_wp2_with fail
      go_cut [7] (fun r wx => r = .int .i64 bx ∧ Below (w.heap.size + 1) X wx)
      case first =>
        go_region_held3 (fun w' => w'.cell? ⟨w.heap.size, 0, none⟩ = some (.string name) ∧ w'.cell? ⟨w.heap.size, 1, none⟩ = some (.slice (some ⟨tb, toff, none⟩) types.length tc) ∧ w'.cell? ⟨b, off + j * 3, none⟩ = some (.string (rth rs j).type)) (go_keep)
          (first
            | (
              go_at_call 16
              refine hL2.mono ?_
              rintro e w4 ⟨rfl, hb4⟩
              have hT4 := hT3.trans ((below_undrew hb4).mono (by omega))
              obtain ⟨p0', p1', hw4, hz4⟩ := TB w4 hT4
              obtain ⟨y0', y1', y2'⟩ := hcj w4 hw4))
        all_goals
          go_wp2_with fail
          go_meet
          case rel => exact ⟨rfl, hT4⟩
      case rest =>
      obtain ⟨rfl, hT4⟩ := hcut
      obtain ⟨w4, rfl⟩ : ∃ x, x = wc := ⟨wc, rfl⟩
      clear p0 p1 y0 y1 y2 hL2 hw3 hz3 hT3
      obtain ⟨p0, p1, hw4, hz4⟩ := TB w4 hT4
      obtain ⟨y0, y1, y2⟩ := hcj w4 hw4
      obtain ⟨c0, c1, c2⟩ := hcs w4 hw4
      rw [hn00] at HO3
      by_cases hbn : (n : Int) < bx
      · have hbn' : decide ((n : Int) < bx) = true := by simpa using hbn
        have HQ : Hid (storeS ⟨name, types⟩ rs = false) := HF.out (by rw [HO3.out, hbn']; rfl)
        clear HF HN HO3
        go_wp2_with fail
        go_quiet (fail)
        go_wp2_with fail
        go_ret
        exact ⟨ret_bool HQ.out.symm, below_drews hw4 _⟩
      have hbn' : decide ((n : Int) < bx) = false := by simpa using hbn
      rw [hbn'] at HO3
      cases hbe : (bx == (n : Int))
      · have HQ : Hid (allTo (oneS ⟨name, types⟩ rs) (k + 1) = true) := HN.out (by rw [HO3.out, hbe]; rfl)
        clear HF HN HO3
        go_wp2_with fail
        go_quiet (fail)
        go_wp2_with fail
        go_roundw
        case rel => exact ⟨k + 1, by omega, by go_num, below_drews hT4 _, HQ.out⟩
        case measure => simp [intOf]; omega
      rw [hbe] at HO3
      by_cases hle : (rth rs k).id ≤ (rth rs j).id
      · have hle' : decide ((rth rs k).id ≤ (rth rs j).id) = true := by simpa using hle
        have HQ : Hid (storeS ⟨name, types⟩ rs = false) := HF.out (by rw [HO3.out, hle']; rfl)
        clear HF HN HO3
        go_wp2_with fail
        go_quiet (fail)
        go_wp2_with fail
        go_ret
        exact ⟨ret_bool HQ.out.symm, below_drews hw4 _⟩
      · have hle' : decide ((rth rs k).id ≤ (rth rs j).id) = false := by simpa using hle
        have HQ : Hid (allTo (oneS ⟨name, types⟩ rs) (k + 1) = true) := HN.out (by rw [HO3.out, hle']; rfl)
        clear HF HN HO3
        go_wp2_with fail
        go_quiet (fail)
        go_wp2_with fail
        go_roundw
        case rel => exact ⟨k + 1, by omega, by go_num, below_drews hT4 _, HQ.out⟩
        case measure => simp [intOf]; omega
    · go_wp2_with fail
      go_ret
      have e : k = rs.length := by omega
      exact ⟨ret_bool (by rw [HSR.out, ← e, HP.out]), hw0⟩
end Go.Proofs.YtelggammjejobaaGreat
