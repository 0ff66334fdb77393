import Derived.Test.YtgcfgadkclfonaaGreatDoorJ4
import Derived.Test.YtgcfgadkclfonaaGreatDoorJ2
import Derived.Laws.IdiomStrings
import Derived.Deep.RegionWith
namespace Go.Proofs.YtgcfgadkclfonaaGreatDoor
set_option linter.unusedSimpArgs false
set_option linter.unusedVariables false
open Go.RowKit

theorem toList_app (a b : ByteArray) : (a ++ b).toList = a.toList ++ b.toList := by
  rw [ByteArray.toList_eq, ByteArray.toList_eq, ByteArray.toList_eq, ByteArray.data_append]
  simp
/-- A byte in a list of one, as a text. -/
theorem byte_text (W : World) (b : Nat) (v : Nat) (hv : v < 256) (hb : W.cell? ⟨b, 0, none⟩ = some (.int .u8 (v : Int))) :
    Sem.run Tryz.prog (convert 109 9 (.slice (some ⟨b, 0, none⟩) 1 1)) W = .ok (.string ⟨#[UInt8.ofNat v]⟩) W :=
  run_convert_bytes_back (P := Tryz.prog) W 109 9 5 ⟨b, 0, none⟩ 1 [UInt8.ofNat v] Tryz.underlying109 Tryz.underlying5 Tryz.underlying9 (fun j hj => by
    have hj0 : j = 0 := by simpa using hj
    subst hj0
    have hd : (UInt8.ofNat v).toNat = v := by rw [UInt8.toNat_ofNat']; omega
    simp only [List.getElem_cons_zero, hd]
    simpa [Addr.add] using hb)

set_option maxRecDepth 20000 in
set_option maxHeartbeats 1600000 in
theorem l1Dec_any : ∀ (m n : Nat) (w : World) (dd : Nat), n ≤ m → n ≤ 999999 → n < 10 ^ (dd + 1) → dd ≤ 10 →
    Calls Tryz.prog 77 #[.int .i64 n] w fun e w' => (∃ x : ByteArray, e = .returned (.string x) ∧ x.toList = decL n ∧ x.size ≤ dd + 1) ∧ Below w.heap.size w w' := by
  intro m
  induction m using Nat.strongRecOn with
  | ind m IH =>
    intro n w dd hn h9 hdd hd10
    have hn0 : ¬ (n : Int) < 0 := by omega
    have hn1 : ¬ (n : Int) < -9223372036854775807 := by omega
    by_cases h10 : n < 10
    · have HD := hid_of (decL_small h10)
      have hi10 : (n : Int) < 10 := by omega
      have hw8 : IntKind.u8.wrap (48 + (n : Int)) = 48 + (n : Int) := by have : IntKind.u8.wrap (48 + (n : Int)) = (48 + (n : Int)) % 256 := rfl; omega
      have hcv := byte_text (w.alloc (.cells #[.int .u8 (48 + (n : Int))] 5)) w.heap.size (48 + n) (by omega) (by simp [go_sem])
      generalize UInt8.ofNat (48 + n) = dg at hcv HD
      go_enter Tryz.func77, Tryz.ntmps77
      go_wp2_with fail
      go_ret
      exact ⟨⟨_, rfl, by rw [HD.out, ByteArray.toList_eq], by show 1 ≤ _; omega⟩, below_box w _⟩
    · obtain ⟨dd, rfl⟩ : ∃ d, dd = d + 1 := ⟨dd - 1, by
        rcases Nat.eq_zero_or_pos dd with h | h
        · subst h; simp at hdd; omega
        · omega⟩
      have HDB := hid_of (decL_big h10)
      have hi10 : ¬ (n : Int) < 10 := by omega
      have hIH := fun W => IH (n / 10) (by omega) (n / 10) W dd (Nat.le_refl _) (by omega) (by rw [Nat.pow_succ] at hdd; omega) (by omega)
      simp only [Int.natCast_ediv, Int.cast_ofNat_Int] at hIH
      have HIH := hid_of hIH
      have HCV : Hid (∀ W b, W.cell? ⟨b, 0, none⟩ = some (.int .u8 (48 + (n : Int) % 10)) → Sem.run Tryz.prog (convert 109 9 (.slice (some ⟨b, 0, none⟩) 1 1)) W = .ok (.string ⟨#[UInt8.ofNat (48 + n % 10)]⟩) W) := hid_of fun W b hb => byte_text W b (48 + n % 10) (by omega) (by rw [hb]; congr 2)
      generalize hdg : UInt8.ofNat (48 + n % 10) = dg at HCV HDB
      have hsd : (⟨#[dg]⟩ : ByteArray).size = 1 := rfl
      have ht : (n : Int).tmod 10 = (n : Int) % 10 := Int.tmod_eq_emod_of_nonneg (by omega)
      have hw1 : IntKind.i64.wrap ((n : Int) / 10) = (n : Int) / 10 := IntWalk.i64_in _ (by omega)
      have hw2 : IntKind.i64.wrap (48 + (n : Int) % 10) = 48 + (n : Int) % 10 := IntWalk.i64_in _ (by omega)
      have hw3 : IntKind.u8.wrap (48 + (n : Int) % 10) = 48 + (n : Int) % 10 := by have : IntKind.u8.wrap (48 + (n : Int) % 10) = (48 + (n : Int) % 10) % 256 := rfl; omega
      clear hIH IH
      go_enter Tryz.func77, Tryz.ntmps77
      go_wp2_with fail
      refine wp_region_held_drew (S := (fun _ => True)) (by kernel_rfl) trivial (fun hHeld => ?_)
      have bX : Below w.heap.size w w.drew := (Below.refl _ _).drew
      generalize w.drew = wD at *
      refine wpAnyH_take (i := 0) (oi := { dst := some 18, op := Op.move (Operand.tmp 0), type := 3, pos := "l1_json.go:20", after := #[], guard := none }) (v := ?_) rfl (by kernel_rfl) (by kernel_rfl) (by kernel_rfl) (fun _ _ _ h => h) (Or.inl ⟨by rfl, ?_⟩) hHeld ?_
      rotate_left
      · intro w' hSw
        (try dsimp only at hSw)
        go_simp
        try with_reducible rfl
      try simp only [Act.put, List.setIfInBounds_toArray, List.set_cons_zero, List.set_cons_succ]
      refine wpAnyH_take (i := 1) (oi := { dst := some 19, op := Op.binOp BinOp.quo 3 (Operand.tmp 18) (Operand.const (Value.int IntKind.i64 10)) 3, type := 3, pos := "l1_json.go:20", after := #[{ on := 0, ground := Ground.data }], guard := none }) (v := ?_) rfl (by kernel_rfl) (by kernel_rfl) (by kernel_rfl) (fun _ _ _ h => h) (Or.inl ⟨by rfl, ?_⟩) hHeld ?_
      rotate_left
      · intro w' hSw
        (try dsimp only at hSw)
        go_simp
        try with_reducible rfl
      try simp only [Act.put, List.setIfInBounds_toArray, List.set_cons_zero, List.set_cons_succ]
      refine wpAnyH_take (i := 3) (oi := { dst := some 21, op := Op.move (Operand.tmp 0), type := 3, pos := "l1_json.go:20", after := #[], guard := none }) (v := ?_) rfl (by kernel_rfl) (by kernel_rfl) (by kernel_rfl) (fun _ _ _ h => h) (Or.inl ⟨by rfl, ?_⟩) hHeld ?_
      rotate_left
      · intro w' hSw
        (try dsimp only at hSw)
        go_simp
        try with_reducible rfl
      try simp only [Act.put, List.setIfInBounds_toArray, List.set_cons_zero, List.set_cons_succ]
      refine wpAnyH_take (i := 4) (oi := { dst := some 22, op := Op.binOp BinOp.rem 3 (Operand.tmp 21) (Operand.const (Value.int IntKind.i64 10)) 3, type := 3, pos := "l1_json.go:20", after := #[{ on := 3, ground := Ground.data }], guard := none }) (v := ?_) rfl (by kernel_rfl) (by kernel_rfl) (by kernel_rfl) (fun _ _ _ h => h) (Or.inl ⟨by rfl, ?_⟩) hHeld ?_
      rotate_left
      · intro w' hSw
        (try dsimp only at hSw)
        go_simp
        try with_reducible rfl
      try simp only [Act.put, List.setIfInBounds_toArray, List.set_cons_zero, List.set_cons_succ]
      refine wpAnyH_take (i := 5) (oi := { dst := some 23, op := Op.binOp BinOp.add 3 (Operand.const (Value.int IntKind.i64 48)) (Operand.tmp 22) 3, type := 3, pos := "l1_json.go:20", after := #[{ on := 4, ground := Ground.data }], guard := none }) (v := ?_) rfl (by kernel_rfl) (by kernel_rfl) (by kernel_rfl) (fun _ _ _ h => h) (Or.inl ⟨by rfl, ?_⟩) hHeld ?_
      rotate_left
      · intro w' hSw
        (try dsimp only at hSw)
        go_simp
        try with_reducible rfl
      try simp only [Act.put, List.setIfInBounds_toArray, List.set_cons_zero, List.set_cons_succ]
      refine wpAnyH_take (i := 6) (oi := { dst := some 24, op := Op.convert 3 5 (Operand.tmp 23), type := 5, pos := "l1_json.go:20", after := #[{ on := 5, ground := Ground.data }], guard := none }) (v := ?_) rfl (by kernel_rfl) (by kernel_rfl) (by kernel_rfl) (fun _ _ _ h => h) (Or.inl ⟨by rfl, ?_⟩) hHeld ?_
      rotate_left
      · intro w' hSw
        (try dsimp only at hSw)
        go_simp
        try with_reducible rfl
      try simp only [Act.put, List.setIfInBounds_toArray, List.set_cons_zero, List.set_cons_succ]
      refine wpAnyH_ready (rs := [2, 7]) (by kernel_rfl) (by simp) ?_
      refine AllReadyH.cons (o := { dst := some 20, op := Op.call { callee := Callee.value (Operand.func 77), args := #[Operand.tmp 19], argTypes := #[3] }, type := 9, pos := "l1_json.go:20", after := #[{ on := 1, ground := Ground.data }], guard := none }) rfl (fun K hK => ?_) ?_
      · go_simp
        refine (HIH.out wD).mono ?_
        rintro e wC ⟨⟨x, rfl, hx, hxz⟩, bC⟩
        have bX := bX.trans (bC.mono bX.size)
        have HX := hid_of hx
        have hxs : ¬ 9223372036854775807 < x.size + 1 := by omega
        clear hx
        refine hK.out _ _ trivial (fun hHeld => ?_)
        clear hK K
        try simp only [Act.put, List.setIfInBounds_toArray, List.set_cons_zero, List.set_cons_succ]
        refine wpAnyH_ready (rs := [7]) (by kernel_rfl) (by simp) ?_
        refine AllReadyH.cons (o := { dst := some 25, op := Op.buildSlice 109 1 #[(0, Operand.tmp 24)], type := 109, pos := "l1_json.go:20", after := #[{ on := 6, ground := Ground.data }], guard := none }) rfl (fun K hK => ?_) AllReadyH.nil
        go_simp
        have bA := below_box wC (.cells #[.int .u8 (48 + (n : Int) % 10)] 5)
        have nA := block_new (w := wC) #[.int .u8 (48 + (n : Int) % 10)] 5 rfl
        have zA : wC.heap.size < (wC.alloc (.cells #[.int .u8 (48 + (n : Int) % 10)] 5)).heap.size := by simp
        have bX := bX.trans (bA.mono bX.size)
        refine hK.out _ _ trivial (fun hHeld => ?_)
        clear hK K
        try simp only [Act.put, List.setIfInBounds_toArray, List.set_cons_zero, List.set_cons_succ]
        generalize wC.alloc (.cells #[.int .u8 (48 + (n : Int) % 10)] 5) = wA at *
        refine wpAnyH_ready (rs := [8]) (by kernel_rfl) (by simp) ?_
        refine AllReadyH.cons (o := { dst := some 26, op := Op.convert 109 9 (Operand.tmp 25), type := 9, pos := "l1_json.go:20", after := #[{ on := 7, ground := Ground.data }], guard := none }) rfl (fun K hK => ?_) AllReadyH.nil
        have hcv := HCV.out wA _ (box_at nA 0 (by simp)).1
        go_simp
        refine hK.out _ _ trivial (fun hHeld => ?_)
        clear hK K
        try simp only [Act.put, List.setIfInBounds_toArray, List.set_cons_zero, List.set_cons_succ]
        refine wpAnyH_take (i := 9) (oi := { dst := some 27, op := Op.binOp BinOp.add 9 (Operand.tmp 20) (Operand.tmp 26) 9, type := 9, pos := "l1_json.go:20", after := #[{ on := 2, ground := Ground.data }, { on := 8, ground := Ground.data }], guard := none }) (v := ?_) rfl (by kernel_rfl) (by kernel_rfl) (by kernel_rfl) (fun _ _ _ h => h) (Or.inl ⟨by rfl, ?_⟩) hHeld ?_
        rotate_left
        · intro w' hSw
          (try dsimp only at hSw)
          go_simp
          try with_reducible rfl
        try simp only [Act.put, List.setIfInBounds_toArray, List.set_cons_zero, List.set_cons_succ]
        refine wpAnyH_take (i := 10) (oi := { dst := some 2, op := Op.assign (Operand.tmp 27), type := 9, pos := "l1_json.go:20", after := #[{ on := 9, ground := Ground.data }, { on := 2, ground := Ground.chain }, { on := 0, ground := Ground.phase }, { on := 1, ground := Ground.phase }, { on := 2, ground := Ground.phase }, { on := 3, ground := Ground.phase }, { on := 4, ground := Ground.phase }, { on := 5, ground := Ground.phase }, { on := 6, ground := Ground.phase }, { on := 7, ground := Ground.phase }, { on := 8, ground := Ground.phase }, { on := 9, ground := Ground.phase }], guard := none }) (v := ?_) rfl (by kernel_rfl) (by kernel_rfl) (by kernel_rfl) (fun _ _ _ h => h) (Or.inl ⟨by rfl, ?_⟩) hHeld ?_
        rotate_left
        · intro w' hSw
          (try dsimp only at hSw)
          go_simp
          try with_reducible rfl
        try simp only [Act.put, List.setIfInBounds_toArray, List.set_cons_zero, List.set_cons_succ]
        refine wpAnyH_done (by kernel_rfl) ?_ _
        go_wp2_with fail
        go_ret
        exact ⟨⟨x ++ ⟨#[dg]⟩, rfl, by rw [HDB.out, ← HX.out, toList_app, ByteArray.toList_eq ⟨#[dg]⟩], by rw [ByteArray.size_append, hsd]; omega⟩, bX⟩
      refine AllReadyH.cons (o := { dst := some 25, op := Op.buildSlice 109 1 #[(0, Operand.tmp 24)], type := 109, pos := "l1_json.go:20", after := #[{ on := 6, ground := Ground.data }], guard := none }) rfl (fun K hK => ?_) AllReadyH.nil
      go_simp
      have bA := below_box wD (.cells #[.int .u8 (48 + (n : Int) % 10)] 5)
      have nA := block_new (w := wD) #[.int .u8 (48 + (n : Int) % 10)] 5 rfl
      have zA : wD.heap.size < (wD.alloc (.cells #[.int .u8 (48 + (n : Int) % 10)] 5)).heap.size := by simp
      have bX := bX.trans (bA.mono bX.size)
      refine hK.out _ _ trivial (fun hHeld => ?_)
      clear hK K
      try simp only [Act.put, List.setIfInBounds_toArray, List.set_cons_zero, List.set_cons_succ]
      generalize wD.alloc (.cells #[.int .u8 (48 + (n : Int) % 10)] 5) = wA at *
      refine wpAnyH_ready (rs := [2, 8]) (by kernel_rfl) (by simp) ?_
      refine AllReadyH.cons (o := { dst := some 20, op := Op.call { callee := Callee.value (Operand.func 77), args := #[Operand.tmp 19], argTypes := #[3] }, type := 9, pos := "l1_json.go:20", after := #[{ on := 1, ground := Ground.data }], guard := none }) rfl (fun K hK => ?_) ?_
      · go_simp
        refine (HIH.out wA).mono ?_
        rintro e wC ⟨⟨x, rfl, hx, hxz⟩, bC⟩
        have bX := bX.trans (bC.mono bX.size)
        have HX := hid_of hx
        have hxs : ¬ 9223372036854775807 < x.size + 1 := by omega
        clear hx
        have nA := (bC.block _ zA).trans nA
        have zA := Nat.lt_of_lt_of_le zA bC.size
        refine hK.out _ _ trivial (fun hHeld => ?_)
        clear hK K
        try simp only [Act.put, List.setIfInBounds_toArray, List.set_cons_zero, List.set_cons_succ]
        refine wpAnyH_ready (rs := [8]) (by kernel_rfl) (by simp) ?_
        refine AllReadyH.cons (o := { dst := some 26, op := Op.convert 109 9 (Operand.tmp 25), type := 9, pos := "l1_json.go:20", after := #[{ on := 7, ground := Ground.data }], guard := none }) rfl (fun K hK => ?_) AllReadyH.nil
        have hcv := HCV.out wC _ (box_at nA 0 (by simp)).1
        go_simp
        refine hK.out _ _ trivial (fun hHeld => ?_)
        clear hK K
        try simp only [Act.put, List.setIfInBounds_toArray, List.set_cons_zero, List.set_cons_succ]
        refine wpAnyH_take (i := 9) (oi := { dst := some 27, op := Op.binOp BinOp.add 9 (Operand.tmp 20) (Operand.tmp 26) 9, type := 9, pos := "l1_json.go:20", after := #[{ on := 2, ground := Ground.data }, { on := 8, ground := Ground.data }], guard := none }) (v := ?_) rfl (by kernel_rfl) (by kernel_rfl) (by kernel_rfl) (fun _ _ _ h => h) (Or.inl ⟨by rfl, ?_⟩) hHeld ?_
        rotate_left
        · intro w' hSw
          (try dsimp only at hSw)
          go_simp
          try with_reducible rfl
        try simp only [Act.put, List.setIfInBounds_toArray, List.set_cons_zero, List.set_cons_succ]
        refine wpAnyH_take (i := 10) (oi := { dst := some 2, op := Op.assign (Operand.tmp 27), type := 9, pos := "l1_json.go:20", after := #[{ on := 9, ground := Ground.data }, { on := 2, ground := Ground.chain }, { on := 0, ground := Ground.phase }, { on := 1, ground := Ground.phase }, { on := 2, ground := Ground.phase }, { on := 3, ground := Ground.phase }, { on := 4, ground := Ground.phase }, { on := 5, ground := Ground.phase }, { on := 6, ground := Ground.phase }, { on := 7, ground := Ground.phase }, { on := 8, ground := Ground.phase }, { on := 9, ground := Ground.phase }], guard := none }) (v := ?_) rfl (by kernel_rfl) (by kernel_rfl) (by kernel_rfl) (fun _ _ _ h => h) (Or.inl ⟨by rfl, ?_⟩) hHeld ?_
        rotate_left
        · intro w' hSw
          (try dsimp only at hSw)
          go_simp
          try with_reducible rfl
        try simp only [Act.put, List.setIfInBounds_toArray, List.set_cons_zero, List.set_cons_succ]
        refine wpAnyH_done (by kernel_rfl) ?_ _
        go_wp2_with fail
        go_ret
        exact ⟨⟨x ++ ⟨#[dg]⟩, rfl, by rw [HDB.out, ← HX.out, toList_app, ByteArray.toList_eq ⟨#[dg]⟩], by rw [ByteArray.size_append, hsd]; omega⟩, bX⟩
      refine AllReadyH.cons (o := { dst := some 26, op := Op.convert 109 9 (Operand.tmp 25), type := 9, pos := "l1_json.go:20", after := #[{ on := 7, ground := Ground.data }], guard := none }) rfl (fun K hK => ?_) AllReadyH.nil
      have hcv := HCV.out wA _ (box_at nA 0 (by simp)).1
      go_simp
      refine hK.out _ _ trivial (fun hHeld => ?_)
      clear hK K
      try simp only [Act.put, List.setIfInBounds_toArray, List.set_cons_zero, List.set_cons_succ]
      refine wpAnyH_ready (rs := [2]) (by kernel_rfl) (by simp) ?_
      refine AllReadyH.cons (o := { dst := some 20, op := Op.call { callee := Callee.value (Operand.func 77), args := #[Operand.tmp 19], argTypes := #[3] }, type := 9, pos := "l1_json.go:20", after := #[{ on := 1, ground := Ground.data }], guard := none }) rfl (fun K hK => ?_) AllReadyH.nil
      go_simp
      refine (HIH.out wA).mono ?_
      rintro e wC ⟨⟨x, rfl, hx, hxz⟩, bC⟩
      have bX := bX.trans (bC.mono bX.size)
      have HX := hid_of hx
      have hxs : ¬ 9223372036854775807 < x.size + 1 := by omega
      clear hx
      have nA := (bC.block _ zA).trans nA
      have zA := Nat.lt_of_lt_of_le zA bC.size
      refine hK.out _ _ trivial (fun hHeld => ?_)
      clear hK K
      try simp only [Act.put, List.setIfInBounds_toArray, List.set_cons_zero, List.set_cons_succ]
      refine wpAnyH_take (i := 9) (oi := { dst := some 27, op := Op.binOp BinOp.add 9 (Operand.tmp 20) (Operand.tmp 26) 9, type := 9, pos := "l1_json.go:20", after := #[{ on := 2, ground := Ground.data }, { on := 8, ground := Ground.data }], guard := none }) (v := ?_) rfl (by kernel_rfl) (by kernel_rfl) (by kernel_rfl) (fun _ _ _ h => h) (Or.inl ⟨by rfl, ?_⟩) hHeld ?_
      rotate_left
      · intro w' hSw
        (try dsimp only at hSw)
        go_simp
        try with_reducible rfl
      try simp only [Act.put, List.setIfInBounds_toArray, List.set_cons_zero, List.set_cons_succ]
      refine wpAnyH_take (i := 10) (oi := { dst := some 2, op := Op.assign (Operand.tmp 27), type := 9, pos := "l1_json.go:20", after := #[{ on := 9, ground := Ground.data }, { on := 2, ground := Ground.chain }, { on := 0, ground := Ground.phase }, { on := 1, ground := Ground.phase }, { on := 2, ground := Ground.phase }, { on := 3, ground := Ground.phase }, { on := 4, ground := Ground.phase }, { on := 5, ground := Ground.phase }, { on := 6, ground := Ground.phase }, { on := 7, ground := Ground.phase }, { on := 8, ground := Ground.phase }, { on := 9, ground := Ground.phase }], guard := none }) (v := ?_) rfl (by kernel_rfl) (by kernel_rfl) (by kernel_rfl) (fun _ _ _ h => h) (Or.inl ⟨by rfl, ?_⟩) hHeld ?_
      rotate_left
      · intro w' hSw
        (try dsimp only at hSw)
        go_simp
        try with_reducible rfl
      try simp only [Act.put, List.setIfInBounds_toArray, List.set_cons_zero, List.set_cons_succ]
      refine wpAnyH_done (by kernel_rfl) ?_ _
      go_wp2_with fail
      go_ret
      exact ⟨⟨x ++ ⟨#[dg]⟩, rfl, by rw [HDB.out, ← HX.out, toList_app, ByteArray.toList_eq ⟨#[dg]⟩], by rw [ByteArray.size_append, hsd]; omega⟩, bX⟩
end Go.Proofs.YtgcfgadkclfonaaGreatDoor

namespace Go.Proofs.YtgcfgadkclfonaaGreatDoor
set_option linter.unusedSimpArgs false
set_option linter.unusedVariables false
open Go.RowKit

theorem lit_one (c : UInt8) : (⟨#[c]⟩ : ByteArray).toList = [c] := by rw [ByteArray.toList_eq]
theorem txt_size {f d : Nat} {ks : List Se} {k : Nat} {x : ByteArray} (hk : k ≤ ks.length) (hf : FitS (f + 1) ks) (hok : okTo (f + 1) d ks ks.length = true) (hc : cntTo (f + 1) ks ks.length ≤ 24) (hx : x.toList = 123 :: txtTo (f + 1) ks k) : x.size ≤ 673 := by
  have h1 := txtTo_len (f + 1) d ks k hk hf (okTo_mono f d ks hk hok)
  have h2 := cntTo_mono (f + 1) ks hk
  have h3 := congrArg List.length hx
  rw [toList_len] at h3
  simp at h3
  omega

set_option maxRecDepth 20000 in
set_option maxHeartbeats 6400000 in
theorem l3Write_any : ∀ (f d : Nat) (ks : List Se) (w : World) (B : Nat) (ka : Option Addr) (kc : Nat), FitS f ks → SeReps w (· < B) ks ka → B ≤ w.heap.size → okTo f d ks ks.length = true → cntTo f ks ks.length ≤ 24 →
    Calls Tryz.prog 50 #[.slice ka ks.length kc] w fun e w' => (∃ x : ByteArray, e = .returned (.string x) ∧ x.toList = txtL f ks ∧ x.size ≤ 674) ∧ Below w.heap.size w w' := by
  intro f
  induction f with
  | zero =>
    intro d ks w B ka kc hf hR hB hok hc
    have e : ks = [] := hf
    subst e
    go_enter Tryz.func50, Tryz.ntmps50
    go_wp2_with fail
    go_loopw [3, 4] (fun o i wr => o = .string ⟨#[123]⟩ ∧ i = .int .i64 0 ∧ wr = w) (fun _ _ _ => 0)
    case atStart => exact ⟨rfl, rfl, rfl⟩
    case round =>
      obtain ⟨rfl, rfl, rfl⟩ := hrel
      go_wp2_with fail
      go_ret
      exact ⟨⟨_, rfl, by rw [toList_app, ByteArray.toList_eq, ByteArray.toList_eq]; rfl, by show 2 ≤ 674; omega⟩, Below.refl _ _⟩
  | succ f IH =>
    intro d ks w B ka kc hf hR hB hok hc
    obtain ⟨h72, C, hA, hr⟩ := id hR
    have HR := hid_of hR
    clear hR
    go_enter Tryz.func50, Tryz.ntmps50
    go_wp2_with fail
    go_loopw [3, 4] (fun o i wr => ∃ (k : Nat) (x : ByteArray), k ≤ ks.length ∧ i = .int .i64 k ∧ o = .string x ∧ Hid (x.toList = 123 :: txtTo (f + 1) ks k) ∧ Below w.heap.size w wr) (fun _ i _ => ks.length - (intOf i).toNat)
    case atStart => exact ⟨0, ⟨#[123]⟩, Nat.zero_le _, rfl, rfl, hid_of (by rw [ByteArray.toList_eq]; rfl), Below.refl _ _⟩
    case round =>
      obtain ⟨k, x, hk, rfl, rfl, HX, hbel⟩ := hrel
      obtain ⟨w0, rfl⟩ : ∃ y, y = wr := ⟨wr, rfl⟩
      have hxz := txt_size hk hf hok hc HX.out
      by_cases hlt : k < ks.length
      case neg =>
        have e : k = ks.length := by omega
        subst e
        go_wp2_with fail
        go_ret
        exact ⟨⟨_, rfl, by rw [toList_app, HX.out, ByteArray.toList_eq ⟨#[125]⟩]; rfl, by rw [ByteArray.size_append]; show x.size + 1 ≤ _; omega⟩, hbel⟩
      obtain ⟨kb, koff, rfl, hkB, hkc⟩ := hA (by omega)
      have hki : (k : Int) < (ks.length : Int) := by omega
      obtain ⟨sa, sc, e0, e1, e2, e3, e4, hal, hnm, hKids⟩ := (hr k hlt).pieces
      have hcell : ∀ m, m < 5 → w0.cell? ⟨kb, koff + k * 5 + m, none⟩ = some (C k m) := fun m hm => (hbel.cell (p := ⟨kb, koff + k * 5 + m, none⟩) (by show kb < _; omega)).trans (hkc k hlt m hm)
      have q0 : w0.cell? ⟨kb, koff + k * 5, none⟩ = some (.string (sth ks k).al) := e0 ▸ hcell 0 (by omega)
      have q1 : w0.cell? ⟨kb, koff + k * 5 + 1, none⟩ = some (.string (sth ks k).name) := e1 ▸ hcell 1 (by omega)
      have q2 : w0.cell? ⟨kb, koff + k * 5 + 2, none⟩ = some (.bool (sth ks k).one) := e2 ▸ hcell 2 (by omega)
      have q3 : w0.cell? ⟨kb, koff + k * 5 + 3, none⟩ = some (.int .i64 (sth ks k).id) := e3 ▸ hcell 3 (by omega)
      have q4 : w0.cell? ⟨kb, koff + k * 5 + 4, none⟩ = some (.slice sa (sth ks k).kids.length sc) := e4 ▸ hcell 4 (by omega)
      have hfit := hf k hlt
      have hok1 := okTo_mono f d ks (show k + 1 ≤ ks.length by omega) hok
      rw [okTo_succ] at hok1
      simp only [Bool.and_eq_true] at hok1
      obtain ⟨-, ⟨hsel, -⟩, -, hokk⟩ := hok1
      have hcn := cntTo_mono (f + 1) ks (show k + 1 ≤ ks.length by omega)
      rw [cntTo_succ, cntSe_kids] at hcn
      have hIH := fun W (hW : Below w.heap.size w W) => IH (d + 1) (sth ks k).kids W B sa sc hfit (hKids.under (hW.mono hB)) (by have := hW.size; omega) hokk (by omega)
      simp only [txtL] at hIH
      have HIH := hid_of hIH
      clear hIH
      have HT := hid_of (txtTo_succ f ks k)
      have hid9 := selB_id hsel
      have hal8 : (sth ks k).al.size ≤ 8 := by
        simp only [selB, Bool.and_eq_true, Bool.or_eq_true] at hsel
        rcases hsel.1.1.2 with h | h
        · have := toList_len (sth ks k).al
          rw [List.isEmpty_iff] at h
          rw [h] at this
          simp at this
          omega
        · exact name_size h.1
      have hnm8 : (sth ks k).name.size ≤ 8 := by
        simp only [selB, Bool.and_eq_true] at hsel
        exact name_size hsel.1.1.1
      have HHD : Hid (headL (sth ks k) = (if (sth ks k).al.toList.isEmpty = true then [] else (sth ks k).al.toList ++ [58]) ++ (sth ks k).name.toList ++ (if (sth ks k).one = true then 40 :: decL (sth ks k).id.toNat ++ [41] else [])) := rfl
      clear hok hokk hcn e0 e1 e2 e3 e4 hcell hsel hKids hfit IH hal hnm
      generalize sth ks k = s at *
      generalize headL s = hdl at *
      obtain ⟨idn, hidn⟩ : ∃ n : Nat, s.id = n := ⟨s.id.toNat, by omega⟩
      rw [hidn] at q3 hid9 HHD
      simp only [Int.toNat_natCast] at HHD
      have HDEC := hid_of (fun W => l1Dec_any idn idn W 5 (Nat.le_refl _) (by omega) (by omega) (by omega))
      generalize decL idn = dl at *
      generalize txtTo f s.kids s.kids.length = tl at *
      generalize s.al = al at *
      generalize s.name = name at *
      generalize s.one = one at *
      clear hidn
      have hbox : Below w.heap.size w (w0.alloc (.cells #[.string al, .string name, .bool one, .int .i64 (idn : Int), .slice sa s.kids.length sc] 60)) := hbel.trans ((below_box w0 _).mono hbel.size)
      have nB := block_new (w := w0) #[.string al, .string name, .bool one, .int .i64 (idn : Int), .slice sa s.kids.length sc] 60 rfl
      have zB : w0.heap.size < (w0.alloc (.cells #[.string al, .string name, .bool one, .int .i64 (idn : Int), .slice sa s.kids.length sc] 60)).heap.size := by simp
      have HKE : Hid (s.kids.isEmpty = !decide (0 < s.kids.length)) := hid_of (by cases s.kids <;> simp)
      generalize s.kids.isEmpty = ke at *
      generalize s.kids.length = kl at *
      by_cases hk0 : 0 < k
      all_goals
        have hki0 := hk0
        cases hae : al.toList.isEmpty
        all_goals
          cases one
          all_goals
            by_cases hkl : 0 < kl
            all_goals
              have HN := hid_of (And.intro hk0 hkl)
              go_wp2_with (first
                | (
                  go_at_call 77
                  refine (HDEC.out _).mono ?_
                  rintro e w1 ⟨⟨dx, rfl, hdx, hdz⟩, hbd⟩
                  have nB1 := (hbd.block _ zB).trans nB
                  obtain ⟨v4, -⟩ := box_at nB1 4 (by simp)
                  have hb1 := hbox.trans (hbd.mono hbox.size)
                  have HDX := hid_of hdx
                  clear hdx)
                | (
                  go_at_call 50
                  refine (HIH.out _ (by first | exact hb1 | exact hbox)).mono ?_
                  rintro e w2 ⟨⟨kx, rfl, hkx, hkz⟩, hbk⟩
                  have HKX := hid_of hkx
                  clear hkx))
              go_roundw
              case measure => simp [intOf]; omega
              case rel =>
                refine ⟨k + 1, _, by omega, by go_num, rfl, hid_of ?_, by first | exact hb1.trans (hbk.mono hb1.size) | exact hbox.trans (hbk.mono hbox.size) | exact hb1 | exact hbox⟩
                have hk' := HN.out.1
                have hkl' := HN.out.2
                rw [HT.out, HHD.out, HKE.out]
                by_cases hz : k = 0
                all_goals
                  first
                    | omega
                    | simp [toList_app, lit_one, HX.out, HDX.out, HKX.out, hae, hz, hkl']
                    | simp [toList_app, lit_one, HX.out, HDX.out, hae, hz, hkl']
                    | simp [toList_app, lit_one, HX.out, HKX.out, hae, hz, hkl']
                    | simp [toList_app, lit_one, HX.out, hae, hz, hkl']
end Go.Proofs.YtgcfgadkclfonaaGreatDoor

namespace Go.Proofs.YtgcfgadkclfonaaGreatDoor
set_option linter.unusedSimpArgs false
set_option linter.unusedVariables false
open Go.RowKit

/-- An ask is ok, as it is meant. -/
def askOk (f : Nat) (ks : List Se) : Bool := askB f ks && decide ((txtL f ks).length ≤ 400)
/-- An ask's text, nothing if it is not ok. -/
def askTxt (f : Nat) (ks : List Se) : List UInt8 := if askOk f ks = true then txtL f ks else []
theorem FitS.ex {w : World} {P : Nat → Prop} {ks : List Se} {a : Option Addr} (h : SeReps w P ks a) : ∃ f, FitS f ks := by
  obtain ⟨-, C, -, hr⟩ := h
  obtain ⟨g, hg⟩ := se_bound ks.length hr
  cases g with
  | zero =>
    cases ks with
    | nil => exact ⟨0, rfl⟩
    | cons a l => exact (hg 0 (by simp)).elim
  | succ g => exact ⟨g + 1, fun i hi => FitS.of_rep (hg i hi)⟩
theorem askB_l3 {f : Nat} {ks : List Se} {x : Int} (h : L3P f 1 ks 24 x) (h0 : 0 < ks.length) : askB f ks = decide (0 ≤ x) := by
  obtain ⟨h1, -, -, -⟩ := h
  rw [Bool.eq_iff_iff, decide_eq_true_eq, h1, askB, Bool.and_eq_true, Bool.and_eq_true, decide_eq_true_eq]
  have hne : ks.isEmpty = false := by cases ks with
    | nil => simp at h0
    | cons a l => rfl
  rw [hne]
  simp
  omega

set_option maxRecDepth 20000 in
set_option maxHeartbeats 1600000 in
theorem AskOkS_any (f : Nat) (ks : List Se) (w : World) (B : Nat) (ka : Option Addr) (kc : Nat) (hf : FitS f ks) (hR : SeReps w (· < B) ks ka) (hB : B ≤ w.heap.size) :
    Calls Tryz.prog 29 #[.slice ka ks.length kc] w fun e w' => e = .returned (.bool (askOk f ks)) ∧ Below w.heap.size w w' := by
  have hL := fun W (hW : Below w.heap.size w W) => l3Ok_any f 1 ks W B ka kc 24 hf (hR.under (hW.mono hB)) (by have := hW.size; omega) (by omega) (by omega) (by omega)
  have hWr := fun W (hW : Below w.heap.size w W) h1 h2 => l3Write_any f 1 ks W B ka kc hf (hR.under (hW.mono hB)) (by have := hW.size; omega) h1 h2
  have HL := hid_of hL
  have HWr := hid_of hWr
  clear hL hWr
  by_cases h0 : 0 < ks.length
  case neg =>
    have e : ks = [] := List.length_eq_zero_iff.1 (by omega)
    subst e
    have HE : Hid (askOk f [] = false) := hid_of (by simp [askOk, askB])
    go_enter Tryz.func29, Tryz.ntmps29
    go_wp2_with fail
    go_ret
    exact ⟨ret_bool (by rw [HE.out]), Below.refl _ _⟩
  have hl0 : (0 : Int) < (ks.length : Int) := by omega
  have h48 := hR.1
  go_enter Tryz.func29, Tryz.ntmps29
  go_wp2_with fail
  refine (HL.out w (Below.refl _ _)).mono ?_
  rintro e w1 ⟨⟨x, rfl, hP⟩, hb1⟩
  have HB := hid_of (askB_l3 hP h0)
  have HP := hid_of hP
  clear hP
  by_cases hx : 0 ≤ x
  case neg =>
    have hx' : ¬ x ≥ 0 := by omega
    have HE : Hid (askOk f ks = false) := hid_of (by rw [askOk, HB.out]; simp [hx])
    go_wp2_with fail
    go_ret
    exact ⟨ret_bool (by rw [HE.out]), hb1⟩
  have hx' : x ≥ 0 := hx
  obtain ⟨-, q2, q3⟩ := HP.out.1.1 hx
  have HW := hid_of (HWr.out w1 hb1 q2 (by omega))
  go_wp2_with fail
  refine HW.out.mono ?_
  rintro e w2 ⟨⟨t, rfl, ht, htz⟩, hb2⟩
  have bw2 := hb1.trans (hb2.mono hb1.size)
  have HT := hid_of (show t.size = (txtL f ks).length by rw [← ht, toList_len])
  by_cases h4 : t.size ≤ 400
  · have h4i : (t.size : Int) ≤ 400 := by omega
    have HE : Hid (askOk f ks = true) := hid_of (by rw [askOk, HB.out, ← HT.out]; simp [hx, h4])
    go_wp2_with fail
    go_ret
    exact ⟨ret_bool (by rw [HE.out]; try (simp only [decide_eq_false_iff_not]; omega)), bw2⟩
  · have h4i : ¬ (t.size : Int) ≤ 400 := by omega
    have HE : Hid (askOk f ks = false) := hid_of (by rw [askOk, HB.out, ← HT.out]; simp [hx, h4])
    go_wp2_with fail
    go_ret
    exact ⟨ret_bool (by rw [HE.out]; try (simp only [decide_eq_false_iff_not]; omega)), bw2⟩

end Go.Proofs.YtgcfgadkclfonaaGreatDoor
