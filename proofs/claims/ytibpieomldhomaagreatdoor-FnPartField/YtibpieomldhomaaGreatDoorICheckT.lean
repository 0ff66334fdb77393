/-
  The program's checkType: what is wrong with a type first.
-/
import Derived.Test.YtibpieomldhomaaGreatDoorITwice
namespace Go.Proofs.YtibpieomldhomaaGreatDoor
set_option linter.unusedSimpArgs false
set_option linter.unusedVariables false
open Go.RowKit

/-- The code of what is wrong with a type first, 0 if nothing is. -/
def typeCode (p : Pt) (i : Nat) : Int :=
  if typeNamesB (tth p.types i) = false then 1 else if twiceB p.types i (tth p.types i) = true then 2 else if knownTo p (tth p.types i).fields (tth p.types i).fields.length = false then 3
  else if keyB (tth p.types i) = false then 4 else if needOkTo (tth p.types i) (tth p.types i).fields.length = false then 5 else if rootTo (tth p.types i).fields (tth p.types i).fields.length = false then 7 else 0
/-- A code as an error. -/
def codeErr (c : Int) : Value := if c = 0 then .nilIface else .iface 65 (.int .i64 c)

set_option maxHeartbeats 3200000 in
theorem checkType_any (p : Pt) (at' : Nat) (w : World) (B : Nat) (v : Value) (hP : PRep w (· < B) p v) (hat : at' < p.types.length) (hB : B ≤ w.heap.size) :
    Calls Tryz.prog 33 #[v, .int .i64 at'] w fun e w' => e = .returned (codeErr (typeCode p at')) ∧ Below w.heap.size w w' := by
  have hP' := hP
  obtain ⟨pname, types⟩ := p
  obtain ⟨ta, tc, rfl, hK, hnc, hpn⟩ := hP
  simp only at hK hnc hpn hat hP'
  have h56 := hK.1
  have HC : Hid (typeCode ⟨pname, types⟩ at' = if typeNamesB (tth types at') = false then 1 else if twiceB types at' (tth types at') = true then 2 else if knownTo ⟨pname, types⟩ (tth types at').fields (tth types at').fields.length = false then 3 else if keyB (tth types at') = false then 4 else if needOkTo (tth types at') (tth types at').fields.length = false then 5 else if rootTo (tth types at').fields (tth types at').fields.length = false then 7 else 0) := rfl
  obtain ⟨b, off, fa, fc, hta, htr, hcs⟩ := hK.at hB at' hat
  subst hta
  have BX : ∀ W, Below (w.heap.size + 1 + 1) ((w.alloc (.cells #[.string pname, .slice (some ⟨b, off, none⟩) types.length tc] 25)).alloc (.cells #[.string (tth types at').name, .string (tth types at').key, .slice fa (tth types at').fields.length fc] 40)) W → W.cell? ⟨w.heap.size, 0, none⟩ = some (.string pname) ∧ W.cell? ⟨w.heap.size, 1, none⟩ = some (.slice (some ⟨b, off, none⟩) types.length tc) ∧ W.cell? ⟨w.heap.size + 1, 0, none⟩ = some (.string (tth types at').name) ∧ W.cell? ⟨w.heap.size + 1, 1, none⟩ = some (.string (tth types at').key) ∧ W.cell? ⟨w.heap.size + 1, 2, none⟩ = some (.slice fa (tth types at').fields.length fc) ∧ Below w.heap.size w W ∧ w.heap.size + 1 < W.heap.size := fun W h => by
    have hz := h.size
    simp at hz
    have a : ∀ i (hi : i < 2), W.cell? ⟨w.heap.size, i, none⟩ = some #[Value.string pname, .slice (some ⟨b, off, none⟩) types.length tc][i] := fun i hi => (h.cell (p := ⟨w.heap.size, i, none⟩) (by show w.heap.size < _; omega)).trans (((below_box _ _).cell (p := ⟨w.heap.size, i, none⟩) (by show w.heap.size < _; simp)).trans (box_new _ _ i (by simpa using hi)))
    have c : ∀ i (hi : i < 3), W.cell? ⟨w.heap.size + 1, i, none⟩ = some #[Value.string (tth types at').name, .string (tth types at').key, .slice fa (tth types at').fields.length fc][i] := fun i hi => (h.cell (p := ⟨w.heap.size + 1, i, none⟩) (by show w.heap.size + 1 < _; omega)).trans (by simp)
    exact ⟨a 0 (by omega), a 1 (by omega), c 0 (by omega), c 1 (by omega), c 2 (by omega), (below_box2 w _ _).trans (h.mono (by omega)), by omega⟩
  have hT0 := Below.refl (w.heap.size + 1 + 1) ((w.alloc (.cells #[.string pname, .slice (some ⟨b, off, none⟩) types.length tc] 25)).alloc (.cells #[.string (tth types at').name, .string (tth types at').key, .slice fa (tth types at').fields.length fc] 40))
  have TR := fun W (h : Below (w.heap.size + 1 + 1) ((w.alloc (.cells #[.string pname, .slice (some ⟨b, off, none⟩) types.length tc] 25)).alloc (.cells #[.string (tth types at').name, .string (tth types at').key, .slice fa (tth types at').fields.length fc] 40)) W) => htr.under ((BX W h).2.2.2.2.2.1.mono hB)
  have hBW := fun W (h : Below (w.heap.size + 1 + 1) ((w.alloc (.cells #[.string pname, .slice (some ⟨b, off, none⟩) types.length tc] 25)).alloc (.cells #[.string (tth types at').name, .string (tth types at').key, .slice fa (tth types at').fields.length fc] 40)) W) => show B ≤ W.heap.size by have := (BX W h).2.2.2.2.2.2; omega
  have h1 := fun W h => isTypeOfNames_any (tth types at') W B _ (TR W h) (hBW W h)
  have h2 := fun W h => isTypeTwice_any types at' (tth types at') W B (some ⟨b, off, none⟩) tc _ (hK.under ((BX W h).2.2.2.2.2.1.mono hB)) (by omega) (TR W h) (hBW W h)
  have h3 := fun W h => isTypeKnown_any ⟨pname, types⟩ (tth types at') W B _ _ (hP'.under ((BX W h).2.2.2.2.2.1.mono hB)) (TR W h) (hBW W h)
  have h4 := fun W h => isKeyRight_any (tth types at') W B _ (TR W h) (hBW W h)
  have h5 := fun W h => needsRight_any (tth types at') W B _ (TR W h) (hBW W h)
  have h6 := fun W h => isTypeOfRoot_any (tth types at') W B _ (TR W h) (hBW W h)
  obtain ⟨c0, c1, c2⟩ := (fun o => hcs (w.alloc o) (below_box w o)) |> fun q => (⟨fun o => (q o).1, fun o => (q o).2.1, fun o => (q o).2.2⟩ : (∀ o, (w.alloc o).cell? ⟨b, off + at' * 3, none⟩ = _) ∧ (∀ o, (w.alloc o).cell? ⟨b, off + at' * 3 + 1, none⟩ = _) ∧ (∀ o, (w.alloc o).cell? ⟨b, off + at' * 3 + 2, none⟩ = _))
  clear hcs TR hBW
  have hai : (at' : Int) < (types.length : Int) := by omega
  have hal : (at' : Int) ≤ (tc : Int) := by omega
  cases x1 : typeNamesB (tth types at')
  · rw [x1] at h1
    have hcode : Hid (codeErr (typeCode ⟨pname, types⟩ at') = .iface 65 (.int .i64 1)) := by show _ = _; rw [HC.out]; simp [codeErr, x1]
    go_enter Tryz.func33, Tryz.ntmps33
    go_wp2_with (first
      | (
        go_at_call 49
        refine (h1 _ hT0).mono ?_
        rintro e w1 ⟨rfl, hb1⟩
        have hT1 := hT0.trans (hb1.mono (by simp))
        obtain ⟨p10, p11, t10, t11, t12, hw1, hz1⟩ := BX w1 hT1))
    go_ret
    exact ⟨by rw [hcode.out]; rfl, hw1⟩
  rw [x1] at h1
  cases x2 : twiceB types at' (tth types at')
  rotate_left
  · rw [x2] at h2
    have hcode : Hid (codeErr (typeCode ⟨pname, types⟩ at') = .iface 65 (.int .i64 2)) := by show _ = _; rw [HC.out]; simp [codeErr, x1, x2]
    go_enter Tryz.func33, Tryz.ntmps33
    go_wp2_with (first
      | (
        go_at_call 49
        refine (h1 _ hT0).mono ?_
        rintro e w1 ⟨rfl, hb1⟩
        have hT1 := hT0.trans (hb1.mono (by simp))
        obtain ⟨p10, p11, t10, t11, t12, hw1, hz1⟩ := BX w1 hT1))
    go_region_held3 (fun w' => w'.cell? ⟨w.heap.size, 1, none⟩ = some (.slice (some ⟨b, off, none⟩) types.length tc) ∧ w'.cell? ⟨w.heap.size + 1, 0, none⟩ = some (.string (tth types at').name) ∧ w'.cell? ⟨w.heap.size + 1, 1, none⟩ = some (.string (tth types at').key) ∧ w'.cell? ⟨w.heap.size + 1, 2, none⟩ = some (.slice fa (tth types at').fields.length fc)) (go_keep)
      (first
        | (
          go_at_call 50
          refine (h2 w1.drew hT1.drew).mono ?_
          rintro e w2 ⟨rfl, hb2⟩
          have hT2 := hT1.trans ((below_undrew hb2).mono (by omega))
          obtain ⟨p20, p21, t20, t21, t22, hw2, hz2⟩ := BX w2 hT2))
    go_wp2_with fail
    go_ret
    exact ⟨by rw [hcode.out]; rfl, hw2⟩
  rw [x2] at h2
  cases x3 : knownTo ⟨pname, types⟩ (tth types at').fields (tth types at').fields.length
  · rw [x3] at h3
    have hcode : Hid (codeErr (typeCode ⟨pname, types⟩ at') = .iface 65 (.int .i64 3)) := by show _ = _; rw [HC.out]; simp [codeErr, x1, x2, x3]
    go_enter Tryz.func33, Tryz.ntmps33
    go_wp2_with (first
      | (
        go_at_call 49
        refine (h1 _ hT0).mono ?_
        rintro e w1 ⟨rfl, hb1⟩
        have hT1 := hT0.trans (hb1.mono (by simp))
        obtain ⟨p10, p11, t10, t11, t12, hw1, hz1⟩ := BX w1 hT1))
    go_region_held3 (fun w' => w'.cell? ⟨w.heap.size, 1, none⟩ = some (.slice (some ⟨b, off, none⟩) types.length tc) ∧ w'.cell? ⟨w.heap.size + 1, 0, none⟩ = some (.string (tth types at').name) ∧ w'.cell? ⟨w.heap.size + 1, 1, none⟩ = some (.string (tth types at').key) ∧ w'.cell? ⟨w.heap.size + 1, 2, none⟩ = some (.slice fa (tth types at').fields.length fc)) (go_keep)
      (first
        | (
          go_at_call 50
          refine (h2 w1.drew hT1.drew).mono ?_
          rintro e w2 ⟨rfl, hb2⟩
          have hT2 := hT1.trans ((below_undrew hb2).mono (by omega))
          obtain ⟨p20, p21, t20, t21, t22, hw2, hz2⟩ := BX w2 hT2))
    go_wp2_with (first
      | (
        go_at_call 51
        refine (h3 w2 hT2).mono ?_
        rintro e w3 ⟨rfl, hb3⟩
        have hT3 := hT2.trans (hb3.mono (by omega))
        obtain ⟨p30, p31, t30, t31, t32, hw3, hz3⟩ := BX w3 hT3))
    go_ret
    exact ⟨by rw [hcode.out]; rfl, hw3⟩
  rw [x3] at h3
  cases x4 : keyB (tth types at')
  · rw [x4] at h4
    have hcode : Hid (codeErr (typeCode ⟨pname, types⟩ at') = .iface 65 (.int .i64 4)) := by show _ = _; rw [HC.out]; simp [codeErr, x1, x2, x3, x4]
    go_enter Tryz.func33, Tryz.ntmps33
    go_wp2_with (first
      | (
        go_at_call 49
        refine (h1 _ hT0).mono ?_
        rintro e w1 ⟨rfl, hb1⟩
        have hT1 := hT0.trans (hb1.mono (by simp))
        obtain ⟨p10, p11, t10, t11, t12, hw1, hz1⟩ := BX w1 hT1))
    go_region_held3 (fun w' => w'.cell? ⟨w.heap.size, 1, none⟩ = some (.slice (some ⟨b, off, none⟩) types.length tc) ∧ w'.cell? ⟨w.heap.size + 1, 0, none⟩ = some (.string (tth types at').name) ∧ w'.cell? ⟨w.heap.size + 1, 1, none⟩ = some (.string (tth types at').key) ∧ w'.cell? ⟨w.heap.size + 1, 2, none⟩ = some (.slice fa (tth types at').fields.length fc)) (go_keep)
      (first
        | (
          go_at_call 50
          refine (h2 w1.drew hT1.drew).mono ?_
          rintro e w2 ⟨rfl, hb2⟩
          have hT2 := hT1.trans ((below_undrew hb2).mono (by omega))
          obtain ⟨p20, p21, t20, t21, t22, hw2, hz2⟩ := BX w2 hT2))
    go_wp2_with (first
      | (
        go_at_call 51
        refine (h3 w2 hT2).mono ?_
        rintro e w3 ⟨rfl, hb3⟩
        have hT3 := hT2.trans (hb3.mono (by omega))
        obtain ⟨p30, p31, t30, t31, t32, hw3, hz3⟩ := BX w3 hT3)
      | (
        go_at_call 52
        refine (h4 w3 hT3).mono ?_
        rintro e w4 ⟨rfl, hb4⟩
        have hT4 := hT3.trans (hb4.mono (by omega))
        obtain ⟨p40, p41, t40, t41, t42, hw4, hz4⟩ := BX w4 hT4))
    go_ret
    exact ⟨by rw [hcode.out]; rfl, hw4⟩
  rw [x4] at h4
  cases x5 : needOkTo (tth types at') (tth types at').fields.length
  · rw [x5] at h5
    have hcode : Hid (codeErr (typeCode ⟨pname, types⟩ at') = .iface 65 (.int .i64 5)) := by show _ = _; rw [HC.out]; simp [codeErr, x1, x2, x3, x4, x5]
    go_enter Tryz.func33, Tryz.ntmps33
    go_wp2_with (first
      | (
        go_at_call 49
        refine (h1 _ hT0).mono ?_
        rintro e w1 ⟨rfl, hb1⟩
        have hT1 := hT0.trans (hb1.mono (by simp))
        obtain ⟨p10, p11, t10, t11, t12, hw1, hz1⟩ := BX w1 hT1))
    go_region_held3 (fun w' => w'.cell? ⟨w.heap.size, 1, none⟩ = some (.slice (some ⟨b, off, none⟩) types.length tc) ∧ w'.cell? ⟨w.heap.size + 1, 0, none⟩ = some (.string (tth types at').name) ∧ w'.cell? ⟨w.heap.size + 1, 1, none⟩ = some (.string (tth types at').key) ∧ w'.cell? ⟨w.heap.size + 1, 2, none⟩ = some (.slice fa (tth types at').fields.length fc)) (go_keep)
      (first
        | (
          go_at_call 50
          refine (h2 w1.drew hT1.drew).mono ?_
          rintro e w2 ⟨rfl, hb2⟩
          have hT2 := hT1.trans ((below_undrew hb2).mono (by omega))
          obtain ⟨p20, p21, t20, t21, t22, hw2, hz2⟩ := BX w2 hT2))
    go_wp2_with (first
      | (
        go_at_call 51
        refine (h3 w2 hT2).mono ?_
        rintro e w3 ⟨rfl, hb3⟩
        have hT3 := hT2.trans (hb3.mono (by omega))
        obtain ⟨p30, p31, t30, t31, t32, hw3, hz3⟩ := BX w3 hT3)
      | (
        go_at_call 52
        refine (h4 w3 hT3).mono ?_
        rintro e w4 ⟨rfl, hb4⟩
        have hT4 := hT3.trans (hb4.mono (by omega))
        obtain ⟨p40, p41, t40, t41, t42, hw4, hz4⟩ := BX w4 hT4)
      | (
        go_at_call 53
        refine (h5 w4 hT4).mono ?_
        rintro e w5 ⟨rfl, hb5⟩
        have hT5 := hT4.trans (hb5.mono (by omega))
        obtain ⟨p50, p51, t50, t51, t52, hw5, hz5⟩ := BX w5 hT5))
    go_ret
    exact ⟨by rw [hcode.out]; rfl, hw5⟩
  rw [x5] at h5
  cases x6 : rootTo (tth types at').fields (tth types at').fields.length
  · rw [x6] at h6
    have hcode : Hid (codeErr (typeCode ⟨pname, types⟩ at') = .iface 65 (.int .i64 7)) := by show _ = _; rw [HC.out]; simp [codeErr, x1, x2, x3, x4, x5, x6]
    go_enter Tryz.func33, Tryz.ntmps33
    go_wp2_with (first
      | (
        go_at_call 49
        refine (h1 _ hT0).mono ?_
        rintro e w1 ⟨rfl, hb1⟩
        have hT1 := hT0.trans (hb1.mono (by simp))
        obtain ⟨p10, p11, t10, t11, t12, hw1, hz1⟩ := BX w1 hT1))
    go_region_held3 (fun w' => w'.cell? ⟨w.heap.size, 1, none⟩ = some (.slice (some ⟨b, off, none⟩) types.length tc) ∧ w'.cell? ⟨w.heap.size + 1, 0, none⟩ = some (.string (tth types at').name) ∧ w'.cell? ⟨w.heap.size + 1, 1, none⟩ = some (.string (tth types at').key) ∧ w'.cell? ⟨w.heap.size + 1, 2, none⟩ = some (.slice fa (tth types at').fields.length fc)) (go_keep)
      (first
        | (
          go_at_call 50
          refine (h2 w1.drew hT1.drew).mono ?_
          rintro e w2 ⟨rfl, hb2⟩
          have hT2 := hT1.trans ((below_undrew hb2).mono (by omega))
          obtain ⟨p20, p21, t20, t21, t22, hw2, hz2⟩ := BX w2 hT2))
    go_wp2_with (first
      | (
        go_at_call 51
        refine (h3 w2 hT2).mono ?_
        rintro e w3 ⟨rfl, hb3⟩
        have hT3 := hT2.trans (hb3.mono (by omega))
        obtain ⟨p30, p31, t30, t31, t32, hw3, hz3⟩ := BX w3 hT3)
      | (
        go_at_call 52
        refine (h4 w3 hT3).mono ?_
        rintro e w4 ⟨rfl, hb4⟩
        have hT4 := hT3.trans (hb4.mono (by omega))
        obtain ⟨p40, p41, t40, t41, t42, hw4, hz4⟩ := BX w4 hT4)
      | (
        go_at_call 53
        refine (h5 w4 hT4).mono ?_
        rintro e w5 ⟨rfl, hb5⟩
        have hT5 := hT4.trans (hb5.mono (by omega))
        obtain ⟨p50, p51, t50, t51, t52, hw5, hz5⟩ := BX w5 hT5)
      | (
        go_at_call 54
        refine (h6 w5 hT5).mono ?_
        rintro e w6 ⟨rfl, hb6⟩
        have hT6 := hT5.trans (hb6.mono (by omega))
        obtain ⟨p60, p61, t60, t61, t62, hw6, hz6⟩ := BX w6 hT6))
    go_ret
    exact ⟨by rw [hcode.out]; rfl, hw6⟩
  rw [x6] at h6
  have hcode : Hid (codeErr (typeCode ⟨pname, types⟩ at') = .nilIface) := by show _ = _; rw [HC.out]; simp [codeErr, x1, x2, x3, x4, x5, x6]
  go_enter Tryz.func33, Tryz.ntmps33
  go_wp2_with (first
    | (
      go_at_call 49
      refine (h1 _ hT0).mono ?_
      rintro e w1 ⟨rfl, hb1⟩
      have hT1 := hT0.trans (hb1.mono (by simp))
      obtain ⟨p10, p11, t10, t11, t12, hw1, hz1⟩ := BX w1 hT1))
  go_region_held3 (fun w' => w'.cell? ⟨w.heap.size, 1, none⟩ = some (.slice (some ⟨b, off, none⟩) types.length tc) ∧ w'.cell? ⟨w.heap.size + 1, 0, none⟩ = some (.string (tth types at').name) ∧ w'.cell? ⟨w.heap.size + 1, 1, none⟩ = some (.string (tth types at').key) ∧ w'.cell? ⟨w.heap.size + 1, 2, none⟩ = some (.slice fa (tth types at').fields.length fc)) (go_keep)
    (first
      | (
        go_at_call 50
        refine (h2 w1.drew hT1.drew).mono ?_
        rintro e w2 ⟨rfl, hb2⟩
        have hT2 := hT1.trans ((below_undrew hb2).mono (by omega))
        obtain ⟨p20, p21, t20, t21, t22, hw2, hz2⟩ := BX w2 hT2))
  go_wp2_with (first
    | (
      go_at_call 51
      refine (h3 w2 hT2).mono ?_
      rintro e w3 ⟨rfl, hb3⟩
      have hT3 := hT2.trans (hb3.mono (by omega))
      obtain ⟨p30, p31, t30, t31, t32, hw3, hz3⟩ := BX w3 hT3)
    | (
      go_at_call 52
      refine (h4 w3 hT3).mono ?_
      rintro e w4 ⟨rfl, hb4⟩
      have hT4 := hT3.trans (hb4.mono (by omega))
      obtain ⟨p40, p41, t40, t41, t42, hw4, hz4⟩ := BX w4 hT4)
    | (
      go_at_call 53
      refine (h5 w4 hT4).mono ?_
      rintro e w5 ⟨rfl, hb5⟩
      have hT5 := hT4.trans (hb5.mono (by omega))
      obtain ⟨p50, p51, t50, t51, t52, hw5, hz5⟩ := BX w5 hT5)
    | (
      go_at_call 54
      refine (h6 w5 hT5).mono ?_
      rintro e w6 ⟨rfl, hb6⟩
      have hT6 := hT5.trans (hb6.mono (by omega))
      obtain ⟨p60, p61, t60, t61, t62, hw6, hz6⟩ := BX w6 hT6))
  go_ret
  exact ⟨by rw [hcode.out]; rfl, hw6⟩
end Go.Proofs.YtibpieomldhomaaGreatDoor
