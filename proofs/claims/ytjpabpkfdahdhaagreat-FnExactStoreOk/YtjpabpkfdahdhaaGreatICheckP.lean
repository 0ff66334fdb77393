import Derived.Test.YtjpabpkfdahdhaaGreatITwice
import Derived.Test.YtjpabpkfdahdhaaGreatILen
namespace Go.Proofs.YtjpabpkfdahdhaaGreat
set_option linter.unusedSimpArgs false
set_option linter.unusedVariables false
open Go.RowKit

/-- The code of what is wrong with a type first, 0 if nothing is. -/
def typeCode (p : Pt) (i : Nat) : Int :=
  if typeNamesB (tth p.types i) = false then 1 else if twiceB p.types i (tth p.types i) = true then 2 else if knownTo p (tth p.types i).fields (tth p.types i).fields.length = false then 3
  else if keyB (tth p.types i) = false then 4 else if needOkTo (tth p.types i) (tth p.types i).fields.length = false then 5 else if rootTo (tth p.types i).fields (tth p.types i).fields.length = false then 7 else 0
/-- A code as an error. -/
def codeErr (c : Int) : Value := if c = 0 then .nilIface else .iface 83 (.int .i64 c)

set_option maxHeartbeats 3200000 in
theorem checkType_any (p : Pt) (at' : Nat) (w : World) (B : Nat) (v : Value) (hP : PRep w (· < B) p v) (hat : at' < p.types.length) (hB : B ≤ w.heap.size) :
    Calls Tryz.prog 35 #[v, .int .i64 at'] w fun e w' => e = .returned (codeErr (typeCode p at')) ∧ Below w.heap.size w w' := by
  have hP' := hP
  obtain ⟨pname, types⟩ := p
  obtain ⟨ta, tc, rfl, hK, hnc, hpn⟩ := hP
  simp only at hK hnc hpn hat hP'
  have h56 := hK.1
  have HC : Hid (typeCode ⟨pname, types⟩ at' = if typeNamesB (tth types at') = false then 1 else if twiceB types at' (tth types at') = true then 2 else if knownTo ⟨pname, types⟩ (tth types at').fields (tth types at').fields.length = false then 3 else if keyB (tth types at') = false then 4 else if needOkTo (tth types at') (tth types at').fields.length = false then 5 else if rootTo (tth types at').fields (tth types at').fields.length = false then 7 else 0) := rfl
  obtain ⟨b, off, fa, fc, hta, htr, hcs⟩ := hK.at hB at' hat
  subst hta
  have BX : ∀ W, Below (w.heap.size + 1 + 1) ((w.alloc (.cells #[.string pname, .slice (some ⟨b, off, none⟩) types.length tc] 31)).alloc (.cells #[.string (tth types at').name, .string (tth types at').key, .slice fa (tth types at').fields.length fc] 54)) W → W.cell? ⟨w.heap.size, 0, none⟩ = some (.string pname) ∧ W.cell? ⟨w.heap.size, 1, none⟩ = some (.slice (some ⟨b, off, none⟩) types.length tc) ∧ W.cell? ⟨w.heap.size + 1, 0, none⟩ = some (.string (tth types at').name) ∧ W.cell? ⟨w.heap.size + 1, 1, none⟩ = some (.string (tth types at').key) ∧ W.cell? ⟨w.heap.size + 1, 2, none⟩ = some (.slice fa (tth types at').fields.length fc) ∧ Below w.heap.size w W ∧ w.heap.size + 1 < W.heap.size := fun W h => by
    have hz := h.size
    simp at hz
    have a : ∀ i (hi : i < 2), W.cell? ⟨w.heap.size, i, none⟩ = some #[Value.string pname, .slice (some ⟨b, off, none⟩) types.length tc][i] := fun i hi => (h.cell (p := ⟨w.heap.size, i, none⟩) (by show w.heap.size < _; omega)).trans (((below_box _ _).cell (p := ⟨w.heap.size, i, none⟩) (by show w.heap.size < _; simp)).trans (box_new _ _ i (by simpa using hi)))
    have c : ∀ i (hi : i < 3), W.cell? ⟨w.heap.size + 1, i, none⟩ = some #[Value.string (tth types at').name, .string (tth types at').key, .slice fa (tth types at').fields.length fc][i] := fun i hi => (h.cell (p := ⟨w.heap.size + 1, i, none⟩) (by show w.heap.size + 1 < _; omega)).trans (by simp)
    exact ⟨a 0 (by omega), a 1 (by omega), c 0 (by omega), c 1 (by omega), c 2 (by omega), (below_box2 w _ _).trans (h.mono (by omega)), by omega⟩
  have hT0 := Below.refl (w.heap.size + 1 + 1) ((w.alloc (.cells #[.string pname, .slice (some ⟨b, off, none⟩) types.length tc] 31)).alloc (.cells #[.string (tth types at').name, .string (tth types at').key, .slice fa (tth types at').fields.length fc] 54))
  have TR := fun W (h : Below (w.heap.size + 1 + 1) ((w.alloc (.cells #[.string pname, .slice (some ⟨b, off, none⟩) types.length tc] 31)).alloc (.cells #[.string (tth types at').name, .string (tth types at').key, .slice fa (tth types at').fields.length fc] 54)) W) => htr.under ((BX W h).2.2.2.2.2.1.mono hB)
  have hBW := fun W (h : Below (w.heap.size + 1 + 1) ((w.alloc (.cells #[.string pname, .slice (some ⟨b, off, none⟩) types.length tc] 31)).alloc (.cells #[.string (tth types at').name, .string (tth types at').key, .slice fa (tth types at').fields.length fc] 54)) W) => show B ≤ W.heap.size by have := (BX W h).2.2.2.2.2.2; omega
  have h1 := fun W h => isTypeOfNames_any (tth types at') W B _ (TR W h) (hBW W h)
  have h2 := fun W h => isTypeTwice_any types at' (tth types at') W B (some ⟨b, off, none⟩) tc _ (hK.under ((BX W h).2.2.2.2.2.1.mono hB)) (by omega) (TR W h) (hBW W h)
  have h3 := fun W h => isTypeKnown_any ⟨pname, types⟩ (tth types at') W B _ _ (hP'.under ((BX W h).2.2.2.2.2.1.mono hB)) (TR W h) (hBW W h)
  have h4 := fun W h => isKeyRight_any (tth types at') W B _ (TR W h) (hBW W h)
  have h5 := fun W h => needsRight_any (tth types at') W B _ (TR W h) (hBW W h)
  have h6 := fun W h => isTypeOfRoot_any (tth types at') W B _ (TR W h) (hBW W h)
  obtain ⟨c0, c1, c2⟩ := (fun o => hcs (w.alloc o) (below_box w o)) |> fun q => (⟨fun o => (q o).1, fun o => (q o).2.1, fun o => (q o).2.2⟩ : (∀ o, (w.alloc o).cell? ⟨b, off + at' * 3, none⟩ = _) ∧ (∀ o, (w.alloc o).cell? ⟨b, off + at' * 3 + 1, none⟩ = _) ∧ (∀ o, (w.alloc o).cell? ⟨b, off + at' * 3 + 2, none⟩ = _))
  clear hcs TR hBW
  have hai : (at' : Int) < (types.length : Int) := by omega
  have hal : (at' : Int) ≤ (tc : Int) := by omega
  cases x1 : typeNamesB (tth types at')
  · rw [x1] at h1
    have hcode : Hid (codeErr (typeCode ⟨pname, types⟩ at') = .iface 83 (.int .i64 1)) := by show _ = _; rw [HC.out]; simp [codeErr, x1]
    go_enter Tryz.func35, Tryz.ntmps35
    go_wp2_with (first
      | (
        go_at_call 58
        refine (h1 _ hT0).mono ?_
        rintro e w1 ⟨rfl, hb1⟩
        have hT1 := hT0.trans (hb1.mono (by simp))
        obtain ⟨p10, p11, t10, t11, t12, hw1, hz1⟩ := BX w1 hT1))
    go_ret
    exact ⟨by rw [hcode.out]; rfl, hw1⟩
  rw [x1] at h1
  cases x2 : twiceB types at' (tth types at')
  rotate_left
  · rw [x2] at h2
    have hcode : Hid (codeErr (typeCode ⟨pname, types⟩ at') = .iface 83 (.int .i64 2)) := by show _ = _; rw [HC.out]; simp [codeErr, x1, x2]
    go_enter Tryz.func35, Tryz.ntmps35
    go_wp2_with (first
      | (
        go_at_call 58
        refine (h1 _ hT0).mono ?_
        rintro e w1 ⟨rfl, hb1⟩
        have hT1 := hT0.trans (hb1.mono (by simp))
        obtain ⟨p10, p11, t10, t11, t12, hw1, hz1⟩ := BX w1 hT1))
    go_region_held3 (fun w' => w'.cell? ⟨w.heap.size, 1, none⟩ = some (.slice (some ⟨b, off, none⟩) types.length tc) ∧ w'.cell? ⟨w.heap.size + 1, 0, none⟩ = some (.string (tth types at').name) ∧ w'.cell? ⟨w.heap.size + 1, 1, none⟩ = some (.string (tth types at').key) ∧ w'.cell? ⟨w.heap.size + 1, 2, none⟩ = some (.slice fa (tth types at').fields.length fc)) (go_keep)
      (first
        | (
          go_at_call 59
          refine (h2 w1.drew hT1.drew).mono ?_
          rintro e w2 ⟨rfl, hb2⟩
          have hT2 := hT1.trans ((below_undrew hb2).mono (by omega))
          obtain ⟨p20, p21, t20, t21, t22, hw2, hz2⟩ := BX w2 hT2))
    go_wp2_with fail
    go_ret
    exact ⟨by rw [hcode.out]; rfl, hw2⟩
  rw [x2] at h2
  cases x3 : knownTo ⟨pname, types⟩ (tth types at').fields (tth types at').fields.length
  · rw [x3] at h3
    have hcode : Hid (codeErr (typeCode ⟨pname, types⟩ at') = .iface 83 (.int .i64 3)) := by show _ = _; rw [HC.out]; simp [codeErr, x1, x2, x3]
    go_enter Tryz.func35, Tryz.ntmps35
    go_wp2_with (first
      | (
        go_at_call 58
        refine (h1 _ hT0).mono ?_
        rintro e w1 ⟨rfl, hb1⟩
        have hT1 := hT0.trans (hb1.mono (by simp))
        obtain ⟨p10, p11, t10, t11, t12, hw1, hz1⟩ := BX w1 hT1))
    go_region_held3 (fun w' => w'.cell? ⟨w.heap.size, 1, none⟩ = some (.slice (some ⟨b, off, none⟩) types.length tc) ∧ w'.cell? ⟨w.heap.size + 1, 0, none⟩ = some (.string (tth types at').name) ∧ w'.cell? ⟨w.heap.size + 1, 1, none⟩ = some (.string (tth types at').key) ∧ w'.cell? ⟨w.heap.size + 1, 2, none⟩ = some (.slice fa (tth types at').fields.length fc)) (go_keep)
      (first
        | (
          go_at_call 59
          refine (h2 w1.drew hT1.drew).mono ?_
          rintro e w2 ⟨rfl, hb2⟩
          have hT2 := hT1.trans ((below_undrew hb2).mono (by omega))
          obtain ⟨p20, p21, t20, t21, t22, hw2, hz2⟩ := BX w2 hT2))
    go_wp2_with (first
      | (
        go_at_call 60
        refine (h3 w2 hT2).mono ?_
        rintro e w3 ⟨rfl, hb3⟩
        have hT3 := hT2.trans (hb3.mono (by omega))
        obtain ⟨p30, p31, t30, t31, t32, hw3, hz3⟩ := BX w3 hT3))
    go_ret
    exact ⟨by rw [hcode.out]; rfl, hw3⟩
  rw [x3] at h3
  cases x4 : keyB (tth types at')
  · rw [x4] at h4
    have hcode : Hid (codeErr (typeCode ⟨pname, types⟩ at') = .iface 83 (.int .i64 4)) := by show _ = _; rw [HC.out]; simp [codeErr, x1, x2, x3, x4]
    go_enter Tryz.func35, Tryz.ntmps35
    go_wp2_with (first
      | (
        go_at_call 58
        refine (h1 _ hT0).mono ?_
        rintro e w1 ⟨rfl, hb1⟩
        have hT1 := hT0.trans (hb1.mono (by simp))
        obtain ⟨p10, p11, t10, t11, t12, hw1, hz1⟩ := BX w1 hT1))
    go_region_held3 (fun w' => w'.cell? ⟨w.heap.size, 1, none⟩ = some (.slice (some ⟨b, off, none⟩) types.length tc) ∧ w'.cell? ⟨w.heap.size + 1, 0, none⟩ = some (.string (tth types at').name) ∧ w'.cell? ⟨w.heap.size + 1, 1, none⟩ = some (.string (tth types at').key) ∧ w'.cell? ⟨w.heap.size + 1, 2, none⟩ = some (.slice fa (tth types at').fields.length fc)) (go_keep)
      (first
        | (
          go_at_call 59
          refine (h2 w1.drew hT1.drew).mono ?_
          rintro e w2 ⟨rfl, hb2⟩
          have hT2 := hT1.trans ((below_undrew hb2).mono (by omega))
          obtain ⟨p20, p21, t20, t21, t22, hw2, hz2⟩ := BX w2 hT2))
    go_wp2_with (first
      | (
        go_at_call 60
        refine (h3 w2 hT2).mono ?_
        rintro e w3 ⟨rfl, hb3⟩
        have hT3 := hT2.trans (hb3.mono (by omega))
        obtain ⟨p30, p31, t30, t31, t32, hw3, hz3⟩ := BX w3 hT3)
      | (
        go_at_call 61
        refine (h4 w3 hT3).mono ?_
        rintro e w4 ⟨rfl, hb4⟩
        have hT4 := hT3.trans (hb4.mono (by omega))
        obtain ⟨p40, p41, t40, t41, t42, hw4, hz4⟩ := BX w4 hT4))
    go_ret
    exact ⟨by rw [hcode.out]; rfl, hw4⟩
  rw [x4] at h4
  cases x5 : needOkTo (tth types at') (tth types at').fields.length
  · rw [x5] at h5
    have hcode : Hid (codeErr (typeCode ⟨pname, types⟩ at') = .iface 83 (.int .i64 5)) := by show _ = _; rw [HC.out]; simp [codeErr, x1, x2, x3, x4, x5]
    go_enter Tryz.func35, Tryz.ntmps35
    go_wp2_with (first
      | (
        go_at_call 58
        refine (h1 _ hT0).mono ?_
        rintro e w1 ⟨rfl, hb1⟩
        have hT1 := hT0.trans (hb1.mono (by simp))
        obtain ⟨p10, p11, t10, t11, t12, hw1, hz1⟩ := BX w1 hT1))
    go_region_held3 (fun w' => w'.cell? ⟨w.heap.size, 1, none⟩ = some (.slice (some ⟨b, off, none⟩) types.length tc) ∧ w'.cell? ⟨w.heap.size + 1, 0, none⟩ = some (.string (tth types at').name) ∧ w'.cell? ⟨w.heap.size + 1, 1, none⟩ = some (.string (tth types at').key) ∧ w'.cell? ⟨w.heap.size + 1, 2, none⟩ = some (.slice fa (tth types at').fields.length fc)) (go_keep)
      (first
        | (
          go_at_call 59
          refine (h2 w1.drew hT1.drew).mono ?_
          rintro e w2 ⟨rfl, hb2⟩
          have hT2 := hT1.trans ((below_undrew hb2).mono (by omega))
          obtain ⟨p20, p21, t20, t21, t22, hw2, hz2⟩ := BX w2 hT2))
    go_wp2_with (first
      | (
        go_at_call 60
        refine (h3 w2 hT2).mono ?_
        rintro e w3 ⟨rfl, hb3⟩
        have hT3 := hT2.trans (hb3.mono (by omega))
        obtain ⟨p30, p31, t30, t31, t32, hw3, hz3⟩ := BX w3 hT3)
      | (
        go_at_call 61
        refine (h4 w3 hT3).mono ?_
        rintro e w4 ⟨rfl, hb4⟩
        have hT4 := hT3.trans (hb4.mono (by omega))
        obtain ⟨p40, p41, t40, t41, t42, hw4, hz4⟩ := BX w4 hT4)
      | (
        go_at_call 62
        refine (h5 w4 hT4).mono ?_
        rintro e w5 ⟨rfl, hb5⟩
        have hT5 := hT4.trans (hb5.mono (by omega))
        obtain ⟨p50, p51, t50, t51, t52, hw5, hz5⟩ := BX w5 hT5))
    go_ret
    exact ⟨by rw [hcode.out]; rfl, hw5⟩
  rw [x5] at h5
  cases x6 : rootTo (tth types at').fields (tth types at').fields.length
  · rw [x6] at h6
    have hcode : Hid (codeErr (typeCode ⟨pname, types⟩ at') = .iface 83 (.int .i64 7)) := by show _ = _; rw [HC.out]; simp [codeErr, x1, x2, x3, x4, x5, x6]
    go_enter Tryz.func35, Tryz.ntmps35
    go_wp2_with (first
      | (
        go_at_call 58
        refine (h1 _ hT0).mono ?_
        rintro e w1 ⟨rfl, hb1⟩
        have hT1 := hT0.trans (hb1.mono (by simp))
        obtain ⟨p10, p11, t10, t11, t12, hw1, hz1⟩ := BX w1 hT1))
    go_region_held3 (fun w' => w'.cell? ⟨w.heap.size, 1, none⟩ = some (.slice (some ⟨b, off, none⟩) types.length tc) ∧ w'.cell? ⟨w.heap.size + 1, 0, none⟩ = some (.string (tth types at').name) ∧ w'.cell? ⟨w.heap.size + 1, 1, none⟩ = some (.string (tth types at').key) ∧ w'.cell? ⟨w.heap.size + 1, 2, none⟩ = some (.slice fa (tth types at').fields.length fc)) (go_keep)
      (first
        | (
          go_at_call 59
          refine (h2 w1.drew hT1.drew).mono ?_
          rintro e w2 ⟨rfl, hb2⟩
          have hT2 := hT1.trans ((below_undrew hb2).mono (by omega))
          obtain ⟨p20, p21, t20, t21, t22, hw2, hz2⟩ := BX w2 hT2))
    go_wp2_with (first
      | (
        go_at_call 60
        refine (h3 w2 hT2).mono ?_
        rintro e w3 ⟨rfl, hb3⟩
        have hT3 := hT2.trans (hb3.mono (by omega))
        obtain ⟨p30, p31, t30, t31, t32, hw3, hz3⟩ := BX w3 hT3)
      | (
        go_at_call 61
        refine (h4 w3 hT3).mono ?_
        rintro e w4 ⟨rfl, hb4⟩
        have hT4 := hT3.trans (hb4.mono (by omega))
        obtain ⟨p40, p41, t40, t41, t42, hw4, hz4⟩ := BX w4 hT4)
      | (
        go_at_call 62
        refine (h5 w4 hT4).mono ?_
        rintro e w5 ⟨rfl, hb5⟩
        have hT5 := hT4.trans (hb5.mono (by omega))
        obtain ⟨p50, p51, t50, t51, t52, hw5, hz5⟩ := BX w5 hT5)
      | (
        go_at_call 63
        refine (h6 w5 hT5).mono ?_
        rintro e w6 ⟨rfl, hb6⟩
        have hT6 := hT5.trans (hb6.mono (by omega))
        obtain ⟨p60, p61, t60, t61, t62, hw6, hz6⟩ := BX w6 hT6))
    go_ret
    exact ⟨by rw [hcode.out]; rfl, hw6⟩
  rw [x6] at h6
  have hcode : Hid (codeErr (typeCode ⟨pname, types⟩ at') = .nilIface) := by show _ = _; rw [HC.out]; simp [codeErr, x1, x2, x3, x4, x5, x6]
  go_enter Tryz.func35, Tryz.ntmps35
  go_wp2_with (first
    | (
      go_at_call 58
      refine (h1 _ hT0).mono ?_
      rintro e w1 ⟨rfl, hb1⟩
      have hT1 := hT0.trans (hb1.mono (by simp))
      obtain ⟨p10, p11, t10, t11, t12, hw1, hz1⟩ := BX w1 hT1))
  go_region_held3 (fun w' => w'.cell? ⟨w.heap.size, 1, none⟩ = some (.slice (some ⟨b, off, none⟩) types.length tc) ∧ w'.cell? ⟨w.heap.size + 1, 0, none⟩ = some (.string (tth types at').name) ∧ w'.cell? ⟨w.heap.size + 1, 1, none⟩ = some (.string (tth types at').key) ∧ w'.cell? ⟨w.heap.size + 1, 2, none⟩ = some (.slice fa (tth types at').fields.length fc)) (go_keep)
    (first
      | (
        go_at_call 59
        refine (h2 w1.drew hT1.drew).mono ?_
        rintro e w2 ⟨rfl, hb2⟩
        have hT2 := hT1.trans ((below_undrew hb2).mono (by omega))
        obtain ⟨p20, p21, t20, t21, t22, hw2, hz2⟩ := BX w2 hT2))
  go_wp2_with (first
    | (
      go_at_call 60
      refine (h3 w2 hT2).mono ?_
      rintro e w3 ⟨rfl, hb3⟩
      have hT3 := hT2.trans (hb3.mono (by omega))
      obtain ⟨p30, p31, t30, t31, t32, hw3, hz3⟩ := BX w3 hT3)
    | (
      go_at_call 61
      refine (h4 w3 hT3).mono ?_
      rintro e w4 ⟨rfl, hb4⟩
      have hT4 := hT3.trans (hb4.mono (by omega))
      obtain ⟨p40, p41, t40, t41, t42, hw4, hz4⟩ := BX w4 hT4)
    | (
      go_at_call 62
      refine (h5 w4 hT4).mono ?_
      rintro e w5 ⟨rfl, hb5⟩
      have hT5 := hT4.trans (hb5.mono (by omega))
      obtain ⟨p50, p51, t50, t51, t52, hw5, hz5⟩ := BX w5 hT5)
    | (
      go_at_call 63
      refine (h6 w5 hT5).mono ?_
      rintro e w6 ⟨rfl, hb6⟩
      have hT6 := hT5.trans (hb6.mono (by omega))
      obtain ⟨p60, p61, t60, t61, t62, hw6, hz6⟩ := BX w6 hT6))
  go_ret
  exact ⟨by rw [hcode.out]; rfl, hw6⟩
end Go.Proofs.YtjpabpkfdahdhaaGreat

namespace Go.Proofs.YtjpabpkfdahdhaaGreat
set_option linter.unusedSimpArgs false
set_option linter.unusedVariables false
open Go.RowKit

/-- The first type from a place on with which something is wrong, or the place behind so many. -/
def badAt (p : Pt) : Nat → Nat → Nat
  | k, 0 => k
  | k, n + 1 => if typeCode p k = 0 then badAt p (k + 1) n else k
def badT (p : Pt) : Nat := badAt p 0 p.types.length
/-- What is wrong with a part, as an error. -/
def partErr (p : Pt) : Value :=
  if 5 < p.types.length then .iface 85 (.agg #[.int .i64 6, .iface 83 (.int .i64 6)])
  else if nameB p.name = false then .iface 83 (.int .i64 1)
  else if hasRootB p = false then .iface 83 (.int .i64 7)
  else if badT p < p.types.length then .iface 85 (.agg #[.int .i64 ((badT p : Nat) + 1 : Int), codeErr (typeCode p (badT p))])
  else if 1500 < (partL p).length then .iface 83 (.int .i64 6) else .nilIface

set_option maxHeartbeats 3200000 in
theorem checkPart_any (p : Pt) (w : World) (B : Nat) (v : Value) (hP : PRep w (· < B) p v) (hB : B ≤ w.heap.size) (hz : szP p ≤ 1048576) :
    Calls Tryz.prog 20 #[v] w fun e w' => e = .returned (partErr p) ∧ Below w.heap.size w w' := by
  have hP' := hP
  obtain ⟨pname, types⟩ := p
  obtain ⟨ta, tc, rfl, hK, hnc, hpn⟩ := hP
  simp only at hK hnc hpn hP'
  have h56 := hK.1
  have hE : Hid (partErr ⟨pname, types⟩ = if 5 < types.length then .iface 85 (.agg #[.int .i64 6, .iface 83 (.int .i64 6)])
    else if nameB pname = false then .iface 83 (.int .i64 1)
    else if hasRootB ⟨pname, types⟩ = false then .iface 83 (.int .i64 7)
    else if badT ⟨pname, types⟩ < types.length then .iface 85 (.agg #[.int .i64 ((badT ⟨pname, types⟩ : Nat) + 1 : Int), codeErr (typeCode ⟨pname, types⟩ (badT ⟨pname, types⟩))])
    else if 1500 < (partL ⟨pname, types⟩).length then .iface 83 (.int .i64 6) else .nilIface) := rfl
  have PC : ∀ W, Below (w.heap.size + 1) (w.alloc (.cells #[.string pname, .slice ta types.length tc] 31)) W → W.cell? ⟨w.heap.size, 0, none⟩ = some (.string pname) ∧ W.cell? ⟨w.heap.size, 1, none⟩ = some (.slice ta types.length tc) ∧ Below w.heap.size w W ∧ B ≤ W.heap.size ∧ w.heap.size + 1 ≤ W.heap.size := fun W h => by
    have hs := h.size
    simp at hs
    exact ⟨(h.cell (p := ⟨w.heap.size, 0, none⟩) (by show w.heap.size < _; omega)).trans (box_new _ _ 0 (by simp)), (h.cell (p := ⟨w.heap.size, 1, none⟩) (by show w.heap.size < _; omega)).trans (box_new _ _ 1 (by simp)), (below_box w _).trans (h.mono (by omega)), by omega, by omega⟩
  have hT0 := Below.refl (w.heap.size + 1) (w.alloc (.cells #[.string pname, .slice ta types.length tc] 31))
  have hR := fun W h => hasRoot_any ⟨pname, types⟩ W B _ (hP'.under ((PC W h).2.2.1.mono hB)) (PC W h).2.2.2.1
  have hC := fun W h k hk => checkType_any ⟨pname, types⟩ k W B _ (hP'.under ((PC W h).2.2.1.mono hB)) hk (PC W h).2.2.2.1
  have hX := fun W h => partText_all ⟨pname, types⟩ W B _ (hP'.under ((PC W h).2.2.1.mono hB)) (PC W h).2.2.2.1 hz
  have hN := fun W => isName_any pname W hpn
  by_cases h5 : 5 < types.length
  · have d : (5 : Int) < (types.length : Int) := by omega
    go_enter Tryz.func20, Tryz.ntmps20
    go_wp2_with fail
    go_ret
    exact ⟨by rw [hE.out, if_pos h5]; rfl, (PC _ hT0).2.2.1⟩
  have d5 : ¬ (5 : Int) < (types.length : Int) := by omega
  cases hn : nameB pname
  · rw [hn] at hN
    go_enter Tryz.func20, Tryz.ntmps20
    go_wp2_with (
      go_at_call 33
      refine (hN _).mono ?_
      rintro e w1 ⟨rfl, rfl⟩)
    go_ret
    exact ⟨by rw [hE.out, if_neg h5, if_pos hn]; rfl, (PC _ hT0).2.2.1⟩
  cases hr : hasRootB ⟨pname, types⟩
  · rw [hn] at hN
    rw [hr] at hR
    go_enter Tryz.func20, Tryz.ntmps20
    go_wp2_with (first
      | (
        go_at_call 33
        refine (hN _).mono ?_
        rintro e w1 ⟨rfl, rfl⟩)
      | (
        go_at_call 34
        refine (hR _ hT0).mono ?_
        rintro e w2 ⟨rfl, hb2⟩
        have hT2 := hT0.trans (hb2.mono (by simp))))
    go_ret
    exact ⟨by rw [hE.out, if_neg h5, if_neg (by rw [hn]; simp), if_pos hr]; rfl, (PC _ hT2).2.2.1⟩
  rw [hn] at hN
  rw [hr] at hR
  go_enter Tryz.func20, Tryz.ntmps20
  go_wp2_with (first
    | (
      go_at_call 33
      refine (hN _).mono ?_
      rintro e w1 ⟨rfl, rfl⟩)
    | (
      go_at_call 34
      refine (hR _ hT0).mono ?_
      rintro e w2 ⟨rfl, hb2⟩
      have hT2 := hT0.trans (hb2.mono (by simp))
      obtain ⟨q20, q21, hw2, hB2, hs2⟩ := PC w2 hT2))
  go_loopw [24] (fun i wr => ∃ k : Nat, k ≤ types.length ∧ i = .int .i64 k ∧ Hid (badT ⟨pname, types⟩ = badAt ⟨pname, types⟩ k (types.length - k)) ∧ Below (w.heap.size + 1) (w.alloc (.cells #[.string pname, .slice ta types.length tc] 31)) wr) (fun i _ => types.length - (intOf i).toNat)
  case atStart => exact ⟨0, Nat.zero_le _, rfl, rfl, hT2⟩
  case round =>
    clear q20 q21 hw2 hB2 hs2 hT2 hb2
    obtain ⟨k, hk, rfl, HBD, hbl⟩ := hrel
    obtain ⟨w0, rfl⟩ : ∃ x, x = wr := ⟨wr, rfl⟩
    obtain ⟨q0, q1, hw0, hB0, hs0⟩ := PC w0 hbl
    by_cases hlt : k < types.length
    · have hC1 := hC w0 hbl k hlt
      have HB2 : Hid (badT ⟨pname, types⟩ = if typeCode ⟨pname, types⟩ k = 0 then badAt ⟨pname, types⟩ (k + 1) (types.length - (k + 1)) else k) := by
        show _ = _
        rw [HBD.out, show types.length - k = (types.length - (k + 1)) + 1 by omega, badAt]
      by_cases hc : typeCode ⟨pname, types⟩ k = 0
      · rw [hc, show codeErr 0 = .nilIface from rfl] at hC1
        go_wp2_with (
          go_at_call 35
          refine hC1.mono ?_
          rintro e w3 ⟨rfl, hb3⟩
          have hT3 := hbl.trans (hb3.mono (by omega)))
        go_roundw
        case rel => exact ⟨k + 1, by omega, by go_num, by show _ = _; rw [HB2.out, if_pos hc], hT3⟩
        case measure => simp [intOf]; omega
      · have HBK : Hid (badT ⟨pname, types⟩ = k) := by show _ = _; rw [HB2.out, if_neg hc]
        have hce : codeErr (typeCode ⟨pname, types⟩ k) = .iface 83 (.int .i64 (typeCode ⟨pname, types⟩ k)) := by rw [codeErr, if_neg hc]
        rw [hce] at hC1
        go_wp2_with (
          go_at_call 35
          refine hC1.mono ?_
          rintro e w3 ⟨rfl, hb3⟩
          have hT3 := hbl.trans (hb3.mono (by omega)))
        refine bodyPost_ret (v := .iface 85 (.agg #[.int .i64 ((k : Nat) + 1 : Int), .iface 83 (.int .i64 (typeCode ⟨pname, types⟩ k))])) ?res rfl ⟨?_, (PC _ hT3).2.2.1⟩
        case res => simp [results, Tryz.results20, go_sem]
        rw [hE.out, if_neg h5, if_neg (by rw [hn]; simp), if_neg (by rw [hr]; simp), HBK.out, if_pos hlt, hce]
    · have HBK : Hid (badT ⟨pname, types⟩ = types.length) := by
        show _ = _
        rw [HBD.out, show types.length - k = 0 by omega, badAt]; omega
      have hX1 := hX w0 hbl
      have hln := partL_len ⟨pname, types⟩
      have hsz : (⟨(partL ⟨pname, types⟩).toArray⟩ : ByteArray).size = (partL ⟨pname, types⟩).length := List.size_toArray
      generalize (⟨(partL ⟨pname, types⟩).toArray⟩ : ByteArray) = tx at hX1 hsz
      have htz : Hid (tx.size = (partL ⟨pname, types⟩).length) := hsz
      have hsm : tx.size ≤ 9223372036854775807 := by omega
      by_cases hlen : 1500 < (partL ⟨pname, types⟩).length
      · have d : (1500 : Int) < (tx.size : Int) := by omega
        clear hsz hln
        go_wp2_with (
          go_at_call 36
          refine hX1.mono ?_
          rintro e w3 ⟨rfl, hb3⟩
          have hT3 := hbl.trans (hb3.mono (by omega)))
        refine bodyPost_ret (v := .iface 83 (.int .i64 6)) ?res rfl ⟨?_, (PC _ hT3).2.2.1⟩
        case res => simp [results, Tryz.results20, go_sem]
        rw [hE.out, if_neg h5, if_neg (by rw [hn]; simp), if_neg (by rw [hr]; simp), HBK.out, if_neg (by omega), if_pos hlen]
      · have d : ¬ (1500 : Int) < (tx.size : Int) := by omega
        clear hsz hln
        go_wp2_with (
          go_at_call 36
          refine hX1.mono ?_
          rintro e w3 ⟨rfl, hb3⟩
          have hT3 := hbl.trans (hb3.mono (by omega)))
        refine bodyPost_ret (v := .nilIface) ?res rfl ⟨?_, (PC _ hT3).2.2.1⟩
        case res => simp [results, Tryz.results20, go_sem]
        rw [hE.out, if_neg h5, if_neg (by rw [hn]; simp), if_neg (by rw [hr]; simp), HBK.out, if_neg (by omega), if_neg hlen]
end Go.Proofs.YtjpabpkfdahdhaaGreat
