/-
  The model's PartField: the field, and whether it is there.
-/
import Derived.Test.YtcpflkbbjlonbaaPPField
namespace Go.Proofs.Ytcpflkbbjlonbaa
set_option linter.unusedSimpArgs false
set_option linter.unusedVariables false
open Go.RowKit

theorem fieldResultS (FW : World) (tmps : Array Value) (N : Nat) (ok : Bool) (v0 v1 v2 v3 v4 v5 v6 v7 : Value) (h6 : tmps.getD 6 undef = .pointer (some ⟨N, 0, none⟩)) (h7 : tmps.getD 7 undef = .bool ok)
    (d0 : FW.cell? ⟨N, 0, none⟩ = some v0) (d1 : FW.cell? ⟨N, 1, none⟩ = some v1) (d2 : FW.cell? ⟨N, 2, none⟩ = some v2) (d3 : FW.cell? ⟨N, 3, none⟩ = some v3) (d4 : FW.cell? ⟨N, 4, none⟩ = some v4) (d5 : FW.cell? ⟨N, 5, none⟩ = some v5) (d6 : FW.cell? ⟨N, 6, none⟩ = some v6) (d7 : FW.cell? ⟨N, 7, none⟩ = some v7) :
    (results Try.f11 tmps).run Try.prog FW = .ok (.tuple #[.agg #[v0, v1, v2, v3, v4, v5, v6, v7], .bool ok]) FW := by
  simp only [Array.getD_eq_getD_getElem?] at h6 h7
  simp [results, Try.results11, go_sem, h6, h7, d0, d1, d2, d3, d4, d5, d6, d7]

set_option maxRecDepth 20000 in
set_option maxHeartbeats 3200000 in
theorem PartFieldS_any (p : Pt) (s f : ByteArray) (w : World) (B : Nat) (v : Value) (hP : PRep w (· < B) p v) (hB : B ≤ w.heap.size) (hz : szP p ≤ 1048576) :
    Calls Try.prog 11 #[v, .string s, .string f] w fun e w' => ∃ (nm of : ByteArray) (l m fr hi sh : Bool) (na : Option Addr) (nc : Nat),
      e = .returned (.tuple #[.agg #[.string nm, .string of, .bool l, .bool m, .bool fr, .bool hi, .bool sh, .slice na (fieldAns p s f).needs.length nc], .bool (fieldOkB p s f)]) ∧ Below w.heap.size w w' ∧
      FRep w' (fun b => w.heap.size ≤ b ∧ b < w'.heap.size) (fieldAns p s f) (.agg #[.string nm, .string of, .bool l, .bool m, .bool fr, .bool hi, .bool sh, .slice na (fieldAns p s f).needs.length nc]) := by
  have hP' := hP
  have hfs := typeOr_sz p s hz
  have hfn := fieldOr_needs (typeOr p s) f hfs
  obtain ⟨pname, types⟩ := p
  obtain ⟨ta, tc, rfl, hK, hnc, hpn⟩ := hP
  simp only at hK hnc hpn hP'
  obtain ⟨X, hXe⟩ : ∃ X, X = ((w.alloc (.cells #[.string pname, .slice ta types.length tc] 29)).alloc (.cells #[.string ByteArray.empty, .string ByteArray.empty, .bool false, .bool false, .bool false, .bool false, .bool false, .slice none 0 0] 35)) := ⟨_, rfl⟩
  have PC : ∀ W, Below (w.heap.size + 1 + 1) X W → W.cell? ⟨w.heap.size, 0, none⟩ = some (.string pname) ∧ W.cell? ⟨w.heap.size, 1, none⟩ = some (.slice ta types.length tc) ∧ W.heap[w.heap.size + 1]? = some (.cells #[.string ByteArray.empty, .string ByteArray.empty, .bool false, .bool false, .bool false, .bool false, .bool false, .slice none 0 0] 35 (0, 0)) ∧ Below w.heap.size w W ∧ w.heap.size + 1 < W.heap.size := fun W h => by
    subst hXe
    have hz := h.size
    simp at hz
    have a : ∀ i (hi : i < 2), W.cell? ⟨w.heap.size, i, none⟩ = some #[Value.string pname, .slice ta types.length tc][i] := fun i hi => (h.cell (p := ⟨w.heap.size, i, none⟩) (by show w.heap.size < _; omega)).trans (((below_box _ _).cell (p := ⟨w.heap.size, i, none⟩) (by show w.heap.size < _; simp)).trans (box_new _ _ i (by simpa using hi)))
    have hb : W.heap[w.heap.size + 1]? = some (.cells #[.string ByteArray.empty, .string ByteArray.empty, .bool false, .bool false, .bool false, .bool false, .bool false, .slice none 0 0] 35 (0, 0)) := (h.block (w.heap.size + 1) (by omega)).trans (by have := heap_alloc_new (w.alloc (.cells #[.string pname, .slice ta types.length tc] 29)) (.cells #[.string ByteArray.empty, .string ByteArray.empty, .bool false, .bool false, .bool false, .bool false, .bool false, .slice none 0 0] 35); simpa using this)
    exact ⟨a 0 (by omega), a 1 (by omega), hb, (below_box2 w _ _).trans (h.mono (by omega)), by omega⟩
  have hT0 : Below (w.heap.size + 1 + 1) X ((w.alloc (.cells #[.string pname, .slice ta types.length tc] 29)).alloc (.cells #[.string ByteArray.empty, .string ByteArray.empty, .bool false, .bool false, .bool false, .bool false, .bool false, .slice none 0 0] 35)) := by rw [hXe]; exact Below.refl _ _
  clear hXe
  have hBW := fun W (h : Below (w.heap.size + 1 + 1) X W) => show B ≤ W.heap.size by have := (PC W h).2.2.2.2; omega
  have hC := fun W h => PartCheckS_any ⟨pname, types⟩ W B _ (hP'.under ((PC W h).2.2.2.1.mono hB)) (hBW W h) hz
  have hI := fun W h => l2Type_any ⟨pname, types⟩ W B _ s (hP'.under ((PC W h).2.2.2.1.mono hB)) (hBW W h)
  have hok := partFault_ok ⟨pname, types⟩
  have HTX : Hid (typeIx ⟨pname, types⟩ s = firstTo (fun i => (tth types i).name.toList == s.toList) types.length) := rfl
  simp only at hI
  rw [← HTX.out] at hI
  generalize partFault ⟨pname, types⟩ = pf at hC hok
  obtain ⟨pa, pc⟩ := pf
  simp only at hC hok
  have hfld := field_code (.int .i64 pa) (.int .i64 pc)
  have I1 := hI _ hT0
  cases ho : okP ⟨pname, types⟩
  · have HA : Hid (fieldAns ⟨pname, types⟩ s f = F.zero ∧ fieldOkB ⟨pname, types⟩ s f = false) := ⟨by rw [fieldAns, if_neg (by rw [ho]; simp)], by rw [fieldOkB, ho]; rfl⟩
    have hne : (pc != 0) = true := by simp; intro e; rw [hok.1 e] at ho; cases ho
    clear hok ho hfs hfn
    generalize typeIx ⟨pname, types⟩ s = ix at I1
    go_enter Try.func11, Try.ntmps11
    go_wp2_with (first
      | (
        go_at_call 29
        refine I1.mono ?_
        rintro e w1 ⟨rfl, hb1⟩
        have hT1 := hT0.trans (hb1.mono (by simp))
        obtain ⟨q0, q1, -, hw1, hz1⟩ := PC w1 hT1)
      | (
        go_at_call 23
        refine (hC w1 hT1).mono ?_
        rintro e w2 ⟨rfl, hb2⟩
        have hT2 := hT1.trans (hb2.mono (by omega))
        obtain ⟨p0, p1, hbx, hw2, hz2⟩ := PC w2 hT2
        obtain ⟨a0, b0⟩ := box_at hbx 0 (by simp)
        obtain ⟨a1, b1⟩ := box_at hbx 1 (by simp)
        obtain ⟨a2, b2⟩ := box_at hbx 2 (by simp)
        obtain ⟨a3, b3⟩ := box_at hbx 3 (by simp)
        obtain ⟨a4, b4⟩ := box_at hbx 4 (by simp)
        obtain ⟨a5, b5⟩ := box_at hbx 5 (by simp)
        obtain ⟨a6, b6⟩ := box_at hbx 6 (by simp)
        obtain ⟨a7, b7⟩ := box_at hbx 7 (by simp)))
    obtain ⟨d0, d1, d2, d3, d4, d5, d6, d7⟩ := sets_cells hbx rfl (.string ⟨#[]⟩) (.string ⟨#[]⟩) (.bool false) (.bool false) (.bool false) (.bool false) (.bool false) (.slice none 0 0) _ rfl
    refine bodyPost_ret (fieldResultS _ _ (w.heap.size + 1) false (.string ⟨#[]⟩) (.string ⟨#[]⟩) (.bool false) (.bool false) (.bool false) (.bool false) (.bool false) (.slice none 0 0) rfl rfl d0 d1 d2 d3 d4 d5 d6 d7) rfl ?_
    rw [HA.out.1, HA.out.2]
    exact ⟨_, _, _, _, _, _, _, _, _, rfl, below_sets hw2 (Nat.le_succ _) _ _ _ _ _ _ _ _, FRep.zero _ _⟩
  have HO : Hid (okP ⟨pname, types⟩ = true) := ho
  have hp0 : pc = 0 := hok.2 ho
  subst hp0
  clear hok ho
  rcases firstTo_cases (fun i => (tth types i).name.toList == s.toList) types.length with ⟨hx, -⟩ | ⟨g, hx, hg, -, -⟩
  · rw [← HTX.out] at hx
    have HA : Hid (fieldAns ⟨pname, types⟩ s f = F.zero ∧ fieldOkB ⟨pname, types⟩ s f = false) := ⟨by rw [fieldAns, if_pos HO.out, if_neg (by rw [hx]; omega)], by rw [fieldOkB, hx]; simp⟩
    rw [hx] at I1
    clear hx hfs hfn
    go_enter Try.func11, Try.ntmps11
    go_wp2_with (first
      | (
        go_at_call 29
        refine I1.mono ?_
        rintro e w1 ⟨rfl, hb1⟩
        have hT1 := hT0.trans (hb1.mono (by simp))
        obtain ⟨q0, q1, -, hw1, hz1⟩ := PC w1 hT1)
      | (
        go_at_call 23
        refine (hC w1 hT1).mono ?_
        rintro e w2 ⟨rfl, hb2⟩
        have hT2 := hT1.trans (hb2.mono (by omega))
        obtain ⟨p0, p1, hbx, hw2, hz2⟩ := PC w2 hT2
        obtain ⟨a0, b0⟩ := box_at hbx 0 (by simp)
        obtain ⟨a1, b1⟩ := box_at hbx 1 (by simp)
        obtain ⟨a2, b2⟩ := box_at hbx 2 (by simp)
        obtain ⟨a3, b3⟩ := box_at hbx 3 (by simp)
        obtain ⟨a4, b4⟩ := box_at hbx 4 (by simp)
        obtain ⟨a5, b5⟩ := box_at hbx 5 (by simp)
        obtain ⟨a6, b6⟩ := box_at hbx 6 (by simp)
        obtain ⟨a7, b7⟩ := box_at hbx 7 (by simp)))
    obtain ⟨d0, d1, d2, d3, d4, d5, d6, d7⟩ := sets_cells hbx rfl (.string ⟨#[]⟩) (.string ⟨#[]⟩) (.bool false) (.bool false) (.bool false) (.bool false) (.bool false) (.slice none 0 0) _ rfl
    refine bodyPost_ret (fieldResultS _ _ (w.heap.size + 1) false (.string ⟨#[]⟩) (.string ⟨#[]⟩) (.bool false) (.bool false) (.bool false) (.bool false) (.bool false) (.slice none 0 0) rfl rfl d0 d1 d2 d3 d4 d5 d6 d7) rfl ?_
    rw [HA.out.1, HA.out.2]
    exact ⟨_, _, _, _, _, _, _, _, _, rfl, below_sets hw2 (Nat.le_succ _) _ _ _ _ _ _ _ _, FRep.zero _ _⟩
  rw [← HTX.out] at hx
  have hto : typeOr ⟨pname, types⟩ s = tth types g := by rw [typeOr, if_pos (by rw [hx]; omega), hx]; rfl
  have HA0 : Hid (fieldAns ⟨pname, types⟩ s f = fieldOr (tth types g) f ∧ fieldOkB ⟨pname, types⟩ s f = decide (0 ≤ fieldIx (tth types g) f)) := ⟨by rw [fieldAns, if_pos HO.out, if_pos (by rw [hx]; omega), hto], by rw [fieldOkB, HO.out, hx, hto]; simp⟩
  rw [hto] at hfs hfn
  rw [hx] at I1
  clear hx hto
  obtain ⟨b, off, fa, fc, rfl, htr, hcs⟩ := hK.at hB g hg
  obtain ⟨fa', fc', e0, e1, e2, hff, hffc, hs1, hs2⟩ := htr.parts
  simp only [Value.slice.injEq] at e2
  obtain ⟨rfl, -, rfl⟩ := e2
  clear e0 e1
  have hgi : (g : Int) < (types.length : Int) := by omega
  have hg0 : ¬ (g : Int) < 0 := by omega
  have hL := fun W h => l2Field_any (tth types g) W B _ f (htr.under ((PC W h).2.2.2.1.mono hB)) (hBW W h)
  have HFX : Hid (fieldIx (tth types g) f = firstTo (fun i => (fth (tth types g).fields i).name.toList == f.toList) (tth types g).fields.length) := rfl
  rcases firstTo_cases (fun i => (fth (tth types g).fields i).name.toList == f.toList) (tth types g).fields.length with ⟨hx, -⟩ | ⟨h, hx, hh, -, -⟩
  · rw [hx] at hL
    have HA : Hid (fieldAns ⟨pname, types⟩ s f = F.zero ∧ fieldOkB ⟨pname, types⟩ s f = false) := ⟨by rw [HA0.out.1, fieldOr, if_neg (by rw [HFX.out, hx]; omega)], by rw [HA0.out.2, HFX.out, hx]; rfl⟩
    clear hx hfs hfn
    go_enter Try.func11, Try.ntmps11
    go_wp2_with (first
      | (
        go_at_call 29
        refine I1.mono ?_
        rintro e w1 ⟨rfl, hb1⟩
        have hT1 := hT0.trans (hb1.mono (by simp))
        obtain ⟨q0, q1, -, hw1, hz1⟩ := PC w1 hT1)
      | (
        go_at_call 23
        refine (hC w1 hT1).mono ?_
        rintro e w2 ⟨rfl, hb2⟩
        have hT2 := hT1.trans (hb2.mono (by omega))
        obtain ⟨p0, p1, -, hw2, hz2⟩ := PC w2 hT2
        obtain ⟨c0, c1, c2⟩ := hcs w2 hw2)
      | (
        go_at_call 30
        refine (hL w2 hT2).mono ?_
        rintro e w3 ⟨rfl, hb3⟩
        have hT3 := hT2.trans (hb3.mono (by omega))
        obtain ⟨y0, y1, hbx, hw3, hz3⟩ := PC w3 hT3
        obtain ⟨a0, b0⟩ := box_at hbx 0 (by simp)
        obtain ⟨a1, b1⟩ := box_at hbx 1 (by simp)
        obtain ⟨a2, b2⟩ := box_at hbx 2 (by simp)
        obtain ⟨a3, b3⟩ := box_at hbx 3 (by simp)
        obtain ⟨a4, b4⟩ := box_at hbx 4 (by simp)
        obtain ⟨a5, b5⟩ := box_at hbx 5 (by simp)
        obtain ⟨a6, b6⟩ := box_at hbx 6 (by simp)
        obtain ⟨a7, b7⟩ := box_at hbx 7 (by simp)))
    obtain ⟨d0, d1, d2, d3, d4, d5, d6, d7⟩ := sets_cells hbx rfl (.string ⟨#[]⟩) (.string ⟨#[]⟩) (.bool false) (.bool false) (.bool false) (.bool false) (.bool false) (.slice none 0 0) _ rfl
    refine bodyPost_ret (fieldResultS _ _ (w.heap.size + 1) false (.string ⟨#[]⟩) (.string ⟨#[]⟩) (.bool false) (.bool false) (.bool false) (.bool false) (.bool false) (.slice none 0 0) rfl rfl d0 d1 d2 d3 d4 d5 d6 d7) rfl ?_
    rw [HA.out.1, HA.out.2]
    exact ⟨_, _, _, _, _, _, _, _, _, rfl, below_sets hw3 (Nat.le_succ _) _ _ _ _ _ _ _ _, FRep.zero _ _⟩
  rw [hx] at hL
  have HA : Hid (fieldAns ⟨pname, types⟩ s f = fth (tth types g).fields h ∧ fieldOkB ⟨pname, types⟩ s f = true) := ⟨by rw [HA0.out.1, fieldOr, HFX.out, hx, if_pos (by omega)]; rfl, by rw [HA0.out.2, HFX.out, hx]; simp⟩
  have hnn := needs_small _ hfs h
  clear hx hfs hfn HA0 HFX
  obtain ⟨fb, foff, na, nc, rfl, hfr, hcf⟩ := hff.at hB h hh
  have hhi : (h : Int) < ((tth types g).fields.length : Int) := by omega
  have hh0 : ¬ (h : Int) < 0 := by omega
  have hCP := fun W h' => l2Copy_any (fth (tth types g).fields h) W B _ (hfr.under ((PC W h').2.2.2.1.mono hB)) (hBW W h') hnn
  generalize fth (tth types g).fields h = ff at *
  go_enter Try.func11, Try.ntmps11
  go_wp2_with (first
    | (
      go_at_call 29
      refine I1.mono ?_
      rintro e w1 ⟨rfl, hb1⟩
      have hT1 := hT0.trans (hb1.mono (by simp))
      obtain ⟨q0, q1, -, hw1, hz1⟩ := PC w1 hT1)
    | (
      go_at_call 23
      refine (hC w1 hT1).mono ?_
      rintro e w2 ⟨rfl, hb2⟩
      have hT2 := hT1.trans (hb2.mono (by omega))
      obtain ⟨p0, p1, -, hw2, hz2⟩ := PC w2 hT2
      obtain ⟨c0, c1, c2⟩ := hcs w2 hw2)
    | (
      go_at_call 30
      refine (hL w2 hT2).mono ?_
      rintro e w3 ⟨rfl, hb3⟩
      have hT3 := hT2.trans (hb3.mono (by omega))
      obtain ⟨y0, y1, -, hw3, hz3⟩ := PC w3 hT3
      obtain ⟨c30, c31, c32⟩ := hcs w3 hw3
      obtain ⟨g0, g1, g2, g3, g4, g5, g6, g7⟩ := hcf w3 hw3)
    | (
      go_at_call 31
      refine (hCP w3 hT3).mono ?_
      rintro e w4 ⟨a', c', rfl, hb4, hf4⟩
      have hT4 := hT3.trans (hb4.mono (by omega))
      obtain ⟨-, -, hbx, hw4, hz4⟩ := PC w4 hT4
      obtain ⟨a0, b0⟩ := box_at hbx 0 (by simp)
      obtain ⟨a1, b1⟩ := box_at hbx 1 (by simp)
      obtain ⟨a2, b2⟩ := box_at hbx 2 (by simp)
      obtain ⟨a3, b3⟩ := box_at hbx 3 (by simp)
      obtain ⟨a4, b4⟩ := box_at hbx 4 (by simp)
      obtain ⟨a5, b5⟩ := box_at hbx 5 (by simp)
      obtain ⟨a6, b6⟩ := box_at hbx 6 (by simp)
      obtain ⟨a7, b7⟩ := box_at hbx 7 (by simp)))
  have hz43 := hb4.size
  obtain ⟨d0, d1, d2, d3, d4, d5, d6, d7⟩ := sets_cells hbx rfl (.string ff.name) (.string ff.of) (.bool ff.list) (.bool ff.must) (.bool ff.far) (.bool ff.hidden) (.bool ff.shared) (.slice a' ff.needs.length c') _ rfl
  refine bodyPost_ret (fieldResultS _ _ (w.heap.size + 1) true (.string ff.name) (.string ff.of) (.bool ff.list) (.bool ff.must) (.bool ff.far) (.bool ff.hidden) (.bool ff.shared) (.slice a' ff.needs.length c') rfl rfl d0 d1 d2 d3 d4 d5 d6 d7) rfl ?_
  rw [HA.out.1, HA.out.2]
  refine ⟨_, _, _, _, _, _, _, _, _, rfl, below_sets hw4 (Nat.le_succ _) _ _ _ _ _ _ _ _, (hf4.mono fun k hk => sets_block (by omega) _ _ _ _ _ _ _ _ _).sub fun k hk => ?_⟩
  rw [sets_size]; omega
end Go.Proofs.Ytcpflkbbjlonbaa
