/-
  The program's PartBreaks, walked.
-/
import Derived.Test.YtcpflkbbjlonbaaIBreaks
namespace Go.Proofs.Ytcpflkbbjlonbaa
set_option linter.unusedSimpArgs false
set_option linter.unusedVariables false
open Go.RowKit

theorem owns_keep {w w' : World} {base e sz n : Nat} {v : Value} {xs : List Value} (h : w.ownsRow base e sz v n xs) (hb : Below w.heap.size w w') : w'.ownsRow base e sz v n xs := by
  refine ⟨h.1, h.2.imp id ?_⟩
  rintro ⟨g, cap, cur, hv, hg, hh, hr⟩
  refine ⟨g, cap, cur, hv, hg, (hb.block g ?_).trans hh, hr⟩
  rcases Nat.lt_or_ge g w.heap.size with h | h
  · exact h
  · simp [Array.getElem?_eq_none h] at hh
theorem owns_base {w : World} {base e sz n : Nat} {v : Value} {xs : List Value} (h : w.ownsRow base e sz v n xs) (k : Nat) (hk : v.ownBlock = some k) : base ≤ k ∧ k < w.heap.size := by
  rcases h.2 with ⟨rfl, -⟩ | ⟨g, cap, cur, rfl, hg, hh, -⟩
  · simp [Value.ownBlock] at hk
  · simp [Value.ownBlock] at hk
    subst hk
    refine ⟨hg, ?_⟩
    rcases Nat.lt_or_ge g w.heap.size with h | h
    · exact h
    · simp [Array.getElem?_eq_none h] at hh
/-- A row's block is none of these. -/
def Apart (v : Value) (a b : Nat) : Prop := v.ownBlock ≠ some a ∧ v.ownBlock ≠ some b

set_option maxRecDepth 20000 in
set_option maxHeartbeats 6400000 in
theorem PartBreaksI_any (p q : Pt) (w : World) (B : Nat) (v u : Value) (hP : PRep w (· < B) p v) (hQ : PRep w (· < B) q u) (hB : B ≤ w.heap.size) (hz : szP p ≤ 1048576) (hzq : szP q ≤ 1048576) :
    Calls Try.prog 18 #[v, u] w fun e w' => TextsNew w w' (breaksL p q) e := by
  have hP' := hP
  have hQ' := hQ
  have HL : Hid (breaksL p q = if (okP p && okP q) = true then brT p q p.types.length else []) := rfl
  have HS : Hid (∀ i, ∀ x ∈ brT p q i, x.size ≤ 2097153) := brT_small p q hz
  have HN : Hid (∀ i, i ≤ p.types.length → (brT p q i).length ≤ 1048576) := fun i hi => by
    have h1 := brT_len p q i
    have h2 := szTsTo_mono p.types i _ hi
    have h3 : szP p = p.name.size + (p.types.length + szTsTo p.types p.types.length) := rfl
    omega
  have HBT : Hid (∀ i k, (btext (tth p.types i) k).size ≤ 2097153) := btext_small p hz
  obtain ⟨pname, types⟩ := p
  obtain ⟨ta, tc, rfl, hK, hnc, hpn⟩ := hP
  obtain ⟨qname, qtypes⟩ := q
  obtain ⟨qa, qc, rfl, hKq, hncq, hqn⟩ := hQ
  simp only at hK hnc hpn hP' hKq hncq hqn hQ'
  have h56 := hK.1
  obtain ⟨X, hXe⟩ : ∃ X, X = ((w.alloc (.cells #[.string pname, .slice ta types.length tc] 29)).alloc (.cells #[.string qname, .slice qa qtypes.length qc] 29)) := ⟨_, rfl⟩
  have PC : ∀ W, Below (w.heap.size + 1 + 1) X W → W.cell? ⟨w.heap.size, 0, none⟩ = some (.string pname) ∧ W.cell? ⟨w.heap.size, 1, none⟩ = some (.slice ta types.length tc) ∧ W.cell? ⟨w.heap.size + 1, 0, none⟩ = some (.string qname) ∧ W.cell? ⟨w.heap.size + 1, 1, none⟩ = some (.slice qa qtypes.length qc) ∧ Below w.heap.size w W ∧ w.heap.size + 1 < W.heap.size := fun W h => by
    subst hXe
    have hz := h.size
    simp at hz
    have a : ∀ i (hi : i < 2), W.cell? ⟨w.heap.size, i, none⟩ = some #[Value.string pname, .slice ta types.length tc][i] := fun i hi => (h.cell (p := ⟨w.heap.size, i, none⟩) (by show w.heap.size < _; omega)).trans (((below_box _ _).cell (p := ⟨w.heap.size, i, none⟩) (by show w.heap.size < _; simp)).trans (box_new _ _ i (by simpa using hi)))
    have c : ∀ i (hi : i < 2), W.cell? ⟨w.heap.size + 1, i, none⟩ = some #[Value.string qname, .slice qa qtypes.length qc][i] := fun i hi => (h.cell (p := ⟨w.heap.size + 1, i, none⟩) (by show w.heap.size + 1 < _; omega)).trans (by
      have := box_new (w := w.alloc (.cells #[.string pname, .slice ta types.length tc] 29)) #[Value.string qname, .slice qa qtypes.length qc] 29 i (by simpa using hi)
      rw [show (w.alloc (.cells #[.string pname, .slice ta types.length tc] 29)).heap.size = w.heap.size + 1 by simp] at this
      exact this)
    exact ⟨a 0 (by omega), a 1 (by omega), c 0 (by omega), c 1 (by omega), (below_box2 w _ _).trans (h.mono (by omega)), by omega⟩
  have hT0 : Below (w.heap.size + 1 + 1) X ((w.alloc (.cells #[.string pname, .slice ta types.length tc] 29)).alloc (.cells #[.string qname, .slice qa qtypes.length qc] 29)) := by rw [hXe]; exact Below.refl _ _
  clear hXe
  have hBW := fun W (h : Below (w.heap.size + 1 + 1) X W) => show B ≤ W.heap.size by have := (PC W h).2.2.2.2.2; omega
  have hC := fun W h => checkPart_any ⟨pname, types⟩ W B _ (hP'.under ((PC W h).2.2.2.2.1.mono hB)) (hBW W h) hz
  have hD := fun W h => checkPart_any ⟨qname, qtypes⟩ W B _ (hQ'.under ((PC W h).2.2.2.2.1.mono hB)) (hBW W h) hzq
  have hF := fun W h s => findType_any ⟨qname, qtypes⟩ W B _ s (hQ'.under ((PC W h).2.2.2.2.1.mono hB)) (hBW W h)
  cases ho : okP ⟨pname, types⟩
  · have HA : Hid (breaksL ⟨pname, types⟩ ⟨qname, qtypes⟩ = []) := by show _ = _; rw [HL.out, ho]; rfl
    rcases partErr_bad _ ho with ⟨x, hx⟩ | ⟨i, x, hx⟩ <;> rw [hx] at hC
    all_goals
      clear hF hD
      go_enter Try.func18, Try.ntmps18
      go_wp2_with (
        go_at_call 26
        refine (hC _ hT0).mono ?_
        rintro e w1 ⟨rfl, hb1⟩
        have hT1 := hT0.trans (hb1.mono (by simp)))
      go_ret
      rw [HA.out]
      exact TextsNew.nil (PC w1 hT1).2.2.2.2.1
  rw [partErr_ok _ ho] at hC
  cases ho2 : okP ⟨qname, qtypes⟩
  · have HA : Hid (breaksL ⟨pname, types⟩ ⟨qname, qtypes⟩ = []) := by show _ = _; rw [HL.out, ho2]; simp
    have C1 := hC _ hT0
    rcases partErr_bad _ ho2 with ⟨x, hx⟩ | ⟨i, x, hx⟩ <;> rw [hx] at hD
    all_goals
      clear hF hC
      go_enter Try.func18, Try.ntmps18
      go_wp2_with fail
      refine C1.mono ?_
      rintro e w1 ⟨rfl, hb1⟩
      have hT1 := hT0.trans (hb1.mono (by simp))
      obtain ⟨p0, p1, q0, q1, hw1, hz1⟩ := PC w1 hT1
      go_wp2_with fail
      refine (hD w1 hT1).mono ?_
      rintro e w2 ⟨rfl, hb2⟩
      have hT2 := hT1.trans (hb2.mono (by omega))
      go_wp2_with fail
      go_ret
      rw [HA.out]
      exact TextsNew.nil (PC w2 hT2).2.2.2.2.1
  rw [partErr_ok _ ho2] at hD
  have HA : Hid (breaksL ⟨pname, types⟩ ⟨qname, qtypes⟩ = brT ⟨pname, types⟩ ⟨qname, qtypes⟩ types.length) := by show _ = _; rw [HL.out, ho, ho2]; rfl
  have C1 := hC _ hT0
  clear hC ho ho2 HL
  go_enter Try.func18, Try.ntmps18
  go_wp2_with fail
  refine C1.mono ?_
  rintro e w1 ⟨rfl, hb1⟩
  have hT1 := hT0.trans (hb1.mono (by simp))
  clear C1 hb1 hT0
  obtain ⟨p0, p1, q0, q1, hw1, hz1⟩ := PC w1 hT1
  go_wp2_with fail
  refine (hD w1 hT1).mono ?_
  rintro e w2 ⟨rfl, hb2⟩
  have hT2 := hT1.trans (hb2.mono (by omega))
  clear hD hb2 hT1 p0 p1 q0 q1 hw1 hz1
  obtain ⟨p0, p1, q0, q1, hw2, hz2⟩ := PC w2 hT2
  go_wp2_with fail
  go_loopw [5, 23] (fun br i wr => ∃ (k : Nat) (v : Value), k ≤ types.length ∧ i = .int .i64 k ∧ v = br ∧ Hid (wr.ownsRow (w.heap.size + 1 + 1) 9 1 v (brT ⟨pname, types⟩ ⟨qname, qtypes⟩ k).length ((brT ⟨pname, types⟩ ⟨qname, qtypes⟩ k).map Value.string)) ∧ Below (w.heap.size + 1 + 1) X wr) (fun _ i _ => types.length - (intOf i).toNat)
  case atStart => exact ⟨0, _, Nat.zero_le _, rfl, rfl, World.ownsRow_nil _ _ _ _, hT2⟩
  case round =>
    clear hT2 p0 p1 q0 q1 hw2 hz2
    obtain ⟨k, v, hk, rfl, rfl, HO, hT3⟩ := hrel
    obtain ⟨w0, rfl⟩ : ∃ x, x = wr := ⟨wr, rfl⟩
    obtain ⟨p0, p1, q0, q1, hw0, hz0⟩ := PC w0 hT3
    by_cases hlt : k < types.length
    · obtain ⟨b, off, fa, fc, rfl, htr, hcs⟩ := hK.at hB k hlt
      obtain ⟨c0, c1, c2⟩ := hcs w0 hw0
      obtain ⟨fa', fc', e0, e1, e2, hfs, hffc, hs1, hs2⟩ := htr.parts
      simp only [Value.slice.injEq] at e2
      obtain ⟨rfl, -, rfl⟩ := e2
      have hf64 := hfs.1
      have hki : (k : Int) < (types.length : Int) := by omega
      clear e0 e1 hcs
      have hT4 := hT3.alloc (by omega) (.cells #[.string (tth types k).name, .string (tth types k).key, .slice fa (tth types k).fields.length fc] 59)
      obtain ⟨p40, p41, q40, q41, hw4, hz4⟩ := PC _ hT4
      have HO4 : Hid ((w0.alloc (.cells #[.string (tth types k).name, .string (tth types k).key, .slice fa (tth types k).fields.length fc] 59)).ownsRow (w.heap.size + 1 + 1) 9 1 v (brT ⟨pname, types⟩ ⟨qname, qtypes⟩ k).length ((brT ⟨pname, types⟩ ⟨qname, qtypes⟩ k).map Value.string)) := owns_keep HO.out (below_box w0 _)
      have K7 := heap_alloc_new w0 (.cells #[.string (tth types k).name, .string (tth types k).key, .slice fa (tth types k).fields.length fc] 59)
      have hs4 : (w0.alloc (.cells #[.string (tth types k).name, .string (tth types k).key, .slice fa (tth types k).fields.length fc] 59)).heap.size = w0.heap.size + 1 := by simp
      go_wp2_with fail
      refine (hF _ hT4 (tth types k).name).mono ?_
      rintro e w3 ⟨tn, tk, oa, ol, oc, rfl, hb3, hto⟩
      rw [hs4] at hb3
      have z3 := hb3.size
      rw [hs4] at z3
      have hT5 := (hT4.trans (hb3.mono (by omega))).alloc (by omega) (.cells #[.string tn, .string tk, .slice oa ol oc] 59)
      have HO5 : Hid ((w3.alloc (.cells #[.string tn, .string tk, .slice oa ol oc] 59)).ownsRow (w.heap.size + 1 + 1) 9 1 v (brT ⟨pname, types⟩ ⟨qname, qtypes⟩ k).length ((brT ⟨pname, types⟩ ⟨qname, qtypes⟩ k).map Value.string)) := owns_keep (owns_keep HO4.out (by rw [hs4]; exact hb3)) (below_box w3 _)
      have K75 := (Below.heap_alloc w3 (.cells #[.string tn, .string tk, .slice oa ol oc] 59) w0.heap.size (by omega)).trans ((hb3.block w0.heap.size (by omega)).trans K7)
      have K85 := heap_alloc_new w3 (.cells #[.string tn, .string tk, .slice oa ol oc] 59)
      have HAP : Hid (Apart v w0.heap.size w3.heap.size) := by
        constructor
        · intro e; have := owns_base HO.out _ e; omega
        · intro e; have := owns_base HO.out _ e; omega
      have hot := hto.under ((below_box w3 (.cells #[.string tn, .string tk, .slice oa ol oc] 59)).mono (by have := hBW w0 hT3; omega))
      have hs5 : (w3.alloc (.cells #[.string tn, .string tk, .slice oa ol oc] 59)).heap.size = w3.heap.size + 1 := by simp
      obtain ⟨-, -, -, -, hw5, -⟩ := PC _ hT5
      clear HO HO4 hT4 K7 hto hb3 p0 p1 q0 q1 p40 p41 q40 q41 hw4 hz4 c0 c1 c2
      obtain ⟨t70, -⟩ := box_at K75 2 (by simp)
      simp only [List.getElem_toArray, List.getElem_cons_succ, List.getElem_cons_zero] at t70
      go_wp2_with fail
      have HL1 : Hid (∀ j, j ≤ (tth types k).fields.length → (brT ⟨pname, types⟩ ⟨qname, qtypes⟩ k ++ brF (tth types k) (typeOr ⟨qname, qtypes⟩ (tth types k).name) j).length ≤ 1048576) := fun j hj => by
        have h1 := brT_len ⟨pname, types⟩ ⟨qname, qtypes⟩ k
        have h2 := szTsTo_mono types (k + 1) _ hlt
        rw [szTsTo_succ] at h2
        have h3 : szP ⟨pname, types⟩ = pname.size + (types.length + szTsTo types types.length) := rfl
        have h4 := brF_len (tth types k) (typeOr ⟨qname, qtypes⟩ (tth types k).name) j
        have h5 : szT (tth types k) = (tth types k).name.size + (tth types k).key.size + ((tth types k).fields.length + szFsTo (tth types k).fields (tth types k).fields.length) := rfl
        have h6 : (brT ⟨pname, types⟩ ⟨qname, qtypes⟩ k).length ≤ szTsTo types k := h1
        rw [List.length_append]
        omega
      have HL2 : Hid (brT ⟨pname, types⟩ ⟨qname, qtypes⟩ (k + 1) = brT ⟨pname, types⟩ ⟨qname, qtypes⟩ k ++ brF (tth types k) (typeOr ⟨qname, qtypes⟩ (tth types k).name) (tth types k).fields.length) := rfl
      generalize brT ⟨pname, types⟩ ⟨qname, qtypes⟩ k = L0 at HO5 HL1 HL2
      generalize typeOr ⟨qname, qtypes⟩ (tth types k).name = ot at hot HL1 HL2
      go_loopw [5, 37] (fun br i wr => ∃ (j : Nat) (v : Value), j ≤ (tth types k).fields.length ∧ i = .int .i64 j ∧ v = br ∧ Hid (wr.ownsRow (w.heap.size + 1 + 1) 9 1 v (L0 ++ brF (tth types k) ot j).length ((L0 ++ brF (tth types k) ot j).map Value.string)) ∧ Hid (Apart v w0.heap.size w3.heap.size) ∧ Hid (wr.heap[w0.heap.size]? = some (.cells #[.string (tth types k).name, .string (tth types k).key, .slice fa (tth types k).fields.length fc] 59 (0, 0)) ∧ wr.heap[w3.heap.size]? = some (.cells #[.string tn, .string tk, .slice oa ol oc] 59 (0, 0))) ∧ Below (w.heap.size + 1 + 1) X wr ∧ w3.heap.size < wr.heap.size) (fun _ i _ => (tth types k).fields.length - (intOf i).toNat)
      case atStart => exact ⟨0, _, Nat.zero_le _, rfl, rfl, by simpa [brF] using HO5, HAP, ⟨K75, K85⟩, hT5, by rw [hs5]; omega⟩
      case round =>
        clear HO5 HAP K75 K85 hT5 t70 hs4 hs5
        obtain ⟨j, v, hj, rfl, rfl, HO, HAP, HK, hT6, z6⟩ := hrel
        obtain ⟨w6, rfl⟩ : ∃ x, x = wr := ⟨wr, rfl⟩
        obtain ⟨-, -, -, -, hw6, hz6⟩ := PC w6 hT6
        by_cases hjt : j < (tth types k).fields.length
        · obtain ⟨fb, foff, na, nc, rfl, hfr, hcf⟩ := hfs.at hB j hjt
          obtain ⟨g0, g1, g2, g3, g4, g5, g6, g7⟩ := hcf w6 hw6
          have hji : (j : Int) < ((tth types k).fields.length : Int) := by omega
          have bF := below_box w6 (.cells #[.string (fth (tth types k).fields j).name, .string (fth (tth types k).fields j).of, .bool (fth (tth types k).fields j).list, .bool (fth (tth types k).fields j).must, .bool (fth (tth types k).fields j).far, .bool (fth (tth types k).fields j).hidden, .bool (fth (tth types k).fields j).shared, .slice na (fth (tth types k).fields j).needs.length nc] 35)
          have sF : (w6.alloc (.cells #[.string (fth (tth types k).fields j).name, .string (fth (tth types k).fields j).of, .bool (fth (tth types k).fields j).list, .bool (fth (tth types k).fields j).must, .bool (fth (tth types k).fields j).far, .bool (fth (tth types k).fields j).hidden, .bool (fth (tth types k).fields j).shared, .slice na (fth (tth types k).fields j).needs.length nc] 35)).heap.size = w6.heap.size + 1 := by simp
          have hTF := hT6.alloc (by omega) (.cells #[.string (fth (tth types k).fields j).name, .string (fth (tth types k).fields j).of, .bool (fth (tth types k).fields j).list, .bool (fth (tth types k).fields j).must, .bool (fth (tth types k).fields j).far, .bool (fth (tth types k).fields j).hidden, .bool (fth (tth types k).fields j).shared, .slice na (fth (tth types k).fields j).needs.length nc] 35)
          have KF := heap_alloc_new w6 (.cells #[.string (fth (tth types k).fields j).name, .string (fth (tth types k).fields j).of, .bool (fth (tth types k).fields j).list, .bool (fth (tth types k).fields j).must, .bool (fth (tth types k).fields j).far, .bool (fth (tth types k).fields j).hidden, .bool (fth (tth types k).fields j).shared, .slice na (fth (tth types k).fields j).needs.length nc] 35)
          have HOF : Hid ((w6.alloc (.cells #[.string (fth (tth types k).fields j).name, .string (fth (tth types k).fields j).of, .bool (fth (tth types k).fields j).list, .bool (fth (tth types k).fields j).must, .bool (fth (tth types k).fields j).far, .bool (fth (tth types k).fields j).hidden, .bool (fth (tth types k).fields j).shared, .slice na (fth (tth types k).fields j).needs.length nc] 35)).ownsRow (w.heap.size + 1 + 1) 9 1 v (L0 ++ brF (tth types k) ot j).length ((L0 ++ brF (tth types k) ot j).map Value.string)) := owns_keep HO.out bF
          have KF7 := (bF.block _ (by omega)).trans HK.out.1
          have KF8 := (bF.block _ (by omega)).trans HK.out.2
          have HB1 : Hid (brF (tth types k) ot (j + 1) = brF (tth types k) ot j ++ (if (!(fth (tth types k).fields j).hidden && !stillB (fth (tth types k).fields j) ot) = true then [btext (tth types k) j] else [])) := rfl
          obtain ⟨-, -, -, -, hwF, -⟩ := PC _ hTF
          have hBF := hBW _ hTF
          clear hcf bF HO HK
          cases yh : (fth (tth types k).fields j).hidden
          rotate_left
          · rw [yh] at g5
            have HB2 : Hid (brF (tth types k) ot (j + 1) = brF (tth types k) ot j) := by show _ = _; rw [HB1.out, yh]; simp
            rw [yh] at HOF KF7 KF8 hTF sF
            go_wp2_with fail
            go_roundw
            case rel => exact ⟨j + 1, v, by omega, by go_num, rfl, by rw [HB2.out]; exact HOF, HAP, ⟨KF7, KF8⟩, hTF, by rw [sF]; omega⟩
            case measure => simp [intOf]; omega
          rw [yh] at g5 HOF KF7 KF8 KF hTF sF hfr hwF hBF
          have hst := isStillAsked_any (fth (tth types k).fields j) ot (w6.alloc (.cells #[.string (fth (tth types k).fields j).name, .string (fth (tth types k).fields j).of, .bool (fth (tth types k).fields j).list, .bool (fth (tth types k).fields j).must, .bool (fth (tth types k).fields j).far, .bool false, .bool (fth (tth types k).fields j).shared, .slice na (fth (tth types k).fields j).needs.length nc] 35)) B _ _ (hfr.under (hwF.mono hB)) (hot.mono fun k hk => (hwF.block k (by omega)).trans (hw5.block k (by omega)).symm) hBF
          obtain ⟨f0, -⟩ := box_at KF 0 (by simp)
          obtain ⟨f1, -⟩ := box_at KF 1 (by simp)
          obtain ⟨f2, -⟩ := box_at KF 2 (by simp)
          obtain ⟨f3, -⟩ := box_at KF 3 (by simp)
          obtain ⟨f4, -⟩ := box_at KF 4 (by simp)
          obtain ⟨f5, -⟩ := box_at KF 5 (by simp)
          obtain ⟨f6, -⟩ := box_at KF 6 (by simp)
          obtain ⟨f7, -⟩ := box_at KF 7 (by simp)
          obtain ⟨o0, -⟩ := box_at KF8 0 (by simp)
          obtain ⟨o1, -⟩ := box_at KF8 1 (by simp)
          obtain ⟨o2, -⟩ := box_at KF8 2 (by simp)
          simp only [List.getElem_toArray, List.getElem_cons_succ, List.getElem_cons_zero] at f0 f1 f2 f3 f4 f5 f6 f7 o0 o1 o2
          go_wp2_with fail
          clear f0 f1 f2 f3 f4 f5 f6 f7 o0 o1 o2
          refine hst.mono ?_
          rintro e w7 ⟨rfl, hb7⟩
          have z7 := hb7.size
          rw [sF] at z7
          have hT7 := hTF.trans (hb7.mono (by rw [sF]; omega))
          obtain ⟨-, -, -, -, hw7, hz7⟩ := PC w7 hT7
          have HO7 : Hid (w7.ownsRow (w.heap.size + 1 + 1) 9 1 v (L0 ++ brF (tth types k) ot j).length ((L0 ++ brF (tth types k) ot j).map Value.string)) := owns_keep HOF.out hb7
          have K77 := (hb7.block _ (by rw [sF]; omega)).trans KF7
          have K78 := (hb7.block _ (by rw [sF]; omega)).trans KF8
          have K7F := (hb7.block _ (by rw [sF]; omega)).trans KF
          clear hst HOF KF7 KF8 KF hb7 hTF hwF hBF g0 g1 g2 g3 g4 g5 g6 g7
          cases ys : stillB (fth (tth types k).fields j) ot
          rotate_left
          · have HB2 : Hid (brF (tth types k) ot (j + 1) = brF (tth types k) ot j) := by show _ = _; rw [HB1.out, ys]; simp
            go_wp2_with fail
            go_roundw
            case rel => exact ⟨j + 1, v, by omega, by go_num, rfl, by rw [HB2.out]; exact HO7, HAP, ⟨K77, K78⟩, hT7, by omega⟩
            case measure => simp [intOf]; omega
          have HB2 : Hid (brF (tth types k) ot (j + 1) = brF (tth types k) ot j ++ [(btext (tth types k) j)]) := by show _ = _; rw [HB1.out, yh, ys]; rfl
          have hlen := HL1.out j hj
          have hbt := HBT.out k j
          have hbs : (tth types k).name.size + (fth (tth types k).fields j).name.size + 1 ≤ 9223372036854775807 := by
            have h : (btext (tth types k) j).size = (tth types k).name.size + 1 + (fth (tth types k).fields j).name.size := by rw [btext, ByteArray.size_append, ByteArray.size_append]; rfl
            omega
          have hFT := fieldText_any (tth types k).name (fth (tth types k).fields j).name w7 hbs
          have HBE : Hid ((tth types k).name ++ ⟨#[46]⟩ ++ (fth (tth types k).fields j).name = (btext (tth types k) j)) := rfl
          rw [HBE.out] at hFT
          obtain ⟨n0, -⟩ := box_at K77 0 (by simp)
          obtain ⟨m0, -⟩ := box_at K7F 0 (by simp)
          simp only [List.getElem_toArray, List.getElem_cons_succ, List.getElem_cons_zero] at n0 m0
          obtain ⟨i0, hi, hz0', hz1', hz2'⟩ := info_parts info9
          have HOS : Hid ((w7.alloc (.cells #[.string (btext (tth types k) j)] 9)).ownsRow (w.heap.size + 1 + 1) 9 1 v (L0 ++ brF (tth types k) ot j).length ((L0 ++ brF (tth types k) ot j).map Value.string)) := owns_keep HO7.out (below_box w7 _)
          have sS : (w7.alloc (.cells #[.string (btext (tth types k) j)] 9)).heap.size = w7.heap.size + 1 := by simp
          go_wp2_with fail
          refine hFT.mono ?_
          rintro e w' ⟨rfl, rfl⟩
          generalize (btext (tth types k) j) = bt at *
          go_wp2_with (at_builtin; refine wpList_append_lies _ rfl (.tmp 50) (.tmp 56) 33 rfl (w.heap.size + 1 + 1) 9 i0 (.string ByteArray.empty) 1 16 Try.underlying33 hi hz0' hz1' hz2' rfl (by decide) v (L0 ++ brF (tth types k) ot j).length ((L0 ++ brF (tth types k) ot j).map Value.string) rfl HOS.out ⟨w7.heap.size, 0, none⟩ 1 1 [.string bt] rfl rfl (World.news_of_block (heap_alloc_new w7 _)) (by intro u hu; simp at hu; subst hu; rfl) (by omega) (by unfold maxLen; omega) (by omega) (by rw [sS]; omega) (w7.heap.size + 1) (by simp) ?_)
          intro g cap w8 hown hgrow hat hlt8
          have hT8 := Below.grown (hT7.alloc (by omega) _) hgrow (by rw [sS]; omega) (fun k hk => (owns_base HOS.out k hk).1)
          have z8 := hgrow.size
          rw [sS] at z8
          have K87 := (hgrow.block _ (by rw [sS]; omega) (fun e => HAP.out.1 e.symm)).trans ((Below.heap_alloc _ _ _ (by omega)).trans K77)
          have K88 := (hgrow.block _ (by rw [sS]; omega) (fun e => HAP.out.2 e.symm)).trans ((Below.heap_alloc _ _ _ (by omega)).trans K78)
          have HAP8 : Hid (Apart (.slice (some ⟨g, 0, none⟩) (L0.length + (brF (tth types k) ot j).length + 1) cap) w0.heap.size w3.heap.size) := by
            rcases hat with h | h
            · constructor
              · intro e; exact HAP.out.1 (h.trans e)
              · intro e; exact HAP.out.2 (h.trans e)
            · constructor
              · intro e; simp [Value.ownBlock] at e; omega
              · intro e; simp [Value.ownBlock] at e; omega
          have HO8 : Hid (w8.ownsRow (w.heap.size + 1 + 1) 9 1 (.slice (some ⟨g, 0, none⟩) (L0.length + (brF (tth types k) ot j).length + 1) cap) (L0 ++ brF (tth types k) ot (j + 1)).length ((L0 ++ brF (tth types k) ot (j + 1)).map Value.string)) := by
            show w8.ownsRow _ _ _ _ _ _
            have e1 : (L0 ++ brF (tth types k) ot (j + 1)).length = L0.length + (brF (tth types k) ot j).length + 1 := by rw [HB2.out]; simp; omega
            have e2 : (L0 ++ brF (tth types k) ot (j + 1)).map Value.string = List.map Value.string L0 ++ (List.map Value.string (brF (tth types k) ot j) ++ [Value.string bt]) := by rw [HB2.out]; simp
            rw [e1, e2]
            exact hown
          clear hown hgrow hat K77 K78 K7F HO7 HOS HAP hT7 n0 m0
          go_wp2_with fail
          go_roundw
          case rel => exact ⟨j + 1, _, by omega, by go_num, rfl, HO8, HAP8, ⟨K87, K88⟩, hT8, by omega⟩
          case measure => simp [intOf]; omega
        · have e : j = (tth types k).fields.length := by omega
          go_wp2_with fail
          go_roundw
          case rel => exact ⟨k + 1, v, by omega, by go_num, rfl, by rw [HL2.out, ← e]; exact HO, hT6⟩
          case measure => simp [intOf]; omega
    · have e : k = types.length := by omega
      go_wp2_with fail
      go_ret
      rw [HA.out, ← e]
      exact TextsNew.own hw0 (by omega) HO.out (HS.out k) (HN.out k hk)
end Go.Proofs.Ytcpflkbbjlonbaa
