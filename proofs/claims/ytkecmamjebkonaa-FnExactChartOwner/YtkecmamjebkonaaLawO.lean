/-
  The law of ChartOwner, walked: for every chart and every two texts it returns true and writes nothing that was there.
-/
import Derived.Test.YtkecmamjebkonaaCOwnerS
import Derived.Deep.RegionHeld3
import Derived.Deep.DeepCutAuto
namespace Go.Proofs.Ytkecmamjebkonaa
set_option linter.unusedSimpArgs false
set_option linter.unusedVariables false
open Go.RowKit

/-- What the law's box holds in whatever later world. -/
theorem law_boxC {w W : World} {x0 x1 x2 : Value} (h : Below (w.heap.size + 1) (w.alloc (.cells #[x0, x1, x2] 27)) W) :
    W.cell? ⟨w.heap.size, 0, none⟩ = some x0 ∧ W.cell? ⟨w.heap.size, 1, none⟩ = some x1 ∧ W.cell? ⟨w.heap.size, 2, none⟩ = some x2 ∧ Below w.heap.size w W ∧ w.heap.size < W.heap.size := by
  have hz := h.size
  simp at hz
  have a : ∀ i (hi : i < 3), W.cell? ⟨w.heap.size, i, none⟩ = some #[x0, x1, x2][i] := fun i hi => (h.cell (p := ⟨w.heap.size, i, none⟩) (by show w.heap.size < _; omega)).trans (boxNew _ _ i (by simpa using hi))
  exact ⟨a 0 (by omega), a 1 (by omega), a 2 (by omega), (below_box w _).trans (h.mono (by omega)), by omega⟩

set_option maxRecDepth 20000 in
set_option maxHeartbeats 6400000 in
theorem lawO_walk (c : Ch) (s f : ByteArray) (w : World) (v : Value) (hs : s.size ≤ maxLen) (hf : f.size ≤ maxLen) (hR : CRep w (· < w.heap.size) c v) :
    Calls Try.prog 3 #[v, .string s, .string f] w fun e w' => e = .returned (.bool true) ∧ Below w.heap.size w w' := by
  have hx := hR
  unfold maxLen at hs hf
  obtain ⟨⟨pn, pt⟩, os⟩ := c
  obtain ⟨ta, oa, tc, oc, rfl, -⟩ := hR
  simp only at hx
  by_cases h1 : 1048576 < s.size
  · have d1 : (1048576 : Int) < (s.size : Int) := by omega
    go_enter Try.func3, Try.ntmps3
    go_wp2_with fail
    go_ret
    exact ⟨rfl, below_box _ _⟩
  have d1 : ¬ (1048576 : Int) < (s.size : Int) := by omega
  by_cases h2 : 1048576 < f.size
  · have d2 : (1048576 : Int) < (f.size : Int) := by omega
    go_enter Try.func3, Try.ntmps3
    go_wp2_with fail
    go_ret
    exact ⟨rfl, below_box _ _⟩
  have d2 : ¬ (1048576 : Int) < (f.size : Int) := by omega
  obtain ⟨X, hXe⟩ : ∃ X, X = (w.alloc (.cells #[.string pn, .slice ta pt.length tc, .slice oa os.length oc] 27)) := ⟨_, rfl⟩
  have TB : ∀ W, Below (w.heap.size + 1) X W → W.cell? ⟨w.heap.size, 0, none⟩ = some (.string pn) ∧ W.cell? ⟨w.heap.size, 1, none⟩ = some (.slice ta pt.length tc) ∧ W.cell? ⟨w.heap.size, 2, none⟩ = some (.slice oa os.length oc) ∧ Below w.heap.size w W ∧ w.heap.size < W.heap.size := fun W h => law_boxC (by rw [← hXe]; exact h)
  have hT0 : Below (w.heap.size + 1) X (w.alloc (.cells #[.string pn, .slice ta pt.length tc, .slice oa os.length oc] 27)) := by rw [hXe]; exact Below.refl _ _
  clear hXe
  have CPx := fun W (hb : Below w.heap.size w W) => toChart_any ⟨⟨pn, pt⟩, os⟩ W w.heap.size _ (hx.under hb) hb.size
  have NPx := fun W (hb : Below w.heap.size w W) => toChart_nf ⟨⟨pn, pt⟩, os⟩ W w.heap.size _ (hx.under hb) hb.size
  simp only at CPx NPx
  go_enter Try.func3, Try.ntmps3
  go_wp2_with fail
  clear d1 d2 h1 h2
  refine (szChart_any _ _ w.heap.size _ _ (hx.under (TB _ hT0).2.2.2.1) (by simp) (by omega) (by omega)).mono ?_
  rintro e w1 ⟨y1, rfl, hy0, hy1, hy2, hb1⟩
  have hT1 := hT0.trans (hb1.mono (by simp))
  clear hb1 hT0
  obtain ⟨p0, p1, p2, hbw1, hz1⟩ := TB w1 hT1
  by_cases h1 : y1 < 0
  · go_wp2_with fail
    go_ret
    exact ⟨rfl, hbw1⟩
  have hz : szC ⟨⟨pn, pt⟩, os⟩ ≤ 1048576 := by have := hy2 (by omega); omega
  clear hy0 hy1 hy2
  have hLn := ownL_len os s f (by have : szC ⟨⟨pn, pt⟩, os⟩ = szP ⟨pn, pt⟩ + szOs os := rfl; omega)
  have SB := fun W B v h1 h2 => ChartOwnerS_any ⟨⟨pn, pt⟩, os⟩ s f W B v h1 h2 hz
  have IB := fun W B v h1 h2 => ChartOwnerI_any ⟨⟨pn, pt⟩, os⟩ s f W B v h1 h2 hz
  simp only at SB IB
  generalize ownL os s f = L at hLn SB IB
  go_wp2_with fail
  refine (CPx w1 hbw1).mono ?_
  rintro e w2 ⟨ta2, oa2, tc2, oc2, rfl, hb2, hr2⟩
  have z2 := hb2.size
  have hT2 := hT1.trans (hb2.mono (by omega))
  clear p0 p1 p2
  go_wp2_with fail
  refine (SB w2 w2.heap.size _ (hr2.sub fun k hk => hk.2) (Nat.le_refl _)).mono ?_
  rintro e w3 ⟨a0, c0, rfl, hb3, hS0, -⟩
  have z3 := hb3.size
  have hT3 := hT2.trans (hb3.mono (by omega))
  clear hb2 hr2 hb3 hT1 hT2 hbw1 hz1 SB
  obtain ⟨p0, p1, p2, hbw3, hz3⟩ := TB w3 hT3
  go_wp2_with fail
  refine (NPx w3 hbw3).mono ?_
  rintro e w4 ⟨ta4, oa4, tc4, oc4, m4, rfl, hb4, hm3, hm4, hrP, hrO, hoc4, nf4⟩
  have z4 := hb4.size
  have HXT : Hid (WTs w4 w3.heap.size m4 pt ta4) := by
    obtain ⟨ta5, tc5, e5, hK, -⟩ := hrP
    simp only [Value.agg.injEq, Array.mk.injEq, List.cons.injEq, Value.slice.injEq, and_true, true_and] at e5
    obtain ⟨rfl, rfl⟩ := e5
    exact WTs.of_rep hK nf4
  have HXO : Hid (WOs w4 m4 w4.heap.size os oa4) := WOs.of_rep hrO fun a ha => nf4 a (by omega)
  have RX : CRep w4 (fun b => w3.heap.size ≤ b ∧ b < w4.heap.size) ⟨⟨pn, pt⟩, os⟩ (.agg #[.string pn, .slice ta4 pt.length tc4, .slice oa4 os.length oc4]) := ⟨ta4, oa4, tc4, oc4, rfl, hrP.sub fun k hk => by omega, hrO.sub fun k hk => by omega, hoc4⟩
  clear nf4 NPx p0 p1 p2 hrP hrO
  have bY := below_box w4 (.cells #[.string pn, .slice ta4 pt.length tc4, .slice oa4 os.length oc4] 36)
  have zY : (w4.alloc (.cells #[.string pn, .slice ta4 pt.length tc4, .slice oa4 os.length oc4] 36)).heap.size = w4.heap.size + 1 := by simp
  have hT4 := (hT3.trans (hb4.mono (by omega))).trans (bY.mono (by omega))
  have KY := heap_alloc_new w4 (.cells #[.string pn, .slice ta4 pt.length tc4, .slice oa4 os.length oc4] 36)
  have RXY := RX.mono fun k hk => bY.block k hk.2
  have HTY : Hid (WTs (w4.alloc (.cells #[.string pn, .slice ta4 pt.length tc4, .slice oa4 os.length oc4] 36)) w3.heap.size m4 pt ta4) := HXT.out.keep (Marked.of_below 0 0 bY)
  have HOY : Hid (WOs (w4.alloc (.cells #[.string pn, .slice ta4 pt.length tc4, .slice oa4 os.length oc4] 36)) m4 w4.heap.size os oa4) := HXO.out.keep (MarkedN.of_below 0 0 bY)
  have S0 := hS0.mono fun k hk => (bY.block k (by omega)).trans (hb4.block k hk.2)
  clear HXT HXO RX hb4 hS0
  obtain ⟨WY, hWY⟩ : ∃ x, x = (w4.alloc (.cells #[.string pn, .slice ta4 pt.length tc4, .slice oa4 os.length oc4] 36)) := ⟨_, rfl⟩
  rw [← hWY] at zY hT4 KY RXY HTY HOY S0
  have x0 := (boxAt KY 0 (by simp)).1
  have x1 := (boxAt KY 1 (by simp)).1
  have x2 := (boxAt KY 2 (by simp)).1
  simp only [List.getElem_toArray, List.getElem_cons_succ, List.getElem_cons_zero] at x0 x1 x2
  have x0' := x0
  have x1' := x1
  have x2' := x2
  rw [hWY] at x0' x1' x2'
  go_wp2_with fail
  clear x0' x1' x2'
  rw [← hWY]
  refine (IB WY w4.heap.size _ (RXY.sub fun k hk => hk.2) (by omega)).mono ?_
  rintro e w5 ⟨g, cg, rfl, hb5, hSg, hWg⟩
  have z5 := hb5.size
  rw [zY] at z5 hSg hWg
  have hT5 := hT4.trans (hb5.mono (by omega))
  obtain ⟨p0, p1, p2, hbw5, hz5⟩ := TB w5 hT5
  obtain ⟨S1, hS1⟩ : ∃ S : Nat → Prop, ∀ b, S b ↔ (w3.heap.size ≤ b ∧ b < w4.heap.size) := ⟨_, fun b => Iff.rfl⟩
  obtain ⟨S, hS⟩ : ∃ S : Nat → Prop, ∀ b, S b ↔ ((w3.heap.size ≤ b ∧ b < w4.heap.size) ∨ (w4.heap.size + 1 ≤ b ∧ b < w5.heap.size)) := ⟨_, fun b => Iff.rfl⟩
  have FK : ∀ W, KeptS S w5 W → (W.cell? ⟨w.heap.size, 0, none⟩ = some (.string pn) ∧ W.cell? ⟨w.heap.size, 1, none⟩ = some (.slice ta pt.length tc) ∧ W.cell? ⟨w.heap.size, 2, none⟩ = some (.slice oa os.length oc)) ∧
      (W.cell? ⟨w4.heap.size, 0, none⟩ = some (.string pn) ∧ W.cell? ⟨w4.heap.size, 1, none⟩ = some (.slice ta4 pt.length tc4) ∧ W.cell? ⟨w4.heap.size, 2, none⟩ = some (.slice oa4 os.length oc4)) ∧
      Below w.heap.size w W ∧ w5.heap.size ≤ W.heap.size ∧ Ints W (· < w5.heap.size) L a0 := fun W hk => by
    have c : ∀ {a v}, w5.cell? a = some v → ¬ S a.block → W.cell? a = some v := fun h hn => hk.cell h hn
    have d : ∀ {a v}, a.block < WY.heap.size → WY.cell? a = some v → ¬ S a.block → W.cell? a = some v := fun hl h hn => hk.cell ((hb5.cell hl).trans h) hn
    refine ⟨⟨c p0 ?_, c p1 ?_, c p2 ?_⟩, ⟨d ?_ x0 ?_, d ?_ x1 ?_, d ?_ x2 ?_⟩, hbw5.trans (hk.below (by omega) fun b hb => by rw [hS] at hb; omega), hk.m.size, (S0.mono fun k hk' => (hk.block k (by omega) (by rw [hS]; omega)).trans (hb5.block k (by omega))).sub fun k hk' => by omega⟩
    all_goals (try rw [hS]); dsimp only; omega
  have FS : ∀ W, KeptS S1 w5 W → Ints W (· < w5.heap.size) L g ∧ WInts W (w4.heap.size + 1) w5.heap.size L.length g := fun W hk => ⟨(hSg.mono fun k hk' => hk.block k hk'.2 (by rw [hS1]; omega)).sub fun k hk' => hk'.2, hWg.block fun b h1 h2 => hk.block b h2 (by rw [hS1]; omega)⟩
  have FR : ∀ W, Below w5.heap.size w5 W → CRep W (· < w5.heap.size) ⟨⟨pn, pt⟩, os⟩ (.agg #[.string pn, .slice ta4 pt.length tc4, .slice oa4 os.length oc4]) ∧ WTs W w3.heap.size m4 pt ta4 ∧ WOs W m4 w4.heap.size os oa4 := fun W hb =>
    ⟨((RXY.mono fun k hk => (hb.block k (by omega)).trans (hb5.block k (by omega))).sub fun k hk => by omega), (HTY.out.keep (Marked.of_below 0 0 hb5)).keep (Marked.of_below 0 0 hb), (HOY.out.keep (MarkedN.of_below 0 0 hb5)).keep (MarkedN.of_below 0 0 hb)⟩
  have K1 : ∀ {W}, KeptS S1 w5 W → KeptS S w5 W := fun h => ⟨h.m, fun b hb hn => h.block b hb fun e => hn (by rw [hS1] at e; rw [hS]; omega)⟩
  clear x0 x1 x2 p0 p1 p2 KY RXY HTY HOY S0 hSg hWg hb5 hT5 hT4 hbw5 hT3 bY hbw3
  have E1 := eqIntS_any L w5 w5.heap.size g a0 cg c0 (FS w5 (KeptS.refl _ _)).1 (FK w5 (KeptS.refl _ _)).2.2.2.2 (Nat.le_refl _)
  go_wp2_with fail
  refine E1.mono ?_
  rintro e w6 ⟨rfl, hb6⟩
  clear E1
  have z6 := hb6.size
  obtain ⟨⟨p0, p1, p2⟩, ⟨x0, x1, x2⟩, bb6, -⟩ := FK w6 (KeptS.of_below hb6)
  go_wp2_with fail
  go_cut [45] (fun r wx => r = .bool false ∧ Below w5.heap.size w5 wx)
  case first =>
    go_region_held3 (fun w' => w'.cell? ⟨w.heap.size, 0, none⟩ = some (.string pn) ∧ w'.cell? ⟨w.heap.size, 1, none⟩ = some (.slice ta pt.length tc) ∧ w'.cell? ⟨w.heap.size, 2, none⟩ = some (.slice oa os.length oc) ∧ w'.cell? ⟨w4.heap.size, 0, none⟩ = some (.string pn) ∧ w'.cell? ⟨w4.heap.size, 1, none⟩ = some (.slice ta4 pt.length tc4) ∧ w'.cell? ⟨w4.heap.size, 2, none⟩ = some (.slice oa4 os.length oc4)) (go_keep)
      (first
        | (
          go_at_call 6
          refine (CPx w6.drew bb6.drew).mono ?_
          rintro e w7 ⟨ta7, oa7, tc7, oc7, rfl, hb7, hr7⟩
          have hb7' := hb6.trans ((below_undrew hb7).mono z6)
          have z7 := hb7'.size
          have R7 := (FR w7 hb7').1
          obtain ⟨⟨p0', p1', p2'⟩, ⟨x0', x1', x2'⟩, -⟩ := FK w7 (KeptS.of_below hb7'))
        | (
          go_at_call 9
          refine (eqChart_any ⟨⟨pn, pt⟩, os⟩ w7 w7.heap.size _ _ (R7.sub fun k hk => by omega) (hr7.sub fun k hk => hk.2) (Nat.le_refl _)).mono ?_
          rintro e w8 ⟨rfl, hb8⟩
          have hb8' := hb7'.trans (hb8.mono z7)
          obtain ⟨⟨p0'', p1'', p2''⟩, ⟨x0'', x1'', x2''⟩, -⟩ := FK w8 (KeptS.of_below hb8')))
    all_goals
      go_wp2_with fail
      go_meet
      case rel => exact ⟨rfl, hb8'⟩
  case rest =>
  obtain ⟨rfl, hb8⟩ := hcut
  obtain ⟨w8, rfl⟩ : ∃ x, x = wc := ⟨wc, rfl⟩
  clear p0 p1 p2 x0 x1 x2 hb6 z6 bb6
  have k8 : KeptS S1 w5 w8 := KeptS.of_below hb8
  obtain ⟨-, ⟨x0, x1, x2⟩, -, -⟩ := FK w8 (K1 k8)
  obtain ⟨-, hWT, hWO⟩ := FR w8 hb8
  have z8 := hb8.size
  clear hb8
  go_wp2_with fail
  refine (markChart_any ⟨⟨pn, pt⟩, os⟩ tc4 oc4 w3.heap.size m4 w4.heap.size (.string pn) ta4 oa4 w8 hWT hWO ⟨hm3, hm4, by omega⟩ hz).mono ?_
  rintro e w9 ⟨xn, rfl, hm9⟩
  have k9 : KeptS S1 w5 w9 := k8.trans (KeptS.of_marked hm9 fun b h1 h2 => by rw [hS1]; omega)
  clear x0 x1 x2 hWT hWO k8 hm9 FR
  obtain ⟨xk, hxk⟩ : ∃ xk : Int, xk = (xn : Int) := ⟨_, rfl⟩
  rw [← hxk]
  have hx0 : ¬ xk < 0 := by omega
  have hx1 : decide (xk < 0) = false := decide_eq_false hx0
  clear hxk
  have z9 := k9.m.size
  have E2 := eqIntS_any L w9 w5.heap.size g a0 cg c0 (FS w9 k9).1 (FK w9 (K1 k9)).2.2.2.2 z9
  go_wp2_with fail
  refine E2.mono ?_
  rintro e w10 ⟨rfl, hb10⟩
  have k10 : KeptS S1 w5 w10 := k9.trans (KeptS.of_below hb10)
  clear E2 hx0 hx1 k9 hb10
  have hWG := (FS w10 k10).2
  go_wp2_with fail
  refine (markIntS_any L.length cg 1 (w4.heap.size + 1) w5.heap.size g w10 hWG hLn (by omega)).mono ?_
  rintro e w11 ⟨rfl, hm11, hc11⟩
  have HT : Hid (HeldN w11 L.length 1 g) := fun h0 => by
    obtain ⟨b, off, e, -⟩ := hWG h0
    exact ⟨b, off, e, hc11 b off e⟩
  have k11 : KeptS S w5 w11 := (K1 k10).trans (KeptS.of_marked hm11.m fun b h1 h2 => by rw [hS]; omega)
  clear hWG hm11 hc11 k10 FS
  have H1 := heldIntS_any L.length cg 1 g w11 HT.out hLn (by omega)
  obtain ⟨Q, hQ⟩ : ∃ Q : Int, Q = ((1 + L.length : Nat) : Int) := ⟨_, rfl⟩
  have hq0 : ¬ Q < 0 := by omega
  have hq1 : decide (Q < 0) = false := decide_eq_false hq0
  rw [← hQ] at H1 ⊢
  go_wp2_with fail
  refine H1.mono ?_
  rintro e w12 ⟨rfl, hb12⟩
  have k12 : KeptS S w5 w12 := k11.trans (KeptS.of_below hb12)
  have HT12 : Hid (HeldN w12 L.length 1 g) := HT.out.keep hb12
  clear H1 HT hb12 k11
  obtain ⟨⟨p0, p1, p2⟩, -, bb12, z12, -⟩ := FK w12 k12
  go_wp2_with fail
  refine (CPx w12 bb12).mono ?_
  rintro e w13 ⟨ta13, oa13, tc13, oc13, rfl, hb13, hr13⟩
  have k13 : KeptS S w5 w13 := k12.trans (KeptS.of_below hb13)
  have HT13 : Hid (HeldN w13 L.length 1 g) := HT12.out.keep hb13
  clear p0 p1 p2 HT12 k12 hb13
  go_wp2_with fail
  refine (IB w13 w13.heap.size _ (hr13.sub fun k hk => hk.2) (Nat.le_refl _)).mono ?_
  rintro e w14 ⟨a14, c14, rfl, hb14, hS14, -⟩
  have k14 : KeptS S w5 w14 := k13.trans (KeptS.of_below hb14)
  have HT14 : Hid (HeldN w14 L.length 1 g) := HT13.out.keep hb14
  have z14 := k14.m.size
  have E3 := eqIntS_any L w14 w14.heap.size a14 a0 c14 c0 (hS14.sub fun k hk => hk.2) ((FK w14 k14).2.2.2.2.sub fun k hk => by omega) (Nat.le_refl _)
  clear HT13 k13 hb14 hS14 hr13
  go_wp2_with fail
  refine E3.mono ?_
  rintro e w15 ⟨rfl, hb15⟩
  have H2 := heldIntS_any L.length cg 1 g w15 (HT14.out.keep hb15) hLn (by omega)
  rw [← hQ] at H2
  have k15 : KeptS S w5 w15 := k14.trans (KeptS.of_below hb15)
  clear E3 HT14 k14 hb15
  go_wp2_with fail
  refine H2.mono ?_
  rintro e w16 ⟨rfl, hb16⟩
  have bb := (FK w16 (k15.trans (KeptS.of_below hb16))).2.2.1
  go_wp2_with fail
  go_ret
  exact ⟨rfl, bb⟩
end Go.Proofs.Ytkecmamjebkonaa
