/-
  The law of PartBreaks, walked: for every two parts it returns true and writes nothing that was there.
-/
import Derived.Test.YtcpflkbbjlonbaaPBreaks
import Derived.Test.YtcpflkbbjlonbaaMPart3
import Derived.Deep.RegionHeld3
import Derived.Deep.DeepCutAuto
namespace Go.Proofs.Ytcpflkbbjlonbaa
set_option linter.unusedSimpArgs false
set_option linter.unusedVariables false
open Go.RowKit

theorem breaksL_len (p q : Pt) (hz : szP p ≤ 1048576) : (breaksL p q).length ≤ 1048576 := by
  have h1 := brT_len p q p.types.length
  have h3 : szP p = p.name.size + (p.types.length + szTsTo p.types p.types.length) := rfl
  show (if (okP p && okP q) = true then brT p q p.types.length else []).length ≤ 1048576
  split
  · omega
  · simp

/-- What two boxes of the law hold in whatever later world. -/
theorem law_boxes {w W : World} {x0 x1 y0 y1 : Value} (h : Below (w.heap.size + 1 + 1) ((w.alloc (.cells #[x0, x1] 24)).alloc (.cells #[y0, y1] 24)) W) :
    W.cell? ⟨w.heap.size, 0, none⟩ = some x0 ∧ W.cell? ⟨w.heap.size, 1, none⟩ = some x1 ∧ W.cell? ⟨w.heap.size + 1, 0, none⟩ = some y0 ∧ W.cell? ⟨w.heap.size + 1, 1, none⟩ = some y1 ∧ Below w.heap.size w W ∧ w.heap.size + 1 < W.heap.size := by
  have hz := h.size
  simp at hz
  have a : ∀ i (hi : i < 2), W.cell? ⟨w.heap.size, i, none⟩ = some #[x0, x1][i] := fun i hi => (h.cell (p := ⟨w.heap.size, i, none⟩) (by show w.heap.size < _; omega)).trans (((below_box _ _).cell (p := ⟨w.heap.size, i, none⟩) (by show w.heap.size < _; simp)).trans (box_new _ _ i (by simpa using hi)))
  have c : ∀ i (hi : i < 2), W.cell? ⟨w.heap.size + 1, i, none⟩ = some #[y0, y1][i] := fun i hi => (h.cell (p := ⟨w.heap.size + 1, i, none⟩) (by show w.heap.size + 1 < _; omega)).trans (by
    have := box_new (w := w.alloc (.cells #[x0, x1] 24)) #[y0, y1] 24 i (by simpa using hi)
    rw [show (w.alloc (.cells #[x0, x1] 24)).heap.size = w.heap.size + 1 by simp] at this
    exact this)
  exact ⟨a 0 (by omega), a 1 (by omega), c 0 (by omega), c 1 (by omega), (below_box2 w _ _).trans (h.mono (by omega)), by omega⟩

set_option maxRecDepth 20000 in
set_option maxHeartbeats 6400000 in
theorem lawB_walk (p q : Pt) (w : World) (v u : Value) (hR : PRep w (· < w.heap.size) p v) (hQ : PRep w (· < w.heap.size) q u) :
    Calls Try.prog 5 #[v, u] w fun e w' => e = .returned (.bool true) ∧ Below w.heap.size w w' := by
  have hx := hR
  have hy := hQ
  obtain ⟨pn, pt⟩ := p
  obtain ⟨qn, qt⟩ := q
  obtain ⟨ta, tc, rfl, -⟩ := hR
  obtain ⟨ua, uc, rfl, -⟩ := hQ
  simp only at hx hy
  obtain ⟨X, hXe⟩ : ∃ X, X = ((w.alloc (.cells #[.string pn, .slice ta pt.length tc] 24)).alloc (.cells #[.string qn, .slice ua qt.length uc] 24)) := ⟨_, rfl⟩
  have TB : ∀ W, Below (w.heap.size + 1 + 1) X W → W.cell? ⟨w.heap.size, 0, none⟩ = some (.string pn) ∧ W.cell? ⟨w.heap.size, 1, none⟩ = some (.slice ta pt.length tc) ∧ W.cell? ⟨w.heap.size + 1, 0, none⟩ = some (.string qn) ∧ W.cell? ⟨w.heap.size + 1, 1, none⟩ = some (.slice ua qt.length uc) ∧ Below w.heap.size w W ∧ w.heap.size + 1 < W.heap.size := fun W h => law_boxes (by rw [← hXe]; exact h)
  have hT0 : Below (w.heap.size + 1 + 1) X ((w.alloc (.cells #[.string pn, .slice ta pt.length tc] 24)).alloc (.cells #[.string qn, .slice ua qt.length uc] 24)) := by rw [hXe]; exact Below.refl _ _
  clear hXe
  have CPx := fun W (hb : Below w.heap.size w W) => toPart_any ⟨pn, pt⟩ W w.heap.size _ (hx.under hb) hb.size
  have CPy := fun W (hb : Below w.heap.size w W) => toPart_any ⟨qn, qt⟩ W w.heap.size _ (hy.under hb) hb.size
  have NPx := fun W (hb : Below w.heap.size w W) => toPart_nf ⟨pn, pt⟩ W w.heap.size _ (hx.under hb) hb.size
  have NPy := fun W (hb : Below w.heap.size w W) => toPart_nf ⟨qn, qt⟩ W w.heap.size _ (hy.under hb) hb.size
  go_enter Try.func5, Try.ntmps5
  go_wp2_with fail
  refine (szPart_any _ _ w.heap.size _ _ (hx.under (TB _ hT0).2.2.2.2.1) (by simp; omega) (by omega) (by omega)).mono ?_
  rintro e w1 ⟨y1, rfl, hy0, hy1, hy2, hb1⟩
  have hT1 := hT0.trans (hb1.mono (by simp))
  clear hb1 hT0
  obtain ⟨p0, p1, q0, q1, hbw1, hz1⟩ := TB w1 hT1
  by_cases h1 : y1 < 0
  · go_wp2_with fail
    go_ret
    exact ⟨rfl, hbw1⟩
  have hzp : szP ⟨pn, pt⟩ ≤ 1048576 := by have := hy2 (by omega); omega
  go_wp2_with fail
  clear p0 p1 q0 q1
  refine (szPart_any _ _ w.heap.size _ _ (hy.under hbw1) (by omega) (by omega) (by omega)).mono ?_
  rintro e w2 ⟨y2, rfl, hy20, hy21, hy22, hb2⟩
  have hT2 := hT1.trans (hb2.mono (by omega))
  obtain ⟨p0, p1, q0, q1, hbw2, hz2⟩ := TB w2 hT2
  by_cases h2 : y2 < 0
  · go_wp2_with fail
    go_ret
    exact ⟨rfl, hbw2⟩
  have hzq : szP ⟨qn, qt⟩ ≤ 1048576 := by have := hy22 (by omega); omega
  clear hb2 hT1 hbw1 hz1 hy0 hy1 hy2 hy20 hy21 hy22
  have hLn := breaksL_len ⟨pn, pt⟩ ⟨qn, qt⟩ hzp
  have SB := fun W B v u h1 h2 h3 => PartBreaksS_any ⟨pn, pt⟩ ⟨qn, qt⟩ W B v u h1 h2 h3 hzp hzq
  have IB := fun W B v u h1 h2 h3 => PartBreaksI_any ⟨pn, pt⟩ ⟨qn, qt⟩ W B v u h1 h2 h3 hzp hzq
  generalize breaksL ⟨pn, pt⟩ ⟨qn, qt⟩ = L at hLn SB IB
  go_wp2_with fail
  go_cut [6] (fun r wx => ∃ (a : Option Addr) (c : Nat), r = .slice a L.length c ∧ Below (w.heap.size + 1 + 1) X wx ∧ Strs wx (fun b => w.heap.size + 1 < b ∧ b < wx.heap.size) L a)
  case first =>
    go_region_held3 (fun w' => w'.cell? ⟨w.heap.size, 0, none⟩ = some (.string pn) ∧ w'.cell? ⟨w.heap.size, 1, none⟩ = some (.slice ta pt.length tc) ∧ w'.cell? ⟨w.heap.size + 1, 0, none⟩ = some (.string qn) ∧ w'.cell? ⟨w.heap.size + 1, 1, none⟩ = some (.slice ua qt.length uc)) (go_keep)
      (first
        | (
          go_at_call_of 8 (Value.slice ta pt.length tc)
          refine (CPx w2.drew hbw2.drew).mono ?_
          rintro e w3 ⟨ta3, tc3, rfl, hb3, hr3⟩
          have hT3 := hT2.trans ((below_undrew hb3).mono (by omega))
          obtain ⟨a0, a1, b0, b1, hbw3, hz3⟩ := TB w3 hT3)
        | (
          go_at_call_of 8 (Value.slice ua qt.length uc)
          refine (CPy w3 hbw3).mono ?_
          rintro e w4 ⟨ta4, tc4, rfl, hb4, hr4⟩
          have hT4 := hT3.trans (hb4.mono (by omega))
          have hz43 := hb4.size
          obtain ⟨a0', a1', b0', b1', hbw4, hz4⟩ := TB w4 hT4)
        | (
          go_at_call 17
          refine (SB w4 w4.heap.size _ _ ((hr3.mono fun b hb => hb4.block b hb.2).sub fun b hb => by omega) (hr4.sub fun b hb => hb.2) (Nat.le_refl _)).mono ?_
          rintro e w5 ⟨a5, c5, rfl, hc5, hb5, hS5, -⟩
          have hT5 := hT4.trans (hb5.mono (by omega))
          obtain ⟨a0'', a1'', b0'', b1'', hbw5, hz5⟩ := TB w5 hT5))
    all_goals
      go_wp2_with fail
      go_meet
      case rel => exact ⟨a5, c5, rfl, hT5, hS5.sub fun b hb => by omega⟩
  case rest =>
  obtain ⟨a0, c0, rfl, hT5, hS0⟩ := hcut
  obtain ⟨w5, rfl⟩ : ∃ x, x = wc := ⟨wc, rfl⟩
  clear p0 p1 q0 q1 hT2 hbw2 hz2 SB
  obtain ⟨p0, p1, q0, q1, hbw5, hz5⟩ := TB w5 hT5
  go_wp2_with fail
  refine (NPx w5 hbw5).mono ?_
  rintro e w6 ⟨ta6, tc6, rfl, hb6, hr6, nf6⟩
  have HX6 : Hid (WTs w6 w5.heap.size w6.heap.size pt ta6) := by
    obtain ⟨ta7, tc7, e7, hK, -⟩ := hr6
    simp only [Value.agg.injEq, Array.mk.injEq, List.cons.injEq, Value.slice.injEq, and_true, true_and] at e7
    obtain ⟨rfl, rfl⟩ := e7
    exact WTs.of_rep hK nf6
  have z65 := hb6.size
  have hT6 := (hT5.trans (hb6.mono (by omega))).trans ((below_box w6 (.cells #[.string pn, .slice ta6 pt.length tc6] 29)).mono (by omega))
  clear p0 p1 q0 q1
  obtain ⟨p0, p1, q0, q1, hbw6, hz6⟩ := TB _ hT6
  go_wp2_with fail
  refine (NPy _ hbw6).mono ?_
  rintro e w7 ⟨ta7, tc7, rfl, hb7, hr7, nf7⟩
  have zA : (w6.alloc (.cells #[.string pn, .slice ta6 pt.length tc6] 29)).heap.size = w6.heap.size + 1 := by simp
  have z76 := hb7.size
  rw [zA] at z76 hr7 nf7
  have HX7 : Hid (WTs w7 (w6.heap.size + 1) w7.heap.size qt ta7) := by
    obtain ⟨ta8, tc8, e8, hK, -⟩ := hr7
    simp only [Value.agg.injEq, Array.mk.injEq, List.cons.injEq, Value.slice.injEq, and_true, true_and] at e8
    obtain ⟨rfl, rfl⟩ := e8
    exact WTs.of_rep hK nf7
  clear nf6 nf7 NPx NPy p0 p1 q0 q1
  have bX := below_box w6 (.cells #[.string pn, .slice ta6 pt.length tc6] 29)
  have bY := below_box w7 (.cells #[.string qn, .slice ta7 qt.length tc7] 29)
  have zY : (w7.alloc (.cells #[.string qn, .slice ta7 qt.length tc7] 29)).heap.size = w7.heap.size + 1 := by simp
  have hT7 := (hT6.trans (hb7.mono (by omega))).trans (bY.mono (by omega))
  have KX := (bY.block _ (by omega)).trans ((hb7.block _ (by omega)).trans (heap_alloc_new w6 (.cells #[.string pn, .slice ta6 pt.length tc6] 29)))
  have KY := heap_alloc_new w7 (.cells #[.string qn, .slice ta7 qt.length tc7] 29)
  have RX := hr6.mono fun k hk => (bY.block k (by omega)).trans ((hb7.block k (by omega)).trans (bX.block k hk.2))
  have RY := hr7.mono fun k hk => bY.block k hk.2
  have HXY : Hid (WTs (w7.alloc (.cells #[.string qn, .slice ta7 qt.length tc7] 29)) w5.heap.size w6.heap.size pt ta6) := ((HX6.out.keep (Marked.of_below 0 0 bX)).keep (Marked.of_below 0 0 hb7)).keep (Marked.of_below 0 0 bY)
  have HYY : Hid (WTs (w7.alloc (.cells #[.string qn, .slice ta7 qt.length tc7] 29)) (w6.heap.size + 1) w7.heap.size qt ta7) := HX7.out.keep (Marked.of_below 0 0 bY)
  have S0 := hS0.mono fun k hk => (bY.block k (by omega)).trans ((hb7.block k (by omega)).trans ((bX.block k (by omega)).trans (hb6.block k hk.2)))
  clear HX6 HX7 hr6 hr7 hb7 hb6 bX hS0 hT6 hbw6 hz6
  obtain ⟨WY, hWY⟩ : ∃ x, x = (w7.alloc (.cells #[.string qn, .slice ta7 qt.length tc7] 29)) := ⟨_, rfl⟩
  rw [← hWY] at zY hT7 KX KY RX RY HXY HYY S0
  have x0 := (box_at KX 0 (by simp)).1
  have x1 := (box_at KX 1 (by simp)).1
  have y0 := (box_at KY 0 (by simp)).1
  have y1 := (box_at KY 1 (by simp)).1
  simp only [List.getElem_toArray, List.getElem_cons_succ, List.getElem_cons_zero] at x0 x1 y0 y1
  have x0' := x0
  have x1' := x1
  have y0' := y0
  have y1' := y1
  rw [hWY] at x0' x1' y0' y1'
  go_wp2_with fail
  clear x0' x1' y0' y1'
  rw [← hWY]
  refine (IB WY w7.heap.size _ _ (RX.sub fun k hk => by omega) (RY.sub fun k hk => hk.2) (by omega)).mono ?_
  rintro e w8 ⟨g, cg, rfl, hcg, hb8, hSg, hWg⟩
  have z8 := hb8.size
  rw [zY] at z8 hSg hWg
  have hT8 := hT7.trans (hb8.mono (by omega))
  obtain ⟨p0, p1, q0, q1, hbw8, hz8⟩ := TB w8 hT8
  obtain ⟨S1, hS1⟩ : ∃ S : Nat → Prop, ∀ b, S b ↔ ((w5.heap.size ≤ b ∧ b < w6.heap.size) ∨ (w6.heap.size + 1 ≤ b ∧ b < w7.heap.size)) := ⟨_, fun b => Iff.rfl⟩
  obtain ⟨S, hS⟩ : ∃ S : Nat → Prop, ∀ b, S b ↔ ((w5.heap.size ≤ b ∧ b < w6.heap.size) ∨ (w6.heap.size + 1 ≤ b ∧ b < w7.heap.size) ∨ (w7.heap.size + 1 ≤ b ∧ b < w8.heap.size)) := ⟨_, fun b => Iff.rfl⟩
  have FK : ∀ W, KeptS S w8 W → (W.cell? ⟨w.heap.size, 0, none⟩ = some (.string pn) ∧ W.cell? ⟨w.heap.size, 1, none⟩ = some (.slice ta pt.length tc) ∧ W.cell? ⟨w.heap.size + 1, 0, none⟩ = some (.string qn) ∧ W.cell? ⟨w.heap.size + 1, 1, none⟩ = some (.slice ua qt.length uc)) ∧
      (W.cell? ⟨w6.heap.size, 0, none⟩ = some (.string pn) ∧ W.cell? ⟨w6.heap.size, 1, none⟩ = some (.slice ta6 pt.length tc6) ∧ W.cell? ⟨w7.heap.size, 0, none⟩ = some (.string qn) ∧ W.cell? ⟨w7.heap.size, 1, none⟩ = some (.slice ta7 qt.length tc7)) ∧
      Below w.heap.size w W ∧ w8.heap.size ≤ W.heap.size ∧ Strs W (fun b => w.heap.size + 1 < b ∧ b < w5.heap.size) L a0 ∧ WTs W w5.heap.size w6.heap.size pt ta6 ∧ WTs W (w6.heap.size + 1) w7.heap.size qt ta7 ∧ WStrs W (w7.heap.size + 1) w8.heap.size L.length g := fun W hk => by
    have c : ∀ {a v}, w8.cell? a = some v → ¬ S a.block → W.cell? a = some v := fun h hn => hk.cell h hn
    have d : ∀ {a v}, a.block < WY.heap.size → WY.cell? a = some v → ¬ S a.block → W.cell? a = some v := fun hl h hn => hk.cell ((hb8.cell hl).trans h) hn
    refine ⟨⟨c p0 ?_, c p1 ?_, c q0 ?_, c q1 ?_⟩, ⟨d ?_ x0 ?_, d ?_ x1 ?_, d ?_ y0 ?_, d ?_ y1 ?_⟩, hbw8.trans (hk.below (by omega) fun b hb => by rw [hS] at hb; omega), hk.m.size, S0.mono fun k hk' => (hk.block k (by omega) (by rw [hS]; omega)).trans (hb8.block k (by omega)), (HXY.out.keep (Marked.of_below 0 0 hb8)).keep hk.m, (HYY.out.keep (Marked.of_below 0 0 hb8)).keep hk.m, hWg.keep hk.m⟩
    all_goals (try rw [hS]); dsimp only; omega
  have FS : ∀ W, KeptS S1 w8 W → Strs W (fun b => w7.heap.size + 1 ≤ b ∧ b < w8.heap.size) L g := fun W hk => hSg.mono fun k hk' => hk.block k hk'.2 (by rw [hS1]; omega)
  have FR : ∀ W, Below w8.heap.size w8 W → PRep W (· < w8.heap.size) ⟨pn, pt⟩ (.agg #[.string pn, .slice ta6 pt.length tc6]) ∧ PRep W (· < w8.heap.size) ⟨qn, qt⟩ (.agg #[.string qn, .slice ta7 qt.length tc7]) := fun W hb =>
    ⟨((RX.mono fun k hk => (hb.block k (by omega)).trans (hb8.block k (by omega))).sub fun k hk => by omega), ((RY.mono fun k hk => (hb.block k (by omega)).trans (hb8.block k (by omega))).sub fun k hk => by omega)⟩
  have K1 : ∀ {W}, KeptS S1 w8 W → KeptS S w8 W := fun h => ⟨h.m, fun b hb hn => h.block b hb fun e => hn (by rw [hS1] at e; rw [hS]; omega)⟩
  clear x0 x1 y0 y1 p0 p1 q0 q1 KX KY RX RY HXY HYY S0 hSg hWg hb8 hT8 hT7 hbw8 hT5 bY hbw5
  have E1 := eqStringS_b L g a0 cg c0 w8 _ _ (FS w8 (KeptS.refl _ _)) (FK w8 (KeptS.refl _ _)).2.2.2.2.1
  go_wp2_with fail
  refine E1.mono ?_
  rintro e w9 ⟨rfl, hb9⟩
  clear E1
  have z9 := hb9.size
  obtain ⟨⟨p0, p1, q0, q1⟩, ⟨x0, x1, y0, y1⟩, bb9, -⟩ := FK w9 (KeptS.of_below hb9)
  go_wp2_with fail
  go_cut [44] (fun r wx => r = .bool false ∧ Below w8.heap.size w8 wx)
  case first =>
    go_region_held3 (fun w' => w'.cell? ⟨w.heap.size, 0, none⟩ = some (.string pn) ∧ w'.cell? ⟨w.heap.size, 1, none⟩ = some (.slice ta pt.length tc) ∧ w'.cell? ⟨w6.heap.size, 0, none⟩ = some (.string pn) ∧ w'.cell? ⟨w6.heap.size, 1, none⟩ = some (.slice ta6 pt.length tc6)) (go_keep)
      (first
        | (
          go_at_call 8
          refine (CPx w9.drew bb9.drew).mono ?_
          rintro e w10 ⟨ta10, tc10, rfl, hb10, hr10⟩
          have hb10' := hb9.trans ((below_undrew hb10).mono z9)
          have z10 := hb10'.size
          have R10 := (FR w10 hb10').1
          obtain ⟨⟨p0', p1', -, -⟩, ⟨x0', x1', -, -⟩, -⟩ := FK w10 (KeptS.of_below hb10'))
        | (
          go_at_call 10
          refine (eqPart_any ⟨pn, pt⟩ w10 w10.heap.size _ _ (R10.sub fun k hk => by omega) (hr10.sub fun k hk => hk.2) (Nat.le_refl _)).mono ?_
          rintro e w11 ⟨rfl, hb11⟩
          have hb11' := hb10'.trans (hb11.mono z10)
          obtain ⟨⟨p0'', p1'', -, -⟩, ⟨x0'', x1'', -, -⟩, -⟩ := FK w11 (KeptS.of_below hb11')))
    all_goals
      go_wp2_with fail
      go_meet
      case rel => exact ⟨rfl, hb11'⟩
  case rest =>
  obtain ⟨rfl, hb11⟩ := hcut
  obtain ⟨w11, rfl⟩ : ∃ x, x = wc := ⟨wc, rfl⟩
  clear p0 p1 q0 q1 x0 x1 y0 y1 hb9 z9 bb9
  have z11 := hb11.size
  obtain ⟨⟨p0, p1, q0, q1⟩, ⟨x0, x1, y0, y1⟩, bb11, -⟩ := FK w11 (KeptS.of_below hb11)
  go_wp2_with fail
  go_cut [49] (fun r wx => r = .bool false ∧ Below w8.heap.size w8 wx)
  case first =>
    go_region_held3 (fun w' => w'.cell? ⟨w.heap.size + 1, 0, none⟩ = some (.string qn) ∧ w'.cell? ⟨w.heap.size + 1, 1, none⟩ = some (.slice ua qt.length uc) ∧ w'.cell? ⟨w7.heap.size, 0, none⟩ = some (.string qn) ∧ w'.cell? ⟨w7.heap.size, 1, none⟩ = some (.slice ta7 qt.length tc7)) (go_keep)
      (first
        | (
          go_at_call 8
          refine (CPy w11.drew bb11.drew).mono ?_
          rintro e w12 ⟨ta12, tc12, rfl, hb12, hr12⟩
          have hb12' := hb11.trans ((below_undrew hb12).mono z11)
          have z12 := hb12'.size
          have R12 := (FR w12 hb12').2
          obtain ⟨⟨-, -, p0', p1'⟩, ⟨-, -, x0', x1'⟩, -⟩ := FK w12 (KeptS.of_below hb12'))
        | (
          go_at_call 10
          refine (eqPart_any ⟨qn, qt⟩ w12 w12.heap.size _ _ (R12.sub fun k hk => by omega) (hr12.sub fun k hk => hk.2) (Nat.le_refl _)).mono ?_
          rintro e w13 ⟨rfl, hb13⟩
          have hb13' := hb12'.trans (hb13.mono z12)
          obtain ⟨⟨-, -, p0'', p1''⟩, ⟨-, -, x0'', x1''⟩, -⟩ := FK w13 (KeptS.of_below hb13')))
    all_goals
      go_wp2_with fail
      go_meet
      case rel => exact ⟨rfl, hb13'⟩
  case rest =>
  obtain ⟨rfl, hb13⟩ := hcut
  obtain ⟨w13, rfl⟩ : ∃ x, x = wc := ⟨wc, rfl⟩
  clear p0 p1 q0 q1 x0 x1 y0 y1 hb11 z11 bb11
  have k13 : KeptS S1 w8 w13 := KeptS.of_below hb13
  obtain ⟨-, ⟨x0, x1, y0, y1⟩, -, -, -, hWX, -⟩ := FK w13 (K1 k13)
  clear hb13
  go_wp2_with fail
  refine (markPart_from ⟨pn, pt⟩ (.string pn) tc6 1 w5.heap.size w6.heap.size ta6 w13 hWX hzp (by omega)).mono ?_
  have hmp := mP_small ⟨pn, pt⟩ hzp
  generalize mP ⟨pn, pt⟩ = mp at hmp
  rintro e w14 ⟨rfl, hm14⟩
  have k14 : KeptS S1 w8 w14 := k13.trans (KeptS.of_marked hm14 fun b h1 h2 => by rw [hS1]; omega)
  clear x0 x1 y0 y1 hWX k13 hm14
  obtain ⟨-, ⟨x0, x1, y0, y1⟩, -, -, -, -, hWY2, -⟩ := FK w14 (K1 k14)
  go_wp2_with fail
  refine (markPart_from ⟨qn, qt⟩ (.string qn) tc7 (1 + mp) (w6.heap.size + 1) w7.heap.size ta7 w14 hWY2 hzq (by omega)).mono ?_
  have hmq := mP_small ⟨qn, qt⟩ hzq
  generalize mP ⟨qn, qt⟩ = mq at hmq
  rintro e w15 ⟨rfl, hm15⟩
  have k15 : KeptS S1 w8 w15 := k14.trans (KeptS.of_marked hm15 fun b h1 h2 => by rw [hS1]; omega)
  clear x0 x1 y0 y1 hWY2 k14 hm15
  obtain ⟨xk, hxk⟩ : ∃ xk : Int, xk = ((1 + mp + mq : Nat) : Int) := ⟨_, rfl⟩
  rw [← hxk]
  have hx0 : ¬ xk < 0 := by omega
  have hx1 : decide (xk < 0) = false := decide_eq_false hx0
  clear hxk hmp hmq
  have E2 := eqStringS_b L g a0 cg c0 w15 _ _ (FS w15 k15) (FK w15 (K1 k15)).2.2.2.2.1
  go_wp2_with fail
  refine E2.mono ?_
  rintro e w16 ⟨rfl, hb16⟩
  have k16 : KeptS S w8 w16 := (K1 k15).trans (KeptS.of_below hb16)
  clear E2 hx0 hx1 k15 hb16
  have hWG := (FK w16 k16).2.2.2.2.2.2.2
  go_wp2_with fail
  refine (markStringS_any L.length cg 1 (w7.heap.size + 1) w8.heap.size g w16 hWG hLn (by omega)).mono ?_
  rintro e w17 ⟨rfl, hm17, hc17⟩
  have HT : Hid (HeldT w17 L.length 1 g) := fun h0 => by
    obtain ⟨b, off, e, -⟩ := hWG h0
    exact ⟨b, off, e, hc17 b off e⟩
  have k17 : KeptS S w8 w17 := k16.trans (KeptS.of_marked hm17 fun b h1 h2 => by rw [hS]; omega)
  clear hWG hm17 hc17 k16
  have H1 := heldStringS_any L.length cg 1 g w17 HT.out hLn (by omega)
  obtain ⟨Q, hQ⟩ : ∃ Q : Int, Q = ((1 + L.length : Nat) : Int) := ⟨_, rfl⟩
  have hq0 : ¬ Q < 0 := by omega
  have hq1 : decide (Q < 0) = false := decide_eq_false hq0
  rw [← hQ] at H1 ⊢
  go_wp2_with fail
  refine H1.mono ?_
  rintro e w18 ⟨rfl, hb18⟩
  have k18 : KeptS S w8 w18 := k17.trans (KeptS.of_below hb18)
  have HT18 : Hid (HeldT w18 L.length 1 g) := HT.out.keep hb18
  clear H1 HT hb18 k17
  obtain ⟨⟨p0, p1, q0, q1⟩, -, bb18, z18, S18, -⟩ := FK w18 k18
  go_wp2_with fail
  go_cut [13] (fun r wx => ∃ (a : Option Addr) (c : Nat), r = .slice a L.length c ∧ Below w18.heap.size w18 wx ∧ Strs wx (fun b => b < wx.heap.size) L a)
  case first =>
    go_region_held3 (fun w' => w'.cell? ⟨w.heap.size, 0, none⟩ = some (.string pn) ∧ w'.cell? ⟨w.heap.size, 1, none⟩ = some (.slice ta pt.length tc) ∧ w'.cell? ⟨w.heap.size + 1, 0, none⟩ = some (.string qn) ∧ w'.cell? ⟨w.heap.size + 1, 1, none⟩ = some (.slice ua qt.length uc)) (go_keep)
      (first
        | (
          go_at_call_of 8 (Value.slice ta pt.length tc)
          refine (CPx w18.drew bb18.drew).mono ?_
          rintro e w19 ⟨ta19, tc19, rfl, hb19, hr19⟩
          have hb19' := below_undrew hb19
          have z19 := hb19'.size
          obtain ⟨⟨p0', p1', q0', q1'⟩, -, bb19, -⟩ := FK w19 (k18.trans (KeptS.of_below hb19')))
        | (
          go_at_call_of 8 (Value.slice ua qt.length uc)
          refine (CPy w19 bb19).mono ?_
          rintro e w20 ⟨ta20, tc20, rfl, hb20, hr20⟩
          have z20 := hb20.size
          have hb20' := hb19'.trans (hb20.mono (by omega))
          obtain ⟨⟨p0'', p1'', q0'', q1''⟩, -, bb20, -⟩ := FK w20 (k18.trans (KeptS.of_below hb20')))
        | (
          go_at_call 18
          refine (IB w20 w20.heap.size _ _ ((hr19.mono fun b hb => hb20.block b hb.2).sub fun b hb => by omega) (hr20.sub fun b hb => hb.2) (Nat.le_refl _)).mono ?_
          rintro e w21 ⟨a21, c21, rfl, hc21, hb21, hS21, -⟩
          have hb21' := hb20'.trans (hb21.mono (by omega))
          obtain ⟨⟨p03, p13, q03, q13⟩, -, bb21, -⟩ := FK w21 (k18.trans (KeptS.of_below hb21'))))
    all_goals
      go_wp2_with fail
      go_meet
      case rel => exact ⟨a21, c21, rfl, hb21', hS21.sub fun b hb => by omega⟩
  case rest =>
  obtain ⟨a21, c21, rfl, hb21, hS21⟩ := hcut
  obtain ⟨w21, rfl⟩ : ∃ x, x = wc := ⟨wc, rfl⟩
  clear p0 p1 q0 q1 S18
  have k21 : KeptS S w8 w21 := k18.trans (KeptS.of_below hb21)
  have HT21 : Hid (HeldT w21 L.length 1 g) := HT18.out.keep hb21
  have E3 := eqStringS_b L a21 a0 c21 c0 w21 _ _ hS21 (FK w21 k21).2.2.2.2.1
  clear HT18 k18 hb21 bb18 hS21
  go_wp2_with fail
  refine E3.mono ?_
  rintro e w22 ⟨rfl, hb22⟩
  have H2 := heldStringS_any L.length cg 1 g w22 (HT21.out.keep hb22) hLn (by omega)
  rw [← hQ] at H2
  have k22 : KeptS S w8 w22 := k21.trans (KeptS.of_below hb22)
  clear E3 HT21 k21 hb22
  go_wp2_with fail
  refine H2.mono ?_
  rintro e w23 ⟨rfl, hb23⟩
  have bb := (FK w23 (k22.trans (KeptS.of_below hb23))).2.2.1
  go_wp2_with fail
  go_ret
  exact ⟨rfl, bb⟩
end Go.Proofs.Ytcpflkbbjlonbaa
