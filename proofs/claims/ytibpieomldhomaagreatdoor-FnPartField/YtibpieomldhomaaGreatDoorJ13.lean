import Derived.Test.YtibpieomldhomaaGreatDoorJ11
import Derived.Test.YtibpieomldhomaaGreatDoorJ12
import Derived.Test.YtibpieomldhomaaGreatDoorIPCheck
import Derived.Deep.RegionHeld3
import Derived.Deep.DeepCutAuto
namespace Go.Proofs.YtibpieomldhomaaGreatDoor
set_option linter.unusedSimpArgs false
set_option linter.unusedVariables false
open Go.RowKit Go.Maps
attribute [local go_sem] Oper.semAt_some

set_option maxRecDepth 20000 in
set_option maxHeartbeats 1600000 in
theorem field_great (w : World) (v : Value) (a : Option Addr) (n c : Nat) (hv : v = .slice a n c) (h : 1048576 < n) :
    Calls Tryz.prog 3 #[v] w fun e w' => e = .returned (.bool true) ∧ Below w.heap.size w w' := by
  subst hv
  have h1' : (1048576 : Int) < (n : Int) := by omega
  go_enter Tryz.func3, Tryz.ntmps3
  go_wp2_with fail
  go_ret
  exact ⟨rfl, Below.refl _ _⟩

set_option maxRecDepth 20000 in
set_option maxHeartbeats 1600000 in
theorem field_small (w : World) (cb n : Nat) (v : Value) (hg : Handle w) (h : CodeOk w cb v n) (hn : n ≤ 1048576) :
    Calls Tryz.prog 3 #[v] w fun e w' => e = .returned (.bool true) ∧ Below w.heap.size w w' := by
  have hpos := hg.pos
  have HDR := hid_of (DrawPartField_any w cb n v h hn)
  obtain ⟨a, cc, off, rfl, -⟩ := h
  have h1' : ¬ (1048576 : Int) < (n : Int) := by omega
  go_enter Tryz.func3, Tryz.ntmps3
  go_upto_region 4 with (
    go_at_call 4
    refine HDR.out.mono ?_
    rintro e w1 ⟨p, ta, tc, s, f, rfl, hP, hz, hs, hf, hb1⟩)
  clear HDR h1'
  have hz1 : szP p ≤ 1048576 := by omega
  have HOK := hid_of (partFault_ok p)
  have HFN := hid_of (fun h => found_ok (s := s) (f := f) (p := p) h)
  have HNM := hid_of (fun h => found_name (s := s) (f := f) (p := p) h)
  have HF0 : Hid (okP p = false → fieldOkB p s f = false) := hid_of fun h => by unfold fieldOkB; rw [h]; rfl
  obtain ⟨l, HL⟩ : ∃ l, Hid (l = p.types.length) := ⟨_, rfl⟩
  have nP := block_new (w := w1) (N := w1.heap.size) #[.string p.name, .slice ta l tc] 25 rfl
  have b2 := below_box w1 (.cells #[.string p.name, .slice ta l tc] 25)
  have hP1 : w1.heap.size < (w1.alloc (.cells #[.string p.name, .slice ta l tc] 25)).heap.size := by simp
  rw [← HL.out] at hP ⊢
  generalize w1.alloc (.cells #[.string p.name, .slice ta l tc] 25) = w2 at *
  have HB1 : Hid (Below w.heap.size w w2) := hid_of (hb1.trans (b2.mono hb1.size))
  have hg2 : Handle w2 := (hg.below hb1 hpos).below b2 (by have := hb1.size; omega)
  have hpos2 := hg2.pos
  have HP2 := hid_of hP
  obtain ⟨P, hPe⟩ : ∃ x, x = w1.heap.size := ⟨_, rfl⟩
  have HX : Hid (∀ W, Below w2.heap.size w2 W → Handle W ∧ PRep W (· < w1.heap.size) p (.agg #[.string p.name, .slice ta l tc]) ∧ W.cell? ⟨w1.heap.size, 0, none⟩ = some (.string p.name) ∧ W.cell? ⟨w1.heap.size, 1, none⟩ = some (.slice ta l tc) ∧ w1.heap.size < W.heap.size) := hid_of fun W hW => by
    have h0 := (hW.block _ hP1).trans nP
    exact ⟨hg2.below hW hpos2, (hP.under b2).under (hW.mono (by omega)), (box_at h0 0 (by simp)).1, (box_at h0 1 (by simp)).1, by have := hW.size; omega⟩
  obtain ⟨F0, HA⟩ : ∃ F0, Hid (F0 = fieldAns p s f) := ⟨_, rfl⟩
  obtain ⟨OK, HO⟩ : ∃ b, Hid (b = fieldOkB p s f) := ⟨_, rfl⟩
  have hnn := fieldAns_needs p s f hz1
  have HPI := hid_of (fun W (hW : Below w2.heap.size w2 W) => PartFieldI_any p s f W w1.heap.size _ (HX.out W hW).2.1 (Nat.le_of_lt (HX.out W hW).2.2.2.2) hz1)
  have HPS := hid_of (fun W (hW : Below w2.heap.size w2 W) => PartFieldS_any p s f W w1.heap.size _ (HX.out W hW).2.1 (Nat.le_of_lt (HX.out W hW).2.2.2.2) hz1)
  rw [← HA.out, ← HO.out] at HPI HPS
  rw [← HO.out] at HFN HF0 HNM
  rw [← HA.out] at HNM hnn
  obtain ⟨-, -, c0, c1, -⟩ := HX.out w2 (Below.refl _ _)
  go_upto_region 5 with (
    go_at_call 5
    refine (HPI.out w2 (Below.refl _ _)).mono ?_
    rintro e w3 ⟨nm, of, y0, y1, y2, y3, y4, na, nc, rfl, b3, hF3, -⟩)
  obtain ⟨N, HN⟩ : ∃ n, Hid (n = F0.needs.length) := ⟨_, rfl⟩
  rw [← HN.out] at hF3 ⊢
  have HF3 := hid_of hF3
  obtain ⟨na', nc', he, -⟩ := hF3
  simp only [Value.agg.injEq, Array.mk.injEq, List.cons.injEq, Value.string.injEq, Value.bool.injEq, Value.slice.injEq, and_true] at he
  obtain ⟨rfl, rfl, rfl, rfl, rfl, rfl, rfl, -⟩ := he
  have n3 := block_new (w := w3) (N := w3.heap.size) #[.string F0.name, .string F0.of, .bool F0.list, .bool F0.must, .bool F0.far, .bool F0.hidden, .bool F0.shared, .slice na N nc] 30 rfl
  have b4 := below_box w3 (.cells #[.string F0.name, .string F0.of, .bool F0.list, .bool F0.must, .bool F0.far, .bool F0.hidden, .bool F0.shared, .slice na N nc] 30)
  have hs3 : w3.heap.size < (w3.alloc (.cells #[.string F0.name, .string F0.of, .bool F0.list, .bool F0.must, .bool F0.far, .bool F0.hidden, .bool F0.shared, .slice na N nc] 30)).heap.size := by simp
  generalize w3.alloc (.cells #[.string F0.name, .string F0.of, .bool F0.list, .bool F0.must, .bool F0.far, .bool F0.hidden, .bool F0.shared, .slice na N nc] 30) = w4 at *
  have b24 : Below w2.heap.size w2 w4 := b3.trans (b4.mono b3.size)
  obtain ⟨-, -, d0, d1, -⟩ := HX.out w4 b24
  go_upto_region 6 with (
    go_at_call 6
    refine (HPS.out w4 b24).mono ?_
    rintro e w5 ⟨nm, of, y0, y1, y2, y3, y4, ma, mc, rfl, b5, hF5⟩)
  rw [← HN.out] at hF5 ⊢
  have HF5 := hid_of hF5
  obtain ⟨na', nc', he, -⟩ := hF5
  simp only [Value.agg.injEq, Array.mk.injEq, List.cons.injEq, Value.string.injEq, Value.bool.injEq, Value.slice.injEq, and_true] at he
  obtain ⟨rfl, rfl, rfl, rfl, rfl, rfl, rfl, -⟩ := he
  have n5 := block_new (w := w5) (N := w5.heap.size) #[.string F0.name, .string F0.of, .bool F0.list, .bool F0.must, .bool F0.far, .bool F0.hidden, .bool F0.shared, .slice ma N mc] 30 rfl
  have b6 := below_box w5 (.cells #[.string F0.name, .string F0.of, .bool F0.list, .bool F0.must, .bool F0.far, .bool F0.hidden, .bool F0.shared, .slice ma N mc] 30)
  have hs5 : w5.heap.size < (w5.alloc (.cells #[.string F0.name, .string F0.of, .bool F0.list, .bool F0.must, .bool F0.far, .bool F0.hidden, .bool F0.shared, .slice ma N mc] 30)).heap.size := by simp
  generalize w5.alloc (.cells #[.string F0.name, .string F0.of, .bool F0.list, .bool F0.must, .bool F0.far, .bool F0.hidden, .bool F0.shared, .slice ma N mc] 30) = w6 at *
  have hz3 := b3.size
  have hz4 := b4.size
  have hz5 := b5.size
  have hz6 := b6.size
  have b45 := b5.trans (b6.mono b5.size)
  have b26 : Below w2.heap.size w2 w6 := b24.trans (b45.mono b24.size)
  have n36 := (b45.block w3.heap.size hs3).trans n3
  have HSD : Hid (∀ W, Below w6.heap.size w6 W → W.cell? ⟨w1.heap.size, 0, none⟩ = some (.string p.name) ∧ W.cell? ⟨w1.heap.size, 1, none⟩ = some (.slice ta l tc) ∧ W.cell? ⟨w3.heap.size, 0, none⟩ = some (.string F0.name) ∧ W.cell? ⟨w3.heap.size, 1, none⟩ = some (.string F0.of) ∧ W.cell? ⟨w3.heap.size, 2, none⟩ = some (.bool F0.list) ∧ W.cell? ⟨w3.heap.size, 3, none⟩ = some (.bool F0.must) ∧ W.cell? ⟨w3.heap.size, 4, none⟩ = some (.bool F0.far) ∧ W.cell? ⟨w3.heap.size, 5, none⟩ = some (.bool F0.hidden) ∧ W.cell? ⟨w3.heap.size, 6, none⟩ = some (.bool F0.shared) ∧ W.cell? ⟨w3.heap.size, 7, none⟩ = some (.slice na N nc) ∧ W.cell? ⟨w5.heap.size, 0, none⟩ = some (.string F0.name) ∧ W.cell? ⟨w5.heap.size, 1, none⟩ = some (.string F0.of) ∧ W.cell? ⟨w5.heap.size, 2, none⟩ = some (.bool F0.list) ∧ W.cell? ⟨w5.heap.size, 3, none⟩ = some (.bool F0.must) ∧ W.cell? ⟨w5.heap.size, 4, none⟩ = some (.bool F0.far) ∧ W.cell? ⟨w5.heap.size, 5, none⟩ = some (.bool F0.hidden) ∧ W.cell? ⟨w5.heap.size, 6, none⟩ = some (.bool F0.shared) ∧ W.cell? ⟨w5.heap.size, 7, none⟩ = some (.slice ma N mc)) := hid_of fun W hW => by
    obtain ⟨-, -, q0, q1, -⟩ := HX.out W (b26.trans (hW.mono b26.size))
    have h3 := (hW.block w3.heap.size (by omega)).trans n36
    have h5 := (hW.block w5.heap.size hs5).trans n5
    exact ⟨q0, q1, (box_at h3 0 (by simp)).1, (box_at h3 1 (by simp)).1, (box_at h3 2 (by simp)).1, (box_at h3 3 (by simp)).1, (box_at h3 4 (by simp)).1, (box_at h3 5 (by simp)).1, (box_at h3 6 (by simp)).1, (box_at h3 7 (by simp)).1, (box_at h5 0 (by simp)).1, (box_at h5 1 (by simp)).1, (box_at h5 2 (by simp)).1, (box_at h5 3 (by simp)).1, (box_at h5 4 (by simp)).1, (box_at h5 5 (by simp)).1, (box_at h5 6 (by simp)).1, (box_at h5 7 (by simp)).1⟩
  have HWP : Hid (∀ W, Below w6.heap.size w6 W → Calls Tryz.prog 7 #[.agg #[.string F0.name, .string F0.of, .bool F0.list, .bool F0.must, .bool F0.far, .bool F0.hidden, .bool F0.shared, .slice na N nc], .agg #[.string F0.name, .string F0.of, .bool F0.list, .bool F0.must, .bool F0.far, .bool F0.hidden, .bool F0.shared, .slice ma N mc]] W fun e w' => e = .returned (.bool true) ∧ Below W.heap.size W w') := hid_of fun W hW => by
    have h3 := ((HF3.out.mono (fun q (hq : w2.heap.size ≤ q ∧ q < w3.heap.size) => ((hW.block q (by omega)).trans (b45.block q (by omega))).trans (b4.block q hq.2))).sub (Q := fun b => b < w6.heap.size) fun q hq => by show q < w6.heap.size; omega)
    have h5 := ((HF5.out.mono (fun q (hq : w4.heap.size ≤ q ∧ q < w5.heap.size) => (hW.block q (by omega)).trans (b6.block q hq.2))).sub (Q := fun b => b < w6.heap.size) fun q hq => by show q < w6.heap.size; omega)
    exact wpField_any F0 W w6.heap.size _ _ h3 h5 hW.size
  have HX6 : Hid (∀ W, Below w6.heap.size w6 W → Handle W ∧ PRep W (· < w1.heap.size) p (.agg #[.string p.name, .slice ta l tc]) ∧ w1.heap.size ≤ W.heap.size) := hid_of fun W hW => by
    obtain ⟨q1, q2, -, -, q5⟩ := HX.out W (b26.trans (hW.mono b26.size))
    exact ⟨q1, q2, Nat.le_of_lt q5⟩
  have HCI := hid_of (fun W (hW : Below w6.heap.size w6 W) => PartCheckI_any p W w1.heap.size _ (HX6.out W hW).1 (HX6.out W hW).2.1 (HX6.out W hW).2.2 hz1)
  have HCS := hid_of (fun W (hW : Below w6.heap.size w6 W) => PartCheckS_any p W w1.heap.size _ (HX6.out W hW).2.1 (HX6.out W hW).2.2 hz1)
  have HWI := hid_of (fun W (hW : Below w6.heap.size w6 W) => PartWrite_any p W w1.heap.size _ (HX6.out W hW).2.1 (HX6.out W hW).2.2 hz1)
  have HWS := hid_of (fun W (hW : Below w6.heap.size w6 W) => PartWriteS_any p W w1.heap.size _ (HX6.out W hW).2.1 (HX6.out W hW).2.2 hz1)
  obtain ⟨fa, fc, HFP⟩ : ∃ fa fc, Hid (partFault p = (fa, fc)) := ⟨_, _, rfl⟩
  obtain ⟨tx, HT⟩ : ∃ tx : ByteArray, Hid ((if okP p = true then ⟨(partL p).toArray⟩ else ByteArray.empty) = tx) := ⟨_, rfl⟩
  rw [HFP.out] at HCI HCS HOK
  rw [HT.out] at HWI HWS
  simp only at HOK
  have HBE : Hid (∀ W, Below w6.heap.size w6 W → Below w.heap.size w W) := hid_of fun W hW => HB1.out.trans ((b26.trans (hW.mono b26.size)).mono HB1.out.size)
  have bX : Below w6.heap.size w6 w6.drew := (Below.refl _ _).drew
  clear c0 c1 d0 d1 n3 n36 n5 b4 b5 b6 b3 b45 hs3 hs5 HPI HPS
  go_cut [58] (fun r wx => r = .bool false ∧ Hid (Below w6.heap.size w6 wx))
  case first =>
    obtain ⟨e6_0, e6_1, e6_2, e6_3, e6_4, e6_5, e6_6, e6_7, e6_8, e6_9, e6_10, e6_11, e6_12, e6_13, e6_14, e6_15, e6_16, e6_17⟩ := HSD.out w6.drew bX
    have hob : (OK != OK) = false := by simp
    go_region_held3 (fun w' => w'.cell? ⟨w1.heap.size, 0, none⟩ = some (.string p.name) ∧ w'.cell? ⟨w1.heap.size, 1, none⟩ = some (.slice ta l tc) ∧ w'.cell? ⟨w3.heap.size, 0, none⟩ = some (.string F0.name) ∧ w'.cell? ⟨w3.heap.size, 1, none⟩ = some (.string F0.of) ∧ w'.cell? ⟨w3.heap.size, 2, none⟩ = some (.bool F0.list) ∧ w'.cell? ⟨w3.heap.size, 3, none⟩ = some (.bool F0.must) ∧ w'.cell? ⟨w3.heap.size, 4, none⟩ = some (.bool F0.far) ∧ w'.cell? ⟨w3.heap.size, 5, none⟩ = some (.bool F0.hidden) ∧ w'.cell? ⟨w3.heap.size, 6, none⟩ = some (.bool F0.shared) ∧ w'.cell? ⟨w3.heap.size, 7, none⟩ = some (.slice na N nc) ∧ w'.cell? ⟨w5.heap.size, 0, none⟩ = some (.string F0.name) ∧ w'.cell? ⟨w5.heap.size, 1, none⟩ = some (.string F0.of) ∧ w'.cell? ⟨w5.heap.size, 2, none⟩ = some (.bool F0.list) ∧ w'.cell? ⟨w5.heap.size, 3, none⟩ = some (.bool F0.must) ∧ w'.cell? ⟨w5.heap.size, 4, none⟩ = some (.bool F0.far) ∧ w'.cell? ⟨w5.heap.size, 5, none⟩ = some (.bool F0.hidden) ∧ w'.cell? ⟨w5.heap.size, 6, none⟩ = some (.bool F0.shared) ∧ w'.cell? ⟨w5.heap.size, 7, none⟩ = some (.slice ma N mc)) (go_keep)
      (first
      | (
        go_at_call 7
        refine (HWP.out w6.drew bX).mono ?_
        rintro e w7 ⟨rfl, b7⟩
        have b7 := bX.trans (b7.mono bX.size)
        obtain ⟨e7_0, e7_1, e7_2, e7_3, e7_4, e7_5, e7_6, e7_7, e7_8, e7_9, e7_10, e7_11, e7_12, e7_13, e7_14, e7_15, e7_16, e7_17⟩ := HSD.out w7 b7)
      | (
        go_at_call 8
        refine (HCI.out w7 b7).mono ?_
        rintro e w8 ⟨rfl, b8⟩
        have b8 := b7.trans (b8.mono b7.size)
        obtain ⟨e8_0, e8_1, e8_2, e8_3, e8_4, e8_5, e8_6, e8_7, e8_8, e8_9, e8_10, e8_11, e8_12, e8_13, e8_14, e8_15, e8_16, e8_17⟩ := HSD.out w8 b8)
      | (
        go_at_call 9
        refine (HCS.out w8 b8).mono ?_
        rintro e w9 ⟨rfl, b9⟩
        have b9 := b8.trans (b9.mono b8.size)
        obtain ⟨e9_0, e9_1, e9_2, e9_3, e9_4, e9_5, e9_6, e9_7, e9_8, e9_9, e9_10, e9_11, e9_12, e9_13, e9_14, e9_15, e9_16, e9_17⟩ := HSD.out w9 b9)
      | (
        go_at_call 10
        refine (HWI.out w9 b9).mono ?_
        rintro e w10 ⟨rfl, b10⟩
        have b10 := b9.trans (b10.mono b9.size)
        obtain ⟨e10_0, e10_1, e10_2, e10_3, e10_4, e10_5, e10_6, e10_7, e10_8, e10_9, e10_10, e10_11, e10_12, e10_13, e10_14, e10_15, e10_16, e10_17⟩ := HSD.out w10 b10)
      | (
        go_at_call 11
        refine (HWS.out w10 b10).mono ?_
        rintro e w11 ⟨rfl, b11⟩
        have b11 := b10.trans (b11.mono b10.size)
        obtain ⟨e11_0, e11_1, e11_2, e11_3, e11_4, e11_5, e11_6, e11_7, e11_8, e11_9, e11_10, e11_11, e11_12, e11_13, e11_14, e11_15, e11_16, e11_17⟩ := HSD.out w11 b11)
      )
    go_wp2_with fail
    go_meet
    case rel => exact ⟨rfl, b11⟩
  case rest =>
  obtain ⟨rfl, hbc⟩ := hcut
  obtain ⟨w12, rfl⟩ : ∃ x, x = wc := ⟨wc, rfl⟩
  have b12 := hbc.out
  obtain ⟨c0, c1, n0, -⟩ := HSD.out w12 b12
  have HPR := (HX6.out w12 b12).2.1
  have HCS12 := hid_of (HCS.out w12 b12)
  obtain ⟨ta', tc', he, ⟨-, C, hA, hr⟩, -⟩ := HPR
  simp only [Value.agg.injEq, Array.mk.injEq, List.cons.injEq, Value.slice.injEq, true_and, and_true] at he
  obtain ⟨rfl, -, rfl⟩ := he
  have h56 : p.types.length ≤ 6000000000000 := by have := (HX6.out w12 b12).2.1; obtain ⟨_, _, e, h, -⟩ := this; have := h.1; omega
  rw [← HL.out] at h56
  have HT : Hid (∀ k, k < l → ∃ b off fa fl fcp, ta = some ⟨b, off, none⟩ ∧ w12.cell? ⟨b, off + k * 3, none⟩ = some (.string (tth p.types k).name) ∧ w12.cell? ⟨b, off + k * 3 + 2, none⟩ = some (.slice fa fl fcp) ∧ fl = (tth p.types k).fields.length ∧ fl ≤ 1000000000000000 ∧ ∀ q, q < fl → ∃ fb fo, fa = some ⟨fb, fo, none⟩ ∧ w12.cell? ⟨fb, fo + q * 8, none⟩ = some (.string (fth (tth p.types k).fields q).name)) := hid_of fun k hk => by
    rw [HL.out] at hk
    obtain ⟨b, off, e, -, hc⟩ := hA (by omega)
    obtain ⟨fa, fcp, he, ⟨h64, D, hAD, hrD⟩, -⟩ := hr k hk
    simp only [Value.agg.injEq, Array.mk.injEq, List.cons.injEq, and_true] at he
    obtain ⟨e0, e1, e2⟩ := he
    have h0 := hc k hk 0 (by omega)
    have h2 := hc k hk 2 (by omega)
    rw [e0, Nat.add_zero] at h0
    rw [e2] at h2
    refine ⟨b, off, fa, _, fcp, e, h0, h2, rfl, by omega, fun q hq => ?_⟩
    obtain ⟨fb, fo, e', -, hcd⟩ := hAD (by omega)
    obtain ⟨na, nc, he, -⟩ := hrD q hq
    simp only [Value.agg.injEq, Array.mk.injEq, List.cons.injEq, and_true] at he
    have h1 := hcd q hq 0 (by omega)
    rw [he.1, Nat.add_zero] at h1
    exact ⟨fb, fo, e', h1⟩
  have HEN := hid_of (HBE.out w12 b12)
  have HBE2 : Hid (∀ W, Below w12.heap.size w12 W → Below w.heap.size w W) := hid_of fun W hW => HBE.out W (b12.trans (hW.mono b12.size))
  clear hA hr hbc bX HX HX6 HCI HCS HWI HWS HWP HSD HBE HB1 HP2 b12 b2 b24 b26 hb1 nP hP1 hg2 hP HF3 HF5 hz3 hz4 hz5 hz6
  have hz1 := hid_of hz1
  go_wp2_with fail
  go_loop [10, 11] (fun fd i => ∃ k : Nat, k ≤ l ∧ i = .int .i64 k ∧ fd = .bool (fdT p s f k)) (fun _ i => l - (intOf i).toNat)
  case atStart => exact ⟨0, Nat.zero_le _, rfl, rfl⟩
  case round =>
    obtain ⟨k, hk, rfl, rfl⟩ := hrel
    by_cases hlt : k < l
    case pos =>
      have hki : (k : Int) < (l : Int) := by omega
      obtain ⟨b, off, fa, fl, fcp, rfl, t0, t2, HFL, hfl, HFC⟩ := HT.out k hlt
      have HFC := hid_of HFC
      have HFL := hid_of HFL
      go_wp2_with fail
      go_loop [10, 12] (fun fd j => ∃ q : Nat, q ≤ fl ∧ j = .int .i64 q ∧ fd = .bool (fdT p s f k || fdF p s f k q)) (fun _ j => fl - (intOf j).toNat)
      case atStart => exact ⟨0, Nat.zero_le _, rfl, by simp [fdF]⟩
      case round =>
        obtain ⟨q, hq, rfl, rfl⟩ := hrel
        by_cases hql : q < fl
        case pos =>
          have hqi : (q : Int) < (fl : Int) := by omega
          obtain ⟨fb, fo, rfl, f0⟩ := HFC.out q hql
          have HST : Hid ((fdT p s f k || fdF p s f k (q + 1)) = ((fdT p s f k || fdF p s f k q) || ((tth p.types k).name.toList == s.toList && (fth (tth p.types k).fields q).name.toList == f.toList))) := hid_of (by rw [fdF, Bool.or_assoc])
          generalize (fdT p s f k || fdF p s f k q) = g at *
          generalize (tth p.types k).name = tn at *
          generalize (fth (tth p.types k).fields q).name = fn at *
          cases g
          · cases e1 : (tn.toList == s.toList) <;> cases e2 : (fn.toList == f.toList)
            all_goals
              go_wp2_with fail
              go_round
              case measure => simp [intOf]; omega
              case rel => exact ⟨q + 1, by omega, by go_num, by rw [HST.out, e1, e2]; rfl⟩
          · go_wp2_with fail
            go_round
            case measure => simp [intOf]; omega
            case rel => exact ⟨q + 1, by omega, by go_num, by rw [HST.out]; rfl⟩
        case neg =>
          have hqe : q = fl := by omega
          subst hqe
          have hqi : ¬ (q : Int) < (q : Int) := by omega
          have HST : Hid (fdT p s f (k + 1) = (fdT p s f k || fdF p s f k q)) := hid_of (by rw [fdT, HFL.out])
          go_wp2_with fail
          go_round
          case measure => simp [intOf]; omega
          case rel => exact ⟨k + 1, by omega, by go_num, by rw [HST.out]⟩
    case neg =>
      have hke : k = l := by omega
      subst hke
      have hki : ¬ (k : Int) < (k : Int) := by omega
      have HG : Hid (okP p = true → OK = fdT p s f k) := hid_of fun h => by rw [HL.out]; exact HFN.out h
      have hF := field_code (.int .i64 fa) (.int .i64 fc)
      generalize fdT p s f k = g at *
      by_cases hfc : fc = 0
      · have hok := HOK.out.1 hfc
        obtain rfl := HG.out hok
        subst hfc
        cases OK
        · go_wp2_with fail
          go_ret
          exact ⟨rfl, HEN.out⟩
        · have hnm := HNM.out rfl
          have hne : F0.name = f := bytes_eqB.1 (by simpa using hnm)
          rw [hne] at n0
          have hff : (f.toList == f.toList) = true := by simp
          go_wp2_with (
            go_at_call 9
            refine HCS12.out.mono ?_
            rintro e w13 ⟨rfl, b13⟩
            have n1 := (b13.cell (World.block_lt_of_cell? _ _ n0)).trans n0)
          go_ret
          exact ⟨rfl, HBE2.out _ b13⟩
      · have hok : okP p = false := by
          cases h : okP p
          · rfl
          · exact absurd (HOK.out.2 h) hfc
        obtain rfl := HF0.out hok
        have hfb : (fc == 0) = false := by simpa using hfc
        cases g
        · go_wp2_with fail
          go_ret
          exact ⟨rfl, HEN.out⟩
        · go_wp2_with (
            go_at_call 9
            refine HCS12.out.mono ?_
            rintro e w13 ⟨rfl, b13⟩)
          go_ret
          exact ⟨rfl, HBE2.out _ b13⟩

theorem field_walk (w : World) (v : Value) (cb n : Nat) (hg : Handle w) (h : CodeOk w cb v n) :
    Calls Tryz.prog 3 #[v] w fun e w' => e = .returned (.bool true) ∧ Below w.heap.size w w' := by
  by_cases hb : 1048576 < n
  · obtain ⟨a, d, off, rfl, -⟩ := h
    exact field_great w _ a n d rfl hb
  · exact field_small w cb n v hg h (by omega)
end Go.Proofs.YtibpieomldhomaaGreatDoor
