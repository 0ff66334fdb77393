import Derived.Test.YtibpieomldhomaaDoorJ12
import Derived.Deep.RegionHeld3
import Derived.Deep.DeepCutAuto
namespace Go.Proofs.YtibpieomldhomaaDoor
set_option linter.unusedSimpArgs false
set_option linter.unusedVariables false
open Go.RowKit Go.Maps
attribute [local go_sem] Oper.semAt_some

set_option maxRecDepth 20000 in
set_option maxHeartbeats 1000000 in
theorem twice_small (w : World) (cb n m c : Nat) (v : Value) (b : Option Addr) (hg : Handle w) (h : CodeOk w cb v n) (hn : n ≤ 1048576) (hm : m ≤ 1048576) :
    Calls Tryd.prog 3 #[v, .slice b m c] w fun e w' => e = .returned (.bool true) ∧ Below w.heap.size w w' := by
  have hpos := hg.pos
  have HDR := hid_of (DrawPartWrite_any w cb n v h hn)
  obtain ⟨a, cc, off, rfl, -⟩ := h
  have h1' : ¬ (1048576 : Int) < (n : Int) := by omega
  have h2' : ¬ (1048576 : Int) < (m : Int) := by omega
  go_enter Tryd.func3, Tryd.ntmps3
  go_wp2_with fail
  refine HDR.out.mono ?_
  rintro e w1 ⟨p, ta, tc, rfl, hP, hz, hb1⟩
  clear HDR h1' h2'
  obtain ⟨w2, hw2⟩ : ∃ x, x = w1.alloc (.cells #[.string p.name, .slice ta p.types.length tc] 25) := ⟨_, rfl⟩
  have nP : w2.heap[w1.heap.size]? = some (.cells #[.string p.name, .slice ta p.types.length tc] 25 (0, 0)) := by rw [hw2]; exact block_new (w := w1) #[.string p.name, .slice ta p.types.length tc] 25 rfl
  have z2 : w1.heap.size < w2.heap.size := by rw [hw2]; simp
  have b2 : Below w1.heap.size w1 w2 := by rw [hw2]; exact below_box _ _
  have hg2 : Handle w2 := (hg.below hb1 hpos).below b2 (by have := hb1.size; omega)
  have hpos2 := hg2.pos
  have HB1 : Hid (Below w.heap.size w w2) := hid_of (hb1.trans (b2.mono hb1.size))
  have HX : Hid (∀ W, Below w2.heap.size w2 W → Handle W ∧ PRep W (· < w1.heap.size) p (.agg #[.string p.name, .slice ta p.types.length tc]) ∧ W.cell? ⟨w1.heap.size, 0, none⟩ = some (.string p.name) ∧ W.cell? ⟨w1.heap.size, 1, none⟩ = some (.slice ta p.types.length tc) ∧ w1.heap.size < W.heap.size) := hid_of fun W hW => by
    have h0 := (hW.block _ z2).trans nP
    exact ⟨hg2.below hW hpos2, (hP.under b2).under (hW.mono (by omega)), (box_at h0 0 (by simp)).1, (box_at h0 1 (by simp)).1, by have := hW.size; omega⟩
  have HCI := hid_of (fun W (hW : Below w2.heap.size w2 W) => PartCheckI_any p W w1.heap.size _ (HX.out W hW).1 (HX.out W hW).2.1 (Nat.le_of_lt (HX.out W hW).2.2.2.2) (by omega))
  have HCS := hid_of (fun W (hW : Below w2.heap.size w2 W) => PartCheckS_any p W w1.heap.size _ (HX.out W hW).2.1 (Nat.le_of_lt (HX.out W hW).2.2.2.2) (by omega))
  have HWI := hid_of (fun W (hW : Below w2.heap.size w2 W) => PartWrite_any p W w1.heap.size _ (HX.out W hW).2.1 (Nat.le_of_lt (HX.out W hW).2.2.2.2) (by omega))
  have HWS := hid_of (fun W (hW : Below w2.heap.size w2 W) => PartWriteS_any p W w1.heap.size _ (HX.out W hW).2.1 (Nat.le_of_lt (HX.out W hW).2.2.2.2) (by omega))
  have HOK := hid_of (partFault_ok p)
  obtain ⟨fa, fc, HS⟩ : ∃ fa fc, Hid (partFault p = (fa, fc)) := ⟨_, _, rfl⟩
  obtain ⟨tx, HT⟩ : ∃ tx : ByteArray, Hid ((if okP p = true then ⟨(partL p).toArray⟩ else ByteArray.empty) = tx) := ⟨_, rfl⟩
  rw [HS.out] at HCI HCS HOK
  rw [HT.out] at HWI HWS
  simp only at HOK
  obtain ⟨P, hPe⟩ : ∃ x, x = w1.heap.size := ⟨_, rfl⟩
  have HP2 := hid_of hP
  clear HS HT hP hg hpos hb1 nP hg2
  go_wp2_with fail
  rw [← hw2]
  rw [← hPe] at HX z2 b2 HP2 ⊢
  clear hw2 hPe
  have bX : Below w2.heap.size w2 w2.drew := (Below.refl _ _).drew
  obtain ⟨-, -, c0, c1, -⟩ := HX.out w2.drew bX
  go_region_held3 (fun w' => w'.cell? ⟨P, 0, none⟩ = some (.string p.name) ∧ w'.cell? ⟨P, 1, none⟩ = some (.slice ta p.types.length tc)) (go_keep)
    (first
      | (
        go_at_call 5
        refine (HCI.out w2.drew bX).mono ?_
        rintro e w3 ⟨rfl, b3⟩
        have b3 := bX.trans (b3.mono bX.size)
        obtain ⟨-, -, d0, d1, -⟩ := HX.out w3 b3)
      | (
        go_at_call 6
        refine (HCS.out w3 b3).mono ?_
        rintro e w4 ⟨rfl, b4⟩
        have b4 := b3.trans (b4.mono b3.size)
        obtain ⟨-, -, d0, d1, -⟩ := HX.out w4 b4)
      | (
        go_at_call 7
        refine (HWI.out w4 b4).mono ?_
        rintro e w5 ⟨rfl, b5⟩
        have b5 := b4.trans (b5.mono b4.size)
        obtain ⟨-, -, d0, d1, -⟩ := HX.out w5 b5)
      | (
        go_at_call 8
        refine (HWS.out w5 b5).mono ?_
        rintro e w6 ⟨rfl, b6⟩
        have b6 := b5.trans (b6.mono b5.size)
        obtain ⟨-, -, d0, d1, -⟩ := HX.out w6 b6))
  have hF := field_code (.int .i64 fa) (.int .i64 fc)
  go_upto_if 36 with (
    go_at_call 6
    refine (HCS.out w6 b6).mono ?_
    rintro e w7 ⟨rfl, b7⟩
    have b7 := b6.trans (b7.mono b6.size)
    obtain ⟨-, -, e0, e1, -⟩ := HX.out w7 b7)
  by_cases hfc : fc = 0
  rotate_left
  · have hd : ¬ fc = 0 := hfc
    go_wp2_with fail
    go_ret
    exact ⟨rfl, HB1.out.trans (b7.mono HB1.out.size)⟩
  have hok := HOK.out.1 hfc
  have hl0 := (okP_zero hok).1
  have hl5 := (okP_zero hok).2
  subst hfc
  clear HCI HCS HWI HWS HOK hF b3 b4 b5 b6 bX c0 c1 d0 d1
  obtain ⟨l, HL⟩ : ∃ l, Hid (l = p.types.length) := ⟨_, rfl⟩
  rw [← HL.out] at HX HP2 e1 hl0 hl5
  obtain ⟨k, hk⟩ : ∃ k, k = m % l := ⟨_, rfl⟩
  have hkl : k < l := by rw [hk]; exact Nat.mod_lt _ hl0
  have hrem : ((m : Int).tmod (l : Int)) = (k : Int) := by rw [hk]; exact (Int.ofNat_tmod m l).symm
  have hl0i : ¬ (l : Int) = 0 := by omega
  have hkp : k < p.types.length := by rw [← HL.out]; exact hkl
  have hcn := code_names (okP_all hok hkp)
  -- what p's lists are
  obtain ⟨ta', tc', he, ⟨-, C, hA, hr⟩, htc, hsn⟩ := HP2.out
  simp only [Value.agg.injEq, Array.mk.injEq, List.cons.injEq, Value.slice.injEq, true_and, and_true] at he
  obtain ⟨rfl, -, rfl⟩ := he
  obtain ⟨b, off, rfl, hbP, hc⟩ := hA (by omega)
  obtain ⟨fa, fcp, he, ⟨-, D, hAD, hrD⟩, hfc2, htn, htk⟩ := hr k hkp
  simp only [Value.agg.injEq, Array.mk.injEq, List.cons.injEq, and_true] at he
  obtain ⟨k0, k1, k2⟩ := he
  obtain ⟨fl, hfl⟩ : ∃ n, n = (tth p.types k).fields.length := ⟨_, rfl⟩
  rw [← hfl] at hcn hAD hrD k2 hfc2
  have hfl0 := hcn.1
  have hfl8 := hcn.2.1
  obtain ⟨fb, fo, rfl, hfbP, hfcell⟩ := hAD hfl0
  obtain ⟨na, nc, he, -⟩ := hrD 0 hfl0
  simp only [Value.agg.injEq, Array.mk.injEq, List.cons.injEq, and_true] at he
  obtain ⟨j0, j1, j2, j3, j4, j5, j6, j7⟩ := he
  have HW1 : Hid (∀ W, Below w2.heap.size w2 W → Below P w1 W) := hid_of fun W hW => b2.trans (hW.mono (by omega))
  have HTC : Hid (∀ W, Below P w1 W → W.cell? ⟨b, off + k * 3, none⟩ = some (.string (tth p.types k).name) ∧ W.cell? ⟨b, off + k * 3 + 1, none⟩ = some (.string (tth p.types k).key) ∧ W.cell? ⟨b, off + k * 3 + 2, none⟩ = some (.slice (some ⟨fb, fo, none⟩) fl fcp)) := hid_of fun W hW => by
    have h0 := hc k hkp 0 (by omega)
    have h1 := hc k hkp 1 (by omega)
    have h2 := hc k hkp 2 (by omega)
    rw [k0, Nat.add_zero] at h0
    rw [k1] at h1
    rw [k2] at h2
    exact ⟨(hW.cell (p := ⟨b, off + k * 3, none⟩) hbP).trans h0, (hW.cell (p := ⟨b, off + k * 3 + 1, none⟩) hbP).trans h1, (hW.cell (p := ⟨b, off + k * 3 + 2, none⟩) hbP).trans h2⟩
  generalize hF0 : fth (tth p.types k).fields 0 = f0 at *
  have HFC : Hid (∀ W, Below P w1 W → W.cell? ⟨fb, fo, none⟩ = some (.string f0.name) ∧ W.cell? ⟨fb, fo + 1, none⟩ = some (.string f0.of) ∧ W.cell? ⟨fb, fo + 2, none⟩ = some (.bool f0.list) ∧ W.cell? ⟨fb, fo + 3, none⟩ = some (.bool f0.must) ∧ W.cell? ⟨fb, fo + 4, none⟩ = some (.bool f0.far) ∧ W.cell? ⟨fb, fo + 5, none⟩ = some (.bool f0.hidden) ∧ W.cell? ⟨fb, fo + 6, none⟩ = some (.bool f0.shared) ∧ W.cell? ⟨fb, fo + 7, none⟩ = some (.slice na f0.needs.length nc)) := hid_of fun W hW => by
    have h0 := fun j hj => (hW.cell (p := ⟨fb, fo + 0 * 8 + j, none⟩) hfbP).trans (hfcell 0 hfl0 j hj)
    simp only [Nat.zero_mul, Nat.add_zero] at h0
    refine ⟨?_, ?_, ?_, ?_, ?_, ?_, ?_, ?_⟩
    · have := h0 0 (by omega); rwa [j0, Nat.add_zero] at this
    · have := h0 1 (by omega); rwa [j1] at this
    · have := h0 2 (by omega); rwa [j2] at this
    · have := h0 3 (by omega); rwa [j3] at this
    · have := h0 4 (by omega); rwa [j4] at this
    · have := h0 5 (by omega); rwa [j5] at this
    · have := h0 6 (by omega); rwa [j6] at this
    · have := h0 7 (by omega); rwa [j7] at this
  have HRT : Hid (∀ W, Below P w1 W → ∀ i, i < p.types.length → TRep W (· < P) (tth p.types i) (.agg #[C i 0, C i 1, C i 2])) := hid_of fun W hW i hi => (hr i hi).under hW
  have HRF : Hid (∀ W, Below P w1 W → ∀ i, i < fl → FRep W (· < P) (fth (tth p.types k).fields i) (.agg #[D i 0, D i 1, D i 2, D i 3, D i 4, D i 5, D i 6, D i 7])) := hid_of fun W hW i hi => (hrD i hi).under hW
  have HAT : Hid (∀ W, Below P w1 W → LiesAt W (some ⟨b, off, none⟩) l (flat3 C l)) := hid_of fun W hW => by rw [HL.out]; exact flat3_lies (hA.mono fun q hq => hW.block q hq)
  have HAF : Hid (∀ W, Below P w1 W → LiesAt W (some ⟨fb, fo, none⟩) fl (flat8 D fl)) := hid_of fun W hW => flat8_lies (hAD.mono fun q hq => hW.block q hq)
  have HO3 : Hid (∀ u ∈ flat3 C l, u.oneCell' = true) := hid_of (by rw [HL.out]; exact flat3_one hr)
  have HO8 : Hid (∀ u ∈ flat8 D fl, u.oneCell' = true) := hid_of (by rw [hfl]; exact flat8_one (fs := (tth p.types k).fields) (fun i hi => hrD i (by rw [hfl]; exact hi)))
  have HD0 : Hid (([.string f0.name, .string f0.of, .bool f0.list, .bool f0.must, .bool f0.far, .bool f0.hidden, .bool f0.shared, .slice na f0.needs.length nc] : List Value) = [D 0 0, D 0 1, D 0 2, D 0 3, D 0 4, D 0 5, D 0 6, D 0 7]) := hid_of (by rw [j0, j1, j2, j3, j4, j5, j6, j7])
  have HK012 : Hid (C k 0 = .string (tth p.types k).name ∧ C k 1 = .string (tth p.types k).key ∧ C k 2 = .slice (some ⟨fb, fo, none⟩) fl fcp) := hid_of ⟨k0, k1, k2⟩
  have HSN := hid_of hsn
  have HFL := hid_of hfl
  have HF0 := hid_of hF0
  have HBP := hid_of (And.intro hbP hfbP)
  have HZ1 : Hid (szP ⟨p.name, p.types ++ [tth p.types k]⟩ ≤ 1048576 ∧ (partFault ⟨p.name, p.types ++ [tth p.types k]⟩).2 ≠ 0) := hid_of ⟨againT_sz p hok k hkp, twiceT_bad p k hkp⟩
  have HZ2 : Hid (szP ⟨p.name, p.types.set k ⟨(tth p.types k).name, (tth p.types k).key, (tth p.types k).fields ++ [f0]⟩⟩ ≤ 1048576 ∧ (partFault ⟨p.name, p.types.set k ⟨(tth p.types k).name, (tth p.types k).key, (tth p.types k).fields ++ [f0]⟩⟩).2 ≠ 0) := hid_of (by rw [← hF0]; exact ⟨againF_sz p hok k hkp (by rw [← hfl]; exact hfl0), twiceF_bad p k hkp (by rw [← hfl]; exact hfl0)⟩)
  have HK := hid_of hk
  have HOK := hid_of hok
  have HKP := hid_of hkp
  clear hk hok hkp hcn hA hr hc htc hsn k0 k1 k2 hAD hrD hfc2 htn htk hfl hbP hfbP hfcell j0 j1 j2 j3 j4 j5 j6 j7 hF0 HP2
  obtain ⟨tn, HTN⟩ : ∃ x, Hid (x = (tth p.types k).name) := ⟨_, rfl⟩
  obtain ⟨tk, HTK⟩ : ∃ x, Hid (x = (tth p.types k).key) := ⟨_, rfl⟩
  rw [← HTN.out, ← HTK.out] at HK012 HZ2
  rw [← HTN.out, ← HTK.out] at HTC
  go_upto_region 10 with fail
  obtain ⟨iT, hiT, hzT, hsT, hbT⟩ := info_parts infoT
  have nX := block_new (w := w7) (N := w7.heap.size) #[.string p.name, .slice (some ⟨b, off, none⟩) l tc] 25  rfl
  have bX8 := below_box w7 (.cells #[.string p.name, .slice (some ⟨b, off, none⟩) l tc] 25)
  have hX8 : w7.heap.size < (w7.alloc (.cells #[.string p.name, .slice (some ⟨b, off, none⟩) l tc] 25)).heap.size := by simp
  have hPX : w2.heap.size ≤ w7.heap.size := by have := b7.size; omega
  generalize w7.alloc (.cells #[.string p.name, .slice (some ⟨b, off, none⟩) l tc] 25) = w8 at *
  have b8 : Below w2.heap.size w2 w8 := b7.trans (bX8.mono hPX)
  have hXB : w7.heap.size ≤ w8.heap.size := by omega
  have HW8 : Hid (∀ {B : Nat} (W : World), Below B w8 W → w7.heap.size ≤ B → Below P w1 W) := hid_of fun W hW hB => HW1.out W (b8.trans (hW.mono (by omega)))
  have HSD : Hid (∀ W, Below w7.heap.size w8 W → W.cell? ⟨P, 1, none⟩ = some (.slice (some ⟨b, off, none⟩) l tc) ∧ W.cell? ⟨b, off + k * 3, none⟩ = some (.string tn) ∧ W.cell? ⟨b, off + k * 3 + 1, none⟩ = some (.string tk) ∧ W.cell? ⟨b, off + k * 3 + 2, none⟩ = some (.slice (some ⟨fb, fo, none⟩) fl fcp)) := hid_of fun W hW => ⟨(HX.out W (b8.trans (hW.mono hPX))).2.2.2.1, HTC.out W (HW1.out W (b8.trans (hW.mono hPX)))⟩
  have HNEQ : Hid (∀ (x y : Nat) {W : World}, W.heap[x]? = some (.cells #[.string tn, .string tk, .slice (some ⟨fb, fo, none⟩) fl fcp] 33 (0, 0)) → W.heap[y]? = some (.cells #[] 33 (0, 0)) → x ≠ y) := hid_of fun x y W h1 h2 e => by subst e; rw [h1] at h2; simp at h2
  have HM1 : Hid (∀ W gF capF, Below w8.heap.size w8 W → W.ownsRow w8.heap.size 33 3 (.slice (some ⟨gF, 0, none⟩) (l + 1) capF) (l + 1) (flat3 C l ++ [.string tn, .string tk, .slice (some ⟨fb, fo, none⟩) fl fcp]) → XEnd w2 w7.heap.size ⟨p.name, p.types ++ [tth p.types k]⟩ (W.setCell ⟨w7.heap.size, 1, none⟩ (.slice (some ⟨gF, 0, none⟩) (l + 1) capF))) := hid_of fun W gF capF hW ho => by
    have hs := hW.size
    rw [HL.out] at ho ⊢
    exact XEnd.mk1 HKP.out HSN.out (Nat.le_trans (Nat.le_of_lt z2) hPX) hX8 (HRT.out W (HW1.out W (b8.trans (hW.mono (by omega))))) HK012.out.1 HK012.out.2.1 HK012.out.2.2 ho (by rw [← HL.out]; omega) ((hW.block w7.heap.size hX8).trans nX) (b8.trans (hW.mono (by omega))) hPX (by omega)
  go_cut [] (fun wx => Hid (XEnd w2 w7.heap.size ⟨p.name, p.types ++ [tth p.types k]⟩ wx))
  case first =>
    refine wp_region_held_drew (S := (fun w' => w'.cell? ⟨P, 1, none⟩ = some (.slice (some ⟨b, off, none⟩) l tc) ∧ w'.cell? ⟨b, off + k * 3, none⟩ = some (.string tn) ∧ w'.cell? ⟨b, off + k * 3 + 1, none⟩ = some (.string tk) ∧ w'.cell? ⟨b, off + k * 3 + 2, none⟩ = some (.slice (some ⟨fb, fo, none⟩) fl fcp))) (by kernel_rfl) (HSD.out _ (Below.refl _ _).drew) (fun hHeld => ?_)
    have bX : Below w8.heap.size w8 w8.drew := (Below.refl _ _).drew
    generalize w8.drew = wE0 at *
    refine wpAnyH_take (i := 1) (oi := { dst := some 45, op := Op.fieldAddr 25 (Operand.tmp 5) 1, type := 0, pos := "laws.go:253", after := #[], guard := none }) (v := ?_) rfl (by kernel_rfl) (by kernel_rfl) (by kernel_rfl) (fun _ _ _ h => h) (Or.inl ⟨by rfl, ?_⟩) hHeld ?_
    rotate_left
    · intro w' hSw
      (try dsimp only at hSw)
      go_simp
      try with_reducible rfl
    try simp only [Act.put, List.setIfInBounds_toArray, List.set_cons_zero, List.set_cons_succ]
    refine wpAnyH_take (i := 2) (oi := { dst := some 46, op := Op.load 23 (Operand.tmp 45), type := 23, pos := "laws.go:253", after := #[{ on := 1, ground := Ground.data }], guard := none }) (v := ?_) rfl (by kernel_rfl) (by kernel_rfl) (by kernel_rfl) (fun _ _ _ h => h) (Or.inl ⟨by rfl, ?_⟩) hHeld ?_
    rotate_left
    · intro w' hSw
      (try dsimp only at hSw)
      go_simp
      try with_reducible rfl
    try simp only [Act.put, List.setIfInBounds_toArray, List.set_cons_zero, List.set_cons_succ]
    refine wpAnyH_take (i := 4) (oi := { dst := some 48, op := Op.fieldAddr 25 (Operand.tmp 5) 1, type := 0, pos := "laws.go:253", after := #[], guard := none }) (v := ?_) rfl (by kernel_rfl) (by kernel_rfl) (by kernel_rfl) (fun _ _ _ h => h) (Or.inl ⟨by rfl, ?_⟩) hHeld ?_
    rotate_left
    · intro w' hSw
      (try dsimp only at hSw)
      go_simp
      try with_reducible rfl
    try simp only [Act.put, List.setIfInBounds_toArray, List.set_cons_zero, List.set_cons_succ]
    refine wpAnyH_take (i := 5) (oi := { dst := some 49, op := Op.load 23 (Operand.tmp 48), type := 23, pos := "laws.go:253", after := #[{ on := 4, ground := Ground.data }], guard := none }) (v := ?_) rfl (by kernel_rfl) (by kernel_rfl) (by kernel_rfl) (fun _ _ _ h => h) (Or.inl ⟨by rfl, ?_⟩) hHeld ?_
    rotate_left
    · intro w' hSw
      (try dsimp only at hSw)
      go_simp
      try with_reducible rfl
    try simp only [Act.put, List.setIfInBounds_toArray, List.set_cons_zero, List.set_cons_succ]
    refine wpAnyH_take (i := 6) (oi := { dst := some 50, op := Op.move (Operand.tmp 6), type := 3, pos := "laws.go:253", after := #[], guard := none }) (v := ?_) rfl (by kernel_rfl) (by kernel_rfl) (by kernel_rfl) (fun _ _ _ h => h) (Or.inl ⟨by rfl, ?_⟩) hHeld ?_
    rotate_left
    · intro w' hSw
      (try dsimp only at hSw)
      go_simp
      try with_reducible rfl
    try simp only [Act.put, List.setIfInBounds_toArray, List.set_cons_zero, List.set_cons_succ]
    refine wpAnyH_take (i := 7) (oi := { dst := some 51, op := Op.indexAddr 23 (Operand.tmp 49) (Operand.tmp 50), type := 0, pos := "laws.go:253", after := #[{ on := 5, ground := Ground.data }, { on := 6, ground := Ground.data }], guard := none }) (v := ?_) rfl (by kernel_rfl) (by kernel_rfl) (by kernel_rfl) (fun _ _ _ h => h) (Or.inl ⟨by rfl, ?_⟩) hHeld ?_
    rotate_left
    · intro w' hSw
      (try dsimp only at hSw)
      go_simp
      try with_reducible rfl
    try simp only [Act.put, List.setIfInBounds_toArray, List.set_cons_zero, List.set_cons_succ]
    refine wpAnyH_take (i := 8) (oi := { dst := some 52, op := Op.load 33 (Operand.tmp 51), type := 33, pos := "laws.go:253", after := #[{ on := 7, ground := Ground.data }], guard := none }) (v := ?_) rfl (by kernel_rfl) (by kernel_rfl) (by kernel_rfl) (fun _ _ _ h => h) (Or.inl ⟨by rfl, ?_⟩) hHeld ?_
    rotate_left
    · intro w' hSw
      (try dsimp only at hSw)
      go_simp
      try with_reducible rfl
    try simp only [Act.put, List.setIfInBounds_toArray, List.set_cons_zero, List.set_cons_succ]
    refine wpAnyH_ready (rs := [0, 9]) (by kernel_rfl) (by simp) ?_
    refine AllReadyH.cons (o := { dst := some 44, op := Op.buildSlice 23 0 #[], type := 23, pos := "laws.go:253", after := #[], guard := none }) rfl (fun K hK => ?_) ?_
    · go_simp
      have bA := below_box wE0 (.cells #[] 33)
      obtain ⟨gA, hgA⟩ : ∃ g, g = wE0.heap.size := ⟨_, rfl⟩
      have nA := block_new (w := wE0) (N := gA) #[] 33 hgA.symm
      have hgA2 : w8.heap.size ≤ gA := by have := bX.size; omega
      have bX := bX.trans (bA.mono bX.size)
      refine hK.out _ _ (HSD.out _ (bX.mono hXB)) (fun hHeld => ?_)
      clear hK K
      try simp only [Act.put, List.setIfInBounds_toArray, List.set_cons_zero, List.set_cons_succ]
      rw [← hgA]
      generalize wE0.alloc (.cells #[] 33) = wA1 at *
      clear hgA bA
      refine wpAnyH_ready (rs := [3, 9]) (by kernel_rfl) (by simp) ?_
      refine AllReadyH.cons (o := { dst := some 47, op := Op.call { callee := Callee.builtin Builtin.append, args := #[Operand.tmp 44, Operand.tmp 46], argTypes := #[23, 23] }, type := 23, pos := "laws.go:253", after := #[{ on := 0, ground := Ground.data }, { on := 2, ground := Ground.data }], guard := none }) rfl (fun K hK => ?_) ?_
      · refine step_append_all rfl (.tmp 44) (.tmp 46) 23 rfl w8.heap.size 33 iT _ 3 56 Tryd.underlying23 hiT hzT hsT hbT rfl (by omega) gA 0 0 [] rfl (own_nil 33 3 nA hgA2) (some ⟨b, off, none⟩) l tc (flat3 C l) rfl (flat3_len _ _) (HAT.out _ (HW8.out _ bX hXB)) HO3.out (by unfold maxLen; omega) (by omega) bX.size ?_
        intro g1 cap1 wF1 o1 gr1 at1
        simp only [Nat.zero_add, List.nil_append] at o1 ⊢
        try have nE := (gr1.block gE (Array.getElem?_eq_some_iff.1 nE).1 (fun e => HNEQ.out gE gA nE nA (Option.some.inj e))).trans nE
        have bX := bX.grown gr1 bX.size (fun q hq => by cases hq; exact hgA2)
        have O1 := hid_of o1
        clear o1 gr1 at1 nA
        try have nA := (bF.block gA (Array.getElem?_eq_some_iff.1 nA).1).trans nA
        refine hK.out _ _ (HSD.out _ (bX.mono hXB)) (fun hHeld => ?_)
        clear hK K
        try simp only [Act.put, List.setIfInBounds_toArray, List.set_cons_zero, List.set_cons_succ]
        refine wpAnyH_ready (rs := [9]) (by kernel_rfl) (by simp) ?_
        refine AllReadyH.cons (o := { dst := some 53, op := Op.buildSlice 23 1 #[(0, Operand.tmp 52)], type := 23, pos := "laws.go:253", after := #[{ on := 8, ground := Ground.data }], guard := none }) rfl (fun K hK => ?_) AllReadyH.nil
        go_simp
        have bE := below_box wF1 (.cells #[.string tn, .string tk, .slice (some ⟨fb, fo, none⟩) fl fcp] 33)
        obtain ⟨gE, hgE⟩ : ∃ g, g = wF1.heap.size := ⟨_, rfl⟩
        have nE := block_new (w := wF1) (N := gE) #[.string tn, .string tk, .slice (some ⟨fb, fo, none⟩) fl fcp] 33 hgE.symm
        have bX := bX.trans (bE.mono bX.size)
        try have nA := (bE.block gA (Array.getElem?_eq_some_iff.1 nA).1).trans nA
        try have O1 := hid_of (owns_keep' O1.out bE)
        refine hK.out _ _ (HSD.out _ (bX.mono hXB)) (fun hHeld => ?_)
        clear hK K
        try simp only [Act.put, List.setIfInBounds_toArray, List.set_cons_zero, List.set_cons_succ]
        rw [← hgE]
        generalize wF1.alloc (.cells #[.string tn, .string tk, .slice (some ⟨fb, fo, none⟩) fl fcp] 33) = wE1 at *
        clear hgE bE
        refine wpAnyH_ready (rs := [10]) (by kernel_rfl) (by simp) ?_
        refine AllReadyH.cons (o := { dst := some 54, op := Op.call { callee := Callee.builtin Builtin.append, args := #[Operand.tmp 47, Operand.tmp 53], argTypes := #[23, 23] }, type := 23, pos := "laws.go:253", after := #[{ on := 3, ground := Ground.data }, { on := 9, ground := Ground.data }, { on := 3, ground := Ground.chain }], guard := none }) rfl (fun K hK => ?_) AllReadyH.nil
        refine step_append_all rfl (.tmp 47) (.tmp 53) 23 rfl w8.heap.size 33 iT _ 3 56 Tryd.underlying23 hiT hzT hsT hbT rfl (by omega) g1 l cap1 (flat3 C l) rfl O1.out (some ⟨gE, 0, none⟩) 1 1 [.string tn, .string tk, .slice (some ⟨fb, fo, none⟩) fl fcp] rfl rfl (fun _ => ⟨_, rfl, World.news_of_block nE⟩) (by intro u hu; simp at hu; rcases hu with rfl | rfl | rfl <;> rfl) (by unfold maxLen; omega) (by omega) bX.size ?_
        intro gF capF wG1 oG grG atG
        have bX := bX.grown grG bX.size (fun q hq => by cases hq; exact (O1.out.lt g1 rfl).1)
        have HQ := hid_of oG
        clear oG grG atG O1 nE
        try have nA := (bG.block gA (Array.getElem?_eq_some_iff.1 nA).1).trans nA
        try have O1 := hid_of (owns_keep' O1.out bG)
        try have nE := (bG.block gE (Array.getElem?_eq_some_iff.1 nE).1).trans nE
        refine hK.out _ _ (HSD.out _ (bX.mono hXB)) (fun hHeld => ?_)
        clear hK K
        try simp only [Act.put, List.setIfInBounds_toArray, List.set_cons_zero, List.set_cons_succ]
        refine wpAnyH_take (i := 11) (oi := { dst := some 55, op := Op.fieldAddr 25 (Operand.tmp 7) 1, type := 0, pos := "laws.go:253", after := #[{ on := 0, ground := Ground.phase }, { on := 1, ground := Ground.phase }, { on := 2, ground := Ground.phase }, { on := 3, ground := Ground.phase }, { on := 4, ground := Ground.phase }, { on := 5, ground := Ground.phase }, { on := 6, ground := Ground.phase }, { on := 7, ground := Ground.phase }, { on := 8, ground := Ground.phase }, { on := 9, ground := Ground.phase }, { on := 10, ground := Ground.phase }], guard := none }) (v := ?_) rfl (by kernel_rfl) (by kernel_rfl) (by kernel_rfl) (fun _ _ _ h => h) (Or.inl ⟨by rfl, ?_⟩) hHeld ?_
        rotate_left
        · intro w' hSw
          (try dsimp only at hSw)
          go_simp
          try with_reducible rfl
        try simp only [Act.put, List.setIfInBounds_toArray, List.set_cons_zero, List.set_cons_succ]
        refine wpAnyH_ready (rs := [12]) (by kernel_rfl) (by simp) ?_
        refine AllReadyH.cons (o := { dst := none, op := Op.store 23 (Operand.tmp 55) (Operand.tmp 54), type := 0, pos := "laws.go:253", after := #[{ on := 11, ground := Ground.data }, { on := 10, ground := Ground.data }, { on := 10, ground := Ground.chain }, { on := 0, ground := Ground.phase }, { on := 1, ground := Ground.phase }, { on := 2, ground := Ground.phase }, { on := 3, ground := Ground.phase }, { on := 4, ground := Ground.phase }, { on := 5, ground := Ground.phase }, { on := 6, ground := Ground.phase }, { on := 7, ground := Ground.phase }, { on := 8, ground := Ground.phase }, { on := 9, ground := Ground.phase }, { on := 10, ground := Ground.phase }], guard := none }) rfl (fun K hK => ?_) AllReadyH.nil
        obtain ⟨c1, z1⟩ := box_at ((bX.block w7.heap.size hX8).trans nX) 1 (by simp)
        simp only [List.getElem_toArray, List.getElem_cons_zero, List.getElem_cons_succ] at c1
        go_simp
        clear c1 z1
        refine hK.out _ _ (HSD.out _ (Below.setCell (p := ⟨w7.heap.size, 1, none⟩) (bX.mono hXB) (Nat.le_refl _) _)) (fun hHeld => ?_)
        clear hK K
        try simp only [Act.put, List.setIfInBounds_toArray, List.set_cons_zero, List.set_cons_succ]
        refine wpAnyH_done (by kernel_rfl) ?_ _
        have HFIN := hid_of (HM1.out _ gF capF bX HQ.out)
        clear HQ bX
        generalize wG1.setCell ⟨w7.heap.size, 1, none⟩ (.slice (some ⟨gF, 0, none⟩) (l + 1) capF) = wZ at *
        go_wp2_with fail
        go_meet
        case rel => exact HFIN
      refine AllReadyH.cons (o := { dst := some 53, op := Op.buildSlice 23 1 #[(0, Operand.tmp 52)], type := 23, pos := "laws.go:253", after := #[{ on := 8, ground := Ground.data }], guard := none }) rfl (fun K hK => ?_) AllReadyH.nil
      go_simp
      have bE := below_box wA1 (.cells #[.string tn, .string tk, .slice (some ⟨fb, fo, none⟩) fl fcp] 33)
      obtain ⟨gE, hgE⟩ : ∃ g, g = wA1.heap.size := ⟨_, rfl⟩
      have nE := block_new (w := wA1) (N := gE) #[.string tn, .string tk, .slice (some ⟨fb, fo, none⟩) fl fcp] 33 hgE.symm
      have bX := bX.trans (bE.mono bX.size)
      try have nA := (bE.block gA (Array.getElem?_eq_some_iff.1 nA).1).trans nA
      refine hK.out _ _ (HSD.out _ (bX.mono hXB)) (fun hHeld => ?_)
      clear hK K
      try simp only [Act.put, List.setIfInBounds_toArray, List.set_cons_zero, List.set_cons_succ]
      rw [← hgE]
      generalize wA1.alloc (.cells #[.string tn, .string tk, .slice (some ⟨fb, fo, none⟩) fl fcp] 33) = wE1 at *
      clear hgE bE
      refine wpAnyH_ready (rs := [3]) (by kernel_rfl) (by simp) ?_
      refine AllReadyH.cons (o := { dst := some 47, op := Op.call { callee := Callee.builtin Builtin.append, args := #[Operand.tmp 44, Operand.tmp 46], argTypes := #[23, 23] }, type := 23, pos := "laws.go:253", after := #[{ on := 0, ground := Ground.data }, { on := 2, ground := Ground.data }], guard := none }) rfl (fun K hK => ?_) AllReadyH.nil
      refine step_append_all rfl (.tmp 44) (.tmp 46) 23 rfl w8.heap.size 33 iT _ 3 56 Tryd.underlying23 hiT hzT hsT hbT rfl (by omega) gA 0 0 [] rfl (own_nil 33 3 nA hgA2) (some ⟨b, off, none⟩) l tc (flat3 C l) rfl (flat3_len _ _) (HAT.out _ (HW8.out _ bX hXB)) HO3.out (by unfold maxLen; omega) (by omega) bX.size ?_
      intro g1 cap1 wF1 o1 gr1 at1
      simp only [Nat.zero_add, List.nil_append] at o1 ⊢
      try have nE := (gr1.block gE (Array.getElem?_eq_some_iff.1 nE).1 (fun e => HNEQ.out gE gA nE nA (Option.some.inj e))).trans nE
      have bX := bX.grown gr1 bX.size (fun q hq => by cases hq; exact hgA2)
      have O1 := hid_of o1
      clear o1 gr1 at1 nA
      try have nA := (bF.block gA (Array.getElem?_eq_some_iff.1 nA).1).trans nA
      try have nE := (bF.block gE (Array.getElem?_eq_some_iff.1 nE).1).trans nE
      refine hK.out _ _ (HSD.out _ (bX.mono hXB)) (fun hHeld => ?_)
      clear hK K
      try simp only [Act.put, List.setIfInBounds_toArray, List.set_cons_zero, List.set_cons_succ]
      refine wpAnyH_ready (rs := [10]) (by kernel_rfl) (by simp) ?_
      refine AllReadyH.cons (o := { dst := some 54, op := Op.call { callee := Callee.builtin Builtin.append, args := #[Operand.tmp 47, Operand.tmp 53], argTypes := #[23, 23] }, type := 23, pos := "laws.go:253", after := #[{ on := 3, ground := Ground.data }, { on := 9, ground := Ground.data }, { on := 3, ground := Ground.chain }], guard := none }) rfl (fun K hK => ?_) AllReadyH.nil
      refine step_append_all rfl (.tmp 47) (.tmp 53) 23 rfl w8.heap.size 33 iT _ 3 56 Tryd.underlying23 hiT hzT hsT hbT rfl (by omega) g1 l cap1 (flat3 C l) rfl O1.out (some ⟨gE, 0, none⟩) 1 1 [.string tn, .string tk, .slice (some ⟨fb, fo, none⟩) fl fcp] rfl rfl (fun _ => ⟨_, rfl, World.news_of_block nE⟩) (by intro u hu; simp at hu; rcases hu with rfl | rfl | rfl <;> rfl) (by unfold maxLen; omega) (by omega) bX.size ?_
      intro gF capF wG1 oG grG atG
      have bX := bX.grown grG bX.size (fun q hq => by cases hq; exact (O1.out.lt g1 rfl).1)
      have HQ := hid_of oG
      clear oG grG atG O1 nE
      try have nA := (bG.block gA (Array.getElem?_eq_some_iff.1 nA).1).trans nA
      try have nE := (bG.block gE (Array.getElem?_eq_some_iff.1 nE).1).trans nE
      try have O1 := hid_of (owns_keep' O1.out bG)
      refine hK.out _ _ (HSD.out _ (bX.mono hXB)) (fun hHeld => ?_)
      clear hK K
      try simp only [Act.put, List.setIfInBounds_toArray, List.set_cons_zero, List.set_cons_succ]
      refine wpAnyH_take (i := 11) (oi := { dst := some 55, op := Op.fieldAddr 25 (Operand.tmp 7) 1, type := 0, pos := "laws.go:253", after := #[{ on := 0, ground := Ground.phase }, { on := 1, ground := Ground.phase }, { on := 2, ground := Ground.phase }, { on := 3, ground := Ground.phase }, { on := 4, ground := Ground.phase }, { on := 5, ground := Ground.phase }, { on := 6, ground := Ground.phase }, { on := 7, ground := Ground.phase }, { on := 8, ground := Ground.phase }, { on := 9, ground := Ground.phase }, { on := 10, ground := Ground.phase }], guard := none }) (v := ?_) rfl (by kernel_rfl) (by kernel_rfl) (by kernel_rfl) (fun _ _ _ h => h) (Or.inl ⟨by rfl, ?_⟩) hHeld ?_
      rotate_left
      · intro w' hSw
        (try dsimp only at hSw)
        go_simp
        try with_reducible rfl
      try simp only [Act.put, List.setIfInBounds_toArray, List.set_cons_zero, List.set_cons_succ]
      refine wpAnyH_ready (rs := [12]) (by kernel_rfl) (by simp) ?_
      refine AllReadyH.cons (o := { dst := none, op := Op.store 23 (Operand.tmp 55) (Operand.tmp 54), type := 0, pos := "laws.go:253", after := #[{ on := 11, ground := Ground.data }, { on := 10, ground := Ground.data }, { on := 10, ground := Ground.chain }, { on := 0, ground := Ground.phase }, { on := 1, ground := Ground.phase }, { on := 2, ground := Ground.phase }, { on := 3, ground := Ground.phase }, { on := 4, ground := Ground.phase }, { on := 5, ground := Ground.phase }, { on := 6, ground := Ground.phase }, { on := 7, ground := Ground.phase }, { on := 8, ground := Ground.phase }, { on := 9, ground := Ground.phase }, { on := 10, ground := Ground.phase }], guard := none }) rfl (fun K hK => ?_) AllReadyH.nil
      obtain ⟨c1, z1⟩ := box_at ((bX.block w7.heap.size hX8).trans nX) 1 (by simp)
      simp only [List.getElem_toArray, List.getElem_cons_zero, List.getElem_cons_succ] at c1
      go_simp
      clear c1 z1
      refine hK.out _ _ (HSD.out _ (Below.setCell (p := ⟨w7.heap.size, 1, none⟩) (bX.mono hXB) (Nat.le_refl _) _)) (fun hHeld => ?_)
      clear hK K
      try simp only [Act.put, List.setIfInBounds_toArray, List.set_cons_zero, List.set_cons_succ]
      refine wpAnyH_done (by kernel_rfl) ?_ _
      have HFIN := hid_of (HM1.out _ gF capF bX HQ.out)
      clear HQ bX
      generalize wG1.setCell ⟨w7.heap.size, 1, none⟩ (.slice (some ⟨gF, 0, none⟩) (l + 1) capF) = wZ at *
      go_wp2_with fail
      go_meet
      case rel => exact HFIN
    refine AllReadyH.cons (o := { dst := some 53, op := Op.buildSlice 23 1 #[(0, Operand.tmp 52)], type := 23, pos := "laws.go:253", after := #[{ on := 8, ground := Ground.data }], guard := none }) rfl (fun K hK => ?_) AllReadyH.nil
    go_simp
    have bE := below_box wE0 (.cells #[.string tn, .string tk, .slice (some ⟨fb, fo, none⟩) fl fcp] 33)
    obtain ⟨gE, hgE⟩ : ∃ g, g = wE0.heap.size := ⟨_, rfl⟩
    have nE := block_new (w := wE0) (N := gE) #[.string tn, .string tk, .slice (some ⟨fb, fo, none⟩) fl fcp] 33 hgE.symm
    have bX := bX.trans (bE.mono bX.size)
    refine hK.out _ _ (HSD.out _ (bX.mono hXB)) (fun hHeld => ?_)
    clear hK K
    try simp only [Act.put, List.setIfInBounds_toArray, List.set_cons_zero, List.set_cons_succ]
    rw [← hgE]
    generalize wE0.alloc (.cells #[.string tn, .string tk, .slice (some ⟨fb, fo, none⟩) fl fcp] 33) = wE1 at *
    clear hgE bE
    refine wpAnyH_ready (rs := [0]) (by kernel_rfl) (by simp) ?_
    refine AllReadyH.cons (o := { dst := some 44, op := Op.buildSlice 23 0 #[], type := 23, pos := "laws.go:253", after := #[], guard := none }) rfl (fun K hK => ?_) AllReadyH.nil
    go_simp
    have bA := below_box wE1 (.cells #[] 33)
    obtain ⟨gA, hgA⟩ : ∃ g, g = wE1.heap.size := ⟨_, rfl⟩
    have nA := block_new (w := wE1) (N := gA) #[] 33 hgA.symm
    have hgA2 : w8.heap.size ≤ gA := by have := bX.size; omega
    have bX := bX.trans (bA.mono bX.size)
    try have nE := (bA.block gE (Array.getElem?_eq_some_iff.1 nE).1).trans nE
    refine hK.out _ _ (HSD.out _ (bX.mono hXB)) (fun hHeld => ?_)
    clear hK K
    try simp only [Act.put, List.setIfInBounds_toArray, List.set_cons_zero, List.set_cons_succ]
    rw [← hgA]
    generalize wE1.alloc (.cells #[] 33) = wA1 at *
    clear hgA bA
    refine wpAnyH_ready (rs := [3]) (by kernel_rfl) (by simp) ?_
    refine AllReadyH.cons (o := { dst := some 47, op := Op.call { callee := Callee.builtin Builtin.append, args := #[Operand.tmp 44, Operand.tmp 46], argTypes := #[23, 23] }, type := 23, pos := "laws.go:253", after := #[{ on := 0, ground := Ground.data }, { on := 2, ground := Ground.data }], guard := none }) rfl (fun K hK => ?_) AllReadyH.nil
    refine step_append_all rfl (.tmp 44) (.tmp 46) 23 rfl w8.heap.size 33 iT _ 3 56 Tryd.underlying23 hiT hzT hsT hbT rfl (by omega) gA 0 0 [] rfl (own_nil 33 3 nA hgA2) (some ⟨b, off, none⟩) l tc (flat3 C l) rfl (flat3_len _ _) (HAT.out _ (HW8.out _ bX hXB)) HO3.out (by unfold maxLen; omega) (by omega) bX.size ?_
    intro g1 cap1 wF1 o1 gr1 at1
    simp only [Nat.zero_add, List.nil_append] at o1 ⊢
    try have nE := (gr1.block gE (Array.getElem?_eq_some_iff.1 nE).1 (fun e => HNEQ.out gE gA nE nA (Option.some.inj e))).trans nE
    have bX := bX.grown gr1 bX.size (fun q hq => by cases hq; exact hgA2)
    have O1 := hid_of o1
    clear o1 gr1 at1 nA
    try have nE := (bF.block gE (Array.getElem?_eq_some_iff.1 nE).1).trans nE
    try have nA := (bF.block gA (Array.getElem?_eq_some_iff.1 nA).1).trans nA
    refine hK.out _ _ (HSD.out _ (bX.mono hXB)) (fun hHeld => ?_)
    clear hK K
    try simp only [Act.put, List.setIfInBounds_toArray, List.set_cons_zero, List.set_cons_succ]
    refine wpAnyH_ready (rs := [10]) (by kernel_rfl) (by simp) ?_
    refine AllReadyH.cons (o := { dst := some 54, op := Op.call { callee := Callee.builtin Builtin.append, args := #[Operand.tmp 47, Operand.tmp 53], argTypes := #[23, 23] }, type := 23, pos := "laws.go:253", after := #[{ on := 3, ground := Ground.data }, { on := 9, ground := Ground.data }, { on := 3, ground := Ground.chain }], guard := none }) rfl (fun K hK => ?_) AllReadyH.nil
    refine step_append_all rfl (.tmp 47) (.tmp 53) 23 rfl w8.heap.size 33 iT _ 3 56 Tryd.underlying23 hiT hzT hsT hbT rfl (by omega) g1 l cap1 (flat3 C l) rfl O1.out (some ⟨gE, 0, none⟩) 1 1 [.string tn, .string tk, .slice (some ⟨fb, fo, none⟩) fl fcp] rfl rfl (fun _ => ⟨_, rfl, World.news_of_block nE⟩) (by intro u hu; simp at hu; rcases hu with rfl | rfl | rfl <;> rfl) (by unfold maxLen; omega) (by omega) bX.size ?_
    intro gF capF wG1 oG grG atG
    have bX := bX.grown grG bX.size (fun q hq => by cases hq; exact (O1.out.lt g1 rfl).1)
    have HQ := hid_of oG
    clear oG grG atG O1 nE
    try have nE := (bG.block gE (Array.getElem?_eq_some_iff.1 nE).1).trans nE
    try have nA := (bG.block gA (Array.getElem?_eq_some_iff.1 nA).1).trans nA
    try have O1 := hid_of (owns_keep' O1.out bG)
    refine hK.out _ _ (HSD.out _ (bX.mono hXB)) (fun hHeld => ?_)
    clear hK K
    try simp only [Act.put, List.setIfInBounds_toArray, List.set_cons_zero, List.set_cons_succ]
    refine wpAnyH_take (i := 11) (oi := { dst := some 55, op := Op.fieldAddr 25 (Operand.tmp 7) 1, type := 0, pos := "laws.go:253", after := #[{ on := 0, ground := Ground.phase }, { on := 1, ground := Ground.phase }, { on := 2, ground := Ground.phase }, { on := 3, ground := Ground.phase }, { on := 4, ground := Ground.phase }, { on := 5, ground := Ground.phase }, { on := 6, ground := Ground.phase }, { on := 7, ground := Ground.phase }, { on := 8, ground := Ground.phase }, { on := 9, ground := Ground.phase }, { on := 10, ground := Ground.phase }], guard := none }) (v := ?_) rfl (by kernel_rfl) (by kernel_rfl) (by kernel_rfl) (fun _ _ _ h => h) (Or.inl ⟨by rfl, ?_⟩) hHeld ?_
    rotate_left
    · intro w' hSw
      (try dsimp only at hSw)
      go_simp
      try with_reducible rfl
    try simp only [Act.put, List.setIfInBounds_toArray, List.set_cons_zero, List.set_cons_succ]
    refine wpAnyH_ready (rs := [12]) (by kernel_rfl) (by simp) ?_
    refine AllReadyH.cons (o := { dst := none, op := Op.store 23 (Operand.tmp 55) (Operand.tmp 54), type := 0, pos := "laws.go:253", after := #[{ on := 11, ground := Ground.data }, { on := 10, ground := Ground.data }, { on := 10, ground := Ground.chain }, { on := 0, ground := Ground.phase }, { on := 1, ground := Ground.phase }, { on := 2, ground := Ground.phase }, { on := 3, ground := Ground.phase }, { on := 4, ground := Ground.phase }, { on := 5, ground := Ground.phase }, { on := 6, ground := Ground.phase }, { on := 7, ground := Ground.phase }, { on := 8, ground := Ground.phase }, { on := 9, ground := Ground.phase }, { on := 10, ground := Ground.phase }], guard := none }) rfl (fun K hK => ?_) AllReadyH.nil
    obtain ⟨c1, z1⟩ := box_at ((bX.block w7.heap.size hX8).trans nX) 1 (by simp)
    simp only [List.getElem_toArray, List.getElem_cons_zero, List.getElem_cons_succ] at c1
    go_simp
    clear c1 z1
    refine hK.out _ _ (HSD.out _ (Below.setCell (p := ⟨w7.heap.size, 1, none⟩) (bX.mono hXB) (Nat.le_refl _) _)) (fun hHeld => ?_)
    clear hK K
    try simp only [Act.put, List.setIfInBounds_toArray, List.set_cons_zero, List.set_cons_succ]
    refine wpAnyH_done (by kernel_rfl) ?_ _
    have HFIN := hid_of (HM1.out _ gF capF bX HQ.out)
    clear HQ bX
    generalize wG1.setCell ⟨w7.heap.size, 1, none⟩ (.slice (some ⟨gF, 0, none⟩) (l + 1) capF) = wZ at *
    go_wp2_with fail
    go_meet
    case rel => exact HFIN
  case rest =>
  obtain ⟨X, hXe⟩ : ∃ x, x = w7.heap.size := ⟨_, rfl⟩
  rw [← hXe] at hcut hPX
  have HXE : Hid (XEnd w2 X ⟨p.name, p.types ++ [tth p.types k]⟩ wc) := hcut
  obtain ⟨w10, rfl⟩ : ∃ x, x = wc := ⟨wc, rfl⟩
  clear hcut HM1 HNEQ HSD HW8 nX bX8 hX8
  have b10 : Below w2.heap.size w2 w10 := by obtain ⟨_, _, -, -, h, -⟩ := HXE.out; exact h
  obtain ⟨-, -, x0, x1, -⟩ := HX.out w10 b10
  have nY := block_new (w := w10) (N := w10.heap.size) #[.string p.name, .slice (some ⟨b, off, none⟩) l tc] 25 rfl
  have bY := below_box w10 (.cells #[.string p.name, .slice (some ⟨b, off, none⟩) l tc] 25)
  have hY1 : w10.heap.size < (w10.alloc (.cells #[.string p.name, .slice (some ⟨b, off, none⟩) l tc] 25)).heap.size := by simp
  have hY2 : w2.heap.size ≤ w10.heap.size := b10.size
  go_upto_region 12 with fail
  generalize w10.alloc (.cells #[.string p.name, .slice (some ⟨b, off, none⟩) l tc] 25) = w11 at *
  have b11 : Below w2.heap.size w2 w11 := b10.trans (bY.mono hY2)
  clear x0 x1
  have HXW : Hid (∀ W, Below w11.heap.size w11 W → W.cell? ⟨P, 1, none⟩ = some (.slice (some ⟨b, off, none⟩) l tc) ∧ Below P w1 W) := hid_of fun W hW => ⟨(HX.out W (b11.trans (hW.mono b11.size))).2.2.2.1, HW1.out W (b11.trans (hW.mono b11.size))⟩
  have x1 : ∀ o, (w11.alloc o).cell? ⟨P, 1, none⟩ = some (.slice (some ⟨b, off, none⟩) l tc) := fun o => (HXW.out _ (below_box w11 o)).1
  go_upto_region 13 with (
    at_builtin
    refine wpList_append_all rfl (.tmp 57) (.tmp 59) 23 rfl w11.heap.size 33 iT _ 3 56 Tryd.underlying23 hiT hzT hsT hbT rfl (by omega) w11.heap.size 0 0 [] rfl (own_nil 33 3 (block_new _ _ rfl) (Nat.le_refl _)) (some ⟨b, off, none⟩) l tc (flat3 C l) rfl (flat3_len _ _) (HAT.out _ (HXW.out _ (below_box w11 _)).2) HO3.out (by unfold maxLen; omega) (by omega) (by simp) ?_
    intro g1 cap1 w12 o1 gr1 at1
    simp only [Nat.zero_add, List.nil_append] at o1 ⊢
    have b12 : Below w11.heap.size w11 w12 := (below_box w11 _).grown gr1 (by simp) (fun q hq => by cases hq; exact Nat.le_refl _)
    have nY12 := (b12.block w10.heap.size hY1).trans nY
    have O12 := hid_of o1
    obtain ⟨c1, z1⟩ := box_at nY12 1 (by simp)
    simp only [List.getElem_toArray, List.getElem_cons_zero, List.getElem_cons_succ] at c1
    clear o1 gr1 at1)
  clear c1 z1 x1
  have nY13 := set_box nY12 1 (.slice (some ⟨g1, 0, none⟩) l cap1)
  simp only [List.setIfInBounds_toArray, List.set_cons_zero, List.set_cons_succ] at nY13
  have o13 := ownsRow_setCell_below O12.out (a := ⟨w10.heap.size, 1, none⟩) hY1 (.slice (some ⟨g1, 0, none⟩) l cap1)
  have b13 := ((bY.trans (b12.mono bY.size)).setCell (p := ⟨w10.heap.size, 1, none⟩) (Nat.le_refl _) (.slice (some ⟨g1, 0, none⟩) l cap1))
  generalize w12.setCell ⟨w10.heap.size, 1, none⟩ (.slice (some ⟨g1, 0, none⟩) l cap1) = w13 at *
  clear nY12 O12 b12 nY HXW
  have hg1 := o13.lt g1 rfl
  have hgB : g1 ≤ w13.heap.size := by omega
  have hYg : w10.heap.size < g1 := by omega
  have b213 : Below w2.heap.size w2 w13 := b10.trans (b13.mono hY2)
  have HW13 : Hid (∀ W, Below w13.heap.size w13 W → Below P w1 W) := hid_of fun W hW => HW1.out W (b213.trans (hW.mono b213.size))
  have HSD : Hid (∀ W, Below g1 w13 W → W.cell? ⟨w10.heap.size, 1, none⟩ = some (.slice (some ⟨g1, 0, none⟩) l cap1) ∧ W.cell? ⟨P, 1, none⟩ = some (.slice (some ⟨b, off, none⟩) l tc) ∧ W.cell? ⟨b, off + k * 3 + 2, none⟩ = some (.slice (some ⟨fb, fo, none⟩) fl fcp) ∧ W.cell? ⟨fb, fo, none⟩ = some (.string f0.name) ∧ W.cell? ⟨fb, fo + 1, none⟩ = some (.string f0.of) ∧ W.cell? ⟨fb, fo + 2, none⟩ = some (.bool f0.list) ∧ W.cell? ⟨fb, fo + 3, none⟩ = some (.bool f0.must) ∧ W.cell? ⟨fb, fo + 4, none⟩ = some (.bool f0.far) ∧ W.cell? ⟨fb, fo + 5, none⟩ = some (.bool f0.hidden) ∧ W.cell? ⟨fb, fo + 6, none⟩ = some (.bool f0.shared) ∧ W.cell? ⟨fb, fo + 7, none⟩ = some (.slice na f0.needs.length nc)) := hid_of fun W hW => by
    have hb := b213.trans (hW.mono (by omega))
    exact ⟨(box_at ((hW.block w10.heap.size hYg).trans nY13) 1 (by simp)).1, (HX.out W hb).2.2.2.1, (HTC.out W (HW1.out W hb)).2.2, HFC.out W (HW1.out W hb)⟩
  have HNEQ : Hid (∀ (x y : Nat) {W : World}, W.heap[x]? = some (.cells #[.string f0.name, .string f0.of, .bool f0.list, .bool f0.must, .bool f0.far, .bool f0.hidden, .bool f0.shared, .slice na f0.needs.length nc] 36 (0, 0)) → W.heap[y]? = some (.cells #[] 36 (0, 0)) → x ≠ y) := hid_of fun x y W h1 h2 e => by subst e; rw [h1] at h2; simp at h2
  have HTT : Hid (∀ W, Below w13.heap.size w13 W → W.cell? ⟨g1, k * 3 + 2, none⟩ = some (C k 2) ∧ W.frozen? ⟨g1, k * 3 + 2, none⟩ = false) := hid_of fun W hW => ⟨(hW.cell (p := ⟨g1, k * 3 + 2, none⟩) hg1.2).trans ((o13.cellAt (k * 3 + 2) (by omega)).trans (flat3_at C l k 2 hkl (by omega))), (hW.frozen (p := ⟨g1, k * 3 + 2, none⟩) hg1.2).trans (o13.frozenAt _)⟩
  obtain ⟨iF, hiF, hzF, hsF, hbF⟩ := info_parts infoF
  have HM2 : Hid (∀ W gF capF, Below w13.heap.size w13 W → W.ownsRow w13.heap.size 36 8 (.slice (some ⟨gF, 0, none⟩) (fl + 1) capF) (fl + 1) (flat8 D fl ++ [.string f0.name, .string f0.of, .bool f0.list, .bool f0.must, .bool f0.far, .bool f0.hidden, .bool f0.shared, .slice na f0.needs.length nc]) → XEnd w2 w10.heap.size ⟨p.name, p.types.set k ⟨tn, tk, (tth p.types k).fields ++ [f0]⟩⟩ (W.setCell ⟨g1, k * 3 + 2, none⟩ (.slice (some ⟨gF, 0, none⟩) (fl + 1) capF)) ∧ XEnd w2 X ⟨p.name, p.types ++ [tth p.types k]⟩ (W.setCell ⟨g1, k * 3 + 2, none⟩ (.slice (some ⟨gF, 0, none⟩) (fl + 1) capF))) := hid_of fun W gF capF hW ho => by
    have hs := hW.size
    have hgF := (ho.lt gF rfl).1
    have hb := b213.trans (hW.mono b213.size)
    have hW1 := HW1.out W hb
    refine ⟨?_, HXE.out.below (Below.setCell (p := ⟨g1, k * 3 + 2, none⟩) (b13.trans (hW.mono b13.size)) (by show w10.heap.size ≤ g1; omega) _)⟩
    have hoT := owns_keep' o13 hW
    have hnY := (hW.block w10.heap.size (by omega)).trans nY13
    have hoF : W.ownsRow w11.heap.size 36 8 (.slice (some ⟨gF, 0, none⟩) (fl + 1) capF) (fl + 1) (flat8 D fl ++ [.string f0.name, .string f0.of, .bool f0.list, .bool f0.must, .bool f0.far, .bool f0.hidden, .bool f0.shared, .slice na f0.needs.length nc]) := ⟨ho.1, ho.2.imp id fun ⟨g, c', cur, e, hb', r⟩ => ⟨g, c', cur, e, by omega, r⟩⟩
    have hlp : p.types.length ≤ 1000000 := by rw [← HL.out]; omega
    have hrF := HRF.out W hW1
    have hfl2 := HFL.out
    have hz0 := hfl0
    have hz8 := hfl8
    rw [HL.out] at hoT hnY
    rw [HTN.out, HTK.out, ← HF0.out]
    rw [hfl2] at hoF hrF hz0 hz8 ⊢
    exact XEnd.mk2 HKP.out HSN.out (by omega) hY1 (HRT.out W hW1) rfl hz0 hrF HD0.out hoT hlp (by omega) hoF (by omega) hnY hb hY2 (by omega) (by omega)
  go_cut [] (fun wx => Hid (XEnd w2 w10.heap.size ⟨p.name, p.types.set k ⟨tn, tk, (tth p.types k).fields ++ [f0]⟩⟩ wx) ∧ Hid (XEnd w2 X ⟨p.name, p.types ++ [tth p.types k]⟩ wx))
  case first =>
    refine wp_region_held_drew (S := (fun w' => w'.cell? ⟨w10.heap.size, 1, none⟩ = some (.slice (some ⟨g1, 0, none⟩) l cap1) ∧ w'.cell? ⟨P, 1, none⟩ = some (.slice (some ⟨b, off, none⟩) l tc) ∧ w'.cell? ⟨b, off + k * 3 + 2, none⟩ = some (.slice (some ⟨fb, fo, none⟩) fl fcp) ∧ w'.cell? ⟨fb, fo, none⟩ = some (.string f0.name) ∧ w'.cell? ⟨fb, fo + 1, none⟩ = some (.string f0.of) ∧ w'.cell? ⟨fb, fo + 2, none⟩ = some (.bool f0.list) ∧ w'.cell? ⟨fb, fo + 3, none⟩ = some (.bool f0.must) ∧ w'.cell? ⟨fb, fo + 4, none⟩ = some (.bool f0.far) ∧ w'.cell? ⟨fb, fo + 5, none⟩ = some (.bool f0.hidden) ∧ w'.cell? ⟨fb, fo + 6, none⟩ = some (.bool f0.shared) ∧ w'.cell? ⟨fb, fo + 7, none⟩ = some (.slice na f0.needs.length nc))) (by kernel_rfl) (HSD.out _ (Below.refl _ _).drew) (fun hHeld => ?_)
    have bX : Below w13.heap.size w13 w13.drew := (Below.refl _ _).drew
    generalize w13.drew = wE0 at *
    refine wpAnyH_take (i := 0) (oi := { dst := some 62, op := Op.fieldAddr 25 (Operand.tmp 8) 1, type := 0, pos := "laws.go:256", after := #[], guard := none }) (v := ?_) rfl (by kernel_rfl) (by kernel_rfl) (by kernel_rfl) (fun _ _ _ h => h) (Or.inl ⟨by rfl, ?_⟩) hHeld ?_
    rotate_left
    · intro w' hSw
      (try dsimp only at hSw)
      go_simp
      try with_reducible rfl
    try simp only [Act.put, List.setIfInBounds_toArray, List.set_cons_zero, List.set_cons_succ]
    refine wpAnyH_take (i := 1) (oi := { dst := some 63, op := Op.load 23 (Operand.tmp 62), type := 23, pos := "laws.go:256", after := #[{ on := 0, ground := Ground.data }], guard := none }) (v := ?_) rfl (by kernel_rfl) (by kernel_rfl) (by kernel_rfl) (fun _ _ _ h => h) (Or.inl ⟨by rfl, ?_⟩) hHeld ?_
    rotate_left
    · intro w' hSw
      (try dsimp only at hSw)
      go_simp
      try with_reducible rfl
    try simp only [Act.put, List.setIfInBounds_toArray, List.set_cons_zero, List.set_cons_succ]
    refine wpAnyH_take (i := 2) (oi := { dst := some 64, op := Op.move (Operand.tmp 6), type := 3, pos := "laws.go:256", after := #[], guard := none }) (v := ?_) rfl (by kernel_rfl) (by kernel_rfl) (by kernel_rfl) (fun _ _ _ h => h) (Or.inl ⟨by rfl, ?_⟩) hHeld ?_
    rotate_left
    · intro w' hSw
      (try dsimp only at hSw)
      go_simp
      try with_reducible rfl
    try simp only [Act.put, List.setIfInBounds_toArray, List.set_cons_zero, List.set_cons_succ]
    refine wpAnyH_take (i := 4) (oi := { dst := some 66, op := Op.fieldAddr 25 (Operand.tmp 5) 1, type := 0, pos := "laws.go:256", after := #[], guard := none }) (v := ?_) rfl (by kernel_rfl) (by kernel_rfl) (by kernel_rfl) (fun _ _ _ h => h) (Or.inl ⟨by rfl, ?_⟩) hHeld ?_
    rotate_left
    · intro w' hSw
      (try dsimp only at hSw)
      go_simp
      try with_reducible rfl
    try simp only [Act.put, List.setIfInBounds_toArray, List.set_cons_zero, List.set_cons_succ]
    refine wpAnyH_take (i := 5) (oi := { dst := some 67, op := Op.load 23 (Operand.tmp 66), type := 23, pos := "laws.go:256", after := #[{ on := 4, ground := Ground.data }], guard := none }) (v := ?_) rfl (by kernel_rfl) (by kernel_rfl) (by kernel_rfl) (fun _ _ _ h => h) (Or.inl ⟨by rfl, ?_⟩) hHeld ?_
    rotate_left
    · intro w' hSw
      (try dsimp only at hSw)
      go_simp
      try with_reducible rfl
    try simp only [Act.put, List.setIfInBounds_toArray, List.set_cons_zero, List.set_cons_succ]
    refine wpAnyH_take (i := 6) (oi := { dst := some 68, op := Op.move (Operand.tmp 6), type := 3, pos := "laws.go:256", after := #[], guard := none }) (v := ?_) rfl (by kernel_rfl) (by kernel_rfl) (by kernel_rfl) (fun _ _ _ h => h) (Or.inl ⟨by rfl, ?_⟩) hHeld ?_
    rotate_left
    · intro w' hSw
      (try dsimp only at hSw)
      go_simp
      try with_reducible rfl
    try simp only [Act.put, List.setIfInBounds_toArray, List.set_cons_zero, List.set_cons_succ]
    refine wpAnyH_take (i := 7) (oi := { dst := some 69, op := Op.indexAddr 23 (Operand.tmp 67) (Operand.tmp 68), type := 0, pos := "laws.go:256", after := #[{ on := 5, ground := Ground.data }, { on := 6, ground := Ground.data }], guard := none }) (v := ?_) rfl (by kernel_rfl) (by kernel_rfl) (by kernel_rfl) (fun _ _ _ h => h) (Or.inl ⟨by rfl, ?_⟩) hHeld ?_
    rotate_left
    · intro w' hSw
      (try dsimp only at hSw)
      go_simp
      try with_reducible rfl
    try simp only [Act.put, List.setIfInBounds_toArray, List.set_cons_zero, List.set_cons_succ]
    refine wpAnyH_take (i := 8) (oi := { dst := some 70, op := Op.fieldAddr 33 (Operand.tmp 69) 2, type := 0, pos := "laws.go:256", after := #[{ on := 7, ground := Ground.data }], guard := none }) (v := ?_) rfl (by kernel_rfl) (by kernel_rfl) (by kernel_rfl) (fun _ _ _ h => h) (Or.inl ⟨by rfl, ?_⟩) hHeld ?_
    rotate_left
    · intro w' hSw
      (try dsimp only at hSw)
      go_simp
      try with_reducible rfl
    try simp only [Act.put, List.setIfInBounds_toArray, List.set_cons_zero, List.set_cons_succ]
    refine wpAnyH_take (i := 9) (oi := { dst := some 71, op := Op.load 31 (Operand.tmp 70), type := 31, pos := "laws.go:256", after := #[{ on := 8, ground := Ground.data }], guard := none }) (v := ?_) rfl (by kernel_rfl) (by kernel_rfl) (by kernel_rfl) (fun _ _ _ h => h) (Or.inl ⟨by rfl, ?_⟩) hHeld ?_
    rotate_left
    · intro w' hSw
      (try dsimp only at hSw)
      go_simp
      try with_reducible rfl
    try simp only [Act.put, List.setIfInBounds_toArray, List.set_cons_zero, List.set_cons_succ]
    refine wpAnyH_take (i := 11) (oi := { dst := some 73, op := Op.fieldAddr 25 (Operand.tmp 5) 1, type := 0, pos := "laws.go:256", after := #[], guard := none }) (v := ?_) rfl (by kernel_rfl) (by kernel_rfl) (by kernel_rfl) (fun _ _ _ h => h) (Or.inl ⟨by rfl, ?_⟩) hHeld ?_
    rotate_left
    · intro w' hSw
      (try dsimp only at hSw)
      go_simp
      try with_reducible rfl
    try simp only [Act.put, List.setIfInBounds_toArray, List.set_cons_zero, List.set_cons_succ]
    refine wpAnyH_take (i := 12) (oi := { dst := some 74, op := Op.load 23 (Operand.tmp 73), type := 23, pos := "laws.go:256", after := #[{ on := 11, ground := Ground.data }], guard := none }) (v := ?_) rfl (by kernel_rfl) (by kernel_rfl) (by kernel_rfl) (fun _ _ _ h => h) (Or.inl ⟨by rfl, ?_⟩) hHeld ?_
    rotate_left
    · intro w' hSw
      (try dsimp only at hSw)
      go_simp
      try with_reducible rfl
    try simp only [Act.put, List.setIfInBounds_toArray, List.set_cons_zero, List.set_cons_succ]
    refine wpAnyH_take (i := 13) (oi := { dst := some 75, op := Op.move (Operand.tmp 6), type := 3, pos := "laws.go:256", after := #[], guard := none }) (v := ?_) rfl (by kernel_rfl) (by kernel_rfl) (by kernel_rfl) (fun _ _ _ h => h) (Or.inl ⟨by rfl, ?_⟩) hHeld ?_
    rotate_left
    · intro w' hSw
      (try dsimp only at hSw)
      go_simp
      try with_reducible rfl
    try simp only [Act.put, List.setIfInBounds_toArray, List.set_cons_zero, List.set_cons_succ]
    refine wpAnyH_take (i := 14) (oi := { dst := some 76, op := Op.indexAddr 23 (Operand.tmp 74) (Operand.tmp 75), type := 0, pos := "laws.go:256", after := #[{ on := 12, ground := Ground.data }, { on := 13, ground := Ground.data }], guard := none }) (v := ?_) rfl (by kernel_rfl) (by kernel_rfl) (by kernel_rfl) (fun _ _ _ h => h) (Or.inl ⟨by rfl, ?_⟩) hHeld ?_
    rotate_left
    · intro w' hSw
      (try dsimp only at hSw)
      go_simp
      try with_reducible rfl
    try simp only [Act.put, List.setIfInBounds_toArray, List.set_cons_zero, List.set_cons_succ]
    refine wpAnyH_take (i := 15) (oi := { dst := some 77, op := Op.fieldAddr 33 (Operand.tmp 76) 2, type := 0, pos := "laws.go:256", after := #[{ on := 14, ground := Ground.data }], guard := none }) (v := ?_) rfl (by kernel_rfl) (by kernel_rfl) (by kernel_rfl) (fun _ _ _ h => h) (Or.inl ⟨by rfl, ?_⟩) hHeld ?_
    rotate_left
    · intro w' hSw
      (try dsimp only at hSw)
      go_simp
      try with_reducible rfl
    try simp only [Act.put, List.setIfInBounds_toArray, List.set_cons_zero, List.set_cons_succ]
    refine wpAnyH_take (i := 16) (oi := { dst := some 78, op := Op.load 31 (Operand.tmp 77), type := 31, pos := "laws.go:256", after := #[{ on := 15, ground := Ground.data }], guard := none }) (v := ?_) rfl (by kernel_rfl) (by kernel_rfl) (by kernel_rfl) (fun _ _ _ h => h) (Or.inl ⟨by rfl, ?_⟩) hHeld ?_
    rotate_left
    · intro w' hSw
      (try dsimp only at hSw)
      go_simp
      try with_reducible rfl
    try simp only [Act.put, List.setIfInBounds_toArray, List.set_cons_zero, List.set_cons_succ]
    refine wpAnyH_take (i := 17) (oi := { dst := some 79, op := Op.indexAddr 31 (Operand.tmp 78) (Operand.const (Value.int IntKind.i64 0)), type := 0, pos := "laws.go:256", after := #[{ on := 16, ground := Ground.data }], guard := none }) (v := ?_) rfl (by kernel_rfl) (by kernel_rfl) (by kernel_rfl) (fun _ _ _ h => h) (Or.inl ⟨by rfl, ?_⟩) hHeld ?_
    rotate_left
    · intro w' hSw
      (try dsimp only at hSw)
      go_simp
      try with_reducible rfl
    try simp only [Act.put, List.setIfInBounds_toArray, List.set_cons_zero, List.set_cons_succ]
    refine wpAnyH_take (i := 18) (oi := { dst := some 80, op := Op.load 36 (Operand.tmp 79), type := 36, pos := "laws.go:256", after := #[{ on := 17, ground := Ground.data }], guard := none }) (v := ?_) rfl (by kernel_rfl) (by kernel_rfl) (by kernel_rfl) (fun _ _ _ h => h) (Or.inl ⟨by rfl, ?_⟩) hHeld ?_
    rotate_left
    · intro w' hSw
      (try dsimp only at hSw)
      go_simp
      try with_reducible rfl
    try simp only [Act.put, List.setIfInBounds_toArray, List.set_cons_zero, List.set_cons_succ]
    refine wpAnyH_ready (rs := [3, 19]) (by kernel_rfl) (by simp) ?_
    refine AllReadyH.cons (o := { dst := some 65, op := Op.buildSlice 31 0 #[], type := 31, pos := "laws.go:256", after := #[], guard := none }) rfl (fun K hK => ?_) ?_
    · go_simp
      have bA := below_box wE0 (.cells #[] 36)
      obtain ⟨gA, hgA⟩ : ∃ g, g = wE0.heap.size := ⟨_, rfl⟩
      have nA := block_new (w := wE0) (N := gA) #[] 36 hgA.symm
      have hgA2 : w13.heap.size ≤ gA := by have := bX.size; omega
      have bX := bX.trans (bA.mono bX.size)
      refine hK.out _ _ (HSD.out _ (bX.mono hgB)) (fun hHeld => ?_)
      clear hK K
      try simp only [Act.put, List.setIfInBounds_toArray, List.set_cons_zero, List.set_cons_succ]
      rw [← hgA]
      generalize wE0.alloc (.cells #[] 36) = wA1 at *
      clear hgA bA
      refine wpAnyH_ready (rs := [10, 19]) (by kernel_rfl) (by simp) ?_
      refine AllReadyH.cons (o := { dst := some 72, op := Op.call { callee := Callee.builtin Builtin.append, args := #[Operand.tmp 65, Operand.tmp 71], argTypes := #[31, 31] }, type := 31, pos := "laws.go:256", after := #[{ on := 3, ground := Ground.data }, { on := 9, ground := Ground.data }], guard := none }) rfl (fun K hK => ?_) ?_
      · refine step_append_all rfl (.tmp 65) (.tmp 71) 31 rfl w13.heap.size 36 iF _ 8 64 Tryd.underlying31 hiF hzF hsF hbF rfl (by omega) gA 0 0 [] rfl (own_nil 36 8 nA hgA2) (some ⟨fb, fo, none⟩) fl fcp (flat8 D fl) rfl (flat8_len _ _) (HAF.out _ (HW13.out _ bX)) HO8.out (by unfold maxLen; omega) (by omega) bX.size ?_
        intro g2 cap2 wF1 o1 gr1 at1
        simp only [Nat.zero_add, List.nil_append] at o1 ⊢
        try have nE := (gr1.block gE (Array.getElem?_eq_some_iff.1 nE).1 (fun e => HNEQ.out gE gA nE nA (Option.some.inj e))).trans nE
        have bX := bX.grown gr1 bX.size (fun q hq => by cases hq; exact hgA2)
        have O1 := hid_of o1
        clear o1 gr1 at1 nA
        try have nA := (bF.block gA (Array.getElem?_eq_some_iff.1 nA).1).trans nA
        refine hK.out _ _ (HSD.out _ (bX.mono hgB)) (fun hHeld => ?_)
        clear hK K
        try simp only [Act.put, List.setIfInBounds_toArray, List.set_cons_zero, List.set_cons_succ]
        refine wpAnyH_ready (rs := [19]) (by kernel_rfl) (by simp) ?_
        refine AllReadyH.cons (o := { dst := some 81, op := Op.buildSlice 31 1 #[(0, Operand.tmp 80)], type := 31, pos := "laws.go:256", after := #[{ on := 18, ground := Ground.data }], guard := none }) rfl (fun K hK => ?_) AllReadyH.nil
        go_simp
        have bE := below_box wF1 (.cells #[.string f0.name, .string f0.of, .bool f0.list, .bool f0.must, .bool f0.far, .bool f0.hidden, .bool f0.shared, .slice na f0.needs.length nc] 36)
        obtain ⟨gE, hgE⟩ : ∃ g, g = wF1.heap.size := ⟨_, rfl⟩
        have nE := block_new (w := wF1) (N := gE) #[.string f0.name, .string f0.of, .bool f0.list, .bool f0.must, .bool f0.far, .bool f0.hidden, .bool f0.shared, .slice na f0.needs.length nc] 36 hgE.symm
        have bX := bX.trans (bE.mono bX.size)
        try have nA := (bE.block gA (Array.getElem?_eq_some_iff.1 nA).1).trans nA
        try have O1 := hid_of (owns_keep' O1.out bE)
        refine hK.out _ _ (HSD.out _ (bX.mono hgB)) (fun hHeld => ?_)
        clear hK K
        try simp only [Act.put, List.setIfInBounds_toArray, List.set_cons_zero, List.set_cons_succ]
        rw [← hgE]
        generalize wF1.alloc (.cells #[.string f0.name, .string f0.of, .bool f0.list, .bool f0.must, .bool f0.far, .bool f0.hidden, .bool f0.shared, .slice na f0.needs.length nc] 36) = wE1 at *
        clear hgE bE
        refine wpAnyH_ready (rs := [20]) (by kernel_rfl) (by simp) ?_
        refine AllReadyH.cons (o := { dst := some 82, op := Op.call { callee := Callee.builtin Builtin.append, args := #[Operand.tmp 72, Operand.tmp 81], argTypes := #[31, 31] }, type := 31, pos := "laws.go:256", after := #[{ on := 10, ground := Ground.data }, { on := 19, ground := Ground.data }, { on := 10, ground := Ground.chain }], guard := none }) rfl (fun K hK => ?_) AllReadyH.nil
        refine step_append_all rfl (.tmp 72) (.tmp 81) 31 rfl w13.heap.size 36 iF _ 8 64 Tryd.underlying31 hiF hzF hsF hbF rfl (by omega) g2 fl cap2 (flat8 D fl) rfl O1.out (some ⟨gE, 0, none⟩) 1 1 [.string f0.name, .string f0.of, .bool f0.list, .bool f0.must, .bool f0.far, .bool f0.hidden, .bool f0.shared, .slice na f0.needs.length nc] rfl rfl (fun _ => ⟨_, rfl, World.news_of_block nE⟩) (by intro u hu; simp at hu; rcases hu with rfl | rfl | rfl | rfl | rfl | rfl | rfl | rfl <;> rfl) (by unfold maxLen; omega) (by omega) bX.size ?_
        intro gF capF wG1 oG grG atG
        have bX := bX.grown grG bX.size (fun q hq => by cases hq; exact (O1.out.lt g2 rfl).1)
        have HQ := hid_of oG
        clear oG grG atG O1 nE
        try have nA := (bG.block gA (Array.getElem?_eq_some_iff.1 nA).1).trans nA
        try have O1 := hid_of (owns_keep' O1.out bG)
        try have nE := (bG.block gE (Array.getElem?_eq_some_iff.1 nE).1).trans nE
        refine hK.out _ _ (HSD.out _ (bX.mono hgB)) (fun hHeld => ?_)
        clear hK K
        try simp only [Act.put, List.setIfInBounds_toArray, List.set_cons_zero, List.set_cons_succ]
        refine wpAnyH_take (i := 21) (oi := { dst := some 83, op := Op.indexAddr 23 (Operand.tmp 63) (Operand.tmp 64), type := 0, pos := "laws.go:256", after := #[{ on := 1, ground := Ground.data }, { on := 2, ground := Ground.data }, { on := 0, ground := Ground.phase }, { on := 1, ground := Ground.phase }, { on := 2, ground := Ground.phase }, { on := 3, ground := Ground.phase }, { on := 4, ground := Ground.phase }, { on := 5, ground := Ground.phase }, { on := 6, ground := Ground.phase }, { on := 7, ground := Ground.phase }, { on := 8, ground := Ground.phase }, { on := 9, ground := Ground.phase }, { on := 10, ground := Ground.phase }, { on := 11, ground := Ground.phase }, { on := 12, ground := Ground.phase }, { on := 13, ground := Ground.phase }, { on := 14, ground := Ground.phase }, { on := 15, ground := Ground.phase }, { on := 16, ground := Ground.phase }, { on := 17, ground := Ground.phase }, { on := 18, ground := Ground.phase }, { on := 19, ground := Ground.phase }, { on := 20, ground := Ground.phase }], guard := none }) (v := ?_) rfl (by kernel_rfl) (by kernel_rfl) (by kernel_rfl) (fun _ _ _ h => h) (Or.inl ⟨by rfl, ?_⟩) hHeld ?_
        rotate_left
        · intro w' hSw
          (try dsimp only at hSw)
          go_simp
          try with_reducible rfl
        try simp only [Act.put, List.setIfInBounds_toArray, List.set_cons_zero, List.set_cons_succ]
        refine wpAnyH_take (i := 22) (oi := { dst := some 84, op := Op.fieldAddr 33 (Operand.tmp 83) 2, type := 0, pos := "laws.go:256", after := #[{ on := 21, ground := Ground.data }, { on := 0, ground := Ground.phase }, { on := 1, ground := Ground.phase }, { on := 2, ground := Ground.phase }, { on := 3, ground := Ground.phase }, { on := 4, ground := Ground.phase }, { on := 5, ground := Ground.phase }, { on := 6, ground := Ground.phase }, { on := 7, ground := Ground.phase }, { on := 8, ground := Ground.phase }, { on := 9, ground := Ground.phase }, { on := 10, ground := Ground.phase }, { on := 11, ground := Ground.phase }, { on := 12, ground := Ground.phase }, { on := 13, ground := Ground.phase }, { on := 14, ground := Ground.phase }, { on := 15, ground := Ground.phase }, { on := 16, ground := Ground.phase }, { on := 17, ground := Ground.phase }, { on := 18, ground := Ground.phase }, { on := 19, ground := Ground.phase }, { on := 20, ground := Ground.phase }], guard := none }) (v := ?_) rfl (by kernel_rfl) (by kernel_rfl) (by kernel_rfl) (fun _ _ _ h => h) (Or.inl ⟨by rfl, ?_⟩) hHeld ?_
        rotate_left
        · intro w' hSw
          (try dsimp only at hSw)
          go_simp
          try with_reducible rfl
        try simp only [Act.put, List.setIfInBounds_toArray, List.set_cons_zero, List.set_cons_succ]
        refine wpAnyH_ready (rs := [23]) (by kernel_rfl) (by simp) ?_
        refine AllReadyH.cons (o := { dst := none, op := Op.store 31 (Operand.tmp 84) (Operand.tmp 82), type := 0, pos := "laws.go:256", after := #[{ on := 22, ground := Ground.data }, { on := 20, ground := Ground.data }, { on := 20, ground := Ground.chain }, { on := 0, ground := Ground.phase }, { on := 1, ground := Ground.phase }, { on := 2, ground := Ground.phase }, { on := 3, ground := Ground.phase }, { on := 4, ground := Ground.phase }, { on := 5, ground := Ground.phase }, { on := 6, ground := Ground.phase }, { on := 7, ground := Ground.phase }, { on := 8, ground := Ground.phase }, { on := 9, ground := Ground.phase }, { on := 10, ground := Ground.phase }, { on := 11, ground := Ground.phase }, { on := 12, ground := Ground.phase }, { on := 13, ground := Ground.phase }, { on := 14, ground := Ground.phase }, { on := 15, ground := Ground.phase }, { on := 16, ground := Ground.phase }, { on := 17, ground := Ground.phase }, { on := 18, ground := Ground.phase }, { on := 19, ground := Ground.phase }, { on := 20, ground := Ground.phase }], guard := none }) rfl (fun K hK => ?_) AllReadyH.nil
        obtain ⟨c1, z1⟩ := HTT.out _ bX
        go_simp
        clear c1 z1
        refine hK.out _ _ (HSD.out _ (Below.setCell (p := ⟨g1, k * 3 + 2, none⟩) (bX.mono hgB) (Nat.le_refl _) _)) (fun hHeld => ?_)
        clear hK K
        try simp only [Act.put, List.setIfInBounds_toArray, List.set_cons_zero, List.set_cons_succ]
        refine wpAnyH_done (by kernel_rfl) ?_ _
        have HFIN := HM2.out _ gF capF bX HQ.out
        have HF1 := hid_of HFIN.1
        have HF2 := hid_of HFIN.2
        clear HQ bX HFIN
        generalize wG1.setCell ⟨g1, k * 3 + 2, none⟩ (.slice (some ⟨gF, 0, none⟩) (fl + 1) capF) = wZ at *
        go_wp2_with fail
        go_meet
        case rel => exact ⟨HF1, HF2⟩
      refine AllReadyH.cons (o := { dst := some 81, op := Op.buildSlice 31 1 #[(0, Operand.tmp 80)], type := 31, pos := "laws.go:256", after := #[{ on := 18, ground := Ground.data }], guard := none }) rfl (fun K hK => ?_) AllReadyH.nil
      go_simp
      have bE := below_box wA1 (.cells #[.string f0.name, .string f0.of, .bool f0.list, .bool f0.must, .bool f0.far, .bool f0.hidden, .bool f0.shared, .slice na f0.needs.length nc] 36)
      obtain ⟨gE, hgE⟩ : ∃ g, g = wA1.heap.size := ⟨_, rfl⟩
      have nE := block_new (w := wA1) (N := gE) #[.string f0.name, .string f0.of, .bool f0.list, .bool f0.must, .bool f0.far, .bool f0.hidden, .bool f0.shared, .slice na f0.needs.length nc] 36 hgE.symm
      have bX := bX.trans (bE.mono bX.size)
      try have nA := (bE.block gA (Array.getElem?_eq_some_iff.1 nA).1).trans nA
      refine hK.out _ _ (HSD.out _ (bX.mono hgB)) (fun hHeld => ?_)
      clear hK K
      try simp only [Act.put, List.setIfInBounds_toArray, List.set_cons_zero, List.set_cons_succ]
      rw [← hgE]
      generalize wA1.alloc (.cells #[.string f0.name, .string f0.of, .bool f0.list, .bool f0.must, .bool f0.far, .bool f0.hidden, .bool f0.shared, .slice na f0.needs.length nc] 36) = wE1 at *
      clear hgE bE
      refine wpAnyH_ready (rs := [10]) (by kernel_rfl) (by simp) ?_
      refine AllReadyH.cons (o := { dst := some 72, op := Op.call { callee := Callee.builtin Builtin.append, args := #[Operand.tmp 65, Operand.tmp 71], argTypes := #[31, 31] }, type := 31, pos := "laws.go:256", after := #[{ on := 3, ground := Ground.data }, { on := 9, ground := Ground.data }], guard := none }) rfl (fun K hK => ?_) AllReadyH.nil
      refine step_append_all rfl (.tmp 65) (.tmp 71) 31 rfl w13.heap.size 36 iF _ 8 64 Tryd.underlying31 hiF hzF hsF hbF rfl (by omega) gA 0 0 [] rfl (own_nil 36 8 nA hgA2) (some ⟨fb, fo, none⟩) fl fcp (flat8 D fl) rfl (flat8_len _ _) (HAF.out _ (HW13.out _ bX)) HO8.out (by unfold maxLen; omega) (by omega) bX.size ?_
      intro g2 cap2 wF1 o1 gr1 at1
      simp only [Nat.zero_add, List.nil_append] at o1 ⊢
      try have nE := (gr1.block gE (Array.getElem?_eq_some_iff.1 nE).1 (fun e => HNEQ.out gE gA nE nA (Option.some.inj e))).trans nE
      have bX := bX.grown gr1 bX.size (fun q hq => by cases hq; exact hgA2)
      have O1 := hid_of o1
      clear o1 gr1 at1 nA
      try have nA := (bF.block gA (Array.getElem?_eq_some_iff.1 nA).1).trans nA
      try have nE := (bF.block gE (Array.getElem?_eq_some_iff.1 nE).1).trans nE
      refine hK.out _ _ (HSD.out _ (bX.mono hgB)) (fun hHeld => ?_)
      clear hK K
      try simp only [Act.put, List.setIfInBounds_toArray, List.set_cons_zero, List.set_cons_succ]
      refine wpAnyH_ready (rs := [20]) (by kernel_rfl) (by simp) ?_
      refine AllReadyH.cons (o := { dst := some 82, op := Op.call { callee := Callee.builtin Builtin.append, args := #[Operand.tmp 72, Operand.tmp 81], argTypes := #[31, 31] }, type := 31, pos := "laws.go:256", after := #[{ on := 10, ground := Ground.data }, { on := 19, ground := Ground.data }, { on := 10, ground := Ground.chain }], guard := none }) rfl (fun K hK => ?_) AllReadyH.nil
      refine step_append_all rfl (.tmp 72) (.tmp 81) 31 rfl w13.heap.size 36 iF _ 8 64 Tryd.underlying31 hiF hzF hsF hbF rfl (by omega) g2 fl cap2 (flat8 D fl) rfl O1.out (some ⟨gE, 0, none⟩) 1 1 [.string f0.name, .string f0.of, .bool f0.list, .bool f0.must, .bool f0.far, .bool f0.hidden, .bool f0.shared, .slice na f0.needs.length nc] rfl rfl (fun _ => ⟨_, rfl, World.news_of_block nE⟩) (by intro u hu; simp at hu; rcases hu with rfl | rfl | rfl | rfl | rfl | rfl | rfl | rfl <;> rfl) (by unfold maxLen; omega) (by omega) bX.size ?_
      intro gF capF wG1 oG grG atG
      have bX := bX.grown grG bX.size (fun q hq => by cases hq; exact (O1.out.lt g2 rfl).1)
      have HQ := hid_of oG
      clear oG grG atG O1 nE
      try have nA := (bG.block gA (Array.getElem?_eq_some_iff.1 nA).1).trans nA
      try have nE := (bG.block gE (Array.getElem?_eq_some_iff.1 nE).1).trans nE
      try have O1 := hid_of (owns_keep' O1.out bG)
      refine hK.out _ _ (HSD.out _ (bX.mono hgB)) (fun hHeld => ?_)
      clear hK K
      try simp only [Act.put, List.setIfInBounds_toArray, List.set_cons_zero, List.set_cons_succ]
      refine wpAnyH_take (i := 21) (oi := { dst := some 83, op := Op.indexAddr 23 (Operand.tmp 63) (Operand.tmp 64), type := 0, pos := "laws.go:256", after := #[{ on := 1, ground := Ground.data }, { on := 2, ground := Ground.data }, { on := 0, ground := Ground.phase }, { on := 1, ground := Ground.phase }, { on := 2, ground := Ground.phase }, { on := 3, ground := Ground.phase }, { on := 4, ground := Ground.phase }, { on := 5, ground := Ground.phase }, { on := 6, ground := Ground.phase }, { on := 7, ground := Ground.phase }, { on := 8, ground := Ground.phase }, { on := 9, ground := Ground.phase }, { on := 10, ground := Ground.phase }, { on := 11, ground := Ground.phase }, { on := 12, ground := Ground.phase }, { on := 13, ground := Ground.phase }, { on := 14, ground := Ground.phase }, { on := 15, ground := Ground.phase }, { on := 16, ground := Ground.phase }, { on := 17, ground := Ground.phase }, { on := 18, ground := Ground.phase }, { on := 19, ground := Ground.phase }, { on := 20, ground := Ground.phase }], guard := none }) (v := ?_) rfl (by kernel_rfl) (by kernel_rfl) (by kernel_rfl) (fun _ _ _ h => h) (Or.inl ⟨by rfl, ?_⟩) hHeld ?_
      rotate_left
      · intro w' hSw
        (try dsimp only at hSw)
        go_simp
        try with_reducible rfl
      try simp only [Act.put, List.setIfInBounds_toArray, List.set_cons_zero, List.set_cons_succ]
      refine wpAnyH_take (i := 22) (oi := { dst := some 84, op := Op.fieldAddr 33 (Operand.tmp 83) 2, type := 0, pos := "laws.go:256", after := #[{ on := 21, ground := Ground.data }, { on := 0, ground := Ground.phase }, { on := 1, ground := Ground.phase }, { on := 2, ground := Ground.phase }, { on := 3, ground := Ground.phase }, { on := 4, ground := Ground.phase }, { on := 5, ground := Ground.phase }, { on := 6, ground := Ground.phase }, { on := 7, ground := Ground.phase }, { on := 8, ground := Ground.phase }, { on := 9, ground := Ground.phase }, { on := 10, ground := Ground.phase }, { on := 11, ground := Ground.phase }, { on := 12, ground := Ground.phase }, { on := 13, ground := Ground.phase }, { on := 14, ground := Ground.phase }, { on := 15, ground := Ground.phase }, { on := 16, ground := Ground.phase }, { on := 17, ground := Ground.phase }, { on := 18, ground := Ground.phase }, { on := 19, ground := Ground.phase }, { on := 20, ground := Ground.phase }], guard := none }) (v := ?_) rfl (by kernel_rfl) (by kernel_rfl) (by kernel_rfl) (fun _ _ _ h => h) (Or.inl ⟨by rfl, ?_⟩) hHeld ?_
      rotate_left
      · intro w' hSw
        (try dsimp only at hSw)
        go_simp
        try with_reducible rfl
      try simp only [Act.put, List.setIfInBounds_toArray, List.set_cons_zero, List.set_cons_succ]
      refine wpAnyH_ready (rs := [23]) (by kernel_rfl) (by simp) ?_
      refine AllReadyH.cons (o := { dst := none, op := Op.store 31 (Operand.tmp 84) (Operand.tmp 82), type := 0, pos := "laws.go:256", after := #[{ on := 22, ground := Ground.data }, { on := 20, ground := Ground.data }, { on := 20, ground := Ground.chain }, { on := 0, ground := Ground.phase }, { on := 1, ground := Ground.phase }, { on := 2, ground := Ground.phase }, { on := 3, ground := Ground.phase }, { on := 4, ground := Ground.phase }, { on := 5, ground := Ground.phase }, { on := 6, ground := Ground.phase }, { on := 7, ground := Ground.phase }, { on := 8, ground := Ground.phase }, { on := 9, ground := Ground.phase }, { on := 10, ground := Ground.phase }, { on := 11, ground := Ground.phase }, { on := 12, ground := Ground.phase }, { on := 13, ground := Ground.phase }, { on := 14, ground := Ground.phase }, { on := 15, ground := Ground.phase }, { on := 16, ground := Ground.phase }, { on := 17, ground := Ground.phase }, { on := 18, ground := Ground.phase }, { on := 19, ground := Ground.phase }, { on := 20, ground := Ground.phase }], guard := none }) rfl (fun K hK => ?_) AllReadyH.nil
      obtain ⟨c1, z1⟩ := HTT.out _ bX
      go_simp
      clear c1 z1
      refine hK.out _ _ (HSD.out _ (Below.setCell (p := ⟨g1, k * 3 + 2, none⟩) (bX.mono hgB) (Nat.le_refl _) _)) (fun hHeld => ?_)
      clear hK K
      try simp only [Act.put, List.setIfInBounds_toArray, List.set_cons_zero, List.set_cons_succ]
      refine wpAnyH_done (by kernel_rfl) ?_ _
      have HFIN := HM2.out _ gF capF bX HQ.out
      have HF1 := hid_of HFIN.1
      have HF2 := hid_of HFIN.2
      clear HQ bX HFIN
      generalize wG1.setCell ⟨g1, k * 3 + 2, none⟩ (.slice (some ⟨gF, 0, none⟩) (fl + 1) capF) = wZ at *
      go_wp2_with fail
      go_meet
      case rel => exact ⟨HF1, HF2⟩
    refine AllReadyH.cons (o := { dst := some 81, op := Op.buildSlice 31 1 #[(0, Operand.tmp 80)], type := 31, pos := "laws.go:256", after := #[{ on := 18, ground := Ground.data }], guard := none }) rfl (fun K hK => ?_) AllReadyH.nil
    go_simp
    have bE := below_box wE0 (.cells #[.string f0.name, .string f0.of, .bool f0.list, .bool f0.must, .bool f0.far, .bool f0.hidden, .bool f0.shared, .slice na f0.needs.length nc] 36)
    obtain ⟨gE, hgE⟩ : ∃ g, g = wE0.heap.size := ⟨_, rfl⟩
    have nE := block_new (w := wE0) (N := gE) #[.string f0.name, .string f0.of, .bool f0.list, .bool f0.must, .bool f0.far, .bool f0.hidden, .bool f0.shared, .slice na f0.needs.length nc] 36 hgE.symm
    have bX := bX.trans (bE.mono bX.size)
    refine hK.out _ _ (HSD.out _ (bX.mono hgB)) (fun hHeld => ?_)
    clear hK K
    try simp only [Act.put, List.setIfInBounds_toArray, List.set_cons_zero, List.set_cons_succ]
    rw [← hgE]
    generalize wE0.alloc (.cells #[.string f0.name, .string f0.of, .bool f0.list, .bool f0.must, .bool f0.far, .bool f0.hidden, .bool f0.shared, .slice na f0.needs.length nc] 36) = wE1 at *
    clear hgE bE
    refine wpAnyH_ready (rs := [3]) (by kernel_rfl) (by simp) ?_
    refine AllReadyH.cons (o := { dst := some 65, op := Op.buildSlice 31 0 #[], type := 31, pos := "laws.go:256", after := #[], guard := none }) rfl (fun K hK => ?_) AllReadyH.nil
    go_simp
    have bA := below_box wE1 (.cells #[] 36)
    obtain ⟨gA, hgA⟩ : ∃ g, g = wE1.heap.size := ⟨_, rfl⟩
    have nA := block_new (w := wE1) (N := gA) #[] 36 hgA.symm
    have hgA2 : w13.heap.size ≤ gA := by have := bX.size; omega
    have bX := bX.trans (bA.mono bX.size)
    try have nE := (bA.block gE (Array.getElem?_eq_some_iff.1 nE).1).trans nE
    refine hK.out _ _ (HSD.out _ (bX.mono hgB)) (fun hHeld => ?_)
    clear hK K
    try simp only [Act.put, List.setIfInBounds_toArray, List.set_cons_zero, List.set_cons_succ]
    rw [← hgA]
    generalize wE1.alloc (.cells #[] 36) = wA1 at *
    clear hgA bA
    refine wpAnyH_ready (rs := [10]) (by kernel_rfl) (by simp) ?_
    refine AllReadyH.cons (o := { dst := some 72, op := Op.call { callee := Callee.builtin Builtin.append, args := #[Operand.tmp 65, Operand.tmp 71], argTypes := #[31, 31] }, type := 31, pos := "laws.go:256", after := #[{ on := 3, ground := Ground.data }, { on := 9, ground := Ground.data }], guard := none }) rfl (fun K hK => ?_) AllReadyH.nil
    refine step_append_all rfl (.tmp 65) (.tmp 71) 31 rfl w13.heap.size 36 iF _ 8 64 Tryd.underlying31 hiF hzF hsF hbF rfl (by omega) gA 0 0 [] rfl (own_nil 36 8 nA hgA2) (some ⟨fb, fo, none⟩) fl fcp (flat8 D fl) rfl (flat8_len _ _) (HAF.out _ (HW13.out _ bX)) HO8.out (by unfold maxLen; omega) (by omega) bX.size ?_
    intro g2 cap2 wF1 o1 gr1 at1
    simp only [Nat.zero_add, List.nil_append] at o1 ⊢
    try have nE := (gr1.block gE (Array.getElem?_eq_some_iff.1 nE).1 (fun e => HNEQ.out gE gA nE nA (Option.some.inj e))).trans nE
    have bX := bX.grown gr1 bX.size (fun q hq => by cases hq; exact hgA2)
    have O1 := hid_of o1
    clear o1 gr1 at1 nA
    try have nE := (bF.block gE (Array.getElem?_eq_some_iff.1 nE).1).trans nE
    try have nA := (bF.block gA (Array.getElem?_eq_some_iff.1 nA).1).trans nA
    refine hK.out _ _ (HSD.out _ (bX.mono hgB)) (fun hHeld => ?_)
    clear hK K
    try simp only [Act.put, List.setIfInBounds_toArray, List.set_cons_zero, List.set_cons_succ]
    refine wpAnyH_ready (rs := [20]) (by kernel_rfl) (by simp) ?_
    refine AllReadyH.cons (o := { dst := some 82, op := Op.call { callee := Callee.builtin Builtin.append, args := #[Operand.tmp 72, Operand.tmp 81], argTypes := #[31, 31] }, type := 31, pos := "laws.go:256", after := #[{ on := 10, ground := Ground.data }, { on := 19, ground := Ground.data }, { on := 10, ground := Ground.chain }], guard := none }) rfl (fun K hK => ?_) AllReadyH.nil
    refine step_append_all rfl (.tmp 72) (.tmp 81) 31 rfl w13.heap.size 36 iF _ 8 64 Tryd.underlying31 hiF hzF hsF hbF rfl (by omega) g2 fl cap2 (flat8 D fl) rfl O1.out (some ⟨gE, 0, none⟩) 1 1 [.string f0.name, .string f0.of, .bool f0.list, .bool f0.must, .bool f0.far, .bool f0.hidden, .bool f0.shared, .slice na f0.needs.length nc] rfl rfl (fun _ => ⟨_, rfl, World.news_of_block nE⟩) (by intro u hu; simp at hu; rcases hu with rfl | rfl | rfl | rfl | rfl | rfl | rfl | rfl <;> rfl) (by unfold maxLen; omega) (by omega) bX.size ?_
    intro gF capF wG1 oG grG atG
    have bX := bX.grown grG bX.size (fun q hq => by cases hq; exact (O1.out.lt g2 rfl).1)
    have HQ := hid_of oG
    clear oG grG atG O1 nE
    try have nE := (bG.block gE (Array.getElem?_eq_some_iff.1 nE).1).trans nE
    try have nA := (bG.block gA (Array.getElem?_eq_some_iff.1 nA).1).trans nA
    try have O1 := hid_of (owns_keep' O1.out bG)
    refine hK.out _ _ (HSD.out _ (bX.mono hgB)) (fun hHeld => ?_)
    clear hK K
    try simp only [Act.put, List.setIfInBounds_toArray, List.set_cons_zero, List.set_cons_succ]
    refine wpAnyH_take (i := 21) (oi := { dst := some 83, op := Op.indexAddr 23 (Operand.tmp 63) (Operand.tmp 64), type := 0, pos := "laws.go:256", after := #[{ on := 1, ground := Ground.data }, { on := 2, ground := Ground.data }, { on := 0, ground := Ground.phase }, { on := 1, ground := Ground.phase }, { on := 2, ground := Ground.phase }, { on := 3, ground := Ground.phase }, { on := 4, ground := Ground.phase }, { on := 5, ground := Ground.phase }, { on := 6, ground := Ground.phase }, { on := 7, ground := Ground.phase }, { on := 8, ground := Ground.phase }, { on := 9, ground := Ground.phase }, { on := 10, ground := Ground.phase }, { on := 11, ground := Ground.phase }, { on := 12, ground := Ground.phase }, { on := 13, ground := Ground.phase }, { on := 14, ground := Ground.phase }, { on := 15, ground := Ground.phase }, { on := 16, ground := Ground.phase }, { on := 17, ground := Ground.phase }, { on := 18, ground := Ground.phase }, { on := 19, ground := Ground.phase }, { on := 20, ground := Ground.phase }], guard := none }) (v := ?_) rfl (by kernel_rfl) (by kernel_rfl) (by kernel_rfl) (fun _ _ _ h => h) (Or.inl ⟨by rfl, ?_⟩) hHeld ?_
    rotate_left
    · intro w' hSw
      (try dsimp only at hSw)
      go_simp
      try with_reducible rfl
    try simp only [Act.put, List.setIfInBounds_toArray, List.set_cons_zero, List.set_cons_succ]
    refine wpAnyH_take (i := 22) (oi := { dst := some 84, op := Op.fieldAddr 33 (Operand.tmp 83) 2, type := 0, pos := "laws.go:256", after := #[{ on := 21, ground := Ground.data }, { on := 0, ground := Ground.phase }, { on := 1, ground := Ground.phase }, { on := 2, ground := Ground.phase }, { on := 3, ground := Ground.phase }, { on := 4, ground := Ground.phase }, { on := 5, ground := Ground.phase }, { on := 6, ground := Ground.phase }, { on := 7, ground := Ground.phase }, { on := 8, ground := Ground.phase }, { on := 9, ground := Ground.phase }, { on := 10, ground := Ground.phase }, { on := 11, ground := Ground.phase }, { on := 12, ground := Ground.phase }, { on := 13, ground := Ground.phase }, { on := 14, ground := Ground.phase }, { on := 15, ground := Ground.phase }, { on := 16, ground := Ground.phase }, { on := 17, ground := Ground.phase }, { on := 18, ground := Ground.phase }, { on := 19, ground := Ground.phase }, { on := 20, ground := Ground.phase }], guard := none }) (v := ?_) rfl (by kernel_rfl) (by kernel_rfl) (by kernel_rfl) (fun _ _ _ h => h) (Or.inl ⟨by rfl, ?_⟩) hHeld ?_
    rotate_left
    · intro w' hSw
      (try dsimp only at hSw)
      go_simp
      try with_reducible rfl
    try simp only [Act.put, List.setIfInBounds_toArray, List.set_cons_zero, List.set_cons_succ]
    refine wpAnyH_ready (rs := [23]) (by kernel_rfl) (by simp) ?_
    refine AllReadyH.cons (o := { dst := none, op := Op.store 31 (Operand.tmp 84) (Operand.tmp 82), type := 0, pos := "laws.go:256", after := #[{ on := 22, ground := Ground.data }, { on := 20, ground := Ground.data }, { on := 20, ground := Ground.chain }, { on := 0, ground := Ground.phase }, { on := 1, ground := Ground.phase }, { on := 2, ground := Ground.phase }, { on := 3, ground := Ground.phase }, { on := 4, ground := Ground.phase }, { on := 5, ground := Ground.phase }, { on := 6, ground := Ground.phase }, { on := 7, ground := Ground.phase }, { on := 8, ground := Ground.phase }, { on := 9, ground := Ground.phase }, { on := 10, ground := Ground.phase }, { on := 11, ground := Ground.phase }, { on := 12, ground := Ground.phase }, { on := 13, ground := Ground.phase }, { on := 14, ground := Ground.phase }, { on := 15, ground := Ground.phase }, { on := 16, ground := Ground.phase }, { on := 17, ground := Ground.phase }, { on := 18, ground := Ground.phase }, { on := 19, ground := Ground.phase }, { on := 20, ground := Ground.phase }], guard := none }) rfl (fun K hK => ?_) AllReadyH.nil
    obtain ⟨c1, z1⟩ := HTT.out _ bX
    go_simp
    clear c1 z1
    refine hK.out _ _ (HSD.out _ (Below.setCell (p := ⟨g1, k * 3 + 2, none⟩) (bX.mono hgB) (Nat.le_refl _) _)) (fun hHeld => ?_)
    clear hK K
    try simp only [Act.put, List.setIfInBounds_toArray, List.set_cons_zero, List.set_cons_succ]
    refine wpAnyH_done (by kernel_rfl) ?_ _
    have HFIN := HM2.out _ gF capF bX HQ.out
    have HF1 := hid_of HFIN.1
    have HF2 := hid_of HFIN.2
    clear HQ bX HFIN
    generalize wG1.setCell ⟨g1, k * 3 + 2, none⟩ (.slice (some ⟨gF, 0, none⟩) (fl + 1) capF) = wZ at *
    go_wp2_with fail
    go_meet
    case rel => exact ⟨HF1, HF2⟩
  case rest =>
  obtain ⟨HYE, HXE2⟩ := hcut
  obtain ⟨w14, rfl⟩ : ∃ x, x = wc := ⟨wc, rfl⟩
  obtain ⟨q1, hq1⟩ : ∃ q, q = (⟨p.name, p.types ++ [tth p.types k]⟩ : Pt) := ⟨_, rfl⟩
  obtain ⟨q2, hq2⟩ : ∃ q, q = (⟨p.name, p.types.set k ⟨tn, tk, (tth p.types k).fields ++ [f0]⟩⟩ : Pt) := ⟨_, rfl⟩
  rw [← hq1] at HXE2 HZ1
  rw [← hq2] at HYE HZ2
  obtain ⟨Y, hYe⟩ : ∃ x, x = w10.heap.size := ⟨_, rfl⟩
  rw [← hYe] at HYE ⊢
  obtain ⟨gx, cx, nx, px, bx, ltx⟩ := HXE2.out
  obtain ⟨gy, cy, ny, py, -, lty⟩ := HYE.out
  have HHG : Hid (∀ W, Below w14.heap.size w14 W → Handle W) := hid_of fun W hW => (HX.out W (bx.trans (hW.mono bx.size))).1
  have HXI := hid_of (fun W (hW : Below w14.heap.size w14 W) => PartCheckI_any q1 W w14.heap.size _ (HHG.out W hW) (px.under hW) hW.size HZ1.out.1)
  have HXS := hid_of (fun W (hW : Below w14.heap.size w14 W) => PartCheckS_any q1 W w14.heap.size _ (px.under hW) hW.size HZ1.out.1)
  have HYI := hid_of (fun W (hW : Below w14.heap.size w14 W) => PartCheckI_any q2 W w14.heap.size _ (HHG.out W hW) (py.under hW) hW.size HZ2.out.1)
  have HYS := hid_of (fun W (hW : Below w14.heap.size w14 W) => PartCheckS_any q2 W w14.heap.size _ (py.under hW) hW.size HZ2.out.1)
  have HCX : Hid (∀ W, Below w14.heap.size w14 W → W.cell? ⟨X, 0, none⟩ = some (.string q1.name) ∧ W.cell? ⟨X, 1, none⟩ = some (.slice (some ⟨gx, 0, none⟩) q1.types.length cx)) := hid_of fun W hW => ⟨(box_at ((hW.block X ltx).trans nx) 0 (by simp)).1, (box_at ((hW.block X ltx).trans nx) 1 (by simp)).1⟩
  have HCY : Hid (∀ W, Below w14.heap.size w14 W → W.cell? ⟨Y, 0, none⟩ = some (.string q2.name) ∧ W.cell? ⟨Y, 1, none⟩ = some (.slice (some ⟨gy, 0, none⟩) q2.types.length cy)) := hid_of fun W hW => ⟨(box_at ((hW.block Y lty).trans ny) 0 (by simp)).1, (box_at ((hW.block Y lty).trans ny) 1 (by simp)).1⟩
  rw [hXe] at HCX
  have HBE : Hid (∀ W, Below w14.heap.size w14 W → Below w.heap.size w W) := hid_of fun W hW => HB1.out.trans ((bx.trans (hW.mono bx.size)).mono HB1.out.size)
  obtain ⟨xa, xc, HFX⟩ : ∃ a c, Hid (partFault q1 = (a, c)) := ⟨_, _, rfl⟩
  obtain ⟨ya, yc, HFY⟩ : ∃ a c, Hid (partFault q2 = (a, c)) := ⟨_, _, rfl⟩
  rw [HFX.out] at HXI HXS HZ1
  rw [HFY.out] at HYI HYS HZ2
  have hx0 : ¬ xc = 0 := HZ1.out.2
  have hy0 : ¬ yc = 0 := HZ2.out.2
  have hx1 : (xc != 0) = true := by simpa using hx0
  have hy1 : (yc != 0) = true := by simpa using hy0
  obtain ⟨u0, u1⟩ := HCX.out w14 (Below.refl _ _)
  clear HSD HNEQ HTT HM2 HW13 HXE HXE2 HYE HX HW1 HTC HFC HRT HRF HAT HAF HO3 HO8 HD0 HK012 nY13 o13 b13 b213 hg1 hgB hYg nx px bx ltx ny py lty hq1 hq2 hYe
  have hFX := field_code (.int .i64 xa) (.int .i64 xc)
  have hFY := field_code (.int .i64 ya) (.int .i64 yc)
  go_upto_region 15 with (
    go_at_call 5
    refine (HXI.out w14 (Below.refl _ _)).mono ?_
    rintro e w15 ⟨rfl, b15⟩
    obtain ⟨v0, v1⟩ := HCY.out w15 b15)
  go_upto_region 16 with (
    go_at_call 5
    refine (HYI.out w15 b15).mono ?_
    rintro e w16 ⟨rfl, b16⟩
    have b16 := b15.trans (b16.mono b15.size)
    obtain ⟨m0, m1⟩ := HCX.out w16 b16)
  go_wp2_with (
    first
      | (
        go_at_call_of 6 (Value.string q1.name)
        refine (HXS.out w16 b16).mono ?_
        rintro e w17 ⟨rfl, b17⟩
        have b17 := b16.trans (b17.mono b16.size)
        obtain ⟨r0, r1⟩ := HCY.out w17 b17)
      | (
        go_at_call_of 6 (Value.string q2.name)
        refine (HYS.out w17 b17).mono ?_
        rintro e w18 ⟨rfl, b18⟩
        have b18 := b17.trans (b18.mono b17.size)))
  go_ret
  exact ⟨rfl, HBE.out _ b18⟩

theorem twice_walk (w : World) (v u : Value) (cb n m c : Nat) (b : Option Addr) (hg : Handle w) (h : CodeOk w cb v n) (hu : u = .slice b m c) :
    Calls Tryd.prog 3 #[v, u] w fun e w' => e = .returned (.bool true) ∧ Below w.heap.size w w' := by
  by_cases hb : 1048576 < n ∨ 1048576 < m
  · obtain ⟨a, d, off, rfl, -⟩ := h
    exact twice_great w _ u a b n m d c rfl hu hb
  · subst hu
    exact twice_small w cb n m c v b hg h (by omega) (by omega)
end Go.Proofs.YtibpieomldhomaaDoor
