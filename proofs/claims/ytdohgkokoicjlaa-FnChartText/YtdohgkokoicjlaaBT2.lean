import Derived.Test.YtdohgkokoicjlaaBT1
import Derived.Test.YtdohgkokoicjlaaB35
set_option linter.unusedSimpArgs false
set_option linter.unusedVariables false
namespace Go.Proofs.Ytdohgkokoicjlaa
open Go.RowKit Go.Maps
theorem seenFs_mem {P : F → Prop} {fs : List F} : ∀ k, (∀ j, j < k → P (seenF (fth fs j))) → ∀ i, i < (seenFs fs k).length → P (fth (seenFs fs k) i)
  | 0, _, i, hi => absurd hi (Nat.not_lt_zero _)
  | k + 1, h, i, hi => by
    have ih := seenFs_mem k fun j hj => h j (by omega)
    rw [seenFs] at hi ⊢
    cases hh : (fth fs k).hidden
    · rw [hh] at hi
      simp only [Bool.false_eq_true, if_false, List.length_append, List.length_singleton] at hi ⊢
      by_cases e : i < (seenFs fs k).length
      · rw [fth_snoc_lt _ _ _ e]; exact ih i e
      · have : i = (seenFs fs k).length := by omega
        subst this
        rw [fth_snoc_eq]
        exact h k (by omega)
    · rw [hh] at hi
      simp only [if_true, List.append_nil] at hi ⊢
      exact ih i hi
structure SeeSt (wK : World) (tn : ByteArray) (L : List F) (wr : World) : Prop where
  ex : ∃ (fa : Option Addr) (fc : Nat), wr.heap[wK.heap.size]? = some (.cells #[.string tn, .string ⟨#[]⟩, .slice fa L.length fc] 48 (0, 0)) ∧ wr.ownsRow (wK.heap.size + 1) 37 8 (.slice fa L.length fc) L.length (flatF L)
  bel : Below wK.heap.size wK wr
  lt : wK.heap.size < wr.heap.size
theorem SeeSt.start (wK : World) (tn : ByteArray) : SeeSt wK tn [] (wK.alloc (.cells #[.string tn, .string ⟨#[]⟩, .slice none 0 0] 48)) :=
  ⟨⟨none, 0, block_new _ _ rfl, World.ownsRow_nil _ _ _ _⟩, below_box _ _, by simp⟩
theorem SeeSt.keep {wK wr wy : World} {tn : ByteArray} {L : List F} (h : SeeSt wK tn L wr) (hb : Below wr.heap.size wr wy) : SeeSt wK tn L wy := by
  obtain ⟨fa, fc, h1, h2⟩ := h.ex
  have := h.lt
  exact ⟨⟨fa, fc, (hb.block _ this).trans h1, owns_keep' h2 hb⟩, h.bel.trans (hb.mono (by omega)), by have := hb.size; omega⟩
theorem SeeSt.push {wK wx wF : World} {tn : ByteArray} {L : List F} {fa : Option Addr} {fc g cap : Nat} {f : F} (h1 : wx.heap[wK.heap.size]? = some (.cells #[.string tn, .string ⟨#[]⟩, .slice fa L.length fc] 48 (0, 0))) (hr : wx.ownsRow (wK.heap.size + 1) 37 8 (.slice fa L.length fc) L.length (flatF L)) (hb : Below wK.heap.size wK wx) (hl : wK.heap.size < wx.heap.size)
    (ho : wF.ownsRow (wK.heap.size + 1) 37 8 (.slice (some ⟨g, 0, none⟩) (L.length + 1) cap) (L.length + 1) (flatF L ++ cellF f)) (hg : wx.grownBy wF (Value.slice fa L.length fc).ownBlock) :
    SeeSt wK tn (L ++ [f]) (wF.setCell ⟨wK.heap.size, 2, none⟩ (.slice (some ⟨g, 0, none⟩) (L.length + 1) cap)) ∧ wF.heap[wK.heap.size]? = some (.cells #[.string tn, .string ⟨#[]⟩, .slice fa L.length fc] 48 (0, 0)) := by
  have hMo : ∀ b, (Value.slice fa L.length fc).ownBlock = some b → wK.heap.size + 1 ≤ b := fun b hb => (hr.lt b hb).1
  have hM : wF.heap[wK.heap.size]? = some (.cells #[.string tn, .string ⟨#[]⟩, .slice fa L.length fc] 48 (0, 0)) := (hg.block _ hl fun e => by have := hMo _ e.symm; omega).trans h1
  refine ⟨⟨⟨some ⟨g, 0, none⟩, cap, ?_, ?_⟩, ?_, ?_⟩, hM⟩
  · rw [List.length_append, List.length_singleton]
    simpa using set_box hM 2 (.slice (some ⟨g, 0, none⟩) (L.length + 1) cap)
  · rw [List.length_append, List.length_singleton, flatF_app]
    exact ownsRow_setCell_below ho (a := ⟨wK.heap.size, 2, none⟩) (Nat.lt_succ_self _) _
  · exact (hb.grown hg (Nat.le_of_lt hl) fun k hk => by have := hMo k hk; omega).setCell (p := ⟨wK.heap.size, 2, none⟩) (Nat.le_refl _) _
  · have := hg.size; simp; omega
set_option maxRecDepth 20000 in
set_option maxHeartbeats 3200000 in
theorem ChartTextS_any (c : Ch) (w : World) (B : Nat) (v : Value) (hR : CRep w (· < B) c v) (hB : B ≤ w.heap.size) (hz : szC c ≤ 1048576) (hA : okP c.all = true → c.all.name = ⟨#[97]⟩) :
    Calls Try.prog 14 #[v] w fun e w' => e = .returned (.string (if okP c.all = true then ⟨(partL (seenP c.all)).toArray⟩ else ByteArray.empty)) ∧ Below w.heap.size w w' := by
  obtain ⟨ta, oa, tc, oc, rfl, hP, -, -⟩ := hR
  obtain ⟨A, owners⟩ := c
  simp only at hP hA ⊢
  have hzP : szP A ≤ 1048576 := by have : szC ⟨A, owners⟩ = szP A + szOs owners := rfl; omega
  clear hz
  have bX := below_box w (.cells #[.string A.name, .slice ta A.types.length tc, .slice oa owners.length oc] 28)
  have nX := block_new (w := w) (N := w.heap.size) #[.string A.name, .slice ta A.types.length tc, .slice oa owners.length oc] 28 rfl
  have zX : w.heap.size < (w.alloc (.cells #[.string A.name, .slice ta A.types.length tc, .slice oa owners.length oc] 28)).heap.size := by simp
  have HC := hid_of (fun W (h : Below w.heap.size w W) => PartCheckS_any A W B _ (hP.under (h.mono hB)) (by have := h.size; omega) hzP)
  have HPF := partFault_ok A
  obtain ⟨l, HL⟩ : ∃ l, Hid (l = A.types.length) := ⟨_, hid_of rfl⟩
  rw [← HL.out] at HC bX nX zX ⊢
  have HLM : Hid (l ≤ 1048576) := hid_of (by rw [HL.out]; have h2 : szP A = A.name.size + (A.types.length + szTsTo A.types A.types.length) := rfl; omega)
  have HTT : Hid (∀ k, k < l → ∃ (b off : Nat) (fa : Option Addr) (fc : Nat), ta = some ⟨b, off, none⟩ ∧ (∀ W, Below w.heap.size w W → W.cell? ⟨b, off + k * 3, none⟩ = some (.string (tth A.types k).name) ∧ W.cell? ⟨b, off + k * 3 + 2, none⟩ = some (.slice fa (tth A.types k).fields.length fc)) ∧ (tth A.types k).name.size ≤ maxLen ∧ (tth A.types k).fields.length ≤ 1048576 ∧ (∀ j, j < (tth A.types k).fields.length → (fth (tth A.types k).fields j).name.size ≤ maxLen ∧ (fth (tth A.types k).fields j).of.size ≤ maxLen) ∧ ∀ j, j < (tth A.types k).fields.length → ∃ (fb fo : Nat) (na : Option Addr) (nc : Nat), fa = some ⟨fb, fo, none⟩ ∧ ∀ W, Below w.heap.size w W → W.cell? ⟨fb, fo + j * 8, none⟩ = some (.string (fth (tth A.types k).fields j).name) ∧ W.cell? ⟨fb, fo + j * 8 + 1, none⟩ = some (.string (fth (tth A.types k).fields j).of) ∧ W.cell? ⟨fb, fo + j * 8 + 2, none⟩ = some (.bool (fth (tth A.types k).fields j).list) ∧ W.cell? ⟨fb, fo + j * 8 + 3, none⟩ = some (.bool (fth (tth A.types k).fields j).must) ∧ W.cell? ⟨fb, fo + j * 8 + 4, none⟩ = some (.bool (fth (tth A.types k).fields j).far) ∧ W.cell? ⟨fb, fo + j * 8 + 5, none⟩ = some (.bool (fth (tth A.types k).fields j).hidden) ∧ W.cell? ⟨fb, fo + j * 8 + 6, none⟩ = some (.bool (fth (tth A.types k).fields j).shared) ∧ W.cell? ⟨fb, fo + j * 8 + 7, none⟩ = some (.slice na (fth (tth A.types k).fields j).needs.length nc)) := hid_of fun k hk => by
    rw [HL.out] at hk
    obtain ⟨ta', tc', e, hT, -⟩ := hP
    simp only [Value.agg.injEq, Array.mk.injEq, List.cons.injEq, Value.slice.injEq, true_and, and_true] at e
    obtain ⟨rfl, rfl⟩ := e
    obtain ⟨b, off, fa, fc, rfl, hTR, hc⟩ := hT.at hB k hk
    obtain ⟨fa', fc', e, hF, -, hn1, -⟩ := hTR
    simp only [Value.agg.injEq, Array.mk.injEq, List.cons.injEq, Value.slice.injEq, true_and, and_true] at e
    obtain ⟨rfl, rfl⟩ := e
    have h2 := szT_le A k hk hzP
    have h3 : szT (tth A.types k) = (tth A.types k).name.size + (tth A.types k).key.size + ((tth A.types k).fields.length + szFsTo (tth A.types k).fields (tth A.types k).fields.length) := rfl
    refine ⟨b, off, fa, fc, rfl, fun W hW => ⟨(hc W hW).1, (hc W hW).2.2⟩, hn1, by omega, fun j hj => ?_, fun j hj => ?_⟩
    · obtain ⟨-, C, -, hr⟩ := hF
      obtain ⟨_, _, _, _, _, h1, h2, _⟩ := hr j hj
      exact ⟨h1, h2⟩
    · obtain ⟨fb, fo, na, nc, e, -, hcf⟩ := hF.at hB j hj
      exact ⟨fb, fo, na, nc, e, hcf⟩
  clear hP
  obtain ⟨nm, HN⟩ : ∃ x, Hid (x = A.name) := ⟨_, hid_of rfl⟩
  rw [← HN.out] at HC bX nX zX ⊢
  obtain ⟨fa, fc, HFP⟩ : ∃ fa fc, Hid (partFault A = (fa, fc)) := ⟨_, _, rfl⟩
  rw [HFP.out] at HC HPF
  have hF := field_code (.int .i64 fa) (.int .i64 fc)
  cases ho : okP A
  · have hfc : ¬ fc = 0 := fun h => by rw [HPF.1 h] at ho; cases ho
    rw [if_neg (by simp)]
    clear HPF
    go_enter Try.func14, Try.ntmps14
    go_wp2_with (
      go_at_call 15
      refine (HC.out _ bX).mono ?_
      rintro e w1 ⟨rfl, hb1⟩)
    go_ret
    exact ⟨rfl, bX.trans (hb1.mono (by simp))⟩
  · obtain rfl := HPF.2 ho
    rw [if_pos rfl]
    have hnm := hid_of (hA ho)
    have HTX : Hid (∀ W v, PRep W (· < W.heap.size) ⟨⟨#[97]⟩, seenTs A.types A.types.length⟩ v → Calls Try.prog 22 #[v] W fun e w' => e = .returned (.string ⟨(partL (seenP A)).toArray⟩) ∧ Below W.heap.size W w') := hid_of fun W v hv => by
      have e : (⟨⟨#[97]⟩, seenTs A.types A.types.length⟩ : Pt) = seenP A := by rw [seenP, hnm.out]
      rw [e] at hv
      exact l2Write_any (seenP A) W W.heap.size v hv (Nat.le_refl _) (Nat.le_trans (seenP_sz A) hzP)
    generalize (⟨(partL (seenP A)).toArray⟩ : ByteArray) = tx at HTX ⊢
    clear hA HPF
    go_enter Try.func14, Try.ntmps14
    obtain ⟨N, hN⟩ : ∃ x, x = w.heap.size := ⟨_, rfl⟩
    go_upto_if 12 with (
      go_at_call 15
      refine (HC.out _ bX).mono ?_
      rintro e w1 ⟨rfl, hb1⟩)
    have bw1 : Below w.heap.size w w1 := bX.trans (hb1.mono (by omega))
    have n1 := (hb1.block w.heap.size zX).trans nX
    have z1 := hb1.size
    clear nX bX HC hb1
    obtain ⟨p0, -⟩ := box_at n1 0 (by simp)
    simp only [List.getElem_toArray, List.getElem_cons_zero] at p0
    go_upto_region 4 with fail
    clear p0
    have bM := below_box w1 (.cells #[.string nm, .slice none 0 0] 25)
    have HM0 := hid_of (TolSt.start w1 nm w1.heap.size rfl)
    have HPB : Hid (∀ W, Below w1.heap.size w1 W → W.cell? ⟨w.heap.size, 1, none⟩ = some (.slice ta l tc)) := hid_of fun W hW => (box_at ((hW.block w.heap.size (by omega)).trans n1) 1 (by simp)).1
    have HBW : Hid (∀ W, Below w1.heap.size w1 W → Below w.heap.size w W) := hid_of fun W hW => bw1.trans (hW.mono (by omega))
    generalize w1.alloc (.cells #[.string nm, .slice none 0 0] 25) = w2 at *
    clear n1 bM bw1
    go_wp2_with fail
    go_loopw [4] (fun i wr => ∃ k : Nat, k ≤ l ∧ i = .int .i64 k ∧ Hid (TolSt w1 w1.heap.size nm (seenTs A.types k) wr)) (fun i _ => l - (intOf i).toNat)
    case atStart => exact ⟨0, Nat.zero_le _, rfl, HM0⟩
    case round =>
      clear HM0
      obtain ⟨k, hk, rfl, HK⟩ := hrel
      obtain ⟨wK, rfl⟩ : ∃ x, x = wr := ⟨wr, rfl⟩
      have bK := HK.out.bel
      have hlM := HLM.out
      have p1 := HPB.out wK bK
      by_cases hlt : k < l
      case neg =>
        have hki : ¬ (k : Int) < (l : Int) := by omega
        have e : k = A.types.length := by rw [← HL.out]; omega
        have HK2 : Hid (TolSt w1 w1.heap.size ⟨#[97]⟩ (seenTs A.types A.types.length) wK) := hid_of (by rw [← e, ← hnm.out, ← HN.out]; exact HK.out)
        obtain ⟨ov, hM, hPP⟩ := HK2.out.part (by have := seenTs_len A.types A.types.length; rw [← HL.out] at this ⊢; have := HLM.out; omega)
        have HT := hid_of (HTX.out wK _ hPP)
        obtain ⟨q0, -⟩ := box_at hM 0 (by simp)
        obtain ⟨q1, -⟩ := box_at hM 1 (by simp)
        simp only [List.getElem_toArray, List.getElem_cons_zero, List.getElem_cons_succ] at q0 q1
        have HBK := hid_of (HBW.out wK bK)
        clear hPP hM e
        go_wp2_with (
          go_at_call 22
          refine HT.out.mono ?_
          rintro e w3 ⟨rfl, hb3⟩)
        go_ret
        exact ⟨rfl, HBK.out.trans (hb3.mono HBK.out.size)⟩
      case pos =>
        have hki : (k : Int) < (l : Int) := by omega
        obtain ⟨b, off, fa, fc, rfl, hTC, hns, hfl, hfsz, hFC⟩ := HTT.out k hlt
        obtain ⟨t0, t2⟩ := hTC wK (HBW.out wK bK)
        have HTC := hid_of hTC
        have HFC := hid_of hFC
        have HFS := hid_of hfsz
        have HSU : Hid (seenTs A.types (k + 1) = seenTs A.types k ++ if (seenFs (tth A.types k).fields (tth A.types k).fields.length).length = 0 then [] else [seenT (tth A.types k)]) := hid_of rfl
        have HSN : Hid ((seenT (tth A.types k)).name = (tth A.types k).name ∧ (seenT (tth A.types k)).key = ⟨#[]⟩ ∧ (seenT (tth A.types k)).fields = seenFs (tth A.types k).fields (tth A.types k).fields.length) := hid_of ⟨rfl, rfl, rfl⟩
        have HLT : Hid ((seenTs A.types k).length ≤ 1048576) := hid_of (by have := seenTs_len A.types k; have := HLM.out; omega)
        clear hTC hFC hfsz
        generalize seenT (tth A.types k) = s at *
        generalize tth A.types k = t at *
        obtain ⟨tn, tk, tf⟩ := t
        simp only at t0 t2 HTC HFC HFS hns hfl HSN HSU
        have HS0 := hid_of (SeeSt.start wK tn)
        obtain ⟨ov, hMT, hRT⟩ := HK.out.ex
        have HRT := hid_of hRT
        have HMB := hid_of hMT
        have hMlt := HK.out.lt
        have HB1 : Hid (∀ W, Below wK.heap.size wK W → Below w1.heap.size w1 W ∧ Below w.heap.size w W) := hid_of fun W hW => ⟨bK.trans (hW.mono bK.size), HBW.out W (bK.trans (hW.mono bK.size))⟩
        obtain ⟨tl, htl⟩ : ∃ x, x = tf.length := ⟨_, rfl⟩
        go_upto_region 8 with fail
        clear t0 t2 p1 hMT hRT
        generalize wK.alloc (.cells #[.string tn, .string ⟨#[]⟩, .slice none 0 0] 48) = wT at *
        rw [← htl] at HTC HFC HFS hfl HSN HSU
        replace htl := hid_of htl
        go_wp2_with fail
        go_loopw [6] (fun i wr => ∃ j : Nat, j ≤ tl ∧ i = .int .i64 j ∧ Hid (SeeSt wK tn (seenFs tf j) wr)) (fun i _ => tl - (intOf i).toNat)
        case atStart => exact ⟨0, Nat.zero_le _, rfl, HS0⟩
        case round =>
          clear HS0
          obtain ⟨j, hj, rfl, HJ⟩ := hrel
          obtain ⟨wJ, rfl⟩ : ∃ x, x = wr := ⟨wr, rfl⟩
          have bJ := HJ.out.bel
          have p1 := HPB.out wJ (HB1.out wJ bJ).1
          obtain ⟨t0, t2⟩ := HTC.out wJ (HB1.out wJ bJ).2
          have zJ := HJ.out.lt
          by_cases hjl : j < tl
          case neg =>
            have hji : ¬ (j : Int) < (tl : Int) := by omega
            obtain rfl : j = tl := by omega
            obtain ⟨ga, gc, hTB, hrF⟩ := HJ.out.ex
            obtain ⟨y0, -⟩ := box_at hTB 0 (by simp)
            obtain ⟨y1, -⟩ := box_at hTB 1 (by simp)
            obtain ⟨y2, -⟩ := box_at hTB 2 (by simp)
            simp only [List.getElem_toArray, List.getElem_cons_zero, List.getElem_cons_succ] at y0 y1 y2
            have hsl := seenFs_len tf j
            obtain ⟨-, hgc, hFs⟩ := flatF_rep hrF (by omega) (seenFs_mem (P := fun f => f.needs = [] ∧ f.name.size ≤ maxLen ∧ f.of.size ≤ maxLen) j fun i hi => ⟨rfl, HFS.out i hi⟩)
            have HFs := hid_of hFs
            obtain ⟨nf, hnf⟩ : ∃ x, x = (seenFs tf j).length := ⟨_, rfl⟩
            rw [← hnf] at y2 hgc hsl HSU
            have hnf2 : Hid (nf = s.fields.length) := hid_of (by rw [HSN.out.2.2, hnf])
            clear hTB hrF hFs
            by_cases hn0 : nf = 0
            · have hn0i : ¬ (0 : Int) < (nf : Int) := by omega
              have HN1 : Hid (TolSt w1 w1.heap.size nm (seenTs A.types (k + 1)) wJ) := hid_of (by
                rw [HSU.out, if_pos hn0, List.append_nil]
                exact HK.out.keep bJ)
              subst hn0
              clear hnf
              go_wp2_with fail
              exact ⟨⟨k + 1, by omega, by go_num, HN1⟩, by simp [intOf]; omega⟩
            · have hn0i : (0 : Int) < (nf : Int) := by omega
              have hn0n : 0 < nf := by omega
              obtain ⟨C, hC1, hC2⟩ := HRT.out
              have hC2 := hid_of hC2
              have HOB : Hid (∀ b, ov.ownBlock = some b → b < wK.heap.size + 1) := hid_of fun b hb => by have := (hC1.lt b hb).2; omega
              have HOM : Hid (∀ b, ov.ownBlock = some b → w1.heap.size + 1 ≤ b) := hid_of fun b hb => (hC1.lt b hb).1
              have bA := below_box wJ (.cells #[.string tn, .string ⟨#[]⟩, .slice ga nf gc] 48)
              have nA := block_new (w := wJ) (N := wJ.heap.size) #[.string tn, .string ⟨#[]⟩, .slice ga nf gc] 48 rfl
              have zA : (wJ.alloc (.cells #[.string tn, .string ⟨#[]⟩, .slice ga nf gc] 48)).heap.size = wJ.heap.size + 1 := by simp
              have bTA := bJ.trans (bA.mono (by omega))
              have hrA := owns_keep' hC1 bTA
              have hM5 := (bJ.block w1.heap.size (by omega)).trans HMB.out
              obtain ⟨m1, -⟩ := box_at hM5 1 (by simp)
              simp only [List.getElem_toArray, List.getElem_cons_zero, List.getElem_cons_succ] at m1
              have HEND : Hid (∀ g cap wF, wF.ownsRow (w1.heap.size + 1) 48 3 (.slice (some ⟨g, 0, none⟩) ((seenTs A.types k).length + 1) cap) ((seenTs A.types k).length + 1) (flat3 C (seenTs A.types k).length ++ [.string tn, .string ⟨#[]⟩, .slice ga nf gc]) → (wJ.alloc (.cells #[.string tn, .string ⟨#[]⟩, .slice ga nf gc] 48)).grownBy wF ov.ownBlock → (ov.ownBlock = some g ∨ g = wJ.heap.size + 1) → Hid (TolSt w1 w1.heap.size nm (seenTs A.types (k + 1)) (wF.setCell ⟨w1.heap.size, 1, none⟩ (.slice (some ⟨g, 0, none⟩) ((seenTs A.types k).length + 1) cap))) ∧ wF.heap[w1.heap.size]? = some (.cells #[.string nm, ov] 25 (0, 0))) := hid_of fun g cap wF ho hg hor => by
                have hMA : (wJ.alloc (.cells #[.string tn, .string ⟨#[]⟩, .slice ga nf gc] 48)).heap[w1.heap.size]? = some (.cells #[.string nm, ov] 25 (0, 0)) := (bA.block _ (by omega)).trans hM5
                refine ⟨hid_of ?_, (hg.block _ (by omega) fun e => by have := HOM.out _ e.symm; omega).trans hMA⟩
                rw [HSU.out, if_neg hn0]
                have hbM : Below w1.heap.size w1 (wJ.alloc (.cells #[.string tn, .string ⟨#[]⟩, .slice ga nf gc] 48)) := bK.trans (bTA.mono (by omega))
                refine TolSt.push (wx := wJ.alloc (.cells #[.string tn, .string ⟨#[]⟩, .slice ga nf gc] 48)) hMA (HRT.out.keep (fun b hb => hb.elim) bTA) hbM (by omega) s ga gc (wK.heap.size + 1) (by rw [HSN.out.2.2]; exact (HFs.out.mono fun b hb => bA.block b hb.2).sub fun b hb => by omega) (by omega) HOB.out (by rw [← hnf2.out]; exact hgc) (by rw [HSN.out.1]; exact hns) (by rw [HSN.out.2.1]; exact Nat.zero_le _) ⟨C, hrA, rfl, fun i hi => ((hC2.out i hi).mono fun b hb => hb.elim False.elim fun x => bTA.block b x.2.1).sub fun b hb => hb.elim Or.inl fun x => Or.inr ⟨x.1, by omega, x.2.2⟩⟩ (by rw [HSN.out.1, HSN.out.2.1, ← hnf2.out]; exact ho) hg ?_
                rcases hor with hor | hor
                · exact Or.inl hor.symm
                · exact Or.inr (by rw [hor, zA]; rfl)
              obtain ⟨q, hq⟩ : ∃ q, q = (seenTs A.types k).length := ⟨_, rfl⟩
              have hq6 : q ≤ 1048576 := by rw [hq]; exact HLT.out
              obtain ⟨xs, hxs⟩ : ∃ xs, xs = flat3 C (seenTs A.types k).length := ⟨_, rfl⟩
              rw [← hxs, ← hq] at HEND
              rw [← hxs, ← hq] at hrA
              clear hq hxs hC1 bA bTA hM5 hnf
              obtain ⟨iT, zT, hiT, hT0, hT1, hT2, hTz⟩ := infoT_parts
              go_wp2_with (
                at_builtin
                refine wpList_append_lies _ rfl _ _ 23 rfl (w1.heap.size + 1) 48 iT zT 3 56 Try.underlying23 hiT hT0 hT1 hT2 hTz (by decide) ov q xs rfl hrA ⟨wJ.heap.size, 0, none⟩ 1 1 [.string tn, .string ⟨#[]⟩, .slice ga nf gc] rfl rfl (World.news_of_block nA) (by intro u hu; simp at hu; rcases hu with rfl | rfl | rfl <;> rfl) (by omega) (by unfold maxLen; omega) (by omega) (by omega) (wJ.heap.size + 1) zA ?_
                intro g cap wF ho hg hor hlt1
                obtain ⟨HF1, hMF⟩ := HEND.out g cap wF ho hg hor
                obtain ⟨x1, xz⟩ := box_at hMF 1 (by simp)
                simp only [List.getElem_toArray, List.getElem_cons_zero, List.getElem_cons_succ] at x1
                clear hMF ho hg hor)
              exact ⟨⟨k + 1, by omega, by go_num, HF1⟩, by simp [intOf]; omega⟩
          case pos =>
            have hji : (j : Int) < (tl : Int) := by omega
            obtain ⟨fb, fo, na, nc, rfl, hcf⟩ := HFC.out j hjl
            obtain ⟨c0, c1, c2, c3, c4, c5, c6, c7⟩ := hcf wJ (HB1.out wJ bJ).2
            have HSF : Hid (seenFs tf (j + 1) = seenFs tf j ++ if (fth tf j).hidden = true then [] else [seenF (fth tf j)]) := hid_of rfl
            clear hcf
            generalize fth tf j = f at *
            obtain ⟨fn, fo', fl, fm, ff, fh, fsh, fnd⟩ := f
            simp only at c0 c1 c2 c3 c4 c5 c6 c7 HSF
            cases fh
            rotate_left
            · have bX := below_box wJ (.cells #[.string fn, .string fo', .bool fl, .bool fm, .bool ff, .bool true, .bool fsh, .slice na fnd.length nc] 37)
              have HN1 : Hid (SeeSt wK tn (seenFs tf (j + 1)) (wJ.alloc (.cells #[.string fn, .string fo', .bool fl, .bool fm, .bool ff, .bool true, .bool fsh, .slice na fnd.length nc] 37))) := hid_of (by rw [HSF.out]; simpa using HJ.out.keep bX)
              go_wp2_with fail
              go_roundw
              case rel => exact ⟨j + 1, by omega, by go_num, HN1⟩
              case measure => simp [intOf]; omega
            · have bX := below_box wJ (.cells #[.string fn, .string fo', .bool fl, .bool fm, .bool ff, .bool false, .bool fsh, .slice na fnd.length nc] 37)
              have nX := block_new (w := wJ) (N := wJ.heap.size) #[.string fn, .string fo', .bool fl, .bool fm, .bool ff, .bool false, .bool fsh, .slice na fnd.length nc] 37 rfl
              have zX2 : (wJ.alloc (.cells #[.string fn, .string fo', .bool fl, .bool fm, .bool ff, .bool false, .bool fsh, .slice na fnd.length nc] 37)).heap.size = wJ.heap.size + 1 := by simp
              have HX := hid_of (HJ.out.keep bX)
              go_upto_region 13 with fail
              clear c0 c1 c2 c3 c4 c5 c6 c7 p1 t0 t2
              generalize wJ.alloc (.cells #[.string fn, .string fo', .bool fl, .bool fm, .bool ff, .bool false, .bool fsh, .slice na fnd.length nc] 37) = X at *
              obtain ⟨ga, gc, hTB, hrF⟩ := HX.out.ex
              have HHX := hid_of (And.intro HX.out.bel HX.out.lt)
              obtain ⟨y2, -⟩ := box_at hTB 2 (by simp)
              obtain ⟨f0, -⟩ := box_at nX 0 (by simp)
              obtain ⟨f1, -⟩ := box_at nX 1 (by simp)
              obtain ⟨f2, -⟩ := box_at nX 2 (by simp)
              obtain ⟨f3, -⟩ := box_at nX 3 (by simp)
              simp only [List.getElem_toArray, List.getElem_cons_zero, List.getElem_cons_succ] at y2 f0 f1 f2 f3
              have hsl := seenFs_len tf j
              have bA := below_box X (.cells #[.string fn, .string fo', .bool fl, .bool fm, .bool false, .bool false, .bool false, .slice none 0 0] 37)
              have nA := block_new (w := X) (N := wJ.heap.size + 1) #[.string fn, .string fo', .bool fl, .bool fm, .bool false, .bool false, .bool false, .slice none 0 0] 37 zX2
              have zA : (X.alloc (.cells #[.string fn, .string fo', .bool fl, .bool fm, .bool false, .bool false, .bool false, .slice none 0 0] 37)).heap.size = wJ.heap.size + 1 + 1 := by simp [zX2]
              have hrA := owns_keep' hrF bA
              have hTA := (bA.block wK.heap.size HX.out.lt).trans hTB
              have HEND : Hid (∀ g cap wF, wF.ownsRow (wK.heap.size + 1) 37 8 (.slice (some ⟨g, 0, none⟩) ((seenFs tf j).length + 1) cap) ((seenFs tf j).length + 1) (flatF (seenFs tf j) ++ [.string fn, .string fo', .bool fl, .bool fm, .bool false, .bool false, .bool false, .slice none 0 0]) → (X.alloc (.cells #[.string fn, .string fo', .bool fl, .bool fm, .bool false, .bool false, .bool false, .slice none 0 0] 37)).grownBy wF (Value.slice ga (seenFs tf j).length gc).ownBlock → Hid (SeeSt wK tn (seenFs tf (j + 1)) (wF.setCell ⟨wK.heap.size, 2, none⟩ (.slice (some ⟨g, 0, none⟩) ((seenFs tf j).length + 1) cap))) ∧ wF.heap[wK.heap.size]? = some (.cells #[.string tn, .string ⟨#[]⟩, .slice ga (seenFs tf j).length gc] 48 (0, 0))) := hid_of fun g cap wF ho hg => by
                have h := SeeSt.push (f := ⟨fn, fo', fl, fm, false, false, false, []⟩) hTA hrA (HHX.out.1.trans (bA.mono (by have := HHX.out.2; omega))) (by have := HHX.out.2; omega) ho hg
                refine ⟨hid_of ?_, h.2⟩
                rw [HSF.out]
                exact h.1
              obtain ⟨q, hq⟩ : ∃ q, q = (seenFs tf j).length := ⟨_, rfl⟩
              obtain ⟨xs, hxs⟩ : ∃ xs, xs = flatF (seenFs tf j) := ⟨_, rfl⟩
              rw [← hxs, ← hq] at HEND
              rw [← hxs, ← hq] at hrA
              rw [← hq] at y2 hsl
              have hbase := HHX.out.2
              clear hq hxs hrF hTB bA hTA nX bX HX
              obtain ⟨iF, zF, hiF, hF0, hF1, hF2, hFz⟩ := infoF_parts
              go_wp2_with (
                at_builtin
                refine wpList_append_lies _ rfl _ _ 46 rfl (wK.heap.size + 1) 37 iF zF 8 64 Try.underlying46 hiF hF0 hF1 hF2 hFz (by decide) (.slice ga q gc) q xs rfl hrA ⟨wJ.heap.size + 1, 0, none⟩ 1 1 [.string fn, .string fo', .bool fl, .bool fm, .bool false, .bool false, .bool false, .slice none 0 0] rfl rfl (World.news_of_block nA) (by intro u hu; simp at hu; rcases hu with rfl | rfl | rfl | rfl | rfl | rfl | rfl | rfl <;> rfl) (by omega) (by unfold maxLen; omega) (by omega) (by omega) (wJ.heap.size + 1 + 1) zA ?_
                intro g cap wF ho hg hor hlt1
                obtain ⟨HF1, hMF⟩ := HEND.out g cap wF ho hg
                obtain ⟨x1, xz⟩ := box_at hMF 2 (by simp)
                simp only [List.getElem_toArray, List.getElem_cons_zero, List.getElem_cons_succ] at x1
                clear hMF ho hg hor)
              go_roundw
              case rel => exact ⟨j + 1, by omega, by go_num, HF1⟩
              case measure => simp [intOf]; omega
end Go.Proofs.Ytdohgkokoicjlaa
