import Derived.Test.YtdohgkokoicjlaaB41
import Derived.Test.YtdohgkokoicjlaaBT2
import Derived.Deep.RegionHeld3
set_option linter.unusedSimpArgs false
set_option linter.unusedVariables false
namespace Go.Proofs.Ytdohgkokoicjlaa
open Go.RowKit Go.Shelf Go.Maps
attribute [local go_sem] Oper.semAt_some
def nlTo (s : ByteArray) : Nat → Nat
  | 0 => 0
  | k + 1 => nlTo s k + if byteAt s k = 10 then 1 else 0
theorem nlTo_le (s : ByteArray) : ∀ k, nlTo s k ≤ k
  | 0 => Nat.le_refl _
  | k + 1 => by have := nlTo_le s k; rw [nlTo]; split <;> omega
theorem nlTo_take (s : ByteArray) : ∀ k, k ≤ s.size → nlTo s k = nl (s.data.toList.take k)
  | 0, _ => by simp [nlTo, nl]
  | k + 1, h => by
    have hk : k < s.data.toList.length := by rw [Array.length_toList]; exact h
    rw [nlTo, nlTo_take s k (by omega), List.take_add_one, List.getElem?_eq_getElem hk, nl_app]
    congr 1
    have hb : byteAt s k = ((s.data.toList[k].toNat : Nat) : Int) := by
      unfold byteAt
      rw [List.getD_eq_getElem?_getD, List.getElem?_eq_getElem hk]
      rfl
    rw [hb]
    generalize s.data.toList[k] = x
    by_cases e : x = 10
    · subst e; rfl
    · have h2 : ¬ ((x.toNat : Nat) : Int) = 10 := fun h3 => e (by
        have h4 : x.toNat = 10 := by omega
        exact UInt8.toNat_inj.1 h4)
      rw [if_neg h2]
      simp [nl, e]
theorem nlTo_all (s : ByteArray) : nlTo s s.size = nl s.data.toList := by
  rw [nlTo_take s s.size (Nat.le_refl _)]
  congr 1
  exact List.take_of_length_le (by simp)
theorem seenN_le (p : Pt) : ∀ k, seenN p.types k ≤ 1 + fcT p k
  | 0 => Nat.le_refl _
  | k + 1 => by
    have h1 := seenN_le p k
    have h2 := seenFs_len (tth p.types k).fields (tth p.types k).fields.length
    rw [seenN, fcT]
    split <;> omega
theorem chartC_ok {ps : List Pt} (h : okP (chartC ps).all = true) : (chartC ps).all.name = ⟨#[97]⟩ ∧ EachTs (fun f => f.far = false ∧ f.shared = false) (chartC ps).all.types := by
  unfold chartC at h ⊢
  by_cases hc : chartB ps okP = true
  · rw [if_pos hc]; exact ⟨rfl, allM_near ps⟩
  · rw [if_neg hc] at h
    exfalso
    simp [okP, hasRootB] at h
theorem text_great (w : World) (v : Value) (a : Option Addr) (n c : Nat) (hv : v = .slice a n c) (h : 1048576 < n) :
    Calls Try.prog 4 #[v] w fun e w' => e = .returned (.bool true) ∧ Below w.heap.size w w' := by
  subst hv
  have h1' : (1048576 : Int) < (n : Int) := by omega
  go_enter Try.func4, Try.ntmps4
  go_wp2_with fail
  go_ret
  exact ⟨rfl, Below.refl _ _⟩
set_option maxRecDepth 20000 in
set_option maxHeartbeats 3200000 in
theorem text_walk (w : World) (cb n : Nat) (v : Value) (h : CodeNew w cb v n) :
    Calls Try.prog 4 #[v] w fun e w' => e = .returned (.bool true) ∧ Below w.heap.size w w' := by
  by_cases hn : 1048576 < n
  · obtain ⟨a, c, off, rfl, -⟩ := h (.cells #[] 0)
    exact text_great w _ _ n c rfl hn
  have HDR := hid_of (DrawChartText_any w cb n v h (by omega))
  obtain ⟨a, cc, off, rfl, -⟩ := h (.cells #[] 0)
  have h1' : ¬ (1048576 : Int) < (n : Int) := by omega
  go_enter Try.func4, Try.ntmps4
  go_upto_region 4 with (
    go_at_call 12
    refine HDR.out.mono ?_
    rintro e w1 ⟨cv, rfl, ps, hC, hb1⟩
    have hC' := hC
    obtain ⟨ta, oa, tc, oc, rfl, -⟩ := hC')
  have hz := chartC_sz ps
  have HOK := hid_of (fun h => chartC_ok (ps := ps) h)
  obtain ⟨c, hc⟩ : ∃ c, c = chartC ps := ⟨_, rfl⟩
  rw [← hc] at hC hz HOK ⊢
  clear hc
  obtain ⟨A, owners⟩ := c
  simp only at hC HOK ⊢
  have hzP : szP A ≤ 1048576 := by have : szC ⟨A, owners⟩ = szP A + szOs owners := rfl; omega
  have bX := below_box w1 (.cells #[.string A.name, .slice ta A.types.length tc, .slice oa owners.length oc] 28)
  have nX := block_new (w := w1) (N := w1.heap.size) #[.string A.name, .slice ta A.types.length tc, .slice oa owners.length oc] 28 rfl
  have zX : w1.heap.size < (w1.alloc (.cells #[.string A.name, .slice ta A.types.length tc, .slice oa owners.length oc] 28)).heap.size := by simp
  have HC := hid_of (hC.sub (Q := fun b => b < w1.heap.size) fun b hb => hb.2)
  have HP : Hid (PRep w1 (· < w1.heap.size) A (.agg #[.string A.name, .slice ta A.types.length tc])) := hid_of (by
    obtain ⟨ta', oa', tc', oc', e, hP, -⟩ := HC.out
    simp only [Value.agg.injEq, Array.mk.injEq, List.cons.injEq, Value.slice.injEq, true_and, and_true] at e
    obtain ⟨⟨rfl, rfl⟩, -⟩ := e
    exact hP)
  have HI := hid_of (fun W (hW : Below w1.heap.size w1 W) => ChartTextI_any ⟨A, owners⟩ W w1.heap.size _ (HC.out.under hW) hW.size hz HOK.out)
  have HS := hid_of (fun W (hW : Below w1.heap.size w1 W) => ChartTextS_any ⟨A, owners⟩ W w1.heap.size _ (HC.out.under hW) hW.size hz (fun h => (HOK.out h).1))
  have HPI := hid_of (fun W (hW : Below w1.heap.size w1 W) => PartWrite_any A W w1.heap.size _ (HP.out.under hW) hW.size hzP)
  have HPS := hid_of (fun W (hW : Below w1.heap.size w1 W) => PartWriteS_any A W w1.heap.size _ (HP.out.under hW) hW.size hzP)
  have HPC := hid_of (fun W (hW : Below w1.heap.size w1 W) => PartCheckS_any A W w1.heap.size _ (HP.out.under hW) hW.size hzP)
  have HPF := partFault_ok A
  obtain ⟨fa, fc, HFP⟩ : ∃ fa fc, Hid (partFault A = (fa, fc)) := ⟨_, _, rfl⟩
  rw [HFP.out] at HPC HPF
  have hF := field_code (.int .i64 fa) (.int .i64 fc)
  have HTXT : Hid (∃ tx : ByteArray, tx = (if okP A = true then ⟨(partL (seenP A)).toArray⟩ else ByteArray.empty) ∧ tx.size ≤ 100000000 ∧ (fc = 0 → nlTo tx tx.size = seenN A.types A.types.length) ∧ (fc ≠ 0 → tx.size = 0)) := hid_of (by
    refine ⟨_, rfl, ?_, fun h0 => ?_, fun h0 => ?_⟩
    · split
      · have h1 := partL_len (seenP A)
        have h2 := seenP_sz A
        show (partL (seenP A)).toArray.size ≤ _
        rw [List.size_toArray]
        omega
      · decide
    · have ho := HPF.1 h0
      rw [if_pos ho, nlTo_all]
      show nl (partL (seenP A)).toArray.toList = _
      rw [List.toList_toArray]
      exact nl_told ho
    · have ho : ¬ okP A = true := fun h => h0 (HPF.2 h)
      rw [if_neg ho]
      rfl)
  obtain ⟨tx, htx, htz, hn0, hn1⟩ := HTXT.out
  rw [← htx] at HI HS
  obtain ⟨px, hpx⟩ : ∃ x, x = (if okP A = true then (⟨(partL A).toArray⟩ : ByteArray) else ByteArray.empty) := ⟨_, rfl⟩
  rw [← hpx] at HPI HPS
  clear hpx
  have HN0 := hid_of hn0
  have HN1 := hid_of hn1
  have HBW := hid_of (fun W (hW : Below w1.heap.size w1 W) => hb1.trans (hW.mono hb1.size))
  obtain ⟨l, HL⟩ : ∃ l, Hid (l = A.types.length) := ⟨_, hid_of rfl⟩
  obtain ⟨nm, HNM⟩ : ∃ l, Hid (l = A.name) := ⟨_, hid_of rfl⟩
  have HLM : Hid (l ≤ 1048576 ∧ ∀ k, k ≤ l → seenN A.types k ≤ 100000000) := hid_of ⟨by rw [HL.out]; have h2 : szP A = A.name.size + (A.types.length + szTsTo A.types A.types.length) := rfl; omega, fun k hk => by
    have h1 := seenN_le A k
    have h2 := fcT_sz A A.types.length
    have h3 := fcT_le A (show k ≤ A.types.length by rw [← HL.out]; exact hk)
    have h4 : szP A = A.name.size + (A.types.length + szTsTo A.types A.types.length) := rfl
    omega⟩
  have HTT : Hid (∀ k, k < l → ∃ (b off : Nat) (fa : Option Addr) (fc : Nat), ta = some ⟨b, off, none⟩ ∧ (tth A.types k).fields.length ≤ 1048576 ∧ (∀ W, Below w1.heap.size w1 W → W.cell? ⟨b, off + k * 3 + 2, none⟩ = some (.slice fa (tth A.types k).fields.length fc)) ∧ ∀ j, j < (tth A.types k).fields.length → ∃ (fb fo : Nat), fa = some ⟨fb, fo, none⟩ ∧ ∀ W, Below w1.heap.size w1 W → W.cell? ⟨fb, fo + j * 8 + 5, none⟩ = some (.bool (fth (tth A.types k).fields j).hidden)) := hid_of fun k hk => by
    rw [HL.out] at hk
    obtain ⟨ta', tc', e, hT, -⟩ := HP.out
    simp only [Value.agg.injEq, Array.mk.injEq, List.cons.injEq, Value.slice.injEq, true_and, and_true] at e
    obtain ⟨rfl, rfl⟩ := e
    obtain ⟨b, off, fa, fc, rfl, hTR, hc⟩ := hT.at (Nat.le_refl _) k hk
    obtain ⟨fa', fc', e, hF, -⟩ := hTR
    simp only [Value.agg.injEq, Array.mk.injEq, List.cons.injEq, Value.slice.injEq, true_and, and_true] at e
    obtain ⟨rfl, rfl⟩ := e
    have h2 := szT_le A k hk hzP
    have h3 : szT (tth A.types k) = (tth A.types k).name.size + (tth A.types k).key.size + ((tth A.types k).fields.length + szFsTo (tth A.types k).fields (tth A.types k).fields.length) := rfl
    refine ⟨b, off, fa, fc, rfl, by omega, fun W hW => (hc W hW).2.2, fun j hj => ?_⟩
    obtain ⟨fb, fo, na, nc, e, -, hcf⟩ := hF.at (Nat.le_refl _) j hj
    exact ⟨fb, fo, e, fun W hW => (hcf W hW).2.2.2.2.2.1⟩
  rw [← HL.out, ← HNM.out] at HI HS HPI HPS HPC bX nX zX ⊢
  clear hC hz HC HP HPF HTXT hn0 hn1 htx hzP HOK HDR hb1
  obtain ⟨ol, hol⟩ : ∃ x, x = owners.length := ⟨_, rfl⟩
  rw [← hol] at HI HS bX nX zX ⊢
  clear hol
  generalize w1.alloc (.cells #[.string nm, .slice ta l tc, .slice oa ol oc] 28) = X at *
  have HCB : Hid (∀ W, Below X.heap.size X W → W.cell? ⟨w1.heap.size, 0, none⟩ = some (.string nm) ∧ W.cell? ⟨w1.heap.size, 1, none⟩ = some (.slice ta l tc) ∧ W.cell? ⟨w1.heap.size, 2, none⟩ = some (.slice oa ol oc)) := hid_of fun W hW => by
    have h := (hW.block w1.heap.size zX).trans nX
    exact ⟨(box_at h 0 (by simp)).1, (box_at h 1 (by simp)).1, (box_at h 2 (by simp)).1⟩
  have HXW : Hid (∀ W, Below X.heap.size X W → Below w1.heap.size w1 W) := hid_of fun W hW => bX.trans (hW.mono bX.size)
  obtain ⟨p0, p1, p2⟩ := HCB.out X (Below.refl _ _)
  clear bX nX zX
  go_upto_region 5 with (
    go_at_call 13
    refine (HI.out _ (HXW.out X (Below.refl _ _))).mono ?_
    rintro e w2 ⟨rfl, b2⟩)
  clear p0 p1 p2
  obtain ⟨q0, q1, q2⟩ := HCB.out w2 b2
  have HB2 := hid_of b2
  have HXX : Hid (∀ W, Below w2.heap.size w2 W → Below X.heap.size X W) := hid_of fun W hW => HB2.out.trans (hW.mono HB2.out.size)
  have hW2 : Below w2.heap.size w2 w2.drew := (Below.refl _ _).drew
  clear b2
  obtain ⟨d0, d1, d2⟩ := HCB.out w2.drew (HXX.out _ hW2)
  clear q0 q1 q2
  go_wp2_with fail
  go_region_held3 (fun w' => w'.cell? ⟨w1.heap.size, 0, none⟩ = some (.string nm) ∧ w'.cell? ⟨w1.heap.size, 1, none⟩ = some (.slice ta l tc) ∧ w'.cell? ⟨w1.heap.size, 2, none⟩ = some (.slice oa ol oc)) (go_keep)
    (first
      | (
        go_at_call 14
        refine (HS.out w2.drew (HXW.out _ (HXX.out _ hW2))).mono ?_
        rintro e w3 ⟨rfl, b3⟩
        have b3 := hW2.trans (b3.mono hW2.size)
        obtain ⟨d0, d1, d2⟩ := HCB.out w3 (HXX.out _ b3))
      | (
        go_at_call 9
        refine (HPI.out w3 (HXW.out _ (HXX.out _ b3))).mono ?_
        rintro e w4 ⟨rfl, b4⟩
        have b4 := b3.trans (b4.mono b3.size)
        obtain ⟨d0, d1, d2⟩ := HCB.out w4 (HXX.out _ b4))
      | (
        go_at_call 10
        refine (HPS.out w4 (HXW.out _ (HXX.out _ b4))).mono ?_
        rintro e w5 ⟨rfl, b5⟩
        have b5 := b4.trans (b5.mono b4.size)
        obtain ⟨d0, d1, d2⟩ := HCB.out w5 (HXX.out _ b5)))
  have HB5 := hid_of b5
  have HXZ : Hid (∀ W, Below w5.heap.size w5 W → Below X.heap.size X W) := hid_of fun W hW => HXX.out W (HB5.out.trans (hW.mono HB5.out.size))
  have HNL : Hid (∀ k, nlTo tx (k + 1) = nlTo tx k + (if byteAt tx k = 10 then 1 else 0) ∧ nlTo tx k ≤ k) := hid_of fun k => ⟨rfl, nlTo_le tx k⟩
  have HN00 : Hid (nlTo tx 0 = 0) := hid_of rfl
  clear HI HS HPI HPS b5 b4 b3 hW2
  go_wp2_with fail
  go_loopw [5, 6] (fun y i wr => ∃ k m : Nat, k ≤ tx.size ∧ y = .int .i64 m ∧ i = .int .i64 k ∧ Hid (m = nlTo tx k) ∧ m ≤ 100000000 ∧ wr = w5) (fun _ i _ => tx.size - (intOf i).toNat)
  case atStart => exact ⟨0, 0, Nat.zero_le _, rfl, rfl, hid_of HN00.out.symm, by omega, rfl⟩
  case round =>
  obtain ⟨k, m, hk, rfl, rfl, HM, hm, rfl⟩ := hrel
  obtain ⟨w5, rfl⟩ : ∃ x, x = wr := ⟨wr, rfl⟩
  by_cases hlt : k < tx.size
  · have hb := byteAt_get tx k hlt
    have hki : (k : Int) < (tx.size : Int) := by omega
    obtain ⟨h1, h2⟩ := HNL.out k
    have hmk : m ≤ k := by rw [HM.out]; exact h2
    by_cases hc : byteAt tx k = 10
    · rw [if_pos hc] at h1
      have HM2 : Hid (m + 1 = nlTo tx (k + 1)) := hid_of (by rw [h1, HM.out])
      rw [hc] at hb
      clear h1 h2 hc
      go_wp2_with fail
      go_roundw
      case rel => exact ⟨k + 1, m + 1, by omega, by go_num, by go_num, HM2, by omega, trivial⟩
      case measure => simp [intOf]; omega
    · rw [if_neg hc] at h1
      have HM2 : Hid (m = nlTo tx (k + 1)) := hid_of (by rw [h1, HM.out]; rfl)
      clear h1 h2
      go_wp2_with fail
      go_roundw
      case rel => exact ⟨k + 1, m, by omega, rfl, by go_num, HM2, hm, trivial⟩
      case measure => simp [intOf]; omega
  have hki : ¬ (k : Int) < (tx.size : Int) := by omega
  have HMT : Hid (m = nlTo tx tx.size) := hid_of (by rw [HM.out, show k = tx.size by omega])
  obtain ⟨p0, p1, -⟩ := HCB.out w5 (HXZ.out w5 (Below.refl _ _))
  go_upto_if 47 with (
    go_at_call 15
    refine (HPC.out w5 (HXW.out _ (HXZ.out w5 (Below.refl _ _)))).mono ?_
    rintro e w6 ⟨rfl, b6⟩)
  have HB6 := hid_of b6
  have HFIN : Hid (∀ W, Below w6.heap.size w6 W → Below w.heap.size w W ∧ W.cell? ⟨w1.heap.size, 1, none⟩ = some (.slice ta l tc) ∧ Below w1.heap.size w1 W) := hid_of fun W hW => by
    have h5 := HB6.out.trans (hW.mono HB6.out.size)
    have hX := HXZ.out W h5
    exact ⟨HBW.out W (HXW.out W hX), (HCB.out W hX).2.1, HXW.out W hX⟩
  clear p0 p1 b6 HPC
  by_cases hfc : fc = 0
  rotate_left
  · have hfb : (fc != 0) = true := by simpa using hfc
    have hm0 : m = 0 := by rw [HMT.out, HN1.out hfc]; exact HN00.out
    have HF0 := hid_of (HFIN.out w6 (Below.refl _ _)).1
    subst hm0
    go_wp2_with fail
    go_ret
    exact ⟨rfl, HF0.out⟩
  subst hfc
  have HMN : Hid (m = seenN A.types l) := hid_of (by rw [HMT.out, HL.out]; exact HN0.out rfl)
  have HS0 : Hid (seenN A.types 0 = 1) := hid_of rfl
  have HSS : Hid (∀ k, seenN A.types (k + 1) = seenN A.types k + if (seenFs (tth A.types k).fields (tth A.types k).fields.length).length = 0 then 0 else 1 + (seenFs (tth A.types k).fields (tth A.types k).fields.length).length) := hid_of fun k => rfl
  have HFS : Hid (∀ k j, (seenFs (tth A.types k).fields (j + 1)).length = (seenFs (tth A.types k).fields j).length + (if (fth (tth A.types k).fields j).hidden = true then 0 else 1) ∧ (seenFs (tth A.types k).fields j).length ≤ j ∧ (seenFs (tth A.types k).fields 0).length = 0) := hid_of fun k j => ⟨by rw [seenFs, List.length_append]; split <;> rfl, seenFs_len _ j, rfl⟩
  go_wp2_with fail
  go_loopw [7, 8] (fun y i wr => ∃ k x : Nat, k ≤ l ∧ y = .int .i64 x ∧ i = .int .i64 k ∧ Hid (x = seenN A.types k) ∧ wr = w6) (fun _ i _ => l - (intOf i).toNat)
  case atStart => exact ⟨0, 1, Nat.zero_le _, rfl, rfl, hid_of HS0.out.symm, rfl⟩
  case round =>
  obtain ⟨k, x, hk, rfl, rfl, HX, rfl⟩ := hrel
  obtain ⟨w6, rfl⟩ : ∃ x, x = wr := ⟨wr, rfl⟩
  obtain ⟨hf0, p1, hf1⟩ := HFIN.out w6 (Below.refl _ _)
  have hlM := HLM.out.1
  have hxM : x ≤ 100000000 := by rw [HX.out]; exact HLM.out.2 k hk
  have HF0 := hid_of hf0
  clear hf0
  by_cases hlt : k < l
  · have hki : (k : Int) < (l : Int) := by omega
    obtain ⟨b, off, fa', fc', rfl, hfl, hT2, hFj⟩ := HTT.out k hlt
    have HFJ := hid_of hFj
    have t2 := hT2 w6 hf1
    have HW6 := hid_of hf1
    have hsk := HSS.out k
    have HSK := hid_of hsk
    have HFK := hid_of (HFS.out k)
    generalize tth A.types k = t at *
    obtain ⟨tl, htl⟩ : ∃ x, x = t.fields.length := ⟨_, rfl⟩
    rw [← htl] at t2 hfl HFJ HSK
    clear hFj hT2 hsk hf1
    replace htl := hid_of htl
    go_wp2_with fail
    go_loopw [9, 10] (fun y i wr => ∃ j s : Nat, j ≤ tl ∧ y = .int .i64 s ∧ i = .int .i64 j ∧ Hid (s = (seenFs t.fields j).length) ∧ wr = w6) (fun _ i _ => tl - (intOf i).toNat)
    case atStart => exact ⟨0, 0, Nat.zero_le _, rfl, rfl, hid_of (HFK.out 0).2.2.symm, rfl⟩
    case round =>
    obtain ⟨j, s, hj, rfl, rfl, HSJ, rfl⟩ := hrel
    obtain ⟨w6, rfl⟩ : ∃ x, x = wr := ⟨wr, rfl⟩
    obtain ⟨h1, h2, -⟩ := HFK.out j
    have hsM : s ≤ 1048576 := by rw [HSJ.out]; omega
    by_cases hjl : j < tl
    · have hji : (j : Int) < (tl : Int) := by omega
      obtain ⟨fb, fo, rfl, hcf⟩ := HFJ.out j hjl
      have c5 := hcf w6 HW6.out
      cases hh : (fth t.fields j).hidden
      · rw [hh] at c5 h1
        have HS2 : Hid (s + 1 = (seenFs t.fields (j + 1)).length) := hid_of (by rw [h1, HSJ.out]; rfl)
        clear h1 h2 hh hcf
        go_wp2_with fail
        go_roundw
        case rel => exact ⟨j + 1, s + 1, by omega, by go_num, by go_num, HS2, trivial⟩
        case measure => simp [intOf]; omega
      · rw [hh] at c5 h1
        have HS2 : Hid (s = (seenFs t.fields (j + 1)).length) := hid_of (by rw [h1, HSJ.out]; rfl)
        clear h1 h2 hh hcf
        go_wp2_with fail
        go_roundw
        case rel => exact ⟨j + 1, s, by omega, rfl, by go_num, HS2, trivial⟩
        case measure => simp [intOf]; omega
    have hji : ¬ (j : Int) < (tl : Int) := by omega
    obtain rfl : j = tl := by omega
    clear h1 h2
    have hsk := HSK.out
    rw [← HSJ.out, ← HX.out] at hsk
    by_cases hs0 : s = 0
    · have HN2 : Hid (x = seenN A.types (k + 1)) := hid_of (by rw [hsk, if_pos hs0]; rfl)
      subst hs0
      clear hsk
      go_wp2_with fail
      exact ⟨⟨k + 1, x, by omega, rfl, by go_num, HN2, trivial⟩, by simp [intOf]; omega⟩
    · have HN2 : Hid (x + 1 + s = seenN A.types (k + 1)) := hid_of (by rw [hsk, if_neg hs0]; omega)
      have hs1 : (0 : Int) < (s : Int) := by omega
      have hs2 : 0 < s := by omega
      clear hsk
      go_wp2_with fail
      exact ⟨⟨k + 1, x + 1 + s, by omega, by go_num, by go_num, HN2, trivial⟩, by simp [intOf]; omega⟩
  have hki : ¬ (k : Int) < (l : Int) := by omega
  have hmx : m = x := by rw [HMN.out, HX.out, show k = l by omega]
  subst hmx
  go_wp2_with fail
  go_ret
  exact ⟨rfl, HF0.out⟩
end Go.Proofs.Ytdohgkokoicjlaa
