import Derived.Test.YtdohgkokoicjlaaB39
import Derived.Test.YtdohgkokoicjlaaB41
import Derived.Test.YtdohgkokoicjlaaBO1
import Derived.Test.YtdohgkokoicjlaaB4
import Derived.Test.YtdohgkokoicjlaaB30
import Derived.Deep.RegionHeld3
set_option linter.unusedSimpArgs false
set_option linter.unusedVariables false
namespace Go.Proofs.Ytdohgkokoicjlaa
open Go.RowKit
theorem sayB_at {p : Pt} {s f : ByteArray} (h : sayB p s f = true) : ∃ k j, k < p.types.length ∧ j < (tth p.types k).fields.length ∧ (tth p.types k).name = s ∧ (fth (tth p.types k).fields j).name = f ∧ 0 ≤ typeIx p s := by
  simp only [sayB, decide_eq_true_eq] at h
  have hx : fieldIx (typeOr p s) f = firstTo (fun i => (fth (typeOr p s).fields i).name.toList == f.toList) (typeOr p s).fields.length := rfl
  rcases firstTo_cases (fun i => (fth (typeOr p s).fields i).name.toList == f.toList) (typeOr p s).fields.length with ⟨h2, -⟩ | ⟨j, h2, hj, hq, -⟩
  · rw [hx, h2] at h; omega
  have htx : 0 ≤ typeIx p s := by
    by_cases e : 0 ≤ typeIx p s
    · exact e
    · exfalso
      unfold typeOr at hj
      rw [if_neg e] at hj
      simp [T.zero] at hj
  have hty : typeIx p s = firstTo (fun i => (tth p.types i).name.toList == s.toList) p.types.length := rfl
  rcases firstTo_cases (fun i => (tth p.types i).name.toList == s.toList) p.types.length with ⟨h3, -⟩ | ⟨k, h3, hk, hqk, -⟩
  · rw [hty, h3] at htx; omega
  have hto : typeOr p s = tth p.types k := by unfold typeOr; rw [if_pos htx, hty, h3, Int.toNat_natCast]
  rw [hto] at hj hq
  exact ⟨k, j, hk, hj, ba_injH (by simpa using hqk), ba_injH (by simpa using hq), htx⟩
theorem own_asc (ps : List Pt) (s f : ByteArray) : ∀ i, i + 1 < (ownL (chartC ps).owners s f).length → ith (ownL (chartC ps).owners s f) i < ith (ownL (chartC ps).owners s f) (i + 1) := by
  intro i hi
  unfold chartC at hi ⊢
  by_cases hc : chartB ps okP = true
  · rw [if_pos hc] at hi ⊢
    have ho : okP (allM ps) = true := by
      have h2 : chartB ps okP = (partsOkB ps okP && okP (allM ps)) := by first | rfl | (unfold chartB; rfl)
      rw [h2, Bool.and_eq_true] at hc
      exact hc.2
    simp only at hi ⊢
    rw [own_list ps s f ho] at hi ⊢
    by_cases hs : sayB (allM ps) s f = true
    · rw [if_pos hs] at hi ⊢
      rw [List.length_map] at hi
      have ha := (ownersTo_asc ps s f ps.length).1
      have h1 := List.pairwise_iff_getElem.1 ha i (i + 1) (by exact Nat.lt_of_succ_lt hi) (by exact hi) (by omega)
      have e : ∀ k (hk : k < (ownersM ps s f).length), ith ((ownersM ps s f).map fun (k : Nat) => (k : Int)) k = (((ownersM ps s f)[k]'hk : Nat) : Int) := fun k hk => by
        simp [ith, List.getD_eq_getElem?_getD, hk]
      rw [e i (Nat.lt_of_succ_lt hi), e (i + 1) hi]
      exact Int.ofNat_lt.2 h1
    · rw [if_neg hs] at hi
      simp at hi
  · rw [if_neg hc] at hi
    simp [ownL] at hi
theorem own_ok (ps : List Pt) (s f : ByteArray) : fieldOkB (chartC ps).all s f = decide (0 < (ownL (chartC ps).owners s f).length) := by
  unfold chartC
  by_cases hc : chartB ps okP = true
  · rw [if_pos hc]
    have h2 : chartB ps okP = (partsOkB ps okP && okP (allM ps)) := by first | rfl | (unfold chartB; rfl)
    rw [h2, Bool.and_eq_true] at hc
    simp only
    rw [own_list ps s f hc.2]
    by_cases hs : sayB (allM ps) s f = true
    · rw [if_pos hs, List.length_map]
      obtain ⟨k, j, hk, hj, e1, e2, h3⟩ := sayB_at hs
      have hd := allM_said ps hk hj
      rw [e1, e2] at hd
      have h4 := said_known hc.1 hd
      rw [decide_eq_true h4]
      simp only [sayB] at hs
      unfold fieldOkB
      rw [hc.2, hs, decide_eq_true h3]
      rfl
    · rw [if_neg hs]
      have hs' : sayB (allM ps) s f = false := by simpa using hs
      simp only [sayB] at hs'
      unfold fieldOkB
      rw [hs']
      simp
  · rw [if_neg hc]
    simp [ownL, fieldOkB, okP, hasRootB]
theorem own_few (ps : List Pt) (s f : ByteArray) : (ownL (chartC ps).owners s f).length ≤ 1048576 := by
  refine ownL_len _ _ _ ?_
  have h := chartC_sz ps
  have : szC (chartC ps) = szP (chartC ps).all + szOs (chartC ps).owners := rfl
  omega
set_option maxHeartbeats 400000 in
theorem wpInts_any (ns : List Int) (a a' : Option Addr) (c c' : Nat) (w : World) (P P' : Nat → Prop) (hS : Ints w P ns a) (hS' : Ints w P' ns a') :
    Calls Try.prog 7 #[.slice a ns.length c, .slice a' ns.length c'] w fun e w' => e = .returned (.bool true) ∧ ∃ n, w' = w.drewN n := by
  obtain ⟨h3, h1⟩ := hS
  obtain ⟨-, g1⟩ := hS'
  by_cases hn0 : ns.length = 0
  · have hns : ns = [] := by simpa using hn0
    subst hns
    go_enter Try.func7, Try.ntmps7
    go_wp2
    go_loop [5] (fun i => i = .int .i64 0) (fun _ => 0)
    case atStart => rfl
    case round =>
      subst hrel
      go_wp2
      go_ret
      exact ⟨rfl, 0, rfl⟩
  · obtain ⟨b, off, rfl, _, hc⟩ := h1 (by omega)
    obtain ⟨b', off', rfl, _, hc'⟩ := g1 (by omega)
    clear h1 g1
    go_enter Try.func7, Try.ntmps7
    go_wp2
    go_loopw [5] (fun i wr => ∃ k m : Nat, k ≤ ns.length ∧ i = .int .i64 k ∧ wr = w.drewN m) (fun i _ => ns.length - (intOf i).toNat)
    case atStart => exact ⟨0, 0, Nat.zero_le _, rfl, rfl⟩
    case round =>
      obtain ⟨k, m, hk, rfl, rfl⟩ := hrel
      by_cases hlt : k < ns.length
      · have hck := hc k hlt
        have hck' := hc' k hlt
        clear hc hc'
        go_wp2
        go_quiet (fail)
        go_wp2
        go_roundw
        case rel => exact ⟨k + 1, _, by omega, by go_num, rfl⟩
        case measure => simp [intOf]; omega
      · go_wp2
        go_ret
        exact ⟨rfl, m, rfl⟩
end Go.Proofs.Ytdohgkokoicjlaa
namespace Go.Proofs.Ytdohgkokoicjlaa
open Go.RowKit Go.Shelf Go.Maps
attribute [local go_sem] Oper.semAt_some
theorem own_great (w : World) (v : Value) (a : Option Addr) (n c : Nat) (hv : v = .slice a n c) (h : 1048576 < n) :
    Calls Try.prog 3 #[v] w fun e w' => e = .returned (.bool true) ∧ Below w.heap.size w w' := by
  subst hv
  have h1' : (1048576 : Int) < (n : Int) := by omega
  go_enter Try.func3, Try.ntmps3
  go_wp2_with fail
  go_ret
  exact ⟨rfl, Below.refl _ _⟩
set_option maxRecDepth 20000 in
set_option maxHeartbeats 3200000 in
theorem own_walk (w : World) (cb n : Nat) (v : Value) (h : CodeNew w cb v n) :
    Calls Try.prog 3 #[v] w fun e w' => e = .returned (.bool true) ∧ Below w.heap.size w w' := by
  by_cases hn : 1048576 < n
  · obtain ⟨a, c, off, rfl, -⟩ := h (.cells #[] 0)
    exact own_great w _ _ n c rfl hn
  have HDR := hid_of (DrawChartOwner_any w cb n v h (by omega))
  obtain ⟨a, cc, off, rfl, -⟩ := h (.cells #[] 0)
  have h1' : ¬ (1048576 : Int) < (n : Int) := by omega
  go_enter Try.func3, Try.ntmps3
  go_upto_region 4 with (
    go_at_call 5
    refine HDR.out.mono ?_
    rintro e w1 ⟨ps, cv, s, f, rfl, hC, hs, hf, hb1⟩
    have hC' := hC
    obtain ⟨ta, oa, tc, oc, rfl, -⟩ := hC')
  have hz := chartC_sz ps
  have HASC := hid_of (own_asc ps s f)
  have HOKN := hid_of (own_ok ps s f)
  have hfew := own_few ps s f
  obtain ⟨c, hc⟩ : ∃ c, c = chartC ps := ⟨_, rfl⟩
  rw [← hc] at hC hz HASC HOKN hfew ⊢
  clear hc
  obtain ⟨A, owners⟩ := c
  simp only at hC hfew ⊢
  obtain ⟨ns, HNS⟩ : ∃ ns, Hid (ns = ownL owners s f) := ⟨_, hid_of rfl⟩
  obtain ⟨ok, HOK⟩ : ∃ b, Hid (b = fieldOkB A s f) := ⟨_, hid_of rfl⟩
  have hzP : szP A ≤ 1048576 := by have : szC ⟨A, owners⟩ = szP A + szOs owners := rfl; omega
  have bX := below_box w1 (.cells #[.string A.name, .slice ta A.types.length tc, .slice oa owners.length oc] 28)
  have nX := block_new (w := w1) (N := w1.heap.size) #[.string A.name, .slice ta A.types.length tc, .slice oa owners.length oc] 28 rfl
  have zX : w1.heap.size < (w1.alloc (.cells #[.string A.name, .slice ta A.types.length tc, .slice oa owners.length oc] 28)).heap.size := by simp
  have HC := hid_of (hC.sub (Q := fun b => b < w1.heap.size) fun b hb => hb.2)
  have HP : Hid (PRep w1 (· < w1.heap.size) A (.agg #[.string A.name, .slice ta A.types.length tc])) := hid_of (by
    obtain ⟨ta', oa', tc', oc', e, hP, -⟩ := HC.out
    simp only [Value.agg.injEq, Array.mk.injEq, List.cons.injEq, Value.slice.injEq, true_and, and_true] at e
    obtain ⟨⟨rfl, rfl⟩, -⟩ := e
    exact hP)
  have HI := hid_of (fun W (hW : Below w1.heap.size w1 W) => ChartOwnerI_any ⟨A, owners⟩ s f W w1.heap.size _ (HC.out.under hW) hW.size hz)
  have HS := hid_of (fun W (hW : Below w1.heap.size w1 W) => ChartOwnerS_any ⟨A, owners⟩ s f W w1.heap.size _ (HC.out.under hW) hW.size hz)
  simp only at HI HS
  rw [← HNS.out] at HI HS hfew
  have HPI := hid_of (fun W (hW : Below w1.heap.size w1 W) => PartWrite_any A W w1.heap.size _ (HP.out.under hW) hW.size hzP)
  have HPS := hid_of (fun W (hW : Below w1.heap.size w1 W) => PartWriteS_any A W w1.heap.size _ (HP.out.under hW) hW.size hzP)
  have HPF := hid_of (fun W (hW : Below w1.heap.size w1 W) => PartFieldI_any A s f W w1.heap.size _ (HP.out.under hW) hW.size hzP)
  rw [← HOK.out] at HPF
  obtain ⟨px, hpx⟩ : ∃ x, x = (if okP A = true then (⟨(partL A).toArray⟩ : ByteArray) else ByteArray.empty) := ⟨_, rfl⟩
  rw [← hpx] at HPI HPS
  clear hpx
  obtain ⟨F0, HF0⟩ : ∃ x, Hid (x = fieldAns A s f) := ⟨_, hid_of rfl⟩
  rw [← HF0.out] at HPF
  have HBW := hid_of (fun W (hW : Below w1.heap.size w1 W) => hb1.trans (hW.mono hb1.size))
  have HAS : Hid (∀ i, i + 1 < ns.length → ith ns i < ith ns (i + 1)) := hid_of fun i hi => by
    rw [HNS.out] at hi ⊢
    exact HASC.out i hi
  have HKN : Hid (ok = decide (0 < ns.length)) := hid_of (by rw [HOK.out, HNS.out]; exact HOKN.out)
  obtain ⟨l, HL⟩ : ∃ l, Hid (l = A.types.length) := ⟨_, hid_of rfl⟩
  obtain ⟨nm, HNM⟩ : ∃ l, Hid (l = A.name) := ⟨_, hid_of rfl⟩
  rw [← HL.out, ← HNM.out] at HI HS HPI HPS HPF bX nX zX ⊢
  clear hC hz HC HP hzP HDR hb1 HASC HOKN
  obtain ⟨ol, hol⟩ : ∃ x, x = owners.length := ⟨_, rfl⟩
  rw [← hol] at HI HS bX nX zX ⊢
  clear hol
  obtain ⟨nl, HNL⟩ : ∃ x, Hid (x = ns.length) := ⟨_, hid_of rfl⟩
  rw [← HNL.out] at hfew
  generalize w1.alloc (.cells #[.string nm, .slice ta l tc, .slice oa ol oc] 28) = X at *
  have HCB : Hid (∀ W, Below X.heap.size X W → W.cell? ⟨w1.heap.size, 0, none⟩ = some (.string nm) ∧ W.cell? ⟨w1.heap.size, 1, none⟩ = some (.slice ta l tc) ∧ W.cell? ⟨w1.heap.size, 2, none⟩ = some (.slice oa ol oc)) := hid_of fun W hW => by
    have h := (hW.block w1.heap.size zX).trans nX
    exact ⟨(box_at h 0 (by simp)).1, (box_at h 1 (by simp)).1, (box_at h 2 (by simp)).1⟩
  have HXW : Hid (∀ W, Below X.heap.size X W → Below w1.heap.size w1 W) := hid_of fun W hW => bX.trans (hW.mono bX.size)
  obtain ⟨p0, p1, p2⟩ := HCB.out X (Below.refl _ _)
  clear bX nX zX
  go_upto_region 5 with (
    go_at_call 6
    refine (HI.out _ (HXW.out X (Below.refl _ _))).mono ?_
    rintro e w2 ⟨ia, ic, rfl, b2, hI, -⟩)
  rw [← HNL.out]
  have HII := hid_of hI
  clear p0 p1 p2 hI
  have HB2 := hid_of b2
  have HXX : Hid (∀ W, Below w2.heap.size w2 W → Below X.heap.size X W) := hid_of fun W hW => HB2.out.trans (hW.mono HB2.out.size)
  have hW2 : Below w2.heap.size w2 w2.drew := (Below.refl _ _).drew
  have HIW : Hid (∀ W, Below w2.heap.size w2 W → Ints W (fun b => X.heap.size ≤ b ∧ b < w2.heap.size) ns ia) := hid_of fun W hW => HII.out.mono fun b hb => hW.block b hb.2
  clear b2
  obtain ⟨d0, d1, d2⟩ := HCB.out w2.drew (HXX.out _ hW2)
  go_wp2_with fail
  go_region_held3 (fun w' => w'.cell? ⟨w1.heap.size, 0, none⟩ = some (.string nm) ∧ w'.cell? ⟨w1.heap.size, 1, none⟩ = some (.slice ta l tc) ∧ w'.cell? ⟨w1.heap.size, 2, none⟩ = some (.slice oa ol oc)) (go_keep)
    (first
      | (
        go_at_call 8
        refine (HS.out w2.drew (HXW.out _ (HXX.out _ hW2))).mono ?_
        rintro e w3 ⟨ja, jc, rfl, b3, hJ, -⟩
        have b3 := hW2.trans (b3.mono hW2.size)
        have HWI := hid_of (wpInts_any ns ia ja ic jc w3 _ _ (HIW.out w3 b3) hJ)
        rw [← HNL.out] at HWI
        rw [← HNL.out]
        clear hJ
        obtain ⟨d0, d1, d2⟩ := HCB.out w3 (HXX.out _ b3))
      | (
        go_at_call 7
        refine HWI.out.mono ?_
        rintro e w4 ⟨rfl, k4, hk4⟩
        have b4 : Below w2.heap.size w2 w4 := by rw [hk4]; exact below_drews b3 k4
        clear hk4
        obtain ⟨d0, d1, d2⟩ := HCB.out w4 (HXX.out _ b4))
      | (
        go_at_call 9
        refine (HPI.out w4 (HXW.out _ (HXX.out _ b4))).mono ?_
        rintro e w5 ⟨rfl, b5⟩
        have b5 := b4.trans (b5.mono b4.size)
        obtain ⟨d0, d1, d2⟩ := HCB.out w5 (HXX.out _ b5))
      | (
        go_at_call 10
        refine (HPS.out w5 (HXW.out _ (HXX.out _ b5))).mono ?_
        rintro e w6 ⟨rfl, b6⟩
        have b6 := b5.trans (b6.mono b5.size)
        obtain ⟨d0, d1, d2⟩ := HCB.out w6 (HXX.out _ b6)))
  have HB6 := hid_of b6
  clear HI HS HPI HPS HWI b6 b5 b4 b3 hW2
  go_wp2_with fail
  go_upto_region 8 with (
    go_at_call 11
    refine (HPF.out w6 (HXW.out _ (HXX.out _ HB6.out))).mono ?_
    rintro e w7 ⟨fn, of, y0, y1, y2, y3, y4, na, nc, rfl, b7, -⟩)
  have HB7 := hid_of (HB6.out.trans (b7.mono HB6.out.size))
  clear b7 HPF d0 d1 d2
  generalize F0.needs.length = fl at *
  have b8 := below_box w7 (.cells #[.string fn, .string of, .bool y0, .bool y1, .bool y2, .bool y3, .bool y4, .slice na fl nc] 37)
  generalize w7.alloc (.cells #[.string fn, .string of, .bool y0, .bool y1, .bool y2, .bool y3, .bool y4, .slice na fl nc] 37) = w8 at *
  have HB8 := hid_of (HB7.out.trans (b8.mono HB7.out.size))
  have HF := hid_of (fun n => HBW.out _ (HXW.out _ (HXX.out (w8.drewN n) (below_drews HB8.out n))))
  have HCE : Hid (∀ k, k < nl → ∃ b off, ia = some ⟨b, off, none⟩ ∧ w8.cell? ⟨b, off + k, none⟩ = some (.int .i64 (ith ns k))) := hid_of fun k hk => by
    rw [HNL.out] at hk
    obtain ⟨b, off, e, -, hc⟩ := (HIW.out _ HB8.out).2 (by omega)
    exact ⟨b, off, e, hc k hk⟩
  have HAS2 : Hid (∀ i, i + 1 < nl → ith ns i < ith ns (i + 1)) := hid_of fun i hi => HAS.out i (by rw [HNL.out] at hi; exact hi)
  have HK2 : Hid (ok = decide (0 < nl)) := hid_of (by rw [HNL.out]; exact HKN.out)
  clear b8
  go_wp2_with fail
  go_loopw [9] (fun i wr => ∃ k m : Nat, i = .int .i64 ((k : Int) + 1) ∧ k ≤ nl ∧ wr = w8.drewN m) (fun i _ => nl - (intOf i).toNat)
  case atStart => exact ⟨0, 0, rfl, by omega, rfl⟩
  case round =>
  obtain ⟨k, m, rfl, hk, rfl⟩ := hrel
  by_cases hlt : k + 1 < nl
  · have hki : (k : Int) + 1 < (nl : Int) := by omega
    have h3 : (k : Int) + 1 - 1 = (k : Int) := by omega
    have h4 : IntKind.i64.wrap ((k : Int) + 1 - 1) = (k : Int) := by rw [IntWalk.i64_in _ (by omega)]; omega
    have h5 : IntKind.i64.wrap (k : Int) = (k : Int) := IntWalk.i64_in _ (by omega)
    have h6 : (k : Int) < (nl : Int) := by omega
    obtain ⟨b, off, rfl, c0⟩ := HCE.out k (by omega)
    obtain ⟨b', off', e, c1⟩ := HCE.out (k + 1) hlt
    simp only [Option.some.injEq, Addr.mk.injEq, and_true] at e
    obtain ⟨rfl, rfl⟩ := e
    have hlt2 := HAS2.out k hlt
    have h7 : ¬ ith ns (k + 1) ≤ ith ns k := by omega
    go_wp2_with fail
    go_quiet (fail)
    go_wp2_with fail
    go_roundw
    case rel => exact ⟨k + 1, _, by go_num, by omega, rfl⟩
    case measure => simp [intOf]; omega
  · have hki : ¬ (k : Int) + 1 < (nl : Int) := by omega
    have HF0 := hid_of (HF.out m)
    by_cases h0 : 0 < nl
    · have hk0 : ok = true := by rw [HK2.out]; exact decide_eq_true h0
      have h0i : (0 : Int) < (nl : Int) := by omega
      subst hk0
      go_wp2_with fail
      go_ret
      exact ⟨rfl, HF0.out⟩
    · have hk0 : ok = false := by rw [HK2.out]; exact decide_eq_false h0
      have h0i : ¬ (0 : Int) < (nl : Int) := by omega
      subst hk0
      go_wp2_with fail
      go_ret
      exact ⟨rfl, HF0.out⟩
end Go.Proofs.Ytdohgkokoicjlaa
