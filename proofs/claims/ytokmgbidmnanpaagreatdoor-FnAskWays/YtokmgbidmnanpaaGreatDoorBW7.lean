import Derived.Test.YtokmgbidmnanpaaGreatDoorB1
import Derived.Test.YtokmgbidmnanpaaGreatDoorB29
import Derived.Test.YtokmgbidmnanpaaGreatDoorBW6
set_option linter.unusedSimpArgs false
set_option linter.unusedVariables false
namespace Go.Proofs.YtokmgbidmnanpaaGreatDoor
open Go.RowKit Go.Shelf Go.Maps
attribute [local go_sem] Oper.semAt_some
theorem okTo_deep {f d : Nat} {ks : List Se} : ∀ {n i : Nat}, okTo (f + 1) d ks n = true → i < n → (sth ks i).kids ≠ [] → d + 1 ≤ 5
  | 0, i, _, hi, _ => by omega
  | n + 1, i, h, hi, hne => by
    rw [okTo_succ, Bool.and_eq_true] at h
    by_cases e : i = n
    · subst e
      have h2 := h.2
      simp only [Bool.and_eq_true, Bool.or_eq_true, decide_eq_true_eq, List.isEmpty_iff] at h2
      exact h2.2.1.resolve_left hne
    · exact okTo_deep h.1 (by omega) hne
set_option maxRecDepth 20000 in
set_option maxHeartbeats 1600000 in
theorem lessSels_any (wo : ByteArray) : ∀ (f d : Nat) (ah : Way) (ks : List Se) (w : World) (aa : Option Addr) (ac : Nat) (ka : Option Addr) (kc : Nat), FitS f ks → SmallS f ks → okTo f d ks ks.length = true → ah.length + 1 = d → (ks ≠ [] → d ≤ 5) → cntTo f ks ks.length ≤ 24 → (∀ a ∈ ah, a.size ≤ 1048576) → SeReps w (· < w.heap.size) ks ka → Strs w (· < w.heap.size) ah aa →
    Calls Tryz.prog 58 #[.slice aa ah.length ac, .slice ka ks.length kc, .string wo] w fun e w' => OwnNew f w (lessI f ah wo.toList ks ks.length) e w' := by
  intro f
  induction f with
  | zero =>
    intro d ah ks w aa ac ka kc hf hsm hok hd hd5 hcn hah hR hS
    have e : ks = [] := hf
    subst e
    go_enter Tryz.func58, Tryz.ntmps58
    go_wp2_with fail
    go_loopw [7, 14] (fun o i wr => i = .int .i64 0 ∧ o = .slice none 0 0 ∧ wr = w) (fun _ _ _ => 0)
    case atStart => exact ⟨rfl, rfl, rfl⟩
    case round =>
      obtain ⟨rfl, rfl, rfl⟩ := hrel
      go_wp2_with fail
      go_ret
      exact ⟨none, 0, rfl, rfl, Below.refl _ _⟩
  | succ f IH =>
    intro d ah ks w aa ac ka kc hf hsm hok hd hd5 hcn hah hR hS
    obtain ⟨i0, hi0, hz0, hz1, hz2⟩ := info_parts info_Sel
    obtain ⟨i9, hi9, hy0, hy1, hy2⟩ := info_parts info9
    have h72 := hR.1
    have hlen : ks.length ≤ 24 := Nat.le_trans (cntTo_ge ks f _) hcn
    have HR := hid_of hR
    have HS := hid_of hS
    have HOK := hid_of (And.intro hok (And.intro hd5 (And.intro hf (And.intro hsm (And.intro hcn hd)))))
    clear hR hS hok hd5 hf hsm hcn hd
    go_enter Tryz.func58, Tryz.ntmps58
    go_wp2_with fail
    go_loopw [7, 14] (fun o i wr => ∃ (k : Nat) (es : List El), k ≤ ks.length ∧ i = .int .i64 k ∧ Hid (es.map El.s = lessI (f + 1) ah wo.toList ks k) ∧ Hid (LI f w.heap.size k es o wr) ∧ Below w.heap.size w wr) (fun _ i _ => ks.length - (intOf i).toNat)
    case atStart => exact ⟨0, [], Nat.zero_le _, rfl, hid_of (by simp [lessI]), hid_of (LI.nil _ _ _), Below.refl _ _⟩
    case round =>
      obtain ⟨k, es, hk, rfl, HM, HG, hb⟩ := hrel
      obtain ⟨w0, rfl⟩ : ∃ x, x = wr := ⟨wr, rfl⟩
      have zb := hb.size
      have hesk := HG.out.len
      by_cases hlt : k < ks.length
      case neg =>
        have e : k = ks.length := by omega
        subst e
        obtain ⟨oa, ocap, rfl⟩ := HG.out.row.slice
        obtain ⟨a, c, e, hOO⟩ := HG.out.row.own (by omega) HG.out.sz HG.out.ap (fun b => w.heap.size ≤ b ∧ b < w0.heap.size) (fun b hb => hb) (fun e he b hq => ⟨HG.out.low e he b hq, ((HG.out.row.kid e he).2 b hq).1⟩)
        rw [HM.out] at hOO
        simp only [Value.slice.injEq, true_and] at e
        obtain ⟨rfl, rfl⟩ := e
        have HOO := hid_of hOO
        clear hOO
        go_wp2_with fail
        go_ret
        exact ⟨oa, ocap, by rw [lessI_len HM.out]; rfl, HOO.out, hb⟩
      have hki : (k : Int) < (ks.length : Int) := by omega
      obtain ⟨-, C, hA, hr⟩ := HR.out.mono fun b hb2 => hb.block b hb2
      obtain ⟨kb, koff, rfl, hkB, hkc⟩ := hA (by omega)
      obtain ⟨sa, sc, e0, e1, e2, e3, e4, hal, hnm, hKids⟩ := (hr k hlt).pieces
      have q0 : w0.cell? ⟨kb, koff + k * 5, none⟩ = some (.string (sth ks k).al) := e0 ▸ hkc k hlt 0 (by omega)
      have q1 : w0.cell? ⟨kb, koff + k * 5 + 1, none⟩ = some (.string (sth ks k).name) := e1 ▸ hkc k hlt 1 (by omega)
      have q2 : w0.cell? ⟨kb, koff + k * 5 + 2, none⟩ = some (.bool (sth ks k).one) := e2 ▸ hkc k hlt 2 (by omega)
      have q3 : w0.cell? ⟨kb, koff + k * 5 + 3, none⟩ = some (.int .i64 (sth ks k).id) := e3 ▸ hkc k hlt 3 (by omega)
      have q4 : w0.cell? ⟨kb, koff + k * 5 + 4, none⟩ = some (.slice sa (sth ks k).kids.length sc) := e4 ▸ hkc k hlt 4 (by omega)
      obtain ⟨hok, hd5, hf, hsm, hcn, hd⟩ := HOK.out
      have hsmk := hsm k hlt
      have hc1 := cntTo_mono (f + 1) ks (show k + 1 ≤ ks.length by omega)
      rw [cntTo_succ, cntSe_kids] at hc1
      have hdd : d ≤ 5 := hd5 (fun e => by rw [e] at hlt; simp at hlt)
      have hal4 : ah.length ≤ 4 := by omega
      have hkm : (keyS (sth ks k)).size ≤ maxLen := by unfold keyS; split <;> assumption
      have hks : (keyS (sth ks k)).size ≤ 1048576 := by
        unfold keyS
        split
        · exact hsmk.2.1
        · exact hsmk.1
      have hah2 : ∀ a ∈ ah ++ [keyS (sth ks k)], a.size ≤ 1048576 := fun a ha => by
        rcases List.mem_append.1 ha with h | h
        · exact hah a h
        · rw [List.mem_singleton.1 h]; exact hks
      have HIH := hid_of (fun W (hW : Below w0.heap.size w0 W) g cap (hS : Strs W (· < W.heap.size) (ah ++ [keyS (sth ks k)]) (some ⟨g, 0, none⟩)) => show Calls Tryz.prog 58 #[.slice (some ⟨g, 0, none⟩) (ah.length + 1) cap, .slice sa (sth ks k).kids.length sc, .string wo] W _ from by
        have h := IH (d + 1) (ah ++ [keyS (sth ks k)]) (sth ks k).kids W (some ⟨g, 0, none⟩) cap sa sc (hf k hlt) hsmk.2.2 (okTo_at hok hlt).2 (by simp; omega) (fun hne => okTo_deep hok hlt hne) (by omega) hah2 ((hKids.mono fun j hj => hW.block j (Nat.lt_of_lt_of_le hj zb)).sub fun j hj => Nat.lt_of_lt_of_le hj (Nat.le_trans zb hW.size)) hS
        simp only [List.length_append, List.length_singleton] at h
        exact h)
      have HWT := hid_of (fun W g cap (hS : Strs W (· < W.heap.size) (ah ++ [keyS (sth ks k)]) (some ⟨g, 0, none⟩)) (hcap : ah.length + 1 ≤ cap) => show Calls Tryz.prog 51 #[.slice (some ⟨g, 0, none⟩) (ah.length + 1) cap] W _ from by
        have h := wayText_any (ah ++ [keyS (sth ks k)]) (some ⟨g, 0, none⟩) cap W hS (by simp) (by simpa using hcap) (by simp; omega) hah2
        simp only [List.length_append, List.length_singleton] at h
        exact h)
      have HLS := hid_of (lessI_succ f ah wo.toList ks k)
      have HSZ := hid_of (And.intro hal hnm)
      have HKM := hid_of hkm
      clear e0 e1 e2 e3 e4 hkc hr hA hKids IH hc1 hal hnm hok hd5 hf hsm hcn hsmk hks hah2 hkm hd hdd
      generalize sth ks k = s at *
      have hS := HS.out.mono fun b hb2 => hb.block b hb2
      have bB := below_box w0 (.cells #[.string s.al, .string s.name, .bool s.one, .int .i64 s.id, .slice sa s.kids.length sc] 56)
      have nB := block_new (w := w0) #[.string s.al, .string s.name, .bool s.one, .int .i64 s.id, .slice sa s.kids.length sc] 56 rfl
      have zB : (w0.alloc (.cells #[.string s.al, .string s.name, .bool s.one, .int .i64 s.id, .slice sa s.kids.length sc] 56)).heap.size = w0.heap.size + 1 := by simp
      go_wp2_with fail
      generalize w0.alloc (.cells #[.string s.al, .string s.name, .bool s.one, .int .i64 s.id, .slice sa s.kids.length sc] 56) = X at *
      have HBX : Hid (∀ W', Below X.heap.size X W' → W'.cell? ⟨w0.heap.size, 0, none⟩ = some (.string s.al) ∧ W'.cell? ⟨w0.heap.size, 1, none⟩ = some (.string s.name) ∧ W'.cell? ⟨w0.heap.size, 2, none⟩ = some (.bool s.one) ∧ W'.cell? ⟨w0.heap.size, 3, none⟩ = some (.int .i64 s.id) ∧ W'.cell? ⟨w0.heap.size, 4, none⟩ = some (.slice sa s.kids.length sc)) := hid_of fun W' hW => by
        have hb := (hW.block _ (by omega)).trans nB
        exact ⟨(box_at hb 0 (by simp)).1, (box_at hb 1 (by simp)).1, (box_at hb 2 (by simp)).1, (box_at hb 3 (by simp)).1, (box_at hb 4 (by simp)).1⟩
      have HFX : Hid (∀ W', Below X.heap.size X W' → W'.frozen? ⟨w0.heap.size, 4, none⟩ = false) := hid_of fun W' hW => by
        have hb := (hW.block _ (by omega)).trans nB
        exact (box_at hb 4 (by simp)).2
      have HCT := hid_of (fun W' (hW : Below X.heap.size X W') => copyTexts_own ah aa ac W' (fun b => b < w.heap.size) (hS.mono fun b hb2 => (hW.block b (by omega)).trans (bB.block b (by omega))) (by omega))
      clear q0 q1 q2 q3 q4
      go_cut [10] (fun r wx => ∃ g cap, r = .slice (some ⟨g, 0, none⟩) (ah.length + 1) cap ∧ Hid (Strs wx (fun b => X.heap.size ≤ b ∧ b < wx.heap.size) (ah ++ [keyS s]) (some ⟨g, 0, none⟩) ∧ ah.length + 1 ≤ cap) ∧ Below X.heap.size X wx)
      case first =>
        refine wp_region_held_drew (S := (fun w' => w'.cell? ⟨w0.heap.size, 0, none⟩ = some (.string s.al) ∧ w'.cell? ⟨w0.heap.size, 1, none⟩ = some (.string s.name) ∧ w'.cell? ⟨w0.heap.size, 2, none⟩ = some (.bool s.one) ∧ w'.cell? ⟨w0.heap.size, 3, none⟩ = some (.int .i64 s.id) ∧ w'.cell? ⟨w0.heap.size, 4, none⟩ = some (.slice sa s.kids.length sc))) (by kernel_rfl) (HBX.out _ (Below.refl _ _).drew) (fun hHeld => ?_)
        have bX : Below X.heap.size X X.drew := (Below.refl _ _).drew
        generalize X.drew = wD at *
        refine tkH 0 hHeld ?_
        refine tkH 2 hHeld ?_
        refine rdyH [1] ?_
        refine rcH (fun K hK => ?_) AllReadyH.nil
        go_simp
        refine (HCT.out wD bX).mono ?_
        rintro e wC ⟨cv, rfl, hcv, bC⟩
        have HOV : Hid (∀ W', Below wC.heap.size wC W' → W'.ownsRow X.heap.size 9 1 cv ah.length (ah.map Value.string)) := hid_of fun W' hW => owns_low (owns_keep' hcv hW) bX.size
        have bX := bX.trans (bC.mono bX.size)
        clear hcv
        refine hK.out _ _ (HBX.out _ bX) (fun hHeld => ?_)
        clear hK K
        try simp only [Act.put, List.setIfInBounds_toArray, List.set_cons_zero, List.set_cons_succ]
        refine rdyH [3] ?_
        refine rcH (fun K hK => ?_) AllReadyH.nil
        go_simp
        refine (answeredAs_any s wC _ _ _).mono ?_
        rintro e wK ⟨rfl, bK⟩
        have bX := bX.trans (bK.mono bX.size)
        refine hK.out _ _ (HBX.out _ bX) (fun hHeld => ?_)
        clear hK K
        try simp only [Act.put, List.setIfInBounds_toArray, List.set_cons_zero, List.set_cons_succ]
        refine rdyH [4] ?_
        refine rcH (fun K hK => ?_) AllReadyH.nil
        go_simp
        have bA := below_box wK (.cells #[.string (keyS s)] 9)
        have nA := block_new (w := wK) #[.string (keyS s)] 9 rfl
        have zA : wK.heap.size < (wK.alloc (.cells #[.string (keyS s)] 9)).heap.size := by simp
        have bX := bX.trans (bA.mono bX.size)
        refine hK.out _ _ (HBX.out _ bX) (fun hHeld => ?_)
        clear hK K
        try simp only [Act.put, List.setIfInBounds_toArray, List.set_cons_zero, List.set_cons_succ]
        generalize wK.alloc (.cells #[.string (keyS s)] 9) = wA at *
        refine rdyH [5] ?_
        refine rcH (fun K hK => ?_) AllReadyH.nil
        refine step_append_lies _ rfl (.tmp 19) (.tmp 22) 29 rfl X.heap.size 9 i9 (.string ByteArray.empty) 1 16 Tryz.underlying29 hi9 hy0 hy1 hy2 rfl (by decide) cv ah.length (ah.map Value.string) rfl (HOV.out wA (bK.trans (bA.mono bK.size))) ⟨wK.heap.size, 0, none⟩ 1 1 [.string (keyS s)] rfl rfl (World.news_of_block nA) (by intro u hu; simp at hu; subst hu; rfl) (by omega) (by unfold maxLen; omega) (by omega) bX.size wA.heap.size rfl ?_
        intro g cap wP hown hgrow hat hltP
        have bX := bX.grown hgrow bX.size (fun k hk => (HOV.out wA (bK.trans (bA.mono bK.size))).lt k hk |>.1)
        have HOW := hid_of (And.intro hown hltP)
        clear hown hgrow hat
        refine hK.out _ _ (HBX.out _ bX) (fun hHeld => ?_)
        clear hK K
        try simp only [Act.put, List.setIfInBounds_toArray, List.set_cons_zero, List.set_cons_succ]
        refine tkH 6 hHeld ?_
        refine wpAnyH_done (by kernel_rfl) ?_ _
        have HWY := hid_of (strsOf HOW.out.1 HKM.out hS.2.1 (by unfold maxLen; omega) HOW.out.2)
        go_wp2_with fail
        go_meet
        case rel => exact ⟨g, cap, rfl, HWY, bX⟩
      case rest =>
      obtain ⟨g, cap, rfl, HWY, bP⟩ := hcut
      obtain ⟨wP, rfl⟩ : ∃ x, x = wc := ⟨wc, rfl⟩
      have zP := bP.size
      have b0P : Below w0.heap.size w0 wP := bB.trans (bP.mono (by omega))
      obtain ⟨p0, p1, p2, p3, p4⟩ := HBX.out wP bP
      go_wp2_with fail
      refine (HIH.out wP b0P g cap (HWY.out.1.sub fun b hb2 => hb2.2)).mono ?_
      rintro e w5 ⟨a5, c5, rfl, hO5, hb5⟩
      have z5 := hb5.size
      have b05 := b0P.trans (hb5.mono b0P.size)
      have bX5 := bP.trans (hb5.mono bP.size)
      have HO5 := hid_of hO5
      generalize hKK : lessI f (ah ++ [keyS s]) wo.toList s.kids s.kids.length = K at *
      have HKK := hid_of hKK
      have HCT2 := hid_of (HWT.out w5 g cap (HWY.out.1.mono (fun b hb2 => hb5.block b hb2.2) |>.sub fun b hb2 => by omega) HWY.out.2)
      obtain ⟨nK, hnK⟩ : ∃ n, n = K.length := ⟨_, rfl⟩
      obtain ⟨ns, hns⟩ : ∃ n, n = s.kids.length := ⟨_, rfl⟩
      rw [← hnK]
      have HNK := hid_of hnK
      have HNS := hid_of hns
      clear hKK hO5 p0 p1 p2 p3 p4 HIH HWT HCT hnK hns
      go_wp2_with fail
      refine HCT2.out.mono ?_
      rintro e w6 ⟨⟨t, rfl, htj, hts⟩, hb6⟩
      have z6 := hb6.size
      have b06 := b05.trans (hb6.mono b05.size)
      have bX6 := bX5.trans (hb6.mono bX5.size)
      have HO6 := hid_of (HO5.out.keep fun b hb2 => hb6.block b hb2.2)
      have HTJ := hid_of htj
      obtain ⟨x0, x1, x2, x3, x4⟩ := HBX.out w6 bX6
      have xf := HFX.out w6 bX6
      rw [← HNS.out] at x4
      clear HCT2 htj hts HO5 hb6 hb5 bX5 b05 bP nB bB HWY
      have HOL := hid_of (fun j => HG.out.row.row.lt j)
      have HOB : Hid (∀ y ∈ es, ∀ b, y.Q b → b < w0.heap.size) := hid_of fun y hy b hq => ((HG.out.row.kid y hy).2 b hq).1
      obtain ⟨W, hW⟩ : ∃ W, W = w6.setCell ⟨w0.heap.size, 4, none⟩ (.slice a5 nK c5) := ⟨_, rfl⟩
      have hbW : Below w0.heap.size w0 W := by rw [hW]; exact b06.setCell (Nat.le_refl _) _
      have zW : W.heap.size = w6.heap.size := by rw [hW]; exact size_set _ _ _
      have HRW := hid_of (HO6.out.keep (w' := W) fun b hq => by
        rw [hW]
        refine Below.heap_setCell _ _ _ _ ?_
        show b ≠ w0.heap.size
        omega)
      have HGW := hid_of (HG.out.keep hbW)
      have hrowW := HGW.out.row.row
      cases hq : (t.toList == wo.toList)
      rotate_left
      · have HONE := hid_of (show oneI wo.toList (joinW (ah ++ [keyS s])) s K = [] by
          unfold oneI
          rw [if_pos]
          left
          rw [← HTJ.out]
          simpa using hq)
        clear hW xf
        go_wp2_with fail
        go_roundw
        case measure => simp [intOf]; omega
        case rel => exact ⟨k + 1, es, by omega, by go_num, hid_of (by rw [HLS.out, HONE.out, HM.out]; simp), hid_of (HG.out.keep b06).next, hb.trans (b06.mono zb)⟩
      have HNQ := hid_of (show ¬ joinW (ah ++ [keyS s]) = wo.toList from fun h => by
        rw [HTJ.out, h] at hq
        simp at hq)
      by_cases hn0 : ns = 0
      · have HONE := hid_of (show oneI wo.toList (joinW (ah ++ [keyS s])) s K = [s.sub K] by
          unfold oneI
          rw [if_neg]
          rintro (h | ⟨h1, -⟩)
          · exact HNQ.out h
          · exact h1 (List.length_eq_zero_iff.1 (by rw [← HNS.out]; exact hn0)))
        subst hn0
        go_wp2_with (
         at_builtin
         rw [← hW]
         refine wpList_append_own_at _ rfl _ _ 23 rfl w.heap.size 56 i0 zeroSe 5 72 Tryz.underlying23 hi0 hz0 hz1 hz2 rfl (by decide) _ es.length _ rfl (hrowW.alloc _) ⟨w6.heap.size, 0, none⟩ 1 1 [.string s.al, .string s.name, .bool s.one, .int .i64 s.id, .slice a5 nK c5] rfl rfl (by rw [← zW]; exact World.news_of_block (heap_alloc_new W _)) (by intro u hu; simp at hu; rcases hu with rfl | rfl | rfl | rfl | rfl <;> rfl) (by unfold maxLen; omega) (by omega) (by simp; omega) ?_
         intro v' w7 hown hgrow hnn hob
         refine Hid.out ?_)
        refine hid_of ?_
        have hpush := LI.push (N := w0.heap.size) (HGW.out.keep (below_box W _)) ⟨s.sub K, a5, c5, fun b => wP.heap.size ≤ b ∧ b < w5.heap.size⟩ (by unfold El.cells; simp only [Se.sub]; rw [← HNK.out]) hown hgrow hob (HRW.out.keep fun b hq => (below_box W _).block b (by omega)) (fun b hq => ⟨by simp; omega, fun e2 => by have := HOL.out b e2; omega⟩) (fun b hq => by omega) HOB.out HSZ.out
        have hb7 : Below w.heap.size w w7 := ((hb.trans (hbW.mono zb)).alloc (by omega) _).grown hgrow (by simp; omega) (fun j hj => (HOL.out j hj).1)
        have HP := hid_of hpush
        clear hown hgrow hnn hob hpush
        go_wp2_with fail
        go_roundw
        case measure => simp [intOf]; omega
        case rel => exact ⟨k + 1, _, by omega, by go_num, hid_of (by rw [HLS.out, HONE.out, List.map_append, HM.out]; rfl), HP, hb7⟩
      have hn1 : 0 < ns := by omega
      have hn2 : ¬ (ns : Int) ≤ 0 := by omega
      by_cases hK0 : nK = 0
      · have HONE := hid_of (show oneI wo.toList (joinW (ah ++ [keyS s])) s K = [] by
          unfold oneI
          rw [if_pos]
          right
          exact ⟨fun e => hn0 (by rw [HNS.out, e]; rfl), List.length_eq_zero_iff.1 (by rw [← HNK.out]; exact hK0)⟩)
        subst hK0
        clear hW xf
        go_wp2_with fail
        go_roundw
        case measure => simp [intOf]; omega
        case rel => exact ⟨k + 1, es, by omega, by go_num, hid_of (by rw [HLS.out, HONE.out, HM.out]; simp), hid_of (HG.out.keep b06).next, hb.trans (b06.mono zb)⟩
      · have HONE := hid_of (show oneI wo.toList (joinW (ah ++ [keyS s])) s K = [s.sub K] by
          unfold oneI
          rw [if_neg]
          rintro (h | ⟨-, h1⟩)
          · exact HNQ.out h
          · exact hK0 (by rw [HNK.out, h1]; rfl))
        have hK1 : ((nK : Int) == 0) = false := beq_eq_false_iff_ne.2 (by omega)
        go_wp2_with (
         at_builtin
         rw [← hW]
         refine wpList_append_own_at _ rfl _ _ 23 rfl w.heap.size 56 i0 zeroSe 5 72 Tryz.underlying23 hi0 hz0 hz1 hz2 rfl (by decide) _ es.length _ rfl (hrowW.alloc _) ⟨w6.heap.size, 0, none⟩ 1 1 [.string s.al, .string s.name, .bool s.one, .int .i64 s.id, .slice a5 nK c5] rfl rfl (by rw [← zW]; exact World.news_of_block (heap_alloc_new W _)) (by intro u hu; simp at hu; rcases hu with rfl | rfl | rfl | rfl | rfl <;> rfl) (by unfold maxLen; omega) (by omega) (by simp; omega) ?_
         intro v' w7 hown hgrow hnn hob
         refine Hid.out ?_)
        refine hid_of ?_
        have hpush := LI.push (N := w0.heap.size) (HGW.out.keep (below_box W _)) ⟨s.sub K, a5, c5, fun b => wP.heap.size ≤ b ∧ b < w5.heap.size⟩ (by unfold El.cells; simp only [Se.sub]; rw [← HNK.out]) hown hgrow hob (HRW.out.keep fun b hq => (below_box W _).block b (by omega)) (fun b hq => ⟨by simp; omega, fun e2 => by have := HOL.out b e2; omega⟩) (fun b hq => by omega) HOB.out HSZ.out
        have hb7 : Below w.heap.size w w7 := ((hb.trans (hbW.mono zb)).alloc (by omega) _).grown hgrow (by simp; omega) (fun j hj => (HOL.out j hj).1)
        have HP := hid_of hpush
        clear hown hgrow hnn hob hpush
        go_wp2_with fail
        go_roundw
        case measure => simp [intOf]; omega
        case rel => exact ⟨k + 1, _, by omega, by go_num, hid_of (by rw [HLS.out, HONE.out, List.map_append, HM.out]; rfl), HP, hb7⟩
end Go.Proofs.YtokmgbidmnanpaaGreatDoor
