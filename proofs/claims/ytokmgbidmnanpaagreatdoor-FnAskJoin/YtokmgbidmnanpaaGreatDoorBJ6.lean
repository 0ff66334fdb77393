import Derived.Test.YtokmgbidmnanpaaGreatDoorBJ4
set_option linter.unusedSimpArgs false
set_option linter.unusedVariables false
namespace Go.Proofs.YtokmgbidmnanpaaGreatDoor
open Go.RowKit Go.Shelf Go.Maps
set_option maxRecDepth 20000 in
set_option maxHeartbeats 1600000 in
theorem l12Join_any : ∀ (f : Nat) (a b : List Se) (w : World) (P : Nat → Prop) (B : Nat) (ka kb : Option Addr) (kc kd : Nat), FitS f a → FitS f b → Nd f a → Nd f b → cntTo f a a.length + cntTo f b b.length ≤ 1000 → SeReps w P a ka → (∀ j, P j → j < w.heap.size) → SeReps w (· < B) b kb → B ≤ w.heap.size →
    Calls Tryz.prog 63 #[.slice ka a.length kc, .slice kb b.length kd] w fun e w' => JEndM B w (joinF f a b) e w' := by
  intro f
  induction f with
  | zero =>
    intro a b w P B ka kb kc kd hfa hfb hna hnb hcn hRa hP hRb hB
    have ea : a = [] := hfa
    have eb : b = [] := hfb
    subst ea eb
    have HC := hid_of (l3Copy_any 0 [] w P ka kc rfl (by simp [cntTo]) hRa hP)
    clear hRa hRb
    go_enter Tryz.func63, Tryz.ntmps63
    go_wp2_with fail
    refine HC.out.mono ?_
    rintro e w1 ⟨a1, c1, rfl, -, hb1⟩
    go_wp2_with fail
    go_loopw [6, 7] (fun o i wr => i = .int .i64 0 ∧ o = .slice a1 0 c1 ∧ wr = w1) (fun _ _ _ => 0)
    case atStart => exact ⟨rfl, rfl, rfl⟩
    case round =>
      obtain ⟨rfl, rfl, rfl⟩ := hrel
      go_wp2_with fail
      go_ret2
      exact ⟨hb1, Or.inr ⟨[], a1, c1, rfl, rfl, ⟨by simp, fun _ _ => .bool false, fun hn => by simp at hn, fun i hi => by simp at hi⟩⟩⟩
  | succ f IH =>
    intro a b w P B ka kb kc kd hfa hfb hna hnb hcn hRa hP hRb hB
    obtain ⟨i0, hi0, hz0, hz1, hz2⟩ := info_parts info_Sel
    have h72b := hRb.1
    have hla : a.length ≤ 1000 := Nat.le_trans (cntTo_ge a f _) (by omega)
    have hlb : b.length ≤ 1000 := Nat.le_trans (cntTo_ge b f _) (by omega)
    have HC := hid_of (l3Copy_row (f + 1) a w P ka kc hfa (by omega) hRa hP)
    have HRB := hid_of hRb
    have HF := hid_of (And.intro hfa (And.intro hfb (And.intro hna (And.intro hnb hcn))))
    have HIH := hid_of IH
    clear hRa hRb hfa hfb hcn hna hnb IH hP
    go_enter Tryz.func63, Tryz.ntmps63
    go_wp2_with fail
    refine HC.out.mono ?_
    rintro e w1 ⟨es1, v1, rfl, hm1, hr1, hq1, hnn1, hsz1, hb1⟩
    have HL1 : Hid (LJ B w.heap.size (a.length + 0) es1 v1 w1) := hid_of ⟨by rw [← hm1]; simp, hr1, fun e he b hq => Or.inr (hq1 e he b hq), hsz1, hnn1⟩
    have HM1 := hid_of hm1
    clear hm1 hr1 hq1 hnn1 hsz1 HC
    go_wp2_with fail
    go_loopw [6, 7] (fun o i wr => ∃ (k : Nat) (es : List El) (out : List Se), k ≤ b.length ∧ i = .int .i64 k ∧ Hid (joinTo (joinF f) a b k = some out) ∧ Hid (es.map El.s = out) ∧ Hid (LJ B w.heap.size (a.length + k) es o wr) ∧ Below w.heap.size w wr) (fun _ i _ => b.length - (intOf i).toNat)
    case atStart => exact ⟨0, es1, a, Nat.zero_le _, rfl, hid_of rfl, HM1, HL1, hb1⟩
    case round =>
      clear HL1 HM1 hb1
      clear w1 es1
      obtain ⟨k, es, out, hk, rfl, HJT, HM, HG, hb⟩ := hrel
      obtain ⟨w0, rfl⟩ : ∃ x, x = wr := ⟨wr, rfl⟩
      have zb := hb.size
      have hesk := HG.out.len
      obtain ⟨g, cap, rfl⟩ := HG.out.row.form HG.out.nn
      have hlo : es.length = out.length := by rw [← HM.out]; simp
      have HLO := hid_of hlo
      clear hlo
      by_cases hlt : k < b.length
      case neg =>
        have e : k = b.length := by omega
        subst e
        obtain ⟨a', c', e, hRR⟩ := HG.out.row.reps (fun _ _ _ _ h => h) (by omega) HG.out.sz (fun j => j < B ∨ (w.heap.size ≤ j ∧ j < w0.heap.size)) (fun j hj => Or.inr hj) (fun e he j hq => (HG.out.low e he j hq).imp id fun h => ⟨h, ((HG.out.row.kid e he).2 j hq).1⟩)
        simp only [Value.slice.injEq, true_and] at e
        obtain ⟨rfl, rfl⟩ := e
        rw [HM.out] at hRR
        have HRR := hid_of hRR
        have HJJ := hid_of (show joinF (f + 1) a b = some out from HJT.out)
        clear hRR
        go_wp2_with fail
        go_ret2
        exact ⟨hb, Or.inr ⟨out, _, _, HJJ.out, by rw [← HLO.out]; rfl, HRR.out⟩⟩
      have hki : (k : Int) < (b.length : Int) := by omega
      obtain ⟨-, C, hA, hr⟩ := HRB.out.mono fun j hb2 => hb.block j (by omega)
      obtain ⟨kb', koff, rfl, hkB, hkc⟩ := hA (by omega)
      obtain ⟨sa, sc, e0, e1, e2, e3, e4, hal, hnm, hKids⟩ := (hr k hlt).pieces
      have q0 : w0.cell? ⟨kb', koff + k * 5, none⟩ = some (.string (sth b k).al) := e0 ▸ hkc k hlt 0 (by omega)
      have q1 : w0.cell? ⟨kb', koff + k * 5 + 1, none⟩ = some (.string (sth b k).name) := e1 ▸ hkc k hlt 1 (by omega)
      have q2 : w0.cell? ⟨kb', koff + k * 5 + 2, none⟩ = some (.bool (sth b k).one) := e2 ▸ hkc k hlt 2 (by omega)
      have q3 : w0.cell? ⟨kb', koff + k * 5 + 3, none⟩ = some (.int .i64 (sth b k).id) := e3 ▸ hkc k hlt 3 (by omega)
      have q4 : w0.cell? ⟨kb', koff + k * 5 + 4, none⟩ = some (.slice sa (sth b k).kids.length sc) := e4 ▸ hkc k hlt 4 (by omega)
      have hcb := cntTo_mono (f + 1) b (show k + 1 ≤ b.length by omega)
      rw [cntTo_succ, cntSe_kids] at hcb
      have hco := joinTo_cnt (by omega) HJT.out
      have hfo := joinTo_fit HF.out.1 HF.out.2.1 (by omega) HJT.out
      have hno := joinTo_nd HF.out.2.2.1 HF.out.2.2.2.1 (by omega) HJT.out
      have HJR := hid_of (fun (i : Nat) (hi : i < out.length) W (hW : Below w0.heap.size w0 W) xa xc (Q : Nat → Prop) (hx : SeReps W Q (sth out i).kids xa) (hQ : ∀ j, Q j → j < W.heap.size) => HIH.out (sth out i).kids (sth b k).kids W Q B xa sa xc sc (hfo i hi) (HF.out.2.1 k hlt) (hno.2 i hi) (HF.out.2.2.2.1.2 k hlt) (by
        have h1 := cntTo_mono (f + 1) out (show i + 1 ≤ out.length by omega)
        rw [cntTo_succ, cntSe_kids] at h1
        have := HF.out.2.2.2.2
        omega) hx hQ (hKids.mono fun j hj => hW.block j (by omega)) (by have := hW.size; omega))
      have HST := hid_of (joinTo_at HJT.out)
      have HNO := hid_of (fun (h : joinTo (joinF f) a b (k + 1) = none) => show joinF (f + 1) a b = none from joinTo_none h b.length hlt)
      have HSZ := hid_of (And.intro hal hnm)
      have HLM := hid_of (lastM_mate (k := keyS (sth b k)) hno)
      have HQB := hid_of (fun W (hW : Below w0.heap.size w0 W) => show W.cell? ⟨kb', koff + k * 5, none⟩ = some (.string (sth b k).al) ∧ W.cell? ⟨kb', koff + k * 5 + 1, none⟩ = some (.string (sth b k).name) ∧ W.cell? ⟨kb', koff + k * 5 + 2, none⟩ = some (.bool (sth b k).one) ∧ W.cell? ⟨kb', koff + k * 5 + 3, none⟩ = some (.int .i64 (sth b k).id) ∧ W.cell? ⟨kb', koff + k * 5 + 4, none⟩ = some (.slice sa (sth b k).kids.length sc) ∧ SeReps W (· < B) (sth b k).kids sa by
        have hc : ∀ o, W.cell? ⟨kb', o, none⟩ = w0.cell? ⟨kb', o, none⟩ := fun o => hW.cell (p := ⟨kb', o, none⟩) (by show kb' < _; omega)
        rw [hc, hc, hc, hc, hc]
        exact ⟨q0, q1, q2, q3, q4, hKids.mono fun j hj => hW.block j (by omega)⟩)
      clear e0 e1 e2 e3 e4 hkc hr hA hKids hcb hal hnm hco hfo hno q0 q1 q2 q3 q4
      generalize sth b k = s at *
      have HEX := hid_of (fun (m : Nat) (hm : m < es.length) W (hW : Below w0.heap.size w0 W) => show ∃ xa xc, Cells5 W g (m * 5) (sth out m) xa xc ∧ W.frozen? ⟨g, m * 5 + 4, none⟩ = false by
        obtain ⟨hc5, hgl, -, hfz⟩ := HG.out.cells m hm
        have hes : (es[m]).s = sth out m := by rw [← HM.out]; simp [sth, List.getD_eq_getElem?_getD, hm]
        rw [hes] at hc5
        exact ⟨_, _, hc5.keep (hW.block g hgl), (World.frozen?_of_block (a := ⟨g, m * 5 + 4, none⟩) (hW.block g hgl)).trans hfz⟩)
      have HK2 := hid_of (fun W v2 v3 v4 => l3Key_any s W v2 v3 v4)
      have hesi : es.length ≤ 2000 := by omega
      go_wp2_with fail
      go_loopw [8, 9] (fun t j wr => ∃ (m : Nat) (q : Int), m ≤ es.length ∧ j = .int .i64 m ∧ t = .int .i64 q ∧ Hid (q = lastM out (keyS s) m) ∧ Below w0.heap.size w0 wr) (fun _ j _ => es.length - (intOf j).toNat)
      case atStart => exact ⟨0, -1, Nat.zero_le _, rfl, rfl, hid_of rfl, Below.refl _ _⟩
      case round =>
        obtain ⟨m, q, hm, rfl, rfl, HQ, hb2⟩ := hrel
        obtain ⟨w2, rfl⟩ : ∃ x, x = wr := ⟨wr, rfl⟩
        have z2 := hb2.size
        by_cases hlt2 : m < es.length
        · have hmi : (m : Int) < (es.length : Int) := by omega
          obtain ⟨xa, xc, ⟨c0, c1, c2, c3, c4⟩, -⟩ := HEX.out m hlt2 w2 hb2
          obtain ⟨d0, d1, d2, d3, d4, -⟩ := HQB.out w2 hb2
          have HNX := hid_of (show lastM out (keyS s) (m + 1) = if (keyS (sth out m)).toList == (keyS s).toList then ((m : Nat) : Int) else lastM out (keyS s) m from rfl)
          have HK1 := hid_of (fun W v2 v3 v4 => l3Key_any (sth out m) W v2 v3 v4)
          have HC1 := hid_of (fun W (hW : Below w2.heap.size w2 W) => show Cells5 W g (m * 5) (sth out m) xa xc ∧ _ from ⟨(show Cells5 w2 g (m * 5) (sth out m) xa xc from ⟨c0, c1, c2, c3, c4⟩).keep (hW.block g (cell_block c0)), HQB.out W (hb2.trans (hW.mono z2))⟩)
          generalize sth out m = x at *
          cases hq : ((keyS x).toList == (keyS s).toList)
          all_goals
            rw [hq] at HNX
            go_wp2_with fail
            go_region_held3 (fun w' => w'.cell? ⟨g, m * 5, none⟩ = some (.string x.al) ∧ w'.cell? ⟨g, m * 5 + 1, none⟩ = some (.string x.name) ∧ w'.cell? ⟨g, m * 5 + 2, none⟩ = some (.bool x.one) ∧ w'.cell? ⟨g, m * 5 + 3, none⟩ = some (.int .i64 x.id) ∧ w'.cell? ⟨g, m * 5 + 4, none⟩ = some (.slice xa x.kids.length xc) ∧ w'.cell? ⟨kb', koff + k * 5, none⟩ = some (.string s.al) ∧ w'.cell? ⟨kb', koff + k * 5 + 1, none⟩ = some (.string s.name) ∧ w'.cell? ⟨kb', koff + k * 5 + 2, none⟩ = some (.bool s.one) ∧ w'.cell? ⟨kb', koff + k * 5 + 3, none⟩ = some (.int .i64 s.id) ∧ w'.cell? ⟨kb', koff + k * 5 + 4, none⟩ = some (.slice sa s.kids.length sc)) (go_keep)
              (first
                | (
                  go_at_call_of 81 (Value.agg #[.string x.al, .string x.name, .bool x.one, .int .i64 x.id, .slice xa x.kids.length xc])
                  refine (HK1.out w2.drew _ _ _).mono ?_
                  rintro e w3 ⟨rfl, hb3⟩
                  have b3 := below_undrew hb3
                  clear hb3
                  obtain ⟨⟨c0', c1', c2', c3', c4'⟩, d0', d1', d2', d3', d4', -⟩ := HC1.out w3 b3)
                | (
                  go_at_call_of 81 (Value.agg #[.string s.al, .string s.name, .bool s.one, .int .i64 s.id, .slice sa s.kids.length sc])
                  refine (HK2.out w3 _ _ _).mono ?_
                  rintro e w4 ⟨rfl, hb4⟩
                  have b4 := b3.trans (hb4.mono b3.size)
                  obtain ⟨⟨c0'', c1'', c2'', c3'', c4''⟩, d0'', d1'', d2'', d3'', d4'', -⟩ := HC1.out w4 b4))
            all_goals
              have b04 := hb2.trans (b4.mono z2)
              go_wp2_with fail
              go_roundw
              case measure => simp [intOf]; omega
              case rel => exact ⟨m + 1, _, by omega, by go_num, rfl, hid_of (by rw [HNX.out]; first | rfl | exact HQ.out), b04⟩
        have e : m = es.length := by omega
        subst e
        clear hlt2 hm
        have HQM := hid_of (show q = mateI out (keyS s) by rw [HQ.out, HLO.out]; exact HLM.out)
        clear HQ HLM
        have HOL := hid_of (fun j => HG.out.row.row.lt j)
        have hbw2 := hb.trans (hb2.mono zb)
        cases hmt : mateS out (keyS s) with
        | none =>
          obtain rfl : q = -1 := by rw [HQM.out]; unfold mateI; rw [hmt]
          have HSN := hid_of (show joinTo (joinF f) a b (k + 1) = some (out ++ [s]) by rw [HST.out, stepJ_new hmt])
          clear hmt HQM
          obtain ⟨d0, d1, d2, d3, d4, hKs⟩ := HQB.out w2 hb2
          have HKS := hid_of hKs
          have HG3 := hid_of (HG.out.keep hb2)
          have hrow := HG3.out.row.row
          clear hKs
          go_wp2_with (
            at_builtin
            refine wpList_append_own_at _ rfl _ _ 23 rfl w.heap.size 56 i0 zeroSe 5 72 Tryz.underlying23 hi0 hz0 hz1 hz2 rfl (by decide) _ es.length _ rfl (hrow.alloc _) ⟨w2.heap.size, 0, none⟩ 1 1 [.string s.al, .string s.name, .bool s.one, .int .i64 s.id, .slice sa s.kids.length sc] rfl rfl (World.news_of_block (heap_alloc_new w2 _)) (by intro u hu; simp at hu; rcases hu with rfl | rfl | rfl | rfl | rfl <;> rfl) (by unfold maxLen; omega) (by omega) (by simp; omega) ?_
            intro v' w7 hown hgrow hnn hob
            refine Hid.out ?_)
          refine hid_of ?_
          have hpush := LJ.push (HG3.out.keep (below_box w2 _)) ⟨s, sa, sc, (· < B)⟩ rfl hown hgrow hnn hob (HKS.out.mono fun j hq => (below_box w2 _).block j (by have : j < B := hq; omega)) (fun j hq => ⟨by have : j < B := hq; simp; omega, fun e2 => by have : j < B := hq; have := HOL.out j e2; omega⟩) (fun j hq => Or.inl hq) HSZ.out
          have hb7 : Below w.heap.size w w7 := (hbw2.alloc (by omega) _).grown hgrow (by simp; omega) (fun j hj => (HOL.out j hj).1)
          have HP := hid_of hpush
          obtain ⟨g7, cap7, rfl⟩ := hpush.row.form hpush.nn
          clear hown hgrow hnn hob hpush
          go_wp2_with fail
          go_roundw
          case measure => simp [intOf]; omega
          case rel => exact ⟨k + 1, _, _, by omega, by go_num, HSN, hid_of (by rw [List.map_append, HM.out]; rfl), HP, hb7⟩
        | some i =>
          obtain rfl : q = (i : Nat) := by rw [HQM.out]; unfold mateI; rw [hmt]
          have hil := (mateS_some.1 hmt).1
          have hie : i < es.length := by rw [HLO.out]; exact hil
          have hii : (i : Int) < (es.length : Int) := by omega
          have hi0' : ¬ (i : Int) < 0 := by omega
          obtain ⟨hc5, hgl, hgX, hfz⟩ := HG.out.cells i hie
          obtain ⟨hki1, hki2⟩ := HG.out.row.kid _ (List.getElem_mem hie)
          have hes : (es[i]).s = sth out i := by rw [← HM.out]; simp [sth, List.getD_eq_getElem?_getD, hie]
          have HPUT := hid_of (fun W (hW : Below w0.heap.size w0 W) (K : List Se) a' c' (hO : SeReps W (fun j => j < B ∨ (w0.heap.size ≤ j ∧ j < W.heap.size)) K a') => show ∃ es', es'.map El.s = out.set i ((sth out i).sub K) ∧ LJ B w.heap.size (a.length + (k + 1)) es' (.slice (some ⟨g, 0, none⟩) es.length cap) (W.setCell ⟨g, i * 5 + 4, none⟩ (.slice a' K.length c')) from
            ⟨_, by rw [map_set_s es i hie a' c' (fun j => j < B ∨ (w0.heap.size ≤ j ∧ j < W.heap.size)) K, HM.out], (LJ.put (HG.out.keep hW) i hie a' c' _ K hO (fun j hj => by have := hW.size; omega) (fun j hj => by omega)).next⟩)
          rw [hes] at hc5 hki1
          have HJ0 := hid_of (fun W (hW : Below w0.heap.size w0 W) => HJR.out i hil W hW (es[i]).ka (es[i]).kc (es[i]).Q (hki1.mono fun j hj => hW.block j (hki2 j hj).1) (fun j hj => by have := (hki2 j hj).1; have := hW.size; omega))
          have HREC := hid_of (fun ha => HST.out.trans (stepJ_rec (rec := joinF f) hmt ha))
          have HNOT := hid_of (fun ha => HST.out.trans (stepJ_not (rec := joinF f) hmt ha))
          generalize (es[i]).ka = xa at *
          generalize (es[i]).kc = xc at *
          clear hki1 hki2 hes HJR hmt HQM HEX
          generalize sth out i = x at *
          have bY := below_box w2 (.cells #[.string x.al, .string x.name, .bool x.one, .int .i64 x.id, .slice xa x.kids.length xc] 56)
          have zY : (w2.alloc (.cells #[.string x.al, .string x.name, .bool x.one, .int .i64 x.id, .slice xa x.kids.length xc] 56)).heap.size = w2.heap.size + 1 := by simp
          have HBX := hid_of (fun W (hW : Below (w2.alloc (.cells #[.string x.al, .string x.name, .bool x.one, .int .i64 x.id, .slice xa x.kids.length xc] 56)).heap.size (w2.alloc (.cells #[.string x.al, .string x.name, .bool x.one, .int .i64 x.id, .slice xa x.kids.length xc] 56)) W) => (BoxS.new w2 x xa xc).keep hW)
          obtain ⟨c0, c1, c2, c3, c4⟩ := hc5.keep (hb2.block g hgl)
          go_wp2_with fail
          generalize w2.alloc (.cells #[.string x.al, .string x.name, .bool x.one, .int .i64 x.id, .slice xa x.kids.length xc] 56) = Y at *
          clear c0 c1 c2 c3 c4
          have HCF := hid_of (fun W (hW : Below Y.heap.size Y W) => show (W.cell? ⟨g, i * 5 + 4, none⟩ = some (.slice xa x.kids.length xc) ∧ W.frozen? ⟨g, i * 5 + 4, none⟩ = false) ∧ (W.cell? ⟨w2.heap.size, 1, none⟩ = some (.string x.name) ∧ W.cell? ⟨w2.heap.size, 2, none⟩ = some (.bool x.one) ∧ W.cell? ⟨w2.heap.size, 3, none⟩ = some (.int .i64 x.id) ∧ W.cell? ⟨w2.heap.size, 4, none⟩ = some (.slice xa x.kids.length xc)) ∧ (W.cell? ⟨kb', koff + k * 5 + 1, none⟩ = some (.string s.name) ∧ W.cell? ⟨kb', koff + k * 5 + 2, none⟩ = some (.bool s.one) ∧ W.cell? ⟨kb', koff + k * 5 + 3, none⟩ = some (.int .i64 s.id) ∧ W.cell? ⟨kb', koff + k * 5 + 4, none⟩ = some (.slice sa s.kids.length sc)) ∧ Below w0.heap.size w0 W by
            have hW0 := hb2.trans ((bY.trans (hW.mono (by omega))).mono z2)
            obtain ⟨-, d1, d2, d3, d4, -⟩ := HQB.out W hW0
            exact ⟨⟨(hc5.keep (hW0.block g hgl)).2.2.2.2, (World.frozen?_of_block (a := ⟨g, i * 5 + 4, none⟩) (hW0.block g hgl)).trans hfz⟩, (HBX.out W hW).2.2, ⟨d1, d2, d3, d4⟩, hW0⟩)
          have HJ := hid_of (fun W (hW : Below Y.heap.size Y W) => HJ0.out W (HCF.out W hW).2.2.2)
          have HE : Hid (alikeS x s = ((x.name.toList == s.name.toList) && (x.one == s.one) && (x.id == s.id) && (decide (x.kids.length = 0) == decide (s.kids.length = 0)))) := hid_of (by rw [alikeS, empty_len, empty_len])
          clear hc5 hfz HJ0 HBX
          generalize hnx : x.kids.length = nx at *
          generalize hns : s.kids.length = ns at *
          have HNX := hid_of (And.intro hnx hns)
          clear hnx hns
          obtain ⟨⟨c4, cf⟩, ⟨m1, m2, m3, m4⟩, ⟨d1, d2, d3, d4⟩, -⟩ := HCF.out Y (Below.refl _ _)
          go_cut [93] (fun r wx => r = .bool (!(alikeS x s)) ∧ Below Y.heap.size Y wx)
          case first =>
            clear HJ HCF HPUT HREC HNOT HNO HST HIH HG HM HF HRB HQB HJT
            generalize alikeS x s = al at *
            cases f1 : (x.name.toList == s.name.toList)
            · have f1' : (x.name.toList != s.name.toList) = true := by simp only [bne, f1]; rfl
              have HR := hid_of (show al = false by rw [HE.out, f1]; rfl)
              clear HE
              go_quiet (fail)
              go_wp2_with fail
              go_meet
              case rel => exact ⟨by rw [HR.out]; rfl, below_drews (Below.refl _ _) _⟩
            have f1' : (x.name.toList != s.name.toList) = false := by simp only [bne, f1]; rfl
            cases f2 : (x.one == s.one)
            · have f2' : (x.one != s.one) = true := by simp only [bne, f2]; rfl
              have HR := hid_of (show al = false by rw [HE.out, f1, f2]; rfl)
              clear HE
              go_quiet (fail)
              go_wp2_with fail
              go_meet
              case rel => exact ⟨by rw [HR.out]; rfl, below_drews (Below.refl _ _) _⟩
            have f2' : (x.one != s.one) = false := by simp only [bne, f2]; rfl
            cases f3 : (x.id == s.id)
            · have f3' : (x.id != s.id) = true := by simp only [bne, f3]; rfl
              have HR := hid_of (show al = false by rw [HE.out, f1, f2, f3]; rfl)
              clear HE
              go_quiet (fail)
              go_wp2_with fail
              go_meet
              case rel => exact ⟨by rw [HR.out]; rfl, below_drews (Below.refl _ _) _⟩
            have f3' : (x.id != s.id) = false := by simp only [bne, f3]; rfl
            have HR0 := hid_of (show al = (decide (nx = 0) == decide (ns = 0)) by rw [HE.out, f1, f2, f3]; simp)
            clear HE
            by_cases h1 : nx = 0 <;> by_cases h2 : ns = 0
            · subst h1 h2
              have HR := hid_of (show al = true by rw [HR0.out]; rfl)
              go_quiet (fail)
              go_wp2_with fail
              go_meet
              case rel => exact ⟨by rw [HR.out]; rfl, below_drews (Below.refl _ _) _⟩
            · subst h1
              have HR := hid_of (show al = false by rw [HR0.out]; simp [h2])
              have g2 : ((ns : Int) == 0) = false := beq_eq_false_iff_ne.2 (by omega)
              have g3 : (ns == 0) = false := beq_eq_false_iff_ne.2 h2
              have g4 : decide (ns = 0) = false := by simpa using h2
              clear h2
              go_quiet (fail)
              go_wp2_with fail
              go_meet
              case rel => exact ⟨by rw [HR.out]; rfl, below_drews (Below.refl _ _) _⟩
            · subst h2
              have HR := hid_of (show al = false by rw [HR0.out]; simp [h1])
              have g2 : ((nx : Int) == 0) = false := beq_eq_false_iff_ne.2 (by omega)
              have g3 : (nx == 0) = false := beq_eq_false_iff_ne.2 h1
              have g4 : decide (nx = 0) = false := by simpa using h1
              clear h1
              go_quiet (fail)
              go_wp2_with fail
              go_meet
              case rel => exact ⟨by rw [HR.out]; rfl, below_drews (Below.refl _ _) _⟩
            · have HR := hid_of (show al = true by rw [HR0.out]; simp [h1, h2])
              have g2 : ((nx : Int) == 0) = false := beq_eq_false_iff_ne.2 (by omega)
              have g3 : (nx == 0) = false := beq_eq_false_iff_ne.2 h1
              have g4 : decide (nx = 0) = false := by simpa using h1
              have g5 : ((ns : Int) == 0) = false := beq_eq_false_iff_ne.2 (by omega)
              have g6 : (ns == 0) = false := beq_eq_false_iff_ne.2 h2
              have g7 : decide (ns = 0) = false := by simpa using h2
              clear h1 h2
              go_quiet (fail)
              go_wp2_with fail
              go_meet
              case rel => exact ⟨by rw [HR.out]; rfl, below_drews (Below.refl _ _) _⟩
          case rest =>
          obtain ⟨rfl, hA2⟩ := hcut
          obtain ⟨w3, rfl⟩ : ∃ x, x = wc := ⟨wc, rfl⟩
          clear c4 cf m1 m2 m3 m4 d1 d2 d3 d4
          obtain ⟨⟨c4, cf⟩, ⟨m1, m2, m3, m4⟩, ⟨d1, d2, d3, d4⟩, hb03⟩ := HCF.out w3 hA2
          have hbw3 := hb.trans (hb03.mono zb)
          have zA := hA2.size
          cases ha : alikeS x s
          · have hres := hid_of (HNO.out (HNOT.out ha))
            have HBB := hid_of (hbw3.trans ((below_box w3 (.cells #[] 56)).mono hbw3.size))
            go_wp2_with fail
            go_ret2
            exact ⟨HBB.out, Or.inl ⟨hres.out, _, _, rfl⟩⟩
          have HRC := hid_of (HREC.out ha)
          go_wp2_with fail
          cases hjk : joinF f x.kids s.kids with
          | none =>
            rw [hjk] at HJ
            have hres := hid_of (HNO.out (by rw [HRC.out, hjk]; rfl))
            go_region_held3 (fun w' => w'.cell? ⟨w2.heap.size, 4, none⟩ = some (.slice xa nx xc) ∧ w'.cell? ⟨kb', koff + k * 5 + 4, none⟩ = some (.slice sa ns sc)) (go_keep)
              (first
                | (
                  go_at_call 63
                  refine (HJ.out _ hA2.drew).mono ?_
                  rintro e w4 ⟨hb4, hend⟩
                  have hA4 := hA2.drew.trans (hb4.mono (by have := hA2.size; simpa using this))
                  clear hb4
                  obtain ⟨r, rc, rfl⟩ : ∃ r rc, e = .returned (.tuple #[.slice r 0 rc, .bool false]) := by rcases hend with ⟨-, h⟩ | ⟨L, a', c', h, -⟩; exact h; cases h
                  obtain ⟨⟨c4', cf'⟩, ⟨m1', m2', m3', m4'⟩, ⟨d1', d2', d3', d4'⟩, hb04⟩ := HCF.out w4 hA4))
            all_goals
              have HBB := hid_of ((hb.trans (hb04.mono zb)).trans ((below_box w4 (.cells #[] 56)).mono (hb.trans (hb04.mono zb)).size))
              go_wp2_with fail
              go_ret2
              exact ⟨HBB.out, Or.inl ⟨hres.out, _, _, rfl⟩⟩
          | some K =>
            rw [hjk] at HJ
            have HSN := hid_of (show joinTo (joinF f) a b (k + 1) = some (out.set i (x.sub K)) by rw [HRC.out, hjk]; rfl)
            go_region_held3 (fun w' => w'.cell? ⟨w2.heap.size, 4, none⟩ = some (.slice xa nx xc) ∧ w'.cell? ⟨kb', koff + k * 5 + 4, none⟩ = some (.slice sa ns sc)) (go_keep)
              (first
                | (
                  go_at_call 63
                  refine (HJ.out _ hA2.drew).mono ?_
                  rintro e w4 ⟨hb4, hend⟩
                  have hA4 := hA2.drew.trans (hb4.mono (by have := hA2.size; simpa using this))
                  clear hb4
                  obtain ⟨r, rc, rfl, hO4⟩ : ∃ r rc, e = .returned (.tuple #[.slice r K.length rc, .bool true]) ∧ SeReps w4 _ K r := by rcases hend with ⟨h, -⟩ | ⟨L, a', c', h, h2, h3⟩; cases h; cases h; exact ⟨a', c', h2, h3⟩
                  have HO4 := hid_of hO4
                  clear hO4 hend
                  obtain ⟨⟨c4', cf'⟩, ⟨m1', m2', m3', m4'⟩, ⟨d1', d2', d3', d4'⟩, hb04⟩ := HCF.out w4 hA4))
            all_goals
              obtain ⟨es', hes', hLI⟩ := HPUT.out w4 hb04 K r rc (HO4.out.sub fun j hj => hj.imp id fun h => by have := h.1; simp at this; omega)
              have HP := hid_of (And.intro hes' hLI)
              have hb8 : Below w.heap.size w (w4.setCell ⟨g, i * 5 + 4, none⟩ (.slice r K.length rc)) := (hb.trans (hb04.mono zb)).setCell hgX _
              clear hes' hLI
              go_wp2_with fail
              go_roundw
              case measure => simp [intOf]; omega
              case rel => exact ⟨k + 1, es', _, by omega, by go_num, HSN, hid_of HP.out.1, hid_of HP.out.2, hb8⟩
end Go.Proofs.YtokmgbidmnanpaaGreatDoor
