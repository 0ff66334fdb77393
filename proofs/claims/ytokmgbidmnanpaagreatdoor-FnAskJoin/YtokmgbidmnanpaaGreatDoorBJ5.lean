import Derived.Test.YtokmgbidmnanpaaGreatDoorBJ4
set_option linter.unusedSimpArgs false
set_option linter.unusedVariables false
namespace Go.Proofs.YtokmgbidmnanpaaGreatDoor
open Go.RowKit Go.Shelf Go.Maps
set_option maxRecDepth 20000 in
set_option maxHeartbeats 800000 in
theorem joinTrees_zero : JnS 0 := by
  intro a b w ka kb kc kd hfa hfb hcn hRa hRb
  have ea : a = [] := hfa
  have eb : b = [] := hfb
  subst ea eb
  unfold pairsS
  go_enter Tryz.func49, Tryz.ntmps49
  go_wp2_with fail
  go_loopw [8, 19] (fun o i wr => i = .int .i64 0 ∧ o = .slice none 0 0 ∧ wr = w.alloc byS) (fun _ _ _ => 0)
  case atStart => exact ⟨rfl, rfl, rfl⟩
  case round =>
    obtain ⟨rfl, rfl, rfl⟩ := hrel
    go_wp2_with fail
    go_loopw [8, 33] (fun o i wr => i = .int .i64 0 ∧ o = .slice none 0 0 ∧ wr = w.alloc byS) (fun _ _ _ => 0)
    case atStart => exact ⟨rfl, rfl, rfl⟩
    case round =>
      obtain ⟨rfl, rfl, rfl⟩ := hrel
      go_wp2_with fail
      go_ret2
      exact ⟨below_box _ _, Or.inr ⟨[], none, 0, rfl, rfl, OwnT.nil _ _ _ _⟩⟩
set_option maxRecDepth 20000 in
set_option maxHeartbeats 1600000 in
theorem joinTrees_step (f : Nat) (IH : JnS f) : JnS (f + 1) := by
  intro a b w ka kb kc kd hfa hfb hcn hRa hRb
  obtain ⟨i0, hi0, hz0, hz1, hz2⟩ := info_parts info_Sel
  have h72a := hRa.1
  have h72b := hRb.1
  have hla : a.length ≤ 1000 := Nat.le_trans (cntTo_ge a f _) (by omega)
  have hlb : b.length ≤ 1000 := Nat.le_trans (cntTo_ge b f _) (by omega)
  have HRA := hid_of hRa
  have HRB := hid_of hRb
  have HF := hid_of (And.intro hfa (And.intro hfb hcn))
  have HIH := hid_of IH
  clear hRa hRb hfa hfb hcn IH
  have bX := below_box w byS
  have zX : (w.alloc byS).heap.size = w.heap.size + 1 := by simp
  have HBY := hid_of (fun W (hW : Below (w.alloc byS).heap.size (w.alloc byS) W) => (ByAt.new w).keep (by simp) hW)
  unfold pairsS
  go_enter Tryz.func49, Tryz.ntmps49
  go_wp2_with fail
  go_loopw [8, 19] (fun o i wr => ∃ (k : Nat) (es : List El), k ≤ a.length ∧ i = .int .i64 k ∧ Hid (es.map El.s = a.take k) ∧ Hid (LI f (w.alloc byS).heap.size k es o wr) ∧ Below (w.alloc byS).heap.size (w.alloc byS) wr) (fun _ i _ => a.length - (intOf i).toNat)
  case atStart => exact ⟨0, [], Nat.zero_le _, rfl, hid_of (by simp), hid_of (LI.nil _ _ _), Below.refl _ _⟩
  case round =>
    obtain ⟨k, es, hk, rfl, HM, HG, hb⟩ := hrel
    obtain ⟨w0, rfl⟩ : ∃ x, x = wr := ⟨wr, rfl⟩
    generalize w.alloc byS = X at *
    have zb := hb.size
    have hesk := HG.out.len
    have hbw := bX.trans (hb.mono (by omega))
    by_cases hlt : k < a.length
    · have hki : (k : Int) < (a.length : Int) := by omega
      obtain ⟨-, C, hA, hr⟩ := HRA.out.mono fun j hb2 => hbw.block j hb2
      obtain ⟨kb', koff, rfl, hkB, hkc⟩ := hA (by omega)
      obtain ⟨sa, sc, e0, e1, e2, e3, e4, hal, hnm, hKids⟩ := (hr k hlt).pieces
      have q0 : w0.cell? ⟨kb', koff + k * 5, none⟩ = some (.string (sth a k).al) := e0 ▸ hkc k hlt 0 (by omega)
      have q1 : w0.cell? ⟨kb', koff + k * 5 + 1, none⟩ = some (.string (sth a k).name) := e1 ▸ hkc k hlt 1 (by omega)
      have q2 : w0.cell? ⟨kb', koff + k * 5 + 2, none⟩ = some (.bool (sth a k).one) := e2 ▸ hkc k hlt 2 (by omega)
      have q3 : w0.cell? ⟨kb', koff + k * 5 + 3, none⟩ = some (.int .i64 (sth a k).id) := e3 ▸ hkc k hlt 3 (by omega)
      have q4 : w0.cell? ⟨kb', koff + k * 5 + 4, none⟩ = some (.slice sa (sth a k).kids.length sc) := e4 ▸ hkc k hlt 4 (by omega)
      have hc1 := cntTo_mono (f + 1) a (show k + 1 ≤ a.length by omega)
      rw [cntTo_succ, cntSe_kids] at hc1
      have HT := hid_of (sth_take a k hlt)
      have HCS := hid_of (fun W (hW : Below w0.heap.size w0 W) => copySel_any f (sth a k) W sa sc (HF.out.1 k hlt) (by have := HF.out.2.2; omega) ((hKids.mono fun j hj => hW.block j (by omega)).sub fun j hj => by have := hW.size; omega))
      have HSZ := hid_of (And.intro hal hnm)
      clear e0 e1 e2 e3 e4 hkc hr hA hKids hc1 hal hnm
      generalize sth a k = s at *
      obtain ⟨a0, a1, a2, a3⟩ := HBY.out (w0.alloc (.cells #[.string s.al, .string s.name, .bool s.one, .int .i64 s.id, .slice sa s.kids.length sc] 56)) (hb.alloc (by omega) _)
      go_wp2_with fail
      refine (HCS.out _ (below_box w0 _)).mono ?_
      rintro e w3 ⟨a3', c3, rfl, hb3, hO3⟩
      have z3 : w0.heap.size + 1 ≤ w3.heap.size := by have := hb3.size; simpa using this
      have hb03 : Below w0.heap.size w0 w3 := (below_box w0 _).trans (hb3.mono (by simp))
      have HO3 := hid_of (hO3.sub (Q' := fun b => w0.heap.size ≤ b ∧ b < w3.heap.size) fun b hb2 => by have := hb2.1; simp at this; omega)
      have HG3 := hid_of (HG.out.keep hb03)
      have hrow := HG3.out.row.row
      have HOL := hid_of (fun j => HG.out.row.row.lt j)
      have HOB := hid_of HG.out.old
      clear hO3 hb3 q0 q1 q2 q3 q4 HCS a0 a1 a2 a3
      go_wp2_with (
        at_builtin
        refine wpList_append_own_at _ rfl _ _ 23 rfl X.heap.size 56 i0 zeroSe 5 72 Tryz.underlying23 hi0 hz0 hz1 hz2 rfl (by decide) _ es.length _ rfl (hrow.alloc _) ⟨w3.heap.size, 0, none⟩ 1 1 [.string s.al, .string s.name, .bool s.one, .int .i64 s.id, .slice a3' s.kids.length c3] rfl rfl (World.news_of_block (heap_alloc_new w3 _)) (by intro u hu; simp at hu; rcases hu with rfl | rfl | rfl | rfl | rfl <;> rfl) (by unfold maxLen; omega) (by omega) (by simp; omega) ?_
        intro v' w7 hown hgrow hnn hob
        refine Hid.out ?_)
      refine hid_of ?_
      have hpush := LI.push (N := w0.heap.size) (HG3.out.keep (below_box w3 _)) ⟨s, a3', c3, fun b => w0.heap.size ≤ b ∧ b < w3.heap.size⟩ rfl hown hgrow hob (HO3.out.keep fun b hq => (below_box w3 _).block b (by omega)) (fun b hq => ⟨by simp; omega, fun e2 => by have := HOL.out b e2; omega⟩) (fun b hq => by omega) HOB.out HSZ.out
      have hb7 : Below X.heap.size X w7 := ((hb.trans (hb03.mono zb)).alloc (by omega) _).grown hgrow (by simp; omega) (fun j hj => (HOL.out j hj).1)
      have HP := hid_of hpush
      clear hown hgrow hnn hob hpush
      go_wp2_with fail
      go_roundw
      case measure => simp [intOf]; omega
      case rel => exact ⟨k + 1, _, by omega, by go_num, hid_of (by rw [List.map_append, HM.out, ← HT.out]; rfl), HP, hb7⟩
    have e : k = a.length := by omega
    subst e
    clear hlt hk hesk
    have HMA := hid_of (show es.map El.s = a by rw [HM.out, List.take_length])
    go_wp2_with fail
    go_loopw [8, 33] (fun o i wr => ∃ (k : Nat) (es : List El) (out : List Se), k ≤ b.length ∧ i = .int .i64 k ∧ Hid (joinTo (joinF f) a b k = some out) ∧ Hid (es.map El.s = out) ∧ Hid (LI f X.heap.size (a.length + k) es o wr) ∧ Below X.heap.size X wr) (fun _ i _ => b.length - (intOf i).toNat)
    case atStart => exact ⟨0, es, a, Nat.zero_le _, rfl, hid_of rfl, HMA, hid_of HG.out, hb⟩
    case round =>
      clear HMA HM HG hb zb hbw
      clear w0 es
      obtain ⟨k, es, out, hk, rfl, HJT, HM, HG, hb⟩ := hrel
      obtain ⟨w0, rfl⟩ : ∃ x, x = wr := ⟨wr, rfl⟩
      have zb := hb.size
      have hesk := HG.out.len
      have hbw := bX.trans (hb.mono (by omega))
      obtain ⟨oa, oc, rfl, hRO⟩ := HG.out.reps (by omega)
      have hlo : es.length = out.length := by rw [← HM.out]; simp
      rw [HM.out] at hRO
      by_cases hlt : k < b.length
      case neg =>
        have e : k = b.length := by omega
        subst e
        have HOO := hid_of (show OwnT (f + 1) w0 (fun b => w.heap.size ≤ b ∧ b < w0.heap.size) out oa by
          obtain ⟨a', c', e, h⟩ := HG.out.row.own (by omega) HG.out.sz HG.out.ap (fun b => w.heap.size ≤ b ∧ b < w0.heap.size) (fun b hb => by omega) (fun e he b hq => by have := HG.out.low e he b hq; have := HG.out.old e he b hq; omega)
          simp only [Value.slice.injEq, true_and] at e
          rw [HM.out, ← e.1] at h
          exact h)
        have HJJ := hid_of (show joinF (f + 1) a b = some out from HJT.out)
        have HLO := hid_of hlo
        clear hlo hRO
        go_wp2_with fail
        go_ret2
        exact ⟨hbw, Or.inr ⟨out, oa, oc, HJJ.out, by rw [← HLO.out]; rfl, HOO.out⟩⟩
      have hki : (k : Int) < (b.length : Int) := by omega
      obtain ⟨-, C, hA, hr⟩ := HRB.out.mono fun j hb2 => hbw.block j hb2
      obtain ⟨kb', koff, rfl, hkB, hkc⟩ := hA (by omega)
      obtain ⟨sa, sc, e0, e1, e2, e3, e4, hal, hnm, hKids⟩ := (hr k hlt).pieces
      have q0 : w0.cell? ⟨kb', koff + k * 5, none⟩ = some (.string (sth b k).al) := e0 ▸ hkc k hlt 0 (by omega)
      have q1 : w0.cell? ⟨kb', koff + k * 5 + 1, none⟩ = some (.string (sth b k).name) := e1 ▸ hkc k hlt 1 (by omega)
      have q2 : w0.cell? ⟨kb', koff + k * 5 + 2, none⟩ = some (.bool (sth b k).one) := e2 ▸ hkc k hlt 2 (by omega)
      have q3 : w0.cell? ⟨kb', koff + k * 5 + 3, none⟩ = some (.int .i64 (sth b k).id) := e3 ▸ hkc k hlt 3 (by omega)
      have q4 : w0.cell? ⟨kb', koff + k * 5 + 4, none⟩ = some (.slice sa (sth b k).kids.length sc) := e4 ▸ hkc k hlt 4 (by omega)
      have hcb := cntTo_mono (f + 1) b (show k + 1 ≤ b.length by omega)
      rw [cntTo_succ, cntSe_kids] at hcb
      have hco := joinTo_cnt (by omega) HJT.out
      have hfo := joinTo_fit HF.out.1 HF.out.2.1 (by omega) HJT.out
      have HCS := hid_of (fun W (hW : Below w0.heap.size w0 W) => copySel_any f (sth b k) W sa sc (HF.out.2.1 k hlt) (by have := HF.out.2.2; omega) ((hKids.mono fun j hj => hW.block j (by omega)).sub fun j hj => by have := hW.size; omega))
      have HJR := hid_of (fun (i : Nat) (hi : i < out.length) W (hW : Below w0.heap.size w0 W) xa xc (hx : SeReps W (· < W.heap.size) (sth out i).kids xa) => show Calls Tryz.prog 49 #[.slice xa (sth out i).kids.length xc, .slice sa (sth b k).kids.length sc, .agg #[.func (.func 89) #[] #[], .func (.func 93) #[] #[], .func (.func 94) #[] #[], .func (.func 95) #[] #[]]] W _ from HIH.out (sth out i).kids (sth b k).kids W xa sa xc sc (hfo i hi) (HF.out.2.1 k hlt) (by
        have h1 := cntTo_mono (f + 1) out (show i + 1 ≤ out.length by omega)
        rw [cntTo_succ, cntSe_kids] at h1
        have := HF.out.2.2
        omega) hx ((hKids.mono fun j hj => hW.block j (by omega)).sub fun j hj => by have := hW.size; omega))
      have HST := hid_of (joinTo_at HJT.out)
      have HNO := hid_of (fun (h : joinTo (joinF f) a b (k + 1) = none) => show joinF (f + 1) a b = none from joinTo_none h b.length hlt)
      have HSZ := hid_of (And.intro hal hnm)
      clear e0 e1 e2 e3 e4 hkc hr hA hKids hcb hal hnm hco hfo
      generalize sth b k = s at *
      have bY := below_box w0 (.cells #[.string s.al, .string s.name, .bool s.one, .int .i64 s.id, .slice sa s.kids.length sc] 56)
      have zY : (w0.alloc (.cells #[.string s.al, .string s.name, .bool s.one, .int .i64 s.id, .slice sa s.kids.length sc] 56)).heap.size = w0.heap.size + 1 := by simp
      have HBX := hid_of (fun W (hW : Below (w0.alloc (.cells #[.string s.al, .string s.name, .bool s.one, .int .i64 s.id, .slice sa s.kids.length sc] 56)).heap.size (w0.alloc (.cells #[.string s.al, .string s.name, .bool s.one, .int .i64 s.id, .slice sa s.kids.length sc] 56)) W) => (BoxS.new w0 s sa sc).keep hW)
      obtain ⟨a0, a1, a2, a3⟩ := HBY.out (w0.alloc (.cells #[.string s.al, .string s.name, .bool s.one, .int .i64 s.id, .slice sa s.kids.length sc] 56)) (hb.alloc (by omega) _)
      have HMT := hid_of (fun n => mateS_any out oa oc s sa sc n (w0.alloc (.cells #[.string s.al, .string s.name, .bool s.one, .int .i64 s.id, .slice sa s.kids.length sc] 56)) ((hRO.mono fun j hj => bY.block j hj).sub fun j hj => by omega))
      rw [← hlo] at HMT
      have HLO := hid_of hlo
      clear hlo hRO
      go_wp2_with fail
      refine (HMT.out _).mono ?_
      rintro e w1 ⟨rfl, hb1⟩
      generalize w0.alloc (.cells #[.string s.al, .string s.name, .bool s.one, .int .i64 s.id, .slice sa s.kids.length sc] 56) = Y at *
      have z1 := hb1.size
      have b01 := bY.trans (hb1.mono (by omega))
      have bX1 := hb.trans (b01.mono zb)
      clear q0 q1 q2 q3 q4 a0 a1 a2 a3 HMT
      cases hm : mateS out (keyS s) with
      | none =>
        have HMI := hid_of (show mateI out (keyS s) = -1 by unfold mateI; rw [hm])
        have HSN := hid_of (show joinTo (joinF f) a b (k + 1) = some (out ++ [s]) by rw [HST.out, stepJ_new hm])
        clear hm
        rw [HMI.out]
        obtain ⟨a0, a1, a2, a3⟩ := HBY.out w1 bX1
        obtain ⟨m9, m0, m1, m2, m3, m4⟩ := HBX.out w1 hb1
        go_wp2_with fail
        refine (HCS.out w1 b01).mono ?_
        rintro e w3 ⟨a3', c3, rfl, hb3, hO3⟩
        have z3 := hb3.size
        have hb03 := b01.trans (hb3.mono b01.size)
        have HO3 := hid_of (hO3.sub (Q' := fun b => w0.heap.size ≤ b ∧ b < w3.heap.size) fun b hb2 => by omega)
        have HG3 := hid_of (HG.out.keep hb03)
        have hrow := HG3.out.row.row
        have HOL := hid_of (fun j => HG.out.row.row.lt j)
        have HOB := hid_of HG.out.old
        clear hO3 hb3 HCS a0 a1 a2 a3 m9 m0 m1 m2 m3 m4
        go_wp2_with (
          at_builtin
          refine wpList_append_own_at _ rfl _ _ 23 rfl X.heap.size 56 i0 zeroSe 5 72 Tryz.underlying23 hi0 hz0 hz1 hz2 rfl (by decide) _ es.length _ rfl (hrow.alloc _) ⟨w3.heap.size, 0, none⟩ 1 1 [.string s.al, .string s.name, .bool s.one, .int .i64 s.id, .slice a3' s.kids.length c3] rfl rfl (World.news_of_block (heap_alloc_new w3 _)) (by intro u hu; simp at hu; rcases hu with rfl | rfl | rfl | rfl | rfl <;> rfl) (by unfold maxLen; omega) (by omega) (by simp; omega) ?_
          intro v' w7 hown hgrow hnn hob
          refine Hid.out ?_)
        refine hid_of ?_
        have hpush := LI.push (N := w0.heap.size) (HG3.out.keep (below_box w3 _)) ⟨s, a3', c3, fun b => w0.heap.size ≤ b ∧ b < w3.heap.size⟩ rfl hown hgrow hob (HO3.out.keep fun b hq => (below_box w3 _).block b (by omega)) (fun b hq => ⟨by simp; omega, fun e2 => by have := HOL.out b e2; omega⟩) (fun b hq => by omega) HOB.out HSZ.out
        have hb7 : Below X.heap.size X w7 := ((hb.trans (hb03.mono zb)).alloc (by omega) _).grown hgrow (by simp; omega) (fun j hj => (HOL.out j hj).1)
        have HP := hid_of hpush
        clear hown hgrow hnn hob hpush
        go_wp2_with fail
        go_roundw
        case measure => simp [intOf]; omega
        case rel => exact ⟨k + 1, _, _, by omega, by go_num, HSN, hid_of (by rw [List.map_append, HM.out]; rfl), HP, hb7⟩
      | some i =>
        have HMI := hid_of (show mateI out (keyS s) = (i : Nat) by unfold mateI; rw [hm])
        have hil := (mateS_some.1 hm).1
        have hie : i < es.length := by rw [HLO.out]; exact hil
        have hii : (i : Int) < (es.length : Int) := by omega
        have hi0' : ¬ (i : Int) < 0 := by omega
        rw [HMI.out]
        obtain ⟨g, cap, e⟩ := HG.out.row.form (fun e => by simp only [Value.slice.injEq] at e; omega)
        simp only [Value.slice.injEq, true_and] at e
        obtain ⟨rfl, rfl⟩ := e
        obtain ⟨hc5, hgl, hgX, hfz⟩ := HG.out.cells i hie
        obtain ⟨hki1, hki2⟩ := HG.out.row.kid _ (List.getElem_mem hie)
        have hes : (es[i]).s = sth out i := by rw [← HM.out]; simp [sth, List.getD_eq_getElem?_getD, hie]
        have HPUT := hid_of (fun W (hW : Below w0.heap.size w0 W) (K : List Se) a' c' (hO : OwnT f W (fun b => w0.heap.size ≤ b ∧ b < W.heap.size) K a') => show ∃ es', es'.map El.s = out.set i ((sth out i).sub K) ∧ LI f X.heap.size (a.length + (k + 1)) es' (.slice (some ⟨g, 0, none⟩) es.length oc) (W.setCell ⟨g, i * 5 + 4, none⟩ (.slice a' K.length c')) from
          ⟨_, by rw [map_set_s es i hie a' c' (fun b => w0.heap.size ≤ b ∧ b < W.heap.size) K, HM.out], (LI.put (N := w0.heap.size) (HG.out.keep hW) i hie a' c' _ K hO (fun b hb2 => by omega) (fun b hb2 => by omega) HG.out.old).next⟩)
        rw [hes] at hc5 hki1
        have HJ0 := hid_of (fun W (hW : Below w0.heap.size w0 W) => HJR.out i hil W hW (es[i]).ka (es[i]).kc ((hki1.reps.mono fun b hb2 => hW.block b (hki2 b hb2).1).sub fun b hb2 => by have := (hki2 b hb2).1; have := hW.size; omega))
        have HREC := hid_of (fun ha => HST.out.trans (stepJ_rec (rec := joinF f) hm ha))
        have HNOT := hid_of (fun ha => HST.out.trans (stepJ_not (rec := joinF f) hm ha))
        generalize (es[i]).ka = xa at *
        generalize (es[i]).kc = xc at *
        clear hki1 hki2 hes HJR hm
        generalize sth out i = x at *
        have HCF := hid_of (fun W (hW : Below Y.heap.size Y W) => show ByAt W w.heap.size ∧ Cells5 W g (i * 5) x xa xc ∧ BoxS W w0.heap.size s sa sc ∧ W.frozen? ⟨g, i * 5 + 4, none⟩ = false by
          have hW0 := bY.trans (hW.mono (by omega))
          exact ⟨HBY.out W (hb.trans (hW0.mono zb)), hc5.keep (hW0.block g hgl), HBX.out W hW, (World.frozen?_of_block (a := ⟨g, i * 5 + 4, none⟩) (hW0.block g hgl)).trans hfz⟩)
        have HJ := hid_of (fun W (hW : Below Y.heap.size Y W) => HJ0.out W (bY.trans (hW.mono (by omega))))
        have HAL := hid_of (fun W => alikeS_any x s xa sa xc sc W)
        have hA1 := hb1
        clear hc5 hfz HJ0 HCS HBX hb1
        obtain ⟨⟨a0, a1, a2, a3⟩, ⟨c0, c1, c2, c3, c4⟩, ⟨m9, m0, m1, m2, m3, m4⟩, mf⟩ := HCF.out w1 hA1
        go_wp2_with fail
        cases ha : alikeS x s
        · rw [ha] at HAL
          have hres := hid_of (HNO.out (HNOT.out ha))
          go_region_held3 (fun w' => w'.cell? ⟨w.heap.size, 1, none⟩ = some (.func (.func 93) #[] #[]) ∧ w'.cell? ⟨g, i * 5, none⟩ = some (.string x.al) ∧ w'.cell? ⟨g, i * 5 + 1, none⟩ = some (.string x.name) ∧ w'.cell? ⟨g, i * 5 + 2, none⟩ = some (.bool x.one) ∧ w'.cell? ⟨g, i * 5 + 3, none⟩ = some (.int .i64 x.id) ∧ w'.cell? ⟨g, i * 5 + 4, none⟩ = some (.slice xa x.kids.length xc) ∧ w'.cell? ⟨w0.heap.size, 0, none⟩ = some (.string s.al) ∧ w'.cell? ⟨w0.heap.size, 1, none⟩ = some (.string s.name) ∧ w'.cell? ⟨w0.heap.size, 2, none⟩ = some (.bool s.one) ∧ w'.cell? ⟨w0.heap.size, 3, none⟩ = some (.int .i64 s.id) ∧ w'.cell? ⟨w0.heap.size, 4, none⟩ = some (.slice sa s.kids.length sc)) (go_keep)
            (first
              | (
                go_at_call 93
                refine (HAL.out w1.drew).mono ?_
                rintro e w2 ⟨rfl, hb2⟩
                have hA2 := hA1.drew.trans (hb2.mono (by have := hA1.size; simpa using this))
                clear hb2
                obtain ⟨⟨a0', a1', a2', a3'⟩, ⟨c0', c1', c2', c3', c4'⟩, ⟨m9', m0', m1', m2', m3', m4'⟩, mf'⟩ := HCF.out _ hA2))
          all_goals
            have HBB := hid_of (hbw.trans ((bY.trans (hA2.mono (by omega))).mono hbw.size))
            go_wp2_with fail
            go_ret2
            exact ⟨HBB.out, Or.inl ⟨hres.out, rfl⟩⟩
        · rw [ha] at HAL
          have HRC := hid_of (HREC.out ha)
          go_region_held3 (fun w' => w'.cell? ⟨w.heap.size, 1, none⟩ = some (.func (.func 93) #[] #[]) ∧ w'.cell? ⟨g, i * 5, none⟩ = some (.string x.al) ∧ w'.cell? ⟨g, i * 5 + 1, none⟩ = some (.string x.name) ∧ w'.cell? ⟨g, i * 5 + 2, none⟩ = some (.bool x.one) ∧ w'.cell? ⟨g, i * 5 + 3, none⟩ = some (.int .i64 x.id) ∧ w'.cell? ⟨g, i * 5 + 4, none⟩ = some (.slice xa x.kids.length xc) ∧ w'.cell? ⟨w0.heap.size, 0, none⟩ = some (.string s.al) ∧ w'.cell? ⟨w0.heap.size, 1, none⟩ = some (.string s.name) ∧ w'.cell? ⟨w0.heap.size, 2, none⟩ = some (.bool s.one) ∧ w'.cell? ⟨w0.heap.size, 3, none⟩ = some (.int .i64 s.id) ∧ w'.cell? ⟨w0.heap.size, 4, none⟩ = some (.slice sa s.kids.length sc)) (go_keep)
            (first
              | (
                go_at_call 93
                refine (HAL.out w1.drew).mono ?_
                rintro e w2 ⟨rfl, hb2⟩
                have hA2 := hA1.drew.trans (hb2.mono (by have := hA1.size; simpa using this))
                clear hb2
                obtain ⟨⟨a0', a1', a2', a3'⟩, ⟨c0', c1', c2', c3', c4'⟩, ⟨m9', m0', m1', m2', m3', m4'⟩, mf'⟩ := HCF.out _ hA2))
          all_goals
            clear HAL hA1 a0 a1 a2 a3 c0 c1 c2 c3 c4 m9 m0 m1 m2 m3 m4 mf
            go_wp2_with fail
            go_region_held3 (fun w' => w'.cell? ⟨w.heap.size, 2, none⟩ = some (.func (.func 94) #[] #[])) (go_keep)
              (first
                | (
                  go_at_call 94
                  refine (kidsS_any g (i * 5) _).mono ?_
                  rintro e w3 ⟨rfl, rfl⟩))
            all_goals
              go_wp2_with fail
              cases hjk : joinF f x.kids s.kids with
              | none =>
                rw [hjk] at HJ
                have hres := hid_of (HNO.out (by rw [HRC.out, hjk]; rfl))
                go_region_held3 (fun w' => w'.cell? ⟨w.heap.size, 0, none⟩ = some (.func (.func 89) #[] #[]) ∧ w'.cell? ⟨w.heap.size, 1, none⟩ = some (.func (.func 93) #[] #[]) ∧ w'.cell? ⟨w.heap.size, 2, none⟩ = some (.func (.func 94) #[] #[]) ∧ w'.cell? ⟨w.heap.size, 3, none⟩ = some (.func (.func 95) #[] #[]) ∧ w'.cell? ⟨g, i * 5 + 4, none⟩ = some (.slice xa x.kids.length xc) ∧ w'.cell? ⟨w0.heap.size, 4, none⟩ = some (.slice sa s.kids.length sc)) (go_keep)
                  (first
                    | (
                      go_at_call 94
                      refine (kidsS_any w0.heap.size 0 _).mono ?_
                      rintro e w3 ⟨rfl, rfl⟩)
                    | (
                      go_at_call 49
                      refine (HJ.out _ hA2.drew.drew).mono ?_
                      rintro e w4 ⟨hb4, hend⟩
                      have hA4 := hA2.drew.drew.trans (hb4.mono (by have := hA2.size; simpa using this))
                      clear hb4
                      obtain ⟨-, rfl⟩ : True ∧ e = .returned (.tuple #[.slice none 0 0, .bool false]) := ⟨trivial, by rcases hend with ⟨-, h⟩ | ⟨L, a', c', h, -⟩; exact h; cases h⟩
                      obtain ⟨⟨a0'', a1'', a2'', a3''⟩, ⟨c0'', c1'', c2'', c3'', c4''⟩, ⟨m9'', m0'', m1'', m2'', m3'', m4''⟩, mf''⟩ := HCF.out _ hA4))
                all_goals
                  have HBB := hid_of (hbw.trans ((bY.trans (hA4.mono (by omega))).mono hbw.size))
                  go_wp2_with fail
                  go_ret2
                  exact ⟨HBB.out, Or.inl ⟨hres.out, rfl⟩⟩
              | some K =>
                rw [hjk] at HJ
                have HSN := hid_of (show joinTo (joinF f) a b (k + 1) = some (out.set i (x.sub K)) by rw [HRC.out, hjk]; rfl)
                go_region_held3 (fun w' => w'.cell? ⟨w.heap.size, 0, none⟩ = some (.func (.func 89) #[] #[]) ∧ w'.cell? ⟨w.heap.size, 1, none⟩ = some (.func (.func 93) #[] #[]) ∧ w'.cell? ⟨w.heap.size, 2, none⟩ = some (.func (.func 94) #[] #[]) ∧ w'.cell? ⟨w.heap.size, 3, none⟩ = some (.func (.func 95) #[] #[]) ∧ w'.cell? ⟨g, i * 5 + 4, none⟩ = some (.slice xa x.kids.length xc) ∧ w'.cell? ⟨w0.heap.size, 4, none⟩ = some (.slice sa s.kids.length sc)) (go_keep)
                  (first
                    | (
                      go_at_call 94
                      refine (kidsS_any w0.heap.size 0 _).mono ?_
                      rintro e w3 ⟨rfl, rfl⟩)
                    | (
                      go_at_call 49
                      refine (HJ.out _ hA2.drew.drew).mono ?_
                      rintro e w4 ⟨hb4, hend⟩
                      have hA4 := hA2.drew.drew.trans (hb4.mono (by have := hA2.size; simpa using this))
                      clear hb4
                      obtain ⟨r, rc, rfl, hO4⟩ : ∃ r rc, e = .returned (.tuple #[.slice r K.length rc, .bool true]) ∧ OwnT f w4 _ K r := by rcases hend with ⟨h, -⟩ | ⟨L, a', c', h, h2, h3⟩; cases h; cases h; exact ⟨a', c', h2, h3⟩
                      have HO4 := hid_of hO4
                      clear hO4 hend
                      obtain ⟨⟨a0'', a1'', a2'', a3''⟩, ⟨c0'', c1'', c2'', c3'', c4''⟩, ⟨m9'', m0'', m1'', m2'', m3'', m4''⟩, mf''⟩ := HCF.out _ hA4))
                all_goals
                  have b04 := bY.trans (hA4.mono (by omega))
                  obtain ⟨es', hes', hLI⟩ := HPUT.out w4 b04 K r rc (HO4.out.sub fun b hb2 => by have := hA2.size; have := hb2.1; simp at this; omega)
                  have HP := hid_of (And.intro hes' hLI)
                  have hb8 : Below X.heap.size X (w4.setCell ⟨g, i * 5 + 4, none⟩ (.slice r K.length rc)) := (hb.trans (b04.mono zb)).setCell hgX _
                  clear hes' hLI
                  go_wp2_with fail
                  go_roundw
                  case measure => simp [intOf]; omega
                  case rel => exact ⟨k + 1, es', _, by omega, by go_num, HSN, hid_of HP.out.1, hid_of HP.out.2, hb8⟩
theorem joinTrees_any : ∀ f, JnS f
  | 0 => joinTrees_zero
  | f + 1 => joinTrees_step f (joinTrees_any f)
end Go.Proofs.YtokmgbidmnanpaaGreatDoor
