import Derived.Test.YtokmgbidmnanpaaGreatDoorBJ1
import Derived.Test.YtokmgbidmnanpaaGreatDoorB32
set_option linter.unusedSimpArgs false
set_option linter.unusedVariables false
namespace Go.Proofs.YtokmgbidmnanpaaGreatDoor
open Go.RowKit Go.Shelf Go.Maps
def TwoEnd (w : World) (e : Ending) (w' : World) : Prop := ∃ (ks bs : List Se) (a b : Option Addr) (c d : Nat), e = .returned (.tuple #[.slice a ks.length c, .slice b bs.length d]) ∧ SA w' w.heap.size ks a ∧ SA w' w.heap.size bs b ∧ Tr 4 6 ks ∧ Tr 4 6 bs ∧ Below w.heap.size w w'
set_option maxRecDepth 20000 in
set_option maxHeartbeats 3200000 in
theorem DrawAskJoin_any (w : World) (cb n : Nat) (v : Value) (h : CodeOk w cb v n) (hn : n ≤ 1048576) :
    Calls Tryz.prog 24 #[v] w (TwoEnd w) := by
  have HOP := hid_of (l1Open_any w cb n v h hn)
  clear h
  go_enter Tryz.func24, Tryz.ntmps24
  go_upto_region 2 with (
    go_at_call 52
    refine HOP.out.mono ?_
    rintro e w1 ⟨rb, rfl, hrb, hR, b1⟩)
  have HPT := hid_of (l11Parts_any w1 rb cb 0 hR (by omega))
  have HB1 := hid_of b1
  have HRB := hid_of hrb
  have HAL := hid_of (all_of_parts w1 rb cb)
  clear HOP hR b1 hrb
  go_upto_region 3 with (
    first
      | (
        go_at_call 55
        refine HPT.out.mono ?_
        rintro e w2 ⟨m, σ, c, q, pb, pc, ps, rfl, hm1, hm3, hc, hq, hP⟩
        have HP := hid_of hP
        have HA := hid_of (HAL.out w2 σ c q pb pc ps m hP hm3 hc)
        clear hP)
      | (
        go_at_call 54
        refine HA.out.mono ?_
        rintro e w3 ⟨p, v3, rfl, hPR, hz, hF, h0, b3⟩
        have HPR := hid_of hPR
        obtain ⟨ta, tc, rfl, -, -, -⟩ := hPR))
  have bX := below_box w3 (.cells #[.string p.name, .slice ta p.types.length tc] 43)
  have nX := block_new (w := w3) (N := w3.heap.size) #[.string p.name, .slice ta p.types.length tc] 43 rfl
  have zX : (w3.alloc (.cells #[.string p.name, .slice ta p.types.length tc] 43)).heap.size = w3.heap.size + 1 := by simp
  have HR3 := hid_of (HP.out.rd.only (Only.of_below (fun _ => False) b3) id id)
  have HO3 := hid_of (HP.out.only.trans (Only.of_below (· = rb) b3) fun _ _ q => q)
  have hr1 : rb < w1.heap.size := HP.out.rlt
  have hw13 : w1.heap.size ≤ w3.heap.size := HO3.out.size
  generalize w3.alloc (.cells #[.string p.name, .slice ta p.types.length tc] 43) = X at *
  have HRX := hid_of (HR3.out.only (Only.of_below (fun _ => False) bX) id id)
  have HOX := hid_of (HO3.out.trans (Only.of_below (· = rb) bX) fun _ _ q => q)
  have HPX : Hid (∀ W, Only (· = rb) X W → PRep W (fun b => b < w3.heap.size ∧ b ≠ rb) p (.agg #[.string p.name, .slice ta p.types.length tc])) := hid_of fun W hW => HPR.out.mono fun b hb => (hW.block b (by omega) hb.2).trans (bX.block b hb.1)
  have HCX : Hid (∀ W, Only (· = rb) X W → W.cell? ⟨w3.heap.size, 0, none⟩ = some (.string p.name) ∧ W.cell? ⟨w3.heap.size, 1, none⟩ = some (.slice ta p.types.length tc)) := hid_of fun W hW => by
    have h := (hW.block w3.heap.size (by omega) (by omega)).trans nX
    exact ⟨(box_at h 0 (by simp)).1, (box_at h 1 (by simp)).1⟩
  have HK := hid_of (fun W q (hR : RdOk W rb cb q) (hW : Only (· = rb) X W) (hq : q + 5 * pkN 5 ≤ 100000) => l11Ask_any W rb cb q p (fun b => b < w3.heap.size ∧ b ≠ rb) _ hR hq (HPX.out W hW) (fun b hb => ⟨by have := hW.size; omega, hb.2⟩) hF hz h0)
  have HBW : Hid (∀ W, Only (· = rb) w1 W → Below w.heap.size w W) := hid_of fun W hW => HB1.out.trans (hW.below HB1.out.size fun b hb e => by have := HRB.out; omega)
  have hww : w.heap.size ≤ X.heap.size := by have := HB1.out.size; omega
  clear HPT HAL HA bX nX b3 HR3 HO3 HPX hF hz h0 HPR
  obtain ⟨p0, p1⟩ := HCX.out X ⟨rfl, rfl, rfl, Nat.le_refl _, fun _ _ _ => rfl⟩
  have HK1 := hid_of (HK.out X _ HRX.out (Only.refl _ _) (by rw [pkN5]; omega))
  go_upto_region 4 with (
    go_at_call 53
    refine HK1.out.mono ?_
    rintro e w4 ⟨ks, ka, kc, q4, rfl, hSA, r4, hq4, o4, hSO⟩)
  rw [pkN5] at hq4
  have hz4 := o4.size
  obtain ⟨p0', p1'⟩ := HCX.out w4 o4
  have HO4 := hid_of o4
  have HS4 := hid_of hSA
  have HT4 := hid_of hSO
  have HK2 := hid_of (HK.out w4 _ r4 o4 (by rw [pkN5]; omega))
  clear hSA r4 o4 hSO HK HK1 p0 p1
  go_upto_region 5 with (
    go_at_call 53
    refine HK2.out.mono ?_
    rintro e w5 ⟨bs, ba, bc, q5, rfl, hSB, r5, hq5, o5, hSO5⟩)
  rw [pkN5] at hq5
  have hz5 := o5.size
  have HO5 := hid_of (HO4.out.trans o5 fun _ _ q => q)
  have HSA5 := hid_of (HS4.out.keep (fun b hb hb2 => o5.block b hb2 (by omega)) o5.size)
  have HSB5 := hid_of hSB
  have HR5 := hid_of r5
  have HT5 := hid_of hSO5
  have HPK := hid_of (pick_any w5 rb cb q5 8 r5 (by omega) (by omega) (by omega))
  clear hSB r5 o5 hSO5 HK2 HO4 HS4 p0' p1'
  go_upto_if 21 with (
    go_at_call 56
    refine HPK.out.mono ?_
    rintro e w6 ⟨x, rfl, hx, r6, o6, z6⟩)
  have HR6 := hid_of r6
  have HO6 := hid_of (HO5.out.trans o6 fun _ _ q => q)
  have hz6 := o6.size
  have HSA6 := hid_of (HSA5.out.keep (fun b hb hb2 => o6.block b hb2 (by omega)) o6.size)
  have HSB6 := hid_of (HSB5.out.keep (fun b hb hb2 => o6.block b hb2 (by omega)) o6.size)
  clear r6 o6 HPK hx HSA5 HSB5 HR5 HO5
  by_cases hx0 : x = 0
  · subst hx0
    have HSP := hid_of (l11SpoilSels_any 5 (by omega) ks w6 rb cb (q5 + 1) (fun b => b < w6.heap.size ∧ b ≠ rb) ka kc HR6.out (by omega) HT4.out (SeReps.sub HSA6.out fun b hb => ⟨hb.2.1, by have := hb.1; omega⟩) (fun b hb => hb))
    go_wp2_with (
      go_at_call 62
      refine HSP.out.mono ?_
      rintro e w7 ⟨ks', a', c', q7, rfl, hS7, r7, hq7, o7, hT7⟩)
    go_ret2
    exact ⟨ks, ks', ka, a', kc, c', rfl, (HSA6.out.keep (fun b hb hb2 => o7.block b hb2 (by omega)) o7.size).low hww, hS7.low (by omega), Tr.up (by omega) (by omega) HT4.out, hT7, HBW.out w7 ((HOX.out.trans HO6.out fun _ _ q => q).trans o7 fun _ _ q => q)⟩
  · have hx0' : ¬ (x : Int) = 0 := by omega
    go_wp2_with fail
    go_ret2
    exact ⟨ks, bs, ka, ba, kc, bc, rfl, HSA6.out.low hww, HSB6.out.low (by omega), Tr.up (by omega) (by omega) HT4.out, Tr.up (by omega) (by omega) HT5.out, HBW.out w6 (HOX.out.trans HO6.out fun _ _ q => q)⟩
end Go.Proofs.YtokmgbidmnanpaaGreatDoor
namespace Go.Proofs.YtokmgbidmnanpaaGreatDoor
open Go.RowKit Go.Shelf Go.Maps
theorem cpOwn_end {w w1 : World} {f N : Nat} {K : List Se} {a : Option Addr} {x : Value} (hN : N = w.heap.size) (hbw : Below N w w1) (hsz1 : N + 1 + 1 ≤ w1.heap.size) (hO : OwnT f w1 (fun b => N + 1 + 1 ≤ b ∧ b < w1.heap.size) K a) (cs : List Value) :
    Below N w (puts (w1.setCell ⟨N, 4, none⟩ x) (N + 1) 0 cs) ∧ OwnT f (puts (w1.setCell ⟨N, 4, none⟩ x) (N + 1) 0 cs) (fun b => N ≤ b ∧ b < (puts (w1.setCell ⟨N, 4, none⟩ x) (N + 1) 0 cs).heap.size) K a := by
  have hsz : (puts (w1.setCell ⟨N, 4, none⟩ x) (N + 1) 0 cs).heap.size = w1.heap.size := by rw [puts_size, size_set]
  refine ⟨puts_below (by omega) _ _ _ (hbw.setCell (Nat.le_refl _) _), (hO.keep fun k hk => ?_).sub fun k hk => ?_⟩
  · rw [puts_block _ _ (by omega), Below.heap_setCell _ _ _ _ (by show k ≠ N; omega)]
  · rw [hsz]; omega
def CpSelOk (f : Nat) : Prop := ∀ (s : Se) (w : World) (sa : Option Addr) (sc : Nat), FitS f s.kids → cntTo f s.kids s.kids.length ≤ 1000 → SeReps w (· < w.heap.size) s.kids sa →
  Calls Tryz.prog 95 #[.agg #[.string s.al, .string s.name, .bool s.one, .int .i64 s.id, .slice sa s.kids.length sc]] w fun e w' => ∃ a c, e = .returned (.agg #[.string s.al, .string s.name, .bool s.one, .int .i64 s.id, .slice a s.kids.length c]) ∧ Below w.heap.size w w' ∧ OwnT f w' (fun b => w.heap.size ≤ b ∧ b < w'.heap.size) s.kids a
set_option maxHeartbeats 800000 in
theorem copySel_step (f : Nat) (IH : ∀ (ks : List Se) (w : World) (ka : Option Addr) (kc : Nat), FitS f ks → cntTo f ks ks.length ≤ 1000 → SeReps w (· < w.heap.size) ks ka → Calls Tryz.prog 128 #[.slice ka ks.length kc] w fun e w' => OwnNew f w ks e w') : CpSelOk f := by
  intro s w sa sc hf hc hK
  have hb2 : ∀ o1 o2, Below w.heap.size w ((w.alloc o1).alloc o2) := fun o1 o2 => below_box2 w o1 o2
  have HI := hid_of (fun o1 o2 => IH s.kids ((w.alloc o1).alloc o2) sa sc hf hc ((hK.mono fun b hb => (hb2 o1 o2).block b hb).sub fun b hb => by simp; omega))
  generalize hal : s.al = al
  generalize hnm : s.name = nm
  generalize hon : s.one = on
  generalize hid : s.id = id
  generalize hkk : s.kids = ks at *
  clear hK hf hc hal hnm hon hid hkk
  go_enter Tryz.func95, Tryz.ntmps95
  go_wp2_with (
    go_at_call 128
    refine (HI.out _ _).mono ?_
    rintro e w1 ⟨a1, c1, rfl, hO1, hb1⟩
    obtain ⟨q1, f1⟩ := bcell hb1
    have hsz1 := hb1.size
    simp at hsz1
    have hlt0 : w.heap.size < w1.heap.size := by omega
    have hlt1 : w.heap.size + 1 < w1.heap.size := by omega
    have x4 : w1.cell? ⟨w.heap.size, 4, none⟩ = some (.slice sa ks.length sc) := (q1 w.heap.size 4 (by simp; omega)).trans (by simp))
  have hbw : Below w.heap.size w w1 := (hb2 _ _).trans (hb1.mono (by simp; omega))
  have fin := cpOwn_end (x := .slice a1 ks.length c1) (N := w.heap.size) rfl hbw hsz1 (hO1.sub fun b hb => by simpa using hb) [.string al, .string nm, .bool on, .int .i64 id, .slice a1 ks.length c1]
  refine bodyPost_ret (v := .agg #[.string al, .string nm, .bool on, .int .i64 id, .slice a1 ks.length c1]) ?res rfl ⟨_, _, rfl, fin.1, fin.2⟩
  case res =>
    have hr0 : ∀ o1 c, (((w.alloc o1).alloc (.cells c 56))).rowIs (w.heap.size + 1) 56 c.size (fun i => c[i]?.getD undef) := fun o1 c => by
      have h := ((w.alloc o1).rowIs_alloc c 56 (fun i => c[i]?.getD undef) (fun i hi => by simp [hi]))
      simpa using h
    have hr1 := (hr0 _ _).of_block (hb1.block (w.heap.size + 1) (by simp))
    have p0 := hr1.cell (i := 0) (by simp)
    have p1 := hr1.cell (i := 1) (by simp)
    have p2 := hr1.cell (i := 2) (by simp)
    have p3 := hr1.cell (i := 3) (by simp)
    have p4 := hr1.cell (i := 4) (by simp)
    clear fin hO1 q1 f1 hb1 hr0 hr1
    simp [results, Tryz.results95, go_sem, p0, p1, p2, p3, p4]
set_option maxRecDepth 20000 in
set_option maxHeartbeats 1600000 in
theorem copySels_any : ∀ (f : Nat) (ks : List Se) (w : World) (ka : Option Addr) (kc : Nat), FitS f ks → cntTo f ks ks.length ≤ 1000 → SeReps w (· < w.heap.size) ks ka →
    Calls Tryz.prog 128 #[.slice ka ks.length kc] w fun e w' => OwnNew f w ks e w' := by
  intro f
  induction f with
  | zero =>
    intro ks w ka kc hf hcn hR
    have e : ks = [] := hf
    subst e
    go_enter Tryz.func128, Tryz.ntmps128
    go_wp2_with fail
    go_loopw [3, 8] (fun o i wr => i = .int .i64 0 ∧ o = .slice none 0 0 ∧ wr = w) (fun _ _ _ => 0)
    case atStart => exact ⟨rfl, rfl, rfl⟩
    case round =>
      obtain ⟨rfl, rfl, rfl⟩ := hrel
      go_wp2_with fail
      go_ret
      exact ⟨none, 0, rfl, rfl, Below.refl _ _⟩
  | succ f IH =>
    intro ks w ka kc hf hcn hR
    obtain ⟨i0, hi0, hz0, hz1, hz2⟩ := info_parts info_Sel
    have h72 := hR.1
    have hlen : ks.length ≤ 1000 := Nat.le_trans (cntTo_ge ks f _) hcn
    have HCP := hid_of (copySel_step f IH)
    have HR := hid_of hR
    have HF := hid_of (And.intro hf hcn)
    clear hR hf hcn IH
    go_enter Tryz.func128, Tryz.ntmps128
    go_wp2_with fail
    go_loopw [3, 8] (fun o i wr => ∃ (k : Nat) (es : List El), k ≤ ks.length ∧ i = .int .i64 k ∧ Hid (es.map El.s = ks.take k) ∧ Hid (LI f w.heap.size k es o wr) ∧ Below w.heap.size w wr) (fun _ i _ => ks.length - (intOf i).toNat)
    case atStart => exact ⟨0, [], Nat.zero_le _, rfl, hid_of (by simp), hid_of (LI.nil _ _ _), Below.refl _ _⟩
    case round =>
      obtain ⟨k, es, hk, rfl, HM, HG, hb⟩ := hrel
      obtain ⟨w0, rfl⟩ : ∃ x, x = wr := ⟨wr, rfl⟩
      have zb := hb.size
      have hesk := HG.out.len
      by_cases hlt : k < ks.length
      case neg =>
        have e : k = ks.length := by omega
        subst e
        obtain ⟨oa, ocap, rfl⟩ := HG.out.row.slice
        obtain ⟨a, c, e, hOO⟩ := HG.out.row.own (by omega) HG.out.sz HG.out.ap (fun b => w.heap.size ≤ b ∧ b < w0.heap.size) (fun b hb => hb) (fun e he b hq => ⟨HG.out.low e he b hq, ((HG.out.row.kid e he).2 b hq).1⟩)
        have HMM := hid_of (show es.map El.s = ks by rw [HM.out, List.take_length])
        rw [HMM.out] at hOO
        simp only [Value.slice.injEq, true_and] at e
        obtain ⟨rfl, rfl⟩ := e
        have HOO := hid_of hOO
        clear hOO
        go_wp2_with fail
        go_ret
        exact ⟨oa, ocap, by rw [lessI_len HMM.out]; rfl, HOO.out, hb⟩
      have hki : (k : Int) < (ks.length : Int) := by omega
      obtain ⟨-, C, hA, hr⟩ := HR.out.mono fun b hb2 => hb.block b hb2
      obtain ⟨kb, koff, rfl, hkB, hkc⟩ := hA (by omega)
      obtain ⟨sa, sc, e0, e1, e2, e3, e4, hal, hnm, hKids⟩ := (hr k hlt).pieces
      have q0 : w0.cell? ⟨kb, koff + k * 5, none⟩ = some (.string (sth ks k).al) := e0 ▸ hkc k hlt 0 (by omega)
      have q1 : w0.cell? ⟨kb, koff + k * 5 + 1, none⟩ = some (.string (sth ks k).name) := e1 ▸ hkc k hlt 1 (by omega)
      have q2 : w0.cell? ⟨kb, koff + k * 5 + 2, none⟩ = some (.bool (sth ks k).one) := e2 ▸ hkc k hlt 2 (by omega)
      have q3 : w0.cell? ⟨kb, koff + k * 5 + 3, none⟩ = some (.int .i64 (sth ks k).id) := e3 ▸ hkc k hlt 3 (by omega)
      have q4 : w0.cell? ⟨kb, koff + k * 5 + 4, none⟩ = some (.slice sa (sth ks k).kids.length sc) := e4 ▸ hkc k hlt 4 (by omega)
      have hc1 := cntTo_mono (f + 1) ks (show k + 1 ≤ ks.length by omega)
      rw [cntTo_succ, cntSe_kids] at hc1
      have HT := hid_of (sth_take ks k hlt)
      have HCS := hid_of (fun W (hW : Below w0.heap.size w0 W) => HCP.out (sth ks k) W sa sc (HF.out.1 k hlt) (by have := HF.out.2; omega) ((hKids.mono fun j hj => hW.block j (Nat.lt_of_lt_of_le hj zb)).sub fun j hj => Nat.lt_of_lt_of_le hj (Nat.le_trans zb hW.size)))
      have HSZ := hid_of (And.intro hal hnm)
      clear e0 e1 e2 e3 e4 hkc hr hA hKids hc1 hal hnm HCP
      generalize sth ks k = s at *
      go_wp2_with fail
      refine (HCS.out _ (below_box w0 _)).mono ?_
      rintro e w3 ⟨a3, c3, rfl, hb3, hO3⟩
      have z3 : w0.heap.size + 1 ≤ w3.heap.size := by have := hb3.size; simpa using this
      have hb03 : Below w0.heap.size w0 w3 := (below_box w0 _).trans (hb3.mono (by simp))
      have HO3 := hid_of (hO3.sub (Q' := fun b => w0.heap.size ≤ b ∧ b < w3.heap.size) fun b hb2 => by have := hb2.1; simp at this; omega)
      have HG3 := hid_of (HG.out.keep hb03)
      have hrow := HG3.out.row.row
      have HOL := hid_of (fun j => HG.out.row.row.lt j)
      have HOB : Hid (∀ y ∈ es, ∀ b, y.Q b → b < w0.heap.size) := hid_of fun y hy b hq => ((HG.out.row.kid y hy).2 b hq).1
      clear hO3 hb3 q0 q1 q2 q3 q4 HCS
      go_wp2_with (
        at_builtin
        refine wpList_append_own_at _ rfl _ _ 23 rfl w.heap.size 56 i0 zeroSe 5 72 Tryz.underlying23 hi0 hz0 hz1 hz2 rfl (by decide) _ es.length _ rfl (hrow.alloc _) ⟨w3.heap.size, 0, none⟩ 1 1 [.string s.al, .string s.name, .bool s.one, .int .i64 s.id, .slice a3 s.kids.length c3] rfl rfl (World.news_of_block (heap_alloc_new w3 _)) (by intro u hu; simp at hu; rcases hu with rfl | rfl | rfl | rfl | rfl <;> rfl) (by unfold maxLen; omega) (by omega) (by simp; omega) ?_
        intro v' w7 hown hgrow hnn hob
        refine Hid.out ?_)
      refine hid_of ?_
      have hpush := LI.push (N := w0.heap.size) (HG3.out.keep (below_box w3 _)) ⟨s, a3, c3, fun b => w0.heap.size ≤ b ∧ b < w3.heap.size⟩ rfl hown hgrow hob (HO3.out.keep fun b hq => (below_box w3 _).block b (by omega)) (fun b hq => ⟨by simp; omega, fun e2 => by have := HOL.out b e2; omega⟩) (fun b hq => by omega) HOB.out HSZ.out
      have hb7 : Below w.heap.size w w7 := ((hb.trans (hb03.mono zb)).alloc (by omega) _).grown hgrow (by simp; omega) (fun j hj => (HOL.out j hj).1)
      have HP := hid_of hpush
      clear hown hgrow hnn hob hpush
      go_wp2_with fail
      go_roundw
      case measure => simp [intOf]; omega
      case rel => exact ⟨k + 1, _, by omega, by go_num, hid_of (by rw [List.map_append, HM.out, ← HT.out]; rfl), HP, hb7⟩
theorem copySel_any (f : Nat) : CpSelOk f := copySel_step f (copySels_any f)
end Go.Proofs.YtokmgbidmnanpaaGreatDoor
namespace Go.Proofs.YtokmgbidmnanpaaGreatDoor
open Go.RowKit Go.Shelf Go.Maps
end Go.Proofs.YtokmgbidmnanpaaGreatDoor
namespace Go.Proofs.YtokmgbidmnanpaaGreatDoor
open Go.RowKit
theorem preTo_flat (f : Nat) (ah : Way) (ks : List Se) : preTo (f + 1) ah ks ks.length = ks.flatMap fun s => (ah ++ [keyS s], s) :: preTo f (ah ++ [keyS s]) s.kids s.kids.length := by
  have e : ks = (List.range ks.length).map (sth ks) := by
    apply List.ext_getElem
    · simp
    · intro i h1 h2
      simp only [List.getElem_map, List.getElem_range]
      rw [sth_get h1]
  show (List.range ks.length).flatMap _ = _
  conv => rhs; rw [e]
  rw [List.flatMap_map]
end Go.Proofs.YtokmgbidmnanpaaGreatDoor
namespace Go.Proofs.YtokmgbidmnanpaaGreatDoor
open Go.RowKit Go.Shelf Go.Maps
end Go.Proofs.YtokmgbidmnanpaaGreatDoor
namespace Go.Proofs.YtokmgbidmnanpaaGreatDoor
open Go.RowKit Go.Shelf Go.Maps
theorem own_texts {w : World} {base : Nat} {ts : List ByteArray} {v : Value} (h : w.ownsRow base 9 1 v ts.length (ts.map Value.string)) (hs : ∀ t ∈ ts, t.size ≤ 1048577000) (hl : ts.length ≤ 1000000) :
    ∃ a c, v = .slice a ts.length c ∧ Strs w (fun b => base ≤ b ∧ b < w.heap.size) ts a := by
  have hsz : ∀ i, (nth ts i).size ≤ maxLen := fun i => by
    by_cases hi : i < ts.length
    · simp only [nth, List.getD_eq_getElem?_getD, List.getElem?_eq_getElem hi, Option.getD_some]
      have := hs _ (List.getElem_mem hi)
      unfold maxLen; omega
    · simp only [nth, List.getD_eq_getElem?_getD, List.getElem?_eq_none (by omega : ts.length ≤ i), Option.getD_none]
      unfold maxLen; decide
  rcases h.2 with ⟨rfl, h0⟩ | ⟨g, cap, cur, rfl, hb, hh, r⟩
  · have e : ts = [] := List.length_eq_zero_iff.1 h0
    subst e
    exact ⟨none, 0, rfl, fun h => absurd rfl h, hsz, by unfold maxLen; simp⟩
  · have hlt := (Array.getElem?_eq_some_iff.1 hh).1
    have hc : ∀ i, i < ts.length → w.cell? ⟨g, 0 + i, none⟩ = some (.string (nth ts i)) := fun i hi => by
      have := h.cellAt i (by omega)
      rw [Nat.zero_add, this, List.getElem?_map]
      simp [nth, List.getD_eq_getElem?_getD, hi]
    exact ⟨_, _, rfl, fun _ => ⟨g, 0, rfl, ⟨hb, hlt⟩, hc⟩, hsz, by unfold maxLen; omega⟩
end Go.Proofs.YtokmgbidmnanpaaGreatDoor
