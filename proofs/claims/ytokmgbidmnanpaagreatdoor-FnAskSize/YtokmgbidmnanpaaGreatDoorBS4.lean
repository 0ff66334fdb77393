import Derived.Test.YtokmgbidmnanpaaGreatDoorBS1
import Derived.Test.YtokmgbidmnanpaaGreatDoorBS3
set_option linter.unusedSimpArgs false
set_option linter.unusedVariables false
namespace Go.Proofs.YtokmgbidmnanpaaGreatDoor
open Go.RowKit Go.Shelf Go.Maps
theorem cpOwn_end {w w1 : World} {f N : Nat} {K : List Se} {a : Option Addr} {x : Value} (hN : N = w.heap.size) (hbw : Below N w w1) (hsz1 : N + 1 + 1 ≤ w1.heap.size) (hO : OwnT f w1 (fun b => N + 1 + 1 ≤ b ∧ b < w1.heap.size) K a) (cs : List Value) :
    Below N w (puts (w1.setCell ⟨N, 4, none⟩ x) (N + 1) 0 cs) ∧ OwnT f (puts (w1.setCell ⟨N, 4, none⟩ x) (N + 1) 0 cs) (fun b => N ≤ b ∧ b < (puts (w1.setCell ⟨N, 4, none⟩ x) (N + 1) 0 cs).heap.size) K a := by
  have hsz : (puts (w1.setCell ⟨N, 4, none⟩ x) (N + 1) 0 cs).heap.size = w1.heap.size := by rw [puts_size, size_set]
  refine ⟨puts_below (by omega) _ _ _ (hbw.setCell (Nat.le_refl _) _), (hO.keep fun k hk => ?_).sub fun k hk => ?_⟩
  · rw [puts_block _ _ (by omega), Below.heap_setCell _ _ _ _ (by show k ≠ N; omega)]
  · rw [hsz]; omega
def CpSelOk (f : Nat) : Prop := ∀ (s : Se) (w : World) (sa : Option Addr) (sc : Nat), FitS f s.kids → cntTo f s.kids s.kids.length ≤ 1000 → SeReps w (· < w.heap.size) s.kids sa →
  Calls Tryz.prog 95 #[.agg #[.string s.al, .string s.name, .bool s.one, .int .i64 s.id, .slice sa s.kids.length sc]] w fun e w' => ∃ a c, e = .returned (.agg #[.string s.al, .string s.name, .bool s.one, .int .i64 s.id, .slice a s.kids.length c]) ∧ Below w.heap.size w w' ∧ OwnT f w' (fun b => w.heap.size ≤ b ∧ b < w'.heap.size) s.kids a
set_option maxHeartbeats 800000 in
theorem copySel_step (f : Nat) (IH : ∀ (ks : List Se) (w : World) (ka : Option Addr) (kc : Nat), FitS f ks → cntTo f ks ks.length ≤ 1000 → SeReps w (· < w.heap.size) ks ka → Calls Tryz.prog 128 #[.slice ka ks.length kc] w fun e w' => OwnNew f w ks e w') : CpSelOk f := by
  intro s w sa sc hf hc hK
  have hb2 : ∀ o1 o2, Below w.heap.size w ((w.alloc o1).alloc o2) := fun o1 o2 => below_box2 w o1 o2
  have HI := hid_of (fun o1 o2 => IH s.kids ((w.alloc o1).alloc o2) sa sc hf hc ((hK.mono fun b hb => (hb2 o1 o2).block b hb).sub fun b hb => by simp; omega))
  generalize hal : s.al = al
  generalize hnm : s.name = nm
  generalize hon : s.one = on
  generalize hid : s.id = id
  generalize hkk : s.kids = ks at *
  clear hK hf hc hal hnm hon hid hkk
  go_enter Tryz.func95, Tryz.ntmps95
  go_wp2_with (
    go_at_call 128
    refine (HI.out _ _).mono ?_
    rintro e w1 ⟨a1, c1, rfl, hO1, hb1⟩
    obtain ⟨q1, f1⟩ := bcell hb1
    have hsz1 := hb1.size
    simp at hsz1
    have hlt0 : w.heap.size < w1.heap.size := by omega
    have hlt1 : w.heap.size + 1 < w1.heap.size := by omega
    have x4 : w1.cell? ⟨w.heap.size, 4, none⟩ = some (.slice sa ks.length sc) := (q1 w.heap.size 4 (by simp; omega)).trans (by simp))
  have hbw : Below w.heap.size w w1 := (hb2 _ _).trans (hb1.mono (by simp; omega))
  have fin := cpOwn_end (x := .slice a1 ks.length c1) (N := w.heap.size) rfl hbw hsz1 (hO1.sub fun b hb => by simpa using hb) [.string al, .string nm, .bool on, .int .i64 id, .slice a1 ks.length c1]
  refine bodyPost_ret (v := .agg #[.string al, .string nm, .bool on, .int .i64 id, .slice a1 ks.length c1]) ?res rfl ⟨_, _, rfl, fin.1, fin.2⟩
  case res =>
    have hr0 : ∀ o1 c, (((w.alloc o1).alloc (.cells c 56))).rowIs (w.heap.size + 1) 56 c.size (fun i => c[i]?.getD undef) := fun o1 c => by
      have h := ((w.alloc o1).rowIs_alloc c 56 (fun i => c[i]?.getD undef) (fun i hi => by simp [hi]))
      simpa using h
    have hr1 := (hr0 _ _).of_block (hb1.block (w.heap.size + 1) (by simp))
    have p0 := hr1.cell (i := 0) (by simp)
    have p1 := hr1.cell (i := 1) (by simp)
    have p2 := hr1.cell (i := 2) (by simp)
    have p3 := hr1.cell (i := 3) (by simp)
    have p4 := hr1.cell (i := 4) (by simp)
    clear fin hO1 q1 f1 hb1 hr0 hr1
    simp [results, Tryz.results95, go_sem, p0, p1, p2, p3, p4]
set_option maxRecDepth 20000 in
set_option maxHeartbeats 1600000 in
theorem copySels_any : ∀ (f : Nat) (ks : List Se) (w : World) (ka : Option Addr) (kc : Nat), FitS f ks → cntTo f ks ks.length ≤ 1000 → SeReps w (· < w.heap.size) ks ka →
    Calls Tryz.prog 128 #[.slice ka ks.length kc] w fun e w' => OwnNew f w ks e w' := by
  intro f
  induction f with
  | zero =>
    intro ks w ka kc hf hcn hR
    have e : ks = [] := hf
    subst e
    go_enter Tryz.func128, Tryz.ntmps128
    go_wp2_with fail
    go_loopw [3, 8] (fun o i wr => i = .int .i64 0 ∧ o = .slice none 0 0 ∧ wr = w) (fun _ _ _ => 0)
    case atStart => exact ⟨rfl, rfl, rfl⟩
    case round =>
      obtain ⟨rfl, rfl, rfl⟩ := hrel
      go_wp2_with fail
      go_ret
      exact ⟨none, 0, rfl, rfl, Below.refl _ _⟩
  | succ f IH =>
    intro ks w ka kc hf hcn hR
    obtain ⟨i0, hi0, hz0, hz1, hz2⟩ := info_parts info_Sel
    have h72 := hR.1
    have hlen : ks.length ≤ 1000 := Nat.le_trans (cntTo_ge ks f _) hcn
    have HCP := hid_of (copySel_step f IH)
    have HR := hid_of hR
    have HF := hid_of (And.intro hf hcn)
    clear hR hf hcn IH
    go_enter Tryz.func128, Tryz.ntmps128
    go_wp2_with fail
    go_loopw [3, 8] (fun o i wr => ∃ (k : Nat) (es : List El), k ≤ ks.length ∧ i = .int .i64 k ∧ Hid (es.map El.s = ks.take k) ∧ Hid (LI f w.heap.size k es o wr) ∧ Below w.heap.size w wr) (fun _ i _ => ks.length - (intOf i).toNat)
    case atStart => exact ⟨0, [], Nat.zero_le _, rfl, hid_of (by simp), hid_of (LI.nil _ _ _), Below.refl _ _⟩
    case round =>
      obtain ⟨k, es, hk, rfl, HM, HG, hb⟩ := hrel
      obtain ⟨w0, rfl⟩ : ∃ x, x = wr := ⟨wr, rfl⟩
      have zb := hb.size
      have hesk := HG.out.len
      by_cases hlt : k < ks.length
      case neg =>
        have e : k = ks.length := by omega
        subst e
        obtain ⟨oa, ocap, rfl⟩ := HG.out.row.slice
        obtain ⟨a, c, e, hOO⟩ := HG.out.row.own (by omega) HG.out.sz HG.out.ap (fun b => w.heap.size ≤ b ∧ b < w0.heap.size) (fun b hb => hb) (fun e he b hq => ⟨HG.out.low e he b hq, ((HG.out.row.kid e he).2 b hq).1⟩)
        have HMM := hid_of (show es.map El.s = ks by rw [HM.out, List.take_length])
        rw [HMM.out] at hOO
        simp only [Value.slice.injEq, true_and] at e
        obtain ⟨rfl, rfl⟩ := e
        have HOO := hid_of hOO
        clear hOO
        go_wp2_with fail
        go_ret
        exact ⟨oa, ocap, by rw [lessI_len HMM.out]; rfl, HOO.out, hb⟩
      have hki : (k : Int) < (ks.length : Int) := by omega
      obtain ⟨-, C, hA, hr⟩ := HR.out.mono fun b hb2 => hb.block b hb2
      obtain ⟨kb, koff, rfl, hkB, hkc⟩ := hA (by omega)
      obtain ⟨sa, sc, e0, e1, e2, e3, e4, hal, hnm, hKids⟩ := (hr k hlt).pieces
      have q0 : w0.cell? ⟨kb, koff + k * 5, none⟩ = some (.string (sth ks k).al) := e0 ▸ hkc k hlt 0 (by omega)
      have q1 : w0.cell? ⟨kb, koff + k * 5 + 1, none⟩ = some (.string (sth ks k).name) := e1 ▸ hkc k hlt 1 (by omega)
      have q2 : w0.cell? ⟨kb, koff + k * 5 + 2, none⟩ = some (.bool (sth ks k).one) := e2 ▸ hkc k hlt 2 (by omega)
      have q3 : w0.cell? ⟨kb, koff + k * 5 + 3, none⟩ = some (.int .i64 (sth ks k).id) := e3 ▸ hkc k hlt 3 (by omega)
      have q4 : w0.cell? ⟨kb, koff + k * 5 + 4, none⟩ = some (.slice sa (sth ks k).kids.length sc) := e4 ▸ hkc k hlt 4 (by omega)
      have hc1 := cntTo_mono (f + 1) ks (show k + 1 ≤ ks.length by omega)
      rw [cntTo_succ, cntSe_kids] at hc1
      have HT := hid_of (sth_take ks k hlt)
      have HCS := hid_of (fun W (hW : Below w0.heap.size w0 W) => HCP.out (sth ks k) W sa sc (HF.out.1 k hlt) (by have := HF.out.2; omega) ((hKids.mono fun j hj => hW.block j (Nat.lt_of_lt_of_le hj zb)).sub fun j hj => Nat.lt_of_lt_of_le hj (Nat.le_trans zb hW.size)))
      have HSZ := hid_of (And.intro hal hnm)
      clear e0 e1 e2 e3 e4 hkc hr hA hKids hc1 hal hnm HCP
      generalize sth ks k = s at *
      go_wp2_with fail
      refine (HCS.out _ (below_box w0 _)).mono ?_
      rintro e w3 ⟨a3, c3, rfl, hb3, hO3⟩
      have z3 : w0.heap.size + 1 ≤ w3.heap.size := by have := hb3.size; simpa using this
      have hb03 : Below w0.heap.size w0 w3 := (below_box w0 _).trans (hb3.mono (by simp))
      have HO3 := hid_of (hO3.sub (Q' := fun b => w0.heap.size ≤ b ∧ b < w3.heap.size) fun b hb2 => by have := hb2.1; simp at this; omega)
      have HG3 := hid_of (HG.out.keep hb03)
      have hrow := HG3.out.row.row
      have HOL := hid_of (fun j => HG.out.row.row.lt j)
      have HOB : Hid (∀ y ∈ es, ∀ b, y.Q b → b < w0.heap.size) := hid_of fun y hy b hq => ((HG.out.row.kid y hy).2 b hq).1
      clear hO3 hb3 q0 q1 q2 q3 q4 HCS
      go_wp2_with (
        at_builtin
        refine wpList_append_own_at _ rfl _ _ 23 rfl w.heap.size 56 i0 zeroSe 5 72 Tryz.underlying23 hi0 hz0 hz1 hz2 rfl (by decide) _ es.length _ rfl (hrow.alloc _) ⟨w3.heap.size, 0, none⟩ 1 1 [.string s.al, .string s.name, .bool s.one, .int .i64 s.id, .slice a3 s.kids.length c3] rfl rfl (World.news_of_block (heap_alloc_new w3 _)) (by intro u hu; simp at hu; rcases hu with rfl | rfl | rfl | rfl | rfl <;> rfl) (by unfold maxLen; omega) (by omega) (by simp; omega) ?_
        intro v' w7 hown hgrow hnn hob
        refine Hid.out ?_)
      refine hid_of ?_
      have hpush := LI.push (N := w0.heap.size) (HG3.out.keep (below_box w3 _)) ⟨s, a3, c3, fun b => w0.heap.size ≤ b ∧ b < w3.heap.size⟩ rfl hown hgrow hob (HO3.out.keep fun b hq => (below_box w3 _).block b (by omega)) (fun b hq => ⟨by simp; omega, fun e2 => by have := HOL.out b e2; omega⟩) (fun b hq => by omega) HOB.out HSZ.out
      have hb7 : Below w.heap.size w w7 := ((hb.trans (hb03.mono zb)).alloc (by omega) _).grown hgrow (by simp; omega) (fun j hj => (HOL.out j hj).1)
      have HP := hid_of hpush
      clear hown hgrow hnn hob hpush
      go_wp2_with fail
      go_roundw
      case measure => simp [intOf]; omega
      case rel => exact ⟨k + 1, _, by omega, by go_num, hid_of (by rw [List.map_append, HM.out, ← HT.out]; rfl), HP, hb7⟩
theorem copySel_any (f : Nat) : CpSelOk f := copySel_step f (copySels_any f)
end Go.Proofs.YtokmgbidmnanpaaGreatDoor
namespace Go.Proofs.YtokmgbidmnanpaaGreatDoor
open Go.RowKit Go.Shelf Go.Maps
attribute [local go_sem] Oper.semAt_some
set_option maxRecDepth 20000 in
set_option maxHeartbeats 3200000 in
theorem AskDepthI_any (f : Nat) (ks : List Se) (P : Nat → Prop) (B : Nat) (ka : Option Addr) (kc : Nat) (w : World) (h : AskIn f ks P B ka w) :
    Calls Tryz.prog 11 #[.slice ka ks.length kc] w fun e w' => e = .returned (.int .i64 (askDep f ks)) ∧ Below w.heap.size w w' := by
  have HO := hid_of (AskOkI_any f ks P B ka kc w h)
  cases ho : askOk f ks
  · rw [ho] at HO
    have HE : Hid (askDep f ks = 0) := hid_of (by rw [askDep, ho]; rfl)
    refine (callsIn_wide (n := 3)).1 ?_
    refine callsIn_of_wp_marks Tryz.func11 rfl trivial ?_ rfl
    simp only [Tryz.ntmps11, List.size_toArray, List.length_cons, List.length_nil, Nat.reduceAdd, Nat.reduceSub, Array.replicate_succ, Array.replicate_zero, List.push_toArray, List.append_toArray, List.nil_append, List.cons_append]
    gi_wp2_with (refine ⟨trivial, ?_⟩; gi_at_call 14; refine (callsIn_wide.2 HO.out).mono ?_; rintro e w1 ⟨rfl, hb1⟩)
    refine ⟨_, results_tmp rfl _ _ _, ?_, hb1⟩
    exact ret_int (by rw [HE.out]; rfl)
  rw [ho] at HO
  have HE : Hid (askDep f ks = dpt f ks ks.length) := hid_of (by rw [askDep, ho]; rfl)
  have hq : askB f ks = true := by
    simp only [askOk, Bool.and_eq_true] at ho
    exact ho.1
  have h0 : 0 < ks.length := by
    cases ks with
    | nil => simp [askB] at hq
    | cons a l => simp
  obtain ⟨XS, hXS⟩ : ∃ XS, XS = preTo f [] ks ks.length := ⟨_, rfl⟩
  have HTop : Hid (top XS = askDep f ks) := hid_of (by rw [HE.out, hXS, top_pre f [] ks _ h.fit (Nat.le_refl _), if_neg (by omega)]; simp)
  have HXS := hid_of hXS
  clear hXS hq ho HE
  refine (callsIn_wide (n := 3)).1 ?_
  refine callsIn_of_wp_marks Tryz.func11 rfl trivial ?_ rfl
  simp only [Tryz.ntmps11, List.size_toArray, List.length_cons, List.length_nil, Nat.reduceAdd, Nat.reduceSub, Array.replicate_succ, Array.replicate_zero, List.push_toArray, List.append_toArray, List.nil_append, List.cons_append]
  gi_wp2_with (first
    | (refine ⟨trivial, ?_⟩; gi_at_call 14; refine (callsIn_wide.2 HO.out).mono ?_; rintro e w1 ⟨rfl, hb1⟩)
    | (refine ⟨trivial, ?_⟩; gi_at_call 42; refine (callsIn_wide.2 (selsOf_any _ ka ks.length kc)).mono ?_; rintro e w' ⟨rfl, rfl⟩))
  have h1 := h.on hb1
  clear HO
  obtain ⟨Y, hY⟩ : ∃ Y, Y = (w1.alloc (.cells #[.int .i64 0] 3)).alloc (.cells #[.slice ka ks.length kc] 23) := ⟨_, rfl⟩
  have zY : Y.heap.size = w1.heap.size + 1 + 1 := by rw [hY]; simp
  have bY : Below w1.heap.size w1 Y := by rw [hY]; exact below_box2 _ _ _
  have rY : Y.heap[w1.heap.size]? = some (.cells #[.int .i64 0] 3 (0, 0)) := by
    rw [hY, (below_box _ _).block _ (by simp)]
    exact block_new _ _ rfl
  have sY : Y.heap[w1.heap.size + 1]? = some (.cells #[.slice ka ks.length kc] 23 (0, 0)) := by
    rw [hY]
    exact block_new _ _ (by simp)
  rw [← hY]
  clear hY
  refine range_stop (w := Y) rfl (by omega) (gf := 79) (lb := #[.pointer (some ⟨w1.heap.size + 1, 0, none⟩)]) rfl trivial (enters_of Tryz.func79 (by kernel_rfl) rfl)
    XS (fun pre x ar A => ArgT x ar A ∧ pre ++ [x] <+: XS) ?ps (fun pre O A => A.heap[w1.heap.size]? = some (.cells #[.int .i64 (top pre)] 3 (0, 0)) ∧ Below w1.heap.size w1 A ∧ top pre ≤ maxLen ∧ (∀ b, O b ↔ b = w1.heap.size)) ?still ?grows ?lt (fun _ => False) ?xstill
    (fun b => b = w1.heap.size) ?start ?seq
    (fun pre x ar a' A => ∃ (wa : Option Addr) (wc : Nat) (sv : Value), x.1.length ≤ maxLen ∧ a' = { tmps := #[.slice ka ks.length kc, undef, .int .i64 0, .pointer (some ⟨w1.heap.size, 0, none⟩), .slice wa x.1.length wc, .slice ka ks.length kc, .bool true, .bool false, .slice ka ks.length kc, .func (.func 79) #[] #[.pointer (some ⟨w1.heap.size + 1, 0, none⟩)], .slice wa x.1.length wc, sv, undef, undef, undef, undef, undef], defers := [] }) ?astill ?assign ?body ?done ?stop
  case ps =>
    rintro pre x ar A ⟨⟨wa, wc, sa, sc, rfl, -⟩, -⟩
    rfl
  case still =>
    rintro pre O A l o o' ⟨h1, h2, h3, h4⟩ hl ho1 ho2
    exact ⟨still_cells ho1 ho2 h1, h2.trans (below_putObj _ _ (by omega)), h3, h4⟩
  case grows =>
    rintro pre O A A' ⟨h1, h2, h3, h4⟩ hb
    exact ⟨(hb.block _ (Array.getElem?_eq_some_iff.1 h1).1).trans h1, h2.trans (hb.mono h2.size), h3, h4⟩
  case lt =>
    rintro pre O A ⟨h1, h2, h3, h4⟩ b hb
    rw [(h4 b).1 hb]
    exact (Array.getElem?_eq_some_iff.1 h1).1
  case xstill => exact fun A l o o' h => h.elim
  case start => exact ⟨rY, bY, Nat.zero_le _, fun b => Iff.rfl⟩
  case seq =>
    intro l J Jx W hb hJg hJO hy h0
    have hbW := bY.trans (hb.mono (by omega))
    have := selsOf1_any f ks l J Jx w1.heap.size hJg hJO (fun n pre O x ar A hJ hp hA => yieldAt_wide (hy pre O x ar A hJ ⟨hA, by rw [HXS.out]; exact hp⟩)) (3 - 1) _ W ka kc (w1.heap.size + 1) h1.fit h1.small ((h1.on hbW).rep.sub fun b hb => by have := (h1.apart b hb).1; have := h1.le; omega) hbW.size h1.few h0 (by rintro b rfl; omega) ((hb.cell (p := ⟨w1.heap.size + 1, 0, none⟩) (by show w1.heap.size + 1 < _; omega)).trans (box_at sY 0 (by simp)).1)
    rw [← HXS.out] at this
    exact this
  case astill => exact fun pre x ar a' A l o o' h _ _ _ => h
  case assign =>
    rintro l pre x ar A K ⟨⟨wa, wc, sa, sc, rfl, h3, h4, h5, h6, h7, h8⟩, hp⟩ hK
    have HK := hid_of hK
    clear hK
    gi_wp2
    exact HK.out _ _ (Below.refl _ _) ⟨wa, wc, _, h4.2.2, rfl⟩
  case body =>
    rintro l pre O x ar a' A ⟨g1, g2, g3, g4⟩ ⟨wa, wc, sv, hxl, rfl⟩
    have zY2 : w1.heap.size ≤ Y.heap.size := by omega
    clear zY
    have c0 := (box_at g1 0 (by simp)).1
    have c0f := (box_at g1 0 (by simp)).2
    simp only [List.getElem_toArray, List.getElem_cons_zero] at c0
    unfold maxLen at g3 hxl
    obtain ⟨v, hv⟩ : ∃ v : Nat, v = max (top pre) x.1.length := ⟨_, rfl⟩
    have hvi : (v : Int) = max (top pre : Int) (x.1.length : Int) := by omega
    have hfin : KeepsFrom Y.heap.size A (A.setCell ⟨w1.heap.size, 0, none⟩ (.int .i64 v)) ∧ ∃ O' : Nat → Prop, (A.setCell ⟨w1.heap.size, 0, none⟩ (.int .i64 v)).heap[w1.heap.size]? = some (.cells #[.int .i64 (top (pre ++ [x]))] 3 (0, 0)) ∧ Below w1.heap.size w1 (A.setCell ⟨w1.heap.size, 0, none⟩ (.int .i64 v)) ∧ top (pre ++ [x]) ≤ maxLen ∧ (∀ b, O' b ↔ b = w1.heap.size) := by
      have ht : top (pre ++ [x]) = v := by rw [top_app, hv]; simp [top]
      refine ⟨(KeepsOthers.setCell _ _ _).from _, O, ?_, g2.setCell (p := ⟨w1.heap.size, 0, none⟩) (Nat.le_refl _) _, ?_, g4⟩
      · rw [set_box g1, ht]; rfl
      · rw [ht, hv]; unfold maxLen; omega
    have hkp : KeepO O A (A.setCell ⟨w1.heap.size, 0, none⟩ (.int .i64 v)) := ⟨by simp, fun b o hO hc _ => (Below.heap_setCell _ _ _ _ (fun e => hO ((g4 b).2 e))).trans hc⟩
    rw [hvi] at hfin hkp
    have HF := hid_of (And.intro hfin hkp)
    have HG := hid_of g4
    clear hfin hkp hvi hv g4
    gi_wp2
    obtain ⟨⟨k1, O', k2, k3, k4, k5⟩, k6⟩ := HF.out
    exact ⟨k1, Or.inl ⟨rfl, O', ⟨k2, k3, k4, k5⟩, k6, fun b hb => Or.inl ((HG.out b).2 ((k5 b).1 hb))⟩⟩
  case done =>
    rintro D O W hD ⟨g1, g2, g3, g4⟩ hK
    have c0 := (box_at g1 0 (by simp)).1
    simp only [List.getElem_toArray, List.getElem_cons_zero] at c0
    gi_wp2
    refine ⟨by simp, .inl ⟨_, _, rfl, run_takeDeferred hK, ?_⟩⟩
    refine ⟨_, results_tmp rfl _ _ _, ?_, hb1.trans ((g2.mono hb1.size).trans (below_putObj _ _ (by have := hb1.size; omega)))⟩
    exact ret_int (by rw [HTop.out])
  case stop => exact fun D W _ h _ => h.elim
end Go.Proofs.YtokmgbidmnanpaaGreatDoor
