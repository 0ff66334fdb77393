import Derived.Test.YtdohgkokoicjlaaB29
import Derived.Test.YtdohgkokoicjlaaB24
import Derived.Test.YtdohgkokoicjlaaB34
import Derived.Test.YtdohgkokoicjlaaB13
import Derived.Test.YtdohgkokoicjlaaB33
import Derived.Test.YtdohgkokoicjlaaB32
import Derived.Test.YtdohgkokoicjlaaB35
set_option linter.unusedSimpArgs false
set_option linter.unusedVariables false
namespace Go.Proofs.Ytdohgkokoicjlaa
open Go.RowKit Go.Maps
attribute [local go_sem] Oper.semAt_some
def blankB (w : World) (N g : Nat) : World := { w with heap := w.heap.mapIdx fun i o => if i < N ∨ i = g then .cells #[] 0 else o }
theorem blankB_at (w : World) {N g k : Nat} (h : N ≤ k) (hg : k ≠ g) : (blankB w N g).heap[k]? = w.heap[k]? := by
  have : ¬ (k < N ∨ k = g) := by omega
  simp only [blankB, Array.getElem?_mapIdx, if_neg this]
  cases w.heap[k]? <;> rfl
theorem blankB_none (w : World) (N g : Nat) : NoText (blankB w N g) (fun b => b < N ∨ b = g) := fun b hb o s hc => by
  unfold World.cell? at hc
  rcases h : w.heap[b]? with _ | x
  · simp [blankB, Array.getElem?_mapIdx, h] at hc
  · simp [blankB, Array.getElem?_mapIdx, h, hb] at hc
theorem blankB_size (w : World) (N g : Nat) : (blankB w N g).heap.size = w.heap.size := by simp [blankB]
def PartAt (w wx : World) (pb : Nat) (xs : List Value) (i : Nat) (p : Pt) : Prop := ∃ (tb cap : Nat), xs[i * 2]? = some (.string p.name) ∧ xs[i * 2 + 1]? = some (.slice (some ⟨tb, 0, none⟩) p.types.length cap) ∧ PRep wx (fun b => w.heap.size ≤ b ∧ b < wx.heap.size ∧ b ≠ pb) p (.agg #[.string p.name, .slice (some ⟨tb, 0, none⟩) p.types.length cap]) ∧
  1 ≤ p.types.length ∧ p.types.length ≤ 113 ∧ (∀ i, SmT 119 1 (tth p.types i)) ∧ p.name.size ≤ 12 ∧ szP p ≤ 900000
theorem PSt.part {w : World} {rb cb n : Nat} {wx : World} {σ : Sh} {c q pb pc : Nat} {ps : List Pv} (h : PSt w rb cb n wx σ c q pb pc ps) (hc : c ≤ 56) {i : Nat} (hi : i < n) : ∃ p : Pt, PartAt w wx pb (flatP ps) i p := by
  obtain ⟨p, ⟨h1, h2, h3, h4, h5, h6⟩, c0, c1, -⟩ := h.cells i hi
  have hnt : (bdP c).nt ≤ 113 := by simp only [bdP]; omega
  have hnf : (bdP c).nf ≤ 119 := by simp only [bdP]; omega
  have hnn : (bdP c).nn = 1 := rfl
  have hW : Wf (blankB wx w.heap.size pb) σ (bdP c) := h.wf.keep fun b T m hb => blankB_at _ (h.new b T m hb) (fun e => by rw [e, h.npb] at hb; cases hb)
  obtain ⟨ts, hts, hP, -, hz, hsm⟩ := hW.types (off := 0) (len := p.len) (c' := p.cap) h6 (by omega) (by omega) h4 (by omega) (by omega) p.s h1
  rw [hnn] at hz hsm
  rw [Nat.zero_mul] at hP
  have hsz : szP ⟨p.s, ts⟩ ≤ 900000 := by
    refine Nat.le_trans hz ?_
    have h1 : (25 + 13 * 1) * (bdP c).nf ≤ 38 * 119 := Nat.mul_le_mul (by omega) hnf
    have h2 : (25 + (25 + 13 * 1) * (bdP c).nf) * p.len ≤ (25 + 38 * 119) * 113 := Nat.mul_le_mul (by omega) (by omega)
    omega
  have hP2 := ((hP.avoid (blankB_none wx w.heap.size pb)).mono (w' := wx) fun k hk => (blankB_at wx (by have := hk.2; omega) (by have := hk.2; omega)).symm).sub (Q := fun b => w.heap.size ≤ b ∧ b < wx.heap.size ∧ b ≠ pb) fun b hb => by
    have h1 := hb.2
    have h2 : b < (blankB wx w.heap.size pb).heap.size := hb.1
    rw [blankB_size] at h2
    omega
  have ca := fun j (hj : j < n * 2) => h.own.cellAt j hj
  refine ⟨⟨p.s, ts⟩, p.b, p.cap, ?_, ?_, ?_, ?_, ?_, fun i => (hsm i).le hnf, h1, hsz⟩
  · rw [← ca _ (by omega)]; exact c0
  · rw [← ca _ (by omega), c1, hts]
  · rw [← hts] at hP2; exact hP2
  · simp only [hts]; exact h2
  · simp only [hts]; omega
theorem PSt.parts {w : World} {rb cb n : Nat} {wx : World} {σ : Sh} {c q pb pc : Nat} {ps : List Pv} (h : PSt w rb cb n wx σ c q pb pc ps) (hc : c ≤ 56) : ∃ qs : List Pt, qs.length = n ∧ ∀ i, i < n → PartAt w wx pb (flatP ps) i (pth qs i) := by
  have hk : ∀ i, ∃ p : Pt, i < n → PartAt w wx pb (flatP ps) i p := fun i => by
    by_cases hi : i < n
    · obtain ⟨p, hp⟩ := h.part hc hi
      exact ⟨p, fun _ => hp⟩
    · exact ⟨Pt.zero, fun h => absurd h hi⟩
  obtain ⟨f, hf⟩ := Classical.skolem.1 hk
  refine ⟨(List.range n).map f, by simp, fun i hi => ?_⟩
  have e : pth ((List.range n).map f) i = f i := by simp [pth, List.getD_eq_getElem?_getD, hi]
  rw [e]
  exact hf i hi
theorem psRep_row {W : World} {base g m cap : Nat} {xs : List Value} {P : Nat → Prop} {qs : List Pt} (ho : W.ownsRow base 25 2 (.slice (some ⟨g, 0, none⟩) m cap) m xs) (hm : qs.length = m) (hg : P g) (hl : m ≤ 1000)
    (h : ∀ i, i < m → ∃ v0 v1, xs[i * 2]? = some v0 ∧ xs[i * 2 + 1]? = some v1 ∧ PRep W P (pth qs i) (.agg #[v0, v1])) : PsRep W P qs (some ⟨g, 0, none⟩) := by
  have hk : ∀ i, ∃ r : Value × Value, i < m → xs[i * 2]? = some r.1 ∧ xs[i * 2 + 1]? = some r.2 ∧ PRep W P (pth qs i) (.agg #[r.1, r.2]) := fun i => by
    by_cases hi : i < m
    · obtain ⟨v0, v1, h1⟩ := h i hi
      exact ⟨(v0, v1), fun _ => h1⟩
    · exact ⟨(undef, undef), fun h => absurd h hi⟩
  obtain ⟨f, hf⟩ := Classical.skolem.1 hk
  refine ⟨by omega, fun i j => if j = 0 then (f i).1 else (f i).2, fun _ => ⟨g, 0, rfl, hg, fun i hi j hj => ?_⟩, fun i hi => ?_⟩
  · rw [hm] at hi
    obtain ⟨c0, c1, -⟩ := hf i hi
    rw [Nat.zero_add, ho.cellAt _ (by omega)]
    by_cases e : j = 0
    · subst e; simpa using c0
    · have : j = 1 := by omega
      subst this; simpa using c1
  · rw [hm] at hi
    simpa using (hf i hi).2.2
def AnyEnd (w : World) (rb cb : Nat) (e : Ending) (w' : World) : Prop := ∃ (ps : List Pt) (a : Option Addr) (c q : Nat), e = .returned (.slice a ps.length c) ∧ ps.length ≤ 4 ∧ PsRep w' (fun b => w.heap.size ≤ b ∧ b < w'.heap.size) ps a ∧ (∀ i, i < ps.length → szP (pth ps i) ≤ 900000) ∧ RdOk w' rb cb q ∧ q ≤ 30000 ∧ Only (· = rb) w w'
set_option maxRecDepth 20000 in
set_option maxHeartbeats 6400000 in
theorem l11AnyParts_any (w : World) (rb cb q0 : Nat) (hR : RdOk w rb cb q0) (hq : q0 ≤ 1000) :
    Calls Try.prog 18 #[.pointer (some ⟨rb, 0, none⟩)] w (AnyEnd w rb cb) := by
  obtain ⟨hr1, hr2, hr3⟩ := hR.lt
  have HPS := hid_of (l11Parts_any w rb cb q0 hR (by omega))
  clear hR
  go_enter Try.func18, Try.ntmps18
  go_upto_region 2 with (
    go_at_call 32
    refine HPS.out.mono ?_
    rintro e w2 ⟨n, σ, c, q, pb, pc, ps, rfl, hn1, hn3, hc, hqq, hst⟩)
  have hpb := hst.plt
  have HPK := hid_of (pick_any w2 rb cb q 14 hst.rd (by omega) (by omega) (by omega))
  obtain ⟨qs, hql, hqs⟩ := hst.parts hc
  have HQ := hid_of hqs
  have HOW := hid_of hst.own
  have HO2 := hid_of hst.only
  clear HPS hst hqs
  go_upto_if 9 with (
    go_at_call 33
    refine HPK.out.mono ?_
    rintro e w3 ⟨x, rfl, hx, r3, o3, z3⟩)
  clear HPK
  have HROW : Hid (∀ W, Only (· = rb) w2 W → W.ownsRow w.heap.size 25 2 (.slice (some ⟨pb, 0, none⟩) n pc) n (flatP ps)) := hid_of fun W hW => by
    refine ⟨HOW.out.1, HOW.out.2.imp id ?_⟩
    rintro ⟨g, cap, cur, e, hg, hh, hr⟩
    cases e
    exact ⟨pb, pc, cur, rfl, hg, (hW.block pb hpb.2 (by omega)).trans hh, hr⟩
  have HPT : Hid (∀ W, Only (· = rb) w2 W → ∀ i, i < n → PartAt w W pb (flatP ps) i (pth qs i)) := hid_of fun W hW i hi => by
    obtain ⟨tb, cap, h1, h2, h3, h4⟩ := HQ.out i hi
    have hz := hW.size
    exact ⟨tb, cap, h1, h2, (h3.mono fun b hb => hW.block b hb.2.1 (by omega)).sub fun b hb => by omega, h4⟩
  have HEND : Hid (∀ W q', Only (· = rb) w2 W → RdOk W rb cb q' → q' ≤ 30000 → AnyEnd w rb cb (.returned (.slice (some ⟨pb, 0, none⟩) n pc)) W) := hid_of fun W q' hW hr hq' => by
    have hz := hW.size
    subst hql
    refine ⟨qs, some ⟨pb, 0, none⟩, pc, q', rfl, by omega, psRep_row (HROW.out W hW) rfl ⟨hpb.1, by omega⟩ (by omega) fun i hi => ?_, fun i hi => ?_, hr, hq', HO2.out.trans hW fun _ _ q => q⟩
    · obtain ⟨tb, cap, h1, h2, h3, -⟩ := HPT.out W hW i hi
      exact ⟨_, _, h1, h2, h3.sub fun b hb => ⟨hb.1, hb.2.1⟩⟩
    · obtain ⟨tb, cap, -, -, -, -, -, -, -, h⟩ := HPT.out W hW i hi
      exact h
  have HO3 := hid_of o3
  have HR3 := hid_of r3
  clear HQ HOW o3 r3
  by_cases hx0 : x = 0
  · subst hx0
    have HPK := hid_of (pick_any w3 rb cb (q + 1) n HR3.out (by omega) (by omega) (by omega))
    go_upto_region 5 with (
      go_at_call 33
      refine HPK.out.mono ?_
      rintro e w4 ⟨k, rfl, hk, r4, o4, z4⟩)
    replace hk : k < n := by omega
    have HO4 := hid_of (HO3.out.trans o4 fun _ _ q => q)
    obtain ⟨tb, cap, f0, f1, hP, hp1, hp2, hp3, hp4, hp5⟩ := HPT.out w4 HO4.out k hk
    have hrow := HROW.out w4 HO4.out
    have c0 := hrow.cellAt (k * 2) (by omega)
    have c1 := hrow.cellAt (k * 2 + 1) (by omega)
    rw [f0] at c0
    rw [f1] at c1
    have HSP := hid_of (l11SpoilPart_any w4 rb cb (q + 2) (pth qs k) (some ⟨tb, 0, none⟩) cap r4 (by omega) (hP.sub fun b hb => hb.2.1) hp1 hp2 hp3 hp4)
    obtain ⟨pl, hpl⟩ : ∃ x, x = (pth qs k).types.length := ⟨_, rfl⟩
    obtain ⟨pn, hpn⟩ : ∃ x, x = (pth qs k).name := ⟨_, rfl⟩
    rw [← hpl, ← hpn] at HSP
    rw [← hpl] at c1
    rw [← hpn] at c0
    have hki : (k : Int) < (n : Int) := by omega
    have z04 := HO4.out.size
    have HK := hid_of hk
    clear hP hp1 hp2 hp3 hp4 hp5 f0 f1 hrow HPK hpl hpn r4 o4 z4
    go_upto_region 10 with (
      go_at_call 34
      refine HSP.out.mono ?_
      rintro e w5 ⟨σ5, B5, s5, tb5, off5, len5, c5, cap5, rfl, hL5, o5, r5⟩
      have hO5 := HO4.out.trans o5 fun _ _ q => q
      have hrow5 := HROW.out w5 hO5
      have y0 := hrow5.cellAt (k * 2) (by omega)
      have y1 := hrow5.cellAt (k * 2 + 1) (by omega)
      obtain ⟨tb', cap', f0, f1, -⟩ := HPT.out w5 hO5 k HK.out
      rw [f0] at y0
      rw [f1] at y1
      have yf0 := hrow5.frozenAt (k * 2)
      have yf1 := hrow5.frozenAt (k * 2 + 1)
      have HO5 := hid_of hO5
      have HL5 := hid_of hL5
      have HR5 := hid_of r5
      have hz5 := o5.size
      clear hO5 hrow5 f0 f1 hL5 o5 r5)
    have HFIN : AnyEnd w rb cb (.returned (.slice (some ⟨pb, 0, none⟩) n pc)) ((w5.setCell ⟨pb, k * 2, none⟩ (.string s5)).setCell ⟨pb, k * 2 + 1, none⟩ (.slice (some ⟨tb5, off5 * 3, none⟩) len5 c5)) := by
      obtain ⟨p5, hP5, hs5⟩ := HL5.out.partN
      have hk := HK.out
      have hrow6 := (((HROW.out w5 HO5.out).stored (k * 2) (.string s5)).1.stored (k * 2 + 1) (.slice (some ⟨tb5, off5 * 3, none⟩) len5 c5)).1
      have hbl : ∀ b, b ≠ pb → ((w5.setCell ⟨pb, k * 2, none⟩ (.string s5)).setCell ⟨pb, k * 2 + 1, none⟩ (.slice (some ⟨tb5, off5 * 3, none⟩) len5 c5)).heap[b]? = w5.heap[b]? := fun b hb => (Below.heap_setCell _ _ _ _ hb).trans (Below.heap_setCell _ _ _ _ hb)
      have hsz : ((w5.setCell ⟨pb, k * 2, none⟩ (.string s5)).setCell ⟨pb, k * 2 + 1, none⟩ (.slice (some ⟨tb5, off5 * 3, none⟩) len5 c5)).heap.size = w5.heap.size := by simp
      have hfl := flatP_len ps
      have hlen : (flatP ps).length = n * 2 := (HROW.out w5 HO5.out).1
      have hpq : ∀ i, i < n → pth (qs.set k p5) i = if i = k then p5 else pth qs i := fun i hi => by
        simp only [pth, List.getD_eq_getElem?_getD, List.getElem?_set]
        by_cases e : k = i
        · subst e; simp [hql, hi]
        · rw [if_neg e, if_neg (fun h => e h.symm)]
      refine ⟨qs.set k p5, some ⟨pb, 0, none⟩, pc, 20010, by rw [List.length_set, hql], by rw [List.length_set]; omega, psRep_row (m := n) hrow6 (by rw [List.length_set, hql]) ⟨hpb.1, by rw [hsz]; omega⟩ (by omega) fun i hi => ?_, fun i hi => ?_, HR5.out.keep (hbl rb (by omega)) (hbl cb (by omega)) (by rw [hsz]; exact Nat.le_refl _), by omega, (((HO2.out.trans HO5.out fun _ _ q => q).set _ _ (Or.inr hpb.1) _).set _ _ (Or.inr hpb.1) _)⟩
      · rw [hpq i hi]
        by_cases e : i = k
        · subst e
          rw [if_pos rfl]
          refine ⟨.string s5, .slice (some ⟨tb5, off5 * 3, none⟩) len5 c5, ?_, ?_, (hP5.mono fun b hb => hbl b (by omega)).sub fun b hb => ⟨by omega, by rw [hsz]; exact hb.2⟩⟩
          · rw [List.getElem?_set_ne (by omega), List.getElem?_set_self (by omega)]
          · rw [List.getElem?_set_self (by rw [List.length_set]; omega)]
        · rw [if_neg e]
          obtain ⟨tb', cap', g0, g1, g2, -⟩ := HPT.out w5 HO5.out i hi
          refine ⟨_, _, ?_, ?_, (g2.mono fun b hb => hbl b hb.2.2).sub fun b hb => ⟨hb.1, by rw [hsz]; exact hb.2.1⟩⟩
          · rw [List.getElem?_set_ne (by omega), List.getElem?_set_ne (by omega)]; exact g0
          · rw [List.getElem?_set_ne (by omega), List.getElem?_set_ne (by omega)]; exact g1
      · rw [List.length_set, hql] at hi
        rw [hpq i hi]
        by_cases e : i = k
        · rw [if_pos e]; exact hs5
        · rw [if_neg e]
          obtain ⟨tb', cap', -, -, -, -, -, -, -, h⟩ := HPT.out w5 HO5.out i hi
          exact h
    go_wp2_with fail
    go_ret
    exact HFIN
  have hx0i : ¬ (x : Int) = 0 := by omega
  by_cases hx1 : x = 1
  · subst hx1
    have HPK := hid_of (pick_any w3 rb cb (q + 1) n HR3.out (by omega) (by omega) (by omega))
    obtain ⟨iP, hiP, hzP, hsP, hbP⟩ := info_parts infoP
    go_upto_region 7 with fail
    go_wp2_with (first
      | (
        go_at_call 33
        refine HPK.out.mono ?_
        rintro e w4 ⟨k, rfl, hk, r4, o4, z4⟩
        replace hk : k < n := by omega
        have HO4 := hid_of (HO3.out.trans o4 fun _ _ q => q)
        obtain ⟨tb, cap, f0, f1, hP, hp1, hp2, hp3, hp4, hp5⟩ := HPT.out w4 HO4.out k hk
        have hrow := HROW.out w4 HO4.out
        have c0 := hrow.cellAt (k * 2) (by omega)
        have c1 := hrow.cellAt (k * 2 + 1) (by omega)
        rw [f0] at c0
        rw [f1] at c1
        obtain ⟨pl, hpl⟩ : ∃ x, Hid (x = (pth qs k).types.length) := ⟨_, hid_of rfl⟩
        obtain ⟨pn, hpn⟩ : ∃ x, Hid (x = (pth qs k).name) := ⟨_, hid_of rfl⟩
        rw [← hpl.out] at c1
        rw [← hpn.out] at c0
        have hki : (k : Int) < (n : Int) := by omega
        have z04 := HO4.out.size
        have HK := hid_of hk
        have HP5 := hid_of hp5
        have HP := hid_of hP
        have HR4 := hid_of r4
        have bZ := below_box w4 (.cells #[.string pn, .slice (some ⟨tb, 0, none⟩) pl cap] 25)
        have nZ := block_new (w := w4) (N := w4.heap.size) #[.string pn, .slice (some ⟨tb, 0, none⟩) pl cap] 25 rfl
        have zZ : (w4.alloc (.cells #[.string pn, .slice (some ⟨tb, 0, none⟩) pl cap] 25)).heap.size = w4.heap.size + 1 := by simp
        have hrowZ := HROW.out _ (HO4.out.trans (Only.of_below (· = rb) bZ) fun _ _ q => q)
        have HEND2 : Hid (∀ g cap' wF, wF.ownsRow w.heap.size 25 2 (.slice (some ⟨g, 0, none⟩) (n + 1) cap') (n + 1) (flatP ps ++ [.string pn, .slice (some ⟨tb, 0, none⟩) pl cap]) → (w4.alloc (.cells #[.string pn, .slice (some ⟨tb, 0, none⟩) pl cap] 25)).grownBy wF (some pb) → AnyEnd w rb cb (.returned (.slice (some ⟨g, 0, none⟩) (n + 1) cap')) wF) := hid_of fun g cap' wF ho hg => by
          have hk := HK.out
          have hO4 := HO4.out
          have hoZ := hO4.trans (Only.of_below (· = rb) bZ) fun _ _ q => q
          have hlen : (flatP ps).length = n * 2 := hrowZ.1
          have hgz := hg.size
          have hbl : ∀ b, b < w4.heap.size + 1 → b ≠ pb → wF.heap[b]? = (w4.alloc (.cells #[.string pn, .slice (some ⟨tb, 0, none⟩) pl cap] 25)).heap[b]? := fun b hb hn => hg.block b (by omega) fun e => hn (Option.some.inj e)
          have hgl := (ho.lt g rfl)
          have hcl := HR4.out.lt.2.1
          have hpq : ∀ i, i < n + 1 → pth (qs ++ [pth qs k]) i = if i < n then pth qs i else pth qs k := fun i hi => by
            simp only [pth, List.getD_eq_getElem?_getD]
            by_cases e : i < n
            · rw [if_pos e, List.getElem?_append_left (by omega)]
            · have : i = qs.length := by omega
              subst this
              rw [if_neg e]
              simp
          refine ⟨qs ++ [pth qs k], some ⟨g, 0, none⟩, cap', q + 2, by rw [List.length_append, List.length_singleton, hql], by rw [List.length_append, List.length_singleton]; omega, psRep_row (m := n + 1) ho (by rw [List.length_append, List.length_singleton, hql]) hgl (by omega) fun i hi => ?_, fun i hi => ?_, (HR4.out.only (Only.of_below (fun _ => False) bZ) id id).keep (hbl rb (by omega) (by omega)) (hbl cb (by omega) (by omega)) hgz, by omega, ?_⟩
          · rw [hpq i hi]
            by_cases e : i < n
            · rw [if_pos e]
              obtain ⟨tb', cp', g0, g1, g2, -⟩ := HPT.out _ hoZ i e
              refine ⟨_, _, ?_, ?_, (g2.mono fun b hb => hbl b (by omega) hb.2.2).sub fun b hb => by omega⟩
              · rw [List.getElem?_append_left (by omega)]; exact g0
              · rw [List.getElem?_append_left (by omega)]; exact g1
            · have : i = n := by omega
              subst this
              rw [if_neg e]
              have hPZ := (HP.out.mono (w' := wF) fun b hb => (hbl b (by omega) hb.2.2).trans (bZ.block b hb.2.1)).sub (Q := fun b => w.heap.size ≤ b ∧ b < wF.heap.size) fun b hb => by omega
              rw [← hpl.out, ← hpn.out] at hPZ
              refine ⟨_, _, ?_, ?_, hPZ⟩
              · rw [List.getElem?_append_right (by omega), hlen, Nat.sub_self]; rfl
              · rw [List.getElem?_append_right (by omega), hlen, show i * 2 + 1 - i * 2 = 1 by omega]; rfl
          · rw [List.length_append, List.length_singleton, hql] at hi
            rw [hpq i hi]
            by_cases e : i < n
            · rw [if_pos e]
              obtain ⟨tb', cp', -, -, -, -, -, -, -, h⟩ := HPT.out _ hoZ i e
              exact h
            · rw [if_neg e]; exact HP5.out
          · have h1 := HO2.out.trans hoZ fun _ _ q => q
            exact ⟨hg.os.trans h1.os, hg.tape.trans h1.tape, hg.output.trans h1.output, by have := h1.size; omega, fun b hb hn => (hbl b (by have := HO2.out.size; omega) (by omega)).trans (h1.block b hb hn)⟩
        obtain ⟨xs, hxs⟩ : ∃ xs, Hid (xs = flatP ps) := ⟨_, hid_of rfl⟩
        rw [← hxs.out] at hrowZ HEND2
        have hzw : w.heap.size ≤ w4.heap.size + 1 := by omega
        clear hP hp1 hp2 hp3 hp4 hp5 f0 f1 hrow r4 o4 z4 bZ)
      | (
        at_builtin
        refine wpList_append_lies _ rfl _ _ 55 rfl w.heap.size 25 iP _ 2 40 Try.underlying55 hiP hzP hsP hbP rfl (by decide) (.slice (some ⟨pb, 0, none⟩) n pc) n xs rfl hrowZ ⟨w4.heap.size, 0, none⟩ 1 1 [.string pn, .slice (some ⟨tb, 0, none⟩) pl cap] rfl rfl (World.news_of_block nZ) (by intro u hu; simp at hu; rcases hu with rfl | rfl <;> rfl) (by omega) (by unfold maxLen; omega) (by omega) (by omega) (w4.heap.size + 1) zZ ?_
        intro g cap' wF ho hg hor hlt1
        have HF1 := hid_of (HEND2.out g cap' wF ho hg)
        clear ho hg hor))
    go_ret
    exact HF1.out
  have hx1i : ¬ (x : Int) = 1 := by omega
  by_cases hx2 : x = 2
  · subst hx2
    have bX := below_box w3 (.cells #[] 25)
    have HFIN : Hid (AnyEnd w rb cb (.returned (.slice (some ⟨w2.heap.size, 0, none⟩) 0 0)) (w3.alloc (.cells #[] 25))) := hid_of
      ⟨[], some ⟨w2.heap.size, 0, none⟩, 0, q + 1, rfl, by simp, ⟨by simp, fun _ _ => undef, fun h => by simp at h, fun i hi => by simp at hi⟩, fun i hi => by simp at hi, HR3.out.only (Only.of_below (fun _ => False) bX) id id, by omega, (HO2.out.trans HO3.out fun _ _ q => q).trans (Only.of_below (· = rb) bX) fun _ _ q => q⟩
    go_wp2_with fail
    go_ret
    exact HFIN.out
  have hx2i : ¬ (x : Int) = 2 := by omega
  have HFIN := hid_of (HEND.out w3 (q + 1) HO3.out HR3.out (by omega))
  go_wp2_with fail
  go_ret
  exact HFIN.out
end Go.Proofs.Ytdohgkokoicjlaa
namespace Go.Proofs.Ytdohgkokoicjlaa
open Go.RowKit Go.Maps
theorem l6Put_any (t : T) (f : F) (fa na : Option Addr) (fc nc : Nat) (w : World) (P Q : Nat → Prop) (hT : TRep w P t (.agg #[.string t.name, .string t.key, .slice fa t.fields.length fc])) (hF : FRep w Q f (fval f na nc)) (hP : ∀ b, P b → b < w.heap.size) (hQ : ∀ b, Q b → b < w.heap.size) (hl : t.fields.length ≤ 1000000000) (hl2 : f.needs.length ≤ 1000000000) :
    Calls Try.prog 52 #[.agg #[.string t.name, .string t.key, .slice fa t.fields.length fc], fval f na nc] w fun e w' => ∃ fa' fc', e = .returned (.agg #[.string t.name, .string t.key, .slice fa' (putF t f).fields.length fc']) ∧ TRep w' (fun b => P b ∨ Q b ∨ (w.heap.size ≤ b ∧ b < w'.heap.size)) (putF t f) (.agg #[.string t.name, .string t.key, .slice fa' (putF t f).fields.length fc']) ∧ Below w.heap.size w w' := by
  have hx : fieldIx t f.name = firstTo (fun i => (fth t.fields i).name.toList == f.name.toList) t.fields.length := rfl
  rcases firstTo_cases (fun i => (fth t.fields i).name.toList == f.name.toList) t.fields.length with ⟨h, -⟩ | ⟨g, h, hg, -, -⟩
  · exact l6Put_new t f fa na fc nc w P Q hT hF hP hQ hl hl2 (hx.trans h)
  · exact l6Put_old t f fa na fc nc w P Q hT hF hP hQ hl hl2 g (hx.trans h) hg
end Go.Proofs.Ytdohgkokoicjlaa
namespace Go.Proofs.Ytdohgkokoicjlaa
open Go.RowKit Go.Maps
theorem TyRow.partP {w : World} {B : Nat} {P : Nat → Prop} {ts : List T} {v : Value} (h : TyRow w B P ts v) (hl : ts.length ≤ 1000000000) : PRep w (fun b => P b ∨ (B ≤ b ∧ b < w.heap.size)) ⟨⟨#[97]⟩, ts⟩ (.agg #[.string ⟨#[97]⟩, v]) := by
  obtain ⟨C, h1, h2⟩ := h
  have hr : ∀ i, i < ts.length → TRep w (fun b => P b ∨ (B ≤ b ∧ b < w.heap.size)) (tth ts i) (.agg #[C i 0, C i 1, C i 2]) := fun i hi => (h2 i hi).sub fun b hq => hq.imp id fun x => ⟨x.1, x.2.1⟩
  have hA : ∃ ta tc, v = .slice ta ts.length tc ∧ ts.length ≤ tc ∧ Arr w (fun b => P b ∨ (B ≤ b ∧ b < w.heap.size)) 3 ts.length ta C := by
    obtain ⟨hz, ⟨rfl, h0⟩ | ⟨g, cap, cur, rfl, hb, hg, hnc, hrest⟩⟩ := h1
    · have hn : ts.length = 0 := by simpa using h0
      rw [hn]
      exact ⟨none, 0, rfl, Nat.le_refl _, fun h => absurd h (Nat.lt_irrefl _)⟩
    · refine ⟨_, _, rfl, hnc, fun _ => ⟨g, 0, rfl, ?_, fun i hi j hj => ?_⟩⟩
      · exact Or.inr (World.ownsRow.lt (w := w) (base := B) (e := 48) (size := 3) (n := ts.length) (xs := flat3 C ts.length) ⟨hz, Or.inr ⟨g, cap, cur, rfl, hb, hg, hnc, hrest⟩⟩ g rfl)
      · rw [Nat.zero_add, World.ownsRow.cellAt (w := w) (base := B) (e := 48) (size := 3) (n := ts.length) (xs := flat3 C ts.length) ⟨hz, Or.inr ⟨g, cap, cur, rfl, hb, hg, hnc, hrest⟩⟩ (i * 3 + j) (by omega)]
        exact flat3_at C _ i j hi hj
  obtain ⟨ta, tc, rfl, hc, hA⟩ := hA
  exact ⟨ta, tc, rfl, ⟨by show 56 * ts.length ≤ _; omega, C, hA, hr⟩, hc, by show (1 : Nat) ≤ maxLen; unfold maxLen; omega⟩
theorem TyRow.part {w : World} {B : Nat} {P : Nat → Prop} {ts : List T} {v : Value} (h : TyRow w B P ts v) (hP : ∀ b, P b → b < w.heap.size) (hl : ts.length ≤ 1000000000) : PRep w (· < w.heap.size) ⟨⟨#[97]⟩, ts⟩ (.agg #[.string ⟨#[97]⟩, v]) :=
  (h.partP hl).sub fun b hq => hq.elim (hP b) fun x => x.2
theorem TyRow.keepB {w w' : World} {B : Nat} {P : Nat → Prop} {ts : List T} {v : Value} (h : TyRow w B P ts v) (hk : ∀ b, (P b ∨ (B ≤ b ∧ b < w.heap.size)) → w'.heap[b]? = w.heap[b]?) (hs : w.heap.size ≤ w'.heap.size) : TyRow w' B P ts v := by
  obtain ⟨C, h1, h2⟩ := h
  refine ⟨C, owns_at h1 fun j hj => hk j (Or.inr (h1.lt j hj)), fun i hi => ((h2 i hi).mono fun b hq => hk b (hq.elim Or.inl fun x => Or.inr ⟨x.1, x.2.1⟩)).sub fun b hq => ?_⟩
  exact hq.elim Or.inl fun x => Or.inr ⟨x.1, by omega, x.2.2⟩
theorem TyRow.at {w : World} {B tc : Nat} {P : Nat → Prop} {ts : List T} {ta : Option Addr} (h : TyRow w B P ts (.slice ta ts.length tc)) (i : Nat) (hi : i < ts.length) :
    ∃ (g : Nat) (fa : Option Addr) (fc : Nat), ta = some ⟨g, 0, none⟩ ∧ B ≤ g ∧ g < w.heap.size ∧ w.cell? ⟨g, i * 3, none⟩ = some (.string (tth ts i).name) ∧ w.cell? ⟨g, i * 3 + 1, none⟩ = some (.string (tth ts i).key) ∧ w.cell? ⟨g, i * 3 + 2, none⟩ = some (.slice fa (tth ts i).fields.length fc) ∧
      (∀ j, w.frozen? ⟨g, j, none⟩ = false) ∧ TRep w (Off P B w (.slice ta ts.length tc)) (tth ts i) (.agg #[.string (tth ts i).name, .string (tth ts i).key, .slice fa (tth ts i).fields.length fc]) := by
  obtain ⟨C, h1, h2⟩ := h
  obtain ⟨g, rfl⟩ : ∃ g, ta = some ⟨g, 0, none⟩ := by
    obtain ⟨-, ⟨e, h0⟩ | ⟨g, cap, cur, e, -⟩⟩ := h1
    · simp only [Value.slice.injEq] at e
      omega
    · simp only [Value.slice.injEq] at e
      exact ⟨g, e.1⟩
  have hr := h2 i hi
  have hr' := hr
  obtain ⟨fa, fc, e, -⟩ := hr
  rw [e] at hr'
  simp only [Value.agg.injEq, Array.mk.injEq, List.cons.injEq, and_true] at e
  obtain ⟨e0, e1, e2⟩ := e
  have hc : ∀ j, j < 3 → w.cell? ⟨g, i * 3 + j, none⟩ = some (C i j) := fun j hj => (h1.cellAt (i * 3 + j) (by omega)).trans (flat3_at C _ i j hi hj)
  exact ⟨g, fa, fc, rfl, (h1.lt g rfl).1, (h1.lt g rfl).2, by rw [← e0]; exact hc 0 (by omega), by rw [← e1]; exact hc 1 (by omega), by rw [← e2]; exact hc 2 (by omega), fun j => h1.frozenAt j, hr'⟩
def AllSt (X : World) (A B : Nat) (ts : List T) (W : World) : Prop := ∃ (ta : Option Addr) (tc : Nat), W.heap[X.heap.size]? = some (.cells #[.string ⟨#[97]⟩, .slice ta ts.length tc] 25 (0, 0)) ∧ TyRow W (X.heap.size + 1) (fun b => A ≤ b ∧ b < B) ts (.slice ta ts.length tc) ∧ Below X.heap.size X W ∧ X.heap.size + 1 ≤ W.heap.size
theorem AllSt.keep {X W W' : World} {A B : Nat} {ts : List T} (h : AllSt X A B ts W) (hB : B ≤ X.heap.size) (hb : Below W.heap.size W W') : AllSt X A B ts W' := by
  obtain ⟨ta, tc, h1, h2, h3, h4⟩ := h
  exact ⟨ta, tc, (hb.block _ (by omega)).trans h1, h2.keep (fun b hq => by have : b < B := hq.2; omega) hb, h3.trans (hb.mono (by omega)), Nat.le_trans h4 hb.size⟩
def AllTy (X : World) (A B : Nat) (ts : List T) (bt : Nat) (cs : Array Value) (W : World) : Prop := ∃ (ta : Option Addr) (tc : Nat), W.heap[X.heap.size]? = some (.cells #[.string ⟨#[97]⟩, .slice ta ts.length tc] 25 (0, 0)) ∧ TyRow W (X.heap.size + 1) (fun b => A ≤ b ∧ b < B) ts (.slice ta ts.length tc) ∧ Below X.heap.size X W ∧ X.heap.size + 1 ≤ W.heap.size ∧ (Value.slice ta ts.length tc).ownBlock ≠ some bt ∧ W.heap[bt]? = some (.cells cs 48 (0, 0)) ∧ X.heap.size < bt ∧ bt < W.heap.size
theorem AllTy.st {X W : World} {A B bt : Nat} {ts : List T} {cs : Array Value} (h : AllTy X A B ts bt cs W) : AllSt X A B ts W := by
  obtain ⟨ta, tc, h1, h2, h3, h4, -⟩ := h
  exact ⟨ta, tc, h1, h2, h3, h4⟩
theorem AllTy.keep {X W W' : World} {A B bt : Nat} {ts : List T} {cs : Array Value} (h : AllTy X A B ts bt cs W) (hB : B ≤ X.heap.size) (hb : Below W.heap.size W W') : AllTy X A B ts bt cs W' := by
  obtain ⟨ta, tc, h1, h2, h3, h4, h5, h6, h7, h8⟩ := h
  exact ⟨ta, tc, (hb.block _ (by omega)).trans h1, h2.keep (fun b hq => by have : b < B := hq.2; omega) hb, h3.trans (hb.mono (by omega)), Nat.le_trans h4 hb.size, h5, (hb.block _ h8).trans h6, h7, Nat.lt_of_lt_of_le h8 hb.size⟩
theorem AllSt.box {X W : World} {A B : Nat} {ts : List T} (h : AllSt X A B ts W) (hB : B ≤ X.heap.size) (cs : Array Value) : AllTy X A B ts W.heap.size cs (W.alloc (.cells cs 48)) := by
  obtain ⟨ta, tc, h1, h2, h3, h4⟩ := h
  obtain ⟨C, ho, hr⟩ := h2
  refine ⟨ta, tc, ?_, ?_, ?_, ?_, fun e => absurd (ho.lt _ e).2 (Nat.lt_irrefl _), block_new _ _ rfl, h4, by simp⟩
  · exact ((below_box W _).block _ h4).trans h1
  · exact TyRow.keep ⟨C, ho, hr⟩ (fun b hq => by have : b < B := hq.2; omega) (below_box W _)
  · exact h3.trans ((below_box W _).mono (by omega))
  · simp; omega
theorem AllTy.put {X W : World} {A B bt g tc k : Nat} {ts : List T} {cs : Array Value} (hbox : W.heap[X.heap.size]? = some (.cells #[.string ⟨#[97]⟩, .slice (some ⟨g, 0, none⟩) ts.length tc] 25 (0, 0))) (hrow : TyRow W (X.heap.size + 1) (fun b => A ≤ b ∧ b < B) ts (.slice (some ⟨g, 0, none⟩) ts.length tc)) (hbX : Below X.heap.size X W) (hs : X.heap.size + 1 ≤ W.heap.size) (hne : g ≠ bt) (htb : W.heap[bt]? = some (.cells cs 48 (0, 0))) (hxb : X.heap.size < bt) (hbl : bt < W.heap.size) (hB : B ≤ X.heap.size) (hg : X.heap.size + 1 ≤ g) (hk : k < ts.length) (t : T) (d0 d1 d2 : Value) (ht : TRep W (Off (fun b => A ≤ b ∧ b < B) (X.heap.size + 1) W (.slice (some ⟨g, 0, none⟩) ts.length tc)) t (.agg #[d0, d1, d2])) :
    AllTy X A B (ts.set k t) bt cs (((W.setCell ⟨g, k * 3, none⟩ d0).setCell ⟨g, k * 3 + 1, none⟩ d1).setCell ⟨g, k * 3 + 2, none⟩ d2) := by
  have hbk : ∀ b, b ≠ g → (((W.setCell ⟨g, k * 3, none⟩ d0).setCell ⟨g, k * 3 + 1, none⟩ d1).setCell ⟨g, k * 3 + 2, none⟩ d2).heap[b]? = W.heap[b]? := fun b hb => ((Below.heap_setCell _ _ _ _ hb).trans (Below.heap_setCell _ _ _ _ hb)).trans (Below.heap_setCell _ _ _ _ hb)
  have hsz : (((W.setCell ⟨g, k * 3, none⟩ d0).setCell ⟨g, k * 3 + 1, none⟩ d1).setCell ⟨g, k * 3 + 2, none⟩ d2).heap.size = W.heap.size := by simp
  have hT := hrow.put (k := k) rfl hk (fun b hq => by have : b < B := hq.2; omega) t d0 d1 d2 ht
  refine ⟨some ⟨g, 0, none⟩, tc, ?_, ?_, ?_, by rw [hsz]; exact hs, ?_, ?_, hxb, by rw [hsz]; exact hbl⟩
  · rw [List.length_set]; exact (hbk _ (by omega)).trans hbox
  · rw [List.length_set]; exact hT
  · have hgx : X.heap.size ≤ g := by omega
    exact ((hbX.setCell (p := ⟨g, k * 3, none⟩) hgx _).setCell (p := ⟨g, k * 3 + 1, none⟩) hgx _).setCell (p := ⟨g, k * 3 + 2, none⟩) hgx _
  · intro e; exact hne (Option.some.inj e)
  · exact (hbk _ (Ne.symm hne)).trans htb
theorem PsRep.low {w : World} {A B : Nat} {ps : List Pt} {a : Option Addr} (h : PsRep w (fun b => A ≤ b ∧ b < B) ps a) : PsRep w (· < B) ps a := h.sub fun _ hb => hb.2
theorem PsRep.underA {w w' : World} {A B : Nat} {ps : List Pt} {a : Option Addr} (h : PsRep w (fun b => A ≤ b ∧ b < B) ps a) (hb : Below B w w') : PsRep w' (fun b => A ≤ b ∧ b < B) ps a := h.mono fun k hk => hb.block k hk.2
theorem TsRep.atA {w : World} {A B : Nat} {ts : List T} {ta : Option Addr} (h : TsRep w (fun b => A ≤ b ∧ b < B) ts ta) (hB : B ≤ w.heap.size) (k : Nat) (hk : k < ts.length) : ∃ (b off : Nat) (fa : Option Addr) (fc : Nat), ta = some ⟨b, off, none⟩ ∧
    TRep w (fun b => A ≤ b ∧ b < B) (tth ts k) (.agg #[.string (tth ts k).name, .string (tth ts k).key, .slice fa (tth ts k).fields.length fc]) ∧
    ∀ W, Below w.heap.size w W → W.cell? ⟨b, off + k * 3, none⟩ = some (.string (tth ts k).name) ∧ W.cell? ⟨b, off + k * 3 + 1, none⟩ = some (.string (tth ts k).key) ∧ W.cell? ⟨b, off + k * 3 + 2, none⟩ = some (.slice fa (tth ts k).fields.length fc) := by
  obtain ⟨-, C, hA, hr⟩ := h
  obtain ⟨b, off, rfl, ⟨-, hbB⟩, hc⟩ := hA (by omega)
  have hkt := hr k hk
  obtain ⟨fa, fc, e0, e1, e2, -⟩ := (hr k hk).parts
  rw [e0, e1, e2] at hkt
  refine ⟨b, off, fa, fc, rfl, hkt, fun W hb => ?_⟩
  have hck : ∀ j, j < 3 → W.cell? ⟨b, off + k * 3 + j, none⟩ = some (C k j) := fun j hj => (hb.cell (p := ⟨b, off + k * 3 + j, none⟩) (by show b < _; omega)).trans (hc k hk j hj)
  have c0 : W.cell? ⟨b, off + k * 3, none⟩ = some (C k 0) := hck 0 (by omega)
  rw [c0, hck 1 (by omega), hck 2 (by omega), e0, e1, e2]
  exact ⟨rfl, rfl, rfl⟩
theorem PsRep.atA {w : World} {A B : Nat} {ps : List Pt} {a : Option Addr} (h : PsRep w (fun b => A ≤ b ∧ b < B) ps a) (i : Nat) (hi : i < ps.length) :
    ∃ (b off : Nat) (ta : Option Addr) (tc : Nat), a = some ⟨b, off, none⟩ ∧ b < B ∧ w.cell? ⟨b, off + i * 2, none⟩ = some (.string (pth ps i).name) ∧ w.cell? ⟨b, off + i * 2 + 1, none⟩ = some (.slice ta (pth ps i).types.length tc) ∧ PRep w (fun b => A ≤ b ∧ b < B) (pth ps i) (.agg #[.string (pth ps i).name, .slice ta (pth ps i).types.length tc]) := by
  obtain ⟨-, C, hA, hr⟩ := h
  obtain ⟨b, off, rfl, hb, hc⟩ := hA (by omega)
  have hp := hr i hi
  obtain ⟨ta, tc, e, -⟩ := hp
  simp only [Value.agg.injEq, Array.mk.injEq, List.cons.injEq, and_true] at e
  refine ⟨b, off, ta, tc, rfl, hb.2, ?_, ?_, ?_⟩
  · rw [← e.1]; exact hc i hi 0 (by omega)
  · rw [← e.2]; exact hc i hi 1 (by omega)
  · rw [← e.1, ← e.2]; exact hr i hi
theorem FsRep.atF {w : World} {A B : Nat} {fs : List F} {a : Option Addr} (h : FsRep w (fun b => A ≤ b ∧ b < B) fs a) (n : Nat) (hn : n < fs.length) :
    ∃ (b off : Nat) (na : Option Addr) (nc : Nat), a = some ⟨b, off, none⟩ ∧ b < B ∧ (∀ j, j < 8 → w.cell? ⟨b, off + n * 8 + j, none⟩ = some ([Value.string (fth fs n).name, .string (fth fs n).of, .bool (fth fs n).list, .bool (fth fs n).must, .bool (fth fs n).far, .bool (fth fs n).hidden, .bool (fth fs n).shared, .slice na (fth fs n).needs.length nc].getD j undef)) ∧ FRep w (fun b => A ≤ b ∧ b < B) (fth fs n) (fval (fth fs n) na nc) := by
  obtain ⟨-, C, hA, hr⟩ := h
  obtain ⟨b, off, rfl, hb, hc⟩ := hA (by omega)
  have hr' := hr n hn
  obtain ⟨na, nc, e, -⟩ := hr n hn
  rw [e] at hr'
  refine ⟨b, off, na, nc, rfl, hb.2, fun j hj => ?_, hr'⟩
  rw [hc n hn j hj]
  simp only [Value.agg.injEq, Array.mk.injEq, List.cons.injEq, and_true] at e
  obtain ⟨e0, e1, e2, e3, e4, e5, e6, e7⟩ := e
  rcases j with _ | _ | _ | _ | _ | _ | _ | _ | j
  · simp [e0]
  · simp [e1]
  · simp [e2]
  · simp [e3]
  · simp [e4]
  · simp [e5]
  · simp [e6]
  · simp [e7]
  · omega
theorem typeOr_key {w : World} {P : Nat → Prop} {p : Pt} {v : Value} (h : PRep w P p v) (nm : ByteArray) : (typeOr p nm).key.size ≤ maxLen := by
  obtain ⟨ta, tc, -, ⟨-, C, -, hr⟩, -⟩ := h
  have hz : ∀ i, (tth p.types i).key.size ≤ maxLen := fun i => by
    by_cases hi : i < p.types.length
    · obtain ⟨_, _, -, -, -, -, hk⟩ := hr i hi
      exact hk
    · have : tth p.types i = T.zero := by simp [tth, List.getD_eq_getElem?_getD, List.getElem?_eq_none (Nat.le_of_not_lt hi)]
      rw [this]
      exact Nat.zero_le _
  unfold typeOr
  split
  · exact hz _
  · exact Nat.zero_le _
theorem keyM_size {w : World} {P : Nat → Prop} {ps : List Pt} {a : Option Addr} (h : PsRep w P ps a) (nm : ByteArray) : (keyM ps nm).size ≤ maxLen := by
  unfold keyM
  split
  · rename_i hx
    have hk : keyIx ps nm = firstTo (fun i => !(typeOr (pth ps i) nm).key.toList.isEmpty) ps.length := rfl
    rcases firstTo_cases (fun i => !(typeOr (pth ps i) nm).key.toList.isEmpty) ps.length with ⟨h2, -⟩ | ⟨g, h2, hg, -, -⟩
    · rw [hk, h2] at hx; omega
    · rw [hk, h2]
      obtain ⟨-, C, -, hr⟩ := h
      exact typeOr_key (hr g hg) nm
  · exact Nat.zero_le _
theorem infoTH : (Try.prog.info? 48).map (fun i => (i.zero.map fun z => z.cells.size, i.size, i.bytes)) = some (some 3, 3, 56) := by kernel_rfl
theorem infoT_parts : ∃ (i : TypeInfo) (z : Value), Try.prog.info? 48 = some i ∧ i.zero = some z ∧ i.size = 3 ∧ i.bytes = 56 ∧ z.cells.size = 3 := by
  have h := infoTH
  cases hi : Try.prog.info? 48 with
  | none => rw [hi] at h; cases h
  | some i =>
    rw [hi] at h
    simp only [Option.map_some, Option.some.injEq, Prod.mk.injEq] at h
    obtain ⟨h1, h2, h3⟩ := h
    cases hz : i.zero with
    | none => rw [hz] at h1; cases h1
    | some z =>
      rw [hz] at h1
      simp only [Option.map_some, Option.some.injEq] at h1
      exact ⟨i, z, rfl, hz, h2, h3, h1⟩
theorem AllTy.push {X W W' : World} {A B bt gF capF tc : Nat} {ts : List T} {ta : Option Addr} {cs : Array Value} {C : Nat → Nat → Value} (hbox : W.heap[X.heap.size]? = some (.cells #[.string ⟨#[97]⟩, .slice ta ts.length tc] 25 (0, 0))) (ho : W.ownsRow (X.heap.size + 1) 48 3 (.slice ta ts.length tc) ts.length (flat3 C ts.length)) (h2 : ∀ i, i < ts.length → TRep W (Off (fun b => A ≤ b ∧ b < B) (X.heap.size + 1) W (.slice ta ts.length tc)) (tth ts i) (.agg #[C i 0, C i 1, C i 2]))
    (hbX : Below X.heap.size X W) (hs : X.heap.size + 1 ≤ W.heap.size) (hne : (Value.slice ta ts.length tc).ownBlock ≠ some bt) (htb : W.heap[bt]? = some (.cells cs 48 (0, 0))) (hxb : X.heap.size < bt) (hbl : bt < W.heap.size) (hB : B ≤ X.heap.size) (t : T) (d0 d1 d2 : Value) (ht : TRep W (Off (fun b => A ≤ b ∧ b < B) (X.heap.size + 1) W (.slice ta ts.length tc)) t (.agg #[d0, d1, d2]))
    (oF : W'.ownsRow (X.heap.size + 1) 48 3 (.slice (some ⟨gF, 0, none⟩) (ts.length + 1) capF) (ts.length + 1) (flat3 C ts.length ++ [d0, d1, d2])) (hg : W.grownBy W' (Value.slice ta ts.length tc).ownBlock) (hob : (Value.slice (some ⟨gF, 0, none⟩) (ts.length + 1) capF).ownBlock = (Value.slice ta ts.length tc).ownBlock ∨ (Value.slice (some ⟨gF, 0, none⟩) (ts.length + 1) capF).ownBlock = some W.heap.size) :
    AllTy X A B (ts ++ [t]) bt cs (W'.setCell ⟨X.heap.size, 1, none⟩ (.slice (some ⟨gF, 0, none⟩) (ts.length + 1) capF)) := by
  have hlt := ho.lt
  have hk : ∀ b, b < W.heap.size → (Value.slice ta ts.length tc).ownBlock ≠ some b → W'.heap[b]? = W.heap[b]? := fun b hb hn => hg.block b hb (fun e => hn e.symm)
  have hT := TyRow.push (w' := W') (v' := .slice (some ⟨gF, 0, none⟩) (ts.length + 1) capF) h2 (fun b hq => by have : b < B := hq.2; omega) (fun b hq => by have : b < B := hq.2; omega) t d0 d1 d2 ht oF hk hg.size (fun b e => by
    rcases hob with h | h
    · exact Or.inl (h.symm.trans e)
    · rw [h] at e
      exact Or.inr (Nat.le_of_eq (Option.some.inj e))) (fun b e => (hlt b e).1)
  have hx0 : W'.heap[X.heap.size]? = some (.cells #[.string ⟨#[97]⟩, .slice ta ts.length tc] 25 (0, 0)) := (hk _ (by omega) (fun e => by have := (hlt _ e).1; omega)).trans hbox
  have hl1 : (ts ++ [t]).length = ts.length + 1 := by simp
  refine ⟨some ⟨gF, 0, none⟩, capF, ?_, ?_, ?_, ?_, ?_, ?_, hxb, ?_⟩
  · rw [hl1]
    exact set_box hx0 1 _
  · rw [hl1]
    refine hT.keepB (fun b hq => Below.heap_setCell _ _ _ _ ?_) (by simp)
    rcases hq with h | h
    · have : b < B := h.2
      show b ≠ X.heap.size
      omega
    · show b ≠ X.heap.size
      omega
  · exact (hbX.grown hg (by omega) (fun k e => by have := (hlt k e).1; omega)).setCell (Nat.le_refl _) _
  · have := hg.size
    simp
    omega
  · intro e
    rcases hob with h | h
    · exact hne (h.symm.trans e)
    · have e2 : some W.heap.size = some bt := h.symm.trans e
      have := Option.some.inj e2
      omega
  · refine (Below.heap_setCell _ _ _ _ ?_).trans ((hk bt hbl hne).trans htb)
    show bt ≠ X.heap.size
    omega
  · have := hg.size
    simp
    omega
end Go.Proofs.Ytdohgkokoicjlaa
namespace Go.Proofs.Ytdohgkokoicjlaa
open Go.RowKit Go.Maps
theorem badAt_le (p : Pt) : ∀ n k i, k ≤ i → i < k + n → typeCode p i ≠ 0 → badAt p k n ≤ i
  | 0, k, i, h1, h2, h3 => by omega
  | n + 1, k, i, h1, h2, h3 => by
    rw [badAt]
    by_cases e : typeCode p k = 0
    · rw [if_pos e]
      have : k ≠ i := fun h => h3 (h ▸ e)
      exact badAt_le p n (k + 1) i (by omega) (by omega) h3
    · rw [if_neg e]; exact h1
theorem okP_all {p : Pt} (h : okP p = true) {i : Nat} (hi : i < p.types.length) : typeCode p i = 0 := by
  by_cases e : typeCode p i = 0
  · exact e
  · have := badAt_le p p.types.length 0 i (Nat.zero_le _) (by omega) e
    have h4 : ¬ badT p < p.types.length := fun hc => by simp [okP, hc] at h
    unfold badT at h4
    omega
theorem code_names {p : Pt} {i : Nat} (h : typeCode p i = 0) : 0 < (tth p.types i).fields.length ∧ (tth p.types i).fields.length ≤ 8 ∧ twiceB p.types i (tth p.types i) = false := by
  unfold typeCode at h
  by_cases a : typeNamesB (tth p.types i) = false
  · rw [if_pos a] at h; omega
  rw [if_neg a] at h
  by_cases b : twiceB p.types i (tth p.types i) = true
  · rw [if_pos b] at h; omega
  simp [typeNamesB] at a
  exact ⟨by omega, by omega, by simpa using b⟩
theorem firstTo_some {q : Nat → Bool} {n k : Nat} (hk : k < n) (hq : q k = true) : 0 ≤ firstTo q n := by
  rcases firstTo_cases q n with ⟨h, ha⟩ | ⟨j, h, hj, hqj, ha⟩
  · rw [ha k hk] at hq; cases hq
  · omega
theorem tth_app (a : List T) (t : T) : tth (a ++ [t]) a.length = t := by simp [tth, List.getD_eq_getElem?_getD]
theorem tth_app_lt (a : List T) (t : T) {i : Nat} (h : i < a.length) : tth (a ++ [t]) i = tth a i := by simp [tth, List.getD_eq_getElem?_getD, List.getElem?_append_left h]
theorem fth_app (a : List F) (t : F) : fth (a ++ [t]) a.length = t := by simp [fth, List.getD_eq_getElem?_getD]
theorem fth_app_lt (a : List F) (t : F) {i : Nat} (h : i < a.length) : fth (a ++ [t]) i = fth a i := by simp [fth, List.getD_eq_getElem?_getD, List.getElem?_append_left h]
end Go.Proofs.Ytdohgkokoicjlaa
