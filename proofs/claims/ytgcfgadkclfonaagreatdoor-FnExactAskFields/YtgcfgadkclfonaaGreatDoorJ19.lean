import Derived.Test.YtgcfgadkclfonaaGreatDoorJ18
import Derived.Test.YtgcfgadkclfonaaGreatDoorJ6
import Derived.Test.YtgcfgadkclfonaaGreatDoorPCheck
import Derived.Test.YtgcfgadkclfonaaGreatDoorJ3
import Derived.Test.YtgcfgadkclfonaaGreatDoorJ17
import Derived.Deep.RegionHeld3
namespace Go.Proofs.YtgcfgadkclfonaaGreatDoor
set_option linter.unusedSimpArgs false
set_option linter.unusedVariables false
open Go.RowKit Go.Shelf Go.Maps
attribute [local go_sem] Oper.semAt_some field_code

theorem chkM_len (p : Pt) : ∀ (f : Nat) (ah : Way) (nm : ByteArray) (ks : List Se) (n : Nat) (x : Way × Int), chkM p f ah nm ks n = some x → x.1.length ≤ ah.length + f
  | 0, ah, nm, ks, n, x, h => by simp [chkM] at h
  | f + 1, ah, nm, ks, 0, x, h => by simp [chkM] at h
  | f + 1, ah, nm, ks, n + 1, x, h => by
    rw [chkM] at h
    cases hc : chkM p (f + 1) ah nm ks n with
    | some y =>
      rw [hc] at h
      simp only [Option.some.injEq] at h
      subst h
      exact chkM_len p (f + 1) ah nm ks n y hc
    | none =>
      rw [hc] at h
      simp only at h
      split at h
      · simp only [Option.some.injEq] at h
        rw [← h]; simp
      · have := chkM_len p f _ _ _ _ x h
        simp at this; omega
theorem strs_nil' (w : World) (P : Nat → Prop) (a : Option Addr) : Strs w P [] a := ⟨fun h => absurd rfl h, fun i => by simp [nth, maxLen], by simp⟩

theorem strsOwn {w : World} {base g cap : Nat} {way : Way} (h : w.ownsRow base 9 1 (.slice (some ⟨g, 0, none⟩) way.length cap) way.length (way.map Value.string)) (hs : ∀ i, (nth way i).size ≤ maxLen) (hl : way.length ≤ maxLen) (hlt : g < w.heap.size) :
    Strs w (fun b => base ≤ b ∧ b < w.heap.size) way (some ⟨g, 0, none⟩) := by
  have hb : base ≤ g := by
    rcases h.2 with ⟨h', _⟩ | ⟨g', cap', cur, h', hb, _, hn, _⟩
    · simp at h'
    · simp only [Value.slice.injEq, Option.some.injEq, Addr.mk.injEq, and_true, true_and] at h'
      obtain ⟨rfl, rfl⟩ := h'
      exact hb
  refine ⟨fun _ => ⟨g, 0, rfl, ⟨hb, hlt⟩, fun i hi => ?_⟩, hs, hl⟩
  have := h.cellAt i (by omega)
  rw [Nat.zero_add, this, List.getElem?_map]
  simp [nth, List.getD_eq_getElem?_getD, hi]

set_option maxRecDepth 20000 in
set_option maxHeartbeats 1600000 in
theorem AskCheckS_any (f : Nat) (p : Pt) (ks : List Se) (ka : Option Addr) (kc : Nat) (v : Value) (w : World) (hf : FitS f ks) (hR : SeReps w (· < w.heap.size) ks ka) (hfew : f ≤ 1000000000) (hP : PRep w (· < w.heap.size) p v) (hz : szP p ≤ 1048576) :
    Calls Tryz.prog 8 #[v, .slice ka ks.length kc] w fun e w' => FltM w (askChk f p ks) e w' := by
  obtain ⟨i9, hi9, hy0, hy1, hy2⟩ := info_parts info9
  have hP' := hP
  obtain ⟨ta, tc, rfl, -, -, -⟩ := hP
  have HR := hid_of hR
  have HP := hid_of hP'
  have h72 := hR.1
  clear hR hP'
  have bX := below_box2 w (.cells #[.string p.name, .slice ta p.types.length tc] 34) (.cells #[.slice none 0 0, .int .i64 0] 30)
  have zX : ((w.alloc (.cells #[.string p.name, .slice ta p.types.length tc] 34)).alloc (.cells #[.slice none 0 0, .int .i64 0] 30)).heap.size = w.heap.size + 1 + 1 := by simp
  have nP : ((w.alloc (.cells #[.string p.name, .slice ta p.types.length tc] 34)).alloc (.cells #[.slice none 0 0, .int .i64 0] 30)).heap[w.heap.size]? = some (.cells #[.string p.name, .slice ta p.types.length tc] 34 (0, 0)) := by
    rw [(below_box _ _).block _ (by simp)]
    exact block_new _ _ rfl
  have nR : ((w.alloc (.cells #[.string p.name, .slice ta p.types.length tc] 34)).alloc (.cells #[.slice none 0 0, .int .i64 0] 30)).heap[w.heap.size + 1]? = some (.cells #[.slice none 0 0, .int .i64 0] 30 (0, 0)) := block_new _ _ (by simp)
  have HC := hid_of (fun W (hW : Below w.heap.size w W) => PartCheckS_any p W w.heap.size _ (HP.out.under hW) hW.size hz)
  have HO := hid_of (fun W (hW : Below w.heap.size w W) => AskOkS_any f ks W w.heap.size ka kc hf (HR.out.under hW) hW.size)
  have H3 : Hid (∀ W, Below w.heap.size w W → ∀ aa, Calls Tryz.prog 30 #[.agg #[.string p.name, .slice ta p.types.length tc], .string (⟨#[113, 117, 101, 114, 121]⟩ : ByteArray), .slice ka ks.length kc, .slice aa 0 0] W fun e w' => FltM W (chkM p f [] qry ks ks.length) e w') := hid_of fun W hW aa =>
    l3Check_any p _ _ f qry [] ks W aa 0 ka kc hf ((HR.out.under hW).sub fun b hb => Nat.lt_of_lt_of_le hb hW.size) (strs_nil' _ _ _) (by simp; omega) ((HP.out.under hW).sub fun b hb => Nat.lt_of_lt_of_le hb hW.size)
  have HKO := hid_of (partFault_ok p)
  generalize partFault p = pf at *
  obtain ⟨pa, pc⟩ := pf
  simp only at HC HKO
  cases ho : okP p
  · have HE : Hid (askChk f p ks = some ([], 1)) := hid_of (by rw [askChk, ho]; rfl)
    have hx0 : ¬ pc = 0 := fun e => by have := HKO.out.1 e; rw [ho] at this; cases this
    have hx1 : (pc == 0) = false := by simpa using hx0
    have hx2 : (pc != 0) = true := by simpa using hx0
    go_enter Tryz.func8, Tryz.ntmps8
    go_wp2_with (go_at_call 28; refine (HC.out _ bX).mono ?_; rintro e w1 ⟨rfl, hb1⟩; have b01 := bX.trans (hb1.mono (by omega)); have nR1 := fun o => ((below_box w1 o).block _ (by have := hb1.size; omega)).trans ((hb1.block _ (by omega)).trans nR); have r0 := fun o => (box_at (nR1 o) 0 (by simp)).1; have f0 := fun o => (box_at (nR1 o) 0 (by simp)).2; have r1 := fun o => (box_at (nR1 o) 1 (by simp)).1; have f1 := fun o => (box_at (nR1 o) 1 (by simp)).2)
    obtain ⟨hf1, hf2⟩ := fin2 (.slice (some ⟨w1.heap.size, 0, none⟩) 0 0) (.int .i64 1) (nR1 (.cells #[] 9)) (b01.trans ((below_box w1 _).mono b01.size)) (Nat.le_succ _)
    have cx0 := (box_at hf2 0 (by simp)).1
    have cx1 := (box_at hf2 1 (by simp)).1
    simp only [List.getElem_toArray, List.getElem_cons_zero, List.getElem_cons_succ] at cx0 cx1
    refine bodyPost_ret (v := .agg #[.slice (some ⟨w1.heap.size, 0, none⟩) 0 0, .int .i64 1]) (by simp [results, Tryz.results8, go_sem, cx0, cx1]) rfl ?_
    rw [HE.out]
    exact ⟨some ⟨w1.heap.size, 0, none⟩, 0, rfl, strs_nil' _ _ _, hf1⟩
  have e0 : pc = 0 := HKO.out.2 ho
  subst e0
  cases hk : askOk f ks
  · rw [hk] at HO
    have HE : Hid (askChk f p ks = some ([], 1)) := hid_of (by rw [askChk, hk]; simp)
    go_enter Tryz.func8, Tryz.ntmps8
    go_wp2_with (first
      | (go_at_call 28; refine (HC.out _ bX).mono ?_; rintro e w1 ⟨rfl, hb1⟩; have b01 := bX.trans (hb1.mono (by omega)))
      | (go_at_call 29; refine (HO.out _ b01).mono ?_; rintro e w2 ⟨rfl, hb2⟩; have z1 := hb1.size; have z2 := hb2.size; have b02 := b01.trans (hb2.mono b01.size); have nR2 := fun o => ((below_box w2 o).block _ (by omega)).trans ((hb2.block _ (by omega)).trans ((hb1.block _ (by omega)).trans nR)); have r0 := fun o => (box_at (nR2 o) 0 (by simp)).1; have f0 := fun o => (box_at (nR2 o) 0 (by simp)).2; have r1 := fun o => (box_at (nR2 o) 1 (by simp)).1; have f1 := fun o => (box_at (nR2 o) 1 (by simp)).2))
    obtain ⟨hf1, hf2⟩ := fin2 (.slice (some ⟨w2.heap.size, 0, none⟩) 0 0) (.int .i64 1) (nR2 (.cells #[] 9)) (b02.trans ((below_box w2 _).mono b02.size)) (Nat.le_succ _)
    have cx0 := (box_at hf2 0 (by simp)).1
    have cx1 := (box_at hf2 1 (by simp)).1
    simp only [List.getElem_toArray, List.getElem_cons_zero, List.getElem_cons_succ] at cx0 cx1
    refine bodyPost_ret (v := .agg #[.slice (some ⟨w2.heap.size, 0, none⟩) 0 0, .int .i64 1]) (by simp [results, Tryz.results8, go_sem, cx0, cx1]) rfl ?_
    rw [HE.out]
    exact ⟨some ⟨w2.heap.size, 0, none⟩, 0, rfl, strs_nil' _ _ _, hf1⟩
  rw [hk] at HO
  have HE : Hid (askChk f p ks = chkM p f [] qry ks ks.length) := hid_of (by rw [askChk, if_pos ⟨ho, hk⟩])
  have HLN := hid_of (fun x (h : chkM p f [] qry ks ks.length = some x) => chkM_len p f [] qry ks ks.length x h)
  generalize chkM p f [] qry ks ks.length = R at *
  obtain ⟨way, hway⟩ : ∃ way, way = wayO R := ⟨_, rfl⟩
  obtain ⟨code, hcode⟩ : ∃ code, code = codeO R := ⟨_, rfl⟩
  have hwl : way.length ≤ 1000000000 := by
    rw [hway]
    cases R with
    | none => simp [wayO]
    | some x => have := HLN.out x rfl; simp [wayO] at this ⊢; omega
  have HWC := hid_of (And.intro hway hcode)
  clear HLN ho hk HKO hway hcode
  go_enter Tryz.func8, Tryz.ntmps8
  go_upto_region 4 with (first
    | (go_at_call 28; refine (HC.out _ bX).mono ?_; rintro e w1 ⟨rfl, hb1⟩; have b01 := bX.trans (hb1.mono (by omega)))
    | (go_at_call 29; refine (HO.out _ b01).mono ?_; rintro e w2 ⟨rfl, hb2⟩; have z1 := hb1.size; have z2 := hb2.size; have b02 := b01.trans (hb2.mono b01.size); have nR2 := (hb2.block _ (by omega)).trans ((hb1.block _ (by omega)).trans nR); have nP2 := (hb2.block _ (by omega)).trans ((hb1.block _ (by omega)).trans nP); have p0 := (box_at nP2 0 (by simp)).1; have p1 := (box_at nP2 1 (by simp)).1)
    | (go_at_call 30; refine (H3.out _ (b02.trans ((below_box w2 _).mono b02.size)) _).mono ?_; rintro e w4 ⟨a4, c4, rfl, hS4, hb4⟩; rw [← HWC.out.1, ← HWC.out.2]; rw [← HWC.out.1] at hS4))
  have z4 := hb4.size
  have b03 := b02.trans ((below_box w2 (.cells #[] 9)).mono b02.size)
  have b04 := b03.trans (hb4.mono b03.size)
  have n4 : w4.heap[w.heap.size + 1]? = some (.cells #[.slice none 0 0, .int .i64 0] 30 (0, 0)) := (hb4.block _ (by simp; omega)).trans (((below_box w2 _).block _ (by omega)).trans nR2)
  have bY0 := below_box w4 (.cells #[.slice a4 way.length c4, .int .i64 code] 30)
  have nY := block_new (w := w4) #[.slice a4 way.length c4, .int .i64 code] 30 rfl
  have zY : (w4.alloc (.cells #[.slice a4 way.length c4, .int .i64 code] 30)).heap.size = w4.heap.size + 1 := by simp
  have hS4 := hS4.mono fun b hb => bY0.block b hb.2
  have n4 := (bY0.block _ (by simp at z4; omega)).trans n4
  have b0Y := b04.trans (bY0.mono b04.size)
  have z4' : w.heap.size + 1 < w4.heap.size := by simp at z4; omega
  clear bY0 b04 b03 hb4 b02 hb2 hb1 nR2 nP2 p0 p1 z4 nP nR bX zX b01
  generalize w4.alloc (.cells #[.slice a4 way.length c4, .int .i64 code] 30) = Y at *
  obtain ⟨y0, g0⟩ := box_at nY 0 (by simp)
  obtain ⟨y1, g1⟩ := box_at nY 1 (by simp)
  simp only [List.getElem_toArray, List.getElem_cons_zero, List.getElem_cons_succ] at y0 y1
  have RR : Hid (∀ V o, ((Y.setCell ⟨w4.heap.size, 0, none⟩ V).alloc o).heap[w.heap.size + 1]? = some (.cells #[.slice none 0 0, .int .i64 0] 30 (0, 0)) ∧ Below w.heap.size w ((Y.setCell ⟨w4.heap.size, 0, none⟩ V).alloc o)) := hid_of fun V o => by
    have b1 := b0Y.setCell (p := ⟨w4.heap.size, 0, none⟩) (by show w.heap.size ≤ w4.heap.size; omega) V
    refine ⟨?_, b1.trans ((below_box _ o).mono b1.size)⟩
    rw [(below_box _ o).block _ (by rw [size_set]; omega), Below.heap_setCell _ _ _ _ (by show w.heap.size + 1 ≠ w4.heap.size; omega)]
    exact n4
  have HY0 := hid_of (And.intro n4 (And.intro nY b0Y))
  by_cases hw0 : way = []
  · subst hw0
    have r0 := fun V o => (box_at (RR.out V o).1 0 (by simp)).1
    have f0 := fun V o => (box_at (RR.out V o).1 0 (by simp)).2
    have r1 := fun V o => (box_at (RR.out V o).1 1 (by simp)).1
    have f1 := fun V o => (box_at (RR.out V o).1 1 (by simp)).2
    clear n4 nY
    rcases a4 with _ | ad
    all_goals
      go_wp2_with fail
      obtain ⟨hf1, hf2⟩ := fin2 (.slice (some ⟨w4.heap.size + 1, 0, none⟩) 0 0) (.int .i64 code) (RR.out (.slice (some ⟨w4.heap.size + 1, 0, none⟩) 0 0) (.cells #[] 9)).1 (RR.out _ _).2 (Nat.le_succ _)
      have cx0 := (box_at hf2 0 (by simp)).1
      have cx1 := (box_at hf2 1 (by simp)).1
      simp only [List.getElem_toArray, List.getElem_cons_zero, List.getElem_cons_succ] at cx0 cx1
      refine bodyPost_ret (v := .agg #[.slice (some ⟨w4.heap.size + 1, 0, none⟩) 0 0, .int .i64 code]) (by simp [results, Tryz.results8, go_sem, cx0, cx1]) rfl ?_
      rw [HE.out]
      refine ⟨some ⟨w4.heap.size + 1, 0, none⟩, 0, ?_, ?_, hf1⟩
      · rw [← HWC.out.1, ← HWC.out.2]; rfl
      · rw [← HWC.out.1]; exact strs_nil' _ _ _
  obtain ⟨ab, aoff, rfl, hab, hac⟩ := hS4.1 hw0
  have hw1 : 0 < way.length := List.length_pos_iff.2 hw0
  have hablt : ab < Y.heap.size := by omega
  have bE := below_box Y (.cells #[] 9)
  have nE := block_new (w := Y) #[] 9 rfl
  have hOV : (Y.alloc (.cells #[] 9)).ownsRow Y.heap.size 9 1 (.slice (some ⟨w4.heap.size + 1, 0, none⟩) 0 0) 0 ([] : List Value) := ⟨rfl, Or.inr ⟨w4.heap.size + 1, 0, _, rfl, by omega, by rw [← zY]; exact nE, Nat.le_refl _, by unfold maxLen; omega, rfl, rfl⟩⟩
  have hNW : ∀ j u, (way.map Value.string)[j]? = some u → (Y.alloc (.cells #[] 9)).cell? ((⟨ab, aoff, none⟩ : Addr).add j) = some u := fun j u hu => by
    obtain ⟨hj, rfl⟩ := nth_map way j u hu
    rw [Addr.add_lit]
    exact (bE.cell (p := ⟨ab, aoff + j, none⟩) hablt).trans (hac j hj)
  have hsz := hS4.2.1
  have HOV := hid_of (And.intro hOV (And.intro hNW hsz))
  have h1c : Hid (∀ u ∈ way.map Value.string, u.oneCell' = true) := hid_of (by intro u hu; simp at hu; obtain ⟨x, -, rfl⟩ := hu; rfl)
  have hll : (way.map Value.string).length = way.length * 1 := by simp
  clear hOV hNW n4 nY hsz hS4 hac
  go_wp2_with (
    at_builtin
    refine wpList_append_lies _ rfl _ _ _ rfl Y.heap.size 9 i9 (.string ByteArray.empty) 1 16 Tryz.underlying28 hi9 hy0 hy1 hy2 rfl (by decide) (.slice (some ⟨w4.heap.size + 1, 0, none⟩) 0 0) 0 ([] : List Value) rfl HOV.out.1 ⟨ab, aoff, none⟩ way.length c4 (way.map Value.string) rfl hll HOV.out.2.1 h1c.out hw1 (by unfold maxLen; omega) (by omega) bE.size (w4.heap.size + 1 + 1) (by simp; omega) ?_
    intro g cap wP hown hgrow hat hltP
    simp only [Nat.zero_add, List.nil_append] at hown
    simp only [Nat.zero_add]
    have bP := bE.grown hgrow bE.size (fun k hk => (HOV.out.1.lt k hk).1)
    have HST := hid_of (strsOwn hown HOV.out.2.2 (by unfold maxLen; omega) hltP)
    have nYP := (bP.block _ (by omega)).trans HY0.out.2.1
    have nRP := (bP.block _ (by omega)).trans HY0.out.1
    have b0P := HY0.out.2.2.trans (bP.mono HY0.out.2.2.size)
    obtain ⟨y0P, g0P⟩ := box_at nYP 0 (by simp)
    obtain ⟨y1P, g1P⟩ := box_at nYP 1 (by simp)
    simp only [List.getElem_toArray, List.getElem_cons_zero, List.getElem_cons_succ] at y0P y1P
    have RP : Hid (∀ V, (wP.setCell ⟨w4.heap.size, 0, none⟩ V).heap[w.heap.size + 1]? = some (.cells #[.slice none 0 0, .int .i64 0] 30 (0, 0)) ∧ Below w.heap.size w (wP.setCell ⟨w4.heap.size, 0, none⟩ V)) := hid_of fun V => ⟨(Below.heap_setCell _ _ _ _ (by show w.heap.size + 1 ≠ w4.heap.size; omega)).trans nRP, b0P.setCell (p := ⟨w4.heap.size, 0, none⟩) (by show w.heap.size ≤ w4.heap.size; omega) V⟩
    have r0 := fun V => (box_at (RP.out V).1 0 (by simp)).1
    have f0 := fun V => (box_at (RP.out V).1 0 (by simp)).2
    have r1 := fun V => (box_at (RP.out V).1 1 (by simp)).1
    have f1 := fun V => (box_at (RP.out V).1 1 (by simp)).2
    clear nYP nRP hown hgrow hat)
  obtain ⟨hf1, hf2⟩ := fin2 (.slice (some ⟨g, 0, none⟩) way.length cap) (.int .i64 code) (RP.out (.slice (some ⟨g, 0, none⟩) way.length cap)).1 (RP.out _).2 (Nat.le_succ _)
  have cx0 := (box_at hf2 0 (by simp)).1
  have cx1 := (box_at hf2 1 (by simp)).1
  simp only [List.getElem_toArray, List.getElem_cons_zero, List.getElem_cons_succ] at cx0 cx1
  refine bodyPost_ret (v := .agg #[.slice (some ⟨g, 0, none⟩) way.length cap, .int .i64 code]) (by simp [results, Tryz.results8, go_sem, cx0, cx1]) rfl ?_
  rw [HE.out]
  refine ⟨some ⟨g, 0, none⟩, cap, ?_, ?_, hf1⟩
  · rw [← HWC.out.1, ← HWC.out.2]
  · rw [← HWC.out.1]
    have zb := HY0.out.2.2.size
    refine (HST.out.mono fun b hq => ?_).sub fun b hq => ?_
    · rw [Below.heap_setCell _ _ _ _ (by show b ≠ w.heap.size + 1; omega), Below.heap_setCell _ _ _ _ (by show b ≠ w.heap.size + 1; omega), Below.heap_setCell _ _ _ _ (by show b ≠ w4.heap.size; omega)]
    · simp only [size_set]; omega
end Go.Proofs.YtgcfgadkclfonaaGreatDoor

namespace Go.Proofs.YtgcfgadkclfonaaGreatDoor
set_option linter.unusedSimpArgs false
set_option linter.unusedVariables false
open Go.RowKit

theorem eqAskFault_any (ns : List ByteArray) (code : Int) (a a' : Option Addr) (c c' : Nat) (w : World) (hS : Strs w (· < w.heap.size) ns a) (hS' : Strs w (· < w.heap.size) ns a') :
    Calls Tryz.prog 12 #[.agg #[.slice a ns.length c, .int .i64 code], .agg #[.slice a' ns.length c', .int .i64 code]] w fun e w' => e = .returned (.bool true) ∧ Below w.heap.size w w' := by
  have bX := below_box2 w (.cells #[.slice a ns.length c, .int .i64 code] 30) (.cells #[.slice a' ns.length c', .int .i64 code] 30)
  have zX : ((w.alloc (.cells #[.slice a ns.length c, .int .i64 code] 30)).alloc (.cells #[.slice a' ns.length c', .int .i64 code] 30)).heap.size = w.heap.size + 1 + 1 := by simp
  have n0 : ((w.alloc (.cells #[.slice a ns.length c, .int .i64 code] 30)).alloc (.cells #[.slice a' ns.length c', .int .i64 code] 30)).heap[w.heap.size]? = some (.cells #[.slice a ns.length c, .int .i64 code] 30 (0, 0)) := by
    rw [(below_box _ _).block _ (by simp)]
    exact block_new _ _ rfl
  have n1 : ((w.alloc (.cells #[.slice a ns.length c, .int .i64 code] 30)).alloc (.cells #[.slice a' ns.length c', .int .i64 code] 30)).heap[w.heap.size + 1]? = some (.cells #[.slice a' ns.length c', .int .i64 code] 30 (0, 0)) := block_new _ _ (by simp)
  have HE := hid_of (fun W (hW : Below w.heap.size w W) => eqStringS_b ns a a' c c' W _ _ (hS.under hW) (hS'.under hW))
  clear hS hS'
  go_enter Tryz.func12, Tryz.ntmps12
  go_wp2_with (go_at_call 23; refine (HE.out _ bX).mono ?_; rintro e w1 ⟨rfl, hb1⟩; have r0 := (box_at ((hb1.block _ (by omega)).trans n0) 1 (by simp)).1; have r1 := (box_at ((hb1.block _ (by omega)).trans n1) 1 (by simp)).1)
  go_ret
  exact ⟨rfl, bX.trans (hb1.mono (by omega))⟩
theorem markAskFault_any (n c k lo hi : Nat) (code : Int) (a : Option Addr) (w : World) (hw : WStrs w lo hi n a) (hn : n ≤ 1048576) (hk : k ≤ 1000000000000) :
    Calls Tryz.prog 17 #[.agg #[.slice a n c, .int .i64 code], .int .i64 k] w fun e w' => e = .returned (.int .i64 ((k + n : Nat) : Int)) ∧ Marked lo hi w w' ∧ (∀ b off, a = some ⟨b, off, none⟩ → ∀ i, i < n → w'.cell? ⟨b, off + i, none⟩ = some (.string (mtext (k + i)))) := by
  have HM := hid_of (fun o => markStringS_any n c k lo hi a (w.alloc o) (hw.keep (Marked.of_below lo hi (below_box w o))) hn hk)
  go_enter Tryz.func17, Tryz.ntmps17
  go_wp2_with (go_at_call 24; refine (HM.out _).mono ?_; rintro e w1 ⟨rfl, hb1, hc⟩)
  go_ret
  exact ⟨rfl, (Marked.of_below lo hi (below_box w _)).trans hb1, hc⟩
theorem heldAskFault_any (n c k : Nat) (code : Int) (a : Option Addr) (w : World) (ha : 0 < n → ∃ b off, a = some ⟨b, off, none⟩ ∧ ∀ i, i < n → w.cell? ⟨b, off + i, none⟩ = some (.string (mtext (k + i)))) (hn : n ≤ 1048576) (hk : k ≤ 1000000000000) :
    Calls Tryz.prog 18 #[.agg #[.slice a n c, .int .i64 code], .int .i64 k] w fun e w' => e = .returned (.int .i64 ((k + n : Nat) : Int)) ∧ Below w.heap.size w w' := by
  have HM := hid_of (fun o => heldStringS_any n c k a (w.alloc o) (fun h0 => by
    obtain ⟨b, off, e, hc⟩ := ha h0
    exact ⟨b, off, e, fun i hi => ((below_box w o).cell (cell_block (hc i hi))).trans (hc i hi)⟩) hn hk)
  clear ha
  have hkn : ¬ ((k + n : Nat) : Int) < 0 := by omega
  have hkn2 : ¬ ((k : Int) + (n : Int)) < 0 := by omega
  go_enter Tryz.func18, Tryz.ntmps18
  go_wp2_with (go_at_call 25; refine (HM.out _).mono ?_; rintro e w1 ⟨rfl, hb1⟩)
  go_ret
  exact ⟨rfl, (below_box w _).trans (hb1.mono (by simp))⟩
theorem WStrs.of {w : World} {lo hi : Nat} {ns : List ByteArray} {a : Option Addr} (h : Strs w (fun b => lo ≤ b ∧ b < hi) ns a) (nf : NF lo w) : WStrs w lo hi ns.length a := fun hn => by
  obtain ⟨b, off, e, hb, hc⟩ := h.1 (by intro e; simp [e] at hn)
  exact ⟨b, off, e, hb.1, hb.2, fun i hi => ⟨⟨_, hc i hi⟩, nf _ hb.1⟩⟩
theorem WFs.of {w : World} {lo hi : Nat} {fs : List F} {a : Option Addr} (h : FsRep w (fun b => lo ≤ b ∧ b < hi) fs a) (nf : NF lo w) : WFs w lo hi fs a := fun hn => by
  obtain ⟨-, C, hA, hr⟩ := h
  obtain ⟨b, off, e, hb, hc⟩ := hA hn
  refine ⟨b, off, e, hb.1, hb.2, fun i hi => ?_⟩
  obtain ⟨e0, e1, e2, e3, e4, e5, e6, na, nc, e7, hS, -⟩ := (hr i hi).parts
  have c : ∀ j, j < 8 → w.cell? ⟨b, off + i * 8 + j, none⟩ = some (C i j) := fun j hj => hc i hi j hj
  have c0 : w.cell? ⟨b, off + i * 8, none⟩ = some (C i 0) := c 0 (by omega)
  exact ⟨⟨⟨_, c0.trans (congrArg some e0)⟩, nf _ hb.1⟩, ⟨⟨_, (c 1 (by omega)).trans (congrArg some e1)⟩, nf _ hb.1⟩, ⟨⟨_, (c 2 (by omega)).trans (congrArg some e2)⟩, nf _ hb.1⟩, ⟨⟨_, (c 3 (by omega)).trans (congrArg some e3)⟩, nf _ hb.1⟩, ⟨⟨_, (c 4 (by omega)).trans (congrArg some e4)⟩, nf _ hb.1⟩, ⟨⟨_, (c 5 (by omega)).trans (congrArg some e5)⟩, nf _ hb.1⟩, ⟨⟨_, (c 6 (by omega)).trans (congrArg some e6)⟩, nf _ hb.1⟩, na, nc, (c 7 (by omega)).trans (congrArg some e7), WStrs.of hS nf⟩
theorem WTs.of {w : World} {lo hi : Nat} {ts : List T} {a : Option Addr} (h : TsRep w (fun b => lo ≤ b ∧ b < hi) ts a) (nf : NF lo w) : WTs w lo hi ts a := fun hn => by
  obtain ⟨-, C, hA, hr⟩ := h
  obtain ⟨b, off, e, hb, hc⟩ := hA hn
  refine ⟨b, off, e, hb.1, hb.2, fun i hi => ?_⟩
  obtain ⟨fa, fc, e0, e1, e2, hF, -⟩ := (hr i hi).parts
  have c : ∀ j, j < 3 → w.cell? ⟨b, off + i * 3 + j, none⟩ = some (C i j) := fun j hj => hc i hi j hj
  have c0 : w.cell? ⟨b, off + i * 3, none⟩ = some (C i 0) := c 0 (by omega)
  exact ⟨⟨⟨_, c0.trans (congrArg some e0)⟩, nf _ hb.1⟩, ⟨⟨_, (c 1 (by omega)).trans (congrArg some e1)⟩, nf _ hb.1⟩, fa, fc, (c 2 (by omega)).trans (congrArg some e2), WFs.of hF nf⟩
theorem markPart_le (p : Pt) (c lo hi : Nat) (a : Option Addr) (w : World) (hw : WTs w lo hi p.types a) (hz : szP p ≤ 1048576) :
    Calls Tryz.prog 15 #[.agg #[.string p.name, .slice a p.types.length c], .int .i64 1] w fun e w' => ∃ x : Int, e = .returned (.int .i64 x) ∧ 0 ≤ x ∧ x ≤ 1000000000 ∧ Marked lo hi w w' := by
  obtain ⟨name, types⟩ := p
  have hs : szTs types ≤ 1048576 := by have : szP ⟨name, types⟩ = name.size + szTs types := rfl; omega
  have hM := fun o => markTypeS_any types c 1 lo hi a (w.alloc o) (hw.keep (Marked.of_below lo hi (below_box w o))) (by have : szTs types = types.length + szTsTo types types.length := rfl; omega)
    (fun i => by have := fields_small types hs i; have h3 : szFs (tth types i).fields = (tth types i).fields.length + szFsTo (tth types i).fields (tth types i).fields.length := rfl; omega)
    (fun i j => needs_small _ (fields_small types hs i) j)
    (fun i hi => by have h1 := mTs_sz types i; have h2 := szTsTo_mono types i _ hi; have h3 : szTs types = types.length + szTsTo types types.length := rfl; omega)
  have HB : Hid (((1 + mTs types types.length : Nat) : Int) ≤ 1000000000) := hid_of (by have h1 := mTs_sz types types.length; have h3 : szTs types = types.length + szTsTo types types.length := rfl; omega)
  go_enter Tryz.func15, Tryz.ntmps15
  go_wp2_with (
    go_at_call 39
    refine (hM _).mono ?_
    rintro e w1 ⟨rfl, hm1⟩)
  go_ret
  exact ⟨_, rfl, by omega, HB.out, (Marked.of_below lo hi (below_box w _)).trans hm1⟩
end Go.Proofs.YtgcfgadkclfonaaGreatDoor

namespace Go.Proofs.YtgcfgadkclfonaaGreatDoor
set_option linter.unusedSimpArgs false
set_option linter.unusedVariables false
open Go.RowKit Go.Shelf Go.Maps

theorem WSels.keepB {lo hi : Nat} {w w' : World} (m : ∀ b, lo ≤ b → b < hi → w'.heap[b]? = w.heap[b]?) : ∀ {f : Nat} {ks : List Se} {a : Option Addr}, WSels w lo hi f ks a → WSels w' lo hi f ks a
  | 0, _, _, h => h
  | f + 1, ks, a, h => fun hn => by
    obtain ⟨b, off, e, h1, h2, hc⟩ := h hn
    have c : ∀ o, w'.cell? ⟨b, o, none⟩ = w.cell? ⟨b, o, none⟩ := fun o => World.cell?_of_block (m b h1 h2)
    have z : ∀ o, w'.frozen? ⟨b, o, none⟩ = w.frozen? ⟨b, o, none⟩ := fun o => World.frozen?_of_block (m b h1 h2)
    refine ⟨b, off, e, h1, h2, fun i hi => ?_⟩
    obtain ⟨q0, q1, q2, q3, ka, kc, q4, q5⟩ := hc i hi
    refine ⟨?_, ?_, ?_, ?_, ka, kc, (c _).trans q4, q5.keepB m⟩
    · unfold TextAt; rw [c, z]; exact q0
    · unfold TextAt; rw [c, z]; exact q1
    · unfold FlagAt; rw [c, z]; exact q2
    · unfold NumAt; rw [c, z]; exact q3
theorem WStrs.keepB {lo hi n : Nat} {w w' : World} {a : Option Addr} (h : WStrs w lo hi n a) (m : ∀ b, lo ≤ b → b < hi → w'.heap[b]? = w.heap[b]?) : WStrs w' lo hi n a := fun hn => by
  obtain ⟨b, off, e, h1, h2, hc⟩ := h hn
  refine ⟨b, off, e, h1, h2, fun i hi => ?_⟩
  unfold TextAt
  rw [World.cell?_of_block (a := ⟨b, off + i, none⟩) (m b h1 h2), World.frozen?_of_block (a := ⟨b, off + i, none⟩) (m b h1 h2)]
  exact hc i hi
theorem OwnW.strs {A : World} {lo : Nat} {way : Way} {a : Option Addr} (h : OwnW A lo way a) : Strs A (fun b => lo ≤ b ∧ b < A.heap.size) way a :=
  ⟨fun hn => by
    obtain ⟨g, e, h1, h2, h3, -⟩ := h.blk (List.length_pos_iff.2 hn)
    exact ⟨g, 0, e, ⟨h1, h2⟩, fun i hi => by rw [Nat.zero_add]; exact h3 i hi⟩, h.sz, by have := h.len; unfold maxLen; omega⟩
theorem OwnW.wstrs {A : World} {lo : Nat} {way : Way} {a : Option Addr} (h : OwnW A lo way a) : WStrs A lo A.heap.size way.length a := fun hn => by
  obtain ⟨g, e, h1, h2, h3, h4⟩ := h.blk hn
  exact ⟨g, 0, e, h1, h2, fun i hi => by rw [Nat.zero_add]; exact ⟨⟨_, h3 i hi⟩, h4 i⟩⟩

set_option maxRecDepth 20000 in
set_option maxHeartbeats 3200000 in
theorem lawAskCheck_walk (p : Pt) (ks : List Se) (v : Value) (w : World) (ra : Option Addr) (rc : Nat) (hP : PRep w (· < w.heap.size) p v) (hR : SeReps w (· < w.heap.size) ks ra) (hT : Tab w.heap.size w) :
    Calls Tryz.prog 3 #[v, .slice ra ks.length rc] w fun e w' => e = .returned (.bool true) ∧ Below w.heap.size w w' := by
  obtain ⟨f0, hf0⟩ := FitS.ex hR
  have hP' := hP
  obtain ⟨ta, tc, rfl, -⟩ := hP
  have HTP := hid_of (fun W (hb : Below w.heap.size w W) => toPart_nf p W w.heap.size _ (hP'.under hb) hb.size)
  have HCA := hid_of (fun W (hb : Below w.heap.size w W) => toSelS_nf ks (fun i _ => toSel_any _) W w.heap.size ra rc (hR.under hb) hb.size)
  have HPz := hid_of (fun W (hb : Below w.heap.size w W) => szPart_any p W w.heap.size _ 1048576 (hP'.under hb) hb.size (by omega) (by omega))
  have HSz := hid_of (fun W (hb : Below w.heap.size w W) left h0 h1 => szSelS_two ks (fun i _ => szSel_two _) W w.heap.size ra rc left (hR.under hb) hb.size h0 h1)
  have HT := hid_of hT
  have HF0 := hid_of hf0
  have bX := below_box w (.cells #[.string p.name, .slice ta p.types.length tc] 24)
  have nX := heap_alloc_new w (.cells #[.string p.name, .slice ta p.types.length tc] 24)
  have zX : (w.alloc (.cells #[.string p.name, .slice ta p.types.length tc] 24)).heap.size = w.heap.size + 1 := by simp
  clear hR hT hP' hf0
  go_enter Tryz.func3, Tryz.ntmps3
  go_wp2_with fail
  generalize w.alloc (.cells #[.string p.name, .slice ta p.types.length tc] 24) = X at *
  have HX : Hid (∀ W, Below X.heap.size X W → (W.cell? ⟨w.heap.size, 0, none⟩ = some (.string p.name) ∧ W.cell? ⟨w.heap.size, 1, none⟩ = some (.slice ta p.types.length tc)) ∧ Below w.heap.size w W) := hid_of fun W hW => by
    have h := (hW.block _ (by omega)).trans nX
    exact ⟨⟨(box_at h 0 (by simp)).1, (box_at h 1 (by simp)).1⟩, bX.trans (hW.mono (by omega))⟩
  clear nX
  refine (HPz.out X bX).mono ?_
  rintro e w1 ⟨y, rfl, hy0, hy1, hy2, hb1⟩
  have HY := hid_of hy2
  clear hy2 HPz
  by_cases hy : y < 0
  · go_wp2_with fail
    go_ret
    exact ⟨rfl, (HX.out w1 hb1).2⟩
  go_wp2_with fail
  refine (HSz.out w1 (HX.out w1 hb1).2 y (by omega) (by omega)).mono ?_
  rintro e w2 ⟨u, rfl, hu0, hu1, hu2, hb2⟩
  have x2 := hb1.trans (hb2.mono hb1.size)
  have HU := hid_of hu2
  clear hu2 HSz hb1 hb2
  by_cases hu : u < 0
  · go_wp2_with fail
    go_ret
    exact ⟨rfl, (HX.out w2 x2).2⟩
  have HPZ : Hid (szP p ≤ 1048576) := hid_of (by have := HY.out (by omega); omega)
  obtain ⟨F, hFn, hF⟩ : ∃ F : Nat, F ≤ 1000000000 ∧ Hid (FitS F ks ∧ SmallS F ks) := by
    obtain ⟨-, h2⟩ := HU.out (by omega)
    obtain ⟨F, hF⟩ : ∃ F : Nat, F = 1048576 := ⟨_, rfl⟩
    exact ⟨F, by omega, hid_of ⟨FitS.few f0 HF0.out F (by have := (h2 f0).1; omega), (h2 F).2⟩⟩
  have HCN : Hid (ks.length ≤ 1048576 ∧ ∀ g, cntTo g ks ks.length ≤ 1048576) := hid_of (by
    obtain ⟨h1, h2⟩ := HU.out (by omega)
    exact ⟨by omega, fun g => by have := (h2 g).1; omega⟩)
  clear HY HU
  obtain ⟨way, code, HWC⟩ : ∃ way code, Hid (wayO (askChk F p ks) = way ∧ codeO (askChk F p ks) = code) := ⟨_, _, hid_of ⟨rfl, rfl⟩⟩
  have HIM : Hid (∀ W P B ka kc v', AskIn F ks P B ka W → PRep W (· < W.heap.size) p v' → Calls Tryz.prog 11 #[v', .slice ka ks.length kc] W fun e w' => ∃ a c, e = .returned (.agg #[.slice a way.length c, .int .i64 code]) ∧ OwnW w' W.heap.size way a ∧ Below W.heap.size W w') := hid_of fun W P B ka kc v' h hv => (AskCheckI_any F p ks P B ka kc v' W h hv HPZ.out).mono fun e w' h => by
    obtain ⟨a, c, h1, h2, h3⟩ := h
    rw [HWC.out.1, HWC.out.2] at h1
    rw [HWC.out.1] at h2
    exact ⟨a, c, h1, h2, h3⟩
  obtain ⟨⟨p0, p1⟩, bw2⟩ := HX.out w2 x2
  go_wp2_with fail
  clear p0 p1
  refine (HTP.out w2 bw2).mono ?_
  rintro e w3 ⟨ta3, tc3, rfl, hb3, hR3, -⟩
  have x3 := x2.trans (hb3.mono x2.size)
  have HR3 := hid_of hR3
  clear hR3
  go_wp2_with fail
  refine (HCA.out w3 (HX.out w3 x3).2).mono ?_
  rintro e w4 ⟨rfl, hb4, z4, hR4, -⟩
  have x4 := x3.trans (hb4.mono x3.size)
  have HSp : Hid (Calls Tryz.prog 8 #[.agg #[.string p.name, .slice ta3 p.types.length tc3], .slice (some ⟨w3.heap.size, 0, none⟩) ks.length ks.length] w4 fun e w' => ∃ a c, e = .returned (.agg #[.slice a way.length c, .int .i64 code]) ∧ Strs w' (fun b => w4.heap.size ≤ b ∧ b < w'.heap.size) way a ∧ Below w4.heap.size w4 w') := hid_of ((AskCheckS_any F p ks (some ⟨w3.heap.size, 0, none⟩) ks.length _ w4 hF.out.1 (hR4.sub fun b hb => hb.2) hFn ((HR3.out.mono fun j hj => hb4.block j hj.2).sub fun j hj => by have := hb4.size; omega) HPZ.out).mono fun e w' h => by
    obtain ⟨a, c, h1, h2, h3⟩ := h
    rw [HWC.out.1, HWC.out.2] at h1
    rw [HWC.out.1] at h2
    exact ⟨a, c, h1, h2, h3⟩)
  clear hR4 HR3 HWC
  go_wp2_with fail
  refine HSp.out.mono ?_
  rintro e w5 ⟨a0, cap0, rfl, hS0, hb5⟩
  have x5 := x4.trans (hb5.mono x4.size)
  clear HSp hb3 hb4 z4
  have b5a := below_box w5 (.cells #[.slice a0 way.length cap0, .int .i64 code] 30)
  have n5 := heap_alloc_new w5 (.cells #[.slice a0 way.length cap0, .int .i64 code] 30)
  have z5a : (w5.alloc (.cells #[.slice a0 way.length cap0, .int .i64 code] 30)).heap.size = w5.heap.size + 1 := by simp
  have x5a := x5.trans (b5a.mono x5.size)
  have HS0 := hid_of (hS0.mono fun b hb => b5a.block b hb.2)
  obtain ⟨⟨p0, p1⟩, bw5⟩ := HX.out _ x5a
  clear hS0 b5a
  go_wp2_with fail
  clear p0 p1
  generalize w5.alloc (.cells #[.slice a0 way.length cap0, .int .i64 code] 30) = Y5 at *
  refine (HTP.out Y5 bw5).mono ?_
  rintro e w6 ⟨ta6, tc6, rfl, hb6, hR6, hN6⟩
  have x6 := x5a.trans (hb6.mono x5a.size)
  have s6 := hb6.size
  have HW6 : Hid (WTs w6 Y5.heap.size w6.heap.size p.types ta6) := hid_of (by
    obtain ⟨ta5, tc5, e5, hK, -⟩ := hR6
    simp only [Value.agg.injEq, Array.mk.injEq, List.cons.injEq, Value.slice.injEq, and_true, true_and] at e5
    obtain ⟨rfl, rfl⟩ := e5
    exact WTs.of hK hN6)
  have HR6 := hid_of hR6
  have b6a := below_box w6 (.cells #[.string p.name, .slice ta6 p.types.length tc6] 34)
  have n6 := heap_alloc_new w6 (.cells #[.string p.name, .slice ta6 p.types.length tc6] 34)
  have z6a : (w6.alloc (.cells #[.string p.name, .slice ta6 p.types.length tc6] 34)).heap.size = w6.heap.size + 1 := by simp
  have x6a := x6.trans (b6a.mono x6.size)
  have bw6 := (HX.out _ x6a).2
  clear hR6 hN6
  go_wp2_with fail
  generalize w6.alloc (.cells #[.string p.name, .slice ta6 p.types.length tc6] 34) = Y6 at *
  refine (HCA.out Y6 bw6).mono ?_
  rintro e w7 ⟨rfl, hb7, z7, hR7, hN7⟩
  replace hR7 : SeReps w7 (fun b => Y6.heap.size ≤ b ∧ b < w7.heap.size) ks (some ⟨w6.heap.size + 1, 0, none⟩) := by rw [← z6a]; exact hR7
  have x7 := x6a.trans (hb7.mono x6a.size)
  have bw7 := (HX.out _ x7).2
  have B67 : Below w6.heap.size w6 w7 := b6a.trans (hb7.mono b6a.size)
  have HI7 := hid_of (askIn_copied hF.out.1 hF.out.2 hFn hR7 hN7 ((HT.out.on bw7).up bw7.size))
  have HR7 := hid_of (And.intro hR7 hN7)
  have n67 := (hb7.block _ (by omega)).trans n6
  obtain ⟨q0, -⟩ := box_at n67 0 (by simp)
  obtain ⟨q1, -⟩ := box_at n67 1 (by simp)
  simp only [List.getElem_toArray, List.getElem_cons_succ, List.getElem_cons_zero] at q0 q1
  have HP7 : Hid (PRep w7 (· < w7.heap.size) p (.agg #[.string p.name, .slice ta6 p.types.length tc6])) := hid_of ((HR6.out.mono fun k hk => B67.block k hk.2).sub fun k hk => show k < w7.heap.size by omega)
  have HIm := hid_of (HIM.out w7 _ _ (some ⟨w6.heap.size + 1, 0, none⟩) ks.length _ HI7.out HP7.out)
  clear hR7 hN7
  go_wp2_with fail
  clear q0 q1
  refine HIm.out.mono ?_
  rintro e w8 ⟨ga, gc, rfl, hOW, hb8⟩
  have x8 := x7.trans (hb8.mono x7.size)
  have s8 := hb8.size
  have hwl := hOW.len
  have hOS := hOW.strs
  have hOT := hOW.wstrs
  clear hOW HI7 HP7 HIm
  have b8a := below_box w8 (.cells #[.slice ga way.length gc, .int .i64 code] 30)
  have n8 := heap_alloc_new w8 (.cells #[.slice ga way.length gc, .int .i64 code] 30)
  have z8a : (w8.alloc (.cells #[.slice ga way.length gc, .int .i64 code] 30)).heap.size = w8.heap.size + 1 := by simp
  have B78 : Below w7.heap.size w7 (w8.alloc (.cells #[.slice ga way.length gc, .int .i64 code] 30)) := hb8.trans (b8a.mono s8)
  have B68 : Below w6.heap.size w6 (w8.alloc (.cells #[.slice ga way.length gc, .int .i64 code] 30)) := B67.trans (B78.mono B67.size)
  have B58 : Below Y5.heap.size Y5 (w8.alloc (.cells #[.slice ga way.length gc, .int .i64 code] 30)) := hb6.trans (B68.mono s6)
  have hOS := hOS.mono fun b hb => b8a.block b hb.2
  have hOT := hOT.keepB fun b _ hb => b8a.block b hb
  have n68 := (B78.block _ (by omega)).trans n67
  have HBo := hid_of (And.intro n5 n8)
  have n5' := (B58.block _ (by omega)).trans n5
  obtain ⟨t0, -⟩ := box_at n5' 0 (by simp)
  obtain ⟨t1, -⟩ := box_at n5' 1 (by simp)
  simp only [List.getElem_toArray, List.getElem_cons_succ, List.getElem_cons_zero] at t0 t1
  clear n5 n5' n67 b8a hb6 hb7 hb8 B67 b6a x2 x3 x4 x5 x6 x6a x7 x8 bw2 bw5 bw6 bw7 hb5 n6
  have HEQ : Hid (∀ W aa ac, Strs W (· < W.heap.size) way aa → Strs W (· < W.heap.size) way a0 → Calls Tryz.prog 12 #[.agg #[.slice aa way.length ac, .int .i64 code], .agg #[.slice a0 way.length cap0, .int .i64 code]] W fun e w' => e = .returned (.bool true) ∧ Below W.heap.size W w') := hid_of fun W aa ac h1 h2 => eqAskFault_any way code aa a0 ac cap0 W h1 h2
  go_wp2_with fail
  clear t0 t1
  generalize w8.alloc (.cells #[.slice ga way.length gc, .int .i64 code] 30) = Y8 at *
  obtain ⟨S1, hS1⟩ : ∃ S : Nat → Prop, ∀ b, S b ↔ (Y5.heap.size ≤ b ∧ b < w7.heap.size) := ⟨_, fun b => Iff.rfl⟩
  obtain ⟨S2, hS2⟩ : ∃ S : Nat → Prop, ∀ b, S b ↔ (Y5.heap.size ≤ b ∧ b < w8.heap.size) := ⟨_, fun b => Iff.rfl⟩
  have K5 : Hid (∀ W, Fram S2 Y8 W → Below Y5.heap.size Y5 W) := hid_of fun W hW => B58.trans (hW.below B58.size fun b hb => ((hS2 b).1 hb).1)
  have KX : Hid (∀ W, Fram S2 Y8 W → (W.cell? ⟨w.heap.size, 0, none⟩ = some (.string p.name) ∧ W.cell? ⟨w.heap.size, 1, none⟩ = some (.slice ta p.types.length tc)) ∧ Below w.heap.size w W) := hid_of fun W hW => HX.out W (x5a.trans ((K5.out W hW).mono x5a.size))
  have K6 : Hid (∀ W, Fram S2 Y8 W → W.cell? ⟨w5.heap.size, 0, none⟩ = some (.slice a0 way.length cap0) ∧ W.cell? ⟨w5.heap.size, 1, none⟩ = some (.int .i64 code)) := hid_of fun W hW => by
    have h := ((K5.out W hW).block _ (by omega)).trans HBo.out.1
    exact ⟨(box_at h 0 (by simp)).1, (box_at h 1 (by simp)).1⟩
  have K9 : Hid (∀ W, Fram S2 Y8 W → W.cell? ⟨w8.heap.size, 0, none⟩ = some (.slice ga way.length gc) ∧ W.cell? ⟨w8.heap.size, 1, none⟩ = some (.int .i64 code)) := hid_of fun W hW => by
    have h := (hW.block w8.heap.size (by omega) (by rw [hS2]; omega)).trans HBo.out.2
    exact ⟨(box_at h 0 (by simp)).1, (box_at h 1 (by simp)).1⟩
  have K0 : Hid (∀ W, Fram S2 Y8 W → Strs W (· < W.heap.size) way a0) := hid_of fun W hW => (HS0.out.mono fun b hb => (K5.out W hW).block b (by omega)).sub fun b hb => by have := (K5.out W hW).size; show b < _; omega
  have KG : Hid (∀ W, Fram S1 Y8 W → Strs W (· < W.heap.size) way ga ∧ WStrs W w7.heap.size w8.heap.size way.length ga) := hid_of fun W hW => ⟨(hOS.mono fun b hb => hW.block b (by omega) (by rw [hS1]; omega)).sub fun b hb => by have := hW.size; show b < _; omega, hOT.keepB fun b h1 h2 => hW.block b (by omega) (by rw [hS1]; omega)⟩
  have K12 : Hid (∀ W, Fram S1 Y8 W → Fram S2 Y8 W) := hid_of fun W hW => ⟨hW.os, hW.tape, hW.output, hW.size, fun b hb hn => hW.block b hb fun e => hn (by rw [hS1] at e; rw [hS2]; omega)⟩
  have K7 : Hid (∀ W, Below Y8.heap.size Y8 W → (W.cell? ⟨w6.heap.size, 0, none⟩ = some (.string p.name) ∧ W.cell? ⟨w6.heap.size, 1, none⟩ = some (.slice ta6 p.types.length tc6)) ∧ PRep W (fun b => Y5.heap.size ≤ b ∧ b < w6.heap.size) p (.agg #[.string p.name, .slice ta6 p.types.length tc6]) ∧ WTs W Y5.heap.size w6.heap.size p.types ta6) := hid_of fun W hW => by
    have h := (hW.block _ (by omega)).trans n68
    have b6 := B68.trans (hW.mono B68.size)
    exact ⟨⟨(box_at h 0 (by simp)).1, (box_at h 1 (by simp)).1⟩, HR6.out.mono fun k hk => b6.block k hk.2, HW6.out.keep (Marked.of_below 0 0 b6)⟩
  have KS : Hid (∀ W, Below Y8.heap.size Y8 W → SeReps W (fun b => Y6.heap.size ≤ b ∧ b < w7.heap.size) ks (some ⟨w6.heap.size + 1, 0, none⟩)) := hid_of fun W hW => HR7.out.1.mono fun k hk => (hW.block k (by omega)).trans (B78.block k hk.2)
  have KW : Hid (∃ f, ∀ W, (∀ b, Y6.heap.size ≤ b → b < w7.heap.size → W.heap[b]? = Y8.heap[b]?) → WSels W Y6.heap.size w7.heap.size f ks (some ⟨w6.heap.size + 1, 0, none⟩)) := hid_of (by
    obtain ⟨f, hf⟩ := WSels.of_rep HR7.out.1 HR7.out.2
    exact ⟨f, fun W hW => hf.keepB fun b h1 h2 => (hW b h1 h2).trans (B78.block b h2)⟩)
  clear hOS hOT n68 B58 B68 B78 n8 HBo
  have fr8 : Fram S1 Y8 Y8 := Fram.of_below (Below.refl _ _)
  refine (HEQ.out Y8 ga gc (KG.out Y8 fr8).1 (K0.out Y8 (K12.out Y8 fr8))).mono ?_
  rintro e w9 ⟨rfl, hb9⟩
  have z9 := hb9.size
  have x9 := (KX.out w9 (Fram.of_below hb9)).2
  obtain ⟨⟨p0, p1⟩, -⟩ := KX.out w9 (Fram.of_below hb9)
  obtain ⟨⟨q0, q1⟩, X9, -⟩ := K7.out w9 hb9
  have HX9 := hid_of X9
  clear X9 fr8
  have l0 : w.heap.size < w9.heap.size := World.block_lt_of_cell? w9 _ p0
  have l6 : w6.heap.size < w9.heap.size := World.block_lt_of_cell? w9 _ q0
  go_wp2_with fail
  go_region_held3 (fun w' => w'.cell? ⟨w.heap.size, 0, none⟩ = some (.string p.name) ∧ w'.cell? ⟨w.heap.size, 1, none⟩ = some (.slice ta p.types.length tc) ∧ w'.cell? ⟨w6.heap.size, 0, none⟩ = some (.string p.name) ∧ w'.cell? ⟨w6.heap.size, 1, none⟩ = some (.slice ta6 p.types.length tc6)) (go_keep)
    (first
      | (
        go_at_call 9
        refine (HTP.out w9.drew x9.drew).mono ?_
        rintro e w10 ⟨ta7, tc7, rfl, hb10, hr10, -⟩
        have hb10' := below_undrew hb10
        have z10 := hb10'.size
        have p70 := (hb10'.cell (p := ⟨w.heap.size, 0, none⟩) (by show w.heap.size < _; omega)).trans p0
        have p71 := (hb10'.cell (p := ⟨w.heap.size, 1, none⟩) (by show w.heap.size < _; omega)).trans p1
        have q70 := (hb10'.cell (p := ⟨w6.heap.size, 0, none⟩) (by show w6.heap.size < _; omega)).trans q0
        have q71 := (hb10'.cell (p := ⟨w6.heap.size, 1, none⟩) (by show w6.heap.size < _; omega)).trans q1
        have hX10 : PRep w10 (· < w10.heap.size) p (.agg #[.string p.name, .slice ta6 p.types.length tc6]) := (HX9.out.mono fun k hk => hb10'.block k (by omega)).sub fun k hk => by show k < _; omega)
      | (
        go_at_call 13
        refine (eqPart_any p w10 w10.heap.size _ _ hX10 (hr10.sub fun k hk => hk.2) (Nat.le_refl _)).mono ?_
        rintro e w11 ⟨rfl, hb11⟩
        have p80 := (hb11.cell (p := ⟨w.heap.size, 0, none⟩) (by show w.heap.size < _; omega)).trans p70
        have p81 := (hb11.cell (p := ⟨w.heap.size, 1, none⟩) (by show w.heap.size < _; omega)).trans p71
        have q80 := (hb11.cell (p := ⟨w6.heap.size, 0, none⟩) (by show w6.heap.size < _; omega)).trans q70
        have q81 := (hb11.cell (p := ⟨w6.heap.size, 1, none⟩) (by show w6.heap.size < _; omega)).trans q71))
  have b11 : Below Y8.heap.size Y8 w11 := hb9.trans ((hb10'.trans (hb11.mono z10)).mono z9)
  have z11 := b11.size
  clear p0 p1 q0 q1 p70 p71 q70 q71 p80 p81 q80 q81 hX10 hr10 hb10 hb10' hb11
  go_wp2_with fail
  refine (HCA.out w11 (KX.out w11 (Fram.of_below b11)).2).mono ?_
  rintro e w12 ⟨rfl, hb12, z12, hR12, -⟩
  have b12 := b11.trans (hb12.mono z11)
  have HE2 := hid_of (eqSelS_any ks (fun i _ => eqSel_any _) w12 w12.heap.size (some ⟨w6.heap.size + 1, 0, none⟩) (some ⟨w11.heap.size, 0, none⟩) ks.length ks.length ((KS.out w12 b12).sub fun b hb => by show b < _; have := b12.size; omega) (hR12.sub fun b hb => hb.2) (Nat.le_refl _))
  clear hR12
  go_wp2_with fail
  refine HE2.out.mono ?_
  rintro e w13 ⟨rfl, hb13⟩
  clear HE2
  have b13 := b12.trans (hb13.mono b12.size)
  obtain ⟨⟨q0, q1⟩, -, W13⟩ := K7.out w13 b13
  have HMP := hid_of (markPart_le p tc6 Y5.heap.size w6.heap.size ta6 w13 W13 HPZ.out)
  obtain ⟨fw, hfw⟩ := KW.out
  have hcw := HCN.out.2 fw
  clear W13
  go_wp2_with fail
  clear q0 q1
  refine HMP.out.mono ?_
  rintro e w14 ⟨K14, rfl, hK14, hK14', hM14⟩
  clear HMP
  have fr14 : Fram S1 Y8 w14 := (Fram.of_below b13).trans (Fram.of_marked hM14 fun b hb => (hS1 b).2 (by omega))
  have HMk := hid_of (markSelS_any fw ks ks.length Y6.heap.size w7.heap.size K14 (some ⟨w6.heap.size + 1, 0, none⟩) w14 (hfw w14 fun b h1 h2 => (hM14.block b (by have := b13.size; omega) (by omega)).trans (b13.block b (by omega))) HCN.out.1 HCN.out.2 hK14 (by omega))
  have HFR14 := hid_of fr14
  clear hM14 fr14
  go_wp2_with fail
  refine HMk.out.mono ?_
  rintro e w15 ⟨⟨K15, rfl, hK15, -⟩, hM15⟩
  clear HMk hcw hfw
  have fr15 : Fram S1 Y8 w15 := HFR14.out.trans (Fram.of_marked hM15.m fun b hb => (hS1 b).2 (by omega))
  have hK15' : ¬ K15 < 0 := by omega
  have HFR15 := hid_of fr15
  have z15 := fr15.size
  obtain ⟨g0, g1⟩ := K9.out w15 (K12.out w15 fr15)
  obtain ⟨t0, t1⟩ := K6.out w15 (K12.out w15 fr15)
  have HE3 := hid_of (HEQ.out w15 ga gc (KG.out w15 fr15).1 (K0.out w15 (K12.out w15 fr15)))
  clear hM15 fr15
  go_wp2_with fail
  clear g0 g1 t0 t1
  refine HE3.out.mono ?_
  rintro e w16 ⟨rfl, hb16⟩
  clear HE3
  have fr16 := HFR15.out.trans (Fram.of_below hb16)
  have z16 := fr16.size
  obtain ⟨g0, g1⟩ := K9.out w16 (K12.out w16 fr16)
  have HMF := hid_of (markAskFault_any way.length gc 1 w7.heap.size w8.heap.size code ga w16 (KG.out w16 fr16).2 (by omega) (by omega))
  have HFR16 := hid_of fr16
  clear fr16
  go_wp2_with fail
  clear g0 g1
  refine HMF.out.mono ?_
  rintro e w17 ⟨rfl, hM17, hC17⟩
  clear HMF
  have fr17 : Fram S2 Y8 w17 := (K12.out w16 HFR16.out).trans (Fram.of_marked hM17 fun b hb => (hS2 b).2 (by omega))
  have HH : Hid (∀ W, Below w17.heap.size w17 W → Calls Tryz.prog 18 #[.agg #[.slice ga way.length gc, .int .i64 code], .int .i64 1] W fun e w' => e = .returned (.int .i64 ((1 + way.length : Nat) : Int)) ∧ Below W.heap.size W w') := hid_of fun W hW => heldAskFault_any way.length gc 1 code ga W (fun h0 => by
    obtain ⟨b, off, e, -⟩ := (KG.out w16 HFR16.out).2 h0
    exact ⟨b, off, e, fun i hi => (hW.cell (cell_block (hC17 b off e i hi))).trans (hC17 b off e i hi)⟩) (by omega) (by omega)
  have HFR17 := hid_of fr17
  obtain ⟨g0, g1⟩ := K9.out w17 fr17
  clear hM17 fr17
  go_wp2_with fail
  clear g0 g1
  refine (HH.out w17 (Below.refl _ _)).mono ?_
  rintro e w18 ⟨rfl, hb18⟩
  have fr18 := HFR17.out.trans (Fram.of_below hb18)
  obtain ⟨⟨p0, p1⟩, x18⟩ := KX.out w18 fr18
  have hmn : ¬ ((1 + way.length : Nat) : Int) < 0 := by omega
  have HFR18 := hid_of fr18
  clear fr18
  go_wp2_with fail
  clear p0 p1
  refine (HTP.out w18 x18).mono ?_
  rintro e w19 ⟨ta19, tc19, rfl, hb19, hR19, -⟩
  have x19 := x18.trans (hb19.mono x18.size)
  have HR19 := hid_of hR19
  clear hR19
  go_wp2_with fail
  refine (HCA.out w19 x19).mono ?_
  rintro e w20 ⟨rfl, hb20, z20, hR20, hN20⟩
  have x20 := x19.trans (hb20.mono x19.size)
  have HI20 := hid_of (askIn_copied hF.out.1 hF.out.2 hFn hR20 hN20 ((HT.out.on x20).up x20.size))
  have HP20 : Hid (PRep w20 (· < w20.heap.size) p (.agg #[.string p.name, .slice ta19 p.types.length tc19])) := hid_of ((HR19.out.mono fun k hk => hb20.block k hk.2).sub fun k hk => show k < w20.heap.size by have := hb20.size; omega)
  have HIm2 := hid_of (HIM.out w20 _ _ (some ⟨w19.heap.size, 0, none⟩) ks.length _ HI20.out HP20.out)
  clear hR20 hN20 HR19
  go_wp2_with fail
  refine HIm2.out.mono ?_
  rintro e w21 ⟨ha, hc, rfl, hOH, hb21⟩
  have b1821 := (hb19.trans (hb20.mono hb19.size)).trans (hb21.mono (hb19.trans (hb20.mono hb19.size)).size)
  have b21a := below_box w21 (.cells #[.slice ha way.length hc, .int .i64 code] 30)
  have b1821a := b1821.trans (b21a.mono b1821.size)
  have fr21 := HFR18.out.trans (Fram.of_below b1821a)
  obtain ⟨t0, t1⟩ := K6.out _ fr21
  have HE4 := hid_of (HEQ.out (w21.alloc (.cells #[.slice ha way.length hc, .int .i64 code] 30)) ha hc ((hOH.strs.mono fun b hb => b21a.block b hb.2).sub fun b hb => by show b < _; simp; omega) (K0.out _ fr21))
  have HFR21 := hid_of fr21
  have HB21 := hid_of (hb18.trans (b1821a.mono hb18.size))
  clear hOH fr21 HI20 HP20 HIm2 b21a b1821 b1821a hb19 hb20 hb21
  go_wp2_with fail
  clear t0 t1
  refine HE4.out.mono ?_
  rintro e w22 ⟨rfl, hb22⟩
  clear HE4
  have fr22 := HFR21.out.trans (Fram.of_below hb22)
  obtain ⟨g0, g1⟩ := K9.out w22 fr22
  have HB22 := hid_of (HB21.out.trans (hb22.mono HB21.out.size))
  have HFR22 := hid_of fr22
  clear fr22
  go_wp2_with fail
  clear g0 g1
  refine (HH.out w22 HB22.out).mono ?_
  rintro e w23 ⟨rfl, hb23⟩
  have HBB := hid_of (KX.out w23 (HFR22.out.trans (Fram.of_below hb23))).2
  go_wp2_with fail
  go_ret
  exact ⟨rfl, HBB.out⟩
end Go.Proofs.YtgcfgadkclfonaaGreatDoor
