import Derived.Test.YtokmgbidmnanpaaGreatDoorB32
import Derived.Test.YtokmgbidmnanpaaGreatDoorB36
import Derived.Test.YtokmgbidmnanpaaGreatDoorB31
import Derived.Test.YtokmgbidmnanpaaGreatDoorB20
import Derived.Test.YtokmgbidmnanpaaGreatDoorB33
set_option linter.unusedSimpArgs false
set_option linter.unusedVariables false
namespace Go.Proofs.YtokmgbidmnanpaaGreatDoor
open Go.RowKit
theorem allTo_at (q : Nat → Bool) : ∀ n, allTo q n = true → ∀ i, i < n → q i = true
  | 0, _, i, hi => absurd hi (Nat.not_lt_zero _)
  | n + 1, h, i, hi => by
    rw [allTo, Bool.and_eq_true] at h
    by_cases e : i = n
    · subst e; exact h.2
    · exact allTo_at q n h.1 i (by omega)
theorem partsOk_ok {ps : List Pt} {okp : Pt → Bool} (h : partsOkB ps okp = true) : 0 < ps.length ∧ ps.length ≤ 4 ∧ ∀ i, i < ps.length → okp (pth ps i) = true := by
  unfold partsOkB at h
  simp only [Bool.and_eq_true, decide_eq_true_eq] at h
  refine ⟨h.1.1.1, h.1.1.2, fun i hi => ?_⟩
  have := allTo_at _ _ h.1.2 i hi
  unfold eachB at this
  rw [Bool.and_eq_true] at this
  exact this.1
theorem szFsTo_at (fs : List F) (k : Nat) : ∀ n, k < n → szF (fth fs k) ≤ szFsTo fs n
  | 0, h => absurd h (Nat.not_lt_zero _)
  | n + 1, h => by
    rw [szFsTo_succ]
    by_cases e : k = n
    · subst e; omega
    · have := szFsTo_at fs k n (by omega)
      omega
theorem needs_ok (ps : List Pt) (hz : ∀ i, i < ps.length → szP (pth ps i) ≤ 1048576) (i k n : Nat) : (fth (tth (pth ps i).types k).fields n).needs.length ≤ 1000000000 := by
  by_cases hi : i < ps.length
  · have h0 := hz i hi
    have h1 : szP (pth ps i) = (pth ps i).name.size + ((pth ps i).types.length + szTsTo (pth ps i).types (pth ps i).types.length) := rfl
    generalize pth ps i = p at *
    by_cases hk : k < p.types.length
    · have h2 := szTsTo_at p.types k p.types.length hk
      have h3 : szT (tth p.types k) = (tth p.types k).name.size + (tth p.types k).key.size + ((tth p.types k).fields.length + szFsTo (tth p.types k).fields (tth p.types k).fields.length) := rfl
      generalize tth p.types k = t at *
      by_cases hn : n < t.fields.length
      · have h4 := szFsTo_at t.fields n t.fields.length hn
        have h5 : szF (fth t.fields n) = (fth t.fields n).name.size + (fth t.fields n).of.size + ((fth t.fields n).needs.length + sumTo (fth t.fields n).needs (fth t.fields n).needs.length) := rfl
        omega
      · have : fth t.fields n = F.zero := by simp [fth, List.getD_eq_getElem?_getD, List.getElem?_eq_none (Nat.le_of_not_lt hn)]
        rw [this]
        exact Nat.zero_le _
    · have e1 : tth p.types k = T.zero := by simp [tth, List.getD_eq_getElem?_getD, List.getElem?_eq_none (Nat.le_of_not_lt hk)]
      rw [e1]
      have : fth T.zero.fields n = F.zero := by simp [fth, T.zero]
      rw [this]
      exact Nat.zero_le _
  · have e0 : pth ps i = Pt.zero := by simp [pth, List.getD_eq_getElem?_getD, List.getElem?_eq_none (Nat.le_of_not_lt hi)]
    rw [e0]
    have e1 : tth Pt.zero.types k = T.zero := by simp [tth, Pt.zero]
    rw [e1]
    have : fth T.zero.fields n = F.zero := by simp [fth, T.zero]
    rw [this]
    exact Nat.zero_le _
end Go.Proofs.YtokmgbidmnanpaaGreatDoor
namespace Go.Proofs.YtokmgbidmnanpaaGreatDoor
open Go.RowKit Go.Shelf Go.Maps
attribute [local go_sem] Oper.semAt_some field_code
theorem chkM_len (p : Pt) : ∀ (f : Nat) (ah : Way) (nm : ByteArray) (ks : List Se) (n : Nat) (x : Way × Int), chkM p f ah nm ks n = some x → x.1.length ≤ ah.length + f
  | 0, ah, nm, ks, n, x, h => by simp [chkM] at h
  | f + 1, ah, nm, ks, 0, x, h => by simp [chkM] at h
  | f + 1, ah, nm, ks, n + 1, x, h => by
    rw [chkM] at h
    cases hc : chkM p (f + 1) ah nm ks n with
    | some y =>
      rw [hc] at h
      simp only [Option.some.injEq] at h
      subst h
      exact chkM_len p (f + 1) ah nm ks n y hc
    | none =>
      rw [hc] at h
      simp only at h
      split at h
      · simp only [Option.some.injEq] at h
        rw [← h]; simp
      · have := chkM_len p f _ _ _ _ x h
        simp at this; omega
theorem strs_nil' (w : World) (P : Nat → Prop) (a : Option Addr) : Strs w P [] a := ⟨fun h => absurd rfl h, fun i => by simp [nth, maxLen], by simp⟩
theorem strsOwn {w : World} {base g cap : Nat} {way : Way} (h : w.ownsRow base 9 1 (.slice (some ⟨g, 0, none⟩) way.length cap) way.length (way.map Value.string)) (hs : ∀ i, (nth way i).size ≤ maxLen) (hl : way.length ≤ maxLen) (hlt : g < w.heap.size) :
    Strs w (fun b => base ≤ b ∧ b < w.heap.size) way (some ⟨g, 0, none⟩) := by
  have hb : base ≤ g := by
    rcases h.2 with ⟨h', _⟩ | ⟨g', cap', cur, h', hb, _, hn, _⟩
    · simp at h'
    · simp only [Value.slice.injEq, Option.some.injEq, Addr.mk.injEq, and_true, true_and] at h'
      obtain ⟨rfl, rfl⟩ := h'
      exact hb
  refine ⟨fun _ => ⟨g, 0, rfl, ⟨hb, hlt⟩, fun i hi => ?_⟩, hs, hl⟩
  have := h.cellAt i (by omega)
  rw [Nat.zero_add, this, List.getElem?_map]
  simp [nth, List.getD_eq_getElem?_getD, hi]
set_option maxRecDepth 20000 in
set_option maxHeartbeats 1600000 in
theorem AskCheckS_any (f : Nat) (p : Pt) (ks : List Se) (ka : Option Addr) (kc : Nat) (v : Value) (w : World) (hf : FitS f ks) (hR : SeReps w (· < w.heap.size) ks ka) (hfew : f ≤ 1000000000) (hP : PRep w (· < w.heap.size) p v) (hz : szP p ≤ 1048576) :
    Calls Tryz.prog 33 #[v, .slice ka ks.length kc] w fun e w' => FltM w (askChk f p ks) e w' := by
  obtain ⟨i9, hi9, hy0, hy1, hy2⟩ := info_parts info9
  have hP' := hP
  obtain ⟨ta, tc, rfl, -, -, -⟩ := hP
  have HR := hid_of hR
  have HP := hid_of hP'
  have h72 := hR.1
  clear hR hP'
  have bX := below_box2 w (.cells #[.string p.name, .slice ta p.types.length tc] 43) (.cells #[.slice none 0 0, .int .i64 0] 48)
  have zX : ((w.alloc (.cells #[.string p.name, .slice ta p.types.length tc] 43)).alloc (.cells #[.slice none 0 0, .int .i64 0] 48)).heap.size = w.heap.size + 1 + 1 := by simp
  have nP : ((w.alloc (.cells #[.string p.name, .slice ta p.types.length tc] 43)).alloc (.cells #[.slice none 0 0, .int .i64 0] 48)).heap[w.heap.size]? = some (.cells #[.string p.name, .slice ta p.types.length tc] 43 (0, 0)) := by
    rw [(below_box _ _).block _ (by simp)]
    exact block_new _ _ rfl
  have nR : ((w.alloc (.cells #[.string p.name, .slice ta p.types.length tc] 43)).alloc (.cells #[.slice none 0 0, .int .i64 0] 48)).heap[w.heap.size + 1]? = some (.cells #[.slice none 0 0, .int .i64 0] 48 (0, 0)) := block_new _ _ (by simp)
  have HC := hid_of (fun W (hW : Below w.heap.size w W) => PartCheckS_any p W w.heap.size _ (HP.out.under hW) hW.size hz)
  have HO := hid_of (fun W (hW : Below w.heap.size w W) => AskOkS_any f ks W w.heap.size ka kc hf (HR.out.under hW) hW.size)
  have H3 : Hid (∀ W, Below w.heap.size w W → ∀ aa, Calls Tryz.prog 70 #[.agg #[.string p.name, .slice ta p.types.length tc], .string (⟨#[113, 117, 101, 114, 121]⟩ : ByteArray), .slice ka ks.length kc, .slice aa 0 0] W fun e w' => FltM W (chkM p f [] qry ks ks.length) e w') := hid_of fun W hW aa =>
    l3Check_any p _ _ f qry [] ks W aa 0 ka kc hf ((HR.out.under hW).sub fun b hb => Nat.lt_of_lt_of_le hb hW.size) (strs_nil' _ _ _) (by simp; omega) ((HP.out.under hW).sub fun b hb => Nat.lt_of_lt_of_le hb hW.size)
  have HKO := hid_of (partFault_ok p)
  generalize partFault p = pf at *
  obtain ⟨pa, pc⟩ := pf
  simp only at HC HKO
  cases ho : okP p
  · have HE : Hid (askChk f p ks = some ([], 1)) := hid_of (by rw [askChk, ho]; rfl)
    have hx0 : ¬ pc = 0 := fun e => by have := HKO.out.1 e; rw [ho] at this; cases this
    have hx1 : (pc == 0) = false := by simpa using hx0
    have hx2 : (pc != 0) = true := by simpa using hx0
    go_enter Tryz.func33, Tryz.ntmps33
    go_wp2_with (go_at_call 40; refine (HC.out _ bX).mono ?_; rintro e w1 ⟨rfl, hb1⟩; have b01 := bX.trans (hb1.mono (by omega)); have nR1 := fun o => ((below_box w1 o).block _ (by have := hb1.size; omega)).trans ((hb1.block _ (by omega)).trans nR); have r0 := fun o => (box_at (nR1 o) 0 (by simp)).1; have f0 := fun o => (box_at (nR1 o) 0 (by simp)).2; have r1 := fun o => (box_at (nR1 o) 1 (by simp)).1; have f1 := fun o => (box_at (nR1 o) 1 (by simp)).2)
    obtain ⟨hf1, hf2⟩ := fin2 (.slice (some ⟨w1.heap.size, 0, none⟩) 0 0) (.int .i64 1) (nR1 (.cells #[] 9)) (b01.trans ((below_box w1 _).mono b01.size)) (Nat.le_succ _)
    have cx0 := (box_at hf2 0 (by simp)).1
    have cx1 := (box_at hf2 1 (by simp)).1
    simp only [List.getElem_toArray, List.getElem_cons_zero, List.getElem_cons_succ] at cx0 cx1
    refine bodyPost_ret (v := .agg #[.slice (some ⟨w1.heap.size, 0, none⟩) 0 0, .int .i64 1]) (by simp [results, Tryz.results33, go_sem, cx0, cx1]) rfl ?_
    rw [HE.out]
    exact ⟨some ⟨w1.heap.size, 0, none⟩, 0, rfl, strs_nil' _ _ _, hf1⟩
  have e0 : pc = 0 := HKO.out.2 ho
  subst e0
  cases hk : askOk f ks
  · rw [hk] at HO
    have HE : Hid (askChk f p ks = some ([], 1)) := hid_of (by rw [askChk, hk]; simp)
    go_enter Tryz.func33, Tryz.ntmps33
    go_wp2_with (first
      | (go_at_call 40; refine (HC.out _ bX).mono ?_; rintro e w1 ⟨rfl, hb1⟩; have b01 := bX.trans (hb1.mono (by omega)))
      | (go_at_call 15; refine (HO.out _ b01).mono ?_; rintro e w2 ⟨rfl, hb2⟩; have z1 := hb1.size; have z2 := hb2.size; have b02 := b01.trans (hb2.mono b01.size); have nR2 := fun o => ((below_box w2 o).block _ (by omega)).trans ((hb2.block _ (by omega)).trans ((hb1.block _ (by omega)).trans nR)); have r0 := fun o => (box_at (nR2 o) 0 (by simp)).1; have f0 := fun o => (box_at (nR2 o) 0 (by simp)).2; have r1 := fun o => (box_at (nR2 o) 1 (by simp)).1; have f1 := fun o => (box_at (nR2 o) 1 (by simp)).2))
    obtain ⟨hf1, hf2⟩ := fin2 (.slice (some ⟨w2.heap.size, 0, none⟩) 0 0) (.int .i64 1) (nR2 (.cells #[] 9)) (b02.trans ((below_box w2 _).mono b02.size)) (Nat.le_succ _)
    have cx0 := (box_at hf2 0 (by simp)).1
    have cx1 := (box_at hf2 1 (by simp)).1
    simp only [List.getElem_toArray, List.getElem_cons_zero, List.getElem_cons_succ] at cx0 cx1
    refine bodyPost_ret (v := .agg #[.slice (some ⟨w2.heap.size, 0, none⟩) 0 0, .int .i64 1]) (by simp [results, Tryz.results33, go_sem, cx0, cx1]) rfl ?_
    rw [HE.out]
    exact ⟨some ⟨w2.heap.size, 0, none⟩, 0, rfl, strs_nil' _ _ _, hf1⟩
  rw [hk] at HO
  have HE : Hid (askChk f p ks = chkM p f [] qry ks ks.length) := hid_of (by rw [askChk, if_pos ⟨ho, hk⟩])
  have HLN := hid_of (fun x (h : chkM p f [] qry ks ks.length = some x) => chkM_len p f [] qry ks ks.length x h)
  generalize chkM p f [] qry ks ks.length = R at *
  obtain ⟨way, hway⟩ : ∃ way, way = wayO R := ⟨_, rfl⟩
  obtain ⟨code, hcode⟩ : ∃ code, code = codeO R := ⟨_, rfl⟩
  have hwl : way.length ≤ 1000000000 := by
    rw [hway]
    cases R with
    | none => simp [wayO]
    | some x => have := HLN.out x rfl; simp [wayO] at this ⊢; omega
  have HWC := hid_of (And.intro hway hcode)
  clear HLN ho hk HKO hway hcode
  go_enter Tryz.func33, Tryz.ntmps33
  go_upto_region 4 with (first
    | (go_at_call 40; refine (HC.out _ bX).mono ?_; rintro e w1 ⟨rfl, hb1⟩; have b01 := bX.trans (hb1.mono (by omega)))
    | (go_at_call 15; refine (HO.out _ b01).mono ?_; rintro e w2 ⟨rfl, hb2⟩; have z1 := hb1.size; have z2 := hb2.size; have b02 := b01.trans (hb2.mono b01.size); have nR2 := (hb2.block _ (by omega)).trans ((hb1.block _ (by omega)).trans nR); have nP2 := (hb2.block _ (by omega)).trans ((hb1.block _ (by omega)).trans nP); have p0 := (box_at nP2 0 (by simp)).1; have p1 := (box_at nP2 1 (by simp)).1)
    | (go_at_call 70; refine (H3.out _ (b02.trans ((below_box w2 _).mono b02.size)) _).mono ?_; rintro e w4 ⟨a4, c4, rfl, hS4, hb4⟩; rw [← HWC.out.1, ← HWC.out.2]; rw [← HWC.out.1] at hS4))
  have z4 := hb4.size
  have b03 := b02.trans ((below_box w2 (.cells #[] 9)).mono b02.size)
  have b04 := b03.trans (hb4.mono b03.size)
  have n4 : w4.heap[w.heap.size + 1]? = some (.cells #[.slice none 0 0, .int .i64 0] 48 (0, 0)) := (hb4.block _ (by simp; omega)).trans (((below_box w2 _).block _ (by omega)).trans nR2)
  have bY0 := below_box w4 (.cells #[.slice a4 way.length c4, .int .i64 code] 48)
  have nY := block_new (w := w4) #[.slice a4 way.length c4, .int .i64 code] 48 rfl
  have zY : (w4.alloc (.cells #[.slice a4 way.length c4, .int .i64 code] 48)).heap.size = w4.heap.size + 1 := by simp
  have hS4 := hS4.mono fun b hb => bY0.block b hb.2
  have n4 := (bY0.block _ (by simp at z4; omega)).trans n4
  have b0Y := b04.trans (bY0.mono b04.size)
  have z4' : w.heap.size + 1 < w4.heap.size := by simp at z4; omega
  clear bY0 b04 b03 hb4 b02 hb2 hb1 nR2 nP2 p0 p1 z4 nP nR bX zX b01
  generalize w4.alloc (.cells #[.slice a4 way.length c4, .int .i64 code] 48) = Y at *
  obtain ⟨y0, g0⟩ := box_at nY 0 (by simp)
  obtain ⟨y1, g1⟩ := box_at nY 1 (by simp)
  simp only [List.getElem_toArray, List.getElem_cons_zero, List.getElem_cons_succ] at y0 y1
  have RR : Hid (∀ V o, ((Y.setCell ⟨w4.heap.size, 0, none⟩ V).alloc o).heap[w.heap.size + 1]? = some (.cells #[.slice none 0 0, .int .i64 0] 48 (0, 0)) ∧ Below w.heap.size w ((Y.setCell ⟨w4.heap.size, 0, none⟩ V).alloc o)) := hid_of fun V o => by
    have b1 := b0Y.setCell (p := ⟨w4.heap.size, 0, none⟩) (by show w.heap.size ≤ w4.heap.size; omega) V
    refine ⟨?_, b1.trans ((below_box _ o).mono b1.size)⟩
    rw [(below_box _ o).block _ (by rw [size_set]; omega), Below.heap_setCell _ _ _ _ (by show w.heap.size + 1 ≠ w4.heap.size; omega)]
    exact n4
  have HY0 := hid_of (And.intro n4 (And.intro nY b0Y))
  by_cases hw0 : way = []
  · subst hw0
    have r0 := fun V o => (box_at (RR.out V o).1 0 (by simp)).1
    have f0 := fun V o => (box_at (RR.out V o).1 0 (by simp)).2
    have r1 := fun V o => (box_at (RR.out V o).1 1 (by simp)).1
    have f1 := fun V o => (box_at (RR.out V o).1 1 (by simp)).2
    clear n4 nY
    rcases a4 with _ | ad
    all_goals
      go_wp2_with fail
      obtain ⟨hf1, hf2⟩ := fin2 (.slice (some ⟨w4.heap.size + 1, 0, none⟩) 0 0) (.int .i64 code) (RR.out (.slice (some ⟨w4.heap.size + 1, 0, none⟩) 0 0) (.cells #[] 9)).1 (RR.out _ _).2 (Nat.le_succ _)
      have cx0 := (box_at hf2 0 (by simp)).1
      have cx1 := (box_at hf2 1 (by simp)).1
      simp only [List.getElem_toArray, List.getElem_cons_zero, List.getElem_cons_succ] at cx0 cx1
      refine bodyPost_ret (v := .agg #[.slice (some ⟨w4.heap.size + 1, 0, none⟩) 0 0, .int .i64 code]) (by simp [results, Tryz.results33, go_sem, cx0, cx1]) rfl ?_
      rw [HE.out]
      refine ⟨some ⟨w4.heap.size + 1, 0, none⟩, 0, ?_, ?_, hf1⟩
      · rw [← HWC.out.1, ← HWC.out.2]; rfl
      · rw [← HWC.out.1]; exact strs_nil' _ _ _
  obtain ⟨ab, aoff, rfl, hab, hac⟩ := hS4.1 hw0
  have hw1 : 0 < way.length := List.length_pos_iff.2 hw0
  have hablt : ab < Y.heap.size := by omega
  have bE := below_box Y (.cells #[] 9)
  have nE := block_new (w := Y) #[] 9 rfl
  have hOV : (Y.alloc (.cells #[] 9)).ownsRow Y.heap.size 9 1 (.slice (some ⟨w4.heap.size + 1, 0, none⟩) 0 0) 0 ([] : List Value) := ⟨rfl, Or.inr ⟨w4.heap.size + 1, 0, _, rfl, by omega, by rw [← zY]; exact nE, Nat.le_refl _, by unfold maxLen; omega, rfl, rfl⟩⟩
  have hNW : ∀ j u, (way.map Value.string)[j]? = some u → (Y.alloc (.cells #[] 9)).cell? ((⟨ab, aoff, none⟩ : Addr).add j) = some u := fun j u hu => by
    obtain ⟨hj, rfl⟩ := nth_map way j u hu
    rw [Addr.add_lit]
    exact (bE.cell (p := ⟨ab, aoff + j, none⟩) hablt).trans (hac j hj)
  have hsz := hS4.2.1
  have HOV := hid_of (And.intro hOV (And.intro hNW hsz))
  have h1c : Hid (∀ u ∈ way.map Value.string, u.oneCell' = true) := hid_of (by intro u hu; simp at hu; obtain ⟨x, -, rfl⟩ := hu; rfl)
  have hll : (way.map Value.string).length = way.length * 1 := by simp
  clear hOV hNW n4 nY hsz hS4 hac
  go_wp2_with (
    at_builtin
    refine wpList_append_lies _ rfl _ _ _ rfl Y.heap.size 9 i9 (.string ByteArray.empty) 1 16 Tryz.underlying29 hi9 hy0 hy1 hy2 rfl (by decide) (.slice (some ⟨w4.heap.size + 1, 0, none⟩) 0 0) 0 ([] : List Value) rfl HOV.out.1 ⟨ab, aoff, none⟩ way.length c4 (way.map Value.string) rfl hll HOV.out.2.1 h1c.out hw1 (by unfold maxLen; omega) (by omega) bE.size (w4.heap.size + 1 + 1) (by simp; omega) ?_
    intro g cap wP hown hgrow hat hltP
    simp only [Nat.zero_add, List.nil_append] at hown
    simp only [Nat.zero_add]
    have bP := bE.grown hgrow bE.size (fun k hk => (HOV.out.1.lt k hk).1)
    have HST := hid_of (strsOwn hown HOV.out.2.2 (by unfold maxLen; omega) hltP)
    have nYP := (bP.block _ (by omega)).trans HY0.out.2.1
    have nRP := (bP.block _ (by omega)).trans HY0.out.1
    have b0P := HY0.out.2.2.trans (bP.mono HY0.out.2.2.size)
    obtain ⟨y0P, g0P⟩ := box_at nYP 0 (by simp)
    obtain ⟨y1P, g1P⟩ := box_at nYP 1 (by simp)
    simp only [List.getElem_toArray, List.getElem_cons_zero, List.getElem_cons_succ] at y0P y1P
    have RP : Hid (∀ V, (wP.setCell ⟨w4.heap.size, 0, none⟩ V).heap[w.heap.size + 1]? = some (.cells #[.slice none 0 0, .int .i64 0] 48 (0, 0)) ∧ Below w.heap.size w (wP.setCell ⟨w4.heap.size, 0, none⟩ V)) := hid_of fun V => ⟨(Below.heap_setCell _ _ _ _ (by show w.heap.size + 1 ≠ w4.heap.size; omega)).trans nRP, b0P.setCell (p := ⟨w4.heap.size, 0, none⟩) (by show w.heap.size ≤ w4.heap.size; omega) V⟩
    have r0 := fun V => (box_at (RP.out V).1 0 (by simp)).1
    have f0 := fun V => (box_at (RP.out V).1 0 (by simp)).2
    have r1 := fun V => (box_at (RP.out V).1 1 (by simp)).1
    have f1 := fun V => (box_at (RP.out V).1 1 (by simp)).2
    clear nYP nRP hown hgrow hat)
  obtain ⟨hf1, hf2⟩ := fin2 (.slice (some ⟨g, 0, none⟩) way.length cap) (.int .i64 code) (RP.out (.slice (some ⟨g, 0, none⟩) way.length cap)).1 (RP.out _).2 (Nat.le_succ _)
  have cx0 := (box_at hf2 0 (by simp)).1
  have cx1 := (box_at hf2 1 (by simp)).1
  simp only [List.getElem_toArray, List.getElem_cons_zero, List.getElem_cons_succ] at cx0 cx1
  refine bodyPost_ret (v := .agg #[.slice (some ⟨g, 0, none⟩) way.length cap, .int .i64 code]) (by simp [results, Tryz.results33, go_sem, cx0, cx1]) rfl ?_
  rw [HE.out]
  refine ⟨some ⟨g, 0, none⟩, cap, ?_, ?_, hf1⟩
  · rw [← HWC.out.1, ← HWC.out.2]
  · rw [← HWC.out.1]
    have zb := HY0.out.2.2.size
    refine (HST.out.mono fun b hq => ?_).sub fun b hq => ?_
    · rw [Below.heap_setCell _ _ _ _ (by show b ≠ w.heap.size + 1; omega), Below.heap_setCell _ _ _ _ (by show b ≠ w.heap.size + 1; omega), Below.heap_setCell _ _ _ _ (by show b ≠ w4.heap.size; omega)]
    · simp only [size_set]; omega
end Go.Proofs.YtokmgbidmnanpaaGreatDoor
