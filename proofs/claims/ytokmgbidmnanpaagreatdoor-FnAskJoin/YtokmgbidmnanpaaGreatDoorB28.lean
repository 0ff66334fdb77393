import Derived.Test.YtokmgbidmnanpaaGreatDoorB26
import Derived.Test.YtokmgbidmnanpaaGreatDoorB16
import Derived.Test.YtokmgbidmnanpaaGreatDoorB8
set_option linter.unusedSimpArgs false
set_option linter.unusedVariables false
namespace Go.Proofs.YtokmgbidmnanpaaGreatDoor
open Go.RowKit
def fcT (p : Pt) : Nat → Nat
  | 0 => 0
  | k + 1 => fcT p k + (tth p.types k).fields.length + 1
def fcP (ps : List Pt) : Nat → Nat
  | 0 => 0
  | i + 1 => fcP ps i + fcT (pth ps i) (pth ps i).types.length
theorem fcT_le (p : Pt) {k j : Nat} (h : k ≤ j) : fcT p k ≤ fcT p j := by
  induction h with
  | refl => exact Nat.le_refl _
  | step _ ih => rw [fcT]; omega
theorem fcP_le (ps : List Pt) {k j : Nat} (h : k ≤ j) : fcP ps k ≤ fcP ps j := by
  induction h with
  | refl => exact Nat.le_refl _
  | step _ ih => rw [fcP]; omega
def BdH (out : List T) (M : Nat) : Prop := out.length ≤ M ∧ ∀ i, i < out.length → (tth out i).fields.length ≤ M
theorem putF_len (t : T) (f : F) : (putF t f).fields.length ≤ t.fields.length + 1 := by
  unfold putF
  split <;> simp
theorem putTo_len (o t : T) (n : Nat) : (putTo o t n).fields.length ≤ o.fields.length + n := by
  induction n with
  | zero => exact Nat.le_refl _
  | succ n ih =>
    rw [putTo]
    have := putF_len (putTo o t n) (fth t.fields n)
    omega
def baseT (ps : List Pt) (out : List T) (t : T) : List T := if 0 ≤ tyIx out t.name then out else out ++ [⟨t.name, keyM ps t.name, []⟩]
def atT (out : List T) (t : T) : Nat := if 0 ≤ tyIx out t.name then (tyIx out t.name).toNat else out.length
theorem atT_lt (ps : List Pt) (out : List T) (t : T) : atT out t < (baseT ps out t).length := by
  unfold atT baseT
  split
  · rename_i h
    have hx : tyIx out t.name = firstTo (fun i => (tth out i).name.toList == t.name.toList) out.length := rfl
    rcases firstTo_cases (fun i => (tth out i).name.toList == t.name.toList) out.length with ⟨h2, -⟩ | ⟨g, h2, hg, -, -⟩
    · rw [hx, h2] at h; omega
    · rw [hx, h2]; simpa using hg
  · simp
def midT (ps : List Pt) (out : List T) (t : T) (n : Nat) : List T := (baseT ps out t).set (atT out t) (putTo (tth (baseT ps out t) (atT out t)) t n)
theorem list_set_self (ts : List T) (k : Nat) : ts.set k (tth ts k) = ts := by
  apply List.ext_getElem?
  intro i
  by_cases e : k = i
  · subst e
    by_cases h : k < ts.length
    · rw [List.getElem?_set_self h]
      simp [tth, List.getD_eq_getElem?_getD, h]
    · rw [List.getElem?_eq_none (by simp; omega), List.getElem?_eq_none (by omega)]
  · rw [List.getElem?_set_ne e]
theorem midT_zero (ps : List Pt) (out : List T) (t : T) : midT ps out t 0 = baseT ps out t := by
  unfold midT
  rw [putTo]
  exact list_set_self _ _
theorem midT_len (ps : List Pt) (out : List T) (t : T) (n : Nat) : (midT ps out t n).length = (baseT ps out t).length := by simp [midT]
theorem midT_at (ps : List Pt) (out : List T) (t : T) (n : Nat) : tth (midT ps out t n) (atT out t) = putTo (tth (baseT ps out t) (atT out t)) t n := by
  unfold midT
  exact tth_set_eq _ _ _ (atT_lt ps out t)
theorem midT_succ (ps : List Pt) (out : List T) (t : T) (n : Nat) : midT ps out t (n + 1) = (midT ps out t n).set (atT out t) (putF (tth (midT ps out t n) (atT out t)) (fth t.fields n)) := by
  rw [midT_at]
  unfold midT
  rw [List.set_set]
  rfl
theorem midT_step (ps : List Pt) (out : List T) (t : T) : midT ps out t t.fields.length = stepT ps out t := by
  unfold midT stepT baseT atT
  by_cases h : 0 ≤ tyIx out t.name
  · simp only [if_pos h]
  · simp only [if_neg h]
    rw [tth_snoc_eq]
    simp
theorem BdH.base {ps : List Pt} {out : List T} {M : Nat} (h : BdH out M) (t : T) : BdH (baseT ps out t) (M + 1) := by
  unfold baseT
  split
  · exact ⟨Nat.le_succ_of_le h.1, fun i hi => Nat.le_succ_of_le (h.2 i hi)⟩
  · refine ⟨by simpa using h.1, fun i hi => ?_⟩
    have hi' : i < out.length + 1 := by simpa using hi
    by_cases e : i < out.length
    · rw [tth_snoc_lt _ _ _ e]; exact Nat.le_succ_of_le (h.2 i e)
    · have : i = out.length := by omega
      subst this
      rw [tth_snoc_eq]
      exact Nat.zero_le _
theorem BdH.mid {ps : List Pt} {out : List T} {M : Nat} (h : BdH out M) (t : T) (n : Nat) : BdH (midT ps out t n) (M + n + 1) := by
  have hb := h.base (ps := ps) t
  refine ⟨by rw [midT_len]; have := hb.1; omega, fun i hi => ?_⟩
  rw [midT_len] at hi
  by_cases e : i = atT out t
  · subst e
    rw [midT_at]
    have := putTo_len (tth (baseT ps out t) (atT out t)) t n
    have := hb.2 _ hi
    omega
  · unfold midT
    rw [tth_set_ne _ _ _ _ e]
    have := hb.2 _ hi
    omega
theorem BdH.types {ps : List Pt} {p : Pt} {out : List T} {M : Nat} (h : BdH out M) (k : Nat) : BdH (typesTo ps p out k) (M + fcT p k) := by
  induction k with
  | zero => exact h
  | succ k ih =>
    rw [typesTo, fcT, ← midT_step]
    have := ih.mid (ps := ps) (tth p.types k) (tth p.types k).fields.length
    rw [show M + (fcT p k + (tth p.types k).fields.length + 1) = M + fcT p k + (tth p.types k).fields.length + 1 by omega]
    exact this
theorem BdH.parts (ps : List Pt) (i : Nat) : BdH (partsTo ps i) (fcP ps i) := by
  induction i with
  | zero => exact ⟨Nat.le_refl _, fun i hi => absurd hi (Nat.not_lt_zero _)⟩
  | succ i ih => rw [partsTo, fcP]; exact ih.types _
end Go.Proofs.YtokmgbidmnanpaaGreatDoor
namespace Go.Proofs.YtokmgbidmnanpaaGreatDoor
open Go.RowKit
theorem lineB_len (f : F) : (lineB f).data.toList.length ≤ szF f + 33 := by
  have h1 := lineTo_size f f.needs.length
  have h2 : szF f = f.name.size + f.of.size + (f.needs.length + sumTo f.needs f.needs.length) := rfl
  rw [tl, lineB, ByteArray.size_append]
  have h3 : (⟨#[10]⟩ : ByteArray).size = 1 := rfl
  omega
theorem fieldsL_len (fs : List F) : ∀ n, (fieldsL fs n).length ≤ szFsTo fs n + 33 * n
  | 0 => by simp [fieldsL]
  | n + 1 => by
    have h1 := fieldsL_len fs n
    have h2 := lineB_len (fth fs n)
    rw [fieldsL, List.length_append, szFsTo_succ]
    omega
theorem keyL_len (t : T) : (keyL t).length ≤ 5 + t.key.size := by
  unfold keyL
  split
  · exact Nat.zero_le _
  · rw [List.length_append, tl]; exact Nat.le_refl _
theorem typeHeadL_len (t : T) : (typeHeadL t).length ≤ 11 + t.name.size + t.key.size := by
  have h1 := keyL_len t
  have h2 : ([116, 121, 112, 101, 32] : List UInt8).length = 5 := rfl
  have h3 : ([10] : List UInt8).length = 1 := rfl
  rw [typeHeadL, List.length_append, List.length_append, List.length_append, tl]
  omega
theorem typesL_len (ts : List T) : ∀ n, (typesL ts n).length ≤ 33 * szTsTo ts n + 11 * n
  | 0 => by simp [typesL]
  | n + 1 => by
    have h1 := typesL_len ts n
    have h2 := typeHeadL_len (tth ts n)
    have h3 := fieldsL_len (tth ts n).fields (tth ts n).fields.length
    have h4 : szT (tth ts n) = (tth ts n).name.size + (tth ts n).key.size + ((tth ts n).fields.length + szFsTo (tth ts n).fields (tth ts n).fields.length) := rfl
    rw [typesL, List.length_append, List.length_append, szTsTo_succ]
    omega
theorem partL_len (p : Pt) : (partL p).length ≤ 33 * szP p + 6 := by
  have h1 := typesL_len p.types p.types.length
  have h2 : szP p = p.name.size + (p.types.length + szTsTo p.types p.types.length) := rfl
  have h3 : ([112, 97, 114, 116, 32] : List UInt8).length = 5 := rfl
  have h4 : ([10] : List UInt8).length = 1 := rfl
  rw [partL, partHeadL, List.length_append, List.length_append, List.length_append, tl]
  omega
end Go.Proofs.YtokmgbidmnanpaaGreatDoor
namespace Go.Proofs.YtokmgbidmnanpaaGreatDoor
open Go.RowKit Go.Maps
attribute [local go_sem] Oper.semAt_some
set_option maxRecDepth 20000 in
set_option maxHeartbeats 3200000 in
theorem l6Put_old (t : T) (f : F) (fa na : Option Addr) (fc nc : Nat) (w : World) (P Q : Nat → Prop) (hT : TRep w P t (.agg #[.string t.name, .string t.key, .slice fa t.fields.length fc])) (hF : FRep w Q f (fval f na nc)) (hP : ∀ b, P b → b < w.heap.size) (hQ : ∀ b, Q b → b < w.heap.size) (hl : t.fields.length ≤ 1000000000) (hl2 : f.needs.length ≤ 1000000000) (k : Nat) (hx : fieldIx t f.name = (k : Int)) (hk : k < t.fields.length) :
    Calls Tryz.prog 154 #[.agg #[.string t.name, .string t.key, .slice fa t.fields.length fc], fval f na nc] w fun e w' => ∃ fa' fc', e = .returned (.agg #[.string t.name, .string t.key, .slice fa' (putF t f).fields.length fc']) ∧ TRep w' (fun b => P b ∨ Q b ∨ (w.heap.size ≤ b ∧ b < w'.heap.size)) (putF t f) (.agg #[.string t.name, .string t.key, .slice fa' (putF t f).fields.length fc']) ∧ Below w.heap.size w w' := by
  obtain ⟨iF, zF, hiF, hF0, hF1, hF2, hFz⟩ := infoF_parts
  obtain ⟨i9, hi9, hy0, hy1, hy2⟩ := info_parts info9
  obtain ⟨X, hXe⟩ : ∃ X, X = ((w.alloc (.cells #[.string t.name, .string t.key, .slice fa t.fields.length fc] 52)).alloc (.cells #[.string f.name, .string f.of, .bool f.list, .bool f.must, .bool f.far, .bool f.hidden, .bool f.shared, .slice na f.needs.length nc] 54)).alloc (.cells #[.string ⟨#[]⟩, .string ⟨#[]⟩, .slice none 0 0] 52) := ⟨_, rfl⟩
  have zX : X.heap.size = w.heap.size + 3 := by rw [hXe]; simp
  have bw : Below w.heap.size w X := by rw [hXe]; exact (((Below.refl _ _).alloc (Nat.le_refl _) _).alloc (by simp) _).alloc (by simp <;> omega) _
  have n0 : X.heap[w.heap.size]? = some (.cells #[.string t.name, .string t.key, .slice fa t.fields.length fc] 52 (0, 0)) := by
    rw [hXe, (below_box _ _).block _ (by simp <;> omega), (below_box _ _).block _ (by simp)]
    exact block_new _ _ rfl
  have n1 : X.heap[w.heap.size + 1]? = some (.cells #[.string f.name, .string f.of, .bool f.list, .bool f.must, .bool f.far, .bool f.hidden, .bool f.shared, .slice na f.needs.length nc] 54 (0, 0)) := by
    rw [hXe, (below_box _ _).block _ (by simp)]
    exact block_new _ _ (by simp)
  have n2 : X.heap[w.heap.size + 1 + 1]? = some (.cells #[.string ⟨#[]⟩, .string ⟨#[]⟩, .slice none 0 0] 52 (0, 0)) := by
    rw [hXe]
    exact block_new _ _ (by simp)
  have HX : Hid (∀ W, Below X.heap.size X W → (W.cell? ⟨w.heap.size, 0, none⟩ = some (.string t.name) ∧ W.cell? ⟨w.heap.size, 1, none⟩ = some (.string t.key) ∧ W.cell? ⟨w.heap.size, 2, none⟩ = some (.slice fa t.fields.length fc)) ∧ (W.cell? ⟨w.heap.size + 1, 0, none⟩ = some (.string f.name) ∧ W.cell? ⟨w.heap.size + 1, 1, none⟩ = some (.string f.of) ∧ W.cell? ⟨w.heap.size + 1, 2, none⟩ = some (.bool f.list) ∧ W.cell? ⟨w.heap.size + 1, 3, none⟩ = some (.bool f.must) ∧ W.cell? ⟨w.heap.size + 1, 4, none⟩ = some (.bool f.far) ∧ W.cell? ⟨w.heap.size + 1, 5, none⟩ = some (.bool f.hidden) ∧ W.cell? ⟨w.heap.size + 1, 6, none⟩ = some (.bool f.shared) ∧ W.cell? ⟨w.heap.size + 1, 7, none⟩ = some (.slice na f.needs.length nc)) ∧ W.heap[w.heap.size]? = some (.cells #[.string t.name, .string t.key, .slice fa t.fields.length fc] 52 (0, 0)) ∧ W.heap[w.heap.size + 1 + 1]? = some (.cells #[.string ⟨#[]⟩, .string ⟨#[]⟩, .slice none 0 0] 52 (0, 0)) ∧ Below w.heap.size w W) := hid_of fun W hW => by
    have h0 := (hW.block _ (by omega)).trans n0
    have h1 := (hW.block _ (by omega)).trans n1
    exact ⟨⟨(box_at h0 0 (by simp)).1, (box_at h0 1 (by simp)).1, (box_at h0 2 (by simp)).1⟩, ⟨(box_at h1 0 (by simp)).1, (box_at h1 1 (by simp)).1, (box_at h1 2 (by simp)).1, (box_at h1 3 (by simp)).1, (box_at h1 4 (by simp)).1, (box_at h1 5 (by simp)).1, (box_at h1 6 (by simp)).1, (box_at h1 7 (by simp)).1⟩, h0, (hW.block _ (by omega)).trans n2, bw.trans (hW.mono (by omega))⟩
  have hT' := hT
  obtain ⟨fa', fc', e, hFs, -⟩ := hT
  simp only [Value.agg.injEq, Array.mk.injEq, List.cons.injEq, Value.slice.injEq, true_and, and_true] at e
  obtain ⟨rfl, rfl⟩ := e
  obtain ⟨h64, Cf, hAr, hCr⟩ := hFs
  have HLF : Hid (∀ W, Below X.heap.size X W → LiesAt W fa t.fields.length (flat8 Cf t.fields.length)) := hid_of fun W hW => flat8_lies (hAr.mono fun b hb => (HX.out W hW).2.2.2.2.block b (hP b hb))
  have HOF : Hid (∀ u ∈ flat8 Cf t.fields.length, u.oneCell' = true) := hid_of (flat8_one hCr)
  have HNS : Hid (Strs w Q f.needs na) := hid_of (by
    obtain ⟨na', nc', e, h1, -⟩ := hF
    unfold fval at e
    simp only [Value.agg.injEq, Array.mk.injEq, List.cons.injEq, Value.slice.injEq, true_and, and_true] at e
    obtain ⟨rfl, rfl⟩ := e
    exact h1)
  have HLN : Hid (∀ W, Below X.heap.size X W → LiesAt W na f.needs.length (f.needs.map Value.string)) := hid_of fun W hW => strs_lies (HNS.out.mono fun b hb => (HX.out W hW).2.2.2.2.block b (hQ b hb))
  have HFI := hid_of (fun W (hW : Below X.heap.size X W) => l2Field_any t W w.heap.size _ f.name ((hT'.mono fun b hb => (HX.out W hW).2.2.2.2.block b (hP b hb)).sub fun b hb => hP b hb) (HX.out W hW).2.2.2.2.size)
  have HFX : Hid (fieldIx t f.name = firstTo (fun i => (fth t.fields i).name.toList == f.name.toList) t.fields.length) := hid_of rfl
  rw [← HFX.out, hx] at HFI
  have HCR := hid_of (And.intro hAr hCr)
  have HT' := hid_of hT'
  have HF' := hid_of hF
  obtain ⟨⟨x0, x1, x2⟩, ⟨y0, -⟩, -⟩ := HX.out X (Below.refl _ _)
  rw [hXe] at x0 x1 x2 y0
  unfold fval
  go_enter Tryz.func154, Tryz.ntmps154
  clear hAr hCr hT' hF n0 n1 n2 HFX
  go_wp2_with fail
  clear x0 x1 x2 y0
  rw [← hXe]
  clear hXe
  refine (HFI.out X (Below.refl _ _)).mono ?_
  rintro e w1 ⟨rfl, hb1⟩
  have zw1 := hb1.size
  have nA := block_new (w := w1) (N := w1.heap.size) #[] 54 rfl
  have bA := hb1.trans ((below_box w1 (.cells #[] 54)).mono hb1.size)
  have c2 := (HX.out _ bA).1.2.2
  go_wp2_with (
    at_builtin
    refine wpList_append_all rfl _ _ 50 rfl X.heap.size 54 iF zF 8 64 Tryz.underlying50 hiF hF0 hF1 hF2 hFz (by decide) w1.heap.size 0 0 [] rfl ⟨rfl, Or.inr ⟨_, 0, _, rfl, hb1.size, nA, Nat.le_refl _, by unfold maxLen; omega, rfl, rfl⟩⟩ fa t.fields.length fc (flat8 Cf t.fields.length) rfl (flat8_len _ _) (HLF.out _ bA) HOF.out (by unfold maxLen; omega) (by omega) bA.size ?_
    intro gB capB wB oB hgrB hatB
    refine Hid.out ?_)
  refine hid_of ?_
  have bB := bA.grown hgrB bA.size (fun k hk => by cases hk; exact hb1.size)
  simp only [Nat.zero_add, List.nil_append] at oB ⊢
  have qB := (oB.lt gB rfl).1
  clear c2 nA bA hgrB hatB
  have hcf : t.fields.length ≤ capB := by obtain ⟨-, h | ⟨_, _, _, h, -, -, h2, -⟩⟩ := oB <;> simp_all
  cases hh : f.hidden
  · have y5 := (HX.out _ bB).2.1.2.2.2.2.2.1
    rw [hh] at y5
    have bH := bB
    have oH := oB
    rcases Nat.eq_zero_or_pos f.needs.length with hn | hn
    · have y7 := (HX.out _ bH).2.1.2.2.2.2.2.2.2
      rw [hn] at y7
      have bX := bH
      have oX : (wB).ownsRow X.heap.size 54 8 (.slice (some ⟨gB, 0, none⟩) t.fields.length capB) t.fields.length (cellsN none k (cellsH f.hidden k (flat8 Cf t.fields.length))) := by rw [hh]; exact oH
      clear oB oH
      have c2 := (HX.out _ bX).1.2.2
      have z2 := (box_at (HX.out _ bX).2.2.1 2 (by simp)).2
      have hn0 : ((wB).setCell ⟨w.heap.size, 2, none⟩ (.slice (some ⟨gB, 0, none⟩) t.fields.length capB)).heap[w.heap.size]? = some (.cells #[.string t.name, .string t.key, (.slice (some ⟨gB, 0, none⟩) t.fields.length capB)] 52 (0, 0)) := set_box (HX.out _ bX).2.2.1 2 _
      have hkS : ∀ b, b ≠ w.heap.size → ((wB).setCell ⟨w.heap.size, 2, none⟩ (.slice (some ⟨gB, 0, none⟩) t.fields.length capB)).heap[b]? = (wB).heap[b]? := fun b hb => Below.heap_setCell _ _ _ _ hb
      have hn2 := (hkS (w.heap.size + 1 + 1) (by omega)).trans (HX.out _ bX).2.2.2.1
      have bS : Below w.heap.size w ((wB).setCell ⟨w.heap.size, 2, none⟩ (.slice (some ⟨gB, 0, none⟩) t.fields.length capB)) := (HX.out _ bX).2.2.2.2.setCell (Nat.le_refl _) _
      have oS := owns_at oX fun j hj => by cases hj; exact hkS gB (by omega)
      have ho := True.intro
      have HO := hid_of (And.intro oS ho)
      have HBS := hid_of bS
      obtain ⟨a0, -⟩ := box_at hn0 0 (by simp)
      obtain ⟨a1, -⟩ := box_at hn0 1 (by simp)
      obtain ⟨a2, -⟩ := box_at hn0 2 (by simp)
      obtain ⟨r0, s0⟩ := box_at hn2 0 (by simp)
      obtain ⟨r1, s1⟩ := box_at hn2 1 (by simp)
      obtain ⟨r2, s2⟩ := box_at hn2 2 (by simp)
      clear oX oS ho hkS bS bX
      go_wp2_with fail
      obtain ⟨d0, d1, d2⟩ := sets3_cells hn2 rfl (.string t.name) (.string t.key) (.slice (some ⟨gB, 0, none⟩) t.fields.length capB)
      refine bodyPost_ret (typeResult _ _ (w.heap.size + 1 + 1) _ _ _ rfl d0 d1 d2) rfl ?_
      exact putEnd2 HT'.out HF'.out hP hl hl2 hx hk HCR.out.2 (by omega) (by omega) (by omega) HO.out.1 (Or.inl ⟨hn, rfl⟩) hcf HBS.out _ _ _ _ rfl
    · have y7 := (HX.out _ bH).2.1.2.2.2.2.2.2.2
      have bC := bH.trans ((below_box (wB) (.cells #[] 9)).mono bH.size)
      have y7' := (HX.out _ bC).2.1.2.2.2.2.2.2.2
      have nC := block_new (w := wB) (N := wB.heap.size) #[] 9 (by simp)
      have zC := bB.size
      have lB := (oH.lt gB rfl).2
      go_wp2_with (
        at_builtin
        refine wpList_append_all rfl _ _ 29 rfl X.heap.size 9 i9 (.string ByteArray.empty) 1 16 Tryz.underlying29 hi9 hy0 hy1 hy2 rfl (by decide) wB.heap.size 0 0 [] rfl ⟨rfl, Or.inr ⟨_, 0, _, rfl, zC, nC, Nat.le_refl _, by unfold maxLen; omega, rfl, rfl⟩⟩ na f.needs.length nc (f.needs.map Value.string) rfl (by simp) (HLN.out _ bC) (strs_one _) (by unfold maxLen; omega) (by omega) bC.size ?_
        intro gD capD wD2 oD hgrD hatD
        refine Hid.out ?_)
      refine hid_of ?_
      have hkD : ∀ b, b < (wB).heap.size → wD2.heap[b]? = (wB).heap[b]? := fun b hb => (hgrD.block b (by simp at hb ⊢; omega) (fun e => by simp at hb e; omega)).trans ((below_box (wB) (.cells #[] 9)).block b hb)
      have bD := bC.grown hgrD bC.size (fun k hk => by cases hk; exact zC)
      have hDB : gD ≠ gB := by simp at lB hatD; omega
      simp only [Nat.zero_add, List.nil_append] at oD ⊢
      have oE : wD2.ownsRow X.heap.size 54 8 (.slice (some ⟨gB, 0, none⟩) t.fields.length capB) t.fields.length (cellsN none k (cellsH f.hidden k (flat8 Cf t.fields.length))) := by rw [hh]; exact owns_at oH fun j hj => by cases hj; exact hkD gB lB
      have z7 := oE.frozenAt (k * 8 + 7)
      have x7 := (oE.cellAt (k * 8 + 7) (by omega)).trans (cells_at f.hidden none k t.fields.length Cf k 7 hk (by omega))
      have oX : (wD2.setCell ⟨gB, k * 8 + 7, none⟩ (.slice (some ⟨gD, 0, none⟩) f.needs.length capD)).ownsRow X.heap.size 54 8 (.slice (some ⟨gB, 0, none⟩) t.fields.length capB) t.fields.length (cellsN (some (.slice (some ⟨gD, 0, none⟩) f.needs.length capD)) k (cellsH f.hidden k (flat8 Cf t.fields.length))) := (oE.stored (k * 8 + 7) (.slice (some ⟨gD, 0, none⟩) f.needs.length capD)).1
      have bX := bD.setCell (show X.heap.size ≤ (⟨gB, k * 8 + 7, none⟩ : Addr).block from qB) (.slice (some ⟨gD, 0, none⟩) f.needs.length capD)
      have oD2 := owns_at (w' := wD2.setCell ⟨gB, k * 8 + 7, none⟩ (.slice (some ⟨gD, 0, none⟩) f.needs.length capD)) oD fun j hj => by cases hj; exact Below.heap_setCell _ _ _ _ hDB
      have hcd : f.needs.length ≤ capD := by obtain ⟨-, h | ⟨_, _, _, h, -, -, h2, -⟩⟩ := oD <;> simp_all
      have qD := (oD.lt gD rfl).1
      clear nC y7 y7' hgrD hatD hkD oB oH oE bC bD bH oD
      have c2 := (HX.out _ bX).1.2.2
      have z2 := (box_at (HX.out _ bX).2.2.1 2 (by simp)).2
      have hn0 : ((wD2.setCell ⟨gB, k * 8 + 7, none⟩ (.slice (some ⟨gD, 0, none⟩) f.needs.length capD)).setCell ⟨w.heap.size, 2, none⟩ (.slice (some ⟨gB, 0, none⟩) t.fields.length capB)).heap[w.heap.size]? = some (.cells #[.string t.name, .string t.key, (.slice (some ⟨gB, 0, none⟩) t.fields.length capB)] 52 (0, 0)) := set_box (HX.out _ bX).2.2.1 2 _
      have hkS : ∀ b, b ≠ w.heap.size → ((wD2.setCell ⟨gB, k * 8 + 7, none⟩ (.slice (some ⟨gD, 0, none⟩) f.needs.length capD)).setCell ⟨w.heap.size, 2, none⟩ (.slice (some ⟨gB, 0, none⟩) t.fields.length capB)).heap[b]? = (wD2.setCell ⟨gB, k * 8 + 7, none⟩ (.slice (some ⟨gD, 0, none⟩) f.needs.length capD)).heap[b]? := fun b hb => Below.heap_setCell _ _ _ _ hb
      have hn2 := (hkS (w.heap.size + 1 + 1) (by omega)).trans (HX.out _ bX).2.2.2.1
      have bS : Below w.heap.size w ((wD2.setCell ⟨gB, k * 8 + 7, none⟩ (.slice (some ⟨gD, 0, none⟩) f.needs.length capD)).setCell ⟨w.heap.size, 2, none⟩ (.slice (some ⟨gB, 0, none⟩) t.fields.length capB)) := (HX.out _ bX).2.2.2.2.setCell (Nat.le_refl _) _
      have oS := owns_at oX fun j hj => by cases hj; exact hkS gB (by omega)
      have ho := And.intro hcd (owns_at oD2 fun j hj => by cases hj; exact hkS gD (by omega))
      clear oD2
      have HO := hid_of (And.intro oS ho)
      have HBS := hid_of bS
      obtain ⟨a0, -⟩ := box_at hn0 0 (by simp)
      obtain ⟨a1, -⟩ := box_at hn0 1 (by simp)
      obtain ⟨a2, -⟩ := box_at hn0 2 (by simp)
      obtain ⟨r0, s0⟩ := box_at hn2 0 (by simp)
      obtain ⟨r1, s1⟩ := box_at hn2 1 (by simp)
      obtain ⟨r2, s2⟩ := box_at hn2 2 (by simp)
      clear oX oS ho hkS bS bX
      go_wp2_with fail
      obtain ⟨d0, d1, d2⟩ := sets3_cells hn2 rfl (.string t.name) (.string t.key) (.slice (some ⟨gB, 0, none⟩) t.fields.length capB)
      refine bodyPost_ret (typeResult _ _ (w.heap.size + 1 + 1) _ _ _ rfl d0 d1 d2) rfl ?_
      exact putEnd2 HT'.out HF'.out hP hl hl2 hx hk HCR.out.2 (by omega) (by omega) (by omega) HO.out.1 (Or.inr ⟨by omega, gD, capD, rfl, HO.out.2.1, HO.out.2.2⟩) hcf HBS.out _ _ _ _ rfl
  · have y5 := (HX.out _ bB).2.1.2.2.2.2.2.1
    rw [hh] at y5
    have z5 := oB.frozenAt (k * 8 + 5)
    have x5 := oB.cellAt (k * 8 + 5) (by omega)
    rw [flat8_at _ _ _ _ hk (by omega)] at x5
    have bH := bB.setCell (show X.heap.size ≤ (⟨gB, k * 8 + 5, none⟩ : Addr).block from qB) (.bool true)
    have oH := (oB.stored (k * 8 + 5) (.bool true)).1
    rcases Nat.eq_zero_or_pos f.needs.length with hn | hn
    · have y7 := (HX.out _ bH).2.1.2.2.2.2.2.2.2
      rw [hn] at y7
      have bX := bH
      have oX : (wB.setCell ⟨gB, k * 8 + 5, none⟩ (.bool true)).ownsRow X.heap.size 54 8 (.slice (some ⟨gB, 0, none⟩) t.fields.length capB) t.fields.length (cellsN none k (cellsH f.hidden k (flat8 Cf t.fields.length))) := by rw [hh]; exact oH
      clear oB oH
      have c2 := (HX.out _ bX).1.2.2
      have z2 := (box_at (HX.out _ bX).2.2.1 2 (by simp)).2
      have hn0 : ((wB.setCell ⟨gB, k * 8 + 5, none⟩ (.bool true)).setCell ⟨w.heap.size, 2, none⟩ (.slice (some ⟨gB, 0, none⟩) t.fields.length capB)).heap[w.heap.size]? = some (.cells #[.string t.name, .string t.key, (.slice (some ⟨gB, 0, none⟩) t.fields.length capB)] 52 (0, 0)) := set_box (HX.out _ bX).2.2.1 2 _
      have hkS : ∀ b, b ≠ w.heap.size → ((wB.setCell ⟨gB, k * 8 + 5, none⟩ (.bool true)).setCell ⟨w.heap.size, 2, none⟩ (.slice (some ⟨gB, 0, none⟩) t.fields.length capB)).heap[b]? = (wB.setCell ⟨gB, k * 8 + 5, none⟩ (.bool true)).heap[b]? := fun b hb => Below.heap_setCell _ _ _ _ hb
      have hn2 := (hkS (w.heap.size + 1 + 1) (by omega)).trans (HX.out _ bX).2.2.2.1
      have bS : Below w.heap.size w ((wB.setCell ⟨gB, k * 8 + 5, none⟩ (.bool true)).setCell ⟨w.heap.size, 2, none⟩ (.slice (some ⟨gB, 0, none⟩) t.fields.length capB)) := (HX.out _ bX).2.2.2.2.setCell (Nat.le_refl _) _
      have oS := owns_at oX fun j hj => by cases hj; exact hkS gB (by omega)
      have ho := True.intro
      have HO := hid_of (And.intro oS ho)
      have HBS := hid_of bS
      obtain ⟨a0, -⟩ := box_at hn0 0 (by simp)
      obtain ⟨a1, -⟩ := box_at hn0 1 (by simp)
      obtain ⟨a2, -⟩ := box_at hn0 2 (by simp)
      obtain ⟨r0, s0⟩ := box_at hn2 0 (by simp)
      obtain ⟨r1, s1⟩ := box_at hn2 1 (by simp)
      obtain ⟨r2, s2⟩ := box_at hn2 2 (by simp)
      clear oX oS ho hkS bS bX
      go_wp2_with fail
      obtain ⟨d0, d1, d2⟩ := sets3_cells hn2 rfl (.string t.name) (.string t.key) (.slice (some ⟨gB, 0, none⟩) t.fields.length capB)
      refine bodyPost_ret (typeResult _ _ (w.heap.size + 1 + 1) _ _ _ rfl d0 d1 d2) rfl ?_
      exact putEnd2 HT'.out HF'.out hP hl hl2 hx hk HCR.out.2 (by omega) (by omega) (by omega) HO.out.1 (Or.inl ⟨hn, rfl⟩) hcf HBS.out _ _ _ _ rfl
    · have y7 := (HX.out _ bH).2.1.2.2.2.2.2.2.2
      have bC := bH.trans ((below_box (wB.setCell ⟨gB, k * 8 + 5, none⟩ (.bool true)) (.cells #[] 9)).mono bH.size)
      have y7' := (HX.out _ bC).2.1.2.2.2.2.2.2.2
      have nC := block_new (w := wB.setCell ⟨gB, k * 8 + 5, none⟩ (.bool true)) (N := wB.heap.size) #[] 9 (by simp)
      have zC := bB.size
      have lB := (oH.lt gB rfl).2
      go_wp2_with (
        at_builtin
        refine wpList_append_all rfl _ _ 29 rfl X.heap.size 9 i9 (.string ByteArray.empty) 1 16 Tryz.underlying29 hi9 hy0 hy1 hy2 rfl (by decide) wB.heap.size 0 0 [] rfl ⟨rfl, Or.inr ⟨_, 0, _, rfl, zC, nC, Nat.le_refl _, by unfold maxLen; omega, rfl, rfl⟩⟩ na f.needs.length nc (f.needs.map Value.string) rfl (by simp) (HLN.out _ bC) (strs_one _) (by unfold maxLen; omega) (by omega) bC.size ?_
        intro gD capD wD2 oD hgrD hatD
        refine Hid.out ?_)
      refine hid_of ?_
      have hkD : ∀ b, b < (wB.setCell ⟨gB, k * 8 + 5, none⟩ (.bool true)).heap.size → wD2.heap[b]? = (wB.setCell ⟨gB, k * 8 + 5, none⟩ (.bool true)).heap[b]? := fun b hb => (hgrD.block b (by simp at hb ⊢; omega) (fun e => by simp at hb e; omega)).trans ((below_box (wB.setCell ⟨gB, k * 8 + 5, none⟩ (.bool true)) (.cells #[] 9)).block b hb)
      have bD := bC.grown hgrD bC.size (fun k hk => by cases hk; exact zC)
      have hDB : gD ≠ gB := by simp at lB hatD; omega
      simp only [Nat.zero_add, List.nil_append] at oD ⊢
      have oE : wD2.ownsRow X.heap.size 54 8 (.slice (some ⟨gB, 0, none⟩) t.fields.length capB) t.fields.length (cellsN none k (cellsH f.hidden k (flat8 Cf t.fields.length))) := by rw [hh]; exact owns_at oH fun j hj => by cases hj; exact hkD gB lB
      have z7 := oE.frozenAt (k * 8 + 7)
      have x7 := (oE.cellAt (k * 8 + 7) (by omega)).trans (cells_at f.hidden none k t.fields.length Cf k 7 hk (by omega))
      have oX : (wD2.setCell ⟨gB, k * 8 + 7, none⟩ (.slice (some ⟨gD, 0, none⟩) f.needs.length capD)).ownsRow X.heap.size 54 8 (.slice (some ⟨gB, 0, none⟩) t.fields.length capB) t.fields.length (cellsN (some (.slice (some ⟨gD, 0, none⟩) f.needs.length capD)) k (cellsH f.hidden k (flat8 Cf t.fields.length))) := (oE.stored (k * 8 + 7) (.slice (some ⟨gD, 0, none⟩) f.needs.length capD)).1
      have bX := bD.setCell (show X.heap.size ≤ (⟨gB, k * 8 + 7, none⟩ : Addr).block from qB) (.slice (some ⟨gD, 0, none⟩) f.needs.length capD)
      have oD2 := owns_at (w' := wD2.setCell ⟨gB, k * 8 + 7, none⟩ (.slice (some ⟨gD, 0, none⟩) f.needs.length capD)) oD fun j hj => by cases hj; exact Below.heap_setCell _ _ _ _ hDB
      have hcd : f.needs.length ≤ capD := by obtain ⟨-, h | ⟨_, _, _, h, -, -, h2, -⟩⟩ := oD <;> simp_all
      have qD := (oD.lt gD rfl).1
      clear nC y7 y7' hgrD hatD hkD oB oH oE bC bD bH oD
      have c2 := (HX.out _ bX).1.2.2
      have z2 := (box_at (HX.out _ bX).2.2.1 2 (by simp)).2
      have hn0 : ((wD2.setCell ⟨gB, k * 8 + 7, none⟩ (.slice (some ⟨gD, 0, none⟩) f.needs.length capD)).setCell ⟨w.heap.size, 2, none⟩ (.slice (some ⟨gB, 0, none⟩) t.fields.length capB)).heap[w.heap.size]? = some (.cells #[.string t.name, .string t.key, (.slice (some ⟨gB, 0, none⟩) t.fields.length capB)] 52 (0, 0)) := set_box (HX.out _ bX).2.2.1 2 _
      have hkS : ∀ b, b ≠ w.heap.size → ((wD2.setCell ⟨gB, k * 8 + 7, none⟩ (.slice (some ⟨gD, 0, none⟩) f.needs.length capD)).setCell ⟨w.heap.size, 2, none⟩ (.slice (some ⟨gB, 0, none⟩) t.fields.length capB)).heap[b]? = (wD2.setCell ⟨gB, k * 8 + 7, none⟩ (.slice (some ⟨gD, 0, none⟩) f.needs.length capD)).heap[b]? := fun b hb => Below.heap_setCell _ _ _ _ hb
      have hn2 := (hkS (w.heap.size + 1 + 1) (by omega)).trans (HX.out _ bX).2.2.2.1
      have bS : Below w.heap.size w ((wD2.setCell ⟨gB, k * 8 + 7, none⟩ (.slice (some ⟨gD, 0, none⟩) f.needs.length capD)).setCell ⟨w.heap.size, 2, none⟩ (.slice (some ⟨gB, 0, none⟩) t.fields.length capB)) := (HX.out _ bX).2.2.2.2.setCell (Nat.le_refl _) _
      have oS := owns_at oX fun j hj => by cases hj; exact hkS gB (by omega)
      have ho := And.intro hcd (owns_at oD2 fun j hj => by cases hj; exact hkS gD (by omega))
      clear oD2
      have HO := hid_of (And.intro oS ho)
      have HBS := hid_of bS
      obtain ⟨a0, -⟩ := box_at hn0 0 (by simp)
      obtain ⟨a1, -⟩ := box_at hn0 1 (by simp)
      obtain ⟨a2, -⟩ := box_at hn0 2 (by simp)
      obtain ⟨r0, s0⟩ := box_at hn2 0 (by simp)
      obtain ⟨r1, s1⟩ := box_at hn2 1 (by simp)
      obtain ⟨r2, s2⟩ := box_at hn2 2 (by simp)
      clear oX oS ho hkS bS bX
      go_wp2_with fail
      obtain ⟨d0, d1, d2⟩ := sets3_cells hn2 rfl (.string t.name) (.string t.key) (.slice (some ⟨gB, 0, none⟩) t.fields.length capB)
      refine bodyPost_ret (typeResult _ _ (w.heap.size + 1 + 1) _ _ _ rfl d0 d1 d2) rfl ?_
      exact putEnd2 HT'.out HF'.out hP hl hl2 hx hk HCR.out.2 (by omega) (by omega) (by omega) HO.out.1 (Or.inr ⟨by omega, gD, capD, rfl, HO.out.2.1, HO.out.2.2⟩) hcf HBS.out _ _ _ _ rfl
end Go.Proofs.YtokmgbidmnanpaaGreatDoor
namespace Go.Proofs.YtokmgbidmnanpaaGreatDoor
open Go.RowKit Go.Shelf Go.Maps
def pkN : Nat → Nat
  | 0 => 0
  | d + 1 => 1 + 3 * (8 + pkN d)
def Tr (m : Nat) : Nat → List Se → Prop
  | 0, ks => ks = []
  | d + 1, ks => ks.length ≤ m ∧ ∀ s ∈ ks, s.al.size ≤ 1048576 ∧ s.name.size ≤ 1048576 ∧ Tr m d s.kids
def trN (m : Nat) : Nat → Nat
  | 0 => 0
  | d + 1 => m * (1 + trN m d)
theorem Tr.nil (m d : Nat) : Tr m d [] := by cases d with | zero => rfl | succ d => exact ⟨Nat.zero_le _, fun s hs => by cases hs⟩
theorem Tr.fit {m : Nat} : ∀ {d : Nat} {ks : List Se}, Tr m d ks → FitS d ks
  | 0, _, h => h
  | _ + 1, _, h => fun i hi => (h.2 _ (sth_mem hi)).2.2.fit
theorem Tr.up {m m' : Nat} (hm : m ≤ m') : ∀ {d d' : Nat} {ks : List Se}, d ≤ d' → Tr m d ks → Tr m' d' ks
  | 0, d', ks, _, h => by have e : ks = [] := h; subst e; exact Tr.nil m' d'
  | d + 1, 0, _, hd, _ => absurd hd (by omega)
  | d + 1, d' + 1, _, hd, h => ⟨Nat.le_trans h.1 hm, fun s hs => ⟨(h.2 s hs).1, (h.2 s hs).2.1, Tr.up hm (by omega) (h.2 s hs).2.2⟩⟩
theorem cntSe_le (f : Nat) (s : Se) (N : Nat) (h : ∀ f, cntTo f s.kids s.kids.length ≤ N) : cntSe f s ≤ 1 + N := by
  cases f with
  | zero => simp [cntSe]
  | succ f => rw [cntSe_kids]; have := h f; omega
theorem cntTo_le (f : Nat) (ks : List Se) (N : Nat) (h : ∀ s ∈ ks, ∀ f, cntTo f s.kids s.kids.length ≤ N) : ∀ n, n ≤ ks.length → cntTo f ks n ≤ n * (1 + N)
  | 0, _ => by simp [cntTo]
  | n + 1, hn => by
    have ih := cntTo_le f ks N h n (by omega)
    have h1 := cntSe_le f (sth ks n) N (h _ (sth_mem (by omega)))
    rw [cntTo_succ, Nat.succ_mul]
    omega
theorem Tr.cnt {m : Nat} : ∀ {d : Nat} {ks : List Se}, Tr m d ks → ∀ f, cntTo f ks ks.length ≤ trN m d
  | 0, ks, h, f => by have e : ks = [] := h; subst e; simp [cntTo]
  | d + 1, ks, h, f => by
    have h1 := cntTo_le f ks (trN m d) (fun s hs => (h.2 s hs).2.2.cnt) ks.length (Nat.le_refl _)
    have h2 : ks.length * (1 + trN m d) ≤ m * (1 + trN m d) := Nat.mul_le_mul_right _ h.1
    rw [trN]
    omega
theorem Tr.small {m : Nat} : ∀ {d : Nat} {ks : List Se}, Tr m d ks → ∀ f, SmallS f ks
  | 0, ks, h, f => by have e : ks = [] := h; subst e; cases f with | zero => trivial | succ f => intro i hi; simp at hi
  | d + 1, ks, h, f => by
    cases f with
    | zero => trivial
    | succ f => intro i hi; exact ⟨(h.2 _ (sth_mem hi)).1, (h.2 _ (sth_mem hi)).2.1, (h.2 _ (sth_mem hi)).2.2.small f⟩
def SelE (d : Nat) (s : Se) : Prop := s.al.size ≤ 1048576 ∧ s.name.size ≤ 1048576 ∧ Tr 3 d s.kids
def SelOk (d : Nat) (ks : List Se) : Prop := Tr 3 d ks
theorem SelOk.nil (d : Nat) : SelOk d [] := Tr.nil 3 d
theorem SelOk.of {d : Nat} {ks : List Se} (hl : ks.length ≤ 3) (h : ∀ s ∈ ks, SelE d s) : SelOk (d + 1) ks := ⟨hl, h⟩
theorem RowP.repsA {base : Nat} {es : List El} {v : Value} {w : World} (h : RowP SeReps base es v w) (hl : es.length ≤ 1000000) (hs : ∀ e ∈ es, e.s.al.size ≤ maxLen ∧ e.s.name.size ≤ maxLen) (hq : ∀ e ∈ es, ∀ b, e.Q b → base ≤ b ∧ Apart w b) (hv : ∃ g cap, v = .slice (some ⟨g, 0, none⟩) es.length cap) :
    ∃ a c, v = .slice a es.length c ∧ SeReps w (fun b => base ≤ b ∧ b < w.heap.size ∧ Apart w b) (es.map El.s) a := by
  obtain ⟨g, cap, rfl⟩ := hv
  have hg := h.row.lt g rfl
  have hap : Apart w g := by
    rcases h.row.2 with ⟨e, -⟩ | ⟨g', cap', cur, e, -, hh, -⟩
    · cases e
    · cases e; exact ⟨⟨_, _, _, hh⟩, fun a ha => by simp [World.frozen?, ha, hh]⟩
  have h2 := h.reps (fun _ _ _ _ h => h) hl hs (fun b => (base ≤ b ∧ b < w.heap.size)) (fun b hb => hb) (fun e he b hb => ⟨(hq e he b hb).1, ((h.kid e he).2 b hb).1⟩)
  obtain ⟨a, c, e, hR⟩ := h2
  cases e
  refine ⟨_, _, rfl, hR.1, fun i j => ((es.flatMap El.cells)[i * 5 + j]?).getD (.bool false), fun hn => ⟨g, 0, rfl, ⟨hg.1, hg.2, hap⟩, fun i hi j hj => ?_⟩, fun i hi => ?_⟩
  · have hi' : i < es.length := by simpa using hi
    rw [Nat.zero_add, h.row.cellAt (i * 5 + j) (by omega)]
    have hlt : i * 5 + j < (es.flatMap El.cells).length := by rw [h.row.1]; omega
    show _ = some ((es.flatMap El.cells)[i * 5 + j]?.getD (.bool false))
    rw [List.getElem?_eq_getElem hlt]; rfl
  · have hi' : i < es.length := by simpa using hi
    have hm := List.getElem_mem hi'
    have c0 := flat5 es i 0 hi' (by omega)
    have c1 := flat5 es i 1 hi' (by omega)
    have c2 := flat5 es i 2 hi' (by omega)
    have c3 := flat5 es i 3 hi' (by omega)
    have c4 := flat5 es i 4 hi' (by omega)
    simp only
    rw [c0, c1, c2, c3, c4]
    have es1 : sth (es.map El.s) i = es[i].s := by simp [sth, List.getD_eq_getElem?_getD, hi']
    rw [es1]
    have hk := ((h.kid _ hm).1).sub (Q := fun b => base ≤ b ∧ b < w.heap.size ∧ Apart w b) fun b hb => ⟨(hq _ hm b hb).1, ((h.kid _ hm).2 b hb).1, (hq _ hm b hb).2⟩
    have hz := hs _ hm
    generalize es[i] = x at *
    simp only [El.cells, List.getElem?_cons_zero, List.getElem?_cons_succ, Option.getD_some]
    obtain ⟨⟨x1, x2, x3, x4, x5⟩, x6, x7, x8⟩ := x
    exact SeRep.of_kids hz.1 hz.2 hk
structure SSt (w : World) (rb cb d : Nat) (K : Nat → Prop) (w3 : World) (q : Nat) (es : List El) (o : Value) (wr : World) : Prop where
  rd : RdOk wr rb cb q
  row : RowP SeReps w.heap.size es o wr
  own : ∀ e ∈ es, (∀ b, e.Q b → w.heap.size ≤ b ∧ Apart wr b) ∧ SelE d e.s
  only : Only (· = rb) w wr
  kept : ∀ b, K b → wr.heap[b]? = w3.heap[b]? ∧ o.ownBlock ≠ some b ∧ b < wr.heap.size ∧ w.heap.size ≤ b
  form : ∃ g cap, o = .slice (some ⟨g, 0, none⟩) es.length cap
  rlt : rb < w.heap.size
  clt : cb < w.heap.size
theorem SSt.move {w : World} {rb cb d : Nat} {K : Nat → Prop} {w3 : World} {q q' : Nat} {es : List El} {o : Value} {wr W : World} (h : SSt w rb cb d K w3 q es o wr) (hr : RdOk W rb cb q') (ho : Only (· = rb) wr W) : SSt w rb cb d K w3 q' es o W := by
  have hlt := h.rlt
  have hk : ∀ b, w.heap.size ≤ b → b < wr.heap.size → W.heap[b]? = wr.heap[b]? := fun b h1 h2 => ho.block b h2 (by omega)
  refine ⟨hr, ⟨?_, fun e he => ?_⟩, fun e he => ⟨fun b hb => ⟨((h.own e he).1 b hb).1, ((h.own e he).1 b hb).2.of_block (hk b ((h.own e he).1 b hb).1 ((h.row.kid e he).2 b hb).1)⟩, (h.own e he).2⟩, h.only.trans ho fun _ _ q => q, fun b hb => ?_, h.form, h.rlt, h.clt⟩
  · exact owns_at h.row.row fun b hb => hk b (h.row.row.lt b hb).1 (h.row.row.lt b hb).2
  · obtain ⟨h1, h2⟩ := h.row.kid e he
    refine ⟨h1.mono fun b hb => hk b ((h.own e he).1 b hb).1 (h2 b hb).1, fun b hb => ⟨Nat.lt_of_lt_of_le (h2 b hb).1 ho.size, (h2 b hb).2⟩⟩
  · obtain ⟨h1, h2, h3, h4⟩ := h.kept b hb
    exact ⟨(hk b h4 h3).trans h1, h2, Nat.lt_of_lt_of_le h3 ho.size, h4⟩
theorem SSt.below {w : World} {rb cb d : Nat} {K : Nat → Prop} {w3 : World} {q : Nat} {es : List El} {o : Value} {wr W : World} (h : SSt w rb cb d K w3 q es o wr) (hb : Below wr.heap.size wr W) : SSt w rb cb d K w3 q es o W :=
  h.move (h.rd.only (Only.of_below (fun _ => False) hb) id id) (Only.of_below _ hb)
theorem SSt.push {w : World} {rb cb d : Nat} {K : Nat → Prop} {w3 : World} {q : Nat} {es : List El} {o v' : Value} {W W' : World} (h : SSt w rb cb d K w3 q es o W) (e : El) {xs : List Value} (hx : xs = e.cells)
    (hr : W'.ownsRow w.heap.size 56 5 v' (es.length + 1) (es.flatMap El.cells ++ xs)) (hg : W.grownBy W' o.ownBlock) (hob : v'.ownBlock = o.ownBlock ∨ v'.ownBlock = some W.heap.size)
    (hk : SeReps W e.Q e.s.kids e.ka) (hq : ∀ b, e.Q b → b < W.heap.size ∧ o.ownBlock ≠ some b ∧ w.heap.size ≤ b ∧ Apart W b) (hs : SelE d e.s) : SSt w rb cb d K w3 q (es ++ [e]) v' W' := by
  have hlt := h.rlt
  have hrd := h.rd.lt
  have hob2 : ∀ b, o.ownBlock = some b → w.heap.size ≤ b := fun b hb => (h.row.row.lt b hb).1
  have hcl := h.clt
  refine ⟨h.rd.keep (hg.block rb hrd.1 fun e2 => by have := hob2 rb e2.symm; omega) (hg.block cb hrd.2.1 fun e2 => by have := hob2 cb e2.symm; omega) hg.size, h.row.push looks_reps e hx rfl hr hg hob hk (fun b hb => ⟨(hq b hb).1, (hq b hb).2.1⟩), fun y hy => ?_, h.only.grown hg fun k hk2 => Or.inr (hob2 k hk2), fun b hb => ?_, ?_, h.rlt, h.clt⟩
  · rcases List.mem_append.1 hy with hy | hy
    · exact ⟨fun b hb => ⟨((h.own y hy).1 b hb).1, ((h.own y hy).1 b hb).2.of_block (hg.block b ((h.row.kid y hy).2 b hb).1 fun e2 => ((h.row.kid y hy).2 b hb).2 e2.symm)⟩, (h.own y hy).2⟩
    · rw [List.mem_singleton.1 hy]; exact ⟨fun b hb => ⟨(hq b hb).2.2.1, (hq b hb).2.2.2.of_block (hg.block b (hq b hb).1 fun e2 => (hq b hb).2.1 e2.symm)⟩, hs⟩
  · obtain ⟨h1, h2, h3, h4⟩ := h.kept b hb
    refine ⟨(hg.block b h3 fun e2 => h2 e2.symm).trans h1, fun e2 => ?_, Nat.lt_of_lt_of_le h3 hg.size, h4⟩
    rcases hob with hob | hob
    · exact h2 (hob ▸ e2)
    · rw [hob] at e2
      have := Option.some.inj e2
      omega
  · rcases hr.2 with ⟨-, h0⟩ | ⟨g', cap', cur, e2, -⟩
    · omega
    · exact ⟨g', cap', by rw [e2]; simp⟩
end Go.Proofs.YtokmgbidmnanpaaGreatDoor
