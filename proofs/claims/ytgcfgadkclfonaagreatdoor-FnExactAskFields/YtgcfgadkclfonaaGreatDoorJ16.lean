import Derived.Test.YtgcfgadkclfonaaGreatDoorJ14
import Derived.Test.YtgcfgadkclfonaaGreatDoorJ10
import Derived.Test.YtgcfgadkclfonaaGreatDoorJ13
import Derived.Test.YtgcfgadkclfonaaGreatDoorIWrite
namespace Go.Proofs.YtgcfgadkclfonaaGreatDoor
set_option linter.unusedSimpArgs false
set_option linter.unusedVariables false
open Go.RowKit Go.Shelf Go.Maps

set_option maxHeartbeats 400000 in
theorem newAskText_any (w : World) (P : Nat → Prop) :
    Calls Tryz.prog 94 #[] w fun e w' => ∃ b mb, e = .returned (.pointer (some ⟨b, 0, none⟩)) ∧ w.heap.size ≤ mb ∧ TS w P w.heap.size b mb [] (.slice none 0 0) 0 [] (fun _ => none) w' := by
  have hmm := @run_makeMap Tryz.prog
  go_enter Tryz.func94, Tryz.ntmps94
  go_wp2_with fail
  go_ret
  refine ⟨_, w.heap.size, rfl, Nat.le_refl _, ⟨by omega, _, _, Or.inl rfl, block_new _ _ (by simp), World.ownsRowF_nil _ _ _ _⟩, World.ownsRow_nil _ _ _ _, ?_, below_box2 _ _ _⟩
  exact (OwnsK.made w (KI P)).of_block ((below_box _ _).block _ (by simp))

theorem Tab.up {B : Nat} {w : World} (h : Tab B w) (hB : B ≤ w.heap.size) : Tab w.heap.size w := fun W hW => h W (hW.mono hB)

set_option maxHeartbeats 400000 in
theorem textOfAsk_any (P : Nat → Prop) (f g : Nat) (ks : List Se) (w : World) (kb ko kc : Nat) (hP : ∀ b, P b → b < w.heap.size ∧ Apart w b) (hS : SeReps w P ks (some ⟨kb, ko, none⟩)) (h0 : 0 < ks.length) (hf : FitS f ks) (hok : okTo f g ks ks.length = true) (hR : (txtL f ks).length ≤ 1000) (hTab : Tab w.heap.size w) :
    Calls Tryz.prog 60 #[.slice (some ⟨kb, ko, none⟩) ks.length kc] w fun e w' => e = .returned (.string ⟨(txtL f ks).toArray⟩) ∧ Below w.heap.size w w' := by
  have HN := hid_of (newAskText_any w P)
  go_enter Tryz.func60, Tryz.ntmps60
  go_wp2_with fail
  refine HN.out.mono ?_
  rintro e w1 ⟨b, mb, rfl, hmb, h1⟩
  have HLi := hid_of (list_any w P w.heap.size b mb f g ks w1 kb ko kc h1 hP hS h0 hf hok hR hTab (Nat.le_refl _) hmb)
  clear h1
  go_wp2_with fail
  refine HLi.out.mono ?_
  rintro e w2 ⟨rfl, a2, b2⟩
  have HSt := hid_of (stringA w.heap.size b _ (txtL f ks) w2 a2 (by unfold txtL; simp))
  clear a2
  go_wp2_with fail
  refine HSt.out.mono ?_
  rintro e w3 ⟨rfl, -, b3, -⟩
  have HB := hid_of (b2.trans b3)
  clear b2 b3
  go_wp2_with fail
  go_ret
  exact ⟨rfl, HB.out⟩
end Go.Proofs.YtgcfgadkclfonaaGreatDoor

namespace Go.Proofs.YtgcfgadkclfonaaGreatDoor
set_option linter.unusedSimpArgs false
set_option linter.unusedVariables false
open Go.RowKit Go.Shelf Go.Maps

/-- An ask in memory that the program may be handed: in blocks that can be told apart, with no long text, and the library's table lies. -/
structure AskIn (f : Nat) (ks : List Se) (P : Nat → Prop) (B : Nat) (ka : Option Addr) (w : World) : Prop where
  fit : FitS f ks
  small : SmallS f ks
  few : f ≤ 1000000000
  rep : SeReps w P ks ka
  apart : ∀ b, P b → b < B ∧ Apart w b
  le : B ≤ w.heap.size
  tab : Tab w.heap.size w
theorem AskIn.on {f : Nat} {ks : List Se} {P : Nat → Prop} {B : Nat} {ka : Option Addr} {w w' : World} (h : AskIn f ks P B ka w) (hb : Below w.heap.size w w') : AskIn f ks P B ka w' := by
  have hs := hb.size
  have hl := h.le
  exact ⟨h.fit, h.small, h.few, h.rep.mono fun k hk => hb.block k (by have := (h.apart k hk).1; omega), fun b hb' => ⟨(h.apart b hb').1, (h.apart b hb').2.of_block (hb.block b (by have := (h.apart b hb').1; omega))⟩, by omega, (h.tab.on hb).up hs⟩
theorem txtL_len {f : Nat} {ks : List Se} (hf : FitS f ks) (h : askB f ks = true) : (txtL f ks).length ≤ 1000 := by
  simp only [askB, Bool.and_eq_true, decide_eq_true_eq] at h
  have := txtTo_len f 1 ks _ (Nat.le_refl _) hf h.1.2
  unfold txtL
  simp
  omega

set_option maxHeartbeats 800000 in
theorem AskOkI_any (f : Nat) (ks : List Se) (P : Nat → Prop) (B : Nat) (ka : Option Addr) (kc : Nat) (w : World) (h : AskIn f ks P B ka w) :
    Calls Tryz.prog 34 #[.slice ka ks.length kc] w fun e w' => e = .returned (.bool (askOk f ks)) ∧ Below w.heap.size w w' := by
  have HA := hid_of (areSelsOk_any f ks w B ka kc h.fit h.small h.few (h.rep.sub fun b hb => (h.apart b hb).1) h.le)
  rw [← askB_walk f ks h.fit] at HA
  cases hb : askB f ks
  · rw [hb] at HA
    have HE : Hid (askOk f ks = false) := hid_of (by rw [askOk, hb]; rfl)
    go_enter Tryz.func34, Tryz.ntmps34
    go_wp2_with fail
    refine HA.out.mono ?_
    rintro e w1 ⟨rfl, hb1⟩
    go_wp2_with fail
    go_ret
    exact ⟨ret_bool (by rw [HE.out]), hb1⟩
  · rw [hb] at HA
    have hb' := hb
    simp only [askB, Bool.and_eq_true, decide_eq_true_eq, Bool.not_eq_true'] at hb'
    have h0 : 0 < ks.length := by
      cases ks with
      | nil => simp at hb'
      | cons a l => simp
    obtain ⟨kb, ko, rfl, -, -⟩ := h.rep.2.choose_spec.1 h0
    have HT := hid_of (fun W (hW : Below w.heap.size w W) => textOfAsk_any P f 1 ks W kb ko kc (fun b hb => ⟨by have := ((h.on hW).apart b hb).1; have := (h.on hW).le; omega, ((h.on hW).apart b hb).2⟩) (h.on hW).rep h0 h.fit hb'.1.2 (txtL_len h.fit hb) (h.on hW).tab)
    have HE : Hid (askOk f ks = decide ((txtL f ks).length ≤ 400)) := hid_of (by rw [askOk, hb]; simp)
    have hsz : (⟨(txtL f ks).toArray⟩ : ByteArray).size = (txtL f ks).length := by simp [ByteArray.size]
    have hl := txtL_len h.fit hb
    clear hb hb'
    generalize txtL f ks = T at *
    go_enter Tryz.func34, Tryz.ntmps34
    go_wp2_with fail
    refine HA.out.mono ?_
    rintro e w1 ⟨rfl, hb1⟩
    go_wp2_with fail
    refine (HT.out w1 hb1).mono ?_
    rintro e w2 ⟨rfl, hb2⟩
    have bw2 := hb1.trans (hb2.mono hb1.size)
    go_wp2_with fail
    go_ret
    exact ⟨ret_bool (by rw [HE.out]; simp; omega), bw2⟩

end Go.Proofs.YtgcfgadkclfonaaGreatDoor

namespace Go.Proofs.YtgcfgadkclfonaaGreatDoor
set_option linter.unusedSimpArgs false
set_option linter.unusedVariables false
open Go.RowKit Go.Shelf Go.Maps
attribute [local go_sem] Oper.semAt_some

/-- What is wrong with an ask of a part first. -/
def askChk (f : Nat) (p : Pt) (ks : List Se) : Option (Way × Int) := if okP p = true ∧ askOk f ks = true then chkM p f [] qry ks ks.length else some ([], 1)
def wayO : Option (Way × Int) → Way
  | some x => x.1
  | none => []
def codeO : Option (Way × Int) → Int
  | some x => x.2
  | none => 0
/-- A list of texts in memory of a call's own that may be written. -/
structure OwnW (A : World) (lo : Nat) (way : Way) (a : Option Addr) : Prop where
  blk : 0 < way.length → ∃ g, a = some ⟨g, 0, none⟩ ∧ lo ≤ g ∧ g < A.heap.size ∧ (∀ i, i < way.length → A.cell? ⟨g, i, none⟩ = some (.string (nth way i))) ∧ ∀ j, A.frozen? ⟨g, j, none⟩ = false
  sz : ∀ i, (nth way i).size ≤ maxLen
  len : way.length ≤ 1000
theorem OwnW.nil (A : World) (lo : Nat) : OwnW A lo [] none := ⟨fun h => by simp at h, fun i => by simp [nth, maxLen], by simp⟩
theorem OwnW.keep {A B : World} {lo : Nat} {way : Way} {a : Option Addr} (h : OwnW A lo way a) (hsz : A.heap.size ≤ B.heap.size) (hb : ∀ b o, a = some ⟨b, 0, none⟩ → A.heap[b]? = some o → o.isCells = true → B.heap[b]? = some o) : OwnW B lo way a := ⟨fun hn => by
  obtain ⟨g, e, h1, h2, h3, h4⟩ := h.blk hn
  obtain ⟨o, k1, k2⟩ := cell_cells (h3 0 hn)
  have hh : B.heap[g]? = A.heap[g]? := (hb g o e k1 k2).trans k1.symm
  exact ⟨g, e, h1, by omega, fun i hi => (World.cell?_of_block (a := ⟨g, i, none⟩) hh).trans (h3 i hi), fun j => (World.frozen?_of_block (a := ⟨g, j, none⟩) hh).trans (h4 j)⟩, h.sz, h.len⟩
/-- How AskCheck ends. -/
def FltNew (w : World) (o : Option (Way × Int)) (e : Ending) (w' : World) : Prop := ∃ a c, e = .returned (.agg #[.slice a (wayO o).length c, .int .i64 (codeO o)]) ∧ OwnW w' w.heap.size (wayO o) a ∧ Below w.heap.size w w'
/-- What the rounds of AskCheck know. -/
structure ICk (p : Pt) (w : World) (pre : List (Way × Se × ByteArray)) (O : Nat → Prop) (A : World) : Prop where
  ok : firstBad p pre = none
  res : A.heap[w.heap.size + 1]? = some (.cells #[.slice none 0 0, .int .i64 0] 30 (0, 0))
  bel : Below w.heap.size w A
  own : ∀ b, O b ↔ b = w.heap.size + 1
theorem ICk.looks (p : Pt) (w : World) (Y : Nat) (hY : w.heap.size + 1 < Y) (pre : List (Way × Se × ByteArray)) (O : Nat → Prop) : LooksAt Y O (ICk p w pre O) := fun A B h h1 h2 h3 h4 h5 => ⟨h.ok, (h5 _ (Array.getElem?_eq_some_iff.1 h.res).1 (Or.inl hY)).trans h.res, ⟨h2.trans h.bel.os, h3.trans h.bel.tape, h4.trans h.bel.output, Nat.le_trans h.bel.size h1, fun b hb => (h5 b (Nat.lt_of_lt_of_le hb h.bel.size) (Or.inl (by omega))).trans (h.bel.block b hb)⟩, h.own⟩
theorem ICk.cells {p : Pt} {w : World} {pre : List (Way × Se × ByteArray)} {O : Nat → Prop} {A : World} (h : ICk p w pre O A) : CellsIn O A := fun b hb => by
  rw [(h.own b).1 hb]
  exact ⟨_, h.res, rfl⟩
/-- A fault is told. -/
def BadCk (p : Pt) (w : World) (xs : List (Way × Se × ByteArray)) (A : World) : Prop := ∃ way code a c, firstBad p xs = some (way, code) ∧ A.heap[w.heap.size + 1]? = some (.cells #[.slice a way.length c, .int .i64 code] 30 (0, 0)) ∧ OwnW A w.heap.size way a ∧ Below w.heap.size w A
theorem BadCk.still (p : Pt) (w : World) (xs : List (Way × Se × ByteArray)) (Y : Nat) (hY : w.heap.size ≤ Y) : Still Y (BadCk p w xs) := by
  rintro A l o o' ⟨way, code, a, c, h1, h2, h3, h4⟩ hl ho1 ho2
  refine ⟨way, code, a, c, h1, still_cells ho1 ho2 h2, h3.keep (by simp) fun b ob hb k1 k2 => ?_, h4.trans (below_putObj _ _ (by omega))⟩
  exact (World.putObj_heap_other fun e => by rw [e, ho1] at k1; cases k1; rw [ho2] at k2; cases k2).trans k1
theorem firstBad_prefix {p : Pt} {pre xs : List (Way × Se × ByteArray)} {x : Way × Se × ByteArray} (h : pre ++ [x] <+: xs) (h0 : firstBad p pre = none) (hx : faultC p x.2.2 x.2.1 ≠ 0) : firstBad p xs = some (x.1, faultC p x.2.2 x.2.1) := by
  obtain ⟨t, rfl⟩ := h
  rw [List.append_assoc, firstBad_app, h0]
  simp only [List.singleton_append]
  rw [firstBad_cons, if_pos hx]
theorem firstBad_more {p : Pt} {pre : List (Way × Se × ByteArray)} {x : Way × Se × ByteArray} (h0 : firstBad p pre = none) (hx : faultC p x.2.2 x.2.1 = 0) : firstBad p (pre ++ [x]) = none := by
  rw [firstBad_app, h0]
  simp only
  rw [firstBad_cons, if_neg (by simpa using hx)]
  rfl

set_option maxRecDepth 20000 in
set_option maxHeartbeats 1600000 in
theorem AskCheckI_any (f : Nat) (p : Pt) (ks : List Se) (P : Nat → Prop) (B : Nat) (ka : Option Addr) (kc : Nat) (v : Value) (w : World) (h : AskIn f ks P B ka w) (hP : PRep w (· < w.heap.size) p v) (hz : szP p ≤ 1048576) :
    Calls Tryz.prog 11 #[v, .slice ka ks.length kc] w fun e w' => FltNew w (askChk f p ks) e w' := by
  have hP' := hP
  obtain ⟨ta, tc, rfl, -, -, -⟩ := hP
  have bX := below_box2 w (.cells #[.string p.name, .slice ta p.types.length tc] 34) (.cells #[.slice none 0 0, .int .i64 0] 30)
  have zX : ((w.alloc (.cells #[.string p.name, .slice ta p.types.length tc] 34)).alloc (.cells #[.slice none 0 0, .int .i64 0] 30)).heap.size = w.heap.size + 1 + 1 := by simp
  have nP : ((w.alloc (.cells #[.string p.name, .slice ta p.types.length tc] 34)).alloc (.cells #[.slice none 0 0, .int .i64 0] 30)).heap[w.heap.size]? = some (.cells #[.string p.name, .slice ta p.types.length tc] 34 (0, 0)) := by
    rw [(below_box _ _).block _ (by simp)]
    exact block_new _ _ rfl
  have nR : ((w.alloc (.cells #[.string p.name, .slice ta p.types.length tc] 34)).alloc (.cells #[.slice none 0 0, .int .i64 0] 30)).heap[w.heap.size + 1]? = some (.cells #[.slice none 0 0, .int .i64 0] 30 (0, 0)) := block_new _ _ (by simp)
  have HC := hid_of (fun W (hW : Below w.heap.size w W) => checkPart_any p W w.heap.size _ (hP'.under hW) hW.size hz)
  have HO := hid_of (fun W (hW : Below w.heap.size w W) => AskOkI_any f ks P B ka kc W (h.on hW))
  have HFIN : Hid (∀ W a code, W.heap[w.heap.size + 1]? = some (.cells #[.slice none 0 0, .int .i64 0] 30 (0, 0)) → Below w.heap.size w W → Below w.heap.size w ((W.setCell ⟨w.heap.size + 1, 0, none⟩ a).setCell ⟨w.heap.size + 1, 1, none⟩ code) ∧ ((W.setCell ⟨w.heap.size + 1, 0, none⟩ a).setCell ⟨w.heap.size + 1, 1, none⟩ code).heap[w.heap.size + 1]? = some (.cells #[a, code] 30 (0, 0))) := hid_of fun W a code h1 h2 => by
    refine ⟨(h2.setCell (p := ⟨w.heap.size + 1, 0, none⟩) (by show w.heap.size ≤ w.heap.size + 1; omega) _).setCell (p := ⟨w.heap.size + 1, 1, none⟩) (by show w.heap.size ≤ w.heap.size + 1; omega) _, ?_⟩
    rw [set_box (set_box h1 0 a) 1 code]
    rfl
  cases ho : okP p
  · have HE : Hid (askChk f p ks = some ([], 1)) := hid_of (by rw [askChk, ho]; rfl)
    rcases partErr_bad _ ho with ⟨x, hx⟩ | ⟨i, x, hx⟩ <;> rw [hx] at HC
    all_goals
      refine (callsIn_wide (n := 3)).1 ?_
      refine callsIn_of_wp_marks Tryz.func11 rfl trivial ?_ rfl
      simp only [Tryz.ntmps11, List.size_toArray, List.length_cons, List.length_nil, Nat.reduceAdd, Nat.reduceSub, Array.replicate_succ, Array.replicate_zero, List.push_toArray, List.append_toArray, List.nil_append, List.cons_append]
      gi_wp2_with (refine ⟨trivial, ?_⟩; gi_at_call 33; refine (callsIn_wide.2 (HC.out _ bX)).mono ?_; rintro e w1 ⟨rfl, hb1⟩; have nR1 := (hb1.block _ (by omega)).trans nR; have b01 := bX.trans (hb1.mono (by omega)); obtain ⟨r0, f0⟩ := box_at nR1 0 (by simp); obtain ⟨r1, f1⟩ := box_at nR1 1 (by simp))
      refine ⟨trivial, ?_⟩
      gi_wp2
      have hfin := HFIN.out w1 (.slice none 0 0) (.int .i64 1) nR1 b01
      have cx0 := (box_at hfin.2 0 (by simp)).1
      have cx1 := (box_at hfin.2 1 (by simp)).1
      simp only [List.getElem_toArray, List.getElem_cons_zero, List.getElem_cons_succ] at cx0 cx1
      refine ⟨.agg #[.slice none 0 0, .int .i64 1], by simp [results, Tryz.results11, go_sem, cx0, cx1], ?_⟩
      rw [HE.out]
      exact ⟨none, 0, rfl, OwnW.nil _ _, hfin.1⟩
  rw [partErr_ok _ ho] at HC
  cases hk : askOk f ks
  · rw [hk] at HO
    have HE : Hid (askChk f p ks = some ([], 1)) := hid_of (by rw [askChk, hk]; simp)
    refine (callsIn_wide (n := 3)).1 ?_
    refine callsIn_of_wp_marks Tryz.func11 rfl trivial ?_ rfl
    simp only [Tryz.ntmps11, List.size_toArray, List.length_cons, List.length_nil, Nat.reduceAdd, Nat.reduceSub, Array.replicate_succ, Array.replicate_zero, List.push_toArray, List.append_toArray, List.nil_append, List.cons_append]
    gi_wp2_with (first
      | (refine ⟨trivial, ?_⟩; gi_at_call 33; refine (callsIn_wide.2 (HC.out _ bX)).mono ?_; rintro e w1 ⟨rfl, hb1⟩; have nR1 := (hb1.block _ (by omega)).trans nR; have b01 := bX.trans (hb1.mono (by omega)))
      | (refine ⟨trivial, ?_⟩; gi_at_call 34; refine (callsIn_wide.2 (HO.out w1 b01)).mono ?_; rintro e w2 ⟨rfl, hb2⟩; have nR2 := (hb2.block _ (by have := hb1.size; omega)).trans nR1; have b02 := b01.trans (hb2.mono b01.size); obtain ⟨r0, f0⟩ := box_at nR2 0 (by simp); obtain ⟨r1, f1⟩ := box_at nR2 1 (by simp)))
    have hfin := HFIN.out w2 (.slice none 0 0) (.int .i64 1) nR2 b02
    have cx0 := (box_at hfin.2 0 (by simp)).1
    have cx1 := (box_at hfin.2 1 (by simp)).1
    simp only [List.getElem_toArray, List.getElem_cons_zero, List.getElem_cons_succ] at cx0 cx1
    refine ⟨.agg #[.slice none 0 0, .int .i64 1], by simp [results, Tryz.results11, go_sem, cx0, cx1], ?_⟩
    rw [HE.out]
    exact ⟨none, 0, rfl, OwnW.nil _ _, hfin.1⟩
  rw [hk] at HO
  obtain ⟨XS, hXS⟩ : ∃ XS, XS = preTo f [] ks ks.length := ⟨_, rfl⟩
  have h5 : ∀ x ∈ XS, x.1.length ≤ 5 := by
    have hq : askB f ks = true := by
      simp only [askOk, Bool.and_eq_true] at hk
      exact hk.1
    have := askB_walk f ks h.fit
    rw [hq, ← hXS] at this
    have h2 : walkB [] XS = true := by
      cases hw : walkB [] XS
      · rw [hw] at this; simp at this
      · rfl
    exact fun x hx => (((walkB_all XS []).1 h2).1 x hx).1
  obtain ⟨AS, hAS⟩ : ∃ AS, AS = askF p [qry] XS := ⟨_, rfl⟩
  have HE : Hid (askChk f p ks = firstBad p AS) := hid_of (by
    rw [askChk, if_pos ⟨ho, hk⟩, hAS, hXS]
    exact ((ask_walk p f [] qry ks _ [qry] (Nat.le_refl _) (by simp) rfl).1).symm)
  have HAS := hid_of (And.intro hAS hXS)
  clear hAS hXS ho hk
  refine (callsIn_wide (n := 3)).1 ?_
  refine callsIn_of_wp_marks Tryz.func11 rfl trivial ?_ rfl
  simp only [Tryz.ntmps11, List.size_toArray, List.length_cons, List.length_nil, Nat.reduceAdd, Nat.reduceSub, Array.replicate_succ, Array.replicate_zero, List.push_toArray, List.append_toArray, List.nil_append, List.cons_append]
  gi_wp2_with (first
    | (refine ⟨trivial, ?_⟩; gi_at_call 33; refine (callsIn_wide.2 (HC.out _ bX)).mono ?_; rintro e w1 ⟨rfl, hb1⟩; have b01 := bX.trans (hb1.mono (by omega)); have nP1 := (hb1.block _ (by omega)).trans nP; have nR1 := (hb1.block _ (by omega)).trans nR)
    | (refine ⟨trivial, ?_⟩; gi_at_call 34; refine (callsIn_wide.2 (HO.out w1 b01)).mono ?_; rintro e w2 ⟨rfl, hb2⟩; have z1 := hb1.size; have nR2 := (hb2.block _ (by omega)).trans nR1; have nP2 := (hb2.block _ (by omega)).trans nP1; have b02 := b01.trans (hb2.mono b01.size); obtain ⟨p0, -⟩ := box_at nP2 0 (by simp); obtain ⟨p1, -⟩ := box_at nP2 1 (by simp))
    | (refine ⟨trivial, ?_⟩; gi_at_call 35; refine (callsIn_wide.2 (askedOf_any w2 _ _ ka ks.length kc)).mono ?_; rintro e w' ⟨rfl, rfl⟩))
  obtain ⟨Y, hY⟩ : ∃ Y, Y = (w2.alloc (.cells #[.string p.name, .slice ta p.types.length tc] 34)).alloc (.cells #[.slice ka ks.length kc] 36) := ⟨_, rfl⟩
  have z2 := hb2.size
  have zY : Y.heap.size = w2.heap.size + 1 + 1 := by rw [hY]; simp
  have bY : Below w2.heap.size w2 Y := by rw [hY]; exact below_box2 _ _ _
  have pY : Y.heap[w2.heap.size]? = some (.cells #[.string p.name, .slice ta p.types.length tc] 34 (0, 0)) := by
    rw [hY, (below_box _ _).block _ (by simp)]
    exact block_new _ _ rfl
  have sY : Y.heap[w2.heap.size + 1]? = some (.cells #[.slice ka ks.length kc] 36 (0, 0)) := by
    rw [hY]
    exact block_new _ _ (by simp)
  have rY := (bY.block _ (by omega)).trans nR2
  have bwY := b02.trans (bY.mono b02.size)
  rw [← hY]
  clear hY HC HO nP nP1 nR nR1 p0 p1
  refine range_stop2 (w := Y) rfl (by omega) (gf := 61) (lb := #[.pointer (some ⟨w2.heap.size + 1, 0, none⟩), .pointer (some ⟨w2.heap.size, 0, none⟩)]) rfl trivial (enters_of Tryz.func61 (by kernel_rfl) rfl)
    AS (fun pre O x ar A => ArgA w.heap.size O p x ar A ∧ pre ++ [x] <+: AS) ?ps (ICk p w) ?looks ?cells (BadCk p w AS) ?xstill
    (fun b => b = w.heap.size + 1) ?start ?seq
    (fun pre O x ar a' A => ∃ (g wc : Nat) (sa : Option Addr) (sc : Nat) (na : Option Addr) (nc sx : Nat), pre ++ [x] <+: AS ∧ a' = { tmps := #[.agg #[.string p.name, .slice ta p.types.length tc], .slice ka ks.length kc, .pointer (some ⟨w.heap.size, 0, none⟩), undef, .pointer (some ⟨w.heap.size + 1, 0, none⟩), .slice (some ⟨g, 0, none⟩) x.1.length wc, .pointer (some ⟨sx, 0, none⟩), undef, .agg #[.string p.name, .slice ta p.types.length tc], .nilIface, .bool false, .bool false, .slice ka ks.length kc, .bool true, .bool false, .bool false, undef, .agg #[.string p.name, .slice ta p.types.length tc], .slice ka ks.length kc, .func (.func 61) #[] #[.pointer (some ⟨w2.heap.size + 1, 0, none⟩), .pointer (some ⟨w2.heap.size, 0, none⟩)], .slice (some ⟨g, 0, none⟩) x.1.length wc, .agg #[.string x.2.1.al, .string x.2.1.name, .bool x.2.1.one, .int .i64 x.2.1.id, .slice sa x.2.1.kids.length sc, .string x.2.2, .string (fldF p x.2.2 x.2.1.name).name, .string (fldF p x.2.2 x.2.1.name).of, .bool (fldF p x.2.2 x.2.1.name).list, .bool (fldF p x.2.2 x.2.1.name).must, .bool (fldF p x.2.2 x.2.1.name).far, .bool (fldF p x.2.2 x.2.1.name).hidden, .bool (fldF p x.2.2 x.2.1.name).shared, .slice na (fldF p x.2.2 x.2.1.name).needs.length nc, .bool (fldB p x.2.2 x.2.1.name && !(fldF p x.2.2 x.2.1.name).hidden)], undef, undef, undef, undef, undef, undef, undef, undef], defers := [] } ∧ (OwnW A w.heap.size x.1 (some ⟨g, 0, none⟩) ∧ ¬ O g) ∧ A.heap[sx]? = some (.cells #[.string x.2.1.al, .string x.2.1.name, .bool x.2.1.one, .int .i64 x.2.1.id, .slice sa x.2.1.kids.length sc, .string x.2.2, .string (fldF p x.2.2 x.2.1.name).name, .string (fldF p x.2.2 x.2.1.name).of, .bool (fldF p x.2.2 x.2.1.name).list, .bool (fldF p x.2.2 x.2.1.name).must, .bool (fldF p x.2.2 x.2.1.name).far, .bool (fldF p x.2.2 x.2.1.name).hidden, .bool (fldF p x.2.2 x.2.1.name).shared, .slice na (fldF p x.2.2 x.2.1.name).needs.length nc, .bool (fldB p x.2.2 x.2.1.name && !(fldF p x.2.2 x.2.1.name).hidden)] 71 (0, 0))) ?astill ?assign ?body ?done ?stop
  case ps =>
    rintro pre O x ar A ⟨⟨g, wc, sa, sc, na, nc, rfl, -⟩, -⟩
    rfl
  case looks => exact fun pre O => ICk.looks p w _ (by omega) pre O
  case cells => exact fun pre O A h => h.cells
  case xstill => exact BadCk.still p w AS _ (by omega)
  case start => exact ⟨rfl, rY, bwY, fun b => Iff.rfl⟩
  case seq =>
    intro l J Jx W hb hJl hXs hJc hy h0
    have hbW := bwY.trans (hb.mono bwY.size)
    have zW := hb.size
    have := askedOf1_any p (.string p.name) (.slice ta p.types.length tc) f ks l J Jx w.heap.size (3 - 1) _ W ka kc (w2.heap.size + 1) w2.heap.size hJl hXs hJc (fun n pre O x ar A hJ hp hA => yieldAt_wide (hy pre O x ar A hJ ⟨hA, by rw [HAS.out.1, HAS.out.2]; exact hp⟩)) h.fit h.small ((h.on hbW).rep.sub fun b hb => by have := (h.apart b hb).1; have := h.le; show b < _; omega) (hP'.under hbW) hbW.size h.few (by rw [← HAS.out.2]; exact h5) h0 (by rintro b rfl; omega) ((hb.cell (p := ⟨w2.heap.size + 1, 0, none⟩) (by show w2.heap.size + 1 < _; omega)).trans (box_at sY 0 (by simp)).1) ((hb.cell (p := ⟨w2.heap.size, 0, none⟩) (by show w2.heap.size < _; omega)).trans (box_at pY 0 (by simp)).1) ((hb.cell (p := ⟨w2.heap.size, 1, none⟩) (by show w2.heap.size < _; omega)).trans (box_at pY 1 (by simp)).1)
    rw [← HAS.out.2, ← HAS.out.1] at this
    exact this
  case astill =>
    rintro pre O x ar a' A l o o' ⟨g, wc, sa, sc, na, nc, sx, h1, h2, h3, h4⟩ hl ho1 ho2
    exact ⟨g, wc, sa, sc, na, nc, sx, h1, h2, ⟨h3.1.keep (by simp) fun b ob hb k1 k2 => (World.putObj_heap_other fun e => by rw [e, ho1] at k1; cases k1; rw [ho2] at k2; cases k2).trans k1, h3.2⟩, still_cells ho1 ho2 h4⟩
  case assign =>
    rintro l pre O x ar A K ⟨⟨g, wc, sa, sc, na, nc, rfl, h3, h4, h6, h7, h8, h9, h10, -⟩, hp⟩ hK
    have HK := hid_of hK
    have hx5 : x.1.length ≤ 1000 := by
      obtain ⟨t, ht⟩ := hp
      have hm : x ∈ askF p [qry] XS := by rw [← HAS.out.1, ← ht]; simp
      obtain ⟨y, hy, e⟩ := askF_mem p XS _ x hm
      have := h5 y hy
      rw [e] at this
      omega
    have hOW : OwnW A w.heap.size x.1 (some ⟨g, 0, none⟩) := ⟨fun hn => ⟨g, rfl, h6.1, h7, fun i hi => by
      obtain ⟨b, off, e, -, hc⟩ := h4.1 h10
      simp only [Option.some.injEq, Addr.mk.injEq, and_true] at e
      obtain ⟨rfl, rfl⟩ := e
      have := hc i hi
      rwa [Nat.zero_add] at this, h8⟩, h4.2.1, hx5⟩
    clear hK
    unfold askedV
    gi_wp2
    refine HK.out _ _ (below_box A _) ⟨g, wc, sa, sc, na, nc, A.heap.size, hp, rfl, ⟨hOW.keep (by simp) fun b ob hb k1 k2 => ((below_box A _).block b (Array.getElem?_eq_some_iff.1 k1).1).trans k1, h6.2⟩, block_new _ _ rfl⟩
  case done =>
    rintro D O W hD h2 hK
    have HH := hid_of h2
    obtain ⟨r0, f0⟩ := box_at h2.res 0 (by simp)
    obtain ⟨r1, f1⟩ := box_at h2.res 1 (by simp)
    have hDN : D ≠ w.heap.size + 1 := by omega
    have hfin := HFIN.out W (.slice none 0 0) (.int .i64 0) h2.res h2.bel
    have hK' : ((W.setCell ⟨w.heap.size + 1, 0, none⟩ (.slice none 0 0)).setCell ⟨w.heap.size + 1, 1, none⟩ (.int .i64 0)).heap[D]? = some (.deferred (some [])) := (Below.heap_setCell _ _ _ _ hDN).trans ((Below.heap_setCell _ _ _ _ hDN).trans hK)
    have hbx : (((W.setCell ⟨w.heap.size + 1, 0, none⟩ (.slice none 0 0)).setCell ⟨w.heap.size + 1, 1, none⟩ (.int .i64 0)).putObj D (.deferred none)).heap[w.heap.size + 1]? = some (.cells #[.slice none 0 0, .int .i64 0] 30 (0, 0)) := (World.putObj_heap_other (Ne.symm hDN)).trans hfin.2
    have cx0 := (box_at hbx 0 (by simp)).1
    have cx1 := (box_at hbx 1 (by simp)).1
    simp only [List.getElem_toArray, List.getElem_cons_zero, List.getElem_cons_succ] at cx0 cx1
    have HX := hid_of (And.intro hfin.1 hK')
    clear h2 hfin hbx hK'
    gi_wp2
    refine ⟨by simp, .inl ⟨_, _, rfl, run_takeDeferred HX.out.2, .agg #[.slice none 0 0, .int .i64 0], by simp [results, Tryz.results11, go_sem, cx0, cx1], ?_⟩⟩
    rw [HE.out, HH.out.ok]
    exact ⟨none, 0, rfl, OwnW.nil _ _, HX.out.1.trans (below_putObj _ _ (by omega))⟩
  case stop =>
    rintro D W hD ⟨way, code, a, c, h1, h2, h3, h4⟩ hK
    have hDN : D ≠ w.heap.size + 1 := by omega
    have hbx : (W.putObj D (.deferred none)).heap[w.heap.size + 1]? = some (.cells #[.slice a way.length c, .int .i64 code] 30 (0, 0)) := (World.putObj_heap_other (Ne.symm hDN)).trans h2
    have cx0 := (box_at hbx 0 (by simp)).1
    have cx1 := (box_at hbx 1 (by simp)).1
    simp only [List.getElem_toArray, List.getElem_cons_zero, List.getElem_cons_succ] at cx0 cx1
    have HX := hid_of (And.intro h1 (And.intro h3 h4))
    clear h1 h2 h3 h4 hbx
    gi_wp2
    refine ⟨by simp, .inl ⟨_, _, rfl, run_takeDeferred hK, .agg #[.slice a way.length c, .int .i64 code], by simp [results, Tryz.results11, go_sem, cx0, cx1], ?_⟩⟩
    rw [HE.out, HX.out.1]
    exact ⟨a, c, rfl, HX.out.2.1.keep (by simp) fun b ob hb k1 k2 => (World.putObj_heap_other fun e => by rw [e, hK] at k1; cases k1; cases k2).trans k1, HX.out.2.2.trans (below_putObj _ _ (by omega))⟩
  case body =>
    rintro l pre O x ar a' A h2 ⟨g, wc, sa, sc, na, nc, sx, hp, rfl, h3, h9⟩
    clear zY
    have d0 := (box_at h9 0 (by simp)).1
    have d1 := (box_at h9 1 (by simp)).1
    have d2 := (box_at h9 2 (by simp)).1
    have d3 := (box_at h9 3 (by simp)).1
    have d4 := (box_at h9 4 (by simp)).1
    have d5 := (box_at h9 5 (by simp)).1
    have d6 := (box_at h9 6 (by simp)).1
    have d7 := (box_at h9 7 (by simp)).1
    have d8 := (box_at h9 8 (by simp)).1
    have d9 := (box_at h9 9 (by simp)).1
    have d10 := (box_at h9 10 (by simp)).1
    have d11 := (box_at h9 11 (by simp)).1
    have d12 := (box_at h9 12 (by simp)).1
    have d13 := (box_at h9 13 (by simp)).1
    have d14 := (box_at h9 14 (by simp)).1
    simp only [List.getElem_toArray, List.getElem_cons_zero, List.getElem_cons_succ] at d0 d1 d2 d3 d4 d5 d6 d7 d8 d9 d10 d11 d12 d13 d14
    have HF := hid_of (fun W => fault_any x.2.2 x.2.1 sa sc (fldF p x.2.2 x.2.1.name) na nc (fldB p x.2.2 x.2.1.name && !(fldF p x.2.2 x.2.1.name).hidden) W)
    have HH := hid_of h2
    have HW := hid_of h3
    have HP := hid_of hp
    obtain ⟨code, hcode⟩ : ∃ c, c = faultC p x.2.2 x.2.1 := ⟨_, rfl⟩
    have HF : Hid (∀ W, Calls Tryz.prog 36 #[.agg #[.string x.2.1.al, .string x.2.1.name, .bool x.2.1.one, .int .i64 x.2.1.id, .slice sa x.2.1.kids.length sc, .string x.2.2, .string (fldF p x.2.2 x.2.1.name).name, .string (fldF p x.2.2 x.2.1.name).of, .bool (fldF p x.2.2 x.2.1.name).list, .bool (fldF p x.2.2 x.2.1.name).must, .bool (fldF p x.2.2 x.2.1.name).far, .bool (fldF p x.2.2 x.2.1.name).hidden, .bool (fldF p x.2.2 x.2.1.name).shared, .slice na (fldF p x.2.2 x.2.1.name).needs.length nc, .bool (fldB p x.2.2 x.2.1.name && !(fldF p x.2.2 x.2.1.name).hidden)]] W fun e w' => e = .returned (.int .i64 code) ∧ Below W.heap.size W w') := hid_of fun W => by
      rw [hcode]
      exact HF.out W
    have HCO := hid_of hcode
    obtain ⟨r0, f0⟩ := box_at h2.res 0 (by simp)
    have zA := h2.bel.size
    clear h2 h3 hp hcode h9
    by_cases hc : code = 0
    · subst hc
      gi_wp2
      refine ⟨trivial, (CallsIn.inRound l (callsIn_wide.2 (HF.out A))).mono ?_⟩
      rintro e B ⟨rfl, hbB⟩
      have hkf : KeepsFrom Y.heap.size A B := KeepsOthers.from ⟨hbB.size, fun k o hk _ => (hbB.block k (Array.getElem?_eq_some_iff.1 hk).1).trans hk⟩ _
      have HT := hid_of (show Told (ICk p w) (BadCk p w AS) O pre x A true B from Or.inl ⟨rfl, O, ⟨firstBad_more HH.out.ok HCO.out.symm, (hbB.block _ (Array.getElem?_eq_some_iff.1 HH.out.res).1).trans HH.out.res, HH.out.bel.trans (hbB.mono HH.out.bel.size), HH.out.own⟩, KeepO.below hbB, fun b hb => Or.inl hb⟩)
      gi_wp2
      exact HT.out
    · have hcb : (code == 0) = false := by simpa using hc
      gi_wp2
      refine ⟨trivial, (CallsIn.inRound l (callsIn_wide.2 (HF.out A))).mono ?_⟩
      rintro e B ⟨rfl, hbB⟩
      have nB := (hbB.block _ (Array.getElem?_eq_some_iff.1 HH.out.res).1).trans HH.out.res
      obtain ⟨r0, f0⟩ := box_at nB 0 (by simp)
      obtain ⟨r1, f1⟩ := box_at nB 1 (by simp)
      have hfin := HFIN.out B (.slice (some ⟨g, 0, none⟩) x.1.length wc) (.int .i64 code) nB (HH.out.bel.trans (hbB.mono HH.out.bel.size))
      have hko : KeepsOthers A ((B.setCell ⟨w.heap.size + 1, 0, none⟩ (.slice (some ⟨g, 0, none⟩) x.1.length wc)).setCell ⟨w.heap.size + 1, 1, none⟩ (.int .i64 code)) := (KeepsOthers.trans (B := B) ⟨hbB.size, fun k o hk _ => (hbB.block k (Array.getElem?_eq_some_iff.1 hk).1).trans hk⟩ (KeepsOthers.setCell _ _ _)).trans (KeepsOthers.setCell _ _ _)
      have hkf : KeepsFrom Y.heap.size A _ := hko.from _
      have HT := hid_of (show BadCk p w AS ((B.setCell ⟨w.heap.size + 1, 0, none⟩ (.slice (some ⟨g, 0, none⟩) x.1.length wc)).setCell ⟨w.heap.size + 1, 1, none⟩ (.int .i64 code)) from
        ⟨x.1, code, _, wc, by rw [HCO.out]; exact firstBad_prefix HP.out HH.out.ok (by rw [← HCO.out]; exact hc), hfin.2, HW.out.1.keep (by simp only [size_set]; exact hbB.size) fun b ob hb k1 k2 => by
          simp only [Option.some.injEq, Addr.mk.injEq, and_true] at hb
          subst hb
          have hne : g ≠ w.heap.size + 1 := fun e => HW.out.2 ((HH.out.own g).2 e)
          rw [Below.heap_setCell _ _ _ _ hne, Below.heap_setCell _ _ _ _ hne, hbB.block g (Array.getElem?_eq_some_iff.1 k1).1, k1], hfin.1⟩)
      clear hfin nB
      gi_wp2
      exact Or.inr ⟨rfl, HT.out⟩
end Go.Proofs.YtgcfgadkclfonaaGreatDoor
