import Derived.Test.YtmeopghhgpbhpaaDoorJ6
import Derived.Test.YtmeopghhgpbhpaaDoorAFit
import Derived.Test.YtmeopghhgpbhpaaDoorABase
import Derived.Test.YtmeopghhgpbhpaaDoorAAsk
import Derived.Test.YtmeopghhgpbhpaaDoorAWaysS
import Derived.Test.YtmeopghhgpbhpaaDoorJ3
namespace Go.Proofs.YtmeopghhgpbhpaaDoor
set_option linter.unusedSimpArgs false
set_option linter.unusedVariables false
open Go.RowKit Go.Shelf Go.Maps

theorem OwnT.nil (f : Nat) (w : World) (Q : Nat → Prop) (a : Option Addr) : OwnT f w Q [] a := by
  cases f with
  | zero => rfl
  | succ f => exact ⟨by simp, fun hn => by simp at hn⟩
theorem OwnT.sub {f : Nat} {w : World} {Q Q' : Nat → Prop} {ks : List Se} {a : Option Addr} (h : OwnT f w Q ks a) (e : ∀ b, Q b → Q' b) : OwnT f w Q' ks a := by
  cases f with
  | zero => exact h
  | succ f =>
    refine ⟨h.1, fun hn => ?_⟩
    obtain ⟨g, R, A, c, h1, h2, h3, h4, h5, h6⟩ := h.2 hn
    exact ⟨g, R, A, c, h1, e g h2, h3, fun i hi b hb => ⟨e b (h4 i hi b hb).1, (h4 i hi b hb).2⟩, h5, h6⟩
theorem OwnNew.up {f : Nat} {w w1 w2 : World} {L : List Se} {e : Ending} (h : OwnNew f w1 L e w2) (hb : Below w.heap.size w w1) : OwnNew f w L e w2 := by
  obtain ⟨a, c, h1, h2, h3⟩ := h
  exact ⟨a, c, h1, h2.sub fun b hb2 => ⟨Nat.le_trans hb.size hb2.1, hb2.2⟩, hb.trans (h3.mono hb.size)⟩
theorem strs_nil (w : World) (P : Nat → Prop) : Strs w P [] none := ⟨fun h => absurd rfl h, fun i => by simp only [nth, List.getD_nil]; unfold maxLen; decide, by unfold maxLen; simp⟩

set_option maxHeartbeats 800000 in
theorem AskLessI_any (f : Nat) (ks : List Se) (wy : ByteArray) (P : Nat → Prop) (B : Nat) (ka : Option Addr) (kc : Nat) (w : World) (h : AskIn f ks P B ka w) :
    Calls Tryd.prog 27 #[.slice ka ks.length kc, .string wy] w fun e w' => OwnNew f w (askLess f ks wy.toList) e w' := by
  have HO := hid_of (AskOkI_any f ks P B ka kc w h)
  cases ho : askOk f ks
  · rw [ho] at HO
    have HE : Hid (askLess f ks wy.toList = []) := hid_of (by rw [askLess, ho]; rfl)
    go_enter Tryd.func27, Tryd.ntmps27
    go_wp2_with fail
    refine HO.out.mono ?_
    rintro e w1 ⟨rfl, hb1⟩
    go_wp2_with fail
    go_ret
    rw [HE.out]
    exact ⟨none, 0, rfl, OwnT.nil _ _ _ _, hb1⟩
  · rw [ho] at HO
    have hq : okTo f 1 ks ks.length = true ∧ cntTo f ks ks.length ≤ 24 := by
      simp only [askOk, askB, Bool.and_eq_true, decide_eq_true_eq] at ho
      exact ⟨ho.1.1.2, ho.1.2⟩
    have HE : Hid (askLess f ks wy.toList = lessI f [] wy.toList ks ks.length) := hid_of (by
      have e := lessI_M f [] wy.toList ks _ (Nat.le_refl _) h.fit (noCut_of_ok hq.1)
      rw [pfx_nil, List.nil_append] at e
      rw [askLess, ho, e]; rfl)
    have HL := hid_of (fun W (hW : Below w.heap.size w W) => lessSels_any wy f 1 [] ks W none 0 ka kc h.fit h.small hq.1 rfl (fun _ => by omega) hq.2 (by simp) ((h.on hW).rep.sub fun b hb => by have := (h.apart b hb).1; have := h.le; have := hW.size; omega) (strs_nil _ _))
    clear hq
    go_enter Tryd.func27, Tryd.ntmps27
    go_wp2_with fail
    refine HO.out.mono ?_
    rintro e w1 ⟨rfl, hb1⟩
    go_wp2_with fail
    refine (HL.out w1 hb1).mono ?_
    rintro e w2 hN
    obtain ⟨a, c, rfl, h1, h2⟩ := hN.up hb1
    have HN := hid_of (And.intro h1 h2)
    clear h1 h2 hN
    go_wp2_with fail
    go_ret
    rw [HE.out]
    exact ⟨a, c, rfl, HN.out.1, HN.out.2⟩
end Go.Proofs.YtmeopghhgpbhpaaDoor

namespace Go.Proofs.YtmeopghhgpbhpaaDoor
set_option linter.unusedSimpArgs false
set_option linter.unusedVariables false
open Go.RowKit

/-- What szSel does with a field. -/
def SzOk2 (x : Se) : Prop := ∀ (w : World) (B : Nat) (v : Value) (left : Int), SeRep w (· < B) x v → B ≤ w.heap.size → 0 ≤ left → left ≤ 1048576 →
  Calls Tryd.prog 29 #[v, .int .i64 left] w fun e w' => ∃ y : Int, e = .returned (.int .i64 y) ∧ -1 ≤ y ∧ y ≤ left ∧ (0 ≤ y → x.al.size ≤ 1048576 ∧ x.name.size ≤ 1048576 ∧ ∀ f, y + cntSe f x ≤ left + 1 ∧ SmallS f x.kids) ∧ Below w.heap.size w w'

set_option maxHeartbeats 800000 in
theorem szSelS_two (ks : List Se) (IH : ∀ i, i < ks.length → SzOk2 (sth ks i)) (w : World) (B : Nat) (a : Option Addr) (c : Nat) (left : Int) (hK : SeReps w (· < B) ks a) (hB : B ≤ w.heap.size) (hl0 : 0 ≤ left) (hl1 : left ≤ 1048576) :
    Calls Tryd.prog 9 #[.slice a ks.length c, .int .i64 left] w fun e w' => ∃ y : Int, e = .returned (.int .i64 y) ∧ -1 ≤ y ∧ y ≤ left ∧ (0 ≤ y → y + ks.length ≤ left ∧ ∀ f, y + cntTo f ks ks.length ≤ left ∧ SmallS f ks) ∧ Below w.heap.size w w' := by
  obtain ⟨h3, C, hA, hr⟩ := hK
  by_cases hbig : left < ks.length
  · go_enter Tryd.func9, Tryd.ntmps9
    go_wp2_with fail
    go_ret
    exact ⟨-1, rfl, by omega, by omega, by omega, Below.refl _ _⟩
  · go_enter Tryd.func9, Tryd.ntmps9
    go_wp2_with fail
    go_loopw [1, 5] (fun l i wr => ∃ (k : Nat) (x : Int), k ≤ ks.length ∧ i = .int .i64 k ∧ l = .int .i64 x ∧ 0 ≤ x ∧ x + ks.length ≤ left ∧ Hid (∀ f, x + cntTo f ks k + ks.length ≤ left + k ∧ ∀ i, i < k → (sth ks i).al.size ≤ 1048576 ∧ (sth ks i).name.size ≤ 1048576 ∧ SmallS f (sth ks i).kids) ∧ Below w.heap.size w wr) (fun _ i _ => ks.length - (intOf i).toNat)
    case atStart => exact ⟨0, _, Nat.zero_le _, rfl, rfl, by omega, by omega, fun f => ⟨by simp [cntTo], fun i hi => by omega⟩, Below.refl _ _⟩
    case round =>
      obtain ⟨k, x, hk, rfl, rfl, hx0, hx1, HX, hbel⟩ := hrel
      by_cases hlt : k < ks.length
      · obtain ⟨b, off, rfl, hbB, hc⟩ := hA (by omega)
        have hck : ∀ j, j < 5 → wr.cell? ⟨b, off + k * 5 + j, none⟩ = some (C k j) := fun j hj => (hbel.cell (p := ⟨b, off + k * 5 + j, none⟩) (by show b < _; omega)).trans (hc k hlt j hj)
        have hc0 : wr.cell? ⟨b, off + k * 5, none⟩ = some (C k 0) := hck 0 (by omega)
        have hc1 := hck 1 (by omega)
        have hc2 := hck 2 (by omega)
        have hc3 := hck 3 (by omega)
        have hc4 := hck 4 (by omega)
        clear hck hc
        go_wp2_with (go_at_call 29; refine (IH k hlt _ B _ x ((hr k hlt).under (hbel.mono hB)) (by have := hbel.size; omega) hx0 (by omega)).mono ?_; rintro e w' ⟨y, rfl, hy0, hy1, hy2', hby⟩; have hy2 := hid_of hy2'; clear hy2')
        · go_ret
          exact ⟨-1, rfl, by omega, by omega, by omega, hbel.trans (hby.mono hbel.size)⟩
        · go_roundw
          case rel =>
            rename_i hy
            refine ⟨k + 1, y, by omega, by go_num, rfl, hy, by omega, fun f => ?_, hbel.trans (hby.mono hbel.size)⟩
            obtain ⟨g1, g2⟩ := HX.out f
            obtain ⟨g3, g4, g5⟩ := hy2.out hy
            refine ⟨by have := (g5 f).1; rw [cntTo_succ]; omega, fun i hi => ?_⟩
            by_cases e : i = k
            · subst e; exact ⟨g3, g4, (g5 f).2⟩
            · exact g2 i (by omega)
          case measure => simp [intOf]; omega
      · go_wp2_with fail
        go_ret
        have e : k = ks.length := by omega
        refine ⟨x, rfl, by omega, by omega, fun _ => ⟨by omega, fun f => ?_⟩, hbel⟩
        obtain ⟨g1, g2⟩ := HX.out f
        rw [e] at g1 g2
        refine ⟨by omega, ?_⟩
        cases f with
        | zero => trivial
        | succ f => exact fun i hi => ⟨(g2 i hi).1, (g2 i hi).2.1, ((HX.out f).2 i (by omega)).2.2⟩

set_option maxHeartbeats 400000 in
theorem szSel_step2 (s n : ByteArray) (o : Bool) (id : Int) (ks : List Se) (IH : ∀ i, i < ks.length → SzOk2 (sth ks i)) : SzOk2 (.mk s n o id ks) := by
  intro w B v left hR hB hl0 hl1
  obtain ⟨ka, kc, rfl, hs, hn, hK⟩ := hR.inv
  clear hR
  unfold maxLen at hs hn
  by_cases h1 : left < s.size
  · go_enter Tryd.func29, Tryd.ntmps29
    go_wp2_with fail
    go_ret
    exact ⟨-1, rfl, by omega, by omega, by omega, below_box _ _⟩
  by_cases h2 : left - s.size < n.size
  · go_enter Tryd.func29, Tryd.ntmps29
    go_wp2_with fail
    go_ret
    exact ⟨-1, rfl, by omega, by omega, by omega, below_box _ _⟩
  go_enter Tryd.func29, Tryd.ntmps29
  go_wp2_with (go_at_call 9; refine (szSelS_two ks IH _ B ka kc _ (hK.under ((below_box w _).mono hB)) (by simp; omega) (by omega) (by omega)).mono ?_; rintro e w' ⟨y, rfl, hy0, hy1, hy2', hb⟩; have hy2 := hid_of hy2'; clear hy2')
  · go_ret
    exact ⟨-1, rfl, by omega, by omega, by omega, (below_box w _).trans (hb.mono (by simp))⟩
  · go_ret
    refine ⟨y, rfl, by omega, by omega, fun h => ⟨by show s.size ≤ _; omega, by show n.size ≤ _; omega, fun f => ?_⟩, (below_box w _).trans (hb.mono (by simp))⟩
    obtain ⟨-, g2⟩ := hy2.out h
    refine ⟨?_, (g2 f).2⟩
    cases f with
    | zero => simp [cntSe]; omega
    | succ f => have := (g2 f).1; rw [cntSe_kids]; simp only; omega

theorem sz_all2 (m : Nat) : ∀ x : Se, SizeOf.sizeOf x < m → SzOk2 x := by
  induction m with
  | zero => intro x h; omega
  | succ m ih =>
    intro x h
    match x, h with
    | .mk s n o id ks, h => exact szSel_step2 s n o id ks fun i hi => ih _ (by have := sth_lt ks i hi; simp at h; omega)
theorem szSel_two (x : Se) : SzOk2 x := sz_all2 _ x (Nat.lt_succ_self _)
end Go.Proofs.YtmeopghhgpbhpaaDoor

namespace Go.Proofs.YtmeopghhgpbhpaaDoor
set_option linter.unusedSimpArgs false
set_option linter.unusedVariables false
open Go.RowKit Go.Shelf Go.Maps

theorem seN_apart {w : World} {P : Nat → Prop} (hF : ∀ b, P b → ∀ a : Addr, a.block = b → w.frozen? a = false) : ∀ {f : Nat} {x : Se} {v : Value}, SeN w P f x v → SeN w (fun b => P b ∧ Apart w b) f x v
  | 0, _, _, h => h.elim
  | f + 1, x, v, h => by
    obtain ⟨ka, kc, C, h1, h2, h3, h4, hA, hr⟩ := h
    refine ⟨ka, kc, C, h1, h2, h3, h4, fun hl => ?_, fun i hi => seN_apart hF (hr i hi)⟩
    obtain ⟨b, off, e, hb, hc⟩ := hA hl
    exact ⟨b, off, e, ⟨hb, Apart.of_cell (hc 0 hl 0 (by omega)) (hF b hb)⟩, hc⟩
theorem seReps_apart {w : World} {P : Nat → Prop} {ks : List Se} {a : Option Addr} (hF : ∀ b, P b → ∀ a : Addr, a.block = b → w.frozen? a = false) (h : SeReps w P ks a) : SeReps w (fun b => P b ∧ Apart w b) ks a := by
  obtain ⟨h0, C, hA, hr⟩ := h
  refine ⟨h0, C, fun hl => ?_, fun i hi => ?_⟩
  · obtain ⟨b, off, e, hb, hc⟩ := hA hl
    exact ⟨b, off, e, ⟨hb, Apart.of_cell (hc 0 hl 0 (by omega)) (hF b hb)⟩, hc⟩
  · obtain ⟨f, hf⟩ := hr i hi
    exact ⟨f, seN_apart hF hf⟩
/-- What was copied may be handed on. -/
theorem askIn_copied {f : Nat} {ks : List Se} {a : Option Addr} {N : Nat} {w : World} (hf : FitS f ks) (hs : SmallS f ks) (hfew : f ≤ 1000000000) (hR : SeReps w (fun b => N ≤ b ∧ b < w.heap.size) ks a) (hN : NF N w) (hT : Tab w.heap.size w) :
    AskIn f ks (fun b => (N ≤ b ∧ b < w.heap.size) ∧ Apart w b) w.heap.size a w :=
  ⟨hf, hs, hfew, seReps_apart (fun b hb a ha => hN a (by omega)) hR, fun b hb => ⟨hb.1.2, hb.2⟩, Nat.le_refl _, hT⟩
end Go.Proofs.YtmeopghhgpbhpaaDoor

namespace Go.Proofs.YtmeopghhgpbhpaaDoor
set_option linter.unusedSimpArgs false
set_option linter.unusedVariables false
open Go.RowKit Go.Shelf Go.Maps

theorem eqStringS_b (ns : List ByteArray) (a a' : Option Addr) (c c' : Nat) (w : World) (P P' : Nat → Prop) (hS : Strs w P ns a) (hS' : Strs w P' ns a') :
    Calls Tryd.prog 22 #[.slice a ns.length c, .slice a' ns.length c'] w fun e w' => e = .returned (.bool true) ∧ Below w.heap.size w w' :=
  (eqStringS_any ns a a' c c' w P P' hS hS').mono fun e w' ⟨h1, n, h2⟩ => ⟨h1, by rw [h2]; exact ⟨rfl, rfl, rfl, Nat.le_refl _, fun _ _ => rfl⟩⟩
/-- Nothing but some old blocks has changed. -/
structure Fram (S : Nat → Prop) (A B : World) : Prop where
  os : B.os = A.os
  tape : B.tape = A.tape
  output : B.output = A.output
  size : A.heap.size ≤ B.heap.size
  block : ∀ b, b < A.heap.size → ¬ S b → B.heap[b]? = A.heap[b]?
theorem Fram.of_below {S : Nat → Prop} {A B : World} (h : Below A.heap.size A B) : Fram S A B := ⟨h.os, h.tape, h.output, h.size, fun b hb _ => h.block b hb⟩
theorem Fram.of_marked {S : Nat → Prop} {lo hi : Nat} {A B : World} (h : Marked lo hi A B) (hS : ∀ b, lo ≤ b ∧ b < hi → S b) : Fram S A B := ⟨h.os, h.tape, h.output, h.size, fun b hb hn => h.block b hb fun e => hn (hS b e)⟩
theorem Fram.trans {S : Nat → Prop} {A B C : World} (h : Fram S A B) (k : Fram S B C) : Fram S A C := ⟨k.os.trans h.os, k.tape.trans h.tape, k.output.trans h.output, Nat.le_trans h.size k.size, fun b hb hn => (k.block b (Nat.lt_of_lt_of_le hb h.size) hn).trans (h.block b hb hn)⟩
theorem Fram.below {S : Nat → Prop} {A B : World} {N : Nat} (h : Fram S A B) (hN : N ≤ A.heap.size) (hS : ∀ b, S b → N ≤ b) : Below N A B := ⟨h.os, h.tape, h.output, h.size, fun b hb => h.block b (by omega) fun e => by have := hS b e; omega⟩
/-- Texts in a list of a call's own, as cells. -/
theorem own_strs {w : World} {base : Nat} {ts : List ByteArray} {v : Value} (h : w.ownsRow base 9 1 v ts.length (ts.map Value.string)) (hs : ∀ t ∈ ts, t.size ≤ 1048577000) (hl : ts.length ≤ 1000000) :
    ∃ a c, v = .slice a ts.length c ∧ Strs w (fun b => base ≤ b ∧ b < w.heap.size) ts a ∧ WStrs w base w.heap.size ts.length a := by
  have hsz : ∀ i, (nth ts i).size ≤ maxLen := fun i => by
    by_cases hi : i < ts.length
    · simp only [nth, List.getD_eq_getElem?_getD, List.getElem?_eq_getElem hi, Option.getD_some]
      have := hs _ (List.getElem_mem hi)
      unfold maxLen; omega
    · simp only [nth, List.getD_eq_getElem?_getD, List.getElem?_eq_none (by omega : ts.length ≤ i), Option.getD_none]
      unfold maxLen; decide
  rcases h.2 with ⟨rfl, h0⟩ | ⟨g, cap, cur, rfl, hb, hh, r⟩
  · have e : ts = [] := List.length_eq_zero_iff.1 h0
    subst e
    exact ⟨none, 0, rfl, ⟨fun h => absurd rfl h, hsz, by unfold maxLen; simp⟩, fun hn => by simp at hn⟩
  · have hlt := (Array.getElem?_eq_some_iff.1 hh).1
    have hc : ∀ i, i < ts.length → w.cell? ⟨g, 0 + i, none⟩ = some (.string (nth ts i)) := fun i hi => by
      have := h.cellAt i (by omega)
      rw [Nat.zero_add, this, List.getElem?_map]
      simp [nth, List.getD_eq_getElem?_getD, hi]
    refine ⟨_, _, rfl, ⟨fun _ => ⟨g, 0, rfl, ⟨hb, hlt⟩, hc⟩, hsz, by unfold maxLen; omega⟩, fun _ => ⟨g, 0, rfl, hb, hlt, fun i hi => ⟨⟨_, hc i hi⟩, h.frozenAt _⟩⟩⟩
theorem texts_inj : ∀ {a b : List ByteArray}, a.map ByteArray.toList = b.map ByteArray.toList → a = b
  | [], [], _ => rfl
  | [], x :: l, h => by simp at h
  | x :: l, [], h => by simp at h
  | x :: l, y :: m, h => by
    simp only [List.map_cons, List.cons.injEq] at h
    rw [bytesInj h.1, texts_inj h.2]

set_option maxRecDepth 20000 in
set_option maxHeartbeats 3200000 in
theorem lawAskWays_walk (ks : List Se) (w : World) (ra : Option Addr) (rc : Nat) (hR : SeReps w (· < w.heap.size) ks ra) (hT : Tab w.heap.size w) :
    Calls Tryd.prog 7 #[.slice ra ks.length rc] w fun e w' => e = .returned (.bool true) ∧ Below w.heap.size w w' := by
  obtain ⟨f0, hf0⟩ := FitS.ex hR
  have HCP := hid_of (fun W (hb : Below w.heap.size w W) => toSelS_nf ks (fun i _ => toSel_any _) W w.heap.size ra rc (hR.under hb) hb.size)
  have HSz := hid_of (szSelS_two ks (fun i _ => szSel_two _) w w.heap.size ra rc 1048576 hR (Nat.le_refl _) (by omega) (by omega))
  clear hR
  go_enter Tryd.func7, Tryd.ntmps7
  go_wp2_with fail
  refine HSz.out.mono ?_
  rintro e w1 ⟨y, rfl, hy0, hy1, hy2, hb1⟩
  have HY := hid_of hy2
  have HT := hid_of hT
  have HF0 := hid_of hf0
  clear hy2 HSz hT hf0
  by_cases hy : y < 0
  · go_wp2_with fail
    go_ret
    exact ⟨rfl, hb1⟩
  obtain ⟨F, hFn, hF⟩ : ∃ F : Nat, F ≤ 1000000000 ∧ Hid (FitS F ks ∧ SmallS F ks) := by
    obtain ⟨-, h2⟩ := HY.out (by omega)
    obtain ⟨F, hF⟩ : ∃ F : Nat, F = 1048576 := ⟨_, rfl⟩
    exact ⟨F, by omega, hid_of ⟨FitS.few f0 HF0.out F (by have := (h2 f0).1; omega), (h2 F).2⟩⟩
  have HCN : Hid (ks.length ≤ 1048576 ∧ ∀ g, cntTo g ks ks.length ≤ 1048576) := hid_of (by
    obtain ⟨h1, h2⟩ := HY.out (by omega)
    exact ⟨by omega, fun g => by have := (h2 g).1; omega⟩)
  clear HY
  go_wp2_with fail
  refine (HCP.out w1 hb1).mono ?_
  rintro e w2 ⟨rfl, hb2, z2, hR2, -⟩
  have bw2 := hb1.trans (hb2.mono hb1.size)
  have HSp := hid_of (AskWaysS_any F ks w2 w2.heap.size (some ⟨w1.heap.size, 0, none⟩) ks.length hF.out.1 hF.out.2 hFn (hR2.sub fun b hb => hb.2) (Nat.le_refl _))
  clear hR2
  go_wp2_with fail
  refine HSp.out.mono ?_
  rintro e w3 ⟨L, v0, rfl, ⟨g0, cap0, rfl, hO0⟩, hL, hb3⟩
  have bw3 := bw2.trans (hb3.mono bw2.size)
  have HO0 := hid_of (And.intro hO0 hL)
  clear HSp hO0 hL
  go_wp2_with fail
  refine (HCP.out w3 bw3).mono ?_
  rintro e w4 ⟨rfl, hb4, z4, hR4, hN4⟩
  have bw4 := bw3.trans (hb4.mono bw3.size)
  have HIm := hid_of (AskWaysI_any F ks _ w4.heap.size (some ⟨w3.heap.size, 0, none⟩) ks.length w4 (askIn_copied hF.out.1 hF.out.2 hFn hR4 hN4 ((HT.out.on bw4).up bw4.size)))
  have HR4 := hid_of (And.intro hR4 hN4)
  clear hR4 hN4
  go_wp2_with fail
  refine HIm.out.mono ?_
  rintro e w5 ⟨L', v5, rfl, hO5, hL5, hsz5, hn5, hb5⟩
  obtain rfl : L' = L := texts_inj (by rw [hL5, HO0.out.2])
  obtain ⟨ga, gc, rfl, hSG, hWG⟩ := own_strs hO5 hsz5 (by omega)
  have z3 := hb3.size
  have z5 := hb5.size
  have bw5 := bw4.trans (hb5.mono bw4.size)
  -- what the model told, in all worlds to come
  have hS0 : Strs w3 (fun b => w2.heap.size ≤ b ∧ b < w3.heap.size) L' (some ⟨g0, 0, none⟩) := by
    obtain ⟨a, c, e, h1, -⟩ := own_strs HO0.out.1 hsz5 (by omega)
    simp only [Value.slice.injEq, true_and] at e
    rw [e.1]; exact h1
  obtain ⟨S1, hS1⟩ : ∃ S : Nat → Prop, ∀ b, S b ↔ (w3.heap.size ≤ b ∧ b < w4.heap.size) := ⟨_, fun b => Iff.rfl⟩
  obtain ⟨S2, hS2⟩ : ∃ S : Nat → Prop, ∀ b, S b ↔ (w3.heap.size ≤ b ∧ b < w5.heap.size) := ⟨_, fun b => Iff.rfl⟩
  have K0 : Hid (∀ W, Fram S2 w5 W → Strs W (fun b => w2.heap.size ≤ b ∧ b < w3.heap.size) L' (some ⟨g0, 0, none⟩)) := hid_of fun W hW => hS0.mono fun k hk => ((hW.block k (by omega) (by rw [hS2]; omega)).trans (hb5.block k (by omega))).trans (hb4.block k hk.2)
  have KG : Hid (∀ W, Fram S1 w5 W → Strs W (fun b => w4.heap.size ≤ b ∧ b < w5.heap.size) L' ga) := hid_of fun W hW => hSG.mono fun k hk => hW.block k hk.2 (by rw [hS1]; omega)
  have KB : Hid (∀ W, Fram S2 w5 W → Below w.heap.size w W) := hid_of fun W hW => bw5.trans (hW.below bw5.size fun b hb => by rw [hS2] at hb; have := bw3.size; omega)
  have K12 : Hid (∀ W, Fram S1 w5 W → Fram S2 w5 W) := hid_of fun W hW => ⟨hW.os, hW.tape, hW.output, hW.size, fun b hb hn => hW.block b hb fun e => hn (by rw [hS1] at e; rw [hS2]; omega)⟩
  have KX : Hid (∀ W, Below w5.heap.size w5 W → SeReps W (fun b => w3.heap.size ≤ b ∧ b < w4.heap.size) ks (some ⟨w3.heap.size, 0, none⟩)) := hid_of fun W hW => HR4.out.1.mono fun k hk => (hW.block k (by omega)).trans (hb5.block k hk.2)
  have KW : Hid (∃ f, ∀ W, Below w5.heap.size w5 W → WSels W w3.heap.size w4.heap.size f ks (some ⟨w3.heap.size, 0, none⟩)) := hid_of (by
    obtain ⟨f, hf⟩ := WSels.of_rep HR4.out.1 HR4.out.2
    exact ⟨f, fun W hW => (hf.keep (MarkedN.of_below 0 0 hb5)).keep (MarkedN.of_below 0 0 hW)⟩)
  have HWG := hid_of hWG
  clear HIm hO5 hL5 hSG hWG hS0
  have HE1 := hid_of (eqStringS_b L' ga _ gc cap0 w5 _ _ (KG.out w5 (Fram.of_below (Below.refl _ _))) (K0.out w5 (Fram.of_below (Below.refl _ _))))
  go_wp2_with fail
  refine HE1.out.mono ?_
  rintro e w6 ⟨rfl, hb6⟩
  clear HE1
  have z6 := hb6.size
  go_wp2_with fail
  refine (HCP.out w6 (KB.out w6 (Fram.of_below hb6))).mono ?_
  rintro e w7 ⟨rfl, hb7, z7, hR7, -⟩
  have bw7 := hb6.trans (hb7.mono z6)
  have HE2 := hid_of (eqSelS_any ks (fun i _ => eqSel_any _) w7 w7.heap.size (some ⟨w3.heap.size, 0, none⟩) (some ⟨w6.heap.size, 0, none⟩) ks.length ks.length ((KX.out w7 bw7).sub fun b hb => by omega) (hR7.sub fun b hb => hb.2) (Nat.le_refl _))
  clear hR7
  go_wp2_with fail
  refine HE2.out.mono ?_
  rintro e w8 ⟨rfl, hb8⟩
  clear HE2
  have bw8 := bw7.trans (hb8.mono bw7.size)
  obtain ⟨fw, hfw⟩ := KW.out
  have HMk := hid_of (markSelS_any fw ks ks.length w3.heap.size w4.heap.size 1 (some ⟨w3.heap.size, 0, none⟩) w8 (hfw w8 bw8) HCN.out.1 HCN.out.2 (by omega) (by have := HCN.out.2 fw; omega))
  clear hfw
  go_wp2_with fail
  refine HMk.out.mono ?_
  rintro e w9 ⟨⟨K9, rfl, hK9, -⟩, hM9⟩
  clear HMk
  have fr9 : Fram S1 w5 w9 := (Fram.of_below bw8).trans (Fram.of_marked hM9.m fun b hb => (hS1 b).2 hb)
  have hK9' : ¬ K9 < 0 := by omega
  have HFR9 := hid_of fr9
  have HE3 := hid_of (eqStringS_b L' ga _ gc cap0 w9 _ _ (KG.out w9 fr9) (K0.out w9 (K12.out w9 fr9)))
  have HW9 := hid_of ((HWG.out.keep (Marked.of_below 0 0 bw8)).keep hM9.m)
  clear hM9 fr9
  go_wp2_with fail
  refine HE3.out.mono ?_
  rintro e w10 ⟨rfl, hb10⟩
  clear HE3
  have HMs := hid_of (markStringS_any L'.length gc 1 w4.heap.size w5.heap.size ga w10 (HW9.out.keep (Marked.of_below 0 0 hb10)) (by omega) (by omega))
  go_wp2_with fail
  refine HMs.out.mono ?_
  rintro e w11 ⟨rfl, hM11, hc11⟩
  clear HMs
  have fr11 : Fram S2 w5 w11 := ((K12.out w9 HFR9.out).trans (Fram.of_below hb10)).trans (Fram.of_marked hM11 fun b hb => by rw [hS2]; omega)
  have HFR11 := hid_of fr11
  have HC11 : Hid (∀ W, Below w11.heap.size w11 W → (0 < L'.length → ∃ b off, ga = some ⟨b, off, none⟩ ∧ ∀ i, i < L'.length → W.cell? ⟨b, off + i, none⟩ = some (.string (mtext (1 + i))))) := hid_of fun W hW hn => by
    obtain ⟨b, off, e, -, -, -⟩ := HWG.out hn
    exact ⟨b, off, e, fun i hi => (hW.cell (cell_block (hc11 b off e i hi))).trans (hc11 b off e i hi)⟩
  have HH1 := hid_of (heldStringS_any L'.length gc 1 ga w11 (HC11.out w11 (Below.refl _ _)) (by omega) (by omega))
  clear hM11 hc11 fr11
  go_wp2_with fail
  refine HH1.out.mono ?_
  rintro e w12 ⟨rfl, hb12⟩
  clear HH1
  have fr12 := HFR11.out.trans (Fram.of_below hb12)
  have HFR12 := hid_of fr12
  clear fr12
  go_wp2_with fail
  refine (HCP.out w12 (KB.out w12 HFR12.out)).mono ?_
  rintro e w13 ⟨rfl, hb13, z13, hR13, hN13⟩
  have b13 := (KB.out w12 HFR12.out).trans (hb13.mono (KB.out w12 HFR12.out).size)
  have HIm2 := hid_of (AskWaysI_any F ks _ w13.heap.size (some ⟨w12.heap.size, 0, none⟩) ks.length w13 (askIn_copied hF.out.1 hF.out.2 hFn hR13 hN13 ((HT.out.on b13).up b13.size)))
  clear hR13 hN13
  go_wp2_with fail
  refine HIm2.out.mono ?_
  rintro e w14 ⟨L2, v14, rfl, hO14, hL14, hsz14, hn14, hb14⟩
  obtain rfl : L2 = L' := texts_inj (by rw [hL14, HO0.out.2])
  obtain ⟨ha, hc, rfl, hSH, -⟩ := own_strs hO14 hsz14 (by omega)
  have b14 := hb13.trans (hb14.mono hb13.size)
  have HFR14 := hid_of (HFR12.out.trans (Fram.of_below b14))
  have HE4 := hid_of (eqStringS_b L2 ha _ hc cap0 w14 _ _ hSH (K0.out w14 HFR14.out))
  clear HIm2 hO14 hL14 hSH
  go_wp2_with fail
  refine HE4.out.mono ?_
  rintro e w15 ⟨rfl, hb15⟩
  clear HE4
  have b15 := (hb12.trans (b14.mono hb12.size)).trans (hb15.mono (by have := hb12.size; have := b14.size; omega))
  have HH2 := hid_of (heldStringS_any L2.length gc 1 ga w15 (HC11.out w15 b15) (by omega) (by omega))
  have HFR15 := hid_of (HFR11.out.trans (Fram.of_below b15))
  go_wp2_with fail
  refine HH2.out.mono ?_
  rintro e w16 ⟨rfl, hb16⟩
  clear HH2
  have HBB := hid_of (KB.out w16 (HFR15.out.trans (Fram.of_below hb16)))
  go_wp2_with fail
  go_ret
  exact ⟨rfl, HBB.out⟩
end Go.Proofs.YtmeopghhgpbhpaaDoor
