import Derived.Test.YtpgcjdaahgfhgaaDoorAFit
import Derived.Test.YtpgcjdaahgfhgaaDoorABase
import Derived.Test.YtpgcjdaahgfhgaaDoorAAsk
import Derived.Test.YtpgcjdaahgfhgaaDoorJ7
namespace Go.Proofs.YtpgcjdaahgfhgaaDoor
set_option linter.unusedSimpArgs false
set_option linter.unusedVariables false
open Go.RowKit

/-- What szSel does with a field. -/
def SzOk2 (x : Se) : Prop := ∀ (w : World) (B : Nat) (v : Value) (left : Int), SeRep w (· < B) x v → B ≤ w.heap.size → 0 ≤ left → left ≤ 1048576 →
  Calls Tryd.prog 11 #[v, .int .i64 left] w fun e w' => ∃ y : Int, e = .returned (.int .i64 y) ∧ -1 ≤ y ∧ y ≤ left ∧ (0 ≤ y → x.al.size ≤ 1048576 ∧ x.name.size ≤ 1048576 ∧ ∀ f, y + cntSe f x ≤ left + 1 ∧ SmallS f x.kids) ∧ Below w.heap.size w w'

set_option maxHeartbeats 800000 in
theorem szSelS_two (ks : List Se) (IH : ∀ i, i < ks.length → SzOk2 (sth ks i)) (w : World) (B : Nat) (a : Option Addr) (c : Nat) (left : Int) (hK : SeReps w (· < B) ks a) (hB : B ≤ w.heap.size) (hl0 : 0 ≤ left) (hl1 : left ≤ 1048576) :
    Calls Tryd.prog 4 #[.slice a ks.length c, .int .i64 left] w fun e w' => ∃ y : Int, e = .returned (.int .i64 y) ∧ -1 ≤ y ∧ y ≤ left ∧ (0 ≤ y → y + ks.length ≤ left ∧ ∀ f, y + cntTo f ks ks.length ≤ left ∧ SmallS f ks) ∧ Below w.heap.size w w' := by
  obtain ⟨h3, C, hA, hr⟩ := hK
  by_cases hbig : left < ks.length
  · go_enter Tryd.func4, Tryd.ntmps4
    go_wp2_with fail
    go_ret
    exact ⟨-1, rfl, by omega, by omega, by omega, Below.refl _ _⟩
  · go_enter Tryd.func4, Tryd.ntmps4
    go_wp2_with fail
    go_loopw [1, 5] (fun l i wr => ∃ (k : Nat) (x : Int), k ≤ ks.length ∧ i = .int .i64 k ∧ l = .int .i64 x ∧ 0 ≤ x ∧ x + ks.length ≤ left ∧ Hid (∀ f, x + cntTo f ks k + ks.length ≤ left + k ∧ ∀ i, i < k → (sth ks i).al.size ≤ 1048576 ∧ (sth ks i).name.size ≤ 1048576 ∧ SmallS f (sth ks i).kids) ∧ Below w.heap.size w wr) (fun _ i _ => ks.length - (intOf i).toNat)
    case atStart => exact ⟨0, _, Nat.zero_le _, rfl, rfl, by omega, by omega, fun f => ⟨by simp [cntTo], fun i hi => by omega⟩, Below.refl _ _⟩
    case round =>
      obtain ⟨k, x, hk, rfl, rfl, hx0, hx1, HX, hbel⟩ := hrel
      by_cases hlt : k < ks.length
      · obtain ⟨b, off, rfl, hbB, hc⟩ := hA (by omega)
        have hck : ∀ j, j < 5 → wr.cell? ⟨b, off + k * 5 + j, none⟩ = some (C k j) := fun j hj => (hbel.cell (p := ⟨b, off + k * 5 + j, none⟩) (by show b < _; omega)).trans (hc k hlt j hj)
        have hc0 : wr.cell? ⟨b, off + k * 5, none⟩ = some (C k 0) := hck 0 (by omega)
        have hc1 := hck 1 (by omega)
        have hc2 := hck 2 (by omega)
        have hc3 := hck 3 (by omega)
        have hc4 := hck 4 (by omega)
        clear hck hc
        go_wp2_with (go_at_call 11; refine (IH k hlt _ B _ x ((hr k hlt).under (hbel.mono hB)) (by have := hbel.size; omega) hx0 (by omega)).mono ?_; rintro e w' ⟨y, rfl, hy0, hy1, hy2', hby⟩; have hy2 := hid_of hy2'; clear hy2')
        · go_ret
          exact ⟨-1, rfl, by omega, by omega, by omega, hbel.trans (hby.mono hbel.size)⟩
        · go_roundw
          case rel =>
            rename_i hy
            refine ⟨k + 1, y, by omega, by go_num, rfl, hy, by omega, fun f => ?_, hbel.trans (hby.mono hbel.size)⟩
            obtain ⟨g1, g2⟩ := HX.out f
            obtain ⟨g3, g4, g5⟩ := hy2.out hy
            refine ⟨by have := (g5 f).1; rw [cntTo_succ]; omega, fun i hi => ?_⟩
            by_cases e : i = k
            · subst e; exact ⟨g3, g4, (g5 f).2⟩
            · exact g2 i (by omega)
          case measure => simp [intOf]; omega
      · go_wp2_with fail
        go_ret
        have e : k = ks.length := by omega
        refine ⟨x, rfl, by omega, by omega, fun _ => ⟨by omega, fun f => ?_⟩, hbel⟩
        obtain ⟨g1, g2⟩ := HX.out f
        rw [e] at g1 g2
        refine ⟨by omega, ?_⟩
        cases f with
        | zero => trivial
        | succ f => exact fun i hi => ⟨(g2 i hi).1, (g2 i hi).2.1, ((HX.out f).2 i (by omega)).2.2⟩

set_option maxHeartbeats 400000 in
theorem szSel_step2 (s n : ByteArray) (o : Bool) (id : Int) (ks : List Se) (IH : ∀ i, i < ks.length → SzOk2 (sth ks i)) : SzOk2 (.mk s n o id ks) := by
  intro w B v left hR hB hl0 hl1
  obtain ⟨ka, kc, rfl, hs, hn, hK⟩ := hR.inv
  clear hR
  unfold maxLen at hs hn
  by_cases h1 : left < s.size
  · go_enter Tryd.func11, Tryd.ntmps11
    go_wp2_with fail
    go_ret
    exact ⟨-1, rfl, by omega, by omega, by omega, below_box _ _⟩
  by_cases h2 : left - s.size < n.size
  · go_enter Tryd.func11, Tryd.ntmps11
    go_wp2_with fail
    go_ret
    exact ⟨-1, rfl, by omega, by omega, by omega, below_box _ _⟩
  go_enter Tryd.func11, Tryd.ntmps11
  go_wp2_with (go_at_call 4; refine (szSelS_two ks IH _ B ka kc _ (hK.under ((below_box w _).mono hB)) (by simp; omega) (by omega) (by omega)).mono ?_; rintro e w' ⟨y, rfl, hy0, hy1, hy2', hb⟩; have hy2 := hid_of hy2'; clear hy2')
  · go_ret
    exact ⟨-1, rfl, by omega, by omega, by omega, (below_box w _).trans (hb.mono (by simp))⟩
  · go_ret
    refine ⟨y, rfl, by omega, by omega, fun h => ⟨by show s.size ≤ _; omega, by show n.size ≤ _; omega, fun f => ?_⟩, (below_box w _).trans (hb.mono (by simp))⟩
    obtain ⟨-, g2⟩ := hy2.out h
    refine ⟨?_, (g2 f).2⟩
    cases f with
    | zero => simp [cntSe]; omega
    | succ f => have := (g2 f).1; rw [cntSe_kids]; simp only; omega

theorem sz_all2 (m : Nat) : ∀ x : Se, SizeOf.sizeOf x < m → SzOk2 x := by
  induction m with
  | zero => intro x h; omega
  | succ m ih =>
    intro x h
    match x, h with
    | .mk s n o id ks, h => exact szSel_step2 s n o id ks fun i hi => ih _ (by have := sth_lt ks i hi; simp at h; omega)
theorem szSel_two (x : Se) : SzOk2 x := sz_all2 _ x (Nat.lt_succ_self _)
end Go.Proofs.YtpgcjdaahgfhgaaDoor

namespace Go.Proofs.YtpgcjdaahgfhgaaDoor
set_option linter.unusedSimpArgs false
set_option linter.unusedVariables false
open Go.RowKit Go.Shelf Go.Maps

theorem seN_apart {w : World} {P : Nat → Prop} (hF : ∀ b, P b → ∀ a : Addr, a.block = b → w.frozen? a = false) : ∀ {f : Nat} {x : Se} {v : Value}, SeN w P f x v → SeN w (fun b => P b ∧ Apart w b) f x v
  | 0, _, _, h => h.elim
  | f + 1, x, v, h => by
    obtain ⟨ka, kc, C, h1, h2, h3, h4, hA, hr⟩ := h
    refine ⟨ka, kc, C, h1, h2, h3, h4, fun hl => ?_, fun i hi => seN_apart hF (hr i hi)⟩
    obtain ⟨b, off, e, hb, hc⟩ := hA hl
    exact ⟨b, off, e, ⟨hb, Apart.of_cell (hc 0 hl 0 (by omega)) (hF b hb)⟩, hc⟩
theorem seReps_apart {w : World} {P : Nat → Prop} {ks : List Se} {a : Option Addr} (hF : ∀ b, P b → ∀ a : Addr, a.block = b → w.frozen? a = false) (h : SeReps w P ks a) : SeReps w (fun b => P b ∧ Apart w b) ks a := by
  obtain ⟨h0, C, hA, hr⟩ := h
  refine ⟨h0, C, fun hl => ?_, fun i hi => ?_⟩
  · obtain ⟨b, off, e, hb, hc⟩ := hA hl
    exact ⟨b, off, e, ⟨hb, Apart.of_cell (hc 0 hl 0 (by omega)) (hF b hb)⟩, hc⟩
  · obtain ⟨f, hf⟩ := hr i hi
    exact ⟨f, seN_apart hF hf⟩
/-- What was copied may be handed on. -/
theorem askIn_copied {f : Nat} {ks : List Se} {a : Option Addr} {N : Nat} {w : World} (hf : FitS f ks) (hs : SmallS f ks) (hfew : f ≤ 1000000000) (hR : SeReps w (fun b => N ≤ b ∧ b < w.heap.size) ks a) (hN : NF N w) (hT : Tab w.heap.size w) :
    AskIn f ks (fun b => (N ≤ b ∧ b < w.heap.size) ∧ Apart w b) w.heap.size a w :=
  ⟨hf, hs, hfew, seReps_apart (fun b hb a ha => hN a (by omega)) hR, fun b hb => ⟨hb.1.2, hb.2⟩, Nat.le_refl _, hT⟩
end Go.Proofs.YtpgcjdaahgfhgaaDoor

namespace Go.Proofs.YtpgcjdaahgfhgaaDoor
set_option linter.unusedSimpArgs false
set_option linter.unusedVariables false
open Go.RowKit Go.Shelf Go.Maps

theorem frozen_off {w : World} {g : Nat} (h : ∀ j, w.frozen? ⟨g, j, none⟩ = false) (a : Addr) (ha : a.block = g) : w.frozen? a = false := by
  obtain ⟨b, o, k⟩ := a
  have e : b = g := ha
  subst e
  exact h o
/-- A tree of its own may be handed on: none of its blocks is frozen. -/
theorem OwnT.apart : ∀ {f : Nat} {w : World} {Q : Nat → Prop} {ks : List Se} {a : Option Addr}, OwnT f w Q ks a → OwnT f w (fun b => Q b ∧ Apart w b) ks a
  | 0, _, _, _, _, h => h
  | f + 1, w, Q, ks, a, h => ⟨h.1, fun hn => by
    obtain ⟨g, R, A, c, h1, h2, h3, h4, h5, h6⟩ := h.2 hn
    refine ⟨g, fun i b => R i b ∧ Apart w b, A, c, h1, ⟨h2, Apart.of_cell (h6 0 hn).1.1 (frozen_off h3)⟩, h3, fun i hi b hb => ⟨⟨(h4 i hi b hb.1).1, hb.2⟩, (h4 i hi b hb.1).2⟩, fun i j hi hj hij b hb hb2 => h5 i j hi hj hij b hb.1 hb2.1, fun i hi => ?_⟩
    obtain ⟨k1, k2, k3, k4⟩ := h6 i hi
    exact ⟨k1, k2, k3, k4.apart⟩⟩
theorem askIn_own {f : Nat} {ks : List Se} {a : Option Addr} {Q : Nat → Prop} {w : World} (hf : FitS f ks) (hs : SmallS f ks) (hfew : f ≤ 1000000000) (hO : OwnT f w Q ks a) (hQ : ∀ b, Q b → b < w.heap.size) (hT : Tab w.heap.size w) :
    AskIn f ks (fun b => Q b ∧ Apart w b) w.heap.size a w := ⟨hf, hs, hfew, hO.apart.reps, fun b hb => ⟨hQ b hb.1, hb.2⟩, Nat.le_refl _, hT⟩

set_option maxHeartbeats 1600000 in
theorem AskJoinI_any (f : Nat) (a b : List Se) (P P' : Nat → Prop) (B B' : Nat) (ka kb : Option Addr) (kc kd : Nat) (w : World) (h : AskIn f a P B ka w) (h' : AskIn f b P' B' kb w) :
    Calls Tryd.prog 7 #[.slice ka a.length kc, .slice kb b.length kd] w fun e w' => JEnd f w (askJoin f a b) e w' := by
  have HO := hid_of (AskOkI_any f a P B ka kc w h)
  have HO' := hid_of (fun W (hW : Below w.heap.size w W) => AskOkI_any f b P' B' kb kd W (h'.on hW))
  cases ho : askOk f a
  · rw [ho] at HO
    have HE : Hid (askJoin f a b = none) := hid_of (by rw [askJoin, ho]; rfl)
    go_enter Tryd.func7, Tryd.ntmps7
    go_wp2_with fail
    refine HO.out.mono ?_
    rintro e w1 ⟨rfl, hb1⟩
    go_wp2_with fail
    go_ret2
    rw [HE.out]
    exact ⟨hb1, Or.inl ⟨rfl, rfl⟩⟩
  rw [ho] at HO
  cases ho' : askOk f b
  · rw [ho'] at HO'
    have HE : Hid (askJoin f a b = none) := hid_of (by rw [askJoin, ho, ho']; rfl)
    go_enter Tryd.func7, Tryd.ntmps7
    go_wp2_with fail
    refine HO.out.mono ?_
    rintro e w1 ⟨rfl, hb1⟩
    go_wp2_with fail
    refine (HO'.out w1 hb1).mono ?_
    rintro e w2 ⟨rfl, hb2⟩
    have hb02 := hb1.trans (hb2.mono hb1.size)
    go_wp2_with fail
    go_ret2
    rw [HE.out]
    exact ⟨hb02, Or.inl ⟨rfl, rfl⟩⟩
  rw [ho'] at HO'
  have hca : cntTo f a a.length ≤ 24 := by
    simp only [askOk, askB, Bool.and_eq_true, decide_eq_true_eq] at ho
    exact ho.1.2
  have hcb : cntTo f b b.length ≤ 24 := by
    simp only [askOk, askB, Bool.and_eq_true, decide_eq_true_eq] at ho'
    exact ho'.1.2
  have HE : Hid (askJoin f a b = (joinF f a b).bind fun x => if askOk f x = true then some x else none) := hid_of (by rw [askJoin, ho, ho']; rfl)
  have HJ := hid_of (fun W (hW : Below w.heap.size w W) => show Calls Tryd.prog 17 #[.slice ka a.length kc, .slice kb b.length kd, .agg #[.func (.func 26) #[] #[], .func (.func 30) #[] #[], .func (.func 31) #[] #[], .func (.func 32) #[] #[]]] W _ from joinTrees_any f a b W ka kb kc kd h.fit h'.fit (by omega) ((h.on hW).rep.sub fun j hj => by have := (h.apart j hj).1; have := h.le; have := hW.size; omega) ((h'.on hW).rep.sub fun j hj => by have := (h'.apart j hj).1; have := h'.le; have := hW.size; omega))
  have HT := hid_of h.tab
  have HFI := hid_of (fun x (hx : joinF f a b = some x) => And.intro (joinF_fit f h.fit h'.fit hx) (joinF_small f h.small h'.small hx))
  have hfew := h.few
  have HSP := hid_of (fun W => selPairs_any W)
  unfold pairsS at HSP
  clear hca hcb ho ho' h h'
  go_enter Tryd.func7, Tryd.ntmps7
  go_wp2_with fail
  refine HO.out.mono ?_
  rintro e w1 ⟨rfl, hb1⟩
  go_wp2_with fail
  refine (HO'.out w1 hb1).mono ?_
  rintro e w2 ⟨rfl, hb2⟩
  have hb02 := hb1.trans (hb2.mono hb1.size)
  clear hb1 hb2 HO HO'
  go_wp2_with fail
  refine (HSP.out w2).mono ?_
  rintro e w3 ⟨rfl, hb3⟩
  have hb03 := hb02.trans (hb3.mono hb02.size)
  clear hb02 hb3
  go_wp2_with fail
  refine (HJ.out w3 hb03).mono ?_
  rintro e w4 ⟨hb4, hend⟩
  have hb04 := hb03.trans (hb4.mono hb03.size)
  have z3 := hb03.size
  have z4 := hb4.size
  clear hb4 HJ HSP
  rcases hend with ⟨hn, rfl⟩ | ⟨L, r, rc, hs, rfl, hO⟩
  · have HE2 := hid_of (show askJoin f a b = none by rw [HE.out, hn]; rfl)
    clear hn
    go_wp2_with fail
    go_ret2
    exact ⟨hb04, Or.inl ⟨HE2.out, rfl⟩⟩
  have HOK := hid_of (AskOkI_any f L _ w4.heap.size r rc w4 (askIn_own (HFI.out L hs).1 (HFI.out L hs).2 hfew hO (fun b hb => hb.2) ((HT.out.on hb04).up hb04.size)))
  have HO := hid_of hO
  have HS := hid_of hs
  clear hO hs
  cases hok : askOk f L
  · rw [hok] at HOK
    have HE2 := hid_of (show askJoin f a b = none by rw [HE.out, HS.out]; simp [hok])
    go_wp2_with fail
    refine HOK.out.mono ?_
    rintro e w5 ⟨rfl, hb5⟩
    have hb05 := hb04.trans (hb5.mono hb04.size)
    go_wp2_with fail
    go_ret2
    exact ⟨hb05, Or.inl ⟨HE2.out, rfl⟩⟩
  · rw [hok] at HOK
    have HE2 := hid_of (show askJoin f a b = some L by rw [HE.out, HS.out]; simp [hok])
    go_wp2_with fail
    refine HOK.out.mono ?_
    rintro e w5 ⟨rfl, hb5⟩
    have hb05 := hb04.trans (hb5.mono hb04.size)
    have HO5 := hid_of ((HO.out.keep fun b hb => hb5.block b hb.2).sub (Q' := fun b => w.heap.size ≤ b ∧ b < w5.heap.size) fun b hb => by have := hb5.size; omega)
    go_wp2_with fail
    go_ret2
    exact ⟨hb05, Or.inr ⟨L, r, rc, HE2.out, rfl, HO5.out⟩⟩
end Go.Proofs.YtpgcjdaahgfhgaaDoor
