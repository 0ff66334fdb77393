/-
  The program's AskOk and AskWrite.
-/
import Derived.Test.YtpgcjdaahgfhgaaDoorAOk2
import Derived.Test.YtpgcjdaahgfhgaaDoorAText5
namespace Go.Proofs.YtpgcjdaahgfhgaaDoor
set_option linter.unusedSimpArgs false
set_option linter.unusedVariables false
open Go.RowKit Go.Shelf Go.Maps

/-- An ask in memory that the program may be handed: in blocks that can be told apart, with no long text, and the library's table lies. -/
structure AskIn (f : Nat) (ks : List Se) (P : Nat → Prop) (B : Nat) (ka : Option Addr) (w : World) : Prop where
  fit : FitS f ks
  small : SmallS f ks
  few : f ≤ 1000000000
  rep : SeReps w P ks ka
  apart : ∀ b, P b → b < B ∧ Apart w b
  le : B ≤ w.heap.size
  tab : Tab w.heap.size w
theorem AskIn.on {f : Nat} {ks : List Se} {P : Nat → Prop} {B : Nat} {ka : Option Addr} {w w' : World} (h : AskIn f ks P B ka w) (hb : Below w.heap.size w w') : AskIn f ks P B ka w' := by
  have hs := hb.size
  have hl := h.le
  exact ⟨h.fit, h.small, h.few, h.rep.mono fun k hk => hb.block k (by have := (h.apart k hk).1; omega), fun b hb' => ⟨(h.apart b hb').1, (h.apart b hb').2.of_block (hb.block b (by have := (h.apart b hb').1; omega))⟩, by omega, (h.tab.on hb).up hs⟩
theorem txtL_len {f : Nat} {ks : List Se} (hf : FitS f ks) (h : askB f ks = true) : (txtL f ks).length ≤ 1000 := by
  simp only [askB, Bool.and_eq_true, decide_eq_true_eq] at h
  have := txtTo_len f 1 ks _ (Nat.le_refl _) hf h.1.2
  unfold txtL
  simp
  omega

set_option maxHeartbeats 800000 in
theorem AskOkI_any (f : Nat) (ks : List Se) (P : Nat → Prop) (B : Nat) (ka : Option Addr) (kc : Nat) (w : World) (h : AskIn f ks P B ka w) :
    Calls Tryd.prog 16 #[.slice ka ks.length kc] w fun e w' => e = .returned (.bool (askOk f ks)) ∧ Below w.heap.size w w' := by
  have HA := hid_of (areSelsOk_any f ks w B ka kc h.fit h.small h.few (h.rep.sub fun b hb => (h.apart b hb).1) h.le)
  rw [← askB_walk f ks h.fit] at HA
  cases hb : askB f ks
  · rw [hb] at HA
    have HE : Hid (askOk f ks = false) := hid_of (by rw [askOk, hb]; rfl)
    go_enter Tryd.func16, Tryd.ntmps16
    go_wp2_with fail
    refine HA.out.mono ?_
    rintro e w1 ⟨rfl, hb1⟩
    go_wp2_with fail
    go_ret
    exact ⟨ret_bool (by rw [HE.out]), hb1⟩
  · rw [hb] at HA
    have hb' := hb
    simp only [askB, Bool.and_eq_true, decide_eq_true_eq, Bool.not_eq_true'] at hb'
    have h0 : 0 < ks.length := by
      cases ks with
      | nil => simp at hb'
      | cons a l => simp
    obtain ⟨kb, ko, rfl, -, -⟩ := h.rep.2.choose_spec.1 h0
    have HT := hid_of (fun W (hW : Below w.heap.size w W) => textOfAsk_any P f 1 ks W kb ko kc (fun b hb => ⟨by have := ((h.on hW).apart b hb).1; have := (h.on hW).le; omega, ((h.on hW).apart b hb).2⟩) (h.on hW).rep h0 h.fit hb'.1.2 (txtL_len h.fit hb) (h.on hW).tab)
    have HE : Hid (askOk f ks = decide ((txtL f ks).length ≤ 400)) := hid_of (by rw [askOk, hb]; simp)
    have hsz : (⟨(txtL f ks).toArray⟩ : ByteArray).size = (txtL f ks).length := by simp [ByteArray.size]
    have hl := txtL_len h.fit hb
    clear hb hb'
    generalize txtL f ks = T at *
    go_enter Tryd.func16, Tryd.ntmps16
    go_wp2_with fail
    refine HA.out.mono ?_
    rintro e w1 ⟨rfl, hb1⟩
    go_wp2_with fail
    refine (HT.out w1 hb1).mono ?_
    rintro e w2 ⟨rfl, hb2⟩
    have bw2 := hb1.trans (hb2.mono hb1.size)
    go_wp2_with fail
    go_ret
    exact ⟨ret_bool (by rw [HE.out]; simp; omega), bw2⟩

end Go.Proofs.YtpgcjdaahgfhgaaDoor
