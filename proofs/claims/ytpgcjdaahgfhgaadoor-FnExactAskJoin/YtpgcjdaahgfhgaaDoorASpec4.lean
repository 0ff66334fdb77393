/-
  The model's AskOk and AskWrite.
-/
import Derived.Test.YtpgcjdaahgfhgaaDoorASpec3
namespace Go.Proofs.YtpgcjdaahgfhgaaDoor
set_option linter.unusedSimpArgs false
set_option linter.unusedVariables false
open Go.RowKit

/-- An ask is ok, as it is meant. -/
def askOk (f : Nat) (ks : List Se) : Bool := askB f ks && decide ((txtL f ks).length ≤ 400)
/-- An ask's text, nothing if it is not ok. -/
def askTxt (f : Nat) (ks : List Se) : List UInt8 := if askOk f ks = true then txtL f ks else []
theorem FitS.ex {w : World} {P : Nat → Prop} {ks : List Se} {a : Option Addr} (h : SeReps w P ks a) : ∃ f, FitS f ks := by
  obtain ⟨-, C, -, hr⟩ := h
  obtain ⟨g, hg⟩ := se_bound ks.length hr
  cases g with
  | zero =>
    cases ks with
    | nil => exact ⟨0, rfl⟩
    | cons a l => exact (hg 0 (by simp)).elim
  | succ g => exact ⟨g + 1, fun i hi => FitS.of_rep (hg i hi)⟩
theorem askB_l3 {f : Nat} {ks : List Se} {x : Int} (h : L3P f 1 ks 24 x) (h0 : 0 < ks.length) : askB f ks = decide (0 ≤ x) := by
  obtain ⟨h1, -, -, -⟩ := h
  rw [Bool.eq_iff_iff, decide_eq_true_eq, h1, askB, Bool.and_eq_true, Bool.and_eq_true, decide_eq_true_eq]
  have hne : ks.isEmpty = false := by cases ks with
    | nil => simp at h0
    | cons a l => rfl
  rw [hne]
  simp
  omega

set_option maxRecDepth 20000 in
set_option maxHeartbeats 1600000 in
theorem AskOkS_any (f : Nat) (ks : List Se) (w : World) (B : Nat) (ka : Option Addr) (kc : Nat) (hf : FitS f ks) (hR : SeReps w (· < B) ks ka) (hB : B ≤ w.heap.size) :
    Calls Tryd.prog 12 #[.slice ka ks.length kc] w fun e w' => e = .returned (.bool (askOk f ks)) ∧ Below w.heap.size w w' := by
  have hL := fun W (hW : Below w.heap.size w W) => l3Ok_any f 1 ks W B ka kc 24 hf (hR.under (hW.mono hB)) (by have := hW.size; omega) (by omega) (by omega) (by omega)
  have hWr := fun W (hW : Below w.heap.size w W) h1 h2 => l3Write_any f 1 ks W B ka kc hf (hR.under (hW.mono hB)) (by have := hW.size; omega) h1 h2
  have HL := hid_of hL
  have HWr := hid_of hWr
  clear hL hWr
  by_cases h0 : 0 < ks.length
  case neg =>
    have e : ks = [] := List.length_eq_zero_iff.1 (by omega)
    subst e
    have HE : Hid (askOk f [] = false) := hid_of (by simp [askOk, askB])
    go_enter Tryd.func12, Tryd.ntmps12
    go_wp2_with fail
    go_ret
    exact ⟨ret_bool (by rw [HE.out]), Below.refl _ _⟩
  have hl0 : (0 : Int) < (ks.length : Int) := by omega
  have h48 := hR.1
  go_enter Tryd.func12, Tryd.ntmps12
  go_wp2_with fail
  refine (HL.out w (Below.refl _ _)).mono ?_
  rintro e w1 ⟨⟨x, rfl, hP⟩, hb1⟩
  have HB := hid_of (askB_l3 hP h0)
  have HP := hid_of hP
  clear hP
  by_cases hx : 0 ≤ x
  case neg =>
    have hx' : ¬ x ≥ 0 := by omega
    have HE : Hid (askOk f ks = false) := hid_of (by rw [askOk, HB.out]; simp [hx])
    go_wp2_with fail
    go_ret
    exact ⟨ret_bool (by rw [HE.out]), hb1⟩
  have hx' : x ≥ 0 := hx
  obtain ⟨-, q2, q3⟩ := HP.out.1.1 hx
  have HW := hid_of (HWr.out w1 hb1 q2 (by omega))
  go_wp2_with fail
  refine HW.out.mono ?_
  rintro e w2 ⟨⟨t, rfl, ht, htz⟩, hb2⟩
  have bw2 := hb1.trans (hb2.mono hb1.size)
  have HT := hid_of (show t.size = (txtL f ks).length by rw [← ht, toList_len])
  by_cases h4 : t.size ≤ 400
  · have h4i : (t.size : Int) ≤ 400 := by omega
    have HE : Hid (askOk f ks = true) := hid_of (by rw [askOk, HB.out, ← HT.out]; simp [hx, h4])
    go_wp2_with fail
    go_ret
    exact ⟨ret_bool (by rw [HE.out]; try (simp only [decide_eq_false_iff_not]; omega)), bw2⟩
  · have h4i : ¬ (t.size : Int) ≤ 400 := by omega
    have HE : Hid (askOk f ks = false) := hid_of (by rw [askOk, HB.out, ← HT.out]; simp [hx, h4])
    go_wp2_with fail
    go_ret
    exact ⟨ret_bool (by rw [HE.out]; try (simp only [decide_eq_false_iff_not]; omega)), bw2⟩

end Go.Proofs.YtpgcjdaahgfhgaaDoor
