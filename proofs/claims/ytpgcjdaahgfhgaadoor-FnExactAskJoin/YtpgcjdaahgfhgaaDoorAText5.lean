/-
  The program's textOfAsk: the text of an ask that is ok.
-/
import Derived.Test.YtpgcjdaahgfhgaaDoorAText4
namespace Go.Proofs.YtpgcjdaahgfhgaaDoor
set_option linter.unusedSimpArgs false
set_option linter.unusedVariables false
open Go.RowKit Go.Shelf Go.Maps

set_option maxHeartbeats 400000 in
theorem newAskText_any (w : World) (P : Nat → Prop) :
    Calls Tryd.prog 40 #[] w fun e w' => ∃ b mb, e = .returned (.pointer (some ⟨b, 0, none⟩)) ∧ w.heap.size ≤ mb ∧ TS w P w.heap.size b mb [] (.slice none 0 0) 0 [] (fun _ => none) w' := by
  have hmm := @run_makeMap Tryd.prog
  go_enter Tryd.func40, Tryd.ntmps40
  go_wp2_with fail
  go_ret
  refine ⟨_, w.heap.size, rfl, Nat.le_refl _, ⟨by omega, _, _, Or.inl rfl, block_new _ _ (by simp), World.ownsRowF_nil _ _ _ _⟩, World.ownsRow_nil _ _ _ _, ?_, below_box2 _ _ _⟩
  exact (OwnsK.made w (KI P)).of_block ((below_box _ _).block _ (by simp))

theorem Tab.up {B : Nat} {w : World} (h : Tab B w) (hB : B ≤ w.heap.size) : Tab w.heap.size w := fun W hW => h W (hW.mono hB)

set_option maxHeartbeats 400000 in
theorem textOfAsk_any (P : Nat → Prop) (f g : Nat) (ks : List Se) (w : World) (kb ko kc : Nat) (hP : ∀ b, P b → b < w.heap.size ∧ Apart w b) (hS : SeReps w P ks (some ⟨kb, ko, none⟩)) (h0 : 0 < ks.length) (hf : FitS f ks) (hok : okTo f g ks ks.length = true) (hR : (txtL f ks).length ≤ 1000) (hTab : Tab w.heap.size w) :
    Calls Tryd.prog 25 #[.slice (some ⟨kb, ko, none⟩) ks.length kc] w fun e w' => e = .returned (.string ⟨(txtL f ks).toArray⟩) ∧ Below w.heap.size w w' := by
  have HN := hid_of (newAskText_any w P)
  go_enter Tryd.func25, Tryd.ntmps25
  go_wp2_with fail
  refine HN.out.mono ?_
  rintro e w1 ⟨b, mb, rfl, hmb, h1⟩
  have HLi := hid_of (list_any w P w.heap.size b mb f g ks w1 kb ko kc h1 hP hS h0 hf hok hR hTab (Nat.le_refl _) hmb)
  clear h1
  go_wp2_with fail
  refine HLi.out.mono ?_
  rintro e w2 ⟨rfl, a2, b2⟩
  have HSt := hid_of (stringA w.heap.size b _ (txtL f ks) w2 a2 (by unfold txtL; simp))
  clear a2
  go_wp2_with fail
  refine HSt.out.mono ?_
  rintro e w3 ⟨rfl, -, b3, -⟩
  have HB := hid_of (b2.trans b3)
  clear b2 b3
  go_wp2_with fail
  go_ret
  exact ⟨rfl, HB.out⟩
end Go.Proofs.YtpgcjdaahgfhgaaDoor
