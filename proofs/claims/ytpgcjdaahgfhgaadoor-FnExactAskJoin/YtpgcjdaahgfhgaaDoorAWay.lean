/-
  The program's wayText.
-/
import Derived.Test.YtpgcjdaahgfhgaaDoorATell3
import Derived.Test.YtpgcjdaahgfhgaaDoorIShelf
namespace Go.Proofs.YtpgcjdaahgfhgaaDoor
set_option linter.unusedSimpArgs false
set_option linter.unusedVariables false
open Go.RowKit Go.Shelf

theorem joinW_lib : ∀ way : Way, Lib.join (way.map (·.data.toList)) [47] = joinW way
  | [] => rfl
  | [a] => by simp [Lib.join, List.intercalate, joinW, ByteArray.toList_eq]
  | a :: b :: l => by
    have ih := joinW_lib (b :: l)
    rw [joinW, ← ih, ByteArray.toList_eq]
    simp [Lib.join, List.intercalate]
theorem joinW_len : ∀ way : Way, (∀ a ∈ way, a.size ≤ 1048576) → (joinW way).length ≤ 1048577 * way.length
  | [], _ => by simp [joinW]
  | [a], h => by
    have := h a (by simp)
    rw [joinW, toList_len]; simp; omega
  | a :: b :: l, h => by
    have h1 := h a (by simp)
    have ih := joinW_len (b :: l) (fun x hx => h x (List.mem_cons_of_mem _ hx))
    rw [joinW, List.length_append, List.length_cons, toList_len]
    simp only [List.length_cons] at ih ⊢
    omega

set_option maxHeartbeats 400000 in
theorem wayText_any (way : Way) (wa : Option Addr) (wc : Nat) (w : World) (hS : Strs w (· < w.heap.size) way wa) (hne : way ≠ []) (hc : way.length ≤ wc) (hl : way.length ≤ 1000) (hsm : ∀ a ∈ way, a.size ≤ 1048576) :
    Calls Tryd.prog 38 #[.slice wa way.length wc] w fun e w' => (∃ t : ByteArray, e = .returned (.string t) ∧ t.toList = joinW way ∧ t.size ≤ 1048577000) ∧ Below w.heap.size w w' := by
  obtain ⟨b, off, rfl, hb, hcl⟩ := hS.1 hne
  have hj := joinW_len way hsm
  have HJ := hid_of (join_any b off wc way ⟨#[47]⟩ w (fun j x hx => by
    obtain ⟨hj, rfl⟩ := List.getElem?_eq_some_iff.1 hx
    have := hcl j hj
    simpa [nth, List.getD_eq_getElem?_getD, hj] using this) hb (by omega) hc (by show (Lib.join (way.map (·.data.toList)) [47]).length ≤ _; rw [joinW_lib]; omega))
  go_enter Tryd.func38, Tryd.ntmps38
  go_wp2_with fail
  refine HJ.out.mono ?_
  rintro e w1 ⟨rfl, hb1⟩
  have HB := hid_of hb1
  clear hb1
  go_wp2_with fail
  go_ret
  refine ⟨⟨_, rfl, ?_, ?_⟩, HB.out⟩
  · rw [ByteArray.toList_eq]
    exact joinW_lib way
  · show (Lib.join (way.map (·.data.toList)) [47]).toArray.size ≤ _
    rw [joinW_lib]; simp; omega
end Go.Proofs.YtpgcjdaahgfhgaaDoor
