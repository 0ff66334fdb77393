/-
  The program's selsOf: the iterator over all that is asked for.
-/
import Derived.Test.YtpgcjdaahgfhgaaDoorATell2
namespace Go.Proofs.YtpgcjdaahgfhgaaDoor
set_option linter.unusedSimpArgs false
set_option linter.unusedVariables false
open Go.RowKit Go.Shelf
attribute [local go_sem] Oper.semAt_some

set_option maxHeartbeats 400000 in
theorem selsOf_any (w : World) (ka : Option Addr) (kl kc : Nat) :
    Calls Tryd.prog 36 #[.slice ka kl kc] w fun e w' => e = .returned (.func (.func 46) #[] #[.pointer (some ⟨w.heap.size, 0, none⟩)]) ∧ w' = w.alloc (.cells #[.slice ka kl kc] 24) := by
  go_enter Tryd.func36, Tryd.ntmps36
  go_wp2_with fail
  go_ret
  exact ⟨rfl, rfl⟩

set_option maxRecDepth 20000 in
set_option maxHeartbeats 800000 in
theorem selsOf1_any (f : Nat) (ks : List Se) (l : Nat) (J : List (Way × Se) → (Nat → Prop) → World → Prop) (Jx : World → Prop) (lo : Nat) (hJg : ∀ pre O, Grows (J pre O)) (hJO : ∀ pre O A, J pre O A → ∀ b, O b → b < A.heap.size)
    (hY : ∀ (n : Nat) pre O x ar A, J pre O A → pre ++ [x] <+: preTo f [] ks ks.length → ArgT x ar A → YieldAt Fence.wide n Tryd.prog l ar A fun e B => ∃ go, e = .returned (.bool go) ∧ Told J Jx O pre x A go B)
    (n : Nat) (O : Nat → Prop) (W : World) (ka : Option Addr) (kc sb : Nat) (hf : FitS f ks) (hsm : SmallS f ks) (hR : SeReps W (· < lo) ks ka) (hlo : lo ≤ W.heap.size) (hbd : f ≤ 1000000000) (hJ : J [] O W) (hO : ∀ b, O b → lo ≤ b) (hs : W.cell? ⟨sb, 0, none⟩ = some (.slice ka ks.length kc)) :
    CallsIn Fence.wide n Tryd.prog 46 #[.func (.yield l) #[] #[], .pointer (some ⟨sb, 0, none⟩)] W fun e W' => (∃ v, e = .returned v) ∧ ((∃ O', J (preTo f [] ks ks.length) O' W') ∨ Jx W') := by
  have hT := tellSels_any (preTo f [] ks ks.length) l J Jx lo hJg hJO hY f (n - 1) [] ks [] O W none 0 ka kc hf hsm (fun a ha => by simp at ha) hR hlo ⟨fun h => absurd rfl h, fun i => by simp [nth], by unfold maxLen; simp⟩ (by simpa using hbd) hJ hO (by simp)
  have HT := hid_of hT
  clear hT
  refine callsIn_of_wp Tryd.func46 rfl trivial ?_ rfl
  simp only [Tryd.ntmps46, List.size_toArray, List.length_cons, List.length_nil, Nat.reduceAdd, Nat.reduceSub, Array.replicate_succ, Array.replicate_zero, List.push_toArray, List.append_toArray, List.nil_append, List.cons_append]
  gi_wp2
  refine ⟨trivial, (fun h => by cases h), HT.out.mono ?_⟩
  rintro e C ⟨go, rfl, hT⟩
  have HC : Hid ((∃ O', J (preTo f [] ks ks.length) O' C) ∨ Jx C) := hid_of (by
    rcases hT with ⟨-, O3, hJ3, -⟩ | ⟨-, hjx⟩
    · exact Or.inl ⟨O3, by simpa using hJ3⟩
    · exact Or.inr hjx)
  clear hT
  gi_wp2
  refine bodyPost_end (v := .tuple #[]) ?res rfl ⟨⟨_, rfl⟩, HC.out⟩
  case res => simp [results, Tryd.results46, go_sem]
end Go.Proofs.YtpgcjdaahgfhgaaDoor
