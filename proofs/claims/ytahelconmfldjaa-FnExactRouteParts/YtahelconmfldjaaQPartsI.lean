/-
  The program's RouteParts.
-/
import Derived.Test.YtahelconmfldjaaQShelf
import Derived.Test.YtahelconmfldjaaQReadyI
import Derived.Test.YtahelconmfldjaaQParts
namespace Go.Proofs.Ytahelconmfldjaa
set_option linter.unusedSimpArgs false
set_option linter.unusedVariables false
open Go.RowKit Go.Maps Go.Sort Go.Shelf

/-- slices.Sort's two contracts at this program, at the fence that asks nothing. -/
theorem sortsL (m : Nat) : AnyZI.SortsIn Try.prog sortedL_ren Fence.wide m :=
  ⟨fun blk off cap ss W hH hblk hsz => callsIn_wide.2 (AnyM.slices_Sort_int sortL blk off cap ss W hH hblk hsz),
   fun p cap W => callsIn_wide.2 (AnyM.slices_Sort_int_none sortL p cap W)⟩

set_option maxHeartbeats 1000000 in
theorem ascending_any (b nn : Nat) (D0 : DataW Unit) (w : World) (hown : w.ownsMap Try.prog 3 unitElem b nn D0) (hmax : Maps.size D0 ≤ maxLen) (hbytes : Maps.size D0 * 8 ≤ 140737488355328) :
    Calls Try.prog 27 #[.map (some b)] w fun e w' => ∃ (v : Value) (ss : List Int), e = .returned v ∧ ss.Perm (intKeys D0) ∧
      w'.ownsRow w.heap.size 3 1 v ss.length ((ss.mergeSort (fun x y => decide (x ≤ y))).map encZ) ∧ Below w.heap.size w w' := by
  refine (callsIn_wide (n := 6)).1 ?_
  have hbl := hown.lt
  have hseq : SeqGives Fence.wide 2 Try.prog 51 #[.pointer (some ⟨w.heap.size, 0, none⟩)] encZ (fun ss => ss.Perm (intKeys D0)) (Maps.size D0) (w.alloc (.cells #[.map (some b)] 52)) :=
    AnyZI.keys_gives (ρ := keysL_ren) { keysL with } Fence.wide _ trivial rfl (by omega) w.heap.size b nn D0 _ (by simp) (by simp) (by
      obtain ⟨es, clock, hb, Ft, hs, hD⟩ := hown
      exact ⟨es, clock, (Below.heap_alloc _ _ b hbl).trans hb, Ft, hs, hD⟩)
  have cK : ∀ mb W, CallsIn Fence.wide 5 Try.prog 44 #[.map mb] W fun e w' => e = .returned (.func (.func 51) #[] #[.pointer (some ⟨W.heap.size, 0, none⟩)]) ∧ w' = W.alloc (.cells #[.map mb] 52) := fun mb W => AnyZI.keys_in keysL Fence.wide 5 trivial rfl mb W
  have cS := AnyZI.sorted_in sortedL Fence.wide 5 trivial trivial trivial trivial rfl (by omega) (sortsL _) (enters_of Try.func50 (by kernel_rfl) rfl) 51 #[.pointer (some ⟨w.heap.size, 0, none⟩)] trivial (enters_of Try.func51 (by kernel_rfl) rfl) _ _ hmax hbytes _ hseq
  change CallsIn _ _ Try.prog 43 _ _ _ at cS
  have hfK : Fence.wide.fn 44 := trivial
  have hfS : Fence.wide.fn 43 := trivial
  refine callsIn_of_wp Try.func27 rfl trivial ?_ rfl
  simp only [Try.ntmps27, List.size_toArray, List.length_cons, List.length_nil, Nat.reduceAdd, Nat.reduceSub, Array.replicate_succ, Array.replicate_zero, List.push_toArray, List.append_toArray, List.nil_append, List.cons_append]
  gi_wp2_with (first
    | (gi_at_call 44; refine (cK _ _).mono ?_; rintro e w' ⟨rfl, rfl⟩)
    | (gi_at_call 43; refine cS.mono ?_; rintro e w' ⟨v, ss, rfl, hS, hrow, hnil, hb⟩))
  go_ret
  exact ⟨v, ss, rfl, hS, ownsRow_base_a hrow (by simp), ((Below.refl _ w).alloc (Nat.le_refl _) _).trans (hb.mono (by simp))⟩

/-- The keys of the set of the parts, sorted, are just these. -/
theorem sorted_rp {w : World} {b m : Nat} (ss : List St) (n : Nat) (hown : w.ownsMap Try.prog 3 unitElem b m (Sd (pl ss) n)) {xs : List Int} (hp : xs.Perm (intKeys (Sd (pl ss) n))) : xs.mergeSort (fun x y => decide (x ≤ y)) = rp ss n := by
  have hc : CollectedI (Sd (pl ss) n) (fun _ => false) (rp ss n) := ⟨(rp_sorted ss n).imp (fun h e => by omega), fun x => by rw [mem_rp, has_Sd]; simp⟩
  have h2 := hc.perm hown lawInt Try.underlying3 (fun _ => rfl)
  have h3 : xs.mergeSort leI = (rp ss n).mergeSort leI := mergeSort_of_perm_i (hp.trans h2.symm)
  have h4 : (rp ss n).mergeSort leI = rp ss n := List.mergeSort_of_pairwise ((rp_sorted ss n).imp (fun h => by simp only [leI, decide_eq_true_eq]; omega))
  exact h3.trans h4

set_option maxRecDepth 20000 in
set_option maxHeartbeats 1600000 in
theorem implParts_any (ss : List St) (w : World) (B : Nat) (a : Option Addr) (c : Nat) (hK : StReps w (· < B) ss a) (hB : B ≤ w.heap.size) (hl : ss.length ≤ 1048576) (hwp : ∀ i, (Lit.int .i64 (pth ss i).part).wf = true) :
    Calls Try.prog 12 #[.slice a ss.length c] w fun e w' => IntsNew w w' (rp ss ss.length) e := by
  have h3 := hK.1
  go_enter Try.func12, Try.ntmps12
  go_wp2_with fail
  refine (setOf_any [] w B none 0 (Ints.nil _ _ _) hB (fun i => by simp [ith]; rfl)).mono ?_
  rintro e w1 ⟨rfl, hown1, b1, hz1⟩
  go_wp2_with fail
  go_loopw [9] (fun i wr => ∃ k : Nat, k ≤ ss.length ∧ i = .int .i64 k ∧ wr.ownsMap Try.prog 3 unitElem w.heap.size k (Sd (pl ss) k) ∧ Below w.heap.size w wr ∧ w.heap.size < wr.heap.size) (fun i _ => ss.length - (intOf i).toNat)
  case atStart => exact ⟨0, Nat.zero_le _, rfl, hown1, b1, hz1⟩
  case round =>
    obtain ⟨k, hk, rfl, hown, hbel, hz⟩ := hrel
    obtain ⟨w0, rfl⟩ : ∃ x, x = wr := ⟨wr, rfl⟩
    by_cases hlt : k < ss.length
    · obtain ⟨-, C, hA, hr⟩ := id hK
      obtain ⟨b, off, rfl, hbB, hc⟩ := hA (by omega)
      have hki : (k : Int) < (ss.length : Int) := by omega
      obtain ⟨wa, sa, aa, ba, wc, sc, ac, bc, e0, e1, e2, e3, e4, e5, hI, hac⟩ := (hr k hlt).pieces
      have hck : ∀ j, j < 6 → w0.cell? ⟨b, off + k * 6 + j, none⟩ = some (C k j) := fun j hj => (hbel.cell (p := ⟨b, off + k * 6 + j, none⟩) (by show b < _; omega)).trans (hc k hlt j hj)
      have hc0 : w0.cell? ⟨b, off + k * 6, none⟩ = some (C k 0) := hck 0 (by omega)
      have hc1 := hck 1 (by omega)
      have hc2 := hck 2 (by omega)
      have hc3 := hck 3 (by omega)
      have hc4 := hck 4 (by omega)
      have hc5 := hck 5 (by omega)
      rw [e0] at hc0
      rw [e1] at hc1
      rw [e2] at hc2
      rw [e3] at hc3
      rw [e4] at hc4
      rw [e5] at hc5
      clear hck hc hA hr e0 e1 e2 e3 e4 e5 hI
      have HM : Hid (w0.ownsMap Try.prog 3 unitElem w.heap.size k (Sd (pl ss) k)) := hown
      have HW : Hid ((Lit.int .i64 (pth ss k).part).wf = true) := hwp k
      have HS : Hid (Sd (pl ss) (k + 1) = (Sd (pl ss) k).put (.int .i64 (pth ss k).part) (.agg [])) := by show _ = _; rw [Sd_succ, ith_pl]
      clear hown
      go_wp2_with (go_at_call 26; refine (add_any _ HW.out _ w.heap.size k _ (owns_under HM.out ((below_box w0 _).block _ hz)) (by unfold maxLen; omega)).mono ?_; rintro e w2 ⟨⟨v, rfl⟩, hown2, hgrow2⟩)
      have z2 := hgrow2.size
      simp at z2
      have b2 : Below w.heap.size w w2 := (hbel.alloc hbel.size _).grown hgrow2 (by simp; omega) (fun j hj => by cases hj; exact Nat.le_refl _)
      go_roundw
      case rel => exact ⟨k + 1, by omega, by go_num, by rw [HS.out]; exact hown2, b2, by omega⟩
      case measure => simp [intOf]; omega
    · have e : k = ss.length := by omega
      subst e
      have hsz := Sd_size (pl ss) ss.length
      have hsr := fun xs (hp : xs.Perm _) => sorted_rp ss ss.length hown (xs := xs) hp
      have z0 := hbel.size
      go_wp2_with (go_at_call 27; refine (ascending_any w.heap.size ss.length _ _ hown (by unfold maxLen; omega) (by omega)).mono ?_; rintro e w2 ⟨v, xs, rfl, hp, hrow, hb2⟩)
      go_ret
      rw [hsr xs hp] at hrow
      have hlen : xs.length = (rp ss ss.length).length := by rw [← hsr xs hp]; simp
      rw [hlen] at hrow
      obtain ⟨ra, rc, rfl⟩ := owns_slice' hrow
      have hrl := rp_len ss ss.length
      have hS := ints_of_owns hrow (by omega)
      refine ⟨ra, rc, rfl, hbel.trans (hb2.mono z0), hS.1.sub fun x hx => by omega, fun h0 => ?_⟩
      obtain ⟨b2, o2, q1, q2, q3, q4⟩ := hS.2 h0
      exact ⟨b2, o2, q1, by omega, q3, q4⟩
end Go.Proofs.Ytahelconmfldjaa
