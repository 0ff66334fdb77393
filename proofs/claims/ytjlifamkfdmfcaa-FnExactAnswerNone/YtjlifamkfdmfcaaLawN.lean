/-
  The law of AnswerNone, walked: for every answer it returns true and writes nothing that was there.
-/
import Derived.Test.YtjlifamkfdmfcaaNoneI
import Derived.Test.YtjlifamkfdmfcaaAnRep
namespace Go.Proofs.Ytjlifamkfdmfcaa
set_option linter.unusedSimpArgs false
set_option linter.unusedVariables false
open Go.RowKit

/-- Six cells of a block. -/
def Hex (w : World) (N : Nat) (c0 c1 c2 c3 c4 c5 : Value) : Prop :=
  w.cell? ⟨N, 0, none⟩ = some c0 ∧ w.cell? ⟨N, 1, none⟩ = some c1 ∧ w.cell? ⟨N, 2, none⟩ = some c2 ∧ w.cell? ⟨N, 3, none⟩ = some c3 ∧ w.cell? ⟨N, 4, none⟩ = some c4 ∧ w.cell? ⟨N, 5, none⟩ = some c5
theorem Hex.new (w : World) (c0 c1 c2 c3 c4 c5 : Value) (T : TypeId) : Hex (w.alloc (.cells #[c0, c1, c2, c3, c4, c5] T)) w.heap.size c0 c1 c2 c3 c4 c5 := by
  simp [Hex]
theorem Hex.keep {w w' : World} {N : Nat} {c0 c1 c2 c3 c4 c5 : Value} (h : Hex w N c0 c1 c2 c3 c4 c5) (hb : Below w.heap.size w w') (hN : N < w.heap.size) : Hex w' N c0 c1 c2 c3 c4 c5 :=
  ⟨(hb.cell (p := ⟨N, 0, none⟩) hN).trans h.1, (hb.cell (p := ⟨N, 1, none⟩) hN).trans h.2.1, (hb.cell (p := ⟨N, 2, none⟩) hN).trans h.2.2.1, (hb.cell (p := ⟨N, 3, none⟩) hN).trans h.2.2.2.1, (hb.cell (p := ⟨N, 4, none⟩) hN).trans h.2.2.2.2.1, (hb.cell (p := ⟨N, 5, none⟩) hN).trans h.2.2.2.2.2⟩

/-- A copy's blocks can be told apart. -/
theorem apart_rep {w w' : World} {x : V} {v : Value} (h : Rep w' (fun b => w.heap.size ≤ b ∧ b < w'.heap.size) x v) (hnf : NF w.heap.size w') : Rep w' (fun b => (w.heap.size ≤ b ∧ b < w'.heap.size) ∧ Apart w' b) x v := by
  obtain ⟨f, h⟩ := h
  refine ⟨f, ?_⟩
  have key : ∀ (f : Nat) (x : V) (v : Value), RepN w' (fun b => w.heap.size ≤ b ∧ b < w'.heap.size) f x v → RepN w' (fun b => (w.heap.size ≤ b ∧ b < w'.heap.size) ∧ Apart w' b) f x v := by
    intro f
    induction f with
    | zero => intro x v h; exact h.elim
    | succ f ih =>
      intro x v h
      obtain ⟨na, ka, nc, kc, b, off, C, h1, hs, h3, h4, h5, h6, hka, hc, hr⟩ := h
      refine ⟨na, ka, nc, kc, b, off, C, h1, ⟨fun hne => ?_, hs.2⟩, h3, h4, h5, h6, fun hne => ?_, hc, fun i hi => ih _ _ (hr i hi)⟩
      · obtain ⟨b', o', e', hb', hcc⟩ := hs.1 hne
        exact ⟨b', o', e', ⟨hb', Apart.of_cell (hcc 0 (List.length_pos_iff.2 hne)) (fun a ha => hnf a (by omega))⟩, hcc⟩
      · obtain ⟨e', hb'⟩ := hka hne
        exact ⟨e', hb', Apart.of_cell (hc 0 (List.length_pos_iff.2 hne) 0 (by omega)) (fun a ha => hnf a (by omega))⟩
  exact key f x v h

set_option maxRecDepth 20000 in
set_option maxHeartbeats 1600000 in
theorem law_walk_none (x : An) (w : World) (v : Value) (hR : AnRep w (· < w.heap.size) x v) :
    Calls Try.prog 4 #[v] w fun e w' => e = .returned (.bool true) ∧ Below w.heap.size w w' := by
  have hR' := hR
  obtain ⟨c0, c1, c2, c3, c4, fa, fc, rfl, hV, hW, hfc⟩ := hR
  go_enter Try.func4, Try.ntmps4
  go_wp2_with fail
  refine (szAnswer_any x _ w.heap.size _ _ (hR'.under (below_box w _)) (by simp) (by omega) (by omega)).mono ?_
  rintro e w1 ⟨y, rfl, hy0, hy1, hy2, hb1⟩
  have z1 : w.heap.size < w1.heap.size := by have := hb1.size; simp at this; omega
  have b1 : Below w.heap.size w w1 := (below_box w _).trans (hb1.mono (by simp))
  have F1 := (Hex.new w _ _ _ _ _ _ _).keep hb1 (by simp)
  clear hb1
  obtain ⟨p0, p1, p2, p3, p4, p5⟩ := id F1
  by_cases hy : y < 0
  · go_wp2_with fail
    go_ret
    exact ⟨rfl, b1⟩
  have hsz := hy2 (by omega)
  have hcnt : cntV x.data ≤ 2097152 := by have := cntV_sz x.data; omega
  have hnul : wV nullN x.data ≤ 4194304 := by have := null_cnt x.data; omega
  clear hy2 hsz
  go_wp2_with fail
  clear p0 p1 p2 p3 p4 p5
  refine (toAnswer_nf x w1 w.heap.size _ (hR'.under b1) (by omega)).mono ?_
  rintro e w2 ⟨s2, n2, t2, na2, ka2, nl2, nc2, kl2, kc2, fa2, fc2, rfl, hb2, hr2, -⟩
  have z2 := hb2.size
  have b2 : Below w.heap.size w w2 := b1.trans (hb2.mono (by omega))
  have F2 := F1.keep hb2 z1
  clear hb2 F1 b1
  obtain ⟨a0, a1, a2, a3, a4, ga, gc, e2, hV2, -, -⟩ := hr2
  simp only [Value.agg.injEq, Array.mk.injEq, List.cons.injEq, and_true] at e2
  obtain ⟨rfl, rfl, rfl, rfl, rfl, -⟩ := e2
  go_wp2_with fail
  refine (specNone_any x.data w2 w2.heap.size _ _ _ _ _ _ _ _ hnul (hV2.sub fun k hk => hk.2) (Nat.le_refl _)).mono ?_
  rintro e w3 ⟨rfl, hb3⟩
  have z3 := hb3.size
  have b3 : Below w.heap.size w w3 := b2.trans (hb3.mono (by omega))
  have F3 := F2.keep hb3 (by omega)
  clear hb3 F2 b2 hV2
  obtain ⟨p0, p1, p2, p3, p4, p5⟩ := id F3
  go_wp2_with fail
  clear p0 p1 p2 p3 p4 p5
  refine (toAnswer_nf x w3 w.heap.size _ (hR'.under b3) (by omega)).mono ?_
  rintro e w4 ⟨s4, n4, t4, na4, ka4, nl4, nc4, kl4, kc4, fa4, fc4, rfl, hb4, hr4, hnf4⟩
  have z4 := hb4.size
  have b4 : Below w.heap.size w w4 := b3.trans (hb4.mono (by omega))
  have F4 := F3.keep hb4 (by omega)
  have HR4 := hidA hr4
  obtain ⟨a0, a1, a2, a3, a4, ga, gc, e4, hV4, -, -⟩ := hr4
  simp only [Value.agg.injEq, Array.mk.injEq, List.cons.injEq, and_true] at e4
  obtain ⟨rfl, rfl, rfl, rfl, rfl, -⟩ := e4
  have hA4 := apart_rep hV4 hnf4
  clear hb4 F3 b3 hnf4 hV4
  go_wp2_with fail
  refine (implNone_any x.data _ (fun b => (w3.heap.size ≤ b ∧ b < w4.heap.size) ∧ Apart w4 b) _ _ _ _ _ _ _ _ hcnt (hA4.mono fun k hk => (below_box w4 _).block k hk.1.2) (fun b hb => ⟨by simp; omega, hb.2.of_block ((below_box w4 _).block b hb.1.2)⟩)).mono ?_
  rintro e w5 ⟨rfl, hb5⟩
  have z5 := hb5.size
  have b5 : Below w.heap.size w w5 := (b4.trans ((below_box w4 _).mono (by omega))).trans (hb5.mono (by simp; omega))
  have r5 : AnRep w5 (· < w5.heap.size) x _ := (HR4.out.mono fun k hk => (hb5.block k (by simp; omega)).trans ((below_box w4 _).block k hk.2)).sub fun k hk => by simp at z5; omega
  have F5 := (F4.keep (below_box w4 _) (by omega)).keep hb5 (by simp; omega)
  have G5 := (Hex.new w4 _ _ _ _ _ _ _).keep hb5 (by simp)
  simp at z5
  clear hb5 F4 b4 HR4 hA4
  go_wp2_with fail
  obtain ⟨p0, p1, p2, p3, p4, p5⟩ := F5
  obtain ⟨q0, q1, q2, q3, q4, q5⟩ := id G5
  go_region_with (first
    | (
      go_at_call 16
      refine (toAnswer_nf x _ w.heap.size _ (hR'.under b5.drew) ?_).mono ?_
      · have := b5.size; simpa using this
      rintro e w6 ⟨s6, n6, t6, na6, ka6, nl6, nc6, kl6, kc6, fa6, fc6, rfl, hb6, hr6, -⟩
      have hb6' := below_undrew hb6
      have z6 := hb6'.size
      have r6 := (r5.under (hb6'.mono (by omega))).sub (Q := (· < w6.heap.size)) fun k hk => by omega
      have G6 := G5.keep hb6' (by omega)
      obtain ⟨g0, g1, g2, g3, g4, g5⟩ := G6)
    | (
      go_at_call 18
      refine (eqAnswer_any x w6 w6.heap.size _ _ r6 (hr6.sub fun k hk => hk.2) (Nat.le_refl _)).mono ?_
      rintro e w7 ⟨rfl, hb7⟩))
  all_goals
    go_wp2_with fail
    go_ret
    exact ⟨rfl, (b5.trans (hb6'.mono b5.size)).trans (hb7.mono (by have := b5.size; omega))⟩
end Go.Proofs.Ytjlifamkfdmfcaa
