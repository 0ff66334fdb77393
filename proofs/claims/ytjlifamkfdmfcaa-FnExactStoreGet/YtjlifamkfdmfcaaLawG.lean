/-
  The law of StoreGet, walked.
-/
import Derived.Test.YtjlifamkfdmfcaaGSpec
import Derived.Test.YtjlifamkfdmfcaaGMark
import Derived.Test.YtjlifamkfdmfcaaVMark3
import Derived.Test.YtjlifamkfdmfcaaREq
import Derived.BigRegion
import Derived.Deep.RegionWith
namespace Go.Proofs.Ytjlifamkfdmfcaa
set_option linter.unusedSimpArgs false
set_option linter.unusedVariables false
open Go.RowKit

theorem below_marked {B lo hi : Nat} {a w w' : World} (h : Below B a w) (m : MarkedN lo hi w w') (hB : B ≤ lo) (hz : B ≤ w.heap.size) : Below B a w' :=
  ⟨m.m.os.trans h.os, m.m.tape.trans h.tape, m.m.output.trans h.output, Nat.le_trans h.size m.m.size, fun i hi => (m.m.block i (by omega) (by omega)).trans (h.block i hi)⟩
theorem below_only {B : Nat} {S : Nat → Prop} {a w w' : World} (h : Below B a w) (m : Only S w w') (hB : ∀ b, S b → B ≤ b) (hz : B ≤ w.heap.size) : Below B a w' :=
  ⟨m.os.trans h.os, m.tape.trans h.tape, m.output.trans h.output, Nat.le_trans h.size m.size, fun i hi => (m.block i (by omega) (fun hs => by have := hB i hs; omega)).trans (h.block i hi)⟩

/-- What lies in new memory that isn't frozen can be told apart. -/
theorem rep_apart {w' : World} {lo hi : Nat} {x : V} {v : Value} (h : Rep w' (fun b => lo ≤ b ∧ b < hi) x v) (hnf : NF lo w') : Rep w' (fun b => (lo ≤ b ∧ b < hi) ∧ Apart w' b) x v := by
  obtain ⟨f, h⟩ := h
  refine ⟨f, ?_⟩
  have key : ∀ (f : Nat) (x : V) (v : Value), RepN w' (fun b => lo ≤ b ∧ b < hi) f x v → RepN w' (fun b => (lo ≤ b ∧ b < hi) ∧ Apart w' b) f x v := by
    intro f
    induction f with
    | zero => intro x v h; exact h.elim
    | succ f ih =>
      intro x v h
      obtain ⟨na, ka, nc, kc, b, off, C, h1, hs, h3, h4, h5, h6, hka, hc, hr⟩ := h
      refine ⟨na, ka, nc, kc, b, off, C, h1, ⟨fun hne => ?_, hs.2⟩, h3, h4, h5, h6, fun hne => ?_, hc, fun i hi => ih _ _ (hr i hi)⟩
      · obtain ⟨b', o', e', hb', hcc⟩ := hs.1 hne
        exact ⟨b', o', e', ⟨hb', Apart.of_cell (hcc 0 (List.length_pos_iff.2 hne)) (fun a ha => hnf a (by omega))⟩, hcc⟩
      · obtain ⟨e', hb'⟩ := hka hne
        exact ⟨e', hb', Apart.of_cell (hc 0 (List.length_pos_iff.2 hne) 0 (by omega)) (fun a ha => hnf a (by omega))⟩
  exact key f x v h
theorem arr_apart {w' : World} {lo hi sz n : Nat} {a : Option Addr} {C : Nat → Nat → Value} (hsz : 0 < sz) (h : Arr w' (fun b => lo ≤ b ∧ b < hi) sz n a C) (hnf : NF lo w') : Arr w' (fun b => (lo ≤ b ∧ b < hi) ∧ Apart w' b) sz n a C := fun hn => by
  obtain ⟨b, off, e, hb, hc⟩ := h hn
  exact ⟨b, off, e, ⟨hb, Apart.of_cell (hc 0 hn 0 hsz) (fun a ha => hnf a (by omega))⟩, hc⟩
theorem rows_apart {w' : World} {lo hi : Nat} {rs : List Ro} {a : Option Addr} (h : RoReps w' (fun b => lo ≤ b ∧ b < hi) rs a) (hnf : NF lo w') : RoReps w' (fun b => (lo ≤ b ∧ b < hi) ∧ Apart w' b) rs a := by
  obtain ⟨h0, C, hA, hr⟩ := h
  refine ⟨h0, C, arr_apart (by omega) hA hnf, fun i hi => ?_⟩
  obtain ⟨ca, cc, hv, ⟨g0, D, hD, hc⟩, h3, h4⟩ := hr i hi
  refine ⟨ca, cc, hv, ⟨g0, D, arr_apart (by omega) hD hnf, fun j hj => ?_⟩, h3, h4⟩
  obtain ⟨c1, c2, c3, c4, c5, hv', hV, hn⟩ := hc j hj
  exact ⟨c1, c2, c3, c4, c5, hv', rep_apart hV hnf, hn⟩
theorem vZ_small : szV ((none : Option V).getD vZ) ≤ 1048576 := by
  show szV vZ ≤ 1048576
  have h1 : vZ.text.size = 0 := rfl
  have h2 : szNs vZ.names = 0 := rfl
  have h3 : vZ.kids.length = 0 := rfl
  have h4 : sL vZ.kids = 0 := by simp [vZ, sL]
  rw [szV_eq]
  omega
theorem got_small {rs : List Ro} {t f : ByteArray} {n : Int} (h : ∀ i, i < rs.length → RoSm (rth rs i)) : szV ((got rs t n f).getD vZ) ≤ 1048576 := by
  unfold got
  split
  · exact vZ_small
  · rename_i i hi
    split
    · exact vZ_small
    · rename_i j hj
      exact h i (fi_lt hi) j (fc_lt hj)
/-- What the law keeps of its two answers. -/
structure Kept (w' : World) (b0 lo2 hi2 b5 lo4 hi4 : Nat) (x xg : V) (c0 c1 c2 c3 c4 d0 d1 d2 d3 d4 : Value) (lab : Nat → List Nat) : Prop where
  r0 : Row5 w' b0 c0 c1 c2 c3 c4
  r5 : Row5 w' b5 d0 d1 d2 d3 d4
  v0 : Rep w' (fun b => lo2 ≤ b ∧ b < hi2) x (.agg #[c0, c1, c2, c3, c4])
  l5 : LRep w' lab [] xg (.agg #[d0, d1, d2, d3, d4])
theorem Kept.keep {w' w'' : World} {b0 lo2 hi2 b5 lo4 hi4 : Nat} {x xg : V} {c0 c1 c2 c3 c4 d0 d1 d2 d3 d4 : Value} {lab : Nat → List Nat} (h : Kept w' b0 lo2 hi2 b5 lo4 hi4 x xg c0 c1 c2 c3 c4 d0 d1 d2 d3 d4 lab)
    (h0 : w''.heap[b0]? = w'.heap[b0]?) (h5 : w''.heap[b5]? = w'.heap[b5]?) (hv : ∀ b, lo2 ≤ b → b < hi2 → w''.heap[b]? = w'.heap[b]?) (hl : ∀ b, lab b ≠ [] → w''.heap[b]? = w'.heap[b]?) : Kept w'' b0 lo2 hi2 b5 lo4 hi4 x xg c0 c1 c2 c3 c4 d0 d1 d2 d3 d4 lab :=
  ⟨h.r0.of_block h0, h.r5.of_block h5, h.v0.mono fun k hk => hv k hk.1 hk.2, h.l5.keep fun b hb _ => hl b hb⟩

set_option maxRecDepth 20000 in
set_option maxHeartbeats 3200000 in
theorem law_walk_get (rs : List Ro) (t f : ByteArray) (n : Int) (w : World) (a : Option Addr) (c : Nat) (hR : RoReps w (· < w.heap.size) rs a) (ht : t.size ≤ maxLen) (hf : f.size ≤ maxLen) :
    Calls Try.prog 3 #[.slice a rs.length c, .string t, .int .i64 n, .string f] w fun e w' => e = .returned (.bool true) ∧ Below w.heap.size w w' := by
  unfold maxLen at ht hf
  by_cases ht2 : 1048576 < t.size
  · go_enter Try.func3, Try.ntmps3
    go_wp2_with fail
    go_ret
    exact ⟨rfl, Below.refl _ _⟩
  by_cases hf2 : 1048576 < f.size
  · go_enter Try.func3, Try.ntmps3
    go_wp2_with fail
    go_ret
    exact ⟨rfl, Below.refl _ _⟩
  go_enter Try.func3, Try.ntmps3
  go_wp2_with fail
  refine (szRowS_any rs _ w.heap.size a c _ (hR.under (Below.refl _ _)) (Nat.le_refl _) (by omega) (by omega)).mono ?_
  rintro e w1 ⟨y, rfl, hy0, hy1, hy2, hb1⟩
  have z1 := hb1.size
  by_cases hy : y < 0
  · go_wp2_with fail
    go_ret
    exact ⟨rfl, hb1⟩
  have hsz : rSz rs ≤ 1048576 := by have := hy2 (by omega); unfold rSz; omega
  have hsm : ∀ i, i < rs.length → RoSm (rth rs i) := fun i hi => RoSm.of (by have h1 : szR (rth rs i) ≤ (rs.map szR).sum := sum_one szR Ro.zero rs i hi; unfold rSz at hsz; omega)
  clear hy2
  have HSM := hid_of (And.intro hsz hsm)
  clear hsz hsm
  go_wp2_with fail
  refine (toRowS_nf rs w1 w.heap.size a c (hR.under hb1) z1).mono ?_
  rintro e w2 ⟨rfl, hb2, hl2, hr2, -⟩
  have z2 := hb2.size
  have b2 : Below w.heap.size w w2 := hb1.trans (hb2.mono (by omega))
  clear hb1 hb2
  go_wp2_with fail
  refine (specGet_any rs t f n w2 w2.heap.size _ _ (hr2.sub fun k hk => hk.2) (Nat.le_refl _) HSM.out.2).mono ?_
  rintro e w3 ⟨⟨s3, n3, t3, na3, ka3, nl3, nc3, kl3, kc3, rfl, hr3⟩, hb3⟩
  have z3 := hb3.size
  have b3 : Below w.heap.size w w3 := b2.trans (hb3.mono (by omega))
  clear b2 hb3 hr2
  have hxs := got_small (t := t) (f := f) (n := n) HSM.out.2
  obtain ⟨ob, hob⟩ : ∃ q, q = (got rs t n f).isSome := ⟨_, rfl⟩
  rw [← hob]
  obtain ⟨x, hx⟩ : ∃ x, x = (got rs t n f).getD vZ := ⟨_, rfl⟩
  rw [← hx] at hr3 hxs
  have HXX := hid_of (And.intro hob hx)
  clear hob hx
  go_wp2_with fail
  have zA : (w3.alloc (.cells #[.int .i64 s3, .int .i64 n3, .string t3, .slice na3 nl3 nc3, .slice ka3 kl3 kc3] 27)).heap.size = w3.heap.size + 1 := by simp
  have RA := Row5.new w3 (.int .i64 s3) (.int .i64 n3) (.string t3) (.slice na3 nl3 nc3) (.slice ka3 kl3 kc3)
  have bA := b3.trans ((below_box w3 (.cells #[.int .i64 s3, .int .i64 n3, .string t3, .slice na3 nl3 nc3, .slice ka3 kl3 kc3] 27)).mono (by omega))
  have VA := hr3.mono (w' := w3.alloc (.cells #[.int .i64 s3, .int .i64 n3, .string t3, .slice na3 nl3 nc3, .slice ka3 kl3 kc3] 27)) fun k hk => (below_box w3 _).block k hk.2
  generalize w3.alloc (.cells #[.int .i64 s3, .int .i64 n3, .string t3, .slice na3 nl3 nc3, .slice ka3 kl3 kc3] 27) = wA at *
  clear b3 hr3
  refine (toRowS_nf rs wA w.heap.size a c (hR.under bA) (by omega)).mono ?_
  rintro e w4 ⟨rfl, hb4, hl4, hr4, nf4⟩
  have z4 := hb4.size
  rw [zA] at hr4 nf4 hl4 z4
  have b4 : Below w.heap.size w w4 := bA.trans (hb4.mono (by omega))
  have HF4 := hid_of (show Row5 w4 w3.heap.size (.int .i64 s3) (.int .i64 n3) (.string t3) (.slice na3 nl3 nc3) (.slice ka3 kl3 kc3) ∧ Rep w4 (fun b => w2.heap.size ≤ b ∧ b < w3.heap.size) x _ ∧ WRows w4 (w3.heap.size + 1) w4.heap.size rs _ ∧ RoReps w4 (fun b => w3.heap.size + 1 ≤ b ∧ b < w4.heap.size) rs _ from ⟨RA.of_block (hb4.block _ (by omega)), VA.mono fun k hk => hb4.block k (by omega), WRows.of_rep hr4 nf4, hr4⟩)
  have hI := implGet_any rs t f n w4 _ _ rs.length (rows_apart hr4 nf4) (fun b hb => ⟨hb.1.2, hb.2⟩) HSM.out.2
  have HI := hid_of hI
  clear hb4 bA RA VA nf4 hr4 hI
  go_wp2_with fail
  refine HI.out.mono ?_
  rintro e w5 ⟨⟨na5, ka5, nc5, kc5, he5, hr5, lab, hl5, L5⟩, hb5⟩
  rw [← HXX.out.1, ← HXX.out.2] at he5
  rw [← HXX.out.2] at hr5 L5
  unfold vv at he5 hr5 L5
  subst he5
  have z5 := hb5.size
  have b5 : Below w.heap.size w w5 := b4.trans (hb5.mono (by omega))
  have HF5 := hid_of (And.intro (HF4.out.1.of_block (hb5.block _ (by omega))) (And.intro (HF4.out.2.1.mono fun k hk => hb5.block k (by omega)) (And.intro (HF4.out.2.2.1.keep (MarkedN.of_below 0 0 hb5)) (And.intro (HF4.out.2.2.2.mono fun k hk => hb5.block k hk.2) (And.intro hr5 (And.intro hl5 L5))))))
  clear hb5 b4 HF4 HI
  have hne : w3.heap.size < w5.heap.size := by omega
  have zB : (w5.alloc (.cells #[.int .i64 x.sort, .int .i64 x.num, .string x.text, .slice na5 x.names.length nc5, .slice ka5 x.kids.length kc5] 27)).heap.size = w5.heap.size + 1 := by simp
  have bB := below_box w5 (.cells #[.int .i64 x.sort, .int .i64 x.num, .string x.text, .slice na5 x.names.length nc5, .slice ka5 x.kids.length kc5] 27)
  have bb := b5.trans (bB.mono (by omega))
  have KB : Hid (Kept (w5.alloc (.cells #[.int .i64 x.sort, .int .i64 x.num, .string x.text, .slice na5 x.names.length nc5, .slice ka5 x.kids.length kc5] 27)) w3.heap.size w2.heap.size w3.heap.size w5.heap.size w4.heap.size w5.heap.size x x (.int .i64 s3) (.int .i64 n3) (.string t3) (.slice na3 nl3 nc3) (.slice ka3 kl3 kc3) (.int .i64 x.sort) (.int .i64 x.num) (.string x.text) (.slice na5 x.names.length nc5) (.slice ka5 x.kids.length kc5) lab) := hid_of ⟨HF5.out.1.of_block (bB.block _ (by omega)), Row5.new w5 _ _ _ _ _, HF5.out.2.1.mono fun k hk => bB.block k (by omega), L5.keep fun b hb _ => bB.block b (hl5 b hb).2⟩
  have HB := hid_of (And.intro (HF5.out.2.2.1.keep (MarkedN.of_below 0 0 bB)) (And.intro (HF5.out.2.2.2.1.mono fun k hk => bB.block k (by omega)) (hr5.mono fun k hk => bB.block k hk.2)))
  have HL := hid_of hl5
  clear b5 bB HF5 hr5 hl5 L5
  obtain ⟨p0, p1, p2, p3, p4⟩ := KB.out.r0.five
  obtain ⟨q0, q1, q2, q3, q4⟩ := KB.out.r5.five
  go_wp2_with fail
  clear p0 p1 p2 p3 p4 q0 q1 q2 q3 q4
  generalize w5.alloc (.cells #[.int .i64 x.sort, .int .i64 x.num, .string x.text, .slice na5 x.names.length nc5, .slice ka5 x.kids.length kc5] 27) = wB at *
  refine (eqValue_any x wB w5.heap.size _ _ (HB.out.2.2.sub fun k hk => hk.2) (KB.out.v0.sub fun k hk => by omega) (by omega)).mono ?_
  rintro e w6 ⟨rfl, hb6⟩
  have z6 := hb6.size
  have b6 := bb.trans (hb6.mono (by omega))
  have K6 : Hid (Kept w6 w3.heap.size w2.heap.size w3.heap.size w5.heap.size w4.heap.size w5.heap.size x x (.int .i64 s3) (.int .i64 n3) (.string t3) (.slice na3 nl3 nc3) (.slice ka3 kl3 kc3) (.int .i64 x.sort) (.int .i64 x.num) (.string x.text) (.slice na5 x.names.length nc5) (.slice ka5 x.kids.length kc5) lab) := hid_of (KB.out.keep (hb6.block _ (by omega)) (hb6.block _ (by omega)) (fun b _ h => hb6.block b (by omega)) (fun b h => hb6.block b (by have := HL.out b h; omega)))
  have H6 := hid_of (And.intro (HB.out.1.keep (MarkedN.of_below 0 0 hb6)) (And.intro (HB.out.2.1.mono fun k hk => hb6.block k (by omega)) (HB.out.2.2.mono fun k hk => hb6.block k (by omega))))
  clear hb6 bb KB HB
  go_wp2_with fail
  refine (toRowS_nf rs w6 w.heap.size a c (hR.under b6) (by omega)).mono ?_
  rintro e w7 ⟨rfl, hb7, hl7, hr7, -⟩
  have z7 := hb7.size
  have b7 := b6.trans (hb7.mono (by omega))
  have K7 : Hid (Kept w7 w3.heap.size w2.heap.size w3.heap.size w5.heap.size w4.heap.size w5.heap.size x x (.int .i64 s3) (.int .i64 n3) (.string t3) (.slice na3 nl3 nc3) (.slice ka3 kl3 kc3) (.int .i64 x.sort) (.int .i64 x.num) (.string x.text) (.slice na5 x.names.length nc5) (.slice ka5 x.kids.length kc5) lab) := hid_of (K6.out.keep (hb7.block _ (by omega)) (hb7.block _ (by omega)) (fun b _ h => hb7.block b (by omega)) (fun b h => hb7.block b (by have := HL.out b h; omega)))
  have H7 := hid_of (And.intro (H6.out.1.keep (MarkedN.of_below 0 0 hb7)) (And.intro (H6.out.2.1.mono fun k hk => hb7.block k (by omega)) (H6.out.2.2.mono fun k hk => hb7.block k (by omega))))
  have HR7 := hid_of hr7
  clear hb7 b6 K6 H6 hr7
  go_wp2_with fail
  refine (eqRowS_any rs w7 w7.heap.size _ _ _ _ (H7.out.2.1.sub fun k hk => by omega) (HR7.out.sub fun k hk => hk.2) (Nat.le_refl _)).mono ?_
  rintro e w8 ⟨rfl, hb8⟩
  have z8 := hb8.size
  have b8 := b7.trans (hb8.mono (by omega))
  have K8 : Hid (Kept w8 w3.heap.size w2.heap.size w3.heap.size w5.heap.size w4.heap.size w5.heap.size x x (.int .i64 s3) (.int .i64 n3) (.string t3) (.slice na3 nl3 nc3) (.slice ka3 kl3 kc3) (.int .i64 x.sort) (.int .i64 x.num) (.string x.text) (.slice na5 x.names.length nc5) (.slice ka5 x.kids.length kc5) lab) := hid_of (K7.out.keep (hb8.block _ (by omega)) (hb8.block _ (by omega)) (fun b _ h => hb8.block b (by omega)) (fun b h => hb8.block b (by have := HL.out b h; omega)))
  have H8 := hid_of (And.intro (H7.out.1.keep (MarkedN.of_below 0 0 hb8)) (H7.out.2.2.mono fun k hk => hb8.block k (by omega)))
  clear hb8 b7 K7 H7 HR7
  go_wp2_with fail
  refine (markRowS_k rs rs.length _ _ _ w8 H8.out.1 HSM.out.1).mono ?_
  rintro e w9 ⟨⟨k9, rfl, k90, k91⟩, m9⟩
  have z9 := m9.m.size
  have b9 := below_marked b8 m9 (by omega) (by omega)
  have K9 : Hid (Kept w9 w3.heap.size w2.heap.size w3.heap.size w5.heap.size w4.heap.size w5.heap.size x x (.int .i64 s3) (.int .i64 n3) (.string t3) (.slice na3 nl3 nc3) (.slice ka3 kl3 kc3) (.int .i64 x.sort) (.int .i64 x.num) (.string x.text) (.slice na5 x.names.length nc5) (.slice ka5 x.kids.length kc5) lab) := hid_of (K8.out.keep (m9.m.block _ (by omega) (by omega)) (m9.m.block _ (by omega) (by omega)) (fun b _ h => m9.m.block b (by omega) (by omega)) (fun b h => m9.m.block b (by have := HL.out b h; omega) (by have := HL.out b h; omega)))
  have H9 := hid_of (H8.out.2.mono fun k hk => m9.m.block k (by omega) (by omega))
  clear m9 b8 K8 H8
  have k92 : ¬ k9 < 0 := by omega
  obtain ⟨p0, p1, p2, p3, p4⟩ := K9.out.r0.five
  obtain ⟨q0, q1, q2, q3, q4⟩ := K9.out.r5.five
  go_wp2_with fail
  clear p0 p1 p2 p3 p4 q0 q1 q2 q3 q4
  refine (eqValue_any x w9 w5.heap.size _ _ (H9.out.sub fun k hk => hk.2) (K9.out.v0.sub fun k hk => by omega) (by omega)).mono ?_
  rintro e w10 ⟨rfl, hb10⟩
  have z10 := hb10.size
  have b10 := b9.trans (hb10.mono (by omega))
  have K10 : Hid (Kept w10 w3.heap.size w2.heap.size w3.heap.size w5.heap.size w4.heap.size w5.heap.size x x (.int .i64 s3) (.int .i64 n3) (.string t3) (.slice na3 nl3 nc3) (.slice ka3 kl3 kc3) (.int .i64 x.sort) (.int .i64 x.num) (.string x.text) (.slice na5 x.names.length nc5) (.slice ka5 x.kids.length kc5) lab) := hid_of (K9.out.keep (hb10.block _ (by omega)) (hb10.block _ (by omega)) (fun b _ h => hb10.block b (by omega)) (fun b h => hb10.block b (by have := HL.out b h; omega)))
  clear hb10 b9 K9 H9
  obtain ⟨q0, q1, q2, q3, q4⟩ := K10.out.r5.five
  go_wp2_with fail
  clear q0 q1 q2 q3 q4
  have hnv : 1 + nV x ≤ 1000000000000 := by have := nV_sz x; omega
  refine (markValue_l x lab [] _ 1 w10 K10.out.l5 (fun c hc => by have := HL.out c hc; omega) hnv hxs).mono ?_
  rintro e w11 ⟨rfl, o11, L11⟩
  have z11 := o11.size
  have hS : ∀ b, (lab b = 0 :: [] ∨ Sk lab [] b) → lab b ≠ [] := fun b hb e => by
    rcases hb with h | h | ⟨i, h⟩
    · rw [e] at h; cases h
    · rw [e] at h; cases h
    · rw [e] at h; simp at h
  have hno : ∀ b, b < w10.heap.size → ¬ (w4.heap.size ≤ b ∧ b < w5.heap.size) → w11.heap[b]? = w10.heap[b]? := fun b hb hn => o11.block b hb (fun hs => hn (HL.out b (hS b hs)))
  have b11 := below_only b10 o11 (fun b hb => by have := HL.out b (hS b hb); omega) (by omega)
  have K11 : Hid (Kept w11 w3.heap.size w2.heap.size w3.heap.size w5.heap.size w4.heap.size w5.heap.size x (mkI x 1) (.int .i64 s3) (.int .i64 n3) (.string t3) (.slice na3 nl3 nc3) (.slice ka3 kl3 kc3) (.int .i64 x.sort) (.int .i64 x.num) (.string x.text) (.slice na5 x.names.length nc5) (.slice ka5 x.kids.length kc5) lab) := hid_of ⟨K10.out.r0.of_block (hno _ (by omega) (by omega)), K10.out.r5.of_block (hno _ (by omega) (by omega)), K10.out.v0.mono fun k hk => hno k (by omega) (by omega), L11⟩
  clear o11 L11 b10 K10 hS hno
  obtain ⟨M, hM⟩ : ∃ M : Int, M = ((1 + nV x : Nat) : Int) := ⟨_, rfl⟩
  have HM := hid_of hM
  have hM0 : 0 ≤ M ∧ M ≤ 1000000000000 := by omega
  have hM1 : ¬ M < 0 := by omega
  rw [← hM]
  clear hM
  obtain ⟨q0, q1, q2, q3, q4⟩ := K11.out.r5.five
  go_wp2_with fail
  clear q0 q1 q2 q3 q4
  refine (heldValue_l x lab [] _ 1 w11 K11.out.l5 (fun c hc => by have := HL.out c hc; omega) hnv hxs).mono ?_
  rintro e w12 ⟨rfl, hb12⟩
  rw [← HM.out]
  have z12 := hb12.size
  have b12 := b11.trans (hb12.mono (by omega))
  have K12 : Hid (Kept w12 w3.heap.size w2.heap.size w3.heap.size w5.heap.size w4.heap.size w5.heap.size x (mkI x 1) (.int .i64 s3) (.int .i64 n3) (.string t3) (.slice na3 nl3 nc3) (.slice ka3 kl3 kc3) (.int .i64 x.sort) (.int .i64 x.num) (.string x.text) (.slice na5 x.names.length nc5) (.slice ka5 x.kids.length kc5) lab) := hid_of (K11.out.keep (hb12.block _ (by omega)) (hb12.block _ (by omega)) (fun b _ h => hb12.block b (by omega)) (fun b h => hb12.block b (by have := HL.out b h; omega)))
  clear hb12 b11 K11
  go_wp2_with fail
  refine (toRowS_nf rs w12 w.heap.size a c (hR.under b12) (by omega)).mono ?_
  rintro e w13 ⟨rfl, hb13, hl13, hr13, nf13⟩
  have z13 := hb13.size
  have b13 := b12.trans (hb13.mono (by omega))
  have K13 : Hid (Kept w13 w3.heap.size w2.heap.size w3.heap.size w5.heap.size w4.heap.size w5.heap.size x (mkI x 1) (.int .i64 s3) (.int .i64 n3) (.string t3) (.slice na3 nl3 nc3) (.slice ka3 kl3 kc3) (.int .i64 x.sort) (.int .i64 x.num) (.string x.text) (.slice na5 x.names.length nc5) (.slice ka5 x.kids.length kc5) lab) := hid_of (K12.out.keep (hb13.block _ (by omega)) (hb13.block _ (by omega)) (fun b _ h => hb13.block b (by omega)) (fun b h => hb13.block b (by have := HL.out b h; omega)))
  have HI := hid_of (implGet_any rs t f n w13 _ _ rs.length (rows_apart hr13 nf13) (fun b hb => ⟨hb.1.2, hb.2⟩) HSM.out.2)
  clear hb13 b12 K12 hr13 nf13
  go_wp2_with fail
  refine HI.out.mono ?_
  rintro e w14 ⟨⟨na14, ka14, nc14, kc14, he14, hr14, -⟩, hb14⟩
  rw [← HXX.out.1, ← HXX.out.2] at he14
  rw [← HXX.out.2] at hr14
  unfold vv at he14 hr14
  subst he14
  have z14 := hb14.size
  have b14 := b13.trans (hb14.mono (by omega))
  have K14 : Hid (Kept w14 w3.heap.size w2.heap.size w3.heap.size w5.heap.size w4.heap.size w5.heap.size x (mkI x 1) (.int .i64 s3) (.int .i64 n3) (.string t3) (.slice na3 nl3 nc3) (.slice ka3 kl3 kc3) (.int .i64 x.sort) (.int .i64 x.num) (.string x.text) (.slice na5 x.names.length nc5) (.slice ka5 x.kids.length kc5) lab) := hid_of (K13.out.keep (hb14.block _ (by omega)) (hb14.block _ (by omega)) (fun b _ h => hb14.block b (by omega)) (fun b h => hb14.block b (by have := HL.out b h; omega)))
  have HR14 := hid_of hr14
  clear hb14 b13 K13 HI hr14
  have zC : (w14.alloc (.cells #[.int .i64 x.sort, .int .i64 x.num, .string x.text, .slice na14 x.names.length nc14, .slice ka14 x.kids.length kc14] 27)).heap.size = w14.heap.size + 1 := by simp
  have bC := below_box w14 (.cells #[.int .i64 x.sort, .int .i64 x.num, .string x.text, .slice na14 x.names.length nc14, .slice ka14 x.kids.length kc14] 27)
  have bc := b14.trans (bC.mono (by omega))
  have KC : Hid (Kept (w14.alloc (.cells #[.int .i64 x.sort, .int .i64 x.num, .string x.text, .slice na14 x.names.length nc14, .slice ka14 x.kids.length kc14] 27)) w3.heap.size w2.heap.size w3.heap.size w5.heap.size w4.heap.size w5.heap.size x (mkI x 1) (.int .i64 s3) (.int .i64 n3) (.string t3) (.slice na3 nl3 nc3) (.slice ka3 kl3 kc3) (.int .i64 x.sort) (.int .i64 x.num) (.string x.text) (.slice na5 x.names.length nc5) (.slice ka5 x.kids.length kc5) lab) := hid_of (K14.out.keep (bC.block _ (by omega)) (bC.block _ (by omega)) (fun b _ h => bC.block b (by omega)) (fun b h => bC.block b (by have := HL.out b h; omega)))
  have HRC := hid_of (HR14.out.mono fun k hk => bC.block k hk.2)
  have RC := Row5.new w14 (.int .i64 x.sort) (.int .i64 x.num) (.string x.text) (.slice na14 x.names.length nc14) (.slice ka14 x.kids.length kc14)
  obtain ⟨p0, p1, p2, p3, p4⟩ := KC.out.r0.five
  obtain ⟨q0, q1, q2, q3, q4⟩ := RC.five
  clear b14 bC K14 HR14 RC
  have hne2 : w3.heap.size < w14.heap.size := by omega
  go_wp2_with fail
  clear p0 p1 p2 p3 p4 q0 q1 q2 q3 q4
  generalize w14.alloc (.cells #[.int .i64 x.sort, .int .i64 x.num, .string x.text, .slice na14 x.names.length nc14, .slice ka14 x.kids.length kc14] 27) = wC at *
  refine (eqValue_any x wC w14.heap.size _ _ (HRC.out.sub fun k hk => hk.2) (KC.out.v0.sub fun k hk => by omega) (by omega)).mono ?_
  rintro e w15 ⟨rfl, hb15⟩
  have z15 := hb15.size
  have b15 := bc.trans (hb15.mono (by omega))
  have K15 : Hid (Kept w15 w3.heap.size w2.heap.size w3.heap.size w5.heap.size w4.heap.size w5.heap.size x (mkI x 1) (.int .i64 s3) (.int .i64 n3) (.string t3) (.slice na3 nl3 nc3) (.slice ka3 kl3 kc3) (.int .i64 x.sort) (.int .i64 x.num) (.string x.text) (.slice na5 x.names.length nc5) (.slice ka5 x.kids.length kc5) lab) := hid_of (KC.out.keep (hb15.block _ (by omega)) (hb15.block _ (by omega)) (fun b _ h => hb15.block b (by omega)) (fun b h => hb15.block b (by have := HL.out b h; omega)))
  clear hb15 bc KC HRC
  obtain ⟨q0, q1, q2, q3, q4⟩ := K15.out.r5.five
  go_wp2_with fail
  clear q0 q1 q2 q3 q4
  refine (heldValue_l x lab [] _ 1 w15 K15.out.l5 (fun c hc => by have := HL.out c hc; omega) hnv hxs).mono ?_
  rintro e w16 ⟨rfl, hb16⟩
  rw [← HM.out]
  have b16 := b15.trans (hb16.mono (by omega))
  clear hb16 b15 K15
  go_wp2_with fail
  go_ret
  exact ⟨rfl, b16⟩
end Go.Proofs.Ytjlifamkfdmfcaa
