import Derived.Test.YtbpdchlbhfjddaaGreatJ17
import Derived.Deep.RegionWith
import Derived.Test.YtbpdchlbhfjddaaGreatJ14
import Derived.Test.YtbpdchlbhfjddaaGreatJ9
import Derived.Test.YtbpdchlbhfjddaaGreatJ6
import Derived.Deep.RegionHeld3
import Derived.Deep.DeepCutAuto
namespace Go.Proofs.YtbpdchlbhfjddaaGreat
set_option linter.unusedSimpArgs false
set_option linter.unusedVariables false
open Go.RowKit

theorem SRows.below {w w' : World} {lab : Nat → List Nat} {P : Nat → Prop} {rl : List Ro} {a : Option Addr} (h : SRows w lab P rl a) (hl : ∀ b, lab b ≠ [] → b < w.heap.size) (hb : Below w.heap.size w w') (hP : ∀ k, P k → k < w.heap.size) : SRows w' lab P rl a := fun h0 => by
  obtain ⟨b0, e1, e2, e3, C, c1, c2⟩ := h h0
  have hb0 := hb.block b0 (hl b0 (by rw [e2]; simp))
  exact ⟨b0, e1, e2, fun i => (World.frozen?_of_block (w := w) (a := ⟨b0, i, none⟩) hb0).trans (e3 i), C, fun i hi j hj => (World.cell?_of_block (w := w) (a := ⟨b0, 0 + i * 3 + j, none⟩) hb0).trans (c1 i hi j hj), fun k hk => (c2 k hk).keep rfl (fun _ _ => rfl) (fun b hb' => ⟨rfl, hb.block b (hl b hb')⟩) (fun k hk => hb.block k (hP k hk))⟩
/-- The copier between two copies. -/
def CopSt (wr : World) (P : Nat → Prop) (g m : Nat) (left : Int) : Prop := Copier wr g m left ∧ (∃ G, OwnsK wr (fun v => ∃ b o n, v = pk b o n ∧ P b) m G ∧ KnOk wr P copyN G []) ∧ g < wr.heap.size ∧ m < wr.heap.size
theorem CopSt.keep {wr w' : World} {P : Nat → Prop} {g m : Nat} {left : Int} (h : CopSt wr P g m left) (hb : Below wr.heap.size wr w') (hP : ∀ k, P k → k < wr.heap.size) : CopSt w' P g m left := by
  obtain ⟨h1, ⟨G, h2, h3⟩, h4, h5⟩ := h
  have := hb.size
  exact ⟨h1.of_block (hb.block g h4), ⟨G, h2.of_block (hb.block m h5), h3.mono fun k hk => hb.block k (hP k hk)⟩, by omega, by omega⟩
/-- Rows in new memory whose lists lie apart. -/
def RowsNew (w w' : World) (rl : List Ro) (e : Ending) : Prop := ∃ (a : Option Addr) (c : Nat) (lab : Nat → List Nat), e = .returned (.slice a rl.length c) ∧ (∀ b, lab b ≠ [] → w.heap.size ≤ b ∧ b < w'.heap.size) ∧ LRows w' lab [] rl a ∧ RoReps w' (fun b => w.heap.size ≤ b ∧ b < w'.heap.size) rl a
theorem aside_undrew {S : Nat → Prop} {a b : World} (h : Aside S a.drew b) : Aside S a b := ⟨h.os, h.tape, h.output, h.size, h.block⟩

set_option maxRecDepth 20000 in
set_option maxHeartbeats 3200000 in
theorem StoreCutI_any (p : Pt) (rs : List Ro) (w : World) (B : Nat) (P : Nat → Prop) (u : Value) (ra : Option Addr) (rc : Nat) (hPt : PRep w (· < B) p u) (hB : B ≤ w.heap.size) (hz : szP p ≤ 1048576) (hR : RoReps w P rs ra) (hP : ∀ b, P b → b < w.heap.size ∧ Apart w b) (hsz : rSz rs ≤ 1048576) :
    Calls Tryz.prog 9 #[u, .slice ra rs.length rc] w fun e w' => RowsNew w w' (cutA p rs) e ∧ Below w.heap.size w w' := by
  have hrl : rs.length ≤ 1048576 := by unfold rSz at hsz; omega
  have hW := cutA_weight p rs hsz
  have hF := cutA_fine p rs hsz
  have hL := cutA_len p rs hsz
  have hCO := fun W (h : Below w.heap.size w W) => cutOf_any p rs W B P u ra rc (hPt.under (h.mono hB)) (by have := h.size; omega) hz (hR.mono fun k hk => h.block k (hP k hk).1) (fun b hb => by have := (hP b hb).1; have := h.size; omega) hrl
  obtain ⟨pname, types⟩ := p
  obtain ⟨ta, tc, rfl, -⟩ := hPt
  simp only at hCO
  generalize cutA ⟨pname, types⟩ rs = rl at *
  have bP := below_box w (.cells #[.string pname, .slice ta types.length tc] 32)
  have C1 := hCO _ bP
  clear hCO
  go_enter Tryz.func9, Tryz.ntmps9
  go_wp2_with fail
  refine C1.mono ?_
  rintro e w1 ⟨⟨a, c, lab0, rfl, hc, hl0, hS⟩, hb1⟩
  have z1 := hb1.size
  simp at z1 hl0
  have b1 := bP.trans (hb1.mono (by simp))
  have HS := hid_of (And.intro hl0 hS)
  clear C1 hb1 bP hl0 hS
  go_wp2_with fail
  refine (newCopier_any w1).mono ?_
  rintro e w2 ⟨g, m, rfl, hg1, hg2, hm1, hm2, hmg, hCo, hOk, hb2⟩
  have z2 := hb2.size
  have b2 := b1.trans (hb2.mono (by omega))
  have hPz : ∀ k, P k → k < w.heap.size := fun k hk => (hP k hk).1
  obtain ⟨b0, A, K, ha, hK, hst⟩ := Cst.start (P := P) (g := g) (m := m) b2 (fun b hb => by have := HS.out.1 b hb; omega) (HS.out.2.below (fun b hb => by have := HS.out.1 b hb; omega) hb2 (fun k hk => by have := hPz k hk; omega))
  have HC : Hid (CopSt w2 P g m 17179869184) := hid_of ⟨hCo, ⟨_, hOk.widen fun _ h => h.elim, fun b o n v h => by cases h⟩, hg2, hm2⟩
  have HST := hid_of hst
  have HF := hid_of hF
  clear HS hst hCo hOk hb2 b1 b2 hF
  go_wp2_with fail
  go_loopw [16] (fun iv wr => ∃ (i : Nat) (lab : Nat → List Nat), i ≤ rl.length ∧ iv = .int .i64 i ∧ Hid (Cst w wr P rl b0 g m A K lab i 0) ∧ Hid (CopSt wr P g m (17179869184 - (((rl.take i).map wR).sum : Nat)))) (fun iv _ => rl.length - (intOf iv).toNat)
  case atStart => exact ⟨0, lab0, Nat.zero_le _, rfl, HST, by simpa using HC⟩
  case round =>
    clear HST HC
    obtain ⟨i, lab, hi, rfl, HST, HC⟩ := hrel
    obtain ⟨w0, rfl⟩ : ∃ x, x = wr := ⟨wr, rfl⟩
    by_cases hlt : i < rl.length
    · have haa := ha (by omega)
      subst haa
      have hii : (i : Int) < (rl.length : Int) := by omega
      obtain ⟨r0, r1, r2⟩ := HST.out.rowc i hlt
      obtain ⟨hc8, htz, hszV⟩ := HF.out i hlt
      have hKi := (hK i hlt).1
      have hw1 := sum_take wR Ro.zero rl i hlt
      have hw2 := sum_part wR rl (i + 1)
      change _ = _ + wR (rth rl i) at hw1
      have hwr : wR (rth rl i) = ((rth rl i).cells.map fun c => wV copyN c.val).sum := rfl
      obtain ⟨ai, hai⟩ : ∃ ai, A i = ai := ⟨_, rfl⟩
      obtain ⟨b, off, hAi⟩ : ∃ b off, 0 < (rth rl i).cells.length → ai = some ⟨b, off, none⟩ ∧ b < w0.heap.size ∧ b ≠ g ∧ b ≠ m := by
        rw [← hai]
        by_cases h0 : 0 < (rth rl i).cells.length
        · obtain ⟨b, off, e1, e2, -⟩ := HST.out.cells i hlt h0
          have := HST.out.way b (by rw [e2]; simp)
          exact ⟨b, off, fun _ => ⟨e1, this.2⟩⟩
        · exact ⟨0, 0, fun h => absurd h h0⟩
      rw [hai] at r2
      have HAI := hid_of hai
      clear hai
      have bR := below_box w0 (.cells #[.string (rth rl i).type, .int .i64 (rth rl i).id, .slice ai (rth rl i).cells.length (K i)] 51)
      have nR := block_new (w := w0) #[.string (rth rl i).type, .int .i64 (rth rl i).id, .slice ai (rth rl i).cells.length (K i)] 51 rfl
      have zw := HST.out.bel.size
      have HSR := hid_of (HST.out.keep bR hPz)
      have HCR := hid_of (HC.out.keep bR (fun k hk => by have := hPz k hk; omega))
      have hcl : (rth rl i).cells.length ≤ 1048576 := by omega
      have zg := HC.out.2.2
      clear HST HC
      go_wp2_with fail
      go_loopw [23] (fun jv wr => ∃ (j : Nat) (lab : Nat → List Nat), j ≤ (rth rl i).cells.length ∧ jv = .int .i64 j ∧ Hid (Cst w wr P rl b0 g m A K lab i j) ∧ Hid (CopSt wr P g m (17179869184 - (((rl.take i).map wR).sum : Nat) - ((((rth rl i).cells.take j).map fun c => wV copyN c.val).sum : Nat))) ∧ wr.heap[w0.heap.size]? = some (.cells #[.string (rth rl i).type, .int .i64 (rth rl i).id, .slice ai (rth rl i).cells.length (K i)] 51 (0, 0)) ∧ w0.heap.size < wr.heap.size) (fun jv _ => (rth rl i).cells.length - (intOf jv).toNat)
      case atStart => exact ⟨0, lab, Nat.zero_le _, rfl, HSR, by simpa using HCR, nR, by simp⟩
      case round =>
        clear HSR HCR nR bR r0 r1 r2
        obtain ⟨j, lab, hj, rfl, HST, HC, nR, zlt⟩ := hrel
        obtain ⟨w3, rfl⟩ : ∃ x, x = wr := ⟨wr, rfl⟩
        have t2 := (box_at nR 2 (by simp)).1
        by_cases hjt : j < (rth rl i).cells.length
        · have hji : (j : Int) < ((rth rl i).cells.length : Int) := by omega
          obtain ⟨rfl, hbz, hbg, hbm⟩ := hAi (by omega)
          clear hAi
          obtain ⟨b', off', e1, e2, hfz, C, c1, c2⟩ := HST.out.cells i hlt (by omega)
          rw [HAI.out] at e1
          simp only [Option.some.injEq, Addr.mk.injEq, and_true] at e1
          obtain ⟨rfl, rfl⟩ := e1
          have hbw : w.heap.size ≤ b := (HST.out.way b (by rw [e2]; simp)).1
          have hse := c2 j hjt
          simp only [Nat.lt_irrefl, if_false, if_true] at hse
          obtain ⟨-, hV, -⟩ := hse
          have hsx := hszV j hjt
          have hs1 := sum_take (fun c : Ce => wV copyN c.val) Ce.zero (rth rl i).cells j hjt
          have hs2 := sum_part (fun c : Ce => wV copyN c.val) (rth rl i).cells (j + 1)
          change _ = _ + wV copyN (cth (rth rl i).cells j).val at hs1
          obtain ⟨x, hx⟩ : ∃ x, x = (cth (rth rl i).cells j).val := ⟨_, rfl⟩
          rw [← hx] at hV hsx hs1
          have HX := hid_of hx
          clear hx
          obtain ⟨na, ka, nc, kc, e5, -⟩ := hV.form
          simp only [Value.agg.injEq, Array.mk.injEq, List.cons.injEq, and_true] at e5
          obtain ⟨f1, f2, f3, f4, f5⟩ := e5
          rw [f1, f2, f3, f4, f5] at hV
          have k1 := c1 j hjt 1 (by omega)
          have k2 := c1 j hjt 2 (by omega)
          have k3 := c1 j hjt 3 (by omega)
          have k4 := c1 j hjt 4 (by omega)
          have k5 := c1 j hjt 5 (by omega)
          rw [f1] at k1
          rw [f2] at k2
          rw [f3] at k3
          rw [f4] at k4
          rw [f5] at k5
          have q1 : w3.cell? ⟨b, off + j * 6 + 1, none⟩ = some (.int .i64 x.sort) := k1
          have q2 : w3.cell? ⟨b, off + j * 6 + 1 + 1, none⟩ = some (.int .i64 x.num) := k2
          have q3 : w3.cell? ⟨b, off + j * 6 + 1 + 2, none⟩ = some (.string x.text) := k3
          have q4 : w3.cell? ⟨b, off + j * 6 + 1 + 3, none⟩ = some (.slice na x.names.length nc) := k4
          have q5 : w3.cell? ⟨b, off + j * 6 + 1 + 4, none⟩ = some (.slice ka x.kids.length kc) := k5
          have zw3 := HST.out.bel.size
          obtain ⟨hCo, ⟨G, hOk, hKn⟩, hgz, hmz⟩ := HC.out
          have hCM := copier_more x w3.drew P (.agg #[.int .i64 x.sort, .int .i64 x.num, .string x.text, .slice na x.names.length nc, .slice ka x.kids.length kc]) g m _ G hsx (hV.mono fun _ _ => rfl) (fun b hb => ⟨by have := hPz b hb; show b < w3.heap.size; omega, (hP b hb).2.of_block (HST.out.bel.block b (hPz b hb))⟩) (fun b hb => by have := hPz b hb; omega) hmg hgz (hCo.of_block rfl) (hOk.of_block rfl) (hKn.mono fun _ _ => rfl) (by omega) (by omega)
          have HCM := hid_of hCM
          have HFZ := hid_of hfz
          have HBL : Hid (∀ W, Aside (fun b => b = g ∨ b = m) w3 W → W.heap[b]? = w3.heap[b]? ∧ W.heap[w0.heap.size]? = w3.heap[w0.heap.size]?) := hid_of fun W h => ⟨h.block b (by omega) (by omega), h.block _ zlt (by omega)⟩
          have HSUM := hid_of (And.intro hs1 hs2)
          clear hCM hCo hOk hKn hV k1 k2 k3 k4 k5 f1 f2 f3 f4 f5 hfz c1 c2 e2 hs1 hs2
          go_wp2_with fail
          go_region_with
            (first
              | (
                go_at_call 23
                refine HCM.out.mono ?_
                rintro e w4 ⟨na', ka', nc', kc', rfl, has, hCo4, hG4, hr4, lab1, hl1, hL1⟩
                have has' := aside_undrew has
                obtain ⟨bb1, bb2⟩ := HBL.out w4 has'
                have y0 := (World.cell?_of_block (w := w3) (a := ⟨w0.heap.size, 2, none⟩) bb2).trans t2
                have y1 := (World.cell?_of_block (w := w3) (a := ⟨b, off + j * 6 + 1, none⟩) bb1).trans q1
                have y2 := (World.cell?_of_block (w := w3) (a := ⟨b, off + j * 6 + 1 + 1, none⟩) bb1).trans q2
                have y3 := (World.cell?_of_block (w := w3) (a := ⟨b, off + j * 6 + 1 + 2, none⟩) bb1).trans q3
                have y4 := (World.cell?_of_block (w := w3) (a := ⟨b, off + j * 6 + 1 + 3, none⟩) bb1).trans q4
                have y5 := (World.cell?_of_block (w := w3) (a := ⟨b, off + j * 6 + 1 + 4, none⟩) bb1).trans q5
                have z1f : w4.frozen? ⟨b, off + j * 6 + 1, none⟩ = false := (World.frozen?_of_block (w := w3) (a := ⟨b, off + j * 6 + 1, none⟩) bb1).trans (HFZ.out _)
                have z2f : w4.frozen? ⟨b, off + j * 6 + 1 + 1, none⟩ = false := (World.frozen?_of_block (w := w3) (a := ⟨b, off + j * 6 + 1 + 1, none⟩) bb1).trans (HFZ.out _)
                have z3f : w4.frozen? ⟨b, off + j * 6 + 1 + 2, none⟩ = false := (World.frozen?_of_block (w := w3) (a := ⟨b, off + j * 6 + 1 + 2, none⟩) bb1).trans (HFZ.out _)
                have z4f : w4.frozen? ⟨b, off + j * 6 + 1 + 3, none⟩ = false := (World.frozen?_of_block (w := w3) (a := ⟨b, off + j * 6 + 1 + 3, none⟩) bb1).trans (HFZ.out _)
                have z5f : w4.frozen? ⟨b, off + j * 6 + 1 + 4, none⟩ = false := (World.frozen?_of_block (w := w3) (a := ⟨b, off + j * 6 + 1 + 4, none⟩) bb1).trans (HFZ.out _)
                have H4 := hid_of (And.intro has' (And.intro hCo4 (And.intro hG4 (And.intro hr4 (And.intro hl1 hL1)))))
                clear has has' hCo4 hG4 hr4 hl1 hL1 bb1 bb2))
          all_goals
            go_wp2_with fail
            go_roundw
            case measure => simp [intOf]; omega
            case rel =>
              obtain ⟨has, hCo4, ⟨G4, hO4, hK4⟩, hr4, hl1, hL1⟩ := H4.out
              have z4 : w3.heap.size ≤ w4.heap.size := has.size
              obtain ⟨lab', hst'⟩ := HST.out.step hlt hjt HAI.out hPz (by omega) (by omega) hgz hmz has hl1 (by rw [← HX.out]; exact hL1) (by rw [← HX.out]; exact hr4)
              have hblk := put5_block w4 b (off + j * 6 + 1) (.int .i64 x.sort) (.int .i64 x.num) (.string x.text) (.slice na' x.names.length nc') (.slice ka' x.kids.length kc')
              have hpz := put5_size w4 b (off + j * 6 + 1) (.int .i64 x.sort) (.int .i64 x.num) (.string x.text) (.slice na' x.names.length nc') (.slice ka' x.kids.length kc')
              refine ⟨j + 1, lab', by omega, by go_num, hid_of hst', hid_of ⟨?_, ⟨G4, hO4.of_block (hblk m (by omega)), hK4.mono fun k hk => hblk k (by have := hPz k hk; have := (HST.out.bel.size); omega)⟩, Nat.lt_of_lt_of_eq (by omega) hpz.symm, Nat.lt_of_lt_of_eq (by omega) hpz.symm⟩, ((hblk _ (by omega)).trans (HBL.out w4 has).2).trans nR, Nat.lt_of_lt_of_eq (by omega) hpz.symm⟩
              have e : (17179869184 - (((rl.take i).map wR).sum : Nat) - ((((rth rl i).cells.take (j + 1)).map fun c => wV copyN c.val).sum : Nat) : Int) = 17179869184 - (((rl.take i).map wR).sum : Nat) - ((((rth rl i).cells.take j).map fun c => wV copyN c.val).sum : Nat) - (wV copyN x : Nat) := by have := HSUM.out.1; omega
              rw [e]
              exact hCo4.of_block (hblk g (by omega))
        · have e : j = (rth rl i).cells.length := by omega
          subst e
          go_wp2_with fail
          go_roundw
          case measure => simp [intOf]; omega
          case rel =>
            refine ⟨i + 1, lab, by omega, by go_num, hid_of (HST.out.next rfl), ?_⟩
            have h := HC.out
            rw [List.take_length] at h
            have e : (17179869184 - (((rl.take (i + 1)).map wR).sum : Nat) : Int) = 17179869184 - (((rl.take i).map wR).sum : Nat) - (((rth rl i).cells.map fun c => wV copyN c.val).sum : Nat) := by omega
            rw [e]
            exact hid_of h
    · have e : i = rl.length := by omega
      subst e
      go_wp2_with fail
      go_ret
      obtain ⟨h1, h2⟩ := HST.out.done a ha (fun k hk => (hK k hk).1) (by omega) (fun k hk => ⟨by have := (HF.out k hk).1; omega, (hK k hk).2⟩)
      exact ⟨⟨a, c, lab, rfl, fun b hb => ⟨(HST.out.way b hb).1, (HST.out.way b hb).2.1⟩, h1, h2⟩, HST.out.bel⟩
end Go.Proofs.YtbpdchlbhfjddaaGreat

namespace Go.Proofs.YtbpdchlbhfjddaaGreat
set_option linter.unusedSimpArgs false
set_option linter.unusedVariables false
open Go.RowKit

theorem NumAt.block {w w' : World} {a : Addr} (h : NumAt w a) (e : w'.heap[a.block]? = w.heap[a.block]?) : NumAt w' a := by
  obtain ⟨⟨s, h1⟩, h2⟩ := h
  exact ⟨⟨s, (World.cell?_of_block e).trans h1⟩, (World.frozen?_of_block e).trans h2⟩
theorem TextAt.block {w w' : World} {a : Addr} (h : TextAt w a) (e : w'.heap[a.block]? = w.heap[a.block]?) : TextAt w' a := by
  obtain ⟨⟨s, h1⟩, h2⟩ := h
  exact ⟨⟨s, (World.cell?_of_block e).trans h1⟩, (World.frozen?_of_block e).trans h2⟩
theorem WStrs.block {w w' : World} {lo hi n : Nat} {a : Option Addr} (h : WStrs w lo hi n a) (e : ∀ b, lo ≤ b → b < hi → w'.heap[b]? = w.heap[b]?) : WStrs w' lo hi n a := fun hn => by
  obtain ⟨b, off, h0, h1, h2, hc⟩ := h hn
  exact ⟨b, off, h0, h1, h2, fun i hi => (hc i hi).block (e b h1 h2)⟩
theorem WVals.block {w w' : World} {lo hi : Nat} (e : ∀ b, lo ≤ b → b < hi → w'.heap[b]? = w.heap[b]?) : ∀ {f : Nat} {ks : List V} {a : Option Addr}, WVals w lo hi f ks a → WVals w' lo hi f ks a
  | 0, _, _, h => h
  | f + 1, ks, a, h => fun hn => by
    obtain ⟨b, off, h0, h1, h2, hc⟩ := h hn
    refine ⟨b, off, h0, h1, h2, fun i hi => ?_⟩
    obtain ⟨q0, q1, q2, ⟨na, nc, q3, q5⟩, ka, kc, q4, q6⟩ := hc i hi
    have eb := e b h1 h2
    exact ⟨q0.block eb, q1.block eb, q2.block eb, ⟨na, nc, (World.cell?_of_block (a := ⟨b, off + i * 5 + 3, none⟩) eb).trans q3, q5.block e⟩, ka, kc, (World.cell?_of_block (a := ⟨b, off + i * 5 + 4, none⟩) eb).trans q4, q6.block e⟩
theorem WCells.block {w w' : World} {lo hi : Nat} {cs : List Ce} {a : Option Addr} (h : WCells w lo hi cs a) (e : ∀ b, lo ≤ b → b < hi → w'.heap[b]? = w.heap[b]?) : WCells w' lo hi cs a := fun hn => by
  obtain ⟨b, off, h0, h1, h2, hc⟩ := h hn
  refine ⟨b, off, h0, h1, h2, fun i hi => ?_⟩
  obtain ⟨q0, q1, q1', q2, ⟨na, nc, q3, q5⟩, f, ka, kc, q4, q6⟩ := hc i hi
  have eb := e b h1 h2
  exact ⟨q0.block eb, q1.block eb, q1'.block eb, q2.block eb, ⟨na, nc, (World.cell?_of_block (a := ⟨b, off + i * 6 + 1 + 3, none⟩) eb).trans q3, q5.block e⟩, f, ka, kc, (World.cell?_of_block (a := ⟨b, off + i * 6 + 1 + 4, none⟩) eb).trans q4, q6.block e⟩
theorem WRows.block {w w' : World} {lo hi : Nat} {rs : List Ro} {a : Option Addr} (h : WRows w lo hi rs a) (e : ∀ b, lo ≤ b → b < hi → w'.heap[b]? = w.heap[b]?) : WRows w' lo hi rs a := fun hn => by
  obtain ⟨b, off, h0, h1, h2, hc⟩ := h hn
  refine ⟨b, off, h0, h1, h2, fun i hi => ?_⟩
  obtain ⟨q0, q1, ca, cc, q3, q5⟩ := hc i hi
  have eb := e b h1 h2
  exact ⟨q0.block eb, q1.block eb, ca, cc, (World.cell?_of_block (a := ⟨b, off + i * 3 + 2, none⟩) eb).trans q3, q5.block e⟩

set_option maxRecDepth 20000 in
set_option maxHeartbeats 1600000 in
theorem markRowS_g (rs : List Ro) (c lo hi : Nat) (K0 : Int) (a : Option Addr) (w : World) (h : WRows w lo hi rs a) (hn : rSz rs ≤ 1048576) (hk0 : 0 ≤ K0) (hk1 : K0 ≤ 100000000000000) :
    Calls Tryz.prog 13 #[.slice a rs.length c, .int .i64 K0] w fun e w' => (∃ K' : Int, e = .returned (.int .i64 K') ∧ 0 ≤ K' ∧ K' ≤ 1000000000000000) ∧ MarkedN lo hi w w' := by
    have hlen : rs.length ≤ 1048576 := by unfold rSz at hn; omega
    go_enter Tryz.func13, Tryz.ntmps13
    go_wp2_with fail
    go_loopw [1, 5] (fun kk i wr => ∃ (j : Nat) (q : Int), j ≤ rs.length ∧ 0 ≤ q ∧ q ≤ K0 + 4 * rSz (rs.take j) ∧ kk = .int .i64 q ∧ i = .int .i64 j ∧ MarkedN lo hi w wr) (fun _ i _ => rs.length - (intOf i).toNat)
    case atStart => exact ⟨0, K0, Nat.zero_le _, hk0, by omega, rfl, rfl, MarkedN.refl _ _ _⟩
    case round =>
      obtain ⟨j, K, hj, hK0, hKq, rfl, rfl, hm⟩ := hrel
      obtain ⟨w0, rfl⟩ : ∃ x, x = wr := ⟨wr, rfl⟩
      by_cases hlt : j < rs.length
      · obtain ⟨b, off, rfl, h1, h2, hcc⟩ := (h.keep hm) (by omega)
        obtain ⟨x0, x1, ca, cc, x3, x5⟩ := hcc j hlt
        clear hcc
        have hji : (j : Int) < (rs.length : Int) := by omega
        have g1 := rSz_take rs j hlt
        have g2 := rSz_part rs (j + 1)
        have g0 : szR (rth rs j) = (rth rs j).type.size + cSz (rth rs j).cells := rfl
        have hkl : cSz (rth rs j).cells ≤ 1048576 := by omega
        have hKm : K + 2 + 4 * cSz (rth rs j).cells ≤ K0 + 4 * rSz (rs.take (j + 1)) ∧ K0 + 4 * rSz (rs.take (j + 1)) ≤ 1000000000000000 := by omega
        have hKn : K + 2 + 4 * cSz (rth rs j).cells ≤ 1000000000000000 := by omega
        have HKB := hidM hKm
        have hB1 : Hid (lo ≤ b ∧ b < hi) := ⟨h1, h2⟩
        have HX := hidM (And.intro x0 (And.intro x1 (And.intro x3 x5)))
        clear x0 x1 x3 x5 h1 h2 g0 g1 g2 hKq hKm
        go_wp2_with fail
        refine (markText_i K w0 hK0 (by omega)).mono ?_
        rintro e w1 ⟨⟨mt0, rfl⟩, hb1⟩
        have m1 := MarkedN.of_below lo hi hb1
        obtain ⟨⟨s0, t0⟩, f0⟩ := HX.out.1.keep m1.m
        obtain ⟨⟨s1, t1⟩, f1⟩ := HX.out.2.1.keep m1
        have t3 := m1.m.list _ _ _ _ HX.out.2.2.1
        have HM1 := hidM m1
        clear m1 hb1
        go_wp2_with fail
        have n0 := MarkedN.set_text t0 hB1.out.1 hB1.out.2 mt0
        obtain ⟨⟨s1', t1'⟩, -⟩ := NumAt.keep ⟨⟨_, t1⟩, f1⟩ n0
        have n1 := HM1.out.trans (n0.trans (MarkedN.set_num t1' hB1.out.1 hB1.out.2 (K + 1)))
        obtain ⟨W1, hW1⟩ : ∃ W, W = (w1.setCell ⟨b, off + j * 3, none⟩ (.string mt0)).setCell ⟨b, off + j * 3 + 1, none⟩ (.int .i64 (K + 1)) := ⟨_, rfl⟩
        rw [← hW1] at n1
        rw [← hW1]
        clear hW1 t0 f0 t1 f1 t1' n0 t3
        refine (markCellS_k (rth rs j).cells cc lo hi (K + 1 + 1) ca W1 (HX.out.2.2.2.keep n1) hkl (by omega) (by omega)).mono ?_
        rintro e w5 ⟨⟨K', rfl, hK'0, hK'1⟩, m6⟩
        have m7 := hm.trans (n1.trans m6)
        clear m6 n1
        go_wp2_with fail
        go_roundw
        case rel => exact ⟨j + 1, K', by omega, hK'0, by have := HKB.out; omega, rfl, by go_num, m7⟩
        case measure => simp [intOf]; omega
      · go_wp2_with fail
        go_ret
        have e : j = rs.length := by omega
        exact ⟨⟨K, rfl, hK0, by have := rSz_part rs j; omega⟩, hm⟩
end Go.Proofs.YtbpdchlbhfjddaaGreat

namespace Go.Proofs.YtbpdchlbhfjddaaGreat
set_option linter.unusedSimpArgs false
set_option linter.unusedVariables false
open Go.RowKit

theorem LKids.below {w w' : World} {lab : Nat → List Nat} {p : List Nat} {ks : List V} {ka : Option Addr} (h : LKids w lab p ks ka) (hl : ∀ c, lab c ≠ [] → c < w.heap.size) (hb : Below w.heap.size w w') : LKids w' lab p ks ka := h.keep fun c h1 _ => hb.block c (hl c h1)

def HdOk (x : V) : Prop := ∀ (lab : Nat → List Nat) (p : List Nat) (ka : Option Addr) (kc k : Nat) (w : World), LKids w lab p (mkL x.kids k) ka → (∀ c, lab c ≠ [] → c < w.heap.size) → k + nL x.kids ≤ 1000000000000 → szV x ≤ 1048576 →
  Calls Tryz.prog 52 #[.slice ka x.kids.length kc, .int .i64 k] w fun e w' => e = .returned (.int .i64 ((k + nL x.kids : Nat) : Int)) ∧ Below w.heap.size w w'

set_option maxRecDepth 20000 in
set_option maxHeartbeats 1600000 in
theorem heldValueS_step (x : V) (IH : ∀ i, i < x.kids.length → HdOk (kth x.kids i)) : HdOk x := by
  intro lab p ka kc k w hK hlab hk hsz
  obtain ⟨s, n, t, ns, ks⟩ := x
  simp only at IH hK hk ⊢
  obtain ⟨b, off, C, hb, hc, hr⟩ := hK
  rw [mkL_len] at hc hr
  have hsz2 : ks.length + sL ks ≤ 1048576 := by have := szV_eq (.mk s n t ns ks); simp only at this; omega
  go_enter Tryz.func52, Tryz.ntmps52
  go_wp2_with fail
  go_loopw [1, 5] (fun kk i wr => ∃ j : Nat, j ≤ ks.length ∧ i = .int .i64 j ∧ kk = .int .i64 ((k + nL (ks.take j) : Nat) : Int) ∧ Below w.heap.size w wr) (fun _ i _ => ks.length - (intOf i).toNat)
  case atStart => exact ⟨0, Nat.zero_le _, rfl, by simp [nL], Below.refl _ _⟩
  case round =>
    obtain ⟨j, hj, rfl, rfl, hbel⟩ := hrel
    obtain ⟨w0, rfl⟩ : ∃ y, y = wr := ⟨wr, rfl⟩
    by_cases hlt : j < ks.length
    · have hne : mkL ks k ≠ [] := fun e => by have := mkL_len ks k; rw [e] at this; simp at this; omega
      obtain ⟨rfl, hlb, -⟩ := hb hne
      have hrj := hr j hlt
      rw [mkL_kth ks k j hlt] at hrj
      obtain ⟨na, ka', nc, kc', ev, hN, hKj⟩ := hrj.inv
      simp only [Value.agg.injEq, Array.mk.injEq, List.cons.injEq, and_true, mk1, mkNs_len, mkL_len] at ev hN hKj
      obtain ⟨e0, e1, e2, e3, e4⟩ := ev
      have p0 := hc j hlt 0 (by omega)
      have p1 := hc j hlt 1 (by omega)
      have p2 := hc j hlt 2 (by omega)
      have p3 := hc j hlt 3 (by omega)
      have p4 := hc j hlt 4 (by omega)
      rw [e0, Nat.add_zero] at p0
      rw [e1] at p1
      rw [e2] at p2
      rw [e3] at p3
      rw [e4] at p4
      obtain ⟨q, hq⟩ : ∃ q, q = k + nL (ks.take j) := ⟨_, rfl⟩
      rw [← hq] at p0 p1 p2 hN hKj ⊢
      have hnt := nL_take ks j hlt
      have hnp := nL_part ks (j + 1)
      have hnv := nV_eq (kth ks j)
      have hszj : szV (kth ks j) ≤ 1048576 := by have := szV_kth ks j hlt; omega
      have hnl : (kth ks j).names.length ≤ 1048576 := by have := len_szNs (kth ks j).names; have := szV_eq (kth ks j); omega
      have hqb : q + 3 + nV (kth ks j) ≤ 1000000000000 := by omega
      have hqi : (q : Int) ≤ 1000000000000 := by omega
      have hji : (j : Int) < (ks.length : Int) := by omega
      have hbl : b < w.heap.size := hlab b (by rw [hlb]; simp)
      have HQ : Hid (q = k + nL (ks.take j)) := hq
      have HNT : Hid (nL (ks.take (j + 1)) = nL (ks.take j) + (3 + nV (kth ks j))) := hnt
      have z0 := hbel.size
      have cell : ∀ (W : World), Below w.heap.size w W → ∀ m u, w.cell? ⟨b, m, none⟩ = some u → W.cell? ⟨b, m, none⟩ = some u := fun W hW m u h => (hW.cell (p := ⟨b, m, none⟩) hbl).trans h
      have r0 := cell w0 hbel _ _ p0
      have r1 := cell w0 hbel _ _ p1
      have r2 := cell w0 hbel _ _ p2
      rw [show ((q + 1 : Nat) : Int) = (q : Int) + 1 by omega] at r1
      have HCE := hidM cell
      have HN := hidM hN
      have HKJ := hidM hKj
      have hM := markText_any (q + 2) w0.drew (by omega)
      rw [show ((q + 2 : Nat) : Int) = (q : Int) + 1 + 1 by omega] at hM
      generalize hmt : mtext (q + 2) = mt at r2 hM p2
      have HM := hidM hM
      clear hc hr hq hnt hrj e0 e1 e2 e3 e4 cell hN hKj hM hmt
      go_wp2_with fail
      go_cut [37] (fun r wx => r = .bool false ∧ Below w.heap.size w wx)
      case first =>
        go_region_held3 (fun w' => w'.cell? ⟨b, off + j * 5 + 2, none⟩ = some (.string mt)) (go_keep)
          (first
            | (
              go_at_call 27
              refine HM.out.mono ?_
              rintro e w1 ⟨rfl, hb1⟩
              have hb1' := hbel.trans ((below_undrew hb1).mono z0)
              have c1 := HCE.out w1 hb1' _ _ p2))
        all_goals
          go_wp2_with fail
          go_meet
          case rel => exact ⟨rfl, hb1'⟩
      case rest =>
      obtain ⟨rfl, hb1⟩ := hcut
      obtain ⟨w1, rfl⟩ : ∃ y, y = wc := ⟨wc, rfl⟩
      clear r0 r1 r2
      have z1 := hb1.size
      have r3 := HCE.out w1 hb1 _ _ p3
      have hH := heldStringS_any (kth ks j).names.length nc (q + 3) na w1 (fun h0 => by
        obtain ⟨nb, no, n1, n2, -, n4⟩ := HN.out (fun e => by have := mkNs_len (kth ks j).names.length (q + 3); rw [e] at this; simp at this; omega)
        refine ⟨nb, no, n1, fun i hi => ?_⟩
        rw [mkNs_len] at n4
        have := n4 i hi
        rw [mkNs_nth _ _ _ hi] at this
        exact (hb1.cell (p := ⟨nb, no + i, none⟩) (hlab nb (by rw [n2]; simp))).trans this) hnl (by omega)
      rw [show ((q + 3 : Nat) : Int) = (q : Int) + 1 + 1 + 1 by omega] at hH
      have HH := hidM hH
      clear hH
      go_wp2_with fail
      refine HH.out.mono ?_
      rintro e w2 ⟨rfl, hb2⟩
      have b2 := hb1.trans (hb2.mono z1)
      have z2 := b2.size
      have r4 := HCE.out w2 b2 _ _ p4
      have hI := IH j hlt lab ((j + 2) :: p) ka' kc' (q + 3 + (kth ks j).names.length) w2 (HKJ.out.below hlab b2) (fun c hc => by have := hlab c hc; omega) (by omega) hszj
      rw [show ((q + 3 + (kth ks j).names.length : Nat) : Int) = (q : Int) + 3 + ((kth ks j).names.length : Int) by omega] at hI
      have HI := hidM hI
      have hpos : ¬ (q : Int) + 3 + ((kth ks j).names.length : Int) < 0 := by omega
      clear hI r3
      go_wp2_with fail
      refine HI.out.mono ?_
      rintro e w3 ⟨rfl, hb3⟩
      have b3 := b2.trans (hb3.mono z2)
      have hpos2 : ¬ ((q + 3 + (kth ks j).names.length + nL (kth ks j).kids : Nat) : Int) < 0 := by omega
      go_wp2_with fail
      go_roundw
      case measure => simp [intOf]; omega
      case rel =>
        refine ⟨j + 1, by omega, by go_num, ?_, b3⟩
        have h1 := HNT.out
        have h2 := HQ.out
        congr 1
        omega
    · go_wp2_with fail
      go_ret
      have e : j = ks.length := by omega
      subst e
      exact ⟨by rw [List.take_length]; rfl, hbel⟩
theorem heldValueS_l (x : V) : HdOk x := v_ind (q := HdOk) heldValueS_step x
end Go.Proofs.YtbpdchlbhfjddaaGreat
