import Derived.Test.YtmemijccbmnaaaaGreatJ17
import Derived.Test.YtmemijccbmnaaaaGreatJ6
import Derived.Test.YtmemijccbmnaaaaGreatJ18
import Derived.Deep.RegionHeld3
import Derived.Deep.DeepCutAuto
namespace Go.Proofs.YtmemijccbmnaaaaGreat
set_option linter.unusedSimpArgs false
set_option linter.unusedVariables false
open Go.RowKit

theorem rSz_fine {rs : List Ro} (h : rSz rs ≤ 1048576) : rs.length ≤ 1048576 ∧ ∀ i, i < rs.length → (rth rs i).cells.length ≤ 1048576 ∧ ∀ j, j < (rth rs i).cells.length → szV (cth (rth rs i).cells j).val ≤ 1048576 := by
  unfold rSz at h
  refine ⟨by omega, fun i hi => ?_⟩
  have h2 : szR (rth rs i) ≤ (rs.map szR).sum := sum_one szR Ro.zero rs i hi
  have e2 : szR (rth rs i) = (rth rs i).type.size + ((rth rs i).cells.length + ((rth rs i).cells.map szC).sum) := rfl
  refine ⟨by omega, fun j hj => ?_⟩
  have h3 : szC (cth (rth rs i).cells j) ≤ ((rth rs i).cells.map szC).sum := sum_one szC Ce.zero (rth rs i).cells j hj
  have e3 : szC (cth (rth rs i).cells j) = (cth (rth rs i).cells j).name.size + szV (cth (rth rs i).cells j).val := rfl
  omega
theorem RM.block {L : Bool} {lo : Nat} {w w' : World} {rl : List Ro} {a : Option Addr} {b0 : Nat} {A : Nat → Option Addr} {K : Nat → Nat} {lab : Nat → List Nat} (h : RM L lo w rl a b0 A K lab) (hz : w.heap.size ≤ w'.heap.size) (hb : ∀ b, lab b ≠ [] → w'.heap[b]? = w.heap[b]?) : RM L lo w' rl a b0 A K lab := by
  have hn : 0 < rl.length → lab b0 ≠ [] := fun h0 => by rw [(h.base h0).2.1]; simp
  refine ⟨h.len, fun b hb' => ?_, fun h0 => ⟨(h.base h0).1, (h.base h0).2.1, fun i => (World.frozen?_of_block (w := w) (a := ⟨b0, i, none⟩) (hb b0 (hn h0))).trans ((h.base h0).2.2 i)⟩, fun k hk => (h.rowc k hk).keep (hb b0 (hn (by omega))), h.bnd, fun k hk => (h.cells k hk).keep (fun b h1 _ => ⟨rfl, hb b h1⟩)⟩
  obtain ⟨a1, a2⟩ := h.way b hb'
  exact ⟨a1, by omega⟩
theorem RM.low {L : Bool} {lo lo' : Nat} {w : World} {rl : List Ro} {a : Option Addr} {b0 : Nat} {A : Nat → Option Addr} {K : Nat → Nat} {lab : Nat → List Nat} (h : RM L lo w rl a b0 A K lab) (e : lo' ≤ lo) : RM L lo' w rl a b0 A K lab :=
  ⟨h.len, fun b hb => ⟨by have := (h.way b hb).1; omega, (h.way b hb).2⟩, h.base, h.rowc, h.bnd, h.cells⟩
theorem RM.none {L : Bool} (lo : Nat) (w : World) (a : Option Addr) : RM L lo w [] a 0 (fun _ => .none) (fun _ => 0) (fun _ => []) :=
  ⟨by simp, fun b hb => absurd rfl hb, fun h => by simp at h, fun k hk => by simp at hk, fun k hk => by simp at hk, fun k hk => by simp at hk⟩
/-- The rows, and where they lie, in a fleet of one part. -/
def FleetAt (X wx : World) (rs : List Ro) (pn : ByteArray) (ta : Option Addr) (tl tc : Nat) (fb : Nat) : Prop := ∃ (pb sb : Nat) (ra : Option Addr) (rcap b0 : Nat) (A : Nat → Option Addr) (K : Nat → Nat) (lab : Nat → List Nat),
  wx.heap[fb]? = some (.cells #[.slice (some ⟨pb, 0, none⟩) 1 1, .string pn, .slice ta tl tc, .slice (some ⟨sb, 0, none⟩) 1 1] 77 (0, 0)) ∧ wx.heap[pb]? = some (.cells #[.string pn, .slice ta tl tc] 40 (0, 0)) ∧ wx.heap[sb]? = some (.cells #[.slice ra rs.length rcap] 35 (0, 0)) ∧ Below X.heap.size X wx ∧ RM true X.heap.size wx rs ra b0 A K lab ∧ lab fb = [] ∧ lab sb = []
theorem fleet_end {X W : World} {rs : List Ro} {pn : ByteArray} {ta : Option Addr} {tl tc fb pb sb : Nat} {z0 z1 z2 z3 : Value} {ra : Option Addr} {rcap b0 lo : Nat} {A : Nat → Option Addr} {K : Nat → Nat} {lab : Nat → List Nat} (hM : RM true lo W rs ra b0 A K lab) (hB : Below X.heap.size X W) (hlo : X.heap.size ≤ lo)
    (nF : W.heap[fb]? = some (.cells #[z0, z1, z2, z3] 77 (0, 0))) (nP : W.heap[pb]? = some (.cells #[.string pn, .slice ta tl tc] 40 (0, 0))) (nS : W.heap[sb]? = some (.cells #[.slice ra rs.length rcap] 35 (0, 0))) (hf : X.heap.size ≤ fb) (lf : lab fb = []) (ls : lab sb = []) :
    FleetAt X ((((W.setCell ⟨fb, 0, none⟩ (.slice (some ⟨pb, 0, none⟩) 1 1)).setCell ⟨fb, 1, none⟩ (.string pn)).setCell ⟨fb, 2, none⟩ (.slice ta tl tc)).setCell ⟨fb, 3, none⟩ (.slice (some ⟨sb, 0, none⟩) 1 1)) rs pn ta tl tc fb := by
  have hfp : pb ≠ fb := fun e => by rw [e, nF] at nP; simp at nP
  have hfs : sb ≠ fb := fun e => by rw [e, nF] at nS; simp at nS
  have hblk : ∀ k, k ≠ fb → ((((W.setCell ⟨fb, 0, none⟩ (.slice (some ⟨pb, 0, none⟩) 1 1)).setCell ⟨fb, 1, none⟩ (.string pn)).setCell ⟨fb, 2, none⟩ (.slice ta tl tc)).setCell ⟨fb, 3, none⟩ (.slice (some ⟨sb, 0, none⟩) 1 1)).heap[k]? = W.heap[k]? := fun k hk => by
    rw [Below.heap_setCell _ _ _ _ hk, Below.heap_setCell _ _ _ _ hk, Below.heap_setCell _ _ _ _ hk, Below.heap_setCell _ _ _ _ hk]
  refine ⟨pb, sb, ra, rcap, b0, A, K, lab, set_box (set_box (set_box (set_box nF 0 _) 1 _) 2 _) 3 _, (hblk pb hfp).trans nP, (hblk sb hfs).trans nS, (((hB.setCell (p := ⟨fb, 0, none⟩) hf _).setCell (p := ⟨fb, 1, none⟩) hf _).setCell (p := ⟨fb, 2, none⟩) hf _).setCell (p := ⟨fb, 3, none⟩) hf _, (hM.low hlo).block (by rw [size_set, size_set, size_set, size_set]; exact Nat.le_refl _) (fun b hb => hblk b (fun e => hb (by rw [e]; exact lf))), lf, ls⟩
theorem RM.nolab {L : Bool} {lo : Nat} {w : World} {rl : List Ro} {a : Option Addr} {b0 : Nat} {A : Nat → Option Addr} {K : Nat → Nat} {lab : Nat → List Nat} (h : RM L lo w rl a b0 A K lab) {b : Nat} (e : b < lo ∨ w.heap.size ≤ b) : lab b = [] := by
  apply Classical.byContradiction
  intro hn
  have := h.way b hn
  omega

set_option maxRecDepth 20000 in
set_option maxHeartbeats 6400000 in
theorem SetRowI_any (p : Pt) (rs : List Ro) (c : Ch) (w : World) (B : Nat) (pn : ByteArray) (ta : Option Addr) (tl tc : Nat) (ra : Option Addr) (rc : Nat) (s n : Int) (t : ByteArray) (na ka : Option Addr) (nl nc kl kc : Nat)
    (hPt : PRep w (· < B) p (.agg #[.string pn, .slice ta tl tc])) (hB : B ≤ w.heap.size) (hzp : szP p ≤ 1048576) (hR : RoReps w (· < B) rs ra) (hrc : rs.length ≤ rc) (hsz : rSz rs ≤ 1048576) (hV : Rep w (· < B) c.val (.agg #[.int .i64 s, .int .i64 n, .string t, .slice na nl nc, .slice ka kl kc])) (hsx : szV c.val ≤ 1048576) :
    Calls Tryz.prog 11 #[.agg #[.string pn, .slice ta tl tc], .slice ra rs.length rc, .agg #[.string c.type, .int .i64 c.id, .string c.field, .int .i64 s, .int .i64 n, .string t, .slice na nl nc, .slice ka kl kc]] w fun e w' => (∃ (a : Option Addr) (cp b0 : Nat) (A : Nat → Option Addr) (K : Nat → Nat) (lab : Nat → List Nat), e = .returned (.tuple #[.slice a (setRs p rs c).length cp, .int .i64 (setCode p rs c)]) ∧ RM true w.heap.size w' (setRs p rs c) a b0 A K lab) ∧ Below w.heap.size w w' := by
  obtain ⟨hlen, hcl⟩ := rSz_fine hsz
  have hSO := fun W (h : Below w.heap.size w W) => StoreOkI_any p rs W B _ ra rc (hPt.under (h.mono hB)) (hR.under (h.mono hB)) hrc (by have := h.size; omega) hzp
  have hCO := fun W (h : Below w.heap.size w W) => copyRows_any rs W ra rc ((hR.under (h.mono hB)).sub fun b hb => by have := h.size; omega) hlen hcl
  have HSO := hid_of hSO
  have HCO := hid_of hCO
  clear hSO hCO
  go_enter Tryz.func11, Tryz.ntmps11
  go_wp2_with fail
  have bX := below_box2 w (.cells #[.string pn, .slice ta tl tc] 40) (.cells #[.string c.type, .int .i64 c.id, .string c.field, .int .i64 s, .int .i64 n, .string t, .slice na nl nc, .slice ka kl kc] 47)
  have n0 := block_old (.cells #[.string c.type, .int .i64 c.id, .string c.field, .int .i64 s, .int .i64 n, .string t, .slice na nl nc, .slice ka kl kc] 47) (block_new (w := w) #[.string pn, .slice ta tl tc] 40 rfl) (by simp)
  have n1 := block_new (w := w.alloc (.cells #[.string pn, .slice ta tl tc] 40)) #[.string c.type, .int .i64 c.id, .string c.field, .int .i64 s, .int .i64 n, .string t, .slice na nl nc, .slice ka kl kc] 47 (N := w.heap.size + 1) (by simp)
  have zX : w.heap.size + 1 < ((w.alloc (.cells #[.string pn, .slice ta tl tc] 40)).alloc (.cells #[.string c.type, .int .i64 c.id, .string c.field, .int .i64 s, .int .i64 n, .string t, .slice na nl nc, .slice ka kl kc] 47)).heap.size := by simp
  generalize (w.alloc (.cells #[.string pn, .slice ta tl tc] 40)).alloc (.cells #[.string c.type, .int .i64 c.id, .string c.field, .int .i64 s, .int .i64 n, .string t, .slice na nl nc, .slice ka kl kc] 47) = X0 at *
  refine (HSO.out X0 bX).mono ?_
  rintro e X ⟨rfl, hbX⟩
  rw [store_same]
  have bw := bX.trans (hbX.mono bX.size)
  have nP := (hbX.block _ (by omega)).trans n0
  have nC := (hbX.block _ zX).trans n1
  have zX1 : w.heap.size + 1 < X.heap.size := by have := hbX.size; omega
  clear n0 n1 zX hbX bX HSO
  cases hst : storeS p rs
  · have HE : Hid (setRs p rs c = [] ∧ setCode p rs c = 1) := hid_of ⟨by unfold setRs; rw [if_pos hst], by unfold setCode; rw [if_pos hst]⟩
    go_wp2_with fail
    refine bodyPost_ret (v := .tuple #[.slice none 0 0, .int .i64 1]) ?res rfl ?_
    case res => simp [results, Tryz.results11, go_sem]
    refine ⟨⟨none, 0, 0, fun _ => none, fun _ => 0, fun _ => [], ?_, ?_⟩, bw⟩
    · rw [HE.out.1, HE.out.2]; rfl
    · rw [HE.out.1]; exact RM.none _ _ _
  have HE : Hid (setRs p rs c = setL p rs c ∧ setCode p rs c = codeC p rs c) := hid_of ⟨by unfold setRs setL; rw [if_neg (by rw [hst]; simp)], by unfold setCode; rw [if_neg (by rw [hst]; simp)]⟩
  obtain ⟨p0, -⟩ := box_at nP 0 (by simp)
  obtain ⟨p1, -⟩ := box_at nP 1 (by simp)
  have HPC : Hid (∀ W, Below X.heap.size X W → W.cell? ⟨w.heap.size, 0, none⟩ = some (.string pn) ∧ W.cell? ⟨w.heap.size, 1, none⟩ = some (.slice ta tl tc)) := hid_of fun W h => ⟨(h.cell (p := ⟨w.heap.size, 0, none⟩) (by show w.heap.size < _; omega)).trans p0, (h.cell (p := ⟨w.heap.size, 1, none⟩) (by show w.heap.size < _; omega)).trans p1⟩
  have m0 := World.new_ne X ⟨w.heap.size, 0, none⟩ p0
  have m1 := World.new_ne X ⟨w.heap.size, 1, none⟩ p1
  have HBW := hid_of bw
  go_wp2_with fail
  go_cut [8] (fun q wx => ∃ fb, q = .pointer (some ⟨fb, 0, none⟩) ∧ FleetAt X wx rs pn ta tl tc fb)
  case first =>
    refine wp_region_held_drew (S := (fun w' => w'.cell? ⟨w.heap.size, 0, none⟩ = some (.string pn) ∧ w'.cell? ⟨w.heap.size, 1, none⟩ = some (.slice ta tl tc))) (by kernel_rfl) ⟨p0, p1⟩ (fun hHeld => ?_)
    have bX : Below X.heap.size X X.drew := (Below.refl _ _).drew
    generalize X.drew = wD at *
    refine wpAnyH_take (i := 0) (v := ?_) rfl (by kernel_rfl) (by kernel_rfl) (by kernel_rfl) (fun _ _ _ h => h) (Or.inl ⟨by rfl, ?_⟩) hHeld ?_
    rotate_left
    · intro w' hSw
      (try dsimp only at hSw)
      go_simp
      try with_reducible rfl
    try simp only [Act.put, List.setIfInBounds_toArray, List.set_cons_zero, List.set_cons_succ]
    refine wpAnyH_take (i := 2) (v := ?_) rfl (by kernel_rfl) (by kernel_rfl) (by kernel_rfl) (fun _ _ _ h => h) (Or.inl ⟨by rfl, ?_⟩) hHeld ?_
    rotate_left
    · intro w' hSw
      (try dsimp only at hSw)
      go_simp
      try with_reducible rfl
    try simp only [Act.put, List.setIfInBounds_toArray, List.set_cons_zero, List.set_cons_succ]
    refine wpAnyH_take (i := 4) (v := ?_) rfl (by kernel_rfl) (by kernel_rfl) (by kernel_rfl) (fun _ _ _ h => h) (Or.inl ⟨by rfl, ?_⟩) hHeld ?_
    rotate_left
    · intro w' hSw
      (try dsimp only at hSw)
      go_simp
      try with_reducible rfl
    try simp only [Act.put, List.setIfInBounds_toArray, List.set_cons_zero, List.set_cons_succ]
    refine wpAnyH_ready (rs := [1, 5, 8]) (by kernel_rfl) (by simp) ?_
    refine AllReadyH.cons rfl (fun K hK => ?_) ?_
    · go_simp
      have bP := below_box wD (.cells #[.string pn, .slice ta tl tc] 40)
      have nP := block_new (w := wD) #[.string pn, .slice ta tl tc] 40 rfl
      have zP : wD.heap.size < (wD.alloc (.cells #[.string pn, .slice ta tl tc] 40)).heap.size := by simp
      have qP : X.heap.size ≤ wD.heap.size := bX.size
      have bX := bX.trans (bP.mono bX.size)
      refine hK.out _ _ (HPC.out _ bX) (fun hHeld => ?_)
      clear hK K
      try simp only [Act.put, List.setIfInBounds_toArray, List.set_cons_zero, List.set_cons_succ]
      generalize wD.alloc (.cells #[.string pn, .slice ta tl tc] 40) = wP at *
      refine wpAnyH_take (i := 3) (v := ?_) rfl (by kernel_rfl) (by kernel_rfl) (by kernel_rfl) (fun _ _ _ h => h) (Or.inl ⟨by rfl, ?_⟩) hHeld ?_
      rotate_left
      · intro w' hSw
        (try dsimp only at hSw)
        go_simp
        try with_reducible rfl
      try simp only [Act.put, List.setIfInBounds_toArray, List.set_cons_zero, List.set_cons_succ]
      refine wpAnyH_ready (rs := [5, 8]) (by kernel_rfl) (by simp) ?_
      refine AllReadyH.cons rfl (fun K hK => ?_) ?_
      · go_simp
        refine (HCO.out wP (HBW.out.trans (bX.mono HBW.out.size))).mono ?_
        rintro e wC ⟨⟨a, cp, b0, A, Kc, lab, rfl, hcp, hM⟩, bC⟩
        have qC : X.heap.size ≤ wP.heap.size := bX.size
        have bX := bX.trans (bC.mono bX.size)
        have sC := bC.size
        have HNL : Hid (∀ b, b < wP.heap.size ∨ wC.heap.size ≤ b → lab b = []) := hid_of fun b h => hM.nolab h
        have HM := hid_of hM
        clear hM
        have nP := (bC.block _ zP).trans nP
        have zP := Nat.lt_of_lt_of_le zP bC.size
        refine hK.out _ _ (HPC.out _ bX) (fun hHeld => ?_)
        clear hK K
        try simp only [Act.put, List.setIfInBounds_toArray, List.set_cons_zero, List.set_cons_succ]
        refine wpAnyH_ready (rs := [6, 8]) (by kernel_rfl) (by simp) ?_
        refine AllReadyH.cons rfl (fun K hK => ?_) ?_
        · go_simp
          have bS := below_box wC (.cells #[.slice a rs.length cp] 35)
          have nS := block_new (w := wC) #[.slice a rs.length cp] 35 rfl
          have zS : wC.heap.size < (wC.alloc (.cells #[.slice a rs.length cp] 35)).heap.size := by simp
          have qS : X.heap.size ≤ wC.heap.size := bX.size
          have bX := bX.trans (bS.mono bX.size)
          have nP := (bS.block _ zP).trans nP
          have zP := Nat.lt_of_lt_of_le zP bS.size
          have HM := hid_of (HM.out.keep bS)
          refine hK.out _ _ (HPC.out _ bX) (fun hHeld => ?_)
          clear hK K
          try simp only [Act.put, List.setIfInBounds_toArray, List.set_cons_zero, List.set_cons_succ]
          generalize wC.alloc (.cells #[.slice a rs.length cp] 35) = wS at *
          refine wpAnyH_take (i := 7) (v := ?_) rfl (by kernel_rfl) (by kernel_rfl) (by kernel_rfl) (fun _ _ _ h => h) (Or.inl ⟨by rfl, ?_⟩) hHeld ?_
          rotate_left
          · intro w' hSw
            (try dsimp only at hSw)
            go_simp
            try with_reducible rfl
          try simp only [Act.put, List.setIfInBounds_toArray, List.set_cons_zero, List.set_cons_succ]
          refine wpAnyH_ready (rs := [8]) (by kernel_rfl) (by simp) ?_
          refine AllReadyH.cons rfl (fun K hK => ?_) AllReadyH.nil
          go_simp
          have bF := below_box wS (.cells #[.slice none 0 0, .string ⟨#[]⟩, .slice none 0 0, .slice none 0 0] 77)
          have nF := block_new (w := wS) #[.slice none 0 0, .string ⟨#[]⟩, .slice none 0 0, .slice none 0 0] 77 rfl
          have zF : wS.heap.size < (wS.alloc (.cells #[.slice none 0 0, .string ⟨#[]⟩, .slice none 0 0, .slice none 0 0] 77)).heap.size := by simp
          have qF : X.heap.size ≤ wS.heap.size := bX.size
          have bX := bX.trans (bF.mono bX.size)
          have nP := (bF.block _ zP).trans nP
          have zP := Nat.lt_of_lt_of_le zP bF.size
          have HM := hid_of (HM.out.keep bF)
          have nS := (bF.block _ zS).trans nS
          have zS := Nat.lt_of_lt_of_le zS bF.size
          refine hK.out _ _ (HPC.out _ bX) (fun hHeld => ?_)
          clear hK K
          try simp only [Act.put, List.setIfInBounds_toArray, List.set_cons_zero, List.set_cons_succ]
          generalize wS.alloc (.cells #[.slice none 0 0, .string ⟨#[]⟩, .slice none 0 0, .slice none 0 0] 77) = wF at *
          refine wpAnyH_ready (rs := [9]) (by kernel_rfl) (by simp) ?_
          refine AllReadyH.cons rfl (fun K hK => ?_) AllReadyH.nil
          obtain ⟨y0, g0⟩ := box_at nF 0 (by simp)
          obtain ⟨y1, g1⟩ := box_at nF 1 (by simp)
          obtain ⟨y2, g2⟩ := box_at nF 2 (by simp)
          obtain ⟨y3, g3⟩ := box_at nF 3 (by simp)
          go_simp
          refine hK.out _ _ (HPC.out _ ((((bX.setCell (p := ⟨_, 0, none⟩) qF _).setCell (p := ⟨_, 1, none⟩) qF _).setCell (p := ⟨_, 2, none⟩) qF _).setCell (p := ⟨_, 3, none⟩) qF _)) (fun hHeld => ?_)
          clear hK K
          try simp only [Act.put, List.setIfInBounds_toArray, List.set_cons_zero, List.set_cons_succ]
          refine wpAnyH_done (by kernel_rfl) ?_ _
          go_wp2_with fail
          go_meet
          case rel => exact ⟨_, rfl, fleet_end HM.out bX qC nF nP nS qF (HNL.out _ (by omega)) (HNL.out _ (by omega))⟩
        refine AllReadyH.cons rfl (fun K hK => ?_) AllReadyH.nil
        go_simp
        have bF := below_box wC (.cells #[.slice none 0 0, .string ⟨#[]⟩, .slice none 0 0, .slice none 0 0] 77)
        have nF := block_new (w := wC) #[.slice none 0 0, .string ⟨#[]⟩, .slice none 0 0, .slice none 0 0] 77 rfl
        have zF : wC.heap.size < (wC.alloc (.cells #[.slice none 0 0, .string ⟨#[]⟩, .slice none 0 0, .slice none 0 0] 77)).heap.size := by simp
        have qF : X.heap.size ≤ wC.heap.size := bX.size
        have bX := bX.trans (bF.mono bX.size)
        have nP := (bF.block _ zP).trans nP
        have zP := Nat.lt_of_lt_of_le zP bF.size
        have HM := hid_of (HM.out.keep bF)
        refine hK.out _ _ (HPC.out _ bX) (fun hHeld => ?_)
        clear hK K
        try simp only [Act.put, List.setIfInBounds_toArray, List.set_cons_zero, List.set_cons_succ]
        generalize wC.alloc (.cells #[.slice none 0 0, .string ⟨#[]⟩, .slice none 0 0, .slice none 0 0] 77) = wF at *
        refine wpAnyH_ready (rs := [6]) (by kernel_rfl) (by simp) ?_
        refine AllReadyH.cons rfl (fun K hK => ?_) AllReadyH.nil
        go_simp
        have bS := below_box wF (.cells #[.slice a rs.length cp] 35)
        have nS := block_new (w := wF) #[.slice a rs.length cp] 35 rfl
        have zS : wF.heap.size < (wF.alloc (.cells #[.slice a rs.length cp] 35)).heap.size := by simp
        have qS : X.heap.size ≤ wF.heap.size := bX.size
        have bX := bX.trans (bS.mono bX.size)
        have nP := (bS.block _ zP).trans nP
        have zP := Nat.lt_of_lt_of_le zP bS.size
        have HM := hid_of (HM.out.keep bS)
        have nF := (bS.block _ zF).trans nF
        have zF := Nat.lt_of_lt_of_le zF bS.size
        refine hK.out _ _ (HPC.out _ bX) (fun hHeld => ?_)
        clear hK K
        try simp only [Act.put, List.setIfInBounds_toArray, List.set_cons_zero, List.set_cons_succ]
        generalize wF.alloc (.cells #[.slice a rs.length cp] 35) = wS at *
        refine wpAnyH_take (i := 7) (v := ?_) rfl (by kernel_rfl) (by kernel_rfl) (by kernel_rfl) (fun _ _ _ h => h) (Or.inl ⟨by rfl, ?_⟩) hHeld ?_
        rotate_left
        · intro w' hSw
          (try dsimp only at hSw)
          go_simp
          try with_reducible rfl
        try simp only [Act.put, List.setIfInBounds_toArray, List.set_cons_zero, List.set_cons_succ]
        refine wpAnyH_ready (rs := [9]) (by kernel_rfl) (by simp) ?_
        refine AllReadyH.cons rfl (fun K hK => ?_) AllReadyH.nil
        obtain ⟨y0, g0⟩ := box_at nF 0 (by simp)
        obtain ⟨y1, g1⟩ := box_at nF 1 (by simp)
        obtain ⟨y2, g2⟩ := box_at nF 2 (by simp)
        obtain ⟨y3, g3⟩ := box_at nF 3 (by simp)
        go_simp
        refine hK.out _ _ (HPC.out _ ((((bX.setCell (p := ⟨_, 0, none⟩) qF _).setCell (p := ⟨_, 1, none⟩) qF _).setCell (p := ⟨_, 2, none⟩) qF _).setCell (p := ⟨_, 3, none⟩) qF _)) (fun hHeld => ?_)
        clear hK K
        try simp only [Act.put, List.setIfInBounds_toArray, List.set_cons_zero, List.set_cons_succ]
        refine wpAnyH_done (by kernel_rfl) ?_ _
        go_wp2_with fail
        go_meet
        case rel => exact ⟨_, rfl, fleet_end HM.out bX qC nF nP nS qF (HNL.out _ (by omega)) (HNL.out _ (by omega))⟩
      refine AllReadyH.cons rfl (fun K hK => ?_) AllReadyH.nil
      go_simp
      have bF := below_box wP (.cells #[.slice none 0 0, .string ⟨#[]⟩, .slice none 0 0, .slice none 0 0] 77)
      have nF := block_new (w := wP) #[.slice none 0 0, .string ⟨#[]⟩, .slice none 0 0, .slice none 0 0] 77 rfl
      have zF : wP.heap.size < (wP.alloc (.cells #[.slice none 0 0, .string ⟨#[]⟩, .slice none 0 0, .slice none 0 0] 77)).heap.size := by simp
      have qF : X.heap.size ≤ wP.heap.size := bX.size
      have bX := bX.trans (bF.mono bX.size)
      have nP := (bF.block _ zP).trans nP
      have zP := Nat.lt_of_lt_of_le zP bF.size
      refine hK.out _ _ (HPC.out _ bX) (fun hHeld => ?_)
      clear hK K
      try simp only [Act.put, List.setIfInBounds_toArray, List.set_cons_zero, List.set_cons_succ]
      generalize wP.alloc (.cells #[.slice none 0 0, .string ⟨#[]⟩, .slice none 0 0, .slice none 0 0] 77) = wF at *
      refine wpAnyH_ready (rs := [5]) (by kernel_rfl) (by simp) ?_
      refine AllReadyH.cons rfl (fun K hK => ?_) AllReadyH.nil
      go_simp
      refine (HCO.out wF (HBW.out.trans (bX.mono HBW.out.size))).mono ?_
      rintro e wC ⟨⟨a, cp, b0, A, Kc, lab, rfl, hcp, hM⟩, bC⟩
      have qC : X.heap.size ≤ wF.heap.size := bX.size
      have bX := bX.trans (bC.mono bX.size)
      have sC := bC.size
      have HNL : Hid (∀ b, b < wF.heap.size ∨ wC.heap.size ≤ b → lab b = []) := hid_of fun b h => hM.nolab h
      have HM := hid_of hM
      clear hM
      have nP := (bC.block _ zP).trans nP
      have zP := Nat.lt_of_lt_of_le zP bC.size
      have nF := (bC.block _ zF).trans nF
      have zF := Nat.lt_of_lt_of_le zF bC.size
      refine hK.out _ _ (HPC.out _ bX) (fun hHeld => ?_)
      clear hK K
      try simp only [Act.put, List.setIfInBounds_toArray, List.set_cons_zero, List.set_cons_succ]
      refine wpAnyH_ready (rs := [6]) (by kernel_rfl) (by simp) ?_
      refine AllReadyH.cons rfl (fun K hK => ?_) AllReadyH.nil
      go_simp
      have bS := below_box wC (.cells #[.slice a rs.length cp] 35)
      have nS := block_new (w := wC) #[.slice a rs.length cp] 35 rfl
      have zS : wC.heap.size < (wC.alloc (.cells #[.slice a rs.length cp] 35)).heap.size := by simp
      have qS : X.heap.size ≤ wC.heap.size := bX.size
      have bX := bX.trans (bS.mono bX.size)
      have nP := (bS.block _ zP).trans nP
      have zP := Nat.lt_of_lt_of_le zP bS.size
      have nF := (bS.block _ zF).trans nF
      have zF := Nat.lt_of_lt_of_le zF bS.size
      have HM := hid_of (HM.out.keep bS)
      refine hK.out _ _ (HPC.out _ bX) (fun hHeld => ?_)
      clear hK K
      try simp only [Act.put, List.setIfInBounds_toArray, List.set_cons_zero, List.set_cons_succ]
      generalize wC.alloc (.cells #[.slice a rs.length cp] 35) = wS at *
      refine wpAnyH_take (i := 7) (v := ?_) rfl (by kernel_rfl) (by kernel_rfl) (by kernel_rfl) (fun _ _ _ h => h) (Or.inl ⟨by rfl, ?_⟩) hHeld ?_
      rotate_left
      · intro w' hSw
        (try dsimp only at hSw)
        go_simp
        try with_reducible rfl
      try simp only [Act.put, List.setIfInBounds_toArray, List.set_cons_zero, List.set_cons_succ]
      refine wpAnyH_ready (rs := [9]) (by kernel_rfl) (by simp) ?_
      refine AllReadyH.cons rfl (fun K hK => ?_) AllReadyH.nil
      obtain ⟨y0, g0⟩ := box_at nF 0 (by simp)
      obtain ⟨y1, g1⟩ := box_at nF 1 (by simp)
      obtain ⟨y2, g2⟩ := box_at nF 2 (by simp)
      obtain ⟨y3, g3⟩ := box_at nF 3 (by simp)
      go_simp
      refine hK.out _ _ (HPC.out _ ((((bX.setCell (p := ⟨_, 0, none⟩) qF _).setCell (p := ⟨_, 1, none⟩) qF _).setCell (p := ⟨_, 2, none⟩) qF _).setCell (p := ⟨_, 3, none⟩) qF _)) (fun hHeld => ?_)
      clear hK K
      try simp only [Act.put, List.setIfInBounds_toArray, List.set_cons_zero, List.set_cons_succ]
      refine wpAnyH_done (by kernel_rfl) ?_ _
      go_wp2_with fail
      go_meet
      case rel => exact ⟨_, rfl, fleet_end HM.out bX qC nF nP nS qF (HNL.out _ (by omega)) (HNL.out _ (by omega))⟩
    refine AllReadyH.cons rfl (fun K hK => ?_) ?_
    · go_simp
      refine (HCO.out wD (HBW.out.trans (bX.mono HBW.out.size))).mono ?_
      rintro e wC ⟨⟨a, cp, b0, A, Kc, lab, rfl, hcp, hM⟩, bC⟩
      have qC : X.heap.size ≤ wD.heap.size := bX.size
      have bX := bX.trans (bC.mono bX.size)
      have sC := bC.size
      have HNL : Hid (∀ b, b < wD.heap.size ∨ wC.heap.size ≤ b → lab b = []) := hid_of fun b h => hM.nolab h
      have HM := hid_of hM
      clear hM
      refine hK.out _ _ (HPC.out _ bX) (fun hHeld => ?_)
      clear hK K
      try simp only [Act.put, List.setIfInBounds_toArray, List.set_cons_zero, List.set_cons_succ]
      refine wpAnyH_ready (rs := [1, 6, 8]) (by kernel_rfl) (by simp) ?_
      refine AllReadyH.cons rfl (fun K hK => ?_) ?_
      · go_simp
        have bP := below_box wC (.cells #[.string pn, .slice ta tl tc] 40)
        have nP := block_new (w := wC) #[.string pn, .slice ta tl tc] 40 rfl
        have zP : wC.heap.size < (wC.alloc (.cells #[.string pn, .slice ta tl tc] 40)).heap.size := by simp
        have qP : X.heap.size ≤ wC.heap.size := bX.size
        have bX := bX.trans (bP.mono bX.size)
        have HM := hid_of (HM.out.keep bP)
        refine hK.out _ _ (HPC.out _ bX) (fun hHeld => ?_)
        clear hK K
        try simp only [Act.put, List.setIfInBounds_toArray, List.set_cons_zero, List.set_cons_succ]
        generalize wC.alloc (.cells #[.string pn, .slice ta tl tc] 40) = wP at *
        refine wpAnyH_take (i := 3) (v := ?_) rfl (by kernel_rfl) (by kernel_rfl) (by kernel_rfl) (fun _ _ _ h => h) (Or.inl ⟨by rfl, ?_⟩) hHeld ?_
        rotate_left
        · intro w' hSw
          (try dsimp only at hSw)
          go_simp
          try with_reducible rfl
        try simp only [Act.put, List.setIfInBounds_toArray, List.set_cons_zero, List.set_cons_succ]
        refine wpAnyH_ready (rs := [6, 8]) (by kernel_rfl) (by simp) ?_
        refine AllReadyH.cons rfl (fun K hK => ?_) ?_
        · go_simp
          have bS := below_box wP (.cells #[.slice a rs.length cp] 35)
          have nS := block_new (w := wP) #[.slice a rs.length cp] 35 rfl
          have zS : wP.heap.size < (wP.alloc (.cells #[.slice a rs.length cp] 35)).heap.size := by simp
          have qS : X.heap.size ≤ wP.heap.size := bX.size
          have bX := bX.trans (bS.mono bX.size)
          have HM := hid_of (HM.out.keep bS)
          have nP := (bS.block _ zP).trans nP
          have zP := Nat.lt_of_lt_of_le zP bS.size
          refine hK.out _ _ (HPC.out _ bX) (fun hHeld => ?_)
          clear hK K
          try simp only [Act.put, List.setIfInBounds_toArray, List.set_cons_zero, List.set_cons_succ]
          generalize wP.alloc (.cells #[.slice a rs.length cp] 35) = wS at *
          refine wpAnyH_take (i := 7) (v := ?_) rfl (by kernel_rfl) (by kernel_rfl) (by kernel_rfl) (fun _ _ _ h => h) (Or.inl ⟨by rfl, ?_⟩) hHeld ?_
          rotate_left
          · intro w' hSw
            (try dsimp only at hSw)
            go_simp
            try with_reducible rfl
          try simp only [Act.put, List.setIfInBounds_toArray, List.set_cons_zero, List.set_cons_succ]
          refine wpAnyH_ready (rs := [8]) (by kernel_rfl) (by simp) ?_
          refine AllReadyH.cons rfl (fun K hK => ?_) AllReadyH.nil
          go_simp
          have bF := below_box wS (.cells #[.slice none 0 0, .string ⟨#[]⟩, .slice none 0 0, .slice none 0 0] 77)
          have nF := block_new (w := wS) #[.slice none 0 0, .string ⟨#[]⟩, .slice none 0 0, .slice none 0 0] 77 rfl
          have zF : wS.heap.size < (wS.alloc (.cells #[.slice none 0 0, .string ⟨#[]⟩, .slice none 0 0, .slice none 0 0] 77)).heap.size := by simp
          have qF : X.heap.size ≤ wS.heap.size := bX.size
          have bX := bX.trans (bF.mono bX.size)
          have HM := hid_of (HM.out.keep bF)
          have nP := (bF.block _ zP).trans nP
          have zP := Nat.lt_of_lt_of_le zP bF.size
          have nS := (bF.block _ zS).trans nS
          have zS := Nat.lt_of_lt_of_le zS bF.size
          refine hK.out _ _ (HPC.out _ bX) (fun hHeld => ?_)
          clear hK K
          try simp only [Act.put, List.setIfInBounds_toArray, List.set_cons_zero, List.set_cons_succ]
          generalize wS.alloc (.cells #[.slice none 0 0, .string ⟨#[]⟩, .slice none 0 0, .slice none 0 0] 77) = wF at *
          refine wpAnyH_ready (rs := [9]) (by kernel_rfl) (by simp) ?_
          refine AllReadyH.cons rfl (fun K hK => ?_) AllReadyH.nil
          obtain ⟨y0, g0⟩ := box_at nF 0 (by simp)
          obtain ⟨y1, g1⟩ := box_at nF 1 (by simp)
          obtain ⟨y2, g2⟩ := box_at nF 2 (by simp)
          obtain ⟨y3, g3⟩ := box_at nF 3 (by simp)
          go_simp
          refine hK.out _ _ (HPC.out _ ((((bX.setCell (p := ⟨_, 0, none⟩) qF _).setCell (p := ⟨_, 1, none⟩) qF _).setCell (p := ⟨_, 2, none⟩) qF _).setCell (p := ⟨_, 3, none⟩) qF _)) (fun hHeld => ?_)
          clear hK K
          try simp only [Act.put, List.setIfInBounds_toArray, List.set_cons_zero, List.set_cons_succ]
          refine wpAnyH_done (by kernel_rfl) ?_ _
          go_wp2_with fail
          go_meet
          case rel => exact ⟨_, rfl, fleet_end HM.out bX qC nF nP nS qF (HNL.out _ (by omega)) (HNL.out _ (by omega))⟩
        refine AllReadyH.cons rfl (fun K hK => ?_) AllReadyH.nil
        go_simp
        have bF := below_box wP (.cells #[.slice none 0 0, .string ⟨#[]⟩, .slice none 0 0, .slice none 0 0] 77)
        have nF := block_new (w := wP) #[.slice none 0 0, .string ⟨#[]⟩, .slice none 0 0, .slice none 0 0] 77 rfl
        have zF : wP.heap.size < (wP.alloc (.cells #[.slice none 0 0, .string ⟨#[]⟩, .slice none 0 0, .slice none 0 0] 77)).heap.size := by simp
        have qF : X.heap.size ≤ wP.heap.size := bX.size
        have bX := bX.trans (bF.mono bX.size)
        have HM := hid_of (HM.out.keep bF)
        have nP := (bF.block _ zP).trans nP
        have zP := Nat.lt_of_lt_of_le zP bF.size
        refine hK.out _ _ (HPC.out _ bX) (fun hHeld => ?_)
        clear hK K
        try simp only [Act.put, List.setIfInBounds_toArray, List.set_cons_zero, List.set_cons_succ]
        generalize wP.alloc (.cells #[.slice none 0 0, .string ⟨#[]⟩, .slice none 0 0, .slice none 0 0] 77) = wF at *
        refine wpAnyH_ready (rs := [6]) (by kernel_rfl) (by simp) ?_
        refine AllReadyH.cons rfl (fun K hK => ?_) AllReadyH.nil
        go_simp
        have bS := below_box wF (.cells #[.slice a rs.length cp] 35)
        have nS := block_new (w := wF) #[.slice a rs.length cp] 35 rfl
        have zS : wF.heap.size < (wF.alloc (.cells #[.slice a rs.length cp] 35)).heap.size := by simp
        have qS : X.heap.size ≤ wF.heap.size := bX.size
        have bX := bX.trans (bS.mono bX.size)
        have HM := hid_of (HM.out.keep bS)
        have nP := (bS.block _ zP).trans nP
        have zP := Nat.lt_of_lt_of_le zP bS.size
        have nF := (bS.block _ zF).trans nF
        have zF := Nat.lt_of_lt_of_le zF bS.size
        refine hK.out _ _ (HPC.out _ bX) (fun hHeld => ?_)
        clear hK K
        try simp only [Act.put, List.setIfInBounds_toArray, List.set_cons_zero, List.set_cons_succ]
        generalize wF.alloc (.cells #[.slice a rs.length cp] 35) = wS at *
        refine wpAnyH_take (i := 7) (v := ?_) rfl (by kernel_rfl) (by kernel_rfl) (by kernel_rfl) (fun _ _ _ h => h) (Or.inl ⟨by rfl, ?_⟩) hHeld ?_
        rotate_left
        · intro w' hSw
          (try dsimp only at hSw)
          go_simp
          try with_reducible rfl
        try simp only [Act.put, List.setIfInBounds_toArray, List.set_cons_zero, List.set_cons_succ]
        refine wpAnyH_ready (rs := [9]) (by kernel_rfl) (by simp) ?_
        refine AllReadyH.cons rfl (fun K hK => ?_) AllReadyH.nil
        obtain ⟨y0, g0⟩ := box_at nF 0 (by simp)
        obtain ⟨y1, g1⟩ := box_at nF 1 (by simp)
        obtain ⟨y2, g2⟩ := box_at nF 2 (by simp)
        obtain ⟨y3, g3⟩ := box_at nF 3 (by simp)
        go_simp
        refine hK.out _ _ (HPC.out _ ((((bX.setCell (p := ⟨_, 0, none⟩) qF _).setCell (p := ⟨_, 1, none⟩) qF _).setCell (p := ⟨_, 2, none⟩) qF _).setCell (p := ⟨_, 3, none⟩) qF _)) (fun hHeld => ?_)
        clear hK K
        try simp only [Act.put, List.setIfInBounds_toArray, List.set_cons_zero, List.set_cons_succ]
        refine wpAnyH_done (by kernel_rfl) ?_ _
        go_wp2_with fail
        go_meet
        case rel => exact ⟨_, rfl, fleet_end HM.out bX qC nF nP nS qF (HNL.out _ (by omega)) (HNL.out _ (by omega))⟩
      refine AllReadyH.cons rfl (fun K hK => ?_) ?_
      · go_simp
        have bS := below_box wC (.cells #[.slice a rs.length cp] 35)
        have nS := block_new (w := wC) #[.slice a rs.length cp] 35 rfl
        have zS : wC.heap.size < (wC.alloc (.cells #[.slice a rs.length cp] 35)).heap.size := by simp
        have qS : X.heap.size ≤ wC.heap.size := bX.size
        have bX := bX.trans (bS.mono bX.size)
        have HM := hid_of (HM.out.keep bS)
        refine hK.out _ _ (HPC.out _ bX) (fun hHeld => ?_)
        clear hK K
        try simp only [Act.put, List.setIfInBounds_toArray, List.set_cons_zero, List.set_cons_succ]
        generalize wC.alloc (.cells #[.slice a rs.length cp] 35) = wS at *
        refine wpAnyH_ready (rs := [1, 8]) (by kernel_rfl) (by simp) ?_
        refine AllReadyH.cons rfl (fun K hK => ?_) ?_
        · go_simp
          have bP := below_box wS (.cells #[.string pn, .slice ta tl tc] 40)
          have nP := block_new (w := wS) #[.string pn, .slice ta tl tc] 40 rfl
          have zP : wS.heap.size < (wS.alloc (.cells #[.string pn, .slice ta tl tc] 40)).heap.size := by simp
          have qP : X.heap.size ≤ wS.heap.size := bX.size
          have bX := bX.trans (bP.mono bX.size)
          have HM := hid_of (HM.out.keep bP)
          have nS := (bP.block _ zS).trans nS
          have zS := Nat.lt_of_lt_of_le zS bP.size
          refine hK.out _ _ (HPC.out _ bX) (fun hHeld => ?_)
          clear hK K
          try simp only [Act.put, List.setIfInBounds_toArray, List.set_cons_zero, List.set_cons_succ]
          generalize wS.alloc (.cells #[.string pn, .slice ta tl tc] 40) = wP at *
          refine wpAnyH_take (i := 3) (v := ?_) rfl (by kernel_rfl) (by kernel_rfl) (by kernel_rfl) (fun _ _ _ h => h) (Or.inl ⟨by rfl, ?_⟩) hHeld ?_
          rotate_left
          · intro w' hSw
            (try dsimp only at hSw)
            go_simp
            try with_reducible rfl
          try simp only [Act.put, List.setIfInBounds_toArray, List.set_cons_zero, List.set_cons_succ]
          refine wpAnyH_take (i := 7) (v := ?_) rfl (by kernel_rfl) (by kernel_rfl) (by kernel_rfl) (fun _ _ _ h => h) (Or.inl ⟨by rfl, ?_⟩) hHeld ?_
          rotate_left
          · intro w' hSw
            (try dsimp only at hSw)
            go_simp
            try with_reducible rfl
          try simp only [Act.put, List.setIfInBounds_toArray, List.set_cons_zero, List.set_cons_succ]
          refine wpAnyH_ready (rs := [8]) (by kernel_rfl) (by simp) ?_
          refine AllReadyH.cons rfl (fun K hK => ?_) AllReadyH.nil
          go_simp
          have bF := below_box wP (.cells #[.slice none 0 0, .string ⟨#[]⟩, .slice none 0 0, .slice none 0 0] 77)
          have nF := block_new (w := wP) #[.slice none 0 0, .string ⟨#[]⟩, .slice none 0 0, .slice none 0 0] 77 rfl
          have zF : wP.heap.size < (wP.alloc (.cells #[.slice none 0 0, .string ⟨#[]⟩, .slice none 0 0, .slice none 0 0] 77)).heap.size := by simp
          have qF : X.heap.size ≤ wP.heap.size := bX.size
          have bX := bX.trans (bF.mono bX.size)
          have HM := hid_of (HM.out.keep bF)
          have nS := (bF.block _ zS).trans nS
          have zS := Nat.lt_of_lt_of_le zS bF.size
          have nP := (bF.block _ zP).trans nP
          have zP := Nat.lt_of_lt_of_le zP bF.size
          refine hK.out _ _ (HPC.out _ bX) (fun hHeld => ?_)
          clear hK K
          try simp only [Act.put, List.setIfInBounds_toArray, List.set_cons_zero, List.set_cons_succ]
          generalize wP.alloc (.cells #[.slice none 0 0, .string ⟨#[]⟩, .slice none 0 0, .slice none 0 0] 77) = wF at *
          refine wpAnyH_ready (rs := [9]) (by kernel_rfl) (by simp) ?_
          refine AllReadyH.cons rfl (fun K hK => ?_) AllReadyH.nil
          obtain ⟨y0, g0⟩ := box_at nF 0 (by simp)
          obtain ⟨y1, g1⟩ := box_at nF 1 (by simp)
          obtain ⟨y2, g2⟩ := box_at nF 2 (by simp)
          obtain ⟨y3, g3⟩ := box_at nF 3 (by simp)
          go_simp
          refine hK.out _ _ (HPC.out _ ((((bX.setCell (p := ⟨_, 0, none⟩) qF _).setCell (p := ⟨_, 1, none⟩) qF _).setCell (p := ⟨_, 2, none⟩) qF _).setCell (p := ⟨_, 3, none⟩) qF _)) (fun hHeld => ?_)
          clear hK K
          try simp only [Act.put, List.setIfInBounds_toArray, List.set_cons_zero, List.set_cons_succ]
          refine wpAnyH_done (by kernel_rfl) ?_ _
          go_wp2_with fail
          go_meet
          case rel => exact ⟨_, rfl, fleet_end HM.out bX qC nF nP nS qF (HNL.out _ (by omega)) (HNL.out _ (by omega))⟩
        refine AllReadyH.cons rfl (fun K hK => ?_) AllReadyH.nil
        go_simp
        have bF := below_box wS (.cells #[.slice none 0 0, .string ⟨#[]⟩, .slice none 0 0, .slice none 0 0] 77)
        have nF := block_new (w := wS) #[.slice none 0 0, .string ⟨#[]⟩, .slice none 0 0, .slice none 0 0] 77 rfl
        have zF : wS.heap.size < (wS.alloc (.cells #[.slice none 0 0, .string ⟨#[]⟩, .slice none 0 0, .slice none 0 0] 77)).heap.size := by simp
        have qF : X.heap.size ≤ wS.heap.size := bX.size
        have bX := bX.trans (bF.mono bX.size)
        have HM := hid_of (HM.out.keep bF)
        have nS := (bF.block _ zS).trans nS
        have zS := Nat.lt_of_lt_of_le zS bF.size
        refine hK.out _ _ (HPC.out _ bX) (fun hHeld => ?_)
        clear hK K
        try simp only [Act.put, List.setIfInBounds_toArray, List.set_cons_zero, List.set_cons_succ]
        generalize wS.alloc (.cells #[.slice none 0 0, .string ⟨#[]⟩, .slice none 0 0, .slice none 0 0] 77) = wF at *
        refine wpAnyH_ready (rs := [1]) (by kernel_rfl) (by simp) ?_
        refine AllReadyH.cons rfl (fun K hK => ?_) AllReadyH.nil
        go_simp
        have bP := below_box wF (.cells #[.string pn, .slice ta tl tc] 40)
        have nP := block_new (w := wF) #[.string pn, .slice ta tl tc] 40 rfl
        have zP : wF.heap.size < (wF.alloc (.cells #[.string pn, .slice ta tl tc] 40)).heap.size := by simp
        have qP : X.heap.size ≤ wF.heap.size := bX.size
        have bX := bX.trans (bP.mono bX.size)
        have HM := hid_of (HM.out.keep bP)
        have nS := (bP.block _ zS).trans nS
        have zS := Nat.lt_of_lt_of_le zS bP.size
        have nF := (bP.block _ zF).trans nF
        have zF := Nat.lt_of_lt_of_le zF bP.size
        refine hK.out _ _ (HPC.out _ bX) (fun hHeld => ?_)
        clear hK K
        try simp only [Act.put, List.setIfInBounds_toArray, List.set_cons_zero, List.set_cons_succ]
        generalize wF.alloc (.cells #[.string pn, .slice ta tl tc] 40) = wP at *
        refine wpAnyH_take (i := 3) (v := ?_) rfl (by kernel_rfl) (by kernel_rfl) (by kernel_rfl) (fun _ _ _ h => h) (Or.inl ⟨by rfl, ?_⟩) hHeld ?_
        rotate_left
        · intro w' hSw
          (try dsimp only at hSw)
          go_simp
          try with_reducible rfl
        try simp only [Act.put, List.setIfInBounds_toArray, List.set_cons_zero, List.set_cons_succ]
        refine wpAnyH_take (i := 7) (v := ?_) rfl (by kernel_rfl) (by kernel_rfl) (by kernel_rfl) (fun _ _ _ h => h) (Or.inl ⟨by rfl, ?_⟩) hHeld ?_
        rotate_left
        · intro w' hSw
          (try dsimp only at hSw)
          go_simp
          try with_reducible rfl
        try simp only [Act.put, List.setIfInBounds_toArray, List.set_cons_zero, List.set_cons_succ]
        refine wpAnyH_ready (rs := [9]) (by kernel_rfl) (by simp) ?_
        refine AllReadyH.cons rfl (fun K hK => ?_) AllReadyH.nil
        obtain ⟨y0, g0⟩ := box_at nF 0 (by simp)
        obtain ⟨y1, g1⟩ := box_at nF 1 (by simp)
        obtain ⟨y2, g2⟩ := box_at nF 2 (by simp)
        obtain ⟨y3, g3⟩ := box_at nF 3 (by simp)
        go_simp
        refine hK.out _ _ (HPC.out _ ((((bX.setCell (p := ⟨_, 0, none⟩) qF _).setCell (p := ⟨_, 1, none⟩) qF _).setCell (p := ⟨_, 2, none⟩) qF _).setCell (p := ⟨_, 3, none⟩) qF _)) (fun hHeld => ?_)
        clear hK K
        try simp only [Act.put, List.setIfInBounds_toArray, List.set_cons_zero, List.set_cons_succ]
        refine wpAnyH_done (by kernel_rfl) ?_ _
        go_wp2_with fail
        go_meet
        case rel => exact ⟨_, rfl, fleet_end HM.out bX qC nF nP nS qF (HNL.out _ (by omega)) (HNL.out _ (by omega))⟩
      refine AllReadyH.cons rfl (fun K hK => ?_) AllReadyH.nil
      go_simp
      have bF := below_box wC (.cells #[.slice none 0 0, .string ⟨#[]⟩, .slice none 0 0, .slice none 0 0] 77)
      have nF := block_new (w := wC) #[.slice none 0 0, .string ⟨#[]⟩, .slice none 0 0, .slice none 0 0] 77 rfl
      have zF : wC.heap.size < (wC.alloc (.cells #[.slice none 0 0, .string ⟨#[]⟩, .slice none 0 0, .slice none 0 0] 77)).heap.size := by simp
      have qF : X.heap.size ≤ wC.heap.size := bX.size
      have bX := bX.trans (bF.mono bX.size)
      have HM := hid_of (HM.out.keep bF)
      refine hK.out _ _ (HPC.out _ bX) (fun hHeld => ?_)
      clear hK K
      try simp only [Act.put, List.setIfInBounds_toArray, List.set_cons_zero, List.set_cons_succ]
      generalize wC.alloc (.cells #[.slice none 0 0, .string ⟨#[]⟩, .slice none 0 0, .slice none 0 0] 77) = wF at *
      refine wpAnyH_ready (rs := [1, 6]) (by kernel_rfl) (by simp) ?_
      refine AllReadyH.cons rfl (fun K hK => ?_) ?_
      · go_simp
        have bP := below_box wF (.cells #[.string pn, .slice ta tl tc] 40)
        have nP := block_new (w := wF) #[.string pn, .slice ta tl tc] 40 rfl
        have zP : wF.heap.size < (wF.alloc (.cells #[.string pn, .slice ta tl tc] 40)).heap.size := by simp
        have qP : X.heap.size ≤ wF.heap.size := bX.size
        have bX := bX.trans (bP.mono bX.size)
        have HM := hid_of (HM.out.keep bP)
        have nF := (bP.block _ zF).trans nF
        have zF := Nat.lt_of_lt_of_le zF bP.size
        refine hK.out _ _ (HPC.out _ bX) (fun hHeld => ?_)
        clear hK K
        try simp only [Act.put, List.setIfInBounds_toArray, List.set_cons_zero, List.set_cons_succ]
        generalize wF.alloc (.cells #[.string pn, .slice ta tl tc] 40) = wP at *
        refine wpAnyH_take (i := 3) (v := ?_) rfl (by kernel_rfl) (by kernel_rfl) (by kernel_rfl) (fun _ _ _ h => h) (Or.inl ⟨by rfl, ?_⟩) hHeld ?_
        rotate_left
        · intro w' hSw
          (try dsimp only at hSw)
          go_simp
          try with_reducible rfl
        try simp only [Act.put, List.setIfInBounds_toArray, List.set_cons_zero, List.set_cons_succ]
        refine wpAnyH_ready (rs := [6]) (by kernel_rfl) (by simp) ?_
        refine AllReadyH.cons rfl (fun K hK => ?_) AllReadyH.nil
        go_simp
        have bS := below_box wP (.cells #[.slice a rs.length cp] 35)
        have nS := block_new (w := wP) #[.slice a rs.length cp] 35 rfl
        have zS : wP.heap.size < (wP.alloc (.cells #[.slice a rs.length cp] 35)).heap.size := by simp
        have qS : X.heap.size ≤ wP.heap.size := bX.size
        have bX := bX.trans (bS.mono bX.size)
        have HM := hid_of (HM.out.keep bS)
        have nF := (bS.block _ zF).trans nF
        have zF := Nat.lt_of_lt_of_le zF bS.size
        have nP := (bS.block _ zP).trans nP
        have zP := Nat.lt_of_lt_of_le zP bS.size
        refine hK.out _ _ (HPC.out _ bX) (fun hHeld => ?_)
        clear hK K
        try simp only [Act.put, List.setIfInBounds_toArray, List.set_cons_zero, List.set_cons_succ]
        generalize wP.alloc (.cells #[.slice a rs.length cp] 35) = wS at *
        refine wpAnyH_take (i := 7) (v := ?_) rfl (by kernel_rfl) (by kernel_rfl) (by kernel_rfl) (fun _ _ _ h => h) (Or.inl ⟨by rfl, ?_⟩) hHeld ?_
        rotate_left
        · intro w' hSw
          (try dsimp only at hSw)
          go_simp
          try with_reducible rfl
        try simp only [Act.put, List.setIfInBounds_toArray, List.set_cons_zero, List.set_cons_succ]
        refine wpAnyH_ready (rs := [9]) (by kernel_rfl) (by simp) ?_
        refine AllReadyH.cons rfl (fun K hK => ?_) AllReadyH.nil
        obtain ⟨y0, g0⟩ := box_at nF 0 (by simp)
        obtain ⟨y1, g1⟩ := box_at nF 1 (by simp)
        obtain ⟨y2, g2⟩ := box_at nF 2 (by simp)
        obtain ⟨y3, g3⟩ := box_at nF 3 (by simp)
        go_simp
        refine hK.out _ _ (HPC.out _ ((((bX.setCell (p := ⟨_, 0, none⟩) qF _).setCell (p := ⟨_, 1, none⟩) qF _).setCell (p := ⟨_, 2, none⟩) qF _).setCell (p := ⟨_, 3, none⟩) qF _)) (fun hHeld => ?_)
        clear hK K
        try simp only [Act.put, List.setIfInBounds_toArray, List.set_cons_zero, List.set_cons_succ]
        refine wpAnyH_done (by kernel_rfl) ?_ _
        go_wp2_with fail
        go_meet
        case rel => exact ⟨_, rfl, fleet_end HM.out bX qC nF nP nS qF (HNL.out _ (by omega)) (HNL.out _ (by omega))⟩
      refine AllReadyH.cons rfl (fun K hK => ?_) AllReadyH.nil
      go_simp
      have bS := below_box wF (.cells #[.slice a rs.length cp] 35)
      have nS := block_new (w := wF) #[.slice a rs.length cp] 35 rfl
      have zS : wF.heap.size < (wF.alloc (.cells #[.slice a rs.length cp] 35)).heap.size := by simp
      have qS : X.heap.size ≤ wF.heap.size := bX.size
      have bX := bX.trans (bS.mono bX.size)
      have HM := hid_of (HM.out.keep bS)
      have nF := (bS.block _ zF).trans nF
      have zF := Nat.lt_of_lt_of_le zF bS.size
      refine hK.out _ _ (HPC.out _ bX) (fun hHeld => ?_)
      clear hK K
      try simp only [Act.put, List.setIfInBounds_toArray, List.set_cons_zero, List.set_cons_succ]
      generalize wF.alloc (.cells #[.slice a rs.length cp] 35) = wS at *
      refine wpAnyH_ready (rs := [1]) (by kernel_rfl) (by simp) ?_
      refine AllReadyH.cons rfl (fun K hK => ?_) AllReadyH.nil
      go_simp
      have bP := below_box wS (.cells #[.string pn, .slice ta tl tc] 40)
      have nP := block_new (w := wS) #[.string pn, .slice ta tl tc] 40 rfl
      have zP : wS.heap.size < (wS.alloc (.cells #[.string pn, .slice ta tl tc] 40)).heap.size := by simp
      have qP : X.heap.size ≤ wS.heap.size := bX.size
      have bX := bX.trans (bP.mono bX.size)
      have HM := hid_of (HM.out.keep bP)
      have nF := (bP.block _ zF).trans nF
      have zF := Nat.lt_of_lt_of_le zF bP.size
      have nS := (bP.block _ zS).trans nS
      have zS := Nat.lt_of_lt_of_le zS bP.size
      refine hK.out _ _ (HPC.out _ bX) (fun hHeld => ?_)
      clear hK K
      try simp only [Act.put, List.setIfInBounds_toArray, List.set_cons_zero, List.set_cons_succ]
      generalize wS.alloc (.cells #[.string pn, .slice ta tl tc] 40) = wP at *
      refine wpAnyH_take (i := 3) (v := ?_) rfl (by kernel_rfl) (by kernel_rfl) (by kernel_rfl) (fun _ _ _ h => h) (Or.inl ⟨by rfl, ?_⟩) hHeld ?_
      rotate_left
      · intro w' hSw
        (try dsimp only at hSw)
        go_simp
        try with_reducible rfl
      try simp only [Act.put, List.setIfInBounds_toArray, List.set_cons_zero, List.set_cons_succ]
      refine wpAnyH_take (i := 7) (v := ?_) rfl (by kernel_rfl) (by kernel_rfl) (by kernel_rfl) (fun _ _ _ h => h) (Or.inl ⟨by rfl, ?_⟩) hHeld ?_
      rotate_left
      · intro w' hSw
        (try dsimp only at hSw)
        go_simp
        try with_reducible rfl
      try simp only [Act.put, List.setIfInBounds_toArray, List.set_cons_zero, List.set_cons_succ]
      refine wpAnyH_ready (rs := [9]) (by kernel_rfl) (by simp) ?_
      refine AllReadyH.cons rfl (fun K hK => ?_) AllReadyH.nil
      obtain ⟨y0, g0⟩ := box_at nF 0 (by simp)
      obtain ⟨y1, g1⟩ := box_at nF 1 (by simp)
      obtain ⟨y2, g2⟩ := box_at nF 2 (by simp)
      obtain ⟨y3, g3⟩ := box_at nF 3 (by simp)
      go_simp
      refine hK.out _ _ (HPC.out _ ((((bX.setCell (p := ⟨_, 0, none⟩) qF _).setCell (p := ⟨_, 1, none⟩) qF _).setCell (p := ⟨_, 2, none⟩) qF _).setCell (p := ⟨_, 3, none⟩) qF _)) (fun hHeld => ?_)
      clear hK K
      try simp only [Act.put, List.setIfInBounds_toArray, List.set_cons_zero, List.set_cons_succ]
      refine wpAnyH_done (by kernel_rfl) ?_ _
      go_wp2_with fail
      go_meet
      case rel => exact ⟨_, rfl, fleet_end HM.out bX qC nF nP nS qF (HNL.out _ (by omega)) (HNL.out _ (by omega))⟩
    refine AllReadyH.cons rfl (fun K hK => ?_) AllReadyH.nil
    go_simp
    have bF := below_box wD (.cells #[.slice none 0 0, .string ⟨#[]⟩, .slice none 0 0, .slice none 0 0] 77)
    have nF := block_new (w := wD) #[.slice none 0 0, .string ⟨#[]⟩, .slice none 0 0, .slice none 0 0] 77 rfl
    have zF : wD.heap.size < (wD.alloc (.cells #[.slice none 0 0, .string ⟨#[]⟩, .slice none 0 0, .slice none 0 0] 77)).heap.size := by simp
    have qF : X.heap.size ≤ wD.heap.size := bX.size
    have bX := bX.trans (bF.mono bX.size)
    refine hK.out _ _ (HPC.out _ bX) (fun hHeld => ?_)
    clear hK K
    try simp only [Act.put, List.setIfInBounds_toArray, List.set_cons_zero, List.set_cons_succ]
    generalize wD.alloc (.cells #[.slice none 0 0, .string ⟨#[]⟩, .slice none 0 0, .slice none 0 0] 77) = wF at *
    refine wpAnyH_ready (rs := [1, 5]) (by kernel_rfl) (by simp) ?_
    refine AllReadyH.cons rfl (fun K hK => ?_) ?_
    · go_simp
      have bP := below_box wF (.cells #[.string pn, .slice ta tl tc] 40)
      have nP := block_new (w := wF) #[.string pn, .slice ta tl tc] 40 rfl
      have zP : wF.heap.size < (wF.alloc (.cells #[.string pn, .slice ta tl tc] 40)).heap.size := by simp
      have qP : X.heap.size ≤ wF.heap.size := bX.size
      have bX := bX.trans (bP.mono bX.size)
      have nF := (bP.block _ zF).trans nF
      have zF := Nat.lt_of_lt_of_le zF bP.size
      refine hK.out _ _ (HPC.out _ bX) (fun hHeld => ?_)
      clear hK K
      try simp only [Act.put, List.setIfInBounds_toArray, List.set_cons_zero, List.set_cons_succ]
      generalize wF.alloc (.cells #[.string pn, .slice ta tl tc] 40) = wP at *
      refine wpAnyH_take (i := 3) (v := ?_) rfl (by kernel_rfl) (by kernel_rfl) (by kernel_rfl) (fun _ _ _ h => h) (Or.inl ⟨by rfl, ?_⟩) hHeld ?_
      rotate_left
      · intro w' hSw
        (try dsimp only at hSw)
        go_simp
        try with_reducible rfl
      try simp only [Act.put, List.setIfInBounds_toArray, List.set_cons_zero, List.set_cons_succ]
      refine wpAnyH_ready (rs := [5]) (by kernel_rfl) (by simp) ?_
      refine AllReadyH.cons rfl (fun K hK => ?_) AllReadyH.nil
      go_simp
      refine (HCO.out wP (HBW.out.trans (bX.mono HBW.out.size))).mono ?_
      rintro e wC ⟨⟨a, cp, b0, A, Kc, lab, rfl, hcp, hM⟩, bC⟩
      have qC : X.heap.size ≤ wP.heap.size := bX.size
      have bX := bX.trans (bC.mono bX.size)
      have sC := bC.size
      have HNL : Hid (∀ b, b < wP.heap.size ∨ wC.heap.size ≤ b → lab b = []) := hid_of fun b h => hM.nolab h
      have HM := hid_of hM
      clear hM
      have nF := (bC.block _ zF).trans nF
      have zF := Nat.lt_of_lt_of_le zF bC.size
      have nP := (bC.block _ zP).trans nP
      have zP := Nat.lt_of_lt_of_le zP bC.size
      refine hK.out _ _ (HPC.out _ bX) (fun hHeld => ?_)
      clear hK K
      try simp only [Act.put, List.setIfInBounds_toArray, List.set_cons_zero, List.set_cons_succ]
      refine wpAnyH_ready (rs := [6]) (by kernel_rfl) (by simp) ?_
      refine AllReadyH.cons rfl (fun K hK => ?_) AllReadyH.nil
      go_simp
      have bS := below_box wC (.cells #[.slice a rs.length cp] 35)
      have nS := block_new (w := wC) #[.slice a rs.length cp] 35 rfl
      have zS : wC.heap.size < (wC.alloc (.cells #[.slice a rs.length cp] 35)).heap.size := by simp
      have qS : X.heap.size ≤ wC.heap.size := bX.size
      have bX := bX.trans (bS.mono bX.size)
      have nF := (bS.block _ zF).trans nF
      have zF := Nat.lt_of_lt_of_le zF bS.size
      have nP := (bS.block _ zP).trans nP
      have zP := Nat.lt_of_lt_of_le zP bS.size
      have HM := hid_of (HM.out.keep bS)
      refine hK.out _ _ (HPC.out _ bX) (fun hHeld => ?_)
      clear hK K
      try simp only [Act.put, List.setIfInBounds_toArray, List.set_cons_zero, List.set_cons_succ]
      generalize wC.alloc (.cells #[.slice a rs.length cp] 35) = wS at *
      refine wpAnyH_take (i := 7) (v := ?_) rfl (by kernel_rfl) (by kernel_rfl) (by kernel_rfl) (fun _ _ _ h => h) (Or.inl ⟨by rfl, ?_⟩) hHeld ?_
      rotate_left
      · intro w' hSw
        (try dsimp only at hSw)
        go_simp
        try with_reducible rfl
      try simp only [Act.put, List.setIfInBounds_toArray, List.set_cons_zero, List.set_cons_succ]
      refine wpAnyH_ready (rs := [9]) (by kernel_rfl) (by simp) ?_
      refine AllReadyH.cons rfl (fun K hK => ?_) AllReadyH.nil
      obtain ⟨y0, g0⟩ := box_at nF 0 (by simp)
      obtain ⟨y1, g1⟩ := box_at nF 1 (by simp)
      obtain ⟨y2, g2⟩ := box_at nF 2 (by simp)
      obtain ⟨y3, g3⟩ := box_at nF 3 (by simp)
      go_simp
      refine hK.out _ _ (HPC.out _ ((((bX.setCell (p := ⟨_, 0, none⟩) qF _).setCell (p := ⟨_, 1, none⟩) qF _).setCell (p := ⟨_, 2, none⟩) qF _).setCell (p := ⟨_, 3, none⟩) qF _)) (fun hHeld => ?_)
      clear hK K
      try simp only [Act.put, List.setIfInBounds_toArray, List.set_cons_zero, List.set_cons_succ]
      refine wpAnyH_done (by kernel_rfl) ?_ _
      go_wp2_with fail
      go_meet
      case rel => exact ⟨_, rfl, fleet_end HM.out bX qC nF nP nS qF (HNL.out _ (by omega)) (HNL.out _ (by omega))⟩
    refine AllReadyH.cons rfl (fun K hK => ?_) AllReadyH.nil
    go_simp
    refine (HCO.out wF (HBW.out.trans (bX.mono HBW.out.size))).mono ?_
    rintro e wC ⟨⟨a, cp, b0, A, Kc, lab, rfl, hcp, hM⟩, bC⟩
    have qC : X.heap.size ≤ wF.heap.size := bX.size
    have bX := bX.trans (bC.mono bX.size)
    have sC := bC.size
    have HNL : Hid (∀ b, b < wF.heap.size ∨ wC.heap.size ≤ b → lab b = []) := hid_of fun b h => hM.nolab h
    have HM := hid_of hM
    clear hM
    have nF := (bC.block _ zF).trans nF
    have zF := Nat.lt_of_lt_of_le zF bC.size
    refine hK.out _ _ (HPC.out _ bX) (fun hHeld => ?_)
    clear hK K
    try simp only [Act.put, List.setIfInBounds_toArray, List.set_cons_zero, List.set_cons_succ]
    refine wpAnyH_ready (rs := [1, 6]) (by kernel_rfl) (by simp) ?_
    refine AllReadyH.cons rfl (fun K hK => ?_) ?_
    · go_simp
      have bP := below_box wC (.cells #[.string pn, .slice ta tl tc] 40)
      have nP := block_new (w := wC) #[.string pn, .slice ta tl tc] 40 rfl
      have zP : wC.heap.size < (wC.alloc (.cells #[.string pn, .slice ta tl tc] 40)).heap.size := by simp
      have qP : X.heap.size ≤ wC.heap.size := bX.size
      have bX := bX.trans (bP.mono bX.size)
      have nF := (bP.block _ zF).trans nF
      have zF := Nat.lt_of_lt_of_le zF bP.size
      have HM := hid_of (HM.out.keep bP)
      refine hK.out _ _ (HPC.out _ bX) (fun hHeld => ?_)
      clear hK K
      try simp only [Act.put, List.setIfInBounds_toArray, List.set_cons_zero, List.set_cons_succ]
      generalize wC.alloc (.cells #[.string pn, .slice ta tl tc] 40) = wP at *
      refine wpAnyH_take (i := 3) (v := ?_) rfl (by kernel_rfl) (by kernel_rfl) (by kernel_rfl) (fun _ _ _ h => h) (Or.inl ⟨by rfl, ?_⟩) hHeld ?_
      rotate_left
      · intro w' hSw
        (try dsimp only at hSw)
        go_simp
        try with_reducible rfl
      try simp only [Act.put, List.setIfInBounds_toArray, List.set_cons_zero, List.set_cons_succ]
      refine wpAnyH_ready (rs := [6]) (by kernel_rfl) (by simp) ?_
      refine AllReadyH.cons rfl (fun K hK => ?_) AllReadyH.nil
      go_simp
      have bS := below_box wP (.cells #[.slice a rs.length cp] 35)
      have nS := block_new (w := wP) #[.slice a rs.length cp] 35 rfl
      have zS : wP.heap.size < (wP.alloc (.cells #[.slice a rs.length cp] 35)).heap.size := by simp
      have qS : X.heap.size ≤ wP.heap.size := bX.size
      have bX := bX.trans (bS.mono bX.size)
      have nF := (bS.block _ zF).trans nF
      have zF := Nat.lt_of_lt_of_le zF bS.size
      have HM := hid_of (HM.out.keep bS)
      have nP := (bS.block _ zP).trans nP
      have zP := Nat.lt_of_lt_of_le zP bS.size
      refine hK.out _ _ (HPC.out _ bX) (fun hHeld => ?_)
      clear hK K
      try simp only [Act.put, List.setIfInBounds_toArray, List.set_cons_zero, List.set_cons_succ]
      generalize wP.alloc (.cells #[.slice a rs.length cp] 35) = wS at *
      refine wpAnyH_take (i := 7) (v := ?_) rfl (by kernel_rfl) (by kernel_rfl) (by kernel_rfl) (fun _ _ _ h => h) (Or.inl ⟨by rfl, ?_⟩) hHeld ?_
      rotate_left
      · intro w' hSw
        (try dsimp only at hSw)
        go_simp
        try with_reducible rfl
      try simp only [Act.put, List.setIfInBounds_toArray, List.set_cons_zero, List.set_cons_succ]
      refine wpAnyH_ready (rs := [9]) (by kernel_rfl) (by simp) ?_
      refine AllReadyH.cons rfl (fun K hK => ?_) AllReadyH.nil
      obtain ⟨y0, g0⟩ := box_at nF 0 (by simp)
      obtain ⟨y1, g1⟩ := box_at nF 1 (by simp)
      obtain ⟨y2, g2⟩ := box_at nF 2 (by simp)
      obtain ⟨y3, g3⟩ := box_at nF 3 (by simp)
      go_simp
      refine hK.out _ _ (HPC.out _ ((((bX.setCell (p := ⟨_, 0, none⟩) qF _).setCell (p := ⟨_, 1, none⟩) qF _).setCell (p := ⟨_, 2, none⟩) qF _).setCell (p := ⟨_, 3, none⟩) qF _)) (fun hHeld => ?_)
      clear hK K
      try simp only [Act.put, List.setIfInBounds_toArray, List.set_cons_zero, List.set_cons_succ]
      refine wpAnyH_done (by kernel_rfl) ?_ _
      go_wp2_with fail
      go_meet
      case rel => exact ⟨_, rfl, fleet_end HM.out bX qC nF nP nS qF (HNL.out _ (by omega)) (HNL.out _ (by omega))⟩
    refine AllReadyH.cons rfl (fun K hK => ?_) AllReadyH.nil
    go_simp
    have bS := below_box wC (.cells #[.slice a rs.length cp] 35)
    have nS := block_new (w := wC) #[.slice a rs.length cp] 35 rfl
    have zS : wC.heap.size < (wC.alloc (.cells #[.slice a rs.length cp] 35)).heap.size := by simp
    have qS : X.heap.size ≤ wC.heap.size := bX.size
    have bX := bX.trans (bS.mono bX.size)
    have nF := (bS.block _ zF).trans nF
    have zF := Nat.lt_of_lt_of_le zF bS.size
    have HM := hid_of (HM.out.keep bS)
    refine hK.out _ _ (HPC.out _ bX) (fun hHeld => ?_)
    clear hK K
    try simp only [Act.put, List.setIfInBounds_toArray, List.set_cons_zero, List.set_cons_succ]
    generalize wC.alloc (.cells #[.slice a rs.length cp] 35) = wS at *
    refine wpAnyH_ready (rs := [1]) (by kernel_rfl) (by simp) ?_
    refine AllReadyH.cons rfl (fun K hK => ?_) AllReadyH.nil
    go_simp
    have bP := below_box wS (.cells #[.string pn, .slice ta tl tc] 40)
    have nP := block_new (w := wS) #[.string pn, .slice ta tl tc] 40 rfl
    have zP : wS.heap.size < (wS.alloc (.cells #[.string pn, .slice ta tl tc] 40)).heap.size := by simp
    have qP : X.heap.size ≤ wS.heap.size := bX.size
    have bX := bX.trans (bP.mono bX.size)
    have nF := (bP.block _ zF).trans nF
    have zF := Nat.lt_of_lt_of_le zF bP.size
    have HM := hid_of (HM.out.keep bP)
    have nS := (bP.block _ zS).trans nS
    have zS := Nat.lt_of_lt_of_le zS bP.size
    refine hK.out _ _ (HPC.out _ bX) (fun hHeld => ?_)
    clear hK K
    try simp only [Act.put, List.setIfInBounds_toArray, List.set_cons_zero, List.set_cons_succ]
    generalize wS.alloc (.cells #[.string pn, .slice ta tl tc] 40) = wP at *
    refine wpAnyH_take (i := 3) (v := ?_) rfl (by kernel_rfl) (by kernel_rfl) (by kernel_rfl) (fun _ _ _ h => h) (Or.inl ⟨by rfl, ?_⟩) hHeld ?_
    rotate_left
    · intro w' hSw
      (try dsimp only at hSw)
      go_simp
      try with_reducible rfl
    try simp only [Act.put, List.setIfInBounds_toArray, List.set_cons_zero, List.set_cons_succ]
    refine wpAnyH_take (i := 7) (v := ?_) rfl (by kernel_rfl) (by kernel_rfl) (by kernel_rfl) (fun _ _ _ h => h) (Or.inl ⟨by rfl, ?_⟩) hHeld ?_
    rotate_left
    · intro w' hSw
      (try dsimp only at hSw)
      go_simp
      try with_reducible rfl
    try simp only [Act.put, List.setIfInBounds_toArray, List.set_cons_zero, List.set_cons_succ]
    refine wpAnyH_ready (rs := [9]) (by kernel_rfl) (by simp) ?_
    refine AllReadyH.cons rfl (fun K hK => ?_) AllReadyH.nil
    obtain ⟨y0, g0⟩ := box_at nF 0 (by simp)
    obtain ⟨y1, g1⟩ := box_at nF 1 (by simp)
    obtain ⟨y2, g2⟩ := box_at nF 2 (by simp)
    obtain ⟨y3, g3⟩ := box_at nF 3 (by simp)
    go_simp
    refine hK.out _ _ (HPC.out _ ((((bX.setCell (p := ⟨_, 0, none⟩) qF _).setCell (p := ⟨_, 1, none⟩) qF _).setCell (p := ⟨_, 2, none⟩) qF _).setCell (p := ⟨_, 3, none⟩) qF _)) (fun hHeld => ?_)
    clear hK K
    try simp only [Act.put, List.setIfInBounds_toArray, List.set_cons_zero, List.set_cons_succ]
    refine wpAnyH_done (by kernel_rfl) ?_ _
    go_wp2_with fail
    go_meet
    case rel => exact ⟨_, rfl, fleet_end HM.out bX qC nF nP nS qF (HNL.out _ (by omega)) (HNL.out _ (by omega))⟩
  case rest =>
  obtain ⟨fb, rfl, pb, sb, ra', rcap, b0, A, K, lab, nF, nPb, nSb, bXw, hM, lf, ls⟩ := hcut
  obtain ⟨w2, rfl⟩ : ∃ x, x = wc := ⟨wc, rfl⟩
  clear m0 m1 p0 p1
  have bw2 := bw.trans (bXw.mono bw.size)
  have nC2 := (bXw.block _ (by omega)).trans nC
  obtain ⟨f0, -⟩ := box_at nF 0 (by simp)
  obtain ⟨f1, -⟩ := box_at nF 1 (by simp)
  obtain ⟨f2, -⟩ := box_at nF 2 (by simp)
  obtain ⟨f3, -⟩ := box_at nF 3 (by simp)
  obtain ⟨c0, -⟩ := box_at nC2 0 (by simp)
  obtain ⟨c1, -⟩ := box_at nC2 1 (by simp)
  obtain ⟨c2, -⟩ := box_at nC2 2 (by simp)
  obtain ⟨c3, -⟩ := box_at nC2 3 (by simp)
  obtain ⟨c4, -⟩ := box_at nC2 4 (by simp)
  obtain ⟨c5, -⟩ := box_at nC2 5 (by simp)
  obtain ⟨c6, -⟩ := box_at nC2 6 (by simp)
  obtain ⟨c7, -⟩ := box_at nC2 7 (by simp)
  have hz2 := bXw.size
  have hSET := set_any p rs c w2 X.heap.size B pn ta tl tc ra' rcap b0 A K lab pb 1 sb 1 s n t na ka nl nc kl kc (hPt.under (bw2.mono hB)) (by omega) hz2 hM (hV.under (bw2.mono hB)) hsx (box_at nPb 0 (by simp)).1 (box_at nPb 1 (by simp)).1 (box_at nSb 0 (by simp)).1 hst
  have HSET := hid_of hSET
  have HM := hid_of hM
  have HNF := hid_of nF
  have HNS := hid_of nSb
  have hfz : fb < w2.heap.size := (Array.getElem?_eq_some_iff.1 nF).1
  have hsz2 : sb < w2.heap.size := (Array.getElem?_eq_some_iff.1 nSb).1
  clear hSET hM nF nSb nPb nP nC nC2
  go_wp2_with fail
  refine HSET.out.mono ?_
  rintro e w3 ⟨rfl, has, lab', hM'⟩
  have b23 : Below X.heap.size w2 w3 := has.below hz2 (fun b hb => (HM.out.way b hb).1)
  have nF3 := (has.block fb hfz (fun h => h lf)).trans HNF.out
  have nS3 := (has.block sb hsz2 (fun h => h ls)).trans HNS.out
  obtain ⟨g3, -⟩ := box_at nF3 3 (by simp)
  obtain ⟨h0, -⟩ := box_at nS3 0 (by simp)
  have bw3 : Below w.heap.size w w3 := bw2.trans (b23.mono bw.size)
  have HM' := hid_of hM'
  have hlL : (setL p rs c).length = rs.length := by unfold setL putR; split <;> simp
  have HLL := hid_of hlL
  clear f0 f1 f2 f3 c0 c1 c2 c3 c4 c5 c6 c7 hM' nF3 nS3 HSET hlL
  go_wp2_with fail
  refine bodyPost_ret (v := .tuple #[.slice ra' rs.length rcap, .int .i64 (codeC p rs c)]) ?res rfl ?_
  case res => simp [results, Tryz.results11, go_sem]
  refine ⟨⟨ra', rcap, b0, A, K, lab', ?_, ?_⟩, bw3⟩
  · rw [HE.out.1, HE.out.2, HLL.out]
  · rw [HE.out.1]; exact HM'.out.low (by omega)
end Go.Proofs.YtmemijccbmnaaaaGreat
