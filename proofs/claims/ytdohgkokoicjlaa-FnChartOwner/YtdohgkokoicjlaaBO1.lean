import Derived.Test.YtdohgkokoicjlaaB1
import Derived.Test.YtdohgkokoicjlaaB41
import Derived.Test.YtdohgkokoicjlaaB4
import Derived.Deep.AppendLies
import Derived.Laws.AppendOwnNone
import Derived.Test.YtdohgkokoicjlaaB31
import Derived.Test.YtdohgkokoicjlaaB2
import Derived.Test.YtdohgkokoicjlaaB5
set_option linter.unusedSimpArgs false
set_option linter.unusedVariables false
namespace Go.Proofs.Ytdohgkokoicjlaa
open Go.RowKit Go.Maps
attribute [local go_sem] Oper.semAt_some
def OwnerEnd (w : World) (e : Ending) (w' : World) : Prop := ∃ (ps : List Pt) (v : Value) (s1 s2 : ByteArray), e = .returned (.tuple #[v, .string s1, .string s2]) ∧ CRep w' (fun b => w.heap.size ≤ b ∧ b < w'.heap.size) (chartC ps) v ∧ s1.size ≤ 12 ∧ s2.size ≤ 12 ∧ Below w.heap.size w w'
set_option maxRecDepth 20000 in
set_option maxHeartbeats 3200000 in
theorem DrawChartOwner_any (w : World) (cb n : Nat) (v : Value) (h : CodeNew w cb v n) (hn : n ≤ 1048576) :
    Calls Try.prog 5 #[v] w (OwnerEnd w) := by
  have HOP := hid_of (l1Open_any (w.alloc (.cells #[.string ⟨#[]⟩, .slice none 0 0, .slice none 0 0] 28)) cb n v (h _) hn)
  clear h
  go_enter Try.func5, Try.ntmps5
  go_upto_region 2 with (
    go_at_call 16
    refine HOP.out.mono ?_
    rintro e w1 ⟨rb, rfl, hrb, hR, hb1⟩)
  have hrb' : w.heap.size + 1 ≤ rb := by simpa using hrb
  have bx1 := (hb1.block w.heap.size (by simp)).trans (block_new (w := w) #[.string ⟨#[]⟩, .slice none 0 0, .slice none 0 0] 28 rfl)
  have b1 : Below w.heap.size w w1 := (below_box w _).trans (hb1.mono (by simp))
  have hsz1 : w.heap.size + 1 ≤ w1.heap.size := by simpa using hb1.size
  have hrw := hR.lt.1
  have HAP := hid_of (l11AnyParts_any w1 rb cb 0 hR (by omega))
  have HMK := hid_of (make_drawn w1)
  clear HOP hb1 hrb hR
  go_upto_region 3 with (
    first
      | (
        go_at_call 18
        refine HAP.out.mono ?_
        rintro e w2 ⟨ps, a, c, q, rfl, hl4, hPs, hPz, r2, hq2, o2⟩
        have HM := hid_of (HMK.out w2 ps a c hPs hPz o2.size)
        have HO2 := hid_of o2
        have HR2 := hid_of r2
        clear hPs hPz r2 o2)
      | (
        go_at_call 17
        refine HM.out.mono ?_
        rintro e w3 ⟨s0, ta, oa, tl, tc, ol, oc, at', ty, fl, code, rfl, b3, hC⟩
        have HC := hid_of hC
        have HB3 := hid_of b3
        clear hC b3))
  have hz2 := HO2.out.size
  have hz3 := HB3.out.size
  have bX := below_box2 w3 (.cells #[.string s0, .slice ta tl tc, .slice oa ol oc] 28) (.cells #[.int .i64 at', .string ty, .string fl, .int .i64 code] 52)
  have nX : ((w3.alloc (.cells #[.string s0, .slice ta tl tc, .slice oa ol oc] 28)).alloc (.cells #[.int .i64 at', .string ty, .string fl, .int .i64 code] 52)).heap[w3.heap.size]? = some (.cells #[.string s0, .slice ta tl tc, .slice oa ol oc] 28 (0, 0)) := ((below_box _ _).block w3.heap.size (by simp)).trans (block_new _ _ rfl)
  generalize (w3.alloc (.cells #[.string s0, .slice ta tl tc, .slice oa ol oc] 28)).alloc (.cells #[.int .i64 at', .string ty, .string fl, .int .i64 code] 52) = X at *
  have hzX := bX.size
  have bx3 := (bX.block w.heap.size (by omega)).trans ((HB3.out.block w.heap.size (by omega)).trans ((HO2.out.block w.heap.size (by omega) (by omega)).trans bx1))
  have bW : Below w.heap.size w X := b1.trans ((HO2.out.below (by omega) fun b hb e => by omega).trans ((HB3.out.trans (bX.mono hz3)).mono (by omega)))
  have hrb3 : rb < w2.heap.size := HR2.out.lt.1
  have hcb3 : cb < w2.heap.size := HR2.out.lt.2.1
  have HR3 := hid_of (HR2.out.keep (w' := X) ((bX.block rb (by omega)).trans (HB3.out.block rb hrb3)) ((bX.block cb (by omega)).trans (HB3.out.block cb hcb3)) (by omega))
  have hs3 : w3.heap.size < X.heap.size := (Array.getElem?_eq_some_iff.1 nX).1
  have HSD : Hid (∀ W, Only (· = rb) X W → W.cell? ⟨w3.heap.size, 0, none⟩ = some (.string s0) ∧ W.cell? ⟨w3.heap.size, 1, none⟩ = some (.slice ta tl tc) ∧ W.cell? ⟨w3.heap.size, 2, none⟩ = some (.slice oa ol oc)) := hid_of fun W hW => by
    have hb := (hW.block w3.heap.size hs3 (by omega)).trans nX
    exact ⟨(box_at hb 0 (by simp)).1, (box_at hb 1 (by simp)).1, (box_at hb 2 (by simp)).1⟩
  have HRB : Hid (∀ W, Only (· = rb) X W → W.heap[w.heap.size]? = some (.cells #[.string ⟨#[]⟩, .slice none 0 0, .slice none 0 0] 28 (0, 0))) := hid_of fun W hW => (hW.block w.heap.size (by omega) (by omega)).trans bx3
  have HST : Hid (∀ W, Only (· = rb) X W → (((W.setCell ⟨w.heap.size, 0, none⟩ (.string s0)).setCell ⟨w.heap.size, 1, none⟩ (.slice ta tl tc)).setCell ⟨w.heap.size, 2, none⟩ (.slice oa ol oc)).cell? ⟨w3.heap.size, 0, none⟩ = some (.string s0) ∧ (((W.setCell ⟨w.heap.size, 0, none⟩ (.string s0)).setCell ⟨w.heap.size, 1, none⟩ (.slice ta tl tc)).setCell ⟨w.heap.size, 2, none⟩ (.slice oa ol oc)).cell? ⟨w3.heap.size, 1, none⟩ = some (.slice ta tl tc) ∧ (((W.setCell ⟨w.heap.size, 0, none⟩ (.string s0)).setCell ⟨w.heap.size, 1, none⟩ (.slice ta tl tc)).setCell ⟨w.heap.size, 2, none⟩ (.slice oa ol oc)).cell? ⟨w3.heap.size, 2, none⟩ = some (.slice oa ol oc)) := hid_of fun W hW => by
    have hb : (((W.setCell ⟨w.heap.size, 0, none⟩ (.string s0)).setCell ⟨w.heap.size, 1, none⟩ (.slice ta tl tc)).setCell ⟨w.heap.size, 2, none⟩ (.slice oa ol oc)).heap[w3.heap.size]? = W.heap[w3.heap.size]? := sets3_block (by omega) W _ _ _
    have h0 := HSD.out W hW
    exact ⟨(World.cell?_of_block (a := ⟨w3.heap.size, 0, none⟩) hb).trans h0.1, (World.cell?_of_block (a := ⟨w3.heap.size, 1, none⟩) hb).trans h0.2.1, (World.cell?_of_block (a := ⟨w3.heap.size, 2, none⟩) hb).trans h0.2.2⟩
  have HEND : Hid (∀ W, Only (· = rb) X W → ∀ s1 s2 : ByteArray, s1.size ≤ 12 → s2.size ≤ 12 → OwnerEnd w (.returned (.tuple #[.agg #[.string s0, .slice ta tl tc, .slice oa ol oc], .string s1, .string s2])) (((W.setCell ⟨w.heap.size, 0, none⟩ (.string s0)).setCell ⟨w.heap.size, 1, none⟩ (.slice ta tl tc)).setCell ⟨w.heap.size, 2, none⟩ (.slice oa ol oc))) := hid_of fun W hW s1 s2 h1 h2 => by
    have hzW := hW.size
    refine ⟨ps, _, s1, s2, rfl, (HC.out.mono fun b hb => ?_).sub fun b hb => ?_, h1, h2, (((bW.trans (hW.below (by omega) fun b hb e => by omega)).setCell (p := ⟨w.heap.size, 0, none⟩) (Nat.le_refl _) _).setCell (p := ⟨w.heap.size, 1, none⟩) (Nat.le_refl _) _).setCell (p := ⟨w.heap.size, 2, none⟩) (Nat.le_refl _) _⟩
    · rw [sets3_block (by omega)]; exact (hW.block b (by omega) (by omega)).trans (bX.block b hb.2)
    · rw [sets3_size]; omega
  have HO4 : Hid (∀ W q g, RdOk W rb cb q → q ≤ 40000 → W.heap[g]? = some (.cells #[.string ⟨#[113, 117, 101, 114, 121]⟩, .string ⟨#[117, 115, 101, 114]⟩, .string ⟨#[105, 116, 101, 109]⟩, .string ⟨#[110, 111, 116, 101]⟩] 9 (0, 0)) → g ≠ rb → Calls Try.prog 19 #[.pointer (some ⟨rb, 0, none⟩), .slice (some ⟨g, 0, none⟩) 4 4] W fun e w' => ∃ s : ByteArray, e = .returned (.string s) ∧ s.size ≤ 12 ∧ RdOk w' rb cb (q + 1) ∧ Only (· = rb) W w') := hid_of fun W q g h1 h2 h3 h4 => of_block W rb cb q g h1 (by omega) [⟨#[113, 117, 101, 114, 121]⟩, ⟨#[117, 115, 101, 114]⟩, ⟨#[105, 116, 101, 109]⟩, ⟨#[110, 111, 116, 101]⟩] (by simp) (by simp) (by intro s hs; simp at hs; rcases hs with rfl | rfl | rfl | rfl <;> decide) h3 h4
  have HO7 : Hid (∀ W q g, RdOk W rb cb q → q ≤ 40000 → W.heap[g]? = some (.cells #[.string ⟨#[105, 100]⟩, .string ⟨#[110, 97, 109, 101]⟩, .string ⟨#[117, 115, 101, 114, 115]⟩, .string ⟨#[114, 97, 110, 107]⟩, .string ⟨#[116, 105, 116, 108, 101]⟩, .string ⟨#[110, 48]⟩, .string ⟨#[120]⟩] 9 (0, 0)) → g ≠ rb → Calls Try.prog 19 #[.pointer (some ⟨rb, 0, none⟩), .slice (some ⟨g, 0, none⟩) 7 7] W fun e w' => ∃ s : ByteArray, e = .returned (.string s) ∧ s.size ≤ 12 ∧ RdOk w' rb cb (q + 1) ∧ Only (· = rb) W w') := hid_of fun W q g h1 h2 h3 h4 => of_block W rb cb q g h1 (by omega) [⟨#[105, 100]⟩, ⟨#[110, 97, 109, 101]⟩, ⟨#[117, 115, 101, 114, 115]⟩, ⟨#[114, 97, 110, 107]⟩, ⟨#[116, 105, 116, 108, 101]⟩, ⟨#[110, 48]⟩, ⟨#[120]⟩] (by simp) (by simp) (by intro s hs; simp at hs; rcases hs with rfl | rfl | rfl | rfl | rfl | rfl | rfl <;> decide) h3 h4
  clear bW bX nX bx3 bx1 b1 HAP HMK HM
  refine wp_region_held_drew (S := (fun w' => w'.cell? ⟨w3.heap.size, 0, none⟩ = some (.string s0) ∧ w'.cell? ⟨w3.heap.size, 1, none⟩ = some (.slice ta tl tc) ∧ w'.cell? ⟨w3.heap.size, 2, none⟩ = some (.slice oa ol oc))) (by kernel_rfl) (HSD.out _ (by exact ⟨rfl, rfl, rfl, Nat.le_refl _, fun _ _ _ => rfl⟩)) (fun hHeld => ?_)
  have oX : Only (· = rb) X X.drew := ⟨rfl, rfl, rfl, Nat.le_refl _, fun _ _ _ => rfl⟩
  have rX : RdOk X.drew rb cb q := HR3.out.keep rfl rfl (Nat.le_refl _)
  generalize X.drew = wE0 at *
  refine tkH 0 hHeld ?_
  refine tkH 1 hHeld ?_
  refine tkH 4 hHeld ?_
  refine rdyH [2, 5] ?_
  refine rcH (fun K hK => ?_) ?_
  · go_simp
    have bA := below_box wE0 (.cells #[.string ⟨#[113, 117, 101, 114, 121]⟩, .string ⟨#[117, 115, 101, 114]⟩, .string ⟨#[105, 116, 101, 109]⟩, .string ⟨#[110, 111, 116, 101]⟩] 9)
    obtain ⟨gA, hgA⟩ : ∃ g, g = wE0.heap.size := ⟨_, rfl⟩
    have nA := block_new (w := wE0) (N := gA) #[.string ⟨#[113, 117, 101, 114, 121]⟩, .string ⟨#[117, 115, 101, 114]⟩, .string ⟨#[105, 116, 101, 109]⟩, .string ⟨#[110, 111, 116, 101]⟩] 9 hgA.symm
    have qA : X.heap.size ≤ gA := by have := oX.size; omega
    have oX := oX.trans (Only.of_below (· = rb) bA) (fun _ _ q => q)
    have rX := rX.only (Only.of_below (fun _ => False) bA) id id
    refine hK.out _ _ (HSD.out _ oX) (fun hHeld => ?_)
    clear hK K
    try simp only [Act.put, List.setIfInBounds_toArray, List.set_cons_zero, List.set_cons_succ]
    rw [← hgA]
    generalize wE0.alloc (.cells #[.string ⟨#[113, 117, 101, 114, 121]⟩, .string ⟨#[117, 115, 101, 114]⟩, .string ⟨#[105, 116, 101, 109]⟩, .string ⟨#[110, 111, 116, 101]⟩] 9) = wA at *
    clear hgA bA
    refine rdyH [3, 5] ?_
    refine rcH (fun K hK => ?_) ?_
    · go_simp
      refine (HO4.out wA _ gA rX (by omega) nA (by omega)).mono ?_
      rintro e wC ⟨s1, rfl, hs1, rX, oC⟩
      have oX := oX.trans oC (fun _ _ q => q)
      try have nA := (bC.block gA (Array.getElem?_eq_some_iff.1 nA).1).trans nA
      try have nA := (oC.block gA (Array.getElem?_eq_some_iff.1 nA).1 (by omega)).trans nA
      refine hK.out _ _ (HSD.out _ oX) (fun hHeld => ?_)
      clear hK K
      try simp only [Act.put, List.setIfInBounds_toArray, List.set_cons_zero, List.set_cons_succ]
      clear nA
      refine rdyH [5] ?_
      refine rcH (fun K hK => ?_) AllReadyH.nil
      go_simp
      have bE := below_box wC (.cells #[.string ⟨#[105, 100]⟩, .string ⟨#[110, 97, 109, 101]⟩, .string ⟨#[117, 115, 101, 114, 115]⟩, .string ⟨#[114, 97, 110, 107]⟩, .string ⟨#[116, 105, 116, 108, 101]⟩, .string ⟨#[110, 48]⟩, .string ⟨#[120]⟩] 9)
      obtain ⟨gE, hgE⟩ : ∃ g, g = wC.heap.size := ⟨_, rfl⟩
      have nE := block_new (w := wC) (N := gE) #[.string ⟨#[105, 100]⟩, .string ⟨#[110, 97, 109, 101]⟩, .string ⟨#[117, 115, 101, 114, 115]⟩, .string ⟨#[114, 97, 110, 107]⟩, .string ⟨#[116, 105, 116, 108, 101]⟩, .string ⟨#[110, 48]⟩, .string ⟨#[120]⟩] 9 hgE.symm
      have qE : X.heap.size ≤ gE := by have := oX.size; omega
      have oX := oX.trans (Only.of_below (· = rb) bE) (fun _ _ q => q)
      have rX := rX.only (Only.of_below (fun _ => False) bE) id id
      try have nA := (bE.block gA (Array.getElem?_eq_some_iff.1 nA).1).trans nA
      try have nA := (oE.block gA (Array.getElem?_eq_some_iff.1 nA).1 (by omega)).trans nA
      refine hK.out _ _ (HSD.out _ oX) (fun hHeld => ?_)
      clear hK K
      try simp only [Act.put, List.setIfInBounds_toArray, List.set_cons_zero, List.set_cons_succ]
      rw [← hgE]
      generalize wC.alloc (.cells #[.string ⟨#[105, 100]⟩, .string ⟨#[110, 97, 109, 101]⟩, .string ⟨#[117, 115, 101, 114, 115]⟩, .string ⟨#[114, 97, 110, 107]⟩, .string ⟨#[116, 105, 116, 108, 101]⟩, .string ⟨#[110, 48]⟩, .string ⟨#[120]⟩] 9) = wE at *
      clear hgE bE
      refine rdyH [6] ?_
      refine rcH (fun K hK => ?_) AllReadyH.nil
      go_simp
      refine (HO7.out wE _ gE rX (by omega) nE (by omega)).mono ?_
      rintro e wG ⟨s2, rfl, hs2, rX, oG⟩
      have oX := oX.trans oG (fun _ _ q => q)
      try have nA := (bG.block gA (Array.getElem?_eq_some_iff.1 nA).1).trans nA
      try have nA := (oG.block gA (Array.getElem?_eq_some_iff.1 nA).1 (by omega)).trans nA
      try have nE := (bG.block gE (Array.getElem?_eq_some_iff.1 nE).1).trans nE
      try have nE := (oG.block gE (Array.getElem?_eq_some_iff.1 nE).1 (by omega)).trans nE
      refine hK.out _ _ (HSD.out _ oX) (fun hHeld => ?_)
      clear hK K
      try simp only [Act.put, List.setIfInBounds_toArray, List.set_cons_zero, List.set_cons_succ]
      clear nE
      refine rdyH [7] ?_
      refine rcH (fun K hK => ?_) AllReadyH.nil
      obtain ⟨c0, z0⟩ := box_at (HRB.out _ oX) 0 (by simp)
      obtain ⟨c1, z1⟩ := box_at (HRB.out _ oX) 1 (by simp)
      obtain ⟨c2, z2⟩ := box_at (HRB.out _ oX) 2 (by simp)
      simp only [List.getElem_toArray, List.getElem_cons_zero, List.getElem_cons_succ] at c0 c1 c2
      go_simp
      clear c0 c1 c2 z0 z1 z2
      refine hK.out _ _ (HST.out _ oX) (fun hHeld => ?_)
      clear hK K
      try simp only [Act.put, List.setIfInBounds_toArray, List.set_cons_zero, List.set_cons_succ]
      refine tkH 8 hHeld ?_
      refine tkH 9 hHeld ?_
      refine wpAnyH_done (by kernel_rfl) ?_ _
      have HFIN := HEND.out _ oX s1 s2 hs1 hs2
      have hdd := sets3_box (HRB.out _ oX) (.string s0) (.slice ta tl tc) (.slice oa ol oc)
      have e0 := (box_at hdd 0 (by simp)).1
      have e1 := (box_at hdd 1 (by simp)).1
      have e2 := (box_at hdd 2 (by simp)).1
      go_wp2_with fail
      exact bodyPost_ret (doResult _ _ w.heap.size (.string s0) (.slice ta tl tc) (.slice oa ol oc) (.string s1) (.string s2) rfl rfl rfl e0 e1 e2) rfl HFIN
    refine rcH (fun K hK => ?_) AllReadyH.nil
    go_simp
    have bE := below_box wA (.cells #[.string ⟨#[105, 100]⟩, .string ⟨#[110, 97, 109, 101]⟩, .string ⟨#[117, 115, 101, 114, 115]⟩, .string ⟨#[114, 97, 110, 107]⟩, .string ⟨#[116, 105, 116, 108, 101]⟩, .string ⟨#[110, 48]⟩, .string ⟨#[120]⟩] 9)
    obtain ⟨gE, hgE⟩ : ∃ g, g = wA.heap.size := ⟨_, rfl⟩
    have nE := block_new (w := wA) (N := gE) #[.string ⟨#[105, 100]⟩, .string ⟨#[110, 97, 109, 101]⟩, .string ⟨#[117, 115, 101, 114, 115]⟩, .string ⟨#[114, 97, 110, 107]⟩, .string ⟨#[116, 105, 116, 108, 101]⟩, .string ⟨#[110, 48]⟩, .string ⟨#[120]⟩] 9 hgE.symm
    have qE : X.heap.size ≤ gE := by have := oX.size; omega
    have oX := oX.trans (Only.of_below (· = rb) bE) (fun _ _ q => q)
    have rX := rX.only (Only.of_below (fun _ => False) bE) id id
    try have nA := (bE.block gA (Array.getElem?_eq_some_iff.1 nA).1).trans nA
    try have nA := (oE.block gA (Array.getElem?_eq_some_iff.1 nA).1 (by omega)).trans nA
    refine hK.out _ _ (HSD.out _ oX) (fun hHeld => ?_)
    clear hK K
    try simp only [Act.put, List.setIfInBounds_toArray, List.set_cons_zero, List.set_cons_succ]
    rw [← hgE]
    generalize wA.alloc (.cells #[.string ⟨#[105, 100]⟩, .string ⟨#[110, 97, 109, 101]⟩, .string ⟨#[117, 115, 101, 114, 115]⟩, .string ⟨#[114, 97, 110, 107]⟩, .string ⟨#[116, 105, 116, 108, 101]⟩, .string ⟨#[110, 48]⟩, .string ⟨#[120]⟩] 9) = wE at *
    clear hgE bE
    refine rdyH [3] ?_
    refine rcH (fun K hK => ?_) AllReadyH.nil
    go_simp
    refine (HO4.out wE _ gA rX (by omega) nA (by omega)).mono ?_
    rintro e wC ⟨s1, rfl, hs1, rX, oC⟩
    have oX := oX.trans oC (fun _ _ q => q)
    try have nA := (bC.block gA (Array.getElem?_eq_some_iff.1 nA).1).trans nA
    try have nA := (oC.block gA (Array.getElem?_eq_some_iff.1 nA).1 (by omega)).trans nA
    try have nE := (bC.block gE (Array.getElem?_eq_some_iff.1 nE).1).trans nE
    try have nE := (oC.block gE (Array.getElem?_eq_some_iff.1 nE).1 (by omega)).trans nE
    refine hK.out _ _ (HSD.out _ oX) (fun hHeld => ?_)
    clear hK K
    try simp only [Act.put, List.setIfInBounds_toArray, List.set_cons_zero, List.set_cons_succ]
    clear nA
    refine rdyH [6] ?_
    refine rcH (fun K hK => ?_) AllReadyH.nil
    go_simp
    refine (HO7.out wC _ gE rX (by omega) nE (by omega)).mono ?_
    rintro e wG ⟨s2, rfl, hs2, rX, oG⟩
    have oX := oX.trans oG (fun _ _ q => q)
    try have nA := (bG.block gA (Array.getElem?_eq_some_iff.1 nA).1).trans nA
    try have nA := (oG.block gA (Array.getElem?_eq_some_iff.1 nA).1 (by omega)).trans nA
    try have nE := (bG.block gE (Array.getElem?_eq_some_iff.1 nE).1).trans nE
    try have nE := (oG.block gE (Array.getElem?_eq_some_iff.1 nE).1 (by omega)).trans nE
    refine hK.out _ _ (HSD.out _ oX) (fun hHeld => ?_)
    clear hK K
    try simp only [Act.put, List.setIfInBounds_toArray, List.set_cons_zero, List.set_cons_succ]
    clear nE
    refine rdyH [7] ?_
    refine rcH (fun K hK => ?_) AllReadyH.nil
    obtain ⟨c0, z0⟩ := box_at (HRB.out _ oX) 0 (by simp)
    obtain ⟨c1, z1⟩ := box_at (HRB.out _ oX) 1 (by simp)
    obtain ⟨c2, z2⟩ := box_at (HRB.out _ oX) 2 (by simp)
    simp only [List.getElem_toArray, List.getElem_cons_zero, List.getElem_cons_succ] at c0 c1 c2
    go_simp
    clear c0 c1 c2 z0 z1 z2
    refine hK.out _ _ (HST.out _ oX) (fun hHeld => ?_)
    clear hK K
    try simp only [Act.put, List.setIfInBounds_toArray, List.set_cons_zero, List.set_cons_succ]
    refine tkH 8 hHeld ?_
    refine tkH 9 hHeld ?_
    refine wpAnyH_done (by kernel_rfl) ?_ _
    have HFIN := HEND.out _ oX s1 s2 hs1 hs2
    have hdd := sets3_box (HRB.out _ oX) (.string s0) (.slice ta tl tc) (.slice oa ol oc)
    have e0 := (box_at hdd 0 (by simp)).1
    have e1 := (box_at hdd 1 (by simp)).1
    have e2 := (box_at hdd 2 (by simp)).1
    go_wp2_with fail
    exact bodyPost_ret (doResult _ _ w.heap.size (.string s0) (.slice ta tl tc) (.slice oa ol oc) (.string s1) (.string s2) rfl rfl rfl e0 e1 e2) rfl HFIN
  refine rcH (fun K hK => ?_) AllReadyH.nil
  go_simp
  have bE := below_box wE0 (.cells #[.string ⟨#[105, 100]⟩, .string ⟨#[110, 97, 109, 101]⟩, .string ⟨#[117, 115, 101, 114, 115]⟩, .string ⟨#[114, 97, 110, 107]⟩, .string ⟨#[116, 105, 116, 108, 101]⟩, .string ⟨#[110, 48]⟩, .string ⟨#[120]⟩] 9)
  obtain ⟨gE, hgE⟩ : ∃ g, g = wE0.heap.size := ⟨_, rfl⟩
  have nE := block_new (w := wE0) (N := gE) #[.string ⟨#[105, 100]⟩, .string ⟨#[110, 97, 109, 101]⟩, .string ⟨#[117, 115, 101, 114, 115]⟩, .string ⟨#[114, 97, 110, 107]⟩, .string ⟨#[116, 105, 116, 108, 101]⟩, .string ⟨#[110, 48]⟩, .string ⟨#[120]⟩] 9 hgE.symm
  have qE : X.heap.size ≤ gE := by have := oX.size; omega
  have oX := oX.trans (Only.of_below (· = rb) bE) (fun _ _ q => q)
  have rX := rX.only (Only.of_below (fun _ => False) bE) id id
  refine hK.out _ _ (HSD.out _ oX) (fun hHeld => ?_)
  clear hK K
  try simp only [Act.put, List.setIfInBounds_toArray, List.set_cons_zero, List.set_cons_succ]
  rw [← hgE]
  generalize wE0.alloc (.cells #[.string ⟨#[105, 100]⟩, .string ⟨#[110, 97, 109, 101]⟩, .string ⟨#[117, 115, 101, 114, 115]⟩, .string ⟨#[114, 97, 110, 107]⟩, .string ⟨#[116, 105, 116, 108, 101]⟩, .string ⟨#[110, 48]⟩, .string ⟨#[120]⟩] 9) = wE at *
  clear hgE bE
  refine rdyH [2] ?_
  refine rcH (fun K hK => ?_) AllReadyH.nil
  go_simp
  have bA := below_box wE (.cells #[.string ⟨#[113, 117, 101, 114, 121]⟩, .string ⟨#[117, 115, 101, 114]⟩, .string ⟨#[105, 116, 101, 109]⟩, .string ⟨#[110, 111, 116, 101]⟩] 9)
  obtain ⟨gA, hgA⟩ : ∃ g, g = wE.heap.size := ⟨_, rfl⟩
  have nA := block_new (w := wE) (N := gA) #[.string ⟨#[113, 117, 101, 114, 121]⟩, .string ⟨#[117, 115, 101, 114]⟩, .string ⟨#[105, 116, 101, 109]⟩, .string ⟨#[110, 111, 116, 101]⟩] 9 hgA.symm
  have qA : X.heap.size ≤ gA := by have := oX.size; omega
  have oX := oX.trans (Only.of_below (· = rb) bA) (fun _ _ q => q)
  have rX := rX.only (Only.of_below (fun _ => False) bA) id id
  try have nE := (bA.block gE (Array.getElem?_eq_some_iff.1 nE).1).trans nE
  try have nE := (oA.block gE (Array.getElem?_eq_some_iff.1 nE).1 (by omega)).trans nE
  refine hK.out _ _ (HSD.out _ oX) (fun hHeld => ?_)
  clear hK K
  try simp only [Act.put, List.setIfInBounds_toArray, List.set_cons_zero, List.set_cons_succ]
  rw [← hgA]
  generalize wE.alloc (.cells #[.string ⟨#[113, 117, 101, 114, 121]⟩, .string ⟨#[117, 115, 101, 114]⟩, .string ⟨#[105, 116, 101, 109]⟩, .string ⟨#[110, 111, 116, 101]⟩] 9) = wA at *
  clear hgA bA
  refine rdyH [3] ?_
  refine rcH (fun K hK => ?_) AllReadyH.nil
  go_simp
  refine (HO4.out wA _ gA rX (by omega) nA (by omega)).mono ?_
  rintro e wC ⟨s1, rfl, hs1, rX, oC⟩
  have oX := oX.trans oC (fun _ _ q => q)
  try have nE := (bC.block gE (Array.getElem?_eq_some_iff.1 nE).1).trans nE
  try have nE := (oC.block gE (Array.getElem?_eq_some_iff.1 nE).1 (by omega)).trans nE
  try have nA := (bC.block gA (Array.getElem?_eq_some_iff.1 nA).1).trans nA
  try have nA := (oC.block gA (Array.getElem?_eq_some_iff.1 nA).1 (by omega)).trans nA
  refine hK.out _ _ (HSD.out _ oX) (fun hHeld => ?_)
  clear hK K
  try simp only [Act.put, List.setIfInBounds_toArray, List.set_cons_zero, List.set_cons_succ]
  clear nA
  refine rdyH [6] ?_
  refine rcH (fun K hK => ?_) AllReadyH.nil
  go_simp
  refine (HO7.out wC _ gE rX (by omega) nE (by omega)).mono ?_
  rintro e wG ⟨s2, rfl, hs2, rX, oG⟩
  have oX := oX.trans oG (fun _ _ q => q)
  try have nE := (bG.block gE (Array.getElem?_eq_some_iff.1 nE).1).trans nE
  try have nE := (oG.block gE (Array.getElem?_eq_some_iff.1 nE).1 (by omega)).trans nE
  try have nA := (bG.block gA (Array.getElem?_eq_some_iff.1 nA).1).trans nA
  try have nA := (oG.block gA (Array.getElem?_eq_some_iff.1 nA).1 (by omega)).trans nA
  refine hK.out _ _ (HSD.out _ oX) (fun hHeld => ?_)
  clear hK K
  try simp only [Act.put, List.setIfInBounds_toArray, List.set_cons_zero, List.set_cons_succ]
  clear nE
  refine rdyH [7] ?_
  refine rcH (fun K hK => ?_) AllReadyH.nil
  obtain ⟨c0, z0⟩ := box_at (HRB.out _ oX) 0 (by simp)
  obtain ⟨c1, z1⟩ := box_at (HRB.out _ oX) 1 (by simp)
  obtain ⟨c2, z2⟩ := box_at (HRB.out _ oX) 2 (by simp)
  simp only [List.getElem_toArray, List.getElem_cons_zero, List.getElem_cons_succ] at c0 c1 c2
  go_simp
  clear c0 c1 c2 z0 z1 z2
  refine hK.out _ _ (HST.out _ oX) (fun hHeld => ?_)
  clear hK K
  try simp only [Act.put, List.setIfInBounds_toArray, List.set_cons_zero, List.set_cons_succ]
  refine tkH 8 hHeld ?_
  refine tkH 9 hHeld ?_
  refine wpAnyH_done (by kernel_rfl) ?_ _
  have HFIN := HEND.out _ oX s1 s2 hs1 hs2
  have hdd := sets3_box (HRB.out _ oX) (.string s0) (.slice ta tl tc) (.slice oa ol oc)
  have e0 := (box_at hdd 0 (by simp)).1
  have e1 := (box_at hdd 1 (by simp)).1
  have e2 := (box_at hdd 2 (by simp)).1
  go_wp2_with fail
  exact bodyPost_ret (doResult _ _ w.heap.size (.string s0) (.slice ta tl tc) (.slice oa ol oc) (.string s1) (.string s2) rfl rfl rfl e0 e1 e2) rfl HFIN
end Go.Proofs.Ytdohgkokoicjlaa
namespace Go.Proofs.Ytdohgkokoicjlaa
open Go.RowKit
theorem below_grown {B : Nat} {a w w' : World} (h : Below B a w) (hg : w.grownBy w' none) (hB : B ≤ w.heap.size) : Below B a w' :=
  h.trans ⟨hg.os, hg.tape, hg.output, hg.size, fun k hk => hg.block k (by omega) (by simp)⟩
theorem nth_map (ns : List ByteArray) (j : Nat) (u : Value) (h : (ns.map Value.string)[j]? = some u) : j < ns.length ∧ u = .string (nth ns j) := by
  rw [List.getElem?_map] at h
  obtain ⟨b, hb, rfl⟩ := Option.map_eq_some_iff.1 h
  obtain ⟨hj, rfl⟩ := List.getElem?_eq_some_iff.1 hb
  exact ⟨hj, by simp [nth, List.getD_eq_getElem?_getD, hj]⟩
theorem frozen_cells {w : World} {g : Nat} {cur : Array Value} {e : TypeId} (h : w.heap[g]? = some (.cells cur e (0, 0))) (o : Nat) : w.frozen? ⟨g, o, none⟩ = false := by simp [World.frozen?, h]
theorem strs_ownedW {w : World} {base : Nat} {ns : List ByteArray} {g cap : Nat} (h : w.ownsRow base 9 1 (.slice (some ⟨g, 0, none⟩) ns.length cap) ns.length (ns.map Value.string)) (h2 : ∀ i, (nth ns i).size ≤ maxLen) (h3 : ns.length ≤ maxLen) (hlt : g < w.heap.size) :
    Strs w (fun b => base ≤ b ∧ b < w.heap.size) ns (some ⟨g, 0, none⟩) ∧ ns.length ≤ cap ∧ WStrs w base w.heap.size ns.length (some ⟨g, 0, none⟩) := by
  have hb : base ≤ g ∧ ns.length ≤ cap ∧ ∀ o, w.frozen? ⟨g, o, none⟩ = false := by
    rcases h.2 with ⟨h', _⟩ | ⟨g', cap', cur, h', hb, hh, hn, _⟩
    · simp at h'
    · simp only [Value.slice.injEq, Option.some.injEq, Addr.mk.injEq, and_true, true_and] at h'
      obtain ⟨rfl, rfl⟩ := h'
      exact ⟨hb, hn, frozen_cells hh⟩
  have hc : ∀ i, i < ns.length → w.cell? ⟨g, 0 + i, none⟩ = some (.string (nth ns i)) := fun i hi => by
    have := h.cellAt i (by omega)
    rw [Nat.zero_add, this, List.getElem?_map]
    simp [nth, List.getD_eq_getElem?_getD, hi]
  exact ⟨⟨fun _ => ⟨g, 0, rfl, ⟨hb.1, hlt⟩, hc⟩, h2, h3⟩, hb.2.1, fun _ => ⟨g, 0, rfl, hb.1, hlt, fun i hi => ⟨⟨_, hc i hi⟩, hb.2.2 _⟩⟩⟩
set_option maxHeartbeats 400000 in
theorem copyTexts_anyW (ns : List ByteArray) (a : Option Addr) (c : Nat) (w : World) (P : Nat → Prop) (hS : Strs w P ns a) (hb : 16 * ns.length ≤ 140737488355328) :
    Calls Try.prog 25 #[.slice a ns.length c] w fun e w' => ∃ (a' : Option Addr) (c' : Nat), e = .returned (.slice a' ns.length c') ∧ ns.length ≤ c' ∧ Below w.heap.size w w' ∧ Strs w' (fun b => w.heap.size ≤ b ∧ b < w'.heap.size) ns a' ∧ WStrs w' w.heap.size w'.heap.size ns.length a' := by
  obtain ⟨h1, h2, h3⟩ := hS
  obtain ⟨i0, hi, hz0, hz1, hz2⟩ := info_parts info9
  by_cases hn0 : ns.length = 0
  · have hns : ns = [] := by simpa using hn0
    subst hns
    cases a with
    | none =>
      go_enter Try.func25, Try.ntmps25
      go_wp2_with fail
      go_ret
      exact ⟨none, 0, rfl, by simp, Below.refl _ _, ⟨fun h => absurd rfl h, h2, h3⟩, fun h => by simp at h⟩
    | some ad =>
      go_enter Try.func25, Try.ntmps25
      go_wp2_with fail
      go_ret
      exact ⟨none, 0, rfl, by simp, Below.refl _ _, ⟨fun h => absurd rfl h, h2, h3⟩, fun h => by simp at h⟩
  · obtain ⟨b, off, rfl, _, hc⟩ := h1 (by intro e; simp [e] at hn0)
    clear h1
    go_enter Try.func25, Try.ntmps25
    go_wp2_with (at_builtin; refine wpList_append_lies _ rfl _ _ 35 rfl w.heap.size 9 i0 (.string ByteArray.empty) 1 16 Try.underlying35 hi hz0 hz1 hz2 rfl (by decide) (.slice none 0 0) 0 [] rfl (World.ownsRow_nil _ _ _ _) ⟨b, off, none⟩ ns.length c (ns.map Value.string) rfl (by simp) ?c1 ?c2 (by omega) ?c3 (by omega) (Nat.le_refl _) _ rfl ?_)
    case c1 =>
      intro j u hj
      obtain ⟨hj', rfl⟩ := nth_map ns j u hj
      rw [Addr.add_lit]
      exact hc j hj'
    case c2 => intro u hu; simp at hu; obtain ⟨x, -, rfl⟩ := hu; rfl
    case c3 => omega
    intro g cap w1 hown hgrow hat hlt
    go_wp2_with fail
    go_ret
    have hS := strs_ownedW (base := w.heap.size) (by simpa using hown) h2 h3 hlt
    exact ⟨_, cap, by simp, hS.2.1, below_grown (Below.refl _ _) hgrow (Nat.le_refl _), hS.1, hS.2.2⟩
end Go.Proofs.Ytdohgkokoicjlaa
namespace Go.Proofs.Ytdohgkokoicjlaa
open Go.RowKit
def fieldAns (p : Pt) (s f : ByteArray) : F := if okP p = true then (if 0 ≤ typeIx p s then fieldOr (typeOr p s) f else F.zero) else F.zero
def fieldOkB (p : Pt) (s f : ByteArray) : Bool := okP p && (decide (0 ≤ typeIx p s) && decide (0 ≤ fieldIx (typeOr p s) f))
theorem typeOr_sz (p : Pt) (s : ByteArray) (hz : szP p ≤ 1048576) : szFs (typeOr p s).fields ≤ 1048576 := by
  unfold typeOr
  split
  · refine fields_small _ ?_ _
    have : szP p = p.name.size + szTs p.types := rfl
    omega
  · decide
theorem fieldOr_needs (t : T) (f : ByteArray) (h : szFs t.fields ≤ 1048576) : (fieldOr t f).needs.length ≤ 1048576 := by
  unfold fieldOr
  split
  · exact needs_small _ h _
  · simp [F.zero]
def FieldNew (w w' : World) (f : F) (ok : Bool) (e : Ending) : Prop := ∃ (nm of : ByteArray) (l m fr hi sh : Bool) (na : Option Addr) (nc : Nat),
  e = .returned (.tuple #[.agg #[.string nm, .string of, .bool l, .bool m, .bool fr, .bool hi, .bool sh, .slice na f.needs.length nc], .bool ok]) ∧ Below w.heap.size w w' ∧
  FRep w' (fun b => w.heap.size ≤ b ∧ b < w'.heap.size) f (.agg #[.string nm, .string of, .bool l, .bool m, .bool fr, .bool hi, .bool sh, .slice na f.needs.length nc]) ∧ WStrs w' w.heap.size w'.heap.size f.needs.length na
theorem fieldResult (FW : World) (tmps : Array Value) (N : Nat) (ok : Bool) (v0 v1 v2 v3 v4 v5 v6 v7 : Value) (h6 : tmps.getD 6 undef = .pointer (some ⟨N, 0, none⟩)) (h7 : tmps.getD 7 undef = .bool ok)
    (d0 : FW.cell? ⟨N, 0, none⟩ = some v0) (d1 : FW.cell? ⟨N, 1, none⟩ = some v1) (d2 : FW.cell? ⟨N, 2, none⟩ = some v2) (d3 : FW.cell? ⟨N, 3, none⟩ = some v3) (d4 : FW.cell? ⟨N, 4, none⟩ = some v4) (d5 : FW.cell? ⟨N, 5, none⟩ = some v5) (d6 : FW.cell? ⟨N, 6, none⟩ = some v6) (d7 : FW.cell? ⟨N, 7, none⟩ = some v7) :
    (results Try.f11 tmps).run Try.prog FW = .ok (.tuple #[.agg #[v0, v1, v2, v3, v4, v5, v6, v7], .bool ok]) FW := by
  simp only [Array.getD_eq_getD_getElem?] at h6 h7
  simp [results, Try.results11, go_sem, h6, h7, d0, d1, d2, d3, d4, d5, d6, d7]
theorem WStrs.mono {w w' : World} {lo hi n : Nat} {a : Option Addr} (h : WStrs w lo hi n a) (e : ∀ b, lo ≤ b → b < hi → w'.heap[b]? = w.heap[b]?) : WStrs w' lo hi n a := fun hn => by
  obtain ⟨b, off, ha, h1, h2, hc⟩ := h hn
  refine ⟨b, off, ha, h1, h2, fun i hi => ?_⟩
  obtain ⟨⟨s, hs⟩, hf⟩ := hc i hi
  exact ⟨⟨s, (World.cell?_of_block (w := w) (a := ⟨b, off + i, none⟩) (e b h1 h2)).trans hs⟩, (World.frozen?_of_block (w := w) (e b h1 h2)).trans hf⟩
theorem WStrs.wide {w : World} {lo hi lo' hi' n : Nat} {a : Option Addr} (h : WStrs w lo hi n a) (h1 : lo' ≤ lo) (h2 : hi ≤ hi') : WStrs w lo' hi' n a := fun hn => by
  obtain ⟨b, off, ha, x1, x2, hc⟩ := h hn
  exact ⟨b, off, ha, by omega, by omega, hc⟩
set_option maxRecDepth 20000 in
set_option maxHeartbeats 3200000 in
theorem PartFieldI_any (p : Pt) (s f : ByteArray) (w : World) (B : Nat) (v : Value) (hP : PRep w (· < B) p v) (hB : B ≤ w.heap.size) (hz : szP p ≤ 1048576) :
    Calls Try.prog 11 #[v, .string s, .string f] w fun e w' => FieldNew w w' (fieldAns p s f) (fieldOkB p s f) e := by
  have hP' := hP
  have hfs := typeOr_sz p s hz
  have hfn := fieldOr_needs (typeOr p s) f hfs
  obtain ⟨pname, types⟩ := p
  obtain ⟨ta, tc, rfl, hK, hnc, hpn⟩ := hP
  simp only at hK hnc hpn hP'
  obtain ⟨X, hXe⟩ : ∃ X, X = ((w.alloc (.cells #[.string pname, .slice ta types.length tc] 25)).alloc (.cells #[.string ByteArray.empty, .string ByteArray.empty, .bool false, .bool false, .bool false, .bool false, .bool false, .slice none 0 0] 37)) := ⟨_, rfl⟩
  have PC : ∀ W, Below (w.heap.size + 1 + 1) X W → W.cell? ⟨w.heap.size, 0, none⟩ = some (.string pname) ∧ W.cell? ⟨w.heap.size, 1, none⟩ = some (.slice ta types.length tc) ∧ W.heap[w.heap.size + 1]? = some (.cells #[.string ByteArray.empty, .string ByteArray.empty, .bool false, .bool false, .bool false, .bool false, .bool false, .slice none 0 0] 37 (0, 0)) ∧ Below w.heap.size w W ∧ w.heap.size + 1 < W.heap.size := fun W h => by
    subst hXe
    have hz := h.size
    simp at hz
    have a : ∀ i (hi : i < 2), W.cell? ⟨w.heap.size, i, none⟩ = some #[Value.string pname, .slice ta types.length tc][i] := fun i hi => (h.cell (p := ⟨w.heap.size, i, none⟩) (by show w.heap.size < _; omega)).trans (((below_box _ _).cell (p := ⟨w.heap.size, i, none⟩) (by show w.heap.size < _; simp)).trans (box_new _ _ i (by simpa using hi)))
    have hb : W.heap[w.heap.size + 1]? = some (.cells #[.string ByteArray.empty, .string ByteArray.empty, .bool false, .bool false, .bool false, .bool false, .bool false, .slice none 0 0] 37 (0, 0)) := (h.block (w.heap.size + 1) (by omega)).trans (by have := heap_alloc_new (w.alloc (.cells #[.string pname, .slice ta types.length tc] 25)) (.cells #[.string ByteArray.empty, .string ByteArray.empty, .bool false, .bool false, .bool false, .bool false, .bool false, .slice none 0 0] 37); simpa using this)
    exact ⟨a 0 (by omega), a 1 (by omega), hb, (below_box2 w _ _).trans (h.mono (by omega)), by omega⟩
  have hT0 : Below (w.heap.size + 1 + 1) X ((w.alloc (.cells #[.string pname, .slice ta types.length tc] 25)).alloc (.cells #[.string ByteArray.empty, .string ByteArray.empty, .bool false, .bool false, .bool false, .bool false, .bool false, .slice none 0 0] 37)) := by rw [hXe]; exact Below.refl _ _
  clear hXe
  have hBW := fun W (h : Below (w.heap.size + 1 + 1) X W) => show B ≤ W.heap.size by have := (PC W h).2.2.2.2; omega
  have hC := fun W h => checkPart_any ⟨pname, types⟩ W B _ (hP'.under ((PC W h).2.2.2.1.mono hB)) (hBW W h) hz
  have hF := fun W h => findType_any ⟨pname, types⟩ W B _ s (hP'.under ((PC W h).2.2.2.1.mono hB)) (hBW W h)
  cases ho : okP ⟨pname, types⟩
  · have HA : Hid (fieldAns ⟨pname, types⟩ s f = F.zero ∧ fieldOkB ⟨pname, types⟩ s f = false) := ⟨by rw [fieldAns, if_neg (by rw [ho]; simp)], by rw [fieldOkB, ho]; rfl⟩
    rcases partErr_bad _ ho with ⟨x, hx⟩ | ⟨i, x, hx⟩ <;> rw [hx] at hC
    all_goals
      clear hF hfs hfn
      go_enter Try.func11, Try.ntmps11
      go_wp2_with (
        go_at_call 20
        refine (hC _ hT0).mono ?_
        rintro e w1 ⟨rfl, hb1⟩
        have hT1 := hT0.trans (hb1.mono (by simp))
        obtain ⟨q0, q1, hbx, hw1, hz1⟩ := PC w1 hT1
        obtain ⟨a0, b0⟩ := box_at hbx 0 (by simp)
        obtain ⟨a1, b1⟩ := box_at hbx 1 (by simp)
        obtain ⟨a2, b2⟩ := box_at hbx 2 (by simp)
        obtain ⟨a3, b3⟩ := box_at hbx 3 (by simp)
        obtain ⟨a4, b4⟩ := box_at hbx 4 (by simp)
        obtain ⟨a5, b5⟩ := box_at hbx 5 (by simp)
        obtain ⟨a6, b6⟩ := box_at hbx 6 (by simp)
        obtain ⟨a7, b7⟩ := box_at hbx 7 (by simp))
      obtain ⟨d0, d1, d2, d3, d4, d5, d6, d7⟩ := sets_cells hbx rfl (.string ⟨#[]⟩) (.string ⟨#[]⟩) (.bool false) (.bool false) (.bool false) (.bool false) (.bool false) (.slice none 0 0) _ rfl
      refine bodyPost_ret (fieldResult _ _ (w.heap.size + 1) false (.string ⟨#[]⟩) (.string ⟨#[]⟩) (.bool false) (.bool false) (.bool false) (.bool false) (.bool false) (.slice none 0 0) rfl rfl d0 d1 d2 d3 d4 d5 d6 d7) rfl ?_
      rw [HA.out.1, HA.out.2]
      exact ⟨_, _, _, _, _, _, _, _, _, rfl, below_sets hw1 (Nat.le_succ _) _ _ _ _ _ _ _ _, FRep.zero _ _, fun h => by simp [F.zero] at h⟩
  have HO : Hid (okP ⟨pname, types⟩ = true) := ho
  rw [partErr_ok _ ho] at hC
  cases hx : decide (0 ≤ typeIx ⟨pname, types⟩ s)
  · have HA : Hid (fieldAns ⟨pname, types⟩ s f = F.zero ∧ fieldOkB ⟨pname, types⟩ s f = false) := ⟨by rw [fieldAns, if_pos HO.out, if_neg (by simpa using hx)], by rw [fieldOkB, hx]; simp⟩
    rw [hx] at hF
    clear hfs hfn ho
    go_enter Try.func11, Try.ntmps11
    go_wp2_with (first
      | (
        go_at_call 20
        refine (hC _ hT0).mono ?_
        rintro e w1 ⟨rfl, hb1⟩
        have hT1 := hT0.trans (hb1.mono (by simp))
        obtain ⟨q0, q1, -, hw1, hz1⟩ := PC w1 hT1)
      | (
        go_at_call 23
        refine (hF w1 hT1).mono ?_
        rintro e w2 ⟨tn, tk, fa, fl, fc, rfl, hb2, -⟩
        have hT2 := hT1.trans (hb2.mono (by omega))
        obtain ⟨-, -, hbx, hw2, hz2⟩ := PC w2 hT2
        obtain ⟨a0, b0⟩ := box_at hbx 0 (by simp)
        obtain ⟨a1, b1⟩ := box_at hbx 1 (by simp)
        obtain ⟨a2, b2⟩ := box_at hbx 2 (by simp)
        obtain ⟨a3, b3⟩ := box_at hbx 3 (by simp)
        obtain ⟨a4, b4⟩ := box_at hbx 4 (by simp)
        obtain ⟨a5, b5⟩ := box_at hbx 5 (by simp)
        obtain ⟨a6, b6⟩ := box_at hbx 6 (by simp)
        obtain ⟨a7, b7⟩ := box_at hbx 7 (by simp)))
    obtain ⟨d0, d1, d2, d3, d4, d5, d6, d7⟩ := sets_cells hbx rfl (.string ⟨#[]⟩) (.string ⟨#[]⟩) (.bool false) (.bool false) (.bool false) (.bool false) (.bool false) (.slice none 0 0) _ (Below.heap_alloc _ (.cells #[.string tn, .string tk, .slice fa fl fc] 48) _ (by rw [sets_size]; omega))
    refine bodyPost_ret (fieldResult _ _ (w.heap.size + 1) false (.string ⟨#[]⟩) (.string ⟨#[]⟩) (.bool false) (.bool false) (.bool false) (.bool false) (.bool false) (.slice none 0 0) rfl rfl d0 d1 d2 d3 d4 d5 d6 d7) rfl ?_
    rw [HA.out.1, HA.out.2]
    exact ⟨_, _, _, _, _, _, _, _, _, rfl, (below_sets hw2 (Nat.le_succ _) _ _ _ _ _ _ _ _).alloc (by rw [sets_size]; omega) _, FRep.zero _ _, fun h => by simp [F.zero] at h⟩
  have HA : Hid (fieldAns ⟨pname, types⟩ s f = fieldOr (typeOr ⟨pname, types⟩ s) f ∧ fieldOkB ⟨pname, types⟩ s f = decide (0 ≤ fieldIx (typeOr ⟨pname, types⟩ s) f)) := ⟨by rw [fieldAns, if_pos HO.out, if_pos (by simpa using hx)], by rw [fieldOkB, hx, HO.out]; rfl⟩
  rw [hx] at hF
  clear ho hfs
  generalize typeOr ⟨pname, types⟩ s = tt at *
  go_enter Try.func11, Try.ntmps11
  go_wp2_with (first
    | (
      go_at_call 20
      refine (hC _ hT0).mono ?_
      rintro e w1 ⟨rfl, hb1⟩
      have hT1 := hT0.trans (hb1.mono (by simp))
      obtain ⟨q0, q1, -, hw1, hz1⟩ := PC w1 hT1)
    | (
      go_at_call 23
      refine (hF w1 hT1).mono ?_
      rintro e w2 ⟨tn, tk, fa, fl, fc, rfl, hb2, htr⟩
      have hT2 := hT1.trans (hb2.mono (by omega))
      obtain ⟨-, -, -, hw2, hz2⟩ := PC w2 hT2))
  have hT3 := hT2.alloc (by omega) (.cells #[.string tn, .string tk, .slice fa fl fc] 48)
  refine (findField_any tt (w2.alloc (.cells #[.string tn, .string tk, .slice fa fl fc] 48)) B _ f (htr.under ((below_box w2 _).mono (by omega))) (by simp; omega)).mono ?_
  rintro e w3 ⟨nm, of, l, m, fr, hi, sh, na, nl, nc, rfl, hb3, hfr⟩
  have hT4 := hT3.trans (hb3.mono (by simp; omega))
  obtain ⟨-, -, -, hw3, hz3⟩ := PC w3 hT4
  have hB3 := hBW w3 hT4
  have hfr' := hfr
  obtain ⟨na', nc', hv, hS, hcap, hs0, hs1, h16⟩ := hfr
  simp only [Value.agg.injEq, Array.mk.injEq, List.cons.injEq, Value.string.injEq, Value.bool.injEq, Value.slice.injEq, and_true] at hv
  obtain ⟨rfl, rfl, rfl, rfl, rfl, rfl, rfl, rfl, rfl, rfl⟩ := hv
  generalize fieldOr tt f = ff at *
  go_wp2_with fail
  have hal := heap_alloc_new w3 (.cells #[.string ff.name, .string ff.of, .bool ff.list, .bool ff.must, .bool ff.far, .bool ff.hidden, .bool ff.shared, .slice na ff.needs.length nc] 37)
  have hsa : (w3.alloc (.cells #[.string ff.name, .string ff.of, .bool ff.list, .bool ff.must, .bool ff.far, .bool ff.hidden, .bool ff.shared, .slice na ff.needs.length nc] 37)).heap.size = w3.heap.size + 1 := by simp
  refine (copyTexts_anyW ff.needs na nc (w3.alloc (.cells #[.string ff.name, .string ff.of, .bool ff.list, .bool ff.must, .bool ff.far, .bool ff.hidden, .bool ff.shared, .slice na ff.needs.length nc] 37)) (· < B) (hS.mono fun k hk => Below.heap_alloc _ _ _ (by omega)) (by omega)).mono ?_
  rintro e w4 ⟨a', c', rfl, hc4, hb4, hS4, hW4⟩
  have hT5 := (hT4.alloc (by omega) (.cells #[.string ff.name, .string ff.of, .bool ff.list, .bool ff.must, .bool ff.far, .bool ff.hidden, .bool ff.shared, .slice na ff.needs.length nc] 37)).trans (hb4.mono (by rw [hsa]; omega))
  obtain ⟨-, -, hbx4, hw4, hz4⟩ := PC w4 hT5
  have hz4' := hb4.size
  rw [hsa] at hz4' hb4 hS4 hW4
  have hF4 := (hb4.block w3.heap.size (by omega)).trans hal
  have hbx : (w4.setCell ⟨w3.heap.size, 7, none⟩ (.slice a' ff.needs.length c')).heap[w.heap.size + 1]? = some (.cells #[.string ByteArray.empty, .string ByteArray.empty, .bool false, .bool false, .bool false, .bool false, .bool false, .slice none 0 0] 37 (0, 0)) := (Below.heap_setCell _ _ _ _ (by show w.heap.size + 1 ≠ w3.heap.size; omega)).trans hbx4
  obtain ⟨g7, z7⟩ := box_at hF4 7 (by simp)
  have hg : ∀ j, j < 7 → (w4.setCell ⟨w3.heap.size, 7, none⟩ (.slice a' ff.needs.length c')).cell? ⟨w3.heap.size, j, none⟩ = w4.cell? ⟨w3.heap.size, j, none⟩ := fun j hj => World.cell?_setCell_other _ _ _ _ (by intro e; simp only [Addr.mk.injEq] at e; omega)
  have c0 := (hg 0 (by omega)).trans (box_at hF4 0 (by simp)).1
  have c1 := (hg 1 (by omega)).trans (box_at hF4 1 (by simp)).1
  have c2 := (hg 2 (by omega)).trans (box_at hF4 2 (by simp)).1
  have c3 := (hg 3 (by omega)).trans (box_at hF4 3 (by simp)).1
  have c4 := (hg 4 (by omega)).trans (box_at hF4 4 (by simp)).1
  have c5 := (hg 5 (by omega)).trans (box_at hF4 5 (by simp)).1
  have c6 := (hg 6 (by omega)).trans (box_at hF4 6 (by simp)).1
  have c7 : (w4.setCell ⟨w3.heap.size, 7, none⟩ (.slice a' ff.needs.length c')).cell? ⟨w3.heap.size, 7, none⟩ = some (.slice a' ff.needs.length c') := World.cell?_setCell_same _ _ _ g7
  simp only [List.getElem_toArray, List.getElem_cons_succ, List.getElem_cons_zero] at c0 c1 c2 c3 c4 c5 c6 g7
  obtain ⟨a0, b0⟩ := box_at hbx 0 (by simp)
  obtain ⟨a1, b1⟩ := box_at hbx 1 (by simp)
  obtain ⟨a2, b2⟩ := box_at hbx 2 (by simp)
  obtain ⟨a3, b3⟩ := box_at hbx 3 (by simp)
  obtain ⟨a4, b4⟩ := box_at hbx 4 (by simp)
  obtain ⟨a5, b5⟩ := box_at hbx 5 (by simp)
  obtain ⟨a6, b6⟩ := box_at hbx 6 (by simp)
  obtain ⟨a7, b7⟩ := box_at hbx 7 (by simp)
  have HB : Hid ((w4.setCell ⟨w3.heap.size, 7, none⟩ (.slice a' ff.needs.length c')).heap[w.heap.size + 1]? = some (.cells #[.string ByteArray.empty, .string ByteArray.empty, .bool false, .bool false, .bool false, .bool false, .bool false, .slice none 0 0] 37 (0, 0))) := hbx
  clear hg hF4 hal hbx hbx4 hT5 hT4 hT3 hT2 hT1 hT0
  go_wp2_with fail
  obtain ⟨d0, d1, d2, d3, d4, d5, d6, d7⟩ := sets_cells HB.out rfl (.string ff.name) (.string ff.of) (.bool ff.list) (.bool ff.must) (.bool ff.far) (.bool ff.hidden) (.bool ff.shared) (.slice a' ff.needs.length c') _ rfl
  refine bodyPost_ret (fieldResult _ _ (w.heap.size + 1) (decide (0 ≤ fieldIx tt f)) (.string ff.name) (.string ff.of) (.bool ff.list) (.bool ff.must) (.bool ff.far) (.bool ff.hidden) (.bool ff.shared) (.slice a' ff.needs.length c') rfl rfl d0 d1 d2 d3 d4 d5 d6 d7) rfl ?_
  rw [HA.out.1, HA.out.2]
  have hblk : ∀ (k : Nat), w3.heap.size + 1 ≤ k → ∀ v0 v1 v2 v3 v4 v5 v6 v7, ((((((((((w4.setCell ⟨w3.heap.size, 7, none⟩ (.slice a' ff.needs.length c')).setCell ⟨w.heap.size + 1, 0, none⟩ v0).setCell ⟨w.heap.size + 1, 1, none⟩ v1).setCell ⟨w.heap.size + 1, 2, none⟩ v2).setCell ⟨w.heap.size + 1, 3, none⟩ v3).setCell ⟨w.heap.size + 1, 4, none⟩ v4).setCell ⟨w.heap.size + 1, 5, none⟩ v5).setCell ⟨w.heap.size + 1, 6, none⟩ v6).setCell ⟨w.heap.size + 1, 7, none⟩ v7)).heap[k]? = w4.heap[k]? := fun k hk v0 v1 v2 v3 v4 v5 v6 v7 =>
    (sets_block (by omega) _ _ _ _ _ _ _ _ _).trans (Below.heap_setCell _ _ _ _ (by show k ≠ w3.heap.size; omega))
  refine ⟨_, _, _, _, _, _, _, _, _, rfl, below_sets (hw4.setCell (by show w.heap.size ≤ w3.heap.size; omega) _) (Nat.le_succ _) _ _ _ _ _ _ _ _, ⟨a', c', rfl, (hS4.mono fun k hk => hblk k hk.1 _ _ _ _ _ _ _ _).sub fun k hk => ?_, hc4, hs0, hs1, h16⟩, (hW4.mono fun k h1 h2 => hblk k h1 _ _ _ _ _ _ _ _).wide (by omega) ?_⟩
  · rw [sets_size, size_set]; omega
  · rw [sets_size, size_set]; omega
end Go.Proofs.Ytdohgkokoicjlaa
namespace Go.Proofs.Ytdohgkokoicjlaa
open Go.RowKit
theorem ints_none (w : World) (a : Option Addr) (lo hi : Nat) : WInts w lo hi ([] : List Int).length a := fun h => by simp at h
set_option maxHeartbeats 1600000 in
theorem ChartOwnerS_any (c : Ch) (s f : ByteArray) (w : World) (B : Nat) (v : Value) (hR : CRep w (· < B) c v) (hB : B ≤ w.heap.size) (hz : szC c ≤ 1048576) :
    Calls Try.prog 8 #[v, .string s, .string f] w fun e w' => IntsNew w w' (ownL c.owners s f) e := by
  obtain ⟨ta, oa, tc, oc, rfl, hP, hO, hoc⟩ := hR
  obtain ⟨⟨name, types⟩, owners⟩ := c
  simp only at hP hO hoc ⊢
  have hps := parts_small owners (by have : szC ⟨⟨name, types⟩, owners⟩ = szP ⟨name, types⟩ + szOs owners := rfl; omega)
  obtain ⟨h3, C, hA, hr⟩ := hO
  obtain ⟨i0, hi, hz0, hz1, hz2⟩ := info_parts info3
  clear hP
  go_enter Try.func8, Try.ntmps8
  go_wp2_with fail
  obtain ⟨W, hW⟩ : ∃ x, x = (w.alloc (.cells #[.string name, .slice ta types.length tc, .slice oa owners.length oc] 28)) := ⟨_, rfl⟩
  have bW : Below w.heap.size w W := by rw [hW]; exact below_box _ _
  have zW : w.heap.size < W.heap.size := by rw [hW]; simp
  have p2 : W.cell? ⟨w.heap.size, 2, none⟩ = some (.slice oa owners.length oc) := by rw [hW]; exact boxNew _ _ 2 (by simp)
  rw [← hW]
  clear hW
  go_loopw [7] (fun i wr => ∃ k : Nat, k ≤ owners.length ∧ i = .int .i64 k ∧ wr = W ∧ ∀ j, j < k → hitO owners s f j = false) (fun i _ => owners.length - (intOf i).toNat)
  case atStart => exact ⟨0, Nat.zero_le _, rfl, rfl, fun j hj => by omega⟩
  case round =>
    obtain ⟨k, hk, rfl, rfl, hno⟩ := hrel
    have HNO : Hid (∀ j, j < k → hitO owners s f j = false) := hno
    clear hno
    by_cases hlt : k < owners.length
    · have hki : (k : Int) < (owners.length : Int) := by omega
      obtain ⟨b, off, rfl, hbB, hc⟩ := hA (by omega)
      obtain ⟨fa, fc, e0, e1, e2, hI, -⟩ := (hr k hlt).pieces
      have hck : ∀ j, j < 3 → wr.cell? ⟨b, off + k * 3 + j, none⟩ = some (C k j) := fun j hj => (bW.cell (p := ⟨b, off + k * 3 + j, none⟩) (by show b < _; omega)).trans (hc k hlt j hj)
      have hc0 : wr.cell? ⟨b, off + k * 3, none⟩ = some (C k 0) := hck 0 (by omega)
      have hc1 : wr.cell? ⟨b, off + k * 3 + 1, none⟩ = some (C k 1) := hck 1 (by omega)
      have hc2 : wr.cell? ⟨b, off + k * 3 + 2, none⟩ = some (C k 2) := hck 2 (by omega)
      rw [e0] at hc0
      rw [e1] at hc1
      rw [e2] at hc2
      have hpk := hps k
      have HH : Hid (hitO owners s f k = ((oth owners k).type.toList == s.toList && (oth owners k).field.toList == f.toList)) := rfl
      clear hck hc hA hr e0 e1 e2
      cases h1 : ((oth owners k).type.toList == s.toList)
      · go_wp2_with fail
        go_roundw
        case rel => exact ⟨k + 1, by omega, by go_num, trivial, fun j hj => by
          by_cases e : j = k
          · rw [e, HH.out, h1]; rfl
          · exact HNO.out j (by omega)⟩
        case measure => simp [intOf]; omega
      · cases h2 : ((oth owners k).field.toList == f.toList)
        · go_wp2_with fail
          go_roundw
          case rel => exact ⟨k + 1, by omega, by go_num, trivial, fun j hj => by
            by_cases e : j = k
            · rw [e, HH.out, h1, h2]; rfl
            · exact HNO.out j (by omega)⟩
          case measure => simp [intOf]; omega
        · have HE : Hid (ownL owners s f = (oth owners k).parts) := ownL_hit HNO.out (by rw [HH.out, h1, h2]; rfl) hlt
          have bx := below_box wr (.cells #[] 3)
          have hc2x := (bx.cell (p := ⟨b, off + k * 3 + 2, none⟩) (by show b < _; omega)).trans hc2
          have p2x := (bx.cell (p := ⟨w.heap.size, 2, none⟩) (by show w.heap.size < _; omega)).trans p2
          have hw0 : Hid ((wr.alloc (.cells #[] 3)).ownsRow wr.heap.size 3 1 (.slice (some ⟨wr.heap.size, 0, none⟩) 0 0) 0 []) := ⟨rfl, .inr ⟨_, 0, #[], rfl, Nat.le_refl _, heap_alloc_new _ _, Nat.le_refl _, by simp, rfl, rfl⟩⟩
          by_cases hn0 : (oth owners k).parts.length = 0
          · have hns : (oth owners k).parts = [] := by simpa using hn0
            rw [hn0] at hc2 hc2x
            cases fa
            all_goals
              go_wp2_with fail
              go_ret
              exact ⟨_, _, by rw [HE.out, hns]; rfl, bW.trans (bx.mono (by omega)), by rw [HE.out, hns]; exact Ints.nil _ _ _, by rw [HE.out, hns]; exact ints_none _ _ _ _⟩
          · obtain ⟨b', off', rfl, hbB', hcc⟩ := hI.2 (by omega)
            have hcx : ∀ i, i < (oth owners k).parts.length → (wr.alloc (.cells #[] 3)).cell? ⟨b', off' + i, none⟩ = some (.int .i64 (ith (oth owners k).parts i)) := fun i hi => (bx.cell (p := ⟨b', off' + i, none⟩) (by show b' < _; omega)).trans ((bW.cell (p := ⟨b', off' + i, none⟩) (by show b' < _; omega)).trans (hcc i hi))
            clear hcc
            go_wp2_with (at_builtin; refine wpList_append_lies _ rfl _ _ 31 rfl wr.heap.size 3 i0 (.int .i64 0) 1 8 Try.underlying31 hi hz0 hz1 hz2 rfl (by decide) (.slice (some ⟨wr.heap.size, 0, none⟩) 0 0) 0 [] rfl hw0.out ⟨b', off', none⟩ (oth owners k).parts.length fc ((oth owners k).parts.map (Value.int .i64)) rfl (by simp) ?c1 ?c2 (by omega) ?c3 (by omega) (by simp) _ rfl ?_)
            case c1 =>
              intro j u hj
              obtain ⟨hj', rfl⟩ := ith_map _ j u hj
              rw [Addr.add_lit]
              exact hcx j hj'
            case c2 => intro u hu; simp at hu; obtain ⟨x, -, rfl⟩ := hu; rfl
            case c3 => unfold maxLen; omega
            intro g cap w1 hown hgrow hat hlt1
            have hbw := Below.grown (Below.refl wr.heap.size (wr.alloc (.cells #[] 3))) hgrow (by simp) (fun k hk => by simp [Value.ownBlock] at hk; omega)
            go_wp2_with fail
            go_ret
            have hS := ints_owned (base := wr.heap.size) (by simpa using hown) hI.1 hlt1
            refine ⟨some ⟨g, 0, none⟩, cap, ?_, (bW.trans (bx.mono (by omega))).trans (hbw.mono (by omega)), ?_, ?_⟩
            · rw [HE.out]; simp
            · rw [HE.out]; exact hS.1.sub fun x hx => by omega
            · rw [HE.out]; intro h0; obtain ⟨b2, o2, q1, q2, q3, q4⟩ := hS.2 h0; exact ⟨b2, o2, q1, by omega, q3, q4⟩
    · go_wp2_with fail
      go_ret
      have e : k = owners.length := by omega
      subst e
      have HE : ownL owners s f = [] := ownL_none HNO.out
      exact ⟨_, _, by rw [HE]; rfl, bW.trans ((below_box wr _).mono (by omega)), by rw [HE]; exact Ints.nil _ _ _, by rw [HE]; exact ints_none _ _ _ _⟩
end Go.Proofs.Ytdohgkokoicjlaa
