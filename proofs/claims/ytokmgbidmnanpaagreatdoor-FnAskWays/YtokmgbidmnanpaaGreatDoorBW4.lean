import Derived.Test.YtokmgbidmnanpaaGreatDoorB40
import Derived.Test.YtokmgbidmnanpaaGreatDoorBW1
import Derived.Test.YtokmgbidmnanpaaGreatDoorBW2
set_option linter.unusedSimpArgs false
set_option linter.unusedVariables false
namespace Go.Proofs.YtokmgbidmnanpaaGreatDoor
open Go.RowKit Go.Shelf Go.Maps
def LessEnd (w : World) (e : Ending) (w' : World) : Prop := ∃ (ks : List Se) (a : Option Addr) (c : Nat) (wy : ByteArray), e = .returned (.tuple #[.slice a ks.length c, .string wy]) ∧ SA w' w.heap.size ks a ∧ Tr 3 5 ks ∧ wy.size ≤ 1000 ∧ Below w.heap.size w w'
theorem of_four (W : World) (rb cb q : Nat) (hR : RdOk W rb cb q) (hq : q ≤ 100000) : Calls Tryz.prog 57 #[.pointer (some ⟨rb, 0, none⟩), .slice (some ⟨W.heap.size, 0, none⟩) 4 4] (W.alloc (.cells #[.string ⟨#[]⟩, .string ⟨#[120]⟩, .string ⟨#[117, 115, 101, 114, 115, 47, 120]⟩, .string ⟨#[47]⟩] 9)) fun e w' => ∃ s : ByteArray, e = .returned (.string s) ∧ s.size ≤ 12 ∧ Only (· = rb) W w' :=
  (of_block _ rb cb q W.heap.size (hR.only (Only.of_below (fun _ => False) (below_box _ _)) id id) hq [⟨#[]⟩, ⟨#[120]⟩, ⟨#[117, 115, 101, 114, 115, 47, 120]⟩, ⟨#[47]⟩] (by simp) (by simp) (by intro s hs; simp at hs; rcases hs with rfl | rfl | rfl | rfl <;> decide) (block_new _ _ rfl) (by have := hR.lt; omega)).mono fun e w' h => by
    obtain ⟨s, h1, h2, -, h4⟩ := h
    exact ⟨s, h1, h2, (Only.of_below (· = rb) (below_box _ _)).trans h4 fun _ _ q => q⟩
set_option maxRecDepth 20000 in
set_option maxHeartbeats 3200000 in
theorem DrawAskLess_any (w : World) (cb n : Nat) (v : Value) (h : CodeOk w cb v n) (hn : n ≤ 1048576) :
    Calls Tryz.prog 19 #[v] w (LessEnd w) := by
  have HOP := hid_of (l1Open_any w cb n v h hn)
  clear h
  go_enter Tryz.func19, Tryz.ntmps19
  go_upto_region 2 with (
    go_at_call 52
    refine HOP.out.mono ?_
    rintro e w1 ⟨rb, rfl, hrb, hR, b1⟩)
  have HPT := hid_of (l11Parts_any w1 rb cb 0 hR (by omega))
  have HB1 := hid_of b1
  have HRB := hid_of hrb
  have HAL := hid_of (all_of_parts w1 rb cb)
  clear HOP hR b1 hrb
  go_upto_region 3 with (
    first
      | (
        go_at_call 55
        refine HPT.out.mono ?_
        rintro e w2 ⟨m, σ, c, q, pb, pc, ps, rfl, hm1, hm3, hc, hq, hP⟩
        have HP := hid_of hP
        have HA := hid_of (HAL.out w2 σ c q pb pc ps m hP hm3 hc)
        clear hP)
      | (
        go_at_call 54
        refine HA.out.mono ?_
        rintro e w3 ⟨p, v3, rfl, hPR, hz, hF, h0, b3⟩
        have HR3 := hid_of (HP.out.rd.only (Only.of_below (fun _ => False) b3) id id)
        have HO3 := hid_of (HP.out.only.trans (Only.of_below (· = rb) b3) fun _ _ q => q)
        have HK := hid_of (l11Ask_any w3 rb cb q p (fun b => b < w3.heap.size ∧ b ≠ rb) v3 HR3.out (by rw [pkN5]; omega) hPR (fun b hb => hb) hF hz h0)
        clear hPR b3)
      | (
        go_at_call 53
        refine HK.out.mono ?_
        rintro e w4 ⟨ks, ka, kc, q4, rfl, hSA, r4, hq4, o4, hSO⟩))
  have hz4 := o4.size
  have HO4 := hid_of (HO3.out.trans o4 fun _ _ q => q)
  have HS4 := hid_of hSA
  have HR4 := hid_of r4
  rw [pkN5] at hq4
  have hr1 : rb < w1.heap.size := HP.out.rlt
  have hw13 : w1.heap.size ≤ w3.heap.size := HO3.out.size
  have hww : w.heap.size ≤ w3.heap.size := by have := HB1.out.size; omega
  have HFT := hid_of (Tr.fit (m := 3) hSO)
  have HT := hid_of hSO
  have HWS := hid_of (AskWaysS_any 5 ks w4 w4.heap.size ka kc (Tr.fit (m := 3) hSO) (Tr.small (m := 3) (d := 5) hSO 5) (by omega) hSA.old (Nat.le_refl _))
  have HBW : Hid (∀ W, Only (· = rb) w1 W → Below w.heap.size w W) := hid_of fun W hW => HB1.out.trans (hW.below HB1.out.size fun b hb e => by have := HRB.out; omega)
  clear hSA r4 o4 HPT HAL HA HK hSO
  go_wp2_with fail
  refine HWS.out.mono ?_
  rintro e w5 ⟨ts, wv, rfl, ⟨g, cap, rfl, hown⟩, hts, b5⟩
  have HR5 := hid_of (HR4.out.only (Only.of_below (fun _ => False) b5) id id)
  have HO5 := hid_of (HO4.out.trans (Only.of_below (· = rb) b5) fun _ _ q => q)
  have HS5 := hid_of (HS4.out.below b5)
  have hz5 := b5.size
  have HFIN : Hid (∀ W (s : ByteArray), Only (· = rb) w5 W → s.size ≤ 1000 → LessEnd w (.returned (.tuple #[.slice ka ks.length kc, .string s])) W) := hid_of fun W s hW hs => ⟨ks, ka, kc, s, rfl, (HS5.out.keep (fun b hb hb2 => hW.block b hb2 (by omega)) hW.size).low hww, HT.out, hs, HBW.out W (HO5.out.trans hW fun _ _ q => q)⟩
  have hg := hown.lt g rfl
  have hgr : g ≠ rb := by omega
  have HSZ : Hid (∀ i, i < ts.length → (nth ts i).size ≤ 1000) := hid_of fun i hi => by
    have hm : (nth ts i).toList ∈ askWays 5 ks := by
      rw [← hts]
      exact List.mem_map.2 ⟨_, by simp [nth, List.getD_eq_getElem?_getD, hi], rfl⟩
    have h := askWays_small HFT.out _ hm
    rw [toList_len] at h
    omega
  have HCL : Hid (∀ W, Only (· = rb) w5 W → ∀ i, i < ts.length → W.cell? ⟨g, i, none⟩ = some (.string (nth ts i))) := hid_of fun W hW i hi => by
    have h := hown.cellAt i (by omega)
    have e : ((ts.map Value.string)[i]?) = some (.string (nth ts i)) := by simp [nth, List.getD_eq_getElem?_getD, hi]
    rw [e] at h
    exact (World.cell?_of_block (a := ⟨g, i, none⟩) (hW.block g hg.2 hgr)).trans h
  have htl : ts.length ≤ 1000000 := by
    have h1 := congrArg List.length hts
    rw [List.length_map] at h1
    have h2 := HT.out.cnt 5
    have h3 : trN 3 5 = 363 := by decide
    by_cases hk : askOk 5 ks = true
    · have h4 := (askOk_facts HFT.out hk).2.1
      omega
    · unfold askWays at h1
      rw [if_neg hk] at h1
      simp only [List.length_nil] at h1
      omega
  clear HWS hown hts b5 HS4 HR4 HO4 HT
  obtain ⟨nt, hnt⟩ : ∃ x, x = ts.length := ⟨_, rfl⟩
  rw [← hnt] at HSZ HCL htl ⊢
  clear hnt
  by_cases hn0 : nt = 0
  · subst hn0
    have HOF := hid_of (of_four w5 rb cb q4 HR5.out (by omega))
    go_wp2_with (
      go_at_call 57
      refine HOF.out.mono ?_
      rintro e w6 ⟨s, rfl, hs, o6⟩)
    go_ret2
    exact HFIN.out w6 s o6 (by omega)
  have hn0i : (0 : Int) < (nt : Int) := by omega
  have hn0n : 0 < nt := by omega
  have HPK := hid_of (pick_any w5 rb cb q4 6 HR5.out (by omega) (by omega) (by omega))
  go_upto_if 23 with (
    go_at_call 56
    refine HPK.out.mono ?_
    rintro e w6 ⟨x, rfl, hx, r6, o6, z6⟩)
  have HR6 := hid_of r6
  have HO6 := hid_of o6
  clear r6 o6 HPK hx z6
  by_cases hx0 : x = 0
  · subst hx0
    have HOF := hid_of (of_four w6 rb cb (q4 + 1) HR6.out (by omega))
    go_wp2_with (
      go_at_call 57
      refine HOF.out.mono ?_
      rintro e w7 ⟨s, rfl, hs, o7⟩)
    go_ret2
    exact HFIN.out w7 s (HO6.out.trans o7 fun _ _ q => q) (by omega)
  · have hx0i : (0 : Int) < (x : Int) := by omega
    have hx0n : 0 < x := by omega
    have HPK := hid_of (pick_any w6.drew rb cb (q4 + 1) nt (HR6.out.only (Only.of_below (fun _ => False) (Below.refl _ _).drew) id id) (by omega) (by omega) (by omega))
    go_wp2_with fail
    go_region_with (
      go_at_call 56
      refine HPK.out.mono ?_
      rintro e w7 ⟨y, rfl, hy, r7, o7, z7⟩
      have o57 := (HO6.out.trans (Only.of_below (· = rb) (Below.refl _ _).drew) fun _ _ q => q).trans o7 fun _ _ q => q
      have hyl : y < nt := (by omega)
      have hyi : (y : Int) < (nt : Int) := (by omega)
      have cy := HCL.out w7 o57 y hyl)
    go_wp2_with fail
    go_ret2
    exact HFIN.out w7 _ o57 (HSZ.out y hyl)
end Go.Proofs.YtokmgbidmnanpaaGreatDoor
