/-
  The program's own copies: copyValue.
-/
import Derived.Test.YtmbnpcgaomjhdaaSOwn
import Derived.Deep.RegionHeld3
import Derived.Deep.DeepCutAuto
namespace Go.Proofs.Ytmbnpcgaomjhdaa
set_option linter.unusedSimpArgs false
set_option linter.unusedVariables false
open Go.RowKit

/-- What copyValue does. -/
def CvOk (f : Nat) : Prop := ∀ (x : V) (w : World) (B : Nat) (v : Value), fit f x → Rep w (· < B) x v → B ≤ w.heap.size →
  Calls Try.prog 34 #[v] w fun e w' => ∃ (s n : Int) (t : ByteArray) (na ka : Option Addr) (nl nc kl kc : Nat), e = .returned (.agg #[.int .i64 s, .int .i64 n, .string t, .slice na nl nc, .slice ka kl kc]) ∧ Below w.heap.size w w' ∧
    Rep w' (fun b => w.heap.size ≤ b ∧ b < w'.heap.size) x (.agg #[.int .i64 s, .int .i64 n, .string t, .slice na nl nc, .slice ka kl kc])

set_option maxHeartbeats 800000 in
theorem copyValue_step (f : Nat) (IH : CvOk f) : CvOk (f + 1) := by
  intro x w B v hfit hR hB
  obtain ⟨s, n, t, ns, ks⟩ := x
  obtain ⟨na, ka, nc, kc, rfl, hs, hns, ht, hbs, hK⟩ := hR.inv
  clear hR
  obtain ⟨hf1, hf2, hf3⟩ := hfit
  replace hf1 : ks.length ≤ 600 := hf1
  replace hf2 : ns.length ≤ 600 := hf2
  replace hf3 : ∀ i, i < ks.length → fit f (kth ks i) := hf3
  go_enter Try.func34, Try.ntmps34
  go_upto_region 1 with fail
  go_cut [3] (fun p wx => ∃ (ob : Nat) (na' : Option Addr) (nc' : Nat), p = .pointer (some ⟨ob, 0, none⟩) ∧ Below w.heap.size w wx ∧ w.heap.size + 1 < ob ∧ ob < wx.heap.size ∧ ns.length ≤ nc' ∧ Strs wx (fun b => w.heap.size + 1 < b ∧ b < wx.heap.size ∧ b ≠ ob) ns na' ∧
    Row5 wx w.heap.size (.int .i64 s) (.int .i64 n) (.string t) (.slice na ns.length nc) (.slice ka ks.length kc) ∧ (∃ c0 c1 c2 c3 c4, Row5 wx (w.heap.size + 1) c0 c1 c2 c3 c4) ∧ Row5 wx ob (.int .i64 s) (.int .i64 n) (.string t) (.slice na' ns.length nc') (.slice none 0 0))
  case first =>
    have hbw : ∀ o1 o2, Below w.heap.size w ((w.alloc o1).alloc o2).drew := fun o1 o2 => (((Below.refl _ _).alloc (Nat.le_refl _) _).alloc (by simp) _).drew
    have hbw3 : ∀ o1 o2 o3, Below w.heap.size w (((w.alloc o1).alloc o2).alloc o3).drew := fun o1 o2 o3 => ((((Below.refl _ _).alloc (Nat.le_refl _) _).alloc (by simp) _).alloc (by simp; omega) _).drew
    have hX : ∀ wx, Below (w.heap.size + 1) (w.alloc (.cells #[.int .i64 s, .int .i64 n, .string t, .slice na ns.length nc, .slice ka ks.length kc] 30)) wx → Five wx w.heap.size (.int .i64 s) (.int .i64 n) (.string t) (.slice na ns.length nc) (.slice ka ks.length kc) := fun wx h => by
      exact (Five.new w _ _ _ _ _ _).keep (by simpa using h) (by simp)
    have hA2 : ∀ o2, Below (w.heap.size + 1) (w.alloc (.cells #[.int .i64 s, .int .i64 n, .string t, .slice na ns.length nc, .slice ka ks.length kc] 30)) ((w.alloc (.cells #[.int .i64 s, .int .i64 n, .string t, .slice na ns.length nc, .slice ka ks.length kc] 30)).alloc o2).drew := fun o2 => ((Below.refl _ _).alloc (by simp) _).drew
    have hA3 : ∀ o2 o3, Below (w.heap.size + 1) (w.alloc (.cells #[.int .i64 s, .int .i64 n, .string t, .slice na ns.length nc, .slice ka ks.length kc] 30)) (((w.alloc (.cells #[.int .i64 s, .int .i64 n, .string t, .slice na ns.length nc, .slice ka ks.length kc] 30)).alloc o2).alloc o3).drew := fun o2 o3 => (((Below.refl _ _).alloc (by simp) _).alloc (by simp) _).drew
    obtain ⟨k0, k1, k2, k3, k4⟩ : Five (w.alloc (.cells #[.int .i64 s, .int .i64 n, .string t, .slice na ns.length nc, .slice ka ks.length kc] 30)) w.heap.size (.int .i64 s) (.int .i64 n) (.string t) (.slice na ns.length nc) (.slice ka ks.length kc) := hX _ (Below.refl _ _)
    have hO : ∀ w1 o2, Below (((w.alloc (.cells #[.int .i64 s, .int .i64 n, .string t, .slice na ns.length nc, .slice ka ks.length kc] 30)).alloc o2).alloc (.cells #[.int .i64 0, .int .i64 0, .string ByteArray.empty, .slice none 0 0, .slice none 0 0] 30)).drew.heap.size (((w.alloc (.cells #[.int .i64 s, .int .i64 n, .string t, .slice na ns.length nc, .slice ka ks.length kc] 30)).alloc o2).alloc (.cells #[.int .i64 0, .int .i64 0, .string ByteArray.empty, .slice none 0 0, .slice none 0 0] 30)).drew w1 → Row5 w1 (w.heap.size + 1 + 1) (.int .i64 0) (.int .i64 0) (.string ByteArray.empty) (.slice none 0 0) (.slice none 0 0) := fun w1 o2 h => by
      have := (Row5.new ((w.alloc (.cells #[.int .i64 s, .int .i64 n, .string t, .slice na ns.length nc, .slice ka ks.length kc] 30)).alloc o2) (.int .i64 0) (.int .i64 0) (.string ByteArray.empty) (.slice none 0 0) (.slice none 0 0))
      rw [show ((w.alloc (.cells #[.int .i64 s, .int .i64 n, .string t, .slice na ns.length nc, .slice ka ks.length kc] 30)).alloc o2).heap.size = w.heap.size + 1 + 1 by simp] at this
      exact this.of_block (h.block _ (by simp))
    have hR0 : ∀ wx, Below (w.heap.size + 1) (w.alloc (.cells #[.int .i64 s, .int .i64 n, .string t, .slice na ns.length nc, .slice ka ks.length kc] 30)) wx → Row5 wx w.heap.size (.int .i64 s) (.int .i64 n) (.string t) (.slice na ns.length nc) (.slice ka ks.length kc) := fun wx h => (Row5.new w _ _ _ _ _).of_block (h.block _ (by omega))
    have hR1 : ∀ wx, Below (w.heap.size + 1 + 1) ((w.alloc (.cells #[.int .i64 s, .int .i64 n, .string t, .slice na ns.length nc, .slice ka ks.length kc] 30)).alloc (.cells #[.int .i64 0, .int .i64 0, .string ByteArray.empty, .slice none 0 0, .slice none 0 0] 30)) wx → Row5 wx (w.heap.size + 1) (.int .i64 0) (.int .i64 0) (.string ByteArray.empty) (.slice none 0 0) (.slice none 0 0) := fun wx h => by
      have := Row5.new (w.alloc (.cells #[.int .i64 s, .int .i64 n, .string t, .slice na ns.length nc, .slice ka ks.length kc] 30)) (.int .i64 0) (.int .i64 0) (.string ByteArray.empty) (.slice none 0 0) (.slice none 0 0)
      rw [show (w.alloc (.cells #[.int .i64 s, .int .i64 n, .string t, .slice na ns.length nc, .slice ka ks.length kc] 30)).heap.size = w.heap.size + 1 by simp] at this
      exact this.of_block (h.block _ (by omega))
    have hne1 : w.heap.size ≠ w.heap.size + 1 + 1 := by omega
    have hne2 : w.heap.size + 1 + 1 ≠ w.heap.size := by omega
    go_region_held3 (fun w' => w'.cell? ⟨w.heap.size, 0, none⟩ = some (.int .i64 s) ∧ w'.cell? ⟨w.heap.size, 1, none⟩ = some (.int .i64 n) ∧ w'.cell? ⟨w.heap.size, 2, none⟩ = some (.string t) ∧ w'.cell? ⟨w.heap.size, 3, none⟩ = some (.slice na ns.length nc)) (go_keep)
      (first
        | (
          go_at_call 39
          first
            | (
              refine (copyTexts_any ns na nc ((w.alloc (.cells #[.int .i64 s, .int .i64 n, .string t, .slice na ns.length nc, .slice ka ks.length kc] 30)).alloc _).drew (· < B) (hs.under ((hbw _ _).mono hB)) (by omega)).mono ?_
              rintro e w1 ⟨a', c', rfl, hc', hb1, hs1⟩
              have hX1 : Below (w.heap.size + 1) (w.alloc (.cells #[.int .i64 s, .int .i64 n, .string t, .slice na ns.length nc, .slice ka ks.length kc] 30)) w1 := (hA2 _).trans (hb1.mono (by simp))
              obtain ⟨q0, q1, q2, q3, q4⟩ := hX w1 hX1)
            | (
              refine (copyTexts_any ns na nc (((w.alloc (.cells #[.int .i64 s, .int .i64 n, .string t, .slice na ns.length nc, .slice ka ks.length kc] 30)).alloc _).alloc _).drew (· < B) (hs.under ((hbw3 _ _ _).mono hB)) (by omega)).mono ?_
              rintro e w1 ⟨a', c', rfl, hc', hb1, hs1⟩
              have hX1 : Below (w.heap.size + 1) (w.alloc (.cells #[.int .i64 s, .int .i64 n, .string t, .slice na ns.length nc, .slice ka ks.length kc] 30)) w1 := (hA3 _ _).trans (hb1.mono (by simp))
              obtain ⟨q0, q1, q2, q3, q4⟩ := hX w1 hX1
              have hO := hO w1 _ hb1
              obtain ⟨o0, o1, o2, o3, o4⟩ := hO.five
              have hof := hO.frozen)))
    · go_wp2_with fail
      go_meet
      case rel =>
        have z1 := hb1.size
        simp at z1
        have b1 := (below_box w1 (.cells #[.int .i64 s, .int .i64 n, .string t, .slice a' ns.length c', .slice none 0 0] 30))
        refine ⟨w1.heap.size, a', c', rfl, ((hbw _ _).trans (hb1.mono (by simp; omega))).trans (b1.mono (by omega)), by omega, by simp, hc', (hs1.mono fun k hk => b1.block k hk.2).sub fun k hk => ?_, hR0 _ (hX1.trans (b1.mono (by omega))), ⟨_, _, _, _, _, hR1 _ ((((Below.refl _ _).drew).trans (hb1.mono (by simp))).trans (b1.mono (by omega)))⟩, Row5.new _ _ _ _ _ _⟩
        have := hk.1
        have := hk.2
        simp at this ⊢
        simp at *
        omega
    · go_wp2_with fail
      go_meet
      case rel =>
        have z1 := hb1.size
        simp at z1
        have b1 := fun (c0 c1 c2 c3 c4 : Value) => put5_below (Below.refl (w.heap.size + 1 + 1) w1) (Nat.le_refl _) 0 c0 c1 c2 c3 c4
        refine ⟨w.heap.size + 1 + 1, a', c', rfl, ((hbw3 _ _ _).trans (hb1.mono (by simp; omega))).trans ((b1 _ _ _ _ _).mono (by omega)), by omega, by simp only [size_set]; omega, hc', (hs1.mono fun k hk => put5_block _ _ _ _ _ _ _ _ _ ?_).sub fun k hk => ?_, hR0 _ (hX1.trans ((b1 _ _ _ _ _).mono (by omega))), ⟨_, _, _, _, _, hR1 _ ((((Below.refl _ _).alloc (by simp) _).drew.trans (hb1.mono (by simp))).trans ((b1 _ _ _ _ _).mono (by omega)))⟩, hO.put _ _ _ _ _⟩
        · have := hk.1; simp at this; omega
        · have h1 := hk.1; have h2 := hk.2; simp only [size_set]; simp at h1; omega
  case rest =>
    obtain ⟨ob, na', nc', rfl, hbx, hob1, hob2, hnc', hsx, hr0, ⟨y0, y1, y2, y3, y4, hr1⟩, hrO⟩ := hcut
    obtain ⟨p0, p1, p2, p3, p4⟩ := hr0.five
    go_wp2_with fail
    clear p0 p1 p2 p3 p4
    have h3 := hK.1
    obtain ⟨-, b, off, C, hka, hc, hr⟩ := hK
    go_loopw [19] (fun i wr => ∃ (k : Nat) (v : Value) (xs : List Value), k ≤ ks.length ∧ i = .int .i64 k ∧ Below w.heap.size w wr ∧ ob < wr.heap.size ∧ (∃ y0 y1 y2 y3 y4, Row5 wr (w.heap.size + 1) y0 y1 y2 y3 y4) ∧ Row5 wr ob (.int .i64 s) (.int .i64 n) (.string t) (.slice na' ns.length nc') v ∧ OwnKids wr (w.heap.size + 1 + 1) ob ks k v xs ∧ Strs wr (fun b => w.heap.size + 1 < b ∧ b < wr.heap.size ∧ b ≠ ob ∧ v.ownBlock ≠ some b) ns na') (fun i _ => ks.length - (intOf i).toNat)
    case atStart => exact ⟨0, _, [], Nat.zero_le _, rfl, hbx, hob2, ⟨_, _, _, _, _, hr1⟩, hrO, OwnKids.nil _ _ _ _, hsx.sub fun b hb => ⟨hb.1, hb.2.1, hb.2.2, by simp [Value.ownBlock]⟩⟩
    case round =>
      clear hbx hob2 hsx hr0 hr1 hrO
      obtain ⟨k, v, xs, hk, rfl, hbel, hob3, ⟨u0, u1, u2, u3, u4, hr1⟩, hrO, hown, hst⟩ := hrel
      by_cases hlt : k < ks.length
      · obtain ⟨rfl, hbB⟩ := hka (by intro e; simp [e] at hlt)
        have hrk := hr k hlt
        obtain ⟨s', n', t', na2, ka2, nl2, nc2, kl2, kc2, j0, j1, j2, j3, j4⟩ := hrk.shape5
        have hck : ∀ j, j < 5 → wr.cell? ⟨b, off + k * 5 + j, none⟩ = some (C k j) := fun j hj => (hbel.cell (p := ⟨b, off + k * 5 + j, none⟩) (by show b < _; omega)).trans (hc k hlt j hj)
        have hc0 : wr.cell? ⟨b, off + k * 5, none⟩ = some (C k 0) := hck 0 (by omega)
        have hc1 := hck 1 (by omega)
        have hc2 := hck 2 (by omega)
        have hc3 := hck 3 (by omega)
        have hc4 := hck 4 (by omega)
        rw [j0] at hc0 hrk
        rw [j1] at hc1 hrk
        rw [j2] at hc2 hrk
        rw [j3] at hc3 hrk
        rw [j4] at hc4 hrk
        clear hck hc j0 j1 j2 j3 j4 hr hka
        have hszw := hbel.size
        have hboxA := fun (c0 c1 c2 c3 c4 : Value) => Five.new wr c0 c1 c2 c3 c4 30
        have hih := IH (kth ks k) (wr.alloc (.cells #[.int .i64 s', .int .i64 n', .string t', .slice na2 nl2 nc2, .slice ka2 kl2 kc2] 30)).drew B _ (hf3 k hlt) (hrk.under ((hbel.alloc (by omega) _).drew.mono hB)) (by simp; omega)
        obtain ⟨i0, hi, hz0, hz1, hz2⟩ := info_parts info30
        obtain ⟨o0, o1, o2, o3, o4⟩ := hrO.five
        have hof := hrO.frozen
        go_upto_region 5 with fail
        obtain ⟨m0, m1, m2, m3, m4⟩ := hboxA (.int .i64 s') (.int .i64 n') (.string t') (.slice na2 nl2 nc2) (.slice ka2 kl2 kc2)
        have hneo : ob ≠ wr.heap.size := by omega
        go_region_law (first
            | (
              go_simp
              go_at_call 34
              refine hih.mono ?_
              rintro e w1 ⟨s3, n3, t3, na3, ka3, nl3, nc3, kl3, kc3, rfl, hb1, hrep1⟩
              have hbb : Below wr.heap.size wr w1 := ((below_box wr _).drew).trans (hb1.mono (by simp))
              obtain ⟨q0, q1, q2, q3, q4⟩ := (hboxA (.int .i64 s') (.int .i64 n') (.string t') (.slice na2 nl2 nc2) (.slice ka2 kl2 kc2)).keep (below_undrew hb1) (by simp)
              have hrO1 := hrO.of_block (hbb.block ob hob3)
              obtain ⟨v0, v1, v2, v3, v4⟩ := hrO1.five
              have hof1 := hrO1.frozen
              have hnw1 : ob ≠ w1.heap.size := by have := hb1.size; simp at this; omega
              have hnw2 : w1.heap.size ≠ ob := fun e => hnw1 e.symm
              have v4a : ∀ o, (w1.alloc o).cell? ⟨ob, 4, none⟩ = some v := fun o => ((below_box w1 o).cell (p := ⟨ob, 4, none⟩) (by show ob < _; have := hb1.size; simp at this; omega)).trans v4)
            | (
              refine step_append_lies _ rfl (.tmp 24) (.tmp 27) 28 rfl (w.heap.size + 1 + 1) 30 i0 zeroV 5 80 Try.underlying28 hi hz0 hz1 hz2 rfl (by decide) v k xs rfl (hown.owns hbb _) ⟨w1.heap.size, 0, none⟩ 1 1 [.int .i64 s3, .int .i64 n3, .string t3, .slice na3 nl3 nc3, .slice ka3 kl3 kc3] rfl rfl (World.news_of_block (heap_alloc_new w1 _)) (by intro u hu; simp at hu; rcases hu with rfl | rfl | rfl | rfl | rfl <;> rfl) (by omega) (by unfold maxLen; omega) (by omega) (by have := hbb.size; simp; omega) (w1.heap.size + 1) (by simp) ?_
              intro g cap w3 hown3 hgrow hat hlt3
              have hstep := hown.step (by omega) hob3 hbb (hrep1.sub fun b hb => ⟨by have := hb.1; simp at this; omega, hb.2⟩) hown3 hgrow hat
              have hfar : ∀ o u, w1.cell? ⟨wr.heap.size, o, none⟩ = some u → w3.cell? ⟨wr.heap.size, o, none⟩ = some u := fun o u h => by
                have hbs := hb1.size
                simp at hbs
                rw [hgrow.cell_far ⟨wr.heap.size, o, none⟩ (by show wr.heap.size < _; simp; omega) (fun e => by have := (hown.1.lt _ e.symm).2; simp at this)]
                exact ((below_box w1 _).cell (p := ⟨wr.heap.size, o, none⟩) (by show wr.heap.size < _; omega)).trans h
              have r0 := hfar 0 _ q0
              have r1 := hfar 1 _ q1
              have r2 := hfar 2 _ q2
              have r3 := hfar 3 _ q3
              have r4 := hfar 4 _ q4
              have hrO3 := hrO.of_block (hstep.2.1 ob hob3 hown.2.1)
              obtain ⟨t0, t1, t2, t3', t4⟩ := hrO3.five
              have hof3 := hrO3.frozen))
        all_goals
          go_wp2_with fail
          go_roundw
          case rel =>
            have hs3 := hstep.2.2.1
            have hs1 := hbb.size
            have hown' := (hstep.1.set 4 (.slice (some ⟨g, 0, none⟩) (k + 1) cap))
            have hat' : ∀ b', b' < wr.heap.size → v.ownBlock ≠ some b' → g ≠ b' := fun b' hb' hn e => by
              rcases hat with h1 | h1
              · exact hn (by rw [h1, e])
              · omega
            have hsz4 : (w3.setCell ⟨ob, 4, none⟩ (.slice (some ⟨g, 0, none⟩) (k + 1) cap)).heap.size = w3.heap.size := size_set _ _ _
            refine ⟨k + 1, _, _, by omega, by go_num, (hbel.trans (hstep.2.2.2.mono (by omega))).setCell (by show w.heap.size ≤ ob; omega) _, by rw [hsz4]; omega, ⟨_, _, _, _, _, (hr1.of_block (hstep.2.1 _ (by omega) fun e => by have := (hown.1.lt _ e).1; omega)).of_block (Below.heap_setCell _ _ _ _ (by show w.heap.size + 1 ≠ ob; omega))⟩, hrO3.set4 _, hown', ?_⟩
            refine (hst.mono fun b' hb' => (Below.heap_setCell _ _ _ _ (by show b' ≠ ob; exact hb'.2.2.1)).trans (hstep.2.1 b' hb'.2.1 hb'.2.2.2)).sub fun b' hb' => ⟨hb'.1, by rw [hsz4]; omega, hb'.2.2.1, fun e => ?_⟩
            exact hat' b' hb'.2.1 hb'.2.2.2 (by simpa [Value.ownBlock] using e)
          case measure => simp [intOf]; omega
      · have e : k = ks.length := by omega
        subst e
        obtain ⟨ka3, kc3, rfl, hK3⟩ := hown.kids h3
        obtain ⟨o0, o1, o2, o3, o4⟩ := hrO.five
        obtain ⟨l0, l1, l2, l3, l4⟩ := hr1.five
        have hlf := hr1.frozen
        go_wp2_with fail
        have hfin : Row5 (put5 wr (w.heap.size + 1) 0 (.int .i64 s) (.int .i64 n) (.string t) (.slice na' ns.length nc') (.slice ka3 ks.length kc3)) (w.heap.size + 1) (.int .i64 s) (.int .i64 n) (.string t) (.slice na' ns.length nc') (.slice ka3 ks.length kc3) := hr1.put _ _ _ _ _
        have hsz := put5_size wr (w.heap.size + 1) 0 (.int .i64 s) (.int .i64 n) (.string t) (.slice na' ns.length nc') (.slice ka3 ks.length kc3)
        have hblk := put5_block wr (w.heap.size + 1) 0 (.int .i64 s) (.int .i64 n) (.string t) (.slice na' ns.length nc') (.slice ka3 ks.length kc3)
        refine bodyPost_ret (v := .agg #[.int .i64 s, .int .i64 n, .string t, .slice na' ns.length nc', .slice ka3 ks.length kc3]) ?res rfl ⟨s, n, t, _, _, _, _, _, _, rfl, put5_below hbel (by omega) _ _ _ _ _ _, Rep.of_kids ((hst.mono fun b' hb' => hblk b' (by omega)).sub fun b' hb' => ⟨by omega, ?_⟩) hnc' ht hbs ((hK3.mono fun b' hb' => hblk b' (by omega)).sub fun b' hb' => ⟨by omega, ?_⟩)⟩
        case res =>
          obtain ⟨p0, p1, p2, p3, p4⟩ := hfin.five
          simp only [put5] at p0 p1 p2 p3 p4
          clear hfin hblk hsz hst hK3 hr1 hrO hown IH
          simp [results, Try.results34, go_sem, p0, p1, p2, p3, p4]
        · exact Nat.lt_of_lt_of_eq hb'.2.1 hsz.symm
        · exact Nat.lt_of_lt_of_eq hb'.2.1 hsz.symm

theorem copyValue_any (f : Nat) : CvOk f := by
  induction f with
  | zero => intro x w B v h; exact h.elim
  | succ f ih => exact copyValue_step f ih
end Go.Proofs.Ytmbnpcgaomjhdaa
