/-
  Two lists of values gone through together: joinTrees, by levels.
-/
import Derived.Test.YtoohlmiegjaicaaSJoin1
namespace Go.Proofs.Ytoohlmiegjaicaa
set_option linter.unusedSimpArgs false
set_option linter.unusedVariables false
open Go.RowKit

set_option maxHeartbeats 1600000 in
theorem joinTrees_step (f : Nat) (IH : ∀ f', f = f' + 1 → JnOk f') : JnOk f := by
  intro xs ys w B ka kb kc kd hfit hlen0 h600 hK hK' hB
  have HLEN : Hid (xs.length = ys.length) := hlen0
  clear hlen0
  have h3 := hK.1
  obtain ⟨-, b, off, C, hka, hc, hr⟩ := hK
  obtain ⟨i0, hi, hz0, hz1, hz2⟩ := info_parts info30
  unfold pairsV
  go_enter Try.func25, Try.ntmps25
  go_wp2_with fail
  go_loopw [8, 19] (fun v i wr => ∃ (k : Nat) (cs : List Value), k ≤ xs.length ∧ i = .int .i64 k ∧ Below (w.heap.size + 1) (w.alloc byO) wr ∧ OwnKids wr (w.heap.size + 1) w.heap.size xs k v cs) (fun _ i _ => xs.length - (intOf i).toNat)
  case atStart => exact ⟨0, [], Nat.zero_le _, rfl, Below.refl _ _, OwnKids.nil _ _ _ _⟩
  case round =>
    obtain ⟨k, cs, hk, rfl, hbel, hown⟩ := hrel
    have hszw := hbel.size
    simp at hszw
    by_cases hlt : k < xs.length
    · obtain ⟨rfl, hbB⟩ := hka (by intro e; simp [e] at hlt)
      have hrk := hr k hlt
      obtain ⟨s', n', t', na2, ka2, nl2, nc2, kl2, kc2, j0, j1, j2, j3, j4⟩ := hrk.shape5
      have hck : ∀ j, j < 5 → wr.cell? ⟨b, off + k * 5 + j, none⟩ = some (C k j) := fun j hj => ((below_by hbel).cell (p := ⟨b, off + k * 5 + j, none⟩) (by show b < _; omega)).trans (hc k hlt j hj)
      have hc0 : wr.cell? ⟨b, off + k * 5, none⟩ = some (C k 0) := hck 0 (by omega)
      have hc1 := hck 1 (by omega)
      have hc2 := hck 2 (by omega)
      have hc3 := hck 3 (by omega)
      have hc4 := hck 4 (by omega)
      rw [j0] at hc0 hrk
      rw [j1] at hc1 hrk
      rw [j2] at hc2 hrk
      rw [j3] at hc3 hrk
      rw [j4] at hc4 hrk
      clear hck hc j0 j1 j2 j3 j4 hr hka
      have hih := copyValue_any f (kth xs k) (wr.alloc (.cells #[.int .i64 s', .int .i64 n', .string t', .slice na2 nl2 nc2, .slice ka2 kl2 kc2] 30)) B _ (hfit k hlt) (hfit k hlt).cnt (hrk.under (((below_by hbel).alloc (by omega) _).mono hB)) (by simp; omega)
      obtain ⟨a0, a1, a2, a3⟩ := by_cells (hbel.alloc (by omega) (.cells #[.int .i64 s', .int .i64 n', .string t', .slice na2 nl2 nc2, .slice ka2 kl2 kc2] 30))
      go_wp2_with (first
        | (
          go_at_call 34
          refine hih.mono ?_
          rintro e w1 ⟨s3, n3, t3, na3, ka3, nl3, nc3, kl3, kc3, rfl, hb1, hrep1⟩
          have hbb : Below wr.heap.size wr w1 := (below_box wr _).trans (hb1.mono (by simp)))
        | (
          at_builtin
          refine wpList_append_lies _ rfl (.tmp 23) (.tmp 28) 28 rfl (w.heap.size + 1) 30 i0 zeroV 5 80 Try.underlying28 hi hz0 hz1 hz2 rfl (by decide) _ k cs rfl (hown.owns hbb _) ⟨w1.heap.size, 0, none⟩ 1 1 [.int .i64 s3, .int .i64 n3, .string t3, .slice na3 nl3 nc3, .slice ka3 kl3 kc3] rfl rfl (World.news_of_block (heap_alloc_new w1 _)) (by intro u hu; simp at hu; rcases hu with rfl | rfl | rfl | rfl | rfl <;> rfl) (by omega) (by unfold maxLen; omega) (by omega) (by have := hbb.size; simp; omega) (w1.heap.size + 1) (by simp) ?_
          intro g cap w3 hown3 hgrow hat hlt3
          have hstep := hown.step (by omega) (by omega) hbb (hrep1.sub fun b hb => ⟨by have := hb.1; simp at this; omega, hb.2⟩) hown3 hgrow hat))
      go_roundw
      case rel => exact ⟨k + 1, _, by omega, by go_num, hbel.trans (hstep.2.2.2.mono (Nat.le_refl _)), hstep.1⟩
      case measure => simp [intOf]; omega
    · have e : k = xs.length := by omega
      subst e
      clear hc hr hka hk hlt
      by_cases h0 : xs.length = 0
      · obtain ⟨ka3, kc3, rfl, -⟩ := hown.kids h3
        have hE : Hid (sameTo f xs ys xs.length = true) := by show _ = _; rw [h0]; rfl
        have hl0 : ys.length = 0 := by have := HLEN.out; omega
        go_wp2_with fail
        go_loopw [8, 33] (fun v i w2 => v = .slice ka3 xs.length kc3 ∧ i = .int .i64 0 ∧ w2 = wr) (fun _ _ _ => 0)
        case atStart => exact ⟨rfl, rfl, rfl⟩
        case round =>
          obtain ⟨rfl, rfl, rfl⟩ := hrel
          go_wp2_with fail
          go_ret2
          exact ⟨ka3, xs.length, kc3, by rw [hE.out]; rfl, below_by hbel⟩
      obtain ⟨g, cap, rfl, hof⟩ := hown.from (by omega)
      clear hown
      obtain ⟨-, b', off', C', hkb, hc', hr'⟩ := hK'
      obtain ⟨rfl, hbB'⟩ := hkb (by intro e; have := HLEN.out; rw [e] at this; exact h0 this)
      go_wp2_with fail
      go_loopw [8, 33] (fun v i w2 => ∃ (k : Nat) (cs : List Value), k ≤ xs.length ∧ i = .int .i64 k ∧ v = .slice (some ⟨g, 0, none⟩) xs.length cap ∧ Below (w.heap.size + 1) (w.alloc byO) w2 ∧ w.heap.size + 1 ≤ w2.heap.size ∧ OwnFrom w2 (w.heap.size + 1) xs k g cap cs ∧ sameTo f xs ys k = true) (fun _ i _ => xs.length - (intOf i).toNat)
      case atStart => exact ⟨0, cs, Nat.zero_le _, rfl, rfl, hbel, hszw, hof, rfl⟩
      case round =>
        clear hbel hof hszw
        rename_i wr
        obtain ⟨k, cs, hk, rfl, rfl, hbel, hszw, hof, hsame⟩ := hrel
        have HS : Hid (sameTo f xs ys k = true) := hsame
        clear hsame
        by_cases hlt : k < xs.length
        · have hly : k < ys.length := by have := HLEN.out; omega
          obtain ⟨f', hf⟩ : ∃ f', f = f' + 1 := Nat.exists_eq_succ_of_ne_zero (fun e => by have := hfit k hlt; rw [e] at this; exact this)
          have HF : Hid (f = f' + 1) := hf
          have hJ := IH f' hf
          have hfk : fit (f' + 1) (kth xs k) := hf ▸ hfit k hlt
          clear hf
          clear IH hfit
          have hrx := hof.2.2.2 k (Nat.le_refl _) hlt
          have hry := hr' k hly
          have hfs := sameTo_false f xs ys xs.length k hlt
          have hfn := sameTo_succ f xs ys k
          rw [HS.out] at hfn
          obtain ⟨x, hx⟩ : ∃ x, kth xs k = x := ⟨_, rfl⟩
          obtain ⟨y, hy⟩ : ∃ y, kth ys k = y := ⟨_, rfl⟩
          rw [hx] at hrx hfk hfs hfn
          rw [hy] at hry hfs hfn
          clear hx hy
          obtain ⟨s, n, t, ns, ks⟩ := x
          obtain ⟨s', n', t', ns', ks'⟩ := y
          rw [HF.out, sameF_mk, ← HF.out] at hfs hfn
          have HFS : Hid (_ → _) := hfs
          have HFN : Hid (_ = _) := hfn
          clear hfs hfn
          obtain ⟨na, kax, nc, kcx, x0, x1, x2, x3, x4, hsx, hncx, hKx⟩ := hrx.inv5
          obtain ⟨na', kay, nc', kcy, y0, y1, y2, y3, y4, hsy, hncy, hKy⟩ := hry.inv5
          obtain ⟨hf1, hf2, hf3⟩ := hfk
          replace hf1 : ks.length ≤ 600 := hf1
          replace hf3 : ∀ i, i < ks.length → fit f' (kth ks i) := hf3
          clear hrx hry hf2
          have hck : ∀ j, j < 5 → wr.cell? ⟨b', off' + k * 5 + j, none⟩ = some (C' k j) := fun j hj => ((below_by hbel).cell (p := ⟨b', off' + k * 5 + j, none⟩) (by show b' < _; omega)).trans (hc' k hly j hj)
          have hc0 : wr.cell? ⟨b', off' + k * 5, none⟩ = some (C' k 0) := hck 0 (by omega)
          have hc1 := hck 1 (by omega)
          have hc2 := hck 2 (by omega)
          have hc3 := hck 3 (by omega)
          have hc4 := hck 4 (by omega)
          rw [y0] at hc0
          rw [y1] at hc1
          rw [y2] at hc2
          rw [y3] at hc3
          rw [y4] at hc4
          clear hck hc' hr' hkb y0 y1 y2 y3 y4
          have hxc := fun j => hof.cell k j hlt
          have d0 := hxc 0 (by omega)
          have d1 := hxc 1 (by omega)
          have d2 := hxc 2 (by omega)
          have d3 := hxc 3 (by omega)
          have d4 := hxc 4 (by omega)
          rw [Nat.add_zero, x0] at d0
          rw [x1] at d1
          rw [x2] at d2
          rw [x3] at d3
          rw [x4] at d4
          clear hxc x0 x1 x2 x3 x4
          have hglt := hof.2.1
          have hglo := hof.2.2.1
          have hki : (k : Int) < (xs.length : Int) := by omega
          have hk0 : decide ((k : Int) < 0) = false := by simp
          have RF := fun W => round_facts (W := W) (y0 := .int .i64 s') (y1 := .int .i64 n') (y2 := .string t') (y3 := .slice na' ns'.length nc') (y4 := .slice kay ks'.length kcy) hbel hszw hof
          -- every cell that the round reads, in whatever later world
          have CF : ∀ W, Below (wr.heap.size + 1) (wr.alloc (.cells #[.int .i64 s', .int .i64 n', .string t', .slice na' ns'.length nc', .slice kay ks'.length kcy] 30)) W →
              W.cell? ⟨g, k * 5, none⟩ = some (.int .i64 s) ∧ W.cell? ⟨g, k * 5 + 1, none⟩ = some (.int .i64 n) ∧ W.cell? ⟨g, k * 5 + 2, none⟩ = some (.string t) ∧ W.cell? ⟨g, k * 5 + 3, none⟩ = some (.slice na ns.length nc) ∧ W.cell? ⟨g, k * 5 + 4, none⟩ = some (.slice kax ks.length kcx) := fun W hA => by
            have hcg : ∀ o, W.cell? ⟨g, o, none⟩ = wr.cell? ⟨g, o, none⟩ := fun o => (RF W hA).2.2.2.1.cell (p := ⟨g, o, none⟩) hglt
            rw [hcg, hcg, hcg, hcg, hcg]
            exact ⟨d0, d1, d2, d3, d4⟩
          have hA0 : Below (wr.heap.size + 1) (wr.alloc (.cells #[.int .i64 s', .int .i64 n', .string t', .slice na' ns'.length nc', .slice kay ks'.length kcy] 30)) (wr.alloc (.cells #[.int .i64 s', .int .i64 n', .string t', .slice na' ns'.length nc', .slice kay ks'.length kcy] 30)) := Below.refl _ _
          obtain ⟨a0, a1, a2, a3⟩ := by_cells (RF _ hA0).1
          go_wp2_with (
            go_at_call 30
            refine (mate_any _ _ _ _).mono ?_
            rintro e w1 ⟨rfl, hb1⟩
            have hA1 := hA0.trans (hb1.mono (by simp)))
          clear hA0 a0 a1 a2 a3 hb1
          obtain ⟨r1, f1, o1, b1, z1⟩ := RF _ hA1
          obtain ⟨a0, a1, a2, a3⟩ := by_cells r1
          obtain ⟨m0, m1, m2, m3, m4⟩ := f1
          obtain ⟨c0, c1, c2, c3, c4⟩ := CF _ hA1
          have hal := fun W (hA : Below (wr.heap.size + 1) (wr.alloc (.cells #[.int .i64 s', .int .i64 n', .string t', .slice na' ns'.length nc', .slice kay ks'.length kcy] 30)) W) => alike_any s n t ns ks.length s' n' t' ns' ks'.length na kax na' kay nc kcx nc' kcy W W.heap.size ((hsx.mono fun b hb => (RF W hA).2.2.2.1.block b hb.2.1).sub fun b hb => by have := (RF W hA).2.2.2.2; omega) ((hsy.under ((below_by (RF W hA).1).mono hB)).sub fun b hb => by have := (RF W hA).2.2.2.2; omega) hncx hncy (Nat.le_refl _)
          cases ha : alikeB s n t ns ks.length s' n' t' ns' ks'.length
          · rw [ha] at hal
            have hres : Hid (sameTo f xs ys xs.length = false) := HFS.out (by rw [ha]; rfl)
            go_region_held3 (fun w' => w'.cell? ⟨w.heap.size, 1, none⟩ = some (.func (.func 31) #[] #[]) ∧ w'.cell? ⟨g, k * 5, none⟩ = some (.int .i64 s) ∧ w'.cell? ⟨g, k * 5 + 1, none⟩ = some (.int .i64 n) ∧ w'.cell? ⟨g, k * 5 + 2, none⟩ = some (.string t) ∧ w'.cell? ⟨g, k * 5 + 3, none⟩ = some (.slice na ns.length nc) ∧ w'.cell? ⟨g, k * 5 + 4, none⟩ = some (.slice kax ks.length kcx) ∧ w'.cell? ⟨wr.heap.size, 0, none⟩ = some (.int .i64 s') ∧ w'.cell? ⟨wr.heap.size, 1, none⟩ = some (.int .i64 n') ∧ w'.cell? ⟨wr.heap.size, 2, none⟩ = some (.string t') ∧ w'.cell? ⟨wr.heap.size, 3, none⟩ = some (.slice na' ns'.length nc') ∧ w'.cell? ⟨wr.heap.size, 4, none⟩ = some (.slice kay ks'.length kcy)) (go_keep)
              (first
                | (
                  go_at_call 31
                  refine (hal w1.drew hA1.drew).mono ?_
                  rintro e w2 ⟨rfl, hb2⟩
                  have hA2 := hA1.drew.trans (hb2.mono (by have := z1; simp; omega))
                  obtain ⟨r2, f2, o2, b2, z2⟩ := RF _ hA2
                  obtain ⟨a0', a1', a2', a3'⟩ := by_cells r2
                  obtain ⟨m0', m1', m2', m3', m4'⟩ := f2
                  obtain ⟨c0', c1', c2', c3', c4'⟩ := CF _ hA2))
            all_goals
              go_wp2_with fail
              go_ret2
              exact ⟨none, 0, 0, by rw [hres.out]; rfl, below_by r2⟩
          · rw [ha] at hal
            have hkl : ks.length = ks'.length := by
              have h := ha
              simp only [alikeB, Bool.and_eq_true] at h
              have := beq_iff_eq.1 h.2
              omega
            have HKL : Hid (ks.length = ks'.length) := hkl
            clear hkl
            go_region_held3 (fun w' => w'.cell? ⟨w.heap.size, 1, none⟩ = some (.func (.func 31) #[] #[]) ∧ w'.cell? ⟨g, k * 5, none⟩ = some (.int .i64 s) ∧ w'.cell? ⟨g, k * 5 + 1, none⟩ = some (.int .i64 n) ∧ w'.cell? ⟨g, k * 5 + 2, none⟩ = some (.string t) ∧ w'.cell? ⟨g, k * 5 + 3, none⟩ = some (.slice na ns.length nc) ∧ w'.cell? ⟨g, k * 5 + 4, none⟩ = some (.slice kax ks.length kcx) ∧ w'.cell? ⟨wr.heap.size, 0, none⟩ = some (.int .i64 s') ∧ w'.cell? ⟨wr.heap.size, 1, none⟩ = some (.int .i64 n') ∧ w'.cell? ⟨wr.heap.size, 2, none⟩ = some (.string t') ∧ w'.cell? ⟨wr.heap.size, 3, none⟩ = some (.slice na' ns'.length nc') ∧ w'.cell? ⟨wr.heap.size, 4, none⟩ = some (.slice kay ks'.length kcy)) (go_keep)
              (first
                | (
                  go_at_call 31
                  refine (hal w1.drew hA1.drew).mono ?_
                  rintro e w2 ⟨rfl, hb2⟩
                  have hA2 := hA1.drew.trans (hb2.mono (by have := z1; simp; omega))
                  obtain ⟨r2, f2, o2, b2, z2⟩ := RF _ hA2
                  obtain ⟨a0', a1', a2', a3'⟩ := by_cells r2
                  obtain ⟨m0', m1', m2', m3', m4'⟩ := f2
                  obtain ⟨c0', c1', c2', c3', c4'⟩ := CF _ hA2))
            all_goals
              clear hal hA1 r1 o1 b1 z1 a0 a1 a2 a3 m0 m1 m2 m3 m4 c0 c1 c2 c3 c4 hb2
              go_wp2_with fail
              go_region_held3 (fun w' => w'.cell? ⟨w.heap.size, 2, none⟩ = some (.func (.func 33) #[] #[])) (go_keep)
                (first
                  | (
                    go_at_call 33
                    refine (kidsOf_any g (k * 5) _).mono ?_
                    rintro e w3 ⟨rfl, rfl⟩))
              all_goals
                go_wp2_with fail
                have hJ' := fun W (hA : Below (wr.heap.size + 1) (wr.alloc (.cells #[.int .i64 s', .int .i64 n', .string t', .slice na' ns'.length nc', .slice kay ks'.length kcy] 30)) W) => hJ ks ks' W W.heap.size kax kay kcx kcy hf3 HKL.out hf1 ((hKx.mono fun b hb => (RF W hA).2.2.2.1.block b hb.2.1).sub fun b hb => by have := (RF W hA).2.2.2.2; omega) ((hKy.under ((below_by (RF W hA).1).mono hB)).sub fun b hb => by have := (RF W hA).2.2.2.2; omega) (Nat.le_refl _)
                unfold pairsV at hJ'
                cases hsb : sameTo f' ks ks' ks.length
                · rw [hsb] at hJ'
                  have hres : Hid (sameTo f xs ys xs.length = false) := HFS.out (by rw [ha, hsb]; rfl)
                  go_region_held3 (fun w' => w'.cell? ⟨w.heap.size, 0, none⟩ = some (.func (.func 30) #[] #[]) ∧ w'.cell? ⟨w.heap.size, 1, none⟩ = some (.func (.func 31) #[] #[]) ∧ w'.cell? ⟨w.heap.size, 2, none⟩ = some (.func (.func 33) #[] #[]) ∧ w'.cell? ⟨w.heap.size, 3, none⟩ = some (.func (.func 34) #[] #[]) ∧ w'.cell? ⟨g, k * 5 + 4, none⟩ = some (.slice kax ks.length kcx) ∧ w'.cell? ⟨wr.heap.size, 4, none⟩ = some (.slice kay ks'.length kcy)) (go_keep)
                    (first
                      | (
                        go_at_call 33
                        refine (kidsOf_any wr.heap.size 0 _).mono ?_
                        rintro e w3 ⟨rfl, rfl⟩)
                      | (
                        go_at_call 25
                        refine (hJ' w2.drew.drew hA2.drew.drew).mono ?_
                        rintro e w4 ⟨r, rl, rc, rfl, hb4⟩
                        have hA4 := hA2.drew.drew.trans (hb4.mono (by have := z2; simp; omega))
                        obtain ⟨r4, f4, o4, b4, z4⟩ := RF _ hA4
                        obtain ⟨a0'', a1'', a2'', a3''⟩ := by_cells r4
                        obtain ⟨m0'', m1'', m2'', m3'', m4''⟩ := f4
                        obtain ⟨c0'', c1'', c2'', c3'', c4''⟩ := CF _ hA4
                        have hfz4 := o4.frozen))
                  all_goals
                    go_wp2_with fail
                    go_ret2
                    exact ⟨none, 0, 0, by rw [hres.out]; rfl, below_by r4⟩
                · rw [hsb] at hJ'
                  have hnext : Hid (sameTo f xs ys (k + 1) = true) := by show _ = _; rw [HFN.out, ha, hsb]; rfl
                  go_region_held3 (fun w' => w'.cell? ⟨w.heap.size, 0, none⟩ = some (.func (.func 30) #[] #[]) ∧ w'.cell? ⟨w.heap.size, 1, none⟩ = some (.func (.func 31) #[] #[]) ∧ w'.cell? ⟨w.heap.size, 2, none⟩ = some (.func (.func 33) #[] #[]) ∧ w'.cell? ⟨w.heap.size, 3, none⟩ = some (.func (.func 34) #[] #[]) ∧ w'.cell? ⟨g, k * 5 + 4, none⟩ = some (.slice kax ks.length kcx) ∧ w'.cell? ⟨wr.heap.size, 4, none⟩ = some (.slice kay ks'.length kcy)) (go_keep)
                    (first
                      | (
                        go_at_call 33
                        refine (kidsOf_any wr.heap.size 0 _).mono ?_
                        rintro e w3 ⟨rfl, rfl⟩)
                      | (
                        go_at_call 25
                        refine (hJ' w2.drew.drew hA2.drew.drew).mono ?_
                        rintro e w4 ⟨r, rl, rc, rfl, hb4⟩
                        have hA4 := hA2.drew.drew.trans (hb4.mono (by have := z2; simp; omega))
                        obtain ⟨r4, f4, o4, b4, z4⟩ := RF _ hA4
                        obtain ⟨a0'', a1'', a2'', a3''⟩ := by_cells r4
                        obtain ⟨m0'', m1'', m2'', m3'', m4''⟩ := f4
                        obtain ⟨c0'', c1'', c2'', c3'', c4''⟩ := CF _ hA4
                        have hfz4 := o4.frozen))
                  all_goals
                    go_wp2_with fail
                    go_roundw
                    case rel => exact ⟨k + 1, _, by omega, by go_num, rfl, r4.setCell (by show _ ≤ g; omega) _, by rw [size_set]; omega, o4.set _, hnext.out⟩
                    case measure => simp [intOf]; omega
        · have hly : ¬ k < ys.length := by have := HLEN.out; omega
          go_wp2_with fail
          go_ret2
          have e : k = xs.length := by omega
          exact ⟨_, _, _, by rw [← e, HS.out]; rfl, below_by hbel⟩
end Go.Proofs.Ytoohlmiegjaicaa
