/-
  The model's l12Same and JsonSame.
-/
import Derived.Test.YtoohlmiegjaicaaSSame
namespace Go.Proofs.Ytoohlmiegjaicaa
set_option linter.unusedSimpArgs false
set_option linter.unusedVariables false
open Go.RowKit

def SmOk (f : Nat) : Prop := ∀ (x y : V) (w : World) (B : Nat) (v v' : Value), fit f x → Rep w (· < B) x v → Rep w (· < B) y v' → B ≤ w.heap.size →
  Calls Try.prog 24 #[v, v'] w fun e w' => e = .returned (.bool (sameF f x y)) ∧ Below w.heap.size w w'

/-- What two boxes hold in whatever later world. -/
theorem two_boxes {w W : World} {x0 x1 x2 x3 x4 y0 y1 y2 y3 y4 : Value} (h : Below (w.heap.size + 1 + 1) ((w.alloc (.cells #[x0, x1, x2, x3, x4] 30)).alloc (.cells #[y0, y1, y2, y3, y4] 30)) W) :
    Five W w.heap.size x0 x1 x2 x3 x4 ∧ Five W (w.heap.size + 1) y0 y1 y2 y3 y4 ∧ Below w.heap.size w W ∧ w.heap.size + 1 < W.heap.size := by
  have hz := h.size
  simp at hz
  refine ⟨((Five.new w x0 x1 x2 x3 x4 30).keep (below_box _ _) (by simp)).keep (by simpa using h) (by simp; omega), (Five.new' (w.alloc _) (w.heap.size + 1) (by simp) y0 y1 y2 y3 y4 30).keep (by simpa using h) (by simp), (below_box2 w _ _).trans (h.mono (by omega)), by omega⟩

set_option maxHeartbeats 1600000 in
theorem l12Same_step (f : Nat) (IH : SmOk f) : SmOk (f + 1) := by
  intro x y w B v v' hfit hR hR' hB
  obtain ⟨s, n, t, ns, ks⟩ := x
  obtain ⟨s', n', t', ns', ks'⟩ := y
  obtain ⟨na, ka, nc, kc, rfl, hs, hns, ht, hbs, hK⟩ := hR.inv
  obtain ⟨na', ka', nc', kc', rfl, hs', hns', ht', hbs', hK'⟩ := hR'.inv
  clear hR hR'
  obtain ⟨hf1, hf2, hf3⟩ := hfit
  replace hf1 : ks.length ≤ 600 := hf1
  replace hf2 : ns.length ≤ 600 := hf2.1
  replace hf3 : ∀ i, i < ks.length → fit f (kth ks i) := hf3
  have hb2 : ∀ o1 o2, Below w.heap.size w ((w.alloc o1).alloc o2) := fun o1 o2 => below_box2 w o1 o2
  have HSM : Hid (sameF (f + 1) (.mk s n t ns ks) (.mk s' n' t' ns' ks') = (alikeB s n t ns ks.length s' n' t' ns' ks'.length && sameTo f ks ks' ks.length)) := sameF_mk f s n t ns ks s' n' t' ns' ks'
  cases e1 : (s == s')
  · have g1 : (s != s') = true := by simp only [bne, e1]; rfl
    go_enter Try.func24, Try.ntmps24
    go_wp2_with fail
    go_ret
    exact ⟨ret_bool (by rw [HSM.out]; simp [alikeB, e1]), hb2 _ _⟩
  have g1 : (s != s') = false := by simp only [bne, e1]; rfl
  cases e2 : (n == n')
  · have g2 : (n != n') = true := by simp only [bne, e2]; rfl
    go_enter Try.func24, Try.ntmps24
    go_wp2_with fail
    go_ret
    exact ⟨ret_bool (by rw [HSM.out]; simp [alikeB, e2]), hb2 _ _⟩
  have g2 : (n != n') = false := by simp only [bne, e2]; rfl
  cases e3 : (t.toList == t'.toList)
  · have g3 : (t.toList != t'.toList) = true := by simp only [bne, e3]; rfl
    go_enter Try.func24, Try.ntmps24
    go_wp2_with fail
    go_ret
    exact ⟨ret_bool (by rw [HSM.out]; simp [alikeB, e3]), hb2 _ _⟩
  have g3 : (t.toList != t'.toList) = false := by simp only [bne, e3]; rfl
  cases e4 : ((ns.length : Int) == (ns'.length : Int))
  · have g4 : ((ns.length : Int) != (ns'.length : Int)) = true := by simp only [bne, e4]; rfl
    have l4 : ¬ ns.length = ns'.length := by intro e; simp [e] at e4
    go_enter Try.func24, Try.ntmps24
    go_wp2_with fail
    go_ret
    exact ⟨ret_bool (by rw [HSM.out]; simp [alikeB, eqNs, l4]), hb2 _ _⟩
  have g4 : ((ns.length : Int) != (ns'.length : Int)) = false := by simp only [bne, e4]; rfl
  cases e5 : ((ks.length : Int) == (ks'.length : Int))
  · have g5 : ((ks.length : Int) != (ks'.length : Int)) = true := by simp only [bne, e5]; rfl
    go_enter Try.func24, Try.ntmps24
    go_wp2_with fail
    go_ret
    exact ⟨ret_bool (by rw [HSM.out]; simp [alikeB, e5]), hb2 _ _⟩
  have g5 : ((ks.length : Int) != (ks'.length : Int)) = false := by simp only [bne, e5]; rfl
  have HL4 : Hid (ns.length = ns'.length) := by show _ = _; have := beq_iff_eq.1 e4; omega
  have HL5 : Hid (ks.length = ks'.length) := by show _ = _; have := beq_iff_eq.1 e5; omega
  have HSM' : Hid (sameF (f + 1) (.mk s n t ns ks) (.mk s' n' t' ns' ks') = (eqTo ns ns' ns.length && sameTo f ks ks' ks.length)) := by
    show _ = _
    rw [HSM.out]
    have := HL4.out
    have := HL5.out
    simp [alikeB, eqNs, e1, e2, e3, *]
  clear HSM
  obtain ⟨h1, h2, h3⟩ := hs
  obtain ⟨h1', h2', h3'⟩ := hs'
  obtain ⟨hk3, b, off, C, hka, hc, hr⟩ := hK
  obtain ⟨hk3', b', off', C', hka', hc', hr'⟩ := hK'
  go_enter Try.func24, Try.ntmps24
  go_wp2_with fail
  clear e1 e2 e3 e4 e5 g1 g2 g3 g4 g5
  have TB := fun W => two_boxes (w := w) (W := W) (x0 := .int .i64 s) (x1 := .int .i64 n) (x2 := .string t) (x3 := .slice na ns.length nc) (x4 := .slice ka ks.length kc) (y0 := .int .i64 s') (y1 := .int .i64 n') (y2 := .string t') (y3 := .slice na' ns'.length nc') (y4 := .slice ka' ks'.length kc')
  go_loopw [5] (fun i wr => ∃ k : Nat, k ≤ ns.length ∧ i = .int .i64 k ∧ Below (w.heap.size + 1 + 1) ((w.alloc (.cells #[.int .i64 s, .int .i64 n, .string t, .slice na ns.length nc, .slice ka ks.length kc] 30)).alloc (.cells #[.int .i64 s', .int .i64 n', .string t', .slice na' ns'.length nc', .slice ka' ks'.length kc'] 30)) wr ∧ eqTo ns ns' k = true) (fun i _ => ns.length - (intOf i).toNat)
  case atStart => exact ⟨0, Nat.zero_le _, rfl, Below.refl _ _, rfl⟩
  case round =>
    obtain ⟨k, hk, rfl, hbel, hp⟩ := hrel
    have HP : Hid (eqTo ns ns' k = true) := hp
    clear hp
    obtain ⟨⟨p0, p1, p2, p3, p4⟩, ⟨q0, q1, q2, q3, q4⟩, hbw, hz⟩ := TB wr hbel
    by_cases hlt : k < ns.length
    · have hlt' : k < ns'.length := by have := HL4.out; omega
      obtain ⟨d, doff, rfl, hdB, hcc⟩ := h1 (by intro e; simp [e] at hlt)
      obtain ⟨d', doff', rfl, hdB', hcc'⟩ := h1' (by intro e; simp [e] at hlt')
      have hck : wr.cell? ⟨d, doff + k, none⟩ = some (.string (nth ns k)) := (hbw.cell (p := ⟨d, doff + k, none⟩) (by show d < _; omega)).trans (hcc k hlt)
      have hck' : wr.cell? ⟨d', doff' + k, none⟩ = some (.string (nth ns' k)) := (hbw.cell (p := ⟨d', doff' + k, none⟩) (by show d' < _; omega)).trans (hcc' k hlt')
      have hki : (k : Int) < (ns.length : Int) := by omega
      have hki' : (k : Int) < (ns'.length : Int) := by omega
      clear hcc hcc' h1 h1' h2 h2'
      cases he : ((nth ns k).toList == (nth ns' k).toList)
      · have he' : ((nth ns k).toList != (nth ns' k).toList) = true := by simp only [bne, he]; rfl
        go_wp2_with fail
        go_quiet (fail)
        go_wp2_with fail
        go_ret
        exact ⟨ret_bool (by rw [HSM'.out, eqTo_false ns ns' _ k hlt he]; rfl), below_drews hbw _⟩
      · have he' : ((nth ns k).toList != (nth ns' k).toList) = false := by simp only [bne, he]; rfl
        go_wp2_with fail
        go_quiet (fail)
        go_wp2_with fail
        go_roundw
        case rel => exact ⟨k + 1, by omega, by go_num, below_drews hbel _, by rw [eqTo_succ, HP.out, he]; rfl⟩
        case measure => simp [intOf]; omega
    · have ek : k = ns.length := by omega
      subst ek
      have hE2 : Hid (sameF (f + 1) (.mk s n t ns ks) (.mk s' n' t' ns' ks') = sameTo f ks ks' ks.length) := by show _ = _; rw [HSM'.out, HP.out]; rfl
      clear HSM' HP h1 h1' h2 h2' hlt hk
      go_wp2_with fail
      go_loopw [6] (fun i w2 => ∃ k : Nat, k ≤ ks.length ∧ i = .int .i64 k ∧ Below (w.heap.size + 1 + 1) ((w.alloc (.cells #[.int .i64 s, .int .i64 n, .string t, .slice na ns.length nc, .slice ka ks.length kc] 30)).alloc (.cells #[.int .i64 s', .int .i64 n', .string t', .slice na' ns'.length nc', .slice ka' ks'.length kc'] 30)) w2 ∧ sameTo f ks ks' k = true) (fun i _ => ks.length - (intOf i).toNat)
      case atStart => exact ⟨0, Nat.zero_le _, rfl, hbel, rfl⟩
      case round =>
        clear hbel p0 p1 p2 p3 p4 q0 q1 q2 q3 q4 hbw hz
        rename_i wr
        obtain ⟨k, hk, rfl, hbel, hp⟩ := hrel
        have HP : Hid (sameTo f ks ks' k = true) := hp
        clear hp
        obtain ⟨⟨p0, p1, p2, p3, p4⟩, ⟨q0, q1, q2, q3, q4⟩, hbw, hz⟩ := TB wr hbel
        by_cases hlt : k < ks.length
        · have hlt' : k < ks'.length := by have := HL5.out; omega
          obtain ⟨rfl, hbB⟩ := hka (by intro e; simp [e] at hlt)
          obtain ⟨rfl, hbB'⟩ := hka' (by intro e; simp [e] at hlt')
          have KF : ∀ W, Below w.heap.size w W → (∀ j, j < 5 → W.cell? ⟨b, off + k * 5 + j, none⟩ = some (C k j)) ∧ ∀ j, j < 5 → W.cell? ⟨b', off' + k * 5 + j, none⟩ = some (C' k j) := fun W hb =>
            ⟨fun j hj => (hb.cell (p := ⟨b, off + k * 5 + j, none⟩) (by show b < _; omega)).trans (hc k hlt j hj), fun j hj => (hb.cell (p := ⟨b', off' + k * 5 + j, none⟩) (by show b' < _; omega)).trans (hc' k hlt' j hj)⟩
          obtain ⟨u, u'⟩ := KF wr hbw
          have u0 : wr.cell? ⟨b, off + k * 5, none⟩ = some (C k 0) := u 0 (by omega)
          have u1 := u 1 (by omega)
          have u2 := u 2 (by omega)
          have u3 := u 3 (by omega)
          have u4 := u 4 (by omega)
          have v0 : wr.cell? ⟨b', off' + k * 5, none⟩ = some (C' k 0) := u' 0 (by omega)
          have v1 := u' 1 (by omega)
          have v2 := u' 2 (by omega)
          have v3 := u' 3 (by omega)
          have v4 := u' 4 (by omega)
          have hki : (k : Int) < (ks.length : Int) := by omega
          have hki' : (k : Int) < (ks'.length : Int) := by omega
          have hih := IH (kth ks k) (kth ks' k) wr.drew B _ _ (hf3 k hlt) ((hr k hlt).under (hbw.drew.mono hB)) ((hr' k hlt').under (hbw.drew.mono hB)) (by simp; omega)
          clear u u' hr hr' hka hka'
          cases hsb : sameF f (kth ks k) (kth ks' k)
          · rw [hsb] at hih
            have hres : Hid (sameF (f + 1) (.mk s n t ns ks) (.mk s' n' t' ns' ks') = false) := by show _ = _; rw [hE2.out, sameTo_false f ks ks' _ k hlt hsb]
            go_wp2_with fail
            go_region_held3 (fun w' => w'.cell? ⟨w.heap.size, 4, none⟩ = some (.slice (some ⟨b, off, none⟩) ks.length kc) ∧ w'.cell? ⟨w.heap.size + 1, 4, none⟩ = some (.slice (some ⟨b', off', none⟩) ks'.length kc') ∧ w'.cell? ⟨b, off + k * 5, none⟩ = some (C k 0) ∧ w'.cell? ⟨b, off + k * 5 + 1, none⟩ = some (C k 1) ∧ w'.cell? ⟨b, off + k * 5 + 2, none⟩ = some (C k 2) ∧ w'.cell? ⟨b, off + k * 5 + 3, none⟩ = some (C k 3) ∧ w'.cell? ⟨b, off + k * 5 + 4, none⟩ = some (C k 4) ∧ w'.cell? ⟨b', off' + k * 5, none⟩ = some (C' k 0) ∧ w'.cell? ⟨b', off' + k * 5 + 1, none⟩ = some (C' k 1) ∧ w'.cell? ⟨b', off' + k * 5 + 2, none⟩ = some (C' k 2) ∧ w'.cell? ⟨b', off' + k * 5 + 3, none⟩ = some (C' k 3) ∧ w'.cell? ⟨b', off' + k * 5 + 4, none⟩ = some (C' k 4)) (go_keep)
              (first
                | (
                  go_at_call 24
                  refine hih.mono ?_
                  rintro e w2 ⟨rfl, hb2'⟩
                  have hbel2 := hbel.trans ((below_undrew hb2').mono (by omega))
                  obtain ⟨⟨i0, i1, i2, i3, i4⟩, ⟨o0, o1, o2, o3, o4⟩, hbw2, hz2⟩ := TB w2 hbel2
                  obtain ⟨m, m'⟩ := KF w2 hbw2
                  have m0 : w2.cell? ⟨b, off + k * 5, none⟩ = some (C k 0) := m 0 (by omega)
                  have m1 := m 1 (by omega)
                  have m2 := m 2 (by omega)
                  have m3 := m 3 (by omega)
                  have m4 := m 4 (by omega)
                  have l0 : w2.cell? ⟨b', off' + k * 5, none⟩ = some (C' k 0) := m' 0 (by omega)
                  have l1 := m' 1 (by omega)
                  have l2 := m' 2 (by omega)
                  have l3 := m' 3 (by omega)
                  have l4 := m' 4 (by omega)
                  clear m m'))
            all_goals
              go_wp2_with fail
              go_ret
              exact ⟨ret_bool hres.out.symm, hbw2⟩
          · rw [hsb] at hih
            go_wp2_with fail
            go_region_held3 (fun w' => w'.cell? ⟨w.heap.size, 4, none⟩ = some (.slice (some ⟨b, off, none⟩) ks.length kc) ∧ w'.cell? ⟨w.heap.size + 1, 4, none⟩ = some (.slice (some ⟨b', off', none⟩) ks'.length kc') ∧ w'.cell? ⟨b, off + k * 5, none⟩ = some (C k 0) ∧ w'.cell? ⟨b, off + k * 5 + 1, none⟩ = some (C k 1) ∧ w'.cell? ⟨b, off + k * 5 + 2, none⟩ = some (C k 2) ∧ w'.cell? ⟨b, off + k * 5 + 3, none⟩ = some (C k 3) ∧ w'.cell? ⟨b, off + k * 5 + 4, none⟩ = some (C k 4) ∧ w'.cell? ⟨b', off' + k * 5, none⟩ = some (C' k 0) ∧ w'.cell? ⟨b', off' + k * 5 + 1, none⟩ = some (C' k 1) ∧ w'.cell? ⟨b', off' + k * 5 + 2, none⟩ = some (C' k 2) ∧ w'.cell? ⟨b', off' + k * 5 + 3, none⟩ = some (C' k 3) ∧ w'.cell? ⟨b', off' + k * 5 + 4, none⟩ = some (C' k 4)) (go_keep)
              (first
                | (
                  go_at_call 24
                  refine hih.mono ?_
                  rintro e w2 ⟨rfl, hb2'⟩
                  have hbel2 := hbel.trans ((below_undrew hb2').mono (by omega))
                  obtain ⟨⟨i0, i1, i2, i3, i4⟩, ⟨o0, o1, o2, o3, o4⟩, hbw2, hz2⟩ := TB w2 hbel2
                  obtain ⟨m, m'⟩ := KF w2 hbw2
                  have m0 : w2.cell? ⟨b, off + k * 5, none⟩ = some (C k 0) := m 0 (by omega)
                  have m1 := m 1 (by omega)
                  have m2 := m 2 (by omega)
                  have m3 := m 3 (by omega)
                  have m4 := m 4 (by omega)
                  have l0 : w2.cell? ⟨b', off' + k * 5, none⟩ = some (C' k 0) := m' 0 (by omega)
                  have l1 := m' 1 (by omega)
                  have l2 := m' 2 (by omega)
                  have l3 := m' 3 (by omega)
                  have l4 := m' 4 (by omega)
                  clear m m'))
            all_goals
              go_wp2_with fail
              go_roundw
              case rel => exact ⟨k + 1, by omega, by go_num, hbel2, by rw [sameTo_succ, HP.out, hsb]; rfl⟩
              case measure => simp [intOf]; omega
        · go_wp2_with fail
          go_ret
          have e : k = ks.length := by omega
          exact ⟨ret_bool (by rw [hE2.out, ← e, HP.out]), hbw⟩

theorem l12Same_any (f : Nat) : SmOk f := by
  induction f with
  | zero => intro x y w B v v' h; exact h.elim
  | succ f ih => exact l12Same_step f ih

set_option maxHeartbeats 800000 in
theorem specSame_any (x y : V) (w : World) (B : Nat) (v v' : Value) (hR : Rep w (· < B) x v) (hR' : Rep w (· < B) y v') (hB : B ≤ w.heap.size) :
    Calls Try.prog 13 #[v, v'] w fun e w' => e = .returned (.bool (sameV x y)) ∧ Below w.heap.size w w' := by
  have hx := hR
  have hy := hR'
  obtain ⟨s, n, t, ns, ks⟩ := x
  obtain ⟨s', n', t', ns', ks'⟩ := y
  obtain ⟨na, ka, nc, kc, rfl, -⟩ := hR.inv
  obtain ⟨na', ka', nc', kc', rfl, -⟩ := hR'.inv
  clear hR hR'
  have TB := fun W => two_boxes (w := w) (W := W) (x0 := .int .i64 s) (x1 := .int .i64 n) (x2 := .string t) (x3 := .slice na ns.length nc) (x4 := .slice ka ks.length kc) (y0 := .int .i64 s') (y1 := .int .i64 n') (y2 := .string t') (y3 := .slice na' ns'.length nc') (y4 := .slice ka' ks'.length kc')
  have hT0 := Below.refl (w.heap.size + 1 + 1) ((w.alloc (.cells #[.int .i64 s, .int .i64 n, .string t, .slice na ns.length nc, .slice ka ks.length kc] 30)).alloc (.cells #[.int .i64 s', .int .i64 n', .string t', .slice na' ns'.length nc', .slice ka' ks'.length kc'] 30))
  have hk1 := specOk_any (.mk s n t ns ks) _ B _ (hx.under ((TB _ hT0).2.2.1.mono hB)) (by simp; omega)
  cases hok : okV (.mk s n t ns ks)
  · rw [hok] at hk1
    go_enter Try.func13, Try.ntmps13
    go_wp2_with (go_at_call_of 7 (Value.string t); refine hk1.mono ?_; rintro e w1 ⟨rfl, hb1⟩)
    go_ret
    exact ⟨ret_bool (by simp [sameV, hok]), (TB _ hT0).2.2.1.trans (hb1.mono (by simp; omega))⟩
  rw [hok] at hk1
  cases hok' : okV (.mk s' n' t' ns' ks')
  · go_enter Try.func13, Try.ntmps13
    go_wp2_with (first
      | (
        go_at_call_of 7 (Value.string t)
        refine hk1.mono ?_
        rintro e w1 ⟨rfl, hb1⟩
        have hT1 := hT0.trans (hb1.mono (by simp))
        obtain ⟨⟨p0, p1, p2, p3, p4⟩, ⟨q0, q1, q2, q3, q4⟩, hbw1, hz1⟩ := TB w1 hT1)
      | (
        go_at_call_of 7 (Value.string t')
        have hk2 := specOk_any (.mk s' n' t' ns' ks') w1 B _ (hy.under (hbw1.mono hB)) (by omega)
        rw [hok'] at hk2
        refine hk2.mono ?_
        rintro e w2 ⟨rfl, hb2'⟩))
    go_ret
    exact ⟨ret_bool (by simp [sameV, hok']), hbw1.trans (hb2'.mono (by omega))⟩
  have hfx := fit_parts 16 _ 600 (by omega) (okV_parts _ hok)
  go_enter Try.func13, Try.ntmps13
  go_wp2_with (first
    | (
      go_at_call_of 7 (Value.string t)
      refine hk1.mono ?_
      rintro e w1 ⟨rfl, hb1⟩
      have hT1 := hT0.trans (hb1.mono (by simp))
      obtain ⟨⟨p0, p1, p2, p3, p4⟩, ⟨q0, q1, q2, q3, q4⟩, hbw1, hz1⟩ := TB w1 hT1)
    | (
      go_at_call_of 7 (Value.string t')
      have hk2 := specOk_any (.mk s' n' t' ns' ks') w1 B _ (hy.under (hbw1.mono hB)) (by omega)
      rw [hok'] at hk2
      refine hk2.mono ?_
      rintro e w2 ⟨rfl, hb2'⟩
      have hT2 := hT1.trans (hb2'.mono (by omega))
      obtain ⟨⟨p0', p1', p2', p3', p4'⟩, ⟨q0', q1', q2', q3', q4'⟩, hbw2, hz2⟩ := TB w2 hT2)
    | (
      go_at_call 24
      refine (l12Same_any 16 (.mk s n t ns ks) (.mk s' n' t' ns' ks') w2 B _ _ hfx (hx.under (hbw2.mono hB)) (hy.under (hbw2.mono hB)) (by omega)).mono ?_
      rintro e w3 ⟨rfl, hb3⟩))
  go_ret
  exact ⟨ret_bool (by simp [sameV, hok, hok']), hbw2.trans (hb3.mono (by omega))⟩
end Go.Proofs.Ytoohlmiegjaicaa
