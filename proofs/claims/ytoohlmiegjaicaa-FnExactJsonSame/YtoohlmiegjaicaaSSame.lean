/-
  The program's JsonSame.
-/
import Derived.Test.YtoohlmiegjaicaaSJoin2
import Derived.Test.YtoohlmiegjaicaaCount
namespace Go.Proofs.Ytoohlmiegjaicaa
set_option linter.unusedSimpArgs false
set_option linter.unusedVariables false
open Go.RowKit

theorem joinTrees_any (f : Nat) : JnOk f := by
  induction f with
  | zero => exact joinTrees_step 0 fun f' e => by omega
  | succ f ih =>
    refine joinTrees_step (f + 1) fun f' e => ?_
    have : f' = f := by omega
    subst this
    exact ih

theorem plainV_names (s n : Int) (t : ByteArray) (ns : List ByteArray) (kl : Nat) (h : plainV s n t ns kl = true) : ns.length = 0 ∨ ns.length = kl := by
  simp only [plainV, Bool.or_eq_true, Bool.and_eq_true, beq_iff_eq] at h
  rcases h with ((((h | h) | h) | h) | h) | h
  · exact Or.inl h.1.2
  · exact Or.inl h.1.2
  · exact Or.inl h.1.2
  · exact Or.inl h.1.2
  · exact Or.inl h.2
  · right; have := h.1.2; omega

theorem fit_parts2 (f : Nat) : ∀ (x : V) (l : Int), l ≤ 600 → 0 ≤ partsF f x l → fit f x ∧ (cntV x : Int) + partsF f x l ≤ l := by
  induction f with
  | zero => intro x l _ h; simp [partsF] at h
  | succ f ih =>
    intro x l hl h
    obtain ⟨s, n, t, ns, ks⟩ := x
    rw [partsF] at h ⊢
    split at h
    · omega
    rename_i hc
    rw [if_neg hc]
    have key : ∀ (ks : List V) (n : Int), n ≤ 600 → 0 ≤ ks.foldl (fun n k => if 0 ≤ n then partsF f k n else n) n → (cntL ks : Int) + ks.foldl (fun n k => if 0 ≤ n then partsF f k n else n) n ≤ n ∧ ∀ i, i < ks.length → fit f (kth ks i) := by
      intro ks
      induction ks with
      | nil => intro n _ _; exact ⟨by simp [cntL], fun i hi => by simp at hi⟩
      | cons k ks ih2 =>
        intro n hn6 hn
        rw [List.foldl_cons] at hn ⊢
        by_cases h0 : 0 ≤ n
        · rw [if_pos h0] at hn ⊢
          by_cases h1 : 0 ≤ partsF f k n
          · have hcp := ih k n hn6 h1
            have h2 := ih2 (partsF f k n) (by omega) hn
            refine ⟨by simp only [cntL]; omega, fun i hi => ?_⟩
            match i, hi with
            | 0, _ => exact hcp.1
            | i + 1, hi => exact h2.2 i (by simpa using hi)
          · rw [fold_neg f ks _ (by omega)] at hn; omega
        · rw [if_neg h0, fold_neg f ks _ (by omega)] at hn; omega
    have h2 := key ks (l - 1) (by omega) h
    have hp : plainV s n t ns ks.length = true := by
      cases e : plainV s n t ns ks.length
      · exact absurd (Or.inr e) hc
      · rfl
    have h3 := plainV_names s n t ns ks.length hp
    have hlc := len_cntL ks
    have h5 := h2.1
    have h6 : 0 ≤ List.foldl (fun n k => if 0 ≤ n then partsF f k n else n) (l - 1) ks := h
    have hcv : cntV (.mk s n t ns ks) = 1 + cntL ks := by simp only [cntV]
    refine ⟨⟨by show ks.length ≤ 600; omega, ⟨by show ns.length ≤ 600; omega, by omega⟩, h2.2⟩, ?_⟩
    rw [hcv]
    have h7 : (cntL ks : Int) + List.foldl (fun n k => if 0 ≤ n then partsF f k n else n) (l - 1) ks ≤ l - 1 := h5
    push_cast
    show (1 : Int) + cntL ks + List.foldl (fun n k => if 0 ≤ n then partsF f k n else n) (l - 1) ks ≤ l
    omega
theorem fit_parts (f : Nat) (x : V) (l : Int) (hl : l ≤ 600) (h : 0 ≤ partsF f x l) : fit f x := (fit_parts2 f x l hl h).1

theorem Kids.one {W : World} {x : V} {p : Nat} {c0 c1 c2 c3 c4 : Value} (h5 : Five W p c0 c1 c2 c3 c4) (hr : Rep W (· < W.heap.size) x (.agg #[c0, c1, c2, c3, c4])) (hp : p < W.heap.size) : Kids W (· < W.heap.size) [x] (some ⟨p, 0, none⟩) := by
  refine ⟨by simp, p, 0, fun i j => if j = 0 then c0 else if j = 1 then c1 else if j = 2 then c2 else if j = 3 then c3 else c4, fun _ => ⟨rfl, hp⟩, fun i hi j hj => ?_, fun i hi => ?_⟩
  · have hi0 : i = 0 := by simp at hi; omega
    subst hi0
    have : j = 0 ∨ j = 1 ∨ j = 2 ∨ j = 3 ∨ j = 4 := by omega
    rcases this with rfl | rfl | rfl | rfl | rfl
    · exact h5.1
    · exact h5.2.1
    · exact h5.2.2.1
    · exact h5.2.2.2.1
    · exact h5.2.2.2.2
  · have hi0 : i = 0 := by simp at hi; omega
    subst hi0
    exact hr

theorem Five.new' (w : World) (N : Nat) (hN : w.heap.size = N) (c0 c1 c2 c3 c4 : Value) (T : TypeId) : Five (w.alloc (.cells #[c0, c1, c2, c3, c4] T)) N c0 c1 c2 c3 c4 := by
  subst hN; exact Five.new w c0 c1 c2 c3 c4 T

/-- Whether two values are ok and the same. -/
def sameV (x y : V) : Bool := okV x && okV y && sameF 16 x y

set_option maxHeartbeats 800000 in
theorem implSame_any (x y : V) (w : World) (B : Nat) (v v' : Value) (hR : Rep w (· < B) x v) (hR' : Rep w (· < B) y v') (hB : B ≤ w.heap.size) :
    Calls Try.prog 14 #[v, v'] w fun e w' => e = .returned (.bool (sameV x y)) ∧ Below w.heap.size w w' := by
  have hx := hR
  have hy := hR'
  obtain ⟨s, n, t, ns, ks⟩ := x
  obtain ⟨s', n', t', ns', ks'⟩ := y
  obtain ⟨na, ka, nc, kc, rfl, -⟩ := hR.inv
  obtain ⟨na', ka', nc', kc', rfl, -⟩ := hR'.inv
  clear hR hR'
  have hb2 : ∀ o1 o2, Below w.heap.size w ((w.alloc o1).alloc o2) := fun o1 o2 => below_box2 w o1 o2
  have F0 := fun o2 => (Five.new w (.int .i64 s) (.int .i64 n) (.string t) (.slice na ns.length nc) (.slice ka ks.length kc) 30).keep (below_box _ o2) (by simp)
  have F1 := fun o1 => (Five.new (w.alloc o1) (.int .i64 s') (.int .i64 n') (.string t') (.slice na' ns'.length nc') (.slice ka' ks'.length kc') 30)
  have hk1 := fun o1 o2 => implOk_any (.mk s n t ns ks) ((w.alloc o1).alloc o2) B _ (hx.under ((hb2 o1 o2).mono hB)) (by simp; omega)
  have hk2 := fun W (hb : Below w.heap.size w W) => implOk_any (.mk s' n' t' ns' ks') W B _ (hy.under (hb.mono hB)) (by have := hb.size; omega)
  cases hok : okV (.mk s n t ns ks)
  · rw [hok] at hk1
    go_enter Try.func14, Try.ntmps14
    go_wp2_with (go_at_call 9; refine (hk1 _ _).mono ?_; rintro e w1 ⟨rfl, hb1⟩)
    go_ret
    exact ⟨ret_bool (by simp [sameV, hok]), (hb2 _ _).trans (hb1.mono (by simp; omega))⟩
  rw [hok] at hk1
  have hk2' := fun o1 o2 W (hb : Below ((w.alloc o1).alloc o2).heap.size ((w.alloc o1).alloc o2) W) => hk2 W ((hb2 o1 o2).trans (hb.mono (by simp; omega)))
  cases hok' : okV (.mk s' n' t' ns' ks')
  · rw [hok'] at hk2'
    go_enter Try.func14, Try.ntmps14
    go_wp2_with (first
      | (
        go_at_call_of 9 (Value.string t)
        refine (hk1 _ _).mono ?_
        rintro e w1 ⟨rfl, hb1⟩
        obtain ⟨p0, p1, p2, p3, p4⟩ := (F0 _).keep hb1 (by simp; omega)
        have G := (F1 _).keep hb1 (by simp)
        rw [show ∀ o, (w.alloc o).heap.size = w.heap.size + 1 by intro o; simp] at G
        obtain ⟨q0, q1, q2, q3, q4⟩ := G)
      | (
        go_at_call_of 9 (Value.string t')
        refine (hk2' _ _ w1 hb1).mono ?_
        rintro e w2 ⟨rfl, hb2'⟩))
    go_ret
    exact ⟨ret_bool (by simp [sameV, hok']), ((hb2 _ _).trans (hb1.mono (by simp; omega))).trans (hb2'.mono (by have := hb1.size; simp at this; omega))⟩
  rw [hok'] at hk2'
  have hfx := fit_parts 16 _ 600 (by omega) (okV_parts _ hok)
  go_enter Try.func14, Try.ntmps14
  go_wp2_with (first
    | (
      go_at_call_of 9 (Value.string t)
      refine (hk1 _ _).mono ?_
      rintro e w1 ⟨rfl, hb1⟩
      obtain ⟨p0, p1, p2, p3, p4⟩ := (F0 _).keep hb1 (by simp; omega)
      have G := (F1 _).keep hb1 (by simp)
      rw [show ∀ o, (w.alloc o).heap.size = w.heap.size + 1 by intro o; simp] at G
      obtain ⟨q0, q1, q2, q3, q4⟩ := G)
    | (
      go_at_call_of 9 (Value.string t')
      refine (hk2' _ _ w1 hb1).mono ?_
      rintro e w2 ⟨rfl, hb2'⟩))
  have z1 := hb1.size
  simp at z1
  have z2 := hb2'.size
  have hbw : Below w.heap.size w w2 := ((hb2 _ _).trans (hb1.mono (by simp; omega))).trans (hb2'.mono (by omega))
  have Gx : Five w2 w.heap.size (.int .i64 s) (.int .i64 n) (.string t) (.slice na ns.length nc) (.slice ka ks.length kc) := ((F0 _).keep hb1 (by simp; omega)).keep hb2' (by omega)
  have Gy' := ((F1 _).keep hb1 (by simp)).keep hb2' (by simp; omega)
  rw [show ∀ o, (w.alloc o).heap.size = w.heap.size + 1 by intro o; simp] at Gy'
  obtain ⟨p0', p1', p2', p3', p4'⟩ := id Gx
  obtain ⟨q0', q1', q2', q3', q4'⟩ := id Gy'
  have hn1 : w.heap.size ≠ w2.heap.size := by omega
  have hn2 : w.heap.size + 1 ≠ w2.heap.size := by omega
  have hn3 : w.heap.size ≠ w2.heap.size + 1 := by omega
  have hn4 : w.heap.size + 1 ≠ w2.heap.size + 1 := by omega
  clear hb1 hk1 hk2 hk2' p0 p1 p2 p3 p4 q0 q1 q2 q3 q4
  have hfx1 : ∀ i, i < [V.mk s n t ns ks].length → fit 16 (kth [V.mk s n t ns ks] i) := fun i hi => by
    have hi0 : i = 0 := by simp at hi; omega
    subst hi0
    exact hfx
  have hJ := fun W (hb : Below w.heap.size w W) p q c d (k1 : Kids W (· < W.heap.size) [.mk s n t ns ks] (some ⟨p, 0, none⟩)) (k2 : Kids W (· < W.heap.size) [.mk s' n' t' ns' ks'] (some ⟨q, 0, none⟩)) => joinTrees_any 16 [.mk s n t ns ks] [.mk s' n' t' ns' ks'] W W.heap.size (some ⟨p, 0, none⟩) (some ⟨q, 0, none⟩) c d hfx1 rfl (by simp) k1 k2 (Nat.le_refl _)
  unfold pairsV at hJ
  have hRx : ∀ W, Below w.heap.size w W → Rep W (· < W.heap.size) (.mk s n t ns ks) (.agg #[.int .i64 s, .int .i64 n, .string t, .slice na ns.length nc, .slice ka ks.length kc]) := fun W hb => (hx.under (hb.mono hB)).sub fun k hk => by have := hb.size; omega
  have hRy : ∀ W, Below w.heap.size w W → Rep W (· < W.heap.size) (.mk s' n' t' ns' ks') (.agg #[.int .i64 s', .int .i64 n', .string t', .slice na' ns'.length nc', .slice ka' ks'.length kc']) := fun W hb => (hy.under (hb.mono hB)).sub fun k hk => by have := hb.size; omega
  go_region_held3 (fun w' => w'.cell? ⟨w.heap.size, 0, none⟩ = some (.int .i64 s) ∧ w'.cell? ⟨w.heap.size, 1, none⟩ = some (.int .i64 n) ∧ w'.cell? ⟨w.heap.size, 2, none⟩ = some (.string t) ∧ w'.cell? ⟨w.heap.size, 3, none⟩ = some (.slice na ns.length nc) ∧ w'.cell? ⟨w.heap.size, 4, none⟩ = some (.slice ka ks.length kc) ∧
      w'.cell? ⟨w.heap.size + 1, 0, none⟩ = some (.int .i64 s') ∧ w'.cell? ⟨w.heap.size + 1, 1, none⟩ = some (.int .i64 n') ∧ w'.cell? ⟨w.heap.size + 1, 2, none⟩ = some (.string t') ∧ w'.cell? ⟨w.heap.size + 1, 3, none⟩ = some (.slice na' ns'.length nc') ∧ w'.cell? ⟨w.heap.size + 1, 4, none⟩ = some (.slice ka' ks'.length kc')) (go_keep)
    (first
      | (
        go_at_call 26
        refine (valuePairs_any _).mono ?_
        rintro e w3 ⟨rfl, hb3⟩
        unfold pairsV
        have hb3u := below_undrew hb3
        have hbD : Below w2.heap.size w2 w3 := by
          first
            | exact hb3u
            | exact (below_box w2 _).trans (hb3u.mono (by simp))
            | exact (below_box2 w2 _ _).trans (hb3u.mono (by simp; omega))
        obtain ⟨u0, u1, u2, u3, u4⟩ := Gx.keep hbD (by omega)
        obtain ⟨v0, v1, v2, v3, v4⟩ := Gy'.keep hbD (by omega)
        have z3 := hbD.size
        have hbw3 : Below w.heap.size w w3 := hbw.trans (hbD.mono (by omega)))
      | (
        go_at_call 25
        refine (hJ _ ?_ _ _ _ _ (Kids.one (c0 := .int .i64 s) (c1 := .int .i64 n) (c2 := .string t) (c3 := .slice na ns.length nc) (c4 := .slice ka ks.length kc) ?_ (hRx _ ?_) ?_) (Kids.one (c0 := .int .i64 s') (c1 := .int .i64 n') (c2 := .string t') (c3 := .slice na' ns'.length nc') (c4 := .slice ka' ks'.length kc') ?_ (hRy _ ?_) ?_)).mono ?_
        any_goals
          first
            | exact hbw3
            | exact hbw3.trans ((below_box w3 _).mono (by omega))
            | exact hbw3.trans ((below_box2 w3 _ _).mono (by omega))
            | exact Five.new' _ _ (by simp) _ _ _ _ _ _
            | exact (Five.new' _ _ (by simp) _ _ _ _ _ _).keep (below_box _ _) (by simp)
            | exact (Five.new' _ _ (by simp) _ _ _ _ _ _).keep hb3u (by simp)
            | exact ((Five.new' _ _ (by simp) _ _ _ _ _ _).keep (below_box _ _) (by simp)).keep hb3u (by simp; omega)
            | exact ((Five.new' _ _ (by simp) _ _ _ _ _ _).keep hb3u (by simp)).keep (below_box _ _) (by have := hb3u.size; simp at this; omega)
            | (have := hb3u.size; simp at this; simp; omega)
            | (have := hb3u.size; simp at this; omega)
            | (simp; done)
            | (simp; omega)
        rintro e w4 ⟨r, rl, rc, rfl, hb4⟩
        have hD4 : Below w2.heap.size w2 w4 := by
          first
            | exact hbD.trans (hb4.mono z3)
            | exact (hbD.trans ((below_box w3 _).mono z3)).trans (hb4.mono (by simp; omega))
            | exact (hbD.trans ((below_box2 w3 _ _).mono z3)).trans (hb4.mono (by simp; omega))
        obtain ⟨u0', u1', u2', u3', u4'⟩ := Gx.keep hD4 (by omega)
        obtain ⟨v0', v1', v2', v3', v4'⟩ := Gy'.keep hD4 (by omega)))
  all_goals
    go_wp2_with fail
    go_ret
    exact ⟨ret_bool (by simp [sameV, hok, hok', sameTo, kth]), hbw.trans (hD4.mono (by omega))⟩
end Go.Proofs.Ytoohlmiegjaicaa
