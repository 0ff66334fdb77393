import Derived.Test.YtmemijccbmnaaaaGreatJ12
import Derived.Test.YtmemijccbmnaaaaGreatJ2
import Derived.Test.YtmemijccbmnaaaaGreatJ13
import Derived.Test.YtmemijccbmnaaaaGreatJ9
import Derived.Maps.AppendAt
import Derived.Deep.Upon
import Derived.Deep.RegionLaw
import Derived.Test.YtmemijccbmnaaaaGreatJ14
import Derived.BigQuiet
namespace Go.Proofs.YtmemijccbmnaaaaGreat
set_option linter.unusedSimpArgs false
set_option linter.unusedVariables false
open Go.RowKit Go.Maps

theorem hidG {q : Prop} (h : q) : Hid q := h
theorem own_none {W : World} {base n : Nat} (h : W.heap[n]? = some (.cells #[] 9 (0, 0))) (hb : base ≤ n) : W.ownsRow base 9 1 (.slice (some ⟨n, 0, none⟩) 0 0) 0 [] :=
  ⟨rfl, .inr ⟨n, 0, #[], rfl, hb, h, Nat.le_refl _, by simp, rfl, rfl⟩⟩
theorem heap_at {W : World} {o : Obj} {n : Nat} (h : W.heap.size = n) : (W.alloc o).heap[n]? = some o := h ▸ heap_alloc_new W o
theorem heap_under {W : World} {o o' : Obj} {n : Nat} (h : W.heap[n]? = some o') : (W.alloc o).heap[n]? = some o' := (Below.heap_alloc W o n (by
  rcases Nat.lt_or_ge n W.heap.size with hlt | hge
  · exact hlt
  · rw [Array.getElem?_eq_none hge] at h; cases h)).trans h

theorem row5_of_heap {W : World} {b : Nat} {c0 c1 c2 c3 c4 : Value} (h : W.heap[b]? = some (.cells #[c0, c1, c2, c3, c4] 45 (0, 0))) : Row5 W b c0 c1 c2 c3 c4 :=
  ⟨_, h, rfl, fun i hi => by
    have : i = 0 ∨ i = 1 ∨ i = 2 ∨ i = 3 ∨ i = 4 := by omega
    rcases this with rfl | rfl | rfl | rfl | rfl <;> rfl⟩
theorem far_kept {wA W w2 : World} {g0 N j : Nat} {u : Value} (hg : W.grownBy w2 (some g0)) (hb : Below wA.heap.size wA W) (hN : N < wA.heap.size) (hg0 : wA.heap.size ≤ g0) (k : wA.cell? ⟨N, j, none⟩ = some u) : w2.cell? ⟨N, j, none⟩ = some u :=
  ((hg.cell_far ⟨N, j, none⟩ (by show N < _; have := hb.size; omega) (by simp; omega)).trans (hb.cell (p := ⟨N, j, none⟩) hN)).trans k
theorem below_far {wA W w2 : World} {g0 : Nat} (hg : W.grownBy w2 (some g0)) (hb : Below wA.heap.size wA W) (hg0 : wA.heap.size ≤ g0) : Below wA.heap.size wA w2 := hb.grown hg hb.size (fun k hk => by cases hk; omega)
/-- append([]string{}, names...) at a step of a region. -/
theorem step_names {w : World} {ops : Array Oper} {o : Oper} {a : Act} {K : Act → World → Prop} {Q : Exit → Act → World → Prop} {E : Prop} (hgd : o.guard = none) (s x : Operand)
    (ho : o.op = .call { callee := .builtin .append, args := #[s, x], argTypes := #[26, 26] }) (base g0 : Nat) (hs : a.eval s = .slice (some ⟨g0, 0, none⟩) 0 0)
    (hE : w.heap[g0]? = some (.cells #[] 9 (0, 0))) (hb : base ≤ g0) (P : Nat → Prop) (ns : List ByteArray) (na : Option Addr) (nc : Nat) (hx : a.eval x = .slice na ns.length nc) (hS : Strs w P ns na) (hlen : 16 * ns.length ≤ 140737488355328)
    (h : ∀ g cap w', Strs w' (fun b => base ≤ b ∧ b < w'.heap.size ∧ (b = g0 ∨ w.heap.size ≤ b)) ns (some ⟨g, 0, none⟩) → ns.length ≤ cap → w.grownBy w' (some g0) → K (a.put o.dst (.slice (some ⟨g, 0, none⟩) ns.length cap)) w') :
    if Region.wanted o (yielded ops a.tmps) = true then Oper.wp Tryz.prog o a w K Q else E := by
  obtain ⟨i0, hi, hz0, hz1, hz2⟩ := info_parts info9
  have hlt : g0 < w.heap.size := (Array.getElem?_eq_some_iff.1 hE).1
  have hw : Region.wanted o (yielded ops a.tmps) = true := by simp [Region.wanted, hgd]
  rw [if_pos hw]
  obtain ⟨h1, h2, h3⟩ := hS
  by_cases hn0 : ns = []
  · subst hn0
    have hsrc : Src Tryz.prog i0.size 26 (.slice na 0 nc) 0 [] w := by
      cases na with
      | none => exact Src.ofNil w Tryz.underlying26 nc
      | some ad => exact Src.ofSlice w Tryz.underlying26 ad 0 nc [] (by simp) (fun j u h => by simp at h) (fun u h => by simp at h)
    have hrun := run_append_nothing (P := Tryz.prog) w 26 26 o.type 9 i0 Tryz.underlying26 hi (some ⟨g0, 0, none⟩) 0 0 (Nat.le_refl _) (.slice na 0 nc) hsrc
    simp only [List.length_nil] at hx
    unfold Oper.wp execOp
    simp only [ho, resolve, invoke, builtin, Sem.run_bind, Sem.run_pure, Result.andThen_ok, List.map_toArray, List.map_cons, List.map_nil, hs, hx, hrun]
    exact h g0 0 w ⟨fun h => absurd rfl h, h2, h3⟩ (by simp) ⟨rfl, rfl, rfl, Nat.le_refl _, fun _ _ _ => rfl⟩
  · obtain ⟨b, off, rfl, _, hc⟩ := h1 hn0
    obtain ⟨v', w', hrun, r2, r3, r4, r5⟩ := run_append_own_at (P := Tryz.prog) w base 26 o.type 9 i0 (.string ByteArray.empty) 1 16 Tryz.underlying26 hi hz0 hz1 hz2 rfl (by decide) _ 0 [] (own_none hE hb) ⟨b, off, none⟩ ns.length nc (ns.map Value.string) (by simp) (fun j u hj => by
      obtain ⟨hj', rfl⟩ := nth_map ns j u hj
      rw [Addr.add_lit]
      exact hc j hj') (fun u hu => by simp at hu; obtain ⟨x, -, rfl⟩ := hu; rfl) (by unfold maxLen; omega) (by omega) (by omega)
    simp only [Nat.zero_add, List.nil_append, Value.ownBlock] at r2 r3 r5
    obtain ⟨g, cap, rfl, hg2, hg3⟩ : ∃ g cap, v' = .slice (some ⟨g, 0, none⟩) ns.length cap ∧ g < w'.heap.size ∧ ns.length ≤ cap := by
      rcases r2.2 with ⟨h', _⟩ | ⟨g, cap, cur, hv, hb', hg, hc', _⟩
      · rw [h'] at r5; simp [Value.ownBlock] at r5
      · exact ⟨g, cap, hv, (Array.getElem?_eq_some_iff.1 hg).1, hc'⟩
    have hS' := strs_owned (base := base) r2 h2 h3 hg2
    have hgg : g = g0 ∨ g = w.heap.size := by simpa [Value.ownBlock] using r5
    unfold Oper.wp execOp
    simp only [ho, resolve, invoke, builtin, Sem.run_bind, Sem.run_pure, Result.andThen_ok, List.map_toArray, List.map_cons, List.map_nil, hs, hx, hrun]
    refine h g cap w' ⟨fun hn => ?_, h2, h3⟩ hg3 r3
    obtain ⟨b', o', e', hb', hc'⟩ := hS'.1.1 hn
    exact ⟨b', o', e', ⟨hb'.1, hb'.2, by cases e'; omega⟩, hc'⟩

/-- What l1Copy does. -/
def ClOk (f : Nat) : Prop := ∀ (x : V) (w : World) (B : Nat) (v : Value), fit f x → Rep w (· < B) x v → B ≤ w.heap.size →
  Calls Tryz.prog 51 #[v] w fun e w' => ∃ (s n : Int) (t : ByteArray) (na ka : Option Addr) (nl nc kl kc : Nat), e = .returned (.agg #[.int .i64 s, .int .i64 n, .string t, .slice na nl nc, .slice ka kl kc]) ∧ Below w.heap.size w w' ∧
    Rep w' (fun b => w.heap.size ≤ b ∧ b < w'.heap.size) x (.agg #[.int .i64 s, .int .i64 n, .string t, .slice na nl nc, .slice ka kl kc])

set_option maxRecDepth 20000 in
set_option maxHeartbeats 1600000 in
theorem l1Copy_step (f : Nat) (IH : ClOk f) : ClOk (f + 1) := by
  intro x w B v hfit hR hB
  obtain ⟨s, n, t, ns, ks⟩ := x
  obtain ⟨na, ka, nc, kc, rfl, hs, hns, ht, hbs, hK⟩ := hR.inv
  clear hR
  obtain ⟨hf1, ⟨hf2, hf4⟩, hf3⟩ := hfit
  replace hf1 : ks.length ≤ 2097152 := hf1
  replace hf2 : ns.length ≤ 2097152 := hf2
  replace hf3 : ∀ i, i < ks.length → fit f (kth ks i) := hf3
  go_enter Tryz.func51, Tryz.ntmps51
  go_upto_region 1 with fail
  have b0 := below_box2 w (.cells #[.int .i64 s, .int .i64 n, .string t, .slice na ns.length nc, .slice ka ks.length kc] 45) (.cells #[.int .i64 0, .int .i64 0, .string ⟨#[]⟩, .slice none 0 0, .slice none 0 0] 45)
  have r0 : Row5 ((w.alloc (.cells #[.int .i64 s, .int .i64 n, .string t, .slice na ns.length nc, .slice ka ks.length kc] 45)).alloc (.cells #[.int .i64 0, .int .i64 0, .string ⟨#[]⟩, .slice none 0 0, .slice none 0 0] 45)) w.heap.size (.int .i64 s) (.int .i64 n) (.string t) (.slice na ns.length nc) (.slice ka ks.length kc) := (Row5.new w _ _ _ _ _).of_block ((below_box _ _).block _ (by simp))
  have r1 : Row5 ((w.alloc (.cells #[.int .i64 s, .int .i64 n, .string t, .slice na ns.length nc, .slice ka ks.length kc] 45)).alloc (.cells #[.int .i64 0, .int .i64 0, .string ⟨#[]⟩, .slice none 0 0, .slice none 0 0] 45)) (w.heap.size + 1) (.int .i64 0) (.int .i64 0) (.string ⟨#[]⟩) (.slice none 0 0) (.slice none 0 0) := by
    have := Row5.new (w.alloc (.cells #[.int .i64 s, .int .i64 n, .string t, .slice na ns.length nc, .slice ka ks.length kc] 45)) (.int .i64 0) (.int .i64 0) (.string ⟨#[]⟩) (.slice none 0 0) (.slice none 0 0)
    simpa using this
  have z0 : ((w.alloc (.cells #[.int .i64 s, .int .i64 n, .string t, .slice na ns.length nc, .slice ka ks.length kc] 45)).alloc (.cells #[.int .i64 0, .int .i64 0, .string ⟨#[]⟩, .slice none 0 0, .slice none 0 0] 45)).heap.size = w.heap.size + 1 + 1 := by simp
  generalize (w.alloc (.cells #[.int .i64 s, .int .i64 n, .string t, .slice na ns.length nc, .slice ka ks.length kc] 45)).alloc (.cells #[.int .i64 0, .int .i64 0, .string ⟨#[]⟩, .slice none 0 0, .slice none 0 0] 45) = wA at *
  go_cut [3] (fun p wx => ∃ (ob : Nat) (na' : Option Addr) (nc' : Nat), p = .pointer (some ⟨ob, 0, none⟩) ∧ Below (w.heap.size + 1 + 1) wA wx ∧ w.heap.size + 1 < ob ∧ ob < wx.heap.size ∧ ns.length ≤ nc' ∧ Strs wx (fun b => w.heap.size + 1 < b ∧ b < wx.heap.size ∧ b ≠ ob) ns na' ∧ Row5 wx ob (.int .i64 s) (.int .i64 n) (.string t) (.slice na' ns.length nc') (.slice none 0 0))
  case first =>
    have hsA := hs.under (b0.mono hB)
    obtain ⟨k0, k1, k2, k3, k4⟩ := r0.five
    have HA := hidG (And.intro hsA r0)
    clear hsA hs r0 r1 hK IH hf3 hf4
    have e1 : ¬ w.heap.size = w.heap.size + 1 + 1 := by omega
    have e2 : ¬ w.heap.size + 1 + 1 = w.heap.size := by omega
    have e3 : ¬ w.heap.size = w.heap.size + 1 + 1 + 1 := by omega
    have e4 : ¬ w.heap.size + 1 + 1 + 1 = w.heap.size := by omega
    go_region_held3 (fun w' => w'.cell? ⟨w.heap.size, 0, none⟩ = some (.int .i64 s) ∧ w'.cell? ⟨w.heap.size, 1, none⟩ = some (.int .i64 n) ∧ w'.cell? ⟨w.heap.size, 2, none⟩ = some (.string t) ∧ w'.cell? ⟨w.heap.size, 3, none⟩ = some (.slice na ns.length nc)) (go_keep) (first
      | (
        refine step_names rfl (.tmp 11) (.tmp 13) rfl (w.heap.size + 1 + 1) _ rfl (by first | exact heap_at z0 | exact heap_at (by simp [z0]) | exact heap_under (heap_at z0)) (by omega) (· < B) ns na nc rfl (HA.out.1.under (by repeat (first | exact Below.refl _ _ | (refine below_drews ?_ _) | (refine Below.drew ?_) | (refine Below.alloc ?_ (by first | omega | (simp; done) | (simp; omega)) _)))) (by omega) ?_
        intro g cap w2 hS2 hcap hg2
        have z2 := hg2.size
        have q0 := far_kept hg2 (by repeat (first | exact Below.refl _ _ | (refine below_drews ?_ _) | (refine Below.drew ?_) | (refine Below.alloc ?_ (by first | omega | (simp; done) | (simp; omega)) _))) (by omega) (by omega) k0
        have q1 := far_kept hg2 (by repeat (first | exact Below.refl _ _ | (refine below_drews ?_ _) | (refine Below.drew ?_) | (refine Below.alloc ?_ (by first | omega | (simp; done) | (simp; omega)) _))) (by omega) (by omega) k1
        have q2 := far_kept hg2 (by repeat (first | exact Below.refl _ _ | (refine below_drews ?_ _) | (refine Below.drew ?_) | (refine Below.alloc ?_ (by first | omega | (simp; done) | (simp; omega)) _))) (by omega) (by omega) k2
        have q3 := far_kept hg2 (by repeat (first | exact Below.refl _ _ | (refine below_drews ?_ _) | (refine Below.drew ?_) | (refine Below.alloc ?_ (by first | omega | (simp; done) | (simp; omega)) _))) (by omega) (by omega) k3
        have BW := below_far (wA := wA) hg2 (by repeat (first | exact Below.refl _ _ | (refine below_drews ?_ _) | (refine Below.drew ?_) | (refine Below.alloc ?_ (by first | omega | (simp; done) | (simp; omega)) _))) (by omega)
        have HS2 := hidG hS2
        clear hS2
        first
          | (
            have hX : Row5 w2 (w.heap.size + 1 + 1 + 1) (.int .i64 0) (.int .i64 0) (.string ⟨#[]⟩) (.slice none 0 0) (.slice none 0 0) := row5_of_heap ((hg2.block _ (by simp [z0]) (by simp)).trans (heap_at (by simp [z0])))
            obtain ⟨x0, x1, x2, x3, x4⟩ := hX.five
            have hxf := hX.frozen)
          | (
            have hX : Row5 w2 (w.heap.size + 1 + 1) (.int .i64 0) (.int .i64 0) (.string ⟨#[]⟩) (.slice none 0 0) (.slice none 0 0) := row5_of_heap ((hg2.block _ (by simp [z0]) (by simp)).trans (heap_under (heap_at z0)))
            obtain ⟨x0, x1, x2, x3, x4⟩ := hX.five
            have hxf := hX.frozen)
          | skip))
    · go_wp2_with fail
      go_meet
      case rel =>
        have zB := BW.size
        refine ⟨w2.heap.size, _, cap, rfl, (z0 ▸ BW).trans ((below_box w2 _).mono (by omega)), by omega, by simp, hcap, (HS2.out.mono fun k hk => (below_box w2 _).block k hk.2.1).sub fun k hk => ⟨by omega, by simp; omega, by omega⟩, Row5.new _ _ _ _ _ _⟩
    · go_wp2_with fail
      go_meet
      case rel =>
        have zB := BW.size
        have hsz := put5_size w2 (w.heap.size + 1 + 1 + 1) 0 (.int .i64 s) (.int .i64 n) (.string t) (.slice (some ⟨g, 0, none⟩) ns.length cap) (.slice none 0 0)
        refine ⟨w.heap.size + 1 + 1 + 1, _, cap, rfl, put5_below (z0 ▸ BW) (by omega) _ _ _ _ _ _, by omega, Nat.lt_of_lt_of_eq hX.lt hsz.symm, hcap, (HS2.out.mono fun k hk => put5_block _ _ _ _ _ _ _ _ k ?_).sub fun k hk => ⟨by omega, Nat.lt_of_lt_of_eq hk.2.1 hsz.symm, ?_⟩, hX.put _ _ _ _ _⟩
        · have := hk.2.2; simp [z0] at this; omega
        · have := hk.2.2; simp [z0] at this; omega
    · go_wp2_with fail
      go_meet
      case rel =>
        have zB := BW.size
        have hsz := put5_size w2 (w.heap.size + 1 + 1) 0 (.int .i64 s) (.int .i64 n) (.string t) (.slice (some ⟨g, 0, none⟩) ns.length cap) (.slice none 0 0)
        refine ⟨w.heap.size + 1 + 1, _, cap, rfl, put5_below (z0 ▸ BW) (by omega) _ _ _ _ _ _, by omega, Nat.lt_of_lt_of_eq hX.lt hsz.symm, hcap, (HS2.out.mono fun k hk => put5_block _ _ _ _ _ _ _ _ k ?_).sub fun k hk => ⟨by omega, Nat.lt_of_lt_of_eq hk.2.1 hsz.symm, ?_⟩, hX.put _ _ _ _ _⟩
        · have := hk.2.2; simp [z0] at this; omega
        · have := hk.2.2; simp [z0] at this; omega
  case rest =>
    obtain ⟨ob, na', nc', rfl, hbx, hob1, hob2, hnc', hsx, hrO⟩ := hcut
    have hbw : Below w.heap.size w wc := b0.trans (hbx.mono (by omega))
    have hr0 := r0.of_block (hbx.block _ (by omega))
    have hr1 := r1.of_block (hbx.block _ (by omega))
    clear r0 r1 hbx
    have h3 := hK.1
    obtain ⟨-, b, off, C, hka, hc, hr⟩ := hK
    go_wp2_with fail
    go_loopw [4] (fun i wr => ∃ (k : Nat) (v : Value) (xs : List Value), k ≤ ks.length ∧ i = .int .i64 k ∧ Below w.heap.size w wr ∧ ob < wr.heap.size ∧ Row5 wr w.heap.size (.int .i64 s) (.int .i64 n) (.string t) (.slice na ns.length nc) (.slice ka ks.length kc) ∧ Row5 wr (w.heap.size + 1) (.int .i64 0) (.int .i64 0) (.string ⟨#[]⟩) (.slice none 0 0) (.slice none 0 0) ∧ Row5 wr ob (.int .i64 s) (.int .i64 n) (.string t) (.slice na' ns.length nc') v ∧ OwnKids wr (w.heap.size + 1 + 1) ob ks k v xs ∧ Strs wr (fun b => w.heap.size + 1 < b ∧ b < wr.heap.size ∧ b ≠ ob ∧ v.ownBlock ≠ some b) ns na') (fun i _ => ks.length - (intOf i).toNat)
    case atStart => exact ⟨0, _, [], Nat.zero_le _, rfl, hbw, hob2, hr0, hr1, hrO, OwnKids.nil _ _ _ _, hsx.sub fun b hb => ⟨hb.1, hb.2.1, hb.2.2, by simp [Value.ownBlock]⟩⟩
    case round =>
      clear hbw hob2 hsx hr0 hr1 hrO
      obtain ⟨k, v, xs, hk, rfl, hbel, hob3, hr0, hr1, hrO, hown, hst⟩ := hrel
      obtain ⟨y0, y1, y2, y3, y4⟩ := hr0.five
      by_cases hlt : k < ks.length
      · obtain ⟨rfl, hbB⟩ := hka (by intro e; simp [e] at hlt)
        have hrk := hr k hlt
        obtain ⟨s', n', t', na2, ka2, nl2, nc2, kl2, kc2, j0, j1, j2, j3, j4⟩ : ∃ (s' n' : Int) (t' : ByteArray) (na2 ka2 : Option Addr) (nl2 nc2 kl2 kc2 : Nat), C k 0 = .int .i64 s' ∧ C k 1 = .int .i64 n' ∧ C k 2 = .string t' ∧ C k 3 = .slice na2 nl2 nc2 ∧ C k 4 = .slice ka2 kl2 kc2 := by
          obtain ⟨a1, a2, a3, a4, e5, -⟩ := hrk.form
          simp only [Value.agg.injEq, Array.mk.injEq, List.cons.injEq, and_true] at e5
          exact ⟨_, _, _, _, _, _, _, _, _, e5⟩
        have hck : ∀ j, j < 5 → wr.cell? ⟨b, off + k * 5 + j, none⟩ = some (C k j) := fun j hj => (hbel.cell (p := ⟨b, off + k * 5 + j, none⟩) (by show b < _; omega)).trans (hc k hlt j hj)
        have hc0 : wr.cell? ⟨b, off + k * 5, none⟩ = some (C k 0) := hck 0 (by omega)
        have hc1 := hck 1 (by omega)
        have hc2 := hck 2 (by omega)
        have hc3 := hck 3 (by omega)
        have hc4 := hck 4 (by omega)
        rw [j0] at hc0 hrk
        rw [j1] at hc1 hrk
        rw [j2] at hc2 hrk
        rw [j3] at hc3 hrk
        rw [j4] at hc4 hrk
        clear hck hc j0 j1 j2 j3 j4 hr hka
        have hszw := hbel.size
        have hih := IH (kth ks k) wr.drew B _ (hf3 k hlt) (hrk.under (hbel.drew.mono hB)) (by simp; omega)
        obtain ⟨i0, hi, hz0, hz1, hz2⟩ := info_parts info30
        obtain ⟨o0, o1, o2, o3, o4⟩ := hrO.five
        have hof := hrO.frozen
        have HST := hidG (And.intro hst (And.intro hr0 (And.intro hr1 hown)))
        have hown' := hown
        go_upto_region 5 with fail
        have eN1 : ¬ w.heap.size = ob := by omega
        have eN2 : ¬ ob = w.heap.size := by omega
        clear hst hr0 hr1
        go_region_law (first
            | (
              go_simp
              go_at_call 51
              refine hih.mono ?_
              rintro e w1 ⟨s3, n3, t3, na3, ka3, nl3, nc3, kl3, kc3, rfl, hb1, hrep1⟩
              have hbb : Below wr.heap.size wr w1 := below_undrew hb1
              have hrO1 := hrO.of_block (hbb.block ob hob3)
              obtain ⟨v0, v1, v2, v3, v4⟩ := hrO1.five
              have hof1 := hrO1.frozen
              have hnw1 : ob ≠ w1.heap.size := by have := hbb.size; omega
              have hnw2 : w1.heap.size ≠ ob := fun e => hnw1 e.symm
              have v4a : ∀ o, (w1.alloc o).cell? ⟨ob, 4, none⟩ = some v := fun o => ((below_box w1 o).cell (p := ⟨ob, 4, none⟩) (by show ob < _; have := hbb.size; omega)).trans v4)
            | (
              refine step_append_lies _ rfl (.tmp 24) (.tmp 31) 43 rfl (w.heap.size + 1 + 1) 45 i0 zeroV 5 80 Tryz.underlying43 hi hz0 hz1 hz2 rfl (by decide) v k xs rfl (hown.owns hbb _) ⟨w1.heap.size, 0, none⟩ 1 1 [.int .i64 s3, .int .i64 n3, .string t3, .slice na3 nl3 nc3, .slice ka3 kl3 kc3] rfl rfl (World.news_of_block (heap_alloc_new w1 _)) (by intro u hu; simp at hu; rcases hu with rfl | rfl | rfl | rfl | rfl <;> rfl) (by omega) (by unfold maxLen; omega) (by omega) (by have := hbb.size; simp; omega) (w1.heap.size + 1) (by simp) ?_
              intro g cap w3 hown3 hgrow hat hlt3
              have hstep := hown.step (by omega) hob3 hbb (hrep1.sub fun b hb => ⟨by have := hb.1; simp at this; omega, hb.2⟩) hown3 hgrow hat
              have hrO3 := hrO.of_block (hstep.2.1 ob hob3 hown.2.1)
              obtain ⟨t0, t1, t2, t3', t4⟩ := hrO3.five
              have hof3 := hrO3.frozen))
        all_goals
          go_wp2_with fail
          go_roundw
          case rel =>
            obtain ⟨hst, hr0, hr1, -⟩ := HST.out
            have hs3 := hstep.2.2.1
            have hs1 := hbb.size
            have hown' := (hstep.1.set 4 (.slice (some ⟨g, 0, none⟩) (k + 1) cap))
            have hat' : ∀ b', b' < wr.heap.size → v.ownBlock ≠ some b' → g ≠ b' := fun b' hb' hn e => by
              rcases hat with h1 | h1
              · exact hn (by rw [h1, e])
              · omega
            have hsz4 : (w3.setCell ⟨ob, 4, none⟩ (.slice (some ⟨g, 0, none⟩) (k + 1) cap)).heap.size = w3.heap.size := size_set _ _ _
            have hfar : ∀ b', b' < w.heap.size + 1 + 1 → (w3.setCell ⟨ob, 4, none⟩ (.slice (some ⟨g, 0, none⟩) (k + 1) cap)).heap[b']? = wr.heap[b']? := fun b' hb' => (Below.heap_setCell _ _ _ _ (by show b' ≠ ob; omega)).trans (hstep.2.1 b' (by have := hr1.lt; omega) fun e => by have := (hown.1.lt _ e).1; omega)
            refine ⟨k + 1, _, _, by omega, by go_num, (hbel.trans (hstep.2.2.2.mono (by omega))).setCell (by show w.heap.size ≤ ob; omega) _, by rw [hsz4]; omega, hr0.of_block (hfar _ (by omega)), hr1.of_block (hfar _ (by omega)), hrO3.set4 _, hown', ?_⟩
            refine (hst.mono fun b' hb' => (Below.heap_setCell _ _ _ _ (by show b' ≠ ob; exact hb'.2.2.1)).trans (hstep.2.1 b' hb'.2.1 hb'.2.2.2)).sub fun b' hb' => ⟨hb'.1, by rw [hsz4]; omega, hb'.2.2.1, fun e => ?_⟩
            exact hat' b' hb'.2.1 hb'.2.2.2 (by simpa [Value.ownBlock] using e)
          case measure => simp [intOf]; omega
      · have e : k = ks.length := by omega
        subst e
        obtain ⟨ka3, kc3, rfl, hK3⟩ := hown.kids h3
        obtain ⟨o0, o1, o2, o3, o4⟩ := hrO.five
        obtain ⟨l0, l1, l2, l3, l4⟩ := hr1.five
        have hlf := hr1.frozen
        have HK3 := hidG (And.intro hK3 (And.intro hst hr1))
        clear hK3 hst hr1 hr0 hrO hown IH
        go_wp2_with fail
        obtain ⟨hK3, hst, hr1⟩ := HK3.out
        have hfin : Row5 (put5 wr (w.heap.size + 1) 0 (.int .i64 s) (.int .i64 n) (.string t) (.slice na' ns.length nc') (.slice ka3 ks.length kc3)) (w.heap.size + 1) (.int .i64 s) (.int .i64 n) (.string t) (.slice na' ns.length nc') (.slice ka3 ks.length kc3) := hr1.put _ _ _ _ _
        have hsz := put5_size wr (w.heap.size + 1) 0 (.int .i64 s) (.int .i64 n) (.string t) (.slice na' ns.length nc') (.slice ka3 ks.length kc3)
        have hblk := put5_block wr (w.heap.size + 1) 0 (.int .i64 s) (.int .i64 n) (.string t) (.slice na' ns.length nc') (.slice ka3 ks.length kc3)
        refine bodyPost_ret (v := .agg #[.int .i64 s, .int .i64 n, .string t, .slice na' ns.length nc', .slice ka3 ks.length kc3]) ?res rfl ⟨s, n, t, _, _, _, _, _, _, rfl, put5_below hbel (by omega) _ _ _ _ _ _, Rep.of_kids ((hst.mono fun b' hb' => hblk b' (by omega)).sub fun b' hb' => ⟨by omega, ?_⟩) hnc' ht hbs ((hK3.mono fun b' hb' => hblk b' (by omega)).sub fun b' hb' => ⟨by omega, ?_⟩)⟩
        case res =>
          obtain ⟨p0, p1, p2, p3, p4⟩ := hfin.five
          simp only [put5] at p0 p1 p2 p3 p4
          clear hfin hblk hsz hst hK3 hr1
          simp [results, Tryz.results51, go_sem, p0, p1, p2, p3, p4]
        · exact Nat.lt_of_lt_of_eq hb'.2.1 hsz.symm
        · exact Nat.lt_of_lt_of_eq hb'.2.1 hsz.symm

theorem l1Copy_fit (f : Nat) : ClOk f := by
  induction f with
  | zero => intro x w B v h; exact h.elim
  | succ f ih => exact l1Copy_step f ih
theorem l1Copy_any (x : V) (w : World) (B : Nat) (v : Value) (h : szV x ≤ 1048576) (hR : Rep w (· < B) x v) (hB : B ≤ w.heap.size) :
    Calls Tryz.prog 51 #[v] w fun e w' => ∃ (s n : Int) (t : ByteArray) (na ka : Option Addr) (nl nc kl kc : Nat), e = .returned (.agg #[.int .i64 s, .int .i64 n, .string t, .slice na nl nc, .slice ka kl kc]) ∧ Below w.heap.size w w' ∧
      Rep w' (fun b => w.heap.size ≤ b ∧ b < w'.heap.size) x (.agg #[.int .i64 s, .int .i64 n, .string t, .slice na nl nc, .slice ka kl kc]) := by
  obtain ⟨f, hf⟩ := fit_of x h
  exact l1Copy_fit f x w B v hf hR hB
end Go.Proofs.YtmemijccbmnaaaaGreat

namespace Go.Proofs.YtmemijccbmnaaaaGreat
set_option linter.unusedSimpArgs false
set_option linter.unusedVariables false
open Go.RowKit

theorem OwnRL.none {L : Bool} {w : World} {lo g : Nat} (hg : w.heap[g]? = some (.cells #[] 69 (0, 0))) (hlo : lo ≤ g) : OwnRL L w lo (fun _ => []) [] (.slice (some ⟨g, 0, none⟩) 0 0) [] :=
  ⟨⟨rfl, .inr ⟨g, 0, #[], rfl, hlo, hg, Nat.le_refl _, by simp, rfl, rfl⟩⟩, fun b h => absurd rfl h, fun i hi => by simp at hi⟩

set_option maxRecDepth 20000 in
set_option maxHeartbeats 3200000 in
theorem l4Copy_any (rs : List Ro) (w : World) (B : Nat) (ra : Option Addr) (rc : Nat) (hR : RoReps w (· < B) rs ra) (hB : B ≤ w.heap.size) (hlen : rs.length ≤ 1048576) (hcl : ∀ i, i < rs.length → (rth rs i).cells.length ≤ 1048576 ∧ ∀ j, j < (rth rs i).cells.length → szV (cth (rth rs i).cells j).val ≤ 1048576) :
    Calls Tryz.prog 24 #[.slice ra rs.length rc] w fun e w' => RowsMade false w w' rs e ∧ Below w.heap.size w w' := by
  obtain ⟨i0, hi, hz0, hz1, hz2⟩ := info_parts info_Row
  obtain ⟨i1, hi', hz0', hz1', hz2'⟩ := info_parts info_Cell
  obtain ⟨h48, C, hA, hr⟩ := id hR
  have HRR := hid_of hr
  go_enter Tryz.func24, Tryz.ntmps24
  go_wp2_with fail
  go_loopw [3, 4] (fun o i wr => ∃ (k : Nat) (v : Value) (xs : List Value) (lab : Nat → List Nat), k ≤ rs.length ∧ i = .int .i64 k ∧ v = o ∧ Hid (OwnRL false wr w.heap.size lab (rs.take k) v xs) ∧ Below w.heap.size w wr) (fun _ i _ => rs.length - (intOf i).toNat)
  case atStart => exact ⟨0, _, [], _, Nat.zero_le _, rfl, rfl, hid_of (OwnRL.none (block_new _ _ rfl) (Nat.le_refl _)), below_box w _⟩
  case round =>
    obtain ⟨k, v, xs, lab, hk, rfl, rfl, HO, hbel⟩ := hrel
    obtain ⟨w0, rfl⟩ : ∃ x, x = wr := ⟨wr, rfl⟩
    have zb := hbel.size
    by_cases hlt : k < rs.length
    · obtain ⟨rb, roff, rfl, hrB, hrc'⟩ := hA (by omega)
      have hki : (k : Int) < (rs.length : Int) := by omega
      obtain ⟨ca, ccp, e0, e1, e2, hCe, hcc, htz⟩ := (hr k hlt).pieces
      have RC : ∀ W, Below w.heap.size w W → W.cell? ⟨rb, roff + k * 3, none⟩ = some (.string (rth rs k).type) ∧ W.cell? ⟨rb, roff + k * 3 + 1, none⟩ = some (.int .i64 (rth rs k).id) ∧ W.cell? ⟨rb, roff + k * 3 + 2, none⟩ = some (.slice ca (rth rs k).cells.length ccp) := fun W hW => by
        have hck : ∀ m, m < 3 → W.cell? ⟨rb, roff + k * 3 + m, none⟩ = some (C k m) := fun m hm => (hW.cell (p := ⟨rb, roff + k * 3 + m, none⟩) (by show rb < _; omega)).trans (hrc' k hlt m hm)
        exact ⟨e0 ▸ hck 0 (by omega), e1 ▸ hck 1 (by omega), e2 ▸ hck 2 (by omega)⟩
      obtain ⟨r0, r1, r2⟩ := RC w0 hbel
      have HRC := hid_of RC
      obtain ⟨hc1, hc2⟩ := hcl k hlt
      have HTR := hid_of (take_rth rs k hlt)
      have hlk : (rs.take k).length = k := by simp; omega
      have HLK := hid_of hlk
      clear RC e0 e1 e2 hlk hrc'
      generalize rth rs k = r at *
      obtain ⟨h96, D, hAD, hrD⟩ := hCe
      go_wp2_with fail
      have m1 := World.new_ne w0 ⟨rb, roff + k * 3, none⟩ r0
      have m2 := World.new_ne w0 ⟨rb, roff + k * 3 + 1, none⟩ r1
      go_cut [5] (fun p wx => ∃ ob, p = .pointer (some ⟨ob, 0, none⟩) ∧ Below w0.heap.size w0 wx ∧ w0.heap.size ≤ ob ∧ ob < wx.heap.size ∧ wx.heap[ob]? = some (.cells #[.string r.type, .int .i64 r.id, .slice none 0 0] 69 (0, 0)))
      case first =>
        go_region_held3 (fun w' => w'.cell? ⟨rb, roff + k * 3, none⟩ = some (.string r.type) ∧ w'.cell? ⟨rb, roff + k * 3 + 1, none⟩ = some (.int .i64 r.id)) (go_keep) (fail)
        all_goals
          go_wp2_with fail
          go_meet
          case rel => exact ⟨w0.heap.size, rfl, (below_box w0 _).drew, Nat.le_refl _, by simp, block_new _ _ rfl⟩
      case rest =>
      obtain ⟨ob, rfl, hbc, hob1, hob2, nO⟩ := hcut
      clear r0 r1 r2 m1 m2
      go_wp2_with fail
      go_loopw [6] (fun i wr => ∃ (n : Nat) (va : Option Addr) (vc : Nat) (ys : List Value) (lab2 : Nat → List Nat), n ≤ r.cells.length ∧ i = .int .i64 n ∧ wr.heap[ob]? = some (.cells #[.string r.type, .int .i64 r.id, .slice va n vc] 69 (0, 0)) ∧ Hid (OwnCL false wr w0.heap.size ob lab2 [k + 2] (r.cells.take n) (.slice va n vc) ys) ∧ Below w0.heap.size w0 wr ∧ ob < wr.heap.size) (fun i _ => r.cells.length - (intOf i).toNat)
      case atStart => exact ⟨0, none, 0, [], _, Nat.zero_le _, rfl, nO, hid_of (OwnCL.nil _ _ _ _ _), hbc, hob2⟩
      case round =>
        clear nO hbc hob2
        obtain ⟨n, va, vc, ys, lab2, hn, rfl, nO, HOC, hbc, hob2⟩ := hrel
        obtain ⟨w4, rfl⟩ : ∃ x, x = wr := ⟨wr, rfl⟩
        have zc := hbc.size
        have bw4 : Below w.heap.size w w4 := hbel.trans (hbc.mono (by omega))
        obtain ⟨r0, r1, r2⟩ := HRC.out w4 bw4
        by_cases hnt : n < r.cells.length
        · obtain ⟨cb, coff, rfl, hcB, hcD⟩ := hAD (by omega)
          have hni : (n : Int) < (r.cells.length : Int) := by omega
          obtain ⟨e0, hV, hnm⟩ := (hrD n hnt).pieces
          obtain ⟨na, ka, nc, kc, e5, -⟩ := hV.form
          simp only [Value.agg.injEq, Array.mk.injEq, List.cons.injEq, and_true] at e5
          obtain ⟨f1, f2, f3, f4, f5⟩ := e5
          rw [f1, f2, f3, f4, f5] at hV
          have HS : Hid (∀ W, Below w.heap.size w W → W.cell? ⟨rb, roff + k * 3 + 2, none⟩ = some (.slice (some ⟨cb, coff, none⟩) r.cells.length ccp) ∧ W.cell? ⟨cb, coff + n * 6, none⟩ = some (.string (cth r.cells n).name) ∧ W.cell? ⟨cb, coff + n * 6 + 1, none⟩ = some (.int .i64 (cth r.cells n).val.sort) ∧ W.cell? ⟨cb, coff + n * 6 + 1 + 1, none⟩ = some (.int .i64 (cth r.cells n).val.num) ∧ W.cell? ⟨cb, coff + n * 6 + 1 + 2, none⟩ = some (.string (cth r.cells n).val.text) ∧ W.cell? ⟨cb, coff + n * 6 + 1 + 3, none⟩ = some (.slice na (cth r.cells n).val.names.length nc) ∧ W.cell? ⟨cb, coff + n * 6 + 1 + 4, none⟩ = some (.slice ka (cth r.cells n).val.kids.length kc)) := hid_of fun W hW => by
            have hck : ∀ m, m < 6 → W.cell? ⟨cb, coff + n * 6 + m, none⟩ = some (D n m) := fun m hm => (hW.cell (p := ⟨cb, coff + n * 6 + m, none⟩) (by show cb < _; omega)).trans (hcD n hnt m hm)
            exact ⟨(HRC.out W hW).2.2, e0 ▸ hck 0 (by omega), f1 ▸ hck 1 (by omega), f2 ▸ hck 2 (by omega), f3 ▸ hck 3 (by omega), f4 ▸ hck 4 (by omega), f5 ▸ hck 5 (by omega)⟩
          have hsx := hc2 n hnt
          have hTK : r.cells.take (n + 1) = r.cells.take n ++ [⟨(cth r.cells n).name, (cth r.cells n).val⟩] := take_cth r.cells n hnt
          have HTK := hid_of hTK
          have hl : (r.cells.take n).length = n := by simp; omega
          have HL := hid_of hl
          clear e0 f1 f2 f3 f4 f5 hTK hcD
          generalize (cth r.cells n).val = x at *
          generalize (cth r.cells n).name = nm at *
          have HOV : Hid (∀ W, Below w4.heap.size w4 W → W.ownsRow w0.heap.size 109 6 (.slice va n vc) n ys) := hid_of fun W hW => by
            have h := HOC.out.own
            rw [hl] at h
            exact owns_same h fun b hb => hW.block b (h.lt b hb).2
          have hLC := l1Copy_any x w4.drew B _ hsx (hV.mono (w' := w4.drew) fun b hb => bw4.block b (by omega)) (by show B ≤ w4.heap.size; have := bw4.size; omega)
          have HLC := hid_of hLC
          obtain ⟨o2, -⟩ := box_at nO 2 (by simp)
          clear hl hV hLC
          go_wp2_with fail
          clear r0 r1 r2
          refine wp_region_held_drew (S := (fun w' => w'.cell? ⟨rb, roff + k * 3 + 2, none⟩ = some (.slice (some ⟨cb, coff, none⟩) r.cells.length ccp) ∧ w'.cell? ⟨cb, coff + n * 6, none⟩ = some (.string nm) ∧ w'.cell? ⟨cb, coff + n * 6 + 1, none⟩ = some (.int .i64 x.sort) ∧ w'.cell? ⟨cb, coff + n * 6 + 1 + 1, none⟩ = some (.int .i64 x.num) ∧ w'.cell? ⟨cb, coff + n * 6 + 1 + 2, none⟩ = some (.string x.text) ∧ w'.cell? ⟨cb, coff + n * 6 + 1 + 3, none⟩ = some (.slice na x.names.length nc) ∧ w'.cell? ⟨cb, coff + n * 6 + 1 + 4, none⟩ = some (.slice ka x.kids.length kc))) (by kernel_rfl) (HS.out _ bw4.drew) (fun hHeld => ?_)
          refine wpAnyH_take (i := 0) (v := ?_) rfl (by kernel_rfl) (by kernel_rfl) (by kernel_rfl) (fun _ _ _ h => h) (Or.inl ⟨by rfl, ?_⟩) hHeld ?_
          rotate_left
          · intro w' hSw
            (try dsimp only at hSw)
            go_simp
            try with_reducible rfl
          try simp only [Act.put, List.setIfInBounds_toArray, List.set_cons_zero, List.set_cons_succ]
          refine wpAnyH_take (i := 2) (v := ?_) rfl (by kernel_rfl) (by kernel_rfl) (by kernel_rfl) (fun _ _ _ h => h) (Or.inl ⟨by rfl, ?_⟩) hHeld ?_
          rotate_left
          · intro w' hSw
            (try dsimp only at hSw)
            go_simp
            try with_reducible rfl
          try simp only [Act.put, List.setIfInBounds_toArray, List.set_cons_zero, List.set_cons_succ]
          refine wpAnyH_take (i := 3) (v := ?_) rfl (by kernel_rfl) (by kernel_rfl) (by kernel_rfl) (fun _ _ _ h => h) (Or.inl ⟨by rfl, ?_⟩) hHeld ?_
          rotate_left
          · intro w' hSw
            (try dsimp only at hSw)
            go_simp
            try with_reducible rfl
          try simp only [Act.put, List.setIfInBounds_toArray, List.set_cons_zero, List.set_cons_succ]
          refine wpAnyH_take (i := 4) (v := ?_) rfl (by kernel_rfl) (by kernel_rfl) (by kernel_rfl) (fun _ _ _ h => h) (Or.inl ⟨by rfl, ?_⟩) hHeld ?_
          rotate_left
          · intro w' hSw
            (try dsimp only at hSw)
            go_simp
            try with_reducible rfl
          try simp only [Act.put, List.setIfInBounds_toArray, List.set_cons_zero, List.set_cons_succ]
          refine wpAnyH_take (i := 5) (v := ?_) rfl (by kernel_rfl) (by kernel_rfl) (by kernel_rfl) (fun _ _ _ h => h) (Or.inl ⟨by rfl, ?_⟩) hHeld ?_
          rotate_left
          · intro w' hSw
            (try dsimp only at hSw)
            go_simp
            try with_reducible rfl
          try simp only [Act.put, List.setIfInBounds_toArray, List.set_cons_zero, List.set_cons_succ]
          refine wpAnyH_take (i := 6) (v := ?_) rfl (by kernel_rfl) (by kernel_rfl) (by kernel_rfl) (fun _ _ _ h => h) (Or.inl ⟨by rfl, ?_⟩) hHeld ?_
          rotate_left
          · intro w' hSw
            (try dsimp only at hSw)
            go_simp
            try with_reducible rfl
          try simp only [Act.put, List.setIfInBounds_toArray, List.set_cons_zero, List.set_cons_succ]
          refine wpAnyH_take (i := 7) (v := ?_) rfl (by kernel_rfl) (by kernel_rfl) (by kernel_rfl) (fun _ _ _ h => h) (Or.inl ⟨by rfl, ?_⟩) hHeld ?_
          rotate_left
          · intro w' hSw
            (try dsimp only at hSw)
            go_simp
            try with_reducible rfl
          try simp only [Act.put, List.setIfInBounds_toArray, List.set_cons_zero, List.set_cons_succ]
          refine wpAnyH_take (i := 8) (v := ?_) rfl (by kernel_rfl) (by kernel_rfl) (by kernel_rfl) (fun _ _ _ h => h) (Or.inl ⟨by rfl, ?_⟩) hHeld ?_
          rotate_left
          · intro w' hSw
            (try dsimp only at hSw)
            go_simp
            try with_reducible rfl
          try simp only [Act.put, List.setIfInBounds_toArray, List.set_cons_zero, List.set_cons_succ]
          refine wpAnyH_take (i := 9) (v := ?_) rfl (by kernel_rfl) (by kernel_rfl) (by kernel_rfl) (fun _ _ _ h => h) (Or.inl ⟨by rfl, ?_⟩) hHeld ?_
          rotate_left
          · intro w' hSw
            (try dsimp only at hSw)
            go_simp
            try with_reducible rfl
          try simp only [Act.put, List.setIfInBounds_toArray, List.set_cons_zero, List.set_cons_succ]
          refine wpAnyH_take (i := 10) (v := ?_) rfl (by kernel_rfl) (by kernel_rfl) (by kernel_rfl) (fun _ _ _ h => h) (Or.inl ⟨by rfl, ?_⟩) hHeld ?_
          rotate_left
          · intro w' hSw
            (try dsimp only at hSw)
            go_simp
            try with_reducible rfl
          try simp only [Act.put, List.setIfInBounds_toArray, List.set_cons_zero, List.set_cons_succ]
          refine wpAnyH_take (i := 11) (v := ?_) rfl (by kernel_rfl) (by kernel_rfl) (by kernel_rfl) (fun _ _ _ h => h) (Or.inl ⟨by rfl, ?_⟩) hHeld ?_
          rotate_left
          · intro w' hSw
            (try dsimp only at hSw)
            go_simp
            try with_reducible rfl
          try simp only [Act.put, List.setIfInBounds_toArray, List.set_cons_zero, List.set_cons_succ]
          refine wpAnyH_take (i := 12) (v := ?_) rfl (by kernel_rfl) (by kernel_rfl) (by kernel_rfl) (fun _ _ _ h => h) (Or.inl ⟨by rfl, ?_⟩) hHeld ?_
          rotate_left
          · intro w' hSw
            (try dsimp only at hSw)
            go_simp
            try with_reducible rfl
          try simp only [Act.put, List.setIfInBounds_toArray, List.set_cons_zero, List.set_cons_succ]
          refine wpAnyH_take (i := 13) (v := ?_) rfl (by kernel_rfl) (by kernel_rfl) (by kernel_rfl) (fun _ _ _ h => h) (Or.inl ⟨by rfl, ?_⟩) hHeld ?_
          rotate_left
          · intro w' hSw
            (try dsimp only at hSw)
            go_simp
            try with_reducible rfl
          try simp only [Act.put, List.setIfInBounds_toArray, List.set_cons_zero, List.set_cons_succ]
          refine wpAnyH_take (i := 14) (v := ?_) rfl (by kernel_rfl) (by kernel_rfl) (by kernel_rfl) (fun _ _ _ h => h) (Or.inl ⟨by rfl, ?_⟩) hHeld ?_
          rotate_left
          · intro w' hSw
            (try dsimp only at hSw)
            go_simp
            try with_reducible rfl
          try simp only [Act.put, List.setIfInBounds_toArray, List.set_cons_zero, List.set_cons_succ]
          refine wpAnyH_take (i := 15) (v := ?_) rfl (by kernel_rfl) (by kernel_rfl) (by kernel_rfl) (fun _ _ _ h => h) (Or.inl ⟨by rfl, ?_⟩) hHeld ?_
          rotate_left
          · intro w' hSw
            (try dsimp only at hSw)
            go_simp
            try with_reducible rfl
          try simp only [Act.put, List.setIfInBounds_toArray, List.set_cons_zero, List.set_cons_succ]
          refine wpAnyH_take (i := 16) (v := ?_) rfl (by kernel_rfl) (by kernel_rfl) (by kernel_rfl) (fun _ _ _ h => h) (Or.inl ⟨by rfl, ?_⟩) hHeld ?_
          rotate_left
          · intro w' hSw
            (try dsimp only at hSw)
            go_simp
            try with_reducible rfl
          try simp only [Act.put, List.setIfInBounds_toArray, List.set_cons_zero, List.set_cons_succ]
          refine wpAnyH_take (i := 17) (v := ?_) rfl (by kernel_rfl) (by kernel_rfl) (by kernel_rfl) (fun _ _ _ h => h) (Or.inl ⟨by rfl, ?_⟩) hHeld ?_
          rotate_left
          · intro w' hSw
            (try dsimp only at hSw)
            go_simp
            try with_reducible rfl
          try simp only [Act.put, List.setIfInBounds_toArray, List.set_cons_zero, List.set_cons_succ]
          refine wpAnyH_take (i := 18) (v := ?_) rfl (by kernel_rfl) (by kernel_rfl) (by kernel_rfl) (fun _ _ _ h => h) (Or.inl ⟨by rfl, ?_⟩) hHeld ?_
          rotate_left
          · intro w' hSw
            (try dsimp only at hSw)
            go_simp
            try with_reducible rfl
          try simp only [Act.put, List.setIfInBounds_toArray, List.set_cons_zero, List.set_cons_succ]
          refine wpAnyH_take (i := 19) (v := ?_) rfl (by kernel_rfl) (by kernel_rfl) (by kernel_rfl) (fun _ _ _ h => h) (Or.inl ⟨by rfl, ?_⟩) hHeld ?_
          rotate_left
          · intro w' hSw
            (try dsimp only at hSw)
            go_simp
            try with_reducible rfl
          try simp only [Act.put, List.setIfInBounds_toArray, List.set_cons_zero, List.set_cons_succ]
          refine wpAnyH_ready (rs := [1, 20]) (by kernel_rfl) (by simp) ?_
          refine AllReadyH.cons rfl (fun K hK => ?_) ?_
          · go_simp
            refine hK.out _ _ hHeld (fun hHeld => ?_)
            clear hK K
            try simp only [Act.put, List.setIfInBounds_toArray, List.set_cons_zero, List.set_cons_succ]
            refine wpAnyH_ready (rs := [20]) (by kernel_rfl) (by simp) ?_
            refine AllReadyH.cons rfl (fun K hK => ?_) AllReadyH.nil
            go_simp
            refine HLC.out.mono ?_
            rintro e w6 ⟨s6, n6, t6, na6, ka6, nl6, nc6, kl6, kc6, rfl, hb6, hr6⟩
            have b6 : Below w4.heap.size w4 w6 := below_undrew hb6
            have z6 := b6.size
            have bw6 := bw4.trans (b6.mono bw4.size)
            have nO6 := (b6.block _ hob2).trans nO
            obtain ⟨o26, -⟩ := box_at nO6 2 (by simp)
            have HR6 := hid_of hr6
            clear hr6 hb6
            refine hK.out _ _ (HS.out _ bw6) (fun hHeld => ?_)
            clear hK K
            try simp only [Act.put, List.setIfInBounds_toArray, List.set_cons_zero, List.set_cons_succ]
            refine wpAnyH_take (i := 21) (v := ?_) rfl (by kernel_rfl) (by kernel_rfl) (by kernel_rfl) (fun _ _ _ h => h) (Or.inl ⟨by rfl, ?_⟩) hHeld ?_
            rotate_left
            · intro w' hSw
              (try dsimp only at hSw)
              go_simp
              try with_reducible rfl
            try simp only [Act.put, List.setIfInBounds_toArray, List.set_cons_zero, List.set_cons_succ]
            refine wpAnyH_ready (rs := [22]) (by kernel_rfl) (by simp) ?_
            refine AllReadyH.cons rfl (fun K hK => ?_) AllReadyH.nil
            go_simp
            have o2a : (w6.alloc (.cells #[.string nm, .int .i64 s6, .int .i64 n6, .string t6, .slice na6 nl6 nc6, .slice ka6 kl6 kc6] 109)).cell? ⟨ob, 2, none⟩ = some (.slice va n vc) := ((below_box w6 _).cell (p := ⟨ob, 2, none⟩) (by show ob < _; omega)).trans o26
            have bw6a := bw6.trans ((below_box w6 (.cells #[.string nm, .int .i64 s6, .int .i64 n6, .string t6, .slice na6 nl6 nc6, .slice ka6 kl6 kc6] 109)).mono bw6.size)
            refine hK.out _ _ (HS.out _ bw6a) (fun hHeld => ?_)
            clear hK K
            try simp only [Act.put, List.setIfInBounds_toArray, List.set_cons_zero, List.set_cons_succ]
            refine wpAnyH_ready (rs := [23]) (by kernel_rfl) (by simp) ?_
            refine AllReadyH.cons rfl (fun K hK => ?_) AllReadyH.nil
            refine step_append_lies _ rfl (.tmp 36) (.tmp 57) 67 rfl w0.heap.size 109 i1 (.agg #[.string ByteArray.empty, .int .i64 0, .int .i64 0, .string ByteArray.empty, .slice none 0 0, .slice none 0 0]) 6 96 Tryz.underlying67 hi' hz0' hz1' hz2' rfl (by decide) (.slice va n vc) n ys rfl (HOV.out _ (b6.trans ((below_box w6 _).mono z6))) ⟨w6.heap.size, 0, none⟩ 1 1 [.string nm, .int .i64 s6, .int .i64 n6, .string t6, .slice na6 nl6 nc6, .slice ka6 kl6 kc6] rfl rfl (World.news_of_block (heap_alloc_new w6 _)) (by intro u hu; simp at hu; rcases hu with rfl | rfl | rfl | rfl | rfl | rfl <;> rfl) (by omega) (by unfold maxLen; omega) (by omega) (by simp; omega) (w6.heap.size + 1) (by simp) ?_
            intro g cap w7 hown7 hgrow hat hlt7
            have z7 := hgrow.size
            simp at z7
            have nO7 := ((hgrow.block ob (by simp; omega) (fun e => HOC.out.apart e.symm)).trans ((below_box w6 _).block ob (by omega))).trans nO6
            have bw7 := bw6a.grown hgrow bw6a.size (fun k hk => by have := (HOC.out.own.lt k hk).1; omega)
            obtain ⟨o27, of27⟩ := box_at nO7 2 (by simp)
            have H7 := hid_of (And.intro hown7 (And.intro hgrow (And.intro hat nO7)))
            clear hown7 hgrow hat nO7
            refine hK.out _ _ (HS.out _ bw7) (fun hHeld => ?_)
            clear hK K
            try simp only [Act.put, List.setIfInBounds_toArray, List.set_cons_zero, List.set_cons_succ]
            refine wpAnyH_take (i := 24) (v := ?_) rfl (by kernel_rfl) (by kernel_rfl) (by kernel_rfl) (fun _ _ _ h => h) (Or.inl ⟨by rfl, ?_⟩) hHeld ?_
            rotate_left
            · intro w' hSw
              (try dsimp only at hSw)
              go_simp
              try with_reducible rfl
            try simp only [Act.put, List.setIfInBounds_toArray, List.set_cons_zero, List.set_cons_succ]
            refine wpAnyH_ready (rs := [25]) (by kernel_rfl) (by simp) ?_
            refine AllReadyH.cons rfl (fun K hK => ?_) AllReadyH.nil
            go_simp
            have bw8 := bw7.setCell (p := ⟨ob, 2, none⟩) (by show w.heap.size ≤ ob; omega) (.slice (some ⟨g, 0, none⟩) (n + 1) cap)
            refine hK.out _ _ (HS.out _ bw8) (fun hHeld => ?_)
            clear hK K
            try simp only [Act.put, List.setIfInBounds_toArray, List.set_cons_zero, List.set_cons_succ]
            refine wpAnyH_done (by kernel_rfl) ?_ _
            go_wp2_with fail
            go_roundw
            case measure => simp [intOf]; omega
            case rel =>
              obtain ⟨hown7, hgrow, hat, nO7⟩ := H7.out
              obtain ⟨lab', hst⟩ := HOC.out.step (c := ⟨nm, x⟩) zc hob2 b6 (lab1 := fun _ => []) (fun b hb => absurd rfl hb) (d1 := .int .i64 s6) (d2 := .int .i64 n6) (d3 := .string t6) (d4 := .slice na6 nl6 nc6) (d5 := .slice ka6 kl6 kc6) (fun h => by cases h) HR6.out hnm (by rw [HL.out]; exact hown7) hgrow hat
              rw [HL.out] at hst
              have b57 : Below w0.heap.size w0 w7 := ((hbc.trans (b6.mono zc)).trans ((below_box w6 _).mono (by omega))).grown hgrow (by simp; omega) (fun k hk => (HOC.out.own.lt k hk).1)
              refine ⟨n + 1, some ⟨g, 0, none⟩, cap, ys ++ [.string nm, .int .i64 s6, .int .i64 n6, .string t6, .slice na6 nl6 nc6, .slice ka6 kl6 kc6], lab', by omega, by go_num, set_box3 nO7 _, hid_of ?_, b57.setCell (p := ⟨ob, 2, none⟩) hob1 _, by rw [size_set]; omega⟩
              rw [HTK.out]; exact hst.set 2 _
          refine AllReadyH.cons rfl (fun K hK => ?_) AllReadyH.nil
          go_simp
          refine HLC.out.mono ?_
          rintro e w6 ⟨s6, n6, t6, na6, ka6, nl6, nc6, kl6, kc6, rfl, hb6, hr6⟩
          have b6 : Below w4.heap.size w4 w6 := below_undrew hb6
          have z6 := b6.size
          have bw6 := bw4.trans (b6.mono bw4.size)
          have nO6 := (b6.block _ hob2).trans nO
          obtain ⟨o26, -⟩ := box_at nO6 2 (by simp)
          have HR6 := hid_of hr6
          clear hr6 hb6
          refine hK.out _ _ (HS.out _ bw6) (fun hHeld => ?_)
          clear hK K
          try simp only [Act.put, List.setIfInBounds_toArray, List.set_cons_zero, List.set_cons_succ]
          refine wpAnyH_take (i := 21) (v := ?_) rfl (by kernel_rfl) (by kernel_rfl) (by kernel_rfl) (fun _ _ _ h => h) (Or.inl ⟨by rfl, ?_⟩) hHeld ?_
          rotate_left
          · intro w' hSw
            (try dsimp only at hSw)
            go_simp
            try with_reducible rfl
          try simp only [Act.put, List.setIfInBounds_toArray, List.set_cons_zero, List.set_cons_succ]
          refine wpAnyH_ready (rs := [1, 22]) (by kernel_rfl) (by simp) ?_
          refine AllReadyH.cons rfl (fun K hK => ?_) ?_
          · go_simp
            refine hK.out _ _ hHeld (fun hHeld => ?_)
            clear hK K
            try simp only [Act.put, List.setIfInBounds_toArray, List.set_cons_zero, List.set_cons_succ]
            refine wpAnyH_ready (rs := [22]) (by kernel_rfl) (by simp) ?_
            refine AllReadyH.cons rfl (fun K hK => ?_) AllReadyH.nil
            go_simp
            have o2a : (w6.alloc (.cells #[.string nm, .int .i64 s6, .int .i64 n6, .string t6, .slice na6 nl6 nc6, .slice ka6 kl6 kc6] 109)).cell? ⟨ob, 2, none⟩ = some (.slice va n vc) := ((below_box w6 _).cell (p := ⟨ob, 2, none⟩) (by show ob < _; omega)).trans o26
            have bw6a := bw6.trans ((below_box w6 (.cells #[.string nm, .int .i64 s6, .int .i64 n6, .string t6, .slice na6 nl6 nc6, .slice ka6 kl6 kc6] 109)).mono bw6.size)
            refine hK.out _ _ (HS.out _ bw6a) (fun hHeld => ?_)
            clear hK K
            try simp only [Act.put, List.setIfInBounds_toArray, List.set_cons_zero, List.set_cons_succ]
            refine wpAnyH_ready (rs := [23]) (by kernel_rfl) (by simp) ?_
            refine AllReadyH.cons rfl (fun K hK => ?_) AllReadyH.nil
            refine step_append_lies _ rfl (.tmp 36) (.tmp 57) 67 rfl w0.heap.size 109 i1 (.agg #[.string ByteArray.empty, .int .i64 0, .int .i64 0, .string ByteArray.empty, .slice none 0 0, .slice none 0 0]) 6 96 Tryz.underlying67 hi' hz0' hz1' hz2' rfl (by decide) (.slice va n vc) n ys rfl (HOV.out _ (b6.trans ((below_box w6 _).mono z6))) ⟨w6.heap.size, 0, none⟩ 1 1 [.string nm, .int .i64 s6, .int .i64 n6, .string t6, .slice na6 nl6 nc6, .slice ka6 kl6 kc6] rfl rfl (World.news_of_block (heap_alloc_new w6 _)) (by intro u hu; simp at hu; rcases hu with rfl | rfl | rfl | rfl | rfl | rfl <;> rfl) (by omega) (by unfold maxLen; omega) (by omega) (by simp; omega) (w6.heap.size + 1) (by simp) ?_
            intro g cap w7 hown7 hgrow hat hlt7
            have z7 := hgrow.size
            simp at z7
            have nO7 := ((hgrow.block ob (by simp; omega) (fun e => HOC.out.apart e.symm)).trans ((below_box w6 _).block ob (by omega))).trans nO6
            have bw7 := bw6a.grown hgrow bw6a.size (fun k hk => by have := (HOC.out.own.lt k hk).1; omega)
            obtain ⟨o27, of27⟩ := box_at nO7 2 (by simp)
            have H7 := hid_of (And.intro hown7 (And.intro hgrow (And.intro hat nO7)))
            clear hown7 hgrow hat nO7
            refine hK.out _ _ (HS.out _ bw7) (fun hHeld => ?_)
            clear hK K
            try simp only [Act.put, List.setIfInBounds_toArray, List.set_cons_zero, List.set_cons_succ]
            refine wpAnyH_take (i := 24) (v := ?_) rfl (by kernel_rfl) (by kernel_rfl) (by kernel_rfl) (fun _ _ _ h => h) (Or.inl ⟨by rfl, ?_⟩) hHeld ?_
            rotate_left
            · intro w' hSw
              (try dsimp only at hSw)
              go_simp
              try with_reducible rfl
            try simp only [Act.put, List.setIfInBounds_toArray, List.set_cons_zero, List.set_cons_succ]
            refine wpAnyH_ready (rs := [25]) (by kernel_rfl) (by simp) ?_
            refine AllReadyH.cons rfl (fun K hK => ?_) AllReadyH.nil
            go_simp
            have bw8 := bw7.setCell (p := ⟨ob, 2, none⟩) (by show w.heap.size ≤ ob; omega) (.slice (some ⟨g, 0, none⟩) (n + 1) cap)
            refine hK.out _ _ (HS.out _ bw8) (fun hHeld => ?_)
            clear hK K
            try simp only [Act.put, List.setIfInBounds_toArray, List.set_cons_zero, List.set_cons_succ]
            refine wpAnyH_done (by kernel_rfl) ?_ _
            go_wp2_with fail
            go_roundw
            case measure => simp [intOf]; omega
            case rel =>
              obtain ⟨hown7, hgrow, hat, nO7⟩ := H7.out
              obtain ⟨lab', hst⟩ := HOC.out.step (c := ⟨nm, x⟩) zc hob2 b6 (lab1 := fun _ => []) (fun b hb => absurd rfl hb) (d1 := .int .i64 s6) (d2 := .int .i64 n6) (d3 := .string t6) (d4 := .slice na6 nl6 nc6) (d5 := .slice ka6 kl6 kc6) (fun h => by cases h) HR6.out hnm (by rw [HL.out]; exact hown7) hgrow hat
              rw [HL.out] at hst
              have b57 : Below w0.heap.size w0 w7 := ((hbc.trans (b6.mono zc)).trans ((below_box w6 _).mono (by omega))).grown hgrow (by simp; omega) (fun k hk => (HOC.out.own.lt k hk).1)
              refine ⟨n + 1, some ⟨g, 0, none⟩, cap, ys ++ [.string nm, .int .i64 s6, .int .i64 n6, .string t6, .slice na6 nl6 nc6, .slice ka6 kl6 kc6], lab', by omega, by go_num, set_box3 nO7 _, hid_of ?_, b57.setCell (p := ⟨ob, 2, none⟩) hob1 _, by rw [size_set]; omega⟩
              rw [HTK.out]; exact hst.set 2 _
          refine AllReadyH.cons rfl (fun K hK => ?_) AllReadyH.nil
          go_simp
          have o2a : (w6.alloc (.cells #[.string nm, .int .i64 s6, .int .i64 n6, .string t6, .slice na6 nl6 nc6, .slice ka6 kl6 kc6] 109)).cell? ⟨ob, 2, none⟩ = some (.slice va n vc) := ((below_box w6 _).cell (p := ⟨ob, 2, none⟩) (by show ob < _; omega)).trans o26
          have bw6a := bw6.trans ((below_box w6 (.cells #[.string nm, .int .i64 s6, .int .i64 n6, .string t6, .slice na6 nl6 nc6, .slice ka6 kl6 kc6] 109)).mono bw6.size)
          refine hK.out _ _ (HS.out _ bw6a) (fun hHeld => ?_)
          clear hK K
          try simp only [Act.put, List.setIfInBounds_toArray, List.set_cons_zero, List.set_cons_succ]
          refine wpAnyH_ready (rs := [1]) (by kernel_rfl) (by simp) ?_
          refine AllReadyH.cons rfl (fun K hK => ?_) AllReadyH.nil
          go_simp
          refine hK.out _ _ hHeld (fun hHeld => ?_)
          clear hK K
          try simp only [Act.put, List.setIfInBounds_toArray, List.set_cons_zero, List.set_cons_succ]
          refine wpAnyH_ready (rs := [23]) (by kernel_rfl) (by simp) ?_
          refine AllReadyH.cons rfl (fun K hK => ?_) AllReadyH.nil
          refine step_append_lies _ rfl (.tmp 36) (.tmp 57) 67 rfl w0.heap.size 109 i1 (.agg #[.string ByteArray.empty, .int .i64 0, .int .i64 0, .string ByteArray.empty, .slice none 0 0, .slice none 0 0]) 6 96 Tryz.underlying67 hi' hz0' hz1' hz2' rfl (by decide) (.slice va n vc) n ys rfl (HOV.out _ (b6.trans ((below_box w6 _).mono z6))) ⟨w6.heap.size, 0, none⟩ 1 1 [.string nm, .int .i64 s6, .int .i64 n6, .string t6, .slice na6 nl6 nc6, .slice ka6 kl6 kc6] rfl rfl (World.news_of_block (heap_alloc_new w6 _)) (by intro u hu; simp at hu; rcases hu with rfl | rfl | rfl | rfl | rfl | rfl <;> rfl) (by omega) (by unfold maxLen; omega) (by omega) (by simp; omega) (w6.heap.size + 1) (by simp) ?_
          intro g cap w7 hown7 hgrow hat hlt7
          have z7 := hgrow.size
          simp at z7
          have nO7 := ((hgrow.block ob (by simp; omega) (fun e => HOC.out.apart e.symm)).trans ((below_box w6 _).block ob (by omega))).trans nO6
          have bw7 := bw6a.grown hgrow bw6a.size (fun k hk => by have := (HOC.out.own.lt k hk).1; omega)
          obtain ⟨o27, of27⟩ := box_at nO7 2 (by simp)
          have H7 := hid_of (And.intro hown7 (And.intro hgrow (And.intro hat nO7)))
          clear hown7 hgrow hat nO7
          refine hK.out _ _ (HS.out _ bw7) (fun hHeld => ?_)
          clear hK K
          try simp only [Act.put, List.setIfInBounds_toArray, List.set_cons_zero, List.set_cons_succ]
          refine wpAnyH_take (i := 24) (v := ?_) rfl (by kernel_rfl) (by kernel_rfl) (by kernel_rfl) (fun _ _ _ h => h) (Or.inl ⟨by rfl, ?_⟩) hHeld ?_
          rotate_left
          · intro w' hSw
            (try dsimp only at hSw)
            go_simp
            try with_reducible rfl
          try simp only [Act.put, List.setIfInBounds_toArray, List.set_cons_zero, List.set_cons_succ]
          refine wpAnyH_ready (rs := [25]) (by kernel_rfl) (by simp) ?_
          refine AllReadyH.cons rfl (fun K hK => ?_) AllReadyH.nil
          go_simp
          have bw8 := bw7.setCell (p := ⟨ob, 2, none⟩) (by show w.heap.size ≤ ob; omega) (.slice (some ⟨g, 0, none⟩) (n + 1) cap)
          refine hK.out _ _ (HS.out _ bw8) (fun hHeld => ?_)
          clear hK K
          try simp only [Act.put, List.setIfInBounds_toArray, List.set_cons_zero, List.set_cons_succ]
          refine wpAnyH_done (by kernel_rfl) ?_ _
          go_wp2_with fail
          go_roundw
          case measure => simp [intOf]; omega
          case rel =>
            obtain ⟨hown7, hgrow, hat, nO7⟩ := H7.out
            obtain ⟨lab', hst⟩ := HOC.out.step (c := ⟨nm, x⟩) zc hob2 b6 (lab1 := fun _ => []) (fun b hb => absurd rfl hb) (d1 := .int .i64 s6) (d2 := .int .i64 n6) (d3 := .string t6) (d4 := .slice na6 nl6 nc6) (d5 := .slice ka6 kl6 kc6) (fun h => by cases h) HR6.out hnm (by rw [HL.out]; exact hown7) hgrow hat
            rw [HL.out] at hst
            have b57 : Below w0.heap.size w0 w7 := ((hbc.trans (b6.mono zc)).trans ((below_box w6 _).mono (by omega))).grown hgrow (by simp; omega) (fun k hk => (HOC.out.own.lt k hk).1)
            refine ⟨n + 1, some ⟨g, 0, none⟩, cap, ys ++ [.string nm, .int .i64 s6, .int .i64 n6, .string t6, .slice na6 nl6 nc6, .slice ka6 kl6 kc6], lab', by omega, by go_num, set_box3 nO7 _, hid_of ?_, b57.setCell (p := ⟨ob, 2, none⟩) hob1 _, by rw [size_set]; omega⟩
            rw [HTK.out]; exact hst.set 2 _
        · have e : n = r.cells.length := by omega
          subst e
          have hOC := HOC.out
          rw [List.take_length] at hOC
          obtain ⟨a', c', lab1, he, hc', hl1, hM⟩ := hOC.done
          simp only [Value.slice.injEq, true_and] at he
          obtain ⟨rfl, rfl⟩ := he
          have HM := hid_of (And.intro hl1 hM)
          obtain ⟨o0, -⟩ := box_at nO 0 (by simp)
          obtain ⟨o1, -⟩ := box_at nO 1 (by simp)
          obtain ⟨o2, -⟩ := box_at nO 2 (by simp)
          have bx := below_box w4 (.cells #[.string r.type, .int .i64 r.id, .slice va r.cells.length vc] 69)
          have K1 := block_new (w := w4) #[.string r.type, .int .i64 r.id, .slice va r.cells.length vc] 69 rfl
          have HOX := hid_of ((HO.out.keep hbc).keep bx)
          clear hOC hl1 hM
          go_wp2_with (at_builtin; refine wpList_append_lies _ rfl _ _ 35 rfl w.heap.size 69 i0 (.agg #[.string ByteArray.empty, .int .i64 0, .slice none 0 0]) 3 48 Tryz.underlying35 hi hz0 hz1 hz2 rfl (by decide) v k xs rfl ?own ⟨w4.heap.size, 0, none⟩ 1 1 [.string r.type, .int .i64 r.id, .slice va r.cells.length vc] rfl rfl ?c1 ?c2 (by omega) ?c3 (by omega) (by simp; omega) _ rfl ?_)
          case own => have h := HOX.out.own; rw [HLK.out] at h; exact h
          case c1 => exact World.news_of_block K1
          case c2 => intro u hu; simp at hu; rcases hu with rfl | rfl | rfl <;> rfl
          case c3 => unfold maxLen; omega
          intro g cap w5 hown5 hgrow hat hlt5
          have z5 := hgrow.size
          simp at z5
          have HG := hid_of (And.intro hown5 (And.intro hgrow hat))
          clear hown5 hgrow hat K1
          go_wp2_with fail
          go_roundw
          case measure => simp [intOf]; omega
          case rel =>
            obtain ⟨hown5, hgrow, hat⟩ := HG.out
            obtain ⟨lab', hput⟩ := HO.out.put (lab1 := lab1) (by omega) hbc (fun b hb => by have := HM.out.1 b hb; omega) (r := r) (ca := va) (cc := vc) hc' (by rw [HLK.out]; exact HM.out.2) (by rw [HLK.out]; exact hown5) hgrow (by simpa using hat)
            rw [HLK.out] at hput
            refine ⟨k + 1, _, xs ++ [.string r.type, .int .i64 r.id, .slice va r.cells.length vc], lab', by omega, by go_num, rfl, ?_, ?_⟩
            · rw [HTR.out]; exact hid_of hput
            · exact ((hbel.trans (hbc.mono zb)).trans (bx.mono (by omega))).grown hgrow (by simp; omega) (fun k hk => (HOX.out.own.lt k hk).1)
    · have e : k = rs.length := by omega
      subst e
      have hO := HO.out
      rw [List.take_length] at hO
      have hd := hO.done h48 (fun k hk => ⟨by have := (hcl k hk).1; omega, by obtain ⟨ca, ccp, -, -, -, -, -, h⟩ := (HRR.out k hk).pieces; exact h⟩)
      have HD := hid_of hd
      clear hO hd
      go_wp2_with fail
      go_ret
      exact ⟨RowsMade.of HD.out, hbel⟩
end Go.Proofs.YtmemijccbmnaaaaGreat
