import Derived.Test.YtbpdchlbhfjddaaGreatJ6
import Derived.Test.YtbpdchlbhfjddaaGreatJ3
import Derived.Test.YtbpdchlbhfjddaaGreatJ11
import Derived.Test.YtbpdchlbhfjddaaGreatJ5
import Derived.Maps.AppendAt
import Derived.Deep.Upon
import Derived.Deep.RegionLaw
import Derived.Test.YtbpdchlbhfjddaaGreatJ12
namespace Go.Proofs.YtbpdchlbhfjddaaGreat
set_option linter.unusedSimpArgs false
set_option linter.unusedVariables false
open Go.RowKit Go.Maps

theorem hidG {q : Prop} (h : q) : Hid q := h
theorem own_none {W : World} {base n : Nat} (h : W.heap[n]? = some (.cells #[] 9 (0, 0))) (hb : base ≤ n) : W.ownsRow base 9 1 (.slice (some ⟨n, 0, none⟩) 0 0) 0 [] :=
  ⟨rfl, .inr ⟨n, 0, #[], rfl, hb, h, Nat.le_refl _, by simp, rfl, rfl⟩⟩
theorem heap_at {W : World} {o : Obj} {n : Nat} (h : W.heap.size = n) : (W.alloc o).heap[n]? = some o := h ▸ heap_alloc_new W o
theorem heap_under {W : World} {o o' : Obj} {n : Nat} (h : W.heap[n]? = some o') : (W.alloc o).heap[n]? = some o' := (Below.heap_alloc W o n (by
  rcases Nat.lt_or_ge n W.heap.size with hlt | hge
  · exact hlt
  · rw [Array.getElem?_eq_none hge] at h; cases h)).trans h

theorem row5_of_heap {W : World} {b : Nat} {c0 c1 c2 c3 c4 : Value} (h : W.heap[b]? = some (.cells #[c0, c1, c2, c3, c4] 58 (0, 0))) : Row5 W b c0 c1 c2 c3 c4 :=
  ⟨_, h, rfl, fun i hi => by
    have : i = 0 ∨ i = 1 ∨ i = 2 ∨ i = 3 ∨ i = 4 := by omega
    rcases this with rfl | rfl | rfl | rfl | rfl <;> rfl⟩
theorem far_kept {wA W w2 : World} {g0 N j : Nat} {u : Value} (hg : W.grownBy w2 (some g0)) (hb : Below wA.heap.size wA W) (hN : N < wA.heap.size) (hg0 : wA.heap.size ≤ g0) (k : wA.cell? ⟨N, j, none⟩ = some u) : w2.cell? ⟨N, j, none⟩ = some u :=
  ((hg.cell_far ⟨N, j, none⟩ (by show N < _; have := hb.size; omega) (by simp; omega)).trans (hb.cell (p := ⟨N, j, none⟩) hN)).trans k
theorem below_far {wA W w2 : World} {g0 : Nat} (hg : W.grownBy w2 (some g0)) (hb : Below wA.heap.size wA W) (hg0 : wA.heap.size ≤ g0) : Below wA.heap.size wA w2 := hb.grown hg hb.size (fun k hk => by cases hk; omega)
/-- append([]string{}, names...) at a step of a region. -/
theorem step_names {w : World} {ops : Array Oper} {o : Oper} {a : Act} {K : Act → World → Prop} {Q : Exit → Act → World → Prop} {E : Prop} (hgd : o.guard = none) (s x : Operand)
    (ho : o.op = .call { callee := .builtin .append, args := #[s, x], argTypes := #[55, 55] }) (base g0 : Nat) (hs : a.eval s = .slice (some ⟨g0, 0, none⟩) 0 0)
    (hE : w.heap[g0]? = some (.cells #[] 9 (0, 0))) (hb : base ≤ g0) (P : Nat → Prop) (ns : List ByteArray) (na : Option Addr) (nc : Nat) (hx : a.eval x = .slice na ns.length nc) (hS : Strs w P ns na) (hlen : 16 * ns.length ≤ 140737488355328)
    (h : ∀ g cap w', Strs w' (fun b => base ≤ b ∧ b < w'.heap.size ∧ (b = g0 ∨ w.heap.size ≤ b)) ns (some ⟨g, 0, none⟩) → ns.length ≤ cap → w.grownBy w' (some g0) → K (a.put o.dst (.slice (some ⟨g, 0, none⟩) ns.length cap)) w') :
    if Region.wanted o (yielded ops a.tmps) = true then Oper.wp Tryz.prog o a w K Q else E := by
  obtain ⟨i0, hi, hz0, hz1, hz2⟩ := info_parts info9
  have hlt : g0 < w.heap.size := (Array.getElem?_eq_some_iff.1 hE).1
  have hw : Region.wanted o (yielded ops a.tmps) = true := by simp [Region.wanted, hgd]
  rw [if_pos hw]
  obtain ⟨h1, h2, h3⟩ := hS
  by_cases hn0 : ns = []
  · subst hn0
    have hsrc : Src Tryz.prog i0.size 55 (.slice na 0 nc) 0 [] w := by
      cases na with
      | none => exact Src.ofNil w Tryz.underlying55 nc
      | some ad => exact Src.ofSlice w Tryz.underlying55 ad 0 nc [] (by simp) (fun j u h => by simp at h) (fun u h => by simp at h)
    have hrun := run_append_nothing (P := Tryz.prog) w 55 55 o.type 9 i0 Tryz.underlying55 hi (some ⟨g0, 0, none⟩) 0 0 (Nat.le_refl _) (.slice na 0 nc) hsrc
    simp only [List.length_nil] at hx
    unfold Oper.wp execOp
    simp only [ho, resolve, invoke, builtin, Sem.run_bind, Sem.run_pure, Result.andThen_ok, List.map_toArray, List.map_cons, List.map_nil, hs, hx, hrun]
    exact h g0 0 w ⟨fun h => absurd rfl h, h2, h3⟩ (by simp) ⟨rfl, rfl, rfl, Nat.le_refl _, fun _ _ _ => rfl⟩
  · obtain ⟨b, off, rfl, _, hc⟩ := h1 hn0
    obtain ⟨v', w', hrun, r2, r3, r4, r5⟩ := run_append_own_at (P := Tryz.prog) w base 55 o.type 9 i0 (.string ByteArray.empty) 1 16 Tryz.underlying55 hi hz0 hz1 hz2 rfl (by decide) _ 0 [] (own_none hE hb) ⟨b, off, none⟩ ns.length nc (ns.map Value.string) (by simp) (fun j u hj => by
      obtain ⟨hj', rfl⟩ := nth_map ns j u hj
      rw [Addr.add_lit]
      exact hc j hj') (fun u hu => by simp at hu; obtain ⟨x, -, rfl⟩ := hu; rfl) (by unfold maxLen; omega) (by omega) (by omega)
    simp only [Nat.zero_add, List.nil_append, Value.ownBlock] at r2 r3 r5
    obtain ⟨g, cap, rfl, hg2, hg3⟩ : ∃ g cap, v' = .slice (some ⟨g, 0, none⟩) ns.length cap ∧ g < w'.heap.size ∧ ns.length ≤ cap := by
      rcases r2.2 with ⟨h', _⟩ | ⟨g, cap, cur, hv, hb', hg, hc', _⟩
      · rw [h'] at r5; simp [Value.ownBlock] at r5
      · exact ⟨g, cap, hv, (Array.getElem?_eq_some_iff.1 hg).1, hc'⟩
    have hS' := strs_owned (base := base) r2 h2 h3 hg2
    have hgg : g = g0 ∨ g = w.heap.size := by simpa [Value.ownBlock] using r5
    unfold Oper.wp execOp
    simp only [ho, resolve, invoke, builtin, Sem.run_bind, Sem.run_pure, Result.andThen_ok, List.map_toArray, List.map_cons, List.map_nil, hs, hx, hrun]
    refine h g cap w' ⟨fun hn => ?_, h2, h3⟩ hg3 r3
    obtain ⟨b', o', e', hb', hc'⟩ := hS'.1.1 hn
    exact ⟨b', o', e', ⟨hb'.1, hb'.2, by cases e'; omega⟩, hc'⟩

/-- What l1Copy does. -/
def ClOk (f : Nat) : Prop := ∀ (x : V) (w : World) (B : Nat) (v : Value), fit f x → Rep w (· < B) x v → B ≤ w.heap.size →
  Calls Tryz.prog 35 #[v] w fun e w' => ∃ (s n : Int) (t : ByteArray) (na ka : Option Addr) (nl nc kl kc : Nat), e = .returned (.agg #[.int .i64 s, .int .i64 n, .string t, .slice na nl nc, .slice ka kl kc]) ∧ Below w.heap.size w w' ∧
    Rep w' (fun b => w.heap.size ≤ b ∧ b < w'.heap.size) x (.agg #[.int .i64 s, .int .i64 n, .string t, .slice na nl nc, .slice ka kl kc])

set_option maxRecDepth 20000 in
set_option maxHeartbeats 1600000 in
theorem l1Copy_step (f : Nat) (IH : ClOk f) : ClOk (f + 1) := by
  intro x w B v hfit hR hB
  obtain ⟨s, n, t, ns, ks⟩ := x
  obtain ⟨na, ka, nc, kc, rfl, hs, hns, ht, hbs, hK⟩ := hR.inv
  clear hR
  obtain ⟨hf1, ⟨hf2, hf4⟩, hf3⟩ := hfit
  replace hf1 : ks.length ≤ 2097152 := hf1
  replace hf2 : ns.length ≤ 2097152 := hf2
  replace hf3 : ∀ i, i < ks.length → fit f (kth ks i) := hf3
  go_enter Tryz.func35, Tryz.ntmps35
  go_upto_region 1 with fail
  have b0 := below_box2 w (.cells #[.int .i64 s, .int .i64 n, .string t, .slice na ns.length nc, .slice ka ks.length kc] 58) (.cells #[.int .i64 0, .int .i64 0, .string ⟨#[]⟩, .slice none 0 0, .slice none 0 0] 58)
  have r0 : Row5 ((w.alloc (.cells #[.int .i64 s, .int .i64 n, .string t, .slice na ns.length nc, .slice ka ks.length kc] 58)).alloc (.cells #[.int .i64 0, .int .i64 0, .string ⟨#[]⟩, .slice none 0 0, .slice none 0 0] 58)) w.heap.size (.int .i64 s) (.int .i64 n) (.string t) (.slice na ns.length nc) (.slice ka ks.length kc) := (Row5.new w _ _ _ _ _).of_block ((below_box _ _).block _ (by simp))
  have r1 : Row5 ((w.alloc (.cells #[.int .i64 s, .int .i64 n, .string t, .slice na ns.length nc, .slice ka ks.length kc] 58)).alloc (.cells #[.int .i64 0, .int .i64 0, .string ⟨#[]⟩, .slice none 0 0, .slice none 0 0] 58)) (w.heap.size + 1) (.int .i64 0) (.int .i64 0) (.string ⟨#[]⟩) (.slice none 0 0) (.slice none 0 0) := by
    have := Row5.new (w.alloc (.cells #[.int .i64 s, .int .i64 n, .string t, .slice na ns.length nc, .slice ka ks.length kc] 58)) (.int .i64 0) (.int .i64 0) (.string ⟨#[]⟩) (.slice none 0 0) (.slice none 0 0)
    simpa using this
  have z0 : ((w.alloc (.cells #[.int .i64 s, .int .i64 n, .string t, .slice na ns.length nc, .slice ka ks.length kc] 58)).alloc (.cells #[.int .i64 0, .int .i64 0, .string ⟨#[]⟩, .slice none 0 0, .slice none 0 0] 58)).heap.size = w.heap.size + 1 + 1 := by simp
  generalize (w.alloc (.cells #[.int .i64 s, .int .i64 n, .string t, .slice na ns.length nc, .slice ka ks.length kc] 58)).alloc (.cells #[.int .i64 0, .int .i64 0, .string ⟨#[]⟩, .slice none 0 0, .slice none 0 0] 58) = wA at *
  go_cut [3] (fun p wx => ∃ (ob : Nat) (na' : Option Addr) (nc' : Nat), p = .pointer (some ⟨ob, 0, none⟩) ∧ Below (w.heap.size + 1 + 1) wA wx ∧ w.heap.size + 1 < ob ∧ ob < wx.heap.size ∧ ns.length ≤ nc' ∧ Strs wx (fun b => w.heap.size + 1 < b ∧ b < wx.heap.size ∧ b ≠ ob) ns na' ∧ Row5 wx ob (.int .i64 s) (.int .i64 n) (.string t) (.slice na' ns.length nc') (.slice none 0 0))
  case first =>
    have hsA := hs.under (b0.mono hB)
    obtain ⟨k0, k1, k2, k3, k4⟩ := r0.five
    have HA := hidG (And.intro hsA r0)
    clear hsA hs r0 r1 hK IH hf3 hf4
    have e1 : ¬ w.heap.size = w.heap.size + 1 + 1 := by omega
    have e2 : ¬ w.heap.size + 1 + 1 = w.heap.size := by omega
    have e3 : ¬ w.heap.size = w.heap.size + 1 + 1 + 1 := by omega
    have e4 : ¬ w.heap.size + 1 + 1 + 1 = w.heap.size := by omega
    go_region_held3 (fun w' => w'.cell? ⟨w.heap.size, 0, none⟩ = some (.int .i64 s) ∧ w'.cell? ⟨w.heap.size, 1, none⟩ = some (.int .i64 n) ∧ w'.cell? ⟨w.heap.size, 2, none⟩ = some (.string t) ∧ w'.cell? ⟨w.heap.size, 3, none⟩ = some (.slice na ns.length nc)) (go_keep) (first
      | (
        refine step_names rfl (.tmp 11) (.tmp 13) rfl (w.heap.size + 1 + 1) _ rfl (by first | exact heap_at z0 | exact heap_at (by simp [z0]) | exact heap_under (heap_at z0)) (by omega) (· < B) ns na nc rfl (HA.out.1.under (by repeat (first | exact Below.refl _ _ | (refine below_drews ?_ _) | (refine Below.drew ?_) | (refine Below.alloc ?_ (by first | omega | (simp; done) | (simp; omega)) _)))) (by omega) ?_
        intro g cap w2 hS2 hcap hg2
        have z2 := hg2.size
        have q0 := far_kept hg2 (by repeat (first | exact Below.refl _ _ | (refine below_drews ?_ _) | (refine Below.drew ?_) | (refine Below.alloc ?_ (by first | omega | (simp; done) | (simp; omega)) _))) (by omega) (by omega) k0
        have q1 := far_kept hg2 (by repeat (first | exact Below.refl _ _ | (refine below_drews ?_ _) | (refine Below.drew ?_) | (refine Below.alloc ?_ (by first | omega | (simp; done) | (simp; omega)) _))) (by omega) (by omega) k1
        have q2 := far_kept hg2 (by repeat (first | exact Below.refl _ _ | (refine below_drews ?_ _) | (refine Below.drew ?_) | (refine Below.alloc ?_ (by first | omega | (simp; done) | (simp; omega)) _))) (by omega) (by omega) k2
        have q3 := far_kept hg2 (by repeat (first | exact Below.refl _ _ | (refine below_drews ?_ _) | (refine Below.drew ?_) | (refine Below.alloc ?_ (by first | omega | (simp; done) | (simp; omega)) _))) (by omega) (by omega) k3
        have BW := below_far (wA := wA) hg2 (by repeat (first | exact Below.refl _ _ | (refine below_drews ?_ _) | (refine Below.drew ?_) | (refine Below.alloc ?_ (by first | omega | (simp; done) | (simp; omega)) _))) (by omega)
        have HS2 := hidG hS2
        clear hS2
        first
          | (
            have hX : Row5 w2 (w.heap.size + 1 + 1 + 1) (.int .i64 0) (.int .i64 0) (.string ⟨#[]⟩) (.slice none 0 0) (.slice none 0 0) := row5_of_heap ((hg2.block _ (by simp [z0]) (by simp)).trans (heap_at (by simp [z0])))
            obtain ⟨x0, x1, x2, x3, x4⟩ := hX.five
            have hxf := hX.frozen)
          | (
            have hX : Row5 w2 (w.heap.size + 1 + 1) (.int .i64 0) (.int .i64 0) (.string ⟨#[]⟩) (.slice none 0 0) (.slice none 0 0) := row5_of_heap ((hg2.block _ (by simp [z0]) (by simp)).trans (heap_under (heap_at z0)))
            obtain ⟨x0, x1, x2, x3, x4⟩ := hX.five
            have hxf := hX.frozen)
          | skip))
    · go_wp2_with fail
      go_meet
      case rel =>
        have zB := BW.size
        refine ⟨w2.heap.size, _, cap, rfl, (z0 ▸ BW).trans ((below_box w2 _).mono (by omega)), by omega, by simp, hcap, (HS2.out.mono fun k hk => (below_box w2 _).block k hk.2.1).sub fun k hk => ⟨by omega, by simp; omega, by omega⟩, Row5.new _ _ _ _ _ _⟩
    · go_wp2_with fail
      go_meet
      case rel =>
        have zB := BW.size
        have hsz := put5_size w2 (w.heap.size + 1 + 1 + 1) 0 (.int .i64 s) (.int .i64 n) (.string t) (.slice (some ⟨g, 0, none⟩) ns.length cap) (.slice none 0 0)
        refine ⟨w.heap.size + 1 + 1 + 1, _, cap, rfl, put5_below (z0 ▸ BW) (by omega) _ _ _ _ _ _, by omega, Nat.lt_of_lt_of_eq hX.lt hsz.symm, hcap, (HS2.out.mono fun k hk => put5_block _ _ _ _ _ _ _ _ k ?_).sub fun k hk => ⟨by omega, Nat.lt_of_lt_of_eq hk.2.1 hsz.symm, ?_⟩, hX.put _ _ _ _ _⟩
        · have := hk.2.2; simp [z0] at this; omega
        · have := hk.2.2; simp [z0] at this; omega
    · go_wp2_with fail
      go_meet
      case rel =>
        have zB := BW.size
        have hsz := put5_size w2 (w.heap.size + 1 + 1) 0 (.int .i64 s) (.int .i64 n) (.string t) (.slice (some ⟨g, 0, none⟩) ns.length cap) (.slice none 0 0)
        refine ⟨w.heap.size + 1 + 1, _, cap, rfl, put5_below (z0 ▸ BW) (by omega) _ _ _ _ _ _, by omega, Nat.lt_of_lt_of_eq hX.lt hsz.symm, hcap, (HS2.out.mono fun k hk => put5_block _ _ _ _ _ _ _ _ k ?_).sub fun k hk => ⟨by omega, Nat.lt_of_lt_of_eq hk.2.1 hsz.symm, ?_⟩, hX.put _ _ _ _ _⟩
        · have := hk.2.2; simp [z0] at this; omega
        · have := hk.2.2; simp [z0] at this; omega
  case rest =>
    obtain ⟨ob, na', nc', rfl, hbx, hob1, hob2, hnc', hsx, hrO⟩ := hcut
    have hbw : Below w.heap.size w wc := b0.trans (hbx.mono (by omega))
    have hr0 := r0.of_block (hbx.block _ (by omega))
    have hr1 := r1.of_block (hbx.block _ (by omega))
    clear r0 r1 hbx
    have h3 := hK.1
    obtain ⟨-, b, off, C, hka, hc, hr⟩ := hK
    go_wp2_with fail
    go_loopw [4] (fun i wr => ∃ (k : Nat) (v : Value) (xs : List Value), k ≤ ks.length ∧ i = .int .i64 k ∧ Below w.heap.size w wr ∧ ob < wr.heap.size ∧ Row5 wr w.heap.size (.int .i64 s) (.int .i64 n) (.string t) (.slice na ns.length nc) (.slice ka ks.length kc) ∧ Row5 wr (w.heap.size + 1) (.int .i64 0) (.int .i64 0) (.string ⟨#[]⟩) (.slice none 0 0) (.slice none 0 0) ∧ Row5 wr ob (.int .i64 s) (.int .i64 n) (.string t) (.slice na' ns.length nc') v ∧ OwnKids wr (w.heap.size + 1 + 1) ob ks k v xs ∧ Strs wr (fun b => w.heap.size + 1 < b ∧ b < wr.heap.size ∧ b ≠ ob ∧ v.ownBlock ≠ some b) ns na') (fun i _ => ks.length - (intOf i).toNat)
    case atStart => exact ⟨0, _, [], Nat.zero_le _, rfl, hbw, hob2, hr0, hr1, hrO, OwnKids.nil _ _ _ _, hsx.sub fun b hb => ⟨hb.1, hb.2.1, hb.2.2, by simp [Value.ownBlock]⟩⟩
    case round =>
      clear hbw hob2 hsx hr0 hr1 hrO
      obtain ⟨k, v, xs, hk, rfl, hbel, hob3, hr0, hr1, hrO, hown, hst⟩ := hrel
      obtain ⟨y0, y1, y2, y3, y4⟩ := hr0.five
      by_cases hlt : k < ks.length
      · obtain ⟨rfl, hbB⟩ := hka (by intro e; simp [e] at hlt)
        have hrk := hr k hlt
        obtain ⟨s', n', t', na2, ka2, nl2, nc2, kl2, kc2, j0, j1, j2, j3, j4⟩ : ∃ (s' n' : Int) (t' : ByteArray) (na2 ka2 : Option Addr) (nl2 nc2 kl2 kc2 : Nat), C k 0 = .int .i64 s' ∧ C k 1 = .int .i64 n' ∧ C k 2 = .string t' ∧ C k 3 = .slice na2 nl2 nc2 ∧ C k 4 = .slice ka2 kl2 kc2 := by
          obtain ⟨a1, a2, a3, a4, e5, -⟩ := hrk.form
          simp only [Value.agg.injEq, Array.mk.injEq, List.cons.injEq, and_true] at e5
          exact ⟨_, _, _, _, _, _, _, _, _, e5⟩
        have hck : ∀ j, j < 5 → wr.cell? ⟨b, off + k * 5 + j, none⟩ = some (C k j) := fun j hj => (hbel.cell (p := ⟨b, off + k * 5 + j, none⟩) (by show b < _; omega)).trans (hc k hlt j hj)
        have hc0 : wr.cell? ⟨b, off + k * 5, none⟩ = some (C k 0) := hck 0 (by omega)
        have hc1 := hck 1 (by omega)
        have hc2 := hck 2 (by omega)
        have hc3 := hck 3 (by omega)
        have hc4 := hck 4 (by omega)
        rw [j0] at hc0 hrk
        rw [j1] at hc1 hrk
        rw [j2] at hc2 hrk
        rw [j3] at hc3 hrk
        rw [j4] at hc4 hrk
        clear hck hc j0 j1 j2 j3 j4 hr hka
        have hszw := hbel.size
        have hih := IH (kth ks k) wr.drew B _ (hf3 k hlt) (hrk.under (hbel.drew.mono hB)) (by simp; omega)
        obtain ⟨i0, hi, hz0, hz1, hz2⟩ := info_parts info30
        obtain ⟨o0, o1, o2, o3, o4⟩ := hrO.five
        have hof := hrO.frozen
        have HST := hidG (And.intro hst (And.intro hr0 (And.intro hr1 hown)))
        have hown' := hown
        go_upto_region 5 with fail
        have eN1 : ¬ w.heap.size = ob := by omega
        have eN2 : ¬ ob = w.heap.size := by omega
        clear hst hr0 hr1
        go_region_law (first
            | (
              go_simp
              go_at_call 35
              refine hih.mono ?_
              rintro e w1 ⟨s3, n3, t3, na3, ka3, nl3, nc3, kl3, kc3, rfl, hb1, hrep1⟩
              have hbb : Below wr.heap.size wr w1 := below_undrew hb1
              have hrO1 := hrO.of_block (hbb.block ob hob3)
              obtain ⟨v0, v1, v2, v3, v4⟩ := hrO1.five
              have hof1 := hrO1.frozen
              have hnw1 : ob ≠ w1.heap.size := by have := hbb.size; omega
              have hnw2 : w1.heap.size ≠ ob := fun e => hnw1 e.symm
              have v4a : ∀ o, (w1.alloc o).cell? ⟨ob, 4, none⟩ = some v := fun o => ((below_box w1 o).cell (p := ⟨ob, 4, none⟩) (by show ob < _; have := hbb.size; omega)).trans v4)
            | (
              refine step_append_lies _ rfl (.tmp 24) (.tmp 31) 56 rfl (w.heap.size + 1 + 1) 58 i0 zeroV 5 80 Tryz.underlying56 hi hz0 hz1 hz2 rfl (by decide) v k xs rfl (hown.owns hbb _) ⟨w1.heap.size, 0, none⟩ 1 1 [.int .i64 s3, .int .i64 n3, .string t3, .slice na3 nl3 nc3, .slice ka3 kl3 kc3] rfl rfl (World.news_of_block (heap_alloc_new w1 _)) (by intro u hu; simp at hu; rcases hu with rfl | rfl | rfl | rfl | rfl <;> rfl) (by omega) (by unfold maxLen; omega) (by omega) (by have := hbb.size; simp; omega) (w1.heap.size + 1) (by simp) ?_
              intro g cap w3 hown3 hgrow hat hlt3
              have hstep := hown.step (by omega) hob3 hbb (hrep1.sub fun b hb => ⟨by have := hb.1; simp at this; omega, hb.2⟩) hown3 hgrow hat
              have hrO3 := hrO.of_block (hstep.2.1 ob hob3 hown.2.1)
              obtain ⟨t0, t1, t2, t3', t4⟩ := hrO3.five
              have hof3 := hrO3.frozen))
        all_goals
          go_wp2_with fail
          go_roundw
          case rel =>
            obtain ⟨hst, hr0, hr1, -⟩ := HST.out
            have hs3 := hstep.2.2.1
            have hs1 := hbb.size
            have hown' := (hstep.1.set 4 (.slice (some ⟨g, 0, none⟩) (k + 1) cap))
            have hat' : ∀ b', b' < wr.heap.size → v.ownBlock ≠ some b' → g ≠ b' := fun b' hb' hn e => by
              rcases hat with h1 | h1
              · exact hn (by rw [h1, e])
              · omega
            have hsz4 : (w3.setCell ⟨ob, 4, none⟩ (.slice (some ⟨g, 0, none⟩) (k + 1) cap)).heap.size = w3.heap.size := size_set _ _ _
            have hfar : ∀ b', b' < w.heap.size + 1 + 1 → (w3.setCell ⟨ob, 4, none⟩ (.slice (some ⟨g, 0, none⟩) (k + 1) cap)).heap[b']? = wr.heap[b']? := fun b' hb' => (Below.heap_setCell _ _ _ _ (by show b' ≠ ob; omega)).trans (hstep.2.1 b' (by have := hr1.lt; omega) fun e => by have := (hown.1.lt _ e).1; omega)
            refine ⟨k + 1, _, _, by omega, by go_num, (hbel.trans (hstep.2.2.2.mono (by omega))).setCell (by show w.heap.size ≤ ob; omega) _, by rw [hsz4]; omega, hr0.of_block (hfar _ (by omega)), hr1.of_block (hfar _ (by omega)), hrO3.set4 _, hown', ?_⟩
            refine (hst.mono fun b' hb' => (Below.heap_setCell _ _ _ _ (by show b' ≠ ob; exact hb'.2.2.1)).trans (hstep.2.1 b' hb'.2.1 hb'.2.2.2)).sub fun b' hb' => ⟨hb'.1, by rw [hsz4]; omega, hb'.2.2.1, fun e => ?_⟩
            exact hat' b' hb'.2.1 hb'.2.2.2 (by simpa [Value.ownBlock] using e)
          case measure => simp [intOf]; omega
      · have e : k = ks.length := by omega
        subst e
        obtain ⟨ka3, kc3, rfl, hK3⟩ := hown.kids h3
        obtain ⟨o0, o1, o2, o3, o4⟩ := hrO.five
        obtain ⟨l0, l1, l2, l3, l4⟩ := hr1.five
        have hlf := hr1.frozen
        have HK3 := hidG (And.intro hK3 (And.intro hst hr1))
        clear hK3 hst hr1 hr0 hrO hown IH
        go_wp2_with fail
        obtain ⟨hK3, hst, hr1⟩ := HK3.out
        have hfin : Row5 (put5 wr (w.heap.size + 1) 0 (.int .i64 s) (.int .i64 n) (.string t) (.slice na' ns.length nc') (.slice ka3 ks.length kc3)) (w.heap.size + 1) (.int .i64 s) (.int .i64 n) (.string t) (.slice na' ns.length nc') (.slice ka3 ks.length kc3) := hr1.put _ _ _ _ _
        have hsz := put5_size wr (w.heap.size + 1) 0 (.int .i64 s) (.int .i64 n) (.string t) (.slice na' ns.length nc') (.slice ka3 ks.length kc3)
        have hblk := put5_block wr (w.heap.size + 1) 0 (.int .i64 s) (.int .i64 n) (.string t) (.slice na' ns.length nc') (.slice ka3 ks.length kc3)
        refine bodyPost_ret (v := .agg #[.int .i64 s, .int .i64 n, .string t, .slice na' ns.length nc', .slice ka3 ks.length kc3]) ?res rfl ⟨s, n, t, _, _, _, _, _, _, rfl, put5_below hbel (by omega) _ _ _ _ _ _, Rep.of_kids ((hst.mono fun b' hb' => hblk b' (by omega)).sub fun b' hb' => ⟨by omega, ?_⟩) hnc' ht hbs ((hK3.mono fun b' hb' => hblk b' (by omega)).sub fun b' hb' => ⟨by omega, ?_⟩)⟩
        case res =>
          obtain ⟨p0, p1, p2, p3, p4⟩ := hfin.five
          simp only [put5] at p0 p1 p2 p3 p4
          clear hfin hblk hsz hst hK3 hr1
          simp [results, Tryz.results35, go_sem, p0, p1, p2, p3, p4]
        · exact Nat.lt_of_lt_of_eq hb'.2.1 hsz.symm
        · exact Nat.lt_of_lt_of_eq hb'.2.1 hsz.symm

theorem l1Copy_fit (f : Nat) : ClOk f := by
  induction f with
  | zero => intro x w B v h; exact h.elim
  | succ f ih => exact l1Copy_step f ih
theorem l1Copy_any (x : V) (w : World) (B : Nat) (v : Value) (h : szV x ≤ 1048576) (hR : Rep w (· < B) x v) (hB : B ≤ w.heap.size) :
    Calls Tryz.prog 35 #[v] w fun e w' => ∃ (s n : Int) (t : ByteArray) (na ka : Option Addr) (nl nc kl kc : Nat), e = .returned (.agg #[.int .i64 s, .int .i64 n, .string t, .slice na nl nc, .slice ka kl kc]) ∧ Below w.heap.size w w' ∧
      Rep w' (fun b => w.heap.size ≤ b ∧ b < w'.heap.size) x (.agg #[.int .i64 s, .int .i64 n, .string t, .slice na nl nc, .slice ka kl kc]) := by
  obtain ⟨f, hf⟩ := fit_of x h
  exact l1Copy_fit f x w B v hf hR hB
end Go.Proofs.YtbpdchlbhfjddaaGreat

namespace Go.Proofs.YtbpdchlbhfjddaaGreat
set_option linter.unusedSimpArgs false
set_option linter.unusedVariables false
open Go.RowKit

set_option maxHeartbeats 400000 in
theorem l1Null_any (w : World) : Calls Tryz.prog 62 #[] w fun e w' => e = .returned (.agg #[.int .i64 1, .int .i64 0, .string ⟨#[]⟩, .slice none 0 0, .slice none 0 0]) ∧ Below w.heap.size w w' := by
  go_enter Tryz.func62, Tryz.ntmps62
  go_wp2_with fail
  refine bodyPost_ret (v := .agg #[.int .i64 1, .int .i64 0, .string ⟨#[]⟩, .slice none 0 0, .slice none 0 0]) (by simp [results, Tryz.results62, go_sem]) rfl ⟨rfl, below_box _ _⟩

/-- What the model finds in a cell: the value where it is. -/
def CellOk (w : World) (P : Nat → Prop) (x : V) (e : Ending) : Prop := ∃ (s n : Int) (t : ByteArray) (na ka : Option Addr) (nl nc kl kc : Nat), e = .returned (.agg #[.int .i64 s, .int .i64 n, .string t, .slice na nl nc, .slice ka kl kc]) ∧ Rep w P x (.agg #[.int .i64 s, .int .i64 n, .string t, .slice na nl nc, .slice ka kl kc])

set_option maxRecDepth 20000 in
set_option maxHeartbeats 800000 in
theorem l4Cell_any (r : Ro) (f : ByteArray) (w : World) (P : Nat → Prop) (v : Value) (hR : RoRep w P r v) (hP : ∀ b, P b → b < w.heap.size) :
    Calls Tryz.prog 36 #[v, .string f] w fun e w' => CellOk w P (cellV r.cells f) e ∧ Below w.heap.size w w' := by
  obtain ⟨ra, rc, rfl, hCe, hrc, -⟩ := hR
  obtain ⟨h3, C, hA, hr⟩ := hCe
  go_enter Tryz.func36, Tryz.ntmps36
  go_wp2_with fail
  have zB := below_box2 w (.cells #[.string r.type, .int .i64 r.id, .slice ra r.cells.length rc] 51) (.cells #[.int .i64 0, .int .i64 0, .string ⟨#[]⟩, .slice none 0 0, .slice none 0 0] 58)
  have n0 := block_old (.cells #[.int .i64 0, .int .i64 0, .string ⟨#[]⟩, .slice none 0 0, .slice none 0 0] 58) (block_new (w := w) #[.string r.type, .int .i64 r.id, .slice ra r.cells.length rc] 51 rfl) (by simp)
  have zR : Row5 ((w.alloc (.cells #[.string r.type, .int .i64 r.id, .slice ra r.cells.length rc] 51)).alloc (.cells #[.int .i64 0, .int .i64 0, .string ⟨#[]⟩, .slice none 0 0, .slice none 0 0] 58)) (w.heap.size + 1) (.int .i64 0) (.int .i64 0) (.string ⟨#[]⟩) (.slice none 0 0) (.slice none 0 0) := row5_of_heap (block_new _ _ (by simp))
  generalize (w.alloc (.cells #[.string r.type, .int .i64 r.id, .slice ra r.cells.length rc] 51)).alloc (.cells #[.int .i64 0, .int .i64 0, .string ⟨#[]⟩, .slice none 0 0, .slice none 0 0] 58) = wA at *
  have r2 := (box_at n0 2 (by simp)).1
  clear n0
  go_loopw [5] (fun i wr => ∃ (k : Nat), k ≤ r.cells.length ∧ i = .int .i64 k ∧ fc r.cells f k = none ∧ wr = wA) (fun i _ => r.cells.length - (intOf i).toNat)
  case atStart => exact ⟨0, Nat.zero_le _, rfl, rfl, rfl⟩
  case round =>
    obtain ⟨k, hk, rfl, hf, rfl⟩ := hrel
    have hll := zR.lt
    obtain ⟨l0, l1, l2, l3, l4⟩ := zR.five
    have hlf := zR.frozen
    by_cases hlt : k < r.cells.length
    · obtain ⟨b, off, rfl, hbB, hc⟩ := hA (by omega)
      have hbw := hP b hbB
      have hki : (k : Int) < (r.cells.length : Int) := by omega
      have hck : ∀ j, j < 6 → wr.cell? ⟨b, off + k * 6 + j, none⟩ = some (C k j) := fun j hj => (zB.cell (p := ⟨b, off + k * 6 + j, none⟩) (by show b < _; omega)).trans (hc k hlt j hj)
      obtain ⟨e0, hV, hn⟩ := (hr k hlt).pieces
      obtain ⟨na, ka, nc, kc, e5, -⟩ := hV.form
      simp only [Value.agg.injEq, Array.mk.injEq, List.cons.injEq, and_true] at e5
      obtain ⟨e1, e2, e3, e4, e5⟩ := e5
      rw [e1, e2, e3, e4, e5] at hV
      have hc0 : wr.cell? ⟨b, off + k * 6, none⟩ = some (.string (cth r.cells k).name) := e0 ▸ hck 0 (by omega)
      have hc1 : wr.cell? ⟨b, off + k * 6 + 1, none⟩ = some (.int .i64 (cth r.cells k).val.sort) := e1 ▸ hck 1 (by omega)
      have hc2 : wr.cell? ⟨b, off + k * 6 + 1 + 1, none⟩ = some (.int .i64 (cth r.cells k).val.num) := e2 ▸ hck 2 (by omega)
      have hc3 : wr.cell? ⟨b, off + k * 6 + 1 + 2, none⟩ = some (.string (cth r.cells k).val.text) := e3 ▸ hck 3 (by omega)
      have hc4 : wr.cell? ⟨b, off + k * 6 + 1 + 3, none⟩ = some (.slice na (cth r.cells k).val.names.length nc) := e4 ▸ hck 4 (by omega)
      have hc5 : wr.cell? ⟨b, off + k * 6 + 1 + 4, none⟩ = some (.slice ka (cth r.cells k).val.kids.length kc) := e5 ▸ hck 5 (by omega)
      clear hck hc e0 e1 e2 e3 e4 e5
      obtain ⟨q, hq⟩ : ∃ q, q = ((cth r.cells k).name.toList == f.toList) := ⟨_, rfl⟩
      cases q
      rotate_left
      · have e : (cth r.cells k).name.toList = f.toList := by simpa using hq.symm
        have hq' := hq.symm
        clear hq
        have hfc := fc_at hf hlt (bytes_inj e)
        clear e
        have hcv : cellV r.cells f = (cth r.cells k).val := by unfold cellV; rw [hfc]
        have HX := hid_of zR
        have HV := hid_of hV
        have HCV := hid_of hcv
        clear zR hV hcv hfc
        go_wp2_with fail
        have hfin := HX.out.put (.int .i64 (cth r.cells k).val.sort) (.int .i64 (cth r.cells k).val.num) (.string (cth r.cells k).val.text) (.slice na (cth r.cells k).val.names.length nc) (.slice ka (cth r.cells k).val.kids.length kc)
        refine bodyPost_ret (v := .agg #[.int .i64 (cth r.cells k).val.sort, .int .i64 (cth r.cells k).val.num, .string (cth r.cells k).val.text, .slice na (cth r.cells k).val.names.length nc, .slice ka (cth r.cells k).val.kids.length kc]) ?res rfl ⟨?_, put5_below zB (by omega) 0 _ _ _ _ _⟩
        case res =>
          obtain ⟨p0, p1, p2, p3, p4⟩ := hfin.five
          simp only [put5] at p0 p1 p2 p3 p4
          clear hfin
          simp [results, Tryz.results36, go_sem, p0, p1, p2, p3, p4]
        rw [HCV.out]
        exact ⟨_, _, _, _, _, _, _, _, _, rfl, HV.out⟩
      · have e : ¬ (cth r.cells k).name.toList = f.toList := by simpa using hq.symm
        have hq' := hq.symm
        clear hq
        have HE := hid_of e
        clear e
        go_wp2_with fail
        go_roundw
        case rel => exact ⟨k + 1, by omega, by go_num, fc_not hf (fun h => HE.out (by rw [h])), trivial⟩
        case measure => simp [intOf]; omega
    · have e : k = r.cells.length := by omega
      subst e
      have hcv : cellV r.cells f = vNull := by unfold cellV; rw [hf]
      have HX := hid_of zR
      clear zR
      go_wp2_with fail
      refine (l1Null_any wr).mono ?_
      rintro e w1 ⟨rfl, hb1⟩
      have X1 := HX.out.of_block (hb1.block _ hll)
      have HX1 := hid_of X1
      obtain ⟨m0, m1, m2, m3, m4⟩ := X1.five
      have hmf := X1.frozen
      have b1 := zB.trans (hb1.mono zB.size)
      clear X1 hb1
      go_wp2_with fail
      have hfin := HX1.out.put (.int .i64 1) (.int .i64 0) (.string ⟨#[]⟩) (.slice none 0 0) (.slice none 0 0)
      refine bodyPost_ret (v := .agg #[.int .i64 1, .int .i64 0, .string ⟨#[]⟩, .slice none 0 0, .slice none 0 0]) ?res rfl ⟨?_, put5_below b1 (by omega) 0 _ _ _ _ _⟩
      case res =>
        obtain ⟨p0, p1, p2, p3, p4⟩ := hfin.five
        simp only [put5] at p0 p1 p2 p3 p4
        clear hfin
        simp [results, Tryz.results36, go_sem, p0, p1, p2, p3, p4]
      rw [hcv]
      exact ⟨_, _, _, _, _, _, _, _, _, rfl, vNull_rep _ _⟩

/-- Cells that the model gathers, each value in memory of its own. -/
def OwnC2 (w : World) (lo ob : Nat) (cs : List Ce) (v : Value) (xs : List Value) : Prop :=
  w.ownsRow lo 62 6 v cs.length xs ∧ v.ownBlock ≠ some ob ∧ ∀ i, i < cs.length → CeRep w (fun b => lo ≤ b ∧ b < w.heap.size ∧ b ≠ ob ∧ v.ownBlock ≠ some b) (cth cs i) (.agg #[xs.getD (i * 6) undef, xs.getD (i * 6 + 1) undef, xs.getD (i * 6 + 2) undef, xs.getD (i * 6 + 3) undef, xs.getD (i * 6 + 4) undef, xs.getD (i * 6 + 5) undef])
theorem OwnC2.nil (w : World) (lo ob : Nat) : OwnC2 w lo ob [] (.slice none 0 0) [] := ⟨World.ownsRow_nil _ _ _ _, by simp [Value.ownBlock], fun i hi => by simp at hi⟩
theorem OwnC2.step {wr w1 w3 : World} {lo ob : Nat} {cs : List Ce} {c : Ce} {v : Value} {xs : List Value} (h : OwnC2 wr lo ob cs v xs) (hlo : lo ≤ wr.heap.size) (hob : ob < wr.heap.size) (hb1 : Below wr.heap.size wr w1) {d0 d1 d2 d3 d4 d5 : Value}
    (hrep : CeRep w1 (fun b => wr.heap.size ≤ b ∧ b < w1.heap.size) c (.agg #[d0, d1, d2, d3, d4, d5])) {o : Obj} {g cap : Nat}
    (hown : w3.ownsRow lo 62 6 (.slice (some ⟨g, 0, none⟩) (cs.length + 1) cap) (cs.length + 1) (xs ++ [d0, d1, d2, d3, d4, d5])) (hgrow : (w1.alloc o).grownBy w3 v.ownBlock) (hat : v.ownBlock = some g ∨ g = w1.heap.size + 1) :
    OwnC2 w3 lo ob (cs ++ [c]) (.slice (some ⟨g, 0, none⟩) (cs.length + 1) cap) (xs ++ [d0, d1, d2, d3, d4, d5]) ∧ (∀ b, b < wr.heap.size → v.ownBlock ≠ some b → w3.heap[b]? = wr.heap[b]?) ∧ w1.heap.size < w3.heap.size ∧ Below lo wr w3 := by
  have z1 := hb1.size
  have z3 := hgrow.size
  simp at z3
  have hgl : ∀ b, v.ownBlock = some b → b < wr.heap.size := fun b hb => (h.1.lt b hb).2
  have hsame : ∀ b, b < w1.heap.size → v.ownBlock ≠ some b → w3.heap[b]? = w1.heap[b]? := fun b hb hne => by
    rw [hgrow.block b (by simp; omega) (fun e => hne e.symm)]
    exact (below_box w1 o).block b hb
  have hxl := h.1.1
  refine ⟨⟨by simpa using hown, ?_, fun i hi => ?_⟩, fun b hb hne => (hsame b (by omega) hne).trans (hb1.block b hb), by omega, hgrow.os.trans hb1.os, hgrow.tape.trans hb1.tape, hgrow.output.trans hb1.output, by omega, fun b hb => (hsame b (by omega) fun e => ?_).trans (hb1.block b (by omega))⟩
  · intro e
    have e' : g = ob := by simpa [Value.ownBlock] using e
    rcases hat with h1 | h1
    · exact h.2.1 (by rw [h1, e'])
    · omega
  · simp only [List.length_append, List.length_singleton] at hi
    by_cases e : i = cs.length
    · have hg : ∀ j, (xs ++ [d0, d1, d2, d3, d4, d5]).getD (i * 6 + j) undef = [d0, d1, d2, d3, d4, d5].getD j undef := fun j => by
        rw [List.getD_eq_getElem?_getD, List.getElem?_append_right (by omega), List.getD_eq_getElem?_getD, hxl, e, show cs.length * 6 + j - cs.length * 6 = j by omega]
      have g0 := hg 0
      rw [Nat.add_zero] at g0
      rw [g0, hg 1, hg 2, hg 3, hg 4, hg 5]
      have hc : cth (cs ++ [c]) i = c := by simp [cth, List.getD_eq_getElem?_getD, e]
      rw [hc]
      refine (hrep.mono fun b hb => hsame b hb.2 fun e => ?_).sub fun b hb => ⟨by omega, by omega, by omega, fun e => ?_⟩
      · have := hgl b e; omega
      · have e' : g = b := by simpa [Value.ownBlock] using e
        rcases hat with h1 | h1
        · have := hgl g h1; omega
        · omega
    · have hik : i < cs.length := by omega
      have hg : ∀ j, j < 6 → (xs ++ [d0, d1, d2, d3, d4, d5]).getD (i * 6 + j) undef = xs.getD (i * 6 + j) undef := fun j hj => by
        rw [List.getD_eq_getElem?_getD, List.getElem?_append_left (by omega), List.getD_eq_getElem?_getD]
      have g0 := hg 0 (by omega)
      rw [Nat.add_zero] at g0
      rw [g0, hg 1 (by omega), hg 2 (by omega), hg 3 (by omega), hg 4 (by omega), hg 5 (by omega)]
      have hc : cth (cs ++ [c]) i = cth cs i := by simp [cth, List.getD_eq_getElem?_getD, List.getElem?_append_left hik]
      rw [hc]
      refine ((h.2.2 i hik).mono fun b hb => (hsame b (by omega) hb.2.2.2).trans (hb1.block b hb.2.1)).sub fun b hb => ⟨hb.1, by omega, hb.2.2.1, fun e => ?_⟩
      have e' : g = b := by simpa [Value.ownBlock] using e
      rcases hat with h1 | h1
      · exact hb.2.2.2 (by rw [h1, e'])
      · omega
  · have := (h.1.lt b e).1
    omega
theorem OwnC2.set {w : World} {lo ob : Nat} {cs : List Ce} {v : Value} {xs : List Value} (h : OwnC2 w lo ob cs v xs) (o : Nat) (u : Value) : OwnC2 (w.setCell ⟨ob, o, none⟩ u) lo ob cs v xs := by
  refine ⟨owns_same h.1 fun b hb => Below.heap_setCell _ _ _ _ (fun e => h.2.1 (by rw [hb]; exact congrArg some e)), h.2.1, fun i hi => ?_⟩
  refine ((h.2.2 i hi).mono fun b hb => Below.heap_setCell _ _ _ _ (fun e => hb.2.2.1 e)).sub fun b hb => ⟨hb.1, by rw [size_set]; exact hb.2.1, hb.2.2⟩
theorem OwnC2.keep {w w' : World} {lo ob : Nat} {cs : List Ce} {v : Value} {xs : List Value} (h : OwnC2 w lo ob cs v xs) (hb : Below w.heap.size w w') : OwnC2 w' lo ob cs v xs := by
  have := hb.size
  refine ⟨owns_same h.1 fun b hb' => hb.block b (h.1.lt b hb').2, h.2.1, fun i hi => ?_⟩
  exact ((h.2.2 i hi).mono fun b hb' => hb.block b hb'.2.1).sub fun b hb' => ⟨hb'.1, by omega, hb'.2.2⟩
theorem OwnC2.cells {w : World} {lo ob : Nat} {cs : List Ce} {v : Value} {xs : List Value} (h : OwnC2 w lo ob cs v xs) (hb : 96 * cs.length ≤ 281474976710656) :
    ∃ (a : Option Addr) (c : Nat), v = .slice a cs.length c ∧ cs.length ≤ c ∧ CeReps w (fun b => lo ≤ b ∧ b < w.heap.size ∧ b ≠ ob) cs a := by
  obtain ⟨h1, h2, h3⟩ := h
  rcases h1.2 with ⟨rfl, h0⟩ | ⟨g, cap, cur, rfl, hlo, hg, hn, _⟩
  · exact ⟨none, 0, by rw [h0], by omega, hb, fun _ _ => undef, fun hn => by omega, fun i hi => by omega⟩
  · have hlt : g < w.heap.size := (Array.getElem?_eq_some_iff.1 hg).1
    refine ⟨_, cap, rfl, hn, hb, fun i j => xs.getD (i * 6 + j) undef, fun _ => ⟨g, 0, rfl, ⟨hlo, hlt, fun e => h2 (by rw [e]; rfl)⟩, fun i hi j hj => ?_⟩, fun i hi => (h3 i hi).sub fun b hb => ⟨hb.1, hb.2.1, hb.2.2.1⟩⟩
    have hx := h1.1
    have := h1.cellAt (i * 6 + j) (by omega)
    show _ = some (xs.getD (i * 6 + j) undef)
    rw [Nat.zero_add, this, List.getD_eq_getElem?_getD, List.getElem?_eq_getElem (by omega)]
    rfl
/-- Rows that the model gathers, each in memory of its own. -/
def OwnR2 (w : World) (lo : Nat) (rl : List Ro) (v : Value) (xs : List Value) : Prop :=
  w.ownsRow lo 51 3 v rl.length xs ∧ ∀ i, i < rl.length → RoRep w (fun b => lo ≤ b ∧ b < w.heap.size ∧ v.ownBlock ≠ some b) (rth rl i) (.agg #[xs.getD (i * 3) undef, xs.getD (i * 3 + 1) undef, xs.getD (i * 3 + 2) undef])
theorem OwnR2.step {wr w1 w3 : World} {lo : Nat} {rl : List Ro} {r : Ro} {v : Value} {xs : List Value} (h : OwnR2 wr lo rl v xs) (hlo : lo ≤ wr.heap.size) (hb1 : Below wr.heap.size wr w1) {d0 d1 d2 : Value}
    (hrep : RoRep w1 (fun b => wr.heap.size ≤ b ∧ b < w1.heap.size) r (.agg #[d0, d1, d2])) {o : Obj} {g cap : Nat}
    (hown : w3.ownsRow lo 51 3 (.slice (some ⟨g, 0, none⟩) (rl.length + 1) cap) (rl.length + 1) (xs ++ [d0, d1, d2])) (hgrow : (w1.alloc o).grownBy w3 v.ownBlock) (hat : v.ownBlock = some g ∨ g = w1.heap.size + 1) :
    OwnR2 w3 lo (rl ++ [r]) (.slice (some ⟨g, 0, none⟩) (rl.length + 1) cap) (xs ++ [d0, d1, d2]) := by
  have z1 := hb1.size
  have z3 := hgrow.size
  simp at z3
  have hgl : ∀ b, v.ownBlock = some b → b < wr.heap.size := fun b hb => (h.1.lt b hb).2
  have hsame : ∀ b, b < w1.heap.size → v.ownBlock ≠ some b → w3.heap[b]? = w1.heap[b]? := fun b hb hne => by
    rw [hgrow.block b (by simp; omega) (fun e => hne e.symm)]
    exact (below_box w1 o).block b hb
  have hxl := h.1.1
  refine ⟨by simpa using hown, fun i hi => ?_⟩
  simp only [List.length_append, List.length_singleton] at hi
  by_cases e : i = rl.length
  · have hg : ∀ j, (xs ++ [d0, d1, d2]).getD (i * 3 + j) undef = [d0, d1, d2].getD j undef := fun j => by
      rw [List.getD_eq_getElem?_getD, List.getElem?_append_right (by omega), List.getD_eq_getElem?_getD, hxl, e, show rl.length * 3 + j - rl.length * 3 = j by omega]
    have g0 := hg 0
    rw [Nat.add_zero] at g0
    rw [g0, hg 1, hg 2]
    have hc : rth (rl ++ [r]) i = r := by simp [rth, List.getD_eq_getElem?_getD, e]
    rw [hc]
    refine (hrep.mono fun b hb => hsame b hb.2 fun e => ?_).sub fun b hb => ⟨by omega, by omega, fun e => ?_⟩
    · have := hgl b e; omega
    · have e' : g = b := by simpa [Value.ownBlock] using e
      rcases hat with h1 | h1
      · have := hgl g h1; omega
      · omega
  · have hik : i < rl.length := by omega
    have hg : ∀ j, j < 3 → (xs ++ [d0, d1, d2]).getD (i * 3 + j) undef = xs.getD (i * 3 + j) undef := fun j hj => by
      rw [List.getD_eq_getElem?_getD, List.getElem?_append_left (by omega), List.getD_eq_getElem?_getD]
    have g0 := hg 0 (by omega)
    rw [Nat.add_zero] at g0
    rw [g0, hg 1 (by omega), hg 2 (by omega)]
    have hc : rth (rl ++ [r]) i = rth rl i := by simp [rth, List.getD_eq_getElem?_getD, List.getElem?_append_left hik]
    rw [hc]
    refine ((h.2 i hik).mono fun b hb => (hsame b (by omega) hb.2.2).trans (hb1.block b hb.2.1)).sub fun b hb => ⟨hb.1, by omega, fun e => ?_⟩
    have e' : g = b := by simpa [Value.ownBlock] using e
    rcases hat with h1 | h1
    · exact hb.2.2 (by rw [h1, e'])
    · omega
theorem OwnR2.keep {w w' : World} {lo : Nat} {rl : List Ro} {v : Value} {xs : List Value} (h : OwnR2 w lo rl v xs) (hb : Below w.heap.size w w') : OwnR2 w' lo rl v xs := by
  have := hb.size
  refine ⟨owns_same h.1 fun b hb' => hb.block b (h.1.lt b hb').2, fun i hi => ?_⟩
  exact ((h.2 i hi).mono fun b hb' => hb.block b hb'.2.1).sub fun b hb' => ⟨hb'.1, by omega, hb'.2.2⟩
theorem OwnR2.rows {w : World} {lo : Nat} {rl : List Ro} {v : Value} {xs : List Value} (h : OwnR2 w lo rl v xs) (hb : 48 * rl.length ≤ 281474976710656) :
    ∃ (a : Option Addr) (c : Nat), v = .slice a rl.length c ∧ RoReps w (fun b => lo ≤ b ∧ b < w.heap.size) rl a := by
  obtain ⟨h1, h3⟩ := h
  rcases h1.2 with ⟨rfl, h0⟩ | ⟨g, cap, cur, rfl, hlo, hg, hn, _⟩
  · exact ⟨none, 0, by rw [h0], hb, fun _ _ => undef, fun hn => by omega, fun i hi => by omega⟩
  · have hlt : g < w.heap.size := (Array.getElem?_eq_some_iff.1 hg).1
    refine ⟨_, cap, rfl, hb, fun i j => xs.getD (i * 3 + j) undef, fun _ => ⟨g, 0, rfl, ⟨hlo, hlt⟩, fun i hi j hj => ?_⟩, fun i hi => (h3 i hi).sub fun b hb => ⟨hb.1, hb.2.1⟩⟩
    have hx := h1.1
    have := h1.cellAt (i * 3 + j) (by omega)
    show _ = some (xs.getD (i * 3 + j) undef)
    rw [Nat.zero_add, this, List.getD_eq_getElem?_getD, List.getElem?_eq_getElem (by omega)]
    rfl
end Go.Proofs.YtbpdchlbhfjddaaGreat
