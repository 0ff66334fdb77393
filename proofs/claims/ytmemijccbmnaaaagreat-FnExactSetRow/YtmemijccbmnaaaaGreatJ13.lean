import Derived.Test.YtmemijccbmnaaaaGreatJ12
import Derived.Test.YtmemijccbmnaaaaGreatJ3
namespace Go.Proofs.YtmemijccbmnaaaaGreat
set_option linter.unusedSimpArgs false
set_option linter.unusedVariables false
open Go.RowKit

theorem hidL {q : Prop} (h : q) : Hid q := h
theorem Rep.shape5v {w : World} {P : Nat → Prop} {x : V} {a0 a1 a2 a3 a4 : Value} (h : Rep w P x (.agg #[a0, a1, a2, a3, a4])) :
    ∃ (s n : Int) (t : ByteArray) (na ka : Option Addr) (nl nc kl kc : Nat), a0 = .int .i64 s ∧ a1 = .int .i64 n ∧ a2 = .string t ∧ a3 = .slice na nl nc ∧ a4 = .slice ka kl kc := by
  obtain ⟨s, n, t, ns, ks⟩ := x
  obtain ⟨na, ka, nc, kc, hv, -⟩ := h.inv
  simp only [Value.agg.injEq, Array.mk.injEq, List.cons.injEq, and_true] at hv
  obtain ⟨h0, h1, h2, h3, h4⟩ := hv
  exact ⟨s, n, t, na, ka, _, nc, _, kc, h0, h1, h2, h3, h4⟩
theorem infoP : (Tryz.prog.info? 153).map (fun i => (i.zero, i.size, i.bytes)) = some (some (.pointer none), 1, 8) := by kernel_rfl

set_option maxHeartbeats 1600000 in
theorem copyValue_lab (f : Nat) (s n : Int) (t : ByteArray) (ns : List ByteArray) (ks : List V) (w : World) (B : Nat) (v : Value) (hfit : fit f (.mk s n t ns ks)) (hcnt : cntV (.mk s n t ns ks) ≤ 2097152) (hR : Rep w (· < B) (.mk s n t ns ks) v) (hB : B ≤ w.heap.size) : CvL (.mk s n t ns ks) w B v := by
  unfold CvL
  simp only
  obtain ⟨na, ka, nc, kc, rfl, -⟩ := hR.inv
  go_enter Tryz.func59, Tryz.ntmps59
  go_wp2_with fail
  go_loopg [3] (cntV (.mk s n t ns ks)) (fun g vo wr => ∃ T L, g = todoQ L ∧ g ≤ 2097152 ∧ ∃ lab, OpensL w B w.heap.size (.mk s n t ns ks) wr lab T L vo)
  case atStart =>
    exact ⟨_, _, by simp [todoQ, cntL], hcnt, _, OpensL.start f s n t ns ks na ka nc kc w B hfit hR hB⟩
  case round =>
    clear hR
    obtain ⟨T, L, rfl, hg6, lab, hO⟩ := hrel
    by_cases hL : L = []
    · subst hL
      obtain ⟨hLb, hCl, hT, hTr, -, -, hown, hbel, y0, y1, y2, y3, y4, hr1⟩ := hO
      obtain ⟨oa, ocap, rfl⟩ := owns_slice hown
      obtain ⟨d0, d1, d2, d3, d4, p0, p1, p2, p3, p4, hrep, hlrep⟩ := hCl.done
      obtain ⟨na', ka', nc', kc', e5, hS, hnc, ht, hbs, hK⟩ := hrep.inv
      simp only [Value.agg.injEq, Array.mk.injEq, List.cons.injEq, and_true] at e5
      obtain ⟨rfl, rfl, rfl, rfl, rfl⟩ := e5
      obtain ⟨l0, l1, l2, l3, l4⟩ := hr1.five
      have hlf := hr1.frozen
      have HLB : Hid (∀ b, lab b ≠ [] → (w.heap.size ≤ b ∧ b < wr.heap.size) ∧ b ≠ w.heap.size + 1) := fun b hb => by have := hT b (hLb b hb).1; exact ⟨⟨this.1, this.2.1⟩, this.2.2.1⟩
      have HLR : Hid (LRep wr lab [] ⟨s, n, t, ns, ks⟩ (.agg #[.int .i64 s, .int .i64 n, .string t, .slice na' ns.length nc', .slice ka' ks.length kc'])) := hlrep
      clear hg6 hown hCl hT hTr hLb hlrep
      simp only [Nat.zero_add] at p1 p2 p3 p4
      simp only [List.length_nil]
      have HS : Hid (Strs wr (New w.heap.size wr) ns na' ∧ Kids wr (New w.heap.size wr) ks ka') := ⟨hS, hK⟩
      clear hS hK hrep
      go_wp2_with fail
      have hfin : Row5 (put5 wr (w.heap.size + 1) 0 (.int .i64 s) (.int .i64 n) (.string t) (.slice na' ns.length nc') (.slice ka' ks.length kc')) (w.heap.size + 1) (.int .i64 s) (.int .i64 n) (.string t) (.slice na' ns.length nc') (.slice ka' ks.length kc') := hr1.put _ _ _ _ _
      have hsz := put5_size wr (w.heap.size + 1) 0 (.int .i64 s) (.int .i64 n) (.string t) (.slice na' ns.length nc') (.slice ka' ks.length kc')
      have hblk := put5_block wr (w.heap.size + 1) 0 (.int .i64 s) (.int .i64 n) (.string t) (.slice na' ns.length nc') (.slice ka' ks.length kc')
      refine bodyPost_ret (v := .agg #[.int .i64 s, .int .i64 n, .string t, .slice na' ns.length nc', .slice ka' ks.length kc']) ?res rfl ⟨_, _, _, _, rfl, put5_below hbel (by omega) _ _ _ _ _ _, ?_, lab, fun b hb => ⟨(HLB.out b hb).1.1, Nat.lt_of_lt_of_eq (HLB.out b hb).1.2 hsz.symm⟩, HLR.out.keep fun b hb _ => hblk b (HLB.out b hb).2⟩
      case res =>
        obtain ⟨p0, p1, p2, p3, p4⟩ := hfin.five
        simp only [put5] at p0 p1 p2 p3 p4
        clear hfin hblk hsz hr1
        simp [results, Tryz.results59, go_sem, p0, p1, p2, p3, p4]
      · obtain ⟨hS, hK⟩ := HS.out
        exact Rep.of_kids ((hS.mono fun b' hb' => hblk b' hb'.2.2).sub fun b' hb' => ⟨hb'.1, Nat.lt_of_lt_of_eq hb'.2.1 hsz.symm⟩) hnc ht hbs ((hK.mono fun b' hb' => hblk b' hb'.2.2).sub fun b' hb' => ⟨hb'.1, Nat.lt_of_lt_of_eq hb'.2.1 hsz.symm⟩)
    · obtain ⟨L0, e, rfl⟩ : ∃ L0 e, L = L0 ++ [e] := ⟨L.dropLast, L.getLast hL, (List.dropLast_concat_getLast hL).symm⟩
      clear hL
      obtain ⟨pp, b, o, s', n', t', ns', ks'⟩ := e
      have HO := hidL hO
      obtain ⟨-, -, hT, hTr, hLe, -, hown, -, -⟩ := hO
      obtain ⟨hTb, ⟨d0, d1, d2, d3, d4, p0, p1, p2, p3, p4, hrep⟩, ⟨fe, hfe⟩, hfb⟩ := hLe ⟨pp, b, o, s', n', t', ns', ks'⟩ (by simp)
      simp only at hTb p0 p1 p2 p3 p4 hrep hfe hfb
      obtain ⟨na', ka', nc', kc', e5, hS, hnc, ht, hbs, hK⟩ := hrep.inv
      simp only [Value.agg.injEq, Array.mk.injEq, List.cons.injEq, and_true] at e5
      obtain ⟨rfl, rfl, rfl, rfl, rfl⟩ := e5
      have hlen : (L0 ++ [(⟨pp, b, o, s', n', t', ns', ks'⟩ : Pq)]).length = L0.length + 1 := by simp
      rw [hlen] at hown
      have hl6 := todoQ_len (L0 ++ [⟨pp, b, o, s', n', t', ns', ks'⟩])
      rw [hlen] at hl6
      rcases hown.2 with ⟨-, h0⟩ | ⟨og, ocap, ocur, rfl, hog1, hog2, hog3, hog4, hog5, hog6⟩
      · omega
      have hq : wr.cell? ⟨og, L0.length, none⟩ = some (.pointer (some ⟨b, o, none⟩)) := by
        have := hown.cellAt L0.length (by omega)
        rw [this]
        simp
      have hfe1 : ks'.length ≤ 2097152 ∧ ns'.length ≤ 2097152 ∧ ∀ i, i < ks'.length → ∃ f, fit f (kth ks' i) := by
        match fe, hfe with
        | fe + 1, hfe => exact ⟨hfe.1, hfe.2.1.1, fun i hi => ⟨fe, hfe.2.2 i hi⟩⟩
      obtain ⟨hk6, hn6, hkf⟩ := hfe1
      have hTB := hT b hTb
      have hbz := hTB.2.1
      have HH : Hid (Kids wr (· < B) ks' ka') := hK
      have CT := copyTexts_any ns' na' nc' wr (· < B) hS (by omega)
      have hf3 := hfb
      have hogl := hown.lt og rfl
      have hobg : og ≠ b := fun e => hTB.2.2.2 (by rw [← e]; rfl)
      clear hT hK hS hrep hfe hLe hfb
      go_wp2_with fail
      refine CT.mono ?_
      rintro ex w1 ⟨a1, cp1, rfl, hcp1, hb1, hS1, hZ1⟩
      have HZ1 := hidL hZ1
      clear hZ1
      clear CT
      have hcell : ∀ j v, wr.cell? ⟨b, j, none⟩ = some v → w1.cell? ⟨b, j, none⟩ = some v := fun j v h => (hb1.cell (p := ⟨b, j, none⟩) hbz).trans h
      have hfz : ∀ i, w1.frozen? ⟨b, i, none⟩ = false := fun i => (frozen_below hb1 hbz i).trans (hf3 i)
      have q0 := hcell _ _ p0
      have q1 := hcell _ _ p1
      have q2 := hcell _ _ p2
      have q3 := hcell _ _ p3
      have q4 := hcell _ _ p4
      clear hcell p0 p1 p2 p3 p4 hq hf3
      by_cases hk0 : ks' = []
      · subst hk0
        obtain ⟨wo, rfl⟩ : ∃ wo : World, wo = wr := ⟨_, rfl⟩
        have hz1 := hb1.size
        obtain ⟨W2, hW2⟩ : ∃ W2, W2 = (w1.setCell ⟨b, o + 3, none⟩ (.slice a1 ns'.length cp1)).setCell ⟨b, o + 4, none⟩ (.slice none 0 0) := ⟨_, rfl⟩
        have hW2z : W2.heap.size = w1.heap.size := by rw [hW2, size_set, size_set]
        have hblk2 : ∀ c, c ≠ b → W2.heap[c]? = w1.heap[c]? := fun c hcb => by
          rw [hW2, Below.heap_setCell _ _ _ _ (by show c ≠ b; exact hcb), Below.heap_setCell _ _ _ _ (by show c ≠ b; exact hcb)]
        have HOx : Hid (∃ T2 lab2, OpensL w B w.heap.size ⟨s, n, t, ns, ks⟩ W2 lab2 T2 (L0 ++ kidQ pp w1.heap.size ([] : List V) ([] : List V).length) (.slice (some ⟨og, 0, none⟩) L0.length ocap)) := by
          refine ⟨_, OpensL.turn (N := fun c => wo.heap.size ≤ c ∧ c < w1.heap.size) (og := og) (na := a1) (nc := cp1) (ka := none) (kc := 0) HO.out hB rfl (by omega) (by rw [hW2]; exact hb1.os) (by rw [hW2]; exact hb1.tape) (by rw [hW2]; exact hb1.output) (fun c hc hcb _ => (hblk2 c hcb).trans (hb1.block c hc)) (fun i h3 h4 => ?_) (fun i => ?_) ?_ ?_ (fun c hc => ⟨hc.1, ?_, ?_, fun h => ?_⟩) (hS1.mono fun c hc => hblk2 c ?_) hcp1 (fun nb off e i => ?_) hz1 (fun h => absurd rfl h) (fun h => absurd rfl h) (fun h => absurd rfl h) (fun h => absurd rfl h) (fun i hi => absurd hi (by simp)) (fun c hc h => ?_) ⟨by simp [kidQ], Or.inr ⟨og, ocap, ocur, by simp, hog1, ((hblk2 og hobg).trans (hb1.block og hogl.2)).trans hog2, by show L0.length ≤ ocap; omega, hog4, hog5, ?_⟩⟩⟩
          · rw [hW2, World.cell?_setCell_other _ _ _ _ (by simp <;> omega), World.cell?_setCell_other _ _ _ _ (by simp <;> omega)]
            exact hb1.cell (p := ⟨b, i, none⟩) hbz
          · rw [hW2, World.frozen?_setCell, World.frozen?_setCell, hfz i]
            exact ((HO.out.2.2.2.2.1 ⟨pp, b, o, s', n', t', ns', []⟩ (by simp)).2.2.2 i).symm
          · rw [hW2, World.cell?_setCell_other _ _ _ _ (by simp)]
            exact World.cell?_setCell_same _ _ _ q3
          · rw [hW2]
            exact World.cell?_setCell_same _ _ _ ((World.cell?_setCell_other _ _ _ _ (by simp)).trans q4)
          · have := hc.2; omega
          · have := hc.2; omega
          · have e' : og = c := by simpa [Value.ownBlock] using h
            have := hc.1; omega
          · have := hc.1; omega
          · rw [hW2, World.frozen?_setCell, World.frozen?_setCell]
            exact (HZ1.out nb off e).2 i
          · simpa [Value.ownBlock] using h.symm
          · have h6 := congrArg (List.take L0.length) hog6
            rw [List.take_take] at h6
            simpa [kidQ, Nat.min_eq_left] using h6
        have HW : Hid (W2 = (w1.setCell ⟨b, o + 3, none⟩ (.slice a1 ns'.length cp1)).setCell ⟨b, o + 4, none⟩ (.slice none 0 0)) := hW2
        clear hW2 hblk2
        rcases ka' with _ | ad
        all_goals
          go_wp2_with fail
          rw [← HW.out]
          go_loopw [3, 42] (fun vo i wx => vo = .slice (some ⟨og, 0, none⟩) L0.length ocap ∧ i = .int .i64 0 ∧ wx = W2) (fun _ _ _ => 0)
          case atStart => exact ⟨rfl, rfl, rfl⟩
          case round =>
            obtain ⟨rfl, rfl, hwx⟩ := hrel
            have HX : Hid (wr = W2) := hwx
            clear hwx
            go_wp2_with fail
            go_roundg (todoQ (L0 ++ kidQ pp w1.heap.size ([] : List V) ([] : List V).length))
            case measure => have := todoQ_step L0 pp b o s' n' t' ns' [] w1.heap.size; omega
            case rel =>
              obtain ⟨T2, hT2⟩ := HOx.out
              exact ⟨T2, _, rfl, by have := todoQ_step L0 pp b o s' n' t' ns' [] w1.heap.size; omega, by rw [HX.out]; exact hT2⟩
      obtain ⟨h80, kb0, koff, C, hka, hkc, hkr⟩ := HH.out
      obtain ⟨rfl, hkB⟩ := hka hk0
      have hkl : 0 < ks'.length := List.length_pos_iff.2 hk0
      have hne : kb0 ≠ b := by have := hTB.1; omega
      have hz1 := hb1.size
      have hW1z : (w1.setCell ⟨b, o + 3, none⟩ (.slice a1 ns'.length cp1)).heap.size = w1.heap.size := size_set _ _ _
      have hfar : ∀ c i, c ≠ b → (w1.setCell ⟨b, o + 3, none⟩ (.slice a1 ns'.length cp1)).cell? ⟨c, i, none⟩ = w1.cell? ⟨c, i, none⟩ := fun c i hc => World.cell?_of_block (w := w1) (a := ⟨c, i, none⟩) (Below.heap_setCell _ _ _ _ (by show c ≠ b; exact hc))
      have hkn : ∀ j u, ((List.range (ks'.length * 5)).map fun m => C (m / 5) (m % 5))[j]? = some u → (w1.setCell ⟨b, o + 3, none⟩ (.slice a1 ns'.length cp1)).cell? ((⟨kb0, koff, none⟩ : Addr).add j) = some u := fun j u hj => by
        rw [List.getElem?_map] at hj
        obtain ⟨m, hm, rfl⟩ := Option.map_eq_some_iff.1 hj
        obtain ⟨hm1, hm2⟩ := List.getElem?_eq_some_iff.1 hm
        simp at hm1 hm2
        subst hm2
        have h1 := hkc (j / 5) (by omega) (j % 5) (by omega)
        rw [Addr.add_lit, hfar _ _ hne]
        have h2 := (hb1.cell (p := ⟨kb0, koff + j / 5 * 5 + j % 5, none⟩) (by show kb0 < _; omega)).trans h1
        rw [show koff + j / 5 * 5 + j % 5 = koff + j by omega] at h2
        exact h2
      have hone : ∀ u, u ∈ ((List.range (ks'.length * 5)).map fun m => C (m / 5) (m % 5)) → u.oneCell' = true := fun u hu => by
        simp only [List.mem_map, List.mem_range] at hu
        obtain ⟨m, hm, rfl⟩ := hu
        obtain ⟨_, _, _, _, _, _, _, _, _, j0, j1, j2, j3, j4⟩ := (hkr (m / 5) (by omega)).shape5v
        have : m % 5 = 0 ∨ m % 5 = 1 ∨ m % 5 = 2 ∨ m % 5 = 3 ∨ m % 5 = 4 := by omega
        rcases this with h | h | h | h | h <;> rw [h]
        · rw [j0]; rfl
        · rw [j1]; rfl
        · rw [j2]; rfl
        · rw [j3]; rfl
        · rw [j4]; rfl
      obtain ⟨i0, hi, hi0, hi1, hi2⟩ := info_parts info30
      go_wp2_with (at_builtin; refine wpList_append_lies _ rfl _ _ 43 rfl w.heap.size 45 i0 zeroV 5 80 Tryz.underlying43 hi hi0 hi1 hi2 rfl (by decide) (.slice none 0 0) 0 [] rfl (World.ownsRow_nil _ _ _ _) ⟨kb0, koff, none⟩ ks'.length kc' ((List.range (ks'.length * 5)).map fun m => C (m / 5) (m % 5)) rfl (by simp) hkn hone hkl (by unfold maxLen; omega) (by omega) (by rw [hW1z]; have := hTB.1; omega) _ rfl ?_)
      intro g cap w3 hown3 hgrow hat hlt3
      obtain rfl : g = w1.heap.size := by
        rcases hat with h | h
        · simp [Value.ownBlock] at h
        · exact h
      have hz3 := hgrow.size
      rw [hW1z] at hz3
      have hc3 : ∀ i, w3.cell? ⟨b, i, none⟩ = (w1.setCell ⟨b, o + 3, none⟩ (.slice a1 ns'.length cp1)).cell? ⟨b, i, none⟩ := fun i => hgrow.cell_far ⟨b, i, none⟩ (by show b < _; rw [hW1z]; omega) (by simp [Value.ownBlock])
      have hf3 : ∀ i, w3.frozen? ⟨b, i, none⟩ = false := fun i => (hgrow.frozen_far ⟨b, i, none⟩ (by show b < _; rw [hW1z]; omega) (by simp [Value.ownBlock])).trans (by rw [World.frozen?_setCell]; exact hfz i)
      have r4 : w3.cell? ⟨b, o + 4, none⟩ = some (.slice (some ⟨kb0, koff, none⟩) ks'.length kc') := (hc3 _).trans ((World.cell?_setCell_other _ _ _ _ (by simp)).trans q4)
      have hf4 := hf3 (o + 4)
      have HK : Hid (∀ i, i < ks'.length → Rep wr (· < B) (kth ks' i) (.agg #[C i 0, C i 1, C i 2, C i 3, C i 4])) := hkr
      clear hkn hone hkc hkr hat
      go_wp2_with fail
      obtain ⟨wo, rfl⟩ : ∃ wo : World, wo = wr := ⟨_, rfl⟩
      generalize hW2 : w3.setCell ⟨b, o + 4, none⟩ (.slice (some ⟨w1.heap.size, 0, none⟩) ks'.length cap) = W2
      have hW2z : W2.heap.size = w3.heap.size := by rw [← hW2]; exact size_set _ _ _
      have hW2b : ∀ c, c ≠ b → W2.heap[c]? = w3.heap[c]? := fun c hc => by rw [← hW2]; exact Below.heap_setCell _ _ _ _ (by show c ≠ b; exact hc)
      have m4 : W2.cell? ⟨b, o + 4, none⟩ = some (.slice (some ⟨w1.heap.size, 0, none⟩) ks'.length cap) := by rw [← hW2]; exact World.cell?_setCell_same _ _ _ r4
      have hblk2 : ∀ c, c < wo.heap.size → c ≠ b → W2.heap[c]? = wo.heap[c]? := fun c hc hcb => by
        rw [hW2b c hcb, hgrow.block c (by rw [hW1z]; omega) (by simp [Value.ownBlock]), Below.heap_setCell _ _ _ _ (by show c ≠ b; exact hcb)]
        exact hb1.block c hc
      have HW : Hid (w3.setCell ⟨b, o + 4, none⟩ (.slice (some ⟨w1.heap.size, 0, none⟩) ks'.length cap) = W2) := hW2
      clear hW2
      obtain ⟨ip, hp, hp0, hp1, hp2⟩ := info_parts infoP
      go_loopw [3, 42] (fun vo i wx => ∃ k : Nat, k ≤ ks'.length ∧ i = .int .i64 k ∧ W2.grownBy wx (some og) ∧ (∃ og', vo.ownBlock = some og' ∧ (og' = og ∨ W2.heap.size ≤ og')) ∧ wx.ownsRow (w.heap.size + 1 + 1) 153 1 vo (L0.length + k) ((L0 ++ kidQ pp w1.heap.size ks' k).map fun e => .pointer (some ⟨e.b, e.o, none⟩))) (fun _ i _ => ks'.length - (intOf i).toNat)
      case atStart =>
        refine ⟨0, Nat.zero_le _, rfl, ⟨rfl, rfl, rfl, Nat.le_refl _, fun _ _ _ => rfl⟩, ⟨og, rfl, Or.inl rfl⟩, by simp [kidQ], Or.inr ⟨og, ocap, ocur, by simp, hog1, (hblk2 og hogl.2 hobg).trans hog2, by omega, hog4, hog5, ?_⟩⟩
        have h6 := congrArg (List.take L0.length) hog6
        rw [List.take_take] at h6
        simpa [kidQ, Nat.min_eq_left] using h6
      case round =>
        obtain ⟨k, hk, rfl, hgr, ⟨og', hvo', hor⟩, hownk⟩ := hrel
        by_cases hlt : k < ks'.length
        · have hki : (k : Int) < (ks'.length : Int) := by omega
          have m4x : wr.cell? ⟨b, o + 4, none⟩ = some (.slice (some ⟨w1.heap.size, 0, none⟩) ks'.length cap) := (hgr.cell_far ⟨b, o + 4, none⟩ (by show b < _; omega) (fun e => hobg (by simpa using e.symm))).trans m4
          obtain ⟨oa, oc, rfl⟩ := owns_slice hownk
          go_wp2_with (at_builtin; refine wpList_append_lies _ rfl _ _ 154 rfl (w.heap.size + 1 + 1) 153 ip (.pointer none) 1 8 Tryz.underlying154 hp hp0 hp1 hp2 rfl (by decide) _ (L0.length + k) _ rfl (hownk.alloc _) ⟨wr.heap.size, 0, none⟩ 1 1 [.pointer (some ⟨w1.heap.size, k * 5, none⟩)] rfl rfl (World.news_of_block (heap_alloc_new wr _)) (by intro u hu; simp at hu; subst hu; rfl) (by omega) (by unfold maxLen; omega) (by omega) (by have := hgr.size; simp; omega) _ rfl ?_)
          intro g2 cap2 w4 hown4 hgrow4 hat4 hlt4
          go_wp2_with fail
          go_roundw
          case rel =>
            have hz4 := hgrow4.size
            have hzr := hgr.size
            simp at hz4
            have hvo2 : (Value.slice oa (L0.length + k) oc).ownBlock = some og' := hvo'
            refine ⟨k + 1, by omega, by go_num, ⟨hgrow4.os.trans hgr.os, hgrow4.tape.trans hgr.tape, hgrow4.output.trans hgr.output, by omega, fun c hc hne => ?_⟩, ⟨g2, rfl, ?_⟩, ?_⟩
            · rw [hgrow4.block c (by simp; omega) (fun e => ?_), (World.grownBy_alloc wr _ none).block c (by omega) (by simp)]
              · exact hgr.block c hc hne
              · have e' : c = og' := by simpa [hvo2] using e
                rcases hor with h | h
                · exact hne (by rw [e', h])
                · omega
            · rcases hat4 with h | h
              · have e' : og' = g2 := by simpa [hvo2] using h
                rw [← e']; exact hor
              · right; omega
            · rw [kidQ_succ, List.map_append, List.map_append]
              exact hown4
          case measure => simp [intOf]; omega
        · have hkk : k = ks'.length := by omega
          subst hkk
          go_wp2_with fail
          go_roundg (todoQ (L0 ++ kidQ pp w1.heap.size ks' ks'.length))
          case measure => have := todoQ_step L0 pp b o s' n' t' ns' ks' w1.heap.size; omega
          case rel =>
            have hzr := hgr.size
            have hW2o : W2.os = wo.os ∧ W2.tape = wo.tape ∧ W2.output = wo.output := by
              rw [← HW.out]
              exact ⟨hgrow.os.trans hb1.os, hgrow.tape.trans hb1.tape, hgrow.output.trans hb1.output⟩
            have hsb : some b ≠ some og := fun e => hobg (by simpa using e.symm)
            have hblkx : ∀ c, c < wo.heap.size → c ≠ b → c ≠ og → wr.heap[c]? = wo.heap[c]? := fun c hc hcb hco => (hgr.block c (by omega) (by simpa using hco)).trans (hblk2 c hc hcb)
            have hbw : Below B wo wr := ⟨hgr.os.trans hW2o.1, hgr.tape.trans hW2o.2.1, hgr.output.trans hW2o.2.2, by omega, fun c hc => hblkx c (by omega) (by have := hTB.1; omega) (by omega)⟩
            have hcb : ∀ i, wr.cell? ⟨b, i, none⟩ = (w3.setCell ⟨b, o + 4, none⟩ (.slice (some ⟨w1.heap.size, 0, none⟩) ks'.length cap)).cell? ⟨b, i, none⟩ := fun i => by rw [HW.out]; exact hgr.cell_far ⟨b, i, none⟩ (by show b < _; omega) hsb
            have hgc : ∀ m, wr.cell? ⟨w1.heap.size, m, none⟩ = w3.cell? ⟨w1.heap.size, m, none⟩ := fun m => (hgr.cell_far ⟨w1.heap.size, m, none⟩ (by show w1.heap.size < _; omega) (by simp; omega)).trans (World.cell?_of_block (w := w3) (a := ⟨w1.heap.size, m, none⟩) (hW2b w1.heap.size (by omega)))
            have hvb : ∀ c, u3.ownBlock = some c → c = og ∨ W2.heap.size ≤ c := fun c h => by
              rw [hvo'] at h
              have e' : og' = c := by simpa using h
              rw [← e']; exact hor
            refine ⟨_, _, rfl, by have := todoQ_step L0 pp b o s' n' t' ns' ks' w1.heap.size; omega, OpensL.turn (N := fun c => wo.heap.size ≤ c ∧ c < w1.heap.size) (og := og) (na := a1) (nc := cp1) (ka := some ⟨w1.heap.size, 0, none⟩) (kc := cap) HO.out hB rfl (by omega) hbw.os hbw.tape hbw.output hblkx (fun i h3 h4 => ?_) (fun i => ?_) ((hcb _).trans ?_) ((hcb _).trans ?_) (fun c hc => ⟨hc.1, by omega, by omega, fun h => ?_⟩) (hS1.mono fun c hc => ?_) hcp1 (fun nb off e i => ?_) hz1 (fun _ => by omega) (fun _ => rfl) (fun _ h => ?_) (fun _ i => ?_) (fun i hi => ?_) (fun c hc h => ?_) hownk⟩
            · rw [hcb, World.cell?_setCell_other _ _ _ _ (by simp <;> omega), hc3, World.cell?_setCell_other _ _ _ _ (by simp <;> omega)]
              exact hb1.cell (p := ⟨b, i, none⟩) hbz
            · rw [(HO.out.2.2.2.2.1 ⟨pp, b, o, s', n', t', ns', ks'⟩ (by simp)).2.2.2 i, hgr.frozen_far ⟨b, i, none⟩ (by show b < _; omega) hsb, ← HW.out, World.frozen?_setCell]
              exact hf3 i
            · rw [World.cell?_setCell_other _ _ _ _ (by simp), hc3]
              exact World.cell?_setCell_same _ _ _ q3
            · exact World.cell?_setCell_same _ _ _ r4
            · rcases hvb c h with h | h <;> omega
            · rw [hgr.block c (by omega) (by simp; omega), hW2b c (by omega), hgrow.block c (by rw [hW1z]; omega) (by simp [Value.ownBlock])]
              exact Below.heap_setCell _ _ _ _ (by show c ≠ b; omega)
            · have hz := HZ1.out nb off e
              rw [hgr.frozen_far ⟨nb, i, none⟩ (by show nb < _; omega) (by simp; omega), ← HW.out, World.frozen?_setCell, hgrow.frozen_far ⟨nb, i, none⟩ (by show nb < _; rw [hW1z]; omega) (by simp [Value.ownBlock]), World.frozen?_setCell]
              exact hz.2 i
            · rcases hvb _ h with h | h <;> omega
            · rw [hgr.frozen_far ⟨w1.heap.size, i, none⟩ (by show w1.heap.size < _; omega) (by simp; omega), ← HW.out, World.frozen?_setCell]
              rcases hown3.2 with ⟨h, -⟩ | ⟨g', cap', cur', h, -, hh, -⟩
              · simp at h
              · simp only [Value.slice.injEq, Option.some.injEq, Addr.mk.injEq, and_true] at h
                rw [← h.1] at hh
                simp [World.frozen?, hh]
            · have hm : ∀ j, j < 5 → wr.cell? ⟨w1.heap.size, i * 5 + j, none⟩ = some (C i j) := fun j hj => by
                rw [hgc, hown3.cellAt (i * 5 + j) (by omega), List.getElem?_map, List.getElem?_range (by omega)]
                simp only [Option.map_some, show (i * 5 + j) / 5 = i by omega, show (i * 5 + j) % 5 = j by omega]
              exact ⟨_, _, _, _, _, hm 0 (by omega), hm 1 (by omega), hm 2 (by omega), hm 3 (by omega), hm 4 (by omega), (HK.out i hi).under hbw⟩
            · rcases hvb c h with h | h
              · exact h
              · omega

/-- What fits: a value that is not too great. -/
theorem fit_of (x : V) (h : szV x ≤ 1048576) : ∃ f, fit f x := by
  refine v_ind (q := fun x => szV x ≤ 1048576 → ∃ f, fit f x) (fun x ih h => ?_) x h
  have hs := szV_eq x
  have hc := cntV_sz x
  have hn := len_szNs x.names
  have hk : ∀ i, ∃ f, i < x.kids.length → fit f (kth x.kids i) := fun i => by
    by_cases hi : i < x.kids.length
    · have := szV_kth x.kids i hi
      obtain ⟨f, hf⟩ := ih i hi (by omega)
      exact ⟨f, fun _ => hf⟩
    · exact ⟨0, fun h => absurd h hi⟩
  obtain ⟨F, hF⟩ := Classical.skolem.1 hk
  have mono : ∀ (f g : Nat) (y : V), fit f y → f ≤ g → fit g y := by
    intro f
    induction f with
    | zero => intro g y h; exact h.elim
    | succ f ih =>
      intro g y h hg
      match g, hg with
      | g + 1, hg => exact ⟨h.1, h.2.1, fun i hi => ih g _ (h.2.2 i hi) (by omega)⟩
  have hM : ∀ n : Nat, ∃ M, ∀ i, i < n → F i ≤ M := by
    intro n
    induction n with
    | zero => exact ⟨0, fun i hi => by omega⟩
    | succ n ih =>
      obtain ⟨M, hM⟩ := ih
      refine ⟨M + F n, fun i hi => ?_⟩
      by_cases e : i = n
      · subst e; omega
      · have := hM i (by omega); omega
  obtain ⟨M, hM⟩ := hM x.kids.length
  exact ⟨M + 1, by omega, ⟨by omega, by omega⟩, fun i hi => mono (F i) M _ (hF i hi) (hM i hi)⟩
theorem copyValue_l (x : V) (w : World) (B : Nat) (v : Value) (h : szV x ≤ 1048576) (hR : Rep w (· < B) x v) (hB : B ≤ w.heap.size) : CvL x w B v := by
  obtain ⟨f, hf⟩ := fit_of x h
  have hc := cntV_sz x
  obtain ⟨s, n, t, ns, ks⟩ := x
  exact copyValue_lab f s n t ns ks w B v hf (by omega) hR hB
end Go.Proofs.YtmemijccbmnaaaaGreat

namespace Go.Proofs.YtmemijccbmnaaaaGreat
set_option linter.unusedSimpArgs false
set_option linter.unusedVariables false
open Go.RowKit

theorem info_Cell : (Tryz.prog.info? 109).map (fun i => (i.zero, i.size, i.bytes)) = some (some (.agg #[.string ByteArray.empty, .int .i64 0, .int .i64 0, .string ByteArray.empty, .slice none 0 0, .slice none 0 0]), 6, 96) := by kernel_rfl
theorem info_Row : (Tryz.prog.info? 69).map (fun i => (i.zero, i.size, i.bytes)) = some (some (.agg #[.string ByteArray.empty, .int .i64 0, .slice none 0 0]), 3, 48) := by kernel_rfl

set_option maxHeartbeats 1600000 in
theorem toCell_nf (c : Ce) (w : World) (B : Nat) (v : Value) (hR : CeRep w (· < B) c v) (hB : B ≤ w.heap.size) :
    Calls Tryz.prog 82 #[v] w fun e w' => ∃ (s n : Int) (t : ByteArray) (na ka : Option Addr) (nl nc kl kc : Nat), e = .returned (.agg #[.string c.name, .int .i64 s, .int .i64 n, .string t, .slice na nl nc, .slice ka kl kc]) ∧ Below w.heap.size w w' ∧
      CeRep w' (fun b => w.heap.size ≤ b ∧ b < w'.heap.size) c (.agg #[.string c.name, .int .i64 s, .int .i64 n, .string t, .slice na nl nc, .slice ka kl kc]) ∧ NF w.heap.size w' := by
  obtain ⟨c1, c2, c3, c4, c5, rfl, hV, hn⟩ := hR
  have hb3 : ∀ o1 o2 o3, Below w.heap.size w (((w.alloc o1).alloc o2).alloc o3) := fun o1 o2 o3 => (((Below.refl _ _).alloc (Nat.le_refl _) _).alloc (by simp) _).alloc (by simp; omega) _
  go_enter Tryz.func82, Tryz.ntmps82
  go_wp2_with fail
  refine (toValue_nf c.val _ B _ (hV.under ((hb3 _ _ _).mono hB)) (by simp; omega)).mono ?_
  rintro e w1 ⟨s1, n1, t1, na1, ka1, nl1, nc1, kl1, kc1, rfl, hb1, hr1, hnf1⟩
  have HN1 : Hid (NF w.heap.size w1) := NF.call (NF.three w _ _ _ _ _ _) hb1 hnf1
  clear hnf1
  have z1 := hb1.size
  simp at z1
  have b1 : Below w.heap.size w w1 := (hb3 _ _ _).trans (hb1.mono (by simp; omega))
  have K2 : w1.heap[w.heap.size + 1 + 1]? = some (.cells #[.string c.name, .int .i64 0, .int .i64 0, .string ByteArray.empty, .slice none 0 0, .slice none 0 0] 109 (0, 0)) := (hb1.block _ (by simp)).trans (by
    have := heap_alloc_new ((w.alloc (.cells #[.string c.name, c1, c2, c3, c4, c5] 136)).alloc (.cells #[.string ByteArray.empty, .int .i64 0, .int .i64 0, .string ByteArray.empty, .slice none 0 0, .slice none 0 0] 109)) (.cells #[.string c.name, .int .i64 0, .int .i64 0, .string ByteArray.empty, .slice none 0 0, .slice none 0 0] 109)
    rw [show ((w.alloc (.cells #[.string c.name, c1, c2, c3, c4, c5] 136)).alloc (.cells #[.string ByteArray.empty, .int .i64 0, .int .i64 0, .string ByteArray.empty, .slice none 0 0, .slice none 0 0] 109)).heap.size = w.heap.size + 1 + 1 by simp] at this
    exact this)
  have K1 : w1.heap[w.heap.size + 1]? = some (.cells #[.string ByteArray.empty, .int .i64 0, .int .i64 0, .string ByteArray.empty, .slice none 0 0, .slice none 0 0] 109 (0, 0)) := (hb1.block _ (by simp)).trans (by
    have := heap_alloc_new (w.alloc (.cells #[.string c.name, c1, c2, c3, c4, c5] 136)) (.cells #[.string ByteArray.empty, .int .i64 0, .int .i64 0, .string ByteArray.empty, .slice none 0 0, .slice none 0 0] 109)
    refine ((below_box _ _).block _ (by simp)).trans ?_
    rw [show (w.alloc (.cells #[.string c.name, c1, c2, c3, c4, c5] 136)).heap.size = w.heap.size + 1 by simp] at this
    exact this)
  have r1 : w1.rowIs (w.heap.size + 1) 109 6 (fun i => #[.string ByteArray.empty, .int .i64 0, .int .i64 0, .string ByteArray.empty, .slice none 0 0, .slice none 0 0][i]?.getD undef) := ⟨_, K1, rfl, fun i hi => by simp [hi]⟩
  have r2 : w1.rowIs (w.heap.size + 1 + 1) 109 6 (fun i => #[.string c.name, .int .i64 0, .int .i64 0, .string ByteArray.empty, .slice none 0 0, .slice none 0 0][i]?.getD undef) := ⟨_, K2, rfl, fun i hi => by simp [hi]⟩
  have q0 := r2.cell (i := 0) (by omega)
  have q1 := r2.cell (i := 1) (by omega)
  have q2 := r2.cell (i := 2) (by omega)
  have q3 := r2.cell (i := 3) (by omega)
  have q4 := r2.cell (i := 4) (by omega)
  have q5 := r2.cell (i := 5) (by omega)
  have u0 := r1.cell (i := 0) (by omega)
  have u1 := r1.cell (i := 1) (by omega)
  have u2 := r1.cell (i := 2) (by omega)
  have u3 := r1.cell (i := 3) (by omega)
  have u4 := r1.cell (i := 4) (by omega)
  have u5 := r1.cell (i := 5) (by omega)
  have qf := fun i => r2.frozen i
  have uf := fun i => r1.frozen i
  simp at q0 q1 q2 q3 q4 q5 u0 u1 u2 u3 u4 u5
  clear K1 K2
  go_wp2_with fail
  have zf : (puts (puts w1 (w.heap.size + 1 + 1) 1 [.int .i64 s1, .int .i64 n1, .string t1, .slice na1 nl1 nc1, .slice ka1 kl1 kc1]) (w.heap.size + 1) 0 [.string c.name, .int .i64 s1, .int .i64 n1, .string t1, .slice na1 nl1 nc1, .slice ka1 kl1 kc1]).heap.size = w1.heap.size := by rw [puts_size, puts_size]
  have ef : ∀ k, k ≠ w.heap.size + 1 + 1 → k ≠ w.heap.size + 1 → (puts (puts w1 (w.heap.size + 1 + 1) 1 [.int .i64 s1, .int .i64 n1, .string t1, .slice na1 nl1 nc1, .slice ka1 kl1 kc1]) (w.heap.size + 1) 0 [.string c.name, .int .i64 s1, .int .i64 n1, .string t1, .slice na1 nl1 nc1, .slice ka1 kl1 kc1]).heap[k]? = w1.heap[k]? := fun k h1 h2 => by rw [puts_block _ _ h2, puts_block _ _ h1]
  have bf : Below w.heap.size w (puts (puts w1 (w.heap.size + 1 + 1) 1 [.int .i64 s1, .int .i64 n1, .string t1, .slice na1 nl1 nc1, .slice ka1 kl1 kc1]) (w.heap.size + 1) 0 [.string c.name, .int .i64 s1, .int .i64 n1, .string t1, .slice na1 nl1 nc1, .slice ka1 kl1 kc1]) := puts_below (by omega) _ _ _ (puts_below (by omega) _ _ _ b1)
  have hm : ∀ k, (((w.alloc (.cells #[.string c.name, c1, c2, c3, c4, c5] 136)).alloc (.cells #[.string ByteArray.empty, .int .i64 0, .int .i64 0, .string ByteArray.empty, .slice none 0 0, .slice none 0 0] 109)).alloc (.cells #[.string c.name, .int .i64 0, .int .i64 0, .string ByteArray.empty, .slice none 0 0, .slice none 0 0] 109)).heap.size ≤ k → w.heap.size + 1 + 1 < k := fun k hk => by simp at hk; omega
  have fV : CeRep (puts (puts w1 (w.heap.size + 1 + 1) 1 [.int .i64 s1, .int .i64 n1, .string t1, .slice na1 nl1 nc1, .slice ka1 kl1 kc1]) (w.heap.size + 1) 0 [.string c.name, .int .i64 s1, .int .i64 n1, .string t1, .slice na1 nl1 nc1, .slice ka1 kl1 kc1]) (fun b => w.heap.size ≤ b ∧ b < (puts (puts w1 (w.heap.size + 1 + 1) 1 [.int .i64 s1, .int .i64 n1, .string t1, .slice na1 nl1 nc1, .slice ka1 kl1 kc1]) (w.heap.size + 1) 0 [.string c.name, .int .i64 s1, .int .i64 n1, .string t1, .slice na1 nl1 nc1, .slice ka1 kl1 kc1]).heap.size) c (.agg #[.string c.name, .int .i64 s1, .int .i64 n1, .string t1, .slice na1 nl1 nc1, .slice ka1 kl1 kc1]) := ⟨_, _, _, _, _, rfl, (hr1.mono fun k hk => by
    have := hm k hk.1
    exact ef k (by omega) (by omega)).sub fun k hk => by
      have := hm k hk.1
      rw [zf]; omega, hn⟩
  refine bodyPost_ret (v := .agg #[.string c.name, .int .i64 s1, .int .i64 n1, .string t1, .slice na1 nl1 nc1, .slice ka1 kl1 kc1]) ?res rfl ⟨s1, n1, t1, na1, ka1, nl1, nc1, kl1, kc1, rfl, bf, fV, fun a ha => by simp only [World.frozen?_setCell]; exact HN1.out a ha⟩
  case res =>
    obtain ⟨G, t1', hG, -⟩ := puts_row [.string c.name, .int .i64 s1, .int .i64 n1, .string t1, .slice na1 nl1 nc1, .slice ka1 kl1 kc1] 0 (r1.of_block (w' := puts w1 (w.heap.size + 1 + 1) 1 [.int .i64 s1, .int .i64 n1, .string t1, .slice na1 nl1 nc1, .slice ka1 kl1 kc1]) (puts_block _ _ (by omega) _ _ _))
    have p0 := t1'.cell (i := 0) (by omega)
    have p1 := t1'.cell (i := 1) (by omega)
    have p2 := t1'.cell (i := 2) (by omega)
    have p3 := t1'.cell (i := 3) (by omega)
    have p4 := t1'.cell (i := 4) (by omega)
    have p5 := t1'.cell (i := 5) (by omega)
    have g0 := hG 0 (by simp)
    have g1 := hG 1 (by simp)
    have g2 := hG 2 (by simp)
    have g3 := hG 3 (by simp)
    have g4 := hG 4 (by simp)
    have g5 := hG 5 (by simp)
    simp only [Nat.zero_add] at g0 g1 g2 g3 g4 g5
    rw [g0] at p0
    rw [g1] at p1
    rw [g2] at p2
    rw [g3] at p3
    rw [g4] at p4
    rw [g5] at p5
    simp only [puts, Nat.zero_add, Nat.reduceAdd, List.getD_cons_zero, List.getD_cons_succ] at p0 p1 p2 p3 p4 p5
    clear bf fV ef zf hm t1' q0 q1 q2 q3 q4 q5 u0 u1 u2 u3 u4 u5 qf uf r1 r2 hr1 hG g0 g1 g2 g3 g4 g5
    simp [results, Tryz.results82, go_sem, p0, p1, p2, p3, p4, p5]

set_option maxHeartbeats 1600000 in
theorem toCellS_nf (xs : List Ce) (w : World) (B : Nat) (a : Option Addr) (c : Nat) (hK : CeReps w (· < B) xs a) (hB : B ≤ w.heap.size) :
    Calls Tryz.prog 53 #[.slice a xs.length c] w fun e w' => e = .returned (.slice (some ⟨w.heap.size, 0, none⟩) xs.length xs.length) ∧ Below w.heap.size w w' ∧ w.heap.size < w'.heap.size ∧
      CeReps w' (fun b => w.heap.size ≤ b ∧ b < w'.heap.size) xs (some ⟨w.heap.size, 0, none⟩) ∧ NF w.heap.size w' := by
  have h3 := hK.1
  obtain ⟨-, C, hA, hr⟩ := hK
  have hmk := run_make_any (P := Tryz.prog) 67 109 (.agg #[.string ByteArray.empty, .int .i64 0, .int .i64 0, .string ByteArray.empty, .slice none 0 0, .slice none 0 0]) #[.string ByteArray.empty, .int .i64 0, .int .i64 0, .string ByteArray.empty, .slice none 0 0, .slice none 0 0] rfl 6 96 Tryz.underlying67 info_Cell .i64 .i64 xs.length h3 (by omega)
  go_enter Tryz.func53, Tryz.ntmps53
  go_wp2_with fail
  go_loopw [4] (fun i wr => ∃ (k : Nat) (G : Nat → Value), k ≤ xs.length ∧ i = .int .i64 k ∧ Below w.heap.size w wr ∧ wr.rowIs w.heap.size 109 (xs.length * 6) G ∧
      (∀ i, i < k → CeRep wr (fun b => w.heap.size < b ∧ b < wr.heap.size) (cth xs i) (.agg #[G (i * 6), G (i * 6 + 1), G (i * 6 + 2), G (i * 6 + 3), G (i * 6 + 4), G (i * 6 + 5)])) ∧ NF w.heap.size wr) (fun i _ => xs.length - (intOf i).toNat)
  case atStart =>
    obtain ⟨G, hG⟩ := made_row w #[.string ByteArray.empty, .int .i64 0, .int .i64 0, .string ByteArray.empty, .slice none 0 0, .slice none 0 0] (xs.length * 6) 109
    exact ⟨0, G, Nat.zero_le _, rfl, below_box _ _, hG, fun i hi => by omega, (NF.new w).alloc _ _⟩
  case round =>
    obtain ⟨k, G, hk, rfl, hbel, hrow, hreps, hnf⟩ := hrel
    have HNF : Hid (NF w.heap.size wr) := hnf
    clear hnf
    by_cases hlt : k < xs.length
    · obtain ⟨b, off, rfl, hbB, hc⟩ := hA (by omega)
      have hck : ∀ j, j < 6 → wr.cell? ⟨b, off + k * 6 + j, none⟩ = some (C k j) := fun j hj => (hbel.cell (p := ⟨b, off + k * 6 + j, none⟩) (by show b < _; omega)).trans (hc k hlt j hj)
      have hc0 : wr.cell? ⟨b, off + k * 6, none⟩ = some (C k 0) := hck 0 (by omega)
      have hc1 : wr.cell? ⟨b, off + k * 6 + 1, none⟩ = some (C k 1) := hck 1 (by omega)
      have hc2 : wr.cell? ⟨b, off + k * 6 + 2, none⟩ = some (C k 2) := hck 2 (by omega)
      have hc3 : wr.cell? ⟨b, off + k * 6 + 3, none⟩ = some (C k 3) := hck 3 (by omega)
      have hc4 : wr.cell? ⟨b, off + k * 6 + 4, none⟩ = some (C k 4) := hck 4 (by omega)
      have hc5 : wr.cell? ⟨b, off + k * 6 + 5, none⟩ = some (C k 5) := hck 5 (by omega)
      clear hck hc
      go_wp2_with (
        go_at_call 82
        refine (toCell_nf (cth xs k) _ B _ ((hr k hlt).under (hbel.mono hB)) (by have := hbel.size; omega)).mono ?_
        rintro e w1 ⟨s, n, t, na, ka, nl, nc, kl, kc, rfl, hby, hry, hnf1⟩
        have HN1 : Hid (NF w.heap.size w1) := NF.call HNF.out hby hnf1
        clear hnf1
        have hrow1 := hrow.of_block (hby.block _ hrow.lt)
        have q0 : w1.cell? ⟨w.heap.size, k * 6, none⟩ = some (G (k * 6)) := hrow1.cell (by omega)
        have q1 : w1.cell? ⟨w.heap.size, k * 6 + 1, none⟩ = some (G (k * 6 + 1)) := hrow1.cell (by omega)
        have q2 : w1.cell? ⟨w.heap.size, k * 6 + 2, none⟩ = some (G (k * 6 + 2)) := hrow1.cell (by omega)
        have q3 : w1.cell? ⟨w.heap.size, k * 6 + 3, none⟩ = some (G (k * 6 + 3)) := hrow1.cell (by omega)
        have q4 : w1.cell? ⟨w.heap.size, k * 6 + 4, none⟩ = some (G (k * 6 + 4)) := hrow1.cell (by omega)
        have q5 : w1.cell? ⟨w.heap.size, k * 6 + 5, none⟩ = some (G (k * 6 + 5)) := hrow1.cell (by omega)
        have z0 : ∀ j, w1.frozen? ⟨w.heap.size, j, none⟩ = false := fun j => hrow1.frozen j)
      go_roundw
      case rel =>
        obtain ⟨G', hG, hG1, hGF⟩ := puts_row [.string (cth xs k).name, .int .i64 s, .int .i64 n, .string t, .slice na nl nc, .slice ka kl kc] (k * 6) hrow1
        have hs1 := hbel.size
        have hs2 := hby.size
        have hs3 := hrow.lt
        have g0 : G' (k * 6) = .string (cth xs k).name := hG1 0 (by simp)
        have g1 : G' (k * 6 + 1) = .int .i64 s := hG1 1 (by simp)
        have g2 : G' (k * 6 + 2) = .int .i64 n := hG1 2 (by simp)
        have g3 : G' (k * 6 + 3) = .string t := hG1 3 (by simp)
        have g4 : G' (k * 6 + 4) = .slice na nl nc := hG1 4 (by simp)
        have g5 : G' (k * 6 + 5) = .slice ka kl kc := hG1 5 (by simp)
        have hpb := puts_block w.heap.size
        have hps := puts_size w.heap.size [.string (cth xs k).name, .int .i64 s, .int .i64 n, .string t, .slice na nl nc, .slice ka kl kc] w1 (k * 6)
        refine ⟨k + 1, G', by omega, by go_num, puts_below (Nat.le_refl _) [.string (cth xs k).name, .int .i64 s, .int .i64 n, .string t, .slice na nl nc, .slice ka kl kc] w1 (k * 6) (hbel.trans (hby.mono hs1)), hG, fun i hi => ?_, HN1.out.puts w.heap.size (k * 6) [.string (cth xs k).name, .int .i64 s, .int .i64 n, .string t, .slice na nl nc, .slice ka kl kc]⟩
        by_cases e1 : i = k
        · rw [e1, g0, g1, g2, g3, g4, g5]
          refine (hry.mono fun b hb => hpb b (by omega) [.string (cth xs k).name, .int .i64 s, .int .i64 n, .string t, .slice na nl nc, .slice ka kl kc] w1 _).sub fun b hb => ⟨by omega, ?_⟩
          show b < (puts w1 w.heap.size (k * 6) [.string (cth xs k).name, .int .i64 s, .int .i64 n, .string t, .slice na nl nc, .slice ka kl kc]).heap.size
          omega
        · rw [hGF _ (by omega), hGF _ (by omega), hGF _ (by omega), hGF _ (by omega), hGF _ (by omega), hGF _ (by omega)]
          refine ((hreps i (by omega)).mono fun b hb => (hpb b (by omega) [.string (cth xs k).name, .int .i64 s, .int .i64 n, .string t, .slice na nl nc, .slice ka kl kc] w1 _).trans (hby.block b hb.2)).sub fun b hb => ⟨hb.1, ?_⟩
          show b < (puts w1 w.heap.size (k * 6) [.string (cth xs k).name, .int .i64 s, .int .i64 n, .string t, .slice na nl nc, .slice ka kl kc]).heap.size
          omega
      case measure => simp [intOf]; omega
    · go_wp2_with fail
      go_ret
      have e : k = xs.length := by omega
      subst e
      refine ⟨rfl, hbel, hrow.lt, ⟨h3, fun i j => G (i * 6 + j), fun _ => ⟨_, _, rfl, ⟨Nat.le_refl _, hrow.lt⟩, fun i hi j hj => ?_⟩, fun i hi => (hreps i hi).sub fun b hb => ⟨by omega, hb.2⟩⟩, HNF.out⟩
      have := hrow.cell (i := i * 6 + j) (by omega)
      simpa using this

/-- What toRow's last steps leave. -/
theorem cpRo_end {w w1 : World} {t : Ro} {x : Value} {N : Nat} (hN : N = w.heap.size) (hbw : Below N w w1) (hsz1 : N + 1 + 1 + 1 < w1.heap.size)
    (hst1 : CeReps w1 (fun b => N + 1 + 1 + 1 ≤ b ∧ b < w1.heap.size) t.cells (some ⟨N + 1 + 1 + 1, 0, none⟩)) (h1 : t.type.size ≤ maxLen) (cs : List Value) :
    Below N w (puts (w1.setCell ⟨N + 1 + 1, 2, none⟩ x) (N + 1) 0 cs) ∧
    RoRep (puts (w1.setCell ⟨N + 1 + 1, 2, none⟩ x) (N + 1) 0 cs) (fun b => N ≤ b ∧ b < (puts (w1.setCell ⟨N + 1 + 1, 2, none⟩ x) (N + 1) 0 cs).heap.size) t
      (.agg #[.string t.type, .int .i64 t.id, .slice (some ⟨N + 1 + 1 + 1, 0, none⟩) t.cells.length t.cells.length]) := by
  have hsz : (puts (w1.setCell ⟨N + 1 + 1, 2, none⟩ x) (N + 1) 0 cs).heap.size = w1.heap.size := by rw [puts_size, size_set]
  refine ⟨puts_below (by omega) _ _ _ (hbw.setCell (by show N ≤ N + 1 + 1; omega) _), _, _, rfl, (hst1.mono fun k hk => ?_).sub fun k hk => ?_, Nat.le_refl _, h1⟩
  · rw [puts_block _ _ (by omega), Below.heap_setCell _ _ _ _ (by show k ≠ N + 1 + 1; omega)]
  · rw [hsz]; omega

set_option maxHeartbeats 800000 in
theorem toRow_nf (t : Ro) (w : World) (B : Nat) (v : Value) (hR : RoRep w (· < B) t v) (hB : B ≤ w.heap.size) :
    Calls Tryz.prog 27 #[v] w fun e w' => ∃ (fa : Option Addr) (fc : Nat), e = .returned (.agg #[.string t.type, .int .i64 t.id, .slice fa t.cells.length fc]) ∧ Below w.heap.size w w' ∧
      RoRep w' (fun b => w.heap.size ≤ b ∧ b < w'.heap.size) t (.agg #[.string t.type, .int .i64 t.id, .slice fa t.cells.length fc]) ∧ NF w.heap.size w' := by
  obtain ⟨na, nc, rfl, hs, hnc, hn⟩ := hR
  obtain ⟨type, id, cells⟩ := t
  simp only at hs hnc hn
  have hb3 : ∀ o1 o2 o3, Below w.heap.size w (((w.alloc o1).alloc o2).alloc o3) := fun o1 o2 o3 => (((Below.refl _ _).alloc (Nat.le_refl _) _).alloc (by simp) _).alloc (by simp; omega) _
  go_enter Tryz.func27, Tryz.ntmps27
  go_wp2_with (
      go_at_call 53
      refine (toCellS_nf cells _ B na nc (hs.under ((hb3 _ _ _).mono hB)) (by simp; omega)).mono ?_
      rintro e w1 ⟨rfl, hb1, hsz1, hst1, hnf1⟩
      have HN1 : Hid (NF w.heap.size w1) := NF.call (NF.three w _ _ _ _ _ _) hb1 hnf1
      clear hnf1
      obtain ⟨c1, f1⟩ := bcell hb1
      simp at hsz1
      have hlt1 : w.heap.size + 1 + 1 < w1.heap.size := by omega)
  have hbw : Below w.heap.size w w1 := (hb3 _ _ _).trans (hb1.mono (by simp; omega))
  have fin := cpRo_end (w := w) (w1 := w1) (t := ⟨type, id, cells⟩) (x := .slice (some ⟨w.heap.size + 1 + 1 + 1, 0, none⟩) cells.length cells.length) (N := w.heap.size) rfl hbw hsz1 (by simpa using hst1) hn [.string type, .int .i64 id, .slice (some ⟨w.heap.size + 1 + 1 + 1, 0, none⟩) cells.length cells.length]
  refine bodyPost_ret (v := .agg #[.string type, .int .i64 id, .slice (some ⟨w.heap.size + 1 + 1 + 1, 0, none⟩) cells.length cells.length]) ?res rfl ⟨_, _, rfl, fin.1, fin.2, fun a ha => by simp only [World.frozen?_setCell]; exact HN1.out a ha⟩
  case res =>
    have hr0 : ∀ o1 o3 c, ((((w.alloc o1).alloc (.cells c 69)).alloc o3)).rowIs (w.heap.size + 1) 69 c.size (fun i => c[i]?.getD undef) := fun o1 o3 c => by
      have h := ((w.alloc o1).rowIs_alloc c 69 (fun i => c[i]?.getD undef) (fun i hi => by simp [hi])).alloc o3
      simpa using h
    have hr1 := (hr0 _ _ _).of_block (hb1.block (w.heap.size + 1) (by simp))
    have p0 := hr1.cell (i := 0) (by simp)
    have p1 := hr1.cell (i := 1) (by simp)
    have p2 := hr1.cell (i := 2) (by simp)
    clear fin hst1 hs c1 f1 hb1 hr0 hr1
    simp [results, Tryz.results27, go_sem, p0, p1, p2]

set_option maxHeartbeats 1600000 in
theorem toRowS_nf (xs : List Ro) (w : World) (B : Nat) (a : Option Addr) (c : Nat) (hK : RoReps w (· < B) xs a) (hB : B ≤ w.heap.size) :
    Calls Tryz.prog 9 #[.slice a xs.length c] w fun e w' => e = .returned (.slice (some ⟨w.heap.size, 0, none⟩) xs.length xs.length) ∧ Below w.heap.size w w' ∧ w.heap.size < w'.heap.size ∧
      RoReps w' (fun b => w.heap.size ≤ b ∧ b < w'.heap.size) xs (some ⟨w.heap.size, 0, none⟩) ∧ NF w.heap.size w' := by
  have h3 := hK.1
  obtain ⟨-, C, hA, hr⟩ := hK
  have hmk := run_make_any (P := Tryz.prog) 35 69 (.agg #[.string ByteArray.empty, .int .i64 0, .slice none 0 0]) #[.string ByteArray.empty, .int .i64 0, .slice none 0 0] rfl 3 48 Tryz.underlying35 info_Row .i64 .i64 xs.length h3 (by omega)
  go_enter Tryz.func9, Tryz.ntmps9
  go_wp2_with fail
  go_loopw [4] (fun i wr => ∃ (k : Nat) (G : Nat → Value), k ≤ xs.length ∧ i = .int .i64 k ∧ Below w.heap.size w wr ∧ wr.rowIs w.heap.size 69 (xs.length * 3) G ∧
      (∀ i, i < k → RoRep wr (fun b => w.heap.size < b ∧ b < wr.heap.size) (rth xs i) (.agg #[G (i * 3), G (i * 3 + 1), G (i * 3 + 2)])) ∧ NF w.heap.size wr) (fun i _ => xs.length - (intOf i).toNat)
  case atStart =>
    obtain ⟨G, hG⟩ := made_row w #[.string ByteArray.empty, .int .i64 0, .slice none 0 0] (xs.length * 3) 69
    exact ⟨0, G, Nat.zero_le _, rfl, below_box _ _, hG, fun i hi => by omega, (NF.new w).alloc _ _⟩
  case round =>
    obtain ⟨k, G, hk, rfl, hbel, hrow, hreps, hnf⟩ := hrel
    have HNF : Hid (NF w.heap.size wr) := hnf
    clear hnf
    by_cases hlt : k < xs.length
    · obtain ⟨b, off, rfl, hbB, hc⟩ := hA (by omega)
      have hck : ∀ j, j < 3 → wr.cell? ⟨b, off + k * 3 + j, none⟩ = some (C k j) := fun j hj => (hbel.cell (p := ⟨b, off + k * 3 + j, none⟩) (by show b < _; omega)).trans (hc k hlt j hj)
      have hc0 : wr.cell? ⟨b, off + k * 3, none⟩ = some (C k 0) := hck 0 (by omega)
      have hc1 : wr.cell? ⟨b, off + k * 3 + 1, none⟩ = some (C k 1) := hck 1 (by omega)
      have hc2 : wr.cell? ⟨b, off + k * 3 + 2, none⟩ = some (C k 2) := hck 2 (by omega)
      clear hck hc
      go_wp2_with (
        go_at_call 27
        refine (toRow_nf (rth xs k) _ B _ ((hr k hlt).under (hbel.mono hB)) (by have := hbel.size; omega)).mono ?_
        rintro e w1 ⟨na, nc, rfl, hby, hry, hnf1⟩
        have HN1 : Hid (NF w.heap.size w1) := NF.call HNF.out hby hnf1
        clear hnf1
        have hrow1 := hrow.of_block (hby.block _ hrow.lt)
        have q0 : w1.cell? ⟨w.heap.size, k * 3, none⟩ = some (G (k * 3)) := hrow1.cell (by omega)
        have q1 : w1.cell? ⟨w.heap.size, k * 3 + 1, none⟩ = some (G (k * 3 + 1)) := hrow1.cell (by omega)
        have q2 : w1.cell? ⟨w.heap.size, k * 3 + 2, none⟩ = some (G (k * 3 + 2)) := hrow1.cell (by omega)
        have z0 : ∀ j, w1.frozen? ⟨w.heap.size, j, none⟩ = false := fun j => hrow1.frozen j)
      go_roundw
      case rel =>
        obtain ⟨G', hG, hG1, hGF⟩ := puts_row [.string (rth xs k).type, .int .i64 (rth xs k).id, .slice na (rth xs k).cells.length nc] (k * 3) hrow1
        have hs1 := hbel.size
        have hs2 := hby.size
        have hs3 := hrow.lt
        have g0 : G' (k * 3) = .string (rth xs k).type := hG1 0 (by simp)
        have g1 : G' (k * 3 + 1) = .int .i64 (rth xs k).id := hG1 1 (by simp)
        have g2 : G' (k * 3 + 2) = .slice na (rth xs k).cells.length nc := hG1 2 (by simp)
        have hpb := puts_block w.heap.size
        have hps := puts_size w.heap.size [.string (rth xs k).type, .int .i64 (rth xs k).id, .slice na (rth xs k).cells.length nc] w1 (k * 3)
        refine ⟨k + 1, G', by omega, by go_num, puts_below (Nat.le_refl _) [.string (rth xs k).type, .int .i64 (rth xs k).id, .slice na (rth xs k).cells.length nc] w1 (k * 3) (hbel.trans (hby.mono hs1)), hG, fun i hi => ?_, HN1.out.puts w.heap.size (k * 3) [.string (rth xs k).type, .int .i64 (rth xs k).id, .slice na (rth xs k).cells.length nc]⟩
        by_cases e1 : i = k
        · rw [e1, g0, g1, g2]
          refine (hry.mono fun b hb => hpb b (by omega) [.string (rth xs k).type, .int .i64 (rth xs k).id, .slice na (rth xs k).cells.length nc] w1 _).sub fun b hb => ⟨by omega, ?_⟩
          show b < (puts w1 w.heap.size (k * 3) [.string (rth xs k).type, .int .i64 (rth xs k).id, .slice na (rth xs k).cells.length nc]).heap.size
          omega
        · rw [hGF _ (by omega), hGF _ (by omega), hGF _ (by omega)]
          refine ((hreps i (by omega)).mono fun b hb => (hpb b (by omega) [.string (rth xs k).type, .int .i64 (rth xs k).id, .slice na (rth xs k).cells.length nc] w1 _).trans (hby.block b hb.2)).sub fun b hb => ⟨hb.1, ?_⟩
          show b < (puts w1 w.heap.size (k * 3) [.string (rth xs k).type, .int .i64 (rth xs k).id, .slice na (rth xs k).cells.length nc]).heap.size
          omega
      case measure => simp [intOf]; omega
    · go_wp2_with fail
      go_ret
      have e : k = xs.length := by omega
      subst e
      refine ⟨rfl, hbel, hrow.lt, ⟨h3, fun i j => G (i * 3 + j), fun _ => ⟨_, _, rfl, ⟨Nat.le_refl _, hrow.lt⟩, fun i hi j hj => ?_⟩, fun i hi => (hreps i hi).sub fun b hb => ⟨by omega, hb.2⟩⟩, HNF.out⟩
      have := hrow.cell (i := i * 3 + j) (by omega)
      simpa using this
end Go.Proofs.YtmemijccbmnaaaaGreat
