import Derived.Test.YtbpdchlbhfjddaaGreatJ10
import Derived.Test.YtbpdchlbhfjddaaGreatJ5
import Derived.Test.YtbpdchlbhfjddaaGreatJ3
namespace Go.Proofs.YtbpdchlbhfjddaaGreat
set_option linter.unusedSimpArgs false
set_option linter.unusedVariables false
open Go.RowKit

theorem hidL {q : Prop} (h : q) : Hid q := h
theorem Rep.shape5v {w : World} {P : Nat → Prop} {x : V} {a0 a1 a2 a3 a4 : Value} (h : Rep w P x (.agg #[a0, a1, a2, a3, a4])) :
    ∃ (s n : Int) (t : ByteArray) (na ka : Option Addr) (nl nc kl kc : Nat), a0 = .int .i64 s ∧ a1 = .int .i64 n ∧ a2 = .string t ∧ a3 = .slice na nl nc ∧ a4 = .slice ka kl kc := by
  obtain ⟨s, n, t, ns, ks⟩ := x
  obtain ⟨na, ka, nc, kc, hv, -⟩ := h.inv
  simp only [Value.agg.injEq, Array.mk.injEq, List.cons.injEq, and_true] at hv
  obtain ⟨h0, h1, h2, h3, h4⟩ := hv
  exact ⟨s, n, t, na, ka, _, nc, _, kc, h0, h1, h2, h3, h4⟩
theorem infoP : (Tryz.prog.info? 130).map (fun i => (i.zero, i.size, i.bytes)) = some (some (.pointer none), 1, 8) := by kernel_rfl

set_option maxHeartbeats 1600000 in
theorem copyValue_lab (f : Nat) (s n : Int) (t : ByteArray) (ns : List ByteArray) (ks : List V) (w : World) (B : Nat) (v : Value) (hfit : fit f (.mk s n t ns ks)) (hcnt : cntV (.mk s n t ns ks) ≤ 2097152) (hR : Rep w (· < B) (.mk s n t ns ks) v) (hB : B ≤ w.heap.size) : CvL (.mk s n t ns ks) w B v := by
  unfold CvL
  simp only
  obtain ⟨na, ka, nc, kc, rfl, -⟩ := hR.inv
  go_enter Tryz.func45, Tryz.ntmps45
  go_wp2_with fail
  go_loopg [3] (cntV (.mk s n t ns ks)) (fun g vo wr => ∃ T L, g = todoQ L ∧ g ≤ 2097152 ∧ ∃ lab, OpensL w B w.heap.size (.mk s n t ns ks) wr lab T L vo)
  case atStart =>
    exact ⟨_, _, by simp [todoQ, cntL], hcnt, _, OpensL.start f s n t ns ks na ka nc kc w B hfit hR hB⟩
  case round =>
    clear hR
    obtain ⟨T, L, rfl, hg6, lab, hO⟩ := hrel
    by_cases hL : L = []
    · subst hL
      obtain ⟨hLb, hCl, hT, hTr, -, -, hown, hbel, y0, y1, y2, y3, y4, hr1⟩ := hO
      obtain ⟨oa, ocap, rfl⟩ := owns_slice hown
      obtain ⟨d0, d1, d2, d3, d4, p0, p1, p2, p3, p4, hrep, hlrep⟩ := hCl.done
      obtain ⟨na', ka', nc', kc', e5, hS, hnc, ht, hbs, hK⟩ := hrep.inv
      simp only [Value.agg.injEq, Array.mk.injEq, List.cons.injEq, and_true] at e5
      obtain ⟨rfl, rfl, rfl, rfl, rfl⟩ := e5
      obtain ⟨l0, l1, l2, l3, l4⟩ := hr1.five
      have hlf := hr1.frozen
      have HLB : Hid (∀ b, lab b ≠ [] → (w.heap.size ≤ b ∧ b < wr.heap.size) ∧ b ≠ w.heap.size + 1) := fun b hb => by have := hT b (hLb b hb).1; exact ⟨⟨this.1, this.2.1⟩, this.2.2.1⟩
      have HLR : Hid (LRep wr lab [] ⟨s, n, t, ns, ks⟩ (.agg #[.int .i64 s, .int .i64 n, .string t, .slice na' ns.length nc', .slice ka' ks.length kc'])) := hlrep
      clear hg6 hown hCl hT hTr hLb hlrep
      simp only [Nat.zero_add] at p1 p2 p3 p4
      simp only [List.length_nil]
      have HS : Hid (Strs wr (New w.heap.size wr) ns na' ∧ Kids wr (New w.heap.size wr) ks ka') := ⟨hS, hK⟩
      clear hS hK hrep
      go_wp2_with fail
      have hfin : Row5 (put5 wr (w.heap.size + 1) 0 (.int .i64 s) (.int .i64 n) (.string t) (.slice na' ns.length nc') (.slice ka' ks.length kc')) (w.heap.size + 1) (.int .i64 s) (.int .i64 n) (.string t) (.slice na' ns.length nc') (.slice ka' ks.length kc') := hr1.put _ _ _ _ _
      have hsz := put5_size wr (w.heap.size + 1) 0 (.int .i64 s) (.int .i64 n) (.string t) (.slice na' ns.length nc') (.slice ka' ks.length kc')
      have hblk := put5_block wr (w.heap.size + 1) 0 (.int .i64 s) (.int .i64 n) (.string t) (.slice na' ns.length nc') (.slice ka' ks.length kc')
      refine bodyPost_ret (v := .agg #[.int .i64 s, .int .i64 n, .string t, .slice na' ns.length nc', .slice ka' ks.length kc']) ?res rfl ⟨_, _, _, _, rfl, put5_below hbel (by omega) _ _ _ _ _ _, ?_, lab, fun b hb => ⟨(HLB.out b hb).1.1, Nat.lt_of_lt_of_eq (HLB.out b hb).1.2 hsz.symm⟩, HLR.out.keep fun b hb _ => hblk b (HLB.out b hb).2⟩
      case res =>
        obtain ⟨p0, p1, p2, p3, p4⟩ := hfin.five
        simp only [put5] at p0 p1 p2 p3 p4
        clear hfin hblk hsz hr1
        simp [results, Tryz.results45, go_sem, p0, p1, p2, p3, p4]
      · obtain ⟨hS, hK⟩ := HS.out
        exact Rep.of_kids ((hS.mono fun b' hb' => hblk b' hb'.2.2).sub fun b' hb' => ⟨hb'.1, Nat.lt_of_lt_of_eq hb'.2.1 hsz.symm⟩) hnc ht hbs ((hK.mono fun b' hb' => hblk b' hb'.2.2).sub fun b' hb' => ⟨hb'.1, Nat.lt_of_lt_of_eq hb'.2.1 hsz.symm⟩)
    · obtain ⟨L0, e, rfl⟩ : ∃ L0 e, L = L0 ++ [e] := ⟨L.dropLast, L.getLast hL, (List.dropLast_concat_getLast hL).symm⟩
      clear hL
      obtain ⟨pp, b, o, s', n', t', ns', ks'⟩ := e
      have HO := hidL hO
      obtain ⟨-, -, hT, hTr, hLe, -, hown, -, -⟩ := hO
      obtain ⟨hTb, ⟨d0, d1, d2, d3, d4, p0, p1, p2, p3, p4, hrep⟩, ⟨fe, hfe⟩, hfb⟩ := hLe ⟨pp, b, o, s', n', t', ns', ks'⟩ (by simp)
      simp only at hTb p0 p1 p2 p3 p4 hrep hfe hfb
      obtain ⟨na', ka', nc', kc', e5, hS, hnc, ht, hbs, hK⟩ := hrep.inv
      simp only [Value.agg.injEq, Array.mk.injEq, List.cons.injEq, and_true] at e5
      obtain ⟨rfl, rfl, rfl, rfl, rfl⟩ := e5
      have hlen : (L0 ++ [(⟨pp, b, o, s', n', t', ns', ks'⟩ : Pq)]).length = L0.length + 1 := by simp
      rw [hlen] at hown
      have hl6 := todoQ_len (L0 ++ [⟨pp, b, o, s', n', t', ns', ks'⟩])
      rw [hlen] at hl6
      rcases hown.2 with ⟨-, h0⟩ | ⟨og, ocap, ocur, rfl, hog1, hog2, hog3, hog4, hog5, hog6⟩
      · omega
      have hq : wr.cell? ⟨og, L0.length, none⟩ = some (.pointer (some ⟨b, o, none⟩)) := by
        have := hown.cellAt L0.length (by omega)
        rw [this]
        simp
      have hfe1 : ks'.length ≤ 2097152 ∧ ns'.length ≤ 2097152 ∧ ∀ i, i < ks'.length → ∃ f, fit f (kth ks' i) := by
        match fe, hfe with
        | fe + 1, hfe => exact ⟨hfe.1, hfe.2.1.1, fun i hi => ⟨fe, hfe.2.2 i hi⟩⟩
      obtain ⟨hk6, hn6, hkf⟩ := hfe1
      have hTB := hT b hTb
      have hbz := hTB.2.1
      have HH : Hid (Kids wr (· < B) ks' ka') := hK
      have CT := copyTexts_any ns' na' nc' wr (· < B) hS (by omega)
      have hf3 := hfb
      have hogl := hown.lt og rfl
      have hobg : og ≠ b := fun e => hTB.2.2.2 (by rw [← e]; rfl)
      clear hT hK hS hrep hfe hLe hfb
      go_wp2_with fail
      refine CT.mono ?_
      rintro ex w1 ⟨a1, cp1, rfl, hcp1, hb1, hS1, hZ1⟩
      have HZ1 := hidL hZ1
      clear hZ1
      clear CT
      have hcell : ∀ j v, wr.cell? ⟨b, j, none⟩ = some v → w1.cell? ⟨b, j, none⟩ = some v := fun j v h => (hb1.cell (p := ⟨b, j, none⟩) hbz).trans h
      have hfz : ∀ i, w1.frozen? ⟨b, i, none⟩ = false := fun i => (frozen_below hb1 hbz i).trans (hf3 i)
      have q0 := hcell _ _ p0
      have q1 := hcell _ _ p1
      have q2 := hcell _ _ p2
      have q3 := hcell _ _ p3
      have q4 := hcell _ _ p4
      clear hcell p0 p1 p2 p3 p4 hq hf3
      by_cases hk0 : ks' = []
      · subst hk0
        obtain ⟨wo, rfl⟩ : ∃ wo : World, wo = wr := ⟨_, rfl⟩
        have hz1 := hb1.size
        obtain ⟨W2, hW2⟩ : ∃ W2, W2 = (w1.setCell ⟨b, o + 3, none⟩ (.slice a1 ns'.length cp1)).setCell ⟨b, o + 4, none⟩ (.slice none 0 0) := ⟨_, rfl⟩
        have hW2z : W2.heap.size = w1.heap.size := by rw [hW2, size_set, size_set]
        have hblk2 : ∀ c, c ≠ b → W2.heap[c]? = w1.heap[c]? := fun c hcb => by
          rw [hW2, Below.heap_setCell _ _ _ _ (by show c ≠ b; exact hcb), Below.heap_setCell _ _ _ _ (by show c ≠ b; exact hcb)]
        have HOx : Hid (∃ T2 lab2, OpensL w B w.heap.size ⟨s, n, t, ns, ks⟩ W2 lab2 T2 (L0 ++ kidQ pp w1.heap.size ([] : List V) ([] : List V).length) (.slice (some ⟨og, 0, none⟩) L0.length ocap)) := by
          refine ⟨_, OpensL.turn (N := fun c => wo.heap.size ≤ c ∧ c < w1.heap.size) (og := og) (na := a1) (nc := cp1) (ka := none) (kc := 0) HO.out hB rfl (by omega) (by rw [hW2]; exact hb1.os) (by rw [hW2]; exact hb1.tape) (by rw [hW2]; exact hb1.output) (fun c hc hcb _ => (hblk2 c hcb).trans (hb1.block c hc)) (fun i h3 h4 => ?_) (fun i => ?_) ?_ ?_ (fun c hc => ⟨hc.1, ?_, ?_, fun h => ?_⟩) (hS1.mono fun c hc => hblk2 c ?_) hcp1 (fun nb off e i => ?_) hz1 (fun h => absurd rfl h) (fun h => absurd rfl h) (fun h => absurd rfl h) (fun h => absurd rfl h) (fun i hi => absurd hi (by simp)) (fun c hc h => ?_) ⟨by simp [kidQ], Or.inr ⟨og, ocap, ocur, by simp, hog1, ((hblk2 og hobg).trans (hb1.block og hogl.2)).trans hog2, by show L0.length ≤ ocap; omega, hog4, hog5, ?_⟩⟩⟩
          · rw [hW2, World.cell?_setCell_other _ _ _ _ (by simp <;> omega), World.cell?_setCell_other _ _ _ _ (by simp <;> omega)]
            exact hb1.cell (p := ⟨b, i, none⟩) hbz
          · rw [hW2, World.frozen?_setCell, World.frozen?_setCell, hfz i]
            exact ((HO.out.2.2.2.2.1 ⟨pp, b, o, s', n', t', ns', []⟩ (by simp)).2.2.2 i).symm
          · rw [hW2, World.cell?_setCell_other _ _ _ _ (by simp)]
            exact World.cell?_setCell_same _ _ _ q3
          · rw [hW2]
            exact World.cell?_setCell_same _ _ _ ((World.cell?_setCell_other _ _ _ _ (by simp)).trans q4)
          · have := hc.2; omega
          · have := hc.2; omega
          · have e' : og = c := by simpa [Value.ownBlock] using h
            have := hc.1; omega
          · have := hc.1; omega
          · rw [hW2, World.frozen?_setCell, World.frozen?_setCell]
            exact (HZ1.out nb off e).2 i
          · simpa [Value.ownBlock] using h.symm
          · have h6 := congrArg (List.take L0.length) hog6
            rw [List.take_take] at h6
            simpa [kidQ, Nat.min_eq_left] using h6
        have HW : Hid (W2 = (w1.setCell ⟨b, o + 3, none⟩ (.slice a1 ns'.length cp1)).setCell ⟨b, o + 4, none⟩ (.slice none 0 0)) := hW2
        clear hW2 hblk2
        rcases ka' with _ | ad
        all_goals
          go_wp2_with fail
          rw [← HW.out]
          go_loopw [3, 42] (fun vo i wx => vo = .slice (some ⟨og, 0, none⟩) L0.length ocap ∧ i = .int .i64 0 ∧ wx = W2) (fun _ _ _ => 0)
          case atStart => exact ⟨rfl, rfl, rfl⟩
          case round =>
            obtain ⟨rfl, rfl, hwx⟩ := hrel
            have HX : Hid (wr = W2) := hwx
            clear hwx
            go_wp2_with fail
            go_roundg (todoQ (L0 ++ kidQ pp w1.heap.size ([] : List V) ([] : List V).length))
            case measure => have := todoQ_step L0 pp b o s' n' t' ns' [] w1.heap.size; omega
            case rel =>
              obtain ⟨T2, hT2⟩ := HOx.out
              exact ⟨T2, _, rfl, by have := todoQ_step L0 pp b o s' n' t' ns' [] w1.heap.size; omega, by rw [HX.out]; exact hT2⟩
      obtain ⟨h80, kb0, koff, C, hka, hkc, hkr⟩ := HH.out
      obtain ⟨rfl, hkB⟩ := hka hk0
      have hkl : 0 < ks'.length := List.length_pos_iff.2 hk0
      have hne : kb0 ≠ b := by have := hTB.1; omega
      have hz1 := hb1.size
      have hW1z : (w1.setCell ⟨b, o + 3, none⟩ (.slice a1 ns'.length cp1)).heap.size = w1.heap.size := size_set _ _ _
      have hfar : ∀ c i, c ≠ b → (w1.setCell ⟨b, o + 3, none⟩ (.slice a1 ns'.length cp1)).cell? ⟨c, i, none⟩ = w1.cell? ⟨c, i, none⟩ := fun c i hc => World.cell?_of_block (w := w1) (a := ⟨c, i, none⟩) (Below.heap_setCell _ _ _ _ (by show c ≠ b; exact hc))
      have hkn : ∀ j u, ((List.range (ks'.length * 5)).map fun m => C (m / 5) (m % 5))[j]? = some u → (w1.setCell ⟨b, o + 3, none⟩ (.slice a1 ns'.length cp1)).cell? ((⟨kb0, koff, none⟩ : Addr).add j) = some u := fun j u hj => by
        rw [List.getElem?_map] at hj
        obtain ⟨m, hm, rfl⟩ := Option.map_eq_some_iff.1 hj
        obtain ⟨hm1, hm2⟩ := List.getElem?_eq_some_iff.1 hm
        simp at hm1 hm2
        subst hm2
        have h1 := hkc (j / 5) (by omega) (j % 5) (by omega)
        rw [Addr.add_lit, hfar _ _ hne]
        have h2 := (hb1.cell (p := ⟨kb0, koff + j / 5 * 5 + j % 5, none⟩) (by show kb0 < _; omega)).trans h1
        rw [show koff + j / 5 * 5 + j % 5 = koff + j by omega] at h2
        exact h2
      have hone : ∀ u, u ∈ ((List.range (ks'.length * 5)).map fun m => C (m / 5) (m % 5)) → u.oneCell' = true := fun u hu => by
        simp only [List.mem_map, List.mem_range] at hu
        obtain ⟨m, hm, rfl⟩ := hu
        obtain ⟨_, _, _, _, _, _, _, _, _, j0, j1, j2, j3, j4⟩ := (hkr (m / 5) (by omega)).shape5v
        have : m % 5 = 0 ∨ m % 5 = 1 ∨ m % 5 = 2 ∨ m % 5 = 3 ∨ m % 5 = 4 := by omega
        rcases this with h | h | h | h | h <;> rw [h]
        · rw [j0]; rfl
        · rw [j1]; rfl
        · rw [j2]; rfl
        · rw [j3]; rfl
        · rw [j4]; rfl
      obtain ⟨i0, hi, hi0, hi1, hi2⟩ := info_parts info30
      go_wp2_with (at_builtin; refine wpList_append_lies _ rfl _ _ 56 rfl w.heap.size 58 i0 zeroV 5 80 Tryz.underlying56 hi hi0 hi1 hi2 rfl (by decide) (.slice none 0 0) 0 [] rfl (World.ownsRow_nil _ _ _ _) ⟨kb0, koff, none⟩ ks'.length kc' ((List.range (ks'.length * 5)).map fun m => C (m / 5) (m % 5)) rfl (by simp) hkn hone hkl (by unfold maxLen; omega) (by omega) (by rw [hW1z]; have := hTB.1; omega) _ rfl ?_)
      intro g cap w3 hown3 hgrow hat hlt3
      obtain rfl : g = w1.heap.size := by
        rcases hat with h | h
        · simp [Value.ownBlock] at h
        · exact h
      have hz3 := hgrow.size
      rw [hW1z] at hz3
      have hc3 : ∀ i, w3.cell? ⟨b, i, none⟩ = (w1.setCell ⟨b, o + 3, none⟩ (.slice a1 ns'.length cp1)).cell? ⟨b, i, none⟩ := fun i => hgrow.cell_far ⟨b, i, none⟩ (by show b < _; rw [hW1z]; omega) (by simp [Value.ownBlock])
      have hf3 : ∀ i, w3.frozen? ⟨b, i, none⟩ = false := fun i => (hgrow.frozen_far ⟨b, i, none⟩ (by show b < _; rw [hW1z]; omega) (by simp [Value.ownBlock])).trans (by rw [World.frozen?_setCell]; exact hfz i)
      have r4 : w3.cell? ⟨b, o + 4, none⟩ = some (.slice (some ⟨kb0, koff, none⟩) ks'.length kc') := (hc3 _).trans ((World.cell?_setCell_other _ _ _ _ (by simp)).trans q4)
      have hf4 := hf3 (o + 4)
      have HK : Hid (∀ i, i < ks'.length → Rep wr (· < B) (kth ks' i) (.agg #[C i 0, C i 1, C i 2, C i 3, C i 4])) := hkr
      clear hkn hone hkc hkr hat
      go_wp2_with fail
      obtain ⟨wo, rfl⟩ : ∃ wo : World, wo = wr := ⟨_, rfl⟩
      generalize hW2 : w3.setCell ⟨b, o + 4, none⟩ (.slice (some ⟨w1.heap.size, 0, none⟩) ks'.length cap) = W2
      have hW2z : W2.heap.size = w3.heap.size := by rw [← hW2]; exact size_set _ _ _
      have hW2b : ∀ c, c ≠ b → W2.heap[c]? = w3.heap[c]? := fun c hc => by rw [← hW2]; exact Below.heap_setCell _ _ _ _ (by show c ≠ b; exact hc)
      have m4 : W2.cell? ⟨b, o + 4, none⟩ = some (.slice (some ⟨w1.heap.size, 0, none⟩) ks'.length cap) := by rw [← hW2]; exact World.cell?_setCell_same _ _ _ r4
      have hblk2 : ∀ c, c < wo.heap.size → c ≠ b → W2.heap[c]? = wo.heap[c]? := fun c hc hcb => by
        rw [hW2b c hcb, hgrow.block c (by rw [hW1z]; omega) (by simp [Value.ownBlock]), Below.heap_setCell _ _ _ _ (by show c ≠ b; exact hcb)]
        exact hb1.block c hc
      have HW : Hid (w3.setCell ⟨b, o + 4, none⟩ (.slice (some ⟨w1.heap.size, 0, none⟩) ks'.length cap) = W2) := hW2
      clear hW2
      obtain ⟨ip, hp, hp0, hp1, hp2⟩ := info_parts infoP
      go_loopw [3, 42] (fun vo i wx => ∃ k : Nat, k ≤ ks'.length ∧ i = .int .i64 k ∧ W2.grownBy wx (some og) ∧ (∃ og', vo.ownBlock = some og' ∧ (og' = og ∨ W2.heap.size ≤ og')) ∧ wx.ownsRow (w.heap.size + 1 + 1) 130 1 vo (L0.length + k) ((L0 ++ kidQ pp w1.heap.size ks' k).map fun e => .pointer (some ⟨e.b, e.o, none⟩))) (fun _ i _ => ks'.length - (intOf i).toNat)
      case atStart =>
        refine ⟨0, Nat.zero_le _, rfl, ⟨rfl, rfl, rfl, Nat.le_refl _, fun _ _ _ => rfl⟩, ⟨og, rfl, Or.inl rfl⟩, by simp [kidQ], Or.inr ⟨og, ocap, ocur, by simp, hog1, (hblk2 og hogl.2 hobg).trans hog2, by omega, hog4, hog5, ?_⟩⟩
        have h6 := congrArg (List.take L0.length) hog6
        rw [List.take_take] at h6
        simpa [kidQ, Nat.min_eq_left] using h6
      case round =>
        obtain ⟨k, hk, rfl, hgr, ⟨og', hvo', hor⟩, hownk⟩ := hrel
        by_cases hlt : k < ks'.length
        · have hki : (k : Int) < (ks'.length : Int) := by omega
          have m4x : wr.cell? ⟨b, o + 4, none⟩ = some (.slice (some ⟨w1.heap.size, 0, none⟩) ks'.length cap) := (hgr.cell_far ⟨b, o + 4, none⟩ (by show b < _; omega) (fun e => hobg (by simpa using e.symm))).trans m4
          obtain ⟨oa, oc, rfl⟩ := owns_slice hownk
          go_wp2_with (at_builtin; refine wpList_append_lies _ rfl _ _ 140 rfl (w.heap.size + 1 + 1) 130 ip (.pointer none) 1 8 Tryz.underlying140 hp hp0 hp1 hp2 rfl (by decide) _ (L0.length + k) _ rfl (hownk.alloc _) ⟨wr.heap.size, 0, none⟩ 1 1 [.pointer (some ⟨w1.heap.size, k * 5, none⟩)] rfl rfl (World.news_of_block (heap_alloc_new wr _)) (by intro u hu; simp at hu; subst hu; rfl) (by omega) (by unfold maxLen; omega) (by omega) (by have := hgr.size; simp; omega) _ rfl ?_)
          intro g2 cap2 w4 hown4 hgrow4 hat4 hlt4
          go_wp2_with fail
          go_roundw
          case rel =>
            have hz4 := hgrow4.size
            have hzr := hgr.size
            simp at hz4
            have hvo2 : (Value.slice oa (L0.length + k) oc).ownBlock = some og' := hvo'
            refine ⟨k + 1, by omega, by go_num, ⟨hgrow4.os.trans hgr.os, hgrow4.tape.trans hgr.tape, hgrow4.output.trans hgr.output, by omega, fun c hc hne => ?_⟩, ⟨g2, rfl, ?_⟩, ?_⟩
            · rw [hgrow4.block c (by simp; omega) (fun e => ?_), (World.grownBy_alloc wr _ none).block c (by omega) (by simp)]
              · exact hgr.block c hc hne
              · have e' : c = og' := by simpa [hvo2] using e
                rcases hor with h | h
                · exact hne (by rw [e', h])
                · omega
            · rcases hat4 with h | h
              · have e' : og' = g2 := by simpa [hvo2] using h
                rw [← e']; exact hor
              · right; omega
            · rw [kidQ_succ, List.map_append, List.map_append]
              exact hown4
          case measure => simp [intOf]; omega
        · have hkk : k = ks'.length := by omega
          subst hkk
          go_wp2_with fail
          go_roundg (todoQ (L0 ++ kidQ pp w1.heap.size ks' ks'.length))
          case measure => have := todoQ_step L0 pp b o s' n' t' ns' ks' w1.heap.size; omega
          case rel =>
            have hzr := hgr.size
            have hW2o : W2.os = wo.os ∧ W2.tape = wo.tape ∧ W2.output = wo.output := by
              rw [← HW.out]
              exact ⟨hgrow.os.trans hb1.os, hgrow.tape.trans hb1.tape, hgrow.output.trans hb1.output⟩
            have hsb : some b ≠ some og := fun e => hobg (by simpa using e.symm)
            have hblkx : ∀ c, c < wo.heap.size → c ≠ b → c ≠ og → wr.heap[c]? = wo.heap[c]? := fun c hc hcb hco => (hgr.block c (by omega) (by simpa using hco)).trans (hblk2 c hc hcb)
            have hbw : Below B wo wr := ⟨hgr.os.trans hW2o.1, hgr.tape.trans hW2o.2.1, hgr.output.trans hW2o.2.2, by omega, fun c hc => hblkx c (by omega) (by have := hTB.1; omega) (by omega)⟩
            have hcb : ∀ i, wr.cell? ⟨b, i, none⟩ = (w3.setCell ⟨b, o + 4, none⟩ (.slice (some ⟨w1.heap.size, 0, none⟩) ks'.length cap)).cell? ⟨b, i, none⟩ := fun i => by rw [HW.out]; exact hgr.cell_far ⟨b, i, none⟩ (by show b < _; omega) hsb
            have hgc : ∀ m, wr.cell? ⟨w1.heap.size, m, none⟩ = w3.cell? ⟨w1.heap.size, m, none⟩ := fun m => (hgr.cell_far ⟨w1.heap.size, m, none⟩ (by show w1.heap.size < _; omega) (by simp; omega)).trans (World.cell?_of_block (w := w3) (a := ⟨w1.heap.size, m, none⟩) (hW2b w1.heap.size (by omega)))
            have hvb : ∀ c, u3.ownBlock = some c → c = og ∨ W2.heap.size ≤ c := fun c h => by
              rw [hvo'] at h
              have e' : og' = c := by simpa using h
              rw [← e']; exact hor
            refine ⟨_, _, rfl, by have := todoQ_step L0 pp b o s' n' t' ns' ks' w1.heap.size; omega, OpensL.turn (N := fun c => wo.heap.size ≤ c ∧ c < w1.heap.size) (og := og) (na := a1) (nc := cp1) (ka := some ⟨w1.heap.size, 0, none⟩) (kc := cap) HO.out hB rfl (by omega) hbw.os hbw.tape hbw.output hblkx (fun i h3 h4 => ?_) (fun i => ?_) ((hcb _).trans ?_) ((hcb _).trans ?_) (fun c hc => ⟨hc.1, by omega, by omega, fun h => ?_⟩) (hS1.mono fun c hc => ?_) hcp1 (fun nb off e i => ?_) hz1 (fun _ => by omega) (fun _ => rfl) (fun _ h => ?_) (fun _ i => ?_) (fun i hi => ?_) (fun c hc h => ?_) hownk⟩
            · rw [hcb, World.cell?_setCell_other _ _ _ _ (by simp <;> omega), hc3, World.cell?_setCell_other _ _ _ _ (by simp <;> omega)]
              exact hb1.cell (p := ⟨b, i, none⟩) hbz
            · rw [(HO.out.2.2.2.2.1 ⟨pp, b, o, s', n', t', ns', ks'⟩ (by simp)).2.2.2 i, hgr.frozen_far ⟨b, i, none⟩ (by show b < _; omega) hsb, ← HW.out, World.frozen?_setCell]
              exact hf3 i
            · rw [World.cell?_setCell_other _ _ _ _ (by simp), hc3]
              exact World.cell?_setCell_same _ _ _ q3
            · exact World.cell?_setCell_same _ _ _ r4
            · rcases hvb c h with h | h <;> omega
            · rw [hgr.block c (by omega) (by simp; omega), hW2b c (by omega), hgrow.block c (by rw [hW1z]; omega) (by simp [Value.ownBlock])]
              exact Below.heap_setCell _ _ _ _ (by show c ≠ b; omega)
            · have hz := HZ1.out nb off e
              rw [hgr.frozen_far ⟨nb, i, none⟩ (by show nb < _; omega) (by simp; omega), ← HW.out, World.frozen?_setCell, hgrow.frozen_far ⟨nb, i, none⟩ (by show nb < _; rw [hW1z]; omega) (by simp [Value.ownBlock]), World.frozen?_setCell]
              exact hz.2 i
            · rcases hvb _ h with h | h <;> omega
            · rw [hgr.frozen_far ⟨w1.heap.size, i, none⟩ (by show w1.heap.size < _; omega) (by simp; omega), ← HW.out, World.frozen?_setCell]
              rcases hown3.2 with ⟨h, -⟩ | ⟨g', cap', cur', h, -, hh, -⟩
              · simp at h
              · simp only [Value.slice.injEq, Option.some.injEq, Addr.mk.injEq, and_true] at h
                rw [← h.1] at hh
                simp [World.frozen?, hh]
            · have hm : ∀ j, j < 5 → wr.cell? ⟨w1.heap.size, i * 5 + j, none⟩ = some (C i j) := fun j hj => by
                rw [hgc, hown3.cellAt (i * 5 + j) (by omega), List.getElem?_map, List.getElem?_range (by omega)]
                simp only [Option.map_some, show (i * 5 + j) / 5 = i by omega, show (i * 5 + j) % 5 = j by omega]
              exact ⟨_, _, _, _, _, hm 0 (by omega), hm 1 (by omega), hm 2 (by omega), hm 3 (by omega), hm 4 (by omega), (HK.out i hi).under hbw⟩
            · rcases hvb c h with h | h
              · exact h
              · omega

/-- What fits: a value that is not too great. -/
theorem fit_of (x : V) (h : szV x ≤ 1048576) : ∃ f, fit f x := by
  refine v_ind (q := fun x => szV x ≤ 1048576 → ∃ f, fit f x) (fun x ih h => ?_) x h
  have hs := szV_eq x
  have hc := cntV_sz x
  have hn := len_szNs x.names
  have hk : ∀ i, ∃ f, i < x.kids.length → fit f (kth x.kids i) := fun i => by
    by_cases hi : i < x.kids.length
    · have := szV_kth x.kids i hi
      obtain ⟨f, hf⟩ := ih i hi (by omega)
      exact ⟨f, fun _ => hf⟩
    · exact ⟨0, fun h => absurd h hi⟩
  obtain ⟨F, hF⟩ := Classical.skolem.1 hk
  have mono : ∀ (f g : Nat) (y : V), fit f y → f ≤ g → fit g y := by
    intro f
    induction f with
    | zero => intro g y h; exact h.elim
    | succ f ih =>
      intro g y h hg
      match g, hg with
      | g + 1, hg => exact ⟨h.1, h.2.1, fun i hi => ih g _ (h.2.2 i hi) (by omega)⟩
  have hM : ∀ n : Nat, ∃ M, ∀ i, i < n → F i ≤ M := by
    intro n
    induction n with
    | zero => exact ⟨0, fun i hi => by omega⟩
    | succ n ih =>
      obtain ⟨M, hM⟩ := ih
      refine ⟨M + F n, fun i hi => ?_⟩
      by_cases e : i = n
      · subst e; omega
      · have := hM i (by omega); omega
  obtain ⟨M, hM⟩ := hM x.kids.length
  exact ⟨M + 1, by omega, ⟨by omega, by omega⟩, fun i hi => mono (F i) M _ (hF i hi) (hM i hi)⟩
theorem copyValue_l (x : V) (w : World) (B : Nat) (v : Value) (h : szV x ≤ 1048576) (hR : Rep w (· < B) x v) (hB : B ≤ w.heap.size) : CvL x w B v := by
  obtain ⟨f, hf⟩ := fit_of x h
  have hc := cntV_sz x
  obtain ⟨s, n, t, ns, ks⟩ := x
  exact copyValue_lab f s n t ns ks w B v hf (by omega) hR hB
end Go.Proofs.YtbpdchlbhfjddaaGreat

namespace Go.Proofs.YtbpdchlbhfjddaaGreat
set_option linter.unusedSimpArgs false
set_option linter.unusedVariables false
open Go.RowKit

def copyN (x : V) : Nat := 80 + 16 * x.names.length
theorem copyBytes_fn : OwnFn 43 copyN := by
  intro w b o x na ka nc kc h0 h3 h4 h16
  have h := copyBytes_any w b o na ka x.names.length nc x.kids.length kc h3 h4 h16
  have e : ((copyN x : Nat) : Int) = 80 + 16 * (x.names.length : Int) := by unfold copyN; omega
  rw [e]
  exact h
theorem copy_cnt (x : V) : wV copyN x ≤ 80 + 96 * szV x := by
  refine v_ind (q := fun x => wV copyN x ≤ 80 + 96 * szV x) (fun x ih => ?_) x
  have h1 := sums (f := wV copyN) (g := fun k => 80 + 96 * szV k) (F := wL copyN) (G := fun l => 80 * l.length + 96 * sL l) rfl rfl (fun _ _ => by simp [wL]) (fun _ _ => by simp [sL]; omega) x.kids ih
  rw [wV_eq, szV_eq]
  have := len_szNs x.names
  have e : copyN x = 80 + 16 * x.names.length := rfl
  omega
theorem callBytes (args : Array Value) (w : World) : (callFunc 43 args).run Tryz.prog w = .ok (.enter 43 args) w := by kernel_rfl

set_option maxHeartbeats 400000 in
theorem bytesScale_any (w : World) (F : Nat) :
    Calls Tryz.prog 42 #[.func (.func F) #[] #[]] w fun e w' => e = .returned (.agg #[.func (.func F) #[] #[], .int .i64 17179869185, .int .i64 17179869184]) ∧ Below w.heap.size w w' := by
  go_enter Tryz.func42, Tryz.ntmps42
  go_wp2_with fail
  refine bodyPost_ret (v := .agg #[.func (.func F) #[] #[], .int .i64 17179869185, .int .i64 17179869184]) (by simp [results, Tryz.results42, go_sem]) rfl ⟨rfl, below_box _ _⟩

/-- A copier in a block of its own: its scales, and what is left. -/
def Copier (w : World) (g m : Nat) (left : Int) : Prop :=
  w.cell? ⟨g, 0, none⟩ = some (.func (.func 43) #[] #[]) ∧ w.cell? ⟨g, 1, none⟩ = some (.int .i64 17179869185) ∧ w.cell? ⟨g, 2, none⟩ = some (.int .i64 17179869184) ∧ w.cell? ⟨g, 3, none⟩ = some (.map (some m)) ∧ w.cell? ⟨g, 4, none⟩ = some (.int .i64 left) ∧ w.frozen? ⟨g, 4, none⟩ = false

set_option maxHeartbeats 400000 in
theorem newCopier_any (w : World) :
    Calls Tryz.prog 22 #[] w fun e w' => ∃ g m, e = .returned (.pointer (some ⟨g, 0, none⟩)) ∧ w.heap.size ≤ g ∧ g < w'.heap.size ∧ w.heap.size ≤ m ∧ m < w'.heap.size ∧ m ≠ g ∧ Copier w' g m 17179869184 ∧ OwnsK w' (fun _ => False) m (fun _ => none) ∧ Below w.heap.size w w' := by
  go_enter Tryz.func22, Tryz.ntmps22
  go_wp2_with fail
  refine (bytesScale_any w 43).mono ?_
  rintro e w1 ⟨rfl, hb1⟩
  go_wp2_with fail
  refine (scalesOf_any w1 43 _ _).mono ?_
  rintro e w2 ⟨m, rfl, hm1, hm2, hO, hb2⟩
  unfold scalesV
  go_wp2_with fail
  have z1 := hb1.size
  have z2 := hb2.size
  go_ret
  refine ⟨w2.heap.size, m, rfl, by omega, by simp, by omega, by simp; omega, by omega, ?_, hO.of_block ((below_box w2 _).block m hm2), (hb1.trans (hb2.mono (by omega))).trans ((below_box w2 _).mono (by omega))⟩
  refine ⟨by simp, by simp, by simp, by simp, by simp, by simp only [World.frozen?, heap_alloc_new]; simp⟩

theorem grown_undrew {a b : World} {m : Option Nat} (h : a.drew.grownBy b m) : a.grownBy b m := ⟨h.os, h.tape, h.output, h.size, h.block⟩

set_option maxRecDepth 20000 in
set_option maxHeartbeats 800000 in
theorem copier_any (x : V) (w : World) (B : Nat) (v : Value) (g m : Nat) (hs : szV x ≤ 1048576) (hR : Rep w (fun b => b < B ∧ Apart w b) x v) (hB : B ≤ g) (hBm : B ≤ m) (hgm : m ≠ g) (hg : g < w.heap.size) (hC : Copier w g m 17179869184) (hO : OwnsK w (fun _ => False) m (fun _ => none)) :
    Calls Tryz.prog 23 #[.pointer (some ⟨g, 0, none⟩), v] w fun e w' => ∃ (n : Nat) (na ka : Option Addr) (nc kc : Nat), B ≤ n ∧ e = .returned (.tuple #[.agg #[.int .i64 x.sort, .int .i64 x.num, .string x.text, .slice na x.names.length nc, .slice ka x.kids.length kc], .bool true]) ∧ Below B w w' ∧
    Rep w' (fun b => n ≤ b ∧ b < w'.heap.size) x (.agg #[.int .i64 x.sort, .int .i64 x.num, .string x.text, .slice na x.names.length nc, .slice ka x.kids.length kc]) ∧
    ∃ lab : Nat → List Nat, (∀ b, lab b ≠ [] → n ≤ b ∧ b < w'.heap.size) ∧ LRep w' lab [] x (.agg #[.int .i64 x.sort, .int .i64 x.num, .string x.text, .slice na x.names.length nc, .slice ka x.kids.length kc]) := by
  obtain ⟨p0, p1, p2, p3, p4, pf⟩ := hC
  obtain ⟨na0, ka0, nc0, kc0, rfl, -⟩ := hR.form
  have hw := copy_cnt x
  have hc := cntV_sz x
  go_enter Tryz.func23, Tryz.ntmps23
  go_wp2_with fail
  obtain ⟨O, hOO⟩ : ∃ O, O = Obj.cells #[.int .i64 x.sort, .int .i64 x.num, .string x.text, .slice na0 x.names.length nc0, .slice ka0 x.kids.length kc0] 58 := ⟨_, rfl⟩
  rw [← hOO]
  obtain ⟨O2, hO2⟩ : ∃ O, O = Obj.cells #[.int .i64 0, .int .i64 0, .string ⟨#[]⟩, .slice none 0 0, .slice none 0 0] 58 := ⟨_, rfl⟩
  rw [← hO2]
  have hBX := below_box2 w O O2
  have r0 : ((w.alloc O).alloc O2).cell? ⟨w.heap.size, 0, none⟩ = some (.int .i64 x.sort) := by subst hOO; simp
  have r1 : ((w.alloc O).alloc O2).cell? ⟨w.heap.size, 1, none⟩ = some (.int .i64 x.num) := by subst hOO; simp
  have r2 : ((w.alloc O).alloc O2).cell? ⟨w.heap.size, 2, none⟩ = some (.string x.text) := by subst hOO; simp
  have r3 : ((w.alloc O).alloc O2).cell? ⟨w.heap.size, 3, none⟩ = some (.slice na0 x.names.length nc0) := by subst hOO; simp
  have r4 : ((w.alloc O).alloc O2).cell? ⟨w.heap.size, 4, none⟩ = some (.slice ka0 x.kids.length kc0) := by subst hOO; simp
  have rw5 : Row5 ((w.alloc O).alloc O2) (w.heap.size + 1) (.int .i64 0) (.int .i64 0) (.string ⟨#[]⟩) (.slice none 0 0) (.slice none 0 0) := by subst hO2; have := Row5.new (w.alloc O) (.int .i64 0) (.int .i64 0) (.string ⟨#[]⟩) (.slice none 0 0) (.slice none 0 0); simpa using this
  have zA : ((w.alloc O).alloc O2).heap.size = w.heap.size + 1 + 1 := by simp
  generalize hwA : (w.alloc O).alloc O2 = wA at *
  have hkeep : ∀ k, k < w.heap.size → wA.heap[k]? = w.heap[k]? := fun k hk => hBX.block k hk
  have hW : ∀ W, Below wA.heap.size wA W → Calls Tryz.prog 44 #[scalesV 43 17179869185 17179869184 m, _] W _ := fun W hb =>
    weigh_any 43 copyN copyBytes_fn callBytes x W (fun b => b < B ∧ Apart w b) _ 17179869185 17179869184 m (fun _ => none) (hR.mono fun k hk => (hb.block k (by omega)).trans (hkeep k (by omega))) (fun b hb' => ⟨by have := hb.size; omega, hb'.2.of_block ((hb.block b (by omega)).trans (hkeep b (by omega)))⟩) ((hO.of_block ((hb.block m (by have := hO.lt; omega)).trans (hkeep m hO.lt))).widen fun _ h => h.elim) (fun b o n v h => by cases h) (by omega) (by omega) (by omega)
  have HW := hid_of hW
  clear hW
  have q0 := (hBX.cell (p := ⟨g, 0, none⟩) hg).trans p0
  have q1 := (hBX.cell (p := ⟨g, 1, none⟩) hg).trans p1
  have q2 := (hBX.cell (p := ⟨g, 2, none⟩) hg).trans p2
  have q3 := (hBX.cell (p := ⟨g, 3, none⟩) hg).trans p3
  have q4 := (hBX.cell (p := ⟨g, 4, none⟩) hg).trans p4
  have qf : wA.frozen? ⟨g, 4, none⟩ = false := by rw [← pf]; simp only [World.frozen?, hkeep g hg]
  clear p0 p1 p2 p3 p4 pf hwA
  go_cut [6, 7] (fun a b wx => a = .int .i64 (wV copyN x : Nat) ∧ b = .bool true ∧ wA.grownBy wx (some m))
  case first =>
    go_region_with (first
      | (
        go_at_call 44
        refine (HW.out _ (Below.refl _ _).drew).mono ?_
        rintro e w2 ⟨rfl, -, hg2⟩
        have hg2' := grown_undrew hg2
        clear hg2))
    all_goals
      go_wp2_with fail
      go_meet
      case rel => exact ⟨rfl, rfl, hg2'⟩
  case rest =>
  obtain ⟨rfl, rfl, hg2⟩ := hcut
  have z2 := hg2.size
  have s0 := (hg2.cell_far ⟨w.heap.size, 0, none⟩ (by show w.heap.size < _; omega) (by have := hO.lt; simp; omega)).trans r0
  have s1 := (hg2.cell_far ⟨w.heap.size, 1, none⟩ (by show w.heap.size < _; omega) (by have := hO.lt; simp; omega)).trans r1
  have s2 := (hg2.cell_far ⟨w.heap.size, 2, none⟩ (by show w.heap.size < _; omega) (by have := hO.lt; simp; omega)).trans r2
  have s3 := (hg2.cell_far ⟨w.heap.size, 3, none⟩ (by show w.heap.size < _; omega) (by have := hO.lt; simp; omega)).trans r3
  have s4 := (hg2.cell_far ⟨w.heap.size, 4, none⟩ (by show w.heap.size < _; omega) (by have := hO.lt; simp; omega)).trans r4
  have t4 := (hg2.cell_far ⟨g, 4, none⟩ (by show g < _; omega) (by simp; omega)).trans q4
  have tf : wc.frozen? ⟨g, 4, none⟩ = false := by rw [← qf]; simp only [World.frozen?, hg2.block g (by omega) (by simp; omega)]
  go_wp2_with fail
  have bd : Below B w (wc.setCell ⟨g, 4, none⟩ (.int .i64 (17179869184 - (wV copyN x : Nat)))) := ((hBX.mono (by omega)).grown hg2 (by omega) (fun k hk => by cases hk; omega)).setCell (p := ⟨g, 4, none⟩) hB _
  have zd : (wc.setCell ⟨g, 4, none⟩ (.int .i64 (17179869184 - (wV copyN x : Nat)))).heap.size = wc.heap.size := by simp [World.setCell]
  have rd : Row5 (wc.setCell ⟨g, 4, none⟩ (.int .i64 (17179869184 - (wV copyN x : Nat)))) (w.heap.size + 1) (.int .i64 0) (.int .i64 0) (.string ⟨#[]⟩) (.slice none 0 0) (.slice none 0 0) := rw5.of_block ((Below.heap_setCell _ _ _ _ (by show w.heap.size + 1 ≠ g; omega)).trans (hg2.block _ (by omega) (by have := hO.lt; simp; omega)))
  clear hg2 s0 s1 s2 s3 s4 t4 tf q0 q1 q2 q3 q4 qf r0 r1 r2 r3 r4 rw5 HW
  generalize wc.setCell ⟨g, 4, none⟩ (.int .i64 (17179869184 - (wV copyN x : Nat))) = wd at *
  refine (copyValue_l x wd B _ hs ((hR.sub fun k hk => hk.1).under bd) (by omega)).mono ?_
  rintro e w3 ⟨na, ka, nc, kc, rfl, hb3, hr3, lab, hl1, hl2⟩
  have z3 := hb3.size
  have r3 := rd.of_block (hb3.block _ (by omega))
  obtain ⟨l0, l1, l2, l3, l4⟩ := r3.five
  have hlf := r3.frozen
  have HR := hid_of (And.intro hr3 (And.intro hl1 hl2))
  clear hr3 hl1 hl2
  go_wp2_with fail
  have hfin := r3.put (.int .i64 x.sort) (.int .i64 x.num) (.string x.text) (.slice na x.names.length nc) (.slice ka x.kids.length kc)
  have hsz := put5_size w3 (w.heap.size + 1) 0 (.int .i64 x.sort) (.int .i64 x.num) (.string x.text) (.slice na x.names.length nc) (.slice ka x.kids.length kc)
  have hblk := put5_block w3 (w.heap.size + 1) 0 (.int .i64 x.sort) (.int .i64 x.num) (.string x.text) (.slice na x.names.length nc) (.slice ka x.kids.length kc)
  obtain ⟨hr3, hl1, hl2⟩ := HR.out
  refine bodyPost_ret (v := .tuple #[.agg #[.int .i64 x.sort, .int .i64 x.num, .string x.text, .slice na x.names.length nc, .slice ka x.kids.length kc], .bool true]) ?res rfl ⟨wd.heap.size, na, ka, nc, kc, by omega, rfl, put5_below (bd.trans (hb3.mono (by omega))) (by omega) _ _ _ _ _ _, (hr3.mono fun k hk => hblk k (by omega)).sub fun k hk => ⟨hk.1, Nat.lt_of_lt_of_eq hk.2 hsz.symm⟩, lab, fun b hb => ⟨(hl1 b hb).1, Nat.lt_of_lt_of_eq (hl1 b hb).2 hsz.symm⟩, hl2.keep fun b hb _ => hblk b (by have := hl1 b hb; omega)⟩
  case res =>
    obtain ⟨p0, p1, p2, p3, p4⟩ := hfin.five
    simp only [put5] at p0 p1 p2 p3 p4
    clear hfin hblk hsz r3 hr3 hl1 hl2
    simp [results, Tryz.results23, go_sem, p0, p1, p2, p3, p4]
end Go.Proofs.YtbpdchlbhfjddaaGreat
