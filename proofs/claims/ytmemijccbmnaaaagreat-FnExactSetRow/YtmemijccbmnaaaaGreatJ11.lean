import Derived.Test.YtmemijccbmnaaaaGreatJ10
import Derived.Test.YtmemijccbmnaaaaGreatIFind
namespace Go.Proofs.YtmemijccbmnaaaaGreat
set_option linter.unusedSimpArgs false
set_option linter.unusedVariables false
open Go.RowKit

theorem hidM {q : Prop} (h : q) : Hid q := h
def MkOk (x : V) : Prop := ∀ (lab : Nat → List Nat) (p : List Nat) (ka : Option Addr) (kc k : Nat) (w : World), LKids w lab p x.kids ka → (∀ c, lab c ≠ [] → c < w.heap.size) → k + nL x.kids ≤ 1000000000000 → szV x ≤ 1048576 →
  Calls Tryz.prog 70 #[.slice ka x.kids.length kc, .int .i64 k] w fun e w' => e = .returned (.int .i64 ((k + nL x.kids : Nat) : Int)) ∧ Only (Sk lab p) w w' ∧ LKids w' lab p (mkL x.kids k) ka

set_option maxRecDepth 20000 in
set_option maxHeartbeats 1600000 in
theorem markValueS_step (x : V) (IH : ∀ i, i < x.kids.length → MkOk (kth x.kids i)) : MkOk x := by
  intro lab p ka kc k w hK hlab hk hsz
  obtain ⟨s, n, t, ns, ks⟩ := x
  simp only at IH hK hk ⊢
  obtain ⟨b, off, C, hb, hc, hr⟩ := hK
  have hsz2 : ks.length + sL ks ≤ 1048576 := by have := szV_eq (.mk s n t ns ks); simp only at this; omega
  go_enter Tryz.func70, Tryz.ntmps70
  go_wp2_with fail
  go_loopw [1, 5] (fun kk i wr => ∃ j : Nat, j ≤ ks.length ∧ i = .int .i64 j ∧ kk = .int .i64 ((k + nL (ks.take j) : Nat) : Int) ∧ Only (Sk lab p) w wr ∧ (ks ≠ [] → LRow wr lab p ks.length (fun i => if i < j then mk1 (kth ks i) (k + nL (ks.take i)) else kth ks i) b off)) (fun _ i _ => ks.length - (intOf i).toNat)
  case atStart => exact ⟨0, Nat.zero_le _, rfl, by simp [nL], Only.refl _ _, fun _ => ⟨C, hc, fun i hi => by simpa using hr i hi⟩⟩
  case round =>
    obtain ⟨j, hj, rfl, rfl, hO, hL⟩ := hrel
    by_cases hlt : j < ks.length
    · have hne : ks ≠ [] := by intro e; simp [e] at hlt
      obtain ⟨rfl, hlb, hfz⟩ := hb hne
      have hLr := hL hne
      obtain ⟨C', hc', hr'⟩ := id hLr
      have hrj := hr' j hlt
      simp only [Nat.lt_irrefl, if_false] at hrj
      obtain ⟨na, ka', nc, kc', ev, hN, hKj⟩ := hrj.inv
      simp only [Value.agg.injEq, Array.mk.injEq, List.cons.injEq, and_true] at ev
      obtain ⟨e0, e1, e2, e3, e4⟩ := ev
      have p0 := hc' j hlt 0 (by omega)
      have p1 := hc' j hlt 1 (by omega)
      have p2 := hc' j hlt 2 (by omega)
      have p3 := hc' j hlt 3 (by omega)
      have p4 := hc' j hlt 4 (by omega)
      rw [e0, Nat.add_zero] at p0
      rw [e1] at p1
      rw [e2] at p2
      rw [e3] at p3
      rw [e4] at p4
      have hji : (j : Int) < (ks.length : Int) := by omega
      have hbl : b < w.heap.size := hlab b (by rw [hlb]; simp)
      have hz := hO.size
      have hfw : ∀ i, wr.frozen? ⟨b, i, none⟩ = false := fun i => (hO.frozen ⟨b, i, none⟩ hbl).trans (hfz i)
      have f0 := hfw (off + j * 5)
      have f1 := hfw (off + j * 5 + 1)
      have f2 := hfw (off + j * 5 + 2)
      obtain ⟨q, hq⟩ : ∃ q, q = k + nL (ks.take j) := ⟨_, rfl⟩
      have hnt := nL_take ks j hlt
      have hnp := nL_part ks (j + 1)
      have hnv := nV_eq (kth ks j)
      have hszj : szV (kth ks j) ≤ 1048576 := by have := szV_kth ks j hlt; omega
      have hnl : (kth ks j).names.length ≤ 1048576 := by have := len_szNs (kth ks j).names; have := szV_eq (kth ks j); omega
      rw [← hq]
      have hqb : q + 3 + nV (kth ks j) ≤ 1000000000000 := by omega
      have hqi : (q : Int) ≤ 1000000000000 := by omega
      have HQ : Hid (q = k + nL (ks.take j)) := hq
      have HNT : Hid (nL (ks.take (j + 1)) = nL (ks.take j) + (3 + nV (kth ks j))) := hnt
      have HLR : Hid (LRow wr lab p ks.length (fun i => if i < j then mk1 (kth ks i) (k + nL (ks.take i)) else kth ks i) b off) := hLr
      obtain ⟨w0, rfl⟩ : ∃ y, y = wr := ⟨wr, rfl⟩
      clear hL hc' hr' hq hnt hfw hrj hLr e0 e1 e2 e3 e4
      have hW1o : Only (fun c => c = b ∨ lab c = 0 :: (j + 2) :: p ∨ Sk lab ((j + 2) :: p) c) w0 ((w0.setCell ⟨b, off + j * 5, none⟩ (.int .i64 q)).setCell ⟨b, off + j * 5 + 1, none⟩ (.int .i64 ((q : Int) + 1))) := (Only.set _ _ (Or.inl rfl)).trans (Only.set _ _ (Or.inl rfl))
      have hW1c : ∀ m, ¬ (off + j * 5 ≤ m ∧ m < off + j * 5 + 3) → ((w0.setCell ⟨b, off + j * 5, none⟩ (.int .i64 q)).setCell ⟨b, off + j * 5 + 1, none⟩ (.int .i64 ((q : Int) + 1))).cell? ⟨b, m, none⟩ = w0.cell? ⟨b, m, none⟩ := fun m hm => by
        rw [World.cell?_setCell_other _ _ _ _ (by intro e; simp only [Addr.mk.injEq, and_true, true_and] at e; omega), World.cell?_setCell_other _ _ _ _ (by intro e; simp only [Addr.mk.injEq, and_true, true_and] at e; omega)]
      have t0 : ((w0.setCell ⟨b, off + j * 5, none⟩ (.int .i64 q)).setCell ⟨b, off + j * 5 + 1, none⟩ (.int .i64 ((q : Int) + 1))).cell? ⟨b, off + j * 5, none⟩ = some (.int .i64 q) := by
        rw [World.cell?_setCell_other _ _ _ _ (by intro e; simp only [Addr.mk.injEq, and_true, true_and] at e; omega)]
        exact World.cell?_setCell_same _ _ _ p0
      have t1 : ((w0.setCell ⟨b, off + j * 5, none⟩ (.int .i64 q)).setCell ⟨b, off + j * 5 + 1, none⟩ (.int .i64 ((q : Int) + 1))).cell? ⟨b, off + j * 5 + 1, none⟩ = some (.int .i64 ((q : Int) + 1)) :=
        World.cell?_setCell_same _ _ _ ((World.cell?_setCell_other _ _ _ _ (by intro e; simp only [Addr.mk.injEq, and_true, true_and] at e; omega)).trans p1)
      have t2 : ((w0.setCell ⟨b, off + j * 5, none⟩ (.int .i64 q)).setCell ⟨b, off + j * 5 + 1, none⟩ (.int .i64 ((q : Int) + 1))).cell? ⟨b, off + j * 5 + 2, none⟩ = some (.string (kth ks j).text) := by
        rw [World.cell?_setCell_other _ _ _ _ (by intro e; simp only [Addr.mk.injEq, and_true, true_and] at e; omega), World.cell?_setCell_other _ _ _ _ (by intro e; simp only [Addr.mk.injEq, and_true, true_and] at e; omega)]
        exact p2
      have hzW : ((w0.setCell ⟨b, off + j * 5, none⟩ (.int .i64 q)).setCell ⟨b, off + j * 5 + 1, none⟩ (.int .i64 ((q : Int) + 1))).heap.size = w0.heap.size := by rw [size_set, size_set]
      have hM := markText_any (q + 2) ((w0.setCell ⟨b, off + j * 5, none⟩ (.int .i64 q)).setCell ⟨b, off + j * 5 + 1, none⟩ (.int .i64 ((q : Int) + 1))) (by omega)
      rw [show ((q + 2 : Nat) : Int) = (q : Int) + 1 + 1 by omega] at hM
      obtain ⟨W1, hW1⟩ : ∃ W1, W1 = (w0.setCell ⟨b, off + j * 5, none⟩ (.int .i64 q)).setCell ⟨b, off + j * 5 + 1, none⟩ (.int .i64 ((q : Int) + 1)) := ⟨_, rfl⟩
      rw [← hW1] at hW1o hW1c t0 t1 t2 hzW hM
      have HO1 := hidM hW1o
      have HC1 := hidM hW1c
      have HT := hidM (And.intro t0 t1)
      have HMM := hidM hM
      have HW1 : Hid (W1 = (w0.setCell ⟨b, off + j * 5, none⟩ (.int .i64 q)).setCell ⟨b, off + j * 5 + 1, none⟩ (.int .i64 ((q : Int) + 1))) := hW1
      clear hW1o hW1c t0 t1 hM hW1
      go_wp2_with fail
      rw [← HW1.out]
      refine HMM.out.mono ?_
      rintro e w1 ⟨rfl, hb1⟩
      have z1 := hb1.size
      have hlw : b < W1.heap.size := by omega
      have u2 : w1.cell? ⟨b, off + j * 5 + 2, none⟩ = some (.string (kth ks j).text) := (hb1.cell (p := ⟨b, off + j * 5 + 2, none⟩) hlw).trans t2
      have u3 : w1.cell? ⟨b, off + j * 5 + 3, none⟩ = some (.slice na (kth ks j).names.length nc) := (hb1.cell (p := ⟨b, off + j * 5 + 3, none⟩) hlw).trans ((HC1.out _ (by omega)).trans p3)
      have g2 : w1.frozen? ⟨b, off + j * 5 + 2, none⟩ = false := (hb1.frozen (p := ⟨b, off + j * 5 + 2, none⟩) hlw).trans ((HO1.out.frozen ⟨b, off + j * 5 + 2, none⟩ (by show b < _; omega)).trans f2)
      clear t2 f0 f1 f2 p0 p1 p2
      have hlabW : ∀ c, lab c ≠ [] → c < w0.heap.size := fun c hc => by have := hlab c hc; omega
      have hOw1 : Only (fun c => c = b ∨ lab c = 0 :: (j + 2) :: p ∨ Sk lab ((j + 2) :: p) c) w0 w1 := HO1.out.trans (Only.of_below _ hb1)
      obtain ⟨W2, hW2⟩ : ∃ W2, W2 = w1.setCell ⟨b, off + j * 5 + 2, none⟩ (.string (mtext (q + 2))) := ⟨_, rfl⟩
      have hO2 : Only (fun c => c = b ∨ lab c = 0 :: (j + 2) :: p ∨ Sk lab ((j + 2) :: p) c) w0 W2 := by rw [hW2]; exact hOw1.trans (Only.set _ _ (Or.inl rfl))
      have hkeep2 : ∀ c, lab c ≠ [] → ((j + 2) :: p) <:+ lab c → W2.heap[c]? = w0.heap[c]? := fun c h1 h2 => by
        have hcb : c ≠ b := fun e => by
          rw [e, hlb] at h2
          have := same_len h2 (List.suffix_refl _) rfl
          omega
        rw [hW2, Below.heap_setCell _ _ _ _ (by show c ≠ b; exact hcb), hb1.block c (by have := hlabW c h1; omega), HW1.out, Below.heap_setCell _ _ _ _ (by show c ≠ b; exact hcb), Below.heap_setCell _ _ _ _ (by show c ≠ b; exact hcb)]
      have hz2 : W2.heap.size = w1.heap.size := by rw [hW2, size_set]
      have hMN := markNames_l lab ((j + 2) :: p) (kth ks j).names na nc (q + 3) W2 (hN.keep hkeep2) hnl (by omega)
      rw [show ((q + 3 : Nat) : Int) = (q : Int) + 1 + 1 + 1 by omega] at hMN
      have v0 : W2.cell? ⟨b, off + j * 5, none⟩ = some (.int .i64 q) := by rw [hW2, World.cell?_setCell_other _ _ _ _ (by intro e; simp only [Addr.mk.injEq, and_true, true_and] at e; omega)]; exact (hb1.cell (p := ⟨b, off + j * 5, none⟩) hlw).trans HT.out.1
      have v1 : W2.cell? ⟨b, off + j * 5 + 1, none⟩ = some (.int .i64 ((q : Int) + 1)) := by rw [hW2, World.cell?_setCell_other _ _ _ _ (by intro e; simp only [Addr.mk.injEq, and_true, true_and] at e; omega)]; exact (hb1.cell (p := ⟨b, off + j * 5 + 1, none⟩) hlw).trans HT.out.2
      have v2 : W2.cell? ⟨b, off + j * 5 + 2, none⟩ = some (.string (mtext (q + 2))) := by rw [hW2]; exact World.cell?_setCell_same _ _ _ u2
      have vm : ∀ m, ¬ (off + j * 5 ≤ m ∧ m < off + j * 5 + 3) → W2.cell? ⟨b, m, none⟩ = w0.cell? ⟨b, m, none⟩ := fun m hm => by
        rw [hW2, World.cell?_setCell_other _ _ _ _ (by intro e; simp only [Addr.mk.injEq, and_true, true_and] at e; omega)]
        exact (hb1.cell (p := ⟨b, m, none⟩) hlw).trans (HC1.out m hm)
      have HMN := hidM hMN
      have HV := hidM (And.intro v0 (And.intro v1 (And.intro v2 vm)))
      have HO2 := hidM hO2
      have HK2 := hidM hkeep2
      have HW2 : Hid (W2 = w1.setCell ⟨b, off + j * 5 + 2, none⟩ (.string (mtext (q + 2)))) := hW2
      clear hMN v0 v1 v2 vm hO2 hkeep2 hW2 hOw1 HO1 HC1 HT HMM
      go_wp2_with fail
      rw [← HW2.out]
      refine HMN.out.mono ?_
      rintro e w3 ⟨rfl, hO3, hN3⟩
      have z3 := hO3.size
      have hb3 : w3.heap[b]? = W2.heap[b]? := hO3.block b (by omega) (by rw [hlb]; simp)
      have x4 : w3.cell? ⟨b, off + j * 5 + 4, none⟩ = some (.slice ka' (kth ks j).kids.length kc') := (World.cell?_of_block (w := W2) (a := ⟨b, off + j * 5 + 4, none⟩) hb3).trans ((HV.out.2.2.2 _ (by omega)).trans p4)
      have hK3 : LKids w3 lab ((j + 2) :: p) (kth ks j).kids ka' := by
        obtain ⟨b', off', C2, k1, k2, k3⟩ := hKj
        have hlb' : (kth ks j).kids ≠ [] → w3.heap[b']? = w0.heap[b']? := fun hn => by
          have hl := (k1 hn).2.1
          rw [hO3.block b' (by have := hlabW b' (by rw [hl]; simp); omega) (by rw [hl]; simp)]
          exact HK2.out b' (by rw [hl]; simp) (by rw [hl]; exact List.suffix_cons _ _)
        refine ⟨b', off', C2, fun hn => ⟨(k1 hn).1, (k1 hn).2.1, fun i => (World.frozen?_of_block (w := w0) (a := ⟨b', i, none⟩) (hlb' hn)).trans ((k1 hn).2.2 i)⟩, fun i hi m hm => (World.cell?_of_block (w := w0) (a := ⟨b', off' + i * 5 + m, none⟩) (hlb' (by intro e; simp [e] at hi))).trans (k2 i hi m hm), fun i hi => (k3 i hi).keep fun c h1 h2 => ?_⟩
        rw [hO3.block c (by have := hlabW c h1; omega) (fun e => ?_)]
        · exact HK2.out c h1 (suffix_cons h2)
        · rw [e] at h2
          have := same_len h2 (List.suffix_refl _) rfl
          omega
      have hIH := IH j hlt lab ((j + 2) :: p) ka' kc' (q + 3 + (kth ks j).names.length) w3 hK3 (fun c hc => by have := hlabW c hc; omega) (by omega) hszj
      rw [show ((q + 3 + (kth ks j).names.length : Nat) : Int) = (q : Int) + 3 + ((kth ks j).names.length : Int) by omega] at hIH
      have HIH := hidM hIH
      have HN3 := hidM hN3
      clear hIH hN3 hKj hN u2 u3 g2
      go_wp2_with fail
      refine HIH.out.mono ?_
      rintro e w4 ⟨rfl, hO4, hK4⟩
      go_wp2_with fail
      go_roundw
      case measure => simp [intOf]; omega
      case rel =>
        have hb4 : w4.heap[b]? = W2.heap[b]? := (hO4.block b (by omega) (fun h => by
          rcases h with h | ⟨i, h⟩
          · rw [hlb] at h; simp at h
          · rw [hlb] at h
            have := List.IsSuffix.length_le h
            simp only [List.length_cons] at this
            omega)).trans hb3
        have hcl : ∀ m, w4.cell? ⟨b, m, none⟩ = W2.cell? ⟨b, m, none⟩ := fun m => World.cell?_of_block (w := W2) (a := ⟨b, m, none⟩) hb4
        have hOx : Only (fun c => c = b ∨ lab c = 0 :: (j + 2) :: p ∨ Sk lab ((j + 2) :: p) c) w0 w4 := (HO2.out.trans (hO3.wider fun c h => Or.inr (Or.inl h))).trans (hO4.wider fun c h => Or.inr (Or.inr h))
        have hN4 : LStrs w4 lab ((j + 2) :: p) (mkNs (kth ks j).names.length (q + 3)) na := fun hne => by
          obtain ⟨nb, no, n1, n2, n3, n4⟩ := HN3.out hne
          have hbb : w4.heap[nb]? = w3.heap[nb]? := hO4.block nb (by have := hlabW nb (by rw [n2]; simp); omega) (Sk.zero n2)
          exact ⟨nb, no, n1, n2, fun i => (World.frozen?_of_block (w := w3) (a := ⟨nb, i, none⟩) hbb).trans (n3 i), fun i hi => (World.cell?_of_block (w := w3) (a := ⟨nb, no + i, none⟩) hbb).trans (n4 i hi)⟩
        have hy : LRep w4 lab ((j + 2) :: p) (mk1 (kth ks j) q) (.agg #[.int .i64 q, .int .i64 ((q : Int) + 1), .string (mtext (q + 2)), .slice na (kth ks j).names.length nc, .slice ka' (kth ks j).kids.length kc']) := by
          have h := LRep.of_kids (s := (q : Int)) (n := ((q + 1 : Nat) : Int)) (t := mtext (q + 2)) (nc := nc) (kc := kc') hN4 hK4
          rw [mkNs_len, mkL_len] at h
          exact h
        have hrow := HLR.out.mark (y := mk1 (kth ks j) q) hlt hlb hlabW hOx (fun m hm => (hcl m).trans (HV.out.2.2.2 m hm)) ((hcl _).trans HV.out.1) ((hcl _).trans HV.out.2.1) ((hcl _).trans HV.out.2.2.1) ((hcl _).trans ((HV.out.2.2.2 _ (by omega)).trans p3)) ((hcl _).trans ((HV.out.2.2.2 _ (by omega)).trans p4)) hy
        refine ⟨j + 1, by omega, by go_num, ?_, hO.trans (hOx.wider fun c h => ?_), fun _ => ?_⟩
        · have h1 := HNT.out
          have h2 := HQ.out
          congr 1
          omega
        · rcases h with h | h | h
          · rw [h]; exact Or.inl hlb
          · exact Or.inr ⟨j, by rw [h]; exact List.suffix_cons _ _⟩
          · exact h.up
        · obtain ⟨C3, r1, r2⟩ := hrow
          refine ⟨C3, r1, fun i hi => ?_⟩
          show LRep w4 lab ((i + 2) :: p) (if i < j + 1 then mk1 (kth ks i) (k + nL (ks.take i)) else kth ks i) _
          have := r2 i hi
          by_cases e1 : i = j
          · subst e1
            simp only [if_pos, Nat.lt_succ_self] at this ⊢
            rw [← HQ.out]; exact this
          · simp only [if_neg e1] at this
            by_cases e2 : i < j
            · rw [if_pos (by omega)]; rw [if_pos e2] at this; exact this
            · rw [if_neg (by omega)]; rw [if_neg e2] at this; exact this
    · go_wp2_with fail
      go_ret
      have e : j = ks.length := by omega
      subst e
      by_cases hne : ks = []
      · subst hne
        exact ⟨by simp [nL], hO, 0, 0, fun _ _ => undef, fun h => absurd (by simp [mkL]) h, fun i hi => by simp [mkL] at hi, fun i hi => by simp [mkL] at hi⟩
      · obtain ⟨C3, r1, r2⟩ := hL hne
        obtain ⟨h1, h2, h3⟩ := hb hne
        refine ⟨by rw [List.take_length]; rfl, hO, b, off, C3, fun _ => ⟨h1, h2, fun i => (hO.frozen ⟨b, i, none⟩ (hlab b (by rw [h2]; simp))).trans (h3 i)⟩, fun i hi => ?_, fun i hi => ?_⟩
        · rw [mkL_len] at hi; exact r1 i hi
        · rw [mkL_len] at hi
          have : LRep wr lab ((i + 2) :: p) (if i < ks.length then mk1 (kth ks i) (k + nL (ks.take i)) else kth ks i) _ := r2 i hi
          rw [if_pos hi] at this
          rw [mkL_kth ks k i hi]; exact this
theorem markValueS_l (x : V) : MkOk x := v_ind (q := MkOk) markValueS_step x
end Go.Proofs.YtmemijccbmnaaaaGreat

namespace Go.Proofs.YtmemijccbmnaaaaGreat
set_option linter.unusedSimpArgs false
set_option linter.unusedVariables false
open Go.RowKit

theorem GRow.congr {w : World} {sz n b off : Nat} {E E' : World → Nat → (Nat → Value) → Prop} (h : GRow w sz n b off E) (e : ∀ i c, i < n → E w i c → E' w i c) : GRow w sz n b off E' := by
  obtain ⟨C, h1, h2⟩ := h
  exact ⟨C, h1, fun i hi => e i _ hi (h2 i hi)⟩
/-- How many marks cells and rows take. -/
def nCs (cs : List Ce) : Nat := (cs.map fun c => 4 + nV c.val).sum
def nRs (rs : List Ro) : Nat := (rs.map fun r => 2 + nCs r.cells).sum
theorem nCs_take (cs : List Ce) (j : Nat) (h : j < cs.length) : nCs (cs.take (j + 1)) = nCs (cs.take j) + (4 + nV (cth cs j).val) := sum_take (fun c : Ce => 4 + nV c.val) Ce.zero cs j h
theorem nCs_part (cs : List Ce) (j : Nat) : nCs (cs.take j) ≤ nCs cs := sum_part (fun c : Ce => 4 + nV c.val) cs j
theorem nRs_take (rs : List Ro) (j : Nat) (h : j < rs.length) : nRs (rs.take (j + 1)) = nRs (rs.take j) + (2 + nCs (rth rs j).cells) := sum_take (fun r : Ro => 2 + nCs r.cells) Ro.zero rs j h
theorem nRs_part (rs : List Ro) (j : Nat) : nRs (rs.take j) ≤ nRs rs := sum_part (fun r : Ro => 2 + nCs r.cells) rs j
/-- Cells and rows as they are when they are marked, from k on. -/
def mkCe (c : Ce) (k : Nat) : Ce := ⟨mtext k, mk1 c.val (k + 1)⟩
def mkCs (cs : List Ce) (k : Nat) : List Ce := (List.range cs.length).map fun i => mkCe (cth cs i) (k + nCs (cs.take i))
theorem mkCs_len (cs : List Ce) (k : Nat) : (mkCs cs k).length = cs.length := by simp [mkCs]
theorem mkCs_at (cs : List Ce) (k i : Nat) (h : i < cs.length) : cth (mkCs cs k) i = mkCe (cth cs i) (k + nCs (cs.take i)) := by simp [cth, mkCs, List.getD_eq_getElem?_getD, List.getElem?_map, List.getElem?_range h]
def mkRo (r : Ro) (k : Nat) : Ro := ⟨mtext k, ((k + 1 : Nat) : Int), mkCs r.cells (k + 2)⟩
def mkRs (rs : List Ro) (k : Nat) : List Ro := (List.range rs.length).map fun i => mkRo (rth rs i) (k + nRs (rs.take i))
theorem mkRs_len (rs : List Ro) (k : Nat) : (mkRs rs k).length = rs.length := by simp [mkRs]
theorem mkRs_at (rs : List Ro) (k i : Nat) (h : i < rs.length) : rth (mkRs rs k) i = mkRo (rth rs i) (k + nRs (rs.take i)) := by simp [rth, mkRs, List.getD_eq_getElem?_getD, List.getElem?_map, List.getElem?_range h]

/-- Six cells of a block. -/
def Sx6 (w : World) (b o : Nat) (c0 c1 c2 c3 c4 c5 : Value) : Prop := w.cell? ⟨b, o, none⟩ = some c0 ∧ w.cell? ⟨b, o + 1, none⟩ = some c1 ∧ w.cell? ⟨b, o + 1 + 1, none⟩ = some c2 ∧ w.cell? ⟨b, o + 1 + 2, none⟩ = some c3 ∧ w.cell? ⟨b, o + 1 + 3, none⟩ = some c4 ∧ w.cell? ⟨b, o + 1 + 4, none⟩ = some c5
theorem Sx6.keep {w w' : World} {b o : Nat} {c0 c1 c2 c3 c4 c5 : Value} (h : Sx6 w b o c0 c1 c2 c3 c4 c5) (e : w'.heap[b]? = w.heap[b]?) : Sx6 w' b o c0 c1 c2 c3 c4 c5 := by
  obtain ⟨h0, h1, h2, h3, h4, h5⟩ := h
  have k : ∀ m u, w.cell? ⟨b, m, none⟩ = some u → w'.cell? ⟨b, m, none⟩ = some u := fun m u hu => (World.cell?_of_block (w := w) (a := ⟨b, m, none⟩) e).trans hu
  exact ⟨k _ _ h0, k _ _ h1, k _ _ h2, k _ _ h3, k _ _ h4, k _ _ h5⟩
theorem set_other {w : World} {b m n : Nat} {v u : Value} (h : w.cell? ⟨b, m, none⟩ = some u) (e : n ≠ m) : (w.setCell ⟨b, n, none⟩ v).cell? ⟨b, m, none⟩ = some u :=
  (World.cell?_setCell_other _ _ _ _ (by intro h; simp only [Addr.mk.injEq, and_true, true_and] at h; exact e h)).trans h
theorem Sx6.set0 {w : World} {b o : Nat} {c0 c1 c2 c3 c4 c5 : Value} (h : Sx6 w b o c0 c1 c2 c3 c4 c5) (v : Value) : Sx6 (w.setCell ⟨b, o, none⟩ v) b o v c1 c2 c3 c4 c5 := by
  obtain ⟨h0, h1, h2, h3, h4, h5⟩ := h
  exact ⟨World.cell?_setCell_same _ _ _ h0, set_other h1 (by omega), set_other h2 (by omega), set_other h3 (by omega), set_other h4 (by omega), set_other h5 (by omega)⟩
theorem Sx6.set1 {w : World} {b o : Nat} {c0 c1 c2 c3 c4 c5 : Value} (h : Sx6 w b o c0 c1 c2 c3 c4 c5) (v : Value) : Sx6 (w.setCell ⟨b, o + 1, none⟩ v) b o c0 v c2 c3 c4 c5 := by
  obtain ⟨h0, h1, h2, h3, h4, h5⟩ := h
  exact ⟨set_other h0 (by omega), World.cell?_setCell_same _ _ _ h1, set_other h2 (by omega), set_other h3 (by omega), set_other h4 (by omega), set_other h5 (by omega)⟩
theorem Sx6.set2 {w : World} {b o : Nat} {c0 c1 c2 c3 c4 c5 : Value} (h : Sx6 w b o c0 c1 c2 c3 c4 c5) (v : Value) : Sx6 (w.setCell ⟨b, o + 1 + 1, none⟩ v) b o c0 c1 v c3 c4 c5 := by
  obtain ⟨h0, h1, h2, h3, h4, h5⟩ := h
  exact ⟨set_other h0 (by omega), set_other h1 (by omega), World.cell?_setCell_same _ _ _ h2, set_other h3 (by omega), set_other h4 (by omega), set_other h5 (by omega)⟩
theorem Sx6.set3 {w : World} {b o : Nat} {c0 c1 c2 c3 c4 c5 : Value} (h : Sx6 w b o c0 c1 c2 c3 c4 c5) (v : Value) : Sx6 (w.setCell ⟨b, o + 1 + 2, none⟩ v) b o c0 c1 c2 v c4 c5 := by
  obtain ⟨h0, h1, h2, h3, h4, h5⟩ := h
  exact ⟨set_other h0 (by omega), set_other h1 (by omega), set_other h2 (by omega), World.cell?_setCell_same _ _ _ h3, set_other h4 (by omega), set_other h5 (by omega)⟩
/-- A block at a way is none that lies behind it. -/
theorem lab_own {lab : Nat → List Nat} {p : List Nat} {b j : Nat} (hb : lab b = 1 :: p) : ¬ ((j + 2) :: p) <:+ lab b := fun h => by
  rw [hb] at h
  have := same_len h (List.suffix_refl _) rfl
  omega
theorem lab_own2 {lab : Nat → List Nat} {p : List Nat} {b j : Nat} (hb : lab b = 1 :: p) : ¬ Sk lab ((j + 2) :: p) b := by
  rintro (h | ⟨i, h⟩)
  · rw [hb] at h; simp at h
  · exact lab_own hb (suffix_cons h)
theorem Sk.behind {lab : Nat → List Nat} {p : List Nat} {c : Nat} (h : Sk lab p c) : p <:+ lab c := by
  rcases h with h | ⟨i, h⟩
  · rw [h]; exact List.suffix_cons _ _
  · exact suffix_cons h
theorem Sk.of_behind {lab : Nat → List Nat} {p : List Nat} {c b j : Nat} (hb : lab b = 1 :: p) (h : c = b ∨ ((j + 2) :: p) <:+ lab c) : Sk lab p c := by
  rcases h with h | h
  · rw [h]; exact .inl hb
  · exact .inr ⟨j, h⟩

set_option maxRecDepth 20000 in
set_option maxHeartbeats 1600000 in
theorem markCellS_l (cs : List Ce) (lab : Nat → List Nat) (p : List Nat) (a : Option Addr) (c k : Nat) (w : World) (h : LCells w lab p cs a) (hlab : ∀ c, lab c ≠ [] → c < w.heap.size) (hk : k + nCs cs ≤ 1000000000000) (hlen : cs.length ≤ 1048576) (hsz : ∀ j, j < cs.length → szV (cth cs j).val ≤ 1048576) :
    Calls Tryz.prog 37 #[.slice a cs.length c, .int .i64 k] w fun e w' => e = .returned (.int .i64 ((k + nCs cs : Nat) : Int)) ∧ Only (Sk lab p) w w' ∧ LCells w' lab p (mkCs cs k) a := by
  obtain ⟨b, off, hb⟩ : ∃ b off, 0 < cs.length → a = some ⟨b, off, none⟩ ∧ lab b = 1 :: p ∧ (∀ i, w.frozen? ⟨b, i, none⟩ = false) ∧ GRow w 6 cs.length b off (LCe lab p (cth cs)) := by
    by_cases h0 : 0 < cs.length
    · obtain ⟨b, off, h'⟩ := h h0; exact ⟨b, off, fun _ => h'⟩
    · exact ⟨0, 0, fun h' => absurd h' h0⟩
  clear h
  go_enter Tryz.func37, Tryz.ntmps37
  go_wp2_with fail
  go_loopw [1, 5] (fun kk i wr => ∃ j : Nat, j ≤ cs.length ∧ i = .int .i64 j ∧ kk = .int .i64 ((k + nCs (cs.take j) : Nat) : Int) ∧ Only (Sk lab p) w wr ∧ (0 < cs.length → GRow wr 6 cs.length b off (fun w i c => if i < j then LCe lab p (fun i => mkCe (cth cs i) (k + nCs (cs.take i))) w i c else LCe lab p (cth cs) w i c))) (fun _ i _ => cs.length - (intOf i).toNat)
  case atStart => exact ⟨0, Nat.zero_le _, rfl, by simp [nCs], Only.refl _ _, fun h0 => (hb h0).2.2.2.start⟩
  case round =>
    obtain ⟨j, hj, rfl, rfl, hO, hL⟩ := hrel
    obtain ⟨w0, rfl⟩ : ∃ y, y = wr := ⟨wr, rfl⟩
    by_cases hlt : j < cs.length
    · obtain ⟨rfl, hlb, hfz, -⟩ := hb (by omega)
      have hLr := hL (by omega)
      obtain ⟨cc, hcc, e0, hv⟩ := hLr.now hlt
      have hszj := hsz j hlt
      obtain ⟨q, hq⟩ : ∃ q, q = k + nCs (cs.take j) := ⟨_, rfl⟩
      have hnt := nCs_take cs j hlt
      have hnp := nCs_part cs (j + 1)
      generalize hx : (cth cs j).val = x at *
      obtain ⟨na, ka', nc, kc', ev, hN, hKj⟩ := hv.inv
      simp only [Value.agg.injEq, Array.mk.injEq, List.cons.injEq, and_true] at ev
      obtain ⟨e1, e2, e3, e4, e5⟩ := ev
      have S0 : Sx6 w0 b (off + j * 6) (.string (cth cs j).name) (.int .i64 x.sort) (.int .i64 x.num) (.string x.text) (.slice na x.names.length nc) (.slice ka' x.kids.length kc') := by
        refine ⟨?_, ?_, ?_, ?_, ?_, ?_⟩
        · have := hcc 0 (by omega); rw [e0] at this; exact this
        · have := hcc 1 (by omega); rw [e1] at this; exact this
        · have := hcc 2 (by omega); rw [e2] at this; exact this
        · have := hcc 3 (by omega); rw [e3] at this; exact this
        · have := hcc 4 (by omega); rw [e4] at this; exact this
        · have := hcc 5 (by omega); rw [e5] at this; exact this
      have hji : (j : Int) < (cs.length : Int) := by omega
      have hbl : b < w.heap.size := hlab b (by rw [hlb]; simp)
      have hz := hO.size
      have hfw : ∀ i, w0.frozen? ⟨b, i, none⟩ = false := fun i => (hO.frozen ⟨b, i, none⟩ hbl).trans (hfz i)
      have hnv := nV_eq x
      have hnl : x.names.length ≤ 1048576 := by have := len_szNs x.names; have := szV_eq x; omega
      rw [← hq]
      have hqb : q + 4 + nV x ≤ 1000000000000 := by omega
      have hqi : (q : Int) ≤ 1000000000000 := by omega
      have HQ : Hid (q = k + nCs (cs.take j)) := hq
      have HNT : Hid (nCs (cs.take (j + 1)) = nCs (cs.take j) + (4 + nV x)) := hnt
      have HLR := hidM hLr
      have HFW := hidM hfw
      have HNK := hidM (And.intro hN hKj)
      clear hL hcc hq hnt hfw hv hLr e0 e1 e2 e3 e4 e5 hN hKj
      have hlabW : ∀ c, lab c ≠ [] → c < w0.heap.size := fun c hc => by have := hlab c hc; omega
      have hM := markText_any q w0 (by omega)
      go_wp2_with fail
      refine hM.mono ?_
      rintro e w1 ⟨rfl, hb1⟩
      have z1 := hb1.size
      have S1 := S0.keep (hb1.block b (by omega))
      have W1a : Win (fun c => c = b) b (off + j * 6) (off + j * 6 + 6) w0 w1 := Win.below hb1 (by omega)
      have g1 : ∀ i, w1.frozen? ⟨b, i, none⟩ = false := fun i => (hb1.frozen (p := ⟨b, i, none⟩) (by show b < _; omega)).trans (HFW.out i)
      have g10 := g1 (off + j * 6)
      have g11 := g1 (off + j * 6 + 1)
      have g12 := g1 (off + j * 6 + 1 + 1)
      obtain ⟨t0, t1, t2, -, -, -⟩ := id S1
      have H1 := hidM (And.intro S1 W1a)
      clear hM S0 S1 W1a hb1 g1
      go_wp2_with fail
      clear t0 t1 t2 g10 g11 g12
      obtain ⟨W1, hW1⟩ : ∃ W, W = ((w1.setCell ⟨b, off + j * 6, none⟩ (.string (mtext q))).setCell ⟨b, off + j * 6 + 1, none⟩ (.int .i64 ((q : Int) + 1))).setCell ⟨b, off + j * 6 + 1 + 1, none⟩ (.int .i64 ((q : Int) + 1 + 1)) := ⟨_, rfl⟩
      rw [← hW1]
      have S2 : Sx6 W1 b (off + j * 6) (.string (mtext q)) (.int .i64 ((q : Int) + 1)) (.int .i64 ((q : Int) + 1 + 1)) (.string x.text) (.slice na x.names.length nc) (.slice ka' x.kids.length kc') := by rw [hW1]; exact ((H1.out.1.set0 _).set1 _).set2 _
      have W2 : Win (fun c => c = b) b (off + j * 6) (off + j * 6 + 6) w0 W1 := by rw [hW1]; exact ((H1.out.2.trans (Win.set _ _ rfl (by omega) (by omega))).trans (Win.set _ _ rfl (by omega) (by omega))).trans (Win.set _ _ rfl (by omega) (by omega))
      have hzW : W1.heap.size = w1.heap.size := by rw [hW1, size_set, size_set, size_set]
      clear hW1 H1
      have hM2 := markText_any (q + 3) W1 (by omega)
      rw [show ((q + 3 : Nat) : Int) = (q : Int) + 1 + 1 + 1 by omega] at hM2
      refine hM2.mono ?_
      rintro e w2 ⟨rfl, hb2⟩
      have z2 := hb2.size
      have S3 := S2.keep (hb2.block b (by omega))
      have W3 := W2.trans (Win.below hb2 (by omega))
      have g2 : w2.frozen? ⟨b, off + j * 6 + 1 + 2, none⟩ = false := (W3.only.frozen ⟨b, off + j * 6 + 1 + 2, none⟩ (by show b < _; omega)).trans (HFW.out _)
      obtain ⟨-, -, -, t3, t4, -⟩ := id S3
      have H3 := hidM (And.intro S3 W3)
      clear hM2 S2 W2 hb2 S3 W3
      go_wp2_with fail
      clear t3 t4 g2
      obtain ⟨W2, hW2⟩ : ∃ W, W = w2.setCell ⟨b, off + j * 6 + 1 + 2, none⟩ (.string (mtext (q + 3))) := ⟨_, rfl⟩
      rw [← hW2]
      have S4 : Sx6 W2 b (off + j * 6) (.string (mtext q)) (.int .i64 ((q : Int) + 1)) (.int .i64 ((q : Int) + 1 + 1)) (.string (mtext (q + 3))) (.slice na x.names.length nc) (.slice ka' x.kids.length kc') := by rw [hW2]; exact H3.out.1.set3 _
      have W4 : Win (fun c => c = b) b (off + j * 6) (off + j * 6 + 6) w0 W2 := by rw [hW2]; exact H3.out.2.trans (Win.set _ _ rfl (by omega) (by omega))
      have keep0 : ∀ c, lab c ≠ [] → ((j + 2) :: p) <:+ lab c → W2.heap[c]? = w0.heap[c]? := fun c h1 h2 => W4.only.block c (hlabW c h1) (fun e => lab_own hlb (e ▸ h2))
      have hz2 : W2.heap.size = w2.heap.size := by rw [hW2, size_set]
      clear hW2 H3
      obtain ⟨hN, hKj⟩ := HNK.out
      have hMN := markNames_l lab ((j + 2) :: p) x.names na nc (q + 4) W2 (hN.keep keep0) hnl (by omega)
      rw [show ((q + 4 : Nat) : Int) = (q : Int) + 1 + 1 + 1 + 1 by omega] at hMN
      refine hMN.mono ?_
      rintro e w3 ⟨rfl, hO3, hN3⟩
      have z3 := hO3.size
      have hb3 : w3.heap[b]? = W2.heap[b]? := hO3.block b (by omega) (by rw [hlb]; simp)
      have S5 := S4.keep hb3
      have hK3 : LKids w3 lab ((j + 2) :: p) x.kids ka' := by
        obtain ⟨b', off', C2, k1, k2, k3⟩ := hKj
        have hlb' : x.kids ≠ [] → w3.heap[b']? = w0.heap[b']? := fun hn => by
          have hl := (k1 hn).2.1
          rw [hO3.block b' (by have := hlabW b' (by rw [hl]; simp); omega) (by rw [hl]; simp)]
          exact keep0 b' (by rw [hl]; simp) (by rw [hl]; exact List.suffix_cons _ _)
        refine ⟨b', off', C2, fun hn => ⟨(k1 hn).1, (k1 hn).2.1, fun i => (World.frozen?_of_block (w := w0) (a := ⟨b', i, none⟩) (hlb' hn)).trans ((k1 hn).2.2 i)⟩, fun i hi m hm => (World.cell?_of_block (w := w0) (a := ⟨b', off' + i * 5 + m, none⟩) (hlb' (by intro e; simp [e] at hi))).trans (k2 i hi m hm), fun i hi => (k3 i hi).keep fun c h1 h2 => ?_⟩
        rw [hO3.block c (by have := hlabW c h1; omega) (fun e => ?_)]
        · exact keep0 c h1 (suffix_cons h2)
        · rw [e] at h2
          have := same_len h2 (List.suffix_refl _) rfl
          omega
      have hIH := markValueS_l x lab ((j + 2) :: p) ka' kc' (q + 4 + x.names.length) w3 hK3 (fun c hc => by have := hlabW c hc; omega) (by omega) hszj
      rw [show ((q + 4 + x.names.length : Nat) : Int) = (q : Int) + 4 + (x.names.length : Int) by omega] at hIH
      have HIH := hidM hIH
      have H5 := hidM (And.intro S5 (And.intro (And.intro W4 hO3) hN3))
      obtain ⟨-, -, -, -, -, t5⟩ := S5
      clear hIH hN3 hKj hN S4 W4 hMN keep0 HNK hK3 hO3
      go_wp2_with fail
      clear t5
      refine HIH.out.mono ?_
      rintro e w4 ⟨rfl, hO4, hK4⟩
      go_wp2_with fail
      go_roundw
      case measure => simp [intOf]; omega
      case rel =>
        obtain ⟨S5, ⟨W4, hO3⟩, hN3⟩ := H5.out
        have hb4 : w4.heap[b]? = w3.heap[b]? := hO4.block b (by omega) (lab_own2 hlb)
        have S6 := S5.keep hb4
        have W6 : Win (fun c => c = b ∨ ((j + 2) :: p) <:+ lab c) b (off + j * 6) (off + j * 6 + 6) w0 w4 := by
          have a1 : Win (fun c => c = b ∨ ((j + 2) :: p) <:+ lab c) b (off + j * 6) (off + j * 6 + 6) w0 W2 := ⟨W4.only.wider fun c h => .inl h, W4.cell⟩
          refine (a1.trans (Win.beside hO3 (fun c h => .inr (by rw [h]; exact List.suffix_cons _ _)) (by omega) (by rw [hlb]; simp))).trans (Win.beside hO4 (fun c h => .inr h.behind) (by omega) (lab_own2 hlb))
        have hN4 : LStrs w4 lab ((j + 2) :: p) (mkNs x.names.length (q + 4)) na := fun hne => by
          obtain ⟨nb, no, n1, n2, n3, n4⟩ := hN3 hne
          have hbb : w4.heap[nb]? = w3.heap[nb]? := hO4.block nb (by have := hlabW nb (by rw [n2]; simp); omega) (Sk.zero n2)
          exact ⟨nb, no, n1, n2, fun i => (World.frozen?_of_block (w := w3) (a := ⟨nb, i, none⟩) hbb).trans (n3 i), fun i hi => (World.cell?_of_block (w := w3) (a := ⟨nb, no + i, none⟩) hbb).trans (n4 i hi)⟩
        have hy : LRep w4 lab ((j + 2) :: p) (mk1 x (q + 1)) (.agg #[.int .i64 ((q : Int) + 1), .int .i64 ((q : Int) + 1 + 1), .string (mtext (q + 3)), .slice na x.names.length nc, .slice ka' x.kids.length kc']) := by
          have h := LRep.of_kids (s := ((q + 1 : Nat) : Int)) (n := ((q + 1 + 1 : Nat) : Int)) (t := mtext (q + 1 + 2)) (nc := nc) (kc := kc') hN4 hK4
          rw [mkNs_len, mkL_len] at h
          have e1 : q + 4 + x.names.length = q + 1 + 3 + x.names.length := by omega
          rw [e1] at h
          exact h
        refine ⟨j + 1, by omega, by go_num, ?_, hO.trans (W6.only.wider fun c h => Sk.of_behind hlb h), fun _ => HLR.out.mark hlt hlb (LCe.keeps _ _ _) (LCe.keeps _ _ _) hlabW W6 (fun m => [Value.string (mtext q), .int .i64 ((q : Int) + 1), .int .i64 ((q : Int) + 1 + 1), .string (mtext (q + 3)), .slice na x.names.length nc, .slice ka' x.kids.length kc'].getD m undef) ?_ ?_⟩
        · have h1 := HNT.out
          have h2 := HQ.out
          congr 1
          omega
        · intro m hm
          obtain ⟨r0, r1, r2, r3, r4, r5⟩ := S6
          have : m = 0 ∨ m = 1 ∨ m = 2 ∨ m = 3 ∨ m = 4 ∨ m = 5 := by omega
          rcases this with rfl | rfl | rfl | rfl | rfl | rfl
          · exact r0
          · exact r1
          · exact r2
          · exact r3
          · exact r4
          · exact r5
        · show LCe lab p (fun i => mkCe (cth cs i) (k + nCs (cs.take i))) w4 j _
          refine ⟨?_, ?_⟩
          · show Value.string (mtext q) = .string (mtext (k + nCs (cs.take j)))
            rw [← HQ.out]
          · show LRep w4 lab ((j + 2) :: p) (mk1 (cth cs j).val (k + nCs (cs.take j) + 1)) _
            rw [hx, ← HQ.out]
            exact hy
    · go_wp2_with fail
      go_ret
      have e : j = cs.length := by omega
      subst e
      refine ⟨by rw [List.take_length]; rfl, hO, fun h0 => ?_⟩
      rw [mkCs_len] at h0 ⊢
      obtain ⟨rfl, hlb, hfz, -⟩ := hb h0
      have hbl : b < w.heap.size := hlab b (by rw [hlb]; simp)
      refine ⟨b, off, rfl, hlb, fun i => (hO.frozen ⟨b, i, none⟩ hbl).trans (hfz i), (hL h0).done.congr fun i c hi hE => ?_⟩
      obtain ⟨h1, h2⟩ := hE
      rw [LCe, mkCs_at cs k i hi]
      exact ⟨h1, h2⟩

/-- Three cells of a block. -/
def Sx3 (w : World) (b o : Nat) (c0 c1 c2 : Value) : Prop := w.cell? ⟨b, o, none⟩ = some c0 ∧ w.cell? ⟨b, o + 1, none⟩ = some c1 ∧ w.cell? ⟨b, o + 2, none⟩ = some c2
theorem Sx3.keep {w w' : World} {b o : Nat} {c0 c1 c2 : Value} (h : Sx3 w b o c0 c1 c2) (e : w'.heap[b]? = w.heap[b]?) : Sx3 w' b o c0 c1 c2 := by
  obtain ⟨h0, h1, h2⟩ := h
  have k : ∀ m u, w.cell? ⟨b, m, none⟩ = some u → w'.cell? ⟨b, m, none⟩ = some u := fun m u hu => (World.cell?_of_block (w := w) (a := ⟨b, m, none⟩) e).trans hu
  exact ⟨k _ _ h0, k _ _ h1, k _ _ h2⟩
theorem Sx3.set0 {w : World} {b o : Nat} {c0 c1 c2 : Value} (h : Sx3 w b o c0 c1 c2) (v : Value) : Sx3 (w.setCell ⟨b, o, none⟩ v) b o v c1 c2 := by
  obtain ⟨h0, h1, h2⟩ := h
  exact ⟨World.cell?_setCell_same _ _ _ h0, set_other h1 (by omega), set_other h2 (by omega)⟩
theorem Sx3.set1 {w : World} {b o : Nat} {c0 c1 c2 : Value} (h : Sx3 w b o c0 c1 c2) (v : Value) : Sx3 (w.setCell ⟨b, o + 1, none⟩ v) b o c0 v c2 := by
  obtain ⟨h0, h1, h2⟩ := h
  exact ⟨set_other h0 (by omega), World.cell?_setCell_same _ _ _ h1, set_other h2 (by omega)⟩

set_option maxRecDepth 20000 in
set_option maxHeartbeats 1600000 in
theorem markRowS_l (rs : List Ro) (lab : Nat → List Nat) (p : List Nat) (a : Option Addr) (c k : Nat) (w : World) (h : LRows w lab p rs a) (hlab : ∀ c, lab c ≠ [] → c < w.heap.size) (hk : k + nRs rs ≤ 1000000000000) (hlen : rs.length ≤ 1000000000) (hsz : ∀ i, i < rs.length → (rth rs i).cells.length ≤ 1048576 ∧ ∀ j, j < (rth rs i).cells.length → szV (cth (rth rs i).cells j).val ≤ 1048576) :
    Calls Tryz.prog 16 #[.slice a rs.length c, .int .i64 k] w fun e w' => e = .returned (.int .i64 ((k + nRs rs : Nat) : Int)) ∧ Only (Sk lab p) w w' ∧ LRows w' lab p (mkRs rs k) a := by
  obtain ⟨b, off, hb⟩ : ∃ b off, 0 < rs.length → a = some ⟨b, off, none⟩ ∧ lab b = 1 :: p ∧ (∀ i, w.frozen? ⟨b, i, none⟩ = false) ∧ GRow w 3 rs.length b off (LRo lab p (rth rs)) := by
    by_cases h0 : 0 < rs.length
    · obtain ⟨b, off, h'⟩ := h h0; exact ⟨b, off, fun _ => h'⟩
    · exact ⟨0, 0, fun h' => absurd h' h0⟩
  clear h
  go_enter Tryz.func16, Tryz.ntmps16
  go_wp2_with fail
  go_loopw [1, 5] (fun kk i wr => ∃ j : Nat, j ≤ rs.length ∧ i = .int .i64 j ∧ kk = .int .i64 ((k + nRs (rs.take j) : Nat) : Int) ∧ Only (Sk lab p) w wr ∧ (0 < rs.length → GRow wr 3 rs.length b off (fun w i c => if i < j then LRo lab p (fun i => mkRo (rth rs i) (k + nRs (rs.take i))) w i c else LRo lab p (rth rs) w i c))) (fun _ i _ => rs.length - (intOf i).toNat)
  case atStart => exact ⟨0, Nat.zero_le _, rfl, by simp [nRs], Only.refl _ _, fun h0 => (hb h0).2.2.2.start⟩
  case round =>
    obtain ⟨j, hj, rfl, rfl, hO, hL⟩ := hrel
    obtain ⟨w0, rfl⟩ : ∃ y, y = wr := ⟨wr, rfl⟩
    by_cases hlt : j < rs.length
    · obtain ⟨rfl, hlb, hfz, -⟩ := hb (by omega)
      have hLr := hL (by omega)
      obtain ⟨cc, hcc, e0, e1, ca, ccp, e2, hC⟩ := hLr.now hlt
      obtain ⟨hszl, hszj⟩ := hsz j hlt
      obtain ⟨q, hq⟩ : ∃ q, q = k + nRs (rs.take j) := ⟨_, rfl⟩
      have hnt := nRs_take rs j hlt
      have hnp := nRs_part rs (j + 1)
      generalize hx : (rth rs j).cells = cl at *
      have S0 : Sx3 w0 b (off + j * 3) (.string (rth rs j).type) (.int .i64 (rth rs j).id) (.slice ca cl.length ccp) := by
        refine ⟨?_, ?_, ?_⟩
        · have := hcc 0 (by omega); rw [e0] at this; exact this
        · have := hcc 1 (by omega); rw [e1] at this; exact this
        · have := hcc 2 (by omega); rw [e2] at this; exact this
      have hji : (j : Int) < (rs.length : Int) := by omega
      have hbl : b < w.heap.size := hlab b (by rw [hlb]; simp)
      have hz := hO.size
      have hfw : ∀ i, w0.frozen? ⟨b, i, none⟩ = false := fun i => (hO.frozen ⟨b, i, none⟩ hbl).trans (hfz i)
      rw [← hq]
      have hqb : q + 2 + nCs cl ≤ 1000000000000 := by omega
      have hqi : (q : Int) ≤ 1000000000000 := by omega
      have HQ : Hid (q = k + nRs (rs.take j)) := hq
      have HNT : Hid (nRs (rs.take (j + 1)) = nRs (rs.take j) + (2 + nCs cl)) := hnt
      have HLR := hidM hLr
      have HFW := hidM hfw
      have HC := hidM hC
      clear hL hcc hq hnt hfw hLr e0 e1 e2 hC
      have hlabW : ∀ c, lab c ≠ [] → c < w0.heap.size := fun c hc => by have := hlab c hc; omega
      have hM := markText_any q w0 (by omega)
      go_wp2_with fail
      refine hM.mono ?_
      rintro e w1 ⟨rfl, hb1⟩
      have z1 := hb1.size
      have S1 := S0.keep (hb1.block b (by omega))
      have W1a : Win (fun c => c = b) b (off + j * 3) (off + j * 3 + 3) w0 w1 := Win.below hb1 (by omega)
      have g1 : ∀ i, w1.frozen? ⟨b, i, none⟩ = false := fun i => (hb1.frozen (p := ⟨b, i, none⟩) (by show b < _; omega)).trans (HFW.out i)
      have g10 := g1 (off + j * 3)
      have g11 := g1 (off + j * 3 + 1)
      obtain ⟨t0, t1, t2⟩ := id S1
      have H1 := hidM (And.intro S1 W1a)
      clear hM S0 S1 W1a hb1 g1
      go_wp2_with fail
      clear t0 t1 t2 g10 g11
      obtain ⟨W1, hW1⟩ : ∃ W, W = (w1.setCell ⟨b, off + j * 3, none⟩ (.string (mtext q))).setCell ⟨b, off + j * 3 + 1, none⟩ (.int .i64 ((q : Int) + 1)) := ⟨_, rfl⟩
      rw [← hW1]
      have S2 : Sx3 W1 b (off + j * 3) (.string (mtext q)) (.int .i64 ((q : Int) + 1)) (.slice ca cl.length ccp) := by rw [hW1]; exact (H1.out.1.set0 _).set1 _
      have W2 : Win (fun c => c = b) b (off + j * 3) (off + j * 3 + 3) w0 W1 := by rw [hW1]; exact (H1.out.2.trans (Win.set _ _ rfl (by omega) (by omega))).trans (Win.set _ _ rfl (by omega) (by omega))
      have hzW : W1.heap.size = w1.heap.size := by rw [hW1, size_set, size_set]
      clear hW1 H1
      have keep0 : ∀ c, lab c ≠ [] → ((j + 2) :: p) <:+ lab c → W1.heap[c]? = w0.heap[c]? := fun c h1 h2 => W2.only.block c (hlabW c h1) (fun e => lab_own hlb (e ▸ h2))
      have hI := markCellS_l cl lab ((j + 2) :: p) ca ccp (q + 2) W1 (HC.out.keep keep0) (fun c hc => by have := hlabW c hc; omega) (by omega) hszl hszj
      rw [show ((q + 2 : Nat) : Int) = (q : Int) + 1 + 1 by omega] at hI
      clear keep0
      refine hI.mono ?_
      rintro e w4 ⟨rfl, hO4, hK4⟩
      clear hI
      go_wp2_with fail
      go_roundw
      case measure => simp [intOf]; omega
      case rel =>
        have hb4 : w4.heap[b]? = W1.heap[b]? := hO4.block b (by omega) (lab_own2 hlb)
        have S6 := S2.keep hb4
        have W6 : Win (fun c => c = b ∨ ((j + 2) :: p) <:+ lab c) b (off + j * 3) (off + j * 3 + 3) w0 w4 := by
          have a1 : Win (fun c => c = b ∨ ((j + 2) :: p) <:+ lab c) b (off + j * 3) (off + j * 3 + 3) w0 W1 := ⟨W2.only.wider fun c h => .inl h, W2.cell⟩
          exact a1.trans (Win.beside hO4 (fun c h => .inr h.behind) (by omega) (lab_own2 hlb))
        refine ⟨j + 1, by omega, by go_num, ?_, hO.trans (W6.only.wider fun c h => Sk.of_behind hlb h), fun _ => HLR.out.mark hlt hlb (LRo.keeps _ _ _) (LRo.keeps _ _ _) hlabW W6 (fun m => [Value.string (mtext q), .int .i64 ((q : Int) + 1), .slice ca cl.length ccp].getD m undef) ?_ ?_⟩
        · have h1 := HNT.out
          have h2 := HQ.out
          congr 1
          omega
        · intro m hm
          obtain ⟨r0, r1, r2⟩ := S6
          have : m = 0 ∨ m = 1 ∨ m = 2 := by omega
          rcases this with rfl | rfl | rfl
          · exact r0
          · exact r1
          · exact r2
        · show LRo lab p (fun i => mkRo (rth rs i) (k + nRs (rs.take i))) w4 j _
          refine ⟨?_, ?_, ca, ccp, ?_, ?_⟩
          · show Value.string (mtext q) = .string (mtext (k + nRs (rs.take j)))
            rw [← HQ.out]
          · show Value.int .i64 ((q : Int) + 1) = .int .i64 ((k + nRs (rs.take j) + 1 : Nat) : Int)
            rw [← HQ.out]; rfl
          · show Value.slice ca cl.length ccp = .slice ca (mkCs (rth rs j).cells _).length ccp
            rw [mkCs_len, hx]
          · show LCells w4 lab ((j + 2) :: p) (mkCs (rth rs j).cells (k + nRs (rs.take j) + 2)) ca
            rw [hx, ← HQ.out]
            exact hK4
    · go_wp2_with fail
      go_ret
      have e : j = rs.length := by omega
      subst e
      refine ⟨by rw [List.take_length]; rfl, hO, fun h0 => ?_⟩
      rw [mkRs_len] at h0 ⊢
      obtain ⟨rfl, hlb, hfz, -⟩ := hb h0
      have hbl : b < w.heap.size := hlab b (by rw [hlb]; simp)
      refine ⟨b, off, rfl, hlb, fun i => (hO.frozen ⟨b, i, none⟩ hbl).trans (hfz i), (hL h0).done.congr fun i c hi hE => ?_⟩
      rw [LRo, mkRs_at rs k i hi]
      exact hE
end Go.Proofs.YtmemijccbmnaaaaGreat

namespace Go.Proofs.YtmemijccbmnaaaaGreat
set_option linter.unusedSimpArgs false
set_option linter.unusedVariables false
open Go.RowKit

/-- Nothing but some blocks has changed, new ones aside. -/
structure Aside (S : Nat → Prop) (w w' : World) : Prop where
  os : w'.os = w.os
  tape : w'.tape = w.tape
  output : w'.output = w.output
  size : w.heap.size ≤ w'.heap.size
  block : ∀ b, b < w.heap.size → ¬ S b → w'.heap[b]? = w.heap[b]?
theorem Aside.refl (S : Nat → Prop) (w : World) : Aside S w w := ⟨rfl, rfl, rfl, Nat.le_refl _, fun _ _ _ => rfl⟩
theorem Aside.trans {S : Nat → Prop} {a b c : World} (h : Aside S a b) (k : Aside S b c) : Aside S a c :=
  ⟨k.os.trans h.os, k.tape.trans h.tape, k.output.trans h.output, Nat.le_trans h.size k.size, fun i hi hn => (k.block i (Nat.lt_of_lt_of_le hi h.size) hn).trans (h.block i hi hn)⟩
theorem Aside.of_below {S : Nat → Prop} {a w' : World} {B : Nat} (h : Below B a w') (hB : a.heap.size ≤ B) : Aside S a w' := ⟨h.os, h.tape, h.output, h.size, fun b hb _ => h.block b (by omega)⟩
theorem Aside.set {S : Nat → Prop} (w : World) (p : Addr) (v : Value) (h : S p.block) : Aside S w (w.setCell p v) :=
  ⟨rfl, rfl, rfl, by rw [size_set]; exact Nat.le_refl _, fun b _ hn => Below.heap_setCell _ _ _ _ (fun e => hn (by rw [e]; exact h))⟩
theorem owns_same {w w' : World} {base e sz n : Nat} {v : Value} {xs : List Value} (h : w.ownsRow base e sz v n xs) (hb : ∀ b, v.ownBlock = some b → w'.heap[b]? = w.heap[b]?) : w'.ownsRow base e sz v n xs := by
  refine ⟨h.1, h.2.imp id ?_⟩
  rintro ⟨g, cap, cur, rfl, hg, hh, hr⟩
  exact ⟨g, cap, cur, rfl, hg, (hb g rfl).trans hh, hr⟩
/-- A cell whose value lies elsewhere. -/
def SCe (P : Nat → Prop) (X : Nat → Ce) (w : World) (i : Nat) (c : Nat → Value) : Prop := c 0 = .string (X i).name ∧ Rep w P (X i).val (.agg #[c 1, c 2, c 3, c 4, c 5]) ∧ (X i).name.size ≤ maxLen
theorem SCe.keep {P : Nat → Prop} {X : Nat → Ce} {w w' : World} {i : Nat} {c : Nat → Value} (h : SCe P X w i c) (e : ∀ k, P k → w'.heap[k]? = w.heap[k]?) : SCe P X w' i c := ⟨h.1, h.2.1.mono e, h.2.2⟩
theorem block_new {w : World} {N : Nat} (c : Array Value) (T : TypeId) (h : w.heap.size = N) : (w.alloc (.cells c T)).heap[N]? = some (.cells c T (0, 0)) := by subst h; exact heap_alloc_new w _
theorem block_old {w : World} {N : Nat} {x : Option Obj} (o : Obj) (h : w.heap[N]? = x) (hn : N < w.heap.size) : (w.alloc o).heap[N]? = x := ((below_box w o).block N hn).trans h
theorem set_box {w : World} {N : Nat} {cs : Array Value} {T : TypeId} (h : w.heap[N]? = some (.cells cs T (0, 0))) (i : Nat) (d : Value) : (w.setCell ⟨N, i, none⟩ d).heap[N]? = some (.cells (cs.setIfInBounds i d) T (0, 0)) := by
  show (w.heap.modify N _)[N]? = _
  rw [Array.getElem?_modify]
  simp [h]
theorem set_box3 {w : World} {N : Nat} {a b c : Value} {T : TypeId} (h : w.heap[N]? = some (.cells #[a, b, c] T (0, 0))) (d : Value) : (w.setCell ⟨N, 2, none⟩ d).heap[N]? = some (.cells #[a, b, d] T (0, 0)) := set_box h 2 d
/-- Three cells of a box are written. -/
def put3 (w : World) (N : Nat) (a b c : Value) : World := ((w.setCell ⟨N, 0, none⟩ a).setCell ⟨N, 1, none⟩ b).setCell ⟨N, 2, none⟩ c
theorem put3_box {w : World} {N : Nat} {x y z : Value} {T : TypeId} (h : w.heap[N]? = some (.cells #[x, y, z] T (0, 0))) (a b c : Value) : (put3 w N a b c).heap[N]? = some (.cells #[a, b, c] T (0, 0)) := set_box (set_box (set_box h 0 a) 1 b) 2 c
theorem put3_size (w : World) (N : Nat) (a b c : Value) : (put3 w N a b c).heap.size = w.heap.size := by unfold put3; rw [size_set, size_set, size_set]
theorem put3_block (w : World) (N : Nat) (a b c : Value) (k : Nat) (hk : k ≠ N) : (put3 w N a b c).heap[k]? = w.heap[k]? := by
  unfold put3
  rw [Below.heap_setCell _ _ _ _ hk, Below.heap_setCell _ _ _ _ hk, Below.heap_setCell _ _ _ _ hk]
theorem put3_below {B : Nat} {a w : World} (h : Below B a w) {N : Nat} (hN : B ≤ N) (x y z : Value) : Below B a (put3 w N x y z) := ((h.setCell (p := ⟨N, 0, none⟩) hN _).setCell (p := ⟨N, 1, none⟩) hN _).setCell (p := ⟨N, 2, none⟩) hN _
end Go.Proofs.YtmemijccbmnaaaaGreat
