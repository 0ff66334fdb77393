/-
  The laws' marks on a value whose lists lie apart: the walk.
-/
import Derived.Test.YtjlifamkfdmfcaaVMark
namespace Go.Proofs.Ytjlifamkfdmfcaa
set_option linter.unusedSimpArgs false
set_option linter.unusedVariables false
open Go.RowKit

theorem hidM {q : Prop} (h : q) : Hid q := h
def MkOk (x : V) : Prop := ∀ (lab : Nat → List Nat) (p : List Nat) (ka : Option Addr) (kc k : Nat) (w : World), LKids w lab p x.kids ka → (∀ c, lab c ≠ [] → c < w.heap.size) → k + nL x.kids ≤ 1000000000000 → szV x ≤ 1048576 →
  Calls Try.prog 33 #[.slice ka x.kids.length kc, .int .i64 k] w fun e w' => e = .returned (.int .i64 ((k + nL x.kids : Nat) : Int)) ∧ Only (Sk lab p) w w' ∧ LKids w' lab p (mkL x.kids k) ka

set_option maxRecDepth 20000 in
set_option maxHeartbeats 1600000 in
theorem markValueS_step (x : V) (IH : ∀ i, i < x.kids.length → MkOk (kth x.kids i)) : MkOk x := by
  intro lab p ka kc k w hK hlab hk hsz
  obtain ⟨s, n, t, ns, ks⟩ := x
  simp only at IH hK hk ⊢
  obtain ⟨b, off, C, hb, hc, hr⟩ := hK
  have hsz2 : ks.length + sL ks ≤ 1048576 := by have := szV_eq (.mk s n t ns ks); simp only at this; omega
  go_enter Try.func33, Try.ntmps33
  go_wp2_with fail
  go_loopw [1, 5] (fun kk i wr => ∃ j : Nat, j ≤ ks.length ∧ i = .int .i64 j ∧ kk = .int .i64 ((k + nL (ks.take j) : Nat) : Int) ∧ Only (Sk lab p) w wr ∧ (ks ≠ [] → LRow wr lab p ks.length (fun i => if i < j then mk1 (kth ks i) (k + nL (ks.take i)) else kth ks i) b off)) (fun _ i _ => ks.length - (intOf i).toNat)
  case atStart => exact ⟨0, Nat.zero_le _, rfl, by simp [nL], Only.refl _ _, fun _ => ⟨C, hc, fun i hi => by simpa using hr i hi⟩⟩
  case round =>
    obtain ⟨j, hj, rfl, rfl, hO, hL⟩ := hrel
    by_cases hlt : j < ks.length
    · have hne : ks ≠ [] := by intro e; simp [e] at hlt
      obtain ⟨rfl, hlb, hfz⟩ := hb hne
      have hLr := hL hne
      obtain ⟨C', hc', hr'⟩ := id hLr
      have hrj := hr' j hlt
      simp only [Nat.lt_irrefl, if_false] at hrj
      obtain ⟨na, ka', nc, kc', ev, hN, hKj⟩ := hrj.inv
      simp only [Value.agg.injEq, Array.mk.injEq, List.cons.injEq, and_true] at ev
      obtain ⟨e0, e1, e2, e3, e4⟩ := ev
      have p0 := hc' j hlt 0 (by omega)
      have p1 := hc' j hlt 1 (by omega)
      have p2 := hc' j hlt 2 (by omega)
      have p3 := hc' j hlt 3 (by omega)
      have p4 := hc' j hlt 4 (by omega)
      rw [e0, Nat.add_zero] at p0
      rw [e1] at p1
      rw [e2] at p2
      rw [e3] at p3
      rw [e4] at p4
      have hji : (j : Int) < (ks.length : Int) := by omega
      have hbl : b < w.heap.size := hlab b (by rw [hlb]; simp)
      have hz := hO.size
      have hfw : ∀ i, wr.frozen? ⟨b, i, none⟩ = false := fun i => (hO.frozen ⟨b, i, none⟩ hbl).trans (hfz i)
      have f0 := hfw (off + j * 5)
      have f1 := hfw (off + j * 5 + 1)
      have f2 := hfw (off + j * 5 + 2)
      obtain ⟨q, hq⟩ : ∃ q, q = k + nL (ks.take j) := ⟨_, rfl⟩
      have hnt := nL_take ks j hlt
      have hnp := nL_part ks (j + 1)
      have hnv := nV_eq (kth ks j)
      have hszj : szV (kth ks j) ≤ 1048576 := by have := szV_kth ks j hlt; omega
      have hnl : (kth ks j).names.length ≤ 1048576 := by have := len_szNs (kth ks j).names; have := szV_eq (kth ks j); omega
      rw [← hq]
      have hqb : q + 3 + nV (kth ks j) ≤ 1000000000000 := by omega
      have hqi : (q : Int) ≤ 1000000000000 := by omega
      have HQ : Hid (q = k + nL (ks.take j)) := hq
      have HNT : Hid (nL (ks.take (j + 1)) = nL (ks.take j) + (3 + nV (kth ks j))) := hnt
      have HLR : Hid (LRow wr lab p ks.length (fun i => if i < j then mk1 (kth ks i) (k + nL (ks.take i)) else kth ks i) b off) := hLr
      obtain ⟨w0, rfl⟩ : ∃ y, y = wr := ⟨wr, rfl⟩
      clear hL hc' hr' hq hnt hfw hrj hLr e0 e1 e2 e3 e4
      have hW1o : Only (fun c => c = b ∨ lab c = 0 :: (j + 2) :: p ∨ Sk lab ((j + 2) :: p) c) w0 ((w0.setCell ⟨b, off + j * 5, none⟩ (.int .i64 q)).setCell ⟨b, off + j * 5 + 1, none⟩ (.int .i64 ((q : Int) + 1))) := (Only.set _ _ (Or.inl rfl)).trans (Only.set _ _ (Or.inl rfl))
      have hW1c : ∀ m, ¬ (off + j * 5 ≤ m ∧ m < off + j * 5 + 3) → ((w0.setCell ⟨b, off + j * 5, none⟩ (.int .i64 q)).setCell ⟨b, off + j * 5 + 1, none⟩ (.int .i64 ((q : Int) + 1))).cell? ⟨b, m, none⟩ = w0.cell? ⟨b, m, none⟩ := fun m hm => by
        rw [World.cell?_setCell_other _ _ _ _ (by intro e; simp only [Addr.mk.injEq, and_true, true_and] at e; omega), World.cell?_setCell_other _ _ _ _ (by intro e; simp only [Addr.mk.injEq, and_true, true_and] at e; omega)]
      have t0 : ((w0.setCell ⟨b, off + j * 5, none⟩ (.int .i64 q)).setCell ⟨b, off + j * 5 + 1, none⟩ (.int .i64 ((q : Int) + 1))).cell? ⟨b, off + j * 5, none⟩ = some (.int .i64 q) := by
        rw [World.cell?_setCell_other _ _ _ _ (by intro e; simp only [Addr.mk.injEq, and_true, true_and] at e; omega)]
        exact World.cell?_setCell_same _ _ _ p0
      have t1 : ((w0.setCell ⟨b, off + j * 5, none⟩ (.int .i64 q)).setCell ⟨b, off + j * 5 + 1, none⟩ (.int .i64 ((q : Int) + 1))).cell? ⟨b, off + j * 5 + 1, none⟩ = some (.int .i64 ((q : Int) + 1)) :=
        World.cell?_setCell_same _ _ _ ((World.cell?_setCell_other _ _ _ _ (by intro e; simp only [Addr.mk.injEq, and_true, true_and] at e; omega)).trans p1)
      have t2 : ((w0.setCell ⟨b, off + j * 5, none⟩ (.int .i64 q)).setCell ⟨b, off + j * 5 + 1, none⟩ (.int .i64 ((q : Int) + 1))).cell? ⟨b, off + j * 5 + 2, none⟩ = some (.string (kth ks j).text) := by
        rw [World.cell?_setCell_other _ _ _ _ (by intro e; simp only [Addr.mk.injEq, and_true, true_and] at e; omega), World.cell?_setCell_other _ _ _ _ (by intro e; simp only [Addr.mk.injEq, and_true, true_and] at e; omega)]
        exact p2
      have hzW : ((w0.setCell ⟨b, off + j * 5, none⟩ (.int .i64 q)).setCell ⟨b, off + j * 5 + 1, none⟩ (.int .i64 ((q : Int) + 1))).heap.size = w0.heap.size := by rw [size_set, size_set]
      have hM := markText_any (q + 2) ((w0.setCell ⟨b, off + j * 5, none⟩ (.int .i64 q)).setCell ⟨b, off + j * 5 + 1, none⟩ (.int .i64 ((q : Int) + 1))) (by omega)
      rw [show ((q + 2 : Nat) : Int) = (q : Int) + 1 + 1 by omega] at hM
      obtain ⟨W1, hW1⟩ : ∃ W1, W1 = (w0.setCell ⟨b, off + j * 5, none⟩ (.int .i64 q)).setCell ⟨b, off + j * 5 + 1, none⟩ (.int .i64 ((q : Int) + 1)) := ⟨_, rfl⟩
      rw [← hW1] at hW1o hW1c t0 t1 t2 hzW hM
      have HO1 := hidM hW1o
      have HC1 := hidM hW1c
      have HT := hidM (And.intro t0 t1)
      have HMM := hidM hM
      have HW1 : Hid (W1 = (w0.setCell ⟨b, off + j * 5, none⟩ (.int .i64 q)).setCell ⟨b, off + j * 5 + 1, none⟩ (.int .i64 ((q : Int) + 1))) := hW1
      clear hW1o hW1c t0 t1 hM hW1
      go_wp2_with fail
      rw [← HW1.out]
      refine HMM.out.mono ?_
      rintro e w1 ⟨rfl, hb1⟩
      have z1 := hb1.size
      have hlw : b < W1.heap.size := by omega
      have u2 : w1.cell? ⟨b, off + j * 5 + 2, none⟩ = some (.string (kth ks j).text) := (hb1.cell (p := ⟨b, off + j * 5 + 2, none⟩) hlw).trans t2
      have u3 : w1.cell? ⟨b, off + j * 5 + 3, none⟩ = some (.slice na (kth ks j).names.length nc) := (hb1.cell (p := ⟨b, off + j * 5 + 3, none⟩) hlw).trans ((HC1.out _ (by omega)).trans p3)
      have g2 : w1.frozen? ⟨b, off + j * 5 + 2, none⟩ = false := (hb1.frozen (p := ⟨b, off + j * 5 + 2, none⟩) hlw).trans ((HO1.out.frozen ⟨b, off + j * 5 + 2, none⟩ (by show b < _; omega)).trans f2)
      clear t2 f0 f1 f2 p0 p1 p2
      have hlabW : ∀ c, lab c ≠ [] → c < w0.heap.size := fun c hc => by have := hlab c hc; omega
      have hOw1 : Only (fun c => c = b ∨ lab c = 0 :: (j + 2) :: p ∨ Sk lab ((j + 2) :: p) c) w0 w1 := HO1.out.trans (Only.of_below _ hb1)
      obtain ⟨W2, hW2⟩ : ∃ W2, W2 = w1.setCell ⟨b, off + j * 5 + 2, none⟩ (.string (mtext (q + 2))) := ⟨_, rfl⟩
      have hO2 : Only (fun c => c = b ∨ lab c = 0 :: (j + 2) :: p ∨ Sk lab ((j + 2) :: p) c) w0 W2 := by rw [hW2]; exact hOw1.trans (Only.set _ _ (Or.inl rfl))
      have hkeep2 : ∀ c, lab c ≠ [] → ((j + 2) :: p) <:+ lab c → W2.heap[c]? = w0.heap[c]? := fun c h1 h2 => by
        have hcb : c ≠ b := fun e => by
          rw [e, hlb] at h2
          have := same_len h2 (List.suffix_refl _) rfl
          omega
        rw [hW2, Below.heap_setCell _ _ _ _ (by show c ≠ b; exact hcb), hb1.block c (by have := hlabW c h1; omega), HW1.out, Below.heap_setCell _ _ _ _ (by show c ≠ b; exact hcb), Below.heap_setCell _ _ _ _ (by show c ≠ b; exact hcb)]
      have hz2 : W2.heap.size = w1.heap.size := by rw [hW2, size_set]
      have hMN := markNames_l lab ((j + 2) :: p) (kth ks j).names na nc (q + 3) W2 (hN.keep hkeep2) hnl (by omega)
      rw [show ((q + 3 : Nat) : Int) = (q : Int) + 1 + 1 + 1 by omega] at hMN
      have v0 : W2.cell? ⟨b, off + j * 5, none⟩ = some (.int .i64 q) := by rw [hW2, World.cell?_setCell_other _ _ _ _ (by intro e; simp only [Addr.mk.injEq, and_true, true_and] at e; omega)]; exact (hb1.cell (p := ⟨b, off + j * 5, none⟩) hlw).trans HT.out.1
      have v1 : W2.cell? ⟨b, off + j * 5 + 1, none⟩ = some (.int .i64 ((q : Int) + 1)) := by rw [hW2, World.cell?_setCell_other _ _ _ _ (by intro e; simp only [Addr.mk.injEq, and_true, true_and] at e; omega)]; exact (hb1.cell (p := ⟨b, off + j * 5 + 1, none⟩) hlw).trans HT.out.2
      have v2 : W2.cell? ⟨b, off + j * 5 + 2, none⟩ = some (.string (mtext (q + 2))) := by rw [hW2]; exact World.cell?_setCell_same _ _ _ u2
      have vm : ∀ m, ¬ (off + j * 5 ≤ m ∧ m < off + j * 5 + 3) → W2.cell? ⟨b, m, none⟩ = w0.cell? ⟨b, m, none⟩ := fun m hm => by
        rw [hW2, World.cell?_setCell_other _ _ _ _ (by intro e; simp only [Addr.mk.injEq, and_true, true_and] at e; omega)]
        exact (hb1.cell (p := ⟨b, m, none⟩) hlw).trans (HC1.out m hm)
      have HMN := hidM hMN
      have HV := hidM (And.intro v0 (And.intro v1 (And.intro v2 vm)))
      have HO2 := hidM hO2
      have HK2 := hidM hkeep2
      have HW2 : Hid (W2 = w1.setCell ⟨b, off + j * 5 + 2, none⟩ (.string (mtext (q + 2)))) := hW2
      clear hMN v0 v1 v2 vm hO2 hkeep2 hW2 hOw1 HO1 HC1 HT HMM
      go_wp2_with fail
      rw [← HW2.out]
      refine HMN.out.mono ?_
      rintro e w3 ⟨rfl, hO3, hN3⟩
      have z3 := hO3.size
      have hb3 : w3.heap[b]? = W2.heap[b]? := hO3.block b (by omega) (by rw [hlb]; simp)
      have x4 : w3.cell? ⟨b, off + j * 5 + 4, none⟩ = some (.slice ka' (kth ks j).kids.length kc') := (World.cell?_of_block (w := W2) (a := ⟨b, off + j * 5 + 4, none⟩) hb3).trans ((HV.out.2.2.2 _ (by omega)).trans p4)
      have hK3 : LKids w3 lab ((j + 2) :: p) (kth ks j).kids ka' := by
        obtain ⟨b', off', C2, k1, k2, k3⟩ := hKj
        have hlb' : (kth ks j).kids ≠ [] → w3.heap[b']? = w0.heap[b']? := fun hn => by
          have hl := (k1 hn).2.1
          rw [hO3.block b' (by have := hlabW b' (by rw [hl]; simp); omega) (by rw [hl]; simp)]
          exact HK2.out b' (by rw [hl]; simp) (by rw [hl]; exact List.suffix_cons _ _)
        refine ⟨b', off', C2, fun hn => ⟨(k1 hn).1, (k1 hn).2.1, fun i => (World.frozen?_of_block (w := w0) (a := ⟨b', i, none⟩) (hlb' hn)).trans ((k1 hn).2.2 i)⟩, fun i hi m hm => (World.cell?_of_block (w := w0) (a := ⟨b', off' + i * 5 + m, none⟩) (hlb' (by intro e; simp [e] at hi))).trans (k2 i hi m hm), fun i hi => (k3 i hi).keep fun c h1 h2 => ?_⟩
        rw [hO3.block c (by have := hlabW c h1; omega) (fun e => ?_)]
        · exact HK2.out c h1 (suffix_cons h2)
        · rw [e] at h2
          have := same_len h2 (List.suffix_refl _) rfl
          omega
      have hIH := IH j hlt lab ((j + 2) :: p) ka' kc' (q + 3 + (kth ks j).names.length) w3 hK3 (fun c hc => by have := hlabW c hc; omega) (by omega) hszj
      rw [show ((q + 3 + (kth ks j).names.length : Nat) : Int) = (q : Int) + 3 + ((kth ks j).names.length : Int) by omega] at hIH
      have HIH := hidM hIH
      have HN3 := hidM hN3
      clear hIH hN3 hKj hN u2 u3 g2
      go_wp2_with fail
      refine HIH.out.mono ?_
      rintro e w4 ⟨rfl, hO4, hK4⟩
      go_wp2_with fail
      go_roundw
      case measure => simp [intOf]; omega
      case rel =>
        have hb4 : w4.heap[b]? = W2.heap[b]? := (hO4.block b (by omega) (fun h => by
          rcases h with h | ⟨i, h⟩
          · rw [hlb] at h; simp at h
          · rw [hlb] at h
            have := List.IsSuffix.length_le h
            simp only [List.length_cons] at this
            omega)).trans hb3
        have hcl : ∀ m, w4.cell? ⟨b, m, none⟩ = W2.cell? ⟨b, m, none⟩ := fun m => World.cell?_of_block (w := W2) (a := ⟨b, m, none⟩) hb4
        have hOx : Only (fun c => c = b ∨ lab c = 0 :: (j + 2) :: p ∨ Sk lab ((j + 2) :: p) c) w0 w4 := (HO2.out.trans (hO3.wider fun c h => Or.inr (Or.inl h))).trans (hO4.wider fun c h => Or.inr (Or.inr h))
        have hN4 : LStrs w4 lab ((j + 2) :: p) (mkNs (kth ks j).names.length (q + 3)) na := fun hne => by
          obtain ⟨nb, no, n1, n2, n3, n4⟩ := HN3.out hne
          have hbb : w4.heap[nb]? = w3.heap[nb]? := hO4.block nb (by have := hlabW nb (by rw [n2]; simp); omega) (Sk.zero n2)
          exact ⟨nb, no, n1, n2, fun i => (World.frozen?_of_block (w := w3) (a := ⟨nb, i, none⟩) hbb).trans (n3 i), fun i hi => (World.cell?_of_block (w := w3) (a := ⟨nb, no + i, none⟩) hbb).trans (n4 i hi)⟩
        have hy : LRep w4 lab ((j + 2) :: p) (mk1 (kth ks j) q) (.agg #[.int .i64 q, .int .i64 ((q : Int) + 1), .string (mtext (q + 2)), .slice na (kth ks j).names.length nc, .slice ka' (kth ks j).kids.length kc']) := by
          have h := LRep.of_kids (s := (q : Int)) (n := ((q + 1 : Nat) : Int)) (t := mtext (q + 2)) (nc := nc) (kc := kc') hN4 hK4
          rw [mkNs_len, mkL_len] at h
          exact h
        have hrow := HLR.out.mark (y := mk1 (kth ks j) q) hlt hlb hlabW hOx (fun m hm => (hcl m).trans (HV.out.2.2.2 m hm)) ((hcl _).trans HV.out.1) ((hcl _).trans HV.out.2.1) ((hcl _).trans HV.out.2.2.1) ((hcl _).trans ((HV.out.2.2.2 _ (by omega)).trans p3)) ((hcl _).trans ((HV.out.2.2.2 _ (by omega)).trans p4)) hy
        refine ⟨j + 1, by omega, by go_num, ?_, hO.trans (hOx.wider fun c h => ?_), fun _ => ?_⟩
        · have h1 := HNT.out
          have h2 := HQ.out
          congr 1
          omega
        · rcases h with h | h | h
          · rw [h]; exact Or.inl hlb
          · exact Or.inr ⟨j, by rw [h]; exact List.suffix_cons _ _⟩
          · exact h.up
        · obtain ⟨C3, r1, r2⟩ := hrow
          refine ⟨C3, r1, fun i hi => ?_⟩
          show LRep w4 lab ((i + 2) :: p) (if i < j + 1 then mk1 (kth ks i) (k + nL (ks.take i)) else kth ks i) _
          have := r2 i hi
          by_cases e1 : i = j
          · subst e1
            simp only [if_pos, Nat.lt_succ_self] at this ⊢
            rw [← HQ.out]; exact this
          · simp only [if_neg e1] at this
            by_cases e2 : i < j
            · rw [if_pos (by omega)]; rw [if_pos e2] at this; exact this
            · rw [if_neg (by omega)]; rw [if_neg e2] at this; exact this
    · go_wp2_with fail
      go_ret
      have e : j = ks.length := by omega
      subst e
      by_cases hne : ks = []
      · subst hne
        exact ⟨by simp [nL], hO, 0, 0, fun _ _ => undef, fun h => absurd (by simp [mkL]) h, fun i hi => by simp [mkL] at hi, fun i hi => by simp [mkL] at hi⟩
      · obtain ⟨C3, r1, r2⟩ := hL hne
        obtain ⟨h1, h2, h3⟩ := hb hne
        refine ⟨by rw [List.take_length]; rfl, hO, b, off, C3, fun _ => ⟨h1, h2, fun i => (hO.frozen ⟨b, i, none⟩ (hlab b (by rw [h2]; simp))).trans (h3 i)⟩, fun i hi => ?_, fun i hi => ?_⟩
        · rw [mkL_len] at hi; exact r1 i hi
        · rw [mkL_len] at hi
          have : LRep wr lab ((i + 2) :: p) (if i < ks.length then mk1 (kth ks i) (k + nL (ks.take i)) else kth ks i) _ := r2 i hi
          rw [if_pos hi] at this
          rw [mkL_kth ks k i hi]; exact this
theorem markValueS_l (x : V) : MkOk x := v_ind (q := MkOk) markValueS_step x
end Go.Proofs.Ytjlifamkfdmfcaa
