import Derived.Test.YtpgcjdaahgfhgaaDoorJ3
namespace Go.Proofs.YtpgcjdaahgfhgaaDoor
set_option linter.unusedSimpArgs false
set_option linter.unusedVariables false
open Go.RowKit Go.Shelf Go.Maps

/-- A field that is marked, its kids given. -/
def markSe (K : Nat) (kids : List Se) : Se := ⟨mtext K, mtext (K + 1), ((((K + 2 : Nat) : Int) % 3) == 0), ((K + 3 : Nat) : Int), kids⟩
/-- A tree that is marked. -/
def markL : Nat → Nat → List Se → List Se
  | 0, _, _ => []
  | f + 1, K, ks => (List.range ks.length).map fun i => markSe (K + 4 * cntTo (f + 1) ks i) (markL f (K + 4 * cntTo (f + 1) ks i + 4) (sth ks i).kids)
theorem markL_at {f K : Nat} {ks : List Se} {i : Nat} (hi : i < ks.length) : sth (markL (f + 1) K ks) i = markSe (K + 4 * cntTo (f + 1) ks i) (markL f (K + 4 * cntTo (f + 1) ks i + 4) (sth ks i).kids) := by
  conv => lhs; unfold markL
  simp [sth, List.getD_eq_getElem?_getD, hi]
theorem OwnT.len0 {f : Nat} {w : World} {Q : Nat → Prop} {ks : List Se} {a : Option Addr} (h : OwnT f w Q ks a) (K : Nat) : (markL f K ks).length = ks.length := by
  cases f with
  | zero => have e : ks = [] := h; rw [e]; rfl
  | succ f => simp [markL]
theorem mtext_small (K : Nat) : (mtext K).size ≤ maxLen := by
  have : (mtext K).size ≤ 65 := by
    unfold mtext
    show (109 :: _ : List UInt8).toArray.size ≤ 65
    split
    · decide
    · have := digs_len 64 K []
      simp only [List.size_toArray, List.length_cons]
      simp at this
      omega
  unfold maxLen
  omega
theorem sth_set (L : List Se) (j : Nat) (M : Se) (hj : j < L.length) (i : Nat) : sth (L.set j M) i = if i = j then M else sth L i := by
  simp only [sth, List.getD_eq_getElem?_getD, List.getElem?_set]
  by_cases h : j = i
  · subst h; simp [hj]
  · rw [if_neg h, if_neg (fun e => h e.symm)]
theorem list_of_sth {L M : List Se} (hl : L.length = M.length) (h : ∀ i, i < L.length → sth L i = sth M i) : L = M := by
  apply List.ext_getElem hl
  intro i h1 h2
  have := h i h1
  simpa [sth, List.getD_eq_getElem?_getD, h1, h2] using this
/-- One field of a tree is put in the place of another, and nothing else is touched. -/
theorem OwnT.turn {f : Nat} {w w' : World} {Q : Nat → Prop} {L : List Se} {g : Nat} {R : Nat → Nat → Prop} {A : Nat → Option Addr} {c : Nat → Nat} {j : Nat} {M : Se} (hl : L.length ≤ 1000000) (hj : j < L.length) (h2 : Q g) (h3 : ∀ j, w.frozen? ⟨g, j, none⟩ = false)
    (h4 : ∀ i, i < L.length → ∀ b, R i b → Q b ∧ b ≠ g) (h5 : ∀ i j, i < L.length → j < L.length → i ≠ j → ∀ b, R i b → ¬ R j b)
    (h6 : ∀ i, i < L.length → Cells5 w g (i * 5) (sth L i) (A i) (c i) ∧ (sth L i).al.size ≤ maxLen ∧ (sth L i).name.size ≤ maxLen ∧ OwnT f w (R i) (sth L i).kids (A i))
    (k1 : ∀ b, Q b → b ≠ g → ¬ R j b → w'.heap[b]? = w.heap[b]?) (k2 : ∀ p, w'.frozen? ⟨g, p, none⟩ = w.frozen? ⟨g, p, none⟩) (k3 : ∀ p, (p < j * 5 ∨ j * 5 + 4 ≤ p) → w'.cell? ⟨g, p, none⟩ = w.cell? ⟨g, p, none⟩)
    (k4 : Cells5 w' g (j * 5) M (A j) (c j)) (k5 : M.al.size ≤ maxLen ∧ M.name.size ≤ maxLen) (k6 : OwnT f w' (R j) M.kids (A j)) : OwnT (f + 1) w' Q (L.set j M) (some ⟨g, 0, none⟩) := by
  refine ⟨by simpa using hl, fun _ => ⟨g, R, A, c, rfl, h2, fun p => (k2 p).trans (h3 p), by simpa using h4, by simpa using h5, fun i hi => ?_⟩⟩
  rw [List.length_set] at hi
  rw [sth_set L j M hj]
  by_cases e : i = j
  · subst e
    rw [if_pos rfl]
    exact ⟨k4, k5.1, k5.2, k6⟩
  · rw [if_neg e]
    obtain ⟨⟨q0, q1, q2, q3, q4⟩, h7, h8, h9⟩ := h6 i hi
    have hn : ∀ t, t < 5 → i * 5 + t < j * 5 ∨ j * 5 + 4 ≤ i * 5 + t := fun t ht => by omega
    exact ⟨⟨(k3 _ (hn 0 (by omega))).trans q0, (k3 _ (hn 1 (by omega))).trans q1, (k3 _ (hn 2 (by omega))).trans q2, (k3 _ (hn 3 (by omega))).trans q3, (k3 _ (hn 4 (by omega))).trans q4⟩, h7, h8, h9.keep fun b hb => k1 b (h4 i hi b hb).1 (h4 i hi b hb).2 (h5 i j hi hj e b hb)⟩
/-- So far marked. -/
structure MkT (f K : Nat) (ks : List Se) (a : Option Addr) (Q : Nat → Prop) (w : World) (j : Nat) (wr : World) : Prop where
  tree : ∃ L : List Se, L.length = ks.length ∧ (∀ i, i < j → i < ks.length → sth L i = sth (markL (f + 1) K ks) i) ∧ (∀ i, j ≤ i → i < ks.length → sth L i = sth ks i) ∧ OwnT (f + 1) wr Q L a
  fram : Fram Q w wr
theorem MkT.done {f K : Nat} {ks : List Se} {a : Option Addr} {Q : Nat → Prop} {w wr : World} (h : MkT f K ks a Q w ks.length wr) : OwnT (f + 1) wr Q (markL (f + 1) K ks) a := by
  obtain ⟨L, hl, h1, -, h2⟩ := h.tree
  have hm : (markL (f + 1) K ks).length = ks.length := by simp [markL]
  obtain rfl : L = markL (f + 1) K ks := list_of_sth (by omega) fun i hi => h1 i (by omega) (by omega)
  exact h2
/-- The world behind the four stores of a mark. -/
def fourSet (w1 w2 : World) (g o : Nat) (m1 : ByteArray) (b : Bool) (n : Int) : World := (((w2.setCell ⟨g, o + 1, none⟩ (.string m1)).setCell ⟨g, o + 2, none⟩ (.bool b)).setCell ⟨g, o + 3, none⟩ (.int .i64 n))
theorem MkT.next {f K : Nat} {ks : List Se} {Q : Nat → Prop} {w wr w5 : World} {j g : Nat} {L : List Se} {R : Nat → Nat → Prop} {A : Nat → Option Addr} {c : Nat → Nat} (hf : Fram Q w wr) (hfr : Fram Q wr w5) (hll : L.length = ks.length) (hj : j < ks.length) (m1 : ∀ i, i < j → i < ks.length → sth L i = sth (markL (f + 1) K ks) i) (m2 : ∀ i, j ≤ i → i < ks.length → sth L i = sth ks i)
    (hl : L.length ≤ 1000000) (h2 : Q g) (h3 : ∀ j, wr.frozen? ⟨g, j, none⟩ = false)
    (h4 : ∀ i, i < L.length → ∀ b, R i b → Q b ∧ b ≠ g) (h5 : ∀ i j, i < L.length → j < L.length → i ≠ j → ∀ b, R i b → ¬ R j b)
    (h6 : ∀ i, i < L.length → Cells5 wr g (i * 5) (sth L i) (A i) (c i) ∧ (sth L i).al.size ≤ maxLen ∧ (sth L i).name.size ≤ maxLen ∧ OwnT f wr (R i) (sth L i).kids (A i))
    (k1 : ∀ b, Q b → b ≠ g → ¬ R j b → w5.heap[b]? = wr.heap[b]?) (k2 : ∀ p, w5.frozen? ⟨g, p, none⟩ = wr.frozen? ⟨g, p, none⟩) (k3 : ∀ p, (p < j * 5 ∨ j * 5 + 4 ≤ p) → w5.cell? ⟨g, p, none⟩ = wr.cell? ⟨g, p, none⟩)
    (k4 : Cells5 w5 g (j * 5) (sth (markL (f + 1) K ks) j) (A j) (c j)) (k6 : OwnT f w5 (R j) (sth (markL (f + 1) K ks) j).kids (A j)) : MkT f K ks (some ⟨g, 0, none⟩) Q w (j + 1) w5 := by
  refine ⟨⟨L.set j (sth (markL (f + 1) K ks) j), by simpa using hll, fun i hi hi2 => ?_, fun i hi hi2 => ?_, OwnT.turn hl (by omega) h2 h3 h4 h5 h6 k1 k2 k3 k4 ?_ k6⟩, hf.trans hfr⟩
  · rw [sth_set L j _ (by omega)]
    by_cases e : i = j
    · rw [if_pos e, e]
    · rw [if_neg e]; exact m1 i (by omega) hi2
  · rw [sth_set L j _ (by omega), if_neg (by omega)]; exact m2 i (by omega) hi2
  · rw [markL_at hj]; exact ⟨mtext_small _, mtext_small _⟩

set_option maxRecDepth 20000 in
set_option maxHeartbeats 1600000 in
theorem markSelS_own (f : Nat) : ∀ (ks : List Se) (c K : Nat) (a : Option Addr) (w : World) (Q : Nat → Prop), OwnT f w Q ks a → (∀ b, Q b → b < w.heap.size) → K + 4 * cntTo f ks ks.length ≤ 1000000000000 →
    Calls Tryd.prog 9 #[.slice a ks.length c, .int .i64 K] w fun e w' => e = .returned (.int .i64 ((K + 4 * cntTo f ks ks.length : Nat) : Int)) ∧ OwnT f w' Q (markL f K ks) a ∧ Fram Q w w' := by
  induction f with
  | zero =>
    intro ks c K a w Q h hQ hk
    have h0 : ks = [] := h
    subst h0
    go_enter Tryd.func9, Tryd.ntmps9
    go_wp2_with fail
    go_loopw [1, 5] (fun kk i wr => kk = .int .i64 K ∧ i = .int .i64 0 ∧ wr = w) (fun _ _ _ => 0)
    case atStart => exact ⟨rfl, rfl, rfl⟩
    case round =>
      obtain ⟨rfl, rfl, rfl⟩ := hrel
      go_wp2_with fail
      go_ret
      exact ⟨by simp [cntTo], rfl, Fram.of_below (Below.refl _ _)⟩
  | succ f ih =>
    intro ks c K0 a w Q h hQ hk
    have hlen := h.1
    have HQ := hid_of hQ
    have HST : Hid (MkT f K0 ks a Q w 0 w) := hid_of ⟨⟨ks, rfl, fun i hi _ => by omega, fun _ _ _ => rfl, h⟩, Fram.of_below (Below.refl _ _)⟩
    clear h hQ
    go_enter Tryd.func9, Tryd.ntmps9
    go_wp2_with fail
    go_loopw [1, 5] (fun kk i wr => ∃ (j K : Nat) (q : Int), j ≤ ks.length ∧ Hid (q = (K : Nat) ∧ K = K0 + 4 * cntTo (f + 1) ks j) ∧ 0 ≤ q ∧ q ≤ 1000000000000 ∧ kk = .int .i64 q ∧ i = .int .i64 j ∧ Hid (MkT f K0 ks a Q w j wr)) (fun _ i _ => ks.length - (intOf i).toNat)
    case atStart => exact ⟨0, K0, K0, Nat.zero_le _, hid_of ⟨rfl, by simp [cntTo]⟩, by omega, by omega, rfl, rfl, HST⟩
    case round =>
      obtain ⟨j, K, q, hj, HK, hq0, hq1, rfl, rfl, HM⟩ := hrel
      obtain ⟨w0, rfl⟩ : ∃ x, x = wr := ⟨wr, rfl⟩
      by_cases hlt : j < ks.length
      · obtain ⟨L, hll, m1, m2, hO⟩ := HM.out.tree
        obtain ⟨g, R, A, cc, rfl, h2, h3, h4, h5, h6⟩ := hO.2 (by omega)
        have hji : (j : Int) < (ks.length : Int) := by omega
        have hfrm := HM.out.fram
        have hgW : g < w0.heap.size := Nat.lt_of_lt_of_le (HQ.out g h2) hfrm.size
        have hmono : cntTo (f + 1) ks (j + 1) ≤ cntTo (f + 1) ks ks.length := cntTo_mono _ _ (by omega)
        have hsucc := cntTo_succ (f + 1) ks j
        have hkid : cntSe (f + 1) (sth ks j) = 1 + cntTo f (sth ks j).kids (sth ks j).kids.length := cntSe_kids _ _
        have hKe := HK.out.2
        have hqK := HK.out.1
        have hKm : K + 4 + 4 * cntTo f (sth ks j).kids (sth ks j).kids.length ≤ 1000000000000 := by omega
        have hKm4 : q + 4 ≤ 1000000000000 := by omega
        have HT0 : Hid (∀ W, Calls Tryd.prog 20 #[.int .i64 q] W fun e w' => e = .returned (.string (mtext K)) ∧ Below W.heap.size W w') := hid_of fun W => by rw [hqK]; exact markText_any K W (by omega)
        have HT1 : Hid (∀ W, Calls Tryd.prog 20 #[.int .i64 (q + 1)] W fun e w' => e = .returned (.string (mtext (K + 1))) ∧ Below W.heap.size W w') := hid_of fun W => by rw [hqK]; exact markText_any (K + 1) W (by omega)
        have HV : Hid (((q + 1 + 1) % 3 == 0) = ((((K + 2 : Nat) : Int) % 3) == 0) ∧ q + 1 + 1 + 1 = ((K + 3 : Nat) : Int)) := hid_of ⟨by rw [hqK]; rfl, by omega⟩
        have HKN : Hid (K + 4 + 4 * cntTo f (sth ks j).kids (sth ks j).kids.length = K0 + 4 * cntTo (f + 1) ks (j + 1)) := hid_of (by omega)
        obtain ⟨⟨q0, q1, q2, q3, q4⟩, -, -, hKids⟩ := h6 j (by omega)
        rw [m2 j (Nat.le_refl _) hlt] at q0 q1 q2 q3 q4 hKids
        have q5 := h3
        have HN : Hid (∀ w5, Fram Q w0 w5 → (∀ b, Q b → b ≠ g → ¬ R j b → w5.heap[b]? = w0.heap[b]?) → (∀ p, w5.frozen? ⟨g, p, none⟩ = w0.frozen? ⟨g, p, none⟩) → (∀ p, (p < j * 5 ∨ j * 5 + 4 ≤ p) → w5.cell? ⟨g, p, none⟩ = w0.cell? ⟨g, p, none⟩) →
            Cells5 w5 g (j * 5) (markSe K (markL f (K + 4) (sth ks j).kids)) (A j) (cc j) → OwnT f w5 (R j) (markL f (K + 4) (sth ks j).kids) (A j) → MkT f K0 ks (some ⟨g, 0, none⟩) Q w (j + 1) w5) := hid_of fun w5 a1 a2 a3 a4 a5 a6 => by
          refine MkT.next hfrm a1 hll hlt m1 m2 hO.1 h2 h3 h4 h5 h6 a2 a3 a4 ?_ ?_
          · rw [markL_at hlt, ← hKe]; exact a5
          · rw [markL_at hlt, ← hKe]; exact a6
        have HR : Hid (∀ b, R j b → Q b ∧ b ≠ g) := hid_of (h4 j (by omega))
        have HIH := hid_of (fun W (hW : ∀ b, R j b → W.heap[b]? = w0.heap[b]?) (hz : w0.heap.size ≤ W.heap.size) => show Calls Tryd.prog 9 #[.slice (A j) (sth ks j).kids.length (cc j), .int .i64 (q + 1 + 1 + 1 + 1)] W _ from by
          have h := ih (sth ks j).kids (cc j) (K + 4) (A j) W (R j) (hKids.keep hW) (fun b hb => Nat.lt_of_lt_of_le (Nat.lt_of_lt_of_le (HQ.out b (h4 j (by omega) b hb).1) hfrm.size) hz) (by omega)
          rw [show ((K + 4 : Nat) : Int) = q + 1 + 1 + 1 + 1 by omega] at h
          exact h)
        have HRL : Hid (∀ b, R j b → b < w0.heap.size) := hid_of fun b hb => Nat.lt_of_lt_of_le (HQ.out b (h4 j (by omega) b hb).1) hfrm.size
        have HML : Hid ((markL f (K + 4) (sth ks j).kids).length = (sth ks j).kids.length) := hid_of (hKids.len0 _)
        have HQg := hid_of h2
        have HQL : Hid (∀ b, Q b → b < w0.heap.size) := hid_of fun b hb => Nat.lt_of_lt_of_le (HQ.out b hb) hfrm.size
        generalize sth ks j = s at *
        generalize A j = Aj at *
        generalize cc j = cj at *
        generalize R j = Rj at *
        have HS : Hid (Cells5 w0 g (j * 5) s Aj cj) := hid_of ⟨q0, q1, q2, q3, q4⟩
        have HFZ := hid_of h3
        clear q0 q1 q2 q3 q4 hKids h2 h3 h4 h5 h6 q5 hfrm hmono hsucc hkid hO m1 m2 hll hKe hk hqK
        go_wp2_with fail
        refine (HT0.out w0).mono ?_
        rintro e w1 ⟨rfl, hb1⟩
        have z1 := hb1.size
        have S1 := HS.out.keep (hb1.block g hgW)
        have fz1 : Hid (∀ p, w1.frozen? ⟨g, p, none⟩ = false) := hid_of fun p => (World.frozen?_of_block (a := ⟨g, p, none⟩) (hb1.block g hgW)).trans (HFZ.out p)
        have HS1 := hid_of S1
        have t0 := S1.1
        have f0 := fz1.out (j * 5)
        clear S1
        go_wp2_with fail
        obtain ⟨W1, hW1⟩ : ∃ W, W = w1.setCell ⟨g, j * 5, none⟩ (.string (mtext K)) := ⟨_, rfl⟩
        rw [← hW1]
        have zW1 : W1.heap.size = w1.heap.size := by rw [hW1]; exact size_set _ _ _
        have u0 : W1.cell? ⟨g, j * 5, none⟩ = some (.string (mtext K)) := by rw [hW1]; exact World.cell?_setCell_same _ _ _ t0
        have uo : ∀ p, p ≠ j * 5 → W1.cell? ⟨g, p, none⟩ = w1.cell? ⟨g, p, none⟩ := fun p hp => by rw [hW1]; exact World.cell?_setCell_other _ _ _ _ (by intro e; simp only [Addr.mk.injEq] at e; omega)
        have bq : ∀ b, b ≠ g → W1.heap[b]? = w1.heap[b]? := fun b hb => by rw [hW1]; exact Below.heap_setCell _ _ _ _ hb
        have fq : ∀ p, W1.frozen? ⟨g, p, none⟩ = false := fun p => by rw [hW1, World.frozen?_setCell]; exact fz1.out p
        have oq : W1.os = w1.os ∧ W1.tape = w1.tape ∧ W1.output = w1.output := by rw [hW1]; exact ⟨rfl, rfl, rfl⟩
        have HW1 := hid_of (And.intro u0 (And.intro uo (And.intro bq (And.intro fq oq))))
        clear u0 uo bq fq oq hW1 t0 f0
        refine (HT1.out W1).mono ?_
        rintro e w2 ⟨rfl, hb2⟩
        have z2 := hb2.size
        have hg1 : g < W1.heap.size := by omega
        have e2 : ∀ p, w2.cell? ⟨g, p, none⟩ = W1.cell? ⟨g, p, none⟩ := fun p => World.cell?_of_block (a := ⟨g, p, none⟩) (hb2.block g hg1)
        have HC2 : Hid (∀ p, p ≠ j * 5 → w2.cell? ⟨g, p, none⟩ = w1.cell? ⟨g, p, none⟩) := hid_of fun p hp => (e2 p).trans (HW1.out.2.1 p hp)
        have v0 : Hid (w2.cell? ⟨g, j * 5, none⟩ = some (.string (mtext K))) := hid_of ((e2 _).trans HW1.out.1)
        have v1 : w2.cell? ⟨g, j * 5 + 1, none⟩ = some (.string s.name) := (HC2.out _ (by omega)).trans HS1.out.2.1
        have v2 : w2.cell? ⟨g, j * 5 + 2, none⟩ = some (.bool s.one) := (HC2.out _ (by omega)).trans HS1.out.2.2.1
        have v3 : w2.cell? ⟨g, j * 5 + 3, none⟩ = some (.int .i64 s.id) := (HC2.out _ (by omega)).trans HS1.out.2.2.2.1
        have v4 : w2.cell? ⟨g, j * 5 + 4, none⟩ = some (.slice Aj s.kids.length cj) := (HC2.out _ (by omega)).trans HS1.out.2.2.2.2
        have F2 : Hid (∀ p, w2.frozen? ⟨g, p, none⟩ = false) := hid_of fun p => (World.frozen?_of_block (a := ⟨g, p, none⟩) (hb2.block g hg1)).trans (HW1.out.2.2.2.1 p)
        have f1 := F2.out (j * 5 + 1)
        have f2 := F2.out (j * 5 + 2)
        have f3 := F2.out (j * 5 + 3)
        have B2 : Hid (∀ b, b < w0.heap.size → b ≠ g → w2.heap[b]? = w0.heap[b]?) := hid_of fun b hb hne => (hb2.block b (by omega)).trans ((HW1.out.2.2.1 b hne).trans (hb1.block b hb))
        have OS2 : Hid (w2.os = w0.os ∧ w2.tape = w0.tape ∧ w2.output = w0.output) := hid_of ⟨hb2.os.trans (HW1.out.2.2.2.2.1.trans hb1.os), hb2.tape.trans (HW1.out.2.2.2.2.2.1.trans hb1.tape), hb2.output.trans (HW1.out.2.2.2.2.2.2.trans hb1.output)⟩
        have C2 : Hid (∀ p, p ≠ j * 5 → w2.cell? ⟨g, p, none⟩ = w0.cell? ⟨g, p, none⟩) := hid_of fun p hp => (HC2.out p hp).trans (World.cell?_of_block (a := ⟨g, p, none⟩) (hb1.block g hgW))
        have z02 : w0.heap.size ≤ w2.heap.size := by omega
        clear e2 hb1 hb2 HW1 HC2 HS1 fz1 zW1 z1 z2 hg1
        go_wp2_with fail
        obtain ⟨X, hX⟩ : ∃ X, X = ((w2.setCell ⟨g, j * 5 + 1, none⟩ (.string (mtext (K + 1)))).setCell ⟨g, j * 5 + 2, none⟩ (.bool ((q + 1 + 1) % 3 == 0))).setCell ⟨g, j * 5 + 3, none⟩ (.int .i64 (q + 1 + 1 + 1)) := ⟨_, rfl⟩
        rw [← hX]
        have zX : X.heap.size = w2.heap.size := by rw [hX]; simp only [size_set]
        have bX : ∀ b, b < w0.heap.size → b ≠ g → X.heap[b]? = w0.heap[b]? := fun b hb hne => by
          rw [hX, Below.heap_setCell _ _ _ _ hne, Below.heap_setCell _ _ _ _ hne, Below.heap_setCell _ _ _ _ hne]
          exact B2.out b hb hne
        have fX : ∀ p, X.frozen? ⟨g, p, none⟩ = false := fun p => by rw [hX, World.frozen?_setCell, World.frozen?_setCell, World.frozen?_setCell]; exact F2.out p
        have cX : ∀ p, (p < j * 5 + 1 ∨ j * 5 + 4 ≤ p) → X.cell? ⟨g, p, none⟩ = w2.cell? ⟨g, p, none⟩ := fun p hp => by
          rw [hX, World.cell?_setCell_other _ _ _ _ (by intro e; simp only [Addr.mk.injEq] at e; omega), World.cell?_setCell_other _ _ _ _ (by intro e; simp only [Addr.mk.injEq] at e; omega), World.cell?_setCell_other _ _ _ _ (by intro e; simp only [Addr.mk.injEq] at e; omega)]
        have x1 : X.cell? ⟨g, j * 5 + 1, none⟩ = some (.string (mtext (K + 1))) := by
          rw [hX, World.cell?_setCell_other _ _ _ _ (by simp), World.cell?_setCell_other _ _ _ _ (by simp)]
          exact World.cell?_setCell_same _ _ _ v1
        have x2 : X.cell? ⟨g, j * 5 + 2, none⟩ = some (.bool ((q + 1 + 1) % 3 == 0)) := by
          rw [hX, World.cell?_setCell_other _ _ _ _ (by simp)]
          exact World.cell?_setCell_same _ _ _ ((World.cell?_setCell_other _ _ _ _ (by simp)).trans v2)
        have x3 : X.cell? ⟨g, j * 5 + 3, none⟩ = some (.int .i64 (q + 1 + 1 + 1)) := by
          rw [hX]
          exact World.cell?_setCell_same _ _ _ ((World.cell?_setCell_other _ _ _ _ (by simp)).trans ((World.cell?_setCell_other _ _ _ _ (by simp)).trans v3))
        have oX : X.os = w0.os ∧ X.tape = w0.tape ∧ X.output = w0.output := by rw [hX]; exact OS2.out
        refine (HIH.out X (fun b hb => bX b (HRL.out b hb) (HR.out b hb).2) (by omega)).mono ?_
        rintro e w5 ⟨rfl, hO5, hF5⟩
        have hgX : g < X.heap.size := by omega
        have hbg : w5.heap[g]? = X.heap[g]? := hF5.block g hgX fun h => (HR.out g h).2 rfl
        have e5 : ∀ p, w5.cell? ⟨g, p, none⟩ = X.cell? ⟨g, p, none⟩ := fun p => World.cell?_of_block (a := ⟨g, p, none⟩) hbg
        have hfin := HN.out w5 ⟨hF5.os.trans oX.1, hF5.tape.trans oX.2.1, hF5.output.trans oX.2.2, by have := hF5.size; omega, fun b hb hn => (hF5.block b (by omega) fun h => hn (HR.out b h).1).trans (bX b hb fun e => hn (by rw [e]; exact HQg.out))⟩
          (fun b hb hne hn => by
            by_cases hlt2 : b < w0.heap.size
            · exact (hF5.block b (by omega) hn).trans (bX b hlt2 hne)
            · exact absurd (HQL.out b hb) hlt2)
          (fun p => ((World.frozen?_of_block (a := ⟨g, p, none⟩) hbg).trans (fX p)).trans (HFZ.out p).symm)
          (fun p hp => ((e5 p).trans (cX p (by omega))).trans (C2.out p (by omega)))
          ⟨((e5 _).trans (cX _ (by omega))).trans v0.out, (e5 _).trans x1, ((e5 _).trans x2).trans (by rw [HV.out.1]; rfl), ((e5 _).trans x3).trans (by rw [HV.out.2]; rfl), ((e5 _).trans (cX _ (by omega))).trans (v4.trans (by show _ = some (Value.slice Aj (markL f (K + 4) s.kids).length cj); rw [HML.out]))⟩ hO5
        have HFI := hid_of hfin
        clear hfin hO5 hF5 x1 x2 x3 cX fX bX hX v1 v2 v3 v4 f1 f2 f3 e5 hbg oX
        go_wp2_with fail
        go_roundw
        case rel => exact ⟨j + 1, K + 4 + 4 * cntTo f s.kids s.kids.length, _, by omega, hid_of ⟨rfl, HKN.out⟩, by omega, by omega, rfl, by go_num, HFI⟩
        case measure => simp [intOf]; omega
      · have e : j = ks.length := by omega
        subst e
        go_wp2_with fail
        go_ret
        exact ⟨by rw [HK.out.1, HK.out.2]; rfl, HM.out.done, HM.out.fram⟩

set_option maxRecDepth 20000 in
set_option maxHeartbeats 1600000 in
theorem heldSelS_own (f : Nat) : ∀ (ks : List Se) (c K : Nat) (a : Option Addr) (w : World) (Q : Nat → Prop), OwnT f w Q (markL f K ks) a → (∀ b, Q b → b < w.heap.size) → FitS f ks → K + 4 * cntTo f ks ks.length ≤ 1000000000000 →
    Calls Tryd.prog 10 #[.slice a ks.length c, .int .i64 K] w fun e w' => e = .returned (.int .i64 ((K + 4 * cntTo f ks ks.length : Nat) : Int)) ∧ Below w.heap.size w w' := by
  induction f with
  | zero =>
    intro ks c K a w Q h hQ hfit hk
    have e : ks = [] := hfit
    subst e
    go_enter Tryd.func10, Tryd.ntmps10
    go_wp2_with fail
    go_loopw [1, 5] (fun kk i wr => kk = .int .i64 K ∧ i = .int .i64 0 ∧ wr = w) (fun _ _ _ => 0)
    case atStart => exact ⟨rfl, rfl, rfl⟩
    case round =>
      obtain ⟨rfl, rfl, rfl⟩ := hrel
      go_wp2_with fail
      go_ret
      exact ⟨by simp [cntTo], Below.refl _ _⟩
  | succ f ih =>
    intro ks c K0 a w Q h hQ hfit hk
    have hml : (markL (f + 1) K0 ks).length = ks.length := by simp [markL]
    have hlen : ks.length ≤ 1000000 := by have := h.1; omega
    have HQ := hid_of hQ
    have HO := hid_of h
    clear h hQ
    go_enter Tryd.func10, Tryd.ntmps10
    go_wp2_with fail
    go_loopw [1, 5] (fun kk i wr => ∃ (j K : Nat) (q : Int), j ≤ ks.length ∧ Hid (q = (K : Nat) ∧ K = K0 + 4 * cntTo (f + 1) ks j) ∧ 0 ≤ q ∧ q ≤ 1000000000000 ∧ kk = .int .i64 q ∧ i = .int .i64 j ∧ Below w.heap.size w wr) (fun _ i _ => ks.length - (intOf i).toNat)
    case atStart => exact ⟨0, K0, K0, Nat.zero_le _, hid_of ⟨rfl, by simp [cntTo]⟩, by omega, by omega, rfl, rfl, Below.refl _ _⟩
    case round =>
      obtain ⟨j, K, q, hj, HK, hq0, hq1, rfl, rfl, hb⟩ := hrel
      obtain ⟨w0, rfl⟩ : ∃ x, x = wr := ⟨wr, rfl⟩
      have zb := hb.size
      by_cases hlt : j < ks.length
      · obtain ⟨g, R, A, cc, rfl, h2, h3, h4, h5, h6⟩ := HO.out.2 (by omega)
        have hji : (j : Int) < (ks.length : Int) := by omega
        have hgW : g < w.heap.size := HQ.out g h2
        have hmono : cntTo (f + 1) ks (j + 1) ≤ cntTo (f + 1) ks ks.length := cntTo_mono _ _ (by omega)
        have hsucc := cntTo_succ (f + 1) ks j
        have hkid : cntSe (f + 1) (sth ks j) = 1 + cntTo f (sth ks j).kids (sth ks j).kids.length := cntSe_kids _ _
        have hKe := HK.out.2
        have hqK := HK.out.1
        have hKm4 : q + 4 ≤ 1000000000000 := by omega
        have HKN : Hid (K + 4 + 4 * cntTo f (sth ks j).kids (sth ks j).kids.length = K0 + 4 * cntTo (f + 1) ks (j + 1)) := hid_of (by omega)
        have hKb : K + 4 + 4 * cntTo f (sth ks j).kids (sth ks j).kids.length ≤ 1000000000000 := by omega
        obtain ⟨hc5, -, -, hKids⟩ := h6 j (by omega)
        rw [markL_at hlt, ← hKe] at hc5 hKids
        have hfk := hfit j hlt
        have HM0 : Hid (∀ W, Calls Tryd.prog 20 #[.int .i64 q] W fun e w' => e = .returned (.string (mtext K)) ∧ Below W.heap.size W w') := hid_of fun W => by rw [hqK]; exact markText_any K W (by omega)
        have HM1 : Hid (∀ W, Calls Tryd.prog 20 #[.int .i64 (q + 1)] W fun e w' => e = .returned (.string (mtext (K + 1))) ∧ Below W.heap.size W w') := hid_of fun W => by rw [hqK]; exact markText_any (K + 1) W (by omega)
        obtain ⟨mm, hm0, hm1, HMM⟩ : ∃ mm : Int, 0 ≤ mm ∧ mm ≤ 1000000000000 ∧ Hid (((K + 4 + 4 * cntTo f (sth ks j).kids (sth ks j).kids.length : Nat) : Int) = mm) := ⟨_, by omega, by omega, hid_of rfl⟩
        have HIH : Hid (∀ W, Below w.heap.size w W → Calls Tryd.prog 10 #[.slice (A j) (sth ks j).kids.length (cc j), .int .i64 (q + 1 + 1 + 1 + 1)] W fun e w' => e = .returned (.int .i64 mm) ∧ Below W.heap.size W w') := hid_of (fun W (hW : Below w.heap.size w W) => by
          have h := ih (sth ks j).kids (cc j) (K + 4) (A j) W (R j) (hKids.keep fun b hb2 => hW.block b (HQ.out b (h4 j (by omega) b hb2).1)) (fun b hb2 => Nat.lt_of_lt_of_le (HQ.out b (h4 j (by omega) b hb2).1) hW.size) hfk hKb
          rw [show ((K + 4 : Nat) : Int) = q + 1 + 1 + 1 + 1 by omega, HMM.out] at h
          exact h)
        have hml2 : (markL f (K + 4) (sth ks j).kids).length = (sth ks j).kids.length := by
          cases f with
          | zero => have e : (sth ks j).kids = [] := hfk; rw [e]; rfl
          | succ f => simp [markL]
        have HC : Hid (∀ W, Below w.heap.size w W → W.cell? ⟨g, j * 5, none⟩ = some (.string (mtext K)) ∧ W.cell? ⟨g, j * 5 + 1, none⟩ = some (.string (mtext (K + 1))) ∧ W.cell? ⟨g, j * 5 + 2, none⟩ = some (.bool ((q + 1 + 1) % 3 == 0)) ∧ W.cell? ⟨g, j * 5 + 3, none⟩ = some (.int .i64 (q + 1 + 1 + 1)) ∧ W.cell? ⟨g, j * 5 + 4, none⟩ = some (.slice (A j) (sth ks j).kids.length (cc j))) := hid_of fun W hW => by
          obtain ⟨q0, q1, q2, q3, q4⟩ := hc5.keep (hW.block g hgW)
          refine ⟨q0, q1, q2.trans ?_, q3.trans ?_, q4.trans ?_⟩
          · rw [hqK]; rfl
          · rw [hqK]; rfl
          · show some (Value.slice (A j) (markL f (K + 4) (sth ks j).kids).length (cc j)) = _; rw [hml2]
        generalize sth ks j = s at *
        generalize A j = Aj at *
        generalize cc j = cj at *
        generalize mtext K = mt0 at *
        generalize mtext (K + 1) = mt1 at *
        clear hc5 hKids h2 h3 h4 h5 h6 hmono hsucc hkid hKe hqK hk hml2 ih hml hfk hfit
        obtain ⟨c0, -⟩ := HC.out w0 hb
        go_wp2_with fail
        go_region_held3 (fun w' => w'.cell? ⟨g, j * 5, none⟩ = some (.string mt0)) (go_keep)
          (first
            | (
              go_at_call 20
              refine (HM0.out w0.drew).mono ?_
              rintro e w1 ⟨rfl, hb1⟩
              have hw1 := hb.trans ((below_undrew hb1).mono zb)
              clear hb1
              obtain ⟨d0, -⟩ := HC.out w1 hw1))
        obtain ⟨-, d1, -⟩ := HC.out w1 hw1
        have z1 := hw1.size
        go_wp2_with fail
        go_region_held3 (fun w' => w'.cell? ⟨g, j * 5 + 1, none⟩ = some (.string mt1)) (go_keep)
          (first
            | (
              go_at_call 20
              refine (HM1.out w1.drew).mono ?_
              rintro e w2 ⟨rfl, hb2⟩
              have hw2 := hw1.trans ((below_undrew hb2).mono z1)
              clear hb2
              obtain ⟨-, f1, -⟩ := HC.out w2 hw2))
        obtain ⟨-, -, f2, f3, f4⟩ := HC.out w2 hw2
        have hmn : ¬ mm < 0 := by omega
        go_wp2_with fail
        refine (HIH.out w2 hw2).mono ?_
        rintro e w3 ⟨rfl, hb3⟩
        have hw3 := hw2.trans (hb3.mono hw2.size)
        go_wp2_with fail
        go_roundw
        case rel => exact ⟨j + 1, K + 4 + 4 * cntTo f s.kids s.kids.length, _, by omega, hid_of ⟨HMM.out.symm, HKN.out⟩, hm0, hm1, rfl, by go_num, hw3⟩
        case measure => simp [intOf]; omega
      · go_wp2_with fail
        go_ret
        have e : j = ks.length := by omega
        exact ⟨by rw [HK.out.1, HK.out.2, e]; rfl, hb⟩
end Go.Proofs.YtpgcjdaahgfhgaaDoor
