/-
  A value that is copied place by place: one round.
-/
import Derived.Test.YtjlifamkfdmfcaaSOwn
import Derived.Test.YtjlifamkfdmfcaaLOpen
import Derived.Deep.LoopGhost
import Derived.Deep.RegionHeld3
import Derived.Deep.DeepCutAuto
namespace Go.Proofs.Ytjlifamkfdmfcaa
set_option linter.unusedSimpArgs false
set_option linter.unusedVariables false
open Go.RowKit

/-- What copyValue does. -/
def CvL (x : V) (w : World) (B : Nat) (v : Value) : Prop :=
  Calls Try.prog 50 #[v] w fun e w' => ∃ (na ka : Option Addr) (nc kc : Nat), e = .returned (.agg #[.int .i64 x.sort, .int .i64 x.num, .string x.text, .slice na x.names.length nc, .slice ka x.kids.length kc]) ∧ Below w.heap.size w w' ∧
    Rep w' (fun b => w.heap.size ≤ b ∧ b < w'.heap.size) x (.agg #[.int .i64 x.sort, .int .i64 x.num, .string x.text, .slice na x.names.length nc, .slice ka x.kids.length kc]) ∧
    ∃ lab : Nat → List Nat, (∀ b, lab b ≠ [] → w.heap.size ≤ b ∧ b < w'.heap.size) ∧ LRep w' lab [] x (.agg #[.int .i64 x.sort, .int .i64 x.num, .string x.text, .slice na x.names.length nc, .slice ka x.kids.length kc])

/-- What holds in a round: the open places, their row of pointers, what is made so far. -/
def OpensL (w0 : World) (B root : Nat) (x : V) (wr : World) (lab : Nat → List Nat) (T : Nat → Prop) (L : List Pq) (vo : Value) : Prop :=
  (∀ b, lab b ≠ [] → T b ∧ b ≠ root) ∧ ClosesL wr lab root T L root x ∧ (∀ c, T c → root ≤ c ∧ c < wr.heap.size ∧ c ≠ root + 1 ∧ vo.ownBlock ≠ some c) ∧ T root ∧
  (∀ e, e ∈ L → T e.b ∧ RepAt wr (· < B) e.b e.o e.y ∧ (∃ f, fit f e.y) ∧ ∀ i, wr.frozen? ⟨e.b, i, none⟩ = false) ∧ L.Pairwise (fun e e' => e.b ≠ e'.b ∨ e.o + 5 ≤ e'.o ∨ e'.o + 5 ≤ e.o) ∧
  wr.ownsRow (root + 1 + 1) 115 1 vo L.length (L.map fun e => .pointer (some ⟨e.b, e.o, none⟩)) ∧ Below root w0 wr ∧ ∃ y0 y1 y2 y3 y4, Row5 wr (root + 1) y0 y1 y2 y3 y4

theorem OpensL.start (f : Nat) (s n : Int) (t : ByteArray) (ns : List ByteArray) (ks : List V) (na ka : Option Addr) (nc kc : Nat) (w : World) (B : Nat) (hfit : fit f (.mk s n t ns ks)) (hR : Rep w (· < B) (.mk s n t ns ks) (.agg #[.int .i64 s, .int .i64 n, .string t, .slice na ns.length nc, .slice ka ks.length kc])) (hB : B ≤ w.heap.size) :
    OpensL w B w.heap.size (.mk s n t ns ks) (((w.alloc (.cells #[.int .i64 s, .int .i64 n, .string t, .slice na ns.length nc, .slice ka ks.length kc] 27)).alloc (.cells #[.int .i64 0, .int .i64 0, .string ByteArray.empty, .slice none 0 0, .slice none 0 0] 27)).alloc (.cells #[.pointer (some ⟨w.heap.size, 0, none⟩)] 115))
      (fun _ => []) (fun c => c = w.heap.size) [⟨[], w.heap.size, 0, .mk s n t ns ks⟩] (.slice (some ⟨w.heap.size + 1 + 1, 0, none⟩) 1 1) := by
  have b1 := below_box w (.cells #[.int .i64 s, .int .i64 n, .string t, .slice na ns.length nc, .slice ka ks.length kc] 27)
  have r0 := Row5.new w (.int .i64 s) (.int .i64 n) (.string t) (.slice na ns.length nc) (.slice ka ks.length kc)
  have z1 : (w.alloc (.cells #[.int .i64 s, .int .i64 n, .string t, .slice na ns.length nc, .slice ka ks.length kc] 27)).heap.size = w.heap.size + 1 := by simp
  generalize w.alloc (.cells #[.int .i64 s, .int .i64 n, .string t, .slice na ns.length nc, .slice ka ks.length kc] 27) = w1 at b1 r0 z1
  have b2 := below_box w1 (.cells #[.int .i64 0, .int .i64 0, .string ByteArray.empty, .slice none 0 0, .slice none 0 0] 27)
  have r1 := Row5.new w1 (.int .i64 0) (.int .i64 0) (.string ByteArray.empty) (.slice none 0 0) (.slice none 0 0)
  have z2 : (w1.alloc (.cells #[.int .i64 0, .int .i64 0, .string ByteArray.empty, .slice none 0 0, .slice none 0 0] 27)).heap.size = w1.heap.size + 1 := by simp
  generalize w1.alloc (.cells #[.int .i64 0, .int .i64 0, .string ByteArray.empty, .slice none 0 0, .slice none 0 0] 27) = w2 at b2 r1 z2
  have b3 := below_box w2 (.cells #[.pointer (some ⟨w.heap.size, 0, none⟩)] 115)
  have z3 : (w2.alloc (.cells #[.pointer (some ⟨w.heap.size, 0, none⟩)] 115)).heap.size = w2.heap.size + 1 := by simp
  have k3 := heap_alloc_new w2 (.cells #[.pointer (some ⟨w.heap.size, 0, none⟩)] 115)
  generalize w2.alloc (.cells #[.pointer (some ⟨w.heap.size, 0, none⟩)] 115) = w3 at b3 z3 k3
  have hb : Below w.heap.size w w3 := (b1.trans (b2.mono (by omega))).trans (b3.mono (by omega))
  have R0 := (r0.of_block (b2.block _ (by omega))).of_block (b3.block _ (by omega))
  rw [z1] at r1
  have R1 := r1.of_block (b3.block _ (by omega))
  obtain ⟨c0, c1, c2, c3, c4⟩ := R0.five
  refine ⟨fun b hb => absurd rfl hb, ClosesL.start _ _ _ _ _ _, fun c hc => ?_, rfl, fun e he => ?_, by simp, ⟨by simp, Or.inr ⟨w.heap.size + 1 + 1, 1, #[.pointer (some ⟨w.heap.size, 0, none⟩)], rfl, Nat.le_refl _, ?_, Nat.le_refl _, by simp [maxLen], by simp, by simp⟩⟩, hb, _, _, _, _, _, R1⟩
  · subst hc
    refine ⟨Nat.le_refl _, by omega, by omega, ?_⟩
    simp [Value.ownBlock]; omega
  · obtain rfl : e = ⟨[], w.heap.size, 0, .mk s n t ns ks⟩ := by simpa using he
    exact ⟨rfl, ⟨_, _, _, _, _, c0, c1, c2, c3, c4, hR.under (hb.mono hB)⟩, ⟨f, hfit⟩, R0.frozen⟩
  · rw [show w.heap.size + 1 + 1 = w2.heap.size by omega]; exact k3

theorem frozen_below {w w' : World} {b : Nat} (h : Below w.heap.size w w') (hb : b < w.heap.size) (i : Nat) : w'.frozen? ⟨b, i, none⟩ = w.frozen? ⟨b, i, none⟩ := by
  have := h.block b hb
  simp [World.frozen?, this]
theorem owns_slice {w : World} {base : Nat} {e : TypeId} {k : Nat} {v : Value} {n : Nat} {xs : List Value} (h : w.ownsRow base e k v n xs) : ∃ (a : Option Addr) (cap : Nat), v = .slice a n cap := by
  rcases h.2 with ⟨rfl, rfl⟩ | ⟨g, cap, cur, rfl, -⟩
  · exact ⟨none, 0, rfl⟩
  · exact ⟨_, cap, rfl⟩

theorem kidQ_apart (p : List Nat) (kb : Nat) (ks : List V) : ∀ n, (kidQ p kb ks n).Pairwise (fun e e' => e.b ≠ e'.b ∨ e.o + 5 ≤ e'.o ∨ e'.o + 5 ≤ e.o)
  | 0 => by simp [kidQ]
  | n + 1 => by
    rw [kidQ_succ, List.pairwise_append]
    refine ⟨kidQ_apart p kb ks n, by simp, fun e he e' he' => ?_⟩
    obtain ⟨i, hi, rfl⟩ := kidQ_mem he
    obtain rfl : e' = ⟨(n + 2) :: p, kb, n * 5, kth ks n⟩ := by simpa using he'
    right; left
    show i * 5 + 5 ≤ n * 5
    omega

theorem OpensL.turn {w wr wx : World} {B root : Nat} {x : V} {lab : Nat → List Nat} {T N : Nat → Prop} {L0 : List Pq} {p : List Nat} {b o : Nat} {s n : Int} {t : ByteArray} {ns : List ByteArray} {ks : List V} {vo vo' : Value} {og g : Nat} {na ka : Option Addr} {nc kc : Nat}
    (hO : OpensL w B root x wr lab T (L0 ++ [⟨p, b, o, .mk s n t ns ks⟩]) vo) (hBr : B ≤ root) (hog : vo.ownBlock = some og)
    (hsz : wr.heap.size ≤ wx.heap.size) (hos : wx.os = wr.os) (htp : wx.tape = wr.tape) (hou : wx.output = wr.output)
    (hblk : ∀ c, c < wr.heap.size → c ≠ b → c ≠ og → wx.heap[c]? = wr.heap[c]?)
    (hcell : ∀ i, i ≠ o + 3 → i ≠ o + 4 → wx.cell? ⟨b, i, none⟩ = wr.cell? ⟨b, i, none⟩) (hfz : ∀ i, wx.frozen? ⟨b, i, none⟩ = wr.frozen? ⟨b, i, none⟩)
    (c3 : wx.cell? ⟨b, o + 3, none⟩ = some (.slice na ns.length nc)) (c4 : wx.cell? ⟨b, o + 4, none⟩ = some (.slice ka ks.length kc))
    (hN : ∀ c, N c → wr.heap.size ≤ c ∧ c < wx.heap.size ∧ c ≠ g ∧ vo'.ownBlock ≠ some c) (hS : Strs wx N ns na) (hnc : ns.length ≤ nc) (hsf : ∀ nb off, na = some ⟨nb, off, none⟩ → ∀ i, wx.frozen? ⟨nb, i, none⟩ = false)
    (hg : wr.heap.size ≤ g) (hgx : ks ≠ [] → g < wx.heap.size) (hka : ks ≠ [] → ka = some ⟨g, 0, none⟩) (hgo : ks ≠ [] → vo'.ownBlock ≠ some g) (hgf : ks ≠ [] → ∀ i, wx.frozen? ⟨g, i, none⟩ = false)
    (hkids : ∀ i, i < ks.length → RepAt wx (· < B) g (i * 5) (kth ks i)) (hvo : ∀ c, c < wr.heap.size → vo'.ownBlock = some c → c = og)
    (hown : wx.ownsRow (root + 1 + 1) 115 1 vo' (L0.length + ks.length) ((L0 ++ kidQ p g ks ks.length).map fun e => .pointer (some ⟨e.b, e.o, none⟩))) :
    ∃ lab2, OpensL w B root x wx lab2 (fun c => T c ∨ N c ∨ (ks ≠ [] ∧ c = g)) (L0 ++ kidQ p g ks ks.length) vo' := by
  classical
  obtain ⟨hLb, hCl, hT, hTr, hLe, hap, hownr, hbel, y0, y1, y2, y3, y4, hr1⟩ := hO
  have hogl := hownr.lt og hog
  have hr1l := hr1.lt
  obtain ⟨hTb, ⟨d0, d1, d2, d3, d4, p0, p1, p2, p3, p4, hrep⟩, ⟨fe, hfe⟩, hfb⟩ := hLe ⟨p, b, o, .mk s n t ns ks⟩ (by simp)
  simp only at hTb p0 p1 p2 p3 p4 hrep hfe hfb
  obtain ⟨na0, ka0, nc0, kc0, e5, -, -, ht, hbs, hK⟩ := hrep.inv
  simp only [Value.agg.injEq, Array.mk.injEq, List.cons.injEq, and_true] at e5
  obtain ⟨rfl, rfl, rfl, rfl, rfl⟩ := e5
  have hkf : ∀ i, i < ks.length → ∃ f, fit f (kth ks i) := by
    match fe, hfe with
    | fe + 1, hfe => exact fun i hi => ⟨fe, hfe.2.2 i hi⟩
  have hTB := hT b hTb
  have hbw : Below root wr wx := ⟨hos, htp, hou, hsz, fun c hc => hblk c (by omega) (by omega) (by omega)⟩
  rw [List.pairwise_append] at hap
  have hap' : ∀ e, e ∈ L0 → e.b ≠ b ∨ e.o + 5 ≤ o ∨ o + 5 ≤ e.o := fun e he => hap.2.2 e he ⟨p, b, o, .mk s n t ns ks⟩ (by simp)
  have hTo : ∀ c, T c → c ≠ og := fun c hc e => (hT c hc).2.2.2 (by rw [hog, e])
  have nN : ∀ c, T c → ¬ N c := fun c hc hn => by have := (hT c hc).2.1; have := (hN c hn).1; omega
  have nG : ∀ c, T c → c ≠ g := fun c hc e => by have := (hT c hc).2.1; omega
  refine ⟨fun c => if N c then 0 :: p else if ks ≠ [] ∧ c = g then 1 :: p else lab c, fun c hc => ?_, ClosesL.step (T2 := fun c => T c ∨ N c ∨ (ks ≠ [] ∧ c = g)) (N := N) hCl hsz hr1l (fun c hc => ⟨(hT c hc).1, (hT c hc).2.1⟩) hTb (fun c hc => Or.inl hc) (fun c hc => Or.inr (Or.inl hc)) (fun hne => Or.inr (Or.inr ⟨hne, rfl⟩)) (fun e he => (hLe e (List.mem_append_left _ he)).1) hap' (fun c hc => ⟨(hN c hc).1, (hN c hc).2.1, (hN c hc).2.2.1⟩) hg hgx (fun c i hc hn => ?_) (fun c i hc => ?_) (fun c hc => by rw [if_neg (nN c hc), if_neg (fun h => nG c hc h.2)]) (fun c hc => if_pos hc) (fun hne => by rw [if_neg (fun h => (hN g h).2.2.1 rfl), if_pos ⟨hne, rfl⟩]) hsf hgf
    ((hcell o (by omega) (by omega)).trans p0) ((hcell (o + 1) (by omega) (by omega)).trans p1) ((hcell (o + 2) (by omega) (by omega)).trans p2) c3 c4 hS hnc ht hbs hK.1 hka, fun c hc => ?_, Or.inl hTr, fun e he => ?_, ?_, ?_, hbel.trans hbw, y0, y1, y2, y3, y4, hr1.of_block (hblk _ (by omega) (fun e => hTB.2.2.1 e.symm) (by omega))⟩
  · simp only at hc
    by_cases h1 : N c
    · have := hN c h1; exact ⟨Or.inr (Or.inl h1), by omega⟩
    · rw [if_neg h1] at hc
      by_cases h2 : ks ≠ [] ∧ c = g
      · exact ⟨Or.inr (Or.inr h2), by have := h2.2; omega⟩
      · rw [if_neg h2] at hc
        exact ⟨Or.inl (hLb c hc).1, (hLb c hc).2⟩
  · by_cases hcb : c = b
    · subst hcb
      have : ¬ (o ≤ i ∧ i < o + 5) := fun h => hn ⟨⟨p, c, o, .mk s n t ns ks⟩, by simp, rfl, h.1, h.2⟩
      exact hcell i (by omega) (by omega)
    · exact World.cell?_of_block (w := wr) (a := ⟨c, i, none⟩) (hblk c (hT c hc).2.1 hcb (hTo c hc))
  · by_cases hcb : c = b
    · subst hcb; exact hfz i
    · exact World.frozen?_of_block (w := wr) (a := ⟨c, i, none⟩) (hblk c (hT c hc).2.1 hcb (hTo c hc))
  · rcases hc with hc | hc | ⟨hne, rfl⟩
    · have h1 := hT c hc
      exact ⟨h1.1, by omega, h1.2.2.1, fun e => hTo c hc (hvo c h1.2.1 e)⟩
    · have h1 := hN c hc
      exact ⟨by omega, h1.2.1, by omega, h1.2.2.2⟩
    · exact ⟨by omega, hgx hne, by omega, hgo hne⟩
  · rcases List.mem_append.1 he with he | he
    · obtain ⟨h1, ⟨q0, q1, q2, q3, q4, k0, k1, k2, k3, k4, hq⟩, h3, h4⟩ := hLe e (List.mem_append_left _ he)
      have hqx := hq.under (hbw.mono hBr)
      by_cases hcb : e.b = b
      · have hc : ∀ i, e.o ≤ i → i < e.o + 5 → wx.cell? ⟨e.b, i, none⟩ = wr.cell? ⟨e.b, i, none⟩ := fun i hi hi' => by
          rcases hap' e he with h | h | h
          · exact absurd hcb h
          · rw [hcb]; exact hcell i (by omega) (by omega)
          · rw [hcb]; exact hcell i (by omega) (by omega)
        exact ⟨Or.inl h1, ⟨_, _, _, _, _, (hc _ (by omega) (by omega)).trans k0, (hc _ (by omega) (by omega)).trans k1, (hc _ (by omega) (by omega)).trans k2, (hc _ (by omega) (by omega)).trans k3, (hc _ (by omega) (by omega)).trans k4, hqx⟩, h3, fun i => by rw [hcb, hfz i, ← hcb]; exact h4 i⟩
      · have hb' := hblk e.b (hT _ h1).2.1 hcb (hTo _ h1)
        have hc : ∀ i, wx.cell? ⟨e.b, i, none⟩ = wr.cell? ⟨e.b, i, none⟩ := fun i => World.cell?_of_block (w := wr) (a := ⟨e.b, i, none⟩) hb'
        exact ⟨Or.inl h1, ⟨_, _, _, _, _, (hc _).trans k0, (hc _).trans k1, (hc _).trans k2, (hc _).trans k3, (hc _).trans k4, hqx⟩, h3, fun i => (World.frozen?_of_block (w := wr) (a := ⟨e.b, i, none⟩) hb').trans (h4 i)⟩
    · obtain ⟨i, hi, rfl⟩ := kidQ_mem he
      have hne : ks ≠ [] := by intro e; simp [e] at hi
      exact ⟨Or.inr (Or.inr ⟨hne, rfl⟩), hkids i hi, hkf i hi, hgf hne⟩
  · rw [List.pairwise_append]
    refine ⟨hap.1, kidQ_apart _ _ _ _, fun e he e' he' => Or.inl ?_⟩
    obtain ⟨i, hi, rfl⟩ := kidQ_mem he'
    have := (hT _ (hLe e (List.mem_append_left _ he)).1).2.1
    show e.b ≠ g
    omega
  · have : (L0 ++ kidQ p g ks ks.length).length = L0.length + ks.length := by simp [kidQ]
    rw [this]; exact hown

end Go.Proofs.Ytjlifamkfdmfcaa
