/-
  markValue and heldValue.
-/
import Derived.Test.YtjlifamkfdmfcaaVHeld
namespace Go.Proofs.Ytjlifamkfdmfcaa
set_option linter.unusedSimpArgs false
set_option linter.unusedVariables false
open Go.RowKit

/-- A value as it is when its names and its kids are marked, from k on. -/
def mkI (x : V) (k : Nat) : V := .mk x.sort x.num x.text (mkNs x.names.length k) (mkL x.kids (k + x.names.length))

set_option maxRecDepth 20000 in
set_option maxHeartbeats 800000 in
theorem markValue_l (x : V) (lab : Nat → List Nat) (p : List Nat) (v : Value) (k : Nat) (w : World) (h : LRep w lab p x v) (hlab : ∀ c, lab c ≠ [] → c < w.heap.size) (hk : k + nV x ≤ 1000000000000) (hsz : szV x ≤ 1048576) :
    Calls Try.prog 12 #[v, .int .i64 k] w fun e w' => e = .returned (.int .i64 ((k + nV x : Nat) : Int)) ∧ Only (fun c => lab c = 0 :: p ∨ Sk lab p c) w w' ∧ LRep w' lab p (mkI x k) v := by
  obtain ⟨na, ka, nc, kc, rfl, hN, hK⟩ := h.inv
  have hnv := nV_eq x
  have hnl : x.names.length ≤ 1048576 := by have := len_szNs x.names; have := szV_eq x; omega
  have hb0 : ∀ o, Below w.heap.size w (w.alloc o) := fun o => below_box w o
  go_enter Try.func12, Try.ntmps12
  go_wp2_with fail
  refine (markNames_l lab p x.names na nc k _ (hN.keep fun c h1 _ => (hb0 _).block c (hlab c h1)) hnl (by omega)).mono ?_
  rintro e w1 ⟨rfl, hO1, hN1⟩
  have z1 := hO1.size
  simp at z1
  have hnb : lab w.heap.size = [] := by
    rcases Classical.em (lab w.heap.size = []) with h | h
    · exact h
    · have := hlab _ h; omega
  have p4 : w1.cell? ⟨w.heap.size, 4, none⟩ = some (.slice ka x.kids.length kc) := (World.cell?_of_block (a := ⟨w.heap.size, 4, none⟩) (hO1.block w.heap.size (by simp) (by rw [hnb]; simp))).trans (by simp)
  have hK1 : LKids w1 lab p x.kids ka := by
    obtain ⟨b', off', C2, k1, k2, k3⟩ := hK
    have hlb' : x.kids ≠ [] → w1.heap[b']? = w.heap[b']? := fun hn => by
      have hl := (k1 hn).2.1
      have hlt := hlab b' (by rw [hl]; simp)
      rw [hO1.block b' (by simp; omega) (by rw [hl]; simp)]
      exact (hb0 _).block b' hlt
    refine ⟨b', off', C2, fun hn => ⟨(k1 hn).1, (k1 hn).2.1, fun i => (World.frozen?_of_block (w := w) (a := ⟨b', i, none⟩) (hlb' hn)).trans ((k1 hn).2.2 i)⟩, fun i hi m hm => (World.cell?_of_block (w := w) (a := ⟨b', off' + i * 5 + m, none⟩) (hlb' (by intro e; simp [e] at hi))).trans (k2 i hi m hm), fun i hi => (k3 i hi).keep fun c h1 h2 => ?_⟩
    have hlt := hlab c h1
    rw [hO1.block c (by simp; omega) (fun e => ?_)]
    · exact (hb0 _).block c hlt
    · rw [e] at h2
      have := same_len h2 (List.suffix_refl _) rfl
      omega
  have hI := markValueS_l x lab p ka kc (k + x.names.length) w1 hK1 (fun c hc => by have := hlab c hc; omega) (by omega) hsz
  have HI := hidM hI
  clear hI
  go_wp2_with fail
  refine HI.out.mono ?_
  rintro e w2 ⟨rfl, hO2, hK2⟩
  go_wp2_with fail
  go_ret
  have hN2 : LStrs w2 lab p (mkNs x.names.length k) na := fun hne => by
    obtain ⟨nb, no, n1, n2, n3, n4⟩ := hN1 hne
    have hbb : w2.heap[nb]? = w1.heap[nb]? := hO2.block nb (by have := hlab nb (by rw [n2]; simp); omega) (Sk.zero n2)
    exact ⟨nb, no, n1, n2, fun i => (World.frozen?_of_block (w := w1) (a := ⟨nb, i, none⟩) hbb).trans (n3 i), fun i hi => (World.cell?_of_block (w := w1) (a := ⟨nb, no + i, none⟩) hbb).trans (n4 i hi)⟩
  refine ⟨?_, ((Only.of_below _ (hb0 _)).trans (hO1.wider fun c h => Or.inl h)).trans (hO2.wider fun c h => Or.inr h), ?_⟩
  · exact ret_int (by omega)
  · have h := LRep.of_kids (s := x.sort) (n := x.num) (t := x.text) (nc := nc) (kc := kc) hN2 hK2
    rw [mkNs_len, mkL_len] at h
    exact h

set_option maxRecDepth 20000 in
set_option maxHeartbeats 800000 in
theorem heldValue_l (x : V) (lab : Nat → List Nat) (p : List Nat) (v : Value) (k : Nat) (w : World) (h : LRep w lab p (mkI x k) v) (hlab : ∀ c, lab c ≠ [] → c < w.heap.size) (hk : k + nV x ≤ 1000000000000) (hsz : szV x ≤ 1048576) :
    Calls Try.prog 13 #[v, .int .i64 k] w fun e w' => e = .returned (.int .i64 ((k + nV x : Nat) : Int)) ∧ Below w.heap.size w w' := by
  obtain ⟨na, ka, nc, kc, rfl, hN, hK⟩ := h.inv
  simp only [mkI, mkNs_len, mkL_len] at hN hK ⊢
  have hnv := nV_eq x
  have hnl : x.names.length ≤ 1048576 := by have := len_szNs x.names; have := szV_eq x; omega
  have hb0 : ∀ o, Below w.heap.size w (w.alloc o) := fun o => below_box w o
  have hN' : ∀ (W : World), Below w.heap.size w W → 0 < x.names.length → ∃ b off, na = some ⟨b, off, none⟩ ∧ ∀ i, i < x.names.length → W.cell? ⟨b, off + i, none⟩ = some (.string (mtext (k + i))) := fun W hW h0 => by
    obtain ⟨nb, no, n1, n2, -, n4⟩ := hN (fun e => by have := mkNs_len x.names.length k; rw [e] at this; simp at this; omega)
    refine ⟨nb, no, n1, fun i hi => ?_⟩
    rw [mkNs_len] at n4
    have := n4 i hi
    rw [mkNs_nth _ _ _ hi] at this
    exact (hW.cell (p := ⟨nb, no + i, none⟩) (hlab nb (by rw [n2]; simp))).trans this
  go_enter Try.func13, Try.ntmps13
  go_wp2_with fail
  refine (heldStringS_any x.names.length nc k na _ (hN' _ (hb0 _)) hnl (by omega)).mono ?_
  rintro e w1 ⟨rfl, hb1⟩
  have b1 := (hb0 _).trans (hb1.mono (by simp))
  have z1 := hb1.size
  simp at z1
  have p4 : w1.cell? ⟨w.heap.size, 4, none⟩ = some (.slice ka x.kids.length kc) := (hb1.cell (p := ⟨w.heap.size, 4, none⟩) (by simp)).trans (by simp)
  have hI := heldValueS_l x lab p ka kc (k + x.names.length) w1 (hK.below hlab b1) (fun c hc => by have := hlab c hc; omega) (by omega) hsz
  have HI := hidM hI
  have hpos : ¬ ((k + x.names.length : Nat) : Int) < 0 := by omega
  clear hI
  go_wp2_with fail
  refine HI.out.mono ?_
  rintro e w2 ⟨rfl, hb2⟩
  have hpos2 : ¬ ((k + x.names.length + nL x.kids : Nat) : Int) < 0 := by omega
  go_wp2_with fail
  go_ret
  exact ⟨ret_int (by omega), b1.trans (hb2.mono (by omega))⟩
end Go.Proofs.Ytjlifamkfdmfcaa
