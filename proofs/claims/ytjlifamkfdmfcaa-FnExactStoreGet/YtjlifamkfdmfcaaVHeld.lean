/-
  Marks that are held: heldValueS, heldValue; markValue.
-/
import Derived.Test.YtjlifamkfdmfcaaVMark2
import Derived.Test.YtjlifamkfdmfcaaFive
import Derived.Deep.RegionHeld3
import Derived.Deep.DeepCutAuto
namespace Go.Proofs.Ytjlifamkfdmfcaa
set_option linter.unusedSimpArgs false
set_option linter.unusedVariables false
open Go.RowKit

theorem LKids.below {w w' : World} {lab : Nat → List Nat} {p : List Nat} {ks : List V} {ka : Option Addr} (h : LKids w lab p ks ka) (hl : ∀ c, lab c ≠ [] → c < w.heap.size) (hb : Below w.heap.size w w') : LKids w' lab p ks ka := h.keep fun c h1 _ => hb.block c (hl c h1)

def HdOk (x : V) : Prop := ∀ (lab : Nat → List Nat) (p : List Nat) (ka : Option Addr) (kc k : Nat) (w : World), LKids w lab p (mkL x.kids k) ka → (∀ c, lab c ≠ [] → c < w.heap.size) → k + nL x.kids ≤ 1000000000000 → szV x ≤ 1048576 →
  Calls Try.prog 35 #[.slice ka x.kids.length kc, .int .i64 k] w fun e w' => e = .returned (.int .i64 ((k + nL x.kids : Nat) : Int)) ∧ Below w.heap.size w w'

set_option maxRecDepth 20000 in
set_option maxHeartbeats 1600000 in
theorem heldValueS_step (x : V) (IH : ∀ i, i < x.kids.length → HdOk (kth x.kids i)) : HdOk x := by
  intro lab p ka kc k w hK hlab hk hsz
  obtain ⟨s, n, t, ns, ks⟩ := x
  simp only at IH hK hk ⊢
  obtain ⟨b, off, C, hb, hc, hr⟩ := hK
  rw [mkL_len] at hc hr
  have hsz2 : ks.length + sL ks ≤ 1048576 := by have := szV_eq (.mk s n t ns ks); simp only at this; omega
  go_enter Try.func35, Try.ntmps35
  go_wp2_with fail
  go_loopw [1, 5] (fun kk i wr => ∃ j : Nat, j ≤ ks.length ∧ i = .int .i64 j ∧ kk = .int .i64 ((k + nL (ks.take j) : Nat) : Int) ∧ Below w.heap.size w wr) (fun _ i _ => ks.length - (intOf i).toNat)
  case atStart => exact ⟨0, Nat.zero_le _, rfl, by simp [nL], Below.refl _ _⟩
  case round =>
    obtain ⟨j, hj, rfl, rfl, hbel⟩ := hrel
    obtain ⟨w0, rfl⟩ : ∃ y, y = wr := ⟨wr, rfl⟩
    by_cases hlt : j < ks.length
    · have hne : mkL ks k ≠ [] := fun e => by have := mkL_len ks k; rw [e] at this; simp at this; omega
      obtain ⟨rfl, hlb, -⟩ := hb hne
      have hrj := hr j hlt
      rw [mkL_kth ks k j hlt] at hrj
      obtain ⟨na, ka', nc, kc', ev, hN, hKj⟩ := hrj.inv
      simp only [Value.agg.injEq, Array.mk.injEq, List.cons.injEq, and_true, mk1, mkNs_len, mkL_len] at ev hN hKj
      obtain ⟨e0, e1, e2, e3, e4⟩ := ev
      have p0 := hc j hlt 0 (by omega)
      have p1 := hc j hlt 1 (by omega)
      have p2 := hc j hlt 2 (by omega)
      have p3 := hc j hlt 3 (by omega)
      have p4 := hc j hlt 4 (by omega)
      rw [e0, Nat.add_zero] at p0
      rw [e1] at p1
      rw [e2] at p2
      rw [e3] at p3
      rw [e4] at p4
      obtain ⟨q, hq⟩ : ∃ q, q = k + nL (ks.take j) := ⟨_, rfl⟩
      rw [← hq] at p0 p1 p2 hN hKj ⊢
      have hnt := nL_take ks j hlt
      have hnp := nL_part ks (j + 1)
      have hnv := nV_eq (kth ks j)
      have hszj : szV (kth ks j) ≤ 1048576 := by have := szV_kth ks j hlt; omega
      have hnl : (kth ks j).names.length ≤ 1048576 := by have := len_szNs (kth ks j).names; have := szV_eq (kth ks j); omega
      have hqb : q + 3 + nV (kth ks j) ≤ 1000000000000 := by omega
      have hqi : (q : Int) ≤ 1000000000000 := by omega
      have hji : (j : Int) < (ks.length : Int) := by omega
      have hbl : b < w.heap.size := hlab b (by rw [hlb]; simp)
      have HQ : Hid (q = k + nL (ks.take j)) := hq
      have HNT : Hid (nL (ks.take (j + 1)) = nL (ks.take j) + (3 + nV (kth ks j))) := hnt
      have z0 := hbel.size
      have cell : ∀ (W : World), Below w.heap.size w W → ∀ m u, w.cell? ⟨b, m, none⟩ = some u → W.cell? ⟨b, m, none⟩ = some u := fun W hW m u h => (hW.cell (p := ⟨b, m, none⟩) hbl).trans h
      have r0 := cell w0 hbel _ _ p0
      have r1 := cell w0 hbel _ _ p1
      have r2 := cell w0 hbel _ _ p2
      rw [show ((q + 1 : Nat) : Int) = (q : Int) + 1 by omega] at r1
      have HCE := hidM cell
      have HN := hidM hN
      have HKJ := hidM hKj
      have hM := markText_any (q + 2) w0.drew (by omega)
      rw [show ((q + 2 : Nat) : Int) = (q : Int) + 1 + 1 by omega] at hM
      generalize hmt : mtext (q + 2) = mt at r2 hM p2
      have HM := hidM hM
      clear hc hr hq hnt hrj e0 e1 e2 e3 e4 cell hN hKj hM hmt
      go_wp2_with fail
      go_cut [37] (fun r wx => r = .bool false ∧ Below w.heap.size w wx)
      case first =>
        go_region_held3 (fun w' => w'.cell? ⟨b, off + j * 5 + 2, none⟩ = some (.string mt)) (go_keep)
          (first
            | (
              go_at_call 30
              refine HM.out.mono ?_
              rintro e w1 ⟨rfl, hb1⟩
              have hb1' := hbel.trans ((below_undrew hb1).mono z0)
              have c1 := HCE.out w1 hb1' _ _ p2))
        all_goals
          go_wp2_with fail
          go_meet
          case rel => exact ⟨rfl, hb1'⟩
      case rest =>
      obtain ⟨rfl, hb1⟩ := hcut
      obtain ⟨w1, rfl⟩ : ∃ y, y = wc := ⟨wc, rfl⟩
      clear r0 r1 r2
      have z1 := hb1.size
      have r3 := HCE.out w1 hb1 _ _ p3
      have hH := heldStringS_any (kth ks j).names.length nc (q + 3) na w1 (fun h0 => by
        obtain ⟨nb, no, n1, n2, -, n4⟩ := HN.out (fun e => by have := mkNs_len (kth ks j).names.length (q + 3); rw [e] at this; simp at this; omega)
        refine ⟨nb, no, n1, fun i hi => ?_⟩
        rw [mkNs_len] at n4
        have := n4 i hi
        rw [mkNs_nth _ _ _ hi] at this
        exact (hb1.cell (p := ⟨nb, no + i, none⟩) (hlab nb (by rw [n2]; simp))).trans this) hnl (by omega)
      rw [show ((q + 3 : Nat) : Int) = (q : Int) + 1 + 1 + 1 by omega] at hH
      have HH := hidM hH
      clear hH
      go_wp2_with fail
      refine HH.out.mono ?_
      rintro e w2 ⟨rfl, hb2⟩
      have b2 := hb1.trans (hb2.mono z1)
      have z2 := b2.size
      have r4 := HCE.out w2 b2 _ _ p4
      have hI := IH j hlt lab ((j + 2) :: p) ka' kc' (q + 3 + (kth ks j).names.length) w2 (HKJ.out.below hlab b2) (fun c hc => by have := hlab c hc; omega) (by omega) hszj
      rw [show ((q + 3 + (kth ks j).names.length : Nat) : Int) = (q : Int) + 3 + ((kth ks j).names.length : Int) by omega] at hI
      have HI := hidM hI
      have hpos : ¬ (q : Int) + 3 + ((kth ks j).names.length : Int) < 0 := by omega
      clear hI r3
      go_wp2_with fail
      refine HI.out.mono ?_
      rintro e w3 ⟨rfl, hb3⟩
      have b3 := b2.trans (hb3.mono z2)
      have hpos2 : ¬ ((q + 3 + (kth ks j).names.length + nL (kth ks j).kids : Nat) : Int) < 0 := by omega
      go_wp2_with fail
      go_roundw
      case measure => simp [intOf]; omega
      case rel =>
        refine ⟨j + 1, by omega, by go_num, ?_, b3⟩
        have h1 := HNT.out
        have h2 := HQ.out
        congr 1
        omega
    · go_wp2_with fail
      go_ret
      have e : j = ks.length := by omega
      subst e
      exact ⟨by rw [List.take_length]; rfl, hbel⟩
theorem heldValueS_l (x : V) : HdOk x := v_ind (q := HdOk) heldValueS_step x
end Go.Proofs.Ytjlifamkfdmfcaa
