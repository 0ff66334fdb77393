/-
  What is wrong with a part, as the program finds it.
-/
import Derived.Test.YtibpieomldhomaaGreatDoorILen
import Derived.Test.YtibpieomldhomaaGreatDoorICheckT
namespace Go.Proofs.YtibpieomldhomaaGreatDoor
set_option linter.unusedSimpArgs false
set_option linter.unusedVariables false
open Go.RowKit

/-- The first type from a place on with which something is wrong, or the place behind so many. -/
def badAt (p : Pt) : Nat → Nat → Nat
  | k, 0 => k
  | k, n + 1 => if typeCode p k = 0 then badAt p (k + 1) n else k
def badT (p : Pt) : Nat := badAt p 0 p.types.length
/-- What is wrong with a part, as an error. -/
def partErr (p : Pt) : Value :=
  if 5 < p.types.length then .iface 67 (.agg #[.int .i64 6, .iface 65 (.int .i64 6)])
  else if nameB p.name = false then .iface 65 (.int .i64 1)
  else if hasRootB p = false then .iface 65 (.int .i64 7)
  else if badT p < p.types.length then .iface 67 (.agg #[.int .i64 ((badT p : Nat) + 1 : Int), codeErr (typeCode p (badT p))])
  else if 1500 < (partL p).length then .iface 65 (.int .i64 6) else .nilIface

set_option maxHeartbeats 3200000 in
theorem checkPart_any (p : Pt) (w : World) (B : Nat) (v : Value) (hP : PRep w (· < B) p v) (hB : B ≤ w.heap.size) (hz : szP p ≤ 1048576) :
    Calls Tryz.prog 15 #[v] w fun e w' => e = .returned (partErr p) ∧ Below w.heap.size w w' := by
  have hP' := hP
  obtain ⟨pname, types⟩ := p
  obtain ⟨ta, tc, rfl, hK, hnc, hpn⟩ := hP
  simp only at hK hnc hpn hP'
  have h56 := hK.1
  have hE : Hid (partErr ⟨pname, types⟩ = if 5 < types.length then .iface 67 (.agg #[.int .i64 6, .iface 65 (.int .i64 6)])
    else if nameB pname = false then .iface 65 (.int .i64 1)
    else if hasRootB ⟨pname, types⟩ = false then .iface 65 (.int .i64 7)
    else if badT ⟨pname, types⟩ < types.length then .iface 67 (.agg #[.int .i64 ((badT ⟨pname, types⟩ : Nat) + 1 : Int), codeErr (typeCode ⟨pname, types⟩ (badT ⟨pname, types⟩))])
    else if 1500 < (partL ⟨pname, types⟩).length then .iface 65 (.int .i64 6) else .nilIface) := rfl
  have PC : ∀ W, Below (w.heap.size + 1) (w.alloc (.cells #[.string pname, .slice ta types.length tc] 25)) W → W.cell? ⟨w.heap.size, 0, none⟩ = some (.string pname) ∧ W.cell? ⟨w.heap.size, 1, none⟩ = some (.slice ta types.length tc) ∧ Below w.heap.size w W ∧ B ≤ W.heap.size ∧ w.heap.size + 1 ≤ W.heap.size := fun W h => by
    have hs := h.size
    simp at hs
    exact ⟨(h.cell (p := ⟨w.heap.size, 0, none⟩) (by show w.heap.size < _; omega)).trans (box_new _ _ 0 (by simp)), (h.cell (p := ⟨w.heap.size, 1, none⟩) (by show w.heap.size < _; omega)).trans (box_new _ _ 1 (by simp)), (below_box w _).trans (h.mono (by omega)), by omega, by omega⟩
  have hT0 := Below.refl (w.heap.size + 1) (w.alloc (.cells #[.string pname, .slice ta types.length tc] 25))
  have hR := fun W h => hasRoot_any ⟨pname, types⟩ W B _ (hP'.under ((PC W h).2.2.1.mono hB)) (PC W h).2.2.2.1
  have hC := fun W h k hk => checkType_any ⟨pname, types⟩ k W B _ (hP'.under ((PC W h).2.2.1.mono hB)) hk (PC W h).2.2.2.1
  have hX := fun W h => partText_all ⟨pname, types⟩ W B _ (hP'.under ((PC W h).2.2.1.mono hB)) (PC W h).2.2.2.1 hz
  have hN := fun W => isName_any pname W hpn
  by_cases h5 : 5 < types.length
  · have d : (5 : Int) < (types.length : Int) := by omega
    go_enter Tryz.func15, Tryz.ntmps15
    go_wp2_with fail
    go_ret
    exact ⟨by rw [hE.out, if_pos h5]; rfl, (PC _ hT0).2.2.1⟩
  have d5 : ¬ (5 : Int) < (types.length : Int) := by omega
  cases hn : nameB pname
  · rw [hn] at hN
    go_enter Tryz.func15, Tryz.ntmps15
    go_wp2_with (
      go_at_call 31
      refine (hN _).mono ?_
      rintro e w1 ⟨rfl, rfl⟩)
    go_ret
    exact ⟨by rw [hE.out, if_neg h5, if_pos hn]; rfl, (PC _ hT0).2.2.1⟩
  cases hr : hasRootB ⟨pname, types⟩
  · rw [hn] at hN
    rw [hr] at hR
    go_enter Tryz.func15, Tryz.ntmps15
    go_wp2_with (first
      | (
        go_at_call 31
        refine (hN _).mono ?_
        rintro e w1 ⟨rfl, rfl⟩)
      | (
        go_at_call 32
        refine (hR _ hT0).mono ?_
        rintro e w2 ⟨rfl, hb2⟩
        have hT2 := hT0.trans (hb2.mono (by simp))))
    go_ret
    exact ⟨by rw [hE.out, if_neg h5, if_neg (by rw [hn]; simp), if_pos hr]; rfl, (PC _ hT2).2.2.1⟩
  rw [hn] at hN
  rw [hr] at hR
  go_enter Tryz.func15, Tryz.ntmps15
  go_wp2_with (first
    | (
      go_at_call 31
      refine (hN _).mono ?_
      rintro e w1 ⟨rfl, rfl⟩)
    | (
      go_at_call 32
      refine (hR _ hT0).mono ?_
      rintro e w2 ⟨rfl, hb2⟩
      have hT2 := hT0.trans (hb2.mono (by simp))
      obtain ⟨q20, q21, hw2, hB2, hs2⟩ := PC w2 hT2))
  go_loopw [24] (fun i wr => ∃ k : Nat, k ≤ types.length ∧ i = .int .i64 k ∧ Hid (badT ⟨pname, types⟩ = badAt ⟨pname, types⟩ k (types.length - k)) ∧ Below (w.heap.size + 1) (w.alloc (.cells #[.string pname, .slice ta types.length tc] 25)) wr) (fun i _ => types.length - (intOf i).toNat)
  case atStart => exact ⟨0, Nat.zero_le _, rfl, rfl, hT2⟩
  case round =>
    clear q20 q21 hw2 hB2 hs2 hT2 hb2
    obtain ⟨k, hk, rfl, HBD, hbl⟩ := hrel
    obtain ⟨w0, rfl⟩ : ∃ x, x = wr := ⟨wr, rfl⟩
    obtain ⟨q0, q1, hw0, hB0, hs0⟩ := PC w0 hbl
    by_cases hlt : k < types.length
    · have hC1 := hC w0 hbl k hlt
      have HB2 : Hid (badT ⟨pname, types⟩ = if typeCode ⟨pname, types⟩ k = 0 then badAt ⟨pname, types⟩ (k + 1) (types.length - (k + 1)) else k) := by
        show _ = _
        rw [HBD.out, show types.length - k = (types.length - (k + 1)) + 1 by omega, badAt]
      by_cases hc : typeCode ⟨pname, types⟩ k = 0
      · rw [hc, show codeErr 0 = .nilIface from rfl] at hC1
        go_wp2_with (
          go_at_call 33
          refine hC1.mono ?_
          rintro e w3 ⟨rfl, hb3⟩
          have hT3 := hbl.trans (hb3.mono (by omega)))
        go_roundw
        case rel => exact ⟨k + 1, by omega, by go_num, by show _ = _; rw [HB2.out, if_pos hc], hT3⟩
        case measure => simp [intOf]; omega
      · have HBK : Hid (badT ⟨pname, types⟩ = k) := by show _ = _; rw [HB2.out, if_neg hc]
        have hce : codeErr (typeCode ⟨pname, types⟩ k) = .iface 65 (.int .i64 (typeCode ⟨pname, types⟩ k)) := by rw [codeErr, if_neg hc]
        rw [hce] at hC1
        go_wp2_with (
          go_at_call 33
          refine hC1.mono ?_
          rintro e w3 ⟨rfl, hb3⟩
          have hT3 := hbl.trans (hb3.mono (by omega)))
        refine bodyPost_ret (v := .iface 67 (.agg #[.int .i64 ((k : Nat) + 1 : Int), .iface 65 (.int .i64 (typeCode ⟨pname, types⟩ k))])) ?res rfl ⟨?_, (PC _ hT3).2.2.1⟩
        case res => simp [results, Tryz.results15, go_sem]
        rw [hE.out, if_neg h5, if_neg (by rw [hn]; simp), if_neg (by rw [hr]; simp), HBK.out, if_pos hlt, hce]
    · have HBK : Hid (badT ⟨pname, types⟩ = types.length) := by
        show _ = _
        rw [HBD.out, show types.length - k = 0 by omega, badAt]; omega
      have hX1 := hX w0 hbl
      have hln := partL_len ⟨pname, types⟩
      have hsz : (⟨(partL ⟨pname, types⟩).toArray⟩ : ByteArray).size = (partL ⟨pname, types⟩).length := List.size_toArray
      generalize (⟨(partL ⟨pname, types⟩).toArray⟩ : ByteArray) = tx at hX1 hsz
      have htz : Hid (tx.size = (partL ⟨pname, types⟩).length) := hsz
      have hsm : tx.size ≤ 9223372036854775807 := by omega
      by_cases hlen : 1500 < (partL ⟨pname, types⟩).length
      · have d : (1500 : Int) < (tx.size : Int) := by omega
        clear hsz hln
        go_wp2_with (
          go_at_call 27
          refine hX1.mono ?_
          rintro e w3 ⟨rfl, hb3⟩
          have hT3 := hbl.trans (hb3.mono (by omega)))
        refine bodyPost_ret (v := .iface 65 (.int .i64 6)) ?res rfl ⟨?_, (PC _ hT3).2.2.1⟩
        case res => simp [results, Tryz.results15, go_sem]
        rw [hE.out, if_neg h5, if_neg (by rw [hn]; simp), if_neg (by rw [hr]; simp), HBK.out, if_neg (by omega), if_pos hlen]
      · have d : ¬ (1500 : Int) < (tx.size : Int) := by omega
        clear hsz hln
        go_wp2_with (
          go_at_call 27
          refine hX1.mono ?_
          rintro e w3 ⟨rfl, hb3⟩
          have hT3 := hbl.trans (hb3.mono (by omega)))
        refine bodyPost_ret (v := .nilIface) ?res rfl ⟨?_, (PC _ hT3).2.2.1⟩
        case res => simp [results, Tryz.results15, go_sem]
        rw [hE.out, if_neg h5, if_neg (by rw [hn]; simp), if_neg (by rw [hr]; simp), HBK.out, if_neg (by omega), if_neg hlen]
end Go.Proofs.YtibpieomldhomaaGreatDoor
