import Derived.Test.YtdohgkokoicjlaaB11
import Derived.BigRegion
set_option linter.unusedSimpArgs false
set_option linter.unusedVariables false
namespace Go.Proofs.Ytdohgkokoicjlaa
open Go.RowKit Go.Maps
theorem xor_nn (a b : Nat) (ha : a < 1099511627776) (hb : b < 1099511627776) : ∃ c : Nat, bits .xor .i64 (a : Int) (b : Int) = (c : Int) := by
  refine ⟨a ^^^ b, ?_⟩
  have h : a ^^^ b < 2 ^ 40 := Nat.xor_lt_two_pow (by omega) (by omega)
  have e : (BitVec.ofInt 64 (a : Int) ^^^ BitVec.ofInt 64 (b : Int)).toNat = a ^^^ b := by
    rw [BitVec.toNat_xor, BitVec.ofInt_natCast, BitVec.ofInt_natCast, BitVec.toNat_ofNat, BitVec.toNat_ofNat, Nat.mod_eq_of_lt (by omega), Nat.mod_eq_of_lt (by omega)]
  show IntKind.i64.wrap (((BitVec.ofInt 64 (a : Int) ^^^ BitVec.ofInt 64 (b : Int)).toNat : Nat) : Int) = _
  rw [e]
  generalize a ^^^ b = c at *
  have : (c : Int) < 1099511627776 := by omega
  simp only [IntKind.wrap, IntKind.bits, IntKind.signed]
  simp
  omega
set_option maxRecDepth 20000 in
set_option maxHeartbeats 1600000 in
theorem pick_any (w : World) (rb cb q : Nat) (n : Int) (hR : RdOk w rb cb q) (hq : q ≤ 1000000) (hn : n ≤ 2147483647) (hn0 : -2147483648 ≤ n) :
    Calls Try.prog 33 #[.pointer (some ⟨rb, 0, none⟩), .int .i64 n] w fun e w' => ∃ x : Nat, e = .returned (.int .i64 x) ∧ ((x : Int) < n ∨ (n < 1 ∧ x = 0)) ∧ RdOk w' rb cb (q + 1) ∧ Only (· = rb) w w' ∧ w'.heap.size = w.heap.size := by
  obtain ⟨p, m, bc, ba, off, hp, hm, hne, hb, hcb, hba, hc⟩ := hR
  obtain ⟨c0, f0⟩ := box_at hb 0 (by simp)
  obtain ⟨c1, f1⟩ := box_at hb 1 (by simp)
  simp only [List.getElem_toArray, List.getElem_cons_zero, List.getElem_cons_succ] at c0 c1
  obtain ⟨W, hW⟩ : ∃ W, W = w.setCell ⟨rb, 1, none⟩ (.int .i64 ((p : Int) + 1)) := ⟨_, rfl⟩
  have hbW : W.heap[rb]? = some (.cells #[.slice ba m bc, .int .i64 ((p : Int) + 1)] 71 (0, 0)) := by rw [hW, set_box hb]; rfl
  obtain ⟨d0, -⟩ := box_at hbW 0 (by simp)
  obtain ⟨d1, -⟩ := box_at hbW 1 (by simp)
  simp only [List.getElem_toArray, List.getElem_cons_zero, List.getElem_cons_succ] at d0 d1
  have hcW : ∀ i, i < m → ∃ x : Nat, x < 256 ∧ W.cell? ⟨cb, off + i, none⟩ = some (.int .u8 x) := fun i hi => by
    obtain ⟨x, hx, h⟩ := hc i hi
    exact ⟨x, hx, by rw [hW]; exact (World.cell?_of_block (a := ⟨cb, off + i, none⟩) (Below.heap_setCell _ _ _ _ (Ne.symm hne))).trans h⟩
  have hzW : W.heap.size = w.heap.size := by rw [hW]; exact size_set _ _ _
  have HE : Hid (RdOk W rb cb (q + 1) ∧ Only (· = rb) w W ∧ W.heap.size = w.heap.size) := hid_of ⟨⟨p + 1, m, bc, ba, off, by omega, hm, hne, by rw [hbW]; rfl, by omega, hba, hcW⟩, by rw [hW]; exact (Only.refl (· = rb) w).set rb 1 (Or.inl rfl) _, hzW⟩
  subst hW
  clear hb hbW hzW hc
  by_cases h1 : n < 1
  · clear hcW
    go_enter Try.func33, Try.ntmps33
    go_wp2_with fail
    go_ret
    exact ⟨0, rfl, Or.inr ⟨h1, rfl⟩, HE.out⟩
  by_cases h2 : m = 0
  · clear hcW
    subst h2
    go_enter Try.func33, Try.ntmps33
    go_wp2_with fail
    go_ret
    exact ⟨0, rfl, Or.inl (by omega), HE.out⟩
  obtain rfl := hba (by omega)
  have hn1 : 1 ≤ n := by omega
  have hnz : (n == 0) = false := by simp; omega
  have hmz : ((m : Int) == 0) = false := by simp; omega
  by_cases h3 : p < m
  · obtain ⟨x, hx, cx⟩ := hcW p h3
    have h3' : (p : Int) < (m : Int) := by omega
    clear hcW
    go_enter Try.func33, Try.ntmps33
    go_wp2_with fail
    go_ret
    have e : ((x : Int) % n) = (((x : Int) % n).toNat : Int) := (Int.toNat_of_nonneg (Int.emod_nonneg _ (by omega))).symm
    exact ⟨((x : Int) % n).toNat, ret_int e, Or.inl (by rw [← e]; exact Int.emod_lt_of_pos _ (by omega)), HE.out⟩
  obtain ⟨y1, hy1, cy1⟩ := hcW (p % m) (Nat.mod_lt _ (by omega))
  obtain ⟨y2, hy2, cy2⟩ := hcW ((p * 7 + 3) % m) (Nat.mod_lt _ (by omega))
  clear hcW
  have h3' : ¬ (p : Int) < (m : Int) := by omega
  have hm0 : (0 : Int) < (m : Int) := by omega
  have hi1 : 0 ≤ (p : Int) % (m : Int) := Int.emod_nonneg _ (by omega)
  have hi2 : (p : Int) % (m : Int) < (m : Int) := Int.emod_lt_of_pos _ hm0
  have hi3 : 0 ≤ ((p : Int) * 7 + 3) % (m : Int) := Int.emod_nonneg _ (by omega)
  have hi4 : ((p : Int) * 7 + 3) % (m : Int) < (m : Int) := Int.emod_lt_of_pos _ hm0
  have hi5 : 0 ≤ (p : Int) / (m : Int) := Int.ediv_nonneg (by omega) (by omega)
  have hi6 : (p : Int) / (m : Int) ≤ (p : Int) := Int.ediv_le_self _ (by omega)
  go_enter Try.func33, Try.ntmps33
  go_wp2_with fail
  obtain ⟨z, hz⟩ : ∃ z : Nat, (p : Int) / (m : Int) = (z : Int) := ⟨p / m, by simp⟩
  have hzp : z ≤ p := by omega
  obtain ⟨u, hu⟩ := xor_nn (y1 * 131 + y2 * 1117 + p * 29 + z * 53) ((y1 * 131 + y2 * 1117 + p * 29 + z * 53) / 64) (by omega) (by omega)
  have hu2 : bits .xor .i64 ((y1 : Int) * 131 + (y2 : Int) * 1117 + (p : Int) * 29 + (p : Int) / (m : Int) * 53) (((y1 : Int) * 131 + (y2 : Int) * 1117 + (p : Int) * 29 + (p : Int) / (m : Int) * 53) / 64) = (u : Int) := by rw [hz, ← hu]; congr 1
  have hu3 : 0 ≤ bits .xor .i64 ((y1 : Int) * 131 + (y2 : Int) * 1117 + (p : Int) * 29 + (p : Int) / (m : Int) * 53) (((y1 : Int) * 131 + (y2 : Int) * 1117 + (p : Int) * 29 + (p : Int) / (m : Int) * 53) / 64) := by rw [hu2]; omega
  have HU := hid_of hu2
  have HZ := hid_of hz
  clear hu hu2 hz
  go_region
  all_goals
    go_wp2_with fail
    go_ret
    have e : ((u : Int) % n) = (((u : Int) % n).toNat : Int) := (Int.toNat_of_nonneg (Int.emod_nonneg _ (by omega))).symm
    refine ⟨((u : Int) % n).toNat, ret_int (by rw [HU.out]; exact e), Or.inl (by rw [← e]; exact Int.emod_lt_of_pos _ (by omega)), HE.out.1.keep rfl rfl (Nat.le_refl _), ?_, HE.out.2.2⟩
    exact ⟨HE.out.2.1.os, HE.out.2.1.tape, HE.out.2.1.output, HE.out.2.1.size, HE.out.2.1.block⟩
end Go.Proofs.Ytdohgkokoicjlaa
