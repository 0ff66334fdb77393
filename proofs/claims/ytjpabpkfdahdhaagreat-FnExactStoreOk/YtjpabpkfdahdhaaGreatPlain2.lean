/-
  The model's question of an object, and of every value.
-/
import Derived.Test.YtjpabpkfdahdhaaGreatPlain
namespace Go.Proofs.YtjpabpkfdahdhaaGreat
set_option linter.unusedSimpArgs false
set_option linter.unusedVariables false
open Go.RowKit

set_option maxHeartbeats 800000 in
theorem l1Plain_6 (n : Int) (t : ByteArray) (ns : List ByteArray) (na ka : Option Addr) (nc kc kl : Nat) (w : World) (hS : Strs w (· < w.heap.size) ns na) (hcap : ns.length ≤ nc) :
    Calls Tryz.prog 53 #[.agg #[.int .i64 6, .int .i64 n, .string t, .slice na ns.length nc, .slice ka kl kc]] w fun e w' => e = .returned (.bool (plainV 6 n t ns kl)) ∧ Below w.heap.size w w' := by
  cases ht : t.toList.isEmpty
  · go_enter Tryz.func53, Tryz.ntmps53
    go_wp2_with fail
    go_ret
    exact ⟨ret_bool (by simp [plainV, ht]), below_box _ _⟩
  cases hz : (n == 0)
  · have gz : (n != 0) = true := by simp only [bne, hz]; rfl
    go_enter Tryz.func53, Tryz.ntmps53
    go_wp2_with fail
    go_ret
    exact ⟨ret_bool (by simp [plainV, hz]), below_box _ _⟩
  have gz : (n != 0) = false := by simp only [bne, hz]; rfl
  have hpl : Hid (plainV 6 n t ns kl = ((ns.length : Int) == (kl : Int) && onceTo ns ns.length)) := by show _ = _; simp [plainV, hz, ht]
  by_cases hn0 : ns.length = 0
  · have hns : ns = [] := by simpa using hn0
    subst hns
    go_enter Tryz.func53, Tryz.ntmps53
    go_wp2_with fail
    go_loop [3] (fun i => i = .int .i64 0) (fun _ => 0)
    case atStart => rfl
    case round =>
      subst hrel
      go_wp2_with fail
      go_ret
      exact ⟨ret_bool (by rw [hpl.out]; simp [onceTo]), below_box _ _⟩
  have hS' : ∀ wr m, Below w.heap.size w wr → Strs (wr.drewN m) (· < w.heap.size) ns na := fun wr m hb => hS.under (below_drews hb m)
  obtain ⟨h1, h2, h3⟩ := hS
  unfold maxLen at h3
  obtain ⟨b, off, rfl, hbB, hc⟩ := h1 (by intro e; simp [e] at hn0)
  clear h1
  go_enter Tryz.func53, Tryz.ntmps53
  go_wp2_with fail
  go_loopw [3] (fun i wr => ∃ k : Nat, k ≤ ns.length ∧ i = .int .i64 k ∧ onceTo ns k = true ∧ Below w.heap.size w wr ∧ wr.cell? ⟨w.heap.size, 3, none⟩ = some (.slice (some ⟨b, off, none⟩) ns.length nc) ∧ wr.cell? ⟨w.heap.size, 4, none⟩ = some (.slice ka kl kc)) (fun i _ => ns.length - (intOf i).toNat)
  case atStart => exact ⟨0, Nat.zero_le _, rfl, rfl, below_box _ _, by simp, by simp⟩
  case round =>
    obtain ⟨k, hk, rfl, hp, hbel, hx3, hx4⟩ := hrel
    have HP : Hid (onceTo ns k = true) := hp
    clear hp
    by_cases hlt : k < ns.length
    · have hck : wr.cell? ⟨b, off + k, none⟩ = some (.string (nth ns k)) := (hbel.cell (p := ⟨b, off + k, none⟩) hbB).trans (hc k hlt)
      have h2k := h2 k
      have hki : (k : Int) < (ns.length : Int) := by omega
      have hknc : k ≤ nc := by omega
      clear hc h2
      cases hw : wordB (nth ns k)
      · have hcn : ∀ w, Calls Tryz.prog 46 #[.string (nth ns k)] w fun e w' => e = .returned (.bool false) ∧ w' = w := fun w => (l1Name_any _ w h2k).mono fun _ _ h => ⟨by rw [h.1, hw], h.2.symm⟩
        go_wp2_with fail
        go_quiet (first | (go_at_call 46; exact Calls.quiet_of_same (hcn _)))
        go_wp2_with fail
        go_ret
        exact ⟨ret_bool (by rw [hpl.out, onceTo_false ns _ k hlt (by rw [hw]; rfl)]; simp), below_drews hbel _⟩
      · have hcn : ∀ w, Calls Tryz.prog 46 #[.string (nth ns k)] w fun e w' => e = .returned (.bool true) ∧ w' = w := fun w => (l1Name_any _ w h2k).mono fun _ _ h => ⟨by rw [h.1, hw], h.2.symm⟩
        cases hh : hasTo ns (nth ns k) k
        · have hch : ∀ m, Calls Tryz.prog 80 #[.slice (some ⟨b, off, none⟩) k nc, .string (nth ns k)] (wr.drewN m) fun e w' => e = .returned (.bool false) ∧ w' = wr.drewN m := fun m => (l1Has_any ns _ _ _ _ _ (hS' wr m hbel) k hk).mono fun _ _ h => ⟨by rw [h.1, hh], h.2.symm⟩
          go_wp2_with fail
          go_quiet (first | (go_at_call 46; exact Calls.quiet_of_same (hcn _)) | (go_at_call 80; exact Calls.quiet_of_same (hch _)))
          go_wp2_with fail
          go_roundw
          case rel => exact ⟨k + 1, by omega, by go_num, by rw [onceTo_succ, HP.out, hw, hh]; rfl, below_drews hbel _, by simpa using hx3, by simpa using hx4⟩
          case measure => simp [intOf]; omega
        · have hch : ∀ m, Calls Tryz.prog 80 #[.slice (some ⟨b, off, none⟩) k nc, .string (nth ns k)] (wr.drewN m) fun e w' => e = .returned (.bool true) ∧ w' = wr.drewN m := fun m => (l1Has_any ns _ _ _ _ _ (hS' wr m hbel) k hk).mono fun _ _ h => ⟨by rw [h.1, hh], h.2.symm⟩
          go_wp2_with fail
          go_quiet (first | (go_at_call 46; exact Calls.quiet_of_same (hcn _)) | (go_at_call 80; exact Calls.quiet_of_same (hch _)))
          go_wp2_with fail
          go_ret
          exact ⟨ret_bool (by rw [hpl.out, onceTo_false ns _ k hlt (by rw [hw, hh]; rfl)]; simp), below_drews hbel _⟩
    · go_wp2_with fail
      go_ret
      have e : k = ns.length := by omega
      exact ⟨ret_bool (by rw [hpl.out, ← e, HP.out]; simp), hbel⟩
end Go.Proofs.YtjpabpkfdahdhaaGreat
