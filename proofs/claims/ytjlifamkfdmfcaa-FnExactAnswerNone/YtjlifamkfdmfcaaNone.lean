/-
  How many nulls a value has: the model's AnswerNone and the program's.
-/
import Derived.Test.YtjlifamkfdmfcaaWWeigh
import Derived.Test.YtjlifamkfdmfcaaVSize
namespace Go.Proofs.Ytjlifamkfdmfcaa
set_option linter.unusedSimpArgs false
set_option linter.unusedVariables false
open Go.RowKit

/-- By how many nulls a value is more than its kids have. -/
def nullN (x : V) : Nat := if x.sort = 1 then 1 else 0
theorem nullN_w (x : V) : nullW x.sort = (nullN x : Nat) := by
  unfold nullW nullN
  by_cases h : x.sort = 1 <;> simp [h]
theorem ownNulls_fn : OwnFn 42 nullN := by
  intro w b o x na ka nc kc h0 h3 h4 h16
  have h := ownNulls_any w b o x.sort ka x.kids.length kc h0 h4
  rw [nullN_w] at h
  exact h
theorem null_cnt (x : V) : wV nullN x ≤ cntV x := by
  refine v_ind (q := fun x => wV nullN x ≤ cntV x) (fun x ih => ?_) x
  have h1 := sums (f := wV nullN) (g := cntV) (F := wL nullN) (G := cntL) rfl rfl (fun _ _ => by simp [wL]) (fun _ _ => by simp [cntL]) x.kids ih
  rw [wV_eq, cntV_eq]
  have : nullN x ≤ 1 := by unfold nullN; split <;> omega
  omega

def NnOk (x : V) : Prop := ∀ (w : World) (B : Nat) (v : Value), wV nullN x ≤ 4194304 → Rep w (· < B) x v → B ≤ w.heap.size →
  Calls Try.prog 38 #[v] w fun e w' => e = .returned (.int .i64 (wV nullN x : Nat)) ∧ Below w.heap.size w w'

set_option maxHeartbeats 800000 in
theorem l17None_step (s n : Int) (t : ByteArray) (ns : List ByteArray) (ks : List V) (IH : ∀ i, i < ks.length → NnOk (kth ks i)) : NnOk (.mk s n t ns ks) := by
  intro w B v hle hR hB
  obtain ⟨na, ka, nc, kc, rfl, hs, hns, ht, hbs, hK⟩ := hR.inv
  clear hR
  have h3 := hK.1
  obtain ⟨-, b, off, C, hka, hc, hr⟩ := hK
  have hw : wV nullN (.mk s n t ns ks) = nullN (.mk s n t ns ks) + wL nullN ks := wV_eq _ _
  rw [hw] at hle ⊢
  have HL : Hid (nullN (.mk s n t ns ks) + wL nullN ks ≤ 4194304) := hle
  clear hle hw
  have hrest : ∀ (z : Nat), z = nullN (.mk s n t ns ks) → nullN (.mk s n t ns ks) = z := fun z h => h.symm
  by_cases h1 : s = 1
  all_goals
    obtain ⟨z, hz⟩ : ∃ z : Nat, z = nullN (.mk s n t ns ks) := ⟨_, rfl⟩
    have hzv : z = if s = 1 then 1 else 0 := hz
    rw [← hz] at HL ⊢
    simp only [h1, if_true, if_false] at hzv
    clear hz hrest
    subst hzv
    go_enter Try.func38, Try.ntmps38
    go_wp2_with fail
    go_loopw [3, 4] (fun q i wr => ∃ k : Nat, k ≤ ks.length ∧ i = .int .i64 k ∧ q = .int .i64 ((if s = 1 then 1 else 0) + wL nullN (ks.take k) : Nat) ∧ Below w.heap.size w wr ∧ wr.cell? ⟨w.heap.size, 4, none⟩ = some (.slice ka ks.length kc) ∧ w.heap.size < wr.heap.size) (fun _ i _ => ks.length - (intOf i).toNat)
    case atStart => exact ⟨0, Nat.zero_le _, rfl, by simp [wL, h1], below_box _ _, by simp, by simp⟩
    case round =>
      obtain ⟨k, hk, rfl, rfl, hbel, hx4, hsz⟩ := hrel
      obtain ⟨y, hy⟩ : ∃ y : Nat, y = (if s = 1 then 1 else 0) + wL nullN (ks.take k) := ⟨_, rfl⟩
      rw [← hy]
      have hbd : y ≤ 4194304 := by have := wL_part nullN ks k; have := HL.out; simp only [h1, if_true, if_false] at hy; omega
      have HY : Hid (y = (if s = 1 then 1 else 0) + wL nullN (ks.take k)) := hy
      clear hy
      by_cases hlt : k < ks.length
      · obtain ⟨rfl, hbB⟩ := hka (by intro e; simp [e] at hlt)
        have hck : ∀ j, j < 5 → wr.cell? ⟨b, off + k * 5 + j, none⟩ = some (C k j) := fun j hj => (hbel.cell (p := ⟨b, off + k * 5 + j, none⟩) (by show b < _; omega)).trans (hc k hlt j hj)
        have hc0 : wr.cell? ⟨b, off + k * 5, none⟩ = some (C k 0) := hck 0 (by omega)
        have hc1 := hck 1 (by omega)
        have hc2 := hck 2 (by omega)
        have hc3 := hck 3 (by omega)
        have hc4 := hck 4 (by omega)
        have hwk := wV_le nullN ks k hlt
        have hwk2 : wV nullN (kth ks k) ≤ 4194304 := by have := HL.out; omega
        have hck6 : (wV nullN (kth ks k) : Int) ≤ 4194304 := by omega
        clear hck hc hwk
        go_wp2_with (go_at_call 38; refine (IH k hlt _ B _ hwk2 ((hr k hlt).under (hbel.mono hB)) (by omega)).mono ?_; rintro e w2 ⟨rfl, hb2⟩)
        go_roundw
        case rel =>
          have hs2 := hb2.size
          refine ⟨k + 1, by omega, by go_num, ?_, hbel.trans (hb2.mono hbel.size), (hb2.cell (p := ⟨w.heap.size, 4, none⟩) hsz).trans hx4, by omega⟩
          have := HY.out
          rw [wL_take nullN ks k hlt]
          congr 1
          omega
        case measure => simp [intOf]; omega
      · go_wp2_with fail
        go_ret
        have e : k = ks.length := by omega
        exact ⟨ret_int (by rw [HY.out, e, List.take_length]; simp [h1]), hbel⟩

theorem l17None_any (x : V) : NnOk x := by
  refine v_ind (q := NnOk) (fun x ih => ?_) x
  obtain ⟨s, n, t, ns, ks⟩ := x
  exact l17None_step s n t ns ks ih

set_option maxHeartbeats 400000 in
theorem specNone_any (x : V) (w : World) (B : Nat) (c0 c1 c2 c3 c4 : Value) (wa : Option Addr) (wl wc : Nat) (hx : wV nullN x ≤ 4194304) (hR : Rep w (· < B) x (.agg #[c0, c1, c2, c3, c4])) (hB : B ≤ w.heap.size) :
    Calls Try.prog 15 #[.agg #[c0, c1, c2, c3, c4, .slice wa wl wc]] w fun e w' => e = .returned (.int .i64 (wV nullN x : Nat)) ∧ Below w.heap.size w w' := by
  go_enter Try.func15, Try.ntmps15
  go_wp2_with (go_at_call 38; refine (l17None_any x _ B _ hx (hR.under ((below_box w _).mono hB)) (by simp; omega)).mono ?_; rintro e w2 ⟨rfl, hb2⟩)
  go_ret
  exact ⟨rfl, (below_box w _).trans (hb2.mono (by simp))⟩
end Go.Proofs.Ytjlifamkfdmfcaa
