/-
  How great a value is: what szValue takes of what is left.
-/
import Derived.Test.YtjlifamkfdmfcaaWPure
namespace Go.Proofs.Ytjlifamkfdmfcaa
set_option linter.unusedSimpArgs false
set_option linter.unusedVariables false
open Go.RowKit

mutual
/-- How great a value is, itself not counted. -/
def szV : V → Nat
  | .mk _ _ t ns ks => t.size + szNs ns + (ks.length + sL ks)
/-- How great values are together, themselves not counted. -/
def sL : List V → Nat
  | [] => 0
  | k :: r => szV k + sL r
end
theorem sL_append (a b : List V) : sL (a ++ b) = sL a + sL b := by
  induction a with
  | nil => simp [sL]
  | cons k r ih => simp [sL, ih]; omega
theorem sL_take (ks : List V) (k : Nat) (h : k < ks.length) : sL (ks.take (k + 1)) = sL (ks.take k) + szV (kth ks k) := by
  rw [take_kth' ks k h, sL_append]; simp [sL]
theorem szV_kth (ks : List V) (k : Nat) (h : k < ks.length) : szV (kth ks k) ≤ sL ks := by
  have h1 := sL_take ks k h
  have h2 : sL (ks.take (k + 1)) ≤ sL ks := by
    conv => rhs; rw [← List.take_append_drop (k + 1) ks]
    rw [sL_append]; omega
  omega
theorem szV_eq (x : V) : szV x = x.text.size + szNs x.names + (x.kids.length + sL x.kids) := by obtain ⟨s, n, t, ns, ks⟩ := x; simp only [szV]
theorem len_szNs (ns : List ByteArray) : ns.length ≤ szNs ns := by simp [szNs]
/-- What holds of a value if it holds of one whose kids it holds of. -/
theorem v_ind {q : V → Prop} (h : ∀ x : V, (∀ i, i < x.kids.length → q (kth x.kids i)) → q x) : ∀ x : V, q x := by
  have key : ∀ m : Nat, ∀ x : V, SizeOf.sizeOf x < m → q x := by
    intro m
    induction m with
    | zero => intro x h; omega
    | succ m ih =>
      intro x hx
      refine h x fun i hi => ih _ ?_
      obtain ⟨s, n, t, ns, ks⟩ := x
      have := kth_lt ks i hi
      simp at hx
      simp only at hi
      show SizeOf.sizeOf (kth ks i) < m
      omega
  exact fun x => key _ x (Nat.lt_succ_self _)
theorem sums {f g : V → Nat} {F G : List V → Nat} (hF0 : F [] = 0) (hG0 : G [] = 0) (hF : ∀ k r, F (k :: r) = f k + F r) (hG : ∀ k r, G (k :: r) = g k + G r) (ks : List V) (h : ∀ i, i < ks.length → f (kth ks i) ≤ g (kth ks i)) : F ks ≤ G ks := by
  induction ks with
  | nil => omega
  | cons k r ih =>
    have h1 := ih fun i hi => h (i + 1) (by simpa using hi)
    have h2 := h 0 (by simp)
    rw [hF, hG]
    simp [kth] at h2
    omega
theorem cntV_sz (x : V) : cntV x ≤ 1 + szV x := by
  refine v_ind (q := fun x => cntV x ≤ 1 + szV x) (fun x ih => ?_) x
  have h1 := sums (f := cntV) (g := fun k => 1 + szV k) (F := cntL) (G := fun l => l.length + sL l) rfl rfl (fun _ _ => by simp [cntL]) (fun _ _ => by simp [sL]; omega) x.kids ih
  rw [cntV_eq, szV_eq]
  omega

/-- What szValue does with a value: it takes its size. -/
def SzSum (x : V) : Prop := ∀ (w : World) (B : Nat) (v : Value) (left : Int), Rep w (· < B) x v → B ≤ w.heap.size → 0 ≤ left → left ≤ 1048576 →
  Calls Try.prog 36 #[v, .int .i64 left] w fun e w' => ∃ y : Int, e = .returned (.int .i64 y) ∧ -1 ≤ y ∧ y ≤ left ∧ (0 ≤ y → y + szV x ≤ left) ∧ Below w.heap.size w w'

set_option maxHeartbeats 400000 in
theorem szValueS_sum (ks : List V) (IH : ∀ i, i < ks.length → SzSum (kth ks i)) (w : World) (B : Nat) (a : Option Addr) (c : Nat) (left : Int) (hK : Kids w (· < B) ks a) (hB : B ≤ w.heap.size) (hl0 : 0 ≤ left) (hl1 : left ≤ 1048576) :
    Calls Try.prog 53 #[.slice a ks.length c, .int .i64 left] w fun e w' => ∃ x : Int, e = .returned (.int .i64 x) ∧ -1 ≤ x ∧ x ≤ left ∧ (0 ≤ x → x + (ks.length + sL ks : Nat) ≤ left) ∧ Below w.heap.size w w' := by
  obtain ⟨h3, b, off, C, hka, hc, hr⟩ := hK
  by_cases hbig : left < ks.length
  · go_enter Try.func53, Try.ntmps53
    go_wp2_with fail
    go_ret
    exact ⟨-1, rfl, by omega, by omega, by omega, Below.refl _ _⟩
  by_cases hn0 : ks.length = 0
  · have hns : ks = [] := by simpa using hn0
    subst hns
    go_enter Try.func53, Try.ntmps53
    go_wp2_with fail
    go_loop [1, 5] (fun l i => i = .int .i64 0 ∧ l = .int .i64 left) (fun _ _ => 0)
    case atStart => exact ⟨rfl, rfl⟩
    case round =>
      obtain ⟨rfl, rfl⟩ := hrel
      go_wp2_with fail
      go_ret
      exact ⟨left, rfl, by omega, by omega, by simp [sL], Below.refl _ _⟩
  · obtain ⟨rfl, hbB⟩ := hka (by intro e; simp [e] at hn0)
    clear hka
    go_enter Try.func53, Try.ntmps53
    go_wp2_with fail
    go_loopw [1, 5] (fun l i wr => ∃ (k : Nat) (x : Int), k ≤ ks.length ∧ i = .int .i64 k ∧ l = .int .i64 x ∧ 0 ≤ x ∧ x ≤ left ∧ x + (sL (ks.take k) : Nat) + ks.length ≤ left ∧ Below w.heap.size w wr) (fun _ i _ => ks.length - (intOf i).toNat)
    case atStart => exact ⟨0, _, Nat.zero_le _, rfl, rfl, by omega, by omega, by simp [sL], Below.refl _ _⟩
    case round =>
      obtain ⟨k, x, hk, rfl, rfl, hx0, hx1, hx2, hbel⟩ := hrel
      have HX : Hid (x + (sL (ks.take k) : Nat) + ks.length ≤ left) := hx2
      clear hx2
      by_cases hlt : k < ks.length
      · have hck : ∀ j, j < 5 → wr.cell? ⟨b, off + k * 5 + j, none⟩ = some (C k j) := fun j hj => (hbel.cell (p := ⟨b, off + k * 5 + j, none⟩) (by show b < _; omega)).trans (hc k hlt j hj)
        have hc0 : wr.cell? ⟨b, off + k * 5, none⟩ = some (C k 0) := hck 0 (by omega)
        have hc1 := hck 1 (by omega)
        have hc2 := hck 2 (by omega)
        have hc3 := hck 3 (by omega)
        have hc4 := hck 4 (by omega)
        clear hck hc
        go_wp2_with (go_at_call 36; refine (IH k hlt _ B _ x ((hr k hlt).under (hbel.mono hB)) (by have := hbel.size; omega) hx0 (by omega)).mono ?_; rintro e w' ⟨y, rfl, hy0, hy1, hy2, hby⟩)
        · go_ret
          exact ⟨-1, rfl, by omega, by omega, by omega, hbel.trans (hby.mono hbel.size)⟩
        · go_roundw
          case rel => exact ⟨k + 1, y, by omega, by go_num, rfl, by assumption, by omega, by have := HX.out; have := hy2 (by assumption); rw [sL_take ks k hlt]; omega, hbel.trans (hby.mono hbel.size)⟩
          case measure => simp [intOf]; omega
      · go_wp2_with fail
        go_ret
        have e : k = ks.length := by omega
        exact ⟨x, rfl, by omega, by omega, fun _ => by have := HX.out; rw [e, List.take_length] at this; omega, hbel⟩

set_option maxHeartbeats 400000 in
theorem szValue_sstep (s n : Int) (t : ByteArray) (ns : List ByteArray) (ks : List V) (IH : ∀ i, i < ks.length → SzSum (kth ks i)) : SzSum (.mk s n t ns ks) := by
  intro w B v left hR hB hl0 hl1
  obtain ⟨na, ka, nc, kc, rfl, hs, hns, ht, hbs, hK⟩ := hR.inv
  clear hR
  unfold maxLen at ht
  have hbx : ∀ o, Below w.heap.size w (w.alloc o) := fun o => (Below.refl _ _).alloc (Nat.le_refl _) _
  by_cases h1 : left < t.size
  · go_enter Try.func36, Try.ntmps36
    go_wp2_with fail
    go_ret
    exact ⟨-1, rfl, by omega, by omega, by omega, hbx _⟩
  · go_enter Try.func36, Try.ntmps36
    go_wp2_with (first
      | (go_at_call 52; refine (szStringS_any ns na nc _ (· < B) (hs.under ((hbx _).mono hB)) _ (by omega) (by omega)).mono ?_; rintro e w' ⟨y, rfl, hy0, hy1, hy2, rfl⟩)
      | (go_at_call 53; refine (szValueS_sum ks IH _ B ka kc _ (hK.under ((hbx _).mono hB)) (by simp; omega) (by omega) (by omega)).mono ?_; rintro e w' ⟨z, rfl, hz0, hz1, hz2, hbz⟩))
    · go_ret
      exact ⟨-1, rfl, by omega, by omega, by omega, hbx _⟩
    · go_ret
      exact ⟨-1, rfl, by omega, by omega, by omega, (hbx _).trans (hbz.mono (by simp))⟩
    · go_ret
      exact ⟨z, rfl, by omega, by omega, fun h => by have := hz2 h; have := hy2 (by omega); simp only [szV]; omega, (hbx _).trans (hbz.mono (by simp))⟩

theorem szsum_all (m : Nat) : ∀ x : V, SizeOf.sizeOf x < m → SzSum x := by
  induction m with
  | zero => intro x h; omega
  | succ m ih =>
    intro x h
    match x, h with
    | .mk s n t ns ks, h => exact szValue_sstep s n t ns ks fun i hi => ih _ (by have := kth_lt ks i hi; simp at h; omega)
theorem szValue_sum (x : V) : SzSum x := szsum_all _ x (Nat.lt_succ_self _)

end Go.Proofs.Ytjlifamkfdmfcaa
