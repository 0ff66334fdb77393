/-
  How many parts are left: the model's l1Parts and JsonOk.
-/
import Derived.Test.YtoohlmiegjaicaaPlain2
namespace Go.Proofs.Ytoohlmiegjaicaa
set_option linter.unusedSimpArgs false
set_option linter.unusedVariables false
open Go.RowKit

theorem l1Plain_any (s n : Int) (t : ByteArray) (ns : List ByteArray) (na ka : Option Addr) (nc kc kl : Nat) (w : World) (hS : Strs w (· < w.heap.size) ns na) (hcap : ns.length ≤ nc) (ht : t.size ≤ maxLen) :
    Calls Try.prog 27 #[.agg #[.int .i64 s, .int .i64 n, .string t, .slice na ns.length nc, .slice ka kl kc]] w fun e w' => e = .returned (.bool (plainV s n t ns kl)) ∧ Below w.heap.size w w' := by
  by_cases h6 : s = 6
  · subst h6; exact l1Plain_6 n t ns na ka nc kc kl w hS hcap
  by_cases hn : 0 < ns.length
  · exact l1Plain_a s n t ns na ka nc kc kl w (by simpa using h6) hn
  have hns : ns = [] := by simpa using hn
  subst hns
  by_cases h1 : s = 1
  · subst h1; exact l1Plain_1 n t na ka nc kc kl w
  by_cases h2 : s = 2
  · subst h2; exact l1Plain_2 n t na ka nc kc kl w
  by_cases h3 : s = 3
  · subst h3; exact l1Plain_3 n t na ka nc kc kl w
  by_cases h4 : s = 4
  · subst h4; exact l1Plain_4 n t na ka nc kc kl w ht
  by_cases h5 : s = 5
  · subst h5; exact l1Plain_5 n t na ka nc kc kl w
  exact l1Plain_x s n t na ka nc kc kl w (by simpa using h1) (by simpa using h2) (by simpa using h3) (by simpa using h4) (by simpa using h5) (by simpa using h6)

/-- How many parts are left behind a value, of so many, where so many levels may come; below 0 if it is not ok. -/
def partsF : Nat → V → Int → Int
  | 0, _, _ => -1
  | f + 1, x, l => if l - 1 < 0 ∨ plainV x.sort x.num x.text x.names x.kids.length = false then -1 else x.kids.foldl (fun n k => if 0 ≤ n then partsF f k n else n) (l - 1)
/-- How many parts are left behind a value at a level, of so many. -/
def partsV (x : V) (d l : Int) : Int := partsF (17 - d).toNat x l
/-- The same of a list of values. -/
def partsL (ks : List V) (d n : Int) : Int := ks.foldl (fun n k => if 0 ≤ n then partsV k d n else n) n

theorem partsV_eq (s n : Int) (t : ByteArray) (ns : List ByteArray) (ks : List V) (d l : Int) : partsV (.mk s n t ns ks) d l = if l - 1 < 0 ∨ 16 < d ∨ plainV s n t ns ks.length = false then -1 else partsL ks (d + 1) (l - 1) := by
  unfold partsV
  by_cases h : 16 < d
  · rw [if_pos (Or.inr (Or.inl h)), show (17 - d).toNat = 0 by omega, partsF]
  · obtain ⟨f, hf⟩ : ∃ f, (17 - d).toNat = f + 1 := ⟨(17 - (d + 1)).toNat, by omega⟩
    have hf' : (17 - (d + 1)).toNat = f := by omega
    rw [hf, partsF]
    simp only [partsL, partsV, hf', h, false_or]
theorem partsL_nil (d n : Int) : partsL [] d n = n := rfl
theorem partsL_neg (ks : List V) (d : Int) : ∀ n : Int, n < 0 → partsL ks d n = n := by
  induction ks with
  | nil => intro n _; rfl
  | cons k ks ih => intro n h; rw [partsL, List.foldl_cons, if_neg (by omega)]; exact ih n h
theorem partsL_cons (k : V) (ks : List V) (d n : Int) : partsL (k :: ks) d n = if 0 ≤ n then partsL ks d (partsV k d n) else n := by
  by_cases h : 0 ≤ n
  · rw [if_pos h, partsL, List.foldl_cons, if_pos h]; rfl
  · rw [if_neg h]; exact partsL_neg _ _ _ (by omega)
theorem partsL_append (xs ys : List V) (d n : Int) : partsL (xs ++ ys) d n = partsL ys d (partsL xs d n) := by
  simp only [partsL, List.foldl_append]
theorem take_kth (ks : List V) (k : Nat) (h : k < ks.length) : ks.take (k + 1) = ks.take k ++ [kth ks k] := by
  rw [List.take_succ_eq_append_getElem h]; simp [kth, List.getD_eq_getElem?_getD, h]
theorem partsL_succ (ks : List V) (k : Nat) (h : k < ks.length) (d n : Int) (hp : 0 ≤ partsL (ks.take k) d n) : partsL (ks.take (k + 1)) d n = partsV (kth ks k) d (partsL (ks.take k) d n) := by
  rw [take_kth ks k h, partsL_append, partsL_cons, if_pos hp, partsL_nil]
theorem partsL_stop (ks : List V) (k : Nat) (d n : Int) (hp : partsL (ks.take k) d n < 0) : partsL ks d n = partsL (ks.take k) d n := by
  conv => lhs; rw [← List.take_append_drop k ks]
  rw [partsL_append, partsL_neg _ _ _ hp]

/-- The bounds of what is left, by the size of a value. -/
theorem parts_bd (m : Nat) : (∀ x : V, SizeOf.sizeOf x < m → ∀ d l : Int, 0 ≤ l → -1 ≤ partsV x d l ∧ partsV x d l < l ∨ partsV x d l = -1) ∧
    (∀ ks : List V, SizeOf.sizeOf ks < m → ∀ d n : Int, -1 ≤ n → -1 ≤ partsL ks d n ∧ partsL ks d n ≤ n ∧ (0 ≤ partsL ks d n → (ks.length : Int) + partsL ks d n ≤ n)) := by
  induction m with
  | zero => exact ⟨fun x h => by omega, fun x h => by omega⟩
  | succ m ih =>
    refine ⟨fun x hx d l hl => ?_, fun ks hk d n hn => ?_⟩
    · match x, hx with
      | .mk s n t ns ks, hx =>
        rw [partsV_eq]
        split
        · exact Or.inr rfl
        · have := ih.2 ks (by simp at hx; omega) (d + 1) (l - 1) (by omega)
          left; omega
    · match ks, hk with
      | [], hk => rw [partsL_nil]; simp; omega
      | k :: ks, hk =>
        rw [partsL_cons]
        split
        · rename_i h0
          have h1 := ih.1 k (by simp at hk; omega) d n h0
          have h2 := ih.2 ks (by simp at hk; omega) d (partsV k d n) (by omega)
          simp only [List.length_cons]
          by_cases h3 : 0 ≤ partsV k d n
          · omega
          · have := partsL_neg ks d (partsV k d n) (by omega); omega
        · omega
theorem partsV_bd (x : V) (d l : Int) (hl : 0 ≤ l) : -1 ≤ partsV x d l ∧ (partsV x d l < l ∨ partsV x d l = -1) := by
  have := (parts_bd _).1 x (Nat.lt_succ_self _) d l hl; omega
theorem partsL_bd (ks : List V) (d n : Int) (hn : -1 ≤ n) : -1 ≤ partsL ks d n ∧ partsL ks d n ≤ n ∧ (0 ≤ partsL ks d n → (ks.length : Int) + partsL ks d n ≤ n) :=
  (parts_bd _).2 ks (Nat.lt_succ_self _) d n hn

def PtOk (x : V) : Prop := ∀ (w : World) (B : Nat) (v : Value) (d l : Int), Rep w (· < B) x v → B ≤ w.heap.size → 0 ≤ d → d ≤ 17 → 0 ≤ l → l ≤ 600 →
  Calls Try.prog 17 #[v, .int .i64 d, .int .i64 l] w fun e w' => e = .returned (.int .i64 (partsV x d l)) ∧ Below w.heap.size w w'

set_option maxHeartbeats 800000 in
theorem l1Parts_step (s n : Int) (t : ByteArray) (ns : List ByteArray) (ks : List V) (IH : ∀ i, i < ks.length → PtOk (kth ks i)) : PtOk (.mk s n t ns ks) := by
  intro w B v d l hR hB hd0 hd1 hl0 hl1
  obtain ⟨na, ka, nc, kc, rfl, hs, hns, ht, hbs, hK⟩ := hR.inv
  clear hR
  by_cases e1 : l - 1 < 0
  · go_enter Try.func17, Try.ntmps17
    go_wp2_with fail
    go_ret
    exact ⟨ret_int (by rw [partsV_eq, if_pos (Or.inl e1)]), below_box _ _⟩
  by_cases e2 : 16 < d
  · go_enter Try.func17, Try.ntmps17
    go_wp2_with fail
    go_ret
    exact ⟨ret_int (by rw [partsV_eq, if_pos (Or.inr (Or.inl e2))]), below_box _ _⟩
  have hpl : ∀ o, Calls Try.prog 27 #[.agg #[.int .i64 s, .int .i64 n, .string t, .slice na ns.length nc, .slice ka ks.length kc]] (w.alloc o) fun e w' => e = .returned (.bool (plainV s n t ns ks.length)) ∧ Below (w.alloc o).heap.size (w.alloc o) w' := fun o =>
    l1Plain_any s n t ns na ka nc kc ks.length (w.alloc o) ((hs.under ((below_box w o).mono hB)).sub fun k hk => by simp; omega) hns ht
  cases e3 : plainV s n t ns ks.length
  · rw [e3] at hpl
    go_enter Try.func17, Try.ntmps17
    go_wp2_with (go_at_call 27; refine (hpl _).mono ?_; rintro e w1 ⟨rfl, hb1⟩)
    go_ret
    exact ⟨ret_int (by rw [partsV_eq, if_pos (Or.inr (Or.inr e3))]), (below_box w _).trans (hb1.mono (by simp))⟩
  · rw [e3] at hpl
    have HV : Hid (partsV (.mk s n t ns ks) d l = partsL ks (d + 1) (l - 1)) := by
      show _ = _; rw [partsV_eq, if_neg (by rw [e3]; simp; omega)]
    go_enter Try.func17, Try.ntmps17
    go_wp2_with (go_at_call 27; refine (hpl _).mono ?_; rintro e w1 ⟨rfl, hb1⟩)
    clear hpl
    have hbw : Below w.heap.size w w1 := (below_box w _).trans (hb1.mono (by simp))
    have hx4 : w1.cell? ⟨w.heap.size, 4, none⟩ = some (.slice ka ks.length kc) := by rw [hb1.cell (by simp)]; simp
    have hsz : w.heap.size < w1.heap.size := by have := hb1.size; simp at this; omega
    clear hb1
    have h3 := hK.1
    obtain ⟨-, b, off, C, hka, hc, hr⟩ := hK
    go_loopw [7, 8] (fun q i wr => ∃ (k : Nat) (x : Int), k ≤ ks.length ∧ i = .int .i64 k ∧ q = .int .i64 x ∧ partsL (ks.take k) (d + 1) (l - 1) = x ∧ Below w.heap.size w wr ∧ wr.cell? ⟨w.heap.size, 4, none⟩ = some (.slice ka ks.length kc) ∧ w.heap.size < wr.heap.size) (fun _ i _ => ks.length - (intOf i).toNat)
    case atStart => exact ⟨0, _, Nat.zero_le _, rfl, rfl, by simp [partsL_nil], hbw, hx4, hsz⟩
    case round =>
      clear hbw hx4 hsz
      obtain ⟨k, x, hk, rfl, rfl, hx, hbel, hx4, hsz⟩ := hrel
      have HX : Hid (partsL (ks.take k) (d + 1) (l - 1) = x) := hx
      have hbd : -1 ≤ x ∧ x ≤ 600 := by have := partsL_bd (ks.take k) (d + 1) (l - 1) (by omega); omega
      clear hx
      by_cases hlt : k < ks.length
      · by_cases hx0 : 0 ≤ x
        · obtain ⟨rfl, hbB⟩ := hka (by intro e; simp [e] at hlt)
          have hck : ∀ j, j < 5 → wr.cell? ⟨b, off + k * 5 + j, none⟩ = some (C k j) := fun j hj => (hbel.cell (p := ⟨b, off + k * 5 + j, none⟩) (by show b < _; omega)).trans (hc k hlt j hj)
          have hc0 : wr.cell? ⟨b, off + k * 5, none⟩ = some (C k 0) := hck 0 (by omega)
          have hc1 := hck 1 (by omega)
          have hc2 := hck 2 (by omega)
          have hc3 := hck 3 (by omega)
          have hc4 := hck 4 (by omega)
          clear hck hc
          go_wp2_with (go_at_call 17; refine (IH k hlt _ B _ _ _ ((hr k hlt).under (hbel.mono hB)) (by omega) (by omega) (by omega) (by omega) (by omega)).mono ?_; rintro e w2 ⟨rfl, hb2⟩)
          go_roundw
          case rel =>
            have hs2 := hb2.size
            exact ⟨k + 1, _, by omega, by go_num, rfl, by rw [partsL_succ ks k hlt _ _ (by rw [HX.out]; exact hx0), HX.out], hbel.trans (hb2.mono hbel.size), (hb2.cell (p := ⟨w.heap.size, 4, none⟩) hsz).trans hx4, by omega⟩
          case measure => simp [intOf]; omega
        · go_wp2_with fail
          go_ret
          exact ⟨ret_int (by rw [HV.out, partsL_stop ks k _ _ (by rw [HX.out]; omega), HX.out]), hbel⟩
      · go_wp2_with fail
        go_ret
        have e : k = ks.length := by omega
        exact ⟨ret_int (by rw [HV.out, ← HX.out, e, List.take_length]), hbel⟩

theorem pt_all (m : Nat) : ∀ x : V, SizeOf.sizeOf x < m → PtOk x := by
  induction m with
  | zero => intro x h; omega
  | succ m ih =>
    intro x h
    match x, h with
    | .mk s n t ns ks, h => exact l1Parts_step s n t ns ks fun i hi => ih _ (by have := kth_lt ks i hi; simp at h; omega)
theorem l1Parts_any (x : V) : PtOk x := pt_all _ x (Nat.lt_succ_self _)

/-- Whether a value is ok. -/
def okV (x : V) : Bool := decide (0 ≤ partsV x 1 600)

set_option maxHeartbeats 400000 in
theorem specOk_any (x : V) (w : World) (B : Nat) (v : Value) (hR : Rep w (· < B) x v) (hB : B ≤ w.heap.size) :
    Calls Try.prog 7 #[v] w fun e w' => e = .returned (.bool (okV x)) ∧ Below w.heap.size w w' := by
  have hR' := hR
  obtain ⟨s, n, t, ns, ks⟩ := x
  obtain ⟨na, ka, nc, kc, rfl, -⟩ := hR.inv
  go_enter Try.func7, Try.ntmps7
  go_wp2_with (go_at_call 17; refine (l1Parts_any (.mk s n t ns ks) _ B _ _ _ (hR'.under ((below_box w _).mono hB)) (by simp; omega) (by omega) (by omega) (by omega) (by omega)).mono ?_; rintro e w2 ⟨rfl, hb2⟩)
  go_ret
  exact ⟨rfl, (below_box w _).trans (hb2.mono (by simp))⟩
end Go.Proofs.Ytoohlmiegjaicaa
