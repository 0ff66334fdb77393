import Derived.Test.YtelggammjejobaaGreatCopies
namespace Go.Proofs.YtelggammjejobaaGreat
set_option linter.unusedSimpArgs false
set_option linter.unusedVariables false
open Go.RowKit

/-- Whether a value has just what its sort has, but for what is in it. -/
def plainV (s n : Int) (t : ByteArray) (ns : List ByteArray) (kl : Nat) : Bool :=
  (s == 1 && n == 0 && t.toList.isEmpty && ns.length == 0 && (kl : Int) == 0) ||
  (s == 2 && (n == 0 || n == 1) && t.toList.isEmpty && ns.length == 0 && (kl : Int) == 0) ||
  (s == 3 && decide (-999999 ≤ n) && decide (n ≤ 999999) && t.toList.isEmpty && ns.length == 0 && (kl : Int) == 0) ||
  (s == 4 && n == 0 && plainB t && ns.length == 0 && (kl : Int) == 0) ||
  (s == 5 && n == 0 && t.toList.isEmpty && ns.length == 0) ||
  (s == 6 && n == 0 && t.toList.isEmpty && (ns.length : Int) == (kl : Int) && onceTo ns ns.length)

set_option maxHeartbeats 400000 in
theorem l1Plain_a (s n : Int) (t : ByteArray) (ns : List ByteArray) (na ka : Option Addr) (nc kc kl : Nat) (w : World) (h6 : (s == 6) = false) (hn : 0 < ns.length) :
    Calls Tryz.prog 53 #[.agg #[.int .i64 s, .int .i64 n, .string t, .slice na ns.length nc, .slice ka kl kc]] w fun e w' => e = .returned (.bool (plainV s n t ns kl)) ∧ Below w.heap.size w w' := by
  have h6' : (s != 6) = true := by simp only [bne, h6]; rfl
  have hn' : (0 : Int) < (ns.length : Int) := by omega
  have hn0 : ¬ ns.length = 0 := by omega
  have hn1 : ¬ ns = [] := by intro e; simp [e] at hn
  go_enter Tryz.func53, Tryz.ntmps53
  go_wp2_with fail
  go_ret
  exact ⟨ret_bool (by simp [plainV, h6, hn1]), below_box _ _⟩

set_option maxHeartbeats 400000 in
theorem l1Plain_1 (n : Int) (t : ByteArray) (na ka : Option Addr) (nc kc kl : Nat) (w : World) :
    Calls Tryz.prog 53 #[.agg #[.int .i64 1, .int .i64 n, .string t, .slice na 0 nc, .slice ka kl kc]] w fun e w' => e = .returned (.bool (plainV 1 n t [] kl)) ∧ Below w.heap.size w w' := by
  cases ht : t.toList.isEmpty
  · go_enter Tryz.func53, Tryz.ntmps53
    go_wp2_with fail
    all_goals (go_ret; exact ⟨ret_bool (by simp [plainV, ht]), below_box _ _⟩)
  · cases hz : (n == 0)
    · have gz : (n != 0) = true := by simp only [bne, hz]; rfl
      go_enter Tryz.func53, Tryz.ntmps53
      go_wp2_with fail
      all_goals (go_ret; exact ⟨ret_bool (by simp [plainV, ht, hz]), below_box _ _⟩)
    · have gz : (n != 0) = false := by simp only [bne, hz]; rfl
      go_enter Tryz.func53, Tryz.ntmps53
      go_wp2_with fail
      all_goals (go_ret; exact ⟨ret_bool (by simp [plainV, ht, hz]), below_box _ _⟩)

set_option maxHeartbeats 400000 in
theorem l1Plain_2 (n : Int) (t : ByteArray) (na ka : Option Addr) (nc kc kl : Nat) (w : World) :
    Calls Tryz.prog 53 #[.agg #[.int .i64 2, .int .i64 n, .string t, .slice na 0 nc, .slice ka kl kc]] w fun e w' => e = .returned (.bool (plainV 2 n t [] kl)) ∧ Below w.heap.size w w' := by
  cases ht : t.toList.isEmpty
  · go_enter Tryz.func53, Tryz.ntmps53
    go_wp2_with (go_at_call 15; refine (l1In_any _ _ _ _).mono ?_; rintro e w' ⟨rfl, rfl⟩)
    all_goals (go_ret; exact ⟨ret_bool (by simp [plainV, ht]), below_box _ _⟩)
  · go_enter Tryz.func53, Tryz.ntmps53
    go_wp2_with (go_at_call 15; refine (l1In_any _ _ _ _).mono ?_; rintro e w' ⟨rfl, rfl⟩)
    all_goals (go_ret; exact ⟨ret_bool (by rw [Bool.eq_iff_iff]; simp [plainV, ht]; omega), below_box _ _⟩)

set_option maxHeartbeats 400000 in
theorem l1Plain_3 (n : Int) (t : ByteArray) (na ka : Option Addr) (nc kc kl : Nat) (w : World) :
    Calls Tryz.prog 53 #[.agg #[.int .i64 3, .int .i64 n, .string t, .slice na 0 nc, .slice ka kl kc]] w fun e w' => e = .returned (.bool (plainV 3 n t [] kl)) ∧ Below w.heap.size w w' := by
  cases ht : t.toList.isEmpty
  · go_enter Tryz.func53, Tryz.ntmps53
    go_wp2_with (go_at_call 15; refine (l1In_any _ _ _ _).mono ?_; rintro e w' ⟨rfl, rfl⟩)
    all_goals (go_ret; exact ⟨ret_bool (by simp [plainV, ht]), below_box _ _⟩)
  · go_enter Tryz.func53, Tryz.ntmps53
    go_wp2_with (go_at_call 15; refine (l1In_any _ _ _ _).mono ?_; rintro e w' ⟨rfl, rfl⟩)
    all_goals (go_ret; exact ⟨ret_bool (by rw [Bool.eq_iff_iff]; simp [plainV, ht]; omega), below_box _ _⟩)

set_option maxHeartbeats 400000 in
theorem l1Plain_4 (n : Int) (t : ByteArray) (na ka : Option Addr) (nc kc kl : Nat) (w : World) (hts : t.size ≤ maxLen) :
    Calls Tryz.prog 53 #[.agg #[.int .i64 4, .int .i64 n, .string t, .slice na 0 nc, .slice ka kl kc]] w fun e w' => e = .returned (.bool (plainV 4 n t [] kl)) ∧ Below w.heap.size w w' := by
  cases hz : (n == 0)
  · have gz : (n != 0) = true := by simp only [bne, hz]; rfl
    go_enter Tryz.func53, Tryz.ntmps53
    go_wp2_with (go_at_call 79; refine (l1Text_any _ _ hts).mono ?_; rintro e w' ⟨rfl, rfl⟩)
    all_goals (go_ret; exact ⟨ret_bool (by cases hp : plainB t <;> simp_all [plainV]), below_box _ _⟩)
  · have gz : (n != 0) = false := by simp only [bne, hz]; rfl
    go_enter Tryz.func53, Tryz.ntmps53
    go_wp2_with (go_at_call 79; refine (l1Text_any _ _ hts).mono ?_; rintro e w' ⟨rfl, rfl⟩)
    all_goals (go_ret; exact ⟨ret_bool (by cases hp : plainB t <;> simp_all [plainV]), below_box _ _⟩)

set_option maxHeartbeats 400000 in
theorem l1Plain_5 (n : Int) (t : ByteArray) (na ka : Option Addr) (nc kc kl : Nat) (w : World) :
    Calls Tryz.prog 53 #[.agg #[.int .i64 5, .int .i64 n, .string t, .slice na 0 nc, .slice ka kl kc]] w fun e w' => e = .returned (.bool (plainV 5 n t [] kl)) ∧ Below w.heap.size w w' := by
  cases ht : t.toList.isEmpty
  · go_enter Tryz.func53, Tryz.ntmps53
    go_wp2_with fail
    all_goals (go_ret; exact ⟨ret_bool (by simp [plainV, ht]), below_box _ _⟩)
  · cases hz : (n == 0)
    · have gz : (n != 0) = true := by simp only [bne, hz]; rfl
      go_enter Tryz.func53, Tryz.ntmps53
      go_wp2_with fail
      all_goals (go_ret; exact ⟨ret_bool (by simp [plainV, ht, hz]), below_box _ _⟩)
    · have gz : (n != 0) = false := by simp only [bne, hz]; rfl
      go_enter Tryz.func53, Tryz.ntmps53
      go_wp2_with fail
      all_goals (go_ret; exact ⟨ret_bool (by simp [plainV, ht, hz]), below_box _ _⟩)

set_option maxHeartbeats 400000 in
theorem l1Plain_x (s : Int) (n : Int) (t : ByteArray) (na ka : Option Addr) (nc kc kl : Nat) (w : World) (h1 : (s == 1) = false) (h2 : (s == 2) = false) (h3 : (s == 3) = false) (h4 : (s == 4) = false) (h5 : (s == 5) = false) (h6 : (s == 6) = false) :
    Calls Tryz.prog 53 #[.agg #[.int .i64 s, .int .i64 n, .string t, .slice na 0 nc, .slice ka kl kc]] w fun e w' => e = .returned (.bool (plainV s n t [] kl)) ∧ Below w.heap.size w w' := by
  have g2 : (s != 2) = true := by simp only [bne, h2]; rfl
  have g3 : (s != 3) = true := by simp only [bne, h3]; rfl
  have g4 : (s != 4) = true := by simp only [bne, h4]; rfl
  have g6 : (s != 6) = true := by simp only [bne, h6]; rfl
  cases ht : t.toList.isEmpty
  · go_enter Tryz.func53, Tryz.ntmps53
    go_wp2_with fail
    all_goals (go_ret; exact ⟨ret_bool (by simp [plainV, h1, h2, h3, h4, h5, h6, ht]), below_box _ _⟩)
  · cases hz : (n == 0)
    · have gz : (n != 0) = true := by simp only [bne, hz]; rfl
      go_enter Tryz.func53, Tryz.ntmps53
      go_wp2_with fail
      all_goals (go_ret; exact ⟨ret_bool (by simp [plainV, h1, h2, h3, h4, h5, h6, ht, hz]), below_box _ _⟩)
    · have gz : (n != 0) = false := by simp only [bne, hz]; rfl
      go_enter Tryz.func53, Tryz.ntmps53
      go_wp2_with fail
      all_goals (go_ret; exact ⟨ret_bool (by simp [plainV, h1, h2, h3, h4, h5, h6, ht, hz]), below_box _ _⟩)

end Go.Proofs.YtelggammjejobaaGreat

namespace Go.Proofs.YtelggammjejobaaGreat
set_option linter.unusedSimpArgs false
set_option linter.unusedVariables false
open Go.RowKit

set_option maxHeartbeats 800000 in
theorem l1Plain_6 (n : Int) (t : ByteArray) (ns : List ByteArray) (na ka : Option Addr) (nc kc kl : Nat) (w : World) (hS : Strs w (· < w.heap.size) ns na) (hcap : ns.length ≤ nc) :
    Calls Tryz.prog 53 #[.agg #[.int .i64 6, .int .i64 n, .string t, .slice na ns.length nc, .slice ka kl kc]] w fun e w' => e = .returned (.bool (plainV 6 n t ns kl)) ∧ Below w.heap.size w w' := by
  cases ht : t.toList.isEmpty
  · go_enter Tryz.func53, Tryz.ntmps53
    go_wp2_with fail
    go_ret
    exact ⟨ret_bool (by simp [plainV, ht]), below_box _ _⟩
  cases hz : (n == 0)
  · have gz : (n != 0) = true := by simp only [bne, hz]; rfl
    go_enter Tryz.func53, Tryz.ntmps53
    go_wp2_with fail
    go_ret
    exact ⟨ret_bool (by simp [plainV, hz]), below_box _ _⟩
  have gz : (n != 0) = false := by simp only [bne, hz]; rfl
  have hpl : Hid (plainV 6 n t ns kl = ((ns.length : Int) == (kl : Int) && onceTo ns ns.length)) := by show _ = _; simp [plainV, hz, ht]
  by_cases hn0 : ns.length = 0
  · have hns : ns = [] := by simpa using hn0
    subst hns
    go_enter Tryz.func53, Tryz.ntmps53
    go_wp2_with fail
    go_loop [3] (fun i => i = .int .i64 0) (fun _ => 0)
    case atStart => rfl
    case round =>
      subst hrel
      go_wp2_with fail
      go_ret
      exact ⟨ret_bool (by rw [hpl.out]; simp [onceTo]), below_box _ _⟩
  have hS' : ∀ wr m, Below w.heap.size w wr → Strs (wr.drewN m) (· < w.heap.size) ns na := fun wr m hb => hS.under (below_drews hb m)
  obtain ⟨h1, h2, h3⟩ := hS
  unfold maxLen at h3
  obtain ⟨b, off, rfl, hbB, hc⟩ := h1 (by intro e; simp [e] at hn0)
  clear h1
  go_enter Tryz.func53, Tryz.ntmps53
  go_wp2_with fail
  go_loopw [3] (fun i wr => ∃ k : Nat, k ≤ ns.length ∧ i = .int .i64 k ∧ onceTo ns k = true ∧ Below w.heap.size w wr ∧ wr.cell? ⟨w.heap.size, 3, none⟩ = some (.slice (some ⟨b, off, none⟩) ns.length nc) ∧ wr.cell? ⟨w.heap.size, 4, none⟩ = some (.slice ka kl kc)) (fun i _ => ns.length - (intOf i).toNat)
  case atStart => exact ⟨0, Nat.zero_le _, rfl, rfl, below_box _ _, by simp, by simp⟩
  case round =>
    obtain ⟨k, hk, rfl, hp, hbel, hx3, hx4⟩ := hrel
    have HP : Hid (onceTo ns k = true) := hp
    clear hp
    by_cases hlt : k < ns.length
    · have hck : wr.cell? ⟨b, off + k, none⟩ = some (.string (nth ns k)) := (hbel.cell (p := ⟨b, off + k, none⟩) hbB).trans (hc k hlt)
      have h2k := h2 k
      have hki : (k : Int) < (ns.length : Int) := by omega
      have hknc : k ≤ nc := by omega
      clear hc h2
      cases hw : wordB (nth ns k)
      · have hcn : ∀ w, Calls Tryz.prog 46 #[.string (nth ns k)] w fun e w' => e = .returned (.bool false) ∧ w' = w := fun w => (l1Name_any _ w h2k).mono fun _ _ h => ⟨by rw [h.1, hw], h.2.symm⟩
        go_wp2_with fail
        go_quiet (first | (go_at_call 46; exact Calls.quiet_of_same (hcn _)))
        go_wp2_with fail
        go_ret
        exact ⟨ret_bool (by rw [hpl.out, onceTo_false ns _ k hlt (by rw [hw]; rfl)]; simp), below_drews hbel _⟩
      · have hcn : ∀ w, Calls Tryz.prog 46 #[.string (nth ns k)] w fun e w' => e = .returned (.bool true) ∧ w' = w := fun w => (l1Name_any _ w h2k).mono fun _ _ h => ⟨by rw [h.1, hw], h.2.symm⟩
        cases hh : hasTo ns (nth ns k) k
        · have hch : ∀ m, Calls Tryz.prog 80 #[.slice (some ⟨b, off, none⟩) k nc, .string (nth ns k)] (wr.drewN m) fun e w' => e = .returned (.bool false) ∧ w' = wr.drewN m := fun m => (l1Has_any ns _ _ _ _ _ (hS' wr m hbel) k hk).mono fun _ _ h => ⟨by rw [h.1, hh], h.2.symm⟩
          go_wp2_with fail
          go_quiet (first | (go_at_call 46; exact Calls.quiet_of_same (hcn _)) | (go_at_call 80; exact Calls.quiet_of_same (hch _)))
          go_wp2_with fail
          go_roundw
          case rel => exact ⟨k + 1, by omega, by go_num, by rw [onceTo_succ, HP.out, hw, hh]; rfl, below_drews hbel _, by simpa using hx3, by simpa using hx4⟩
          case measure => simp [intOf]; omega
        · have hch : ∀ m, Calls Tryz.prog 80 #[.slice (some ⟨b, off, none⟩) k nc, .string (nth ns k)] (wr.drewN m) fun e w' => e = .returned (.bool true) ∧ w' = wr.drewN m := fun m => (l1Has_any ns _ _ _ _ _ (hS' wr m hbel) k hk).mono fun _ _ h => ⟨by rw [h.1, hh], h.2.symm⟩
          go_wp2_with fail
          go_quiet (first | (go_at_call 46; exact Calls.quiet_of_same (hcn _)) | (go_at_call 80; exact Calls.quiet_of_same (hch _)))
          go_wp2_with fail
          go_ret
          exact ⟨ret_bool (by rw [hpl.out, onceTo_false ns _ k hlt (by rw [hw, hh]; rfl)]; simp), below_drews hbel _⟩
    · go_wp2_with fail
      go_ret
      have e : k = ns.length := by omega
      exact ⟨ret_bool (by rw [hpl.out, ← e, HP.out]; simp), hbel⟩
end Go.Proofs.YtelggammjejobaaGreat

namespace Go.Proofs.YtelggammjejobaaGreat
set_option linter.unusedSimpArgs false
set_option linter.unusedVariables false
open Go.RowKit

theorem l1Plain_any (s n : Int) (t : ByteArray) (ns : List ByteArray) (na ka : Option Addr) (nc kc kl : Nat) (w : World) (hS : Strs w (· < w.heap.size) ns na) (hcap : ns.length ≤ nc) (ht : t.size ≤ maxLen) :
    Calls Tryz.prog 53 #[.agg #[.int .i64 s, .int .i64 n, .string t, .slice na ns.length nc, .slice ka kl kc]] w fun e w' => e = .returned (.bool (plainV s n t ns kl)) ∧ Below w.heap.size w w' := by
  by_cases h6 : s = 6
  · subst h6; exact l1Plain_6 n t ns na ka nc kc kl w hS hcap
  by_cases hn : 0 < ns.length
  · exact l1Plain_a s n t ns na ka nc kc kl w (by simpa using h6) hn
  have hns : ns = [] := by simpa using hn
  subst hns
  by_cases h1 : s = 1
  · subst h1; exact l1Plain_1 n t na ka nc kc kl w
  by_cases h2 : s = 2
  · subst h2; exact l1Plain_2 n t na ka nc kc kl w
  by_cases h3 : s = 3
  · subst h3; exact l1Plain_3 n t na ka nc kc kl w
  by_cases h4 : s = 4
  · subst h4; exact l1Plain_4 n t na ka nc kc kl w ht
  by_cases h5 : s = 5
  · subst h5; exact l1Plain_5 n t na ka nc kc kl w
  exact l1Plain_x s n t na ka nc kc kl w (by simpa using h1) (by simpa using h2) (by simpa using h3) (by simpa using h4) (by simpa using h5) (by simpa using h6)

/-- How many parts are left behind a value, of so many, where so many levels may come; below 0 if it is not ok. -/
def partsF : Nat → V → Int → Int
  | 0, _, _ => -1
  | f + 1, x, l => if l - 1 < 0 ∨ plainV x.sort x.num x.text x.names x.kids.length = false then -1 else x.kids.foldl (fun n k => if 0 ≤ n then partsF f k n else n) (l - 1)
/-- How many parts are left behind a value at a level, of so many. -/
def partsV (x : V) (d l : Int) : Int := partsF (17 - d).toNat x l
/-- The same of a list of values. -/
def partsL (ks : List V) (d n : Int) : Int := ks.foldl (fun n k => if 0 ≤ n then partsV k d n else n) n

theorem partsV_eq (s n : Int) (t : ByteArray) (ns : List ByteArray) (ks : List V) (d l : Int) : partsV (.mk s n t ns ks) d l = if l - 1 < 0 ∨ 16 < d ∨ plainV s n t ns ks.length = false then -1 else partsL ks (d + 1) (l - 1) := by
  unfold partsV
  by_cases h : 16 < d
  · rw [if_pos (Or.inr (Or.inl h)), show (17 - d).toNat = 0 by omega, partsF]
  · obtain ⟨f, hf⟩ : ∃ f, (17 - d).toNat = f + 1 := ⟨(17 - (d + 1)).toNat, by omega⟩
    have hf' : (17 - (d + 1)).toNat = f := by omega
    rw [hf, partsF]
    simp only [partsL, partsV, hf', h, false_or]
theorem partsL_nil (d n : Int) : partsL [] d n = n := rfl
theorem partsL_neg (ks : List V) (d : Int) : ∀ n : Int, n < 0 → partsL ks d n = n := by
  induction ks with
  | nil => intro n _; rfl
  | cons k ks ih => intro n h; rw [partsL, List.foldl_cons, if_neg (by omega)]; exact ih n h
theorem partsL_cons (k : V) (ks : List V) (d n : Int) : partsL (k :: ks) d n = if 0 ≤ n then partsL ks d (partsV k d n) else n := by
  by_cases h : 0 ≤ n
  · rw [if_pos h, partsL, List.foldl_cons, if_pos h]; rfl
  · rw [if_neg h]; exact partsL_neg _ _ _ (by omega)
theorem partsL_append (xs ys : List V) (d n : Int) : partsL (xs ++ ys) d n = partsL ys d (partsL xs d n) := by
  simp only [partsL, List.foldl_append]
theorem take_kth (ks : List V) (k : Nat) (h : k < ks.length) : ks.take (k + 1) = ks.take k ++ [kth ks k] := by
  rw [List.take_succ_eq_append_getElem h]; simp [kth, List.getD_eq_getElem?_getD, h]
theorem partsL_succ (ks : List V) (k : Nat) (h : k < ks.length) (d n : Int) (hp : 0 ≤ partsL (ks.take k) d n) : partsL (ks.take (k + 1)) d n = partsV (kth ks k) d (partsL (ks.take k) d n) := by
  rw [take_kth ks k h, partsL_append, partsL_cons, if_pos hp, partsL_nil]
theorem partsL_stop (ks : List V) (k : Nat) (d n : Int) (hp : partsL (ks.take k) d n < 0) : partsL ks d n = partsL (ks.take k) d n := by
  conv => lhs; rw [← List.take_append_drop k ks]
  rw [partsL_append, partsL_neg _ _ _ hp]

/-- The bounds of what is left, by the size of a value. -/
theorem parts_bd (m : Nat) : (∀ x : V, SizeOf.sizeOf x < m → ∀ d l : Int, 0 ≤ l → -1 ≤ partsV x d l ∧ partsV x d l < l ∨ partsV x d l = -1) ∧
    (∀ ks : List V, SizeOf.sizeOf ks < m → ∀ d n : Int, -1 ≤ n → -1 ≤ partsL ks d n ∧ partsL ks d n ≤ n ∧ (0 ≤ partsL ks d n → (ks.length : Int) + partsL ks d n ≤ n)) := by
  induction m with
  | zero => exact ⟨fun x h => by omega, fun x h => by omega⟩
  | succ m ih =>
    refine ⟨fun x hx d l hl => ?_, fun ks hk d n hn => ?_⟩
    · match x, hx with
      | .mk s n t ns ks, hx =>
        rw [partsV_eq]
        split
        · exact Or.inr rfl
        · have := ih.2 ks (by simp at hx; omega) (d + 1) (l - 1) (by omega)
          left; omega
    · match ks, hk with
      | [], hk => rw [partsL_nil]; simp; omega
      | k :: ks, hk =>
        rw [partsL_cons]
        split
        · rename_i h0
          have h1 := ih.1 k (by simp at hk; omega) d n h0
          have h2 := ih.2 ks (by simp at hk; omega) d (partsV k d n) (by omega)
          simp only [List.length_cons]
          by_cases h3 : 0 ≤ partsV k d n
          · omega
          · have := partsL_neg ks d (partsV k d n) (by omega); omega
        · omega
theorem partsV_bd (x : V) (d l : Int) (hl : 0 ≤ l) : -1 ≤ partsV x d l ∧ (partsV x d l < l ∨ partsV x d l = -1) := by
  have := (parts_bd _).1 x (Nat.lt_succ_self _) d l hl; omega
theorem partsL_bd (ks : List V) (d n : Int) (hn : -1 ≤ n) : -1 ≤ partsL ks d n ∧ partsL ks d n ≤ n ∧ (0 ≤ partsL ks d n → (ks.length : Int) + partsL ks d n ≤ n) :=
  (parts_bd _).2 ks (Nat.lt_succ_self _) d n hn

/-- Whether a value is ok. -/
def okV (x : V) : Bool := decide (0 ≤ partsV x 1 600)

end Go.Proofs.YtelggammjejobaaGreat
