/-
  What a value of each sort has: the model's question and the program's.
-/
import Derived.Test.YtjpabpkfdahdhaaGreatEq
namespace Go.Proofs.YtjpabpkfdahdhaaGreat
set_option linter.unusedSimpArgs false
set_option linter.unusedVariables false
open Go.RowKit

/-- Whether a value has just what its sort has, but for what is in it. -/
def plainV (s n : Int) (t : ByteArray) (ns : List ByteArray) (kl : Nat) : Bool :=
  (s == 1 && n == 0 && t.toList.isEmpty && ns.length == 0 && (kl : Int) == 0) ||
  (s == 2 && (n == 0 || n == 1) && t.toList.isEmpty && ns.length == 0 && (kl : Int) == 0) ||
  (s == 3 && decide (-999999 ≤ n) && decide (n ≤ 999999) && t.toList.isEmpty && ns.length == 0 && (kl : Int) == 0) ||
  (s == 4 && n == 0 && plainB t && ns.length == 0 && (kl : Int) == 0) ||
  (s == 5 && n == 0 && t.toList.isEmpty && ns.length == 0) ||
  (s == 6 && n == 0 && t.toList.isEmpty && (ns.length : Int) == (kl : Int) && onceTo ns ns.length)

set_option maxHeartbeats 400000 in
theorem l1Plain_a (s n : Int) (t : ByteArray) (ns : List ByteArray) (na ka : Option Addr) (nc kc kl : Nat) (w : World) (h6 : (s == 6) = false) (hn : 0 < ns.length) :
    Calls Tryz.prog 53 #[.agg #[.int .i64 s, .int .i64 n, .string t, .slice na ns.length nc, .slice ka kl kc]] w fun e w' => e = .returned (.bool (plainV s n t ns kl)) ∧ Below w.heap.size w w' := by
  have h6' : (s != 6) = true := by simp only [bne, h6]; rfl
  have hn' : (0 : Int) < (ns.length : Int) := by omega
  have hn0 : ¬ ns.length = 0 := by omega
  have hn1 : ¬ ns = [] := by intro e; simp [e] at hn
  go_enter Tryz.func53, Tryz.ntmps53
  go_wp2_with fail
  go_ret
  exact ⟨ret_bool (by simp [plainV, h6, hn1]), below_box _ _⟩

set_option maxHeartbeats 400000 in
theorem l1Plain_1 (n : Int) (t : ByteArray) (na ka : Option Addr) (nc kc kl : Nat) (w : World) :
    Calls Tryz.prog 53 #[.agg #[.int .i64 1, .int .i64 n, .string t, .slice na 0 nc, .slice ka kl kc]] w fun e w' => e = .returned (.bool (plainV 1 n t [] kl)) ∧ Below w.heap.size w w' := by
  cases ht : t.toList.isEmpty
  · go_enter Tryz.func53, Tryz.ntmps53
    go_wp2_with fail
    all_goals (go_ret; exact ⟨ret_bool (by simp [plainV, ht]), below_box _ _⟩)
  · cases hz : (n == 0)
    · have gz : (n != 0) = true := by simp only [bne, hz]; rfl
      go_enter Tryz.func53, Tryz.ntmps53
      go_wp2_with fail
      all_goals (go_ret; exact ⟨ret_bool (by simp [plainV, ht, hz]), below_box _ _⟩)
    · have gz : (n != 0) = false := by simp only [bne, hz]; rfl
      go_enter Tryz.func53, Tryz.ntmps53
      go_wp2_with fail
      all_goals (go_ret; exact ⟨ret_bool (by simp [plainV, ht, hz]), below_box _ _⟩)

set_option maxHeartbeats 400000 in
theorem l1Plain_2 (n : Int) (t : ByteArray) (na ka : Option Addr) (nc kc kl : Nat) (w : World) :
    Calls Tryz.prog 53 #[.agg #[.int .i64 2, .int .i64 n, .string t, .slice na 0 nc, .slice ka kl kc]] w fun e w' => e = .returned (.bool (plainV 2 n t [] kl)) ∧ Below w.heap.size w w' := by
  cases ht : t.toList.isEmpty
  · go_enter Tryz.func53, Tryz.ntmps53
    go_wp2_with (go_at_call 15; refine (l1In_any _ _ _ _).mono ?_; rintro e w' ⟨rfl, rfl⟩)
    all_goals (go_ret; exact ⟨ret_bool (by simp [plainV, ht]), below_box _ _⟩)
  · go_enter Tryz.func53, Tryz.ntmps53
    go_wp2_with (go_at_call 15; refine (l1In_any _ _ _ _).mono ?_; rintro e w' ⟨rfl, rfl⟩)
    all_goals (go_ret; exact ⟨ret_bool (by rw [Bool.eq_iff_iff]; simp [plainV, ht]; omega), below_box _ _⟩)

set_option maxHeartbeats 400000 in
theorem l1Plain_3 (n : Int) (t : ByteArray) (na ka : Option Addr) (nc kc kl : Nat) (w : World) :
    Calls Tryz.prog 53 #[.agg #[.int .i64 3, .int .i64 n, .string t, .slice na 0 nc, .slice ka kl kc]] w fun e w' => e = .returned (.bool (plainV 3 n t [] kl)) ∧ Below w.heap.size w w' := by
  cases ht : t.toList.isEmpty
  · go_enter Tryz.func53, Tryz.ntmps53
    go_wp2_with (go_at_call 15; refine (l1In_any _ _ _ _).mono ?_; rintro e w' ⟨rfl, rfl⟩)
    all_goals (go_ret; exact ⟨ret_bool (by simp [plainV, ht]), below_box _ _⟩)
  · go_enter Tryz.func53, Tryz.ntmps53
    go_wp2_with (go_at_call 15; refine (l1In_any _ _ _ _).mono ?_; rintro e w' ⟨rfl, rfl⟩)
    all_goals (go_ret; exact ⟨ret_bool (by rw [Bool.eq_iff_iff]; simp [plainV, ht]; omega), below_box _ _⟩)

set_option maxHeartbeats 400000 in
theorem l1Plain_4 (n : Int) (t : ByteArray) (na ka : Option Addr) (nc kc kl : Nat) (w : World) (hts : t.size ≤ maxLen) :
    Calls Tryz.prog 53 #[.agg #[.int .i64 4, .int .i64 n, .string t, .slice na 0 nc, .slice ka kl kc]] w fun e w' => e = .returned (.bool (plainV 4 n t [] kl)) ∧ Below w.heap.size w w' := by
  cases hz : (n == 0)
  · have gz : (n != 0) = true := by simp only [bne, hz]; rfl
    go_enter Tryz.func53, Tryz.ntmps53
    go_wp2_with (go_at_call 79; refine (l1Text_any _ _ hts).mono ?_; rintro e w' ⟨rfl, rfl⟩)
    all_goals (go_ret; exact ⟨ret_bool (by cases hp : plainB t <;> simp_all [plainV]), below_box _ _⟩)
  · have gz : (n != 0) = false := by simp only [bne, hz]; rfl
    go_enter Tryz.func53, Tryz.ntmps53
    go_wp2_with (go_at_call 79; refine (l1Text_any _ _ hts).mono ?_; rintro e w' ⟨rfl, rfl⟩)
    all_goals (go_ret; exact ⟨ret_bool (by cases hp : plainB t <;> simp_all [plainV]), below_box _ _⟩)

set_option maxHeartbeats 400000 in
theorem l1Plain_5 (n : Int) (t : ByteArray) (na ka : Option Addr) (nc kc kl : Nat) (w : World) :
    Calls Tryz.prog 53 #[.agg #[.int .i64 5, .int .i64 n, .string t, .slice na 0 nc, .slice ka kl kc]] w fun e w' => e = .returned (.bool (plainV 5 n t [] kl)) ∧ Below w.heap.size w w' := by
  cases ht : t.toList.isEmpty
  · go_enter Tryz.func53, Tryz.ntmps53
    go_wp2_with fail
    all_goals (go_ret; exact ⟨ret_bool (by simp [plainV, ht]), below_box _ _⟩)
  · cases hz : (n == 0)
    · have gz : (n != 0) = true := by simp only [bne, hz]; rfl
      go_enter Tryz.func53, Tryz.ntmps53
      go_wp2_with fail
      all_goals (go_ret; exact ⟨ret_bool (by simp [plainV, ht, hz]), below_box _ _⟩)
    · have gz : (n != 0) = false := by simp only [bne, hz]; rfl
      go_enter Tryz.func53, Tryz.ntmps53
      go_wp2_with fail
      all_goals (go_ret; exact ⟨ret_bool (by simp [plainV, ht, hz]), below_box _ _⟩)

set_option maxHeartbeats 400000 in
theorem l1Plain_x (s : Int) (n : Int) (t : ByteArray) (na ka : Option Addr) (nc kc kl : Nat) (w : World) (h1 : (s == 1) = false) (h2 : (s == 2) = false) (h3 : (s == 3) = false) (h4 : (s == 4) = false) (h5 : (s == 5) = false) (h6 : (s == 6) = false) :
    Calls Tryz.prog 53 #[.agg #[.int .i64 s, .int .i64 n, .string t, .slice na 0 nc, .slice ka kl kc]] w fun e w' => e = .returned (.bool (plainV s n t [] kl)) ∧ Below w.heap.size w w' := by
  have g2 : (s != 2) = true := by simp only [bne, h2]; rfl
  have g3 : (s != 3) = true := by simp only [bne, h3]; rfl
  have g4 : (s != 4) = true := by simp only [bne, h4]; rfl
  have g6 : (s != 6) = true := by simp only [bne, h6]; rfl
  cases ht : t.toList.isEmpty
  · go_enter Tryz.func53, Tryz.ntmps53
    go_wp2_with fail
    all_goals (go_ret; exact ⟨ret_bool (by simp [plainV, h1, h2, h3, h4, h5, h6, ht]), below_box _ _⟩)
  · cases hz : (n == 0)
    · have gz : (n != 0) = true := by simp only [bne, hz]; rfl
      go_enter Tryz.func53, Tryz.ntmps53
      go_wp2_with fail
      all_goals (go_ret; exact ⟨ret_bool (by simp [plainV, h1, h2, h3, h4, h5, h6, ht, hz]), below_box _ _⟩)
    · have gz : (n != 0) = false := by simp only [bne, hz]; rfl
      go_enter Tryz.func53, Tryz.ntmps53
      go_wp2_with fail
      all_goals (go_ret; exact ⟨ret_bool (by simp [plainV, h1, h2, h3, h4, h5, h6, ht, hz]), below_box _ _⟩)

end Go.Proofs.YtjpabpkfdahdhaaGreat
