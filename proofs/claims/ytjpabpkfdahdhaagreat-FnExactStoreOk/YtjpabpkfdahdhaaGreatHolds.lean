/-
  What each sort asks of a value: the program's methods 'holds'.
-/
import Derived.Test.YtjpabpkfdahdhaaGreatParts
namespace Go.Proofs.YtjpabpkfdahdhaaGreat
set_option linter.unusedSimpArgs false
set_option linter.unusedVariables false
open Go.RowKit

def nokV (ns : List ByteArray) (kl : Nat) : Bool := (ns.length : Int) == 0 && (kl : Int) == 0

set_option maxHeartbeats 400000 in
theorem hasNoKids_any (s n : Int) (t : ByteArray) (ns : List ByteArray) (na ka : Option Addr) (nc kc kl : Nat) (w : World) :
    Calls Tryz.prog 71 #[.agg #[.int .i64 s, .int .i64 n, .string t, .slice na ns.length nc, .slice ka kl kc]] w fun e w' => e = .returned (.bool (nokV ns kl)) ∧ Below w.heap.size w w' := by
  cases h : ((ns.length : Int) == 0)
  · go_enter Tryz.func71, Tryz.ntmps71
    go_wp2_with fail
    go_ret
    exact ⟨ret_bool (by simp only [nokV, h]; rfl), below_box _ _⟩
  · go_enter Tryz.func71, Tryz.ntmps71
    go_wp2_with fail
    go_ret
    exact ⟨ret_bool (by simp only [nokV, h]; rfl), below_box _ _⟩

set_option maxHeartbeats 400000 in
theorem holds1_any (s n : Int) (t : ByteArray) (ns : List ByteArray) (na ka : Option Addr) (nc kc kl : Nat) (w : World) :
    Calls Tryz.prog 137 #[.agg #[], .agg #[.int .i64 s, .int .i64 n, .string t, .slice na ns.length nc, .slice ka kl kc]] w fun e w' => e = .returned (.bool (n == 0 && t.toList.isEmpty && nokV ns kl)) ∧ Below w.heap.size w w' := by
  cases hz : (n == 0)
  · go_enter Tryz.func137, Tryz.ntmps137
    go_wp2_with fail
    go_ret
    exact ⟨ret_bool (by simp), below_box2 _ _ _⟩
  cases ht : t.toList.isEmpty
  · go_enter Tryz.func137, Tryz.ntmps137
    go_wp2_with fail
    go_ret
    exact ⟨ret_bool (by simp), below_box2 _ _ _⟩
  · go_enter Tryz.func137, Tryz.ntmps137
    go_wp2_with (go_at_call 71; refine (hasNoKids_any _ _ _ _ _ _ _ _ _ _).mono ?_; rintro e w1 ⟨rfl, hb⟩)
    go_ret
    exact ⟨ret_bool (by simp), (below_box2 w _ _).trans (hb.mono (by simp; omega))⟩
set_option maxHeartbeats 400000 in
theorem holds2_any (s n : Int) (t : ByteArray) (ns : List ByteArray) (na ka : Option Addr) (nc kc kl : Nat) (w : World) :
    Calls Tryz.prog 141 #[.agg #[], .agg #[.int .i64 s, .int .i64 n, .string t, .slice na ns.length nc, .slice ka kl kc]] w fun e w' => e = .returned (.bool ((n == 0 || n == 1) && t.toList.isEmpty && nokV ns kl)) ∧ Below w.heap.size w w' := by
  cases hz : (n == 0) <;> cases ho : (n == 1) <;> cases ht : t.toList.isEmpty
  · go_enter Tryz.func141, Tryz.ntmps141
    go_wp2_with fail
    go_ret
    exact ⟨ret_bool (by simp), below_box2 _ _ _⟩
  · go_enter Tryz.func141, Tryz.ntmps141
    go_wp2_with fail
    go_ret
    exact ⟨ret_bool (by simp), below_box2 _ _ _⟩
  · go_enter Tryz.func141, Tryz.ntmps141
    go_wp2_with fail
    go_ret
    exact ⟨ret_bool (by simp), below_box2 _ _ _⟩
  · go_enter Tryz.func141, Tryz.ntmps141
    go_wp2_with (go_at_call 71; refine (hasNoKids_any _ _ _ _ _ _ _ _ _ _).mono ?_; rintro e w1 ⟨rfl, hb⟩)
    go_ret
    exact ⟨ret_bool (by simp), (below_box2 w _ _).trans (hb.mono (by simp; omega))⟩
  · go_enter Tryz.func141, Tryz.ntmps141
    go_wp2_with fail
    go_ret
    exact ⟨ret_bool (by simp), below_box2 _ _ _⟩
  · go_enter Tryz.func141, Tryz.ntmps141
    go_wp2_with (go_at_call 71; refine (hasNoKids_any _ _ _ _ _ _ _ _ _ _).mono ?_; rintro e w1 ⟨rfl, hb⟩)
    go_ret
    exact ⟨ret_bool (by simp), (below_box2 w _ _).trans (hb.mono (by simp; omega))⟩
  · exfalso; simp at hz ho; omega
  · exfalso; simp at hz ho; omega
set_option maxHeartbeats 400000 in
theorem holds3_any (s n : Int) (t : ByteArray) (ns : List ByteArray) (na ka : Option Addr) (nc kc kl : Nat) (w : World) :
    Calls Tryz.prog 145 #[.agg #[], .agg #[.int .i64 s, .int .i64 n, .string t, .slice na ns.length nc, .slice ka kl kc]] w fun e w' => e = .returned (.bool (decide (-999999 ≤ n) && decide (n ≤ 999999) && t.toList.isEmpty && nokV ns kl)) ∧ Below w.heap.size w w' := by
  by_cases h1 : -999999 ≤ n
  · by_cases h2 : n ≤ 999999
    · cases ht : t.toList.isEmpty
      · go_enter Tryz.func145, Tryz.ntmps145
        go_wp2_with fail
        go_ret
        exact ⟨ret_bool (by simp), below_box2 _ _ _⟩
      · go_enter Tryz.func145, Tryz.ntmps145
        go_wp2_with (go_at_call 71; refine (hasNoKids_any _ _ _ _ _ _ _ _ _ _).mono ?_; rintro e w1 ⟨rfl, hb⟩)
        go_ret
        exact ⟨ret_bool (by simp [h1, h2]), (below_box2 w _ _).trans (hb.mono (by simp; omega))⟩
    · have h2' : decide (n ≤ 999999) = false := by simp; omega
      go_enter Tryz.func145, Tryz.ntmps145
      go_wp2_with fail
      go_ret
      exact ⟨ret_bool rfl, below_box2 _ _ _⟩
  · have h1' : decide (-999999 ≤ n) = false := by simp; omega
    go_enter Tryz.func145, Tryz.ntmps145
    go_wp2_with fail
    go_ret
    exact ⟨ret_bool rfl, below_box2 _ _ _⟩
set_option maxHeartbeats 400000 in
theorem holds4_any (s n : Int) (t : ByteArray) (ns : List ByteArray) (na ka : Option Addr) (nc kc kl : Nat) (w : World) (hts : t.size ≤ maxLen) :
    Calls Tryz.prog 149 #[.agg #[], .agg #[.int .i64 s, .int .i64 n, .string t, .slice na ns.length nc, .slice ka kl kc]] w fun e w' => e = .returned (.bool (n == 0 && plainB t && nokV ns kl)) ∧ Below w.heap.size w w' := by
  cases hz : (n == 0)
  · go_enter Tryz.func149, Tryz.ntmps149
    go_wp2_with fail
    go_ret
    exact ⟨ret_bool (by simp), below_box2 _ _ _⟩
  cases hp : plainB t
  · go_enter Tryz.func149, Tryz.ntmps149
    go_wp2_with (first | (go_at_call 152; refine (isPlainText_any _ _ hts).mono ?_; rintro e w1 ⟨rfl, rfl⟩) | (go_at_call 71; refine (hasNoKids_any _ _ _ _ _ _ _ _ _ _).mono ?_; rintro e w1 ⟨rfl, hb⟩))
    go_ret
    exact ⟨ret_bool (by simp), below_box2 _ _ _⟩
  · go_enter Tryz.func149, Tryz.ntmps149
    go_wp2_with (first | (go_at_call 152; refine (isPlainText_any _ _ hts).mono ?_; rintro e w1 ⟨rfl, rfl⟩) | (go_at_call 71; refine (hasNoKids_any _ _ _ _ _ _ _ _ _ _).mono ?_; rintro e w1 ⟨rfl, hb⟩))
    go_ret
    exact ⟨ret_bool (by simp), (below_box2 w _ _).trans (hb.mono (by simp; omega))⟩
set_option maxHeartbeats 400000 in
theorem holds5_any (s n : Int) (t : ByteArray) (ns : List ByteArray) (na ka : Option Addr) (nc kc kl : Nat) (w : World) :
    Calls Tryz.prog 155 #[.agg #[], .agg #[.int .i64 s, .int .i64 n, .string t, .slice na ns.length nc, .slice ka kl kc]] w fun e w' => e = .returned (.bool (n == 0 && t.toList.isEmpty && (ns.length : Int) == 0)) ∧ Below w.heap.size w w' := by
  cases hz : (n == 0)
  · go_enter Tryz.func155, Tryz.ntmps155
    go_wp2_with fail
    go_ret
    exact ⟨ret_bool (by simp), below_box2 _ _ _⟩
  cases ht : t.toList.isEmpty
  · go_enter Tryz.func155, Tryz.ntmps155
    go_wp2_with fail
    go_ret
    exact ⟨ret_bool (by simp), below_box2 _ _ _⟩
  · go_enter Tryz.func155, Tryz.ntmps155
    go_wp2_with fail
    go_ret
    exact ⟨ret_bool (by simp), below_box2 _ _ _⟩
set_option maxHeartbeats 400000 in
theorem holds6_any (s n : Int) (t : ByteArray) (ns : List ByteArray) (na ka : Option Addr) (nc kc kl : Nat) (w : World) (hS : Strs w (· < w.heap.size) ns na) (hcap : ns.length ≤ nc) :
    Calls Tryz.prog 162 #[.agg #[], .agg #[.int .i64 s, .int .i64 n, .string t, .slice na ns.length nc, .slice ka kl kc]] w fun e w' => e = .returned (.bool (n == 0 && t.toList.isEmpty && (ns.length : Int) == (kl : Int) && onceTo ns ns.length)) ∧ Below w.heap.size w w' := by
  cases hz : (n == 0)
  · go_enter Tryz.func162, Tryz.ntmps162
    go_wp2_with fail
    go_ret
    exact ⟨ret_bool (by simp), below_box2 _ _ _⟩
  cases ht : t.toList.isEmpty
  · go_enter Tryz.func162, Tryz.ntmps162
    go_wp2_with fail
    go_ret
    exact ⟨ret_bool (by simp), below_box2 _ _ _⟩
  cases hl : ((ns.length : Int) == (kl : Int))
  · go_enter Tryz.func162, Tryz.ntmps162
    go_wp2_with fail
    go_ret
    exact ⟨ret_bool (by simp), below_box2 _ _ _⟩
  · go_enter Tryz.func162, Tryz.ntmps162
    go_wp2_with (go_at_call 167; refine (areWordsOnce_any ns _ _ _ (· < w.heap.size) (hS.under (below_box2 w _ _)) hcap).mono ?_; rintro e w1 ⟨rfl, rfl⟩)
    go_ret
    exact ⟨ret_bool (by simp), below_box2 _ _ _⟩

/-- The row of the table of a sort. -/
def sortV (s : Int) : Value := if s = 1 then .iface 170 (.agg #[]) else if s = 2 then .iface 171 (.agg #[]) else if s = 3 then .iface 172 (.agg #[]) else if s = 4 then .iface 173 (.agg #[]) else if s = 5 then .iface 174 (.agg #[]) else if s = 6 then .iface 175 (.agg #[]) else .nilIface
def isSort (s : Int) : Bool := decide (1 ≤ s) && decide (s ≤ 6)

set_option maxHeartbeats 400000 in
theorem sortOf_any (s : Int) (w : World) :
    Calls Tryz.prog 110 #[.int .i64 s] w fun e w' => e = .returned (.tuple #[sortV s, .bool (isSort s)]) ∧ w = w' := by
  by_cases h1 : s = 1
  · subst h1; go_enter Tryz.func110, Tryz.ntmps110; go_wp2; go_ret2; exact ⟨rfl, rfl⟩
  by_cases h2 : s = 2
  · subst h2; go_enter Tryz.func110, Tryz.ntmps110; go_wp2; go_ret2; exact ⟨rfl, rfl⟩
  by_cases h3 : s = 3
  · subst h3; go_enter Tryz.func110, Tryz.ntmps110; go_wp2; go_ret2; exact ⟨rfl, rfl⟩
  by_cases h4 : s = 4
  · subst h4; go_enter Tryz.func110, Tryz.ntmps110; go_wp2; go_ret2; exact ⟨rfl, rfl⟩
  by_cases h5 : s = 5
  · subst h5; go_enter Tryz.func110, Tryz.ntmps110; go_wp2; go_ret2; exact ⟨rfl, rfl⟩
  by_cases h6 : s = 6
  · subst h6; go_enter Tryz.func110, Tryz.ntmps110; go_wp2; go_ret2; exact ⟨rfl, rfl⟩
  have e1 : (s == 1) = false := by simpa using h1
  have e2 : (s == 2) = false := by simpa using h2
  have e3 : (s == 3) = false := by simpa using h3
  have e4 : (s == 4) = false := by simpa using h4
  have e5 : (s == 5) = false := by simpa using h5
  have e6 : (s == 6) = false := by simpa using h6
  have H : Hid (Ending.returned (.tuple #[.nilIface, .bool false]) = .returned (.tuple #[sortV s, .bool (isSort s)])) := by
    show _ = _
    have : isSort s = false := by simp [isSort]; omega
    simp [sortV, h1, h2, h3, h4, h5, h6, this]
  clear h1 h2 h3 h4 h5 h6
  go_enter Tryz.func110, Tryz.ntmps110
  go_wp2
  go_ret2
  exact ⟨H.out, rfl⟩

set_option maxHeartbeats 400000 in
theorem enter_no (rb : Nat) (lv p : Int) (w : World) (hc : w.cell? ⟨rb, 0, none⟩ = some (.int .i64 p)) (h : 16 < lv ∨ p = 0) :
    Calls Tryz.prog 109 #[.pointer (some ⟨rb, 0, none⟩), .int .i64 lv] w fun e w' => e = .returned (.bool false) ∧ w = w' := by
  by_cases h1 : 16 < lv
  · go_enter Tryz.func109, Tryz.ntmps109
    go_wp2
    go_ret
    exact ⟨rfl, rfl⟩
  · have hp : p = 0 := by omega
    subst hp
    go_enter Tryz.func109, Tryz.ntmps109
    go_wp2
    go_ret
    exact ⟨rfl, rfl⟩
set_option maxHeartbeats 400000 in
theorem enter_yes (rb : Nat) (lv p : Int) (w : World) (hc : w.cell? ⟨rb, 0, none⟩ = some (.int .i64 p)) (hf : w.frozen? ⟨rb, 0, none⟩ = false) (h1 : lv ≤ 16) (h2 : 0 < p) (h3 : p ≤ 600) :
    Calls Tryz.prog 109 #[.pointer (some ⟨rb, 0, none⟩), .int .i64 lv] w fun e w' => e = .returned (.bool true) ∧ w.setCell ⟨rb, 0, none⟩ (.int .i64 (p - 1)) = w' := by
  have hp : (p == 0) = false := by simp; omega
  go_enter Tryz.func109, Tryz.ntmps109
  go_wp2
  go_ret
  exact ⟨rfl, rfl⟩
end Go.Proofs.YtjpabpkfdahdhaaGreat
