/-
  Lists of texts: what the model and the program ask of an object's names.
-/
import Derived.Test.YtjpabpkfdahdhaaGreatStrs
import Derived.Test.YtjpabpkfdahdhaaGreatLeaf
namespace Go.Proofs.YtjpabpkfdahdhaaGreat
set_option linter.unusedSimpArgs false
set_option linter.unusedVariables false
open Go.RowKit

/-- A text is in a list. -/
def hasTo (ns : List ByteArray) (s : ByteArray) (n : Nat) : Bool := (List.range n).any fun i => (nth ns i).toList == s.toList
theorem hasTo_succ (ns : List ByteArray) (s : ByteArray) (n : Nat) : hasTo ns s (n + 1) = (hasTo ns s n || ((nth ns n).toList == s.toList)) := by
  simp [hasTo, List.range_succ]
theorem hasTo_true (ns : List ByteArray) (s : ByteArray) (n k : Nat) (hk : k < n) (h : ((nth ns k).toList == s.toList) = true) : hasTo ns s n = true := by
  rw [hasTo, List.any_eq_true]
  exact ⟨k, by simpa using hk, h⟩

set_option maxHeartbeats 400000 in
theorem l1Has_any (ns : List ByteArray) (a : Option Addr) (c : Nat) (s : ByteArray) (w : World) (P : Nat → Prop) (hS : Strs w P ns a) (n : Nat) (hn : n ≤ ns.length) :
    Calls Tryz.prog 80 #[.slice a n c, .string s] w fun e w' => e = .returned (.bool (hasTo ns s n)) ∧ w = w' := by
  obtain ⟨h1, h2, h3⟩ := hS
  unfold maxLen at h3
  by_cases hn0 : n = 0
  · subst hn0
    go_enter Tryz.func80, Tryz.ntmps80
    go_wp2
    go_loop [5] (fun i => i = .int .i64 0) (fun _ => 0)
    case atStart => rfl
    case round =>
      subst hrel
      go_wp2
      go_ret
      exact ⟨rfl, rfl⟩
  · obtain ⟨b, off, rfl, _, hc⟩ := h1 (by intro e; simp [e] at hn; omega)
    clear h1 h2
    go_enter Tryz.func80, Tryz.ntmps80
    go_wp2
    go_loop [5] (fun i => ∃ k : Nat, k ≤ n ∧ i = .int .i64 k ∧ hasTo ns s k = false) (fun i => n - (intOf i).toNat)
    case atStart => exact ⟨0, Nat.zero_le _, rfl, rfl⟩
    case round =>
      obtain ⟨k, hk, rfl, hp⟩ := hrel
      have HP : Hid (hasTo ns s k = false) := hp
      clear hp
      by_cases hlt : k < n
      · have hck := hc k (by omega)
        cases he : ((nth ns k).toList == s.toList)
        · go_wp2
          go_round
          case rel => exact ⟨k + 1, by omega, by go_num, by rw [hasTo_succ, HP.out, he]; rfl⟩
          case measure => simp [intOf]; omega
        · go_wp2
          go_ret
          exact ⟨ret_bool (hasTo_true ns s _ k hlt he).symm, rfl⟩
      · go_wp2
        go_ret
        have e : k = n := by omega
        exact ⟨ret_bool (by rw [← e, HP.out]), rfl⟩

set_option maxHeartbeats 400000 in
theorem index_any (ns : List ByteArray) (a : Option Addr) (c : Nat) (s : ByteArray) (w : World) (P : Nat → Prop) (hS : Strs w P ns a) (n : Nat) (hn : n ≤ ns.length) :
    Calls Tryz.prog 169 #[.slice a n c, .string s] w fun e w' => ∃ x : Int, e = .returned (.int .i64 x) ∧ decide (0 ≤ x) = hasTo ns s n ∧ w = w' := by
  obtain ⟨h1, h2, h3⟩ := hS
  unfold maxLen at h3
  by_cases hn0 : n = 0
  · subst hn0
    go_enter Tryz.func169, Tryz.ntmps169
    go_wp2
    go_loop [5, 8] (fun _ i => i = .int .i64 0) (fun _ _ => 0)
    case atStart => rfl
    case round =>
      subst hrel
      go_wp2
      go_ret
      exact ⟨-1, rfl, rfl, rfl⟩
  · obtain ⟨b, off, rfl, _, hc⟩ := h1 (by intro e; simp [e] at hn; omega)
    clear h1 h2
    go_enter Tryz.func169, Tryz.ntmps169
    go_wp2
    go_loop [5, 8] (fun _ i => ∃ k : Nat, k ≤ n ∧ i = .int .i64 k ∧ hasTo ns s k = false) (fun _ i => n - (intOf i).toNat)
    case atStart => exact ⟨0, Nat.zero_le _, rfl, rfl⟩
    case round =>
      obtain ⟨k, hk, rfl, hp⟩ := hrel
      have HP : Hid (hasTo ns s k = false) := hp
      clear hp
      by_cases hlt : k < n
      · have hck := hc k (by omega)
        cases he : (s.toList == (nth ns k).toList)
        · have he' : ((nth ns k).toList == s.toList) = false := by rw [← he]; exact BEq.comm
          have HE : Hid (((nth ns k).toList == s.toList) = false) := he'
          clear he'
          go_wp2
          go_round
          case rel => exact ⟨k + 1, by omega, by go_num, by rw [hasTo_succ, HP.out, HE.out]; rfl⟩
          case measure => simp [intOf]; omega
        · have he' : ((nth ns k).toList == s.toList) = true := by rw [← he]; exact BEq.comm
          have HE : Hid (((nth ns k).toList == s.toList) = true) := he'
          clear he'
          go_wp2
          go_ret
          exact ⟨k, rfl, by rw [hasTo_true ns s _ k hlt HE.out]; simp, rfl⟩
      · go_wp2
        go_ret
        have e : k = n := by omega
        exact ⟨-1, rfl, by rw [← e, HP.out]; rfl, rfl⟩

set_option maxHeartbeats 400000 in
theorem contains_any (ns : List ByteArray) (a : Option Addr) (c : Nat) (s : ByteArray) (w : World) (P : Nat → Prop) (hS : Strs w P ns a) (n : Nat) (hn : n ≤ ns.length) :
    Calls Tryz.prog 168 #[.slice a n c, .string s] w fun e w' => e = .returned (.bool (hasTo ns s n)) ∧ w = w' := by
  go_enter Tryz.func168, Tryz.ntmps168
  go_wp2_with (go_at_call 169; refine (index_any ns a c s _ P hS n hn).mono ?_; rintro e w' ⟨x, rfl, hx, rfl⟩)
  go_ret
  exact ⟨ret_bool (by rw [← hx]), rfl⟩

/-- The first texts of a list are words, none twice. -/
def onceTo (ns : List ByteArray) (n : Nat) : Bool := (List.range n).all fun i => wordB (nth ns i) && !hasTo ns (nth ns i) i
theorem onceTo_succ (ns : List ByteArray) (n : Nat) : onceTo ns (n + 1) = (onceTo ns n && (wordB (nth ns n) && !hasTo ns (nth ns n) n)) := by
  simp [onceTo, List.range_succ]
theorem onceTo_false (ns : List ByteArray) (n k : Nat) (hk : k < n) (h : (wordB (nth ns k) && !hasTo ns (nth ns k) k) = false) : onceTo ns n = false := by
  rw [onceTo, List.all_eq_false]
  exact ⟨k, by simpa using hk, by simpa using h⟩

set_option maxHeartbeats 400000 in
theorem areWordsOnce_any (ns : List ByteArray) (a : Option Addr) (c : Nat) (w : World) (P : Nat → Prop) (hS : Strs w P ns a) (hcap : ns.length ≤ c) :
    Calls Tryz.prog 167 #[.slice a ns.length c] w fun e w' => e = .returned (.bool (onceTo ns ns.length)) ∧ w = w' := by
  have hS' := hS
  obtain ⟨h1, h2, h3⟩ := hS
  have hm := h3
  unfold maxLen at h3
  by_cases hn0 : ns.length = 0
  · have hns : ns = [] := by simpa using hn0
    subst hns
    go_enter Tryz.func167, Tryz.ntmps167
    go_wp2_with fail
    go_loop [3, 4, 7] (fun _ _ i => i = .int .i64 0) (fun _ _ _ => 0)
    case atStart => rfl
    case round =>
      subst hrel
      go_wp2_with fail
      go_ret
      exact ⟨rfl, rfl⟩
  · obtain ⟨b, off, rfl, _, hc⟩ := h1 (by intro e; simp [e] at hn0)
    clear h1
    go_enter Tryz.func167, Tryz.ntmps167
    go_wp2_with fail
    go_loop [3, 4, 7] (fun _ _ i => ∃ k : Nat, k ≤ ns.length ∧ i = .int .i64 k ∧ onceTo ns k = true) (fun _ _ i => ns.length - (intOf i).toNat)
    case atStart => exact ⟨0, Nat.zero_le _, rfl, rfl⟩
    case round =>
      obtain ⟨k, hk, rfl, hp⟩ := hrel
      have HP : Hid (onceTo ns k = true) := hp
      clear hp
      by_cases hlt : k < ns.length
      · have hck := hc k hlt
        have h2k := h2 k
        clear hc h2
        cases hw : wordB (nth ns k)
        · go_wp2_with (go_at_call 56; refine (isWord_any _ _ h2k).mono ?_; rintro e w' ⟨rfl, rfl⟩)
          go_ret
          exact ⟨ret_bool (onceTo_false ns _ k hlt (by rw [hw]; rfl)).symm, rfl⟩
        · cases hh : hasTo ns (nth ns k) k
          · go_wp2_with (first | (go_at_call 56; refine (isWord_any _ _ h2k).mono ?_; rintro e w' ⟨rfl, rfl⟩) | (go_at_call 168; refine (contains_any ns _ _ _ _ P hS' k hk).mono ?_; rintro e w' ⟨rfl, rfl⟩))
            go_round
            case rel => exact ⟨k + 1, by omega, by go_num, by rw [onceTo_succ, HP.out, hw, hh]; rfl⟩
            case measure => simp [intOf]; omega
          · go_wp2_with (first | (go_at_call 56; refine (isWord_any _ _ h2k).mono ?_; rintro e w' ⟨rfl, rfl⟩) | (go_at_call 168; refine (contains_any ns _ _ _ _ P hS' k hk).mono ?_; rintro e w' ⟨rfl, rfl⟩))
            go_ret
            exact ⟨ret_bool (onceTo_false ns _ k hlt (by rw [hw, hh]; rfl)).symm, rfl⟩
      · go_wp2_with fail
        go_ret
        have e : k = ns.length := by omega
        exact ⟨ret_bool (by rw [← e, HP.out]), rfl⟩

end Go.Proofs.YtjpabpkfdahdhaaGreat
