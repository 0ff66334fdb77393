import Derived.Test.YtmemijccbmnaaaaGreatWords
import Derived.WalkKit
import Derived.WalkSpells
import Derived.WalkLawsBesides
import Derived.Test.YtmemijccbmnaaaaGreatStrs
import Derived.Test.YtmemijccbmnaaaaGreatCopyS
import Derived.BigRegion
import Derived.Deep.RegionWith
import Derived.Deep.RegionHeld3
namespace Go.Proofs.YtmemijccbmnaaaaGreat
set_option linter.unusedSimpArgs false
set_option linter.unusedVariables false
open Go.RowKit

/-- Whether all bytes from a place on are plain. -/
def plainTo (s : ByteArray) (n : Nat) : Bool := (List.range n).all fun i => decide (32 ≤ byteAt s i) && decide (byteAt s i ≤ 126)
theorem plainTo_succ (s : ByteArray) (n : Nat) : plainTo s (n + 1) = (plainTo s n && (decide (32 ≤ byteAt s n) && decide (byteAt s n ≤ 126))) := by
  simp [plainTo, List.range_succ]
theorem plainTo_false (s : ByteArray) (n k : Nat) (hk : k < n) (h : (decide (32 ≤ byteAt s k) && decide (byteAt s k ≤ 126)) = false) : plainTo s n = false := by
  rw [plainTo, List.all_eq_false]
  exact ⟨k, by simpa using hk, by simpa using h⟩

def plainB (s : ByteArray) : Bool := decide (s.size ≤ 24) && plainTo s s.size

set_option maxHeartbeats 400000 in
theorem isPlainText_any (s : ByteArray) (w : World) (hs : s.size ≤ maxLen) :
    Calls Tryz.prog 190 #[.string s] w fun e w' => e = .returned (.bool (plainB s)) ∧ w = w' := by
  unfold maxLen at hs
  by_cases hl : s.size ≤ 24
  · go_enter Tryz.func190, Tryz.ntmps190
    go_wp2
    go_loop [3] (fun i => ∃ k : Nat, k ≤ s.size ∧ i = .int .i64 k ∧ plainTo s k = true) (fun i => s.size - (intOf i).toNat)
    case atStart => exact ⟨0, Nat.zero_le _, rfl, rfl⟩
    case round =>
      obtain ⟨k, hk, rfl, hp⟩ := hrel
      have HP : Hid (plainTo s k = true) := hp
      clear hp
      by_cases hlt : k < s.size
      · have hb := byteAt_get s k hlt
        by_cases h1 : byteAt s k < 32
        · go_wp2
          go_ret
          exact ⟨ret_bool (by rw [plainB, plainTo_false s _ k hlt (by simp; omega)]; simp), rfl⟩
        · by_cases h2 : 126 < byteAt s k
          · go_wp2
            go_ret
            exact ⟨ret_bool (by rw [plainB, plainTo_false s _ k hlt (by simp; omega)]; simp), rfl⟩
          · go_wp2
            go_round
            case rel => exact ⟨k + 1, by omega, by go_num, by rw [plainTo_succ, HP.out]; simp; omega⟩
            case measure => simp [intOf]; omega
      · go_wp2
        go_ret
        have e : k = s.size := by omega
        exact ⟨ret_bool (by rw [plainB, ← e, HP.out]; simp; omega), rfl⟩
  · go_enter Tryz.func190, Tryz.ntmps190
    go_wp2
    go_ret
    exact ⟨ret_bool (by rw [plainB]; simp; omega), rfl⟩

set_option maxHeartbeats 400000 in
theorem l1Text_any (s : ByteArray) (w : World) (hs : s.size ≤ maxLen) :
    Calls Tryz.prog 105 #[.string s] w fun e w' => e = .returned (.bool (plainB s)) ∧ w = w' := by
  unfold maxLen at hs
  go_enter Tryz.func105, Tryz.ntmps105
  go_wp2
  go_loop [3] (fun i => ∃ k : Nat, k ≤ s.size ∧ i = .int .i64 k ∧ plainTo s k = true) (fun i => s.size - (intOf i).toNat)
  case atStart => exact ⟨0, Nat.zero_le _, rfl, rfl⟩
  case round =>
    obtain ⟨k, hk, rfl, hp⟩ := hrel
    have HP : Hid (plainTo s k = true) := hp
    clear hp
    by_cases hlt : k < s.size
    · have hb := byteAt_get s k hlt
      by_cases h1 : byteAt s k < 32
      · go_wp2
        go_ret
        exact ⟨ret_bool (by rw [plainB, plainTo_false s _ k hlt (by simp; omega)]; simp), rfl⟩
      · by_cases h2 : 126 < byteAt s k
        · go_wp2
          go_ret
          exact ⟨ret_bool (by rw [plainB, plainTo_false s _ k hlt (by simp; omega)]; simp), rfl⟩
        · go_wp2
          go_round
          case rel => exact ⟨k + 1, by omega, by go_num, by rw [plainTo_succ, HP.out]; simp; omega⟩
          case measure => simp [intOf]; omega
    · go_wp2
      go_ret
      have e : k = s.size := by omega
      exact ⟨ret_bool (by rw [plainB, ← e, HP.out]; simp; omega), rfl⟩

end Go.Proofs.YtmemijccbmnaaaaGreat

namespace Go.Proofs.YtmemijccbmnaaaaGreat
set_option linter.unusedSimpArgs false
set_option linter.unusedVariables false
open Go.RowKit

/-- A text is in a list. -/
def hasTo (ns : List ByteArray) (s : ByteArray) (n : Nat) : Bool := (List.range n).any fun i => (nth ns i).toList == s.toList
theorem hasTo_succ (ns : List ByteArray) (s : ByteArray) (n : Nat) : hasTo ns s (n + 1) = (hasTo ns s n || ((nth ns n).toList == s.toList)) := by
  simp [hasTo, List.range_succ]
theorem hasTo_true (ns : List ByteArray) (s : ByteArray) (n k : Nat) (hk : k < n) (h : ((nth ns k).toList == s.toList) = true) : hasTo ns s n = true := by
  rw [hasTo, List.any_eq_true]
  exact ⟨k, by simpa using hk, h⟩

set_option maxHeartbeats 400000 in
theorem l1Has_any (ns : List ByteArray) (a : Option Addr) (c : Nat) (s : ByteArray) (w : World) (P : Nat → Prop) (hS : Strs w P ns a) (n : Nat) (hn : n ≤ ns.length) :
    Calls Tryz.prog 106 #[.slice a n c, .string s] w fun e w' => e = .returned (.bool (hasTo ns s n)) ∧ w = w' := by
  obtain ⟨h1, h2, h3⟩ := hS
  unfold maxLen at h3
  by_cases hn0 : n = 0
  · subst hn0
    go_enter Tryz.func106, Tryz.ntmps106
    go_wp2
    go_loop [5] (fun i => i = .int .i64 0) (fun _ => 0)
    case atStart => rfl
    case round =>
      subst hrel
      go_wp2
      go_ret
      exact ⟨rfl, rfl⟩
  · obtain ⟨b, off, rfl, _, hc⟩ := h1 (by intro e; simp [e] at hn; omega)
    clear h1 h2
    go_enter Tryz.func106, Tryz.ntmps106
    go_wp2
    go_loop [5] (fun i => ∃ k : Nat, k ≤ n ∧ i = .int .i64 k ∧ hasTo ns s k = false) (fun i => n - (intOf i).toNat)
    case atStart => exact ⟨0, Nat.zero_le _, rfl, rfl⟩
    case round =>
      obtain ⟨k, hk, rfl, hp⟩ := hrel
      have HP : Hid (hasTo ns s k = false) := hp
      clear hp
      by_cases hlt : k < n
      · have hck := hc k (by omega)
        cases he : ((nth ns k).toList == s.toList)
        · go_wp2
          go_round
          case rel => exact ⟨k + 1, by omega, by go_num, by rw [hasTo_succ, HP.out, he]; rfl⟩
          case measure => simp [intOf]; omega
        · go_wp2
          go_ret
          exact ⟨ret_bool (hasTo_true ns s _ k hlt he).symm, rfl⟩
      · go_wp2
        go_ret
        have e : k = n := by omega
        exact ⟨ret_bool (by rw [← e, HP.out]), rfl⟩

set_option maxHeartbeats 400000 in
theorem index_any (ns : List ByteArray) (a : Option Addr) (c : Nat) (s : ByteArray) (w : World) (P : Nat → Prop) (hS : Strs w P ns a) (n : Nat) (hn : n ≤ ns.length) :
    Calls Tryz.prog 207 #[.slice a n c, .string s] w fun e w' => ∃ x : Int, e = .returned (.int .i64 x) ∧ decide (0 ≤ x) = hasTo ns s n ∧ w = w' := by
  obtain ⟨h1, h2, h3⟩ := hS
  unfold maxLen at h3
  by_cases hn0 : n = 0
  · subst hn0
    go_enter Tryz.func207, Tryz.ntmps207
    go_wp2
    go_loop [5, 8] (fun _ i => i = .int .i64 0) (fun _ _ => 0)
    case atStart => rfl
    case round =>
      subst hrel
      go_wp2
      go_ret
      exact ⟨-1, rfl, rfl, rfl⟩
  · obtain ⟨b, off, rfl, _, hc⟩ := h1 (by intro e; simp [e] at hn; omega)
    clear h1 h2
    go_enter Tryz.func207, Tryz.ntmps207
    go_wp2
    go_loop [5, 8] (fun _ i => ∃ k : Nat, k ≤ n ∧ i = .int .i64 k ∧ hasTo ns s k = false) (fun _ i => n - (intOf i).toNat)
    case atStart => exact ⟨0, Nat.zero_le _, rfl, rfl⟩
    case round =>
      obtain ⟨k, hk, rfl, hp⟩ := hrel
      have HP : Hid (hasTo ns s k = false) := hp
      clear hp
      by_cases hlt : k < n
      · have hck := hc k (by omega)
        cases he : (s.toList == (nth ns k).toList)
        · have he' : ((nth ns k).toList == s.toList) = false := by rw [← he]; exact BEq.comm
          have HE : Hid (((nth ns k).toList == s.toList) = false) := he'
          clear he'
          go_wp2
          go_round
          case rel => exact ⟨k + 1, by omega, by go_num, by rw [hasTo_succ, HP.out, HE.out]; rfl⟩
          case measure => simp [intOf]; omega
        · have he' : ((nth ns k).toList == s.toList) = true := by rw [← he]; exact BEq.comm
          have HE : Hid (((nth ns k).toList == s.toList) = true) := he'
          clear he'
          go_wp2
          go_ret
          exact ⟨k, rfl, by rw [hasTo_true ns s _ k hlt HE.out]; simp, rfl⟩
      · go_wp2
        go_ret
        have e : k = n := by omega
        exact ⟨-1, rfl, by rw [← e, HP.out]; rfl, rfl⟩

set_option maxHeartbeats 400000 in
theorem contains_any (ns : List ByteArray) (a : Option Addr) (c : Nat) (s : ByteArray) (w : World) (P : Nat → Prop) (hS : Strs w P ns a) (n : Nat) (hn : n ≤ ns.length) :
    Calls Tryz.prog 206 #[.slice a n c, .string s] w fun e w' => e = .returned (.bool (hasTo ns s n)) ∧ w = w' := by
  go_enter Tryz.func206, Tryz.ntmps206
  go_wp2_with (go_at_call 207; refine (index_any ns a c s _ P hS n hn).mono ?_; rintro e w' ⟨x, rfl, hx, rfl⟩)
  go_ret
  exact ⟨ret_bool (by rw [← hx]), rfl⟩

/-- The first texts of a list are words, none twice. -/
def onceTo (ns : List ByteArray) (n : Nat) : Bool := (List.range n).all fun i => wordB (nth ns i) && !hasTo ns (nth ns i) i
theorem onceTo_succ (ns : List ByteArray) (n : Nat) : onceTo ns (n + 1) = (onceTo ns n && (wordB (nth ns n) && !hasTo ns (nth ns n) n)) := by
  simp [onceTo, List.range_succ]
theorem onceTo_false (ns : List ByteArray) (n k : Nat) (hk : k < n) (h : (wordB (nth ns k) && !hasTo ns (nth ns k) k) = false) : onceTo ns n = false := by
  rw [onceTo, List.all_eq_false]
  exact ⟨k, by simpa using hk, by simpa using h⟩

set_option maxHeartbeats 400000 in
theorem areWordsOnce_any (ns : List ByteArray) (a : Option Addr) (c : Nat) (w : World) (P : Nat → Prop) (hS : Strs w P ns a) (hcap : ns.length ≤ c) :
    Calls Tryz.prog 205 #[.slice a ns.length c] w fun e w' => e = .returned (.bool (onceTo ns ns.length)) ∧ w = w' := by
  have hS' := hS
  obtain ⟨h1, h2, h3⟩ := hS
  have hm := h3
  unfold maxLen at h3
  by_cases hn0 : ns.length = 0
  · have hns : ns = [] := by simpa using hn0
    subst hns
    go_enter Tryz.func205, Tryz.ntmps205
    go_wp2_with fail
    go_loop [3, 4, 7] (fun _ _ i => i = .int .i64 0) (fun _ _ _ => 0)
    case atStart => rfl
    case round =>
      subst hrel
      go_wp2_with fail
      go_ret
      exact ⟨rfl, rfl⟩
  · obtain ⟨b, off, rfl, _, hc⟩ := h1 (by intro e; simp [e] at hn0)
    clear h1
    go_enter Tryz.func205, Tryz.ntmps205
    go_wp2_with fail
    go_loop [3, 4, 7] (fun _ _ i => ∃ k : Nat, k ≤ ns.length ∧ i = .int .i64 k ∧ onceTo ns k = true) (fun _ _ i => ns.length - (intOf i).toNat)
    case atStart => exact ⟨0, Nat.zero_le _, rfl, rfl⟩
    case round =>
      obtain ⟨k, hk, rfl, hp⟩ := hrel
      have HP : Hid (onceTo ns k = true) := hp
      clear hp
      by_cases hlt : k < ns.length
      · have hck := hc k hlt
        have h2k := h2 k
        clear hc h2
        cases hw : wordB (nth ns k)
        · go_wp2_with (go_at_call 108; refine (isWord_any _ _ h2k).mono ?_; rintro e w' ⟨rfl, rfl⟩)
          go_ret
          exact ⟨ret_bool (onceTo_false ns _ k hlt (by rw [hw]; rfl)).symm, rfl⟩
        · cases hh : hasTo ns (nth ns k) k
          · go_wp2_with (first | (go_at_call 108; refine (isWord_any _ _ h2k).mono ?_; rintro e w' ⟨rfl, rfl⟩) | (go_at_call 206; refine (contains_any ns _ _ _ _ P hS' k hk).mono ?_; rintro e w' ⟨rfl, rfl⟩))
            go_round
            case rel => exact ⟨k + 1, by omega, by go_num, by rw [onceTo_succ, HP.out, hw, hh]; rfl⟩
            case measure => simp [intOf]; omega
          · go_wp2_with (first | (go_at_call 108; refine (isWord_any _ _ h2k).mono ?_; rintro e w' ⟨rfl, rfl⟩) | (go_at_call 206; refine (contains_any ns _ _ _ _ P hS' k hk).mono ?_; rintro e w' ⟨rfl, rfl⟩))
            go_ret
            exact ⟨ret_bool (onceTo_false ns _ k hlt (by rw [hw, hh]; rfl)).symm, rfl⟩
      · go_wp2_with fail
        go_ret
        have e : k = ns.length := by omega
        exact ⟨ret_bool (by rw [← e, HP.out]), rfl⟩

end Go.Proofs.YtmemijccbmnaaaaGreat

namespace Go.Proofs.YtmemijccbmnaaaaGreat
set_option linter.unusedSimpArgs false
set_option linter.unusedVariables false
open Go.RowKit

/-- A value as it is meant: its sort, its number, its text, its names and what is in it. -/
structure V where
  sort : Int
  num : Int
  text : ByteArray
  names : List ByteArray
  kids : List V
def V.zero : V := .mk 0 0 ByteArray.empty [] []
/-- Kid i. -/
def kth (ks : List V) (i : Nat) : V := ks.getD i V.zero
theorem kth_lt (ks : List V) (i : Nat) (h : i < ks.length) : SizeOf.sizeOf (kth ks i) < SizeOf.sizeOf ks := by
  have e : kth ks i = ks[i] := by simp [kth, List.getD_eq_getElem?_getD, h]
  rw [e]
  exact List.sizeOf_lt_of_mem (List.getElem_mem h)

/-- The cells of the world hold the value, in blocks of which P holds; so many levels at most. -/
def RepN (w : World) (P : Nat → Prop) : Nat → V → Value → Prop
  | 0, _, _ => False
  | f + 1, x, v => ∃ (na ka : Option Addr) (nc kc : Nat) (b off : Nat) (C : Nat → Nat → Value),
      v = .agg #[.int .i64 x.sort, .int .i64 x.num, .string x.text, .slice na x.names.length nc, .slice ka x.kids.length kc] ∧ Strs w P x.names na ∧ x.names.length ≤ nc ∧ x.text.size ≤ maxLen ∧ 16 * x.names.length ≤ 281474976710656 ∧ 80 * x.kids.length ≤ 281474976710656 ∧
      (x.kids ≠ [] → ka = some ⟨b, off, none⟩ ∧ P b) ∧ (∀ i, i < x.kids.length → ∀ j, j < 5 → w.cell? ⟨b, off + i * 5 + j, none⟩ = some (C i j)) ∧
      ∀ i, i < x.kids.length → RepN w P f (kth x.kids i) (.agg #[C i 0, C i 1, C i 2, C i 3, C i 4])
/-- The cells of the world hold the value, in blocks of which P holds. -/
def Rep (w : World) (P : Nat → Prop) (x : V) (v : Value) : Prop := ∃ f, RepN w P f x v

/-- The same of a list of values. -/
def Kids (w : World) (P : Nat → Prop) (ks : List V) (ka : Option Addr) : Prop :=
  80 * ks.length ≤ 281474976710656 ∧ ∃ (b off : Nat) (C : Nat → Nat → Value), (ks ≠ [] → ka = some ⟨b, off, none⟩ ∧ P b) ∧ (∀ i, i < ks.length → ∀ j, j < 5 → w.cell? ⟨b, off + i * 5 + j, none⟩ = some (C i j)) ∧
    ∀ i, i < ks.length → Rep w P (kth ks i) (.agg #[C i 0, C i 1, C i 2, C i 3, C i 4])

theorem RepN.le {w : World} {P : Nat → Prop} : ∀ {f g : Nat} {x : V} {v : Value}, RepN w P f x v → f ≤ g → RepN w P g x v
  | 0, _, _, _, h, _ => h.elim
  | f + 1, 0, _, _, _, hg => by omega
  | f + 1, g + 1, x, v, h, hg => by
    obtain ⟨na, ka, nc, kc, b, off, C, h1, h2, h3, h4, h5, h6, h7, h8, h9⟩ := h
    exact ⟨na, ka, nc, kc, b, off, C, h1, h2, h3, h4, h5, h6, h7, h8, fun i hi => (h9 i hi).le (by omega)⟩

theorem rep_bound {w : World} {P : Nat → Prop} {X : Nat → V} {U : Nat → Value} : ∀ n : Nat, (∀ i, i < n → Rep w P (X i) (U i)) → ∃ f, ∀ i, i < n → RepN w P f (X i) (U i)
  | 0, _ => ⟨0, fun i hi => by omega⟩
  | n + 1, h => by
    obtain ⟨f, hf⟩ := rep_bound n fun i hi => h i (by omega)
    obtain ⟨g, hg⟩ := h n (by omega)
    refine ⟨f + g, fun i hi => ?_⟩
    by_cases e : i = n
    · subst e; exact hg.le (by omega)
    · exact (hf i (by omega)).le (by omega)

theorem Rep.of_kids {w : World} {P : Nat → Prop} {s n : Int} {t : ByteArray} {ns : List ByteArray} {ks : List V} {na ka : Option Addr} {nc kc : Nat} (hs : Strs w P ns na) (hns : ns.length ≤ nc) (ht : t.size ≤ maxLen) (hbs : 16 * ns.length ≤ 281474976710656) (hK : Kids w P ks ka) :
    Rep w P (.mk s n t ns ks) (.agg #[.int .i64 s, .int .i64 n, .string t, .slice na ns.length nc, .slice ka ks.length kc]) := by
  obtain ⟨hbk, b, off, C, hka, hc, hr⟩ := hK
  obtain ⟨f, hf⟩ := rep_bound ks.length hr
  exact ⟨f + 1, na, ka, nc, kc, b, off, C, rfl, hs, hns, ht, hbs, hbk, hka, hc, hf⟩

theorem Rep.inv {w : World} {P : Nat → Prop} {s n : Int} {t : ByteArray} {ns : List ByteArray} {ks : List V} {v : Value} (h : Rep w P (.mk s n t ns ks) v) :
    ∃ (na ka : Option Addr) (nc kc : Nat), v = .agg #[.int .i64 s, .int .i64 n, .string t, .slice na ns.length nc, .slice ka ks.length kc] ∧ Strs w P ns na ∧ ns.length ≤ nc ∧ t.size ≤ maxLen ∧ 16 * ns.length ≤ 281474976710656 ∧ Kids w P ks ka := by
  obtain ⟨f, h⟩ := h
  match f, h with
  | f + 1, h =>
    obtain ⟨na, ka, nc, kc, b, off, C, hv, hs, hns, ht, hbs, hbk, hka, hc, hr⟩ := h
    exact ⟨na, ka, nc, kc, hv, hs, hns, ht, hbs, hbk, b, off, C, hka, hc, fun i hi => ⟨f, hr i hi⟩⟩

theorem RepN.mono {w w' : World} {P : Nat → Prop} (e : ∀ k, P k → w'.heap[k]? = w.heap[k]?) : ∀ {f : Nat} {x : V} {v : Value}, RepN w P f x v → RepN w' P f x v
  | 0, _, _, h => h.elim
  | f + 1, x, v, h => by
    obtain ⟨na, ka, nc, kc, b, off, C, h1, hs, h3, h4, h5, h6, hka, hc, hr⟩ := h
    refine ⟨na, ka, nc, kc, b, off, C, h1, hs.mono e, h3, h4, h5, h6, hka, fun i hi j hj => ?_, fun i hi => (hr i hi).mono e⟩
    have hb := (hka (by intro e; simp [e] at hi)).2
    exact (World.cell?_of_block (w := w) (a := ⟨b, off + i * 5 + j, none⟩) (e b hb)).trans (hc i hi j hj)
theorem RepN.sub {w : World} {P Q : Nat → Prop} (e : ∀ k, P k → Q k) : ∀ {f : Nat} {x : V} {v : Value}, RepN w P f x v → RepN w Q f x v
  | 0, _, _, h => h.elim
  | f + 1, x, v, h => by
    obtain ⟨na, ka, nc, kc, b, off, C, h1, hs, h3, h4, h5, h6, hka, hc, hr⟩ := h
    exact ⟨na, ka, nc, kc, b, off, C, h1, hs.sub e, h3, h4, h5, h6, fun h => ⟨(hka h).1, e _ (hka h).2⟩, hc, fun i hi => (hr i hi).sub e⟩
theorem Rep.mono {w w' : World} {P : Nat → Prop} {x : V} {v : Value} (h : Rep w P x v) (e : ∀ k, P k → w'.heap[k]? = w.heap[k]?) : Rep w' P x v := by
  obtain ⟨f, h⟩ := h; exact ⟨f, h.mono e⟩
theorem Rep.sub {w : World} {P Q : Nat → Prop} {x : V} {v : Value} (h : Rep w P x v) (e : ∀ k, P k → Q k) : Rep w Q x v := by
  obtain ⟨f, h⟩ := h; exact ⟨f, h.sub e⟩
theorem Kids.mono {w w' : World} {P : Nat → Prop} {ks : List V} {a : Option Addr} (h : Kids w P ks a) (e : ∀ k, P k → w'.heap[k]? = w.heap[k]?) : Kids w' P ks a := by
  obtain ⟨hbk, b, off, C, hka, hc, hr⟩ := h
  refine ⟨hbk, b, off, C, hka, (fun i hi j hj => ?_), fun i hi => (hr i hi).mono e⟩
  have hb := (hka (by intro e; simp [e] at hi)).2
  exact (World.cell?_of_block (w := w) (a := ⟨b, off + i * 5 + j, none⟩) (e b hb)).trans (hc i hi j hj)
theorem Kids.sub {w : World} {P Q : Nat → Prop} {ks : List V} {a : Option Addr} (h : Kids w P ks a) (e : ∀ k, P k → Q k) : Kids w Q ks a := by
  obtain ⟨hbk, b, off, C, hka, hc, hr⟩ := h
  exact ⟨hbk, b, off, C, fun h => ⟨(hka h).1, e _ (hka h).2⟩, hc, fun i hi => (hr i hi).sub e⟩
theorem Rep.under {w w' : World} {B : Nat} {x : V} {v : Value} (h : Rep w (· < B) x v) (hb : Below B w w') : Rep w' (· < B) x v := h.mono fun k hk => hb.block k hk
theorem Kids.under {w w' : World} {B : Nat} {x : List V} {v : Option Addr} (h : Kids w (· < B) x v) (hb : Below B w w') : Kids w' (· < B) x v := h.mono fun k hk => hb.block k hk

def zeroV : Value := .agg #[.int .i64 0, .int .i64 0, .string ByteArray.empty, .slice none 0 0, .slice none 0 0]
theorem info30 : (Tryz.prog.info? 45).map (fun i => (i.zero, i.size, i.bytes)) = some (some zeroV, 5, 80) := by kernel_rfl

/-- A value stored at element k of a row of values. -/
def put5 (w : World) (N k : Nat) (c0 c1 c2 c3 c4 : Value) : World :=
  ((((w.setCell ⟨N, k, none⟩ c0).setCell ⟨N, k + 1, none⟩ c1).setCell ⟨N, k + 2, none⟩ c2).setCell ⟨N, k + 3, none⟩ c3).setCell ⟨N, k + 4, none⟩ c4
theorem put5_block (w : World) (N k : Nat) (c0 c1 c2 c3 c4 : Value) (b : Nat) (h : b ≠ N) : (put5 w N k c0 c1 c2 c3 c4).heap[b]? = w.heap[b]? := by
  unfold put5
  rw [Below.heap_setCell _ _ _ _ h, Below.heap_setCell _ _ _ _ h, Below.heap_setCell _ _ _ _ h, Below.heap_setCell _ _ _ _ h, Below.heap_setCell _ _ _ _ h]
theorem put5_size (w : World) (N k : Nat) (c0 c1 c2 c3 c4 : Value) : (put5 w N k c0 c1 c2 c3 c4).heap.size = w.heap.size := by
  simp [put5, World.setCell]
theorem put5_below {a w : World} {B N : Nat} (h : Below B a w) (hN : B ≤ N) (k : Nat) (c0 c1 c2 c3 c4 : Value) : Below B a (put5 w N k c0 c1 c2 c3 c4) :=
  ((((h.setCell hN _).setCell hN _).setCell hN _).setCell hN _).setCell hN _
theorem put5_row {w : World} {N L : Nat} {e : TypeId} {F : Nat → Value} (h : w.rowIs N e L F) (k : Nat) (c0 c1 c2 c3 c4 : Value) : ∃ G : Nat → Value, (put5 w N k c0 c1 c2 c3 c4).rowIs N e L G ∧ (G k = c0 ∧ G (k + 1) = c1 ∧ G (k + 2) = c2 ∧ G (k + 3) = c3 ∧ G (k + 4) = c4) ∧ ∀ i, i < k → G i = F i := by
  refine ⟨_, ((((h.set k c0).set (k + 1) c1).set (k + 2) c2).set (k + 3) c3).set (k + 4) c4, ?_, ?_⟩
  · simp
  · intro i hi
    simp [show i ≠ k by omega, show i ≠ k + 1 by omega, show i ≠ k + 2 by omega, show i ≠ k + 3 by omega, show i ≠ k + 4 by omega]

end Go.Proofs.YtmemijccbmnaaaaGreat

namespace Go.Proofs.YtmemijccbmnaaaaGreat
set_option linter.unusedSimpArgs false
set_option linter.unusedVariables false
open Go.RowKit

/-- What toValue's last steps leave: the result's cells hold what was built. -/
theorem cp_end {w w1 w2 : World} {s n : Int} {t : ByteArray} {ns : List ByteArray} {ks : List V} {x y : Value} {N : Nat} (hN : N = w.heap.size) (hbw : Below N w w1) (hsz1 : w1.heap.size = N + 1 + 1 + 1 + 1)
    (hst1 : Strs w1 (· = N + 1 + 1 + 1) ns (some ⟨N + 1 + 1 + 1, 0, none⟩)) (hb2 : Below w1.heap.size (w1.setCell ⟨N + 1 + 1, 3, none⟩ x) w2) (hlt : w1.heap.size < w2.heap.size)
    (hkd2 : Kids w2 (fun b => w1.heap.size ≤ b ∧ b < w2.heap.size) ks (some ⟨w1.heap.size, 0, none⟩)) (ht : t.size ≤ maxLen) (hbs : 16 * ns.length ≤ 281474976710656) (c0 c1 c2 c3 c4 : Value) :
    Below N w (put5 (w2.setCell ⟨N + 1 + 1, 4, none⟩ y) (N + 1) 0 c0 c1 c2 c3 c4) ∧
    Rep (put5 (w2.setCell ⟨N + 1 + 1, 4, none⟩ y) (N + 1) 0 c0 c1 c2 c3 c4) (fun b => N ≤ b ∧ b < (put5 (w2.setCell ⟨N + 1 + 1, 4, none⟩ y) (N + 1) 0 c0 c1 c2 c3 c4).heap.size) (.mk s n t ns ks)
      (.agg #[.int .i64 s, .int .i64 n, .string t, .slice (some ⟨N + 1 + 1 + 1, 0, none⟩) ns.length ns.length, .slice (some ⟨N + 1 + 1 + 1 + 1, 0, none⟩) ks.length ks.length]) := by
  have hsz : (put5 (w2.setCell ⟨N + 1 + 1, 4, none⟩ y) (N + 1) 0 c0 c1 c2 c3 c4).heap.size = w2.heap.size := by rw [put5_size]; simp [World.setCell]
  have hoff : ∀ b, b ≠ N + 1 → b ≠ N + 1 + 1 → (put5 (w2.setCell ⟨N + 1 + 1, 4, none⟩ y) (N + 1) 0 c0 c1 c2 c3 c4).heap[b]? = w2.heap[b]? := fun b h1 h2 => by
    rw [put5_block _ _ _ _ _ _ _ _ _ h1, Below.heap_setCell _ _ _ _ h2]
  refine ⟨put5_below (((hbw.setCell (by show N ≤ N + 1 + 1; omega) _).trans (hb2.mono (by omega))).setCell (by show N ≤ N + 1 + 1; omega) _) (by omega) _ _ _ _ _ _, ?_⟩
  refine Rep.of_kids ((hst1.mono fun k hk => ?_).sub fun k hk => ?_) (Nat.le_refl _) ht hbs ?_
  · rw [hoff k (by omega) (by omega), hb2.block k (by omega), Below.heap_setCell _ _ _ _ (by show k ≠ N + 1 + 1; omega)]
  · rw [hsz]; omega
  · rw [hsz1] at hkd2
    exact (hkd2.mono fun k hk => hoff k (by omega) (by omega)).sub fun k hk => by rw [hsz]; omega

end Go.Proofs.YtmemijccbmnaaaaGreat

namespace Go.Proofs.YtmemijccbmnaaaaGreat
set_option linter.unusedSimpArgs false
set_option linter.unusedVariables false
open Go.RowKit

def EqOk (x : V) : Prop := ∀ (w : World) (B : Nat) (v v' : Value), Rep w (· < B) x v → Rep w (· < B) x v' → B ≤ w.heap.size →
  Calls Tryz.prog 34 #[v, v'] w fun e w' => e = .returned (.bool true) ∧ Below w.heap.size w w'

set_option maxHeartbeats 400000 in
theorem eqValueS_any (ks : List V) (IH : ∀ i, i < ks.length → EqOk (kth ks i)) (w : World) (B : Nat) (a a' : Option Addr) (c c' : Nat) (hK : Kids w (· < B) ks a) (hK' : Kids w (· < B) ks a') (hB : B ≤ w.heap.size) :
    Calls Tryz.prog 67 #[.slice a ks.length c, .slice a' ks.length c'] w fun e w' => e = .returned (.bool true) ∧ Below w.heap.size w w' := by
  obtain ⟨h3, b, off, C, hka, hc, hr⟩ := hK
  obtain ⟨-, b', off', C', hka', hc', hr'⟩ := hK'
  by_cases hn0 : ks.length = 0
  · have hns : ks = [] := by simpa using hn0
    subst hns
    go_enter Tryz.func67, Tryz.ntmps67
    go_wp2_with fail
    go_loop [5] (fun i => i = .int .i64 0) (fun _ => 0)
    case atStart => rfl
    case round =>
      subst hrel
      go_wp2_with fail
      go_ret
      exact ⟨rfl, Below.refl _ _⟩
  · obtain ⟨rfl, hbB⟩ := hka (by intro e; simp [e] at hn0)
    obtain ⟨rfl, hbB'⟩ := hka' (by intro e; simp [e] at hn0)
    clear hka hka'
    go_enter Tryz.func67, Tryz.ntmps67
    go_wp2_with fail
    go_loopw [5] (fun i wr => ∃ k : Nat, k ≤ ks.length ∧ i = .int .i64 k ∧ Below w.heap.size w wr) (fun i _ => ks.length - (intOf i).toNat)
    case atStart => exact ⟨0, Nat.zero_le _, rfl, Below.refl _ _⟩
    case round =>
      obtain ⟨k, hk, rfl, hbel⟩ := hrel
      by_cases hlt : k < ks.length
      · have hck : ∀ j, j < 5 → wr.cell? ⟨b, off + k * 5 + j, none⟩ = some (C k j) := fun j hj => (hbel.cell (p := ⟨b, off + k * 5 + j, none⟩) (by show b < _; omega)).trans (hc k hlt j hj)
        have hc0 : wr.cell? ⟨b, off + k * 5, none⟩ = some (C k 0) := hck 0 (by omega)
        have hc1 := hck 1 (by omega)
        have hc2 := hck 2 (by omega)
        have hc3 := hck 3 (by omega)
        have hc4 := hck 4 (by omega)
        have hdk : ∀ j, j < 5 → wr.cell? ⟨b', off' + k * 5 + j, none⟩ = some (C' k j) := fun j hj => (hbel.cell (p := ⟨b', off' + k * 5 + j, none⟩) (by show b' < _; omega)).trans (hc' k hlt j hj)
        have hd0 : wr.cell? ⟨b', off' + k * 5, none⟩ = some (C' k 0) := hdk 0 (by omega)
        have hd1 := hdk 1 (by omega)
        have hd2 := hdk 2 (by omega)
        have hd3 := hdk 3 (by omega)
        have hd4 := hdk 4 (by omega)
        clear hck hc hdk hc'
        go_wp2_with fail
        go_region_with (go_at_call 34; refine (IH k hlt _ B _ _ ((hr k hlt).under ((hbel.drew).mono hB)) ((hr' k hlt).under ((hbel.drew).mono hB)) (by have := hbel.size; simp; omega)).mono ?_; rintro e w1 ⟨rfl, hby⟩)
        all_goals
          go_wp2_with fail
          go_roundw
          case rel => exact ⟨k + 1, by omega, by go_num, hbel.drew.trans (hby.mono (by have := hbel.size; simpa using this))⟩
          case measure => simp [intOf]; omega
      · go_wp2_with fail
        go_ret
        exact ⟨rfl, hbel⟩

set_option maxHeartbeats 400000 in
theorem eqValue_step (s n : Int) (t : ByteArray) (ns : List ByteArray) (ks : List V) (IH : ∀ i, i < ks.length → EqOk (kth ks i)) : EqOk (.mk s n t ns ks) := by
  intro w B v v' hR hR' hB
  obtain ⟨na, ka, nc, kc, rfl, hs, hns, ht, hbs, hK⟩ := hR.inv
  obtain ⟨na', ka', nc', kc', rfl, hs', hns', -, -, hK'⟩ := hR'.inv
  clear hR hR'
  have hb2 : ∀ o1 o2, Below w.heap.size w ((w.alloc o1).alloc o2) := fun o1 o2 => ((Below.refl _ _).alloc (Nat.le_refl _) _).alloc (by simp) _
  go_enter Tryz.func34, Tryz.ntmps34
  go_wp2_with (first
    | (
      go_at_call 66
      refine (eqStringS_any ns na na' nc nc' _ (· < B) (· < B) (hs.under ((hb2 _ _).mono hB)) (hs'.under ((hb2 _ _).mono hB))).mono ?_
      rintro e w' ⟨rfl, m, rfl⟩)
    | (
      go_at_call 67
      refine (eqValueS_any ks IH _ B ka ka' kc kc' (hK.under ((below_drews (hb2 _ _) m).mono hB)) (hK'.under ((below_drews (hb2 _ _) m).mono hB)) (by simp; omega)).mono ?_
      rintro e w' ⟨rfl, hb⟩))
  go_ret
  exact ⟨rfl, (below_drews (hb2 _ _) m).trans (hb.mono (by simp; omega))⟩

theorem eq_all (m : Nat) : ∀ x : V, SizeOf.sizeOf x < m → EqOk x := by
  induction m with
  | zero => intro x h; omega
  | succ m ih =>
    intro x h
    match x, h with
    | .mk s n t ns ks, h => exact eqValue_step s n t ns ks fun i hi => ih _ (by have := kth_lt ks i hi; simp at h; omega)
theorem eqValue_any (x : V) : EqOk x := eq_all _ x (Nat.lt_succ_self _)
end Go.Proofs.YtmemijccbmnaaaaGreat

namespace Go.Proofs.YtmemijccbmnaaaaGreat
set_option linter.unusedSimpArgs false
set_option linter.unusedVariables false
open Go.RowKit

mutual
/-- How many parts a value has. -/
def cntV : V → Nat
  | .mk _ _ _ _ ks => 1 + cntL ks
/-- The same of a list of values. -/
def cntL : List V → Nat
  | [] => 0
  | k :: r => cntV k + cntL r
end
theorem cntV_pos (x : V) : 1 ≤ cntV x := by cases x; simp [cntV]
/-- A place that is still to be copied: its block, where it begins there, and what is meant there. -/
structure Pl where
  b : Nat
  o : Nat
  y : V
def Pl.has (e : Pl) (b o : Nat) : Prop := e.b = b ∧ e.o ≤ o ∧ o < e.o + 5
def inL (L : List Pl) (b o : Nat) : Prop := ∃ e ∈ L, e.has b o
/-- A place holds a value. -/
def RepAt (w : World) (P : Nat → Prop) (b o : Nat) (y : V) : Prop := ∃ c0 c1 c2 c3 c4 : Value, w.cell? ⟨b, o, none⟩ = some c0 ∧ w.cell? ⟨b, o + 1, none⟩ = some c1 ∧ w.cell? ⟨b, o + 2, none⟩ = some c2 ∧ w.cell? ⟨b, o + 3, none⟩ = some c3 ∧ w.cell? ⟨b, o + 4, none⟩ = some c4 ∧ Rep w P y (.agg #[c0, c1, c2, c3, c4])
/-- The blocks that a call has made, but for its result's own. -/
def New (base : Nat) (w : World) : Nat → Prop := fun b => base ≤ b ∧ b < w.heap.size ∧ b ≠ base + 1
/-- In every later world that keeps the blocks T outside the open places, and in which each open place holds its value in new memory, the root holds x in new memory. -/
def Closes (w : World) (base : Nat) (T : Nat → Prop) (L : List Pl) (root : Nat) (x : V) : Prop :=
  ∀ w' : World, w.heap.size ≤ w'.heap.size → (∀ b o, T b → ¬ inL L b o → w'.cell? ⟨b, o, none⟩ = w.cell? ⟨b, o, none⟩) → (∀ e, e ∈ L → RepAt w' (New base w') e.b e.o e.y) → RepAt w' (New base w') root 0 x

theorem Closes.start (w : World) (base : Nat) (T : Nat → Prop) (root : Nat) (x : V) : Closes w base T [⟨root, 0, x⟩] root x := fun w' _ _ h => h ⟨root, 0, x⟩ (by simp)
theorem Closes.done {w : World} {base : Nat} {T : Nat → Prop} {root : Nat} {x : V} (h : Closes w base T [] root x) : RepAt w (New base w) root 0 x :=
  h w (Nat.le_refl _) (fun _ _ _ _ => rfl) (fun e he => by simp at he)

/-- The places of the first kids. -/
def kidPls (kb : Nat) (ks : List V) (n : Nat) : List Pl := (List.range n).map fun i => ⟨kb, i * 5, kth ks i⟩
theorem kidPls_mem {kb : Nat} {ks : List V} {n : Nat} {e : Pl} (h : e ∈ kidPls kb ks n) : ∃ i, i < n ∧ e = ⟨kb, i * 5, kth ks i⟩ := by
  simp only [kidPls, List.mem_map, List.mem_range] at h
  obtain ⟨i, hi, rfl⟩ := h
  exact ⟨i, hi, rfl⟩
theorem kidPls_in (kb : Nat) (ks : List V) {n i : Nat} (h : i < n) : (⟨kb, i * 5, kth ks i⟩ : Pl) ∈ kidPls kb ks n := by
  simp only [kidPls, List.mem_map, List.mem_range]; exact ⟨i, h, rfl⟩

theorem cntL_append (a b : List V) : cntL (a ++ b) = cntL a + cntL b := by
  induction a with
  | nil => simp [cntL]
  | cons k r ih => simp [cntL, ih]; omega
theorem Closes.step {w w2 : World} {base : Nat} {T T2 N : Nat → Prop} {L0 : List Pl} {b o : Nat} {s n : Int} {t : ByteArray} {ns : List ByteArray} {ks : List V} {root : Nat} {x : V} {na ka : Option Addr} {nc kc kb : Nat}
    (h : Closes w base T (L0 ++ [⟨b, o, .mk s n t ns ks⟩]) root x) (hsz : w.heap.size ≤ w2.heap.size) (hbz : base + 1 < w.heap.size)
    (hT : ∀ c, T c → base ≤ c ∧ c < w.heap.size) (hTb : T b) (hT2 : ∀ c, T c → T2 c) (hN2 : ∀ c, N c → T2 c)
    (hL0 : ∀ e, e ∈ L0 → T e.b) (hap : ∀ e, e ∈ L0 → e.b ≠ b ∨ e.o + 5 ≤ o ∨ o + 5 ≤ e.o)
    (hN : ∀ c, N c → w.heap.size ≤ c ∧ c < w2.heap.size ∧ c ≠ kb) (hkb : w.heap.size ≤ kb) (hkb2 : ks ≠ [] → kb < w2.heap.size)
    (hkeep : ∀ c i, T c → ¬ inL (L0 ++ [⟨b, o, .mk s n t ns ks⟩]) c i → w2.cell? ⟨c, i, none⟩ = w.cell? ⟨c, i, none⟩)
    (c0 : w2.cell? ⟨b, o, none⟩ = some (.int .i64 s)) (c1 : w2.cell? ⟨b, o + 1, none⟩ = some (.int .i64 n)) (c2 : w2.cell? ⟨b, o + 2, none⟩ = some (.string t)) (c3 : w2.cell? ⟨b, o + 3, none⟩ = some (.slice na ns.length nc)) (c4 : w2.cell? ⟨b, o + 4, none⟩ = some (.slice ka ks.length kc))
    (hS : Strs w2 N ns na) (hnc : ns.length ≤ nc) (ht : t.size ≤ maxLen) (hbs : 16 * ns.length ≤ 281474976710656) (hbk : 80 * ks.length ≤ 281474976710656) (hka : ks ≠ [] → ka = some ⟨kb, 0, none⟩) :
    Closes w2 base T2 (L0 ++ kidPls kb ks ks.length) root x := by
  intro w' hz hk hr
  have hbb := hT b hTb
  have notK : ∀ c i, c < w.heap.size → ¬ inL (kidPls kb ks ks.length) c i := by
    rintro c i hc ⟨e, he, h1, -⟩
    obtain ⟨j, hj, rfl⟩ := kidPls_mem he
    simp only at h1
    omega
  refine h w' (by omega) (fun c i hc hn => ?_) (fun e he => ?_)
  · rw [hk c i (hT2 c hc) (fun hin => hn ?_), hkeep c i hc hn]
    obtain ⟨e, he, hh⟩ := hin
    rcases List.mem_append.1 he with he | he
    · exact ⟨e, List.mem_append_left _ he, hh⟩
    · exact absurd ⟨e, he, hh⟩ (notK c i (hT c hc).2)
  · rcases List.mem_append.1 he with he | he
    · exact hr e (List.mem_append_left _ he)
    · obtain rfl : e = ⟨b, o, .mk s n t ns ks⟩ := by simpa using he
      have cell : ∀ j, j < 5 → w'.cell? ⟨b, o + j, none⟩ = w2.cell? ⟨b, o + j, none⟩ := fun j hj => hk b (o + j) (hT2 b hTb) fun hin => by
        obtain ⟨e, he, h1, h2, h3⟩ := hin
        rcases List.mem_append.1 he with he' | he'
        · rcases hap e he' with h4 | h4 | h4
          · exact h4 h1
          · omega
          · omega
        · exact notK b (o + j) hbb.2 ⟨e, he', h1, h2, h3⟩
      refine ⟨_, _, _, _, _, (cell 0 (by omega)).trans c0, (cell 1 (by omega)).trans c1, (cell 2 (by omega)).trans c2, (cell 3 (by omega)).trans c3, (cell 4 (by omega)).trans c4, Rep.of_kids ⟨fun hne => ?_, hS.2⟩ hnc ht hbs ?_⟩
      · obtain ⟨nb, off, e1, e2, e3⟩ := hS.1 hne
        have hn := hN nb e2
        refine ⟨nb, off, e1, ⟨by omega, by omega, by omega⟩, fun i hi => (hk nb (off + i) (hN2 nb e2) fun hin => ?_).trans (e3 i hi)⟩
        obtain ⟨e, he, h1, h2, h3⟩ := hin
        rcases List.mem_append.1 he with he' | he'
        · have := (hT _ (hL0 e he')).2; omega
        · obtain ⟨j, hj, rfl⟩ := kidPls_mem he'
          exact hn.2.2 h1.symm
      · refine ⟨hbk, ?_⟩
        have hK : ∀ i, ∃ C : Nat → Value, i < ks.length → (∀ j, j < 5 → w'.cell? ⟨kb, 0 + i * 5 + j, none⟩ = some (C j)) ∧ Rep w' (New base w') (kth ks i) (.agg #[C 0, C 1, C 2, C 3, C 4]) := fun i => by
          by_cases hi : i < ks.length
          · obtain ⟨d0, d1, d2, d3, d4, g0, g1, g2, g3, g4, hR⟩ := hr ⟨kb, i * 5, kth ks i⟩ (List.mem_append_right _ (kidPls_in kb ks hi))
            refine ⟨fun j => if j = 0 then d0 else if j = 1 then d1 else if j = 2 then d2 else if j = 3 then d3 else d4, fun _ => ⟨fun j hj => ?_, by simpa using hR⟩⟩
            have : j = 0 ∨ j = 1 ∨ j = 2 ∨ j = 3 ∨ j = 4 := by omega
            rcases this with rfl | rfl | rfl | rfl | rfl
            · simpa using g0
            · simpa using g1
            · simpa using g2
            · simpa using g3
            · simpa using g4
          · exact ⟨fun _ => undef, fun h => absurd h hi⟩
        obtain ⟨C, hC⟩ := Classical.skolem.1 hK
        exact ⟨kb, 0, C, fun hne => ⟨hka hne, by omega, by have := hkb2 hne; omega, by omega⟩, fun i hi => (hC i hi).1, fun i hi => (hC i hi).2⟩
end Go.Proofs.YtmemijccbmnaaaaGreat
