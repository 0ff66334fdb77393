/-
  How two values go together: valuePairs and its functions; slices.Equal.
-/
import Derived.Test.YtoohlmiegjaicaaSCopyV
import Derived.Laws.EntriesVeiled
namespace Go.Proofs.Ytoohlmiegjaicaa
set_option linter.unusedSimpArgs false
set_option linter.unusedVariables false
open Go.RowKit

/-- The four functions of values. -/
def pairsV : Value := .agg #[.func (.func 30) #[] #[], .func (.func 31) #[] #[], .func (.func 33) #[] #[], .func (.func 34) #[] #[]]

theorem valuePairs_any (w : World) : Calls Try.prog 26 #[] w fun e w' => e = .returned pairsV ∧ Below w.heap.size w w' := by
  go_enter Try.func26, Try.ntmps26
  go_wp2_with fail
  refine bodyPost_ret (v := pairsV) ?res rfl ⟨rfl, below_box _ _⟩
  case res => simp [results, Try.results26, go_sem, pairsV]

theorem mate_any (l : Value) (cs : Array Value) (n : Int) (w : World) : Calls Try.prog 30 #[l, .agg cs, .int .i64 n] w fun e w' => e = .returned (.int .i64 n) ∧ Below w.heap.size w w' := by
  go_enter Try.func30, Try.ntmps30
  go_wp2_with fail
  go_ret
  exact ⟨rfl, below_box _ _⟩

theorem kidsOf_any (b o : Nat) (w : World) : Calls Try.prog 33 #[.pointer (some ⟨b, o, none⟩)] w fun e w' => e = .returned (.pointer (some ⟨b, o + 4, none⟩)) ∧ w = w' := by
  go_enter Try.func33, Try.ntmps33
  go_wp2_with fail
  go_ret
  exact ⟨rfl, rfl⟩

/-- Whether two lists of texts are the same as far as so many. -/
def eqTo (ns ms : List ByteArray) (k : Nat) : Bool := (List.range k).all fun i => (nth ns i).toList == (nth ms i).toList
theorem eqTo_succ (ns ms : List ByteArray) (k : Nat) : eqTo ns ms (k + 1) = (eqTo ns ms k && (nth ns k).toList == (nth ms k).toList) := by
  simp [eqTo, List.range_succ, List.all_append]
theorem eqTo_false (ns ms : List ByteArray) (n k : Nat) (h : k < n) (hk : ((nth ns k).toList == (nth ms k).toList) = false) : eqTo ns ms n = false := by
  cases e : eqTo ns ms n
  · rfl
  · rw [eqTo, List.all_eq_true] at e
    have := e k (by simpa using h)
    rw [hk] at this; cases this
/-- Whether two lists of texts are the same. -/
def eqNs (ns ms : List ByteArray) : Bool := decide (ns.length = ms.length) && eqTo ns ms ns.length

set_option maxHeartbeats 400000 in
theorem equal_any (ns ms : List ByteArray) (a a' : Option Addr) (c c' : Nat) (w : World) (P P' : Nat → Prop) (hS : Strs w P ns a) (hS' : Strs w P' ms a') (hc : ns.length ≤ c) (hc' : ms.length ≤ c') :
    Calls Try.prog 32 #[.slice a ns.length c, .slice a' ms.length c'] w fun e w' => e = .returned (.bool (eqNs ns ms)) ∧ Below w.heap.size w w' := by
  obtain ⟨h1, h2, h3⟩ := hS
  obtain ⟨g1, g2, g3⟩ := hS'
  unfold maxLen at h3 g3
  by_cases hlen : ns.length = ms.length
  rotate_left
  · have hl : ((ns.length : Int) != (ms.length : Int)) = true := by simp only [bne, beq_eq_false_iff_ne.2 (show (ns.length : Int) ≠ (ms.length : Int) by omega)]; rfl
    have hl3 : ((ns.length : Int) == (ms.length : Int)) = false := by simp; omega
    go_enter Try.func32, Try.ntmps32
    go_wp2_with fail
    go_ret
    exact ⟨ret_bool (by simp [eqNs, hlen]), Below.refl _ _⟩
  have hE : Hid (eqNs ns ms = eqTo ns ms ns.length) := by show _ = _; simp [eqNs, hlen]
  rw [← hlen]
  by_cases hn0 : ns.length = 0
  · have hns : ns = [] := by simpa using hn0
    subst hns
    go_enter Try.func32, Try.ntmps32
    go_wp2_with fail
    go_loop [13] (fun i => i = .int .i64 0) (fun _ => 0)
    case atStart => rfl
    case round =>
      subst hrel
      go_wp2_with fail
      go_ret
      exact ⟨ret_bool (by rw [hE.out]; rfl), Below.refl _ _⟩
  · obtain ⟨b, off, rfl, _, hcc⟩ := h1 (by intro e; simp [e] at hn0)
    obtain ⟨b', off', rfl, _, hcc'⟩ := g1 (by intro e; simp [e] at hlen; exact hn0 (by simp [hlen]))
    clear h1 h2 g1 g2
    go_enter Try.func32, Try.ntmps32
    go_wp2_with fail
    go_loopw [13] (fun i wr => ∃ k m : Nat, k ≤ ns.length ∧ i = .int .i64 k ∧ wr = w.drewN m ∧ eqTo ns ms k = true) (fun i _ => ns.length - (intOf i).toNat)
    case atStart => exact ⟨0, 0, Nat.zero_le _, rfl, rfl, rfl⟩
    case round =>
      obtain ⟨k, m, hk, rfl, rfl, hp⟩ := hrel
      have HP : Hid (eqTo ns ms k = true) := hp
      clear hp
      by_cases hlt : k < ns.length
      · have hck := hcc k hlt
        have hck' := hcc' k (by omega)
        have hki : (k : Int) < (ns.length : Int) := by omega
        clear hcc hcc'
        cases he : ((nth ns k).toList == (nth ms k).toList)
        · have he' : ((nth ns k).toList != (nth ms k).toList) = true := by simp only [bne, he]; rfl
          go_wp2_with fail
          go_quiet (fail)
          go_wp2_with fail
          go_ret
          exact ⟨ret_bool (by rw [hE.out, eqTo_false ns ms _ k hlt he]), below_drews (below_drews (Below.refl _ _) _) _⟩
        · have he' : ((nth ns k).toList != (nth ms k).toList) = false := by simp only [bne, he]; rfl
          go_wp2_with fail
          go_quiet (fail)
          go_wp2_with fail
          go_roundw
          case rel => exact ⟨k + 1, _, by omega, by go_num, rfl, by rw [eqTo_succ, HP.out, he]; rfl⟩
          case measure => simp [intOf]; omega
      · go_wp2_with fail
        go_ret
        have e : k = ns.length := by omega
        exact ⟨ret_bool (by rw [hE.out, ← e, HP.out]), below_drews (Below.refl _ _) _⟩

/-- Whether two values are alike but for what is in them. -/
def alikeB (s n : Int) (t : ByteArray) (ns : List ByteArray) (kl : Nat) (s' n' : Int) (t' : ByteArray) (ns' : List ByteArray) (kl' : Nat) : Bool :=
  s == s' && n == n' && t.toList == t'.toList && eqNs ns ns' && (kl : Int) == (kl' : Int)

set_option maxHeartbeats 800000 in
theorem alike_any (s n : Int) (t : ByteArray) (ns : List ByteArray) (kl : Nat) (s' n' : Int) (t' : ByteArray) (ns' : List ByteArray) (kl' : Nat) (na ka na' ka' : Option Addr) (nc kc nc' kc' : Nat) (w : World) (B : Nat)
    (hS : Strs w (· < B) ns na) (hS' : Strs w (· < B) ns' na') (hc : ns.length ≤ nc) (hc' : ns'.length ≤ nc') (hB : B ≤ w.heap.size) :
    Calls Try.prog 31 #[.agg #[.int .i64 s, .int .i64 n, .string t, .slice na ns.length nc, .slice ka kl kc], .agg #[.int .i64 s', .int .i64 n', .string t', .slice na' ns'.length nc', .slice ka' kl' kc']] w fun e w' => e = .returned (.bool (alikeB s n t ns kl s' n' t' ns' kl')) ∧ Below w.heap.size w w' := by
  have hb2 : ∀ o1 o2, Below w.heap.size w ((w.alloc o1).alloc o2) := fun o1 o2 => below_box2 w o1 o2
  have hq := fun o1 o2 => equal_any ns ns' na na' nc nc' ((w.alloc o1).alloc o2) (· < B) (· < B) (hS.under ((hb2 o1 o2).mono hB)) (hS'.under ((hb2 o1 o2).mono hB)) hc hc'
  cases e1 : (s == s')
  · go_enter Try.func31, Try.ntmps31
    go_wp2_with fail
    go_ret
    exact ⟨ret_bool (by simp [alikeB, e1]), hb2 _ _⟩
  cases e2 : (n == n')
  · go_enter Try.func31, Try.ntmps31
    go_wp2_with fail
    go_ret
    exact ⟨ret_bool (by simp [alikeB, e2]), hb2 _ _⟩
  cases e3 : (t.toList == t'.toList)
  · go_enter Try.func31, Try.ntmps31
    go_wp2_with fail
    go_ret
    exact ⟨ret_bool (by simp [alikeB, e3]), hb2 _ _⟩
  cases e4 : eqNs ns ns'
  · rw [e4] at hq
    go_enter Try.func31, Try.ntmps31
    go_wp2_with (go_at_call 32; refine (hq _ _).mono ?_; rintro e w1 ⟨rfl, hb1⟩)
    go_ret
    exact ⟨ret_bool (by simp [alikeB, e4]), (hb2 _ _).trans (hb1.mono (by simp; omega))⟩
  · rw [e4] at hq
    have F0 := fun o2 => (Five.new w (.int .i64 s) (.int .i64 n) (.string t) (.slice na ns.length nc) (.slice ka kl kc) 30).keep (below_box _ o2) (by simp)
    have F1 := fun o1 => (Five.new (w.alloc o1) (.int .i64 s') (.int .i64 n') (.string t') (.slice na' ns'.length nc') (.slice ka' kl' kc') 30)
    go_enter Try.func31, Try.ntmps31
    go_wp2_with (
      go_at_call 32
      refine (hq _ _).mono ?_
      rintro e w1 ⟨rfl, hb1⟩
      have q0 := ((F0 _).keep hb1 (by simp; omega)).2.2.2.2
      have q1' := ((F1 _).keep hb1 (by simp)).2.2.2.2
      have q1 : w1.cell? ⟨w.heap.size + 1, 4, none⟩ = some (.slice ka' kl' kc') := by simpa using q1')
    go_ret
    exact ⟨ret_bool (by simp [alikeB, e1, e2, e3, e4]), (hb2 _ _).trans (hb1.mono (by simp; omega))⟩
end Go.Proofs.Ytoohlmiegjaicaa
