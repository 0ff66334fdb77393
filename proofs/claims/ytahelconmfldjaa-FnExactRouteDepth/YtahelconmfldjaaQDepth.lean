/-
  How deep steps are: as it is meant, and the model's RouteDepth.
-/
import Derived.Test.YtahelconmfldjaaQCopy
import Derived.Deep.AppendLies
import Derived.Laws.AppendOwnNone
namespace Go.Proofs.Ytahelconmfldjaa
set_option linter.unusedSimpArgs false
set_option linter.unusedVariables false
open Go.RowKit

/-- The greatest depth among those of the first of After that are places ahead of n. -/
def mx (D : Nat → Nat) (n : Nat) (af : List Int) : Nat → Nat
  | 0 => 0
  | k + 1 => if 0 ≤ ith af k ∧ ith af k < n then max (mx D n af k) (D (ith af k).toNat) else mx D n af k
theorem mx_congr {D D' : Nat → Nat} {n : Nat} {af : List Int} (h : ∀ i, i < n → D i = D' i) : ∀ k, mx D n af k = mx D' n af k
  | 0 => rfl
  | k + 1 => by
    rw [mx, mx, mx_congr h k]
    by_cases hc : 0 ≤ ith af k ∧ ith af k < n
    · rw [if_pos hc, if_pos hc, h _ (by omega)]
    · rw [if_neg hc, if_neg hc]
theorem mx_le {D : Nat → Nat} {n : Nat} {af : List Int} {b : Nat} (h : ∀ i, i < n → D i ≤ b) : ∀ k, mx D n af k ≤ b
  | 0 => Nat.zero_le _
  | k + 1 => by
    have := mx_le (af := af) h k
    rw [mx]
    by_cases hc : 0 ≤ ith af k ∧ ith af k < n
    · rw [if_pos hc]; have := h (ith af k).toNat (by omega); omega
    · rw [if_neg hc]; exact this
/-- How deep a step is. -/
def dn (ss : List St) (n : Nat) : Nat := 1 + mx (fun i => if h : i < n then dn ss i else 0) n (pth ss n).after (pth ss n).after.length
termination_by n
theorem dn_eq (ss : List St) (n : Nat) : dn ss n = 1 + mx (dn ss) n (pth ss n).after (pth ss n).after.length := by
  rw [dn]
  congr 1
  exact mx_congr (fun i hi => by simp [hi]) _
theorem dn_le (ss : List St) (n : Nat) : dn ss n ≤ n + 1 := by
  induction n using Nat.strongRecOn with
  | ind n ih =>
    rw [dn_eq]
    have := mx_le (D := dn ss) (n := n) (af := (pth ss n).after) (b := n) (fun i hi => by have := ih i hi; omega) (pth ss n).after.length
    omega
/-- The deepest of the first steps. -/
def top (ss : List St) : Nat → Nat
  | 0 => 0
  | n + 1 => max (top ss n) (dn ss n)
theorem top_le (ss : List St) : ∀ n, top ss n ≤ n
  | 0 => Nat.le_refl _
  | n + 1 => by have := top_le ss n; have := dn_le ss n; rw [top]; omega

/-- The depths of the first steps. -/
def deps (ss : List St) (n : Nat) : List Value := (List.range n).map fun j => .int .i64 (dn ss j)
theorem deps_succ (ss : List St) (n : Nat) : deps ss (n + 1) = deps ss n ++ [.int .i64 (dn ss n)] := by simp [deps, List.range_succ]
theorem owns_slice {w : World} {base : Nat} {e : TypeId} {sz n : Nat} {v : Value} {xs : List Value} (h : w.ownsRow base e sz v n xs) : ∃ (a : Option Addr) (c : Nat), v = .slice a n c := by
  rcases h.2 with ⟨h', rfl, _⟩ | ⟨g', cap', cur, h', _⟩
  · exact ⟨none, 0, h'⟩
  · exact ⟨_, _, h'⟩
theorem deps_cell {w : World} {base n cap : Nat} {a : Option Addr} {ss : List St} (h : w.ownsRow base 3 1 (.slice a n cap) n (deps ss n)) (i : Nat) (hi : i < n) :
    ∃ g, a = some ⟨g, 0, none⟩ ∧ w.cell? ⟨g, i, none⟩ = some (.int .i64 (dn ss i)) := by
  have h0 := h
  rcases h.2 with ⟨h', hn, _⟩ | ⟨g', cap', cur, h', _⟩
  · omega
  · simp only [Value.slice.injEq] at h'
    obtain ⟨rfl, _, rfl⟩ := h'
    refine ⟨g', rfl, ?_⟩
    have := h0.cellAt i (by omega)
    rw [this]
    simp [deps, hi]

set_option maxRecDepth 20000 in
set_option maxHeartbeats 1600000 in
theorem specDepth_any (ss : List St) (w : World) (B : Nat) (a : Option Addr) (c : Nat) (hK : StReps w (· < B) ss a) (hB : B ≤ w.heap.size) (hl : ss.length ≤ 1048576) :
    Calls Try.prog 7 #[.slice a ss.length c] w fun e w' => e = .returned (.int .i64 (top ss ss.length)) ∧ Below w.heap.size w w' := by
  obtain ⟨h3, C, hA, hr⟩ := hK
  obtain ⟨i0, hi, hz0, hz1, hz2⟩ := info_parts info3
  have hw0 : (w.alloc (.cells #[] 3)).ownsRow w.heap.size 3 1 (.slice (some ⟨w.heap.size, 0, none⟩) 0 0) 0 [] := ⟨rfl, .inr ⟨_, 0, #[], rfl, Nat.le_refl _, heap_alloc_new _ _, Nat.le_refl _, by simp, rfl, rfl⟩⟩
  go_enter Try.func7, Try.ntmps7
  go_wp2_with fail
  go_loopw [3, 4, 5] (fun m d i wr => ∃ k : Nat, k ≤ ss.length ∧ i = .int .i64 k ∧ m = .int .i64 (top ss k) ∧ wr.ownsRow w.heap.size 3 1 d k (deps ss k) ∧ Below w.heap.size w wr) (fun _ _ i _ => ss.length - (intOf i).toNat)
  case atStart => exact ⟨0, Nat.zero_le _, rfl, rfl, hw0, below_box _ _⟩
  case round =>
    obtain ⟨k, hk, rfl, rfl, hown, hbel⟩ := hrel
    obtain ⟨w0, rfl⟩ : ∃ x, x = wr := ⟨wr, rfl⟩
    have ht := top_le ss k
    obtain ⟨t, hte⟩ : ∃ t, t = top ss k := ⟨_, rfl⟩
    have HTE : Hid (t = top ss k) := hte
    rw [← hte] at ht ⊢
    clear hte
    by_cases hlt : k < ss.length
    · obtain ⟨b, off, rfl, hbB, hc⟩ := hA (by omega)
      have hki : (k : Int) < (ss.length : Int) := by omega
      have hc4 : w0.cell? ⟨b, off + k * 6 + 4, none⟩ = some (C k 4) := (hbel.cell (p := ⟨b, off + k * 6 + 4, none⟩) (by show b < _; omega)).trans (hc k hlt 4 (by omega))
      obtain ⟨wa, sa, aa, ba, wc, sc, ac, bc, -, -, -, -, e4, -, hI, hac⟩ := (hr k hlt).pieces
      rw [e4] at hc4
      obtain ⟨da, dc, rfl⟩ := owns_slice hown
      have HO : Hid (w0.ownsRow w.heap.size 3 1 (.slice da k dc) k (deps ss k)) := hown
      have hI8 := hI.1
      have hdn : ∀ j, dn ss j ≤ j + 1 := dn_le ss
      have HD : Hid (dn ss k = 1 + mx (dn ss) k (pth ss k).after (pth ss k).after.length) := dn_eq ss k
      have hm : ∀ j, mx (dn ss) k (pth ss k).after j ≤ k := mx_le fun i hi => by have := hdn i; omega
      clear hown hc
      go_wp2_with fail
      go_loop [6, 7] (fun nn j => ∃ q : Nat, q ≤ (pth ss k).after.length ∧ j = .int .i64 q ∧ nn = .int .i64 ((1 + mx (dn ss) k (pth ss k).after q : Nat) : Int)) (fun _ j => (pth ss k).after.length - (intOf j).toNat)
      case atStart => exact ⟨0, Nat.zero_le _, rfl, rfl⟩
      case round =>
        obtain ⟨q, hq, rfl, rfl⟩ := hrel
        by_cases hlq : q < (pth ss k).after.length
        · obtain ⟨ab, ao, rfl, hab, hcc⟩ := hI.2 (by omega)
          have hx : w0.cell? ⟨ab, ao + q, none⟩ = some (.int .i64 (ith (pth ss k).after q)) := (hbel.cell (p := ⟨ab, ao + q, none⟩) (by show ab < _; omega)).trans (hcc q hlq)
          clear hcc
          have hqi : (q : Int) < ((pth ss k).after.length : Int) := by omega
          have hmq := hm q
          have HM : Hid (mx (dn ss) k (pth ss k).after (q + 1) = if 0 ≤ ith (pth ss k).after q ∧ ith (pth ss k).after q < k then max (mx (dn ss) k (pth ss k).after q) (dn ss (ith (pth ss k).after q).toNat) else mx (dn ss) k (pth ss k).after q) := rfl
          obtain ⟨M, hMe⟩ : ∃ M, M = mx (dn ss) k (pth ss k).after q := ⟨_, rfl⟩
          rw [← hMe] at hmq HM ⊢
          obtain ⟨at', hae⟩ : ∃ x, x = ith (pth ss k).after q := ⟨_, rfl⟩
          rw [← hae] at hx HM
          have hwr : IntKind.i64.wrap ((k : Int) - 1) = (k : Int) - 1 := IntWalk.i64_in _ (by omega)
          clear hMe hae hm
          by_cases hin : 0 ≤ at' ∧ at' < k
          · obtain ⟨n, rfl⟩ : ∃ n : Nat, at' = (n : Int) := ⟨at'.toNat, by omega⟩
            obtain ⟨g, rfl, hdc⟩ := deps_cell HO.out n (by omega)
            have hl1 : (decide ((0 : Int) ≤ (n : Int)) && decide ((n : Int) ≤ (k : Int) - 1)) = true := by simp; omega
            have hnk : (n : Int) < (k : Int) := by omega
            have hdnn := hdn n
            obtain ⟨d, hde⟩ : ∃ d, d = dn ss n := ⟨_, rfl⟩
            rw [← hde] at hdc hdnn
            have HDE : Hid (d = dn ss n) := hde
            clear hde
            by_cases hgt : M < d
            · go_wp2_with (go_at_call 21; refine (l1In_any _ _ _ _).mono ?_; rw [hl1]; rintro e w' ⟨rfl, rfl⟩)
              go_round
              case rel => exact ⟨q + 1, by omega, by go_num, by rw [HM.out, if_pos (by omega), Int.toNat_natCast, ← HDE.out, Nat.max_eq_right (by omega)]; go_num⟩
              case measure => simp [intOf]; omega
            · go_wp2_with (go_at_call 21; refine (l1In_any _ _ _ _).mono ?_; rw [hl1]; rintro e w' ⟨rfl, rfl⟩)
              go_round
              case rel => exact ⟨q + 1, by omega, by go_num, by rw [HM.out, if_pos (by omega), Int.toNat_natCast, ← HDE.out, Nat.max_eq_left (by omega)]; simp⟩
              case measure => simp [intOf]; omega
          · have hl1 : (decide ((0 : Int) ≤ at') && decide (at' ≤ (k : Int) - 1)) = false := by
              by_cases h0 : 0 ≤ at'
              · simp [h0]; omega
              · simp [h0]
            go_wp2_with (go_at_call 21; refine (l1In_any _ _ _ _).mono ?_; rw [hl1]; rintro e w' ⟨rfl, rfl⟩)
            go_round
            case rel => exact ⟨q + 1, by omega, by go_num, by rw [HM.out, if_neg hin]; simp⟩
            case measure => simp [intOf]; omega
        · have e : q = (pth ss k).after.length := by omega
          subst e
          rw [← HD.out]
          have hdk := hdn k
          obtain ⟨d, hde⟩ : ∃ d, d = dn ss k := ⟨_, rfl⟩
          rw [← hde] at hdk ⊢
          have HDE : Hid (d = dn ss k) := hde
          clear hde hm
          go_wp2_with (at_builtin; refine wpList_append_lies _ rfl _ _ 29 rfl w.heap.size 3 i0 (.int .i64 0) 1 8 Try.underlying29 hi hz0 hz1 hz2 rfl (by decide) (.slice da k dc) k (deps ss k) rfl (HO.out.alloc _) ⟨w0.heap.size, 0, none⟩ 1 1 [.int .i64 d] rfl rfl (World.news_of_block (heap_alloc_new w0 _)) (by intro u hu; simp at hu; subst hu; rfl) (by omega) (by unfold maxLen; omega) (by omega) (by have := hbel.size; simp; omega) _ rfl ?_)
          intro g2 cap2 w4 hown4 hgrow4 hat4 hlt4
          have hz4 := hgrow4.size
          simp at hz4
          have b4 : Below w.heap.size w w4 := ((hbel.alloc (Nat.le_of_lt_succ (by have := hbel.size; omega)) _).grown hgrow4 (by have := hbel.size; simp; omega) (fun x hx => by
            rcases HO.out.2 with ⟨h', _⟩ | ⟨g', cap', cur, h', hb', _⟩
            · rw [h'] at hx; simp [Value.ownBlock] at hx
            · rw [h'] at hx; simp [Value.ownBlock] at hx; omega))
          have HOWN : Hid (w4.ownsRow w.heap.size 3 1 (.slice (some ⟨g2, 0, none⟩) (k + 1) cap2) (k + 1) (deps ss (k + 1))) := by rw [deps_succ, ← HDE.out]; exact hown4
          clear hown4 hgrow4 hat4
          by_cases hgt : t < d
          · go_wp2_with fail
            go_roundw
            case rel => exact ⟨k + 1, by omega, by go_num, by rw [top, ← HTE.out, ← HDE.out, Nat.max_eq_right (by omega)], HOWN.out, b4⟩
            case measure => simp [intOf]; omega
          · go_wp2_with fail
            go_roundw
            case rel => exact ⟨k + 1, by omega, by go_num, by rw [top, ← HTE.out, ← HDE.out, Nat.max_eq_left (by omega)], HOWN.out, b4⟩
            case measure => simp [intOf]; omega
    · go_wp2_with fail
      go_ret
      have e : k = ss.length := by omega
      refine ⟨?_, hbel⟩
      rw [HTE.out, e]
      rfl
end Go.Proofs.Ytahelconmfldjaa
