/-
  Which steps can be done next: as it is meant, and the model's SailReady.
-/
import Derived.Test.YtahelconmfldjaaQMark2
import Derived.Deep.AppendLies
import Derived.Laws.AppendOwnNone
namespace Go.Proofs.Ytahelconmfldjaa
set_option linter.unusedSimpArgs false
set_option linter.unusedVariables false
open Go.RowKit

/-- What a function leaves that answers new numbers. -/
def IntsNew (w w' : World) (ns : List Int) (e : Ending) : Prop := ∃ (a : Option Addr) (c : Nat), e = .returned (.slice a ns.length c) ∧ Below w.heap.size w w' ∧ Ints w' (fun b => w.heap.size ≤ b ∧ b < w'.heap.size) ns a ∧ WInts w' w.heap.size w'.heap.size ns.length a
theorem ith_map (ns : List Int) (j : Nat) (u : Value) (h : (ns.map (Value.int .i64))[j]? = some u) : j < ns.length ∧ u = .int .i64 (ith ns j) := by
  rw [List.getElem?_map] at h
  obtain ⟨b, hb, rfl⟩ := Option.map_eq_some_iff.1 h
  obtain ⟨hj, rfl⟩ := List.getElem?_eq_some_iff.1 hb
  exact ⟨hj, by simp [ith, List.getD_eq_getElem?_getD, hj]⟩
theorem frozen_cellsN {w : World} {g : Nat} {cur : Array Value} {e : TypeId} (h : w.heap[g]? = some (.cells cur e (0, 0))) (o : Nat) : w.frozen? ⟨g, o, none⟩ = false := by simp [World.frozen?, h]
theorem ints_owned {w : World} {base : Nat} {ns : List Int} {g cap : Nat} (h : w.ownsRow base 3 1 (.slice (some ⟨g, 0, none⟩) ns.length cap) ns.length (ns.map (Value.int .i64))) (h3 : 8 * ns.length ≤ 281474976710656) (hlt : g < w.heap.size) :
    Ints w (fun b => base ≤ b ∧ b < w.heap.size) ns (some ⟨g, 0, none⟩) ∧ WInts w base w.heap.size ns.length (some ⟨g, 0, none⟩) := by
  have hb : base ≤ g ∧ ns.length ≤ cap ∧ ∀ o, w.frozen? ⟨g, o, none⟩ = false := by
    rcases h.2 with ⟨h', _⟩ | ⟨g', cap', cur, h', hb, hh, hn, _⟩
    · simp at h'
    · simp only [Value.slice.injEq, Option.some.injEq, Addr.mk.injEq, and_true, true_and] at h'
      obtain ⟨rfl, rfl⟩ := h'
      exact ⟨hb, hn, frozen_cellsN hh⟩
  have hc : ∀ i, i < ns.length → w.cell? ⟨g, 0 + i, none⟩ = some (.int .i64 (ith ns i)) := fun i hi => by
    have := h.cellAt i (by omega)
    rw [Nat.zero_add, this, List.getElem?_map]
    simp [ith, List.getD_eq_getElem?_getD, hi]
  exact ⟨⟨h3, fun _ => ⟨g, 0, rfl, ⟨hb.1, hlt⟩, hc⟩⟩, fun _ => ⟨g, 0, rfl, hb.1, hlt, fun i hi => ⟨⟨_, hc i hi⟩, hb.2.2 _⟩⟩⟩
theorem ints_none (w : World) (a : Option Addr) (lo hi : Nat) : WInts w lo hi ([] : List Int).length a := fun h => by simp at h

/-- A number is among the first of a list. -/
def hasI (ns : List Int) (x : Int) (n : Nat) : Bool := (List.range n).any fun i => ith ns i == x
theorem hasI_succ (ns : List Int) (x : Int) (n : Nat) : hasI ns x (n + 1) = (hasI ns x n || (ith ns n == x)) := by simp [hasI, List.range_succ]
theorem hasI_true (ns : List Int) (x : Int) (n k : Nat) (hk : k < n) (h : (ith ns k == x) = true) : hasI ns x n = true := by
  rw [hasI, List.any_eq_true]
  exact ⟨k, by simpa using hk, h⟩
/-- The first of After are all done. -/
def allD (ds af : List Int) (n : Nat) : Bool := (List.range n).all fun i => hasI ds (ith af i) ds.length
theorem allD_succ (ds af : List Int) (n : Nat) : allD ds af (n + 1) = (allD ds af n && hasI ds (ith af n) ds.length) := by simp [allD, List.range_succ]
/-- A step can be done next. -/
def rdy (ss : List St) (ds : List Int) (i : Nat) : Bool := !hasI ds i ds.length && allD ds (pth ss i).after (pth ss i).after.length
/-- The first steps that can be done next, by their places. -/
def rdL (ss : List St) (ds : List Int) : Nat → List Int
  | 0 => []
  | n + 1 => if rdy ss ds n then rdL ss ds n ++ [(n : Int)] else rdL ss ds n
theorem rdL_le (ss : List St) (ds : List Int) : ∀ n, (rdL ss ds n).length ≤ n
  | 0 => Nat.le_refl _
  | n + 1 => by
    have := rdL_le ss ds n
    rw [rdL]
    split
    · simp; omega
    · omega

set_option maxHeartbeats 400000 in
theorem l9Has_any (ds : List Int) (x : Int) (a : Option Addr) (c : Nat) (w : World) (P : Nat → Prop) (hI : Ints w P ds a) :
    Calls Try.prog 31 #[.slice a ds.length c, .int .i64 x] w fun e w' => e = .returned (.bool (hasI ds x ds.length)) ∧ w = w' := by
  obtain ⟨h8, h1⟩ := hI
  go_enter Try.func31, Try.ntmps31
  go_wp2_with fail
  go_loop [5] (fun i => ∃ k : Nat, k ≤ ds.length ∧ i = .int .i64 k ∧ hasI ds x k = false) (fun i => ds.length - (intOf i).toNat)
  case atStart => exact ⟨0, Nat.zero_le _, rfl, rfl⟩
  case round =>
    obtain ⟨k, hk, rfl, hp⟩ := hrel
    have HP : Hid (hasI ds x k = false) := hp
    clear hp
    by_cases hlt : k < ds.length
    · obtain ⟨b, off, rfl, -, hc⟩ := h1 (by omega)
      have hck := hc k hlt
      clear hc h1
      have hki : (k : Int) < (ds.length : Int) := by omega
      by_cases he : ith ds k = x
      · have HE : Hid (hasI ds x ds.length = true) := hasI_true ds x _ k hlt (by simp [he])
        go_wp2_with fail
        go_ret
        exact ⟨by rw [HE.out]; rfl, rfl⟩
      · have HE : Hid (hasI ds x (k + 1) = false) := by show _ = _; rw [hasI_succ, HP.out]; simp [he]
        go_wp2_with fail
        go_round
        case rel => exact ⟨k + 1, by omega, by go_num, HE.out⟩
        case measure => simp [intOf]; omega
    · go_wp2_with fail
      go_ret
      have e : k = ds.length := by omega
      exact ⟨by rw [← e, HP.out]; rfl, rfl⟩

set_option maxRecDepth 20000 in
set_option maxHeartbeats 1600000 in
theorem specReady_any (ss : List St) (ds : List Int) (w : World) (B : Nat) (a da : Option Addr) (c dc : Nat) (hK : StReps w (· < B) ss a) (hD : Ints w (· < B) ds da) (hB : B ≤ w.heap.size) (hl : ss.length ≤ 1048576) :
    Calls Try.prog 17 #[.slice a ss.length c, .slice da ds.length dc] w fun e w' => IntsNew w w' (rdL ss ds ss.length) e := by
  obtain ⟨h3, C, hA, hr⟩ := hK
  obtain ⟨i0, hi, hz0, hz1, hz2⟩ := info_parts info3
  have hw0 : (w.alloc (.cells #[] 3)).ownsRow w.heap.size 3 1 (.slice (some ⟨w.heap.size, 0, none⟩) 0 0) 0 [] := ⟨rfl, .inr ⟨_, 0, #[], rfl, Nat.le_refl _, heap_alloc_new _ _, Nat.le_refl _, by simp, rfl, rfl⟩⟩
  go_enter Try.func17, Try.ntmps17
  go_wp2_with fail
  go_loopw [5, 6] (fun d i wr => ∃ (k g cap : Nat), k ≤ ss.length ∧ i = .int .i64 k ∧ d = .slice (some ⟨g, 0, none⟩) (rdL ss ds k).length cap ∧ wr.ownsRow w.heap.size 3 1 d (rdL ss ds k).length ((rdL ss ds k).map (Value.int .i64)) ∧ w.heap.size ≤ g ∧ g < wr.heap.size ∧ Below w.heap.size w wr) (fun _ i _ => ss.length - (intOf i).toNat)
  case atStart => exact ⟨0, w.heap.size, 0, Nat.zero_le _, rfl, rfl, hw0, Nat.le_refl _, by simp, below_box _ _⟩
  case round =>
    obtain ⟨k, g, cap, hk, rfl, rfl, hown, hg1, hg2, hbel⟩ := hrel
    obtain ⟨w0, rfl⟩ : ∃ x, x = wr := ⟨wr, rfl⟩
    have hrl := rdL_le ss ds k
    have HO : Hid (w0.ownsRow w.heap.size 3 1 (.slice (some ⟨g, 0, none⟩) (rdL ss ds k).length cap) (rdL ss ds k).length ((rdL ss ds k).map (Value.int .i64))) := hown
    have HR : Hid (rdL ss ds (k + 1) = if rdy ss ds k then rdL ss ds k ++ [(k : Int)] else rdL ss ds k) := rfl
    have z0 := hbel.size
    clear hown
    by_cases hlt : k < ss.length
    · obtain ⟨b, off, rfl, hbB, hc⟩ := hA (by omega)
      have hki : (k : Int) < (ss.length : Int) := by omega
      have hc4 : w0.cell? ⟨b, off + k * 6 + 4, none⟩ = some (C k 4) := (hbel.cell (p := ⟨b, off + k * 6 + 4, none⟩) (by show b < _; omega)).trans (hc k hlt 4 (by omega))
      obtain ⟨wa, sa, aa, ba, wc, sc, ac, bc, -, -, -, -, e4, -, hI, hac⟩ := (hr k hlt).pieces
      rw [e4] at hc4
      have hI8 := hI.1
      have hD0 : Hid (Ints w0 (· < B) ds da) := hD.under (hbel.mono hB)
      have HI : Hid (Ints w0 (· < B) (pth ss k).after aa) := hI.under (hbel.mono hB)
      have HRY : Hid (rdy ss ds k = (!hasI ds k ds.length && allD ds (pth ss k).after (pth ss k).after.length)) := rfl
      clear hc hI e4 hA hr
      obtain ⟨h0, hh0⟩ : ∃ h0, h0 = hasI ds k ds.length := ⟨_, rfl⟩
      go_wp2_with (go_at_call 31; refine (l9Has_any ds _ da dc _ (· < B) hD0.out).mono ?_; rw [← hh0]; rintro e w' ⟨rfl, rfl⟩)
      have HH0 : Hid (h0 = hasI ds k ds.length) := hh0
      clear hh0
      go_loop [7, 8] (fun o j => ∃ q : Nat, q ≤ (pth ss k).after.length ∧ j = .int .i64 q ∧ o = .bool (!h0 && allD ds (pth ss k).after q)) (fun _ j => (pth ss k).after.length - (intOf j).toNat)
      case atStart => exact ⟨0, Nat.zero_le _, rfl, by rw [HH0.out]; simp [allD]⟩
      case round =>
        obtain ⟨q, hq, rfl, rfl⟩ := hrel
        by_cases hlq : q < (pth ss k).after.length
        · obtain ⟨ab, ao, rfl, hab, hcc⟩ := HI.out.2 (by omega)
          have hx := hcc q hlq
          clear hcc
          have hqi : (q : Int) < ((pth ss k).after.length : Int) := by omega
          have HA : Hid (allD ds (pth ss k).after (q + 1) = (allD ds (pth ss k).after q && hasI ds (ith (pth ss k).after q) ds.length)) := allD_succ _ _ _
          obtain ⟨o, ho⟩ : ∃ o, o = (!h0 && allD ds (pth ss k).after q) := ⟨_, rfl⟩
          rw [← ho]
          have HOO : Hid (o = (!h0 && allD ds (pth ss k).after q)) := ho
          clear ho
          obtain ⟨at', hae⟩ : ∃ x, x = ith (pth ss k).after q := ⟨_, rfl⟩
          rw [← hae] at hx HA
          clear hae
          cases o
          · go_wp2_with fail
            go_round
            case rel => exact ⟨q + 1, by omega, by go_num, by rw [HA.out, ← Bool.and_assoc, ← HOO.out]; rfl⟩
            case measure => simp [intOf]; omega
          · go_wp2_with (go_at_call 31; refine (l9Has_any ds _ da dc _ (· < B) hD0.out).mono ?_; rintro e w' ⟨rfl, rfl⟩)
            go_round
            case rel => exact ⟨q + 1, by omega, by go_num, by rw [HA.out, ← Bool.and_assoc, ← HOO.out]; simp⟩
            case measure => simp [intOf]; omega
        · have e : q = (pth ss k).after.length := by omega
          subst e
          rw [HH0.out, ← HRY.out]
          obtain ⟨r, hre⟩ : ∃ r, r = rdy ss ds k := ⟨_, rfl⟩
          rw [← hre] at HR ⊢
          clear hre
          cases r
          · go_wp2_with fail
            go_roundw
            case rel => exact ⟨k + 1, g, cap, by omega, by go_num, by rw [HR.out]; rfl, by rw [HR.out]; exact HO.out, hg1, hg2, hbel⟩
            case measure => simp [intOf]; omega
          · go_wp2_with (at_builtin; refine wpList_append_lies _ rfl _ _ 29 rfl w.heap.size 3 i0 (.int .i64 0) 1 8 Try.underlying29 hi hz0 hz1 hz2 rfl (by decide) (.slice (some ⟨g, 0, none⟩) (rdL ss ds k).length cap) (rdL ss ds k).length ((rdL ss ds k).map (Value.int .i64)) rfl (HO.out.alloc _) ⟨w0.heap.size, 0, none⟩ 1 1 [.int .i64 (k : Int)] rfl rfl (World.news_of_block (heap_alloc_new w0 _)) (by intro u hu; simp at hu; subst hu; rfl) (by omega) (by unfold maxLen; omega) (by omega) (by simp; omega) _ rfl ?_)
            intro g2 cap2 w4 hown4 hgrow4 hat4 hlt4
            have hz4 := hgrow4.size
            simp at hz4
            have b4 : Below w.heap.size w w4 := ((hbel.alloc z0 _).grown hgrow4 (by simp; omega) (fun x hx => by simp [Value.ownBlock] at hx; omega))
            have hg3 : w.heap.size ≤ g2 := by
              rcases hat4 with h | h
              · simp [Value.ownBlock] at h; omega
              · omega
            have HOWN : Hid (w4.ownsRow w.heap.size 3 1 (.slice (some ⟨g2, 0, none⟩) ((rdL ss ds k).length + 1) cap2) ((rdL ss ds k).length + 1) ((rdL ss ds k ++ [(k : Int)]).map (Value.int .i64))) := by rw [List.map_append]; exact hown4
            clear hown4 hgrow4 hat4
            go_wp2_with fail
            go_roundw
            case rel => exact ⟨k + 1, g2, cap2, by omega, by go_num, by rw [HR.out]; simp, by rw [HR.out]; simpa using HOWN.out, hg3, hlt4, b4⟩
            case measure => simp [intOf]; omega
    · go_wp2_with fail
      go_ret
      have e : k = ss.length := by omega
      subst e
      have hS := ints_owned (base := w.heap.size) HO.out (by omega) hg2
      exact ⟨some ⟨g, 0, none⟩, cap, rfl, hbel, hS.1, hS.2⟩
end Go.Proofs.Ytahelconmfldjaa
