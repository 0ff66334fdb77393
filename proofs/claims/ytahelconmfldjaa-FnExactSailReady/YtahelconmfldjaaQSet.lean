/-
  The program's sets of numbers, and who asks them: setOf, add, has, SailReady's closure, slices.ContainsFunc.
-/
import Derived.Test.YtahelconmfldjaaQReady
import Derived.Maps.OwnSet
import Derived.Maps.AppendAt
namespace Go.Proofs.Ytahelconmfldjaa
set_option linter.unusedSimpArgs false
set_option linter.unusedVariables false
open Go.RowKit Go.Maps

theorem lawInt : Keyed Try.prog 3 := int_keyed Try.underlying3
theorem zeroUnit (w : World) : (zeroValue 68).run Try.prog w = .ok (.agg #[]) w := by kernel_rfl

/-- The set of the first numbers of a list. -/
def Sd (ds : List Int) (n : Nat) : DataW Unit := setOf (.agg []) ((List.range n).map fun i => Lit.int .i64 (ith ds i))
theorem Sd_succ (ds : List Int) (n : Nat) : Sd ds (n + 1) = (Sd ds n).put (.int .i64 (ith ds n)) (.agg []) := by
  rw [Sd, List.range_succ, List.map_append]
  exact setOf_snoc _ _ _
theorem has_Sd (ds : List Int) (n : Nat) (x : Int) : Maps.has (Sd ds n) (.int .i64 x) = hasI ds x n := by
  rw [Sd, has_setOf _ _ _ (fun y hy => by obtain ⟨_, _, rfl⟩ := List.mem_map.1 hy; trivial), List.any_map, hasI]
  congr 1
  funext i
  show decide (IntKind.i64 = IntKind.i64 ∧ ith ds i = x) = (ith ds i == x)
  by_cases e : ith ds i = x <;> simp [e]
theorem owns_under {w w' : World} {b n : Nat} {D : DataW Unit} (h : w.ownsMap Try.prog 3 unitElem b n D) (e : w'.heap[b]? = w.heap[b]?) : w'.ownsMap Try.prog 3 unitElem b n D := by
  obtain ⟨es, clock, hb, r⟩ := h
  exact ⟨es, clock, e.trans hb, r⟩

set_option maxRecDepth 20000 in
theorem add_any (x : Int) (hx : (Lit.int .i64 x).wf = true) (w : World) (b n : Nat) (D : DataW Unit) (hown : w.ownsMap Try.prog 3 unitElem b n D) (hn : n < maxLen) :
    Calls Try.prog 26 #[.map (some b), .int .i64 x] w fun e w' => (∃ v, e = .returned v) ∧ w'.ownsMap Try.prog 3 unitElem b (n + 1) (D.put (.int .i64 x) (.agg [])) ∧ w.grownBy w' (some b) := by
  have hkey : keyOf Try.prog 3 (.int .i64 x) = some (.int .i64 x) := keyOf_int_mk Try.underlying3 hx
  go_enter Try.func26, Try.ntmps26
  go_wp2_with (at_mapUpdate; refine wpList_mapUpdate_own _ rfl _ _ _ 52 rfl 3 68 lawInt Try.underlying52 (unitElem (H := Unit)) b n D rfl hown hn _ _ _ rfl rfl hkey _ [] unitElem_mk ?_; intro w1 hown1 hgrow1)
  go_end0
  exact ⟨⟨_, rfl⟩, hown1, hgrow1⟩

set_option maxRecDepth 20000 in
theorem has_any (x : Int) (hx : (Lit.int .i64 x).wf = true) (w : World) (b n : Nat) (D : DataW Unit) (hown : w.ownsMap Try.prog 3 unitElem b n D) :
    Calls Try.prog 33 #[.map (some b), .int .i64 x] w fun e w' => e = .returned (.bool (Maps.has D (.int .i64 x))) ∧ Below w.heap.size w w' := by
  have hkey : keyOf Try.prog 3 (.int .i64 x) = some (.int .i64 x) := keyOf_int_mk Try.underlying3 hx
  go_enter Try.func33, Try.ntmps33
  go_wp2_with (at_lookup; refine wpList_lookup_own_unit _ rfl _ _ 52 rfl 3 68 lawInt Try.underlying52 (zeroUnit _) b n D rfl hown _ _ rfl hkey ?_)
  go_ret
  exact ⟨rfl, below_box _ _⟩

set_option maxRecDepth 20000 in
set_option maxHeartbeats 800000 in
theorem setOf_any (ds : List Int) (w : World) (B : Nat) (da : Option Addr) (dc : Nat) (hD : Ints w (· < B) ds da) (hB : B ≤ w.heap.size) (hwf : ∀ i, (Lit.int .i64 (ith ds i)).wf = true) :
    Calls Try.prog 25 #[.slice da ds.length dc] w fun e w' => e = .returned (.map (some w.heap.size)) ∧ w'.ownsMap Try.prog 3 unitElem w.heap.size ds.length (Sd ds ds.length) ∧ Below w.heap.size w w' ∧ w.heap.size < w'.heap.size := by
  have hmm := @run_makeMap Try.prog
  obtain ⟨h8, h1⟩ := hD
  go_enter Try.func25, Try.ntmps25
  go_wp2_with fail
  go_loopw [9] (fun i wr => ∃ k : Nat, k ≤ ds.length ∧ i = .int .i64 k ∧ wr.ownsMap Try.prog 3 unitElem w.heap.size k (Sd ds k) ∧ Below w.heap.size w wr ∧ w.heap.size < wr.heap.size) (fun i _ => ds.length - (intOf i).toNat)
  case atStart => exact ⟨0, Nat.zero_le _, rfl, World.ownsMap_made _ _ _ _, below_box _ _, by simp⟩
  case round =>
    obtain ⟨k, hk, rfl, hown, hbel, hz⟩ := hrel
    by_cases hlt : k < ds.length
    · obtain ⟨b, off, rfl, hbB, hc⟩ := h1 (by omega)
      have hki : (k : Int) < (ds.length : Int) := by omega
      have hck : wr.cell? ⟨b, off + k, none⟩ = some (.int .i64 (ith ds k)) := (hbel.cell (p := ⟨b, off + k, none⟩) (by show b < _; omega)).trans (hc k hlt)
      clear hc h1
      go_wp2_with (go_at_call 26; refine (add_any _ (hwf k) _ w.heap.size k _ hown (by unfold maxLen; omega)).mono ?_; rintro e w1 ⟨⟨v, rfl⟩, hown1, hgrow1⟩)
      go_roundw
      case rel =>
        refine ⟨k + 1, by omega, by go_num, by rw [Sd_succ]; exact hown1, hbel.grown hgrow1 hbel.size (fun j hj => by cases hj; exact Nat.le_refl _), by have := hgrow1.size; omega⟩
      case measure => simp [intOf]; omega
    · go_wp2_with fail
      go_ret
      have e : k = ds.length := by omega
      subst e
      exact ⟨rfl, hown, hbel, hz⟩

set_option maxRecDepth 20000 in
theorem waits_any (x : Int) (hx : (Lit.int .i64 x).wf = true) (w : World) (bb b n : Nat) (D : DataW Unit) (hc : w.cell? ⟨bb, 0, none⟩ = some (.map (some b))) (hown : w.ownsMap Try.prog 3 unitElem b n D) :
    Calls Try.prog 32 #[.int .i64 x, .pointer (some ⟨bb, 0, none⟩)] w fun e w' => e = .returned (.bool (!Maps.has D (.int .i64 x))) ∧ Below w.heap.size w w' := by
  go_enter Try.func32, Try.ntmps32
  go_wp2_with (go_at_call 33; refine (has_any x hx _ b n D hown).mono ?_; rintro e w1 ⟨rfl, hb1⟩)
  go_ret
  exact ⟨rfl, hb1⟩

set_option maxRecDepth 20000 in
set_option maxHeartbeats 800000 in
theorem indexFunc_any (af ds : List Int) (w : World) (B : Nat) (a : Option Addr) (c : Nat) (hI : Ints w (· < B) af a) (hB : B ≤ w.heap.size) (hwf : ∀ i, (Lit.int .i64 (ith af i)).wf = true)
    (bb b n : Nat) (hbb : bb < w.heap.size) (hc : w.cell? ⟨bb, 0, none⟩ = some (.map (some b))) (hown : w.ownsMap Try.prog 3 unitElem b n (Sd ds ds.length)) :
    Calls Try.prog 45 #[.slice a af.length c, .func (.func 32) #[] #[.pointer (some ⟨bb, 0, none⟩)]] w fun e w' => ∃ x : Int, e = .returned (.int .i64 x) ∧ decide (0 ≤ x) = !allD ds af af.length ∧ Below w.heap.size w w' := by
  obtain ⟨h8, h1⟩ := hI
  have hbl := hown.lt
  go_enter Try.func45, Try.ntmps45
  go_wp2_with fail
  go_loopw [5, 8] (fun _ i wr => ∃ k : Nat, k ≤ af.length ∧ i = .int .i64 k ∧ allD ds af k = true ∧ Below w.heap.size w wr) (fun _ i _ => af.length - (intOf i).toNat)
  case atStart => exact ⟨0, Nat.zero_le _, rfl, rfl, Below.refl _ _⟩
  case round =>
    obtain ⟨k, hk, rfl, hp, hbel⟩ := hrel
    obtain ⟨w0, rfl⟩ : ∃ x, x = wr := ⟨wr, rfl⟩
    have HP : Hid (allD ds af k = true) := hp
    clear hp
    by_cases hlt : k < af.length
    · obtain ⟨b', off, rfl, hbB, hcc⟩ := h1 (by omega)
      have hki : (k : Int) < (af.length : Int) := by omega
      have hck : w0.cell? ⟨b', off + k, none⟩ = some (.int .i64 (ith af k)) := (hbel.cell (p := ⟨b', off + k, none⟩) (by show b' < _; omega)).trans (hcc k hlt)
      have hcb : w0.cell? ⟨bb, 0, none⟩ = some (.map (some b)) := (hbel.cell (p := ⟨bb, 0, none⟩) hbb).trans hc
      have hmap : Hid (w0.ownsMap Try.prog 3 unitElem b n (Sd ds ds.length)) := owns_under hown (hbel.block b hbl)
      have HW : Hid ((Lit.int .i64 (ith af k)).wf = true) := hwf k
      have HA : Hid (allD ds af (k + 1) = (allD ds af k && hasI ds (ith af k) ds.length)) := allD_succ _ _ _
      clear hcc h1
      obtain ⟨x, hxe⟩ : ∃ x, x = ith af k := ⟨_, rfl⟩
      rw [← hxe] at hck HW HA
      have HXE : Hid (x = ith af k) := hxe
      clear hxe
      have hh : Maps.has (Sd ds ds.length) (.int .i64 x) = hasI ds x ds.length := has_Sd _ _ _
      cases hv : hasI ds x ds.length
      · rw [hv] at hh
        have HF : Hid (allD ds af af.length = false) := by
          show _ = _
          rw [allD, List.all_eq_false]
          exact ⟨k, by simpa using hlt, by rw [← HXE.out, hv]; simp⟩
        go_wp2_with (go_at_call 32; refine (waits_any x HW.out _ bb b n _ hcb hmap.out).mono ?_; rw [hh]; rintro e w1 ⟨rfl, hb1⟩)
        go_ret
        exact ⟨k, rfl, by rw [HF.out]; simp, hbel.trans (hb1.mono hbel.size)⟩
      · rw [hv] at hh
        go_wp2_with (go_at_call 32; refine (waits_any x HW.out _ bb b n _ hcb hmap.out).mono ?_; rw [hh]; rintro e w1 ⟨rfl, hb1⟩)
        go_roundw
        case rel => exact ⟨k + 1, by omega, by go_num, by rw [HA.out, HP.out, hv]; rfl, hbel.trans (hb1.mono hbel.size)⟩
        case measure => simp [intOf]; omega
    · go_wp2_with fail
      go_ret
      have e : k = af.length := by omega
      exact ⟨-1, rfl, by rw [← e, HP.out]; rfl, hbel⟩

set_option maxRecDepth 20000 in
theorem containsFunc_any (af ds : List Int) (w : World) (B : Nat) (a : Option Addr) (c : Nat) (hI : Ints w (· < B) af a) (hB : B ≤ w.heap.size) (hwf : ∀ i, (Lit.int .i64 (ith af i)).wf = true)
    (bb b n : Nat) (hbb : bb < w.heap.size) (hc : w.cell? ⟨bb, 0, none⟩ = some (.map (some b))) (hown : w.ownsMap Try.prog 3 unitElem b n (Sd ds ds.length)) :
    Calls Try.prog 34 #[.slice a af.length c, .func (.func 32) #[] #[.pointer (some ⟨bb, 0, none⟩)]] w fun e w' => e = .returned (.bool (!allD ds af af.length)) ∧ Below w.heap.size w w' := by
  go_enter Try.func34, Try.ntmps34
  go_wp2_with (go_at_call 45; refine (indexFunc_any af ds _ B a c hI hB hwf bb b n hbb hc hown).mono ?_; rintro e w1 ⟨x, rfl, hx, hb1⟩)
  go_ret
  exact ⟨ret_bool (by rw [← hx]), hb1⟩
end Go.Proofs.Ytahelconmfldjaa
