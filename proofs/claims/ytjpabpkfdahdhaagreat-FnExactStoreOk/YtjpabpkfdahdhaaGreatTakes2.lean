/-
  'takes' where there is room.
-/
import Derived.Test.YtjpabpkfdahdhaaGreatTakes
namespace Go.Proofs.YtjpabpkfdahdhaaGreat
set_option linter.unusedSimpArgs false
set_option linter.unusedVariables false
open Go.RowKit

theorem box_cell4 (w : World) (rb : Nat) (v c0 c1 c2 c3 c4 : Value) (T : TypeId) : ((w.setCell ⟨rb, 0, none⟩ v).alloc (.cells #[c0, c1, c2, c3, c4] T)).drew.cell? ⟨w.heap.size, 4, none⟩ = some c4 := by
  have h := (World.rowIs_alloc (w.setCell ⟨rb, 0, none⟩ v) #[c0, c1, c2, c3, c4] T (fun i => #[c0, c1, c2, c3, c4][i]?.getD undef) (fun i hi => by rw [Array.getElem?_eq_getElem hi]; rfl)).cell (i := 4) (by simp)
  rw [size_set] at h
  exact h
theorem set_cell (w : World) (rb : Nat) (v u : Value) (o : Obj) (hrb : rb < w.heap.size) (hc : w.cell? ⟨rb, 0, none⟩ = some u) : ((w.setCell ⟨rb, 0, none⟩ v).alloc o).drew.cell? ⟨rb, 0, none⟩ = some v := by
  have h1 : (w.setCell ⟨rb, 0, none⟩ v).cell? ⟨rb, 0, none⟩ = some v := by go_simp
  exact ((below_box _ o).cell (p := ⟨rb, 0, none⟩) (by rw [size_set]; exact hrb)).trans h1
theorem set_frozen (w : World) (rb : Nat) (v : Value) (o : Obj) (hrb : rb < w.heap.size) (hf : ∀ i, w.frozen? ⟨rb, i, none⟩ = false) (i : Nat) : ((w.setCell ⟨rb, 0, none⟩ v).alloc o).drew.frozen? ⟨rb, i, none⟩ = false := by
  have h1 : (w.setCell ⟨rb, 0, none⟩ v).frozen? ⟨rb, i, none⟩ = false := by go_simp
  exact ((below_box _ o).frozen (p := ⟨rb, i, none⟩) (by rw [size_set]; exact hrb)).trans h1
theorem box_size (w : World) (rb : Nat) (v : Value) (o : Obj) : ((w.setCell ⟨rb, 0, none⟩ v).alloc o).drew.heap.size = w.heap.size + 1 := by
  show ((w.setCell ⟨rb, 0, none⟩ v).heap.push o).size = _
  rw [Array.size_push, size_set]

set_option maxHeartbeats 1600000 in
theorem takes_bad (T : TypeId) (F : FuncId) (s n : Int) (t : ByteArray) (ns : List ByteArray) (ks : List V) (na ka : Option Addr) (nc kc : Nat) (w : World) (B rb : Nat) (d p : Int) (hs : Strs w (· < B) ns na) (hns : ns.length ≤ nc) (ht : t.size ≤ maxLen)
    (hB : B ≤ rb) (hrb : rb < w.heap.size) (hcell : w.cell? ⟨rb, 0, none⟩ = some (.int .i64 p)) (hfz : ∀ i, w.frozen? ⟨rb, i, none⟩ = false) (hd0 : 0 ≤ d) (hp1 : p ≤ 600) (hd2 : d ≤ 16) (hp2 : 0 < p) (e2 : (ks.length : Int) ≤ p - 1)
    (hsort : ∀ w', Calls Tryz.prog 110 #[.int .i64 s] w' fun e w'' => e = .returned (.tuple #[.iface T (.agg #[]), .bool true]) ∧ w' = w'')
    (hmeth : ∀ w', (method 302 T (.agg #[]) "loop.example/portolan/impl.holds").run Tryz.prog w' = .ok (F, .agg #[]) w')
    (hpl : plainV s n t ns ks.length = false) (hcf : ∀ args w', (callFunc F args).run Tryz.prog w' = .ok (.enter F args) w')
    (hhold : ∀ w', Strs w' (· < w'.heap.size) ns na → Calls Tryz.prog F #[.agg #[], .agg #[.int .i64 s, .int .i64 n, .string t, .slice na ns.length nc, .slice ka ks.length kc]] w' fun e w'' => e = .returned (.bool false) ∧ Below w'.heap.size w' w'') :
    Calls Tryz.prog 98 #[.pointer (some ⟨rb, 0, none⟩), .agg #[.int .i64 s, .int .i64 n, .string t, .slice na ns.length nc, .slice ka ks.length kc], .int .i64 d] w fun e w' => ∃ q : Int, e = .returned (.bool (decide (0 ≤ partsV (.mk s n t ns ks) d p))) ∧ (0 ≤ partsV (.mk s n t ns ks) d p → q = partsV (.mk s n t ns ks) d p) ∧ 0 ≤ q ∧ q ≤ 600 ∧
      w'.cell? ⟨rb, 0, none⟩ = some (.int .i64 q) ∧ (∀ i, w'.frozen? ⟨rb, i, none⟩ = false) ∧ But rb w w' := by
  have hent : ∀ w', w'.cell? ⟨rb, 0, none⟩ = some (.int .i64 p) → w'.frozen? ⟨rb, 0, none⟩ = false → Calls Tryz.prog 109 #[.pointer (some ⟨rb, 0, none⟩), .int .i64 d] w' fun e w'' => e = .returned (.bool true) ∧ w'.setCell ⟨rb, 0, none⟩ (.int .i64 (p - 1)) = w'' := fun w' h hf => enter_yes rb d p w' h hf hd2 hp2 hp1
  have hc1 : ∀ o, (w.alloc o).cell? ⟨rb, 0, none⟩ = some (.int .i64 p) := fun o => ((below_box w o).cell (p := ⟨rb, 0, none⟩) hrb).trans hcell
  have hf1 : ∀ o i, (w.alloc o).frozen? ⟨rb, i, none⟩ = false := fun o i => ((below_box w o).frozen (p := ⟨rb, i, none⟩) hrb).trans (hfz i)
  have hne : w.heap.size ≠ rb := by omega
  have hst : ∀ w', But rb w w' → Strs w' (· < w'.heap.size) ns na := fun w' h => (hs.under (h.below hB (by omega))).sub fun k hk => by have := h.size; omega
  have hpv : partsV (.mk s n t ns ks) d p = -1 := by rw [partsV_eq, if_pos (Or.inr (Or.inr hpl))]
  rw [hpv]
  go_enter Tryz.func98, Tryz.ntmps98
  go_wp2_with fail
  first | (go_region_with (go_at_call 109; refine (hent _ ?_ ?_).mono ?_; exact hc1 _; exact hf1 _ _; rintro e w1 ⟨rfl, rfl⟩)) | fail
  all_goals
    go_wp2_with (go_at_call 110; refine (hsort _).mono ?_; rintro e w1 ⟨rfl, rfl⟩)
    refine (hhold _ (hst _ ((((But.refl rb w).setCell 0 _).alloc _).drew))).mono ?_
    rintro e w1 ⟨rfl, hb1⟩
    have hx4 : w1.cell? ⟨w.heap.size, 4, none⟩ = some (.slice ka ks.length kc) := by rw [hb1.cell (by rw [box_size]; show w.heap.size < _; omega)]; exact box_cell4 _ _ _ _ _ _ _ _ _
    have hbut := (((But.refl rb w).setCell 0 (.int .i64 (p - 1))).alloc (.cells #[.int .i64 s, .int .i64 n, .string t, .slice na ns.length nc, .slice ka ks.length kc] 77)).drew.trans (.of_below hb1)
    have hxr : w1.cell? ⟨rb, 0, none⟩ = some (.int .i64 (p - 1)) := by rw [hb1.cell (by rw [box_size]; show rb < _; omega)]; exact set_cell w rb _ _ _ hrb hcell
    have hxf : ∀ i, w1.frozen? ⟨rb, i, none⟩ = false := fun i => by rw [hb1.frozen (by rw [box_size]; show rb < _; omega)]; exact set_frozen w rb _ _ hrb hfz i
    clear hb1
    go_wp2_with fail
    go_ret
    exact ⟨p - 1, rfl, fun h => by omega, by omega, by omega, hxr, hxf, hbut⟩

end Go.Proofs.YtjpabpkfdahdhaaGreat
