/-
  'takes' where the value has just what its sort has: its kids one by one.
-/
import Derived.Test.YtjpabpkfdahdhaaGreatTakes2
namespace Go.Proofs.YtjpabpkfdahdhaaGreat
set_option linter.unusedSimpArgs false
set_option linter.unusedVariables false
open Go.RowKit

theorem Rep.shape5 {w : World} {P : Nat → Prop} {x : V} {a0 a1 a2 a3 a4 : Value} (h : Rep w P x (.agg #[a0, a1, a2, a3, a4])) :
    ∃ (s n : Int) (t : ByteArray) (na ka : Option Addr) (nl nc kl kc : Nat), a0 = .int .i64 s ∧ a1 = .int .i64 n ∧ a2 = .string t ∧ a3 = .slice na nl nc ∧ a4 = .slice ka kl kc := by
  obtain ⟨s, n, t, ns, ks⟩ := x
  obtain ⟨na, ka, nc, kc, hv, -⟩ := h.inv
  simp only [Value.agg.injEq, Array.mk.injEq, List.cons.injEq, and_true] at hv
  obtain ⟨h0, h1, h2, h3, h4⟩ := hv
  exact ⟨s, n, t, na, ka, _, nc, _, kc, h0, h1, h2, h3, h4⟩

set_option maxHeartbeats 1600000 in
theorem takes_yes (T : TypeId) (F : FuncId) (s n : Int) (t : ByteArray) (ns : List ByteArray) (ks : List V) (IH : ∀ i, i < ks.length → TkOk (kth ks i)) (na ka : Option Addr) (nc kc : Nat) (w : World) (B rb : Nat) (d p : Int) (hs : Strs w (· < B) ns na) (hns : ns.length ≤ nc) (ht : t.size ≤ maxLen) (hK : Kids w (· < B) ks ka)
    (hB : B ≤ rb) (hrb : rb < w.heap.size) (hcell : w.cell? ⟨rb, 0, none⟩ = some (.int .i64 p)) (hfz : ∀ i, w.frozen? ⟨rb, i, none⟩ = false) (hd0 : 0 ≤ d) (hp1 : p ≤ 600) (hd2 : d ≤ 16) (hp2 : 0 < p) (e2 : (ks.length : Int) ≤ p - 1)
    (hsort : ∀ w', Calls Tryz.prog 110 #[.int .i64 s] w' fun e w'' => e = .returned (.tuple #[.iface T (.agg #[]), .bool true]) ∧ w' = w'')
    (hmeth : ∀ w', (method 302 T (.agg #[]) "loop.example/portolan/impl.holds").run Tryz.prog w' = .ok (F, .agg #[]) w')
    (hpl : plainV s n t ns ks.length = true) (hcf : ∀ args w', (callFunc F args).run Tryz.prog w' = .ok (.enter F args) w')
    (hhold : ∀ w', Strs w' (· < w'.heap.size) ns na → Calls Tryz.prog F #[.agg #[], .agg #[.int .i64 s, .int .i64 n, .string t, .slice na ns.length nc, .slice ka ks.length kc]] w' fun e w'' => e = .returned (.bool true) ∧ Below w'.heap.size w' w'') :
    Calls Tryz.prog 98 #[.pointer (some ⟨rb, 0, none⟩), .agg #[.int .i64 s, .int .i64 n, .string t, .slice na ns.length nc, .slice ka ks.length kc], .int .i64 d] w fun e w' => ∃ q : Int, e = .returned (.bool (decide (0 ≤ partsV (.mk s n t ns ks) d p))) ∧ (0 ≤ partsV (.mk s n t ns ks) d p → q = partsV (.mk s n t ns ks) d p) ∧ 0 ≤ q ∧ q ≤ 600 ∧
      w'.cell? ⟨rb, 0, none⟩ = some (.int .i64 q) ∧ (∀ i, w'.frozen? ⟨rb, i, none⟩ = false) ∧ But rb w w' := by
  have hent : ∀ w', w'.cell? ⟨rb, 0, none⟩ = some (.int .i64 p) → w'.frozen? ⟨rb, 0, none⟩ = false → Calls Tryz.prog 109 #[.pointer (some ⟨rb, 0, none⟩), .int .i64 d] w' fun e w'' => e = .returned (.bool true) ∧ w'.setCell ⟨rb, 0, none⟩ (.int .i64 (p - 1)) = w'' := fun w' h hf => enter_yes rb d p w' h hf hd2 hp2 hp1
  have hc1 : ∀ o, (w.alloc o).cell? ⟨rb, 0, none⟩ = some (.int .i64 p) := fun o => ((below_box w o).cell (p := ⟨rb, 0, none⟩) hrb).trans hcell
  have hf1 : ∀ o i, (w.alloc o).frozen? ⟨rb, i, none⟩ = false := fun o i => ((below_box w o).frozen (p := ⟨rb, i, none⟩) hrb).trans (hfz i)
  have hne : w.heap.size ≠ rb := by omega
  have hst : ∀ w', But rb w w' → Strs w' (· < w'.heap.size) ns na := fun w' h => (hs.under (h.below hB (by omega))).sub fun k hk => by have := h.size; omega
  go_enter Tryz.func98, Tryz.ntmps98
  go_wp2_with fail
  first | (go_region_with (go_at_call 109; refine (hent _ ?_ ?_).mono ?_; exact hc1 _; exact hf1 _ _; rintro e w1 ⟨rfl, rfl⟩)) | fail
  all_goals
    go_wp2_with (go_at_call 110; refine (hsort _).mono ?_; rintro e w1 ⟨rfl, rfl⟩)
    refine (hhold _ (hst _ ((((But.refl rb w).setCell 0 _).alloc _).drew))).mono ?_
    rintro e w1 ⟨rfl, hb1⟩
    have hx4 : w1.cell? ⟨w.heap.size, 4, none⟩ = some (.slice ka ks.length kc) := by rw [hb1.cell (by rw [box_size]; show w.heap.size < _; omega)]; exact box_cell4 _ _ _ _ _ _ _ _ _
    have hbut := (((But.refl rb w).setCell 0 (.int .i64 (p - 1))).alloc (.cells #[.int .i64 s, .int .i64 n, .string t, .slice na ns.length nc, .slice ka ks.length kc] 77)).drew.trans (.of_below hb1)
    have hxr : w1.cell? ⟨rb, 0, none⟩ = some (.int .i64 (p - 1)) := by rw [hb1.cell (by rw [box_size]; show rb < _; omega)]; exact set_cell w rb _ _ _ hrb hcell
    have hxf : ∀ i, w1.frozen? ⟨rb, i, none⟩ = false := fun i => by rw [hb1.frozen (by rw [box_size]; show rb < _; omega)]; exact set_frozen w rb _ _ hrb hfz i
    clear hb1
    go_wp2_with fail
    have h3 := hK.1
    obtain ⟨-, b, off, C, hka, hc, hr⟩ := hK
    clear hmeth hcf hhold hsort hent hc1 hf1 hst
    go_loopw [42] (fun i wr => ∃ (k : Nat) (q : Int), k ≤ ks.length ∧ i = .int .i64 k ∧ partsL (ks.take k) (d + 1) (p - 1) = q ∧ 0 ≤ q ∧ But rb w wr ∧ wr.cell? ⟨rb, 0, none⟩ = some (.int .i64 q) ∧ (∀ i, wr.frozen? ⟨rb, i, none⟩ = false)) (fun i _ => ks.length - (intOf i).toNat)
    case atStart => exact ⟨0, _, Nat.zero_le _, rfl, by simp [partsL_nil], by omega, hbut, hxr, hxf⟩
    case round =>
      clear hbut hxr hxf hx4
      obtain ⟨k, q, hk, rfl, hq, hq0, hbut, hxr, hxf⟩ := hrel
      have HQ : Hid (partsL (ks.take k) (d + 1) (p - 1) = q) := hq
      have hq1 : q ≤ 600 := by have := partsL_bd (ks.take k) (d + 1) (p - 1) (by omega); omega
      clear hq
      have hsz := hbut.size
      by_cases hlt : k < ks.length
      · obtain ⟨rfl, hbB⟩ := hka (by intro e; simp [e] at hlt)
        have hrk := hr k hlt
        obtain ⟨s', n', t', na', ka', nl', nc', kl', kc', j0, j1, j2, j3, j4⟩ := hrk.shape5
        have hck : ∀ j, j < 5 → wr.cell? ⟨b, off + k * 5 + j, none⟩ = some (C k j) := fun j hj => (hbut.cell (p := ⟨b, off + k * 5 + j, none⟩) (by show b < _; omega) (by show b ≠ _; omega)).trans (hc k hlt j hj)
        have hc0 : wr.cell? ⟨b, off + k * 5, none⟩ = some (C k 0) := hck 0 (by omega)
        have hc1 := hck 1 (by omega)
        have hc2 := hck 2 (by omega)
        have hc3 := hck 3 (by omega)
        have hc4 := hck 4 (by omega)
        rw [j0] at hc0 hrk
        rw [j1] at hc1 hrk
        rw [j2] at hc2 hrk
        rw [j3] at hc3 hrk
        rw [j4] at hc4 hrk
        have hxr' : ∀ o, (wr.alloc o).cell? ⟨rb, 0, none⟩ = some (.int .i64 q) := fun o => ((below_box wr o).cell (p := ⟨rb, 0, none⟩) (by show rb < _; omega)).trans hxr
        have hxf' : ∀ o i, (wr.alloc o).frozen? ⟨rb, i, none⟩ = false := fun o i => ((below_box wr o).frozen (p := ⟨rb, i, none⟩) (by show rb < _; omega)).trans (hxf i)
        have hih := fun o => IH k hlt (wr.alloc o) B rb _ (d + 1) q (hrk.under ((hbut.alloc o).below hB (by omega))) hB (by simp; omega) (hxr' o) (hxf' o) (by omega) (by omega) hq0 hq1
        clear hck hc j0 j1 j2 j3 j4
        by_cases hpos : 0 ≤ partsV (kth ks k) (d + 1) q
        · have hdec : decide (0 ≤ partsV (kth ks k) (d + 1) q) = true := by simpa using hpos
          have HPOS : Hid (0 ≤ partsV (kth ks k) (d + 1) q) := hpos
          rw [hdec] at hih
          clear hdec hpos
          go_wp2_with (go_at_call 98; refine (hih _).mono ?_; rintro e w2 ⟨q2, rfl, hq2, hq20, hq21, hr2, hf2, hb2⟩)
          go_roundw
          case rel =>
            have e2 := hq2 HPOS.out
            exact ⟨k + 1, q2, by omega, by go_num, by rw [partsL_succ ks k hlt _ _ (by rw [HQ.out]; exact hq0), HQ.out, e2], hq20, (hbut.alloc _).trans hb2, hr2, hf2⟩
          case measure => simp [intOf]; omega
        · have hdec : decide (0 ≤ partsV (kth ks k) (d + 1) q) = false := by simpa using hpos
          have hfin : Hid (decide (0 ≤ partsV (.mk s n t ns ks) d p) = false ∧ ¬ 0 ≤ partsV (.mk s n t ns ks) d p) := by
            have e1 : partsL (ks.take (k + 1)) (d + 1) (p - 1) = partsV (kth ks k) (d + 1) q := by rw [partsL_succ ks k hlt _ _ (by rw [HQ.out]; exact hq0), HQ.out]
            have e2 := partsL_stop ks (k + 1) (d + 1) (p - 1) (by omega)
            have e3 : partsV (.mk s n t ns ks) d p = partsL ks (d + 1) (p - 1) := by rw [partsV_eq, if_neg (by rw [hpl]; simp; omega)]
            exact ⟨by simp; omega, by omega⟩
          rw [hdec] at hih
          clear hdec hpos
          go_wp2_with (go_at_call 98; refine (hih _).mono ?_; rintro e w2 ⟨q2, rfl, hq2, hq20, hq21, hr2, hf2, hb2⟩)
          go_ret
          have hneg : partsV (.mk s n t ns ks) d p < 0 := by have := hfin.out.2; omega
          exact ⟨q2, ret_bool hfin.out.1.symm, fun h => by omega, hq20, hq21, hr2, hf2, (hbut.alloc _).trans hb2⟩
      · go_wp2_with fail
        go_ret
        have e : k = ks.length := by omega
        have e3 : partsV (.mk s n t ns ks) d p = q := by rw [partsV_eq, if_neg (by rw [hpl]; simp; omega), ← HQ.out, e, List.take_length]
        exact ⟨ret_bool (by rw [e3]; simpa using hq0), q, fun _ => e3.symm, hq0, hq1, hxr, hxf, hbut⟩

theorem cf_of {f : FuncId} {fn : Func} {c : Code} (hf : Tryz.prog.funcs[f]? = some fn) (hname : (fn.name == "runtime.NumGoroutine") = false) (hb : fn.body = some c) : ∀ args w', (callFunc f args).run Tryz.prog w' = .ok (.enter f args) w' := fun args w' => by
  have h1 : fn.name ≠ "runtime.NumGoroutine" := by simpa using hname
  simp [callFunc, hf, h1, hb]
end Go.Proofs.YtjpabpkfdahdhaaGreat
