/-
  What fits, by the program.
-/
import Derived.Test.YtjpabpkfdahdhaaGreatSPure
import Derived.Test.YtjpabpkfdahdhaaGreatTakes5
import Derived.Test.YtjpabpkfdahdhaaGreatIFind
import Derived.Deep.RegionHeld3
namespace Go.Proofs.YtjpabpkfdahdhaaGreat
set_option linter.unusedSimpArgs false
set_option linter.unusedVariables false
open Go.RowKit

/-- What two boxes hold in whatever later world. -/
theorem boxes2 {w W : World} {A1 A2 : Array Value} {T1 T2 : TypeId} (h : Below (w.heap.size + 1 + 1) ((w.alloc (.cells A1 T1)).alloc (.cells A2 T2)) W) :
    (∀ i (hi : i < A1.size), W.cell? ⟨w.heap.size, i, none⟩ = some A1[i]) ∧ (∀ i (hi : i < A2.size), W.cell? ⟨w.heap.size + 1, i, none⟩ = some A2[i]) ∧ Below w.heap.size w W ∧ w.heap.size + 1 < W.heap.size := by
  have hz := h.size
  simp at hz
  refine ⟨fun i hi => (h.cell (p := ⟨w.heap.size, i, none⟩) (by show w.heap.size < _; omega)).trans (((below_box _ _).cell (p := ⟨w.heap.size, i, none⟩) (by show w.heap.size < _; simp)).trans (box_new _ _ i hi)), fun i hi => (h.cell (p := ⟨w.heap.size + 1, i, none⟩) (by show w.heap.size + 1 < _; omega)).trans ?_, (below_box2 w _ _).trans (h.mono (by omega)), by omega⟩
  have := box_new (w := w.alloc (.cells A1 T1)) A2 T2 i hi
  rw [show (w.alloc (.cells A1 T1)).heap.size = w.heap.size + 1 by simp] at this
  exact this
theorem Rep.heads {w : World} {P : Nat → Prop} {x : V} {a0 a1 a2 a3 a4 : Value} (h : Rep w P x (.agg #[a0, a1, a2, a3, a4])) :
    ∃ (na ka : Option Addr) (nc kc : Nat), a0 = .int .i64 x.sort ∧ a1 = .int .i64 x.num ∧ a2 = .string x.text ∧ a3 = .slice na x.names.length nc ∧ a4 = .slice ka x.kids.length kc := by
  obtain ⟨s, n, t, ns, ks⟩ := x
  obtain ⟨na, ka, nc, kc, hv, -⟩ := h.inv
  simp only [Value.agg.injEq, Array.mk.injEq, List.cons.injEq, and_true] at hv
  exact ⟨na, ka, nc, kc, hv⟩

theorem sortOfWord_any (s : ByteArray) (w : World) :
    Calls Tryz.prog 73 #[.string s] w fun e w' => e = .returned (.int .i64 (sortW s)) ∧ w = w' := by
  cases h1 : (s.toList == [116, 101, 120, 116])
  · cases h2 : (s.toList == [98, 111, 111, 108])
    all_goals
      go_enter Tryz.func73, Tryz.ntmps73
      go_wp2_with fail
      go_ret
      exact ⟨ret_int (by simp [sortW, isT, h1, h2]), rfl⟩
  · go_enter Tryz.func73, Tryz.ntmps73
    go_wp2_with fail
    go_ret
    exact ⟨ret_int (by simp [sortW, isT, h1]), rfl⟩

theorem isNumber_any (s n : Int) (c2 c3 c4 : Value) (id : Int) (w : World) :
    Calls Tryz.prog 41 #[.agg #[.int .i64 s, .int .i64 n, c2, c3, c4], .int .i64 id] w fun e w' => e = .returned (.bool (s == 3 && n == id)) ∧ Below w.heap.size w w' := by
  cases h1 : (s == 3)
  all_goals
    go_enter Tryz.func41, Tryz.ntmps41
    go_wp2_with fail
    go_ret
    exact ⟨ret_bool (by simp), below_box _ _⟩

set_option maxHeartbeats 1600000 in
theorem isFitList_any (f : F) (x : V) (w : World) (B : Nat) (u v : Value) (hF : FRep w (· < B) f u) (hR : Rep w (· < B) x v) (hB : B ≤ w.heap.size) :
    Calls Tryz.prog 74 #[u, v] w fun e w' => e = .returned (.bool (listI f.of x)) ∧ Below w.heap.size w w' := by
  have hR' := hR
  obtain ⟨s, n, t, ns, ks⟩ := x
  obtain ⟨na, ka, nc, kc, rfl, -, -, -, -, hK⟩ := hR.inv
  obtain ⟨fa, fc, rfl, -⟩ := hF
  have hJ := fun W (hb : Below w.heap.size w W) => implOk_any (.mk s n t ns ks) W B _ (hR'.under (hb.mono hB)) (by have := hb.size; omega)
  have hbx : ∀ o1 o2, Below w.heap.size w ((w.alloc o1).alloc o2) := below_box2 w
  cases h5 : (s == 5)
  · have h5' : (s != 5) = true := by simp only [bne, h5]; rfl
    go_enter Tryz.func74, Tryz.ntmps74
    go_wp2_with fail
    go_ret
    exact ⟨ret_bool (by simp [listI, h5]), hbx _ _⟩
  have h5' : (s != 5) = false := by simp only [bne, h5]; rfl
  by_cases h3 : ks.length ≤ 3
  case neg =>
    have h3' : (3 : Int) < (ks.length : Int) := by omega
    go_enter Tryz.func74, Tryz.ntmps74
    go_wp2_with fail
    go_ret
    exact ⟨ret_bool (by simp [listI, h3]), hbx _ _⟩
  have h3' : ¬ (3 : Int) < (ks.length : Int) := by omega
  have h3'' : decide ((3 : Int) < (ks.length : Int)) = false := by simp; omega
  cases ho : okV (.mk s n t ns ks)
  · rw [ho] at hJ
    go_enter Tryz.func74, Tryz.ntmps74
    go_wp2_with (go_at_call 72; refine (hJ _ (hbx _ _)).mono ?_; rintro e w1 ⟨rfl, hb1⟩)
    go_ret
    exact ⟨ret_bool (by simp [listI, ho]), (hbx _ _).trans (hb1.mono (by simp; omega))⟩
  rw [ho] at hJ
  have HL : Hid (listI f.of (.mk s n t ns ks) = kidsI f.of ks ks.length) := by show _ = _; simp [listI, h5, h3, ho]
  obtain ⟨h80, b, off, C, hka, hc, hr⟩ := hK
  obtain ⟨X, hXe⟩ : ∃ X, X = ((w.alloc (.cells #[.string f.name, .string f.of, .bool f.list, .bool f.must, .bool f.far, .bool f.hidden, .bool f.shared, .slice fa f.needs.length fc] 73)).alloc (.cells #[.int .i64 s, .int .i64 n, .string t, .slice na ns.length nc, .slice ka ks.length kc] 77)) := ⟨_, rfl⟩
  have TB : ∀ W, Below (w.heap.size + 1 + 1) X W → W.cell? ⟨w.heap.size, 1, none⟩ = some (.string f.of) ∧ W.cell? ⟨w.heap.size + 1, 4, none⟩ = some (.slice ka ks.length kc) ∧ Below w.heap.size w W ∧ w.heap.size + 1 < W.heap.size := fun W h => by
    obtain ⟨h1, h2, h3, h4⟩ := boxes2 (by rw [← hXe]; exact h)
    exact ⟨h1 1 (by simp), h2 4 (by simp), h3, h4⟩
  have hT0 : Below (w.heap.size + 1 + 1) X ((w.alloc (.cells #[.string f.name, .string f.of, .bool f.list, .bool f.must, .bool f.far, .bool f.hidden, .bool f.shared, .slice fa f.needs.length fc] 73)).alloc (.cells #[.int .i64 s, .int .i64 n, .string t, .slice na ns.length nc, .slice ka ks.length kc] 77)) := by rw [hXe]; exact Below.refl _ _
  clear hXe
  go_enter Tryz.func74, Tryz.ntmps74
  go_wp2_with (
    go_at_call 72
    refine (hJ _ (hbx _ _)).mono ?_
    rintro e w1 ⟨rfl, hb1⟩
    have hT1 := hT0.trans (hb1.mono (by simp))
    obtain ⟨p1, p4, hw1, hz1⟩ := TB w1 hT1)
  clear p1 p4 hw1 hz1 hb1 hT0 hJ
  go_loopw [24] (fun i wr => ∃ k : Nat, k ≤ ks.length ∧ i = .int .i64 k ∧ Below (w.heap.size + 1 + 1) X wr ∧ kidsI f.of ks k = true) (fun i _ => ks.length - (intOf i).toNat)
  case atStart => exact ⟨0, Nat.zero_le _, rfl, hT1, rfl⟩
  case round =>
    clear hT1
    obtain ⟨k, hk, rfl, hT, hp⟩ := hrel
    obtain ⟨w0, rfl⟩ : ∃ x, x = wr := ⟨wr, rfl⟩
    have HP : Hid (kidsI f.of ks k = true) := hp
    clear hp
    obtain ⟨p1, p4, hbel, hz0⟩ := TB w0 hT
    by_cases hlt : k < ks.length
    · have hki : (k : Int) < (ks.length : Int) := by omega
      obtain ⟨rfl, hbB⟩ := hka (by intro e; simp [e] at hlt)
      obtain ⟨na2, ka2, nc2, kc2, e0, e1, e2, e3, e4⟩ := (hr k hlt).heads
      have hck : ∀ j, j < 5 → w0.cell? ⟨b, off + k * 5 + j, none⟩ = some (C k j) := fun j hj => (hbel.cell (p := ⟨b, off + k * 5 + j, none⟩) (by show b < _; omega)).trans (hc k hlt j hj)
      have hc0 : w0.cell? ⟨b, off + k * 5, none⟩ = some (C k 0) := hck 0 (by omega)
      have hc1 := hck 1 (by omega)
      have hc2 := hck 2 (by omega)
      have hc3 := hck 3 (by omega)
      have hc4 := hck 4 (by omega)
      rw [e0] at hc0
      rw [e1] at hc1
      rw [e2] at hc2
      rw [e3] at hc3
      rw [e4] at hc4
      clear hck hc hr hka e0 e1 e2 e3 e4
      have HB := hT.alloc (by omega) (.cells #[.int .i64 (kth ks k).sort, .int .i64 (kth ks k).num, .string (kth ks k).text, .slice na2 (kth ks k).names.length nc2, .slice ka2 (kth ks k).kids.length kc2] 77)
      obtain ⟨p1', -, hbel', -⟩ := TB _ HB
      have HS : Hid (kidsI f.of ks (k + 1) = ((kth ks k).sort == 1 || (kth ks k).sort == sortW f.of)) := by show _ = _; rw [kidsI_succ, HP.out, Bool.true_and]
      have HF : Hid (((kth ks k).sort == 1 || (kth ks k).sort == sortW f.of) = false → kidsI f.of ks ks.length = false) := kidsI_false f.of ks _ k hlt
      have hso : ∀ W, Calls Tryz.prog 73 #[.string f.of] W fun e w' => e = .returned (.int .i64 (sortW f.of)) ∧ w' = W := fun W => (sortOfWord_any f.of W).mono fun _ _ h => ⟨h.1, h.2.symm⟩
      generalize sortW f.of = sw at HS HF hso
      cases q1 : ((kth ks k).sort == 1)
      · have q1' : ((kth ks k).sort != 1) = true := by simp only [bne, q1]; rfl
        cases q2 : ((kth ks k).sort == sw)
        · have q2' : ((kth ks k).sort != sw) = true := by simp only [bne, q2]; rfl
          go_wp2_with fail
          go_quiet (first | (go_at_call 73; exact Calls.quiet_of_same (hso _)))
          go_wp2_with fail
          go_ret
          exact ⟨ret_bool (by rw [HL.out, HF.out (by rw [q1, q2]; rfl)]), below_drews hbel' _⟩
        · have q2' : ((kth ks k).sort != sw) = false := by simp only [bne, q2]; rfl
          go_wp2_with fail
          go_quiet (first | (go_at_call 73; exact Calls.quiet_of_same (hso _)))
          go_wp2_with fail
          go_roundw
          case rel => exact ⟨k + 1, by omega, by go_num, below_drews HB _, by rw [HS.out, q1, q2]; rfl⟩
          case measure => simp [intOf]; omega
      · have q1' : ((kth ks k).sort != 1) = false := by simp only [bne, q1]; rfl
        go_wp2_with fail
        go_quiet (fail)
        go_wp2_with fail
        go_roundw
        case rel => exact ⟨k + 1, by omega, by go_num, below_drews HB _, by rw [HS.out, q1]; rfl⟩
        case measure => simp [intOf]; omega
    · go_wp2_with fail
      go_ret
      have e : k = ks.length := by omega
      exact ⟨ret_bool (by rw [HL.out, ← e, HP.out]), hbel⟩
end Go.Proofs.YtjpabpkfdahdhaaGreat
