import Derived.Test.YtdohgkokoicjlaaB39
import Derived.Test.YtdohgkokoicjlaaB36
import Derived.Test.YtdohgkokoicjlaaB40
import Derived.Test.YtdohgkokoicjlaaB19
import Derived.Deep.RegionHeld3
set_option linter.unusedSimpArgs false
set_option linter.unusedVariables false
namespace Go.Proofs.Ytdohgkokoicjlaa
open Go.RowKit
theorem szOsTo_all (os : List O) (M : Nat) : ∀ n, (∀ i, i < n → szO (oth os i) ≤ M) → szOsTo os n ≤ n * M
  | 0, _ => by simp [szOsTo]
  | n + 1, h => by
    have h1 := szOsTo_all os M n fun i hi => h i (by omega)
    have h2 := h n (by omega)
    rw [szOsTo_succ, Nat.succ_mul]
    omega
theorem name_le {s : ByteArray} (h : nameB s = true) : s.size ≤ 8 := by
  simp only [nameB, Bool.and_eq_true, decide_eq_true_eq] at h
  simp [h]
theorem fcT_ok {p : Pt} (h : okP p = true) : ∀ k, k ≤ p.types.length → fcT p k ≤ k * 9
  | 0, _ => Nat.le_refl _
  | k + 1, hk => by
    have h1 := fcT_ok h k (by omega)
    have h2 := (code_names (okP_all h (i := k) (by omega))).2.1
    rw [fcT, Nat.succ_mul]
    omega
theorem chartC_sz (ps : List Pt) : szC (chartC ps) ≤ 1048576 := by
  unfold chartC
  by_cases h : chartB ps okP = true
  · rw [if_pos h]
    have h2 : chartB ps okP = (partsOkB ps okP && okP (allM ps)) := by first | rfl | (unfold chartB; rfl)
    rw [h2, Bool.and_eq_true] at h
    obtain ⟨hp1, hp4, -⟩ := partsOk_ok h.1
    have hok := h.2
    have hz := (okP_sz _ hok).1
    have h5 := (okP_sz _ hok).2
    have hl := ownT_len ps (allM ps) (allM ps).types.length
    have hf := fcT_ok hok _ (Nat.le_refl _)
    have ho : ∀ i, i < (ownT ps (allM ps) (allM ps).types.length).length → szO (oth (ownT ps (allM ps) (allM ps).types.length) i) ≤ 20 := fun i hi => by
      have hm : oth (ownT ps (allM ps) (allM ps).types.length) i ∈ ownT ps (allM ps) (allM ps).types.length := by simp [oth, List.getD_eq_getElem?_getD, hi]
      obtain ⟨k, j, hk, hj, e⟩ := ownT_mem.1 hm
      rw [e]
      have ht := okP_typeNames hok hk
      simp only [typeNamesB, Bool.and_eq_true] at ht
      have h8 := name_le ht.1.1.1.1
      have hfn := (List.all_eq_true.1 ht.2) j (by simpa using hj)
      simp only [fieldNamesB, Bool.and_eq_true] at hfn
      have h9 := name_le hfn.1.1
      have h10 : (ownersM ps (tth (allM ps).types k).name (fth (tth (allM ps).types k).fields j).name).length ≤ ps.length := ownersTo_len _ _ _ _
      simp only [szO, ownO, szIs, List.length_map]
      omega
    have hs := szOsTo_all _ 20 _ ho
    show szP (allM ps) + ((ownT ps (allM ps) (allM ps).types.length).length + szOsTo (ownT ps (allM ps) (allM ps).types.length) (ownT ps (allM ps) (allM ps).types.length).length) ≤ _
    omega
  · rw [if_neg h]
    decide
end Go.Proofs.Ytdohgkokoicjlaa
namespace Go.Proofs.Ytdohgkokoicjlaa
open Go.RowKit Go.Maps
attribute [local go_sem] Oper.semAt_some
theorem dtResult (FW : World) (tmps : Array Value) (N : Nat) (v0 v1 v2 : Value) (h2 : tmps.getD 2 undef = .pointer (some ⟨N, 0, none⟩))
    (d0 : FW.cell? ⟨N, 0, none⟩ = some v0) (d1 : FW.cell? ⟨N, 1, none⟩ = some v1) (d2 : FW.cell? ⟨N, 2, none⟩ = some v2) :
    (results Try.f12 tmps).run Try.prog FW = .ok (.agg #[v0, v1, v2]) FW := by
  simp only [Array.getD_eq_getD_getElem?] at h2
  simp [results, Try.results12, go_sem, h2, d0, d1, d2]
theorem doResult (FW : World) (tmps : Array Value) (N : Nat) (v0 v1 v2 s1 s2 : Value) (h2 : tmps.getD 2 undef = .pointer (some ⟨N, 0, none⟩)) (h3 : tmps.getD 3 undef = s1) (h4 : tmps.getD 4 undef = s2)
    (d0 : FW.cell? ⟨N, 0, none⟩ = some v0) (d1 : FW.cell? ⟨N, 1, none⟩ = some v1) (d2 : FW.cell? ⟨N, 2, none⟩ = some v2) :
    (results Try.f5 tmps).run Try.prog FW = .ok (.tuple #[.agg #[v0, v1, v2], s1, s2]) FW := by
  simp only [Array.getD_eq_getD_getElem?] at h2 h3 h4
  simp [results, Try.results5, go_sem, h2, h3, h4, d0, d1, d2]
theorem sets3_box {w : World} {N : Nat} {a b c : Value} {T : TypeId} (hb : w.heap[N]? = some (.cells #[a, b, c] T (0, 0))) (v0 v1 v2 : Value) :
    (((w.setCell ⟨N, 0, none⟩ v0).setCell ⟨N, 1, none⟩ v1).setCell ⟨N, 2, none⟩ v2).heap[N]? = some (.cells #[v0, v1, v2] T (0, 0)) := by
  simpa using set_box (set_box (set_box hb 0 v0) 1 v1) 2 v2
def CodeNew (w : World) (cb : Nat) (v : Value) (n : Nat) : Prop := ∀ o, CodeOk (w.alloc o) cb v n
def ChartEnd (w : World) (v : Value) (w' : World) : Prop := ∃ ps : List Pt, CRep w' (fun b => w.heap.size ≤ b ∧ b < w'.heap.size) (chartC ps) v ∧ Below w.heap.size w w'
theorem CodeOk.below {w w' : World} {cb n : Nat} {v : Value} (h : CodeOk w cb v n) (hb : Below w.heap.size w w') : CodeOk w' cb v n := by
  obtain ⟨a, c, off, h1, h2, h3, h4, h5, h6, h7⟩ := h
  exact ⟨a, c, off, h1, h2, h3, by have := hb.size; omega, h5, h6, fun i hi => by obtain ⟨x, hx, hc⟩ := h7 i hi; exact ⟨x, hx, (hb.cell (p := ⟨cb, off + i, none⟩) h4).trans hc⟩⟩
theorem make_drawn (w1 : World) : ∀ (w2 : World) (ps : List Pt) (a : Option Addr) (c : Nat), PsRep w2 (fun b => w1.heap.size ≤ b ∧ b < w2.heap.size) ps a → (∀ i, i < ps.length → szP (pth ps i) ≤ 900000) → w1.heap.size ≤ w2.heap.size → Calls Try.prog 17 #[.slice a ps.length c] w2 fun e w3 => ∃ (s0 : ByteArray) (ta oa : Option Addr) (tl tc ol oc : Nat) (at' : Int) (ty fl : ByteArray) (code : Int), e = .returned (.tuple #[.agg #[.string s0, .slice ta tl tc, .slice oa ol oc], .agg #[.int .i64 at', .string ty, .string fl, .int .i64 code]]) ∧ Below w2.heap.size w2 w3 ∧ CRep w3 (fun b => w1.heap.size ≤ b ∧ b < w3.heap.size) (chartC ps) (.agg #[.string s0, .slice ta tl tc, .slice oa ol oc]) := fun w2 ps a c hP hz h12 =>
  (ChartMakeC_any ps w2 w1.heap.size w2.heap.size a c hP (Nat.le_refl _) fun i hi => Nat.le_trans (hz i hi) (by omega)).mono fun e w3 h => by
    obtain ⟨v, at', ty, fl, code, rfl, -, hb, hC⟩ := h
    have hC' := hC
    obtain ⟨ta, oa, tc, oc, rfl, -⟩ := hC'
    have hz := hb.size
    exact ⟨_, ta, oa, _, tc, _, oc, at', ty, fl, code, rfl, hb, hC.sub fun b hb => by omega⟩
set_option maxRecDepth 20000 in
set_option maxHeartbeats 3200000 in
theorem DrawChartText_any (w : World) (cb n : Nat) (v : Value) (h : CodeNew w cb v n) (hn : n ≤ 1048576) :
    Calls Try.prog 12 #[v] w fun e w' => ∃ v', e = .returned v' ∧ ChartEnd w v' w' := by
  have HOP := hid_of (l1Open_any (w.alloc (.cells #[.string ⟨#[]⟩, .slice none 0 0, .slice none 0 0] 28)) cb n v (h _) hn)
  clear h
  go_enter Try.func12, Try.ntmps12
  go_upto_region 2 with (
    go_at_call 16
    refine HOP.out.mono ?_
    rintro e w1 ⟨rb, rfl, hrb, hR, hb1⟩)
  have hrb' : w.heap.size + 1 ≤ rb := by simpa using hrb
  have bx1 := (hb1.block w.heap.size (by simp)).trans (block_new (w := w) #[.string ⟨#[]⟩, .slice none 0 0, .slice none 0 0] 28 rfl)
  have b1 : Below w.heap.size w w1 := (below_box w _).trans (hb1.mono (by simp))
  have hsz1 : w.heap.size + 1 ≤ w1.heap.size := by simpa using hb1.size
  have hrw := hR.lt.1
  have HAP := hid_of (l11AnyParts_any w1 rb cb 0 hR (by omega))
  have HMK := hid_of (make_drawn w1)
  clear HOP hb1 hrb hR
  go_upto_region 3 with (
    first
      | (
        go_at_call 18
        refine HAP.out.mono ?_
        rintro e w2 ⟨ps, a, c, q, rfl, hl4, hPs, hPz, r2, hq2, o2⟩
        have HM := hid_of (HMK.out w2 ps a c hPs hPz o2.size)
        have HO2 := hid_of o2
        clear hPs hPz r2 o2)
      | (
        go_at_call 17
        refine HM.out.mono ?_
        rintro e w3 ⟨s0, ta, oa, tl, tc, ol, oc, at', ty, fl, code, rfl, b3, hC⟩
        have HC := hid_of hC
        have HB3 := hid_of b3
        clear hC b3))
  have hz2 := HO2.out.size
  have hz3 := HB3.out.size
  have bX := below_box2 w3 (.cells #[.string s0, .slice ta tl tc, .slice oa ol oc] 28) (.cells #[.int .i64 at', .string ty, .string fl, .int .i64 code] 52)
  have nX : ((w3.alloc (.cells #[.string s0, .slice ta tl tc, .slice oa ol oc] 28)).alloc (.cells #[.int .i64 at', .string ty, .string fl, .int .i64 code] 52)).heap[w3.heap.size]? = some (.cells #[.string s0, .slice ta tl tc, .slice oa ol oc] 28 (0, 0)) := ((below_box _ _).block w3.heap.size (by simp)).trans (block_new _ _ rfl)
  generalize (w3.alloc (.cells #[.string s0, .slice ta tl tc, .slice oa ol oc] 28)).alloc (.cells #[.int .i64 at', .string ty, .string fl, .int .i64 code] 52) = X at *
  have hzX := bX.size
  have bx3 := (bX.block w.heap.size (by omega)).trans ((HB3.out.block w.heap.size (by omega)).trans ((HO2.out.block w.heap.size (by omega) (by omega)).trans bx1))
  have bW : Below w.heap.size w X := b1.trans ((HO2.out.below (by omega) fun b hb e => by omega).trans ((HB3.out.trans (bX.mono hz3)).mono (by omega)))
  have HEND : Hid (ChartEnd w (.agg #[.string s0, .slice ta tl tc, .slice oa ol oc]) (((X.setCell ⟨w.heap.size, 0, none⟩ (.string s0)).setCell ⟨w.heap.size, 1, none⟩ (.slice ta tl tc)).setCell ⟨w.heap.size, 2, none⟩ (.slice oa ol oc))) := hid_of (by
    refine ⟨ps, (HC.out.mono fun b hb => ?_).sub fun b hb => ?_, ((bW.setCell (p := ⟨w.heap.size, 0, none⟩) (Nat.le_refl _) _).setCell (p := ⟨w.heap.size, 1, none⟩) (Nat.le_refl _) _).setCell (p := ⟨w.heap.size, 2, none⟩) (Nat.le_refl _) _⟩
    · rw [sets3_block (by omega)]; exact bX.block b hb.2
    · rw [sets3_size]; omega)
  have hdd := sets3_box bx3 (.string s0) (.slice ta tl tc) (.slice oa ol oc)
  have e0 := (box_at hdd 0 (by simp)).1
  have e1 := (box_at hdd 1 (by simp)).1
  have e2 := (box_at hdd 2 (by simp)).1
  have HE0 := hid_of e0
  have HE1 := hid_of e1
  have HE2 := hid_of e2
  obtain ⟨q0, -⟩ := box_at nX 0 (by simp)
  obtain ⟨q1, -⟩ := box_at nX 1 (by simp)
  obtain ⟨q2, -⟩ := box_at nX 2 (by simp)
  obtain ⟨c0, z0⟩ := box_at bx3 0 (by simp)
  obtain ⟨c1, z1⟩ := box_at bx3 1 (by simp)
  obtain ⟨c2, z2⟩ := box_at bx3 2 (by simp)
  simp only [List.getElem_toArray, List.getElem_cons_zero, List.getElem_cons_succ] at q0 q1 q2 c0 c1 c2
  clear e0 e1 e2 hdd bW bX nX bx3 bx1 b1 HAP HMK HM
  go_wp2_with fail
  exact bodyPost_ret (dtResult _ _ w.heap.size (.string s0) (.slice ta tl tc) (.slice oa ol oc) rfl HE0.out HE1.out HE2.out) rfl ⟨_, rfl, HEND.out⟩
end Go.Proofs.Ytdohgkokoicjlaa
