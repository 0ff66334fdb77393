import Derived.Test.YtmemijccbmnaaaaGreatJ10
import Derived.Test.YtmemijccbmnaaaaGreatJ16
import Derived.Test.YtmemijccbmnaaaaGreatJ19
import Derived.Test.YtmemijccbmnaaaaGreatJ7
import Derived.Test.YtmemijccbmnaaaaGreatJ13
import Derived.BigRegion
import Derived.Deep.RegionWith
import Derived.Test.YtmemijccbmnaaaaGreatJ9
import Derived.Test.YtmemijccbmnaaaaGreatJ18
import Derived.Test.YtmemijccbmnaaaaGreatJ11
import Derived.Test.YtmemijccbmnaaaaGreatJ12
import Derived.Deep.RegionHeld3
import Derived.Deep.DeepCutAuto
namespace Go.Proofs.YtmemijccbmnaaaaGreat
set_option linter.unusedSimpArgs false
set_option linter.unusedVariables false
open Go.RowKit

theorem names_once {cs : List Ce} {f : ByteArray} {j : Nat} (hn : (cs.map Ce.name).Nodup) (hj : j < cs.length) (e : (cth cs j).name = f) : ∀ m, m < cs.length → ((cth cs m).name = f ↔ m = j) := fun m hm => by
  refine ⟨fun h => ?_, fun h => by rw [h]; exact e⟩
  have ej : cs[j].name = f := by simpa [cth, List.getD_eq_getElem?_getD, hj] using e
  have em : cs[m].name = f := by simpa [cth, List.getD_eq_getElem?_getD, hm] using h
  have hp := List.pairwise_iff_getElem.1 hn
  rcases Nat.lt_trichotomy m j with h1 | h1 | h1
  · exact (hp m j (by simpa using hm) (by simpa using hj) h1 (by simp [ej, em])).elim
  · exact h1
  · exact (hp j m (by simpa using hj) (by simpa using hm) h1 (by simp [ej, em])).elim

set_option maxRecDepth 20000 in
set_option maxHeartbeats 3200000 in
theorem SetRowS_any (p : Pt) (rs : List Ro) (c : Ch) (w : World) (B : Nat) (pn : ByteArray) (ta : Option Addr) (tl tc : Nat) (ra : Option Addr) (rc : Nat) (s n : Int) (t : ByteArray) (na ka : Option Addr) (nl nc kl kc : Nat)
    (hPt : PRep w (· < B) p (.agg #[.string pn, .slice ta tl tc])) (hB : B ≤ w.heap.size) (hzp : szP p ≤ 1048576) (hR : RoReps w (· < B) rs ra) (hsz : rSz rs ≤ 1048576) (hV : Rep w (· < B) c.val (.agg #[.int .i64 s, .int .i64 n, .string t, .slice na nl nc, .slice ka kl kc])) (hsx : szV c.val ≤ 1048576) :
    Calls Tryz.prog 7 #[.agg #[.string pn, .slice ta tl tc], .slice ra rs.length rc, .agg #[.string c.type, .int .i64 c.id, .string c.field, .int .i64 s, .int .i64 n, .string t, .slice na nl nc, .slice ka kl kc]] w fun e w' => (∃ (a : Option Addr) (cp : Nat), e = .returned (.tuple #[.slice a (setRs p rs c).length cp, .int .i64 (setCode p rs c)]) ∧ RoReps w' (fun b => w.heap.size ≤ b ∧ b < w'.heap.size) (setRs p rs c) a) ∧ Below w.heap.size w w' := by
  obtain ⟨hlen, hcl⟩ := rSz_fine hsz
  have hSO := fun W (h : Below w.heap.size w W) => StoreOkS_any p rs W B _ ra rc (hPt.under (h.mono hB)) (hR.under (h.mono hB)) (by have := h.size; omega) hzp
  have hCD := fun W (h : Below w.heap.size w W) => l13Code_any p rs c W B pn ta tl tc ra rc s n t na ka nl nc kl kc (hPt.under (h.mono hB)) (by have := h.size; omega) (hR.under (h.mono hB)) (hV.under (h.mono hB))
  have hCO := fun W (h : Below w.heap.size w W) => l4Copy_any rs W B ra rc (hR.under (h.mono hB)) (by have := h.size; omega) hlen hcl
  have HSO := hid_of hSO
  have HCD := hid_of hCD
  have HCO := hid_of hCO
  clear hSO hCD hCO
  go_enter Tryz.func7, Tryz.ntmps7
  go_wp2_with fail
  have bX := below_box2 w (.cells #[.string pn, .slice ta tl tc] 40) (.cells #[.string c.type, .int .i64 c.id, .string c.field, .int .i64 s, .int .i64 n, .string t, .slice na nl nc, .slice ka kl kc] 47)
  have n0 := block_old (.cells #[.string c.type, .int .i64 c.id, .string c.field, .int .i64 s, .int .i64 n, .string t, .slice na nl nc, .slice ka kl kc] 47) (block_new (w := w) #[.string pn, .slice ta tl tc] 40 rfl) (by simp)
  have n1 := block_new (w := w.alloc (.cells #[.string pn, .slice ta tl tc] 40)) #[.string c.type, .int .i64 c.id, .string c.field, .int .i64 s, .int .i64 n, .string t, .slice na nl nc, .slice ka kl kc] 47 (N := w.heap.size + 1) (by simp)
  have zX : w.heap.size + 1 < ((w.alloc (.cells #[.string pn, .slice ta tl tc] 40)).alloc (.cells #[.string c.type, .int .i64 c.id, .string c.field, .int .i64 s, .int .i64 n, .string t, .slice na nl nc, .slice ka kl kc] 47)).heap.size := by simp
  generalize (w.alloc (.cells #[.string pn, .slice ta tl tc] 40)).alloc (.cells #[.string c.type, .int .i64 c.id, .string c.field, .int .i64 s, .int .i64 n, .string t, .slice na nl nc, .slice ka kl kc] 47) = X0 at *
  refine (HSO.out X0 bX).mono ?_
  rintro e X ⟨rfl, hbX⟩
  have bw := bX.trans (hbX.mono bX.size)
  have nP := (hbX.block _ (by omega)).trans n0
  have nC := (hbX.block _ zX).trans n1
  have zX1 : w.heap.size + 1 < X.heap.size := by have := hbX.size; omega
  clear n0 n1 zX hbX bX HSO
  cases hst : storeS p rs
  · have HE : Hid (setRs p rs c = [] ∧ setCode p rs c = 1) := hid_of ⟨by unfold setRs; rw [if_pos hst], by unfold setCode; rw [if_pos hst]⟩
    go_wp2_with fail
    refine bodyPost_ret (v := .tuple #[.slice (some ⟨X.heap.size, 0, none⟩) 0 0, .int .i64 1]) ?res rfl ?_
    case res => simp [results, Tryz.results7, go_sem]
    refine ⟨⟨some ⟨X.heap.size, 0, none⟩, 0, ?_, ?_⟩, bw.trans ((below_box X _).mono bw.size)⟩
    · rw [HE.out.1, HE.out.2]; rfl
    · rw [HE.out.1]; exact (RM.none (L := false) _ _ _).reps
  have HE : Hid (setRs p rs c = setL p rs c ∧ setCode p rs c = codeC p rs c) := hid_of ⟨by unfold setRs setL; rw [if_neg (by rw [hst]; simp)], by unfold setCode; rw [if_neg (by rw [hst]; simp)]⟩
  obtain ⟨p0, -⟩ := box_at nP 0 (by simp)
  obtain ⟨p1, -⟩ := box_at nP 1 (by simp)
  obtain ⟨c0, -⟩ := box_at nC 0 (by simp)
  obtain ⟨c1, -⟩ := box_at nC 1 (by simp)
  obtain ⟨c2, -⟩ := box_at nC 2 (by simp)
  obtain ⟨c3, -⟩ := box_at nC 3 (by simp)
  obtain ⟨c4, -⟩ := box_at nC 4 (by simp)
  obtain ⟨c5, -⟩ := box_at nC 5 (by simp)
  obtain ⟨c6, -⟩ := box_at nC 6 (by simp)
  obtain ⟨c7, -⟩ := box_at nC 7 (by simp)
  have hD := HCD.out X bw
  obtain ⟨cd, hcd⟩ : ∃ cd, cd = codeC p rs c := ⟨_, rfl⟩
  rw [← hcd] at hD
  have HD := hid_of hD
  clear hD
  by_cases h0 : cd = 0
  · obtain ⟨i, j, hq, hset⟩ := setL_put hst (hcd.symm.trans h0)
    obtain ⟨hi, hj, hnm⟩ := cTo_lt (Nat.le_refl _) hq
    have hfi : fi rs c.type c.id rs.length = some i := by
      obtain ⟨i', j', e1, e2, -⟩ := code_zero hst (hcd.symm.trans h0)
      rw [hq] at e1
      simp only [Option.some.injEq, Prod.mk.injEq] at e1
      rw [e1.1]; exact e2
    have HU := hid_of (names_once (store_row hst hi).2.2 hj hnm)
    have HSET : Hid (∀ W, Below w.heap.size w W → _) := hid_of fun W (h : Below w.heap.size w W) => l13Set_any rs c W B ra rc s n t na ka nl nc kl kc (hR.under (h.mono hB)) (by have := h.size; omega) hlen hcl (hV.under (h.mono hB)) hsx i j hfi hi hj HU.out
    have HQ := hid_of hset
    have HC := hid_of hcd
    subst h0
    clear hq hset hfi hcd hnm
    go_wp2_with fail
    refine HD.out.mono ?_
    rintro e w1 ⟨rfl, hb1⟩
    have bw1 := bw.trans (hb1.mono bw.size)
    have nC1 := (hb1.block _ zX1).trans nC
    clear c0 c1 c2 c3 c4 c5 c6 c7
    obtain ⟨c0, -⟩ := box_at nC1 0 (by simp)
    obtain ⟨c1, -⟩ := box_at nC1 1 (by simp)
    obtain ⟨c2, -⟩ := box_at nC1 2 (by simp)
    obtain ⟨c3, -⟩ := box_at nC1 3 (by simp)
    obtain ⟨c4, -⟩ := box_at nC1 4 (by simp)
    obtain ⟨c5, -⟩ := box_at nC1 5 (by simp)
    obtain ⟨c6, -⟩ := box_at nC1 6 (by simp)
    obtain ⟨c7, -⟩ := box_at nC1 7 (by simp)
    clear nC nC1 nP
    go_wp2_with fail
    refine (HSET.out w1 bw1).mono ?_
    rintro e w2 ⟨⟨a, cp, rfl, hr2⟩, hb2⟩
    have HR2 := hid_of hr2
    clear hr2
    go_wp2_with fail
    refine bodyPost_ret (v := .tuple #[.slice a rs.length cp, .int .i64 0]) ?res rfl ?_
    case res => simp [results, Tryz.results7, go_sem]
    have hl : (putAt rs i j c.field c.val).length = rs.length := by unfold putAt; simp
    refine ⟨⟨a, cp, ?_, ?_⟩, bw1.trans (hb2.mono bw1.size)⟩
    · rw [HE.out.1, HE.out.2, HQ.out, hl, ← HC.out]
    · rw [HE.out.1, HQ.out]
      exact HR2.out.sub fun b hb => ⟨by have := bw1.size; omega, hb.2⟩
  · have hne : (cd != 0) = true := by simpa using h0
    have HC := hid_of hcd
    have HL : Hid (setL p rs c = rs) := hid_of (setL_same (by rw [← hcd]; exact h0))
    clear hcd
    go_wp2_with fail
    refine HD.out.mono ?_
    rintro e w1 ⟨rfl, hb1⟩
    have bw1 := bw.trans (hb1.mono bw.size)
    clear c0 c1 c2 c3 c4 c5 c6 c7 p0 p1
    go_wp2_with fail
    refine (HCO.out w1 bw1).mono ?_
    rintro e w2 ⟨⟨a, cp, b0, A, K, lab, rfl, hcp, hM⟩, hb2⟩
    have HR2 := hid_of hM.reps
    clear hM
    go_wp2_with fail
    refine bodyPost_ret (v := .tuple #[.slice a rs.length cp, .int .i64 cd]) ?res rfl ?_
    case res => simp [results, Tryz.results7, go_sem]
    refine ⟨⟨a, cp, ?_, ?_⟩, bw1.trans (hb2.mono bw1.size)⟩
    · rw [HE.out.1, HE.out.2, HL.out, ← HC.out]
    · rw [HE.out.1, HL.out]
      exact HR2.out.sub fun b hb => ⟨by have := bw1.size; omega, hb.2⟩
end Go.Proofs.YtmemijccbmnaaaaGreat

namespace Go.Proofs.YtmemijccbmnaaaaGreat
set_option linter.unusedSimpArgs false
set_option linter.unusedVariables false
open Go.RowKit

set_option maxHeartbeats 800000 in
theorem eqCell_any (c : Ce) (w : World) (B : Nat) (v v' : Value) (hR : CeRep w (· < B) c v) (hR' : CeRep w (· < B) c v') (hB : B ≤ w.heap.size) :
    Calls Tryz.prog 97 #[v, v'] w fun e w' => e = .returned (.bool true) ∧ Below w.heap.size w w' := by
  obtain ⟨c1, c2, c3, c4, c5, rfl, hV, -⟩ := hR
  obtain ⟨d1, d2, d3, d4, d5, rfl, hV', -⟩ := hR'
  go_enter Tryz.func97, Tryz.ntmps97
  go_wp2_with (
      go_at_call 34
      refine (eqValue_any c.val _ B _ _ (hV.under ((below_box2 w _ _).mono hB)) (hV'.under ((below_box2 w _ _).mono hB)) (by simp; omega)).mono ?_
      rintro e w' ⟨rfl, hb⟩)
  go_ret
  exact ⟨rfl, (below_box2 w _ _).trans (hb.mono (by simp; omega))⟩

set_option maxHeartbeats 1600000 in
theorem eqCellS_any (xs : List Ce) (w : World) (B : Nat) (a a' : Option Addr) (c c' : Nat) (hK : CeReps w (· < B) xs a) (hK' : CeReps w (· < B) xs a') (hB : B ≤ w.heap.size) :
    Calls Tryz.prog 64 #[.slice a xs.length c, .slice a' xs.length c'] w fun e w' => e = .returned (.bool true) ∧ Below w.heap.size w w' := by
  have h3 := hK.1
  obtain ⟨-, C, hA, hr⟩ := hK
  obtain ⟨-, C', hA', hr'⟩ := hK'
  go_enter Tryz.func64, Tryz.ntmps64
  go_wp2_with fail
  go_loopw [5] (fun i wr => ∃ k : Nat, k ≤ xs.length ∧ i = .int .i64 k ∧ Below w.heap.size w wr) (fun i _ => xs.length - (intOf i).toNat)
  case atStart => exact ⟨0, Nat.zero_le _, rfl, Below.refl _ _⟩
  case round =>
    obtain ⟨k, hk, rfl, hbel⟩ := hrel
    by_cases hlt : k < xs.length
    · obtain ⟨b, off, rfl, hbB, hc⟩ := hA (by omega)
      obtain ⟨b', off', rfl, hbB', hd⟩ := hA' (by omega)
      clear hA hA'
      have hck : ∀ j, j < 6 → wr.cell? ⟨b, off + k * 6 + j, none⟩ = some (C k j) := fun j hj => (hbel.cell (p := ⟨b, off + k * 6 + j, none⟩) (by show b < _; omega)).trans (hc k hlt j hj)
      have hc0 : wr.cell? ⟨b, off + k * 6, none⟩ = some (C k 0) := hck 0 (by omega)
      have hc1 : wr.cell? ⟨b, off + k * 6 + 1, none⟩ = some (C k 1) := hck 1 (by omega)
      have hc2 : wr.cell? ⟨b, off + k * 6 + 2, none⟩ = some (C k 2) := hck 2 (by omega)
      have hc3 : wr.cell? ⟨b, off + k * 6 + 3, none⟩ = some (C k 3) := hck 3 (by omega)
      have hc4 : wr.cell? ⟨b, off + k * 6 + 4, none⟩ = some (C k 4) := hck 4 (by omega)
      have hc5 : wr.cell? ⟨b, off + k * 6 + 5, none⟩ = some (C k 5) := hck 5 (by omega)
      clear hck hc
      have hdk : ∀ j, j < 6 → wr.cell? ⟨b', off' + k * 6 + j, none⟩ = some (C' k j) := fun j hj => (hbel.cell (p := ⟨b', off' + k * 6 + j, none⟩) (by show b' < _; omega)).trans (hd k hlt j hj)
      have hd0 : wr.cell? ⟨b', off' + k * 6, none⟩ = some (C' k 0) := hdk 0 (by omega)
      have hd1 : wr.cell? ⟨b', off' + k * 6 + 1, none⟩ = some (C' k 1) := hdk 1 (by omega)
      have hd2 : wr.cell? ⟨b', off' + k * 6 + 2, none⟩ = some (C' k 2) := hdk 2 (by omega)
      have hd3 : wr.cell? ⟨b', off' + k * 6 + 3, none⟩ = some (C' k 3) := hdk 3 (by omega)
      have hd4 : wr.cell? ⟨b', off' + k * 6 + 4, none⟩ = some (C' k 4) := hdk 4 (by omega)
      have hd5 : wr.cell? ⟨b', off' + k * 6 + 5, none⟩ = some (C' k 5) := hdk 5 (by omega)
      clear hdk hd
      go_wp2_with fail
      go_region_with (go_at_call 97; refine (eqCell_any (cth xs k) _ B _ _ ((hr k hlt).under ((hbel.drew).mono hB)) ((hr' k hlt).under ((hbel.drew).mono hB)) (by have := hbel.size; simp; omega)).mono ?_; rintro e w1 ⟨rfl, hby⟩)
      all_goals
        go_wp2_with fail
        go_roundw
        case rel => exact ⟨k + 1, by omega, by go_num, hbel.drew.trans (hby.mono (by have := hbel.size; simpa using this))⟩
        case measure => simp [intOf]; omega
    · go_wp2_with fail
      go_ret
      exact ⟨rfl, hbel⟩

set_option maxHeartbeats 800000 in
theorem eqRow_any (t : Ro) (w : World) (B : Nat) (v v' : Value) (hR : RoRep w (· < B) t v) (hR' : RoRep w (· < B) t v') (hB : B ≤ w.heap.size) :
    Calls Tryz.prog 32 #[v, v'] w fun e w' => e = .returned (.bool true) ∧ Below w.heap.size w w' := by
  obtain ⟨na, nc, rfl, hs, -⟩ := hR
  obtain ⟨na', nc', rfl, hs', -⟩ := hR'
  obtain ⟨type, id, cells⟩ := t
  simp only at hs hs'
  go_enter Tryz.func32, Tryz.ntmps32
  go_wp2_with (
      go_at_call 64
      refine (eqCellS_any cells _ B na na' nc nc' (hs.under ((below_box2 w _ _).mono hB)) (hs'.under ((below_box2 w _ _).mono hB)) (by simp; omega)).mono ?_
      rintro e w' ⟨rfl, hb⟩)
  go_ret
  exact ⟨rfl, (below_box2 w _ _).trans (hb.mono (by simp; omega))⟩

set_option maxHeartbeats 1600000 in
theorem eqRowS_any (xs : List Ro) (w : World) (B : Nat) (a a' : Option Addr) (c c' : Nat) (hK : RoReps w (· < B) xs a) (hK' : RoReps w (· < B) xs a') (hB : B ≤ w.heap.size) :
    Calls Tryz.prog 12 #[.slice a xs.length c, .slice a' xs.length c'] w fun e w' => e = .returned (.bool true) ∧ Below w.heap.size w w' := by
  have h3 := hK.1
  obtain ⟨-, C, hA, hr⟩ := hK
  obtain ⟨-, C', hA', hr'⟩ := hK'
  go_enter Tryz.func12, Tryz.ntmps12
  go_wp2_with fail
  go_loopw [5] (fun i wr => ∃ k : Nat, k ≤ xs.length ∧ i = .int .i64 k ∧ Below w.heap.size w wr) (fun i _ => xs.length - (intOf i).toNat)
  case atStart => exact ⟨0, Nat.zero_le _, rfl, Below.refl _ _⟩
  case round =>
    obtain ⟨k, hk, rfl, hbel⟩ := hrel
    by_cases hlt : k < xs.length
    · obtain ⟨b, off, rfl, hbB, hc⟩ := hA (by omega)
      obtain ⟨b', off', rfl, hbB', hd⟩ := hA' (by omega)
      clear hA hA'
      have hck : ∀ j, j < 3 → wr.cell? ⟨b, off + k * 3 + j, none⟩ = some (C k j) := fun j hj => (hbel.cell (p := ⟨b, off + k * 3 + j, none⟩) (by show b < _; omega)).trans (hc k hlt j hj)
      have hc0 : wr.cell? ⟨b, off + k * 3, none⟩ = some (C k 0) := hck 0 (by omega)
      have hc1 : wr.cell? ⟨b, off + k * 3 + 1, none⟩ = some (C k 1) := hck 1 (by omega)
      have hc2 : wr.cell? ⟨b, off + k * 3 + 2, none⟩ = some (C k 2) := hck 2 (by omega)
      clear hck hc
      have hdk : ∀ j, j < 3 → wr.cell? ⟨b', off' + k * 3 + j, none⟩ = some (C' k j) := fun j hj => (hbel.cell (p := ⟨b', off' + k * 3 + j, none⟩) (by show b' < _; omega)).trans (hd k hlt j hj)
      have hd0 : wr.cell? ⟨b', off' + k * 3, none⟩ = some (C' k 0) := hdk 0 (by omega)
      have hd1 : wr.cell? ⟨b', off' + k * 3 + 1, none⟩ = some (C' k 1) := hdk 1 (by omega)
      have hd2 : wr.cell? ⟨b', off' + k * 3 + 2, none⟩ = some (C' k 2) := hdk 2 (by omega)
      clear hdk hd
      go_wp2_with fail
      go_region_with (go_at_call 32; refine (eqRow_any (rth xs k) _ B _ _ ((hr k hlt).under ((hbel.drew).mono hB)) ((hr' k hlt).under ((hbel.drew).mono hB)) (by have := hbel.size; simp; omega)).mono ?_; rintro e w1 ⟨rfl, hby⟩)
      all_goals
        go_wp2_with fail
        go_roundw
        case rel => exact ⟨k + 1, by omega, by go_num, hbel.drew.trans (hby.mono (by have := hbel.size; simpa using this))⟩
        case measure => simp [intOf]; omega
    · go_wp2_with fail
      go_ret
      exact ⟨rfl, hbel⟩
end Go.Proofs.YtmemijccbmnaaaaGreat

namespace Go.Proofs.YtmemijccbmnaaaaGreat
set_option linter.unusedSimpArgs false
set_option linter.unusedVariables false
open Go.RowKit

/-- A change in memory: eight cells flat. -/
def ChRep (w : World) (P : Nat → Prop) (c : Ch) (v : Value) : Prop := ∃ c1 c2 c3 c4 c5 : Value,
  v = .agg #[.string c.type, .int .i64 c.id, .string c.field, c1, c2, c3, c4, c5] ∧ Rep w P c.val (.agg #[c1, c2, c3, c4, c5]) ∧ c.type.size ≤ maxLen ∧ c.field.size ≤ maxLen
theorem ChRep.mono {w w' : World} {P : Nat → Prop} {f : Ch} {v : Value} (h : ChRep w P f v) (e : ∀ k, P k → w'.heap[k]? = w.heap[k]?) : ChRep w' P f v := by
  obtain ⟨c1, c2, c3, c4, c5, h1, h2, h3⟩ := h; exact ⟨c1, c2, c3, c4, c5, h1, h2.mono e, h3⟩
theorem ChRep.sub {w : World} {P Q : Nat → Prop} {f : Ch} {v : Value} (h : ChRep w P f v) (e : ∀ k, P k → Q k) : ChRep w Q f v := by
  obtain ⟨c1, c2, c3, c4, c5, h1, h2, h3⟩ := h; exact ⟨c1, c2, c3, c4, c5, h1, h2.sub e, h3⟩

set_option maxHeartbeats 1600000 in
theorem szChange_any (c : Ch) (w : World) (B : Nat) (v : Value) (left : Int) (hR : ChRep w (· < B) c v) (hB : B ≤ w.heap.size) (hl0 : 0 ≤ left) (hl1 : left ≤ 1048576) :
    Calls Tryz.prog 6 #[v, .int .i64 left] w fun e w' => ∃ x : Int, e = .returned (.int .i64 x) ∧ -1 ≤ x ∧ x ≤ left ∧ (0 ≤ x → x + c.type.size + c.field.size + szV c.val ≤ left) ∧ Below w.heap.size w w' := by
  obtain ⟨c1, c2, c3, c4, c5, rfl, hV, hn, hn'⟩ := hR
  unfold maxLen at hn hn'
  by_cases h1 : left < c.type.size
  · go_enter Tryz.func6, Tryz.ntmps6
    go_wp2_with fail
    go_ret
    exact ⟨-1, rfl, by omega, by omega, by omega, below_box _ _⟩
  by_cases h2 : left < c.type.size + c.field.size
  · go_enter Tryz.func6, Tryz.ntmps6
    go_wp2_with fail
    go_ret
    exact ⟨-1, rfl, by omega, by omega, by omega, below_box _ _⟩
  go_enter Tryz.func6, Tryz.ntmps6
  go_wp2_with (go_at_call 21; refine (szValue_sum c.val _ B _ _ (hV.under ((below_box w _).mono hB)) (by simp; omega) (by omega) (by omega)).mono ?_; rintro e w' ⟨y, rfl, hy0, hy1, hy2, hb⟩; have HY := hid_of2 hy2; clear hy2)
  · go_ret
    exact ⟨-1, rfl, by omega, by omega, by omega, (below_box w _).trans (hb.mono (by simp))⟩
  · go_ret
    exact ⟨y, rfl, by omega, by omega, fun h => by have := HY.out h; omega, (below_box w _).trans (hb.mono (by simp))⟩

set_option maxHeartbeats 1600000 in
theorem eqChange_any (c : Ch) (w : World) (B : Nat) (v v' : Value) (hR : ChRep w (· < B) c v) (hR' : ChRep w (· < B) c v') (hB : B ≤ w.heap.size) :
    Calls Tryz.prog 14 #[v, v'] w fun e w' => e = .returned (.bool true) ∧ Below w.heap.size w w' := by
  obtain ⟨c1, c2, c3, c4, c5, rfl, hV, -⟩ := hR
  obtain ⟨d1, d2, d3, d4, d5, rfl, hV', -⟩ := hR'
  go_enter Tryz.func14, Tryz.ntmps14
  go_wp2_with (
      go_at_call 34
      refine (eqValue_any c.val _ B _ _ (hV.under ((below_box2 w _ _).mono hB)) (hV'.under ((below_box2 w _ _).mono hB)) (by simp; omega)).mono ?_
      rintro e w' ⟨rfl, hb⟩)
  go_ret
  exact ⟨rfl, (below_box2 w _ _).trans (hb.mono (by simp; omega))⟩
end Go.Proofs.YtmemijccbmnaaaaGreat

namespace Go.Proofs.YtmemijccbmnaaaaGreat
set_option linter.unusedSimpArgs false
set_option linter.unusedVariables false
open Go.RowKit

set_option maxHeartbeats 1600000 in
theorem toChange_nf (c : Ch) (w : World) (B : Nat) (v : Value) (hR : ChRep w (· < B) c v) (hB : B ≤ w.heap.size) :
    Calls Tryz.prog 10 #[v] w fun e w' => ∃ (s n : Int) (t : ByteArray) (na ka : Option Addr) (nl nc kl kc : Nat), e = .returned (.agg #[.string c.type, .int .i64 c.id, .string c.field, .int .i64 s, .int .i64 n, .string t, .slice na nl nc, .slice ka kl kc]) ∧ Below w.heap.size w w' ∧
      ChRep w' (fun b => w.heap.size ≤ b ∧ b < w'.heap.size) c (.agg #[.string c.type, .int .i64 c.id, .string c.field, .int .i64 s, .int .i64 n, .string t, .slice na nl nc, .slice ka kl kc]) ∧ NF w.heap.size w' := by
  obtain ⟨c1, c2, c3, c4, c5, rfl, hV, hn⟩ := hR
  have hb3 : ∀ o1 o2 o3, Below w.heap.size w (((w.alloc o1).alloc o2).alloc o3) := fun o1 o2 o3 => (((Below.refl _ _).alloc (Nat.le_refl _) _).alloc (by simp) _).alloc (by simp; omega) _
  go_enter Tryz.func10, Tryz.ntmps10
  go_wp2_with fail
  refine (toValue_nf c.val _ B _ (hV.under ((hb3 _ _ _).mono hB)) (by simp; omega)).mono ?_
  rintro e w1 ⟨s1, n1, t1, na1, ka1, nl1, nc1, kl1, kc1, rfl, hb1, hr1, hnf1⟩
  have HN1 : Hid (NF w.heap.size w1) := NF.call (NF.three w _ _ _ _ _ _) hb1 hnf1
  clear hnf1
  have z1 := hb1.size
  simp at z1
  have b1 : Below w.heap.size w w1 := (hb3 _ _ _).trans (hb1.mono (by simp; omega))
  have K2 : w1.heap[w.heap.size + 1 + 1]? = some (.cells #[.string c.type, .int .i64 c.id, .string c.field, .int .i64 0, .int .i64 0, .string ByteArray.empty, .slice none 0 0, .slice none 0 0] 47 (0, 0)) := (hb1.block _ (by simp)).trans (by
    have := heap_alloc_new ((w.alloc (.cells #[.string c.type, .int .i64 c.id, .string c.field, c1, c2, c3, c4, c5] 31)).alloc (.cells #[.string ByteArray.empty, .int .i64 0, .string ByteArray.empty, .int .i64 0, .int .i64 0, .string ByteArray.empty, .slice none 0 0, .slice none 0 0] 47)) (.cells #[.string c.type, .int .i64 c.id, .string c.field, .int .i64 0, .int .i64 0, .string ByteArray.empty, .slice none 0 0, .slice none 0 0] 47)
    rw [show ((w.alloc (.cells #[.string c.type, .int .i64 c.id, .string c.field, c1, c2, c3, c4, c5] 31)).alloc (.cells #[.string ByteArray.empty, .int .i64 0, .string ByteArray.empty, .int .i64 0, .int .i64 0, .string ByteArray.empty, .slice none 0 0, .slice none 0 0] 47)).heap.size = w.heap.size + 1 + 1 by simp] at this
    exact this)
  have K1 : w1.heap[w.heap.size + 1]? = some (.cells #[.string ByteArray.empty, .int .i64 0, .string ByteArray.empty, .int .i64 0, .int .i64 0, .string ByteArray.empty, .slice none 0 0, .slice none 0 0] 47 (0, 0)) := (hb1.block _ (by simp)).trans (by
    have := heap_alloc_new (w.alloc (.cells #[.string c.type, .int .i64 c.id, .string c.field, c1, c2, c3, c4, c5] 31)) (.cells #[.string ByteArray.empty, .int .i64 0, .string ByteArray.empty, .int .i64 0, .int .i64 0, .string ByteArray.empty, .slice none 0 0, .slice none 0 0] 47)
    refine ((below_box _ _).block _ (by simp)).trans ?_
    rw [show (w.alloc (.cells #[.string c.type, .int .i64 c.id, .string c.field, c1, c2, c3, c4, c5] 31)).heap.size = w.heap.size + 1 by simp] at this
    exact this)
  have r1 : w1.rowIs (w.heap.size + 1) 47 8 (fun i => #[.string ByteArray.empty, .int .i64 0, .string ByteArray.empty, .int .i64 0, .int .i64 0, .string ByteArray.empty, .slice none 0 0, .slice none 0 0][i]?.getD undef) := ⟨_, K1, rfl, fun i hi => by simp [hi]⟩
  have r2 : w1.rowIs (w.heap.size + 1 + 1) 47 8 (fun i => #[.string c.type, .int .i64 c.id, .string c.field, .int .i64 0, .int .i64 0, .string ByteArray.empty, .slice none 0 0, .slice none 0 0][i]?.getD undef) := ⟨_, K2, rfl, fun i hi => by simp [hi]⟩
  have q0 := r2.cell (i := 0) (by omega)
  have q1 := r2.cell (i := 1) (by omega)
  have q2 := r2.cell (i := 2) (by omega)
  have q3 := r2.cell (i := 3) (by omega)
  have q4 := r2.cell (i := 4) (by omega)
  have q5 := r2.cell (i := 5) (by omega)
  have q6 := r2.cell (i := 6) (by omega)
  have q7 := r2.cell (i := 7) (by omega)
  have u0 := r1.cell (i := 0) (by omega)
  have u1 := r1.cell (i := 1) (by omega)
  have u2 := r1.cell (i := 2) (by omega)
  have u3 := r1.cell (i := 3) (by omega)
  have u4 := r1.cell (i := 4) (by omega)
  have u5 := r1.cell (i := 5) (by omega)
  have u6 := r1.cell (i := 6) (by omega)
  have u7 := r1.cell (i := 7) (by omega)
  have qf := fun i => r2.frozen i
  have uf := fun i => r1.frozen i
  simp at q0 q1 q2 q3 q4 q5 q6 q7 u0 u1 u2 u3 u4 u5 u6 u7
  clear K1 K2
  go_wp2_with fail
  have zf : (puts (puts w1 (w.heap.size + 1 + 1) 3 [.int .i64 s1, .int .i64 n1, .string t1, .slice na1 nl1 nc1, .slice ka1 kl1 kc1]) (w.heap.size + 1) 0 [.string c.type, .int .i64 c.id, .string c.field, .int .i64 s1, .int .i64 n1, .string t1, .slice na1 nl1 nc1, .slice ka1 kl1 kc1]).heap.size = w1.heap.size := by rw [puts_size, puts_size]
  have ef : ∀ k, k ≠ w.heap.size + 1 + 1 → k ≠ w.heap.size + 1 → (puts (puts w1 (w.heap.size + 1 + 1) 3 [.int .i64 s1, .int .i64 n1, .string t1, .slice na1 nl1 nc1, .slice ka1 kl1 kc1]) (w.heap.size + 1) 0 [.string c.type, .int .i64 c.id, .string c.field, .int .i64 s1, .int .i64 n1, .string t1, .slice na1 nl1 nc1, .slice ka1 kl1 kc1]).heap[k]? = w1.heap[k]? := fun k h1 h2 => by rw [puts_block _ _ h2, puts_block _ _ h1]
  have bf : Below w.heap.size w (puts (puts w1 (w.heap.size + 1 + 1) 3 [.int .i64 s1, .int .i64 n1, .string t1, .slice na1 nl1 nc1, .slice ka1 kl1 kc1]) (w.heap.size + 1) 0 [.string c.type, .int .i64 c.id, .string c.field, .int .i64 s1, .int .i64 n1, .string t1, .slice na1 nl1 nc1, .slice ka1 kl1 kc1]) := puts_below (by omega) _ _ _ (puts_below (by omega) _ _ _ b1)
  have hm : ∀ k, (((w.alloc (.cells #[.string c.type, .int .i64 c.id, .string c.field, c1, c2, c3, c4, c5] 31)).alloc (.cells #[.string ByteArray.empty, .int .i64 0, .string ByteArray.empty, .int .i64 0, .int .i64 0, .string ByteArray.empty, .slice none 0 0, .slice none 0 0] 47)).alloc (.cells #[.string c.type, .int .i64 c.id, .string c.field, .int .i64 0, .int .i64 0, .string ByteArray.empty, .slice none 0 0, .slice none 0 0] 47)).heap.size ≤ k → w.heap.size + 1 + 1 < k := fun k hk => by simp at hk; omega
  have fV : ChRep (puts (puts w1 (w.heap.size + 1 + 1) 3 [.int .i64 s1, .int .i64 n1, .string t1, .slice na1 nl1 nc1, .slice ka1 kl1 kc1]) (w.heap.size + 1) 0 [.string c.type, .int .i64 c.id, .string c.field, .int .i64 s1, .int .i64 n1, .string t1, .slice na1 nl1 nc1, .slice ka1 kl1 kc1]) (fun b => w.heap.size ≤ b ∧ b < (puts (puts w1 (w.heap.size + 1 + 1) 3 [.int .i64 s1, .int .i64 n1, .string t1, .slice na1 nl1 nc1, .slice ka1 kl1 kc1]) (w.heap.size + 1) 0 [.string c.type, .int .i64 c.id, .string c.field, .int .i64 s1, .int .i64 n1, .string t1, .slice na1 nl1 nc1, .slice ka1 kl1 kc1]).heap.size) c (.agg #[.string c.type, .int .i64 c.id, .string c.field, .int .i64 s1, .int .i64 n1, .string t1, .slice na1 nl1 nc1, .slice ka1 kl1 kc1]) := ⟨_, _, _, _, _, rfl, (hr1.mono fun k hk => by
    have := hm k hk.1
    exact ef k (by omega) (by omega)).sub fun k hk => by
      have := hm k hk.1
      rw [zf]; omega, hn⟩
  refine bodyPost_ret (v := .agg #[.string c.type, .int .i64 c.id, .string c.field, .int .i64 s1, .int .i64 n1, .string t1, .slice na1 nl1 nc1, .slice ka1 kl1 kc1]) ?res rfl ⟨s1, n1, t1, na1, ka1, nl1, nc1, kl1, kc1, rfl, bf, fV, fun a ha => by simp only [World.frozen?_setCell]; exact HN1.out a ha⟩
  case res =>
    obtain ⟨G, t1', hG, -⟩ := puts_row [.string c.type, .int .i64 c.id, .string c.field, .int .i64 s1, .int .i64 n1, .string t1, .slice na1 nl1 nc1, .slice ka1 kl1 kc1] 0 (r1.of_block (w' := puts w1 (w.heap.size + 1 + 1) 3 [.int .i64 s1, .int .i64 n1, .string t1, .slice na1 nl1 nc1, .slice ka1 kl1 kc1]) (puts_block _ _ (by omega) _ _ _))
    have p0 := t1'.cell (i := 0) (by omega)
    have p1 := t1'.cell (i := 1) (by omega)
    have p2 := t1'.cell (i := 2) (by omega)
    have p3 := t1'.cell (i := 3) (by omega)
    have p4 := t1'.cell (i := 4) (by omega)
    have p5 := t1'.cell (i := 5) (by omega)
    have p6 := t1'.cell (i := 6) (by omega)
    have p7 := t1'.cell (i := 7) (by omega)
    have g0 := hG 0 (by simp)
    have g1 := hG 1 (by simp)
    have g2 := hG 2 (by simp)
    have g3 := hG 3 (by simp)
    have g4 := hG 4 (by simp)
    have g5 := hG 5 (by simp)
    have g6 := hG 6 (by simp)
    have g7 := hG 7 (by simp)
    simp only [Nat.zero_add] at g0 g1 g2 g3 g4 g5 g6 g7
    rw [g0] at p0
    rw [g1] at p1
    rw [g2] at p2
    rw [g3] at p3
    rw [g4] at p4
    rw [g5] at p5
    rw [g6] at p6
    rw [g7] at p7
    simp only [puts, Nat.zero_add, Nat.reduceAdd, List.getD_cons_zero, List.getD_cons_succ] at p0 p1 p2 p3 p4 p5 p6 p7
    clear bf fV ef zf hm t1' q0 q1 q2 q3 q4 q5 q6 q7 u0 u1 u2 u3 u4 u5 u6 u7 qf uf r1 r2 hr1 hG g0 g1 g2 g3 g4 g5 g6 g7
    simp [results, Tryz.results10, go_sem, p0, p1, p2, p3, p4, p5, p6, p7]
end Go.Proofs.YtmemijccbmnaaaaGreat

namespace Go.Proofs.YtmemijccbmnaaaaGreat
set_option linter.unusedSimpArgs false
set_option linter.unusedVariables false
open Go.RowKit

/-- A value that may be written: its five cells, its names and its parts. -/
def WVal (w : World) (lo hi : Nat) (x : V) (c1 c2 c3 c4 c5 : Value) : Prop := ∃ (s n : Int) (t : ByteArray) (na ka : Option Addr) (nc kc f : Nat),
  c1 = .int .i64 s ∧ c2 = .int .i64 n ∧ c3 = .string t ∧ c4 = .slice na x.names.length nc ∧ c5 = .slice ka x.kids.length kc ∧ WStrs w lo hi x.names.length na ∧ WVals w lo hi f x.kids ka
theorem WVal.keep {lo hi lo' hi' : Nat} {w w' : World} {x : V} {c1 c2 c3 c4 c5 : Value} (h : WVal w lo hi x c1 c2 c3 c4 c5) (m : MarkedN lo' hi' w w') : WVal w' lo hi x c1 c2 c3 c4 c5 := by
  obtain ⟨s, n, t, na, ka, nc, kc, f, h1, h2, h3, h4, h5, h6, h7⟩ := h
  exact ⟨s, n, t, na, ka, nc, kc, f, h1, h2, h3, h4, h5, h6.keep m.m, h7.keep m⟩
theorem WVal.of_rep {w : World} {lo hi : Nat} {x : V} {c1 c2 c3 c4 c5 : Value} (h : Rep w (fun b => lo ≤ b ∧ b < hi) x (.agg #[c1, c2, c3, c4, c5])) (nf : NF lo w) : WVal w lo hi x c1 c2 c3 c4 c5 := by
  obtain ⟨f, hV⟩ := h
  match f, hV with
  | f + 1, hV =>
  obtain ⟨na, ka', nc, kc, b', off', C', hv, hs, -, -, -, -, hka, hc', hr'⟩ := hV
  simp only [Value.agg.injEq, Array.mk.injEq, List.cons.injEq, and_true] at hv
  obtain ⟨e1, e2, e3, e4, e5⟩ := hv
  exact ⟨_, _, _, na, ka', nc, kc, f + 1, e1, e2, e3, e4, e5, WStrs.of_rep hs nf, WVals.of_n nf hka hc' hr'⟩

set_option maxHeartbeats 800000 in
theorem markValue_k (x : V) (w : World) (lo hi : Nat) (c1 c2 c3 c4 c5 : Value) (K : Int) (h : WVal w lo hi x c1 c2 c3 c4 c5) (hn : x.names.length ≤ 1048576) (hs : kSz x.kids ≤ 1048576) (hk0 : 0 ≤ K) (hk1 : K ≤ 1000000000000000) :
    Calls Tryz.prog 38 #[.agg #[c1, c2, c3, c4, c5], .int .i64 K] w fun e w' => (∃ K' : Int, e = .returned (.int .i64 K') ∧ 0 ≤ K') ∧ MarkedN lo hi w w' := by
  have h0 := h
  obtain ⟨s, n, t, na, ka, nc, kc, f, rfl, rfl, rfl, rfl, rfl, h6, h7⟩ := h
  go_enter Tryz.func38, Tryz.ntmps38
  have m0 : MarkedN lo hi w (w.alloc (.cells #[.int .i64 s, .int .i64 n, .string t, .slice na x.names.length nc, .slice ka x.kids.length kc] 45)) := MarkedN.of_below lo hi (below_box w _)
  go_wp2_with fail
  refine (markStringS_i x.names.length nc lo hi K na _ (h6.keep m0.m) hn hk0 (by omega)).mono ?_
  rintro e w1 ⟨⟨K1, rfl, hK0, hK1⟩, m1⟩
  have k4 := m1.m.list ⟨w.heap.size, 4, none⟩ ka x.kids.length kc (by simp [go_sem])
  have m2 := m0.trans m1
  clear m1 m0
  go_wp2_with fail
  refine (markValueS_k f x.kids kc lo hi K1 ka _ (h7.keep m2) hs hK0 (by omega)).mono ?_
  rintro e w2 ⟨⟨K2, rfl, hK2, hK3⟩, m3⟩
  go_wp2_with fail
  go_ret
  exact ⟨⟨K2, rfl, hK2⟩, m2.trans m3⟩

set_option maxHeartbeats 800000 in
theorem markChange_k (c : Ch) (w : World) (lo hi : Nat) (c1 c2 c3 c4 c5 : Value) (K : Int) (h : WVal w lo hi c.val c1 c2 c3 c4 c5) (hn : c.val.names.length ≤ 1048576) (hs : kSz c.val.kids ≤ 1048576) (hk0 : 0 ≤ K) (hk1 : K ≤ 1000000000000000) :
    Calls Tryz.prog 17 #[.agg #[.string c.type, .int .i64 c.id, .string c.field, c1, c2, c3, c4, c5], .int .i64 K] w fun e w' => (∃ K' : Int, e = .returned (.int .i64 K') ∧ 0 ≤ K') ∧ MarkedN lo hi w w' := by
  go_enter Tryz.func17, Tryz.ntmps17
  have m0 : MarkedN lo hi w (w.alloc (.cells #[.string c.type, .int .i64 c.id, .string c.field, c1, c2, c3, c4, c5] 47)) := MarkedN.of_below lo hi (below_box w _)
  go_wp2_with fail
  refine (markValue_k c.val _ lo hi c1 c2 c3 c4 c5 K (h.keep m0) hn hs hk0 hk1).mono ?_
  rintro e w2 ⟨⟨K2, rfl, hK2⟩, m3⟩
  go_wp2_with fail
  go_ret
  exact ⟨⟨K2, rfl, hK2⟩, m0.trans m3⟩
end Go.Proofs.YtmemijccbmnaaaaGreat

namespace Go.Proofs.YtmemijccbmnaaaaGreat
set_option linter.unusedSimpArgs false
set_option linter.unusedVariables false
open Go.RowKit

theorem NumAt.block {w w' : World} {a : Addr} (h : NumAt w a) (e : w'.heap[a.block]? = w.heap[a.block]?) : NumAt w' a := by
  obtain ⟨⟨s, h1⟩, h2⟩ := h
  exact ⟨⟨s, (World.cell?_of_block e).trans h1⟩, (World.frozen?_of_block e).trans h2⟩
theorem TextAt.block {w w' : World} {a : Addr} (h : TextAt w a) (e : w'.heap[a.block]? = w.heap[a.block]?) : TextAt w' a := by
  obtain ⟨⟨s, h1⟩, h2⟩ := h
  exact ⟨⟨s, (World.cell?_of_block e).trans h1⟩, (World.frozen?_of_block e).trans h2⟩
theorem WStrs.block {w w' : World} {lo hi n : Nat} {a : Option Addr} (h : WStrs w lo hi n a) (e : ∀ b, lo ≤ b → b < hi → w'.heap[b]? = w.heap[b]?) : WStrs w' lo hi n a := fun hn => by
  obtain ⟨b, off, h0, h1, h2, hc⟩ := h hn
  exact ⟨b, off, h0, h1, h2, fun i hi => (hc i hi).block (e b h1 h2)⟩
theorem WVals.block {w w' : World} {lo hi : Nat} (e : ∀ b, lo ≤ b → b < hi → w'.heap[b]? = w.heap[b]?) : ∀ {f : Nat} {ks : List V} {a : Option Addr}, WVals w lo hi f ks a → WVals w' lo hi f ks a
  | 0, _, _, h => h
  | f + 1, ks, a, h => fun hn => by
    obtain ⟨b, off, h0, h1, h2, hc⟩ := h hn
    refine ⟨b, off, h0, h1, h2, fun i hi => ?_⟩
    obtain ⟨q0, q1, q2, ⟨na, nc, q3, q5⟩, ka, kc, q4, q6⟩ := hc i hi
    have eb := e b h1 h2
    exact ⟨q0.block eb, q1.block eb, q2.block eb, ⟨na, nc, (World.cell?_of_block (a := ⟨b, off + i * 5 + 3, none⟩) eb).trans q3, q5.block e⟩, ka, kc, (World.cell?_of_block (a := ⟨b, off + i * 5 + 4, none⟩) eb).trans q4, q6.block e⟩
theorem WCells.block {w w' : World} {lo hi : Nat} {cs : List Ce} {a : Option Addr} (h : WCells w lo hi cs a) (e : ∀ b, lo ≤ b → b < hi → w'.heap[b]? = w.heap[b]?) : WCells w' lo hi cs a := fun hn => by
  obtain ⟨b, off, h0, h1, h2, hc⟩ := h hn
  refine ⟨b, off, h0, h1, h2, fun i hi => ?_⟩
  obtain ⟨q0, q1, q1', q2, ⟨na, nc, q3, q5⟩, f, ka, kc, q4, q6⟩ := hc i hi
  have eb := e b h1 h2
  exact ⟨q0.block eb, q1.block eb, q1'.block eb, q2.block eb, ⟨na, nc, (World.cell?_of_block (a := ⟨b, off + i * 6 + 1 + 3, none⟩) eb).trans q3, q5.block e⟩, f, ka, kc, (World.cell?_of_block (a := ⟨b, off + i * 6 + 1 + 4, none⟩) eb).trans q4, q6.block e⟩
theorem WRows.block {w w' : World} {lo hi : Nat} {rs : List Ro} {a : Option Addr} (h : WRows w lo hi rs a) (e : ∀ b, lo ≤ b → b < hi → w'.heap[b]? = w.heap[b]?) : WRows w' lo hi rs a := fun hn => by
  obtain ⟨b, off, h0, h1, h2, hc⟩ := h hn
  refine ⟨b, off, h0, h1, h2, fun i hi => ?_⟩
  obtain ⟨q0, q1, ca, cc, q3, q5⟩ := hc i hi
  have eb := e b h1 h2
  exact ⟨q0.block eb, q1.block eb, ca, cc, (World.cell?_of_block (a := ⟨b, off + i * 3 + 2, none⟩) eb).trans q3, q5.block e⟩

set_option maxRecDepth 20000 in
set_option maxHeartbeats 1600000 in
theorem markRowS_g (rs : List Ro) (c lo hi : Nat) (K0 : Int) (a : Option Addr) (w : World) (h : WRows w lo hi rs a) (hn : rSz rs ≤ 1048576) (hk0 : 0 ≤ K0) (hk1 : K0 ≤ 100000000000000) :
    Calls Tryz.prog 16 #[.slice a rs.length c, .int .i64 K0] w fun e w' => (∃ K' : Int, e = .returned (.int .i64 K') ∧ 0 ≤ K' ∧ K' ≤ 1000000000000000) ∧ MarkedN lo hi w w' := by
    have hlen : rs.length ≤ 1048576 := by unfold rSz at hn; omega
    go_enter Tryz.func16, Tryz.ntmps16
    go_wp2_with fail
    go_loopw [1, 5] (fun kk i wr => ∃ (j : Nat) (q : Int), j ≤ rs.length ∧ 0 ≤ q ∧ q ≤ K0 + 4 * rSz (rs.take j) ∧ kk = .int .i64 q ∧ i = .int .i64 j ∧ MarkedN lo hi w wr) (fun _ i _ => rs.length - (intOf i).toNat)
    case atStart => exact ⟨0, K0, Nat.zero_le _, hk0, by omega, rfl, rfl, MarkedN.refl _ _ _⟩
    case round =>
      obtain ⟨j, K, hj, hK0, hKq, rfl, rfl, hm⟩ := hrel
      obtain ⟨w0, rfl⟩ : ∃ x, x = wr := ⟨wr, rfl⟩
      by_cases hlt : j < rs.length
      · obtain ⟨b, off, rfl, h1, h2, hcc⟩ := (h.keep hm) (by omega)
        obtain ⟨x0, x1, ca, cc, x3, x5⟩ := hcc j hlt
        clear hcc
        have hji : (j : Int) < (rs.length : Int) := by omega
        have g1 := rSz_take rs j hlt
        have g2 := rSz_part rs (j + 1)
        have g0 : szR (rth rs j) = (rth rs j).type.size + cSz (rth rs j).cells := rfl
        have hkl : cSz (rth rs j).cells ≤ 1048576 := by omega
        have hKm : K + 2 + 4 * cSz (rth rs j).cells ≤ K0 + 4 * rSz (rs.take (j + 1)) ∧ K0 + 4 * rSz (rs.take (j + 1)) ≤ 1000000000000000 := by omega
        have hKn : K + 2 + 4 * cSz (rth rs j).cells ≤ 1000000000000000 := by omega
        have HKB := hidM hKm
        have hB1 : Hid (lo ≤ b ∧ b < hi) := ⟨h1, h2⟩
        have HX := hidM (And.intro x0 (And.intro x1 (And.intro x3 x5)))
        clear x0 x1 x3 x5 h1 h2 g0 g1 g2 hKq hKm
        go_wp2_with fail
        refine (markText_i K w0 hK0 (by omega)).mono ?_
        rintro e w1 ⟨⟨mt0, rfl⟩, hb1⟩
        have m1 := MarkedN.of_below lo hi hb1
        obtain ⟨⟨s0, t0⟩, f0⟩ := HX.out.1.keep m1.m
        obtain ⟨⟨s1, t1⟩, f1⟩ := HX.out.2.1.keep m1
        have t3 := m1.m.list _ _ _ _ HX.out.2.2.1
        have HM1 := hidM m1
        clear m1 hb1
        go_wp2_with fail
        have n0 := MarkedN.set_text t0 hB1.out.1 hB1.out.2 mt0
        obtain ⟨⟨s1', t1'⟩, -⟩ := NumAt.keep ⟨⟨_, t1⟩, f1⟩ n0
        have n1 := HM1.out.trans (n0.trans (MarkedN.set_num t1' hB1.out.1 hB1.out.2 (K + 1)))
        obtain ⟨W1, hW1⟩ : ∃ W, W = (w1.setCell ⟨b, off + j * 3, none⟩ (.string mt0)).setCell ⟨b, off + j * 3 + 1, none⟩ (.int .i64 (K + 1)) := ⟨_, rfl⟩
        rw [← hW1] at n1
        rw [← hW1]
        clear hW1 t0 f0 t1 f1 t1' n0 t3
        refine (markCellS_k (rth rs j).cells cc lo hi (K + 1 + 1) ca W1 (HX.out.2.2.2.keep n1) hkl (by omega) (by omega)).mono ?_
        rintro e w5 ⟨⟨K', rfl, hK'0, hK'1⟩, m6⟩
        have m7 := hm.trans (n1.trans m6)
        clear m6 n1
        go_wp2_with fail
        go_roundw
        case rel => exact ⟨j + 1, K', by omega, hK'0, by have := HKB.out; omega, rfl, by go_num, m7⟩
        case measure => simp [intOf]; omega
      · go_wp2_with fail
        go_ret
        have e : j = rs.length := by omega
        exact ⟨⟨K, rfl, hK0, by have := rSz_part rs j; omega⟩, hm⟩
end Go.Proofs.YtmemijccbmnaaaaGreat

namespace Go.Proofs.YtmemijccbmnaaaaGreat
set_option linter.unusedSimpArgs false
set_option linter.unusedVariables false
open Go.RowKit

theorem LKids.below {w w' : World} {lab : Nat → List Nat} {p : List Nat} {ks : List V} {ka : Option Addr} (h : LKids w lab p ks ka) (hl : ∀ c, lab c ≠ [] → c < w.heap.size) (hb : Below w.heap.size w w') : LKids w' lab p ks ka := h.keep fun c h1 _ => hb.block c (hl c h1)

def HdOk (x : V) : Prop := ∀ (lab : Nat → List Nat) (p : List Nat) (ka : Option Addr) (kc k : Nat) (w : World), LKids w lab p (mkL x.kids k) ka → (∀ c, lab c ≠ [] → c < w.heap.size) → k + nL x.kids ≤ 1000000000000 → szV x ≤ 1048576 →
  Calls Tryz.prog 72 #[.slice ka x.kids.length kc, .int .i64 k] w fun e w' => e = .returned (.int .i64 ((k + nL x.kids : Nat) : Int)) ∧ Below w.heap.size w w'

set_option maxRecDepth 20000 in
set_option maxHeartbeats 1600000 in
theorem heldValueS_step (x : V) (IH : ∀ i, i < x.kids.length → HdOk (kth x.kids i)) : HdOk x := by
  intro lab p ka kc k w hK hlab hk hsz
  obtain ⟨s, n, t, ns, ks⟩ := x
  simp only at IH hK hk ⊢
  obtain ⟨b, off, C, hb, hc, hr⟩ := hK
  rw [mkL_len] at hc hr
  have hsz2 : ks.length + sL ks ≤ 1048576 := by have := szV_eq (.mk s n t ns ks); simp only at this; omega
  go_enter Tryz.func72, Tryz.ntmps72
  go_wp2_with fail
  go_loopw [1, 5] (fun kk i wr => ∃ j : Nat, j ≤ ks.length ∧ i = .int .i64 j ∧ kk = .int .i64 ((k + nL (ks.take j) : Nat) : Int) ∧ Below w.heap.size w wr) (fun _ i _ => ks.length - (intOf i).toNat)
  case atStart => exact ⟨0, Nat.zero_le _, rfl, by simp [nL], Below.refl _ _⟩
  case round =>
    obtain ⟨j, hj, rfl, rfl, hbel⟩ := hrel
    obtain ⟨w0, rfl⟩ : ∃ y, y = wr := ⟨wr, rfl⟩
    by_cases hlt : j < ks.length
    · have hne : mkL ks k ≠ [] := fun e => by have := mkL_len ks k; rw [e] at this; simp at this; omega
      obtain ⟨rfl, hlb, -⟩ := hb hne
      have hrj := hr j hlt
      rw [mkL_kth ks k j hlt] at hrj
      obtain ⟨na, ka', nc, kc', ev, hN, hKj⟩ := hrj.inv
      simp only [Value.agg.injEq, Array.mk.injEq, List.cons.injEq, and_true, mk1, mkNs_len, mkL_len] at ev hN hKj
      obtain ⟨e0, e1, e2, e3, e4⟩ := ev
      have p0 := hc j hlt 0 (by omega)
      have p1 := hc j hlt 1 (by omega)
      have p2 := hc j hlt 2 (by omega)
      have p3 := hc j hlt 3 (by omega)
      have p4 := hc j hlt 4 (by omega)
      rw [e0, Nat.add_zero] at p0
      rw [e1] at p1
      rw [e2] at p2
      rw [e3] at p3
      rw [e4] at p4
      obtain ⟨q, hq⟩ : ∃ q, q = k + nL (ks.take j) := ⟨_, rfl⟩
      rw [← hq] at p0 p1 p2 hN hKj ⊢
      have hnt := nL_take ks j hlt
      have hnp := nL_part ks (j + 1)
      have hnv := nV_eq (kth ks j)
      have hszj : szV (kth ks j) ≤ 1048576 := by have := szV_kth ks j hlt; omega
      have hnl : (kth ks j).names.length ≤ 1048576 := by have := len_szNs (kth ks j).names; have := szV_eq (kth ks j); omega
      have hqb : q + 3 + nV (kth ks j) ≤ 1000000000000 := by omega
      have hqi : (q : Int) ≤ 1000000000000 := by omega
      have hji : (j : Int) < (ks.length : Int) := by omega
      have hbl : b < w.heap.size := hlab b (by rw [hlb]; simp)
      have HQ : Hid (q = k + nL (ks.take j)) := hq
      have HNT : Hid (nL (ks.take (j + 1)) = nL (ks.take j) + (3 + nV (kth ks j))) := hnt
      have z0 := hbel.size
      have cell : ∀ (W : World), Below w.heap.size w W → ∀ m u, w.cell? ⟨b, m, none⟩ = some u → W.cell? ⟨b, m, none⟩ = some u := fun W hW m u h => (hW.cell (p := ⟨b, m, none⟩) hbl).trans h
      have r0 := cell w0 hbel _ _ p0
      have r1 := cell w0 hbel _ _ p1
      have r2 := cell w0 hbel _ _ p2
      rw [show ((q + 1 : Nat) : Int) = (q : Int) + 1 by omega] at r1
      have HCE := hidM cell
      have HN := hidM hN
      have HKJ := hidM hKj
      have hM := markText_any (q + 2) w0.drew (by omega)
      rw [show ((q + 2 : Nat) : Int) = (q : Int) + 1 + 1 by omega] at hM
      generalize hmt : mtext (q + 2) = mt at r2 hM p2
      have HM := hidM hM
      clear hc hr hq hnt hrj e0 e1 e2 e3 e4 cell hN hKj hM hmt
      go_wp2_with fail
      go_cut [37] (fun r wx => r = .bool false ∧ Below w.heap.size w wx)
      case first =>
        go_region_held3 (fun w' => w'.cell? ⟨b, off + j * 5 + 2, none⟩ = some (.string mt)) (go_keep)
          (first
            | (
              go_at_call 36
              refine HM.out.mono ?_
              rintro e w1 ⟨rfl, hb1⟩
              have hb1' := hbel.trans ((below_undrew hb1).mono z0)
              have c1 := HCE.out w1 hb1' _ _ p2))
        all_goals
          go_wp2_with fail
          go_meet
          case rel => exact ⟨rfl, hb1'⟩
      case rest =>
      obtain ⟨rfl, hb1⟩ := hcut
      obtain ⟨w1, rfl⟩ : ∃ y, y = wc := ⟨wc, rfl⟩
      clear r0 r1 r2
      have z1 := hb1.size
      have r3 := HCE.out w1 hb1 _ _ p3
      have hH := heldStringS_any (kth ks j).names.length nc (q + 3) na w1 (fun h0 => by
        obtain ⟨nb, no, n1, n2, -, n4⟩ := HN.out (fun e => by have := mkNs_len (kth ks j).names.length (q + 3); rw [e] at this; simp at this; omega)
        refine ⟨nb, no, n1, fun i hi => ?_⟩
        rw [mkNs_len] at n4
        have := n4 i hi
        rw [mkNs_nth _ _ _ hi] at this
        exact (hb1.cell (p := ⟨nb, no + i, none⟩) (hlab nb (by rw [n2]; simp))).trans this) hnl (by omega)
      rw [show ((q + 3 : Nat) : Int) = (q : Int) + 1 + 1 + 1 by omega] at hH
      have HH := hidM hH
      clear hH
      go_wp2_with fail
      refine HH.out.mono ?_
      rintro e w2 ⟨rfl, hb2⟩
      have b2 := hb1.trans (hb2.mono z1)
      have z2 := b2.size
      have r4 := HCE.out w2 b2 _ _ p4
      have hI := IH j hlt lab ((j + 2) :: p) ka' kc' (q + 3 + (kth ks j).names.length) w2 (HKJ.out.below hlab b2) (fun c hc => by have := hlab c hc; omega) (by omega) hszj
      rw [show ((q + 3 + (kth ks j).names.length : Nat) : Int) = (q : Int) + 3 + ((kth ks j).names.length : Int) by omega] at hI
      have HI := hidM hI
      have hpos : ¬ (q : Int) + 3 + ((kth ks j).names.length : Int) < 0 := by omega
      clear hI r3
      go_wp2_with fail
      refine HI.out.mono ?_
      rintro e w3 ⟨rfl, hb3⟩
      have b3 := b2.trans (hb3.mono z2)
      have hpos2 : ¬ ((q + 3 + (kth ks j).names.length + nL (kth ks j).kids : Nat) : Int) < 0 := by omega
      go_wp2_with fail
      go_roundw
      case measure => simp [intOf]; omega
      case rel =>
        refine ⟨j + 1, by omega, by go_num, ?_, b3⟩
        have h1 := HNT.out
        have h2 := HQ.out
        congr 1
        omega
    · go_wp2_with fail
      go_ret
      have e : j = ks.length := by omega
      subst e
      exact ⟨by rw [List.take_length]; rfl, hbel⟩
theorem heldValueS_l (x : V) : HdOk x := v_ind (q := HdOk) heldValueS_step x
end Go.Proofs.YtmemijccbmnaaaaGreat
