import Derived.Test.YtmemijccbmnaaaaGreatJ9
import Derived.Test.YtmemijccbmnaaaaGreatJ11
import Derived.BigQuiet
import Derived.Laws.EntriesVeiled
import Derived.Test.YtmemijccbmnaaaaGreatJ14
import Derived.Deep.RegionHeld3
import Derived.Deep.RegionWith
import Derived.Test.YtmemijccbmnaaaaGreatJ15
namespace Go.Proofs.YtmemijccbmnaaaaGreat
set_option linter.unusedSimpArgs false
set_option linter.unusedVariables false
open Go.RowKit

/-- A change in memory: eight cells. -/
def chv (c : Ch) (v0 v1 v2 v3 v4 : Value) : Value := .agg #[.string c.type, .int .i64 c.id, .string c.field, v0, v1, v2, v3, v4]
/-- What cell answers. -/
def CellP (w : World) (rs : List Ro) (ra : Option Addr) (c : Ch) (e : Ending) : Prop := match cTo rs c rs.length with
  | none => e = .returned (.pointer none)
  | some q => ∃ rb roff cb coff cc, ra = some ⟨rb, roff, none⟩ ∧ w.cell? ⟨rb, roff + q.1 * 3 + 2, none⟩ = some (.slice (some ⟨cb, coff, none⟩) (rth rs q.1).cells.length cc) ∧ e = .returned (.pointer (some ⟨cb, coff + q.2 * 6 + 1, none⟩))
theorem cTo_more {rs : List Ro} {c : Ch} {n : Nat} {q : Nat × Nat} (h : cTo rs c n = some q) : ∀ m, cTo rs c (n + m) = some q
  | 0 => h
  | m + 1 => by
    have := cTo_more h m
    show cTo rs c (n + m + 1) = some q
    rw [cTo, this]

set_option maxRecDepth 20000 in
set_option maxHeartbeats 1600000 in
theorem cell_any (rs : List Ro) (c : Ch) (w : World) (P : Nat → Prop) (ra : Option Addr) (rc : Nat) (v0 v1 v2 v3 v4 : Value) (hR : RoReps w P rs ra) (hP : ∀ b, P b → b < w.heap.size) :
    Calls Tryz.prog 94 #[chv c v0 v1 v2 v3 v4, .slice ra rs.length rc] w fun e w' => CellP w rs ra c e ∧ Below w.heap.size w w' := by
  obtain ⟨h48, C, hA, hr⟩ := id hR
  unfold chv
  go_enter Tryz.func94, Tryz.ntmps94
  go_wp2_with fail
  have bX := below_box w (.cells #[.string c.type, .int .i64 c.id, .string c.field, v0, v1, v2, v3, v4] 47)
  have nX := block_new (w := w) #[.string c.type, .int .i64 c.id, .string c.field, v0, v1, v2, v3, v4] 47 rfl
  obtain ⟨X, hXe⟩ : ∃ X, X = w.alloc (.cells #[.string c.type, .int .i64 c.id, .string c.field, v0, v1, v2, v3, v4] 47) := ⟨_, rfl⟩
  have HXE := hid_of hXe
  rw [← hXe] at bX nX
  have zX : w.heap.size < X.heap.size := by rw [hXe]; simp
  clear hXe
  have PC : ∀ W, Below (w.heap.size + 1) X W → W.cell? ⟨w.heap.size, 0, none⟩ = some (.string c.type) ∧ W.cell? ⟨w.heap.size, 1, none⟩ = some (.int .i64 c.id) ∧ W.cell? ⟨w.heap.size, 2, none⟩ = some (.string c.field) ∧ Below w.heap.size w W := fun W h => by
    have hb := (h.block w.heap.size (by omega)).trans nX
    exact ⟨(box_at hb 0 (by simp)).1, (box_at hb 1 (by simp)).1, (box_at hb 2 (by simp)).1, bX.trans (h.mono (by omega))⟩
  have HPC := hid_of PC
  clear PC
  go_loopw [9] (fun i wr => ∃ (k : Nat), k ≤ rs.length ∧ i = .int .i64 k ∧ Hid (cTo rs c k = none) ∧ Below (w.heap.size + 1) X wr) (fun i _ => rs.length - (intOf i).toNat)
  case atStart => exact ⟨0, Nat.zero_le _, rfl, hid_of rfl, by rw [← HXE.out]; exact Below.refl _ _⟩
  case round =>
    obtain ⟨k, hk, rfl, HN, hbel⟩ := hrel
    obtain ⟨w0, rfl⟩ : ∃ x, x = wr := ⟨wr, rfl⟩
    obtain ⟨p0, p1, p2, bw⟩ := HPC.out w0 hbel
    by_cases hlt : k < rs.length
    · obtain ⟨rb, roff, rfl, hrB, hrc'⟩ := hA (by omega)
      have hki : (k : Int) < (rs.length : Int) := by omega
      obtain ⟨ca, ccp, e0, e1, e2, hCe, hcc, htz⟩ := (hr k hlt).pieces
      have hck : ∀ W, Below w.heap.size w W → W.cell? ⟨rb, roff + k * 3, none⟩ = some (.string (rth rs k).type) ∧ W.cell? ⟨rb, roff + k * 3 + 1, none⟩ = some (.int .i64 (rth rs k).id) ∧ W.cell? ⟨rb, roff + k * 3 + 2, none⟩ = some (.slice ca (rth rs k).cells.length ccp) := fun W hW => by
        have h : ∀ m, m < 3 → W.cell? ⟨rb, roff + k * 3 + m, none⟩ = some (C k m) := fun m hm => (hW.cell (p := ⟨rb, roff + k * 3 + m, none⟩) (hP rb hrB)).trans (hrc' k hlt m hm)
        exact ⟨e0 ▸ h 0 (by omega), e1 ▸ h 1 (by omega), e2 ▸ h 2 (by omega)⟩
      have HCK := hid_of hck
      obtain ⟨r0, r1, r2⟩ := hck w0 bw
      have HR2 := hid_of ((hck w (Below.refl _ _)).2.2)
      have HCT : Hid (∀ (b : Bool), ((rth rs k).type = c.type ∧ (rth rs k).id = c.id) = (b = true) → cTo rs c (k + 1) = if b = true then (fc (rth rs k).cells c.field (rth rs k).cells.length).map fun j => (k, j) else none) := hid_of fun b hb => by rw [cTo, HN.out]; simp only [hb]
      clear hck e0 e1 e2
      cases hq : ((rth rs k).type.toList == c.type.toList)
      · have hne : ¬ ((rth rs k).type = c.type ∧ (rth rs k).id = c.id) := fun h => by rw [h.1] at hq; simp at hq
        have HNN : Hid (cTo rs c (k + 1) = none) := hid_of (by have := HCT.out false (by simp [hne]); simpa using this)
        clear hne
        go_wp2_with fail
        go_quiet (fail)
        go_wp2_with fail
        go_roundw
        case rel => exact ⟨k + 1, by omega, by go_num, HNN, below_drews hbel _⟩
        case measure => simp [intOf]; omega
      · have hte := bytes_inj (by simpa using hq : (rth rs k).type.toList = c.type.toList)
        by_cases hid : (rth rs k).id = c.id
        · have HYY : Hid (cTo rs c (k + 1) = (fc (rth rs k).cells c.field (rth rs k).cells.length).map fun j => (k, j)) := hid_of (by have := HCT.out true (by simp [hte, hid]); simpa using this)
          have HTE := hid_of hte
          clear hte
          have HID := hid_of hid
          rw [hid] at r1
          obtain ⟨h96, D, hAD, hrD⟩ := hCe
          have HMO : Hid (∀ q, cTo rs c (k + 1) = some q → cTo rs c rs.length = some q) := hid_of fun q hq => by
            have := cTo_more hq (rs.length - (k + 1))
            rw [show k + 1 + (rs.length - (k + 1)) = rs.length by omega] at this
            exact this
          clear hid
          go_wp2_with fail
          go_quiet (fail)
          go_wp2_with fail
          have hbq := below_drews hbel nq
          generalize w0.drewN nq = w1 at *
          clear p0 p1 p2 r0 r1 r2 bw hbel
          generalize hrr : rth rs k = r at *
          have HRR := hid_of hrr
          clear hrr
          go_loopw [36] (fun i wr => ∃ (n : Nat), n ≤ r.cells.length ∧ i = .int .i64 n ∧ Hid (fc r.cells c.field n = none) ∧ Below (w.heap.size + 1) X wr) (fun i _ => r.cells.length - (intOf i).toNat)
          case atStart => exact ⟨0, Nat.zero_le _, rfl, hid_of rfl, hbq⟩
          case round =>
            clear hbq
            obtain ⟨n, hn, rfl, HF, hbel⟩ := hrel
            obtain ⟨w2, rfl⟩ : ∃ x, x = wr := ⟨wr, rfl⟩
            obtain ⟨p0, p1, p2, bw⟩ := HPC.out w2 hbel
            obtain ⟨r0, r1, r2⟩ := HCK.out w2 bw
            by_cases hnt : n < r.cells.length
            · obtain ⟨cb, coff, rfl, hcB, hcD⟩ := hAD (by omega)
              have hni : (n : Int) < (r.cells.length : Int) := by omega
              obtain ⟨e0, -, -⟩ := (hrD n hnt).pieces
              have q0 : w2.cell? ⟨cb, coff + n * 6, none⟩ = some (.string (cth r.cells n).name) := (bw.cell (p := ⟨cb, coff + n * 6, none⟩) (hP cb hcB)).trans (e0 ▸ hcD n hnt 0 (by omega))
              clear e0
              cases hq2 : ((cth r.cells n).name.toList == c.field.toList)
              · have HNF := hid_of (fc_not HF.out (show ¬ (cth r.cells n).name = c.field from fun e => by rw [e] at hq2; simp at hq2))
                go_wp2_with fail
                go_quiet (fail)
                go_wp2_with fail
                go_roundw
                case rel => exact ⟨n + 1, by omega, by go_num, HNF, below_drews hbel _⟩
                case measure => simp [intOf]; omega
              · have HAT := hid_of (fc_at HF.out hnt (bytes_inj (by simpa using hq2)))
                go_wp2_with fail
                go_quiet (fail)
                go_wp2_with fail
                go_ret
                refine ⟨?_, below_drews bw _⟩
                unfold CellP
                rw [HMO.out (k, n) (by rw [HYY.out, HAT.out]; rfl)]
                exact ⟨rb, roff, cb, coff, ccp, rfl, by show w.cell? ⟨rb, roff + k * 3 + 2, none⟩ = some (.slice _ (rth rs k).cells.length _); rw [HRR.out]; exact HR2.out, rfl⟩
            · have e : n = r.cells.length := by omega
              subst e
              have HNN : Hid (cTo rs c (k + 1) = none) := hid_of (by rw [HYY.out, HF.out]; rfl)
              go_wp2_with fail
              go_roundw
              case rel => exact ⟨k + 1, by omega, by go_num, HNN, hbel⟩
              case measure => simp [intOf]; omega
        · have hne : ¬ ((rth rs k).type = c.type ∧ (rth rs k).id = c.id) := fun h => hid h.2
          have HNN : Hid (cTo rs c (k + 1) = none) := hid_of (by have := HCT.out false (by simp [hne]); simpa using this)
          clear hne hte
          go_wp2_with fail
          go_quiet (fail)
          go_wp2_with fail
          go_roundw
          case rel => exact ⟨k + 1, by omega, by go_num, HNN, below_drews hbel _⟩
          case measure => simp [intOf]; omega
    · have e : k = rs.length := by omega
      subst e
      go_wp2_with fail
      go_ret
      exact ⟨by unfold CellP; rw [HN.out]; rfl, bw⟩
end Go.Proofs.YtmemijccbmnaaaaGreat

namespace Go.Proofs.YtmemijccbmnaaaaGreat
set_option linter.unusedSimpArgs false
set_option linter.unusedVariables false
open Go.RowKit

/-- A change in a box. -/
def ChBox (w : World) (b : Nat) (c : Ch) (v0 v1 v2 v3 v4 : Value) : Prop := w.heap[b]? = some (.cells #[.string c.type, .int .i64 c.id, .string c.field, v0, v1, v2, v3, v4] 47 (0, 0))
/-- The five cells of a value, told. -/
structure Five5 (v0 v1 v2 v3 v4 : Value) : Prop where
  h : ∃ (s n : Int) (t : ByteArray) (na ka : Option Addr) (nl nc kl kc : Nat), v0 = .int .i64 s ∧ v1 = .int .i64 n ∧ v2 = .string t ∧ v3 = .slice na nl nc ∧ v4 = .slice ka kl kc
theorem CellP.none {w : World} {rs : List Ro} {ra : Option Addr} {c : Ch} {e : Ending} (h : CellP w rs ra c e) (hn : cTo rs c rs.length = none) : e = .returned (.pointer none) := by
  unfold CellP at h
  rw [hn] at h
  exact h
theorem CellP.some {w : World} {rs : List Ro} {ra : Option Addr} {c : Ch} {e : Ending} {q : Nat × Nat} (h : CellP w rs ra c e) (hn : cTo rs c rs.length = some q) : ∃ a, e = .returned (.pointer (some a)) := by
  unfold CellP at h
  rw [hn] at h
  obtain ⟨rb, roff, cb, coff, cc, -, -, h⟩ := h
  exact ⟨_, h⟩

set_option maxRecDepth 20000 in
set_option maxHeartbeats 800000 in
theorem lacks_any (rs : List Ro) (c : Ch) (w : World) (P : Nat → Prop) (ra : Option Addr) (rc cb : Nat) (v0 v1 v2 v3 v4 : Value) (hR : RoReps w P rs ra) (hP : ∀ b, P b → b < w.heap.size) (hc : ChBox w cb c v0 v1 v2 v3 v4) (h5 : Five5 v0 v1 v2 v3 v4) :
    Calls Tryz.prog 96 #[.slice ra rs.length rc, .pointer (some ⟨cb, 0, none⟩)] w fun e w' => e = .returned (.bool (cTo rs c rs.length).isNone) ∧ Below w.heap.size w w' := by
  obtain ⟨s, n, t, na, ka, nl, nc, kl, kc, rfl, rfl, rfl, rfl, rfl⟩ := h5.h
  unfold ChBox at hc
  have c0 := (box_at hc 0 (by simp)).1
  have c1 := (box_at hc 1 (by simp)).1
  have c2 := (box_at hc 2 (by simp)).1
  have c3 := (box_at hc 3 (by simp)).1
  have c4 := (box_at hc 4 (by simp)).1
  have c5 := (box_at hc 5 (by simp)).1
  have c6 := (box_at hc 6 (by simp)).1
  have c7 := (box_at hc 7 (by simp)).1
  have hC := cell_any rs c w P ra rc (.int .i64 s) (.int .i64 n) (.string t) (.slice na nl nc) (.slice ka kl kc) hR hP
  unfold chv at hC
  have HC := hid_of hC
  clear hC hc
  go_enter Tryz.func96, Tryz.ntmps96
  go_wp2_with fail
  refine HC.out.mono ?_
  rintro e w1 ⟨hp, hb⟩
  cases hq : cTo rs c rs.length with
  | none =>
    have he := hp.none hq
    subst he
    clear hp
    go_wp2_with fail
    go_ret
    exact ⟨ret_bool (by rw [hq]; rfl), hb⟩
  | some q =>
    obtain ⟨a, rfl⟩ := hp.some hq
    clear hp
    go_wp2_with fail
    go_ret
    exact ⟨ret_bool (by rw [hq]; rfl), hb⟩

set_option maxRecDepth 20000 in
set_option maxHeartbeats 1600000 in
theorem indexLacks_any (rs : List Ro) (c : Ch) (w : World) (P : Nat → Prop) (ra : Option Addr) (rc cb ob oc : Nat) (v0 v1 v2 v3 v4 : Value) (hR : RoReps w P rs ra) (hP : ∀ b, P b → b < w.heap.size) (hc : ChBox w cb c v0 v1 v2 v3 v4) (h5 : Five5 v0 v1 v2 v3 v4) (ho : w.cell? ⟨ob, 0, none⟩ = some (.slice ra rs.length rc)) :
    Calls Tryz.prog 127 #[.slice (some ⟨ob, 0, none⟩) 1 oc, .func (.func 96) #[] #[.pointer (some ⟨cb, 0, none⟩)]] w fun e w' => e = .returned (.int .i64 (if (cTo rs c rs.length).isNone = true then 0 else -1)) ∧ Below w.heap.size w w' := by
  have hob : ob < w.heap.size := cell_block' ho
  have hcb : cb < w.heap.size := (Array.getElem?_eq_some_iff.1 hc).1
  have hF := lacks_any rs c w P ra rc cb v0 v1 v2 v3 v4 hR hP hc h5
  obtain ⟨q, hq⟩ : ∃ q, q = (cTo rs c rs.length).isNone := ⟨_, rfl⟩
  rw [← hq] at hF ⊢
  clear hq
  go_enter Tryz.func127, Tryz.ntmps127
  go_wp2_with fail
  go_loopw [8] (fun i wr => ∃ k : Nat, k ≤ 1 ∧ i = .int .i64 k ∧ Below w.heap.size w wr ∧ (k = 0 → wr = w) ∧ (0 < k → q = false)) (fun i _ => 1 - (intOf i).toNat)
  case atStart => exact ⟨0, by omega, rfl, Below.refl _ _, fun _ => rfl, fun h => by omega⟩
  case round =>
    obtain ⟨k, hk, rfl, hbel, h0, h1⟩ := hrel
    by_cases hlt : k < 1
    · have e : k = 0 := by omega
      subst e
      have hw := h0 rfl
      subst hw
      clear h0 h1
      cases q
      · go_wp2_with fail
        refine hF.mono ?_
        rintro e w1 ⟨rfl, hb⟩
        go_wp2_with fail
        go_roundw
        case rel => exact ⟨1, by omega, rfl, hb, fun h => by omega, fun _ => trivial⟩
        case measure => simp [intOf]
      · go_wp2_with fail
        refine hF.mono ?_
        rintro e w1 ⟨rfl, hb⟩
        go_wp2_with fail
        go_ret
        exact ⟨rfl, hb⟩
    · have e : k = 1 := by omega
      subst e
      have hqf := h1 (by omega)
      subst hqf
      clear h0 h1
      go_wp2_with fail
      go_ret
      exact ⟨rfl, hbel⟩

set_option maxHeartbeats 800000 in
theorem containsLacks_any (rs : List Ro) (c : Ch) (w : World) (P : Nat → Prop) (ra : Option Addr) (rc cb ob oc : Nat) (v0 v1 v2 v3 v4 : Value) (hR : RoReps w P rs ra) (hP : ∀ b, P b → b < w.heap.size) (hc : ChBox w cb c v0 v1 v2 v3 v4) (h5 : Five5 v0 v1 v2 v3 v4) (ho : w.cell? ⟨ob, 0, none⟩ = some (.slice ra rs.length rc)) :
    Calls Tryz.prog 95 #[.slice (some ⟨ob, 0, none⟩) 1 oc, .func (.func 96) #[] #[.pointer (some ⟨cb, 0, none⟩)]] w fun e w' => e = .returned (.bool (cTo rs c rs.length).isNone) ∧ Below w.heap.size w w' := by
  have hF := indexLacks_any rs c w P ra rc cb ob oc v0 v1 v2 v3 v4 hR hP hc h5 ho
  obtain ⟨q, hq⟩ : ∃ q, q = (cTo rs c rs.length).isNone := ⟨_, rfl⟩
  rw [← hq] at hF ⊢
  clear hq
  go_enter Tryz.func95, Tryz.ntmps95
  go_wp2_with fail
  refine hF.mono ?_
  rintro e w1 ⟨rfl, hb⟩
  cases q
  · simp only [Bool.false_eq_true, if_false]
    go_wp2_with fail
    go_ret
    exact ⟨rfl, hb⟩
  · simp only [if_true]
    go_wp2_with fail
    go_ret
    exact ⟨rfl, hb⟩
end Go.Proofs.YtmemijccbmnaaaaGreat

namespace Go.Proofs.YtmemijccbmnaaaaGreat
set_option linter.unusedSimpArgs false
set_option linter.unusedVariables false
open Go.RowKit

/-- Where a value of a row lies. -/
theorem RM.place {L : Bool} {lo : Nat} {w : World} {rl : List Ro} {a : Option Addr} {b0 : Nat} {A : Nat → Option Addr} {K : Nat → Nat} {lab : Nat → List Nat} (h : RM L lo w rl a b0 A K lab) {i j : Nat} (hi : i < rl.length) (hj : j < (rth rl i).cells.length) :
    ∃ (b off : Nat) (s n : Int) (t : ByteArray) (na ka : Option Addr) (nl nc kl kc : Nat), A i = some ⟨b, off, none⟩ ∧ b < w.heap.size ∧ (∀ m, w.frozen? ⟨b, m, none⟩ = false) ∧ w.cell? ⟨b, off + j * 6 + 1, none⟩ = some (.int .i64 s) ∧ w.cell? ⟨b, off + j * 6 + 1 + 1, none⟩ = some (.int .i64 n) ∧ w.cell? ⟨b, off + j * 6 + 1 + 2, none⟩ = some (.string t) ∧ w.cell? ⟨b, off + j * 6 + 1 + 3, none⟩ = some (.slice na nl nc) ∧ w.cell? ⟨b, off + j * 6 + 1 + 4, none⟩ = some (.slice ka kl kc) := by
  obtain ⟨b, off, e1, e2, e3, C, c1, c2⟩ := h.cells i hi (by omega)
  obtain ⟨-, -, q2, -⟩ := c2 j hj
  obtain ⟨na, ka, nc, kc, e5, -⟩ := q2.form
  simp only [Value.agg.injEq, Array.mk.injEq, List.cons.injEq, and_true] at e5
  obtain ⟨f1, f2, f3, f4, f5⟩ := e5
  have k1 := c1 j hj 1 (by omega)
  have k2 := c1 j hj 2 (by omega)
  have k3 := c1 j hj 3 (by omega)
  have k4 := c1 j hj 4 (by omega)
  have k5 := c1 j hj 5 (by omega)
  rw [f1] at k1
  rw [f2] at k2
  rw [f3] at k3
  rw [f4] at k4
  rw [f5] at k5
  exact ⟨b, off, _, _, _, na, ka, _, nc, _, kc, e1, (h.way b (by rw [e2]; simp)).2, e3, k1, k2, k3, k4, k5⟩
theorem cTo_lt {rs : List Ro} {c : Ch} {i j : Nat} : ∀ {n : Nat}, n ≤ rs.length → cTo rs c n = some (i, j) → i < rs.length ∧ j < (rth rs i).cells.length ∧ (cth (rth rs i).cells j).name = c.field
  | 0, _, h => by simp [cTo] at h
  | n + 1, hn, h => by
    rw [cTo] at h
    cases hq : cTo rs c n with
    | some q => rw [hq] at h; simp only [Option.some.injEq] at h; exact cTo_lt (by omega) (hq.trans (by rw [h]))
    | none =>
      rw [hq] at h
      by_cases e : (rth rs n).type = c.type ∧ (rth rs n).id = c.id
      · simp only [if_pos e] at h
        cases hf : fc (rth rs n).cells c.field (rth rs n).cells.length with
        | none => rw [hf] at h; simp at h
        | some k =>
          rw [hf] at h
          simp only [Option.map_some, Option.some.injEq, Prod.mk.injEq] at h
          obtain ⟨rfl, rfl⟩ := h
          obtain ⟨m, -, -, -, h4, h5⟩ := fc_found hf
          exact ⟨by omega, fc_lt hf, by rw [h5]; exact h4⟩
      · simp only [if_neg e] at h; cases h
theorem aside_put5 {S : Nat → Prop} (w : World) (N k : Nat) (c0 c1 c2 c3 c4 : Value) (h : S N) : Aside S w (put5 w N k c0 c1 c2 c3 c4) :=
  ((((Aside.set w ⟨N, k, none⟩ c0 h).trans (Aside.set _ ⟨N, k + 1, none⟩ c1 h)).trans (Aside.set _ ⟨N, k + 2, none⟩ c2 h)).trans (Aside.set _ ⟨N, k + 3, none⟩ c3 h)).trans (Aside.set _ ⟨N, k + 4, none⟩ c4 h)
/-- Rows behind a change that is taken. -/
def putAt (rs : List Ro) (i j : Nat) (f : ByteArray) (x : V) : List Ro := rs.set i ⟨(rth rs i).type, (rth rs i).id, (rth rs i).cells.set j ⟨f, x⟩⟩

set_option maxRecDepth 20000 in
set_option maxHeartbeats 3200000 in
theorem put_any (rs : List Ro) (c : Ch) (w : World) (lo B : Nat) (ra : Option Addr) (rc b0 : Nat) (A : Nat → Option Addr) (K : Nat → Nat) (lab : Nat → List Nat) (v0 v1 v2 v3 v4 : Value) (h5 : Five5 v0 v1 v2 v3 v4) (hM : RM true lo w rs ra b0 A K lab) (hlo : lo ≤ w.heap.size) (hV : Rep w (· < B) c.val (.agg #[v0, v1, v2, v3, v4])) (hB : B ≤ w.heap.size) (hsx : szV c.val ≤ 1048576) (i j : Nat) (hq : cTo rs c rs.length = some (i, j)) :
    Calls Tryz.prog 63 #[chv c v0 v1 v2 v3 v4, .slice ra rs.length rc] w fun e w' => e = .returned (.tuple #[]) ∧ Aside (fun b => lab b ≠ []) w w' ∧ ∃ lab', RM true lo w' (putAt rs i j c.field c.val) ra b0 A K lab' := by
  obtain ⟨s, n, t, na, ka, nl, nc, kl, kc, rfl, rfl, rfl, rfl, rfl⟩ := h5.h
  obtain ⟨hi, hj, hnm⟩ := cTo_lt (Nat.le_refl _) hq
  obtain ⟨b, off, s', n', t', na', ka', nl', nc', kl', kc', hA, hbl, hfz, k1, k2, k3, k4, k5⟩ := hM.place hi hj
  have hbase := (hM.base (by omega)).1
  subst hbase
  have hrow := (hM.rowc i hi).2.2
  have hC := fun W (hW : Below w.heap.size w W) => cell_any rs c W (fun b => lo ≤ b ∧ b < w.heap.size) (some ⟨b0, 0, none⟩) rc (.int .i64 s) (.int .i64 n) (.string t) (.slice na nl nc) (.slice ka kl kc) ((hM.reps).mono fun b hb => hW.block b hb.2) (fun b hb => by have := hW.size; omega)
  have hP : ∀ W e, Below w.heap.size w W → CellP W rs (some ⟨b0, 0, none⟩) c e → e = .returned (.pointer (some ⟨b, off + j * 6 + 1, none⟩)) := fun W e hW hp => by
    unfold CellP at hp
    rw [hq] at hp
    obtain ⟨rb, roff, cb, coff, cc, e1, e2, e3⟩ := hp
    simp only [Option.some.injEq, Addr.mk.injEq, and_true] at e1
    obtain ⟨rfl, rfl⟩ := e1
    have hb0 : b0 < w.heap.size := (hM.way b0 (by rw [(hM.base (by omega)).2.1]; simp)).2
    have hr' : W.cell? ⟨b0, i * 3 + 2, none⟩ = some (.slice (A i) (rth rs i).cells.length (K i)) := (hW.cell (p := ⟨b0, i * 3 + 2, none⟩) hb0).trans hrow
    simp only [Nat.zero_add] at e2
    rw [hr', hA] at e2
    simp only [Option.some.injEq, Value.slice.injEq, Addr.mk.injEq, and_true, true_and] at e2
    obtain ⟨⟨rfl, rfl⟩, -⟩ := e2
    exact e3
  unfold chv at hC ⊢
  have HC := hid_of hC
  have HP := hid_of hP
  have HFZ := hid_of hfz
  have HMM := hid_of hM
  have HVV := hid_of hV
  have HNM := hid_of hnm
  clear hC hP hfz hM hV hrow hnm
  go_enter Tryz.func63, Tryz.ntmps63
  go_wp2_with fail
  have bX := below_box w (.cells #[.string c.type, .int .i64 c.id, .string c.field, .int .i64 s, .int .i64 n, .string t, .slice na nl nc, .slice ka kl kc] 47)
  have nX := block_new (w := w) #[.string c.type, .int .i64 c.id, .string c.field, .int .i64 s, .int .i64 n, .string t, .slice na nl nc, .slice ka kl kc] 47 rfl
  have zX : w.heap.size < (w.alloc (.cells #[.string c.type, .int .i64 c.id, .string c.field, .int .i64 s, .int .i64 n, .string t, .slice na nl nc, .slice ka kl kc] 47)).heap.size := by simp
  generalize (w.alloc (.cells #[.string c.type, .int .i64 c.id, .string c.field, .int .i64 s, .int .i64 n, .string t, .slice na nl nc, .slice ka kl kc] 47)) = X at *
  have HCB : Hid (∀ W, Below X.heap.size X W → W.heap[w.heap.size]? = some (.cells #[.string c.type, .int .i64 c.id, .string c.field, .int .i64 s, .int .i64 n, .string t, .slice na nl nc, .slice ka kl kc] 47 (0, 0))) := hid_of fun W h => (h.block _ zX).trans nX
  have HBX : Hid (∀ W, Below X.heap.size X W → Below w.heap.size w W) := hid_of fun W h => bX.trans (h.mono bX.size)
  obtain ⟨q0, -⟩ := box_at nX 0 (by simp)
  obtain ⟨q1, -⟩ := box_at nX 1 (by simp)
  obtain ⟨q2, -⟩ := box_at nX 2 (by simp)
  obtain ⟨q3, -⟩ := box_at nX 3 (by simp)
  obtain ⟨q4, -⟩ := box_at nX 4 (by simp)
  obtain ⟨q5, -⟩ := box_at nX 5 (by simp)
  obtain ⟨q6, -⟩ := box_at nX 6 (by simp)
  obtain ⟨q7, -⟩ := box_at nX 7 (by simp)
  have HK : Hid (∀ W, Below w.heap.size w W → W.cell? ⟨b, off + j * 6 + 1, none⟩ = some (.int .i64 s') ∧ W.cell? ⟨b, off + j * 6 + 1 + 1, none⟩ = some (.int .i64 n') ∧ W.cell? ⟨b, off + j * 6 + 1 + 2, none⟩ = some (.string t') ∧ W.cell? ⟨b, off + j * 6 + 1 + 3, none⟩ = some (.slice na' nl' nc') ∧ W.cell? ⟨b, off + j * 6 + 1 + 4, none⟩ = some (.slice ka' kl' kc') ∧ ∀ m, W.frozen? ⟨b, m, none⟩ = false) := hid_of fun W h => ⟨(h.cell (p := ⟨b, off + j * 6 + 1, none⟩) hbl).trans k1, (h.cell (p := ⟨b, off + j * 6 + 1 + 1, none⟩) hbl).trans k2, (h.cell (p := ⟨b, off + j * 6 + 1 + 2, none⟩) hbl).trans k3, (h.cell (p := ⟨b, off + j * 6 + 1 + 3, none⟩) hbl).trans k4, (h.cell (p := ⟨b, off + j * 6 + 1 + 4, none⟩) hbl).trans k5, fun m => (World.frozen?_of_block (w := w) (a := ⟨b, m, none⟩) (h.block b hbl)).trans (HFZ.out m)⟩
  clear k1 k2 k3 k4 k5 nX
  have HW0 := hid_of bX
  go_region_held3 (fun w' => w'.cell? ⟨w.heap.size, 0, none⟩ = some (.string c.type) ∧ w'.cell? ⟨w.heap.size, 1, none⟩ = some (.int .i64 c.id) ∧ w'.cell? ⟨w.heap.size, 2, none⟩ = some (.string c.field) ∧ w'.cell? ⟨w.heap.size, 3, none⟩ = some (.int .i64 s) ∧ w'.cell? ⟨w.heap.size, 4, none⟩ = some (.int .i64 n) ∧ w'.cell? ⟨w.heap.size, 5, none⟩ = some (.string t) ∧ w'.cell? ⟨w.heap.size, 6, none⟩ = some (.slice na nl nc) ∧ w'.cell? ⟨w.heap.size, 7, none⟩ = some (.slice ka kl kc)) (go_keep)
    (first
      | (
        go_at_call 94
        refine (HC.out X.drew HW0.out.drew).mono ?_
        rintro e w1 ⟨hp, hb1⟩
        have hb1' := below_undrew hb1
        have he := HP.out _ _ HW0.out.drew hp
        subst he
        have nC1 := HCB.out w1 hb1'
        obtain ⟨y0, -⟩ := box_at nC1 0 (by simp)
        obtain ⟨y1, -⟩ := box_at nC1 1 (by simp)
        obtain ⟨y2, -⟩ := box_at nC1 2 (by simp)
        obtain ⟨y3, -⟩ := box_at nC1 3 (by simp)
        obtain ⟨y4, -⟩ := box_at nC1 4 (by simp)
        obtain ⟨y5, -⟩ := box_at nC1 5 (by simp)
        obtain ⟨y6, -⟩ := box_at nC1 6 (by simp)
        obtain ⟨y7, -⟩ := box_at nC1 7 (by simp)
        have HB1 := hid_of hb1'
        clear hp hb1 hb1' nC1)
      | (
        go_at_call 59
        have hz1 := (HBX.out _ HB1.out).size
        have hCV := copyValue_l c.val w1 B _ hsx (HVV.out.under ((HBX.out _ HB1.out).mono hB)) (by omega)
        unfold CvL at hCV
        refine hCV.mono ?_
        rintro e w2 ⟨na2, ka2, nc2, kc2, rfl, hb2, hr2, lab1, hl1, hL1⟩
        have hb12 := HB1.out.trans (hb2.mono HB1.out.size)
        have nC2 := HCB.out w2 hb12
        obtain ⟨x0, -⟩ := box_at nC2 0 (by simp)
        obtain ⟨x1, -⟩ := box_at nC2 1 (by simp)
        obtain ⟨x2, -⟩ := box_at nC2 2 (by simp)
        obtain ⟨x3, -⟩ := box_at nC2 3 (by simp)
        obtain ⟨x4, -⟩ := box_at nC2 4 (by simp)
        obtain ⟨x5, -⟩ := box_at nC2 5 (by simp)
        obtain ⟨x6, -⟩ := box_at nC2 6 (by simp)
        obtain ⟨x7, -⟩ := box_at nC2 7 (by simp)
        obtain ⟨u1, u2, u3, u4, u5, uf⟩ := HK.out w2 (HBX.out _ hb12)
        have g1 := uf (off + j * 6 + 1)
        have g2 := uf (off + j * 6 + 1 + 1)
        have g3 := uf (off + j * 6 + 1 + 2)
        have g4 := uf (off + j * 6 + 1 + 3)
        have g5 := uf (off + j * 6 + 1 + 4)
        have H2 := hid_of (And.intro hb12 (And.intro hb2 (And.intro hr2 (And.intro hl1 hL1))))
        have m1 : ¬ b = w.heap.size := by omega
        have m2 : ¬ w.heap.size = b := by omega
        clear hCV hb12 hb2 hr2 hl1 hL1 nC2 uf hz1))
  all_goals
    go_wp2_with fail
    refine bodyPost_end (v := .tuple #[]) ?res rfl ?_
    case res => simp [results, Tryz.results63, go_sem]
    obtain ⟨hb12, hb2, hr2, hl1, hL1⟩ := H2.out
    have z1 := (HBX.out _ HB1.out).size
    have bw2 := HBX.out _ hb12
    obtain ⟨lab', hM', hlob, hlb⟩ := HMM.out.put hlo hi hj hA bw2 (lab1 := lab1) (fun b hb => by have := hl1 b hb; omega) (x := c.val) (fun _ => hL1) (hr2.sub fun b hb => by omega)
    rw [HNM.out] at hM'
    exact ⟨rfl, (Aside.of_below bw2 (Nat.le_refl _)).trans (aside_put5 _ _ _ _ _ _ _ _ hlb), lab', hM'⟩
end Go.Proofs.YtmemijccbmnaaaaGreat

namespace Go.Proofs.YtmemijccbmnaaaaGreat
set_option linter.unusedSimpArgs false
set_option linter.unusedVariables false
open Go.RowKit

theorem RM.name {L : Bool} {lo : Nat} {w : World} {rl : List Ro} {a : Option Addr} {b0 : Nat} {A : Nat → Option Addr} {K : Nat → Nat} {lab : Nat → List Nat} (h : RM L lo w rl a b0 A K lab) {i n b off : Nat} (hi : i < rl.length) (hn : n < (rth rl i).cells.length) (hA : A i = some ⟨b, off, none⟩) :
    w.cell? ⟨b, off + n * 6, none⟩ = some (.string (cth (rth rl i).cells n).name) ∧ w.cell? ⟨b0, i * 3 + 2, none⟩ = some (.slice (some ⟨b, off, none⟩) (rth rl i).cells.length (K i)) := by
  obtain ⟨b', off', e1, e2, e3, C, c1, c2⟩ := h.cells i hi (by omega)
  rw [hA] at e1
  simp only [Option.some.injEq, Addr.mk.injEq, and_true] at e1
  obtain ⟨rfl, rfl⟩ := e1
  refine ⟨?_, ?_⟩
  · have := c1 n hn 0 (by omega)
    rw [(c2 n hn).2.1] at this
    exact this
  · have := (h.rowc i hi).2.2
    rw [hA] at this
    exact this
theorem RM.apart {L : Bool} {lo : Nat} {w : World} {rl : List Ro} {a : Option Addr} {b0 : Nat} {A : Nat → Option Addr} {K : Nat → Nat} {lab : Nat → List Nat} (h : RM L lo w rl a b0 A K lab) {i b off : Nat} (hi : i < rl.length) (hn : 0 < (rth rl i).cells.length) (hA : A i = some ⟨b, off, none⟩) : b ≠ b0 ∧ lo ≤ b ∧ lo ≤ b0 := by
  obtain ⟨b', off', e1, e2, -⟩ := h.cells i hi hn
  rw [hA] at e1
  simp only [Option.some.injEq, Addr.mk.injEq, and_true] at e1
  obtain ⟨rfl, rfl⟩ := e1
  have h0 := (h.base (by omega)).2.1
  exact ⟨fun e => by rw [e, h0] at e2; simp at e2, (h.way b (by rw [e2]; simp)).1, (h.way b0 (by rw [h0]; simp)).1⟩
/-- The rows behind n rounds. -/
def putTo (rs : List Ro) (i j : Nat) (f : ByteArray) (x : V) (n : Nat) : List Ro := if n ≤ j then rs else putAt rs i j f x
theorem putTo_len (rs : List Ro) (i j : Nat) (f : ByteArray) (x : V) (n : Nat) : (putTo rs i j f x n).length = rs.length := by
  unfold putTo putAt; split <;> simp
theorem putTo_cells (rs : List Ro) (i j : Nat) (f : ByteArray) (x : V) (n : Nat) (hi : i < rs.length) (hj : j < (rth rs i).cells.length) (hf : (cth (rth rs i).cells j).name = f) : (rth (putTo rs i j f x n) i).cells.length = (rth rs i).cells.length ∧ ∀ m, (cth (rth (putTo rs i j f x n) i).cells m).name = (cth (rth rs i).cells m).name := by
  unfold putTo putAt
  split
  · exact ⟨rfl, fun _ => rfl⟩
  · rw [rth_set _ _ _ _ hi, if_pos rfl]
    refine ⟨by simp, fun m => ?_⟩
    show (cth ((rth rs i).cells.set j ⟨f, x⟩) m).name = _
    rw [cth_set _ _ _ _ hj]
    split
    · rename_i e; rw [e, hf]
    · rfl

set_option maxRecDepth 20000 in
set_option maxHeartbeats 3200000 in
theorem l13Set_any (rs : List Ro) (c : Ch) (w : World) (B : Nat) (ra : Option Addr) (rc : Nat) (s n : Int) (t : ByteArray) (na ka : Option Addr) (nl nc kl kc : Nat) (hR : RoReps w (· < B) rs ra) (hB : B ≤ w.heap.size) (hlen : rs.length ≤ 1048576) (hcl : ∀ i, i < rs.length → (rth rs i).cells.length ≤ 1048576 ∧ ∀ j, j < (rth rs i).cells.length → szV (cth (rth rs i).cells j).val ≤ 1048576)
    (hV : Rep w (· < B) c.val (.agg #[.int .i64 s, .int .i64 n, .string t, .slice na nl nc, .slice ka kl kc])) (hsx : szV c.val ≤ 1048576) (i j : Nat) (hfi : fi rs c.type c.id rs.length = some i) (hi : i < rs.length) (hj : j < (rth rs i).cells.length) (hu : ∀ m, m < (rth rs i).cells.length → ((cth (rth rs i).cells m).name = c.field ↔ m = j)) :
    Calls Tryz.prog 25 #[.slice ra rs.length rc, .agg #[.string c.type, .int .i64 c.id, .string c.field, .int .i64 s, .int .i64 n, .string t, .slice na nl nc, .slice ka kl kc]] w fun e w' => (∃ (a : Option Addr) (cp : Nat), e = .returned (.slice a rs.length cp) ∧ RoReps w' (fun b => w.heap.size ≤ b ∧ b < w'.heap.size) (putAt rs i j c.field c.val) a) ∧ Below w.heap.size w w' := by
  have hjn : (cth (rth rs i).cells j).name = c.field := (hu j hj).2 rfl
  have HCL := hid_of (putTo_cells rs i j c.field c.val · hi hj hjn)
  go_enter Tryz.func25, Tryz.ntmps25
  go_wp2_with fail
  have bX := below_box w (.cells #[.string c.type, .int .i64 c.id, .string c.field, .int .i64 s, .int .i64 n, .string t, .slice na nl nc, .slice ka kl kc] 47)
  have nX := block_new (w := w) #[.string c.type, .int .i64 c.id, .string c.field, .int .i64 s, .int .i64 n, .string t, .slice na nl nc, .slice ka kl kc] 47 rfl
  have zX : w.heap.size < (w.alloc (.cells #[.string c.type, .int .i64 c.id, .string c.field, .int .i64 s, .int .i64 n, .string t, .slice na nl nc, .slice ka kl kc] 47)).heap.size := by simp
  generalize (w.alloc (.cells #[.string c.type, .int .i64 c.id, .string c.field, .int .i64 s, .int .i64 n, .string t, .slice na nl nc, .slice ka kl kc] 47)) = X at *
  have HCB : Hid (∀ W, Below X.heap.size X W → W.heap[w.heap.size]? = some (.cells #[.string c.type, .int .i64 c.id, .string c.field, .int .i64 s, .int .i64 n, .string t, .slice na nl nc, .slice ka kl kc] 47 (0, 0)) ∧ Below w.heap.size w W) := hid_of fun W h => ⟨(h.block _ zX).trans nX, bX.trans (h.mono bX.size)⟩
  clear nX
  refine (l4Copy_any rs X B ra rc (hR.under (bX.mono hB)) (by omega) hlen hcl).mono ?_
  rintro e w1 ⟨⟨a, cp, b0, A, K, lab, rfl, hcp, hM⟩, hb1⟩
  have hba := (hM.base (by omega)).1
  subst hba
  obtain ⟨nX1, bw1⟩ := HCB.out w1 hb1
  obtain ⟨y0, -⟩ := box_at nX1 0 (by simp)
  obtain ⟨y1, -⟩ := box_at nX1 1 (by simp)
  have hF := l4Find_any rs c.type c.id w1 (fun b => X.heap.size ≤ b ∧ b < w1.heap.size) (some ⟨b0, 0, none⟩) cp hM.reps
  rw [hfi] at hF
  have e0 : fiI (some i) = (i : Nat) := rfl
  rw [e0] at hF
  have HF := hid_of hF
  have HMM := hid_of hM
  obtain ⟨b, off, hA, -⟩ := hM.cells i hi (by omega)
  have HU := hid_of hu
  have hii : (i : Int) < (rs.length : Int) := by omega
  clear hF hM e0 hu
  go_wp2_with fail
  refine HF.out.mono ?_
  rintro e w2 ⟨rfl, dm, hdm⟩
  have b12 : Below w1.heap.size w1 w2 := by rw [hdm]; exact below_drews (Below.refl _ _) dm
  have b2 := hb1.trans (b12.mono hb1.size)
  have HM2 := hid_of (HMM.out.keep b12)
  clear hdm HF HMM y0 y1 nX1
  obtain ⟨cs, hcs⟩ : ∃ cs, cs = (rth rs i).cells := ⟨_, rfl⟩
  have HCS := hid_of hcs
  rw [← hcs] at hj
  have hcz : cs.length ≤ 1048576 := by rw [hcs]; exact (hcl i hi).1
  clear hcs
  go_wp2_with fail
  go_loopw [7] (fun ix wr => ∃ (m : Nat) (lab' : Nat → List Nat), m ≤ cs.length ∧ ix = .int .i64 m ∧ Hid (RM false X.heap.size wr (putTo rs i j c.field c.val m) (some ⟨b0, 0, none⟩) b0 A K lab') ∧ Below X.heap.size X wr) (fun ix _ => cs.length - (intOf ix).toNat)
  case atStart => exact ⟨0, lab, Nat.zero_le _, rfl, by rw [show putTo rs i j c.field c.val 0 = rs from if_pos (Nat.zero_le _)]; exact HM2, b2⟩
  case round =>
    obtain ⟨m, lab', hm, rfl, HM, hbel⟩ := hrel
    obtain ⟨w3, rfl⟩ : ∃ x, x = wr := ⟨wr, rfl⟩
    obtain ⟨nX3, bw3⟩ := HCB.out w3 hbel
    obtain ⟨q2, -⟩ := box_at nX3 2 (by simp)
    have hcl' : (rth (putTo rs i j c.field c.val m) i).cells.length = cs.length := by rw [HCS.out]; exact (HCL.out m).1
    have hpl : i < (putTo rs i j c.field c.val m).length := by rw [putTo_len]; exact hi
    have s2 := (HM.out.rowc i hpl).2.2
    rw [hcl', hA] at s2
    by_cases hlt : m < cs.length
    · have hmi : (m : Int) < (cs.length : Int) := by omega
      obtain ⟨k0, -⟩ := HM.out.name hpl (n := m) (by omega) hA
      rw [(HCL.out m).2 m, ← HCS.out] at k0
      by_cases e : m = j
      · subst e
        have hnm : (cth cs m).name = c.field := by rw [HCS.out]; exact (HU.out m (by rw [← HCS.out]; exact hlt)).2 rfl
        rw [hnm] at k0
        obtain ⟨b', off', s', n', t', na', ka', nl', nc', kl', kc', hA', hbl, hfz, k1, k2, k3, k4, k5⟩ := HM.out.place hpl (j := m) (by omega)
        rw [hA] at hA'
        simp only [Option.some.injEq, Addr.mk.injEq, and_true] at hA'
        obtain ⟨rfl, rfl⟩ := hA'
        obtain ⟨ap1, ap2, ap3⟩ := HM.out.apart hpl (by omega) hA
        have m1 : ¬ b = b0 := ap1
        have m2 : ¬ b0 = b := fun e => ap1 e.symm
        have m3 : ¬ b = w.heap.size := by omega
        have m4 : ¬ w.heap.size = b := by omega
        clear ap1 ap2 ap3
        go_wp2_with fail
        go_quiet (fail)
        go_wp2_with fail
        have HW : Hid (∀ W, Below X.heap.size X W → Below w3.heap.size w3 W → W.cell? ⟨b0, i * 3 + 2, none⟩ = some (.slice (some ⟨b, off, none⟩) cs.length (K i)) ∧ W.cell? ⟨w.heap.size, 3, none⟩ = some (.int .i64 s) ∧ W.cell? ⟨w.heap.size, 4, none⟩ = some (.int .i64 n) ∧ W.cell? ⟨w.heap.size, 5, none⟩ = some (.string t) ∧ W.cell? ⟨w.heap.size, 6, none⟩ = some (.slice na nl nc) ∧ W.cell? ⟨w.heap.size, 7, none⟩ = some (.slice ka kl kc)) := hid_of fun W h h' => by
          have hb := (HCB.out W h).1
          exact ⟨(h'.cell (p := ⟨b0, i * 3 + 2, none⟩) (cell_block' s2)).trans s2, (box_at hb 3 (by simp)).1, (box_at hb 4 (by simp)).1, (box_at hb 5 (by simp)).1, (box_at hb 6 (by simp)).1, (box_at hb 7 (by simp)).1⟩
        have HK : Hid (∀ W, Below w3.heap.size w3 W → W.cell? ⟨b, off + m * 6 + 1, none⟩ = some (.int .i64 s') ∧ W.cell? ⟨b, off + m * 6 + 1 + 1, none⟩ = some (.int .i64 n') ∧ W.cell? ⟨b, off + m * 6 + 1 + 2, none⟩ = some (.string t') ∧ W.cell? ⟨b, off + m * 6 + 1 + 3, none⟩ = some (.slice na' nl' nc') ∧ W.cell? ⟨b, off + m * 6 + 1 + 4, none⟩ = some (.slice ka' kl' kc') ∧ ∀ x, W.frozen? ⟨b, x, none⟩ = false) := hid_of fun W h => ⟨(h.cell (p := ⟨b, off + m * 6 + 1, none⟩) hbl).trans k1, (h.cell (p := ⟨b, off + m * 6 + 1 + 1, none⟩) hbl).trans k2, (h.cell (p := ⟨b, off + m * 6 + 1 + 2, none⟩) hbl).trans k3, (h.cell (p := ⟨b, off + m * 6 + 1 + 3, none⟩) hbl).trans k4, (h.cell (p := ⟨b, off + m * 6 + 1 + 4, none⟩) hbl).trans k5, fun x => (World.frozen?_of_block (w := w3) (a := ⟨b, x, none⟩) (h.block b hbl)).trans (hfz x)⟩
        have b3q := below_drews (Below.refl w3.heap.size w3) nq
        have bXq := below_drews hbel nq
        have hzq : (w3.drewN nq).heap.size = w3.heap.size := rfl
        generalize w3.drewN nq = w4 at *
        obtain ⟨p0, p1, p2, p3, p4, p5⟩ := HW.out w4 bXq b3q
        have HBQ := hid_of (And.intro b3q (And.intro bXq hzq))
        have HBW := hid_of bw3
        clear s2 k0 k1 k2 k3 k4 k5 q2 nX3 hfz b3q bXq hzq bw3 hnm
        go_region_held3 (fun w' => w'.cell? ⟨b0, i * 3 + 2, none⟩ = some (.slice (some ⟨b, off, none⟩) cs.length (K i)) ∧ w'.cell? ⟨w.heap.size, 3, none⟩ = some (.int .i64 s) ∧ w'.cell? ⟨w.heap.size, 4, none⟩ = some (.int .i64 n) ∧ w'.cell? ⟨w.heap.size, 5, none⟩ = some (.string t) ∧ w'.cell? ⟨w.heap.size, 6, none⟩ = some (.slice na nl nc) ∧ w'.cell? ⟨w.heap.size, 7, none⟩ = some (.slice ka kl kc)) (go_keep)
          (first
            | (
              go_at_call 51
              have bw4 := (HCB.out w4 HBQ.out.2.1).2
              have hz4 := bw4.size
              have hLC := l1Copy_any c.val w4.drew B _ hsx ((hV.under (bw4.mono hB)).mono (w' := w4.drew) fun _ _ => rfl) (by show B ≤ w4.heap.size; omega)
              refine hLC.mono ?_
              rintro e w6 ⟨s6, n6, t6, na6, ka6, nl6, nc6, kl6, kc6, rfl, hb6, hr6⟩
              have hb6' := below_undrew hb6
              have b36 := HBQ.out.1.trans (hb6'.mono (by have := HBQ.out.2.2; omega))
              have bX6 := HBQ.out.2.1.trans (hb6'.mono (by have := HBQ.out.2.1.size; omega))
              obtain ⟨u0, u1, u2, u3, u4, u5⟩ := HW.out w6 bX6 b36
              obtain ⟨d1, d2, d3, d4, d5, uf⟩ := HK.out w6 b36
              have g1 := uf (off + m * 6 + 1)
              have g2 := uf (off + m * 6 + 1 + 1)
              have g3 := uf (off + m * 6 + 1 + 2)
              have g4 := uf (off + m * 6 + 1 + 3)
              have g5 := uf (off + m * 6 + 1 + 4)
              have H6 := hid_of (And.intro b36 (And.intro bX6 hr6))
              clear hLC hb6 hb6' b36 bX6 hr6 uf bw4 hz4))
        all_goals
          go_wp2_with fail
          go_roundw
          case measure => simp [intOf]; omega
          case rel =>
            obtain ⟨b36, bX6, hr6⟩ := H6.out
            have hzq := HBQ.out.2.2
            have hpt : putTo rs i m c.field c.val m = rs := if_pos (Nat.le_refl _)
            have hpt1 : putTo rs i m c.field c.val (m + 1) = putAt rs i m c.field c.val := if_neg (by omega)
            have hMo := HM.out
            rw [hpt] at hMo
            obtain ⟨lab2, hM', hlob, hlb⟩ := hMo.put (by have := hbel.size; omega) hi (by rw [← HCS.out]; exact hlt) hA b36 (lab1 := fun _ => []) (fun b hb => absurd rfl hb) (x := c.val) (fun h => by cases h) (hr6.sub fun b hb => by have : w4.heap.size ≤ b := hb.1; omega)
            rw [hjn] at hM'
            refine ⟨m + 1, lab2, by omega, by go_num, ?_, put5_below bX6 hlob _ _ _ _ _ _⟩
            rw [hpt1]
            exact hid_of hM'
      · have hne : ((cth cs m).name.toList == c.field.toList) = false := by
          cases h : ((cth cs m).name.toList == c.field.toList)
          · rfl
          · exact absurd ((HU.out m (by rw [← HCS.out]; exact hlt)).1 (by rw [← HCS.out]; exact bytes_inj (by simpa using h))) e
        have HPT : Hid (putTo rs i j c.field c.val (m + 1) = putTo rs i j c.field c.val m) := hid_of (by
          unfold putTo
          by_cases h : m ≤ j
          · rw [if_pos h, if_pos (by omega)]
          · rw [if_neg h, if_neg (by omega)])
        go_wp2_with fail
        go_quiet (fail)
        go_wp2_with fail
        go_roundw
        case measure => simp [intOf]; omega
        case rel =>
          have b3q := below_drews (Below.refl w3.heap.size w3) nq
          refine ⟨m + 1, lab', by omega, by go_num, ?_, below_drews hbel nq⟩
          rw [HPT.out]
          exact hid_of (HM.out.keep b3q)
    · have e : m = cs.length := by omega
      subst e
      have hpt : putTo rs i j c.field c.val cs.length = putAt rs i j c.field c.val := if_neg (by omega)
      have hrp := HM.out.reps
      rw [hpt] at hrp
      have HRP := hid_of hrp
      clear hrp
      go_wp2_with fail
      go_ret
      exact ⟨⟨_, cp, rfl, HRP.out.sub fun b hb => ⟨by omega, hb.2⟩⟩, bw3⟩
end Go.Proofs.YtmemijccbmnaaaaGreat
