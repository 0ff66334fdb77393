import Derived.Test.YtmemijccbmnaaaaGreatJ11
import Derived.Test.YtmemijccbmnaaaaGreatJ20
import Derived.Test.YtmemijccbmnaaaaGreatJ8
import Derived.Test.YtmemijccbmnaaaaGreatPEq
namespace Go.Proofs.YtmemijccbmnaaaaGreat
set_option linter.unusedSimpArgs false
set_option linter.unusedVariables false
open Go.RowKit

theorem LCells.below {w w' : World} {lab : Nat → List Nat} {p : List Nat} {cs : List Ce} {a : Option Addr} (h : LCells w lab p cs a) (hl : ∀ c, lab c ≠ [] → c < w.heap.size) (hb : Below w.heap.size w w') : LCells w' lab p cs a := h.keep fun c h1 _ => hb.block c (hl c h1)

set_option maxRecDepth 20000 in
set_option maxHeartbeats 1600000 in
theorem heldCellS_l (cs : List Ce) (lab : Nat → List Nat) (p : List Nat) (a : Option Addr) (c k : Nat) (w : World) (h : LCells w lab p (mkCs cs k) a) (hlab : ∀ c, lab c ≠ [] → c < w.heap.size) (hk : k + nCs cs ≤ 1000000000000) (hlen : cs.length ≤ 1048576) (hsz : ∀ j, j < cs.length → szV (cth cs j).val ≤ 1048576) :
    Calls Tryz.prog 39 #[.slice a cs.length c, .int .i64 k] w fun e w' => e = .returned (.int .i64 ((k + nCs cs : Nat) : Int)) ∧ Below w.heap.size w w' := by
  obtain ⟨b, off, hb⟩ : ∃ b off, 0 < cs.length → a = some ⟨b, off, none⟩ ∧ lab b = 1 :: p ∧ GRow w 6 cs.length b off (LCe lab p (cth (mkCs cs k))) := by
    by_cases h0 : 0 < cs.length
    · obtain ⟨b, off, h1, h2, -, h4⟩ := h (by rw [mkCs_len]; exact h0)
      rw [mkCs_len] at h4
      exact ⟨b, off, fun _ => ⟨h1, h2, h4⟩⟩
    · exact ⟨0, 0, fun h' => absurd h' h0⟩
  clear h
  go_enter Tryz.func39, Tryz.ntmps39
  go_wp2_with fail
  go_loopw [1, 5] (fun kk i wr => ∃ j : Nat, j ≤ cs.length ∧ i = .int .i64 j ∧ kk = .int .i64 ((k + nCs (cs.take j) : Nat) : Int) ∧ Below w.heap.size w wr) (fun _ i _ => cs.length - (intOf i).toNat)
  case atStart => exact ⟨0, Nat.zero_le _, rfl, by simp [nCs], Below.refl _ _⟩
  case round =>
    obtain ⟨j, hj, rfl, rfl, hbel⟩ := hrel
    obtain ⟨w0, rfl⟩ : ∃ y, y = wr := ⟨wr, rfl⟩
    by_cases hlt : j < cs.length
    · obtain ⟨rfl, hlb, hG⟩ := hb (by omega)
      obtain ⟨cc, hcc, e0, hv⟩ := hG.at hlt
      rw [mkCs_at cs k j hlt] at e0 hv
      have hszj := hsz j hlt
      obtain ⟨q, hq⟩ : ∃ q, q = k + nCs (cs.take j) := ⟨_, rfl⟩
      have hnt := nCs_take cs j hlt
      have hnp := nCs_part cs (j + 1)
      simp only [mkCe] at e0 hv
      generalize hx : (cth cs j).val = x at *
      obtain ⟨na, ka', nc, kc', ev, hN, hKj⟩ := hv.inv
      simp only [Value.agg.injEq, Array.mk.injEq, List.cons.injEq, and_true, mk1, mkNs_len, mkL_len] at ev hN hKj
      obtain ⟨e1, e2, e3, e4, e5⟩ := ev
      rw [← hq] at e0 e1 e2 e3 hN hKj ⊢
      have S0 : Sx6 w b (off + j * 6) (.string (mtext q)) (.int .i64 ((q : Int) + 1)) (.int .i64 ((q : Int) + 1 + 1)) (.string (mtext (q + 3))) (.slice na x.names.length nc) (.slice ka' x.kids.length kc') := by
        refine ⟨?_, ?_, ?_, ?_, ?_, ?_⟩
        · have := hcc 0 (by omega); rw [e0] at this; exact this
        · have := hcc 1 (by omega); rw [e1] at this; exact this
        · have := hcc 2 (by omega); rw [e2] at this; exact this
        · have := hcc 3 (by omega); rw [e3] at this; exact this
        · have := hcc 4 (by omega); rw [e4] at this; exact this
        · have := hcc 5 (by omega); rw [e5] at this; exact this
      have hji : (j : Int) < (cs.length : Int) := by omega
      have hbl : b < w.heap.size := hlab b (by rw [hlb]; simp)
      have hnv := nV_eq x
      have hnl : x.names.length ≤ 1048576 := by have := len_szNs x.names; have := szV_eq x; omega
      have hqb : q + 4 + nV x ≤ 1000000000000 := by omega
      have hqi : (q : Int) ≤ 1000000000000 := by omega
      have HQ : Hid (q = k + nCs (cs.take j)) := hq
      have HNT : Hid (nCs (cs.take (j + 1)) = nCs (cs.take j) + (4 + nV x)) := hnt
      have z0 := hbel.size
      have cell : ∀ W, Below w.heap.size w W → Sx6 W b (off + j * 6) (.string (mtext q)) (.int .i64 ((q : Int) + 1)) (.int .i64 ((q : Int) + 1 + 1)) (.string (mtext (q + 3))) (.slice na x.names.length nc) (.slice ka' x.kids.length kc') := fun W hW => S0.keep (hW.block b hbl)
      have HCE := hidM cell
      have HNK := hidM (And.intro hN hKj)
      have hM := markText_any q w0.drew (by omega)
      have hM2 := fun W => markText_any (q + 3) W (by omega)
      rw [show ((q + 3 : Nat) : Int) = (q : Int) + 1 + 1 + 1 by omega] at hM2
      clear hcc hq hnt hv e0 e1 e2 e3 e4 e5 cell hN hKj S0 hG
      generalize mtext q = mt at *
      generalize mtext (q + 3) = mt2 at *
      have HM := hidM hM
      have HM2 := hidM hM2
      clear hM hM2
      obtain ⟨r0, -, -, -, -, -⟩ := HCE.out w0 hbel
      go_wp2_with fail
      go_cut [19] (fun r wx => r = .bool false ∧ Below w.heap.size w wx)
      case first =>
        go_region_held3 (fun w' => w'.cell? ⟨b, off + j * 6, none⟩ = some (.string mt)) (go_keep)
          (first
            | (
              go_at_call 36
              refine HM.out.mono ?_
              rintro e w1 ⟨rfl, hb1⟩
              have hb1' := hbel.trans ((below_undrew hb1).mono z0)
              obtain ⟨c1, -, -, -, -, -⟩ := HCE.out w1 hb1'))
        all_goals
          go_wp2_with fail
          go_meet
          case rel => exact ⟨rfl, hb1'⟩
      case rest =>
      obtain ⟨rfl, hb1⟩ := hcut
      obtain ⟨w1, rfl⟩ : ∃ y, y = wc := ⟨wc, rfl⟩
      clear r0
      have z1 := hb1.size
      obtain ⟨-, r1, r2, r3, -, -⟩ := HCE.out w1 hb1
      go_wp2_with fail
      go_cut [50] (fun r wx => r = .bool false ∧ Below w.heap.size w wx)
      case first =>
        go_region_held3 (fun w' => w'.cell? ⟨b, off + j * 6 + 1 + 2, none⟩ = some (.string mt2)) (go_keep)
          (first
            | (
              go_at_call 36
              refine (HM2.out _).mono ?_
              rintro e w2 ⟨rfl, hb2⟩
              have hb2' := hb1.trans ((below_undrew hb2).mono z1)
              obtain ⟨-, -, -, c1, -, -⟩ := HCE.out w2 hb2'))
        all_goals
          go_wp2_with fail
          go_meet
          case rel => exact ⟨rfl, hb2'⟩
      case rest =>
      obtain ⟨rfl, hb2⟩ := hcut
      obtain ⟨w2, rfl⟩ : ∃ y, y = wc := ⟨wc, rfl⟩
      clear r1 r2 r3
      have z2 := hb2.size
      obtain ⟨-, -, -, -, r4, -⟩ := HCE.out w2 hb2
      have hH := heldStringS_any x.names.length nc (q + 4) na w2 (fun h0 => by
        obtain ⟨nb, no, n1, n2, -, n4⟩ := HNK.out.1 (fun e => by have := mkNs_len x.names.length (q + 1 + 3); rw [e] at this; simp at this; omega)
        refine ⟨nb, no, n1, fun i hi => ?_⟩
        rw [mkNs_len] at n4
        have := n4 i hi
        rw [mkNs_nth _ _ _ hi] at this
        exact (hb2.cell (p := ⟨nb, no + i, none⟩) (hlab nb (by rw [n2]; simp))).trans this) hnl (by omega)
      rw [show ((q + 4 : Nat) : Int) = (q : Int) + 1 + 1 + 1 + 1 by omega] at hH
      have HH := hidM hH
      clear hH
      go_wp2_with fail
      refine HH.out.mono ?_
      rintro e w3 ⟨rfl, hb3⟩
      have b3 := hb2.trans (hb3.mono z2)
      have z3 := b3.size
      obtain ⟨-, -, -, -, -, r5⟩ := HCE.out w3 b3
      have hI := heldValueS_l x lab ((j + 2) :: p) ka' kc' (q + 1 + 3 + x.names.length) w3 (HNK.out.2.below hlab b3) (fun c hc => by have := hlab c hc; omega) (by omega) hszj
      rw [show ((q + 1 + 3 + x.names.length : Nat) : Int) = (q : Int) + 4 + (x.names.length : Int) by omega] at hI
      have HI := hidM hI
      have hpos : ¬ (q : Int) + 4 + (x.names.length : Int) < 0 := by omega
      clear hI r4
      go_wp2_with fail
      refine HI.out.mono ?_
      rintro e w4 ⟨rfl, hb4⟩
      have b4 := b3.trans (hb4.mono z3)
      have hpos2 : ¬ ((q + 1 + 3 + x.names.length + nL x.kids : Nat) : Int) < 0 := by omega
      go_wp2_with fail
      go_roundw
      case measure => simp [intOf]; omega
      case rel =>
        refine ⟨j + 1, by omega, by go_num, ?_, b4⟩
        have h1 := HNT.out
        have h2 := HQ.out
        congr 1
        omega
    · go_wp2_with fail
      go_ret
      have e : j = cs.length := by omega
      subst e
      exact ⟨by rw [List.take_length]; rfl, hbel⟩

set_option maxRecDepth 20000 in
set_option maxHeartbeats 1600000 in
theorem heldRowS_l (rs : List Ro) (lab : Nat → List Nat) (p : List Nat) (a : Option Addr) (c k : Nat) (w : World) (h : LRows w lab p (mkRs rs k) a) (hlab : ∀ c, lab c ≠ [] → c < w.heap.size) (hk : k + nRs rs ≤ 1000000000000) (hlen : rs.length ≤ 1000000000) (hsz : ∀ i, i < rs.length → (rth rs i).cells.length ≤ 1048576 ∧ ∀ j, j < (rth rs i).cells.length → szV (cth (rth rs i).cells j).val ≤ 1048576) :
    Calls Tryz.prog 18 #[.slice a rs.length c, .int .i64 k] w fun e w' => e = .returned (.int .i64 ((k + nRs rs : Nat) : Int)) ∧ Below w.heap.size w w' := by
  obtain ⟨b, off, hb⟩ : ∃ b off, 0 < rs.length → a = some ⟨b, off, none⟩ ∧ lab b = 1 :: p ∧ GRow w 3 rs.length b off (LRo lab p (rth (mkRs rs k))) := by
    by_cases h0 : 0 < rs.length
    · obtain ⟨b, off, h1, h2, -, h4⟩ := h (by rw [mkRs_len]; exact h0)
      rw [mkRs_len] at h4
      exact ⟨b, off, fun _ => ⟨h1, h2, h4⟩⟩
    · exact ⟨0, 0, fun h' => absurd h' h0⟩
  clear h
  go_enter Tryz.func18, Tryz.ntmps18
  go_wp2_with fail
  go_loopw [1, 5] (fun kk i wr => ∃ j : Nat, j ≤ rs.length ∧ i = .int .i64 j ∧ kk = .int .i64 ((k + nRs (rs.take j) : Nat) : Int) ∧ Below w.heap.size w wr) (fun _ i _ => rs.length - (intOf i).toNat)
  case atStart => exact ⟨0, Nat.zero_le _, rfl, by simp [nRs], Below.refl _ _⟩
  case round =>
    obtain ⟨j, hj, rfl, rfl, hbel⟩ := hrel
    obtain ⟨w0, rfl⟩ : ∃ y, y = wr := ⟨wr, rfl⟩
    by_cases hlt : j < rs.length
    · obtain ⟨rfl, hlb, hG⟩ := hb (by omega)
      obtain ⟨cc, hcc, e0, e1, ca, ccp, e2, hC⟩ := hG.at hlt
      rw [mkRs_at rs k j hlt] at e0 e1 e2 hC
      obtain ⟨hszl, hszj⟩ := hsz j hlt
      obtain ⟨q, hq⟩ : ∃ q, q = k + nRs (rs.take j) := ⟨_, rfl⟩
      have hnt := nRs_take rs j hlt
      have hnp := nRs_part rs (j + 1)
      simp only [mkRo, mkCs_len] at e0 e1 e2 hC
      generalize hx : (rth rs j).cells = cl at *
      rw [← hq] at e0 e1 hC ⊢
      have S0 : Sx3 w b (off + j * 3) (.string (mtext q)) (.int .i64 ((q : Int) + 1)) (.slice ca cl.length ccp) := by
        refine ⟨?_, ?_, ?_⟩
        · have := hcc 0 (by omega); rw [e0] at this; exact this
        · have := hcc 1 (by omega); rw [e1] at this; exact this
        · have := hcc 2 (by omega); rw [e2] at this; exact this
      have hji : (j : Int) < (rs.length : Int) := by omega
      have hbl : b < w.heap.size := hlab b (by rw [hlb]; simp)
      have hqb : q + 2 + nCs cl ≤ 1000000000000 := by omega
      have hqi : (q : Int) ≤ 1000000000000 := by omega
      have HQ : Hid (q = k + nRs (rs.take j)) := hq
      have HNT : Hid (nRs (rs.take (j + 1)) = nRs (rs.take j) + (2 + nCs cl)) := hnt
      have z0 := hbel.size
      have cell : ∀ W, Below w.heap.size w W → Sx3 W b (off + j * 3) (.string (mtext q)) (.int .i64 ((q : Int) + 1)) (.slice ca cl.length ccp) := fun W hW => S0.keep (hW.block b hbl)
      have HCE := hidM cell
      have HC := hidM hC
      have hM := markText_any q w0.drew (by omega)
      clear hcc hq hnt e0 e1 e2 cell hC S0 hG
      generalize mtext q = mt at *
      have HM := hidM hM
      clear hM
      obtain ⟨r0, -, -⟩ := HCE.out w0 hbel
      go_wp2_with fail
      go_cut [19] (fun r wx => r = .bool false ∧ Below w.heap.size w wx)
      case first =>
        go_region_held3 (fun w' => w'.cell? ⟨b, off + j * 3, none⟩ = some (.string mt)) (go_keep)
          (first
            | (
              go_at_call 36
              refine HM.out.mono ?_
              rintro e w1 ⟨rfl, hb1⟩
              have hb1' := hbel.trans ((below_undrew hb1).mono z0)
              obtain ⟨c1, -, -⟩ := HCE.out w1 hb1'))
        all_goals
          go_wp2_with fail
          go_meet
          case rel => exact ⟨rfl, hb1'⟩
      case rest =>
      obtain ⟨rfl, hb1⟩ := hcut
      obtain ⟨w1, rfl⟩ : ∃ y, y = wc := ⟨wc, rfl⟩
      clear r0
      have z1 := hb1.size
      obtain ⟨-, r1, r2⟩ := HCE.out w1 hb1
      have hI := heldCellS_l cl lab ((j + 2) :: p) ca ccp (q + 2) w1 (HC.out.below hlab hb1) (fun c hc => by have := hlab c hc; omega) (by omega) hszl hszj
      rw [show ((q + 2 : Nat) : Int) = (q : Int) + 1 + 1 by omega] at hI
      have HI := hidM hI
      clear hI
      go_wp2_with fail
      refine HI.out.mono ?_
      rintro e w4 ⟨rfl, hb4⟩
      have b4 := hb1.trans (hb4.mono z1)
      have hpos2 : ¬ ((q + 2 + nCs cl : Nat) : Int) < 0 := by omega
      go_wp2_with fail
      go_roundw
      case measure => simp [intOf]; omega
      case rel =>
        refine ⟨j + 1, by omega, by go_num, ?_, b4⟩
        have h1 := HNT.out
        have h2 := HQ.out
        congr 1
        omega
    · go_wp2_with fail
      go_ret
      have e : j = rs.length := by omega
      subst e
      exact ⟨by rw [List.take_length]; rfl, hbel⟩
end Go.Proofs.YtmemijccbmnaaaaGreat

namespace Go.Proofs.YtmemijccbmnaaaaGreat
set_option linter.unusedSimpArgs false
set_option linter.unusedVariables false
open Go.RowKit

theorem WVal.block {w w' : World} {lo hi : Nat} {x : V} {c1 c2 c3 c4 c5 : Value} (h : WVal w lo hi x c1 c2 c3 c4 c5) (e : ∀ b, lo ≤ b → b < hi → w'.heap[b]? = w.heap[b]?) : WVal w' lo hi x c1 c2 c3 c4 c5 := by
  obtain ⟨s, n, t, na, ka, nc, kc, f, h1, h2, h3, h4, h5, h6, h7⟩ := h
  exact ⟨s, n, t, na, ka, nc, kc, f, h1, h2, h3, h4, h5, h6.block e, WVals.block e h7⟩
theorem ChRep.val {w : World} {P : Nat → Prop} {c : Ch} {ty id f v1 v2 v3 v4 v5 : Value} (h : ChRep w P c (.agg #[ty, id, f, v1, v2, v3, v4, v5])) : Rep w P c.val (.agg #[v1, v2, v3, v4, v5]) := by
  obtain ⟨c1, c2, c3, c4, c5, hv, h2, -⟩ := h
  simp only [Value.agg.injEq, Array.mk.injEq, List.cons.injEq, and_true] at hv
  obtain ⟨-, -, -, rfl, rfl, rfl, rfl, rfl⟩ := hv
  exact h2
theorem sum_set {α : Type} (g : α → Nat) (x : α) : ∀ (l : List α) (i : Nat), ((l.set i x).map g).sum ≤ (l.map g).sum + g x
  | [], i => by simp
  | a :: l, 0 => by simp; omega
  | a :: l, i + 1 => by
    have := sum_set g x l i
    simp only [List.set_cons_succ, List.map_cons, List.sum_cons]
    omega
theorem sum_mono {α : Type} (f g : α → Nat) : ∀ (l : List α), (∀ x, f x ≤ g x) → (l.map f).sum ≤ (l.map g).sum
  | [], _ => by simp
  | a :: l, h => by
    have := sum_mono f g l h
    have := h a
    simp
    omega
theorem sum_const {α : Type} (g : α → Nat) (a b : Nat) : ∀ (l : List α), (l.map fun x => a + b * g x).sum = a * l.length + b * (l.map g).sum
  | [] => by simp
  | x :: l => by
    have := sum_const g a b l
    simp only [List.map_cons, List.sum_cons, List.length_cons, Nat.mul_add]
    omega
theorem nCs_sz (cs : List Ce) : nCs cs ≤ 4 * cs.length + 3 * (cs.map szC).sum := by
  have h := sum_mono (fun c : Ce => 4 + nV c.val) (fun c => 4 + 3 * szC c) cs (fun c => by
    have := nV_sz c.val
    have e : szC c = c.name.size + szV c.val := rfl
    omega)
  have h2 := sum_const szC 4 3 cs
  unfold nCs
  omega
theorem nRs_sz (rs : List Ro) : nRs rs ≤ 2 * rs.length + 4 * (rs.map szR).sum := by
  have h := sum_mono (fun r : Ro => 2 + nCs r.cells) (fun r => 2 + 4 * szR r) rs (fun r => by
    have := nCs_sz r.cells
    have e : szR r = r.type.size + (r.cells.length + (r.cells.map szC).sum) := rfl
    omega)
  have h2 := sum_const szR 2 4 rs
  unfold nRs
  omega
/-- What the rows behind a change are: few, and with few marks. -/
theorem setRs_fine (p : Pt) (rs : List Ro) (c : Ch) (hsz : rSz rs ≤ 1048576) (hsx : szV c.val ≤ 1048576) : (setRs p rs c).length ≤ 1048576 ∧ nRs (setRs p rs c) ≤ 1000000000 ∧ ∀ i, i < (setRs p rs c).length → (rth (setRs p rs c) i).cells.length ≤ 1048576 ∧ ∀ j, j < (rth (setRs p rs c) i).cells.length → szV (cth (rth (setRs p rs c) i).cells j).val ≤ 1048576 := by
  obtain ⟨hlen, hcl⟩ := rSz_fine hsz
  have hn := nRs_sz rs
  have hz : rs.length + (rs.map szR).sum ≤ 1048576 := hsz
  cases hst : storeS p rs
  · have e : setRs p rs c = [] := by unfold setRs; rw [if_pos hst]
    rw [e]
    exact ⟨by simp, by simp [nRs], fun i hi => by simp at hi⟩
  · have e : setRs p rs c = setL p rs c := by unfold setRs setL; rw [if_neg (by rw [hst]; simp)]
    rw [e]
    by_cases h0 : codeC p rs c = 0
    · obtain ⟨i, j, hq, hset⟩ := setL_put hst h0
      obtain ⟨hi, hj, hnm⟩ := cTo_lt (Nat.le_refl _) hq
      rw [hset]
      have hl : (putAt rs i j c.field c.val).length = rs.length := by unfold putAt; simp
      rw [hl]
      refine ⟨hlen, ?_, fun k hk => ?_⟩
      · have h1 := sum_set (fun r : Ro => 2 + nCs r.cells) ⟨(rth rs i).type, (rth rs i).id, (rth rs i).cells.set j ⟨c.field, c.val⟩⟩ rs i
        have h2 := sum_set (fun c : Ce => 4 + nV c.val) ⟨c.field, c.val⟩ (rth rs i).cells j
        have h3 := nV_sz c.val
        have h4 := nCs_sz (rth rs i).cells
        have h5 : szR (rth rs i) ≤ (rs.map szR).sum := sum_one szR Ro.zero rs i hi
        have e2 : szR (rth rs i) = (rth rs i).type.size + ((rth rs i).cells.length + ((rth rs i).cells.map szC).sum) := rfl
        have e3 : nCs (rth rs i).cells = ((rth rs i).cells.map fun c : Ce => 4 + nV c.val).sum := rfl
        have e4 : nCs ((rth rs i).cells.set j ⟨c.field, c.val⟩) = (((rth rs i).cells.set j ⟨c.field, c.val⟩).map fun c : Ce => 4 + nV c.val).sum := rfl
        have e5 : nRs (putAt rs i j c.field c.val) = ((putAt rs i j c.field c.val).map fun r : Ro => 2 + nCs r.cells).sum := rfl
        have e6 : nRs rs = (rs.map fun r : Ro => 2 + nCs r.cells).sum := rfl
        rw [e5]
        unfold putAt
        simp only at h1 h2
        omega
      · unfold putAt
        rw [rth_set _ _ _ _ hi]
        by_cases ek : k = i
        · subst ek
          rw [if_pos rfl]
          refine ⟨by simpa using (hcl k hk).1, fun m hm => ?_⟩
          show szV (cth ((rth rs k).cells.set j ⟨c.field, c.val⟩) m).val ≤ 1048576
          rw [cth_set _ _ _ _ hj]
          split
          · exact hsx
          · exact (hcl k hk).2 m (by simpa using hm)
        · rw [if_neg ek]
          exact hcl k hk
    · rw [setL_same h0]
      exact ⟨hlen, by omega, hcl⟩
end Go.Proofs.YtmemijccbmnaaaaGreat

namespace Go.Proofs.YtmemijccbmnaaaaGreat
set_option linter.unusedSimpArgs false
set_option linter.unusedVariables false
open Go.RowKit

theorem FRep.pieces {w : World} {P : Nat → Prop} {f : F} {c0 c1 c2 c3 c4 c5 c6 c7 : Value} (h : FRep w P f (.agg #[c0, c1, c2, c3, c4, c5, c6, c7])) :
    c0 = .string f.name ∧ c1 = .string f.of ∧ c2 = .bool f.list ∧ c3 = .bool f.must ∧ c4 = .bool f.far ∧ c5 = .bool f.hidden ∧ c6 = .bool f.shared ∧ ∃ na nc, c7 = .slice na f.needs.length nc ∧ Strs w P f.needs na ∧ f.needs.length ≤ nc ∧ f.name.size ≤ maxLen ∧ f.of.size ≤ maxLen := by
  obtain ⟨na, nc, hv, h2, h3, h4, h5, -⟩ := h
  simp only [Value.agg.injEq, Array.mk.injEq, List.cons.injEq, and_true] at hv
  obtain ⟨e0, e1, e2, e3, e4, e5, e6, e7⟩ := hv
  exact ⟨e0, e1, e2, e3, e4, e5, e6, na, nc, e7, h2, h3, h4, h5⟩
theorem TRep.pieces {w : World} {P : Nat → Prop} {t : T} {c0 c1 c2 : Value} (h : TRep w P t (.agg #[c0, c1, c2])) :
    ∃ (fa : Option Addr) (fc : Nat), c0 = .string t.name ∧ c1 = .string t.key ∧ c2 = .slice fa t.fields.length fc ∧ FsRep w P t.fields fa ∧ t.fields.length ≤ fc ∧ t.name.size ≤ maxLen ∧ t.key.size ≤ maxLen := by
  obtain ⟨fa, fc, hv, h2, h3, h4, h5⟩ := h
  simp only [Value.agg.injEq, Array.mk.injEq, List.cons.injEq, and_true] at hv
  exact ⟨fa, fc, hv.1, hv.2.1, hv.2.2, h2, h3, h4, h5⟩
/-- How many marks a part takes. -/
def mP (p : Pt) : Nat := mTs p.types p.types.length
theorem mP_small (p : Pt) (hz : szP p ≤ 1048576) : mP p ≤ 10485760 := by
  have h1 := mTs_sz p.types p.types.length
  have h3 : szP p = p.name.size + (p.types.length + szTsTo p.types p.types.length) := rfl
  unfold mP
  omega
theorem markPart_from (p : Pt) (nm : Value) (c k lo hi : Nat) (a : Option Addr) (w : World) (hw : WTs w lo hi p.types a) (hz : szP p ≤ 1048576) (hk : k ≤ 500000000000) :
    Calls Tryz.prog 15 #[.agg #[nm, .slice a p.types.length c], .int .i64 k] w fun e w' => e = .returned (.int .i64 ((k + mP p : Nat) : Int)) ∧ Marked lo hi w w' := by
  obtain ⟨name, types⟩ := p
  have hs : szTs types ≤ 1048576 := by have : szP ⟨name, types⟩ = name.size + szTs types := rfl; omega
  have hM := fun o => markTypeS_any types c k lo hi a (w.alloc o) (hw.keep (Marked.of_below lo hi (below_box w o))) (by have : szTs types = types.length + szTsTo types types.length := rfl; omega)
    (fun i => by have := fields_small types hs i; have h3 : szFs (tth types i).fields = (tth types i).fields.length + szFsTo (tth types i).fields (tth types i).fields.length := rfl; omega)
    (fun i j => needs_small _ (fields_small types hs i) j)
    (fun i hi => by have h1 := mTs_sz types i; have h2 := szTsTo_mono types i _ hi; have h3 : szTs types = types.length + szTsTo types types.length := rfl; omega)
  go_enter Tryz.func15, Tryz.ntmps15
  go_wp2_with (
    go_at_call 35
    refine (hM _).mono ?_
    rintro e w1 ⟨rfl, hm1⟩)
  go_ret
  exact ⟨rfl, (Marked.of_below lo hi (below_box w _)).trans hm1⟩

/-- A change within blocks of which S holds that keeps of every cell its kind. -/
structure KeptS (S : Nat → Prop) (w w' : World) : Prop where
  m : Marked 0 w.heap.size w w'
  block : ∀ b, b < w.heap.size → ¬ S b → w'.heap[b]? = w.heap[b]?
theorem Marked.all {lo hi : Nat} {w w' : World} (h : Marked lo hi w w') : Marked 0 w.heap.size w w' :=
  ⟨h.os, h.tape, h.output, h.size, fun b hb hn => absurd ⟨Nat.zero_le b, hb⟩ hn, h.text, h.flag, h.list, h.frozen⟩
theorem KeptS.refl (S : Nat → Prop) (w : World) : KeptS S w w := ⟨Marked.refl _ _ _, fun _ _ _ => rfl⟩
theorem KeptS.trans {S : Nat → Prop} {a b c : World} (h : KeptS S a b) (k : KeptS S b c) : KeptS S a c :=
  ⟨⟨k.m.os.trans h.m.os, k.m.tape.trans h.m.tape, k.m.output.trans h.m.output, Nat.le_trans h.m.size k.m.size, fun b hb hn => absurd ⟨Nat.zero_le b, hb⟩ hn,
    fun a s e => by obtain ⟨s', e'⟩ := h.m.text a s e; exact k.m.text a s' e', fun a s e => by obtain ⟨s', e'⟩ := h.m.flag a s e; exact k.m.flag a s' e',
    fun a x n c e => k.m.list a x n c (h.m.list a x n c e), fun a ha => (k.m.frozen a (Nat.lt_of_lt_of_le ha h.m.size)).trans (h.m.frozen a ha)⟩,
   fun i hi hn => (k.block i (Nat.lt_of_lt_of_le hi h.m.size) hn).trans (h.block i hi hn)⟩
theorem KeptS.of_below {S : Nat → Prop} {w w' : World} (h : Below w.heap.size w w') : KeptS S w w' := ⟨(Marked.of_below 0 0 h).all, fun b hb _ => h.block b hb⟩
theorem KeptS.of_marked {S : Nat → Prop} {lo hi : Nat} {w w' : World} (h : Marked lo hi w w') (hS : ∀ b, lo ≤ b → b < hi → S b) : KeptS S w w' := ⟨h.all, fun b hb hn => h.block b hb fun e => hn (hS b e.1 e.2)⟩
theorem KeptS.below {S : Nat → Prop} {w w' : World} {B : Nat} (h : KeptS S w w') (hB : B ≤ w.heap.size) (hS : ∀ b, S b → B ≤ b) : Below B w w' :=
  ⟨h.m.os, h.m.tape, h.m.output, h.m.size, fun b hb => h.block b (by omega) fun e => by have := hS b e; omega⟩
theorem KeptS.cell {S : Nat → Prop} {w w' : World} {p : Addr} {v : Value} (h : KeptS S w w') (hc : w.cell? p = some v) (hS : ¬ S p.block) : w'.cell? p = some v :=
  (World.cell?_of_block (h.block _ (cell_block hc) hS)).trans hc

theorem WFs.of_rep {w : World} {lo hi : Nat} {fs : List F} {a : Option Addr} (h : FsRep w (fun b => lo ≤ b ∧ b < hi) fs a) (nf : NF lo w) : WFs w lo hi fs a := fun hn => by
  obtain ⟨-, C, hA, hr⟩ := h
  obtain ⟨b, off, e, hb, hc⟩ := hA hn
  refine ⟨b, off, e, hb.1, hb.2, fun i hi => ?_⟩
  obtain ⟨e0, e1, e2, e3, e4, e5, e6, na, nc, e7, hS, -⟩ := (hr i hi).pieces
  have c : ∀ j, j < 8 → w.cell? ⟨b, off + i * 8 + j, none⟩ = some (C i j) := fun j hj => hc i hi j hj
  have c0 : w.cell? ⟨b, off + i * 8, none⟩ = some (C i 0) := c 0 (by omega)
  exact ⟨⟨⟨_, c0.trans (congrArg some e0)⟩, nf _ hb.1⟩, ⟨⟨_, (c 1 (by omega)).trans (congrArg some e1)⟩, nf _ hb.1⟩, ⟨⟨_, (c 2 (by omega)).trans (congrArg some e2)⟩, nf _ hb.1⟩, ⟨⟨_, (c 3 (by omega)).trans (congrArg some e3)⟩, nf _ hb.1⟩, ⟨⟨_, (c 4 (by omega)).trans (congrArg some e4)⟩, nf _ hb.1⟩, ⟨⟨_, (c 5 (by omega)).trans (congrArg some e5)⟩, nf _ hb.1⟩, ⟨⟨_, (c 6 (by omega)).trans (congrArg some e6)⟩, nf _ hb.1⟩, na, nc, (c 7 (by omega)).trans (congrArg some e7), WStrs.of_rep hS nf⟩
theorem WTs.of_rep {w : World} {lo hi : Nat} {ts : List T} {a : Option Addr} (h : TsRep w (fun b => lo ≤ b ∧ b < hi) ts a) (nf : NF lo w) : WTs w lo hi ts a := fun hn => by
  obtain ⟨-, C, hA, hr⟩ := h
  obtain ⟨b, off, e, hb, hc⟩ := hA hn
  refine ⟨b, off, e, hb.1, hb.2, fun i hi => ?_⟩
  obtain ⟨fa, fc, e0, e1, e2, hF, -⟩ := (hr i hi).pieces
  have c : ∀ j, j < 3 → w.cell? ⟨b, off + i * 3 + j, none⟩ = some (C i j) := fun j hj => hc i hi j hj
  have c0 : w.cell? ⟨b, off + i * 3, none⟩ = some (C i 0) := c 0 (by omega)
  exact ⟨⟨⟨_, c0.trans (congrArg some e0)⟩, nf _ hb.1⟩, ⟨⟨_, (c 1 (by omega)).trans (congrArg some e1)⟩, nf _ hb.1⟩, fa, fc, (c 2 (by omega)).trans (congrArg some e2), WFs.of_rep hF nf⟩

/-- A text at each place of a list, as marked. -/
def HeldT (w : World) (n k : Nat) (a : Option Addr) : Prop := 0 < n → ∃ b off, a = some ⟨b, off, none⟩ ∧ ∀ i, i < n → w.cell? ⟨b, off + i, none⟩ = some (.string (mtext (k + i)))
theorem HeldT.keep {w w' : World} {n k : Nat} {a : Option Addr} (h : HeldT w n k a) (hb : Below w.heap.size w w') : HeldT w' n k a := fun h0 => by
  obtain ⟨b, off, e, hc⟩ := h h0
  exact ⟨b, off, e, fun i hi => (hb.cell (cell_block (hc i hi))).trans (hc i hi)⟩
end Go.Proofs.YtmemijccbmnaaaaGreat

namespace Go.Proofs.YtmemijccbmnaaaaGreat
set_option linter.unusedSimpArgs false
set_option linter.unusedVariables false
open Go.RowKit

theorem Only.below {S : Nat → Prop} {B : Nat} {a w w' : World} (h : Below B a w) (m : Only S w w') (hB : ∀ b, S b → B ≤ b) (hz : B ≤ w.heap.size) : Below B a w' :=
  ⟨m.os.trans h.os, m.tape.trans h.tape, m.output.trans h.output, Nat.le_trans h.size m.size, fun i hi => (m.block i (by omega) (fun hs => by have := hB i hs; omega)).trans (h.block i hi)⟩
/-- A change's eight cells. -/
def Ch8 (W : World) (N : Nat) (c : Ch) (v1 v2 v3 v4 v5 : Value) : Prop := W.cell? ⟨N, 0, none⟩ = some (.string c.type) ∧ W.cell? ⟨N, 1, none⟩ = some (.int .i64 c.id) ∧ W.cell? ⟨N, 2, none⟩ = some (.string c.field) ∧ W.cell? ⟨N, 3, none⟩ = some v1 ∧ W.cell? ⟨N, 4, none⟩ = some v2 ∧ W.cell? ⟨N, 5, none⟩ = some v3 ∧ W.cell? ⟨N, 6, none⟩ = some v4 ∧ W.cell? ⟨N, 7, none⟩ = some v5
theorem Ch8.of {W : World} {N : Nat} {c : Ch} {v1 v2 v3 v4 v5 : Value} {T : TypeId} (h : W.heap[N]? = some (.cells #[.string c.type, .int .i64 c.id, .string c.field, v1, v2, v3, v4, v5] T (0, 0))) : Ch8 W N c v1 v2 v3 v4 v5 :=
  ⟨(box_at h 0 (by simp)).1, (box_at h 1 (by simp)).1, (box_at h 2 (by simp)).1, (box_at h 3 (by simp)).1, (box_at h 4 (by simp)).1, (box_at h 5 (by simp)).1, (box_at h 6 (by simp)).1, (box_at h 7 (by simp)).1⟩

set_option maxRecDepth 20000 in
set_option maxHeartbeats 12800000 in
theorem lawSet_walk (p : Pt) (rs : List Ro) (c : Ch) (w : World) (v : Value) (ra : Option Addr) (rc : Nat) (u : Value) (hR : PRep w (· < w.heap.size) p v) (hRs : RoReps w (· < w.heap.size) rs ra) (hC : ChRep w (· < w.heap.size) c u) :
    Calls Tryz.prog 3 #[v, .slice ra rs.length rc, u] w fun e w' => e = .returned (.bool true) ∧ Below w.heap.size w w' := by
  have hx := hR
  have hcx := hC
  obtain ⟨pn, pt⟩ := p
  obtain ⟨ta, tc, rfl, -⟩ := hR
  obtain ⟨d1, d2, d3, d4, d5, rfl, hV, -, -⟩ := hC
  obtain ⟨na, ka, nc, kc, e5, -⟩ := hV.form
  simp only [Value.agg.injEq, Array.mk.injEq, List.cons.injEq, and_true] at e5
  obtain ⟨rfl, rfl, rfl, rfl, rfl⟩ := e5
  simp only at hx
  clear hV
  obtain ⟨X, hXe⟩ : ∃ X, X = ((w.alloc (.cells #[.string pn, .slice ta pt.length tc] 24)).alloc (.cells #[.string c.type, .int .i64 c.id, .string c.field, .int .i64 c.val.sort, .int .i64 c.val.num, .string c.val.text, .slice na c.val.names.length nc, .slice ka c.val.kids.length kc] 31)) := ⟨_, rfl⟩
  have nX0 : X.heap[w.heap.size]? = some (.cells #[.string pn, .slice ta pt.length tc] 24 (0, 0)) := by rw [hXe]; exact block_old _ (block_new _ _ rfl) (by simp)
  have nX1 : X.heap[w.heap.size + 1]? = some (.cells #[.string c.type, .int .i64 c.id, .string c.field, .int .i64 c.val.sort, .int .i64 c.val.num, .string c.val.text, .slice na c.val.names.length nc, .slice ka c.val.kids.length kc] 31 (0, 0)) := by rw [hXe]; exact block_new _ _ (by simp)
  have bX0 : Below w.heap.size w X := by rw [hXe]; exact below_box2 w _ _
  have zX0 : w.heap.size + 2 ≤ X.heap.size := by rw [hXe]; simp
  obtain ⟨v1, hv1⟩ : ∃ v1, v1 = Value.int .i64 c.val.sort := ⟨_, rfl⟩
  obtain ⟨v2, hv2⟩ : ∃ v2, v2 = Value.int .i64 c.val.num := ⟨_, rfl⟩
  obtain ⟨v3, hv3⟩ : ∃ v3, v3 = Value.string c.val.text := ⟨_, rfl⟩
  obtain ⟨v4, hv4⟩ : ∃ v4, v4 = Value.slice na c.val.names.length nc := ⟨_, rfl⟩
  obtain ⟨v5, hv5⟩ : ∃ v5, v5 = Value.slice ka c.val.kids.length kc := ⟨_, rfl⟩
  have TB : ∀ W, Below (w.heap.size + 2) X W → (W.cell? ⟨w.heap.size, 0, none⟩ = some (.string pn) ∧ W.cell? ⟨w.heap.size, 1, none⟩ = some (.slice ta pt.length tc)) ∧ Ch8 W (w.heap.size + 1) c (.int .i64 c.val.sort) (.int .i64 c.val.num) (.string c.val.text) (.slice na c.val.names.length nc) (.slice ka c.val.kids.length kc) ∧ Below w.heap.size w W ∧ w.heap.size + 1 < W.heap.size := fun W h => by
    have h0 := (h.block w.heap.size (by omega)).trans nX0
    have h1 := (h.block (w.heap.size + 1) (by omega)).trans nX1
    exact ⟨⟨(box_at h0 0 (by simp)).1, (box_at h0 1 (by simp)).1⟩, Ch8.of h1, bX0.trans (h.mono (by omega)), by have := h.size; omega⟩
  have hT0 : Below (w.heap.size + 2) X ((w.alloc (.cells #[.string pn, .slice ta pt.length tc] 24)).alloc (.cells #[.string c.type, .int .i64 c.id, .string c.field, .int .i64 c.val.sort, .int .i64 c.val.num, .string c.val.text, .slice na c.val.names.length nc, .slice ka c.val.kids.length kc] 31)) := by rw [← hXe]; exact Below.refl _ _
  clear hXe nX0 nX1 hv1 hv2 hv3 hv4 hv5 v1 v2 v3 v4 v5
  have CPx := fun W (hb : Below w.heap.size w W) => toPart_nf ⟨pn, pt⟩ W w.heap.size _ (hx.under hb) hb.size
  have CRx := fun W (hb : Below w.heap.size w W) => toRowS_nf rs W w.heap.size ra rc (hRs.under hb) hb.size
  have CCx := fun W (hb : Below w.heap.size w W) => toChange_nf c W w.heap.size _ (hcx.mono fun k hk => hb.block k hk) hb.size
  have SCx := fun W (hb : Below w.heap.size w W) left h0 h1 => szChange_any c W w.heap.size _ left (hcx.mono fun k hk => hb.block k hk) hb.size h0 h1
  simp only at CPx
  go_enter Tryz.func3, Tryz.ntmps3
  go_wp2_with fail
  refine (szPart_any _ _ w.heap.size _ _ (hx.under (TB _ hT0).2.2.1) (by simp; omega) (by omega) (by omega)).mono ?_
  rintro e w1 ⟨y1, rfl, hy0, hy1, hy2, hb1⟩
  have hT1 := hT0.trans (hb1.mono (by simp))
  clear hb1 hT0
  obtain ⟨⟨p0, p1⟩, -, hbw1, hz1⟩ := TB w1 hT1
  by_cases h1 : y1 < 0
  · go_wp2_with fail
    go_ret
    exact ⟨rfl, hbw1⟩
  have hzp : szP ⟨pn, pt⟩ ≤ 1048576 := by have := hy2 (by omega); omega
  go_wp2_with fail
  clear p0 p1
  refine (szRowS_any _ _ w.heap.size _ _ _ (hRs.under hbw1) (by omega) (by omega) (by omega)).mono ?_
  rintro e w2 ⟨y2, rfl, hy20, hy21, hy22, hb2⟩
  have hT2 := hT1.trans (hb2.mono (by omega))
  obtain ⟨-, ⟨c0, c1, c2, c3, c4, c5, c6, c7⟩, hbw2, hz2⟩ := TB w2 hT2
  by_cases h2 : y2 < 0
  · go_wp2_with fail
    go_ret
    exact ⟨rfl, hbw2⟩
  have hsz : rSz rs ≤ 1048576 := by have := hy22 (by omega); unfold rSz; omega
  go_wp2_with fail
  clear c0 c1 c2 c3 c4 c5 c6 c7
  refine (SCx w2 hbw2 _ (by omega) (by omega)).mono ?_
  rintro e w3 ⟨y3, rfl, hy30, hy31, hy32, hb3⟩
  have hT3 := hT2.trans (hb3.mono (by omega))
  obtain ⟨⟨p0, p1⟩, ⟨c0, c1, c2, c3, c4, c5, c6, c7⟩, hbw3, hz3⟩ := TB w3 hT3
  by_cases h3 : y3 < 0
  · go_wp2_with fail
    go_ret
    exact ⟨rfl, hbw3⟩
  have hsx : szV c.val ≤ 1048576 := by have := hy32 (by omega); omega
  clear hb2 hb3 hT1 hT2 hbw1 hbw2 hz1 hz2 hy0 hy1 hy2 hy20 hy21 hy22 hy30 hy31 hy32 SCx
  have hnl : c.val.names.length ≤ 1048576 := by have := len_szNs c.val.names; have := szV_eq c.val; omega
  have hkl : kSz c.val.kids ≤ 1048576 := by have := szV_eq c.val; unfold kSz; omega
  have SB := fun W B pn' ta' tl' tc' ra' rc' s n t na' ka' nl nc' kl kc' h1 h2 h3 h4 => SetRowS_any ⟨pn, pt⟩ rs c W B pn' ta' tl' tc' ra' rc' s n t na' ka' nl nc' kl kc' h1 h2 hzp h3 hsz h4 hsx
  have IB := fun W B pn' ta' tl' tc' ra' rc' s n t na' ka' nl nc' kl kc' h1 h2 h3 hrc h4 => SetRowI_any ⟨pn, pt⟩ rs c W B pn' ta' tl' tc' ra' rc' s n t na' ka' nl nc' kl kc' h1 h2 hzp h3 hrc hsz h4 hsx
  obtain ⟨hln, hmk, hfin⟩ := setRs_fine ⟨pn, pt⟩ rs c hsz hsx
  generalize setRs ⟨pn, pt⟩ rs c = rl at SB IB hfin hmk hln
  generalize setCode ⟨pn, pt⟩ rs c = cd at SB IB
  have HF := hid_of hfin
  have HSB := hid_of SB
  have HIB := hid_of IB
  have HCP := hid_of CPx
  have HCR := hid_of CRx
  have HCC := hid_of CCx
  have HTB := hid_of TB
  clear SB IB CPx CRx CCx hfin TB hx hcx hRs
  go_wp2_with fail
  have HB3 : Hid (∀ W, Below w3.heap.size w3 W → Below (w.heap.size + 2) X W ∧ Below w.heap.size w W) := hid_of fun W h => ⟨hT3.trans (h.mono (by omega)), hbw3.trans (h.mono (by omega))⟩
  go_cut [8, 9] (fun r1 r2 wx => ∃ a0 c0, r1 = .slice a0 rl.length c0 ∧ r2 = .int .i64 cd ∧ Below w3.heap.size w3 wx ∧ RoReps wx (fun b => w3.heap.size ≤ b ∧ b < wx.heap.size) rl a0)
  case first =>
    have e0 : Below w3.heap.size w3 w3.drew := (Below.refl _ _).drew
    go_region_held3 (fun w' => w'.cell? ⟨w.heap.size, 0, none⟩ = some (.string pn) ∧ w'.cell? ⟨w.heap.size, 1, none⟩ = some (.slice ta pt.length tc) ∧ w'.cell? ⟨w.heap.size + 1, 0, none⟩ = some (.string c.type) ∧ w'.cell? ⟨w.heap.size + 1, 1, none⟩ = some (.int .i64 c.id) ∧ w'.cell? ⟨w.heap.size + 1, 2, none⟩ = some (.string c.field) ∧ w'.cell? ⟨w.heap.size + 1, 3, none⟩ = some (.int .i64 c.val.sort) ∧ w'.cell? ⟨w.heap.size + 1, 4, none⟩ = some (.int .i64 c.val.num) ∧ w'.cell? ⟨w.heap.size + 1, 5, none⟩ = some (.string c.val.text) ∧ w'.cell? ⟨w.heap.size + 1, 6, none⟩ = some (.slice na c.val.names.length nc) ∧ w'.cell? ⟨w.heap.size + 1, 7, none⟩ = some (.slice ka c.val.kids.length kc)) (go_keep)
      (first
        | (
          go_at_call 8
          refine (HCP.out w3.drew (HB3.out _ e0).2).mono ?_
          rintro e wa ⟨tap, tcp, rfl, hba, hra, -⟩
          have ba := below_undrew hba
          obtain ⟨⟨ap0, ap1⟩, ⟨ac0, ac1, ac2, ac3, ac4, ac5, ac6, ac7⟩, -, -⟩ := HTB.out wa (HB3.out wa ba).1
          have HA := hid_of (And.intro ba hra)
          clear hba ba hra)
        | (
          go_at_call 9
          refine (HCR.out wa (HB3.out wa HA.out.1).2).mono ?_
          rintro e wb ⟨rfl, hbb, -, hrb, -⟩
          have bb := HA.out.1.trans (hbb.mono HA.out.1.size)
          obtain ⟨⟨bp0, bp1⟩, ⟨bc0, bc1, bc2, bc3, bc4, bc5, bc6, bc7⟩, -, -⟩ := HTB.out wb (HB3.out wb bb).1
          have HB := hid_of (And.intro bb (And.intro (HA.out.2.mono fun b hb => hbb.block b hb.2) (And.intro hrb hbb.size)))
          clear hbb bb hrb)
        | (
          go_at_call 10
          refine (HCC.out wb (HB3.out wb HB.out.1).2).mono ?_
          rintro e wd ⟨ds, dn, dt, dna, dka, dnl, dnc, dkl, dkc, rfl, hbd, hrd, -⟩
          have bd := HB.out.1.trans (hbd.mono HB.out.1.size)
          obtain ⟨⟨dp0, dp1⟩, ⟨dc0, dc1, dc2, dc3, dc4, dc5, dc6, dc7⟩, -, -⟩ := HTB.out wd (HB3.out wd bd).1
          have HD := hid_of (And.intro bd (And.intro (HB.out.2.1.mono fun b hb => hbd.block b (by have := HB.out.2.2.2; omega)) (And.intro (HB.out.2.2.1.mono fun b hb => hbd.block b hb.2) (And.intro hrd hbd.size))))
          clear hbd bd hrd)
        | (
          go_at_call 7
          refine (HSB.out wd wd.heap.size _ _ _ _ _ _ _ _ _ _ _ _ _ _ _ (HD.out.2.1.sub fun b hb => by have := HB.out.2.2.2; have := HD.out.2.2.2.2; omega) (Nat.le_refl _) (HD.out.2.2.1.sub fun b hb => by have := HD.out.2.2.2.2; omega) (HD.out.2.2.2.1.val.sub fun b hb => hb.2)).mono ?_
          rintro e we ⟨⟨a0, c0', rfl, hre⟩, hbe⟩
          have be := HD.out.1.trans (hbe.mono HD.out.1.size)
          obtain ⟨⟨ep0, ep1⟩, ⟨ec0, ec1, ec2, ec3, ec4, ec5, ec6, ec7⟩, -, -⟩ := HTB.out we (HB3.out we be).1
          have HE := hid_of (And.intro be (hre.sub fun b hb => (⟨by have := HD.out.1.size; omega, hb.2⟩ : w3.heap.size ≤ b ∧ b < we.heap.size)))
          clear hbe be hre))
    all_goals
      go_wp2_with fail
      go_meet
      case rel => exact ⟨a0, c0', rfl, rfl, HE.out.1, HE.out.2⟩
  case rest =>
  obtain ⟨a0, c0', rfl, rfl, hb5, hr5⟩ := hcut
  obtain ⟨w5, rfl⟩ : ∃ x, x = wc := ⟨wc, rfl⟩
  have z5 := hb5.size
  obtain ⟨hT5, hbw5⟩ := HB3.out w5 hb5
  have HR0 := hid_of hr5
  clear p0 p1 c0 c1 c2 c3 c4 c5 c6 c7 hr5 hb5 hT3 hbw3 HSB HB3
  have hz5 : w.heap.size + 1 < w5.heap.size := by omega
  obtain ⟨⟨p0, p1⟩, -, -, -⟩ := HTB.out w5 hT5
  go_wp2_with fail
  clear p0 p1
  refine (HCP.out w5 hbw5).mono ?_
  rintro e w6 ⟨ta6, tc6, rfl, hb6, hr6, nf6⟩
  have z6 := hb6.size
  have HX6 : Hid (WTs w6 w5.heap.size w6.heap.size pt ta6) := by
    obtain ⟨ta7, tc7, e7, hK, -⟩ := hr6
    simp only [Value.agg.injEq, Array.mk.injEq, List.cons.injEq, Value.slice.injEq, and_true, true_and] at e7
    obtain ⟨rfl, rfl⟩ := e7
    exact WTs.of_rep hK nf6
  have bY := below_box w6 (.cells #[.string pn, .slice ta6 pt.length tc6] 40)
  have KY := block_new (w := w6) #[.string pn, .slice ta6 pt.length tc6] 40 rfl
  have zY : w6.heap.size < (w6.alloc (.cells #[.string pn, .slice ta6 pt.length tc6] 40)).heap.size := by simp
  have zY2 : (w6.alloc (.cells #[.string pn, .slice ta6 pt.length tc6] 40)).heap.size ≤ w6.heap.size + 1 := by simp
  have hT6 := (hT5.trans (hb6.mono (by omega))).trans (bY.mono (by omega))
  have HR1 := hid_of (And.intro (hr6.mono fun b hb => bY.block b hb.2) (HX6.out.keep (Marked.of_below 0 0 bY)))
  have HR0b := hid_of (HR0.out.mono fun b hb => (bY.block b (by omega)).trans (hb6.block b hb.2))
  clear hr6 nf6 HX6 hb6 bY HR0 hT5
  obtain ⟨Y, hYe⟩ : ∃ Y, Y = (w6.alloc (.cells #[.string pn, .slice ta6 pt.length tc6] 40)) := ⟨_, rfl⟩
  rw [← hYe] at KY zY zY2 hT6 HR1 HR0b
  obtain ⟨-, -, hbwY, hzY⟩ := HTB.out Y hT6
  go_wp2_with fail
  rw [← hYe]
  clear hYe
  refine (HCR.out Y hbwY).mono ?_
  rintro e w7 ⟨rfl, hb7, hz7, hr7, nf7⟩
  have z7 := hb7.size
  have hT7 := hT6.trans (hb7.mono (by omega))
  have KY7 := (hb7.block _ zY).trans KY
  have HR2 := hid_of (show PRep w7 (fun b => w5.heap.size ≤ b ∧ b < w6.heap.size) ⟨pn, pt⟩ (.agg #[.string pn, .slice ta6 pt.length tc6]) ∧ WTs w7 w5.heap.size w6.heap.size pt ta6 ∧ RoReps w7 (fun b => w3.heap.size ≤ b ∧ b < w5.heap.size) rl a0 ∧ RoReps w7 (fun b => Y.heap.size ≤ b ∧ b < w7.heap.size) rs _ ∧ WRows w7 Y.heap.size w7.heap.size rs _ from ⟨HR1.out.1.mono fun b hb => hb7.block b (by omega), HR1.out.2.keep (Marked.of_below 0 0 hb7), HR0b.out.mono fun b hb => hb7.block b (by omega), hr7, WRows.of_rep hr7 nf7⟩)
  clear hr7 nf7 hb7 HR1 HR0b KY hT6 hbwY
  obtain ⟨-, ⟨c0, c1, c2, c3, c4, c5, c6, c7⟩, hbw7, hz7'⟩ := HTB.out w7 hT7
  go_wp2_with fail
  clear c0 c1 c2 c3 c4 c5 c6 c7
  refine (HCC.out w7 hbw7).mono ?_
  rintro e w8 ⟨s8, n8, t8, na8, ka8, nl8, nc8, kl8, kc8, rfl, hb8, hr8, nf8⟩
  have z8 := hb8.size
  have HX8 := hid_of (WVal.of_rep hr8.val nf8)
  have bZ := below_box w8 (.cells #[.string c.type, .int .i64 c.id, .string c.field, .int .i64 s8, .int .i64 n8, .string t8, .slice na8 nl8 nc8, .slice ka8 kl8 kc8] 47)
  have KZ := block_new (w := w8) #[.string c.type, .int .i64 c.id, .string c.field, .int .i64 s8, .int .i64 n8, .string t8, .slice na8 nl8 nc8, .slice ka8 kl8 kc8] 47 rfl
  have zZ : w8.heap.size < (w8.alloc (.cells #[.string c.type, .int .i64 c.id, .string c.field, .int .i64 s8, .int .i64 n8, .string t8, .slice na8 nl8 nc8, .slice ka8 kl8 kc8] 47)).heap.size := by simp
  have hT8 := (hT7.trans (hb8.mono (by omega))).trans (bZ.mono (by omega))
  have KY8 := (bZ.block _ (by omega)).trans ((hb8.block _ (by omega)).trans KY7)
  have HR3 := hid_of (And.intro (hr8.mono (w' := w8.alloc (.cells #[.string c.type, .int .i64 c.id, .string c.field, .int .i64 s8, .int .i64 n8, .string t8, .slice na8 nl8 nc8, .slice ka8 kl8 kc8] 47)) fun b hb => bZ.block b hb.2) (And.intro (HX8.out.block (w' := w8.alloc (.cells #[.string c.type, .int .i64 c.id, .string c.field, .int .i64 s8, .int .i64 n8, .string t8, .slice na8 nl8 nc8, .slice ka8 kl8 kc8] 47)) fun b h1 h2 => bZ.block b h2) (hb8.trans (bZ.mono z8))))
  clear hr8 nf8 HX8 hb8 bZ hT7 hbw7 KY7
  obtain ⟨x0, -⟩ := box_at KY8 0 (by simp)
  obtain ⟨x1, -⟩ := box_at KY8 1 (by simp)
  obtain ⟨u0, u1, u2, u3, u4, u5, u6, u7⟩ := Ch8.of KZ
  obtain ⟨Z, hZe⟩ : ∃ Z, Z = (w8.alloc (.cells #[.string c.type, .int .i64 c.id, .string c.field, .int .i64 s8, .int .i64 n8, .string t8, .slice na8 nl8 nc8, .slice ka8 kl8 kc8] 47)) := ⟨_, rfl⟩
  rw [← hZe] at KZ zZ hT8 HR3 KY8
  have HZE := hid_of hZe
  clear hZe
  obtain ⟨-, -, hbwZ, hzZ⟩ := HTB.out Z hT8
  have HI := hid_of (HIB.out Z w8.heap.size pn ta6 pt.length tc6 (some ⟨Y.heap.size, 0, none⟩) rs.length s8 n8 t8 na8 ka8 nl8 nc8 kl8 kc8 ((HR2.out.1.mono fun b hb => HR3.out.2.2.block b (by omega)).sub fun b hb => by omega) (by omega) ((HR2.out.2.2.2.1.mono fun b hb => HR3.out.2.2.block b hb.2).sub fun b hb => by omega) (Nat.le_refl _) (HR3.out.1.val.sub fun b hb => hb.2))
  go_wp2_with fail
  rw [← HZE.out]
  clear HZE x0 x1 u0 u1 u2 u3 u4 u5 u6 u7
  refine HI.out.mono ?_
  rintro e w9 ⟨⟨ag, cg, b0, A, K, lab, rfl, hM9⟩, hb9⟩
  have z9 := hb9.size
  have hT9 := hT8.trans (hb9.mono (by omega))
  have KY9 := (hb9.block _ (by omega)).trans KY8
  have KZ9 := (hb9.block _ zZ).trans KZ
  have HLAB := hid_of hM9.way
  have HG9 := hid_of (And.intro hM9.lrows hM9.reps)
  obtain ⟨S1, hS1⟩ : ∃ S : Nat → Prop, ∀ b, S b ↔ ((w5.heap.size ≤ b ∧ b < w6.heap.size) ∨ (Y.heap.size ≤ b ∧ b < w7.heap.size) ∨ (w7.heap.size ≤ b ∧ b < w8.heap.size)) := ⟨_, fun b => Iff.rfl⟩
  have FK : ∀ W, Only S1 w9 W → ((W.cell? ⟨w.heap.size, 0, none⟩ = some (.string pn) ∧ W.cell? ⟨w.heap.size, 1, none⟩ = some (.slice ta pt.length tc)) ∧ Ch8 W (w.heap.size + 1) c (.int .i64 c.val.sort) (.int .i64 c.val.num) (.string c.val.text) (.slice na c.val.names.length nc) (.slice ka c.val.kids.length kc)) ∧ ((W.cell? ⟨w6.heap.size, 0, none⟩ = some (.string pn) ∧ W.cell? ⟨w6.heap.size, 1, none⟩ = some (.slice ta6 pt.length tc6)) ∧ Ch8 W w8.heap.size c (.int .i64 s8) (.int .i64 n8) (.string t8) (.slice na8 nl8 nc8) (.slice ka8 kl8 kc8)) ∧ Below w.heap.size w W ∧ Below (w.heap.size + 2) X W ∧ w9.heap.size ≤ W.heap.size := fun W h => by
    have hT := Only.below hT9 h (fun b hb => by rw [hS1] at hb; omega) (by have := hT9.size; omega)
    obtain ⟨q0, q1, q2, -⟩ := HTB.out W hT
    have KW := (h.block w6.heap.size (by omega) (fun hb => by rw [hS1] at hb; omega)).trans KY9
    have KV := (h.block w8.heap.size (by omega) (fun hb => by rw [hS1] at hb; omega)).trans KZ9
    exact ⟨⟨q0, q1⟩, ⟨⟨(box_at KW 0 (by simp)).1, (box_at KW 1 (by simp)).1⟩, Ch8.of KV⟩, q2, hT, h.size⟩
  have FG : ∀ W, Only S1 w9 W → RoReps W (fun b => w3.heap.size ≤ b ∧ b < w5.heap.size) rl a0 ∧ RoReps W (fun b => Z.heap.size ≤ b ∧ b < w9.heap.size) rl ag ∧ LRows W lab [] rl ag := fun W h =>
    ⟨HR2.out.2.2.1.mono fun b hb => ((h.block b (by omega) (fun hb' => by rw [hS1] at hb'; omega)).trans (hb9.block b (by omega))).trans (HR3.out.2.2.block b (by omega)), HG9.out.2.mono fun b hb => h.block b (by omega) (fun hb' => by rw [hS1] at hb'; omega), HG9.out.1.keep fun b h1 _ => h.block b (HLAB.out b h1).2 (fun hb' => by have := HLAB.out b h1; rw [hS1] at hb'; omega)⟩
  have FR : ∀ W, Below w9.heap.size w9 W → PRep W (fun b => w5.heap.size ≤ b ∧ b < w6.heap.size) ⟨pn, pt⟩ (.agg #[.string pn, .slice ta6 pt.length tc6]) ∧ WTs W w5.heap.size w6.heap.size pt ta6 ∧ RoReps W (fun b => Y.heap.size ≤ b ∧ b < w7.heap.size) rs (some ⟨Y.heap.size, 0, none⟩) ∧ WRows W Y.heap.size w7.heap.size rs (some ⟨Y.heap.size, 0, none⟩) ∧ ChRep W (fun b => w7.heap.size ≤ b ∧ b < w8.heap.size) c (.agg #[.string c.type, .int .i64 c.id, .string c.field, .int .i64 s8, .int .i64 n8, .string t8, .slice na8 nl8 nc8, .slice ka8 kl8 kc8]) ∧ WVal W w7.heap.size w8.heap.size c.val (.int .i64 s8) (.int .i64 n8) (.string t8) (.slice na8 nl8 nc8) (.slice ka8 kl8 kc8) := fun W h => by
    have hold : ∀ b, b < w7.heap.size → W.heap[b]? = w7.heap[b]? := fun b hb => ((h.block b (by omega)).trans (hb9.block b (by omega))).trans (HR3.out.2.2.block b hb)
    have hnew : ∀ b, b < w8.heap.size → W.heap[b]? = Z.heap[b]? := fun b hb => (h.block b (by omega)).trans (hb9.block b (by omega))
    exact ⟨HR2.out.1.mono fun b hb => hold b (by omega), ((HR2.out.2.1.keep (Marked.of_below 0 0 HR3.out.2.2)).keep (Marked.of_below 0 0 hb9)).keep (Marked.of_below 0 0 h), HR2.out.2.2.2.1.mono fun b hb => hold b hb.2, HR2.out.2.2.2.2.block fun b h1 h2 => hold b h2, HR3.out.1.mono fun b hb => hnew b hb.2, HR3.out.2.1.block fun b h1 h2 => hnew b h2⟩
  have HFK := hid_of FK
  have HFG := hid_of FG
  have HFR := hid_of FR
  clear FK FG FR hM9 HI hT8 hbwZ KY9 KZ9 KY8 KZ
  have E1 := eqRowS_any rl w9 w9.heap.size ag a0 cg c0' ((HFG.out w9 (Only.refl _ _)).2.1.sub fun b hb => hb.2) ((HFG.out w9 (Only.refl _ _)).1.sub fun b hb => by omega) (Nat.le_refl _)
  go_wp2_with fail
  refine E1.mono ?_
  rintro e w10 ⟨rfl, hb10⟩
  clear E1
  have z10 := hb10.size
  obtain ⟨⟨⟨p0, p1⟩, -⟩, ⟨⟨x0, x1⟩, -⟩, bb10, -, -⟩ := HFK.out w10 (Only.of_below _ hb10)
  have hcdn : (cd != cd) = false := by simp
  go_wp2_with fail
  go_cut [71] (fun r wx => r = .bool false ∧ Below w9.heap.size w9 wx)
  case first =>
    go_region_held3 (fun w' => w'.cell? ⟨w.heap.size, 0, none⟩ = some (.string pn) ∧ w'.cell? ⟨w.heap.size, 1, none⟩ = some (.slice ta pt.length tc) ∧ w'.cell? ⟨w6.heap.size, 0, none⟩ = some (.string pn) ∧ w'.cell? ⟨w6.heap.size, 1, none⟩ = some (.slice ta6 pt.length tc6)) (go_keep)
      (first
        | (
          go_at_call 8
          refine (HCP.out w10.drew bb10.drew).mono ?_
          rintro e w11 ⟨ta11, tc11, rfl, hb11, hr11, -⟩
          have hb11' := hb10.trans ((below_undrew hb11).mono z10)
          have z11 := hb11'.size
          have R11 := (HFR.out w11 hb11').1
          obtain ⟨⟨⟨p0', p1'⟩, -⟩, ⟨⟨x0', x1'⟩, -⟩, -⟩ := HFK.out w11 (Only.of_below _ hb11'))
        | (
          go_at_call 13
          refine (eqPart_any ⟨pn, pt⟩ w11 w11.heap.size _ _ (R11.sub fun k hk => by omega) (hr11.sub fun k hk => hk.2) (Nat.le_refl _)).mono ?_
          rintro e w12 ⟨rfl, hb12⟩
          have hb12' := hb11'.trans (hb12.mono z11)
          obtain ⟨⟨⟨p0'', p1''⟩, -⟩, ⟨⟨x0'', x1''⟩, -⟩, -⟩ := HFK.out w12 (Only.of_below _ hb12')))
    all_goals
      go_wp2_with fail
      go_meet
      case rel => exact ⟨rfl, hb12'⟩
  case rest =>
  obtain ⟨rfl, hb12⟩ := hcut
  obtain ⟨w12, rfl⟩ : ∃ x, x = wc := ⟨wc, rfl⟩
  clear p0 p1 x0 x1 bb10 hb10 z10
  have z12 := hb12.size
  obtain ⟨-, -, bb12, -, -⟩ := HFK.out w12 (Only.of_below _ hb12)
  go_wp2_with fail
  refine (HCR.out w12 bb12).mono ?_
  rintro e w13 ⟨rfl, hb13, -, hr13, -⟩
  have b13 := hb12.trans (hb13.mono z12)
  have z13 := hb13.size
  have R13 := (HFR.out w13 b13).2.2.1
  have HE13 := hid_of (eqRowS_any rs w13 w13.heap.size _ _ rs.length rs.length (R13.sub fun b hb => by omega) (hr13.sub fun b hb => hb.2) (Nat.le_refl _))
  clear hr13 R13 hb13 hb12 bb12
  go_wp2_with fail
  refine HE13.out.mono ?_
  rintro e w14 ⟨rfl, hb14⟩
  have z14 := hb14.size
  have b14 := b13.trans (hb14.mono (by omega))
  clear HE13 hb14 b13
  obtain ⟨⟨-, ⟨c0, c1, c2, c3, c4, c5, c6, c7⟩⟩, ⟨-, ⟨u0, u1, u2, u3, u4, u5, u6, u7⟩⟩, bb14, -, -⟩ := HFK.out w14 (Only.of_below _ b14)
  go_wp2_with fail
  go_cut [81] (fun r wx => r = .bool false ∧ Below w9.heap.size w9 wx)
  case first =>
    go_region_held3 (fun w' => w'.cell? ⟨w.heap.size + 1, 0, none⟩ = some (.string c.type) ∧ w'.cell? ⟨w.heap.size + 1, 1, none⟩ = some (.int .i64 c.id) ∧ w'.cell? ⟨w.heap.size + 1, 2, none⟩ = some (.string c.field) ∧ w'.cell? ⟨w.heap.size + 1, 3, none⟩ = some (.int .i64 c.val.sort) ∧ w'.cell? ⟨w.heap.size + 1, 4, none⟩ = some (.int .i64 c.val.num) ∧ w'.cell? ⟨w.heap.size + 1, 5, none⟩ = some (.string c.val.text) ∧ w'.cell? ⟨w.heap.size + 1, 6, none⟩ = some (.slice na c.val.names.length nc) ∧ w'.cell? ⟨w.heap.size + 1, 7, none⟩ = some (.slice ka c.val.kids.length kc) ∧ w'.cell? ⟨w8.heap.size, 0, none⟩ = some (.string c.type) ∧ w'.cell? ⟨w8.heap.size, 1, none⟩ = some (.int .i64 c.id) ∧ w'.cell? ⟨w8.heap.size, 2, none⟩ = some (.string c.field) ∧ w'.cell? ⟨w8.heap.size, 3, none⟩ = some (.int .i64 s8) ∧ w'.cell? ⟨w8.heap.size, 4, none⟩ = some (.int .i64 n8) ∧ w'.cell? ⟨w8.heap.size, 5, none⟩ = some (.string t8) ∧ w'.cell? ⟨w8.heap.size, 6, none⟩ = some (.slice na8 nl8 nc8) ∧ w'.cell? ⟨w8.heap.size, 7, none⟩ = some (.slice ka8 kl8 kc8)) (go_keep)
      (first
        | (
          go_at_call 10
          refine (HCC.out w14.drew bb14.drew).mono ?_
          rintro e w15 ⟨ds, dn, dt, dna, dka, dnl, dnc, dkl, dkc, rfl, hb15, hr15, -⟩
          have hb15' := b14.trans ((below_undrew hb15).mono b14.size)
          have z15 := hb15'.size
          have R15 := (HFR.out w15 hb15').2.2.2.2.1
          obtain ⟨⟨-, ⟨d0, d1, d2, d3, d4, d5, d6, d7⟩⟩, ⟨-, ⟨f0, f1, f2, f3, f4, f5, f6, f7⟩⟩, -⟩ := HFK.out w15 (Only.of_below _ hb15'))
        | (
          go_at_call 14
          refine (eqChange_any c w15 w15.heap.size _ _ (R15.sub fun k hk => by omega) (hr15.sub fun k hk => hk.2) (Nat.le_refl _)).mono ?_
          rintro e w16 ⟨rfl, hb16⟩
          have hb16' := hb15'.trans (hb16.mono z15)
          obtain ⟨⟨-, ⟨g0, g1, g2, g3, g4, g5, g6, g7⟩⟩, ⟨-, ⟨h0, h1, h2, h3, h4, h5, h6, h7⟩⟩, -⟩ := HFK.out w16 (Only.of_below _ hb16')))
    all_goals
      go_wp2_with fail
      go_meet
      case rel => exact ⟨rfl, hb16'⟩
  case rest =>
  obtain ⟨rfl, b16⟩ := hcut
  obtain ⟨w16, rfl⟩ : ∃ x, x = wc := ⟨wc, rfl⟩
  clear c0 c1 c2 c3 c4 c5 c6 c7 u0 u1 u2 u3 u4 u5 u6 u7 bb14 b14 z14
  have z16 := b16.size
  obtain ⟨-, ⟨⟨x0, x1⟩, -⟩, -, -, -⟩ := HFK.out w16 (Only.of_below _ b16)
  have hMP := markPart_from ⟨pn, pt⟩ (.string pn) tc6 1 w5.heap.size w6.heap.size ta6 w16 (HFR.out w16 b16).2.1 hzp (by omega)
  have hmp := mP_small ⟨pn, pt⟩ hzp
  generalize mP ⟨pn, pt⟩ = mp at hmp hMP
  have HMP := hid_of hMP
  clear hMP
  go_wp2_with fail
  clear x0 x1
  refine HMP.out.mono ?_
  rintro e w17 ⟨rfl, hm17⟩
  have z17 := hm17.size
  have o17 : Only S1 w9 w17 := (Only.of_below S1 b16).trans (Only.of_marked hm17 fun b h1 h2 => by rw [hS1]; omega)
  have HW17 := hid_of (And.intro ((HFR.out w16 b16).2.2.2.1.block (w' := w17) fun b h1 h2 => hm17.block b (by omega) (by omega)) ((HFR.out w16 b16).2.2.2.2.2.block (w' := w17) fun b h1 h2 => hm17.block b (by omega) (by omega)))
  have hMR := markRowS_g rs rs.length Y.heap.size w7.heap.size ((1 + mp : Nat) : Int) _ w17 HW17.out.1 hsz (by omega) (by omega)
  have HMR := hid_of hMR
  clear hMR HMP hm17
  go_wp2_with fail
  refine HMR.out.mono ?_
  rintro e w18 ⟨⟨k18, rfl, k180, k181⟩, m18⟩
  have z18 := m18.m.size
  have o18 : Only S1 w9 w18 := o17.trans (Only.of_marked m18.m fun b h1 h2 => by rw [hS1]; omega)
  have hMC := markChange_k c w18 w7.heap.size w8.heap.size _ _ _ _ _ k18 (HW17.out.2.keep m18) hnl hkl k180 k181
  have HMC := hid_of hMC
  obtain ⟨-, ⟨-, ⟨u0, u1, u2, u3, u4, u5, u6, u7⟩⟩, -, -, -⟩ := HFK.out w18 o18
  clear HMR m18 o17 b16 HW17 hMC
  go_wp2_with fail
  clear u0 u1 u2 u3 u4 u5 u6 u7
  refine HMC.out.mono ?_
  rintro e w19 ⟨⟨k19, rfl, k190⟩, m19⟩
  have z19 := m19.m.size
  have o19 : Only S1 w9 w19 := o18.trans (Only.of_marked m19.m fun b h1 h2 => by rw [hS1]; omega)
  clear HMC m19 o18
  have k192 : ¬ k19 < 0 := by omega
  have HE19 := hid_of (eqRowS_any rl w19 w19.heap.size ag a0 cg c0' ((HFG.out w19 o19).2.1.sub fun b hb => by omega) ((HFG.out w19 o19).1.sub fun b hb => by omega) (Nat.le_refl _))
  go_wp2_with fail
  refine HE19.out.mono ?_
  rintro e w20 ⟨rfl, hb20⟩
  have z20 := hb20.size
  have o20 : Only S1 w9 w20 := o19.trans (Only.of_below _ hb20)
  clear HE19 hb20 o19
  have HM20 := hid_of (markRowS_l rl lab [] ag cg 1 w20 (HFG.out w20 o20).2.2 (fun b hb => by have := HLAB.out b hb; omega) (by omega) (by omega) HF.out)
  go_wp2_with fail
  refine HM20.out.mono ?_
  rintro e w21 ⟨rfl, o21, hL21⟩
  have z21 := o21.size
  have hSk : ∀ b, Sk lab [] b → Z.heap.size ≤ b := fun b hb => (HLAB.out b (by
      rcases hb with h | ⟨i, h⟩
      · rw [h]; simp
      · exact suffix_ne h)).1
  have bb21 : Below w.heap.size w w21 ∧ Below (w.heap.size + 2) X w21 := by
    obtain ⟨-, -, b1, b2, -⟩ := HFK.out w20 o20
    exact ⟨Only.below b1 o21 (fun b hb => by have := hSk b hb; omega) (by omega), Only.below b2 o21 (fun b hb => by have := hSk b hb; omega) (by omega)⟩
  have HR21 := hid_of ((HFG.out w20 o20).1.mono (w' := w21) fun b hb => o21.block b (by omega) (fun hs => by have := hSk b hs; omega))
  have HL21 := hid_of hL21
  obtain ⟨m, hm⟩ : ∃ m, m = 1 + nRs rl := ⟨_, rfl⟩
  rw [← hm]
  have HMM := hid_of hm
  clear HM20 o21 hL21 o20 hm hSk
  have hm0 : ¬ (m : Int) < 0 := by omega
  have HLR : Hid (∀ W, Below w21.heap.size w21 W → LRows W lab [] (mkRs rl 1) ag) := hid_of fun W h => HL21.out.keep fun b h1 _ => h.block b (by have := HLAB.out b h1; omega)
  have HH21 := hid_of (heldRowS_l rl lab [] ag cg 1 w21 HL21.out (fun b hb => by have := HLAB.out b hb; omega) (by omega) (by omega) HF.out)
  rw [← HMM.out] at HH21
  go_wp2_with fail
  refine HH21.out.mono ?_
  rintro e w22 ⟨rfl, hb22⟩
  have z22 := hb22.size
  clear HH21
  have bX22 := bb21.2.trans (hb22.mono (by omega))
  obtain ⟨⟨p0, p1⟩, ⟨c0, c1, c2, c3, c4, c5, c6, c7⟩, bw22, -⟩ := HTB.out w22 bX22
  go_wp2_with fail
  have HB22 : Hid (∀ W, Below w22.heap.size w22 W → Below (w.heap.size + 2) X W ∧ Below w.heap.size w W) := hid_of fun W h => ⟨bX22.trans (h.mono (by omega)), bw22.trans (h.mono (by omega))⟩
  go_cut [18, 19] (fun r1 r2 wx => ∃ ah ch, r1 = .slice ah rl.length ch ∧ r2 = .int .i64 cd ∧ Below w22.heap.size w22 wx ∧ RoReps wx (fun b => w22.heap.size ≤ b ∧ b < wx.heap.size) rl ah)
  case first =>
    have e0 : Below w22.heap.size w22 w22.drew := (Below.refl _ _).drew
    go_region_held3 (fun w' => w'.cell? ⟨w.heap.size, 0, none⟩ = some (.string pn) ∧ w'.cell? ⟨w.heap.size, 1, none⟩ = some (.slice ta pt.length tc) ∧ w'.cell? ⟨w.heap.size + 1, 0, none⟩ = some (.string c.type) ∧ w'.cell? ⟨w.heap.size + 1, 1, none⟩ = some (.int .i64 c.id) ∧ w'.cell? ⟨w.heap.size + 1, 2, none⟩ = some (.string c.field) ∧ w'.cell? ⟨w.heap.size + 1, 3, none⟩ = some (.int .i64 c.val.sort) ∧ w'.cell? ⟨w.heap.size + 1, 4, none⟩ = some (.int .i64 c.val.num) ∧ w'.cell? ⟨w.heap.size + 1, 5, none⟩ = some (.string c.val.text) ∧ w'.cell? ⟨w.heap.size + 1, 6, none⟩ = some (.slice na c.val.names.length nc) ∧ w'.cell? ⟨w.heap.size + 1, 7, none⟩ = some (.slice ka c.val.kids.length kc)) (go_keep)
      (first
        | (
          go_at_call 8
          refine (HCP.out w22.drew (HB22.out _ e0).2).mono ?_
          rintro e wa ⟨tap, tcp, rfl, hba, hra, -⟩
          have ba := below_undrew hba
          obtain ⟨⟨ap0, ap1⟩, ⟨ac0, ac1, ac2, ac3, ac4, ac5, ac6, ac7⟩, -, -⟩ := HTB.out wa (HB22.out wa ba).1
          have HA := hid_of (And.intro ba hra)
          clear hba ba hra)
        | (
          go_at_call 9
          refine (HCR.out wa (HB22.out wa HA.out.1).2).mono ?_
          rintro e wb ⟨rfl, hbb, -, hrb, -⟩
          have bb := HA.out.1.trans (hbb.mono HA.out.1.size)
          obtain ⟨⟨bp0, bp1⟩, ⟨bc0, bc1, bc2, bc3, bc4, bc5, bc6, bc7⟩, -, -⟩ := HTB.out wb (HB22.out wb bb).1
          have HB := hid_of (And.intro bb (And.intro (HA.out.2.mono fun b hb => hbb.block b hb.2) (And.intro hrb hbb.size)))
          clear hbb bb hrb)
        | (
          go_at_call 10
          refine (HCC.out wb (HB22.out wb HB.out.1).2).mono ?_
          rintro e wd ⟨ds, dn, dt, dna, dka, dnl, dnc, dkl, dkc, rfl, hbd, hrd, -⟩
          have bd := HB.out.1.trans (hbd.mono HB.out.1.size)
          obtain ⟨⟨dp0, dp1⟩, ⟨dc0, dc1, dc2, dc3, dc4, dc5, dc6, dc7⟩, -, -⟩ := HTB.out wd (HB22.out wd bd).1
          have HD := hid_of (And.intro bd (And.intro (HB.out.2.1.mono fun b hb => hbd.block b (by have := HB.out.2.2.2; omega)) (And.intro (HB.out.2.2.1.mono fun b hb => hbd.block b hb.2) (And.intro hrd hbd.size))))
          clear hbd bd hrd)
        | (
          go_at_call 11
          refine (HIB.out wd wd.heap.size _ _ _ _ _ _ _ _ _ _ _ _ _ _ _ (HD.out.2.1.sub fun b hb => by have := HB.out.2.2.2; have := HD.out.2.2.2.2; omega) (Nat.le_refl _) (HD.out.2.2.1.sub fun b hb => by have := HD.out.2.2.2.2; omega) (Nat.le_refl _) (HD.out.2.2.2.1.val.sub fun b hb => hb.2)).mono ?_
          rintro e we ⟨⟨ah, ch, eb0, eA, eK, lab2, rfl, hMe⟩, hbe⟩
          have be := HD.out.1.trans (hbe.mono HD.out.1.size)
          obtain ⟨⟨ep0, ep1⟩, ⟨ec0, ec1, ec2, ec3, ec4, ec5, ec6, ec7⟩, -, -⟩ := HTB.out we (HB22.out we be).1
          have HE := hid_of (And.intro be (hMe.reps.sub fun b hb => (⟨by have := HD.out.1.size; omega, hb.2⟩ : w22.heap.size ≤ b ∧ b < we.heap.size)))
          clear hbe be hMe))
    all_goals
      go_wp2_with fail
      go_meet
      case rel => exact ⟨ah, ch, rfl, rfl, HE.out.1, HE.out.2⟩
  case rest =>
  obtain ⟨ah, ch, rfl, rfl, hb23, hh23⟩ := hcut
  obtain ⟨w23, rfl⟩ : ∃ x, x = wc := ⟨wc, rfl⟩
  have z23 := hb23.size
  have c23 := hb22.trans (hb23.mono z22)
  obtain ⟨-, bw23⟩ := HB22.out w23 hb23
  clear p0 p1 c0 c1 c2 c3 c4 c5 c6 c7
  have HE23 := hid_of (eqRowS_any rl w23 w23.heap.size ah a0 ch c0' (hh23.sub fun b hb => hb.2) ((HR21.out.mono fun b hb => c23.block b (by omega)).sub fun b hb => by omega) (Nat.le_refl _))
  clear hh23 hb23 hb22 HB22 bw22 bX22
  go_wp2_with fail
  refine HE23.out.mono ?_
  rintro e w24 ⟨rfl, hb24⟩
  have z24 := hb24.size
  have c24 := c23.trans (hb24.mono (by omega))
  have bw24 := bw23.trans (hb24.mono (by omega))
  have HH24 := hid_of (heldRowS_l rl lab [] ag cg 1 w24 (HLR.out w24 c24) (fun b hb => by have := HLAB.out b hb; omega) (by omega) (by omega) HF.out)
  rw [← HMM.out] at HH24
  clear HE23 hb24 c23
  go_wp2_with fail
  refine HH24.out.mono ?_
  rintro e w25 ⟨rfl, hb25⟩
  have bw25 := bw24.trans (hb25.mono (by have := bw24.size; omega))
  clear HH24 hb25
  go_wp2_with fail
  go_ret
  exact ⟨rfl, bw25⟩
end Go.Proofs.YtmemijccbmnaaaaGreat
