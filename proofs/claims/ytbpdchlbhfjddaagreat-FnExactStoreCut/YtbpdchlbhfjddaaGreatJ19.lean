import Derived.Test.YtbpdchlbhfjddaaGreatJ9
import Derived.Test.YtbpdchlbhfjddaaGreatJ18
import Derived.Test.YtbpdchlbhfjddaaGreatJ7
import Derived.BigRegion
import Derived.Deep.RegionWith
import Derived.Test.YtbpdchlbhfjddaaGreatJ8
import Derived.Test.YtbpdchlbhfjddaaGreatPRep
namespace Go.Proofs.YtbpdchlbhfjddaaGreat
set_option linter.unusedSimpArgs false
set_option linter.unusedVariables false
open Go.RowKit

theorem LCells.below {w w' : World} {lab : Nat → List Nat} {p : List Nat} {cs : List Ce} {a : Option Addr} (h : LCells w lab p cs a) (hl : ∀ c, lab c ≠ [] → c < w.heap.size) (hb : Below w.heap.size w w') : LCells w' lab p cs a := h.keep fun c h1 _ => hb.block c (hl c h1)

set_option maxRecDepth 20000 in
set_option maxHeartbeats 1600000 in
theorem heldCellS_l (cs : List Ce) (lab : Nat → List Nat) (p : List Nat) (a : Option Addr) (c k : Nat) (w : World) (h : LCells w lab p (mkCs cs k) a) (hlab : ∀ c, lab c ≠ [] → c < w.heap.size) (hk : k + nCs cs ≤ 1000000000000) (hlen : cs.length ≤ 1048576) (hsz : ∀ j, j < cs.length → szV (cth cs j).val ≤ 1048576) :
    Calls Tryz.prog 29 #[.slice a cs.length c, .int .i64 k] w fun e w' => e = .returned (.int .i64 ((k + nCs cs : Nat) : Int)) ∧ Below w.heap.size w w' := by
  obtain ⟨b, off, hb⟩ : ∃ b off, 0 < cs.length → a = some ⟨b, off, none⟩ ∧ lab b = 1 :: p ∧ GRow w 6 cs.length b off (LCe lab p (cth (mkCs cs k))) := by
    by_cases h0 : 0 < cs.length
    · obtain ⟨b, off, h1, h2, -, h4⟩ := h (by rw [mkCs_len]; exact h0)
      rw [mkCs_len] at h4
      exact ⟨b, off, fun _ => ⟨h1, h2, h4⟩⟩
    · exact ⟨0, 0, fun h' => absurd h' h0⟩
  clear h
  go_enter Tryz.func29, Tryz.ntmps29
  go_wp2_with fail
  go_loopw [1, 5] (fun kk i wr => ∃ j : Nat, j ≤ cs.length ∧ i = .int .i64 j ∧ kk = .int .i64 ((k + nCs (cs.take j) : Nat) : Int) ∧ Below w.heap.size w wr) (fun _ i _ => cs.length - (intOf i).toNat)
  case atStart => exact ⟨0, Nat.zero_le _, rfl, by simp [nCs], Below.refl _ _⟩
  case round =>
    obtain ⟨j, hj, rfl, rfl, hbel⟩ := hrel
    obtain ⟨w0, rfl⟩ : ∃ y, y = wr := ⟨wr, rfl⟩
    by_cases hlt : j < cs.length
    · obtain ⟨rfl, hlb, hG⟩ := hb (by omega)
      obtain ⟨cc, hcc, e0, hv⟩ := hG.at hlt
      rw [mkCs_at cs k j hlt] at e0 hv
      have hszj := hsz j hlt
      obtain ⟨q, hq⟩ : ∃ q, q = k + nCs (cs.take j) := ⟨_, rfl⟩
      have hnt := nCs_take cs j hlt
      have hnp := nCs_part cs (j + 1)
      simp only [mkCe] at e0 hv
      generalize hx : (cth cs j).val = x at *
      obtain ⟨na, ka', nc, kc', ev, hN, hKj⟩ := hv.inv
      simp only [Value.agg.injEq, Array.mk.injEq, List.cons.injEq, and_true, mk1, mkNs_len, mkL_len] at ev hN hKj
      obtain ⟨e1, e2, e3, e4, e5⟩ := ev
      rw [← hq] at e0 e1 e2 e3 hN hKj ⊢
      have S0 : Sx6 w b (off + j * 6) (.string (mtext q)) (.int .i64 ((q : Int) + 1)) (.int .i64 ((q : Int) + 1 + 1)) (.string (mtext (q + 3))) (.slice na x.names.length nc) (.slice ka' x.kids.length kc') := by
        refine ⟨?_, ?_, ?_, ?_, ?_, ?_⟩
        · have := hcc 0 (by omega); rw [e0] at this; exact this
        · have := hcc 1 (by omega); rw [e1] at this; exact this
        · have := hcc 2 (by omega); rw [e2] at this; exact this
        · have := hcc 3 (by omega); rw [e3] at this; exact this
        · have := hcc 4 (by omega); rw [e4] at this; exact this
        · have := hcc 5 (by omega); rw [e5] at this; exact this
      have hji : (j : Int) < (cs.length : Int) := by omega
      have hbl : b < w.heap.size := hlab b (by rw [hlb]; simp)
      have hnv := nV_eq x
      have hnl : x.names.length ≤ 1048576 := by have := len_szNs x.names; have := szV_eq x; omega
      have hqb : q + 4 + nV x ≤ 1000000000000 := by omega
      have hqi : (q : Int) ≤ 1000000000000 := by omega
      have HQ : Hid (q = k + nCs (cs.take j)) := hq
      have HNT : Hid (nCs (cs.take (j + 1)) = nCs (cs.take j) + (4 + nV x)) := hnt
      have z0 := hbel.size
      have cell : ∀ W, Below w.heap.size w W → Sx6 W b (off + j * 6) (.string (mtext q)) (.int .i64 ((q : Int) + 1)) (.int .i64 ((q : Int) + 1 + 1)) (.string (mtext (q + 3))) (.slice na x.names.length nc) (.slice ka' x.kids.length kc') := fun W hW => S0.keep (hW.block b hbl)
      have HCE := hidM cell
      have HNK := hidM (And.intro hN hKj)
      have hM := markText_any q w0.drew (by omega)
      have hM2 := fun W => markText_any (q + 3) W (by omega)
      rw [show ((q + 3 : Nat) : Int) = (q : Int) + 1 + 1 + 1 by omega] at hM2
      clear hcc hq hnt hv e0 e1 e2 e3 e4 e5 cell hN hKj S0 hG
      generalize mtext q = mt at *
      generalize mtext (q + 3) = mt2 at *
      have HM := hidM hM
      have HM2 := hidM hM2
      clear hM hM2
      obtain ⟨r0, -, -, -, -, -⟩ := HCE.out w0 hbel
      go_wp2_with fail
      go_cut [19] (fun r wx => r = .bool false ∧ Below w.heap.size w wx)
      case first =>
        go_region_held3 (fun w' => w'.cell? ⟨b, off + j * 6, none⟩ = some (.string mt)) (go_keep)
          (first
            | (
              go_at_call 27
              refine HM.out.mono ?_
              rintro e w1 ⟨rfl, hb1⟩
              have hb1' := hbel.trans ((below_undrew hb1).mono z0)
              obtain ⟨c1, -, -, -, -, -⟩ := HCE.out w1 hb1'))
        all_goals
          go_wp2_with fail
          go_meet
          case rel => exact ⟨rfl, hb1'⟩
      case rest =>
      obtain ⟨rfl, hb1⟩ := hcut
      obtain ⟨w1, rfl⟩ : ∃ y, y = wc := ⟨wc, rfl⟩
      clear r0
      have z1 := hb1.size
      obtain ⟨-, r1, r2, r3, -, -⟩ := HCE.out w1 hb1
      go_wp2_with fail
      go_cut [50] (fun r wx => r = .bool false ∧ Below w.heap.size w wx)
      case first =>
        go_region_held3 (fun w' => w'.cell? ⟨b, off + j * 6 + 1 + 2, none⟩ = some (.string mt2)) (go_keep)
          (first
            | (
              go_at_call 27
              refine (HM2.out _).mono ?_
              rintro e w2 ⟨rfl, hb2⟩
              have hb2' := hb1.trans ((below_undrew hb2).mono z1)
              obtain ⟨-, -, -, c1, -, -⟩ := HCE.out w2 hb2'))
        all_goals
          go_wp2_with fail
          go_meet
          case rel => exact ⟨rfl, hb2'⟩
      case rest =>
      obtain ⟨rfl, hb2⟩ := hcut
      obtain ⟨w2, rfl⟩ : ∃ y, y = wc := ⟨wc, rfl⟩
      clear r1 r2 r3
      have z2 := hb2.size
      obtain ⟨-, -, -, -, r4, -⟩ := HCE.out w2 hb2
      have hH := heldStringS_any x.names.length nc (q + 4) na w2 (fun h0 => by
        obtain ⟨nb, no, n1, n2, -, n4⟩ := HNK.out.1 (fun e => by have := mkNs_len x.names.length (q + 1 + 3); rw [e] at this; simp at this; omega)
        refine ⟨nb, no, n1, fun i hi => ?_⟩
        rw [mkNs_len] at n4
        have := n4 i hi
        rw [mkNs_nth _ _ _ hi] at this
        exact (hb2.cell (p := ⟨nb, no + i, none⟩) (hlab nb (by rw [n2]; simp))).trans this) hnl (by omega)
      rw [show ((q + 4 : Nat) : Int) = (q : Int) + 1 + 1 + 1 + 1 by omega] at hH
      have HH := hidM hH
      clear hH
      go_wp2_with fail
      refine HH.out.mono ?_
      rintro e w3 ⟨rfl, hb3⟩
      have b3 := hb2.trans (hb3.mono z2)
      have z3 := b3.size
      obtain ⟨-, -, -, -, -, r5⟩ := HCE.out w3 b3
      have hI := heldValueS_l x lab ((j + 2) :: p) ka' kc' (q + 1 + 3 + x.names.length) w3 (HNK.out.2.below hlab b3) (fun c hc => by have := hlab c hc; omega) (by omega) hszj
      rw [show ((q + 1 + 3 + x.names.length : Nat) : Int) = (q : Int) + 4 + (x.names.length : Int) by omega] at hI
      have HI := hidM hI
      have hpos : ¬ (q : Int) + 4 + (x.names.length : Int) < 0 := by omega
      clear hI r4
      go_wp2_with fail
      refine HI.out.mono ?_
      rintro e w4 ⟨rfl, hb4⟩
      have b4 := b3.trans (hb4.mono z3)
      have hpos2 : ¬ ((q + 1 + 3 + x.names.length + nL x.kids : Nat) : Int) < 0 := by omega
      go_wp2_with fail
      go_roundw
      case measure => simp [intOf]; omega
      case rel =>
        refine ⟨j + 1, by omega, by go_num, ?_, b4⟩
        have h1 := HNT.out
        have h2 := HQ.out
        congr 1
        omega
    · go_wp2_with fail
      go_ret
      have e : j = cs.length := by omega
      subst e
      exact ⟨by rw [List.take_length]; rfl, hbel⟩

set_option maxRecDepth 20000 in
set_option maxHeartbeats 1600000 in
theorem heldRowS_l (rs : List Ro) (lab : Nat → List Nat) (p : List Nat) (a : Option Addr) (c k : Nat) (w : World) (h : LRows w lab p (mkRs rs k) a) (hlab : ∀ c, lab c ≠ [] → c < w.heap.size) (hk : k + nRs rs ≤ 1000000000000) (hlen : rs.length ≤ 1000000000) (hsz : ∀ i, i < rs.length → (rth rs i).cells.length ≤ 1048576 ∧ ∀ j, j < (rth rs i).cells.length → szV (cth (rth rs i).cells j).val ≤ 1048576) :
    Calls Tryz.prog 14 #[.slice a rs.length c, .int .i64 k] w fun e w' => e = .returned (.int .i64 ((k + nRs rs : Nat) : Int)) ∧ Below w.heap.size w w' := by
  obtain ⟨b, off, hb⟩ : ∃ b off, 0 < rs.length → a = some ⟨b, off, none⟩ ∧ lab b = 1 :: p ∧ GRow w 3 rs.length b off (LRo lab p (rth (mkRs rs k))) := by
    by_cases h0 : 0 < rs.length
    · obtain ⟨b, off, h1, h2, -, h4⟩ := h (by rw [mkRs_len]; exact h0)
      rw [mkRs_len] at h4
      exact ⟨b, off, fun _ => ⟨h1, h2, h4⟩⟩
    · exact ⟨0, 0, fun h' => absurd h' h0⟩
  clear h
  go_enter Tryz.func14, Tryz.ntmps14
  go_wp2_with fail
  go_loopw [1, 5] (fun kk i wr => ∃ j : Nat, j ≤ rs.length ∧ i = .int .i64 j ∧ kk = .int .i64 ((k + nRs (rs.take j) : Nat) : Int) ∧ Below w.heap.size w wr) (fun _ i _ => rs.length - (intOf i).toNat)
  case atStart => exact ⟨0, Nat.zero_le _, rfl, by simp [nRs], Below.refl _ _⟩
  case round =>
    obtain ⟨j, hj, rfl, rfl, hbel⟩ := hrel
    obtain ⟨w0, rfl⟩ : ∃ y, y = wr := ⟨wr, rfl⟩
    by_cases hlt : j < rs.length
    · obtain ⟨rfl, hlb, hG⟩ := hb (by omega)
      obtain ⟨cc, hcc, e0, e1, ca, ccp, e2, hC⟩ := hG.at hlt
      rw [mkRs_at rs k j hlt] at e0 e1 e2 hC
      obtain ⟨hszl, hszj⟩ := hsz j hlt
      obtain ⟨q, hq⟩ : ∃ q, q = k + nRs (rs.take j) := ⟨_, rfl⟩
      have hnt := nRs_take rs j hlt
      have hnp := nRs_part rs (j + 1)
      simp only [mkRo, mkCs_len] at e0 e1 e2 hC
      generalize hx : (rth rs j).cells = cl at *
      rw [← hq] at e0 e1 hC ⊢
      have S0 : Sx3 w b (off + j * 3) (.string (mtext q)) (.int .i64 ((q : Int) + 1)) (.slice ca cl.length ccp) := by
        refine ⟨?_, ?_, ?_⟩
        · have := hcc 0 (by omega); rw [e0] at this; exact this
        · have := hcc 1 (by omega); rw [e1] at this; exact this
        · have := hcc 2 (by omega); rw [e2] at this; exact this
      have hji : (j : Int) < (rs.length : Int) := by omega
      have hbl : b < w.heap.size := hlab b (by rw [hlb]; simp)
      have hqb : q + 2 + nCs cl ≤ 1000000000000 := by omega
      have hqi : (q : Int) ≤ 1000000000000 := by omega
      have HQ : Hid (q = k + nRs (rs.take j)) := hq
      have HNT : Hid (nRs (rs.take (j + 1)) = nRs (rs.take j) + (2 + nCs cl)) := hnt
      have z0 := hbel.size
      have cell : ∀ W, Below w.heap.size w W → Sx3 W b (off + j * 3) (.string (mtext q)) (.int .i64 ((q : Int) + 1)) (.slice ca cl.length ccp) := fun W hW => S0.keep (hW.block b hbl)
      have HCE := hidM cell
      have HC := hidM hC
      have hM := markText_any q w0.drew (by omega)
      clear hcc hq hnt e0 e1 e2 cell hC S0 hG
      generalize mtext q = mt at *
      have HM := hidM hM
      clear hM
      obtain ⟨r0, -, -⟩ := HCE.out w0 hbel
      go_wp2_with fail
      go_cut [19] (fun r wx => r = .bool false ∧ Below w.heap.size w wx)
      case first =>
        go_region_held3 (fun w' => w'.cell? ⟨b, off + j * 3, none⟩ = some (.string mt)) (go_keep)
          (first
            | (
              go_at_call 27
              refine HM.out.mono ?_
              rintro e w1 ⟨rfl, hb1⟩
              have hb1' := hbel.trans ((below_undrew hb1).mono z0)
              obtain ⟨c1, -, -⟩ := HCE.out w1 hb1'))
        all_goals
          go_wp2_with fail
          go_meet
          case rel => exact ⟨rfl, hb1'⟩
      case rest =>
      obtain ⟨rfl, hb1⟩ := hcut
      obtain ⟨w1, rfl⟩ : ∃ y, y = wc := ⟨wc, rfl⟩
      clear r0
      have z1 := hb1.size
      obtain ⟨-, r1, r2⟩ := HCE.out w1 hb1
      have hI := heldCellS_l cl lab ((j + 2) :: p) ca ccp (q + 2) w1 (HC.out.below hlab hb1) (fun c hc => by have := hlab c hc; omega) (by omega) hszl hszj
      rw [show ((q + 2 : Nat) : Int) = (q : Int) + 1 + 1 by omega] at hI
      have HI := hidM hI
      clear hI
      go_wp2_with fail
      refine HI.out.mono ?_
      rintro e w4 ⟨rfl, hb4⟩
      have b4 := hb1.trans (hb4.mono z1)
      have hpos2 : ¬ ((q + 2 + nCs cl : Nat) : Int) < 0 := by omega
      go_wp2_with fail
      go_roundw
      case measure => simp [intOf]; omega
      case rel =>
        refine ⟨j + 1, by omega, by go_num, ?_, b4⟩
        have h1 := HNT.out
        have h2 := HQ.out
        congr 1
        omega
    · go_wp2_with fail
      go_ret
      have e : j = rs.length := by omega
      subst e
      exact ⟨by rw [List.take_length]; rfl, hbel⟩
end Go.Proofs.YtbpdchlbhfjddaaGreat

namespace Go.Proofs.YtbpdchlbhfjddaaGreat
set_option linter.unusedSimpArgs false
set_option linter.unusedVariables false
open Go.RowKit

set_option maxHeartbeats 800000 in
theorem eqCell_any (c : Ce) (w : World) (B : Nat) (v v' : Value) (hR : CeRep w (· < B) c v) (hR' : CeRep w (· < B) c v') (hB : B ≤ w.heap.size) :
    Calls Tryz.prog 74 #[v, v'] w fun e w' => e = .returned (.bool true) ∧ Below w.heap.size w w' := by
  obtain ⟨c1, c2, c3, c4, c5, rfl, hV, -⟩ := hR
  obtain ⟨d1, d2, d3, d4, d5, rfl, hV', -⟩ := hR'
  go_enter Tryz.func74, Tryz.ntmps74
  go_wp2_with (
      go_at_call 95
      refine (eqValue_any c.val _ B _ _ (hV.under ((below_box2 w _ _).mono hB)) (hV'.under ((below_box2 w _ _).mono hB)) (by simp; omega)).mono ?_
      rintro e w' ⟨rfl, hb⟩)
  go_ret
  exact ⟨rfl, (below_box2 w _ _).trans (hb.mono (by simp; omega))⟩

set_option maxHeartbeats 1600000 in
theorem eqCellS_any (xs : List Ce) (w : World) (B : Nat) (a a' : Option Addr) (c c' : Nat) (hK : CeReps w (· < B) xs a) (hK' : CeReps w (· < B) xs a') (hB : B ≤ w.heap.size) :
    Calls Tryz.prog 46 #[.slice a xs.length c, .slice a' xs.length c'] w fun e w' => e = .returned (.bool true) ∧ Below w.heap.size w w' := by
  have h3 := hK.1
  obtain ⟨-, C, hA, hr⟩ := hK
  obtain ⟨-, C', hA', hr'⟩ := hK'
  go_enter Tryz.func46, Tryz.ntmps46
  go_wp2_with fail
  go_loopw [5] (fun i wr => ∃ k : Nat, k ≤ xs.length ∧ i = .int .i64 k ∧ Below w.heap.size w wr) (fun i _ => xs.length - (intOf i).toNat)
  case atStart => exact ⟨0, Nat.zero_le _, rfl, Below.refl _ _⟩
  case round =>
    obtain ⟨k, hk, rfl, hbel⟩ := hrel
    by_cases hlt : k < xs.length
    · obtain ⟨b, off, rfl, hbB, hc⟩ := hA (by omega)
      obtain ⟨b', off', rfl, hbB', hd⟩ := hA' (by omega)
      clear hA hA'
      have hck : ∀ j, j < 6 → wr.cell? ⟨b, off + k * 6 + j, none⟩ = some (C k j) := fun j hj => (hbel.cell (p := ⟨b, off + k * 6 + j, none⟩) (by show b < _; omega)).trans (hc k hlt j hj)
      have hc0 : wr.cell? ⟨b, off + k * 6, none⟩ = some (C k 0) := hck 0 (by omega)
      have hc1 : wr.cell? ⟨b, off + k * 6 + 1, none⟩ = some (C k 1) := hck 1 (by omega)
      have hc2 : wr.cell? ⟨b, off + k * 6 + 2, none⟩ = some (C k 2) := hck 2 (by omega)
      have hc3 : wr.cell? ⟨b, off + k * 6 + 3, none⟩ = some (C k 3) := hck 3 (by omega)
      have hc4 : wr.cell? ⟨b, off + k * 6 + 4, none⟩ = some (C k 4) := hck 4 (by omega)
      have hc5 : wr.cell? ⟨b, off + k * 6 + 5, none⟩ = some (C k 5) := hck 5 (by omega)
      clear hck hc
      have hdk : ∀ j, j < 6 → wr.cell? ⟨b', off' + k * 6 + j, none⟩ = some (C' k j) := fun j hj => (hbel.cell (p := ⟨b', off' + k * 6 + j, none⟩) (by show b' < _; omega)).trans (hd k hlt j hj)
      have hd0 : wr.cell? ⟨b', off' + k * 6, none⟩ = some (C' k 0) := hdk 0 (by omega)
      have hd1 : wr.cell? ⟨b', off' + k * 6 + 1, none⟩ = some (C' k 1) := hdk 1 (by omega)
      have hd2 : wr.cell? ⟨b', off' + k * 6 + 2, none⟩ = some (C' k 2) := hdk 2 (by omega)
      have hd3 : wr.cell? ⟨b', off' + k * 6 + 3, none⟩ = some (C' k 3) := hdk 3 (by omega)
      have hd4 : wr.cell? ⟨b', off' + k * 6 + 4, none⟩ = some (C' k 4) := hdk 4 (by omega)
      have hd5 : wr.cell? ⟨b', off' + k * 6 + 5, none⟩ = some (C' k 5) := hdk 5 (by omega)
      clear hdk hd
      go_wp2_with fail
      go_region_with (go_at_call 74; refine (eqCell_any (cth xs k) _ B _ _ ((hr k hlt).under ((hbel.drew).mono hB)) ((hr' k hlt).under ((hbel.drew).mono hB)) (by have := hbel.size; simp; omega)).mono ?_; rintro e w1 ⟨rfl, hby⟩)
      all_goals
        go_wp2_with fail
        go_roundw
        case rel => exact ⟨k + 1, by omega, by go_num, hbel.drew.trans (hby.mono (by have := hbel.size; simpa using this))⟩
        case measure => simp [intOf]; omega
    · go_wp2_with fail
      go_ret
      exact ⟨rfl, hbel⟩

set_option maxHeartbeats 800000 in
theorem eqRow_any (t : Ro) (w : World) (B : Nat) (v v' : Value) (hR : RoRep w (· < B) t v) (hR' : RoRep w (· < B) t v') (hB : B ≤ w.heap.size) :
    Calls Tryz.prog 24 #[v, v'] w fun e w' => e = .returned (.bool true) ∧ Below w.heap.size w w' := by
  obtain ⟨na, nc, rfl, hs, -⟩ := hR
  obtain ⟨na', nc', rfl, hs', -⟩ := hR'
  obtain ⟨type, id, cells⟩ := t
  simp only at hs hs'
  go_enter Tryz.func24, Tryz.ntmps24
  go_wp2_with (
      go_at_call 46
      refine (eqCellS_any cells _ B na na' nc nc' (hs.under ((below_box2 w _ _).mono hB)) (hs'.under ((below_box2 w _ _).mono hB)) (by simp; omega)).mono ?_
      rintro e w' ⟨rfl, hb⟩)
  go_ret
  exact ⟨rfl, (below_box2 w _ _).trans (hb.mono (by simp; omega))⟩

set_option maxHeartbeats 1600000 in
theorem eqRowS_any (xs : List Ro) (w : World) (B : Nat) (a a' : Option Addr) (c c' : Nat) (hK : RoReps w (· < B) xs a) (hK' : RoReps w (· < B) xs a') (hB : B ≤ w.heap.size) :
    Calls Tryz.prog 10 #[.slice a xs.length c, .slice a' xs.length c'] w fun e w' => e = .returned (.bool true) ∧ Below w.heap.size w w' := by
  have h3 := hK.1
  obtain ⟨-, C, hA, hr⟩ := hK
  obtain ⟨-, C', hA', hr'⟩ := hK'
  go_enter Tryz.func10, Tryz.ntmps10
  go_wp2_with fail
  go_loopw [5] (fun i wr => ∃ k : Nat, k ≤ xs.length ∧ i = .int .i64 k ∧ Below w.heap.size w wr) (fun i _ => xs.length - (intOf i).toNat)
  case atStart => exact ⟨0, Nat.zero_le _, rfl, Below.refl _ _⟩
  case round =>
    obtain ⟨k, hk, rfl, hbel⟩ := hrel
    by_cases hlt : k < xs.length
    · obtain ⟨b, off, rfl, hbB, hc⟩ := hA (by omega)
      obtain ⟨b', off', rfl, hbB', hd⟩ := hA' (by omega)
      clear hA hA'
      have hck : ∀ j, j < 3 → wr.cell? ⟨b, off + k * 3 + j, none⟩ = some (C k j) := fun j hj => (hbel.cell (p := ⟨b, off + k * 3 + j, none⟩) (by show b < _; omega)).trans (hc k hlt j hj)
      have hc0 : wr.cell? ⟨b, off + k * 3, none⟩ = some (C k 0) := hck 0 (by omega)
      have hc1 : wr.cell? ⟨b, off + k * 3 + 1, none⟩ = some (C k 1) := hck 1 (by omega)
      have hc2 : wr.cell? ⟨b, off + k * 3 + 2, none⟩ = some (C k 2) := hck 2 (by omega)
      clear hck hc
      have hdk : ∀ j, j < 3 → wr.cell? ⟨b', off' + k * 3 + j, none⟩ = some (C' k j) := fun j hj => (hbel.cell (p := ⟨b', off' + k * 3 + j, none⟩) (by show b' < _; omega)).trans (hd k hlt j hj)
      have hd0 : wr.cell? ⟨b', off' + k * 3, none⟩ = some (C' k 0) := hdk 0 (by omega)
      have hd1 : wr.cell? ⟨b', off' + k * 3 + 1, none⟩ = some (C' k 1) := hdk 1 (by omega)
      have hd2 : wr.cell? ⟨b', off' + k * 3 + 2, none⟩ = some (C' k 2) := hdk 2 (by omega)
      clear hdk hd
      go_wp2_with fail
      go_region_with (go_at_call 24; refine (eqRow_any (rth xs k) _ B _ _ ((hr k hlt).under ((hbel.drew).mono hB)) ((hr' k hlt).under ((hbel.drew).mono hB)) (by have := hbel.size; simp; omega)).mono ?_; rintro e w1 ⟨rfl, hby⟩)
      all_goals
        go_wp2_with fail
        go_roundw
        case rel => exact ⟨k + 1, by omega, by go_num, hbel.drew.trans (hby.mono (by have := hbel.size; simpa using this))⟩
        case measure => simp [intOf]; omega
    · go_wp2_with fail
      go_ret
      exact ⟨rfl, hbel⟩
end Go.Proofs.YtbpdchlbhfjddaaGreat

namespace Go.Proofs.YtbpdchlbhfjddaaGreat
set_option linter.unusedSimpArgs false
set_option linter.unusedVariables false
open Go.RowKit

theorem Marked.set_flags {lo hi b : Nat} (h1 : lo ≤ b) (h2 : b < hi) : ∀ (ps : List (Nat × Bool)) {w W : World}, Marked lo hi w W → (∀ p ∈ ps, FlagAt W ⟨b, p.1, none⟩) → Marked lo hi w (ps.foldl (fun W p => W.setCell ⟨b, p.1, none⟩ (.bool p.2)) W)
  | [], w, W, m, _ => m
  | p :: ps, w, W, m, h => by
    obtain ⟨⟨v, hv⟩, hf⟩ := h p (List.mem_cons_self ..)
    have m1 := Marked.set_flag (lo := lo) (hi := hi) hv h1 h2 p.2
    exact Marked.set_flags h1 h2 ps (m.trans m1) (fun q hq => (h q (List.mem_cons_of_mem _ hq)).keep m1)

theorem markText_int (t : Int) (w : World) (h0 : 0 ≤ t) (h1 : t ≤ 1000000000000000) :
    Calls Tryz.prog 27 #[.int .i64 t] w fun e w' => e = .returned (.string (mtext t.toNat)) ∧ Below w.heap.size w w' := by
  have h := markText_any t.toNat w (by omega)
  rw [show ((t.toNat : Nat) : Int) = t by omega] at h
  exact h
theorem markStringS_int (n c : Nat) (t : Int) (lo hi : Nat) (a : Option Addr) (w : World) (hw : WStrs w lo hi n a) (hn : n ≤ 1048576) (h0 : 0 ≤ t) (h1 : t ≤ 1000000000000) :
    Calls Tryz.prog 49 #[.slice a n c, .int .i64 t] w fun e w' => e = .returned (.int .i64 (t + n)) ∧ Marked lo hi w w' := by
  have h := markStringS_any n c t.toNat lo hi a w hw hn (by omega)
  rw [show ((t.toNat : Nat) : Int) = t by omega, show (((t.toNat + n : Nat)) : Int) = t + n by omega] at h
  exact h.mono fun e w' ⟨x, y, _⟩ => ⟨x, y⟩

/-- A list of fields that may be written, within a range of blocks. -/
def WFs (w : World) (lo hi : Nat) (fs : List F) (a : Option Addr) : Prop := 0 < fs.length → ∃ b off, a = some ⟨b, off, none⟩ ∧ lo ≤ b ∧ b < hi ∧ ∀ i, i < fs.length →
  TextAt w ⟨b, off + i * 8, none⟩ ∧ TextAt w ⟨b, off + i * 8 + 1, none⟩ ∧ FlagAt w ⟨b, off + i * 8 + 2, none⟩ ∧ FlagAt w ⟨b, off + i * 8 + 3, none⟩ ∧ FlagAt w ⟨b, off + i * 8 + 4, none⟩ ∧ FlagAt w ⟨b, off + i * 8 + 5, none⟩ ∧ FlagAt w ⟨b, off + i * 8 + 6, none⟩ ∧
  ∃ na nc, w.cell? ⟨b, off + i * 8 + 7, none⟩ = some (.slice na (fth fs i).needs.length nc) ∧ WStrs w lo hi (fth fs i).needs.length na
theorem WFs.keep {lo hi lo' hi' : Nat} {fs : List F} {w w' : World} {a : Option Addr} (h : WFs w lo hi fs a) (m : Marked lo' hi' w w') : WFs w' lo hi fs a := fun hn => by
  obtain ⟨b, off, e, h1, h2, hc⟩ := h hn
  refine ⟨b, off, e, h1, h2, fun i hi => ?_⟩
  obtain ⟨x0, x1, x2, x3, x4, x5, x6, na, nc, x7, x8⟩ := hc i hi
  exact ⟨x0.keep m, x1.keep m, x2.keep m, x3.keep m, x4.keep m, x5.keep m, x6.keep m, na, nc, m.list _ _ _ _ x7, x8.keep m⟩

/-- How many marks fields take. -/
def mFs (fs : List F) : Nat → Nat
  | 0 => 0
  | n + 1 => mFs fs n + 7 + (fth fs n).needs.length

set_option maxRecDepth 20000 in
set_option maxHeartbeats 3200000 in
theorem markFieldS_any (fs : List F) (c k lo hi : Nat) (a : Option Addr) (w : World) (hw : WFs w lo hi fs a) (hl : fs.length ≤ 1048576) (hn : ∀ i, (fth fs i).needs.length ≤ 1048576) (hk : ∀ i, i ≤ fs.length → k + mFs fs i ≤ 1000000000000) :
    Calls Tryz.prog 48 #[.slice a fs.length c, .int .i64 k] w fun e w' => e = .returned (.int .i64 ((k + mFs fs fs.length : Nat) : Int)) ∧ Marked lo hi w w' := by
  go_enter Tryz.func48, Tryz.ntmps48
  go_wp2_with fail
  go_loopw [1, 5] (fun kk i wr => ∃ j : Nat, j ≤ fs.length ∧ kk = .int .i64 ((k + mFs fs j : Nat) : Int) ∧ i = .int .i64 j ∧ Marked lo hi w wr) (fun _ i _ => fs.length - (intOf i).toNat)
  case atStart => exact ⟨0, Nat.zero_le _, rfl, rfl, Marked.refl _ _ _⟩
  case round =>
    obtain ⟨j, hj, rfl, rfl, hm⟩ := hrel
    obtain ⟨w0, rfl⟩ : ∃ x, x = wr := ⟨wr, rfl⟩
    by_cases hlt : j < fs.length
    · obtain ⟨b, off, rfl, h1, h2, hcc⟩ := (hw.keep hm) (by omega)
      obtain ⟨x0, x1, x2, x3, x4, x5, x6, na, nc, x7, x8⟩ := hcc j hlt
      clear hcc
      have hji : (j : Int) < (fs.length : Int) := by omega
      have hkj := hk (j + 1) (by omega)
      have HK : Hid (mFs fs (j + 1) = mFs fs j + 7 + (fth fs j).needs.length) := rfl
      rw [HK.out] at hkj
      generalize mFs fs j = mj at hkj HK
      obtain ⟨K, hKe⟩ : ∃ K : Int, K = ((k + mj : Nat) : Int) := ⟨_, rfl⟩
      have hK0 : 0 ≤ K := by omega
      have hK1 : K + 7 + (fth fs j).needs.length ≤ 1000000000000 := by omega
      have HKE : Hid (K = ((k + mj : Nat) : Int)) := hKe
      rw [← hKe]
      clear hKe
      have hB1 : Hid (lo ≤ b ∧ b < hi) := ⟨h1, h2⟩
      have HX : Hid (TextAt w0 ⟨b, off + j * 8, none⟩ ∧ TextAt w0 ⟨b, off + j * 8 + 1, none⟩ ∧ FlagAt w0 ⟨b, off + j * 8 + 2, none⟩ ∧ FlagAt w0 ⟨b, off + j * 8 + 3, none⟩ ∧ FlagAt w0 ⟨b, off + j * 8 + 4, none⟩ ∧ FlagAt w0 ⟨b, off + j * 8 + 5, none⟩ ∧ FlagAt w0 ⟨b, off + j * 8 + 6, none⟩ ∧ w0.cell? ⟨b, off + j * 8 + 7, none⟩ = some (.slice na (fth fs j).needs.length nc) ∧ WStrs w0 lo hi (fth fs j).needs.length na) := ⟨x0, x1, x2, x3, x4, x5, x6, x7, x8⟩
      clear x0 x1 x2 x3 x4 x5 x6 x7 x8 h1 h2
      go_wp2_with fail
      refine (markText_int K w0 hK0 (by omega)).mono ?_
      rintro e w1 ⟨rfl, hb1⟩
      have m1 := Marked.of_below lo hi hb1
      obtain ⟨⟨s0, t0⟩, f0⟩ := HX.out.1.keep m1
      have m1' := m1.trans (Marked.set_text t0 hB1.out.1 hB1.out.2 (mtext K.toNat))
      generalize mtext K.toNat = mt0 at m1' ⊢
      go_wp2_with fail
      obtain ⟨W1, hW1⟩ : ∃ W, W = w1.setCell ⟨b, off + j * 8, none⟩ (.string mt0) := ⟨_, rfl⟩
      rw [← hW1] at m1' ⊢
      clear hW1 t0 f0 m1 hb1
      refine (markText_int (K + 1) W1 (by omega) (by omega)).mono ?_
      rintro e w2 ⟨rfl, hb2⟩
      have m2 := m1'.trans (Marked.of_below lo hi hb2)
      obtain ⟨⟨s1, t1⟩, f1⟩ := HX.out.2.1.keep m2
      generalize mtext (K + 1).toNat = mt1
      have m3 := m2.trans (Marked.set_text t1 hB1.out.1 hB1.out.2 mt1)
      obtain ⟨W2, hW2⟩ : ∃ W, W = w2.setCell ⟨b, off + j * 8 + 1, none⟩ (.string mt1) := ⟨_, rfl⟩
      rw [← hW2] at m3
      obtain ⟨⟨v2, q2⟩, g2⟩ := HX.out.2.2.1.keep m3
      obtain ⟨⟨v3, q3⟩, g3⟩ := HX.out.2.2.2.1.keep m3
      obtain ⟨⟨v4, q4⟩, g4⟩ := HX.out.2.2.2.2.1.keep m3
      obtain ⟨⟨v5, q5⟩, g5⟩ := HX.out.2.2.2.2.2.1.keep m3
      obtain ⟨⟨v6, q6⟩, g6⟩ := HX.out.2.2.2.2.2.2.1.keep m3
      have q7 := m3.list _ _ _ _ HX.out.2.2.2.2.2.2.2.1
      rw [hW2] at q2 q3 q4 q5 q6 q7 g2 g3 g4 g5 g6
      have m4 := Marked.set_flags hB1.out.1 hB1.out.2 [(off + j * 8 + 2, (K + 1 + 1) % 3 == 0), (off + j * 8 + 3, (K + 1 + 1 + 1) % 3 == 0), (off + j * 8 + 4, (K + 1 + 1 + 1 + 1) % 3 == 0), (off + j * 8 + 5, (K + 1 + 1 + 1 + 1 + 1) % 3 == 0), (off + j * 8 + 6, (K + 1 + 1 + 1 + 1 + 1 + 1) % 3 == 0)] m3 (fun p hp => by
        simp only [List.mem_cons, List.not_mem_nil, or_false] at hp
        rcases hp with rfl | rfl | rfl | rfl | rfl
        · exact HX.out.2.2.1.keep m3
        · exact HX.out.2.2.2.1.keep m3
        · exact HX.out.2.2.2.2.1.keep m3
        · exact HX.out.2.2.2.2.2.1.keep m3
        · exact HX.out.2.2.2.2.2.2.1.keep m3)
      simp only [List.foldl_cons, List.foldl_nil, hW2] at m4
      have H8 : Hid (WStrs _ lo hi (fth fs j).needs.length na) := HX.out.2.2.2.2.2.2.2.2.keep m4
      clear m1' hb2 m2
      go_wp2_with fail
      refine (markStringS_int (fth fs j).needs.length nc (K + 1 + 1 + 1 + 1 + 1 + 1 + 1) lo hi na _ H8.out (hn j) (by omega) (by omega)).mono ?_
      rintro e w5 ⟨rfl, m5⟩
      have hfin : Hid (K + 1 + 1 + 1 + 1 + 1 + 1 + 1 + (fth fs j).needs.length = ((k + mFs fs (j + 1) : Nat) : Int)) := by show _ = _; rw [HK.out, HKE.out]; omega
      have m6 := hm.trans (m4.trans m5)
      clear q2 q3 q4 q5 q6 q7 g2 g3 g4 g5 g6 t1 f1 m3 m4 m5
      go_wp2_with fail
      go_roundw
      case rel => exact ⟨j + 1, by omega, by rw [← hfin.out], by go_num, m6⟩
      case measure => simp [intOf]; omega
    · go_wp2_with fail
      go_ret
      have e : j = fs.length := by omega
      exact ⟨by rw [e]; rfl, hm⟩
end Go.Proofs.YtbpdchlbhfjddaaGreat
