/-
  The program's questions of a type: what is known, the root, what is there twice.
-/
import Derived.Test.YtibpieomldhomaaGreatDoorIType
import Derived.Deep.RegionHeld3
namespace Go.Proofs.YtibpieomldhomaaGreatDoor
set_option linter.unusedSimpArgs false
set_option linter.unusedVariables false
open Go.RowKit

/-- A type of a list, in whatever later world. -/
theorem TsRep.at {w : World} {B : Nat} {ts : List T} {ta : Option Addr} (h : TsRep w (· < B) ts ta) (hB : B ≤ w.heap.size) (k : Nat) (hk : k < ts.length) : ∃ (b off : Nat) (fa : Option Addr) (fc : Nat), ta = some ⟨b, off, none⟩ ∧
    TRep w (· < B) (tth ts k) (.agg #[.string (tth ts k).name, .string (tth ts k).key, .slice fa (tth ts k).fields.length fc]) ∧
    ∀ W, Below w.heap.size w W → W.cell? ⟨b, off + k * 3, none⟩ = some (.string (tth ts k).name) ∧ W.cell? ⟨b, off + k * 3 + 1, none⟩ = some (.string (tth ts k).key) ∧ W.cell? ⟨b, off + k * 3 + 2, none⟩ = some (.slice fa (tth ts k).fields.length fc) := by
  obtain ⟨-, C, hA, hr⟩ := h
  obtain ⟨b, off, rfl, hbB, hc⟩ := hA (by omega)
  have hkt := hr k hk
  obtain ⟨fa, fc, e0, e1, e2, -⟩ := (hr k hk).parts
  rw [e0, e1, e2] at hkt
  refine ⟨b, off, fa, fc, rfl, hkt, fun W hb => ?_⟩
  have hck : ∀ j, j < 3 → W.cell? ⟨b, off + k * 3 + j, none⟩ = some (C k j) := fun j hj => (hb.cell (p := ⟨b, off + k * 3 + j, none⟩) (by show b < _; omega)).trans (hc k hk j hj)
  have c0 : W.cell? ⟨b, off + k * 3, none⟩ = some (C k 0) := hck 0 (by omega)
  rw [c0, hck 1 (by omega), hck 2 (by omega), e0, e1, e2]
  exact ⟨rfl, rfl, rfl⟩

/-- What a field is of is there. -/
def knownF (p : Pt) (f : F) : Bool := decide (0 ≤ typeIx p f.of) || scalarB f.of
def knownTo (p : Pt) (fs : List F) (n : Nat) : Bool := (List.range n).all fun i => knownF p (fth fs i)
theorem knownTo_succ (p : Pt) (fs : List F) (n : Nat) : knownTo p fs (n + 1) = (knownTo p fs n && knownF p (fth fs n)) := by simp [knownTo, List.range_succ]

set_option maxHeartbeats 1600000 in
theorem isTypeKnown_any (p : Pt) (t : T) (w : World) (B : Nat) (v u : Value) (hP : PRep w (· < B) p v) (hR : TRep w (· < B) t u) (hB : B ≤ w.heap.size) :
    Calls Tryz.prog 51 #[v, u] w fun e w' => e = .returned (.bool (knownTo p t.fields t.fields.length)) ∧ Below w.heap.size w w' := by
  have hP' := hP
  obtain ⟨pname, types⟩ := p
  obtain ⟨ta, tc, rfl, -, -, -⟩ := hP
  obtain ⟨name, key, fields⟩ := t
  obtain ⟨fa, fc, rfl, hK, hnc, hn, ho⟩ := hR
  simp only at hK hnc hn ho hP' ⊢
  have h3 := hK.1
  go_enter Tryz.func51, Tryz.ntmps51
  go_wp2_with fail
  go_loopw [12] (fun i wr => ∃ k : Nat, k ≤ fields.length ∧ i = .int .i64 k ∧ Below (w.heap.size + 1) (w.alloc (.cells #[.string pname, .slice ta types.length tc] 25)) wr ∧ w.heap.size < wr.heap.size ∧ knownTo ⟨pname, types⟩ fields k = true) (fun i _ => fields.length - (intOf i).toNat)
  case atStart => exact ⟨0, Nat.zero_le _, rfl, (Below.refl _ _).alloc (by simp) _, by simp; omega, rfl⟩
  case round =>
    obtain ⟨k, hk, rfl, hbel, hz, hp⟩ := hrel
    have HP : Hid (knownTo ⟨pname, types⟩ fields k = true) := hp
    clear hp
    have hbw : Below w.heap.size w wr := (below_box w _).trans (hbel.mono (by omega))
    have hcell : ∀ W, Below (w.heap.size + 1) (w.alloc (.cells #[.string pname, .slice ta types.length tc] 25)) W → W.cell? ⟨w.heap.size, 0, none⟩ = some (.string pname) ∧ W.cell? ⟨w.heap.size, 1, none⟩ = some (.slice ta types.length tc) := fun W h =>
      ⟨(h.cell (p := ⟨w.heap.size, 0, none⟩) (by show w.heap.size < _; omega)).trans (box_new _ _ 0 (by simp)), (h.cell (p := ⟨w.heap.size, 1, none⟩) (by show w.heap.size < _; omega)).trans (box_new _ _ 1 (by simp))⟩
    by_cases hlt : k < fields.length
    · obtain ⟨b, off, na, nc, rfl, hfr, hcs⟩ := hK.at hB k hlt
      obtain ⟨c0, c1, c2, c3, c4, c5, c6, c7⟩ := hcs wr hbw
      have q := fun o => hcell (wr.alloc o) (hbel.alloc (by omega) o)
      have q0 := fun o => (q o).1
      have q1 := fun o => (q o).2
      have hft := fun o => findType_any ⟨pname, types⟩ (wr.alloc o) B _ (fth fields k).of (hP'.under ((hbw.alloc (by omega) o).mono hB)) (by simp; omega)
      have hL := fun w => isLeaf_any (fth fields k).of w
      have hB5 := fun w1 o (hb1 : Below (wr.alloc o).heap.size (wr.alloc o) w1) => (hb1.cell (p := ⟨wr.heap.size, 1, none⟩) (by show wr.heap.size < _; simp))
      clear hcs q
      have HK : Hid (knownF ⟨pname, types⟩ (fth fields k) = (decide (0 ≤ typeIx ⟨pname, types⟩ (fth fields k).of) || scalarB (fth fields k).of)) := rfl
      cases x1 : decide (0 ≤ typeIx ⟨pname, types⟩ (fth fields k).of)
      · rw [x1] at hft
        cases x2 : scalarB (fth fields k).of
        · rw [x2] at hL
          have hres : Hid (knownTo ⟨pname, types⟩ fields fields.length = false) := all_false (k := k) hlt (by rw [HK.out, x1, x2]; rfl)
          go_wp2_with (first
            | (
              go_at_call 16
              refine (hft _).mono ?_
              rintro e w1 ⟨nm, ky, fa2, fl2, fc2, rfl, hb1, -⟩
              have z1 := hb1.size
              simp at z1
              have g1 : ∀ o, (w1.alloc o).cell? ⟨wr.heap.size, 1, none⟩ = some (.string (fth fields k).of) := fun o => ((below_box w1 o).cell (p := ⟨wr.heap.size, 1, none⟩) (by show wr.heap.size < _; omega)).trans ((hB5 w1 _ hb1).trans (box_new _ _ 1 (by simp))))
            | (go_at_call 71; refine (hL _).mono ?_; rintro e w' ⟨rfl, rfl⟩))
          go_ret
          exact ⟨ret_bool hres.out.symm, ((hbw.alloc (by omega) _).trans (hb1.mono (by simp; omega))).alloc (by omega) _⟩
        · rw [x2] at hL
          go_wp2_with (first
            | (
              go_at_call 16
              refine (hft _).mono ?_
              rintro e w1 ⟨nm, ky, fa2, fl2, fc2, rfl, hb1, -⟩
              have z1 := hb1.size
              simp at z1
              have g1 : ∀ o, (w1.alloc o).cell? ⟨wr.heap.size, 1, none⟩ = some (.string (fth fields k).of) := fun o => ((below_box w1 o).cell (p := ⟨wr.heap.size, 1, none⟩) (by show wr.heap.size < _; omega)).trans ((hB5 w1 _ hb1).trans (box_new _ _ 1 (by simp))))
            | (go_at_call 71; refine (hL _).mono ?_; rintro e w' ⟨rfl, rfl⟩))
          go_roundw
          case rel => exact ⟨k + 1, by omega, by go_num, ((hbel.alloc (by omega) _).trans (hb1.mono (by simp; omega))).alloc (by omega) _, by simp; omega, by rw [knownTo_succ, HP.out, HK.out, x1, x2]; rfl⟩
          case measure => simp [intOf]; omega
      · rw [x1] at hft
        go_wp2_with (go_at_call 16; refine (hft _).mono ?_; rintro e w1 ⟨nm, ky, fa2, fl2, fc2, rfl, hb1, -⟩)
        have z1 := hb1.size
        simp at z1
        go_roundw
        case rel => exact ⟨k + 1, by omega, by go_num, ((hbel.alloc (by omega) _).trans (hb1.mono (by simp; omega))).alloc (by omega) _, by simp; omega, by rw [knownTo_succ, HP.out, HK.out, x1]; rfl⟩
        case measure => simp [intOf]; omega
    · go_wp2_with fail
      go_ret
      have e : k = fields.length := by omega
      exact ⟨ret_bool (by rw [← e, HP.out]), hbw⟩

/-- The first type is the root, without a key. -/
def hasRootB (p : Pt) : Bool := decide (0 < p.types.length) && isT (tth p.types 0).name [113, 117, 101, 114, 121] && (tth p.types 0).key.toList.isEmpty

set_option maxHeartbeats 800000 in
theorem hasRoot_any (p : Pt) (w : World) (B : Nat) (v : Value) (hP : PRep w (· < B) p v) (hB : B ≤ w.heap.size) :
    Calls Tryz.prog 32 #[v] w fun e w' => e = .returned (.bool (hasRootB p)) ∧ Below w.heap.size w w' := by
  obtain ⟨pname, types⟩ := p
  obtain ⟨ta, tc, rfl, hK, -, -⟩ := hP
  simp only at hK
  have h3 := hK.1
  by_cases h0 : 0 < types.length
  · have d1 : (0 : Int) < (types.length : Int) := by omega
    obtain ⟨b, off, fa, fc, rfl, -, hcs⟩ := hK.at hB 0 h0
    have q := fun o => hcs (w.alloc o) (below_box w o)
    have q0 : ∀ o, (w.alloc o).cell? ⟨b, off, none⟩ = some (.string (tth types 0).name) := fun o => by simpa using (q o).1
    have q1 : ∀ o, (w.alloc o).cell? ⟨b, off + 1, none⟩ = some (.string (tth types 0).key) := fun o => by simpa using (q o).2.1
    clear q hcs hK
    have HR : Hid (hasRootB ⟨pname, types⟩ = ((tth types 0).name.toList == [113, 117, 101, 114, 121] && (tth types 0).key.toList.isEmpty)) := by show _ = _; simp [hasRootB, isT, h0]
    cases x1 : ((tth types 0).name.toList == [113, 117, 101, 114, 121])
    · go_enter Tryz.func32, Tryz.ntmps32
      go_wp2_with fail
      go_ret
      exact ⟨ret_bool (by rw [HR.out, x1]; rfl), below_box _ _⟩
    · go_enter Tryz.func32, Tryz.ntmps32
      go_wp2_with fail
      go_ret
      exact ⟨ret_bool (by rw [HR.out, x1]; simp), below_box _ _⟩
  · have d1 : decide ((0 : Int) < (types.length : Int)) = false := decide_eq_false (by omega)
    have d2 : decide (0 < types.length) = false := decide_eq_false (by omega)
    have HR : Hid (hasRootB ⟨pname, types⟩ = false) := by show _ = _; simp only [hasRootB, d2, Bool.false_and]
    clear h0
    go_enter Tryz.func32, Tryz.ntmps32
    go_wp2_with fail
    go_ret
    exact ⟨ret_bool HR.out.symm, below_box _ _⟩
end Go.Proofs.YtibpieomldhomaaGreatDoor
