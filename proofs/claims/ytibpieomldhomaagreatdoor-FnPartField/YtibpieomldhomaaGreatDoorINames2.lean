/-
  The program's questions of a type: names.
-/
import Derived.Test.YtibpieomldhomaaGreatDoorINeeds
namespace Go.Proofs.YtibpieomldhomaaGreatDoor
set_option linter.unusedSimpArgs false
set_option linter.unusedVariables false
open Go.RowKit

/-- A field of a list, in whatever later world. -/
theorem FsRep.at {w : World} {B : Nat} {fs : List F} {fa : Option Addr} (h : FsRep w (· < B) fs fa) (hB : B ≤ w.heap.size) (k : Nat) (hk : k < fs.length) : ∃ (b off : Nat) (na : Option Addr) (nc : Nat), fa = some ⟨b, off, none⟩ ∧
    FRep w (· < B) (fth fs k) (.agg #[.string (fth fs k).name, .string (fth fs k).of, .bool (fth fs k).list, .bool (fth fs k).must, .bool (fth fs k).far, .bool (fth fs k).hidden, .bool (fth fs k).shared, .slice na (fth fs k).needs.length nc]) ∧
    ∀ W, Below w.heap.size w W → W.cell? ⟨b, off + k * 8, none⟩ = some (.string (fth fs k).name) ∧ W.cell? ⟨b, off + k * 8 + 1, none⟩ = some (.string (fth fs k).of) ∧ W.cell? ⟨b, off + k * 8 + 2, none⟩ = some (.bool (fth fs k).list) ∧ W.cell? ⟨b, off + k * 8 + 3, none⟩ = some (.bool (fth fs k).must) ∧ W.cell? ⟨b, off + k * 8 + 4, none⟩ = some (.bool (fth fs k).far) ∧ W.cell? ⟨b, off + k * 8 + 5, none⟩ = some (.bool (fth fs k).hidden) ∧ W.cell? ⟨b, off + k * 8 + 6, none⟩ = some (.bool (fth fs k).shared) ∧ W.cell? ⟨b, off + k * 8 + 7, none⟩ = some (.slice na (fth fs k).needs.length nc) := by
  obtain ⟨-, C, hA, hr⟩ := h
  obtain ⟨b, off, rfl, hbB, hc⟩ := hA (by omega)
  have hkt := hr k hk
  obtain ⟨e0, e1, e2, e3, e4, e5, e6, na, nc, e7, -⟩ := (hr k hk).parts
  rw [e0, e1, e2, e3, e4, e5, e6, e7] at hkt
  refine ⟨b, off, na, nc, rfl, hkt, fun W hb => ?_⟩
  have hck : ∀ j, j < 8 → W.cell? ⟨b, off + k * 8 + j, none⟩ = some (C k j) := fun j hj => (hb.cell (p := ⟨b, off + k * 8 + j, none⟩) (by show b < _; omega)).trans (hc k hk j hj)
  have c0 : W.cell? ⟨b, off + k * 8, none⟩ = some (C k 0) := hck 0 (by omega)
  rw [c0, hck 1 (by omega), hck 2 (by omega), hck 3 (by omega), hck 4 (by omega), hck 5 (by omega), hck 6 (by omega), hck 7 (by omega), e0, e1, e2, e3, e4, e5, e6, e7]
  exact ⟨rfl, rfl, rfl, rfl, rfl, rfl, rfl, rfl⟩

def namesTo (ns : List ByteArray) (n : Nat) : Bool := (List.range n).all fun i => nameB (nth ns i)
theorem namesTo_succ (ns : List ByteArray) (n : Nat) : namesTo ns (n + 1) = (namesTo ns n && nameB (nth ns n)) := by simp [namesTo, List.range_succ]
/-- A field's names. -/
def fieldNamesB (f : F) : Bool := nameB f.name && (scalarB f.of || nameB f.of) && namesTo f.needs f.needs.length

set_option maxHeartbeats 800000 in
theorem isFieldOfNames_any (f : F) (w : World) (B : Nat) (v : Value) (hR : FRep w (· < B) f v) (hB : B ≤ w.heap.size) :
    Calls Tryz.prog 72 #[v] w fun e w' => e = .returned (.bool (fieldNamesB f)) ∧ Below w.heap.size w w' := by
  obtain ⟨fn, of, l, m, fr, hi, sh, needs⟩ := f
  obtain ⟨na, nc, rfl, hS, hnc, hsn, hso, hb16⟩ := hR
  simp only at hS hnc hsn hso hb16
  have hN1 := fun w => isName_any fn w hsn
  have hL := fun w => isLeaf_any of w
  have hN2 := fun w => isName_any of w hso
  have HF : Hid (fieldNamesB ⟨fn, of, l, m, fr, hi, sh, needs⟩ = (nameB fn && (scalarB of || nameB of) && namesTo needs needs.length)) := rfl
  obtain ⟨h1, h2, h3⟩ := hS
  have h3' := h3
  unfold maxLen at h3'
  cases x1 : nameB fn
  · rw [x1] at hN1
    go_enter Tryz.func72, Tryz.ntmps72
    go_wp2_with (go_at_call_of 31 (Value.string fn); refine (hN1 _).mono ?_; rintro e w' ⟨rfl, rfl⟩)
    go_ret
    exact ⟨ret_bool (by rw [HF.out, x1]; rfl), below_box _ _⟩
  rw [x1] at hN1
  cases x2 : (scalarB of || nameB of)
  · have hs : scalarB of = false := by cases h : scalarB of <;> simp_all
    have hn : nameB of = false := by cases h : nameB of <;> simp_all
    rw [hs] at hL
    rw [hn] at hN2
    go_enter Tryz.func72, Tryz.ntmps72
    go_wp2_with (first | (go_at_call_of 31 (Value.string fn); refine (hN1 _).mono ?_; rintro e w' ⟨rfl, rfl⟩) | (go_at_call 71; refine (hL _).mono ?_; rintro e w' ⟨rfl, rfl⟩) | (go_at_call_of 31 (Value.string of); refine (hN2 _).mono ?_; rintro e w' ⟨rfl, rfl⟩))
    go_ret
    exact ⟨ret_bool (by rw [HF.out, x2]; simp), below_box _ _⟩
  have HE : Hid (fieldNamesB ⟨fn, of, l, m, fr, hi, sh, needs⟩ = namesTo needs needs.length) := by show _ = _; rw [HF.out, x1, x2]; rfl
  have key : ∀ b1 b2 : Bool, scalarB of = b1 → (b1 = false → nameB of = b2 ∧ b2 = true) → Calls Tryz.prog 72 #[.agg #[.string fn, .string of, .bool l, .bool m, .bool fr, .bool hi, .bool sh, .slice na needs.length nc]] w fun e w' => e = .returned (.bool (fieldNamesB ⟨fn, of, l, m, fr, hi, sh, needs⟩)) ∧ Below w.heap.size w w' := by
    intro b1 b2 hb1 hb2
    rw [hb1] at hL
    cases b1
    all_goals
      first | (obtain ⟨hn2, rfl⟩ := hb2 rfl; rw [hn2] at hN2; clear hn2) | skip
      clear hb2
      go_enter Tryz.func72, Tryz.ntmps72
      go_wp2_with (first | (go_at_call_of 31 (Value.string fn); refine (hN1 _).mono ?_; rintro e w' ⟨rfl, rfl⟩) | (go_at_call 71; refine (hL _).mono ?_; rintro e w' ⟨rfl, rfl⟩) | (go_at_call_of 31 (Value.string of); refine (hN2 _).mono ?_; rintro e w' ⟨rfl, rfl⟩))
      go_loop [24] (fun i => ∃ k : Nat, k ≤ needs.length ∧ i = .int .i64 k ∧ namesTo needs k = true) (fun i => needs.length - (intOf i).toNat)
      case atStart => exact ⟨0, Nat.zero_le _, rfl, rfl⟩
      case round =>
        obtain ⟨k, hk, rfl, hp⟩ := hrel
        have HP : Hid (namesTo needs k = true) := hp
        clear hp
        by_cases hlt : k < needs.length
        · obtain ⟨d, doff, rfl, hdB, hcc⟩ := h1 (by intro e; simp [e] at hlt)
          have hck : ∀ o, (w.alloc o).cell? ⟨d, doff + k, none⟩ = some (.string (nth needs k)) := fun o => ((below_box w o).cell (p := ⟨d, doff + k, none⟩) (by show d < _; omega)).trans (hcc k hlt)
          have hNk := fun w => isName_any (nth needs k) w (h2 k)
          clear hcc h1
          cases x3 : nameB (nth needs k)
          · rw [x3] at hNk
            have hres : Hid (namesTo needs needs.length = false) := all_false (k := k) hlt x3
            go_wp2_with (go_at_call 31; refine (hNk _).mono ?_; rintro e w' ⟨rfl, rfl⟩)
            go_ret
            exact ⟨ret_bool (by rw [HE.out, hres.out]), below_box _ _⟩
          · rw [x3] at hNk
            go_wp2_with (go_at_call 31; refine (hNk _).mono ?_; rintro e w' ⟨rfl, rfl⟩)
            go_round
            case rel => exact ⟨k + 1, by omega, by go_num, by rw [namesTo_succ, HP.out, x3]; rfl⟩
            case measure => simp [intOf]; omega
        · go_wp2_with fail
          go_ret
          have e : k = needs.length := by omega
          exact ⟨ret_bool (by rw [HE.out, ← e, HP.out]), below_box _ _⟩
  exact key (scalarB of) (nameB of) rfl fun h => ⟨rfl, by rw [h] at x2; simpa using x2⟩

def fieldsNamesTo (fs : List F) (n : Nat) : Bool := (List.range n).all fun i => fieldNamesB (fth fs i)
theorem fieldsNamesTo_succ (fs : List F) (n : Nat) : fieldsNamesTo fs (n + 1) = (fieldsNamesTo fs n && fieldNamesB (fth fs n)) := by simp [fieldsNamesTo, List.range_succ]

/-- Nothing of a type is of this word. -/
def rootTo (fs : List F) (n : Nat) : Bool := (List.range n).all fun i => !isT (fth fs i).of [113, 117, 101, 114, 121]
theorem rootTo_succ (fs : List F) (n : Nat) : rootTo fs (n + 1) = (rootTo fs n && !isT (fth fs n).of [113, 117, 101, 114, 121]) := by simp [rootTo, List.range_succ]

set_option maxHeartbeats 800000 in
theorem isTypeOfRoot_any (t : T) (w : World) (B : Nat) (v : Value) (hR : TRep w (· < B) t v) (hB : B ≤ w.heap.size) :
    Calls Tryz.prog 54 #[v] w fun e w' => e = .returned (.bool (!rootTo t.fields t.fields.length)) ∧ Below w.heap.size w w' := by
  obtain ⟨name, key, fields⟩ := t
  obtain ⟨fa, fc, rfl, hK, hnc, hn, ho⟩ := hR
  simp only at hK hnc hn ho ⊢
  have h3 := hK.1
  go_enter Tryz.func54, Tryz.ntmps54
  go_wp2_with fail
  go_loopw [8] (fun i wr => ∃ k : Nat, k ≤ fields.length ∧ i = .int .i64 k ∧ Below w.heap.size w wr ∧ rootTo fields k = true) (fun i _ => fields.length - (intOf i).toNat)
  case atStart => exact ⟨0, Nat.zero_le _, rfl, below_box _ _, rfl⟩
  case round =>
    obtain ⟨k, hk, rfl, hbw, hp⟩ := hrel
    have HP : Hid (rootTo fields k = true) := hp
    clear hp
    have hz := hbw.size
    by_cases hlt : k < fields.length
    · obtain ⟨b, off, na, nc, rfl, -, hcs⟩ := hK.at hB k hlt
      obtain ⟨c0, c1, c2, c3, c4, c5, c6, c7⟩ := hcs wr hbw
      clear hcs
      cases x1 : ((fth fields k).of.toList == [113, 117, 101, 114, 121])
      · go_wp2_with fail
        go_roundw
        case rel => exact ⟨k + 1, by omega, by go_num, hbw.alloc hz _, by rw [rootTo_succ, HP.out]; simp [isT, x1]⟩
        case measure => simp [intOf]; omega
      · have hres : Hid (rootTo fields fields.length = false) := all_false (k := k) hlt (by simp [isT, x1])
        go_wp2_with fail
        go_ret
        exact ⟨ret_bool (by rw [hres.out]; rfl), hbw.alloc hz _⟩
    · go_wp2_with fail
      go_ret
      have e : k = fields.length := by omega
      exact ⟨ret_bool (by rw [← e, HP.out]; rfl), hbw⟩
end Go.Proofs.YtibpieomldhomaaGreatDoor
