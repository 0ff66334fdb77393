/-
  The model's questions of a part: keys.
-/
import Derived.Test.YtibpieomldhomaaGreatDoorPFind
namespace Go.Proofs.YtibpieomldhomaaGreatDoor
set_option linter.unusedSimpArgs false
set_option linter.unusedVariables false
open Go.RowKit

theorem FRep.parts {w : World} {P : Nat → Prop} {f : F} {c0 c1 c2 c3 c4 c5 c6 c7 : Value} (h : FRep w P f (.agg #[c0, c1, c2, c3, c4, c5, c6, c7])) :
    c0 = .string f.name ∧ c1 = .string f.of ∧ c2 = .bool f.list ∧ c3 = .bool f.must ∧ c4 = .bool f.far ∧ c5 = .bool f.hidden ∧ c6 = .bool f.shared ∧ ∃ na nc, c7 = .slice na f.needs.length nc ∧ Strs w P f.needs na ∧ f.needs.length ≤ nc ∧ f.name.size ≤ maxLen ∧ f.of.size ≤ maxLen := by
  obtain ⟨na, nc, hv, h2, h3, h4, h5, -⟩ := h
  simp only [Value.agg.injEq, Array.mk.injEq, List.cons.injEq, and_true] at hv
  obtain ⟨e0, e1, e2, e3, e4, e5, e6, e7⟩ := hv
  exact ⟨e0, e1, e2, e3, e4, e5, e6, na, nc, e7, h2, h3, h4, h5⟩

/-- Where a field stands. -/
def fieldIx (t : T) (s : ByteArray) : Int := firstTo (fun i => (fth t.fields i).name.toList == s.toList) t.fields.length
def keyOkF (f : F) : Bool := isT f.of [105, 110, 116] && !f.list && f.must && !f.far && !f.hidden && (f.needs.length : Int) == 0
def keyB (t : T) : Bool := t.key.toList.isEmpty || (decide (0 ≤ fieldIx t t.key) && keyOkF (fth t.fields (fieldIx t t.key).toNat))

set_option maxHeartbeats 1600000 in
theorem l2Key_any (t : T) (w : World) (B : Nat) (v : Value) (hR : TRep w (· < B) t v) (hB : B ≤ w.heap.size) :
    Calls Tryz.prog 37 #[v] w fun e w' => e = .returned (.bool (keyB t)) ∧ Below w.heap.size w w' := by
  have hR' := hR
  obtain ⟨name, key, fields⟩ := t
  obtain ⟨fa, fc, rfl, hK, hnc, hn, ho⟩ := hR
  simp only at hK hnc hn ho
  cases hke : key.toList.isEmpty
  case true =>
    go_enter Tryz.func37, Tryz.ntmps37
    go_wp2_with fail
    go_ret
    exact ⟨ret_bool (by simp [keyB, hke]), below_box _ _⟩
  have hcall : ∀ o, Calls Tryz.prog 20 #[.agg #[.string name, .string key, .slice fa fields.length fc], .string key] (w.alloc o) fun e w' => e = .returned (.int .i64 (fieldIx ⟨name, key, fields⟩ key)) ∧ Below (w.alloc o).heap.size (w.alloc o) w' := fun o =>
    l2Field_any ⟨name, key, fields⟩ (w.alloc o) B _ key (hR'.under ((below_box w o).mono hB)) (by simp; omega)
  have hkb : Hid (keyB ⟨name, key, fields⟩ = (decide (0 ≤ fieldIx ⟨name, key, fields⟩ key) && keyOkF (fth fields (fieldIx ⟨name, key, fields⟩ key).toNat))) := by
    show _ = _; simp [keyB, hke]
  rcases firstTo_cases (fun i => (fth fields i).name.toList == key.toList) fields.length with ⟨hix, -⟩ | ⟨k, hix, hlt, -, -⟩
  · have hix' : fieldIx ⟨name, key, fields⟩ key = -1 := hix
    rw [hix'] at hcall hkb
    go_enter Tryz.func37, Tryz.ntmps37
    go_wp2_with (go_at_call 20; refine (hcall _).mono ?_; rintro e w1 ⟨rfl, hb1⟩)
    go_ret
    exact ⟨ret_bool (by rw [hkb.out]; simp), (below_box w _).trans (hb1.mono (by simp))⟩
  · have hix' : fieldIx ⟨name, key, fields⟩ key = (k : Int) := hix
    rw [hix'] at hcall hkb
    have h3 := hK.1
    obtain ⟨-, C, hA, hr⟩ := hK
    obtain ⟨b, off, rfl, hbB, hc⟩ := hA (by omega)
    have hck := hc k hlt
    obtain ⟨e0, e1, e2, e3, e4, e5, e6, na, nc, e7, -⟩ := (hr k hlt).parts
    have E0 := e0
    clear e0
    clear hc hr hA
    have hkf : Hid (keyB ⟨name, key, fields⟩ = keyOkF (fth fields k)) := by show _ = _; rw [hkb.out]; simp
    clear hkb
    generalize fth fields k = f at *
    obtain ⟨fn, of, l, m, fr, hi, sh, needs⟩ := f
    simp only at E0 e1 e2 e3 e4 e5 e6 e7
    have hcells : ∀ w1, Below w.heap.size w w1 → (w1.cell? ⟨b, off + k * 8, none⟩ = some (.string fn) ∧ w1.cell? ⟨b, off + k * 8 + 1, none⟩ = some (.string of) ∧ w1.cell? ⟨b, off + k * 8 + 2, none⟩ = some (.bool l) ∧ w1.cell? ⟨b, off + k * 8 + 3, none⟩ = some (.bool m) ∧ w1.cell? ⟨b, off + k * 8 + 4, none⟩ = some (.bool fr) ∧ w1.cell? ⟨b, off + k * 8 + 5, none⟩ = some (.bool hi) ∧ w1.cell? ⟨b, off + k * 8 + 6, none⟩ = some (.bool sh) ∧ w1.cell? ⟨b, off + k * 8 + 7, none⟩ = some (.slice na needs.length nc)) := fun w1 hb => by
      have hx : ∀ j, j < 8 → w1.cell? ⟨b, off + k * 8 + j, none⟩ = some (C k j) := fun j hj => (hb.cell (p := ⟨b, off + k * 8 + j, none⟩) (by show b < _; omega)).trans (hck j hj)
      have x0 := hx 0 (by omega); have x1 := hx 1 (by omega); have x2 := hx 2 (by omega); have x3 := hx 3 (by omega)
      have x4 := hx 4 (by omega); have x5 := hx 5 (by omega); have x6 := hx 6 (by omega); have x7 := hx 7 (by omega)
      rw [e1] at x1; rw [e2] at x2; rw [e3] at x3; rw [e4] at x4; rw [e5] at x5; rw [e6] at x6; rw [e7] at x7
      exact ⟨by rw [E0] at x0; exact x0, x1, x2, x3, x4, x5, x6, x7⟩
    have hki : (k : Int) < (fields.length : Int) := by omega
    clear hck e1 e2 e3 e4 e5 e6 e7 E0
    cases hof : (of.toList == [105, 110, 116])
    case false =>
      go_enter Tryz.func37, Tryz.ntmps37
      go_wp2_with (
        go_at_call 20
        refine (hcall _).mono ?_
        rintro e w1 ⟨rfl, hb1⟩
        have hbw : Below w.heap.size w w1 := (below_box w _).trans (hb1.mono (by simp))
        obtain ⟨x0, x1, x2, x3, x4, x5, x6, x7⟩ := hcells w1 hbw
        have hx2 : w1.cell? ⟨w.heap.size, 2, none⟩ = some (.slice (some ⟨b, off, none⟩) fields.length fc) := by rw [hb1.cell (by simp)]; simp)
      go_ret
      exact ⟨ret_bool (by rw [hkf.out]; simp [keyOkF, isT, hof]), hbw.trans ((below_box w1 _).mono hbw.size)⟩
    cases l
    case true =>
      go_enter Tryz.func37, Tryz.ntmps37
      go_wp2_with (
        go_at_call 20
        refine (hcall _).mono ?_
        rintro e w1 ⟨rfl, hb1⟩
        have hbw : Below w.heap.size w w1 := (below_box w _).trans (hb1.mono (by simp))
        obtain ⟨x0, x1, x2, x3, x4, x5, x6, x7⟩ := hcells w1 hbw
        have hx2 : w1.cell? ⟨w.heap.size, 2, none⟩ = some (.slice (some ⟨b, off, none⟩) fields.length fc) := by rw [hb1.cell (by simp)]; simp)
      go_ret
      exact ⟨ret_bool (by rw [hkf.out]; simp [keyOkF, isT, hof]), hbw.trans ((below_box w1 _).mono hbw.size)⟩
    cases m
    case false =>
      go_enter Tryz.func37, Tryz.ntmps37
      go_wp2_with (
        go_at_call 20
        refine (hcall _).mono ?_
        rintro e w1 ⟨rfl, hb1⟩
        have hbw : Below w.heap.size w w1 := (below_box w _).trans (hb1.mono (by simp))
        obtain ⟨x0, x1, x2, x3, x4, x5, x6, x7⟩ := hcells w1 hbw
        have hx2 : w1.cell? ⟨w.heap.size, 2, none⟩ = some (.slice (some ⟨b, off, none⟩) fields.length fc) := by rw [hb1.cell (by simp)]; simp)
      go_ret
      exact ⟨ret_bool (by rw [hkf.out]; simp [keyOkF, isT, hof]), hbw.trans ((below_box w1 _).mono hbw.size)⟩
    cases fr
    case true =>
      go_enter Tryz.func37, Tryz.ntmps37
      go_wp2_with (
        go_at_call 20
        refine (hcall _).mono ?_
        rintro e w1 ⟨rfl, hb1⟩
        have hbw : Below w.heap.size w w1 := (below_box w _).trans (hb1.mono (by simp))
        obtain ⟨x0, x1, x2, x3, x4, x5, x6, x7⟩ := hcells w1 hbw
        have hx2 : w1.cell? ⟨w.heap.size, 2, none⟩ = some (.slice (some ⟨b, off, none⟩) fields.length fc) := by rw [hb1.cell (by simp)]; simp)
      go_ret
      exact ⟨ret_bool (by rw [hkf.out]; simp [keyOkF, isT, hof]), hbw.trans ((below_box w1 _).mono hbw.size)⟩
    cases hi
    case true =>
      go_enter Tryz.func37, Tryz.ntmps37
      go_wp2_with (
        go_at_call 20
        refine (hcall _).mono ?_
        rintro e w1 ⟨rfl, hb1⟩
        have hbw : Below w.heap.size w w1 := (below_box w _).trans (hb1.mono (by simp))
        obtain ⟨x0, x1, x2, x3, x4, x5, x6, x7⟩ := hcells w1 hbw
        have hx2 : w1.cell? ⟨w.heap.size, 2, none⟩ = some (.slice (some ⟨b, off, none⟩) fields.length fc) := by rw [hb1.cell (by simp)]; simp)
      go_ret
      exact ⟨ret_bool (by rw [hkf.out]; simp [keyOkF, isT, hof]), hbw.trans ((below_box w1 _).mono hbw.size)⟩
    go_enter Tryz.func37, Tryz.ntmps37
    go_wp2_with (
      go_at_call 20
      refine (hcall _).mono ?_
      rintro e w1 ⟨rfl, hb1⟩
      have hbw : Below w.heap.size w w1 := (below_box w _).trans (hb1.mono (by simp))
      obtain ⟨x0, x1, x2, x3, x4, x5, x6, x7⟩ := hcells w1 hbw
      have hx2 : w1.cell? ⟨w.heap.size, 2, none⟩ = some (.slice (some ⟨b, off, none⟩) fields.length fc) := by rw [hb1.cell (by simp)]; simp)
    go_ret
    exact ⟨ret_bool (by rw [hkf.out]; simp [keyOkF, isT, hof]), hbw.trans ((below_box w1 _).mono hbw.size)⟩
end Go.Proofs.YtibpieomldhomaaGreatDoor
