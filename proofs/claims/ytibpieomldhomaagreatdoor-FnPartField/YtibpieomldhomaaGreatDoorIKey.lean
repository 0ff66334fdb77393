/-
  What a field may be: a key, needed, in need of others.
-/
import Derived.Test.YtibpieomldhomaaGreatDoorIMarks
namespace Go.Proofs.YtibpieomldhomaaGreatDoor
set_option linter.unusedSimpArgs false
set_option linter.unusedVariables false
open Go.RowKit

theorem FRep.vals {w : World} {P : Nat → Prop} {f : F} {nm of : ByteArray} {l m fr hi sh : Bool} {na : Option Addr} {nl nc : Nat} (h : FRep w P f (.agg #[.string nm, .string of, .bool l, .bool m, .bool fr, .bool hi, .bool sh, .slice na nl nc])) :
    nm = f.name ∧ of = f.of ∧ l = f.list ∧ m = f.must ∧ fr = f.far ∧ hi = f.hidden ∧ sh = f.shared ∧ nl = f.needs.length ∧ Strs w P f.needs na ∧ f.needs.length ≤ nc ∧ f.name.size ≤ maxLen ∧ f.of.size ≤ maxLen := by
  obtain ⟨e0, e1, e2, e3, e4, e5, e6, na', nc', e7, h1, h2, h3, h4⟩ := h.parts
  simp only [Value.string.injEq, Value.bool.injEq, Value.slice.injEq] at e0 e1 e2 e3 e4 e5 e6 e7
  obtain ⟨rfl, e8, rfl⟩ := e7
  exact ⟨e0, e1, e2, e3, e4, e5, e6, e8, h1, h2, h3, h4⟩

set_option maxHeartbeats 800000 in
theorem canBeKey_any (nm of : ByteArray) (l m fr hi sh : Bool) (na : Option Addr) (nl nc : Nat) (w : World) :
    Calls Tryz.prog 73 #[.agg #[.int .u8 (bitsF l m fr hi sh), .string nm, .string of, .bool l, .bool m, .bool fr, .bool hi, .bool sh, .slice na nl nc]] w fun e w' => e = .returned (.bool (isT of [105, 110, 116] && (nl : Int) == 0 && m && !(l || fr || hi))) ∧ Below w.heap.size w w' := by
  have h1 := fun w => hasAll_any (bitsF l m fr hi sh) 2 w
  have h2 := fun w => hasAny_any (bitsF l m fr hi sh) 13 w
  rw [bits_must] at h1
  rw [bits_key] at h2
  generalize bitsF l m fr hi sh = x at *
  cases e1 : (of.toList == [105, 110, 116])
  · go_enter Tryz.func73, Tryz.ntmps73
    go_wp2_with fail
    go_ret
    exact ⟨ret_bool (by simp [isT, e1]), below_box _ _⟩
  cases e2 : ((nl : Int) == 0)
  · go_enter Tryz.func73, Tryz.ntmps73
    go_wp2_with fail
    go_ret
    exact ⟨ret_bool (by simp), below_box _ _⟩
  cases m
  · go_enter Tryz.func73, Tryz.ntmps73
    go_wp2_with (go_at_call 62; refine (h1 _).mono ?_; rintro e w' ⟨rfl, rfl⟩)
    go_ret
    exact ⟨ret_bool (by simp), below_box _ _⟩
  · go_enter Tryz.func73, Tryz.ntmps73
    go_wp2_with (first | (go_at_call 62; refine (h1 _).mono ?_; rintro e w' ⟨rfl, rfl⟩) | (go_at_call 83; refine (h2 _).mono ?_; rintro e w' ⟨rfl, rfl⟩))
    go_ret
    exact ⟨ret_bool (by simp [isT, e1]), below_box _ _⟩

set_option maxHeartbeats 800000 in
theorem canBeNeeded_any (nm of : ByteArray) (l m fr hi sh : Bool) (na : Option Addr) (nl nc : Nat) (w : World) :
    Calls Tryz.prog 84 #[.agg #[.int .u8 (bitsF l m fr hi sh), .string nm, .string of, .bool l, .bool m, .bool fr, .bool hi, .bool sh, .slice na nl nc]] w fun e w' => e = .returned (.bool (isT of [105, 110, 116] && (nl : Int) == 0 && !l)) ∧ Below w.heap.size w w' := by
  have h2 := fun w => hasAny_any (bitsF l m fr hi sh) 1 w
  rw [bits_anyl] at h2
  generalize bitsF l m fr hi sh = x at *
  cases e1 : (of.toList == [105, 110, 116])
  · go_enter Tryz.func84, Tryz.ntmps84
    go_wp2_with fail
    go_ret
    exact ⟨ret_bool (by simp [isT, e1]), below_box _ _⟩
  cases e2 : ((nl : Int) == 0)
  · go_enter Tryz.func84, Tryz.ntmps84
    go_wp2_with fail
    go_ret
    exact ⟨ret_bool (by simp), below_box _ _⟩
  · go_enter Tryz.func84, Tryz.ntmps84
    go_wp2_with (go_at_call 83; refine (h2 _).mono ?_; rintro e w' ⟨rfl, rfl⟩)
    go_ret
    exact ⟨ret_bool (by simp [isT, e1]), below_box _ _⟩

set_option maxHeartbeats 800000 in
theorem canNeed_any (nm of : ByteArray) (l m fr hi sh : Bool) (na : Option Addr) (nl nc : Nat) (tn tk : ByteArray) (fa : Option Addr) (fl fc : Nat) (w : World) :
    Calls Tryz.prog 74 #[.agg #[.int .u8 (bitsF l m fr hi sh), .string nm, .string of, .bool l, .bool m, .bool fr, .bool hi, .bool sh, .slice na nl nc], .agg #[.string tn, .string tk, .slice fa fl fc]] w fun e w' => e = .returned (.bool (isT of [105, 110, 116] && !(l || fr || m) && !tk.toList.isEmpty && !(nm.toList == tk.toList))) ∧ Below w.heap.size w w' := by
  have h2 := fun w => hasAny_any (bitsF l m fr hi sh) 7 w
  rw [bits_need] at h2
  generalize bitsF l m fr hi sh = x at *
  cases e1 : (of.toList == [105, 110, 116])
  · go_enter Tryz.func74, Tryz.ntmps74
    go_wp2_with fail
    go_ret
    exact ⟨ret_bool (by simp [isT, e1]), below_box2 _ _ _⟩
  cases e2 : (l || fr || m)
  · rw [e2] at h2
    cases e3 : tk.toList.isEmpty
    · cases e4 : (nm.toList == tk.toList)
      · have g4 : (nm.toList != tk.toList) = true := by simp only [bne, e4]; rfl
        go_enter Tryz.func74, Tryz.ntmps74
        go_wp2_with (go_at_call 83; refine (h2 _).mono ?_; rintro e w' ⟨rfl, rfl⟩)
        go_ret
        exact ⟨ret_bool (by simp [isT, e1]), below_box2 _ _ _⟩
      · have g4 : (nm.toList != tk.toList) = false := by simp only [bne, e4]; rfl
        go_enter Tryz.func74, Tryz.ntmps74
        go_wp2_with (go_at_call 83; refine (h2 _).mono ?_; rintro e w' ⟨rfl, rfl⟩)
        go_ret
        exact ⟨ret_bool (by simp [isT, e1]), below_box2 _ _ _⟩
    · go_enter Tryz.func74, Tryz.ntmps74
      go_wp2_with (go_at_call 83; refine (h2 _).mono ?_; rintro e w' ⟨rfl, rfl⟩)
      go_ret
      exact ⟨ret_bool (by simp), below_box2 _ _ _⟩
  · rw [e2] at h2
    go_enter Tryz.func74, Tryz.ntmps74
    go_wp2_with (go_at_call 83; refine (h2 _).mono ?_; rintro e w' ⟨rfl, rfl⟩)
    go_ret
    exact ⟨ret_bool (by simp), below_box2 _ _ _⟩

set_option maxHeartbeats 800000 in
theorem isKeyRight_any (t : T) (w : World) (B : Nat) (v : Value) (hR : TRep w (· < B) t v) (hB : B ≤ w.heap.size) :
    Calls Tryz.prog 52 #[v] w fun e w' => e = .returned (.bool (keyB t)) ∧ Below w.heap.size w w' := by
  have hR' := hR
  obtain ⟨name, key, fields⟩ := t
  obtain ⟨fa, fc, rfl, hK, hnc, hn, ho⟩ := hR
  simp only at hK hnc hn ho
  cases hke : key.toList.isEmpty
  case true =>
    go_enter Tryz.func52, Tryz.ntmps52
    go_wp2_with fail
    go_ret
    exact ⟨ret_bool (by simp [keyB, hke]), below_box _ _⟩
  have hff := fun o => findField_any ⟨name, key, fields⟩ (w.alloc o) B _ key (hR'.under ((below_box w o).mono hB)) (by simp; omega)
  have hkb : Hid (keyB ⟨name, key, fields⟩ = (decide (0 ≤ fieldIx ⟨name, key, fields⟩ key) && keyOkF (fieldOr ⟨name, key, fields⟩ key))) := by
    show _ = _
    by_cases h : 0 ≤ fieldIx ⟨name, key, fields⟩ key <;> simp [keyB, hke, fieldOr, h]
  cases hix : decide (0 ≤ fieldIx ⟨name, key, fields⟩ key)
  · rw [hix] at hff
    go_enter Tryz.func52, Tryz.ntmps52
    go_wp2_with (go_at_call 17; refine (hff _).mono ?_; rintro e w1 ⟨nm, of, l, m, fr, hi, sh, na, nl, nc, rfl, hb1, hf1⟩)
    go_ret
    exact ⟨ret_bool (by rw [hkb.out, hix]; rfl), ((below_box w _).trans (hb1.mono (by simp))).alloc (by have := hb1.size; simp at this; omega) _⟩
  · rw [hix] at hff
    go_enter Tryz.func52, Tryz.ntmps52
    go_wp2_with (first
      | (
        go_at_call 17
        refine (hff _).mono ?_
        rintro e w1 ⟨nm, of, l, m, fr, hi, sh, na, nl, nc, rfl, hb1, hf1⟩)
      | (
        go_at_call 43
        refine (marksOf_any _ _ _ _ _ _ _ _ _ _ _).mono ?_
        rintro e w2 ⟨rfl, hb2⟩)
      | (
        go_at_call 73
        refine (canBeKey_any _ _ _ _ _ _ _ _ _ _ _).mono ?_
        rintro e w3 ⟨rfl, hb3⟩))
    go_ret
    obtain ⟨-, rfl, rfl, rfl, rfl, rfl, rfl, rfl, -⟩ := hf1.vals
    have z1 := hb1.size
    simp at z1
    have z2 := hb2.size
    simp at z2
    refine ⟨ret_bool ?_, ((((below_box w _).trans (hb1.mono (by simp))).alloc (by omega) _).trans (hb2.mono (by simp; omega))).trans (hb3.mono (by omega))⟩
    rw [hkb.out, hix]
    simp only [keyOkF, Bool.true_and]
    generalize fieldOr ⟨name, key, fields⟩ key = f
    cases f.list <;> cases f.must <;> cases f.far <;> cases f.hidden <;> simp
end Go.Proofs.YtibpieomldhomaaGreatDoor
