/-
  The model's questions of a part: what a field needs.
-/
import Derived.Test.YtibpieomldhomaaGreatDoorPKey
namespace Go.Proofs.YtibpieomldhomaaGreatDoor
set_option linter.unusedSimpArgs false
set_option linter.unusedVariables false
open Go.RowKit

/-- Whether a field may need others at all. -/
def needHead (t : T) (f : F) : Bool := isT f.of [105, 110, 116] && !f.list && !f.far && !f.must && !t.key.toList.isEmpty && !(f.name.toList == t.key.toList)
/-- Whether a field may be needed. -/
def needed (g : F) : Bool := !decide (0 < (g.needs.length : Int)) && isT g.of [105, 110, 116] && !g.list
/-- Whether what is needed at a place is right. -/
def needAt (t : T) (f : F) (i : Nat) : Bool := decide (0 ≤ fieldIx t (nth f.needs i)) && needed (fth t.fields (fieldIx t (nth f.needs i)).toNat) && (i == 0 || Op.bytesLess (nth f.needs (i - 1)).toList (nth f.needs i).toList)
def needTo (t : T) (f : F) (n : Nat) : Bool := (List.range n).all fun i => needAt t f i
theorem needTo_succ (t : T) (f : F) (n : Nat) : needTo t f (n + 1) = (needTo t f n && needAt t f n) := by simp [needTo, List.range_succ]
theorem needTo_false (t : T) (f : F) (n k : Nat) (hk : k < n) (h : needAt t f k = false) : needTo t f n = false := by
  rw [needTo, List.all_eq_false]; exact ⟨k, by simpa using hk, by simpa using h⟩
def needsB (t : T) (f : F) : Bool := (f.needs.isEmpty || needHead t f) && needTo t f f.needs.length

set_option maxHeartbeats 1600000 in
theorem l2Needs_none (t : T) (f : F) (w : World) (v u : Value) (B : Nat) (hR : TRep w (· < B) t v) (hF : FRep w (· < B) f u) (hB : B ≤ w.heap.size) (h0 : f.needs = []) :
    Calls Tryz.prog 38 #[v, u] w fun e w' => e = .returned (.bool (needsB t f)) ∧ Below w.heap.size w w' := by
  obtain ⟨tn, key, fields⟩ := t
  obtain ⟨fa, fc, rfl, hK, -⟩ := hR
  obtain ⟨na, nc, rfl, -⟩ := hF
  obtain ⟨name, of, l, m, fr, hi, sh, needs⟩ := f
  simp only at h0
  subst h0
  go_enter Tryz.func38, Tryz.ntmps38
  go_wp2_with fail
  go_loop [5, 6] (fun i _ => i = .int .i64 0) (fun _ _ => 0)
  case atStart => rfl
  case round =>
    subst hrel
    go_wp2_with fail
    go_ret
    exact ⟨ret_bool (by simp [needsB, needTo]), below_box2 _ _ _⟩

set_option maxHeartbeats 1600000 in
theorem l2Needs_head (t : T) (f : F) (w : World) (v u : Value) (B : Nat) (hR : TRep w (· < B) t v) (hF : FRep w (· < B) f u) (hB : B ≤ w.heap.size) (h0 : 0 < f.needs.length) (hh : needHead t f = false) :
    Calls Tryz.prog 38 #[v, u] w fun e w' => e = .returned (.bool (needsB t f)) ∧ Below w.heap.size w w' := by
  have hb : Hid (needsB t f = false) := by
    show _ = _
    have : f.needs.isEmpty = false := by cases h : f.needs with
      | nil => simp [h] at h0
      | cons a b => rfl
    simp only [needsB, this, hh]; rfl
  obtain ⟨tn, key, fields⟩ := t
  obtain ⟨fa, fc, rfl, hK, -⟩ := hR
  obtain ⟨na, nc, rfl, -⟩ := hF
  obtain ⟨name, of, l, m, fr, hi, sh, needs⟩ := f
  simp only at h0
  have h0' : (0 : Int) < (needs.length : Int) := by omega
  simp only [needHead, isT] at hh
  cases h1 : (of.toList == [105, 110, 116])
  case false =>
    clear hh
    go_enter Tryz.func38, Tryz.ntmps38
    go_wp2_with fail
    go_ret
    exact ⟨ret_bool hb.out.symm, below_box2 _ _ _⟩
  cases l
  case true =>
    clear hh
    go_enter Tryz.func38, Tryz.ntmps38
    go_wp2_with fail
    go_ret
    exact ⟨ret_bool hb.out.symm, below_box2 _ _ _⟩
  cases fr
  case true =>
    clear hh
    go_enter Tryz.func38, Tryz.ntmps38
    go_wp2_with fail
    go_ret
    exact ⟨ret_bool hb.out.symm, below_box2 _ _ _⟩
  cases m
  case true =>
    clear hh
    go_enter Tryz.func38, Tryz.ntmps38
    go_wp2_with fail
    go_ret
    exact ⟨ret_bool hb.out.symm, below_box2 _ _ _⟩
  cases h2 : key.toList.isEmpty
  case true =>
    clear hh
    go_enter Tryz.func38, Tryz.ntmps38
    go_wp2_with fail
    go_ret
    exact ⟨ret_bool hb.out.symm, below_box2 _ _ _⟩
  have h3 : (name.toList == key.toList) = true := by
    rw [h1, h2] at hh; simpa using hh
  clear hh
  go_enter Tryz.func38, Tryz.ntmps38
  go_wp2_with fail
  go_ret
  exact ⟨ret_bool hb.out.symm, below_box2 _ _ _⟩
end Go.Proofs.YtibpieomldhomaaGreatDoor
