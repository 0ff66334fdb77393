import Derived.Test.YtelggammjejobaaGreatIMarks
import Derived.Deep.RegionHeld3
namespace Go.Proofs.YtelggammjejobaaGreat
set_option linter.unusedSimpArgs false
set_option linter.unusedVariables false
open Go.RowKit

theorem FRep.vals {w : World} {P : Nat → Prop} {f : F} {nm of : ByteArray} {l m fr hi sh : Bool} {na : Option Addr} {nl nc : Nat} (h : FRep w P f (.agg #[.string nm, .string of, .bool l, .bool m, .bool fr, .bool hi, .bool sh, .slice na nl nc])) :
    nm = f.name ∧ of = f.of ∧ l = f.list ∧ m = f.must ∧ fr = f.far ∧ hi = f.hidden ∧ sh = f.shared ∧ nl = f.needs.length ∧ Strs w P f.needs na ∧ f.needs.length ≤ nc ∧ f.name.size ≤ maxLen ∧ f.of.size ≤ maxLen := by
  obtain ⟨e0, e1, e2, e3, e4, e5, e6, na', nc', e7, h1, h2, h3, h4⟩ := h.parts
  simp only [Value.string.injEq, Value.bool.injEq, Value.slice.injEq] at e0 e1 e2 e3 e4 e5 e6 e7
  obtain ⟨rfl, e8, rfl⟩ := e7
  exact ⟨e0, e1, e2, e3, e4, e5, e6, e8, h1, h2, h3, h4⟩

set_option maxHeartbeats 800000 in
theorem canBeKey_any (nm of : ByteArray) (l m fr hi sh : Bool) (na : Option Addr) (nl nc : Nat) (w : World) :
    Calls Tryz.prog 88 #[.agg #[.int .u8 (bitsF l m fr hi sh), .string nm, .string of, .bool l, .bool m, .bool fr, .bool hi, .bool sh, .slice na nl nc]] w fun e w' => e = .returned (.bool (isT of [105, 110, 116] && (nl : Int) == 0 && m && !(l || fr || hi))) ∧ Below w.heap.size w w' := by
  have h1 := fun w => hasAll_any (bitsF l m fr hi sh) 2 w
  have h2 := fun w => hasAny_any (bitsF l m fr hi sh) 13 w
  rw [bits_must] at h1
  rw [bits_key] at h2
  generalize bitsF l m fr hi sh = x at *
  cases e1 : (of.toList == [105, 110, 116])
  · go_enter Tryz.func88, Tryz.ntmps88
    go_wp2_with fail
    go_ret
    exact ⟨ret_bool (by simp [isT, e1]), below_box _ _⟩
  cases e2 : ((nl : Int) == 0)
  · go_enter Tryz.func88, Tryz.ntmps88
    go_wp2_with fail
    go_ret
    exact ⟨ret_bool (by simp), below_box _ _⟩
  cases m
  · go_enter Tryz.func88, Tryz.ntmps88
    go_wp2_with (go_at_call 89; refine (h1 _).mono ?_; rintro e w' ⟨rfl, rfl⟩)
    go_ret
    exact ⟨ret_bool (by simp), below_box _ _⟩
  · go_enter Tryz.func88, Tryz.ntmps88
    go_wp2_with (first | (go_at_call 89; refine (h1 _).mono ?_; rintro e w' ⟨rfl, rfl⟩) | (go_at_call 105; refine (h2 _).mono ?_; rintro e w' ⟨rfl, rfl⟩))
    go_ret
    exact ⟨ret_bool (by simp [isT, e1]), below_box _ _⟩

set_option maxHeartbeats 800000 in
theorem canBeNeeded_any (nm of : ByteArray) (l m fr hi sh : Bool) (na : Option Addr) (nl nc : Nat) (w : World) :
    Calls Tryz.prog 106 #[.agg #[.int .u8 (bitsF l m fr hi sh), .string nm, .string of, .bool l, .bool m, .bool fr, .bool hi, .bool sh, .slice na nl nc]] w fun e w' => e = .returned (.bool (isT of [105, 110, 116] && (nl : Int) == 0 && !l)) ∧ Below w.heap.size w w' := by
  have h2 := fun w => hasAny_any (bitsF l m fr hi sh) 1 w
  rw [bits_anyl] at h2
  generalize bitsF l m fr hi sh = x at *
  cases e1 : (of.toList == [105, 110, 116])
  · go_enter Tryz.func106, Tryz.ntmps106
    go_wp2_with fail
    go_ret
    exact ⟨ret_bool (by simp [isT, e1]), below_box _ _⟩
  cases e2 : ((nl : Int) == 0)
  · go_enter Tryz.func106, Tryz.ntmps106
    go_wp2_with fail
    go_ret
    exact ⟨ret_bool (by simp), below_box _ _⟩
  · go_enter Tryz.func106, Tryz.ntmps106
    go_wp2_with (go_at_call 105; refine (h2 _).mono ?_; rintro e w' ⟨rfl, rfl⟩)
    go_ret
    exact ⟨ret_bool (by simp [isT, e1]), below_box _ _⟩

set_option maxHeartbeats 800000 in
theorem canNeed_any (nm of : ByteArray) (l m fr hi sh : Bool) (na : Option Addr) (nl nc : Nat) (tn tk : ByteArray) (fa : Option Addr) (fl fc : Nat) (w : World) :
    Calls Tryz.prog 90 #[.agg #[.int .u8 (bitsF l m fr hi sh), .string nm, .string of, .bool l, .bool m, .bool fr, .bool hi, .bool sh, .slice na nl nc], .agg #[.string tn, .string tk, .slice fa fl fc]] w fun e w' => e = .returned (.bool (isT of [105, 110, 116] && !(l || fr || m) && !tk.toList.isEmpty && !(nm.toList == tk.toList))) ∧ Below w.heap.size w w' := by
  have h2 := fun w => hasAny_any (bitsF l m fr hi sh) 7 w
  rw [bits_need] at h2
  generalize bitsF l m fr hi sh = x at *
  cases e1 : (of.toList == [105, 110, 116])
  · go_enter Tryz.func90, Tryz.ntmps90
    go_wp2_with fail
    go_ret
    exact ⟨ret_bool (by simp [isT, e1]), below_box2 _ _ _⟩
  cases e2 : (l || fr || m)
  · rw [e2] at h2
    cases e3 : tk.toList.isEmpty
    · cases e4 : (nm.toList == tk.toList)
      · have g4 : (nm.toList != tk.toList) = true := by simp only [bne, e4]; rfl
        go_enter Tryz.func90, Tryz.ntmps90
        go_wp2_with (go_at_call 105; refine (h2 _).mono ?_; rintro e w' ⟨rfl, rfl⟩)
        go_ret
        exact ⟨ret_bool (by simp [isT, e1]), below_box2 _ _ _⟩
      · have g4 : (nm.toList != tk.toList) = false := by simp only [bne, e4]; rfl
        go_enter Tryz.func90, Tryz.ntmps90
        go_wp2_with (go_at_call 105; refine (h2 _).mono ?_; rintro e w' ⟨rfl, rfl⟩)
        go_ret
        exact ⟨ret_bool (by simp [isT, e1]), below_box2 _ _ _⟩
    · go_enter Tryz.func90, Tryz.ntmps90
      go_wp2_with (go_at_call 105; refine (h2 _).mono ?_; rintro e w' ⟨rfl, rfl⟩)
      go_ret
      exact ⟨ret_bool (by simp), below_box2 _ _ _⟩
  · rw [e2] at h2
    go_enter Tryz.func90, Tryz.ntmps90
    go_wp2_with (go_at_call 105; refine (h2 _).mono ?_; rintro e w' ⟨rfl, rfl⟩)
    go_ret
    exact ⟨ret_bool (by simp), below_box2 _ _ _⟩

set_option maxHeartbeats 800000 in
theorem isKeyRight_any (t : T) (w : World) (B : Nat) (v : Value) (hR : TRep w (· < B) t v) (hB : B ≤ w.heap.size) :
    Calls Tryz.prog 61 #[v] w fun e w' => e = .returned (.bool (keyB t)) ∧ Below w.heap.size w w' := by
  have hR' := hR
  obtain ⟨name, key, fields⟩ := t
  obtain ⟨fa, fc, rfl, hK, hnc, hn, ho⟩ := hR
  simp only at hK hnc hn ho
  cases hke : key.toList.isEmpty
  case true =>
    go_enter Tryz.func61, Tryz.ntmps61
    go_wp2_with fail
    go_ret
    exact ⟨ret_bool (by simp [keyB, hke]), below_box _ _⟩
  have hff := fun o => findField_any ⟨name, key, fields⟩ (w.alloc o) B _ key (hR'.under ((below_box w o).mono hB)) (by simp; omega)
  have hkb : Hid (keyB ⟨name, key, fields⟩ = (decide (0 ≤ fieldIx ⟨name, key, fields⟩ key) && keyOkF (fieldOr ⟨name, key, fields⟩ key))) := by
    show _ = _
    by_cases h : 0 ≤ fieldIx ⟨name, key, fields⟩ key <;> simp [keyB, hke, fieldOr, h]
  cases hix : decide (0 ≤ fieldIx ⟨name, key, fields⟩ key)
  · rw [hix] at hff
    go_enter Tryz.func61, Tryz.ntmps61
    go_wp2_with (go_at_call 87; refine (hff _).mono ?_; rintro e w1 ⟨nm, of, l, m, fr, hi, sh, na, nl, nc, rfl, hb1, hf1⟩)
    go_ret
    exact ⟨ret_bool (by rw [hkb.out, hix]; rfl), ((below_box w _).trans (hb1.mono (by simp))).alloc (by have := hb1.size; simp at this; omega) _⟩
  · rw [hix] at hff
    go_enter Tryz.func61, Tryz.ntmps61
    go_wp2_with (first
      | (
        go_at_call 87
        refine (hff _).mono ?_
        rintro e w1 ⟨nm, of, l, m, fr, hi, sh, na, nl, nc, rfl, hb1, hf1⟩)
      | (
        go_at_call 67
        refine (marksOf_any _ _ _ _ _ _ _ _ _ _ _).mono ?_
        rintro e w2 ⟨rfl, hb2⟩)
      | (
        go_at_call 88
        refine (canBeKey_any _ _ _ _ _ _ _ _ _ _ _).mono ?_
        rintro e w3 ⟨rfl, hb3⟩))
    go_ret
    obtain ⟨-, rfl, rfl, rfl, rfl, rfl, rfl, rfl, -⟩ := hf1.vals
    have z1 := hb1.size
    simp at z1
    have z2 := hb2.size
    simp at z2
    refine ⟨ret_bool ?_, ((((below_box w _).trans (hb1.mono (by simp))).alloc (by omega) _).trans (hb2.mono (by simp; omega))).trans (hb3.mono (by omega))⟩
    rw [hkb.out, hix]
    simp only [keyOkF, Bool.true_and]
    generalize fieldOr ⟨name, key, fields⟩ key = f
    cases f.list <;> cases f.must <;> cases f.far <;> cases f.hidden <;> simp
end Go.Proofs.YtelggammjejobaaGreat

namespace Go.Proofs.YtelggammjejobaaGreat
set_option linter.unusedSimpArgs false
set_option linter.unusedVariables false
open Go.RowKit

/-- Behind the one ahead. -/
def ascAt (ns : List ByteArray) (i : Nat) : Bool := i == 0 || Op.bytesLess (nth ns (i - 1)).toList (nth ns i).toList
def ascTo (ns : List ByteArray) (n : Nat) : Bool := (List.range n).all fun i => ascAt ns i
theorem ascTo_succ (ns : List ByteArray) (n : Nat) : ascTo ns (n + 1) = (ascTo ns n && ascAt ns n) := by simp [ascTo, List.range_succ]
theorem all_false {q : Nat → Bool} {n k : Nat} (hk : k < n) (h : q k = false) : (List.range n).all q = false := by
  cases e : (List.range n).all q
  · rfl
  · rw [List.all_eq_true] at e
    have := e k (by simpa using hk)
    rw [h] at this; cases this
/-- There, and one that may be needed. -/
def thereAt (t : T) (ns : List ByteArray) (i : Nat) : Bool := decide (0 ≤ fieldIx t (nth ns i)) && needed (fieldOr t (nth ns i))
def thereTo (t : T) (ns : List ByteArray) (n : Nat) : Bool := (List.range n).all fun i => thereAt t ns i
theorem thereTo_succ (t : T) (ns : List ByteArray) (n : Nat) : thereTo t ns (n + 1) = (thereTo t ns n && thereAt t ns n) := by simp [thereTo, List.range_succ]
theorem needTo_split (t : T) (f : F) : ∀ n, needTo t f n = (ascTo f.needs n && thereTo t f.needs n)
  | 0 => rfl
  | n + 1 => by
    rw [needTo_succ, ascTo_succ, thereTo_succ, needTo_split t f n]
    have : needAt t f n = (ascAt f.needs n && thereAt t f.needs n) := by
      by_cases h : 0 ≤ fieldIx t (nth f.needs n)
      · simp only [needAt, ascAt, thereAt, fieldOr, h, if_true, decide_true, Bool.true_and]
        rw [Bool.and_comm]
      · simp [needAt, ascAt, thereAt, h]
    rw [this]
    cases ascTo f.needs n <;> cases thereTo t f.needs n <;> cases ascAt f.needs n <;> cases thereAt t f.needs n <;> rfl

set_option maxHeartbeats 400000 in
theorem ascending_any (ns : List ByteArray) (a : Option Addr) (c : Nat) (w : World) (P : Nat → Prop) (hS : Strs w P ns a) (hc : ns.length ≤ c) :
    Calls Tryz.prog 91 #[.slice a ns.length c] w fun e w' => e = .returned (.bool (ascTo ns ns.length)) ∧ Below w.heap.size w w' := by
  obtain ⟨h1, h2, h3⟩ := hS
  unfold maxLen at h3
  by_cases hn0 : ns.length ≤ 1
  · have hE : Hid (ascTo ns ns.length = true) := by
      show _ = _
      have : ns.length = 0 ∨ ns.length = 1 := by omega
      rcases this with e | e <;> rw [e] <;> rfl
    go_enter Tryz.func91, Tryz.ntmps91
    go_wp2_with fail
    go_loop [3] (fun i => i = .int .i64 1) (fun _ => 0)
    case atStart => rfl
    case round =>
      subst hrel
      go_wp2_with fail
      go_ret
      exact ⟨ret_bool hE.out.symm, Below.refl _ _⟩
  · obtain ⟨b, off, rfl, _, hcc⟩ := h1 (by intro e; simp [e] at hn0)
    clear h1 h2
    go_enter Tryz.func91, Tryz.ntmps91
    go_wp2_with fail
    go_loopw [3] (fun i wr => ∃ k m : Nat, 1 ≤ k ∧ k ≤ ns.length ∧ i = .int .i64 k ∧ wr = w.drewN m ∧ ascTo ns k = true) (fun i _ => ns.length - (intOf i).toNat)
    case atStart => exact ⟨1, 0, by omega, by omega, rfl, rfl, rfl⟩
    case round =>
      obtain ⟨k, m, hk1, hk, rfl, rfl, hp⟩ := hrel
      have HP : Hid (ascTo ns k = true) := hp
      clear hp
      by_cases hlt : k < ns.length
      · obtain ⟨j, rfl⟩ : ∃ j, k = j + 1 := ⟨k - 1, by omega⟩
        have hck := hcc (j + 1) hlt
        have hcj := hcc j (by omega)
        have hki : ((j + 1 : Nat) : Int) < (ns.length : Int) := by omega
        have hkj : (j : Int) < (ns.length : Int) := by omega
        have hsub : ((j + 1 : Nat) : Int) - 1 = (j : Int) := by omega
        clear hcc
        cases he : Op.bytesLess (nth ns j).toList (nth ns (j + 1)).toList
        · have hres : Hid (ascTo ns ns.length = false) := all_false (k := j + 1) hlt (by simp [ascAt, he])
          go_wp2_with fail
          go_quiet (fail)
          go_wp2_with fail
          go_ret
          exact ⟨ret_bool hres.out.symm, below_drews (below_drews (Below.refl _ _) _) _⟩
        · go_wp2_with fail
          go_quiet (fail)
          go_wp2_with fail
          go_roundw
          case rel => exact ⟨j + 1 + 1, _, by omega, by omega, by go_num, rfl, by rw [ascTo_succ, HP.out]; simp [ascAt, he]⟩
          case measure => simp [intOf]; omega
      · go_wp2_with fail
        go_ret
        have e : k = ns.length := by omega
        exact ⟨ret_bool (by rw [← e, HP.out]), below_drews (Below.refl _ _) _⟩

theorem needed_vals {w : World} {P : Nat → Prop} {f : F} {nm of : ByteArray} {l m fr hi sh : Bool} {na : Option Addr} {nl nc : Nat} (h : FRep w P f (.agg #[.string nm, .string of, .bool l, .bool m, .bool fr, .bool hi, .bool sh, .slice na nl nc])) :
    (isT of [105, 110, 116] && (nl : Int) == 0 && !l) = needed f := by
  obtain ⟨-, rfl, rfl, rfl, rfl, rfl, rfl, rfl, -⟩ := h.vals
  rw [needed]
  have : ((f.needs.length : Int) == 0) = !decide (0 < (f.needs.length : Int)) := by
    rw [Bool.eq_iff_iff]
    simp only [beq_iff_eq, Bool.not_eq_true', decide_eq_false_iff_not]
    omega
  rw [this]
  cases isT f.of [105, 110, 116] <;> cases decide (0 < (f.needs.length : Int)) <;> cases f.list <;> rfl

set_option maxHeartbeats 800000 in
theorem there_any (t : T) (ns : List ByteArray) (a : Option Addr) (c : Nat) (w : World) (B : Nat) (v : Value) (hR : TRep w (· < B) t v) (hS : Strs w (· < B) ns a) (hc : ns.length ≤ c) (hB : B ≤ w.heap.size) :
    Calls Tryz.prog 92 #[v, .slice a ns.length c] w fun e w' => e = .returned (.bool (thereTo t ns ns.length)) ∧ Below w.heap.size w w' := by
  have hR' := hR
  obtain ⟨name, key, fields⟩ := t
  obtain ⟨fa, fc, rfl, hK, hnc, hn, ho⟩ := hR
  simp only at hK hnc hn ho
  clear hK
  obtain ⟨h1, h2, h3⟩ := hS
  unfold maxLen at h3
  go_enter Tryz.func92, Tryz.ntmps92
  go_wp2_with fail
  go_loopw [11] (fun i wr => ∃ k : Nat, k ≤ ns.length ∧ i = .int .i64 k ∧ Below (w.heap.size + 1) (w.alloc (.cells #[.string name, .string key, .slice fa fields.length fc] 54)) wr ∧ thereTo ⟨name, key, fields⟩ ns k = true) (fun i _ => ns.length - (intOf i).toNat)
  case atStart => exact ⟨0, Nat.zero_le _, rfl, Below.refl _ _, rfl⟩
  case round =>
    obtain ⟨k, hk, rfl, hbel, hp⟩ := hrel
    have HP : Hid (thereTo ⟨name, key, fields⟩ ns k = true) := hp
    clear hp
    have hz := hbel.size
    simp at hz
    have hbw : Below w.heap.size w wr := (below_box w _).trans (hbel.mono (by omega))
    have hcell : ∀ i (hi : i < 3), wr.cell? ⟨w.heap.size, i, none⟩ = some #[Value.string name, .string key, .slice fa fields.length fc][i] := fun i hi => (hbel.cell (p := ⟨w.heap.size, i, none⟩) (by show w.heap.size < _; omega)).trans (box_new _ _ i (by simpa using hi))
    have p0 : wr.cell? ⟨w.heap.size, 0, none⟩ = some (.string name) := hcell 0 (by omega)
    have p1 : wr.cell? ⟨w.heap.size, 1, none⟩ = some (.string key) := hcell 1 (by omega)
    have p2 : wr.cell? ⟨w.heap.size, 2, none⟩ = some (.slice fa fields.length fc) := hcell 2 (by omega)
    clear hcell
    by_cases hlt : k < ns.length
    · obtain ⟨d, doff, rfl, hdB, hcc⟩ := h1 (by intro e; simp [e] at hlt)
      have hck : wr.cell? ⟨d, doff + k, none⟩ = some (.string (nth ns k)) := (hbw.cell (p := ⟨d, doff + k, none⟩) (by show d < _; omega)).trans (hcc k hlt)
      clear hcc h1 h2
      have hff := findField_any ⟨name, key, fields⟩ wr B _ (nth ns k) (hR'.under (hbw.mono hB)) (by omega)
      cases hix : decide (0 ≤ fieldIx ⟨name, key, fields⟩ (nth ns k))
      · rw [hix] at hff
        have hres : Hid (thereTo ⟨name, key, fields⟩ ns ns.length = false) := all_false (k := k) hlt (by simp only [thereAt, hix]; rfl)
        go_wp2_with (go_at_call 87; refine hff.mono ?_; rintro e w1 ⟨nm, of, l, m, fr, hi, sh, na, nl, nc, rfl, hb1, hf1⟩)
        go_ret
        exact ⟨ret_bool hres.out.symm, (hbw.trans (hb1.mono (by omega))).alloc (by have := hb1.size; omega) _⟩
      · rw [hix] at hff
        have hat : Hid (thereAt ⟨name, key, fields⟩ ns k = needed (fieldOr ⟨name, key, fields⟩ (nth ns k))) := by show _ = _; simp only [thereAt, hix]; rfl
        cases hnd : needed (fieldOr ⟨name, key, fields⟩ (nth ns k))
        · have hres : Hid (thereTo ⟨name, key, fields⟩ ns ns.length = false) := all_false (k := k) hlt (by rw [hat.out, hnd])
          go_wp2_with (first
            | (
              go_at_call 87
              refine hff.mono ?_
              rintro e w1 ⟨nm, of, l, m, fr, hi, sh, na, nl, nc, rfl, hb1, hf1⟩
              have hv : (isT of [105, 110, 116] && (nl : Int) == 0 && !l) = needed (fieldOr ⟨name, key, fields⟩ (nth ns k)) := needed_vals hf1
              rw [hnd] at hv)
            | (
              go_at_call 67
              refine (marksOf_any _ _ _ _ _ _ _ _ _ _ _).mono ?_
              rintro e w2 ⟨rfl, hb2⟩)
            | (
              go_at_call 106
              have hcb := canBeNeeded_any nm of l m fr hi sh na nl nc w2
              rw [hv] at hcb
              refine hcb.mono ?_
              rintro e w3 ⟨rfl, hb3⟩))
          have z1 := hb1.size
          have z2 := hb2.size
          simp at z2
          go_ret
          exact ⟨ret_bool hres.out.symm, (((hbw.trans (hb1.mono (by omega))).alloc (by omega) _).trans (hb2.mono (by simp; omega))).trans (hb3.mono (by omega))⟩
        · go_wp2_with (first
            | (
              go_at_call 87
              refine hff.mono ?_
              rintro e w1 ⟨nm, of, l, m, fr, hi, sh, na, nl, nc, rfl, hb1, hf1⟩
              have hv : (isT of [105, 110, 116] && (nl : Int) == 0 && !l) = needed (fieldOr ⟨name, key, fields⟩ (nth ns k)) := needed_vals hf1
              rw [hnd] at hv)
            | (
              go_at_call 67
              refine (marksOf_any _ _ _ _ _ _ _ _ _ _ _).mono ?_
              rintro e w2 ⟨rfl, hb2⟩)
            | (
              go_at_call 106
              have hcb := canBeNeeded_any nm of l m fr hi sh na nl nc w2
              rw [hv] at hcb
              refine hcb.mono ?_
              rintro e w3 ⟨rfl, hb3⟩))
          have z1 := hb1.size
          have z2 := hb2.size
          simp at z2
          go_roundw
          case rel => exact ⟨k + 1, by omega, by go_num, (((hbel.trans (hb1.mono (by omega))).alloc (by omega) _).trans (hb2.mono (by simp; omega))).trans (hb3.mono (by omega)), by rw [thereTo_succ, HP.out, hat.out, hnd]; rfl⟩
          case measure => simp [intOf]; omega
    · go_wp2_with fail
      go_ret
      have e : k = ns.length := by omega
      exact ⟨ret_bool (by rw [← e, HP.out]), hbw⟩

/-- What is asked of a field's needs. -/
def needOkF (t : T) (f : F) : Bool := needsB t f && !(f.far && f.shared)
def needOkTo (t : T) (n : Nat) : Bool := (List.range n).all fun i => needOkF t (fth t.fields i)
theorem needOkTo_succ (t : T) (n : Nat) : needOkTo t (n + 1) = (needOkTo t n && needOkF t (fth t.fields n)) := by simp [needOkTo, List.range_succ]

set_option maxHeartbeats 1600000 in
theorem needsRight_any (t : T) (w : World) (B : Nat) (v : Value) (hR : TRep w (· < B) t v) (hB : B ≤ w.heap.size) :
    Calls Tryz.prog 62 #[v] w fun e w' => e = .returned (.bool (needOkTo t t.fields.length)) ∧ Below w.heap.size w w' := by
  have hR' := hR
  obtain ⟨name, key, fields⟩ := t
  obtain ⟨fa, fc, rfl, hK, hnc, hn, ho⟩ := hR
  simp only at hK hnc hn ho
  have h3 := hK.1
  obtain ⟨-, C, hA, hr⟩ := hK
  go_enter Tryz.func62, Tryz.ntmps62
  go_wp2_with fail
  go_loopw [9] (fun i wr => ∃ k : Nat, k ≤ fields.length ∧ i = .int .i64 k ∧ Below (w.heap.size + 1) (w.alloc (.cells #[.string name, .string key, .slice fa fields.length fc] 54)) wr ∧ needOkTo ⟨name, key, fields⟩ k = true) (fun i _ => fields.length - (intOf i).toNat)
  case atStart => exact ⟨0, Nat.zero_le _, rfl, Below.refl _ _, rfl⟩
  case round =>
    obtain ⟨k, hk, rfl, hbel, hp⟩ := hrel
    have HP : Hid (needOkTo ⟨name, key, fields⟩ k = true) := hp
    clear hp
    have hz := hbel.size
    simp at hz
    have hbw : Below w.heap.size w wr := (below_box w _).trans (hbel.mono (by omega))
    by_cases hlt : k < fields.length
    · obtain ⟨b, off, rfl, hbB, hc⟩ := hA (by omega)
      have hck : ∀ j, j < 8 → wr.cell? ⟨b, off + k * 8 + j, none⟩ = some (C k j) := fun j hj => (hbw.cell (p := ⟨b, off + k * 8 + j, none⟩) (by show b < _; omega)).trans (hc k hlt j hj)
      obtain ⟨e0, e1, e2, e3, e4, e5, e6, na, nc, e7, hS, hnc2, -, -⟩ := (hr k hlt).parts
      have c0 : wr.cell? ⟨b, off + k * 8, none⟩ = some (C k 0) := hck 0 (by omega)
      have c1 := hck 1 (by omega)
      have c2 := hck 2 (by omega)
      have c3 := hck 3 (by omega)
      have c4 := hck 4 (by omega)
      have c5 := hck 5 (by omega)
      have c6 := hck 6 (by omega)
      have c7 := hck 7 (by omega)
      rw [e0] at c0
      rw [e1] at c1
      rw [e2] at c2
      rw [e3] at c3
      rw [e4] at c4
      rw [e5] at c5
      rw [e6] at c6
      rw [e7] at c7
      clear hck hc hr hA e0 e1 e2 e3 e4 e5 e6 e7
      have hno := needOkTo_succ ⟨name, key, fields⟩ k
      have hnf := fun h => all_false (q := fun i => needOkF ⟨name, key, fields⟩ (fth fields i)) (n := fields.length) (k := k) hlt h
      rw [HP.out] at hno
      have HNO : Hid (needOkTo ⟨name, key, fields⟩ (k + 1) = (true && needOkF ⟨name, key, fields⟩ (fth fields k))) := hno
      have HNF : Hid (needOkF ⟨name, key, fields⟩ (fth fields k) = false → needOkTo ⟨name, key, fields⟩ fields.length = false) := hnf
      clear hno hnf
      generalize fth fields k = f at *
      obtain ⟨fn, of, l, m, fr, hi, sh, needs⟩ := f
      simp only at c0 c1 c2 c3 c4 c5 c6 c7 hS hnc2
      have BF : ∀ W, Below (wr.heap.size + 1) (wr.alloc (.cells #[.string fn, .string of, .bool l, .bool m, .bool fr, .bool hi, .bool sh, .slice na needs.length nc] 73)) W → W.cell? ⟨w.heap.size, 0, none⟩ = some (.string name) ∧ W.cell? ⟨w.heap.size, 1, none⟩ = some (.string key) ∧ W.cell? ⟨w.heap.size, 2, none⟩ = some (.slice (some ⟨b, off, none⟩) fields.length fc) ∧ W.cell? ⟨wr.heap.size, 7, none⟩ = some (.slice na needs.length nc) ∧ Below w.heap.size w W ∧ Below (w.heap.size + 1) (w.alloc (.cells #[.string name, .string key, .slice (some ⟨b, off, none⟩) fields.length fc] 54)) W ∧ w.heap.size < W.heap.size := fun W h => by
        have hw2 : Below (w.heap.size + 1) (w.alloc (.cells #[.string name, .string key, .slice (some ⟨b, off, none⟩) fields.length fc] 54)) W := hbel.trans (((below_box wr _).trans (h.mono (by omega))).mono (by omega))
        have hcell : ∀ i (hi : i < 3), W.cell? ⟨w.heap.size, i, none⟩ = some #[Value.string name, .string key, .slice (some ⟨b, off, none⟩) fields.length fc][i] := fun i hi => (hw2.cell (p := ⟨w.heap.size, i, none⟩) (by show w.heap.size < _; omega)).trans (box_new _ _ i (by simpa using hi))
        have hz2 := h.size
        simp at hz2
        exact ⟨hcell 0 (by omega), hcell 1 (by omega), hcell 2 (by omega), (h.cell (p := ⟨wr.heap.size, 7, none⟩) (by show wr.heap.size < _; omega)).trans (box_new _ _ 7 (by simp)), (below_box w _).trans (hw2.mono (by omega)), hw2, by omega⟩
      have h20 := fun w => hasAll_any (bitsF l m fr hi sh) 20 w
      rw [bits_farsh] at h20
      have hcn := fun w => canNeed_any fn of l m fr hi sh na needs.length nc name key (some ⟨b, off, none⟩) fields.length fc w
      have hasc := fun W (h : Below (wr.heap.size + 1) (wr.alloc (.cells #[.string fn, .string of, .bool l, .bool m, .bool fr, .bool hi, .bool sh, .slice na needs.length nc] 73)) W) => ascending_any needs na nc W (· < B) (hS.under ((BF W h).2.2.2.2.1.mono hB)) hnc2
      have hthr := fun W (h : Below (wr.heap.size + 1) (wr.alloc (.cells #[.string fn, .string of, .bool l, .bool m, .bool fr, .bool hi, .bool sh, .slice na needs.length nc] 73)) W) => there_any ⟨name, key, fields⟩ needs na nc W B _ (hR'.under ((BF W h).2.2.2.2.1.mono hB)) (hS.under ((BF W h).2.2.2.2.1.mono hB)) hnc2 (by have := (BF W h).2.2.2.2.2.2; omega)
      have HOK : Hid (needOkF ⟨name, key, fields⟩ ⟨fn, of, l, m, fr, hi, sh, needs⟩ = ((needs.isEmpty || (isT of [105, 110, 116] && !(l || fr || m) && !key.toList.isEmpty && !(fn.toList == key.toList))) && (ascTo needs needs.length && thereTo ⟨name, key, fields⟩ needs needs.length) && !(fr && sh))) := by
        show _ = _
        simp only [needOkF, needsB, needTo_split, needHead]
        cases isT of [105, 110, 116] <;> cases l <;> cases fr <;> cases m <;> simp
      cases x1 : (fr && sh)
      rotate_left
      · rw [x1] at h20
        have hres : Hid (needOkTo ⟨name, key, fields⟩ fields.length = false) := HNF.out (by rw [HOK.out, x1]; simp)
        go_wp2_with (first
          | (
            go_at_call 67
            refine (marksOf_any _ _ _ _ _ _ _ _ _ _ _).mono ?_
            rintro e w1 ⟨rfl, hb1⟩
            have hA1 : Below (wr.heap.size + 1) (wr.alloc (.cells #[.string fn, .string of, .bool l, .bool m, .bool fr, .bool hi, .bool sh, .slice na needs.length nc] 73)) w1 := by simpa using hb1
            have B2 := fun o => BF (w1.alloc o) (hA1.alloc (by have := hA1.size; simpa using this) o)
            have p0 := fun o => (B2 o).1
            have p1 := fun o => (B2 o).2.1
            have p2 := fun o => (B2 o).2.2.1
            have p7 := fun o => (B2 o).2.2.2.1
            have z1 := hA1.size
            simp at z1)
          | (
            go_at_call 89
            refine (h20 _).mono ?_
            rintro e w' ⟨rfl, rfl⟩)
          | (
            go_at_call 90
            refine (hcn _).mono ?_
            rintro e w3 ⟨rfl, hb3⟩
            have hA3 := (hA1.alloc (by omega) _).trans (hb3.mono (by simp; omega))
            obtain ⟨q0, q1, q2, q7, -⟩ := BF w3 hA3)
          | (
            go_at_call 91
            first
              | (
                refine (hasc w3 hA3).mono ?_
                rintro e w4 ⟨rfl, hb4⟩
                have hA4 := hA3.trans (hb4.mono (by have := hA3.size; simpa using this))
                obtain ⟨r0, r1, r2, r7, -⟩ := BF w4 hA4)
              | (
                refine (hasc (w1.alloc _) (hA1.alloc (by omega) _)).mono ?_
                rintro e w4 ⟨rfl, hb4⟩
                have hA4 := (hA1.alloc (by omega) _).trans (hb4.mono (by simp; omega))
                obtain ⟨r0, r1, r2, r7, -⟩ := BF w4 hA4))
          | (
            go_at_call 92
            refine (hthr w4 hA4).mono ?_
            rintro e w5 ⟨rfl, hb5⟩
            have hA5 := hA4.trans (hb5.mono (by have := hA4.size; simpa using this))))
        go_ret
        exact ⟨ret_bool hres.out.symm, (B2 _).2.2.2.2.1⟩
      rw [x1] at h20
      by_cases hne : needs.length = 0
      · have hn1 : decide (0 < needs.length) = false := decide_eq_false (by omega)
        have hn2 : decide (0 < (needs.length : Int)) = false := decide_eq_false (by omega)
        have hea : ascTo needs needs.length = true := by rw [hne]; rfl
        have het : thereTo ⟨name, key, fields⟩ needs needs.length = true := by rw [hne]; rfl
        have hnext : Hid (needOkTo ⟨name, key, fields⟩ (k + 1) = true) := by
          show _ = _
          rw [HNO.out, HOK.out, hea, het, x1]
          have : needs = [] := List.eq_nil_of_length_eq_zero hne
          simp [this]
        rw [hea] at hasc
        rw [het] at hthr
        clear hea het hne
        go_wp2_with (first
          | (
            go_at_call 67
            refine (marksOf_any _ _ _ _ _ _ _ _ _ _ _).mono ?_
            rintro e w1 ⟨rfl, hb1⟩
            have hA1 : Below (wr.heap.size + 1) (wr.alloc (.cells #[.string fn, .string of, .bool l, .bool m, .bool fr, .bool hi, .bool sh, .slice na needs.length nc] 73)) w1 := by simpa using hb1
            have B2 := fun o => BF (w1.alloc o) (hA1.alloc (by have := hA1.size; simpa using this) o)
            have p0 := fun o => (B2 o).1
            have p1 := fun o => (B2 o).2.1
            have p2 := fun o => (B2 o).2.2.1
            have p7 := fun o => (B2 o).2.2.2.1
            have z1 := hA1.size
            simp at z1)
          | (
            go_at_call 89
            refine (h20 _).mono ?_
            rintro e w' ⟨rfl, rfl⟩)
          | (
            go_at_call 90
            refine (hcn _).mono ?_
            rintro e w3 ⟨rfl, hb3⟩
            have hA3 := (hA1.alloc (by omega) _).trans (hb3.mono (by simp; omega))
            obtain ⟨q0, q1, q2, q7, -⟩ := BF w3 hA3)
          | (
            go_at_call 91
            first
              | (
                refine (hasc w3 hA3).mono ?_
                rintro e w4 ⟨rfl, hb4⟩
                have hA4 := hA3.trans (hb4.mono (by have := hA3.size; simpa using this))
                obtain ⟨r0, r1, r2, r7, -⟩ := BF w4 hA4)
              | (
                refine (hasc (w1.alloc _) (hA1.alloc (by omega) _)).mono ?_
                rintro e w4 ⟨rfl, hb4⟩
                have hA4 := (hA1.alloc (by omega) _).trans (hb4.mono (by simp; omega))
                obtain ⟨r0, r1, r2, r7, -⟩ := BF w4 hA4))
          | (
            go_at_call 92
            refine (hthr w4 hA4).mono ?_
            rintro e w5 ⟨rfl, hb5⟩
            have hA5 := hA4.trans (hb5.mono (by have := hA4.size; simpa using this))))
        go_roundw
        case rel => exact ⟨k + 1, by omega, by go_num, (BF w5 hA5).2.2.2.2.2.1, hnext.out⟩
        case measure => simp [intOf]; omega
      have hn1 : decide (0 < needs.length) = true := decide_eq_true (by omega)
      have hn2 : decide (0 < (needs.length : Int)) = true := decide_eq_true (by omega)
      have hemp : Hid (needs.isEmpty = false) := by
        show _ = _
        rw [List.isEmpty_eq_false_iff]
        intro e
        exact hne (by rw [e]; rfl)
      cases x2 : (isT of [105, 110, 116] && !(l || fr || m) && !key.toList.isEmpty && !(fn.toList == key.toList))
      · rw [x2] at hcn
        have hres : Hid (needOkTo ⟨name, key, fields⟩ fields.length = false) := HNF.out (by rw [HOK.out, x2, hemp.out]; rfl)
        go_wp2_with (first
          | (
            go_at_call 67
            refine (marksOf_any _ _ _ _ _ _ _ _ _ _ _).mono ?_
            rintro e w1 ⟨rfl, hb1⟩
            have hA1 : Below (wr.heap.size + 1) (wr.alloc (.cells #[.string fn, .string of, .bool l, .bool m, .bool fr, .bool hi, .bool sh, .slice na needs.length nc] 73)) w1 := by simpa using hb1
            have B2 := fun o => BF (w1.alloc o) (hA1.alloc (by have := hA1.size; simpa using this) o)
            have p0 := fun o => (B2 o).1
            have p1 := fun o => (B2 o).2.1
            have p2 := fun o => (B2 o).2.2.1
            have p7 := fun o => (B2 o).2.2.2.1
            have z1 := hA1.size
            simp at z1)
          | (
            go_at_call 89
            refine (h20 _).mono ?_
            rintro e w' ⟨rfl, rfl⟩)
          | (
            go_at_call 90
            refine (hcn _).mono ?_
            rintro e w3 ⟨rfl, hb3⟩
            have hA3 := (hA1.alloc (by omega) _).trans (hb3.mono (by simp; omega))
            obtain ⟨q0, q1, q2, q7, -⟩ := BF w3 hA3)
          | (
            go_at_call 91
            first
              | (
                refine (hasc w3 hA3).mono ?_
                rintro e w4 ⟨rfl, hb4⟩
                have hA4 := hA3.trans (hb4.mono (by have := hA3.size; simpa using this))
                obtain ⟨r0, r1, r2, r7, -⟩ := BF w4 hA4)
              | (
                refine (hasc (w1.alloc _) (hA1.alloc (by omega) _)).mono ?_
                rintro e w4 ⟨rfl, hb4⟩
                have hA4 := (hA1.alloc (by omega) _).trans (hb4.mono (by simp; omega))
                obtain ⟨r0, r1, r2, r7, -⟩ := BF w4 hA4))
          | (
            go_at_call 92
            refine (hthr w4 hA4).mono ?_
            rintro e w5 ⟨rfl, hb5⟩
            have hA5 := hA4.trans (hb5.mono (by have := hA4.size; simpa using this))))
        go_ret
        exact ⟨ret_bool hres.out.symm, (BF w3 hA3).2.2.2.2.1⟩
      rw [x2] at hcn
      cases x3 : ascTo needs needs.length
      · rw [x3] at hasc
        have hres : Hid (needOkTo ⟨name, key, fields⟩ fields.length = false) := HNF.out (by rw [HOK.out, x3]; simp)
        go_wp2_with (first
          | (
            go_at_call 67
            refine (marksOf_any _ _ _ _ _ _ _ _ _ _ _).mono ?_
            rintro e w1 ⟨rfl, hb1⟩
            have hA1 : Below (wr.heap.size + 1) (wr.alloc (.cells #[.string fn, .string of, .bool l, .bool m, .bool fr, .bool hi, .bool sh, .slice na needs.length nc] 73)) w1 := by simpa using hb1
            have B2 := fun o => BF (w1.alloc o) (hA1.alloc (by have := hA1.size; simpa using this) o)
            have p0 := fun o => (B2 o).1
            have p1 := fun o => (B2 o).2.1
            have p2 := fun o => (B2 o).2.2.1
            have p7 := fun o => (B2 o).2.2.2.1
            have z1 := hA1.size
            simp at z1)
          | (
            go_at_call 89
            refine (h20 _).mono ?_
            rintro e w' ⟨rfl, rfl⟩)
          | (
            go_at_call 90
            refine (hcn _).mono ?_
            rintro e w3 ⟨rfl, hb3⟩
            have hA3 := (hA1.alloc (by omega) _).trans (hb3.mono (by simp; omega))
            obtain ⟨q0, q1, q2, q7, -⟩ := BF w3 hA3)
          | (
            go_at_call 91
            first
              | (
                refine (hasc w3 hA3).mono ?_
                rintro e w4 ⟨rfl, hb4⟩
                have hA4 := hA3.trans (hb4.mono (by have := hA3.size; simpa using this))
                obtain ⟨r0, r1, r2, r7, -⟩ := BF w4 hA4)
              | (
                refine (hasc (w1.alloc _) (hA1.alloc (by omega) _)).mono ?_
                rintro e w4 ⟨rfl, hb4⟩
                have hA4 := (hA1.alloc (by omega) _).trans (hb4.mono (by simp; omega))
                obtain ⟨r0, r1, r2, r7, -⟩ := BF w4 hA4))
          | (
            go_at_call 92
            refine (hthr w4 hA4).mono ?_
            rintro e w5 ⟨rfl, hb5⟩
            have hA5 := hA4.trans (hb5.mono (by have := hA4.size; simpa using this))))
        go_ret
        exact ⟨ret_bool hres.out.symm, (BF w4 hA4).2.2.2.2.1⟩
      rw [x3] at hasc
      cases x4 : thereTo ⟨name, key, fields⟩ needs needs.length
      · rw [x4] at hthr
        have hres : Hid (needOkTo ⟨name, key, fields⟩ fields.length = false) := HNF.out (by rw [HOK.out, x4]; simp)
        go_wp2_with (first
          | (
            go_at_call 67
            refine (marksOf_any _ _ _ _ _ _ _ _ _ _ _).mono ?_
            rintro e w1 ⟨rfl, hb1⟩
            have hA1 : Below (wr.heap.size + 1) (wr.alloc (.cells #[.string fn, .string of, .bool l, .bool m, .bool fr, .bool hi, .bool sh, .slice na needs.length nc] 73)) w1 := by simpa using hb1
            have B2 := fun o => BF (w1.alloc o) (hA1.alloc (by have := hA1.size; simpa using this) o)
            have p0 := fun o => (B2 o).1
            have p1 := fun o => (B2 o).2.1
            have p2 := fun o => (B2 o).2.2.1
            have p7 := fun o => (B2 o).2.2.2.1
            have z1 := hA1.size
            simp at z1)
          | (
            go_at_call 89
            refine (h20 _).mono ?_
            rintro e w' ⟨rfl, rfl⟩)
          | (
            go_at_call 90
            refine (hcn _).mono ?_
            rintro e w3 ⟨rfl, hb3⟩
            have hA3 := (hA1.alloc (by omega) _).trans (hb3.mono (by simp; omega))
            obtain ⟨q0, q1, q2, q7, -⟩ := BF w3 hA3)
          | (
            go_at_call 91
            first
              | (
                refine (hasc w3 hA3).mono ?_
                rintro e w4 ⟨rfl, hb4⟩
                have hA4 := hA3.trans (hb4.mono (by have := hA3.size; simpa using this))
                obtain ⟨r0, r1, r2, r7, -⟩ := BF w4 hA4)
              | (
                refine (hasc (w1.alloc _) (hA1.alloc (by omega) _)).mono ?_
                rintro e w4 ⟨rfl, hb4⟩
                have hA4 := (hA1.alloc (by omega) _).trans (hb4.mono (by simp; omega))
                obtain ⟨r0, r1, r2, r7, -⟩ := BF w4 hA4))
          | (
            go_at_call 92
            refine (hthr w4 hA4).mono ?_
            rintro e w5 ⟨rfl, hb5⟩
            have hA5 := hA4.trans (hb5.mono (by have := hA4.size; simpa using this))))
        go_ret
        exact ⟨ret_bool hres.out.symm, (BF w5 hA5).2.2.2.2.1⟩
      · rw [x4] at hthr
        have hnext : Hid (needOkTo ⟨name, key, fields⟩ (k + 1) = true) := by
          show _ = _
          rw [HNO.out, HOK.out, x2, x3, x4, x1]
          simp
        go_wp2_with (first
          | (
            go_at_call 67
            refine (marksOf_any _ _ _ _ _ _ _ _ _ _ _).mono ?_
            rintro e w1 ⟨rfl, hb1⟩
            have hA1 : Below (wr.heap.size + 1) (wr.alloc (.cells #[.string fn, .string of, .bool l, .bool m, .bool fr, .bool hi, .bool sh, .slice na needs.length nc] 73)) w1 := by simpa using hb1
            have B2 := fun o => BF (w1.alloc o) (hA1.alloc (by have := hA1.size; simpa using this) o)
            have p0 := fun o => (B2 o).1
            have p1 := fun o => (B2 o).2.1
            have p2 := fun o => (B2 o).2.2.1
            have p7 := fun o => (B2 o).2.2.2.1
            have z1 := hA1.size
            simp at z1)
          | (
            go_at_call 89
            refine (h20 _).mono ?_
            rintro e w' ⟨rfl, rfl⟩)
          | (
            go_at_call 90
            refine (hcn _).mono ?_
            rintro e w3 ⟨rfl, hb3⟩
            have hA3 := (hA1.alloc (by omega) _).trans (hb3.mono (by simp; omega))
            obtain ⟨q0, q1, q2, q7, -⟩ := BF w3 hA3)
          | (
            go_at_call 91
            first
              | (
                refine (hasc w3 hA3).mono ?_
                rintro e w4 ⟨rfl, hb4⟩
                have hA4 := hA3.trans (hb4.mono (by have := hA3.size; simpa using this))
                obtain ⟨r0, r1, r2, r7, -⟩ := BF w4 hA4)
              | (
                refine (hasc (w1.alloc _) (hA1.alloc (by omega) _)).mono ?_
                rintro e w4 ⟨rfl, hb4⟩
                have hA4 := (hA1.alloc (by omega) _).trans (hb4.mono (by simp; omega))
                obtain ⟨r0, r1, r2, r7, -⟩ := BF w4 hA4))
          | (
            go_at_call 92
            refine (hthr w4 hA4).mono ?_
            rintro e w5 ⟨rfl, hb5⟩
            have hA5 := hA4.trans (hb5.mono (by have := hA4.size; simpa using this))))
        go_roundw
        case rel => exact ⟨k + 1, by omega, by go_num, (BF w5 hA5).2.2.2.2.2.1, hnext.out⟩
        case measure => simp [intOf]; omega
    · go_wp2_with fail
      go_ret
      have e : k = fields.length := by omega
      exact ⟨ret_bool (by rw [← HP.out, e]), hbw⟩
end Go.Proofs.YtelggammjejobaaGreat

namespace Go.Proofs.YtelggammjejobaaGreat
set_option linter.unusedSimpArgs false
set_option linter.unusedVariables false
open Go.RowKit

/-- A field of a list, in whatever later world. -/
theorem FsRep.at {w : World} {B : Nat} {fs : List F} {fa : Option Addr} (h : FsRep w (· < B) fs fa) (hB : B ≤ w.heap.size) (k : Nat) (hk : k < fs.length) : ∃ (b off : Nat) (na : Option Addr) (nc : Nat), fa = some ⟨b, off, none⟩ ∧
    FRep w (· < B) (fth fs k) (.agg #[.string (fth fs k).name, .string (fth fs k).of, .bool (fth fs k).list, .bool (fth fs k).must, .bool (fth fs k).far, .bool (fth fs k).hidden, .bool (fth fs k).shared, .slice na (fth fs k).needs.length nc]) ∧
    ∀ W, Below w.heap.size w W → W.cell? ⟨b, off + k * 8, none⟩ = some (.string (fth fs k).name) ∧ W.cell? ⟨b, off + k * 8 + 1, none⟩ = some (.string (fth fs k).of) ∧ W.cell? ⟨b, off + k * 8 + 2, none⟩ = some (.bool (fth fs k).list) ∧ W.cell? ⟨b, off + k * 8 + 3, none⟩ = some (.bool (fth fs k).must) ∧ W.cell? ⟨b, off + k * 8 + 4, none⟩ = some (.bool (fth fs k).far) ∧ W.cell? ⟨b, off + k * 8 + 5, none⟩ = some (.bool (fth fs k).hidden) ∧ W.cell? ⟨b, off + k * 8 + 6, none⟩ = some (.bool (fth fs k).shared) ∧ W.cell? ⟨b, off + k * 8 + 7, none⟩ = some (.slice na (fth fs k).needs.length nc) := by
  obtain ⟨-, C, hA, hr⟩ := h
  obtain ⟨b, off, rfl, hbB, hc⟩ := hA (by omega)
  have hkt := hr k hk
  obtain ⟨e0, e1, e2, e3, e4, e5, e6, na, nc, e7, -⟩ := (hr k hk).parts
  rw [e0, e1, e2, e3, e4, e5, e6, e7] at hkt
  refine ⟨b, off, na, nc, rfl, hkt, fun W hb => ?_⟩
  have hck : ∀ j, j < 8 → W.cell? ⟨b, off + k * 8 + j, none⟩ = some (C k j) := fun j hj => (hb.cell (p := ⟨b, off + k * 8 + j, none⟩) (by show b < _; omega)).trans (hc k hk j hj)
  have c0 : W.cell? ⟨b, off + k * 8, none⟩ = some (C k 0) := hck 0 (by omega)
  rw [c0, hck 1 (by omega), hck 2 (by omega), hck 3 (by omega), hck 4 (by omega), hck 5 (by omega), hck 6 (by omega), hck 7 (by omega), e0, e1, e2, e3, e4, e5, e6, e7]
  exact ⟨rfl, rfl, rfl, rfl, rfl, rfl, rfl, rfl⟩

def namesTo (ns : List ByteArray) (n : Nat) : Bool := (List.range n).all fun i => nameB (nth ns i)
theorem namesTo_succ (ns : List ByteArray) (n : Nat) : namesTo ns (n + 1) = (namesTo ns n && nameB (nth ns n)) := by simp [namesTo, List.range_succ]
/-- A field's names. -/
def fieldNamesB (f : F) : Bool := nameB f.name && (scalarB f.of || nameB f.of) && namesTo f.needs f.needs.length

set_option maxHeartbeats 800000 in
theorem isFieldOfNames_any (f : F) (w : World) (B : Nat) (v : Value) (hR : FRep w (· < B) f v) (hB : B ≤ w.heap.size) :
    Calls Tryz.prog 86 #[v] w fun e w' => e = .returned (.bool (fieldNamesB f)) ∧ Below w.heap.size w w' := by
  obtain ⟨fn, of, l, m, fr, hi, sh, needs⟩ := f
  obtain ⟨na, nc, rfl, hS, hnc, hsn, hso, hb16⟩ := hR
  simp only at hS hnc hsn hso hb16
  have hN1 := fun w => isName_any fn w hsn
  have hL := fun w => isLeaf_any of w
  have hN2 := fun w => isName_any of w hso
  have HF : Hid (fieldNamesB ⟨fn, of, l, m, fr, hi, sh, needs⟩ = (nameB fn && (scalarB of || nameB of) && namesTo needs needs.length)) := rfl
  obtain ⟨h1, h2, h3⟩ := hS
  have h3' := h3
  unfold maxLen at h3'
  cases x1 : nameB fn
  · rw [x1] at hN1
    go_enter Tryz.func86, Tryz.ntmps86
    go_wp2_with (go_at_call_of 33 (Value.string fn); refine (hN1 _).mono ?_; rintro e w' ⟨rfl, rfl⟩)
    go_ret
    exact ⟨ret_bool (by rw [HF.out, x1]; rfl), below_box _ _⟩
  rw [x1] at hN1
  cases x2 : (scalarB of || nameB of)
  · have hs : scalarB of = false := by cases h : scalarB of <;> simp_all
    have hn : nameB of = false := by cases h : nameB of <;> simp_all
    rw [hs] at hL
    rw [hn] at hN2
    go_enter Tryz.func86, Tryz.ntmps86
    go_wp2_with (first | (go_at_call_of 33 (Value.string fn); refine (hN1 _).mono ?_; rintro e w' ⟨rfl, rfl⟩) | (go_at_call 85; refine (hL _).mono ?_; rintro e w' ⟨rfl, rfl⟩) | (go_at_call_of 33 (Value.string of); refine (hN2 _).mono ?_; rintro e w' ⟨rfl, rfl⟩))
    go_ret
    exact ⟨ret_bool (by rw [HF.out, x2]; simp), below_box _ _⟩
  have HE : Hid (fieldNamesB ⟨fn, of, l, m, fr, hi, sh, needs⟩ = namesTo needs needs.length) := by show _ = _; rw [HF.out, x1, x2]; rfl
  have key : ∀ b1 b2 : Bool, scalarB of = b1 → (b1 = false → nameB of = b2 ∧ b2 = true) → Calls Tryz.prog 86 #[.agg #[.string fn, .string of, .bool l, .bool m, .bool fr, .bool hi, .bool sh, .slice na needs.length nc]] w fun e w' => e = .returned (.bool (fieldNamesB ⟨fn, of, l, m, fr, hi, sh, needs⟩)) ∧ Below w.heap.size w w' := by
    intro b1 b2 hb1 hb2
    rw [hb1] at hL
    cases b1
    all_goals
      first | (obtain ⟨hn2, rfl⟩ := hb2 rfl; rw [hn2] at hN2; clear hn2) | skip
      clear hb2
      go_enter Tryz.func86, Tryz.ntmps86
      go_wp2_with (first | (go_at_call_of 33 (Value.string fn); refine (hN1 _).mono ?_; rintro e w' ⟨rfl, rfl⟩) | (go_at_call 85; refine (hL _).mono ?_; rintro e w' ⟨rfl, rfl⟩) | (go_at_call_of 33 (Value.string of); refine (hN2 _).mono ?_; rintro e w' ⟨rfl, rfl⟩))
      go_loop [24] (fun i => ∃ k : Nat, k ≤ needs.length ∧ i = .int .i64 k ∧ namesTo needs k = true) (fun i => needs.length - (intOf i).toNat)
      case atStart => exact ⟨0, Nat.zero_le _, rfl, rfl⟩
      case round =>
        obtain ⟨k, hk, rfl, hp⟩ := hrel
        have HP : Hid (namesTo needs k = true) := hp
        clear hp
        by_cases hlt : k < needs.length
        · obtain ⟨d, doff, rfl, hdB, hcc⟩ := h1 (by intro e; simp [e] at hlt)
          have hck : ∀ o, (w.alloc o).cell? ⟨d, doff + k, none⟩ = some (.string (nth needs k)) := fun o => ((below_box w o).cell (p := ⟨d, doff + k, none⟩) (by show d < _; omega)).trans (hcc k hlt)
          have hNk := fun w => isName_any (nth needs k) w (h2 k)
          clear hcc h1
          cases x3 : nameB (nth needs k)
          · rw [x3] at hNk
            have hres : Hid (namesTo needs needs.length = false) := all_false (k := k) hlt x3
            go_wp2_with (go_at_call 33; refine (hNk _).mono ?_; rintro e w' ⟨rfl, rfl⟩)
            go_ret
            exact ⟨ret_bool (by rw [HE.out, hres.out]), below_box _ _⟩
          · rw [x3] at hNk
            go_wp2_with (go_at_call 33; refine (hNk _).mono ?_; rintro e w' ⟨rfl, rfl⟩)
            go_round
            case rel => exact ⟨k + 1, by omega, by go_num, by rw [namesTo_succ, HP.out, x3]; rfl⟩
            case measure => simp [intOf]; omega
        · go_wp2_with fail
          go_ret
          have e : k = needs.length := by omega
          exact ⟨ret_bool (by rw [HE.out, ← e, HP.out]), below_box _ _⟩
  exact key (scalarB of) (nameB of) rfl fun h => ⟨rfl, by rw [h] at x2; simpa using x2⟩

def fieldsNamesTo (fs : List F) (n : Nat) : Bool := (List.range n).all fun i => fieldNamesB (fth fs i)
theorem fieldsNamesTo_succ (fs : List F) (n : Nat) : fieldsNamesTo fs (n + 1) = (fieldsNamesTo fs n && fieldNamesB (fth fs n)) := by simp [fieldsNamesTo, List.range_succ]

/-- Nothing of a type is of this word. -/
def rootTo (fs : List F) (n : Nat) : Bool := (List.range n).all fun i => !isT (fth fs i).of [113, 117, 101, 114, 121]
theorem rootTo_succ (fs : List F) (n : Nat) : rootTo fs (n + 1) = (rootTo fs n && !isT (fth fs n).of [113, 117, 101, 114, 121]) := by simp [rootTo, List.range_succ]

set_option maxHeartbeats 800000 in
theorem isTypeOfRoot_any (t : T) (w : World) (B : Nat) (v : Value) (hR : TRep w (· < B) t v) (hB : B ≤ w.heap.size) :
    Calls Tryz.prog 63 #[v] w fun e w' => e = .returned (.bool (!rootTo t.fields t.fields.length)) ∧ Below w.heap.size w w' := by
  obtain ⟨name, key, fields⟩ := t
  obtain ⟨fa, fc, rfl, hK, hnc, hn, ho⟩ := hR
  simp only at hK hnc hn ho ⊢
  have h3 := hK.1
  go_enter Tryz.func63, Tryz.ntmps63
  go_wp2_with fail
  go_loopw [8] (fun i wr => ∃ k : Nat, k ≤ fields.length ∧ i = .int .i64 k ∧ Below w.heap.size w wr ∧ rootTo fields k = true) (fun i _ => fields.length - (intOf i).toNat)
  case atStart => exact ⟨0, Nat.zero_le _, rfl, below_box _ _, rfl⟩
  case round =>
    obtain ⟨k, hk, rfl, hbw, hp⟩ := hrel
    have HP : Hid (rootTo fields k = true) := hp
    clear hp
    have hz := hbw.size
    by_cases hlt : k < fields.length
    · obtain ⟨b, off, na, nc, rfl, -, hcs⟩ := hK.at hB k hlt
      obtain ⟨c0, c1, c2, c3, c4, c5, c6, c7⟩ := hcs wr hbw
      clear hcs
      cases x1 : ((fth fields k).of.toList == [113, 117, 101, 114, 121])
      · go_wp2_with fail
        go_roundw
        case rel => exact ⟨k + 1, by omega, by go_num, hbw.alloc hz _, by rw [rootTo_succ, HP.out]; simp [isT, x1]⟩
        case measure => simp [intOf]; omega
      · have hres : Hid (rootTo fields fields.length = false) := all_false (k := k) hlt (by simp [isT, x1])
        go_wp2_with fail
        go_ret
        exact ⟨ret_bool (by rw [hres.out]; rfl), hbw.alloc hz _⟩
    · go_wp2_with fail
      go_ret
      have e : k = fields.length := by omega
      exact ⟨ret_bool (by rw [← e, HP.out]; rfl), hbw⟩
end Go.Proofs.YtelggammjejobaaGreat

namespace Go.Proofs.YtelggammjejobaaGreat
set_option linter.unusedSimpArgs false
set_option linter.unusedVariables false
open Go.RowKit

/-- A type's names, and how many fields it has. -/
def typeNamesB (t : T) : Bool := nameB t.name && (t.key.toList.isEmpty || nameB t.key) && decide (0 < t.fields.length) && decide (t.fields.length ≤ 8) && fieldsNamesTo t.fields t.fields.length

set_option maxHeartbeats 1600000 in
theorem isTypeOfNames_any (t : T) (w : World) (B : Nat) (v : Value) (hR : TRep w (· < B) t v) (hB : B ≤ w.heap.size) :
    Calls Tryz.prog 58 #[v] w fun e w' => e = .returned (.bool (typeNamesB t)) ∧ Below w.heap.size w w' := by
  obtain ⟨name, key, fields⟩ := t
  obtain ⟨fa, fc, rfl, hK, hnc, hn, ho⟩ := hR
  simp only at hK hnc hn ho
  have h3 := hK.1
  have hN1 := fun w => isName_any name w hn
  have hN2 := fun w => isName_any key w ho
  have HT : Hid (typeNamesB ⟨name, key, fields⟩ = (nameB name && (key.toList.isEmpty || nameB key) && decide (0 < fields.length) && decide (fields.length ≤ 8) && fieldsNamesTo fields fields.length)) := rfl
  cases x1 : nameB name
  · rw [x1] at hN1
    go_enter Tryz.func58, Tryz.ntmps58
    go_wp2_with (go_at_call_of 33 (Value.string name); refine (hN1 _).mono ?_; rintro e w' ⟨rfl, rfl⟩)
    go_ret
    exact ⟨ret_bool (by rw [HT.out, x1]; rfl), below_box _ _⟩
  rw [x1] at hN1
  -- with a key that is a name, or without one
  have key2 : ∀ b1 : Bool, key.toList.isEmpty = b1 → (b1 = false → nameB key = true) → Calls Tryz.prog 58 #[.agg #[.string name, .string key, .slice fa fields.length fc]] w fun e w' => e = .returned (.bool (typeNamesB ⟨name, key, fields⟩)) ∧ Below w.heap.size w w' := by
    intro b1 hb1 hb2
    have HE : Hid (typeNamesB ⟨name, key, fields⟩ = (decide (0 < fields.length) && decide (fields.length ≤ 8) && fieldsNamesTo fields fields.length)) := by
      show _ = _
      rw [HT.out, x1, hb1]
      cases b1
      · rw [hb2 rfl]; rfl
      · rfl
    have key3 : ∀ (hlen : 0 < fields.length ∧ fields.length ≤ 8 ∨ ¬ (0 < fields.length ∧ fields.length ≤ 8)), Calls Tryz.prog 58 #[.agg #[.string name, .string key, .slice fa fields.length fc]] w fun e w' => e = .returned (.bool (typeNamesB ⟨name, key, fields⟩)) ∧ Below w.heap.size w w' := by
      intro hlen
      rcases hlen with hlen | hlen
      · have d1 : ((fields.length : Int) == 0) = false := by simp; intro e; simp [e] at hlen
        have d2 : decide ((8 : Int) < (fields.length : Int)) = false := decide_eq_false (by omega)
        have d3 : decide (8 < fields.length) = false := decide_eq_false (by omega)
        have HE2 : Hid (typeNamesB ⟨name, key, fields⟩ = fieldsNamesTo fields fields.length) := by
          show _ = _
          rw [HE.out, decide_eq_true hlen.1, decide_eq_true hlen.2]; rfl
        cases b1
        all_goals
          first | (have hb3 := hb2 rfl; rw [hb3] at hN2; clear hb3) | skip
          clear hb2
          go_enter Tryz.func58, Tryz.ntmps58
          go_wp2_with (first | (go_at_call_of 33 (Value.string name); refine (hN1 _).mono ?_; rintro e w' ⟨rfl, rfl⟩) | (go_at_call_of 33 (Value.string key); refine (hN2 _).mono ?_; rintro e w' ⟨rfl, rfl⟩))
          go_loopw [33] (fun i wr => ∃ k : Nat, k ≤ fields.length ∧ i = .int .i64 k ∧ Below w.heap.size w wr ∧ fieldsNamesTo fields k = true) (fun i _ => fields.length - (intOf i).toNat)
          case atStart => exact ⟨0, Nat.zero_le _, rfl, below_box _ _, rfl⟩
          case round =>
            obtain ⟨k, hk, rfl, hbw, hp⟩ := hrel
            have HP : Hid (fieldsNamesTo fields k = true) := hp
            clear hp
            have hz := hbw.size
            by_cases hlt : k < fields.length
            · obtain ⟨b, off, na, nc, rfl, hfr, hcs⟩ := hK.at hB k hlt
              obtain ⟨c0, c1, c2, c3, c4, c5, c6, c7⟩ := hcs wr hbw
              have hFN := fun o => isFieldOfNames_any (fth fields k) (wr.alloc o) B _ (hfr.under ((hbw.alloc hz o).mono hB)) (by simp; omega)
              clear hcs
              cases x3 : fieldNamesB (fth fields k)
              · rw [x3] at hFN
                have hres : Hid (fieldsNamesTo fields fields.length = false) := all_false (k := k) hlt x3
                go_wp2_with (go_at_call 86; refine (hFN _).mono ?_; rintro e w1 ⟨rfl, hb1'⟩)
                go_ret
                exact ⟨ret_bool (by rw [HE2.out, hres.out]), (hbw.alloc hz _).trans (hb1'.mono (by simp; omega))⟩
              · rw [x3] at hFN
                go_wp2_with (go_at_call 86; refine (hFN _).mono ?_; rintro e w1 ⟨rfl, hb1'⟩)
                go_roundw
                case rel => exact ⟨k + 1, by omega, by go_num, (hbw.alloc hz _).trans (hb1'.mono (by simp; omega)), by rw [fieldsNamesTo_succ, HP.out, x3]; rfl⟩
                case measure => simp [intOf]; omega
            · go_wp2_with fail
              go_ret
              have e : k = fields.length := by omega
              exact ⟨ret_bool (by rw [HE2.out, ← e, HP.out]), hbw⟩
      · have HE2 : Hid (typeNamesB ⟨name, key, fields⟩ = false) := by
          show _ = _
          rw [HE.out]
          by_cases h0 : 0 < fields.length
          · have : ¬ fields.length ≤ 8 := fun h => hlen ⟨h0, h⟩
            simp [this]
          · simp [h0]
        have dd : ((fields.length : Int) == 0) = true ∨ ((fields.length : Int) == 0) = false ∧ decide ((8 : Int) < (fields.length : Int)) = true := by
          by_cases h0 : fields.length = 0
          · left; simp; exact List.eq_nil_of_length_eq_zero h0
          · right
            refine ⟨by simp; intro e; simp [e] at h0, decide_eq_true ?_⟩
            have : ¬ fields.length ≤ 8 := fun h => hlen ⟨by omega, h⟩
            omega
        clear hlen
        rcases dd with d1 | ⟨d1, d2⟩
        all_goals
          cases b1
          all_goals
            first | (have hb3 := hb2 rfl; rw [hb3] at hN2; clear hb3) | skip
            clear hb2
            go_enter Tryz.func58, Tryz.ntmps58
            go_wp2_with (first | (go_at_call_of 33 (Value.string name); refine (hN1 _).mono ?_; rintro e w' ⟨rfl, rfl⟩) | (go_at_call_of 33 (Value.string key); refine (hN2 _).mono ?_; rintro e w' ⟨rfl, rfl⟩))
            go_ret
            exact ⟨ret_bool HE2.out.symm, below_box _ _⟩
    exact key3 (Classical.em _)
  cases x2 : key.toList.isEmpty
  · cases x3 : nameB key
    · rw [x3] at hN2
      go_enter Tryz.func58, Tryz.ntmps58
      go_wp2_with (first | (go_at_call_of 33 (Value.string name); refine (hN1 _).mono ?_; rintro e w' ⟨rfl, rfl⟩) | (go_at_call_of 33 (Value.string key); refine (hN2 _).mono ?_; rintro e w' ⟨rfl, rfl⟩))
      go_ret
      exact ⟨ret_bool (by rw [HT.out, x2, x3]; simp), below_box _ _⟩
    · exact key2 false x2 fun _ => x3
  · exact key2 true x2 fun h => by cases h
end Go.Proofs.YtelggammjejobaaGreat

namespace Go.Proofs.YtelggammjejobaaGreat
set_option linter.unusedSimpArgs false
set_option linter.unusedVariables false
open Go.RowKit

/-- A type of a list, in whatever later world. -/
theorem TsRep.at {w : World} {B : Nat} {ts : List T} {ta : Option Addr} (h : TsRep w (· < B) ts ta) (hB : B ≤ w.heap.size) (k : Nat) (hk : k < ts.length) : ∃ (b off : Nat) (fa : Option Addr) (fc : Nat), ta = some ⟨b, off, none⟩ ∧
    TRep w (· < B) (tth ts k) (.agg #[.string (tth ts k).name, .string (tth ts k).key, .slice fa (tth ts k).fields.length fc]) ∧
    ∀ W, Below w.heap.size w W → W.cell? ⟨b, off + k * 3, none⟩ = some (.string (tth ts k).name) ∧ W.cell? ⟨b, off + k * 3 + 1, none⟩ = some (.string (tth ts k).key) ∧ W.cell? ⟨b, off + k * 3 + 2, none⟩ = some (.slice fa (tth ts k).fields.length fc) := by
  obtain ⟨-, C, hA, hr⟩ := h
  obtain ⟨b, off, rfl, hbB, hc⟩ := hA (by omega)
  have hkt := hr k hk
  obtain ⟨fa, fc, e0, e1, e2, -⟩ := (hr k hk).parts
  rw [e0, e1, e2] at hkt
  refine ⟨b, off, fa, fc, rfl, hkt, fun W hb => ?_⟩
  have hck : ∀ j, j < 3 → W.cell? ⟨b, off + k * 3 + j, none⟩ = some (C k j) := fun j hj => (hb.cell (p := ⟨b, off + k * 3 + j, none⟩) (by show b < _; omega)).trans (hc k hk j hj)
  have c0 : W.cell? ⟨b, off + k * 3, none⟩ = some (C k 0) := hck 0 (by omega)
  rw [c0, hck 1 (by omega), hck 2 (by omega), e0, e1, e2]
  exact ⟨rfl, rfl, rfl⟩

/-- What a field is of is there. -/
def knownF (p : Pt) (f : F) : Bool := decide (0 ≤ typeIx p f.of) || scalarB f.of
def knownTo (p : Pt) (fs : List F) (n : Nat) : Bool := (List.range n).all fun i => knownF p (fth fs i)
theorem knownTo_succ (p : Pt) (fs : List F) (n : Nat) : knownTo p fs (n + 1) = (knownTo p fs n && knownF p (fth fs n)) := by simp [knownTo, List.range_succ]

set_option maxHeartbeats 1600000 in
theorem isTypeKnown_any (p : Pt) (t : T) (w : World) (B : Nat) (v u : Value) (hP : PRep w (· < B) p v) (hR : TRep w (· < B) t u) (hB : B ≤ w.heap.size) :
    Calls Tryz.prog 60 #[v, u] w fun e w' => e = .returned (.bool (knownTo p t.fields t.fields.length)) ∧ Below w.heap.size w w' := by
  have hP' := hP
  obtain ⟨pname, types⟩ := p
  obtain ⟨ta, tc, rfl, -, -, -⟩ := hP
  obtain ⟨name, key, fields⟩ := t
  obtain ⟨fa, fc, rfl, hK, hnc, hn, ho⟩ := hR
  simp only at hK hnc hn ho hP' ⊢
  have h3 := hK.1
  go_enter Tryz.func60, Tryz.ntmps60
  go_wp2_with fail
  go_loopw [12] (fun i wr => ∃ k : Nat, k ≤ fields.length ∧ i = .int .i64 k ∧ Below (w.heap.size + 1) (w.alloc (.cells #[.string pname, .slice ta types.length tc] 31)) wr ∧ w.heap.size < wr.heap.size ∧ knownTo ⟨pname, types⟩ fields k = true) (fun i _ => fields.length - (intOf i).toNat)
  case atStart => exact ⟨0, Nat.zero_le _, rfl, (Below.refl _ _).alloc (by simp) _, by simp; omega, rfl⟩
  case round =>
    obtain ⟨k, hk, rfl, hbel, hz, hp⟩ := hrel
    have HP : Hid (knownTo ⟨pname, types⟩ fields k = true) := hp
    clear hp
    have hbw : Below w.heap.size w wr := (below_box w _).trans (hbel.mono (by omega))
    have hcell : ∀ W, Below (w.heap.size + 1) (w.alloc (.cells #[.string pname, .slice ta types.length tc] 31)) W → W.cell? ⟨w.heap.size, 0, none⟩ = some (.string pname) ∧ W.cell? ⟨w.heap.size, 1, none⟩ = some (.slice ta types.length tc) := fun W h =>
      ⟨(h.cell (p := ⟨w.heap.size, 0, none⟩) (by show w.heap.size < _; omega)).trans (box_new _ _ 0 (by simp)), (h.cell (p := ⟨w.heap.size, 1, none⟩) (by show w.heap.size < _; omega)).trans (box_new _ _ 1 (by simp))⟩
    by_cases hlt : k < fields.length
    · obtain ⟨b, off, na, nc, rfl, hfr, hcs⟩ := hK.at hB k hlt
      obtain ⟨c0, c1, c2, c3, c4, c5, c6, c7⟩ := hcs wr hbw
      have q := fun o => hcell (wr.alloc o) (hbel.alloc (by omega) o)
      have q0 := fun o => (q o).1
      have q1 := fun o => (q o).2
      have hft := fun o => findType_any ⟨pname, types⟩ (wr.alloc o) B _ (fth fields k).of (hP'.under ((hbw.alloc (by omega) o).mono hB)) (by simp; omega)
      have hL := fun w => isLeaf_any (fth fields k).of w
      have hB5 := fun w1 o (hb1 : Below (wr.alloc o).heap.size (wr.alloc o) w1) => (hb1.cell (p := ⟨wr.heap.size, 1, none⟩) (by show wr.heap.size < _; simp))
      clear hcs q
      have HK : Hid (knownF ⟨pname, types⟩ (fth fields k) = (decide (0 ≤ typeIx ⟨pname, types⟩ (fth fields k).of) || scalarB (fth fields k).of)) := rfl
      cases x1 : decide (0 ≤ typeIx ⟨pname, types⟩ (fth fields k).of)
      · rw [x1] at hft
        cases x2 : scalarB (fth fields k).of
        · rw [x2] at hL
          have hres : Hid (knownTo ⟨pname, types⟩ fields fields.length = false) := all_false (k := k) hlt (by rw [HK.out, x1, x2]; rfl)
          go_wp2_with (first
            | (
              go_at_call 38
              refine (hft _).mono ?_
              rintro e w1 ⟨nm, ky, fa2, fl2, fc2, rfl, hb1, -⟩
              have z1 := hb1.size
              simp at z1
              have g1 : ∀ o, (w1.alloc o).cell? ⟨wr.heap.size, 1, none⟩ = some (.string (fth fields k).of) := fun o => ((below_box w1 o).cell (p := ⟨wr.heap.size, 1, none⟩) (by show wr.heap.size < _; omega)).trans ((hB5 w1 _ hb1).trans (box_new _ _ 1 (by simp))))
            | (go_at_call 85; refine (hL _).mono ?_; rintro e w' ⟨rfl, rfl⟩))
          go_ret
          exact ⟨ret_bool hres.out.symm, ((hbw.alloc (by omega) _).trans (hb1.mono (by simp; omega))).alloc (by omega) _⟩
        · rw [x2] at hL
          go_wp2_with (first
            | (
              go_at_call 38
              refine (hft _).mono ?_
              rintro e w1 ⟨nm, ky, fa2, fl2, fc2, rfl, hb1, -⟩
              have z1 := hb1.size
              simp at z1
              have g1 : ∀ o, (w1.alloc o).cell? ⟨wr.heap.size, 1, none⟩ = some (.string (fth fields k).of) := fun o => ((below_box w1 o).cell (p := ⟨wr.heap.size, 1, none⟩) (by show wr.heap.size < _; omega)).trans ((hB5 w1 _ hb1).trans (box_new _ _ 1 (by simp))))
            | (go_at_call 85; refine (hL _).mono ?_; rintro e w' ⟨rfl, rfl⟩))
          go_roundw
          case rel => exact ⟨k + 1, by omega, by go_num, ((hbel.alloc (by omega) _).trans (hb1.mono (by simp; omega))).alloc (by omega) _, by simp; omega, by rw [knownTo_succ, HP.out, HK.out, x1, x2]; rfl⟩
          case measure => simp [intOf]; omega
      · rw [x1] at hft
        go_wp2_with (go_at_call 38; refine (hft _).mono ?_; rintro e w1 ⟨nm, ky, fa2, fl2, fc2, rfl, hb1, -⟩)
        have z1 := hb1.size
        simp at z1
        go_roundw
        case rel => exact ⟨k + 1, by omega, by go_num, ((hbel.alloc (by omega) _).trans (hb1.mono (by simp; omega))).alloc (by omega) _, by simp; omega, by rw [knownTo_succ, HP.out, HK.out, x1]; rfl⟩
        case measure => simp [intOf]; omega
    · go_wp2_with fail
      go_ret
      have e : k = fields.length := by omega
      exact ⟨ret_bool (by rw [← e, HP.out]), hbw⟩

/-- The first type is the root, without a key. -/
def hasRootB (p : Pt) : Bool := decide (0 < p.types.length) && isT (tth p.types 0).name [113, 117, 101, 114, 121] && (tth p.types 0).key.toList.isEmpty

set_option maxHeartbeats 800000 in
theorem hasRoot_any (p : Pt) (w : World) (B : Nat) (v : Value) (hP : PRep w (· < B) p v) (hB : B ≤ w.heap.size) :
    Calls Tryz.prog 34 #[v] w fun e w' => e = .returned (.bool (hasRootB p)) ∧ Below w.heap.size w w' := by
  obtain ⟨pname, types⟩ := p
  obtain ⟨ta, tc, rfl, hK, -, -⟩ := hP
  simp only at hK
  have h3 := hK.1
  by_cases h0 : 0 < types.length
  · have d1 : (0 : Int) < (types.length : Int) := by omega
    obtain ⟨b, off, fa, fc, rfl, -, hcs⟩ := hK.at hB 0 h0
    have q := fun o => hcs (w.alloc o) (below_box w o)
    have q0 : ∀ o, (w.alloc o).cell? ⟨b, off, none⟩ = some (.string (tth types 0).name) := fun o => by simpa using (q o).1
    have q1 : ∀ o, (w.alloc o).cell? ⟨b, off + 1, none⟩ = some (.string (tth types 0).key) := fun o => by simpa using (q o).2.1
    clear q hcs hK
    have HR : Hid (hasRootB ⟨pname, types⟩ = ((tth types 0).name.toList == [113, 117, 101, 114, 121] && (tth types 0).key.toList.isEmpty)) := by show _ = _; simp [hasRootB, isT, h0]
    cases x1 : ((tth types 0).name.toList == [113, 117, 101, 114, 121])
    · go_enter Tryz.func34, Tryz.ntmps34
      go_wp2_with fail
      go_ret
      exact ⟨ret_bool (by rw [HR.out, x1]; rfl), below_box _ _⟩
    · go_enter Tryz.func34, Tryz.ntmps34
      go_wp2_with fail
      go_ret
      exact ⟨ret_bool (by rw [HR.out, x1]; simp), below_box _ _⟩
  · have d1 : decide ((0 : Int) < (types.length : Int)) = false := decide_eq_false (by omega)
    have d2 : decide (0 < types.length) = false := decide_eq_false (by omega)
    have HR : Hid (hasRootB ⟨pname, types⟩ = false) := by show _ = _; simp only [hasRootB, d2, Bool.false_and]
    clear h0
    go_enter Tryz.func34, Tryz.ntmps34
    go_wp2_with fail
    go_ret
    exact ⟨ret_bool HR.out.symm, below_box _ _⟩
end Go.Proofs.YtelggammjejobaaGreat
