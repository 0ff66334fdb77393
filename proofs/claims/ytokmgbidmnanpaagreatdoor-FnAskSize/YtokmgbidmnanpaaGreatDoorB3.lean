import Derived.Test.YtokmgbidmnanpaaGreatDoorB2
import Derived.Shelf.Strings.Builder1
import Derived.Shelf.Strings.Builder2
import Derived.Shelf.Strings.OnBuilder
import Derived.Shelf.Strings.BuilderK
set_option linter.unusedSimpArgs false
set_option linter.unusedVariables false
namespace Go.Proofs.YtokmgbidmnanpaaGreatDoor
open Go.RowKit
def firstTo (p : Nat → Bool) (n : Nat) : Int := match (List.range n).find? p with
  | some i => i
  | none => -1
theorem firstTo_none {p : Nat → Bool} {n : Nat} (h : ∀ i, i < n → p i = false) : firstTo p n = -1 := by
  have : (List.range n).find? p = none := by
    rw [List.find?_eq_none]; intro i hi; simpa using h i (by simpa using hi)
  rw [firstTo, this]
theorem firstTo_hit {p : Nat → Bool} {n k : Nat} (h : ∀ i, i < k → p i = false) (hk : p k = true) (hn : k < n) : firstTo p n = k := by
  have : (List.range n).find? p = some k := by
    rw [List.find?_range_eq_some]
    exact ⟨hk, by simpa using hn, fun i hi => by simpa using h i hi⟩
  rw [firstTo, this]
theorem firstTo_cases (p : Nat → Bool) (n : Nat) : (firstTo p n = -1 ∧ ∀ i, i < n → p i = false) ∨ ∃ k : Nat, firstTo p n = k ∧ k < n ∧ p k = true ∧ ∀ i, i < k → p i = false := by
  cases h : (List.range n).find? p with
  | none =>
    left
    refine ⟨by rw [firstTo, h], fun i hi => ?_⟩
    rw [List.find?_eq_none] at h
    simpa using h i (by simpa using hi)
  | some k =>
    right
    rw [List.find?_range_eq_some] at h
    exact ⟨k, by rw [firstTo, List.find?_range_eq_some.2 h], by simpa using h.2.1, h.1, fun i hi => by simpa using h.2.2 i hi⟩
set_option maxHeartbeats 400000 in
theorem l2Type_any (p : Pt) (w : World) (B : Nat) (v : Value) (s : ByteArray) (hR : PRep w (· < B) p v) (hB : B ≤ w.heap.size) :
    Calls Tryz.prog 112 #[v, .string s] w fun e w' => e = .returned (.int .i64 (firstTo (fun i => (tth p.types i).name.toList == s.toList) p.types.length)) ∧ Below w.heap.size w w' := by
  obtain ⟨name, types⟩ := p
  obtain ⟨ta, tc, rfl, hK, hnc, hn⟩ := hR
  simp only at hK hnc hn ⊢
  have h3 := hK.1
  obtain ⟨-, C, hA, hr⟩ := hK
  by_cases hn0 : types.length = 0
  · go_enter Tryz.func112, Tryz.ntmps112
    go_wp2_with fail
    go_loop [5] (fun i => i = .int .i64 0) (fun _ => 0)
    case atStart => rfl
    case round =>
      subst hrel
      go_wp2_with fail
      go_ret
      exact ⟨ret_int (by first | rfl | (rw [hn0]; rfl)), below_box _ _⟩
  · obtain ⟨b, off, rfl, hbB, hc⟩ := hA (by omega)
    have hcell : ∀ k, k < types.length → ∀ o, (w.alloc o).cell? ⟨b, off + k * 3, none⟩ = some (.string (tth types k).name) := fun k hk o => by
      have h1 := hc k hk 0 (by omega)
      have h2 : C k 0 = .string (tth types k).name := by
        obtain ⟨x, y, hv, -⟩ := hr k hk
        simp only [Value.agg.injEq, Array.mk.injEq, List.cons.injEq] at hv
        exact hv.1
      rw [h2] at h1
      exact ((below_box w o).cell (p := ⟨b, off + k * 3, none⟩) (by show b < _; omega)).trans h1
    clear hc
    go_enter Tryz.func112, Tryz.ntmps112
    go_wp2_with fail
    go_loop [5] (fun i => ∃ k : Nat, k ≤ types.length ∧ i = .int .i64 k ∧ ∀ j, j < k → ((tth types j).name.toList == s.toList) = false) (fun i => types.length - (intOf i).toNat)
    case atStart => exact ⟨0, Nat.zero_le _, rfl, fun j hj => by omega⟩
    case round =>
      obtain ⟨k, hk, rfl, hp⟩ := hrel
      have HP : Hid (∀ j, j < k → ((tth types j).name.toList == s.toList) = false) := hp
      clear hp
      by_cases hlt : k < types.length
      · have hck := hcell k hlt
        clear hcell
        cases he : ((tth types k).name.toList == s.toList)
        · go_wp2_with fail
          go_round
          case rel => exact ⟨k + 1, by omega, by go_num, fun j hj => by by_cases e : j = k; · subst e; exact he
                                                                        · exact HP.out j (by omega)⟩
          case measure => simp [intOf]; omega
        · go_wp2_with fail
          go_ret
          exact ⟨ret_int (firstTo_hit HP.out he hlt).symm, below_box _ _⟩
      · go_wp2_with fail
        go_ret
        have e : k = types.length := by omega
        exact ⟨ret_int (firstTo_none (e ▸ HP.out)).symm, below_box _ _⟩
set_option maxHeartbeats 400000 in
theorem l2Field_any (t : T) (w : World) (B : Nat) (v : Value) (s : ByteArray) (hR : TRep w (· < B) t v) (hB : B ≤ w.heap.size) :
    Calls Tryz.prog 113 #[v, .string s] w fun e w' => e = .returned (.int .i64 (firstTo (fun i => (fth t.fields i).name.toList == s.toList) t.fields.length)) ∧ Below w.heap.size w w' := by
  obtain ⟨name, key, fields⟩ := t
  obtain ⟨ta, tc, rfl, hK, hnc, hn, ho⟩ := hR
  simp only at hK hnc hn ho ⊢
  have h3 := hK.1
  obtain ⟨-, C, hA, hr⟩ := hK
  by_cases hn0 : fields.length = 0
  · go_enter Tryz.func113, Tryz.ntmps113
    go_wp2_with fail
    go_loop [5] (fun i => i = .int .i64 0) (fun _ => 0)
    case atStart => rfl
    case round =>
      subst hrel
      go_wp2_with fail
      go_ret
      exact ⟨ret_int (by first | rfl | (rw [hn0]; rfl)), below_box _ _⟩
  · obtain ⟨b, off, rfl, hbB, hc⟩ := hA (by omega)
    have hcell : ∀ k, k < fields.length → ∀ o, (w.alloc o).cell? ⟨b, off + k * 8, none⟩ = some (.string (fth fields k).name) := fun k hk o => by
      have h1 := hc k hk 0 (by omega)
      have h2 : C k 0 = .string (fth fields k).name := by
        obtain ⟨x, y, hv, -⟩ := hr k hk
        simp only [Value.agg.injEq, Array.mk.injEq, List.cons.injEq] at hv
        exact hv.1
      rw [h2] at h1
      exact ((below_box w o).cell (p := ⟨b, off + k * 8, none⟩) (by show b < _; omega)).trans h1
    clear hc
    go_enter Tryz.func113, Tryz.ntmps113
    go_wp2_with fail
    go_loop [5] (fun i => ∃ k : Nat, k ≤ fields.length ∧ i = .int .i64 k ∧ ∀ j, j < k → ((fth fields j).name.toList == s.toList) = false) (fun i => fields.length - (intOf i).toNat)
    case atStart => exact ⟨0, Nat.zero_le _, rfl, fun j hj => by omega⟩
    case round =>
      obtain ⟨k, hk, rfl, hp⟩ := hrel
      have HP : Hid (∀ j, j < k → ((fth fields j).name.toList == s.toList) = false) := hp
      clear hp
      by_cases hlt : k < fields.length
      · have hck := hcell k hlt
        clear hcell
        cases he : ((fth fields k).name.toList == s.toList)
        · go_wp2_with fail
          go_round
          case rel => exact ⟨k + 1, by omega, by go_num, fun j hj => by by_cases e : j = k; · subst e; exact he
                                                                        · exact HP.out j (by omega)⟩
          case measure => simp [intOf]; omega
        · go_wp2_with fail
          go_ret
          exact ⟨ret_int (firstTo_hit HP.out he hlt).symm, below_box _ _⟩
      · go_wp2_with fail
        go_ret
        have e : k = fields.length := by omega
        exact ⟨ret_int (firstTo_none (e ▸ HP.out)).symm, below_box _ _⟩
end Go.Proofs.YtokmgbidmnanpaaGreatDoor
namespace Go.Proofs.YtokmgbidmnanpaaGreatDoor
open Go.RowKit
set_option maxHeartbeats 400000 in
theorem isLeaf_any (s : ByteArray) (w : World) :
    Calls Tryz.prog 108 #[.string s] w fun e w' => e = .returned (.bool (scalarB s)) ∧ w = w' := by
  cases h1 : (s.toList == [105, 110, 116]) <;> cases h2 : (s.toList == [116, 101, 120, 116]) <;>
  · go_enter Tryz.func108, Tryz.ntmps108
    go_wp2_with fail
    go_ret
    exact ⟨ret_bool (by simp only [scalarB, isT, h1, h2]; rfl), rfl⟩
def keptB (s : ByteArray) : Bool := isT s [112, 97, 114, 116] || isT s [116, 121, 112, 101] || isT s [107, 101, 121] || isT s [102, 97, 114] || isT s [104, 105, 100, 100, 101, 110] || isT s [115, 104, 97, 114, 101, 100] || isT s [110, 101, 101, 100, 115] || scalarB s
set_option maxHeartbeats 1600000 in
theorem isKept_any (s : ByteArray) (w : World) :
    Calls Tryz.prog 136 #[.string s] w fun e w' => e = .returned (.bool (keptB s)) ∧ w = w' := by
  cases k0 : (s.toList == [112, 97, 114, 116])
  case true =>
    go_enter Tryz.func136, Tryz.ntmps136
    go_wp2_with fail
    go_ret
    exact ⟨ret_bool (by simp [keptB, isT, k0]), rfl⟩
  cases k1 : (s.toList == [116, 121, 112, 101])
  case true =>
    go_enter Tryz.func136, Tryz.ntmps136
    go_wp2_with fail
    go_ret
    exact ⟨ret_bool (by simp [keptB, isT, k1]), rfl⟩
  cases k2 : (s.toList == [107, 101, 121])
  case true =>
    go_enter Tryz.func136, Tryz.ntmps136
    go_wp2_with fail
    go_ret
    exact ⟨ret_bool (by simp [keptB, isT, k2]), rfl⟩
  cases k3 : (s.toList == [102, 97, 114])
  case true =>
    go_enter Tryz.func136, Tryz.ntmps136
    go_wp2_with fail
    go_ret
    exact ⟨ret_bool (by simp [keptB, isT, k3]), rfl⟩
  cases k4 : (s.toList == [104, 105, 100, 100, 101, 110])
  case true =>
    go_enter Tryz.func136, Tryz.ntmps136
    go_wp2_with fail
    go_ret
    exact ⟨ret_bool (by simp [keptB, isT, k4]), rfl⟩
  cases k5 : (s.toList == [115, 104, 97, 114, 101, 100])
  case true =>
    go_enter Tryz.func136, Tryz.ntmps136
    go_wp2_with fail
    go_ret
    exact ⟨ret_bool (by simp [keptB, isT, k5]), rfl⟩
  cases k6 : (s.toList == [110, 101, 101, 100, 115])
  case true =>
    go_enter Tryz.func136, Tryz.ntmps136
    go_wp2_with fail
    go_ret
    exact ⟨ret_bool (by simp [keptB, isT, k6]), rfl⟩
  go_enter Tryz.func136, Tryz.ntmps136
  go_wp2_with (go_at_call 108; refine (isLeaf_any _ _).mono ?_; rintro e w' ⟨rfl, rfl⟩)
  go_ret
  exact ⟨ret_bool (by simp [keptB, isT, k0, k1, k2, k3, k4, k5, k6]), rfl⟩
theorem nameB_eq (s : ByteArray) : nameB s = (decide (s.size ≤ 8) && wordB s && !(byteAt s 0 == 95) && !keptB s) := by
  simp only [nameB, keptB]
  cases wordB s <;> cases decide (s.size ≤ 8) <;> cases (byteAt s 0 == 95) <;> cases scalarB s <;> simp [Bool.and_assoc]
set_option maxHeartbeats 1600000 in
theorem isName_any (s : ByteArray) (w : World) (hs : s.size ≤ maxLen) :
    Calls Tryz.prog 105 #[.string s] w fun e w' => e = .returned (.bool (nameB s)) ∧ w = w' := by
  rw [nameB_eq]
  have hcw := fun w => isWord_any s w hs
  have hck := fun w => isKept_any s w
  by_cases h8 : s.size ≤ 8
  case neg =>
    have h8' : ¬ (s.size : Int) ≤ 8 := by omega
    have h8d : decide ((s.size : Int) ≤ 8) = false := by simpa using h8'
    go_enter Tryz.func105, Tryz.ntmps105
    go_wp2_with fail
    go_ret
    exact ⟨ret_bool (by simp [h8]), rfl⟩
  have h8' : (s.size : Int) ≤ 8 := by omega
  have H8 : Hid (decide (s.size ≤ 8) = true) := by show _ = _; simpa using h8
  cases hw : wordB s
  · rw [hw] at hcw
    go_enter Tryz.func105, Tryz.ntmps105
    go_wp2_with (go_at_call 135; refine (hcw _).mono ?_; rintro e w' ⟨rfl, rfl⟩)
    go_ret
    exact ⟨ret_bool (by simp), rfl⟩
  rw [hw] at hcw
  have h1 : 0 < s.size := by
    rw [wordB] at hw; simp only [Bool.and_eq_true, decide_eq_true_eq] at hw; omega
  have hb0 := byteAt_get s 0 h1
  cases hu : (byteAt s 0 == 95)
  case true =>
    have hu' : (byteAt s 0 != 95) = false := by simp only [bne, hu]; rfl
    go_enter Tryz.func105, Tryz.ntmps105
    go_wp2_with (go_at_call 135; refine (hcw _).mono ?_; rintro e w' ⟨rfl, rfl⟩)
    go_ret
    exact ⟨ret_bool (by simp), rfl⟩
  have hu' : (byteAt s 0 != 95) = true := by simp only [bne, hu]; rfl
  cases hk : keptB s
  all_goals
    rw [hk] at hck
    go_enter Tryz.func105, Tryz.ntmps105
    go_wp2_with (first | (go_at_call 135; refine (hcw _).mono ?_; rintro e w' ⟨rfl, rfl⟩) | (go_at_call 136; refine (hck _).mono ?_; rintro e w' ⟨rfl, rfl⟩))
    go_ret
    exact ⟨ret_bool (by simp [H8.out]), rfl⟩
end Go.Proofs.YtokmgbidmnanpaaGreatDoor
namespace Go.Proofs.YtokmgbidmnanpaaGreatDoor
open Go.RowKit
theorem FRep.parts {w : World} {P : Nat → Prop} {f : F} {c0 c1 c2 c3 c4 c5 c6 c7 : Value} (h : FRep w P f (.agg #[c0, c1, c2, c3, c4, c5, c6, c7])) :
    c0 = .string f.name ∧ c1 = .string f.of ∧ c2 = .bool f.list ∧ c3 = .bool f.must ∧ c4 = .bool f.far ∧ c5 = .bool f.hidden ∧ c6 = .bool f.shared ∧ ∃ na nc, c7 = .slice na f.needs.length nc ∧ Strs w P f.needs na ∧ f.needs.length ≤ nc ∧ f.name.size ≤ maxLen ∧ f.of.size ≤ maxLen := by
  obtain ⟨na, nc, hv, h2, h3, h4, h5, -⟩ := h
  simp only [Value.agg.injEq, Array.mk.injEq, List.cons.injEq, and_true] at hv
  obtain ⟨e0, e1, e2, e3, e4, e5, e6, e7⟩ := hv
  exact ⟨e0, e1, e2, e3, e4, e5, e6, na, nc, e7, h2, h3, h4, h5⟩
def fieldIx (t : T) (s : ByteArray) : Int := firstTo (fun i => (fth t.fields i).name.toList == s.toList) t.fields.length
def keyOkF (f : F) : Bool := isT f.of [105, 110, 116] && !f.list && f.must && !f.far && !f.hidden && (f.needs.length : Int) == 0
def keyB (t : T) : Bool := t.key.toList.isEmpty || (decide (0 ≤ fieldIx t t.key) && keyOkF (fth t.fields (fieldIx t t.key).toNat))
set_option maxHeartbeats 1600000 in
theorem l2Key_any (t : T) (w : World) (B : Nat) (v : Value) (hR : TRep w (· < B) t v) (hB : B ≤ w.heap.size) :
    Calls Tryz.prog 120 #[v] w fun e w' => e = .returned (.bool (keyB t)) ∧ Below w.heap.size w w' := by
  have hR' := hR
  obtain ⟨name, key, fields⟩ := t
  obtain ⟨fa, fc, rfl, hK, hnc, hn, ho⟩ := hR
  simp only at hK hnc hn ho
  cases hke : key.toList.isEmpty
  case true =>
    go_enter Tryz.func120, Tryz.ntmps120
    go_wp2_with fail
    go_ret
    exact ⟨ret_bool (by simp [keyB, hke]), below_box _ _⟩
  have hcall : ∀ o, Calls Tryz.prog 113 #[.agg #[.string name, .string key, .slice fa fields.length fc], .string key] (w.alloc o) fun e w' => e = .returned (.int .i64 (fieldIx ⟨name, key, fields⟩ key)) ∧ Below (w.alloc o).heap.size (w.alloc o) w' := fun o =>
    l2Field_any ⟨name, key, fields⟩ (w.alloc o) B _ key (hR'.under ((below_box w o).mono hB)) (by simp; omega)
  have hkb : Hid (keyB ⟨name, key, fields⟩ = (decide (0 ≤ fieldIx ⟨name, key, fields⟩ key) && keyOkF (fth fields (fieldIx ⟨name, key, fields⟩ key).toNat))) := by
    show _ = _; simp [keyB, hke]
  rcases firstTo_cases (fun i => (fth fields i).name.toList == key.toList) fields.length with ⟨hix, -⟩ | ⟨k, hix, hlt, -, -⟩
  · have hix' : fieldIx ⟨name, key, fields⟩ key = -1 := hix
    rw [hix'] at hcall hkb
    go_enter Tryz.func120, Tryz.ntmps120
    go_wp2_with (go_at_call 113; refine (hcall _).mono ?_; rintro e w1 ⟨rfl, hb1⟩)
    go_ret
    exact ⟨ret_bool (by rw [hkb.out]; simp), (below_box w _).trans (hb1.mono (by simp))⟩
  · have hix' : fieldIx ⟨name, key, fields⟩ key = (k : Int) := hix
    rw [hix'] at hcall hkb
    have h3 := hK.1
    obtain ⟨-, C, hA, hr⟩ := hK
    obtain ⟨b, off, rfl, hbB, hc⟩ := hA (by omega)
    have hck := hc k hlt
    obtain ⟨e0, e1, e2, e3, e4, e5, e6, na, nc, e7, -⟩ := (hr k hlt).parts
    have E0 := e0
    clear e0
    clear hc hr hA
    have hkf : Hid (keyB ⟨name, key, fields⟩ = keyOkF (fth fields k)) := by show _ = _; rw [hkb.out]; simp
    clear hkb
    generalize fth fields k = f at *
    obtain ⟨fn, of, l, m, fr, hi, sh, needs⟩ := f
    simp only at E0 e1 e2 e3 e4 e5 e6 e7
    have hcells : ∀ w1, Below w.heap.size w w1 → (w1.cell? ⟨b, off + k * 8, none⟩ = some (.string fn) ∧ w1.cell? ⟨b, off + k * 8 + 1, none⟩ = some (.string of) ∧ w1.cell? ⟨b, off + k * 8 + 2, none⟩ = some (.bool l) ∧ w1.cell? ⟨b, off + k * 8 + 3, none⟩ = some (.bool m) ∧ w1.cell? ⟨b, off + k * 8 + 4, none⟩ = some (.bool fr) ∧ w1.cell? ⟨b, off + k * 8 + 5, none⟩ = some (.bool hi) ∧ w1.cell? ⟨b, off + k * 8 + 6, none⟩ = some (.bool sh) ∧ w1.cell? ⟨b, off + k * 8 + 7, none⟩ = some (.slice na needs.length nc)) := fun w1 hb => by
      have hx : ∀ j, j < 8 → w1.cell? ⟨b, off + k * 8 + j, none⟩ = some (C k j) := fun j hj => (hb.cell (p := ⟨b, off + k * 8 + j, none⟩) (by show b < _; omega)).trans (hck j hj)
      have x0 := hx 0 (by omega); have x1 := hx 1 (by omega); have x2 := hx 2 (by omega); have x3 := hx 3 (by omega)
      have x4 := hx 4 (by omega); have x5 := hx 5 (by omega); have x6 := hx 6 (by omega); have x7 := hx 7 (by omega)
      rw [e1] at x1; rw [e2] at x2; rw [e3] at x3; rw [e4] at x4; rw [e5] at x5; rw [e6] at x6; rw [e7] at x7
      exact ⟨by rw [E0] at x0; exact x0, x1, x2, x3, x4, x5, x6, x7⟩
    have hki : (k : Int) < (fields.length : Int) := by omega
    clear hck e1 e2 e3 e4 e5 e6 e7 E0
    cases hof : (of.toList == [105, 110, 116])
    case false =>
      go_enter Tryz.func120, Tryz.ntmps120
      go_wp2_with (
        go_at_call 113
        refine (hcall _).mono ?_
        rintro e w1 ⟨rfl, hb1⟩
        have hbw : Below w.heap.size w w1 := (below_box w _).trans (hb1.mono (by simp))
        obtain ⟨x0, x1, x2, x3, x4, x5, x6, x7⟩ := hcells w1 hbw
        have hx2 : w1.cell? ⟨w.heap.size, 2, none⟩ = some (.slice (some ⟨b, off, none⟩) fields.length fc) := by rw [hb1.cell (by simp)]; simp)
      go_ret
      exact ⟨ret_bool (by rw [hkf.out]; simp [keyOkF, isT, hof]), hbw.trans ((below_box w1 _).mono hbw.size)⟩
    cases l
    case true =>
      go_enter Tryz.func120, Tryz.ntmps120
      go_wp2_with (
        go_at_call 113
        refine (hcall _).mono ?_
        rintro e w1 ⟨rfl, hb1⟩
        have hbw : Below w.heap.size w w1 := (below_box w _).trans (hb1.mono (by simp))
        obtain ⟨x0, x1, x2, x3, x4, x5, x6, x7⟩ := hcells w1 hbw
        have hx2 : w1.cell? ⟨w.heap.size, 2, none⟩ = some (.slice (some ⟨b, off, none⟩) fields.length fc) := by rw [hb1.cell (by simp)]; simp)
      go_ret
      exact ⟨ret_bool (by rw [hkf.out]; simp [keyOkF, isT, hof]), hbw.trans ((below_box w1 _).mono hbw.size)⟩
    cases m
    case false =>
      go_enter Tryz.func120, Tryz.ntmps120
      go_wp2_with (
        go_at_call 113
        refine (hcall _).mono ?_
        rintro e w1 ⟨rfl, hb1⟩
        have hbw : Below w.heap.size w w1 := (below_box w _).trans (hb1.mono (by simp))
        obtain ⟨x0, x1, x2, x3, x4, x5, x6, x7⟩ := hcells w1 hbw
        have hx2 : w1.cell? ⟨w.heap.size, 2, none⟩ = some (.slice (some ⟨b, off, none⟩) fields.length fc) := by rw [hb1.cell (by simp)]; simp)
      go_ret
      exact ⟨ret_bool (by rw [hkf.out]; simp [keyOkF, isT, hof]), hbw.trans ((below_box w1 _).mono hbw.size)⟩
    cases fr
    case true =>
      go_enter Tryz.func120, Tryz.ntmps120
      go_wp2_with (
        go_at_call 113
        refine (hcall _).mono ?_
        rintro e w1 ⟨rfl, hb1⟩
        have hbw : Below w.heap.size w w1 := (below_box w _).trans (hb1.mono (by simp))
        obtain ⟨x0, x1, x2, x3, x4, x5, x6, x7⟩ := hcells w1 hbw
        have hx2 : w1.cell? ⟨w.heap.size, 2, none⟩ = some (.slice (some ⟨b, off, none⟩) fields.length fc) := by rw [hb1.cell (by simp)]; simp)
      go_ret
      exact ⟨ret_bool (by rw [hkf.out]; simp [keyOkF, isT, hof]), hbw.trans ((below_box w1 _).mono hbw.size)⟩
    cases hi
    case true =>
      go_enter Tryz.func120, Tryz.ntmps120
      go_wp2_with (
        go_at_call 113
        refine (hcall _).mono ?_
        rintro e w1 ⟨rfl, hb1⟩
        have hbw : Below w.heap.size w w1 := (below_box w _).trans (hb1.mono (by simp))
        obtain ⟨x0, x1, x2, x3, x4, x5, x6, x7⟩ := hcells w1 hbw
        have hx2 : w1.cell? ⟨w.heap.size, 2, none⟩ = some (.slice (some ⟨b, off, none⟩) fields.length fc) := by rw [hb1.cell (by simp)]; simp)
      go_ret
      exact ⟨ret_bool (by rw [hkf.out]; simp [keyOkF, isT, hof]), hbw.trans ((below_box w1 _).mono hbw.size)⟩
    go_enter Tryz.func120, Tryz.ntmps120
    go_wp2_with (
      go_at_call 113
      refine (hcall _).mono ?_
      rintro e w1 ⟨rfl, hb1⟩
      have hbw : Below w.heap.size w w1 := (below_box w _).trans (hb1.mono (by simp))
      obtain ⟨x0, x1, x2, x3, x4, x5, x6, x7⟩ := hcells w1 hbw
      have hx2 : w1.cell? ⟨w.heap.size, 2, none⟩ = some (.slice (some ⟨b, off, none⟩) fields.length fc) := by rw [hb1.cell (by simp)]; simp)
    go_ret
    exact ⟨ret_bool (by rw [hkf.out]; simp [keyOkF, isT, hof]), hbw.trans ((below_box w1 _).mono hbw.size)⟩
end Go.Proofs.YtokmgbidmnanpaaGreatDoor
namespace Go.Proofs.YtokmgbidmnanpaaGreatDoor
open Go.RowKit Go.Shelf
def lays156_ren : Go.Shelf.Ren := ⟨fun | 156 => 96 | 165 => 129 | 166 => 114 | 169 => 86 | 240 => 144 | 241 => 151 | 276 => 162 | 277 => 164 | n => n, fun | 0 => 0 | 3 => 3 | 4 => 4 | 5 => 5 | 9 => 9 | 20 => 20 | 31 => 29 | 37 => 22 | 70 => 120 | 72 => 122 | 75 => 100 | 76 => 158 | 80 => 119 | 127 => 182 | 164 => 205 | n => n, fun | n => n⟩
theorem lays156 : Go.Proofs.Lays.n156 Tryz.prog lays156_ren := {
  mixed := by kernel_rfl
  f156 := Tryz.func96.trans (congrArg some (by kernel_rfl))
  f165 := Tryz.func129.trans (congrArg some (by kernel_rfl))
  f166 := Tryz.func114.trans (congrArg some (by kernel_rfl))
  f169 := Tryz.func86.trans (congrArg some (by kernel_rfl))
  f240 := Tryz.func144.trans (congrArg some (by kernel_rfl))
  f241 := Tryz.func151.trans (congrArg some (by kernel_rfl))
  f276 := Tryz.func162.trans (congrArg some (by kernel_rfl))
  f277 := Tryz.func164.trans (congrArg some (by kernel_rfl))
  t0 := Tryz.underlying0
  a0 := Tryz.isAgg0
  z0 := Tryz.sizeOf0
  v0 := Tryz.zeroValue0
  t3 := Tryz.underlying3
  a3 := Tryz.isAgg3
  z3 := Tryz.sizeOf3
  v3 := Tryz.zeroValue3
  t4 := Tryz.underlying4
  a4 := Tryz.isAgg4
  z4 := Tryz.sizeOf4
  v4 := Tryz.zeroValue4
  t9 := Tryz.underlying9
  a9 := Tryz.isAgg9
  z9 := Tryz.sizeOf9
  v9 := Tryz.zeroValue9
  t20 := Tryz.underlying20
  a20 := Tryz.isAgg20
  z20 := Tryz.sizeOf20
  v20 := Tryz.zeroValue20
  t31 := Tryz.underlying29
  a31 := Tryz.isAgg29
  z31 := Tryz.sizeOf29
  v31 := Tryz.zeroValue29
  t37 := Tryz.underlying22
  a37 := Tryz.isAgg22
  z37 := Tryz.sizeOf22
  v37 := Tryz.zeroValue22
  t70 := Tryz.underlying120
  a70 := Tryz.isAgg120
  z70 := Tryz.sizeOf120
  v70 := Tryz.zeroValue120
  t72 := Tryz.underlying122
  a72 := Tryz.isAgg122
  z72 := Tryz.sizeOf122
  v72 := Tryz.zeroValue122
  t75 := Tryz.underlying100
  a75 := Tryz.isAgg100
  z75 := Tryz.sizeOf100
  v75 := Tryz.zeroValue100
  t76 := Tryz.underlying158
  a76 := Tryz.isAgg158
  z76 := Tryz.sizeOf158
  v76 := Tryz.zeroValue158
  t127 := Tryz.underlying182
  a127 := Tryz.isAgg182
  z127 := Tryz.sizeOf182
  v127 := Tryz.zeroValue182
  t164 := Tryz.underlying205
  a164 := Tryz.isAgg205
  z164 := Tryz.sizeOf205
  v164 := Tryz.zeroValue205 }
theorem extra156 : Builder.Extra Tryz.prog lays156_ren := {
  sizeBuilder := by kernel_rfl
  liesBuilder := by kernel_rfl
  t5 := Tryz.underlying5
  a5 := Tryz.isAgg5
  z5 := Tryz.sizeOf5
  v5 := Tryz.zeroValue5
  infoByte := by kernel_rfl
  cellsByte := by kernel_rfl
  sizeByte := by kernel_rfl
  neB5 := by decide }
theorem join_any (bk o c : Nat) (xs : List ByteArray) (sep : ByteArray) (w : World) (hcells : ∀ (j : Nat) x, xs[j]? = some x → w.cell? ⟨bk, o + j, none⟩ = some (.string x)) (hbk : bk < w.heap.size) (hN : xs.length ≤ 140737488355328) (hcap : xs.length ≤ c) (hlen : (Lib.join (xs.map (·.data.toList)) sep.data.toList).length ≤ 140737488355328) :
    Calls Tryz.prog 96 #[.slice (some ⟨bk, o, none⟩) xs.length c, .string sep] w fun e w' => e = .returned (.string ⟨(Lib.join (xs.map (·.data.toList)) sep.data.toList).toArray⟩) ∧ Below w.heap.size w w' := Any.strings_Join lays156 extra156 bk o c xs sep w hcells hbk hN hcap hlen
def Kept (b : Nat) (w w' : World) : Prop := Lib.OthersKept 5 (some b) w w'
theorem byteCells_append (l m : List UInt8) : Lib.byteCells l ++ Lib.byteCells m = Lib.byteCells (l ++ m) := by simp [Lib.byteCells]
theorem Kept.block {b : Nat} {w w' : World} (h : Kept b w w') {k : Nat} {cs : Array Value} {t : TypeId} {fz : Nat × Nat} (hk : w.heap[k]? = some (.cells cs t fz)) (hne : k ≠ b) (ht : t ≠ 5) : w'.heap[k]? = some (.cells cs t fz) :=
  h k _ hk (by intro e; exact hne (Option.some.inj e)) (by intro c z e; injection e with _ e2 _; exact ht e2)
end Go.Proofs.YtokmgbidmnanpaaGreatDoor
namespace Go.Proofs.YtokmgbidmnanpaaGreatDoor
open Go.RowKit
def keyS (s : Se) : ByteArray := if s.al.toList.isEmpty = true then s.name else s.al
def selB (s : Se) : Bool := nameB s.name && (s.al.toList.isEmpty || (nameB s.al && !(s.al.toList == s.name.toList))) && (s.one || decide (s.id = 0)) && (decide (0 ≤ s.id) && decide (s.id ≤ 999999))
def freeTo (ks : List Se) (k : ByteArray) (n : Nat) : Bool := (List.range n).all fun i => !((keyS (sth ks i)).toList == k.toList)
theorem freeTo_succ (ks : List Se) (k : ByteArray) (n : Nat) : freeTo ks k (n + 1) = (freeTo ks k n && !((keyS (sth ks n)).toList == k.toList)) := by simp [freeTo, List.range_succ]
def okTo : Nat → Nat → List Se → Nat → Bool
  | 0, _, _, n => decide (n = 0)
  | f + 1, d, ks, n => (List.range n).all fun i => selB (sth ks i) && freeTo ks (keyS (sth ks i)) i && (((sth ks i).kids.isEmpty || decide (d + 1 ≤ 5)) && okTo f (d + 1) (sth ks i).kids (sth ks i).kids.length)
theorem okTo_succ (f d : Nat) (ks : List Se) (n : Nat) : okTo (f + 1) d ks (n + 1) = (okTo (f + 1) d ks n && (selB (sth ks n) && freeTo ks (keyS (sth ks n)) n && (((sth ks n).kids.isEmpty || decide (d + 1 ≤ 5)) && okTo f (d + 1) (sth ks n).kids (sth ks n).kids.length))) := by
  simp [okTo, List.range_succ]
def FitS : Nat → List Se → Prop
  | 0, ks => ks = []
  | f + 1, ks => ∀ i, i < ks.length → FitS f (sth ks i).kids
theorem FitS.of_rep {w : World} {P : Nat → Prop} : ∀ {f : Nat} {x : Se} {v : Value}, SeN w P (f + 1) x v → FitS f x.kids
  | 0, x, v, h => by
    obtain ⟨ka, kc, C, -, -, -, -, -, hr⟩ := h
    cases e : x.kids with
    | nil => rfl
    | cons a l => exact (hr 0 (by rw [e]; simp)).elim
  | f + 1, x, v, h => by
    obtain ⟨ka, kc, C, -, -, -, -, -, hr⟩ := h
    exact fun i hi => FitS.of_rep (hr i hi)
def SmallS : Nat → List Se → Prop
  | 0, _ => True
  | f + 1, ks => ∀ i, i < ks.length → (sth ks i).al.size ≤ 1048576 ∧ (sth ks i).name.size ≤ 1048576 ∧ SmallS f (sth ks i).kids
def askB (f : Nat) (ks : List Se) : Bool := !ks.isEmpty && okTo f 1 ks ks.length && decide (cntTo f ks ks.length ≤ 24)
abbrev Way := List ByteArray
def preTo : Nat → Way → List Se → Nat → List (Way × Se)
  | 0, _, _, _ => []
  | f + 1, ah, ks, n => (List.range n).flatMap fun i => (ah ++ [keyS (sth ks i)], sth ks i) :: preTo f (ah ++ [keyS (sth ks i)]) (sth ks i).kids (sth ks i).kids.length
theorem preTo_succ (f : Nat) (ah : Way) (ks : List Se) (n : Nat) : preTo (f + 1) ah ks (n + 1) = preTo (f + 1) ah ks n ++ (ah ++ [keyS (sth ks n)], sth ks n) :: preTo f (ah ++ [keyS (sth ks n)]) (sth ks n).kids (sth ks n).kids.length := by
  simp [preTo, List.range_succ]
theorem preTo_len : ∀ (f : Nat) (ah : Way) (ks : List Se) (n : Nat), n ≤ ks.length → FitS f ks → (preTo f ah ks n).length = cntTo f ks n
  | 0, ah, ks, n, hn, hf => by
    have : n = 0 := by have e : ks = [] := hf; rw [e] at hn; simpa using hn
    subst this
    simp [preTo, cntTo]
  | f + 1, ah, ks, 0, hn, hf => by simp [preTo, cntTo]
  | f + 1, ah, ks, n + 1, hn, hf => by
    rw [preTo_succ, cntTo_succ, List.length_append, preTo_len (f + 1) ah ks n (by omega) hf, List.length_cons, preTo_len f _ _ _ (Nat.le_refl _) (hf n (by omega)), cntSe_kids]
    omega
def joinW : Way → List UInt8
  | [] => []
  | [a] => a.toList
  | a :: b :: l => a.toList ++ 47 :: joinW (b :: l)
def stepB (ws : List (List UInt8)) (x : Way × Se) : Bool := decide (x.1.length ≤ 5) && decide (ws.length < 24) && selB x.2 && !(ws.contains (joinW x.1))
def walkB : List (List UInt8) → List (Way × Se) → Bool
  | _, [] => true
  | ws, x :: l => stepB ws x && walkB (ws ++ [joinW x.1]) l
theorem walkB_all : ∀ (l : List (Way × Se)) (ws : List (List UInt8)), walkB ws l = true ↔ (∀ x ∈ l, x.1.length ≤ 5 ∧ selB x.2 = true ∧ joinW x.1 ∉ ws) ∧ (l ≠ [] → ws.length + l.length ≤ 24) ∧ (l.map fun x => joinW x.1).Nodup
  | [], ws => by simp [walkB]
  | x :: l, ws => by
    rw [walkB, Bool.and_eq_true, walkB_all l]
    simp only [stepB, Bool.and_eq_true, decide_eq_true_eq, Bool.not_eq_true', List.contains_eq_mem, decide_eq_false_iff_not, List.mem_append, List.mem_singleton, List.length_append, List.length_singleton, List.mem_cons, List.map_cons, List.nodup_cons, List.mem_map, List.length_cons, not_or, not_exists, not_and, List.not_mem_nil, not_false_eq_true, and_true, List.length_nil]
    constructor
    · rintro ⟨⟨⟨⟨h1, h2⟩, h3⟩, h4⟩, h5, h6, h7⟩
      refine ⟨fun y hy => ?_, fun _ => ?_, fun y hy e => ?_, h7⟩
      · rcases hy with rfl | hy
        · exact ⟨h1, h3, h4⟩
        · exact ⟨(h5 y hy).1, (h5 y hy).2.1, (h5 y hy).2.2.1⟩
      · cases l with
        | nil => simp; omega
        | cons a l => have := h6 (by simp); simp at this ⊢; omega
      · exact (h5 y hy).2.2.2 e
    · rintro ⟨h1, h2, h3, h4⟩
      have h2' := h2 (by simp)
      refine ⟨⟨⟨⟨(h1 x (Or.inl rfl)).1, by omega⟩, (h1 x (Or.inl rfl)).2.1⟩, (h1 x (Or.inl rfl)).2.2⟩, fun y hy => ⟨(h1 y (Or.inr hy)).1, (h1 y (Or.inr hy)).2.1, (h1 y (Or.inr hy)).2.2, fun e => h3 y hy e⟩, fun _ => by omega, h4⟩
theorem preTo_ahead : ∀ (f : Nat) (ah : Way) (ks : List Se) (n : Nat) (x : Way × Se), x ∈ preTo f ah ks n → ∃ i, i < n ∧ ∃ l, x.1 = ah ++ keyS (sth ks i) :: l
  | 0, ah, ks, n, x, h => by simp [preTo] at h
  | f + 1, ah, ks, 0, x, h => by simp [preTo] at h
  | f + 1, ah, ks, n + 1, x, h => by
    rw [preTo_succ, List.mem_append, List.mem_cons] at h
    rcases h with h | h | h
    · obtain ⟨i, hi, l, e⟩ := preTo_ahead (f + 1) ah ks n x h
      exact ⟨i, by omega, l, e⟩
    · exact ⟨n, by omega, [], by rw [h]⟩
    · obtain ⟨i, hi, l, e⟩ := preTo_ahead f _ _ _ x h
      exact ⟨n, by omega, _, by rw [e, List.append_assoc]; rfl⟩
theorem preTo_head (f : Nat) (ah : Way) (ks : List Se) : ∀ (n i : Nat), i < n → (ah ++ [keyS (sth ks i)], sth ks i) ∈ preTo (f + 1) ah ks n
  | 0, i, h => by omega
  | n + 1, i, h => by
    rw [preTo_succ, List.mem_append, List.mem_cons]
    by_cases e : i = n
    · subst e; exact Or.inr (Or.inl rfl)
    · exact Or.inl (preTo_head f ah ks n i (by omega))
theorem preTo_pre (f : Nat) (ah : Way) (ks : List Se) : ∀ (n k : Nat), k ≤ n → preTo (f + 1) ah ks k <+: preTo (f + 1) ah ks n
  | 0, k, h => by
    have e : k = 0 := by omega
    subst e
    exact List.prefix_rfl
  | n + 1, k, h => by
    by_cases e : k = n + 1
    · subst e; exact List.prefix_rfl
    · rw [preTo_succ]
      exact (preTo_pre f ah ks n k (by omega)).trans (List.prefix_append _ _)
theorem freeTo_iff (ks : List Se) (k : ByteArray) (n : Nat) : freeTo ks k n = true ↔ ∀ i, i < n → (keyS (sth ks i)).toList ≠ k.toList := by simp [freeTo, List.all_eq_true]
theorem bytesInj {a b : ByteArray} (h : a.toList = b.toList) : a = b := by
  cases a; cases b
  simpa [ByteArray.toList_eq] using h
theorem okTo_pre : ∀ (f d : Nat) (ah : Way) (ks : List Se) (n : Nat), ah.length + 1 = d → (0 < n → d ≤ 5) → n ≤ ks.length → FitS f ks →
    (okTo f d ks n = true ↔ (∀ x ∈ preTo f ah ks n, x.1.length ≤ 5 ∧ selB x.2 = true) ∧ ((preTo f ah ks n).map Prod.fst).Nodup)
  | 0, d, ah, ks, n, hd, h5, hn, hf => by
    have : n = 0 := by have e : ks = [] := hf; rw [e] at hn; simpa using hn
    subst this
    simp [okTo, preTo]
  | f + 1, d, ah, ks, 0, hd, h5, hn, hf => by simp [okTo, preTo]
  | f + 1, d, ah, ks, n + 1, hd, h5, hn, hf => by
    have ih := okTo_pre (f + 1) d ah ks n hd (fun h => h5 (by omega)) (by omega) hf
    have hd5 := h5 (by omega)
    have hfk := hf n (by omega)
    rw [okTo_succ, preTo_succ, Bool.and_eq_true, ih, List.map_append, List.map_cons, List.nodup_append, List.nodup_cons]
    generalize hs : sth ks n = s at *
    have hsub : ∀ hk : s.kids = [] ∨ d + 1 ≤ 5, (okTo f (d + 1) s.kids s.kids.length = true ↔ _) := fun hk => okTo_pre f (d + 1) (ah ++ [keyS s]) s.kids s.kids.length (by simp; omega) (fun h => by
      rcases hk with hk | hk
      · rw [hk] at h; simp at h
      · exact hk) (Nat.le_refl _) hfk
    have hroot : (ah ++ [keyS s]) ∉ (preTo f (ah ++ [keyS s]) s.kids s.kids.length).map Prod.fst := fun h => by
      obtain ⟨x, hx, e⟩ := List.mem_map.1 h
      obtain ⟨i, -, l, e2⟩ := preTo_ahead _ _ _ _ _ hx
      rw [e2] at e
      have := congrArg List.length e
      simp at this
    simp only [Bool.and_eq_true, Bool.or_eq_true, decide_eq_true_eq, List.isEmpty_iff]
    constructor
    · rintro ⟨⟨h1, h2⟩, ⟨⟨h3, h4⟩, h6, h7⟩⟩
      obtain ⟨h8, h9⟩ := (hsub h6).1 h7
      refine ⟨fun x hx => ?_, h2, ⟨hroot, h9⟩, fun a ha b hb => ?_⟩
      · rw [List.mem_append, List.mem_cons] at hx
        rcases hx with hx | hx | hx
        · exact h1 x hx
        · rw [hx]; exact ⟨by simp; omega, h3⟩
        · exact h8 x hx
      · obtain ⟨x, hx, rfl⟩ := List.mem_map.1 ha
        obtain ⟨i, hi, l, e1⟩ := preTo_ahead _ _ _ _ _ hx
        have hb' : ∃ l', b = ah ++ keyS s :: l' := by
          rcases List.mem_cons.1 hb with hb | hb
          · exact ⟨[], hb⟩
          · obtain ⟨y, hy, rfl⟩ := List.mem_map.1 hb
            obtain ⟨j, -, l', e2⟩ := preTo_ahead _ _ _ _ _ hy
            exact ⟨_, by rw [e2, List.append_assoc]; rfl⟩
        obtain ⟨l', e2⟩ := hb'
        intro e
        rw [e1, e2] at e
        have := List.append_cancel_left e
        simp only [List.cons.injEq] at this
        exact (freeTo_iff _ _ _).1 h4 i hi (by rw [this.1])
    · rintro ⟨h1, h2, ⟨-, h3⟩, h4⟩
      have hs1 := h1 (ah ++ [keyS s], s) (by rw [List.mem_append, List.mem_cons]; exact Or.inr (Or.inl rfl))
      have h6 : s.kids = [] ∨ d + 1 ≤ 5 := by
        by_cases hk : s.kids = []
        · exact Or.inl hk
        · right
          have hl : 0 < s.kids.length := List.length_pos_iff.2 hk
          cases f with
          | zero => exact absurd hfk hk
          | succ f =>
            have := (h1 _ (by rw [List.mem_append, List.mem_cons]; exact Or.inr (Or.inr (preTo_head f (ah ++ [keyS s]) s.kids _ 0 hl)))).1
            simp at this
            omega
      refine ⟨⟨fun x hx => h1 x (by rw [List.mem_append]; exact Or.inl hx), h2⟩, ⟨⟨hs1.2, ?_⟩, h6, (hsub h6).2 ⟨fun x hx => h1 x (by rw [List.mem_append, List.mem_cons]; exact Or.inr (Or.inr hx)), h3⟩⟩⟩
      rw [freeTo_iff]
      intro i hi e
      refine h4 (ah ++ [keyS (sth ks i)]) (List.mem_map.2 ⟨_, preTo_head f ah ks n i hi, rfl⟩) (ah ++ [keyS s]) (by simp) ?_
      rw [bytesInj e]
theorem cut_at {a a' x y : List UInt8} (ha : 47 ∉ a) (ha' : 47 ∉ a') (h : a ++ 47 :: x = a' ++ 47 :: y) : a = a' ∧ x = y := by
  induction a generalizing a' with
  | nil =>
    cases a' with
    | nil => simpa using h
    | cons b l => simp only [List.nil_append, List.cons_append, List.cons.injEq] at h; exact absurd (by rw [← h.1]; simp) ha'
  | cons b l ih =>
    cases a' with
    | nil => simp only [List.nil_append, List.cons_append, List.cons.injEq] at h; exact absurd (by rw [h.1]; simp) ha
    | cons b' l' =>
      simp only [List.cons_append, List.cons.injEq] at h
      obtain ⟨e1, e2⟩ := ih (fun hm => ha (List.mem_cons_of_mem _ hm)) (fun hm => ha' (List.mem_cons_of_mem _ hm)) h.2
      exact ⟨by rw [h.1, e1], e2⟩
theorem joinW_inj : ∀ (u v : Way), u ≠ [] → v ≠ [] → (∀ a ∈ u, (47 : UInt8) ∉ a.toList) → (∀ a ∈ v, (47 : UInt8) ∉ a.toList) → joinW u = joinW v → u = v
  | [], _, h, _, _, _, _ => absurd rfl h
  | _, [], _, h, _, _, _ => absurd rfl h
  | [a], [b], _, _, _, _, e => by rw [bytesInj (show a.toList = b.toList from e)]
  | [a], b :: c :: l, _, _, ha, _, e => by
    have e' : a.toList = b.toList ++ 47 :: joinW (c :: l) := e
    exact absurd (by rw [e']; simp) (ha a (by simp))
  | a :: c :: l, [b], _, _, _, hb, e => by
    have e' : a.toList ++ 47 :: joinW (c :: l) = b.toList := e
    exact absurd (by rw [← e']; simp) (hb b (by simp))
  | a :: c :: l, b :: d :: m, _, _, ha, hb, e => by
    have e' : a.toList ++ 47 :: joinW (c :: l) = b.toList ++ 47 :: joinW (d :: m) := e
    obtain ⟨e1, e2⟩ := cut_at (ha a (by simp)) (hb b (by simp)) e'
    have e3 := joinW_inj (c :: l) (d :: m) (by simp) (by simp) (fun x hx => ha x (List.mem_cons_of_mem _ hx)) (fun x hx => hb x (List.mem_cons_of_mem _ hx)) e2
    rw [bytesInj e1, e3]
theorem wordTo_at (s : ByteArray) : ∀ n i, i < n → wordTo s n = true → wbB (byteAt s i) = true
  | 0, i, h, _ => by omega
  | n + 1, i, h, hw => by
    rw [wordTo_succ, Bool.and_eq_true] at hw
    by_cases e : i = n
    · subst e; exact hw.2
    · exact wordTo_at s n i (by omega) hw.1
theorem name_cut {s : ByteArray} (h : nameB s = true) : (47 : UInt8) ∉ s.toList := by
  simp only [nameB, Bool.and_eq_true] at h
  have hw := h.1.1.1.1.1.1.1.1.1.1
  simp only [wordB, Bool.and_eq_true] at hw
  intro hm
  rw [ByteArray.toList_eq] at hm
  obtain ⟨i, hi, e⟩ := List.mem_iff_getElem.1 hm
  have h1 := wordTo_at s s.size i (by simpa using hi) hw.2
  have h2 : byteAt s i = 47 := by
    unfold byteAt
    rw [List.getD_eq_getElem?_getD, List.getElem?_eq_getElem hi, e]
    rfl
  rw [h2] at h1
  revert h1
  decide
theorem selB_key {s : Se} (h : selB s = true) : nameB (keyS s) = true := by
  simp only [selB, Bool.and_eq_true, Bool.or_eq_true] at h
  unfold keyS
  split
  · exact h.1.1.1
  · rename_i hne
    rcases h.1.1.2 with h1 | h1
    · exact absurd h1 hne
    · exact h1.1
theorem preTo_names : ∀ (f : Nat) (ah : Way) (ks : List Se) (n : Nat), (∀ x ∈ preTo f ah ks n, selB x.2 = true) → (∀ a ∈ ah, nameB a = true) → ∀ x ∈ preTo f ah ks n, ∀ a ∈ x.1, nameB a = true
  | 0, ah, ks, n, h, ha, x, hx => by simp [preTo] at hx
  | f + 1, ah, ks, 0, h, ha, x, hx => by simp [preTo] at hx
  | f + 1, ah, ks, n + 1, h, ha, x, hx => by
    rw [preTo_succ] at h hx
    have hk : nameB (keyS (sth ks n)) = true := selB_key (h (ah ++ [keyS (sth ks n)], sth ks n) (by simp))
    have hak : ∀ a ∈ ah ++ [keyS (sth ks n)], nameB a = true := fun a hm => by
      rcases List.mem_append.1 hm with hm | hm
      · exact ha a hm
      · rw [List.mem_singleton.1 hm]; exact hk
    rcases List.mem_append.1 hx with hx | hx
    · exact preTo_names (f + 1) ah ks n (fun y hy => h y (List.mem_append.2 (Or.inl hy))) ha x hx
    · rcases List.mem_cons.1 hx with hx | hx
      · rw [hx]; exact hak
      · exact preTo_names f _ _ _ (fun y hy => h y (List.mem_append.2 (Or.inr (List.mem_cons_of_mem _ hy)))) hak x hx
theorem nodup_map_on {α β : Type} (g : α → β) : ∀ (l : List α), (∀ x ∈ l, ∀ y ∈ l, g x = g y → x = y) → l.Nodup → (l.map g).Nodup
  | [], _, _ => by simp
  | a :: l, h, hn => by
    rw [List.nodup_cons] at hn
    rw [List.map_cons, List.nodup_cons]
    refine ⟨fun hm => ?_, nodup_map_on g l (fun x hx y hy => h x (List.mem_cons_of_mem _ hx) y (List.mem_cons_of_mem _ hy)) hn.2⟩
    obtain ⟨b, hb, e⟩ := List.mem_map.1 hm
    have := h b (List.mem_cons_of_mem _ hb) a (by simp) e
    exact hn.1 (this ▸ hb)
theorem nodup_of_map {α β : Type} (g : α → β) : ∀ (l : List α), (l.map g).Nodup → l.Nodup
  | [], _ => by simp
  | a :: l, h => by
    rw [List.map_cons, List.nodup_cons] at h
    rw [List.nodup_cons]
    exact ⟨fun hm => h.1 (List.mem_map.2 ⟨a, hm, rfl⟩), nodup_of_map g l h.2⟩
theorem askB_walk (f : Nat) (ks : List Se) (hf : FitS f ks) : askB f ks = (!ks.isEmpty && walkB [] (preTo f [] ks ks.length)) := by
  unfold askB
  rw [Bool.and_assoc]
  congr 1
  rw [Bool.eq_iff_iff, Bool.and_eq_true, decide_eq_true_eq, okTo_pre f 1 [] ks ks.length rfl (fun _ => by omega) (Nat.le_refl _) hf, walkB_all, ← preTo_len f [] ks ks.length (Nat.le_refl _) hf]
  generalize hl : preTo f [] ks ks.length = l
  constructor
  · rintro ⟨⟨h1, h2⟩, h3⟩
    refine ⟨fun x hx => ⟨(h1 x hx).1, (h1 x hx).2, by simp⟩, fun _ => by simpa using h3, ?_⟩
    have hn := preTo_names f [] ks ks.length (by rw [hl]; exact fun x hx => (h1 x hx).2) (by simp)
    rw [hl] at hn
    have e : (l.map fun x => joinW x.1) = (l.map Prod.fst).map joinW := by rw [List.map_map]; rfl
    rw [e]
    refine nodup_map_on joinW _ (fun u hu v hv huv => ?_) h2
    obtain ⟨x, hx, rfl⟩ := List.mem_map.1 hu
    obtain ⟨y, hy, rfl⟩ := List.mem_map.1 hv
    have hne : ∀ z ∈ l, z.1 ≠ [] := fun z hz => by
      rw [← hl] at hz
      obtain ⟨i, -, m, e⟩ := preTo_ahead _ _ _ _ _ hz
      rw [e]; simp
    exact joinW_inj _ _ (hne x hx) (hne y hy) (fun a ha => name_cut (hn x hx a ha)) (fun a ha => name_cut (hn y hy a ha)) huv
  · rintro ⟨h1, h2, h3⟩
    refine ⟨⟨fun x hx => ⟨(h1 x hx).1, (h1 x hx).2.1⟩, ?_⟩, ?_⟩
    · have e : (l.map fun x => joinW x.1) = (l.map Prod.fst).map joinW := by rw [List.map_map]; rfl
      rw [e] at h3
      exact nodup_of_map joinW _ h3
    · by_cases hl0 : l = []
      · rw [hl0]; simp
      · have := h2 hl0
        simpa using this
end Go.Proofs.YtokmgbidmnanpaaGreatDoor
