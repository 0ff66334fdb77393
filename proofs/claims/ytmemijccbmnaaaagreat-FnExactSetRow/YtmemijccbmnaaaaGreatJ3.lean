import Derived.Test.YtmemijccbmnaaaaGreatJ2
import Derived.Test.YtmemijccbmnaaaaGreatArr
import Derived.Test.YtmemijccbmnaaaaGreatJ1
import Derived.Test.YtmemijccbmnaaaaGreatPRep
namespace Go.Proofs.YtmemijccbmnaaaaGreat
set_option linter.unusedSimpArgs false
set_option linter.unusedVariables false
open Go.RowKit

/-- A cell as it is meant. -/
structure Ce where
  name : ByteArray
  val : V
/-- A row as it is meant. -/
structure Ro where
  type : ByteArray
  id : Int
  cells : List Ce
def Ce.zero : Ce := ⟨ByteArray.empty, V.zero⟩
def Ro.zero : Ro := ⟨ByteArray.empty, 0, []⟩
def cth (cs : List Ce) (i : Nat) : Ce := cs.getD i Ce.zero
def rth (rs : List Ro) (i : Nat) : Ro := rs.getD i Ro.zero

def CeRep (w : World) (P : Nat → Prop) (c : Ce) (v : Value) : Prop := ∃ c1 c2 c3 c4 c5 : Value,
  v = .agg #[.string c.name, c1, c2, c3, c4, c5] ∧ Rep w P c.val (.agg #[c1, c2, c3, c4, c5]) ∧ c.name.size ≤ maxLen
def CeReps (w : World) (P : Nat → Prop) (cs : List Ce) (a : Option Addr) : Prop := 96 * cs.length ≤ 281474976710656 ∧ ∃ C : Nat → Nat → Value, Arr w P 6 cs.length a C ∧ ∀ i, i < cs.length → CeRep w P (cth cs i) (.agg #[C i 0, C i 1, C i 2, C i 3, C i 4, C i 5])
def RoRep (w : World) (P : Nat → Prop) (r : Ro) (v : Value) : Prop := ∃ (ca : Option Addr) (cc : Nat),
  v = .agg #[.string r.type, .int .i64 r.id, .slice ca r.cells.length cc] ∧ CeReps w P r.cells ca ∧ r.cells.length ≤ cc ∧ r.type.size ≤ maxLen
def RoReps (w : World) (P : Nat → Prop) (rs : List Ro) (a : Option Addr) : Prop := 48 * rs.length ≤ 281474976710656 ∧ ∃ C : Nat → Nat → Value, Arr w P 3 rs.length a C ∧ ∀ i, i < rs.length → RoRep w P (rth rs i) (.agg #[C i 0, C i 1, C i 2])
theorem CeRep.mono {w w' : World} {P : Nat → Prop} {f : Ce} {v : Value} (h : CeRep w P f v) (e : ∀ k, P k → w'.heap[k]? = w.heap[k]?) : CeRep w' P f v := by
  obtain ⟨c1, c2, c3, c4, c5, h1, h2, h3⟩ := h; exact ⟨c1, c2, c3, c4, c5, h1, h2.mono e, h3⟩
theorem CeRep.sub {w : World} {P Q : Nat → Prop} {f : Ce} {v : Value} (h : CeRep w P f v) (e : ∀ k, P k → Q k) : CeRep w Q f v := by
  obtain ⟨c1, c2, c3, c4, c5, h1, h2, h3⟩ := h; exact ⟨c1, c2, c3, c4, c5, h1, h2.sub e, h3⟩
theorem CeReps.mono {w w' : World} {P : Nat → Prop} {f : List Ce} {v : Option Addr} (h : CeReps w P f v) (e : ∀ k, P k → w'.heap[k]? = w.heap[k]?) : CeReps w' P f v := by
  obtain ⟨h0, C, h1, h2⟩ := h; exact ⟨h0, C, h1.mono e, fun i hi => (h2 i hi).mono e⟩
theorem CeReps.sub {w : World} {P Q : Nat → Prop} {f : List Ce} {v : Option Addr} (h : CeReps w P f v) (e : ∀ k, P k → Q k) : CeReps w Q f v := by
  obtain ⟨h0, C, h1, h2⟩ := h; exact ⟨h0, C, h1.sub e, fun i hi => (h2 i hi).sub e⟩
theorem RoRep.mono {w w' : World} {P : Nat → Prop} {t : Ro} {v : Value} (h : RoRep w P t v) (e : ∀ k, P k → w'.heap[k]? = w.heap[k]?) : RoRep w' P t v := by
  obtain ⟨fa, fc, h1, h2, h3⟩ := h; exact ⟨fa, fc, h1, h2.mono e, h3⟩
theorem RoRep.sub {w : World} {P Q : Nat → Prop} {t : Ro} {v : Value} (h : RoRep w P t v) (e : ∀ k, P k → Q k) : RoRep w Q t v := by
  obtain ⟨fa, fc, h1, h2, h3⟩ := h; exact ⟨fa, fc, h1, h2.sub e, h3⟩
theorem RoReps.mono {w w' : World} {P : Nat → Prop} {f : List Ro} {v : Option Addr} (h : RoReps w P f v) (e : ∀ k, P k → w'.heap[k]? = w.heap[k]?) : RoReps w' P f v := by
  obtain ⟨h0, C, h1, h2⟩ := h; exact ⟨h0, C, h1.mono e, fun i hi => (h2 i hi).mono e⟩
theorem RoReps.sub {w : World} {P Q : Nat → Prop} {f : List Ro} {v : Option Addr} (h : RoReps w P f v) (e : ∀ k, P k → Q k) : RoReps w Q f v := by
  obtain ⟨h0, C, h1, h2⟩ := h; exact ⟨h0, C, h1.sub e, fun i hi => (h2 i hi).sub e⟩
theorem CeRep.under {w w' : World} {B : Nat} {x : Ce} {v : Value} (h : CeRep w (· < B) x v) (hb : Below B w w') : CeRep w' (· < B) x v := h.mono fun k hk => hb.block k hk
theorem CeReps.under {w w' : World} {B : Nat} {x : List Ce} {v : Option Addr} (h : CeReps w (· < B) x v) (hb : Below B w w') : CeReps w' (· < B) x v := h.mono fun k hk => hb.block k hk
theorem RoRep.under {w w' : World} {B : Nat} {x : Ro} {v : Value} (h : RoRep w (· < B) x v) (hb : Below B w w') : RoRep w' (· < B) x v := h.mono fun k hk => hb.block k hk
theorem RoReps.under {w w' : World} {B : Nat} {x : List Ro} {v : Option Addr} (h : RoReps w (· < B) x v) (hb : Below B w w') : RoReps w' (· < B) x v := h.mono fun k hk => hb.block k hk
theorem CeRep.pieces {w : World} {P : Nat → Prop} {c : Ce} {c0 c1 c2 c3 c4 c5 : Value} (h : CeRep w P c (.agg #[c0, c1, c2, c3, c4, c5])) : c0 = .string c.name ∧ Rep w P c.val (.agg #[c1, c2, c3, c4, c5]) ∧ c.name.size ≤ maxLen := by
  obtain ⟨d1, d2, d3, d4, d5, hv, h2, h3⟩ := h
  simp only [Value.agg.injEq, Array.mk.injEq, List.cons.injEq, and_true] at hv
  obtain ⟨e0, rfl, rfl, rfl, rfl, rfl⟩ := hv
  exact ⟨e0, h2, h3⟩
theorem RoRep.pieces {w : World} {P : Nat → Prop} {t : Ro} {c0 c1 c2 : Value} (h : RoRep w P t (.agg #[c0, c1, c2])) :
    ∃ (fa : Option Addr) (fc : Nat), c0 = .string t.type ∧ c1 = .int .i64 t.id ∧ c2 = .slice fa t.cells.length fc ∧ CeReps w P t.cells fa ∧ t.cells.length ≤ fc ∧ t.type.size ≤ maxLen := by
  obtain ⟨fa, fc, hv, h2, h3, h4⟩ := h
  simp only [Value.agg.injEq, Array.mk.injEq, List.cons.injEq, and_true] at hv
  exact ⟨fa, fc, hv.1, hv.2.1, hv.2.2, h2, h3, h4⟩

theorem hid_of2 {q : Prop} (h : q) : Hid q := h
/-- A cell whose value is no greater than the laws look at; a row of such cells. -/
def CeSm (c : Ce) : Prop := szV c.val ≤ 1048576
def RoSm (r : Ro) : Prop := ∀ i, i < r.cells.length → CeSm (cth r.cells i)
/-- How great cells and rows are. -/
def szC (c : Ce) : Nat := c.name.size + szV c.val
def szR (r : Ro) : Nat := r.type.size + (r.cells.length + (r.cells.map szC).sum)
theorem sum_take {α : Type} (g : α → Nat) (d : α) (xs : List α) (k : Nat) (h : k < xs.length) : ((xs.take (k + 1)).map g).sum = ((xs.take k).map g).sum + g (xs.getD k d) := by
  rw [List.take_succ_eq_append_getElem h]
  simp only [List.map_append, List.sum_append, List.map_cons, List.map_nil, List.sum_cons, List.sum_nil, List.getD_eq_getElem?_getD, List.getElem?_eq_getElem h, Option.getD_some, Nat.add_zero]
theorem sum_part {α : Type} (g : α → Nat) (xs : List α) (k : Nat) : ((xs.take k).map g).sum ≤ (xs.map g).sum := by
  conv => rhs; rw [← List.take_append_drop k xs]
  simp only [List.map_append, List.sum_append]
  omega
theorem sum_one {α : Type} (g : α → Nat) (d : α) (xs : List α) (k : Nat) (h : k < xs.length) : g (xs.getD k d) ≤ (xs.map g).sum := by
  have h1 := sum_take g d xs k h
  have h2 := sum_part g xs (k + 1)
  omega
theorem RoSm.of {r : Ro} (h : szR r ≤ 1048576) : RoSm r := fun i hi => by
  have h1 : szC (cth r.cells i) ≤ (r.cells.map szC).sum := sum_one szC Ce.zero r.cells i hi
  unfold szR at h
  have h2 : szC (cth r.cells i) = (cth r.cells i).name.size + szV (cth r.cells i).val := rfl
  unfold CeSm
  omega

set_option maxHeartbeats 800000 in
theorem szCell_any (c : Ce) (w : World) (B : Nat) (v : Value) (left : Int) (hR : CeRep w (· < B) c v) (hB : B ≤ w.heap.size) (hl0 : 0 ≤ left) (hl1 : left ≤ 1048576) :
    Calls Tryz.prog 74 #[v, .int .i64 left] w fun e w' => ∃ x : Int, e = .returned (.int .i64 x) ∧ -1 ≤ x ∧ x ≤ left ∧ (0 ≤ x → x + szC c ≤ left) ∧ Below w.heap.size w w' := by
  obtain ⟨c1, c2, c3, c4, c5, rfl, hV, hn⟩ := hR
  unfold maxLen at hn
  by_cases h1 : left < c.name.size
  · go_enter Tryz.func74, Tryz.ntmps74
    go_wp2_with fail
    go_ret
    exact ⟨-1, rfl, by omega, by omega, by omega, below_box _ _⟩
  go_enter Tryz.func74, Tryz.ntmps74
  go_wp2_with (go_at_call 21; refine (szValue_sum c.val _ B _ _ (hV.under ((below_box w _).mono hB)) (by simp; omega) (by omega) (by omega)).mono ?_; rintro e w' ⟨y, rfl, hy0, hy1, hy2, hb⟩; have HY := hid_of2 hy2; clear hy2)
  · go_ret
    exact ⟨-1, rfl, by omega, by omega, by omega, (below_box w _).trans (hb.mono (by simp))⟩
  · go_ret
    exact ⟨y, rfl, by omega, by omega, fun h => by have := HY.out h; unfold szC; omega, (below_box w _).trans (hb.mono (by simp))⟩

set_option maxHeartbeats 800000 in
theorem szRow_any0 (r : Ro) (hC : ∀ (w : World) (B : Nat) (a : Option Addr) (c : Nat) (left : Int), CeReps w (· < B) r.cells a → B ≤ w.heap.size → 0 ≤ left → left ≤ 1048576 →
      Calls Tryz.prog 41 #[.slice a r.cells.length c, .int .i64 left] w fun e w' => ∃ x : Int, e = .returned (.int .i64 x) ∧ -1 ≤ x ∧ x ≤ left ∧ (0 ≤ x → x + (r.cells.length + (r.cells.map szC).sum : Nat) ≤ left) ∧ Below w.heap.size w w')
    (w : World) (B : Nat) (v : Value) (left : Int) (hR : RoRep w (· < B) r v) (hB : B ≤ w.heap.size) (hl0 : 0 ≤ left) (hl1 : left ≤ 1048576) :
    Calls Tryz.prog 20 #[v, .int .i64 left] w fun e w' => ∃ x : Int, e = .returned (.int .i64 x) ∧ -1 ≤ x ∧ x ≤ left ∧ (0 ≤ x → x + szR r ≤ left) ∧ Below w.heap.size w w' := by
  obtain ⟨fa, fc, rfl, hs, hnc, hn⟩ := hR
  unfold maxLen at hn
  by_cases h1 : left < r.type.size
  · go_enter Tryz.func20, Tryz.ntmps20
    go_wp2_with fail
    go_ret
    exact ⟨-1, rfl, by omega, by omega, by omega, below_box _ _⟩
  go_enter Tryz.func20, Tryz.ntmps20
  go_wp2_with (go_at_call 41; refine (hC _ B fa fc _ (hs.under ((below_box w _).mono hB)) (by simp; omega) (by omega) (by omega)).mono ?_; rintro e w' ⟨y, rfl, hy0, hy1, hy2, hb⟩; have HY := hid_of2 hy2; clear hy2)
  · go_ret
    exact ⟨-1, rfl, by omega, by omega, by omega, (below_box w _).trans (hb.mono (by simp))⟩
  · go_ret
    exact ⟨y, rfl, by omega, by omega, fun h => by have := HY.out h; unfold szR; omega, (below_box w _).trans (hb.mono (by simp))⟩

set_option maxHeartbeats 400000 in
theorem szCellS_any (xs : List Ce) (w : World) (B : Nat) (a : Option Addr) (c : Nat) (left : Int) (hK : CeReps w (· < B) xs a) (hB : B ≤ w.heap.size) (hl0 : 0 ≤ left) (hl1 : left ≤ 1048576) :
    Calls Tryz.prog 41 #[.slice a xs.length c, .int .i64 left] w fun e w' => ∃ x : Int, e = .returned (.int .i64 x) ∧ -1 ≤ x ∧ x ≤ left ∧ (0 ≤ x → x + (xs.length + (xs.map szC).sum : Nat) ≤ left) ∧ Below w.heap.size w w' := by
  obtain ⟨h3, C, hA, hr⟩ := hK
  by_cases hbig : left < xs.length
  · go_enter Tryz.func41, Tryz.ntmps41
    go_wp2_with fail
    go_ret
    exact ⟨-1, rfl, by omega, by omega, by omega, Below.refl _ _⟩
  · go_enter Tryz.func41, Tryz.ntmps41
    go_wp2_with fail
    go_loopw [1, 5] (fun l i wr => ∃ (k : Nat) (x : Int), k ≤ xs.length ∧ i = .int .i64 k ∧ l = .int .i64 x ∧ 0 ≤ x ∧ x + xs.length ≤ left ∧ Hid (x + (xs.length + ((xs.take k).map szC).sum : Nat) ≤ left) ∧ Below w.heap.size w wr) (fun _ i _ => xs.length - (intOf i).toNat)
    case atStart => exact ⟨0, _, Nat.zero_le _, rfl, rfl, by omega, by omega, hid_of2 (by simp only [List.take_zero, List.map_nil, List.sum_nil]; omega), Below.refl _ _⟩
    case round =>
      obtain ⟨k, x, hk, rfl, rfl, hx0, hx1, hsm, hbel⟩ := hrel
      by_cases hlt : k < xs.length
      · obtain ⟨b, off, rfl, hbB, hc⟩ := hA (by omega)
        have hck : ∀ j, j < 6 → wr.cell? ⟨b, off + k * 6 + j, none⟩ = some (C k j) := fun j hj => (hbel.cell (p := ⟨b, off + k * 6 + j, none⟩) (by show b < _; omega)).trans (hc k hlt j hj)
        have hc0 : wr.cell? ⟨b, off + k * 6, none⟩ = some (C k 0) := hck 0 (by omega)
        have hc1 : wr.cell? ⟨b, off + k * 6 + 1, none⟩ = some (C k 1) := hck 1 (by omega)
        have hc2 : wr.cell? ⟨b, off + k * 6 + 2, none⟩ = some (C k 2) := hck 2 (by omega)
        have hc3 : wr.cell? ⟨b, off + k * 6 + 3, none⟩ = some (C k 3) := hck 3 (by omega)
        have hc4 : wr.cell? ⟨b, off + k * 6 + 4, none⟩ = some (C k 4) := hck 4 (by omega)
        have hc5 : wr.cell? ⟨b, off + k * 6 + 5, none⟩ = some (C k 5) := hck 5 (by omega)
        clear hck hc
        go_wp2_with (go_at_call 74; refine (szCell_any _ _ B _ x ((hr k hlt).under (hbel.mono hB)) (by have := hbel.size; omega) hx0 (by omega)).mono ?_; rintro e w' ⟨y, rfl, hy0, hy1, hy2, hby⟩; have HY := hid_of2 hy2; clear hy2)
        · go_ret
          exact ⟨-1, rfl, by omega, by omega, by omega, hbel.trans (hby.mono hbel.size)⟩
        · go_roundw
          case rel => exact ⟨k + 1, y, by omega, by go_num, rfl, by assumption, by omega, hid_of2 (by
            have h1 := HY.out (by assumption)
            have h2 := hsm.out
            have h3 : _ = _ + szC (cth xs k) := sum_take szC Ce.zero xs k hlt
            rw [h3]
            omega), hbel.trans (hby.mono hbel.size)⟩
          case measure => simp [intOf]; omega
      · go_wp2_with fail
        go_ret
        exact ⟨x, rfl, by omega, by omega, fun _ => by have h := hsm.out; rw [show k = xs.length by omega, List.take_length] at h; exact h, hbel⟩

theorem szRow_any (r : Ro) (w : World) (B : Nat) (v : Value) (left : Int) (hR : RoRep w (· < B) r v) (hB : B ≤ w.heap.size) (hl0 : 0 ≤ left) (hl1 : left ≤ 1048576) :
    Calls Tryz.prog 20 #[v, .int .i64 left] w fun e w' => ∃ x : Int, e = .returned (.int .i64 x) ∧ -1 ≤ x ∧ x ≤ left ∧ (0 ≤ x → x + szR r ≤ left) ∧ Below w.heap.size w w' :=
  szRow_any0 r (fun w B a c left h1 h2 h3 h4 => szCellS_any r.cells w B a c left h1 h2 h3 h4) w B v left hR hB hl0 hl1

set_option maxHeartbeats 400000 in
theorem szRowS_any (xs : List Ro) (w : World) (B : Nat) (a : Option Addr) (c : Nat) (left : Int) (hK : RoReps w (· < B) xs a) (hB : B ≤ w.heap.size) (hl0 : 0 ≤ left) (hl1 : left ≤ 1048576) :
    Calls Tryz.prog 5 #[.slice a xs.length c, .int .i64 left] w fun e w' => ∃ x : Int, e = .returned (.int .i64 x) ∧ -1 ≤ x ∧ x ≤ left ∧ (0 ≤ x → x + (xs.length + (xs.map szR).sum : Nat) ≤ left) ∧ Below w.heap.size w w' := by
  obtain ⟨h3, C, hA, hr⟩ := hK
  by_cases hbig : left < xs.length
  · go_enter Tryz.func5, Tryz.ntmps5
    go_wp2_with fail
    go_ret
    exact ⟨-1, rfl, by omega, by omega, by omega, Below.refl _ _⟩
  · go_enter Tryz.func5, Tryz.ntmps5
    go_wp2_with fail
    go_loopw [1, 5] (fun l i wr => ∃ (k : Nat) (x : Int), k ≤ xs.length ∧ i = .int .i64 k ∧ l = .int .i64 x ∧ 0 ≤ x ∧ x + xs.length ≤ left ∧ Hid (x + (xs.length + ((xs.take k).map szR).sum : Nat) ≤ left) ∧ Below w.heap.size w wr) (fun _ i _ => xs.length - (intOf i).toNat)
    case atStart => exact ⟨0, _, Nat.zero_le _, rfl, rfl, by omega, by omega, hid_of2 (by simp only [List.take_zero, List.map_nil, List.sum_nil]; omega), Below.refl _ _⟩
    case round =>
      obtain ⟨k, x, hk, rfl, rfl, hx0, hx1, hsm, hbel⟩ := hrel
      by_cases hlt : k < xs.length
      · obtain ⟨b, off, rfl, hbB, hc⟩ := hA (by omega)
        have hck : ∀ j, j < 3 → wr.cell? ⟨b, off + k * 3 + j, none⟩ = some (C k j) := fun j hj => (hbel.cell (p := ⟨b, off + k * 3 + j, none⟩) (by show b < _; omega)).trans (hc k hlt j hj)
        have hc0 : wr.cell? ⟨b, off + k * 3, none⟩ = some (C k 0) := hck 0 (by omega)
        have hc1 : wr.cell? ⟨b, off + k * 3 + 1, none⟩ = some (C k 1) := hck 1 (by omega)
        have hc2 : wr.cell? ⟨b, off + k * 3 + 2, none⟩ = some (C k 2) := hck 2 (by omega)
        clear hck hc
        go_wp2_with (go_at_call 20; refine (szRow_any _ _ B _ x ((hr k hlt).under (hbel.mono hB)) (by have := hbel.size; omega) hx0 (by omega)).mono ?_; rintro e w' ⟨y, rfl, hy0, hy1, hy2, hby⟩; have HY := hid_of2 hy2; clear hy2)
        · go_ret
          exact ⟨-1, rfl, by omega, by omega, by omega, hbel.trans (hby.mono hbel.size)⟩
        · go_roundw
          case rel => exact ⟨k + 1, y, by omega, by go_num, rfl, by assumption, by omega, hid_of2 (by
            have h1 := HY.out (by assumption)
            have h2 := hsm.out
            have h3 : _ = _ + szR (rth xs k) := sum_take szR Ro.zero xs k hlt
            rw [h3]
            omega), hbel.trans (hby.mono hbel.size)⟩
          case measure => simp [intOf]; omega
      · go_wp2_with fail
        go_ret
        exact ⟨x, rfl, by omega, by omega, fun _ => by have h := hsm.out; rw [show k = xs.length by omega, List.take_length] at h; exact h, hbel⟩
end Go.Proofs.YtmemijccbmnaaaaGreat

namespace Go.Proofs.YtmemijccbmnaaaaGreat
set_option linter.unusedSimpArgs false
set_option linter.unusedVariables false
open Go.RowKit

/-- Whether a value has just what its sort has, but for what is in it. -/
def plainV (s n : Int) (t : ByteArray) (ns : List ByteArray) (kl : Nat) : Bool :=
  (s == 1 && n == 0 && t.toList.isEmpty && ns.length == 0 && (kl : Int) == 0) ||
  (s == 2 && (n == 0 || n == 1) && t.toList.isEmpty && ns.length == 0 && (kl : Int) == 0) ||
  (s == 3 && decide (-999999 ≤ n) && decide (n ≤ 999999) && t.toList.isEmpty && ns.length == 0 && (kl : Int) == 0) ||
  (s == 4 && n == 0 && plainB t && ns.length == 0 && (kl : Int) == 0) ||
  (s == 5 && n == 0 && t.toList.isEmpty && ns.length == 0) ||
  (s == 6 && n == 0 && t.toList.isEmpty && (ns.length : Int) == (kl : Int) && onceTo ns ns.length)

set_option maxHeartbeats 400000 in
theorem l1Plain_a (s n : Int) (t : ByteArray) (ns : List ByteArray) (na ka : Option Addr) (nc kc kl : Nat) (w : World) (h6 : (s == 6) = false) (hn : 0 < ns.length) :
    Calls Tryz.prog 80 #[.agg #[.int .i64 s, .int .i64 n, .string t, .slice na ns.length nc, .slice ka kl kc]] w fun e w' => e = .returned (.bool (plainV s n t ns kl)) ∧ Below w.heap.size w w' := by
  have h6' : (s != 6) = true := by simp only [bne, h6]; rfl
  have hn' : (0 : Int) < (ns.length : Int) := by omega
  have hn0 : ¬ ns.length = 0 := by omega
  have hn1 : ¬ ns = [] := by intro e; simp [e] at hn
  go_enter Tryz.func80, Tryz.ntmps80
  go_wp2_with fail
  go_ret
  exact ⟨ret_bool (by simp [plainV, h6, hn1]), below_box _ _⟩

set_option maxHeartbeats 400000 in
theorem l1Plain_1 (n : Int) (t : ByteArray) (na ka : Option Addr) (nc kc kl : Nat) (w : World) :
    Calls Tryz.prog 80 #[.agg #[.int .i64 1, .int .i64 n, .string t, .slice na 0 nc, .slice ka kl kc]] w fun e w' => e = .returned (.bool (plainV 1 n t [] kl)) ∧ Below w.heap.size w w' := by
  cases ht : t.toList.isEmpty
  · go_enter Tryz.func80, Tryz.ntmps80
    go_wp2_with fail
    all_goals (go_ret; exact ⟨ret_bool (by simp [plainV, ht]), below_box _ _⟩)
  · cases hz : (n == 0)
    · have gz : (n != 0) = true := by simp only [bne, hz]; rfl
      go_enter Tryz.func80, Tryz.ntmps80
      go_wp2_with fail
      all_goals (go_ret; exact ⟨ret_bool (by simp [plainV, ht, hz]), below_box _ _⟩)
    · have gz : (n != 0) = false := by simp only [bne, hz]; rfl
      go_enter Tryz.func80, Tryz.ntmps80
      go_wp2_with fail
      all_goals (go_ret; exact ⟨ret_bool (by simp [plainV, ht, hz]), below_box _ _⟩)

set_option maxHeartbeats 400000 in
theorem l1Plain_2 (n : Int) (t : ByteArray) (na ka : Option Addr) (nc kc kl : Nat) (w : World) :
    Calls Tryz.prog 80 #[.agg #[.int .i64 2, .int .i64 n, .string t, .slice na 0 nc, .slice ka kl kc]] w fun e w' => e = .returned (.bool (plainV 2 n t [] kl)) ∧ Below w.heap.size w w' := by
  cases ht : t.toList.isEmpty
  · go_enter Tryz.func80, Tryz.ntmps80
    go_wp2_with (go_at_call 45; refine (l1In_any _ _ _ _).mono ?_; rintro e w' ⟨rfl, rfl⟩)
    all_goals (go_ret; exact ⟨ret_bool (by simp [plainV, ht]), below_box _ _⟩)
  · go_enter Tryz.func80, Tryz.ntmps80
    go_wp2_with (go_at_call 45; refine (l1In_any _ _ _ _).mono ?_; rintro e w' ⟨rfl, rfl⟩)
    all_goals (go_ret; exact ⟨ret_bool (by rw [Bool.eq_iff_iff]; simp [plainV, ht]; omega), below_box _ _⟩)

set_option maxHeartbeats 400000 in
theorem l1Plain_3 (n : Int) (t : ByteArray) (na ka : Option Addr) (nc kc kl : Nat) (w : World) :
    Calls Tryz.prog 80 #[.agg #[.int .i64 3, .int .i64 n, .string t, .slice na 0 nc, .slice ka kl kc]] w fun e w' => e = .returned (.bool (plainV 3 n t [] kl)) ∧ Below w.heap.size w w' := by
  cases ht : t.toList.isEmpty
  · go_enter Tryz.func80, Tryz.ntmps80
    go_wp2_with (go_at_call 45; refine (l1In_any _ _ _ _).mono ?_; rintro e w' ⟨rfl, rfl⟩)
    all_goals (go_ret; exact ⟨ret_bool (by simp [plainV, ht]), below_box _ _⟩)
  · go_enter Tryz.func80, Tryz.ntmps80
    go_wp2_with (go_at_call 45; refine (l1In_any _ _ _ _).mono ?_; rintro e w' ⟨rfl, rfl⟩)
    all_goals (go_ret; exact ⟨ret_bool (by rw [Bool.eq_iff_iff]; simp [plainV, ht]; omega), below_box _ _⟩)

set_option maxHeartbeats 400000 in
theorem l1Plain_4 (n : Int) (t : ByteArray) (na ka : Option Addr) (nc kc kl : Nat) (w : World) (hts : t.size ≤ maxLen) :
    Calls Tryz.prog 80 #[.agg #[.int .i64 4, .int .i64 n, .string t, .slice na 0 nc, .slice ka kl kc]] w fun e w' => e = .returned (.bool (plainV 4 n t [] kl)) ∧ Below w.heap.size w w' := by
  cases hz : (n == 0)
  · have gz : (n != 0) = true := by simp only [bne, hz]; rfl
    go_enter Tryz.func80, Tryz.ntmps80
    go_wp2_with (go_at_call 105; refine (l1Text_any _ _ hts).mono ?_; rintro e w' ⟨rfl, rfl⟩)
    all_goals (go_ret; exact ⟨ret_bool (by cases hp : plainB t <;> simp_all [plainV]), below_box _ _⟩)
  · have gz : (n != 0) = false := by simp only [bne, hz]; rfl
    go_enter Tryz.func80, Tryz.ntmps80
    go_wp2_with (go_at_call 105; refine (l1Text_any _ _ hts).mono ?_; rintro e w' ⟨rfl, rfl⟩)
    all_goals (go_ret; exact ⟨ret_bool (by cases hp : plainB t <;> simp_all [plainV]), below_box _ _⟩)

set_option maxHeartbeats 400000 in
theorem l1Plain_5 (n : Int) (t : ByteArray) (na ka : Option Addr) (nc kc kl : Nat) (w : World) :
    Calls Tryz.prog 80 #[.agg #[.int .i64 5, .int .i64 n, .string t, .slice na 0 nc, .slice ka kl kc]] w fun e w' => e = .returned (.bool (plainV 5 n t [] kl)) ∧ Below w.heap.size w w' := by
  cases ht : t.toList.isEmpty
  · go_enter Tryz.func80, Tryz.ntmps80
    go_wp2_with fail
    all_goals (go_ret; exact ⟨ret_bool (by simp [plainV, ht]), below_box _ _⟩)
  · cases hz : (n == 0)
    · have gz : (n != 0) = true := by simp only [bne, hz]; rfl
      go_enter Tryz.func80, Tryz.ntmps80
      go_wp2_with fail
      all_goals (go_ret; exact ⟨ret_bool (by simp [plainV, ht, hz]), below_box _ _⟩)
    · have gz : (n != 0) = false := by simp only [bne, hz]; rfl
      go_enter Tryz.func80, Tryz.ntmps80
      go_wp2_with fail
      all_goals (go_ret; exact ⟨ret_bool (by simp [plainV, ht, hz]), below_box _ _⟩)

set_option maxHeartbeats 400000 in
theorem l1Plain_x (s : Int) (n : Int) (t : ByteArray) (na ka : Option Addr) (nc kc kl : Nat) (w : World) (h1 : (s == 1) = false) (h2 : (s == 2) = false) (h3 : (s == 3) = false) (h4 : (s == 4) = false) (h5 : (s == 5) = false) (h6 : (s == 6) = false) :
    Calls Tryz.prog 80 #[.agg #[.int .i64 s, .int .i64 n, .string t, .slice na 0 nc, .slice ka kl kc]] w fun e w' => e = .returned (.bool (plainV s n t [] kl)) ∧ Below w.heap.size w w' := by
  have g2 : (s != 2) = true := by simp only [bne, h2]; rfl
  have g3 : (s != 3) = true := by simp only [bne, h3]; rfl
  have g4 : (s != 4) = true := by simp only [bne, h4]; rfl
  have g6 : (s != 6) = true := by simp only [bne, h6]; rfl
  cases ht : t.toList.isEmpty
  · go_enter Tryz.func80, Tryz.ntmps80
    go_wp2_with fail
    all_goals (go_ret; exact ⟨ret_bool (by simp [plainV, h1, h2, h3, h4, h5, h6, ht]), below_box _ _⟩)
  · cases hz : (n == 0)
    · have gz : (n != 0) = true := by simp only [bne, hz]; rfl
      go_enter Tryz.func80, Tryz.ntmps80
      go_wp2_with fail
      all_goals (go_ret; exact ⟨ret_bool (by simp [plainV, h1, h2, h3, h4, h5, h6, ht, hz]), below_box _ _⟩)
    · have gz : (n != 0) = false := by simp only [bne, hz]; rfl
      go_enter Tryz.func80, Tryz.ntmps80
      go_wp2_with fail
      all_goals (go_ret; exact ⟨ret_bool (by simp [plainV, h1, h2, h3, h4, h5, h6, ht, hz]), below_box _ _⟩)

end Go.Proofs.YtmemijccbmnaaaaGreat

namespace Go.Proofs.YtmemijccbmnaaaaGreat
set_option linter.unusedSimpArgs false
set_option linter.unusedVariables false
open Go.RowKit

set_option maxHeartbeats 800000 in
theorem l1Plain_6 (n : Int) (t : ByteArray) (ns : List ByteArray) (na ka : Option Addr) (nc kc kl : Nat) (w : World) (hS : Strs w (· < w.heap.size) ns na) (hcap : ns.length ≤ nc) :
    Calls Tryz.prog 80 #[.agg #[.int .i64 6, .int .i64 n, .string t, .slice na ns.length nc, .slice ka kl kc]] w fun e w' => e = .returned (.bool (plainV 6 n t ns kl)) ∧ Below w.heap.size w w' := by
  cases ht : t.toList.isEmpty
  · go_enter Tryz.func80, Tryz.ntmps80
    go_wp2_with fail
    go_ret
    exact ⟨ret_bool (by simp [plainV, ht]), below_box _ _⟩
  cases hz : (n == 0)
  · have gz : (n != 0) = true := by simp only [bne, hz]; rfl
    go_enter Tryz.func80, Tryz.ntmps80
    go_wp2_with fail
    go_ret
    exact ⟨ret_bool (by simp [plainV, hz]), below_box _ _⟩
  have gz : (n != 0) = false := by simp only [bne, hz]; rfl
  have hpl : Hid (plainV 6 n t ns kl = ((ns.length : Int) == (kl : Int) && onceTo ns ns.length)) := by show _ = _; simp [plainV, hz, ht]
  by_cases hn0 : ns.length = 0
  · have hns : ns = [] := by simpa using hn0
    subst hns
    go_enter Tryz.func80, Tryz.ntmps80
    go_wp2_with fail
    go_loop [3] (fun i => i = .int .i64 0) (fun _ => 0)
    case atStart => rfl
    case round =>
      subst hrel
      go_wp2_with fail
      go_ret
      exact ⟨ret_bool (by rw [hpl.out]; simp [onceTo]), below_box _ _⟩
  have hS' : ∀ wr m, Below w.heap.size w wr → Strs (wr.drewN m) (· < w.heap.size) ns na := fun wr m hb => hS.under (below_drews hb m)
  obtain ⟨h1, h2, h3⟩ := hS
  unfold maxLen at h3
  obtain ⟨b, off, rfl, hbB, hc⟩ := h1 (by intro e; simp [e] at hn0)
  clear h1
  go_enter Tryz.func80, Tryz.ntmps80
  go_wp2_with fail
  go_loopw [3] (fun i wr => ∃ k : Nat, k ≤ ns.length ∧ i = .int .i64 k ∧ onceTo ns k = true ∧ Below w.heap.size w wr ∧ wr.cell? ⟨w.heap.size, 3, none⟩ = some (.slice (some ⟨b, off, none⟩) ns.length nc) ∧ wr.cell? ⟨w.heap.size, 4, none⟩ = some (.slice ka kl kc)) (fun i _ => ns.length - (intOf i).toNat)
  case atStart => exact ⟨0, Nat.zero_le _, rfl, rfl, below_box _ _, by simp, by simp⟩
  case round =>
    obtain ⟨k, hk, rfl, hp, hbel, hx3, hx4⟩ := hrel
    have HP : Hid (onceTo ns k = true) := hp
    clear hp
    by_cases hlt : k < ns.length
    · have hck : wr.cell? ⟨b, off + k, none⟩ = some (.string (nth ns k)) := (hbel.cell (p := ⟨b, off + k, none⟩) hbB).trans (hc k hlt)
      have h2k := h2 k
      have hki : (k : Int) < (ns.length : Int) := by omega
      have hknc : k ≤ nc := by omega
      clear hc h2
      cases hw : wordB (nth ns k)
      · have hcn : ∀ w, Calls Tryz.prog 100 #[.string (nth ns k)] w fun e w' => e = .returned (.bool false) ∧ w' = w := fun w => (l1Name_any _ w h2k).mono fun _ _ h => ⟨by rw [h.1, hw], h.2.symm⟩
        go_wp2_with fail
        go_quiet (first | (go_at_call 100; exact Calls.quiet_of_same (hcn _)))
        go_wp2_with fail
        go_ret
        exact ⟨ret_bool (by rw [hpl.out, onceTo_false ns _ k hlt (by rw [hw]; rfl)]; simp), below_drews hbel _⟩
      · have hcn : ∀ w, Calls Tryz.prog 100 #[.string (nth ns k)] w fun e w' => e = .returned (.bool true) ∧ w' = w := fun w => (l1Name_any _ w h2k).mono fun _ _ h => ⟨by rw [h.1, hw], h.2.symm⟩
        cases hh : hasTo ns (nth ns k) k
        · have hch : ∀ m, Calls Tryz.prog 106 #[.slice (some ⟨b, off, none⟩) k nc, .string (nth ns k)] (wr.drewN m) fun e w' => e = .returned (.bool false) ∧ w' = wr.drewN m := fun m => (l1Has_any ns _ _ _ _ _ (hS' wr m hbel) k hk).mono fun _ _ h => ⟨by rw [h.1, hh], h.2.symm⟩
          go_wp2_with fail
          go_quiet (first | (go_at_call 100; exact Calls.quiet_of_same (hcn _)) | (go_at_call 106; exact Calls.quiet_of_same (hch _)))
          go_wp2_with fail
          go_roundw
          case rel => exact ⟨k + 1, by omega, by go_num, by rw [onceTo_succ, HP.out, hw, hh]; rfl, below_drews hbel _, by simpa using hx3, by simpa using hx4⟩
          case measure => simp [intOf]; omega
        · have hch : ∀ m, Calls Tryz.prog 106 #[.slice (some ⟨b, off, none⟩) k nc, .string (nth ns k)] (wr.drewN m) fun e w' => e = .returned (.bool true) ∧ w' = wr.drewN m := fun m => (l1Has_any ns _ _ _ _ _ (hS' wr m hbel) k hk).mono fun _ _ h => ⟨by rw [h.1, hh], h.2.symm⟩
          go_wp2_with fail
          go_quiet (first | (go_at_call 100; exact Calls.quiet_of_same (hcn _)) | (go_at_call 106; exact Calls.quiet_of_same (hch _)))
          go_wp2_with fail
          go_ret
          exact ⟨ret_bool (by rw [hpl.out, onceTo_false ns _ k hlt (by rw [hw, hh]; rfl)]; simp), below_drews hbel _⟩
    · go_wp2_with fail
      go_ret
      have e : k = ns.length := by omega
      exact ⟨ret_bool (by rw [hpl.out, ← e, HP.out]; simp), hbel⟩
end Go.Proofs.YtmemijccbmnaaaaGreat

namespace Go.Proofs.YtmemijccbmnaaaaGreat
set_option linter.unusedSimpArgs false
set_option linter.unusedVariables false
open Go.RowKit

theorem l1Plain_any (s n : Int) (t : ByteArray) (ns : List ByteArray) (na ka : Option Addr) (nc kc kl : Nat) (w : World) (hS : Strs w (· < w.heap.size) ns na) (hcap : ns.length ≤ nc) (ht : t.size ≤ maxLen) :
    Calls Tryz.prog 80 #[.agg #[.int .i64 s, .int .i64 n, .string t, .slice na ns.length nc, .slice ka kl kc]] w fun e w' => e = .returned (.bool (plainV s n t ns kl)) ∧ Below w.heap.size w w' := by
  by_cases h6 : s = 6
  · subst h6; exact l1Plain_6 n t ns na ka nc kc kl w hS hcap
  by_cases hn : 0 < ns.length
  · exact l1Plain_a s n t ns na ka nc kc kl w (by simpa using h6) hn
  have hns : ns = [] := by simpa using hn
  subst hns
  by_cases h1 : s = 1
  · subst h1; exact l1Plain_1 n t na ka nc kc kl w
  by_cases h2 : s = 2
  · subst h2; exact l1Plain_2 n t na ka nc kc kl w
  by_cases h3 : s = 3
  · subst h3; exact l1Plain_3 n t na ka nc kc kl w
  by_cases h4 : s = 4
  · subst h4; exact l1Plain_4 n t na ka nc kc kl w ht
  by_cases h5 : s = 5
  · subst h5; exact l1Plain_5 n t na ka nc kc kl w
  exact l1Plain_x s n t na ka nc kc kl w (by simpa using h1) (by simpa using h2) (by simpa using h3) (by simpa using h4) (by simpa using h5) (by simpa using h6)

/-- How many parts are left behind a value, of so many, where so many levels may come; below 0 if it is not ok. -/
def partsF : Nat → V → Int → Int
  | 0, _, _ => -1
  | f + 1, x, l => if l - 1 < 0 ∨ plainV x.sort x.num x.text x.names x.kids.length = false then -1 else x.kids.foldl (fun n k => if 0 ≤ n then partsF f k n else n) (l - 1)
/-- How many parts are left behind a value at a level, of so many. -/
def partsV (x : V) (d l : Int) : Int := partsF (17 - d).toNat x l
/-- The same of a list of values. -/
def partsL (ks : List V) (d n : Int) : Int := ks.foldl (fun n k => if 0 ≤ n then partsV k d n else n) n

theorem partsV_eq (s n : Int) (t : ByteArray) (ns : List ByteArray) (ks : List V) (d l : Int) : partsV (.mk s n t ns ks) d l = if l - 1 < 0 ∨ 16 < d ∨ plainV s n t ns ks.length = false then -1 else partsL ks (d + 1) (l - 1) := by
  unfold partsV
  by_cases h : 16 < d
  · rw [if_pos (Or.inr (Or.inl h)), show (17 - d).toNat = 0 by omega, partsF]
  · obtain ⟨f, hf⟩ : ∃ f, (17 - d).toNat = f + 1 := ⟨(17 - (d + 1)).toNat, by omega⟩
    have hf' : (17 - (d + 1)).toNat = f := by omega
    rw [hf, partsF]
    simp only [partsL, partsV, hf', h, false_or]
theorem partsL_nil (d n : Int) : partsL [] d n = n := rfl
theorem partsL_neg (ks : List V) (d : Int) : ∀ n : Int, n < 0 → partsL ks d n = n := by
  induction ks with
  | nil => intro n _; rfl
  | cons k ks ih => intro n h; rw [partsL, List.foldl_cons, if_neg (by omega)]; exact ih n h
theorem partsL_cons (k : V) (ks : List V) (d n : Int) : partsL (k :: ks) d n = if 0 ≤ n then partsL ks d (partsV k d n) else n := by
  by_cases h : 0 ≤ n
  · rw [if_pos h, partsL, List.foldl_cons, if_pos h]; rfl
  · rw [if_neg h]; exact partsL_neg _ _ _ (by omega)
theorem partsL_append (xs ys : List V) (d n : Int) : partsL (xs ++ ys) d n = partsL ys d (partsL xs d n) := by
  simp only [partsL, List.foldl_append]
theorem take_kth (ks : List V) (k : Nat) (h : k < ks.length) : ks.take (k + 1) = ks.take k ++ [kth ks k] := by
  rw [List.take_succ_eq_append_getElem h]; simp [kth, List.getD_eq_getElem?_getD, h]
theorem partsL_succ (ks : List V) (k : Nat) (h : k < ks.length) (d n : Int) (hp : 0 ≤ partsL (ks.take k) d n) : partsL (ks.take (k + 1)) d n = partsV (kth ks k) d (partsL (ks.take k) d n) := by
  rw [take_kth ks k h, partsL_append, partsL_cons, if_pos hp, partsL_nil]
theorem partsL_stop (ks : List V) (k : Nat) (d n : Int) (hp : partsL (ks.take k) d n < 0) : partsL ks d n = partsL (ks.take k) d n := by
  conv => lhs; rw [← List.take_append_drop k ks]
  rw [partsL_append, partsL_neg _ _ _ hp]

/-- The bounds of what is left, by the size of a value. -/
theorem parts_bd (m : Nat) : (∀ x : V, SizeOf.sizeOf x < m → ∀ d l : Int, 0 ≤ l → -1 ≤ partsV x d l ∧ partsV x d l < l ∨ partsV x d l = -1) ∧
    (∀ ks : List V, SizeOf.sizeOf ks < m → ∀ d n : Int, -1 ≤ n → -1 ≤ partsL ks d n ∧ partsL ks d n ≤ n ∧ (0 ≤ partsL ks d n → (ks.length : Int) + partsL ks d n ≤ n)) := by
  induction m with
  | zero => exact ⟨fun x h => by omega, fun x h => by omega⟩
  | succ m ih =>
    refine ⟨fun x hx d l hl => ?_, fun ks hk d n hn => ?_⟩
    · match x, hx with
      | .mk s n t ns ks, hx =>
        rw [partsV_eq]
        split
        · exact Or.inr rfl
        · have := ih.2 ks (by simp at hx; omega) (d + 1) (l - 1) (by omega)
          left; omega
    · match ks, hk with
      | [], hk => rw [partsL_nil]; simp; omega
      | k :: ks, hk =>
        rw [partsL_cons]
        split
        · rename_i h0
          have h1 := ih.1 k (by simp at hk; omega) d n h0
          have h2 := ih.2 ks (by simp at hk; omega) d (partsV k d n) (by omega)
          simp only [List.length_cons]
          by_cases h3 : 0 ≤ partsV k d n
          · omega
          · have := partsL_neg ks d (partsV k d n) (by omega); omega
        · omega
theorem partsL_bd (ks : List V) (d n : Int) (hn : -1 ≤ n) : -1 ≤ partsL ks d n ∧ partsL ks d n ≤ n ∧ (0 ≤ partsL ks d n → (ks.length : Int) + partsL ks d n ≤ n) :=
  (parts_bd _).2 ks (Nat.lt_succ_self _) d n hn

/-- Whether a value is ok. -/
def okV (x : V) : Bool := decide (0 ≤ partsV x 1 600)

end Go.Proofs.YtmemijccbmnaaaaGreat

namespace Go.Proofs.YtmemijccbmnaaaaGreat
set_option linter.unusedSimpArgs false
set_option linter.unusedVariables false
open Go.RowKit

def nokV (ns : List ByteArray) (kl : Nat) : Bool := (ns.length : Int) == 0 && (kl : Int) == 0

set_option maxHeartbeats 400000 in
theorem hasNoKids_any (s n : Int) (t : ByteArray) (ns : List ByteArray) (na ka : Option Addr) (nc kc kl : Nat) (w : World) :
    Calls Tryz.prog 123 #[.agg #[.int .i64 s, .int .i64 n, .string t, .slice na ns.length nc, .slice ka kl kc]] w fun e w' => e = .returned (.bool (nokV ns kl)) ∧ Below w.heap.size w w' := by
  cases h : ((ns.length : Int) == 0)
  · go_enter Tryz.func123, Tryz.ntmps123
    go_wp2_with fail
    go_ret
    exact ⟨ret_bool (by simp only [nokV, h]; rfl), below_box _ _⟩
  · go_enter Tryz.func123, Tryz.ntmps123
    go_wp2_with fail
    go_ret
    exact ⟨ret_bool (by simp only [nokV, h]; rfl), below_box _ _⟩

set_option maxHeartbeats 400000 in
theorem holds1_any (s n : Int) (t : ByteArray) (ns : List ByteArray) (na ka : Option Addr) (nc kc kl : Nat) (w : World) :
    Calls Tryz.prog 175 #[.agg #[], .agg #[.int .i64 s, .int .i64 n, .string t, .slice na ns.length nc, .slice ka kl kc]] w fun e w' => e = .returned (.bool (n == 0 && t.toList.isEmpty && nokV ns kl)) ∧ Below w.heap.size w w' := by
  cases hz : (n == 0)
  · go_enter Tryz.func175, Tryz.ntmps175
    go_wp2_with fail
    go_ret
    exact ⟨ret_bool (by simp), below_box2 _ _ _⟩
  cases ht : t.toList.isEmpty
  · go_enter Tryz.func175, Tryz.ntmps175
    go_wp2_with fail
    go_ret
    exact ⟨ret_bool (by simp), below_box2 _ _ _⟩
  · go_enter Tryz.func175, Tryz.ntmps175
    go_wp2_with (go_at_call 123; refine (hasNoKids_any _ _ _ _ _ _ _ _ _ _).mono ?_; rintro e w1 ⟨rfl, hb⟩)
    go_ret
    exact ⟨ret_bool (by simp), (below_box2 w _ _).trans (hb.mono (by simp; omega))⟩
set_option maxHeartbeats 400000 in
theorem holds2_any (s n : Int) (t : ByteArray) (ns : List ByteArray) (na ka : Option Addr) (nc kc kl : Nat) (w : World) :
    Calls Tryz.prog 179 #[.agg #[], .agg #[.int .i64 s, .int .i64 n, .string t, .slice na ns.length nc, .slice ka kl kc]] w fun e w' => e = .returned (.bool ((n == 0 || n == 1) && t.toList.isEmpty && nokV ns kl)) ∧ Below w.heap.size w w' := by
  cases hz : (n == 0) <;> cases ho : (n == 1) <;> cases ht : t.toList.isEmpty
  · go_enter Tryz.func179, Tryz.ntmps179
    go_wp2_with fail
    go_ret
    exact ⟨ret_bool (by simp), below_box2 _ _ _⟩
  · go_enter Tryz.func179, Tryz.ntmps179
    go_wp2_with fail
    go_ret
    exact ⟨ret_bool (by simp), below_box2 _ _ _⟩
  · go_enter Tryz.func179, Tryz.ntmps179
    go_wp2_with fail
    go_ret
    exact ⟨ret_bool (by simp), below_box2 _ _ _⟩
  · go_enter Tryz.func179, Tryz.ntmps179
    go_wp2_with (go_at_call 123; refine (hasNoKids_any _ _ _ _ _ _ _ _ _ _).mono ?_; rintro e w1 ⟨rfl, hb⟩)
    go_ret
    exact ⟨ret_bool (by simp), (below_box2 w _ _).trans (hb.mono (by simp; omega))⟩
  · go_enter Tryz.func179, Tryz.ntmps179
    go_wp2_with fail
    go_ret
    exact ⟨ret_bool (by simp), below_box2 _ _ _⟩
  · go_enter Tryz.func179, Tryz.ntmps179
    go_wp2_with (go_at_call 123; refine (hasNoKids_any _ _ _ _ _ _ _ _ _ _).mono ?_; rintro e w1 ⟨rfl, hb⟩)
    go_ret
    exact ⟨ret_bool (by simp), (below_box2 w _ _).trans (hb.mono (by simp; omega))⟩
  · exfalso; simp at hz ho; omega
  · exfalso; simp at hz ho; omega
set_option maxHeartbeats 400000 in
theorem holds3_any (s n : Int) (t : ByteArray) (ns : List ByteArray) (na ka : Option Addr) (nc kc kl : Nat) (w : World) :
    Calls Tryz.prog 183 #[.agg #[], .agg #[.int .i64 s, .int .i64 n, .string t, .slice na ns.length nc, .slice ka kl kc]] w fun e w' => e = .returned (.bool (decide (-999999 ≤ n) && decide (n ≤ 999999) && t.toList.isEmpty && nokV ns kl)) ∧ Below w.heap.size w w' := by
  by_cases h1 : -999999 ≤ n
  · by_cases h2 : n ≤ 999999
    · cases ht : t.toList.isEmpty
      · go_enter Tryz.func183, Tryz.ntmps183
        go_wp2_with fail
        go_ret
        exact ⟨ret_bool (by simp), below_box2 _ _ _⟩
      · go_enter Tryz.func183, Tryz.ntmps183
        go_wp2_with (go_at_call 123; refine (hasNoKids_any _ _ _ _ _ _ _ _ _ _).mono ?_; rintro e w1 ⟨rfl, hb⟩)
        go_ret
        exact ⟨ret_bool (by simp [h1, h2]), (below_box2 w _ _).trans (hb.mono (by simp; omega))⟩
    · have h2' : decide (n ≤ 999999) = false := by simp; omega
      go_enter Tryz.func183, Tryz.ntmps183
      go_wp2_with fail
      go_ret
      exact ⟨ret_bool rfl, below_box2 _ _ _⟩
  · have h1' : decide (-999999 ≤ n) = false := by simp; omega
    go_enter Tryz.func183, Tryz.ntmps183
    go_wp2_with fail
    go_ret
    exact ⟨ret_bool rfl, below_box2 _ _ _⟩
set_option maxHeartbeats 400000 in
theorem holds4_any (s n : Int) (t : ByteArray) (ns : List ByteArray) (na ka : Option Addr) (nc kc kl : Nat) (w : World) (hts : t.size ≤ maxLen) :
    Calls Tryz.prog 187 #[.agg #[], .agg #[.int .i64 s, .int .i64 n, .string t, .slice na ns.length nc, .slice ka kl kc]] w fun e w' => e = .returned (.bool (n == 0 && plainB t && nokV ns kl)) ∧ Below w.heap.size w w' := by
  cases hz : (n == 0)
  · go_enter Tryz.func187, Tryz.ntmps187
    go_wp2_with fail
    go_ret
    exact ⟨ret_bool (by simp), below_box2 _ _ _⟩
  cases hp : plainB t
  · go_enter Tryz.func187, Tryz.ntmps187
    go_wp2_with (first | (go_at_call 190; refine (isPlainText_any _ _ hts).mono ?_; rintro e w1 ⟨rfl, rfl⟩) | (go_at_call 123; refine (hasNoKids_any _ _ _ _ _ _ _ _ _ _).mono ?_; rintro e w1 ⟨rfl, hb⟩))
    go_ret
    exact ⟨ret_bool (by simp), below_box2 _ _ _⟩
  · go_enter Tryz.func187, Tryz.ntmps187
    go_wp2_with (first | (go_at_call 190; refine (isPlainText_any _ _ hts).mono ?_; rintro e w1 ⟨rfl, rfl⟩) | (go_at_call 123; refine (hasNoKids_any _ _ _ _ _ _ _ _ _ _).mono ?_; rintro e w1 ⟨rfl, hb⟩))
    go_ret
    exact ⟨ret_bool (by simp), (below_box2 w _ _).trans (hb.mono (by simp; omega))⟩
set_option maxHeartbeats 400000 in
theorem holds5_any (s n : Int) (t : ByteArray) (ns : List ByteArray) (na ka : Option Addr) (nc kc kl : Nat) (w : World) :
    Calls Tryz.prog 193 #[.agg #[], .agg #[.int .i64 s, .int .i64 n, .string t, .slice na ns.length nc, .slice ka kl kc]] w fun e w' => e = .returned (.bool (n == 0 && t.toList.isEmpty && (ns.length : Int) == 0)) ∧ Below w.heap.size w w' := by
  cases hz : (n == 0)
  · go_enter Tryz.func193, Tryz.ntmps193
    go_wp2_with fail
    go_ret
    exact ⟨ret_bool (by simp), below_box2 _ _ _⟩
  cases ht : t.toList.isEmpty
  · go_enter Tryz.func193, Tryz.ntmps193
    go_wp2_with fail
    go_ret
    exact ⟨ret_bool (by simp), below_box2 _ _ _⟩
  · go_enter Tryz.func193, Tryz.ntmps193
    go_wp2_with fail
    go_ret
    exact ⟨ret_bool (by simp), below_box2 _ _ _⟩
set_option maxHeartbeats 400000 in
theorem holds6_any (s n : Int) (t : ByteArray) (ns : List ByteArray) (na ka : Option Addr) (nc kc kl : Nat) (w : World) (hS : Strs w (· < w.heap.size) ns na) (hcap : ns.length ≤ nc) :
    Calls Tryz.prog 200 #[.agg #[], .agg #[.int .i64 s, .int .i64 n, .string t, .slice na ns.length nc, .slice ka kl kc]] w fun e w' => e = .returned (.bool (n == 0 && t.toList.isEmpty && (ns.length : Int) == (kl : Int) && onceTo ns ns.length)) ∧ Below w.heap.size w w' := by
  cases hz : (n == 0)
  · go_enter Tryz.func200, Tryz.ntmps200
    go_wp2_with fail
    go_ret
    exact ⟨ret_bool (by simp), below_box2 _ _ _⟩
  cases ht : t.toList.isEmpty
  · go_enter Tryz.func200, Tryz.ntmps200
    go_wp2_with fail
    go_ret
    exact ⟨ret_bool (by simp), below_box2 _ _ _⟩
  cases hl : ((ns.length : Int) == (kl : Int))
  · go_enter Tryz.func200, Tryz.ntmps200
    go_wp2_with fail
    go_ret
    exact ⟨ret_bool (by simp), below_box2 _ _ _⟩
  · go_enter Tryz.func200, Tryz.ntmps200
    go_wp2_with (go_at_call 205; refine (areWordsOnce_any ns _ _ _ (· < w.heap.size) (hS.under (below_box2 w _ _)) hcap).mono ?_; rintro e w1 ⟨rfl, rfl⟩)
    go_ret
    exact ⟨ret_bool (by simp), below_box2 _ _ _⟩

/-- The row of the table of a sort. -/
def sortV (s : Int) : Value := if s = 1 then .iface 212 (.agg #[]) else if s = 2 then .iface 213 (.agg #[]) else if s = 3 then .iface 214 (.agg #[]) else if s = 4 then .iface 215 (.agg #[]) else if s = 5 then .iface 216 (.agg #[]) else if s = 6 then .iface 217 (.agg #[]) else .nilIface
def isSort (s : Int) : Bool := decide (1 ≤ s) && decide (s ≤ 6)

set_option maxHeartbeats 400000 in
theorem sortOf_any (s : Int) (w : World) :
    Calls Tryz.prog 149 #[.int .i64 s] w fun e w' => e = .returned (.tuple #[sortV s, .bool (isSort s)]) ∧ w = w' := by
  by_cases h1 : s = 1
  · subst h1; go_enter Tryz.func149, Tryz.ntmps149; go_wp2; go_ret2; exact ⟨rfl, rfl⟩
  by_cases h2 : s = 2
  · subst h2; go_enter Tryz.func149, Tryz.ntmps149; go_wp2; go_ret2; exact ⟨rfl, rfl⟩
  by_cases h3 : s = 3
  · subst h3; go_enter Tryz.func149, Tryz.ntmps149; go_wp2; go_ret2; exact ⟨rfl, rfl⟩
  by_cases h4 : s = 4
  · subst h4; go_enter Tryz.func149, Tryz.ntmps149; go_wp2; go_ret2; exact ⟨rfl, rfl⟩
  by_cases h5 : s = 5
  · subst h5; go_enter Tryz.func149, Tryz.ntmps149; go_wp2; go_ret2; exact ⟨rfl, rfl⟩
  by_cases h6 : s = 6
  · subst h6; go_enter Tryz.func149, Tryz.ntmps149; go_wp2; go_ret2; exact ⟨rfl, rfl⟩
  have e1 : (s == 1) = false := by simpa using h1
  have e2 : (s == 2) = false := by simpa using h2
  have e3 : (s == 3) = false := by simpa using h3
  have e4 : (s == 4) = false := by simpa using h4
  have e5 : (s == 5) = false := by simpa using h5
  have e6 : (s == 6) = false := by simpa using h6
  have H : Hid (Ending.returned (.tuple #[.nilIface, .bool false]) = .returned (.tuple #[sortV s, .bool (isSort s)])) := by
    show _ = _
    have : isSort s = false := by simp [isSort]; omega
    simp [sortV, h1, h2, h3, h4, h5, h6, this]
  clear h1 h2 h3 h4 h5 h6
  go_enter Tryz.func149, Tryz.ntmps149
  go_wp2
  go_ret2
  exact ⟨H.out, rfl⟩

set_option maxHeartbeats 400000 in
theorem enter_no (rb : Nat) (lv p : Int) (w : World) (hc : w.cell? ⟨rb, 0, none⟩ = some (.int .i64 p)) (h : 16 < lv ∨ p = 0) :
    Calls Tryz.prog 148 #[.pointer (some ⟨rb, 0, none⟩), .int .i64 lv] w fun e w' => e = .returned (.bool false) ∧ w = w' := by
  by_cases h1 : 16 < lv
  · go_enter Tryz.func148, Tryz.ntmps148
    go_wp2
    go_ret
    exact ⟨rfl, rfl⟩
  · have hp : p = 0 := by omega
    subst hp
    go_enter Tryz.func148, Tryz.ntmps148
    go_wp2
    go_ret
    exact ⟨rfl, rfl⟩
set_option maxHeartbeats 400000 in
theorem enter_yes (rb : Nat) (lv p : Int) (w : World) (hc : w.cell? ⟨rb, 0, none⟩ = some (.int .i64 p)) (hf : w.frozen? ⟨rb, 0, none⟩ = false) (h1 : lv ≤ 16) (h2 : 0 < p) (h3 : p ≤ 600) :
    Calls Tryz.prog 148 #[.pointer (some ⟨rb, 0, none⟩), .int .i64 lv] w fun e w' => e = .returned (.bool true) ∧ w.setCell ⟨rb, 0, none⟩ (.int .i64 (p - 1)) = w' := by
  have hp : (p == 0) = false := by simp; omega
  go_enter Tryz.func148, Tryz.ntmps148
  go_wp2
  go_ret
  exact ⟨rfl, rfl⟩
end Go.Proofs.YtmemijccbmnaaaaGreat

namespace Go.Proofs.YtmemijccbmnaaaaGreat
set_option linter.unusedSimpArgs false
set_option linter.unusedVariables false
open Go.RowKit

/-- The first fields that a part knows itself. -/
def KF (fs : List F) : Nat → List F
  | 0 => []
  | n + 1 => if (fth fs n).far = true then KF fs n else KF fs n ++ [fth fs n]
theorem KF_pre (fs : List F) : ∀ n m, n ≤ m → ∃ l, KF fs m = KF fs n ++ l := fun n m h => by
  induction h with
  | refl => exact ⟨[], by simp⟩
  | step h ih =>
    obtain ⟨l, hl⟩ := ih
    rw [KF]
    split
    · exact ⟨l, hl⟩
    · exact ⟨l ++ [fth fs _], by rw [hl, List.append_assoc]⟩
theorem KF_len (fs : List F) : ∀ n, (KF fs n).length ≤ n
  | 0 => by simp [KF]
  | n + 1 => by
    have := KF_len fs n
    rw [KF]; split
    · omega
    · simp; omega
theorem KF_at (fs : List F) (n m : Nat) (h : n < m) (hf : (fth fs n).far = false) : (KF fs n).length < (KF fs m).length ∧ fth (KF fs m) (KF fs n).length = fth fs n := by
  obtain ⟨l, hl⟩ := KF_pre fs (n + 1) m h
  rw [KF, if_neg (by simp [hf])] at hl
  rw [hl]
  constructor
  · simp
  · simp [fth, List.getD_eq_getElem?_getD]
end Go.Proofs.YtmemijccbmnaaaaGreat
