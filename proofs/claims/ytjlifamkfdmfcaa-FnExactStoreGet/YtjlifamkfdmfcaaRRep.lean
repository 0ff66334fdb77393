/-
  Cells and rows in memory, and the laws' functions over them.
-/
import Derived.Test.YtjlifamkfdmfcaaVSize
import Derived.Test.YtjlifamkfdmfcaaVNf
import Derived.Test.YtjlifamkfdmfcaaArr
import Derived.Test.YtjlifamkfdmfcaaEq
namespace Go.Proofs.Ytjlifamkfdmfcaa
set_option linter.unusedSimpArgs false
set_option linter.unusedVariables false
open Go.RowKit

/-- A cell as it is meant. -/
structure Ce where
  name : ByteArray
  val : V
/-- A row as it is meant. -/
structure Ro where
  type : ByteArray
  id : Int
  cells : List Ce
def Ce.zero : Ce := ⟨ByteArray.empty, V.zero⟩
def Ro.zero : Ro := ⟨ByteArray.empty, 0, []⟩
def cth (cs : List Ce) (i : Nat) : Ce := cs.getD i Ce.zero
def rth (rs : List Ro) (i : Nat) : Ro := rs.getD i Ro.zero

def CeRep (w : World) (P : Nat → Prop) (c : Ce) (v : Value) : Prop := ∃ c1 c2 c3 c4 c5 : Value,
  v = .agg #[.string c.name, c1, c2, c3, c4, c5] ∧ Rep w P c.val (.agg #[c1, c2, c3, c4, c5]) ∧ c.name.size ≤ maxLen
def CeReps (w : World) (P : Nat → Prop) (cs : List Ce) (a : Option Addr) : Prop := 96 * cs.length ≤ 281474976710656 ∧ ∃ C : Nat → Nat → Value, Arr w P 6 cs.length a C ∧ ∀ i, i < cs.length → CeRep w P (cth cs i) (.agg #[C i 0, C i 1, C i 2, C i 3, C i 4, C i 5])
def RoRep (w : World) (P : Nat → Prop) (r : Ro) (v : Value) : Prop := ∃ (ca : Option Addr) (cc : Nat),
  v = .agg #[.string r.type, .int .i64 r.id, .slice ca r.cells.length cc] ∧ CeReps w P r.cells ca ∧ r.cells.length ≤ cc ∧ r.type.size ≤ maxLen
def RoReps (w : World) (P : Nat → Prop) (rs : List Ro) (a : Option Addr) : Prop := 48 * rs.length ≤ 281474976710656 ∧ ∃ C : Nat → Nat → Value, Arr w P 3 rs.length a C ∧ ∀ i, i < rs.length → RoRep w P (rth rs i) (.agg #[C i 0, C i 1, C i 2])
theorem CeRep.mono {w w' : World} {P : Nat → Prop} {f : Ce} {v : Value} (h : CeRep w P f v) (e : ∀ k, P k → w'.heap[k]? = w.heap[k]?) : CeRep w' P f v := by
  obtain ⟨c1, c2, c3, c4, c5, h1, h2, h3⟩ := h; exact ⟨c1, c2, c3, c4, c5, h1, h2.mono e, h3⟩
theorem CeRep.sub {w : World} {P Q : Nat → Prop} {f : Ce} {v : Value} (h : CeRep w P f v) (e : ∀ k, P k → Q k) : CeRep w Q f v := by
  obtain ⟨c1, c2, c3, c4, c5, h1, h2, h3⟩ := h; exact ⟨c1, c2, c3, c4, c5, h1, h2.sub e, h3⟩
theorem CeReps.mono {w w' : World} {P : Nat → Prop} {f : List Ce} {v : Option Addr} (h : CeReps w P f v) (e : ∀ k, P k → w'.heap[k]? = w.heap[k]?) : CeReps w' P f v := by
  obtain ⟨h0, C, h1, h2⟩ := h; exact ⟨h0, C, h1.mono e, fun i hi => (h2 i hi).mono e⟩
theorem CeReps.sub {w : World} {P Q : Nat → Prop} {f : List Ce} {v : Option Addr} (h : CeReps w P f v) (e : ∀ k, P k → Q k) : CeReps w Q f v := by
  obtain ⟨h0, C, h1, h2⟩ := h; exact ⟨h0, C, h1.sub e, fun i hi => (h2 i hi).sub e⟩
theorem RoRep.mono {w w' : World} {P : Nat → Prop} {t : Ro} {v : Value} (h : RoRep w P t v) (e : ∀ k, P k → w'.heap[k]? = w.heap[k]?) : RoRep w' P t v := by
  obtain ⟨fa, fc, h1, h2, h3⟩ := h; exact ⟨fa, fc, h1, h2.mono e, h3⟩
theorem RoRep.sub {w : World} {P Q : Nat → Prop} {t : Ro} {v : Value} (h : RoRep w P t v) (e : ∀ k, P k → Q k) : RoRep w Q t v := by
  obtain ⟨fa, fc, h1, h2, h3⟩ := h; exact ⟨fa, fc, h1, h2.sub e, h3⟩
theorem RoReps.mono {w w' : World} {P : Nat → Prop} {f : List Ro} {v : Option Addr} (h : RoReps w P f v) (e : ∀ k, P k → w'.heap[k]? = w.heap[k]?) : RoReps w' P f v := by
  obtain ⟨h0, C, h1, h2⟩ := h; exact ⟨h0, C, h1.mono e, fun i hi => (h2 i hi).mono e⟩
theorem RoReps.sub {w : World} {P Q : Nat → Prop} {f : List Ro} {v : Option Addr} (h : RoReps w P f v) (e : ∀ k, P k → Q k) : RoReps w Q f v := by
  obtain ⟨h0, C, h1, h2⟩ := h; exact ⟨h0, C, h1.sub e, fun i hi => (h2 i hi).sub e⟩
theorem CeRep.under {w w' : World} {B : Nat} {x : Ce} {v : Value} (h : CeRep w (· < B) x v) (hb : Below B w w') : CeRep w' (· < B) x v := h.mono fun k hk => hb.block k hk
theorem CeReps.under {w w' : World} {B : Nat} {x : List Ce} {v : Option Addr} (h : CeReps w (· < B) x v) (hb : Below B w w') : CeReps w' (· < B) x v := h.mono fun k hk => hb.block k hk
theorem RoRep.under {w w' : World} {B : Nat} {x : Ro} {v : Value} (h : RoRep w (· < B) x v) (hb : Below B w w') : RoRep w' (· < B) x v := h.mono fun k hk => hb.block k hk
theorem RoReps.under {w w' : World} {B : Nat} {x : List Ro} {v : Option Addr} (h : RoReps w (· < B) x v) (hb : Below B w w') : RoReps w' (· < B) x v := h.mono fun k hk => hb.block k hk
theorem CeRep.pieces {w : World} {P : Nat → Prop} {c : Ce} {c0 c1 c2 c3 c4 c5 : Value} (h : CeRep w P c (.agg #[c0, c1, c2, c3, c4, c5])) : c0 = .string c.name ∧ Rep w P c.val (.agg #[c1, c2, c3, c4, c5]) ∧ c.name.size ≤ maxLen := by
  obtain ⟨d1, d2, d3, d4, d5, hv, h2, h3⟩ := h
  simp only [Value.agg.injEq, Array.mk.injEq, List.cons.injEq, and_true] at hv
  obtain ⟨e0, rfl, rfl, rfl, rfl, rfl⟩ := hv
  exact ⟨e0, h2, h3⟩
theorem RoRep.pieces {w : World} {P : Nat → Prop} {t : Ro} {c0 c1 c2 : Value} (h : RoRep w P t (.agg #[c0, c1, c2])) :
    ∃ (fa : Option Addr) (fc : Nat), c0 = .string t.type ∧ c1 = .int .i64 t.id ∧ c2 = .slice fa t.cells.length fc ∧ CeReps w P t.cells fa ∧ t.cells.length ≤ fc ∧ t.type.size ≤ maxLen := by
  obtain ⟨fa, fc, hv, h2, h3, h4⟩ := h
  simp only [Value.agg.injEq, Array.mk.injEq, List.cons.injEq, and_true] at hv
  exact ⟨fa, fc, hv.1, hv.2.1, hv.2.2, h2, h3, h4⟩

theorem hid_of2 {q : Prop} (h : q) : Hid q := h
/-- A cell whose value is no greater than the laws look at; a row of such cells. -/
def CeSm (c : Ce) : Prop := szV c.val ≤ 1048576
def RoSm (r : Ro) : Prop := ∀ i, i < r.cells.length → CeSm (cth r.cells i)
/-- How great cells and rows are. -/
def szC (c : Ce) : Nat := c.name.size + szV c.val
def szR (r : Ro) : Nat := r.type.size + (r.cells.length + (r.cells.map szC).sum)
theorem sum_take {α : Type} (g : α → Nat) (d : α) (xs : List α) (k : Nat) (h : k < xs.length) : ((xs.take (k + 1)).map g).sum = ((xs.take k).map g).sum + g (xs.getD k d) := by
  rw [List.take_succ_eq_append_getElem h]
  simp only [List.map_append, List.sum_append, List.map_cons, List.map_nil, List.sum_cons, List.sum_nil, List.getD_eq_getElem?_getD, List.getElem?_eq_getElem h, Option.getD_some, Nat.add_zero]
theorem sum_part {α : Type} (g : α → Nat) (xs : List α) (k : Nat) : ((xs.take k).map g).sum ≤ (xs.map g).sum := by
  conv => rhs; rw [← List.take_append_drop k xs]
  simp only [List.map_append, List.sum_append]
  omega
theorem sum_one {α : Type} (g : α → Nat) (d : α) (xs : List α) (k : Nat) (h : k < xs.length) : g (xs.getD k d) ≤ (xs.map g).sum := by
  have h1 := sum_take g d xs k h
  have h2 := sum_part g xs (k + 1)
  omega
theorem RoSm.of {r : Ro} (h : szR r ≤ 1048576) : RoSm r := fun i hi => by
  have h1 : szC (cth r.cells i) ≤ (r.cells.map szC).sum := sum_one szC Ce.zero r.cells i hi
  unfold szR at h
  have h2 : szC (cth r.cells i) = (cth r.cells i).name.size + szV (cth r.cells i).val := rfl
  unfold CeSm
  omega

set_option maxHeartbeats 800000 in
theorem szCell_any (c : Ce) (w : World) (B : Nat) (v : Value) (left : Int) (hR : CeRep w (· < B) c v) (hB : B ≤ w.heap.size) (hl0 : 0 ≤ left) (hl1 : left ≤ 1048576) :
    Calls Try.prog 61 #[v, .int .i64 left] w fun e w' => ∃ x : Int, e = .returned (.int .i64 x) ∧ -1 ≤ x ∧ x ≤ left ∧ (0 ≤ x → x + szC c ≤ left) ∧ Below w.heap.size w w' := by
  obtain ⟨c1, c2, c3, c4, c5, rfl, hV, hn⟩ := hR
  unfold maxLen at hn
  by_cases h1 : left < c.name.size
  · go_enter Try.func61, Try.ntmps61
    go_wp2_with fail
    go_ret
    exact ⟨-1, rfl, by omega, by omega, by omega, below_box _ _⟩
  go_enter Try.func61, Try.ntmps61
  go_wp2_with (go_at_call 36; refine (szValue_sum c.val _ B _ _ (hV.under ((below_box w _).mono hB)) (by simp; omega) (by omega) (by omega)).mono ?_; rintro e w' ⟨y, rfl, hy0, hy1, hy2, hb⟩; have HY := hid_of2 hy2; clear hy2)
  · go_ret
    exact ⟨-1, rfl, by omega, by omega, by omega, (below_box w _).trans (hb.mono (by simp))⟩
  · go_ret
    exact ⟨y, rfl, by omega, by omega, fun h => by have := HY.out h; unfold szC; omega, (below_box w _).trans (hb.mono (by simp))⟩

set_option maxHeartbeats 800000 in
theorem szRow_any0 (r : Ro) (hC : ∀ (w : World) (B : Nat) (a : Option Addr) (c : Nat) (left : Int), CeReps w (· < B) r.cells a → B ≤ w.heap.size → 0 ≤ left → left ≤ 1048576 →
      Calls Try.prog 45 #[.slice a r.cells.length c, .int .i64 left] w fun e w' => ∃ x : Int, e = .returned (.int .i64 x) ∧ -1 ≤ x ∧ x ≤ left ∧ (0 ≤ x → x + (r.cells.length + (r.cells.map szC).sum : Nat) ≤ left) ∧ Below w.heap.size w w')
    (w : World) (B : Nat) (v : Value) (left : Int) (hR : RoRep w (· < B) r v) (hB : B ≤ w.heap.size) (hl0 : 0 ≤ left) (hl1 : left ≤ 1048576) :
    Calls Try.prog 19 #[v, .int .i64 left] w fun e w' => ∃ x : Int, e = .returned (.int .i64 x) ∧ -1 ≤ x ∧ x ≤ left ∧ (0 ≤ x → x + szR r ≤ left) ∧ Below w.heap.size w w' := by
  obtain ⟨fa, fc, rfl, hs, hnc, hn⟩ := hR
  unfold maxLen at hn
  by_cases h1 : left < r.type.size
  · go_enter Try.func19, Try.ntmps19
    go_wp2_with fail
    go_ret
    exact ⟨-1, rfl, by omega, by omega, by omega, below_box _ _⟩
  go_enter Try.func19, Try.ntmps19
  go_wp2_with (go_at_call 45; refine (hC _ B fa fc _ (hs.under ((below_box w _).mono hB)) (by simp; omega) (by omega) (by omega)).mono ?_; rintro e w' ⟨y, rfl, hy0, hy1, hy2, hb⟩; have HY := hid_of2 hy2; clear hy2)
  · go_ret
    exact ⟨-1, rfl, by omega, by omega, by omega, (below_box w _).trans (hb.mono (by simp))⟩
  · go_ret
    exact ⟨y, rfl, by omega, by omega, fun h => by have := HY.out h; unfold szR; omega, (below_box w _).trans (hb.mono (by simp))⟩

set_option maxHeartbeats 400000 in
theorem szCellS_any (xs : List Ce) (w : World) (B : Nat) (a : Option Addr) (c : Nat) (left : Int) (hK : CeReps w (· < B) xs a) (hB : B ≤ w.heap.size) (hl0 : 0 ≤ left) (hl1 : left ≤ 1048576) :
    Calls Try.prog 45 #[.slice a xs.length c, .int .i64 left] w fun e w' => ∃ x : Int, e = .returned (.int .i64 x) ∧ -1 ≤ x ∧ x ≤ left ∧ (0 ≤ x → x + (xs.length + (xs.map szC).sum : Nat) ≤ left) ∧ Below w.heap.size w w' := by
  obtain ⟨h3, C, hA, hr⟩ := hK
  by_cases hbig : left < xs.length
  · go_enter Try.func45, Try.ntmps45
    go_wp2_with fail
    go_ret
    exact ⟨-1, rfl, by omega, by omega, by omega, Below.refl _ _⟩
  · go_enter Try.func45, Try.ntmps45
    go_wp2_with fail
    go_loopw [1, 5] (fun l i wr => ∃ (k : Nat) (x : Int), k ≤ xs.length ∧ i = .int .i64 k ∧ l = .int .i64 x ∧ 0 ≤ x ∧ x + xs.length ≤ left ∧ Hid (x + (xs.length + ((xs.take k).map szC).sum : Nat) ≤ left) ∧ Below w.heap.size w wr) (fun _ i _ => xs.length - (intOf i).toNat)
    case atStart => exact ⟨0, _, Nat.zero_le _, rfl, rfl, by omega, by omega, hid_of2 (by simp only [List.take_zero, List.map_nil, List.sum_nil]; omega), Below.refl _ _⟩
    case round =>
      obtain ⟨k, x, hk, rfl, rfl, hx0, hx1, hsm, hbel⟩ := hrel
      by_cases hlt : k < xs.length
      · obtain ⟨b, off, rfl, hbB, hc⟩ := hA (by omega)
        have hck : ∀ j, j < 6 → wr.cell? ⟨b, off + k * 6 + j, none⟩ = some (C k j) := fun j hj => (hbel.cell (p := ⟨b, off + k * 6 + j, none⟩) (by show b < _; omega)).trans (hc k hlt j hj)
        have hc0 : wr.cell? ⟨b, off + k * 6, none⟩ = some (C k 0) := hck 0 (by omega)
        have hc1 : wr.cell? ⟨b, off + k * 6 + 1, none⟩ = some (C k 1) := hck 1 (by omega)
        have hc2 : wr.cell? ⟨b, off + k * 6 + 2, none⟩ = some (C k 2) := hck 2 (by omega)
        have hc3 : wr.cell? ⟨b, off + k * 6 + 3, none⟩ = some (C k 3) := hck 3 (by omega)
        have hc4 : wr.cell? ⟨b, off + k * 6 + 4, none⟩ = some (C k 4) := hck 4 (by omega)
        have hc5 : wr.cell? ⟨b, off + k * 6 + 5, none⟩ = some (C k 5) := hck 5 (by omega)
        clear hck hc
        go_wp2_with (go_at_call 61; refine (szCell_any _ _ B _ x ((hr k hlt).under (hbel.mono hB)) (by have := hbel.size; omega) hx0 (by omega)).mono ?_; rintro e w' ⟨y, rfl, hy0, hy1, hy2, hby⟩; have HY := hid_of2 hy2; clear hy2)
        · go_ret
          exact ⟨-1, rfl, by omega, by omega, by omega, hbel.trans (hby.mono hbel.size)⟩
        · go_roundw
          case rel => exact ⟨k + 1, y, by omega, by go_num, rfl, by assumption, by omega, hid_of2 (by
            have h1 := HY.out (by assumption)
            have h2 := hsm.out
            have h3 : _ = _ + szC (cth xs k) := sum_take szC Ce.zero xs k hlt
            rw [h3]
            omega), hbel.trans (hby.mono hbel.size)⟩
          case measure => simp [intOf]; omega
      · go_wp2_with fail
        go_ret
        exact ⟨x, rfl, by omega, by omega, fun _ => by have h := hsm.out; rw [show k = xs.length by omega, List.take_length] at h; exact h, hbel⟩

theorem szRow_any (r : Ro) (w : World) (B : Nat) (v : Value) (left : Int) (hR : RoRep w (· < B) r v) (hB : B ≤ w.heap.size) (hl0 : 0 ≤ left) (hl1 : left ≤ 1048576) :
    Calls Try.prog 19 #[v, .int .i64 left] w fun e w' => ∃ x : Int, e = .returned (.int .i64 x) ∧ -1 ≤ x ∧ x ≤ left ∧ (0 ≤ x → x + szR r ≤ left) ∧ Below w.heap.size w w' :=
  szRow_any0 r (fun w B a c left h1 h2 h3 h4 => szCellS_any r.cells w B a c left h1 h2 h3 h4) w B v left hR hB hl0 hl1

set_option maxHeartbeats 400000 in
theorem szRowS_any (xs : List Ro) (w : World) (B : Nat) (a : Option Addr) (c : Nat) (left : Int) (hK : RoReps w (· < B) xs a) (hB : B ≤ w.heap.size) (hl0 : 0 ≤ left) (hl1 : left ≤ 1048576) :
    Calls Try.prog 5 #[.slice a xs.length c, .int .i64 left] w fun e w' => ∃ x : Int, e = .returned (.int .i64 x) ∧ -1 ≤ x ∧ x ≤ left ∧ (0 ≤ x → x + (xs.length + (xs.map szR).sum : Nat) ≤ left) ∧ Below w.heap.size w w' := by
  obtain ⟨h3, C, hA, hr⟩ := hK
  by_cases hbig : left < xs.length
  · go_enter Try.func5, Try.ntmps5
    go_wp2_with fail
    go_ret
    exact ⟨-1, rfl, by omega, by omega, by omega, Below.refl _ _⟩
  · go_enter Try.func5, Try.ntmps5
    go_wp2_with fail
    go_loopw [1, 5] (fun l i wr => ∃ (k : Nat) (x : Int), k ≤ xs.length ∧ i = .int .i64 k ∧ l = .int .i64 x ∧ 0 ≤ x ∧ x + xs.length ≤ left ∧ Hid (x + (xs.length + ((xs.take k).map szR).sum : Nat) ≤ left) ∧ Below w.heap.size w wr) (fun _ i _ => xs.length - (intOf i).toNat)
    case atStart => exact ⟨0, _, Nat.zero_le _, rfl, rfl, by omega, by omega, hid_of2 (by simp only [List.take_zero, List.map_nil, List.sum_nil]; omega), Below.refl _ _⟩
    case round =>
      obtain ⟨k, x, hk, rfl, rfl, hx0, hx1, hsm, hbel⟩ := hrel
      by_cases hlt : k < xs.length
      · obtain ⟨b, off, rfl, hbB, hc⟩ := hA (by omega)
        have hck : ∀ j, j < 3 → wr.cell? ⟨b, off + k * 3 + j, none⟩ = some (C k j) := fun j hj => (hbel.cell (p := ⟨b, off + k * 3 + j, none⟩) (by show b < _; omega)).trans (hc k hlt j hj)
        have hc0 : wr.cell? ⟨b, off + k * 3, none⟩ = some (C k 0) := hck 0 (by omega)
        have hc1 : wr.cell? ⟨b, off + k * 3 + 1, none⟩ = some (C k 1) := hck 1 (by omega)
        have hc2 : wr.cell? ⟨b, off + k * 3 + 2, none⟩ = some (C k 2) := hck 2 (by omega)
        clear hck hc
        go_wp2_with (go_at_call 19; refine (szRow_any _ _ B _ x ((hr k hlt).under (hbel.mono hB)) (by have := hbel.size; omega) hx0 (by omega)).mono ?_; rintro e w' ⟨y, rfl, hy0, hy1, hy2, hby⟩; have HY := hid_of2 hy2; clear hy2)
        · go_ret
          exact ⟨-1, rfl, by omega, by omega, by omega, hbel.trans (hby.mono hbel.size)⟩
        · go_roundw
          case rel => exact ⟨k + 1, y, by omega, by go_num, rfl, by assumption, by omega, hid_of2 (by
            have h1 := HY.out (by assumption)
            have h2 := hsm.out
            have h3 : _ = _ + szR (rth xs k) := sum_take szR Ro.zero xs k hlt
            rw [h3]
            omega), hbel.trans (hby.mono hbel.size)⟩
          case measure => simp [intOf]; omega
      · go_wp2_with fail
        go_ret
        exact ⟨x, rfl, by omega, by omega, fun _ => by have h := hsm.out; rw [show k = xs.length by omega, List.take_length] at h; exact h, hbel⟩
end Go.Proofs.Ytjlifamkfdmfcaa
