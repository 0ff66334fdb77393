/-
  Parts in memory: fields, types and parts, each held by cells of the world.
-/
import Derived.Test.YtgcfgadkclfonaaGreatDoorArr
import Derived.Test.YtgcfgadkclfonaaGreatDoorCopyS
namespace Go.Proofs.YtgcfgadkclfonaaGreatDoor
set_option linter.unusedSimpArgs false
set_option linter.unusedVariables false
open Go.RowKit


/-- A field as it is meant. -/
structure F where
  name : ByteArray
  of : ByteArray
  list : Bool
  must : Bool
  far : Bool
  hidden : Bool
  shared : Bool
  needs : List ByteArray
/-- A type as it is meant. -/
structure T where
  name : ByteArray
  key : ByteArray
  fields : List F
/-- A part as it is meant. -/
structure Pt where
  name : ByteArray
  types : List T
def F.zero : F := ⟨ByteArray.empty, ByteArray.empty, false, false, false, false, false, []⟩
def T.zero : T := ⟨ByteArray.empty, ByteArray.empty, []⟩
def fth (fs : List F) (i : Nat) : F := fs.getD i F.zero
def tth (ts : List T) (i : Nat) : T := ts.getD i T.zero

def FRep (w : World) (P : Nat → Prop) (f : F) (v : Value) : Prop := ∃ (na : Option Addr) (nc : Nat),
  v = .agg #[.string f.name, .string f.of, .bool f.list, .bool f.must, .bool f.far, .bool f.hidden, .bool f.shared, .slice na f.needs.length nc] ∧ Strs w P f.needs na ∧ f.needs.length ≤ nc ∧ f.name.size ≤ maxLen ∧ f.of.size ≤ maxLen ∧ 16 * f.needs.length ≤ 281474976710656
def FsRep (w : World) (P : Nat → Prop) (fs : List F) (a : Option Addr) : Prop := 64 * fs.length ≤ 281474976710656 ∧ ∃ C : Nat → Nat → Value, Arr w P 8 fs.length a C ∧ ∀ i, i < fs.length → FRep w P (fth fs i) (.agg #[C i 0, C i 1, C i 2, C i 3, C i 4, C i 5, C i 6, C i 7])
def TRep (w : World) (P : Nat → Prop) (t : T) (v : Value) : Prop := ∃ (fa : Option Addr) (fc : Nat),
  v = .agg #[.string t.name, .string t.key, .slice fa t.fields.length fc] ∧ FsRep w P t.fields fa ∧ t.fields.length ≤ fc ∧ t.name.size ≤ maxLen ∧ t.key.size ≤ maxLen
def TsRep (w : World) (P : Nat → Prop) (ts : List T) (a : Option Addr) : Prop := 56 * ts.length ≤ 281474976710656 ∧ ∃ C : Nat → Nat → Value, Arr w P 3 ts.length a C ∧ ∀ i, i < ts.length → TRep w P (tth ts i) (.agg #[C i 0, C i 1, C i 2])
def PRep (w : World) (P : Nat → Prop) (p : Pt) (v : Value) : Prop := ∃ (ta : Option Addr) (tc : Nat),
  v = .agg #[.string p.name, .slice ta p.types.length tc] ∧ TsRep w P p.types ta ∧ p.types.length ≤ tc ∧ p.name.size ≤ maxLen

theorem FRep.mono {w w' : World} {P : Nat → Prop} {f : F} {v : Value} (h : FRep w P f v) (e : ∀ k, P k → w'.heap[k]? = w.heap[k]?) : FRep w' P f v := by
  obtain ⟨na, nc, h1, h2, h3⟩ := h; exact ⟨na, nc, h1, h2.mono e, h3⟩
theorem FRep.sub {w : World} {P Q : Nat → Prop} {f : F} {v : Value} (h : FRep w P f v) (e : ∀ k, P k → Q k) : FRep w Q f v := by
  obtain ⟨na, nc, h1, h2, h3⟩ := h; exact ⟨na, nc, h1, h2.sub e, h3⟩
theorem FsRep.mono {w w' : World} {P : Nat → Prop} {f : List F} {v : Option Addr} (h : FsRep w P f v) (e : ∀ k, P k → w'.heap[k]? = w.heap[k]?) : FsRep w' P f v := by
  obtain ⟨h0, C, h1, h2⟩ := h; exact ⟨h0, C, h1.mono e, fun i hi => (h2 i hi).mono e⟩
theorem FsRep.sub {w : World} {P Q : Nat → Prop} {f : List F} {v : Option Addr} (h : FsRep w P f v) (e : ∀ k, P k → Q k) : FsRep w Q f v := by
  obtain ⟨h0, C, h1, h2⟩ := h; exact ⟨h0, C, h1.sub e, fun i hi => (h2 i hi).sub e⟩
theorem TRep.mono {w w' : World} {P : Nat → Prop} {t : T} {v : Value} (h : TRep w P t v) (e : ∀ k, P k → w'.heap[k]? = w.heap[k]?) : TRep w' P t v := by
  obtain ⟨fa, fc, h1, h2, h3⟩ := h; exact ⟨fa, fc, h1, h2.mono e, h3⟩
theorem TRep.sub {w : World} {P Q : Nat → Prop} {t : T} {v : Value} (h : TRep w P t v) (e : ∀ k, P k → Q k) : TRep w Q t v := by
  obtain ⟨fa, fc, h1, h2, h3⟩ := h; exact ⟨fa, fc, h1, h2.sub e, h3⟩
theorem TsRep.mono {w w' : World} {P : Nat → Prop} {f : List T} {v : Option Addr} (h : TsRep w P f v) (e : ∀ k, P k → w'.heap[k]? = w.heap[k]?) : TsRep w' P f v := by
  obtain ⟨h0, C, h1, h2⟩ := h; exact ⟨h0, C, h1.mono e, fun i hi => (h2 i hi).mono e⟩
theorem TsRep.sub {w : World} {P Q : Nat → Prop} {f : List T} {v : Option Addr} (h : TsRep w P f v) (e : ∀ k, P k → Q k) : TsRep w Q f v := by
  obtain ⟨h0, C, h1, h2⟩ := h; exact ⟨h0, C, h1.sub e, fun i hi => (h2 i hi).sub e⟩
theorem PRep.mono {w w' : World} {P : Nat → Prop} {t : Pt} {v : Value} (h : PRep w P t v) (e : ∀ k, P k → w'.heap[k]? = w.heap[k]?) : PRep w' P t v := by
  obtain ⟨fa, fc, h1, h2, h3⟩ := h; exact ⟨fa, fc, h1, h2.mono e, h3⟩
theorem PRep.sub {w : World} {P Q : Nat → Prop} {t : Pt} {v : Value} (h : PRep w P t v) (e : ∀ k, P k → Q k) : PRep w Q t v := by
  obtain ⟨fa, fc, h1, h2, h3⟩ := h; exact ⟨fa, fc, h1, h2.sub e, h3⟩
theorem FRep.under {w w' : World} {B : Nat} {x : F} {v : Value} (h : FRep w (· < B) x v) (hb : Below B w w') : FRep w' (· < B) x v := h.mono fun k hk => hb.block k hk
theorem FsRep.under {w w' : World} {B : Nat} {x : List F} {v : Option Addr} (h : FsRep w (· < B) x v) (hb : Below B w w') : FsRep w' (· < B) x v := h.mono fun k hk => hb.block k hk
theorem TRep.under {w w' : World} {B : Nat} {x : T} {v : Value} (h : TRep w (· < B) x v) (hb : Below B w w') : TRep w' (· < B) x v := h.mono fun k hk => hb.block k hk
theorem TsRep.under {w w' : World} {B : Nat} {x : List T} {v : Option Addr} (h : TsRep w (· < B) x v) (hb : Below B w w') : TsRep w' (· < B) x v := h.mono fun k hk => hb.block k hk
theorem PRep.under {w w' : World} {B : Nat} {x : Pt} {v : Value} (h : PRep w (· < B) x v) (hb : Below B w w') : PRep w' (· < B) x v := h.mono fun k hk => hb.block k hk

/-! What things weigh. -/
def szF (f : F) : Nat := f.name.size + f.of.size + szNs f.needs
def szFsTo (fs : List F) (n : Nat) : Nat := ((List.range n).map fun i => szF (fth fs i)).sum
theorem szFsTo_succ (fs : List F) (n : Nat) : szFsTo fs (n + 1) = szFsTo fs n + szF (fth fs n) := by simp [szFsTo, List.range_succ]
def szFs (fs : List F) : Nat := fs.length + szFsTo fs fs.length
def szT (t : T) : Nat := t.name.size + t.key.size + szFs t.fields
def szTsTo (ts : List T) (n : Nat) : Nat := ((List.range n).map fun i => szT (tth ts i)).sum
theorem szTsTo_succ (ts : List T) (n : Nat) : szTsTo ts (n + 1) = szTsTo ts n + szT (tth ts n) := by simp [szTsTo, List.range_succ]
def szTs (ts : List T) : Nat := ts.length + szTsTo ts ts.length
def szP (p : Pt) : Nat := p.name.size + szTs p.types

set_option maxHeartbeats 400000 in
theorem szField_any (f : F) (w : World) (B : Nat) (v : Value) (left : Int) (hR : FRep w (· < B) f v) (hB : B ≤ w.heap.size) (hl0 : 0 ≤ left) (hl1 : left ≤ 1048576) :
    Calls Tryz.prog 103 #[v, .int .i64 left] w fun e w' => ∃ x : Int, e = .returned (.int .i64 x) ∧ -1 ≤ x ∧ x ≤ left ∧ (0 ≤ x → x + szF f ≤ left) ∧ Below w.heap.size w w' := by
  obtain ⟨na, nc, rfl, hs, hnc, hn, ho, hb⟩ := hR
  obtain ⟨name, of, l, m, fa, hi, sh, needs⟩ := f
  simp only at hs hnc hn ho hb
  unfold maxLen at hn ho
  by_cases h1 : left < name.size
  · go_enter Tryz.func103, Tryz.ntmps103
    go_wp2_with fail
    go_ret
    exact ⟨-1, rfl, by omega, by omega, by omega, below_box _ _⟩
  by_cases h2 : left - name.size < of.size
  · go_enter Tryz.func103, Tryz.ntmps103
    go_wp2_with fail
    go_ret
    exact ⟨-1, rfl, by omega, by omega, by omega, below_box _ _⟩
  go_enter Tryz.func103, Tryz.ntmps103
  go_wp2_with (go_at_call 126; refine (szStringS_any needs na nc _ (· < B) (hs.under ((below_box w _).mono hB)) _ (by omega) (by omega)).mono ?_; rintro e w' ⟨y, rfl, hy0, hy1, hy2, rfl⟩)
  · go_ret
    exact ⟨-1, rfl, by omega, by omega, by omega, below_box _ _⟩
  · go_ret
    exact ⟨y, rfl, by omega, by omega, fun h => by have := hy2 h; simp only [szF]; omega, below_box _ _⟩

set_option maxHeartbeats 400000 in
theorem szFieldS_any (fs : List F) (w : World) (B : Nat) (a : Option Addr) (c : Nat) (left : Int) (hK : FsRep w (· < B) fs a) (hB : B ≤ w.heap.size) (hl0 : 0 ≤ left) (hl1 : left ≤ 1048576) :
    Calls Tryz.prog 69 #[.slice a fs.length c, .int .i64 left] w fun e w' => ∃ x : Int, e = .returned (.int .i64 x) ∧ -1 ≤ x ∧ x ≤ left ∧ (0 ≤ x → x + szFs fs ≤ left) ∧ Below w.heap.size w w' := by
  obtain ⟨h3, C, hA, hr⟩ := hK
  by_cases hbig : left < fs.length
  · go_enter Tryz.func69, Tryz.ntmps69
    go_wp2_with fail
    go_ret
    exact ⟨-1, rfl, by omega, by omega, by omega, Below.refl _ _⟩
  by_cases hn0 : fs.length = 0
  · have hns : fs = [] := by simpa using hn0
    subst hns
    go_enter Tryz.func69, Tryz.ntmps69
    go_wp2_with fail
    go_loop [1, 5] (fun l i => i = .int .i64 0 ∧ l = .int .i64 left) (fun _ _ => 0)
    case atStart => exact ⟨rfl, rfl⟩
    case round =>
      obtain ⟨rfl, rfl⟩ := hrel
      go_wp2_with fail
      go_ret
      exact ⟨left, rfl, by omega, by omega, by simp [szFs, szFsTo], Below.refl _ _⟩
  · obtain ⟨b, off, rfl, hbB, hc⟩ := hA (by omega)
    go_enter Tryz.func69, Tryz.ntmps69
    go_wp2_with fail
    go_loopw [1, 5] (fun l i wr => ∃ (k : Nat) (x : Int), k ≤ fs.length ∧ i = .int .i64 k ∧ l = .int .i64 x ∧ 0 ≤ x ∧ x ≤ left ∧ x + szFsTo fs k + fs.length ≤ left ∧ Below w.heap.size w wr) (fun _ i _ => fs.length - (intOf i).toNat)
    case atStart => exact ⟨0, _, Nat.zero_le _, rfl, rfl, by omega, by omega, by simp [szFsTo], Below.refl _ _⟩
    case round =>
      obtain ⟨k, x, hk, rfl, rfl, hx0, hx1, hx2, hbel⟩ := hrel
      have HX : Hid (x + szFsTo fs k + fs.length ≤ left) := hx2
      clear hx2
      by_cases hlt : k < fs.length
      · have hck : ∀ j, j < 8 → wr.cell? ⟨b, off + k * 8 + j, none⟩ = some (C k j) := fun j hj => (hbel.cell (p := ⟨b, off + k * 8 + j, none⟩) (by show b < _; omega)).trans (hc k hlt j hj)
        have hc0 : wr.cell? ⟨b, off + k * 8, none⟩ = some (C k 0) := hck 0 (by omega)
        have hc1 := hck 1 (by omega)
        have hc2 := hck 2 (by omega)
        have hc3 := hck 3 (by omega)
        have hc4 := hck 4 (by omega)
        have hc5 := hck 5 (by omega)
        have hc6 := hck 6 (by omega)
        have hc7 := hck 7 (by omega)
        clear hck hc
        go_wp2_with (go_at_call 103; refine (szField_any _ _ B _ x ((hr k hlt).under (hbel.mono hB)) (by have := hbel.size; omega) hx0 (by omega)).mono ?_; rintro e w' ⟨y, rfl, hy0, hy1, hy2, hby⟩)
        · go_ret
          exact ⟨-1, rfl, by omega, by omega, by omega, hbel.trans (hby.mono hbel.size)⟩
        · go_roundw
          case rel => exact ⟨k + 1, y, by omega, by go_num, rfl, by assumption, by omega, by have := HX.out; have := hy2 (by assumption); rw [szFsTo_succ]; omega, hbel.trans (hby.mono hbel.size)⟩
          case measure => simp [intOf]; omega
      · go_wp2_with fail
        go_ret
        have e : k = fs.length := by omega
        exact ⟨x, rfl, by omega, by omega, fun _ => by have := HX.out; rw [szFs]; rw [e] at this; omega, hbel⟩

set_option maxHeartbeats 400000 in
theorem szType_any (t : T) (w : World) (B : Nat) (v : Value) (left : Int) (hR : TRep w (· < B) t v) (hB : B ≤ w.heap.size) (hl0 : 0 ≤ left) (hl1 : left ≤ 1048576) :
    Calls Tryz.prog 45 #[v, .int .i64 left] w fun e w' => ∃ x : Int, e = .returned (.int .i64 x) ∧ -1 ≤ x ∧ x ≤ left ∧ (0 ≤ x → x + szT t ≤ left) ∧ Below w.heap.size w w' := by
  obtain ⟨fa, fc, rfl, hs, hnc, hn, ho⟩ := hR
  obtain ⟨name, key, fields⟩ := t
  simp only at hs hnc hn ho
  unfold maxLen at hn ho
  by_cases h1 : left < name.size
  · go_enter Tryz.func45, Tryz.ntmps45
    go_wp2_with fail
    go_ret
    exact ⟨-1, rfl, by omega, by omega, by omega, below_box _ _⟩
  by_cases h2 : left - name.size < key.size
  · go_enter Tryz.func45, Tryz.ntmps45
    go_wp2_with fail
    go_ret
    exact ⟨-1, rfl, by omega, by omega, by omega, below_box _ _⟩
  go_enter Tryz.func45, Tryz.ntmps45
  go_wp2_with (go_at_call 69; refine (szFieldS_any fields _ B fa fc _ (hs.under ((below_box w _).mono hB)) (by simp; omega) (by omega) (by omega)).mono ?_; rintro e w' ⟨y, rfl, hy0, hy1, hy2, hb⟩)
  · go_ret
    exact ⟨-1, rfl, by omega, by omega, by omega, (below_box w _).trans (hb.mono (by simp))⟩
  · go_ret
    exact ⟨y, rfl, by omega, by omega, fun h => by have := hy2 h; simp only [szT]; omega, (below_box w _).trans (hb.mono (by simp))⟩

set_option maxHeartbeats 400000 in
theorem szTypeS_any (ts : List T) (w : World) (B : Nat) (a : Option Addr) (c : Nat) (left : Int) (hK : TsRep w (· < B) ts a) (hB : B ≤ w.heap.size) (hl0 : 0 ≤ left) (hl1 : left ≤ 1048576) :
    Calls Tryz.prog 26 #[.slice a ts.length c, .int .i64 left] w fun e w' => ∃ x : Int, e = .returned (.int .i64 x) ∧ -1 ≤ x ∧ x ≤ left ∧ (0 ≤ x → x + szTs ts ≤ left) ∧ Below w.heap.size w w' := by
  obtain ⟨h3, C, hA, hr⟩ := hK
  by_cases hbig : left < ts.length
  · go_enter Tryz.func26, Tryz.ntmps26
    go_wp2_with fail
    go_ret
    exact ⟨-1, rfl, by omega, by omega, by omega, Below.refl _ _⟩
  by_cases hn0 : ts.length = 0
  · have hns : ts = [] := by simpa using hn0
    subst hns
    go_enter Tryz.func26, Tryz.ntmps26
    go_wp2_with fail
    go_loop [1, 5] (fun l i => i = .int .i64 0 ∧ l = .int .i64 left) (fun _ _ => 0)
    case atStart => exact ⟨rfl, rfl⟩
    case round =>
      obtain ⟨rfl, rfl⟩ := hrel
      go_wp2_with fail
      go_ret
      exact ⟨left, rfl, by omega, by omega, by simp [szTs, szTsTo], Below.refl _ _⟩
  · obtain ⟨b, off, rfl, hbB, hc⟩ := hA (by omega)
    go_enter Tryz.func26, Tryz.ntmps26
    go_wp2_with fail
    go_loopw [1, 5] (fun l i wr => ∃ (k : Nat) (x : Int), k ≤ ts.length ∧ i = .int .i64 k ∧ l = .int .i64 x ∧ 0 ≤ x ∧ x ≤ left ∧ x + szTsTo ts k + ts.length ≤ left ∧ Below w.heap.size w wr) (fun _ i _ => ts.length - (intOf i).toNat)
    case atStart => exact ⟨0, _, Nat.zero_le _, rfl, rfl, by omega, by omega, by simp [szTsTo], Below.refl _ _⟩
    case round =>
      obtain ⟨k, x, hk, rfl, rfl, hx0, hx1, hx2, hbel⟩ := hrel
      have HX : Hid (x + szTsTo ts k + ts.length ≤ left) := hx2
      clear hx2
      by_cases hlt : k < ts.length
      · have hck : ∀ j, j < 3 → wr.cell? ⟨b, off + k * 3 + j, none⟩ = some (C k j) := fun j hj => (hbel.cell (p := ⟨b, off + k * 3 + j, none⟩) (by show b < _; omega)).trans (hc k hlt j hj)
        have hc0 : wr.cell? ⟨b, off + k * 3, none⟩ = some (C k 0) := hck 0 (by omega)
        have hc1 := hck 1 (by omega)
        have hc2 := hck 2 (by omega)
        clear hck hc
        go_wp2_with (go_at_call 45; refine (szType_any _ _ B _ x ((hr k hlt).under (hbel.mono hB)) (by have := hbel.size; omega) hx0 (by omega)).mono ?_; rintro e w' ⟨y, rfl, hy0, hy1, hy2, hby⟩)
        · go_ret
          exact ⟨-1, rfl, by omega, by omega, by omega, hbel.trans (hby.mono hbel.size)⟩
        · go_roundw
          case rel => exact ⟨k + 1, y, by omega, by go_num, rfl, by assumption, by omega, by have := HX.out; have := hy2 (by assumption); rw [szTsTo_succ]; omega, hbel.trans (hby.mono hbel.size)⟩
          case measure => simp [intOf]; omega
      · go_wp2_with fail
        go_ret
        have e : k = ts.length := by omega
        exact ⟨x, rfl, by omega, by omega, fun _ => by have := HX.out; rw [szTs]; rw [e] at this; omega, hbel⟩

set_option maxHeartbeats 400000 in
theorem szPart_any (p : Pt) (w : World) (B : Nat) (v : Value) (left : Int) (hR : PRep w (· < B) p v) (hB : B ≤ w.heap.size) (hl0 : 0 ≤ left) (hl1 : left ≤ 1048576) :
    Calls Tryz.prog 6 #[v, .int .i64 left] w fun e w' => ∃ x : Int, e = .returned (.int .i64 x) ∧ -1 ≤ x ∧ x ≤ left ∧ (0 ≤ x → x + szP p ≤ left) ∧ Below w.heap.size w w' := by
  obtain ⟨fa, fc, rfl, hs, hnc, hn⟩ := hR
  obtain ⟨name, types⟩ := p
  simp only at hs hnc hn
  unfold maxLen at hn
  by_cases h1 : left < name.size
  · go_enter Tryz.func6, Tryz.ntmps6
    go_wp2_with fail
    go_ret
    exact ⟨-1, rfl, by omega, by omega, by omega, below_box _ _⟩
  go_enter Tryz.func6, Tryz.ntmps6
  go_wp2_with (go_at_call 26; refine (szTypeS_any types _ B fa fc _ (hs.under ((below_box w _).mono hB)) (by simp; omega) (by omega) (by omega)).mono ?_; rintro e w' ⟨y, rfl, hy0, hy1, hy2, hb⟩)
  · go_ret
    exact ⟨-1, rfl, by omega, by omega, by omega, (below_box w _).trans (hb.mono (by simp))⟩
  · go_ret
    exact ⟨y, rfl, by omega, by omega, fun h => by have := hy2 h; simp only [szP]; omega, (below_box w _).trans (hb.mono (by simp))⟩
end Go.Proofs.YtgcfgadkclfonaaGreatDoor
