/-
  Parts in memory: fields, types and parts, each held by cells of the world.
-/
import Derived.Test.YtibpieomldhomaaGreatDoorArr
import Derived.Test.YtibpieomldhomaaGreatDoorCopyS
namespace Go.Proofs.YtibpieomldhomaaGreatDoor
set_option linter.unusedSimpArgs false
set_option linter.unusedVariables false
open Go.RowKit


/-- A field as it is meant. -/
structure F where
  name : ByteArray
  of : ByteArray
  list : Bool
  must : Bool
  far : Bool
  hidden : Bool
  shared : Bool
  needs : List ByteArray
/-- A type as it is meant. -/
structure T where
  name : ByteArray
  key : ByteArray
  fields : List F
/-- A part as it is meant. -/
structure Pt where
  name : ByteArray
  types : List T
def F.zero : F := ⟨ByteArray.empty, ByteArray.empty, false, false, false, false, false, []⟩
def T.zero : T := ⟨ByteArray.empty, ByteArray.empty, []⟩
def fth (fs : List F) (i : Nat) : F := fs.getD i F.zero
def tth (ts : List T) (i : Nat) : T := ts.getD i T.zero

def FRep (w : World) (P : Nat → Prop) (f : F) (v : Value) : Prop := ∃ (na : Option Addr) (nc : Nat),
  v = .agg #[.string f.name, .string f.of, .bool f.list, .bool f.must, .bool f.far, .bool f.hidden, .bool f.shared, .slice na f.needs.length nc] ∧ Strs w P f.needs na ∧ f.needs.length ≤ nc ∧ f.name.size ≤ maxLen ∧ f.of.size ≤ maxLen ∧ 16 * f.needs.length ≤ 281474976710656
def FsRep (w : World) (P : Nat → Prop) (fs : List F) (a : Option Addr) : Prop := 64 * fs.length ≤ 281474976710656 ∧ ∃ C : Nat → Nat → Value, Arr w P 8 fs.length a C ∧ ∀ i, i < fs.length → FRep w P (fth fs i) (.agg #[C i 0, C i 1, C i 2, C i 3, C i 4, C i 5, C i 6, C i 7])
def TRep (w : World) (P : Nat → Prop) (t : T) (v : Value) : Prop := ∃ (fa : Option Addr) (fc : Nat),
  v = .agg #[.string t.name, .string t.key, .slice fa t.fields.length fc] ∧ FsRep w P t.fields fa ∧ t.fields.length ≤ fc ∧ t.name.size ≤ maxLen ∧ t.key.size ≤ maxLen
def TsRep (w : World) (P : Nat → Prop) (ts : List T) (a : Option Addr) : Prop := 56 * ts.length ≤ 281474976710656 ∧ ∃ C : Nat → Nat → Value, Arr w P 3 ts.length a C ∧ ∀ i, i < ts.length → TRep w P (tth ts i) (.agg #[C i 0, C i 1, C i 2])
def PRep (w : World) (P : Nat → Prop) (p : Pt) (v : Value) : Prop := ∃ (ta : Option Addr) (tc : Nat),
  v = .agg #[.string p.name, .slice ta p.types.length tc] ∧ TsRep w P p.types ta ∧ p.types.length ≤ tc ∧ p.name.size ≤ maxLen

theorem FRep.mono {w w' : World} {P : Nat → Prop} {f : F} {v : Value} (h : FRep w P f v) (e : ∀ k, P k → w'.heap[k]? = w.heap[k]?) : FRep w' P f v := by
  obtain ⟨na, nc, h1, h2, h3⟩ := h; exact ⟨na, nc, h1, h2.mono e, h3⟩
theorem FRep.sub {w : World} {P Q : Nat → Prop} {f : F} {v : Value} (h : FRep w P f v) (e : ∀ k, P k → Q k) : FRep w Q f v := by
  obtain ⟨na, nc, h1, h2, h3⟩ := h; exact ⟨na, nc, h1, h2.sub e, h3⟩
theorem FsRep.mono {w w' : World} {P : Nat → Prop} {f : List F} {v : Option Addr} (h : FsRep w P f v) (e : ∀ k, P k → w'.heap[k]? = w.heap[k]?) : FsRep w' P f v := by
  obtain ⟨h0, C, h1, h2⟩ := h; exact ⟨h0, C, h1.mono e, fun i hi => (h2 i hi).mono e⟩
theorem FsRep.sub {w : World} {P Q : Nat → Prop} {f : List F} {v : Option Addr} (h : FsRep w P f v) (e : ∀ k, P k → Q k) : FsRep w Q f v := by
  obtain ⟨h0, C, h1, h2⟩ := h; exact ⟨h0, C, h1.sub e, fun i hi => (h2 i hi).sub e⟩
theorem TRep.mono {w w' : World} {P : Nat → Prop} {t : T} {v : Value} (h : TRep w P t v) (e : ∀ k, P k → w'.heap[k]? = w.heap[k]?) : TRep w' P t v := by
  obtain ⟨fa, fc, h1, h2, h3⟩ := h; exact ⟨fa, fc, h1, h2.mono e, h3⟩
theorem TRep.sub {w : World} {P Q : Nat → Prop} {t : T} {v : Value} (h : TRep w P t v) (e : ∀ k, P k → Q k) : TRep w Q t v := by
  obtain ⟨fa, fc, h1, h2, h3⟩ := h; exact ⟨fa, fc, h1, h2.sub e, h3⟩
theorem TsRep.mono {w w' : World} {P : Nat → Prop} {f : List T} {v : Option Addr} (h : TsRep w P f v) (e : ∀ k, P k → w'.heap[k]? = w.heap[k]?) : TsRep w' P f v := by
  obtain ⟨h0, C, h1, h2⟩ := h; exact ⟨h0, C, h1.mono e, fun i hi => (h2 i hi).mono e⟩
theorem TsRep.sub {w : World} {P Q : Nat → Prop} {f : List T} {v : Option Addr} (h : TsRep w P f v) (e : ∀ k, P k → Q k) : TsRep w Q f v := by
  obtain ⟨h0, C, h1, h2⟩ := h; exact ⟨h0, C, h1.sub e, fun i hi => (h2 i hi).sub e⟩
theorem PRep.mono {w w' : World} {P : Nat → Prop} {t : Pt} {v : Value} (h : PRep w P t v) (e : ∀ k, P k → w'.heap[k]? = w.heap[k]?) : PRep w' P t v := by
  obtain ⟨fa, fc, h1, h2, h3⟩ := h; exact ⟨fa, fc, h1, h2.mono e, h3⟩
theorem PRep.sub {w : World} {P Q : Nat → Prop} {t : Pt} {v : Value} (h : PRep w P t v) (e : ∀ k, P k → Q k) : PRep w Q t v := by
  obtain ⟨fa, fc, h1, h2, h3⟩ := h; exact ⟨fa, fc, h1, h2.sub e, h3⟩
theorem FRep.under {w w' : World} {B : Nat} {x : F} {v : Value} (h : FRep w (· < B) x v) (hb : Below B w w') : FRep w' (· < B) x v := h.mono fun k hk => hb.block k hk
theorem FsRep.under {w w' : World} {B : Nat} {x : List F} {v : Option Addr} (h : FsRep w (· < B) x v) (hb : Below B w w') : FsRep w' (· < B) x v := h.mono fun k hk => hb.block k hk
theorem TRep.under {w w' : World} {B : Nat} {x : T} {v : Value} (h : TRep w (· < B) x v) (hb : Below B w w') : TRep w' (· < B) x v := h.mono fun k hk => hb.block k hk
theorem TsRep.under {w w' : World} {B : Nat} {x : List T} {v : Option Addr} (h : TsRep w (· < B) x v) (hb : Below B w w') : TsRep w' (· < B) x v := h.mono fun k hk => hb.block k hk
theorem PRep.under {w w' : World} {B : Nat} {x : Pt} {v : Value} (h : PRep w (· < B) x v) (hb : Below B w w') : PRep w' (· < B) x v := h.mono fun k hk => hb.block k hk

/-! What things weigh. -/
def szF (f : F) : Nat := f.name.size + f.of.size + szNs f.needs
def szFsTo (fs : List F) (n : Nat) : Nat := ((List.range n).map fun i => szF (fth fs i)).sum
theorem szFsTo_succ (fs : List F) (n : Nat) : szFsTo fs (n + 1) = szFsTo fs n + szF (fth fs n) := by simp [szFsTo, List.range_succ]
def szFs (fs : List F) : Nat := fs.length + szFsTo fs fs.length
def szT (t : T) : Nat := t.name.size + t.key.size + szFs t.fields
def szTsTo (ts : List T) (n : Nat) : Nat := ((List.range n).map fun i => szT (tth ts i)).sum
theorem szTsTo_succ (ts : List T) (n : Nat) : szTsTo ts (n + 1) = szTsTo ts n + szT (tth ts n) := by simp [szTsTo, List.range_succ]
def szTs (ts : List T) : Nat := ts.length + szTsTo ts ts.length
def szP (p : Pt) : Nat := p.name.size + szTs p.types

end Go.Proofs.YtibpieomldhomaaGreatDoor
