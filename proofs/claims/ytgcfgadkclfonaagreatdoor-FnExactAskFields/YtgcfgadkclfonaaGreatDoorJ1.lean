import Derived.Test.YtgcfgadkclfonaaGreatDoorCopyS
import Derived.RowKit3
import Derived.Test.YtgcfgadkclfonaaGreatDoorArr
import Derived.Deep.Slices
import Derived.BigRegion
import Derived.Deep.RegionWith
import Derived.Deep.RegionHeld3
namespace Go.Proofs.YtgcfgadkclfonaaGreatDoor
set_option linter.unusedSimpArgs false
set_option linter.unusedVariables false
open Go.RowKit

/-- From a block on nothing is frozen. -/
def NF (lo : Nat) (w : World) : Prop := ∀ a : Addr, lo ≤ a.block → w.frozen? a = false
theorem NF.new (w : World) : NF w.heap.size w := fun a h => by simp [World.frozen?, Array.getElem?_eq_none h]
theorem NF.alloc {lo : Nat} {w : World} (h : NF lo w) (c : Array Value) (t : TypeId) : NF lo (w.alloc (.cells c t)) := fun a ha => by rw [frozen?_alloc_cells]; exact h a ha
theorem NF.set {lo : Nat} {w : World} (h : NF lo w) (p : Addr) (v : Value) : NF lo (w.setCell p v) := fun a ha => by rw [World.frozen?_setCell]; exact h a ha
theorem NF.puts {lo : Nat} : ∀ {w : World} (h : NF lo w) (N k : Nat) (cs : List Value), NF lo (puts w N k cs)
  | w, h, N, k, [] => h
  | w, h, N, k, c :: cs => NF.puts (h.set ⟨N, k, none⟩ c) N (k + 1) cs
theorem NF.call {lo : Nat} {w w' : World} (h : NF lo w) (hb : Below w.heap.size w w') (h' : NF w.heap.size w') : NF lo w' := fun a ha => by
  rcases Nat.lt_or_ge a.block w.heap.size with h1 | h1
  · rw [hb.frozen h1]; exact h a ha
  · exact h' a h1
theorem NF.three (w : World) (c1 c2 c3 : Array Value) (t1 t2 t3 : TypeId) : NF w.heap.size (((w.alloc (.cells c1 t1)).alloc (.cells c2 t2)).alloc (.cells c3 t3)) := (((NF.new w).alloc c1 t1).alloc c2 t2).alloc c3 t3
set_option maxHeartbeats 400000 in
theorem toStringS_nf (ns : List ByteArray) (a : Option Addr) (c : Nat) (w : World) (hS : Strs w (· < w.heap.size) ns a) (hb : 16 * ns.length ≤ 281474976710656) :
    Calls Tryz.prog 127 #[.slice a ns.length c] w fun e w' => e = .returned (.slice (some ⟨w.heap.size, 0, none⟩) ns.length ns.length) ∧ Below w.heap.size w w' ∧ w'.heap.size = w.heap.size + 1 ∧
      Strs w' (· = w.heap.size) ns (some ⟨w.heap.size, 0, none⟩) ∧ NF w.heap.size w' := by
  have hS' := hS
  obtain ⟨h1, h2, h3⟩ := hS
  unfold maxLen at h3
  have hmk := run_make_row' (P := Tryz.prog) 28 9 (.string ByteArray.empty) 16 Tryz.underlying28 info9 rfl .i64 .i64 ns.length hb h3
  go_enter Tryz.func127, Tryz.ntmps127
  go_wp2
  go_loopw [4] (fun i wr => ∃ k : Nat, k ≤ ns.length ∧ i = .int .i64 k ∧ Below w.heap.size w wr ∧ wr.heap.size = w.heap.size + 1 ∧ wr.rowIs w.heap.size 9 ns.length (fun j => if j < k then .string (nth ns j) else .string ByteArray.empty) ∧ NF w.heap.size wr) (fun i _ => ns.length - (intOf i).toNat)
  case atStart =>
    refine ⟨0, Nat.zero_le _, rfl, (Below.refl _ _).alloc (Nat.le_refl _) _, by simp, ?_, (NF.new w).alloc _ _⟩
    exact (World.rowIs_made w _ _ _).congr fun i hi => by simp
  case round =>
    obtain ⟨k, hk, rfl, hbel, hsz, hrow, hnf⟩ := hrel
    have HNF : Hid (NF w.heap.size wr) := hnf
    clear hnf
    by_cases hlt : k < ns.length
    · obtain ⟨b, off, rfl, hbl, hc⟩ := h1 (by intro e; simp [e] at hlt)
      have hck : wr.cell? ⟨b, off + k, none⟩ = some (.string (nth ns k)) := (hbel.cell (p := ⟨b, off + k, none⟩) hbl).trans (hc k hlt)
      have hfz : wr.frozen? ⟨w.heap.size, k, none⟩ = false := hrow.frozen k
      have hcc : ∃ v, wr.cell? ⟨w.heap.size, k, none⟩ = some v := ⟨_, hrow.cell hlt⟩
      obtain ⟨v, hcv⟩ := hcc
      go_wp2
      go_roundw
      case rel =>
        refine ⟨k + 1, by omega, by go_num, hbel.setCell (Nat.le_refl _) _, by simp [World.setCell, hsz], ?_, HNF.out.set _ _⟩
        refine (hrow.set k _).congr fun i hi => ?_
        by_cases e1 : i = k
        · subst e1; simp
        · by_cases e2 : i < k
          · simp [e1, e2, show i < k + 1 by omega]
          · simp [e1, e2, show ¬ i < k + 1 by omega]
      case measure => simp [intOf]; omega
    · go_wp2
      go_ret
      have e : k = ns.length := by omega
      subst e
      refine ⟨rfl, hbel, hsz, ⟨fun _ => ⟨_, 0, rfl, rfl, fun i hi => ?_⟩, h2, by unfold maxLen; omega⟩, HNF.out⟩
      have := hrow.cell hi
      rw [if_pos hi] at this
      simpa using this
end Go.Proofs.YtgcfgadkclfonaaGreatDoor

namespace Go.Proofs.YtgcfgadkclfonaaGreatDoor
set_option linter.unusedSimpArgs false
set_option linter.unusedVariables false
open Go.RowKit



/-- Number i of a list. -/
def ith (ns : List Int) (i : Nat) : Int := ns.getD i 0
/-- The slice that begins at 'a' holds the numbers 'ns', in blocks of which P holds. -/
def Ints (w : World) (P : Nat → Prop) (ns : List Int) (a : Option Addr) : Prop :=
  8 * ns.length ≤ 281474976710656 ∧ (0 < ns.length → ∃ b off, a = some ⟨b, off, none⟩ ∧ P b ∧ ∀ i, i < ns.length → w.cell? ⟨b, off + i, none⟩ = some (.int .i64 (ith ns i)))
theorem Ints.mono {w w' : World} {P : Nat → Prop} {ns : List Int} {a : Option Addr} (h : Ints w P ns a) (e : ∀ k, P k → w'.heap[k]? = w.heap[k]?) : Ints w' P ns a := by
  refine ⟨h.1, fun hn => ?_⟩
  obtain ⟨b, off, ha, hP, hc⟩ := h.2 hn
  exact ⟨b, off, ha, hP, fun i hi => (World.cell?_of_block (w := w) (a := ⟨b, off + i, none⟩) (e b hP)).trans (hc i hi)⟩
theorem Ints.sub {w : World} {P Q : Nat → Prop} {ns : List Int} {a : Option Addr} (h : Ints w P ns a) (e : ∀ k, P k → Q k) : Ints w Q ns a := by
  refine ⟨h.1, fun hn => ?_⟩
  obtain ⟨b, off, ha, hP, hc⟩ := h.2 hn
  exact ⟨b, off, ha, e _ hP, hc⟩
theorem Ints.under {w w' : World} {B : Nat} {x : List Int} {v : Option Addr} (h : Ints w (· < B) x v) (hb : Below B w w') : Ints w' (· < B) x v := h.mono fun k hk => hb.block k hk
theorem Ints.nil (w : World) (P : Nat → Prop) (a : Option Addr) : Ints w P [] a := ⟨by simp, fun h => by simp at h⟩
/-- What a list of numbers weighs. -/
def szIs (ns : List Int) : Nat := ns.length
theorem info3 : (Tryz.prog.info? 3).map (fun i => (i.zero, i.size, i.bytes)) = some (some (.int .i64 0), 1, 8) := by kernel_rfl
end Go.Proofs.YtgcfgadkclfonaaGreatDoor

namespace Go.Proofs.YtgcfgadkclfonaaGreatDoor
set_option linter.unusedSimpArgs false
set_option linter.unusedVariables false
open Go.RowKit

/-- A field that is asked for, as it is meant. -/
structure Se where
  al : ByteArray
  name : ByteArray
  one : Bool
  id : Int
  kids : List Se
def Se.zero : Se := .mk ByteArray.empty ByteArray.empty false 0 []
/-- Kid i. -/
def sth (ks : List Se) (i : Nat) : Se := ks.getD i Se.zero
theorem sth_lt (ks : List Se) (i : Nat) (h : i < ks.length) : SizeOf.sizeOf (sth ks i) < SizeOf.sizeOf ks := by
  have e : sth ks i = ks[i] := by simp [sth, List.getD_eq_getElem?_getD, h]
  rw [e]
  exact List.sizeOf_lt_of_mem (List.getElem_mem h)

/-- The cells of the world hold the field, in blocks of which P holds; so many levels at most. -/
def SeN (w : World) (P : Nat → Prop) : Nat → Se → Value → Prop
  | 0, _, _ => False
  | f + 1, x, v => ∃ (ka : Option Addr) (kc : Nat) (C : Nat → Nat → Value),
      v = .agg #[.string x.al, .string x.name, .bool x.one, .int .i64 x.id, .slice ka x.kids.length kc] ∧ x.al.size ≤ maxLen ∧ x.name.size ≤ maxLen ∧ 72 * x.kids.length ≤ 281474976710656 ∧
      Arr w P 5 x.kids.length ka C ∧ ∀ i, i < x.kids.length → SeN w P f (sth x.kids i) (.agg #[C i 0, C i 1, C i 2, C i 3, C i 4])
/-- The cells of the world hold the field, in blocks of which P holds. -/
def SeRep (w : World) (P : Nat → Prop) (x : Se) (v : Value) : Prop := ∃ f, SeN w P f x v
/-- The same of a list of fields. -/
def SeReps (w : World) (P : Nat → Prop) (ks : List Se) (a : Option Addr) : Prop :=
  72 * ks.length ≤ 281474976710656 ∧ ∃ C : Nat → Nat → Value, Arr w P 5 ks.length a C ∧ ∀ i, i < ks.length → SeRep w P (sth ks i) (.agg #[C i 0, C i 1, C i 2, C i 3, C i 4])

theorem SeN.le {w : World} {P : Nat → Prop} : ∀ {f g : Nat} {x : Se} {v : Value}, SeN w P f x v → f ≤ g → SeN w P g x v
  | 0, _, _, _, h, _ => h.elim
  | f + 1, 0, _, _, _, hg => by omega
  | f + 1, g + 1, x, v, h, hg => by
    obtain ⟨ka, kc, C, h1, h2, h3, h4, h5, h6⟩ := h
    exact ⟨ka, kc, C, h1, h2, h3, h4, h5, fun i hi => (h6 i hi).le (by omega)⟩

theorem se_bound {w : World} {P : Nat → Prop} {X : Nat → Se} {U : Nat → Value} : ∀ n : Nat, (∀ i, i < n → SeRep w P (X i) (U i)) → ∃ f, ∀ i, i < n → SeN w P f (X i) (U i)
  | 0, _ => ⟨0, fun i hi => by omega⟩
  | n + 1, h => by
    obtain ⟨f, hf⟩ := se_bound n fun i hi => h i (by omega)
    obtain ⟨g, hg⟩ := h n (by omega)
    refine ⟨f + g, fun i hi => ?_⟩
    by_cases e : i = n
    · subst e; exact hg.le (by omega)
    · exact (hf i (by omega)).le (by omega)

theorem SeRep.of_kids {w : World} {P : Nat → Prop} {s n : ByteArray} {o : Bool} {id : Int} {ks : List Se} {ka : Option Addr} {kc : Nat} (hs : s.size ≤ maxLen) (hn : n.size ≤ maxLen) (hK : SeReps w P ks ka) :
    SeRep w P (.mk s n o id ks) (.agg #[.string s, .string n, .bool o, .int .i64 id, .slice ka ks.length kc]) := by
  obtain ⟨hbk, C, hA, hr⟩ := hK
  obtain ⟨f, hf⟩ := se_bound ks.length hr
  exact ⟨f + 1, ka, kc, C, rfl, hs, hn, hbk, hA, hf⟩

theorem SeRep.inv {w : World} {P : Nat → Prop} {s n : ByteArray} {o : Bool} {id : Int} {ks : List Se} {v : Value} (h : SeRep w P (.mk s n o id ks) v) :
    ∃ (ka : Option Addr) (kc : Nat), v = .agg #[.string s, .string n, .bool o, .int .i64 id, .slice ka ks.length kc] ∧ s.size ≤ maxLen ∧ n.size ≤ maxLen ∧ SeReps w P ks ka := by
  obtain ⟨f, h⟩ := h
  match f, h with
  | f + 1, h =>
    obtain ⟨ka, kc, C, hv, hs, hn, hbk, hA, hr⟩ := h
    exact ⟨ka, kc, hv, hs, hn, hbk, C, hA, fun i hi => ⟨f, hr i hi⟩⟩

theorem SeN.mono {w w' : World} {P : Nat → Prop} (e : ∀ k, P k → w'.heap[k]? = w.heap[k]?) : ∀ {f : Nat} {x : Se} {v : Value}, SeN w P f x v → SeN w' P f x v
  | 0, _, _, h => h.elim
  | f + 1, x, v, h => by
    obtain ⟨ka, kc, C, h1, h2, h3, h4, hA, hr⟩ := h
    exact ⟨ka, kc, C, h1, h2, h3, h4, hA.mono e, fun i hi => (hr i hi).mono e⟩
theorem SeN.sub {w : World} {P Q : Nat → Prop} (e : ∀ k, P k → Q k) : ∀ {f : Nat} {x : Se} {v : Value}, SeN w P f x v → SeN w Q f x v
  | 0, _, _, h => h.elim
  | f + 1, x, v, h => by
    obtain ⟨ka, kc, C, h1, h2, h3, h4, hA, hr⟩ := h
    exact ⟨ka, kc, C, h1, h2, h3, h4, hA.sub e, fun i hi => (hr i hi).sub e⟩
theorem SeRep.mono {w w' : World} {P : Nat → Prop} {x : Se} {v : Value} (h : SeRep w P x v) (e : ∀ k, P k → w'.heap[k]? = w.heap[k]?) : SeRep w' P x v := by
  obtain ⟨f, h⟩ := h; exact ⟨f, h.mono e⟩
theorem SeRep.sub {w : World} {P Q : Nat → Prop} {x : Se} {v : Value} (h : SeRep w P x v) (e : ∀ k, P k → Q k) : SeRep w Q x v := by
  obtain ⟨f, h⟩ := h; exact ⟨f, h.sub e⟩
theorem SeReps.mono {w w' : World} {P : Nat → Prop} {ks : List Se} {a : Option Addr} (h : SeReps w P ks a) (e : ∀ k, P k → w'.heap[k]? = w.heap[k]?) : SeReps w' P ks a := by
  obtain ⟨h0, C, h1, h2⟩ := h; exact ⟨h0, C, h1.mono e, fun i hi => (h2 i hi).mono e⟩
theorem SeReps.sub {w : World} {P Q : Nat → Prop} {ks : List Se} {a : Option Addr} (h : SeReps w P ks a) (e : ∀ k, P k → Q k) : SeReps w Q ks a := by
  obtain ⟨h0, C, h1, h2⟩ := h; exact ⟨h0, C, h1.sub e, fun i hi => (h2 i hi).sub e⟩
theorem SeRep.under {w w' : World} {B : Nat} {x : Se} {v : Value} (h : SeRep w (· < B) x v) (hb : Below B w w') : SeRep w' (· < B) x v := h.mono fun k hk => hb.block k hk
theorem SeReps.under {w w' : World} {B : Nat} {x : List Se} {v : Option Addr} (h : SeReps w (· < B) x v) (hb : Below B w w') : SeReps w' (· < B) x v := h.mono fun k hk => hb.block k hk

/-- How many fields there are, itself and all that are asked of it. -/
def cntSe : Nat → Se → Nat
  | 0, _ => 0
  | f + 1, x => 1 + ((List.range x.kids.length).map fun i => cntSe f (sth x.kids i)).sum
/-- The same of a list: of the first so many. -/
def cntTo (f : Nat) (ks : List Se) (n : Nat) : Nat := ((List.range n).map fun i => cntSe f (sth ks i)).sum
theorem cntTo_succ (f : Nat) (ks : List Se) (n : Nat) : cntTo f ks (n + 1) = cntTo f ks n + cntSe f (sth ks n) := by simp [cntTo, List.range_succ]
theorem cntSe_kids (f : Nat) (x : Se) : cntSe (f + 1) x = 1 + cntTo f x.kids x.kids.length := rfl

/-- What szSel does with a field. -/
def SzOk (x : Se) : Prop := ∀ (w : World) (B : Nat) (v : Value) (left : Int), SeRep w (· < B) x v → B ≤ w.heap.size → 0 ≤ left → left ≤ 1048576 →
  Calls Tryz.prog 27 #[v, .int .i64 left] w fun e w' => ∃ y : Int, e = .returned (.int .i64 y) ∧ -1 ≤ y ∧ y ≤ left ∧ (0 ≤ y → ∀ f, y + cntSe f x ≤ left + 1) ∧ Below w.heap.size w w'

set_option maxHeartbeats 800000 in
theorem szSelS_any (ks : List Se) (IH : ∀ i, i < ks.length → SzOk (sth ks i)) (w : World) (B : Nat) (a : Option Addr) (c : Nat) (left : Int) (hK : SeReps w (· < B) ks a) (hB : B ≤ w.heap.size) (hl0 : 0 ≤ left) (hl1 : left ≤ 1048576) :
    Calls Tryz.prog 7 #[.slice a ks.length c, .int .i64 left] w fun e w' => ∃ y : Int, e = .returned (.int .i64 y) ∧ -1 ≤ y ∧ y ≤ left ∧ (0 ≤ y → y + ks.length ≤ left ∧ ∀ f, y + cntTo f ks ks.length ≤ left) ∧ Below w.heap.size w w' := by
  obtain ⟨h3, C, hA, hr⟩ := hK
  by_cases hbig : left < ks.length
  · go_enter Tryz.func7, Tryz.ntmps7
    go_wp2_with fail
    go_ret
    exact ⟨-1, rfl, by omega, by omega, by omega, Below.refl _ _⟩
  · go_enter Tryz.func7, Tryz.ntmps7
    go_wp2_with fail
    go_loopw [1, 5] (fun l i wr => ∃ (k : Nat) (x : Int), k ≤ ks.length ∧ i = .int .i64 k ∧ l = .int .i64 x ∧ 0 ≤ x ∧ x + ks.length ≤ left ∧ (∀ f, x + cntTo f ks k + ks.length ≤ left + k) ∧ Below w.heap.size w wr) (fun _ i _ => ks.length - (intOf i).toNat)
    case atStart => exact ⟨0, _, Nat.zero_le _, rfl, rfl, by omega, by omega, fun f => by simp [cntTo], Below.refl _ _⟩
    case round =>
      obtain ⟨k, x, hk, rfl, rfl, hx0, hx1, hx2, hbel⟩ := hrel
      have HX : Hid (∀ f, x + cntTo f ks k + ks.length ≤ left + k) := hx2
      clear hx2
      by_cases hlt : k < ks.length
      · obtain ⟨b, off, rfl, hbB, hc⟩ := hA (by omega)
        have hck : ∀ j, j < 5 → wr.cell? ⟨b, off + k * 5 + j, none⟩ = some (C k j) := fun j hj => (hbel.cell (p := ⟨b, off + k * 5 + j, none⟩) (by show b < _; omega)).trans (hc k hlt j hj)
        have hc0 : wr.cell? ⟨b, off + k * 5, none⟩ = some (C k 0) := hck 0 (by omega)
        have hc1 := hck 1 (by omega)
        have hc2 := hck 2 (by omega)
        have hc3 := hck 3 (by omega)
        have hc4 := hck 4 (by omega)
        clear hck hc
        go_wp2_with (go_at_call 27; refine (IH k hlt _ B _ x ((hr k hlt).under (hbel.mono hB)) (by have := hbel.size; omega) hx0 (by omega)).mono ?_; rintro e w' ⟨y, rfl, hy0, hy1, hy2, hby⟩)
        · go_ret
          exact ⟨-1, rfl, by omega, by omega, by omega, hbel.trans (hby.mono hbel.size)⟩
        · go_roundw
          case rel => exact ⟨k + 1, y, by omega, by go_num, rfl, by assumption, by omega, fun f => by have := HX.out f; have := hy2 (by assumption) f; rw [cntTo_succ]; omega, hbel.trans (hby.mono hbel.size)⟩
          case measure => simp [intOf]; omega
      · go_wp2_with fail
        go_ret
        have e : k = ks.length := by omega
        exact ⟨x, rfl, by omega, by omega, fun _ => ⟨by omega, fun f => by have := HX.out f; rw [e] at this; omega⟩, hbel⟩

set_option maxHeartbeats 400000 in
theorem szSel_step (s n : ByteArray) (o : Bool) (id : Int) (ks : List Se) (IH : ∀ i, i < ks.length → SzOk (sth ks i)) : SzOk (.mk s n o id ks) := by
  intro w B v left hR hB hl0 hl1
  obtain ⟨ka, kc, rfl, hs, hn, hK⟩ := hR.inv
  clear hR
  unfold maxLen at hs hn
  by_cases h1 : left < s.size
  · go_enter Tryz.func27, Tryz.ntmps27
    go_wp2_with fail
    go_ret
    exact ⟨-1, rfl, by omega, by omega, by omega, below_box _ _⟩
  by_cases h2 : left - s.size < n.size
  · go_enter Tryz.func27, Tryz.ntmps27
    go_wp2_with fail
    go_ret
    exact ⟨-1, rfl, by omega, by omega, by omega, below_box _ _⟩
  go_enter Tryz.func27, Tryz.ntmps27
  go_wp2_with (go_at_call 7; refine (szSelS_any ks IH _ B ka kc _ (hK.under ((below_box w _).mono hB)) (by simp; omega) (by omega) (by omega)).mono ?_; rintro e w' ⟨y, rfl, hy0, hy1, hy2, hb⟩)
  · go_ret
    exact ⟨-1, rfl, by omega, by omega, by omega, (below_box w _).trans (hb.mono (by simp))⟩
  · go_ret
    refine ⟨y, rfl, by omega, by omega, fun h f => ?_, (below_box w _).trans (hb.mono (by simp))⟩
    cases f with
    | zero => simp [cntSe]; omega
    | succ f => have := (hy2 h).2 f; rw [cntSe_kids]; simp only; omega

theorem sz_all (m : Nat) : ∀ x : Se, SizeOf.sizeOf x < m → SzOk x := by
  induction m with
  | zero => intro x h; omega
  | succ m ih =>
    intro x h
    match x, h with
    | .mk s n o id ks, h => exact szSel_step s n o id ks fun i hi => ih _ (by have := sth_lt ks i hi; simp at h; omega)
theorem szSel_any (x : Se) : SzOk x := sz_all _ x (Nat.lt_succ_self _)

def zeroSe : Value := .agg #[.string ByteArray.empty, .string ByteArray.empty, .bool false, .int .i64 0, .slice none 0 0]
theorem info_Sel : (Tryz.prog.info? 60).map (fun i => (i.zero, i.size, i.bytes)) = some (some zeroSe, 5, 72) := by kernel_rfl

/-- What toSel does with a field. -/
def CpOk (x : Se) : Prop := ∀ (w : World) (B : Nat) (v : Value), SeRep w (· < B) x v → B ≤ w.heap.size →
  Calls Tryz.prog 32 #[v] w fun e w' => ∃ (ka : Option Addr) (kc : Nat), e = .returned (.agg #[.string x.al, .string x.name, .bool x.one, .int .i64 x.id, .slice ka x.kids.length kc]) ∧ Below w.heap.size w w' ∧
    SeRep w' (fun b => w.heap.size ≤ b ∧ b < w'.heap.size) x (.agg #[.string x.al, .string x.name, .bool x.one, .int .i64 x.id, .slice ka x.kids.length kc]) ∧ NF w.heap.size w'

set_option maxHeartbeats 1600000 in
theorem toSelS_nf (xs : List Se) (IH : ∀ i, i < xs.length → CpOk (sth xs i)) (w : World) (B : Nat) (a : Option Addr) (c : Nat) (hK : SeReps w (· < B) xs a) (hB : B ≤ w.heap.size) :
    Calls Tryz.prog 10 #[.slice a xs.length c] w fun e w' => e = .returned (.slice (some ⟨w.heap.size, 0, none⟩) xs.length xs.length) ∧ Below w.heap.size w w' ∧ w.heap.size < w'.heap.size ∧
      SeReps w' (fun b => w.heap.size ≤ b ∧ b < w'.heap.size) xs (some ⟨w.heap.size, 0, none⟩) ∧ NF w.heap.size w' := by
  have h3 := hK.1
  obtain ⟨-, C, hA, hr⟩ := hK
  have hmk := run_make_any (P := Tryz.prog) 36 60 zeroSe #[.string ByteArray.empty, .string ByteArray.empty, .bool false, .int .i64 0, .slice none 0 0] rfl 5 72 Tryz.underlying36 info_Sel .i64 .i64 xs.length h3 (by omega)
  go_enter Tryz.func10, Tryz.ntmps10
  go_wp2_with fail
  go_loopw [4] (fun i wr => ∃ (k : Nat) (G : Nat → Value), k ≤ xs.length ∧ i = .int .i64 k ∧ Below w.heap.size w wr ∧ wr.rowIs w.heap.size 60 (xs.length * 5) G ∧
      (∀ i, i < k → SeRep wr (fun b => w.heap.size < b ∧ b < wr.heap.size) (sth xs i) (.agg #[G (i * 5), G (i * 5 + 1), G (i * 5 + 2), G (i * 5 + 3), G (i * 5 + 4)])) ∧ NF w.heap.size wr) (fun i _ => xs.length - (intOf i).toNat)
  case atStart =>
    obtain ⟨G, hG⟩ := made_row w #[.string ByteArray.empty, .string ByteArray.empty, .bool false, .int .i64 0, .slice none 0 0] (xs.length * 5) 60
    exact ⟨0, G, Nat.zero_le _, rfl, below_box _ _, hG, fun i hi => by omega, (NF.new w).alloc _ _⟩
  case round =>
    obtain ⟨k, G, hk, rfl, hbel, hrow, hreps, hnf⟩ := hrel
    have HNF : Hid (NF w.heap.size wr) := hnf
    clear hnf
    by_cases hlt : k < xs.length
    · obtain ⟨b, off, rfl, hbB, hc⟩ := hA (by omega)
      have hck : ∀ j, j < 5 → wr.cell? ⟨b, off + k * 5 + j, none⟩ = some (C k j) := fun j hj => (hbel.cell (p := ⟨b, off + k * 5 + j, none⟩) (by show b < _; omega)).trans (hc k hlt j hj)
      have hc0 : wr.cell? ⟨b, off + k * 5, none⟩ = some (C k 0) := hck 0 (by omega)
      have hc1 := hck 1 (by omega)
      have hc2 := hck 2 (by omega)
      have hc3 := hck 3 (by omega)
      have hc4 := hck 4 (by omega)
      clear hck hc
      go_wp2_with (
        go_at_call 32
        refine (IH k hlt _ B _ ((hr k hlt).under (hbel.mono hB)) (by have := hbel.size; omega)).mono ?_
        rintro e w1 ⟨na, nc, rfl, hby, hry, hnf1⟩
        have HN1 : Hid (NF w.heap.size w1) := NF.call HNF.out hby hnf1
        clear hnf1
        have hrow1 := hrow.of_block (hby.block _ hrow.lt)
        have q0 : w1.cell? ⟨w.heap.size, k * 5, none⟩ = some (G (k * 5)) := hrow1.cell (by omega)
        have q1 : w1.cell? ⟨w.heap.size, k * 5 + 1, none⟩ = some (G (k * 5 + 1)) := hrow1.cell (by omega)
        have q2 : w1.cell? ⟨w.heap.size, k * 5 + 2, none⟩ = some (G (k * 5 + 2)) := hrow1.cell (by omega)
        have q3 : w1.cell? ⟨w.heap.size, k * 5 + 3, none⟩ = some (G (k * 5 + 3)) := hrow1.cell (by omega)
        have q4 : w1.cell? ⟨w.heap.size, k * 5 + 4, none⟩ = some (G (k * 5 + 4)) := hrow1.cell (by omega)
        have z0 : ∀ j, w1.frozen? ⟨w.heap.size, j, none⟩ = false := fun j => hrow1.frozen j)
      go_roundw
      case rel =>
        obtain ⟨L, hL⟩ : ∃ L : List Value, L = [.string (sth xs k).al, .string (sth xs k).name, .bool (sth xs k).one, .int .i64 (sth xs k).id, .slice na (sth xs k).kids.length nc] := ⟨_, rfl⟩
        obtain ⟨G', hG, hG1, hGF⟩ := puts_row L (k * 5) hrow1
        have hs1 := hbel.size
        have hs2 := hby.size
        have hs3 := hrow.lt
        have g0 : G' (k * 5) = .string (sth xs k).al := by have := hG1 0 (by simp [hL]); simpa [hL] using this
        have g1 : G' (k * 5 + 1) = .string (sth xs k).name := by have := hG1 1 (by simp [hL]); simpa [hL] using this
        have g2 : G' (k * 5 + 2) = .bool (sth xs k).one := by have := hG1 2 (by simp [hL]); simpa [hL] using this
        have g3 : G' (k * 5 + 3) = .int .i64 (sth xs k).id := by have := hG1 3 (by simp [hL]); simpa [hL] using this
        have g4 : G' (k * 5 + 4) = .slice na (sth xs k).kids.length nc := by have := hG1 4 (by simp [hL]); simpa [hL] using this
        have hpb := puts_block w.heap.size
        have hps := puts_size w.heap.size L w1 (k * 5)
        have key : ∃ (k' : Nat) (G : Nat → Value), k' ≤ xs.length ∧ (.int .i64 ((k + 1 : Nat) : Int) : Value) = .int .i64 k' ∧ Below w.heap.size w (puts w1 w.heap.size (k * 5) L) ∧ (puts w1 w.heap.size (k * 5) L).rowIs w.heap.size 60 (xs.length * 5) G ∧
            (∀ i, i < k' → SeRep (puts w1 w.heap.size (k * 5) L) (fun b => w.heap.size < b ∧ b < (puts w1 w.heap.size (k * 5) L).heap.size) (sth xs i) (.agg #[G (i * 5), G (i * 5 + 1), G (i * 5 + 2), G (i * 5 + 3), G (i * 5 + 4)])) ∧ NF w.heap.size (puts w1 w.heap.size (k * 5) L) := by
          refine ⟨k + 1, G', by omega, rfl, puts_below (Nat.le_refl _) L w1 (k * 5) (hbel.trans (hby.mono hs1)), hG, fun i hi => ?_, HN1.out.puts _ _ _⟩
          by_cases e1 : i = k
          · rw [e1, g0, g1, g2, g3, g4]
            exact (hry.mono fun b hb => hpb b (by omega) L w1 _).sub fun b hb => ⟨by omega, by omega⟩
          · rw [hGF _ (by omega), hGF _ (by omega), hGF _ (by omega), hGF _ (by omega), hGF _ (by omega)]
            exact ((hreps i (by omega)).mono fun b hb => (hpb b (by omega) L w1 _).trans (hby.block b hb.2)).sub fun b hb => ⟨hb.1, by omega⟩
        rw [hL] at key
        obtain ⟨k', G2, y1, y2, y3⟩ := key
        exact ⟨k', G2, y1, Eq.trans (by go_num) y2, y3⟩
      case measure => simp [intOf]; omega
    · go_wp2_with fail
      go_ret
      have e : k = xs.length := by omega
      subst e
      refine ⟨rfl, hbel, hrow.lt, ⟨h3, fun i j => G (i * 5 + j), fun _ => ⟨_, _, rfl, ⟨Nat.le_refl _, hrow.lt⟩, fun i hi j hj => ?_⟩, fun i hi => (hreps i hi).sub fun b hb => ⟨by omega, hb.2⟩⟩, HNF.out⟩
      have := hrow.cell (i := i * 5 + j) (by omega)
      simpa using this

/-- What toSel's last steps leave. -/
theorem cpSe_end {w w1 : World} {t : Se} {x : Value} {N : Nat} (hN : N = w.heap.size) (hbw : Below N w w1) (hsz1 : N + 1 + 1 + 1 < w1.heap.size)
    (hst1 : SeReps w1 (fun b => N + 1 + 1 + 1 ≤ b ∧ b < w1.heap.size) t.kids (some ⟨N + 1 + 1 + 1, 0, none⟩)) (h1 : t.al.size ≤ maxLen) (h2 : t.name.size ≤ maxLen) (cs : List Value) :
    Below N w (puts (w1.setCell ⟨N + 1 + 1, 4, none⟩ x) (N + 1) 0 cs) ∧
    SeRep (puts (w1.setCell ⟨N + 1 + 1, 4, none⟩ x) (N + 1) 0 cs) (fun b => N ≤ b ∧ b < (puts (w1.setCell ⟨N + 1 + 1, 4, none⟩ x) (N + 1) 0 cs).heap.size) t
      (.agg #[.string t.al, .string t.name, .bool t.one, .int .i64 t.id, .slice (some ⟨N + 1 + 1 + 1, 0, none⟩) t.kids.length t.kids.length]) := by
  have hsz : (puts (w1.setCell ⟨N + 1 + 1, 4, none⟩ x) (N + 1) 0 cs).heap.size = w1.heap.size := by rw [puts_size, size_set]
  obtain ⟨s, n, o, id, ks⟩ := t
  refine ⟨puts_below (by omega) _ _ _ (hbw.setCell (by show N ≤ N + 1 + 1; omega) _), SeRep.of_kids h1 h2 ((hst1.mono fun k hk => ?_).sub fun k hk => ?_)⟩
  · rw [puts_block _ _ (by omega), Below.heap_setCell _ _ _ _ (by show k ≠ N + 1 + 1; omega)]
  · rw [hsz]; omega

set_option maxHeartbeats 800000 in
theorem toSel_step (s n : ByteArray) (o : Bool) (id : Int) (ks : List Se) (IH : ∀ i, i < ks.length → CpOk (sth ks i)) : CpOk (.mk s n o id ks) := by
  intro w B v hR hB
  obtain ⟨ka, kc, rfl, hs, hn, hK⟩ := hR.inv
  clear hR
  have hb3 : ∀ o1 o2 o3, Below w.heap.size w (((w.alloc o1).alloc o2).alloc o3) := fun o1 o2 o3 => (((Below.refl _ _).alloc (Nat.le_refl _) _).alloc (by simp) _).alloc (by simp; omega) _
  go_enter Tryz.func32, Tryz.ntmps32
  go_wp2_with (
      go_at_call 10
      refine (toSelS_nf ks IH _ B ka kc (hK.under ((hb3 _ _ _).mono hB)) (by simp; omega)).mono ?_
      rintro e w1 ⟨rfl, hb1, hsz1, hst1, hnf1⟩
      have HN1 : Hid (NF w.heap.size w1) := NF.call (NF.three w _ _ _ _ _ _) hb1 hnf1
      clear hnf1
      obtain ⟨c1, f1⟩ := bcell hb1
      simp at hsz1
      have hlt1 : w.heap.size + 1 + 1 < w1.heap.size := by omega)
  have hbw : Below w.heap.size w w1 := (hb3 _ _ _).trans (hb1.mono (by simp; omega))
  have fin := cpSe_end (w := w) (w1 := w1) (t := ⟨s, n, o, id, ks⟩) (x := .slice (some ⟨w.heap.size + 1 + 1 + 1, 0, none⟩) ks.length ks.length) (N := w.heap.size) rfl hbw hsz1 (by simpa using hst1) hs hn [.string s, .string n, .bool o, .int .i64 id, .slice (some ⟨w.heap.size + 1 + 1 + 1, 0, none⟩) ks.length ks.length]
  refine bodyPost_ret (v := .agg #[.string s, .string n, .bool o, .int .i64 id, .slice (some ⟨w.heap.size + 1 + 1 + 1, 0, none⟩) ks.length ks.length]) ?res rfl ⟨_, _, rfl, fin.1, fin.2, fun a ha => by simp only [World.frozen?_setCell]; exact HN1.out a ha⟩
  case res =>
    have hr0 : ∀ o1 o3 c, ((((w.alloc o1).alloc (.cells c 60)).alloc o3)).rowIs (w.heap.size + 1) 60 c.size (fun i => c[i]?.getD undef) := fun o1 o3 c => by
      have h := ((w.alloc o1).rowIs_alloc c 60 (fun i => c[i]?.getD undef) (fun i hi => by simp [hi])).alloc o3
      simpa using h
    have hr1 := (hr0 _ _ _).of_block (hb1.block (w.heap.size + 1) (by simp))
    have p0 := hr1.cell (i := 0) (by simp)
    have p1 := hr1.cell (i := 1) (by simp)
    have p2 := hr1.cell (i := 2) (by simp)
    have p3 := hr1.cell (i := 3) (by simp)
    have p4 := hr1.cell (i := 4) (by simp)
    clear fin hst1 hK IH c1 f1 hb1 hr0 hr1
    simp [results, Tryz.results32, go_sem, p0, p1, p2, p3, p4]

theorem cp_all (m : Nat) : ∀ x : Se, SizeOf.sizeOf x < m → CpOk x := by
  induction m with
  | zero => intro x h; omega
  | succ m ih =>
    intro x h
    match x, h with
    | .mk s n o id ks, h => exact toSel_step s n o id ks fun i hi => ih _ (by have := sth_lt ks i hi; simp at h; omega)
theorem toSel_any (x : Se) : CpOk x := cp_all _ x (Nat.lt_succ_self _)

def EqOk (x : Se) : Prop := ∀ (w : World) (B : Nat) (v v' : Value), SeRep w (· < B) x v → SeRep w (· < B) x v' → B ≤ w.heap.size →
  Calls Tryz.prog 38 #[v, v'] w fun e w' => e = .returned (.bool true) ∧ Below w.heap.size w w'

set_option maxHeartbeats 1600000 in
theorem eqSelS_any (xs : List Se) (IH : ∀ i, i < xs.length → EqOk (sth xs i)) (w : World) (B : Nat) (a a' : Option Addr) (c c' : Nat) (hK : SeReps w (· < B) xs a) (hK' : SeReps w (· < B) xs a') (hB : B ≤ w.heap.size) :
    Calls Tryz.prog 14 #[.slice a xs.length c, .slice a' xs.length c'] w fun e w' => e = .returned (.bool true) ∧ Below w.heap.size w w' := by
  have h3 := hK.1
  obtain ⟨-, C, hA, hr⟩ := hK
  obtain ⟨-, C', hA', hr'⟩ := hK'
  go_enter Tryz.func14, Tryz.ntmps14
  go_wp2_with fail
  go_loopw [5] (fun i wr => ∃ k : Nat, k ≤ xs.length ∧ i = .int .i64 k ∧ Below w.heap.size w wr) (fun i _ => xs.length - (intOf i).toNat)
  case atStart => exact ⟨0, Nat.zero_le _, rfl, Below.refl _ _⟩
  case round =>
    obtain ⟨k, hk, rfl, hbel⟩ := hrel
    by_cases hlt : k < xs.length
    · obtain ⟨b, off, rfl, hbB, hc⟩ := hA (by omega)
      obtain ⟨b', off', rfl, hbB', hd⟩ := hA' (by omega)
      clear hA hA'
      have hck : ∀ j, j < 5 → wr.cell? ⟨b, off + k * 5 + j, none⟩ = some (C k j) := fun j hj => (hbel.cell (p := ⟨b, off + k * 5 + j, none⟩) (by show b < _; omega)).trans (hc k hlt j hj)
      have hc0 : wr.cell? ⟨b, off + k * 5, none⟩ = some (C k 0) := hck 0 (by omega)
      have hc1 := hck 1 (by omega)
      have hc2 := hck 2 (by omega)
      have hc3 := hck 3 (by omega)
      have hc4 := hck 4 (by omega)
      clear hck hc
      have hdk : ∀ j, j < 5 → wr.cell? ⟨b', off' + k * 5 + j, none⟩ = some (C' k j) := fun j hj => (hbel.cell (p := ⟨b', off' + k * 5 + j, none⟩) (by show b' < _; omega)).trans (hd k hlt j hj)
      have hd0 : wr.cell? ⟨b', off' + k * 5, none⟩ = some (C' k 0) := hdk 0 (by omega)
      have hd1 := hdk 1 (by omega)
      have hd2 := hdk 2 (by omega)
      have hd3 := hdk 3 (by omega)
      have hd4 := hdk 4 (by omega)
      clear hdk hd
      go_wp2_with fail
      go_region_with (go_at_call 38; refine (IH k hlt _ B _ _ ((hr k hlt).under ((hbel.drew).mono hB)) ((hr' k hlt).under ((hbel.drew).mono hB)) (by have := hbel.size; simp; omega)).mono ?_; rintro e w1 ⟨rfl, hby⟩)
      all_goals
        go_wp2_with fail
        go_roundw
        case rel => exact ⟨k + 1, by omega, by go_num, hbel.drew.trans (hby.mono (by have := hbel.size; simpa using this))⟩
        case measure => simp [intOf]; omega
    · go_wp2_with fail
      go_ret
      exact ⟨rfl, hbel⟩

set_option maxHeartbeats 400000 in
theorem eqSel_step (s n : ByteArray) (o : Bool) (id : Int) (ks : List Se) (IH : ∀ i, i < ks.length → EqOk (sth ks i)) : EqOk (.mk s n o id ks) := by
  intro w B v v' hR hR' hB
  obtain ⟨ka, kc, rfl, hs, hn, hK⟩ := hR.inv
  obtain ⟨ka', kc', rfl, -, -, hK'⟩ := hR'.inv
  clear hR hR'
  go_enter Tryz.func38, Tryz.ntmps38
  go_wp2_with (
      go_at_call 14
      refine (eqSelS_any ks IH _ B ka ka' kc kc' (hK.under ((below_box2 w _ _).mono hB)) (hK'.under ((below_box2 w _ _).mono hB)) (by simp; omega)).mono ?_
      rintro e w' ⟨rfl, hb⟩)
  go_ret
  exact ⟨rfl, (below_box2 w _ _).trans (hb.mono (by simp; omega))⟩

theorem eq_all (m : Nat) : ∀ x : Se, SizeOf.sizeOf x < m → EqOk x := by
  induction m with
  | zero => intro x h; omega
  | succ m ih =>
    intro x h
    match x, h with
    | .mk s n o id ks, h => exact eqSel_step s n o id ks fun i hi => ih _ (by have := sth_lt ks i hi; simp at h; omega)
theorem eqSel_any (x : Se) : EqOk x := eq_all _ x (Nat.lt_succ_self _)
end Go.Proofs.YtgcfgadkclfonaaGreatDoor
