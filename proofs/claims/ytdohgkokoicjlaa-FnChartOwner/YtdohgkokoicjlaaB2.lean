import Derived.Test.YtdohgkokoicjlaaB1
import Derived.Laws.IdiomStrings
import Derived.Deep.RegionHeld3
import Derived.RowKit3
import Derived.ProofKit
import Derived.SizedLaws
import Derived.SliceStrings
import Derived.Deep.Slices
set_option linter.unusedSimpArgs false
set_option linter.unusedVariables false
namespace Go.Proofs.Ytdohgkokoicjlaa
open Go.RowKit
theorem below_box (w : World) (o : Obj) : Below w.heap.size w (w.alloc o) := (Below.refl _ _).alloc (Nat.le_refl _) _
theorem below_box2 (w : World) (o p : Obj) : Below w.heap.size w ((w.alloc o).alloc p) := (below_box w o).alloc (by simp) _
theorem below_drews {B : Nat} {a w : World} (h : Below B a w) (n : Nat) : Below B a (w.drewN n) := ⟨h.os, h.tape, h.output, h.size, h.block⟩
theorem below_undrew {w w' : World} (h : Below w.drew.heap.size w.drew w') : Below w.heap.size w w' := ⟨h.os, h.tape, h.output, h.size, h.block⟩
theorem Strs.under {w w' : World} {B : Nat} {x : List ByteArray} {v : Option Addr} (h : Strs w (· < B) x v) (hb : Below B w w') : Strs w' (· < B) x v := h.mono fun k hk => hb.block k hk
theorem size_set (w : World) (a : Addr) (v : Value) : (w.setCell a v).heap.size = w.heap.size := by simp [World.setCell]
def puts (w : World) (N : Nat) : Nat → List Value → World
  | _, [] => w
  | k, c :: cs => puts (w.setCell ⟨N, k, none⟩ c) N (k + 1) cs
theorem puts_block (N b : Nat) (h : b ≠ N) : ∀ (cs : List Value) (w : World) (k : Nat), (puts w N k cs).heap[b]? = w.heap[b]?
  | [], _, _ => rfl
  | c :: cs, w, k => (puts_block N b h cs _ (k + 1)).trans (Below.heap_setCell _ _ _ _ h)
theorem puts_size (N : Nat) : ∀ (cs : List Value) (w : World) (k : Nat), (puts w N k cs).heap.size = w.heap.size
  | [], _, _ => rfl
  | c :: cs, w, k => (puts_size N cs _ (k + 1)).trans (size_set _ _ _)
theorem puts_below {a : World} {B N : Nat} (hN : B ≤ N) : ∀ (cs : List Value) (w : World) (k : Nat), Below B a w → Below B a (puts w N k cs)
  | [], _, _, h => h
  | c :: cs, w, k, h => puts_below hN cs _ (k + 1) (h.setCell hN _)
theorem puts_row {N L : Nat} {e : TypeId} : ∀ (cs : List Value) {w : World} {G : Nat → Value} (k : Nat), w.rowIs N e L G → ∃ G' : Nat → Value, (puts w N k cs).rowIs N e L G' ∧ (∀ j, j < cs.length → G' (k + j) = cs.getD j undef) ∧ ∀ i, i < k → G' i = G i
  | [], _, G, k, h => ⟨G, h, fun j hj => by simp at hj, fun i _ => rfl⟩
  | c :: cs, w, G, k, h => by
    obtain ⟨G', h1, h2, h3⟩ := puts_row cs (k + 1) (h.set k c)
    refine ⟨G', h1, fun j hj => ?_, fun i hi => ?_⟩
    · cases j with
      | zero => rw [Nat.add_zero, h3 k (by omega)]; simp
      | succ j => rw [show k + (j + 1) = k + 1 + j by omega, h2 j (by simpa using hj)]; simp
    · rw [h3 i (by omega)]; simp [show i ≠ k by omega]
theorem info9 : (Try.prog.info? 9).map (fun i => (i.zero, i.size, i.bytes)) = some (some (.string ByteArray.empty), 1, 16) := by kernel_rfl
end Go.Proofs.Ytdohgkokoicjlaa
namespace Go.Proofs.Ytdohgkokoicjlaa
open Go.RowKit
def Arr (w : World) (P : Nat → Prop) (sz len : Nat) (a : Option Addr) (C : Nat → Nat → Value) : Prop :=
  0 < len → ∃ b off, a = some ⟨b, off, none⟩ ∧ P b ∧ ∀ i, i < len → ∀ j, j < sz → w.cell? ⟨b, off + i * sz + j, none⟩ = some (C i j)
theorem Arr.mono {w w' : World} {P : Nat → Prop} {sz len : Nat} {a : Option Addr} {C : Nat → Nat → Value} (h : Arr w P sz len a C) (e : ∀ k, P k → w'.heap[k]? = w.heap[k]?) : Arr w' P sz len a C := fun hl => by
  obtain ⟨b, off, ha, hb, hc⟩ := h hl
  exact ⟨b, off, ha, hb, fun i hi j hj => (World.cell?_of_block (w := w) (a := ⟨b, off + i * sz + j, none⟩) (e b hb)).trans (hc i hi j hj)⟩
theorem Arr.sub {w : World} {P Q : Nat → Prop} {sz len : Nat} {a : Option Addr} {C : Nat → Nat → Value} (h : Arr w P sz len a C) (e : ∀ k, P k → Q k) : Arr w Q sz len a C := fun hl => by
  obtain ⟨b, off, ha, hb, hc⟩ := h hl
  exact ⟨b, off, ha, e _ hb, hc⟩
end Go.Proofs.Ytdohgkokoicjlaa
namespace Go.Proofs.Ytdohgkokoicjlaa
open Go.RowKit
structure F where
  name : ByteArray
  of : ByteArray
  list : Bool
  must : Bool
  far : Bool
  hidden : Bool
  shared : Bool
  needs : List ByteArray
structure T where
  name : ByteArray
  key : ByteArray
  fields : List F
structure Pt where
  name : ByteArray
  types : List T
def F.zero : F := ⟨ByteArray.empty, ByteArray.empty, false, false, false, false, false, []⟩
def T.zero : T := ⟨ByteArray.empty, ByteArray.empty, []⟩
def fth (fs : List F) (i : Nat) : F := fs.getD i F.zero
def tth (ts : List T) (i : Nat) : T := ts.getD i T.zero
def FRep (w : World) (P : Nat → Prop) (f : F) (v : Value) : Prop := ∃ (na : Option Addr) (nc : Nat),
  v = .agg #[.string f.name, .string f.of, .bool f.list, .bool f.must, .bool f.far, .bool f.hidden, .bool f.shared, .slice na f.needs.length nc] ∧ Strs w P f.needs na ∧ f.needs.length ≤ nc ∧ f.name.size ≤ maxLen ∧ f.of.size ≤ maxLen ∧ 16 * f.needs.length ≤ 281474976710656
def FsRep (w : World) (P : Nat → Prop) (fs : List F) (a : Option Addr) : Prop := 64 * fs.length ≤ 281474976710656 ∧ ∃ C : Nat → Nat → Value, Arr w P 8 fs.length a C ∧ ∀ i, i < fs.length → FRep w P (fth fs i) (.agg #[C i 0, C i 1, C i 2, C i 3, C i 4, C i 5, C i 6, C i 7])
def TRep (w : World) (P : Nat → Prop) (t : T) (v : Value) : Prop := ∃ (fa : Option Addr) (fc : Nat),
  v = .agg #[.string t.name, .string t.key, .slice fa t.fields.length fc] ∧ FsRep w P t.fields fa ∧ t.fields.length ≤ fc ∧ t.name.size ≤ maxLen ∧ t.key.size ≤ maxLen
def TsRep (w : World) (P : Nat → Prop) (ts : List T) (a : Option Addr) : Prop := 56 * ts.length ≤ 281474976710656 ∧ ∃ C : Nat → Nat → Value, Arr w P 3 ts.length a C ∧ ∀ i, i < ts.length → TRep w P (tth ts i) (.agg #[C i 0, C i 1, C i 2])
def PRep (w : World) (P : Nat → Prop) (p : Pt) (v : Value) : Prop := ∃ (ta : Option Addr) (tc : Nat),
  v = .agg #[.string p.name, .slice ta p.types.length tc] ∧ TsRep w P p.types ta ∧ p.types.length ≤ tc ∧ p.name.size ≤ maxLen
theorem FRep.mono {w w' : World} {P : Nat → Prop} {f : F} {v : Value} (h : FRep w P f v) (e : ∀ k, P k → w'.heap[k]? = w.heap[k]?) : FRep w' P f v := by
  obtain ⟨na, nc, h1, h2, h3⟩ := h; exact ⟨na, nc, h1, h2.mono e, h3⟩
theorem FRep.sub {w : World} {P Q : Nat → Prop} {f : F} {v : Value} (h : FRep w P f v) (e : ∀ k, P k → Q k) : FRep w Q f v := by
  obtain ⟨na, nc, h1, h2, h3⟩ := h; exact ⟨na, nc, h1, h2.sub e, h3⟩
theorem FsRep.mono {w w' : World} {P : Nat → Prop} {f : List F} {v : Option Addr} (h : FsRep w P f v) (e : ∀ k, P k → w'.heap[k]? = w.heap[k]?) : FsRep w' P f v := by
  obtain ⟨h0, C, h1, h2⟩ := h; exact ⟨h0, C, h1.mono e, fun i hi => (h2 i hi).mono e⟩
theorem FsRep.sub {w : World} {P Q : Nat → Prop} {f : List F} {v : Option Addr} (h : FsRep w P f v) (e : ∀ k, P k → Q k) : FsRep w Q f v := by
  obtain ⟨h0, C, h1, h2⟩ := h; exact ⟨h0, C, h1.sub e, fun i hi => (h2 i hi).sub e⟩
theorem TRep.mono {w w' : World} {P : Nat → Prop} {t : T} {v : Value} (h : TRep w P t v) (e : ∀ k, P k → w'.heap[k]? = w.heap[k]?) : TRep w' P t v := by
  obtain ⟨fa, fc, h1, h2, h3⟩ := h; exact ⟨fa, fc, h1, h2.mono e, h3⟩
theorem TRep.sub {w : World} {P Q : Nat → Prop} {t : T} {v : Value} (h : TRep w P t v) (e : ∀ k, P k → Q k) : TRep w Q t v := by
  obtain ⟨fa, fc, h1, h2, h3⟩ := h; exact ⟨fa, fc, h1, h2.sub e, h3⟩
theorem TsRep.mono {w w' : World} {P : Nat → Prop} {f : List T} {v : Option Addr} (h : TsRep w P f v) (e : ∀ k, P k → w'.heap[k]? = w.heap[k]?) : TsRep w' P f v := by
  obtain ⟨h0, C, h1, h2⟩ := h; exact ⟨h0, C, h1.mono e, fun i hi => (h2 i hi).mono e⟩
theorem TsRep.sub {w : World} {P Q : Nat → Prop} {f : List T} {v : Option Addr} (h : TsRep w P f v) (e : ∀ k, P k → Q k) : TsRep w Q f v := by
  obtain ⟨h0, C, h1, h2⟩ := h; exact ⟨h0, C, h1.sub e, fun i hi => (h2 i hi).sub e⟩
theorem PRep.mono {w w' : World} {P : Nat → Prop} {t : Pt} {v : Value} (h : PRep w P t v) (e : ∀ k, P k → w'.heap[k]? = w.heap[k]?) : PRep w' P t v := by
  obtain ⟨fa, fc, h1, h2, h3⟩ := h; exact ⟨fa, fc, h1, h2.mono e, h3⟩
theorem PRep.sub {w : World} {P Q : Nat → Prop} {t : Pt} {v : Value} (h : PRep w P t v) (e : ∀ k, P k → Q k) : PRep w Q t v := by
  obtain ⟨fa, fc, h1, h2, h3⟩ := h; exact ⟨fa, fc, h1, h2.sub e, h3⟩
theorem FRep.under {w w' : World} {B : Nat} {x : F} {v : Value} (h : FRep w (· < B) x v) (hb : Below B w w') : FRep w' (· < B) x v := h.mono fun k hk => hb.block k hk
theorem FsRep.under {w w' : World} {B : Nat} {x : List F} {v : Option Addr} (h : FsRep w (· < B) x v) (hb : Below B w w') : FsRep w' (· < B) x v := h.mono fun k hk => hb.block k hk
theorem TRep.under {w w' : World} {B : Nat} {x : T} {v : Value} (h : TRep w (· < B) x v) (hb : Below B w w') : TRep w' (· < B) x v := h.mono fun k hk => hb.block k hk
theorem TsRep.under {w w' : World} {B : Nat} {x : List T} {v : Option Addr} (h : TsRep w (· < B) x v) (hb : Below B w w') : TsRep w' (· < B) x v := h.mono fun k hk => hb.block k hk
theorem PRep.under {w w' : World} {B : Nat} {x : Pt} {v : Value} (h : PRep w (· < B) x v) (hb : Below B w w') : PRep w' (· < B) x v := h.mono fun k hk => hb.block k hk
def szF (f : F) : Nat := f.name.size + f.of.size + szNs f.needs
def szFsTo (fs : List F) (n : Nat) : Nat := ((List.range n).map fun i => szF (fth fs i)).sum
theorem szFsTo_succ (fs : List F) (n : Nat) : szFsTo fs (n + 1) = szFsTo fs n + szF (fth fs n) := by simp [szFsTo, List.range_succ]
def szFs (fs : List F) : Nat := fs.length + szFsTo fs fs.length
def szT (t : T) : Nat := t.name.size + t.key.size + szFs t.fields
def szTsTo (ts : List T) (n : Nat) : Nat := ((List.range n).map fun i => szT (tth ts i)).sum
theorem szTsTo_succ (ts : List T) (n : Nat) : szTsTo ts (n + 1) = szTsTo ts n + szT (tth ts n) := by simp [szTsTo, List.range_succ]
def szTs (ts : List T) : Nat := ts.length + szTsTo ts ts.length
def szP (p : Pt) : Nat := p.name.size + szTs p.types
end Go.Proofs.Ytdohgkokoicjlaa
namespace Go.Proofs.Ytdohgkokoicjlaa
open Go.RowKit
end Go.Proofs.Ytdohgkokoicjlaa
namespace Go.Proofs.Ytdohgkokoicjlaa
open Go.RowKit
theorem below_sets {B N : Nat} {a w : World} (h : Below B a w) (hN : B ≤ N) (v0 v1 v2 v3 v4 v5 v6 v7 : Value) :
    Below B a ((((((((w.setCell ⟨N, 0, none⟩ v0).setCell ⟨N, 1, none⟩ v1).setCell ⟨N, 2, none⟩ v2).setCell ⟨N, 3, none⟩ v3).setCell ⟨N, 4, none⟩ v4).setCell ⟨N, 5, none⟩ v5).setCell ⟨N, 6, none⟩ v6).setCell ⟨N, 7, none⟩ v7) :=
  puts_below hN [v0, v1, v2, v3, v4, v5, v6, v7] w 0 h
theorem sets_block {N b : Nat} (h : b ≠ N) (w : World) (v0 v1 v2 v3 v4 v5 v6 v7 : Value) :
    ((((((((w.setCell ⟨N, 0, none⟩ v0).setCell ⟨N, 1, none⟩ v1).setCell ⟨N, 2, none⟩ v2).setCell ⟨N, 3, none⟩ v3).setCell ⟨N, 4, none⟩ v4).setCell ⟨N, 5, none⟩ v5).setCell ⟨N, 6, none⟩ v6).setCell ⟨N, 7, none⟩ v7).heap[b]? = w.heap[b]? :=
  puts_block N b h [v0, v1, v2, v3, v4, v5, v6, v7] w 0
theorem sets_size {N : Nat} (w : World) (v0 v1 v2 v3 v4 v5 v6 v7 : Value) :
    ((((((((w.setCell ⟨N, 0, none⟩ v0).setCell ⟨N, 1, none⟩ v1).setCell ⟨N, 2, none⟩ v2).setCell ⟨N, 3, none⟩ v3).setCell ⟨N, 4, none⟩ v4).setCell ⟨N, 5, none⟩ v5).setCell ⟨N, 6, none⟩ v6).setCell ⟨N, 7, none⟩ v7).heap.size = w.heap.size :=
  puts_size N [v0, v1, v2, v3, v4, v5, v6, v7] w 0
theorem sets_cells {w : World} {N : Nat} {c : Array Value} {T : TypeId} (hb : w.heap[N]? = some (.cells c T (0, 0))) (hc : c.size = 8) (v0 v1 v2 v3 v4 v5 v6 v7 : Value) (W : World)
    (hW : W.heap[N]? = ((((((((w.setCell ⟨N, 0, none⟩ v0).setCell ⟨N, 1, none⟩ v1).setCell ⟨N, 2, none⟩ v2).setCell ⟨N, 3, none⟩ v3).setCell ⟨N, 4, none⟩ v4).setCell ⟨N, 5, none⟩ v5).setCell ⟨N, 6, none⟩ v6).setCell ⟨N, 7, none⟩ v7).heap[N]?) :
    W.cell? ⟨N, 0, none⟩ = some v0 ∧ W.cell? ⟨N, 1, none⟩ = some v1 ∧ W.cell? ⟨N, 2, none⟩ = some v2 ∧ W.cell? ⟨N, 3, none⟩ = some v3 ∧ W.cell? ⟨N, 4, none⟩ = some v4 ∧ W.cell? ⟨N, 5, none⟩ = some v5 ∧ W.cell? ⟨N, 6, none⟩ = some v6 ∧ W.cell? ⟨N, 7, none⟩ = some v7 := by
  have hrow : w.rowIs N T 8 (fun i => c[i]?.getD undef) := ⟨c, hb, hc, fun i hi => by simp [show i < c.size by omega]⟩
  obtain ⟨G', hG, hG1, -⟩ := puts_row [v0, v1, v2, v3, v4, v5, v6, v7] 0 hrow
  have hG2 : W.rowIs N T 8 G' := hG.of_block hW
  have g : ∀ j, j < 8 → W.cell? ⟨N, j, none⟩ = some ([v0, v1, v2, v3, v4, v5, v6, v7].getD j undef) := fun j hj => by
    have := hG1 j hj
    rw [Nat.zero_add] at this
    rw [hG2.cell hj, this]
  exact ⟨g 0 (by omega), g 1 (by omega), g 2 (by omega), g 3 (by omega), g 4 (by omega), g 5 (by omega), g 6 (by omega), g 7 (by omega)⟩
end Go.Proofs.Ytdohgkokoicjlaa
namespace Go.Proofs.Ytdohgkokoicjlaa
open Go.RowKit Go.Maps
theorem fth_snoc_lt (fs : List F) (g : F) (i : Nat) (h : i < fs.length) : fth (fs ++ [g]) i = fth fs i := by
  simp [fth, List.getD_eq_getElem?_getD, List.getElem?_append_left h]
theorem fth_snoc_eq (fs : List F) (g : F) : fth (fs ++ [g]) fs.length = g := by
  simp [fth, List.getD_eq_getElem?_getD]
def flat3 (C : Nat → Nat → Value) (n : Nat) : List Value := (List.range (n * 3)).map fun j => C (j / 3) (j % 3)
theorem flat3_len (C : Nat → Nat → Value) (n : Nat) : (flat3 C n).length = n * 3 := by simp [flat3]
theorem flat3_at (C : Nat → Nat → Value) (n i j : Nat) (hi : i < n) (hj : j < 3) : (flat3 C n)[i * 3 + j]? = some (C i j) := by
  have h1 : i * 3 + j < n * 3 := by omega
  have h2 : (i * 3 + j) / 3 = i := by omega
  have h3 : (i * 3 + j) % 3 = j := by omega
  simp [flat3, h1, h2, h3]
theorem flat3_of {L : List Value} {C : Nat → Nat → Value} {n : Nat} (hl : L.length = n * 3) (h : ∀ i, i < n → ∀ j, j < 3 → L[i * 3 + j]? = some (C i j)) : L = flat3 C n := by
  apply List.ext_getElem?
  intro x
  by_cases hx : x < n * 3
  · have e : x / 3 * 3 + x % 3 = x := by omega
    have h1 := h (x / 3) (by omega) (x % 3) (Nat.mod_lt _ (by omega))
    have h2 := flat3_at C n (x / 3) (x % 3) (by omega) (Nat.mod_lt _ (by omega))
    rw [e] at h1 h2
    rw [h1, h2]
  · rw [List.getElem?_eq_none (by omega), List.getElem?_eq_none (by rw [flat3_len]; omega)]
theorem flat3_set (C : Nat → Nat → Value) (n i : Nat) (hi : i < n) (d : Nat → Value) :
    (((flat3 C n).set (i * 3) (d 0)).set (i * 3 + 1) (d 1)).set (i * 3 + 2) (d 2) = flat3 (fun a j => if a = i then d j else C a j) n := by
  apply flat3_of
  · simp [flat3_len]
  · intro a ha j hj
    have h0 := flat3_at C n a j ha hj
    by_cases e : a = i
    · subst e
      rw [if_pos rfl]
      have hlen : (flat3 C n).length = n * 3 := flat3_len C n
      rcases j with _ | _ | _ | j
      · rw [List.getElem?_set_ne (by omega), List.getElem?_set_ne (by omega), Nat.add_zero, List.getElem?_set_self (by omega)]
      · rw [List.getElem?_set_ne (by omega), List.getElem?_set_self (by simp [hlen]; omega)]
      · rw [List.getElem?_set_self (by simp [hlen]; omega)]
      · omega
    · rw [if_neg e, List.getElem?_set_ne (by omega), List.getElem?_set_ne (by omega), List.getElem?_set_ne (by omega), h0]
theorem flat3_push (C : Nat → Nat → Value) (n : Nat) (d0 d1 d2 : Value) : flat3 C n ++ [d0, d1, d2] = flat3 (fun a j => if a < n then C a j else [d0, d1, d2].getD j undef) (n + 1) := by
  apply flat3_of
  · simp [flat3_len]; omega
  · intro a ha j hj
    by_cases e : a < n
    · rw [if_pos e, List.getElem?_append_left (by rw [flat3_len]; omega), flat3_at _ _ _ _ e hj]
    · have : a = n := by omega
      subst this
      rw [if_neg e, List.getElem?_append_right (by rw [flat3_len]; omega), flat3_len, Nat.add_sub_cancel_left]
      rcases j with _ | _ | _ | j
      all_goals first | rfl | omega
theorem tth_set_ne (ts : List T) (g : T) (k i : Nat) (h : i ≠ k) : tth (ts.set k g) i = tth ts i := by
  simp [tth, List.getD_eq_getElem?_getD, List.getElem?_set_ne (Ne.symm h)]
theorem tth_set_eq (ts : List T) (g : T) (k : Nat) (h : k < ts.length) : tth (ts.set k g) k = g := by
  simp [tth, List.getD_eq_getElem?_getD, List.getElem?_set_self h]
theorem tth_snoc_lt (ts : List T) (g : T) (i : Nat) (h : i < ts.length) : tth (ts ++ [g]) i = tth ts i := by
  simp [tth, List.getD_eq_getElem?_getD, List.getElem?_append_left h]
theorem tth_snoc_eq (ts : List T) (g : T) : tth (ts ++ [g]) ts.length = g := by
  simp [tth, List.getD_eq_getElem?_getD]
end Go.Proofs.Ytdohgkokoicjlaa
namespace Go.Proofs.Ytdohgkokoicjlaa
open Go.RowKit
end Go.Proofs.Ytdohgkokoicjlaa
namespace Go.Proofs.Ytdohgkokoicjlaa
open Go.RowKit
structure Marked (lo hi : Nat) (w w' : World) : Prop where
  os : w'.os = w.os
  tape : w'.tape = w.tape
  output : w'.output = w.output
  size : w.heap.size ≤ w'.heap.size
  block : ∀ b, b < w.heap.size → ¬ (lo ≤ b ∧ b < hi) → w'.heap[b]? = w.heap[b]?
  text : ∀ a s, w.cell? a = some (.string s) → ∃ s', w'.cell? a = some (.string s')
  flag : ∀ a s, w.cell? a = some (.bool s) → ∃ s', w'.cell? a = some (.bool s')
  list : ∀ a x n c, w.cell? a = some (.slice x n c) → w'.cell? a = some (.slice x n c)
  frozen : ∀ a, a.block < w.heap.size → w'.frozen? a = w.frozen? a
theorem cell_block {w : World} {t : Addr} {old : Value} (h : w.cell? t = some old) : t.block < w.heap.size := by
  rcases Nat.lt_or_ge t.block w.heap.size with h1 | h1
  · exact h1
  · simp [World.cell?, Array.getElem?_eq_none h1] at h
theorem Marked.refl (lo hi : Nat) (w : World) : Marked lo hi w w :=
  ⟨rfl, rfl, rfl, Nat.le_refl _, fun _ _ _ => rfl, fun _ s h => ⟨s, h⟩, fun _ s h => ⟨s, h⟩, fun _ _ _ _ h => h, fun _ _ => rfl⟩
theorem Marked.trans {lo hi : Nat} {a b c : World} (h : Marked lo hi a b) (k : Marked lo hi b c) : Marked lo hi a c :=
  ⟨k.os.trans h.os, k.tape.trans h.tape, k.output.trans h.output, Nat.le_trans h.size k.size,
    fun i hi hn => (k.block i (Nat.lt_of_lt_of_le hi h.size) hn).trans (h.block i hi hn),
    fun a s e => by obtain ⟨s', e'⟩ := h.text a s e; exact k.text a s' e',
    fun a s e => by obtain ⟨s', e'⟩ := h.flag a s e; exact k.flag a s' e',
    fun a x n c e => k.list a x n c (h.list a x n c e), fun a ha => (k.frozen a (Nat.lt_of_lt_of_le ha h.size)).trans (h.frozen a ha)⟩
theorem Marked.of_below {w w' : World} (lo hi : Nat) (h : Below w.heap.size w w') : Marked lo hi w w' :=
  ⟨h.os, h.tape, h.output, h.size, fun b hb _ => h.block b hb, fun a s e => ⟨s, (h.cell (cell_block e)).trans e⟩, fun a s e => ⟨s, (h.cell (cell_block e)).trans e⟩,
    fun a x n c e => (h.cell (cell_block e)).trans e, fun a ha => h.frozen ha⟩
def TextAt (w : World) (a : Addr) : Prop := (∃ s, w.cell? a = some (.string s)) ∧ w.frozen? a = false
theorem TextAt.keep {lo hi : Nat} {w w' : World} {a : Addr} (h : TextAt w a) (m : Marked lo hi w w') : TextAt w' a := by
  obtain ⟨⟨s, e⟩, f⟩ := h
  exact ⟨m.text a s e, (m.frozen a (cell_block e)).trans f⟩
def WStrs (w : World) (lo hi n : Nat) (a : Option Addr) : Prop := 0 < n → ∃ b off, a = some ⟨b, off, none⟩ ∧ lo ≤ b ∧ b < hi ∧ ∀ i, i < n → TextAt w ⟨b, off + i, none⟩
theorem WStrs.keep {lo hi lo' hi' n : Nat} {w w' : World} {a : Option Addr} (h : WStrs w lo hi n a) (m : Marked lo' hi' w w') : WStrs w' lo hi n a := fun hn => by
  obtain ⟨b, off, e, h1, h2, hc⟩ := h hn
  exact ⟨b, off, e, h1, h2, fun i hi => (hc i hi).keep m⟩
end Go.Proofs.Ytdohgkokoicjlaa
namespace Go.Proofs.Ytdohgkokoicjlaa
open Go.RowKit
end Go.Proofs.Ytdohgkokoicjlaa
namespace Go.Proofs.Ytdohgkokoicjlaa
open Go.RowKit
end Go.Proofs.Ytdohgkokoicjlaa
namespace Go.Proofs.Ytdohgkokoicjlaa
open Go.RowKit Go.Deep Go.ChangeShapes
theorem add_plain (b off k : Nat) : (⟨b, off, none⟩ : Addr).add k = ⟨b, off + k, none⟩ := by by_cases h : k = 0 <;> simp [Addr.add, h]
section
variable {H : Type} {enc : TypeId × Value → H} {w : World}
def Light (t : TypeId) (d : DataW H) : Prop := ∀ n ∈ d.weights Try.prog t, n ≤ reachBytes
theorem light_all {e : TypeId} : ∀ {l : List (DataW H)} {d : DataW H}, d ∈ l → ∀ n ∈ d.weights Try.prog e, n ∈ DataW.weightsAll Try.prog e l
  | x :: r, d, hd, n, hn => by
    rw [DataW.weightsAll, List.mem_append]
    rcases List.mem_cons.1 hd with rfl | h
    · exact Or.inl hn
    · exact Or.inr (light_all h n hn)
theorem rows_open {X : Type} (z : X) (R : X → List Value → Prop) (sl e : TypeId) (sz by' : Nat) (hu : Try.prog.underlying sl = some (.slice e)) (hc : Try.prog.cellsOf e = sz) (hby : Try.prog.bytesOf e = by') (hs0 : 0 < sz)
    {fuel : Nat} {c : Value} {x : DataW H × List MemPlace} (h : DataW.trod enc Try.prog w 0 (fun _ => true) true fuel sl [c] = some x) (hl : Light sl x.1)
    (ih : ∀ m cs y, DataW.trod enc Try.prog w 0 (fun _ => true) true m e cs = some y → Light e y.1 → cs.length = sz ∧ ∃ a, R a cs) :
    ∃ (xs : List X) (a : Option Addr) (cap : Nat) (C : Nat → Nat → Value), c = .slice a xs.length cap ∧ xs.length ≤ cap ∧ by' * xs.length ≤ 281474976710656 ∧ Arr w (· < w.heap.size) sz xs.length a C ∧ ∀ i, i < xs.length → R (xs.getD i z) ((List.range sz).map (C i)) := by
  rcases DataW.trod_slice hu h with ⟨hc0, -⟩ | ⟨a, len, cap, elems, rest, n', hfu, hc0, rfl, -, hlc, hcm, hle, hel, -, -⟩
  · simp only [List.cons.injEq, and_true] at hc0
    exact ⟨[], none, 0, fun _ _ => undef, hc0, by simp, by simp, fun h => by simp at h, fun i hi => by simp at hi⟩
  · simp only [List.cons.injEq, and_true] at hc0
    have hw : by' * len ≤ 281474976710656 := by
      have h1 := hl (((elems.map (·.1)).length + (rest.map (·.1)).length) * Try.prog.bytesOf e) (by simp only [DataW.weights, hu]; exact List.mem_cons_self ..)
      rw [hby] at h1
      simp only [List.length_map, reachBytes] at h1
      have h2 : len * by' ≤ (elems.length + rest.length) * by' := Nat.mul_le_mul_right _ (by omega)
      have h3 : by' * len = len * by' := Nat.mul_comm _ _
      omega
    have hk : ∀ i, ∃ r : X × (Nat → Value), i < len → (∀ j, j < sz → w.cell? ((a.add (i * sz)).add j) = some (r.2 j)) ∧ R r.1 ((List.range sz).map r.2) := by
      intro i
      by_cases hi : i < len
      · have hi' : i < elems.length := by omega
        have h1 := hel i hi
        rw [List.getElem?_eq_getElem hi', hc] at h1
        obtain ⟨cs', hcs, htr⟩ := Option.bind_eq_some_iff.1 h1
        obtain ⟨hlen, y, hR⟩ := ih n' cs' _ htr (fun k hk => hl k (by
          simp only [DataW.weights, hu]
          refine List.mem_cons_of_mem _ (List.mem_append_left _ (light_all (d := elems[i].1) ?_ k hk))
          exact List.mem_map.2 ⟨elems[i], List.getElem_mem hi', rfl⟩))
        obtain ⟨-, -, hcc⟩ := World.cells?_some hcs
        have hcs2 : (List.range sz).map (fun j => cs'.getD j undef) = cs' := by
          apply List.ext_getElem
          · simp [hlen]
          · intro j h1 h2; simp [List.getD_eq_getElem?_getD, List.getElem?_eq_getElem h2]
        refine ⟨(y, fun j => cs'.getD j undef), fun _ => ⟨fun j hj => ?_, ?_⟩⟩
        · rw [hcc j hj]
          simp [List.getD_eq_getElem?_getD, List.getElem?_eq_getElem (show j < cs'.length by omega)]
        · show R y ((List.range sz).map (fun j => cs'.getD j undef))
          rw [hcs2]; exact hR
      · exact ⟨(z, fun _ => undef), fun h => absurd h hi⟩
    obtain ⟨f, hfk⟩ := Classical.skolem.1 hk
    have hkl : ((List.range len).map fun i => (f i).1).length = len := by simp
    refine ⟨(List.range len).map fun i => (f i).1, some a, cap, fun i => (f i).2, by rw [hkl]; exact hc0, by rw [hkl]; exact hlc, by rw [hkl]; exact hw, ?_, ?_⟩
    · intro h0
      rw [hkl] at h0 ⊢
      have h1 := (hfk 0 h0).1 0 hs0
      have h2 : w.cell? a = some ((f 0).2 0) := by simpa [Addr.add] using h1
      have hsp := World.cell?_spot h2
      obtain ⟨b, off, spot⟩ := a
      simp only at hsp
      subst hsp
      have : w.cells? 0 ⟨b, off, none⟩ 1 = some [(f 0).2 0] := cells?_one (Nat.zero_le _) h2
      refine ⟨b, off, rfl, World.cells?_block this (by omega), fun i hi j hj => ?_⟩
      have h3 := (hfk i hi).1 j hj
      rw [add_plain, add_plain] at h3
      exact h3
    · intro i hi
      rw [hkl] at hi
      have h1 := (hfk i hi).2
      simpa [List.getD_eq_getElem?_getD, List.getElem?_map, List.getElem?_range hi] using h1
end
end Go.Proofs.Ytdohgkokoicjlaa
