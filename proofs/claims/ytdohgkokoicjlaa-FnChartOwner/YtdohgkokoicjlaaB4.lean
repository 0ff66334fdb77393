import Derived.Test.YtdohgkokoicjlaaB2
import Derived.Deep.Slices
set_option linter.unusedSimpArgs false
set_option linter.unusedVariables false
namespace Go.Proofs.Ytdohgkokoicjlaa
open Go.RowKit
theorem szFsTo_mono (fs : List F) : ∀ i n, i ≤ n → szFsTo fs i ≤ szFsTo fs n := fun i n h => by
  induction h with
  | refl => exact Nat.le_refl _
  | step h ih => exact Nat.le_trans ih (by rw [szFsTo_succ]; omega)
theorem szTsTo_mono (ts : List T) : ∀ i n, i ≤ n → szTsTo ts i ≤ szTsTo ts n := fun i n h => by
  induction h with
  | refl => exact Nat.le_refl _
  | step h ih => exact Nat.le_trans ih (by rw [szTsTo_succ]; omega)
theorem needs_small (fs : List F) (h : szFs fs ≤ 1048576) (j : Nat) : (fth fs j).needs.length ≤ 1048576 := by
  by_cases hj : j < fs.length
  · have h1 := szFsTo_mono fs (j + 1) fs.length hj
    rw [szFsTo_succ] at h1
    have h2 : (fth fs j).needs.length ≤ szF (fth fs j) := by simp only [szF, szNs]; omega
    have h3 : szFs fs = fs.length + szFsTo fs fs.length := rfl
    omega
  · have : fth fs j = F.zero := by simp [fth, List.getD_eq_getElem?_getD, List.getElem?_eq_none (Nat.le_of_not_lt hj)]
    rw [this]; simp [F.zero]
theorem fields_small (ts : List T) (h : szTs ts ≤ 1048576) (i : Nat) : szFs (tth ts i).fields ≤ 1048576 := by
  by_cases hi : i < ts.length
  · have h1 := szTsTo_mono ts (i + 1) ts.length hi
    rw [szTsTo_succ] at h1
    have h2 : szT (tth ts i) = (tth ts i).name.size + (tth ts i).key.size + szFs (tth ts i).fields := rfl
    have h3 : szTs ts = ts.length + szTsTo ts ts.length := rfl
    omega
  · have : tth ts i = T.zero := by simp [tth, List.getD_eq_getElem?_getD, List.getElem?_eq_none (Nat.le_of_not_lt hi)]
    rw [this]; decide
end Go.Proofs.Ytdohgkokoicjlaa
namespace Go.Proofs.Ytdohgkokoicjlaa
open Go.RowKit
end Go.Proofs.Ytdohgkokoicjlaa
namespace Go.Proofs.Ytdohgkokoicjlaa
open Go.RowKit
theorem FRep.pieces {w : World} {P : Nat → Prop} {f : F} {c0 c1 c2 c3 c4 c5 c6 c7 : Value} (h : FRep w P f (.agg #[c0, c1, c2, c3, c4, c5, c6, c7])) :
    c0 = .string f.name ∧ c1 = .string f.of ∧ c2 = .bool f.list ∧ c3 = .bool f.must ∧ c4 = .bool f.far ∧ c5 = .bool f.hidden ∧ c6 = .bool f.shared ∧ ∃ na nc, c7 = .slice na f.needs.length nc ∧ Strs w P f.needs na ∧ f.needs.length ≤ nc ∧ f.name.size ≤ maxLen ∧ f.of.size ≤ maxLen := by
  obtain ⟨na, nc, hv, h2, h3, h4, h5, -⟩ := h
  simp only [Value.agg.injEq, Array.mk.injEq, List.cons.injEq, and_true] at hv
  obtain ⟨e0, e1, e2, e3, e4, e5, e6, e7⟩ := hv
  exact ⟨e0, e1, e2, e3, e4, e5, e6, na, nc, e7, h2, h3, h4, h5⟩
theorem TRep.pieces {w : World} {P : Nat → Prop} {t : T} {c0 c1 c2 : Value} (h : TRep w P t (.agg #[c0, c1, c2])) :
    ∃ (fa : Option Addr) (fc : Nat), c0 = .string t.name ∧ c1 = .string t.key ∧ c2 = .slice fa t.fields.length fc ∧ FsRep w P t.fields fa ∧ t.fields.length ≤ fc ∧ t.name.size ≤ maxLen ∧ t.key.size ≤ maxLen := by
  obtain ⟨fa, fc, hv, h2, h3, h4, h5⟩ := h
  simp only [Value.agg.injEq, Array.mk.injEq, List.cons.injEq, and_true] at hv
  exact ⟨fa, fc, hv.1, hv.2.1, hv.2.2, h2, h3, h4, h5⟩
theorem boxNew {w : World} (cs : Array Value) (T : TypeId) (i : Nat) (hi : i < cs.size) : (w.alloc (.cells cs T)).cell? ⟨w.heap.size, i, none⟩ = some cs[i] := by
  rw [cell_of_row (w.alloc (.cells cs T)) w.heap.size i cs T (0, 0) (heap_alloc_new w _)]
  simp [hi]
theorem Marked.all {lo hi : Nat} {w w' : World} (h : Marked lo hi w w') : Marked 0 w.heap.size w w' :=
  ⟨h.os, h.tape, h.output, h.size, fun b hb hn => absurd ⟨Nat.zero_le b, hb⟩ hn, h.text, h.flag, h.list, h.frozen⟩
end Go.Proofs.Ytdohgkokoicjlaa
namespace Go.Proofs.Ytdohgkokoicjlaa
open Go.RowKit
def ith (ns : List Int) (i : Nat) : Int := ns.getD i 0
def Ints (w : World) (P : Nat → Prop) (ns : List Int) (a : Option Addr) : Prop :=
  8 * ns.length ≤ 281474976710656 ∧ (0 < ns.length → ∃ b off, a = some ⟨b, off, none⟩ ∧ P b ∧ ∀ i, i < ns.length → w.cell? ⟨b, off + i, none⟩ = some (.int .i64 (ith ns i)))
theorem Ints.mono {w w' : World} {P : Nat → Prop} {ns : List Int} {a : Option Addr} (h : Ints w P ns a) (e : ∀ k, P k → w'.heap[k]? = w.heap[k]?) : Ints w' P ns a := by
  refine ⟨h.1, fun hn => ?_⟩
  obtain ⟨b, off, ha, hP, hc⟩ := h.2 hn
  exact ⟨b, off, ha, hP, fun i hi => (World.cell?_of_block (w := w) (a := ⟨b, off + i, none⟩) (e b hP)).trans (hc i hi)⟩
theorem Ints.sub {w : World} {P Q : Nat → Prop} {ns : List Int} {a : Option Addr} (h : Ints w P ns a) (e : ∀ k, P k → Q k) : Ints w Q ns a := by
  refine ⟨h.1, fun hn => ?_⟩
  obtain ⟨b, off, ha, hP, hc⟩ := h.2 hn
  exact ⟨b, off, ha, e _ hP, hc⟩
theorem Ints.under {w w' : World} {B : Nat} {x : List Int} {v : Option Addr} (h : Ints w (· < B) x v) (hb : Below B w w') : Ints w' (· < B) x v := h.mono fun k hk => hb.block k hk
theorem Ints.nil (w : World) (P : Nat → Prop) (a : Option Addr) : Ints w P [] a := ⟨by simp, fun h => by simp at h⟩
def szIs (ns : List Int) : Nat := ns.length
theorem info3 : (Try.prog.info? 3).map (fun i => (i.zero, i.size, i.bytes)) = some (some (.int .i64 0), 1, 8) := by kernel_rfl
def NumAt (w : World) (a : Addr) : Prop := (∃ s, w.cell? a = some (.int .i64 s)) ∧ w.frozen? a = false
structure MarkedN (lo hi : Nat) (w w' : World) : Prop where
  m : Marked lo hi w w'
  num : ∀ a s, w.cell? a = some (.int .i64 s) → ∃ s', w'.cell? a = some (.int .i64 s')
theorem MarkedN.refl (lo hi : Nat) (w : World) : MarkedN lo hi w w := ⟨Marked.refl _ _ _, fun _ s h => ⟨s, h⟩⟩
theorem MarkedN.trans {lo hi : Nat} {a b c : World} (h : MarkedN lo hi a b) (k : MarkedN lo hi b c) : MarkedN lo hi a c :=
  ⟨h.m.trans k.m, fun a s e => by obtain ⟨s', e'⟩ := h.num a s e; exact k.num a s' e'⟩
theorem MarkedN.of_below {w w' : World} (lo hi : Nat) (h : Below w.heap.size w w') : MarkedN lo hi w w' := ⟨Marked.of_below lo hi h, fun a s e => ⟨s, (h.cell (cell_block e)).trans e⟩⟩
theorem NumAt.keep {lo hi : Nat} {w w' : World} {a : Addr} (h : NumAt w a) (m : MarkedN lo hi w w') : NumAt w' a := by
  obtain ⟨⟨s, e⟩, f⟩ := h
  exact ⟨m.num a s e, (m.m.frozen a (cell_block e)).trans f⟩
def WInts (w : World) (lo hi n : Nat) (a : Option Addr) : Prop := 0 < n → ∃ b off, a = some ⟨b, off, none⟩ ∧ lo ≤ b ∧ b < hi ∧ ∀ i, i < n → NumAt w ⟨b, off + i, none⟩
theorem WInts.keep {lo hi lo' hi' n : Nat} {w w' : World} {a : Option Addr} (h : WInts w lo hi n a) (m : MarkedN lo' hi' w w') : WInts w' lo hi n a := fun hn => by
  obtain ⟨b, off, e, h1, h2, hc⟩ := h hn
  exact ⟨b, off, e, h1, h2, fun i hi => (hc i hi).keep m⟩
theorem WInts.block {lo hi n : Nat} {w w' : World} {a : Option Addr} (h : WInts w lo hi n a) (e : ∀ b, lo ≤ b → b < hi → w'.heap[b]? = w.heap[b]?) : WInts w' lo hi n a := fun hn => by
  obtain ⟨b, off, ea, h1, h2, hc⟩ := h hn
  refine ⟨b, off, ea, h1, h2, fun i hi => ?_⟩
  obtain ⟨⟨s, hs⟩, hf⟩ := hc i hi
  exact ⟨⟨s, (World.cell?_of_block (w := w) (a := ⟨b, off + i, none⟩) (e b h1 h2)).trans hs⟩, by rw [← hf]; simp only [World.frozen?, e b h1 h2]⟩
end Go.Proofs.Ytdohgkokoicjlaa
