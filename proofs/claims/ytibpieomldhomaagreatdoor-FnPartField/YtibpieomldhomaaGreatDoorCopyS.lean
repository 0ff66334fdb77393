/-
  toStringS: a copy of a list of texts in new memory.
-/
import Derived.Test.YtibpieomldhomaaGreatDoorStrs
namespace Go.Proofs.YtibpieomldhomaaGreatDoor
set_option linter.unusedSimpArgs false
set_option linter.unusedVariables false
open Go.RowKit

theorem below_box (w : World) (o : Obj) : Below w.heap.size w (w.alloc o) := (Below.refl _ _).alloc (Nat.le_refl _) _
theorem below_box2 (w : World) (o p : Obj) : Below w.heap.size w ((w.alloc o).alloc p) := (below_box w o).alloc (by simp) _
theorem below_drews {B : Nat} {a w : World} (h : Below B a w) (n : Nat) : Below B a (w.drewN n) := ⟨h.os, h.tape, h.output, h.size, h.block⟩
theorem below_undrew {w w' : World} (h : Below w.drew.heap.size w.drew w') : Below w.heap.size w w' := ⟨h.os, h.tape, h.output, h.size, h.block⟩
theorem bcell {W w1 : World} (hb : Below W.heap.size W w1) : (∀ b o, b < W.heap.size → w1.cell? ⟨b, o, none⟩ = W.cell? ⟨b, o, none⟩) ∧ (∀ b o, b < W.heap.size → w1.frozen? ⟨b, o, none⟩ = W.frozen? ⟨b, o, none⟩) :=
  ⟨fun b o h => hb.cell (p := ⟨b, o, none⟩) h, fun b o h => hb.frozen (p := ⟨b, o, none⟩) h⟩
theorem Strs.under {w w' : World} {B : Nat} {x : List ByteArray} {v : Option Addr} (h : Strs w (· < B) x v) (hb : Below B w w') : Strs w' (· < B) x v := h.mono fun k hk => hb.block k hk
theorem size_set (w : World) (a : Addr) (v : Value) : (w.setCell a v).heap.size = w.heap.size := by simp [World.setCell]
theorem run_make_any {P : Program} (t e : TypeId) (z : Value) (zc : Array Value) (hzc : z.cells = zc) (size bytes : Nat) (ht : P.underlying t = some (.slice e)) (hinfo : (P.info? e).map (fun i => (i.zero, i.size, i.bytes)) = some (some z, size, bytes))
    (kl kc : IntKind) (n : Nat) (hbytes : bytes * n ≤ 281474976710656) (h63 : n ≤ 9223372036854775807) (w : World) :
    (Instr.makeSlice t (.int kl (n : Int)) (.int kc (n : Int))).run P w = .ok (.slice (some ⟨w.heap.size, 0, none⟩) n n) (w.alloc (.cells (madeCells zc (n * size)) e)) := by
  obtain ⟨i, hi, hzz⟩ := Option.map_eq_some_iff.1 hinfo
  simp only [Prod.mk.injEq] at hzz
  obtain ⟨hz, hs, hb⟩ := hzz
  have hb' : (i.bytes : Int) * (n : Int) ≤ 281474976710656 := by
    have h : ((i.bytes * n : Nat) : Int) ≤ 281474976710656 := by rw [hb]; omega
    rwa [Int.natCast_mul] at h
  have hr := run_make (P := P) w t e i z ht hi hz kl kc n n (by omega) (Int.le_refl _) hb' (by omega)
  simp only [Int.toNat_natCast, hs, hzc] at hr
  exact hr

/-- Cells stored one behind the other. -/
def puts (w : World) (N : Nat) : Nat → List Value → World
  | _, [] => w
  | k, c :: cs => puts (w.setCell ⟨N, k, none⟩ c) N (k + 1) cs
theorem puts_block (N b : Nat) (h : b ≠ N) : ∀ (cs : List Value) (w : World) (k : Nat), (puts w N k cs).heap[b]? = w.heap[b]?
  | [], _, _ => rfl
  | c :: cs, w, k => (puts_block N b h cs _ (k + 1)).trans (Below.heap_setCell _ _ _ _ h)
theorem puts_size (N : Nat) : ∀ (cs : List Value) (w : World) (k : Nat), (puts w N k cs).heap.size = w.heap.size
  | [], _, _ => rfl
  | c :: cs, w, k => (puts_size N cs _ (k + 1)).trans (size_set _ _ _)
theorem puts_below {a : World} {B N : Nat} (hN : B ≤ N) : ∀ (cs : List Value) (w : World) (k : Nat), Below B a w → Below B a (puts w N k cs)
  | [], _, _, h => h
  | c :: cs, w, k, h => puts_below hN cs _ (k + 1) (h.setCell hN _)
theorem puts_row {N L : Nat} {e : TypeId} : ∀ (cs : List Value) {w : World} {G : Nat → Value} (k : Nat), w.rowIs N e L G → ∃ G' : Nat → Value, (puts w N k cs).rowIs N e L G' ∧ (∀ j, j < cs.length → G' (k + j) = cs.getD j undef) ∧ ∀ i, i < k → G' i = G i
  | [], _, G, k, h => ⟨G, h, fun j hj => by simp at hj, fun i _ => rfl⟩
  | c :: cs, w, G, k, h => by
    obtain ⟨G', h1, h2, h3⟩ := puts_row cs (k + 1) (h.set k c)
    refine ⟨G', h1, fun j hj => ?_, fun i hi => ?_⟩
    · cases j with
      | zero => rw [Nat.add_zero, h3 k (by omega)]; simp
      | succ j => rw [show k + (j + 1) = k + 1 + j by omega, h2 j (by simpa using hj)]; simp
    · rw [h3 i (by omega)]; simp [show i ≠ k by omega]
theorem made_row (w : World) (z : Array Value) (n : Nat) (e : TypeId) : ∃ G : Nat → Value, (w.alloc (.cells (madeCells z n) e)).rowIs w.heap.size e n G := by
  refine ⟨fun i => (madeCells z n)[i]?.getD undef, ?_⟩
  have h := World.rowIs_alloc w (madeCells z n) e (fun i => (madeCells z n)[i]?.getD undef) (fun i hi => by simp [hi])
  rw [size_madeCells] at h
  exact h

theorem info9 : (Tryz.prog.info? 9).map (fun i => (i.zero, i.size, i.bytes)) = some (some (.string ByteArray.empty), 1, 16) := by kernel_rfl

end Go.Proofs.YtibpieomldhomaaGreatDoor
