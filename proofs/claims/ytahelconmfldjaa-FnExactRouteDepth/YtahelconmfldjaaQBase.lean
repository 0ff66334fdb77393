/-
  Lists of things and of numbers in memory, and the laws' functions over lists of texts and numbers; what they make may be written.
-/
import Derived.Test.YtahelconmfldjaaNf
import Derived.Deep.Slices
import Derived.BigRegion
import Derived.Deep.RegionWith
import Derived.Deep.RegionHeld3
namespace Go.Proofs.Ytahelconmfldjaa
set_option linter.unusedSimpArgs false
set_option linter.unusedVariables false
open Go.RowKit

/-- Cells of elements of 'sz' cells each. -/
def Arr (w : World) (P : Nat → Prop) (sz len : Nat) (a : Option Addr) (C : Nat → Nat → Value) : Prop :=
  0 < len → ∃ b off, a = some ⟨b, off, none⟩ ∧ P b ∧ ∀ i, i < len → ∀ j, j < sz → w.cell? ⟨b, off + i * sz + j, none⟩ = some (C i j)
theorem Arr.mono {w w' : World} {P : Nat → Prop} {sz len : Nat} {a : Option Addr} {C : Nat → Nat → Value} (h : Arr w P sz len a C) (e : ∀ k, P k → w'.heap[k]? = w.heap[k]?) : Arr w' P sz len a C := fun hl => by
  obtain ⟨b, off, ha, hb, hc⟩ := h hl
  exact ⟨b, off, ha, hb, fun i hi j hj => (World.cell?_of_block (w := w) (a := ⟨b, off + i * sz + j, none⟩) (e b hb)).trans (hc i hi j hj)⟩
theorem Arr.sub {w : World} {P Q : Nat → Prop} {sz len : Nat} {a : Option Addr} {C : Nat → Nat → Value} (h : Arr w P sz len a C) (e : ∀ k, P k → Q k) : Arr w Q sz len a C := fun hl => by
  obtain ⟨b, off, ha, hb, hc⟩ := h hl
  exact ⟨b, off, ha, e _ hb, hc⟩


/-- Number i of a list. -/
def ith (ns : List Int) (i : Nat) : Int := ns.getD i 0
/-- The slice that begins at 'a' holds the numbers 'ns', in blocks of which P holds. -/
def Ints (w : World) (P : Nat → Prop) (ns : List Int) (a : Option Addr) : Prop :=
  8 * ns.length ≤ 281474976710656 ∧ (0 < ns.length → ∃ b off, a = some ⟨b, off, none⟩ ∧ P b ∧ ∀ i, i < ns.length → w.cell? ⟨b, off + i, none⟩ = some (.int .i64 (ith ns i)))
theorem Ints.mono {w w' : World} {P : Nat → Prop} {ns : List Int} {a : Option Addr} (h : Ints w P ns a) (e : ∀ k, P k → w'.heap[k]? = w.heap[k]?) : Ints w' P ns a := by
  refine ⟨h.1, fun hn => ?_⟩
  obtain ⟨b, off, ha, hP, hc⟩ := h.2 hn
  exact ⟨b, off, ha, hP, fun i hi => (World.cell?_of_block (w := w) (a := ⟨b, off + i, none⟩) (e b hP)).trans (hc i hi)⟩
theorem Ints.sub {w : World} {P Q : Nat → Prop} {ns : List Int} {a : Option Addr} (h : Ints w P ns a) (e : ∀ k, P k → Q k) : Ints w Q ns a := by
  refine ⟨h.1, fun hn => ?_⟩
  obtain ⟨b, off, ha, hP, hc⟩ := h.2 hn
  exact ⟨b, off, ha, e _ hP, hc⟩
theorem Ints.under {w w' : World} {B : Nat} {x : List Int} {v : Option Addr} (h : Ints w (· < B) x v) (hb : Below B w w') : Ints w' (· < B) x v := h.mono fun k hk => hb.block k hk
theorem Ints.nil (w : World) (P : Nat → Prop) (a : Option Addr) : Ints w P [] a := ⟨by simp, fun h => by simp at h⟩
/-- What a list of numbers weighs. -/
def szIs (ns : List Int) : Nat := ns.length
theorem szIntS_any (ns : List Int) (w : World) (B : Nat) (a : Option Addr) (c : Nat) (left : Int) (hK : Ints w (· < B) ns a) (hB : B ≤ w.heap.size) (hl0 : 0 ≤ left) (hl1 : left ≤ 1048576) :
    Calls Try.prog 37 #[.slice a ns.length c, .int .i64 left] w fun e w' => ∃ x : Int, e = .returned (.int .i64 x) ∧ -1 ≤ x ∧ x ≤ left ∧ (0 ≤ x → x + szIs ns ≤ left) ∧ Below w.heap.size w w' := by
  have h1 := hK.1
  by_cases hbig : left < ns.length
  · go_enter Try.func37, Try.ntmps37
    go_wp2_with fail
    go_ret
    exact ⟨-1, rfl, by omega, by omega, by omega, Below.refl _ _⟩
  · go_enter Try.func37, Try.ntmps37
    go_wp2_with fail
    go_ret
    exact ⟨left - ns.length, rfl, by omega, by omega, by simp only [szIs]; omega, Below.refl _ _⟩
theorem info3 : (Try.prog.info? 3).map (fun i => (i.zero, i.size, i.bytes)) = some (some (.int .i64 0), 1, 8) := by kernel_rfl
set_option maxHeartbeats 400000 in
theorem toIntS_nf (ns : List Int) (w : World) (B : Nat) (a : Option Addr) (c : Nat) (hK : Ints w (· < B) ns a) (hB : B ≤ w.heap.size) :
    Calls Try.prog 18 #[.slice a ns.length c] w fun e w' => e = .returned (.slice (some ⟨w.heap.size, 0, none⟩) ns.length ns.length) ∧ Below w.heap.size w w' ∧ w.heap.size < w'.heap.size ∧
      Ints w' (fun b => w.heap.size ≤ b ∧ b < w'.heap.size) ns (some ⟨w.heap.size, 0, none⟩) ∧ NF w.heap.size w' := by
  obtain ⟨h3, h1⟩ := hK
  have hmk := run_make_row' (P := Try.prog) 29 3 (.int .i64 0) 8 Try.underlying29 info3 rfl .i64 .i64 ns.length h3 (by omega)
  go_enter Try.func18, Try.ntmps18
  go_wp2_with fail
  go_loopw [4] (fun i wr => ∃ k : Nat, k ≤ ns.length ∧ i = .int .i64 k ∧ Below w.heap.size w wr ∧ wr.heap.size = w.heap.size + 1 ∧ wr.rowIs w.heap.size 3 ns.length (fun j => if j < k then .int .i64 (ith ns j) else .int .i64 0) ∧ NF w.heap.size wr) (fun i _ => ns.length - (intOf i).toNat)
  case atStart =>
    refine ⟨0, Nat.zero_le _, rfl, (Below.refl _ _).alloc (Nat.le_refl _) _, by simp, ?_, (NF.new w).alloc _ _⟩
    exact (World.rowIs_made w _ _ _).congr fun i hi => by simp
  case round =>
    obtain ⟨k, hk, rfl, hbel, hsz, hrow, hnf⟩ := hrel
    have HNF : Hid (NF w.heap.size wr) := hnf
    clear hnf
    by_cases hlt : k < ns.length
    · obtain ⟨b, off, rfl, hbl, hc⟩ := h1 (by omega)
      have hck : wr.cell? ⟨b, off + k, none⟩ = some (.int .i64 (ith ns k)) := (hbel.cell (p := ⟨b, off + k, none⟩) (by show b < _; omega)).trans (hc k hlt)
      have hfz : wr.frozen? ⟨w.heap.size, k, none⟩ = false := hrow.frozen k
      have hcc : ∃ v, wr.cell? ⟨w.heap.size, k, none⟩ = some v := ⟨_, hrow.cell hlt⟩
      obtain ⟨v, hcv⟩ := hcc
      clear hc
      go_wp2_with fail
      go_roundw
      case rel =>
        refine ⟨k + 1, by omega, by go_num, hbel.setCell (Nat.le_refl _) _, by simp [World.setCell, hsz], ?_, HNF.out.set _ _⟩
        refine (hrow.set k _).congr fun i hi => ?_
        by_cases e1 : i = k
        · subst e1; simp
        · by_cases e2 : i < k
          · simp [e1, e2, show i < k + 1 by omega]
          · simp [e1, e2, show ¬ i < k + 1 by omega]
      case measure => simp [intOf]; omega
    · go_wp2_with fail
      go_ret
      have e : k = ns.length := by omega
      subst e
      refine ⟨rfl, hbel, by omega, ⟨h3, fun _ => ⟨_, 0, rfl, ⟨Nat.le_refl _, by omega⟩, fun i hi => ?_⟩⟩, HNF.out⟩
      have := hrow.cell hi
      rw [if_pos hi] at this
      simpa using this
set_option maxHeartbeats 400000 in
theorem eqIntS_any (ns : List Int) (w : World) (B : Nat) (a a' : Option Addr) (c c' : Nat) (hS : Ints w (· < B) ns a) (hS' : Ints w (· < B) ns a') (hB : B ≤ w.heap.size) :
    Calls Try.prog 13 #[.slice a ns.length c, .slice a' ns.length c'] w fun e w' => e = .returned (.bool true) ∧ Below w.heap.size w w' := by
  obtain ⟨h3, h1⟩ := hS
  obtain ⟨-, g1⟩ := hS'
  go_enter Try.func13, Try.ntmps13
  go_wp2_with fail
  go_loopw [5] (fun i wr => ∃ k m : Nat, k ≤ ns.length ∧ i = .int .i64 k ∧ wr = w.drewN m) (fun i _ => ns.length - (intOf i).toNat)
  case atStart => exact ⟨0, 0, Nat.zero_le _, rfl, rfl⟩
  case round =>
    obtain ⟨k, m, hk, rfl, rfl⟩ := hrel
    by_cases hlt : k < ns.length
    · obtain ⟨b, off, rfl, _, hc⟩ := h1 (by omega)
      obtain ⟨b', off', rfl, _, hc'⟩ := g1 (by omega)
      have hck := hc k hlt
      have hck' := hc' k hlt
      clear hc hc' h1 g1
      go_wp2_with fail
      go_quiet (fail)
      go_wp2_with fail
      go_roundw
      case rel => exact ⟨k + 1, _, by omega, by go_num, rfl⟩
      case measure => simp [intOf]; omega
    · go_wp2_with fail
      go_ret
      exact ⟨rfl, below_drews (Below.refl _ _) m⟩
end Go.Proofs.Ytahelconmfldjaa
