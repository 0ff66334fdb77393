/-
  Lists of numbers in memory, and the contracts of the laws' functions over them.
-/
import Derived.Test.YtkecmamjebkonaaMCopy
import Derived.Test.YtkecmamjebkonaaMPart3
import Derived.Deep.Slices
namespace Go.Proofs.Ytkecmamjebkonaa
set_option linter.unusedSimpArgs false
set_option linter.unusedVariables false
open Go.RowKit

/-- Number i of a list. -/
def ith (ns : List Int) (i : Nat) : Int := ns.getD i 0

/-- The slice that begins at 'a' holds the numbers 'ns', in blocks of which P holds. -/
def Ints (w : World) (P : Nat → Prop) (ns : List Int) (a : Option Addr) : Prop :=
  8 * ns.length ≤ 281474976710656 ∧ (0 < ns.length → ∃ b off, a = some ⟨b, off, none⟩ ∧ P b ∧ ∀ i, i < ns.length → w.cell? ⟨b, off + i, none⟩ = some (.int .i64 (ith ns i)))
theorem Ints.mono {w w' : World} {P : Nat → Prop} {ns : List Int} {a : Option Addr} (h : Ints w P ns a) (e : ∀ k, P k → w'.heap[k]? = w.heap[k]?) : Ints w' P ns a := by
  refine ⟨h.1, fun hn => ?_⟩
  obtain ⟨b, off, ha, hP, hc⟩ := h.2 hn
  exact ⟨b, off, ha, hP, fun i hi => (World.cell?_of_block (w := w) (a := ⟨b, off + i, none⟩) (e b hP)).trans (hc i hi)⟩
theorem Ints.sub {w : World} {P Q : Nat → Prop} {ns : List Int} {a : Option Addr} (h : Ints w P ns a) (e : ∀ k, P k → Q k) : Ints w Q ns a := by
  refine ⟨h.1, fun hn => ?_⟩
  obtain ⟨b, off, ha, hP, hc⟩ := h.2 hn
  exact ⟨b, off, ha, e _ hP, hc⟩
theorem Ints.under {w w' : World} {B : Nat} {x : List Int} {v : Option Addr} (h : Ints w (· < B) x v) (hb : Below B w w') : Ints w' (· < B) x v := h.mono fun k hk => hb.block k hk
theorem Ints.nil (w : World) (P : Nat → Prop) (a : Option Addr) : Ints w P [] a := ⟨by simp, fun h => by simp at h⟩

/-- What a list of numbers weighs. -/
def szIs (ns : List Int) : Nat := ns.length

theorem szIntS_any (ns : List Int) (w : World) (B : Nat) (a : Option Addr) (c : Nat) (left : Int) (hK : Ints w (· < B) ns a) (hB : B ≤ w.heap.size) (hl0 : 0 ≤ left) (hl1 : left ≤ 1048576) :
    Calls Try.prog 30 #[.slice a ns.length c, .int .i64 left] w fun e w' => ∃ x : Int, e = .returned (.int .i64 x) ∧ -1 ≤ x ∧ x ≤ left ∧ (0 ≤ x → x + szIs ns ≤ left) ∧ Below w.heap.size w w' := by
  have h1 := hK.1
  by_cases hbig : left < ns.length
  · go_enter Try.func30, Try.ntmps30
    go_wp2_with fail
    go_ret
    exact ⟨-1, rfl, by omega, by omega, by omega, Below.refl _ _⟩
  · go_enter Try.func30, Try.ntmps30
    go_wp2_with fail
    go_ret
    exact ⟨left - ns.length, rfl, by omega, by omega, by simp only [szIs]; omega, Below.refl _ _⟩

theorem info3 : (Try.prog.info? 3).map (fun i => (i.zero, i.size, i.bytes)) = some (some (.int .i64 0), 1, 8) := by kernel_rfl

set_option maxHeartbeats 400000 in
theorem toIntS_nf (ns : List Int) (w : World) (B : Nat) (a : Option Addr) (c : Nat) (hK : Ints w (· < B) ns a) (hB : B ≤ w.heap.size) :
    Calls Try.prog 32 #[.slice a ns.length c] w fun e w' => e = .returned (.slice (some ⟨w.heap.size, 0, none⟩) ns.length ns.length) ∧ Below w.heap.size w w' ∧ w.heap.size < w'.heap.size ∧
      Ints w' (fun b => w.heap.size ≤ b ∧ b < w'.heap.size) ns (some ⟨w.heap.size, 0, none⟩) ∧ NF w.heap.size w' := by
  obtain ⟨h3, h1⟩ := hK
  have hmk := run_make_row' (P := Try.prog) 29 3 (.int .i64 0) 8 Try.underlying29 info3 rfl .i64 .i64 ns.length h3 (by omega)
  go_enter Try.func32, Try.ntmps32
  go_wp2_with fail
  go_loopw [4] (fun i wr => ∃ k : Nat, k ≤ ns.length ∧ i = .int .i64 k ∧ Below w.heap.size w wr ∧ wr.heap.size = w.heap.size + 1 ∧ wr.rowIs w.heap.size 3 ns.length (fun j => if j < k then .int .i64 (ith ns j) else .int .i64 0) ∧ NF w.heap.size wr) (fun i _ => ns.length - (intOf i).toNat)
  case atStart =>
    refine ⟨0, Nat.zero_le _, rfl, (Below.refl _ _).alloc (Nat.le_refl _) _, by simp, ?_, (NF.new w).alloc _ _⟩
    exact (World.rowIs_made w _ _ _).congr fun i hi => by simp
  case round =>
    obtain ⟨k, hk, rfl, hbel, hsz, hrow, hnf⟩ := hrel
    have HNF : Hid (NF w.heap.size wr) := hnf
    clear hnf
    by_cases hlt : k < ns.length
    · obtain ⟨b, off, rfl, hbl, hc⟩ := h1 (by omega)
      have hck : wr.cell? ⟨b, off + k, none⟩ = some (.int .i64 (ith ns k)) := (hbel.cell (p := ⟨b, off + k, none⟩) (by show b < _; omega)).trans (hc k hlt)
      have hfz : wr.frozen? ⟨w.heap.size, k, none⟩ = false := hrow.frozen k
      have hcc : ∃ v, wr.cell? ⟨w.heap.size, k, none⟩ = some v := ⟨_, hrow.cell hlt⟩
      obtain ⟨v, hcv⟩ := hcc
      clear hc
      go_wp2_with fail
      go_roundw
      case rel =>
        refine ⟨k + 1, by omega, by go_num, hbel.setCell (Nat.le_refl _) _, by simp [World.setCell, hsz], ?_, HNF.out.set _ _⟩
        refine (hrow.set k _).congr fun i hi => ?_
        by_cases e1 : i = k
        · subst e1; simp
        · by_cases e2 : i < k
          · simp [e1, e2, show i < k + 1 by omega]
          · simp [e1, e2, show ¬ i < k + 1 by omega]
      case measure => simp [intOf]; omega
    · go_wp2_with fail
      go_ret
      have e : k = ns.length := by omega
      subst e
      refine ⟨rfl, hbel, by omega, ⟨h3, fun _ => ⟨_, 0, rfl, ⟨Nat.le_refl _, by omega⟩, fun i hi => ?_⟩⟩, HNF.out⟩
      have := hrow.cell hi
      rw [if_pos hi] at this
      simpa using this

theorem toIntS_any (ns : List Int) (w : World) (B : Nat) (a : Option Addr) (c : Nat) (hK : Ints w (· < B) ns a) (hB : B ≤ w.heap.size) :
    Calls Try.prog 32 #[.slice a ns.length c] w fun e w' => e = .returned (.slice (some ⟨w.heap.size, 0, none⟩) ns.length ns.length) ∧ Below w.heap.size w w' ∧ w.heap.size < w'.heap.size ∧
      Ints w' (fun b => w.heap.size ≤ b ∧ b < w'.heap.size) ns (some ⟨w.heap.size, 0, none⟩) := by
  refine (toIntS_nf ns w B a c hK hB).mono ?_
  rintro e w' ⟨h1, h2, h3, h4, -⟩
  exact ⟨h1, h2, h3, h4⟩

set_option maxHeartbeats 400000 in
theorem eqIntS_any (ns : List Int) (w : World) (B : Nat) (a a' : Option Addr) (c c' : Nat) (hS : Ints w (· < B) ns a) (hS' : Ints w (· < B) ns a') (hB : B ≤ w.heap.size) :
    Calls Try.prog 8 #[.slice a ns.length c, .slice a' ns.length c'] w fun e w' => e = .returned (.bool true) ∧ Below w.heap.size w w' := by
  obtain ⟨h3, h1⟩ := hS
  obtain ⟨-, g1⟩ := hS'
  go_enter Try.func8, Try.ntmps8
  go_wp2_with fail
  go_loopw [5] (fun i wr => ∃ k m : Nat, k ≤ ns.length ∧ i = .int .i64 k ∧ wr = w.drewN m) (fun i _ => ns.length - (intOf i).toNat)
  case atStart => exact ⟨0, 0, Nat.zero_le _, rfl, rfl⟩
  case round =>
    obtain ⟨k, m, hk, rfl, rfl⟩ := hrel
    by_cases hlt : k < ns.length
    · obtain ⟨b, off, rfl, _, hc⟩ := h1 (by omega)
      obtain ⟨b', off', rfl, _, hc'⟩ := g1 (by omega)
      have hck := hc k hlt
      have hck' := hc' k hlt
      clear hc hc' h1 g1
      go_wp2_with fail
      go_quiet (fail)
      go_wp2_with fail
      go_roundw
      case rel => exact ⟨k + 1, _, by omega, by go_num, rfl⟩
      case measure => simp [intOf]; omega
    · go_wp2_with fail
      go_ret
      exact ⟨rfl, below_drews (Below.refl _ _) m⟩

/-- Cells that may be written: numbers. -/
def NumAt (w : World) (a : Addr) : Prop := (∃ s, w.cell? a = some (.int .i64 s)) ∧ w.frozen? a = false
/-- A change as by marks that keeps numbers numbers, too. -/
structure MarkedN (lo hi : Nat) (w w' : World) : Prop where
  m : Marked lo hi w w'
  num : ∀ a s, w.cell? a = some (.int .i64 s) → ∃ s', w'.cell? a = some (.int .i64 s')
theorem MarkedN.refl (lo hi : Nat) (w : World) : MarkedN lo hi w w := ⟨Marked.refl _ _ _, fun _ s h => ⟨s, h⟩⟩
theorem MarkedN.trans {lo hi : Nat} {a b c : World} (h : MarkedN lo hi a b) (k : MarkedN lo hi b c) : MarkedN lo hi a c :=
  ⟨h.m.trans k.m, fun a s e => by obtain ⟨s', e'⟩ := h.num a s e; exact k.num a s' e'⟩
theorem MarkedN.of_below {w w' : World} (lo hi : Nat) (h : Below w.heap.size w w') : MarkedN lo hi w w' := ⟨Marked.of_below lo hi h, fun a s e => ⟨s, (h.cell (cell_block e)).trans e⟩⟩
theorem MarkedN.set_text {w : World} {lo hi : Nat} {p : Addr} {s : ByteArray} (h : w.cell? p = some (.string s)) (h1 : lo ≤ p.block) (h2 : p.block < hi) (t : ByteArray) : MarkedN lo hi w (w.setCell p (.string t)) := by
  refine ⟨Marked.set_text h h1 h2 t, fun a u e => ?_⟩
  have hp : p ≠ a := by intro hp; rw [hp, e] at h; cases h
  exact ⟨u, (World.cell?_setCell_other _ _ _ _ hp).trans e⟩
theorem MarkedN.set_num {w : World} {lo hi : Nat} {p : Addr} {s : Int} (h : w.cell? p = some (.int .i64 s)) (h1 : lo ≤ p.block) (h2 : p.block < hi) (t : Int) : MarkedN lo hi w (w.setCell p (.int .i64 t)) := by
  refine ⟨⟨rfl, rfl, rfl, by rw [size_set]; exact Nat.le_refl _, fun b hb hn => Below.heap_setCell _ _ _ _ (by intro e; exact hn (by rw [e]; exact ⟨h1, h2⟩)), fun a u e => ?_, fun a u e => ?_, fun a x n c e => ?_, fun a ha => by simp⟩, fun a u e => ?_⟩
  · have hp : p ≠ a := by intro hp; rw [hp, e] at h; cases h
    exact ⟨u, (World.cell?_setCell_other _ _ _ _ hp).trans e⟩
  · have hp : p ≠ a := by intro hp; rw [hp, e] at h; cases h
    exact ⟨u, (World.cell?_setCell_other _ _ _ _ hp).trans e⟩
  · have hp : p ≠ a := by intro hp; rw [hp, e] at h; cases h
    exact (World.cell?_setCell_other _ _ _ _ hp).trans e
  · by_cases hp : p = a
    · subst hp; exact ⟨t, World.cell?_setCell_same _ _ _ h⟩
    · exact ⟨u, (World.cell?_setCell_other _ _ _ _ hp).trans e⟩
theorem NumAt.keep {lo hi : Nat} {w w' : World} {a : Addr} (h : NumAt w a) (m : MarkedN lo hi w w') : NumAt w' a := by
  obtain ⟨⟨s, e⟩, f⟩ := h
  exact ⟨m.num a s e, (m.m.frozen a (cell_block e)).trans f⟩
/-- A list of numbers that may be written, within a range of blocks. -/
def WInts (w : World) (lo hi n : Nat) (a : Option Addr) : Prop := 0 < n → ∃ b off, a = some ⟨b, off, none⟩ ∧ lo ≤ b ∧ b < hi ∧ ∀ i, i < n → NumAt w ⟨b, off + i, none⟩
theorem WInts.keep {lo hi lo' hi' n : Nat} {w w' : World} {a : Option Addr} (h : WInts w lo hi n a) (m : MarkedN lo' hi' w w') : WInts w' lo hi n a := fun hn => by
  obtain ⟨b, off, e, h1, h2, hc⟩ := h hn
  exact ⟨b, off, e, h1, h2, fun i hi => (hc i hi).keep m⟩
theorem WInts.of_rep {w : World} {lo hi : Nat} {ns : List Int} {a : Option Addr} (h : Ints w (fun b => lo ≤ b ∧ b < hi) ns a) (nf : NF lo w) : WInts w lo hi ns.length a := fun hn => by
  obtain ⟨b, off, e, hb, hc⟩ := h.2 hn
  exact ⟨b, off, e, hb.1, hb.2, fun i hi => ⟨⟨_, hc i hi⟩, nf _ hb.1⟩⟩
theorem WInts.block {lo hi n : Nat} {w w' : World} {a : Option Addr} (h : WInts w lo hi n a) (e : ∀ b, lo ≤ b → b < hi → w'.heap[b]? = w.heap[b]?) : WInts w' lo hi n a := fun hn => by
  obtain ⟨b, off, ea, h1, h2, hc⟩ := h hn
  refine ⟨b, off, ea, h1, h2, fun i hi => ?_⟩
  obtain ⟨⟨s, hs⟩, hf⟩ := hc i hi
  exact ⟨⟨s, (World.cell?_of_block (w := w) (a := ⟨b, off + i, none⟩) (e b h1 h2)).trans hs⟩, by rw [← hf]; simp only [World.frozen?, e b h1 h2]⟩

set_option maxHeartbeats 800000 in
theorem markIntS_any (n c k lo hi : Nat) (a : Option Addr) (w : World) (hw : WInts w lo hi n a) (hn : n ≤ 1048576) (hk : k ≤ 1000000000000) :
    Calls Try.prog 11 #[.slice a n c, .int .i64 k] w fun e w' => e = .returned (.int .i64 ((k + n : Nat) : Int)) ∧ MarkedN lo hi w w' ∧ (∀ b off, a = some ⟨b, off, none⟩ → ∀ i, i < n → w'.cell? ⟨b, off + i, none⟩ = some (.int .i64 ((k + i : Nat) : Int))) := by
  go_enter Try.func11, Try.ntmps11
  go_wp2_with fail
  go_loopw [1, 5] (fun kk i wr => ∃ j : Nat, j ≤ n ∧ kk = .int .i64 ((k + j : Nat) : Int) ∧ i = .int .i64 j ∧ MarkedN lo hi w wr ∧ (∀ b off, a = some ⟨b, off, none⟩ → ∀ i, i < j → wr.cell? ⟨b, off + i, none⟩ = some (.int .i64 ((k + i : Nat) : Int)))) (fun _ i _ => n - (intOf i).toNat)
  case atStart => exact ⟨0, Nat.zero_le _, rfl, rfl, MarkedN.refl _ _ _, fun _ _ _ i hi => by omega⟩
  case round =>
    obtain ⟨j, hj, rfl, rfl, hm, hc⟩ := hrel
    obtain ⟨w0, rfl⟩ : ∃ x, x = wr := ⟨wr, rfl⟩
    by_cases hlt : j < n
    · obtain ⟨b, off, rfl, h1, h2, hcc⟩ := hw (by omega)
      have HC : Hid (∀ i, i < j → w0.cell? ⟨b, off + i, none⟩ = some (.int .i64 ((k + i : Nat) : Int))) := fun i hi => hc b off rfl i hi
      obtain ⟨⟨s, ht⟩, hf⟩ := (hcc j hlt).keep hm
      clear hc hcc
      have hji : (j : Int) < (n : Int) := by omega
      obtain ⟨K, hKe⟩ : ∃ K : Int, K = ((k + j : Nat) : Int) := ⟨_, rfl⟩
      have HKE : Hid (K = ((k + j : Nat) : Int)) := hKe
      have hK1 : 0 ≤ K ∧ K ≤ 2000000000000 := by omega
      rw [← hKe]
      clear hKe
      go_wp2_with fail
      go_roundw
      case rel =>
        refine ⟨j + 1, by omega, by rw [HKE.out]; rfl, by go_num, hm.trans (MarkedN.set_num ht h1 h2 _), fun b' off' he i hi => ?_⟩
        simp only [Option.some.injEq, Addr.mk.injEq, and_true] at he
        obtain ⟨rfl, rfl⟩ := he
        by_cases hij : i = j
        · subst hij; rw [World.cell?_setCell_same _ _ _ ht, HKE.out]
        · rw [World.cell?_setCell_other _ _ _ _ (by intro e; simp only [Addr.mk.injEq] at e; omega)]
          exact HC.out i (by omega)
      case measure => simp [intOf]; omega
    · go_wp2_with fail
      go_ret
      have e : j = n := by omega
      exact ⟨by rw [e]; rfl, hm, by rw [← e]; exact hc⟩

/-- A number at each place of a list, as marked. -/
def HeldN (w : World) (n k : Nat) (a : Option Addr) : Prop := 0 < n → ∃ b off, a = some ⟨b, off, none⟩ ∧ ∀ i, i < n → w.cell? ⟨b, off + i, none⟩ = some (.int .i64 ((k + i : Nat) : Int))
theorem HeldN.keep {w w' : World} {n k : Nat} {a : Option Addr} (h : HeldN w n k a) (hb : Below w.heap.size w w') : HeldN w' n k a := fun h0 => by
  obtain ⟨b, off, e, hc⟩ := h h0
  exact ⟨b, off, e, fun i hi => (hb.cell (cell_block (hc i hi))).trans (hc i hi)⟩

set_option maxHeartbeats 800000 in
theorem heldIntS_any (n c k : Nat) (a : Option Addr) (w : World) (ha : HeldN w n k a) (hn : n ≤ 1048576) (hk : k ≤ 1000000000000) :
    Calls Try.prog 12 #[.slice a n c, .int .i64 k] w fun e w' => e = .returned (.int .i64 ((k + n : Nat) : Int)) ∧ Below w.heap.size w w' := by
  go_enter Try.func12, Try.ntmps12
  go_wp2_with fail
  go_loopw [1, 5] (fun kk i wr => ∃ j : Nat, j ≤ n ∧ kk = .int .i64 ((k + j : Nat) : Int) ∧ i = .int .i64 j ∧ wr = w) (fun _ i _ => n - (intOf i).toNat)
  case atStart => exact ⟨0, Nat.zero_le _, rfl, rfl, rfl⟩
  case round =>
    obtain ⟨j, hj, rfl, rfl, rfl⟩ := hrel
    by_cases hlt : j < n
    · obtain ⟨b, off, rfl, hcc⟩ := ha (by omega)
      have hx := hcc j hlt
      have hji : (j : Int) < (n : Int) := by omega
      clear hcc
      obtain ⟨K, hKe⟩ : ∃ K : Int, K = ((k + j : Nat) : Int) := ⟨_, rfl⟩
      have HKE : Hid (K = ((k + j : Nat) : Int)) := hKe
      have hK1 : 0 ≤ K ∧ K ≤ 2000000000000 := by omega
      rw [← hKe] at hx ⊢
      clear hKe
      go_wp2_with fail
      go_roundw
      case rel => exact ⟨j + 1, by omega, by rw [HKE.out]; rfl, by go_num, trivial⟩
      case measure => simp [intOf]; omega
    · go_wp2_with fail
      go_ret
      have e : j = n := by omega
      exact ⟨by rw [e]; rfl, Below.refl _ _⟩
end Go.Proofs.Ytkecmamjebkonaa
