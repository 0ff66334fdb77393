/-
  Charts in memory, and the laws' functions over them.
-/
import Derived.Test.YtkecmamjebkonaaORep
namespace Go.Proofs.Ytkecmamjebkonaa
set_option linter.unusedSimpArgs false
set_option linter.unusedVariables false
open Go.RowKit

/-- A chart as it is meant. -/
structure Ch where
  all : Pt
  owners : List O
def CRep (w : World) (P : Nat → Prop) (c : Ch) (v : Value) : Prop := ∃ (ta oa : Option Addr) (tc oc : Nat),
  v = .agg #[.string c.all.name, .slice ta c.all.types.length tc, .slice oa c.owners.length oc] ∧ PRep w P c.all (.agg #[.string c.all.name, .slice ta c.all.types.length tc]) ∧ OsRep w P c.owners oa ∧ c.owners.length ≤ oc
theorem CRep.mono {w w' : World} {P : Nat → Prop} {c : Ch} {v : Value} (h : CRep w P c v) (e : ∀ k, P k → w'.heap[k]? = w.heap[k]?) : CRep w' P c v := by
  obtain ⟨ta, oa, tc, oc, h1, h2, h3, h4⟩ := h; exact ⟨ta, oa, tc, oc, h1, h2.mono e, h3.mono e, h4⟩
theorem CRep.sub {w : World} {P Q : Nat → Prop} {c : Ch} {v : Value} (h : CRep w P c v) (e : ∀ k, P k → Q k) : CRep w Q c v := by
  obtain ⟨ta, oa, tc, oc, h1, h2, h3, h4⟩ := h; exact ⟨ta, oa, tc, oc, h1, h2.sub e, h3.sub e, h4⟩
theorem CRep.under {w w' : World} {B : Nat} {x : Ch} {v : Value} (h : CRep w (· < B) x v) (hb : Below B w w') : CRep w' (· < B) x v := h.mono fun k hk => hb.block k hk
def szC (c : Ch) : Nat := szP c.all + szOs c.owners

set_option maxHeartbeats 400000 in
theorem szChart_any (c : Ch) (w : World) (B : Nat) (v : Value) (left : Int) (hR : CRep w (· < B) c v) (hB : B ≤ w.heap.size) (hl0 : 0 ≤ left) (hl1 : left ≤ 1048576) :
    Calls Try.prog 4 #[v, .int .i64 left] w fun e w' => ∃ x : Int, e = .returned (.int .i64 x) ∧ -1 ≤ x ∧ x ≤ left ∧ (0 ≤ x → x + szC c ≤ left) ∧ Below w.heap.size w w' := by
  obtain ⟨ta, oa, tc, oc, rfl, hP, hO, hoc⟩ := hR
  obtain ⟨⟨name, types⟩, owners⟩ := c
  simp only at hP hO hoc ⊢
  have hbx : ∀ o, Below w.heap.size w (w.alloc o) := below_box w
  go_enter Try.func4, Try.ntmps4
  go_wp2_with fail
  refine (szPart_any _ _ B _ _ (hP.under ((below_box w _).mono hB)) (by simp; omega) (by omega) (by omega)).mono ?_
  rintro e w1 ⟨y, rfl, hy0, hy1, hy2, hb1⟩
  have b1 : Below w.heap.size w w1 := (below_box w _).trans (hb1.mono (by simp))
  have z1 := hb1.size
  simp at z1
  have B1 : w1.heap[w.heap.size]? = some (.cells #[.string name, .slice ta types.length tc, .slice oa owners.length oc] 27 (0, 0)) := (hb1.block _ (by simp)).trans (heap_alloc_new _ _)
  have p2 := (boxAt B1 2 (by simp)).1
  simp only [List.getElem_toArray, List.getElem_cons_succ, List.getElem_cons_zero] at p2
  clear hb1 B1
  by_cases hy : y < 0
  · go_wp2_with fail
    go_ret
    exact ⟨-1, rfl, by omega, by omega, by omega, b1⟩
  go_wp2_with fail
  refine (szOwnerS_any _ _ B _ _ _ (hO.under (b1.mono hB)) (by omega) (by omega) (by omega)).mono ?_
  rintro e w2 ⟨x, rfl, hx0, hx1, hx2, hb2⟩
  have b2 := b1.trans (hb2.mono (by omega))
  by_cases hx : x < 0
  · go_wp2_with fail
    go_ret
    exact ⟨-1, rfl, by omega, by omega, by omega, b2⟩
  go_wp2_with fail
  go_ret
  exact ⟨x, rfl, by omega, by omega, fun h => by have := hx2 h; have := hy2 (by omega); simp only [szC]; omega, b2⟩

set_option maxHeartbeats 800000 in
theorem toChart_nf (c : Ch) (w : World) (B : Nat) (v : Value) (hR : CRep w (· < B) c v) (hB : B ≤ w.heap.size) :
    Calls Try.prog 6 #[v] w fun e w' => ∃ (ta oa : Option Addr) (tc oc : Nat) (m : Nat), e = .returned (.agg #[.string c.all.name, .slice ta c.all.types.length tc, .slice oa c.owners.length oc]) ∧ Below w.heap.size w w' ∧ w.heap.size ≤ m ∧ m ≤ w'.heap.size ∧
      PRep w' (fun b => w.heap.size ≤ b ∧ b < m) c.all (.agg #[.string c.all.name, .slice ta c.all.types.length tc]) ∧ OsRep w' (fun b => m ≤ b ∧ b < w'.heap.size) c.owners oa ∧ c.owners.length ≤ oc ∧ NF w.heap.size w' := by
  obtain ⟨ta, oa, tc, oc, rfl, hP, hO, hoc⟩ := hR
  obtain ⟨⟨name, types⟩, owners⟩ := c
  simp only at hP hO hoc ⊢
  have hb3 : ∀ o1 o2 o3, Below w.heap.size w (((w.alloc o1).alloc o2).alloc o3) := fun o1 o2 o3 => (((Below.refl _ _).alloc (Nat.le_refl _) _).alloc (by simp) _).alloc (by simp; omega) _
  go_enter Try.func6, Try.ntmps6
  go_wp2_with fail
  refine (toPart_nf ⟨name, types⟩ _ B _ (hP.under ((hb3 _ _ _).mono hB)) (by simp; omega)).mono ?_
  rintro e w1 ⟨ta1, tc1, rfl, hb1, hr1, hnf1⟩
  have HN1 : Hid (NF w.heap.size w1) := NF.call (NF.three w _ _ _ _ _ _) hb1 hnf1
  clear hnf1
  obtain ⟨c1, f1⟩ := bcell hb1
  have z1 := hb1.size
  simp at z1
  have b1 : Below w.heap.size w w1 := (hb3 _ _ _).trans (hb1.mono (by simp; omega))
  have KA : w1.heap[w.heap.size]? = some (.cells #[.string name, .slice ta types.length tc, .slice oa owners.length oc] 27 (0, 0)) := (hb1.block _ (by simp; omega)).trans (((below_box2 (w.alloc (.cells #[.string name, .slice ta types.length tc, .slice oa owners.length oc] 27)) _ _).block _ (by simp)).trans (heap_alloc_new _ _))
  have p2 := (boxAt KA 2 (by simp)).1
  simp only [List.getElem_toArray, List.getElem_cons_succ, List.getElem_cons_zero] at p2
  have K2 : w1.heap[w.heap.size + 1 + 1]? = some (.cells #[.string ByteArray.empty, .slice none 0 0, .slice none 0 0] 36 (0, 0)) := (hb1.block _ (by simp)).trans (by
    have := heap_alloc_new ((w.alloc (.cells #[.string name, .slice ta types.length tc, .slice oa owners.length oc] 27)).alloc (.cells #[.string ByteArray.empty, .slice none 0 0, .slice none 0 0] 36)) (.cells #[.string ByteArray.empty, .slice none 0 0, .slice none 0 0] 36)
    rw [show ((w.alloc (.cells #[.string name, .slice ta types.length tc, .slice oa owners.length oc] 27)).alloc (.cells #[.string ByteArray.empty, .slice none 0 0, .slice none 0 0] 36)).heap.size = w.heap.size + 1 + 1 by simp] at this
    exact this)
  have K1 : w1.heap[w.heap.size + 1]? = some (.cells #[.string ByteArray.empty, .slice none 0 0, .slice none 0 0] 36 (0, 0)) := (hb1.block _ (by simp)).trans (by
    have := heap_alloc_new (w.alloc (.cells #[.string name, .slice ta types.length tc, .slice oa owners.length oc] 27)) (.cells #[.string ByteArray.empty, .slice none 0 0, .slice none 0 0] 36)
    refine ((below_box _ _).block _ (by simp)).trans ?_
    rw [show (w.alloc (.cells #[.string name, .slice ta types.length tc, .slice oa owners.length oc] 27)).heap.size = w.heap.size + 1 by simp] at this
    exact this)
  have r1 : w1.rowIs (w.heap.size + 1) 36 3 (fun i => #[.string ByteArray.empty, .slice none 0 0, .slice none 0 0][i]?.getD undef) := ⟨_, K1, rfl, fun i hi => by simp [hi]⟩
  have r2 : w1.rowIs (w.heap.size + 1 + 1) 36 3 (fun i => #[.string ByteArray.empty, .slice none 0 0, .slice none 0 0][i]?.getD undef) := ⟨_, K2, rfl, fun i hi => by simp [hi]⟩
  go_wp2_with fail
  -- the world with All stored
  obtain ⟨w2, hw2⟩ : ∃ x, x = ((w1.setCell ⟨w.heap.size + 1 + 1, 0, none⟩ (.string name)).setCell ⟨w.heap.size + 1 + 1, 1, none⟩ (.slice ta1 types.length tc1)) := ⟨_, rfl⟩
  have z2 : w2.heap.size = w1.heap.size := by rw [hw2, size_set, size_set]
  have b2 : Below w.heap.size w w2 := by rw [hw2]; exact (b1.setCell (by show w.heap.size ≤ w.heap.size + 1 + 1; omega) _).setCell (by show w.heap.size ≤ w.heap.size + 1 + 1; omega) _
  have e2 : ∀ k, k ≠ w.heap.size + 1 + 1 → w2.heap[k]? = w1.heap[k]? := fun k hk => by rw [hw2, Below.heap_setCell _ _ _ _ hk, Below.heap_setCell _ _ _ _ hk]
  have R1 := hr1.mono fun k hk => e2 k (by have := hk.1; simp at this; omega)
  have HN2 : Hid (NF w.heap.size w2) := by rw [hw2]; exact (HN1.out.set _ _).set _ _
  have r22 := (r2.set 0 (.string name)).set 1 (.slice ta1 types.length tc1)
  rw [← hw2] at r22 ⊢
  have r12 := r1.of_block (e2 _ (by omega))
  clear hw2 r1 r2 K1 K2 p2 KA c1 f1 hr1 HN1
  refine (toOwnerS_nf owners w2 B oa oc (hO.under (b2.mono hB)) (by omega)).mono ?_
  rintro e w3 ⟨rfl, hb3', hz3, hr3, hnf3⟩
  have HN3 : Hid (NF w.heap.size w3) := NF.call HN2.out hb3' hnf3
  clear hnf3 HN2
  have r23 := r22.of_block (hb3'.block _ (by omega))
  have r13 := r12.of_block (hb3'.block _ (by omega))
  have q0 := r23.cell (i := 0) (by omega)
  have q1 := r23.cell (i := 1) (by omega)
  have q2 := r23.cell (i := 2) (by omega)
  have s0 := r13.cell (i := 0) (by omega)
  have s1 := r13.cell (i := 1) (by omega)
  have s2 := r13.cell (i := 2) (by omega)
  have qf := fun i => r23.frozen i
  have sf := fun i => r13.frozen i
  simp at q0 q1 q2 s0 s1 s2
  go_wp2_with fail
  have zf : (puts (w3.setCell ⟨w.heap.size + 1 + 1, 2, none⟩ (.slice (some ⟨w1.heap.size, 0, none⟩) owners.length owners.length)) (w.heap.size + 1) 0 [.string name, .slice ta1 types.length tc1, .slice (some ⟨w1.heap.size, 0, none⟩) owners.length owners.length]).heap.size = w3.heap.size := by rw [puts_size, size_set]
  have ef : ∀ k, k ≠ w.heap.size + 1 + 1 → k ≠ w.heap.size + 1 → (puts (w3.setCell ⟨w.heap.size + 1 + 1, 2, none⟩ (.slice (some ⟨w1.heap.size, 0, none⟩) owners.length owners.length)) (w.heap.size + 1) 0 [.string name, .slice ta1 types.length tc1, .slice (some ⟨w1.heap.size, 0, none⟩) owners.length owners.length]).heap[k]? = w3.heap[k]? := fun k h1 h2 => by rw [puts_block _ _ h2, Below.heap_setCell _ _ _ _ h1]
  have bf : Below w.heap.size w (puts (w3.setCell ⟨w.heap.size + 1 + 1, 2, none⟩ (.slice (some ⟨w1.heap.size, 0, none⟩) owners.length owners.length)) (w.heap.size + 1) 0 [.string name, .slice ta1 types.length tc1, .slice (some ⟨w1.heap.size, 0, none⟩) owners.length owners.length]) := puts_below (by omega) _ _ _ ((b2.trans (hb3'.mono (by omega))).setCell (by show w.heap.size ≤ w.heap.size + 1 + 1; omega) _)
  have nf : NF w.heap.size (puts (w3.setCell ⟨w.heap.size + 1 + 1, 2, none⟩ (.slice (some ⟨w1.heap.size, 0, none⟩) owners.length owners.length)) (w.heap.size + 1) 0 [.string name, .slice ta1 types.length tc1, .slice (some ⟨w1.heap.size, 0, none⟩) owners.length owners.length]) := (HN3.out.set _ _).puts _ _ _
  rw [z2] at hr3
  have hm : ∀ k, (((w.alloc (.cells #[.string name, .slice ta types.length tc, .slice oa owners.length oc] 27)).alloc (.cells #[.string ByteArray.empty, .slice none 0 0, .slice none 0 0] 36)).alloc (.cells #[.string ByteArray.empty, .slice none 0 0, .slice none 0 0] 36)).heap.size ≤ k → w.heap.size + 1 + 1 < k := fun k hk => by simp at hk; omega
  have fP : PRep (puts (w3.setCell ⟨w.heap.size + 1 + 1, 2, none⟩ (.slice (some ⟨w1.heap.size, 0, none⟩) owners.length owners.length)) (w.heap.size + 1) 0 [.string name, .slice ta1 types.length tc1, .slice (some ⟨w1.heap.size, 0, none⟩) owners.length owners.length]) (fun b => w.heap.size ≤ b ∧ b < w1.heap.size) ⟨name, types⟩ (.agg #[.string name, .slice ta1 types.length tc1]) := (R1.mono fun k hk => by
    have := hm k hk.1
    exact (ef k (by omega) (by omega)).trans (hb3'.block k (by omega))).sub fun k hk => by have := hm k hk.1; omega
  have fO : OsRep (puts (w3.setCell ⟨w.heap.size + 1 + 1, 2, none⟩ (.slice (some ⟨w1.heap.size, 0, none⟩) owners.length owners.length)) (w.heap.size + 1) 0 [.string name, .slice ta1 types.length tc1, .slice (some ⟨w1.heap.size, 0, none⟩) owners.length owners.length]) (fun b => w1.heap.size ≤ b ∧ b < (puts (w3.setCell ⟨w.heap.size + 1 + 1, 2, none⟩ (.slice (some ⟨w1.heap.size, 0, none⟩) owners.length owners.length)) (w.heap.size + 1) 0 [.string name, .slice ta1 types.length tc1, .slice (some ⟨w1.heap.size, 0, none⟩) owners.length owners.length]).heap.size) owners (some ⟨w1.heap.size, 0, none⟩) := (hr3.mono fun k hk => ef k (by omega) (by omega)).sub fun k hk => by rw [zf]; exact hk
  have fz : w1.heap.size ≤ (puts (w3.setCell ⟨w.heap.size + 1 + 1, 2, none⟩ (.slice (some ⟨w1.heap.size, 0, none⟩) owners.length owners.length)) (w.heap.size + 1) 0 [.string name, .slice ta1 types.length tc1, .slice (some ⟨w1.heap.size, 0, none⟩) owners.length owners.length]).heap.size := by rw [zf]; omega
  refine bodyPost_ret (v := .agg #[.string name, .slice ta1 types.length tc1, .slice (some ⟨w1.heap.size, 0, none⟩) owners.length owners.length]) ?res rfl ⟨ta1, some ⟨w1.heap.size, 0, none⟩, tc1, owners.length, w1.heap.size, rfl, bf, by omega, fz, fP, fO, Nat.le_refl _, nf⟩
  case res =>
    have t1 := (((r13.setOther (a := ⟨w.heap.size + 1 + 1, 2, none⟩) (v := .slice (some ⟨w1.heap.size, 0, none⟩) owners.length owners.length) (by simp)).set 0 (.string name)).set 1 (.slice ta1 types.length tc1)).set 2 (.slice (some ⟨w1.heap.size, 0, none⟩) owners.length owners.length)
    have p0 := t1.cell (i := 0) (by omega)
    have p1 := t1.cell (i := 1) (by omega)
    have p2 := t1.cell (i := 2) (by omega)
    simp only [if_pos, if_neg, show ¬ (0 : Nat) = 2 by omega, show ¬ (0 : Nat) = 1 by omega, show ¬ (1 : Nat) = 2 by omega, if_false, if_true] at p0 p1 p2
    clear bf nf fP fO fz ef zf hm t1 q0 q1 q2 s0 s1 s2 qf sf r13 r23 r22 r12 hr3 R1
    simp [results, Try.results6, go_sem, p0, p1, p2]

theorem toChart_any (c : Ch) (w : World) (B : Nat) (v : Value) (hR : CRep w (· < B) c v) (hB : B ≤ w.heap.size) :
    Calls Try.prog 6 #[v] w fun e w' => ∃ (ta oa : Option Addr) (tc oc : Nat), e = .returned (.agg #[.string c.all.name, .slice ta c.all.types.length tc, .slice oa c.owners.length oc]) ∧ Below w.heap.size w w' ∧
      CRep w' (fun b => w.heap.size ≤ b ∧ b < w'.heap.size) c (.agg #[.string c.all.name, .slice ta c.all.types.length tc, .slice oa c.owners.length oc]) := by
  refine (toChart_nf c w B v hR hB).mono ?_
  rintro e w' ⟨ta, oa, tc, oc, m, h1, h2, h3, h4, h5, h6, h7, -⟩
  exact ⟨ta, oa, tc, oc, h1, h2, ta, oa, tc, oc, rfl, h5.sub fun k hk => by omega, h6.sub fun k hk => by omega, h7⟩

set_option maxHeartbeats 800000 in
theorem eqChart_any (c : Ch) (w : World) (B : Nat) (v v' : Value) (hR : CRep w (· < B) c v) (hR' : CRep w (· < B) c v') (hB : B ≤ w.heap.size) :
    Calls Try.prog 9 #[v, v'] w fun e w' => e = .returned (.bool true) ∧ Below w.heap.size w w' := by
  obtain ⟨ta, oa, tc, oc, rfl, hP, hO, hoc⟩ := hR
  obtain ⟨ta', oa', tc', oc', rfl, hP', hO', hoc'⟩ := hR'
  obtain ⟨⟨name, types⟩, owners⟩ := c
  simp only at hP hO hoc hP' hO' hoc' ⊢
  go_enter Try.func9, Try.ntmps9
  go_wp2_with fail
  have e0 : (((w.alloc (.cells #[.string name, .slice ta types.length tc, .slice oa owners.length oc] 36)).alloc (.cells #[.string name, .slice ta' types.length tc', .slice oa' owners.length oc'] 36))).heap[w.heap.size]? = some (.cells #[.string name, .slice ta types.length tc, .slice oa owners.length oc] 36 (0, 0)) := ((below_box _ _).block _ (by simp)).trans (heap_alloc_new _ _)
  have e1 : (((w.alloc (.cells #[.string name, .slice ta types.length tc, .slice oa owners.length oc] 36)).alloc (.cells #[.string name, .slice ta' types.length tc', .slice oa' owners.length oc'] 36))).heap[w.heap.size + 1]? = some (.cells #[.string name, .slice ta' types.length tc', .slice oa' owners.length oc'] 36 (0, 0)) := by
    have := heap_alloc_new (w.alloc (.cells #[.string name, .slice ta types.length tc, .slice oa owners.length oc] 36)) (.cells #[.string name, .slice ta' types.length tc', .slice oa' owners.length oc'] 36)
    rw [show (w.alloc (.cells #[.string name, .slice ta types.length tc, .slice oa owners.length oc] 36)).heap.size = w.heap.size + 1 by simp] at this
    exact this
  refine (eqPart_any ⟨name, types⟩ _ B _ _ (hP.under ((below_box2 w _ _).mono hB)) (hP'.under ((below_box2 w _ _).mono hB)) (by simp; omega)).mono ?_
  rintro e w1 ⟨rfl, hb1⟩
  have b1 : Below w.heap.size w w1 := (below_box2 w _ _).trans (hb1.mono (by simp; omega))
  have p2 := (boxAt ((hb1.block _ (by simp; omega)).trans e0) 2 (by simp)).1
  have q2 := (boxAt ((hb1.block _ (by simp)).trans e1) 2 (by simp)).1
  simp only [List.getElem_toArray, List.getElem_cons_succ, List.getElem_cons_zero] at p2 q2
  have z1 := hb1.size
  simp at z1
  clear e0 e1 hb1
  go_wp2_with fail
  refine (eqOwnerS_any owners w1 B oa oa' oc oc' (hO.under (b1.mono hB)) (hO'.under (b1.mono hB)) (by omega)).mono ?_
  rintro e w2 ⟨rfl, hb2⟩
  go_wp2_with fail
  go_ret
  exact ⟨rfl, b1.trans (hb2.mono (by omega))⟩

/-- Owners that may be written, within a range of blocks. -/
def WOs (w : World) (lo hi : Nat) (os : List O) (a : Option Addr) : Prop := 0 < os.length → ∃ b off, a = some ⟨b, off, none⟩ ∧ lo ≤ b ∧ b < hi ∧ ∀ i, i < os.length →
  TextAt w ⟨b, off + i * 3, none⟩ ∧ TextAt w ⟨b, off + i * 3 + 1, none⟩ ∧ ∃ fa fc, w.cell? ⟨b, off + i * 3 + 2, none⟩ = some (.slice fa (oth os i).parts.length fc) ∧ WInts w lo hi (oth os i).parts.length fa
theorem WOs.keep {lo hi lo' hi' : Nat} {os : List O} {w w' : World} {a : Option Addr} (h : WOs w lo hi os a) (m : MarkedN lo' hi' w w') : WOs w' lo hi os a := fun hn => by
  obtain ⟨b, off, e, h1, h2, hc⟩ := h hn
  refine ⟨b, off, e, h1, h2, fun i hi => ?_⟩
  obtain ⟨x0, x1, na, nc, x7, x8⟩ := hc i hi
  exact ⟨x0.keep m.m, x1.keep m.m, na, nc, m.m.list _ _ _ _ x7, x8.keep m⟩
theorem TextAt.block {w w' : World} {a : Addr} (h : TextAt w a) (e : w'.heap[a.block]? = w.heap[a.block]?) : TextAt w' a := by
  obtain ⟨⟨s, hs⟩, hf⟩ := h
  exact ⟨⟨s, (World.cell?_of_block e).trans hs⟩, by rw [← hf]; simp only [World.frozen?, e]⟩
theorem WOs.block {lo hi : Nat} {os : List O} {w w' : World} {a : Option Addr} (h : WOs w lo hi os a) (e : ∀ b, lo ≤ b → b < hi → w'.heap[b]? = w.heap[b]?) : WOs w' lo hi os a := fun hn => by
  obtain ⟨b, off, ea, h1, h2, hc⟩ := h hn
  refine ⟨b, off, ea, h1, h2, fun i hi => ?_⟩
  obtain ⟨x0, x1, na, nc, x7, x8⟩ := hc i hi
  exact ⟨x0.block (e b h1 h2), x1.block (e b h1 h2), na, nc, (World.cell?_of_block (w := w) (a := ⟨b, off + i * 3 + 2, none⟩) (e b h1 h2)).trans x7, x8.block e⟩
theorem WOs.of_rep {w : World} {lo hi : Nat} {os : List O} {a : Option Addr} (h : OsRep w (fun b => lo ≤ b ∧ b < hi) os a) (nf : NF lo w) : WOs w lo hi os a := fun hn => by
  obtain ⟨-, C, hA, hr⟩ := h
  obtain ⟨b, off, e, hb, hc⟩ := hA hn
  refine ⟨b, off, e, hb.1, hb.2, fun i hi => ?_⟩
  obtain ⟨fa, fc, e0, e1, e2, hF, -⟩ := (hr i hi).pieces
  have c : ∀ j, j < 3 → w.cell? ⟨b, off + i * 3 + j, none⟩ = some (C i j) := fun j hj => hc i hi j hj
  have c0 : w.cell? ⟨b, off + i * 3, none⟩ = some (C i 0) := c 0 (by omega)
  exact ⟨⟨⟨_, c0.trans (congrArg some e0)⟩, nf _ hb.1⟩, ⟨⟨_, (c 1 (by omega)).trans (congrArg some e1)⟩, nf _ hb.1⟩, fa, fc, (c 2 (by omega)).trans (congrArg some e2), WInts.of_rep hF nf⟩

/-- How many marks owners take. -/
def mOs (os : List O) : Nat → Nat
  | 0 => 0
  | n + 1 => mOs os n + 2 + (oth os n).parts.length
theorem mOs_sz (os : List O) : ∀ n, mOs os n ≤ 2 * n + szOsTo os n
  | 0 => by simp [mOs]
  | n + 1 => by
    have := mOs_sz os n
    rw [mOs, szOsTo_succ]
    have : szO (oth os n) = (oth os n).type.size + (oth os n).field.size + szIs (oth os n).parts := rfl
    simp only [szIs] at this
    omega
theorem szOsTo_le (os : List O) : ∀ n i, i < n → (oth os i).parts.length ≤ szOsTo os n
  | 0, i, h => by omega
  | n + 1, i, h => by
    rw [szOsTo_succ]
    have h2 : szO (oth os n) = (oth os n).type.size + (oth os n).field.size + szIs (oth os n).parts := rfl
    simp only [szIs] at h2
    by_cases e : i = n
    · subst e; omega
    · have := szOsTo_le os n i (by omega); omega
theorem szOsTo_mono (os : List O) : ∀ i n, i ≤ n → szOsTo os i ≤ szOsTo os n := fun i n h => by
  induction h with
  | refl => exact Nat.le_refl _
  | step h ih => rw [szOsTo_succ]; omega
theorem parts_small (os : List O) (h : szOs os ≤ 1048576) (i : Nat) : (oth os i).parts.length ≤ 1048576 := by
  have h3 : szOs os = os.length + szOsTo os os.length := rfl
  by_cases hi : i < os.length
  · have := szOsTo_le os os.length i hi; omega
  · have : oth os i = O.zero := by simp [oth, List.getD_eq_getElem?_getD, List.getElem?_eq_none (Nat.le_of_not_lt hi)]
    rw [this]; simp [O.zero]

theorem markIntS_int (n c : Nat) (t : Int) (lo hi : Nat) (a : Option Addr) (w : World) (hw : WInts w lo hi n a) (hn : n ≤ 1048576) (h0 : 0 ≤ t) (h1 : t ≤ 1000000000000) :
    Calls Try.prog 11 #[.slice a n c, .int .i64 t] w fun e w' => e = .returned (.int .i64 (t + n)) ∧ MarkedN lo hi w w' := by
  have h := markIntS_any n c t.toNat lo hi a w hw hn (by omega)
  rw [show ((t.toNat : Nat) : Int) = t by omega, show (((t.toNat + n : Nat)) : Int) = t + n by omega] at h
  exact h.mono fun e w' ⟨x, y, _⟩ => ⟨x, y⟩

set_option maxRecDepth 20000 in
set_option maxHeartbeats 3200000 in
theorem markOwnerS_any (ts : List O) (c k lo hi : Nat) (a : Option Addr) (w : World) (hw : WOs w lo hi ts a) (hl : ts.length ≤ 1048576) (hf : ∀ i, (oth ts i).parts.length ≤ 1048576) (hk : ∀ i, i ≤ ts.length → k + mOs ts i ≤ 1000000000000) :
    Calls Try.prog 20 #[.slice a ts.length c, .int .i64 k] w fun e w' => e = .returned (.int .i64 ((k + mOs ts ts.length : Nat) : Int)) ∧ MarkedN lo hi w w' := by
  go_enter Try.func20, Try.ntmps20
  go_wp2_with fail
  go_loopw [1, 5] (fun kk i wr => ∃ j : Nat, j ≤ ts.length ∧ kk = .int .i64 ((k + mOs ts j : Nat) : Int) ∧ i = .int .i64 j ∧ MarkedN lo hi w wr) (fun _ i _ => ts.length - (intOf i).toNat)
  case atStart => exact ⟨0, Nat.zero_le _, rfl, rfl, MarkedN.refl _ _ _⟩
  case round =>
    obtain ⟨j, hj, rfl, rfl, hm⟩ := hrel
    obtain ⟨w0, rfl⟩ : ∃ x, x = wr := ⟨wr, rfl⟩
    by_cases hlt : j < ts.length
    · obtain ⟨b, off, rfl, h1, h2, hcc⟩ := (hw.keep hm) (by omega)
      obtain ⟨x0, x1, fa, fc, x2, x3⟩ := hcc j hlt
      clear hcc
      have hji : (j : Int) < (ts.length : Int) := by omega
      have hkj := hk (j + 1) (by omega)
      have HK : Hid (mOs ts (j + 1) = mOs ts j + 2 + (oth ts j).parts.length) := rfl
      rw [HK.out] at hkj
      generalize mOs ts j = mj at hkj HK
      obtain ⟨K, hKe⟩ : ∃ K : Int, K = ((k + mj : Nat) : Int) := ⟨_, rfl⟩
      have hK0 : 0 ≤ K := by omega
      have hK1 : K + 2 + (oth ts j).parts.length ≤ 1000000000000 := by omega
      have HKE : Hid (K = ((k + mj : Nat) : Int)) := hKe
      rw [← hKe]
      clear hKe
      have hB1 : Hid (lo ≤ b ∧ b < hi) := ⟨h1, h2⟩
      have HX : Hid (TextAt w0 ⟨b, off + j * 3, none⟩ ∧ TextAt w0 ⟨b, off + j * 3 + 1, none⟩ ∧ w0.cell? ⟨b, off + j * 3 + 2, none⟩ = some (.slice fa (oth ts j).parts.length fc) ∧ WInts w0 lo hi (oth ts j).parts.length fa) := ⟨x0, x1, x2, x3⟩
      clear x0 x1 x2 x3 h1 h2
      go_wp2_with fail
      refine (markText_int K w0 hK0 (by omega)).mono ?_
      rintro e w1 ⟨rfl, hb1⟩
      have m1 := MarkedN.of_below lo hi hb1
      obtain ⟨⟨s0, t0⟩, f0⟩ := HX.out.1.keep m1.m
      have m1' := m1.trans (MarkedN.set_text t0 hB1.out.1 hB1.out.2 (mtext K.toNat))
      generalize mtext K.toNat = mt0 at m1' ⊢
      go_wp2_with fail
      obtain ⟨W1, hW1⟩ : ∃ W, W = w1.setCell ⟨b, off + j * 3, none⟩ (.string mt0) := ⟨_, rfl⟩
      rw [← hW1] at m1' ⊢
      clear hW1 t0 f0 m1 hb1
      refine (markText_int (K + 1) W1 (by omega) (by omega)).mono ?_
      rintro e w2 ⟨rfl, hb2⟩
      have m2 := m1'.trans (MarkedN.of_below lo hi hb2)
      obtain ⟨⟨s1, t1⟩, f1⟩ := HX.out.2.1.keep m2.m
      generalize mtext (K + 1).toNat = mt1
      have m3 := m2.trans (MarkedN.set_text t1 hB1.out.1 hB1.out.2 mt1)
      have q2 := m3.m.list _ _ _ _ HX.out.2.2.1
      have H8 : Hid (WInts _ lo hi (oth ts j).parts.length fa) := HX.out.2.2.2.keep m3
      clear m1' hb2 m2
      go_wp2_with fail
      refine (markIntS_int (oth ts j).parts.length fc (K + 1 + 1) lo hi fa _ H8.out (hf j) (by omega) (by omega)).mono ?_
      rintro e w5 ⟨rfl, m5⟩
      have hfin : Hid (K + 1 + 1 + ((oth ts j).parts.length : Nat) = ((k + mOs ts (j + 1) : Nat) : Int)) := by show _ = _; rw [HK.out, HKE.out]; omega
      have m6 := hm.trans (m3.trans m5)
      clear q2 t1 f1 m3 m5
      go_wp2_with fail
      go_roundw
      case rel => exact ⟨j + 1, by omega, by rw [← hfin.out], by go_num, m6⟩
      case measure => simp [intOf]; omega
    · go_wp2_with fail
      go_ret
      have e : j = ts.length := by omega
      exact ⟨by rw [e]; rfl, hm⟩

theorem Marked.wider {lo hi lo' hi' : Nat} {w w' : World} (h : Marked lo hi w w') (h1 : lo' ≤ lo) (h2 : hi ≤ hi') : Marked lo' hi' w w' :=
  ⟨h.os, h.tape, h.output, h.size, fun b hb hn => h.block b hb (by omega), h.text, h.flag, h.list, h.frozen⟩
/-- A mark of a whole chart: nothing outside of its own memory turns. -/
theorem markChart_any (c : Ch) (tc oc lo mid hi : Nat) (nm : Value) (ta oa : Option Addr) (w : World) (hT : WTs w lo mid c.all.types ta) (hO : WOs w mid hi c.owners oa) (hmid : lo ≤ mid ∧ mid ≤ hi ∧ hi ≤ w.heap.size) (hz : szC c ≤ 1048576) :
    Calls Try.prog 10 #[.agg #[nm, .slice ta c.all.types.length tc, .slice oa c.owners.length oc], .int .i64 1] w fun e w' => ∃ x : Nat, e = .returned (.int .i64 (x : Int)) ∧ Marked lo hi w w' := by
  obtain ⟨⟨name, types⟩, owners⟩ := c
  simp only at hT hO ⊢
  have hz' : szP ⟨name, types⟩ + szOs owners ≤ 1048576 := hz
  have hos : szOs owners = owners.length + szOsTo owners owners.length := rfl
  have hmp := mP_small ⟨name, types⟩ (by omega)
  have b0 := below_box w (.cells #[nm, .slice ta types.length tc, .slice oa owners.length oc] 36)
  have hM := markPart_from ⟨name, types⟩ nm tc 1 lo mid ta (w.alloc (.cells #[nm, .slice ta types.length tc, .slice oa owners.length oc] 36)) (hT.keep (Marked.of_below lo mid b0)) (by omega) (by omega)
  go_enter Try.func10, Try.ntmps10
  go_wp2_with fail
  refine hM.mono ?_
  generalize mP ⟨name, types⟩ = mp at hmp
  rintro e w1 ⟨rfl, hm1⟩
  have z1 := hm1.size
  simp at z1
  have p2 := (boxAt ((hm1.block w.heap.size (by simp) (by omega)).trans (heap_alloc_new w (.cells #[nm, .slice ta types.length tc, .slice oa owners.length oc] 36))) 2 (by simp)).1
  simp only [List.getElem_toArray, List.getElem_cons_succ, List.getElem_cons_zero] at p2
  have hO1 : WOs w1 mid hi owners oa := hO.block fun b h1 h2 => (hm1.block b (by simp; omega) (by omega)).trans (b0.block b (by omega))
  go_wp2_with fail
  refine (markOwnerS_any owners oc (1 + mp) mid hi oa w1 hO1 (by omega) (parts_small owners (by omega)) (fun i hi => by have h1 := mOs_sz owners i; have h2 := szOsTo_mono owners i _ hi; omega)).mono ?_
  rintro e w2 ⟨rfl, hm2⟩
  go_wp2_with fail
  go_ret
  exact ⟨_, rfl, ((Marked.of_below lo hi b0).trans (hm1.wider (Nat.le_refl _) hmid.2.1)).trans (hm2.m.wider hmid.1 (Nat.le_refl _))⟩
end Go.Proofs.Ytkecmamjebkonaa
