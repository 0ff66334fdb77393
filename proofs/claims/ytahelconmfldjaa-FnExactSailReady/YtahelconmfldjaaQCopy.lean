/-
  toStep and toStepS: copies of steps in new memory that may be written.
-/
import Derived.Test.YtahelconmfldjaaQStep
namespace Go.Proofs.Ytahelconmfldjaa
set_option linter.unusedSimpArgs false
set_option linter.unusedVariables false
open Go.RowKit

theorem info_Step : (Try.prog.info? 44).map (fun i => (i.zero, i.size, i.bytes)) = some (some (.agg #[.int .i64 0, .slice none 0 0, .string ByteArray.empty, .slice none 0 0, .slice none 0 0, .slice none 0 0]), 6, 120) := by kernel_rfl

theorem Six.block {w w' : World} {N : Nat} {c0 c1 c2 c3 c4 c5 : Value} (h : Six w N c0 c1 c2 c3 c4 c5) (hb : w'.heap[N]? = w.heap[N]?) : Six w' N c0 c1 c2 c3 c4 c5 :=
  ⟨(World.cell?_of_block (w := w) (a := ⟨N, 0, none⟩) hb).trans h.1, (World.cell?_of_block (w := w) (a := ⟨N, 1, none⟩) hb).trans h.2.1, (World.cell?_of_block (w := w) (a := ⟨N, 2, none⟩) hb).trans h.2.2.1, (World.cell?_of_block (w := w) (a := ⟨N, 3, none⟩) hb).trans h.2.2.2.1, (World.cell?_of_block (w := w) (a := ⟨N, 4, none⟩) hb).trans h.2.2.2.2.1, (World.cell?_of_block (w := w) (a := ⟨N, 5, none⟩) hb).trans h.2.2.2.2.2⟩

set_option maxHeartbeats 1600000 in
theorem toStep_nf (s : St) (w : World) (B : Nat) (v : Value) (hR : StRep w (· < B) s v) (hB : B ≤ w.heap.size) :
    Calls Try.prog 22 #[v] w fun e w' => ∃ (wa sa aa ba : Option Addr) (wc sc ac bc : Nat), e = .returned (.agg #[.int .i64 s.part, .slice wa s.way.length wc, .string s.type, .slice sa s.sels.length sc, .slice aa s.after.length ac, .slice ba s.brings.length bc]) ∧ Below w.heap.size w w' ∧
      StRep w' (fun b => w.heap.size ≤ b ∧ b < w'.heap.size) s (.agg #[.int .i64 s.part, .slice wa s.way.length wc, .string s.type, .slice sa s.sels.length sc, .slice aa s.after.length ac, .slice ba s.brings.length bc]) ∧ NF w.heap.size w' := by
  obtain ⟨wa, sa, aa, ba, wc, sc, ac, bc, rfl, hway, hwb, hty, hsel, haf, hac, hbr, hbb⟩ := hR
  obtain ⟨part, way, type, sels, after, brings⟩ := s
  simp only at hway hwb hty hsel haf hac hbr hbb
  have hb3 : ∀ o1 o2 o3, Below w.heap.size w (((w.alloc o1).alloc o2).alloc o3) := fun o1 o2 o3 => (((Below.refl _ _).alloc (Nat.le_refl _) _).alloc (by simp) _).alloc (by simp; omega) _
  have hr1 : ∀ o1 o3 c, ((((w.alloc o1).alloc (.cells c 44)).alloc o3)).rowIs (w.heap.size + 1) 44 c.size (fun i => c[i]?.getD undef) := fun o1 o3 c => by
    have h := ((w.alloc o1).rowIs_alloc c 44 (fun i => c[i]?.getD undef) (fun i hi => by simp [hi])).alloc o3
    simpa using h
  have hr2 : ∀ o1 o2 c, ((((w.alloc o1).alloc o2).alloc (.cells c 44))).rowIs (w.heap.size + 1 + 1) 44 c.size (fun i => c[i]?.getD undef) := fun o1 o2 c => by
    have h := ((w.alloc o1).alloc o2).rowIs_alloc c 44 (fun i => c[i]?.getD undef) (fun i hi => by simp [hi])
    simpa using h
  go_enter Try.func22, Try.ntmps22
  go_wp2_with fail
  refine (toStringS_nf way wa wc _ ((hway.under ((hb3 _ _ _).mono hB)).sub fun k hk => by simp; omega) hwb).mono ?_
  rintro e w1 ⟨rfl, hb1, hz1, hs1, hn1⟩
  have n1 : Hid (NF w.heap.size w1) := NF.call (NF.three w _ _ _ _ _ _) hb1 hn1
  have b1 : Below w.heap.size w w1 := (hb3 _ _ _).trans (hb1.mono (by simp; omega))
  have F1 := (((Six.new w _ _ _ _ _ _ _).keep (below_box _ _) (by simp)).keep (below_box _ _) (by simp; omega)).keep hb1 (by simp; omega)
  have R1 := (hr1 _ _ _).of_block (hb1.block (w.heap.size + 1) (by simp))
  have Q1 := (hr2 _ _ _).of_block (hb1.block (w.heap.size + 1 + 1) (by simp))
  simp at hz1 hs1
  have z1 : w.heap.size + 1 + 1 < w1.heap.size := by omega
  have e1 : Hid (w1.heap.size = w.heap.size + 1 + 1 + 1 + 1) := hz1
  clear hb1 hn1 hz1
  obtain ⟨p0, p1, p2, p3, p4, p5⟩ := id F1
  have qf := fun i => Q1.frozen i
  have q1 := Q1.cell (i := 1) (by simp)
  have q2 := Q1.cell (i := 2) (by simp)
  simp at q1 q2
  go_wp2_with fail
  clear p0 p1 p2 p3 p4 p5 q1 q2 qf
  have m2 : NF w.heap.size ((w1.setCell ⟨w.heap.size + 1 + 1, 1, none⟩ (.slice (some ⟨w.heap.size + 1 + 1 + 1, 0, none⟩) way.length way.length)).setCell ⟨w.heap.size + 1 + 1, 2, none⟩ (.string type)) := (n1.out.set _ _).set _ _
  have c2 : Below w.heap.size w ((w1.setCell ⟨w.heap.size + 1 + 1, 1, none⟩ (.slice (some ⟨w.heap.size + 1 + 1 + 1, 0, none⟩) way.length way.length)).setCell ⟨w.heap.size + 1 + 1, 2, none⟩ (.string type)) := (b1.setCell (by show w.heap.size ≤ w.heap.size + 1 + 1; omega) _).setCell (by show w.heap.size ≤ w.heap.size + 1 + 1; omega) _
  have zc2 : ((w1.setCell ⟨w.heap.size + 1 + 1, 1, none⟩ (.slice (some ⟨w.heap.size + 1 + 1 + 1, 0, none⟩) way.length way.length)).setCell ⟨w.heap.size + 1 + 1, 2, none⟩ (.string type)).heap.size = w1.heap.size := by rw [size_set, size_set]
  have oth2 : ∀ k, k ≠ w.heap.size + 1 + 1 → ((w1.setCell ⟨w.heap.size + 1 + 1, 1, none⟩ (.slice (some ⟨w.heap.size + 1 + 1 + 1, 0, none⟩) way.length way.length)).setCell ⟨w.heap.size + 1 + 1, 2, none⟩ (.string type)).heap[k]? = w1.heap[k]? := fun k hk => by rw [Below.heap_setCell _ _ _ _ hk, Below.heap_setCell _ _ _ _ hk]
  refine (toSelS_nf sels (fun i _ => toSel_any _) _ B sa sc (hsel.under (c2.mono hB)) (by rw [zc2]; omega)).mono ?_
  rintro e w2 ⟨rfl, hb2, hz2, hs2, hn2⟩
  have n2 : Hid (NF w.heap.size w2) := NF.call m2 hb2 hn2
  have b2 : Below w.heap.size w w2 := c2.trans (hb2.mono (by rw [zc2]; omega))
  have Q2 := ((Q1.set 1 (.slice (some ⟨w.heap.size + 1 + 1 + 1, 0, none⟩) way.length way.length)).set 2 (.string type)).of_block (hb2.block (w.heap.size + 1 + 1) (by rw [zc2]; omega))
  have keep2 : ∀ k, k < w1.heap.size → k ≠ w.heap.size + 1 + 1 → w2.heap[k]? = w1.heap[k]? := fun k hk h => (hb2.block k (by rw [zc2]; exact hk)).trans (oth2 k h)
  rw [zc2] at hz2 hs2
  have R2 := R1.of_block (keep2 _ (by omega) (by omega))
  have F2 := F1.block (keep2 w.heap.size (by omega) (by omega))
  have t2 : Strs w2 (· = w.heap.size + 1 + 1 + 1) way (some ⟨w.heap.size + 1 + 1 + 1, 0, none⟩) := hs1.mono fun k hk => keep2 k (by have := e1.out; omega) (by omega)
  clear hb2 hn2 m2 c2 zc2 oth2 F1 R1 Q1 hs1
  obtain ⟨p0, p1, p2, p3, p4, p5⟩ := id F2
  have qf := fun i => Q2.frozen i
  have q3 := Q2.cell (i := 3) (by simp)
  simp at q3
  go_wp2_with fail
  clear p0 p1 p2 p3 p4 p5 q3 qf
  obtain ⟨X3, hX3⟩ : ∃ X3, X3 = w2.setCell ⟨w.heap.size + 1 + 1, 3, none⟩ (.slice (some ⟨w1.heap.size, 0, none⟩) sels.length sels.length) := ⟨_, rfl⟩
  have m3 : NF w.heap.size X3 := by rw [hX3]; exact n2.out.set _ _
  have c3 : Below w.heap.size w X3 := by rw [hX3]; exact b2.setCell (by show w.heap.size ≤ w.heap.size + 1 + 1; omega) _
  have zc3 : X3.heap.size = w2.heap.size := by rw [hX3, size_set]
  have oth3 : ∀ k, k ≠ w.heap.size + 1 + 1 → X3.heap[k]? = w2.heap[k]? := fun k hk => by rw [hX3, Below.heap_setCell _ _ _ _ hk]
  have Q3 := Q2.set 3 (.slice (some ⟨w1.heap.size, 0, none⟩) sels.length sels.length)
  rw [← hX3] at Q3 ⊢
  clear hX3
  refine (toIntS_nf after _ B aa ac (haf.under (c3.mono hB)) (by omega)).mono ?_
  rintro e w3 ⟨rfl, hb3', hz3, hs3, hn3⟩
  have n3 : Hid (NF w.heap.size w3) := NF.call m3 hb3' hn3
  have b3 : Below w.heap.size w w3 := c3.trans (hb3'.mono (by omega))
  have Q4 := Q3.of_block (hb3'.block (w.heap.size + 1 + 1) (by omega))
  have keep3 : ∀ k, k < w2.heap.size → k ≠ w.heap.size + 1 + 1 → w3.heap[k]? = w2.heap[k]? := fun k hk h => (hb3'.block k (by omega)).trans (oth3 k h)
  have R3 := R2.of_block (keep3 _ (by omega) (by omega))
  have F3 := F2.block (keep3 w.heap.size (by omega) (by omega))
  have t3 : Strs w3 (· = w.heap.size + 1 + 1 + 1) way (some ⟨w.heap.size + 1 + 1 + 1, 0, none⟩) := t2.mono fun k hk => keep3 k (by have := e1.out; omega) (by omega)
  have u3 : SeReps w3 (fun b => w1.heap.size ≤ b ∧ b < w2.heap.size) sels (some ⟨w1.heap.size, 0, none⟩) := hs2.mono fun k hk => keep3 k hk.2 (by omega)
  have zz3 : w2.heap.size < w3.heap.size := by omega
  rw [zc3] at hs3
  have E3 : Hid (X3.heap.size = w2.heap.size) := zc3
  clear hb3' hn3 m3 c3 oth3 F2 R2 Q2 Q3 hs2 t2 hz3 zc3
  obtain ⟨p0, p1, p2, p3, p4, p5⟩ := id F3
  have qf := fun i => Q4.frozen i
  have q4 := Q4.cell (i := 4) (by simp)
  simp at q4
  go_wp2_with fail
  clear p0 p1 p2 p3 p4 p5 q4 qf
  rw [E3.out]
  obtain ⟨X4, hX4⟩ : ∃ X4, X4 = w3.setCell ⟨w.heap.size + 1 + 1, 4, none⟩ (.slice (some ⟨w2.heap.size, 0, none⟩) after.length after.length) := ⟨_, rfl⟩
  have m4 : NF w.heap.size X4 := by rw [hX4]; exact n3.out.set _ _
  have c4 : Below w.heap.size w X4 := by rw [hX4]; exact b3.setCell (by show w.heap.size ≤ w.heap.size + 1 + 1; omega) _
  have zc4 : X4.heap.size = w3.heap.size := by rw [hX4, size_set]
  have oth4 : ∀ k, k ≠ w.heap.size + 1 + 1 → X4.heap[k]? = w3.heap[k]? := fun k hk => by rw [hX4, Below.heap_setCell _ _ _ _ hk]
  have Q5 := Q4.set 4 (.slice (some ⟨w2.heap.size, 0, none⟩) after.length after.length)
  rw [← hX4] at Q5 ⊢
  clear hX4
  refine (toStringS_nf brings ba bc _ ((hbr.under (c4.mono hB)).sub fun k hk => by omega) hbb).mono ?_
  rintro e w4 ⟨rfl, hb4, hz4, hs4, hn4⟩
  have n4 : NF w.heap.size w4 := NF.call m4 hb4 hn4
  have b4 : Below w.heap.size w w4 := c4.trans (hb4.mono (by omega))
  have Q6 := Q5.of_block (hb4.block (w.heap.size + 1 + 1) (by omega))
  have keep4 : ∀ k, k < w3.heap.size → k ≠ w.heap.size + 1 + 1 → w4.heap[k]? = w3.heap[k]? := fun k hk h => (hb4.block k (by omega)).trans (oth4 k h)
  have R4 := R3.of_block (keep4 _ (by omega) (by omega))
  have t4 : Strs w4 (· = w.heap.size + 1 + 1 + 1) way (some ⟨w.heap.size + 1 + 1 + 1, 0, none⟩) := t3.mono fun k hk => keep4 k (by have := e1.out; omega) (by omega)
  have u4 : SeReps w4 (fun b => w1.heap.size ≤ b ∧ b < w2.heap.size) sels (some ⟨w1.heap.size, 0, none⟩) := u3.mono fun k hk => keep4 k (by omega) (by omega)
  have i4 : Ints w4 (fun b => w2.heap.size ≤ b ∧ b < w3.heap.size) after (some ⟨w2.heap.size, 0, none⟩) := hs3.mono fun k hk => keep4 k hk.2 (by omega)
  have zz4 : w3.heap.size < w4.heap.size := by omega
  rw [zc4] at hs4
  have E4 : Hid (X4.heap.size = w3.heap.size) := zc4
  clear hb4 hn4 m4 c4 oth4 F3 R3 Q4 Q5 hs3 t3 u3 hz4 zc4
  have qf := fun i => Q6.frozen i
  have q0 := Q6.cell (i := 0) (by simp)
  have q1 := Q6.cell (i := 1) (by simp)
  have q2 := Q6.cell (i := 2) (by simp)
  have q3 := Q6.cell (i := 3) (by simp)
  have q4 := Q6.cell (i := 4) (by simp)
  have q5 := Q6.cell (i := 5) (by simp)
  have rf := fun i => R4.frozen i
  have r0 := R4.cell (i := 0) (by simp)
  have r1 := R4.cell (i := 1) (by simp)
  have r2 := R4.cell (i := 2) (by simp)
  have r3 := R4.cell (i := 3) (by simp)
  have r4 := R4.cell (i := 4) (by simp)
  have r5 := R4.cell (i := 5) (by simp)
  simp at q0 q1 q2 q3 q4 q5 r0 r1 r2 r3 r4 r5
  go_wp2_with fail
  rw [E4.out]
  obtain ⟨L, hL⟩ : ∃ L : List Value, L = [.int .i64 part, .slice (some ⟨w.heap.size + 1 + 1 + 1, 0, none⟩) way.length way.length, .string type, .slice (some ⟨w1.heap.size, 0, none⟩) sels.length sels.length, .slice (some ⟨w2.heap.size, 0, none⟩) after.length after.length, .slice (some ⟨w3.heap.size, 0, none⟩) brings.length brings.length] := ⟨_, rfl⟩
  have key : Below w.heap.size w (puts (w4.setCell ⟨w.heap.size + 1 + 1, 5, none⟩ (.slice (some ⟨w3.heap.size, 0, none⟩) brings.length brings.length)) (w.heap.size + 1) 0 L) ∧
      StRep (puts (w4.setCell ⟨w.heap.size + 1 + 1, 5, none⟩ (.slice (some ⟨w3.heap.size, 0, none⟩) brings.length brings.length)) (w.heap.size + 1) 0 L) (fun b => w.heap.size ≤ b ∧ b < (puts (w4.setCell ⟨w.heap.size + 1 + 1, 5, none⟩ (.slice (some ⟨w3.heap.size, 0, none⟩) brings.length brings.length)) (w.heap.size + 1) 0 L).heap.size) ⟨part, way, type, sels, after, brings⟩
        (.agg #[.int .i64 part, .slice (some ⟨w.heap.size + 1 + 1 + 1, 0, none⟩) way.length way.length, .string type, .slice (some ⟨w1.heap.size, 0, none⟩) sels.length sels.length, .slice (some ⟨w2.heap.size, 0, none⟩) after.length after.length, .slice (some ⟨w3.heap.size, 0, none⟩) brings.length brings.length]) ∧
      NF w.heap.size (puts (w4.setCell ⟨w.heap.size + 1 + 1, 5, none⟩ (.slice (some ⟨w3.heap.size, 0, none⟩) brings.length brings.length)) (w.heap.size + 1) 0 L) := by
    have hsz : (puts (w4.setCell ⟨w.heap.size + 1 + 1, 5, none⟩ (.slice (some ⟨w3.heap.size, 0, none⟩) brings.length brings.length)) (w.heap.size + 1) 0 L).heap.size = w4.heap.size := by rw [puts_size, size_set]
    have hbl : ∀ k, k ≠ w.heap.size + 1 → k ≠ w.heap.size + 1 + 1 → (puts (w4.setCell ⟨w.heap.size + 1 + 1, 5, none⟩ (.slice (some ⟨w3.heap.size, 0, none⟩) brings.length brings.length)) (w.heap.size + 1) 0 L).heap[k]? = w4.heap[k]? := fun k h1 h2 => by rw [puts_block _ _ h1, Below.heap_setCell _ _ _ _ h2]
    have := e1.out
    refine ⟨puts_below (by omega) _ _ _ (b4.setCell (by show w.heap.size ≤ w.heap.size + 1 + 1; omega) _), ⟨_, _, _, _, _, _, _, _, rfl, ?_, hwb, hty, ?_, ?_, Nat.le_refl _, ?_, hbb⟩, (n4.set _ _).puts _ _ _⟩
    · exact (t4.mono fun k hk => hbl k (by omega) (by omega)).sub fun k hk => by rw [hsz]; omega
    · exact (u4.mono fun k hk => hbl k (by omega) (by omega)).sub fun k hk => by rw [hsz]; omega
    · exact (i4.mono fun k hk => hbl k (by omega) (by omega)).sub fun k hk => by rw [hsz]; omega
    · exact (hs4.mono fun k hk => hbl k (by omega) (by omega)).sub fun k hk => by rw [hsz]; omega
  rw [hL] at key
  refine bodyPost_ret (v := .agg #[.int .i64 part, .slice (some ⟨w.heap.size + 1 + 1 + 1, 0, none⟩) way.length way.length, .string type, .slice (some ⟨w1.heap.size, 0, none⟩) sels.length sels.length, .slice (some ⟨w2.heap.size, 0, none⟩) after.length after.length, .slice (some ⟨w3.heap.size, 0, none⟩) brings.length brings.length]) ?res rfl ⟨_, _, _, _, _, _, _, _, rfl, key.1, key.2.1, key.2.2⟩
  case res =>
    clear key hL t4 u4 i4 hs4 Q6 R4 n4 b4
    simp [results, Try.results22, go_sem, r0, r1, r2, r3, r4, r5]

set_option maxHeartbeats 1600000 in
theorem toStepS_nf (xs : List St) (w : World) (B : Nat) (a : Option Addr) (c : Nat) (hK : StReps w (· < B) xs a) (hB : B ≤ w.heap.size) :
    Calls Try.prog 8 #[.slice a xs.length c] w fun e w' => e = .returned (.slice (some ⟨w.heap.size, 0, none⟩) xs.length xs.length) ∧ Below w.heap.size w w' ∧ w.heap.size < w'.heap.size ∧
      StReps w' (fun b => w.heap.size ≤ b ∧ b < w'.heap.size) xs (some ⟨w.heap.size, 0, none⟩) ∧ NF w.heap.size w' := by
  have h3 := hK.1
  obtain ⟨-, C, hA, hr⟩ := hK
  have hmk := run_make_any (P := Try.prog) 25 44 (.agg #[.int .i64 0, .slice none 0 0, .string ByteArray.empty, .slice none 0 0, .slice none 0 0, .slice none 0 0]) #[.int .i64 0, .slice none 0 0, .string ByteArray.empty, .slice none 0 0, .slice none 0 0, .slice none 0 0] rfl 6 120 Try.underlying25 info_Step .i64 .i64 xs.length h3 (by omega)
  go_enter Try.func8, Try.ntmps8
  go_wp2_with fail
  go_loopw [4] (fun i wr => ∃ (k : Nat) (G : Nat → Value), k ≤ xs.length ∧ i = .int .i64 k ∧ Below w.heap.size w wr ∧ wr.rowIs w.heap.size 44 (xs.length * 6) G ∧
      (∀ i, i < k → StRep wr (fun b => w.heap.size < b ∧ b < wr.heap.size) (pth xs i) (.agg #[G (i * 6), G (i * 6 + 1), G (i * 6 + 2), G (i * 6 + 3), G (i * 6 + 4), G (i * 6 + 5)])) ∧ NF w.heap.size wr) (fun i _ => xs.length - (intOf i).toNat)
  case atStart =>
    obtain ⟨G, hG⟩ := made_row w #[.int .i64 0, .slice none 0 0, .string ByteArray.empty, .slice none 0 0, .slice none 0 0, .slice none 0 0] (xs.length * 6) 44
    exact ⟨0, G, Nat.zero_le _, rfl, below_box _ _, hG, fun i hi => by omega, (NF.new w).alloc _ _⟩
  case round =>
    obtain ⟨k, G, hk, rfl, hbel, hrow, hreps, hnf⟩ := hrel
    have HNF : Hid (NF w.heap.size wr) := hnf
    clear hnf
    by_cases hlt : k < xs.length
    · obtain ⟨b, off, rfl, hbB, hc⟩ := hA (by omega)
      have hck : ∀ j, j < 6 → wr.cell? ⟨b, off + k * 6 + j, none⟩ = some (C k j) := fun j hj => (hbel.cell (p := ⟨b, off + k * 6 + j, none⟩) (by show b < _; omega)).trans (hc k hlt j hj)
      have hc0 : wr.cell? ⟨b, off + k * 6, none⟩ = some (C k 0) := hck 0 (by omega)
      have hc1 : wr.cell? ⟨b, off + k * 6 + 1, none⟩ = some (C k 1) := hck 1 (by omega)
      have hc2 : wr.cell? ⟨b, off + k * 6 + 2, none⟩ = some (C k 2) := hck 2 (by omega)
      have hc3 : wr.cell? ⟨b, off + k * 6 + 3, none⟩ = some (C k 3) := hck 3 (by omega)
      have hc4 : wr.cell? ⟨b, off + k * 6 + 4, none⟩ = some (C k 4) := hck 4 (by omega)
      have hc5 : wr.cell? ⟨b, off + k * 6 + 5, none⟩ = some (C k 5) := hck 5 (by omega)
      clear hck hc
      go_wp2_with (
        go_at_call 22
        refine (toStep_nf (pth xs k) _ B _ ((hr k hlt).under (hbel.mono hB)) (by have := hbel.size; omega)).mono ?_
        rintro e w1 ⟨wa, sa, aa, ba, wc, sc, ac, bc, rfl, hby, hry, hnf1⟩
        have HN1 : Hid (NF w.heap.size w1) := NF.call HNF.out hby hnf1
        clear hnf1
        have hrow1 := hrow.of_block (hby.block _ hrow.lt)
        have q0 : w1.cell? ⟨w.heap.size, k * 6, none⟩ = some (G (k * 6)) := hrow1.cell (by omega)
        have q1 : w1.cell? ⟨w.heap.size, k * 6 + 1, none⟩ = some (G (k * 6 + 1)) := hrow1.cell (by omega)
        have q2 : w1.cell? ⟨w.heap.size, k * 6 + 2, none⟩ = some (G (k * 6 + 2)) := hrow1.cell (by omega)
        have q3 : w1.cell? ⟨w.heap.size, k * 6 + 3, none⟩ = some (G (k * 6 + 3)) := hrow1.cell (by omega)
        have q4 : w1.cell? ⟨w.heap.size, k * 6 + 4, none⟩ = some (G (k * 6 + 4)) := hrow1.cell (by omega)
        have q5 : w1.cell? ⟨w.heap.size, k * 6 + 5, none⟩ = some (G (k * 6 + 5)) := hrow1.cell (by omega)
        have z0 : ∀ j, w1.frozen? ⟨w.heap.size, j, none⟩ = false := fun j => hrow1.frozen j)
      go_roundw
      case rel =>
        obtain ⟨L, hL⟩ : ∃ L : List Value, L = [.int .i64 (pth xs k).part, .slice wa (pth xs k).way.length wc, .string (pth xs k).type, .slice sa (pth xs k).sels.length sc, .slice aa (pth xs k).after.length ac, .slice ba (pth xs k).brings.length bc] := ⟨_, rfl⟩
        obtain ⟨G', hG, hG1, hGF⟩ := puts_row L (k * 6) hrow1
        have hs1 := hbel.size
        have hs2 := hby.size
        have hs3 := hrow.lt
        have g0 : G' (k * 6) = .int .i64 (pth xs k).part := by have := hG1 0 (by simp [hL]); simpa [hL] using this
        have g1 : G' (k * 6 + 1) = .slice wa (pth xs k).way.length wc := by have := hG1 1 (by simp [hL]); simpa [hL] using this
        have g2 : G' (k * 6 + 2) = .string (pth xs k).type := by have := hG1 2 (by simp [hL]); simpa [hL] using this
        have g3 : G' (k * 6 + 3) = .slice sa (pth xs k).sels.length sc := by have := hG1 3 (by simp [hL]); simpa [hL] using this
        have g4 : G' (k * 6 + 4) = .slice aa (pth xs k).after.length ac := by have := hG1 4 (by simp [hL]); simpa [hL] using this
        have g5 : G' (k * 6 + 5) = .slice ba (pth xs k).brings.length bc := by have := hG1 5 (by simp [hL]); simpa [hL] using this
        have hpb := puts_block w.heap.size
        have hps := puts_size w.heap.size L w1 (k * 6)
        have key : ∃ (k' : Nat) (G : Nat → Value), k' ≤ xs.length ∧ (.int .i64 ((k + 1 : Nat) : Int) : Value) = .int .i64 k' ∧ Below w.heap.size w (puts w1 w.heap.size (k * 6) L) ∧ (puts w1 w.heap.size (k * 6) L).rowIs w.heap.size 44 (xs.length * 6) G ∧
            (∀ i, i < k' → StRep (puts w1 w.heap.size (k * 6) L) (fun b => w.heap.size < b ∧ b < (puts w1 w.heap.size (k * 6) L).heap.size) (pth xs i) (.agg #[G (i * 6), G (i * 6 + 1), G (i * 6 + 2), G (i * 6 + 3), G (i * 6 + 4), G (i * 6 + 5)])) ∧ NF w.heap.size (puts w1 w.heap.size (k * 6) L) := by
          refine ⟨k + 1, G', by omega, rfl, puts_below (Nat.le_refl _) L w1 (k * 6) (hbel.trans (hby.mono hs1)), hG, fun i hi => ?_, HN1.out.puts _ _ _⟩
          by_cases e1 : i = k
          · rw [e1, g0, g1, g2, g3, g4, g5]
            exact (hry.mono fun b hb => hpb b (by omega) L w1 _).sub fun b hb => ⟨by omega, by omega⟩
          · rw [hGF _ (by omega), hGF _ (by omega), hGF _ (by omega), hGF _ (by omega), hGF _ (by omega), hGF _ (by omega)]
            exact ((hreps i (by omega)).mono fun b hb => (hpb b (by omega) L w1 _).trans (hby.block b hb.2)).sub fun b hb => ⟨hb.1, by omega⟩
        rw [hL] at key
        obtain ⟨k', G2, y1, y2, y3⟩ := key
        exact ⟨k', G2, y1, Eq.trans (by go_num) y2, y3⟩
      case measure => simp [intOf]; omega
    · go_wp2_with fail
      go_ret
      have e : k = xs.length := by omega
      subst e
      refine ⟨rfl, hbel, hrow.lt, ⟨h3, fun i j => G (i * 6 + j), fun _ => ⟨_, _, rfl, ⟨Nat.le_refl _, hrow.lt⟩, fun i hi j hj => ?_⟩, fun i hi => (hreps i hi).sub fun b hb => ⟨by omega, hb.2⟩⟩, HNF.out⟩
      have := hrow.cell (i := i * 6 + j) (by omega)
      simpa using this
end Go.Proofs.Ytahelconmfldjaa
