import Derived.Test.YtbpdchlbhfjddaaGreatJ20
import Derived.Test.YtbpdchlbhfjddaaGreatJ17
import Derived.Test.YtbpdchlbhfjddaaGreatJ18
import Derived.Test.YtbpdchlbhfjddaaGreatJ19
import Derived.Test.YtbpdchlbhfjddaaGreatPEq
namespace Go.Proofs.YtbpdchlbhfjddaaGreat
set_option linter.unusedSimpArgs false
set_option linter.unusedVariables false
open Go.RowKit

theorem FRep.pieces {w : World} {P : Nat → Prop} {f : F} {c0 c1 c2 c3 c4 c5 c6 c7 : Value} (h : FRep w P f (.agg #[c0, c1, c2, c3, c4, c5, c6, c7])) :
    c0 = .string f.name ∧ c1 = .string f.of ∧ c2 = .bool f.list ∧ c3 = .bool f.must ∧ c4 = .bool f.far ∧ c5 = .bool f.hidden ∧ c6 = .bool f.shared ∧ ∃ na nc, c7 = .slice na f.needs.length nc ∧ Strs w P f.needs na ∧ f.needs.length ≤ nc ∧ f.name.size ≤ maxLen ∧ f.of.size ≤ maxLen := by
  obtain ⟨na, nc, hv, h2, h3, h4, h5, -⟩ := h
  simp only [Value.agg.injEq, Array.mk.injEq, List.cons.injEq, and_true] at hv
  obtain ⟨e0, e1, e2, e3, e4, e5, e6, e7⟩ := hv
  exact ⟨e0, e1, e2, e3, e4, e5, e6, na, nc, e7, h2, h3, h4, h5⟩
theorem TRep.pieces {w : World} {P : Nat → Prop} {t : T} {c0 c1 c2 : Value} (h : TRep w P t (.agg #[c0, c1, c2])) :
    ∃ (fa : Option Addr) (fc : Nat), c0 = .string t.name ∧ c1 = .string t.key ∧ c2 = .slice fa t.fields.length fc ∧ FsRep w P t.fields fa ∧ t.fields.length ≤ fc ∧ t.name.size ≤ maxLen ∧ t.key.size ≤ maxLen := by
  obtain ⟨fa, fc, hv, h2, h3, h4, h5⟩ := h
  simp only [Value.agg.injEq, Array.mk.injEq, List.cons.injEq, and_true] at hv
  exact ⟨fa, fc, hv.1, hv.2.1, hv.2.2, h2, h3, h4, h5⟩
theorem boxNew {w : World} (cs : Array Value) (T : TypeId) (i : Nat) (hi : i < cs.size) : (w.alloc (.cells cs T)).cell? ⟨w.heap.size, i, none⟩ = some cs[i] := by
  rw [cell_of_row (w.alloc (.cells cs T)) w.heap.size i cs T (0, 0) (heap_alloc_new w _)]
  simp [hi]
theorem boxAt {W : World} {b : Nat} {cs : Array Value} {T : TypeId} (h : W.heap[b]? = some (.cells cs T (0, 0))) (i : Nat) (hi : i < cs.size) : W.cell? ⟨b, i, none⟩ = some cs[i] ∧ W.frozen? ⟨b, i, none⟩ = false := by
  refine ⟨?_, frozen_of_row W b i cs T h⟩
  rw [cell_of_row W b i cs T (0, 0) h]
  simp [hi]

/-- How many marks a part takes. -/
def mP (p : Pt) : Nat := mTs p.types p.types.length
theorem mP_small (p : Pt) (hz : szP p ≤ 1048576) : mP p ≤ 10485760 := by
  have h1 := mTs_sz p.types p.types.length
  have h3 : szP p = p.name.size + (p.types.length + szTsTo p.types p.types.length) := rfl
  unfold mP
  omega
theorem markPart_from (p : Pt) (nm : Value) (c k lo hi : Nat) (a : Option Addr) (w : World) (hw : WTs w lo hi p.types a) (hz : szP p ≤ 1048576) (hk : k ≤ 500000000000) :
    Calls Tryz.prog 12 #[.agg #[nm, .slice a p.types.length c], .int .i64 k] w fun e w' => e = .returned (.int .i64 ((k + mP p : Nat) : Int)) ∧ Marked lo hi w w' := by
  obtain ⟨name, types⟩ := p
  have hs : szTs types ≤ 1048576 := by have : szP ⟨name, types⟩ = name.size + szTs types := rfl; omega
  have hM := fun o => markTypeS_any types c k lo hi a (w.alloc o) (hw.keep (Marked.of_below lo hi (below_box w o))) (by have : szTs types = types.length + szTsTo types types.length := rfl; omega)
    (fun i => by have := fields_small types hs i; have h3 : szFs (tth types i).fields = (tth types i).fields.length + szFsTo (tth types i).fields (tth types i).fields.length := rfl; omega)
    (fun i j => needs_small _ (fields_small types hs i) j)
    (fun i hi => by have h1 := mTs_sz types i; have h2 := szTsTo_mono types i _ hi; have h3 : szTs types = types.length + szTsTo types types.length := rfl; omega)
  go_enter Tryz.func12, Tryz.ntmps12
  go_wp2_with (
    go_at_call 26
    refine (hM _).mono ?_
    rintro e w1 ⟨rfl, hm1⟩)
  go_ret
  exact ⟨rfl, (Marked.of_below lo hi (below_box w _)).trans hm1⟩

/-- A change within blocks of which S holds that keeps of every cell its kind. -/
structure KeptS (S : Nat → Prop) (w w' : World) : Prop where
  m : Marked 0 w.heap.size w w'
  block : ∀ b, b < w.heap.size → ¬ S b → w'.heap[b]? = w.heap[b]?
theorem Marked.all {lo hi : Nat} {w w' : World} (h : Marked lo hi w w') : Marked 0 w.heap.size w w' :=
  ⟨h.os, h.tape, h.output, h.size, fun b hb hn => absurd ⟨Nat.zero_le b, hb⟩ hn, h.text, h.flag, h.list, h.frozen⟩
theorem KeptS.refl (S : Nat → Prop) (w : World) : KeptS S w w := ⟨Marked.refl _ _ _, fun _ _ _ => rfl⟩
theorem KeptS.trans {S : Nat → Prop} {a b c : World} (h : KeptS S a b) (k : KeptS S b c) : KeptS S a c :=
  ⟨⟨k.m.os.trans h.m.os, k.m.tape.trans h.m.tape, k.m.output.trans h.m.output, Nat.le_trans h.m.size k.m.size, fun b hb hn => absurd ⟨Nat.zero_le b, hb⟩ hn,
    fun a s e => by obtain ⟨s', e'⟩ := h.m.text a s e; exact k.m.text a s' e', fun a s e => by obtain ⟨s', e'⟩ := h.m.flag a s e; exact k.m.flag a s' e',
    fun a x n c e => k.m.list a x n c (h.m.list a x n c e), fun a ha => (k.m.frozen a (Nat.lt_of_lt_of_le ha h.m.size)).trans (h.m.frozen a ha)⟩,
   fun i hi hn => (k.block i (Nat.lt_of_lt_of_le hi h.m.size) hn).trans (h.block i hi hn)⟩
theorem KeptS.of_below {S : Nat → Prop} {w w' : World} (h : Below w.heap.size w w') : KeptS S w w' := ⟨(Marked.of_below 0 0 h).all, fun b hb _ => h.block b hb⟩
theorem KeptS.of_marked {S : Nat → Prop} {lo hi : Nat} {w w' : World} (h : Marked lo hi w w') (hS : ∀ b, lo ≤ b → b < hi → S b) : KeptS S w w' := ⟨h.all, fun b hb hn => h.block b hb fun e => hn (hS b e.1 e.2)⟩
theorem KeptS.below {S : Nat → Prop} {w w' : World} {B : Nat} (h : KeptS S w w') (hB : B ≤ w.heap.size) (hS : ∀ b, S b → B ≤ b) : Below B w w' :=
  ⟨h.m.os, h.m.tape, h.m.output, h.m.size, fun b hb => h.block b (by omega) fun e => by have := hS b e; omega⟩
theorem KeptS.cell {S : Nat → Prop} {w w' : World} {p : Addr} {v : Value} (h : KeptS S w w') (hc : w.cell? p = some v) (hS : ¬ S p.block) : w'.cell? p = some v :=
  (World.cell?_of_block (h.block _ (cell_block hc) hS)).trans hc

theorem eqStringS_b (ns : List ByteArray) (a a' : Option Addr) (c c' : Nat) (w : World) (P P' : Nat → Prop) (hS : Strs w P ns a) (hS' : Strs w P' ns a') :
    Calls Tryz.prog 117 #[.slice a ns.length c, .slice a' ns.length c'] w fun e w' => e = .returned (.bool true) ∧ Below w.heap.size w w' := by
  refine (eqStringS_any ns a a' c c' w P P' hS hS').mono ?_
  rintro e w' ⟨rfl, n, rfl⟩
  exact ⟨rfl, below_drews (Below.refl _ _) n⟩

theorem WFs.of_rep {w : World} {lo hi : Nat} {fs : List F} {a : Option Addr} (h : FsRep w (fun b => lo ≤ b ∧ b < hi) fs a) (nf : NF lo w) : WFs w lo hi fs a := fun hn => by
  obtain ⟨-, C, hA, hr⟩ := h
  obtain ⟨b, off, e, hb, hc⟩ := hA hn
  refine ⟨b, off, e, hb.1, hb.2, fun i hi => ?_⟩
  obtain ⟨e0, e1, e2, e3, e4, e5, e6, na, nc, e7, hS, -⟩ := (hr i hi).pieces
  have c : ∀ j, j < 8 → w.cell? ⟨b, off + i * 8 + j, none⟩ = some (C i j) := fun j hj => hc i hi j hj
  have c0 : w.cell? ⟨b, off + i * 8, none⟩ = some (C i 0) := c 0 (by omega)
  exact ⟨⟨⟨_, c0.trans (congrArg some e0)⟩, nf _ hb.1⟩, ⟨⟨_, (c 1 (by omega)).trans (congrArg some e1)⟩, nf _ hb.1⟩, ⟨⟨_, (c 2 (by omega)).trans (congrArg some e2)⟩, nf _ hb.1⟩, ⟨⟨_, (c 3 (by omega)).trans (congrArg some e3)⟩, nf _ hb.1⟩, ⟨⟨_, (c 4 (by omega)).trans (congrArg some e4)⟩, nf _ hb.1⟩, ⟨⟨_, (c 5 (by omega)).trans (congrArg some e5)⟩, nf _ hb.1⟩, ⟨⟨_, (c 6 (by omega)).trans (congrArg some e6)⟩, nf _ hb.1⟩, na, nc, (c 7 (by omega)).trans (congrArg some e7), WStrs.of_rep hS nf⟩
theorem WTs.of_rep {w : World} {lo hi : Nat} {ts : List T} {a : Option Addr} (h : TsRep w (fun b => lo ≤ b ∧ b < hi) ts a) (nf : NF lo w) : WTs w lo hi ts a := fun hn => by
  obtain ⟨-, C, hA, hr⟩ := h
  obtain ⟨b, off, e, hb, hc⟩ := hA hn
  refine ⟨b, off, e, hb.1, hb.2, fun i hi => ?_⟩
  obtain ⟨fa, fc, e0, e1, e2, hF, -⟩ := (hr i hi).pieces
  have c : ∀ j, j < 3 → w.cell? ⟨b, off + i * 3 + j, none⟩ = some (C i j) := fun j hj => hc i hi j hj
  have c0 : w.cell? ⟨b, off + i * 3, none⟩ = some (C i 0) := c 0 (by omega)
  exact ⟨⟨⟨_, c0.trans (congrArg some e0)⟩, nf _ hb.1⟩, ⟨⟨_, (c 1 (by omega)).trans (congrArg some e1)⟩, nf _ hb.1⟩, fa, fc, (c 2 (by omega)).trans (congrArg some e2), WFs.of_rep hF nf⟩

/-- A text at each place of a list, as marked. -/
def HeldT (w : World) (n k : Nat) (a : Option Addr) : Prop := 0 < n → ∃ b off, a = some ⟨b, off, none⟩ ∧ ∀ i, i < n → w.cell? ⟨b, off + i, none⟩ = some (.string (mtext (k + i)))
theorem HeldT.keep {w w' : World} {n k : Nat} {a : Option Addr} (h : HeldT w n k a) (hb : Below w.heap.size w w') : HeldT w' n k a := fun h0 => by
  obtain ⟨b, off, e, hc⟩ := h h0
  exact ⟨b, off, e, fun i hi => (hb.cell (cell_block (hc i hi))).trans (hc i hi)⟩
end Go.Proofs.YtbpdchlbhfjddaaGreat

namespace Go.Proofs.YtbpdchlbhfjddaaGreat
set_option linter.unusedSimpArgs false
set_option linter.unusedVariables false
open Go.RowKit

/-- What lies in new memory that isn't frozen can be told apart. -/
theorem rep_apart {w' : World} {lo hi : Nat} {x : V} {v : Value} (h : Rep w' (fun b => lo ≤ b ∧ b < hi) x v) (hnf : NF lo w') : Rep w' (fun b => (lo ≤ b ∧ b < hi) ∧ Apart w' b) x v := by
  obtain ⟨f, h⟩ := h
  refine ⟨f, ?_⟩
  have key : ∀ (f : Nat) (x : V) (v : Value), RepN w' (fun b => lo ≤ b ∧ b < hi) f x v → RepN w' (fun b => (lo ≤ b ∧ b < hi) ∧ Apart w' b) f x v := by
    intro f
    induction f with
    | zero => intro x v h; exact h.elim
    | succ f ih =>
      intro x v h
      obtain ⟨na, ka, nc, kc, b, off, C, h1, hs, h3, h4, h5, h6, hka, hc, hr⟩ := h
      refine ⟨na, ka, nc, kc, b, off, C, h1, ⟨fun hne => ?_, hs.2⟩, h3, h4, h5, h6, fun hne => ?_, hc, fun i hi => ih _ _ (hr i hi)⟩
      · obtain ⟨b', o', e', hb', hcc⟩ := hs.1 hne
        exact ⟨b', o', e', ⟨hb', Apart.of_cell (hcc 0 (List.length_pos_iff.2 hne)) (fun a ha => hnf a (by omega))⟩, hcc⟩
      · obtain ⟨e', hb'⟩ := hka hne
        exact ⟨e', hb', Apart.of_cell (hc 0 (List.length_pos_iff.2 hne) 0 (by omega)) (fun a ha => hnf a (by omega))⟩
  exact key f x v h
theorem arr_apart {w' : World} {lo hi sz n : Nat} {a : Option Addr} {C : Nat → Nat → Value} (hsz : 0 < sz) (h : Arr w' (fun b => lo ≤ b ∧ b < hi) sz n a C) (hnf : NF lo w') : Arr w' (fun b => (lo ≤ b ∧ b < hi) ∧ Apart w' b) sz n a C := fun hn => by
  obtain ⟨b, off, e, hb, hc⟩ := h hn
  exact ⟨b, off, e, ⟨hb, Apart.of_cell (hc 0 hn 0 hsz) (fun a ha => hnf a (by omega))⟩, hc⟩
theorem rows_apart {w' : World} {lo hi : Nat} {rs : List Ro} {a : Option Addr} (h : RoReps w' (fun b => lo ≤ b ∧ b < hi) rs a) (hnf : NF lo w') : RoReps w' (fun b => (lo ≤ b ∧ b < hi) ∧ Apart w' b) rs a := by
  obtain ⟨h0, C, hA, hr⟩ := h
  refine ⟨h0, C, arr_apart (by omega) hA hnf, fun i hi => ?_⟩
  obtain ⟨ca, cc, hv, ⟨g0, D, hD, hc⟩, h3, h4⟩ := hr i hi
  refine ⟨ca, cc, hv, ⟨g0, D, arr_apart (by omega) hD hnf, fun j hj => ?_⟩, h3, h4⟩
  obtain ⟨c1, c2, c3, c4, c5, hv', hV, hn⟩ := hc j hj
  exact ⟨c1, c2, c3, c4, c5, hv', rep_apart hV hnf, hn⟩
theorem nCs_cut (r : Ro) (fl : List F) : nCs (cutL fl r.cells) ≤ fl.length * (4 + 3 * szR r) := cutL_sum (fun c => 4 + nV c.val) (4 + 3 * szR r) fl r fun n => by
  show 4 + nV (cellV r.cells n) ≤ _
  have := nV_sz (cellV r.cells n)
  have := cellV_sz r n
  omega
theorem cutA_marks (p : Pt) (rs : List Ro) (h : rSz rs ≤ 1048576) : nRs (cutA p rs) ≤ 1000000000 := by
  have := cutA_sum (fun r => 2 + nCs r.cells) 34 p rs (fun t r ht => by
    have h1 := nCs_cut r (KF t.fields t.fields.length)
    have h2 := KF_len t.fields t.fields.length
    have h3 : (KF t.fields t.fields.length).length * (4 + 3 * szR r) ≤ 8 * (4 + 3 * szR r) := Nat.mul_le_mul_right _ (by omega)
    show 2 + nCs (cutL (KF t.fields t.fields.length) r.cells) ≤ 34 * (1 + szR r)
    omega)
  have e : nRs (cutA p rs) = ((cutA p rs).map fun r => 2 + nCs r.cells).sum := rfl
  omega
theorem box2_cells {w W : World} {x0 x1 : Value} {T : TypeId} (h : Below (w.heap.size + 1) (w.alloc (.cells #[x0, x1] T)) W) :
    W.cell? ⟨w.heap.size, 0, none⟩ = some x0 ∧ W.cell? ⟨w.heap.size, 1, none⟩ = some x1 ∧ Below w.heap.size w W ∧ w.heap.size < W.heap.size := by
  have hz := h.size
  simp at hz
  have hb := (h.block w.heap.size (by omega)).trans (block_new (w := w) #[x0, x1] T rfl)
  exact ⟨(box_at hb 0 (by simp)).1, (box_at hb 1 (by simp)).1, (below_box w _).trans (h.mono (by omega)), by omega⟩
theorem Only.below {S : Nat → Prop} {B : Nat} {a w w' : World} (h : Below B a w) (m : Only S w w') (hB : ∀ b, S b → B ≤ b) (hz : B ≤ w.heap.size) : Below B a w' :=
  ⟨m.os.trans h.os, m.tape.trans h.tape, m.output.trans h.output, Nat.le_trans h.size m.size, fun i hi => (m.block i (by omega) (fun hs => by have := hB i hs; omega)).trans (h.block i hi)⟩

set_option maxRecDepth 20000 in
set_option maxHeartbeats 6400000 in
theorem lawCut_walk (p : Pt) (rs : List Ro) (w : World) (v : Value) (ra : Option Addr) (rc : Nat) (hR : PRep w (· < w.heap.size) p v) (hRs : RoReps w (· < w.heap.size) rs ra) :
    Calls Tryz.prog 3 #[v, .slice ra rs.length rc] w fun e w' => e = .returned (.bool true) ∧ Below w.heap.size w w' := by
  have hx := hR
  obtain ⟨pn, pt⟩ := p
  obtain ⟨ta, tc, rfl, -⟩ := hR
  simp only at hx
  obtain ⟨X, hXe⟩ : ∃ X, X = (w.alloc (.cells #[.string pn, .slice ta pt.length tc] 24)) := ⟨_, rfl⟩
  have TB : ∀ W, Below (w.heap.size + 1) X W → W.cell? ⟨w.heap.size, 0, none⟩ = some (.string pn) ∧ W.cell? ⟨w.heap.size, 1, none⟩ = some (.slice ta pt.length tc) ∧ Below w.heap.size w W ∧ w.heap.size < W.heap.size := fun W h => box2_cells (by rw [← hXe]; exact h)
  have hT0 : Below (w.heap.size + 1) X (w.alloc (.cells #[.string pn, .slice ta pt.length tc] 24)) := by rw [hXe]; exact Below.refl _ _
  clear hXe
  have CPx := fun W (hb : Below w.heap.size w W) => toPart_nf ⟨pn, pt⟩ W w.heap.size _ (hx.under hb) hb.size
  have CRx := fun W (hb : Below w.heap.size w W) => toRowS_nf rs W w.heap.size ra rc (hRs.under hb) hb.size
  simp only at CPx
  go_enter Tryz.func3, Tryz.ntmps3
  go_wp2_with fail
  refine (szPart_any _ _ w.heap.size _ _ (hx.under (TB _ hT0).2.2.1) (by simp) (by omega) (by omega)).mono ?_
  rintro e w1 ⟨y1, rfl, hy0, hy1, hy2, hb1⟩
  have hT1 := hT0.trans (hb1.mono (by simp))
  clear hb1 hT0
  obtain ⟨p0, p1, hbw1, hz1⟩ := TB w1 hT1
  by_cases h1 : y1 < 0
  · go_wp2_with fail
    go_ret
    exact ⟨rfl, hbw1⟩
  have hzp : szP ⟨pn, pt⟩ ≤ 1048576 := by have := hy2 (by omega); omega
  go_wp2_with fail
  clear p0 p1
  refine (szRowS_any _ _ w.heap.size _ _ _ (hRs.under hbw1) (by omega) (by omega) (by omega)).mono ?_
  rintro e w2 ⟨y2, rfl, hy20, hy21, hy22, hb2⟩
  have hT2 := hT1.trans (hb2.mono (by omega))
  obtain ⟨p0, p1, hbw2, hz2⟩ := TB w2 hT2
  by_cases h2 : y2 < 0
  · go_wp2_with fail
    go_ret
    exact ⟨rfl, hbw2⟩
  have hsz : rSz rs ≤ 1048576 := by have := hy22 (by omega); unfold rSz; omega
  clear hb2 hT1 hbw1 hz1 hy0 hy1 hy2 hy20 hy21 hy22
  have SB := fun W B v a c h1 h2 h3 => StoreCutS_any ⟨pn, pt⟩ rs W B v a c h1 h2 hzp h3 hsz
  have IB := fun W B P v a c h1 h2 h3 h4 => StoreCutI_any ⟨pn, pt⟩ rs W B P v a c h1 h2 hzp h3 h4 hsz
  have hfin := cutA_fine ⟨pn, pt⟩ rs hsz
  have hmk := cutA_marks ⟨pn, pt⟩ rs hsz
  have hln := cutA_len ⟨pn, pt⟩ rs hsz
  generalize cutA ⟨pn, pt⟩ rs = rl at SB IB hfin hmk hln
  have HF : Hid (∀ i, i < rl.length → (rth rl i).cells.length ≤ 1048576 ∧ ∀ j, j < (rth rl i).cells.length → szV (cth (rth rl i).cells j).val ≤ 1048576) := hid_of fun i hi => ⟨by have := (hfin i hi).1; omega, (hfin i hi).2.2⟩
  have HSB := hid_of SB
  have HIB := hid_of IB
  have HCP := hid_of CPx
  have HCR := hid_of CRx
  clear SB IB CPx CRx hfin
  go_wp2_with fail
  clear p0 p1
  refine (HCP.out w2 hbw2).mono ?_
  rintro e w3 ⟨ta3, tc3, rfl, hb3, hr3, -⟩
  have z3 := hb3.size
  have hT3 := hT2.trans (hb3.mono (by omega))
  obtain ⟨p0, p1, hbw3, hz3⟩ := TB w3 hT3
  go_wp2_with fail
  clear p0 p1
  refine (HCR.out w3 hbw3).mono ?_
  rintro e w4 ⟨rfl, hb4, hz43, hr4, -⟩
  have z4 := hb4.size
  have hT4 := hT3.trans (hb4.mono (by omega))
  have HS4 := hid_of (HSB.out w4 w4.heap.size _ _ rs.length ((hr3.mono fun b hb => hb4.block b hb.2).sub fun b hb => by omega) (Nat.le_refl _) (hr4.sub fun b hb => hb.2))
  clear hb3 hr3 hr4 hb4
  go_wp2_with fail
  refine HS4.out.mono ?_
  rintro e w5 ⟨a0, c0, rfl, hb5, hr5⟩
  have z5 := hb5.size
  have hT5 := hT4.trans (hb5.mono (by have := hT4.size; have := hT3.size; omega))
  have HR0 := hid_of hr5
  clear hb5 hr5 HS4 hT2 hT3 hT4 hbw2 hbw3 HSB
  obtain ⟨p0, p1, hbw5, hz5⟩ := TB w5 hT5
  go_wp2_with fail
  clear p0 p1
  refine (HCP.out w5 hbw5).mono ?_
  rintro e w6 ⟨ta6, tc6, rfl, hb6, hr6, nf6⟩
  have z6 := hb6.size
  have HX6 : Hid (WTs w6 w5.heap.size w6.heap.size pt ta6) := by
    obtain ⟨ta7, tc7, e7, hK, -⟩ := hr6
    simp only [Value.agg.injEq, Array.mk.injEq, List.cons.injEq, Value.slice.injEq, and_true, true_and] at e7
    obtain ⟨rfl, rfl⟩ := e7
    exact WTs.of_rep hK nf6
  have bY := below_box w6 (.cells #[.string pn, .slice ta6 pt.length tc6] 32)
  have KY := block_new (w := w6) #[.string pn, .slice ta6 pt.length tc6] 32 rfl
  have zY : w6.heap.size < (w6.alloc (.cells #[.string pn, .slice ta6 pt.length tc6] 32)).heap.size := by simp
  have zY2 : (w6.alloc (.cells #[.string pn, .slice ta6 pt.length tc6] 32)).heap.size ≤ w6.heap.size + 1 := by simp
  have hT6 := (hT5.trans (hb6.mono (by omega))).trans (bY.mono (by omega))
  have HR1 := hid_of (And.intro (hr6.mono fun b hb => bY.block b hb.2) (HX6.out.keep (Marked.of_below 0 0 bY)))
  have HR0b := hid_of (HR0.out.mono fun b hb => (bY.block b (by omega)).trans (hb6.block b hb.2))
  clear hr6 nf6 HX6 hb6 bY HR0
  obtain ⟨Y, hYe⟩ : ∃ Y, Y = (w6.alloc (.cells #[.string pn, .slice ta6 pt.length tc6] 32)) := ⟨_, rfl⟩
  rw [← hYe] at KY zY zY2 hT6 HR1 HR0b
  obtain ⟨p0, p1, hbwY, hzY⟩ := TB Y hT6
  go_wp2_with fail
  rw [← hYe]
  clear hYe p0 p1
  refine (HCR.out Y hbwY).mono ?_
  rintro e w7 ⟨rfl, hb7, hz7, hr7, nf7⟩
  have z7 := hb7.size
  have hT7 := hT6.trans (hb7.mono (by omega))
  have KY7 := (hb7.block _ zY).trans KY
  have HR2 := hid_of (show PRep w7 (fun b => w5.heap.size ≤ b ∧ b < w6.heap.size) ⟨pn, pt⟩ (.agg #[.string pn, .slice ta6 pt.length tc6]) ∧ WTs w7 w5.heap.size w6.heap.size pt ta6 ∧ RoReps w7 (fun b => w4.heap.size ≤ b ∧ b < w5.heap.size) rl a0 ∧ RoReps w7 (fun b => Y.heap.size ≤ b ∧ b < w7.heap.size) rs _ ∧ WRows w7 Y.heap.size w7.heap.size rs _ from ⟨HR1.out.1.mono fun b hb => hb7.block b (by omega), HR1.out.2.keep (Marked.of_below 0 0 hb7), HR0b.out.mono fun b hb => hb7.block b (by omega), hr7, WRows.of_rep hr7 nf7⟩)
  have HI := hid_of (HIB.out w7 w6.heap.size (fun b => (Y.heap.size ≤ b ∧ b < w7.heap.size) ∧ Apart w7 b) (.agg #[.string pn, .slice ta6 pt.length tc6]) _ rs.length (HR2.out.1.sub fun b hb => hb.2) (by omega) (rows_apart hr7 nf7) (fun b hb => ⟨hb.1.2, hb.2⟩))
  clear hr7 nf7 hb7 HR1 HR0b KY hT6 hbwY
  obtain ⟨p0, p1, hbw7, hz7'⟩ := TB w7 hT7
  have x0 := (box_at KY7 0 (by simp)).1
  have x1 := (box_at KY7 1 (by simp)).1
  go_wp2_with fail
  clear p0 p1 x0 x1
  refine HI.out.mono ?_
  rintro e w8 ⟨⟨ag, cg, lab, rfl, hlab, hL8, hg8⟩, hb8⟩
  have z8 := hb8.size
  have hT8 := hT7.trans (hb8.mono (by omega))
  have KY8 := (hb8.block _ (by omega)).trans KY7
  have HLAB := hid_of hlab
  have HG8 := hid_of (And.intro hL8 hg8)
  obtain ⟨S1, hS1⟩ : ∃ S : Nat → Prop, ∀ b, S b ↔ ((w5.heap.size ≤ b ∧ b < w6.heap.size) ∨ (Y.heap.size ≤ b ∧ b < w7.heap.size)) := ⟨_, fun b => Iff.rfl⟩
  have FK : ∀ W, Only S1 w8 W → (W.cell? ⟨w.heap.size, 0, none⟩ = some (.string pn) ∧ W.cell? ⟨w.heap.size, 1, none⟩ = some (.slice ta pt.length tc)) ∧ (W.cell? ⟨w6.heap.size, 0, none⟩ = some (.string pn) ∧ W.cell? ⟨w6.heap.size, 1, none⟩ = some (.slice ta6 pt.length tc6)) ∧ Below w.heap.size w W ∧ Below (w.heap.size + 1) X W ∧ w8.heap.size ≤ W.heap.size := fun W h => by
    have hT := Only.below hT8 h (fun b hb => by rw [hS1] at hb; omega) (by have := hT8.size; omega)
    obtain ⟨q0, q1, q2, -⟩ := TB W hT
    have KW := (h.block w6.heap.size (by omega) (fun hb => by rw [hS1] at hb; omega)).trans KY8
    exact ⟨⟨q0, q1⟩, ⟨(box_at KW 0 (by simp)).1, (box_at KW 1 (by simp)).1⟩, q2, hT, h.size⟩
  have FG : ∀ W, Only S1 w8 W → RoReps W (fun b => w4.heap.size ≤ b ∧ b < w5.heap.size) rl a0 ∧ RoReps W (fun b => w7.heap.size ≤ b ∧ b < w8.heap.size) rl ag ∧ LRows W lab [] rl ag := fun W h =>
    ⟨HR2.out.2.2.1.mono fun b hb => (h.block b (by omega) (fun hb' => by rw [hS1] at hb'; omega)).trans (hb8.block b (by omega)), HG8.out.2.mono fun b hb => h.block b (by omega) (fun hb' => by rw [hS1] at hb'; omega), HG8.out.1.keep fun b h1 _ => h.block b (HLAB.out b h1).2 (fun hb' => by have := HLAB.out b h1; rw [hS1] at hb'; omega)⟩
  have FR : ∀ W, Below w8.heap.size w8 W → PRep W (fun b => w5.heap.size ≤ b ∧ b < w6.heap.size) ⟨pn, pt⟩ (.agg #[.string pn, .slice ta6 pt.length tc6]) ∧ WTs W w5.heap.size w6.heap.size pt ta6 ∧ RoReps W (fun b => Y.heap.size ≤ b ∧ b < w7.heap.size) rs _ ∧ WRows W Y.heap.size w7.heap.size rs _ := fun W h =>
    ⟨HR2.out.1.mono fun b hb => (h.block b (by omega)).trans (hb8.block b (by omega)), (HR2.out.2.1.keep (Marked.of_below 0 0 hb8)).keep (Marked.of_below 0 0 h), HR2.out.2.2.2.1.mono fun b hb => (h.block b (by omega)).trans (hb8.block b (by omega)), HR2.out.2.2.2.2.block fun b h1 h2 => (h.block b (by omega)).trans (hb8.block b (by omega))⟩
  have HFK := hid_of FK
  have HFG := hid_of FG
  have HFR := hid_of FR
  have hz85 : w.heap.size < w5.heap.size := hz5
  clear FK FG FR hlab hL8 hg8 HI hT7 hbw7 KY7
  have E1 := eqRowS_any rl w8 w8.heap.size ag a0 cg c0 ((HFG.out w8 (Only.refl _ _)).2.1.sub fun b hb => hb.2) ((HFG.out w8 (Only.refl _ _)).1.sub fun b hb => by omega) (Nat.le_refl _)
  go_wp2_with fail
  refine E1.mono ?_
  rintro e w9 ⟨rfl, hb9⟩
  clear E1
  have z9 := hb9.size
  obtain ⟨⟨p0, p1⟩, ⟨x0, x1⟩, bb9, -, -⟩ := HFK.out w9 (Only.of_below _ hb9)
  go_wp2_with fail
  go_cut [44] (fun r wx => r = .bool false ∧ Below w8.heap.size w8 wx)
  case first =>
    go_region_held3 (fun w' => w'.cell? ⟨w.heap.size, 0, none⟩ = some (.string pn) ∧ w'.cell? ⟨w.heap.size, 1, none⟩ = some (.slice ta pt.length tc) ∧ w'.cell? ⟨w6.heap.size, 0, none⟩ = some (.string pn) ∧ w'.cell? ⟨w6.heap.size, 1, none⟩ = some (.slice ta6 pt.length tc6)) (go_keep)
      (first
        | (
          go_at_call 7
          refine (HCP.out w9.drew bb9.drew).mono ?_
          rintro e w10 ⟨ta10, tc10, rfl, hb10, hr10, -⟩
          have hb10' := hb9.trans ((below_undrew hb10).mono z9)
          have z10 := hb10'.size
          have R10 := (HFR.out w10 hb10').1
          obtain ⟨⟨p0', p1'⟩, ⟨x0', x1'⟩, -⟩ := HFK.out w10 (Only.of_below _ hb10'))
        | (
          go_at_call 11
          refine (eqPart_any ⟨pn, pt⟩ w10 w10.heap.size _ _ (R10.sub fun k hk => by omega) (hr10.sub fun k hk => hk.2) (Nat.le_refl _)).mono ?_
          rintro e w11 ⟨rfl, hb11⟩
          have hb11' := hb10'.trans (hb11.mono z10)
          obtain ⟨⟨p0'', p1''⟩, ⟨x0'', x1''⟩, -⟩ := HFK.out w11 (Only.of_below _ hb11')))
    all_goals
      go_wp2_with fail
      go_meet
      case rel => exact ⟨rfl, hb11'⟩
  case rest =>
  obtain ⟨rfl, hb11⟩ := hcut
  obtain ⟨w11, rfl⟩ : ∃ x, x = wc := ⟨wc, rfl⟩
  clear p0 p1 x0 x1 bb9 hb9 z9
  have z11 := hb11.size
  obtain ⟨-, -, bb11, -, -⟩ := HFK.out w11 (Only.of_below _ hb11)
  go_wp2_with fail
  refine (HCR.out w11 bb11).mono ?_
  rintro e w12 ⟨rfl, hb12, -, hr12, -⟩
  have b12 := hb11.trans (hb12.mono z11)
  have z12 := hb12.size
  have R12 := (HFR.out w12 b12).2.2.1
  have HE12 := hid_of (eqRowS_any rs w12 w12.heap.size _ _ rs.length rs.length (R12.sub fun b hb => by omega) (hr12.sub fun b hb => hb.2) (Nat.le_refl _))
  clear hr12 R12 hb12 hb11 bb11
  go_wp2_with fail
  refine HE12.out.mono ?_
  rintro e w13 ⟨rfl, hb13⟩
  have z13 := hb13.size
  have b13 := b12.trans (hb13.mono (by omega))
  clear HE12 hb13 b12
  obtain ⟨-, ⟨x0, x1⟩, -, -, -⟩ := HFK.out w13 (Only.of_below _ b13)
  have hMP := markPart_from ⟨pn, pt⟩ (.string pn) tc6 1 w5.heap.size w6.heap.size ta6 w13 (HFR.out w13 b13).2.1 hzp (by omega)
  have hmp := mP_small ⟨pn, pt⟩ hzp
  generalize mP ⟨pn, pt⟩ = mp at hmp hMP
  have HMP := hid_of hMP
  clear hMP
  go_wp2_with fail
  clear x0 x1
  refine HMP.out.mono ?_
  rintro e w14 ⟨rfl, hm14⟩
  have z14 := hm14.size
  have o14 : Only S1 w8 w14 := (Only.of_below S1 b13).trans (Only.of_marked hm14 fun b h1 h2 => by rw [hS1]; omega)
  have HW14 := hid_of ((HFR.out w13 b13).2.2.2.block (w' := w14) fun b h1 h2 => hm14.block b (by omega) (by omega))
  have hMR := markRowS_g rs rs.length Y.heap.size w7.heap.size ((1 + mp : Nat) : Int) _ w14 HW14.out hsz (by omega) (by omega)
  have HMR := hid_of hMR
  clear hMR HMP hm14 HW14
  go_wp2_with fail
  refine HMR.out.mono ?_
  rintro e w15 ⟨⟨k15, rfl, k150, k151⟩, m15⟩
  have z15 := m15.m.size
  have o15 : Only S1 w8 w15 := o14.trans (Only.of_marked m15.m fun b h1 h2 => by rw [hS1]; omega)
  clear HMR m15 o14 b13
  have k152 : ¬ k15 < 0 := by omega
  have HE15 := hid_of (eqRowS_any rl w15 w15.heap.size ag a0 cg c0 ((HFG.out w15 o15).2.1.sub fun b hb => by omega) ((HFG.out w15 o15).1.sub fun b hb => by omega) (Nat.le_refl _))
  go_wp2_with fail
  refine HE15.out.mono ?_
  rintro e w16 ⟨rfl, hb16⟩
  have z16 := hb16.size
  have o16 : Only S1 w8 w16 := o15.trans (Only.of_below _ hb16)
  clear HE15 hb16 o15
  have HM16 := hid_of (markRowS_l rl lab [] ag cg 1 w16 (HFG.out w16 o16).2.2 (fun b hb => by have := HLAB.out b hb; omega) (by omega) (by omega) HF.out)
  go_wp2_with fail
  refine HM16.out.mono ?_
  rintro e w17 ⟨rfl, o17, hL17⟩
  have z17 := o17.size
  have bb17 : Below w.heap.size w w17 ∧ Below (w.heap.size + 1) X w17 := by
    obtain ⟨-, -, b1, b2, -⟩ := HFK.out w16 o16
    have hS : ∀ b, Sk lab [] b → w7.heap.size ≤ b := fun b hb => (HLAB.out b (by
      rcases hb with h | ⟨i, h⟩
      · rw [h]; simp
      · exact suffix_ne h)).1
    exact ⟨Only.below b1 o17 (fun b hb => by have := hS b hb; omega) (by omega), Only.below b2 o17 (fun b hb => by have := hS b hb; omega) (by omega)⟩
  have HR17 := hid_of ((HFG.out w16 o16).1.mono (w' := w17) fun b hb => o17.block b (by omega) (fun hs => by
    have := (HLAB.out b (by
      rcases hs with h | ⟨i, h⟩
      · rw [h]; simp
      · exact suffix_ne h)).1
    omega))
  have HL17 := hid_of hL17
  obtain ⟨m, hm⟩ : ∃ m, m = 1 + nRs rl := ⟨_, rfl⟩
  rw [← hm]
  have HMM := hid_of hm
  clear HM16 o17 hL17 o16 hm
  have hm0 : ¬ (m : Int) < 0 := by omega
  have HLR : Hid (∀ W, Below w17.heap.size w17 W → LRows W lab [] (mkRs rl 1) ag) := hid_of fun W h => HL17.out.keep fun b h1 _ => h.block b (by have := HLAB.out b h1; omega)
  have HH17 := hid_of (heldRowS_l rl lab [] ag cg 1 w17 HL17.out (fun b hb => by have := HLAB.out b hb; omega) (by omega) (by omega) HF.out)
  rw [← HMM.out] at HH17
  go_wp2_with fail
  refine HH17.out.mono ?_
  rintro e w18 ⟨rfl, hb18⟩
  have z18 := hb18.size
  clear HH17
  have bX18 := bb17.2.trans (hb18.mono (by omega))
  obtain ⟨p0, p1, bw18, -⟩ := TB w18 bX18
  go_wp2_with fail
  clear p0 p1
  refine (HCP.out w18 bw18).mono ?_
  rintro e w19 ⟨ta19, tc19, rfl, hb19, hr19, -⟩
  have z19 := hb19.size
  have c19 := hb18.trans (hb19.mono z18)
  have bw19 := bw18.trans (hb19.mono (by omega))
  clear hb18 bX18
  go_wp2_with fail
  refine (HCR.out w19 bw19).mono ?_
  rintro e w20 ⟨rfl, hb20, -, hr20, nf20⟩
  have z20 := hb20.size
  have c20 := c19.trans (hb20.mono (by omega))
  have HI20 := hid_of (HIB.out w20 w19.heap.size (fun b => (w19.heap.size ≤ b ∧ b < w20.heap.size) ∧ Apart w20 b) (.agg #[.string pn, .slice ta19 pt.length tc19]) _ rs.length ((hr19.mono fun b hb => hb20.block b hb.2).sub fun b hb => hb.2) (by omega) (rows_apart hr20 nf20) (fun b hb => ⟨hb.1.2, hb.2⟩))
  have bw20 := bw19.trans (hb20.mono (by omega))
  clear hr19 hr20 nf20 hb19 hb20 c19
  go_wp2_with fail
  refine HI20.out.mono ?_
  rintro e w21 ⟨⟨ah, ch, lab2, rfl, -, -, hh21⟩, hb21⟩
  have z21 := hb21.size
  have c21 := c20.trans (hb21.mono (by omega))
  have bw21 := bw20.trans (hb21.mono (by omega))
  have HE21 := hid_of (eqRowS_any rl w21 w21.heap.size ah a0 ch c0 (hh21.sub fun b hb => hb.2) ((HR17.out.mono fun b hb => c21.block b (by omega)).sub fun b hb => by omega) (Nat.le_refl _))
  clear HI20 hh21 hb21 c20
  go_wp2_with fail
  refine HE21.out.mono ?_
  rintro e w22 ⟨rfl, hb22⟩
  have z22 := hb22.size
  have c22 := c21.trans (hb22.mono (by omega))
  have bw22 := bw21.trans (hb22.mono (by omega))
  have HH22 := hid_of (heldRowS_l rl lab [] ag cg 1 w22 (HLR.out w22 c22) (fun b hb => by have := HLAB.out b hb; omega) (by omega) (by omega) HF.out)
  rw [← HMM.out] at HH22
  clear HE21 hb22 c21
  go_wp2_with fail
  refine HH22.out.mono ?_
  rintro e w23 ⟨rfl, hb23⟩
  have bw23 := bw22.trans (hb23.mono (by have := bw22.size; omega))
  clear HH22 hb23
  go_wp2_with fail
  go_ret
  exact ⟨rfl, bw23⟩
end Go.Proofs.YtbpdchlbhfjddaaGreat
