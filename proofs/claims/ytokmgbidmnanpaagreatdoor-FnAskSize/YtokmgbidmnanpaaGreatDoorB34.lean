import Derived.Test.YtokmgbidmnanpaaGreatDoorB16
import Derived.Test.YtokmgbidmnanpaaGreatDoorB21
import Derived.Test.YtokmgbidmnanpaaGreatDoorB8
import Derived.Test.YtokmgbidmnanpaaGreatDoorB27
import Derived.Test.YtokmgbidmnanpaaGreatDoorB28
import Derived.Test.YtokmgbidmnanpaaGreatDoorB33
import Derived.Test.YtokmgbidmnanpaaGreatDoorB32
set_option linter.unusedSimpArgs false
set_option linter.unusedVariables false
namespace Go.Proofs.YtokmgbidmnanpaaGreatDoor
open Go.RowKit Go.Maps
attribute [local go_sem] Oper.semAt_some
theorem SmT.le {a b nn : Nat} {t : T} (h : SmT a nn t) (hab : a ≤ b) : SmT b nn t := ⟨h.1, h.2.1, Nat.le_trans h.2.2.1 hab, h.2.2.2⟩
end Go.Proofs.YtokmgbidmnanpaaGreatDoor
namespace Go.Proofs.YtokmgbidmnanpaaGreatDoor
open Go.RowKit Go.Maps
theorem PSt.list {w : World} {rb cb n : Nat} {wx : World} {σ : Sh} {c q pb pc : Nat} {ps : List Pv} (h : PSt w rb cb n wx σ c q pb pc ps) (hn : n ≤ 3) (hc : c ≤ 56) :
    ∃ qs : List Pt, qs.length = n ∧ PsRep wx (fun b => w.heap.size ≤ b ∧ b < wx.heap.size) qs (some ⟨pb, 0, none⟩) ∧ ∀ i, i < n → szP (pth qs i) ≤ 900000 := by
  have hk : ∀ i, ∃ r : Pt × Value × Value, i < n → wx.cell? ⟨pb, i * 2, none⟩ = some r.2.1 ∧ wx.cell? ⟨pb, i * 2 + 1, none⟩ = some r.2.2 ∧ PRep wx (fun b => w.heap.size ≤ b ∧ b < wx.heap.size) r.1 (.agg #[r.2.1, r.2.2]) ∧ szP r.1 ≤ 900000 := by
    intro i
    by_cases hi : i < n
    · obtain ⟨p, ⟨h1, h2, h3, h4, h5, h6⟩, c0, c1, -⟩ := h.cells i hi
      have hL : Laid w wx σ (bdP c) p.s p.b 0 p.len p.cap p.cap := ⟨h.wf, h.new, h6, by omega, by have : (bdP c).nt = 1 + 2 * c := rfl; omega, h4, by have : (bdP c).nn = 1 := rfl; omega, by have : (bdP c).nf = 7 + 2 * c := rfl; omega, h1⟩
      obtain ⟨x, hP, hz⟩ := hL.partN
      rw [Nat.zero_mul] at hP
      exact ⟨(x, _, _), fun _ => ⟨c0, c1, hP, hz⟩⟩
    · exact ⟨(Pt.zero, undef, undef), fun h => absurd h hi⟩
  obtain ⟨f, hf⟩ := Classical.skolem.1 hk
  have hl : ((List.range n).map fun i => (f i).1).length = n := by simp
  have hat : ∀ i, i < n → pth ((List.range n).map fun i => (f i).1) i = (f i).1 := fun i hi => by simp [pth, List.getD_eq_getElem?_getD, hi]
  have hp := h.plt
  refine ⟨(List.range n).map fun i => (f i).1, hl, ⟨by rw [hl]; omega, fun i j => if j = 0 then (f i).2.1 else (f i).2.2, fun _ => ⟨pb, 0, rfl, hp, fun i hi j hj => ?_⟩, fun i hi => ?_⟩, fun i hi => ?_⟩
  · rw [hl] at hi
    obtain ⟨c0, c1, -⟩ := hf i hi
    rw [Nat.zero_add]
    by_cases e : j = 0
    · subst e; simpa using c0
    · have : j = 1 := by omega
      subst this; simpa using c1
  · rw [hl] at hi
    rw [hat i hi]
    simpa using (hf i hi).2.2.1
  · rw [hat i hi]; exact (hf i hi).2.2.2
end Go.Proofs.YtokmgbidmnanpaaGreatDoor
namespace Go.Proofs.YtokmgbidmnanpaaGreatDoor
open Go.RowKit Go.Maps
theorem l6Put_any (t : T) (f : F) (fa na : Option Addr) (fc nc : Nat) (w : World) (P Q : Nat → Prop) (hT : TRep w P t (.agg #[.string t.name, .string t.key, .slice fa t.fields.length fc])) (hF : FRep w Q f (fval f na nc)) (hP : ∀ b, P b → b < w.heap.size) (hQ : ∀ b, Q b → b < w.heap.size) (hl : t.fields.length ≤ 1000000000) (hl2 : f.needs.length ≤ 1000000000) :
    Calls Tryz.prog 154 #[.agg #[.string t.name, .string t.key, .slice fa t.fields.length fc], fval f na nc] w fun e w' => ∃ fa' fc', e = .returned (.agg #[.string t.name, .string t.key, .slice fa' (putF t f).fields.length fc']) ∧ TRep w' (fun b => P b ∨ Q b ∨ (w.heap.size ≤ b ∧ b < w'.heap.size)) (putF t f) (.agg #[.string t.name, .string t.key, .slice fa' (putF t f).fields.length fc']) ∧ Below w.heap.size w w' := by
  have hx : fieldIx t f.name = firstTo (fun i => (fth t.fields i).name.toList == f.name.toList) t.fields.length := rfl
  rcases firstTo_cases (fun i => (fth t.fields i).name.toList == f.name.toList) t.fields.length with ⟨h, -⟩ | ⟨g, h, hg, -, -⟩
  · exact l6Put_new t f fa na fc nc w P Q hT hF hP hQ hl hl2 (hx.trans h)
  · exact l6Put_old t f fa na fc nc w P Q hT hF hP hQ hl hl2 g (hx.trans h) hg
end Go.Proofs.YtokmgbidmnanpaaGreatDoor
namespace Go.Proofs.YtokmgbidmnanpaaGreatDoor
open Go.RowKit Go.Maps
theorem TyRow.partP {w : World} {B : Nat} {P : Nat → Prop} {ts : List T} {v : Value} (h : TyRow w B P ts v) (hl : ts.length ≤ 1000000000) : PRep w (fun b => P b ∨ (B ≤ b ∧ b < w.heap.size)) ⟨⟨#[97]⟩, ts⟩ (.agg #[.string ⟨#[97]⟩, v]) := by
  obtain ⟨C, h1, h2⟩ := h
  have hr : ∀ i, i < ts.length → TRep w (fun b => P b ∨ (B ≤ b ∧ b < w.heap.size)) (tth ts i) (.agg #[C i 0, C i 1, C i 2]) := fun i hi => (h2 i hi).sub fun b hq => hq.imp id fun x => ⟨x.1, x.2.1⟩
  have hA : ∃ ta tc, v = .slice ta ts.length tc ∧ ts.length ≤ tc ∧ Arr w (fun b => P b ∨ (B ≤ b ∧ b < w.heap.size)) 3 ts.length ta C := by
    obtain ⟨hz, ⟨rfl, h0⟩ | ⟨g, cap, cur, rfl, hb, hg, hnc, hrest⟩⟩ := h1
    · have hn : ts.length = 0 := by simpa using h0
      rw [hn]
      exact ⟨none, 0, rfl, Nat.le_refl _, fun h => absurd h (Nat.lt_irrefl _)⟩
    · refine ⟨_, _, rfl, hnc, fun _ => ⟨g, 0, rfl, ?_, fun i hi j hj => ?_⟩⟩
      · exact Or.inr (World.ownsRow.lt (w := w) (base := B) (e := 52) (size := 3) (n := ts.length) (xs := flat3 C ts.length) ⟨hz, Or.inr ⟨g, cap, cur, rfl, hb, hg, hnc, hrest⟩⟩ g rfl)
      · rw [Nat.zero_add, World.ownsRow.cellAt (w := w) (base := B) (e := 52) (size := 3) (n := ts.length) (xs := flat3 C ts.length) ⟨hz, Or.inr ⟨g, cap, cur, rfl, hb, hg, hnc, hrest⟩⟩ (i * 3 + j) (by omega)]
        exact flat3_at C _ i j hi hj
  obtain ⟨ta, tc, rfl, hc, hA⟩ := hA
  exact ⟨ta, tc, rfl, ⟨by show 56 * ts.length ≤ _; omega, C, hA, hr⟩, hc, by show (1 : Nat) ≤ maxLen; unfold maxLen; omega⟩
theorem TyRow.part {w : World} {B : Nat} {P : Nat → Prop} {ts : List T} {v : Value} (h : TyRow w B P ts v) (hP : ∀ b, P b → b < w.heap.size) (hl : ts.length ≤ 1000000000) : PRep w (· < w.heap.size) ⟨⟨#[97]⟩, ts⟩ (.agg #[.string ⟨#[97]⟩, v]) :=
  (h.partP hl).sub fun b hq => hq.elim (hP b) fun x => x.2
theorem TyRow.keepB {w w' : World} {B : Nat} {P : Nat → Prop} {ts : List T} {v : Value} (h : TyRow w B P ts v) (hk : ∀ b, (P b ∨ (B ≤ b ∧ b < w.heap.size)) → w'.heap[b]? = w.heap[b]?) (hs : w.heap.size ≤ w'.heap.size) : TyRow w' B P ts v := by
  obtain ⟨C, h1, h2⟩ := h
  refine ⟨C, owns_at h1 fun j hj => hk j (Or.inr (h1.lt j hj)), fun i hi => ((h2 i hi).mono fun b hq => hk b (hq.elim Or.inl fun x => Or.inr ⟨x.1, x.2.1⟩)).sub fun b hq => ?_⟩
  exact hq.elim Or.inl fun x => Or.inr ⟨x.1, by omega, x.2.2⟩
theorem TyRow.at {w : World} {B tc : Nat} {P : Nat → Prop} {ts : List T} {ta : Option Addr} (h : TyRow w B P ts (.slice ta ts.length tc)) (i : Nat) (hi : i < ts.length) :
    ∃ (g : Nat) (fa : Option Addr) (fc : Nat), ta = some ⟨g, 0, none⟩ ∧ B ≤ g ∧ g < w.heap.size ∧ w.cell? ⟨g, i * 3, none⟩ = some (.string (tth ts i).name) ∧ w.cell? ⟨g, i * 3 + 1, none⟩ = some (.string (tth ts i).key) ∧ w.cell? ⟨g, i * 3 + 2, none⟩ = some (.slice fa (tth ts i).fields.length fc) ∧
      (∀ j, w.frozen? ⟨g, j, none⟩ = false) ∧ TRep w (Off P B w (.slice ta ts.length tc)) (tth ts i) (.agg #[.string (tth ts i).name, .string (tth ts i).key, .slice fa (tth ts i).fields.length fc]) := by
  obtain ⟨C, h1, h2⟩ := h
  obtain ⟨g, rfl⟩ : ∃ g, ta = some ⟨g, 0, none⟩ := by
    obtain ⟨-, ⟨e, h0⟩ | ⟨g, cap, cur, e, -⟩⟩ := h1
    · simp only [Value.slice.injEq] at e
      omega
    · simp only [Value.slice.injEq] at e
      exact ⟨g, e.1⟩
  have hr := h2 i hi
  have hr' := hr
  obtain ⟨fa, fc, e, -⟩ := hr
  rw [e] at hr'
  simp only [Value.agg.injEq, Array.mk.injEq, List.cons.injEq, and_true] at e
  obtain ⟨e0, e1, e2⟩ := e
  have hc : ∀ j, j < 3 → w.cell? ⟨g, i * 3 + j, none⟩ = some (C i j) := fun j hj => (h1.cellAt (i * 3 + j) (by omega)).trans (flat3_at C _ i j hi hj)
  exact ⟨g, fa, fc, rfl, (h1.lt g rfl).1, (h1.lt g rfl).2, by rw [← e0]; exact hc 0 (by omega), by rw [← e1]; exact hc 1 (by omega), by rw [← e2]; exact hc 2 (by omega), fun j => h1.frozenAt j, hr'⟩
def AllSt (X : World) (B : Nat) (ts : List T) (W : World) : Prop := ∃ (ta : Option Addr) (tc : Nat), W.heap[X.heap.size]? = some (.cells #[.string ⟨#[97]⟩, .slice ta ts.length tc] 43 (0, 0)) ∧ TyRow W (X.heap.size + 1) (· < B) ts (.slice ta ts.length tc) ∧ Below X.heap.size X W ∧ X.heap.size + 1 ≤ W.heap.size
theorem AllSt.keep {X W W' : World} {B : Nat} {ts : List T} (h : AllSt X B ts W) (hB : B ≤ X.heap.size) (hb : Below W.heap.size W W') : AllSt X B ts W' := by
  obtain ⟨ta, tc, h1, h2, h3, h4⟩ := h
  exact ⟨ta, tc, (hb.block _ (by omega)).trans h1, h2.keep (fun b hq => by have : b < B := hq; omega) hb, h3.trans (hb.mono (by omega)), Nat.le_trans h4 hb.size⟩
def AllTy (X : World) (B : Nat) (ts : List T) (bt : Nat) (cs : Array Value) (W : World) : Prop := ∃ (ta : Option Addr) (tc : Nat), W.heap[X.heap.size]? = some (.cells #[.string ⟨#[97]⟩, .slice ta ts.length tc] 43 (0, 0)) ∧ TyRow W (X.heap.size + 1) (· < B) ts (.slice ta ts.length tc) ∧ Below X.heap.size X W ∧ X.heap.size + 1 ≤ W.heap.size ∧ (Value.slice ta ts.length tc).ownBlock ≠ some bt ∧ W.heap[bt]? = some (.cells cs 52 (0, 0)) ∧ X.heap.size < bt ∧ bt < W.heap.size
theorem AllTy.st {X W : World} {B bt : Nat} {ts : List T} {cs : Array Value} (h : AllTy X B ts bt cs W) : AllSt X B ts W := by
  obtain ⟨ta, tc, h1, h2, h3, h4, -⟩ := h
  exact ⟨ta, tc, h1, h2, h3, h4⟩
theorem AllTy.keep {X W W' : World} {B bt : Nat} {ts : List T} {cs : Array Value} (h : AllTy X B ts bt cs W) (hB : B ≤ X.heap.size) (hb : Below W.heap.size W W') : AllTy X B ts bt cs W' := by
  obtain ⟨ta, tc, h1, h2, h3, h4, h5, h6, h7, h8⟩ := h
  exact ⟨ta, tc, (hb.block _ (by omega)).trans h1, h2.keep (fun b hq => by have : b < B := hq; omega) hb, h3.trans (hb.mono (by omega)), Nat.le_trans h4 hb.size, h5, (hb.block _ h8).trans h6, h7, Nat.lt_of_lt_of_le h8 hb.size⟩
theorem AllSt.box {X W : World} {B : Nat} {ts : List T} (h : AllSt X B ts W) (hB : B ≤ X.heap.size) (cs : Array Value) : AllTy X B ts W.heap.size cs (W.alloc (.cells cs 52)) := by
  obtain ⟨ta, tc, h1, h2, h3, h4⟩ := h
  obtain ⟨C, ho, hr⟩ := h2
  refine ⟨ta, tc, ?_, ?_, ?_, ?_, fun e => absurd (ho.lt _ e).2 (Nat.lt_irrefl _), block_new _ _ rfl, h4, by simp⟩
  · exact ((below_box W _).block _ h4).trans h1
  · exact TyRow.keep ⟨C, ho, hr⟩ (fun b hq => by have : b < B := hq; omega) (below_box W _)
  · exact h3.trans ((below_box W _).mono (by omega))
  · simp; omega
theorem AllTy.put {X W : World} {B bt g tc k : Nat} {ts : List T} {cs : Array Value} (hbox : W.heap[X.heap.size]? = some (.cells #[.string ⟨#[97]⟩, .slice (some ⟨g, 0, none⟩) ts.length tc] 43 (0, 0))) (hrow : TyRow W (X.heap.size + 1) (· < B) ts (.slice (some ⟨g, 0, none⟩) ts.length tc)) (hbX : Below X.heap.size X W) (hs : X.heap.size + 1 ≤ W.heap.size) (hne : g ≠ bt) (htb : W.heap[bt]? = some (.cells cs 52 (0, 0))) (hxb : X.heap.size < bt) (hbl : bt < W.heap.size) (hB : B ≤ X.heap.size) (hg : X.heap.size + 1 ≤ g) (hk : k < ts.length) (t : T) (d0 d1 d2 : Value) (ht : TRep W (Off (· < B) (X.heap.size + 1) W (.slice (some ⟨g, 0, none⟩) ts.length tc)) t (.agg #[d0, d1, d2])) :
    AllTy X B (ts.set k t) bt cs (((W.setCell ⟨g, k * 3, none⟩ d0).setCell ⟨g, k * 3 + 1, none⟩ d1).setCell ⟨g, k * 3 + 2, none⟩ d2) := by
  have hbk : ∀ b, b ≠ g → (((W.setCell ⟨g, k * 3, none⟩ d0).setCell ⟨g, k * 3 + 1, none⟩ d1).setCell ⟨g, k * 3 + 2, none⟩ d2).heap[b]? = W.heap[b]? := fun b hb => ((Below.heap_setCell _ _ _ _ hb).trans (Below.heap_setCell _ _ _ _ hb)).trans (Below.heap_setCell _ _ _ _ hb)
  have hsz : (((W.setCell ⟨g, k * 3, none⟩ d0).setCell ⟨g, k * 3 + 1, none⟩ d1).setCell ⟨g, k * 3 + 2, none⟩ d2).heap.size = W.heap.size := by simp
  have hT := hrow.put (k := k) rfl hk (fun b hq => by have : b < B := hq; omega) t d0 d1 d2 ht
  refine ⟨some ⟨g, 0, none⟩, tc, ?_, ?_, ?_, by rw [hsz]; exact hs, ?_, ?_, hxb, by rw [hsz]; exact hbl⟩
  · rw [List.length_set]; exact (hbk _ (by omega)).trans hbox
  · rw [List.length_set]; exact hT
  · have hgx : X.heap.size ≤ g := by omega
    exact ((hbX.setCell (p := ⟨g, k * 3, none⟩) hgx _).setCell (p := ⟨g, k * 3 + 1, none⟩) hgx _).setCell (p := ⟨g, k * 3 + 2, none⟩) hgx _
  · intro e; exact hne (Option.some.inj e)
  · exact (hbk _ (Ne.symm hne)).trans htb
theorem FsRep.atF {w : World} {B : Nat} {fs : List F} {a : Option Addr} (h : FsRep w (· < B) fs a) (n : Nat) (hn : n < fs.length) :
    ∃ (b off : Nat) (na : Option Addr) (nc : Nat), a = some ⟨b, off, none⟩ ∧ b < B ∧ (∀ j, j < 8 → w.cell? ⟨b, off + n * 8 + j, none⟩ = some ([Value.string (fth fs n).name, .string (fth fs n).of, .bool (fth fs n).list, .bool (fth fs n).must, .bool (fth fs n).far, .bool (fth fs n).hidden, .bool (fth fs n).shared, .slice na (fth fs n).needs.length nc].getD j undef)) ∧ FRep w (· < B) (fth fs n) (fval (fth fs n) na nc) := by
  obtain ⟨-, C, hA, hr⟩ := h
  obtain ⟨b, off, rfl, hb, hc⟩ := hA (by omega)
  have hr' := hr n hn
  obtain ⟨na, nc, e, -⟩ := hr n hn
  rw [e] at hr'
  refine ⟨b, off, na, nc, rfl, hb, fun j hj => ?_, hr'⟩
  rw [hc n hn j hj]
  simp only [Value.agg.injEq, Array.mk.injEq, List.cons.injEq, and_true] at e
  obtain ⟨e0, e1, e2, e3, e4, e5, e6, e7⟩ := e
  rcases j with _ | _ | _ | _ | _ | _ | _ | _ | j
  · simp [e0]
  · simp [e1]
  · simp [e2]
  · simp [e3]
  · simp [e4]
  · simp [e5]
  · simp [e6]
  · simp [e7]
  · omega
theorem typeOr_key {w : World} {P : Nat → Prop} {p : Pt} {v : Value} (h : PRep w P p v) (nm : ByteArray) : (typeOr p nm).key.size ≤ maxLen := by
  obtain ⟨ta, tc, -, ⟨-, C, -, hr⟩, -⟩ := h
  have hz : ∀ i, (tth p.types i).key.size ≤ maxLen := fun i => by
    by_cases hi : i < p.types.length
    · obtain ⟨_, _, -, -, -, -, hk⟩ := hr i hi
      exact hk
    · have : tth p.types i = T.zero := by simp [tth, List.getD_eq_getElem?_getD, List.getElem?_eq_none (Nat.le_of_not_lt hi)]
      rw [this]
      exact Nat.zero_le _
  unfold typeOr
  split
  · exact hz _
  · exact Nat.zero_le _
theorem keyM_size {w : World} {P : Nat → Prop} {ps : List Pt} {a : Option Addr} (h : PsRep w P ps a) (nm : ByteArray) : (keyM ps nm).size ≤ maxLen := by
  unfold keyM
  split
  · rename_i hx
    have hk : keyIx ps nm = firstTo (fun i => !(typeOr (pth ps i) nm).key.toList.isEmpty) ps.length := rfl
    rcases firstTo_cases (fun i => !(typeOr (pth ps i) nm).key.toList.isEmpty) ps.length with ⟨h2, -⟩ | ⟨g, h2, hg, -, -⟩
    · rw [hk, h2] at hx; omega
    · rw [hk, h2]
      obtain ⟨-, C, -, hr⟩ := h
      exact typeOr_key (hr g hg) nm
  · exact Nat.zero_le _
theorem infoTH : (Tryz.prog.info? 52).map (fun i => (i.zero.map fun z => z.cells.size, i.size, i.bytes)) = some (some 3, 3, 56) := by kernel_rfl
theorem infoT_parts : ∃ (i : TypeInfo) (z : Value), Tryz.prog.info? 52 = some i ∧ i.zero = some z ∧ i.size = 3 ∧ i.bytes = 56 ∧ z.cells.size = 3 := by
  have h := infoTH
  cases hi : Tryz.prog.info? 52 with
  | none => rw [hi] at h; cases h
  | some i =>
    rw [hi] at h
    simp only [Option.map_some, Option.some.injEq, Prod.mk.injEq] at h
    obtain ⟨h1, h2, h3⟩ := h
    cases hz : i.zero with
    | none => rw [hz] at h1; cases h1
    | some z =>
      rw [hz] at h1
      simp only [Option.map_some, Option.some.injEq] at h1
      exact ⟨i, z, rfl, hz, h2, h3, h1⟩
theorem AllTy.push {X W W' : World} {B bt gF capF tc : Nat} {ts : List T} {ta : Option Addr} {cs : Array Value} {C : Nat → Nat → Value} (hbox : W.heap[X.heap.size]? = some (.cells #[.string ⟨#[97]⟩, .slice ta ts.length tc] 43 (0, 0))) (ho : W.ownsRow (X.heap.size + 1) 52 3 (.slice ta ts.length tc) ts.length (flat3 C ts.length)) (h2 : ∀ i, i < ts.length → TRep W (Off (· < B) (X.heap.size + 1) W (.slice ta ts.length tc)) (tth ts i) (.agg #[C i 0, C i 1, C i 2]))
    (hbX : Below X.heap.size X W) (hs : X.heap.size + 1 ≤ W.heap.size) (hne : (Value.slice ta ts.length tc).ownBlock ≠ some bt) (htb : W.heap[bt]? = some (.cells cs 52 (0, 0))) (hxb : X.heap.size < bt) (hbl : bt < W.heap.size) (hB : B ≤ X.heap.size) (t : T) (d0 d1 d2 : Value) (ht : TRep W (Off (· < B) (X.heap.size + 1) W (.slice ta ts.length tc)) t (.agg #[d0, d1, d2]))
    (oF : W'.ownsRow (X.heap.size + 1) 52 3 (.slice (some ⟨gF, 0, none⟩) (ts.length + 1) capF) (ts.length + 1) (flat3 C ts.length ++ [d0, d1, d2])) (hg : W.grownBy W' (Value.slice ta ts.length tc).ownBlock) (hob : (Value.slice (some ⟨gF, 0, none⟩) (ts.length + 1) capF).ownBlock = (Value.slice ta ts.length tc).ownBlock ∨ (Value.slice (some ⟨gF, 0, none⟩) (ts.length + 1) capF).ownBlock = some W.heap.size) :
    AllTy X B (ts ++ [t]) bt cs (W'.setCell ⟨X.heap.size, 1, none⟩ (.slice (some ⟨gF, 0, none⟩) (ts.length + 1) capF)) := by
  have hlt := ho.lt
  have hk : ∀ b, b < W.heap.size → (Value.slice ta ts.length tc).ownBlock ≠ some b → W'.heap[b]? = W.heap[b]? := fun b hb hn => hg.block b hb (fun e => hn e.symm)
  have hT := TyRow.push (w' := W') (v' := .slice (some ⟨gF, 0, none⟩) (ts.length + 1) capF) h2 (fun b hq => by have : b < B := hq; omega) (fun b hq => by have : b < B := hq; omega) t d0 d1 d2 ht oF hk hg.size (fun b e => by
    rcases hob with h | h
    · exact Or.inl (h.symm.trans e)
    · rw [h] at e
      exact Or.inr (Nat.le_of_eq (Option.some.inj e))) (fun b e => (hlt b e).1)
  have hx0 : W'.heap[X.heap.size]? = some (.cells #[.string ⟨#[97]⟩, .slice ta ts.length tc] 43 (0, 0)) := (hk _ (by omega) (fun e => by have := (hlt _ e).1; omega)).trans hbox
  have hl1 : (ts ++ [t]).length = ts.length + 1 := by simp
  refine ⟨some ⟨gF, 0, none⟩, capF, ?_, ?_, ?_, ?_, ?_, ?_, hxb, ?_⟩
  · rw [hl1]
    exact set_box hx0 1 _
  · rw [hl1]
    refine hT.keepB (fun b hq => Below.heap_setCell _ _ _ _ ?_) (by simp)
    rcases hq with h | h
    · have : b < B := h
      show b ≠ X.heap.size
      omega
    · show b ≠ X.heap.size
      omega
  · exact (hbX.grown hg (by omega) (fun k e => by have := (hlt k e).1; omega)).setCell (Nat.le_refl _) _
  · have := hg.size
    simp
    omega
  · intro e
    rcases hob with h | h
    · exact hne (h.symm.trans e)
    · have e2 : some W.heap.size = some bt := h.symm.trans e
      have := Option.some.inj e2
      omega
  · refine (Below.heap_setCell _ _ _ _ ?_).trans ((hk bt hbl hne).trans htb)
    show bt ≠ X.heap.size
    omega
  · have := hg.size
    simp
    omega
end Go.Proofs.YtokmgbidmnanpaaGreatDoor
namespace Go.Proofs.YtokmgbidmnanpaaGreatDoor
open Go.RowKit Go.Maps
theorem badAt_le (p : Pt) : ∀ n k i, k ≤ i → i < k + n → typeCode p i ≠ 0 → badAt p k n ≤ i
  | 0, k, i, h1, h2, h3 => by omega
  | n + 1, k, i, h1, h2, h3 => by
    rw [badAt]
    by_cases e : typeCode p k = 0
    · rw [if_pos e]
      have : k ≠ i := fun h => h3 (h ▸ e)
      exact badAt_le p n (k + 1) i (by omega) (by omega) h3
    · rw [if_neg e]; exact h1
theorem okP_all {p : Pt} (h : okP p = true) {i : Nat} (hi : i < p.types.length) : typeCode p i = 0 := by
  by_cases e : typeCode p i = 0
  · exact e
  · have := badAt_le p p.types.length 0 i (Nat.zero_le _) (by omega) e
    have h4 : ¬ badT p < p.types.length := fun hc => by simp [okP, hc] at h
    unfold badT at h4
    omega
theorem okP_zero {p : Pt} (h : okP p = true) : 0 < p.types.length ∧ p.types.length ≤ 5 := by
  simp [okP, hasRootB] at h
  omega
theorem code_names {p : Pt} {i : Nat} (h : typeCode p i = 0) : 0 < (tth p.types i).fields.length ∧ (tth p.types i).fields.length ≤ 8 ∧ twiceB p.types i (tth p.types i) = false := by
  unfold typeCode at h
  by_cases a : typeNamesB (tth p.types i) = false
  · rw [if_pos a] at h; omega
  rw [if_neg a] at h
  by_cases b : twiceB p.types i (tth p.types i) = true
  · rw [if_pos b] at h; omega
  simp [typeNamesB] at a
  exact ⟨by omega, by omega, by simpa using b⟩
end Go.Proofs.YtokmgbidmnanpaaGreatDoor
namespace Go.Proofs.YtokmgbidmnanpaaGreatDoor
open Go.RowKit Go.Shelf Go.Maps
set_option maxHeartbeats 1600000 in
theorem spoil_nil (d : Nat) (w : World) (rb cb q0 : Nat) (a : Option Addr) (c : Nat) (hR : RdOk w rb cb q0) (hq : q0 ≤ 100000) :
    Calls Tryz.prog 62 #[.pointer (some ⟨rb, 0, none⟩), .slice a 0 c] w (SpSEnd w rb cb q0 d) := by
  have HC : Hid (Calls Tryz.prog 59 #[.slice a 0 c] w fun e w' => RowA w [] e w') := hid_of (l3Copy_rowA 0 [] w (fun _ => False) a c rfl (by simp [cntTo]) ⟨by simp, fun _ _ => .bool false, fun hn => by simp at hn, fun i hi => by simp at hi⟩ (fun b hb => hb.elim))
  have hrl := hR.lt
  have HR := hid_of hR
  clear hR
  go_enter Tryz.func62, Tryz.ntmps62
  go_upto_region 3 with (
    go_at_call 59
    refine HC.out.mono ?_
    rintro e w1 ⟨es, v, rfl, hm, hr, -, hn, -, b1⟩
    obtain rfl : es = [] := by simpa using hm
    obtain ⟨g, cap, rfl⟩ := hr.form hn
    simp only [List.length_nil])
  have HR1 := hid_of (HR.out.only (Only.of_below (fun _ => False) b1) id id)
  have hz1 := b1.size
  have HOF : Hid (Calls Tryz.prog 57 #[.pointer (some ⟨rb, 0, none⟩), .slice (some ⟨w1.heap.size, 0, none⟩) 4 4] (w1.alloc (.cells #[.string ⟨#[117, 115, 101, 114, 115]⟩, .string ⟨#[120]⟩, .string ⟨#[65]⟩, .string ⟨#[]⟩] 9)) fun e w' => ∃ s : ByteArray, e = .returned (.string s) ∧ s.size ≤ 12 ∧ RdOk w' rb cb (q0 + 1) ∧ Only (· = rb) (w1.alloc (.cells #[.string ⟨#[117, 115, 101, 114, 115]⟩, .string ⟨#[120]⟩, .string ⟨#[65]⟩, .string ⟨#[]⟩] 9)) w') := hid_of (of_block _ rb cb q0 w1.heap.size (HR1.out.only (Only.of_below (fun _ => False) (below_box _ _)) id id) hq [⟨#[117, 115, 101, 114, 115]⟩, ⟨#[120]⟩, ⟨#[65]⟩, ⟨#[]⟩] (by simp) (by simp) (by intro s hs; simp at hs; rcases hs with rfl | rfl | rfl | rfl <;> decide) (block_new _ _ rfl) (by omega))
  go_wp2_with (
    go_at_call 57
    refine HOF.out.mono ?_
    rintro e w2 ⟨s, rfl, hs, r2, o2⟩)
  go_ret
  have bA := below_box w1 (.cells #[.string ⟨#[117, 115, 101, 114, 115]⟩, .string ⟨#[120]⟩, .string ⟨#[65]⟩, .string ⟨#[]⟩] 9)
  have bB := below_box w2 (.cells #[.string ⟨#[]⟩, .string s, .bool false, .int .i64 0, .slice none 0 0] 56)
  have o3 : Only (· = rb) w w2 := ((Only.of_below (· = rb) b1).trans (Only.of_below (· = rb) bA) fun _ _ q => q).trans o2 fun _ _ q => q
  exact ⟨[⟨⟨#[]⟩, s, false, 0, []⟩], some ⟨w2.heap.size, 0, none⟩, _, q0 + 1, rfl, SA.one o3.size (block_new _ _ rfl) (by omega), r2.only (Only.of_below (fun _ => False) bB) id id, by omega, o3.trans (Only.of_below (· = rb) bB) (fun _ _ q => q), by simp, fun x hx => by
    rw [List.mem_singleton.1 hx]
    exact ⟨by show (⟨#[]⟩ : ByteArray).size ≤ _; decide, by show s.size ≤ _; omega, Tr.nil 4 d⟩⟩
set_option maxRecDepth 20000 in
set_option maxHeartbeats 3200000 in
theorem l11SpoilSels_any : ∀ (d : Nat), d ≤ 6 → ∀ (ks : List Se) (w : World) (rb cb q0 : Nat) (P : Nat → Prop) (a : Option Addr) (c : Nat), RdOk w rb cb q0 → q0 + 3 * (d + 1) ≤ 100000 → Tr 3 d ks → SeReps w P ks a → (∀ b, P b → b < w.heap.size ∧ b ≠ rb) →
    Calls Tryz.prog 62 #[.pointer (some ⟨rb, 0, none⟩), .slice a ks.length c] w (SpSEnd w rb cb q0 d) := by
  intro d
  induction d with
  | zero =>
    intro hd ks w rb cb q0 P a c hR hq hT hS hP
    have e : ks = [] := hT
    subst e
    exact spoil_nil 0 w rb cb q0 a c hR (by omega)
  | succ d IH =>
    intro hd ks w rb cb q0 P a c hR hq hT hS hP
    by_cases hk0 : ks.length = 0
    · obtain rfl := List.length_eq_zero_iff.1 hk0
      exact spoil_nil (d + 1) w rb cb q0 a c hR (by omega)
    have hcn : cntTo (d + 1) ks ks.length ≤ 1000000 := by
      have h1 := hT.cnt (d + 1)
      have h2 := trN_mono 3 hd
      have h3 : trN 3 6 = 1092 := by decide
      omega
    have HC := hid_of (l3Copy_rowA (d + 1) ks w P a c hT.fit hcn hS (fun b hb => (hP b hb).1))
    have HT := hid_of hT
    have HR := hid_of hR
    have hl3 := hT.1
    have HIH : Hid _ := hid_of (IH (by omega))
    clear IH hS hP hcn hR hT
    go_enter Tryz.func62, Tryz.ntmps62
    go_upto_if 11 with (
      go_at_call 59
      refine HC.out.mono ?_
      rintro e w1 h1
      obtain ⟨es, g, cap, rfl, hel, hX, hKT⟩ := h1.start HR.out HT.out
      have hle : es.length ≤ 3 := by omega
      have hl0 : ¬ (es.length : Int) = 0 := by omega
      have hlp : 0 < es.length := by omega
      clear hel)
    have HX := hid_of hX
    have HKT := hid_of hKT
    clear hX hKT HC hk0
    have HPK := hid_of (pick_any w1 rb cb q0 es.length HX.out.rd (by omega) (by omega) (by omega))
    go_upto_region 5 with (
      go_at_call 56
      refine HPK.out.mono ?_
      rintro e w2 ⟨k, rfl, hk, r2, o2, z2⟩)
    have HX2 := hid_of (HX.out.move r2 o2)
    clear HPK r2 o2 HX z2
    have hk' : k < es.length := by omega
    have HPK7 := hid_of (pick_any w2 rb cb (q0 + 1) 7 HX2.out.rd (by omega) (by omega) (by omega))
    go_upto_region 7 with (
      go_at_call 56
      refine HPK7.out.mono ?_
      rintro e w3 ⟨y, rfl, hy, r3, o3, z3⟩)
    have HX3 := hid_of (HX2.out.move r3 o3)
    clear HPK7 r3 o3 HX2 z3
    have hki : (k : Int) < (es.length : Int) := by omega
    have hk0i : ¬ (k : Int) < 0 := by omega
    have hyc : y = 0 ∨ y = 1 ∨ y = 2 ∨ y = 3 ∨ y = 4 ∨ y = 5 ∨ y = 6 := by omega
    clear hy hk
    obtain ⟨x, hx⟩ : ∃ x, x = es[k] := ⟨_, rfl⟩
    have HXE := hid_of hx
    clear hx
    have HCL : Hid (∀ W q, XS w rb cb (d + 1) q es g cap W → Cells5 W g (k * 5) x.s x.ka x.kc ∧ ∀ j, W.frozen? ⟨g, j, none⟩ = false) := hid_of fun W q h => by
      obtain ⟨h1, -, -, h4⟩ := h.cells k hk'
      rw [← HXE.out] at h1
      exact ⟨h1, h4⟩
    have HKD : Hid (∀ W q, XS w rb cb (d + 1) q es g cap W → SeReps W x.Q x.s.kids x.ka ∧ (∀ b, x.Q b → b < W.heap.size ∧ b ≠ g ∧ w.heap.size ≤ b ∧ Apart W b) ∧ x.s.al.size ≤ 1048576 ∧ x.s.name.size ≤ 1048576 ∧ Tr 4 (d + 1) x.s.kids) := hid_of fun W q h => by
      have h1 := h.kid k hk'
      rw [← HXE.out] at h1
      exact h1
    have HEND : Hid (∀ W q j v (e' : El), XS w rb cb (d + 1) q es g cap W → q ≤ q0 + 3 * (d + 1 + 1) → j < 5 → e'.cells = x.cells.set j v → SeReps W e'.Q e'.s.kids e'.ka → (∀ b, e'.Q b → b < W.heap.size ∧ b ≠ g ∧ w.heap.size ≤ b ∧ Apart W b) → (e'.s.al.size ≤ 1048576 ∧ e'.s.name.size ≤ 1048576 ∧ Tr 4 (d + 1) e'.s.kids) → SpSEnd w rb cb q0 (d + 1) (.returned (.slice (some ⟨g, 0, none⟩) es.length cap)) (W.setCell ⟨g, k * 5 + j, none⟩ v)) := hid_of fun W q j v e' h hq2 hj he hO hQ hs => by
      rw [HXE.out] at he
      have h2 := (h.put k hk' j hj v e' he hO hQ hs).fin (q0 := q0) (by simp; omega) hq2
      simpa using h2
    rcases hyc with rfl | rfl | rfl | rfl | rfl | rfl | rfl
    · -- another name
      have HOF : Hid (Calls Tryz.prog 57 #[.pointer (some ⟨rb, 0, none⟩), .slice (some ⟨w3.heap.size, 0, none⟩) 5 5] (w3.alloc (.cells #[.string ⟨#[110, 97, 109, 101]⟩, .string ⟨#[122, 122]⟩, .string ⟨#[102, 97, 114]⟩, .string ⟨#[95, 105, 100]⟩, .string ⟨#[]⟩] 9)) fun e w' => ∃ s : ByteArray, e = .returned (.string s) ∧ s.size ≤ 12 ∧ RdOk w' rb cb (q0 + 1 + 1 + 1) ∧ Only (· = rb) (w3.alloc (.cells #[.string ⟨#[110, 97, 109, 101]⟩, .string ⟨#[122, 122]⟩, .string ⟨#[102, 97, 114]⟩, .string ⟨#[95, 105, 100]⟩, .string ⟨#[]⟩] 9)) w') := hid_of (of_block _ rb cb (q0 + 1 + 1) w3.heap.size (HX3.out.rd.only (Only.of_below (fun _ => False) (below_box _ _)) id id) (by omega) [⟨#[110, 97, 109, 101]⟩, ⟨#[122, 122]⟩, ⟨#[102, 97, 114]⟩, ⟨#[95, 105, 100]⟩, ⟨#[]⟩] (by simp) (by simp) (by intro s hs; simp at hs; rcases hs with rfl | rfl | rfl | rfl | rfl <;> decide) (block_new _ _ rfl) (by have := HX3.out.rd.lt.1; omega))
      have HX4 := hid_of (HX3.out.below (below_box w3 (.cells #[.string ⟨#[110, 97, 109, 101]⟩, .string ⟨#[122, 122]⟩, .string ⟨#[102, 97, 114]⟩, .string ⟨#[95, 105, 100]⟩, .string ⟨#[]⟩] 9)))
      go_wp2_with (
        go_at_call 57
        refine HOF.out.mono ?_
        rintro e w4 ⟨s, rfl, hs, r4, o4⟩
        have HX5 := hid_of (HX4.out.move r4 o4)
        obtain ⟨⟨-, c1, -, -, -⟩, hfz⟩ := HCL.out w4 _ HX5.out
        have f1 := hfz (k * 5 + 1))
      go_ret
      obtain ⟨hO, hQ, hz1, hz2, hz3⟩ := HKD.out w4 _ HX5.out
      exact HEND.out w4 _ 1 (.string s) ⟨.mk x.s.al s x.s.one x.s.id x.s.kids, x.ka, x.kc, x.Q⟩ HX5.out (by omega) (by omega) rfl hO hQ ⟨hz1, by show s.size ≤ _; omega, hz3⟩
    · -- another answer's name
      obtain ⟨hO, hQ, hz1, hz2, hz3⟩ := HKD.out w3 _ HX3.out
      obtain ⟨⟨-, n1, -, -, -⟩, -⟩ := HCL.out w3 _ HX3.out
      have HOF : Hid (Calls Tryz.prog 57 #[.pointer (some ⟨rb, 0, none⟩), .slice (some ⟨w3.heap.size, 0, none⟩) 3 3] (w3.alloc (.cells #[.string ⟨#[97]⟩, .string ⟨#[95, 97]⟩, .string x.s.name] 9)) fun e w' => ∃ s : ByteArray, e = .returned (.string s) ∧ s.size ≤ 1048576 ∧ RdOk w' rb cb (q0 + 1 + 1 + 1) ∧ Only (· = rb) (w3.alloc (.cells #[.string ⟨#[97]⟩, .string ⟨#[95, 97]⟩, .string x.s.name] 9)) w') := hid_of (of_blockG _ rb cb (q0 + 1 + 1) w3.heap.size 1048576 (by unfold maxLen; omega) (HX3.out.rd.only (Only.of_below (fun _ => False) (below_box _ _)) id id) (by omega) [⟨#[97]⟩, ⟨#[95, 97]⟩, x.s.name] (by simp) (by simp) (by intro s hs; simp at hs; rcases hs with rfl | rfl | rfl; (decide); (decide); exact hz2) (block_new _ _ rfl) (by have := HX3.out.rd.lt.1; omega))
      clear hO hQ hz1 hz2 hz3
      have HX4 := hid_of (HX3.out.below (below_box w3 (.cells #[.string ⟨#[97]⟩, .string ⟨#[95, 97]⟩, .string x.s.name] 9)))
      go_wp2_with (
        go_at_call 57
        refine HOF.out.mono ?_
        rintro e w4 ⟨s, rfl, hs, r4, o4⟩
        have HX5 := hid_of (HX4.out.move r4 o4)
        obtain ⟨⟨c0, -, -, -, -⟩, hfz⟩ := HCL.out w4 _ HX5.out
        have f1 := hfz (k * 5))
      go_ret
      obtain ⟨hO, hQ, hz1, hz2, hz3⟩ := HKD.out w4 _ HX5.out
      exact HEND.out w4 _ 0 (.string s) ⟨.mk s x.s.name x.s.one x.s.id x.s.kids, x.ka, x.kc, x.Q⟩ HX5.out (by omega) (by omega) rfl hO hQ ⟨hs, hz2, hz3⟩
    · -- one or many
      obtain ⟨⟨-, -, c2, -, -⟩, hfz⟩ := HCL.out w3 _ HX3.out
      have f2 := hfz (k * 5 + 2)
      clear hfz
      go_wp2_with fail
      go_ret
      obtain ⟨hO, hQ, hz1, hz2, hz3⟩ := HKD.out w3 _ HX3.out
      exact HEND.out w3 _ 2 _ ⟨.mk x.s.al x.s.name (!x.s.one) x.s.id x.s.kids, x.ka, x.kc, x.Q⟩ HX3.out (by omega) (by omega) rfl hO hQ ⟨hz1, hz2, hz3⟩
    · -- another id
      have bA := below_box w3 (.cells #[.int .i64 (-1), .int .i64 999999, .int .i64 1000000] 3)
      have nA := block_new (w := w3) (N := w3.heap.size) #[.int .i64 (-1), .int .i64 999999, .int .i64 1000000] 3 rfl
      have HX4 := hid_of (HX3.out.below bA)
      have zA : w3.heap.size < (w3.alloc (.cells #[.int .i64 (-1), .int .i64 999999, .int .i64 1000000] 3)).heap.size := by simp
      have HIN : Hid (∀ W, Only (· = rb) (w3.alloc (.cells #[.int .i64 (-1), .int .i64 999999, .int .i64 1000000] 3)) W → ∀ y, y < 3 → ∃ v : Int, W.cell? ⟨w3.heap.size, y, none⟩ = some (.int .i64 v)) := hid_of fun W hW y hy => by
        have h := (hW.block w3.heap.size zA (by have := HX3.out.rd.lt.1; omega)).trans nA
        have hc : y = 0 ∨ y = 1 ∨ y = 2 := by omega
        rcases hc with rfl | rfl | rfl
        · exact ⟨_, (box_at h 0 (by simp)).1⟩
        · exact ⟨_, (box_at h 1 (by simp)).1⟩
        · exact ⟨_, (box_at h 2 (by simp)).1⟩
      have HPK3 := hid_of (pick_any _ rb cb (q0 + 1 + 1) 3 HX4.out.rd (by omega) (by omega) (by omega))
      clear bA nA zA
      go_wp2_with (
        go_at_call 56
        refine HPK3.out.mono ?_
        rintro e w4 ⟨y, rfl, hy, r4, o4, z4⟩
        have HX5 := hid_of (HX4.out.move r4 o4)
        have hy3 : y < 3 := by omega
        have hyi : (y : Int) < 3 := by omega
        obtain ⟨iv, hiv⟩ := HIN.out w4 o4 y hy3
        obtain ⟨⟨-, -, -, c3, -⟩, hfz⟩ := HCL.out w4 _ HX5.out
        have f3 := hfz (k * 5 + 3)
        clear hfz z4 r4 o4 hy)
      go_ret
      obtain ⟨hO, hQ, hz1, hz2, hz3⟩ := HKD.out w4 _ HX5.out
      exact HEND.out w4 _ 3 (.int .i64 iv) ⟨.mk x.s.al x.s.name x.s.one iv x.s.kids, x.ka, x.kc, x.Q⟩ HX5.out (by omega) (by omega) rfl hO hQ ⟨hz1, hz2, hz3⟩
    · -- no kids
      have HX4 := hid_of (HX3.out.below (below_box w3 (.cells #[] 56)))
      obtain ⟨⟨-, -, -, -, c4⟩, hfz⟩ := HCL.out _ _ HX4.out
      have f4 := hfz (k * 5 + 4)
      clear hfz
      go_wp2_with fail
      go_ret
      obtain ⟨hO, hQ, hz1, hz2, hz3⟩ := HKD.out _ _ HX4.out
      exact HEND.out _ _ 4 _ ⟨.mk x.s.al x.s.name x.s.one x.s.id [], some ⟨w3.heap.size, 0, none⟩, 0, fun _ => False⟩ HX4.out (by omega) (by omega) rfl ⟨by simp, fun _ _ => .bool false, fun hn => by simp at hn, fun i hi => by simp at hi⟩ (fun b hb => hb.elim) ⟨hz1, hz2, Tr.nil 4 _⟩
    · -- a field once more
      obtain ⟨i0, hi0, hz0, hz1, hz2⟩ := info_parts info_Sel
      have hrow := HX3.out.row.row
      obtain ⟨⟨c0, c1, c2, c3, c4⟩, -⟩ := HCL.out w3 _ HX3.out
      have hpl : w.heap.size ≤ w3.heap.size := HX3.out.only.size
      go_wp2_with (
        at_builtin
        refine wpList_append_own_at _ rfl _ _ 23 rfl w.heap.size 56 i0 zeroSe 5 72 Tryz.underlying23 hi0 hz0 hz1 hz2 rfl (by decide) _ es.length _ rfl (hrow.alloc _) ⟨w3.heap.size, 0, none⟩ 1 1 [.string x.s.al, .string x.s.name, .bool x.s.one, .int .i64 x.s.id, .slice x.ka x.s.kids.length x.kc] rfl rfl (World.news_of_block (heap_alloc_new w3 _)) (by intro u hu; simp at hu; rcases hu with rfl | rfl | rfl | rfl | rfl <;> rfl) (by unfold maxLen; omega) (by omega) (by simp; omega) ?_
        intro v' w7 hown hgrow hnn hob
        refine Hid.out ?_)
      refine hid_of ?_
      have HX4 := hid_of (HX3.out.below (below_box w3 (.cells #[.string x.s.al, .string x.s.name, .bool x.s.one, .int .i64 x.s.id, .slice x.ka x.s.kids.length x.kc] 56)))
      obtain ⟨hO, hQ, hy⟩ := HKD.out _ _ HX4.out
      obtain ⟨g7, cap7, rfl, hX7⟩ := HX4.out.push x rfl hown hgrow hob hO hQ hy
      have HFIN := hid_of (hX7.fin (q0 := q0) (by simp; omega) (by omega))
      rw [List.length_append, List.length_singleton] at HFIN
      clear hown hgrow hnn hob hO hQ hy hX7
      go_wp2_with fail
      go_ret
      exact HFIN.out
    · -- the kids spoilt
      obtain ⟨hO, hQ, hz1, hz2, hz3⟩ := HKD.out w3 _ HX3.out
      have hkt := HKT.out k hk'
      rw [← HXE.out] at hkt
      have HREC := hid_of (HIH.out x.s.kids w3 rb cb (q0 + 1 + 1) x.Q x.ka x.kc HX3.out.rd (by omega) hkt hO (fun b hb => ⟨(hQ b hb).1, by have := HX3.out.rlt; have := (hQ b hb).2.2.1; omega⟩))
      obtain ⟨⟨-, -, -, -, c4⟩, -⟩ := HCL.out w3 _ HX3.out
      have HGL := hid_of ((HX3.out.row.row.lt g rfl).2)
      clear hO hQ hz1 hz2 hz3 hkt
      go_wp2_with (
        go_at_call 62
        refine HREC.out.mono ?_
        rintro e w4 ⟨ks', a', c', q', rfl, hSA, r4, hq4, o4, hT4⟩
        have HX5 := hid_of (HX3.out.move r4 o4)
        have HSA := hid_of hSA
        obtain ⟨⟨-, -, -, -, d4⟩, hfz⟩ := HCL.out w4 _ HX5.out
        have f4 := hfz (k * 5 + 4)
        clear hfz hSA r4 o4)
      go_ret
      obtain ⟨hO, hQ, hz1, hz2, hz3⟩ := HKD.out w4 _ HX5.out
      exact HEND.out w4 q' 4 (.slice a' ks'.length c') ⟨.mk x.s.al x.s.name x.s.one x.s.id ks', a', c', fun b => w3.heap.size ≤ b ∧ b < w4.heap.size ∧ Apart w4 b⟩ HX5.out (by omega) (by omega) rfl HSA.out (fun b hb => ⟨hb.2.1, by have := HGL.out; omega, by have := HX3.out.only.size; omega, hb.2.2⟩) ⟨hz1, hz2, hT4⟩
end Go.Proofs.YtokmgbidmnanpaaGreatDoor
