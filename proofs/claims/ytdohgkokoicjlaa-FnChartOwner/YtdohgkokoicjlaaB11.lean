import Derived.Test.YtdohgkokoicjlaaB6
import Derived.Test.YtdohgkokoicjlaaB9
import Derived.Test.YtdohgkokoicjlaaB2
import Derived.Deep.AppendLies
set_option linter.unusedSimpArgs false
set_option linter.unusedVariables false
namespace Go.Proofs.Ytdohgkokoicjlaa
open Go.RowKit Go.Maps
theorem hid_of {q : Prop} (h : q) : Hid q := h
theorem block_new {w : World} {N : Nat} (c : Array Value) (T : TypeId) (h : w.heap.size = N) : (w.alloc (.cells c T)).heap[N]? = some (.cells c T (0, 0)) := by subst h; exact heap_alloc_new w _
theorem set_box {w : World} {N : Nat} {cs : Array Value} {T : TypeId} (h : w.heap[N]? = some (.cells cs T (0, 0))) (i : Nat) (d : Value) : (w.setCell ⟨N, i, none⟩ d).heap[N]? = some (.cells (cs.setIfInBounds i d) T (0, 0)) := by
  show (w.heap.modify N _)[N]? = _
  rw [Array.getElem?_modify]
  simp [h]
structure Only (O : Nat → Prop) (w w' : World) : Prop where
  os : w'.os = w.os
  tape : w'.tape = w.tape
  output : w'.output = w.output
  size : w.heap.size ≤ w'.heap.size
  block : ∀ b, b < w.heap.size → ¬ O b → w'.heap[b]? = w.heap[b]?
theorem Only.refl (O : Nat → Prop) (w : World) : Only O w w := ⟨rfl, rfl, rfl, Nat.le_refl _, fun _ _ _ => rfl⟩
theorem Only.trans {O O' : Nat → Prop} {a b c : World} (h : Only O a b) (k : Only O' b c) (hO : ∀ x, x < a.heap.size → O' x → O x) : Only O a c :=
  ⟨k.os.trans h.os, k.tape.trans h.tape, k.output.trans h.output, Nat.le_trans h.size k.size, fun x hx hn => (k.block x (Nat.lt_of_lt_of_le hx h.size) fun q => hn (hO x hx q)).trans (h.block x hx hn)⟩
theorem Only.of_below {w w' : World} (O : Nat → Prop) (h : Below w.heap.size w w') : Only O w w' := ⟨h.os, h.tape, h.output, h.size, fun b hb _ => h.block b hb⟩
theorem Only.below {O : Nat → Prop} {w w' : World} {B : Nat} (h : Only O w w') (hB : B ≤ w.heap.size) (hO : ∀ b, b < B → ¬ O b) : Below B w w' := ⟨h.os, h.tape, h.output, h.size, fun b hb => h.block b (Nat.lt_of_lt_of_le hb hB) (hO b hb)⟩
theorem Only.imp {O O' : Nat → Prop} {w w' : World} (h : Only O w w') (hO : ∀ b, b < w.heap.size → O b → O' b) : Only O' w w' := ⟨h.os, h.tape, h.output, h.size, fun b hb hn => h.block b hb fun q => hn (hO b hb q)⟩
theorem Only.set {O : Nat → Prop} {a w : World} (h : Only O a w) (N i : Nat) (hN : O N ∨ a.heap.size ≤ N) (v : Value) : Only O a (w.setCell ⟨N, i, none⟩ v) :=
  ⟨h.os, h.tape, h.output, by rw [size_set]; exact h.size, fun b hb hn => (Below.heap_setCell _ _ _ _ (fun e => by subst e; rcases hN with q | q; exact hn q; omega)).trans (h.block b hb hn)⟩
theorem Only.alloc {O : Nat → Prop} {a w : World} (h : Only O a w) (o : Obj) : Only O a (w.alloc o) := h.trans (Only.of_below O (below_box w o)) fun _ _ q => q
theorem Only.grown {O : Nat → Prop} {a w w' : World} {row : Option Nat} (h : Only O a w) (hg : w.grownBy w' row) (hr : ∀ k, row = some k → O k ∨ a.heap.size ≤ k) : Only O a w' :=
  ⟨hg.os.trans h.os, hg.tape.trans h.tape, hg.output.trans h.output, Nat.le_trans h.size hg.size, fun b hb hn => (hg.block b (Nat.lt_of_lt_of_le hb h.size) (fun e => by rcases hr b e.symm with q | q; exact hn q; omega)).trans (h.block b hb hn)⟩
def RdOk (w : World) (rb cb q : Nat) : Prop := ∃ (p n bc : Nat) (ba : Option Addr) (off : Nat), p ≤ q ∧ n ≤ 2000 ∧ rb ≠ cb ∧ w.heap[rb]? = some (.cells #[.slice ba n bc, .int .i64 p] 71 (0, 0)) ∧ cb < w.heap.size ∧ (0 < n → ba = some ⟨cb, off, none⟩) ∧ ∀ i, i < n → ∃ x : Nat, x < 256 ∧ w.cell? ⟨cb, off + i, none⟩ = some (.int .u8 x)
theorem RdOk.keep {w w' : World} {rb cb q : Nat} (h : RdOk w rb cb q) (h1 : w'.heap[rb]? = w.heap[rb]?) (h2 : w'.heap[cb]? = w.heap[cb]?) (hs : w.heap.size ≤ w'.heap.size) : RdOk w' rb cb q := by
  obtain ⟨p, n, bc, ba, off, a1, a2, a3, a4, a5, a6, a7⟩ := h
  exact ⟨p, n, bc, ba, off, a1, a2, a3, h1.trans a4, by omega, a6, fun i hi => by obtain ⟨x, hx, hc⟩ := a7 i hi; exact ⟨x, hx, (World.cell?_of_block (a := ⟨cb, off + i, none⟩) h2).trans hc⟩⟩
theorem RdOk.lt {w : World} {rb cb q : Nat} (h : RdOk w rb cb q) : rb < w.heap.size ∧ cb < w.heap.size ∧ rb ≠ cb := by
  obtain ⟨p, n, bc, ba, off, a1, a2, a3, a4, a5, a6, a7⟩ := h
  exact ⟨(Array.getElem?_eq_some_iff.1 a4).1, a5, a3⟩
theorem RdOk.only {O : Nat → Prop} {w w' : World} {rb cb q : Nat} (h : RdOk w rb cb q) (ho : Only O w w') (h1 : ¬ O rb) (h2 : ¬ O cb) : RdOk w' rb cb q :=
  h.keep (ho.block _ h.lt.1 h1) (ho.block _ h.lt.2.1 h2) ho.size
theorem RdOk.le {w : World} {rb cb q q' : Nat} (h : RdOk w rb cb q) (hq : q ≤ q') : RdOk w rb cb q' := by
  obtain ⟨p, n, bc, ba, off, a1, a⟩ := h
  exact ⟨p, n, bc, ba, off, by omega, a⟩
end Go.Proofs.Ytdohgkokoicjlaa
namespace Go.Proofs.Ytdohgkokoicjlaa
open Go.RowKit Go.Maps
def Hot (σ : Sh) (b : Nat) : Prop := ∃ T n, σ b = some (T, n) ∧ T ≠ 9
theorem Hot.old {σ σ' : Sh} {N : Nat} (h : ∀ b, b < N → σ' b = σ b) : ∀ b, b < N → Hot σ' b → Hot σ b := fun b hb ⟨T, n, h1, h2⟩ => ⟨T, n, by rw [← h b hb]; exact h1, h2⟩
def SmF (nn : Nat) (f : F) : Prop := f.name.size ≤ 12 ∧ f.of.size ≤ 12 ∧ f.needs.length ≤ nn ∧ ∀ i, (nth f.needs i).size ≤ 12
def SmT (nf nn : Nat) (t : T) : Prop := t.name.size ≤ 12 ∧ t.key.size ≤ 12 ∧ t.fields.length ≤ nf ∧ ∀ i, SmF nn (fth t.fields i)
theorem SmF.zero (nn : Nat) : SmF nn F.zero := ⟨by decide, by decide, Nat.zero_le _, fun i => by simp [F.zero, nth]⟩
theorem SmT.zero (nf nn : Nat) : SmT nf nn T.zero := ⟨by decide, by decide, Nat.zero_le _, fun i => by simpa [T.zero, fth] using SmF.zero nn⟩
theorem Wf.strs {w : World} {σ : Sh} {B : Bd} (h : Wf w σ B) {v : Value} {N : Nat} (hv : SlOk σ 9 N v) : ∃ (a : Option Addr) (c : Nat) (ns : List ByteArray), v = .slice a ns.length c ∧ Strs w (· < w.heap.size) ns a ∧ ns.length ≤ c ∧ ns.length ≤ N ∧ (∀ i, (nth ns i).size ≤ 12) := by
  obtain ⟨a, len, cap, rfl, h1, h2, h3, h4⟩ := hv
  rcases h4 with ⟨rfl, rfl, rfl⟩ | ⟨b, rfl, hb⟩
  · exact ⟨none, 0, [], rfl, ⟨fun h => absurd rfl h, fun i => by simp [nth], by simp [maxLen]⟩, by simp, by simp, fun i => by simp [nth]⟩
  · have hall : ∀ i, i < len → ∃ s : ByteArray, w.cell? ⟨b, i, none⟩ = some (.string s) ∧ s.size ≤ 12 := fun i hi => by
      obtain ⟨v, hc, ho, -⟩ := h.cell hb i 0 (by omega) (by rw [wideS]; omega)
      rw [wideS, Nat.mul_one, Nat.add_zero] at hc
      obtain ⟨s, rfl, hs⟩ : StOk v := by simpa [CellOk] using ho
      exact ⟨s, hc, hs⟩
    let f : Fin len → ByteArray := fun i => Classical.choose (hall i.val i.isLt)
    have hf : ∀ i : Fin len, w.cell? ⟨b, i.val, none⟩ = some (.string (f i)) ∧ (f i).size ≤ 12 := fun i => Classical.choose_spec (hall i.val i.isLt)
    have hn : ∀ i (hi : i < len), nth (List.ofFn f) i = f ⟨i, hi⟩ := fun i hi => by simp [nth, List.getD_eq_getElem?_getD, hi]
    have hs12 : ∀ i, (nth (List.ofFn f) i).size ≤ 12 := fun i => by
      by_cases hi : i < len
      · rw [hn i hi]; exact (hf ⟨i, hi⟩).2
      · simp [nth, List.getD_eq_getElem?_getD, hi]
    refine ⟨some ⟨b, 0, none⟩, cap, List.ofFn f, by simp, ⟨fun _ => ⟨b, 0, rfl, h.lt hb, fun i hi => ?_⟩, fun i => by have := hs12 i; unfold maxLen; omega, by simp; omega⟩, by simpa using h2, by simpa using h1, hs12⟩
    have hi' : i < len := by simpa using hi
    rw [Nat.zero_add, hn i hi']
    exact (hf ⟨i, hi'⟩).1
theorem Wf.field {w : World} {σ : Sh} {B : Bd} (h : Wf w σ B) (C : Nat → Value) (hC : ∀ j, j < 8 → CellOk σ B 37 j (C j)) (hnn : B.nn ≤ 3) :
    ∃ f : F, FRep w (· < w.heap.size) f (.agg #[C 0, C 1, C 2, C 3, C 4, C 5, C 6, C 7]) ∧ szF f ≤ 24 + 13 * B.nn ∧ SmF B.nn f := by
  obtain ⟨s0, e0, z0⟩ : StOk (C 0) := by simpa [CellOk] using hC 0 (by omega)
  obtain ⟨s1, e1, z1⟩ : StOk (C 1) := by simpa [CellOk] using hC 1 (by omega)
  obtain ⟨b2, e2⟩ : BoOk (C 2) := by simpa [CellOk] using hC 2 (by omega)
  obtain ⟨b3, e3⟩ : BoOk (C 3) := by simpa [CellOk] using hC 3 (by omega)
  obtain ⟨b4, e4⟩ : BoOk (C 4) := by simpa [CellOk] using hC 4 (by omega)
  obtain ⟨b5, e5⟩ : BoOk (C 5) := by simpa [CellOk] using hC 5 (by omega)
  obtain ⟨b6, e6⟩ : BoOk (C 6) := by simpa [CellOk] using hC 6 (by omega)
  have h7 : SlOk σ 9 B.nn (C 7) := by simpa [CellOk] using hC 7 (by omega)
  obtain ⟨a, c, ns, e7, hS, hc, hl, hz⟩ := h.strs h7
  refine ⟨⟨s0, s1, b2, b3, b4, b5, b6, ns⟩, ⟨a, c, by rw [e0, e1, e2, e3, e4, e5, e6, e7], hS, hc, by simp only [maxLen]; omega, by simp only [maxLen]; omega, by simp only; omega⟩, ?_, z0, z1, hl, hz⟩
  have hsum : ∀ n, sumTo ns n ≤ 12 * n := fun n => by
    induction n with
    | zero => simp [sumTo]
    | succ n ih => rw [sumTo_succ]; have := hz n; omega
  have := hsum ns.length
  simp only [szF, szNs]
  omega
theorem Wf.fields {w : World} {σ : Sh} {B : Bd} (h : Wf w σ B) {v : Value} {N : Nat} (hv : SlOk σ 37 N v) (hN : N ≤ 1000000) (hnn : B.nn ≤ 3) :
    ∃ (a : Option Addr) (c : Nat) (fs : List F), v = .slice a fs.length c ∧ FsRep w (· < w.heap.size) fs a ∧ fs.length ≤ c ∧ fs.length ≤ N ∧ (∀ i, szF (fth fs i) ≤ 24 + 13 * B.nn) ∧ (∀ i, SmF B.nn (fth fs i)) := by
  obtain ⟨a, len, cap, rfl, h1, h2, h3, h4⟩ := hv
  rcases h4 with ⟨rfl, rfl, rfl⟩ | ⟨b, rfl, hb⟩
  · exact ⟨none, 0, [], rfl, ⟨by simp, fun _ _ => undef, fun h => by simp at h, fun i hi => by simp at hi⟩, by simp, by simp, (fun i => by simp [fth, F.zero, szF, szNs, sumTo]), fun i => by simpa [fth] using SmF.zero B.nn⟩
  · have hall : ∀ i j, i < len → j < 8 → ∃ v, w.cell? ⟨b, i * 8 + j, none⟩ = some v ∧ CellOk σ B 37 j v := fun i j hi hj => by
      obtain ⟨v, hc, ho, -⟩ := h.cell hb i j (by omega) (by rw [wideF]; omega)
      rw [wideF] at hc
      exact ⟨v, hc, ho⟩
    have hall' : ∀ i j, ∃ v, i < len → j < 8 → w.cell? ⟨b, i * 8 + j, none⟩ = some v ∧ CellOk σ B 37 j v := fun i j => by
      by_cases hi : i < len
      · by_cases hj : j < 8
        · obtain ⟨v, hv⟩ := hall i j hi hj; exact ⟨v, fun _ _ => hv⟩
        · exact ⟨undef, fun _ h => absurd h hj⟩
      · exact ⟨undef, fun h => absurd h hi⟩
    let C : Nat → Nat → Value := fun i j => Classical.choose (hall' i j)
    have hC : ∀ i j, i < len → j < 8 → w.cell? ⟨b, i * 8 + j, none⟩ = some (C i j) ∧ CellOk σ B 37 j (C i j) := fun i j => Classical.choose_spec (hall' i j)
    have hF : ∀ i, ∃ f : F, i < len → FRep w (· < w.heap.size) f (.agg #[C i 0, C i 1, C i 2, C i 3, C i 4, C i 5, C i 6, C i 7]) ∧ szF f ≤ 24 + 13 * B.nn ∧ SmF B.nn f := fun i => by
      by_cases hi : i < len
      · obtain ⟨f, hf⟩ := h.field (C i) (fun j hj => (hC i j hi hj).2) hnn; exact ⟨f, fun _ => hf⟩
      · exact ⟨F.zero, fun h => absurd h hi⟩
    let f : Nat → F := fun i => Classical.choose (hF i)
    have hf : ∀ i, i < len → FRep w (· < w.heap.size) (f i) (.agg #[C i 0, C i 1, C i 2, C i 3, C i 4, C i 5, C i 6, C i 7]) ∧ szF (f i) ≤ 24 + 13 * B.nn ∧ SmF B.nn (f i) := fun i => Classical.choose_spec (hF i)
    have hlen : ((List.range len).map f).length = len := by simp
    have hn : ∀ i, i < len → fth ((List.range len).map f) i = f i := fun i hi => by simp [fth, List.getD_eq_getElem?_getD, hi]
    refine ⟨some ⟨b, 0, none⟩, cap, (List.range len).map f, by rw [hlen], ⟨by rw [hlen]; omega, C, fun _ => ⟨b, 0, rfl, h.lt hb, fun i hi j hj => ?_⟩, fun i hi => ?_⟩, by rw [hlen]; exact h2, by rw [hlen]; exact h1, fun i => ?_, fun i => ?_⟩
    · rw [hlen] at hi; rw [Nat.zero_add]; exact (hC i j hi hj).1
    · rw [hlen] at hi; rw [hn i hi]; exact (hf i hi).1
    · by_cases hi : i < len
      · rw [hn i hi]; exact (hf i hi).2.1
      · simp [fth, List.getD_eq_getElem?_getD, hi, F.zero, szF, szNs, sumTo]
    · by_cases hi : i < len
      · rw [hn i hi]; exact (hf i hi).2.2
      · have e : fth ((List.range len).map f) i = F.zero := by simp [fth, List.getD_eq_getElem?_getD, hi]
        rw [e]; exact SmF.zero _
theorem Wf.type {w : World} {σ : Sh} {B : Bd} (h : Wf w σ B) (C : Nat → Value) (hC : ∀ j, j < 3 → CellOk σ B 48 j (C j)) (hnn : B.nn ≤ 3) (hnf : B.nf ≤ 1000000) :
    ∃ t : T, TRep w (· < w.heap.size) t (.agg #[C 0, C 1, C 2]) ∧ szT t ≤ 24 + (25 + 13 * B.nn) * B.nf ∧ C 0 = .string t.name ∧ SmT B.nf B.nn t := by
  obtain ⟨s0, e0, z0, -⟩ : NmOk B.st (C 0) := by simpa [CellOk] using hC 0 (by omega)
  obtain ⟨s1, e1, z1⟩ : StOk (C 1) := by simpa [CellOk] using hC 1 (by omega)
  have h2 : SlOk σ 37 B.nf (C 2) := by simpa [CellOk] using hC 2 (by omega)
  obtain ⟨a, c, fs, e2, hS, hc, hl, hz, hsm⟩ := h.fields h2 hnf hnn
  refine ⟨⟨s0, s1, fs⟩, ⟨a, c, by rw [e0, e1, e2], hS, hc, by simp only [maxLen]; omega, by simp only [maxLen]; omega⟩, ?_, e0, z0, z1, hl, hsm⟩
  have hsum : ∀ n, szFsTo fs n ≤ (24 + 13 * B.nn) * n := fun n => by
    induction n with
    | zero => simp [szFsTo]
    | succ n ih => rw [szFsTo_succ, Nat.mul_succ]; have := hz n; omega
  have := hsum fs.length
  have h5 : (24 + 13 * B.nn) * fs.length ≤ (24 + 13 * B.nn) * B.nf := Nat.mul_le_mul_left _ hl
  simp only [szT, szFs]
  have h6 : (25 + 13 * B.nn) * B.nf = (24 + 13 * B.nn) * B.nf + B.nf := by rw [show 25 + 13 * B.nn = (24 + 13 * B.nn) + 1 by omega, Nat.add_mul, Nat.one_mul]
  omega
theorem Wf.types {w : World} {σ : Sh} {B : Bd} (h : Wf w σ B) {b off len cap c' : Nat} (hb : σ b = some (48, cap)) (hl : off + len ≤ cap) (hN : len ≤ 1000000) (hc' : len ≤ c') (hnn : B.nn ≤ 3) (hnf : B.nf ≤ 1000000) (s : ByteArray) (hs : s.size ≤ 12) :
    ∃ ts : List T, ts.length = len ∧ PRep w (· < w.heap.size) ⟨s, ts⟩ (.agg #[.string s, .slice (some ⟨b, off * 3, none⟩) len c']) ∧ (∀ i, i < len → w.cell? ⟨b, (off + i) * 3, none⟩ = some (.string (tth ts i).name)) ∧ szP ⟨s, ts⟩ ≤ 12 + (25 + (25 + 13 * B.nn) * B.nf) * len ∧ (∀ i, SmT B.nf B.nn (tth ts i)) := by
  have hall : ∀ i j, i < len → j < 3 → ∃ v, w.cell? ⟨b, (off + i) * 3 + j, none⟩ = some v ∧ CellOk σ B 48 j v := fun i j hi hj => by
    obtain ⟨v, hc, ho, -⟩ := h.cell hb (off + i) j (by omega) (by rw [wideT]; omega)
    rw [wideT] at hc
    exact ⟨v, hc, ho⟩
  have hall' : ∀ i j, ∃ v, i < len → j < 3 → w.cell? ⟨b, (off + i) * 3 + j, none⟩ = some v ∧ CellOk σ B 48 j v := fun i j => by
    by_cases hi : i < len
    · by_cases hj : j < 3
      · obtain ⟨v, hv⟩ := hall i j hi hj; exact ⟨v, fun _ _ => hv⟩
      · exact ⟨undef, fun _ h => absurd h hj⟩
    · exact ⟨undef, fun h => absurd h hi⟩
  let C : Nat → Nat → Value := fun i j => Classical.choose (hall' i j)
  have hC : ∀ i j, i < len → j < 3 → w.cell? ⟨b, (off + i) * 3 + j, none⟩ = some (C i j) ∧ CellOk σ B 48 j (C i j) := fun i j => Classical.choose_spec (hall' i j)
  have hF : ∀ i, ∃ t : T, i < len → TRep w (· < w.heap.size) t (.agg #[C i 0, C i 1, C i 2]) ∧ szT t ≤ 24 + (25 + 13 * B.nn) * B.nf ∧ C i 0 = .string t.name ∧ SmT B.nf B.nn t := fun i => by
    by_cases hi : i < len
    · obtain ⟨f, hf⟩ := h.type (C i) (fun j hj => (hC i j hi hj).2) hnn hnf; exact ⟨f, fun _ => hf⟩
    · exact ⟨T.zero, fun h => absurd h hi⟩
  let f : Nat → T := fun i => Classical.choose (hF i)
  have hf : ∀ i, i < len → TRep w (· < w.heap.size) (f i) (.agg #[C i 0, C i 1, C i 2]) ∧ szT (f i) ≤ 24 + (25 + 13 * B.nn) * B.nf ∧ C i 0 = .string (f i).name ∧ SmT B.nf B.nn (f i) := fun i => Classical.choose_spec (hF i)
  have hlen : ((List.range len).map f).length = len := by simp
  have hn : ∀ i, i < len → tth ((List.range len).map f) i = f i := fun i hi => by simp [tth, List.getD_eq_getElem?_getD, hi]
  refine ⟨(List.range len).map f, hlen, ⟨some ⟨b, off * 3, none⟩, c', by rw [hlen], ⟨by rw [hlen]; omega, C, fun _ => ⟨b, off * 3, rfl, h.lt hb, fun i hi j hj => ?_⟩, fun i hi => ?_⟩, by rw [hlen]; exact hc', by simp only; unfold maxLen; omega⟩, fun i hi => ?_, ?_, fun i => ?_⟩
  · rw [hlen] at hi
    rw [show off * 3 + i * 3 + j = (off + i) * 3 + j by omega]
    exact (hC i j hi hj).1
  · rw [hlen] at hi; rw [hn i hi]; exact (hf i hi).1
  · rw [hn i hi, ← (hf i hi).2.2.1]
    exact (hC i 0 hi (by omega)).1
  · have hsum : ∀ n, n ≤ len → szTsTo ((List.range len).map f) n ≤ (24 + (25 + 13 * B.nn) * B.nf) * n := fun n => by
      induction n with
      | zero => intro _; simp [szTsTo]
      | succ n ih => intro hn'; rw [szTsTo_succ, Nat.mul_succ, hn n (by omega)]; have := (hf n (by omega)).2.1; have := ih (by omega); omega
    have := hsum len (Nat.le_refl _)
    simp only [szP, szTs, hlen]
    rw [show 25 + (25 + 13 * B.nn) * B.nf = (24 + (25 + 13 * B.nn) * B.nf) + 1 by omega, Nat.add_mul, Nat.one_mul]
    omega
  · by_cases hi : i < len
    · rw [hn i hi]; exact (hf i hi).2.2.2
    · have e : tth ((List.range len).map f) i = T.zero := by simp [tth, List.getD_eq_getElem?_getD, hi]
      rw [e]; exact SmT.zero _ _
end Go.Proofs.Ytdohgkokoicjlaa
namespace Go.Proofs.Ytdohgkokoicjlaa
open Go.RowKit
def orB (on : Bool) (x s : Int) : Int := if on then bits BinOp.or IntKind.u8 x s else x
theorem set_lit (W : World) (N : Nat) (hN : W.heap.size = N) (x s : Int) (c1 c2 c3 c4 c5 c6 c7 c8 : Value) (on : Bool) :
    Calls Try.prog 71 #[.pointer (some ⟨N, 0, none⟩), .int .u8 s, .bool on] (W.alloc (.cells #[.int .u8 x, c1, c2, c3, c4, c5, c6, c7, c8] 91)) fun e w' => e = .returned (.tuple #[]) ∧ W.alloc (.cells #[.int .u8 (orB on x s), c1, c2, c3, c4, c5, c6, c7, c8] 91) = w' := by
  subst hN
  cases on
  · go_enter Try.func71, Try.ntmps71
    go_wp2_with fail
    refine bodyPost_end (v := .tuple #[]) ?res rfl ⟨rfl, rfl⟩
    case res => simp [results, Try.results71, go_sem]
  · go_enter Try.func71, Try.ntmps71
    go_wp2_with fail
    refine bodyPost_end (v := .tuple #[]) ?res rfl ⟨rfl, rfl⟩
    case res => simp [results, Try.results71, go_sem]
def bitsF (l m fr hi sh : Bool) : Int := orB sh (orB hi (orB fr (orB m (orB l 0 1) 2) 4) 8) 16
set_option maxHeartbeats 800000 in
theorem marksOf_any (nm of : ByteArray) (l m fr hi sh : Bool) (na : Option Addr) (nl nc : Nat) (w : World) :
    Calls Try.prog 41 #[.agg #[.string nm, .string of, .bool l, .bool m, .bool fr, .bool hi, .bool sh, .slice na nl nc]] w fun e w' => e = .returned (.agg #[.int .u8 (bitsF l m fr hi sh), .string nm, .string of, .bool l, .bool m, .bool fr, .bool hi, .bool sh, .slice na nl nc]) ∧ Below w.heap.size w w' := by
  go_enter Try.func41, Try.ntmps41
  go_wp2_with (go_at_call 71; refine (set_lit _ _ (by simp) _ _ _ _ _ _ _ _ _ _ _).mono ?_; rintro e w' ⟨rfl, rfl⟩)
  refine bodyPost_ret (v := .agg #[.int .u8 (bitsF l m fr hi sh), .string nm, .string of, .bool l, .bool m, .bool fr, .bool hi, .bool sh, .slice na nl nc]) ?res rfl ⟨rfl, ?_⟩
  case res => simp [results, Try.results41, go_sem, bitsF]
  exact (((Below.refl _ _).alloc (Nat.le_refl _) _).alloc (by simp) _).alloc (by simp; omega) _
def allB (x s : Int) : Bool := bits BinOp.and IntKind.u8 x s == s
def anyB (x s : Int) : Bool := bits BinOp.and IntKind.u8 x s != 0
theorem hasAll_any (x s : Int) (w : World) : Calls Try.prog 68 #[.int .u8 x, .int .u8 s] w fun e w' => e = .returned (.bool (allB x s)) ∧ w = w' := by
  go_enter Try.func68, Try.ntmps68
  go_wp2_with fail
  go_ret
  exact ⟨rfl, rfl⟩
theorem hasAny_any (x s : Int) (w : World) : Calls Try.prog 86 #[.int .u8 x, .int .u8 s] w fun e w' => e = .returned (.bool (anyB x s)) ∧ w = w' := by
  go_enter Try.func86, Try.ntmps86
  go_wp2_with fail
  go_ret
  exact ⟨rfl, rfl⟩
theorem bits_must (l m fr hi sh : Bool) : allB (bitsF l m fr hi sh) 2 = m := by cases l <;> cases m <;> cases fr <;> cases hi <;> cases sh <;> decide
theorem bits_list (l m fr hi sh : Bool) : allB (bitsF l m fr hi sh) 1 = l := by cases l <;> cases m <;> cases fr <;> cases hi <;> cases sh <;> decide
theorem bits_far (l m fr hi sh : Bool) : allB (bitsF l m fr hi sh) 4 = fr := by cases l <;> cases m <;> cases fr <;> cases hi <;> cases sh <;> decide
theorem bits_hidden (l m fr hi sh : Bool) : allB (bitsF l m fr hi sh) 8 = hi := by cases l <;> cases m <;> cases fr <;> cases hi <;> cases sh <;> decide
theorem bits_shared (l m fr hi sh : Bool) : allB (bitsF l m fr hi sh) 16 = sh := by cases l <;> cases m <;> cases fr <;> cases hi <;> cases sh <;> decide
theorem bits_farsh (l m fr hi sh : Bool) : allB (bitsF l m fr hi sh) 20 = (fr && sh) := by cases l <;> cases m <;> cases fr <;> cases hi <;> cases sh <;> decide
theorem bits_key (l m fr hi sh : Bool) : anyB (bitsF l m fr hi sh) 13 = (l || fr || hi) := by cases l <;> cases m <;> cases fr <;> cases hi <;> cases sh <;> decide
theorem bits_anyl (l m fr hi sh : Bool) : anyB (bitsF l m fr hi sh) 1 = l := by cases l <;> cases m <;> cases fr <;> cases hi <;> cases sh <;> decide
theorem bits_need (l m fr hi sh : Bool) : anyB (bitsF l m fr hi sh) 7 = (l || fr || m) := by cases l <;> cases m <;> cases fr <;> cases hi <;> cases sh <;> decide
end Go.Proofs.Ytdohgkokoicjlaa
namespace Go.Proofs.Ytdohgkokoicjlaa
open Go.RowKit
def Pt.zero : Pt := ⟨ByteArray.empty, []⟩
def pth (ps : List Pt) (i : Nat) : Pt := ps.getD i Pt.zero
def sayF (p : Pt) (nm n : ByteArray) : F := fieldOr (typeOr p nm) n
def sayB (p : Pt) (nm n : ByteArray) : Bool := decide (0 ≤ fieldIx (typeOr p nm) n)
def knowB (p : Pt) (nm n : ByteArray) : Bool := sayB p nm n && !(sayF p nm n).far
def ownersTo (ps : List Pt) (nm n : ByteArray) : Nat → List Nat
  | 0 => []
  | k + 1 => ownersTo ps nm n k ++ if knowB (pth ps k) nm n = true then [k] else []
def ownersM (ps : List Pt) (nm n : ByteArray) : List Nat := ownersTo ps nm n ps.length
def keyIx (ps : List Pt) (nm : ByteArray) : Int := firstTo (fun i => !(typeOr (pth ps i) nm).key.toList.isEmpty) ps.length
def keyM (ps : List Pt) (nm : ByteArray) : ByteArray := if 0 ≤ keyIx ps nm then (typeOr (pth ps (keyIx ps nm).toNat) nm).key else ByteArray.empty
def alikeB (f g : F) : Bool := (f.of.toList == g.of.toList) && (f.list == g.list) && (f.must == g.must)
def cntP (q : Nat → Bool) : Nat → Nat
  | 0 => 0
  | k + 1 => cntP q k + if q k = true then 1 else 0
def allTo (q : Nat → Bool) : Nat → Bool
  | 0 => true
  | k + 1 => allTo q k && q k
theorem allTo_iff (q : Nat → Bool) : ∀ n, allTo q n = true ↔ ∀ i, i < n → q i = true
  | 0 => by simp [allTo]
  | n + 1 => by
    rw [allTo, Bool.and_eq_true, allTo_iff q n]
    constructor
    · rintro ⟨h1, h2⟩ i hi
      by_cases e : i = n
      · subst e; exact h2
      · exact h1 i (by omega)
    · exact fun h => ⟨fun i hi => h i (by omega), h n (by omega)⟩
theorem allTo_false {q : Nat → Bool} {n i : Nat} (hi : i < n) (h : q i = false) : allTo q n = false := by
  cases hq : allTo q n
  · rfl
  · rw [(allTo_iff q n).1 hq i hi] at h; cases h
def alikeAt (ps : List Pt) (nm : ByteArray) (f : F) (i : Nat) : Bool := !(sayB (pth ps i) nm f.name) || alikeB f (sayF (pth ps i) nm f.name)
def sharedAt (ps : List Pt) (nm n : ByteArray) (i : Nat) : Bool := sayB (pth ps i) nm n && (sayF (pth ps i) nm n).shared
def needsAt (ps : List Pt) (nm n : ByteArray) (i : Nat) : Bool := sayB (pth ps i) nm n && decide (0 < (sayF (pth ps i) nm n).needs.length)
def plainNeeds (ps : List Pt) (nm : ByteArray) (f : F) : Bool := allTo (fun i => allTo (fun k => !(needsAt ps nm (nth f.needs i) k)) ps.length) f.needs.length
def fieldCode (ps : List Pt) (nm : ByteArray) (f : F) : Int :=
  if allTo (alikeAt ps nm f) ps.length = false then 3
  else if (ownersM ps nm f.name).length = 0 then 6
  else if 1 < (ownersM ps nm f.name).length ∧ (f.name.toList == (keyM ps nm).toList) = false ∧ cntP (sharedAt ps nm f.name) ps.length < (ownersM ps nm f.name).length then 5
  else if 0 < cntP (needsAt ps nm f.name) ps.length ∧ 1 < (ownersM ps nm f.name).length then 7
  else if plainNeeds ps nm f = false then 7
  else 0
def keyOkB (ps : List Pt) (t : T) : Bool := t.key.toList.isEmpty || (t.key.toList == (keyM ps t.name).toList)
def typeOkB (ps : List Pt) (t : T) : Bool := keyOkB ps t && allTo (fun n => fieldCode ps t.name (fth t.fields n) == 0) t.fields.length
def eachB (ps : List Pt) (okp : Pt → Bool) (i : Nat) : Bool := okp (pth ps i) && allTo (fun k => !((pth ps k).name.toList == (pth ps i).name.toList)) i
def partsOkB (ps : List Pt) (okp : Pt → Bool) : Bool := decide (0 < ps.length) && decide (ps.length ≤ 4) && allTo (eachB ps okp) ps.length && allTo (fun i => allTo (fun k => typeOkB ps (tth (pth ps i).types k)) (pth ps i).types.length) ps.length
def putF (t : T) (f : F) : T :=
  if 0 ≤ fieldIx t f.name then
    { t with fields := t.fields.set (fieldIx t f.name).toNat { (fth t.fields (fieldIx t f.name).toNat) with hidden := (fth t.fields (fieldIx t f.name).toNat).hidden || f.hidden, needs := if f.needs.length = 0 then (fth t.fields (fieldIx t f.name).toNat).needs else f.needs } }
  else { t with fields := t.fields ++ [⟨f.name, f.of, f.list, f.must, false, f.hidden, false, f.needs⟩] }
def putTo (o t : T) : Nat → T
  | 0 => o
  | n + 1 => putF (putTo o t n) (fth t.fields n)
def tyIx (out : List T) (nm : ByteArray) : Int := firstTo (fun i => (tth out i).name.toList == nm.toList) out.length
def stepT (ps : List Pt) (out : List T) (t : T) : List T :=
  if 0 ≤ tyIx out t.name then out.set (tyIx out t.name).toNat (putTo (tth out (tyIx out t.name).toNat) t t.fields.length)
  else out ++ [putTo ⟨t.name, keyM ps t.name, []⟩ t t.fields.length]
def typesTo (ps : List Pt) (p : Pt) (out : List T) : Nat → List T
  | 0 => out
  | k + 1 => stepT ps (typesTo ps p out k) (tth p.types k)
def partsTo (ps : List Pt) : Nat → List T
  | 0 => []
  | i + 1 => typesTo ps (pth ps i) (partsTo ps i) (pth ps i).types.length
def allM (ps : List Pt) : Pt := ⟨⟨#[97]⟩, partsTo ps ps.length⟩
def chartB (ps : List Pt) (okp : Pt → Bool) : Bool := partsOkB ps okp && okp (allM ps)
end Go.Proofs.Ytdohgkokoicjlaa
namespace Go.Proofs.Ytdohgkokoicjlaa
open Go.RowKit
def PsRep (w : World) (P : Nat → Prop) (ps : List Pt) (a : Option Addr) : Prop := 40 * ps.length ≤ 281474976710656 ∧ ∃ C : Nat → Nat → Value, Arr w P 2 ps.length a C ∧ ∀ i, i < ps.length → PRep w P (pth ps i) (.agg #[C i 0, C i 1])
theorem PsRep.mono {w w' : World} {P : Nat → Prop} {ps : List Pt} {a : Option Addr} (h : PsRep w P ps a) (e : ∀ k, P k → w'.heap[k]? = w.heap[k]?) : PsRep w' P ps a := by
  obtain ⟨h0, C, h1, h2⟩ := h; exact ⟨h0, C, h1.mono e, fun i hi => (h2 i hi).mono e⟩
theorem PsRep.sub {w : World} {P Q : Nat → Prop} {ps : List Pt} {a : Option Addr} (h : PsRep w P ps a) (e : ∀ k, P k → Q k) : PsRep w Q ps a := by
  obtain ⟨h0, C, h1, h2⟩ := h; exact ⟨h0, C, h1.sub e, fun i hi => (h2 i hi).sub e⟩
theorem PsRep.under {w w' : World} {B : Nat} {ps : List Pt} {a : Option Addr} (h : PsRep w (· < B) ps a) (hb : Below B w w') : PsRep w' (· < B) ps a := h.mono fun k hk => hb.block k hk
theorem PsRep.at {w : World} {B : Nat} {ps : List Pt} {a : Option Addr} (h : PsRep w (· < B) ps a) (i : Nat) (hi : i < ps.length) :
    ∃ (b off : Nat) (ta : Option Addr) (tc : Nat), a = some ⟨b, off, none⟩ ∧ b < B ∧ w.cell? ⟨b, off + i * 2, none⟩ = some (.string (pth ps i).name) ∧ w.cell? ⟨b, off + i * 2 + 1, none⟩ = some (.slice ta (pth ps i).types.length tc) ∧ PRep w (· < B) (pth ps i) (.agg #[.string (pth ps i).name, .slice ta (pth ps i).types.length tc]) := by
  obtain ⟨-, C, hA, hr⟩ := h
  obtain ⟨b, off, rfl, hb, hc⟩ := hA (by omega)
  have hp := hr i hi
  obtain ⟨ta, tc, e, -⟩ := hp
  simp only [Value.agg.injEq, Array.mk.injEq, List.cons.injEq, and_true] at e
  refine ⟨b, off, ta, tc, rfl, hb, ?_, ?_, ?_⟩
  · rw [← e.1]; exact hc i hi 0 (by omega)
  · rw [← e.2]; exact hc i hi 1 (by omega)
  · rw [← e.1, ← e.2]; exact hr i hi
end Go.Proofs.Ytdohgkokoicjlaa
namespace Go.Proofs.Ytdohgkokoicjlaa
open Go.RowKit
theorem owns_keep' {w w' : World} {base e sz n : Nat} {v : Value} {xs : List Value} (h : w.ownsRow base e sz v n xs) (hb : Below w.heap.size w w') : w'.ownsRow base e sz v n xs := by
  refine ⟨h.1, h.2.imp id ?_⟩
  rintro ⟨g, cap, cur, rfl, hg, hh, hr⟩
  exact ⟨g, cap, cur, rfl, hg, (hb.block g (Array.getElem?_eq_some_iff.1 hh).1).trans hh, hr⟩
theorem owns_at {w w' : World} {base e sz n : Nat} {v : Value} {xs : List Value} (h : w.ownsRow base e sz v n xs) (hb : ∀ k, v.ownBlock = some k → w'.heap[k]? = w.heap[k]?) : w'.ownsRow base e sz v n xs := by
  refine ⟨h.1, h.2.imp id ?_⟩
  rintro ⟨g, cap, cur, rfl, hg, hh, hr⟩
  exact ⟨g, cap, cur, rfl, hg, (hb g rfl).trans hh, hr⟩
theorem cell_ltH {w : World} {t : Addr} {old : Value} (h : w.cell? t = some old) : t.block < w.heap.size := by
  rcases Nat.lt_or_ge t.block w.heap.size with h1 | h1
  · exact h1
  · simp [World.cell?, Array.getElem?_eq_none h1] at h
end Go.Proofs.Ytdohgkokoicjlaa
