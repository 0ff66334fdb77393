/-
  Maps of the program's own whose keys are structs that are compared field by field: what a block of such a map is good for, looking a key up, storing under one.
-/
import Derived.Test.YtpgcjdaahgfhgaaDoorNf
import Derived.Maps.OwnSet
import Derived.Maps.AppendAt
import Derived.LaidEql
namespace Go.Proofs.YtpgcjdaahgfhgaaDoor
set_option linter.unusedSimpArgs false
set_option linter.unusedVariables false
open Go.RowKit Go.Maps Go.ChangeMaps Go.MapKept

/-- What is asked of keys, in a world: they can be asked for, and == says which of them are one. -/
structure KeyAt (P : Program) (k : TypeId) (I : Value → Prop) (w : World) : Prop where
  fields : ∃ fs, P.underlying k = some (.struct fs)
  check : ∀ (em : Bool) (v : Value), I v → (Instr.checkKey em 10000 k v).run P w = .ok () w
  same : ∀ v : Value, I v → (Op.equal k v v).run P w = .ok true w
  differ : ∀ u v : Value, I u → I v → u ≠ v → (Op.equal k u v).run P w = .ok false w
  stays : ∀ v : Value, I v → Instr.sameBits 10000 v v = true

theorem findAsking_at {P : Program} {k : TypeId} {I : Value → Prop} {w : World} (K : KeyAt P k I w) (x : Value) (hx : I x) : ∀ (es : List MapEntry) (i : Nat), (∀ e ∈ es, I e.key) →
    ((Instr.findAsking k x es i).run P w = .ok none w ∧ ∀ e ∈ es, e.key ≠ x) ∨ ∃ j e, (Instr.findAsking k x es i).run P w = .ok (some (i + j, e.val)) w ∧ es[j]? = some e ∧ e.key = x
  | [], i, _ => Or.inl ⟨by simp [Instr.findAsking], by simp⟩
  | e :: es, i, h => by
    have he := h e (by simp)
    by_cases hk : e.key = x
    · refine Or.inr ⟨0, e, ?_, rfl, hk⟩
      have h1 := K.same x hx
      simp [Instr.findAsking, hk, h1, Result.andThen]
    · have h1 := K.differ x e.key hx he (fun h => hk h.symm)
      rcases findAsking_at K x hx es (i + 1) (fun e' he' => h e' (by simp [he'])) with ⟨h2, h3⟩ | ⟨j, e', h2, h3, h4⟩
      · refine Or.inl ⟨?_, fun e' he' => ?_⟩
        · simp [Instr.findAsking, h1, h2, Result.andThen]
        · rcases List.mem_cons.1 he' with rfl | h5
          · exact hk
          · exact h3 e' h5
      · refine Or.inr ⟨j + 1, e', ?_, by simpa using h3, h4⟩
        simp [Instr.findAsking, h1, h2, Result.andThen]
        omega

theorem findKey_at {P : Program} {k : TypeId} {I : Value → Prop} {w : World} (K : KeyAt P k I w) (x : Value) (hx : I x) (es : List MapEntry) (h : ∀ e ∈ es, I e.key) :
    ((Instr.findKey k x es).run P w = .ok none w ∧ ∀ e ∈ es, e.key ≠ x) ∨ ∃ j e, (Instr.findKey k x es).run P w = .ok (some (j, e.val)) w ∧ es[j]? = some e ∧ e.key = x := by
  obtain ⟨fs, hfs⟩ := K.fields
  match es, h with
  | [], _ => exact Or.inl ⟨by simp [Instr.findKey, run_underlying hfs, Instr.findNow, Result.andThen], by simp⟩
  | e :: es, h =>
    have hn : Instr.findNow (.struct fs) x (e :: es) 0 = none := by simp [Instr.findNow, Instr.sameNow]
    rcases findAsking_at K x hx (e :: es) 0 h with ⟨h2, h3⟩ | ⟨j, e', h2, h3, h4⟩
    · exact Or.inl ⟨by simp [Instr.findKey, run_underlying hfs, hn, h2, Result.andThen], h3⟩
    · exact Or.inr ⟨j, e', by simp [Instr.findKey, run_underlying hfs, hn, h2, Result.andThen], h3, h4⟩

/-- Block b of the world is a map that has G's values under G's keys. -/
def OwnsK (w : World) (I : Value → Prop) (b : Nat) (G : Value → Option Value) : Prop :=
  ∃ es clock, w.heap[b]? = some (.map es clock) ∧ (∀ e ∈ es.toList, I e.key ∧ G e.key = some e.val) ∧ (∀ k v, G k = some v → ∃ e ∈ es.toList, e.key = k) ∧ es.toList.Pairwise (fun a b => a.key ≠ b.key)

theorem OwnsK.lt {w : World} {I : Value → Prop} {b : Nat} {G : Value → Option Value} (h : OwnsK w I b G) : b < w.heap.size := by
  obtain ⟨es, clock, hb, _⟩ := h
  exact (Array.getElem?_eq_some_iff.1 hb).1
theorem OwnsK.of_block {w w' : World} {I : Value → Prop} {b : Nat} {G : Value → Option Value} (h : OwnsK w I b G) (e : w'.heap[b]? = w.heap[b]?) : OwnsK w' I b G := by
  obtain ⟨es, clock, hb, r⟩ := h
  exact ⟨es, clock, e.trans hb, r⟩
theorem OwnsK.widen {w : World} {I J : Value → Prop} {b : Nat} {G : Value → Option Value} (h : OwnsK w I b G) (e : ∀ v, I v → J v) : OwnsK w J b G := by
  obtain ⟨es, clock, hb, h1, r⟩ := h
  exact ⟨es, clock, hb, fun x hx => ⟨e _ (h1 x hx).1, (h1 x hx).2⟩, r⟩
theorem OwnsK.made (w : World) (I : Value → Prop) : OwnsK (w.alloc (.map #[] 0)) I w.heap.size (fun _ => none) :=
  ⟨#[], 0, (MapKept.heap_alloc w _).1, by simp, by simp, by simp⟩
theorem OwnsK.key {w : World} {I : Value → Prop} {b : Nat} {G : Value → Option Value} (h : OwnsK w I b G) {k v : Value} (hk : G k = some v) : I k := by
  obtain ⟨es, clock, hb, h1, h2, _⟩ := h
  obtain ⟨e, he, rfl⟩ := h2 k v hk
  exact (h1 e he).1

theorem OwnsK.look {P : Program} {k : TypeId} {I : Value → Prop} {w : World} {b : Nat} {G : Value → Option Value} {t e : TypeId} (c : Bool) (h : OwnsK w I b G) (K : KeyAt P k I w) (ht : P.underlying t = some (.map k e)) {z : Value} (hz : (zeroValue e).run P w = .ok z w) {x : Value} (hx : I x) :
    (Instr.lookup t (.map (some b)) x c).run P w = .ok (if c then .tuple #[(G x).getD z, .bool (G x).isSome] else (G x).getD z) w := by
  obtain ⟨es, clock, hb, h1, h2, h3⟩ := h
  rcases findKey_at K x hx es.toList (fun e he => (h1 e he).1) with ⟨r1, r2⟩ | ⟨j, e0, r1, r2, r3⟩
  · have hG : G x = none := by
      cases hg : G x with
      | none => rfl
      | some v => obtain ⟨e1, he1, hk1⟩ := h2 x v hg; exact absurd hk1 (r2 e1 he1)
    simp [Instr.lookup, run_underlying ht, MapKept.run_getObj_map hb, K.check _ x hx, r1, hz, hG, Result.andThen]
  · have hG : G x = some e0.val := by rw [← r3]; exact (h1 e0 (List.mem_of_getElem? r2)).2
    simp [Instr.lookup, run_underlying ht, MapKept.run_getObj_map hb, K.check _ x hx, r1, hG, Result.andThen]

theorem OwnsK.store {P : Program} {k : TypeId} {I : Value → Prop} {w : World} {b : Nat} {G : Value → Option Value} {t e : TypeId} (h : OwnsK w I b G) (K : KeyAt P k I w) (ht : P.underlying t = some (.map k e)) {x : Value} (hx : I x) (v : Value) :
    ∃ w' G', (Instr.mapUpdate t (.map (some b)) x v).run P w = .ok () w' ∧ OwnsK w' I b G' ∧ G' x = some v ∧ (∀ y, y ≠ x → G' y = G y) ∧ w.grownBy w' (some b) := by
  classical
  obtain ⟨es, clock, hb, h1, h2, h3⟩ := h
  have hgrow : ∀ o, w.grownBy (setBlock w b o) (some b) := fun o => ⟨rfl, rfl, rfl, by simp [setBlock], fun i _ hi => heap_setBlock_other hb _ (fun e => hi (by rw [e]))⟩
  rcases findKey_at K x hx es.toList (fun e he => (h1 e he).1) with ⟨r1, r2⟩ | ⟨j, e0, r1, r2, r3⟩
  · refine ⟨setBlock w b (.map (es.push ⟨x, v, clock⟩) (clock + 1)), fun y => if y = x then some v else G y, ?_, ⟨es.push ⟨x, v, clock⟩, clock + 1, heap_setBlock_same hb _, ?_, ?_, ?_⟩, by simp, fun y hy => by simp [hy], hgrow _⟩
    · simp [Instr.mapUpdate, run_underlying ht, MapKept.run_getObj_map hb, K.check false x hx, r1, MapKept.run_setObj_map _ hb, Result.andThen, setBlock]
    · intro e' he'
      simp only [Array.toList_push, List.mem_append, List.mem_singleton] at he'
      rcases he' with he' | rfl
      · exact ⟨(h1 e' he').1, by simp only; rw [if_neg (r2 e' he')]; exact (h1 e' he').2⟩
      · exact ⟨hx, by simp⟩
    · intro y u hy
      simp only at hy
      by_cases hyx : y = x
      · exact ⟨⟨x, v, clock⟩, by simp, hyx.symm⟩
      · rw [if_neg hyx] at hy
        obtain ⟨e', he', hk'⟩ := h2 y u hy
        exact ⟨e', by simp only [Array.toList_push, List.mem_append]; exact Or.inl he', hk'⟩
    · rw [Array.toList_push, List.pairwise_append]
      exact ⟨h3, by simp, fun a ha c hc => by simp at hc; subst hc; exact r2 a ha⟩
  · have hj : es[j]? = some e0 := by simpa using r2
    have hlist : (es.modify j (fun e' => { e' with key := x, val := v })).toList = es.toList.set j { e0 with key := x, val := v } := by rw [Array.toList_modify, modify_eq_set _ _ _ _ r2]
    have hjl : j < es.toList.length := (List.getElem?_eq_some_iff.1 r2).1
    have hej : es.toList[j] = e0 := (List.getElem?_eq_some_iff.1 r2).2
    have hoth : ∀ (i : Nat) (hi : i < es.toList.length), i ≠ j → es.toList[i].key ≠ x := fun i hi hij => by
      rcases Nat.lt_or_gt_of_ne hij with hlt | hlt
      · have := List.pairwise_iff_getElem.1 h3 i j hi hjl hlt
        rw [hej, r3] at this; exact this
      · have := List.pairwise_iff_getElem.1 h3 j i hjl hi hlt
        rw [hej, r3] at this; exact fun e => this e.symm
    refine ⟨setBlock w b (.map (es.modify j (fun e' => { e' with key := x, val := v })) clock), fun y => if y = x then some v else G y, ?_, ⟨_, clock, heap_setBlock_same hb _, ?_, ?_, ?_⟩, by simp, fun y hy => by simp [hy], hgrow _⟩
    · have hs := K.stays x hx
      simp [Instr.mapUpdate, run_underlying ht, MapKept.run_getObj_map hb, K.check false x hx, r1, hj, r3, Instr.keyThatStays, hs, MapKept.run_setObj_map _ hb, Result.andThen, setBlock]
    · intro e' he'
      rw [hlist] at he'
      obtain ⟨i, hi, rfl⟩ := List.getElem_of_mem he'
      rw [List.getElem_set]
      split
      · exact ⟨hx, by simp⟩
      · rename_i hne
        have hi' : i < es.toList.length := by simpa using hi
        exact ⟨(h1 _ (List.getElem_mem hi')).1, by simp only; rw [if_neg (hoth i hi' (fun e => hne e.symm))]; exact (h1 _ (List.getElem_mem hi')).2⟩
    · intro y u hy
      rw [hlist]
      simp only at hy
      by_cases hyx : y = x
      · exact ⟨{ e0 with key := x, val := v }, List.mem_of_getElem? (i := j) (by rw [List.getElem?_set_self hjl]), hyx.symm⟩
      · rw [if_neg hyx] at hy
        obtain ⟨e', he', hk'⟩ := h2 y u hy
        obtain ⟨i, hi, rfl⟩ := List.getElem_of_mem he'
        have hij : j ≠ i := fun e => by subst e; rw [hej, r3] at hk'; exact hyx hk'.symm
        exact ⟨es.toList[i], List.mem_of_getElem? (i := i) (by rw [List.getElem?_set_ne hij]; simp), hk'⟩
    · rw [hlist, List.pairwise_iff_getElem]
      intro i i' hi hi' hlt
      simp only [List.length_set] at hi hi'
      rw [List.getElem_set, List.getElem_set]
      split
      · rename_i e1
        subst e1
        rw [if_neg (by omega)]
        exact fun e => hoth i' hi' (by omega) e.symm
      · split
        · rename_i e1 e2
          subst e2
          exact hoth i hi (fun e => e1 e.symm)
        · exact List.pairwise_iff_getElem.1 h3 i i' hi hi' hlt

/-- A look-up at the operation, for the walk. -/
theorem wpList_lookup_K {P : Program} (w : World) {ops : Array Oper} {rest : List Oper} {o : Oper} {a : Act} {Q : Exit → Act → World → Prop}
    (hg : o.guard = none) (m x : Operand) (t : TypeId) (c : Bool) (hop : o.op = Op.lookup t m x c)
    (k e : TypeId) (I : Value → Prop) (K : KeyAt P k I w) (ht : P.underlying t = some (.map k e)) (z : Value) (hz : (zeroValue e).run P w = .ok z w) (b : Nat) (G : Value → Option Value)
    (hm : a.eval m = .map (some b)) (hown : OwnsK w I b G) (key : Value) (hx : a.eval x = key) (hkey : I key)
    (hK : wpList P ops Q rest (a.put o.dst (if c then .tuple #[(G key).getD z, .bool (G key).isSome] else (G key).getD z)) w) :
    wpList P ops Q (o :: rest) a w := by
  refine wpList_plain hg fun K' hK' => ?_
  have hrun := hown.look c K ht hz hkey
  unfold Oper.wp
  simp [execOp, hop, hm, hx, hrun, Result.andThen]
  exact hK' _ _ hK

/-- A store at the operation, for the walk. -/
theorem wpList_mapUpdate_K {P : Program} (w : World) {ops : Array Oper} {rest : List Oper} {o : Oper} {a : Act} {Q : Exit → Act → World → Prop}
    (hg : o.guard = none) (m x v : Operand) (t : TypeId) (hop : o.op = Op.mapUpdate t m x v)
    (k e : TypeId) (I : Value → Prop) (K : KeyAt P k I w) (ht : P.underlying t = some (.map k e)) (b : Nat) (G : Value → Option Value)
    (hm : a.eval m = .map (some b)) (hown : OwnsK w I b G) (key val : Value) (hx : a.eval x = key) (hv : a.eval v = val) (hkey : I key)
    (hK : ∀ w' G', OwnsK w' I b G' → G' key = some val → (∀ y, y ≠ key → G' y = G y) → w.grownBy w' (some b) → wpList P ops Q rest (a.put o.dst undef) w') :
    wpList P ops Q (o :: rest) a w := by
  refine wpList_plain hg fun K' hK' => ?_
  obtain ⟨w', G', hrun, r1, r2, r3, r4⟩ := hown.store K ht hkey val
  unfold Oper.wp
  simp [execOp, hop, hm, hx, hv, hrun, Result.andThen]
  exact hK' _ _ (hK w' G' r1 r2 r3 r4)

/-- A look-up at a step of a region. -/
theorem step_lookup_K {P : Program} {w : World} {ops : Array Oper} {o : Oper} {a : Act} {K : Act → World → Prop} {Q : Exit → Act → World → Prop} {E : Prop} (hgd : o.guard = none) (m x : Operand) (t : TypeId) (c : Bool) (ho : o.op = Op.lookup t m x c)
    (k e : TypeId) (I : Value → Prop) (KA : KeyAt P k I w) (ht : P.underlying t = some (.map k e)) (z : Value) (hz : (zeroValue e).run P w = .ok z w) (b : Nat) (G : Value → Option Value)
    (hm : a.eval m = .map (some b)) (hown : OwnsK w I b G) (key : Value) (hx : a.eval x = key) (hkey : I key)
    (h : K (a.put o.dst (if c then .tuple #[(G key).getD z, .bool (G key).isSome] else (G key).getD z)) w) :
    if Region.wanted o (yielded ops a.tmps) = true then Oper.wp P o a w K Q else E := by
  have hw : Region.wanted o (yielded ops a.tmps) = true := by simp [Region.wanted, hgd]
  rw [if_pos hw]
  have hrun := hown.look c KA ht hz hkey
  unfold Oper.wp
  simp [execOp, ho, hm, hx, hrun, Result.andThen]
  exact h

/-- A store at a step of a region. -/
theorem step_mapUpdate_K {P : Program} {w : World} {ops : Array Oper} {o : Oper} {a : Act} {K : Act → World → Prop} {Q : Exit → Act → World → Prop} {E : Prop} (hgd : o.guard = none) (m x v : Operand) (t : TypeId) (ho : o.op = Op.mapUpdate t m x v)
    (k e : TypeId) (I : Value → Prop) (KA : KeyAt P k I w) (ht : P.underlying t = some (.map k e)) (b : Nat) (G : Value → Option Value)
    (hm : a.eval m = .map (some b)) (hown : OwnsK w I b G) (key val : Value) (hx : a.eval x = key) (hv : a.eval v = val) (hkey : I key)
    (h : ∀ w' G', OwnsK w' I b G' → G' key = some val → (∀ y, y ≠ key → G' y = G y) → w.grownBy w' (some b) → K (a.put o.dst undef) w') :
    if Region.wanted o (yielded ops a.tmps) = true then Oper.wp P o a w K Q else E := by
  have hw : Region.wanted o (yielded ops a.tmps) = true := by simp [Region.wanted, hgd]
  rw [if_pos hw]
  obtain ⟨w', G', hrun, r1, r2, r3, r4⟩ := hown.store KA ht hkey val
  unfold Oper.wp
  simp [execOp, ho, hm, hx, hv, hrun, Result.andThen]
  exact h w' G' r1 r2 r3 r4

/-- Blocks that are no strings' bytes and no views: their addresses can be told apart. -/
def Apart (w : World) (b : Nat) : Prop := (∃ c t f, w.heap[b]? = some (.cells c t f)) ∧ ∀ a : Addr, a.block = b → w.frozen? a = false
theorem Apart.of_block {w w' : World} {b : Nat} (h : Apart w b) (e : w'.heap[b]? = w.heap[b]?) : Apart w' b := by
  obtain ⟨⟨c, t, f, h1⟩, h2⟩ := h
  refine ⟨⟨c, t, f, e.trans h1⟩, fun a ha => ?_⟩
  have := h2 a ha
  subst ha
  simpa [World.frozen?, e] using this
theorem Apart.of_cell {w : World} {b o : Nat} {v : Value} (h : w.cell? ⟨b, o, none⟩ = some v) (hf : ∀ a : Addr, a.block = b → w.frozen? a = false) : Apart w b := by
  refine ⟨?_, hf⟩
  unfold World.cell? at h
  split at h
  · rename_i c t f hb; exact ⟨c, t, f, hb⟩
  · cases h

theorem sameAddr_apart {P : Program} {w : World} {a b : Addr} (hne : a ≠ b) (ha : Apart w a.block) (hb : Apart w b.block) : (sameAddr a b).run P w = .ok false w := by
  obtain ⟨⟨c, t, f, h1⟩, h2⟩ := ha
  obtain ⟨⟨c', t', f', h1'⟩, h2'⟩ := hb
  by_cases hbl : a.block = b.block
  · simp [sameAddr, hbl, hne]
  · have f1 := h2 a rfl
    have f2 := h2' b rfl
    have g1 := h2 ⟨a.block, c.size, none⟩ rfl
    have g2 := h2' ⟨b.block, c'.size, none⟩ rfl
    simp [sameAddr, hbl, f1, f2, g1, g2, noView, viewAt, World.shape?, h1, h1', mayBeOne, stringish]
end Go.Proofs.YtpgcjdaahgfhgaaDoor
