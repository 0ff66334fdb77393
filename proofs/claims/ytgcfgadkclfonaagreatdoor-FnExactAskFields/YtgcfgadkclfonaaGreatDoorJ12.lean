import Derived.Test.YtgcfgadkclfonaaGreatDoorJ1
import Derived.Maps.OwnSet
import Derived.Maps.AppendAt
import Derived.LaidEql
import Derived.Test.YtgcfgadkclfonaaGreatDoorJ2
import Derived.Deep.RegionWith
import Derived.BigRegion
import Derived.Laws.EntriesVeiled
import Derived.Test.YtgcfgadkclfonaaGreatDoorJ11
import Derived.Lib.AppendIntMem
import Derived.Deep.RegionHeld3
namespace Go.Proofs.YtgcfgadkclfonaaGreatDoor
set_option linter.unusedSimpArgs false
set_option linter.unusedVariables false
open Go.RowKit Go.Maps Go.ChangeMaps Go.MapKept

/-- What is asked of keys, in a world: they can be asked for, and == says which of them are one. -/
structure KeyAt (P : Program) (k : TypeId) (I : Value → Prop) (w : World) : Prop where
  fields : ∃ fs, P.underlying k = some (.struct fs)
  check : ∀ (em : Bool) (v : Value), I v → (Instr.checkKey em 10000 k v).run P w = .ok () w
  same : ∀ v : Value, I v → (Op.equal k v v).run P w = .ok true w
  differ : ∀ u v : Value, I u → I v → u ≠ v → (Op.equal k u v).run P w = .ok false w
  stays : ∀ v : Value, I v → Instr.sameBits 10000 v v = true

theorem findAsking_at {P : Program} {k : TypeId} {I : Value → Prop} {w : World} (K : KeyAt P k I w) (x : Value) (hx : I x) : ∀ (es : List MapEntry) (i : Nat), (∀ e ∈ es, I e.key) →
    ((Instr.findAsking k x es i).run P w = .ok none w ∧ ∀ e ∈ es, e.key ≠ x) ∨ ∃ j e, (Instr.findAsking k x es i).run P w = .ok (some (i + j, e.val)) w ∧ es[j]? = some e ∧ e.key = x
  | [], i, _ => Or.inl ⟨by simp [Instr.findAsking], by simp⟩
  | e :: es, i, h => by
    have he := h e (by simp)
    by_cases hk : e.key = x
    · refine Or.inr ⟨0, e, ?_, rfl, hk⟩
      have h1 := K.same x hx
      simp [Instr.findAsking, hk, h1, Result.andThen]
    · have h1 := K.differ x e.key hx he (fun h => hk h.symm)
      rcases findAsking_at K x hx es (i + 1) (fun e' he' => h e' (by simp [he'])) with ⟨h2, h3⟩ | ⟨j, e', h2, h3, h4⟩
      · refine Or.inl ⟨?_, fun e' he' => ?_⟩
        · simp [Instr.findAsking, h1, h2, Result.andThen]
        · rcases List.mem_cons.1 he' with rfl | h5
          · exact hk
          · exact h3 e' h5
      · refine Or.inr ⟨j + 1, e', ?_, by simpa using h3, h4⟩
        simp [Instr.findAsking, h1, h2, Result.andThen]
        omega

theorem findKey_at {P : Program} {k : TypeId} {I : Value → Prop} {w : World} (K : KeyAt P k I w) (x : Value) (hx : I x) (es : List MapEntry) (h : ∀ e ∈ es, I e.key) :
    ((Instr.findKey k x es).run P w = .ok none w ∧ ∀ e ∈ es, e.key ≠ x) ∨ ∃ j e, (Instr.findKey k x es).run P w = .ok (some (j, e.val)) w ∧ es[j]? = some e ∧ e.key = x := by
  obtain ⟨fs, hfs⟩ := K.fields
  match es, h with
  | [], _ => exact Or.inl ⟨by simp [Instr.findKey, run_underlying hfs, Instr.findNow, Result.andThen], by simp⟩
  | e :: es, h =>
    have hn : Instr.findNow (.struct fs) x (e :: es) 0 = none := by simp [Instr.findNow, Instr.sameNow]
    rcases findAsking_at K x hx (e :: es) 0 h with ⟨h2, h3⟩ | ⟨j, e', h2, h3, h4⟩
    · exact Or.inl ⟨by simp [Instr.findKey, run_underlying hfs, hn, h2, Result.andThen], h3⟩
    · exact Or.inr ⟨j, e', by simp [Instr.findKey, run_underlying hfs, hn, h2, Result.andThen], h3, h4⟩

/-- Block b of the world is a map that has G's values under G's keys. -/
def OwnsK (w : World) (I : Value → Prop) (b : Nat) (G : Value → Option Value) : Prop :=
  ∃ es clock, w.heap[b]? = some (.map es clock) ∧ (∀ e ∈ es.toList, I e.key ∧ G e.key = some e.val) ∧ (∀ k v, G k = some v → ∃ e ∈ es.toList, e.key = k) ∧ es.toList.Pairwise (fun a b => a.key ≠ b.key)

theorem OwnsK.lt {w : World} {I : Value → Prop} {b : Nat} {G : Value → Option Value} (h : OwnsK w I b G) : b < w.heap.size := by
  obtain ⟨es, clock, hb, _⟩ := h
  exact (Array.getElem?_eq_some_iff.1 hb).1
theorem OwnsK.of_block {w w' : World} {I : Value → Prop} {b : Nat} {G : Value → Option Value} (h : OwnsK w I b G) (e : w'.heap[b]? = w.heap[b]?) : OwnsK w' I b G := by
  obtain ⟨es, clock, hb, r⟩ := h
  exact ⟨es, clock, e.trans hb, r⟩
theorem OwnsK.widen {w : World} {I J : Value → Prop} {b : Nat} {G : Value → Option Value} (h : OwnsK w I b G) (e : ∀ v, I v → J v) : OwnsK w J b G := by
  obtain ⟨es, clock, hb, h1, r⟩ := h
  exact ⟨es, clock, hb, fun x hx => ⟨e _ (h1 x hx).1, (h1 x hx).2⟩, r⟩
theorem OwnsK.made (w : World) (I : Value → Prop) : OwnsK (w.alloc (.map #[] 0)) I w.heap.size (fun _ => none) :=
  ⟨#[], 0, (MapKept.heap_alloc w _).1, by simp, by simp, by simp⟩
theorem OwnsK.key {w : World} {I : Value → Prop} {b : Nat} {G : Value → Option Value} (h : OwnsK w I b G) {k v : Value} (hk : G k = some v) : I k := by
  obtain ⟨es, clock, hb, h1, h2, _⟩ := h
  obtain ⟨e, he, rfl⟩ := h2 k v hk
  exact (h1 e he).1

theorem OwnsK.look {P : Program} {k : TypeId} {I : Value → Prop} {w : World} {b : Nat} {G : Value → Option Value} {t e : TypeId} (c : Bool) (h : OwnsK w I b G) (K : KeyAt P k I w) (ht : P.underlying t = some (.map k e)) {z : Value} (hz : (zeroValue e).run P w = .ok z w) {x : Value} (hx : I x) :
    (Instr.lookup t (.map (some b)) x c).run P w = .ok (if c then .tuple #[(G x).getD z, .bool (G x).isSome] else (G x).getD z) w := by
  obtain ⟨es, clock, hb, h1, h2, h3⟩ := h
  rcases findKey_at K x hx es.toList (fun e he => (h1 e he).1) with ⟨r1, r2⟩ | ⟨j, e0, r1, r2, r3⟩
  · have hG : G x = none := by
      cases hg : G x with
      | none => rfl
      | some v => obtain ⟨e1, he1, hk1⟩ := h2 x v hg; exact absurd hk1 (r2 e1 he1)
    simp [Instr.lookup, run_underlying ht, MapKept.run_getObj_map hb, K.check _ x hx, r1, hz, hG, Result.andThen]
  · have hG : G x = some e0.val := by rw [← r3]; exact (h1 e0 (List.mem_of_getElem? r2)).2
    simp [Instr.lookup, run_underlying ht, MapKept.run_getObj_map hb, K.check _ x hx, r1, hG, Result.andThen]

theorem OwnsK.store {P : Program} {k : TypeId} {I : Value → Prop} {w : World} {b : Nat} {G : Value → Option Value} {t e : TypeId} (h : OwnsK w I b G) (K : KeyAt P k I w) (ht : P.underlying t = some (.map k e)) {x : Value} (hx : I x) (v : Value) :
    ∃ w' G', (Instr.mapUpdate t (.map (some b)) x v).run P w = .ok () w' ∧ OwnsK w' I b G' ∧ G' x = some v ∧ (∀ y, y ≠ x → G' y = G y) ∧ w.grownBy w' (some b) := by
  classical
  obtain ⟨es, clock, hb, h1, h2, h3⟩ := h
  have hgrow : ∀ o, w.grownBy (setBlock w b o) (some b) := fun o => ⟨rfl, rfl, rfl, by simp [setBlock], fun i _ hi => heap_setBlock_other hb _ (fun e => hi (by rw [e]))⟩
  rcases findKey_at K x hx es.toList (fun e he => (h1 e he).1) with ⟨r1, r2⟩ | ⟨j, e0, r1, r2, r3⟩
  · refine ⟨setBlock w b (.map (es.push ⟨x, v, clock⟩) (clock + 1)), fun y => if y = x then some v else G y, ?_, ⟨es.push ⟨x, v, clock⟩, clock + 1, heap_setBlock_same hb _, ?_, ?_, ?_⟩, by simp, fun y hy => by simp [hy], hgrow _⟩
    · simp [Instr.mapUpdate, run_underlying ht, MapKept.run_getObj_map hb, K.check false x hx, r1, MapKept.run_setObj_map _ hb, Result.andThen, setBlock]
    · intro e' he'
      simp only [Array.toList_push, List.mem_append, List.mem_singleton] at he'
      rcases he' with he' | rfl
      · exact ⟨(h1 e' he').1, by simp only; rw [if_neg (r2 e' he')]; exact (h1 e' he').2⟩
      · exact ⟨hx, by simp⟩
    · intro y u hy
      simp only at hy
      by_cases hyx : y = x
      · exact ⟨⟨x, v, clock⟩, by simp, hyx.symm⟩
      · rw [if_neg hyx] at hy
        obtain ⟨e', he', hk'⟩ := h2 y u hy
        exact ⟨e', by simp only [Array.toList_push, List.mem_append]; exact Or.inl he', hk'⟩
    · rw [Array.toList_push, List.pairwise_append]
      exact ⟨h3, by simp, fun a ha c hc => by simp at hc; subst hc; exact r2 a ha⟩
  · have hj : es[j]? = some e0 := by simpa using r2
    have hlist : (es.modify j (fun e' => { e' with key := x, val := v })).toList = es.toList.set j { e0 with key := x, val := v } := by rw [Array.toList_modify, modify_eq_set _ _ _ _ r2]
    have hjl : j < es.toList.length := (List.getElem?_eq_some_iff.1 r2).1
    have hej : es.toList[j] = e0 := (List.getElem?_eq_some_iff.1 r2).2
    have hoth : ∀ (i : Nat) (hi : i < es.toList.length), i ≠ j → es.toList[i].key ≠ x := fun i hi hij => by
      rcases Nat.lt_or_gt_of_ne hij with hlt | hlt
      · have := List.pairwise_iff_getElem.1 h3 i j hi hjl hlt
        rw [hej, r3] at this; exact this
      · have := List.pairwise_iff_getElem.1 h3 j i hjl hi hlt
        rw [hej, r3] at this; exact fun e => this e.symm
    refine ⟨setBlock w b (.map (es.modify j (fun e' => { e' with key := x, val := v })) clock), fun y => if y = x then some v else G y, ?_, ⟨_, clock, heap_setBlock_same hb _, ?_, ?_, ?_⟩, by simp, fun y hy => by simp [hy], hgrow _⟩
    · have hs := K.stays x hx
      simp [Instr.mapUpdate, run_underlying ht, MapKept.run_getObj_map hb, K.check false x hx, r1, hj, r3, Instr.keyThatStays, hs, MapKept.run_setObj_map _ hb, Result.andThen, setBlock]
    · intro e' he'
      rw [hlist] at he'
      obtain ⟨i, hi, rfl⟩ := List.getElem_of_mem he'
      rw [List.getElem_set]
      split
      · exact ⟨hx, by simp⟩
      · rename_i hne
        have hi' : i < es.toList.length := by simpa using hi
        exact ⟨(h1 _ (List.getElem_mem hi')).1, by simp only; rw [if_neg (hoth i hi' (fun e => hne e.symm))]; exact (h1 _ (List.getElem_mem hi')).2⟩
    · intro y u hy
      rw [hlist]
      simp only at hy
      by_cases hyx : y = x
      · exact ⟨{ e0 with key := x, val := v }, List.mem_of_getElem? (i := j) (by rw [List.getElem?_set_self hjl]), hyx.symm⟩
      · rw [if_neg hyx] at hy
        obtain ⟨e', he', hk'⟩ := h2 y u hy
        obtain ⟨i, hi, rfl⟩ := List.getElem_of_mem he'
        have hij : j ≠ i := fun e => by subst e; rw [hej, r3] at hk'; exact hyx hk'.symm
        exact ⟨es.toList[i], List.mem_of_getElem? (i := i) (by rw [List.getElem?_set_ne hij]; simp), hk'⟩
    · rw [hlist, List.pairwise_iff_getElem]
      intro i i' hi hi' hlt
      simp only [List.length_set] at hi hi'
      rw [List.getElem_set, List.getElem_set]
      split
      · rename_i e1
        subst e1
        rw [if_neg (by omega)]
        exact fun e => hoth i' hi' (by omega) e.symm
      · split
        · rename_i e1 e2
          subst e2
          exact hoth i hi (fun e => e1 e.symm)
        · exact List.pairwise_iff_getElem.1 h3 i i' hi hi' hlt

/-- A look-up at the operation, for the walk. -/
theorem wpList_lookup_K {P : Program} (w : World) {ops : Array Oper} {rest : List Oper} {o : Oper} {a : Act} {Q : Exit → Act → World → Prop}
    (hg : o.guard = none) (m x : Operand) (t : TypeId) (c : Bool) (hop : o.op = Op.lookup t m x c)
    (k e : TypeId) (I : Value → Prop) (K : KeyAt P k I w) (ht : P.underlying t = some (.map k e)) (z : Value) (hz : (zeroValue e).run P w = .ok z w) (b : Nat) (G : Value → Option Value)
    (hm : a.eval m = .map (some b)) (hown : OwnsK w I b G) (key : Value) (hx : a.eval x = key) (hkey : I key)
    (hK : wpList P ops Q rest (a.put o.dst (if c then .tuple #[(G key).getD z, .bool (G key).isSome] else (G key).getD z)) w) :
    wpList P ops Q (o :: rest) a w := by
  refine wpList_plain hg fun K' hK' => ?_
  have hrun := hown.look c K ht hz hkey
  unfold Oper.wp
  simp [execOp, hop, hm, hx, hrun, Result.andThen]
  exact hK' _ _ hK

/-- A store at the operation, for the walk. -/
theorem wpList_mapUpdate_K {P : Program} (w : World) {ops : Array Oper} {rest : List Oper} {o : Oper} {a : Act} {Q : Exit → Act → World → Prop}
    (hg : o.guard = none) (m x v : Operand) (t : TypeId) (hop : o.op = Op.mapUpdate t m x v)
    (k e : TypeId) (I : Value → Prop) (K : KeyAt P k I w) (ht : P.underlying t = some (.map k e)) (b : Nat) (G : Value → Option Value)
    (hm : a.eval m = .map (some b)) (hown : OwnsK w I b G) (key val : Value) (hx : a.eval x = key) (hv : a.eval v = val) (hkey : I key)
    (hK : ∀ w' G', OwnsK w' I b G' → G' key = some val → (∀ y, y ≠ key → G' y = G y) → w.grownBy w' (some b) → wpList P ops Q rest (a.put o.dst undef) w') :
    wpList P ops Q (o :: rest) a w := by
  refine wpList_plain hg fun K' hK' => ?_
  obtain ⟨w', G', hrun, r1, r2, r3, r4⟩ := hown.store K ht hkey val
  unfold Oper.wp
  simp [execOp, hop, hm, hx, hv, hrun, Result.andThen]
  exact hK' _ _ (hK w' G' r1 r2 r3 r4)

/-- A look-up at a step of a region. -/
theorem step_lookup_K {P : Program} {w : World} {ops : Array Oper} {o : Oper} {a : Act} {K : Act → World → Prop} {Q : Exit → Act → World → Prop} {E : Prop} (hgd : o.guard = none) (m x : Operand) (t : TypeId) (c : Bool) (ho : o.op = Op.lookup t m x c)
    (k e : TypeId) (I : Value → Prop) (KA : KeyAt P k I w) (ht : P.underlying t = some (.map k e)) (z : Value) (hz : (zeroValue e).run P w = .ok z w) (b : Nat) (G : Value → Option Value)
    (hm : a.eval m = .map (some b)) (hown : OwnsK w I b G) (key : Value) (hx : a.eval x = key) (hkey : I key)
    (h : K (a.put o.dst (if c then .tuple #[(G key).getD z, .bool (G key).isSome] else (G key).getD z)) w) :
    if Region.wanted o (yielded ops a.tmps) = true then Oper.wp P o a w K Q else E := by
  have hw : Region.wanted o (yielded ops a.tmps) = true := by simp [Region.wanted, hgd]
  rw [if_pos hw]
  have hrun := hown.look c KA ht hz hkey
  unfold Oper.wp
  simp [execOp, ho, hm, hx, hrun, Result.andThen]
  exact h

/-- A store at a step of a region. -/
theorem step_mapUpdate_K {P : Program} {w : World} {ops : Array Oper} {o : Oper} {a : Act} {K : Act → World → Prop} {Q : Exit → Act → World → Prop} {E : Prop} (hgd : o.guard = none) (m x v : Operand) (t : TypeId) (ho : o.op = Op.mapUpdate t m x v)
    (k e : TypeId) (I : Value → Prop) (KA : KeyAt P k I w) (ht : P.underlying t = some (.map k e)) (b : Nat) (G : Value → Option Value)
    (hm : a.eval m = .map (some b)) (hown : OwnsK w I b G) (key val : Value) (hx : a.eval x = key) (hv : a.eval v = val) (hkey : I key)
    (h : ∀ w' G', OwnsK w' I b G' → G' key = some val → (∀ y, y ≠ key → G' y = G y) → w.grownBy w' (some b) → K (a.put o.dst undef) w') :
    if Region.wanted o (yielded ops a.tmps) = true then Oper.wp P o a w K Q else E := by
  have hw : Region.wanted o (yielded ops a.tmps) = true := by simp [Region.wanted, hgd]
  rw [if_pos hw]
  obtain ⟨w', G', hrun, r1, r2, r3, r4⟩ := hown.store KA ht hkey val
  unfold Oper.wp
  simp [execOp, ho, hm, hx, hv, hrun, Result.andThen]
  exact h w' G' r1 r2 r3 r4

/-- Blocks that are no strings' bytes and no views: their addresses can be told apart. -/
def Apart (w : World) (b : Nat) : Prop := (∃ c t f, w.heap[b]? = some (.cells c t f)) ∧ ∀ a : Addr, a.block = b → w.frozen? a = false
theorem Apart.of_block {w w' : World} {b : Nat} (h : Apart w b) (e : w'.heap[b]? = w.heap[b]?) : Apart w' b := by
  obtain ⟨⟨c, t, f, h1⟩, h2⟩ := h
  refine ⟨⟨c, t, f, e.trans h1⟩, fun a ha => ?_⟩
  have := h2 a ha
  subst ha
  simpa [World.frozen?, e] using this
theorem Apart.of_cell {w : World} {b o : Nat} {v : Value} (h : w.cell? ⟨b, o, none⟩ = some v) (hf : ∀ a : Addr, a.block = b → w.frozen? a = false) : Apart w b := by
  refine ⟨?_, hf⟩
  unfold World.cell? at h
  split at h
  · rename_i c t f hb; exact ⟨c, t, f, hb⟩
  · cases h

theorem sameAddr_apart {P : Program} {w : World} {a b : Addr} (hne : a ≠ b) (ha : Apart w a.block) (hb : Apart w b.block) : (sameAddr a b).run P w = .ok false w := by
  obtain ⟨⟨c, t, f, h1⟩, h2⟩ := ha
  obtain ⟨⟨c', t', f', h1'⟩, h2'⟩ := hb
  by_cases hbl : a.block = b.block
  · simp [sameAddr, hbl, hne]
  · have f1 := h2 a rfl
    have f2 := h2' b rfl
    have g1 := h2 ⟨a.block, c.size, none⟩ rfl
    have g2 := h2' ⟨b.block, c'.size, none⟩ rfl
    simp [sameAddr, hbl, f1, f2, g1, g2, noView, viewAt, World.shape?, h1, h1', mayBeOne, stringish]
end Go.Proofs.YtgcfgadkclfonaaGreatDoor

namespace Go.Proofs.YtgcfgadkclfonaaGreatDoor
set_option linter.unusedSimpArgs false
set_option linter.unusedVariables false
open Go.RowKit

/-- A key: where the first one stands, and how many there are. -/
def pk (b o n : Nat) : Value := .agg #[.pointer (some ⟨b, o, none⟩), .int .i64 n]
theorem pk_inj {b o n b' o' n' : Nat} (h : pk b o n = pk b' o' n') : b = b' ∧ o = o' ∧ n = n' := by
  simp [pk] at h
  omega
/-- Keys whose blocks can be told apart. -/
def PK (w : World) (v : Value) : Prop := ∃ b o n, v = pk b o n ∧ Apart w b

theorem kk_under : Tryz.prog.underlying 172 = some (.struct (Tryz.prog.fieldsOf 172)) := by kernel_rfl
theorem kk_held : Tryz.prog.stoodInHeld 172 = false := by kernel_rfl
theorem kk_fields : (Tryz.prog.fieldsOf 172).toList.map (fun f => (f.name, f.type, f.offset)) = [("first", 170, 0), ("count", 3, 1)] := by kernel_rfl
theorem kk_check (w : World) (em : Bool) (a : Option Addr) (n : Int) : (Instr.checkKey em 10000 172 (.agg #[.pointer a, .int .i64 n])).run Tryz.prog w = .ok () w := by kernel_rfl
theorem kk_part0 (w : World) (a : Option Addr) (n : Int) : (part 170 #[.pointer a, .int .i64 n] 0).run Tryz.prog w = .ok (.pointer a) w := by kernel_rfl
theorem kk_part1 (w : World) (a : Option Addr) (n : Int) : (part 3 #[.pointer a, .int .i64 n] 1).run Tryz.prog w = .ok (.int .i64 n) w := by kernel_rfl
theorem kk_ptr : Tryz.prog.underlying 170 = some (.pointer 60) := by kernel_rfl
theorem kk_size (w : World) : (sizeOf 60).run Tryz.prog w = .ok 5 w := by kernel_rfl
theorem kk_int : Tryz.prog.underlying 3 = some (.int .i64) := by kernel_rfl

theorem kk_equal (w : World) (a b : Addr) (n m : Int) (r : Bool) (h : (sameAddr a b).run Tryz.prog w = .ok r w) :
    (Op.equal 172 (.agg #[.pointer (some a), .int .i64 n]) (.agg #[.pointer (some b), .int .i64 m])).run Tryz.prog w = .ok (r && (n == m)) w := by
  have hp0 : ∀ d : Nat, (Op.equalIn (d + 1) 170 (.pointer (some a)) (.pointer (some b))).run Tryz.prog w = .ok r w := fun d => by
    simp [Op.equalIn, run_underlying kk_ptr, kk_size, h, Result.andThen]
  have hp : (Op.equalIn 9999 170 (.pointer (some a)) (.pointer (some b))).run Tryz.prog w = .ok r w := hp0 9998
  have hi : (Op.equalIn 9999 3 (.int .i64 n) (.int .i64 m)).run Tryz.prog w = .ok (n == m) w := run_equalIn_int w 9998 3 .i64 .i64 n m kk_int
  show (Op.equalIn (9999 + 1) _ _ _).run _ _ = _
  rw [run_equalIn_agg w 9999 _ _ _ kk_under kk_held]
  obtain ⟨f0, f1, hf⟩ : ∃ f0 f1, (Tryz.prog.fieldsOf 172).toList = [f0, f1] := by
    have h := congrArg List.length kk_fields
    simp only [List.length_map] at h
    match (Tryz.prog.fieldsOf 172).toList, h with
    | [f0, f1], _ => exact ⟨f0, f1, rfl⟩
  have hk := kk_fields
  rw [hf] at hk ⊢
  simp only [List.map_cons, List.map_nil, List.cons.injEq, Prod.mk.injEq, and_true] at hk
  obtain ⟨⟨n0, t0, o0⟩, n1, t1, o1⟩ := hk
  simp only [Op.eqFields, n0, t0, o0, n1, t1, o1]
  obtain ⟨q, hq⟩ : ∃ q, q = (n == m) := ⟨_, rfl⟩
  rw [← hq] at hi ⊢
  cases r <;> cases q <;> simp [kk_part0, kk_part1, hp, hi, Result.andThen]

theorem keyK {w : World} {J : Value → Prop} (hJ : ∀ v, J v → PK w v) : KeyAt Tryz.prog 172 J w where
  fields := ⟨_, kk_under⟩
  check em v hv := by obtain ⟨b, o, n, rfl, _⟩ := hJ v hv; exact kk_check w em _ _
  same v hv := by
    obtain ⟨b, o, n, rfl, _⟩ := hJ v hv
    have := kk_equal w ⟨b, o, none⟩ ⟨b, o, none⟩ n n true (run_sameAddr_same w _)
    simpa [pk] using this
  differ u v hu hv hne := by
    obtain ⟨b, o, n, rfl, h1⟩ := hJ u hu
    obtain ⟨b', o', n', rfl, h2⟩ := hJ v hv
    by_cases ha : (⟨b, o, none⟩ : Addr) = ⟨b', o', none⟩
    · have hn : n ≠ n' := fun e => hne (by rw [pk, pk, ha, e])
      have := kk_equal w ⟨b, o, none⟩ ⟨b', o', none⟩ n n' true (by rw [ha]; exact run_sameAddr_same w _)
      rw [pk, pk, this]
      have : ((n : Int) == (n' : Int)) = false := by simp; omega
      simp [this]
    · have := kk_equal w ⟨b, o, none⟩ ⟨b', o', none⟩ n n' false (sameAddr_apart ha h1 h2)
      rw [pk, pk, this]; rfl
  stays v hv := by
    obtain ⟨b, o, n, rfl, _⟩ := hJ v hv
    simp [pk, Instr.sameBits]

set_option maxHeartbeats 400000 in
theorem keyOfKids_any (w : World) (b o n c : Nat) (hn : 0 < n) (h72 : 72 * n ≤ 281474976710656) :
    Calls Tryz.prog 120 #[.slice (some ⟨b, o, none⟩) n c] w fun e w' => e = .returned (pk b o n) ∧ Below w.heap.size w w' := by
  have hni : (0 : Int) < (n : Int) := by omega
  have hn0 : ¬ (n : Int) = 0 := by omega
  go_enter Tryz.func120, Tryz.ntmps120
  go_wp2_with fail
  refine bodyPost_ret (v := pk b o n) (by simp [results, Tryz.results120, go_sem, pk]) rfl ⟨rfl, ?_⟩
  exact below_box _ _
end Go.Proofs.YtgcfgadkclfonaaGreatDoor

namespace Go.Proofs.YtgcfgadkclfonaaGreatDoor
set_option linter.unusedSimpArgs false
set_option linter.unusedVariables false
open Go.RowKit Go.Shelf

/-- The library's table of powers of ten, whatever is done from a block on. -/
def Tab (B : Nat) (w : World) : Prop := Lib.TabBelow Tryz.prog B w "internal/strconv.uint64pow10" .u64 Lib.pow10Tab
theorem Tab.on {B : Nat} {w w' : World} (h : Tab B w) (hb : Below B w w') : Tab B w' := fun W hW => h W (hb.trans hW)
theorem decL_lib (n : Nat) : decL n = Lib.decDigits n := by
  induction n using Nat.strongRecOn with
  | _ n ih =>
    by_cases h : n < 10
    · rw [decL_small h, Lib.decDigits, dif_pos h]
    · rw [decL_big h, Lib.decDigits, dif_neg h, ih (n / 10) (by omega)]
theorem itoa_any (B : Nat) (n : Int) (w : World) (h0 : 0 ≤ n) (h1 : n ≤ 999999) (ht : Tab B w) (hB : B ≤ w.heap.size) :
    Calls Tryz.prog 133 #[.int .i64 n] w fun e w' => (∃ t : ByteArray, e = .returned (.string t) ∧ t.data.toList = decL n.toNat ∧ t.size ≤ 6) ∧ Below w.heap.size w w' := by
  refine (Any.strconv_Itoa itoaL n (by omega) (by omega) w (ht w (Below.refl _ _))).mono ?_
  rintro e w' ⟨rfl, k, os, rfl⟩
  refine ⟨⟨_, rfl, ?_, ?_⟩, Lib.below_grow w.heap.size w (Nat.le_refl _) k os⟩
  · rw [decL_lib, Lib.itoa, if_neg (by omega)]
  · have := decL_len 5 n.toNat (by omega)
    rw [decL_lib] at this
    rw [Lib.itoa, if_neg (by omega)]
    simpa [ByteArray.size] using this

set_option maxHeartbeats 400000 in
theorem writeCommaA (B b : Nat) (m : Value) (l : List UInt8) (d : Nat) (w : World) (h : AskT B b m l w) (hl : l.length ≤ 1000000) (hd : d ≤ 9000000000000000000) (hBw : B ≤ w.heap.size) :
    Calls Tryz.prog 121 #[.pointer (some ⟨b, 0, none⟩), .int .i64 d] w fun e w' => e = .returned (.tuple #[]) ∧ AskT B b m (l ++ (if d = 0 then [] else [44])) w' ∧ Below B w w' ∧ Kept b w w' := by
  have HW := hid_of (writeByteA B b m l 44 w h (by omega) hBw)
  have HH := hid_of h
  by_cases h0 : d = 0
  · subst h0
    go_enter Tryz.func121, Tryz.ntmps121
    go_wp2_with fail
    go_end0
    exact ⟨rfl, by simpa using HH.out, Below.refl _ _, Lib.OthersKept.refl _ _ _⟩
  · have hd0 : (0 : Int) < (d : Int) := by omega
    have HE : Hid (l ++ (if d = 0 then [] else [44]) = l ++ [44]) := hid_of (by rw [if_neg h0])
    rw [HE.out]
    clear h0 h
    go_enter Tryz.func121, Tryz.ntmps121
    go_wp2_with fail
    refine HW.out.mono ?_
    rintro e w1 ⟨rfl, h1, hb1, hk1⟩
    have HF := hid_of (And.intro h1 (And.intro hb1 hk1))
    clear h1 hb1 hk1
    go_wp2_with fail
    go_end0
    exact ⟨rfl, HF.out⟩

theorem sel_ne : (60 : TypeId) ≠ 5 := by decide

set_option maxRecDepth 20000 in
set_option maxHeartbeats 1600000 in
theorem fieldA (B b : Nat) (m : Value) (l : List UInt8) (s : Se) (w : World) (v4 : Value) (h : AskT B b m l w) (hl : l.length ≤ 1000000) (hs : selB s = true) (hBw : B ≤ w.heap.size) (hb : b < w.heap.size) (ht : Tab B w) (hv4 : ∃ a n c, v4 = .slice a n c) :
    Calls Tryz.prog 122 #[.pointer (some ⟨b, 0, none⟩), .agg #[.string s.al, .string s.name, .bool s.one, .int .i64 s.id, v4]] w fun e w' => e = .returned (.tuple #[]) ∧ AskT B b m (l ++ headL s) w' ∧ Below B w w' ∧ Kept b w w' := by
  obtain ⟨sa, sn, sc, rfl⟩ := hv4
  have hid9 := selB_id hs
  have hnm : s.name.size ≤ 8 := by
    simp only [selB, Bool.and_eq_true] at hs
    exact name_size hs.1.1.1
  have hal : s.al.size ≤ 8 := by
    simp only [selB, Bool.and_eq_true, Bool.or_eq_true] at hs
    rcases hs.1.1.2 with h1 | h1
    · have := toList_len s.al
      rw [List.isEmpty_iff] at h1
      rw [h1] at this
      simp at this
      omega
    · exact name_size h1.1
  have HHD : Hid (headL s = (if s.al.toList.isEmpty = true then [] else s.al.toList ++ [58]) ++ s.name.toList ++ (if s.one = true then 40 :: decL s.id.toNat ++ [41] else [])) := hid_of rfl
  obtain ⟨hd, hhd⟩ : ∃ x, x = headL s := ⟨_, rfl⟩
  rw [← hhd] at HHD ⊢
  clear hhd hs
  generalize s.al = al at *
  generalize s.name = name at *
  generalize s.one = one at *
  generalize s.id = id at *
  have bB := below_box w (.cells #[.string al, .string name, .bool one, .int .i64 id, .slice sa sn sc] 60)
  have nB := block_new (w := w) #[.string al, .string name, .bool one, .int .i64 id, .slice sa sn sc] 60 rfl
  have hX := h.below bB
  have kX : Kept b w (w.alloc (.cells #[.string al, .string name, .bool one, .int .i64 id, .slice sa sn sc] 60)) := (Lib.OthersKept.refl _ _ w).alloc _
  have zX : w.heap.size < (w.alloc (.cells #[.string al, .string name, .bool one, .int .i64 id, .slice sa sn sc] 60)).heap.size := by simp
  have hne : w.heap.size ≠ b := by omega
  -- what is known of a world on the way
  have HB : Hid (∀ W, Kept b (w.alloc (.cells #[.string al, .string name, .bool one, .int .i64 id, .slice sa sn sc] 60)) W → W.cell? ⟨w.heap.size, 0, none⟩ = some (.string al) ∧ W.cell? ⟨w.heap.size, 1, none⟩ = some (.string name) ∧ W.cell? ⟨w.heap.size, 2, none⟩ = some (.bool one) ∧ W.cell? ⟨w.heap.size, 3, none⟩ = some (.int .i64 id)) := hid_of fun W hW => by
    have hb := hW.block nB hne sel_ne
    exact ⟨(box_at hb 0 (by simp)).1, (box_at hb 1 (by simp)).1, (box_at hb 2 (by simp)).1, (box_at hb 3 (by simp)).1⟩
  have b1 : ¬ 9223372036854775807 < al.size + 1 := by omega
  have hal1 : (al ++ ⟨#[58]⟩ : ByteArray).size = al.size + 1 := by rw [ByteArray.size_append]; rfl
  cases he : al.toList.isEmpty
  · have he' : (if al.toList.isEmpty = true then ([] : List UInt8) else al.toList ++ [58]) = al.data.toList ++ [58] := by rw [he, ByteArray.toList_eq]; rfl
    have HEE := hid_of he'
    clear he'
    go_enter Tryz.func122, Tryz.ntmps122
    go_wp2_with fail
    generalize hXe : w.alloc (.cells #[.string al, .string name, .bool one, .int .i64 id, .slice sa sn sc] 60) = X at *
    clear hXe
    obtain ⟨q0, q1, q2, q3⟩ := HB.out X (Lib.OthersKept.refl _ _ _)
    go_region_with (
      go_at_call 87
      refine (writeStringA B b m l _ X.drew hX (by omega) (by show B ≤ X.heap.size; omega)).mono ?_
      rintro e w1 ⟨rfl, h1, hb1, hk1⟩
      have bw1 : Below B w w1 := (bB.mono hBw).drew.trans hb1
      have kw1 : Kept b X w1 := hk1
      have h1 : AskT B b m (l ++ (al.data.toList ++ [58])) w1 := by simpa using h1
      clear q0 q1 q2 q3
      obtain ⟨q0, q1, q2, q3⟩ := HB.out w1 kw1)
    have hsz : al.data.size = al.size := rfl
    have hsn : name.data.size = name.size := rfl
    go_wp2_with fail
    have HD1 : Hid (hd = (al.data.toList ++ [58]) ++ name.toList ++ (if one = true then 40 :: decL id.toNat ++ [41] else [])) := hid_of (by rw [HHD.out, HEE.out])
    go_region_with (
      go_at_call 87
      refine (writeStringA B b m (l ++ (al.data.toList ++ [58])) name w1.drew h1 (by simp; skip; omega) (by show B ≤ w1.heap.size; have := bw1.size; omega)).mono ?_
      rintro e w2 ⟨rfl, h2, hb2, hk2⟩
      have bw2 := bw1.drew.trans hb2
      have kw2 : Kept b X w2 := Lib.OthersKept.trans (show Kept b X w1.drew from kw1) hk2
      clear q0 q1 q2 q3
      obtain ⟨q0, q1, q2, q3⟩ := HB.out w2 kw2)
    cases one
    · go_wp2_with fail
      go_end0
      refine ⟨rfl, ?_, bw2, kX.trans kw2⟩
      rw [HD1.out]
      simpa [ByteArray.toList_eq] using h2
    · have ht2 : Tab B w2.drew := ht.on bw2.drew
      have hIt := itoa_any B id w2.drew hid9.1 hid9.2 ht2 (by show B ≤ w2.heap.size; have := bw2.size; omega)
      have HIT := hid_of hIt
      clear hIt
      go_wp2_with fail
      go_region_with (first
        | (
          go_at_call 133
          refine HIT.out.mono ?_
          rintro e w3 ⟨⟨t, rfl, htl, ht6⟩, hb3⟩
          have HTL := hid_of htl
          clear htl
          have c1 : ¬ 9223372036854775807 < 1 + t.size := by omega
          have c2 : ¬ 9223372036854775807 < 1 + t.size + 1 := by omega
          have hts : (⟨#[40]⟩ ++ t ++ ⟨#[41]⟩ : ByteArray).size = 1 + t.size + 1 := by rw [ByteArray.size_append, ByteArray.size_append]; rfl
          have z3 := hb3.size
          have hll : (l ++ (al.data.toList ++ [58]) ++ name.data.toList).length ≤ 1000100 := by simp only [List.length_append, List.length_cons, List.length_nil, Array.length_toList]; omega
          have h3 : AskT B b m (l ++ (al.data.toList ++ [58]) ++ name.data.toList) w3 := AskT.below (w := w2.drew) h2 hb3
          have bw3 := bw2.drew.trans (hb3.mono (by show B ≤ w2.heap.size; have := bw2.size; omega))
          have kw3 : Kept b w2 w3 := fun k o hk _ _ => (hb3.block k (Array.getElem?_eq_some_iff.1 hk).1).trans hk)
        | (
          go_at_call 87
          refine (writeStringA B b m (l ++ (al.data.toList ++ [58]) ++ name.data.toList) _ w3 h3 (by rw [hts]; omega) (by have := bw3.size; omega)).mono ?_
          rintro e w4 ⟨rfl, h4, hb4, hk4⟩))
      go_wp2_with fail
      go_end0
      refine ⟨rfl, ?_, bw3.trans hb4, kX.trans (kw2.trans (kw3.trans hk4))⟩
      rw [HD1.out]
      simpa [ByteArray.toList_eq, HTL.out] using h4
  · have he' : (if al.toList.isEmpty = true then ([] : List UInt8) else al.toList ++ [58]) = [] := by rw [he]; rfl
    have HEE := hid_of he'
    clear he'
    go_enter Tryz.func122, Tryz.ntmps122
    go_wp2_with fail
    generalize hXe : w.alloc (.cells #[.string al, .string name, .bool one, .int .i64 id, .slice sa sn sc] 60) = X at *
    clear hXe
    obtain ⟨q0, q1, q2, q3⟩ := HB.out X (Lib.OthersKept.refl _ _ _)
    have bw1 : Below B w X := bB.mono hBw
    have kw1 : Kept b X X := Lib.OthersKept.refl _ _ _
    have h1 : AskT B b m (l ++ []) X := by simpa using hX
    have hsn : name.data.size = name.size := rfl
    have HD1 : Hid (hd = [] ++ name.toList ++ (if one = true then 40 :: decL id.toNat ++ [41] else [])) := hid_of (by rw [HHD.out, HEE.out])
    go_region_with (
      go_at_call 87
      refine (writeStringA B b m (l ++ []) name X.drew h1 (by simp; skip; omega) (by show B ≤ X.heap.size; have := bw1.size; omega)).mono ?_
      rintro e w2 ⟨rfl, h2, hb2, hk2⟩
      have bw2 := bw1.drew.trans hb2
      have kw2 : Kept b X w2 := Lib.OthersKept.trans (show Kept b X X.drew from kw1) hk2
      clear q0 q1 q2 q3
      obtain ⟨q0, q1, q2, q3⟩ := HB.out w2 kw2)
    cases one
    · go_wp2_with fail
      go_end0
      refine ⟨rfl, ?_, bw2, kX.trans kw2⟩
      rw [HD1.out]
      simpa [ByteArray.toList_eq] using h2
    · have ht2 : Tab B w2.drew := ht.on bw2.drew
      have hIt := itoa_any B id w2.drew hid9.1 hid9.2 ht2 (by show B ≤ w2.heap.size; have := bw2.size; omega)
      have HIT := hid_of hIt
      clear hIt
      go_wp2_with fail
      go_region_with (first
        | (
          go_at_call 133
          refine HIT.out.mono ?_
          rintro e w3 ⟨⟨t, rfl, htl, ht6⟩, hb3⟩
          have HTL := hid_of htl
          clear htl
          have c1 : ¬ 9223372036854775807 < 1 + t.size := by omega
          have c2 : ¬ 9223372036854775807 < 1 + t.size + 1 := by omega
          have hts : (⟨#[40]⟩ ++ t ++ ⟨#[41]⟩ : ByteArray).size = 1 + t.size + 1 := by rw [ByteArray.size_append, ByteArray.size_append]; rfl
          have z3 := hb3.size
          have hll : (l ++ [] ++ name.data.toList).length ≤ 1000100 := by simp only [List.length_append, List.length_cons, List.length_nil, Array.length_toList]; omega
          have h3 : AskT B b m (l ++ [] ++ name.data.toList) w3 := AskT.below (w := w2.drew) h2 hb3
          have bw3 := bw2.drew.trans (hb3.mono (by show B ≤ w2.heap.size; have := bw2.size; omega))
          have kw3 : Kept b w2 w3 := fun k o hk _ _ => (hb3.block k (Array.getElem?_eq_some_iff.1 hk).1).trans hk)
        | (
          go_at_call 87
          refine (writeStringA B b m (l ++ [] ++ name.data.toList) _ w3 h3 (by rw [hts]; omega) (by have := bw3.size; omega)).mono ?_
          rintro e w4 ⟨rfl, h4, hb4, hk4⟩))
      go_wp2_with fail
      go_end0
      refine ⟨rfl, ?_, bw3.trans hb4, kX.trans (kw2.trans (kw3.trans hk4))⟩
      rw [HD1.out]
      simpa [ByteArray.toList_eq, HTL.out] using h4
end Go.Proofs.YtgcfgadkclfonaaGreatDoor
