import Derived.Test.YtmemijccbmnaaaaGreatCopyS
import Derived.RowKit3
import Derived.Maps.OwnSet
import Derived.Maps.AppendAt
import Derived.LaidEql
import Derived.Test.YtmemijccbmnaaaaGreatJ1
import Derived.Deep.RegionWith
import Derived.BigRegion
import Derived.Laws.EntriesVeiled
namespace Go.Proofs.YtmemijccbmnaaaaGreat
set_option linter.unusedSimpArgs false
set_option linter.unusedVariables false
open Go.RowKit

/-- From a block on nothing is frozen. -/
def NF (lo : Nat) (w : World) : Prop := ∀ a : Addr, lo ≤ a.block → w.frozen? a = false
theorem NF.new (w : World) : NF w.heap.size w := fun a h => by simp [World.frozen?, Array.getElem?_eq_none h]
theorem NF.alloc {lo : Nat} {w : World} (h : NF lo w) (c : Array Value) (t : TypeId) : NF lo (w.alloc (.cells c t)) := fun a ha => by rw [frozen?_alloc_cells]; exact h a ha
theorem NF.set {lo : Nat} {w : World} (h : NF lo w) (p : Addr) (v : Value) : NF lo (w.setCell p v) := fun a ha => by rw [World.frozen?_setCell]; exact h a ha
theorem NF.puts {lo : Nat} : ∀ {w : World} (h : NF lo w) (N k : Nat) (cs : List Value), NF lo (puts w N k cs)
  | w, h, N, k, [] => h
  | w, h, N, k, c :: cs => NF.puts (h.set ⟨N, k, none⟩ c) N (k + 1) cs
theorem NF.call {lo : Nat} {w w' : World} (h : NF lo w) (hb : Below w.heap.size w w') (h' : NF w.heap.size w') : NF lo w' := fun a ha => by
  rcases Nat.lt_or_ge a.block w.heap.size with h1 | h1
  · rw [hb.frozen h1]; exact h a ha
  · exact h' a h1
theorem NF.three (w : World) (c1 c2 c3 : Array Value) (t1 t2 t3 : TypeId) : NF w.heap.size (((w.alloc (.cells c1 t1)).alloc (.cells c2 t2)).alloc (.cells c3 t3)) := (((NF.new w).alloc c1 t1).alloc c2 t2).alloc c3 t3
set_option maxHeartbeats 400000 in
theorem toStringS_nf (ns : List ByteArray) (a : Option Addr) (c : Nat) (w : World) (hS : Strs w (· < w.heap.size) ns a) (hb : 16 * ns.length ≤ 281474976710656) :
    Calls Tryz.prog 54 #[.slice a ns.length c] w fun e w' => e = .returned (.slice (some ⟨w.heap.size, 0, none⟩) ns.length ns.length) ∧ Below w.heap.size w w' ∧ w'.heap.size = w.heap.size + 1 ∧
      Strs w' (· = w.heap.size) ns (some ⟨w.heap.size, 0, none⟩) ∧ NF w.heap.size w' := by
  have hS' := hS
  obtain ⟨h1, h2, h3⟩ := hS
  unfold maxLen at h3
  have hmk := run_make_row' (P := Tryz.prog) 26 9 (.string ByteArray.empty) 16 Tryz.underlying26 info9 rfl .i64 .i64 ns.length hb h3
  go_enter Tryz.func54, Tryz.ntmps54
  go_wp2
  go_loopw [4] (fun i wr => ∃ k : Nat, k ≤ ns.length ∧ i = .int .i64 k ∧ Below w.heap.size w wr ∧ wr.heap.size = w.heap.size + 1 ∧ wr.rowIs w.heap.size 9 ns.length (fun j => if j < k then .string (nth ns j) else .string ByteArray.empty) ∧ NF w.heap.size wr) (fun i _ => ns.length - (intOf i).toNat)
  case atStart =>
    refine ⟨0, Nat.zero_le _, rfl, (Below.refl _ _).alloc (Nat.le_refl _) _, by simp, ?_, (NF.new w).alloc _ _⟩
    exact (World.rowIs_made w _ _ _).congr fun i hi => by simp
  case round =>
    obtain ⟨k, hk, rfl, hbel, hsz, hrow, hnf⟩ := hrel
    have HNF : Hid (NF w.heap.size wr) := hnf
    clear hnf
    by_cases hlt : k < ns.length
    · obtain ⟨b, off, rfl, hbl, hc⟩ := h1 (by intro e; simp [e] at hlt)
      have hck : wr.cell? ⟨b, off + k, none⟩ = some (.string (nth ns k)) := (hbel.cell (p := ⟨b, off + k, none⟩) hbl).trans (hc k hlt)
      have hfz : wr.frozen? ⟨w.heap.size, k, none⟩ = false := hrow.frozen k
      have hcc : ∃ v, wr.cell? ⟨w.heap.size, k, none⟩ = some v := ⟨_, hrow.cell hlt⟩
      obtain ⟨v, hcv⟩ := hcc
      go_wp2
      go_roundw
      case rel =>
        refine ⟨k + 1, by omega, by go_num, hbel.setCell (Nat.le_refl _) _, by simp [World.setCell, hsz], ?_, HNF.out.set _ _⟩
        refine (hrow.set k _).congr fun i hi => ?_
        by_cases e1 : i = k
        · subst e1; simp
        · by_cases e2 : i < k
          · simp [e1, e2, show i < k + 1 by omega]
          · simp [e1, e2, show ¬ i < k + 1 by omega]
      case measure => simp [intOf]; omega
    · go_wp2
      go_ret
      have e : k = ns.length := by omega
      subst e
      refine ⟨rfl, hbel, hsz, ⟨fun _ => ⟨_, 0, rfl, rfl, fun i hi => ?_⟩, h2, by unfold maxLen; omega⟩, HNF.out⟩
      have := hrow.cell hi
      rw [if_pos hi] at this
      simpa using this
end Go.Proofs.YtmemijccbmnaaaaGreat

namespace Go.Proofs.YtmemijccbmnaaaaGreat
set_option linter.unusedSimpArgs false
set_option linter.unusedVariables false
open Go.RowKit Go.Maps Go.ChangeMaps Go.MapKept

/-- What is asked of keys, in a world: they can be asked for, and == says which of them are one. -/
structure KeyAt (P : Program) (k : TypeId) (I : Value → Prop) (w : World) : Prop where
  fields : ∃ fs, P.underlying k = some (.struct fs)
  check : ∀ (em : Bool) (v : Value), I v → (Instr.checkKey em 10000 k v).run P w = .ok () w
  same : ∀ v : Value, I v → (Op.equal k v v).run P w = .ok true w
  differ : ∀ u v : Value, I u → I v → u ≠ v → (Op.equal k u v).run P w = .ok false w
  stays : ∀ v : Value, I v → Instr.sameBits 10000 v v = true

theorem findAsking_at {P : Program} {k : TypeId} {I : Value → Prop} {w : World} (K : KeyAt P k I w) (x : Value) (hx : I x) : ∀ (es : List MapEntry) (i : Nat), (∀ e ∈ es, I e.key) →
    ((Instr.findAsking k x es i).run P w = .ok none w ∧ ∀ e ∈ es, e.key ≠ x) ∨ ∃ j e, (Instr.findAsking k x es i).run P w = .ok (some (i + j, e.val)) w ∧ es[j]? = some e ∧ e.key = x
  | [], i, _ => Or.inl ⟨by simp [Instr.findAsking], by simp⟩
  | e :: es, i, h => by
    have he := h e (by simp)
    by_cases hk : e.key = x
    · refine Or.inr ⟨0, e, ?_, rfl, hk⟩
      have h1 := K.same x hx
      simp [Instr.findAsking, hk, h1, Result.andThen]
    · have h1 := K.differ x e.key hx he (fun h => hk h.symm)
      rcases findAsking_at K x hx es (i + 1) (fun e' he' => h e' (by simp [he'])) with ⟨h2, h3⟩ | ⟨j, e', h2, h3, h4⟩
      · refine Or.inl ⟨?_, fun e' he' => ?_⟩
        · simp [Instr.findAsking, h1, h2, Result.andThen]
        · rcases List.mem_cons.1 he' with rfl | h5
          · exact hk
          · exact h3 e' h5
      · refine Or.inr ⟨j + 1, e', ?_, by simpa using h3, h4⟩
        simp [Instr.findAsking, h1, h2, Result.andThen]
        omega

theorem findKey_at {P : Program} {k : TypeId} {I : Value → Prop} {w : World} (K : KeyAt P k I w) (x : Value) (hx : I x) (es : List MapEntry) (h : ∀ e ∈ es, I e.key) :
    ((Instr.findKey k x es).run P w = .ok none w ∧ ∀ e ∈ es, e.key ≠ x) ∨ ∃ j e, (Instr.findKey k x es).run P w = .ok (some (j, e.val)) w ∧ es[j]? = some e ∧ e.key = x := by
  obtain ⟨fs, hfs⟩ := K.fields
  match es, h with
  | [], _ => exact Or.inl ⟨by simp [Instr.findKey, run_underlying hfs, Instr.findNow, Result.andThen], by simp⟩
  | e :: es, h =>
    have hn : Instr.findNow (.struct fs) x (e :: es) 0 = none := by simp [Instr.findNow, Instr.sameNow]
    rcases findAsking_at K x hx (e :: es) 0 h with ⟨h2, h3⟩ | ⟨j, e', h2, h3, h4⟩
    · exact Or.inl ⟨by simp [Instr.findKey, run_underlying hfs, hn, h2, Result.andThen], h3⟩
    · exact Or.inr ⟨j, e', by simp [Instr.findKey, run_underlying hfs, hn, h2, Result.andThen], h3, h4⟩

/-- Block b of the world is a map that has G's values under G's keys. -/
def OwnsK (w : World) (I : Value → Prop) (b : Nat) (G : Value → Option Value) : Prop :=
  ∃ es clock, w.heap[b]? = some (.map es clock) ∧ (∀ e ∈ es.toList, I e.key ∧ G e.key = some e.val) ∧ (∀ k v, G k = some v → ∃ e ∈ es.toList, e.key = k) ∧ es.toList.Pairwise (fun a b => a.key ≠ b.key)

theorem OwnsK.lt {w : World} {I : Value → Prop} {b : Nat} {G : Value → Option Value} (h : OwnsK w I b G) : b < w.heap.size := by
  obtain ⟨es, clock, hb, _⟩ := h
  exact (Array.getElem?_eq_some_iff.1 hb).1
theorem OwnsK.of_block {w w' : World} {I : Value → Prop} {b : Nat} {G : Value → Option Value} (h : OwnsK w I b G) (e : w'.heap[b]? = w.heap[b]?) : OwnsK w' I b G := by
  obtain ⟨es, clock, hb, r⟩ := h
  exact ⟨es, clock, e.trans hb, r⟩
theorem OwnsK.made (w : World) (I : Value → Prop) : OwnsK (w.alloc (.map #[] 0)) I w.heap.size (fun _ => none) :=
  ⟨#[], 0, (MapKept.heap_alloc w _).1, by simp, by simp, by simp⟩
theorem OwnsK.key {w : World} {I : Value → Prop} {b : Nat} {G : Value → Option Value} (h : OwnsK w I b G) {k v : Value} (hk : G k = some v) : I k := by
  obtain ⟨es, clock, hb, h1, h2, _⟩ := h
  obtain ⟨e, he, rfl⟩ := h2 k v hk
  exact (h1 e he).1

theorem OwnsK.look {P : Program} {k : TypeId} {I : Value → Prop} {w : World} {b : Nat} {G : Value → Option Value} {t e : TypeId} (c : Bool) (h : OwnsK w I b G) (K : KeyAt P k I w) (ht : P.underlying t = some (.map k e)) {z : Value} (hz : (zeroValue e).run P w = .ok z w) {x : Value} (hx : I x) :
    (Instr.lookup t (.map (some b)) x c).run P w = .ok (if c then .tuple #[(G x).getD z, .bool (G x).isSome] else (G x).getD z) w := by
  obtain ⟨es, clock, hb, h1, h2, h3⟩ := h
  rcases findKey_at K x hx es.toList (fun e he => (h1 e he).1) with ⟨r1, r2⟩ | ⟨j, e0, r1, r2, r3⟩
  · have hG : G x = none := by
      cases hg : G x with
      | none => rfl
      | some v => obtain ⟨e1, he1, hk1⟩ := h2 x v hg; exact absurd hk1 (r2 e1 he1)
    simp [Instr.lookup, run_underlying ht, MapKept.run_getObj_map hb, K.check _ x hx, r1, hz, hG, Result.andThen]
  · have hG : G x = some e0.val := by rw [← r3]; exact (h1 e0 (List.mem_of_getElem? r2)).2
    simp [Instr.lookup, run_underlying ht, MapKept.run_getObj_map hb, K.check _ x hx, r1, hG, Result.andThen]

theorem OwnsK.store {P : Program} {k : TypeId} {I : Value → Prop} {w : World} {b : Nat} {G : Value → Option Value} {t e : TypeId} (h : OwnsK w I b G) (K : KeyAt P k I w) (ht : P.underlying t = some (.map k e)) {x : Value} (hx : I x) (v : Value) :
    ∃ w' G', (Instr.mapUpdate t (.map (some b)) x v).run P w = .ok () w' ∧ OwnsK w' I b G' ∧ G' x = some v ∧ (∀ y, y ≠ x → G' y = G y) ∧ w.grownBy w' (some b) := by
  classical
  obtain ⟨es, clock, hb, h1, h2, h3⟩ := h
  have hgrow : ∀ o, w.grownBy (setBlock w b o) (some b) := fun o => ⟨rfl, rfl, rfl, by simp [setBlock], fun i _ hi => heap_setBlock_other hb _ (fun e => hi (by rw [e]))⟩
  rcases findKey_at K x hx es.toList (fun e he => (h1 e he).1) with ⟨r1, r2⟩ | ⟨j, e0, r1, r2, r3⟩
  · refine ⟨setBlock w b (.map (es.push ⟨x, v, clock⟩) (clock + 1)), fun y => if y = x then some v else G y, ?_, ⟨es.push ⟨x, v, clock⟩, clock + 1, heap_setBlock_same hb _, ?_, ?_, ?_⟩, by simp, fun y hy => by simp [hy], hgrow _⟩
    · simp [Instr.mapUpdate, run_underlying ht, MapKept.run_getObj_map hb, K.check false x hx, r1, MapKept.run_setObj_map _ hb, Result.andThen, setBlock]
    · intro e' he'
      simp only [Array.toList_push, List.mem_append, List.mem_singleton] at he'
      rcases he' with he' | rfl
      · exact ⟨(h1 e' he').1, by simp only; rw [if_neg (r2 e' he')]; exact (h1 e' he').2⟩
      · exact ⟨hx, by simp⟩
    · intro y u hy
      simp only at hy
      by_cases hyx : y = x
      · exact ⟨⟨x, v, clock⟩, by simp, hyx.symm⟩
      · rw [if_neg hyx] at hy
        obtain ⟨e', he', hk'⟩ := h2 y u hy
        exact ⟨e', by simp only [Array.toList_push, List.mem_append]; exact Or.inl he', hk'⟩
    · rw [Array.toList_push, List.pairwise_append]
      exact ⟨h3, by simp, fun a ha c hc => by simp at hc; subst hc; exact r2 a ha⟩
  · have hj : es[j]? = some e0 := by simpa using r2
    have hlist : (es.modify j (fun e' => { e' with key := x, val := v })).toList = es.toList.set j { e0 with key := x, val := v } := by rw [Array.toList_modify, modify_eq_set _ _ _ _ r2]
    have hjl : j < es.toList.length := (List.getElem?_eq_some_iff.1 r2).1
    have hej : es.toList[j] = e0 := (List.getElem?_eq_some_iff.1 r2).2
    have hoth : ∀ (i : Nat) (hi : i < es.toList.length), i ≠ j → es.toList[i].key ≠ x := fun i hi hij => by
      rcases Nat.lt_or_gt_of_ne hij with hlt | hlt
      · have := List.pairwise_iff_getElem.1 h3 i j hi hjl hlt
        rw [hej, r3] at this; exact this
      · have := List.pairwise_iff_getElem.1 h3 j i hjl hi hlt
        rw [hej, r3] at this; exact fun e => this e.symm
    refine ⟨setBlock w b (.map (es.modify j (fun e' => { e' with key := x, val := v })) clock), fun y => if y = x then some v else G y, ?_, ⟨_, clock, heap_setBlock_same hb _, ?_, ?_, ?_⟩, by simp, fun y hy => by simp [hy], hgrow _⟩
    · have hs := K.stays x hx
      simp [Instr.mapUpdate, run_underlying ht, MapKept.run_getObj_map hb, K.check false x hx, r1, hj, r3, Instr.keyThatStays, hs, MapKept.run_setObj_map _ hb, Result.andThen, setBlock]
    · intro e' he'
      rw [hlist] at he'
      obtain ⟨i, hi, rfl⟩ := List.getElem_of_mem he'
      rw [List.getElem_set]
      split
      · exact ⟨hx, by simp⟩
      · rename_i hne
        have hi' : i < es.toList.length := by simpa using hi
        exact ⟨(h1 _ (List.getElem_mem hi')).1, by simp only; rw [if_neg (hoth i hi' (fun e => hne e.symm))]; exact (h1 _ (List.getElem_mem hi')).2⟩
    · intro y u hy
      rw [hlist]
      simp only at hy
      by_cases hyx : y = x
      · exact ⟨{ e0 with key := x, val := v }, List.mem_of_getElem? (i := j) (by rw [List.getElem?_set_self hjl]), hyx.symm⟩
      · rw [if_neg hyx] at hy
        obtain ⟨e', he', hk'⟩ := h2 y u hy
        obtain ⟨i, hi, rfl⟩ := List.getElem_of_mem he'
        have hij : j ≠ i := fun e => by subst e; rw [hej, r3] at hk'; exact hyx hk'.symm
        exact ⟨es.toList[i], List.mem_of_getElem? (i := i) (by rw [List.getElem?_set_ne hij]; simp), hk'⟩
    · rw [hlist, List.pairwise_iff_getElem]
      intro i i' hi hi' hlt
      simp only [List.length_set] at hi hi'
      rw [List.getElem_set, List.getElem_set]
      split
      · rename_i e1
        subst e1
        rw [if_neg (by omega)]
        exact fun e => hoth i' hi' (by omega) e.symm
      · split
        · rename_i e1 e2
          subst e2
          exact hoth i hi (fun e => e1 e.symm)
        · exact List.pairwise_iff_getElem.1 h3 i i' hi hi' hlt

/-- Blocks that are no strings' bytes and no views: their addresses can be told apart. -/
def Apart (w : World) (b : Nat) : Prop := (∃ c t f, w.heap[b]? = some (.cells c t f)) ∧ ∀ a : Addr, a.block = b → w.frozen? a = false
theorem Apart.of_block {w w' : World} {b : Nat} (h : Apart w b) (e : w'.heap[b]? = w.heap[b]?) : Apart w' b := by
  obtain ⟨⟨c, t, f, h1⟩, h2⟩ := h
  refine ⟨⟨c, t, f, e.trans h1⟩, fun a ha => ?_⟩
  have := h2 a ha
  subst ha
  simpa [World.frozen?, e] using this
end Go.Proofs.YtmemijccbmnaaaaGreat

namespace Go.Proofs.YtmemijccbmnaaaaGreat
set_option linter.unusedSimpArgs false
set_option linter.unusedVariables false
open Go.RowKit

/-- A key: where the first one stands, and how many there are. -/
def pk (b o n : Nat) : Value := .agg #[.pointer (some ⟨b, o, none⟩), .int .i64 n]
theorem pk_inj {b o n b' o' n' : Nat} (h : pk b o n = pk b' o' n') : b = b' ∧ o = o' ∧ n = n' := by
  simp [pk] at h
  omega
end Go.Proofs.YtmemijccbmnaaaaGreat

namespace Go.Proofs.YtmemijccbmnaaaaGreat
set_option linter.unusedSimpArgs false
set_option linter.unusedVariables false
open Go.RowKit

end Go.Proofs.YtmemijccbmnaaaaGreat

namespace Go.Proofs.YtmemijccbmnaaaaGreat
set_option linter.unusedSimpArgs false
set_option linter.unusedVariables false
open Go.RowKit

mutual
/-- What a value weighs, with all that is in it. -/
def wV (ow : V → Nat) : V → Nat
  | .mk s n t ns ks => ow (.mk s n t ns ks) + wL ow ks
/-- The same of a list of values. -/
def wL (ow : V → Nat) : List V → Nat
  | [] => 0
  | k :: r => wV ow k + wL ow r
end
theorem wV_eq (ow : V → Nat) (x : V) : wV ow x = ow x + wL ow x.kids := by obtain ⟨s, n, t, ns, ks⟩ := x; simp only [wV]
theorem wL_append (ow : V → Nat) (a b : List V) : wL ow (a ++ b) = wL ow a + wL ow b := by
  induction a with
  | nil => simp [wL]
  | cons k r ih => simp [wL, ih]; omega
theorem take_kth' (ks : List V) (k : Nat) (h : k < ks.length) : ks.take (k + 1) = ks.take k ++ [kth ks k] := by
  rw [List.take_succ_eq_append_getElem h]
  congr 2
  simp [kth, List.getD_eq_getElem?_getD, h]
theorem wL_take (ow : V → Nat) (ks : List V) (k : Nat) (h : k < ks.length) : wL ow (ks.take (k + 1)) = wL ow (ks.take k) + wV ow (kth ks k) := by
  rw [take_kth' ks k h, wL_append]; simp [wL]
theorem wL_part (ow : V → Nat) (ks : List V) (k : Nat) : wL ow (ks.take k) ≤ wL ow ks := by
  conv => rhs; rw [← List.take_append_drop k ks]
  rw [wL_append]; omega
theorem wV_le (ow : V → Nat) (ks : List V) (k : Nat) (h : k < ks.length) : wV ow (kth ks k) ≤ wL ow ks := by
  have h1 := wL_take ow ks k h
  have h2 := wL_part ow ks (k + 1)
  omega
theorem cntV_eq (x : V) : cntV x = 1 + cntL x.kids := by obtain ⟨s, n, t, ns, ks⟩ := x; simp only [cntV]
theorem cntL_drop (ks : List V) (k : Nat) (h : k < ks.length) : cntL (ks.drop k) = cntV (kth ks k) + cntL (ks.drop (k + 1)) := by
  have e : ks.drop k = kth ks k :: ks.drop (k + 1) := by
    rw [List.drop_eq_getElem_cons h]
    congr 1
    simp [kth, List.getD_eq_getElem?_getD, h]
  rw [e]; simp [cntL]
theorem cntL_part (ks : List V) (k : Nat) : cntL (ks.drop k) ≤ cntL ks := by
  conv => rhs; rw [← List.take_append_drop k ks]
  rw [cntL_append]; omega
theorem cntV_le (ks : List V) (k : Nat) (h : k < ks.length) : cntV (kth ks k) ≤ cntL ks := by
  have h1 := cntL_drop ks k h
  have h2 := cntL_part ks k
  omega

/-- Kids that are open: where they stand, how many are done, and what these weigh. -/
structure Fr where
  b : Nat
  o : Nat
  c : Nat
  ks : List V
  d : Nat
  x : Nat
def Fr.cells (f : Fr) : List Value := [.slice (some ⟨f.b, f.o, none⟩) f.ks.length f.c, .int .i64 f.d, .int .i64 f.x]

/-- The kids f stand in one of the kids below them, and so on down to the root; those below are done but for what is open above them. -/
def Under (ow : V → Nat) (root : V) : Fr → List Fr → Prop
  | f, [] => f.ks = [root]
  | f, g :: r => (0 < g.d ∧ g.d ≤ g.ks.length ∧ f.ks = (kth g.ks (g.d - 1)).kids ∧ g.x + wL ow f.ks = wL ow (g.ks.take g.d)) ∧ Under ow root g r

theorem Under.kids {ow : V → Nat} {root : V} {f g : Fr} {r : List Fr} (h : Under ow root f r) (e : g.ks = f.ks) : Under ow root g r := by
  match r, h with
  | [], h => exact e.trans h
  | a :: r, h => exact ⟨⟨h.1.1, h.1.2.1, e.trans h.1.2.2.1, by rw [e]; exact h.1.2.2.2⟩, h.2⟩
theorem Under.le {ow : V → Nat} {root : V} : ∀ {r : List Fr} {f : Fr}, Under ow root f r → wL ow f.ks ≤ wV ow root ∧ r.length + cntL f.ks ≤ cntV root
  | [], f, h => by
    have h' : f.ks = [root] := h
    rw [h']; simp [wL, cntL]
  | g :: r, f, h => by
    obtain ⟨⟨h1, h2, h3, -⟩, h4⟩ := h
    have ih := Under.le h4
    have hk : g.d - 1 < g.ks.length := by omega
    have a1 := wV_le ow g.ks (g.d - 1) hk
    have a2 := cntV_le g.ks (g.d - 1) hk
    rw [wV_eq, ← h3] at a1
    rw [cntV_eq, ← h3] at a2
    simp only [List.length_cons]
    omega
/-- Values that stand in a row. -/
def KidsAt (w : World) (P : Nat → Prop) (b o : Nat) (ks : List V) : Prop := P b ∧ 80 * ks.length ≤ 281474976710656 ∧
  ∃ C : Nat → Nat → Value, (∀ i, i < ks.length → ∀ j, j < 5 → w.cell? ⟨b, o + i * 5 + j, none⟩ = some (C i j)) ∧ ∀ i, i < ks.length → Rep w P (kth ks i) (.agg #[C i 0, C i 1, C i 2, C i 3, C i 4])

theorem Kids.at {w : World} {P : Nat → Prop} {ks : List V} {ka : Option Addr} (h : Kids w P ks ka) (hne : ks ≠ []) : ∃ b o, ka = some ⟨b, o, none⟩ ∧ KidsAt w P b o ks := by
  obtain ⟨h80, b, off, C, h1, h2, h3⟩ := h
  obtain ⟨rfl, hb⟩ := h1 hne
  exact ⟨b, off, rfl, hb, h80, C, h2, h3⟩

/-- What is known of kids: those that are open weigh whatever; all others what they weigh. -/
def KnOk (w : World) (P : Nat → Prop) (ow : V → Nat) (G : Value → Option Value) (st : List Fr) : Prop :=
  ∀ b o n v, G (pk b o n) = some v → (∃ f, f ∈ st ∧ f.b = b ∧ f.o = o ∧ f.ks.length = n ∧ KidsAt w P b o f.ks) ∨ ∀ L, L.length = n → KidsAt w P b o L → v = .int .i64 (wL ow L : Nat)

/-- One more is done; the same kids stay open. -/
theorem KnOk.stay {w : World} {P : Nat → Prop} {ow : V → Nat} {G : Value → Option Value} {f f' : Fr} {r : List Fr} (h : KnOk w P ow G (f :: r)) (hb : f'.b = f.b ∧ f'.o = f.o ∧ f'.ks = f.ks) : KnOk w P ow G (f' :: r) := by
  intro b o n v hv
  rcases h b o n v hv with ⟨k, hk, k1, k2, k3, k4⟩ | hc
  · left
    rcases List.mem_cons.1 hk with rfl | hk
    · exact ⟨f', by simp, by rw [hb.1, k1], by rw [hb.2.1, k2], by rw [hb.2.2, k3], by rw [hb.2.2]; exact k4⟩
    · exact ⟨k, by simp [hk], k1, k2, k3, k4⟩
  · exact Or.inr hc

/-- New kids are open. -/
theorem KnOk.push {w : World} {P : Nat → Prop} {ow : V → Nat} {G G' : Value → Option Value} {f g : Fr} {r : List Fr} (h : KnOk w P ow G (f :: r)) (hK : KidsAt w P g.b g.o g.ks)
    (h2 : ∀ y, y ≠ pk g.b g.o g.ks.length → G' y = G y) : KnOk w P ow G' (g :: f :: r) := by
  intro b o n v hv
  by_cases e : pk b o n = pk g.b g.o g.ks.length
  · obtain ⟨rfl, rfl, rfl⟩ := pk_inj e
    exact Or.inl ⟨g, by simp, rfl, rfl, rfl, hK⟩
  · rw [h2 _ e] at hv
    rcases h b o n v hv with ⟨k, hk, k1, k2, k3, k4⟩ | hc
    · exact Or.inl ⟨k, List.mem_cons_of_mem _ hk, k1, k2, k3, k4⟩
    · exact Or.inr hc
end Go.Proofs.YtmemijccbmnaaaaGreat

namespace Go.Proofs.YtmemijccbmnaaaaGreat
set_option linter.unusedSimpArgs false
set_option linter.unusedVariables false
open Go.RowKit

mutual
/-- How great a value is, itself not counted. -/
def szV : V → Nat
  | .mk _ _ t ns ks => t.size + szNs ns + (ks.length + sL ks)
/-- How great values are together, themselves not counted. -/
def sL : List V → Nat
  | [] => 0
  | k :: r => szV k + sL r
end
theorem sL_append (a b : List V) : sL (a ++ b) = sL a + sL b := by
  induction a with
  | nil => simp [sL]
  | cons k r ih => simp [sL, ih]; omega
theorem sL_take (ks : List V) (k : Nat) (h : k < ks.length) : sL (ks.take (k + 1)) = sL (ks.take k) + szV (kth ks k) := by
  rw [take_kth' ks k h, sL_append]; simp [sL]
theorem szV_kth (ks : List V) (k : Nat) (h : k < ks.length) : szV (kth ks k) ≤ sL ks := by
  have h1 := sL_take ks k h
  have h2 : sL (ks.take (k + 1)) ≤ sL ks := by
    conv => rhs; rw [← List.take_append_drop (k + 1) ks]
    rw [sL_append]; omega
  omega
theorem szV_eq (x : V) : szV x = x.text.size + szNs x.names + (x.kids.length + sL x.kids) := by obtain ⟨s, n, t, ns, ks⟩ := x; simp only [szV]
theorem len_szNs (ns : List ByteArray) : ns.length ≤ szNs ns := by simp [szNs]
/-- What holds of a value if it holds of one whose kids it holds of. -/
theorem v_ind {q : V → Prop} (h : ∀ x : V, (∀ i, i < x.kids.length → q (kth x.kids i)) → q x) : ∀ x : V, q x := by
  have key : ∀ m : Nat, ∀ x : V, SizeOf.sizeOf x < m → q x := by
    intro m
    induction m with
    | zero => intro x h; omega
    | succ m ih =>
      intro x hx
      refine h x fun i hi => ih _ ?_
      obtain ⟨s, n, t, ns, ks⟩ := x
      have := kth_lt ks i hi
      simp at hx
      simp only at hi
      show SizeOf.sizeOf (kth ks i) < m
      omega
  exact fun x => key _ x (Nat.lt_succ_self _)
theorem sums {f g : V → Nat} {F G : List V → Nat} (hF0 : F [] = 0) (hG0 : G [] = 0) (hF : ∀ k r, F (k :: r) = f k + F r) (hG : ∀ k r, G (k :: r) = g k + G r) (ks : List V) (h : ∀ i, i < ks.length → f (kth ks i) ≤ g (kth ks i)) : F ks ≤ G ks := by
  induction ks with
  | nil => omega
  | cons k r ih =>
    have h1 := ih fun i hi => h (i + 1) (by simpa using hi)
    have h2 := h 0 (by simp)
    rw [hF, hG]
    simp [kth] at h2
    omega
theorem cntV_sz (x : V) : cntV x ≤ 1 + szV x := by
  refine v_ind (q := fun x => cntV x ≤ 1 + szV x) (fun x ih => ?_) x
  have h1 := sums (f := cntV) (g := fun k => 1 + szV k) (F := cntL) (G := fun l => l.length + sL l) rfl rfl (fun _ _ => by simp [cntL]) (fun _ _ => by simp [sL]; omega) x.kids ih
  rw [cntV_eq, szV_eq]
  omega

/-- What szValue does with a value: it takes its size. -/
def SzSum (x : V) : Prop := ∀ (w : World) (B : Nat) (v : Value) (left : Int), Rep w (· < B) x v → B ≤ w.heap.size → 0 ≤ left → left ≤ 1048576 →
  Calls Tryz.prog 21 #[v, .int .i64 left] w fun e w' => ∃ y : Int, e = .returned (.int .i64 y) ∧ -1 ≤ y ∧ y ≤ left ∧ (0 ≤ y → y + szV x ≤ left) ∧ Below w.heap.size w w'

set_option maxHeartbeats 400000 in
theorem szValueS_sum (ks : List V) (IH : ∀ i, i < ks.length → SzSum (kth ks i)) (w : World) (B : Nat) (a : Option Addr) (c : Nat) (left : Int) (hK : Kids w (· < B) ks a) (hB : B ≤ w.heap.size) (hl0 : 0 ≤ left) (hl1 : left ≤ 1048576) :
    Calls Tryz.prog 43 #[.slice a ks.length c, .int .i64 left] w fun e w' => ∃ x : Int, e = .returned (.int .i64 x) ∧ -1 ≤ x ∧ x ≤ left ∧ (0 ≤ x → x + (ks.length + sL ks : Nat) ≤ left) ∧ Below w.heap.size w w' := by
  obtain ⟨h3, b, off, C, hka, hc, hr⟩ := hK
  by_cases hbig : left < ks.length
  · go_enter Tryz.func43, Tryz.ntmps43
    go_wp2_with fail
    go_ret
    exact ⟨-1, rfl, by omega, by omega, by omega, Below.refl _ _⟩
  by_cases hn0 : ks.length = 0
  · have hns : ks = [] := by simpa using hn0
    subst hns
    go_enter Tryz.func43, Tryz.ntmps43
    go_wp2_with fail
    go_loop [1, 5] (fun l i => i = .int .i64 0 ∧ l = .int .i64 left) (fun _ _ => 0)
    case atStart => exact ⟨rfl, rfl⟩
    case round =>
      obtain ⟨rfl, rfl⟩ := hrel
      go_wp2_with fail
      go_ret
      exact ⟨left, rfl, by omega, by omega, by simp [sL], Below.refl _ _⟩
  · obtain ⟨rfl, hbB⟩ := hka (by intro e; simp [e] at hn0)
    clear hka
    go_enter Tryz.func43, Tryz.ntmps43
    go_wp2_with fail
    go_loopw [1, 5] (fun l i wr => ∃ (k : Nat) (x : Int), k ≤ ks.length ∧ i = .int .i64 k ∧ l = .int .i64 x ∧ 0 ≤ x ∧ x ≤ left ∧ x + (sL (ks.take k) : Nat) + ks.length ≤ left ∧ Below w.heap.size w wr) (fun _ i _ => ks.length - (intOf i).toNat)
    case atStart => exact ⟨0, _, Nat.zero_le _, rfl, rfl, by omega, by omega, by simp [sL], Below.refl _ _⟩
    case round =>
      obtain ⟨k, x, hk, rfl, rfl, hx0, hx1, hx2, hbel⟩ := hrel
      have HX : Hid (x + (sL (ks.take k) : Nat) + ks.length ≤ left) := hx2
      clear hx2
      by_cases hlt : k < ks.length
      · have hck : ∀ j, j < 5 → wr.cell? ⟨b, off + k * 5 + j, none⟩ = some (C k j) := fun j hj => (hbel.cell (p := ⟨b, off + k * 5 + j, none⟩) (by show b < _; omega)).trans (hc k hlt j hj)
        have hc0 : wr.cell? ⟨b, off + k * 5, none⟩ = some (C k 0) := hck 0 (by omega)
        have hc1 := hck 1 (by omega)
        have hc2 := hck 2 (by omega)
        have hc3 := hck 3 (by omega)
        have hc4 := hck 4 (by omega)
        clear hck hc
        go_wp2_with (go_at_call 21; refine (IH k hlt _ B _ x ((hr k hlt).under (hbel.mono hB)) (by have := hbel.size; omega) hx0 (by omega)).mono ?_; rintro e w' ⟨y, rfl, hy0, hy1, hy2, hby⟩)
        · go_ret
          exact ⟨-1, rfl, by omega, by omega, by omega, hbel.trans (hby.mono hbel.size)⟩
        · go_roundw
          case rel => exact ⟨k + 1, y, by omega, by go_num, rfl, by assumption, by omega, by have := HX.out; have := hy2 (by assumption); rw [sL_take ks k hlt]; omega, hbel.trans (hby.mono hbel.size)⟩
          case measure => simp [intOf]; omega
      · go_wp2_with fail
        go_ret
        have e : k = ks.length := by omega
        exact ⟨x, rfl, by omega, by omega, fun _ => by have := HX.out; rw [e, List.take_length] at this; omega, hbel⟩

set_option maxHeartbeats 400000 in
theorem szValue_sstep (s n : Int) (t : ByteArray) (ns : List ByteArray) (ks : List V) (IH : ∀ i, i < ks.length → SzSum (kth ks i)) : SzSum (.mk s n t ns ks) := by
  intro w B v left hR hB hl0 hl1
  obtain ⟨na, ka, nc, kc, rfl, hs, hns, ht, hbs, hK⟩ := hR.inv
  clear hR
  unfold maxLen at ht
  have hbx : ∀ o, Below w.heap.size w (w.alloc o) := fun o => (Below.refl _ _).alloc (Nat.le_refl _) _
  by_cases h1 : left < t.size
  · go_enter Tryz.func21, Tryz.ntmps21
    go_wp2_with fail
    go_ret
    exact ⟨-1, rfl, by omega, by omega, by omega, hbx _⟩
  · go_enter Tryz.func21, Tryz.ntmps21
    go_wp2_with (first
      | (go_at_call 42; refine (szStringS_any ns na nc _ (· < B) (hs.under ((hbx _).mono hB)) _ (by omega) (by omega)).mono ?_; rintro e w' ⟨y, rfl, hy0, hy1, hy2, rfl⟩)
      | (go_at_call 43; refine (szValueS_sum ks IH _ B ka kc _ (hK.under ((hbx _).mono hB)) (by simp; omega) (by omega) (by omega)).mono ?_; rintro e w' ⟨z, rfl, hz0, hz1, hz2, hbz⟩))
    · go_ret
      exact ⟨-1, rfl, by omega, by omega, by omega, hbx _⟩
    · go_ret
      exact ⟨-1, rfl, by omega, by omega, by omega, (hbx _).trans (hbz.mono (by simp))⟩
    · go_ret
      exact ⟨z, rfl, by omega, by omega, fun h => by have := hz2 h; have := hy2 (by omega); simp only [szV]; omega, (hbx _).trans (hbz.mono (by simp))⟩

theorem szsum_all (m : Nat) : ∀ x : V, SizeOf.sizeOf x < m → SzSum x := by
  induction m with
  | zero => intro x h; omega
  | succ m ih =>
    intro x h
    match x, h with
    | .mk s n t ns ks, h => exact szValue_sstep s n t ns ks fun i hi => ih _ (by have := kth_lt ks i hi; simp at h; omega)
theorem szValue_sum (x : V) : SzSum x := szsum_all _ x (Nat.lt_succ_self _)

end Go.Proofs.YtmemijccbmnaaaaGreat

namespace Go.Proofs.YtmemijccbmnaaaaGreat
set_option linter.unusedSimpArgs false
set_option linter.unusedVariables false
open Go.RowKit

/-- What toValue does with a value, and that it may be written. -/
def CpNf (x : V) : Prop := ∀ (w : World) (B : Nat) (v : Value), Rep w (· < B) x v → B ≤ w.heap.size →
  Calls Tryz.prog 28 #[v] w fun e w' => ∃ (s n : Int) (t : ByteArray) (na ka : Option Addr) (nl nc kl kc : Nat), e = .returned (.agg #[.int .i64 s, .int .i64 n, .string t, .slice na nl nc, .slice ka kl kc]) ∧ Below w.heap.size w w' ∧
    Rep w' (fun b => w.heap.size ≤ b ∧ b < w'.heap.size) x (.agg #[.int .i64 s, .int .i64 n, .string t, .slice na nl nc, .slice ka kl kc]) ∧ NF w.heap.size w'

set_option maxHeartbeats 400000 in
theorem toValueS_nf (ks : List V) (IH : ∀ i, i < ks.length → CpNf (kth ks i)) (w : World) (B : Nat) (a : Option Addr) (c : Nat) (hK : Kids w (· < B) ks a) (hB : B ≤ w.heap.size) :
    Calls Tryz.prog 55 #[.slice a ks.length c] w fun e w' => e = .returned (.slice (some ⟨w.heap.size, 0, none⟩) ks.length ks.length) ∧ Below w.heap.size w w' ∧ w.heap.size < w'.heap.size ∧
      Kids w' (fun b => w.heap.size ≤ b ∧ b < w'.heap.size) ks (some ⟨w.heap.size, 0, none⟩) ∧ NF w.heap.size w' := by
  have h3 := hK.1
  obtain ⟨-, b, off, C, hka, hc, hr⟩ := hK
  have hmk := run_make_any (P := Tryz.prog) 43 45 zeroV #[.int .i64 0, .int .i64 0, .string ByteArray.empty, .slice none 0 0, .slice none 0 0] rfl 5 80 Tryz.underlying43 info30 .i64 .i64 ks.length h3 (by omega)
  go_enter Tryz.func55, Tryz.ntmps55
  go_wp2_with fail
  go_loopw [4] (fun i wr => ∃ (k : Nat) (F : Nat → Value), k ≤ ks.length ∧ i = .int .i64 k ∧ Below w.heap.size w wr ∧ wr.rowIs w.heap.size 45 (ks.length * 5) F ∧
      (∀ i, i < k → Rep wr (fun b => w.heap.size < b ∧ b < wr.heap.size) (kth ks i) (.agg #[F (i * 5), F (i * 5 + 1), F (i * 5 + 2), F (i * 5 + 3), F (i * 5 + 4)])) ∧ NF w.heap.size wr) (fun i _ => ks.length - (intOf i).toNat)
  case atStart =>
    refine ⟨0, fun i => (madeCells #[Value.int .i64 0, .int .i64 0, .string ByteArray.empty, .slice none 0 0, .slice none 0 0] (ks.length * 5))[i]?.getD undef, Nat.zero_le _, rfl, (Below.refl _ _).alloc (Nat.le_refl _) _, ?_, fun i hi => by omega, (NF.new w).alloc _ _⟩
    have h := World.rowIs_alloc w (madeCells #[Value.int .i64 0, .int .i64 0, .string ByteArray.empty, .slice none 0 0, .slice none 0 0] (ks.length * 5)) 45 (fun i => (madeCells #[Value.int .i64 0, .int .i64 0, .string ByteArray.empty, .slice none 0 0, .slice none 0 0] (ks.length * 5))[i]?.getD undef) (fun i hi => by simp [hi])
    rw [size_madeCells] at h
    exact h
  case round =>
    obtain ⟨k, F, hk, rfl, hbel, hrow, hreps, hnf⟩ := hrel
    have HNF : Hid (NF w.heap.size wr) := hnf
    clear hnf
    by_cases hlt : k < ks.length
    · obtain ⟨rfl, hbB⟩ := hka (by intro e; simp [e] at hlt)
      have hck : ∀ j, j < 5 → wr.cell? ⟨b, off + k * 5 + j, none⟩ = some (C k j) := fun j hj => (hbel.cell (p := ⟨b, off + k * 5 + j, none⟩) (by show b < _; omega)).trans (hc k hlt j hj)
      have hc0 : wr.cell? ⟨b, off + k * 5, none⟩ = some (C k 0) := hck 0 (by omega)
      have hc1 := hck 1 (by omega)
      have hc2 := hck 2 (by omega)
      have hc3 := hck 3 (by omega)
      have hc4 := hck 4 (by omega)
      clear hck hc
      have hlt5 : k * 5 + 4 < ks.length * 5 := by omega
      go_wp2_with (
        go_at_call 28
        refine (IH k hlt _ B _ ((hr k hlt).under (hbel.mono hB)) (by have := hbel.size; omega)).mono ?_
        rintro e w1 ⟨s, n, t, na, ka, nl, nc, kl, kc, rfl, hby, hry, hnf1⟩
        have HN1 : Hid (NF w.heap.size w1) := NF.call HNF.out hby hnf1
        clear hnf1
        have hrow1 := hrow.of_block (hby.block _ hrow.lt)
        have q0 : w1.cell? ⟨w.heap.size, k * 5, none⟩ = some (F (k * 5)) := hrow1.cell (by omega)
        have q1 : w1.cell? ⟨w.heap.size, k * 5 + 1, none⟩ = some (F (k * 5 + 1)) := hrow1.cell (by omega)
        have q2 : w1.cell? ⟨w.heap.size, k * 5 + 2, none⟩ = some (F (k * 5 + 2)) := hrow1.cell (by omega)
        have q3 : w1.cell? ⟨w.heap.size, k * 5 + 3, none⟩ = some (F (k * 5 + 3)) := hrow1.cell (by omega)
        have q4 : w1.cell? ⟨w.heap.size, k * 5 + 4, none⟩ = some (F (k * 5 + 4)) := hrow1.cell (by omega)
        have z0 : ∀ j, w1.frozen? ⟨w.heap.size, j, none⟩ = false := fun j => hrow1.frozen j)
      go_roundw
      case rel =>
        obtain ⟨G, hG, ⟨g0, g1, g2, g3, g4⟩, hGF⟩ := put5_row hrow1 (k * 5) (.int .i64 s) (.int .i64 n) (.string t) (.slice na nl nc) (.slice ka kl kc)
        have hs1 := hbel.size
        have hs2 := hby.size
        have hs3 := hrow.lt
        refine ⟨k + 1, G, by omega, by go_num, put5_below (hbel.trans (hby.mono hs1)) (Nat.le_refl _) _ _ _ _ _ _, hG, fun i hi => ?_, ((((HN1.out.set _ _).set _ _).set _ _).set _ _).set _ _⟩
        by_cases e1 : i = k
        · subst e1
          rw [g0, g1, g2, g3, g4]
          refine (hry.mono fun b hb => put5_block w1 _ _ _ _ _ _ _ b (by omega)).sub fun b hb => ⟨by omega, ?_⟩
          have := put5_size w1 w.heap.size (i * 5) (.int .i64 s) (.int .i64 n) (.string t) (.slice na nl nc) (.slice ka kl kc)
          show b < (put5 w1 w.heap.size (i * 5) (.int .i64 s) (.int .i64 n) (.string t) (.slice na nl nc) (.slice ka kl kc)).heap.size
          omega
        · rw [hGF _ (by omega), hGF _ (by omega), hGF _ (by omega), hGF _ (by omega), hGF _ (by omega)]
          refine ((hreps i (by omega)).mono fun b hb => (put5_block w1 _ _ _ _ _ _ _ b (by omega)).trans (hby.block b hb.2)).sub fun b hb => ⟨hb.1, ?_⟩
          have := put5_size w1 w.heap.size (k * 5) (.int .i64 s) (.int .i64 n) (.string t) (.slice na nl nc) (.slice ka kl kc)
          show b < (put5 w1 w.heap.size (k * 5) (.int .i64 s) (.int .i64 n) (.string t) (.slice na nl nc) (.slice ka kl kc)).heap.size
          omega
      case measure => simp [intOf]; omega
    · go_wp2_with fail
      go_ret
      have e : k = ks.length := by omega
      subst e
      refine ⟨rfl, hbel, hrow.lt, ⟨h3, w.heap.size, 0, fun i j => F (i * 5 + j), fun _ => ⟨rfl, Nat.le_refl _, hrow.lt⟩, fun i hi j hj => ?_, fun i hi => (hreps i hi).sub fun b hb => ⟨by omega, hb.2⟩⟩, HNF.out⟩
      have := hrow.cell (i := i * 5 + j) (by omega)
      simpa using this
set_option maxHeartbeats 800000 in
theorem toValue_nfstep (s n : Int) (t : ByteArray) (ns : List ByteArray) (ks : List V) (IH : ∀ i, i < ks.length → CpNf (kth ks i)) : CpNf (.mk s n t ns ks) := by
  intro w B v hR hB
  obtain ⟨na, ka, nc, kc, rfl, hs, hns, ht, hbs, hK⟩ := hR.inv
  clear hR
  have hb3 : ∀ o1 o2 o3, Below w.heap.size w (((w.alloc o1).alloc o2).alloc o3) := fun o1 o2 o3 => (((Below.refl _ _).alloc (Nat.le_refl _) _).alloc (by simp) _).alloc (by simp; omega) _
  go_enter Tryz.func28, Tryz.ntmps28
  go_wp2_with (first
    | (
      go_at_call 54
      refine (toStringS_nf ns na nc _ ((hs.under ((hb3 _ _ _).mono hB)).sub fun k hk => by simp; omega) hbs).mono ?_
      rintro e w1 ⟨rfl, hb1, hsz1, hst1, hnf1⟩
      have HN1 : Hid (NF w.heap.size w1) := NF.call (NF.three w _ _ _ _ _ _) hb1 hnf1
      clear hnf1
      obtain ⟨c1, f1⟩ := bcell hb1
      simp at hsz1
      have hlt1 : w.heap.size + 1 + 1 < w1.heap.size := by omega)
    | (
      go_at_call 55
      have hbw : Below w.heap.size w w1 := (hb3 _ _ _).trans (hb1.mono (by simp; omega))
      refine (toValueS_nf ks IH _ B ka kc (hK.under ((hbw.setCell (by show w.heap.size ≤ w.heap.size + 1 + 1; omega) _).mono hB)) (by simp [World.setCell]; omega)).mono ?_
      rintro e w2 ⟨rfl, hb2, hsz2, hkd2, hnf2⟩
      have HN2 : Hid (NF w.heap.size w2) := NF.call (HN1.out.set _ _) hb2 hnf2
      clear hnf2
      obtain ⟨c2, f2⟩ := bcell hb2
      simp [World.setCell] at hsz2
      have hlt2 : w.heap.size + 1 + 1 < w2.heap.size := by omega))
  have hbw : Below w.heap.size w w1 := (hb3 _ _ _).trans (hb1.mono (by simp; omega))
  have fin := cp_end (w := w) (w1 := w1) (w2 := w2) (s := s) (n := n) (t := t) (ns := ns) (ks := ks) (x := .slice (some ⟨w.heap.size + 1 + 1 + 1, 0, none⟩) ns.length ns.length) (y := .slice (some ⟨w.heap.size + 1 + 1 + 1 + 1, 0, none⟩) ks.length ks.length) (N := w.heap.size) rfl hbw hsz1 (by simpa using hst1) (by simpa [World.setCell] using hb2) hsz2 (by simpa [World.setCell] using hkd2) ht hbs (.int .i64 s) (.int .i64 n) (.string t) (.slice (some ⟨w.heap.size + 1 + 1 + 1, 0, none⟩) ns.length ns.length) (.slice (some ⟨w.heap.size + 1 + 1 + 1 + 1, 0, none⟩) ks.length ks.length)
  refine bodyPost_ret (v := .agg #[.int .i64 s, .int .i64 n, .string t, .slice (some ⟨w.heap.size + 1 + 1 + 1, 0, none⟩) ns.length ns.length, .slice (some ⟨w.heap.size + 1 + 1 + 1 + 1, 0, none⟩) ks.length ks.length]) ?res rfl ⟨s, n, t, _, _, _, _, _, _, rfl, fin.1, fin.2, (((((HN2.out.set _ _).set _ _).set _ _).set _ _).set _ _).set _ _⟩
  case res =>
    have hr0 : ∀ o1 o3 c, ((((w.alloc o1).alloc (.cells c 45)).alloc o3)).rowIs (w.heap.size + 1) 45 c.size (fun i => c[i]?.getD undef) := fun o1 o3 c => by
      have h := ((w.alloc o1).rowIs_alloc c 45 (fun i => c[i]?.getD undef) (fun i hi => by simp [hi])).alloc o3
      simpa using h
    have hr1 := (hr0 _ _ _).of_block (hb1.block (w.heap.size + 1) (by simp))
    have hr2 := (hr1.setOther (a := ⟨w.heap.size + 1 + 1, 3, none⟩) (by show w.heap.size + 1 ≠ w.heap.size + 1 + 1; omega) (.slice (some ⟨w.heap.size + 1 + 1 + 1, 0, none⟩) ns.length ns.length)).of_block (hb2.block (w.heap.size + 1) (by simp [World.setCell]; omega))
    have p0 := hr2.cell (i := 0) (by simp)
    have p1 := hr2.cell (i := 1) (by simp)
    have p2 := hr2.cell (i := 2) (by simp)
    have p3 := hr2.cell (i := 3) (by simp)
    have p4 := hr2.cell (i := 4) (by simp)
    clear fin hkd2 hst1 hK hs IH c1 c2 f1 f2 hb1 hb2 hr0 hr1 hr2
    simp [results, Tryz.results28, go_sem, p0, p1, p2, p3, p4]

theorem cpnf_all (m : Nat) : ∀ x : V, SizeOf.sizeOf x < m → CpNf x := by
  induction m with
  | zero => intro x h; omega
  | succ m ih =>
    intro x h
    match x, h with
    | .mk s n t ns ks, h => exact toValue_nfstep s n t ns ks fun i hi => ih _ (by have := kth_lt ks i hi; simp at h; omega)
theorem toValue_nf (x : V) : CpNf x := cpnf_all _ x (Nat.lt_succ_self _)
end Go.Proofs.YtmemijccbmnaaaaGreat
