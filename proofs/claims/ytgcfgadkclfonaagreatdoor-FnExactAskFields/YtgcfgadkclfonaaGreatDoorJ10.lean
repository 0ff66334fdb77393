import Derived.Test.YtgcfgadkclfonaaGreatDoorJ8
import Derived.Test.YtgcfgadkclfonaaGreatDoorIShelf
import Derived.Maps.OwnIn
import Derived.Deep.AppendLies
namespace Go.Proofs.YtgcfgadkclfonaaGreatDoor
set_option linter.unusedSimpArgs false
set_option linter.unusedVariables false
open Go.RowKit Go.Shelf

theorem joinW_lib : ∀ way : Way, Lib.join (way.map (·.data.toList)) [47] = joinW way
  | [] => rfl
  | [a] => by simp [Lib.join, List.intercalate, joinW, ByteArray.toList_eq]
  | a :: b :: l => by
    have ih := joinW_lib (b :: l)
    rw [joinW, ← ih, ByteArray.toList_eq]
    simp [Lib.join, List.intercalate]
theorem joinW_len : ∀ way : Way, (∀ a ∈ way, a.size ≤ 1048576) → (joinW way).length ≤ 1048577 * way.length
  | [], _ => by simp [joinW]
  | [a], h => by
    have := h a (by simp)
    rw [joinW, toList_len]; simp; omega
  | a :: b :: l, h => by
    have h1 := h a (by simp)
    have ih := joinW_len (b :: l) (fun x hx => h x (List.mem_cons_of_mem _ hx))
    rw [joinW, List.length_append, List.length_cons, toList_len]
    simp only [List.length_cons] at ih ⊢
    omega

set_option maxHeartbeats 400000 in
theorem wayText_any (way : Way) (wa : Option Addr) (wc : Nat) (w : World) (hS : Strs w (· < w.heap.size) way wa) (hne : way ≠ []) (hc : way.length ≤ wc) (hl : way.length ≤ 1000) (hsm : ∀ a ∈ way, a.size ≤ 1048576) :
    Calls Tryz.prog 93 #[.slice wa way.length wc] w fun e w' => (∃ t : ByteArray, e = .returned (.string t) ∧ t.toList = joinW way ∧ t.size ≤ 1048577000) ∧ Below w.heap.size w w' := by
  obtain ⟨b, off, rfl, hb, hcl⟩ := hS.1 hne
  have hj := joinW_len way hsm
  have HJ := hid_of (join_any b off wc way ⟨#[47]⟩ w (fun j x hx => by
    obtain ⟨hj, rfl⟩ := List.getElem?_eq_some_iff.1 hx
    have := hcl j hj
    simpa [nth, List.getD_eq_getElem?_getD, hj] using this) hb (by omega) hc (by show (Lib.join (way.map (·.data.toList)) [47]).length ≤ _; rw [joinW_lib]; omega))
  go_enter Tryz.func93, Tryz.ntmps93
  go_wp2_with fail
  refine HJ.out.mono ?_
  rintro e w1 ⟨rfl, hb1⟩
  have HB := hid_of hb1
  clear hb1
  go_wp2_with fail
  go_ret
  refine ⟨⟨_, rfl, ?_, ?_⟩, HB.out⟩
  · rw [ByteArray.toList_eq]
    exact joinW_lib way
  · show (Lib.join (way.map (·.data.toList)) [47]).toArray.size ≤ _
    rw [joinW_lib]; simp; omega
end Go.Proofs.YtgcfgadkclfonaaGreatDoor

namespace Go.Proofs.YtgcfgadkclfonaaGreatDoor
set_option linter.unusedSimpArgs false
set_option linter.unusedVariables false
open Go.RowKit Go.Shelf
attribute [local go_sem] Oper.semAt_some

theorem yieldAt_wide {n m : Nat} {P : Program} {l : Nat} {args : Array Value} {W : World} {R : Ending → World → Prop} (h : YieldAt Fence.wide n P l args W R) : YieldAt Fence.wide m P l args W R := by
  obtain ⟨fn, tmps, assign, body, h1, h2, h3⟩ := h
  exact ⟨fn, tmps, assign, body, h1, h2, fun c cs _ => h3 c cs (room_wide _)⟩
/-- Texts that are gathered in a list of the call's own, in a box of its own. -/
def Gat (base bw : Nat) (ts : List ByteArray) (wv : Value) (A : World) : Prop :=
  A.heap[bw]? = some (.cells #[wv] 28 (0, 0)) ∧ A.ownsRow base 9 1 wv ts.length (ts.map Value.string) ∧ wv.ownBlock ≠ some bw
theorem Gat.of {base bw : Nat} {ts : List ByteArray} {wv : Value} {A B : World} (h : Gat base bw ts wv A) (e : ∀ (k : Nat) (c : Array Value) (t : TypeId), (k = bw ∨ wv.ownBlock = some k) → A.heap[k]? = some (Obj.cells c t (0, 0)) → B.heap[k]? = some (Obj.cells c t (0, 0))) : Gat base bw ts wv B := by
  obtain ⟨h1, h2, h3⟩ := h
  refine ⟨e _ _ _ (Or.inl rfl) h1, ⟨h2.1, ?_⟩, h3⟩
  rcases h2.2 with hn | ⟨g, cap, cur, hv, hb, hh, r⟩
  · exact Or.inl hn
  · exact Or.inr ⟨g, cap, cur, hv, hb, e _ _ _ (Or.inr (by rw [hv]; rfl)) hh, r⟩
theorem Gat.still {base bw : Nat} {ts : List ByteArray} {wv : Value} {A : World} (h : Gat base bw ts wv A) {l : Nat} {o o' : Obj} (hl : A.heap[l]? = some o) (ho : o.isCells = false) : Gat base bw ts wv (A.putObj l o') :=
  h.of fun k c t _ hk => by
    have hne : k ≠ l := by intro e; rw [e, hl] at hk; cases hk; cases ho
    exact (World.putObj_heap_other hne).trans hk
theorem Gat.grow {base bw : Nat} {ts : List ByteArray} {wv : Value} {A B : World} (h : Gat base bw ts wv A) (hb : Below A.heap.size A B) : Gat base bw ts wv B :=
  h.of fun k c t _ hk => (hb.block k (Array.getElem?_eq_some_iff.1 hk).1).trans hk
theorem Gat.strs {base bw : Nat} {ts : List ByteArray} {wv : Value} {A : World} (h : Gat base bw ts wv A) (hs : ∀ t ∈ ts, t.size ≤ maxLen) (hl : ts.length ≤ 1000000) : ∃ a c, wv = .slice a ts.length c ∧ Strs A (fun _ => True) ts a := by
  obtain ⟨-, h2, -⟩ := h
  have hsz : ∀ i, (nth ts i).size ≤ maxLen := fun i => by
    by_cases hi : i < ts.length
    · simp only [nth, List.getD_eq_getElem?_getD, List.getElem?_eq_getElem hi, Option.getD_some]
      exact hs _ (List.getElem_mem hi)
    · simp only [nth, List.getD_eq_getElem?_getD, List.getElem?_eq_none (by omega : ts.length ≤ i), Option.getD_none]
      unfold maxLen; decide
  rcases h2.2 with ⟨rfl, h0⟩ | ⟨g, cap, cur, rfl, hb, hh, r⟩
  · have e : ts = [] := List.length_eq_zero_iff.1 h0
    subst e
    exact ⟨none, 0, rfl, fun h => absurd rfl h, hsz, by unfold maxLen; simp⟩
  · refine ⟨_, _, rfl, fun _ => ⟨g, 0, rfl, trivial, fun i hi => ?_⟩, hsz, by unfold maxLen; omega⟩
    have := h2.cellAt i (by omega)
    rw [Nat.zero_add, this, List.getElem?_map]
    simp [nth, List.getD_eq_getElem?_getD, hi]
theorem preTo_some {f : Nat} {ks : List Se} (hf : FitS f ks) : (0 < (preTo f [] ks ks.length).length) ↔ ks.isEmpty = false := by
  rw [preTo_len f [] ks _ (Nat.le_refl _) hf]
  cases ks with
  | nil => simp [cntTo]
  | cons a l =>
    simp only [List.isEmpty_cons, iff_true]
    cases f with
    | zero => exact absurd hf (by simp [FitS])
    | succ f =>
      have := cnt_one (f + 1) (a :: l) (a :: l).length 0 (by simp)
      rw [cntSe_kids] at this
      omega
theorem walkB_app : ∀ (l : List (Way × Se)) (ws : List (List UInt8)) (m : List (Way × Se)), walkB ws (l ++ m) = (walkB ws l && walkB (ws ++ l.map fun x => joinW x.1) m)
  | [], ws, m => by simp [walkB]
  | x :: l, ws, m => by
    rw [List.cons_append, walkB, walkB, walkB_app l, List.map_cons, Bool.and_assoc]
    simp
theorem walkB_bad {xs pre : List (Way × Se)} {x : Way × Se} (hp : pre ++ [x] <+: xs) (hb : stepB (pre.map fun x => joinW x.1) x = false) : walkB [] xs = false := by
  obtain ⟨m, rfl⟩ := hp
  rw [List.append_assoc, walkB_app]
  simp [walkB, hb]
theorem walkB_one {pre : List (Way × Se)} {x : Way × Se} (hw : walkB [] pre = true) (hs : stepB (pre.map fun x => joinW x.1) x = true) : walkB [] (pre ++ [x]) = true := by
  rw [walkB_app, hw]
  simp [walkB, hs]
end Go.Proofs.YtgcfgadkclfonaaGreatDoor

namespace Go.Proofs.YtgcfgadkclfonaaGreatDoor
set_option linter.unusedSimpArgs false
set_option linter.unusedVariables false
open Go.RowKit Go.Shelf Go.Maps
attribute [local go_sem] Oper.semAt_some

/-- What the rounds of areSelsOk know. -/
structure IOk (w : World) (pre : List (Way × Se)) (O : Nat → Prop) (ts : List ByteArray) (wv : Value) (A : World) : Prop where
  gat : Gat w.heap.size (w.heap.size + 1) ts wv A
  texts : ts.map ByteArray.toList = pre.map fun x => joinW x.1
  sizes : ∀ t ∈ ts, t.size ≤ 1048577000
  res : A.heap[w.heap.size]? = some (.cells #[.bool false] 4 (0, 0))
  walk : walkB [] pre = true
  bel : Below w.heap.size w A
  own : ∀ b, O b ↔ b = w.heap.size ∨ b = w.heap.size + 1 ∨ wv.ownBlock = some b
theorem IOk.of {w : World} {pre : List (Way × Se)} {O : Nat → Prop} {ts : List ByteArray} {wv : Value} {A B : World} (h : IOk w pre O ts wv A) (hg : Gat w.heap.size (w.heap.size + 1) ts wv B) (hr : B.heap[w.heap.size]? = some (.cells #[.bool false] 4 (0, 0))) (hb : Below w.heap.size w B) : IOk w pre O ts wv B :=
  ⟨hg, h.texts, h.sizes, hr, h.walk, hb, h.own⟩
/-- The result is 'no'. -/
def NoOk (w : World) (XS : List (Way × Se)) (A : World) : Prop := A.heap[w.heap.size]? = some (.cells #[.bool false] 4 (0, 0)) ∧ Below w.heap.size w A ∧ walkB [] XS = false
theorem still_cells {A : World} {l k : Nat} {o o' : Obj} {c : Array Value} {t : TypeId} {f : Nat × Nat} (hl : A.heap[l]? = some o) (ho : o.isCells = false) (hk : A.heap[k]? = some (Obj.cells c t f)) : (A.putObj l o').heap[k]? = some (Obj.cells c t f) := by
  have hne : k ≠ l := by intro e; rw [e, hl] at hk; cases hk; cases ho
  exact (World.putObj_heap_other hne).trans hk
theorem still_strs {A : World} {l : Nat} {o o' : Obj} {ns : List ByteArray} {a : Option Addr} (hl : A.heap[l]? = some o) (ho : o.isCells = false) (h : Strs A (· < A.heap.size) ns a) : Strs (A.putObj l o') (· < (A.putObj l o').heap.size) ns a := by
  refine ⟨fun hn => ?_, h.2⟩
  obtain ⟨b, off, e, hb, hc⟩ := h.1 hn
  refine ⟨b, off, e, by simpa using hb, fun i hi => ?_⟩
  obtain ⟨ob, h1, h2⟩ := cell_cells (hc i hi)
  have hne : b ≠ l := by intro e; rw [e, hl] at h1; cases h1; rw [ho] at h2; cases h2
  exact (World.cell?_of_block (w := A) (a := ⟨b, off + i, none⟩) (World.putObj_heap_other hne)).trans (hc i hi)

/-- One more text is gathered. -/
theorem IOk.next {w : World} {pre : List (Way × Se)} {O : Nat → Prop} {ts : List ByteArray} {wv v' : Value} {A W W3 : World} {x : Way × Se} {t : ByteArray} (h : IOk w pre O ts wv A) (hb : Below A.heap.size A W) (hgr : W.grownBy W3 wv.ownBlock)
    (hown : W3.ownsRow w.heap.size 9 1 v' (ts.length + 1) (ts.map Value.string ++ [.string t])) (hat : v'.ownBlock = wv.ownBlock ∨ v'.ownBlock = some W.heap.size) (ht : t.toList = joinW x.1) (hts : t.size ≤ 1048577000) (hs : stepB (pre.map fun x => joinW x.1) x = true) :
    (∃ O', (∃ ts wv, IOk w (pre ++ [x]) O' ts wv (W3.setCell ⟨w.heap.size + 1, 0, none⟩ v')) ∧ KeepO O A (W3.setCell ⟨w.heap.size + 1, 0, none⟩ v') ∧ ∀ b, O' b → O b ∨ A.heap.size ≤ b) ∧ KeepsOthers A (W3.setCell ⟨w.heap.size + 1, 0, none⟩ v') := by
  have lN := (Array.getElem?_eq_some_iff.1 h.res).1
  have lN1 := (Array.getElem?_eq_some_iff.1 h.gat.1).1
  have zW := hb.size
  have zA := h.bel.size
  have hk : ∀ (k : Nat) (o : Obj), A.heap[k]? = some o → wv.ownBlock ≠ some k → W3.heap[k]? = some o := fun k o hk hne => by
    have h1 := (hb.block k (Array.getElem?_eq_some_iff.1 hk).1).trans hk
    rw [hgr.block k (Array.getElem?_eq_some_iff.1 h1).1 (fun e => hne e.symm)]
    exact h1
  have hnN : wv.ownBlock ≠ some w.heap.size := fun e => by
    rcases h.gat.2.1.2 with ⟨rfl, _⟩ | ⟨g, cap, cur, rfl, hbg, hg, _⟩
    · simp [Value.ownBlock] at e
    · simp only [Value.ownBlock, Option.some.injEq] at e
      rw [e, h.res] at hg
      simp only [Option.some.injEq, Obj.cells.injEq] at hg
      exact absurd hg.2.1 (by decide)
  have hv1 : v'.ownBlock ≠ some (w.heap.size + 1) := fun e => by
    rcases hat with e2 | e2
    · exact h.gat.2.2 (by rw [← e2, e])
    · rw [e2] at e
      simp only [Option.some.injEq] at e
      omega
  have hset : ∀ (k : Nat), k ≠ w.heap.size + 1 → (W3.setCell ⟨w.heap.size + 1, 0, none⟩ v').heap[k]? = W3.heap[k]? := fun k hk => Below.heap_setCell _ _ _ _ hk
  have hbl : ∀ b, wv.ownBlock = some b → w.heap.size ≤ b := fun b hb => (h.gat.2.1.lt b hb).1
  refine ⟨⟨fun b => b = w.heap.size ∨ b = w.heap.size + 1 ∨ v'.ownBlock = some b, ⟨ts ++ [t], v', ⟨⟨?_, ?_, hv1⟩, ?_, ?_, ?_, walkB_one h.walk hs, ?_, fun b => Iff.rfl⟩⟩, ⟨?_, fun b o hO hc hcl => ?_⟩, fun b hO => ?_⟩, ⟨?_, fun k o hko ho => ?_⟩⟩
  · rw [set_box (hk _ _ h.gat.1 h.gat.2.2)]; rfl
  · have := hown.kept (row := some (w.heap.size + 1)) (w' := W3.setCell ⟨w.heap.size + 1, 0, none⟩ v') ⟨rfl, rfl, rfl, by simp [World.setCell], fun k _ hk => hset k (fun e => hk (by rw [e]))⟩ (Or.inr hv1)
    simpa using this
  · simp [h.texts, ht]
  · intro u hu
    rcases List.mem_append.1 hu with hu | hu
    · exact h.sizes u hu
    · rw [List.mem_singleton.1 hu]; exact hts
  · rw [hset _ (by omega)]
    exact hk _ _ h.res hnN
  · exact (((h.bel.trans (hb.mono zA)).grown hgr (by omega) hbl)).setCell (p := ⟨w.heap.size + 1, 0, none⟩) (by show w.heap.size ≤ w.heap.size + 1; omega) _
  · have := hgr.size
    simp; omega
  · have hn1 : b ≠ w.heap.size + 1 := fun e => hO ((h.own b).2 (Or.inr (Or.inl e)))
    rw [hset _ hn1]
    exact hk _ _ hc (fun e => hO ((h.own b).2 (Or.inr (Or.inr e))))
  · rcases hO with rfl | rfl | hO
    · exact Or.inl ((h.own _).2 (Or.inl rfl))
    · exact Or.inl ((h.own _).2 (Or.inr (Or.inl rfl)))
    · rcases hat with e2 | e2
      · exact Or.inl ((h.own b).2 (Or.inr (Or.inr (by rw [← e2, hO]))))
      · rw [e2] at hO
        simp only [Option.some.injEq] at hO
        exact Or.inr (by omega)
  · have := hgr.size
    simp; omega
  · have hn1 : k ≠ w.heap.size + 1 := fun e => by rw [e, h.gat.1] at hko; cases hko; cases ho
    rw [hset _ hn1]
    refine hk _ _ hko (fun e => ?_)
    rcases h.gat.2.1.2 with ⟨rfl, _⟩ | ⟨g, cap, cur, rfl, hbg, hg, _⟩
    · simp [Value.ownBlock] at e
    · simp only [Value.ownBlock, Option.some.injEq] at e
      rw [e, hko] at hg
      cases hg
      cases ho

set_option maxRecDepth 20000 in
set_option maxHeartbeats 3200000 in
theorem areSelsOk_any (f : Nat) (ks : List Se) (w : World) (B : Nat) (ka : Option Addr) (kc : Nat) (hf : FitS f ks) (hsm : SmallS f ks) (hfb : f ≤ 1000000000) (hR : SeReps w (· < B) ks ka) (hB : B ≤ w.heap.size) :
    Calls Tryz.prog 59 #[.slice ka ks.length kc] w fun e w' => e = .returned (.bool (!ks.isEmpty && walkB [] (preTo f [] ks ks.length))) ∧ Below w.heap.size w w' := by
  obtain ⟨XS, hXS⟩ : ∃ XS, XS = preTo f [] ks ks.length := ⟨_, rfl⟩
  rw [← hXS]
  have HXS := hid_of hXS
  clear hXS
  refine (callsIn_wide (n := 3)).1 ?_
  refine callsIn_of_wp_marks Tryz.func59 rfl trivial ?_ rfl
  simp only [Tryz.ntmps59, List.size_toArray, List.length_cons, List.length_nil, Nat.reduceAdd, Nat.reduceSub, Array.replicate_succ, Array.replicate_zero, List.push_toArray, List.append_toArray, List.nil_append, List.cons_append]
  gi_wp2_with (refine ⟨trivial, ?_⟩; gi_at_call 62; refine (callsIn_wide.2 (selsOf_any _ ka ks.length kc)).mono ?_; rintro e w' ⟨rfl, rfl⟩)
  obtain ⟨Y, hY⟩ : ∃ Y, Y = ((w.alloc (.cells #[.bool false] 4)).alloc (.cells #[.slice none 0 0] 28)).alloc (.cells #[.slice ka ks.length kc] 36) := ⟨_, rfl⟩
  have zY : Y.heap.size = w.heap.size + 1 + 1 + 1 := by rw [hY]; simp
  have bY : Below w.heap.size w Y := by rw [hY]; exact (((Below.refl _ _).alloc (Nat.le_refl _) _).alloc (by simp) _).alloc (by simp; omega) _
  have rY : Y.heap[w.heap.size]? = some (.cells #[.bool false] 4 (0, 0)) := by
    rw [hY, (below_box _ _).block _ (by simp; omega), (below_box _ _).block _ (by simp)]
    exact block_new _ _ rfl
  have wY : Y.heap[w.heap.size + 1]? = some (.cells #[.slice none 0 0] 28 (0, 0)) := by
    rw [hY, (below_box _ _).block _ (by simp)]
    exact block_new _ _ (by simp)
  have sY : Y.heap[w.heap.size + 1 + 1]? = some (.cells #[.slice ka ks.length kc] 36 (0, 0)) := by
    rw [hY]
    exact block_new _ _ (by simp)
  rw [← hY]
  clear hY
  refine range_stop (w := Y) rfl (by omega) (gf := 96) (lb := #[.pointer (some ⟨w.heap.size + 1 + 1, 0, none⟩)]) rfl trivial (enters_of Tryz.func96 (by kernel_rfl) rfl)
    XS (fun pre x ar A => ArgT x ar A ∧ pre ++ [x] <+: XS) ?ps (fun pre O A => ∃ ts wv, IOk w pre O ts wv A) ?still ?grows ?lt (NoOk w XS) ?xstill
    (fun b => b = w.heap.size ∨ b = w.heap.size + 1) ?start ?seq
    (fun pre x ar a' A => ∃ (wa : Option Addr) (wc : Nat) (sa : Option Addr) (sc sb : Nat), pre ++ [x] <+: XS ∧ a' = { tmps := #[.slice ka ks.length kc, undef, .pointer (some ⟨w.heap.size, 0, none⟩), .pointer (some ⟨w.heap.size + 1, 0, none⟩), .slice wa x.1.length wc, .pointer (some ⟨sb, 0, none⟩), undef, .slice ka ks.length kc, .func (.func 96) #[] #[.pointer (some ⟨w.heap.size + 1 + 1, 0, none⟩)], .slice wa x.1.length wc, .agg #[.string x.2.al, .string x.2.name, .bool x.2.one, .int .i64 x.2.id, .slice sa x.2.kids.length sc], undef, undef, undef, undef, undef, undef, undef, undef, undef, undef, undef, undef, undef, undef, undef, undef, undef, undef, undef, undef, undef, undef, undef, undef, undef], defers := [] } ∧ x.1.length ≤ wc ∧ Strs A (· < A.heap.size) x.1 wa ∧ x.2.al.size ≤ maxLen ∧ x.2.name.size ≤ maxLen ∧ (∀ a ∈ x.1, a.size ≤ 1048576) ∧ x.1 ≠ [] ∧
      A.heap[sb]? = some (.cells #[.string x.2.al, .string x.2.name, .bool x.2.one, .int .i64 x.2.id, .slice sa x.2.kids.length sc] 60 (0, 0))) ?astill ?assign ?body ?done ?stop
  case ps =>
    rintro pre x ar A ⟨⟨wa, wc, sa, sc, rfl, -⟩, -⟩
    rfl
  case still =>
    rintro pre O A l o o' ⟨ts, wv, h⟩ hl ho1 ho2
    exact ⟨ts, wv, h.of (h.gat.still ho1 ho2) (still_cells ho1 ho2 h.res) (h.bel.trans (below_putObj _ _ (by omega)))⟩
  case grows =>
    rintro pre O A A' ⟨ts, wv, h⟩ hb
    have zA := h.bel.size
    exact ⟨ts, wv, h.of (h.gat.grow hb) ((hb.block _ (Array.getElem?_eq_some_iff.1 h.res).1).trans h.res) (h.bel.trans (hb.mono zA))⟩
  case lt =>
    rintro pre O A ⟨ts, wv, h⟩ b hb
    rcases (h.own b).1 hb with rfl | rfl | hv
    · exact (Array.getElem?_eq_some_iff.1 h.res).1
    · exact (Array.getElem?_eq_some_iff.1 h.gat.1).1
    · exact (h.gat.2.1.lt b hv).2
  case xstill =>
    rintro A l o o' ⟨h1, h2, h3⟩ hl ho1 ho2
    exact ⟨still_cells ho1 ho2 h1, h2.trans (below_putObj _ _ (by omega)), h3⟩
  case start => exact ⟨[], .slice none 0 0, ⟨⟨wY, World.ownsRow_nil _ _ _ _, by simp [Value.ownBlock]⟩, rfl, by simp, rY, rfl, bY, fun b => by simp [Value.ownBlock]⟩⟩
  case seq =>
    intro l J Jx W hb hJg hJO hy h0
    have hbW := bY.trans (hb.mono (by omega))
    have := selsOf1_any f ks l J Jx w.heap.size hJg hJO (fun n pre O x ar A hJ hp hA => yieldAt_wide (hy pre O x ar A hJ ⟨hA, by rw [HXS.out]; exact hp⟩)) (3 - 1) _ W ka kc (w.heap.size + 1 + 1) hf hsm ((hR.under (hbW.mono hB)).sub fun b hb => by omega) hbW.size hfb h0 (by rintro b (rfl | rfl) <;> omega) ((hb.cell (p := ⟨w.heap.size + 1 + 1, 0, none⟩) (by show w.heap.size + 1 + 1 < _; omega)).trans (box_at sY 0 (by simp)).1)
    rw [← HXS.out] at this
    exact this
  case astill =>
    rintro pre x ar a' A l o o' ⟨wa, wc, sa, sc, sb, h1, h2, h3, h4, h5, h6, h7, h8, h9⟩ hl ho1 ho2
    exact ⟨wa, wc, sa, sc, sb, h1, h2, h3, still_strs ho1 ho2 h4, h5, h6, h7, h8, still_cells ho1 ho2 h9⟩
  case assign =>
    rintro l pre x ar A K ⟨⟨wa, wc, sa, sc, rfl, h3, h4, h5, h6, h7, h8⟩, hp⟩ hK
    have HK := hid_of hK
    clear hK
    gi_wp2
    refine HK.out _ _ (below_box A _) ⟨wa, wc, sa, sc, A.heap.size, hp, rfl, h3, ?_, h5, h6, h7, h8, block_new _ _ rfl⟩
    exact (h4.mono fun k hk => (below_box A _).block k hk).sub fun k hk => by simp; omega
  case done =>
    rintro D O W hD ⟨ts, wv, h⟩ hK
    have hpn : ts.length = XS.length := by have := congrArg List.length h.texts; simpa using this
    have hwk := (walkB_all XS []).1 h.walk
    have hx24 : XS.length ≤ 24 := by
      by_cases hx : XS = []
      · rw [hx]; simp
      · simpa using hwk.2.1 hx
    obtain ⟨va, vc, rfl, -⟩ := h.gat.strs (fun t ht => by have := h.sizes t ht; unfold maxLen; omega) (by omega)
    have c0 := (box_at h.res 0 (by simp)).1
    have c0f := (box_at h.res 0 (by simp)).2
    have c1 := (box_at h.gat.1 0 (by simp)).1
    simp at c0 c1
    have hi24 : (ts.length : Int) ≤ 24 := by omega
    have HH := hid_of h
    have HV : Hid ((!ks.isEmpty && walkB [] XS) = decide (0 < ts.length)) := hid_of (by
      rw [h.walk, hpn, Bool.and_true]
      have := preTo_some hf
      rw [← HXS.out] at this
      cases hk : ks.isEmpty
      · simp [this.2 hk]
      · have h2 : ¬ 0 < XS.length := fun h3 => by rw [this.1 h3] at hk; cases hk
        simp [h2])
    clear hwk h
    have hDN : D ≠ w.heap.size := by omega
    gi_wp2
    have HV' := HV.out
    rw [hpn] at HV'
    have hK' : (W.setCell ⟨w.heap.size, 0, none⟩ (.bool (decide (0 < XS.length)))).heap[D]? = some (.deferred (some [])) := (Below.heap_setCell _ _ _ _ hDN).trans hK
    have hbx : ((W.setCell ⟨w.heap.size, 0, none⟩ (.bool (decide (0 < XS.length)))).putObj D (.deferred none)).heap[w.heap.size]? = some (.cells #[.bool (decide (0 < XS.length))] 4 (0, 0)) := (World.putObj_heap_other (Ne.symm hDN)).trans (by rw [set_box HH.out.res]; rfl)
    have cx := (box_at hbx 0 (by simp)).1
    simp only [List.getElem_toArray, List.getElem_cons_zero] at cx
    refine ⟨by simp, .inl ⟨_, _, rfl, run_takeDeferred hK', .bool (decide (0 < XS.length)), by simp [results, Tryz.results59, go_sem, cx], by rw [HV'], ?_⟩⟩
    exact (HH.out.bel.setCell (p := ⟨w.heap.size, 0, none⟩) (Nat.le_refl _) _).trans (below_putObj _ _ (by omega))
  case stop =>
    rintro D W hD ⟨h1, h2, h3⟩ hK
    have c0 := (box_at h1 0 (by simp)).1
    simp at c0
    have HV : Hid ((!ks.isEmpty && walkB [] XS) = false) := hid_of (by rw [h3]; simp)
    have hDN : D ≠ w.heap.size := by omega
    gi_wp2
    have cx := (box_at (show (W.putObj D (.deferred none)).heap[w.heap.size]? = _ from (World.putObj_heap_other (Ne.symm hDN)).trans h1) 0 (by simp)).1
    simp only [List.getElem_toArray, List.getElem_cons_zero] at cx
    refine ⟨by simp, .inl ⟨_, _, rfl, run_takeDeferred hK, .bool false, by simp [results, Tryz.results59, go_sem, cx], by rw [HV.out], ?_⟩⟩
    exact h2.trans (below_putObj _ _ (by omega))
  case body =>
    rintro l pre O x ar a' A ⟨ts, wv, h⟩ ⟨wa, wc, sa, sc, sb, hp, rfl, h3, h4, h5, h6, h7, h8, h9⟩
    have zY2 : w.heap.size ≤ Y.heap.size := by omega
    clear zY
    have hpn : ts.length = pre.length := by have := congrArg List.length h.texts; simpa using this
    have hwk := (walkB_all pre []).1 h.walk
    have hx24 : pre.length ≤ 24 := by
      by_cases hx : pre = []
      · rw [hx]; simp
      · simpa using hwk.2.1 hx
    clear hwk
    have hszs : ∀ t ∈ ts, t.size ≤ maxLen := fun t ht => by have := h.sizes t ht; unfold maxLen; omega
    obtain ⟨va, vc, rfl, hSt⟩ := h.gat.strs hszs (by omega)
    have zA := h.bel.size
    have c0 := (box_at h.res 0 (by simp)).1
    have c0f := (box_at h.res 0 (by simp)).2
    have c1 := (box_at h.gat.1 0 (by simp)).1
    have c1f := (box_at h.gat.1 0 (by simp)).2
    have d0 := (box_at h9 0 (by simp)).1
    have d1 := (box_at h9 1 (by simp)).1
    have d2 := (box_at h9 2 (by simp)).1
    have d3 := (box_at h9 3 (by simp)).1
    have d4 := (box_at h9 4 (by simp)).1
    simp only [List.getElem_toArray, List.getElem_cons_zero, List.getElem_cons_succ] at c0 c1 d0 d1 d2 d3 d4
    have hti : (ts.length : Int) ≤ 24 := by omega
    have hfin : ∀ W, Below A.heap.size A W → stepB (pre.map fun x => joinW x.1) x = false → KeepsFrom Y.heap.size A (W.setCell ⟨w.heap.size, 0, none⟩ (.bool false)) ∧ NoOk w XS (W.setCell ⟨w.heap.size, 0, none⟩ (.bool false)) := fun W hb hs => by
      refine ⟨KeepsOthers.from (KeepsOthers.trans (B := W) ⟨hb.size, fun k o hk _ => (hb.block k (Array.getElem?_eq_some_iff.1 hk).1).trans hk⟩ (KeepsOthers.setCell _ _ _)) _, ?_, ?_, walkB_bad hp hs⟩
      · rw [set_box ((hb.block _ (Array.getElem?_eq_some_iff.1 h.res).1).trans h.res)]; rfl
      · exact (h.bel.trans (hb.mono zA)).setCell (p := ⟨w.heap.size, 0, none⟩) (Nat.le_refl _) _
    have HF := hid_of hfin
    have HH := hid_of h
    have HP := hid_of hp
    have HPN := hid_of hpn
    clear hfin h hp hszs hpn
    by_cases k1 : 5 < x.1.length
    · have k1i : (5 : Int) < (x.1.length : Int) := by omega
      have HS := HF.out A (Below.refl _ _) (by simp only [stepB]; rw [show decide (x.1.length ≤ 5) = false by simp; omega]; simp)
      have HS' := hid_of HS
      clear HS
      gi_wp2
      refine ⟨trivial, ?_⟩
      gi_wp2
      exact ⟨HS'.out.1, Or.inr ⟨rfl, HS'.out.2⟩⟩
    have k1i : ¬ (5 : Int) < (x.1.length : Int) := by omega
    by_cases k2 : ts.length = 24
    · have k2i : (ts.length : Int) = 24 := by omega
      have HS := HF.out A (Below.refl _ _) (by simp only [stepB, List.length_map]; rw [← HPN.out, k2]; simp)
      have HS' := hid_of HS
      clear HS
      gi_wp2
      refine ⟨trivial, ?_⟩
      gi_wp2
      exact ⟨HS'.out.1, Or.inr ⟨rfl, HS'.out.2⟩⟩
    have k2i : ¬ (ts.length : Int) = 24 := by omega
    have hIs := fun W => isSelOk_any x.2 W (.slice sa x.2.kids.length sc) h5 h6
    cases k3 : selB x.2
    · have HS := hid_of (fun W hW => HF.out W hW (by simp only [stepB]; rw [k3]; simp))
      have HI := hid_of hIs
      rw [k3] at HI
      clear hIs
      gi_wp2_with (
        refine ⟨trivial, ?_⟩
        gi_at_call 92
        refine (CallsIn.inRound l (callsIn_wide.2 (HI.out A))).mono ?_
        rintro e w1 ⟨rfl, hb1⟩
        have c0' : w1.cell? ⟨w.heap.size, 0, none⟩ = _ := (hb1.cell (p := ⟨w.heap.size, 0, none⟩) (Array.getElem?_eq_some_iff.1 HH.out.res).1).trans c0
        have c0f' : w1.frozen? ⟨w.heap.size, 0, none⟩ = false := (hb1.frozen (p := ⟨w.heap.size, 0, none⟩) (Array.getElem?_eq_some_iff.1 HH.out.res).1).trans c0f)
      exact ⟨(HS.out _ hb1).1, Or.inr ⟨rfl, (HS.out _ hb1).2⟩⟩
    have HI := hid_of hIs
    rw [k3] at HI
    clear hIs
    obtain ⟨i0, hi, hz0, hz1, hz2⟩ := info_parts info9
    gi_wp2_with (first
      | (
        refine ⟨trivial, ?_⟩
        gi_at_call 92
        refine (CallsIn.inRound l (callsIn_wide.2 (HI.out A))).mono ?_
        rintro e w1 ⟨rfl, hb1⟩
        have zb1 := hb1.size
        have hW := wayText_any x.1 wa wc w1 ((h4.mono fun k hk => hb1.block k hk).sub fun k hk => by omega) h8 h3 (by omega) h7
        have HW := hid_of hW
        clear hW)
      | (
        refine ⟨trivial, ?_⟩
        gi_at_call 93
        refine (CallsIn.inRound l (callsIn_wide.2 HW.out)).mono ?_
        rintro e w2 ⟨⟨t, rfl, ht, hts⟩, hb2'⟩
        have hb2 := hb1.trans (hb2'.mono hb1.size)
        have HT := hid_of (And.intro ht hts)
        clear ht hts hb2'
        have zb2 := hb2.size
        have e0 : w2.cell? ⟨w.heap.size, 0, none⟩ = _ := (hb2.cell (p := ⟨w.heap.size, 0, none⟩) (Array.getElem?_eq_some_iff.1 HH.out.res).1).trans c0
        have e0f : w2.frozen? ⟨w.heap.size, 0, none⟩ = false := (hb2.frozen (p := ⟨w.heap.size, 0, none⟩) (Array.getElem?_eq_some_iff.1 HH.out.res).1).trans c0f
        have e1 : w2.cell? ⟨w.heap.size + 1, 0, none⟩ = _ := (hb2.cell (p := ⟨w.heap.size + 1, 0, none⟩) (Array.getElem?_eq_some_iff.1 HH.out.gat.1).1).trans c1
        have hG2 := HH.out.gat.grow hb2
        obtain ⟨va', vc', ev, hSt2⟩ := hG2.strs (fun t ht => by have := HH.out.sizes t ht; unfold maxLen; omega) (by omega)
        simp only [Value.slice.injEq, true_and] at ev
        obtain ⟨rfl, rfl⟩ := ev
        have hC := containsS_any ts t w2 _ va vc hSt2 (by omega)
        have HC := hid_of hC
        clear hC hSt2)
      | (
        refine ⟨trivial, ?_⟩
        gi_at_call 68
        refine (CallsIn.inRound l (callsIn_wide.2 HC.out)).mono ?_
        rintro e w3 ⟨rfl, rfl⟩
        generalize hcb : (ts.map ByteArray.toList).contains t.toList = cb
        have HCB := hid_of hcb
        clear hcb
        refine Hid.out ?_))
    refine hid_of ?_
    have HST : Hid (stepB (pre.map fun x => joinW x.1) x = !cb) := hid_of (by
      simp only [stepB, List.length_map]
      rw [k3, ← HPN.out, ← HH.out.texts, ← HT.out.1, HCB.out]
      have e1 : decide (x.1.length ≤ 5) = true := by simp; omega
      have e2 : decide (ts.length < 24) = true := by simp; omega
      rw [e1, e2]
      simp)
    cases cb
    rotate_left
    · have HS := hid_of (HF.out w2 hb2 (by rw [HST.out]; rfl))
      gi_wp2
      exact ⟨HS.out.1, Or.inr ⟨rfl, HS.out.2⟩⟩
    · gi_wp2_with (
        gi_at_builtin
        refine wpListIn_append_own_at _ rfl _ _ 28 rfl w.heap.size 9 i0 (.string ByteArray.empty) 1 16 Tryz.underlying28 hi hz0 hz1 hz2 rfl (by decide) _ _ _ rfl (hG2.2.1.alloc _) ⟨w2.heap.size, 0, none⟩ 1 1 [.string t] rfl rfl (World.news_of_block (heap_alloc_new w2 _)) (by intro u hu; simp at hu; subst hu; rfl) (by unfold maxLen; omega) (by omega) (by simp; omega) ?_
        intro v' w4 hown hgrow _ hat
        have hnx := HH.out.next (x := x) (t := t) (hb2.trans ((below_box w2 _).mono hb2.size)) hgrow hown hat HT.out.1 HT.out.2 (by rw [HST.out]; rfl)
        have HN := hid_of hnx
        have n4 : w4.heap[w.heap.size + 1]? = some (.cells #[.slice va ts.length vc] 28 (0, 0)) := by
          rw [hgrow.block _ (by simp; have := (Array.getElem?_eq_some_iff.1 hG2.1).1; omega) (fun e => HH.out.gat.2.2 e.symm)]
          exact ((below_box w2 _).block _ (Array.getElem?_eq_some_iff.1 hG2.1).1).trans hG2.1
        have g1 := (box_at n4 0 (by simp)).1
        have g1f := (box_at n4 0 (by simp)).2
        simp only [List.getElem_toArray, List.getElem_cons_zero] at g1
        obtain ⟨a4, m4, c4, rfl⟩ : ∃ a n c, v' = .slice a n c := by
          rcases hown.2 with ⟨hv, _⟩ | ⟨g, cap, cur, hv, _⟩
          · exact ⟨_, _, _, hv⟩
          · exact ⟨_, _, _, hv⟩
        clear hnx hown hgrow hat)
      exact ⟨HN.out.2.from _, Or.inl ⟨rfl, HN.out.1⟩⟩
end Go.Proofs.YtgcfgadkclfonaaGreatDoor
