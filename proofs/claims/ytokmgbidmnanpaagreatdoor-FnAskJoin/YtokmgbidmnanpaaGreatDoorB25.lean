import Derived.Test.YtokmgbidmnanpaaGreatDoorB19
import Derived.Test.YtokmgbidmnanpaaGreatDoorB11
import Derived.Test.YtokmgbidmnanpaaGreatDoorB2
import Derived.Test.YtokmgbidmnanpaaGreatDoorB23
import Derived.Maps.OwnIn
import Derived.Deep.AppendLies
import Derived.Test.YtokmgbidmnanpaaGreatDoorB24
import Derived.Test.YtokmgbidmnanpaaGreatDoorB1
set_option linter.unusedSimpArgs false
set_option linter.unusedVariables false
namespace Go.Proofs.YtokmgbidmnanpaaGreatDoor
open Go.RowKit Go.Maps
theorem rowFs {w0 w : World} {P : Nat → Prop} {base gF capF gD capD : Nat} {fs : List F} {Cf : Nat → Nat → Value} (g : F)
    (hr : ∀ i, i < fs.length → FRep w0 P (fth fs i) (.agg #[Cf i 0, Cf i 1, Cf i 2, Cf i 3, Cf i 4, Cf i 5, Cf i 6, Cf i 7])) (hk : ∀ b, P b → w.heap[b]? = w0.heap[b]?)
    (h : w.ownsRow base 54 8 (.slice (some ⟨gF, 0, none⟩) (fs.length + 1) capF) (fs.length + 1) (flat8 Cf fs.length ++ [.string g.name, .string g.of, .bool g.list, .bool g.must, .bool g.far, .bool g.hidden, .bool g.shared, .slice (some ⟨gD, 0, none⟩) g.needs.length capD]))
    (hd : w.ownsRow base 9 1 (.slice (some ⟨gD, 0, none⟩) g.needs.length capD) g.needs.length (g.needs.map Value.string))
    (hcd : g.needs.length ≤ capD) (hs : ∀ i, (nth g.needs i).size ≤ maxLen) (hl : g.needs.length ≤ 1000000000) (hl2 : fs.length ≤ 1000000000) (h1 : g.name.size ≤ maxLen) (h2 : g.of.size ≤ maxLen) :
    FsRep w (fun b => P b ∨ (base ≤ b ∧ b < w.heap.size)) (fs ++ [g]) (some ⟨gF, 0, none⟩) := by
  have hD := rowStrs (n := 0) hd hs (by unfold maxLen; omega)
  refine ⟨by simp; omega, fun i j => if i < fs.length then Cf i j else ([.string g.name, .string g.of, .bool g.list, .bool g.must, .bool g.far, .bool g.hidden, .bool g.shared, .slice (some ⟨gD, 0, none⟩) g.needs.length capD] : List Value).getD j undef, fun _ => ⟨gF, 0, rfl, Or.inr (h.lt gF rfl), fun i hi j hj => ?_⟩, fun i hi => ?_⟩
  · have hi' : i < fs.length + 1 := by simpa using hi
    rw [Nat.zero_add, h.cellAt (i * 8 + j) (by omega)]
    show _ = some (if i < fs.length then Cf i j else _)
    by_cases hlt : i < fs.length
    · rw [if_pos hlt, List.getElem?_append_left (by rw [flat8_len]; omega), flat8_at _ _ _ _ hlt hj]
    · have : i = fs.length := by omega
      subst this
      rw [if_neg hlt, List.getElem?_append_right (by rw [flat8_len]; omega), flat8_len, Nat.add_sub_cancel_left]
      rcases j with _ | _ | _ | _ | _ | _ | _ | _ | j
      all_goals first | rfl | omega
  · have hi' : i < fs.length + 1 := by simpa using hi
    by_cases hlt : i < fs.length
    · simp only [if_pos hlt]
      rw [fth_snoc_lt _ _ _ hlt]
      exact ((hr i hlt).mono hk).sub fun b hb => Or.inl hb
    · have : i = fs.length := by omega
      subst this
      simp only [if_neg hlt]
      rw [fth_snoc_eq]
      exact ⟨_, capD, rfl, hD.sub fun b hb => Or.inr hb, hcd, h1, h2, by omega⟩
theorem below_sets3 {B N : Nat} {a w : World} (h : Below B a w) (hN : B ≤ N) (v0 v1 v2 : Value) :
    Below B a (((w.setCell ⟨N, 0, none⟩ v0).setCell ⟨N, 1, none⟩ v1).setCell ⟨N, 2, none⟩ v2) :=
  puts_below hN [v0, v1, v2] w 0 h
theorem sets3_block {N b : Nat} (h : b ≠ N) (w : World) (v0 v1 v2 : Value) :
    (((w.setCell ⟨N, 0, none⟩ v0).setCell ⟨N, 1, none⟩ v1).setCell ⟨N, 2, none⟩ v2).heap[b]? = w.heap[b]? :=
  puts_block N b h [v0, v1, v2] w 0
theorem sets3_size {N : Nat} (w : World) (v0 v1 v2 : Value) :
    (((w.setCell ⟨N, 0, none⟩ v0).setCell ⟨N, 1, none⟩ v1).setCell ⟨N, 2, none⟩ v2).heap.size = w.heap.size :=
  puts_size N [v0, v1, v2] w 0
theorem sets3_cells {w : World} {N : Nat} {c : Array Value} {T : TypeId} (hb : w.heap[N]? = some (.cells c T (0, 0))) (hc : c.size = 3) (v0 v1 v2 : Value) :
    (((w.setCell ⟨N, 0, none⟩ v0).setCell ⟨N, 1, none⟩ v1).setCell ⟨N, 2, none⟩ v2).cell? ⟨N, 0, none⟩ = some v0 ∧ (((w.setCell ⟨N, 0, none⟩ v0).setCell ⟨N, 1, none⟩ v1).setCell ⟨N, 2, none⟩ v2).cell? ⟨N, 1, none⟩ = some v1 ∧ (((w.setCell ⟨N, 0, none⟩ v0).setCell ⟨N, 1, none⟩ v1).setCell ⟨N, 2, none⟩ v2).cell? ⟨N, 2, none⟩ = some v2 := by
  have hrow : w.rowIs N T 3 (fun i => c[i]?.getD undef) := ⟨c, hb, hc, fun i hi => by simp [show i < c.size by omega]⟩
  obtain ⟨G', hG2, hG1, -⟩ := puts_row [v0, v1, v2] 0 hrow
  have g : ∀ j, j < 3 → (((w.setCell ⟨N, 0, none⟩ v0).setCell ⟨N, 1, none⟩ v1).setCell ⟨N, 2, none⟩ v2).cell? ⟨N, j, none⟩ = some ([v0, v1, v2].getD j undef) := fun j hj => by
    have := hG1 j hj
    rw [Nat.zero_add] at this
    exact (hG2.cell hj).trans (congrArg some this)
  exact ⟨g 0 (by omega), g 1 (by omega), g 2 (by omega)⟩
theorem typeResult (FW : World) (tmps : Array Value) (N : Nat) (v0 v1 v2 : Value) (h4 : tmps.getD 4 undef = .pointer (some ⟨N, 0, none⟩))
    (d0 : FW.cell? ⟨N, 0, none⟩ = some v0) (d1 : FW.cell? ⟨N, 1, none⟩ = some v1) (d2 : FW.cell? ⟨N, 2, none⟩ = some v2) :
    (results Tryz.f154 tmps).run Tryz.prog FW = .ok (.agg #[v0, v1, v2]) FW := by
  simp only [Array.getD_eq_getD_getElem?] at h4
  simp [results, Tryz.results154, go_sem, h4, d0, d1, d2]
theorem putEnd {t : T} {f : F} {v : Value} {na : Option Addr} {nc : Nat} {w wS : World} {P Q : Nat → Prop} {Cf : Nat → Nat → Value} {base gF capF gD capD N : Nat} (hT : TRep w P t v) (hF : FRep w Q f (fval f na nc)) (hP : ∀ b, P b → b < w.heap.size) (hl : t.fields.length ≤ 1000000000) (hl2 : f.needs.length ≤ 1000000000) (hx : fieldIx t f.name = -1)
    (hr : ∀ i, i < t.fields.length → FRep w P (fth t.fields i) (.agg #[Cf i 0, Cf i 1, Cf i 2, Cf i 3, Cf i 4, Cf i 5, Cf i 6, Cf i 7])) (hb : w.heap.size ≤ base) (hN : N < base) (hN2 : w.heap.size ≤ N)
    (hO : wS.ownsRow base 54 8 (.slice (some ⟨gF, 0, none⟩) (t.fields.length + 1) capF) (t.fields.length + 1) (flat8 Cf t.fields.length ++ [.string f.name, .string f.of, .bool f.list, .bool f.must, .bool false, .bool f.hidden, .bool false, .slice (some ⟨gD, 0, none⟩) f.needs.length capD]) ∧ wS.ownsRow base 9 1 (.slice (some ⟨gD, 0, none⟩) f.needs.length capD) f.needs.length (f.needs.map Value.string))
    (hcf : t.fields.length + 1 ≤ capF) (hcd : f.needs.length ≤ capD) (bS : Below w.heap.size w wS) (v0 v1 v2 : Value) (W : World) (hW : W = (((wS.setCell ⟨N, 0, none⟩ v0).setCell ⟨N, 1, none⟩ v1).setCell ⟨N, 2, none⟩ v2)) :
    ∃ fa' fc', (.returned (.agg #[.string t.name, .string t.key, .slice (some ⟨gF, 0, none⟩) (t.fields.length + 1) capF]) : Ending) = .returned (.agg #[.string t.name, .string t.key, .slice fa' (putF t f).fields.length fc']) ∧ TRep W (fun b => P b ∨ Q b ∨ (w.heap.size ≤ b ∧ b < W.heap.size)) (putF t f) (.agg #[.string t.name, .string t.key, .slice fa' (putF t f).fields.length fc']) ∧ Below w.heap.size w W := by
  have hp : putF t f = { t with fields := t.fields ++ [⟨f.name, f.of, f.list, f.must, false, f.hidden, false, f.needs⟩] } := by rw [putF, if_neg (by rw [hx]; omega)]
  have hln : (putF t f).fields.length = t.fields.length + 1 := by rw [hp]; simp
  have hbl : ∀ b, b ≠ N → W.heap[b]? = wS.heap[b]? := fun b hb => by rw [hW]; exact sets3_block hb _ _ _ _
  have hsz : W.heap.size = wS.heap.size := by rw [hW]; exact sets3_size _ _ _ _
  have hbW : Below w.heap.size w W := by rw [hW]; exact below_sets3 bS hN2 _ _ _
  have oF := owns_at (w' := W) hO.1 fun j hj => by cases hj; exact hbl gF (by have := (hO.1.lt gF rfl).1; omega)
  have oD := owns_at (w' := W) hO.2 fun j hj => by cases hj; exact hbl gD (by have := (hO.2.lt gD rfl).1; omega)
  obtain ⟨fa0, fc0, -, -, -, ht1, ht2⟩ := hT
  obtain ⟨na', nc', -, hs, -, hf1, hf2, -⟩ := hF
  have hR := rowFs (w0 := w) (w := W) (P := P) (⟨f.name, f.of, f.list, f.must, false, f.hidden, false, f.needs⟩ : F) hr (fun b hb => hbW.block b (hP b hb)) oF oD hcd hs.2.1 hl2 hl hf1 hf2
  refine ⟨some ⟨gF, 0, none⟩, capF, by rw [hln], ⟨some ⟨gF, 0, none⟩, capF, ?_, ?_, by rw [hln]; exact hcf, ?_, ?_⟩, hbW⟩
  · rw [hp]
  · rw [hp]
    exact hR.sub fun b hb => hb.elim Or.inl fun h => Or.inr (Or.inr ⟨by omega, h.2⟩)
  · rw [hp]; exact ht1
  · rw [hp]; exact ht2
theorem infoFH : (Tryz.prog.info? 54).map (fun i => (i.zero.map fun z => z.cells.size, i.size, i.bytes)) = some (some 8, 8, 64) := by kernel_rfl
theorem infoF_parts : ∃ (i : TypeInfo) (z : Value), Tryz.prog.info? 54 = some i ∧ i.zero = some z ∧ i.size = 8 ∧ i.bytes = 64 ∧ z.cells.size = 8 := by
  have h := infoFH
  cases hi : Tryz.prog.info? 54 with
  | none => rw [hi] at h; cases h
  | some i =>
    rw [hi] at h
    simp only [Option.map_some, Option.some.injEq, Prod.mk.injEq] at h
    obtain ⟨h1, h2, h3⟩ := h
    cases hz : i.zero with
    | none => rw [hz] at h1; cases h1
    | some z =>
      rw [hz] at h1
      simp only [Option.map_some, Option.some.injEq] at h1
      exact ⟨i, z, rfl, hz, h2, h3, h1⟩
end Go.Proofs.YtokmgbidmnanpaaGreatDoor
namespace Go.Proofs.YtokmgbidmnanpaaGreatDoor
open Go.RowKit Go.Shelf Go.Maps
attribute [local go_sem] Oper.semAt_some
structure IOk (w : World) (pre : List (Way × Se)) (O : Nat → Prop) (ts : List ByteArray) (wv : Value) (A : World) : Prop where
  gat : Gat w.heap.size (w.heap.size + 1) ts wv A
  texts : ts.map ByteArray.toList = pre.map fun x => joinW x.1
  sizes : ∀ t ∈ ts, t.size ≤ 1048577000
  res : A.heap[w.heap.size]? = some (.cells #[.bool false] 4 (0, 0))
  walk : walkB [] pre = true
  bel : Below w.heap.size w A
  own : ∀ b, O b ↔ b = w.heap.size ∨ b = w.heap.size + 1 ∨ wv.ownBlock = some b
theorem IOk.of {w : World} {pre : List (Way × Se)} {O : Nat → Prop} {ts : List ByteArray} {wv : Value} {A B : World} (h : IOk w pre O ts wv A) (hg : Gat w.heap.size (w.heap.size + 1) ts wv B) (hr : B.heap[w.heap.size]? = some (.cells #[.bool false] 4 (0, 0))) (hb : Below w.heap.size w B) : IOk w pre O ts wv B :=
  ⟨hg, h.texts, h.sizes, hr, h.walk, hb, h.own⟩
def NoOk (w : World) (XS : List (Way × Se)) (A : World) : Prop := A.heap[w.heap.size]? = some (.cells #[.bool false] 4 (0, 0)) ∧ Below w.heap.size w A ∧ walkB [] XS = false
theorem still_cells {A : World} {l k : Nat} {o o' : Obj} {c : Array Value} {t : TypeId} {f : Nat × Nat} (hl : A.heap[l]? = some o) (ho : o.isCells = false) (hk : A.heap[k]? = some (Obj.cells c t f)) : (A.putObj l o').heap[k]? = some (Obj.cells c t f) := by
  have hne : k ≠ l := by intro e; rw [e, hl] at hk; cases hk; cases ho
  exact (World.putObj_heap_other hne).trans hk
theorem still_strs {A : World} {l : Nat} {o o' : Obj} {ns : List ByteArray} {a : Option Addr} (hl : A.heap[l]? = some o) (ho : o.isCells = false) (h : Strs A (· < A.heap.size) ns a) : Strs (A.putObj l o') (· < (A.putObj l o').heap.size) ns a := by
  refine ⟨fun hn => ?_, h.2⟩
  obtain ⟨b, off, e, hb, hc⟩ := h.1 hn
  refine ⟨b, off, e, by simpa using hb, fun i hi => ?_⟩
  obtain ⟨ob, h1, h2⟩ := cell_cells (hc i hi)
  have hne : b ≠ l := by intro e; rw [e, hl] at h1; cases h1; rw [ho] at h2; cases h2
  exact (World.cell?_of_block (w := A) (a := ⟨b, off + i, none⟩) (World.putObj_heap_other hne)).trans (hc i hi)
theorem IOk.next {w : World} {pre : List (Way × Se)} {O : Nat → Prop} {ts : List ByteArray} {wv v' : Value} {A W W3 : World} {x : Way × Se} {t : ByteArray} (h : IOk w pre O ts wv A) (hb : Below A.heap.size A W) (hgr : W.grownBy W3 wv.ownBlock)
    (hown : W3.ownsRow w.heap.size 9 1 v' (ts.length + 1) (ts.map Value.string ++ [.string t])) (hat : v'.ownBlock = wv.ownBlock ∨ v'.ownBlock = some W.heap.size) (ht : t.toList = joinW x.1) (hts : t.size ≤ 1048577000) (hs : stepB (pre.map fun x => joinW x.1) x = true) :
    (∃ O', (∃ ts wv, IOk w (pre ++ [x]) O' ts wv (W3.setCell ⟨w.heap.size + 1, 0, none⟩ v')) ∧ KeepO O A (W3.setCell ⟨w.heap.size + 1, 0, none⟩ v') ∧ ∀ b, O' b → O b ∨ A.heap.size ≤ b) ∧ KeepsOthers A (W3.setCell ⟨w.heap.size + 1, 0, none⟩ v') := by
  have lN := (Array.getElem?_eq_some_iff.1 h.res).1
  have lN1 := (Array.getElem?_eq_some_iff.1 h.gat.1).1
  have zW := hb.size
  have zA := h.bel.size
  have hk : ∀ (k : Nat) (o : Obj), A.heap[k]? = some o → wv.ownBlock ≠ some k → W3.heap[k]? = some o := fun k o hk hne => by
    have h1 := (hb.block k (Array.getElem?_eq_some_iff.1 hk).1).trans hk
    rw [hgr.block k (Array.getElem?_eq_some_iff.1 h1).1 (fun e => hne e.symm)]
    exact h1
  have hnN : wv.ownBlock ≠ some w.heap.size := fun e => by
    rcases h.gat.2.1.2 with ⟨rfl, _⟩ | ⟨g, cap, cur, rfl, hbg, hg, _⟩
    · simp [Value.ownBlock] at e
    · simp only [Value.ownBlock, Option.some.injEq] at e
      rw [e, h.res] at hg
      simp only [Option.some.injEq, Obj.cells.injEq] at hg
      exact absurd hg.2.1 (by decide)
  have hv1 : v'.ownBlock ≠ some (w.heap.size + 1) := fun e => by
    rcases hat with e2 | e2
    · exact h.gat.2.2 (by rw [← e2, e])
    · rw [e2] at e
      simp only [Option.some.injEq] at e
      omega
  have hset : ∀ (k : Nat), k ≠ w.heap.size + 1 → (W3.setCell ⟨w.heap.size + 1, 0, none⟩ v').heap[k]? = W3.heap[k]? := fun k hk => Below.heap_setCell _ _ _ _ hk
  have hbl : ∀ b, wv.ownBlock = some b → w.heap.size ≤ b := fun b hb => (h.gat.2.1.lt b hb).1
  refine ⟨⟨fun b => b = w.heap.size ∨ b = w.heap.size + 1 ∨ v'.ownBlock = some b, ⟨ts ++ [t], v', ⟨⟨?_, ?_, hv1⟩, ?_, ?_, ?_, walkB_one h.walk hs, ?_, fun b => Iff.rfl⟩⟩, ⟨?_, fun b o hO hc hcl => ?_⟩, fun b hO => ?_⟩, ⟨?_, fun k o hko ho => ?_⟩⟩
  · rw [set_box (hk _ _ h.gat.1 h.gat.2.2)]; rfl
  · have := hown.kept (row := some (w.heap.size + 1)) (w' := W3.setCell ⟨w.heap.size + 1, 0, none⟩ v') ⟨rfl, rfl, rfl, by simp [World.setCell], fun k _ hk => hset k (fun e => hk (by rw [e]))⟩ (Or.inr hv1)
    simpa using this
  · simp [h.texts, ht]
  · intro u hu
    rcases List.mem_append.1 hu with hu | hu
    · exact h.sizes u hu
    · rw [List.mem_singleton.1 hu]; exact hts
  · rw [hset _ (by omega)]
    exact hk _ _ h.res hnN
  · exact (((h.bel.trans (hb.mono zA)).grown hgr (by omega) hbl)).setCell (p := ⟨w.heap.size + 1, 0, none⟩) (by show w.heap.size ≤ w.heap.size + 1; omega) _
  · have := hgr.size
    simp; omega
  · have hn1 : b ≠ w.heap.size + 1 := fun e => hO ((h.own b).2 (Or.inr (Or.inl e)))
    rw [hset _ hn1]
    exact hk _ _ hc (fun e => hO ((h.own b).2 (Or.inr (Or.inr e))))
  · rcases hO with rfl | rfl | hO
    · exact Or.inl ((h.own _).2 (Or.inl rfl))
    · exact Or.inl ((h.own _).2 (Or.inr (Or.inl rfl)))
    · rcases hat with e2 | e2
      · exact Or.inl ((h.own b).2 (Or.inr (Or.inr (by rw [← e2, hO]))))
      · rw [e2] at hO
        simp only [Option.some.injEq] at hO
        exact Or.inr (by omega)
  · have := hgr.size
    simp; omega
  · have hn1 : k ≠ w.heap.size + 1 := fun e => by rw [e, h.gat.1] at hko; cases hko; cases ho
    rw [hset _ hn1]
    refine hk _ _ hko (fun e => ?_)
    rcases h.gat.2.1.2 with ⟨rfl, _⟩ | ⟨g, cap, cur, rfl, hbg, hg, _⟩
    · simp [Value.ownBlock] at e
    · simp only [Value.ownBlock, Option.some.injEq] at e
      rw [e, hko] at hg
      cases hg
      cases ho
set_option maxRecDepth 20000 in
set_option maxHeartbeats 3200000 in
theorem areSelsOk_any (f : Nat) (ks : List Se) (w : World) (B : Nat) (ka : Option Addr) (kc : Nat) (hf : FitS f ks) (hsm : SmallS f ks) (hfb : f ≤ 1000000000) (hR : SeReps w (· < B) ks ka) (hB : B ≤ w.heap.size) :
    Calls Tryz.prog 45 #[.slice ka ks.length kc] w fun e w' => e = .returned (.bool (!ks.isEmpty && walkB [] (preTo f [] ks ks.length))) ∧ Below w.heap.size w w' := by
  obtain ⟨XS, hXS⟩ : ∃ XS, XS = preTo f [] ks ks.length := ⟨_, rfl⟩
  rw [← hXS]
  have HXS := hid_of hXS
  clear hXS
  refine (callsIn_wide (n := 3)).1 ?_
  refine callsIn_of_wp_marks Tryz.func45 rfl trivial ?_ rfl
  simp only [Tryz.ntmps45, List.size_toArray, List.length_cons, List.length_nil, Nat.reduceAdd, Nat.reduceSub, Array.replicate_succ, Array.replicate_zero, List.push_toArray, List.append_toArray, List.nil_append, List.cons_append]
  gi_wp2_with (refine ⟨trivial, ?_⟩; gi_at_call 42; refine (callsIn_wide.2 (selsOf_any _ ka ks.length kc)).mono ?_; rintro e w' ⟨rfl, rfl⟩)
  obtain ⟨Y, hY⟩ : ∃ Y, Y = ((w.alloc (.cells #[.bool false] 4)).alloc (.cells #[.slice none 0 0] 29)).alloc (.cells #[.slice ka ks.length kc] 23) := ⟨_, rfl⟩
  have zY : Y.heap.size = w.heap.size + 1 + 1 + 1 := by rw [hY]; simp
  have bY : Below w.heap.size w Y := by rw [hY]; exact (((Below.refl _ _).alloc (Nat.le_refl _) _).alloc (by simp) _).alloc (by simp; omega) _
  have rY : Y.heap[w.heap.size]? = some (.cells #[.bool false] 4 (0, 0)) := by
    rw [hY, (below_box _ _).block _ (by simp; omega), (below_box _ _).block _ (by simp)]
    exact block_new _ _ rfl
  have wY : Y.heap[w.heap.size + 1]? = some (.cells #[.slice none 0 0] 29 (0, 0)) := by
    rw [hY, (below_box _ _).block _ (by simp)]
    exact block_new _ _ (by simp)
  have sY : Y.heap[w.heap.size + 1 + 1]? = some (.cells #[.slice ka ks.length kc] 23 (0, 0)) := by
    rw [hY]
    exact block_new _ _ (by simp)
  rw [← hY]
  clear hY
  refine range_stop (w := Y) rfl (by omega) (gf := 79) (lb := #[.pointer (some ⟨w.heap.size + 1 + 1, 0, none⟩)]) rfl trivial (enters_of Tryz.func79 (by kernel_rfl) rfl)
    XS (fun pre x ar A => ArgT x ar A ∧ pre ++ [x] <+: XS) ?ps (fun pre O A => ∃ ts wv, IOk w pre O ts wv A) ?still ?grows ?lt (NoOk w XS) ?xstill
    (fun b => b = w.heap.size ∨ b = w.heap.size + 1) ?start ?seq
    (fun pre x ar a' A => ∃ (wa : Option Addr) (wc : Nat) (sa : Option Addr) (sc sb : Nat), pre ++ [x] <+: XS ∧ a' = { tmps := #[.slice ka ks.length kc, undef, .pointer (some ⟨w.heap.size, 0, none⟩), .pointer (some ⟨w.heap.size + 1, 0, none⟩), .slice wa x.1.length wc, .pointer (some ⟨sb, 0, none⟩), undef, .slice ka ks.length kc, .func (.func 79) #[] #[.pointer (some ⟨w.heap.size + 1 + 1, 0, none⟩)], .slice wa x.1.length wc, .agg #[.string x.2.al, .string x.2.name, .bool x.2.one, .int .i64 x.2.id, .slice sa x.2.kids.length sc], undef, undef, undef, undef, undef, undef, undef, undef, undef, undef, undef, undef, undef, undef, undef, undef, undef, undef, undef, undef, undef, undef, undef, undef, undef], defers := [] } ∧ x.1.length ≤ wc ∧ Strs A (· < A.heap.size) x.1 wa ∧ x.2.al.size ≤ maxLen ∧ x.2.name.size ≤ maxLen ∧ (∀ a ∈ x.1, a.size ≤ 1048576) ∧ x.1 ≠ [] ∧
      A.heap[sb]? = some (.cells #[.string x.2.al, .string x.2.name, .bool x.2.one, .int .i64 x.2.id, .slice sa x.2.kids.length sc] 56 (0, 0))) ?astill ?assign ?body ?done ?stop
  case ps =>
    rintro pre x ar A ⟨⟨wa, wc, sa, sc, rfl, -⟩, -⟩
    rfl
  case still =>
    rintro pre O A l o o' ⟨ts, wv, h⟩ hl ho1 ho2
    exact ⟨ts, wv, h.of (h.gat.still ho1 ho2) (still_cells ho1 ho2 h.res) (h.bel.trans (below_putObj _ _ (by omega)))⟩
  case grows =>
    rintro pre O A A' ⟨ts, wv, h⟩ hb
    have zA := h.bel.size
    exact ⟨ts, wv, h.of (h.gat.grow hb) ((hb.block _ (Array.getElem?_eq_some_iff.1 h.res).1).trans h.res) (h.bel.trans (hb.mono zA))⟩
  case lt =>
    rintro pre O A ⟨ts, wv, h⟩ b hb
    rcases (h.own b).1 hb with rfl | rfl | hv
    · exact (Array.getElem?_eq_some_iff.1 h.res).1
    · exact (Array.getElem?_eq_some_iff.1 h.gat.1).1
    · exact (h.gat.2.1.lt b hv).2
  case xstill =>
    rintro A l o o' ⟨h1, h2, h3⟩ hl ho1 ho2
    exact ⟨still_cells ho1 ho2 h1, h2.trans (below_putObj _ _ (by omega)), h3⟩
  case start => exact ⟨[], .slice none 0 0, ⟨⟨wY, World.ownsRow_nil _ _ _ _, by simp [Value.ownBlock]⟩, rfl, by simp, rY, rfl, bY, fun b => by simp [Value.ownBlock]⟩⟩
  case seq =>
    intro l J Jx W hb hJg hJO hy h0
    have hbW := bY.trans (hb.mono (by omega))
    have := selsOf1_any f ks l J Jx w.heap.size hJg hJO (fun n pre O x ar A hJ hp hA => yieldAt_wide (hy pre O x ar A hJ ⟨hA, by rw [HXS.out]; exact hp⟩)) (3 - 1) _ W ka kc (w.heap.size + 1 + 1) hf hsm ((hR.under (hbW.mono hB)).sub fun b hb => by omega) hbW.size hfb h0 (by rintro b (rfl | rfl) <;> omega) ((hb.cell (p := ⟨w.heap.size + 1 + 1, 0, none⟩) (by show w.heap.size + 1 + 1 < _; omega)).trans (box_at sY 0 (by simp)).1)
    rw [← HXS.out] at this
    exact this
  case astill =>
    rintro pre x ar a' A l o o' ⟨wa, wc, sa, sc, sb, h1, h2, h3, h4, h5, h6, h7, h8, h9⟩ hl ho1 ho2
    exact ⟨wa, wc, sa, sc, sb, h1, h2, h3, still_strs ho1 ho2 h4, h5, h6, h7, h8, still_cells ho1 ho2 h9⟩
  case assign =>
    rintro l pre x ar A K ⟨⟨wa, wc, sa, sc, rfl, h3, h4, h5, h6, h7, h8⟩, hp⟩ hK
    have HK := hid_of hK
    clear hK
    gi_wp2
    refine HK.out _ _ (below_box A _) ⟨wa, wc, sa, sc, A.heap.size, hp, rfl, h3, ?_, h5, h6, h7, h8, block_new _ _ rfl⟩
    exact (h4.mono fun k hk => (below_box A _).block k hk).sub fun k hk => by simp; omega
  case done =>
    rintro D O W hD ⟨ts, wv, h⟩ hK
    have hpn : ts.length = XS.length := by have := congrArg List.length h.texts; simpa using this
    have hwk := (walkB_all XS []).1 h.walk
    have hx24 : XS.length ≤ 24 := by
      by_cases hx : XS = []
      · rw [hx]; simp
      · simpa using hwk.2.1 hx
    obtain ⟨va, vc, rfl, -⟩ := h.gat.strs (fun t ht => by have := h.sizes t ht; unfold maxLen; omega) (by omega)
    have c0 := (box_at h.res 0 (by simp)).1
    have c0f := (box_at h.res 0 (by simp)).2
    have c1 := (box_at h.gat.1 0 (by simp)).1
    simp at c0 c1
    have hi24 : (ts.length : Int) ≤ 24 := by omega
    have HH := hid_of h
    have HV : Hid ((!ks.isEmpty && walkB [] XS) = decide (0 < ts.length)) := hid_of (by
      rw [h.walk, hpn, Bool.and_true]
      have := preTo_some hf
      rw [← HXS.out] at this
      cases hk : ks.isEmpty
      · simp [this.2 hk]
      · have h2 : ¬ 0 < XS.length := fun h3 => by rw [this.1 h3] at hk; cases hk
        simp [h2])
    clear hwk h
    have hDN : D ≠ w.heap.size := by omega
    gi_wp2
    have HV' := HV.out
    rw [hpn] at HV'
    have hK' : (W.setCell ⟨w.heap.size, 0, none⟩ (.bool (decide (0 < XS.length)))).heap[D]? = some (.deferred (some [])) := (Below.heap_setCell _ _ _ _ hDN).trans hK
    have hbx : ((W.setCell ⟨w.heap.size, 0, none⟩ (.bool (decide (0 < XS.length)))).putObj D (.deferred none)).heap[w.heap.size]? = some (.cells #[.bool (decide (0 < XS.length))] 4 (0, 0)) := (World.putObj_heap_other (Ne.symm hDN)).trans (by rw [set_box HH.out.res]; rfl)
    have cx := (box_at hbx 0 (by simp)).1
    simp only [List.getElem_toArray, List.getElem_cons_zero] at cx
    refine ⟨by simp, .inl ⟨_, _, rfl, run_takeDeferred hK', .bool (decide (0 < XS.length)), by simp [results, Tryz.results45, go_sem, cx], by rw [HV'], ?_⟩⟩
    exact (HH.out.bel.setCell (p := ⟨w.heap.size, 0, none⟩) (Nat.le_refl _) _).trans (below_putObj _ _ (by omega))
  case stop =>
    rintro D W hD ⟨h1, h2, h3⟩ hK
    have c0 := (box_at h1 0 (by simp)).1
    simp at c0
    have HV : Hid ((!ks.isEmpty && walkB [] XS) = false) := hid_of (by rw [h3]; simp)
    have hDN : D ≠ w.heap.size := by omega
    gi_wp2
    have cx := (box_at (show (W.putObj D (.deferred none)).heap[w.heap.size]? = _ from (World.putObj_heap_other (Ne.symm hDN)).trans h1) 0 (by simp)).1
    simp only [List.getElem_toArray, List.getElem_cons_zero] at cx
    refine ⟨by simp, .inl ⟨_, _, rfl, run_takeDeferred hK, .bool false, by simp [results, Tryz.results45, go_sem, cx], by rw [HV.out], ?_⟩⟩
    exact h2.trans (below_putObj _ _ (by omega))
  case body =>
    rintro l pre O x ar a' A ⟨ts, wv, h⟩ ⟨wa, wc, sa, sc, sb, hp, rfl, h3, h4, h5, h6, h7, h8, h9⟩
    have zY2 : w.heap.size ≤ Y.heap.size := by omega
    clear zY
    have hpn : ts.length = pre.length := by have := congrArg List.length h.texts; simpa using this
    have hwk := (walkB_all pre []).1 h.walk
    have hx24 : pre.length ≤ 24 := by
      by_cases hx : pre = []
      · rw [hx]; simp
      · simpa using hwk.2.1 hx
    clear hwk
    have hszs : ∀ t ∈ ts, t.size ≤ maxLen := fun t ht => by have := h.sizes t ht; unfold maxLen; omega
    obtain ⟨va, vc, rfl, hSt⟩ := h.gat.strs hszs (by omega)
    have zA := h.bel.size
    have c0 := (box_at h.res 0 (by simp)).1
    have c0f := (box_at h.res 0 (by simp)).2
    have c1 := (box_at h.gat.1 0 (by simp)).1
    have c1f := (box_at h.gat.1 0 (by simp)).2
    have d0 := (box_at h9 0 (by simp)).1
    have d1 := (box_at h9 1 (by simp)).1
    have d2 := (box_at h9 2 (by simp)).1
    have d3 := (box_at h9 3 (by simp)).1
    have d4 := (box_at h9 4 (by simp)).1
    simp only [List.getElem_toArray, List.getElem_cons_zero, List.getElem_cons_succ] at c0 c1 d0 d1 d2 d3 d4
    have hti : (ts.length : Int) ≤ 24 := by omega
    have hfin : ∀ W, Below A.heap.size A W → stepB (pre.map fun x => joinW x.1) x = false → KeepsFrom Y.heap.size A (W.setCell ⟨w.heap.size, 0, none⟩ (.bool false)) ∧ NoOk w XS (W.setCell ⟨w.heap.size, 0, none⟩ (.bool false)) := fun W hb hs => by
      refine ⟨KeepsOthers.from (KeepsOthers.trans (B := W) ⟨hb.size, fun k o hk _ => (hb.block k (Array.getElem?_eq_some_iff.1 hk).1).trans hk⟩ (KeepsOthers.setCell _ _ _)) _, ?_, ?_, walkB_bad hp hs⟩
      · rw [set_box ((hb.block _ (Array.getElem?_eq_some_iff.1 h.res).1).trans h.res)]; rfl
      · exact (h.bel.trans (hb.mono zA)).setCell (p := ⟨w.heap.size, 0, none⟩) (Nat.le_refl _) _
    have HF := hid_of hfin
    have HH := hid_of h
    have HP := hid_of hp
    have HPN := hid_of hpn
    clear hfin h hp hszs hpn
    by_cases k1 : 5 < x.1.length
    · have k1i : (5 : Int) < (x.1.length : Int) := by omega
      have HS := HF.out A (Below.refl _ _) (by simp only [stepB]; rw [show decide (x.1.length ≤ 5) = false by simp; omega]; simp)
      have HS' := hid_of HS
      clear HS
      gi_wp2
      refine ⟨trivial, ?_⟩
      gi_wp2
      exact ⟨HS'.out.1, Or.inr ⟨rfl, HS'.out.2⟩⟩
    have k1i : ¬ (5 : Int) < (x.1.length : Int) := by omega
    by_cases k2 : ts.length = 24
    · have k2i : (ts.length : Int) = 24 := by omega
      have HS := HF.out A (Below.refl _ _) (by simp only [stepB, List.length_map]; rw [← HPN.out, k2]; simp)
      have HS' := hid_of HS
      clear HS
      gi_wp2
      refine ⟨trivial, ?_⟩
      gi_wp2
      exact ⟨HS'.out.1, Or.inr ⟨rfl, HS'.out.2⟩⟩
    have k2i : ¬ (ts.length : Int) = 24 := by omega
    have hIs := fun W => isSelOk_any x.2 W (.slice sa x.2.kids.length sc) h5 h6
    cases k3 : selB x.2
    · have HS := hid_of (fun W hW => HF.out W hW (by simp only [stepB]; rw [k3]; simp))
      have HI := hid_of hIs
      rw [k3] at HI
      clear hIs
      gi_wp2_with (
        refine ⟨trivial, ?_⟩
        gi_at_call 82
        refine (CallsIn.inRound l (callsIn_wide.2 (HI.out A))).mono ?_
        rintro e w1 ⟨rfl, hb1⟩
        have c0' : w1.cell? ⟨w.heap.size, 0, none⟩ = _ := (hb1.cell (p := ⟨w.heap.size, 0, none⟩) (Array.getElem?_eq_some_iff.1 HH.out.res).1).trans c0
        have c0f' : w1.frozen? ⟨w.heap.size, 0, none⟩ = false := (hb1.frozen (p := ⟨w.heap.size, 0, none⟩) (Array.getElem?_eq_some_iff.1 HH.out.res).1).trans c0f)
      exact ⟨(HS.out _ hb1).1, Or.inr ⟨rfl, (HS.out _ hb1).2⟩⟩
    have HI := hid_of hIs
    rw [k3] at HI
    clear hIs
    obtain ⟨i0, hi, hz0, hz1, hz2⟩ := info_parts info9
    gi_wp2_with (first
      | (
        refine ⟨trivial, ?_⟩
        gi_at_call 82
        refine (CallsIn.inRound l (callsIn_wide.2 (HI.out A))).mono ?_
        rintro e w1 ⟨rfl, hb1⟩
        have zb1 := hb1.size
        have hW := wayText_any x.1 wa wc w1 ((h4.mono fun k hk => hb1.block k hk).sub fun k hk => by omega) h8 h3 (by omega) h7
        have HW := hid_of hW
        clear hW)
      | (
        refine ⟨trivial, ?_⟩
        gi_at_call 51
        refine (CallsIn.inRound l (callsIn_wide.2 HW.out)).mono ?_
        rintro e w2 ⟨⟨t, rfl, ht, hts⟩, hb2'⟩
        have hb2 := hb1.trans (hb2'.mono hb1.size)
        have HT := hid_of (And.intro ht hts)
        clear ht hts hb2'
        have zb2 := hb2.size
        have e0 : w2.cell? ⟨w.heap.size, 0, none⟩ = _ := (hb2.cell (p := ⟨w.heap.size, 0, none⟩) (Array.getElem?_eq_some_iff.1 HH.out.res).1).trans c0
        have e0f : w2.frozen? ⟨w.heap.size, 0, none⟩ = false := (hb2.frozen (p := ⟨w.heap.size, 0, none⟩) (Array.getElem?_eq_some_iff.1 HH.out.res).1).trans c0f
        have e1 : w2.cell? ⟨w.heap.size + 1, 0, none⟩ = _ := (hb2.cell (p := ⟨w.heap.size + 1, 0, none⟩) (Array.getElem?_eq_some_iff.1 HH.out.gat.1).1).trans c1
        have hG2 := HH.out.gat.grow hb2
        obtain ⟨va', vc', ev, hSt2⟩ := hG2.strs (fun t ht => by have := HH.out.sizes t ht; unfold maxLen; omega) (by omega)
        simp only [Value.slice.injEq, true_and] at ev
        obtain ⟨rfl, rfl⟩ := ev
        have hC := containsS_any ts t w2 _ va vc hSt2 (by omega)
        have HC := hid_of hC
        clear hC hSt2)
      | (
        refine ⟨trivial, ?_⟩
        gi_at_call 83
        refine (CallsIn.inRound l (callsIn_wide.2 HC.out)).mono ?_
        rintro e w3 ⟨rfl, rfl⟩
        generalize hcb : (ts.map ByteArray.toList).contains t.toList = cb
        have HCB := hid_of hcb
        clear hcb
        refine Hid.out ?_))
    refine hid_of ?_
    have HST : Hid (stepB (pre.map fun x => joinW x.1) x = !cb) := hid_of (by
      simp only [stepB, List.length_map]
      rw [k3, ← HPN.out, ← HH.out.texts, ← HT.out.1, HCB.out]
      have e1 : decide (x.1.length ≤ 5) = true := by simp; omega
      have e2 : decide (ts.length < 24) = true := by simp; omega
      rw [e1, e2]
      simp)
    cases cb
    rotate_left
    · have HS := hid_of (HF.out w2 hb2 (by rw [HST.out]; rfl))
      gi_wp2
      exact ⟨HS.out.1, Or.inr ⟨rfl, HS.out.2⟩⟩
    · gi_wp2_with (
        gi_at_builtin
        refine wpListIn_append_own_at _ rfl _ _ 29 rfl w.heap.size 9 i0 (.string ByteArray.empty) 1 16 Tryz.underlying29 hi hz0 hz1 hz2 rfl (by decide) _ _ _ rfl (hG2.2.1.alloc _) ⟨w2.heap.size, 0, none⟩ 1 1 [.string t] rfl rfl (World.news_of_block (heap_alloc_new w2 _)) (by intro u hu; simp at hu; subst hu; rfl) (by unfold maxLen; omega) (by omega) (by simp; omega) ?_
        intro v' w4 hown hgrow _ hat
        have hnx := HH.out.next (x := x) (t := t) (hb2.trans ((below_box w2 _).mono hb2.size)) hgrow hown hat HT.out.1 HT.out.2 (by rw [HST.out]; rfl)
        have HN := hid_of hnx
        have n4 : w4.heap[w.heap.size + 1]? = some (.cells #[.slice va ts.length vc] 29 (0, 0)) := by
          rw [hgrow.block _ (by simp; have := (Array.getElem?_eq_some_iff.1 hG2.1).1; omega) (fun e => HH.out.gat.2.2 e.symm)]
          exact ((below_box w2 _).block _ (Array.getElem?_eq_some_iff.1 hG2.1).1).trans hG2.1
        have g1 := (box_at n4 0 (by simp)).1
        have g1f := (box_at n4 0 (by simp)).2
        simp only [List.getElem_toArray, List.getElem_cons_zero] at g1
        obtain ⟨a4, m4, c4, rfl⟩ : ∃ a n c, v' = .slice a n c := by
          rcases hown.2 with ⟨hv, _⟩ | ⟨g, cap, cur, hv, _⟩
          · exact ⟨_, _, _, hv⟩
          · exact ⟨_, _, _, hv⟩
        clear hnx hown hgrow hat)
      exact ⟨HN.out.2.from _, Or.inl ⟨rfl, HN.out.1⟩⟩
end Go.Proofs.YtokmgbidmnanpaaGreatDoor
namespace Go.Proofs.YtokmgbidmnanpaaGreatDoor
open Go.RowKit Go.Shelf Go.Maps
set_option maxHeartbeats 400000 in
theorem newAskText_any (w : World) (P : Nat → Prop) :
    Calls Tryz.prog 84 #[] w fun e w' => ∃ b mb, e = .returned (.pointer (some ⟨b, 0, none⟩)) ∧ w.heap.size ≤ mb ∧ TS w P w.heap.size b mb [] (.slice none 0 0) 0 [] (fun _ => none) w' := by
  have hmm := @run_makeMap Tryz.prog
  go_enter Tryz.func84, Tryz.ntmps84
  go_wp2_with fail
  go_ret
  refine ⟨_, w.heap.size, rfl, Nat.le_refl _, ⟨by omega, _, _, Or.inl rfl, block_new _ _ (by simp), World.ownsRowF_nil _ _ _ _⟩, World.ownsRow_nil _ _ _ _, ?_, below_box2 _ _ _⟩
  exact (OwnsK.made w (KI P)).of_block ((below_box _ _).block _ (by simp))
theorem Tab.up {B : Nat} {w : World} (h : Tab B w) (hB : B ≤ w.heap.size) : Tab w.heap.size w := fun W hW => h W (hW.mono hB)
set_option maxHeartbeats 400000 in
theorem textOfAsk_any (P : Nat → Prop) (f g : Nat) (ks : List Se) (w : World) (kb ko kc : Nat) (hP : ∀ b, P b → b < w.heap.size ∧ Apart w b) (hS : SeReps w P ks (some ⟨kb, ko, none⟩)) (h0 : 0 < ks.length) (hf : FitS f ks) (hok : okTo f g ks ks.length = true) (hR : (txtL f ks).length ≤ 1000) (hTab : Tab w.heap.size w) :
    Calls Tryz.prog 46 #[.slice (some ⟨kb, ko, none⟩) ks.length kc] w fun e w' => e = .returned (.string ⟨(txtL f ks).toArray⟩) ∧ Below w.heap.size w w' := by
  have HN := hid_of (newAskText_any w P)
  go_enter Tryz.func46, Tryz.ntmps46
  go_wp2_with fail
  refine HN.out.mono ?_
  rintro e w1 ⟨b, mb, rfl, hmb, h1⟩
  have HLi := hid_of (list_any w P w.heap.size b mb f g ks w1 kb ko kc h1 hP hS h0 hf hok hR hTab (Nat.le_refl _) hmb)
  clear h1
  go_wp2_with fail
  refine HLi.out.mono ?_
  rintro e w2 ⟨rfl, a2, b2⟩
  have HSt := hid_of (stringA w.heap.size b _ (txtL f ks) w2 a2 (by unfold txtL; simp))
  clear a2
  go_wp2_with fail
  refine HSt.out.mono ?_
  rintro e w3 ⟨rfl, -, b3, -⟩
  have HB := hid_of (b2.trans b3)
  clear b2 b3
  go_wp2_with fail
  go_ret
  exact ⟨rfl, HB.out⟩
end Go.Proofs.YtokmgbidmnanpaaGreatDoor
namespace Go.Proofs.YtokmgbidmnanpaaGreatDoor
open Go.RowKit Go.Shelf Go.Maps
structure AskIn (f : Nat) (ks : List Se) (P : Nat → Prop) (B : Nat) (ka : Option Addr) (w : World) : Prop where
  fit : FitS f ks
  small : SmallS f ks
  few : f ≤ 1000000000
  rep : SeReps w P ks ka
  apart : ∀ b, P b → b < B ∧ Apart w b
  le : B ≤ w.heap.size
  tab : Tab w.heap.size w
theorem AskIn.on {f : Nat} {ks : List Se} {P : Nat → Prop} {B : Nat} {ka : Option Addr} {w w' : World} (h : AskIn f ks P B ka w) (hb : Below w.heap.size w w') : AskIn f ks P B ka w' := by
  have hs := hb.size
  have hl := h.le
  exact ⟨h.fit, h.small, h.few, h.rep.mono fun k hk => hb.block k (by have := (h.apart k hk).1; omega), fun b hb' => ⟨(h.apart b hb').1, (h.apart b hb').2.of_block (hb.block b (by have := (h.apart b hb').1; omega))⟩, by omega, (h.tab.on hb).up hs⟩
theorem txtL_len {f : Nat} {ks : List Se} (hf : FitS f ks) (h : askB f ks = true) : (txtL f ks).length ≤ 1000 := by
  simp only [askB, Bool.and_eq_true, decide_eq_true_eq] at h
  have := txtTo_len f 1 ks _ (Nat.le_refl _) hf h.1.2
  unfold txtL
  simp
  omega
set_option maxHeartbeats 800000 in
theorem AskOkI_any (f : Nat) (ks : List Se) (P : Nat → Prop) (B : Nat) (ka : Option Addr) (kc : Nat) (w : World) (h : AskIn f ks P B ka w) :
    Calls Tryz.prog 14 #[.slice ka ks.length kc] w fun e w' => e = .returned (.bool (askOk f ks)) ∧ Below w.heap.size w w' := by
  have HA := hid_of (areSelsOk_any f ks w B ka kc h.fit h.small h.few (h.rep.sub fun b hb => (h.apart b hb).1) h.le)
  rw [← askB_walk f ks h.fit] at HA
  cases hb : askB f ks
  · rw [hb] at HA
    have HE : Hid (askOk f ks = false) := hid_of (by rw [askOk, hb]; rfl)
    go_enter Tryz.func14, Tryz.ntmps14
    go_wp2_with fail
    refine HA.out.mono ?_
    rintro e w1 ⟨rfl, hb1⟩
    go_wp2_with fail
    go_ret
    exact ⟨ret_bool (by rw [HE.out]), hb1⟩
  · rw [hb] at HA
    have hb' := hb
    simp only [askB, Bool.and_eq_true, decide_eq_true_eq, Bool.not_eq_true'] at hb'
    have h0 : 0 < ks.length := by
      cases ks with
      | nil => simp at hb'
      | cons a l => simp
    obtain ⟨kb, ko, rfl, -, -⟩ := h.rep.2.choose_spec.1 h0
    have HT := hid_of (fun W (hW : Below w.heap.size w W) => textOfAsk_any P f 1 ks W kb ko kc (fun b hb => ⟨by have := ((h.on hW).apart b hb).1; have := (h.on hW).le; omega, ((h.on hW).apart b hb).2⟩) (h.on hW).rep h0 h.fit hb'.1.2 (txtL_len h.fit hb) (h.on hW).tab)
    have HE : Hid (askOk f ks = decide ((txtL f ks).length ≤ 400)) := hid_of (by rw [askOk, hb]; simp)
    have hsz : (⟨(txtL f ks).toArray⟩ : ByteArray).size = (txtL f ks).length := by simp [ByteArray.size]
    have hl := txtL_len h.fit hb
    clear hb hb'
    generalize txtL f ks = T at *
    go_enter Tryz.func14, Tryz.ntmps14
    go_wp2_with fail
    refine HA.out.mono ?_
    rintro e w1 ⟨rfl, hb1⟩
    go_wp2_with fail
    refine (HT.out w1 hb1).mono ?_
    rintro e w2 ⟨rfl, hb2⟩
    have bw2 := hb1.trans (hb2.mono hb1.size)
    go_wp2_with fail
    go_ret
    exact ⟨ret_bool (by rw [HE.out]; simp; omega), bw2⟩
set_option maxHeartbeats 800000 in
theorem AskWriteI_any (f : Nat) (ks : List Se) (P : Nat → Prop) (B : Nat) (ka : Option Addr) (kc : Nat) (w : World) (h : AskIn f ks P B ka w) :
    Calls Tryz.prog 26 #[.slice ka ks.length kc] w fun e w' => (∃ x : ByteArray, e = .returned (.string x) ∧ x.toList = askTxt f ks) ∧ Below w.heap.size w w' := by
  have HA := hid_of (AskOkI_any f ks P B ka kc w h)
  cases hb : askOk f ks
  · rw [hb] at HA
    have HE : Hid (askTxt f ks = []) := hid_of (by rw [askTxt, hb]; rfl)
    go_enter Tryz.func26, Tryz.ntmps26
    go_wp2_with fail
    refine HA.out.mono ?_
    rintro e w1 ⟨rfl, hb1⟩
    go_wp2_with fail
    go_ret
    exact ⟨⟨_, rfl, by rw [HE.out, ByteArray.toList_eq]⟩, hb1⟩
  · rw [hb] at HA
    have HE : Hid (askTxt f ks = txtL f ks) := hid_of (by rw [askTxt, hb]; rfl)
    have hq : askB f ks = true := by
      simp only [askOk, Bool.and_eq_true] at hb
      exact hb.1
    have hq' := hq
    simp only [askB, Bool.and_eq_true, decide_eq_true_eq, Bool.not_eq_true'] at hq'
    have h0 : 0 < ks.length := by
      cases ks with
      | nil => simp at hq'
      | cons a l => simp
    obtain ⟨kb, ko, rfl, -, -⟩ := h.rep.2.choose_spec.1 h0
    have HT := hid_of (fun W (hW : Below w.heap.size w W) => textOfAsk_any P f 1 ks W kb ko kc (fun b hb => ⟨by have := ((h.on hW).apart b hb).1; have := (h.on hW).le; omega, ((h.on hW).apart b hb).2⟩) (h.on hW).rep h0 h.fit hq'.1.2 (txtL_len h.fit hq) (h.on hW).tab)
    clear hb hq hq'
    go_enter Tryz.func26, Tryz.ntmps26
    go_wp2_with fail
    refine HA.out.mono ?_
    rintro e w1 ⟨rfl, hb1⟩
    go_wp2_with fail
    refine (HT.out w1 hb1).mono ?_
    rintro e w2 ⟨rfl, hb2⟩
    have bw2 := hb1.trans (hb2.mono hb1.size)
    go_wp2_with fail
    go_ret
    exact ⟨⟨_, rfl, by rw [HE.out, ByteArray.toList_eq]⟩, bw2⟩
end Go.Proofs.YtokmgbidmnanpaaGreatDoor
namespace Go.Proofs.YtokmgbidmnanpaaGreatDoor
open Go.RowKit Go.Shelf Go.Maps
def Se.sub (s : Se) (K : List Se) : Se := ⟨s.al, s.name, s.one, s.id, K⟩
theorem Se.sub_self (s : Se) : s.sub s.kids = s := by cases s; rfl
theorem sth_take (ks : List Se) (n : Nat) (h : n < ks.length) : ks.take n ++ [sth ks n] = ks.take (n + 1) := by
  rw [List.take_add_one]
  simp [sth, List.getD_eq_getElem?_getD, h]
theorem cnt_list (f : Nat) (ks : List Se) : cntTo f ks ks.length = (ks.map (cntSe f)).sum := by
  have h : ∀ n, n ≤ ks.length → cntTo f ks n = ((ks.take n).map (cntSe f)).sum := by
    intro n
    induction n with
    | zero => intro _; simp [cntTo]
    | succ n ih =>
      intro hn
      rw [cntTo_succ, ih (by omega), ← sth_take ks n (by omega), List.map_append, List.sum_append]
      simp
  rw [h _ (Nat.le_refl _), List.take_length]
theorem fit_mem {f : Nat} {ks : List Se} : FitS (f + 1) ks ↔ ∀ x ∈ ks, FitS f x.kids := by
  constructor
  · intro h x hx
    obtain ⟨i, hi, e⟩ := List.mem_iff_getElem.1 hx
    have := h i hi
    have es : sth ks i = x := by simp [sth, List.getD_eq_getElem?_getD, hi, e]
    rwa [es] at this
  · intro h i hi
    have es : sth ks i = ks[i] := by simp [sth, List.getD_eq_getElem?_getD, hi]
    rw [es]
    exact h _ (List.getElem_mem hi)
theorem sth_mem {ks : List Se} {i : Nat} (hi : i < ks.length) : sth ks i ∈ ks := by
  have es : sth ks i = ks[i] := by simp [sth, List.getD_eq_getElem?_getD, hi]
  rw [es]
  exact List.getElem_mem hi
theorem kids_len {f : Nat} {ks : List Se} (hf : FitS f ks) (hc : cntTo f ks ks.length ≤ 1000000) : ks.length ≤ 1000000 := by
  cases f with
  | zero => have e : ks = [] := hf; rw [e]; simp
  | succ f => exact Nat.le_trans (cntTo_ge ks f _) hc
end Go.Proofs.YtokmgbidmnanpaaGreatDoor
namespace Go.Proofs.YtokmgbidmnanpaaGreatDoor
open Go.RowKit Go.Shelf Go.Maps
attribute [local go_sem] Oper.semAt_some
end Go.Proofs.YtokmgbidmnanpaaGreatDoor
