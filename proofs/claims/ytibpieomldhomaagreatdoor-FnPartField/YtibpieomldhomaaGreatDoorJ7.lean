import Derived.Test.YtibpieomldhomaaGreatDoorJ2
import Derived.Test.YtibpieomldhomaaGreatDoorJ1
namespace Go.Proofs.YtibpieomldhomaaGreatDoor
set_option linter.unusedSimpArgs false
set_option linter.unusedVariables false
open Go.RowKit Go.Maps

theorem info9' : (Tryz.prog.info? 9).map (fun i => (i.zero, i.size, i.bytes)) = some (some (.string ByteArray.empty), 1, 16) := by kernel_rfl
theorem zeroS (σ : Sh) (B : Bd) : ∀ j u, (Value.string ByteArray.empty).cells[j]? = some u → CellOk σ B 9 j u := fun j u hu => by
  rcases j with _ | j
  · simp [Value.cells] at hu; subst hu; simp [CellOk, StOk]
  · simp [Value.cells] at hu
theorem copyResult (FW : World) (tmps : Array Value) (N : Nat) (v0 v1 v2 v3 v4 v5 v6 v7 : Value) (h2 : tmps.getD 2 undef = .pointer (some ⟨N, 0, none⟩))
    (d0 : FW.cell? ⟨N, 0, none⟩ = some v0) (d1 : FW.cell? ⟨N, 1, none⟩ = some v1) (d2 : FW.cell? ⟨N, 2, none⟩ = some v2) (d3 : FW.cell? ⟨N, 3, none⟩ = some v3) (d4 : FW.cell? ⟨N, 4, none⟩ = some v4) (d5 : FW.cell? ⟨N, 5, none⟩ = some v5) (d6 : FW.cell? ⟨N, 6, none⟩ = some v6) (d7 : FW.cell? ⟨N, 7, none⟩ = some v7) :
    (results Tryz.f21 tmps).run Tryz.prog FW = .ok (.agg #[v0, v1, v2, v3, v4, v5, v6, v7]) FW := by
  simp only [Array.getD_eq_getD_getElem?] at h2
  simp [results, Tryz.results21, go_sem, h2, d0, d1, d2, d3, d4, d5, d6, d7]
theorem sets8_other {N b : Nat} (h : b ≠ N) (W : World) (v0 v1 v2 v3 v4 v5 v6 v7 : Value) :
    ((((((((W.setCell ⟨N, 0, none⟩ v0).setCell ⟨N, 1, none⟩ v1).setCell ⟨N, 2, none⟩ v2).setCell ⟨N, 3, none⟩ v3).setCell ⟨N, 4, none⟩ v4).setCell ⟨N, 5, none⟩ v5).setCell ⟨N, 6, none⟩ v6).setCell ⟨N, 7, none⟩ v7).heap[b]? = W.heap[b]? :=
  puts_block N b h [v0, v1, v2, v3, v4, v5, v6, v7] W 0
theorem sets8_size {N : Nat} (W : World) (v0 v1 v2 v3 v4 v5 v6 v7 : Value) :
    ((((((((W.setCell ⟨N, 0, none⟩ v0).setCell ⟨N, 1, none⟩ v1).setCell ⟨N, 2, none⟩ v2).setCell ⟨N, 3, none⟩ v3).setCell ⟨N, 4, none⟩ v4).setCell ⟨N, 5, none⟩ v5).setCell ⟨N, 6, none⟩ v6).setCell ⟨N, 7, none⟩ v7).heap.size = W.heap.size :=
  puts_size N [v0, v1, v2, v3, v4, v5, v6, v7] W 0
theorem puts_same (N : Nat) : ∀ (cs : List Value) (w : World) (k : Nat), (puts w N k cs).os = w.os ∧ (puts w N k cs).tape = w.tape ∧ (puts w N k cs).output = w.output
  | [], _, _ => ⟨rfl, rfl, rfl⟩
  | c :: cs, w, k => puts_same N cs (w.setCell ⟨N, k, none⟩ c) (k + 1)
theorem sets8_same {N : Nat} (W : World) (v0 v1 v2 v3 v4 v5 v6 v7 : Value) :
    ((((((((W.setCell ⟨N, 0, none⟩ v0).setCell ⟨N, 1, none⟩ v1).setCell ⟨N, 2, none⟩ v2).setCell ⟨N, 3, none⟩ v3).setCell ⟨N, 4, none⟩ v4).setCell ⟨N, 5, none⟩ v5).setCell ⟨N, 6, none⟩ v6).setCell ⟨N, 7, none⟩ v7).os = W.os ∧ ((((((((W.setCell ⟨N, 0, none⟩ v0).setCell ⟨N, 1, none⟩ v1).setCell ⟨N, 2, none⟩ v2).setCell ⟨N, 3, none⟩ v3).setCell ⟨N, 4, none⟩ v4).setCell ⟨N, 5, none⟩ v5).setCell ⟨N, 6, none⟩ v6).setCell ⟨N, 7, none⟩ v7).tape = W.tape ∧ ((((((((W.setCell ⟨N, 0, none⟩ v0).setCell ⟨N, 1, none⟩ v1).setCell ⟨N, 2, none⟩ v2).setCell ⟨N, 3, none⟩ v3).setCell ⟨N, 4, none⟩ v4).setCell ⟨N, 5, none⟩ v5).setCell ⟨N, 6, none⟩ v6).setCell ⟨N, 7, none⟩ v7).output = W.output :=
  puts_same N [v0, v1, v2, v3, v4, v5, v6, v7] W 0
theorem set_same (w : World) (a : Addr) (v : Value) : (w.setCell a v).os = w.os ∧ (w.setCell a v).tape = w.tape ∧ (w.setCell a v).output = w.output := ⟨rfl, rfl, rfl⟩
/-- What l2Copy leaves. -/
def CopyEnd (w : World) (σ : Sh) (B : Bd) (fn fo : ByteArray) (l m fr h sh : Bool) (nl : Nat) (e : Ending) (w' : World) : Prop :=
  ∃ (σ' : Sh) (g c : Nat), e = .returned (.agg #[.string fn, .string fo, .bool l, .bool m, .bool fr, .bool h, .bool sh, .slice (some ⟨g, 0, none⟩) nl c]) ∧ Wf w' σ' B ∧ Ext σ σ' ∧ (∀ x, x < w.heap.size → σ' x = σ x) ∧ Below w.heap.size w w' ∧ σ' g = some (9, c) ∧ nl ≤ c ∧ c ≤ maxLen
/-- The end of it: boxes at N, N + 1 were written, and known memory has grown. -/
theorem copy_close {w W wP Wz : World} {σ σ' : Sh} {B : Bd} {fn fo : ByteArray} {l m fr h sh : Bool} {nl g c : Nat} (hW : Wf w σ B) (bW : Below w.heap.size w W) (zW : w.heap.size + 1 + 1 < W.heap.size)
    (q1 : Wf wP σ' B) (q2 : σ' g = some (9, c)) (q3 : nl ≤ c) (q4 : c ≤ maxLen) (q5 : Ext (σ.add (w.heap.size + 1 + 1) 9 0) σ') (q6 : ∀ x, x < W.heap.size → σ' x = (σ.add (w.heap.size + 1 + 1) 9 0) x) (bP : Below (w.heap.size + 1 + 1) W wP)
    (hz : ∀ x, x ≠ w.heap.size → x ≠ w.heap.size + 1 → Wz.heap[x]? = wP.heap[x]?) (hzs : Wz.heap.size = wP.heap.size) (ho : Wz.os = wP.os) (ht : Wz.tape = wP.tape) (hu : Wz.output = wP.output) :
    CopyEnd w σ B fn fo l m fr h sh nl (.returned (.agg #[.string fn, .string fo, .bool l, .bool m, .bool fr, .bool h, .bool sh, .slice (some ⟨g, 0, none⟩) nl c])) Wz := by
  have n0 : σ' w.heap.size = none := by rw [q6 _ (by omega), Sh.add_ne _ _ _ _ _ (by omega)]; exact hW.fresh (Nat.le_refl _)
  have n1 : σ' (w.heap.size + 1) = none := by rw [q6 _ (by omega), Sh.add_ne _ _ _ _ _ (by omega)]; exact hW.fresh (by omega)
  refine ⟨σ', g, c, rfl, q1.keep fun x T n hx => hz x (fun e => by subst e; rw [n0] at hx; cases hx) (fun e => by subst e; rw [n1] at hx; cases hx), (Sh.add_ext (hW.fresh (by omega))).trans q5, fun x hx => by rw [q6 x (by omega), Sh.add_ne _ _ _ _ _ (by omega)], ⟨by rw [ho, bP.os, bW.os], by rw [ht, bP.tape, bW.tape], by rw [hu, bP.output, bW.output], by rw [hzs]; have := bP.size; have := bW.size; omega, fun x hx => ?_⟩, q2, q3, q4⟩
  rw [hz x (by omega) (by omega), bP.block x (by omega), bW.block x hx]

theorem alloc3_same (w : World) (c1 c2 d1 d2 c3 : Obj) (x : Nat) (h0 : x ≠ w.heap.size) (h1 : x ≠ w.heap.size + 1) : (((w.alloc c1).alloc c2).alloc c3).heap[x]? = (((w.alloc d1).alloc d2).alloc c3).heap[x]? := by
  simp only [World.alloc, Array.getElem?_push, Array.size_push]
  split
  · rfl
  · have e0 : ¬ x = w.heap.size + 1 := h1
    simp only [h0, e0, if_false]
set_option maxRecDepth 20000 in
set_option maxHeartbeats 800000 in
theorem l2Copy_wf (w : World) (σ : Sh) (B : Bd) (fn fo : ByteArray) (l m fr h sh : Bool) (na : Option Addr) (nc : Nat) (ns : List ByteArray) (P : Nat → Prop) (hW : Wf w σ B) (hS : Strs w P ns na) (hP : ∀ b, P b → b < w.heap.size) (hz : ∀ i, (nth ns i).size ≤ 12) (hl : ns.length ≤ 1000) :
    Calls Tryz.prog 21 #[.agg #[.string fn, .string fo, .bool l, .bool m, .bool fr, .bool h, .bool sh, .slice na ns.length nc]] w (CopyEnd w σ B fn fo l m fr h sh ns.length) := by
  obtain ⟨X, hX⟩ : ∃ X, X = (((w.alloc (.cells #[.string fn, .string fo, .bool l, .bool m, .bool fr, .bool h, .bool sh, .slice na ns.length nc] 30)).alloc (.cells #[.string ⟨#[]⟩, .string ⟨#[]⟩, .bool false, .bool false, .bool false, .bool false, .bool false, .slice none 0 0] 30)).alloc (.cells #[] 9)) := ⟨_, rfl⟩
  have hb := boxes3 w #[.string fn, .string fo, .bool l, .bool m, .bool fr, .bool h, .bool sh, .slice na ns.length nc] #[.string ⟨#[]⟩, .string ⟨#[]⟩, .bool false, .bool false, .bool false, .bool false, .bool false, .slice none 0 0] #[] 30 30 9
  rw [← hX] at hb
  have bX : Below w.heap.size w X := by rw [hX]; exact (below_box2 w _ _).alloc (by simp; omega) _
  have zX : X.heap.size = w.heap.size + 1 + 1 + 1 := by rw [hX]; simp
  have WX : Wf X (σ.add (w.heap.size + 1 + 1) 9 0) B := (hW.below bX).add (hW.fresh (by omega)) hb.2.2 rfl (fun k v hv => by simp at hv)
  obtain ⟨i9, hi9, hz9, hs9, hb9⟩ := info_parts info9'
  obtain ⟨nl, hnl⟩ : ∃ n, n = ns.length := ⟨_, rfl⟩
  rw [← hnl] at hb hl ⊢
  rw [← hnl] at hX
  by_cases h0 : nl = 0
  · subst h0
    have hend : ∀ c1 c2 : Obj, CopyEnd w σ B fn fo l m fr h sh 0 (.returned (.agg #[.string fn, .string fo, .bool l, .bool m, .bool fr, .bool h, .bool sh, .slice (some ⟨w.heap.size + 1 + 1, 0, none⟩) 0 0])) (((w.alloc c1).alloc c2).alloc (.cells #[] 9)) := fun c1 c2 =>
      copy_close hW bX (by omega) WX (Sh.add_self _ _ _ _) (Nat.le_refl _) (Nat.zero_le _) (Ext.refl _) (fun _ _ => rfl) (Below.refl _ _) (fun x hx0 hx1 => by rw [hX]; exact alloc3_same _ _ _ _ _ _ _ hx0 hx1) (by rw [zX]; simp) (by rw [hX]; rfl) (by rw [hX]; rfl) (by rw [hX]; rfl)
    have HE := hid_of hend
    clear hend hX hb WX zX bX hnl hS hz hP hi9 hz9 hs9 hb9 hW
    cases na
    all_goals
      go_enter Tryz.func21, Tryz.ntmps21
      go_wp2_with fail
      refine bodyPost_ret (v := .agg #[.string fn, .string fo, .bool l, .bool m, .bool fr, .bool h, .bool sh, .slice (some ⟨w.heap.size + 1 + 1, 0, none⟩) 0 0]) ?res rfl (HE.out _ _)
      case res => simp [results, Tryz.results21, go_sem]
  obtain ⟨sb, so, rfl, hPb, hc⟩ := hS.1 (by intro e; rw [e] at hnl; simp at hnl; omega)
  have hnews : ∀ j u, (ns.map Value.string)[j]? = some u → X.cell? ((⟨sb, so, none⟩ : Addr).add j) = some u := fun j u hj => by
    rw [List.getElem?_map] at hj
    obtain ⟨t, ht, rfl⟩ := Option.map_eq_some_iff.1 hj
    obtain ⟨hj', rfl⟩ := List.getElem?_eq_some_iff.1 ht
    rw [Addr.add_lit]
    refine (bX.cell (p := ⟨sb, so + j, none⟩) (hP sb hPb)).trans ((hc j hj').trans ?_)
    simp [nth, List.getD_eq_getElem?_getD, hj']
  have hok : ∀ j u, (ns.map Value.string)[j]? = some u → CellOk (σ.add (w.heap.size + 1 + 1) 9 0) B 9 (j % wide 9) u := fun j u hj => by
    rw [List.getElem?_map] at hj
    obtain ⟨t, ht, rfl⟩ := Option.map_eq_some_iff.1 hj
    obtain ⟨hj', rfl⟩ := List.getElem?_eq_some_iff.1 ht
    have := hz j
    simp only [nth, List.getD_eq_getElem?_getD, List.getElem?_eq_getElem hj', Option.getD_some] at this
    simp [CellOk, StOk]
    exact this
  have HN := hid_of hnews
  have HO := hid_of hok
  have HEND : Hid (∀ wP g c σ', Wf wP σ' B → σ' g = some (9, c) → 0 + nl ≤ c → c ≤ maxLen → Ext (σ.add (w.heap.size + 1 + 1) 9 0) σ' → (∀ x, x < X.heap.size → σ' x = (σ.add (w.heap.size + 1 + 1) 9 0) x) → X.grownBy wP (Value.slice (some ⟨w.heap.size + 1 + 1, 0, none⟩) 0 0).ownBlock →
      wP.heap[w.heap.size]? = some (.cells #[.string fn, .string fo, .bool l, .bool m, .bool fr, .bool h, .bool sh, .slice (some ⟨sb, so, none⟩) nl nc] 30 (0, 0)) ∧ wP.heap[w.heap.size + 1]? = some (.cells #[.string ⟨#[]⟩, .string ⟨#[]⟩, .bool false, .bool false, .bool false, .bool false, .bool false, .slice none 0 0] 30 (0, 0)) ∧ w.heap.size + 1 < wP.heap.size ∧
      CopyEnd w σ B fn fo l m fr h sh nl (.returned (.agg #[.string fn, .string fo, .bool l, .bool m, .bool fr, .bool h, .bool sh, .slice (some ⟨g, 0, none⟩) nl c])) (((((((((wP.setCell ⟨w.heap.size, 7, none⟩ (.slice (some ⟨g, 0, none⟩) nl c)).setCell ⟨w.heap.size + 1, 0, none⟩ (.string fn)).setCell ⟨w.heap.size + 1, 1, none⟩ (.string fo)).setCell ⟨w.heap.size + 1, 2, none⟩ (.bool l)).setCell ⟨w.heap.size + 1, 3, none⟩ (.bool m)).setCell ⟨w.heap.size + 1, 4, none⟩ (.bool fr)).setCell ⟨w.heap.size + 1, 5, none⟩ (.bool h)).setCell ⟨w.heap.size + 1, 6, none⟩ (.bool sh)).setCell ⟨w.heap.size + 1, 7, none⟩ (.slice (some ⟨g, 0, none⟩) nl c))) := hid_of fun wP g c σ' q1 q2 q3 q4 q5 q6 q7 => by
    have bP : Below (w.heap.size + 1 + 1) X wP := ⟨q7.os, q7.tape, q7.output, q7.size, fun x hx => q7.block x (by omega) (fun e => by have e := Option.some.inj e; have e : x = w.heap.size + 1 + 1 := e; omega)⟩
    refine ⟨(bP.block _ (by omega)).trans hb.1, (bP.block _ (by omega)).trans hb.2.1, by have := bP.size; omega, copy_close hW bX (by omega) q1 q2 (by omega) q4 q5 q6 bP (fun x hx0 hx1 => ?_) ?_ ((sets8_same _ _ _ _ _ _ _ _ _).1.trans (set_same _ _ _).1) ((sets8_same _ _ _ _ _ _ _ _ _).2.1.trans (set_same _ _ _).2.1) ((sets8_same _ _ _ _ _ _ _ _ _).2.2.trans (set_same _ _ _).2.2)⟩
    · rw [sets8_other hx1]; exact Below.heap_setCell _ _ _ _ hx0
    · rw [sets8_size, size_set]
  obtain ⟨HXE, -⟩ : Hid (X = (((w.alloc (.cells #[.string fn, .string fo, .bool l, .bool m, .bool fr, .bool h, .bool sh, .slice (some ⟨sb, so, none⟩) nl nc] 30)).alloc (.cells #[.string ⟨#[]⟩, .string ⟨#[]⟩, .bool false, .bool false, .bool false, .bool false, .bool false, .slice none 0 0] 30)).alloc (.cells #[] 9))) ∧ True := ⟨hX, trivial⟩
  have HWX := hid_of WX
  have HNL := hid_of hnl
  clear hX hb hnews hok hc WX zX bX hnl hS hz hP hW
  go_enter Tryz.func21, Tryz.ntmps21
  go_wp2_with (
    at_builtin
    rw [← HXE.out]
    refine wpList_append_wf HWX.out rfl (.tmp 3) (.tmp 5) 28 rfl 9 i9 _ 16 Tryz.underlying28 hi9 hz9 hs9 hb9 rfl (zeroS _ _) (some ⟨w.heap.size + 1 + 1, 0, none⟩) 0 0 rfl (Nat.le_refl _) (Nat.zero_le _) (Or.inr ⟨_, rfl, Sh.add_self _ _ _ _⟩) ⟨sb, so, none⟩ nl nc (ns.map Value.string) rfl (by rw [List.length_map, ← HNL.out, wideS]; omega) HN.out (by intro u hu; simp at hu; obtain ⟨x, -, rfl⟩ := hu; rfl) HO.out (by omega) (by unfold maxLen; omega) (by omega) ?_
    intro g c wP σ' q1 q2 q3 q4 q5 q6 q7 q8 q9
    obtain ⟨k0, k1, kz, kE⟩ := HEND.out wP g c σ' q1 q2 q3 q4 q5 q6 q7
    have HE := hid_of kE
    clear kE q1 q2 q5 q6 q7 q8 q9
    obtain ⟨a0, z0⟩ := box_at k0 0 (by simp)
    obtain ⟨a1, z1⟩ := box_at k0 1 (by simp)
    obtain ⟨a2, z2⟩ := box_at k0 2 (by simp)
    obtain ⟨a3, z3⟩ := box_at k0 3 (by simp)
    obtain ⟨a4, z4⟩ := box_at k0 4 (by simp)
    obtain ⟨a5, z5⟩ := box_at k0 5 (by simp)
    obtain ⟨a6, z6⟩ := box_at k0 6 (by simp)
    obtain ⟨a7, z7⟩ := box_at k0 7 (by simp)
    obtain ⟨e0, y0⟩ := box_at k1 0 (by simp)
    obtain ⟨e1, y1⟩ := box_at k1 1 (by simp)
    obtain ⟨e2, y2⟩ := box_at k1 2 (by simp)
    obtain ⟨e3, y3⟩ := box_at k1 3 (by simp)
    obtain ⟨e4, y4⟩ := box_at k1 4 (by simp)
    obtain ⟨e5, y5⟩ := box_at k1 5 (by simp)
    obtain ⟨e6, y6⟩ := box_at k1 6 (by simp)
    obtain ⟨e7, y7⟩ := box_at k1 7 (by simp)
    simp only [List.getElem_toArray, List.getElem_cons_zero, List.getElem_cons_succ] at a0 a1 a2 a3 a4 a5 a6 a7 e0 e1 e2 e3 e4 e5 e6 e7
    simp only [Nat.zero_add])
  obtain ⟨d0, d1, d2, d3, d4, d5, d6, d7⟩ := sets_cells ((Below.heap_setCell wP ⟨w.heap.size, 7, none⟩ (.slice (some ⟨g, 0, none⟩) nl c) (w.heap.size + 1) (by show w.heap.size + 1 ≠ w.heap.size; omega)).trans k1) rfl (.string fn) (.string fo) (.bool l) (.bool m) (.bool fr) (.bool h) (.bool sh) (.slice (some ⟨g, 0, none⟩) nl c) _ rfl
  exact bodyPost_ret (copyResult _ _ (w.heap.size + 1) _ _ _ _ _ _ _ _ rfl d0 d1 d2 d3 d4 d5 d6 d7) rfl HE.out
end Go.Proofs.YtibpieomldhomaaGreatDoor

namespace Go.Proofs.YtibpieomldhomaaGreatDoor
set_option linter.unusedSimpArgs false
set_option linter.unusedVariables false
open Go.RowKit Go.Maps

/-- A slice in known memory, or none. -/
def SlIn (σ : Sh) (T : TypeId) (a : Option Addr) (n c : Nat) : Prop := (a = none ∧ n = 0 ∧ c = 0) ∨ ∃ b, a = some ⟨b, 0, none⟩ ∧ σ b = some (T, c)
theorem SlIn.ext {σ σ' : Sh} {T : TypeId} {a : Option Addr} {n c : Nat} (h : SlIn σ T a n c) (he : Ext σ σ') : SlIn σ' T a n c := h.imp id fun ⟨b, e, hb⟩ => ⟨b, e, he _ _ _ hb⟩
theorem SlIn.own {σ : Sh} {T : TypeId} {a : Option Addr} {n c : Nat} (h : SlIn σ T a n c) : ∀ k, (Value.slice a n c).ownBlock = some k → σ k = some (T, c) := fun k hk => by
  rcases h with ⟨rfl, -, -⟩ | ⟨b, rfl, hb⟩
  · cases hk
  · cases hk; exact hb
/-- The copy as far as it is: its box, the part's, the result's. -/
structure CSt (w : World) (nm : ByteArray) (pbox : Array Value) (B : Bd) (wx : World) (σ : Sh) (xa : Option Addr) (i xc : Nat) : Prop where
  pb : wx.heap[w.heap.size]? = some (.cells pbox 25 (0, 0))
  rb : wx.heap[w.heap.size + 1]? = some (.cells #[.string ⟨#[]⟩, .slice none 0 0] 25 (0, 0))
  xb : wx.heap[w.heap.size + 1 + 1]? = some (.cells #[.string nm, .slice xa i xc] 25 (0, 0))
  wf : Wf wx σ B
  new : ∀ b T n, σ b = some (T, n) → w.heap.size + 1 + 1 < b
  sl : SlIn σ 40 xa i xc
  le : i ≤ xc
  cm : xc ≤ maxLen
  bel : Below w.heap.size w wx
  sz : w.heap.size + 1 + 1 < wx.heap.size
section
variable {w : World} {nm : ByteArray} {pbox : Array Value} {B : Bd} {wx wy : World} {σ : Sh} {xa : Option Addr} {i xc : Nat}
/-- Blocks of σ and new ones may change; the three boxes stay. -/
theorem CSt.keep (h : CSt w nm pbox B wx σ xa i xc) {σ' : Sh} (hw : Wf wy σ' B) (he : Ext σ σ') (hs : ∀ x, x < wx.heap.size → σ' x = σ x) (hz : wx.heap.size ≤ wy.heap.size) (hr : wy.os = wx.os ∧ wy.tape = wx.tape ∧ wy.output = wx.output) (hk : ∀ x, x < wx.heap.size → σ x = none → wy.heap[x]? = wx.heap[x]?) : CSt w nm pbox B wy σ' xa i xc := by
  have n : ∀ x, x ≤ w.heap.size + 1 + 1 → σ x = none := fun x hx => by
    cases e : σ x with
    | none => rfl
    | some y => obtain ⟨T, m⟩ := y; have := h.new x T m e; omega
  have hsz := h.sz
  refine ⟨(hk _ (by omega) (n _ (by omega))).trans h.pb, (hk _ (by omega) (n _ (by omega))).trans h.rb, (hk _ (by omega) (n _ (by omega))).trans h.xb, hw, fun b T m hb => ?_, h.sl.ext he, h.le, h.cm, ⟨by rw [hr.1, h.bel.os], by rw [hr.2.1, h.bel.tape], by rw [hr.2.2, h.bel.output], by have := h.bel.size; omega, fun x hx => (hk x (by omega) (n x (by omega))).trans (h.bel.block x hx)⟩, by omega⟩
  rcases Nat.lt_or_ge b wx.heap.size with q | q
  · rw [hs b q] at hb; exact h.new b T m hb
  · omega
theorem CSt.below (h : CSt w nm pbox B wx σ xa i xc) (hb : Below wx.heap.size wx wy) : CSt w nm pbox B wy σ xa i xc :=
  h.keep (h.wf.below hb) (Ext.refl _) (fun _ _ => rfl) hb.size ⟨hb.os, hb.tape, hb.output⟩ fun x hx _ => hb.block x hx
/-- A type beside it, in a box. -/
structure TSt (w : World) (nm : ByteArray) (pbox : Array Value) (B : Bd) (wx : World) (σ : Sh) (xa : Option Addr) (i xc : Nat) (tb : Nat) (tn tk : ByteArray) (fa : Option Addr) (k fc : Nat) : Prop where
  c : CSt w nm pbox B wx σ xa i xc
  t : wx.heap[tb]? = some (.cells #[.string tn, .string tk, .slice fa k fc] 40 (0, 0))
  nt : σ tb = none
  gt : w.heap.size + 1 + 1 < tb
  sl : SlIn σ 30 fa k fc
  le : k ≤ fc
  cm : fc ≤ maxLen
variable {tb : Nat} {tn tk : ByteArray} {fa : Option Addr} {k fc : Nat}
theorem TSt.lt (h : TSt w nm pbox B wx σ xa i xc tb tn tk fa k fc) : tb < wx.heap.size := (Array.getElem?_eq_some_iff.1 h.t).1
theorem TSt.below (h : TSt w nm pbox B wx σ xa i xc tb tn tk fa k fc) (hb : Below wx.heap.size wx wy) : TSt w nm pbox B wy σ xa i xc tb tn tk fa k fc :=
  ⟨h.c.below hb, (hb.block _ h.lt).trans h.t, h.nt, h.gt, h.sl, h.le, h.cm⟩
theorem CSt.box (h : CSt w nm pbox B wx σ xa i xc) (hx : wx.heap.size = tb) (tn tk : ByteArray) : TSt w nm pbox B (wx.alloc (.cells #[.string tn, .string tk, .slice none 0 0] 40)) σ xa i xc tb tn tk none 0 0 := by
  subst hx
  exact ⟨h.below (below_box _ _), block_new _ _ rfl, h.wf.fresh (Nat.le_refl _), h.sz, Or.inl ⟨rfl, rfl, rfl⟩, Nat.le_refl _, Nat.zero_le _⟩
/-- A field is appended. -/
theorem TSt.app {W wF : World} {σ1 σF : Sh} {g cap : Nat} (h : TSt w nm pbox B wx σ xa i xc tb tn tk fa k fc) (hW : Below wx.heap.size wx W) (x1 : Ext σ σ1) (s1 : ∀ x, x < wx.heap.size → σ1 x = σ x) (q1 : Wf wF σF B) (q2 : σF g = some (30, cap)) (q3 : k + 1 ≤ cap) (q4 : cap ≤ maxLen) (q5 : Ext σ1 σF) (q6 : ∀ x, x < W.heap.size → σF x = σ1 x) (q7 : W.grownBy wF (Value.slice fa k fc).ownBlock) :
    TSt w nm pbox B (wF.setCell ⟨tb, 2, none⟩ (.slice (some ⟨g, 0, none⟩) (k + 1) cap)) σF xa i xc tb tn tk (some ⟨g, 0, none⟩) (k + 1) cap := by
  have hz := hW.size
  have hzF := q7.size
  have htl := h.lt
  have hsF : ∀ x, x < wx.heap.size → σF x = σ x := fun x hx => by rw [q6 x (by omega), s1 x hx]
  have hkF : ∀ x, x < wx.heap.size → σ x = none → wF.heap[x]? = wx.heap[x]? := fun x hx hn => (q7.block x (by omega) (fun e => by have := h.sl.own x e.symm; rw [hn] at this; cases this)).trans (hW.block x hx)
  have nF : σF tb = none := by rw [hsF tb htl]; exact h.nt
  have c1 : CSt w nm pbox B wF σF xa i xc := h.c.keep q1 (x1.trans q5) hsF (by omega) ⟨q7.os.trans hW.os, q7.tape.trans hW.tape, q7.output.trans hW.output⟩ hkF
  have hset : ∀ x, x ≠ tb → (wF.setCell ⟨tb, 2, none⟩ (.slice (some ⟨g, 0, none⟩) (k + 1) cap)).heap[x]? = wF.heap[x]? := fun x hx => Below.heap_setCell _ _ _ _ hx
  have hg := h.gt
  refine ⟨⟨(hset _ (by omega)).trans c1.pb, (hset _ (by omega)).trans c1.rb, (hset _ (by omega)).trans c1.xb, q1.keep fun b T m hb => hset b (fun e => by subst e; rw [nF] at hb; cases hb), c1.new, c1.sl, c1.le, c1.cm, c1.bel.setCell (by show w.heap.size ≤ tb; omega) _, by rw [size_set]; exact c1.sz⟩, ?_, nF, hg, Or.inr ⟨g, rfl, q2⟩, q3, q4⟩
  rw [set_box ((hkF tb htl h.nt).trans h.t) 2 _]
  rfl
/-- The type is appended. -/
theorem CSt.app {W wF : World} {σF : Sh} {g cap : Nat} (h : CSt w nm pbox B wx σ xa i xc) (hW : Below wx.heap.size wx W) (q1 : Wf wF σF B) (q2 : σF g = some (40, cap)) (q3 : i + 1 ≤ cap) (q4 : cap ≤ maxLen) (q5 : Ext σ σF) (q6 : ∀ x, x < W.heap.size → σF x = σ x) (q7 : W.grownBy wF (Value.slice xa i xc).ownBlock) :
    CSt w nm pbox B (wF.setCell ⟨w.heap.size + 1 + 1, 1, none⟩ (.slice (some ⟨g, 0, none⟩) (i + 1) cap)) σF (some ⟨g, 0, none⟩) (i + 1) cap ∧ wF.heap[w.heap.size + 1 + 1]? = some (.cells #[.string nm, .slice xa i xc] 25 (0, 0)) := by
  have hz := hW.size
  have hzF := q7.size
  have hsF : ∀ x, x < wx.heap.size → σF x = σ x := fun x hx => q6 x (by omega)
  have hkF : ∀ x, x < wx.heap.size → σ x = none → wF.heap[x]? = wx.heap[x]? := fun x hx hn => (q7.block x (by omega) (fun e => by have := h.sl.own x e.symm; rw [hn] at this; cases this)).trans (hW.block x hx)
  have c1 : CSt w nm pbox B wF σF xa i xc := h.keep q1 q5 hsF (by omega) ⟨q7.os.trans hW.os, q7.tape.trans hW.tape, q7.output.trans hW.output⟩ hkF
  have hset : ∀ x, x ≠ w.heap.size + 1 + 1 → (wF.setCell ⟨w.heap.size + 1 + 1, 1, none⟩ (.slice (some ⟨g, 0, none⟩) (i + 1) cap)).heap[x]? = wF.heap[x]? := fun x hx => Below.heap_setCell _ _ _ _ hx
  refine ⟨⟨(hset _ (by omega)).trans c1.pb, (hset _ (by omega)).trans c1.rb, ?_, q1.keep fun b T m hb => hset b (by have := c1.new b T m hb; omega), c1.new, Or.inr ⟨g, rfl, q2⟩, q3, q4, c1.bel.setCell (by show w.heap.size ≤ w.heap.size + 1 + 1; omega) _, by rw [size_set]; exact c1.sz⟩, c1.xb⟩
  rw [set_box c1.xb 1 _]
  rfl
end
end Go.Proofs.YtibpieomldhomaaGreatDoor
