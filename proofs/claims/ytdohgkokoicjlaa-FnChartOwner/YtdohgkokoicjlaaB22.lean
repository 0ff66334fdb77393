import Derived.Test.YtdohgkokoicjlaaB17
import Derived.Test.YtdohgkokoicjlaaB2
import Derived.Test.YtdohgkokoicjlaaB18
import Derived.Test.YtdohgkokoicjlaaB16
set_option linter.unusedSimpArgs false
set_option linter.unusedVariables false
namespace Go.Proofs.Ytdohgkokoicjlaa
open Go.RowKit Go.Maps
theorem info9' : (Try.prog.info? 9).map (fun i => (i.zero, i.size, i.bytes)) = some (some (.string ByteArray.empty), 1, 16) := by kernel_rfl
theorem zeroS (σ : Sh) (B : Bd) : ∀ j u, (Value.string ByteArray.empty).cells[j]? = some u → CellOk σ B 9 j u := fun j u hu => by
  rcases j with _ | j
  · simp [Value.cells] at hu; subst hu; simp [CellOk, StOk]
  · simp [Value.cells] at hu
theorem copyResult (FW : World) (tmps : Array Value) (N : Nat) (v0 v1 v2 v3 v4 v5 v6 v7 : Value) (h2 : tmps.getD 2 undef = .pointer (some ⟨N, 0, none⟩))
    (d0 : FW.cell? ⟨N, 0, none⟩ = some v0) (d1 : FW.cell? ⟨N, 1, none⟩ = some v1) (d2 : FW.cell? ⟨N, 2, none⟩ = some v2) (d3 : FW.cell? ⟨N, 3, none⟩ = some v3) (d4 : FW.cell? ⟨N, 4, none⟩ = some v4) (d5 : FW.cell? ⟨N, 5, none⟩ = some v5) (d6 : FW.cell? ⟨N, 6, none⟩ = some v6) (d7 : FW.cell? ⟨N, 7, none⟩ = some v7) :
    (results Try.f75 tmps).run Try.prog FW = .ok (.agg #[v0, v1, v2, v3, v4, v5, v6, v7]) FW := by
  simp only [Array.getD_eq_getD_getElem?] at h2
  simp [results, Try.results75, go_sem, h2, d0, d1, d2, d3, d4, d5, d6, d7]
theorem sets8_other {N b : Nat} (h : b ≠ N) (W : World) (v0 v1 v2 v3 v4 v5 v6 v7 : Value) :
    ((((((((W.setCell ⟨N, 0, none⟩ v0).setCell ⟨N, 1, none⟩ v1).setCell ⟨N, 2, none⟩ v2).setCell ⟨N, 3, none⟩ v3).setCell ⟨N, 4, none⟩ v4).setCell ⟨N, 5, none⟩ v5).setCell ⟨N, 6, none⟩ v6).setCell ⟨N, 7, none⟩ v7).heap[b]? = W.heap[b]? :=
  puts_block N b h [v0, v1, v2, v3, v4, v5, v6, v7] W 0
theorem sets8_size {N : Nat} (W : World) (v0 v1 v2 v3 v4 v5 v6 v7 : Value) :
    ((((((((W.setCell ⟨N, 0, none⟩ v0).setCell ⟨N, 1, none⟩ v1).setCell ⟨N, 2, none⟩ v2).setCell ⟨N, 3, none⟩ v3).setCell ⟨N, 4, none⟩ v4).setCell ⟨N, 5, none⟩ v5).setCell ⟨N, 6, none⟩ v6).setCell ⟨N, 7, none⟩ v7).heap.size = W.heap.size :=
  puts_size N [v0, v1, v2, v3, v4, v5, v6, v7] W 0
theorem puts_same (N : Nat) : ∀ (cs : List Value) (w : World) (k : Nat), (puts w N k cs).os = w.os ∧ (puts w N k cs).tape = w.tape ∧ (puts w N k cs).output = w.output
  | [], _, _ => ⟨rfl, rfl, rfl⟩
  | c :: cs, w, k => puts_same N cs (w.setCell ⟨N, k, none⟩ c) (k + 1)
theorem sets8_same {N : Nat} (W : World) (v0 v1 v2 v3 v4 v5 v6 v7 : Value) :
    ((((((((W.setCell ⟨N, 0, none⟩ v0).setCell ⟨N, 1, none⟩ v1).setCell ⟨N, 2, none⟩ v2).setCell ⟨N, 3, none⟩ v3).setCell ⟨N, 4, none⟩ v4).setCell ⟨N, 5, none⟩ v5).setCell ⟨N, 6, none⟩ v6).setCell ⟨N, 7, none⟩ v7).os = W.os ∧ ((((((((W.setCell ⟨N, 0, none⟩ v0).setCell ⟨N, 1, none⟩ v1).setCell ⟨N, 2, none⟩ v2).setCell ⟨N, 3, none⟩ v3).setCell ⟨N, 4, none⟩ v4).setCell ⟨N, 5, none⟩ v5).setCell ⟨N, 6, none⟩ v6).setCell ⟨N, 7, none⟩ v7).tape = W.tape ∧ ((((((((W.setCell ⟨N, 0, none⟩ v0).setCell ⟨N, 1, none⟩ v1).setCell ⟨N, 2, none⟩ v2).setCell ⟨N, 3, none⟩ v3).setCell ⟨N, 4, none⟩ v4).setCell ⟨N, 5, none⟩ v5).setCell ⟨N, 6, none⟩ v6).setCell ⟨N, 7, none⟩ v7).output = W.output :=
  puts_same N [v0, v1, v2, v3, v4, v5, v6, v7] W 0
theorem set_same (w : World) (a : Addr) (v : Value) : (w.setCell a v).os = w.os ∧ (w.setCell a v).tape = w.tape ∧ (w.setCell a v).output = w.output := ⟨rfl, rfl, rfl⟩
def CopyEnd (w : World) (σ : Sh) (B : Bd) (fn fo : ByteArray) (l m fr h sh : Bool) (nl : Nat) (e : Ending) (w' : World) : Prop :=
  ∃ (σ' : Sh) (g c : Nat), e = .returned (.agg #[.string fn, .string fo, .bool l, .bool m, .bool fr, .bool h, .bool sh, .slice (some ⟨g, 0, none⟩) nl c]) ∧ Wf w' σ' B ∧ Ext σ σ' ∧ (∀ x, x < w.heap.size → σ' x = σ x) ∧ Below w.heap.size w w' ∧ σ' g = some (9, c) ∧ nl ≤ c ∧ c ≤ maxLen
theorem copy_close {w W wP Wz : World} {σ σ' : Sh} {B : Bd} {fn fo : ByteArray} {l m fr h sh : Bool} {nl g c : Nat} (hW : Wf w σ B) (bW : Below w.heap.size w W) (zW : w.heap.size + 1 + 1 < W.heap.size)
    (q1 : Wf wP σ' B) (q2 : σ' g = some (9, c)) (q3 : nl ≤ c) (q4 : c ≤ maxLen) (q5 : Ext (σ.add (w.heap.size + 1 + 1) 9 0) σ') (q6 : ∀ x, x < W.heap.size → σ' x = (σ.add (w.heap.size + 1 + 1) 9 0) x) (bP : Below (w.heap.size + 1 + 1) W wP)
    (hz : ∀ x, x ≠ w.heap.size → x ≠ w.heap.size + 1 → Wz.heap[x]? = wP.heap[x]?) (hzs : Wz.heap.size = wP.heap.size) (ho : Wz.os = wP.os) (ht : Wz.tape = wP.tape) (hu : Wz.output = wP.output) :
    CopyEnd w σ B fn fo l m fr h sh nl (.returned (.agg #[.string fn, .string fo, .bool l, .bool m, .bool fr, .bool h, .bool sh, .slice (some ⟨g, 0, none⟩) nl c])) Wz := by
  have n0 : σ' w.heap.size = none := by rw [q6 _ (by omega), Sh.add_ne _ _ _ _ _ (by omega)]; exact hW.fresh (Nat.le_refl _)
  have n1 : σ' (w.heap.size + 1) = none := by rw [q6 _ (by omega), Sh.add_ne _ _ _ _ _ (by omega)]; exact hW.fresh (by omega)
  refine ⟨σ', g, c, rfl, q1.keep fun x T n hx => hz x (fun e => by subst e; rw [n0] at hx; cases hx) (fun e => by subst e; rw [n1] at hx; cases hx), (Sh.add_ext (hW.fresh (by omega))).trans q5, fun x hx => by rw [q6 x (by omega), Sh.add_ne _ _ _ _ _ (by omega)], ⟨by rw [ho, bP.os, bW.os], by rw [ht, bP.tape, bW.tape], by rw [hu, bP.output, bW.output], by rw [hzs]; have := bP.size; have := bW.size; omega, fun x hx => ?_⟩, q2, q3, q4⟩
  rw [hz x (by omega) (by omega), bP.block x (by omega), bW.block x hx]
theorem alloc3_same (w : World) (c1 c2 d1 d2 c3 : Obj) (x : Nat) (h0 : x ≠ w.heap.size) (h1 : x ≠ w.heap.size + 1) : (((w.alloc c1).alloc c2).alloc c3).heap[x]? = (((w.alloc d1).alloc d2).alloc c3).heap[x]? := by
  simp only [World.alloc, Array.getElem?_push, Array.size_push]
  split
  · rfl
  · have e0 : ¬ x = w.heap.size + 1 := h1
    simp only [h0, e0, if_false]
set_option maxRecDepth 20000 in
set_option maxHeartbeats 800000 in
theorem l2Copy_wf (w : World) (σ : Sh) (B : Bd) (fn fo : ByteArray) (l m fr h sh : Bool) (na : Option Addr) (nc : Nat) (ns : List ByteArray) (P : Nat → Prop) (hW : Wf w σ B) (hS : Strs w P ns na) (hP : ∀ b, P b → b < w.heap.size) (hz : ∀ i, (nth ns i).size ≤ 12) (hl : ns.length ≤ 1000) :
    Calls Try.prog 75 #[.agg #[.string fn, .string fo, .bool l, .bool m, .bool fr, .bool h, .bool sh, .slice na ns.length nc]] w (CopyEnd w σ B fn fo l m fr h sh ns.length) := by
  obtain ⟨X, hX⟩ : ∃ X, X = (((w.alloc (.cells #[.string fn, .string fo, .bool l, .bool m, .bool fr, .bool h, .bool sh, .slice na ns.length nc] 37)).alloc (.cells #[.string ⟨#[]⟩, .string ⟨#[]⟩, .bool false, .bool false, .bool false, .bool false, .bool false, .slice none 0 0] 37)).alloc (.cells #[] 9)) := ⟨_, rfl⟩
  have hb := boxes3 w #[.string fn, .string fo, .bool l, .bool m, .bool fr, .bool h, .bool sh, .slice na ns.length nc] #[.string ⟨#[]⟩, .string ⟨#[]⟩, .bool false, .bool false, .bool false, .bool false, .bool false, .slice none 0 0] #[] 37 37 9
  rw [← hX] at hb
  have bX : Below w.heap.size w X := by rw [hX]; exact (below_box2 w _ _).alloc (by simp; omega) _
  have zX : X.heap.size = w.heap.size + 1 + 1 + 1 := by rw [hX]; simp
  have WX : Wf X (σ.add (w.heap.size + 1 + 1) 9 0) B := (hW.below bX).add (hW.fresh (by omega)) hb.2.2 rfl (fun k v hv => by simp at hv)
  obtain ⟨i9, hi9, hz9, hs9, hb9⟩ := info_parts info9'
  obtain ⟨nl, hnl⟩ : ∃ n, n = ns.length := ⟨_, rfl⟩
  rw [← hnl] at hb hl ⊢
  rw [← hnl] at hX
  by_cases h0 : nl = 0
  · subst h0
    have hend : ∀ c1 c2 : Obj, CopyEnd w σ B fn fo l m fr h sh 0 (.returned (.agg #[.string fn, .string fo, .bool l, .bool m, .bool fr, .bool h, .bool sh, .slice (some ⟨w.heap.size + 1 + 1, 0, none⟩) 0 0])) (((w.alloc c1).alloc c2).alloc (.cells #[] 9)) := fun c1 c2 =>
      copy_close hW bX (by omega) WX (Sh.add_self _ _ _ _) (Nat.le_refl _) (Nat.zero_le _) (Ext.refl _) (fun _ _ => rfl) (Below.refl _ _) (fun x hx0 hx1 => by rw [hX]; exact alloc3_same _ _ _ _ _ _ _ hx0 hx1) (by rw [zX]; simp) (by rw [hX]; rfl) (by rw [hX]; rfl) (by rw [hX]; rfl)
    have HE := hid_of hend
    clear hend hX hb WX zX bX hnl hS hz hP hi9 hz9 hs9 hb9 hW
    cases na
    all_goals
      go_enter Try.func75, Try.ntmps75
      go_wp2_with fail
      refine bodyPost_ret (v := .agg #[.string fn, .string fo, .bool l, .bool m, .bool fr, .bool h, .bool sh, .slice (some ⟨w.heap.size + 1 + 1, 0, none⟩) 0 0]) ?res rfl (HE.out _ _)
      case res => simp [results, Try.results75, go_sem]
  obtain ⟨sb, so, rfl, hPb, hc⟩ := hS.1 (by intro e; rw [e] at hnl; simp at hnl; omega)
  have hnews : ∀ j u, (ns.map Value.string)[j]? = some u → X.cell? ((⟨sb, so, none⟩ : Addr).add j) = some u := fun j u hj => by
    rw [List.getElem?_map] at hj
    obtain ⟨t, ht, rfl⟩ := Option.map_eq_some_iff.1 hj
    obtain ⟨hj', rfl⟩ := List.getElem?_eq_some_iff.1 ht
    rw [Addr.add_lit]
    refine (bX.cell (p := ⟨sb, so + j, none⟩) (hP sb hPb)).trans ((hc j hj').trans ?_)
    simp [nth, List.getD_eq_getElem?_getD, hj']
  have hok : ∀ j u, (ns.map Value.string)[j]? = some u → CellOk (σ.add (w.heap.size + 1 + 1) 9 0) B 9 (j % wide 9) u := fun j u hj => by
    rw [List.getElem?_map] at hj
    obtain ⟨t, ht, rfl⟩ := Option.map_eq_some_iff.1 hj
    obtain ⟨hj', rfl⟩ := List.getElem?_eq_some_iff.1 ht
    have := hz j
    simp only [nth, List.getD_eq_getElem?_getD, List.getElem?_eq_getElem hj', Option.getD_some] at this
    simp [CellOk, StOk]
    exact this
  have HN := hid_of hnews
  have HO := hid_of hok
  have HEND : Hid (∀ wP g c σ', Wf wP σ' B → σ' g = some (9, c) → 0 + nl ≤ c → c ≤ maxLen → Ext (σ.add (w.heap.size + 1 + 1) 9 0) σ' → (∀ x, x < X.heap.size → σ' x = (σ.add (w.heap.size + 1 + 1) 9 0) x) → X.grownBy wP (Value.slice (some ⟨w.heap.size + 1 + 1, 0, none⟩) 0 0).ownBlock →
      wP.heap[w.heap.size]? = some (.cells #[.string fn, .string fo, .bool l, .bool m, .bool fr, .bool h, .bool sh, .slice (some ⟨sb, so, none⟩) nl nc] 37 (0, 0)) ∧ wP.heap[w.heap.size + 1]? = some (.cells #[.string ⟨#[]⟩, .string ⟨#[]⟩, .bool false, .bool false, .bool false, .bool false, .bool false, .slice none 0 0] 37 (0, 0)) ∧ w.heap.size + 1 < wP.heap.size ∧
      CopyEnd w σ B fn fo l m fr h sh nl (.returned (.agg #[.string fn, .string fo, .bool l, .bool m, .bool fr, .bool h, .bool sh, .slice (some ⟨g, 0, none⟩) nl c])) (((((((((wP.setCell ⟨w.heap.size, 7, none⟩ (.slice (some ⟨g, 0, none⟩) nl c)).setCell ⟨w.heap.size + 1, 0, none⟩ (.string fn)).setCell ⟨w.heap.size + 1, 1, none⟩ (.string fo)).setCell ⟨w.heap.size + 1, 2, none⟩ (.bool l)).setCell ⟨w.heap.size + 1, 3, none⟩ (.bool m)).setCell ⟨w.heap.size + 1, 4, none⟩ (.bool fr)).setCell ⟨w.heap.size + 1, 5, none⟩ (.bool h)).setCell ⟨w.heap.size + 1, 6, none⟩ (.bool sh)).setCell ⟨w.heap.size + 1, 7, none⟩ (.slice (some ⟨g, 0, none⟩) nl c))) := hid_of fun wP g c σ' q1 q2 q3 q4 q5 q6 q7 => by
    have bP : Below (w.heap.size + 1 + 1) X wP := ⟨q7.os, q7.tape, q7.output, q7.size, fun x hx => q7.block x (by omega) (fun e => by have e := Option.some.inj e; have e : x = w.heap.size + 1 + 1 := e; omega)⟩
    refine ⟨(bP.block _ (by omega)).trans hb.1, (bP.block _ (by omega)).trans hb.2.1, by have := bP.size; omega, copy_close hW bX (by omega) q1 q2 (by omega) q4 q5 q6 bP (fun x hx0 hx1 => ?_) ?_ ((sets8_same _ _ _ _ _ _ _ _ _).1.trans (set_same _ _ _).1) ((sets8_same _ _ _ _ _ _ _ _ _).2.1.trans (set_same _ _ _).2.1) ((sets8_same _ _ _ _ _ _ _ _ _).2.2.trans (set_same _ _ _).2.2)⟩
    · rw [sets8_other hx1]; exact Below.heap_setCell _ _ _ _ hx0
    · rw [sets8_size, size_set]
  obtain ⟨HXE, -⟩ : Hid (X = (((w.alloc (.cells #[.string fn, .string fo, .bool l, .bool m, .bool fr, .bool h, .bool sh, .slice (some ⟨sb, so, none⟩) nl nc] 37)).alloc (.cells #[.string ⟨#[]⟩, .string ⟨#[]⟩, .bool false, .bool false, .bool false, .bool false, .bool false, .slice none 0 0] 37)).alloc (.cells #[] 9))) ∧ True := ⟨hX, trivial⟩
  have HWX := hid_of WX
  have HNL := hid_of hnl
  clear hX hb hnews hok hc WX zX bX hnl hS hz hP hW
  go_enter Try.func75, Try.ntmps75
  go_wp2_with (
    at_builtin
    rw [← HXE.out]
    refine wpList_append_wf HWX.out rfl (.tmp 3) (.tmp 5) 35 rfl 9 i9 _ 16 Try.underlying35 hi9 hz9 hs9 hb9 rfl (zeroS _ _) (some ⟨w.heap.size + 1 + 1, 0, none⟩) 0 0 rfl (Nat.le_refl _) (Nat.zero_le _) (Or.inr ⟨_, rfl, Sh.add_self _ _ _ _⟩) ⟨sb, so, none⟩ nl nc (ns.map Value.string) rfl (by rw [List.length_map, ← HNL.out, wideS]; omega) HN.out (by intro u hu; simp at hu; obtain ⟨x, -, rfl⟩ := hu; rfl) HO.out (by omega) (by unfold maxLen; omega) (by omega) ?_
    intro g c wP σ' q1 q2 q3 q4 q5 q6 q7 q8 q9
    obtain ⟨k0, k1, kz, kE⟩ := HEND.out wP g c σ' q1 q2 q3 q4 q5 q6 q7
    have HE := hid_of kE
    clear kE q1 q2 q5 q6 q7 q8 q9
    obtain ⟨a0, z0⟩ := box_at k0 0 (by simp)
    obtain ⟨a1, z1⟩ := box_at k0 1 (by simp)
    obtain ⟨a2, z2⟩ := box_at k0 2 (by simp)
    obtain ⟨a3, z3⟩ := box_at k0 3 (by simp)
    obtain ⟨a4, z4⟩ := box_at k0 4 (by simp)
    obtain ⟨a5, z5⟩ := box_at k0 5 (by simp)
    obtain ⟨a6, z6⟩ := box_at k0 6 (by simp)
    obtain ⟨a7, z7⟩ := box_at k0 7 (by simp)
    obtain ⟨e0, y0⟩ := box_at k1 0 (by simp)
    obtain ⟨e1, y1⟩ := box_at k1 1 (by simp)
    obtain ⟨e2, y2⟩ := box_at k1 2 (by simp)
    obtain ⟨e3, y3⟩ := box_at k1 3 (by simp)
    obtain ⟨e4, y4⟩ := box_at k1 4 (by simp)
    obtain ⟨e5, y5⟩ := box_at k1 5 (by simp)
    obtain ⟨e6, y6⟩ := box_at k1 6 (by simp)
    obtain ⟨e7, y7⟩ := box_at k1 7 (by simp)
    simp only [List.getElem_toArray, List.getElem_cons_zero, List.getElem_cons_succ] at a0 a1 a2 a3 a4 a5 a6 a7 e0 e1 e2 e3 e4 e5 e6 e7
    simp only [Nat.zero_add])
  obtain ⟨d0, d1, d2, d3, d4, d5, d6, d7⟩ := sets_cells ((Below.heap_setCell wP ⟨w.heap.size, 7, none⟩ (.slice (some ⟨g, 0, none⟩) nl c) (w.heap.size + 1) (by show w.heap.size + 1 ≠ w.heap.size; omega)).trans k1) rfl (.string fn) (.string fo) (.bool l) (.bool m) (.bool fr) (.bool h) (.bool sh) (.slice (some ⟨g, 0, none⟩) nl c) _ rfl
  exact bodyPost_ret (copyResult _ _ (w.heap.size + 1) _ _ _ _ _ _ _ _ rfl d0 d1 d2 d3 d4 d5 d6 d7) rfl HE.out
end Go.Proofs.Ytdohgkokoicjlaa
namespace Go.Proofs.Ytdohgkokoicjlaa
open Go.RowKit Go.Maps
def SlIn (σ : Sh) (T : TypeId) (a : Option Addr) (n c : Nat) : Prop := (a = none ∧ n = 0 ∧ c = 0) ∨ ∃ b, a = some ⟨b, 0, none⟩ ∧ σ b = some (T, c)
theorem SlIn.ext {σ σ' : Sh} {T : TypeId} {a : Option Addr} {n c : Nat} (h : SlIn σ T a n c) (he : Ext σ σ') : SlIn σ' T a n c := h.imp id fun ⟨b, e, hb⟩ => ⟨b, e, he _ _ _ hb⟩
theorem SlIn.own {σ : Sh} {T : TypeId} {a : Option Addr} {n c : Nat} (h : SlIn σ T a n c) : ∀ k, (Value.slice a n c).ownBlock = some k → σ k = some (T, c) := fun k hk => by
  rcases h with ⟨rfl, -, -⟩ | ⟨b, rfl, hb⟩
  · cases hk
  · cases hk; exact hb
structure CSt (w : World) (nm : ByteArray) (pbox : Array Value) (B : Bd) (wx : World) (σ : Sh) (xa : Option Addr) (i xc : Nat) : Prop where
  pb : wx.heap[w.heap.size]? = some (.cells pbox 25 (0, 0))
  rb : wx.heap[w.heap.size + 1]? = some (.cells #[.string ⟨#[]⟩, .slice none 0 0] 25 (0, 0))
  xb : wx.heap[w.heap.size + 1 + 1]? = some (.cells #[.string nm, .slice xa i xc] 25 (0, 0))
  wf : Wf wx σ B
  new : ∀ b T n, σ b = some (T, n) → w.heap.size + 1 + 1 < b
  sl : SlIn σ 48 xa i xc
  le : i ≤ xc
  cm : xc ≤ maxLen
  bel : Below w.heap.size w wx
  sz : w.heap.size + 1 + 1 < wx.heap.size
section
variable {w : World} {nm : ByteArray} {pbox : Array Value} {B : Bd} {wx wy : World} {σ : Sh} {xa : Option Addr} {i xc : Nat}
theorem CSt.keep (h : CSt w nm pbox B wx σ xa i xc) {σ' : Sh} (hw : Wf wy σ' B) (he : Ext σ σ') (hs : ∀ x, x < wx.heap.size → σ' x = σ x) (hz : wx.heap.size ≤ wy.heap.size) (hr : wy.os = wx.os ∧ wy.tape = wx.tape ∧ wy.output = wx.output) (hk : ∀ x, x < wx.heap.size → σ x = none → wy.heap[x]? = wx.heap[x]?) : CSt w nm pbox B wy σ' xa i xc := by
  have n : ∀ x, x ≤ w.heap.size + 1 + 1 → σ x = none := fun x hx => by
    cases e : σ x with
    | none => rfl
    | some y => obtain ⟨T, m⟩ := y; have := h.new x T m e; omega
  have hsz := h.sz
  refine ⟨(hk _ (by omega) (n _ (by omega))).trans h.pb, (hk _ (by omega) (n _ (by omega))).trans h.rb, (hk _ (by omega) (n _ (by omega))).trans h.xb, hw, fun b T m hb => ?_, h.sl.ext he, h.le, h.cm, ⟨by rw [hr.1, h.bel.os], by rw [hr.2.1, h.bel.tape], by rw [hr.2.2, h.bel.output], by have := h.bel.size; omega, fun x hx => (hk x (by omega) (n x (by omega))).trans (h.bel.block x hx)⟩, by omega⟩
  rcases Nat.lt_or_ge b wx.heap.size with q | q
  · rw [hs b q] at hb; exact h.new b T m hb
  · omega
theorem CSt.below (h : CSt w nm pbox B wx σ xa i xc) (hb : Below wx.heap.size wx wy) : CSt w nm pbox B wy σ xa i xc :=
  h.keep (h.wf.below hb) (Ext.refl _) (fun _ _ => rfl) hb.size ⟨hb.os, hb.tape, hb.output⟩ fun x hx _ => hb.block x hx
structure TSt (w : World) (nm : ByteArray) (pbox : Array Value) (B : Bd) (wx : World) (σ : Sh) (xa : Option Addr) (i xc : Nat) (tb : Nat) (tn tk : ByteArray) (fa : Option Addr) (k fc : Nat) : Prop where
  c : CSt w nm pbox B wx σ xa i xc
  t : wx.heap[tb]? = some (.cells #[.string tn, .string tk, .slice fa k fc] 48 (0, 0))
  nt : σ tb = none
  gt : w.heap.size + 1 + 1 < tb
  sl : SlIn σ 37 fa k fc
  le : k ≤ fc
  cm : fc ≤ maxLen
variable {tb : Nat} {tn tk : ByteArray} {fa : Option Addr} {k fc : Nat}
theorem TSt.lt (h : TSt w nm pbox B wx σ xa i xc tb tn tk fa k fc) : tb < wx.heap.size := (Array.getElem?_eq_some_iff.1 h.t).1
theorem TSt.below (h : TSt w nm pbox B wx σ xa i xc tb tn tk fa k fc) (hb : Below wx.heap.size wx wy) : TSt w nm pbox B wy σ xa i xc tb tn tk fa k fc :=
  ⟨h.c.below hb, (hb.block _ h.lt).trans h.t, h.nt, h.gt, h.sl, h.le, h.cm⟩
theorem CSt.box (h : CSt w nm pbox B wx σ xa i xc) (hx : wx.heap.size = tb) (tn tk : ByteArray) : TSt w nm pbox B (wx.alloc (.cells #[.string tn, .string tk, .slice none 0 0] 48)) σ xa i xc tb tn tk none 0 0 := by
  subst hx
  exact ⟨h.below (below_box _ _), block_new _ _ rfl, h.wf.fresh (Nat.le_refl _), h.sz, Or.inl ⟨rfl, rfl, rfl⟩, Nat.le_refl _, Nat.zero_le _⟩
theorem TSt.app {W wF : World} {σ1 σF : Sh} {g cap : Nat} (h : TSt w nm pbox B wx σ xa i xc tb tn tk fa k fc) (hW : Below wx.heap.size wx W) (x1 : Ext σ σ1) (s1 : ∀ x, x < wx.heap.size → σ1 x = σ x) (q1 : Wf wF σF B) (q2 : σF g = some (37, cap)) (q3 : k + 1 ≤ cap) (q4 : cap ≤ maxLen) (q5 : Ext σ1 σF) (q6 : ∀ x, x < W.heap.size → σF x = σ1 x) (q7 : W.grownBy wF (Value.slice fa k fc).ownBlock) :
    TSt w nm pbox B (wF.setCell ⟨tb, 2, none⟩ (.slice (some ⟨g, 0, none⟩) (k + 1) cap)) σF xa i xc tb tn tk (some ⟨g, 0, none⟩) (k + 1) cap := by
  have hz := hW.size
  have hzF := q7.size
  have htl := h.lt
  have hsF : ∀ x, x < wx.heap.size → σF x = σ x := fun x hx => by rw [q6 x (by omega), s1 x hx]
  have hkF : ∀ x, x < wx.heap.size → σ x = none → wF.heap[x]? = wx.heap[x]? := fun x hx hn => (q7.block x (by omega) (fun e => by have := h.sl.own x e.symm; rw [hn] at this; cases this)).trans (hW.block x hx)
  have nF : σF tb = none := by rw [hsF tb htl]; exact h.nt
  have c1 : CSt w nm pbox B wF σF xa i xc := h.c.keep q1 (x1.trans q5) hsF (by omega) ⟨q7.os.trans hW.os, q7.tape.trans hW.tape, q7.output.trans hW.output⟩ hkF
  have hset : ∀ x, x ≠ tb → (wF.setCell ⟨tb, 2, none⟩ (.slice (some ⟨g, 0, none⟩) (k + 1) cap)).heap[x]? = wF.heap[x]? := fun x hx => Below.heap_setCell _ _ _ _ hx
  have hg := h.gt
  refine ⟨⟨(hset _ (by omega)).trans c1.pb, (hset _ (by omega)).trans c1.rb, (hset _ (by omega)).trans c1.xb, q1.keep fun b T m hb => hset b (fun e => by subst e; rw [nF] at hb; cases hb), c1.new, c1.sl, c1.le, c1.cm, c1.bel.setCell (by show w.heap.size ≤ tb; omega) _, by rw [size_set]; exact c1.sz⟩, ?_, nF, hg, Or.inr ⟨g, rfl, q2⟩, q3, q4⟩
  rw [set_box ((hkF tb htl h.nt).trans h.t) 2 _]
  rfl
theorem CSt.app {W wF : World} {σF : Sh} {g cap : Nat} (h : CSt w nm pbox B wx σ xa i xc) (hW : Below wx.heap.size wx W) (q1 : Wf wF σF B) (q2 : σF g = some (48, cap)) (q3 : i + 1 ≤ cap) (q4 : cap ≤ maxLen) (q5 : Ext σ σF) (q6 : ∀ x, x < W.heap.size → σF x = σ x) (q7 : W.grownBy wF (Value.slice xa i xc).ownBlock) :
    CSt w nm pbox B (wF.setCell ⟨w.heap.size + 1 + 1, 1, none⟩ (.slice (some ⟨g, 0, none⟩) (i + 1) cap)) σF (some ⟨g, 0, none⟩) (i + 1) cap ∧ wF.heap[w.heap.size + 1 + 1]? = some (.cells #[.string nm, .slice xa i xc] 25 (0, 0)) := by
  have hz := hW.size
  have hzF := q7.size
  have hsF : ∀ x, x < wx.heap.size → σF x = σ x := fun x hx => q6 x (by omega)
  have hkF : ∀ x, x < wx.heap.size → σ x = none → wF.heap[x]? = wx.heap[x]? := fun x hx hn => (q7.block x (by omega) (fun e => by have := h.sl.own x e.symm; rw [hn] at this; cases this)).trans (hW.block x hx)
  have c1 : CSt w nm pbox B wF σF xa i xc := h.keep q1 q5 hsF (by omega) ⟨q7.os.trans hW.os, q7.tape.trans hW.tape, q7.output.trans hW.output⟩ hkF
  have hset : ∀ x, x ≠ w.heap.size + 1 + 1 → (wF.setCell ⟨w.heap.size + 1 + 1, 1, none⟩ (.slice (some ⟨g, 0, none⟩) (i + 1) cap)).heap[x]? = wF.heap[x]? := fun x hx => Below.heap_setCell _ _ _ _ hx
  refine ⟨⟨(hset _ (by omega)).trans c1.pb, (hset _ (by omega)).trans c1.rb, ?_, q1.keep fun b T m hb => hset b (by have := c1.new b T m hb; omega), c1.new, Or.inr ⟨g, rfl, q2⟩, q3, q4, c1.bel.setCell (by show w.heap.size ≤ w.heap.size + 1 + 1; omega) _, by rw [size_set]; exact c1.sz⟩, c1.xb⟩
  rw [set_box c1.xb 1 _]
  rfl
end
end Go.Proofs.Ytdohgkokoicjlaa
namespace Go.Proofs.Ytdohgkokoicjlaa
open Go.RowKit Go.Maps
theorem byte_text (W : World) (b : Nat) (v : Nat) (hv : v < 256) (hb : W.cell? ⟨b, 0, none⟩ = some (.int .u8 (v : Int))) :
    Sem.run Try.prog (convert 22 9 (.slice (some ⟨b, 0, none⟩) 1 1)) W = .ok (.string ⟨#[UInt8.ofNat v]⟩) W :=
  run_convert_bytes_back (P := Try.prog) W 22 9 5 ⟨b, 0, none⟩ 1 [UInt8.ofNat v] Try.underlying22 Try.underlying5 Try.underlying9 (fun j hj => by
    have hj0 : j = 0 := by simpa using hj
    subst hj0
    have hd : (UInt8.ofNat v).toNat = v := by rw [UInt8.toNat_ofNat']; omega
    simp only [List.getElem_cons_zero, hd]
    simpa [Addr.add] using hb)
set_option maxHeartbeats 800000 in
theorem l1Dec_small (n : Nat) (w : World) (h10 : n < 10) : Calls Try.prog 54 #[.int .i64 n] w fun e w' => ∃ s : ByteArray, e = .returned (.string s) ∧ s.size = 1 ∧ Below w.heap.size w w' := by
  have hn0 : ¬ (n : Int) < 0 := by omega
  have hn1 : ¬ (n : Int) < -9223372036854775807 := by omega
  have hi10 : (n : Int) < 10 := by omega
  have hw8 : IntKind.u8.wrap (48 + (n : Int)) = 48 + (n : Int) := by have : IntKind.u8.wrap (48 + (n : Int)) = (48 + (n : Int)) % 256 := rfl; omega
  have hcv := byte_text (w.alloc (.cells #[.int .u8 (48 + (n : Int))] 5)) w.heap.size (48 + n) (by omega) (by simp [go_sem])
  generalize UInt8.ofNat (48 + n) = dg at hcv
  go_enter Try.func54, Try.ntmps54
  go_wp2_with fail
  go_ret
  exact ⟨_, rfl, rfl, below_box w _⟩
structure Pv where
  s : ByteArray
  b : Nat
  len : Nat
  cap : Nat
def Pv.val (p : Pv) : Value := .agg #[.string p.s, .slice (some ⟨p.b, 0, none⟩) p.len p.cap]
def flatP : List Pv → List Value
  | [] => []
  | p :: r => .string p.s :: .slice (some ⟨p.b, 0, none⟩) p.len p.cap :: flatP r
theorem flatP_len : ∀ ps : List Pv, (flatP ps).length = ps.length * 2
  | [] => rfl
  | p :: r => by simp only [flatP, List.length_cons, flatP_len r]; omega
theorem flatP_app : ∀ (ps : List Pv) (p : Pv), flatP (ps ++ [p]) = flatP ps ++ [.string p.s, .slice (some ⟨p.b, 0, none⟩) p.len p.cap]
  | [], p => rfl
  | q :: r, p => by simp only [List.cons_append, flatP, flatP_app r p]
theorem flatP_at : ∀ (ps : List Pv) (i : Nat) (h : i < ps.length), (flatP ps)[i * 2]? = some (.string ps[i].s) ∧ (flatP ps)[i * 2 + 1]? = some (.slice (some ⟨ps[i].b, 0, none⟩) ps[i].len ps[i].cap)
  | p :: r, 0, _ => ⟨rfl, rfl⟩
  | p :: r, i + 1, h => by
    have := flatP_at r i (by simpa using h)
    rw [show (i + 1) * 2 = i * 2 + 1 + 1 by omega]
    simpa only [flatP, List.getElem?_cons_succ, List.getElem_cons_succ] using this
theorem flatP_set : ∀ (ps : List Pv) (i : Nat) (p : Pv), i < ps.length → ((flatP ps).set (i * 2) (.string p.s)).set (i * 2 + 1) (.slice (some ⟨p.b, 0, none⟩) p.len p.cap) = flatP (ps.set i p)
  | q :: r, 0, p, _ => rfl
  | q :: r, i + 1, p, h => by
    have := flatP_set r i p (by simpa using h)
    rw [show (i + 1) * 2 = i * 2 + 1 + 1 by omega]
    simp only [flatP, List.set_cons_succ, this]
def PvOk (σ : Sh) (B : Bd) (p : Pv) : Prop := p.s.size ≤ 12 ∧ 1 ≤ p.len ∧ p.len ≤ B.nt ∧ p.len ≤ p.cap ∧ p.cap ≤ maxLen ∧ σ p.b = some (48, p.cap)
theorem PvOk.ext {σ σ' : Sh} {B B' : Bd} {p : Pv} (h : PvOk σ B p) (he : Ext σ σ') (hB : B.nt ≤ B'.nt) : PvOk σ' B' p := ⟨h.1, h.2.1, by have := h.2.2.1; omega, h.2.2.2.1, h.2.2.2.2.1, he _ _ _ h.2.2.2.2.2⟩
def bdP (c : Nat) : Bd := ⟨1 + 2 * c, 7 + 2 * c, 1, true⟩
theorem bdP_more (c : Nat) : ((bdP c).more 2).le (bdP (c + 1)) := ⟨by simp only [bdP, Bd.more]; omega, by simp only [bdP, Bd.more]; omega, Nat.le_refl _, id⟩
structure PSt (w : World) (rb cb n : Nat) (wx : World) (σ : Sh) (c q pb pc : Nat) (ps : List Pv) : Prop where
  rd : RdOk wx rb cb q
  wf : Wf wx σ (bdP c)
  new : ∀ b T m, σ b = some (T, m) → w.heap.size ≤ b
  own : wx.ownsRow w.heap.size 25 2 (.slice (some ⟨pb, 0, none⟩) n pc) n (flatP ps)
  len : ps.length = n
  ok : ∀ p ∈ ps, PvOk σ (bdP c) p
  npb : σ pb = none
  only : Only (· = rb) w wx
  rlt : rb < w.heap.size
  clt : cb < w.heap.size
theorem PSt.plt {w : World} {rb cb n : Nat} {wx : World} {σ : Sh} {c q pb pc : Nat} {ps : List Pv} (h : PSt w rb cb n wx σ c q pb pc ps) : w.heap.size ≤ pb ∧ pb < wx.heap.size := h.own.lt pb rfl
theorem PSt.move {w : World} {rb cb n : Nat} {wx wy : World} {σ : Sh} {c q q' pb pc : Nat} {ps : List Pv} (h : PSt w rb cb n wx σ c q pb pc ps) (hr : RdOk wy rb cb q') (ho : Only (· = rb) wx wy) : PSt w rb cb n wy σ c q' pb pc ps := by
  have hp := h.plt
  have hk : ∀ x, x < wx.heap.size → x ≠ rb → wy.heap[x]? = wx.heap[x]? := fun x hx hn => ho.block x hx hn
  refine ⟨hr, h.wf.keep fun b T m hb => hk b (h.wf.lt hb) (by have := h.new b T m hb; have := h.rlt; omega), h.new, ?_, h.len, h.ok, h.npb, h.only.trans ho fun _ _ q => q, h.rlt, h.clt⟩
  refine ⟨h.own.1, h.own.2.imp id ?_⟩
  rintro ⟨g, cap, cur, e, hg, hh, hr⟩
  cases e
  exact ⟨pb, pc, cur, rfl, hg, (hk pb hp.2 (by have := h.rlt; omega)).trans hh, hr⟩
theorem PSt.below {w : World} {rb cb n : Nat} {wx wy : World} {σ : Sh} {c q pb pc : Nat} {ps : List Pv} (h : PSt w rb cb n wx σ c q pb pc ps) (hb : Below wx.heap.size wx wy) : PSt w rb cb n wy σ c q pb pc ps :=
  h.move (h.rd.only (Only.of_below (fun _ => False) hb) id id) (Only.of_below _ hb)
theorem PSt.cells {w : World} {rb cb n : Nat} {wx : World} {σ : Sh} {c q pb pc : Nat} {ps : List Pv} (h : PSt w rb cb n wx σ c q pb pc ps) (i : Nat) (hi : i < n) : ∃ p : Pv, PvOk σ (bdP c) p ∧ wx.cell? ⟨pb, i * 2, none⟩ = some (.string p.s) ∧ wx.cell? ⟨pb, i * 2 + 1, none⟩ = some (.slice (some ⟨p.b, 0, none⟩) p.len p.cap) ∧ wx.frozen? ⟨pb, i * 2, none⟩ = false ∧ wx.frozen? ⟨pb, i * 2 + 1, none⟩ = false := by
  have hl : i < ps.length := by rw [h.len]; exact hi
  have hf := flatP_at ps i hl
  have hc := h.own.cells (g := pb) rfl
  have h0 := hc _ _ hf.1
  have h1 := hc _ _ hf.2
  rw [Addr.add_lit, Nat.zero_add] at h0 h1
  have hfz : ∀ j, wx.frozen? ⟨pb, j, none⟩ = false := fun j => by
    rcases h.own.2 with ⟨e, -⟩ | ⟨g, cap, cur, e, -, hh, -⟩
    · cases e
    · cases e; simp [World.frozen?, hh]
  exact ⟨ps[i], h.ok _ (List.getElem_mem hl), h0, h1, hfz _, hfz _⟩
theorem PSt.give {w : World} {rb cb n : Nat} {wx wy : World} {σ σ' : Sh} {c q pb pc i : Nat} {ps : List Pv} (h : PSt w rb cb n wx σ c q pb pc ps) (hi : i < n) (p : Pv) (hW : Wf wy σ' ((bdP c).more 2)) (he : Ext σ σ') (hs : ∀ x, x < wx.heap.size → σ' x = σ x) (ho : Only (Hot σ) wx wy) (hp : PvOk σ' (bdP (c + 1)) p) :
    PSt w rb cb n ((wy.setCell ⟨pb, i * 2, none⟩ (.string p.s)).setCell ⟨pb, i * 2 + 1, none⟩ (.slice (some ⟨p.b, 0, none⟩) p.len p.cap)) σ' (c + 1) q pb pc (ps.set i p) := by
  have hpl := h.plt
  have hz := ho.size
  have hrl := h.rlt
  have hcl := h.clt
  have hwx := h.only.size
  have nh : ∀ x, x < w.heap.size → ¬ Hot σ x := fun x hx ⟨T, m, hT, _⟩ => by have := h.new x T m hT; omega
  have nhp : ¬ Hot σ pb := fun ⟨T, m, hT, _⟩ => by rw [h.npb] at hT; cases hT
  have npb' : σ' pb = none := by rw [hs pb hpl.2]; exact h.npb
  have hset : ∀ x, x ≠ pb → ((wy.setCell ⟨pb, i * 2, none⟩ (.string p.s)).setCell ⟨pb, i * 2 + 1, none⟩ (.slice (some ⟨p.b, 0, none⟩) p.len p.cap)).heap[x]? = wy.heap[x]? := fun x hx => by rw [Below.heap_setCell _ _ _ _ hx, Below.heap_setCell _ _ _ _ hx]
  have hsz : ((wy.setCell ⟨pb, i * 2, none⟩ (.string p.s)).setCell ⟨pb, i * 2 + 1, none⟩ (.slice (some ⟨p.b, 0, none⟩) p.len p.cap)).heap.size = wy.heap.size := by rw [size_set, size_set]
  have hold : ∀ x, x < w.heap.size → ((wy.setCell ⟨pb, i * 2, none⟩ (.string p.s)).setCell ⟨pb, i * 2 + 1, none⟩ (.slice (some ⟨p.b, 0, none⟩) p.len p.cap)).heap[x]? = wx.heap[x]? := fun x hx => by rw [hset x (by omega), ho.block x (by omega) (nh x hx)]
  refine ⟨h.rd.keep (hold rb hrl) (hold cb hcl) (by rw [hsz]; exact hz), (hW.le (bdP_more c)).keep fun b T m hb => hset b (fun e => by subst e; rw [npb'] at hb; cases hb), fun b T m hb => ?_, ?_, by rw [List.length_set]; exact h.len, fun x hx => ?_, npb', ?_, hrl, hcl⟩
  · rcases Nat.lt_or_ge b wx.heap.size with hlt | hge
    · rw [hs b hlt] at hb; exact h.new b T m hb
    · omega
  · refine ⟨by rw [flatP_len, List.length_set, h.len], ?_⟩
    rcases h.own.2 with ⟨e, -⟩ | ⟨g, cap, cur, e, hg, hh, h1, h2, h3, h4⟩
    · cases e
    · cases e
      have hy : wy.heap[pb]? = some (.cells cur 25 (0, 0)) := (ho.block pb hpl.2 nhp).trans hh
      refine Or.inr ⟨pb, pc, _, rfl, hg, set_box (set_box hy _ _) _ _, h1, h2, by simpa using h3, ?_⟩
      rw [Array.toList_setIfInBounds, Array.toList_setIfInBounds, List.take_set, List.take_set, h4]
      exact flatP_set ps i p (by rw [h.len]; exact hi)
  · rcases List.mem_or_eq_of_mem_set hx with hx | rfl
    · exact (h.ok x hx).ext he (by simp only [bdP]; omega)
    · exact hp
  · exact ⟨ho.os.trans h.only.os, ho.tape.trans h.only.tape, ho.output.trans h.only.output, by rw [hsz]; omega, fun b hb hn => (hold b hb).trans (h.only.block b hb hn)⟩
end Go.Proofs.Ytdohgkokoicjlaa
namespace Go.Proofs.Ytdohgkokoicjlaa
open Go.RowKit Go.Maps
structure LSt (w wx : World) (σ σL : Sh) (tb pb : Nat) : Prop where
  wf : Wf wx σL bdL
  blk : σL tb = some (48, 4)
  new : ∀ b T m, σL b = some (T, m) → w.heap.size ≤ b
  str : ∀ b m, σL b = some (9, m) → σ b = some (9, m)
  sep : ∀ b T m, σL b = some (T, m) → T ≠ 9 → σ b = none ∧ b ≠ pb
theorem LSt.move {w wx wy : World} {σ σL : Sh} {tb pb rb : Nat} (h : LSt w wx σ σL tb pb) (hr : rb < w.heap.size) (ho : Only (· = rb) wx wy) : LSt w wy σ σL tb pb :=
  ⟨h.wf.keep fun b T m hb => ho.block b (h.wf.lt hb) (by have := h.new b T m hb; omega), h.blk, h.new, h.str, h.sep⟩
structure FBx (w wx : World) (σ : Sh) (pb fx : Nat) (cs : Array Value) : Prop where
  box : wx.heap[fx]? = some (.cells cs 37 (0, 0))
  nil : σ fx = none
  ne : fx ≠ pb
  new : w.heap.size ≤ fx
theorem FBx.lt {w wx : World} {σ : Sh} {pb fx : Nat} {cs : Array Value} (h : FBx w wx σ pb fx cs) : fx < wx.heap.size := (Array.getElem?_eq_some_iff.1 h.box).1
theorem FBx.move {w wx wy : World} {σ : Sh} {pb fx rb : Nat} {cs : Array Value} (h : FBx w wx σ pb fx cs) (hr : rb < w.heap.size) (ho : Only (· = rb) wx wy) : FBx w wy σ pb fx cs :=
  ⟨(ho.block fx h.lt (by have := h.new; omega)).trans h.box, h.nil, h.ne, h.new⟩
theorem FBx.set {w wx : World} {σ : Sh} {pb fx : Nat} {cs : Array Value} (h : FBx w wx σ pb fx cs) (j : Nat) (v : Value) : FBx w (wx.setCell ⟨fx, j, none⟩ v) σ pb fx (cs.setIfInBounds j v) := ⟨set_box h.box j v, h.nil, h.ne, h.new⟩
theorem PSt.setF {w : World} {rb cb n : Nat} {wx : World} {σ : Sh} {c q pb pc fx : Nat} {ps : List Pv} {cs : Array Value} (h : PSt w rb cb n wx σ c q pb pc ps) (hf : FBx w wx σ pb fx cs) (j : Nat) (v : Value) : PSt w rb cb n (wx.setCell ⟨fx, j, none⟩ v) σ c q pb pc ps := by
  have hk : ∀ x, x ≠ fx → (wx.setCell ⟨fx, j, none⟩ v).heap[x]? = wx.heap[x]? := fun x hx => Below.heap_setCell _ _ _ _ hx
  have hn := hf.new
  have hr := h.rlt
  have hc := h.clt
  refine ⟨h.rd.keep (hk rb (by omega)) (hk cb (by omega)) (by rw [size_set]; exact Nat.le_refl _), h.wf.keep fun b T m hb => hk b (fun e => by subst e; rw [hf.nil] at hb; cases hb), h.new, ?_, h.len, h.ok, h.npb, h.only.set fx j (Or.inr hn) v, hr, hc⟩
  refine ⟨h.own.1, h.own.2.imp id ?_⟩
  rintro ⟨g, cap, cur, e, hg, hh, hr⟩
  cases e
  exact ⟨pb, pc, cur, rfl, hg, (hk pb (Ne.symm hf.ne)).trans hh, hr⟩
theorem LSt.setF {w wx : World} {σ σL : Sh} {tb pb fx : Nat} {cs : Array Value} (h : LSt w wx σ σL tb pb) (hf : FBx w wx σ pb fx cs) (hL : σL fx = none) (j : Nat) (v : Value) : LSt w (wx.setCell ⟨fx, j, none⟩ v) σ σL tb pb :=
  ⟨h.wf.keep fun b T m hb => Below.heap_setCell _ _ _ _ (fun e => by have e : b = fx := e; subst e; rw [hL] at hb; cases hb), h.blk, h.new, h.str, h.sep⟩
structure RSt (w : World) (rb cb n : Nat) (wx : World) (σ σL : Sh) (c q pb pc tb : Nat) (ps : List Pv) : Prop where
  p : PSt w rb cb n wx σ c q pb pc ps
  l : LSt w wx σ σL tb pb
theorem RSt.move {w : World} {rb cb n : Nat} {wx wy : World} {σ σL : Sh} {c q q' pb pc tb : Nat} {ps : List Pv} (h : RSt w rb cb n wx σ σL c q pb pc tb ps) (hr : RdOk wy rb cb q') (ho : Only (· = rb) wx wy) : RSt w rb cb n wy σ σL c q' pb pc tb ps := ⟨h.p.move hr ho, h.l.move h.p.rlt ho⟩
theorem RSt.below {w : World} {rb cb n : Nat} {wx wy : World} {σ σL : Sh} {c q pb pc tb : Nat} {ps : List Pv} (h : RSt w rb cb n wx σ σL c q pb pc tb ps) (hb : Below wx.heap.size wx wy) : RSt w rb cb n wy σ σL c q pb pc tb ps := ⟨h.p.below hb, h.l.move h.p.rlt (Only.of_below _ hb)⟩
theorem RSt.fresh {w : World} {rb cb n : Nat} {wx : World} {σ σL : Sh} {c q pb pc tb : Nat} {ps : List Pv} (h : RSt w rb cb n wx σ σL c q pb pc tb ps) {N : Nat} (hN : wx.heap.size ≤ N) : σ N = none ∧ σL N = none ∧ N ≠ pb ∧ w.heap.size ≤ N := ⟨h.p.wf.fresh hN, h.l.wf.fresh hN, by have := h.p.plt.2; omega, by have := h.p.only.size; omega⟩
theorem LSt.row {w wx : World} {σ σL : Sh} {tb pb : Nat} (h : LSt w wx σ σL tb pb) (i : Nat) (hi : i < 4) :
    ∃ (n : ByteArray) (fa : Option Addr) (fl fp : Nat), wx.cell? ⟨tb, i * 3, none⟩ = some (.string n) ∧ wx.cell? ⟨tb, i * 3 + 2, none⟩ = some (.slice fa fl fp) ∧ n.size ≤ 12 ∧ scalarB n = false ∧ fl ≤ 7 ∧ (0 < fl → ∃ b, fa = some ⟨b, 0, none⟩ ∧ fl ≤ fp ∧ σL b = some (37, fp)) := by
  obtain ⟨v0, c0, o0, -⟩ := h.wf.cell h.blk i 0 hi (by rw [wideT]; omega)
  obtain ⟨v2, c2, o2, -⟩ := h.wf.cell h.blk i 2 hi (by rw [wideT]; omega)
  rw [wideT] at c0 c2
  obtain ⟨n, rfl, z0, hsc⟩ : NmOk bdL.st v0 := by simpa [CellOk] using o0
  obtain ⟨fa, fl, fp, rfl, q1, q2, q3, q4⟩ : SlOk σL 37 bdL.nf v2 := by simpa [CellOk] using o2
  refine ⟨n, fa, fl, fp, c0, c2, z0, hsc rfl, q1, fun h0 => ?_⟩
  rcases q4 with ⟨-, h, -⟩ | ⟨b, e, hb⟩
  · omega
  · exact ⟨b, e, q2, hb⟩
theorem LSt.field {w wx : World} {σ σL : Sh} {tb pb : Nat} (h : LSt w wx σ σL tb pb) {b k fp : Nat} (hb : σL b = some (37, fp)) (hk : k < fp) :
    ∃ (fn fo : ByteArray) (l m fr hd sh : Bool) (na : Option Addr) (nl nc : Nat), wx.cell? ⟨b, k * 8, none⟩ = some (.string fn) ∧ wx.cell? ⟨b, k * 8 + 1, none⟩ = some (.string fo) ∧ wx.cell? ⟨b, k * 8 + 2, none⟩ = some (.bool l) ∧ wx.cell? ⟨b, k * 8 + 3, none⟩ = some (.bool m) ∧ wx.cell? ⟨b, k * 8 + 4, none⟩ = some (.bool fr) ∧ wx.cell? ⟨b, k * 8 + 5, none⟩ = some (.bool hd) ∧ wx.cell? ⟨b, k * 8 + 6, none⟩ = some (.bool sh) ∧ wx.cell? ⟨b, k * 8 + 7, none⟩ = some (.slice na nl nc) ∧ fn.size ≤ 12 ∧ fo.size ≤ 12 ∧ SlOk σ 9 1 (.slice na nl nc) := by
  have hc := fun j (hj : j < 8) => h.wf.cell hb k j hk (by rw [wideF]; exact hj)
  simp only [wideF] at hc
  obtain ⟨v0, c0, o0, -⟩ := hc 0 (by omega)
  obtain ⟨v1, c1, o1, -⟩ := hc 1 (by omega)
  obtain ⟨v2, c2, o2, -⟩ := hc 2 (by omega)
  obtain ⟨v3, c3, o3, -⟩ := hc 3 (by omega)
  obtain ⟨v4, c4, o4, -⟩ := hc 4 (by omega)
  obtain ⟨v5, c5, o5, -⟩ := hc 5 (by omega)
  obtain ⟨v6, c6, o6, -⟩ := hc 6 (by omega)
  obtain ⟨v7, c7, o7, -⟩ := hc 7 (by omega)
  obtain ⟨fn, rfl, z0⟩ : StOk v0 := by simpa [CellOk] using o0
  obtain ⟨fo, rfl, z1⟩ : StOk v1 := by simpa [CellOk] using o1
  obtain ⟨l, rfl⟩ : BoOk v2 := by simpa [CellOk] using o2
  obtain ⟨m, rfl⟩ : BoOk v3 := by simpa [CellOk] using o3
  obtain ⟨fr, rfl⟩ : BoOk v4 := by simpa [CellOk] using o4
  obtain ⟨hd, rfl⟩ : BoOk v5 := by simpa [CellOk] using o5
  obtain ⟨sh, rfl⟩ : BoOk v6 := by simpa [CellOk] using o6
  obtain ⟨na, nl, nc, rfl, q1, q2, q3, q4⟩ : SlOk σL 9 bdL.nn v7 := by simpa [CellOk] using o7
  exact ⟨fn, fo, l, m, fr, hd, sh, na, nl, nc, c0, c1, c2, c3, c4, c5, c6, c7, z0, z1, ⟨na, nl, nc, rfl, q1, q2, q3, q4.imp id fun ⟨x, e, hx⟩ => ⟨x, e, h.str _ _ hx⟩⟩⟩
theorem give_call {w : World} {rb cb n : Nat} {wx : World} {σ σL : Sh} {c q pb pc tb : Nat} {ps : List Pv} (h : RSt w rb cb n wx σ σL c q pb pc tb ps) (hc : c ≤ 1000) {i : Nat} (hi : i < n) {p : Pv} (hp : PvOk σ (bdP c) p) {nm fn fo : ByteArray} {l m fr hd sh : Bool} {na : Option Addr} {nl nc : Nat} (hnm : nm.size ≤ 12) (hsc : scalarB nm = false) (hfn : fn.size ≤ 12) (hfo : fo.size ≤ 12) (hsl : SlOk σ 9 1 (.slice na nl nc)) :
    Calls Try.prog 56 #[.agg #[.string p.s, .slice (some ⟨p.b, 0, none⟩) p.len p.cap], .string nm, .agg #[.string fn, .string fo, .bool l, .bool m, .bool fr, .bool hd, .bool sh, .slice na nl nc]] wx fun e wy => ∃ (p' : Pv) (σ' : Sh), e = .returned (.agg #[.string p'.s, .slice (some ⟨p'.b, 0, none⟩) p'.len p'.cap]) ∧ (∃ v0 v1, wy.cell? ⟨pb, i * 2, none⟩ = some v0 ∧ wy.cell? ⟨pb, i * 2 + 1, none⟩ = some v1 ∧ wy.frozen? ⟨pb, i * 2, none⟩ = false ∧ wy.frozen? ⟨pb, i * 2 + 1, none⟩ = false) ∧
      Hid (RSt w rb cb n ((wy.setCell ⟨pb, i * 2, none⟩ (.string p'.s)).setCell ⟨pb, i * 2 + 1, none⟩ (.slice (some ⟨p'.b, 0, none⟩) p'.len p'.cap)) σ' σL (c + 1) q pb pc tb (ps.set i p') ∧ (∀ fx cs, FBx w wx σ pb fx cs → FBx w ((wy.setCell ⟨pb, i * 2, none⟩ (.string p'.s)).setCell ⟨pb, i * 2 + 1, none⟩ (.slice (some ⟨p'.b, 0, none⟩) p'.len p'.cap)) σ' pb fx cs) ∧ Ext σ σ' ∧ (∀ b T m, σL b = some (T, m) → wy.heap[b]? = wx.heap[b]? ∧ b ≠ pb) ∧ (∀ fx cs, FBx w wx σ pb fx cs → wy.heap[fx]? = wx.heap[fx]?)) := by
  refine (l11Give_any wx σ (bdP c) p.s nm fn fo l m fr hd sh na nl nc p.b p.len p.cap h.p.wf hp.1 hp.2.2.2.2.2 hp.2.2.2.1 hp.2.2.2.2.1 (by have := hp.2.2.1; simp only [bdP] at this; omega) hnm hsc hfn hfo hsl (Nat.le_refl _) (by simp only [bdP]; omega) (by simp only [bdP]; omega)).mono ?_
  rintro e wy ⟨σ', b', len', cap', rfl, W', x', s', o', hl1, hl2, hlc, hcm, hb'⟩
  have hpl := h.p.plt
  have nhp : ¬ Hot σ pb := fun ⟨T, m, hT, _⟩ => by rw [h.p.npb] at hT; cases hT
  obtain ⟨p0, -, c0, c1, f0, f1⟩ := h.p.cells i hi
  have hk := o'.block pb hpl.2 nhp
  have hok : PvOk σ' (bdP (c + 1)) ⟨p.s, b', len', cap'⟩ := ⟨hp.1, by have := hp.2.1; simp only; omega, by have := hp.2.2.1; simp only [bdP] at this ⊢; omega, hlc, hcm, hb'⟩
  have hset : ∀ x, x ≠ pb → ((wy.setCell ⟨pb, i * 2, none⟩ (.string p.s)).setCell ⟨pb, i * 2 + 1, none⟩ (.slice (some ⟨b', 0, none⟩) len' cap')).heap[x]? = wy.heap[x]? := fun x hx => by rw [Below.heap_setCell _ _ _ _ hx, Below.heap_setCell _ _ _ _ hx]
  have hL : ∀ b T m, σL b = some (T, m) → ¬ Hot σ b ∧ b ≠ pb := fun b T m hb => by
    by_cases hT : T = 9
    · subst hT
      have hs := h.l.str b m hb
      exact ⟨fun ⟨T', m', h1, h2⟩ => by rw [hs] at h1; cases h1; exact h2 rfl, fun e => by subst e; rw [h.p.npb] at hs; cases hs⟩
    · have hs := h.l.sep b T m hb hT
      exact ⟨(fun ⟨T', m', h1, h2⟩ => by rw [hs.1] at h1; cases h1), hs.2⟩
  refine ⟨⟨p.s, b', len', cap'⟩, σ', rfl, ⟨_, _, (World.cell?_of_block (a := ⟨pb, i * 2, none⟩) hk).trans c0, (World.cell?_of_block (a := ⟨pb, i * 2 + 1, none⟩) hk).trans c1, (World.frozen?_of_block (a := ⟨pb, i * 2, none⟩) hk).trans f0, (World.frozen?_of_block (a := ⟨pb, i * 2 + 1, none⟩) hk).trans f1⟩, ⟨h.p.give hi ⟨p.s, b', len', cap'⟩ W' x' s' o' hok, ?_⟩, fun fx cs hf => ?_, x', fun b T m hb => ⟨o'.block b (h.l.wf.lt hb) (hL b T m hb).1, (hL b T m hb).2⟩, fun fx cs hf => o'.block fx hf.lt (fun ⟨T, m, hT, _⟩ => by rw [hf.nil] at hT; cases hT)⟩
  · exact ⟨h.l.wf.keep fun b T m hb => (hset b (hL b T m hb).2).trans (o'.block b (h.l.wf.lt hb) (hL b T m hb).1), h.l.blk, h.l.new, fun b m hb => x' _ _ _ (h.l.str b m hb), fun b T m hb hT => by rw [s' b (h.l.wf.lt hb)]; exact h.l.sep b T m hb hT⟩
  · exact ⟨(hset fx hf.ne).trans ((o'.block fx hf.lt (fun ⟨T, m, hT, _⟩ => by rw [hf.nil] at hT; cases hT)).trans hf.box), by rw [s' fx hf.lt]; exact hf.nil, hf.ne, hf.new⟩
end Go.Proofs.Ytdohgkokoicjlaa
