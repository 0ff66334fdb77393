import Derived.Test.YtdohgkokoicjlaaB11
import Derived.Test.YtdohgkokoicjlaaB14
set_option linter.unusedSimpArgs false
set_option linter.unusedVariables false
namespace Go.Proofs.Ytdohgkokoicjlaa
open Go.RowKit Go.Maps
def TN (w : World) (b len : Nat) (nm : ByteArray) : Prop := ∃ i, i < len ∧ w.cell? ⟨b, i * 3, none⟩ = some (.string nm)
theorem bytes_eqB {a b : ByteArray} : (a.toList == b.toList) = true ↔ a = b := by
  constructor
  · intro h
    have h1 : a.toList = b.toList := by simpa using h
    rw [ByteArray.toList_eq, ByteArray.toList_eq] at h1
    cases a; cases b; congr; exact Array.toList_inj.1 h1
  · rintro rfl; simp
set_option maxHeartbeats 400000 in
theorem l2Type_wf (w : World) (σ : Sh) (B : Bd) (s nm : ByteArray) (b len cap : Nat) (hW : Wf w σ B) (hs : s.size ≤ 12) (hb : σ b = some (48, cap)) (hl : len ≤ cap) (hN : len ≤ 1000000) (hnn : B.nn ≤ 3) (hnf : B.nf ≤ 1000000) :
    Calls Try.prog 46 #[.agg #[.string s, .slice (some ⟨b, 0, none⟩) len cap], .string nm] w fun e w' => ∃ k : Int, e = .returned (.int .i64 k) ∧ -1 ≤ k ∧ k < len ∧ (0 ≤ k ↔ TN w b len nm) ∧ Below w.heap.size w w' := by
  obtain ⟨ts, hlen, hP, hnm, -⟩ := hW.types (off := 0) (c' := cap) hb (by omega) hN hl hnn hnf s hs
  subst hlen
  refine (l2Type_any _ w w.heap.size _ nm (by simpa using hP) (Nat.le_refl _)).mono fun e w' h => ?_
  obtain ⟨he, hbl⟩ := h
  refine ⟨_, he, ?_, ?_, ?_, hbl⟩
  all_goals rcases firstTo_cases (fun i => (tth ts i).name.toList == nm.toList) ts.length with ⟨hx, hno⟩ | ⟨g, hx, hg, hyes, -⟩
  all_goals simp only [hx]
  · omega
  · omega
  · omega
  · omega
  · refine ⟨fun h => by omega, fun ⟨i, hi, hc⟩ => ?_⟩
    have h1 := hnm i hi
    rw [Nat.zero_add] at h1
    rw [h1] at hc
    simp only [Option.some.injEq, Value.string.injEq] at hc
    have h2 := hno i hi
    rw [hc] at h2
    simp at h2
  · refine ⟨fun _ => ⟨g, hg, ?_⟩, fun _ => by omega⟩
    have h1 := hnm g hg
    rw [Nat.zero_add] at h1
    rw [h1, bytes_eqB.1 hyes]
theorem infoT : (Try.prog.info? 48).map (fun i => (i.zero, i.size, i.bytes)) = some (some (.agg #[.string ByteArray.empty, .string ByteArray.empty, .slice none 0 0]), 3, 56) := by kernel_rfl
theorem infoF : (Try.prog.info? 37).map (fun i => (i.zero, i.size, i.bytes)) = some (some (.agg #[.string ByteArray.empty, .string ByteArray.empty, .bool false, .bool false, .bool false, .bool false, .bool false, .slice none 0 0]), 8, 64) := by kernel_rfl
theorem sl_nil (σ : Sh) (T : TypeId) (N : Nat) : SlOk σ T N (.slice none 0 0) := ⟨none, 0, 0, rfl, Nat.zero_le _, Nat.le_refl _, Nat.zero_le _, Or.inl ⟨rfl, rfl, rfl⟩⟩
theorem sc_empty : scalarB ByteArray.empty = false := by simp [scalarB, isT, ByteArray.toList_eq]
theorem fieldCells (σ : Sh) (B : Bd) (n o : ByteArray) (l m f h s : Bool) (nv : Value) (hn : n.size ≤ 12) (ho : o.size ≤ 12) (hv : SlOk σ 9 B.nn nv) : ∀ j u, (#[.string n, .string o, .bool l, .bool m, .bool f, .bool h, .bool s, nv] : Array Value)[j]? = some u → CellOk σ B 37 j u := fun j u hu => by
  rcases j with _ | _ | _ | _ | _ | _ | _ | _ | j
  · simp at hu; subst hu; simp [CellOk, StOk]; exact hn
  · simp at hu; subst hu; simp [CellOk, StOk]; exact ho
  · simp at hu; subst hu; simp [CellOk, BoOk]
  · simp at hu; subst hu; simp [CellOk, BoOk]
  · simp at hu; subst hu; simp [CellOk, BoOk]
  · simp at hu; subst hu; simp [CellOk, BoOk]
  · simp at hu; subst hu; simp [CellOk, BoOk]
  · simp at hu; subst hu; simpa [CellOk] using hv
  · simp at hu
theorem typeCells (σ : Sh) (B : Bd) (n k : ByteArray) (fv : Value) (hn : n.size ≤ 12) (hsc : B.st = true → scalarB n = false) (hk : k.size ≤ 12) (hv : SlOk σ 37 B.nf fv) : ∀ j u, (#[.string n, .string k, fv] : Array Value)[j]? = some u → CellOk σ B 48 j u := fun j u hu => by
  rcases j with _ | _ | _ | j
  · simp at hu; subst hu; simp [CellOk, NmOk]; exact ⟨hn, hsc⟩
  · simp at hu; subst hu; simp [CellOk, StOk]; exact hk
  · simp at hu; subst hu; simpa [CellOk] using hv
  · simp at hu
theorem zeroT (σ : Sh) (B : Bd) : ∀ j u, (Value.agg #[.string ByteArray.empty, .string ByteArray.empty, .slice none 0 0]).cells[j]? = some u → CellOk σ B 48 j u := typeCells σ B _ _ _ (by decide) (fun _ => sc_empty) (by decide) (sl_nil _ _ _)
theorem zeroF (σ : Sh) (B : Bd) : ∀ j u, (Value.agg #[.string ByteArray.empty, .string ByteArray.empty, .bool false, .bool false, .bool false, .bool false, .bool false, .slice none 0 0]).cells[j]? = some u → CellOk σ B 37 j u := fieldCells σ B _ _ _ _ _ _ _ _ (by decide) (by decide) (sl_nil _ _ _)
theorem cells_one {σ : Sh} {B : Bd} {T : TypeId} {cs : Array Value} (hz : cs.size = wide T) (h : ∀ j u, cs[j]? = some u → CellOk σ B T j u) : ∀ k v, cs[k]? = some v → CellOk σ B T (k % wide T) v := fun k v hv => by
  have hk := (Array.getElem?_eq_some_iff.1 hv).1
  rw [hz] at hk
  rw [Nat.mod_eq_of_lt hk]
  exact h k v hv
theorem cells_list {σ : Sh} {B : Bd} {T : TypeId} {cs : Array Value} (hz : cs.size = wide T) (h : ∀ j u, cs[j]? = some u → CellOk σ B T j u) : ∀ k v, cs.toList[k]? = some v → CellOk σ B T (k % wide T) v := fun k v hv => cells_one hz h k v (by simpa using hv)
theorem sets2_cells {W : World} {N : Nat} {a b : Value} {T : TypeId} (h : W.heap[N]? = some (.cells #[a, b] T (0, 0))) (v0 v1 : Value) :
    ((W.setCell ⟨N, 0, none⟩ v0).setCell ⟨N, 1, none⟩ v1).cell? ⟨N, 0, none⟩ = some v0 ∧ ((W.setCell ⟨N, 0, none⟩ v0).setCell ⟨N, 1, none⟩ v1).cell? ⟨N, 1, none⟩ = some v1 := by
  have h2 := set_box (set_box h 0 v0) 1 v1
  exact ⟨(box_at h2 0 (by simp)).1, (box_at h2 1 (by simp)).1⟩
theorem needResult (FW : World) (tmps : Array Value) (N : Nat) (v0 v1 : Value) (h4 : tmps.getD 4 undef = .pointer (some ⟨N, 0, none⟩))
    (d0 : FW.cell? ⟨N, 0, none⟩ = some v0) (d1 : FW.cell? ⟨N, 1, none⟩ = some v1) :
    (results Try.f74 tmps).run Try.prog FW = .ok (.agg #[v0, v1]) FW := by
  simp only [Array.getD_eq_getD_getElem?] at h4
  simp [results, Try.results74, go_sem, h4, d0, d1]
theorem boxes2 {w w1 : World} {c1 c2 : Array Value} {T1 T2 : TypeId} (hb : Below ((w.alloc (.cells c1 T1)).alloc (.cells c2 T2)).heap.size ((w.alloc (.cells c1 T1)).alloc (.cells c2 T2)) w1) :
    w1.heap[w.heap.size]? = some (.cells c1 T1 (0, 0)) ∧ w1.heap[w.heap.size + 1]? = some (.cells c2 T2 (0, 0)) ∧ w.heap.size + 1 < w1.heap.size ∧ Below w.heap.size w w1 := by
  have hz := hb.size
  simp at hz
  refine ⟨(hb.block _ (by simp; omega)).trans ?_, (hb.block _ (by simp)).trans (block_new _ _ (by simp)), by omega, (below_box2 w _ _).trans (hb.mono (by simp; omega))⟩
  rw [(below_box _ _).block _ (by simp)]
  exact block_new _ _ rfl
def NeedEnd (w : World) (σ : Sh) (B : Bd) (s nm : ByteArray) (b len : Nat) (e : Ending) (w' : World) : Prop :=
  ∃ (σ' : Sh) (b' len' cap' : Nat), e = .returned (.agg #[.string s, .slice (some ⟨b', 0, none⟩) len' cap']) ∧ Wf w' σ' B ∧ Ext σ σ' ∧ (∀ x, x < w.heap.size → σ' x = σ x) ∧ Only (Hot σ) w w' ∧ len ≤ len' ∧ len' ≤ len + 1 ∧ len' ≤ cap' ∧ cap' ≤ maxLen ∧ σ' b' = some (48, cap') ∧ (∀ x, TN w b len x → TN w' b' len' x) ∧ (scalarB nm = false → TN w' b' len' nm)
theorem need_close {w W3 wP Wz : World} {σ σ' : Sh} {B : Bd} {s nm : ByteArray} {b len cap g cap' FB : Nat} (hW : Wf w σ B) (hb : σ b = some (48, cap)) (bw : Below w.heap.size w W3) (hF : w.heap.size + 1 < FB) (hF3 : FB < W3.heap.size)
    (q1 : Wf wP σ' B) (q2 : σ' g = some (48, cap')) (q3 : len + 1 ≤ cap') (q4 : cap' ≤ maxLen) (q5 : Ext (σ.add FB 37 1) σ') (q6 : ∀ x, x < W3.heap.size → σ' x = (σ.add FB 37 1) x) (q7 : W3.grownBy wP (some b))
    (q8 : ∀ j, j < len * 3 → wP.cell? ⟨g, j, none⟩ = W3.cell? ⟨b, j, none⟩) (q9 : wP.cell? ⟨g, len * 3 + 0, none⟩ = some (.string nm))
    (hz : ∀ x, x ≠ w.heap.size → x ≠ w.heap.size + 1 → Wz.heap[x]? = wP.heap[x]?) (hzs : Wz.heap.size = wP.heap.size) (ho : Wz.os = wP.os) (ht : Wz.tape = wP.tape) (hu : Wz.output = wP.output) :
    NeedEnd w σ B s nm b len (.returned (.agg #[.string s, .slice (some ⟨g, 0, none⟩) (len + 1) cap'])) Wz := by
  have hbl := hW.lt hb
  have hs3 := bw.size
  have hsg : ∀ x, x < w.heap.size → σ' x = σ x := fun x hx => by rw [q6 x (by omega), Sh.add_ne _ _ _ _ _ (by omega)]
  have n0 : σ' w.heap.size = none := by rw [q6 _ (by omega), Sh.add_ne _ _ _ _ _ (by omega)]; exact hW.fresh (Nat.le_refl _)
  have n1 : σ' (w.heap.size + 1) = none := by rw [q6 _ (by omega), Sh.add_ne _ _ _ _ _ (by omega)]; exact hW.fresh (by omega)
  have hk : ∀ x T n, σ' x = some (T, n) → Wz.heap[x]? = wP.heap[x]? := fun x T n hx => hz x (fun e => by subst e; rw [n0] at hx; cases hx) (fun e => by subst e; rw [n1] at hx; cases hx)
  have hgc : ∀ j, Wz.cell? ⟨g, j, none⟩ = wP.cell? ⟨g, j, none⟩ := fun j => World.cell?_of_block (a := ⟨g, j, none⟩) (hk _ _ _ q2)
  have hbc : ∀ j, W3.cell? ⟨b, j, none⟩ = w.cell? ⟨b, j, none⟩ := fun j => bw.cell (p := ⟨b, j, none⟩) hbl
  refine ⟨σ', g, len + 1, cap', rfl, q1.keep hk, (Sh.add_ext (hW.fresh (by omega))).trans q5, hsg, ⟨by rw [ho, q7.os, bw.os], by rw [ht, q7.tape, bw.tape], by rw [hu, q7.output, bw.output], by have := q7.size; omega, fun x hx hn => ?_⟩, by omega, by omega, q3, q4, q2, fun x hx => ?_, fun _ => ⟨len, by omega, ?_⟩⟩
  · rw [hz x (by omega) (by omega), q7.block x (by omega) (fun e => hn ⟨_, _, by cases e; exact hb, by decide⟩), bw.block x hx]
  · obtain ⟨i, hi, hc⟩ := hx
    exact ⟨i, by omega, by rw [hgc, q8 _ (by omega), hbc]; exact hc⟩
  · rw [hgc]; exact q9
set_option maxRecDepth 20000 in
set_option maxHeartbeats 1600000 in
theorem l11Need_any (w : World) (σ : Sh) (B : Bd) (s nm : ByteArray) (b len cap : Nat) (hW : Wf w σ B) (hs : s.size ≤ 12) (hb : σ b = some (48, cap)) (hl : len ≤ cap) (hcm : cap ≤ maxLen) (hN : len ≤ 100000) (hnm : nm.size ≤ 12) (hnn : B.nn ≤ 3) (hnf : B.nf ≤ 1000000) (hnf1 : 1 ≤ B.nf) :
    Calls Try.prog 74 #[.agg #[.string s, .slice (some ⟨b, 0, none⟩) len cap], .string nm] w (NeedEnd w σ B s nm b len) := by
  have hS := l2Scalar_any nm
  have HT : Hid (∀ W, Below w.heap.size w W → Calls Try.prog 46 #[.agg #[.string s, .slice (some ⟨b, 0, none⟩) len cap], .string nm] W fun e w' => ∃ k : Int, e = .returned (.int .i64 k) ∧ -1 ≤ k ∧ k < len ∧ (0 ≤ k ↔ TN w b len nm) ∧ Below W.heap.size W w') := hid_of fun W hWb => (l2Type_wf W σ B s nm b len cap (hW.below hWb) hs hb hl (by omega) hnn hnf).mono fun e w' ⟨k, h1, h2, h3, h4, h5⟩ => ⟨k, h1, h2, h3, h4.trans (by
      have : ∀ i, W.cell? ⟨b, i * 3, none⟩ = w.cell? ⟨b, i * 3, none⟩ := fun i => hWb.cell (p := ⟨b, i * 3, none⟩) (hW.lt hb)
      simp only [TN, this]), h5⟩
  have HSTAY : Hid (∀ W, Below w.heap.size w W → (scalarB nm = false → TN w b len nm) → NeedEnd w σ B s nm b len (.returned (.agg #[.string s, .slice (some ⟨b, 0, none⟩) len cap])) W) := hid_of fun W hWb htn => by
    have hc : ∀ i, W.cell? ⟨b, i * 3, none⟩ = w.cell? ⟨b, i * 3, none⟩ := fun i => hWb.cell (p := ⟨b, i * 3, none⟩) (hW.lt hb)
    exact ⟨σ, b, len, cap, rfl, hW.below hWb, Ext.refl _, fun _ _ => rfl, Only.of_below _ hWb, Nat.le_refl _, by omega, hl, hcm, hb, fun x hx => by simpa only [TN, hc] using hx, fun h => by simpa only [TN, hc] using htn h⟩
  cases hsc : scalarB nm
  case true =>
    rw [hsc] at hS
    go_enter Try.func74, Try.ntmps74
    go_wp2_with (go_at_call 45; refine (hS _).mono ?_; rintro e w' ⟨rfl, rfl⟩)
    refine bodyPost_ret (needResult _ _ (w.heap.size + 1) (.string s) (.slice (some ⟨b, 0, none⟩) len cap) rfl (by simp) (by simp)) rfl ?_
    exact HSTAY.out _ (below_box2 _ _ _) (fun h => by rw [hsc] at h; cases h)
  rw [hsc] at hS
  go_enter Try.func74, Try.ntmps74
  go_wp2_with (go_at_call 45; refine (hS _).mono ?_; rintro e w' ⟨rfl, rfl⟩)
  refine (HT.out _ (below_box2 _ _ _)).mono ?_
  rintro e w1 ⟨k, rfl, hk1, hk2, hk3, hb1⟩
  obtain ⟨pb, rb, hz1, bw⟩ := boxes2 hb1
  clear hb1
  obtain ⟨p0, -⟩ := box_at pb 0 (by simp)
  obtain ⟨p1, pf1⟩ := box_at pb 1 (by simp)
  obtain ⟨r0, rf0⟩ := box_at rb 0 (by simp)
  obtain ⟨r1, rf1⟩ := box_at rb 1 (by simp)
  simp only [List.getElem_toArray, List.getElem_cons_zero, List.getElem_cons_succ] at p0 p1 r0 r1
  have hlt1 : w.heap.size < w1.heap.size := by omega
  have A2 : ∀ o o', ((w1.alloc o).alloc o').cell? ⟨w.heap.size, 1, none⟩ = some (.slice (some ⟨b, 0, none⟩) len cap) := fun o o' => ((below_box2 w1 o o').cell (p := ⟨w.heap.size, 1, none⟩) hlt1).trans p1
  have A3 : ∀ o o' o'', (((w1.alloc o).alloc o').alloc o'').cell? ⟨w.heap.size, 1, none⟩ = some (.slice (some ⟨b, 0, none⟩) len cap) := fun o o' o'' => ((below_box _ _).cell (p := ⟨w.heap.size, 1, none⟩) (by simp; omega)).trans (A2 o o')
  have B3 : ∀ o o' o'', Below w.heap.size w (((w1.alloc o).alloc o').alloc o'') := fun o o' o'' => (bw.trans ((below_box2 w1 o o').mono (by omega))).alloc (by simp; omega) o''
  obtain ⟨iT, hiT, hzT, hsT, hbT⟩ := info_parts infoT
  have HEND : Hid (∀ W3 wP g cap' σ' FB, Below w.heap.size w W3 → w1.heap.size ≤ FB → FB < W3.heap.size → W3.heap[w.heap.size]? = w1.heap[w.heap.size]? → W3.heap[w.heap.size + 1]? = w1.heap[w.heap.size + 1]? → Wf wP σ' B → σ' g = some (48, cap') → len + 1 ≤ cap' → cap' ≤ maxLen → Ext (σ.add FB 37 1) σ' → (∀ x, x < W3.heap.size → σ' x = (σ.add FB 37 1) x) → W3.grownBy wP (some b) →
      (∀ j, j < len * 3 → wP.cell? ⟨g, j, none⟩ = W3.cell? ⟨b, j, none⟩) → wP.cell? ⟨g, len * 3 + 0, none⟩ = some (.string nm) →
      NeedEnd w σ B s nm b len (.returned (.agg #[.string s, .slice (some ⟨g, 0, none⟩) (len + 1) cap'])) (((wP.setCell ⟨w.heap.size, 1, none⟩ (.slice (some ⟨g, 0, none⟩) (len + 1) cap')).setCell ⟨w.heap.size + 1, 0, none⟩ (.string s)).setCell ⟨w.heap.size + 1, 1, none⟩ (.slice (some ⟨g, 0, none⟩) (len + 1) cap')) ∧
      wP.heap[w.heap.size]? = some (.cells #[.string s, .slice (some ⟨b, 0, none⟩) len cap] 25 (0, 0)) ∧ wP.heap[w.heap.size + 1]? = some (.cells #[.string ⟨#[]⟩, .slice none 0 0] 25 (0, 0)) ∧ w.heap.size + 1 < wP.heap.size) := hid_of fun W3 wP g cap' σ' FB b3 hF hF3 e0 e1 q1 q2 q3 q4 q5 q6 q7 q8 q9 => by
    have hbl := hW.lt hb
    have z3 := b3.size
    refine ⟨need_close hW hb b3 (by omega) hF3 q1 q2 q3 q4 q5 q6 q7 q8 q9 (fun x h0 h1 => ?_) (by simp [size_set]) rfl rfl rfl, ?_, ?_, ?_⟩
    · rw [Below.heap_setCell _ _ _ _ h1, Below.heap_setCell _ _ _ _ h1, Below.heap_setCell _ _ _ _ h0]
    · rw [q7.block _ (by omega) (by intro e; cases e; omega), e0]; exact pb
    · rw [q7.block _ (by omega) (by intro e; cases e; omega), e1]; exact rb
    · have := q7.size; omega
  by_cases htn : TN w b len nm
  · have hk4 := hk3.2 htn
    clear A2 A3 HEND
    go_wp2_with fail
    have hd := sets2_cells rb (.string s) (.slice (some ⟨b, 0, none⟩) len cap)
    refine bodyPost_ret (needResult _ _ (w.heap.size + 1) (.string s) (.slice (some ⟨b, 0, none⟩) len cap) rfl hd.1 hd.2) rfl ?_
    · exact HSTAY.out _ ((bw.setCell (by show w.heap.size ≤ w.heap.size + 1; omega) _).setCell (by show w.heap.size ≤ w.heap.size + 1; omega) _) (fun _ => htn)
  have hk4 : k < 0 := by
    have h : ¬ 0 ≤ k := fun h => htn (hk3.1 h)
    omega
  cases hno : (nm.toList == [110, 111, 116, 101])
  case true =>
    have WF : ∀ o o', Wf (((w1.alloc o).alloc (.cells #[.string ⟨#[98, 111, 100, 121]⟩, .string ⟨#[116, 101, 120, 116]⟩, .bool false, .bool true, .bool false, .bool false, .bool true, .slice none 0 0] 37)).alloc o') (σ.add (w1.heap.size + 1) 37 1) B ∧ Below w.heap.size w (((w1.alloc o).alloc (.cells #[.string ⟨#[98, 111, 100, 121]⟩, .string ⟨#[116, 101, 120, 116]⟩, .bool false, .bool true, .bool false, .bool false, .bool true, .slice none 0 0] 37)).alloc o') ∧ (((w1.alloc o).alloc (.cells #[.string ⟨#[98, 111, 100, 121]⟩, .string ⟨#[116, 101, 120, 116]⟩, .bool false, .bool true, .bool false, .bool false, .bool true, .slice none 0 0] 37)).alloc o').heap[w.heap.size]? = w1.heap[w.heap.size]? ∧ (((w1.alloc o).alloc (.cells #[.string ⟨#[98, 111, 100, 121]⟩, .string ⟨#[116, 101, 120, 116]⟩, .bool false, .bool true, .bool false, .bool false, .bool true, .slice none 0 0] 37)).alloc o').heap[w.heap.size + 1]? = w1.heap[w.heap.size + 1]? := fun o o' => by
      have hB : Below w1.heap.size w1 (((w1.alloc o).alloc (.cells #[.string ⟨#[98, 111, 100, 121]⟩, .string ⟨#[116, 101, 120, 116]⟩, .bool false, .bool true, .bool false, .bool false, .bool true, .slice none 0 0] 37)).alloc o') := (below_box2 w1 _ _).alloc (by simp; omega) _
      refine ⟨(hW.below (bw.trans (hB.mono (by omega)))).add (hW.fresh (by omega)) ?_ rfl (cells_one rfl (fieldCells _ _ ⟨#[98, 111, 100, 121]⟩ ⟨#[116, 101, 120, 116]⟩ false true false false true _ (by decide) (by decide) (sl_nil _ _ _))), bw.trans (hB.mono (by omega)), hB.block _ (by omega), hB.block _ (by omega)⟩
      rw [(below_box _ _).block _ (by simp)]
      exact block_new _ _ (by simp)
    have TOK := typeCells (σ.add (w1.heap.size + 1) 37 1) B nm ⟨#[]⟩ (.slice (some ⟨w1.heap.size + 1, 0, none⟩) 1 1) hnm (fun _ => hsc) (by decide) ⟨_, 1, 1, rfl, hnf1, by omega, by simp [maxLen], Or.inr ⟨_, rfl, Sh.add_self _ _ _ _⟩⟩
    have HWF := hid_of WF
    have HTOK := hid_of TOK
    clear WF TOK A3
    go_wp2_with (
      at_builtin
      (refine wpList_append_wf (HWF.out _ _).1 rfl _ _ 23 rfl 48 iT _ 56 Try.underlying23 hiT hzT hsT hbT rfl (zeroT _ _) (some ⟨b, 0, none⟩) len cap rfl hl hcm (Or.inr ⟨b, rfl, (Sh.add_ext (hW.fresh (by omega))) _ _ _ hb⟩) ⟨w1.heap.size + 1 + 1, 0, none⟩ 1 1 [.string nm, .string ⟨#[]⟩, .slice (some ⟨w1.heap.size + 1, 0, none⟩) 1 1] rfl rfl (World.news_of_block (block_new _ _ (by simp))) (by intro u hu; simp at hu; rcases hu with rfl | rfl | rfl <;> rfl) (cells_list (T := 48) (cs := #[.string nm, .string ⟨#[]⟩, .slice (some ⟨w1.heap.size + 1, 0, none⟩) 1 1]) rfl HTOK.out) (by omega) (by unfold maxLen; omega) (by omega) ?_)
      intro g cap' wP σ' q1 q2 q3 q4 q5 q6 q7 q8 q9
      (obtain ⟨hE, x0, x1, hzP⟩ := HEND.out _ wP g cap' σ' _ (HWF.out _ _).2.1 (by omega) (by simp) (HWF.out _ _).2.2.1 (HWF.out _ _).2.2.2 q1 q2 q3 q4 q5 q6 q7 (q8 b rfl) (q9 0 _ rfl))
      have HE := hid_of hE
      clear hE q1 q2 q5 q6 q7 q8 q9
      obtain ⟨y0, -⟩ := box_at x0 0 (by simp)
      obtain ⟨y1, yf1⟩ := box_at x0 1 (by simp)
      obtain ⟨u0, uf0⟩ := box_at x1 0 (by simp)
      obtain ⟨u1, uf1⟩ := box_at x1 1 (by simp)
      simp only [List.getElem_toArray, List.getElem_cons_zero, List.getElem_cons_succ] at y0 y1 u0 u1)
    have hd := sets2_cells ((Below.heap_setCell wP ⟨w.heap.size, 1, none⟩ (.slice (some ⟨g, 0, none⟩) (len + 1) cap') (w.heap.size + 1) (by show w.heap.size + 1 ≠ w.heap.size; omega)).trans x1) (.string s) (.slice (some ⟨g, 0, none⟩) (len + 1) cap')
    exact bodyPost_ret (needResult _ _ (w.heap.size + 1) (.string s) (.slice (some ⟨g, 0, none⟩) (len + 1) cap') rfl hd.1 hd.2) rfl HE.out
  case false =>
    have WF : ∀ o o1 o', Wf ((((w1.alloc o).alloc o1).alloc (.cells #[.string ⟨#[105, 100]⟩, .string ⟨#[105, 110, 116]⟩, .bool false, .bool true, .bool false, .bool false, .bool false, .slice none 0 0] 37)).alloc o') (σ.add (w1.heap.size + 1 + 1) 37 1) B ∧ Below w.heap.size w ((((w1.alloc o).alloc o1).alloc (.cells #[.string ⟨#[105, 100]⟩, .string ⟨#[105, 110, 116]⟩, .bool false, .bool true, .bool false, .bool false, .bool false, .slice none 0 0] 37)).alloc o') ∧ ((((w1.alloc o).alloc o1).alloc (.cells #[.string ⟨#[105, 100]⟩, .string ⟨#[105, 110, 116]⟩, .bool false, .bool true, .bool false, .bool false, .bool false, .slice none 0 0] 37)).alloc o').heap[w.heap.size]? = w1.heap[w.heap.size]? ∧ ((((w1.alloc o).alloc o1).alloc (.cells #[.string ⟨#[105, 100]⟩, .string ⟨#[105, 110, 116]⟩, .bool false, .bool true, .bool false, .bool false, .bool false, .slice none 0 0] 37)).alloc o').heap[w.heap.size + 1]? = w1.heap[w.heap.size + 1]? := fun o o1 o' => by
      have hB : Below w1.heap.size w1 ((((w1.alloc o).alloc o1).alloc (.cells #[.string ⟨#[105, 100]⟩, .string ⟨#[105, 110, 116]⟩, .bool false, .bool true, .bool false, .bool false, .bool false, .slice none 0 0] 37)).alloc o') := ((below_box2 w1 _ _).alloc (by simp; omega) _).alloc (by simp; omega) _
      refine ⟨(hW.below (bw.trans (hB.mono (by omega)))).add (hW.fresh (by omega)) ?_ rfl (cells_one rfl (fieldCells _ _ ⟨#[105, 100]⟩ ⟨#[105, 110, 116]⟩ false true false false false _ (by decide) (by decide) (sl_nil _ _ _))), bw.trans (hB.mono (by omega)), hB.block _ (by omega), hB.block _ (by omega)⟩
      rw [(below_box _ _).block _ (by simp)]
      exact block_new _ _ (by simp)
    have TOK := typeCells (σ.add (w1.heap.size + 1 + 1) 37 1) B nm ⟨#[105, 100]⟩ (.slice (some ⟨w1.heap.size + 1 + 1, 0, none⟩) 1 1) hnm (fun _ => hsc) (by decide) ⟨_, 1, 1, rfl, hnf1, by omega, by simp [maxLen], Or.inr ⟨_, rfl, Sh.add_self _ _ _ _⟩⟩
    have HWF := hid_of WF
    have HTOK := hid_of TOK
    clear WF TOK A2
    go_wp2_with (
      at_builtin
      (refine wpList_append_wf (HWF.out _ _ _).1 rfl _ _ 23 rfl 48 iT _ 56 Try.underlying23 hiT hzT hsT hbT rfl (zeroT _ _) (some ⟨b, 0, none⟩) len cap rfl hl hcm (Or.inr ⟨b, rfl, (Sh.add_ext (hW.fresh (by omega))) _ _ _ hb⟩) ⟨w1.heap.size + 1 + 1 + 1, 0, none⟩ 1 1 [.string nm, .string ⟨#[105, 100]⟩, .slice (some ⟨w1.heap.size + 1 + 1, 0, none⟩) 1 1] rfl rfl (World.news_of_block (block_new _ _ (by simp))) (by intro u hu; simp at hu; rcases hu with rfl | rfl | rfl <;> rfl) (cells_list (T := 48) (cs := #[.string nm, .string ⟨#[105, 100]⟩, .slice (some ⟨w1.heap.size + 1 + 1, 0, none⟩) 1 1]) rfl HTOK.out) (by omega) (by unfold maxLen; omega) (by omega) ?_)
      intro g cap' wP σ' q1 q2 q3 q4 q5 q6 q7 q8 q9
      (obtain ⟨hE, x0, x1, hzP⟩ := HEND.out _ wP g cap' σ' _ (HWF.out _ _ _).2.1 (by omega) (by simp) (HWF.out _ _ _).2.2.1 (HWF.out _ _ _).2.2.2 q1 q2 q3 q4 q5 q6 q7 (q8 b rfl) (q9 0 _ rfl))
      have HE := hid_of hE
      clear hE q1 q2 q5 q6 q7 q8 q9
      obtain ⟨y0, -⟩ := box_at x0 0 (by simp)
      obtain ⟨y1, yf1⟩ := box_at x0 1 (by simp)
      obtain ⟨u0, uf0⟩ := box_at x1 0 (by simp)
      obtain ⟨u1, uf1⟩ := box_at x1 1 (by simp)
      simp only [List.getElem_toArray, List.getElem_cons_zero, List.getElem_cons_succ] at y0 y1 u0 u1)
    have hd := sets2_cells ((Below.heap_setCell wP ⟨w.heap.size, 1, none⟩ (.slice (some ⟨g, 0, none⟩) (len + 1) cap') (w.heap.size + 1) (by show w.heap.size + 1 ≠ w.heap.size; omega)).trans x1) (.string s) (.slice (some ⟨g, 0, none⟩) (len + 1) cap')
    exact bodyPost_ret (needResult _ _ (w.heap.size + 1) (.string s) (.slice (some ⟨g, 0, none⟩) (len + 1) cap') rfl hd.1 hd.2) rfl HE.out
end Go.Proofs.Ytdohgkokoicjlaa
namespace Go.Proofs.Ytdohgkokoicjlaa
open Go.RowKit Go.Maps
def fcs (fn fo : ByteArray) (l m fr h sh : Bool) (na : Option Addr) (nl nc : Nat) : Array Value := #[.string fn, .string fo, .bool l, .bool m, .bool fr, .bool h, .bool sh, .slice na nl nc]
structure GSt (w : World) (σ : Sh) (B : Bd) (s : ByteArray) (fc : Array Value) (len0 : Nat) (nm : ByteArray) (wx : World) (σ1 : Sh) (B1 : Bd) (b1 len1 cap1 : Nat) : Prop where
  pbox : wx.heap[w.heap.size]? = some (.cells #[.string s, .slice (some ⟨b1, 0, none⟩) len1 cap1] 25 (0, 0))
  fbox : wx.heap[w.heap.size + 1]? = some (.cells fc 37 (0, 0))
  rbox : wx.heap[w.heap.size + 1 + 1]? = some (.cells #[.string ⟨#[]⟩, .slice none 0 0] 25 (0, 0))
  wf : Wf wx σ1 B1
  ext : Ext σ σ1
  old : ∀ x, x < w.heap.size → σ1 x = σ x
  n0 : σ1 w.heap.size = none
  n1 : σ1 (w.heap.size + 1) = none
  n2 : σ1 (w.heap.size + 1 + 1) = none
  only : Only (Hot σ) w wx
  size : w.heap.size + 1 + 1 < wx.heap.size
  le : len0 ≤ len1
  le2 : len1 ≤ len0 + 2
  lc : len1 ≤ cap1
  cm : cap1 ≤ maxLen
  blk : σ1 b1 = some (48, cap1)
  has : TN wx b1 len1 nm
theorem GSt.below {w : World} {σ : Sh} {B : Bd} {s : ByteArray} {fc : Array Value} {len0 : Nat} {nm : ByteArray} {wx wy : World} {σ1 : Sh} {B1 : Bd} {b1 len1 cap1 : Nat} (h : GSt w σ B s fc len0 nm wx σ1 B1 b1 len1 cap1) (hb : Below wx.heap.size wx wy) : GSt w σ B s fc len0 nm wy σ1 B1 b1 len1 cap1 := by
  have hz := h.size
  have hk := hb.size
  refine ⟨(hb.block _ (by omega)).trans h.pbox, (hb.block _ (by omega)).trans h.fbox, (hb.block _ (by omega)).trans h.rbox, h.wf.below hb, h.ext, h.old, h.n0, h.n1, h.n2, h.only.trans (Only.of_below _ hb) (fun _ _ q => q), by omega, h.le, h.le2, h.lc, h.cm, h.blk, ?_⟩
  obtain ⟨i, hi, hc⟩ := h.has
  exact ⟨i, hi, (hb.cell (p := ⟨b1, i * 3, none⟩) (h.wf.lt h.blk)).trans hc⟩
theorem GSt.drew {w : World} {σ : Sh} {B : Bd} {s : ByteArray} {fc : Array Value} {len0 : Nat} {nm : ByteArray} {wx : World} {σ1 : Sh} {B1 : Bd} {b1 len1 cap1 : Nat} (h : GSt w σ B s fc len0 nm wx σ1 B1 b1 len1 cap1) : GSt w σ B s fc len0 nm wx.drew σ1 B1 b1 len1 cap1 :=
  h.below ⟨rfl, rfl, rfl, Nat.le_refl _, fun _ _ => rfl⟩
theorem GSt.row {w : World} {σ : Sh} {B : Bd} {s : ByteArray} {fc : Array Value} {len0 : Nat} {nm : ByteArray} {wx : World} {σ1 : Sh} {B1 : Bd} {b1 len1 cap1 : Nat} (h : GSt w σ B s fc len0 nm wx σ1 B1 b1 len1 cap1) (k : Nat) (hk : k < len1) :
    ∃ (n ky : ByteArray) (fa : Option Addr) (fl fp : Nat), wx.cell? ⟨b1, k * 3, none⟩ = some (.string n) ∧ wx.cell? ⟨b1, k * 3 + 1, none⟩ = some (.string ky) ∧ wx.cell? ⟨b1, k * 3 + 2, none⟩ = some (.slice fa fl fp) ∧ wx.frozen? ⟨b1, k * 3 + 2, none⟩ = false ∧ n.size ≤ 12 ∧ ky.size ≤ 12 ∧ fl ≤ B1.nf ∧ fl ≤ fp ∧ fp ≤ maxLen ∧ ((fa = none ∧ fl = 0 ∧ fp = 0) ∨ ∃ b, fa = some ⟨b, 0, none⟩ ∧ σ1 b = some (37, fp)) := by
  have hk2 : k < cap1 := Nat.lt_of_lt_of_le hk h.lc
  obtain ⟨v0, c0, o0, -⟩ := h.wf.cell h.blk k 0 hk2 (by rw [wideT]; omega)
  obtain ⟨v1, c1, o1, -⟩ := h.wf.cell h.blk k 1 hk2 (by rw [wideT]; omega)
  obtain ⟨v2, c2, o2, f2⟩ := h.wf.cell h.blk k 2 hk2 (by rw [wideT]; omega)
  rw [wideT] at c0 c1 c2 f2
  obtain ⟨n, rfl, z0, -⟩ : NmOk B1.st v0 := by simpa [CellOk] using o0
  obtain ⟨ky, rfl, z1⟩ : StOk v1 := by simpa [CellOk] using o1
  obtain ⟨fa, fl, fp, rfl, q1, q2, q3, q4⟩ : SlOk σ1 37 B1.nf v2 := by simpa [CellOk] using o2
  exact ⟨n, ky, fa, fl, fp, c0, c1, c2, f2, z0, z1, q1, q2, q3, q4⟩
set_option maxHeartbeats 400000 in
theorem l2Field_wf (w : World) (σ : Sh) (B : Bd) (n ky nm : ByteArray) (fa : Option Addr) (fl fp : Nat) (hW : Wf w σ B) (hn : n.size ≤ 12) (hk : ky.size ≤ 12) (h1 : fl ≤ B.nf) (h2 : fl ≤ fp) (h3 : fp ≤ maxLen) (h4 : (fa = none ∧ fl = 0 ∧ fp = 0) ∨ ∃ b, fa = some ⟨b, 0, none⟩ ∧ σ b = some (37, fp)) (hnn : B.nn ≤ 3) (hnf : B.nf ≤ 1000000) :
    Calls Try.prog 47 #[.agg #[.string n, .string ky, .slice fa fl fp], .string nm] w fun e w' => ∃ k : Int, e = .returned (.int .i64 k) ∧ -1 ≤ k ∧ k < fl ∧ Below w.heap.size w w' := by
  obtain ⟨a, c, fs, e, hF, hc, hl, -⟩ := hW.fields (N := B.nf) ⟨fa, fl, fp, rfl, h1, h2, h3, h4⟩ hnf hnn
  simp only [Value.slice.injEq] at e
  obtain ⟨rfl, rfl, rfl⟩ := e
  refine (l2Field_any ⟨n, ky, fs⟩ w w.heap.size _ nm ⟨_, _, rfl, hF, hc, by simp only [maxLen]; omega, by simp only [maxLen]; omega⟩ (Nat.le_refl _)).mono fun e w' h => ?_
  obtain ⟨he, hbl⟩ := h
  refine ⟨_, he, ?_, ?_, hbl⟩
  all_goals rcases firstTo_cases (fun i => (fth fs i).name.toList == nm.toList) fs.length with ⟨hx, hno⟩ | ⟨g, hx, hg, hyes, -⟩
  all_goals simp only [hx]
  all_goals omega
theorem GSt.put {w : World} {σ : Sh} {B : Bd} {s : ByteArray} {fc : Array Value} {len0 : Nat} {nm : ByteArray} {wx : World} {σ1 : Sh} {B1 : Bd} {b1 len1 cap1 : Nat} (h : GSt w σ B s fc len0 nm wx σ1 B1 b1 len1 cap1) {N k : Nat} {T : TypeId} {n : Nat} (hN : σ1 N = some (T, n)) (hT : T ≠ 9) (v : Value) (hv : CellOk σ1 B1 T (k % wide T) v) (hk : N = b1 → k % 3 ≠ 0) :
    GSt w σ B s fc len0 nm (wx.setCell ⟨N, k, none⟩ v) σ1 B1 b1 len1 cap1 := by
  have hz := h.size
  have e0 : w.heap.size ≠ N := fun e => by subst e; rw [h.n0] at hN; cases hN
  have e1 : w.heap.size + 1 ≠ N := fun e => by subst e; rw [h.n1] at hN; cases hN
  have e2 : w.heap.size + 1 + 1 ≠ N := fun e => by subst e; rw [h.n2] at hN; cases hN
  refine ⟨(Below.heap_setCell _ _ _ _ e0).trans h.pbox, (Below.heap_setCell _ _ _ _ e1).trans h.fbox, (Below.heap_setCell _ _ _ _ e2).trans h.rbox, h.wf.set hN k v hv, h.ext, h.old, h.n0, h.n1, h.n2, h.only.set N k ?_ v, by rw [size_set]; omega, h.le, h.le2, h.lc, h.cm, h.blk, ?_⟩
  · rcases Nat.lt_or_ge N w.heap.size with q | q
    · exact Or.inl ⟨T, n, by rw [← h.old N q]; exact hN, hT⟩
    · exact Or.inr q
  · obtain ⟨i, hi, hc⟩ := h.has
    refine ⟨i, hi, ?_⟩
    by_cases e : b1 = N
    · subst e
      have hne : (⟨b1, k, none⟩ : Addr) ≠ ⟨b1, i * 3, none⟩ := fun e => by
        simp only [Addr.mk.injEq, true_and, and_true] at e
        have := hk rfl
        omega
      rw [World.cell?_setCell_other _ _ _ _ hne]
      exact hc
    · exact (World.cell?_of_block (a := ⟨b1, i * 3, none⟩) (Below.heap_setCell _ _ _ _ e)).trans hc
theorem GSt.le' {w : World} {σ : Sh} {B : Bd} {s : ByteArray} {fc : Array Value} {len0 : Nat} {nm : ByteArray} {wx : World} {σ1 : Sh} {B1 B2 : Bd} {b1 len1 cap1 : Nat} (h : GSt w σ B s fc len0 nm wx σ1 B1 b1 len1 cap1) (hB : B1.le B2) : GSt w σ B s fc len0 nm wx σ1 B2 b1 len1 cap1 :=
  ⟨h.pbox, h.fbox, h.rbox, h.wf.le hB, h.ext, h.old, h.n0, h.n1, h.n2, h.only, h.size, h.le, h.le2, h.lc, h.cm, h.blk, h.has⟩
theorem GSt.grow {w : World} {σ : Sh} {B : Bd} {s : ByteArray} {fc : Array Value} {len0 : Nat} {nm : ByteArray} {wx W wP : World} {σ1 σ' : Sh} {B1 : Bd} {b1 len1 cap1 : Nat} (h0 : GSt w σ B s fc len0 nm wx σ1 B1 b1 len1 cap1) (hB : Below wx.heap.size wx W) {fa : Option Addr} {fl fp : Nat} (h4 : (fa = none ∧ fl = 0 ∧ fp = 0) ∨ ∃ b, fa = some ⟨b, 0, none⟩ ∧ σ1 b = some (37, fp))
    (q1 : Wf wP σ' B1) (q5 : Ext σ1 σ') (q6 : ∀ x, x < W.heap.size → σ' x = σ1 x) (q7 : W.grownBy wP (Value.slice fa fl fp).ownBlock) : GSt w σ B s fc len0 nm wP σ' B1 b1 len1 cap1 := by
  have h := h0.below hB
  have hz := h.size
  have hzP := q7.size
  have hrow : ∀ k, (Value.slice fa fl fp).ownBlock = some k → σ1 k = some (37, fp) := fun k hk => by
    rcases h4 with ⟨rfl, -, -⟩ | ⟨b, rfl, hb⟩
    · cases hk
    · cases hk; exact hb
  have hk : ∀ x, x < W.heap.size → (∀ n, σ1 x ≠ some (37, n)) → wP.heap[x]? = W.heap[x]? := fun x hx hn => q7.block x hx (fun e => hn _ (hrow x e.symm))
  refine ⟨(hk _ (by omega) (fun n => by rw [h.n0]; simp)).trans h.pbox, (hk _ (by omega) (fun n => by rw [h.n1]; simp)).trans h.fbox, (hk _ (by omega) (fun n => by rw [h.n2]; simp)).trans h.rbox, q1, h.ext.trans q5, fun x hx => by rw [q6 x (by omega)]; exact h.old x hx, by rw [q6 _ (by omega)]; exact h.n0, by rw [q6 _ (by omega)]; exact h.n1, by rw [q6 _ (by omega)]; exact h.n2, h.only.grown q7 (fun k hk => ?_), by omega, h.le, h.le2, h.lc, h.cm, q5 _ _ _ h.blk, ?_⟩
  · rcases Nat.lt_or_ge k w.heap.size with q | q
    · exact Or.inl ⟨_, _, by rw [← h.old k q]; exact hrow k hk, by decide⟩
    · exact Or.inr q
  · obtain ⟨i, hi, hc⟩ := h.has
    exact ⟨i, hi, (World.cell?_of_block (a := ⟨b1, i * 3, none⟩) (hk b1 (h.wf.lt h.blk) (fun n => by rw [h.blk]; simp))).trans hc⟩
theorem GSt.app {w : World} {σ : Sh} {B : Bd} {s : ByteArray} {fc : Array Value} {len0 : Nat} {nm : ByteArray} {wP : World} {σ' : Sh} {B1 B2 : Bd} {b1 len1 cap1 : Nat} (h : GSt w σ B s fc len0 nm wP σ' B1 b1 len1 cap1) {g n c k : Nat} (hg : σ' g = some (37, c)) (hn : n ≤ c) (hc : c ≤ maxLen) (hB : B1.le B2) (hn2 : n ≤ B2.nf) :
    GSt w σ B s fc len0 nm (wP.setCell ⟨b1, k * 3 + 2, none⟩ (.slice (some ⟨g, 0, none⟩) n c)) σ' B2 b1 len1 cap1 := by
  refine (h.le' hB).put h.blk (by decide) _ ?_ (fun _ => by omega)
  rw [wideT, show (k * 3 + 2) % 3 = 2 by omega]
  have : SlOk σ' 37 B2.nf (.slice (some ⟨g, 0, none⟩) n c) := ⟨_, n, c, rfl, hn2, hn, hc, Or.inr ⟨g, rfl, hg⟩⟩
  simpa [CellOk] using this
theorem GSt.put8 {w : World} {σ : Sh} {B : Bd} {s : ByteArray} {fc : Array Value} {len0 : Nat} {nm : ByteArray} {wx : World} {σ1 : Sh} {B1 : Bd} {b1 len1 cap1 : Nat} (h : GSt w σ B s fc len0 nm wx σ1 B1 b1 len1 cap1) {N k n : Nat} (hN : σ1 N = some (37, n)) (fn fo : ByteArray) (l m fr hd sh : Bool) (nv : Value) (h1 : fn.size ≤ 12) (h2 : fo.size ≤ 12) (h3 : SlOk σ1 9 B1.nn nv) :
    GSt w σ B s fc len0 nm ((((((((wx.setCell ⟨N, k * 8, none⟩ (.string fn)).setCell ⟨N, k * 8 + 1, none⟩ (.string fo)).setCell ⟨N, k * 8 + 2, none⟩ (.bool l)).setCell ⟨N, k * 8 + 3, none⟩ (.bool m)).setCell ⟨N, k * 8 + 4, none⟩ (.bool fr)).setCell ⟨N, k * 8 + 5, none⟩ (.bool hd)).setCell ⟨N, k * 8 + 6, none⟩ (.bool sh)).setCell ⟨N, k * 8 + 7, none⟩ nv) σ1 B1 b1 len1 cap1 := by
  have hb : N ≠ b1 := fun e => by subst e; rw [h.blk] at hN; simp at hN
  have hm : ∀ j, j < 8 → (k * 8 + j) % wide 37 = j := fun j hj => by rw [wideF]; omega
  have hc := fieldCells σ1 B1 fn fo l m fr hd sh nv h1 h2 h3
  have q : ∀ j (hj : j < 8) v, (#[.string fn, .string fo, .bool l, .bool m, .bool fr, .bool hd, .bool sh, nv] : Array Value)[j]? = some v → CellOk σ1 B1 37 ((k * 8 + j) % wide 37) v := fun j hj v hv => by rw [hm j hj]; exact hc j v hv
  exact (((((((h.put hN (by decide) _ (q 0 (by omega) _ rfl) (fun e => absurd e hb)).put hN (by decide) _ (q 1 (by omega) _ rfl) (fun e => absurd e hb)).put hN (by decide) _ (q 2 (by omega) _ rfl) (fun e => absurd e hb)).put hN (by decide) _ (q 3 (by omega) _ rfl) (fun e => absurd e hb)).put hN (by decide) _ (q 4 (by omega) _ rfl) (fun e => absurd e hb)).put hN (by decide) _ (q 5 (by omega) _ rfl) (fun e => absurd e hb)).put hN (by decide) _ (q 6 (by omega) _ rfl) (fun e => absurd e hb)).put hN (by decide) _ (q 7 (by omega) _ rfl) (fun e => absurd e hb)
end Go.Proofs.Ytdohgkokoicjlaa
namespace Go.Proofs.Ytdohgkokoicjlaa
open Go.RowKit
theorem FsRep.at {w : World} {B : Nat} {fs : List F} {fa : Option Addr} (h : FsRep w (· < B) fs fa) (hB : B ≤ w.heap.size) (k : Nat) (hk : k < fs.length) : ∃ (b off : Nat) (na : Option Addr) (nc : Nat), fa = some ⟨b, off, none⟩ ∧
    FRep w (· < B) (fth fs k) (.agg #[.string (fth fs k).name, .string (fth fs k).of, .bool (fth fs k).list, .bool (fth fs k).must, .bool (fth fs k).far, .bool (fth fs k).hidden, .bool (fth fs k).shared, .slice na (fth fs k).needs.length nc]) ∧
    ∀ W, Below w.heap.size w W → W.cell? ⟨b, off + k * 8, none⟩ = some (.string (fth fs k).name) ∧ W.cell? ⟨b, off + k * 8 + 1, none⟩ = some (.string (fth fs k).of) ∧ W.cell? ⟨b, off + k * 8 + 2, none⟩ = some (.bool (fth fs k).list) ∧ W.cell? ⟨b, off + k * 8 + 3, none⟩ = some (.bool (fth fs k).must) ∧ W.cell? ⟨b, off + k * 8 + 4, none⟩ = some (.bool (fth fs k).far) ∧ W.cell? ⟨b, off + k * 8 + 5, none⟩ = some (.bool (fth fs k).hidden) ∧ W.cell? ⟨b, off + k * 8 + 6, none⟩ = some (.bool (fth fs k).shared) ∧ W.cell? ⟨b, off + k * 8 + 7, none⟩ = some (.slice na (fth fs k).needs.length nc) := by
  obtain ⟨-, C, hA, hr⟩ := h
  obtain ⟨b, off, rfl, hbB, hc⟩ := hA (by omega)
  have hkt := hr k hk
  obtain ⟨e0, e1, e2, e3, e4, e5, e6, na, nc, e7, -⟩ := (hr k hk).parts
  rw [e0, e1, e2, e3, e4, e5, e6, e7] at hkt
  refine ⟨b, off, na, nc, rfl, hkt, fun W hb => ?_⟩
  have hck : ∀ j, j < 8 → W.cell? ⟨b, off + k * 8 + j, none⟩ = some (C k j) := fun j hj => (hb.cell (p := ⟨b, off + k * 8 + j, none⟩) (by show b < _; omega)).trans (hc k hk j hj)
  have c0 : W.cell? ⟨b, off + k * 8, none⟩ = some (C k 0) := hck 0 (by omega)
  rw [c0, hck 1 (by omega), hck 2 (by omega), hck 3 (by omega), hck 4 (by omega), hck 5 (by omega), hck 6 (by omega), hck 7 (by omega), e0, e1, e2, e3, e4, e5, e6, e7]
  exact ⟨rfl, rfl, rfl, rfl, rfl, rfl, rfl, rfl⟩
def namesTo (ns : List ByteArray) (n : Nat) : Bool := (List.range n).all fun i => nameB (nth ns i)
theorem namesTo_succ (ns : List ByteArray) (n : Nat) : namesTo ns (n + 1) = (namesTo ns n && nameB (nth ns n)) := by simp [namesTo, List.range_succ]
def fieldNamesB (f : F) : Bool := nameB f.name && (scalarB f.of || nameB f.of) && namesTo f.needs f.needs.length
set_option maxHeartbeats 800000 in
theorem isFieldOfNames_any (f : F) (w : World) (B : Nat) (v : Value) (hR : FRep w (· < B) f v) (hB : B ≤ w.heap.size) :
    Calls Try.prog 79 #[v] w fun e w' => e = .returned (.bool (fieldNamesB f)) ∧ Below w.heap.size w w' := by
  obtain ⟨fn, of, l, m, fr, hi, sh, needs⟩ := f
  obtain ⟨na, nc, rfl, hS, hnc, hsn, hso, hb16⟩ := hR
  simp only at hS hnc hsn hso hb16
  have hN1 := fun w => isName_any fn w hsn
  have hL := fun w => isLeaf_any of w
  have hN2 := fun w => isName_any of w hso
  have HF : Hid (fieldNamesB ⟨fn, of, l, m, fr, hi, sh, needs⟩ = (nameB fn && (scalarB of || nameB of) && namesTo needs needs.length)) := rfl
  obtain ⟨h1, h2, h3⟩ := hS
  have h3' := h3
  unfold maxLen at h3'
  cases x1 : nameB fn
  · rw [x1] at hN1
    go_enter Try.func79, Try.ntmps79
    go_wp2_with (go_at_call_of 35 (Value.string fn); refine (hN1 _).mono ?_; rintro e w' ⟨rfl, rfl⟩)
    go_ret
    exact ⟨ret_bool (by rw [HF.out, x1]; rfl), below_box _ _⟩
  rw [x1] at hN1
  cases x2 : (scalarB of || nameB of)
  · have hs : scalarB of = false := by cases h : scalarB of <;> simp_all
    have hn : nameB of = false := by cases h : nameB of <;> simp_all
    rw [hs] at hL
    rw [hn] at hN2
    go_enter Try.func79, Try.ntmps79
    go_wp2_with (first | (go_at_call_of 35 (Value.string fn); refine (hN1 _).mono ?_; rintro e w' ⟨rfl, rfl⟩) | (go_at_call 78; refine (hL _).mono ?_; rintro e w' ⟨rfl, rfl⟩) | (go_at_call_of 35 (Value.string of); refine (hN2 _).mono ?_; rintro e w' ⟨rfl, rfl⟩))
    go_ret
    exact ⟨ret_bool (by rw [HF.out, x2]; simp), below_box _ _⟩
  have HE : Hid (fieldNamesB ⟨fn, of, l, m, fr, hi, sh, needs⟩ = namesTo needs needs.length) := by show _ = _; rw [HF.out, x1, x2]; rfl
  have key : ∀ b1 b2 : Bool, scalarB of = b1 → (b1 = false → nameB of = b2 ∧ b2 = true) → Calls Try.prog 79 #[.agg #[.string fn, .string of, .bool l, .bool m, .bool fr, .bool hi, .bool sh, .slice na needs.length nc]] w fun e w' => e = .returned (.bool (fieldNamesB ⟨fn, of, l, m, fr, hi, sh, needs⟩)) ∧ Below w.heap.size w w' := by
    intro b1 b2 hb1 hb2
    rw [hb1] at hL
    cases b1
    all_goals
      first | (obtain ⟨hn2, rfl⟩ := hb2 rfl; rw [hn2] at hN2; clear hn2) | skip
      clear hb2
      go_enter Try.func79, Try.ntmps79
      go_wp2_with (first | (go_at_call_of 35 (Value.string fn); refine (hN1 _).mono ?_; rintro e w' ⟨rfl, rfl⟩) | (go_at_call 78; refine (hL _).mono ?_; rintro e w' ⟨rfl, rfl⟩) | (go_at_call_of 35 (Value.string of); refine (hN2 _).mono ?_; rintro e w' ⟨rfl, rfl⟩))
      go_loop [24] (fun i => ∃ k : Nat, k ≤ needs.length ∧ i = .int .i64 k ∧ namesTo needs k = true) (fun i => needs.length - (intOf i).toNat)
      case atStart => exact ⟨0, Nat.zero_le _, rfl, rfl⟩
      case round =>
        obtain ⟨k, hk, rfl, hp⟩ := hrel
        have HP : Hid (namesTo needs k = true) := hp
        clear hp
        by_cases hlt : k < needs.length
        · obtain ⟨d, doff, rfl, hdB, hcc⟩ := h1 (by intro e; simp [e] at hlt)
          have hck : ∀ o, (w.alloc o).cell? ⟨d, doff + k, none⟩ = some (.string (nth needs k)) := fun o => ((below_box w o).cell (p := ⟨d, doff + k, none⟩) (by show d < _; omega)).trans (hcc k hlt)
          have hNk := fun w => isName_any (nth needs k) w (h2 k)
          clear hcc h1
          cases x3 : nameB (nth needs k)
          · rw [x3] at hNk
            have hres : Hid (namesTo needs needs.length = false) := all_false (k := k) hlt x3
            go_wp2_with (go_at_call 35; refine (hNk _).mono ?_; rintro e w' ⟨rfl, rfl⟩)
            go_ret
            exact ⟨ret_bool (by rw [HE.out, hres.out]), below_box _ _⟩
          · rw [x3] at hNk
            go_wp2_with (go_at_call 35; refine (hNk _).mono ?_; rintro e w' ⟨rfl, rfl⟩)
            go_round
            case rel => exact ⟨k + 1, by omega, by go_num, by rw [namesTo_succ, HP.out, x3]; rfl⟩
            case measure => simp [intOf]; omega
        · go_wp2_with fail
          go_ret
          have e : k = needs.length := by omega
          exact ⟨ret_bool (by rw [HE.out, ← e, HP.out]), below_box _ _⟩
  exact key (scalarB of) (nameB of) rfl fun h => ⟨rfl, by rw [h] at x2; simpa using x2⟩
def fieldsNamesTo (fs : List F) (n : Nat) : Bool := (List.range n).all fun i => fieldNamesB (fth fs i)
theorem fieldsNamesTo_succ (fs : List F) (n : Nat) : fieldsNamesTo fs (n + 1) = (fieldsNamesTo fs n && fieldNamesB (fth fs n)) := by simp [fieldsNamesTo, List.range_succ]
def rootTo (fs : List F) (n : Nat) : Bool := (List.range n).all fun i => !isT (fth fs i).of [113, 117, 101, 114, 121]
theorem rootTo_succ (fs : List F) (n : Nat) : rootTo fs (n + 1) = (rootTo fs n && !isT (fth fs n).of [113, 117, 101, 114, 121]) := by simp [rootTo, List.range_succ]
set_option maxHeartbeats 800000 in
theorem isTypeOfRoot_any (t : T) (w : World) (B : Nat) (v : Value) (hR : TRep w (· < B) t v) (hB : B ≤ w.heap.size) :
    Calls Try.prog 65 #[v] w fun e w' => e = .returned (.bool (!rootTo t.fields t.fields.length)) ∧ Below w.heap.size w w' := by
  obtain ⟨name, key, fields⟩ := t
  obtain ⟨fa, fc, rfl, hK, hnc, hn, ho⟩ := hR
  simp only at hK hnc hn ho ⊢
  have h3 := hK.1
  go_enter Try.func65, Try.ntmps65
  go_wp2_with fail
  go_loopw [8] (fun i wr => ∃ k : Nat, k ≤ fields.length ∧ i = .int .i64 k ∧ Below w.heap.size w wr ∧ rootTo fields k = true) (fun i _ => fields.length - (intOf i).toNat)
  case atStart => exact ⟨0, Nat.zero_le _, rfl, below_box _ _, rfl⟩
  case round =>
    obtain ⟨k, hk, rfl, hbw, hp⟩ := hrel
    have HP : Hid (rootTo fields k = true) := hp
    clear hp
    have hz := hbw.size
    by_cases hlt : k < fields.length
    · obtain ⟨b, off, na, nc, rfl, -, hcs⟩ := hK.at hB k hlt
      obtain ⟨c0, c1, c2, c3, c4, c5, c6, c7⟩ := hcs wr hbw
      clear hcs
      cases x1 : ((fth fields k).of.toList == [113, 117, 101, 114, 121])
      · go_wp2_with fail
        go_roundw
        case rel => exact ⟨k + 1, by omega, by go_num, hbw.alloc hz _, by rw [rootTo_succ, HP.out]; simp [isT, x1]⟩
        case measure => simp [intOf]; omega
      · have hres : Hid (rootTo fields fields.length = false) := all_false (k := k) hlt (by simp [isT, x1])
        go_wp2_with fail
        go_ret
        exact ⟨ret_bool (by rw [hres.out]; rfl), hbw.alloc hz _⟩
    · go_wp2_with fail
      go_ret
      have e : k = fields.length := by omega
      exact ⟨ret_bool (by rw [← e, HP.out]; rfl), hbw⟩
end Go.Proofs.Ytdohgkokoicjlaa
