import Derived.Test.YtmeopghhgpbhpaaDoorJ4
namespace Go.Proofs.YtmeopghhgpbhpaaDoor
set_option linter.unusedSimpArgs false
set_option linter.unusedVariables false
open Go.RowKit Go.Shelf Go.Maps

theorem cutL_len : ∀ l : List UInt8, (cutL l).length ≤ l.length + 1
  | [] => by simp [cutL]
  | c :: l => by
    have ih := cutL_len l
    unfold cutL
    split
    · simpa using ih
    · split
      · simp
      · rename_i h t e
        rw [e] at ih
        simp at ih ⊢
        omega
theorem cnt_list (f : Nat) (ks : List Se) : cntTo f ks ks.length = (ks.map (cntSe f)).sum := by
  have h : ∀ n, n ≤ ks.length → cntTo f ks n = ((ks.take n).map (cntSe f)).sum := by
    intro n
    induction n with
    | zero => intro _; simp [cntTo]
    | succ n ih =>
      intro hn
      rw [cntTo_succ, ih (by omega), ← sth_take ks n (by omega), List.map_append, List.sum_append]
      simp
  rw [h _ (Nat.le_refl _), List.take_length]
theorem fit_mem {f : Nat} {ks : List Se} : FitS (f + 1) ks ↔ ∀ x ∈ ks, FitS f x.kids := by
  constructor
  · intro h x hx
    obtain ⟨i, hi, e⟩ := List.mem_iff_getElem.1 hx
    have := h i hi
    have es : sth ks i = x := by simp [sth, List.getD_eq_getElem?_getD, hi, e]
    rwa [es] at this
  · intro h i hi
    have es : sth ks i = ks[i] := by simp [sth, List.getD_eq_getElem?_getD, hi]
    rw [es]
    exact h _ (List.getElem_mem hi)
theorem sth_mem {ks : List Se} {i : Nat} (hi : i < ks.length) : sth ks i ∈ ks := by
  have es : sth ks i = ks[i] := by simp [sth, List.getD_eq_getElem?_getD, hi]
  rw [es]
  exact List.getElem_mem hi
/-- What is left has no more levels. -/
theorem lessM_fit : ∀ (f : Nat) (wy : List (List UInt8)) (ks : List Se) (n : Nat), n ≤ ks.length → FitS f ks → FitS f (lessM f wy ks n)
  | 0, wy, ks, n, hn, hf => by simp [lessM, FitS]
  | f + 1, wy, ks, 0, hn, hf => by simp [lessM, FitS]
  | f + 1, wy, ks, n + 1, hn, hf => by
    have h1 := fit_mem.1 (lessM_fit (f + 1) wy ks n (by omega) hf)
    have h2 := lessM_fit f wy.tail (sth ks n).kids _ (Nat.le_refl _) (hf n (by omega))
    rw [lessM_succ, fit_mem]
    intro x hx
    rcases List.mem_append.1 hx with hx | hx
    · exact h1 x hx
    · unfold oneM at hx
      split at hx
      · split at hx
        · cases hx
        · split at hx
          · rw [List.mem_singleton.1 hx]; exact h2
          · cases hx
      · rw [List.mem_singleton.1 hx]; exact hf n (by omega)
/-- What is left has no more fields. -/
theorem lessM_cnt : ∀ (f : Nat) (wy : List (List UInt8)) (ks : List Se) (n : Nat), ((lessM f wy ks n).map (cntSe f)).sum ≤ cntTo f ks n
  | 0, wy, ks, n => by simp [lessM]
  | f + 1, wy, ks, 0 => by simp [lessM]
  | f + 1, wy, ks, n + 1 => by
    have h1 := lessM_cnt (f + 1) wy ks n
    have h2 := lessM_cnt f wy.tail (sth ks n).kids (sth ks n).kids.length
    rw [lessM_succ, cntTo_succ, List.map_append, List.sum_append]
    have h3 : ((oneM wy (sth ks n) (lessM f wy.tail (sth ks n).kids (sth ks n).kids.length)).map (cntSe (f + 1))).sum ≤ cntSe (f + 1) (sth ks n) := by
      unfold oneM
      split
      · split
        · simp
        · split
          · simp only [List.map_cons, List.map_nil, List.sum_cons, List.sum_nil]
            rw [cntSe_kids, cntSe_kids, cnt_list]
            simp only [Se.sub]
            omega
          · simp
      · simp
    omega
theorem NewS.nil (w w1 : World) (h : Below w.heap.size w w1) (c : Nat) (a : Option Addr) : NewS 0 w [] (.returned (.slice a 0 c)) w1 := ⟨a, c, rfl, ⟨by simp, fun _ _ => .bool false, fun hn => by simp at hn, fun i hi => by simp at hi⟩, h⟩

set_option maxHeartbeats 800000 in
theorem AskLessS_any (f : Nat) (ks : List Se) (wy : ByteArray) (w : World) (B : Nat) (ka : Option Addr) (kc : Nat) (hf : FitS f ks) (hwy : wy.size ≤ 1048576) (hR : SeReps w (· < B) ks ka) (hB : B ≤ w.heap.size) :
    Calls Tryd.prog 26 #[.slice ka ks.length kc, .string wy] w fun e w' => NewS 0 w (askLess f ks wy.toList) e w' := by
  have HO := hid_of (AskOkS_any f ks w B ka kc hf hR hB)
  cases ho : askOk f ks
  · rw [ho] at HO
    have HE : Hid (askLess f ks wy.toList = []) := hid_of (by rw [askLess, ho]; rfl)
    go_enter Tryd.func26, Tryd.ntmps26
    go_wp2_with fail
    refine HO.out.mono ?_
    rintro e w1 ⟨rfl, hb1⟩
    go_wp2_with fail
    go_ret
    rw [HE.out]
    exact NewS.nil w _ (hb1.trans ((below_box w1 _).mono hb1.size)) _ _
  · rw [ho] at HO
    have HE : Hid (askLess f ks wy.toList = lessM f (cutL wy.toList) ks ks.length) := hid_of (by rw [askLess, ho]; rfl)
    have hc : cntTo f ks ks.length ≤ 1000000 := by
      simp only [askOk, askB, Bool.and_eq_true, decide_eq_true_eq] at ho
      omega
    have HC := hid_of (fun W => l2Cut_any wy W hwy)
    have HL := hid_of (fun (t : ByteArray) (ts : List ByteArray) W (g c : Nat) (hW : Below w.heap.size w W) (hA : WayAt W W.heap.size g 0 (t :: ts)) (h1 : ts.length + 1 ≤ 2000000) (h2 : ts.length + 1 ≤ c) => l12Less_any f ks t ts W W.heap.size g 0 c ka kc hf hc ((hR.under (hW.mono hB)).sub fun b hb => by have := hW.size; omega) hA h1 h2 (Nat.le_refl _))
    have HF := hid_of (lessM_fit f (cutL wy.toList) ks _ (Nat.le_refl _) hf)
    have hcl : cntTo f (lessM f (cutL wy.toList) ks ks.length) (lessM f (cutL wy.toList) ks ks.length).length ≤ 1000000 := by
      rw [cnt_list]
      exact Nat.le_trans (lessM_cnt f _ ks _) hc
    have HCL := hid_of hcl
    clear hcl
    have hwl : wy.toList.length = wy.size := by rw [ByteArray.toList_eq]; simp
    have HLN := hid_of (show (cutL wy.toList).length ≤ 1048577 by have := cutL_len wy.toList; omega)
    clear hwl
    go_enter Tryd.func26, Tryd.ntmps26
    go_wp2_with fail
    refine HO.out.mono ?_
    rintro e w1 ⟨rfl, hb1⟩
    go_wp2_with fail
    refine (HC.out w1).mono ?_
    rintro e w2 ⟨ts0, v, rfl, ⟨g, cap, rfl, hr⟩, ht, hb2⟩
    cases hts : ts0 with
    | nil => rw [hts] at ht; exact absurd ht.symm (cutL_ne _)
    | cons t ts =>
      subst hts
      have hb12 := hb1.trans (hb2.mono hb1.size)
      have hln : ts.length + 1 ≤ 2000000 := by
        have := congrArg List.length ht
        have h2 := HLN.out
        rw [← this] at h2
        simp at h2
        omega
      have hgc : g < w2.heap.size ∧ ts.length + 1 ≤ cap := by
        rcases hr.2 with ⟨e, -⟩ | ⟨g', cap', cur, e, -, hh, hn, -⟩
        · cases e
        · simp only [Value.slice.injEq, Option.some.injEq, Addr.mk.injEq, and_true, true_and] at e
          obtain ⟨rfl, rfl⟩ := e
          exact ⟨(Array.getElem?_eq_some_iff.1 hh).1, by simpa using hn⟩
      have hA : WayAt w2 w2.heap.size g 0 (t :: ts) := ⟨hgc.1, fun i hi => by
        rw [Nat.zero_add, hr.cellAt i (by omega), List.getElem?_map]
        simp only [nth, List.getD_eq_getElem?_getD, List.getElem?_eq_getElem hi, Option.getD_some, Option.map_some]⟩
      have HLL := hid_of (HL.out t ts w2 g cap hb12 hA hln hgc.2)
      rw [ht] at HLL
      generalize hKK : lessM f (cutL wy.toList) ks ks.length = K at *
      clear hA hgc hr ht hKK
      rw [show (t :: ts).length = ts.length + 1 from rfl]
      go_wp2_with fail
      refine HLL.out.mono ?_
      rintro e w3 ⟨a3, c3, rfl, hR3, hb3⟩
      have HCP := hid_of (l3Copy_any f K w3 _ a3 c3 HF.out HCL.out hR3 (fun b hb => by have := hb3.size; rcases hb with hb | hb <;> omega))
      clear hR3
      go_wp2_with fail
      refine HCP.out.mono ?_
      rintro e w4 ⟨a4, c4, rfl, hR4, hb4⟩
      have HR4 := hid_of hR4
      clear hR4
      go_wp2_with fail
      go_ret
      have hb13 := hb12.trans (hb3.mono hb12.size)
      refine ⟨a4, c4, by rw [HE.out]; rfl, ?_, hb13.trans (hb4.mono hb13.size)⟩
      rw [HE.out]
      exact HR4.out.sub fun b hq => hq.imp id fun h => ⟨Nat.le_trans hb13.size h.1, h.2⟩
end Go.Proofs.YtmeopghhgpbhpaaDoor

namespace Go.Proofs.YtmeopghhgpbhpaaDoor
set_option linter.unusedSimpArgs false
set_option linter.unusedVariables false
open Go.RowKit Go.Shelf Go.Maps

/-- The five cells of a field. -/
def Cells5 (w : World) (g o : Nat) (s : Se) (a : Option Addr) (c : Nat) : Prop :=
  w.cell? ⟨g, o, none⟩ = some (.string s.al) ∧ w.cell? ⟨g, o + 1, none⟩ = some (.string s.name) ∧ w.cell? ⟨g, o + 2, none⟩ = some (.bool s.one) ∧ w.cell? ⟨g, o + 3, none⟩ = some (.int .i64 s.id) ∧ w.cell? ⟨g, o + 4, none⟩ = some (.slice a s.kids.length c)
/-- A tree in blocks of a set, each list in a block of its own; so many levels at most. -/
def OwnT : Nat → World → (Nat → Prop) → List Se → Option Addr → Prop
  | 0, _, _, ks, _ => ks = []
  | f + 1, w, Q, ks, a => ks.length ≤ 1000000 ∧ (0 < ks.length → ∃ (g : Nat) (R : Nat → Nat → Prop) (A : Nat → Option Addr) (c : Nat → Nat), a = some ⟨g, 0, none⟩ ∧ Q g ∧ (∀ j, w.frozen? ⟨g, j, none⟩ = false) ∧
      (∀ i, i < ks.length → ∀ b, R i b → Q b ∧ b ≠ g) ∧ (∀ i j, i < ks.length → j < ks.length → i ≠ j → ∀ b, R i b → ¬ R j b) ∧
      ∀ i, i < ks.length → Cells5 w g (i * 5) (sth ks i) (A i) (c i) ∧ (sth ks i).al.size ≤ maxLen ∧ (sth ks i).name.size ≤ maxLen ∧ OwnT f w (R i) (sth ks i).kids (A i))
theorem Cells5.keep {w w' : World} {g o : Nat} {s : Se} {a : Option Addr} {c : Nat} (h : Cells5 w g o s a c) (e : w'.heap[g]? = w.heap[g]?) : Cells5 w' g o s a c :=
  ⟨(World.cell?_of_block (a := ⟨g, o, none⟩) e).trans h.1, (World.cell?_of_block (a := ⟨g, o + 1, none⟩) e).trans h.2.1, (World.cell?_of_block (a := ⟨g, o + 2, none⟩) e).trans h.2.2.1, (World.cell?_of_block (a := ⟨g, o + 3, none⟩) e).trans h.2.2.2.1, (World.cell?_of_block (a := ⟨g, o + 4, none⟩) e).trans h.2.2.2.2⟩
theorem OwnT.keep : ∀ {f : Nat} {w w' : World} {Q : Nat → Prop} {ks : List Se} {a : Option Addr}, OwnT f w Q ks a → (∀ b, Q b → w'.heap[b]? = w.heap[b]?) → OwnT f w' Q ks a
  | 0, _, _, _, _, _, h, _ => h
  | f + 1, w, w', Q, ks, a, h, e => ⟨h.1, fun hn => by
    obtain ⟨g, R, A, c, h1, h2, h3, h4, h5, h6⟩ := h.2 hn
    refine ⟨g, R, A, c, h1, h2, fun j => (World.frozen?_of_block (a := ⟨g, j, none⟩) (e g h2)).trans (h3 j), h4, h5, fun i hi => ?_⟩
    obtain ⟨k1, k2, k3, k4⟩ := h6 i hi
    exact ⟨k1.keep (e g h2), k2, k3, k4.keep fun b hb => e b (h4 i hi b hb).1⟩⟩
theorem looks_own (f : Nat) : Looks (OwnT f) := fun w w' Q ks a h e => h.keep e
theorem OwnT.reps : ∀ {f : Nat} {w : World} {Q : Nat → Prop} {ks : List Se} {a : Option Addr}, OwnT f w Q ks a → SeReps w Q ks a
  | 0, w, Q, ks, a, h => by
    have e : ks = [] := h
    subst e
    exact ⟨by simp, fun _ _ => .bool false, fun hn => by simp at hn, fun i hi => by simp at hi⟩
  | f + 1, w, Q, ks, a, h => by
    by_cases hn : 0 < ks.length
    · obtain ⟨g, R, A, c, rfl, h2, h3, h4, h5, h6⟩ := h.2 hn
      refine ⟨by have := h.1; omega, fun i j => [Value.string (sth ks i).al, .string (sth ks i).name, .bool (sth ks i).one, .int .i64 (sth ks i).id, .slice (A i) (sth ks i).kids.length (c i)].getD j (.bool false), fun _ => ⟨g, 0, rfl, h2, fun i hi j hj => ?_⟩, fun i hi => ?_⟩
      · obtain ⟨⟨k0, k1, k2, k3, k4⟩, -⟩ := h6 i hi
        rw [Nat.zero_add]
        rcases j with _ | _ | _ | _ | _ | j
        · exact k0
        · exact k1
        · exact k2
        · exact k3
        · exact k4
        · omega
      · obtain ⟨-, k2, k3, k4⟩ := h6 i hi
        have hk := (OwnT.reps k4).sub fun b hb => (h4 i hi b hb).1
        show SeRep w Q (sth ks i) (.agg #[.string (sth ks i).al, .string (sth ks i).name, .bool (sth ks i).one, .int .i64 (sth ks i).id, .slice (A i) (sth ks i).kids.length (c i)])
        generalize sth ks i = s at *
        have hfin := SeRep.of_kids (s := s.al) (n := s.name) (o := s.one) (id := s.id) (kc := c i) k2 k3 hk
        obtain ⟨x1, x2, x3, x4, x5⟩ := s
        exact hfin
    · have e : ks = [] := by
        cases ks with
        | nil => rfl
        | cons x l => simp at hn
      subst e
      exact ⟨by simp, fun _ _ => .bool false, fun hn => by simp at hn, fun i hi => by simp at hi⟩
/-- A list that a call has gathered, each field's kids in blocks of their own: a tree of its own. -/
theorem RowP.own {f base : Nat} {es : List El} {v : Value} {w : World} (h : RowP (OwnT f) base es v w) (hl : es.length ≤ 1000000) (hs : ∀ e ∈ es, e.s.al.size ≤ maxLen ∧ e.s.name.size ≤ maxLen) (hap : es.Pairwise fun x y => ∀ b, x.Q b → ¬ y.Q b) (Q : Nat → Prop)
    (hQ : ∀ b, (base ≤ b ∧ b < w.heap.size) → Q b) (hQe : ∀ e ∈ es, ∀ b, e.Q b → Q b) : ∃ a c, v = .slice a es.length c ∧ OwnT (f + 1) w Q (es.map El.s) a := by
  rcases h.row.2 with ⟨rfl, h0⟩ | ⟨g, cap, cur, rfl, hb, hh, r⟩
  · have e : es = [] := List.length_eq_zero_iff.1 h0
    subst e
    exact ⟨none, 0, rfl, by simp, fun hn => by simp at hn⟩
  · refine ⟨_, _, rfl, by simpa using hl, fun hn => ⟨g, fun i => if hi : i < es.length then es[i].Q else fun _ => False, fun i => if hi : i < es.length then es[i].ka else none, fun i => if hi : i < es.length then es[i].kc else 0, rfl, hQ g ⟨hb, (Array.getElem?_eq_some_iff.1 hh).1⟩, fun j => h.row.frozenAt j, fun i hi b hq => ?_, fun i j hi hj hij b hq hq2 => ?_, fun i hi => ?_⟩⟩
    · have hi' : i < es.length := by simpa using hi
      simp only [dif_pos hi'] at hq
      have hm := List.getElem_mem hi'
      exact ⟨hQe _ hm b hq, fun e => ((h.kid _ hm).2 b hq).2 (by rw [e]; rfl)⟩
    · have hi' : i < es.length := by simpa using hi
      have hj' : j < es.length := by simpa using hj
      simp only [dif_pos hi'] at hq
      simp only [dif_pos hj'] at hq2
      rw [List.pairwise_iff_getElem] at hap
      rcases Nat.lt_or_gt_of_ne hij with h1 | h1
      · exact hap i j hi' hj' h1 b hq hq2
      · exact hap j i hj' hi' h1 b hq2 hq
    · have hi' : i < es.length := by simpa using hi
      have hm := List.getElem_mem hi'
      have es1 : sth (es.map El.s) i = es[i].s := by simp [sth, List.getD_eq_getElem?_getD, hi']
      have hc : ∀ j, j < 5 → w.cell? ⟨g, i * 5 + j, none⟩ = (es[i]).cells[j]? := fun j hj => by rw [h.row.cellAt (i * 5 + j) (by omega), flat5 es i j hi' hj]
      simp only [dif_pos hi', es1]
      exact ⟨⟨hc 0 (by omega), hc 1 (by omega), hc 2 (by omega), hc 3 (by omega), hc 4 (by omega)⟩, (hs _ hm).1, (hs _ hm).2, (h.kid _ hm).1⟩
end Go.Proofs.YtmeopghhgpbhpaaDoor
