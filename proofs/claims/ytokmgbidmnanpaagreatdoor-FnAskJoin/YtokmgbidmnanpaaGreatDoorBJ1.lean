import Derived.Test.YtokmgbidmnanpaaGreatDoorB40
import Derived.Test.YtokmgbidmnanpaaGreatDoorB25
import Derived.Test.YtokmgbidmnanpaaGreatDoorB32
import Derived.Test.YtokmgbidmnanpaaGreatDoorB26
import Derived.Maps.AppendAt
import Derived.Test.YtokmgbidmnanpaaGreatDoorB29
import Derived.Test.YtokmgbidmnanpaaGreatDoorB13
import Derived.Test.YtokmgbidmnanpaaGreatDoorB1
import Derived.Deep.QuietTactic
import Derived.BigQuiet
set_option linter.unusedSimpArgs false
set_option linter.unusedVariables false
namespace Go.Proofs.YtokmgbidmnanpaaGreatDoor
open Go.RowKit Go.Shelf Go.Maps
theorem all_of_parts (w1 : World) (rb cb : Nat) : ∀ w2 σ c q pb pc ps n, PSt w1 rb cb n w2 σ c q pb pc ps → n ≤ 3 → c ≤ 56 → Calls Tryz.prog 54 #[.slice (some ⟨pb, 0, none⟩) n pc] w2 fun e w' => ∃ (p : Pt) (v : Value), e = .returned v ∧ PRep w' (fun b => b < w'.heap.size ∧ b ≠ rb) p v ∧ szP p ≤ 1048576 ∧ FldOk p ∧ 0 < p.types.length ∧ Below w2.heap.size w2 w' := fun w2 σ c q pb pc ps n hP h3 hc => by
  obtain ⟨qs, hql, hqs, hqz⟩ := hP.list h3 hc
  subst hql
  exact (l11All_any qs w2 w2.heap.size (some ⟨pb, 0, none⟩) pc (hqs.sub fun b hb => hb.2) (Nat.le_refl _) (fun i hi => Nat.le_trans (hqz i hi) (by omega))).mono fun e w' h => h.apart (Nat.le_refl _) hP.rd
theorem askIn_drawn {F L m : Nat} {ks : List Se} {a : Option Addr} {w : World} (hF : F ≤ 1000000000) (hTr : Tr m F ks) (hSA : SA w L ks a) (hT : Tab w.heap.size w) : AskIn F ks (fun b => L ≤ b ∧ b < w.heap.size ∧ Apart w b) w.heap.size a w :=
  ⟨hTr.fit, hTr.small F, hF, hSA, fun b hb => hb.2, Nat.le_refl _, hT⟩
end Go.Proofs.YtokmgbidmnanpaaGreatDoor
namespace Go.Proofs.YtokmgbidmnanpaaGreatDoor
open Go.RowKit Go.Shelf Go.Maps
def alikeS (x s : Se) : Bool := (x.name.toList == s.name.toList) && (x.one == s.one) && (x.id == s.id) && (x.kids.isEmpty == s.kids.isEmpty)
def mateS (out : List Se) (k : ByteArray) : Option Nat := out.findIdx? fun x => (keyS x).toList == k.toList
theorem mateS_some {out : List Se} {k : ByteArray} {i : Nat} : mateS out k = some i ↔ i < out.length ∧ (keyS (sth out i)).toList = k.toList ∧ ∀ j, j < i → (keyS (sth out j)).toList ≠ k.toList := by
  unfold mateS
  rw [List.findIdx?_eq_some_iff_getElem]
  constructor
  · rintro ⟨h, h1, h2⟩
    refine ⟨h, by rw [sth_get h]; simpa using h1, fun j hj => by rw [sth_get (by omega)]; simpa using h2 j hj⟩
  · rintro ⟨h, h1, h2⟩
    refine ⟨h, by rw [sth_get h] at h1; simpa using h1, fun j hj => by have := h2 j hj; rw [sth_get (by omega)] at this; simpa using this⟩
theorem mateS_none {out : List Se} {k : ByteArray} : mateS out k = none ↔ ∀ i, i < out.length → (keyS (sth out i)).toList ≠ k.toList := by
  unfold mateS
  rw [List.findIdx?_eq_none_iff]
  constructor
  · intro h i hi
    have := h _ (List.getElem_mem hi)
    rw [sth_get hi]; simpa using this
  · intro h x hx
    obtain ⟨i, hi, rfl⟩ := List.mem_iff_getElem.1 hx
    have := h i hi
    rw [sth_get hi] at this; simpa using this
def stepJ (rec : List Se → List Se → Option (List Se)) (out : List Se) (s : Se) : Option (List Se) :=
  match mateS out (keyS s) with
  | none => some (out ++ [s])
  | some i => if alikeS (sth out i) s = true then (rec (sth out i).kids s.kids).map fun K => out.set i ((sth out i).sub K) else none
def joinTo (rec : List Se → List Se → Option (List Se)) (a b : List Se) : Nat → Option (List Se)
  | 0 => some a
  | n + 1 => (joinTo rec a b n).bind fun out => stepJ rec out (sth b n)
def joinF : Nat → List Se → List Se → Option (List Se)
  | 0, a, _ => some a
  | f + 1, a, b => joinTo (joinF f) a b b.length
theorem joinTo_none {rec : List Se → List Se → Option (List Se)} {a b : List Se} {n : Nat} (h : joinTo rec a b n = none) : ∀ m, n ≤ m → joinTo rec a b m = none
  | 0, hm => by have e : n = 0 := by omega
                subst e; exact h
  | m + 1, hm => by
    by_cases e : n = m + 1
    · rw [← e]; exact h
    · rw [joinTo, joinTo_none h m (by omega)]; rfl
theorem stepJ_cases {rec : List Se → List Se → Option (List Se)} {out out' : List Se} {s : Se} (h : stepJ rec out s = some out') : (mateS out (keyS s) = none ∧ out' = out ++ [s]) ∨ ∃ i K, mateS out (keyS s) = some i ∧ i < out.length ∧ alikeS (sth out i) s = true ∧ rec (sth out i).kids s.kids = some K ∧ out' = out.set i ((sth out i).sub K) := by
  unfold stepJ at h
  split at h
  · left
    rename_i hm
    exact ⟨hm, by simpa using h.symm⟩
  · right
    rename_i i hm
    split at h
    · rename_i ha
      cases hr : rec (sth out i).kids s.kids with
      | none => rw [hr] at h; simp at h
      | some K =>
        rw [hr] at h
        exact ⟨i, K, hm, (mateS_some.1 hm).1, ha, hr, by simpa using h.symm⟩
    · simp at h
theorem stepJ_new {rec : List Se → List Se → Option (List Se)} {out : List Se} {s : Se} (h : mateS out (keyS s) = none) : stepJ rec out s = some (out ++ [s]) := by unfold stepJ; rw [h]
theorem stepJ_not {rec : List Se → List Se → Option (List Se)} {out : List Se} {s : Se} {i : Nat} (h : mateS out (keyS s) = some i) (ha : alikeS (sth out i) s = false) : stepJ rec out s = none := by unfold stepJ; rw [h]; simp [ha]
theorem stepJ_rec {rec : List Se → List Se → Option (List Se)} {out : List Se} {s : Se} {i : Nat} (h : mateS out (keyS s) = some i) (ha : alikeS (sth out i) s = true) : stepJ rec out s = (rec (sth out i).kids s.kids).map fun K => out.set i ((sth out i).sub K) := by unfold stepJ; rw [h]; simp [ha]
theorem joinTo_at {rec : List Se → List Se → Option (List Se)} {a b : List Se} {n : Nat} {out : List Se} (h : joinTo rec a b n = some out) : joinTo rec a b (n + 1) = stepJ rec out (sth b n) := by rw [joinTo, h]; rfl
theorem joinTo_split {rec : List Se → List Se → Option (List Se)} {a b : List Se} {n : Nat} {out' : List Se} (h : joinTo rec a b (n + 1) = some out') : ∃ out, joinTo rec a b n = some out ∧ stepJ rec out (sth b n) = some out' := by
  rw [joinTo] at h
  cases e : joinTo rec a b n with
  | none => rw [e] at h; simp at h
  | some out => rw [e] at h; exact ⟨out, rfl, h⟩
theorem joinF_fit : ∀ (f : Nat) {a b out : List Se}, FitS f a → FitS f b → joinF f a b = some out → FitS f out
  | 0, a, b, out, ha, hb, h => by simp [joinF] at h; subst h; exact ha
  | f + 1, a, b, out, ha, hb, h => by
    have key : ∀ n, n ≤ b.length → ∀ out, joinTo (joinF f) a b n = some out → FitS (f + 1) out := by
      intro n
      induction n with
      | zero => intro _ out h; simp [joinTo] at h; subst h; exact ha
      | succ n ih =>
        intro hn out' h
        obtain ⟨out, h1, h2⟩ := joinTo_split h
        have ho := ih (by omega) out h1
        have hs := hb n (by omega)
        rcases stepJ_cases h2 with ⟨-, rfl⟩ | ⟨i, K, -, hi, -, hK, rfl⟩
        · rw [fit_mem] at ho ⊢
          intro x hx
          rcases List.mem_append.1 hx with hx | hx
          · exact ho x hx
          · rw [List.mem_singleton.1 hx]; exact hs
        · have hk := joinF_fit f (ho i hi) hs hK
          rw [fit_mem] at ho ⊢
          intro x hx
          rcases mem_set hx with hx | rfl
          · exact ho x hx
          · exact hk
    exact key _ (Nat.le_refl _) out h
theorem joinF_small : ∀ (f : Nat) {a b out : List Se}, SmallS f a → SmallS f b → joinF f a b = some out → SmallS f out
  | 0, a, b, out, ha, hb, h => trivial
  | f + 1, a, b, out, ha, hb, h => by
    have key : ∀ n, n ≤ b.length → ∀ out, joinTo (joinF f) a b n = some out → SmallS (f + 1) out := by
      intro n
      induction n with
      | zero => intro _ out h; simp [joinTo] at h; subst h; exact ha
      | succ n ih =>
        intro hn out' h
        obtain ⟨out, h1, h2⟩ := joinTo_split h
        have ho := ih (by omega) out h1
        have hs := hb n (by omega)
        rcases stepJ_cases h2 with ⟨-, rfl⟩ | ⟨i, K, -, hi, -, hK, rfl⟩
        · rw [small_mem] at ho ⊢
          intro x hx
          rcases List.mem_append.1 hx with hx | hx
          · exact ho x hx
          · rw [List.mem_singleton.1 hx]; exact hs
        · have hoi := ho i hi
          have hk := joinF_small f hoi.2.2 hs.2.2 hK
          rw [small_mem] at ho ⊢
          intro x hx
          rcases mem_set hx with hx | rfl
          · exact ho x hx
          · exact ⟨hoi.1, hoi.2.1, hk⟩
    exact key _ (Nat.le_refl _) out h
theorem sum_set (g : Se → Nat) : ∀ (l : List Se) (i : Nat) (x : Se), i < l.length → ((l.set i x).map g).sum + g (sth l i) = (l.map g).sum + g x
  | [], i, x, h => by simp at h
  | y :: l, 0, x, h => by simp [sth]; omega
  | y :: l, i + 1, x, h => by
    have ih := sum_set g l i x (by simpa using h)
    have e : sth (y :: l) (i + 1) = sth l i := by simp [sth]
    rw [e]
    simp only [List.set_cons_succ, List.map_cons, List.sum_cons]
    omega
theorem joinF_cnt : ∀ (f : Nat) {a b out : List Se}, joinF f a b = some out → cntTo f out out.length ≤ cntTo f a a.length + cntTo f b b.length
  | 0, a, b, out, h => by simp [joinF] at h; subst h; omega
  | f + 1, a, b, out, h => by
    have key : ∀ n, n ≤ b.length → ∀ out, joinTo (joinF f) a b n = some out → cntTo (f + 1) out out.length ≤ cntTo (f + 1) a a.length + cntTo (f + 1) b n := by
      intro n
      induction n with
      | zero => intro _ out h; simp [joinTo] at h; subst h; omega
      | succ n ih =>
        intro hn out' h
        obtain ⟨out, h1, h2⟩ := joinTo_split h
        have ho := ih (by omega) out h1
        rw [cntTo_succ]
        rcases stepJ_cases h2 with ⟨-, rfl⟩ | ⟨i, K, -, hi, -, hK, rfl⟩
        · rw [cnt_list] at ho ⊢
          simp only [List.map_append, List.map_cons, List.map_nil, List.sum_append, List.sum_cons, List.sum_nil]
          omega
        · have hk := joinF_cnt f hK
          have e := sum_set (cntSe (f + 1)) out i ((sth out i).sub K) hi
          have e1 : cntSe (f + 1) ((sth out i).sub K) = 1 + cntTo f K K.length := rfl
          have e2 := cntSe_kids f (sth out i)
          have e3 := cntSe_kids f (sth b n)
          rw [cnt_list] at ho ⊢
          omega
    exact key _ (Nat.le_refl _) out h
theorem joinTo_cnt {f : Nat} {a b out : List Se} {n : Nat} (hn : n ≤ b.length) (h : joinTo (joinF f) a b n = some out) : cntTo (f + 1) out out.length ≤ cntTo (f + 1) a a.length + cntTo (f + 1) b n := by
  have e : joinF (f + 1) a (b.take n) = some out := by
    have hh : ∀ m, m ≤ n → joinTo (joinF f) a (b.take n) m = joinTo (joinF f) a b m := by
      intro m
      induction m with
      | zero => intro _; rfl
      | succ m ih =>
        intro hm
        rw [joinTo, joinTo, ih (by omega)]
        have e : sth (b.take n) m = sth b m := by simp [sth, List.getD_eq_getElem?_getD, List.getElem?_take, show m < n by omega]
        rw [e]
    rw [joinF, List.length_take, Nat.min_eq_left hn, hh n (Nat.le_refl _)]
    exact h
  have h1 := joinF_cnt (f + 1) e
  have e2 : cntTo (f + 1) (b.take n) (b.take n).length = cntTo (f + 1) b n := by
    rw [List.length_take, Nat.min_eq_left hn]
    unfold cntTo
    congr 1
    apply List.map_congr_left
    intro m hm
    simp only [List.mem_range] at hm
    simp [sth, List.getD_eq_getElem?_getD, List.getElem?_take, hm]
  omega
theorem joinTo_fit {f : Nat} {a b out : List Se} (ha : FitS (f + 1) a) (hb : FitS (f + 1) b) : ∀ {n : Nat}, n ≤ b.length → joinTo (joinF f) a b n = some out → FitS (f + 1) out := by
  intro n
  induction n generalizing out with
  | zero => intro _ h; simp [joinTo] at h; subst h; exact ha
  | succ n ih =>
    intro hn h
    obtain ⟨out, h1, h2⟩ := joinTo_split h
    have ho := ih (by omega) h1
    have hs := hb n (by omega)
    rcases stepJ_cases h2 with ⟨-, rfl⟩ | ⟨i, K, -, hi, -, hK, rfl⟩
    · rw [fit_mem] at ho ⊢
      intro x hx
      rcases List.mem_append.1 hx with hx | hx
      · exact ho x hx
      · rw [List.mem_singleton.1 hx]; exact hs
    · have hk := joinF_fit f (ho i hi) hs hK
      rw [fit_mem] at ho ⊢
      intro x hx
      rcases mem_set hx with hx | rfl
      · exact ho x hx
      · exact hk
def Nd : Nat → List Se → Prop
  | 0, _ => True
  | f + 1, ks => (∀ i j, i < ks.length → j < ks.length → (keyS (sth ks i)).toList = (keyS (sth ks j)).toList → i = j) ∧ ∀ i, i < ks.length → Nd f (sth ks i).kids
theorem keyS_sub (x : Se) (K : List Se) : keyS (x.sub K) = keyS x := by cases x; rfl
theorem nd_step {f : Nat} {out out' : List Se} {s : Se} (hrec : ∀ {a b K : List Se}, Nd f a → Nd f b → joinF f a b = some K → Nd f K) (ho : Nd (f + 1) out) (hs : Nd f s.kids) (h : stepJ (joinF f) out s = some out') : Nd (f + 1) out' := by
  rcases stepJ_cases h with ⟨hm, rfl⟩ | ⟨i, K, -, hi, -, hK, rfl⟩
  · rw [mateS_none] at hm
    have e1 : ∀ i, i < out.length → sth (out ++ [s]) i = sth out i := fun i hi => by simp [sth, List.getD_eq_getElem?_getD, List.getElem?_append_left hi]
    have e2 : sth (out ++ [s]) out.length = s := by simp [sth, List.getD_eq_getElem?_getD]
    have hl : ∀ i, i < (out ++ [s]).length → i < out.length ∨ i = out.length := fun i hi => by simp at hi; omega
    constructor
    · intro i j hi hj e
      rcases hl i hi with hi' | hi' <;> rcases hl j hj with hj' | hj'
      · rw [e1 i hi', e1 j hj'] at e
        exact ho.1 i j hi' hj' e
      · rw [e1 i hi', hj', e2] at e
        exact absurd e (hm i hi')
      · rw [e1 j hj', hi', e2] at e
        exact absurd e.symm (hm j hj')
      · omega
    · intro i hi
      rcases hl i hi with hi' | hi'
      · rw [e1 i hi']; exact ho.2 i hi'
      · rw [hi', e2]; exact hs
  · have hk := hrec (ho.2 i hi) hs hK
    have e : ∀ j, sth (out.set i ((sth out i).sub K)) j = if j = i then (sth out i).sub K else sth out j := fun j => by
      simp only [sth, List.getD_eq_getElem?_getD, List.getElem?_set]
      by_cases h : i = j
      · subst h; simp [hi]
      · rw [if_neg h, if_neg (fun e => h e.symm)]
    have ek : ∀ j, keyS (sth (out.set i ((sth out i).sub K)) j) = keyS (sth out j) := fun j => by
      rw [e]
      split
      · rename_i hj; rw [hj, keyS_sub]
      · rfl
    constructor
    · intro p q hp hq eq
      rw [ek, ek] at eq
      exact ho.1 p q (by simpa using hp) (by simpa using hq) eq
    · intro j hj
      rw [e]
      split
      · exact hk
      · exact ho.2 j (by simpa using hj)
theorem joinF_nd : ∀ (f : Nat) {a b out : List Se}, Nd f a → Nd f b → joinF f a b = some out → Nd f out
  | 0, a, b, out, ha, hb, h => trivial
  | f + 1, a, b, out, ha, hb, h => by
    have key : ∀ n, n ≤ b.length → ∀ out, joinTo (joinF f) a b n = some out → Nd (f + 1) out := by
      intro n
      induction n with
      | zero => intro _ out h; simp [joinTo] at h; subst h; exact ha
      | succ n ih =>
        intro hn out' h
        obtain ⟨out, h1, h2⟩ := joinTo_split h
        exact nd_step (fun h1 h2 h3 => joinF_nd f h1 h2 h3) (ih (by omega) out h1) (hb.2 n (by omega)) h2
    exact key _ (Nat.le_refl _) out h
theorem joinTo_nd {f : Nat} {a b out : List Se} (ha : Nd (f + 1) a) (hb : Nd (f + 1) b) : ∀ {n : Nat}, n ≤ b.length → joinTo (joinF f) a b n = some out → Nd (f + 1) out := by
  intro n
  induction n generalizing out with
  | zero => intro _ h; simp [joinTo] at h; subst h; exact ha
  | succ n ih =>
    intro hn h
    obtain ⟨out, h1, h2⟩ := joinTo_split h
    exact nd_step (fun h1 h2 h3 => joinF_nd f h1 h2 h3) (ih (by omega) h1) (hb.2 n (by omega)) h2
theorem free_at {ks : List Se} {k : ByteArray} : ∀ {n j : Nat}, freeTo ks k n = true → j < n → (keyS (sth ks j)).toList ≠ k.toList
  | 0, j, _, hj => by omega
  | n + 1, j, h, hj => by
    rw [freeTo_succ, Bool.and_eq_true] at h
    by_cases e : j = n
    · subst e; simpa using h.2
    · exact free_at h.1 (by omega)
theorem okTo_free {f d : Nat} {ks : List Se} : ∀ {n i : Nat}, okTo (f + 1) d ks n = true → i < n → freeTo ks (keyS (sth ks i)) i = true
  | 0, i, _, hi => by omega
  | n + 1, i, h, hi => by
    rw [okTo_succ, Bool.and_eq_true] at h
    by_cases e : i = n
    · subst e
      have h2 := h.2
      simp only [Bool.and_eq_true] at h2
      exact h2.1.2
    · exact okTo_free h.1 (by omega)
theorem nd_of_ok : ∀ {f d : Nat} {ks : List Se}, okTo f d ks ks.length = true → Nd f ks
  | 0, d, ks, h => trivial
  | f + 1, d, ks, h => ⟨fun i j hi hj e => by
      rcases Nat.lt_trichotomy i j with hij | hij | hij
      · exact absurd e (free_at (okTo_free h hj) hij)
      · exact hij
      · exact absurd e.symm (free_at (okTo_free h hi) hij), fun i hi => nd_of_ok (okTo_at h hi).2⟩
def askJoin (f : Nat) (a b : List Se) : Option (List Se) := if askOk f a = true ∧ askOk f b = true then (joinF f a b).bind fun x => if askOk f x = true then some x else none else none
end Go.Proofs.YtokmgbidmnanpaaGreatDoor
namespace Go.Proofs.YtokmgbidmnanpaaGreatDoor
open Go.RowKit Go.Shelf Go.Maps
end Go.Proofs.YtokmgbidmnanpaaGreatDoor
namespace Go.Proofs.YtokmgbidmnanpaaGreatDoor
open Go.RowKit
end Go.Proofs.YtokmgbidmnanpaaGreatDoor
namespace Go.Proofs.YtokmgbidmnanpaaGreatDoor
open Go.RowKit Go.Shelf Go.Maps
attribute [local go_sem] Oper.semAt_some
end Go.Proofs.YtokmgbidmnanpaaGreatDoor
namespace Go.Proofs.YtokmgbidmnanpaaGreatDoor
open Go.RowKit Go.Shelf Go.Maps
theorem sth_set (L : List Se) (j : Nat) (M : Se) (hj : j < L.length) (i : Nat) : sth (L.set j M) i = if i = j then M else sth L i := by
  simp only [sth, List.getD_eq_getElem?_getD, List.getElem?_set]
  by_cases h : j = i
  · subst h; simp [hj]
  · rw [if_neg h, if_neg (fun e => h e.symm)]
end Go.Proofs.YtokmgbidmnanpaaGreatDoor
namespace Go.Proofs.YtokmgbidmnanpaaGreatDoor
open Go.RowKit Go.Shelf Go.Maps
end Go.Proofs.YtokmgbidmnanpaaGreatDoor
namespace Go.Proofs.YtokmgbidmnanpaaGreatDoor
open Go.RowKit Go.Shelf Go.Maps
end Go.Proofs.YtokmgbidmnanpaaGreatDoor
namespace Go.Proofs.YtokmgbidmnanpaaGreatDoor
open Go.RowKit
def hasTo (ns : List ByteArray) (s : ByteArray) (n : Nat) : Bool := (List.range n).any fun i => (nth ns i).toList == s.toList
theorem hasTo_succ (ns : List ByteArray) (s : ByteArray) (n : Nat) : hasTo ns s (n + 1) = (hasTo ns s n || ((nth ns n).toList == s.toList)) := by simp [hasTo, List.range_succ]
theorem hasTo_at {ns : List ByteArray} {s : ByteArray} {n i : Nat} (hi : i < n) (h : ((nth ns i).toList == s.toList) = true) : hasTo ns s n = true := by
  unfold hasTo
  rw [List.any_eq_true]
  exact ⟨i, List.mem_range.2 hi, h⟩
def hasB (ns : List ByteArray) (s : ByteArray) : Bool := hasTo ns s ns.length
theorem hasB_mem {ns : List ByteArray} {s : ByteArray} : hasB ns s = true ↔ s.toList ∈ ns.map ByteArray.toList := by
  unfold hasB hasTo
  rw [List.any_eq_true]
  constructor
  · rintro ⟨i, hi, h⟩
    rw [List.mem_range] at hi
    rw [beq_iff_eq] at h
    rw [← h]
    exact List.mem_map.2 ⟨_, by simp [nth, List.getD_eq_getElem?_getD, hi], rfl⟩
  · intro h
    obtain ⟨t, ht, e⟩ := List.mem_map.1 h
    obtain ⟨i, hi, rfl⟩ := List.mem_iff_getElem.1 ht
    refine ⟨i, List.mem_range.2 hi, ?_⟩
    rw [beq_iff_eq, ← e]
    simp [nth, List.getD_eq_getElem?_getD, hi]
set_option maxHeartbeats 800000 in
theorem wpHas_any (ns : List ByteArray) (s : ByteArray) (a : Option Addr) (c : Nat) (w : World) (P : Nat → Prop) (hS : Strs w P ns a) :
    Calls Tryz.prog 28 #[.slice a ns.length c, .string s] w fun e w' => e = .returned (.bool (hasB ns s)) ∧ Below w.heap.size w w' := by
  obtain ⟨h1, h2, h3⟩ := hS
  unfold maxLen at h3
  have HH : Hid (hasB ns s = hasTo ns s ns.length) := rfl
  have HA : Hid (∀ i, i < ns.length → ∃ b off, a = some ⟨b, off, none⟩ ∧ w.cell? ⟨b, off + i, none⟩ = some (.string (nth ns i))) := fun i hi => by
    obtain ⟨b, off, e, -, hc⟩ := h1 (by intro e; simp [e] at hi)
    exact ⟨b, off, e, hc i hi⟩
  have HS : Hid (∀ i, hasTo ns s (i + 1) = (hasTo ns s i || ((nth ns i).toList == s.toList))) := fun i => hasTo_succ ns s i
  have HT : Hid (∀ i, i < ns.length → ((nth ns i).toList == s.toList) = true → hasTo ns s ns.length = true) := fun i hi h => hasTo_at hi h
  clear h1 h2
  obtain ⟨n, hn⟩ : ∃ n, n = ns.length := ⟨_, rfl⟩
  rw [← hn] at HH HA HT h3 ⊢
  clear hn
  go_enter Tryz.func28, Tryz.ntmps28
  go_wp2_with fail
  go_loopw [5] (fun i wr => ∃ k : Nat, k ≤ n ∧ i = .int .i64 k ∧ Hid (hasTo ns s k = false) ∧ wr = w) (fun i _ => n - (intOf i).toNat)
  case atStart => exact ⟨0, Nat.zero_le _, rfl, rfl, rfl⟩
  case round =>
    obtain ⟨k, hk, rfl, HF, rfl⟩ := hrel
    by_cases hlt : k < n
    · have hlti : (k : Int) < (n : Int) := by omega
      obtain ⟨b, off, rfl, hck⟩ := HA.out k hlt
      cases hq : ((nth ns k).toList == s.toList)
      · have HN : Hid (hasTo ns s (k + 1) = false) := by show _ = _; rw [HS.out, HF.out, hq]; rfl
        go_wp2_with fail
        go_roundw
        case rel => exact ⟨k + 1, by omega, by go_num, HN, trivial⟩
        case measure => simp [intOf]; omega
      · have HN : Hid (hasTo ns s n = true) := HT.out k hlt hq
        go_wp2_with fail
        go_ret
        exact ⟨ret_bool (by rw [HH.out, HN.out]), Below.refl _ _⟩
    · have hlti : ¬ (k : Int) < (n : Int) := by omega
      have hkn : k = n := by omega
      go_wp2_with fail
      go_ret
      exact ⟨ret_bool (by rw [HH.out, ← hkn, HF.out]), Below.refl _ _⟩
end Go.Proofs.YtokmgbidmnanpaaGreatDoor
