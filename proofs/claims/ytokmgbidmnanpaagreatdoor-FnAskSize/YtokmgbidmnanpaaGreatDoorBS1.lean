import Derived.Test.YtokmgbidmnanpaaGreatDoorB40
import Derived.Test.YtokmgbidmnanpaaGreatDoorB25
import Derived.Test.YtokmgbidmnanpaaGreatDoorB32
set_option linter.unusedSimpArgs false
set_option linter.unusedVariables false
namespace Go.Proofs.YtokmgbidmnanpaaGreatDoor
open Go.RowKit Go.Shelf Go.Maps
theorem askIn_drawn {F L m : Nat} {ks : List Se} {a : Option Addr} {w : World} (hF : F ≤ 1000000000) (hTr : Tr m F ks) (hSA : SA w L ks a) (hT : Tab w.heap.size w) : AskIn F ks (fun b => L ≤ b ∧ b < w.heap.size ∧ Apart w b) w.heap.size a w :=
  ⟨hTr.fit, hTr.small F, hF, hSA, fun b hb => hb.2, Nat.le_refl _, hT⟩
end Go.Proofs.YtokmgbidmnanpaaGreatDoor
namespace Go.Proofs.YtokmgbidmnanpaaGreatDoor
open Go.RowKit Go.Shelf Go.Maps
def AskEnd (w : World) (e : Ending) (w' : World) : Prop := ∃ (ks : List Se) (a : Option Addr) (c : Nat), e = .returned (.slice a ks.length c) ∧ SA w' w.heap.size ks a ∧ Tr 4 6 ks ∧ Below w.heap.size w w'
set_option maxRecDepth 20000 in
set_option maxHeartbeats 3200000 in
theorem DrawAskWrite_any (w : World) (cb n : Nat) (v : Value) (h : CodeOk w cb v n) (hn : n ≤ 1048576) :
    Calls Tryz.prog 41 #[v] w (AskEnd w) := by
  have HOP := hid_of (l1Open_any w cb n v h hn)
  clear h
  go_enter Tryz.func41, Tryz.ntmps41
  go_upto_region 2 with (
    go_at_call 52
    refine HOP.out.mono ?_
    rintro e w1 ⟨rb, rfl, hrb, hR, b1⟩)
  have HPT := hid_of (l11Parts_any w1 rb cb 0 hR (by omega))
  have HB1 := hid_of b1
  have HRB := hid_of hrb
  clear HOP hR b1 hrb
  have HAL : Hid (∀ w2 σ c q pb pc ps n, PSt w1 rb cb n w2 σ c q pb pc ps → n ≤ 3 → c ≤ 56 → Calls Tryz.prog 54 #[.slice (some ⟨pb, 0, none⟩) n pc] w2 fun e w' => ∃ (p : Pt) (v : Value), e = .returned v ∧ PRep w' (fun b => b < w'.heap.size ∧ b ≠ rb) p v ∧ szP p ≤ 1048576 ∧ FldOk p ∧ 0 < p.types.length ∧ Below w2.heap.size w2 w') := hid_of fun w2 σ c q pb pc ps n hP h3 hc => by
    obtain ⟨qs, hql, hqs, hqz⟩ := hP.list h3 hc
    subst hql
    exact (l11All_any qs w2 w2.heap.size (some ⟨pb, 0, none⟩) pc (hqs.sub fun b hb => hb.2) (Nat.le_refl _) (fun i hi => Nat.le_trans (hqz i hi) (by omega))).mono fun e w' h => h.apart (Nat.le_refl _) hP.rd
  go_upto_region 3 with (
    first
      | (
        go_at_call 55
        refine HPT.out.mono ?_
        rintro e w2 ⟨m, σ, c, q, pb, pc, ps, rfl, hm1, hm3, hc, hq, hP⟩
        have HP := hid_of hP
        have HA := hid_of (HAL.out w2 σ c q pb pc ps m hP hm3 hc)
        clear hP)
      | (
        go_at_call 54
        refine HA.out.mono ?_
        rintro e w3 ⟨p, v3, rfl, hPR, hz, hF, h0, b3⟩
        have HR3 := hid_of (HP.out.rd.only (Only.of_below (fun _ => False) b3) id id)
        have HO3 := hid_of (HP.out.only.trans (Only.of_below (· = rb) b3) fun _ _ q => q)
        have HK := hid_of (l11Ask_any w3 rb cb q p (fun b => b < w3.heap.size ∧ b ≠ rb) v3 HR3.out (by rw [pkN5]; omega) hPR (fun b hb => hb) hF hz h0)
        clear hPR b3)
      | (
        go_at_call 53
        refine HK.out.mono ?_
        rintro e w4 ⟨ks, ka, kc, q4, rfl, hSA, r4, hq4, o4, hSO⟩))
  have hz4 := o4.size
  have HO4 := hid_of (HO3.out.trans o4 fun _ _ q => q)
  have HS4 := hid_of hSA
  rw [pkN5] at hq4
  have HPK := hid_of (pick_any w4 rb cb q4 10 r4 (by omega) (by omega) (by omega))
  have hr1 : rb < w1.heap.size := HP.out.rlt
  have hw13 : w1.heap.size ≤ w3.heap.size := HO3.out.size
  clear hSA r4 o4 HPT HAL HA HK
  go_upto_if 14 with (
    go_at_call 56
    refine HPK.out.mono ?_
    rintro e w5 ⟨x, rfl, hx, r5, o5, z5⟩)
  have HR5 := hid_of r5
  have HO5 := hid_of (HO4.out.trans o5 fun _ _ q => q)
  have HS5 := hid_of (HS4.out.keep (fun b hb hb2 => o5.block b hb2 (by omega)) o5.size)
  have hz5 := o5.size
  have HBW : Hid (∀ W, Only (· = rb) w1 W → Below w.heap.size w W) := hid_of fun W hW => HB1.out.trans (hW.below HB1.out.size fun b hb e => by have := HRB.out; omega)
  clear HPK r5 o5 HO4 HS4 hx z5
  by_cases hx0 : x = 0
  · subst hx0
    have HSP := hid_of (l11SpoilSels_any 5 (by omega) ks w5 rb cb (q4 + 1) (fun b => b < w5.heap.size ∧ b ≠ rb) ka kc HR5.out (by omega) hSO (SeReps.sub HS5.out fun b hb => ⟨hb.2.1, by have := hb.1; omega⟩) (fun b hb => hb))
    go_wp2_with (
      go_at_call 62
      refine HSP.out.mono ?_
      rintro e w6 ⟨ks', a', c', q6, rfl, hS6, r6, hq6, o6, hT6⟩)
    go_ret
    have hww : w.heap.size ≤ w5.heap.size := by have := HB1.out.size; omega
    exact ⟨ks', a', c', rfl, hS6.low hww, hT6, HBW.out w6 (HO5.out.trans o6 fun _ _ q => q)⟩
  · have hx0' : ¬ (x : Int) = 0 := by omega
    go_wp2_with fail
    go_ret
    have hww : w.heap.size ≤ w3.heap.size := by have := HB1.out.size; omega
    exact ⟨ks, ka, kc, rfl, HS5.out.low hww, Tr.up (by omega) (by omega) hSO, HBW.out w5 HO5.out⟩
theorem DrawAskSize_any (w : World) (cb n : Nat) (v : Value) (h : CodeOk w cb v n) (hn : n ≤ 1048576) :
    Calls Tryz.prog 9 #[v] w (AskEnd w) := by
  have HD := hid_of (DrawAskWrite_any w cb n v h hn)
  clear h
  go_enter Tryz.func9, Tryz.ntmps9
  go_wp2_with (
    go_at_call 41
    refine HD.out.mono ?_
    rintro e w1 ⟨ks, a, c, rfl, h1, h2, h3⟩)
  go_ret
  exact ⟨ks, a, c, rfl, h1, h2, h3⟩
end Go.Proofs.YtokmgbidmnanpaaGreatDoor
namespace Go.Proofs.YtokmgbidmnanpaaGreatDoor
open Go.RowKit Go.Shelf Go.Maps
def alikeS (x s : Se) : Bool := (x.name.toList == s.name.toList) && (x.one == s.one) && (x.id == s.id) && (x.kids.isEmpty == s.kids.isEmpty)
def mateS (out : List Se) (k : ByteArray) : Option Nat := out.findIdx? fun x => (keyS x).toList == k.toList
theorem mateS_some {out : List Se} {k : ByteArray} {i : Nat} : mateS out k = some i ↔ i < out.length ∧ (keyS (sth out i)).toList = k.toList ∧ ∀ j, j < i → (keyS (sth out j)).toList ≠ k.toList := by
  unfold mateS
  rw [List.findIdx?_eq_some_iff_getElem]
  constructor
  · rintro ⟨h, h1, h2⟩
    refine ⟨h, by rw [sth_get h]; simpa using h1, fun j hj => by rw [sth_get (by omega)]; simpa using h2 j hj⟩
  · rintro ⟨h, h1, h2⟩
    refine ⟨h, by rw [sth_get h] at h1; simpa using h1, fun j hj => by have := h2 j hj; rw [sth_get (by omega)] at this; simpa using this⟩
theorem mateS_none {out : List Se} {k : ByteArray} : mateS out k = none ↔ ∀ i, i < out.length → (keyS (sth out i)).toList ≠ k.toList := by
  unfold mateS
  rw [List.findIdx?_eq_none_iff]
  constructor
  · intro h i hi
    have := h _ (List.getElem_mem hi)
    rw [sth_get hi]; simpa using this
  · intro h x hx
    obtain ⟨i, hi, rfl⟩ := List.mem_iff_getElem.1 hx
    have := h i hi
    rw [sth_get hi] at this; simpa using this
def stepJ (rec : List Se → List Se → Option (List Se)) (out : List Se) (s : Se) : Option (List Se) :=
  match mateS out (keyS s) with
  | none => some (out ++ [s])
  | some i => if alikeS (sth out i) s = true then (rec (sth out i).kids s.kids).map fun K => out.set i ((sth out i).sub K) else none
def joinTo (rec : List Se → List Se → Option (List Se)) (a b : List Se) : Nat → Option (List Se)
  | 0 => some a
  | n + 1 => (joinTo rec a b n).bind fun out => stepJ rec out (sth b n)
def joinF : Nat → List Se → List Se → Option (List Se)
  | 0, a, _ => some a
  | f + 1, a, b => joinTo (joinF f) a b b.length
theorem joinTo_none {rec : List Se → List Se → Option (List Se)} {a b : List Se} {n : Nat} (h : joinTo rec a b n = none) : ∀ m, n ≤ m → joinTo rec a b m = none
  | 0, hm => by have e : n = 0 := by omega
                subst e; exact h
  | m + 1, hm => by
    by_cases e : n = m + 1
    · rw [← e]; exact h
    · rw [joinTo, joinTo_none h m (by omega)]; rfl
theorem stepJ_cases {rec : List Se → List Se → Option (List Se)} {out out' : List Se} {s : Se} (h : stepJ rec out s = some out') : (mateS out (keyS s) = none ∧ out' = out ++ [s]) ∨ ∃ i K, mateS out (keyS s) = some i ∧ i < out.length ∧ alikeS (sth out i) s = true ∧ rec (sth out i).kids s.kids = some K ∧ out' = out.set i ((sth out i).sub K) := by
  unfold stepJ at h
  split at h
  · left
    rename_i hm
    exact ⟨hm, by simpa using h.symm⟩
  · right
    rename_i i hm
    split at h
    · rename_i ha
      cases hr : rec (sth out i).kids s.kids with
      | none => rw [hr] at h; simp at h
      | some K =>
        rw [hr] at h
        exact ⟨i, K, hm, (mateS_some.1 hm).1, ha, hr, by simpa using h.symm⟩
    · simp at h
theorem stepJ_new {rec : List Se → List Se → Option (List Se)} {out : List Se} {s : Se} (h : mateS out (keyS s) = none) : stepJ rec out s = some (out ++ [s]) := by unfold stepJ; rw [h]
theorem stepJ_not {rec : List Se → List Se → Option (List Se)} {out : List Se} {s : Se} {i : Nat} (h : mateS out (keyS s) = some i) (ha : alikeS (sth out i) s = false) : stepJ rec out s = none := by unfold stepJ; rw [h]; simp [ha]
theorem stepJ_rec {rec : List Se → List Se → Option (List Se)} {out : List Se} {s : Se} {i : Nat} (h : mateS out (keyS s) = some i) (ha : alikeS (sth out i) s = true) : stepJ rec out s = (rec (sth out i).kids s.kids).map fun K => out.set i ((sth out i).sub K) := by unfold stepJ; rw [h]; simp [ha]
theorem joinTo_at {rec : List Se → List Se → Option (List Se)} {a b : List Se} {n : Nat} {out : List Se} (h : joinTo rec a b n = some out) : joinTo rec a b (n + 1) = stepJ rec out (sth b n) := by rw [joinTo, h]; rfl
theorem joinTo_split {rec : List Se → List Se → Option (List Se)} {a b : List Se} {n : Nat} {out' : List Se} (h : joinTo rec a b (n + 1) = some out') : ∃ out, joinTo rec a b n = some out ∧ stepJ rec out (sth b n) = some out' := by
  rw [joinTo] at h
  cases e : joinTo rec a b n with
  | none => rw [e] at h; simp at h
  | some out => rw [e] at h; exact ⟨out, rfl, h⟩
theorem joinF_fit : ∀ (f : Nat) {a b out : List Se}, FitS f a → FitS f b → joinF f a b = some out → FitS f out
  | 0, a, b, out, ha, hb, h => by simp [joinF] at h; subst h; exact ha
  | f + 1, a, b, out, ha, hb, h => by
    have key : ∀ n, n ≤ b.length → ∀ out, joinTo (joinF f) a b n = some out → FitS (f + 1) out := by
      intro n
      induction n with
      | zero => intro _ out h; simp [joinTo] at h; subst h; exact ha
      | succ n ih =>
        intro hn out' h
        obtain ⟨out, h1, h2⟩ := joinTo_split h
        have ho := ih (by omega) out h1
        have hs := hb n (by omega)
        rcases stepJ_cases h2 with ⟨-, rfl⟩ | ⟨i, K, -, hi, -, hK, rfl⟩
        · rw [fit_mem] at ho ⊢
          intro x hx
          rcases List.mem_append.1 hx with hx | hx
          · exact ho x hx
          · rw [List.mem_singleton.1 hx]; exact hs
        · have hk := joinF_fit f (ho i hi) hs hK
          rw [fit_mem] at ho ⊢
          intro x hx
          rcases mem_set hx with hx | rfl
          · exact ho x hx
          · exact hk
    exact key _ (Nat.le_refl _) out h
theorem joinF_small : ∀ (f : Nat) {a b out : List Se}, SmallS f a → SmallS f b → joinF f a b = some out → SmallS f out
  | 0, a, b, out, ha, hb, h => trivial
  | f + 1, a, b, out, ha, hb, h => by
    have key : ∀ n, n ≤ b.length → ∀ out, joinTo (joinF f) a b n = some out → SmallS (f + 1) out := by
      intro n
      induction n with
      | zero => intro _ out h; simp [joinTo] at h; subst h; exact ha
      | succ n ih =>
        intro hn out' h
        obtain ⟨out, h1, h2⟩ := joinTo_split h
        have ho := ih (by omega) out h1
        have hs := hb n (by omega)
        rcases stepJ_cases h2 with ⟨-, rfl⟩ | ⟨i, K, -, hi, -, hK, rfl⟩
        · rw [small_mem] at ho ⊢
          intro x hx
          rcases List.mem_append.1 hx with hx | hx
          · exact ho x hx
          · rw [List.mem_singleton.1 hx]; exact hs
        · have hoi := ho i hi
          have hk := joinF_small f hoi.2.2 hs.2.2 hK
          rw [small_mem] at ho ⊢
          intro x hx
          rcases mem_set hx with hx | rfl
          · exact ho x hx
          · exact ⟨hoi.1, hoi.2.1, hk⟩
    exact key _ (Nat.le_refl _) out h
theorem sum_set (g : Se → Nat) : ∀ (l : List Se) (i : Nat) (x : Se), i < l.length → ((l.set i x).map g).sum + g (sth l i) = (l.map g).sum + g x
  | [], i, x, h => by simp at h
  | y :: l, 0, x, h => by simp [sth]; omega
  | y :: l, i + 1, x, h => by
    have ih := sum_set g l i x (by simpa using h)
    have e : sth (y :: l) (i + 1) = sth l i := by simp [sth]
    rw [e]
    simp only [List.set_cons_succ, List.map_cons, List.sum_cons]
    omega
theorem joinF_cnt : ∀ (f : Nat) {a b out : List Se}, joinF f a b = some out → cntTo f out out.length ≤ cntTo f a a.length + cntTo f b b.length
  | 0, a, b, out, h => by simp [joinF] at h; subst h; omega
  | f + 1, a, b, out, h => by
    have key : ∀ n, n ≤ b.length → ∀ out, joinTo (joinF f) a b n = some out → cntTo (f + 1) out out.length ≤ cntTo (f + 1) a a.length + cntTo (f + 1) b n := by
      intro n
      induction n with
      | zero => intro _ out h; simp [joinTo] at h; subst h; omega
      | succ n ih =>
        intro hn out' h
        obtain ⟨out, h1, h2⟩ := joinTo_split h
        have ho := ih (by omega) out h1
        rw [cntTo_succ]
        rcases stepJ_cases h2 with ⟨-, rfl⟩ | ⟨i, K, -, hi, -, hK, rfl⟩
        · rw [cnt_list] at ho ⊢
          simp only [List.map_append, List.map_cons, List.map_nil, List.sum_append, List.sum_cons, List.sum_nil]
          omega
        · have hk := joinF_cnt f hK
          have e := sum_set (cntSe (f + 1)) out i ((sth out i).sub K) hi
          have e1 : cntSe (f + 1) ((sth out i).sub K) = 1 + cntTo f K K.length := rfl
          have e2 := cntSe_kids f (sth out i)
          have e3 := cntSe_kids f (sth b n)
          rw [cnt_list] at ho ⊢
          omega
    exact key _ (Nat.le_refl _) out h
theorem joinTo_cnt {f : Nat} {a b out : List Se} {n : Nat} (hn : n ≤ b.length) (h : joinTo (joinF f) a b n = some out) : cntTo (f + 1) out out.length ≤ cntTo (f + 1) a a.length + cntTo (f + 1) b n := by
  have e : joinF (f + 1) a (b.take n) = some out := by
    have hh : ∀ m, m ≤ n → joinTo (joinF f) a (b.take n) m = joinTo (joinF f) a b m := by
      intro m
      induction m with
      | zero => intro _; rfl
      | succ m ih =>
        intro hm
        rw [joinTo, joinTo, ih (by omega)]
        have e : sth (b.take n) m = sth b m := by simp [sth, List.getD_eq_getElem?_getD, List.getElem?_take, show m < n by omega]
        rw [e]
    rw [joinF, List.length_take, Nat.min_eq_left hn, hh n (Nat.le_refl _)]
    exact h
  have h1 := joinF_cnt (f + 1) e
  have e2 : cntTo (f + 1) (b.take n) (b.take n).length = cntTo (f + 1) b n := by
    rw [List.length_take, Nat.min_eq_left hn]
    unfold cntTo
    congr 1
    apply List.map_congr_left
    intro m hm
    simp only [List.mem_range] at hm
    simp [sth, List.getD_eq_getElem?_getD, List.getElem?_take, hm]
  omega
theorem joinTo_fit {f : Nat} {a b out : List Se} (ha : FitS (f + 1) a) (hb : FitS (f + 1) b) : ∀ {n : Nat}, n ≤ b.length → joinTo (joinF f) a b n = some out → FitS (f + 1) out := by
  intro n
  induction n generalizing out with
  | zero => intro _ h; simp [joinTo] at h; subst h; exact ha
  | succ n ih =>
    intro hn h
    obtain ⟨out, h1, h2⟩ := joinTo_split h
    have ho := ih (by omega) h1
    have hs := hb n (by omega)
    rcases stepJ_cases h2 with ⟨-, rfl⟩ | ⟨i, K, -, hi, -, hK, rfl⟩
    · rw [fit_mem] at ho ⊢
      intro x hx
      rcases List.mem_append.1 hx with hx | hx
      · exact ho x hx
      · rw [List.mem_singleton.1 hx]; exact hs
    · have hk := joinF_fit f (ho i hi) hs hK
      rw [fit_mem] at ho ⊢
      intro x hx
      rcases mem_set hx with hx | rfl
      · exact ho x hx
      · exact hk
def Nd : Nat → List Se → Prop
  | 0, _ => True
  | f + 1, ks => (∀ i j, i < ks.length → j < ks.length → (keyS (sth ks i)).toList = (keyS (sth ks j)).toList → i = j) ∧ ∀ i, i < ks.length → Nd f (sth ks i).kids
theorem mate_of_nd {f : Nat} {out : List Se} {k : ByteArray} {i : Nat} (h : Nd (f + 1) out) (hi : i < out.length) (e : (keyS (sth out i)).toList = k.toList) : mateS out k = some i := by
  rw [mateS_some]
  refine ⟨hi, e, fun j hj e2 => ?_⟩
  have := h.1 j i (by omega) hi (e2.trans e.symm)
  omega
theorem free_at {ks : List Se} {k : ByteArray} : ∀ {n j : Nat}, freeTo ks k n = true → j < n → (keyS (sth ks j)).toList ≠ k.toList
  | 0, j, _, hj => by omega
  | n + 1, j, h, hj => by
    rw [freeTo_succ, Bool.and_eq_true] at h
    by_cases e : j = n
    · subst e; simpa using h.2
    · exact free_at h.1 (by omega)
theorem okTo_free {f d : Nat} {ks : List Se} : ∀ {n i : Nat}, okTo (f + 1) d ks n = true → i < n → freeTo ks (keyS (sth ks i)) i = true
  | 0, i, _, hi => by omega
  | n + 1, i, h, hi => by
    rw [okTo_succ, Bool.and_eq_true] at h
    by_cases e : i = n
    · subst e
      have h2 := h.2
      simp only [Bool.and_eq_true] at h2
      exact h2.1.2
    · exact okTo_free h.1 (by omega)
theorem nd_of_ok : ∀ {f d : Nat} {ks : List Se}, okTo f d ks ks.length = true → Nd f ks
  | 0, d, ks, h => trivial
  | f + 1, d, ks, h => ⟨fun i j hi hj e => by
      rcases Nat.lt_trichotomy i j with hij | hij | hij
      · exact absurd e (free_at (okTo_free h hj) hij)
      · exact hij
      · exact absurd e.symm (free_at (okTo_free h hi) hij), fun i hi => nd_of_ok (okTo_at h hi).2⟩
def askJoin (f : Nat) (a b : List Se) : Option (List Se) := if askOk f a = true ∧ askOk f b = true then (joinF f a b).bind fun x => if askOk f x = true then some x else none else none
end Go.Proofs.YtokmgbidmnanpaaGreatDoor
