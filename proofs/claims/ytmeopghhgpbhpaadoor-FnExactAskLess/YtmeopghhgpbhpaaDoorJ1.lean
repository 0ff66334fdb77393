import Derived.Test.YtmeopghhgpbhpaaDoorAWaysS
import Derived.Test.YtmeopghhgpbhpaaDoorAText2
namespace Go.Proofs.YtmeopghhgpbhpaaDoor
set_option linter.unusedSimpArgs false
set_option linter.unusedVariables false
open Go.RowKit

/-- A text cut at each slash. -/
def cutL : List UInt8 → List (List UInt8)
  | [] => [] :: []
  | c :: l => if c = 47 then [] :: cutL l else match cutL l with
    | [] => [c] :: []
    | h :: t => (c :: h) :: t
theorem cutL_ne : ∀ l, cutL l ≠ []
  | [] => by simp [cutL]
  | c :: l => by
    unfold cutL
    split
    · simp
    · split <;> simp
theorem cutL_at : ∀ (a : List UInt8) (r : List UInt8), (47 : UInt8) ∉ a → cutL (a ++ 47 :: r) = a :: cutL r
  | [], r, _ => by simp [cutL]
  | c :: l, r, h => by
    have h1 : c ≠ 47 := fun e => h (by simp [e])
    have ih := cutL_at l r (fun hm => h (List.mem_cons_of_mem _ hm))
    simp only [List.cons_append]
    rw [cutL, if_neg h1, ih]
theorem cutL_one : ∀ (a : List UInt8), (47 : UInt8) ∉ a → cutL a = [a]
  | [], _ => by simp [cutL]
  | c :: l, h => by
    have h1 : c ≠ 47 := fun e => h (by simp [e])
    rw [cutL, if_neg h1, cutL_one l (fun hm => h (List.mem_cons_of_mem _ hm))]
/-- A text is its first piece alone, or its first piece, a slash and the rest. -/
theorem cutL_cases (r : List UInt8) : ∃ a, (47 : UInt8) ∉ a ∧ ((r = a ∧ cutL r = [a]) ∨ ∃ r', r = a ++ 47 :: r' ∧ cutL r = a :: cutL r') := by
  induction r with
  | nil => exact ⟨[], by simp, Or.inl ⟨rfl, rfl⟩⟩
  | cons c l ih =>
    by_cases h : c = 47
    · subst h
      exact ⟨[], by simp, Or.inr ⟨l, rfl, by simp [cutL]⟩⟩
    · obtain ⟨a, ha, hr⟩ := ih
      have hca : (47 : UInt8) ∉ c :: a := by simp only [List.mem_cons, not_or]; exact ⟨fun e => h e.symm, ha⟩
      refine ⟨c :: a, hca, ?_⟩
      rcases hr with ⟨e1, -⟩ | ⟨r', e1, -⟩
      · left
        rw [e1]
        exact ⟨rfl, cutL_one _ hca⟩
      · right
        refine ⟨r', by rw [e1]; rfl, ?_⟩
        rw [e1]
        exact cutL_at (c :: a) r' hca

/-- A field with other kids. -/
def Se.sub (s : Se) (K : List Se) : Se := ⟨s.al, s.name, s.one, s.id, K⟩
theorem Se.sub_self (s : Se) : s.sub s.kids = s := by cases s; rfl
/-- What the program leaves of one field. -/
def oneI (wo jw : List UInt8) (s : Se) (K : List Se) : List Se := if jw = wo ∨ (s.kids ≠ [] ∧ K = []) then [] else [s.sub K]
/-- What the model leaves of one field. -/
def oneM (wy : List (List UInt8)) (s : Se) (K : List Se) : List Se := if (keyS s).toList = wy.headD [] then (if wy.length = 1 then [] else if K ≠ [] ∨ s.kids = [] then [s.sub K] else []) else [s]
/-- What is left of the first n, as the program goes. -/
def lessI : Nat → Way → List UInt8 → List Se → Nat → List Se
  | 0, _, _, _, _ => []
  | f + 1, ah, wo, ks, n => (List.range n).flatMap fun i => oneI wo (joinW (ah ++ [keyS (sth ks i)])) (sth ks i) (lessI f (ah ++ [keyS (sth ks i)]) wo (sth ks i).kids (sth ks i).kids.length)
theorem lessI_succ (f : Nat) (ah : Way) (wo : List UInt8) (ks : List Se) (n : Nat) : lessI (f + 1) ah wo ks (n + 1) = lessI (f + 1) ah wo ks n ++ oneI wo (joinW (ah ++ [keyS (sth ks n)])) (sth ks n) (lessI f (ah ++ [keyS (sth ks n)]) wo (sth ks n).kids (sth ks n).kids.length) := by
  simp [lessI, List.range_succ]
/-- What is left of the first n, as the model goes. -/
def lessM : Nat → List (List UInt8) → List Se → Nat → List Se
  | 0, _, _, _ => []
  | f + 1, wy, ks, n => (List.range n).flatMap fun i => oneM wy (sth ks i) (lessM f wy.tail (sth ks i).kids (sth ks i).kids.length)
theorem lessM_succ (f : Nat) (wy : List (List UInt8)) (ks : List Se) (n : Nat) : lessM (f + 1) wy ks (n + 1) = lessM (f + 1) wy ks n ++ oneM wy (sth ks n) (lessM f wy.tail (sth ks n).kids (sth ks n).kids.length) := by
  simp [lessM, List.range_succ]
/-- No name of a tree holds a slash. -/
def NoCut : Nat → List Se → Prop
  | 0, _ => True
  | f + 1, ks => ∀ i, i < ks.length → (47 : UInt8) ∉ (keyS (sth ks i)).toList ∧ NoCut f (sth ks i).kids
theorem sth_take (ks : List Se) (n : Nat) (h : n < ks.length) : ks.take n ++ [sth ks n] = ks.take (n + 1) := by
  rw [List.take_add_one]
  simp [sth, List.getD_eq_getElem?_getD, h]
theorem pfx_snoc (ah : Way) (k : ByteArray) : pfx (ah ++ [k]) = pfx ah ++ (k.toList ++ [47]) := by
  rw [pfx, if_neg (by simp), joinW_snoc, List.append_assoc]
theorem pre_of {a b c : List UInt8} (h : ¬ a <+: c) : ¬ a ++ b <+: c := fun h2 => h ((List.prefix_append a b).trans h2)
/-- Where the way leads elsewhere, all is left as it is. -/
theorem lessI_all : ∀ (f : Nat) (ah : Way) (wo : List UInt8) (ks : List Se) (n : Nat), n ≤ ks.length → FitS f ks → ¬ pfx ah <+: wo → lessI f ah wo ks n = ks.take n
  | 0, ah, wo, ks, n, hn, hf, hp => by
    have e : ks = [] := hf
    subst e
    simp [lessI]
  | f + 1, ah, wo, ks, 0, hn, hf, hp => by simp [lessI]
  | f + 1, ah, wo, ks, n + 1, hn, hf, hp => by
    have hk := lessI_all f (ah ++ [keyS (sth ks n)]) wo (sth ks n).kids _ (Nat.le_refl _) (hf n (by omega)) (by rw [pfx_snoc]; exact pre_of hp)
    rw [lessI_succ, lessI_all (f + 1) ah wo ks n (by omega) hf hp, hk, List.take_length, oneI, if_neg, Se.sub_self, ← sth_take ks n (by omega)]
    rintro (h | ⟨h1, h2⟩)
    · rw [joinW_snoc] at h
      exact hp (by rw [← h]; exact List.prefix_append _ _)
    · exact h1 h2
/-- Both leave the same. -/
theorem lessI_M : ∀ (f : Nat) (ah : Way) (r : List UInt8) (ks : List Se) (n : Nat), n ≤ ks.length → FitS f ks → NoCut f ks → lessI f ah (pfx ah ++ r) ks n = lessM f (cutL r) ks n
  | 0, ah, r, ks, n, hn, hf, hc => by simp [lessI, lessM]
  | f + 1, ah, r, ks, 0, hn, hf, hc => by simp [lessI, lessM]
  | f + 1, ah, r, ks, n + 1, hn, hf, hc => by
    rw [lessI_succ, lessM_succ, lessI_M (f + 1) ah r ks n (by omega) hf hc]
    congr 1
    have hk := (hc n (by omega)).1
    have hkc := (hc n (by omega)).2
    have hkf := hf n (by omega)
    generalize sth ks n = s at *
    obtain ⟨a, ha, hr⟩ := cutL_cases r
    have hhd : (cutL r).headD [] = a := by rcases hr with ⟨-, e⟩ | ⟨r', -, e⟩ <;> rw [e] <;> rfl
    unfold oneI oneM
    rw [hhd]
    by_cases hka : (keyS s).toList = a
    · rw [if_pos hka]
      rcases hr with ⟨e1, e2⟩ | ⟨r', e1, e2⟩
      · rw [e2, if_pos (show [a].length = 1 from rfl), if_pos]
        left
        rw [joinW_snoc, hka, e1]
      · have ih := lessI_M f (ah ++ [keyS s]) r' s.kids _ (Nat.le_refl _) hkf hkc
        have ep : pfx ah ++ r = pfx (ah ++ [keyS s]) ++ r' := by rw [pfx_snoc, hka, e1]; simp
        have hlen : ¬ (cutL r).length = 1 := by
          rw [e2]
          have := List.length_pos_iff.2 (cutL_ne r')
          simp only [List.length_cons]
          omega
        have hjn : ¬ joinW (ah ++ [keyS s]) = pfx ah ++ r := fun h => by
          rw [joinW_snoc, hka, e1] at h
          have := congrArg List.length h
          simp at this
        rw [← ep] at ih
        rw [if_neg hlen, ih, show (cutL r).tail = cutL r' by rw [e2]; rfl]
        generalize lessM f (cutL r') s.kids s.kids.length = K
        by_cases hK : K = [] <;> by_cases hs : s.kids = [] <;> simp [hK, hs, hjn]
    · rw [if_neg hka]
      have hnp : ¬ pfx (ah ++ [keyS s]) <+: pfx ah ++ r := fun h => by
        rw [pfx_snoc] at h
        obtain ⟨t, ht⟩ := h
        rw [List.append_assoc] at ht
        have ht := List.append_cancel_left ht
        have e3 : r = (keyS s).toList ++ 47 :: t := by rw [← ht]; simp
        have e4 := cutL_at (keyS s).toList t hk
        rw [← e3] at e4
        rw [e4] at hhd
        exact hka hhd
      have hall := lessI_all f (ah ++ [keyS s]) (pfx ah ++ r) s.kids _ (Nat.le_refl _) hkf hnp
      rw [hall, List.take_length, if_neg, Se.sub_self]
      rintro (h | ⟨h1, h2⟩)
      · rw [joinW_snoc] at h
        have e3 := List.append_cancel_left h
        have e4 := cutL_one (keyS s).toList hk
        rw [e3] at e4
        rw [e4] at hhd
        exact hka (by rw [e3]; exact hhd)
      · exact h1 h2
theorem noCut_of_ok : ∀ {f d : Nat} {ks : List Se}, okTo f d ks ks.length = true → NoCut f ks
  | 0, d, ks, h => trivial
  | f + 1, d, ks, h => fun i hi => by
    obtain ⟨h1, h2⟩ := okTo_at h hi
    exact ⟨name_cut (selB_key h1), noCut_of_ok h2⟩
/-- An ask without what is asked for along a way. -/
def askLess (f : Nat) (ks : List Se) (wo : List UInt8) : List Se := if askOk f ks = true then lessM f (cutL wo) ks ks.length else []
theorem cut_step {l : List UInt8} {fr k : Nat} (hf : fr ≤ k) (hk : k < l.length) (h : (47 : UInt8) ∉ (l.drop fr).take (k - fr)) :
    (l.getD k 0 = 47 → cutL (l.drop fr) = (l.drop fr).take (k - fr) :: cutL (l.drop (k + 1))) ∧ (l.getD k 0 ≠ 47 → (47 : UInt8) ∉ (l.drop fr).take (k + 1 - fr)) := by
  have e : l.drop fr = (l.drop fr).take (k - fr) ++ l.getD k 0 :: l.drop (k + 1) := by
    have e1 : (l.drop fr).drop (k - fr) = l.getD k 0 :: l.drop (k + 1) := by
      rw [List.drop_drop, show fr + (k - fr) = k by omega, List.drop_eq_getElem_cons hk, List.getD_eq_getElem?_getD, List.getElem?_eq_getElem hk]
      rfl
    rw [← e1, List.take_append_drop]
  constructor
  · intro h47
    rw [h47] at e
    conv => lhs; rw [e]
    exact cutL_at _ _ h
  · intro h47
    have e2 : (l.drop fr).take (k + 1 - fr) = (l.drop fr).take (k - fr) ++ [l.getD k 0] := by
      rw [show k + 1 - fr = (k - fr) + 1 by omega, List.take_add_one, List.getElem?_drop, show fr + (k - fr) = k by omega, List.getD_eq_getElem?_getD, List.getElem?_eq_getElem hk]
      rfl
    rw [e2, List.mem_append, List.mem_singleton]
    rintro (h1 | h1)
    · exact h h1
    · exact h47 h1.symm
theorem cut_end {l : List UInt8} {fr : Nat} (h : (47 : UInt8) ∉ (l.drop fr).take (l.length - fr)) : cutL (l.drop fr) = l.drop fr :: [] := by
  rw [List.take_of_length_le (by simp)] at h
  exact cutL_one _ h
end Go.Proofs.YtmeopghhgpbhpaaDoor

namespace Go.Proofs.YtmeopghhgpbhpaaDoor
set_option linter.unusedSimpArgs false
set_option linter.unusedVariables false
open Go.RowKit Go.Shelf Go.Maps

theorem byteAt_nat (s : ByteArray) (k : Nat) : byteAt s k = ((s.toList.getD k 0).toNat : Int) := by rw [ByteArray.toList_eq]; rfl
theorem byteAt_47 (s : ByteArray) (k : Nat) : byteAt s k = 47 ↔ s.toList.getD k 0 = 47 := by
  rw [byteAt_nat]
  constructor
  · intro h
    have h2 : (s.toList.getD k 0).toNat = 47 := by omega
    exact UInt8.toNat_inj.1 h2
  · intro h; rw [h]; rfl
theorem extract_l (s : ByteArray) (x y : Nat) : (s.extract x y).toList = (s.toList.drop x).take (y - x) := by
  rw [ByteArray.toList_eq, ByteArray.toList_eq]
  exact extract_list s.data.toList x y

set_option maxRecDepth 20000 in
set_option maxHeartbeats 3200000 in
theorem l2Cut_any (s : ByteArray) (w : World) (hs : s.size ≤ 1048576) :
    Calls Tryd.prog 43 #[.string s, .int .u8 47] w fun e w' => ∃ (ts : List ByteArray) (v : Value), e = .returned v ∧ Own9 w.heap.size ts v w' ∧ ts.map ByteArray.toList = cutL s.toList ∧ Below w.heap.size w w' := by
  obtain ⟨i0, hi0, hz0, hz1, hz2⟩ := info_parts info9
  have hsl : s.toList.length = s.size := by rw [ByteArray.toList_eq]; simp
  have HSL := hid_of hsl
  clear hsl
  go_enter Tryd.func43, Tryd.ntmps43
  go_wp2_with fail
  go_loopw [5, 6, 7] (fun o fr i wr => ∃ (k q : Nat) (ts : List ByteArray), k ≤ s.size ∧ q ≤ k ∧ i = .int .i64 k ∧ fr = .int .i64 q ∧ ts.length ≤ k ∧ Hid (Own9 w.heap.size ts o wr) ∧ Hid (cutL s.toList = ts.map ByteArray.toList ++ cutL (s.toList.drop q)) ∧ Hid ((47 : UInt8) ∉ (s.toList.drop q).take (k - q)) ∧ Below w.heap.size w wr) (fun _ _ i _ => s.size - (intOf i).toNat)
  case atStart =>
    refine ⟨0, 0, [], Nat.zero_le _, Nat.le_refl _, rfl, rfl, Nat.le_refl _, ?_, by simp [Hid], by simp [Hid], below_box _ _⟩
    exact ⟨w.heap.size, 0, rfl, by simp, Or.inr ⟨w.heap.size, 0, #[], rfl, Nat.le_refl _, heap_alloc_new w _, Nat.le_refl _, by unfold maxLen; omega, rfl, rfl⟩⟩
  case round =>
    obtain ⟨k, q, ts, hk, hq, rfl, rfl, htl, HO, HC, HN, hb⟩ := hrel
    obtain ⟨w2, rfl⟩ : ∃ x, x = wr := ⟨wr, rfl⟩
    have zb := hb.size
    obtain ⟨g, cap, rfl, hr3⟩ := HO.out
    by_cases hlt : k < s.size
    · have hki : (k : Int) < (s.size : Int) := by omega
      have hby := byteAt_get s k hlt
      have HST := hid_of (cut_step hq (by rw [HSL.out]; exact hlt) HN.out)
      by_cases h47 : byteAt s k = 47
      · have H4 := hid_of ((byteAt_47 s k).1 h47)
        go_wp2_with (
          at_builtin
          refine wpList_append_own _ rfl _ _ 31 rfl w.heap.size 9 i0 (.string ByteArray.empty) 1 16 Tryd.underlying31 hi0 hz0 hz1 hz2 rfl (by decide) _ ts.length _ rfl (hr3.alloc _) ⟨w2.heap.size, 0, none⟩ 1 1 [.string (s.extract q k)] rfl rfl (World.news_of_block (heap_alloc_new w2 _)) (by intro u hu; simp at hu; subst hu; rfl) (by unfold maxLen; omega) (by omega) (by simp; omega) ?_
          intro v' w4 hown hgrow hnn
          refine Hid.out ?_)
        refine hid_of ?_
        have z4 : w2.heap.size + 1 ≤ w4.heap.size := by have := hgrow.size; simpa using this
        have hb4 : Below w.heap.size w w4 := (hb.trans ((below_box w2 _).mono (by omega))).grown hgrow (by simp; omega) (fun j hj => (hr3.lt j hj).1)
        have hO4 : Own9 w.heap.size (ts ++ [s.extract q k]) v' w4 := Own9.of (n := ts.length + 1) (by simp) (by simpa using hown) (fun e => by cases (hnn.1 e).1)
        have HO4 := hid_of hO4
        obtain ⟨g4, cap4, rfl, -⟩ := hO4
        clear hown hgrow hnn
        go_wp2_with fail
        go_roundw
        case measure => simp [intOf]; omega
        case rel =>
          refine ⟨k + 1, k + 1, _, by omega, Nat.le_refl _, by go_num, by go_num, by simp; omega, HO4, hid_of ?_, hid_of (by simp), hb4⟩
          rw [HC.out, HST.out.1 H4.out, List.map_append, List.map_cons, List.map_nil, extract_l, List.append_assoc]
          rfl
      · have H4 := hid_of (fun h => h47 ((byteAt_47 s k).2 h))
        go_wp2_with fail
        go_roundw
        case measure => simp [intOf]; omega
        case rel => exact ⟨k + 1, q, ts, by omega, by omega, by go_num, rfl, by omega, HO, HC, hid_of (HST.out.2 H4.out), hb⟩
    · have ek : k = s.size := by omega
      subst ek
      have hqs : q ≤ s.size := hq
      have HE := hid_of (cut_end (l := s.toList) (fr := q) (by rw [HSL.out]; exact HN.out))
      go_wp2_with (
        at_builtin
        refine wpList_append_own _ rfl _ _ 31 rfl w.heap.size 9 i0 (.string ByteArray.empty) 1 16 Tryd.underlying31 hi0 hz0 hz1 hz2 rfl (by decide) _ ts.length _ rfl (hr3.alloc _) ⟨w2.heap.size, 0, none⟩ 1 1 [.string (s.extract q s.size)] rfl rfl (World.news_of_block (heap_alloc_new w2 _)) (by intro u hu; simp at hu; subst hu; rfl) (by unfold maxLen; omega) (by omega) (by simp; omega) ?_
        intro v' w4 hown hgrow hnn
        refine Hid.out ?_)
      refine hid_of ?_
      have z4 : w2.heap.size + 1 ≤ w4.heap.size := by have := hgrow.size; simpa using this
      have hb4 : Below w.heap.size w w4 := (hb.trans ((below_box w2 _).mono (by omega))).grown hgrow (by simp; omega) (fun j hj => (hr3.lt j hj).1)
      have hO4 : Own9 w.heap.size (ts ++ [s.extract q s.size]) v' w4 := Own9.of (n := ts.length + 1) (by simp) (by simpa using hown) (fun e => by cases (hnn.1 e).1)
      have HO4 := hid_of hO4
      obtain ⟨g4, cap4, rfl, -⟩ := hO4
      clear hown hgrow hnn
      go_wp2_with fail
      go_ret
      refine ⟨_, _, rfl, HO4.out, ?_, hb4⟩
      rw [HC.out, HE.out, List.map_append, List.map_cons, List.map_nil, extract_l, List.take_of_length_le (by rw [List.length_drop, HSL.out]; exact Nat.le_refl _)]
end Go.Proofs.YtmeopghhgpbhpaaDoor

namespace Go.Proofs.YtmeopghhgpbhpaaDoor
set_option linter.unusedSimpArgs false
set_option linter.unusedVariables false
open Go.RowKit Go.Shelf Go.Maps

/-- A field in a list: where its kids lie, and in which blocks. -/
structure El where
  s : Se
  ka : Option Addr
  kc : Nat
  Q : Nat → Prop
def El.cells (e : El) : List Value := [.string e.s.al, .string e.s.name, .bool e.s.one, .int .i64 e.s.id, .slice e.ka e.s.kids.length e.kc]
/-- A word about a list in memory that looks at blocks of a set alone. -/
def Looks (P : World → (Nat → Prop) → List Se → Option Addr → Prop) : Prop := ∀ (w w' : World) (Q : Nat → Prop) (ks : List Se) (a : Option Addr), P w Q ks a → (∀ b, Q b → w'.heap[b]? = w.heap[b]?) → P w' Q ks a
theorem looks_reps : Looks SeReps := fun w w' Q ks a h e => h.mono e
/-- A list of the call's own. -/
structure RowP (P : World → (Nat → Prop) → List Se → Option Addr → Prop) (base : Nat) (es : List El) (v : Value) (w : World) : Prop where
  row : w.ownsRow base 43 5 v es.length (es.flatMap El.cells)
  kid : ∀ e ∈ es, P w e.Q e.s.kids e.ka ∧ ∀ b, e.Q b → b < w.heap.size ∧ v.ownBlock ≠ some b
theorem RowP.nil {P : World → (Nat → Prop) → List Se → Option Addr → Prop} (base : Nat) (w : World) : RowP P base [] (.slice none 0 0) w := ⟨World.ownsRow_nil _ _ _ _, fun e he => by cases he⟩
theorem RowP.new {P : World → (Nat → Prop) → List Se → Option Addr → Prop} (w : World) : RowP P w.heap.size [] (.slice (some ⟨w.heap.size, 0, none⟩) 0 0) (w.alloc (.cells #[] 43)) :=
  ⟨⟨rfl, Or.inr ⟨w.heap.size, 0, #[], rfl, Nat.le_refl _, heap_alloc_new w _, Nat.le_refl _, by unfold maxLen; omega, rfl, rfl⟩⟩, fun e he => by cases he⟩
theorem RowP.form {P : World → (Nat → Prop) → List Se → Option Addr → Prop} {base : Nat} {es : List El} {v : Value} {w : World} (h : RowP P base es v w) (hn : ¬ v = .slice none 0 0) : ∃ g cap, v = .slice (some ⟨g, 0, none⟩) es.length cap := by
  rcases h.row.2 with ⟨e, -⟩ | ⟨g, cap, cur, e, -⟩
  · exact absurd e hn
  · exact ⟨g, cap, e⟩
theorem RowP.slice {P : World → (Nat → Prop) → List Se → Option Addr → Prop} {base : Nat} {es : List El} {v : Value} {w : World} (h : RowP P base es v w) : ∃ a cap, v = .slice a es.length cap := by
  rcases h.row.2 with ⟨e, e2⟩ | ⟨g, cap, cur, e, -⟩
  · exact ⟨none, 0, by rw [e, e2]⟩
  · exact ⟨_, cap, e⟩
theorem RowP.keep {P : World → (Nat → Prop) → List Se → Option Addr → Prop} (hP : Looks P) {base : Nat} {es : List El} {v : Value} {w w' : World} (h : RowP P base es v w) (hb : Below w.heap.size w w') : RowP P base es v w' := by
  refine ⟨owns_keep' h.row hb, fun e he => ?_⟩
  obtain ⟨h1, h2⟩ := h.kid e he
  exact ⟨hP _ _ _ _ _ h1 fun b hq => hb.block b (h2 b hq).1, fun b hq => ⟨Nat.lt_of_lt_of_le (h2 b hq).1 hb.size, (h2 b hq).2⟩⟩
theorem RowP.push {P : World → (Nat → Prop) → List Se → Option Addr → Prop} (hP : Looks P) {base : Nat} {es : List El} {v v' : Value} {w w' : World} (h : RowP P base es v w) (e : El) {xs : List Value} (hx : xs = e.cells) {n : Nat} (hn : n = es.length)
    (hr : w'.ownsRow base 43 5 v' (n + 1) (es.flatMap El.cells ++ xs)) (hg : w.grownBy w' v.ownBlock) (ho : v'.ownBlock = v.ownBlock ∨ v'.ownBlock = some w.heap.size)
    (hk : P w e.Q e.s.kids e.ka) (hq : ∀ b, e.Q b → b < w.heap.size ∧ v.ownBlock ≠ some b) : RowP P base (es ++ [e]) v' w' := by
  subst hx hn
  have hall : ∀ y ∈ es ++ [e], P w y.Q y.s.kids y.ka ∧ ∀ b, y.Q b → b < w.heap.size ∧ v.ownBlock ≠ some b := fun y hy => by
    rcases List.mem_append.1 hy with hy | hy
    · exact h.kid y hy
    · rw [List.mem_singleton.1 hy]; exact ⟨hk, hq⟩
  refine ⟨by simpa [List.flatMap_append] using hr, fun y hy => ?_⟩
  obtain ⟨h1, h2⟩ := hall y hy
  refine ⟨hP _ _ _ _ _ h1 fun b hb => hg.block b (h2 b hb).1 (h2 b hb).2.symm, fun b hb => ⟨Nat.lt_of_lt_of_le (h2 b hb).1 hg.size, fun e2 => ?_⟩⟩
  rcases ho with ho | ho
  · exact (h2 b hb).2 (ho ▸ e2)
  · rw [ho] at e2
    have := (h2 b hb).1
    simp at e2
    omega
theorem flat5 (es : List El) : ∀ (i j : Nat) (hi : i < es.length), j < 5 → (es.flatMap El.cells)[i * 5 + j]? = (es[i]).cells[j]? := by
  induction es with
  | nil => intro i j hi; simp at hi
  | cons e es ih =>
    intro i j hi hj
    rw [List.flatMap_cons]
    have hl : e.cells.length = 5 := rfl
    cases i with
    | zero => rw [List.getElem?_append_left (by omega)]; simp
    | succ i =>
      rw [List.getElem?_append_right (by omega), hl, show (i + 1) * 5 + j - 5 = i * 5 + j by omega]
      simpa using ih i j (by simpa using hi) hj
/-- The fields of a list of the call's own, as a tree in memory. -/
theorem RowP.reps {P : World → (Nat → Prop) → List Se → Option Addr → Prop} (hP : ∀ w Q ks a, P w Q ks a → SeReps w Q ks a) {base : Nat} {es : List El} {v : Value} {w : World} (h : RowP P base es v w) (hl : es.length ≤ 1000000) (hs : ∀ e ∈ es, e.s.al.size ≤ maxLen ∧ e.s.name.size ≤ maxLen) (R : Nat → Prop)
    (hR : ∀ b, (base ≤ b ∧ b < w.heap.size) → R b) (hRe : ∀ e ∈ es, ∀ b, e.Q b → R b) :
    ∃ a c, v = .slice a es.length c ∧ SeReps w R (es.map El.s) a := by
  rcases h.row.2 with ⟨rfl, h0⟩ | ⟨g, cap, cur, rfl, hb, hh, r⟩
  · have e : es = [] := List.length_eq_zero_iff.1 h0
    subst e
    exact ⟨none, 0, rfl, by simp, fun _ _ => .bool false, fun hn => by simp at hn, fun i hi => by simp at hi⟩
  · refine ⟨_, _, rfl, by simp; omega, fun i j => ((es.flatMap El.cells)[i * 5 + j]?).getD (.bool false), fun hn => ⟨g, 0, rfl, hR g ⟨hb, (Array.getElem?_eq_some_iff.1 hh).1⟩, fun i hi j hj => ?_⟩, fun i hi => ?_⟩
    · have hi' : i < es.length := by simpa using hi
      rw [Nat.zero_add, h.row.cellAt (i * 5 + j) (by omega)]
      have hlt : i * 5 + j < (es.flatMap El.cells).length := by rw [h.row.1]; omega
      show _ = some ((es.flatMap El.cells)[i * 5 + j]?.getD (.bool false))
      rw [List.getElem?_eq_getElem hlt]; rfl
    · have hi' : i < es.length := by simpa using hi
      have hm := List.getElem_mem hi'
      have c0 := flat5 es i 0 hi' (by omega)
      have c1 := flat5 es i 1 hi' (by omega)
      have c2 := flat5 es i 2 hi' (by omega)
      have c3 := flat5 es i 3 hi' (by omega)
      have c4 := flat5 es i 4 hi' (by omega)
      simp only
      rw [c0, c1, c2, c3, c4]
      have es1 : sth (es.map El.s) i = es[i].s := by simp [sth, List.getD_eq_getElem?_getD, hi']
      rw [es1]
      have hk := (hP _ _ _ _ (h.kid _ hm).1).sub (hRe _ hm)
      have hz := hs _ hm
      generalize es[i] = x at *
      simp only [El.cells, List.getElem?_cons_zero, List.getElem?_cons_succ, Option.getD_some]
      obtain ⟨⟨x1, x2, x3, x4, x5⟩, x6, x7, x8⟩ := x
      exact SeRep.of_kids hz.1 hz.2 hk
end Go.Proofs.YtmeopghhgpbhpaaDoor
