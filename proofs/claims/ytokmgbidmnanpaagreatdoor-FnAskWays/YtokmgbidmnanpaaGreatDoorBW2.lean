import Derived.Test.YtokmgbidmnanpaaGreatDoorBW1
import Derived.Test.YtokmgbidmnanpaaGreatDoorB25
import Derived.Test.YtokmgbidmnanpaaGreatDoorB1
import Derived.Deep.QuietTactic
import Derived.BigQuiet
set_option linter.unusedSimpArgs false
set_option linter.unusedVariables false
namespace Go.Proofs.YtokmgbidmnanpaaGreatDoor
open Go.RowKit
def cutL : List UInt8 → List (List UInt8)
  | [] => [] :: []
  | c :: l => if c = 47 then [] :: cutL l else match cutL l with
    | [] => [c] :: []
    | h :: t => (c :: h) :: t
theorem cutL_ne : ∀ l, cutL l ≠ []
  | [] => by simp [cutL]
  | c :: l => by
    unfold cutL
    split
    · simp
    · split <;> simp
theorem cutL_at : ∀ (a : List UInt8) (r : List UInt8), (47 : UInt8) ∉ a → cutL (a ++ 47 :: r) = a :: cutL r
  | [], r, _ => by simp [cutL]
  | c :: l, r, h => by
    have h1 : c ≠ 47 := fun e => h (by simp [e])
    have ih := cutL_at l r (fun hm => h (List.mem_cons_of_mem _ hm))
    simp only [List.cons_append]
    rw [cutL, if_neg h1, ih]
theorem cutL_one : ∀ (a : List UInt8), (47 : UInt8) ∉ a → cutL a = [a]
  | [], _ => by simp [cutL]
  | c :: l, h => by
    have h1 : c ≠ 47 := fun e => h (by simp [e])
    rw [cutL, if_neg h1, cutL_one l (fun hm => h (List.mem_cons_of_mem _ hm))]
theorem cutL_cases (r : List UInt8) : ∃ a, (47 : UInt8) ∉ a ∧ ((r = a ∧ cutL r = [a]) ∨ ∃ r', r = a ++ 47 :: r' ∧ cutL r = a :: cutL r') := by
  induction r with
  | nil => exact ⟨[], by simp, Or.inl ⟨rfl, rfl⟩⟩
  | cons c l ih =>
    by_cases h : c = 47
    · subst h
      exact ⟨[], by simp, Or.inr ⟨l, rfl, by simp [cutL]⟩⟩
    · obtain ⟨a, ha, hr⟩ := ih
      have hca : (47 : UInt8) ∉ c :: a := by simp only [List.mem_cons, not_or]; exact ⟨fun e => h e.symm, ha⟩
      refine ⟨c :: a, hca, ?_⟩
      rcases hr with ⟨e1, -⟩ | ⟨r', e1, -⟩
      · left
        rw [e1]
        exact ⟨rfl, cutL_one _ hca⟩
      · right
        refine ⟨r', by rw [e1]; rfl, ?_⟩
        rw [e1]
        exact cutL_at (c :: a) r' hca
def oneI (wo jw : List UInt8) (s : Se) (K : List Se) : List Se := if jw = wo ∨ (s.kids ≠ [] ∧ K = []) then [] else [s.sub K]
def oneM (wy : List (List UInt8)) (s : Se) (K : List Se) : List Se := if (keyS s).toList = wy.headD [] then (if wy.length = 1 then [] else if K ≠ [] ∨ s.kids = [] then [s.sub K] else []) else [s]
def lessI : Nat → Way → List UInt8 → List Se → Nat → List Se
  | 0, _, _, _, _ => []
  | f + 1, ah, wo, ks, n => (List.range n).flatMap fun i => oneI wo (joinW (ah ++ [keyS (sth ks i)])) (sth ks i) (lessI f (ah ++ [keyS (sth ks i)]) wo (sth ks i).kids (sth ks i).kids.length)
theorem lessI_succ (f : Nat) (ah : Way) (wo : List UInt8) (ks : List Se) (n : Nat) : lessI (f + 1) ah wo ks (n + 1) = lessI (f + 1) ah wo ks n ++ oneI wo (joinW (ah ++ [keyS (sth ks n)])) (sth ks n) (lessI f (ah ++ [keyS (sth ks n)]) wo (sth ks n).kids (sth ks n).kids.length) := by
  simp [lessI, List.range_succ]
def lessM : Nat → List (List UInt8) → List Se → Nat → List Se
  | 0, _, _, _ => []
  | f + 1, wy, ks, n => (List.range n).flatMap fun i => oneM wy (sth ks i) (lessM f wy.tail (sth ks i).kids (sth ks i).kids.length)
theorem lessM_succ (f : Nat) (wy : List (List UInt8)) (ks : List Se) (n : Nat) : lessM (f + 1) wy ks (n + 1) = lessM (f + 1) wy ks n ++ oneM wy (sth ks n) (lessM f wy.tail (sth ks n).kids (sth ks n).kids.length) := by
  simp [lessM, List.range_succ]
def NoCut : Nat → List Se → Prop
  | 0, _ => True
  | f + 1, ks => ∀ i, i < ks.length → (47 : UInt8) ∉ (keyS (sth ks i)).toList ∧ NoCut f (sth ks i).kids
theorem pfx_snoc (ah : Way) (k : ByteArray) : pfx (ah ++ [k]) = pfx ah ++ (k.toList ++ [47]) := by
  rw [pfx, if_neg (by simp), joinW_snoc, List.append_assoc]
theorem pre_of {a b c : List UInt8} (h : ¬ a <+: c) : ¬ a ++ b <+: c := fun h2 => h ((List.prefix_append a b).trans h2)
theorem lessI_all : ∀ (f : Nat) (ah : Way) (wo : List UInt8) (ks : List Se) (n : Nat), n ≤ ks.length → FitS f ks → ¬ pfx ah <+: wo → lessI f ah wo ks n = ks.take n
  | 0, ah, wo, ks, n, hn, hf, hp => by
    have e : ks = [] := hf
    subst e
    simp [lessI]
  | f + 1, ah, wo, ks, 0, hn, hf, hp => by simp [lessI]
  | f + 1, ah, wo, ks, n + 1, hn, hf, hp => by
    have hk := lessI_all f (ah ++ [keyS (sth ks n)]) wo (sth ks n).kids _ (Nat.le_refl _) (hf n (by omega)) (by rw [pfx_snoc]; exact pre_of hp)
    rw [lessI_succ, lessI_all (f + 1) ah wo ks n (by omega) hf hp, hk, List.take_length, oneI, if_neg, Se.sub_self, ← sth_take ks n (by omega)]
    rintro (h | ⟨h1, h2⟩)
    · rw [joinW_snoc] at h
      exact hp (by rw [← h]; exact List.prefix_append _ _)
    · exact h1 h2
theorem lessI_M : ∀ (f : Nat) (ah : Way) (r : List UInt8) (ks : List Se) (n : Nat), n ≤ ks.length → FitS f ks → NoCut f ks → lessI f ah (pfx ah ++ r) ks n = lessM f (cutL r) ks n
  | 0, ah, r, ks, n, hn, hf, hc => by simp [lessI, lessM]
  | f + 1, ah, r, ks, 0, hn, hf, hc => by simp [lessI, lessM]
  | f + 1, ah, r, ks, n + 1, hn, hf, hc => by
    rw [lessI_succ, lessM_succ, lessI_M (f + 1) ah r ks n (by omega) hf hc]
    congr 1
    have hk := (hc n (by omega)).1
    have hkc := (hc n (by omega)).2
    have hkf := hf n (by omega)
    generalize sth ks n = s at *
    obtain ⟨a, ha, hr⟩ := cutL_cases r
    have hhd : (cutL r).headD [] = a := by rcases hr with ⟨-, e⟩ | ⟨r', -, e⟩ <;> rw [e] <;> rfl
    unfold oneI oneM
    rw [hhd]
    by_cases hka : (keyS s).toList = a
    · rw [if_pos hka]
      rcases hr with ⟨e1, e2⟩ | ⟨r', e1, e2⟩
      · rw [e2, if_pos (show [a].length = 1 from rfl), if_pos]
        left
        rw [joinW_snoc, hka, e1]
      · have ih := lessI_M f (ah ++ [keyS s]) r' s.kids _ (Nat.le_refl _) hkf hkc
        have ep : pfx ah ++ r = pfx (ah ++ [keyS s]) ++ r' := by rw [pfx_snoc, hka, e1]; simp
        have hlen : ¬ (cutL r).length = 1 := by
          rw [e2]
          have := List.length_pos_iff.2 (cutL_ne r')
          simp only [List.length_cons]
          omega
        have hjn : ¬ joinW (ah ++ [keyS s]) = pfx ah ++ r := fun h => by
          rw [joinW_snoc, hka, e1] at h
          have := congrArg List.length h
          simp at this
        rw [← ep] at ih
        rw [if_neg hlen, ih, show (cutL r).tail = cutL r' by rw [e2]; rfl]
        generalize lessM f (cutL r') s.kids s.kids.length = K
        by_cases hK : K = [] <;> by_cases hs : s.kids = [] <;> simp [hK, hs, hjn]
    · rw [if_neg hka]
      have hnp : ¬ pfx (ah ++ [keyS s]) <+: pfx ah ++ r := fun h => by
        rw [pfx_snoc] at h
        obtain ⟨t, ht⟩ := h
        rw [List.append_assoc] at ht
        have ht := List.append_cancel_left ht
        have e3 : r = (keyS s).toList ++ 47 :: t := by rw [← ht]; simp
        have e4 := cutL_at (keyS s).toList t hk
        rw [← e3] at e4
        rw [e4] at hhd
        exact hka hhd
      have hall := lessI_all f (ah ++ [keyS s]) (pfx ah ++ r) s.kids _ (Nat.le_refl _) hkf hnp
      rw [hall, List.take_length, if_neg, Se.sub_self]
      rintro (h | ⟨h1, h2⟩)
      · rw [joinW_snoc] at h
        have e3 := List.append_cancel_left h
        have e4 := cutL_one (keyS s).toList hk
        rw [e3] at e4
        rw [e4] at hhd
        exact hka (by rw [e3]; exact hhd)
      · exact h1 h2
theorem noCut_of_ok : ∀ {f d : Nat} {ks : List Se}, okTo f d ks ks.length = true → NoCut f ks
  | 0, d, ks, h => trivial
  | f + 1, d, ks, h => fun i hi => by
    obtain ⟨h1, h2⟩ := okTo_at h hi
    exact ⟨name_cut (selB_key h1), noCut_of_ok h2⟩
def askLess (f : Nat) (ks : List Se) (wo : List UInt8) : List Se := if askOk f ks = true then lessM f (cutL wo) ks ks.length else []
theorem cut_step {l : List UInt8} {fr k : Nat} (hf : fr ≤ k) (hk : k < l.length) (h : (47 : UInt8) ∉ (l.drop fr).take (k - fr)) :
    (l.getD k 0 = 47 → cutL (l.drop fr) = (l.drop fr).take (k - fr) :: cutL (l.drop (k + 1))) ∧ (l.getD k 0 ≠ 47 → (47 : UInt8) ∉ (l.drop fr).take (k + 1 - fr)) := by
  have e : l.drop fr = (l.drop fr).take (k - fr) ++ l.getD k 0 :: l.drop (k + 1) := by
    have e1 : (l.drop fr).drop (k - fr) = l.getD k 0 :: l.drop (k + 1) := by
      rw [List.drop_drop, show fr + (k - fr) = k by omega, List.drop_eq_getElem_cons hk, List.getD_eq_getElem?_getD, List.getElem?_eq_getElem hk]
      rfl
    rw [← e1, List.take_append_drop]
  constructor
  · intro h47
    rw [h47] at e
    conv => lhs; rw [e]
    exact cutL_at _ _ h
  · intro h47
    have e2 : (l.drop fr).take (k + 1 - fr) = (l.drop fr).take (k - fr) ++ [l.getD k 0] := by
      rw [show k + 1 - fr = (k - fr) + 1 by omega, List.take_add_one, List.getElem?_drop, show fr + (k - fr) = k by omega, List.getD_eq_getElem?_getD, List.getElem?_eq_getElem hk]
      rfl
    rw [e2, List.mem_append, List.mem_singleton]
    rintro (h1 | h1)
    · exact h h1
    · exact h47 h1.symm
theorem cut_end {l : List UInt8} {fr : Nat} (h : (47 : UInt8) ∉ (l.drop fr).take (l.length - fr)) : cutL (l.drop fr) = l.drop fr :: [] := by
  rw [List.take_of_length_le (by simp)] at h
  exact cutL_one _ h
end Go.Proofs.YtokmgbidmnanpaaGreatDoor
namespace Go.Proofs.YtokmgbidmnanpaaGreatDoor
open Go.RowKit Go.Shelf Go.Maps
theorem sub_self (s : Se) : s.sub s.kids = s := by obtain ⟨a, b, c, d, e⟩ := s; rfl
theorem dpt_cnt : ∀ (f : Nat) (ks : List Se) (n : Nat), dpt f ks n ≤ cntTo f ks n
  | 0, ks, n => by simp [dpt]
  | f + 1, ks, 0 => by simp [dpt]
  | f + 1, ks, n + 1 => by
    have h1 := dpt_cnt (f + 1) ks n
    have h2 := dpt_cnt f (sth ks n).kids (sth ks n).kids.length
    rw [dpt, cntTo_succ, cntSe_kids]
    omega
theorem askOk_facts {f : Nat} {a : List Se} (hf : FitS f a) (h : askOk f a = true) : 0 < a.length ∧ (askWays f a).length = cntTo f a a.length ∧ cntTo f a a.length ≤ 24 ∧ 1 ≤ askDep f a ∧ askDep f a ≤ 5 ∧ askDep f a ≤ (askWays f a).length ∧ (askWays f a).Nodup := by
  have hb : askB f a = true := by unfold askOk at h; rw [Bool.and_eq_true] at h; exact h.1
  have hw := hb
  rw [askB_walk f a hf, Bool.and_eq_true, walkB_all] at hw
  obtain ⟨-, h1, -, h3⟩ := hw
  unfold askB at hb
  rw [Bool.and_eq_true, Bool.and_eq_true, decide_eq_true_eq] at hb
  have hne : a ≠ [] := by
    intro e
    subst e
    simp at hb
  have hpos : 0 < a.length := List.length_pos_iff.2 hne
  have hws : askWays f a = (preTo f [] a a.length).map fun x => joinW x.1 := by unfold askWays; rw [if_pos h]
  have hlen : (askWays f a).length = cntTo f a a.length := by rw [hws, List.length_map, preTo_len f [] a a.length (Nat.le_refl _) hf]
  have hd : askDep f a = dpt f a a.length := by unfold askDep; rw [if_pos h]
  have ht := top_pre f [] a a.length hf (Nat.le_refl _)
  rw [if_neg (by omega)] at ht
  simp only [List.length_nil, Nat.zero_add] at ht
  have htop : ∀ l : List (Way × Se), (∀ x ∈ l, x.1.length ≤ 5) → top l ≤ 5 := by
    intro l
    induction l with
    | nil => intro _; simp [top]
    | cons x l ih => intro hx; rw [top]; have := ih (fun y hy => hx y (List.mem_cons_of_mem _ hy)); have := hx x (List.mem_cons_self ..); omega
  have h5 := htop _ fun x hx => (h1 x hx).1
  have h1d : 1 ≤ dpt f a a.length := by
    cases f with
    | zero => exact absurd hf hne
    | succ f =>
      obtain ⟨n, hn⟩ : ∃ n, a.length = n + 1 := ⟨a.length - 1, by omega⟩
      rw [hn, dpt]
      omega
  have hc := dpt_cnt f a a.length
  refine ⟨hpos, hlen, hb.2, by omega, by omega, by omega, by rw [hws]; exact h3⟩
end Go.Proofs.YtokmgbidmnanpaaGreatDoor
namespace Go.Proofs.YtokmgbidmnanpaaGreatDoor
open Go.RowKit
theorem preTo_flat (f : Nat) (ah : Way) (ks : List Se) : preTo (f + 1) ah ks ks.length = ks.flatMap fun s => (ah ++ [keyS s], s) :: preTo f (ah ++ [keyS s]) s.kids s.kids.length := by
  have e : ks = (List.range ks.length).map (sth ks) := by
    apply List.ext_getElem
    · simp
    · intro i h1 h2
      simp only [List.getElem_map, List.getElem_range]
      rw [sth_get h1]
  show (List.range ks.length).flatMap _ = _
  conv => rhs; rw [e]
  rw [List.flatMap_map]
theorem preTo_app (f : Nat) (ah : Way) (a b : List Se) : preTo (f + 1) ah (a ++ b) (a ++ b).length = preTo (f + 1) ah a a.length ++ preTo (f + 1) ah b b.length := by
  rw [preTo_flat, preTo_flat, preTo_flat, List.flatMap_append]
theorem pfx_slash (ah : Way) (k : ByteArray) : joinW (ah ++ [k]) ++ [47] = pfx (ah ++ [k]) := by
  rw [pfx, if_neg (by simp)]
theorem off_step {ah : Way} {k : ByteArray} {wo : List UInt8} (h : ¬ (wo ++ [47]) <+: pfx ah) (hk : (47 : UInt8) ∉ k.toList) (hne : joinW (ah ++ [k]) ≠ wo) : ¬ (wo ++ [47]) <+: pfx (ah ++ [k]) := by
  rw [pfx_snoc]
  intro hp
  by_cases hl : (wo ++ [47]).length ≤ (pfx ah).length
  · exact h (List.prefix_of_prefix_length_le hp (List.prefix_append _ _) hl)
  · have h2 : pfx ah <+: wo ++ [47] := List.prefix_of_prefix_length_le (List.prefix_append _ _) hp (by omega)
    obtain ⟨t, ht⟩ := h2
    rw [← ht] at hp
    have hp := (List.prefix_append_right_inj _).1 hp
    have htn : t ≠ [] := by
      intro e
      subst e
      have := congrArg List.length ht
      simp only [List.append_nil] at this
      omega
    obtain ⟨t0, c, rfl⟩ : ∃ t0 c, t = t0 ++ [c] := ⟨t.dropLast, t.getLast htn, (List.dropLast_concat_getLast htn).symm⟩
    rw [← List.append_assoc] at ht
    have e1 := List.append_inj ht (by have := congrArg List.length ht; simp at this ⊢; omega)
    have hc : c = 47 := by simpa using e1.2
    subst hc
    by_cases hl2 : t0.length + 1 ≤ k.toList.length
    · have h3 : t0 ++ [47] <+: k.toList := List.prefix_of_prefix_length_le hp (List.prefix_append _ _) (by simpa using hl2)
      exact hk (h3.subset (by simp))
    · have e2 : t0 ++ [47] = k.toList ++ [47] := hp.eq_of_length_le (by simp; omega)
      have e3 : t0 = k.toList := (List.append_inj e2 (by have := congrArg List.length e2; simp at this; exact this)).1
      apply hne
      rw [joinW_snoc, ← e1.1, e3]
theorem oneI_mem {wo jw : List UInt8} {s x : Se} {K : List Se} (h : x ∈ oneI wo jw s K) : x = s.sub K ∧ jw ≠ wo := by
  unfold oneI at h
  split at h
  · cases h
  · next hn => exact ⟨by simpa using h, fun e => hn (Or.inl e)⟩
theorem lessI_mem {f : Nat} {ah : Way} {wo : List UInt8} {ks : List Se} {x : Se} : ∀ {n : Nat}, x ∈ lessI (f + 1) ah wo ks n → ∃ i, i < n ∧ x = (sth ks i).sub (lessI f (ah ++ [keyS (sth ks i)]) wo (sth ks i).kids (sth ks i).kids.length) ∧ joinW (ah ++ [keyS (sth ks i)]) ≠ wo
  | 0, h => by simp [lessI] at h
  | n + 1, h => by
    rw [lessI_succ, List.mem_append] at h
    rcases h with h | h
    · obtain ⟨i, hi, h2⟩ := lessI_mem h
      exact ⟨i, by omega, h2⟩
    · exact ⟨n, by omega, oneI_mem h⟩
theorem lessI_off : ∀ (f : Nat) (ah : Way) (wo : List UInt8) (ks : List Se), NoCut f ks → ¬ (wo ++ [47]) <+: pfx ah →
    ∀ x ∈ preTo f ah (lessI f ah wo ks ks.length) (lessI f ah wo ks ks.length).length, ¬ (wo ++ [47]) <+: (joinW x.1 ++ [47])
  | 0, ah, wo, ks, hc, h, x, hx => by simp [preTo] at hx
  | f + 1, ah, wo, ks, hc, h, x, hx => by
    rw [preTo_flat, List.mem_flatMap] at hx
    obtain ⟨s, hs, hx⟩ := hx
    obtain ⟨i, hi, rfl, hne⟩ := lessI_mem hs
    have hstep := off_step h (hc i hi).1 hne
    rw [List.mem_cons] at hx
    rcases hx with rfl | hx
    · show ¬ _ <+: joinW (ah ++ [keyS (sth ks i)]) ++ [47]
      rw [pfx_slash]
      exact hstep
    · exact lessI_off f _ wo _ (hc i hi).2 hstep x hx
theorem lessI_many : ∀ (f : Nat) (ah ah' : Way) (wo : List UInt8) (ks : List Se) (n : Nat), (preTo f ah' (lessI f ah wo ks n) (lessI f ah wo ks n).length).length ≤ (preTo f ah' ks n).length
  | 0, ah, ah', wo, ks, n => by simp [preTo]
  | f + 1, ah, ah', wo, ks, 0 => by simp [lessI, preTo]
  | f + 1, ah, ah', wo, ks, n + 1 => by
    have h1 := lessI_many (f + 1) ah ah' wo ks n
    have h2 := lessI_many f (ah ++ [keyS (sth ks n)]) (ah' ++ [keyS (sth ks n)]) wo (sth ks n).kids (sth ks n).kids.length
    rw [lessI_succ, preTo_app, preTo_succ, List.length_append, List.length_append, List.length_cons]
    generalize sth ks n = s at *
    have h3 : (preTo (f + 1) ah' (oneI wo (joinW (ah ++ [keyS s])) s (lessI f (ah ++ [keyS s]) wo s.kids s.kids.length)) (oneI wo (joinW (ah ++ [keyS s])) s (lessI f (ah ++ [keyS s]) wo s.kids s.kids.length)).length).length ≤ 1 + (preTo f (ah' ++ [keyS s]) (lessI f (ah ++ [keyS s]) wo s.kids s.kids.length) (lessI f (ah ++ [keyS s]) wo s.kids s.kids.length).length).length := by
      unfold oneI
      split
      · simp [preTo]
      · rw [preTo_flat]
        simp only [List.flatMap_cons, List.flatMap_nil, List.append_nil, List.length_cons]
        show _ + 1 ≤ 1 + _
        exact Nat.le_of_eq (Nat.add_comm _ _)
    omega
theorem askLess_off {f : Nat} {ks : List Se} (hf : FitS f ks) (wo : List UInt8) : (∀ t ∈ askWays f (askLess f ks wo), ¬ (wo ++ [47]) <+: (t ++ [47])) ∧ (askWays f (askLess f ks wo)).length ≤ (askWays f ks).length := by
  by_cases h : askOk f ks = true
  · have hb : askB f ks = true := by unfold askOk at h; rw [Bool.and_eq_true] at h; exact h.1
    have ho : okTo f 1 ks ks.length = true := by unfold askB at hb; rw [Bool.and_eq_true, Bool.and_eq_true] at hb; exact hb.1.2
    have hc := noCut_of_ok ho
    have e : askLess f ks wo = lessI f [] wo ks ks.length := by
      have e := lessI_M f [] wo ks _ (Nat.le_refl _) hf hc
      rw [pfx_nil, List.nil_append] at e
      rw [askLess, if_pos h, e]
    rw [e]
    have h1 := lessI_off f [] wo ks hc (by rw [pfx_nil]; simp)
    have h2 := lessI_many f [] [] wo ks ks.length
    constructor
    · intro t ht
      unfold askWays at ht
      split at ht
      · obtain ⟨x, hx, rfl⟩ := List.mem_map.1 ht
        exact h1 x hx
      · cases ht
    · unfold askWays
      rw [if_pos h]
      split
      · simpa using h2
      · simp
  · have e : askLess f ks wo = [] := by rw [askLess, if_neg h]
    rw [e]
    have e2 : askWays f [] = [] := by unfold askWays; cases f <;> simp [preTo]
    rw [e2]
    exact ⟨fun t ht => (by cases ht), Nat.zero_le _⟩
theorem askWays_nodup {f : Nat} {ks : List Se} (hf : FitS f ks) : (askWays f ks).Nodup := by
  by_cases h : askOk f ks = true
  · exact (askOk_facts hf h).2.2.2.2.2.2
  · unfold askWays
    rw [if_neg h]
    exact List.nodup_nil
theorem joinW_lenM (m : Nat) : ∀ way : Way, (∀ a ∈ way, a.size ≤ m) → (joinW way).length ≤ (m + 1) * way.length
  | [], _ => by simp [joinW]
  | [a], h => by
    have := h a (by simp)
    rw [joinW, toList_len]; simp; omega
  | a :: b :: l, h => by
    have h1 := h a (by simp)
    have ih := joinW_lenM m (b :: l) (fun x hx => h x (List.mem_cons_of_mem _ hx))
    rw [joinW, List.length_append, List.length_cons, toList_len]
    simp only [List.length_cons] at ih ⊢
    have e : (m + 1) * (l.length + 1 + 1) = (m + 1) * (l.length + 1) + (m + 1) := Nat.mul_succ _ _
    omega
theorem askWays_small {f : Nat} {ks : List Se} (hf : FitS f ks) : ∀ t ∈ askWays f ks, t.length ≤ 45 := by
  intro t ht
  unfold askWays at ht
  split at ht
  · next h =>
    have hb : askB f ks = true := by unfold askOk at h; rw [Bool.and_eq_true] at h; exact h.1
    have ho : okTo f 1 ks ks.length = true := by unfold askB at hb; rw [Bool.and_eq_true, Bool.and_eq_true] at hb; exact hb.1.2
    rw [askB_walk f ks hf, Bool.and_eq_true, walkB_all] at hb
    obtain ⟨-, h1, -, h3⟩ := hb
    obtain ⟨x, hx, rfl⟩ := List.mem_map.1 ht
    have h5 := (h1 x hx).1
    have h6 := joinW_lenM 8 x.1 (fun a ha => name_size (preTo_names f [] ks ks.length (fun y hy => (h1 y hy).2.1) (by simp) x hx a ha))
    omega
  · cases ht
end Go.Proofs.YtokmgbidmnanpaaGreatDoor
namespace Go.Proofs.YtokmgbidmnanpaaGreatDoor
open Go.RowKit
set_option maxHeartbeats 400000 in
theorem wpWords_any (ns : List ByteArray) (a a' : Option Addr) (c c' : Nat) (w : World) (P P' : Nat → Prop) (hS : Strs w P ns a) (hS' : Strs w P' ns a') :
    Calls Tryz.prog 21 #[.slice a ns.length c, .slice a' ns.length c'] w fun e w' => e = .returned (.bool true) ∧ ∃ n, w' = w.drewN n := by
  obtain ⟨h1, h2, h3⟩ := hS
  obtain ⟨g1, -, -⟩ := hS'
  unfold maxLen at h3
  by_cases hn0 : ns.length = 0
  · have hns : ns = [] := by simpa using hn0
    subst hns
    go_enter Tryz.func21, Tryz.ntmps21
    go_wp2
    go_loop [5] (fun i => i = .int .i64 0) (fun _ => 0)
    case atStart => rfl
    case round =>
      subst hrel
      go_wp2
      go_ret
      exact ⟨rfl, 0, rfl⟩
  · obtain ⟨b, off, rfl, _, hc⟩ := h1 (by intro e; simp [e] at hn0)
    obtain ⟨b', off', rfl, _, hc'⟩ := g1 (by intro e; simp [e] at hn0)
    clear h1 h2 g1
    go_enter Tryz.func21, Tryz.ntmps21
    go_wp2
    go_loopw [5] (fun i wr => ∃ k m : Nat, k ≤ ns.length ∧ i = .int .i64 k ∧ wr = w.drewN m) (fun i _ => ns.length - (intOf i).toNat)
    case atStart => exact ⟨0, 0, Nat.zero_le _, rfl, rfl⟩
    case round =>
      obtain ⟨k, m, hk, rfl, rfl⟩ := hrel
      by_cases hlt : k < ns.length
      · have hck := hc k hlt
        have hck' := hc' k hlt
        clear hc hc'
        go_wp2
        go_quiet (fail)
        go_wp2
        go_roundw
        case rel => exact ⟨k + 1, _, by omega, by go_num, rfl⟩
        case measure => simp [intOf]; omega
      · go_wp2
        go_ret
        exact ⟨rfl, m, rfl⟩
end Go.Proofs.YtokmgbidmnanpaaGreatDoor
