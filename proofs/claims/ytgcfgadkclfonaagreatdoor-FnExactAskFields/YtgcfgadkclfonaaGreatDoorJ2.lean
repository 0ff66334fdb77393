import Derived.Test.YtgcfgadkclfonaaGreatDoorJ1
import Derived.Test.YtgcfgadkclfonaaGreatDoorINames
namespace Go.Proofs.YtgcfgadkclfonaaGreatDoor
set_option linter.unusedSimpArgs false
set_option linter.unusedVariables false
open Go.RowKit

/-- As what a field is answered. -/
def keyS (s : Se) : ByteArray := if s.al.toList.isEmpty = true then s.name else s.al
/-- A field is ok, apart from those beside it and its kids. -/
def selB (s : Se) : Bool := nameB s.name && (s.al.toList.isEmpty || (nameB s.al && !(s.al.toList == s.name.toList))) && (s.one || decide (s.id = 0)) && (decide (0 ≤ s.id) && decide (s.id ≤ 999999))
/-- The first n of a list are answered under other names than a key. -/
def freeTo (ks : List Se) (k : ByteArray) (n : Nat) : Bool := (List.range n).all fun i => !((keyS (sth ks i)).toList == k.toList)
theorem freeTo_succ (ks : List Se) (k : ByteArray) (n : Nat) : freeTo ks k (n + 1) = (freeTo ks k n && !((keyS (sth ks n)).toList == k.toList)) := by simp [freeTo, List.range_succ]
/-- The first n of a list are ok, with all that is asked of them, at a depth; so many levels at most. -/
def okTo : Nat → Nat → List Se → Nat → Bool
  | 0, _, _, n => decide (n = 0)
  | f + 1, d, ks, n => (List.range n).all fun i => selB (sth ks i) && freeTo ks (keyS (sth ks i)) i && (((sth ks i).kids.isEmpty || decide (d + 1 ≤ 5)) && okTo f (d + 1) (sth ks i).kids (sth ks i).kids.length)
theorem okTo_succ (f d : Nat) (ks : List Se) (n : Nat) : okTo (f + 1) d ks (n + 1) = (okTo (f + 1) d ks n && (selB (sth ks n) && freeTo ks (keyS (sth ks n)) n && (((sth ks n).kids.isEmpty || decide (d + 1 ≤ 5)) && okTo f (d + 1) (sth ks n).kids (sth ks n).kids.length))) := by
  simp [okTo, List.range_succ]
/-- A tree has at most so many levels. -/
def FitS : Nat → List Se → Prop
  | 0, ks => ks = []
  | f + 1, ks => ∀ i, i < ks.length → FitS f (sth ks i).kids
theorem FitS.of_rep {w : World} {P : Nat → Prop} : ∀ {f : Nat} {x : Se} {v : Value}, SeN w P (f + 1) x v → FitS f x.kids
  | 0, x, v, h => by
    obtain ⟨ka, kc, C, -, -, -, -, -, hr⟩ := h
    cases e : x.kids with
    | nil => rfl
    | cons a l => exact (hr 0 (by rw [e]; simp)).elim
  | f + 1, x, v, h => by
    obtain ⟨ka, kc, C, -, -, -, -, -, hr⟩ := h
    exact fun i hi => FitS.of_rep (hr i hi)
/-- No text of a tree is longer than so much; so many levels. -/
def SmallS : Nat → List Se → Prop
  | 0, _ => True
  | f + 1, ks => ∀ i, i < ks.length → (sth ks i).al.size ≤ 1048576 ∧ (sth ks i).name.size ≤ 1048576 ∧ SmallS f (sth ks i).kids
/-- An ask is ok but for its text, as it is meant. -/
def askB (f : Nat) (ks : List Se) : Bool := !ks.isEmpty && okTo f 1 ks ks.length && decide (cntTo f ks ks.length ≤ 24)
/-- A way as a list of names. -/
abbrev Way := List ByteArray
/-- All that is asked for along a way, a field ahead of its kids. -/
def preTo : Nat → Way → List Se → Nat → List (Way × Se)
  | 0, _, _, _ => []
  | f + 1, ah, ks, n => (List.range n).flatMap fun i => (ah ++ [keyS (sth ks i)], sth ks i) :: preTo f (ah ++ [keyS (sth ks i)]) (sth ks i).kids (sth ks i).kids.length
theorem preTo_succ (f : Nat) (ah : Way) (ks : List Se) (n : Nat) : preTo (f + 1) ah ks (n + 1) = preTo (f + 1) ah ks n ++ (ah ++ [keyS (sth ks n)], sth ks n) :: preTo f (ah ++ [keyS (sth ks n)]) (sth ks n).kids (sth ks n).kids.length := by
  simp [preTo, List.range_succ]
theorem preTo_len : ∀ (f : Nat) (ah : Way) (ks : List Se) (n : Nat), n ≤ ks.length → FitS f ks → (preTo f ah ks n).length = cntTo f ks n
  | 0, ah, ks, n, hn, hf => by
    have : n = 0 := by have e : ks = [] := hf; rw [e] at hn; simpa using hn
    subst this
    simp [preTo, cntTo]
  | f + 1, ah, ks, 0, hn, hf => by simp [preTo, cntTo]
  | f + 1, ah, ks, n + 1, hn, hf => by
    rw [preTo_succ, cntTo_succ, List.length_append, preTo_len (f + 1) ah ks n (by omega) hf, List.length_cons, preTo_len f _ _ _ (Nat.le_refl _) (hf n (by omega)), cntSe_kids]
    omega
/-- A way as one text. -/
def joinW : Way → List UInt8
  | [] => []
  | [a] => a.toList
  | a :: b :: l => a.toList ++ 47 :: joinW (b :: l)
/-- What the program asks of a field that it comes to, behind others. -/
def stepB (ws : List (List UInt8)) (x : Way × Se) : Bool := decide (x.1.length ≤ 5) && decide (ws.length < 24) && selB x.2 && !(ws.contains (joinW x.1))
/-- The program's walk over what is asked for: nothing, if it is not ok. -/
def walkB : List (List UInt8) → List (Way × Se) → Bool
  | _, [] => true
  | ws, x :: l => stepB ws x && walkB (ws ++ [joinW x.1]) l
theorem walkB_all : ∀ (l : List (Way × Se)) (ws : List (List UInt8)), walkB ws l = true ↔ (∀ x ∈ l, x.1.length ≤ 5 ∧ selB x.2 = true ∧ joinW x.1 ∉ ws) ∧ (l ≠ [] → ws.length + l.length ≤ 24) ∧ (l.map fun x => joinW x.1).Nodup
  | [], ws => by simp [walkB]
  | x :: l, ws => by
    rw [walkB, Bool.and_eq_true, walkB_all l]
    simp only [stepB, Bool.and_eq_true, decide_eq_true_eq, Bool.not_eq_true', List.contains_eq_mem, decide_eq_false_iff_not, List.mem_append, List.mem_singleton, List.length_append, List.length_singleton, List.mem_cons, List.map_cons, List.nodup_cons, List.mem_map, List.length_cons, not_or, not_exists, not_and, List.not_mem_nil, not_false_eq_true, and_true, List.length_nil]
    constructor
    · rintro ⟨⟨⟨⟨h1, h2⟩, h3⟩, h4⟩, h5, h6, h7⟩
      refine ⟨fun y hy => ?_, fun _ => ?_, fun y hy e => ?_, h7⟩
      · rcases hy with rfl | hy
        · exact ⟨h1, h3, h4⟩
        · exact ⟨(h5 y hy).1, (h5 y hy).2.1, (h5 y hy).2.2.1⟩
      · cases l with
        | nil => simp; omega
        | cons a l => have := h6 (by simp); simp at this ⊢; omega
      · exact (h5 y hy).2.2.2 e
    · rintro ⟨h1, h2, h3, h4⟩
      have h2' := h2 (by simp)
      refine ⟨⟨⟨⟨(h1 x (Or.inl rfl)).1, by omega⟩, (h1 x (Or.inl rfl)).2.1⟩, (h1 x (Or.inl rfl)).2.2⟩, fun y hy => ⟨(h1 y (Or.inr hy)).1, (h1 y (Or.inr hy)).2.1, (h1 y (Or.inr hy)).2.2, fun e => h3 y hy e⟩, fun _ => by omega, h4⟩
/-- What is told along a way goes on behind it. -/
theorem preTo_ahead : ∀ (f : Nat) (ah : Way) (ks : List Se) (n : Nat) (x : Way × Se), x ∈ preTo f ah ks n → ∃ i, i < n ∧ ∃ l, x.1 = ah ++ keyS (sth ks i) :: l
  | 0, ah, ks, n, x, h => by simp [preTo] at h
  | f + 1, ah, ks, 0, x, h => by simp [preTo] at h
  | f + 1, ah, ks, n + 1, x, h => by
    rw [preTo_succ, List.mem_append, List.mem_cons] at h
    rcases h with h | h | h
    · obtain ⟨i, hi, l, e⟩ := preTo_ahead (f + 1) ah ks n x h
      exact ⟨i, by omega, l, e⟩
    · exact ⟨n, by omega, [], by rw [h]⟩
    · obtain ⟨i, hi, l, e⟩ := preTo_ahead f _ _ _ x h
      exact ⟨n, by omega, _, by rw [e, List.append_assoc]; rfl⟩
theorem preTo_head (f : Nat) (ah : Way) (ks : List Se) : ∀ (n i : Nat), i < n → (ah ++ [keyS (sth ks i)], sth ks i) ∈ preTo (f + 1) ah ks n
  | 0, i, h => by omega
  | n + 1, i, h => by
    rw [preTo_succ, List.mem_append, List.mem_cons]
    by_cases e : i = n
    · subst e; exact Or.inr (Or.inl rfl)
    · exact Or.inl (preTo_head f ah ks n i (by omega))
/-- A part of a list is told ahead of the rest. -/
theorem preTo_pre (f : Nat) (ah : Way) (ks : List Se) : ∀ (n k : Nat), k ≤ n → preTo (f + 1) ah ks k <+: preTo (f + 1) ah ks n
  | 0, k, h => by
    have e : k = 0 := by omega
    subst e
    exact List.prefix_rfl
  | n + 1, k, h => by
    by_cases e : k = n + 1
    · subst e; exact List.prefix_rfl
    · rw [preTo_succ]
      exact (preTo_pre f ah ks n k (by omega)).trans (List.prefix_append _ _)
theorem freeTo_iff (ks : List Se) (k : ByteArray) (n : Nat) : freeTo ks k n = true ↔ ∀ i, i < n → (keyS (sth ks i)).toList ≠ k.toList := by simp [freeTo, List.all_eq_true]
theorem bytesInj {a b : ByteArray} (h : a.toList = b.toList) : a = b := by
  cases a; cases b
  simpa [ByteArray.toList_eq] using h
/-- What is ok goes by what is told: every field is ok, none stands too deep, and no way comes twice. -/
theorem okTo_pre : ∀ (f d : Nat) (ah : Way) (ks : List Se) (n : Nat), ah.length + 1 = d → (0 < n → d ≤ 5) → n ≤ ks.length → FitS f ks →
    (okTo f d ks n = true ↔ (∀ x ∈ preTo f ah ks n, x.1.length ≤ 5 ∧ selB x.2 = true) ∧ ((preTo f ah ks n).map Prod.fst).Nodup)
  | 0, d, ah, ks, n, hd, h5, hn, hf => by
    have : n = 0 := by have e : ks = [] := hf; rw [e] at hn; simpa using hn
    subst this
    simp [okTo, preTo]
  | f + 1, d, ah, ks, 0, hd, h5, hn, hf => by simp [okTo, preTo]
  | f + 1, d, ah, ks, n + 1, hd, h5, hn, hf => by
    have ih := okTo_pre (f + 1) d ah ks n hd (fun h => h5 (by omega)) (by omega) hf
    have hd5 := h5 (by omega)
    have hfk := hf n (by omega)
    rw [okTo_succ, preTo_succ, Bool.and_eq_true, ih, List.map_append, List.map_cons, List.nodup_append, List.nodup_cons]
    generalize hs : sth ks n = s at *
    have hsub : ∀ hk : s.kids = [] ∨ d + 1 ≤ 5, (okTo f (d + 1) s.kids s.kids.length = true ↔ _) := fun hk => okTo_pre f (d + 1) (ah ++ [keyS s]) s.kids s.kids.length (by simp; omega) (fun h => by
      rcases hk with hk | hk
      · rw [hk] at h; simp at h
      · exact hk) (Nat.le_refl _) hfk
    have hroot : (ah ++ [keyS s]) ∉ (preTo f (ah ++ [keyS s]) s.kids s.kids.length).map Prod.fst := fun h => by
      obtain ⟨x, hx, e⟩ := List.mem_map.1 h
      obtain ⟨i, -, l, e2⟩ := preTo_ahead _ _ _ _ _ hx
      rw [e2] at e
      have := congrArg List.length e
      simp at this
    simp only [Bool.and_eq_true, Bool.or_eq_true, decide_eq_true_eq, List.isEmpty_iff]
    constructor
    · rintro ⟨⟨h1, h2⟩, ⟨⟨h3, h4⟩, h6, h7⟩⟩
      obtain ⟨h8, h9⟩ := (hsub h6).1 h7
      refine ⟨fun x hx => ?_, h2, ⟨hroot, h9⟩, fun a ha b hb => ?_⟩
      · rw [List.mem_append, List.mem_cons] at hx
        rcases hx with hx | hx | hx
        · exact h1 x hx
        · rw [hx]; exact ⟨by simp; omega, h3⟩
        · exact h8 x hx
      · obtain ⟨x, hx, rfl⟩ := List.mem_map.1 ha
        obtain ⟨i, hi, l, e1⟩ := preTo_ahead _ _ _ _ _ hx
        have hb' : ∃ l', b = ah ++ keyS s :: l' := by
          rcases List.mem_cons.1 hb with hb | hb
          · exact ⟨[], hb⟩
          · obtain ⟨y, hy, rfl⟩ := List.mem_map.1 hb
            obtain ⟨j, -, l', e2⟩ := preTo_ahead _ _ _ _ _ hy
            exact ⟨_, by rw [e2, List.append_assoc]; rfl⟩
        obtain ⟨l', e2⟩ := hb'
        intro e
        rw [e1, e2] at e
        have := List.append_cancel_left e
        simp only [List.cons.injEq] at this
        exact (freeTo_iff _ _ _).1 h4 i hi (by rw [this.1])
    · rintro ⟨h1, h2, ⟨-, h3⟩, h4⟩
      have hs1 := h1 (ah ++ [keyS s], s) (by rw [List.mem_append, List.mem_cons]; exact Or.inr (Or.inl rfl))
      have h6 : s.kids = [] ∨ d + 1 ≤ 5 := by
        by_cases hk : s.kids = []
        · exact Or.inl hk
        · right
          have hl : 0 < s.kids.length := List.length_pos_iff.2 hk
          cases f with
          | zero => exact absurd hfk hk
          | succ f =>
            have := (h1 _ (by rw [List.mem_append, List.mem_cons]; exact Or.inr (Or.inr (preTo_head f (ah ++ [keyS s]) s.kids _ 0 hl)))).1
            simp at this
            omega
      refine ⟨⟨fun x hx => h1 x (by rw [List.mem_append]; exact Or.inl hx), h2⟩, ⟨⟨hs1.2, ?_⟩, h6, (hsub h6).2 ⟨fun x hx => h1 x (by rw [List.mem_append, List.mem_cons]; exact Or.inr (Or.inr hx)), h3⟩⟩⟩
      rw [freeTo_iff]
      intro i hi e
      refine h4 (ah ++ [keyS (sth ks i)]) (List.mem_map.2 ⟨_, preTo_head f ah ks n i hi, rfl⟩) (ah ++ [keyS s]) (by simp) ?_
      rw [bytesInj e]
theorem cut_at {a a' x y : List UInt8} (ha : 47 ∉ a) (ha' : 47 ∉ a') (h : a ++ 47 :: x = a' ++ 47 :: y) : a = a' ∧ x = y := by
  induction a generalizing a' with
  | nil =>
    cases a' with
    | nil => simpa using h
    | cons b l => simp only [List.nil_append, List.cons_append, List.cons.injEq] at h; exact absurd (by rw [← h.1]; simp) ha'
  | cons b l ih =>
    cases a' with
    | nil => simp only [List.nil_append, List.cons_append, List.cons.injEq] at h; exact absurd (by rw [h.1]; simp) ha
    | cons b' l' =>
      simp only [List.cons_append, List.cons.injEq] at h
      obtain ⟨e1, e2⟩ := ih (fun hm => ha (List.mem_cons_of_mem _ hm)) (fun hm => ha' (List.mem_cons_of_mem _ hm)) h.2
      exact ⟨by rw [h.1, e1], e2⟩
/-- Ways of names are the same if their texts are. -/
theorem joinW_inj : ∀ (u v : Way), u ≠ [] → v ≠ [] → (∀ a ∈ u, (47 : UInt8) ∉ a.toList) → (∀ a ∈ v, (47 : UInt8) ∉ a.toList) → joinW u = joinW v → u = v
  | [], _, h, _, _, _, _ => absurd rfl h
  | _, [], _, h, _, _, _ => absurd rfl h
  | [a], [b], _, _, _, _, e => by rw [bytesInj (show a.toList = b.toList from e)]
  | [a], b :: c :: l, _, _, ha, _, e => by
    have e' : a.toList = b.toList ++ 47 :: joinW (c :: l) := e
    exact absurd (by rw [e']; simp) (ha a (by simp))
  | a :: c :: l, [b], _, _, _, hb, e => by
    have e' : a.toList ++ 47 :: joinW (c :: l) = b.toList := e
    exact absurd (by rw [← e']; simp) (hb b (by simp))
  | a :: c :: l, b :: d :: m, _, _, ha, hb, e => by
    have e' : a.toList ++ 47 :: joinW (c :: l) = b.toList ++ 47 :: joinW (d :: m) := e
    obtain ⟨e1, e2⟩ := cut_at (ha a (by simp)) (hb b (by simp)) e'
    have e3 := joinW_inj (c :: l) (d :: m) (by simp) (by simp) (fun x hx => ha x (List.mem_cons_of_mem _ hx)) (fun x hx => hb x (List.mem_cons_of_mem _ hx)) e2
    rw [bytesInj e1, e3]
theorem wordTo_at (s : ByteArray) : ∀ n i, i < n → wordTo s n = true → wbB (byteAt s i) = true
  | 0, i, h, _ => by omega
  | n + 1, i, h, hw => by
    rw [wordTo_succ, Bool.and_eq_true] at hw
    by_cases e : i = n
    · subst e; exact hw.2
    · exact wordTo_at s n i (by omega) hw.1
theorem name_cut {s : ByteArray} (h : nameB s = true) : (47 : UInt8) ∉ s.toList := by
  simp only [nameB, Bool.and_eq_true] at h
  have hw := h.1.1.1.1.1.1.1.1.1.1
  simp only [wordB, Bool.and_eq_true] at hw
  intro hm
  rw [ByteArray.toList_eq] at hm
  obtain ⟨i, hi, e⟩ := List.mem_iff_getElem.1 hm
  have h1 := wordTo_at s s.size i (by simpa using hi) hw.2
  have h2 : byteAt s i = 47 := by
    unfold byteAt
    rw [List.getD_eq_getElem?_getD, List.getElem?_eq_getElem hi, e]
    rfl
  rw [h2] at h1
  revert h1
  decide
theorem selB_key {s : Se} (h : selB s = true) : nameB (keyS s) = true := by
  simp only [selB, Bool.and_eq_true, Bool.or_eq_true] at h
  unfold keyS
  split
  · exact h.1.1.1
  · rename_i hne
    rcases h.1.1.2 with h1 | h1
    · exact absurd h1 hne
    · exact h1.1
/-- All along a way that is told is answered under names. -/
theorem preTo_names : ∀ (f : Nat) (ah : Way) (ks : List Se) (n : Nat), (∀ x ∈ preTo f ah ks n, selB x.2 = true) → (∀ a ∈ ah, nameB a = true) → ∀ x ∈ preTo f ah ks n, ∀ a ∈ x.1, nameB a = true
  | 0, ah, ks, n, h, ha, x, hx => by simp [preTo] at hx
  | f + 1, ah, ks, 0, h, ha, x, hx => by simp [preTo] at hx
  | f + 1, ah, ks, n + 1, h, ha, x, hx => by
    rw [preTo_succ] at h hx
    have hk : nameB (keyS (sth ks n)) = true := selB_key (h (ah ++ [keyS (sth ks n)], sth ks n) (by simp))
    have hak : ∀ a ∈ ah ++ [keyS (sth ks n)], nameB a = true := fun a hm => by
      rcases List.mem_append.1 hm with hm | hm
      · exact ha a hm
      · rw [List.mem_singleton.1 hm]; exact hk
    rcases List.mem_append.1 hx with hx | hx
    · exact preTo_names (f + 1) ah ks n (fun y hy => h y (List.mem_append.2 (Or.inl hy))) ha x hx
    · rcases List.mem_cons.1 hx with hx | hx
      · rw [hx]; exact hak
      · exact preTo_names f _ _ _ (fun y hy => h y (List.mem_append.2 (Or.inr (List.mem_cons_of_mem _ hy)))) hak x hx
theorem nodup_map_on {α β : Type} (g : α → β) : ∀ (l : List α), (∀ x ∈ l, ∀ y ∈ l, g x = g y → x = y) → l.Nodup → (l.map g).Nodup
  | [], _, _ => by simp
  | a :: l, h, hn => by
    rw [List.nodup_cons] at hn
    rw [List.map_cons, List.nodup_cons]
    refine ⟨fun hm => ?_, nodup_map_on g l (fun x hx y hy => h x (List.mem_cons_of_mem _ hx) y (List.mem_cons_of_mem _ hy)) hn.2⟩
    obtain ⟨b, hb, e⟩ := List.mem_map.1 hm
    have := h b (List.mem_cons_of_mem _ hb) a (by simp) e
    exact hn.1 (this ▸ hb)
theorem nodup_of_map {α β : Type} (g : α → β) : ∀ (l : List α), (l.map g).Nodup → l.Nodup
  | [], _ => by simp
  | a :: l, h => by
    rw [List.map_cons, List.nodup_cons] at h
    rw [List.nodup_cons]
    exact ⟨fun hm => h.1 (List.mem_map.2 ⟨a, hm, rfl⟩), nodup_of_map g l h.2⟩
/-- What the program asks is what is meant. -/
theorem askB_walk (f : Nat) (ks : List Se) (hf : FitS f ks) : askB f ks = (!ks.isEmpty && walkB [] (preTo f [] ks ks.length)) := by
  unfold askB
  rw [Bool.and_assoc]
  congr 1
  rw [Bool.eq_iff_iff, Bool.and_eq_true, decide_eq_true_eq, okTo_pre f 1 [] ks ks.length rfl (fun _ => by omega) (Nat.le_refl _) hf, walkB_all, ← preTo_len f [] ks ks.length (Nat.le_refl _) hf]
  generalize hl : preTo f [] ks ks.length = l
  constructor
  · rintro ⟨⟨h1, h2⟩, h3⟩
    refine ⟨fun x hx => ⟨(h1 x hx).1, (h1 x hx).2, by simp⟩, fun _ => by simpa using h3, ?_⟩
    have hn := preTo_names f [] ks ks.length (by rw [hl]; exact fun x hx => (h1 x hx).2) (by simp)
    rw [hl] at hn
    have e : (l.map fun x => joinW x.1) = (l.map Prod.fst).map joinW := by rw [List.map_map]; rfl
    rw [e]
    refine nodup_map_on joinW _ (fun u hu v hv huv => ?_) h2
    obtain ⟨x, hx, rfl⟩ := List.mem_map.1 hu
    obtain ⟨y, hy, rfl⟩ := List.mem_map.1 hv
    have hne : ∀ z ∈ l, z.1 ≠ [] := fun z hz => by
      rw [← hl] at hz
      obtain ⟨i, -, m, e⟩ := preTo_ahead _ _ _ _ _ hz
      rw [e]; simp
    exact joinW_inj _ _ (hne x hx) (hne y hy) (fun a ha => name_cut (hn x hx a ha)) (fun a ha => name_cut (hn y hy a ha)) huv
  · rintro ⟨h1, h2, h3⟩
    refine ⟨⟨fun x hx => ⟨(h1 x hx).1, (h1 x hx).2.1⟩, ?_⟩, ?_⟩
    · have e : (l.map fun x => joinW x.1) = (l.map Prod.fst).map joinW := by rw [List.map_map]; rfl
      rw [e] at h3
      exact nodup_of_map joinW _ h3
    · by_cases hl0 : l = []
      · rw [hl0]; simp
      · have := h2 hl0
        simpa using this
end Go.Proofs.YtgcfgadkclfonaaGreatDoor

namespace Go.Proofs.YtgcfgadkclfonaaGreatDoor
set_option linter.unusedSimpArgs false
set_option linter.unusedVariables false
open Go.RowKit

/-- A number as figures. -/
def decL (n : Nat) : List UInt8 := if h : n < 10 then [UInt8.ofNat (48 + n)] else decL (n / 10) ++ [UInt8.ofNat (48 + n % 10)]
termination_by n
decreasing_by omega
theorem decL_small {n : Nat} (h : n < 10) : decL n = [UInt8.ofNat (48 + n)] := by rw [decL, dif_pos h]
theorem decL_big {n : Nat} (h : ¬ n < 10) : decL n = decL (n / 10) ++ [UInt8.ofNat (48 + n % 10)] := by rw [decL, dif_neg h]
theorem decL_len : ∀ (d n : Nat), n < 10 ^ (d + 1) → (decL n).length ≤ d + 1
  | d, n, h => by
    by_cases hn : n < 10
    · rw [decL_small hn]; simp
    · rw [decL_big hn]
      cases d with
      | zero => simp at h; omega
      | succ d =>
        have := decL_len d (n / 10) (by rw [Nat.pow_succ] at h; omega)
        simp; omega
/-- A field without what is asked of it. -/
def headL (s : Se) : List UInt8 := (if s.al.toList.isEmpty = true then [] else s.al.toList ++ [58]) ++ s.name.toList ++ (if s.one = true then 40 :: decL s.id.toNat ++ [41] else [])
/-- The first n of a list of fields as they are written, behind the bracket; so many levels at most. -/
def txtTo : Nat → List Se → Nat → List UInt8
  | 0, _, _ => []
  | f + 1, ks, n => (List.range n).flatMap fun i => (if i = 0 then [] else [44]) ++ headL (sth ks i) ++ (if (sth ks i).kids.isEmpty = true then [] else 123 :: txtTo f (sth ks i).kids (sth ks i).kids.length ++ [125])
theorem txtTo_succ (f : Nat) (ks : List Se) (n : Nat) : txtTo (f + 1) ks (n + 1) = txtTo (f + 1) ks n ++ ((if n = 0 then [] else [44]) ++ headL (sth ks n) ++ (if (sth ks n).kids.isEmpty = true then [] else 123 :: txtTo f (sth ks n).kids (sth ks n).kids.length ++ [125])) := by
  simp [txtTo, List.range_succ]
/-- An ask as it is written. -/
def txtL (f : Nat) (ks : List Se) : List UInt8 := 123 :: txtTo f ks ks.length ++ [125]
theorem name_size {s : ByteArray} (h : nameB s = true) : s.size ≤ 8 := by
  simp only [nameB, Bool.and_eq_true, decide_eq_true_eq] at h
  exact h.1.1.1.1.1.1.1.1.1.2
theorem toList_len (s : ByteArray) : s.toList.length = s.size := by rw [ByteArray.toList_eq]; simp
theorem selB_id {s : Se} (h : selB s = true) : 0 ≤ s.id ∧ s.id ≤ 999999 := by
  simp only [selB, Bool.and_eq_true, decide_eq_true_eq] at h
  exact h.2
/-- A field that is ok takes at most so much. -/
theorem headL_len {s : Se} (h : selB s = true) : (headL s).length ≤ 25 := by
  have hid := selB_id h
  have h1 := decL_len 5 s.id.toNat (by omega)
  simp only [selB, Bool.and_eq_true, Bool.or_eq_true] at h
  have h2 := name_size h.1.1.1
  have h3 := toList_len s.name
  have h4 : (if s.al.toList.isEmpty = true then ([] : List UInt8) else s.al.toList ++ [58]).length ≤ 9 := by
    split
    · simp
    · rename_i hne
      rcases h.1.1.2 with h5 | h5
      · exact absurd h5 hne
      · have := name_size h5.1
        have := toList_len s.al
        simp; omega
  have h5 : (if s.one = true then 40 :: decL s.id.toNat ++ [41] else []).length ≤ 8 := by
    split
    · simp; omega
    · simp
  unfold headL
  rw [List.length_append, List.length_append]
  omega
/-- Fields that are ok take at most so much, each with what stands around it. -/
theorem txtTo_len : ∀ (f d : Nat) (ks : List Se) (n : Nat), n ≤ ks.length → FitS f ks → okTo f d ks n = true → (txtTo f ks n).length ≤ 28 * cntTo f ks n
  | 0, d, ks, n, hn, hf, h => by simp [txtTo]
  | f + 1, d, ks, 0, hn, hf, h => by simp [txtTo]
  | f + 1, d, ks, n + 1, hn, hf, h => by
    rw [okTo_succ] at h
    simp only [Bool.and_eq_true] at h
    obtain ⟨h1, ⟨h2, -⟩, -, h3⟩ := h
    have i1 := txtTo_len (f + 1) d ks n (by omega) hf h1
    have i2 := txtTo_len f (d + 1) (sth ks n).kids _ (Nat.le_refl _) (hf n (by omega)) h3
    have i3 := headL_len h2
    rw [txtTo_succ, cntTo_succ, cntSe_kids]
    have e1 : (if n = 0 then ([] : List UInt8) else [44]).length ≤ 1 := by split <;> simp
    have e2 : (if (sth ks n).kids.isEmpty = true then ([] : List UInt8) else 123 :: txtTo f (sth ks n).kids (sth ks n).kids.length ++ [125]).length ≤ 2 + (txtTo f (sth ks n).kids (sth ks n).kids.length).length := by
      split
      · simp
      · simp; omega
    rw [List.length_append, List.length_append, List.length_append]
    omega
end Go.Proofs.YtgcfgadkclfonaaGreatDoor

namespace Go.Proofs.YtgcfgadkclfonaaGreatDoor
set_option linter.unusedSimpArgs false
set_option linter.unusedVariables false
open Go.RowKit

theorem hid_of {q : Prop} (h : q) : Hid q := h
theorem box_at {W : World} {b : Nat} {cs : Array Value} {T : TypeId} (h : W.heap[b]? = some (.cells cs T (0, 0))) (i : Nat) (hi : i < cs.size) : W.cell? ⟨b, i, none⟩ = some cs[i] ∧ W.frozen? ⟨b, i, none⟩ = false := by
  refine ⟨?_, frozen_of_row W b i cs T h⟩
  rw [cell_of_row W b i cs T (0, 0) h]
  simp [hi]
theorem block_new {w : World} {N : Nat} (c : Array Value) (T : TypeId) (h : w.heap.size = N) : (w.alloc (.cells c T)).heap[N]? = some (.cells c T (0, 0)) := by subst h; exact heap_alloc_new w _
theorem block_old {w : World} {N : Nat} {x : Option Obj} (o : Obj) (h : w.heap[N]? = x) (hn : N < w.heap.size) : (w.alloc o).heap[N]? = x := ((below_box w o).block N hn).trans h
theorem set_box {w : World} {N : Nat} {cs : Array Value} {T : TypeId} (h : w.heap[N]? = some (.cells cs T (0, 0))) (i : Nat) (d : Value) : (w.setCell ⟨N, i, none⟩ d).heap[N]? = some (.cells (cs.setIfInBounds i d) T (0, 0)) := by
  show (w.heap.modify N _)[N]? = _
  rw [Array.getElem?_modify]
  simp [h]
end Go.Proofs.YtgcfgadkclfonaaGreatDoor
