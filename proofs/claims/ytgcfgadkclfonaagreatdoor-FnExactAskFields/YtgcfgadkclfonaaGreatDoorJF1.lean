import Derived.Test.YtgcfgadkclfonaaGreatDoorJ5
import Derived.Test.YtgcfgadkclfonaaGreatDoorJ7
import Derived.Test.YtgcfgadkclfonaaGreatDoorJ13
import Derived.Deep.AppendLies
import Derived.Test.YtgcfgadkclfonaaGreatDoorIPart
import Derived.Test.YtgcfgadkclfonaaGreatDoorJ19
import Derived.Deep.RegionHeld3
import Derived.LoopIn
import Derived.Test.YtgcfgadkclfonaaGreatDoorJ3
import Derived.Test.YtgcfgadkclfonaaGreatDoorJ15
namespace Go.Proofs.YtgcfgadkclfonaaGreatDoor
set_option linter.unusedSimpArgs false
set_option linter.unusedVariables false
open Go.RowKit

/-- A text is in a list. -/
def tmT (l : List ByteArray) (t : ByteArray) : Bool := (l.map ByteArray.toList).contains t.toList
/-- A text is added once. -/
def addT (l : List ByteArray) (t : ByteArray) : List ByteArray := if tmT l t = true then l else l ++ [t]
def addAll (l ts : List ByteArray) : List ByteArray := ts.foldl addT l
/-- The text of a field of a type. -/
def fldT (nm n : ByteArray) : ByteArray := nm ++ ⟨#[46]⟩ ++ n
/-- What is added for a field. -/
def ofF (nm : ByteArray) (g : F) : List ByteArray := fldT nm g.name :: g.needs.map (fldT nm)
/-- The fields that an ask looks at, as the model goes, behind others. -/
def fieldsM (p : Pt) : Nat → ByteArray → List Se → Nat → List ByteArray → List ByteArray
  | 0, _, _, _, out => out
  | _ + 1, _, _, 0, out => out
  | f + 1, nm, ks, n + 1, out => fieldsM p f (fldF p nm (sth ks n).name).of (sth ks n).kids (sth ks n).kids.length (addAll (fieldsM p (f + 1) nm ks n out) (ofF nm (fldF p nm (sth ks n).name)))
/-- One field more, as the program goes. -/
def stepD (p : Pt) (out : List ByteArray) (y : Way × Se × ByteArray) : List ByteArray := addAll out (fldT y.2.2 y.2.1.name :: (fldF p y.2.2 y.2.1.name).needs.map (fldT y.2.2))
def fieldsF (p : Pt) (out : List ByteArray) (l : List (Way × Se × ByteArray)) : List ByteArray := l.foldl (stepD p) out
theorem fieldsF_app (p : Pt) (out : List ByteArray) (l m : List (Way × Se × ByteArray)) : fieldsF p out (l ++ m) = fieldsF p (fieldsF p out l) m := by simp [fieldsF, List.foldl_append]
theorem ba_inj {a b : ByteArray} (h : a.toList = b.toList) : a = b := by
  rw [ByteArray.toList_eq, ByteArray.toList_eq] at h
  cases a; cases b
  simp only at h
  rw [Array.toList_inj.1 h]
theorem fault_zero {p : Pt} {nm : ByteArray} {s : Se} (h : faultC p nm s = 0) : (fldF p nm s.name).name = s.name := by
  have hb : fldB p nm s.name = true := by
    unfold faultC faultG at h
    cases hb : fldB p nm s.name
    · rw [hb] at h; simp at h
    · rfl
  unfold fldB at hb
  have hb := of_decide_eq_true hb
  unfold fldF fieldOr
  rw [if_pos hb]
  unfold fieldIx at hb ⊢
  rcases firstTo_cases (fun i => (fth (typeOr p nm).fields i).name.toList == s.name.toList) (typeOr p nm).fields.length with ⟨e, -⟩ | ⟨k, e, hk, hpk, -⟩
  · rw [e] at hb; omega
  · rw [e]
    simp only [Int.toNat_natCast]
    exact ba_inj (by simpa using hpk)
/-- The program's fields are the model's. -/
theorem fields_walk (p : Pt) : ∀ (f : Nat) (ah : Way) (nm : ByteArray) (ks : List Se) (n : Nat) (T out : List ByteArray), n ≤ ks.length → ah.length < T.length → nth T ah.length = nm → firstBad p (askF p T (preTo f ah ks n)) = none →
    fieldsF p out (askF p T (preTo f ah ks n)) = fieldsM p f nm ks n out
  | 0, ah, nm, ks, n, T, out, hn, hl, hT, hb => by simp [preTo, askF, fieldsF, fieldsM]
  | f + 1, ah, nm, ks, 0, T, out, hn, hl, hT, hb => by simp [preTo, askF, fieldsF, fieldsM]
  | f + 1, ah, nm, ks, n + 1, T, out, hn, hl, hT, hb => by
    obtain ⟨-, h2, h3⟩ := ask_walk p (f + 1) ah nm ks n T (by omega) hl hT
    rw [preTo_succ, askF_app, firstBad_app] at hb
    have hb1 : firstBad p (askF p T (preTo (f + 1) ah ks n)) = none := by
      cases h : firstBad p (askF p T (preTo (f + 1) ah ks n)) with
      | none => rfl
      | some x => rw [h] at hb; simp at hb
    rw [hb1] at hb
    simp only at hb
    have g := fields_walk p (f + 1) ah nm ks n T out (by omega) hl hT hb1
    rw [preTo_succ, askF_app, fieldsF_app, g]
    generalize tyF p T (preTo (f + 1) ah ks n) = U at h2 h3 hb ⊢
    have hUT : nth U ah.length = nm := by
      have e : U.getD ah.length ByteArray.empty = T.getD ah.length ByteArray.empty := by
        have e2 := congrArg (fun l => l.getD ah.length ByteArray.empty) h2
        simpa [List.getD_eq_getElem?_getD, List.getElem?_take] using e2
      have : nth U ah.length = nth T ah.length := e
      rw [this, hT]
    have hxl : (ah ++ [keyS (sth ks n)]).length = ah.length + 1 := by simp
    have hnm : nth U ((ah ++ [keyS (sth ks n)]).length - 1) = nm := by rw [hxl]; exact hUT
    have hV : tyS p U (ah ++ [keyS (sth ks n)], sth ks n) = U.take (ah.length + 1) ++ [(fldF p nm (sth ks n).name).of] := by
      unfold tyS
      simp only
      rw [hnm, hxl]
    have hVl : (U.take (ah.length + 1) ++ [(fldF p nm (sth ks n).name).of]).length = ah.length + 2 := by simp; omega
    rw [askF, hV] at hb ⊢
    simp only at hb ⊢
    rw [hnm] at hb ⊢
    rw [firstBad_cons] at hb
    have hf0 : faultC p nm (sth ks n) = 0 := by
      by_cases h : faultC p nm (sth ks n) = 0
      · exact h
      · simp [h] at hb
    simp only [hf0, ne_eq, not_true_eq_false, if_false] at hb
    have hst : ∀ l, fieldsF p (fieldsM p (f + 1) nm ks n out) ((ah ++ [keyS (sth ks n)], sth ks n, nm) :: l) = fieldsF p (addAll (fieldsM p (f + 1) nm ks n out) (ofF nm (fldF p nm (sth ks n).name))) l := fun l => by
      unfold fieldsF
      rw [List.foldl_cons]
      congr 1
      unfold stepD ofF
      simp only
      rw [fault_zero hf0]
    rw [hst, fieldsM]
    exact fields_walk p f (ah ++ [keyS (sth ks n)]) (fldF p nm (sth ks n).name).of (sth ks n).kids (sth ks n).kids.length (U.take (ah.length + 1) ++ [(fldF p nm (sth ks n).name).of]) _ (Nat.le_refl _) (by rw [hxl, hVl]; omega) (by
      rw [hxl]
      unfold nth
      rw [List.getD_eq_getElem?_getD, List.getElem?_append_right (by rw [List.length_take]; omega), List.length_take, Nat.min_eq_left (by omega)]
      simp) hb
end Go.Proofs.YtgcfgadkclfonaaGreatDoor

namespace Go.Proofs.YtgcfgadkclfonaaGreatDoor
set_option linter.unusedSimpArgs false
set_option linter.unusedVariables false
open Go.RowKit Go.Shelf Go.Maps

/-- A row of a call's own, gathered on: nothing else is changed. -/
structure Grew (w : World) (v : Value) (w' : World) (v' : Value) : Prop where
  size : w.heap.size ≤ w'.heap.size
  os : w'.os = w.os
  tape : w'.tape = w.tape
  output : w'.output = w.output
  block : ∀ b, b < w.heap.size → v.ownBlock ≠ some b → w'.heap[b]? = w.heap[b]?
  lies : v'.ownBlock = v.ownBlock ∨ ∃ g, v'.ownBlock = some g ∧ w.heap.size ≤ g
theorem Grew.refl (w : World) (v : Value) : Grew w v w v := ⟨Nat.le_refl _, rfl, rfl, rfl, fun _ _ _ => rfl, Or.inl rfl⟩
theorem Grew.below {w w' : World} (v : Value) (h : Below w.heap.size w w') : Grew w v w' v := ⟨h.size, h.os, h.tape, h.output, fun b hb _ => h.block b hb, Or.inl rfl⟩
theorem Grew.trans {a b c : World} {u v x : Value} (h : Grew a u b v) (k : Grew b v c x) : Grew a u c x := by
  refine ⟨Nat.le_trans h.size k.size, k.os.trans h.os, k.tape.trans h.tape, k.output.trans h.output, fun b' hb hn => (k.block b' (Nat.lt_of_lt_of_le hb h.size) fun e => ?_).trans (h.block b' hb hn), ?_⟩
  · rcases h.lies with e2 | ⟨g, e2, hg⟩
    · exact hn (e2 ▸ e)
    · rw [e2] at e; simp only [Option.some.injEq] at e; omega
  · rcases k.lies with e | ⟨g, e, hg⟩
    · rcases h.lies with e2 | ⟨g, e2, hg⟩
      · exact Or.inl (e.trans e2)
      · exact Or.inr ⟨g, e.trans e2, hg⟩
    · exact Or.inr ⟨g, e, Nat.le_trans h.size hg⟩
theorem Grew.on {B : Nat} {a w w' : World} {v v' : Value} (h : Grew w v w' v') (hb : Below B a w) (ho : ∀ k, v.ownBlock = some k → B ≤ k) (hB : B ≤ a.heap.size) : Below B a w' :=
  ⟨h.os.trans hb.os, h.tape.trans hb.tape, h.output.trans hb.output, Nat.le_trans hb.size h.size, fun b hlt => (h.block b (by have := hb.size; omega) fun e => by have := ho b e; omega).trans (hb.block b hlt)⟩
/-- Texts in a row of a call's own. -/
def Row9 (base : Nat) (w : World) (v : Value) (l : List ByteArray) : Prop := w.ownsRow base 9 1 v l.length (l.map Value.string) ∧ (∀ i, (nth l i).size ≤ maxLen) ∧ l.length ≤ 1000000000
theorem Row9.strs {base : Nat} {w : World} {v : Value} {l : List ByteArray} (h : Row9 base w v l) : ∃ a c, v = .slice a l.length c ∧ Strs w (fun b => base ≤ b ∧ b < w.heap.size) l a := by
  obtain ⟨h1, h2, h3⟩ := h
  have hlt := h1.lt
  rcases h1.2 with ⟨rfl, h0⟩ | ⟨g, cap, cur, rfl, hb, hh, hn, -⟩
  · have e : l = [] := List.length_eq_zero_iff.1 h0
    subst e
    exact ⟨none, 0, rfl, fun h => absurd rfl h, fun i => by simp [nth, maxLen], by simp⟩
  · refine ⟨some ⟨g, 0, none⟩, cap, rfl, fun hne => ⟨g, 0, rfl, ⟨hb, (hlt g rfl).2⟩, fun i hi => ?_⟩, h2, by unfold maxLen; omega⟩
    rw [Nat.zero_add, h1.cellAt i (by omega), List.getElem?_map]
    simp [nth, List.getD_eq_getElem?_getD, hi]
theorem Row9.keep {base : Nat} {w w' : World} {v : Value} {l : List ByteArray} (h : Row9 base w v l) (hb : ∀ k, v.ownBlock = some k → w'.heap[k]? = w.heap[k]?) : Row9 base w' v l := ⟨owns_at h.1 hb, h.2⟩
theorem nth_app_le (l : List ByteArray) (t : ByteArray) (hs : ∀ i, (nth l i).size ≤ maxLen) (ht : t.size ≤ maxLen) (i : Nat) : (nth (l ++ [t]) i).size ≤ maxLen := by
  unfold nth at hs ⊢
  rw [List.getD_eq_getElem?_getD]
  by_cases h : i < l.length
  · rw [List.getElem?_append_left h, ← List.getD_eq_getElem?_getD]; exact hs i
  · rw [List.getElem?_append_right (by omega)]
    by_cases e : i - l.length = 0
    · rw [e]; simpa using ht
    · rw [List.getElem?_eq_none (by simp; omega)]; simp [maxLen]
theorem addT_len (l : List ByteArray) (t : ByteArray) : (addT l t).length ≤ l.length + 1 := by unfold addT; split <;> simp
theorem addAll_len : ∀ (ts l : List ByteArray), (addAll l ts).length ≤ l.length + ts.length
  | [], l => by simp [addAll]
  | t :: ts, l => by
    have e : addAll l (t :: ts) = addAll (addT l t) ts := rfl
    rw [e]
    have := addAll_len ts (addT l t)
    have := addT_len l t
    simp only [List.length_cons]
    omega

/-- A text is in a list, as the model looks. -/
def hasN (ns : List ByteArray) (s : ByteArray) (n : Nat) : Bool := (List.range n).any fun i => (nth ns i).toList == s.toList
theorem hasN_succ (ns : List ByteArray) (s : ByteArray) (n : Nat) : hasN ns s (n + 1) = (hasN ns s n || ((nth ns n).toList == s.toList)) := by
  simp [hasN, List.range_succ]
theorem hasN_true (ns : List ByteArray) (s : ByteArray) (n k : Nat) (hk : k < n) (h : ((nth ns k).toList == s.toList) = true) : hasN ns s n = true := by
  rw [hasN, List.any_eq_true]
  exact ⟨k, by simpa using hk, h⟩
theorem hasN_all (ns : List ByteArray) (s : ByteArray) : hasN ns s ns.length = tmT ns s := by
  rw [Bool.eq_iff_iff, hasN, tmT, List.any_eq_true]
  simp only [List.contains_iff_mem, List.mem_map, List.mem_range, beq_iff_eq]
  constructor
  · rintro ⟨i, hi, e⟩
    exact ⟨ns[i], List.getElem_mem hi, by rw [← e]; simp [nth, List.getD_eq_getElem?_getD, hi]⟩
  · rintro ⟨x, hx, e⟩
    obtain ⟨i, hi, rfl⟩ := List.mem_iff_getElem.1 hx
    exact ⟨i, hi, by rw [← e]; simp [nth, List.getD_eq_getElem?_getD, hi]⟩

set_option maxHeartbeats 400000 in
theorem l1Has_all (ns : List ByteArray) (a : Option Addr) (c : Nat) (s : ByteArray) (w : World) (P : Nat → Prop) (hS : Strs w P ns a) :
    Calls Tryz.prog 101 #[.slice a ns.length c, .string s] w fun e w' => e = .returned (.bool (tmT ns s)) ∧ w = w' := by
  obtain ⟨h1, h2, h3⟩ := hS
  unfold maxLen at h3
  rw [← hasN_all]
  by_cases hn0 : ns = []
  · subst hn0
    go_enter Tryz.func101, Tryz.ntmps101
    go_wp2
    go_loop [5] (fun i => i = .int .i64 0) (fun _ => 0)
    case atStart => rfl
    case round =>
      subst hrel
      go_wp2
      go_ret
      exact ⟨rfl, rfl⟩
  · obtain ⟨b, off, rfl, _, hc⟩ := h1 hn0
    clear h1 h2
    go_enter Tryz.func101, Tryz.ntmps101
    go_wp2
    go_loop [5] (fun i => ∃ k : Nat, k ≤ ns.length ∧ i = .int .i64 k ∧ Hid (hasN ns s k = false)) (fun i => ns.length - (intOf i).toNat)
    case atStart => exact ⟨0, Nat.zero_le _, rfl, hid_of rfl⟩
    case round =>
      obtain ⟨k, hk, rfl, HP⟩ := hrel
      by_cases hlt : k < ns.length
      · have hck := hc k (by omega)
        have HS1 := hid_of (hasN_succ ns s k)
        have HT1 := hid_of (hasN_true ns s ns.length k hlt)
        clear hc
        generalize nth ns k = x at *
        cases he : (x.toList == s.toList)
        · rw [he] at HS1
          go_wp2
          go_round
          case rel => exact ⟨k + 1, by omega, by go_num, hid_of (by rw [HS1.out, HP.out]; rfl)⟩
          case measure => simp [intOf]; omega
        · go_wp2
          go_ret
          exact ⟨ret_bool (HT1.out he).symm, rfl⟩
      · go_wp2
        go_ret
        have e : k = ns.length := by omega
        exact ⟨ret_bool (by rw [← e, HP.out]), rfl⟩

set_option maxHeartbeats 800000 in
theorem indexB_any (ns : List ByteArray) (s : ByteArray) (w : World) (P : Nat → Prop) (a : Option Addr) (c : Nat) (hS : Strs w P ns a) (hl : ns.length ≤ 1000000000) :
    Calls Tryz.prog 102 #[.slice a ns.length c, .string s] w fun e w' => e = .returned (.int .i64 (ixS ns s ns.length)) ∧ w = w' := by
  obtain ⟨hS1, hS2, hS3⟩ := hS
  go_enter Tryz.func102, Tryz.ntmps102
  go_wp2_with fail
  go_loopw [8] (fun i wr => ∃ k : Nat, k ≤ ns.length ∧ i = .int .i64 k ∧ Hid (ixS ns s k = -1) ∧ wr = w) (fun i _ => ns.length - (intOf i).toNat)
  case atStart => exact ⟨0, Nat.zero_le _, rfl, hid_of rfl, rfl⟩
  case round =>
    obtain ⟨k, hk, rfl, HI, rfl⟩ := hrel
    by_cases hlt : k < ns.length
    · obtain ⟨b, off, rfl, -, hc⟩ := hS1 (by intro e; rw [e] at hlt; simp at hlt)
      have hki : (k : Int) < (ns.length : Int) := by omega
      have q0 := hc k hlt
      have HX : Hid (ixS ns s (k + 1) = if ((nth ns k).toList == s.toList) = true then ((k : Nat) : Int) else -1) := hid_of (by rw [ixS, HI.out, if_neg (by omega)])
      have HM : Hid (((nth ns k).toList == s.toList) = true → ixS ns s ns.length = (k : Nat)) := hid_of fun h => by
        have h1 : ixS ns s (k + 1) = (k : Nat) := by rw [HX.out, if_pos h]
        have key : ∀ m, k + 1 ≤ m → ixS ns s m = (k : Nat) := fun m hm => by
          induction m with
          | zero => omega
          | succ m ih =>
            by_cases em : m = k
            · rw [em]; exact h1
            · rw [ixS, ih (by omega), if_pos (by omega)]
        exact key ns.length (by omega)
      clear hc hS1 hS2
      generalize nth ns k = x at *
      cases hq : (s.toList == x.toList)
      · have hq2 : (x.toList == s.toList) = false := by rw [Bool.beq_comm]; exact hq
        rw [hq2] at HX
        clear HM
        go_wp2_with fail
        go_roundw
        case measure => simp [intOf]; omega
        case rel => exact ⟨k + 1, by omega, by go_num, hid_of (by rw [HX.out]; rfl), trivial⟩
      · have hq2 : (x.toList == s.toList) = true := by rw [Bool.beq_comm]; exact hq
        have HR := hid_of (HM.out hq2)
        clear HM HX
        go_wp2_with fail
        go_ret
        exact ⟨ret_int (by rw [HR.out]), rfl⟩
    · have e : k = ns.length := by omega
      subst e
      go_wp2_with fail
      go_ret
      exact ⟨ret_int (by rw [HI.out]), rfl⟩

set_option maxHeartbeats 400000 in
theorem containsB_any (ns : List ByteArray) (s : ByteArray) (w : World) (P : Nat → Prop) (a : Option Addr) (c : Nat) (hS : Strs w P ns a) (hl : ns.length ≤ 1000000000) :
    Calls Tryz.prog 68 #[.slice a ns.length c, .string s] w fun e w' => e = .returned (.bool (tmT ns s)) ∧ w = w' := by
  have hI := indexB_any ns s w P a c hS hl
  have HC : Hid (tmT ns s = decide (0 ≤ ixS ns s ns.length)) := hid_of (by
    rw [← hasN_all, Bool.eq_iff_iff, decide_eq_true_eq, ixS_in ns s _ (Nat.le_refl _), hasN, List.any_eq_true]
    simp only [List.mem_range, beq_iff_eq])
  have hcs := ixS_cases ns s ns.length
  generalize ixS ns s ns.length = x at *
  by_cases hx : 0 ≤ x
  · have hx' : x ≥ 0 := hx
    go_enter Tryz.func68, Tryz.ntmps68
    go_wp2_with fail
    refine hI.mono ?_
    rintro e w1 ⟨rfl, rfl⟩
    go_wp2_with fail
    go_ret
    exact ⟨ret_bool (by rw [HC.out]; simp [hx]), rfl⟩
  · have hx' : ¬ x ≥ 0 := hx
    go_enter Tryz.func68, Tryz.ntmps68
    go_wp2_with fail
    refine hI.mono ?_
    rintro e w1 ⟨rfl, rfl⟩
    go_wp2_with fail
    go_ret
    exact ⟨ret_bool (by rw [HC.out]; try simp [hx]), rfl⟩

/-- What is added to a row. -/
def Added (base : Nat) (w : World) (v : Value) (l : List ByteArray) (e : Ending) (w' : World) : Prop := ∃ a c, e = .returned (.slice a l.length c) ∧ Row9 base w' (.slice a l.length c) l ∧ Grew w v w' (.slice a l.length c)

set_option maxHeartbeats 800000 in
theorem l15Add_any (l : List ByteArray) (t : ByteArray) (w : World) (base : Nat) (v : Value) (h : Row9 base w v l) (ht : t.size ≤ maxLen) (hl : l.length + 1 ≤ 1000000000) (hB : base ≤ w.heap.size) :
    Calls Tryz.prog 67 #[v, .string t] w fun e w' => Added base w v (addT l t) e w' := by
  obtain ⟨i9, hi9, hy0, hy1, hy2⟩ := info_parts info9
  obtain ⟨a, c, rfl, hS⟩ := h.strs
  have HC := hid_of (fun W (e : W = w) => show Calls Tryz.prog 101 #[.slice a l.length c, .string t] W _ from e ▸ l1Has_all l a c t w _ hS)
  have HH := hid_of h
  clear h hS
  cases hc : tmT l t
  · rw [hc] at HC
    have HA : Hid (addT l t = l ++ [t]) := hid_of (by rw [addT, hc]; simp)
    have bE := below_box w (.cells #[.string t] 9)
    have HOV := hid_of (owns_keep' HH.out.1 bE)
    go_enter Tryz.func67, Tryz.ntmps67
    go_wp2_with (first
      | (go_at_call 101; refine (HC.out _ rfl).mono ?_; rintro e w' ⟨rfl, rfl⟩)
      | (
        at_builtin
        refine wpList_append_lies _ rfl _ _ _ rfl base 9 i9 (.string ByteArray.empty) 1 16 Tryz.underlying28 hi9 hy0 hy1 hy2 rfl (by decide) (.slice a l.length c) l.length (l.map Value.string) rfl HOV.out ⟨w.heap.size, 0, none⟩ 1 1 [.string t] rfl rfl (World.news_of_block (heap_alloc_new w _)) (by intro u hu; simp at hu; subst hu; rfl) (by omega) (by unfold maxLen; omega) (by omega) (Nat.le_trans hB bE.size) _ rfl ?_
        intro g cap wP hown hgrow hat hltP
        have HN := hid_of (And.intro hown (And.intro hgrow hat))
        clear hown hgrow hat))
    go_ret
    obtain ⟨hown, hgrow, hat⟩ := HN.out
    refine ⟨some ⟨g, 0, none⟩, cap, by rw [HA.out]; simp, ?_, ?_⟩
    · rw [HA.out]
      refine ⟨?_, nth_app_le l t HH.out.2.1 ht, by simp; omega⟩
      simp only [List.length_append, List.length_singleton, List.map_append, List.map_cons, List.map_nil]
      exact hown
    · refine ⟨Nat.le_trans bE.size hgrow.size, hgrow.os.trans bE.os, hgrow.tape.trans bE.tape, hgrow.output.trans bE.output, fun b hb hn => (hgrow.block b (by have := bE.size; omega) (fun e => hn e.symm)).trans (bE.block b hb), ?_⟩
      rcases hat with e | e
      · exact Or.inl e.symm
      · exact Or.inr ⟨g, rfl, by rw [e]; exact bE.size⟩
  · rw [hc] at HC
    have HA : Hid (addT l t = l) := hid_of (by rw [addT, hc]; simp)
    go_enter Tryz.func67, Tryz.ntmps67
    go_wp2_with (go_at_call 101; refine (HC.out _ rfl).mono ?_; rintro e w' ⟨rfl, rfl⟩)
    go_ret
    unfold Added
    rw [HA.out]
    exact ⟨a, c, rfl, HH.out, Grew.refl _ _⟩

set_option maxHeartbeats 800000 in
theorem addOnce_any (l : List ByteArray) (t : ByteArray) (w : World) (base : Nat) (v : Value) (h : Row9 base w v l) (ht : t.size ≤ maxLen) (hl : l.length + 1 ≤ 1000000000) (hB : base ≤ w.heap.size) :
    Calls Tryz.prog 43 #[v, .string t] w fun e w' => Added base w v (addT l t) e w' := by
  obtain ⟨i9, hi9, hy0, hy1, hy2⟩ := info_parts info9
  obtain ⟨a, c, rfl, hS⟩ := h.strs
  have HC := hid_of (fun W (e : W = w) => show Calls Tryz.prog 68 #[.slice a l.length c, .string t] W _ from e ▸ containsB_any l t w _ a c hS (by omega))
  have HH := hid_of h
  clear h hS
  cases hc : tmT l t
  · rw [hc] at HC
    have HA : Hid (addT l t = l ++ [t]) := hid_of (by rw [addT, hc]; simp)
    have bE := below_box w (.cells #[.string t] 9)
    have HOV := hid_of (owns_keep' HH.out.1 bE)
    go_enter Tryz.func43, Tryz.ntmps43
    go_wp2_with (first
      | (go_at_call 68; refine (HC.out _ rfl).mono ?_; rintro e w' ⟨rfl, rfl⟩)
      | (
        at_builtin
        refine wpList_append_lies _ rfl _ _ _ rfl base 9 i9 (.string ByteArray.empty) 1 16 Tryz.underlying28 hi9 hy0 hy1 hy2 rfl (by decide) (.slice a l.length c) l.length (l.map Value.string) rfl HOV.out ⟨w.heap.size, 0, none⟩ 1 1 [.string t] rfl rfl (World.news_of_block (heap_alloc_new w _)) (by intro u hu; simp at hu; subst hu; rfl) (by omega) (by unfold maxLen; omega) (by omega) (Nat.le_trans hB bE.size) _ rfl ?_
        intro g cap wP hown hgrow hat hltP
        have HN := hid_of (And.intro hown (And.intro hgrow hat))
        clear hown hgrow hat))
    go_ret
    obtain ⟨hown, hgrow, hat⟩ := HN.out
    refine ⟨some ⟨g, 0, none⟩, cap, by rw [HA.out]; simp, ?_, ?_⟩
    · rw [HA.out]
      refine ⟨?_, nth_app_le l t HH.out.2.1 ht, by simp; omega⟩
      simp only [List.length_append, List.length_singleton, List.map_append, List.map_cons, List.map_nil]
      exact hown
    · refine ⟨Nat.le_trans bE.size hgrow.size, hgrow.os.trans bE.os, hgrow.tape.trans bE.tape, hgrow.output.trans bE.output, fun b hb hn => (hgrow.block b (by have := bE.size; omega) (fun e => hn e.symm)).trans (bE.block b hb), ?_⟩
      rcases hat with e | e
      · exact Or.inl e.symm
      · exact Or.inr ⟨g, rfl, by rw [e]; exact bE.size⟩
  · rw [hc] at HC
    have HA : Hid (addT l t = l) := hid_of (by rw [addT, hc]; simp)
    go_enter Tryz.func43, Tryz.ntmps43
    go_wp2_with (go_at_call 68; refine (HC.out _ rfl).mono ?_; rintro e w' ⟨rfl, rfl⟩)
    go_ret
    unfold Added
    rw [HA.out]
    exact ⟨a, c, rfl, HH.out, Grew.refl _ _⟩

set_option maxHeartbeats 400000 in
theorem fieldT_any (a b : ByteArray) (w : World) (h : a.size + b.size + 1 ≤ 9223372036854775807) :
    Calls Tryz.prog 44 #[.string a, .string b] w fun e w' => e = .returned (.string (fldT a b)) ∧ w = w' := by
  have h1 : a.size + 1 ≤ 9223372036854775807 := by omega
  have h2 : a.size + 1 + b.size ≤ 9223372036854775807 := by omega
  go_enter Tryz.func44, Tryz.ntmps44
  go_wp2_with fail
  go_ret
  exact ⟨rfl, rfl⟩
end Go.Proofs.YtgcfgadkclfonaaGreatDoor

namespace Go.Proofs.YtgcfgadkclfonaaGreatDoor
set_option linter.unusedSimpArgs false
set_option linter.unusedVariables false
open Go.RowKit

theorem szT_typeOr (p : Pt) (hz : szP p ≤ 1048576) (nm : ByteArray) : szT (typeOr p nm) ≤ 1048576 := by
  unfold typeOr
  split
  · rename_i h
    unfold typeIx at h ⊢
    rcases firstTo_cases (fun i => (tth p.types i).name.toList == nm.toList) p.types.length with ⟨e, -⟩ | ⟨k, e, hk, -, -⟩
    · rw [e] at h; omega
    · rw [e]
      exact szT_le p k hk hz
  · simp [szT, T.zero, szFs, szFsTo]
theorem szF_fldF (p : Pt) (hz : szP p ≤ 1048576) (nm n : ByteArray) : szF (fldF p nm n) ≤ 1048576 := by
  have ht := szT_typeOr p hz nm
  unfold fldF fieldOr
  split
  · rename_i h
    unfold fieldIx at h ⊢
    rcases firstTo_cases (fun i => (fth (typeOr p nm).fields i).name.toList == n.toList) (typeOr p nm).fields.length with ⟨e, -⟩ | ⟨k, e, hk, -, -⟩
    · rw [e] at h; omega
    · rw [e]
      exact szF_le _ k hk ht
  · simp [szF, F.zero, szNs, sumTo]
theorem sumTo_ge (ns : List ByteArray) : ∀ (n i : Nat), i < n → (nth ns i).size ≤ sumTo ns n
  | 0, i, h => by omega
  | n + 1, i, h => by
    have e : sumTo ns (n + 1) = sumTo ns n + (nth ns n).size := by simp [sumTo, List.range_succ]
    rw [e]
    by_cases hi : i = n
    · subst hi; omega
    · have := sumTo_ge ns n i (by omega); omega
theorem fldF_small (p : Pt) (hz : szP p ≤ 1048576) (nm n : ByteArray) : (fldF p nm n).name.size ≤ 1048576 ∧ (fldF p nm n).of.size ≤ 1048576 ∧ (fldF p nm n).needs.length ≤ 1048576 ∧ ∀ i, (nth (fldF p nm n).needs i).size ≤ 1048576 := by
  have h := szF_fldF p hz nm n
  unfold szF szNs at h
  refine ⟨by omega, by omega, by omega, fun i => ?_⟩
  by_cases hi : i < (fldF p nm n).needs.length
  · have := sumTo_ge (fldF p nm n).needs _ i hi; omega
  · unfold nth
    rw [List.getD_eq_getElem?_getD, List.getElem?_eq_none (by omega)]
    simp
theorem fieldsM_len (p : Pt) (hz : szP p ≤ 1048576) : ∀ (f : Nat) (nm : ByteArray) (ks : List Se) (n : Nat) (out : List ByteArray), (fieldsM p f nm ks n out).length ≤ out.length + cntTo f ks n * 1048577
  | 0, nm, ks, n, out => by simp [fieldsM]
  | f + 1, nm, ks, 0, out => by simp [fieldsM]
  | f + 1, nm, ks, n + 1, out => by
    rw [fieldsM, cntTo_succ, cntSe_kids]
    have h1 := fieldsM_len p hz f (fldF p nm (sth ks n).name).of (sth ks n).kids (sth ks n).kids.length (addAll (fieldsM p (f + 1) nm ks n out) (ofF nm (fldF p nm (sth ks n).name)))
    have h2 := fieldsM_len p hz (f + 1) nm ks n out
    have h3 := addAll_len (ofF nm (fldF p nm (sth ks n).name)) (fieldsM p (f + 1) nm ks n out)
    have h4 := (fldF_small p hz nm (sth ks n).name).2.2.1
    have h5 : (ofF nm (fldF p nm (sth ks n).name)).length = 1 + (fldF p nm (sth ks n).name).needs.length := by simp [ofF]; omega
    rw [Nat.add_mul, Nat.add_mul]
    omega
theorem fldT_size (nm n : ByteArray) : (fldT nm n).size = nm.size + 1 + n.size := by
  unfold fldT
  rw [ByteArray.size_append, ByteArray.size_append]
  rfl
theorem addAll_take (L gd : List ByteArray) (nm : ByteArray) (j : Nat) (h : j < gd.length) : addAll L ((gd.take (j + 1)).map (fldT nm)) = addT (addAll L ((gd.take j).map (fldT nm))) (fldT nm (nth gd j)) := by
  have e : gd.take (j + 1) = gd.take j ++ [nth gd j] := by
    rw [List.take_add_one]
    simp [nth, List.getD_eq_getElem?_getD, h]
  rw [e, List.map_append]
  unfold addAll
  rw [List.foldl_append]
  rfl
end Go.Proofs.YtgcfgadkclfonaaGreatDoor

namespace Go.Proofs.YtgcfgadkclfonaaGreatDoor
set_option linter.unusedSimpArgs false
set_option linter.unusedVariables false
open Go.RowKit Go.Shelf Go.Maps
attribute [local go_sem] Oper.semAt_some

set_option maxRecDepth 20000 in
set_option maxHeartbeats 3200000 in
theorem l15Fields_any (p : Pt) (hz : szP p ≤ 1048576) (c0 c1 : Value) (base : Nat) : ∀ (f : Nat) (nm : ByteArray) (ks : List Se) (w : World) (ka : Option Addr) (kc : Nat) (out : List ByteArray) (v : Value), FitS f ks → SeReps w (· < base) ks ka → PRep w (· < base) p (.agg #[c0, c1]) → Row9 base w v out → base ≤ w.heap.size → nm.size ≤ 1048576 → out.length + cntTo f ks ks.length * 1048577 ≤ 1000000000 →
    Calls Tryz.prog 42 #[.agg #[c0, c1], .string nm, .slice ka ks.length kc, v] w fun e w' => Added base w v (fieldsM p f nm ks ks.length out) e w' := by
  intro f
  induction f with
  | zero =>
    intro nm ks w ka kc out v hf hR hP hO hB hnm hbd
    have e : ks = [] := hf
    subst e
    obtain ⟨va, vc, rfl, -⟩ := hO.strs
    have HO := hid_of hO
    clear hf hR hP hbd hO
    have bB := below_box w (.cells #[c0, c1] 34)
    go_enter Tryz.func42, Tryz.ntmps42
    go_wp2_with fail
    generalize w.alloc (.cells #[c0, c1] 34) = Z at *
    go_loopw [3, 9] (fun y i wr => y = .slice va out.length vc ∧ i = .int .i64 0 ∧ wr = Z) (fun _ _ _ => 0)
    case atStart => exact ⟨rfl, rfl, rfl⟩
    case round =>
      obtain ⟨rfl, rfl, rfl⟩ := hrel
      go_wp2_with fail
      go_ret
      have e : ∀ n, fieldsM p 0 nm ([] : List Se) n out = out := fun n => by simp [fieldsM]
      unfold Added
      rw [e]
      exact ⟨va, vc, rfl, HO.out.keep fun b hb => bB.block b (HO.out.1.lt b hb).2, Grew.below _ bB⟩
  | succ f IH =>
    intro nm ks w ka kc out v hf hR hP hO hB hnm hbd
    have h72 := hR.1
    obtain ⟨va, vc, rfl, -⟩ := hO.strs
    have HR := hid_of hR
    have HP := hid_of hP
    have HF := hid_of hf
    have HO := hid_of hO
    have HBD := hid_of hbd
    have HBL := hid_of hB
    clear hR hP hf hbd hO
    have bB := below_box w (.cells #[c0, c1] 34)
    have zB : (w.alloc (.cells #[c0, c1] 34)).heap.size = w.heap.size + 1 := by simp
    have nP := heap_alloc_new w (.cells #[c0, c1] 34)
    go_enter Tryz.func42, Tryz.ntmps42
    go_wp2_with fail
    generalize w.alloc (.cells #[c0, c1] 34) = Z at *
    have HZ : Hid (∀ W' v', Grew Z (.slice va out.length vc) W' v' → (W'.cell? ⟨w.heap.size, 0, none⟩ = some c0 ∧ W'.cell? ⟨w.heap.size, 1, none⟩ = some c1) ∧ (∀ b, b < base → W'.heap[b]? = w.heap[b]?) ∧ Z.heap.size ≤ W'.heap.size) := hid_of fun W' v' hW => by
      have hn : ∀ b, (b < base ∨ w.heap.size ≤ b) → (Value.slice va out.length vc).ownBlock ≠ some b := fun b hb e => by have := HO.out.1.lt b e; omega
      have hp := (hW.block w.heap.size (by omega) (hn _ (Or.inr (Nat.le_refl _)))).trans nP
      exact ⟨⟨(box_at hp 0 (by simp)).1, (box_at hp 1 (by simp)).1⟩, fun b hb => (hW.block b (by omega) (hn b (Or.inl hb))).trans (bB.block b (by omega)), hW.size⟩
    have HWZ : Hid (∀ W' v', Grew Z (.slice va out.length vc) W' v' → Grew w (.slice va out.length vc) W' v') := hid_of fun W' v' hW => (Grew.below _ bB).trans hW
    have HOZ : Hid (Row9 base Z (.slice va out.length vc) out) := hid_of (HO.out.keep fun b hb => bB.block b (HO.out.1.lt b hb).2)
    clear nP bB
    go_loopw [3, 9] (fun y i wr => ∃ (k : Nat) (L : List ByteArray) (la : Option Addr) (lc : Nat), k ≤ ks.length ∧ y = .slice la L.length lc ∧ i = .int .i64 k ∧ Hid (fieldsM p (f + 1) nm ks k out = L) ∧ Hid (Row9 base wr (.slice la L.length lc) L ∧ Grew Z (.slice va out.length vc) wr (.slice la L.length lc))) (fun _ i _ => ks.length - (intOf i).toNat)
    case atStart => exact ⟨0, out, va, vc, Nat.zero_le _, rfl, rfl, hid_of (by simp [fieldsM]), hid_of ⟨HOZ.out, Grew.refl _ _⟩⟩
    case round =>
      obtain ⟨k, L, la, lc, hk, rfl, rfl, HM, HRG⟩ := hrel
      obtain ⟨w0, rfl⟩ : ∃ x, x = wr := ⟨wr, rfl⟩
      have HGZ := hid_of HRG.out.2
      have HRL := hid_of HRG.out.1
      clear HRG
      obtain ⟨⟨z0, z1⟩, hbb, zb⟩ := HZ.out w0 _ HGZ.out
      by_cases hlt : k < ks.length
      case neg =>
        have e : k = ks.length := by omega
        subst e
        clear z0 z1
        go_wp2_with fail
        go_ret
        unfold Added
        rw [HM.out]
        exact ⟨la, lc, rfl, HRL.out, HWZ.out _ _ HGZ.out⟩
      have hki : (k : Int) < (ks.length : Int) := by omega
      obtain ⟨-, C, hA, hr⟩ := HR.out.mono fun b hb2 => hbb b hb2
      obtain ⟨kb, koff, rfl, hkB, hkc⟩ := hA (by omega)
      obtain ⟨sa, sc, e0, e1, e2, e3, e4, hal, hnm2, hKids⟩ := (hr k hlt).pieces
      have hkB' : kb < base := hkB
      have q1 : w0.cell? ⟨kb, koff + k * 5 + 1, none⟩ = some (.string (sth ks k).name) := e1 ▸ hkc k hlt 1 (by omega)
      have q4 : w0.cell? ⟨kb, koff + k * 5 + 4, none⟩ = some (.slice sa (sth ks k).kids.length sc) := e4 ▸ hkc k hlt 4 (by omega)
      have HSU : Hid (fieldsM p (f + 1) nm ks (k + 1) out = fieldsM p f (fldF p nm (sth ks k).name).of (sth ks k).kids (sth ks k).kids.length (addAll L (ofF nm (fldF p nm (sth ks k).name)))) := hid_of (by rw [fieldsM, HM.out])
      have hLlen : L.length + 1048577 + cntTo f (sth ks k).kids (sth ks k).kids.length * 1048577 ≤ 1000000000 := by
        have h1 := fieldsM_len p hz (f + 1) nm ks k out
        rw [HM.out] at h1
        have h2 := cntTo_mono (f + 1) ks (show k + 1 ≤ ks.length from hlt)
        rw [cntTo_succ, cntSe_kids] at h2
        have h3 := HBD.out
        have h4 : (cntTo (f + 1) ks k + (1 + cntTo f (sth ks k).kids (sth ks k).kids.length)) * 1048577 ≤ cntTo (f + 1) ks ks.length * 1048577 := Nat.mul_le_mul_right _ h2
        rw [Nat.add_mul, Nat.add_mul] at h4
        omega
      have HKD := hid_of hKids
      have HFK := hid_of (HF.out k hlt)
      clear e0 e1 e2 e3 e4 hkc hr hA hKids hal hnm2
      generalize sth ks k = s at *
      obtain ⟨gF, hgF⟩ : ∃ gF, gF = fldF p nm s.name := ⟨_, rfl⟩
      have hsm := fldF_small p hz nm s.name
      rw [← hgF] at hsm
      have HG : Hid (∀ W, Below w0.heap.size w0 W → Calls Tryz.prog 52 #[.agg #[c0, c1], .string nm, .string s.name] W fun e w' => ∃ na nc kn, e = .returned (.tuple #[.agg #[.string gF.name, .string gF.of, .bool gF.list, .bool gF.must, .bool gF.far, .bool gF.hidden, .bool gF.shared, .slice na gF.needs.length nc], .bool kn]) ∧ Strs w' (· < base) gF.needs na ∧ Below W.heap.size W w') := hid_of fun W hW => (l2Get_any p nm s.name W base _ (HP.out.mono fun b hb => (hW.block b (by have := HBL.out; have : b < base := hb; omega)).trans (hbb b hb)) (by have := HBL.out; have := hW.size; omega)).mono fun e w' ⟨n1, o1, l1, m1, f1, h1, s1, na, nc, he, hb, hf⟩ => by
        obtain ⟨na', nc', hv', hst, -⟩ := hf
        rw [he, hv', getF_eq, ← hgF]
        rw [getF_eq, ← hgF] at hst
        exact ⟨na', nc', _, rfl, hst, hb⟩
      rw [← hgF] at HSU
      clear hgF
      obtain ⟨gn, gof, gl, gm, gfr, gh, gs, gd⟩ := gF
      simp only at HSU HG hsm
      obtain ⟨hs0, hs1, hs2, hs3⟩ := hsm
      have HS3 := hid_of hs3
      clear hs3
      have HBS : Hid (∀ W, Below w0.heap.size w0 W → base ≤ W.heap.size) := hid_of fun W hW => by have := HBL.out; have := hW.size; omega
      have HCL : Hid (∀ W, Below w0.heap.size w0 W → W.cell? ⟨w.heap.size, 0, none⟩ = some c0 ∧ W.cell? ⟨w.heap.size, 1, none⟩ = some c1 ∧ W.cell? ⟨kb, koff + k * 5 + 1, none⟩ = some (.string s.name) ∧ W.cell? ⟨kb, koff + k * 5 + 4, none⟩ = some (.slice sa s.kids.length sc)) := hid_of fun W hW => ⟨(hW.cell (cell_lt z0)).trans z0, (hW.cell (cell_lt z1)).trans z1, (hW.cell (cell_lt q1)).trans q1, (hW.cell (cell_lt q4)).trans q4⟩
      have hwz : w.heap.size < w0.heap.size := by omega
      clear z0 z1 q1 q4
      go_wp2_with fail
      go_cut [10] (fun r wx => ∃ (fb : Nat) (na : Option Addr) (nc : Nat), r = .pointer (some ⟨fb, 0, none⟩) ∧ Hid (w0.heap.size ≤ fb ∧ wx.cell? ⟨fb, 0, none⟩ = some (.string gn) ∧ wx.cell? ⟨fb, 1, none⟩ = some (.string gof) ∧ wx.cell? ⟨fb, 7, none⟩ = some (.slice na gd.length nc) ∧ Strs wx (· < base) gd na) ∧ Below w0.heap.size w0 wx)
      case first =>
        refine wp_region_held_drew (S := (fun w' => w'.cell? ⟨w.heap.size, 0, none⟩ = some c0 ∧ w'.cell? ⟨w.heap.size, 1, none⟩ = some c1 ∧ w'.cell? ⟨kb, koff + k * 5 + 1, none⟩ = some (.string s.name) ∧ w'.cell? ⟨kb, koff + k * 5 + 4, none⟩ = some (.slice sa s.kids.length sc))) (by kernel_rfl) (HCL.out _ (Below.refl _ _).drew) (fun hHeld => ?_)
        have bX : Below w0.heap.size w0 w0.drew := (Below.refl _ _).drew
        generalize w0.drew = wD at *
        refine wpAnyH_take (i := 0) (oi := { dst := some 20, op := Op.load 34 (Operand.tmp 4), type := 34, pos := "l15_expand.go:157", after := #[], guard := none }) (v := ?_) rfl (by kernel_rfl) (by kernel_rfl) (by kernel_rfl) (fun _ _ _ h => h) (Or.inl ⟨by rfl, ?_⟩) hHeld ?_
        rotate_left
        · intro w' hSw
          (try dsimp only at hSw)
          go_simp
          try with_reducible rfl
        try simp only [Act.put, List.setIfInBounds_toArray, List.set_cons_zero, List.set_cons_succ]
        refine wpAnyH_take (i := 1) (oi := { dst := some 21, op := Op.move (Operand.tmp 1), type := 9, pos := "l15_expand.go:157", after := #[], guard := none }) (v := ?_) rfl (by kernel_rfl) (by kernel_rfl) (by kernel_rfl) (fun _ _ _ h => h) (Or.inl ⟨by rfl, ?_⟩) hHeld ?_
        rotate_left
        · intro w' hSw
          (try dsimp only at hSw)
          go_simp
          try with_reducible rfl
        try simp only [Act.put, List.setIfInBounds_toArray, List.set_cons_zero, List.set_cons_succ]
        refine wpAnyH_take (i := 2) (oi := { dst := some 22, op := Op.move (Operand.tmp 2), type := 36, pos := "l15_expand.go:157", after := #[], guard := none }) (v := ?_) rfl (by kernel_rfl) (by kernel_rfl) (by kernel_rfl) (fun _ _ _ h => h) (Or.inl ⟨by rfl, ?_⟩) hHeld ?_
        rotate_left
        · intro w' hSw
          (try dsimp only at hSw)
          go_simp
          try with_reducible rfl
        try simp only [Act.put, List.setIfInBounds_toArray, List.set_cons_zero, List.set_cons_succ]
        refine wpAnyH_take (i := 3) (oi := { dst := some 23, op := Op.move (Operand.tmp 9), type := 3, pos := "l15_expand.go:157", after := #[], guard := none }) (v := ?_) rfl (by kernel_rfl) (by kernel_rfl) (by kernel_rfl) (fun _ _ _ h => h) (Or.inl ⟨by rfl, ?_⟩) hHeld ?_
        rotate_left
        · intro w' hSw
          (try dsimp only at hSw)
          go_simp
          try with_reducible rfl
        try simp only [Act.put, List.setIfInBounds_toArray, List.set_cons_zero, List.set_cons_succ]
        refine wpAnyH_take (i := 4) (oi := { dst := some 24, op := Op.indexAddr 36 (Operand.tmp 22) (Operand.tmp 23), type := 0, pos := "l15_expand.go:157", after := #[{ on := 2, ground := Ground.data }, { on := 3, ground := Ground.data }], guard := none }) (v := ?_) rfl (by kernel_rfl) (by kernel_rfl) (by kernel_rfl) (fun _ _ _ h => h) (Or.inl ⟨by rfl, ?_⟩) hHeld ?_
        rotate_left
        · intro w' hSw
          (try dsimp only at hSw)
          go_simp
          try with_reducible rfl
        try simp only [Act.put, List.setIfInBounds_toArray, List.set_cons_zero, List.set_cons_succ]
        refine wpAnyH_take (i := 5) (oi := { dst := some 25, op := Op.fieldAddr 60 (Operand.tmp 24) 1, type := 0, pos := "l15_expand.go:157", after := #[{ on := 4, ground := Ground.data }], guard := none }) (v := ?_) rfl (by kernel_rfl) (by kernel_rfl) (by kernel_rfl) (fun _ _ _ h => h) (Or.inl ⟨by rfl, ?_⟩) hHeld ?_
        rotate_left
        · intro w' hSw
          (try dsimp only at hSw)
          go_simp
          try with_reducible rfl
        try simp only [Act.put, List.setIfInBounds_toArray, List.set_cons_zero, List.set_cons_succ]
        refine wpAnyH_take (i := 6) (oi := { dst := some 26, op := Op.load 9 (Operand.tmp 25), type := 9, pos := "l15_expand.go:157", after := #[{ on := 5, ground := Ground.data }], guard := none }) (v := ?_) rfl (by kernel_rfl) (by kernel_rfl) (by kernel_rfl) (fun _ _ _ h => h) (Or.inl ⟨by rfl, ?_⟩) hHeld ?_
        rotate_left
        · intro w' hSw
          (try dsimp only at hSw)
          go_simp
          try with_reducible rfl
        try simp only [Act.put, List.setIfInBounds_toArray, List.set_cons_zero, List.set_cons_succ]
        refine wpAnyH_ready (rs := [7, 11]) (by kernel_rfl) (by simp) ?_
        refine AllReadyH.cons (o := { dst := some 27, op := Op.call { callee := Callee.value (Operand.func 52), args := #[Operand.tmp 20, Operand.tmp 21, Operand.tmp 26], argTypes := #[34, 9, 9] }, type := 94, pos := "l15_expand.go:157", after := #[{ on := 0, ground := Ground.data }, { on := 1, ground := Ground.data }, { on := 6, ground := Ground.data }], guard := none }) rfl (fun K hK => ?_) ?_
        · go_simp
          refine (HG.out wD bX).mono ?_
          rintro e wK ⟨na, nc, kn, rfl, hnd, bK⟩
          have bX := bX.trans (bK.mono bX.size)
          refine hK.out _ _ (HCL.out _ bX) (fun hHeld => ?_)
          clear hK K
          try simp only [Act.put, List.setIfInBounds_toArray, List.set_cons_zero, List.set_cons_succ]
          refine wpAnyH_take (i := 8) (oi := { dst := some 19, op := Op.move (Operand.tmp 27), type := 94, pos := "l15_expand.go:157", after := #[{ on := 7, ground := Ground.data }], guard := none }) (v := ?_) rfl (by kernel_rfl) (by kernel_rfl) (by kernel_rfl) (fun _ _ _ h => h) (Or.inl ⟨by rfl, ?_⟩) hHeld ?_
          rotate_left
          · intro w' hSw
            (try dsimp only at hSw)
            go_simp
            try with_reducible rfl
          try simp only [Act.put, List.setIfInBounds_toArray, List.set_cons_zero, List.set_cons_succ]
          refine wpAnyH_take (i := 9) (oi := { dst := some 28, op := Op.extract (Operand.tmp 19) 0, type := 69, pos := "l15_expand.go:157", after := #[{ on := 8, ground := Ground.data }], guard := none }) (v := ?_) rfl (by kernel_rfl) (by kernel_rfl) (by kernel_rfl) (fun _ _ _ h => h) (Or.inl ⟨by rfl, ?_⟩) hHeld ?_
          rotate_left
          · intro w' hSw
            (try dsimp only at hSw)
            go_simp
            try with_reducible rfl
          try simp only [Act.put, List.setIfInBounds_toArray, List.set_cons_zero, List.set_cons_succ]
          refine wpAnyH_take (i := 10) (oi := { dst := some 29, op := Op.extract (Operand.tmp 19) 1, type := 4, pos := "l15_expand.go:157", after := #[{ on := 8, ground := Ground.data }, { on := 12, ground := Ground.gcOnly Departure.lateStores }], guard := none }) (v := ?_) rfl (by kernel_rfl) (by kernel_rfl) (by kernel_rfl) (fun _ _ _ h => h) (Or.inl ⟨by rfl, ?_⟩) hHeld ?_
          rotate_left
          · intro w' hSw
            (try dsimp only at hSw)
            go_simp
            try with_reducible rfl
          try simp only [Act.put, List.setIfInBounds_toArray, List.set_cons_zero, List.set_cons_succ]
          refine wpAnyH_ready (rs := [11]) (by kernel_rfl) (by simp) ?_
          refine AllReadyH.cons (o := { dst := some 10, op := Op.alloc 69, type := 0, pos := "l15_expand.go:157", after := #[], guard := none }) rfl (fun K hK => ?_) AllReadyH.nil
          go_simp
          have bE := below_box wK (.cells #[.string ⟨#[]⟩, .string ⟨#[]⟩, .bool false, .bool false, .bool false, .bool false, .bool false, .slice none 0 0] 69)
          have nE := block_new (w := wK) #[.string ⟨#[]⟩, .string ⟨#[]⟩, .bool false, .bool false, .bool false, .bool false, .bool false, .slice none 0 0] 69 rfl
          have qE : w0.heap.size ≤ wK.heap.size := bX.size
          have zE : wK.heap.size < (wK.alloc (.cells #[.string ⟨#[]⟩, .string ⟨#[]⟩, .bool false, .bool false, .bool false, .bool false, .bool false, .slice none 0 0] 69)).heap.size := by simp
          have bXX := bX
          have bX := bX.trans (bE.mono bX.size)
          have hnd := hnd.under (bE.mono (HBS.out _ bXX))
          refine hK.out _ _ (HCL.out _ bX) (fun hHeld => ?_)
          clear hK K
          try simp only [Act.put, List.setIfInBounds_toArray, List.set_cons_zero, List.set_cons_succ]
          generalize wK.alloc (.cells #[.string ⟨#[]⟩, .string ⟨#[]⟩, .bool false, .bool false, .bool false, .bool false, .bool false, .slice none 0 0] 69) = wE at *
          refine wpAnyH_ready (rs := [12]) (by kernel_rfl) (by simp) ?_
          refine AllReadyH.cons (o := { dst := none, op := Op.store 69 (Operand.tmp 10) (Operand.tmp 28), type := 0, pos := "l15_expand.go:157", after := #[{ on := 11, ground := Ground.data }, { on := 9, ground := Ground.data }, { on := 7, ground := Ground.chain }, { on := 0, ground := Ground.phase }, { on := 1, ground := Ground.phase }, { on := 2, ground := Ground.phase }, { on := 3, ground := Ground.phase }, { on := 4, ground := Ground.phase }, { on := 5, ground := Ground.phase }, { on := 6, ground := Ground.phase }, { on := 7, ground := Ground.phase }, { on := 8, ground := Ground.phase }, { on := 9, ground := Ground.phase }, { on := 10, ground := Ground.textOnly Departure.lateStores }, { on := 11, ground := Ground.phase }], guard := none }) rfl (fun K hK => ?_) AllReadyH.nil
          obtain ⟨y0, g0⟩ := box_at nE 0 (by simp)
          obtain ⟨y1, g1⟩ := box_at nE 1 (by simp)
          obtain ⟨y2, g2⟩ := box_at nE 2 (by simp)
          obtain ⟨y3, g3⟩ := box_at nE 3 (by simp)
          obtain ⟨y4, g4⟩ := box_at nE 4 (by simp)
          obtain ⟨y5, g5⟩ := box_at nE 5 (by simp)
          obtain ⟨y6, g6⟩ := box_at nE 6 (by simp)
          obtain ⟨y7, g7⟩ := box_at nE 7 (by simp)
          go_simp
          refine hK.out _ _ (HCL.out _ (below_sets bX qE _ _ _ _ _ _ _ _)) (fun hHeld => ?_)
          clear hK K
          try simp only [Act.put, List.setIfInBounds_toArray, List.set_cons_zero, List.set_cons_succ]
          refine wpAnyH_take (i := 13) (oi := { dst := some 11, op := Op.assign (Operand.tmp 29), type := 4, pos := "l15_expand.go:157", after := #[{ on := 10, ground := Ground.data }, { on := 12, ground := Ground.chain }, { on := 0, ground := Ground.phase }, { on := 1, ground := Ground.phase }, { on := 2, ground := Ground.phase }, { on := 3, ground := Ground.phase }, { on := 4, ground := Ground.phase }, { on := 5, ground := Ground.phase }, { on := 6, ground := Ground.phase }, { on := 7, ground := Ground.phase }, { on := 8, ground := Ground.phase }, { on := 9, ground := Ground.phase }, { on := 10, ground := Ground.phase }, { on := 11, ground := Ground.phase }, { on := 12, ground := Ground.phase }], guard := none }) (v := ?_) rfl (by kernel_rfl) (by kernel_rfl) (by kernel_rfl) (fun _ _ _ h => h) (Or.inl ⟨by rfl, ?_⟩) hHeld ?_
          rotate_left
          · intro w' hSw
            (try dsimp only at hSw)
            go_simp
            try with_reducible rfl
          try simp only [Act.put, List.setIfInBounds_toArray, List.set_cons_zero, List.set_cons_succ]
          refine wpAnyH_done (by kernel_rfl) ?_ _
          go_wp2_with fail
          go_meet
          case rel =>
            obtain ⟨x0, x1, -, -, -, -, -, x7⟩ := sets_cells nE rfl (.string gn) (.string gof) (.bool gl) (.bool gm) (.bool gfr) (.bool gh) (.bool gs) (.slice na gd.length nc) _ rfl
            exact ⟨_, na, nc, rfl, hid_of ⟨qE, x0, x1, x7, hnd.mono fun b hb => sets_block (by have := HBL.out; have : b < base := hb; omega) _ _ _ _ _ _ _ _ _⟩, below_sets bX qE _ _ _ _ _ _ _ _⟩
        refine AllReadyH.cons (o := { dst := some 10, op := Op.alloc 69, type := 0, pos := "l15_expand.go:157", after := #[], guard := none }) rfl (fun K hK => ?_) AllReadyH.nil
        go_simp
        have bE := below_box wD (.cells #[.string ⟨#[]⟩, .string ⟨#[]⟩, .bool false, .bool false, .bool false, .bool false, .bool false, .slice none 0 0] 69)
        have nE := block_new (w := wD) #[.string ⟨#[]⟩, .string ⟨#[]⟩, .bool false, .bool false, .bool false, .bool false, .bool false, .slice none 0 0] 69 rfl
        have qE : w0.heap.size ≤ wD.heap.size := bX.size
        have zE : wD.heap.size < (wD.alloc (.cells #[.string ⟨#[]⟩, .string ⟨#[]⟩, .bool false, .bool false, .bool false, .bool false, .bool false, .slice none 0 0] 69)).heap.size := by simp
        have bXX := bX
        have bX := bX.trans (bE.mono bX.size)
        refine hK.out _ _ (HCL.out _ bX) (fun hHeld => ?_)
        clear hK K
        try simp only [Act.put, List.setIfInBounds_toArray, List.set_cons_zero, List.set_cons_succ]
        generalize wD.alloc (.cells #[.string ⟨#[]⟩, .string ⟨#[]⟩, .bool false, .bool false, .bool false, .bool false, .bool false, .slice none 0 0] 69) = wE at *
        refine wpAnyH_ready (rs := [7]) (by kernel_rfl) (by simp) ?_
        refine AllReadyH.cons (o := { dst := some 27, op := Op.call { callee := Callee.value (Operand.func 52), args := #[Operand.tmp 20, Operand.tmp 21, Operand.tmp 26], argTypes := #[34, 9, 9] }, type := 94, pos := "l15_expand.go:157", after := #[{ on := 0, ground := Ground.data }, { on := 1, ground := Ground.data }, { on := 6, ground := Ground.data }], guard := none }) rfl (fun K hK => ?_) AllReadyH.nil
        go_simp
        refine (HG.out wE bX).mono ?_
        rintro e wK ⟨na, nc, kn, rfl, hnd, bK⟩
        have bX := bX.trans (bK.mono bX.size)
        have nE := (bK.block _ zE).trans nE
        have zE := Nat.lt_of_lt_of_le zE bK.size
        refine hK.out _ _ (HCL.out _ bX) (fun hHeld => ?_)
        clear hK K
        try simp only [Act.put, List.setIfInBounds_toArray, List.set_cons_zero, List.set_cons_succ]
        refine wpAnyH_take (i := 8) (oi := { dst := some 19, op := Op.move (Operand.tmp 27), type := 94, pos := "l15_expand.go:157", after := #[{ on := 7, ground := Ground.data }], guard := none }) (v := ?_) rfl (by kernel_rfl) (by kernel_rfl) (by kernel_rfl) (fun _ _ _ h => h) (Or.inl ⟨by rfl, ?_⟩) hHeld ?_
        rotate_left
        · intro w' hSw
          (try dsimp only at hSw)
          go_simp
          try with_reducible rfl
        try simp only [Act.put, List.setIfInBounds_toArray, List.set_cons_zero, List.set_cons_succ]
        refine wpAnyH_take (i := 9) (oi := { dst := some 28, op := Op.extract (Operand.tmp 19) 0, type := 69, pos := "l15_expand.go:157", after := #[{ on := 8, ground := Ground.data }], guard := none }) (v := ?_) rfl (by kernel_rfl) (by kernel_rfl) (by kernel_rfl) (fun _ _ _ h => h) (Or.inl ⟨by rfl, ?_⟩) hHeld ?_
        rotate_left
        · intro w' hSw
          (try dsimp only at hSw)
          go_simp
          try with_reducible rfl
        try simp only [Act.put, List.setIfInBounds_toArray, List.set_cons_zero, List.set_cons_succ]
        refine wpAnyH_take (i := 10) (oi := { dst := some 29, op := Op.extract (Operand.tmp 19) 1, type := 4, pos := "l15_expand.go:157", after := #[{ on := 8, ground := Ground.data }, { on := 12, ground := Ground.gcOnly Departure.lateStores }], guard := none }) (v := ?_) rfl (by kernel_rfl) (by kernel_rfl) (by kernel_rfl) (fun _ _ _ h => h) (Or.inl ⟨by rfl, ?_⟩) hHeld ?_
        rotate_left
        · intro w' hSw
          (try dsimp only at hSw)
          go_simp
          try with_reducible rfl
        try simp only [Act.put, List.setIfInBounds_toArray, List.set_cons_zero, List.set_cons_succ]
        refine wpAnyH_ready (rs := [12]) (by kernel_rfl) (by simp) ?_
        refine AllReadyH.cons (o := { dst := none, op := Op.store 69 (Operand.tmp 10) (Operand.tmp 28), type := 0, pos := "l15_expand.go:157", after := #[{ on := 11, ground := Ground.data }, { on := 9, ground := Ground.data }, { on := 7, ground := Ground.chain }, { on := 0, ground := Ground.phase }, { on := 1, ground := Ground.phase }, { on := 2, ground := Ground.phase }, { on := 3, ground := Ground.phase }, { on := 4, ground := Ground.phase }, { on := 5, ground := Ground.phase }, { on := 6, ground := Ground.phase }, { on := 7, ground := Ground.phase }, { on := 8, ground := Ground.phase }, { on := 9, ground := Ground.phase }, { on := 10, ground := Ground.textOnly Departure.lateStores }, { on := 11, ground := Ground.phase }], guard := none }) rfl (fun K hK => ?_) AllReadyH.nil
        obtain ⟨y0, g0⟩ := box_at nE 0 (by simp)
        obtain ⟨y1, g1⟩ := box_at nE 1 (by simp)
        obtain ⟨y2, g2⟩ := box_at nE 2 (by simp)
        obtain ⟨y3, g3⟩ := box_at nE 3 (by simp)
        obtain ⟨y4, g4⟩ := box_at nE 4 (by simp)
        obtain ⟨y5, g5⟩ := box_at nE 5 (by simp)
        obtain ⟨y6, g6⟩ := box_at nE 6 (by simp)
        obtain ⟨y7, g7⟩ := box_at nE 7 (by simp)
        go_simp
        refine hK.out _ _ (HCL.out _ (below_sets bX qE _ _ _ _ _ _ _ _)) (fun hHeld => ?_)
        clear hK K
        try simp only [Act.put, List.setIfInBounds_toArray, List.set_cons_zero, List.set_cons_succ]
        refine wpAnyH_take (i := 13) (oi := { dst := some 11, op := Op.assign (Operand.tmp 29), type := 4, pos := "l15_expand.go:157", after := #[{ on := 10, ground := Ground.data }, { on := 12, ground := Ground.chain }, { on := 0, ground := Ground.phase }, { on := 1, ground := Ground.phase }, { on := 2, ground := Ground.phase }, { on := 3, ground := Ground.phase }, { on := 4, ground := Ground.phase }, { on := 5, ground := Ground.phase }, { on := 6, ground := Ground.phase }, { on := 7, ground := Ground.phase }, { on := 8, ground := Ground.phase }, { on := 9, ground := Ground.phase }, { on := 10, ground := Ground.phase }, { on := 11, ground := Ground.phase }, { on := 12, ground := Ground.phase }], guard := none }) (v := ?_) rfl (by kernel_rfl) (by kernel_rfl) (by kernel_rfl) (fun _ _ _ h => h) (Or.inl ⟨by rfl, ?_⟩) hHeld ?_
        rotate_left
        · intro w' hSw
          (try dsimp only at hSw)
          go_simp
          try with_reducible rfl
        try simp only [Act.put, List.setIfInBounds_toArray, List.set_cons_zero, List.set_cons_succ]
        refine wpAnyH_done (by kernel_rfl) ?_ _
        go_wp2_with fail
        go_meet
        case rel =>
          obtain ⟨x0, x1, -, -, -, -, -, x7⟩ := sets_cells nE rfl (.string gn) (.string gof) (.bool gl) (.bool gm) (.bool gfr) (.bool gh) (.bool gs) (.slice na gd.length nc) _ rfl
          exact ⟨_, na, nc, rfl, hid_of ⟨qE, x0, x1, x7, hnd.mono fun b hb => sets_block (by have := HBL.out; have : b < base := hb; omega) _ _ _ _ _ _ _ _ _⟩, below_sets bX qE _ _ _ _ _ _ _ _⟩
      case rest =>
      obtain ⟨fb, na, nc, rfl, HBX, bx⟩ := hcut
      obtain ⟨wx, rfl⟩ : ∃ x, x = wc := ⟨wc, rfl⟩
      have zx := bx.size
      have HRX : Hid (Row9 base wx (.slice la L.length lc) L) := hid_of (HRL.out.keep fun b hb => bx.block b (HRL.out.1.lt b hb).2)
      have HC2 : Hid (∀ W v', Grew wx (.slice la L.length lc) W v' → (W.cell? ⟨w.heap.size, 0, none⟩ = some c0 ∧ W.cell? ⟨w.heap.size, 1, none⟩ = some c1 ∧ W.cell? ⟨fb, 1, none⟩ = some (.string gof) ∧ W.cell? ⟨kb, koff + k * 5 + 4, none⟩ = some (.slice sa s.kids.length sc)) ∧ W.cell? ⟨fb, 0, none⟩ = some (.string gn) ∧ W.cell? ⟨fb, 7, none⟩ = some (.slice na gd.length nc) ∧ (∀ b, b < base → W.heap[b]? = w.heap[b]?) ∧ Strs W (· < base) gd na ∧ wx.heap.size ≤ W.heap.size) := hid_of fun W v' hW => by
        obtain ⟨y0, y1, -, y3⟩ := HCL.out wx bx
        obtain ⟨qf, x0, x1, x7, xs⟩ := HBX.out
        have hown := fun b (e : (Value.slice la L.length lc).ownBlock = some b) => HRL.out.1.lt b e
        have hwn : (Value.slice la L.length lc).ownBlock ≠ some w.heap.size := fun e => by
          rcases HGZ.out.lies with e2 | ⟨g, e2, hg⟩
          · rw [e2] at e; have := HO.out.1.lt _ e; omega
          · rw [e2] at e; simp only [Option.some.injEq] at e; omega
        have hc : ∀ {b o : Nat} {u : Value}, (Value.slice la L.length lc).ownBlock ≠ some b → wx.cell? ⟨b, o, none⟩ = some u → W.cell? ⟨b, o, none⟩ = some u := fun hb hu => (World.cell?_of_block (hW.block _ (cell_lt hu) hb)).trans hu
        have hlow : ∀ b, b < base → (Value.slice la L.length lc).ownBlock ≠ some b := fun b hb e => by have := hown b e; omega
        have hfb : (Value.slice la L.length lc).ownBlock ≠ some fb := fun e => by have := hown fb e; omega
        have hbase : ∀ b, b < base → W.heap[b]? = wx.heap[b]? := fun b hb => hW.block b (by omega) (hlow b hb)
        exact ⟨⟨hc hwn y0, hc hwn y1, hc hfb x1, hc (hlow kb hkB') y3⟩, hc hfb x0, hc hfb x7, fun b hb => (hbase b hb).trans ((bx.block b (by omega)).trans (hbb b hb)), xs.mono fun b hb => hbase b hb, hW.size⟩
      obtain ⟨-, x0, -, -, -, -⟩ := HC2.out wx _ (Grew.refl _ _)
      have hn1 : nm.size + 1 ≤ 9223372036854775807 := by omega
      have hn2 : nm.size + 1 + gn.size ≤ 9223372036854775807 := by omega
      have HA1 : Hid (Calls Tryz.prog 67 #[.slice la L.length lc, .string (nm ++ ⟨#[46]⟩ ++ gn)] wx fun e w' => Added base wx (.slice la L.length lc) (addT L (fldT nm gn)) e w') := hid_of (l15Add_any L (fldT nm gn) wx base _ HRX.out (by rw [fldT_size]; unfold maxLen; omega) (by omega) (by have := HBL.out; omega))
      obtain ⟨L1, HL1⟩ : ∃ L1, Hid (addT L (fldT nm gn) = L1) := ⟨_, hid_of rfl⟩
      rw [HL1.out] at HA1
      go_wp2_with fail
      clear x0
      refine HA1.out.mono ?_
      rintro e w1 ⟨a1, cp1, rfl, hR1, hG1⟩
      have HRG1 := hid_of (And.intro hR1 hG1)
      clear hR1 hG1 HA1
      go_wp2_with fail
      go_loopw [3, 12] (fun y i wr => ∃ (j : Nat) (L2 : List ByteArray) (a2 : Option Addr) (c2 : Nat), j ≤ gd.length ∧ y = .slice a2 L2.length c2 ∧ i = .int .i64 j ∧ Hid (addAll L1 ((gd.take j).map (fldT nm)) = L2) ∧ Hid (Row9 base wr (.slice a2 L2.length c2) L2 ∧ Grew wx (.slice la L.length lc) wr (.slice a2 L2.length c2))) (fun _ i _ => gd.length - (intOf i).toNat)
      case atStart => exact ⟨0, L1, a1, cp1, Nat.zero_le _, rfl, rfl, hid_of (by simp [addAll]), HRG1⟩
      case round =>
        obtain ⟨j, L2, a2, c2, hj, rfl, rfl, HJ, GW⟩ := hrel
        obtain ⟨w3, rfl⟩ : ∃ x, x = wr := ⟨wr, rfl⟩
        obtain ⟨-, -, x7, hb3, hst3, z3⟩ := HC2.out w3 _ GW.out.2
        by_cases hjl : j < gd.length
        · obtain ⟨nb, no, rfl, hnB, hnc⟩ := hst3.1 (by intro e; rw [e] at hjl; simp at hjl)
          have hji : (j : Int) < (gd.length : Int) := by omega
          have d0 := hnc j hjl
          have hl2 : L2.length ≤ L.length + 1 + j := by
            have h1 := addAll_len ((gd.take j).map (fldT nm)) L1
            rw [HJ.out] at h1
            have h2 := addT_len L (fldT nm gn)
            rw [HL1.out] at h2
            simp only [List.length_map, List.length_take] at h1
            omega
          have hsj := HS3.out j
          have HJN : Hid (addAll L1 ((gd.take (j + 1)).map (fldT nm)) = addT L2 (fldT nm (nth gd j))) := hid_of (by rw [← HJ.out]; exact addAll_take L1 gd nm j hjl)
          clear hst3 hnc
          generalize nth gd j = nd at *
          have hn3 : nm.size + 1 + nd.size ≤ 9223372036854775807 := by omega
          have HA2 : Hid (Calls Tryz.prog 67 #[.slice a2 L2.length c2, .string (nm ++ ⟨#[46]⟩ ++ nd)] w3 fun e w' => Added base w3 (.slice a2 L2.length c2) (addT L2 (fldT nm nd)) e w') := hid_of (l15Add_any L2 (fldT nm nd) w3 base _ GW.out.1 (by rw [fldT_size]; unfold maxLen; omega) (by omega) (by have := HBL.out; omega))
          obtain ⟨L3, HL3⟩ : ∃ L3, Hid (addT L2 (fldT nm nd) = L3) := ⟨_, hid_of rfl⟩
          rw [HL3.out] at HA2 HJN
          go_wp2_with fail
          clear x7 d0
          refine HA2.out.mono ?_
          rintro e w4 ⟨a4, c4, rfl, hR4, hG4⟩
          have HRG4 := hid_of (And.intro hR4 (GW.out.2.trans hG4))
          clear hR4 hG4 HA2
          go_wp2_with fail
          go_roundw
          case measure => simp [intOf]; omega
          case rel => exact ⟨j + 1, L3, a4, c4, by omega, by simp, by go_num, HJN, HRG4⟩
        have ej : j = gd.length := by omega
        subst ej
        clear hst3
        have HLL : Hid (addAll L (ofF nm ⟨gn, gof, gl, gm, gfr, gh, gs, gd⟩) = L2) := hid_of (by
          rw [← HJ.out, List.take_length, ← HL1.out]
          rfl)
        rw [HLL.out] at HSU
        have hl2 : L2.length ≤ L.length + 1048577 := by
          rw [← HLL.out]
          have h1 := addAll_len (ofF nm ⟨gn, gof, gl, gm, gfr, gh, gs, gd⟩) L
          have h2 : (ofF nm ⟨gn, gof, gl, gm, gfr, gh, gs, gd⟩).length = 1 + gd.length := by simp [ofF]; omega
          omega
        obtain ⟨L3, HNL⟩ : ∃ L3, Hid (fieldsM p f gof s.kids s.kids.length L2 = L3) := ⟨_, hid_of rfl⟩
        rw [HNL.out] at HSU
        have HREC : Hid (∀ W, Below w3.heap.size w3 W → Calls Tryz.prog 42 #[.agg #[c0, c1], .string gof, .slice sa s.kids.length sc, .slice a2 L2.length c2] W fun e w' => Added base W (.slice a2 L2.length c2) L3 e w') := hid_of fun W hW => by
          have hbs : ∀ b, b < base → W.heap[b]? = w.heap[b]? := fun b hb => (hW.block b (by have := HBL.out; omega)).trans (hb3 b hb)
          have h := IH gof s.kids W sa sc L2 (.slice a2 L2.length c2) HFK.out (HKD.out.mono fun b hb => (hbs b hb).trans (hbb b hb).symm) (HP.out.mono fun b hb => hbs b hb) (GW.out.1.keep fun b hb => hW.block b (GW.out.1.1.lt b hb).2) (by have := HBL.out; have := hW.size; omega) hs1 (by omega)
          rw [HNL.out] at h
          exact h
        have HC3 : Hid (∀ W, Below w3.heap.size w3 W → W.cell? ⟨w.heap.size, 0, none⟩ = some c0 ∧ W.cell? ⟨w.heap.size, 1, none⟩ = some c1 ∧ W.cell? ⟨fb, 1, none⟩ = some (.string gof) ∧ W.cell? ⟨kb, koff + k * 5 + 4, none⟩ = some (.slice sa s.kids.length sc)) := hid_of fun W hW => (HC2.out W _ (GW.out.2.trans (Grew.below _ hW))).1
        have HC4 : Hid (∀ W W' v', Below w3.heap.size w3 W → Grew W (.slice a2 L2.length c2) W' v' → W'.cell? ⟨w.heap.size, 0, none⟩ = some c0 ∧ W'.cell? ⟨w.heap.size, 1, none⟩ = some c1 ∧ W'.cell? ⟨fb, 1, none⟩ = some (.string gof) ∧ W'.cell? ⟨kb, koff + k * 5 + 4, none⟩ = some (.slice sa s.kids.length sc)) := hid_of fun W W' v' hW hG => (HC2.out W' _ (GW.out.2.trans ((Grew.below _ hW).trans hG))).1
        have HNL := HSU
        go_wp2_with fail
        refine wp_region_held_drew (S := (fun w' => w'.cell? ⟨w.heap.size, 0, none⟩ = some c0 ∧ w'.cell? ⟨w.heap.size, 1, none⟩ = some c1 ∧ w'.cell? ⟨fb, 1, none⟩ = some (.string gof) ∧ w'.cell? ⟨kb, koff + k * 5 + 4, none⟩ = some (.slice sa s.kids.length sc))) (by kernel_rfl) (HC3.out _ (Below.refl _ _).drew) (fun hHeld => ?_)
        have bX : Below w3.heap.size w3 w3.drew := (Below.refl _ _).drew
        generalize w3.drew = wD at *
        refine wpAnyH_take (i := 0) (oi := { dst := some 54, op := Op.load 34 (Operand.tmp 4), type := 34, pos := "l15_expand.go:162", after := #[], guard := none }) (v := ?_) rfl (by kernel_rfl) (by kernel_rfl) (by kernel_rfl) (fun _ _ _ h => h) (Or.inl ⟨by rfl, ?_⟩) hHeld ?_
        rotate_left
        · intro w' hSw
          (try dsimp only at hSw)
          go_simp
          try with_reducible rfl
        try simp only [Act.put, List.setIfInBounds_toArray, List.set_cons_zero, List.set_cons_succ]
        refine wpAnyH_take (i := 1) (oi := { dst := some 55, op := Op.fieldAddr 69 (Operand.tmp 10) 1, type := 0, pos := "l15_expand.go:162", after := #[], guard := none }) (v := ?_) rfl (by kernel_rfl) (by kernel_rfl) (by kernel_rfl) (fun _ _ _ h => h) (Or.inl ⟨by rfl, ?_⟩) hHeld ?_
        rotate_left
        · intro w' hSw
          (try dsimp only at hSw)
          go_simp
          try with_reducible rfl
        try simp only [Act.put, List.setIfInBounds_toArray, List.set_cons_zero, List.set_cons_succ]
        refine wpAnyH_take (i := 2) (oi := { dst := some 56, op := Op.load 9 (Operand.tmp 55), type := 9, pos := "l15_expand.go:162", after := #[{ on := 1, ground := Ground.data }], guard := none }) (v := ?_) rfl (by kernel_rfl) (by kernel_rfl) (by kernel_rfl) (fun _ _ _ h => h) (Or.inl ⟨by rfl, ?_⟩) hHeld ?_
        rotate_left
        · intro w' hSw
          (try dsimp only at hSw)
          go_simp
          try with_reducible rfl
        try simp only [Act.put, List.setIfInBounds_toArray, List.set_cons_zero, List.set_cons_succ]
        refine wpAnyH_take (i := 3) (oi := { dst := some 57, op := Op.move (Operand.tmp 2), type := 36, pos := "l15_expand.go:162", after := #[], guard := none }) (v := ?_) rfl (by kernel_rfl) (by kernel_rfl) (by kernel_rfl) (fun _ _ _ h => h) (Or.inl ⟨by rfl, ?_⟩) hHeld ?_
        rotate_left
        · intro w' hSw
          (try dsimp only at hSw)
          go_simp
          try with_reducible rfl
        try simp only [Act.put, List.setIfInBounds_toArray, List.set_cons_zero, List.set_cons_succ]
        refine wpAnyH_take (i := 4) (oi := { dst := some 58, op := Op.move (Operand.tmp 9), type := 3, pos := "l15_expand.go:162", after := #[], guard := none }) (v := ?_) rfl (by kernel_rfl) (by kernel_rfl) (by kernel_rfl) (fun _ _ _ h => h) (Or.inl ⟨by rfl, ?_⟩) hHeld ?_
        rotate_left
        · intro w' hSw
          (try dsimp only at hSw)
          go_simp
          try with_reducible rfl
        try simp only [Act.put, List.setIfInBounds_toArray, List.set_cons_zero, List.set_cons_succ]
        refine wpAnyH_take (i := 5) (oi := { dst := some 59, op := Op.indexAddr 36 (Operand.tmp 57) (Operand.tmp 58), type := 0, pos := "l15_expand.go:162", after := #[{ on := 3, ground := Ground.data }, { on := 4, ground := Ground.data }], guard := none }) (v := ?_) rfl (by kernel_rfl) (by kernel_rfl) (by kernel_rfl) (fun _ _ _ h => h) (Or.inl ⟨by rfl, ?_⟩) hHeld ?_
        rotate_left
        · intro w' hSw
          (try dsimp only at hSw)
          go_simp
          try with_reducible rfl
        try simp only [Act.put, List.setIfInBounds_toArray, List.set_cons_zero, List.set_cons_succ]
        refine wpAnyH_take (i := 6) (oi := { dst := some 60, op := Op.fieldAddr 60 (Operand.tmp 59) 4, type := 0, pos := "l15_expand.go:162", after := #[{ on := 5, ground := Ground.data }], guard := none }) (v := ?_) rfl (by kernel_rfl) (by kernel_rfl) (by kernel_rfl) (fun _ _ _ h => h) (Or.inl ⟨by rfl, ?_⟩) hHeld ?_
        rotate_left
        · intro w' hSw
          (try dsimp only at hSw)
          go_simp
          try with_reducible rfl
        try simp only [Act.put, List.setIfInBounds_toArray, List.set_cons_zero, List.set_cons_succ]
        refine wpAnyH_take (i := 7) (oi := { dst := some 61, op := Op.load 36 (Operand.tmp 60), type := 36, pos := "l15_expand.go:162", after := #[{ on := 6, ground := Ground.data }], guard := none }) (v := ?_) rfl (by kernel_rfl) (by kernel_rfl) (by kernel_rfl) (fun _ _ _ h => h) (Or.inl ⟨by rfl, ?_⟩) hHeld ?_
        rotate_left
        · intro w' hSw
          (try dsimp only at hSw)
          go_simp
          try with_reducible rfl
        try simp only [Act.put, List.setIfInBounds_toArray, List.set_cons_zero, List.set_cons_succ]
        refine wpAnyH_take (i := 8) (oi := { dst := some 62, op := Op.move (Operand.tmp 3), type := 28, pos := "l15_expand.go:162", after := #[], guard := none }) (v := ?_) rfl (by kernel_rfl) (by kernel_rfl) (by kernel_rfl) (fun _ _ _ h => h) (Or.inl ⟨by rfl, ?_⟩) hHeld ?_
        rotate_left
        · intro w' hSw
          (try dsimp only at hSw)
          go_simp
          try with_reducible rfl
        try simp only [Act.put, List.setIfInBounds_toArray, List.set_cons_zero, List.set_cons_succ]
        refine wpAnyH_ready (rs := [9]) (by kernel_rfl) (by simp) ?_
        refine AllReadyH.cons (o := { dst := some 63, op := Op.call { callee := Callee.value (Operand.func 42), args := #[Operand.tmp 54, Operand.tmp 56, Operand.tmp 61, Operand.tmp 62], argTypes := #[34, 9, 36, 28] }, type := 28, pos := "l15_expand.go:162", after := #[{ on := 0, ground := Ground.data }, { on := 2, ground := Ground.data }, { on := 7, ground := Ground.data }, { on := 8, ground := Ground.data }], guard := none }) rfl (fun K hK => ?_) AllReadyH.nil
        go_simp
        refine (HREC.out wD bX).mono ?_
        rintro e wK ⟨ka3, kc3, rfl, hRK, hGK⟩
        have bXX := bX
        refine hK.out _ _ (HC4.out _ _ _ bX hGK) (fun hHeld => ?_)
        clear hK K
        try simp only [Act.put, List.setIfInBounds_toArray, List.set_cons_zero, List.set_cons_succ]
        refine wpAnyH_take (i := 10) (oi := { dst := some 3, op := Op.assign (Operand.tmp 63), type := 28, pos := "l15_expand.go:162", after := #[{ on := 9, ground := Ground.data }, { on := 9, ground := Ground.chain }, { on := 0, ground := Ground.phase }, { on := 1, ground := Ground.phase }, { on := 2, ground := Ground.phase }, { on := 3, ground := Ground.phase }, { on := 4, ground := Ground.phase }, { on := 5, ground := Ground.phase }, { on := 6, ground := Ground.phase }, { on := 7, ground := Ground.phase }, { on := 8, ground := Ground.phase }, { on := 9, ground := Ground.phase }], guard := none }) (v := ?_) rfl (by kernel_rfl) (by kernel_rfl) (by kernel_rfl) (fun _ _ _ h => h) (Or.inl ⟨by rfl, ?_⟩) hHeld ?_
        rotate_left
        · intro w' hSw
          (try dsimp only at hSw)
          go_simp
          try with_reducible rfl
        try simp only [Act.put, List.setIfInBounds_toArray, List.set_cons_zero, List.set_cons_succ]
        refine wpAnyH_done (by kernel_rfl) ?_ _
        have bZK := (HGZ.out.trans (Grew.below _ bx)).trans (GW.out.2.trans ((Grew.below _ bXX).trans hGK))
        go_wp2_with fail
        go_roundw
        case measure => simp [intOf]; omega
        case rel => exact ⟨k + 1, L3, ka3, kc3, by omega, by simp, by go_num, HNL, hid_of ⟨hRK, bZK⟩⟩
end Go.Proofs.YtgcfgadkclfonaaGreatDoor

namespace Go.Proofs.YtgcfgadkclfonaaGreatDoor
set_option linter.unusedSimpArgs false
set_option linter.unusedVariables false
open Go.RowKit Go.Shelf Go.Maps

theorem faultD_code (a c : Value) (w : World) : Sem.run Tryz.prog (Instr.field 30 (.agg #[a, c]) 1) w = .ok c w := by
  simp [Instr.field, Tryz.underlying30, asAgg, go_sem]
attribute [local go_sem] Oper.semAt_some faultD_code

/-- The fields that an ask of a part looks at, if it fits. -/
def askFields (f : Nat) (p : Pt) (ks : List Se) : List ByteArray := if codeO (askChk f p ks) = 0 then fieldsM p f qry ks ks.length [] else []
/-- A list in a box, gathered on: nothing but the box and the list is changed. -/
structure GrewX (fb : Nat) (A : World) (v : Value) (B : World) (v' : Value) : Prop where
  size : A.heap.size ≤ B.heap.size
  os : B.os = A.os
  tape : B.tape = A.tape
  output : B.output = A.output
  block : ∀ b, b < A.heap.size → b ≠ fb → v.ownBlock ≠ some b → B.heap[b]? = A.heap[b]?
  lies : v'.ownBlock = v.ownBlock ∨ ∃ g, v'.ownBlock = some g ∧ A.heap.size ≤ g
  box : B.heap[fb]? = some (.cells #[v'] 28 (0, 0))
theorem GrewX.start {fb : Nat} {A : World} {v : Value} (h : A.heap[fb]? = some (.cells #[v] 28 (0, 0))) : GrewX fb A v A v := ⟨Nat.le_refl _, rfl, rfl, rfl, fun _ _ _ _ => rfl, Or.inl rfl, h⟩
theorem GrewX.step {fb : Nat} {A B C : World} {u v x : Value} (h : GrewX fb A u B v) (k : Grew B v C x) (hn : v.ownBlock ≠ some fb) (hlt : fb < A.heap.size) : GrewX fb A u (C.setCell ⟨fb, 0, none⟩ x) x := by
  refine ⟨by rw [size_set]; exact Nat.le_trans h.size k.size, k.os.trans h.os, k.tape.trans h.tape, k.output.trans h.output, fun b hb h1 h2 => ?_, ?_, ?_⟩
  · rw [Below.heap_setCell _ _ _ _ h1]
    refine (k.block b (Nat.lt_of_lt_of_le hb h.size) fun e => ?_).trans (h.block b hb h1 h2)
    rcases h.lies with e2 | ⟨g, e2, hg⟩
    · exact h2 (e2 ▸ e)
    · rw [e2] at e; simp only [Option.some.injEq] at e; omega
  · rcases k.lies with e | ⟨g, e, hg⟩
    · rcases h.lies with e2 | ⟨g, e2, hg⟩
      · exact Or.inl (e.trans e2)
      · exact Or.inr ⟨g, e.trans e2, hg⟩
    · exact Or.inr ⟨g, e, Nat.le_trans h.size hg⟩
  · rw [set_box ((k.block fb (Nat.lt_of_lt_of_le hlt h.size) hn).trans h.box)]
    rfl
theorem GrewX.nb {fb : Nat} {A B : World} {v v' : Value} (h : GrewX fb A v B v') (hn : v.ownBlock ≠ some fb) (hlt : fb < A.heap.size) : v'.ownBlock ≠ some fb := fun e => by
  rcases h.lies with e2 | ⟨g, e2, hg⟩
  · exact hn (e2 ▸ e)
  · rw [e2] at e; simp only [Option.some.injEq] at e; omega
theorem GrewX.below {fb : Nat} {A B C : World} {u v : Value} (h : GrewX fb A u B v) (hb : Below B.heap.size B C) (hlt : fb < A.heap.size) : GrewX fb A u C v :=
  ⟨Nat.le_trans h.size hb.size, hb.os.trans h.os, hb.tape.trans h.tape, hb.output.trans h.output, fun b h1 h2 h3 => (hb.block b (Nat.lt_of_lt_of_le h1 h.size)).trans (h.block b h1 h2 h3), h.lies, (hb.block fb (Nat.lt_of_lt_of_le hlt h.size)).trans h.box⟩
/-- What the rounds of AskFields know. -/
structure IFd (p : Pt) (w : World) (fb : Nat) (pre : List (Way × Se × ByteArray)) (O : Nat → Prop) (tv : Value) (A : World) : Prop where
  box : A.heap[fb]? = some (.cells #[tv] 28 (0, 0))
  row : Row9 w.heap.size A tv (fieldsF p [] pre)
  nb : tv.ownBlock ≠ some fb
  bel : Below w.heap.size w A
  own : ∀ b, O b ↔ b = fb ∨ tv.ownBlock = some b
theorem IFd.looks (p : Pt) (w : World) (fb Y : Nat) (hY : w.heap.size ≤ Y) (pre : List (Way × Se × ByteArray)) (O : Nat → Prop) : LooksAt Y O (fun A => ∃ tv, IFd p w fb pre O tv A) := by
  rintro A B ⟨tv, h⟩ h1 h2 h3 h4 h5
  exact ⟨tv, (h5 _ (Array.getElem?_eq_some_iff.1 h.box).1 (Or.inr ((h.own _).2 (Or.inl rfl)))).trans h.box, h.row.keep fun k hk => h5 k (h.row.1.lt k hk).2 (Or.inr ((h.own k).2 (Or.inr hk))), h.nb, ⟨h2.trans h.bel.os, h3.trans h.bel.tape, h4.trans h.bel.output, Nat.le_trans h.bel.size h1, fun b hb => (h5 b (Nat.lt_of_lt_of_le hb h.bel.size) (Or.inl (by omega))).trans (h.bel.block b hb)⟩, h.own⟩
theorem IFd.cells {p : Pt} {w : World} {fb : Nat} {pre : List (Way × Se × ByteArray)} {O : Nat → Prop} {tv : Value} {A : World} (h : IFd p w fb pre O tv A) : CellsIn O A := fun b hb => by
  rcases (h.own b).1 hb with rfl | hb
  · exact ⟨_, h.box, rfl⟩
  · exact owns_cells h.row.1 hb
/-- Behind a round. -/
theorem IFd.turn {p : Pt} {w : World} {fb : Nat} {pre : List (Way × Se × ByteArray)} {O : Nat → Prop} {tv tv' : Value} {A B : World} {x : Way × Se × ByteArray} (h : IFd p w fb pre O tv A) (hfb : w.heap.size ≤ fb) (hG : GrewX fb A tv B tv') (hR : Row9 w.heap.size B tv' (fieldsF p [] (pre ++ [x]))) :
    (∃ O', (∃ tv, IFd p w fb (pre ++ [x]) O' tv B) ∧ KeepO O A B ∧ ∀ b, O' b → O b ∨ A.heap.size ≤ b) ∧ KeepsOthers A B := by
  have lfb := (Array.getElem?_eq_some_iff.1 h.box).1
  refine ⟨⟨fun b => b = fb ∨ tv'.ownBlock = some b, ⟨tv', hG.box, hR, hG.nb h.nb lfb, ?_, fun b => Iff.rfl⟩, ⟨hG.size, fun b o hb ho _ => ?_⟩, fun b hb => ?_⟩, ⟨hG.size, fun k o hko ho => ?_⟩⟩
  · refine ⟨hG.os.trans h.bel.os, hG.tape.trans h.bel.tape, hG.output.trans h.bel.output, Nat.le_trans h.bel.size hG.size, fun b hb => ?_⟩
    have := h.bel.size
    exact (hG.block b (by omega) (by omega) (fun e => by have := (h.row.1.lt b e).1; omega)).trans (h.bel.block b hb)
  · exact (hG.block b (Array.getElem?_eq_some_iff.1 ho).1 (fun e => hb ((h.own b).2 (Or.inl e))) (fun e => hb ((h.own b).2 (Or.inr e)))).trans ho
  · rcases hb with rfl | hb
    · exact Or.inl ((h.own _).2 (Or.inl rfl))
    · rcases hG.lies with e2 | ⟨g, e2, hg⟩
      · exact Or.inl ((h.own _).2 (Or.inr (e2 ▸ hb)))
      · rw [e2] at hb
        simp only [Option.some.injEq] at hb
        exact Or.inr (by omega)
  · refine (hG.block k (Array.getElem?_eq_some_iff.1 hko).1 (fun e => ?_) (fun e => ?_)).trans hko
    · rw [e, h.box] at hko; cases hko; cases ho
    · obtain ⟨o2, h1, h2⟩ := owns_cells h.row.1 e
      rw [hko] at h1; cases h1; rw [ho] at h2; cases h2
theorem fieldsF_len (p : Pt) (hz : szP p ≤ 1048576) : ∀ (l : List (Way × Se × ByteArray)) (out : List ByteArray), (fieldsF p out l).length ≤ out.length + l.length * 1048577
  | [], out => by simp [fieldsF]
  | y :: l, out => by
    have e : fieldsF p out (y :: l) = fieldsF p (stepD p out y) l := rfl
    rw [e]
    have h1 := fieldsF_len p hz l (stepD p out y)
    have h2 := addAll_len (fldT y.2.2 y.2.1.name :: (fldF p y.2.2 y.2.1.name).needs.map (fldT y.2.2)) out
    have h3 := (fldF_small p hz y.2.2 y.2.1.name).2.2.1
    have h4 : (stepD p out y).length ≤ out.length + 1048577 := by
      unfold stepD
      simp only [List.length_cons, List.length_map] at h2
      omega
    simp only [List.length_cons]
    rw [Nat.add_mul]
    omega
theorem askF_lenD (p : Pt) : ∀ (xs : List (Way × Se)) (T : List ByteArray), (askF p T xs).length = xs.length
  | [], T => rfl
  | y :: ys, T => by simp [askF, askF_lenD p ys]
theorem preTo_smallD : ∀ (f : Nat) (ah : Way) (ks : List Se) (n : Nat), n ≤ ks.length → SmallS f ks → ∀ x ∈ preTo f ah ks n, x.2.name.size ≤ 1048576
  | 0, ah, ks, n, hn, hs, x, hx => by simp [preTo] at hx
  | f + 1, ah, ks, 0, hn, hs, x, hx => by simp [preTo] at hx
  | f + 1, ah, ks, n + 1, hn, hs, x, hx => by
    rw [preTo_succ] at hx
    rcases List.mem_append.1 hx with hx | hx
    · exact preTo_smallD (f + 1) ah ks n (by omega) hs x hx
    · rcases List.mem_cons.1 hx with rfl | hx
      · exact (hs n (by omega)).2.1
      · exact preTo_smallD f _ _ _ (Nat.le_refl _) (hs n (by omega)).2.2 x hx
theorem askF_smallD (p : Pt) (hz : szP p ≤ 1048576) : ∀ (xs : List (Way × Se)) (T : List ByteArray), (∀ i, (nth T i).size ≤ 1048576) → (∀ x ∈ xs, x.2.name.size ≤ 1048576) → ∀ y ∈ askF p T xs, y.2.2.size ≤ 1048576 ∧ y.2.1.name.size ≤ 1048576
  | [], T, hT, hx, y, hy => by simp [askF] at hy
  | x :: xs, T, hT, hx, y, hy => by
    simp only [askF, List.mem_cons] at hy
    rcases hy with rfl | hy
    · exact ⟨hT _, hx x (by simp)⟩
    · refine askF_smallD p hz xs (tyS p T x) (fun i => ?_) (fun z hz => hx z (by simp [hz])) y hy
      unfold tyS nth
      rw [List.getD_eq_getElem?_getD]
      by_cases hi : i < (T.take x.1.length).length
      · rw [List.getElem?_append_left hi, List.getElem?_take]
        split
        · rw [← List.getD_eq_getElem?_getD]; exact hT i
        · simp
      · rw [List.getElem?_append_right (by omega)]
        by_cases h0 : i - (T.take x.1.length).length = 0
        · rw [h0]; simpa using (fldF_small p hz _ _).2.1
        · rw [List.getElem?_eq_none (by simp at h0 ⊢; omega)]; simp
theorem askF_small (p : Pt) (hz : szP p ≤ 1048576) (f : Nat) (ks : List Se) (hs : SmallS f ks) (x : Way × Se × ByteArray) (hx : x ∈ askF p [qry] (preTo f [] ks ks.length)) : x.2.2.size ≤ 1048576 ∧ x.2.1.name.size ≤ 1048576 :=
  askF_smallD p hz _ _ (fun i => by
    rcases i with _ | i
    · simp [nth, qry, ByteArray.size]
    · simp [nth]) (preTo_smallD f [] ks _ (Nat.le_refl _) hs) x hx
theorem row9_cells {base : Nat} {w : World} {v : Value} {l : List ByteArray} {k : Nat} (h : Row9 base w v l) (hk : v.ownBlock = some k) : ∃ cs, w.heap[k]? = some (.cells cs 9 (0, 0)) := by
  rcases h.1.2 with ⟨rfl, -⟩ | ⟨g, cap, cur, rfl, -, hh, -⟩
  · simp [Value.ownBlock] at hk
  · simp only [Value.ownBlock, Option.some.injEq] at hk
    subst hk
    exact ⟨_, hh⟩
/-- How AskFields ends. -/
def FldNew (w : World) (l : List ByteArray) (e : Ending) (w' : World) : Prop := ∃ a c, e = .returned (.slice a l.length c) ∧ Row9 w.heap.size w' (.slice a l.length c) l ∧ Below w.heap.size w w'

set_option maxRecDepth 20000 in
set_option maxHeartbeats 3200000 in
theorem AskFieldsI_any (f : Nat) (p : Pt) (ks : List Se) (P : Nat → Prop) (B : Nat) (ka : Option Addr) (kc : Nat) (v : Value) (w : World) (h : AskIn f ks P B ka w) (hP : PRep w (· < w.heap.size) p v) (hz : szP p ≤ 1048576) :
    Calls Tryz.prog 22 #[v, .slice ka ks.length kc] w fun e w' => FldNew w (askFields f p ks) e w' := by
  have hP' := hP
  obtain ⟨ta, tc, rfl, -, -, -⟩ := hP
  have bX := below_box w (.cells #[.string p.name, .slice ta p.types.length tc] 34)
  have zX : (w.alloc (.cells #[.string p.name, .slice ta p.types.length tc] 34)).heap.size = w.heap.size + 1 := by simp
  have nX := heap_alloc_new w (.cells #[.string p.name, .slice ta p.types.length tc] 34)
  have HC := hid_of (fun W (hW : Below w.heap.size w W) => AskCheckI_any f p ks P B ka kc _ W (h.on hW) ((hP'.under hW).sub fun b hb => Nat.lt_of_lt_of_le hb hW.size) hz)
  obtain ⟨code, hcode⟩ : ∃ code, code = codeO (askChk f p ks) := ⟨_, rfl⟩
  have HC : Hid (∀ W, Below w.heap.size w W → Calls Tryz.prog 11 #[.agg #[.string p.name, .slice ta p.types.length tc], .slice ka ks.length kc] W fun e w' => ∃ a n c, e = .returned (.agg #[.slice a n c, .int .i64 code]) ∧ Below W.heap.size W w') := hid_of fun W hW => (HC.out W hW).mono fun e w' h => by
    obtain ⟨a, c, h1, -, h3⟩ := h
    exact ⟨a, _, c, by rw [h1, hcode], h3⟩
  by_cases hc0 : code = 0
  case neg =>
    have HE : Hid (askFields f p ks = []) := hid_of (by rw [askFields, ← hcode, if_neg hc0])
    have hcb : (code == 0) = false := by simpa using hc0
    have hcn : (code != 0) = true := by simpa using hc0
    clear hcode nX
    refine (callsIn_wide (n := 3)).1 ?_
    refine callsIn_of_wp_marks Tryz.func22 rfl trivial ?_ rfl
    simp only [Tryz.ntmps22, List.size_toArray, List.length_cons, List.length_nil, Nat.reduceAdd, Nat.reduceSub, Array.replicate_succ, Array.replicate_zero, List.push_toArray, List.append_toArray, List.nil_append, List.cons_append]
    gi_wp2_with (refine ⟨trivial, ?_⟩; gi_at_call 11; refine (callsIn_wide.2 (HC.out _ bX)).mono ?_; rintro e w1 ⟨a1, n1, c1, rfl, hb1⟩; have b01 := bX.trans (hb1.mono (by omega)))
    refine ⟨.slice none 0 0, by simp [results, Tryz.results22, go_sem], ?_⟩
    rw [HE.out]
    exact ⟨none, 0, rfl, ⟨⟨rfl, Or.inl ⟨rfl, rfl⟩⟩, fun i => by simp [nth, maxLen], by simp⟩, b01⟩
  subst hc0
  have hokk : okP p = true ∧ askOk f ks = true := by
    have h0 := hcode.symm
    unfold askChk at h0
    split at h0
    · assumption
    · simp [codeO] at h0
  have hchk : askChk f p ks = none := by
    have h0 := hcode.symm
    rw [askChk, if_pos hokk] at h0 ⊢
    cases hc : chkM p f [] qry ks ks.length with
    | none => rfl
    | some x =>
      rw [hc] at h0
      exact absurd h0 (chkM_code p f [] qry ks ks.length x hc)
  obtain ⟨XS, hXS⟩ : ∃ XS, XS = preTo f [] ks ks.length := ⟨_, rfl⟩
  have h2w : walkB [] XS = true := by
    have hq : askB f ks = true := by
      have := hokk.2
      simp only [askOk, Bool.and_eq_true] at this
      exact this.1
    have := askB_walk f ks h.fit
    rw [hq, ← hXS] at this
    cases hw : walkB [] XS
    · rw [hw] at this; simp at this
    · rfl
  have h5 : ∀ x ∈ XS, x.1.length ≤ 5 := fun x hx => (((walkB_all XS []).1 h2w).1 x hx).1
  have h24 : XS.length ≤ 24 := by
    by_cases he : XS = []
    · rw [he]; simp
    · have := ((walkB_all XS []).1 h2w).2.1 he
      simpa using this
  obtain ⟨AS, hAS⟩ : ∃ AS, AS = askF p [qry] XS := ⟨_, rfl⟩
  have hbad : firstBad p AS = none := by
    rw [hAS, hXS, (ask_walk p f [] qry ks _ [qry] (Nat.le_refl _) (by simp) rfl).1]
    rw [askChk, if_pos hokk] at hchk
    exact hchk
  have HE : Hid (askFields f p ks = fieldsF p [] AS) := hid_of (by
    rw [askFields, ← hcode, if_pos rfl, hAS, hXS]
    exact (fields_walk p f [] qry ks ks.length [qry] [] (Nat.le_refl _) (by simp) rfl (by rw [← hXS, ← hAS]; exact hbad)).symm)
  have HLEN : Hid (∀ pre, pre <+: AS → (fieldsF p [] pre).length ≤ 25165848) := hid_of fun pre hp => by
    have h1 := fieldsF_len p hz pre []
    have h3 := hp.length_le
    have h4 : AS.length = XS.length := by rw [hAS]; exact askF_lenD p XS [qry]
    have h6 : pre.length * 1048577 ≤ 24 * 1048577 := Nat.mul_le_mul_right _ (by omega)
    simp only [List.length_nil, Nat.zero_add] at h1
    omega
  have HSMA : Hid (∀ x ∈ AS, x.2.2.size ≤ 1048576 ∧ x.2.1.name.size ≤ 1048576) := hid_of fun x hx => by
    rw [hAS, hXS] at hx
    exact askF_small p hz f ks h.small x hx
  have HAS := hid_of (And.intro hAS hXS)
  clear hAS hXS hcode h24 hbad hchk hokk h2w
  have HXP : Hid (∀ W', Below (w.heap.size + 1) (w.alloc (.cells #[.string p.name, .slice ta p.types.length tc] 34)) W' → W'.cell? ⟨w.heap.size, 0, none⟩ = some (.string p.name) ∧ W'.cell? ⟨w.heap.size, 1, none⟩ = some (.slice ta p.types.length tc)) := hid_of fun W' hW => by
    have hp := (hW.block _ (by omega)).trans nX
    exact ⟨(box_at hp 0 (by simp)).1, (box_at hp 1 (by simp)).1⟩
  clear nX
  refine (callsIn_wide (n := 3)).1 ?_
  refine callsIn_of_wp_marks Tryz.func22 rfl trivial ?_ rfl
  simp only [Tryz.ntmps22, List.size_toArray, List.length_cons, List.length_nil, Nat.reduceAdd, Nat.reduceSub, Array.replicate_succ, Array.replicate_zero, List.push_toArray, List.append_toArray, List.nil_append, List.cons_append]
  gi_wp2_with (first
    | (
      refine ⟨trivial, ?_⟩
      gi_at_call 11
      refine (callsIn_wide.2 (HC.out _ bX)).mono ?_
      rintro e w1 ⟨a1, n1, c1, rfl, hb1⟩
      have b01 := bX.trans (hb1.mono (by omega))
      have hb1' : Below (w.heap.size + 1) (w.alloc (.cells #[.string p.name, .slice ta p.types.length tc] 34)) w1 := by rw [zX] at hb1; exact hb1
      have xa := fun o1 => (HXP.out (w1.alloc o1) (hb1'.trans ((below_box w1 o1).mono (by have := hb1'.size; omega)))).1
      have xb := fun o1 => (HXP.out (w1.alloc o1) (hb1'.trans ((below_box w1 o1).mono (by have := hb1'.size; omega)))).2)
    | (refine ⟨trivial, ?_⟩; gi_at_call 35; refine (callsIn_wide.2 (askedOf_any _ _ _ ka ks.length kc)).mono ?_; rintro e w' ⟨rfl, rfl⟩))
  obtain ⟨Y, hY⟩ : ∃ Y, Y = ((w1.alloc (.cells #[.slice none 0 0] 28)).alloc (.cells #[.string p.name, .slice ta p.types.length tc] 34)).alloc (.cells #[.slice ka ks.length kc] 36) := ⟨_, rfl⟩
  have zY : Y.heap.size = w1.heap.size + 3 := by rw [hY]; simp
  have z1 := b01.size
  have bY : Below w1.heap.size w1 Y := by rw [hY]; exact (((Below.refl _ _).alloc (Nat.le_refl _) _).alloc (by simp) _).alloc (by simp <;> omega) _
  have fY : Y.heap[w1.heap.size]? = some (.cells #[.slice none 0 0] 28 (0, 0)) := by
    rw [hY, (below_box _ _).block _ (by simp <;> omega), (below_box _ _).block _ (by simp)]
    exact block_new _ _ rfl
  have pY : Y.heap[w1.heap.size + 1]? = some (.cells #[.string p.name, .slice ta p.types.length tc] 34 (0, 0)) := by
    rw [hY, (below_box _ _).block _ (by simp)]
    exact block_new _ _ (by simp)
  have sY : Y.heap[w1.heap.size + 1 + 1]? = some (.cells #[.slice ka ks.length kc] 36 (0, 0)) := by
    rw [hY]
    exact block_new _ _ (by simp)
  have bwY := b01.trans (bY.mono b01.size)
  rw [← hY]
  clear hY HC xa xb hb1 hb1' HXP
  refine range_stop2 (w := Y) rfl (by omega) (gf := 61) (lb := #[.pointer (some ⟨w1.heap.size + 1 + 1, 0, none⟩), .pointer (some ⟨w1.heap.size + 1, 0, none⟩)]) rfl trivial (enters_of Tryz.func61 (by kernel_rfl) rfl)
    AS (fun pre O x ar A => ArgA w.heap.size O p x ar A ∧ pre ++ [x] <+: AS) ?ps (fun pre O A => ∃ tv, IFd p w w1.heap.size pre O tv A) ?looks ?cells (fun _ => False) ?xstill
    (fun b => b = w1.heap.size) ?start ?seq
    (fun pre O x ar a' A => ∃ (g wc : Nat) (sa : Option Addr) (sc : Nat) (na : Option Addr) (nc sx : Nat), pre ++ [x] <+: AS ∧ a' = { tmps := #[.agg #[.string p.name, .slice ta p.types.length tc], .slice ka ks.length kc, .pointer (some ⟨w.heap.size, 0, none⟩), undef, .slice none 0 0, .pointer (some ⟨w1.heap.size, 0, none⟩), undef, .pointer (some ⟨sx, 0, none⟩), undef, undef, .agg #[.string p.name, .slice ta p.types.length tc], .slice ka ks.length kc, .agg #[.slice a1 n1 c1, .int .i64 0], .int .i64 0, .bool false, .agg #[.string p.name, .slice ta p.types.length tc], .slice ka ks.length kc, .func (.func 61) #[] #[.pointer (some ⟨w1.heap.size + 1 + 1, 0, none⟩), .pointer (some ⟨w1.heap.size + 1, 0, none⟩)], .slice (some ⟨g, 0, none⟩) x.1.length wc, .agg #[.string x.2.1.al, .string x.2.1.name, .bool x.2.1.one, .int .i64 x.2.1.id, .slice sa x.2.1.kids.length sc, .string x.2.2, .string (fldF p x.2.2 x.2.1.name).name, .string (fldF p x.2.2 x.2.1.name).of, .bool (fldF p x.2.2 x.2.1.name).list, .bool (fldF p x.2.2 x.2.1.name).must, .bool (fldF p x.2.2 x.2.1.name).far, .bool (fldF p x.2.2 x.2.1.name).hidden, .bool (fldF p x.2.2 x.2.1.name).shared, .slice na (fldF p x.2.2 x.2.1.name).needs.length nc, .bool (fldB p x.2.2 x.2.1.name && !(fldF p x.2.2 x.2.1.name).hidden)], undef, undef, undef, undef, undef, undef, undef, undef, undef, undef, undef, undef, undef, undef, undef, undef, undef, undef, undef, undef, undef, undef, undef, undef], defers := [] } ∧ A.heap[sx]? = some (.cells #[.string x.2.1.al, .string x.2.1.name, .bool x.2.1.one, .int .i64 x.2.1.id, .slice sa x.2.1.kids.length sc, .string x.2.2, .string (fldF p x.2.2 x.2.1.name).name, .string (fldF p x.2.2 x.2.1.name).of, .bool (fldF p x.2.2 x.2.1.name).list, .bool (fldF p x.2.2 x.2.1.name).must, .bool (fldF p x.2.2 x.2.1.name).far, .bool (fldF p x.2.2 x.2.1.name).hidden, .bool (fldF p x.2.2 x.2.1.name).shared, .slice na (fldF p x.2.2 x.2.1.name).needs.length nc, .bool (fldB p x.2.2 x.2.1.name && !(fldF p x.2.2 x.2.1.name).hidden)] 71 (0, 0)) ∧ Strs A (· < w.heap.size) (fldF p x.2.2 x.2.1.name).needs na) ?astill ?assign ?body ?done ?stop
  case ps =>
    rintro pre O x ar A ⟨⟨g, wc, sa, sc, na, nc, rfl, -⟩, -⟩
    rfl
  case looks => exact fun pre O => IFd.looks p w _ _ (by omega) pre O
  case cells =>
    rintro pre O A ⟨tv, h⟩
    exact h.cells
  case xstill => exact fun A l o o' h _ _ _ => h
  case start =>
    exact ⟨.slice none 0 0, fY, ⟨⟨rfl, Or.inl ⟨rfl, rfl⟩⟩, fun i => by simp [fieldsF, nth, maxLen], by simp [fieldsF]⟩, by simp [Value.ownBlock], bwY, fun b => by simp [Value.ownBlock]⟩
  case seq =>
    intro l J Jx W hb hJl hXs hJc hy h0
    have hbW := bwY.trans (hb.mono bwY.size)
    have zW := hb.size
    have := askedOf1_any p (.string p.name) (.slice ta p.types.length tc) f ks l J Jx w.heap.size (3 - 1) _ W ka kc (w1.heap.size + 1 + 1) (w1.heap.size + 1) hJl hXs hJc (fun n pre O x ar A hJ hp hA => yieldAt_wide (hy pre O x ar A hJ ⟨hA, by rw [HAS.out.1, HAS.out.2]; exact hp⟩)) h.fit h.small ((h.on hbW).rep.sub fun b hb => by have := (h.apart b hb).1; have := h.le; show b < _; omega) (hP'.under hbW) hbW.size h.few (by rw [← HAS.out.2]; exact h5) h0 (by rintro b rfl; omega) ((hb.cell (p := ⟨w1.heap.size + 1 + 1, 0, none⟩) (by show w1.heap.size + 1 + 1 < _; omega)).trans (box_at sY 0 (by simp)).1) ((hb.cell (p := ⟨w1.heap.size + 1, 0, none⟩) (by show w1.heap.size + 1 < _; omega)).trans (box_at pY 0 (by simp)).1) ((hb.cell (p := ⟨w1.heap.size + 1, 1, none⟩) (by show w1.heap.size + 1 < _; omega)).trans (box_at pY 1 (by simp)).1)
    rw [← HAS.out.2, ← HAS.out.1] at this
    exact this
  case astill =>
    rintro pre O x ar a' A l o o' ⟨g, wc, sa, sc, na, nc, sx, h1, h2, h4, h6⟩ hl ho1 ho2
    exact ⟨g, wc, sa, sc, na, nc, sx, h1, h2, still_cells ho1 ho2 h4, (h6.only.mono fun b hb => by
      obtain ⟨-, ob, k1, k2⟩ := hb
      exact World.putObj_heap_other fun e => by rw [e, ho1] at k1; cases k1; rw [ho2] at k2; cases k2).sub fun b hb => hb.1⟩
  case assign =>
    rintro l pre O x ar A K ⟨⟨g, wc, sa, sc, na, nc, rfl, h3, h4, h6, h7, h8, h9, h10, hFR⟩, hp⟩ hK
    have HK := hid_of hK
    have hst : Strs A (· < w.heap.size) (fldF p x.2.2 x.2.1.name).needs na := by
      obtain ⟨na', nc', e, hs, -⟩ := hFR
      simp only [aggF, Value.agg.injEq, Array.mk.injEq, List.cons.injEq, Value.slice.injEq, and_true, true_and] at e
      obtain ⟨rfl, -⟩ := e
      exact hs
    have hz2 : w.heap.size ≤ A.heap.size ∨ (fldF p x.2.2 x.2.1.name).needs = [] := by
      by_cases he : (fldF p x.2.2 x.2.1.name).needs = []
      · exact Or.inr he
      · exact Or.inl (Nat.le_trans h6.1 (Nat.le_of_lt h7))
    clear hK hFR
    unfold askedV
    gi_wp2
    refine HK.out _ _ (below_box A _) ⟨g, wc, sa, sc, na, nc, A.heap.size, hp, rfl, block_new _ _ rfl, ?_⟩
    exact hst.mono fun b hb => (below_box A _).block b (by have : b < w.heap.size := hb; have := Nat.le_trans h6.1 (Nat.le_of_lt h7); omega)
  case done =>
    rintro D O W hD ⟨tv, h2⟩ hK
    obtain ⟨a2, c2, rfl, -⟩ := h2.row.strs
    have HH := hid_of h2
    obtain ⟨r0, f0⟩ := box_at h2.box 0 (by simp)
    simp only [List.getElem_toArray, List.getElem_cons_zero] at r0
    clear h2
    gi_wp2
    refine ⟨by simp, .inl ⟨_, _, rfl, run_takeDeferred hK, .slice a2 (fieldsF p [] AS).length c2, by simp [results, Tryz.results22, go_sem], ?_⟩⟩
    rw [HE.out]
    refine ⟨a2, c2, rfl, HH.out.row.keep fun b hb => ?_, HH.out.bel.trans (below_putObj _ _ (by omega))⟩
    obtain ⟨cs, hcs⟩ := row9_cells HH.out.row hb
    exact World.putObj_heap_other fun e => by rw [e, hK] at hcs; cases hcs
  case stop =>
    rintro D W hD h1 hK
    exact h1.elim
  case body =>
    rintro l pre O x ar a' A ⟨tv, h2⟩ ⟨g, wc, sa, sc, na, nc, sx, hp, rfl, h9, hst⟩
    clear zY
    obtain ⟨hsz1, hsz2⟩ := HSMA.out x (hp.subset (by simp))
    have hsm := fldF_small p hz x.2.2 x.2.1.name
    obtain ⟨L, hL⟩ : ∃ L, L = fieldsF p [] pre := ⟨_, rfl⟩
    have hlen := HLEN.out pre (List.IsPrefix.trans ⟨[x], rfl⟩ hp)
    have hrow := h2.row
    rw [← hL] at hrow hlen
    obtain ⟨la, lc, rfl, -⟩ := hrow.strs
    have HNX : Hid (fieldsF p [] (pre ++ [x]) = addAll (addT L (fldT x.2.2 x.2.1.name)) ((fldF p x.2.2 x.2.1.name).needs.map (fldT x.2.2))) := hid_of (by
      rw [fieldsF_app, ← hL]
      rfl)
    generalize fldF p x.2.2 x.2.1.name = gF at *
    obtain ⟨hs0, hs1, hs2, hs3⟩ := hsm
    have HS3 := hid_of hs3
    have lfb := (Array.getElem?_eq_some_iff.1 h2.box).1
    have lsx := (Array.getElem?_eq_some_iff.1 h9).1
    have hnb := h2.nb
    have hsx1 : sx ≠ w1.heap.size := fun e => by rw [e, h2.box] at h9; simp at h9
    have hsx2 : (Value.slice la L.length lc).ownBlock ≠ some sx := fun e => by
      obtain ⟨cs, hcs⟩ := row9_cells hrow e
      rw [h9] at hcs
      simp at hcs
    have hwA := h2.bel.size
    have HG0 := hid_of (GrewX.start h2.box)
    have HS : Hid (∀ W' v', GrewX w1.heap.size A (.slice la L.length lc) W' v' → (W'.cell? ⟨sx, 1, none⟩ = some (.string x.2.1.name) ∧ W'.cell? ⟨sx, 5, none⟩ = some (.string x.2.2)) ∧ W'.cell? ⟨sx, 13, none⟩ = some (.slice na gF.needs.length nc) ∧ Strs W' (· < w.heap.size) gF.needs na ∧ W'.cell? ⟨w1.heap.size, 0, none⟩ = some v' ∧ W'.frozen? ⟨w1.heap.size, 0, none⟩ = false) := hid_of fun W' v' hW => by
      have hsb := (hW.block sx lsx hsx1 hsx2).trans h9
      refine ⟨⟨(box_at hsb 1 (by simp)).1, (box_at hsb 5 (by simp)).1⟩, (box_at hsb 13 (by simp)).1, hst.mono fun b hb => hW.block b ?_ ?_ ?_, (box_at hW.box 0 (by simp)).1, (box_at hW.box 0 (by simp)).2⟩
      · have : b < w.heap.size := hb; omega
      · have : b < w.heap.size := hb; omega
      · intro e; have := (hrow.1.lt b e).1; have : b < w.heap.size := hb; omega
    have HS2 : Hid (∀ W u W' v', GrewX w1.heap.size A (.slice la L.length lc) W u → Grew W u W' v' → (W'.cell? ⟨sx, 1, none⟩ = some (.string x.2.1.name) ∧ W'.cell? ⟨sx, 5, none⟩ = some (.string x.2.2)) ∧ W'.cell? ⟨w1.heap.size, 0, none⟩ = some u ∧ W'.frozen? ⟨w1.heap.size, 0, none⟩ = false) := hid_of fun W u W' v' hW hG => by
      have hz := hW.size
      have hux : u.ownBlock ≠ some sx := fun e => by
        rcases hW.lies with e2 | ⟨g, e2, hg⟩
        · exact hsx2 (e2 ▸ e)
        · rw [e2] at e; simp only [Option.some.injEq] at e; omega
      have hsb := (hG.block sx (by omega) hux).trans ((hW.block sx lsx hsx1 hsx2).trans h9)
      have hfb := (hG.block w1.heap.size (by omega) (hW.nb hnb lfb)).trans hW.box
      exact ⟨⟨(box_at hsb 1 (by simp)).1, (box_at hsb 5 (by simp)).1⟩, (box_at hfb 0 (by simp)).1, (box_at hfb 0 (by simp)).2⟩
    have HFT := hid_of (fun W => fieldT_any x.2.2 x.2.1.name W (by omega))
    obtain ⟨L1, HL1⟩ : ∃ L1, Hid (addT L (fldT x.2.2 x.2.1.name) = L1) := ⟨_, hid_of rfl⟩
    have HAD : Hid (∀ W, Below A.heap.size A W → Calls Tryz.prog 43 #[(.slice la L.length lc), .string (fldT x.2.2 x.2.1.name)] W fun e w' => Added w.heap.size W (.slice la L.length lc) L1 e w') := hid_of fun W hW => by
      have h1 := addOnce_any L (fldT x.2.2 x.2.1.name) W w.heap.size (.slice la L.length lc) (hrow.keep fun k hk => hW.block k (hrow.1.lt k hk).2) (by rw [fldT_size]; unfold maxLen; omega) (by omega) (by have := hW.size; omega)
      rw [HL1.out] at h1
      exact h1
    rw [HL1.out] at HNX
    have hl1 : L1.length ≤ L.length + 1 := by rw [← HL1.out]; exact addT_len _ _
    have HH := hid_of h2
    clear h2 hrow hp hL hst h9 hs3 HL1
    gi_wp2
    refine Code.wpIn_mono (Q := fun e a3 w3 => e = .normal ∧ ∃ (a2 : Option Addr) (c2 : Nat) (u20 u21 u22 u23 u24 u25 u26 u27 : Value), a3 = { tmps := #[.agg #[.string p.name, .slice ta p.types.length tc], .slice ka ks.length kc, .pointer (some ⟨w.heap.size, 0, none⟩), undef, .slice none 0 0, .pointer (some ⟨w1.heap.size, 0, none⟩), undef, .pointer (some ⟨sx, 0, none⟩), undef, undef, .agg #[.string p.name, .slice ta p.types.length tc], .slice ka ks.length kc, .agg #[.slice a1 n1 c1, .int .i64 0], .int .i64 0, .bool false, .agg #[.string p.name, .slice ta p.types.length tc], .slice ka ks.length kc, .func (.func 61) #[] #[.pointer (some ⟨w1.heap.size + 1 + 1, 0, none⟩), .pointer (some ⟨w1.heap.size + 1, 0, none⟩)], .slice (some ⟨g, 0, none⟩) x.1.length wc, .agg #[.string x.2.1.al, .string x.2.1.name, .bool x.2.1.one, .int .i64 x.2.1.id, .slice sa x.2.1.kids.length sc, .string x.2.2, .string gF.name, .string gF.of, .bool gF.list, .bool gF.must, .bool gF.far, .bool gF.hidden, .bool gF.shared, .slice na gF.needs.length nc, .bool (fldB p x.2.2 x.2.1.name && !gF.hidden)], u20, u21, u22, u23, u24, u25, u26, u27, undef, undef, undef, undef, undef, undef, undef, undef, undef, undef, undef, undef, undef, undef, undef, undef], defers := [] } ∧ Hid (GrewX w1.heap.size A (.slice la L.length lc) w3 (.slice a2 L1.length c2) ∧ Row9 w.heap.size w3 (.slice a2 L1.length c2) L1)) ?imp6 ?reg6
    case reg6 =>
      refine region_round (fun w' => w'.cell? ⟨sx, 1, none⟩ = some (.string x.2.1.name) ∧ w'.cell? ⟨sx, 5, none⟩ = some (.string x.2.2)) (by kernel_rfl) (by rintro ⟨a, w, h, -⟩; cases h) (by kernel_rfl) (HS.out _ _ (HG0.out.below (Below.refl _ _).drew lfb)).1 (fun hHeld => ?_)
      have bX : Below A.heap.size A A.drew := (Below.refl _ _).drew
      generalize A.drew = wD at *
      have gX := HG0.out.below bX lfb
      obtain ⟨-, -, -, t0, tf⟩ := HS.out wD _ gX
      refine wpAnyH_take (i := 1) (oi := { dst := some 21, op := Op.fieldAddr 71 (Operand.tmp 7) 1, type := 0, pos := "l15_expand.go:52", after := #[], guard := none }) (v := ?_) rfl (by kernel_rfl) (by kernel_rfl) (by kernel_rfl) (fun _ _ _ h => by cases h.1) (Or.inl ⟨by rfl, ?_⟩) hHeld ?_
      rotate_left
      · intro w' hSw
        (try dsimp only at hSw)
        go_simp
        try with_reducible rfl
      try simp only [Act.put, List.setIfInBounds_toArray, List.set_cons_zero, List.set_cons_succ]
      refine wpAnyH_take (i := 2) (oi := { dst := some 22, op := Op.load 9 (Operand.tmp 21), type := 9, pos := "l15_expand.go:52", after := #[{ on := 1, ground := Ground.data }], guard := none }) (v := ?_) rfl (by kernel_rfl) (by kernel_rfl) (by kernel_rfl) (fun _ _ _ h => by cases h.1) (Or.inl ⟨by rfl, ?_⟩) hHeld ?_
      rotate_left
      · intro w' hSw
        (try dsimp only at hSw)
        go_simp
        try with_reducible rfl
      try simp only [Act.put, List.setIfInBounds_toArray, List.set_cons_zero, List.set_cons_succ]
      refine wpAnyH_take (i := 3) (oi := { dst := some 23, op := Op.fieldAddr 71 (Operand.tmp 7) 0, type := 0, pos := "l15_expand.go:52", after := #[], guard := none }) (v := ?_) rfl (by kernel_rfl) (by kernel_rfl) (by kernel_rfl) (fun _ _ _ h => by cases h.1) (Or.inl ⟨by rfl, ?_⟩) hHeld ?_
      rotate_left
      · intro w' hSw
        (try dsimp only at hSw)
        go_simp
        try with_reducible rfl
      try simp only [Act.put, List.setIfInBounds_toArray, List.set_cons_zero, List.set_cons_succ]
      refine wpAnyH_take (i := 4) (oi := { dst := some 24, op := Op.fieldAddr 60 (Operand.tmp 23) 1, type := 0, pos := "l15_expand.go:52", after := #[{ on := 3, ground := Ground.data }], guard := none }) (v := ?_) rfl (by kernel_rfl) (by kernel_rfl) (by kernel_rfl) (fun _ _ _ h => by cases h.1) (Or.inl ⟨by rfl, ?_⟩) hHeld ?_
      rotate_left
      · intro w' hSw
        (try dsimp only at hSw)
        go_simp
        try with_reducible rfl
      try simp only [Act.put, List.setIfInBounds_toArray, List.set_cons_zero, List.set_cons_succ]
      refine wpAnyH_take (i := 5) (oi := { dst := some 25, op := Op.load 9 (Operand.tmp 24), type := 9, pos := "l15_expand.go:52", after := #[{ on := 4, ground := Ground.data }], guard := none }) (v := ?_) rfl (by kernel_rfl) (by kernel_rfl) (by kernel_rfl) (fun _ _ _ h => by cases h.1) (Or.inl ⟨by rfl, ?_⟩) hHeld ?_
      rotate_left
      · intro w' hSw
        (try dsimp only at hSw)
        go_simp
        try with_reducible rfl
      try simp only [Act.put, List.setIfInBounds_toArray, List.set_cons_zero, List.set_cons_succ]
      refine wpAnyH_ready (rs := [0, 6]) (by kernel_rfl) (by simp) ?_
      refine AllReadyH.cons (o := { dst := some 20, op := Op.load 28 (Operand.tmp 5), type := 28, pos := "l15_expand.go:52", after := #[], guard := none }) rfl (fun K hK => ?_) ?_
      · go_simp
        refine hK.out _ _ (HS.out _ _ gX).1 (fun hHeld => ?_)
        clear hK K
        try simp only [Act.put, List.setIfInBounds_toArray, List.set_cons_zero, List.set_cons_succ]
        refine wpAnyH_ready (rs := [6]) (by kernel_rfl) (by simp) ?_
        refine AllReadyH.cons (o := { dst := some 26, op := Op.call { callee := Callee.value (Operand.func 44), args := #[Operand.tmp 22, Operand.tmp 25], argTypes := #[9, 9] }, type := 9, pos := "l15_expand.go:52", after := #[{ on := 2, ground := Ground.data }, { on := 5, ground := Ground.data }], guard := none }) rfl (fun K hK => ?_) AllReadyH.nil
        go_simp
        refine (HFT.out wD).mono ?_
        rintro e w' ⟨rfl, rfl⟩
        refine hK.out _ _ (HS.out _ _ gX).1 (fun hHeld => ?_)
        clear hK K
        try simp only [Act.put, List.setIfInBounds_toArray, List.set_cons_zero, List.set_cons_succ]
        refine wpAnyH_ready (rs := [7]) (by kernel_rfl) (by simp) ?_
        refine AllReadyH.cons (o := { dst := some 27, op := Op.call { callee := Callee.value (Operand.func 43), args := #[Operand.tmp 20, Operand.tmp 26], argTypes := #[28, 9] }, type := 28, pos := "l15_expand.go:52", after := #[{ on := 0, ground := Ground.data }, { on := 6, ground := Ground.data }, { on := 6, ground := Ground.chain }], guard := none }) rfl (fun K hK => ?_) AllReadyH.nil
        go_simp
        refine (HAD.out wD bX).mono ?_
        rintro e wC ⟨a2, c2, rfl, hRC, hGC⟩
        obtain ⟨qS, q0, qf⟩ := HS2.out _ _ _ _ gX hGC
        refine hK.out _ _ qS (fun hHeld => ?_)
        clear hK K
        try simp only [Act.put, List.setIfInBounds_toArray, List.set_cons_zero, List.set_cons_succ]
        refine wpAnyH_ready (rs := [8]) (by kernel_rfl) (by simp) ?_
        refine AllReadyH.cons (o := { dst := none, op := Op.store 28 (Operand.tmp 5) (Operand.tmp 27), type := 0, pos := "l15_expand.go:52", after := #[{ on := 7, ground := Ground.data }, { on := 7, ground := Ground.chain }, { on := 0, ground := Ground.phase }, { on := 1, ground := Ground.phase }, { on := 2, ground := Ground.phase }, { on := 3, ground := Ground.phase }, { on := 4, ground := Ground.phase }, { on := 5, ground := Ground.phase }, { on := 6, ground := Ground.phase }, { on := 7, ground := Ground.phase }], guard := none }) rfl (fun K hK => ?_) AllReadyH.nil
        go_simp
        refine hK.out _ _ (HS.out _ _ (gX.step hGC (gX.nb hnb lfb) lfb)).1 (fun hHeld => ?_)
        clear hK K
        try simp only [Act.put, List.setIfInBounds_toArray, List.set_cons_zero, List.set_cons_succ]
        refine wpAnyH_done (by kernel_rfl) ?_ _
        have gN := gX.step hGC (gX.nb hnb lfb) lfb
        refine ⟨rfl, a2, c2, _, _, _, _, _, _, _, _, rfl, hid_of ⟨gN, hRC.keep fun b hb => Below.heap_setCell _ _ _ _ fun e => gN.nb hnb lfb (by rw [← show b = w1.heap.size from e]; exact hb)⟩⟩
      refine AllReadyH.cons (o := { dst := some 26, op := Op.call { callee := Callee.value (Operand.func 44), args := #[Operand.tmp 22, Operand.tmp 25], argTypes := #[9, 9] }, type := 9, pos := "l15_expand.go:52", after := #[{ on := 2, ground := Ground.data }, { on := 5, ground := Ground.data }], guard := none }) rfl (fun K hK => ?_) AllReadyH.nil
      go_simp
      refine (HFT.out wD).mono ?_
      rintro e w' ⟨rfl, rfl⟩
      refine hK.out _ _ (HS.out _ _ gX).1 (fun hHeld => ?_)
      clear hK K
      try simp only [Act.put, List.setIfInBounds_toArray, List.set_cons_zero, List.set_cons_succ]
      refine wpAnyH_ready (rs := [0]) (by kernel_rfl) (by simp) ?_
      refine AllReadyH.cons (o := { dst := some 20, op := Op.load 28 (Operand.tmp 5), type := 28, pos := "l15_expand.go:52", after := #[], guard := none }) rfl (fun K hK => ?_) AllReadyH.nil
      go_simp
      refine hK.out _ _ (HS.out _ _ gX).1 (fun hHeld => ?_)
      clear hK K
      try simp only [Act.put, List.setIfInBounds_toArray, List.set_cons_zero, List.set_cons_succ]
      refine wpAnyH_ready (rs := [7]) (by kernel_rfl) (by simp) ?_
      refine AllReadyH.cons (o := { dst := some 27, op := Op.call { callee := Callee.value (Operand.func 43), args := #[Operand.tmp 20, Operand.tmp 26], argTypes := #[28, 9] }, type := 28, pos := "l15_expand.go:52", after := #[{ on := 0, ground := Ground.data }, { on := 6, ground := Ground.data }, { on := 6, ground := Ground.chain }], guard := none }) rfl (fun K hK => ?_) AllReadyH.nil
      go_simp
      refine (HAD.out wD bX).mono ?_
      rintro e wC ⟨a2, c2, rfl, hRC, hGC⟩
      obtain ⟨qS, q0, qf⟩ := HS2.out _ _ _ _ gX hGC
      refine hK.out _ _ qS (fun hHeld => ?_)
      clear hK K
      try simp only [Act.put, List.setIfInBounds_toArray, List.set_cons_zero, List.set_cons_succ]
      refine wpAnyH_ready (rs := [8]) (by kernel_rfl) (by simp) ?_
      refine AllReadyH.cons (o := { dst := none, op := Op.store 28 (Operand.tmp 5) (Operand.tmp 27), type := 0, pos := "l15_expand.go:52", after := #[{ on := 7, ground := Ground.data }, { on := 7, ground := Ground.chain }, { on := 0, ground := Ground.phase }, { on := 1, ground := Ground.phase }, { on := 2, ground := Ground.phase }, { on := 3, ground := Ground.phase }, { on := 4, ground := Ground.phase }, { on := 5, ground := Ground.phase }, { on := 6, ground := Ground.phase }, { on := 7, ground := Ground.phase }], guard := none }) rfl (fun K hK => ?_) AllReadyH.nil
      go_simp
      refine hK.out _ _ (HS.out _ _ (gX.step hGC (gX.nb hnb lfb) lfb)).1 (fun hHeld => ?_)
      clear hK K
      try simp only [Act.put, List.setIfInBounds_toArray, List.set_cons_zero, List.set_cons_succ]
      refine wpAnyH_done (by kernel_rfl) ?_ _
      have gN := gX.step hGC (gX.nb hnb lfb) lfb
      refine ⟨rfl, a2, c2, _, _, _, _, _, _, _, _, rfl, hid_of ⟨gN, hRC.keep fun b hb => Below.heap_setCell _ _ _ _ fun e => gN.nb hnb lfb (by rw [← show b = w1.heap.size from e]; exact hb)⟩⟩
    rintro e a3 w3 ⟨rfl, a2, c2, u20, u21, u22, u23, u24, u25, u26, u27, rfl, H6⟩
    obtain ⟨-, x13, -, -, -⟩ := HS.out w3 _ H6.out.1
    gi_wp2
    clear x13
    gi_loopw [32] (fun i wr => ∃ (j : Nat) (L2 : List ByteArray) (a4 : Option Addr) (c4 : Nat), j ≤ gF.needs.length ∧ i = .int .i64 j ∧ Hid (addAll L1 ((gF.needs.take j).map (fldT x.2.2)) = L2) ∧ Hid (GrewX w1.heap.size A (.slice la L.length lc) wr (.slice a4 L2.length c4) ∧ Row9 w.heap.size wr (.slice a4 L2.length c4) L2)) (fun i _ => gF.needs.length - (intOf i).toNat)
    case atStart => exact ⟨0, L1, a2, c2, Nat.zero_le _, rfl, hid_of (by simp [addAll]), H6⟩
    case round =>
      obtain ⟨j, L2, a4, c4, hj, rfl, HJ, GW⟩ := hrel
      obtain ⟨w4, rfl⟩ : ∃ x, x = wr := ⟨wr, rfl⟩
      by_cases hjl : j < gF.needs.length
      · obtain ⟨-, -, hst4, -, -⟩ := HS.out w4 _ GW.out.1
        obtain ⟨nb, no, rfl, hnB, hnc⟩ := hst4.1 (by intro e; rw [e] at hjl; simp at hjl)
        have hji : (j : Int) < (gF.needs.length : Int) := by omega
        have d0 := hnc j hjl
        clear hst4 hnc
        have hl2 : L2.length ≤ L1.length + gF.needs.length := by
          have h1 := addAll_len ((gF.needs.take j).map (fldT x.2.2)) L1
          rw [HJ.out] at h1
          simp only [List.length_map, List.length_take] at h1
          omega
        have hsj := HS3.out j
        have HJN : Hid (addAll L1 ((gF.needs.take (j + 1)).map (fldT x.2.2)) = addT L2 (fldT x.2.2 (nth gF.needs j))) := hid_of (by rw [← HJ.out]; exact addAll_take L1 gF.needs x.2.2 j hjl)
        generalize nth gF.needs j = nd at *
        have HFT2 := hid_of (fun W => fieldT_any x.2.2 nd W (by omega))
        obtain ⟨L3, HL3⟩ : ∃ L3, Hid (addT L2 (fldT x.2.2 nd) = L3) := ⟨_, hid_of rfl⟩
        have HAD2 : Hid (∀ W, Below w4.heap.size w4 W → Calls Tryz.prog 43 #[.slice a4 L2.length c4, .string (fldT x.2.2 nd)] W fun e w' => Added w.heap.size W (.slice a4 L2.length c4) L3 e w') := hid_of fun W hW => by
          have h1 := addOnce_any L2 (fldT x.2.2 nd) W w.heap.size (.slice a4 L2.length c4) (GW.out.2.keep fun k hk => hW.block k (GW.out.2.1.lt k hk).2) (by rw [fldT_size]; unfold maxLen; omega) (by omega) (by have := hW.size; have := GW.out.1.size; omega)
          rw [HL3.out] at h1
          exact h1
        rw [HL3.out] at HJN
        gi_wp2
        refine Code.wpIn_mono (Q := fun e a5 w5 => e = .normal ∧ ∃ (a6 : Option Addr) (c6 : Nat) (u36 u37 u38 u39 u40 u41 : Value), a5 = { tmps := #[.agg #[.string p.name, .slice ta p.types.length tc], .slice ka ks.length kc, .pointer (some ⟨w.heap.size, 0, none⟩), undef, .slice none 0 0, .pointer (some ⟨w1.heap.size, 0, none⟩), undef, .pointer (some ⟨sx, 0, none⟩), undef, .string nd, .agg #[.string p.name, .slice ta p.types.length tc], .slice ka ks.length kc, .agg #[.slice a1 n1 c1, .int .i64 0], .int .i64 0, .bool false, .agg #[.string p.name, .slice ta p.types.length tc], .slice ka ks.length kc, .func (.func 61) #[] #[.pointer (some ⟨w1.heap.size + 1 + 1, 0, none⟩), .pointer (some ⟨w1.heap.size + 1, 0, none⟩)], .slice (some ⟨g, 0, none⟩) x.1.length wc, .agg #[.string x.2.1.al, .string x.2.1.name, .bool x.2.1.one, .int .i64 x.2.1.id, .slice sa x.2.1.kids.length sc, .string x.2.2, .string gF.name, .string gF.of, .bool gF.list, .bool gF.must, .bool gF.far, .bool gF.hidden, .bool gF.shared, .slice (some ⟨nb, no, none⟩) gF.needs.length nc, .bool (fldB p x.2.2 x.2.1.name && !gF.hidden)], u20, u21, u22, u23, u24, u25, u26, u27, .pointer (some ⟨sx, 6, none⟩), .pointer (some ⟨sx, 13, none⟩), .slice (some ⟨nb, no, none⟩) gF.needs.length nc, .int .i64 (gF.needs.length : Int), .int .i64 (j : Int), .bool true, .pointer (some ⟨nb, no + j, none⟩), .string nd, u36, u37, u38, u39, u40, u41, u42, undef], defers := [] } ∧ Hid (GrewX w1.heap.size A (.slice la L.length lc) w5 (.slice a6 L3.length c6) ∧ Row9 w.heap.size w5 (.slice a6 L3.length c6) L3)) ?imp10 ?reg10
        case reg10 =>
          refine region_round (fun w' => w'.cell? ⟨sx, 1, none⟩ = some (.string x.2.1.name) ∧ w'.cell? ⟨sx, 5, none⟩ = some (.string x.2.2)) (by kernel_rfl) (by rintro ⟨a, w, h, -⟩; cases h) (by kernel_rfl) (HS.out _ _ (GW.out.1.below (Below.refl _ _).drew lfb)).1 (fun hHeld => ?_)
          have bX : Below w4.heap.size w4 w4.drew := (Below.refl _ _).drew
          generalize w4.drew = wD at *
          have gX := GW.out.1.below bX lfb
          obtain ⟨-, -, -, t0, tf⟩ := HS.out wD _ gX
          refine wpAnyH_take (i := 1) (oi := { dst := some 37, op := Op.fieldAddr 71 (Operand.tmp 7) 1, type := 0, pos := "l15_expand.go:54", after := #[], guard := none }) (v := ?_) rfl (by kernel_rfl) (by kernel_rfl) (by kernel_rfl) (fun _ _ _ h => by cases h.1) (Or.inl ⟨by rfl, ?_⟩) hHeld ?_
          rotate_left
          · intro w' hSw
            (try dsimp only at hSw)
            go_simp
            try with_reducible rfl
          try simp only [Act.put, List.setIfInBounds_toArray, List.set_cons_zero, List.set_cons_succ]
          refine wpAnyH_take (i := 2) (oi := { dst := some 38, op := Op.load 9 (Operand.tmp 37), type := 9, pos := "l15_expand.go:54", after := #[{ on := 1, ground := Ground.data }], guard := none }) (v := ?_) rfl (by kernel_rfl) (by kernel_rfl) (by kernel_rfl) (fun _ _ _ h => by cases h.1) (Or.inl ⟨by rfl, ?_⟩) hHeld ?_
          rotate_left
          · intro w' hSw
            (try dsimp only at hSw)
            go_simp
            try with_reducible rfl
          try simp only [Act.put, List.setIfInBounds_toArray, List.set_cons_zero, List.set_cons_succ]
          refine wpAnyH_take (i := 3) (oi := { dst := some 39, op := Op.move (Operand.tmp 9), type := 9, pos := "l15_expand.go:54", after := #[], guard := none }) (v := ?_) rfl (by kernel_rfl) (by kernel_rfl) (by kernel_rfl) (fun _ _ _ h => by cases h.1) (Or.inl ⟨by rfl, ?_⟩) hHeld ?_
          rotate_left
          · intro w' hSw
            (try dsimp only at hSw)
            go_simp
            try with_reducible rfl
          try simp only [Act.put, List.setIfInBounds_toArray, List.set_cons_zero, List.set_cons_succ]
          refine wpAnyH_ready (rs := [0, 4]) (by kernel_rfl) (by simp) ?_
          refine AllReadyH.cons (o := { dst := some 36, op := Op.load 28 (Operand.tmp 5), type := 28, pos := "l15_expand.go:54", after := #[], guard := none }) rfl (fun K hK => ?_) ?_
          · go_simp
            refine hK.out _ _ (HS.out _ _ gX).1 (fun hHeld => ?_)
            clear hK K
            try simp only [Act.put, List.setIfInBounds_toArray, List.set_cons_zero, List.set_cons_succ]
            refine wpAnyH_ready (rs := [4]) (by kernel_rfl) (by simp) ?_
            refine AllReadyH.cons (o := { dst := some 40, op := Op.call { callee := Callee.value (Operand.func 44), args := #[Operand.tmp 38, Operand.tmp 39], argTypes := #[9, 9] }, type := 9, pos := "l15_expand.go:54", after := #[{ on := 2, ground := Ground.data }, { on := 3, ground := Ground.data }], guard := none }) rfl (fun K hK => ?_) AllReadyH.nil
            go_simp
            refine (HFT2.out wD).mono ?_
            rintro e w' ⟨rfl, rfl⟩
            refine hK.out _ _ (HS.out _ _ gX).1 (fun hHeld => ?_)
            clear hK K
            try simp only [Act.put, List.setIfInBounds_toArray, List.set_cons_zero, List.set_cons_succ]
            refine wpAnyH_ready (rs := [5]) (by kernel_rfl) (by simp) ?_
            refine AllReadyH.cons (o := { dst := some 41, op := Op.call { callee := Callee.value (Operand.func 43), args := #[Operand.tmp 36, Operand.tmp 40], argTypes := #[28, 9] }, type := 28, pos := "l15_expand.go:54", after := #[{ on := 0, ground := Ground.data }, { on := 4, ground := Ground.data }, { on := 4, ground := Ground.chain }], guard := none }) rfl (fun K hK => ?_) AllReadyH.nil
            go_simp
            refine (HAD2.out wD bX).mono ?_
            rintro e wC ⟨a6, c6, rfl, hRC, hGC⟩
            obtain ⟨qS, q0, qf⟩ := HS2.out _ _ _ _ gX hGC
            refine hK.out _ _ qS (fun hHeld => ?_)
            clear hK K
            try simp only [Act.put, List.setIfInBounds_toArray, List.set_cons_zero, List.set_cons_succ]
            refine wpAnyH_ready (rs := [6]) (by kernel_rfl) (by simp) ?_
            refine AllReadyH.cons (o := { dst := none, op := Op.store 28 (Operand.tmp 5) (Operand.tmp 41), type := 0, pos := "l15_expand.go:54", after := #[{ on := 5, ground := Ground.data }, { on := 5, ground := Ground.chain }, { on := 0, ground := Ground.phase }, { on := 1, ground := Ground.phase }, { on := 2, ground := Ground.phase }, { on := 3, ground := Ground.phase }, { on := 4, ground := Ground.phase }, { on := 5, ground := Ground.phase }], guard := none }) rfl (fun K hK => ?_) AllReadyH.nil
            go_simp
            refine hK.out _ _ (HS.out _ _ (gX.step hGC (gX.nb hnb lfb) lfb)).1 (fun hHeld => ?_)
            clear hK K
            try simp only [Act.put, List.setIfInBounds_toArray, List.set_cons_zero, List.set_cons_succ]
            refine wpAnyH_done (by kernel_rfl) ?_ _
            have gN := gX.step hGC (gX.nb hnb lfb) lfb
            refine ⟨rfl, a6, c6, _, _, _, _, _, _, rfl, hid_of ⟨gN, hRC.keep fun b hb => Below.heap_setCell _ _ _ _ fun e => gN.nb hnb lfb (by rw [← show b = w1.heap.size from e]; exact hb)⟩⟩
          refine AllReadyH.cons (o := { dst := some 40, op := Op.call { callee := Callee.value (Operand.func 44), args := #[Operand.tmp 38, Operand.tmp 39], argTypes := #[9, 9] }, type := 9, pos := "l15_expand.go:54", after := #[{ on := 2, ground := Ground.data }, { on := 3, ground := Ground.data }], guard := none }) rfl (fun K hK => ?_) AllReadyH.nil
          go_simp
          refine (HFT2.out wD).mono ?_
          rintro e w' ⟨rfl, rfl⟩
          refine hK.out _ _ (HS.out _ _ gX).1 (fun hHeld => ?_)
          clear hK K
          try simp only [Act.put, List.setIfInBounds_toArray, List.set_cons_zero, List.set_cons_succ]
          refine wpAnyH_ready (rs := [0]) (by kernel_rfl) (by simp) ?_
          refine AllReadyH.cons (o := { dst := some 36, op := Op.load 28 (Operand.tmp 5), type := 28, pos := "l15_expand.go:54", after := #[], guard := none }) rfl (fun K hK => ?_) AllReadyH.nil
          go_simp
          refine hK.out _ _ (HS.out _ _ gX).1 (fun hHeld => ?_)
          clear hK K
          try simp only [Act.put, List.setIfInBounds_toArray, List.set_cons_zero, List.set_cons_succ]
          refine wpAnyH_ready (rs := [5]) (by kernel_rfl) (by simp) ?_
          refine AllReadyH.cons (o := { dst := some 41, op := Op.call { callee := Callee.value (Operand.func 43), args := #[Operand.tmp 36, Operand.tmp 40], argTypes := #[28, 9] }, type := 28, pos := "l15_expand.go:54", after := #[{ on := 0, ground := Ground.data }, { on := 4, ground := Ground.data }, { on := 4, ground := Ground.chain }], guard := none }) rfl (fun K hK => ?_) AllReadyH.nil
          go_simp
          refine (HAD2.out wD bX).mono ?_
          rintro e wC ⟨a6, c6, rfl, hRC, hGC⟩
          obtain ⟨qS, q0, qf⟩ := HS2.out _ _ _ _ gX hGC
          refine hK.out _ _ qS (fun hHeld => ?_)
          clear hK K
          try simp only [Act.put, List.setIfInBounds_toArray, List.set_cons_zero, List.set_cons_succ]
          refine wpAnyH_ready (rs := [6]) (by kernel_rfl) (by simp) ?_
          refine AllReadyH.cons (o := { dst := none, op := Op.store 28 (Operand.tmp 5) (Operand.tmp 41), type := 0, pos := "l15_expand.go:54", after := #[{ on := 5, ground := Ground.data }, { on := 5, ground := Ground.chain }, { on := 0, ground := Ground.phase }, { on := 1, ground := Ground.phase }, { on := 2, ground := Ground.phase }, { on := 3, ground := Ground.phase }, { on := 4, ground := Ground.phase }, { on := 5, ground := Ground.phase }], guard := none }) rfl (fun K hK => ?_) AllReadyH.nil
          go_simp
          refine hK.out _ _ (HS.out _ _ (gX.step hGC (gX.nb hnb lfb) lfb)).1 (fun hHeld => ?_)
          clear hK K
          try simp only [Act.put, List.setIfInBounds_toArray, List.set_cons_zero, List.set_cons_succ]
          refine wpAnyH_done (by kernel_rfl) ?_ _
          have gN := gX.step hGC (gX.nb hnb lfb) lfb
          refine ⟨rfl, a6, c6, _, _, _, _, _, _, rfl, hid_of ⟨gN, hRC.keep fun b hb => Below.heap_setCell _ _ _ _ fun e => gN.nb hnb lfb (by rw [← show b = w1.heap.size from e]; exact hb)⟩⟩
        rintro e a5 w5 ⟨rfl, a6, c6, v36, v37, v38, v39, v40, v41, rfl, H10⟩
        gi_wp2
        go_roundw
        case measure => simp [intOf]; omega
        case rel => exact ⟨j + 1, L3, a6, c6, by omega, by go_num, HJN, H10⟩
      · have ej : j = gF.needs.length := by omega
        subst ej
        have HT := hid_of (HH.out.turn (x := x) (by omega) GW.out.1 (by rw [HNX.out, ← List.take_length (l := gF.needs), HJ.out]; exact GW.out.2))
        gi_wp2
        exact ⟨HT.out.2.from _, Or.inl ⟨rfl, HT.out.1⟩⟩
end Go.Proofs.YtgcfgadkclfonaaGreatDoor

namespace Go.Proofs.YtgcfgadkclfonaaGreatDoor
set_option linter.unusedSimpArgs false
set_option linter.unusedVariables false
open Go.RowKit Go.Shelf Go.Maps

set_option maxRecDepth 20000 in
set_option maxHeartbeats 1600000 in
theorem markStringB_any (n c k lo hi : Nat) (a : Option Addr) (w : World) (hw : WStrs w lo hi n a) (hn : n ≤ 1000000000) (hk : k ≤ 1000000000000) :
    Calls Tryz.prog 24 #[.slice a n c, .int .i64 k] w fun e w' => e = .returned (.int .i64 ((k + n : Nat) : Int)) ∧ Marked lo hi w w' ∧ (∀ b off, a = some ⟨b, off, none⟩ → ∀ i, i < n → w'.cell? ⟨b, off + i, none⟩ = some (.string (mtext (k + i)))) := by
  go_enter Tryz.func24, Tryz.ntmps24
  go_wp2_with fail
  go_loopw [1, 5] (fun kk i wr => ∃ j : Nat, j ≤ n ∧ kk = .int .i64 ((k + j : Nat) : Int) ∧ i = .int .i64 j ∧ Marked lo hi w wr ∧ (∀ b off, a = some ⟨b, off, none⟩ → ∀ i, i < j → wr.cell? ⟨b, off + i, none⟩ = some (.string (mtext (k + i))))) (fun _ i _ => n - (intOf i).toNat)
  case atStart => exact ⟨0, Nat.zero_le _, rfl, rfl, Marked.refl _ _ _, fun _ _ _ i hi => by omega⟩
  case round =>
    obtain ⟨j, hj, rfl, rfl, hm, hc⟩ := hrel
    obtain ⟨w0, rfl⟩ : ∃ x, x = wr := ⟨wr, rfl⟩
    by_cases hlt : j < n
    · obtain ⟨b, off, rfl, h1, h2, hcc⟩ := hw (by omega)
      have HC : Hid (∀ i, i < j → w0.cell? ⟨b, off + i, none⟩ = some (.string (mtext (k + i)))) := fun i hi => hc b off rfl i hi
      have HT : Hid (TextAt w0 ⟨b, off + j, none⟩) := (hcc j hlt).keep hm
      have hM := markText_any (k + j) w0 (by omega)
      clear hc hcc
      have hji : (j : Int) < (n : Int) := by omega
      go_wp2_with (
        go_at_call 40
        refine hM.mono ?_
        rintro e w1 ⟨rfl, hb1⟩
        have hm1 := Marked.of_below lo hi hb1
        obtain ⟨⟨s, ht⟩, hf⟩ := HT.out.keep hm1)
      go_roundw
      case rel =>
        refine ⟨j + 1, by omega, by go_num, by go_num, (hm.trans hm1).trans (Marked.set_text ht h1 h2 _), fun b' off' he i hi => ?_⟩
        simp only [Option.some.injEq, Addr.mk.injEq, and_true] at he
        obtain ⟨rfl, rfl⟩ := he
        by_cases hij : i = j
        · subst hij; exact World.cell?_setCell_same _ _ _ ht
        · rw [World.cell?_setCell_other _ _ _ _ (by intro e; simp only [Addr.mk.injEq] at e; omega)]
          have hx := HC.out i (by omega)
          exact (hb1.cell (cell_block hx)).trans hx
      case measure => simp [intOf]; omega
    · go_wp2_with fail
      go_ret
      have e : j = n := by omega
      exact ⟨by rw [e]; rfl, hm, by rw [← e]; exact hc⟩

set_option maxRecDepth 20000 in
set_option maxHeartbeats 1600000 in
theorem heldStringB_any (n c k : Nat) (a : Option Addr) (w : World) (ha : 0 < n → ∃ b off, a = some ⟨b, off, none⟩ ∧ ∀ i, i < n → w.cell? ⟨b, off + i, none⟩ = some (.string (mtext (k + i)))) (hn : n ≤ 1000000000) (hk : k ≤ 1000000000000) :
    Calls Tryz.prog 25 #[.slice a n c, .int .i64 k] w fun e w' => e = .returned (.int .i64 ((k + n : Nat) : Int)) ∧ Below w.heap.size w w' := by
  go_enter Tryz.func25, Tryz.ntmps25
  go_wp2_with fail
  go_loopw [1, 5] (fun kk i wr => ∃ j : Nat, j ≤ n ∧ kk = .int .i64 ((k + j : Nat) : Int) ∧ i = .int .i64 j ∧ Below w.heap.size w wr) (fun _ i _ => n - (intOf i).toNat)
  case atStart => exact ⟨0, Nat.zero_le _, rfl, rfl, Below.refl _ _⟩
  case round =>
    obtain ⟨j, hj, rfl, rfl, hb⟩ := hrel
    obtain ⟨w0, rfl⟩ : ∃ x, x = wr := ⟨wr, rfl⟩
    by_cases hlt : j < n
    · obtain ⟨b, off, rfl, hcc⟩ := ha (by omega)
      have hx := hcc j hlt
      have hbl := cell_block hx
      have c0 := (hb.cell hbl).trans hx
      have hM := markText_any (k + j) w0.drew (by omega)
      have hji : (j : Int) < (n : Int) := by omega
      have hz := hb.size
      clear hcc
      generalize mtext (k + j) = mt at hx c0 hM
      go_wp2_with fail
      go_region_held3 (fun w' => w'.cell? ⟨b, off + j, none⟩ = some (.string mt)) (go_keep)
        (first
          | (
            go_at_call 40
            refine hM.mono ?_
            rintro e w1 ⟨rfl, hb1⟩
            have hb1' := below_undrew hb1
            have hw1 := hb.trans (hb1'.mono hz)
            have c1 := (hw1.cell hbl).trans hx))
      go_wp2_with fail
      go_roundw
      case rel => exact ⟨j + 1, by omega, by go_num, by go_num, hw1⟩
      case measure => simp [intOf]; omega
    · go_wp2_with fail
      go_ret
      have e : j = n := by omega
      exact ⟨by rw [e]; rfl, hb⟩

attribute [local go_sem] Oper.semAt_some faultD_code

theorem askFields_len (f : Nat) (p : Pt) (ks : List Se) (hz : szP p ≤ 1048576) : (askFields f p ks).length ≤ 25165848 := by
  unfold askFields
  split
  · rename_i h
    have hok : okP p = true ∧ askOk f ks = true := by
      unfold askChk at h
      split at h
      · assumption
      · simp [codeO] at h
    have hc : cntTo f ks ks.length ≤ 24 := by
      have := hok.2
      simp only [askOk, askB, Bool.and_eq_true, decide_eq_true_eq] at this
      exact this.1.2
    have h1 := fieldsM_len p hz f qry ks ks.length []
    have h2 : cntTo f ks ks.length * 1048577 ≤ 24 * 1048577 := Nat.mul_le_mul_right _ hc
    simp only [List.length_nil, Nat.zero_add] at h1
    omega
  · simp
theorem row9_nil {base g : Nat} {w : World} (hg : base ≤ g) (h : w.heap[g]? = some (.cells #[] 9 (0, 0))) : Row9 base w (.slice (some ⟨g, 0, none⟩) 0 0) [] :=
  ⟨⟨rfl, Or.inr ⟨g, 0, _, rfl, hg, h, Nat.le_refl _, by unfold maxLen; omega, rfl, rfl⟩⟩, fun i => by simp [nth, maxLen], by simp⟩

set_option maxRecDepth 20000 in
set_option maxHeartbeats 1600000 in
theorem AskFieldsS_any (f : Nat) (p : Pt) (ks : List Se) (ka : Option Addr) (kc : Nat) (v : Value) (w : World) (hf : FitS f ks) (hR : SeReps w (· < w.heap.size) ks ka) (hfew : f ≤ 1000000000) (hP : PRep w (· < w.heap.size) p v) (hz : szP p ≤ 1048576) :
    Calls Tryz.prog 21 #[v, .slice ka ks.length kc] w fun e w' => FldNew w (askFields f p ks) e w' := by
  have hP' := hP
  obtain ⟨ta, tc, rfl, -, -, -⟩ := hP
  have bX := below_box w (.cells #[.string p.name, .slice ta p.types.length tc] 34)
  have zX : (w.alloc (.cells #[.string p.name, .slice ta p.types.length tc] 34)).heap.size = w.heap.size + 1 := by simp
  have nX := heap_alloc_new w (.cells #[.string p.name, .slice ta p.types.length tc] 34)
  have HU : Hid (∀ W, Below w.heap.size w W → SeReps W (· < W.heap.size) ks ka ∧ PRep W (· < W.heap.size) p (.agg #[.string p.name, .slice ta p.types.length tc])) := hid_of fun W hW => ⟨(hR.under hW).sub fun b hb => Nat.lt_of_lt_of_le hb hW.size, (hP'.under hW).sub fun b hb => Nat.lt_of_lt_of_le hb hW.size⟩
  have HV : Hid (∀ W, Below w.heap.size w W → SeReps W (· < w.heap.size) ks ka ∧ PRep W (· < w.heap.size) p (.agg #[.string p.name, .slice ta p.types.length tc])) := hid_of fun W hW => ⟨hR.under hW, hP'.under hW⟩
  obtain ⟨code, hcode⟩ : ∃ code, code = codeO (askChk f p ks) := ⟨_, rfl⟩
  have HC : Hid (∀ W, Below w.heap.size w W → Calls Tryz.prog 8 #[.agg #[.string p.name, .slice ta p.types.length tc], .slice ka ks.length kc] W fun e w' => ∃ a n c, e = .returned (.agg #[.slice a n c, .int .i64 code]) ∧ Below W.heap.size W w') := hid_of fun W hW => (AskCheckS_any f p ks ka kc _ W hf (HU.out W hW).1 hfew (HU.out W hW).2 hz).mono fun e w' h => by
    obtain ⟨a, c, h1, -, h3⟩ := h
    exact ⟨a, _, c, by rw [h1, hcode], h3⟩
  clear hR hP'
  by_cases hc0 : code = 0
  case neg =>
    have HE : Hid (askFields f p ks = []) := hid_of (by rw [askFields, ← hcode, if_neg hc0])
    have hcb : (code == 0) = false := by simpa using hc0
    have hcn : (code != 0) = true := by simpa using hc0
    clear hcode nX
    go_enter Tryz.func21, Tryz.ntmps21
    go_wp2_with (go_at_call 8; refine (HC.out _ bX).mono ?_; rintro e w1 ⟨a1, n1, c1, rfl, hb1⟩; have b01 := bX.trans (hb1.mono (by omega)))
    go_ret
    rw [HE.out]
    exact ⟨some ⟨w1.heap.size, 0, none⟩, 0, rfl, row9_nil b01.size (block_new _ _ rfl), b01.trans ((below_box w1 _).mono b01.size)⟩
  subst hc0
  have HE : Hid (askFields f p ks = fieldsM p f qry ks ks.length []) := hid_of (by rw [askFields, ← hcode, if_pos rfl])
  have hcnt : cntTo f ks ks.length * 1048577 ≤ 24 * 1048577 := by
    have hok : okP p = true ∧ askOk f ks = true := by
      have h := hcode.symm
      unfold askChk at h
      split at h
      · assumption
      · simp [codeO] at h
    have hc : cntTo f ks ks.length ≤ 24 := by
      have := hok.2
      simp only [askOk, askB, Bool.and_eq_true, decide_eq_true_eq] at this
      exact this.1.2
    exact Nat.mul_le_mul_right _ hc
  have HL : Hid (∀ W, Below w.heap.size w W → Calls Tryz.prog 42 #[.agg #[.string p.name, .slice ta p.types.length tc], .string (⟨#[113, 117, 101, 114, 121]⟩ : ByteArray), .slice ka ks.length kc, .slice (some ⟨W.heap.size, 0, none⟩) 0 0] (W.alloc (.cells #[] 9)) fun e w' => FldNew w (askFields f p ks) e w') := hid_of fun W hW => by
    have bW := hW.trans ((below_box W (.cells #[] 9)).mono hW.size)
    rw [HE.out]
    refine (l15Fields_any p hz _ _ w.heap.size f qry ks (W.alloc (.cells #[] 9)) ka kc [] (.slice (some ⟨W.heap.size, 0, none⟩) 0 0) hf (HV.out _ bW).1 (HV.out _ bW).2 (row9_nil hW.size (block_new _ _ rfl)) bW.size (by decide) (by simp only [List.length_nil]; omega)).mono fun e w' h => ?_
    obtain ⟨a, c, h1, h2, h3⟩ := h
    exact ⟨a, c, h1, h2, h3.on bW (fun k hk => by simp only [Value.ownBlock, Option.some.injEq] at hk; have := hW.size; omega) (Nat.le_refl _)⟩
  generalize askFields f p ks = L at *
  clear hcode HE hcnt
  have HXP : Hid (∀ W', Below (w.heap.size + 1) (w.alloc (.cells #[.string p.name, .slice ta p.types.length tc] 34)) W' → W'.cell? ⟨w.heap.size, 0, none⟩ = some (.string p.name) ∧ W'.cell? ⟨w.heap.size, 1, none⟩ = some (.slice ta p.types.length tc)) := hid_of fun W' hW => by
    have hp := (hW.block _ (by omega)).trans nX
    exact ⟨(box_at hp 0 (by simp)).1, (box_at hp 1 (by simp)).1⟩
  clear nX
  go_enter Tryz.func21, Tryz.ntmps21
  go_wp2_with (first
    | (go_at_call 8; refine (HC.out _ bX).mono ?_; rintro e w1 ⟨a1, n1, c1, rfl, hb1⟩; have b01 := bX.trans (hb1.mono (by omega)); obtain ⟨x0, x1⟩ := HXP.out w1 (by rw [zX] at hb1; exact hb1))
    | (go_at_call 42; refine (HL.out w1 b01).mono ?_; rintro e w2 ⟨a2, c2, rfl, hR2, hb2⟩))
  go_ret
  exact ⟨a2, c2, rfl, hR2, hb2⟩
end Go.Proofs.YtgcfgadkclfonaaGreatDoor

namespace Go.Proofs.YtgcfgadkclfonaaGreatDoor
set_option linter.unusedSimpArgs false
set_option linter.unusedVariables false
open Go.RowKit Go.Shelf Go.Maps

theorem row9_w {w : World} {base : Nat} {ts : List ByteArray} {a : Option Addr} {c : Nat} (h : Row9 base w (.slice a ts.length c) ts) :
    Strs w (fun b => base ≤ b ∧ b < w.heap.size) ts a ∧ WStrs w base w.heap.size ts.length a := by
  obtain ⟨a', c', e, hS⟩ := h.strs
  simp only [Value.slice.injEq, true_and] at e
  obtain ⟨rfl, rfl⟩ := e
  refine ⟨hS, fun hn => ?_⟩
  rcases h.1.2 with ⟨e, h0⟩ | ⟨g, cap, cur, e, hb, hh, -, -⟩
  · omega
  · simp only [Value.slice.injEq, true_and] at e
    obtain ⟨rfl, rfl⟩ := e
    obtain ⟨b, off, e2, hb2, hc⟩ := hS.1 (List.length_pos_iff.1 hn)
    simp only [Option.some.injEq, Addr.mk.injEq, and_true] at e2
    obtain ⟨rfl, rfl⟩ := e2
    exact ⟨g, 0, rfl, hb2.1, hb2.2, fun i hi => ⟨⟨_, hc i hi⟩, frozen_of_row w g _ cur 9 hh⟩⟩

set_option maxRecDepth 20000 in
set_option maxHeartbeats 3200000 in
theorem lawAskFields_walk (p : Pt) (ks : List Se) (v : Value) (w : World) (ra : Option Addr) (rc : Nat) (hP : PRep w (· < w.heap.size) p v) (hR : SeReps w (· < w.heap.size) ks ra) (hT : Tab w.heap.size w) :
    Calls Tryz.prog 5 #[v, .slice ra ks.length rc] w fun e w' => e = .returned (.bool true) ∧ Below w.heap.size w w' := by
  obtain ⟨f0, hf0⟩ := FitS.ex hR
  have hP' := hP
  obtain ⟨ta, tc, rfl, -⟩ := hP
  have HTP := hid_of (fun W (hb : Below w.heap.size w W) => toPart_nf p W w.heap.size _ (hP'.under hb) hb.size)
  have HCA := hid_of (fun W (hb : Below w.heap.size w W) => toSelS_nf ks (fun i _ => toSel_any _) W w.heap.size ra rc (hR.under hb) hb.size)
  have HPz := hid_of (fun W (hb : Below w.heap.size w W) => szPart_any p W w.heap.size _ 1048576 (hP'.under hb) hb.size (by omega) (by omega))
  have HSz := hid_of (fun W (hb : Below w.heap.size w W) left h0 h1 => szSelS_two ks (fun i _ => szSel_two _) W w.heap.size ra rc left (hR.under hb) hb.size h0 h1)
  have HT := hid_of hT
  have HF0 := hid_of hf0
  have bX := below_box w (.cells #[.string p.name, .slice ta p.types.length tc] 24)
  have nX := heap_alloc_new w (.cells #[.string p.name, .slice ta p.types.length tc] 24)
  have zX : (w.alloc (.cells #[.string p.name, .slice ta p.types.length tc] 24)).heap.size = w.heap.size + 1 := by simp
  clear hR hT hP' hf0
  go_enter Tryz.func5, Tryz.ntmps5
  go_wp2_with fail
  generalize w.alloc (.cells #[.string p.name, .slice ta p.types.length tc] 24) = X at *
  have HX : Hid (∀ W, Below X.heap.size X W → (W.cell? ⟨w.heap.size, 0, none⟩ = some (.string p.name) ∧ W.cell? ⟨w.heap.size, 1, none⟩ = some (.slice ta p.types.length tc)) ∧ Below w.heap.size w W) := hid_of fun W hW => by
    have h := (hW.block _ (by omega)).trans nX
    exact ⟨⟨(box_at h 0 (by simp)).1, (box_at h 1 (by simp)).1⟩, bX.trans (hW.mono (by omega))⟩
  clear nX
  refine (HPz.out X bX).mono ?_
  rintro e w1 ⟨y, rfl, hy0, hy1, hy2, hb1⟩
  have HY := hid_of hy2
  clear hy2 HPz
  by_cases hy : y < 0
  · go_wp2_with fail
    go_ret
    exact ⟨rfl, (HX.out w1 hb1).2⟩
  go_wp2_with fail
  refine (HSz.out w1 (HX.out w1 hb1).2 y (by omega) (by omega)).mono ?_
  rintro e w2 ⟨u, rfl, hu0, hu1, hu2, hb2⟩
  have x2 := hb1.trans (hb2.mono hb1.size)
  have HU := hid_of hu2
  clear hu2 HSz hb1 hb2
  by_cases hu : u < 0
  · go_wp2_with fail
    go_ret
    exact ⟨rfl, (HX.out w2 x2).2⟩
  have HPZ : Hid (szP p ≤ 1048576) := hid_of (by have := HY.out (by omega); omega)
  obtain ⟨F, hFn, hF⟩ : ∃ F : Nat, F ≤ 1000000000 ∧ Hid (FitS F ks ∧ SmallS F ks) := by
    obtain ⟨-, h2⟩ := HU.out (by omega)
    obtain ⟨F, hF⟩ : ∃ F : Nat, F = 1048576 := ⟨_, rfl⟩
    exact ⟨F, by omega, hid_of ⟨FitS.few f0 HF0.out F (by have := (h2 f0).1; omega), (h2 F).2⟩⟩
  have HCN : Hid (ks.length ≤ 1048576 ∧ ∀ g, cntTo g ks ks.length ≤ 1048576) := hid_of (by
    obtain ⟨h1, h2⟩ := HU.out (by omega)
    exact ⟨by omega, fun g => by have := (h2 g).1; omega⟩)
  clear HY HU
  obtain ⟨way, HWC⟩ : ∃ way, Hid (askFields F p ks = way) := ⟨_, hid_of rfl⟩
  have hwl : way.length ≤ 25165848 := by rw [← HWC.out]; exact askFields_len F p ks HPZ.out
  have HIM : Hid (∀ W P B ka kc v', AskIn F ks P B ka W → PRep W (· < W.heap.size) p v' → Calls Tryz.prog 22 #[v', .slice ka ks.length kc] W fun e w' => ∃ a c, e = .returned (.slice a way.length c) ∧ (Strs w' (fun b => W.heap.size ≤ b ∧ b < w'.heap.size) way a ∧ WStrs w' W.heap.size w'.heap.size way.length a) ∧ Below W.heap.size W w') := hid_of fun W P B ka kc v' h hv => (AskFieldsI_any F p ks P B ka kc v' W h hv HPZ.out).mono fun e w' h => by
    obtain ⟨a, c, h1, h2, h3⟩ := h
    rw [HWC.out] at h1 h2
    exact ⟨a, c, h1, row9_w h2, h3⟩
  obtain ⟨⟨p0, p1⟩, bw2⟩ := HX.out w2 x2
  go_wp2_with fail
  clear p0 p1
  refine (HTP.out w2 bw2).mono ?_
  rintro e w3 ⟨ta3, tc3, rfl, hb3, hR3, -⟩
  have x3 := x2.trans (hb3.mono x2.size)
  have HR3 := hid_of hR3
  clear hR3
  go_wp2_with fail
  refine (HCA.out w3 (HX.out w3 x3).2).mono ?_
  rintro e w4 ⟨rfl, hb4, z4, hR4, -⟩
  have x4 := x3.trans (hb4.mono x3.size)
  have HSp : Hid (Calls Tryz.prog 21 #[.agg #[.string p.name, .slice ta3 p.types.length tc3], .slice (some ⟨w3.heap.size, 0, none⟩) ks.length ks.length] w4 fun e w' => ∃ a c, e = .returned (.slice a way.length c) ∧ Strs w' (fun b => w4.heap.size ≤ b ∧ b < w'.heap.size) way a ∧ Below w4.heap.size w4 w') := hid_of ((AskFieldsS_any F p ks (some ⟨w3.heap.size, 0, none⟩) ks.length _ w4 hF.out.1 (hR4.sub fun b hb => hb.2) hFn ((HR3.out.mono fun j hj => hb4.block j hj.2).sub fun j hj => by have := hb4.size; omega) HPZ.out).mono fun e w' h => by
    obtain ⟨a, c, h1, h2, h3⟩ := h
    rw [HWC.out] at h1 h2
    exact ⟨a, c, h1, (row9_w h2).1, h3⟩)
  clear hR4 HR3 HWC
  go_wp2_with fail
  refine HSp.out.mono ?_
  rintro e Y5 ⟨a0, cap0, rfl, hS0, hb5⟩
  have x5a := x4.trans (hb5.mono x4.size)
  clear HSp hb3 hb4 z4
  have HS0 := hid_of hS0
  obtain ⟨⟨p0, p1⟩, bw5⟩ := HX.out _ x5a
  clear hS0
  go_wp2_with fail
  clear p0 p1
  refine (HTP.out Y5 bw5).mono ?_
  rintro e w6 ⟨ta6, tc6, rfl, hb6, hR6, hN6⟩
  have x6 := x5a.trans (hb6.mono x5a.size)
  have s6 := hb6.size
  have HW6 : Hid (WTs w6 Y5.heap.size w6.heap.size p.types ta6) := hid_of (by
    obtain ⟨ta5, tc5, e5, hK, -⟩ := hR6
    simp only [Value.agg.injEq, Array.mk.injEq, List.cons.injEq, Value.slice.injEq, and_true, true_and] at e5
    obtain ⟨rfl, rfl⟩ := e5
    exact WTs.of hK hN6)
  have HR6 := hid_of hR6
  have b6a := below_box w6 (.cells #[.string p.name, .slice ta6 p.types.length tc6] 34)
  have n6 := heap_alloc_new w6 (.cells #[.string p.name, .slice ta6 p.types.length tc6] 34)
  have z6a : (w6.alloc (.cells #[.string p.name, .slice ta6 p.types.length tc6] 34)).heap.size = w6.heap.size + 1 := by simp
  have x6a := x6.trans (b6a.mono x6.size)
  have bw6 := (HX.out _ x6a).2
  clear hR6 hN6
  go_wp2_with fail
  generalize w6.alloc (.cells #[.string p.name, .slice ta6 p.types.length tc6] 34) = Y6 at *
  refine (HCA.out Y6 bw6).mono ?_
  rintro e w7 ⟨rfl, hb7, z7, hR7, hN7⟩
  replace hR7 : SeReps w7 (fun b => Y6.heap.size ≤ b ∧ b < w7.heap.size) ks (some ⟨w6.heap.size + 1, 0, none⟩) := by rw [← z6a]; exact hR7
  have x7 := x6a.trans (hb7.mono x6a.size)
  have bw7 := (HX.out _ x7).2
  have B67 : Below w6.heap.size w6 w7 := b6a.trans (hb7.mono b6a.size)
  have HI7 := hid_of (askIn_copied hF.out.1 hF.out.2 hFn hR7 hN7 ((HT.out.on bw7).up bw7.size))
  have HR7 := hid_of (And.intro hR7 hN7)
  have n67 := (hb7.block _ (by omega)).trans n6
  obtain ⟨q0, -⟩ := box_at n67 0 (by simp)
  obtain ⟨q1, -⟩ := box_at n67 1 (by simp)
  simp only [List.getElem_toArray, List.getElem_cons_succ, List.getElem_cons_zero] at q0 q1
  have HP7 : Hid (PRep w7 (· < w7.heap.size) p (.agg #[.string p.name, .slice ta6 p.types.length tc6])) := hid_of ((HR6.out.mono fun k hk => B67.block k hk.2).sub fun k hk => show k < w7.heap.size by omega)
  have HIm := hid_of (HIM.out w7 _ _ (some ⟨w6.heap.size + 1, 0, none⟩) ks.length _ HI7.out HP7.out)
  clear hR7 hN7
  go_wp2_with fail
  clear q0 q1
  refine HIm.out.mono ?_
  rintro e w8 ⟨ga, gc, rfl, ⟨hOS, hOT⟩, hb8⟩
  have x8 := x7.trans (hb8.mono x7.size)
  have s8 := hb8.size
  clear HI7 HP7 HIm
  have B78 : Below w7.heap.size w7 w8 := hb8
  have B68 : Below w6.heap.size w6 w8 := B67.trans (B78.mono B67.size)
  have B58 : Below Y5.heap.size Y5 w8 := hb6.trans (B68.mono s6)
  have n68 := (B78.block _ (by omega)).trans n67
  clear n67 hb6 hb7 hb8 B67 b6a x2 x3 x4 x6 x6a x7 x8 bw2 bw5 bw6 bw7 hb5 n6
  have HEQ : Hid (∀ W aa ac, Strs W (· < W.heap.size) way aa → Strs W (· < W.heap.size) way a0 → Calls Tryz.prog 23 #[.slice aa way.length ac, .slice a0 way.length cap0] W fun e w' => e = .returned (.bool true) ∧ Below W.heap.size W w') := hid_of fun W aa ac h1 h2 => eqStringS_b way aa a0 ac cap0 W _ _ h1 h2
  go_wp2_with fail
  obtain ⟨S1, hS1⟩ : ∃ S : Nat → Prop, ∀ b, S b ↔ (Y5.heap.size ≤ b ∧ b < w7.heap.size) := ⟨_, fun b => Iff.rfl⟩
  obtain ⟨S2, hS2⟩ : ∃ S : Nat → Prop, ∀ b, S b ↔ (Y5.heap.size ≤ b ∧ b < w8.heap.size) := ⟨_, fun b => Iff.rfl⟩
  have K5 : Hid (∀ W, Fram S2 w8 W → Below Y5.heap.size Y5 W) := hid_of fun W hW => B58.trans (hW.below B58.size fun b hb => ((hS2 b).1 hb).1)
  have KX : Hid (∀ W, Fram S2 w8 W → (W.cell? ⟨w.heap.size, 0, none⟩ = some (.string p.name) ∧ W.cell? ⟨w.heap.size, 1, none⟩ = some (.slice ta p.types.length tc)) ∧ Below w.heap.size w W) := hid_of fun W hW => HX.out W (x5a.trans ((K5.out W hW).mono x5a.size))
  have K0 : Hid (∀ W, Fram S2 w8 W → Strs W (· < W.heap.size) way a0) := hid_of fun W hW => (HS0.out.mono fun b hb => (K5.out W hW).block b (by omega)).sub fun b hb => by have := (K5.out W hW).size; show b < _; omega
  have KG : Hid (∀ W, Fram S1 w8 W → Strs W (· < W.heap.size) way ga ∧ WStrs W w7.heap.size w8.heap.size way.length ga) := hid_of fun W hW => ⟨(hOS.mono fun b hb => hW.block b (by omega) (by rw [hS1]; omega)).sub fun b hb => by have := hW.size; show b < _; omega, hOT.keepB fun b h1 h2 => hW.block b (by omega) (by rw [hS1]; omega)⟩
  have K12 : Hid (∀ W, Fram S1 w8 W → Fram S2 w8 W) := hid_of fun W hW => ⟨hW.os, hW.tape, hW.output, hW.size, fun b hb hn => hW.block b hb fun e => hn (by rw [hS1] at e; rw [hS2]; omega)⟩
  have K7 : Hid (∀ W, Below w8.heap.size w8 W → (W.cell? ⟨w6.heap.size, 0, none⟩ = some (.string p.name) ∧ W.cell? ⟨w6.heap.size, 1, none⟩ = some (.slice ta6 p.types.length tc6)) ∧ PRep W (fun b => Y5.heap.size ≤ b ∧ b < w6.heap.size) p (.agg #[.string p.name, .slice ta6 p.types.length tc6]) ∧ WTs W Y5.heap.size w6.heap.size p.types ta6) := hid_of fun W hW => by
    have h := (hW.block _ (by omega)).trans n68
    have b6 := B68.trans (hW.mono B68.size)
    exact ⟨⟨(box_at h 0 (by simp)).1, (box_at h 1 (by simp)).1⟩, HR6.out.mono fun k hk => b6.block k hk.2, HW6.out.keep (Marked.of_below 0 0 b6)⟩
  have KS : Hid (∀ W, Below w8.heap.size w8 W → SeReps W (fun b => Y6.heap.size ≤ b ∧ b < w7.heap.size) ks (some ⟨w6.heap.size + 1, 0, none⟩)) := hid_of fun W hW => HR7.out.1.mono fun k hk => (hW.block k (by omega)).trans (B78.block k hk.2)
  have KW : Hid (∃ f, ∀ W, (∀ b, Y6.heap.size ≤ b → b < w7.heap.size → W.heap[b]? = w8.heap[b]?) → WSels W Y6.heap.size w7.heap.size f ks (some ⟨w6.heap.size + 1, 0, none⟩)) := hid_of (by
    obtain ⟨f, hf⟩ := WSels.of_rep HR7.out.1 HR7.out.2
    exact ⟨f, fun W hW => hf.keepB fun b h1 h2 => (hW b h1 h2).trans (B78.block b h2)⟩)
  clear hOS hOT n68 B58 B68 B78
  have fr8 : Fram S1 w8 w8 := Fram.of_below (Below.refl _ _)
  refine (HEQ.out w8 ga gc (KG.out w8 fr8).1 (K0.out w8 (K12.out w8 fr8))).mono ?_
  rintro e w9 ⟨rfl, hb9⟩
  have z9 := hb9.size
  have x9 := (KX.out w9 (Fram.of_below hb9)).2
  obtain ⟨⟨p0, p1⟩, -⟩ := KX.out w9 (Fram.of_below hb9)
  obtain ⟨⟨q0, q1⟩, X9, -⟩ := K7.out w9 hb9
  have HX9 := hid_of X9
  clear X9 fr8
  have l0 : w.heap.size < w9.heap.size := World.block_lt_of_cell? w9 _ p0
  have l6 : w6.heap.size < w9.heap.size := World.block_lt_of_cell? w9 _ q0
  go_wp2_with fail
  go_region_held3 (fun w' => w'.cell? ⟨w.heap.size, 0, none⟩ = some (.string p.name) ∧ w'.cell? ⟨w.heap.size, 1, none⟩ = some (.slice ta p.types.length tc) ∧ w'.cell? ⟨w6.heap.size, 0, none⟩ = some (.string p.name) ∧ w'.cell? ⟨w6.heap.size, 1, none⟩ = some (.slice ta6 p.types.length tc6)) (go_keep)
    (first
      | (
        go_at_call 9
        refine (HTP.out w9.drew x9.drew).mono ?_
        rintro e w10 ⟨ta7, tc7, rfl, hb10, hr10, -⟩
        have hb10' := below_undrew hb10
        have z10 := hb10'.size
        have p70 := (hb10'.cell (p := ⟨w.heap.size, 0, none⟩) (by show w.heap.size < _; omega)).trans p0
        have p71 := (hb10'.cell (p := ⟨w.heap.size, 1, none⟩) (by show w.heap.size < _; omega)).trans p1
        have q70 := (hb10'.cell (p := ⟨w6.heap.size, 0, none⟩) (by show w6.heap.size < _; omega)).trans q0
        have q71 := (hb10'.cell (p := ⟨w6.heap.size, 1, none⟩) (by show w6.heap.size < _; omega)).trans q1
        have hX10 : PRep w10 (· < w10.heap.size) p (.agg #[.string p.name, .slice ta6 p.types.length tc6]) := (HX9.out.mono fun k hk => hb10'.block k (by omega)).sub fun k hk => by show k < _; omega)
      | (
        go_at_call 13
        refine (eqPart_any p w10 w10.heap.size _ _ hX10 (hr10.sub fun k hk => hk.2) (Nat.le_refl _)).mono ?_
        rintro e w11 ⟨rfl, hb11⟩
        have p80 := (hb11.cell (p := ⟨w.heap.size, 0, none⟩) (by show w.heap.size < _; omega)).trans p70
        have p81 := (hb11.cell (p := ⟨w.heap.size, 1, none⟩) (by show w.heap.size < _; omega)).trans p71
        have q80 := (hb11.cell (p := ⟨w6.heap.size, 0, none⟩) (by show w6.heap.size < _; omega)).trans q70
        have q81 := (hb11.cell (p := ⟨w6.heap.size, 1, none⟩) (by show w6.heap.size < _; omega)).trans q71))
  have b11 : Below w8.heap.size w8 w11 := hb9.trans ((hb10'.trans (hb11.mono z10)).mono z9)
  have z11 := b11.size
  clear p0 p1 q0 q1 p70 p71 q70 q71 p80 p81 q80 q81 hX10 hr10 hb10 hb10' hb11
  go_wp2_with fail
  refine (HCA.out w11 (KX.out w11 (Fram.of_below b11)).2).mono ?_
  rintro e w12 ⟨rfl, hb12, z12, hR12, -⟩
  have b12 := b11.trans (hb12.mono z11)
  have HE2 := hid_of (eqSelS_any ks (fun i _ => eqSel_any _) w12 w12.heap.size (some ⟨w6.heap.size + 1, 0, none⟩) (some ⟨w11.heap.size, 0, none⟩) ks.length ks.length ((KS.out w12 b12).sub fun b hb => by show b < _; have := b12.size; omega) (hR12.sub fun b hb => hb.2) (Nat.le_refl _))
  clear hR12
  go_wp2_with fail
  refine HE2.out.mono ?_
  rintro e w13 ⟨rfl, hb13⟩
  clear HE2
  have b13 := b12.trans (hb13.mono b12.size)
  obtain ⟨⟨q0, q1⟩, -, W13⟩ := K7.out w13 b13
  have HMP := hid_of (markPart_le p tc6 Y5.heap.size w6.heap.size ta6 w13 W13 HPZ.out)
  obtain ⟨fw, hfw⟩ := KW.out
  have hcw := HCN.out.2 fw
  clear W13
  go_wp2_with fail
  clear q0 q1
  refine HMP.out.mono ?_
  rintro e w14 ⟨K14, rfl, hK14, hK14', hM14⟩
  clear HMP
  have fr14 : Fram S1 w8 w14 := (Fram.of_below b13).trans (Fram.of_marked hM14 fun b hb => (hS1 b).2 (by omega))
  have HMk := hid_of (markSelS_any fw ks ks.length Y6.heap.size w7.heap.size K14 (some ⟨w6.heap.size + 1, 0, none⟩) w14 (hfw w14 fun b h1 h2 => (hM14.block b (by have := b13.size; omega) (by omega)).trans (b13.block b (by omega))) HCN.out.1 HCN.out.2 hK14 (by omega))
  have HFR14 := hid_of fr14
  clear hM14 fr14
  go_wp2_with fail
  refine HMk.out.mono ?_
  rintro e w15 ⟨⟨K15, rfl, hK15, -⟩, hM15⟩
  clear HMk hcw hfw
  have fr15 : Fram S1 w8 w15 := HFR14.out.trans (Fram.of_marked hM15.m fun b hb => (hS1 b).2 (by omega))
  have hK15' : ¬ K15 < 0 := by omega
  have HFR15 := hid_of fr15
  have z15 := fr15.size
  have HE3 := hid_of (HEQ.out w15 ga gc (KG.out w15 fr15).1 (K0.out w15 (K12.out w15 fr15)))
  clear hM15 fr15
  go_wp2_with fail
  refine HE3.out.mono ?_
  rintro e w16 ⟨rfl, hb16⟩
  clear HE3
  have fr16 := HFR15.out.trans (Fram.of_below hb16)
  have z16 := fr16.size
  have HMF := hid_of (markStringB_any way.length gc 1 w7.heap.size w8.heap.size ga w16 (KG.out w16 fr16).2 (by omega) (by omega))
  have HFR16 := hid_of fr16
  clear fr16
  go_wp2_with fail
  refine HMF.out.mono ?_
  rintro e w17 ⟨rfl, hM17, hC17⟩
  clear HMF
  have fr17 : Fram S2 w8 w17 := (K12.out w16 HFR16.out).trans (Fram.of_marked hM17 fun b hb => (hS2 b).2 (by omega))
  have HH : Hid (∀ W, Below w17.heap.size w17 W → Calls Tryz.prog 25 #[.slice ga way.length gc, .int .i64 1] W fun e w' => e = .returned (.int .i64 ((1 + way.length : Nat) : Int)) ∧ Below W.heap.size W w') := hid_of fun W hW => heldStringB_any way.length gc 1 ga W (fun h0 => by
    obtain ⟨b, off, e, -⟩ := (KG.out w16 HFR16.out).2 h0
    exact ⟨b, off, e, fun i hi => (hW.cell (cell_block (hC17 b off e i hi))).trans (hC17 b off e i hi)⟩) (by omega) (by omega)
  have HFR17 := hid_of fr17
  clear hM17 fr17
  go_wp2_with fail
  refine (HH.out w17 (Below.refl _ _)).mono ?_
  rintro e w18 ⟨rfl, hb18⟩
  have fr18 := HFR17.out.trans (Fram.of_below hb18)
  obtain ⟨⟨p0, p1⟩, x18⟩ := KX.out w18 fr18
  have hmn : ¬ ((1 + way.length : Nat) : Int) < 0 := by omega
  have HFR18 := hid_of fr18
  clear fr18
  go_wp2_with fail
  clear p0 p1
  refine (HTP.out w18 x18).mono ?_
  rintro e w19 ⟨ta19, tc19, rfl, hb19, hR19, -⟩
  have x19 := x18.trans (hb19.mono x18.size)
  have HR19 := hid_of hR19
  clear hR19
  go_wp2_with fail
  refine (HCA.out w19 x19).mono ?_
  rintro e w20 ⟨rfl, hb20, z20, hR20, hN20⟩
  have x20 := x19.trans (hb20.mono x19.size)
  have HI20 := hid_of (askIn_copied hF.out.1 hF.out.2 hFn hR20 hN20 ((HT.out.on x20).up x20.size))
  have HP20 : Hid (PRep w20 (· < w20.heap.size) p (.agg #[.string p.name, .slice ta19 p.types.length tc19])) := hid_of ((HR19.out.mono fun k hk => hb20.block k hk.2).sub fun k hk => show k < w20.heap.size by have := hb20.size; omega)
  have HIm2 := hid_of (HIM.out w20 _ _ (some ⟨w19.heap.size, 0, none⟩) ks.length _ HI20.out HP20.out)
  clear hR20 hN20 HR19
  go_wp2_with fail
  refine HIm2.out.mono ?_
  rintro e w21 ⟨ha, hc, rfl, ⟨hOH, -⟩, hb21⟩
  have b1821 := (hb19.trans (hb20.mono hb19.size)).trans (hb21.mono (hb19.trans (hb20.mono hb19.size)).size)
  have fr21 := HFR18.out.trans (Fram.of_below b1821)
  have HE4 := hid_of (HEQ.out w21 ha hc (hOH.sub fun b hb => hb.2) (K0.out _ fr21))
  have HFR21 := hid_of fr21
  have HB21 := hid_of (hb18.trans (b1821.mono hb18.size))
  clear hOH fr21 HI20 HP20 HIm2 b1821 hb19 hb20 hb21
  go_wp2_with fail
  refine HE4.out.mono ?_
  rintro e w22 ⟨rfl, hb22⟩
  clear HE4
  have fr22 := HFR21.out.trans (Fram.of_below hb22)
  have HB22 := hid_of (HB21.out.trans (hb22.mono HB21.out.size))
  have HFR22 := hid_of fr22
  clear fr22
  go_wp2_with fail
  refine (HH.out w22 HB22.out).mono ?_
  rintro e w23 ⟨rfl, hb23⟩
  have HBB := hid_of (KX.out w23 (HFR22.out.trans (Fram.of_below hb23))).2
  go_wp2_with fail
  go_ret
  exact ⟨rfl, HBB.out⟩
end Go.Proofs.YtgcfgadkclfonaaGreatDoor

namespace Go.Proofs.YtgcfgadkclfonaaGreatDoor
set_option linter.unusedSimpArgs false
set_option linter.unusedVariables false
open Go.ChangeShapes Go.WideShapes Go.ChangeAt Go.RowKit

theorem door_metF (os : Os) (args : Array Value) : laidMetH Tryz.prog Rows.fnExactAskFieldsRow.laid ((World.doorLaid Tryz.prog 24 os).forCall (fun _ _ => 0) ⟨#[], args, []⟩).memory :=
  laidMetH_of_parts3 (fuel := 8) (laidMet_of_run' 8 (by kernel_rfl) (by kernel_rfl)) (by kernel_rfl) (by kernel_rfl)
theorem tab_of_laidF {W : World} (h : laidMetH Tryz.prog Rows.fnExactAskFieldsRow.laid W) : Tab W.heap.size W := by
  rw [MakeChecks.laidMetH_plain _ _ _ (by kernel_rfl)] at h
  have h1 : Lib.TabIs Tryz.prog W "internal/strconv.uint64pow10" .u64 Lib.pow10Tab := Lib.tabIs_of_head (rest := []) Tryz.gpow Tryz.tpow Tryz.underlying194 Tryz.underlying187 Tryz.cu64 Tryz.cpow (laidMet.tail (laidMet.tail h))
  exact Lib.tabBelow_of_tabIs h1
end Go.Proofs.YtgcfgadkclfonaaGreatDoor
