import Derived.Test.YtgcfgadkclfonaaGreatDoorJ2
import Derived.Test.YtgcfgadkclfonaaGreatDoorIFind
import Derived.Test.YtgcfgadkclfonaaGreatDoorINames
namespace Go.Proofs.YtgcfgadkclfonaaGreatDoor
set_option linter.unusedSimpArgs false
set_option linter.unusedVariables false
open Go.RowKit

/-- The field that is asked for of a type, nothing if there is none. -/
def fldF (p : Pt) (nm n : ByteArray) : F := fieldOr (typeOr p nm) n
def fldB (p : Pt) (nm n : ByteArray) : Bool := decide (0 ≤ fieldIx (typeOr p nm) n)
/-- The bytes of 'query'. -/
def qry : ByteArray := ⟨#[113, 117, 101, 114, 121]⟩
/-- What is wrong with a field that is asked for, by what is known of it. -/
def faultG (nm : ByteArray) (one : Bool) (kl : Nat) (g : F) (known : Bool) : Int :=
  if known = false then 1
  else if (scalarB g.of && decide (0 < kl)) = true then 2
  else if (!scalarB g.of && decide (kl = 0)) = true then 3
  else if (one && (scalarB g.of || g.list || !(nm.toList == qry.toList))) = true then 4
  else 0
/-- What is wrong with a field that is asked for of a type. -/
def faultC (p : Pt) (nm : ByteArray) (s : Se) : Int := faultG nm s.one s.kids.length (fldF p nm s.name) (fldB p nm s.name && !(fldF p nm s.name).hidden)
/-- What is wrong first, as the model goes: the way and the code; so many levels at most. -/
def chkM (p : Pt) : Nat → Way → ByteArray → List Se → Nat → Option (Way × Int)
  | 0, _, _, _, _ => none
  | _ + 1, _, _, _, 0 => none
  | f + 1, ah, nm, ks, n + 1 => match chkM p (f + 1) ah nm ks n with
    | some x => some x
    | none => if faultC p nm (sth ks n) ≠ 0 then some (ah ++ [keyS (sth ks n)], faultC p nm (sth ks n)) else chkM p f (ah ++ [keyS (sth ks n)]) (fldF p nm (sth ks n).name).of (sth ks n).kids (sth ks n).kids.length
/-- The types of the levels behind one more field. -/
def tyS (p : Pt) (T : List ByteArray) (x : Way × Se) : List ByteArray := T.take x.1.length ++ [(fldF p (nth T (x.1.length - 1)) x.2.name).of]
/-- The types of the levels behind fields. -/
def tyF (p : Pt) (T : List ByteArray) (xs : List (Way × Se)) : List ByteArray := xs.foldl (tyS p) T
/-- What is asked for, with the type that it is asked of. -/
def askF (p : Pt) : List ByteArray → List (Way × Se) → List (Way × Se × ByteArray)
  | _, [] => []
  | T, x :: xs => (x.1, x.2, nth T (x.1.length - 1)) :: askF p (tyS p T x) xs
theorem tyF_app (p : Pt) (T : List ByteArray) (xs ys : List (Way × Se)) : tyF p T (xs ++ ys) = tyF p (tyF p T xs) ys := by simp [tyF, List.foldl_append]
theorem askF_app (p : Pt) : ∀ (xs : List (Way × Se)) (T : List ByteArray) (ys : List (Way × Se)), askF p T (xs ++ ys) = askF p T xs ++ askF p (tyF p T xs) ys
  | [], T, ys => rfl
  | x :: xs, T, ys => by
    simp only [List.cons_append, askF, askF_app p xs]
    rfl
theorem askF_one (p : Pt) (T : List ByteArray) (xs : List (Way × Se)) (x : Way × Se) : askF p T (xs ++ [x]) = askF p T xs ++ [(x.1, x.2, nth (tyF p T xs) (x.1.length - 1))] := by rw [askF_app]; rfl
theorem askF_mem (p : Pt) : ∀ (xs : List (Way × Se)) (T : List ByteArray) (y : Way × Se × ByteArray), y ∈ askF p T xs → ∃ x ∈ xs, x.1 = y.1
  | [], T, y, h => by simp [askF] at h
  | x :: xs, T, y, h => by
    simp only [askF, List.mem_cons] at h
    rcases h with rfl | h
    · exact ⟨x, by simp, rfl⟩
    · obtain ⟨z, hz, e⟩ := askF_mem p xs _ y h
      exact ⟨z, by simp [hz], e⟩
/-- The first that is wrong. -/
def firstBad (p : Pt) (l : List (Way × Se × ByteArray)) : Option (Way × Int) := (l.find? fun y => decide (faultC p y.2.2 y.2.1 ≠ 0)).map fun y => (y.1, faultC p y.2.2 y.2.1)
theorem firstBad_app (p : Pt) (l m : List (Way × Se × ByteArray)) : firstBad p (l ++ m) = match firstBad p l with
    | some x => some x
    | none => firstBad p m := by
  unfold firstBad
  rw [List.find?_append]
  cases h : l.find? fun y => decide (faultC p y.2.2 y.2.1 ≠ 0) <;> simp [h]
theorem firstBad_cons (p : Pt) (y : Way × Se × ByteArray) (l : List (Way × Se × ByteArray)) : firstBad p (y :: l) = if faultC p y.2.2 y.2.1 ≠ 0 then some (y.1, faultC p y.2.2 y.2.1) else firstBad p l := by
  unfold firstBad
  by_cases h : faultC p y.2.2 y.2.1 = 0 <;> simp [List.find?_cons, h]
/-- The program's walk with its list of types asks each field of the type that the model asks it of. -/
theorem ask_walk (p : Pt) : ∀ (f : Nat) (ah : Way) (nm : ByteArray) (ks : List Se) (n : Nat) (T : List ByteArray), n ≤ ks.length → ah.length < T.length → nth T ah.length = nm →
    firstBad p (askF p T (preTo f ah ks n)) = chkM p f ah nm ks n ∧ (tyF p T (preTo f ah ks n)).take (ah.length + 1) = T.take (ah.length + 1) ∧ ah.length < (tyF p T (preTo f ah ks n)).length
  | 0, ah, nm, ks, n, T, hn, hl, hT => by simp [preTo, askF, firstBad, chkM, tyF, hl]
  | f + 1, ah, nm, ks, 0, T, hn, hl, hT => by simp [preTo, askF, firstBad, chkM, tyF, hl]
  | f + 1, ah, nm, ks, n + 1, T, hn, hl, hT => by
    obtain ⟨h1, h2, h3⟩ := ask_walk p (f + 1) ah nm ks n T (by omega) hl hT
    generalize hU : tyF p T (preTo (f + 1) ah ks n) = U at h2 h3
    have hUT : nth U ah.length = nm := by
      have e : U.getD ah.length ByteArray.empty = T.getD ah.length ByteArray.empty := by
        have e2 := congrArg (fun l => l.getD ah.length ByteArray.empty) h2
        simpa [List.getD_eq_getElem?_getD, List.getElem?_take] using e2
      have : nth U ah.length = nth T ah.length := e
      rw [this, hT]
    have hxl : (ah ++ [keyS (sth ks n)]).length = ah.length + 1 := by simp
    have hnm : nth U ((ah ++ [keyS (sth ks n)]).length - 1) = nm := by rw [hxl]; exact hUT
    have hV : tyS p U (ah ++ [keyS (sth ks n)], sth ks n) = U.take (ah.length + 1) ++ [(fldF p nm (sth ks n).name).of] := by
      unfold tyS
      simp only
      rw [hnm, hxl]
    have hVl : (U.take (ah.length + 1) ++ [(fldF p nm (sth ks n).name).of]).length = ah.length + 2 := by simp; omega
    obtain ⟨k1, k2, k3⟩ := ask_walk p f (ah ++ [keyS (sth ks n)]) (fldF p nm (sth ks n).name).of (sth ks n).kids (sth ks n).kids.length (U.take (ah.length + 1) ++ [(fldF p nm (sth ks n).name).of]) (Nat.le_refl _) (by rw [hxl, hVl]; omega) (by
      rw [hxl]
      unfold nth
      rw [List.getD_eq_getElem?_getD, List.getElem?_append_right (by rw [List.length_take]; omega), List.length_take, Nat.min_eq_left (by omega)]
      simp)
    rw [hxl] at k2 k3
    have hfin : (tyF p (U.take (ah.length + 1) ++ [(fldF p nm (sth ks n).name).of]) (preTo f (ah ++ [keyS (sth ks n)]) (sth ks n).kids (sth ks n).kids.length)).take (ah.length + 1) = T.take (ah.length + 1) := by
      have e := congrArg (fun l => l.take (ah.length + 1)) k2
      simp only [List.take_take, Nat.min_eq_left (show ah.length + 1 ≤ ah.length + 1 + 1 by omega)] at e
      rw [e, List.take_append_of_le_length (by simp; omega), List.take_take, Nat.min_self, h2]
    rw [preTo_succ, askF_app, hU, tyF_app, hU, firstBad_app, h1, chkM]
    have hc2 : tyF p U ((ah ++ [keyS (sth ks n)], sth ks n) :: preTo f (ah ++ [keyS (sth ks n)]) (sth ks n).kids (sth ks n).kids.length) = tyF p (U.take (ah.length + 1) ++ [(fldF p nm (sth ks n).name).of]) (preTo f (ah ++ [keyS (sth ks n)]) (sth ks n).kids (sth ks n).kids.length) := by
      unfold tyF
      rw [List.foldl_cons, hV]
    rw [hc2]
    refine ⟨?_, hfin, by omega⟩
    cases hc : chkM p (f + 1) ah nm ks n with
    | some x => rfl
    | none =>
      simp only
      rw [askF, hV, firstBad_cons]
      simp only
      rw [hnm, k1]
theorem prefix_split {α : Type} {pre A C : List α} {x : α} (h : pre ++ [x] <+: A ++ C) : pre ++ [x] <+: A ∨ ∃ pre', pre = A ++ pre' ∧ pre' ++ [x] <+: C := by
  obtain ⟨t, ht⟩ := h
  rcases List.append_eq_append_iff.1 ht with ⟨a', h1, h2⟩ | ⟨c', h1, h2⟩
  · exact Or.inl ⟨a', h1.symm⟩
  · by_cases hc : c' = []
    · subst hc
      exact Or.inl ⟨[], by simpa using h1⟩
    · right
      rw [← List.dropLast_concat_getLast hc, ← List.append_assoc] at h1
      obtain ⟨e1, e2⟩ := List.append_inj' h1 rfl
      refine ⟨c'.dropLast, e1, t, ?_⟩
      have e3 : x = c'.getLast hc := by simpa using e2
      rw [e3, List.dropLast_concat_getLast hc]
      exact h2.symm
/-- Wherever the program is, it has a type for the level. -/
theorem ask_bound (p : Pt) : ∀ (f : Nat) (ah : Way) (ks : List Se) (n : Nat) (T : List ByteArray) (pre : List (Way × Se)) (x : Way × Se), n ≤ ks.length → ah.length < T.length → pre ++ [x] <+: preTo f ah ks n → x.1.length ≤ (tyF p T pre).length ∧ 1 ≤ x.1.length
  | 0, ah, ks, n, T, pre, x, hn, hl, h => by simp [preTo] at h
  | f + 1, ah, ks, 0, T, pre, x, hn, hl, h => by simp [preTo] at h
  | f + 1, ah, ks, n + 1, T, pre, x, hn, hl, h => by
    obtain ⟨-, h2, h3⟩ := ask_walk p (f + 1) ah (nth T ah.length) ks n T (by omega) hl rfl
    rw [preTo_succ] at h
    rcases prefix_split h with h | ⟨pre', rfl, hB⟩
    · exact ask_bound p (f + 1) ah ks n T pre x (by omega) hl h
    rw [tyF_app]
    generalize tyF p T (preTo (f + 1) ah ks n) = U at h2 h3
    have h : pre' ++ [x] <+: [(ah ++ [keyS (sth ks n)], sth ks n)] ++ preTo f (ah ++ [keyS (sth ks n)]) (sth ks n).kids (sth ks n).kids.length := hB
    rcases prefix_split h with h | ⟨pre2, rfl, hC⟩
    · have e : pre' = [] ∧ x = (ah ++ [keyS (sth ks n)], sth ks n) := by
        obtain ⟨t, ht⟩ := h
        cases pre' with
        | nil => simp at ht; exact ⟨rfl, ht.1⟩
        | cons a l => simp at ht
      obtain ⟨rfl, rfl⟩ := e
      simp only [tyF, List.foldl_nil, List.length_append, List.length_singleton]
      omega
    · have e : tyF p U ([(ah ++ [keyS (sth ks n)], sth ks n)] ++ pre2) = tyF p (tyS p U (ah ++ [keyS (sth ks n)], sth ks n)) pre2 := by rw [tyF_app]; rfl
      rw [e]
      refine ask_bound p f (ah ++ [keyS (sth ks n)]) _ _ _ pre2 x (Nat.le_refl _) ?_ hC
      unfold tyS
      simp
      omega
end Go.Proofs.YtgcfgadkclfonaaGreatDoor

namespace Go.Proofs.YtgcfgadkclfonaaGreatDoor
set_option linter.unusedSimpArgs false
set_option linter.unusedVariables false
open Go.RowKit

/-- The eight cells of a field of a part. -/
def aggF (g : F) (na : Option Addr) (nc : Nat) : Value := .agg #[.string g.name, .string g.of, .bool g.list, .bool g.must, .bool g.far, .bool g.hidden, .bool g.shared, .slice na g.needs.length nc]
/-- What is asked for, with the type that it is asked of and what the part says of it. -/
def askedV (nm : ByteArray) (s : Se) (sa : Option Addr) (sc : Nat) (g : F) (na : Option Addr) (nc : Nat) (known : Bool) : Value :=
  .agg #[.string s.al, .string s.name, .bool s.one, .int .i64 s.id, .slice sa s.kids.length sc, .string nm, .string g.name, .string g.of, .bool g.list, .bool g.must, .bool g.far, .bool g.hidden, .bool g.shared, .slice na g.needs.length nc, .bool known]
/-- The same in fifteen cells. -/
def askedC (nm : ByteArray) (s : Se) (sa : Option Addr) (sc : Nat) (g : F) (na : Option Addr) (nc : Nat) (known : Bool) : List Value :=
  [.string s.al, .string s.name, .bool s.one, .int .i64 s.id, .slice sa s.kids.length sc, .string nm, .string g.name, .string g.of, .bool g.list, .bool g.must, .bool g.far, .bool g.hidden, .bool g.shared, .slice na g.needs.length nc, .bool known]
theorem fifteen_cells {w : World} {N : Nat} {c : Array Value} {T : TypeId} (hb : w.heap[N]? = some (.cells c T (0, 0))) (hc : c.size = 15) (vs : List Value) (hv : vs.length = 15) (W : World) (hW : W.heap[N]? = (puts w N 0 vs).heap[N]?) :
    ∀ j, j < 15 → W.cell? ⟨N, j, none⟩ = some (vs.getD j undef) := by
  have hrow : w.rowIs N T 15 (fun i => c[i]?.getD undef) := ⟨c, hb, hc, fun i hi => by simp [show i < c.size by omega]⟩
  obtain ⟨G', hG, hG1, -⟩ := puts_row vs 0 hrow
  have hG2 : W.rowIs N T 15 G' := hG.of_block hW
  intro j hj
  have := hG1 j (by omega)
  rw [Nat.zero_add] at this
  rw [hG2.cell hj, this]

theorem askedResult (FW : World) (tmps : Array Value) (N : Nat) (nm : ByteArray) (s : Se) (sa : Option Addr) (sc : Nat) (g : F) (na : Option Addr) (nc : Nat) (known : Bool) (h6 : tmps.getD 6 undef = .pointer (some ⟨N, 0, none⟩)) (hc : ∀ j, j < 15 → FW.cell? ⟨N, j, none⟩ = some ((askedC nm s sa sc g na nc known).getD j undef)) :
    (results Tryz.f63 tmps).run Tryz.prog FW = .ok (askedV nm s sa sc g na nc known) FW := by
  have d0 : FW.cell? ⟨N, 0, none⟩ = some (.string s.al) := hc 0 (by omega)
  have d1 : FW.cell? ⟨N, 1, none⟩ = some (.string s.name) := hc 1 (by omega)
  have d2 : FW.cell? ⟨N, 2, none⟩ = some (.bool s.one) := hc 2 (by omega)
  have d3 : FW.cell? ⟨N, 3, none⟩ = some (.int .i64 s.id) := hc 3 (by omega)
  have d4 : FW.cell? ⟨N, 4, none⟩ = some (.slice sa s.kids.length sc) := hc 4 (by omega)
  have d5 : FW.cell? ⟨N, 5, none⟩ = some (.string nm) := hc 5 (by omega)
  have d6 : FW.cell? ⟨N, 6, none⟩ = some (.string g.name) := hc 6 (by omega)
  have d7 : FW.cell? ⟨N, 7, none⟩ = some (.string g.of) := hc 7 (by omega)
  have d8 : FW.cell? ⟨N, 8, none⟩ = some (.bool g.list) := hc 8 (by omega)
  have d9 : FW.cell? ⟨N, 9, none⟩ = some (.bool g.must) := hc 9 (by omega)
  have d10 : FW.cell? ⟨N, 10, none⟩ = some (.bool g.far) := hc 10 (by omega)
  have d11 : FW.cell? ⟨N, 11, none⟩ = some (.bool g.hidden) := hc 11 (by omega)
  have d12 : FW.cell? ⟨N, 12, none⟩ = some (.bool g.shared) := hc 12 (by omega)
  have d13 : FW.cell? ⟨N, 13, none⟩ = some (.slice na g.needs.length nc) := hc 13 (by omega)
  have d14 : FW.cell? ⟨N, 14, none⟩ = some (.bool known) := hc 14 (by omega)
  clear hc
  simp only [Array.getD_eq_getD_getElem?] at h6
  simp [results, Tryz.results63, go_sem, h6, d0, d1, d2, d3, d4, d5, d6, d7, d8, d9, d10, d11, d12, d13, d14, askedV]

set_option maxRecDepth 20000 in
set_option maxHeartbeats 1600000 in
theorem askedField_any (p : Pt) (nm : ByteArray) (s : Se) (sa : Option Addr) (sc : Nat) (w : World) (B : Nat) (v : Value) (hP : PRep w (· < B) p v) (hB : B ≤ w.heap.size) :
    Calls Tryz.prog 63 #[v, .string nm, .agg #[.string s.al, .string s.name, .bool s.one, .int .i64 s.id, .slice sa s.kids.length sc]] w fun e w' => ∃ na nc, e = .returned (askedV nm s sa sc (fldF p nm s.name) na nc (fldB p nm s.name && !(fldF p nm s.name).hidden)) ∧ FRep w' (· < B) (fldF p nm s.name) (aggF (fldF p nm s.name) na nc) ∧ Below w.heap.size w w' := by
  have hP' := hP
  obtain ⟨ta, tc, rfl, -, -, -⟩ := hP
  have HT := hid_of (fun W (hW : Below w.heap.size w W) => findType_any p W B _ nm (hP'.under (hW.mono hB)) (Nat.le_trans hB hW.size))
  have HF := hid_of (fun W v (hW : Below w.heap.size w W) (hv : TRep W (· < B) (typeOr p nm) v) => show Calls Tryz.prog 99 #[v, .string s.name] W fun e w' => ∃ na nc, e = .returned (.tuple #[aggF (fldF p nm s.name) na nc, .bool (fldB p nm s.name)]) ∧ Below W.heap.size W w' ∧ FRep w' (· < B) (fldF p nm s.name) (aggF (fldF p nm s.name) na nc) from
    (findField_any (typeOr p nm) W B v s.name hv (Nat.le_trans hB hW.size)).mono fun e w' ⟨n1, o1, l1, m1, f1, h1, s1, na, nl, nc, he, hb, hf⟩ => by
      obtain ⟨na', nc', hv', hrest⟩ := hf
      rw [he, hv']
      exact ⟨na', nc', rfl, hb, ⟨na', nc', rfl, hrest⟩⟩)
  clear hP'
  obtain ⟨g, hg⟩ : ∃ g, g = fldF p nm s.name := ⟨_, rfl⟩
  obtain ⟨kb, hkb⟩ : ∃ b, b = fldB p nm s.name := ⟨_, rfl⟩
  rw [← hg, ← hkb] at HF ⊢
  clear hg hkb
  have zX : (((w.alloc (.cells #[.string p.name, .slice ta p.types.length tc] 34)).alloc (.cells #[.string s.al, .string s.name, .bool s.one, .int .i64 s.id, .slice sa s.kids.length sc] 60)).alloc (.cells #[.string ⟨#[]⟩, .string ⟨#[]⟩, .bool false, .int .i64 0, .slice none 0 0, .string ⟨#[]⟩, .string ⟨#[]⟩, .string ⟨#[]⟩, .bool false, .bool false, .bool false, .bool false, .bool false, .slice none 0 0, .bool false] 71)).heap.size = w.heap.size + 3 := by simp
  have bX : Below w.heap.size w (((w.alloc (.cells #[.string p.name, .slice ta p.types.length tc] 34)).alloc (.cells #[.string s.al, .string s.name, .bool s.one, .int .i64 s.id, .slice sa s.kids.length sc] 60)).alloc (.cells #[.string ⟨#[]⟩, .string ⟨#[]⟩, .bool false, .int .i64 0, .slice none 0 0, .string ⟨#[]⟩, .string ⟨#[]⟩, .string ⟨#[]⟩, .bool false, .bool false, .bool false, .bool false, .bool false, .slice none 0 0, .bool false] 71)) := (below_box2 w _ _).trans ((below_box _ _).mono (by simp; omega))
  have nS : (((w.alloc (.cells #[.string p.name, .slice ta p.types.length tc] 34)).alloc (.cells #[.string s.al, .string s.name, .bool s.one, .int .i64 s.id, .slice sa s.kids.length sc] 60)).alloc (.cells #[.string ⟨#[]⟩, .string ⟨#[]⟩, .bool false, .int .i64 0, .slice none 0 0, .string ⟨#[]⟩, .string ⟨#[]⟩, .string ⟨#[]⟩, .bool false, .bool false, .bool false, .bool false, .bool false, .slice none 0 0, .bool false] 71)).heap[w.heap.size + 1]? = some (.cells #[.string s.al, .string s.name, .bool s.one, .int .i64 s.id, .slice sa s.kids.length sc] 60 (0, 0)) := by
    rw [(below_box _ _).block _ (by simp)]
    exact block_new _ _ (by simp)
  have nR : (((w.alloc (.cells #[.string p.name, .slice ta p.types.length tc] 34)).alloc (.cells #[.string s.al, .string s.name, .bool s.one, .int .i64 s.id, .slice sa s.kids.length sc] 60)).alloc (.cells #[.string ⟨#[]⟩, .string ⟨#[]⟩, .bool false, .int .i64 0, .slice none 0 0, .string ⟨#[]⟩, .string ⟨#[]⟩, .string ⟨#[]⟩, .bool false, .bool false, .bool false, .bool false, .bool false, .slice none 0 0, .bool false] 71)).heap[w.heap.size + 1 + 1]? = some (.cells #[.string ⟨#[]⟩, .string ⟨#[]⟩, .bool false, .int .i64 0, .slice none 0 0, .string ⟨#[]⟩, .string ⟨#[]⟩, .string ⟨#[]⟩, .bool false, .bool false, .bool false, .bool false, .bool false, .slice none 0 0, .bool false] 71 (0, 0)) := block_new _ _ (by simp)
  cases kb
  · go_enter Tryz.func63, Tryz.ntmps63
    go_wp2_with fail
    generalize ((w.alloc (.cells #[.string p.name, .slice ta p.types.length tc] 34)).alloc (.cells #[.string s.al, .string s.name, .bool s.one, .int .i64 s.id, .slice sa s.kids.length sc] 60)).alloc (.cells #[.string ⟨#[]⟩, .string ⟨#[]⟩, .bool false, .int .i64 0, .slice none 0 0, .string ⟨#[]⟩, .string ⟨#[]⟩, .string ⟨#[]⟩, .bool false, .bool false, .bool false, .bool false, .bool false, .slice none 0 0, .bool false] 71) = X at *
    refine (HT.out X bX).mono ?_
    rintro e w1 ⟨tn, ky, fa, fl, fc, rfl, hb1, hT1⟩
    have z1 := hb1.size
    have b01 := bX.trans (hb1.mono (by omega))
    have HT1 := hid_of hT1
    have nS1 := (hb1.block _ (by omega)).trans nS
    have nR1 := (hb1.block _ (by omega)).trans nR
    clear nS nR hT1 HT
    have y1 : ∀ o, (w1.alloc o).cell? ⟨w.heap.size + 1, 1, none⟩ = some (.string s.name) := fun o => (box_at (((below_box w1 o).block _ (by omega)).trans nS1) 1 (by simp)).1
    go_wp2_with fail
    refine (HF.out _ _ (b01.trans ((below_box w1 _).mono b01.size)) (HT1.out.under ((below_box w1 _).mono (by omega)))).mono ?_
    rintro e w2 ⟨na, nc, rfl, hb2, hF2⟩
    have z2 : w1.heap.size + 1 ≤ w2.heap.size := by have := hb2.size; simpa using this
    have b12 : Below w1.heap.size w1 w2 := (below_box w1 _).trans (hb2.mono (by simp))
    have b02 := b01.trans (b12.mono b01.size)
    have HF2 := hid_of hF2
    have nS2 := (b12.block _ (by omega)).trans nS1
    have nR2 := (b12.block _ (by omega)).trans nR1
    clear hF2 hb2 HF y1 nS1 nR1 HT1
    unfold aggF at HF2 ⊢
    have xS : ∀ (o : Obj) (i : Nat) (hi : i < 5), (w2.alloc o).cell? ⟨w.heap.size + 1, i, none⟩ = some #[Value.string s.al, .string s.name, .bool s.one, .int .i64 s.id, .slice sa s.kids.length sc][i] := fun o i hi => (box_at (((below_box w2 o).block _ (by omega)).trans nS2) i (by simpa using hi)).1
    have x0 := fun o => xS o 0 (by omega)
    have x1 := fun o => xS o 1 (by omega)
    have x2 := fun o => xS o 2 (by omega)
    have x3 := fun o => xS o 3 (by omega)
    have x4 := fun o => xS o 4 (by omega)
    have HFIN := hid_of (fun (o : Obj) (kn : Bool) => show ∀ j, j < 15 → (puts (w2.alloc o) (w.heap.size + 1 + 1) 0 (askedC nm s sa sc g na nc kn)).cell? ⟨w.heap.size + 1 + 1, j, none⟩ = some ((askedC nm s sa sc g na nc kn).getD j undef) from
      fifteen_cells (((below_box w2 o).block _ (by omega)).trans nR2) rfl _ rfl _ rfl)
    have HBEL := hid_of (fun (o : Obj) (kn : Bool) => show Below w.heap.size w (puts (w2.alloc o) (w.heap.size + 1 + 1) 0 (askedC nm s sa sc g na nc kn)) ∧ FRep (puts (w2.alloc o) (w.heap.size + 1 + 1) 0 (askedC nm s sa sc g na nc kn)) (· < B) g (.agg #[.string g.name, .string g.of, .bool g.list, .bool g.must, .bool g.far, .bool g.hidden, .bool g.shared, .slice na g.needs.length nc]) from
      ⟨puts_below (by omega) _ _ _ (b02.trans ((below_box w2 o).mono b02.size)), HF2.out.mono fun j hj => (puts_block _ _ (by have : j < B := hj; omega) _ _ _).trans ((below_box w2 o).block j (by have : j < B := hj; omega))⟩)
    have RB := fun (o : Obj) => ((below_box w2 o).block _ (by omega)).trans nR2
    have r0 := fun o => (box_at (RB o) 0 (by simp)).1
    have g0 := fun o => (box_at (RB o) 0 (by simp)).2
    have r1 := fun o => (box_at (RB o) 1 (by simp)).1
    have g1 := fun o => (box_at (RB o) 1 (by simp)).2
    have r2 := fun o => (box_at (RB o) 2 (by simp)).1
    have g2 := fun o => (box_at (RB o) 2 (by simp)).2
    have r3 := fun o => (box_at (RB o) 3 (by simp)).1
    have g3 := fun o => (box_at (RB o) 3 (by simp)).2
    have r4 := fun o => (box_at (RB o) 4 (by simp)).1
    have g4 := fun o => (box_at (RB o) 4 (by simp)).2
    have r5 := fun o => (box_at (RB o) 5 (by simp)).1
    have g5 := fun o => (box_at (RB o) 5 (by simp)).2
    have r6 := fun o => (box_at (RB o) 6 (by simp)).1
    have g6 := fun o => (box_at (RB o) 6 (by simp)).2
    have r7 := fun o => (box_at (RB o) 7 (by simp)).1
    have g7 := fun o => (box_at (RB o) 7 (by simp)).2
    have r8 := fun o => (box_at (RB o) 8 (by simp)).1
    have g8 := fun o => (box_at (RB o) 8 (by simp)).2
    have r9 := fun o => (box_at (RB o) 9 (by simp)).1
    have g9 := fun o => (box_at (RB o) 9 (by simp)).2
    have r10 := fun o => (box_at (RB o) 10 (by simp)).1
    have g10 := fun o => (box_at (RB o) 10 (by simp)).2
    have r11 := fun o => (box_at (RB o) 11 (by simp)).1
    have g11 := fun o => (box_at (RB o) 11 (by simp)).2
    have r12 := fun o => (box_at (RB o) 12 (by simp)).1
    have g12 := fun o => (box_at (RB o) 12 (by simp)).2
    have r13 := fun o => (box_at (RB o) 13 (by simp)).1
    have g13 := fun o => (box_at (RB o) 13 (by simp)).2
    have r14 := fun o => (box_at (RB o) 14 (by simp)).1
    have g14 := fun o => (box_at (RB o) 14 (by simp)).2
    clear RB
    go_wp2_with fail
    refine bodyPost_ret (askedResult _ _ (w.heap.size + 1 + 1) nm s sa sc g na nc false rfl (HFIN.out (.cells #[.string g.name, .string g.of, .bool g.list, .bool g.must, .bool g.far, .bool g.hidden, .bool g.shared, .slice na g.needs.length nc] 69) false)) rfl ⟨na, nc, ?_, (HBEL.out (.cells #[.string g.name, .string g.of, .bool g.list, .bool g.must, .bool g.far, .bool g.hidden, .bool g.shared, .slice na g.needs.length nc] 69) false).2, (HBEL.out (.cells #[.string g.name, .string g.of, .bool g.list, .bool g.must, .bool g.far, .bool g.hidden, .bool g.shared, .slice na g.needs.length nc] 69) false).1⟩
    simp
  · go_enter Tryz.func63, Tryz.ntmps63
    go_wp2_with fail
    generalize ((w.alloc (.cells #[.string p.name, .slice ta p.types.length tc] 34)).alloc (.cells #[.string s.al, .string s.name, .bool s.one, .int .i64 s.id, .slice sa s.kids.length sc] 60)).alloc (.cells #[.string ⟨#[]⟩, .string ⟨#[]⟩, .bool false, .int .i64 0, .slice none 0 0, .string ⟨#[]⟩, .string ⟨#[]⟩, .string ⟨#[]⟩, .bool false, .bool false, .bool false, .bool false, .bool false, .slice none 0 0, .bool false] 71) = X at *
    refine (HT.out X bX).mono ?_
    rintro e w1 ⟨tn, ky, fa, fl, fc, rfl, hb1, hT1⟩
    have z1 := hb1.size
    have b01 := bX.trans (hb1.mono (by omega))
    have HT1 := hid_of hT1
    have nS1 := (hb1.block _ (by omega)).trans nS
    have nR1 := (hb1.block _ (by omega)).trans nR
    clear nS nR hT1 HT
    have y1 : ∀ o, (w1.alloc o).cell? ⟨w.heap.size + 1, 1, none⟩ = some (.string s.name) := fun o => (box_at (((below_box w1 o).block _ (by omega)).trans nS1) 1 (by simp)).1
    go_wp2_with fail
    refine (HF.out _ _ (b01.trans ((below_box w1 _).mono b01.size)) (HT1.out.under ((below_box w1 _).mono (by omega)))).mono ?_
    rintro e w2 ⟨na, nc, rfl, hb2, hF2⟩
    have z2 : w1.heap.size + 1 ≤ w2.heap.size := by have := hb2.size; simpa using this
    have b12 : Below w1.heap.size w1 w2 := (below_box w1 _).trans (hb2.mono (by simp))
    have b02 := b01.trans (b12.mono b01.size)
    have HF2 := hid_of hF2
    have nS2 := (b12.block _ (by omega)).trans nS1
    have nR2 := (b12.block _ (by omega)).trans nR1
    clear hF2 hb2 HF y1 nS1 nR1 HT1
    unfold aggF at HF2 ⊢
    have xS : ∀ (o : Obj) (i : Nat) (hi : i < 5), (w2.alloc o).cell? ⟨w.heap.size + 1, i, none⟩ = some #[Value.string s.al, .string s.name, .bool s.one, .int .i64 s.id, .slice sa s.kids.length sc][i] := fun o i hi => (box_at (((below_box w2 o).block _ (by omega)).trans nS2) i (by simpa using hi)).1
    have x0 := fun o => xS o 0 (by omega)
    have x1 := fun o => xS o 1 (by omega)
    have x2 := fun o => xS o 2 (by omega)
    have x3 := fun o => xS o 3 (by omega)
    have x4 := fun o => xS o 4 (by omega)
    have HFIN := hid_of (fun (o : Obj) (kn : Bool) => show ∀ j, j < 15 → (puts (w2.alloc o) (w.heap.size + 1 + 1) 0 (askedC nm s sa sc g na nc kn)).cell? ⟨w.heap.size + 1 + 1, j, none⟩ = some ((askedC nm s sa sc g na nc kn).getD j undef) from
      fifteen_cells (((below_box w2 o).block _ (by omega)).trans nR2) rfl _ rfl _ rfl)
    have HBEL := hid_of (fun (o : Obj) (kn : Bool) => show Below w.heap.size w (puts (w2.alloc o) (w.heap.size + 1 + 1) 0 (askedC nm s sa sc g na nc kn)) ∧ FRep (puts (w2.alloc o) (w.heap.size + 1 + 1) 0 (askedC nm s sa sc g na nc kn)) (· < B) g (.agg #[.string g.name, .string g.of, .bool g.list, .bool g.must, .bool g.far, .bool g.hidden, .bool g.shared, .slice na g.needs.length nc]) from
      ⟨puts_below (by omega) _ _ _ (b02.trans ((below_box w2 o).mono b02.size)), HF2.out.mono fun j hj => (puts_block _ _ (by have : j < B := hj; omega) _ _ _).trans ((below_box w2 o).block j (by have : j < B := hj; omega))⟩)
    have RB := fun (o : Obj) => ((below_box w2 o).block _ (by omega)).trans nR2
    have r0 := fun o => (box_at (RB o) 0 (by simp)).1
    have g0 := fun o => (box_at (RB o) 0 (by simp)).2
    have r1 := fun o => (box_at (RB o) 1 (by simp)).1
    have g1 := fun o => (box_at (RB o) 1 (by simp)).2
    have r2 := fun o => (box_at (RB o) 2 (by simp)).1
    have g2 := fun o => (box_at (RB o) 2 (by simp)).2
    have r3 := fun o => (box_at (RB o) 3 (by simp)).1
    have g3 := fun o => (box_at (RB o) 3 (by simp)).2
    have r4 := fun o => (box_at (RB o) 4 (by simp)).1
    have g4 := fun o => (box_at (RB o) 4 (by simp)).2
    have r5 := fun o => (box_at (RB o) 5 (by simp)).1
    have g5 := fun o => (box_at (RB o) 5 (by simp)).2
    have r6 := fun o => (box_at (RB o) 6 (by simp)).1
    have g6 := fun o => (box_at (RB o) 6 (by simp)).2
    have r7 := fun o => (box_at (RB o) 7 (by simp)).1
    have g7 := fun o => (box_at (RB o) 7 (by simp)).2
    have r8 := fun o => (box_at (RB o) 8 (by simp)).1
    have g8 := fun o => (box_at (RB o) 8 (by simp)).2
    have r9 := fun o => (box_at (RB o) 9 (by simp)).1
    have g9 := fun o => (box_at (RB o) 9 (by simp)).2
    have r10 := fun o => (box_at (RB o) 10 (by simp)).1
    have g10 := fun o => (box_at (RB o) 10 (by simp)).2
    have r11 := fun o => (box_at (RB o) 11 (by simp)).1
    have g11 := fun o => (box_at (RB o) 11 (by simp)).2
    have r12 := fun o => (box_at (RB o) 12 (by simp)).1
    have g12 := fun o => (box_at (RB o) 12 (by simp)).2
    have r13 := fun o => (box_at (RB o) 13 (by simp)).1
    have g13 := fun o => (box_at (RB o) 13 (by simp)).2
    have r14 := fun o => (box_at (RB o) 14 (by simp)).1
    have g14 := fun o => (box_at (RB o) 14 (by simp)).2
    clear RB
    go_wp2_with fail
    refine bodyPost_ret (askedResult _ _ (w.heap.size + 1 + 1) nm s sa sc g na nc (!g.hidden) rfl (HFIN.out (.cells #[.string g.name, .string g.of, .bool g.list, .bool g.must, .bool g.far, .bool g.hidden, .bool g.shared, .slice na g.needs.length nc] 69) (!g.hidden))) rfl ⟨na, nc, ?_, (HBEL.out (.cells #[.string g.name, .string g.of, .bool g.list, .bool g.must, .bool g.far, .bool g.hidden, .bool g.shared, .slice na g.needs.length nc] 69) (!g.hidden)).2, (HBEL.out (.cells #[.string g.name, .string g.of, .bool g.list, .bool g.must, .bool g.far, .bool g.hidden, .bool g.shared, .slice na g.needs.length nc] 69) (!g.hidden)).1⟩
    simp
end Go.Proofs.YtgcfgadkclfonaaGreatDoor

namespace Go.Proofs.YtgcfgadkclfonaaGreatDoor
set_option linter.unusedSimpArgs false
set_option linter.unusedVariables false
open Go.RowKit

set_option maxRecDepth 20000 in
set_option maxHeartbeats 1600000 in
theorem fault_any (nm : ByteArray) (s : Se) (sa : Option Addr) (sc : Nat) (g : F) (na : Option Addr) (nc : Nat) (known : Bool) (w : World) :
    Calls Tryz.prog 36 #[.agg #[.string s.al, .string s.name, .bool s.one, .int .i64 s.id, .slice sa s.kids.length sc, .string nm, .string g.name, .string g.of, .bool g.list, .bool g.must, .bool g.far, .bool g.hidden, .bool g.shared, .slice na g.needs.length nc, .bool known]] w
      fun e w' => e = .returned (.int .i64 (faultG nm s.one s.kids.length g known)) ∧ Below w.heap.size w w' := by
  obtain ⟨r, hr⟩ : ∃ r, r = faultG nm s.one s.kids.length g known := ⟨_, rfl⟩
  rw [← hr]
  unfold faultG at hr
  rw [show qry.toList = [113, 117, 101, 114, 121] by rw [ByteArray.toList_eq]; rfl] at hr
  have HL := hid_of (fun W => isLeaf_any g.of W)
  generalize scalarB g.of = leaf at *
  generalize s.kids.length = kl at *
  generalize s.one = one at *
  generalize g.list = gl at *
  have HR := hid_of hr
  clear hr
  cases known
  · have HV := hid_of (show r = 1 by rw [HR.out]; simp)
    clear HR
    go_enter Tryz.func36, Tryz.ntmps36
    go_wp2_with (go_at_call 64; refine (HL.out _).mono ?_; rintro e w' ⟨rfl, rfl⟩)
    go_ret
    exact ⟨by rw [HV.out]; rfl, below_box _ _⟩
  cases leaf
  · by_cases hk : kl = 0
    · subst hk
      have HV := hid_of (show r = 3 by rw [HR.out]; simp)
      clear HR
      go_enter Tryz.func36, Tryz.ntmps36
      go_wp2_with (go_at_call 64; refine (HL.out _).mono ?_; rintro e w' ⟨rfl, rfl⟩)
      go_ret
      exact ⟨by rw [HV.out]; rfl, below_box _ _⟩
    have hk1 : 0 < kl := by omega
    have hk2 : ¬ (kl : Int) ≤ 0 := by omega
    have hk3 : ((kl : Int) == 0) = false := beq_eq_false_iff_ne.2 (by omega)
    cases one
    · have HV := hid_of (show r = 0 by rw [HR.out]; simp [hk])
      clear HR hk
      go_enter Tryz.func36, Tryz.ntmps36
      go_wp2_with (go_at_call 64; refine (HL.out _).mono ?_; rintro e w' ⟨rfl, rfl⟩)
      go_ret
      exact ⟨by rw [HV.out]; rfl, below_box _ _⟩
    cases gl
    · cases hq : (nm.toList == [113, 117, 101, 114, 121])
      · have hqq : ¬ nm.toList = [113, 117, 101, 114, 121] := by simpa using hq
        have hq3 : (nm.toList != [113, 117, 101, 114, 121]) = true := by simp only [bne, hq]; rfl
        have HV := hid_of (show r = 4 by rw [HR.out]; simp [hk, hqq])
        clear HR hk hqq
        go_enter Tryz.func36, Tryz.ntmps36
        go_wp2_with (go_at_call 64; refine (HL.out _).mono ?_; rintro e w' ⟨rfl, rfl⟩)
        go_ret
        exact ⟨by rw [HV.out]; rfl, below_box _ _⟩
      · have hqq : nm.toList = [113, 117, 101, 114, 121] := by simpa using hq
        have hq3 : (nm.toList != [113, 117, 101, 114, 121]) = false := by simp only [bne, hq]; rfl
        have HV := hid_of (show r = 0 by rw [HR.out]; simp [hk, hqq])
        clear HR hk hqq
        go_enter Tryz.func36, Tryz.ntmps36
        go_wp2_with (go_at_call 64; refine (HL.out _).mono ?_; rintro e w' ⟨rfl, rfl⟩)
        go_ret
        exact ⟨by rw [HV.out]; rfl, below_box _ _⟩
    · have HV := hid_of (show r = 4 by rw [HR.out]; simp [hk])
      clear HR hk
      go_enter Tryz.func36, Tryz.ntmps36
      go_wp2_with (go_at_call 64; refine (HL.out _).mono ?_; rintro e w' ⟨rfl, rfl⟩)
      go_ret
      exact ⟨by rw [HV.out]; rfl, below_box _ _⟩
  · by_cases hk : kl = 0
    · subst hk
      cases one
      · have HV := hid_of (show r = 0 by rw [HR.out]; simp)
        clear HR
        go_enter Tryz.func36, Tryz.ntmps36
        go_wp2_with (go_at_call 64; refine (HL.out _).mono ?_; rintro e w' ⟨rfl, rfl⟩)
        go_ret
        exact ⟨by rw [HV.out]; rfl, below_box _ _⟩
      · have HV := hid_of (show r = 4 by rw [HR.out]; simp)
        clear HR
        go_enter Tryz.func36, Tryz.ntmps36
        go_wp2_with (go_at_call 64; refine (HL.out _).mono ?_; rintro e w' ⟨rfl, rfl⟩)
        go_ret
        exact ⟨by rw [HV.out]; rfl, below_box _ _⟩
    have hk1 : 0 < kl := by omega
    have hk2 : ¬ (kl : Int) ≤ 0 := by omega
    have HV := hid_of (show r = 2 by rw [HR.out]; simp [hk1])
    clear HR
    go_enter Tryz.func36, Tryz.ntmps36
    go_wp2_with (go_at_call 64; refine (HL.out _).mono ?_; rintro e w' ⟨rfl, rfl⟩)
    go_ret
    exact ⟨by rw [HV.out]; rfl, below_box _ _⟩
end Go.Proofs.YtgcfgadkclfonaaGreatDoor
