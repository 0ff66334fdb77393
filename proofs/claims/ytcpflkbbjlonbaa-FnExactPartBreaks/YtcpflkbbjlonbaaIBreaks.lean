/-
  The program's PartBreaks.
-/
import Derived.Test.YtcpflkbbjlonbaaIStill
import Derived.Test.YtcpflkbbjlonbaaIPField
namespace Go.Proofs.Ytcpflkbbjlonbaa
set_option linter.unusedSimpArgs false
set_option linter.unusedVariables false
open Go.RowKit

/-- How a field of a type is told. -/
def btext (t : T) (k : Nat) : ByteArray := t.name ++ ⟨#[46]⟩ ++ (fth t.fields k).name
/-- What breaks of a type's first fields. -/
def brF (t o : T) : Nat → List ByteArray
  | 0 => []
  | k + 1 => brF t o k ++ (if (!(fth t.fields k).hidden && !stillB (fth t.fields k) o) = true then [btext t k] else [])
/-- What breaks of a part's first types. -/
def brT (p q : Pt) : Nat → List ByteArray
  | 0 => []
  | i + 1 => brT p q i ++ brF (tth p.types i) (typeOr q (tth p.types i).name) (tth p.types i).fields.length
def breaksL (p q : Pt) : List ByteArray := if (okP p && okP q) = true then brT p q p.types.length else []

theorem brF_len (t o : T) : ∀ k, (brF t o k).length ≤ k
  | 0 => by simp [brF]
  | k + 1 => by
    have := brF_len t o k
    rw [brF, List.length_append]
    split <;> simp <;> omega
theorem brT_len (p q : Pt) : ∀ i, (brT p q i).length ≤ szTsTo p.types i
  | 0 => by simp [brT]
  | i + 1 => by
    have h1 := brT_len p q i
    have h2 := brF_len (tth p.types i) (typeOr q (tth p.types i).name) (tth p.types i).fields.length
    have h3 : szT (tth p.types i) = (tth p.types i).name.size + (tth p.types i).key.size + ((tth p.types i).fields.length + szFsTo (tth p.types i).fields (tth p.types i).fields.length) := rfl
    rw [brT, List.length_append, szTsTo_succ]
    omega
theorem name_small (fs : List F) (h : szFs fs ≤ 1048576) (j : Nat) : (fth fs j).name.size ≤ 1048576 := by
  by_cases hj : j < fs.length
  · have h1 := szFsTo_mono fs (j + 1) fs.length hj
    rw [szFsTo_succ] at h1
    have h2 : (fth fs j).name.size ≤ szF (fth fs j) := by simp only [szF]; omega
    have h3 : szFs fs = fs.length + szFsTo fs fs.length := rfl
    omega
  · have : fth fs j = F.zero := by simp [fth, List.getD_eq_getElem?_getD, List.getElem?_eq_none (Nat.le_of_not_lt hj)]
    rw [this]; simp [F.zero]
theorem tname_small (ts : List T) (h : szTs ts ≤ 1048576) (i : Nat) : (tth ts i).name.size ≤ 1048576 := by
  by_cases hi : i < ts.length
  · have h1 := szTsTo_mono ts (i + 1) ts.length hi
    rw [szTsTo_succ] at h1
    have h2 : szT (tth ts i) = (tth ts i).name.size + (tth ts i).key.size + szFs (tth ts i).fields := rfl
    have h3 : szTs ts = ts.length + szTsTo ts ts.length := rfl
    omega
  · have : tth ts i = T.zero := by simp [tth, List.getD_eq_getElem?_getD, List.getElem?_eq_none (Nat.le_of_not_lt hi)]
    rw [this]; simp [T.zero]
theorem btext_small (p : Pt) (hz : szP p ≤ 1048576) (i k : Nat) : (btext (tth p.types i) k).size ≤ 2097153 := by
  have hs : szTs p.types ≤ 1048576 := by have : szP p = p.name.size + szTs p.types := rfl; omega
  have h1 := tname_small p.types hs i
  have h2 := name_small _ (fields_small p.types hs i) k
  rw [btext, ByteArray.size_append, ByteArray.size_append]
  have : (⟨#[46]⟩ : ByteArray).size = 1 := rfl
  omega
theorem brF_small (p : Pt) (hz : szP p ≤ 1048576) (i : Nat) (o : T) : ∀ k, ∀ x ∈ brF (tth p.types i) o k, x.size ≤ 2097153
  | 0, x, h => by simp [brF] at h
  | k + 1, x, h => by
    rw [brF, List.mem_append] at h
    rcases h with h | h
    · exact brF_small p hz i o k x h
    · split at h
      · simp at h; subst h; exact btext_small p hz i k
      · simp at h
theorem brT_small (p q : Pt) (hz : szP p ≤ 1048576) : ∀ i, ∀ x ∈ brT p q i, x.size ≤ 2097153
  | 0, x, h => by simp [brT] at h
  | i + 1, x, h => by
    rw [brT, List.mem_append] at h
    rcases h with h | h
    · exact brT_small p q hz i x h
    · exact brF_small p hz i _ _ x h
theorem nth_small {ns : List ByteArray} (h : ∀ x ∈ ns, x.size ≤ 2097153) (i : Nat) : (nth ns i).size ≤ maxLen := by
  unfold maxLen
  by_cases hi : i < ns.length
  · have : nth ns i = ns[i] := by simp [nth, List.getD_eq_getElem?_getD, hi]
    rw [this]
    have := h _ (List.getElem_mem hi)
    omega
  · have : nth ns i = ByteArray.empty := by simp [nth, List.getD_eq_getElem?_getD, List.getElem?_eq_none (Nat.le_of_not_lt hi)]
    rw [this]; simp

/-- What PartBreaks leaves: the texts in new memory that may be written. -/
def TextsNew (w w' : World) (ns : List ByteArray) (e : Ending) : Prop := ∃ (a : Option Addr) (c : Nat), e = .returned (.slice a ns.length c) ∧ ns.length ≤ c ∧ Below w.heap.size w w' ∧ Strs w' (fun b => w.heap.size ≤ b ∧ b < w'.heap.size) ns a ∧ WStrs w' w.heap.size w'.heap.size ns.length a
theorem TextsNew.nil {w w' : World} (hb : Below w.heap.size w w') : TextsNew w w' [] (.returned (.slice none 0 0)) :=
  ⟨none, 0, rfl, by simp, hb, ⟨fun h => absurd rfl h, fun i => by simp [nth], by simp⟩, fun h => by simp at h⟩
theorem TextsNew.own {w w' : World} {ns : List ByteArray} {v : Value} {base : Nat} (hb : Below w.heap.size w w') (h1 : w.heap.size ≤ base) (h : w'.ownsRow base 9 1 v ns.length (ns.map Value.string)) (h2 : ∀ x ∈ ns, x.size ≤ 2097153) (h3 : ns.length ≤ 1048576) : TextsNew w w' ns (.returned v) := by
  rcases h.2 with ⟨rfl, hn⟩ | ⟨g, cap, cur, rfl, hg, hh, hn, -⟩
  · have : ns = [] := by simpa using hn
    subst this
    exact TextsNew.nil hb
  · have hlt : g < w'.heap.size := by
      rcases Nat.lt_or_ge g w'.heap.size with h | h
      · exact h
      · simp [Array.getElem?_eq_none h] at hh
    obtain ⟨hS, hc, hW⟩ := strs_owned h (nth_small h2) (by unfold maxLen; omega) hlt
    exact ⟨_, _, rfl, hc, hb, hS.sub fun k hk => ⟨by omega, hk.2⟩, hW.wide h1 (Nat.le_refl _)⟩
end Go.Proofs.Ytcpflkbbjlonbaa
