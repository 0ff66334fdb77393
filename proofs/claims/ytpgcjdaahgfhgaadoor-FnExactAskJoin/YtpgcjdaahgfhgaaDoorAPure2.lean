/-
  The text of an ask: pure.
-/
import Derived.Test.YtpgcjdaahgfhgaaDoorAPure
namespace Go.Proofs.YtpgcjdaahgfhgaaDoor
set_option linter.unusedSimpArgs false
set_option linter.unusedVariables false
open Go.RowKit

/-- A number as figures. -/
def decL (n : Nat) : List UInt8 := if h : n < 10 then [UInt8.ofNat (48 + n)] else decL (n / 10) ++ [UInt8.ofNat (48 + n % 10)]
termination_by n
decreasing_by omega
theorem decL_small {n : Nat} (h : n < 10) : decL n = [UInt8.ofNat (48 + n)] := by rw [decL, dif_pos h]
theorem decL_big {n : Nat} (h : ¬ n < 10) : decL n = decL (n / 10) ++ [UInt8.ofNat (48 + n % 10)] := by rw [decL, dif_neg h]
theorem decL_len : ∀ (d n : Nat), n < 10 ^ (d + 1) → (decL n).length ≤ d + 1
  | d, n, h => by
    by_cases hn : n < 10
    · rw [decL_small hn]; simp
    · rw [decL_big hn]
      cases d with
      | zero => simp at h; omega
      | succ d =>
        have := decL_len d (n / 10) (by rw [Nat.pow_succ] at h; omega)
        simp; omega
/-- A field without what is asked of it. -/
def headL (s : Se) : List UInt8 := (if s.al.toList.isEmpty = true then [] else s.al.toList ++ [58]) ++ s.name.toList ++ (if s.one = true then 40 :: decL s.id.toNat ++ [41] else [])
/-- The first n of a list of fields as they are written, behind the bracket; so many levels at most. -/
def txtTo : Nat → List Se → Nat → List UInt8
  | 0, _, _ => []
  | f + 1, ks, n => (List.range n).flatMap fun i => (if i = 0 then [] else [44]) ++ headL (sth ks i) ++ (if (sth ks i).kids.isEmpty = true then [] else 123 :: txtTo f (sth ks i).kids (sth ks i).kids.length ++ [125])
theorem txtTo_succ (f : Nat) (ks : List Se) (n : Nat) : txtTo (f + 1) ks (n + 1) = txtTo (f + 1) ks n ++ ((if n = 0 then [] else [44]) ++ headL (sth ks n) ++ (if (sth ks n).kids.isEmpty = true then [] else 123 :: txtTo f (sth ks n).kids (sth ks n).kids.length ++ [125])) := by
  simp [txtTo, List.range_succ]
/-- An ask as it is written. -/
def txtL (f : Nat) (ks : List Se) : List UInt8 := 123 :: txtTo f ks ks.length ++ [125]
theorem name_size {s : ByteArray} (h : nameB s = true) : s.size ≤ 8 := by
  simp only [nameB, Bool.and_eq_true, decide_eq_true_eq] at h
  exact h.1.1.1.1.1.1.1.1.1.2
theorem toList_len (s : ByteArray) : s.toList.length = s.size := by rw [ByteArray.toList_eq]; simp
theorem selB_id {s : Se} (h : selB s = true) : 0 ≤ s.id ∧ s.id ≤ 999999 := by
  simp only [selB, Bool.and_eq_true, decide_eq_true_eq] at h
  exact h.2
/-- A field that is ok takes at most so much. -/
theorem headL_len {s : Se} (h : selB s = true) : (headL s).length ≤ 25 := by
  have hid := selB_id h
  have h1 := decL_len 5 s.id.toNat (by omega)
  simp only [selB, Bool.and_eq_true, Bool.or_eq_true] at h
  have h2 := name_size h.1.1.1
  have h3 := toList_len s.name
  have h4 : (if s.al.toList.isEmpty = true then ([] : List UInt8) else s.al.toList ++ [58]).length ≤ 9 := by
    split
    · simp
    · rename_i hne
      rcases h.1.1.2 with h5 | h5
      · exact absurd h5 hne
      · have := name_size h5.1
        have := toList_len s.al
        simp; omega
  have h5 : (if s.one = true then 40 :: decL s.id.toNat ++ [41] else []).length ≤ 8 := by
    split
    · simp; omega
    · simp
  unfold headL
  rw [List.length_append, List.length_append]
  omega
/-- Fields that are ok take at most so much, each with what stands around it. -/
theorem txtTo_len : ∀ (f d : Nat) (ks : List Se) (n : Nat), n ≤ ks.length → FitS f ks → okTo f d ks n = true → (txtTo f ks n).length ≤ 28 * cntTo f ks n
  | 0, d, ks, n, hn, hf, h => by simp [txtTo]
  | f + 1, d, ks, 0, hn, hf, h => by simp [txtTo]
  | f + 1, d, ks, n + 1, hn, hf, h => by
    rw [okTo_succ] at h
    simp only [Bool.and_eq_true] at h
    obtain ⟨h1, ⟨h2, -⟩, -, h3⟩ := h
    have i1 := txtTo_len (f + 1) d ks n (by omega) hf h1
    have i2 := txtTo_len f (d + 1) (sth ks n).kids _ (Nat.le_refl _) (hf n (by omega)) h3
    have i3 := headL_len h2
    rw [txtTo_succ, cntTo_succ, cntSe_kids]
    have e1 : (if n = 0 then ([] : List UInt8) else [44]).length ≤ 1 := by split <;> simp
    have e2 : (if (sth ks n).kids.isEmpty = true then ([] : List UInt8) else 123 :: txtTo f (sth ks n).kids (sth ks n).kids.length ++ [125]).length ≤ 2 + (txtTo f (sth ks n).kids (sth ks n).kids.length).length := by
      split
      · simp
      · simp; omega
    rw [List.length_append, List.length_append, List.length_append]
    omega
end Go.Proofs.YtpgcjdaahgfhgaaDoor
