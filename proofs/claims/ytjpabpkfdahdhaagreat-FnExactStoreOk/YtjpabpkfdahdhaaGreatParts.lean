/-
  How many parts are left: the model's l1Parts and JsonOk.
-/
import Derived.Test.YtjpabpkfdahdhaaGreatPlain2
namespace Go.Proofs.YtjpabpkfdahdhaaGreat
set_option linter.unusedSimpArgs false
set_option linter.unusedVariables false
open Go.RowKit

theorem l1Plain_any (s n : Int) (t : ByteArray) (ns : List ByteArray) (na ka : Option Addr) (nc kc kl : Nat) (w : World) (hS : Strs w (· < w.heap.size) ns na) (hcap : ns.length ≤ nc) (ht : t.size ≤ maxLen) :
    Calls Tryz.prog 53 #[.agg #[.int .i64 s, .int .i64 n, .string t, .slice na ns.length nc, .slice ka kl kc]] w fun e w' => e = .returned (.bool (plainV s n t ns kl)) ∧ Below w.heap.size w w' := by
  by_cases h6 : s = 6
  · subst h6; exact l1Plain_6 n t ns na ka nc kc kl w hS hcap
  by_cases hn : 0 < ns.length
  · exact l1Plain_a s n t ns na ka nc kc kl w (by simpa using h6) hn
  have hns : ns = [] := by simpa using hn
  subst hns
  by_cases h1 : s = 1
  · subst h1; exact l1Plain_1 n t na ka nc kc kl w
  by_cases h2 : s = 2
  · subst h2; exact l1Plain_2 n t na ka nc kc kl w
  by_cases h3 : s = 3
  · subst h3; exact l1Plain_3 n t na ka nc kc kl w
  by_cases h4 : s = 4
  · subst h4; exact l1Plain_4 n t na ka nc kc kl w ht
  by_cases h5 : s = 5
  · subst h5; exact l1Plain_5 n t na ka nc kc kl w
  exact l1Plain_x s n t na ka nc kc kl w (by simpa using h1) (by simpa using h2) (by simpa using h3) (by simpa using h4) (by simpa using h5) (by simpa using h6)

/-- How many parts are left behind a value, of so many, where so many levels may come; below 0 if it is not ok. -/
def partsF : Nat → V → Int → Int
  | 0, _, _ => -1
  | f + 1, x, l => if l - 1 < 0 ∨ plainV x.sort x.num x.text x.names x.kids.length = false then -1 else x.kids.foldl (fun n k => if 0 ≤ n then partsF f k n else n) (l - 1)
/-- How many parts are left behind a value at a level, of so many. -/
def partsV (x : V) (d l : Int) : Int := partsF (17 - d).toNat x l
/-- The same of a list of values. -/
def partsL (ks : List V) (d n : Int) : Int := ks.foldl (fun n k => if 0 ≤ n then partsV k d n else n) n

theorem partsV_eq (s n : Int) (t : ByteArray) (ns : List ByteArray) (ks : List V) (d l : Int) : partsV (.mk s n t ns ks) d l = if l - 1 < 0 ∨ 16 < d ∨ plainV s n t ns ks.length = false then -1 else partsL ks (d + 1) (l - 1) := by
  unfold partsV
  by_cases h : 16 < d
  · rw [if_pos (Or.inr (Or.inl h)), show (17 - d).toNat = 0 by omega, partsF]
  · obtain ⟨f, hf⟩ : ∃ f, (17 - d).toNat = f + 1 := ⟨(17 - (d + 1)).toNat, by omega⟩
    have hf' : (17 - (d + 1)).toNat = f := by omega
    rw [hf, partsF]
    simp only [partsL, partsV, hf', h, false_or]
theorem partsL_nil (d n : Int) : partsL [] d n = n := rfl
theorem partsL_neg (ks : List V) (d : Int) : ∀ n : Int, n < 0 → partsL ks d n = n := by
  induction ks with
  | nil => intro n _; rfl
  | cons k ks ih => intro n h; rw [partsL, List.foldl_cons, if_neg (by omega)]; exact ih n h
theorem partsL_cons (k : V) (ks : List V) (d n : Int) : partsL (k :: ks) d n = if 0 ≤ n then partsL ks d (partsV k d n) else n := by
  by_cases h : 0 ≤ n
  · rw [if_pos h, partsL, List.foldl_cons, if_pos h]; rfl
  · rw [if_neg h]; exact partsL_neg _ _ _ (by omega)
theorem partsL_append (xs ys : List V) (d n : Int) : partsL (xs ++ ys) d n = partsL ys d (partsL xs d n) := by
  simp only [partsL, List.foldl_append]
theorem take_kth (ks : List V) (k : Nat) (h : k < ks.length) : ks.take (k + 1) = ks.take k ++ [kth ks k] := by
  rw [List.take_succ_eq_append_getElem h]; simp [kth, List.getD_eq_getElem?_getD, h]
theorem partsL_succ (ks : List V) (k : Nat) (h : k < ks.length) (d n : Int) (hp : 0 ≤ partsL (ks.take k) d n) : partsL (ks.take (k + 1)) d n = partsV (kth ks k) d (partsL (ks.take k) d n) := by
  rw [take_kth ks k h, partsL_append, partsL_cons, if_pos hp, partsL_nil]
theorem partsL_stop (ks : List V) (k : Nat) (d n : Int) (hp : partsL (ks.take k) d n < 0) : partsL ks d n = partsL (ks.take k) d n := by
  conv => lhs; rw [← List.take_append_drop k ks]
  rw [partsL_append, partsL_neg _ _ _ hp]

/-- The bounds of what is left, by the size of a value. -/
theorem parts_bd (m : Nat) : (∀ x : V, SizeOf.sizeOf x < m → ∀ d l : Int, 0 ≤ l → -1 ≤ partsV x d l ∧ partsV x d l < l ∨ partsV x d l = -1) ∧
    (∀ ks : List V, SizeOf.sizeOf ks < m → ∀ d n : Int, -1 ≤ n → -1 ≤ partsL ks d n ∧ partsL ks d n ≤ n ∧ (0 ≤ partsL ks d n → (ks.length : Int) + partsL ks d n ≤ n)) := by
  induction m with
  | zero => exact ⟨fun x h => by omega, fun x h => by omega⟩
  | succ m ih =>
    refine ⟨fun x hx d l hl => ?_, fun ks hk d n hn => ?_⟩
    · match x, hx with
      | .mk s n t ns ks, hx =>
        rw [partsV_eq]
        split
        · exact Or.inr rfl
        · have := ih.2 ks (by simp at hx; omega) (d + 1) (l - 1) (by omega)
          left; omega
    · match ks, hk with
      | [], hk => rw [partsL_nil]; simp; omega
      | k :: ks, hk =>
        rw [partsL_cons]
        split
        · rename_i h0
          have h1 := ih.1 k (by simp at hk; omega) d n h0
          have h2 := ih.2 ks (by simp at hk; omega) d (partsV k d n) (by omega)
          simp only [List.length_cons]
          by_cases h3 : 0 ≤ partsV k d n
          · omega
          · have := partsL_neg ks d (partsV k d n) (by omega); omega
        · omega
theorem partsV_bd (x : V) (d l : Int) (hl : 0 ≤ l) : -1 ≤ partsV x d l ∧ (partsV x d l < l ∨ partsV x d l = -1) := by
  have := (parts_bd _).1 x (Nat.lt_succ_self _) d l hl; omega
theorem partsL_bd (ks : List V) (d n : Int) (hn : -1 ≤ n) : -1 ≤ partsL ks d n ∧ partsL ks d n ≤ n ∧ (0 ≤ partsL ks d n → (ks.length : Int) + partsL ks d n ≤ n) :=
  (parts_bd _).2 ks (Nat.lt_succ_self _) d n hn

/-- Whether a value is ok. -/
def okV (x : V) : Bool := decide (0 ≤ partsV x 1 600)

end Go.Proofs.YtjpabpkfdahdhaaGreat
