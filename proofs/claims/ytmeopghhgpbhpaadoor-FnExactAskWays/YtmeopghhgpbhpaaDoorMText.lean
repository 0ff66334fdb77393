/-
  The laws' marks: the text of a mark.
-/
import Derived.Test.YtmeopghhgpbhpaaDoorCopyS
import Derived.Laws.IdiomStrings
namespace Go.Proofs.YtmeopghhgpbhpaaDoor
set_option linter.unusedSimpArgs false
set_option linter.unusedVariables false
open Go.RowKit

/-- The figures of a number ahead of others. -/
def digs : Nat → Nat → List UInt8 → List UInt8
  | 0, _, acc => acc
  | f + 1, k, acc => if k = 0 then acc else digs f (k / 10) (UInt8.ofNat (48 + k % 10) :: acc)
/-- The text of a mark. -/
def mtext (k : Nat) : ByteArray := ⟨(109 :: (if k = 0 then [48] else digs 64 k [])).toArray⟩
theorem digs_zero (f : Nat) (acc : List UInt8) : digs f 0 acc = acc := by cases f <;> simp [digs]
theorem digs_len : ∀ (f k : Nat) (acc : List UInt8), (digs f k acc).length ≤ f + acc.length
  | 0, _, acc => by simp [digs]
  | f + 1, k, acc => by
    rw [digs]
    split
    · omega
    · have := digs_len f (k / 10) (UInt8.ofNat (48 + k % 10) :: acc)
      simp only [List.length_cons] at this
      omega

set_option maxRecDepth 20000 in
set_option maxHeartbeats 800000 in
theorem markText_any (k : Nat) (w : World) (hk : k ≤ 1152921504606846976) :
    Calls Tryd.prog 40 #[.int .i64 k] w fun e w' => e = .returned (.string (mtext k)) ∧ Below w.heap.size w w' := by
  by_cases h0 : k = 0
  · subst h0
    go_enter Tryd.func40, Tryd.ntmps40
    go_wp2_with fail
    go_ret
    exact ⟨by rw [mtext]; rfl, Below.refl _ _⟩
  have h1 : ¬ (k : Int) ≤ 0 := by omega
  have h2 : ¬ k ≤ 0 := by omega
  have HM : Hid (mtext k = ⟨(109 :: digs 64 k []).toArray⟩) := by show _ = _; rw [mtext, if_neg h0]
  go_enter Tryd.func40, Tryd.ntmps40
  go_wp2_with fail
  go_loopw [0, 3] (fun kk o wr => ∃ (n f : Nat) (x : ByteArray), kk = .int .i64 n ∧ o = .string x ∧ Hid (n < 10 ^ f ∧ n ≤ k ∧ x.size + f ≤ 64 ∧ digs 64 k [] = digs f n x.data.toList) ∧ Below w.heap.size w wr) (fun kk _ _ => (intOf kk).toNat)
  case atStart => exact ⟨k, 64, ByteArray.empty, rfl, rfl, ⟨by omega, Nat.le_refl _, by decide, rfl⟩, Below.refl _ _⟩
  case round =>
    obtain ⟨n, f, x, rfl, rfl, HH, hb⟩ := hrel
    obtain ⟨w0, rfl⟩ : ∃ x, x = wr := ⟨wr, rfl⟩
    have hxs : x.size + 1 ≤ 9223372036854775807 := by have := HH.out.2.2.1; omega
    have hxs2 : 1 + x.size ≤ 9223372036854775807 := by omega
    by_cases hn0 : n = 0
    · subst hn0
      have hfin : Hid (mtext k = ⟨#[109]⟩ ++ x) := by
        show _ = _
        rw [HM.out, HH.out.2.2.2, digs_zero]
        apply ByteArray.ext
        apply Array.toList_inj.1
        rw [ByteArray.data_append]
        simp
      go_wp2_with fail
      go_ret
      exact ⟨by rw [hfin.out]; rfl, hb⟩
    · have g0 : (0 : Int) < (n : Int) := by omega
      have hni : (n : Int) ≤ 1152921504606846976 := by have := HH.out.2.1; omega
      have hcv : Sem.run Tryd.prog (convert 66 9 (.slice (some ⟨w0.heap.size, 0, none⟩) 1 1)) (w0.alloc (.cells #[.int .u8 (48 + (n : Int) % 10)] 5)) = .ok (.string ⟨#[UInt8.ofNat (48 + n % 10)]⟩) (w0.alloc (.cells #[.int .u8 (48 + (n : Int) % 10)] 5)) :=
        run_convert_bytes_back (P := Tryd.prog) _ 66 9 5 ⟨w0.heap.size, 0, none⟩ 1 [UInt8.ofNat (48 + n % 10)] Tryd.underlying66 Tryd.underlying5 Tryd.underlying9 (fun j hj => by
          have hj0 : j = 0 := by simpa using hj
          subst hj0
          have hd : (UInt8.ofNat (48 + n % 10)).toNat = 48 + n % 10 := by rw [UInt8.toNat_ofNat']; omega
          simp only [List.getElem_cons_zero, hd]
          simp [Addr.add])
      generalize hdd : UInt8.ofNat (48 + n % 10) = d at hcv
      have hsd : (⟨#[d]⟩ : ByteArray).size = 1 := rfl
      go_wp2_with fail
      obtain ⟨q1, q2, q3, q4⟩ := HH.out
      obtain ⟨f, rfl⟩ : ∃ g, f = g + 1 := ⟨f - 1, by
        rcases Nat.eq_zero_or_pos f with h | h
        · subst h; simp at q1; omega
        · omega⟩
      go_roundw
      case rel =>
        refine ⟨n / 10, f, ⟨#[d]⟩ ++ x, by simp, rfl, ⟨?_, ?_, ?_, ?_⟩, hb.alloc hb.size _⟩
        · rw [Nat.pow_succ] at q1; omega
        · omega
        · rw [ByteArray.size_append, hsd]; omega
        · rw [q4, digs, if_neg hn0, hdd, ByteArray.data_append]; simp
      case measure => simp [intOf]; omega
end Go.Proofs.YtmeopghhgpbhpaaDoor
