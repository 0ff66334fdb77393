/-
  Where a type stands, by the program.
-/
import Derived.Test.YtjpabpkfdahdhaaGreatSFit2
import Derived.Laws.EntriesVeiled
namespace Go.Proofs.YtjpabpkfdahdhaaGreat
set_option linter.unusedSimpArgs false
set_option linter.unusedVariables false
open Go.RowKit

theorem cell_block' {w : World} {t : Addr} {old : Value} (h : w.cell? t = some old) : t.block < w.heap.size := by
  rcases Nat.lt_or_ge t.block w.heap.size with h1 | h1
  · exact h1
  · simp [World.cell?, Array.getElem?_eq_none h1] at h

/-- The closure of typePlace. -/
theorem typePlace1_any (t : T) (s : ByteArray) (cb : Nat) (w : World) (B : Nat) (u : Value) (hT : TRep w (· < B) t u) (hc : w.cell? ⟨cb, 0, none⟩ = some (.string s)) :
    Calls Tryz.prog 70 #[u, .pointer (some ⟨cb, 0, none⟩)] w fun e w' => e = .returned (.bool (t.name.toList == s.toList)) ∧ Below w.heap.size w w' := by
  obtain ⟨fa, fc, rfl, -⟩ := hT
  have hcb := cell_block' hc
  have hc' := fun o => ((below_box w o).cell (p := ⟨cb, 0, none⟩) hcb).trans hc
  go_enter Tryz.func70, Tryz.ntmps70
  go_wp2_with fail
  go_ret
  exact ⟨rfl, below_box _ _⟩

set_option maxHeartbeats 800000 in
theorem indexType_any (types : List T) (s : ByteArray) (cb : Nat) (w : World) (B : Nat) (ta : Option Addr) (tc : Nat) (hK : TsRep w (· < B) types ta) (hB : B ≤ w.heap.size) (hcell : w.cell? ⟨cb, 0, none⟩ = some (.string s)) :
    Calls Tryz.prog 69 #[.slice ta types.length tc, .func (.func 70) #[] #[.pointer (some ⟨cb, 0, none⟩)]] w fun e w' =>
      e = .returned (.int .i64 (firstTo (fun i => (tth types i).name.toList == s.toList) types.length)) ∧ Below w.heap.size w w' := by
  have h3 := hK.1
  go_enter Tryz.func69, Tryz.ntmps69
  go_wp2_with fail
  go_loopw [5, 8] (fun _ i wr => ∃ k : Nat, k ≤ types.length ∧ i = .int .i64 k ∧ Below w.heap.size w wr ∧ ∀ j, j < k → ((tth types j).name.toList == s.toList) = false) (fun _ i _ => types.length - (intOf i).toNat)
  case atStart => exact ⟨0, Nat.zero_le _, rfl, Below.refl _ _, fun j hj => by omega⟩
  case round =>
    obtain ⟨k, hk, rfl, hbel, hp⟩ := hrel
    obtain ⟨w0, rfl⟩ : ∃ x, x = wr := ⟨wr, rfl⟩
    have HP : Hid (∀ j, j < k → ((tth types j).name.toList == s.toList) = false) := hp
    clear hp
    by_cases hlt : k < types.length
    · have hki : (k : Int) < (types.length : Int) := by omega
      obtain ⟨b, off, fa, fc, rfl, hTR, hcs⟩ := hK.at hB k hlt
      obtain ⟨c0, c1, c2⟩ := hcs w0 hbel
      have hC := typePlace1_any (tth types k) s cb w0 B _ (hTR.under (hbel.mono hB)) ((hbel.cell (p := ⟨cb, 0, none⟩) (cell_block' hcell)).trans hcell)
      clear hcs
      have z0 := hbel.size
      cases x1 : ((tth types k).name.toList == s.toList)
      · rw [x1] at hC
        go_wp2_with (go_at_call 70; refine hC.mono ?_; rintro e w1 ⟨rfl, hb1⟩)
        go_roundw
        case rel => exact ⟨k + 1, by omega, by go_num, hbel.trans (hb1.mono z0), fun j hj => by
          by_cases e : j = k
          · rw [e]; exact x1
          · exact HP.out j (by omega)⟩
        case measure => simp [intOf]; omega
      · rw [x1] at hC
        have HE : Hid (firstTo (fun i => (tth types i).name.toList == s.toList) types.length = (k : Int)) := firstTo_hit HP.out x1 hlt
        go_wp2_with (go_at_call 70; refine hC.mono ?_; rintro e w1 ⟨rfl, hb1⟩)
        go_ret
        exact ⟨ret_int HE.out.symm, hbel.trans (hb1.mono z0)⟩
    · go_wp2_with fail
      go_ret
      have e : k = types.length := by omega
      exact ⟨ret_int (firstTo_none (e ▸ HP.out)).symm, hbel⟩

theorem typePlace_any (p : Pt) (s : ByteArray) (w : World) (B : Nat) (v : Value) (hP : PRep w (· < B) p v) (hB : B ≤ w.heap.size) :
    Calls Tryz.prog 37 #[v, .string s] w fun e w' => e = .returned (.int .i64 (tIx p s)) ∧ Below w.heap.size w w' := by
  obtain ⟨name, types⟩ := p
  obtain ⟨ta, tc, rfl, hK, -⟩ := hP
  have hcb : ∀ o, ((w.alloc o).alloc (.cells #[.string s] 9)).cell? ⟨w.heap.size + 1, 0, none⟩ = some (.string s) := fun o => by
    have := box_new (w := w.alloc o) #[Value.string s] 9 0 (by simp)
    rw [show (w.alloc o).heap.size = w.heap.size + 1 by simp] at this
    exact this
  have hI := fun o => indexType_any types s (w.heap.size + 1) ((w.alloc o).alloc (.cells #[.string s] 9)) B ta tc (hK.under ((below_box2 w _ _).mono hB)) (by simp; omega) (hcb o)
  go_enter Tryz.func37, Tryz.ntmps37
  go_wp2_with (go_at_call 69; refine (hI _).mono ?_; rintro e w1 ⟨rfl, hb1⟩)
  go_ret
  exact ⟨rfl, (below_box2 w _ _).trans (hb1.mono (by simp; omega))⟩
end Go.Proofs.YtjpabpkfdahdhaaGreat
