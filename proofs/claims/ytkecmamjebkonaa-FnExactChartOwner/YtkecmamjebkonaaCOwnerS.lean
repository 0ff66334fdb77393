/-
  The model's ChartOwner.
-/
import Derived.Test.YtkecmamjebkonaaCOwner
namespace Go.Proofs.Ytkecmamjebkonaa
set_option linter.unusedSimpArgs false
set_option linter.unusedVariables false
open Go.RowKit

theorem ints_none (w : World) (a : Option Addr) (lo hi : Nat) : WInts w lo hi ([] : List Int).length a := fun h => by simp at h

set_option maxHeartbeats 1600000 in
theorem ChartOwnerS_any (c : Ch) (s f : ByteArray) (w : World) (B : Nat) (v : Value) (hR : CRep w (· < B) c v) (hB : B ≤ w.heap.size) (hz : szC c ≤ 1048576) :
    Calls Try.prog 5 #[v, .string s, .string f] w fun e w' => IntsNew w w' (ownL c.owners s f) e := by
  obtain ⟨ta, oa, tc, oc, rfl, hP, hO, hoc⟩ := hR
  obtain ⟨⟨name, types⟩, owners⟩ := c
  simp only at hP hO hoc ⊢
  have hps := parts_small owners (by have : szC ⟨⟨name, types⟩, owners⟩ = szP ⟨name, types⟩ + szOs owners := rfl; omega)
  obtain ⟨h3, C, hA, hr⟩ := hO
  obtain ⟨i0, hi, hz0, hz1, hz2⟩ := info_parts info3
  clear hP
  go_enter Try.func5, Try.ntmps5
  go_wp2_with fail
  obtain ⟨W, hW⟩ : ∃ x, x = (w.alloc (.cells #[.string name, .slice ta types.length tc, .slice oa owners.length oc] 36)) := ⟨_, rfl⟩
  have bW : Below w.heap.size w W := by rw [hW]; exact below_box _ _
  have zW : w.heap.size < W.heap.size := by rw [hW]; simp
  have p2 : W.cell? ⟨w.heap.size, 2, none⟩ = some (.slice oa owners.length oc) := by rw [hW]; exact boxNew _ _ 2 (by simp)
  rw [← hW]
  clear hW
  go_loopw [7] (fun i wr => ∃ k : Nat, k ≤ owners.length ∧ i = .int .i64 k ∧ wr = W ∧ ∀ j, j < k → hitO owners s f j = false) (fun i _ => owners.length - (intOf i).toNat)
  case atStart => exact ⟨0, Nat.zero_le _, rfl, rfl, fun j hj => by omega⟩
  case round =>
    obtain ⟨k, hk, rfl, rfl, hno⟩ := hrel
    have HNO : Hid (∀ j, j < k → hitO owners s f j = false) := hno
    clear hno
    by_cases hlt : k < owners.length
    · have hki : (k : Int) < (owners.length : Int) := by omega
      obtain ⟨b, off, rfl, hbB, hc⟩ := hA (by omega)
      obtain ⟨fa, fc, e0, e1, e2, hI, -⟩ := (hr k hlt).pieces
      have hck : ∀ j, j < 3 → wr.cell? ⟨b, off + k * 3 + j, none⟩ = some (C k j) := fun j hj => (bW.cell (p := ⟨b, off + k * 3 + j, none⟩) (by show b < _; omega)).trans (hc k hlt j hj)
      have hc0 : wr.cell? ⟨b, off + k * 3, none⟩ = some (C k 0) := hck 0 (by omega)
      have hc1 : wr.cell? ⟨b, off + k * 3 + 1, none⟩ = some (C k 1) := hck 1 (by omega)
      have hc2 : wr.cell? ⟨b, off + k * 3 + 2, none⟩ = some (C k 2) := hck 2 (by omega)
      rw [e0] at hc0
      rw [e1] at hc1
      rw [e2] at hc2
      have hpk := hps k
      have HH : Hid (hitO owners s f k = ((oth owners k).type.toList == s.toList && (oth owners k).field.toList == f.toList)) := rfl
      clear hck hc hA hr e0 e1 e2
      cases h1 : ((oth owners k).type.toList == s.toList)
      · go_wp2_with fail
        go_roundw
        case rel => exact ⟨k + 1, by omega, by go_num, trivial, fun j hj => by
          by_cases e : j = k
          · rw [e, HH.out, h1]; rfl
          · exact HNO.out j (by omega)⟩
        case measure => simp [intOf]; omega
      · cases h2 : ((oth owners k).field.toList == f.toList)
        · go_wp2_with fail
          go_roundw
          case rel => exact ⟨k + 1, by omega, by go_num, trivial, fun j hj => by
            by_cases e : j = k
            · rw [e, HH.out, h1, h2]; rfl
            · exact HNO.out j (by omega)⟩
          case measure => simp [intOf]; omega
        · have HE : Hid (ownL owners s f = (oth owners k).parts) := ownL_hit HNO.out (by rw [HH.out, h1, h2]; rfl) hlt
          have bx := below_box wr (.cells #[] 3)
          have hc2x := (bx.cell (p := ⟨b, off + k * 3 + 2, none⟩) (by show b < _; omega)).trans hc2
          have p2x := (bx.cell (p := ⟨w.heap.size, 2, none⟩) (by show w.heap.size < _; omega)).trans p2
          have hw0 : Hid ((wr.alloc (.cells #[] 3)).ownsRow wr.heap.size 3 1 (.slice (some ⟨wr.heap.size, 0, none⟩) 0 0) 0 []) := ⟨rfl, .inr ⟨_, 0, #[], rfl, Nat.le_refl _, heap_alloc_new _ _, Nat.le_refl _, by simp, rfl, rfl⟩⟩
          by_cases hn0 : (oth owners k).parts.length = 0
          · have hns : (oth owners k).parts = [] := by simpa using hn0
            rw [hn0] at hc2 hc2x
            cases fa
            all_goals
              go_wp2_with fail
              go_ret
              exact ⟨_, _, by rw [HE.out, hns]; rfl, bW.trans (bx.mono (by omega)), by rw [HE.out, hns]; exact Ints.nil _ _ _, by rw [HE.out, hns]; exact ints_none _ _ _ _⟩
          · obtain ⟨b', off', rfl, hbB', hcc⟩ := hI.2 (by omega)
            have hcx : ∀ i, i < (oth owners k).parts.length → (wr.alloc (.cells #[] 3)).cell? ⟨b', off' + i, none⟩ = some (.int .i64 (ith (oth owners k).parts i)) := fun i hi => (bx.cell (p := ⟨b', off' + i, none⟩) (by show b' < _; omega)).trans ((bW.cell (p := ⟨b', off' + i, none⟩) (by show b' < _; omega)).trans (hcc i hi))
            clear hcc
            go_wp2_with (at_builtin; refine wpList_append_lies _ rfl _ _ 29 rfl wr.heap.size 3 i0 (.int .i64 0) 1 8 Try.underlying29 hi hz0 hz1 hz2 rfl (by decide) (.slice (some ⟨wr.heap.size, 0, none⟩) 0 0) 0 [] rfl hw0.out ⟨b', off', none⟩ (oth owners k).parts.length fc ((oth owners k).parts.map (Value.int .i64)) rfl (by simp) ?c1 ?c2 (by omega) ?c3 (by omega) (by simp) _ rfl ?_)
            case c1 =>
              intro j u hj
              obtain ⟨hj', rfl⟩ := ith_map _ j u hj
              rw [Addr.add_lit]
              exact hcx j hj'
            case c2 => intro u hu; simp at hu; obtain ⟨x, -, rfl⟩ := hu; rfl
            case c3 => unfold maxLen; omega
            intro g cap w1 hown hgrow hat hlt1
            have hbw := Below.grown (Below.refl wr.heap.size (wr.alloc (.cells #[] 3))) hgrow (by simp) (fun k hk => by simp [Value.ownBlock] at hk; omega)
            go_wp2_with fail
            go_ret
            have hS := ints_owned (base := wr.heap.size) (by simpa using hown) hI.1 hlt1
            refine ⟨some ⟨g, 0, none⟩, cap, ?_, (bW.trans (bx.mono (by omega))).trans (hbw.mono (by omega)), ?_, ?_⟩
            · rw [HE.out]; simp
            · rw [HE.out]; exact hS.1.sub fun x hx => by omega
            · rw [HE.out]; intro h0; obtain ⟨b2, o2, q1, q2, q3, q4⟩ := hS.2 h0; exact ⟨b2, o2, q1, by omega, q3, q4⟩
    · go_wp2_with fail
      go_ret
      have e : k = owners.length := by omega
      subst e
      have HE : ownL owners s f = [] := ownL_none HNO.out
      exact ⟨_, _, by rw [HE]; rfl, bW.trans ((below_box wr _).mono (by omega)), by rw [HE]; exact Ints.nil _ _ _, by rw [HE]; exact ints_none _ _ _ _⟩
end Go.Proofs.Ytkecmamjebkonaa
