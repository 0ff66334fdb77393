/-
  The laws' szSelS: what passes has few fields, and no long text.
-/
import Derived.Test.YtmeopghhgpbhpaaDoorAFit
import Derived.Test.YtmeopghhgpbhpaaDoorABase
namespace Go.Proofs.YtmeopghhgpbhpaaDoor
set_option linter.unusedSimpArgs false
set_option linter.unusedVariables false
open Go.RowKit

/-- What szSel does with a field. -/
def SzOk2 (x : Se) : Prop := ∀ (w : World) (B : Nat) (v : Value) (left : Int), SeRep w (· < B) x v → B ≤ w.heap.size → 0 ≤ left → left ≤ 1048576 →
  Calls Tryd.prog 29 #[v, .int .i64 left] w fun e w' => ∃ y : Int, e = .returned (.int .i64 y) ∧ -1 ≤ y ∧ y ≤ left ∧ (0 ≤ y → x.al.size ≤ 1048576 ∧ x.name.size ≤ 1048576 ∧ ∀ f, y + cntSe f x ≤ left + 1 ∧ SmallS f x.kids) ∧ Below w.heap.size w w'

set_option maxHeartbeats 800000 in
theorem szSelS_two (ks : List Se) (IH : ∀ i, i < ks.length → SzOk2 (sth ks i)) (w : World) (B : Nat) (a : Option Addr) (c : Nat) (left : Int) (hK : SeReps w (· < B) ks a) (hB : B ≤ w.heap.size) (hl0 : 0 ≤ left) (hl1 : left ≤ 1048576) :
    Calls Tryd.prog 9 #[.slice a ks.length c, .int .i64 left] w fun e w' => ∃ y : Int, e = .returned (.int .i64 y) ∧ -1 ≤ y ∧ y ≤ left ∧ (0 ≤ y → y + ks.length ≤ left ∧ ∀ f, y + cntTo f ks ks.length ≤ left ∧ SmallS f ks) ∧ Below w.heap.size w w' := by
  obtain ⟨h3, C, hA, hr⟩ := hK
  by_cases hbig : left < ks.length
  · go_enter Tryd.func9, Tryd.ntmps9
    go_wp2_with fail
    go_ret
    exact ⟨-1, rfl, by omega, by omega, by omega, Below.refl _ _⟩
  · go_enter Tryd.func9, Tryd.ntmps9
    go_wp2_with fail
    go_loopw [1, 5] (fun l i wr => ∃ (k : Nat) (x : Int), k ≤ ks.length ∧ i = .int .i64 k ∧ l = .int .i64 x ∧ 0 ≤ x ∧ x + ks.length ≤ left ∧ Hid (∀ f, x + cntTo f ks k + ks.length ≤ left + k ∧ ∀ i, i < k → (sth ks i).al.size ≤ 1048576 ∧ (sth ks i).name.size ≤ 1048576 ∧ SmallS f (sth ks i).kids) ∧ Below w.heap.size w wr) (fun _ i _ => ks.length - (intOf i).toNat)
    case atStart => exact ⟨0, _, Nat.zero_le _, rfl, rfl, by omega, by omega, fun f => ⟨by simp [cntTo], fun i hi => by omega⟩, Below.refl _ _⟩
    case round =>
      obtain ⟨k, x, hk, rfl, rfl, hx0, hx1, HX, hbel⟩ := hrel
      by_cases hlt : k < ks.length
      · obtain ⟨b, off, rfl, hbB, hc⟩ := hA (by omega)
        have hck : ∀ j, j < 5 → wr.cell? ⟨b, off + k * 5 + j, none⟩ = some (C k j) := fun j hj => (hbel.cell (p := ⟨b, off + k * 5 + j, none⟩) (by show b < _; omega)).trans (hc k hlt j hj)
        have hc0 : wr.cell? ⟨b, off + k * 5, none⟩ = some (C k 0) := hck 0 (by omega)
        have hc1 := hck 1 (by omega)
        have hc2 := hck 2 (by omega)
        have hc3 := hck 3 (by omega)
        have hc4 := hck 4 (by omega)
        clear hck hc
        go_wp2_with (go_at_call 29; refine (IH k hlt _ B _ x ((hr k hlt).under (hbel.mono hB)) (by have := hbel.size; omega) hx0 (by omega)).mono ?_; rintro e w' ⟨y, rfl, hy0, hy1, hy2', hby⟩; have hy2 := hid_of hy2'; clear hy2')
        · go_ret
          exact ⟨-1, rfl, by omega, by omega, by omega, hbel.trans (hby.mono hbel.size)⟩
        · go_roundw
          case rel =>
            rename_i hy
            refine ⟨k + 1, y, by omega, by go_num, rfl, hy, by omega, fun f => ?_, hbel.trans (hby.mono hbel.size)⟩
            obtain ⟨g1, g2⟩ := HX.out f
            obtain ⟨g3, g4, g5⟩ := hy2.out hy
            refine ⟨by have := (g5 f).1; rw [cntTo_succ]; omega, fun i hi => ?_⟩
            by_cases e : i = k
            · subst e; exact ⟨g3, g4, (g5 f).2⟩
            · exact g2 i (by omega)
          case measure => simp [intOf]; omega
      · go_wp2_with fail
        go_ret
        have e : k = ks.length := by omega
        refine ⟨x, rfl, by omega, by omega, fun _ => ⟨by omega, fun f => ?_⟩, hbel⟩
        obtain ⟨g1, g2⟩ := HX.out f
        rw [e] at g1 g2
        refine ⟨by omega, ?_⟩
        cases f with
        | zero => trivial
        | succ f => exact fun i hi => ⟨(g2 i hi).1, (g2 i hi).2.1, ((HX.out f).2 i (by omega)).2.2⟩

set_option maxHeartbeats 400000 in
theorem szSel_step2 (s n : ByteArray) (o : Bool) (id : Int) (ks : List Se) (IH : ∀ i, i < ks.length → SzOk2 (sth ks i)) : SzOk2 (.mk s n o id ks) := by
  intro w B v left hR hB hl0 hl1
  obtain ⟨ka, kc, rfl, hs, hn, hK⟩ := hR.inv
  clear hR
  unfold maxLen at hs hn
  by_cases h1 : left < s.size
  · go_enter Tryd.func29, Tryd.ntmps29
    go_wp2_with fail
    go_ret
    exact ⟨-1, rfl, by omega, by omega, by omega, below_box _ _⟩
  by_cases h2 : left - s.size < n.size
  · go_enter Tryd.func29, Tryd.ntmps29
    go_wp2_with fail
    go_ret
    exact ⟨-1, rfl, by omega, by omega, by omega, below_box _ _⟩
  go_enter Tryd.func29, Tryd.ntmps29
  go_wp2_with (go_at_call 9; refine (szSelS_two ks IH _ B ka kc _ (hK.under ((below_box w _).mono hB)) (by simp; omega) (by omega) (by omega)).mono ?_; rintro e w' ⟨y, rfl, hy0, hy1, hy2', hb⟩; have hy2 := hid_of hy2'; clear hy2')
  · go_ret
    exact ⟨-1, rfl, by omega, by omega, by omega, (below_box w _).trans (hb.mono (by simp))⟩
  · go_ret
    refine ⟨y, rfl, by omega, by omega, fun h => ⟨by show s.size ≤ _; omega, by show n.size ≤ _; omega, fun f => ?_⟩, (below_box w _).trans (hb.mono (by simp))⟩
    obtain ⟨-, g2⟩ := hy2.out h
    refine ⟨?_, (g2 f).2⟩
    cases f with
    | zero => simp [cntSe]; omega
    | succ f => have := (g2 f).1; rw [cntSe_kids]; simp only; omega

theorem sz_all2 (m : Nat) : ∀ x : Se, SizeOf.sizeOf x < m → SzOk2 x := by
  induction m with
  | zero => intro x h; omega
  | succ m ih =>
    intro x h
    match x, h with
    | .mk s n o id ks, h => exact szSel_step2 s n o id ks fun i hi => ih _ (by have := sth_lt ks i hi; simp at h; omega)
theorem szSel_two (x : Se) : SzOk2 x := sz_all2 _ x (Nat.lt_succ_self _)
end Go.Proofs.YtmeopghhgpbhpaaDoor
