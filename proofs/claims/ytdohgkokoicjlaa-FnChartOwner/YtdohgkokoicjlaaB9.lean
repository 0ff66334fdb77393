import Derived.Test.YtdohgkokoicjlaaB6
import Derived.Test.YtdohgkokoicjlaaB7
set_option linter.unusedSimpArgs false
set_option linter.unusedVariables false
namespace Go.Proofs.Ytdohgkokoicjlaa
open Go.RowKit
theorem upto_succ {q : Nat → Bool} {k : Nat} (h : ∀ j, j < k → q j = false) (hk : q k = false) : ∀ j, j < k + 1 → q j = false := fun j hj => by
  by_cases e : j = k
  · subst e; exact hk
  · exact h j (by omega)
def typeIx (p : Pt) (s : ByteArray) : Int := firstTo (fun i => (tth p.types i).name.toList == s.toList) p.types.length
def typeOr (p : Pt) (s : ByteArray) : T := if 0 ≤ typeIx p s then tth p.types (typeIx p s).toNat else T.zero
theorem FsRep.nil (w : World) (P : Nat → Prop) (a : Option Addr) : FsRep w P [] a := ⟨by simp, fun _ _ => undef, fun h => by simp at h, fun i hi => by simp at hi⟩
theorem TRep.zero (w : World) (P : Nat → Prop) : TRep w P T.zero (.agg #[.string ByteArray.empty, .string ByteArray.empty, .slice none 0 0]) :=
  ⟨none, 0, rfl, FsRep.nil _ _ _, Nat.le_refl _, by simp [T.zero, maxLen], by simp [T.zero, maxLen]⟩
theorem TRep.parts {w : World} {P : Nat → Prop} {t : T} {c0 c1 c2 : Value} (h : TRep w P t (.agg #[c0, c1, c2])) :
    ∃ (fa : Option Addr) (fc : Nat), c0 = .string t.name ∧ c1 = .string t.key ∧ c2 = .slice fa t.fields.length fc ∧ FsRep w P t.fields fa ∧ t.fields.length ≤ fc ∧ t.name.size ≤ maxLen ∧ t.key.size ≤ maxLen := by
  obtain ⟨fa, fc, hv, h2, h3, h4, h5⟩ := h
  simp only [Value.agg.injEq, Array.mk.injEq, List.cons.injEq, and_true] at hv
  exact ⟨fa, fc, hv.1, hv.2.1, hv.2.2, h2, h3, h4, h5⟩
theorem box_new {w : World} (cs : Array Value) (T : TypeId) (i : Nat) (hi : i < cs.size) : (w.alloc (.cells cs T)).cell? ⟨w.heap.size, i, none⟩ = some cs[i] := by
  rw [cell_of_row (w.alloc (.cells cs T)) w.heap.size i cs T (0, 0) (heap_alloc_new w _)]
  simp [hi]
theorem box_at {W : World} {b : Nat} {cs : Array Value} {T : TypeId} (h : W.heap[b]? = some (.cells cs T (0, 0))) (i : Nat) (hi : i < cs.size) : W.cell? ⟨b, i, none⟩ = some cs[i] ∧ W.frozen? ⟨b, i, none⟩ = false := by
  refine ⟨?_, frozen_of_row W b i cs T h⟩
  rw [cell_of_row W b i cs T (0, 0) h]
  simp [hi]
set_option maxHeartbeats 800000 in
theorem findType_any (p : Pt) (w : World) (B : Nat) (v : Value) (s : ByteArray) (hR : PRep w (· < B) p v) (hB : B ≤ w.heap.size) :
    Calls Try.prog 23 #[v, .string s] w fun e w' => ∃ (nm ky : ByteArray) (fa : Option Addr) (fl fc : Nat), e = .returned (.tuple #[.agg #[.string nm, .string ky, .slice fa fl fc], .bool (decide (0 ≤ typeIx p s))]) ∧ Below w.heap.size w w' ∧
      TRep w' (· < B) (typeOr p s) (.agg #[.string nm, .string ky, .slice fa fl fc]) := by
  obtain ⟨name, types⟩ := p
  obtain ⟨ta, tc, rfl, hK, hnc, hn⟩ := hR
  simp only at hK hnc hn
  have h3 := hK.1
  obtain ⟨-, C, hA, hr⟩ := hK
  go_enter Try.func23, Try.ntmps23
  go_wp2_with fail
  go_loopw [11] (fun i wr => ∃ k : Nat, k ≤ types.length ∧ i = .int .i64 k ∧ Below (w.heap.size + 1 + 1) ((w.alloc (.cells #[.string name, .slice ta types.length tc] 25)).alloc (.cells #[.string ByteArray.empty, .string ByteArray.empty, .slice none 0 0] 48)) wr ∧ ∀ j, j < k → ((tth types j).name.toList == s.toList) = false) (fun i _ => types.length - (intOf i).toNat)
  case atStart => exact ⟨0, Nat.zero_le _, rfl, Below.refl _ _, fun j hj => by omega⟩
  case round =>
    obtain ⟨k, hk, rfl, hbel, hp⟩ := hrel
    have HP : Hid (∀ j, j < k → ((tth types j).name.toList == s.toList) = false) := hp
    clear hp
    have hz := hbel.size
    simp at hz
    have hbw : Below w.heap.size w wr := (below_box2 w _ _).trans (hbel.mono (by omega))
    have hrow : wr.heap[w.heap.size + 1]? = some (.cells #[.string ByteArray.empty, .string ByteArray.empty, .slice none 0 0] 48 (0, 0)) := by
      rw [hbel.block _ (by omega)]
      have := heap_alloc_new (w.alloc (.cells #[.string name, .slice ta types.length tc] 25)) (.cells #[.string ByteArray.empty, .string ByteArray.empty, .slice none 0 0] 48)
      simpa using this
    obtain ⟨r0, f0⟩ := box_at hrow 0 (by simp)
    obtain ⟨r1, f1⟩ := box_at hrow 1 (by simp)
    obtain ⟨r2, f2⟩ := box_at hrow 2 (by simp)
    simp at r0 r1 r2
    by_cases hlt : k < types.length
    · obtain ⟨b, off, rfl, hbB, hc⟩ := hA (by omega)
      have hck : ∀ j, j < 3 → wr.cell? ⟨b, off + k * 3 + j, none⟩ = some (C k j) := fun j hj => (hbw.cell (p := ⟨b, off + k * 3 + j, none⟩) (by show b < _; omega)).trans (hc k hlt j hj)
      have hrk := hr k hlt
      have hkt := hrk
      obtain ⟨fa, fc, e0, e1, e2, hfs, hfc, hs1, hs2⟩ := hrk.parts
      have c0 : wr.cell? ⟨b, off + k * 3, none⟩ = some (C k 0) := hck 0 (by omega)
      have c1 := hck 1 (by omega)
      have c2 := hck 2 (by omega)
      rw [e0] at c0 hkt
      rw [e1] at c1 hkt
      rw [e2] at c2 hkt
      clear hck hc hr hA e0 e1 e2
      cases he : ((tth types k).name.toList == s.toList)
      · go_wp2_with fail
        go_roundw
        case rel => exact ⟨k + 1, by omega, by go_num, hbel.alloc (by omega) _, upto_succ HP.out he⟩
        case measure => simp [intOf]; omega
      · have hix : typeIx ⟨name, types⟩ s = (k : Int) := firstTo_hit HP.out he hlt
        have hne1 : w.heap.size + 1 ≠ wr.heap.size := by omega
        have hne2 : wr.heap.size ≠ w.heap.size + 1 := by omega
        have HIX : Hid (typeIx ⟨name, types⟩ s = (k : Int)) := hix
        clear hix
        have A0 : ∀ o, (wr.alloc o).cell? ⟨w.heap.size + 1, 0, none⟩ = some (.string ByteArray.empty) := fun o => ((below_box wr o).cell (p := ⟨w.heap.size + 1, 0, none⟩) (by show w.heap.size + 1 < _; omega)).trans r0
        have A1 : ∀ o, (wr.alloc o).cell? ⟨w.heap.size + 1, 1, none⟩ = some (.string ByteArray.empty) := fun o => ((below_box wr o).cell (p := ⟨w.heap.size + 1, 1, none⟩) (by show w.heap.size + 1 < _; omega)).trans r1
        have A2 : ∀ o, (wr.alloc o).cell? ⟨w.heap.size + 1, 2, none⟩ = some (.slice none 0 0) := fun o => ((below_box wr o).cell (p := ⟨w.heap.size + 1, 2, none⟩) (by show w.heap.size + 1 < _; omega)).trans r2
        have AF : ∀ o i, (wr.alloc o).frozen? ⟨w.heap.size + 1, i, none⟩ = false := fun o i => ((below_box wr o).frozen (p := ⟨w.heap.size + 1, i, none⟩) (by show w.heap.size + 1 < _; omega)).trans (frozen_of_row wr _ i _ _ hrow)
        go_wp2_with fail
        have hbf : Below w.heap.size w ((((wr.alloc (.cells #[.string (tth types k).name, .string (tth types k).key, .slice fa (tth types k).fields.length fc] 48)).setCell ⟨w.heap.size + 1, 0, none⟩ (.string (tth types k).name)).setCell ⟨w.heap.size + 1, 1, none⟩ (.string (tth types k).key)).setCell ⟨w.heap.size + 1, 2, none⟩ (.slice fa (tth types k).fields.length fc)) :=
          (((hbw.alloc (by omega) _).setCell (by show w.heap.size ≤ w.heap.size + 1; omega) _).setCell (by show w.heap.size ≤ w.heap.size + 1; omega) _).setCell (by show w.heap.size ≤ w.heap.size + 1; omega) _
        refine bodyPost_ret (v := .tuple #[.agg #[.string (tth types k).name, .string (tth types k).key, .slice fa (tth types k).fields.length fc], .bool true]) ?res rfl ⟨(tth types k).name, (tth types k).key, fa, (tth types k).fields.length, fc, by rw [HIX.out]; simp, hbf, ?_⟩
        case res =>
          clear hbf hkt hfs hbw hbel HP
          simp [results, Try.results23, go_sem, A0, A1, A2, AF]
        rw [typeOr, if_pos (by rw [HIX.out]; omega), HIX.out]
        exact hkt.under (hbf.mono hB)
    · have hix : typeIx ⟨name, types⟩ s = -1 := firstTo_none ((show k = types.length by omega) ▸ HP.out)
      have HIX : Hid (typeIx ⟨name, types⟩ s = -1) := hix
      clear hix
      go_wp2_with fail
      refine bodyPost_ret (v := .tuple #[.agg #[.string ByteArray.empty, .string ByteArray.empty, .slice none 0 0], .bool false]) ?res rfl ⟨ByteArray.empty, ByteArray.empty, none, 0, 0, by rw [HIX.out]; simp, ((hbw.setCell (by show w.heap.size ≤ w.heap.size + 1; omega) _).setCell (by show w.heap.size ≤ w.heap.size + 1; omega) _).setCell (by show w.heap.size ≤ w.heap.size + 1; omega) _, ?_⟩
      case res =>
        clear hbw hbel HP hA hr
        simp [results, Try.results23, go_sem, r0, r1, r2]
        rfl
      rw [typeOr, if_neg (by rw [HIX.out]; omega)]
      exact TRep.zero _ _
def fieldOr (t : T) (s : ByteArray) : F := if 0 ≤ fieldIx t s then fth t.fields (fieldIx t s).toNat else F.zero
theorem FRep.zero (w : World) (P : Nat → Prop) : FRep w P F.zero (.agg #[.string ByteArray.empty, .string ByteArray.empty, .bool false, .bool false, .bool false, .bool false, .bool false, .slice none 0 0]) :=
  ⟨none, 0, rfl, ⟨fun h => absurd rfl h, fun i => by simp [F.zero, nth, maxLen], by simp [F.zero, maxLen]⟩, Nat.le_refl _, by simp [F.zero, maxLen], by simp [F.zero, maxLen], by simp [F.zero]⟩
set_option maxHeartbeats 1600000 in
theorem findField_any (t : T) (w : World) (B : Nat) (v : Value) (s : ByteArray) (hR : TRep w (· < B) t v) (hB : B ≤ w.heap.size) :
    Calls Try.prog 24 #[v, .string s] w fun e w' => ∃ (nm of : ByteArray) (l m fr hi sh : Bool) (na : Option Addr) (nl nc : Nat), e = .returned (.tuple #[.agg #[.string nm, .string of, .bool l, .bool m, .bool fr, .bool hi, .bool sh, .slice na nl nc], .bool (decide (0 ≤ fieldIx t s))]) ∧ Below w.heap.size w w' ∧
      FRep w' (· < B) (fieldOr t s) (.agg #[.string nm, .string of, .bool l, .bool m, .bool fr, .bool hi, .bool sh, .slice na nl nc]) := by
  obtain ⟨name, key, fields⟩ := t
  obtain ⟨ta, tc, rfl, hK, hnc, hn, hn2⟩ := hR
  simp only at hK hnc hn hn2
  have h3 := hK.1
  obtain ⟨-, C, hA, hr⟩ := hK
  go_enter Try.func24, Try.ntmps24
  go_wp2_with fail
  go_loopw [11] (fun i wr => ∃ k : Nat, k ≤ fields.length ∧ i = .int .i64 k ∧ Below (w.heap.size + 1 + 1) ((w.alloc (.cells #[.string name, .string key, .slice ta fields.length tc] 48)).alloc (.cells #[.string ByteArray.empty, .string ByteArray.empty, .bool false, .bool false, .bool false, .bool false, .bool false, .slice none 0 0] 37)) wr ∧ ∀ j, j < k → ((fth fields j).name.toList == s.toList) = false) (fun i _ => fields.length - (intOf i).toNat)
  case atStart => exact ⟨0, Nat.zero_le _, rfl, Below.refl _ _, fun j hj => by omega⟩
  case round =>
    obtain ⟨k, hk, rfl, hbel, hp⟩ := hrel
    have HP : Hid (∀ j, j < k → ((fth fields j).name.toList == s.toList) = false) := hp
    clear hp
    have hz := hbel.size
    simp at hz
    have hbw : Below w.heap.size w wr := (below_box2 w _ _).trans (hbel.mono (by omega))
    have hrow : wr.heap[w.heap.size + 1]? = some (.cells #[.string ByteArray.empty, .string ByteArray.empty, .bool false, .bool false, .bool false, .bool false, .bool false, .slice none 0 0] 37 (0, 0)) := by
      rw [hbel.block _ (by omega)]
      have := heap_alloc_new (w.alloc (.cells #[.string name, .string key, .slice ta fields.length tc] 48)) (.cells #[.string ByteArray.empty, .string ByteArray.empty, .bool false, .bool false, .bool false, .bool false, .bool false, .slice none 0 0] 37)
      simpa using this
    have r0 : wr.cell? ⟨w.heap.size + 1, 0, none⟩ = some (.string ByteArray.empty) := (box_at hrow 0 (by simp)).1
    have r1 : wr.cell? ⟨w.heap.size + 1, 1, none⟩ = some (.string ByteArray.empty) := (box_at hrow 1 (by simp)).1
    have r2 : wr.cell? ⟨w.heap.size + 1, 2, none⟩ = some (.bool false) := (box_at hrow 2 (by simp)).1
    have r3 : wr.cell? ⟨w.heap.size + 1, 3, none⟩ = some (.bool false) := (box_at hrow 3 (by simp)).1
    have r4 : wr.cell? ⟨w.heap.size + 1, 4, none⟩ = some (.bool false) := (box_at hrow 4 (by simp)).1
    have r5 : wr.cell? ⟨w.heap.size + 1, 5, none⟩ = some (.bool false) := (box_at hrow 5 (by simp)).1
    have r6 : wr.cell? ⟨w.heap.size + 1, 6, none⟩ = some (.bool false) := (box_at hrow 6 (by simp)).1
    have r7 : wr.cell? ⟨w.heap.size + 1, 7, none⟩ = some (.slice none 0 0) := (box_at hrow 7 (by simp)).1
    have rf : ∀ i, wr.frozen? ⟨w.heap.size + 1, i, none⟩ = false := fun i => frozen_of_row wr _ i _ _ hrow
    by_cases hlt : k < fields.length
    · obtain ⟨b, off, rfl, hbB, hc⟩ := hA (by omega)
      have hck : ∀ j, j < 8 → wr.cell? ⟨b, off + k * 8 + j, none⟩ = some (C k j) := fun j hj => (hbw.cell (p := ⟨b, off + k * 8 + j, none⟩) (by show b < _; omega)).trans (hc k hlt j hj)
      have hkt := hr k hlt
      obtain ⟨e0, e1, e2, e3, e4, e5, e6, na, nc, e7, -⟩ := (hr k hlt).parts
      have c0 : wr.cell? ⟨b, off + k * 8, none⟩ = some (C k 0) := hck 0 (by omega)
      have c1 := hck 1 (by omega)
      have c2 := hck 2 (by omega)
      have c3 := hck 3 (by omega)
      have c4 := hck 4 (by omega)
      have c5 := hck 5 (by omega)
      have c6 := hck 6 (by omega)
      have c7 := hck 7 (by omega)
      rw [e0] at c0 hkt
      rw [e1] at c1 hkt
      rw [e2] at c2 hkt
      rw [e3] at c3 hkt
      rw [e4] at c4 hkt
      rw [e5] at c5 hkt
      rw [e6] at c6 hkt
      rw [e7] at c7 hkt
      clear hck hc hr hA e0 e1 e2 e3 e4 e5 e6 e7
      cases he : ((fth fields k).name.toList == s.toList)
      · go_wp2_with fail
        go_roundw
        case rel => exact ⟨k + 1, by omega, by go_num, hbel.alloc (by omega) _, upto_succ HP.out he⟩
        case measure => simp [intOf]; omega
      · have hix : fieldIx ⟨name, key, fields⟩ s = (k : Int) := firstTo_hit HP.out he hlt
        have HIX : Hid (fieldIx ⟨name, key, fields⟩ s = (k : Int)) := hix
        clear hix
        have A0 : ∀ o, (wr.alloc o).cell? ⟨w.heap.size + 1, 0, none⟩ = some (.string ByteArray.empty) := fun o => ((below_box wr o).cell (p := ⟨w.heap.size + 1, 0, none⟩) (by show w.heap.size + 1 < _; omega)).trans r0
        have A1 : ∀ o, (wr.alloc o).cell? ⟨w.heap.size + 1, 1, none⟩ = some (.string ByteArray.empty) := fun o => ((below_box wr o).cell (p := ⟨w.heap.size + 1, 1, none⟩) (by show w.heap.size + 1 < _; omega)).trans r1
        have A2 : ∀ o, (wr.alloc o).cell? ⟨w.heap.size + 1, 2, none⟩ = some (.bool false) := fun o => ((below_box wr o).cell (p := ⟨w.heap.size + 1, 2, none⟩) (by show w.heap.size + 1 < _; omega)).trans r2
        have A3 : ∀ o, (wr.alloc o).cell? ⟨w.heap.size + 1, 3, none⟩ = some (.bool false) := fun o => ((below_box wr o).cell (p := ⟨w.heap.size + 1, 3, none⟩) (by show w.heap.size + 1 < _; omega)).trans r3
        have A4 : ∀ o, (wr.alloc o).cell? ⟨w.heap.size + 1, 4, none⟩ = some (.bool false) := fun o => ((below_box wr o).cell (p := ⟨w.heap.size + 1, 4, none⟩) (by show w.heap.size + 1 < _; omega)).trans r4
        have A5 : ∀ o, (wr.alloc o).cell? ⟨w.heap.size + 1, 5, none⟩ = some (.bool false) := fun o => ((below_box wr o).cell (p := ⟨w.heap.size + 1, 5, none⟩) (by show w.heap.size + 1 < _; omega)).trans r5
        have A6 : ∀ o, (wr.alloc o).cell? ⟨w.heap.size + 1, 6, none⟩ = some (.bool false) := fun o => ((below_box wr o).cell (p := ⟨w.heap.size + 1, 6, none⟩) (by show w.heap.size + 1 < _; omega)).trans r6
        have A7 : ∀ o, (wr.alloc o).cell? ⟨w.heap.size + 1, 7, none⟩ = some (.slice none 0 0) := fun o => ((below_box wr o).cell (p := ⟨w.heap.size + 1, 7, none⟩) (by show w.heap.size + 1 < _; omega)).trans r7
        have AF : ∀ o i, (wr.alloc o).frozen? ⟨w.heap.size + 1, i, none⟩ = false := fun o i => ((below_box wr o).frozen (p := ⟨w.heap.size + 1, i, none⟩) (by show w.heap.size + 1 < _; omega)).trans (rf i)
        go_wp2_with fail
        have hbf : Below w.heap.size w (((((((((wr.alloc (.cells #[.string (fth fields k).name, .string (fth fields k).of, .bool (fth fields k).list, .bool (fth fields k).must, .bool (fth fields k).far, .bool (fth fields k).hidden, .bool (fth fields k).shared, .slice na (fth fields k).needs.length nc] 37)).setCell ⟨w.heap.size + 1, 0, none⟩ (.string (fth fields k).name)).setCell ⟨w.heap.size + 1, 1, none⟩ (.string (fth fields k).of)).setCell ⟨w.heap.size + 1, 2, none⟩ (.bool (fth fields k).list)).setCell ⟨w.heap.size + 1, 3, none⟩ (.bool (fth fields k).must)).setCell ⟨w.heap.size + 1, 4, none⟩ (.bool (fth fields k).far)).setCell ⟨w.heap.size + 1, 5, none⟩ (.bool (fth fields k).hidden)).setCell ⟨w.heap.size + 1, 6, none⟩ (.bool (fth fields k).shared)).setCell ⟨w.heap.size + 1, 7, none⟩ (.slice na (fth fields k).needs.length nc)) := ((((((((hbw.alloc (by omega) _).setCell (by show w.heap.size ≤ w.heap.size + 1; omega) _).setCell (by show w.heap.size ≤ w.heap.size + 1; omega) _).setCell (by show w.heap.size ≤ w.heap.size + 1; omega) _).setCell (by show w.heap.size ≤ w.heap.size + 1; omega) _).setCell (by show w.heap.size ≤ w.heap.size + 1; omega) _).setCell (by show w.heap.size ≤ w.heap.size + 1; omega) _).setCell (by show w.heap.size ≤ w.heap.size + 1; omega) _).setCell (by show w.heap.size ≤ w.heap.size + 1; omega) _
        refine bodyPost_ret (v := .tuple #[.agg #[.string (fth fields k).name, .string (fth fields k).of, .bool (fth fields k).list, .bool (fth fields k).must, .bool (fth fields k).far, .bool (fth fields k).hidden, .bool (fth fields k).shared, .slice na (fth fields k).needs.length nc], .bool true]) ?res rfl ⟨(fth fields k).name, (fth fields k).of, (fth fields k).list, (fth fields k).must, (fth fields k).far, (fth fields k).hidden, (fth fields k).shared, na, (fth fields k).needs.length, nc, by rw [HIX.out]; simp, hbf, ?_⟩
        case res =>
          clear hbf hkt hbw hbel HP
          simp [results, Try.results24, go_sem, A0, A1, A2, A3, A4, A5, A6, A7, AF]
        rw [fieldOr, if_pos (by rw [HIX.out]; omega), HIX.out]
        exact hkt.under (hbf.mono hB)
    · have hix : fieldIx ⟨name, key, fields⟩ s = -1 := firstTo_none ((show k = fields.length by omega) ▸ HP.out)
      have HIX : Hid (fieldIx ⟨name, key, fields⟩ s = -1) := hix
      clear hix
      go_wp2_with fail
      refine bodyPost_ret (v := .tuple #[.agg #[.string ByteArray.empty, .string ByteArray.empty, .bool false, .bool false, .bool false, .bool false, .bool false, .slice none 0 0], .bool false]) ?res rfl ⟨ByteArray.empty, ByteArray.empty, false, false, false, false, false, none, 0, 0, by rw [HIX.out]; simp, ((((((((hbw).setCell (by show w.heap.size ≤ w.heap.size + 1; omega) _).setCell (by show w.heap.size ≤ w.heap.size + 1; omega) _).setCell (by show w.heap.size ≤ w.heap.size + 1; omega) _).setCell (by show w.heap.size ≤ w.heap.size + 1; omega) _).setCell (by show w.heap.size ≤ w.heap.size + 1; omega) _).setCell (by show w.heap.size ≤ w.heap.size + 1; omega) _).setCell (by show w.heap.size ≤ w.heap.size + 1; omega) _).setCell (by show w.heap.size ≤ w.heap.size + 1; omega) _, ?_⟩
      case res =>
        clear hbw hbel HP hA hr
        simp [results, Try.results24, go_sem, r0, r1, r2, r3, r4, r5, r6, r7]
        rfl
      rw [fieldOr, if_neg (by rw [HIX.out]; omega)]
      exact FRep.zero _ _
end Go.Proofs.Ytdohgkokoicjlaa
namespace Go.Proofs.Ytdohgkokoicjlaa
open Go.RowKit
def needHead (t : T) (f : F) : Bool := isT f.of [105, 110, 116] && !f.list && !f.far && !f.must && !t.key.toList.isEmpty && !(f.name.toList == t.key.toList)
def needed (g : F) : Bool := !decide (0 < (g.needs.length : Int)) && isT g.of [105, 110, 116] && !g.list
def needAt (t : T) (f : F) (i : Nat) : Bool := decide (0 ≤ fieldIx t (nth f.needs i)) && needed (fth t.fields (fieldIx t (nth f.needs i)).toNat) && (i == 0 || Op.bytesLess (nth f.needs (i - 1)).toList (nth f.needs i).toList)
def needTo (t : T) (f : F) (n : Nat) : Bool := (List.range n).all fun i => needAt t f i
theorem needTo_succ (t : T) (f : F) (n : Nat) : needTo t f (n + 1) = (needTo t f n && needAt t f n) := by simp [needTo, List.range_succ]
theorem needTo_false (t : T) (f : F) (n k : Nat) (hk : k < n) (h : needAt t f k = false) : needTo t f n = false := by
  rw [needTo, List.all_eq_false]; exact ⟨k, by simpa using hk, by simpa using h⟩
def needsB (t : T) (f : F) : Bool := (f.needs.isEmpty || needHead t f) && needTo t f f.needs.length
set_option maxHeartbeats 1600000 in
theorem l2Needs_none (t : T) (f : F) (w : World) (v u : Value) (B : Nat) (hR : TRep w (· < B) t v) (hF : FRep w (· < B) f u) (hB : B ≤ w.heap.size) (h0 : f.needs = []) :
    Calls Try.prog 49 #[v, u] w fun e w' => e = .returned (.bool (needsB t f)) ∧ Below w.heap.size w w' := by
  obtain ⟨tn, key, fields⟩ := t
  obtain ⟨fa, fc, rfl, hK, -⟩ := hR
  obtain ⟨na, nc, rfl, -⟩ := hF
  obtain ⟨name, of, l, m, fr, hi, sh, needs⟩ := f
  simp only at h0
  subst h0
  go_enter Try.func49, Try.ntmps49
  go_wp2_with fail
  go_loop [5, 6] (fun i _ => i = .int .i64 0) (fun _ _ => 0)
  case atStart => rfl
  case round =>
    subst hrel
    go_wp2_with fail
    go_ret
    exact ⟨ret_bool (by simp [needsB, needTo]), below_box2 _ _ _⟩
set_option maxHeartbeats 1600000 in
theorem l2Needs_head (t : T) (f : F) (w : World) (v u : Value) (B : Nat) (hR : TRep w (· < B) t v) (hF : FRep w (· < B) f u) (hB : B ≤ w.heap.size) (h0 : 0 < f.needs.length) (hh : needHead t f = false) :
    Calls Try.prog 49 #[v, u] w fun e w' => e = .returned (.bool (needsB t f)) ∧ Below w.heap.size w w' := by
  have hb : Hid (needsB t f = false) := by
    show _ = _
    have : f.needs.isEmpty = false := by cases h : f.needs with
      | nil => simp [h] at h0
      | cons a b => rfl
    simp only [needsB, this, hh]; rfl
  obtain ⟨tn, key, fields⟩ := t
  obtain ⟨fa, fc, rfl, hK, -⟩ := hR
  obtain ⟨na, nc, rfl, -⟩ := hF
  obtain ⟨name, of, l, m, fr, hi, sh, needs⟩ := f
  simp only at h0
  have h0' : (0 : Int) < (needs.length : Int) := by omega
  simp only [needHead, isT] at hh
  cases h1 : (of.toList == [105, 110, 116])
  case false =>
    clear hh
    go_enter Try.func49, Try.ntmps49
    go_wp2_with fail
    go_ret
    exact ⟨ret_bool hb.out.symm, below_box2 _ _ _⟩
  cases l
  case true =>
    clear hh
    go_enter Try.func49, Try.ntmps49
    go_wp2_with fail
    go_ret
    exact ⟨ret_bool hb.out.symm, below_box2 _ _ _⟩
  cases fr
  case true =>
    clear hh
    go_enter Try.func49, Try.ntmps49
    go_wp2_with fail
    go_ret
    exact ⟨ret_bool hb.out.symm, below_box2 _ _ _⟩
  cases m
  case true =>
    clear hh
    go_enter Try.func49, Try.ntmps49
    go_wp2_with fail
    go_ret
    exact ⟨ret_bool hb.out.symm, below_box2 _ _ _⟩
  cases h2 : key.toList.isEmpty
  case true =>
    clear hh
    go_enter Try.func49, Try.ntmps49
    go_wp2_with fail
    go_ret
    exact ⟨ret_bool hb.out.symm, below_box2 _ _ _⟩
  have h3 : (name.toList == key.toList) = true := by
    rw [h1, h2] at hh; simpa using hh
  clear hh
  go_enter Try.func49, Try.ntmps49
  go_wp2_with fail
  go_ret
  exact ⟨ret_bool hb.out.symm, below_box2 _ _ _⟩
end Go.Proofs.Ytdohgkokoicjlaa
