/-
  The fields that a part knows itself, by the program.
-/
import Derived.Test.YtjpabpkfdahdhaaGreatSPlace
import Derived.Deep.AppendLies
import Derived.Laws.AppendOwnNone
namespace Go.Proofs.YtjpabpkfdahdhaaGreat
set_option linter.unusedSimpArgs false
set_option linter.unusedVariables false
open Go.RowKit

/-- Fields that a call gathers itself. -/
def OwnFs (w : World) (lo B : Nat) (fs : List F) (v : Value) (xs : List Value) : Prop :=
  w.ownsRow lo 73 8 v fs.length xs ∧ ∀ i, i < fs.length → FRep w (· < B) (fth fs i) (.agg #[xs.getD (i * 8) undef, xs.getD (i * 8 + 1) undef, xs.getD (i * 8 + 2) undef, xs.getD (i * 8 + 3) undef, xs.getD (i * 8 + 4) undef, xs.getD (i * 8 + 5) undef, xs.getD (i * 8 + 6) undef, xs.getD (i * 8 + 7) undef])
theorem OwnFs.nil (w : World) (lo B : Nat) : OwnFs w lo B [] (.slice none 0 0) [] := ⟨World.ownsRow_nil _ _ _ _, fun i hi => by simp at hi⟩
theorem OwnFs.put {w1 w3 : World} {lo B : Nat} {fs : List F} {v u : Value} {xs : List Value} {f : F} {d0 d1 d2 d3 d4 d5 d6 d7 : Value} (h : OwnFs w1 lo B fs v xs) (hf : FRep w1 (· < B) f (.agg #[d0, d1, d2, d3, d4, d5, d6, d7])) (hb : Below B w1 w3)
    (hown : w3.ownsRow lo 73 8 u (fs.length + 1) (xs ++ [d0, d1, d2, d3, d4, d5, d6, d7])) : OwnFs w3 lo B (fs ++ [f]) u (xs ++ [d0, d1, d2, d3, d4, d5, d6, d7]) := by
  have hxl := h.1.1
  refine ⟨by simpa using hown, fun i hi => ?_⟩
  simp only [List.length_append, List.length_singleton] at hi
  by_cases e : i = fs.length
  · have hg : ∀ j, (xs ++ [d0, d1, d2, d3, d4, d5, d6, d7]).getD (i * 8 + j) undef = [d0, d1, d2, d3, d4, d5, d6, d7].getD j undef := fun j => by
      rw [List.getD_eq_getElem?_getD, List.getElem?_append_right (by omega), List.getD_eq_getElem?_getD, hxl, e, show fs.length * 8 + j - fs.length * 8 = j by omega]
    have g0 := hg 0
    rw [Nat.add_zero] at g0
    rw [g0, hg 1, hg 2, hg 3, hg 4, hg 5, hg 6, hg 7]
    have : fth (fs ++ [f]) i = f := by simp [fth, List.getD_eq_getElem?_getD, e]
    rw [this]
    exact hf.under hb
  · have hik : i < fs.length := by omega
    have hg : ∀ j, j < 8 → (xs ++ [d0, d1, d2, d3, d4, d5, d6, d7]).getD (i * 8 + j) undef = xs.getD (i * 8 + j) undef := fun j hj => by
      rw [List.getD_eq_getElem?_getD, List.getElem?_append_left (by omega), List.getD_eq_getElem?_getD]
    have g0 := hg 0 (by omega)
    rw [Nat.add_zero] at g0
    rw [g0, hg 1 (by omega), hg 2 (by omega), hg 3 (by omega), hg 4 (by omega), hg 5 (by omega), hg 6 (by omega), hg 7 (by omega)]
    have : fth (fs ++ [f]) i = fth fs i := by simp [fth, List.getD_eq_getElem?_getD, List.getElem?_append_left hik]
    rw [this]
    exact (h.2 i hik).under hb
theorem OwnFs.keep {w w' : World} {lo B : Nat} {fs : List F} {v : Value} {xs : List Value} (h : OwnFs w lo B fs v xs) (hb : Below w.heap.size w w') (hB : B ≤ w.heap.size) : OwnFs w' lo B fs v xs :=
  ⟨h.1.kept (row := none) ⟨hb.os, hb.tape, hb.output, hb.size, fun b hb' _ => hb.block b hb'⟩ (by cases hv : v.ownBlock <;> simp), fun i hi => (h.2 i hi).under (hb.mono hB)⟩
theorem OwnFs.rep {w : World} {lo B : Nat} {fs : List F} {v : Value} {xs : List Value} (h : OwnFs w lo B fs v xs) (hB : B ≤ w.heap.size) (h64 : 64 * fs.length ≤ 281474976710656) : ∃ (a : Option Addr) (c : Nat), v = .slice a fs.length c ∧ fs.length ≤ c ∧ FsRep w (· < w.heap.size) fs a := by
  obtain ⟨h1, h2⟩ := h
  rcases h1.2 with ⟨rfl, h0⟩ | ⟨g, cap, cur, rfl, hlo, hg, hn, _⟩
  · have : fs = [] := by simpa using h0
    subst this
    exact ⟨none, 0, rfl, by simp, FsRep.nil _ _ _⟩
  · have hlt : g < w.heap.size := (Array.getElem?_eq_some_iff.1 hg).1
    refine ⟨_, cap, rfl, hn, h64, fun i j => xs.getD (i * 8 + j) undef, fun _ => ⟨g, 0, rfl, hlt, fun i hi j hj => ?_⟩, fun i hi => (h2 i hi).sub fun b hb => by omega⟩
    have hx := h1.1
    have := h1.cellAt (i * 8 + j) (by omega)
    show _ = some (xs.getD (i * 8 + j) undef)
    rw [Nat.zero_add, this, List.getD_eq_getElem?_getD, List.getElem?_eq_getElem (by omega)]
    rfl

set_option maxRecDepth 20000 in
set_option maxHeartbeats 1600000 in
theorem knownFields_any (t : T) (w : World) (B : Nat) (u : Value) (hT : TRep w (· < B) t u) (hB : B ≤ w.heap.size) (hfl : t.fields.length ≤ 1048576) :
    Calls Tryz.prog 39 #[u] w fun e w' => ∃ (a : Option Addr) (c : Nat), e = .returned (.slice a (KF t.fields t.fields.length).length c) ∧ Below w.heap.size w w' ∧ (KF t.fields t.fields.length).length ≤ c ∧ FsRep w' (· < w'.heap.size) (KF t.fields t.fields.length) a := by
  obtain ⟨fa, fc, rfl, hK, hfc, -⟩ := hT
  obtain ⟨name, key, fields⟩ := t
  simp only at hK hfc hfl ⊢
  have h64 := hK.1
  obtain ⟨i0, hi, hz0, hz1, hz2⟩ := info_parts info_Field
  go_enter Tryz.func39, Tryz.ntmps39
  go_wp2_with fail
  go_loopw [3, 9] (fun o i wr => ∃ (k : Nat) (v : Value) (xs : List Value), k ≤ fields.length ∧ i = .int .i64 k ∧ v = o ∧ Below w.heap.size w wr ∧ w.heap.size < wr.heap.size ∧ OwnFs wr (w.heap.size + 1) B (KF fields k) v xs) (fun _ i _ => fields.length - (intOf i).toNat)
  case atStart => exact ⟨0, _, [], Nat.zero_le _, rfl, rfl, below_box _ _, by simp, OwnFs.nil _ _ _⟩
  case round =>
    obtain ⟨k, v, xs, hk, rfl, rfl, hbel, hz, hown⟩ := hrel
    obtain ⟨w0, rfl⟩ : ∃ x, x = wr := ⟨wr, rfl⟩
    have HO : Hid (OwnFs w0 (w.heap.size + 1) B (KF fields k) v xs) := hown
    clear hown
    have hkl := KF_len fields k
    by_cases hlt : k < fields.length
    · have hki : (k : Int) < (fields.length : Int) := by omega
      obtain ⟨b, off, na, nc, rfl, hFR, hcs⟩ := hK.at hB k hlt
      obtain ⟨c0, c1, c2, c3, c4, c5, c6, c7⟩ := hcs w0 hbel
      have HN : Hid (KF fields (k + 1) = if (fth fields k).far = true then KF fields k else KF fields k ++ [fth fields k]) := rfl
      have bx := below_box w0 (.cells #[.string (fth fields k).name, .string (fth fields k).of, .bool (fth fields k).list, .bool (fth fields k).must, .bool (fth fields k).far, .bool (fth fields k).hidden, .bool (fth fields k).shared, .slice na (fth fields k).needs.length nc] 73)
      clear hcs
      cases hf : (fth fields k).far
      · rw [hf] at c4 bx
        have hFR' := hFR
        rw [hf] at hFR'
        have bx2 := below_box (w0.alloc (.cells #[.string (fth fields k).name, .string (fth fields k).of, .bool (fth fields k).list, .bool (fth fields k).must, .bool false, .bool (fth fields k).hidden, .bool (fth fields k).shared, .slice na (fth fields k).needs.length nc] 73)) (.cells #[.string (fth fields k).name, .string (fth fields k).of, .bool (fth fields k).list, .bool (fth fields k).must, .bool false, .bool (fth fields k).hidden, .bool (fth fields k).shared, .slice na (fth fields k).needs.length nc] 73)
        have b02 := bx.trans (bx2.mono (by simp))
        have HO1 : Hid (OwnFs _ (w.heap.size + 1) B (KF fields k) v xs) := HO.out.keep b02 (by omega)
        have K1 := heap_alloc_new (w0.alloc (.cells #[.string (fth fields k).name, .string (fth fields k).of, .bool (fth fields k).list, .bool (fth fields k).must, .bool false, .bool (fth fields k).hidden, .bool (fth fields k).shared, .slice na (fth fields k).needs.length nc] 73)) (.cells #[.string (fth fields k).name, .string (fth fields k).of, .bool (fth fields k).list, .bool (fth fields k).must, .bool false, .bool (fth fields k).hidden, .bool (fth fields k).shared, .slice na (fth fields k).needs.length nc] 73)
        rw [show (w0.alloc (.cells #[.string (fth fields k).name, .string (fth fields k).of, .bool (fth fields k).list, .bool (fth fields k).must, .bool false, .bool (fth fields k).hidden, .bool (fth fields k).shared, .slice na (fth fields k).needs.length nc] 73)).heap.size = w0.heap.size + 1 by simp] at K1
        go_wp2_with (at_builtin; refine wpList_append_lies _ rfl _ _ 52 rfl (w.heap.size + 1) 73 i0 (.agg #[.string ByteArray.empty, .string ByteArray.empty, .bool false, .bool false, .bool false, .bool false, .bool false, .slice none 0 0]) 8 64 Tryz.underlying52 hi hz0 hz1 hz2 rfl (by decide) v (KF fields k).length xs rfl ?own ⟨w0.heap.size + 1, 0, none⟩ 1 1 [.string (fth fields k).name, .string (fth fields k).of, .bool (fth fields k).list, .bool (fth fields k).must, .bool false, .bool (fth fields k).hidden, .bool (fth fields k).shared, .slice na (fth fields k).needs.length nc] rfl rfl ?c1 ?c2 (by omega) ?c3 (by omega) (by simp; omega) _ rfl ?_)
        case own => exact HO1.out.1
        case c1 => exact World.news_of_block K1
        case c2 => intro u hu; simp at hu; rcases hu with rfl | rfl | rfl | rfl | rfl | rfl | rfl | rfl <;> rfl
        case c3 => unfold maxLen; omega
        intro g cap w3 hown3 hgrow hat hlt3
        have hb3 := Below.grown (Below.refl (w.heap.size + 1) _) hgrow (by simp; omega) (fun k hk => (HO1.out.1.lt k hk).1)
        have HN' : Hid (KF fields (k + 1) = KF fields k ++ [fth fields k]) := by show _ = _; rw [HN.out, if_neg (by simp [hf])]
        have HO3 : Hid (∃ xs', OwnFs w3 (w.heap.size + 1) B (KF fields (k + 1)) (.slice (some ⟨g, 0, none⟩) ((KF fields k).length + 1) cap) xs') := ⟨_, by rw [HN'.out]; exact HO1.out.put (hFR'.under ((hbel.trans (b02.mono (by omega))).mono hB)) (hb3.mono (by omega)) hown3⟩
        have z3 := hb3.size
        simp at z3
        have hw3 : Below w.heap.size w w3 := (hbel.trans (b02.mono (by omega))).trans (hb3.mono (by omega))
        clear hown3 hgrow hat hb3 HO1 K1
        go_wp2_with fail
        go_roundw
        case rel =>
          obtain ⟨xs', hxs⟩ := HO3.out
          exact ⟨k + 1, _, xs', by omega, by go_num, rfl, hw3, by omega, hxs⟩
        case measure => simp [intOf]; omega
      · rw [hf] at c4 bx
        go_wp2_with fail
        go_roundw
        case rel => exact ⟨k + 1, v, xs, by omega, by go_num, rfl, hbel.trans (bx.mono (by omega)), by simp; omega, by rw [HN.out, if_pos hf]; exact HO.out.keep bx (by omega)⟩
        case measure => simp [intOf]; omega
    · go_wp2_with fail
      go_ret
      have e : k = fields.length := by omega
      subst e
      obtain ⟨a, c, rfl, hc, hF⟩ := HO.out.rep (by omega) (by omega)
      exact ⟨a, c, rfl, hbel, hc, hF⟩
end Go.Proofs.YtjpabpkfdahdhaaGreat
