import Derived.Test.YtbpdchlbhfjddaaGreatPRep
import Derived.Test.YtbpdchlbhfjddaaGreatIType2
import Derived.Test.YtbpdchlbhfjddaaGreatPCopy
import Derived.Deep.AppendLies
import Derived.Laws.AppendOwnNone
import Derived.Test.YtbpdchlbhfjddaaGreatCopyS
import Derived.RowKit3
import Derived.Maps.OwnSet
import Derived.Maps.AppendAt
import Derived.LaidEql
import Derived.Test.YtbpdchlbhfjddaaGreatWords
import Derived.WalkKit
import Derived.WalkSpells
import Derived.WalkLawsBesides
import Derived.Test.YtbpdchlbhfjddaaGreatStrs
namespace Go.Proofs.YtbpdchlbhfjddaaGreat
set_option linter.unusedSimpArgs false
set_option linter.unusedVariables false
open Go.RowKit

/-- The first fields that a part knows itself. -/
def KF (fs : List F) : Nat → List F
  | 0 => []
  | n + 1 => if (fth fs n).far = true then KF fs n else KF fs n ++ [fth fs n]
theorem KF_pre (fs : List F) : ∀ n m, n ≤ m → ∃ l, KF fs m = KF fs n ++ l := fun n m h => by
  induction h with
  | refl => exact ⟨[], by simp⟩
  | step h ih =>
    obtain ⟨l, hl⟩ := ih
    rw [KF]
    split
    · exact ⟨l, hl⟩
    · exact ⟨l ++ [fth fs _], by rw [hl, List.append_assoc]⟩
theorem KF_len (fs : List F) : ∀ n, (KF fs n).length ≤ n
  | 0 => by simp [KF]
  | n + 1 => by
    have := KF_len fs n
    rw [KF]; split
    · omega
    · simp; omega
theorem KF_at (fs : List F) (n m : Nat) (h : n < m) (hf : (fth fs n).far = false) : (KF fs n).length < (KF fs m).length ∧ fth (KF fs m) (KF fs n).length = fth fs n := by
  obtain ⟨l, hl⟩ := KF_pre fs (n + 1) m h
  rw [KF, if_neg (by simp [hf])] at hl
  rw [hl]
  constructor
  · simp
  · simp [fth, List.getD_eq_getElem?_getD]
end Go.Proofs.YtbpdchlbhfjddaaGreat

namespace Go.Proofs.YtbpdchlbhfjddaaGreat
set_option linter.unusedSimpArgs false
set_option linter.unusedVariables false
open Go.RowKit

/-- Fields that a call gathers itself. -/
def OwnFs (w : World) (lo B : Nat) (fs : List F) (v : Value) (xs : List Value) : Prop :=
  w.ownsRow lo 78 8 v fs.length xs ∧ ∀ i, i < fs.length → FRep w (· < B) (fth fs i) (.agg #[xs.getD (i * 8) undef, xs.getD (i * 8 + 1) undef, xs.getD (i * 8 + 2) undef, xs.getD (i * 8 + 3) undef, xs.getD (i * 8 + 4) undef, xs.getD (i * 8 + 5) undef, xs.getD (i * 8 + 6) undef, xs.getD (i * 8 + 7) undef])
theorem OwnFs.nil (w : World) (lo B : Nat) : OwnFs w lo B [] (.slice none 0 0) [] := ⟨World.ownsRow_nil _ _ _ _, fun i hi => by simp at hi⟩
theorem OwnFs.put {w1 w3 : World} {lo B : Nat} {fs : List F} {v u : Value} {xs : List Value} {f : F} {d0 d1 d2 d3 d4 d5 d6 d7 : Value} (h : OwnFs w1 lo B fs v xs) (hf : FRep w1 (· < B) f (.agg #[d0, d1, d2, d3, d4, d5, d6, d7])) (hb : Below B w1 w3)
    (hown : w3.ownsRow lo 78 8 u (fs.length + 1) (xs ++ [d0, d1, d2, d3, d4, d5, d6, d7])) : OwnFs w3 lo B (fs ++ [f]) u (xs ++ [d0, d1, d2, d3, d4, d5, d6, d7]) := by
  have hxl := h.1.1
  refine ⟨by simpa using hown, fun i hi => ?_⟩
  simp only [List.length_append, List.length_singleton] at hi
  by_cases e : i = fs.length
  · have hg : ∀ j, (xs ++ [d0, d1, d2, d3, d4, d5, d6, d7]).getD (i * 8 + j) undef = [d0, d1, d2, d3, d4, d5, d6, d7].getD j undef := fun j => by
      rw [List.getD_eq_getElem?_getD, List.getElem?_append_right (by omega), List.getD_eq_getElem?_getD, hxl, e, show fs.length * 8 + j - fs.length * 8 = j by omega]
    have g0 := hg 0
    rw [Nat.add_zero] at g0
    rw [g0, hg 1, hg 2, hg 3, hg 4, hg 5, hg 6, hg 7]
    have : fth (fs ++ [f]) i = f := by simp [fth, List.getD_eq_getElem?_getD, e]
    rw [this]
    exact hf.under hb
  · have hik : i < fs.length := by omega
    have hg : ∀ j, j < 8 → (xs ++ [d0, d1, d2, d3, d4, d5, d6, d7]).getD (i * 8 + j) undef = xs.getD (i * 8 + j) undef := fun j hj => by
      rw [List.getD_eq_getElem?_getD, List.getElem?_append_left (by omega), List.getD_eq_getElem?_getD]
    have g0 := hg 0 (by omega)
    rw [Nat.add_zero] at g0
    rw [g0, hg 1 (by omega), hg 2 (by omega), hg 3 (by omega), hg 4 (by omega), hg 5 (by omega), hg 6 (by omega), hg 7 (by omega)]
    have : fth (fs ++ [f]) i = fth fs i := by simp [fth, List.getD_eq_getElem?_getD, List.getElem?_append_left hik]
    rw [this]
    exact (h.2 i hik).under hb
theorem OwnFs.keep {w w' : World} {lo B : Nat} {fs : List F} {v : Value} {xs : List Value} (h : OwnFs w lo B fs v xs) (hb : Below w.heap.size w w') (hB : B ≤ w.heap.size) : OwnFs w' lo B fs v xs :=
  ⟨h.1.kept (row := none) ⟨hb.os, hb.tape, hb.output, hb.size, fun b hb' _ => hb.block b hb'⟩ (by cases hv : v.ownBlock <;> simp), fun i hi => (h.2 i hi).under (hb.mono hB)⟩
theorem OwnFs.rep {w : World} {lo B : Nat} {fs : List F} {v : Value} {xs : List Value} (h : OwnFs w lo B fs v xs) (h64 : 64 * fs.length ≤ 281474976710656) : ∃ (a : Option Addr) (c : Nat), v = .slice a fs.length c ∧ fs.length ≤ c ∧ FsRep w (fun b => b < B ∨ (lo ≤ b ∧ b < w.heap.size)) fs a := by
  obtain ⟨h1, h2⟩ := h
  rcases h1.2 with ⟨rfl, h0⟩ | ⟨g, cap, cur, rfl, hlo, hg, hn, _⟩
  · have : fs = [] := by simpa using h0
    subst this
    exact ⟨none, 0, rfl, by simp, FsRep.nil _ _ _⟩
  · have hlt : g < w.heap.size := (Array.getElem?_eq_some_iff.1 hg).1
    refine ⟨_, cap, rfl, hn, h64, fun i j => xs.getD (i * 8 + j) undef, fun _ => ⟨g, 0, rfl, .inr ⟨hlo, hlt⟩, fun i hi j hj => ?_⟩, fun i hi => (h2 i hi).sub fun b hb => .inl hb⟩
    have hx := h1.1
    have := h1.cellAt (i * 8 + j) (by omega)
    show _ = some (xs.getD (i * 8 + j) undef)
    rw [Nat.zero_add, this, List.getD_eq_getElem?_getD, List.getElem?_eq_getElem (by omega)]
    rfl

set_option maxRecDepth 20000 in
set_option maxHeartbeats 1600000 in
theorem knownFields_two (t : T) (w : World) (B : Nat) (u : Value) (hT : TRep w (· < B) t u) (hB : B ≤ w.heap.size) (hfl : t.fields.length ≤ 1048576) :
    Calls Tryz.prog 70 #[u] w fun e w' => ∃ (a : Option Addr) (c : Nat), e = .returned (.slice a (KF t.fields t.fields.length).length c) ∧ Below w.heap.size w w' ∧ (KF t.fields t.fields.length).length ≤ c ∧ FsRep w' (fun b => b < B ∨ (w.heap.size + 1 ≤ b ∧ b < w'.heap.size)) (KF t.fields t.fields.length) a := by
  obtain ⟨fa, fc, rfl, hK, hfc, -⟩ := hT
  obtain ⟨name, key, fields⟩ := t
  simp only at hK hfc hfl ⊢
  have h64 := hK.1
  obtain ⟨i0, hi, hz0, hz1, hz2⟩ := info_parts info_Field
  go_enter Tryz.func70, Tryz.ntmps70
  go_wp2_with fail
  go_loopw [3, 9] (fun o i wr => ∃ (k : Nat) (v : Value) (xs : List Value), k ≤ fields.length ∧ i = .int .i64 k ∧ v = o ∧ Below w.heap.size w wr ∧ w.heap.size < wr.heap.size ∧ OwnFs wr (w.heap.size + 1) B (KF fields k) v xs) (fun _ i _ => fields.length - (intOf i).toNat)
  case atStart => exact ⟨0, _, [], Nat.zero_le _, rfl, rfl, below_box _ _, by simp, OwnFs.nil _ _ _⟩
  case round =>
    obtain ⟨k, v, xs, hk, rfl, rfl, hbel, hz, hown⟩ := hrel
    obtain ⟨w0, rfl⟩ : ∃ x, x = wr := ⟨wr, rfl⟩
    have HO : Hid (OwnFs w0 (w.heap.size + 1) B (KF fields k) v xs) := hown
    clear hown
    have hkl := KF_len fields k
    by_cases hlt : k < fields.length
    · have hki : (k : Int) < (fields.length : Int) := by omega
      obtain ⟨b, off, na, nc, rfl, hFR, hcs⟩ := hK.at hB k hlt
      obtain ⟨c0, c1, c2, c3, c4, c5, c6, c7⟩ := hcs w0 hbel
      have HN : Hid (KF fields (k + 1) = if (fth fields k).far = true then KF fields k else KF fields k ++ [fth fields k]) := rfl
      have bx := below_box w0 (.cells #[.string (fth fields k).name, .string (fth fields k).of, .bool (fth fields k).list, .bool (fth fields k).must, .bool (fth fields k).far, .bool (fth fields k).hidden, .bool (fth fields k).shared, .slice na (fth fields k).needs.length nc] 78)
      clear hcs
      cases hf : (fth fields k).far
      · rw [hf] at c4 bx
        have hFR' := hFR
        rw [hf] at hFR'
        have bx2 := below_box (w0.alloc (.cells #[.string (fth fields k).name, .string (fth fields k).of, .bool (fth fields k).list, .bool (fth fields k).must, .bool false, .bool (fth fields k).hidden, .bool (fth fields k).shared, .slice na (fth fields k).needs.length nc] 78)) (.cells #[.string (fth fields k).name, .string (fth fields k).of, .bool (fth fields k).list, .bool (fth fields k).must, .bool false, .bool (fth fields k).hidden, .bool (fth fields k).shared, .slice na (fth fields k).needs.length nc] 78)
        have b02 := bx.trans (bx2.mono (by simp))
        have HO1 : Hid (OwnFs _ (w.heap.size + 1) B (KF fields k) v xs) := HO.out.keep b02 (by omega)
        have K1 := heap_alloc_new (w0.alloc (.cells #[.string (fth fields k).name, .string (fth fields k).of, .bool (fth fields k).list, .bool (fth fields k).must, .bool false, .bool (fth fields k).hidden, .bool (fth fields k).shared, .slice na (fth fields k).needs.length nc] 78)) (.cells #[.string (fth fields k).name, .string (fth fields k).of, .bool (fth fields k).list, .bool (fth fields k).must, .bool false, .bool (fth fields k).hidden, .bool (fth fields k).shared, .slice na (fth fields k).needs.length nc] 78)
        rw [show (w0.alloc (.cells #[.string (fth fields k).name, .string (fth fields k).of, .bool (fth fields k).list, .bool (fth fields k).must, .bool false, .bool (fth fields k).hidden, .bool (fth fields k).shared, .slice na (fth fields k).needs.length nc] 78)).heap.size = w0.heap.size + 1 by simp] at K1
        go_wp2_with (at_builtin; refine wpList_append_lies _ rfl _ _ 74 rfl (w.heap.size + 1) 78 i0 (.agg #[.string ByteArray.empty, .string ByteArray.empty, .bool false, .bool false, .bool false, .bool false, .bool false, .slice none 0 0]) 8 64 Tryz.underlying74 hi hz0 hz1 hz2 rfl (by decide) v (KF fields k).length xs rfl ?own ⟨w0.heap.size + 1, 0, none⟩ 1 1 [.string (fth fields k).name, .string (fth fields k).of, .bool (fth fields k).list, .bool (fth fields k).must, .bool false, .bool (fth fields k).hidden, .bool (fth fields k).shared, .slice na (fth fields k).needs.length nc] rfl rfl ?c1 ?c2 (by omega) ?c3 (by omega) (by simp; omega) _ rfl ?_)
        case own => exact HO1.out.1
        case c1 => exact World.news_of_block K1
        case c2 => intro u hu; simp at hu; rcases hu with rfl | rfl | rfl | rfl | rfl | rfl | rfl | rfl <;> rfl
        case c3 => unfold maxLen; omega
        intro g cap w3 hown3 hgrow hat hlt3
        have hb3 := Below.grown (Below.refl (w.heap.size + 1) _) hgrow (by simp; omega) (fun k hk => (HO1.out.1.lt k hk).1)
        have HN' : Hid (KF fields (k + 1) = KF fields k ++ [fth fields k]) := by show _ = _; rw [HN.out, if_neg (by simp [hf])]
        have HO3 : Hid (∃ xs', OwnFs w3 (w.heap.size + 1) B (KF fields (k + 1)) (.slice (some ⟨g, 0, none⟩) ((KF fields k).length + 1) cap) xs') := ⟨_, by rw [HN'.out]; exact HO1.out.put (hFR'.under ((hbel.trans (b02.mono (by omega))).mono hB)) (hb3.mono (by omega)) hown3⟩
        have z3 := hb3.size
        simp at z3
        have hw3 : Below w.heap.size w w3 := (hbel.trans (b02.mono (by omega))).trans (hb3.mono (by omega))
        clear hown3 hgrow hat hb3 HO1 K1
        go_wp2_with fail
        go_roundw
        case rel =>
          obtain ⟨xs', hxs⟩ := HO3.out
          exact ⟨k + 1, _, xs', by omega, by go_num, rfl, hw3, by omega, hxs⟩
        case measure => simp [intOf]; omega
      · rw [hf] at c4 bx
        go_wp2_with fail
        go_roundw
        case rel => exact ⟨k + 1, v, xs, by omega, by go_num, rfl, hbel.trans (bx.mono (by omega)), by simp; omega, by rw [HN.out, if_pos hf]; exact HO.out.keep bx (by omega)⟩
        case measure => simp [intOf]; omega
    · go_wp2_with fail
      go_ret
      have e : k = fields.length := by omega
      subst e
      obtain ⟨a, c, rfl, hc, hF⟩ := HO.out.rep (by omega)
      exact ⟨a, c, rfl, hbel, hc, hF⟩
theorem knownFields_any (t : T) (w : World) (B : Nat) (u : Value) (hT : TRep w (· < B) t u) (hB : B ≤ w.heap.size) (hfl : t.fields.length ≤ 1048576) :
    Calls Tryz.prog 70 #[u] w fun e w' => ∃ (a : Option Addr) (c : Nat), e = .returned (.slice a (KF t.fields t.fields.length).length c) ∧ Below w.heap.size w w' ∧ (KF t.fields t.fields.length).length ≤ c ∧ FsRep w' (· < w'.heap.size) (KF t.fields t.fields.length) a := by
  refine (knownFields_two t w B u hT hB hfl).mono ?_
  rintro e w' ⟨a, c, h1, h2, h3, h4⟩
  exact ⟨a, c, h1, h2, h3, h4.sub fun b hb => by have := h2.size; omega⟩
end Go.Proofs.YtbpdchlbhfjddaaGreat

namespace Go.Proofs.YtbpdchlbhfjddaaGreat
set_option linter.unusedSimpArgs false
set_option linter.unusedVariables false
open Go.RowKit

/-- From a block on nothing is frozen. -/
def NF (lo : Nat) (w : World) : Prop := ∀ a : Addr, lo ≤ a.block → w.frozen? a = false
theorem NF.new (w : World) : NF w.heap.size w := fun a h => by simp [World.frozen?, Array.getElem?_eq_none h]
theorem NF.alloc {lo : Nat} {w : World} (h : NF lo w) (c : Array Value) (t : TypeId) : NF lo (w.alloc (.cells c t)) := fun a ha => by rw [frozen?_alloc_cells]; exact h a ha
theorem NF.set {lo : Nat} {w : World} (h : NF lo w) (p : Addr) (v : Value) : NF lo (w.setCell p v) := fun a ha => by rw [World.frozen?_setCell]; exact h a ha
theorem NF.puts {lo : Nat} : ∀ {w : World} (h : NF lo w) (N k : Nat) (cs : List Value), NF lo (puts w N k cs)
  | w, h, N, k, [] => h
  | w, h, N, k, c :: cs => NF.puts (h.set ⟨N, k, none⟩ c) N (k + 1) cs
theorem NF.call {lo : Nat} {w w' : World} (h : NF lo w) (hb : Below w.heap.size w w') (h' : NF w.heap.size w') : NF lo w' := fun a ha => by
  rcases Nat.lt_or_ge a.block w.heap.size with h1 | h1
  · rw [hb.frozen h1]; exact h a ha
  · exact h' a h1
theorem NF.three (w : World) (c1 c2 c3 : Array Value) (t1 t2 t3 : TypeId) : NF w.heap.size (((w.alloc (.cells c1 t1)).alloc (.cells c2 t2)).alloc (.cells c3 t3)) := (((NF.new w).alloc c1 t1).alloc c2 t2).alloc c3 t3
set_option maxHeartbeats 400000 in
theorem toStringS_nf (ns : List ByteArray) (a : Option Addr) (c : Nat) (w : World) (hS : Strs w (· < w.heap.size) ns a) (hb : 16 * ns.length ≤ 281474976710656) :
    Calls Tryz.prog 99 #[.slice a ns.length c] w fun e w' => e = .returned (.slice (some ⟨w.heap.size, 0, none⟩) ns.length ns.length) ∧ Below w.heap.size w w' ∧ w'.heap.size = w.heap.size + 1 ∧
      Strs w' (· = w.heap.size) ns (some ⟨w.heap.size, 0, none⟩) ∧ NF w.heap.size w' := by
  have hS' := hS
  obtain ⟨h1, h2, h3⟩ := hS
  unfold maxLen at h3
  have hmk := run_make_row' (P := Tryz.prog) 55 9 (.string ByteArray.empty) 16 Tryz.underlying55 info9 rfl .i64 .i64 ns.length hb h3
  go_enter Tryz.func99, Tryz.ntmps99
  go_wp2
  go_loopw [4] (fun i wr => ∃ k : Nat, k ≤ ns.length ∧ i = .int .i64 k ∧ Below w.heap.size w wr ∧ wr.heap.size = w.heap.size + 1 ∧ wr.rowIs w.heap.size 9 ns.length (fun j => if j < k then .string (nth ns j) else .string ByteArray.empty) ∧ NF w.heap.size wr) (fun i _ => ns.length - (intOf i).toNat)
  case atStart =>
    refine ⟨0, Nat.zero_le _, rfl, (Below.refl _ _).alloc (Nat.le_refl _) _, by simp, ?_, (NF.new w).alloc _ _⟩
    exact (World.rowIs_made w _ _ _).congr fun i hi => by simp
  case round =>
    obtain ⟨k, hk, rfl, hbel, hsz, hrow, hnf⟩ := hrel
    have HNF : Hid (NF w.heap.size wr) := hnf
    clear hnf
    by_cases hlt : k < ns.length
    · obtain ⟨b, off, rfl, hbl, hc⟩ := h1 (by intro e; simp [e] at hlt)
      have hck : wr.cell? ⟨b, off + k, none⟩ = some (.string (nth ns k)) := (hbel.cell (p := ⟨b, off + k, none⟩) hbl).trans (hc k hlt)
      have hfz : wr.frozen? ⟨w.heap.size, k, none⟩ = false := hrow.frozen k
      have hcc : ∃ v, wr.cell? ⟨w.heap.size, k, none⟩ = some v := ⟨_, hrow.cell hlt⟩
      obtain ⟨v, hcv⟩ := hcc
      go_wp2
      go_roundw
      case rel =>
        refine ⟨k + 1, by omega, by go_num, hbel.setCell (Nat.le_refl _) _, by simp [World.setCell, hsz], ?_, HNF.out.set _ _⟩
        refine (hrow.set k _).congr fun i hi => ?_
        by_cases e1 : i = k
        · subst e1; simp
        · by_cases e2 : i < k
          · simp [e1, e2, show i < k + 1 by omega]
          · simp [e1, e2, show ¬ i < k + 1 by omega]
      case measure => simp [intOf]; omega
    · go_wp2
      go_ret
      have e : k = ns.length := by omega
      subst e
      refine ⟨rfl, hbel, hsz, ⟨fun _ => ⟨_, 0, rfl, rfl, fun i hi => ?_⟩, h2, by unfold maxLen; omega⟩, HNF.out⟩
      have := hrow.cell hi
      rw [if_pos hi] at this
      simpa using this
end Go.Proofs.YtbpdchlbhfjddaaGreat

namespace Go.Proofs.YtbpdchlbhfjddaaGreat
set_option linter.unusedSimpArgs false
set_option linter.unusedVariables false
open Go.RowKit Go.Maps Go.ChangeMaps Go.MapKept

/-- What is asked of keys, in a world: they can be asked for, and == says which of them are one. -/
structure KeyAt (P : Program) (k : TypeId) (I : Value → Prop) (w : World) : Prop where
  fields : ∃ fs, P.underlying k = some (.struct fs)
  check : ∀ (em : Bool) (v : Value), I v → (Instr.checkKey em 10000 k v).run P w = .ok () w
  same : ∀ v : Value, I v → (Op.equal k v v).run P w = .ok true w
  differ : ∀ u v : Value, I u → I v → u ≠ v → (Op.equal k u v).run P w = .ok false w
  stays : ∀ v : Value, I v → Instr.sameBits 10000 v v = true

theorem findAsking_at {P : Program} {k : TypeId} {I : Value → Prop} {w : World} (K : KeyAt P k I w) (x : Value) (hx : I x) : ∀ (es : List MapEntry) (i : Nat), (∀ e ∈ es, I e.key) →
    ((Instr.findAsking k x es i).run P w = .ok none w ∧ ∀ e ∈ es, e.key ≠ x) ∨ ∃ j e, (Instr.findAsking k x es i).run P w = .ok (some (i + j, e.val)) w ∧ es[j]? = some e ∧ e.key = x
  | [], i, _ => Or.inl ⟨by simp [Instr.findAsking], by simp⟩
  | e :: es, i, h => by
    have he := h e (by simp)
    by_cases hk : e.key = x
    · refine Or.inr ⟨0, e, ?_, rfl, hk⟩
      have h1 := K.same x hx
      simp [Instr.findAsking, hk, h1, Result.andThen]
    · have h1 := K.differ x e.key hx he (fun h => hk h.symm)
      rcases findAsking_at K x hx es (i + 1) (fun e' he' => h e' (by simp [he'])) with ⟨h2, h3⟩ | ⟨j, e', h2, h3, h4⟩
      · refine Or.inl ⟨?_, fun e' he' => ?_⟩
        · simp [Instr.findAsking, h1, h2, Result.andThen]
        · rcases List.mem_cons.1 he' with rfl | h5
          · exact hk
          · exact h3 e' h5
      · refine Or.inr ⟨j + 1, e', ?_, by simpa using h3, h4⟩
        simp [Instr.findAsking, h1, h2, Result.andThen]
        omega

theorem findKey_at {P : Program} {k : TypeId} {I : Value → Prop} {w : World} (K : KeyAt P k I w) (x : Value) (hx : I x) (es : List MapEntry) (h : ∀ e ∈ es, I e.key) :
    ((Instr.findKey k x es).run P w = .ok none w ∧ ∀ e ∈ es, e.key ≠ x) ∨ ∃ j e, (Instr.findKey k x es).run P w = .ok (some (j, e.val)) w ∧ es[j]? = some e ∧ e.key = x := by
  obtain ⟨fs, hfs⟩ := K.fields
  match es, h with
  | [], _ => exact Or.inl ⟨by simp [Instr.findKey, run_underlying hfs, Instr.findNow, Result.andThen], by simp⟩
  | e :: es, h =>
    have hn : Instr.findNow (.struct fs) x (e :: es) 0 = none := by simp [Instr.findNow, Instr.sameNow]
    rcases findAsking_at K x hx (e :: es) 0 h with ⟨h2, h3⟩ | ⟨j, e', h2, h3, h4⟩
    · exact Or.inl ⟨by simp [Instr.findKey, run_underlying hfs, hn, h2, Result.andThen], h3⟩
    · exact Or.inr ⟨j, e', by simp [Instr.findKey, run_underlying hfs, hn, h2, Result.andThen], h3, h4⟩

/-- Block b of the world is a map that has G's values under G's keys. -/
def OwnsK (w : World) (I : Value → Prop) (b : Nat) (G : Value → Option Value) : Prop :=
  ∃ es clock, w.heap[b]? = some (.map es clock) ∧ (∀ e ∈ es.toList, I e.key ∧ G e.key = some e.val) ∧ (∀ k v, G k = some v → ∃ e ∈ es.toList, e.key = k) ∧ es.toList.Pairwise (fun a b => a.key ≠ b.key)

theorem OwnsK.lt {w : World} {I : Value → Prop} {b : Nat} {G : Value → Option Value} (h : OwnsK w I b G) : b < w.heap.size := by
  obtain ⟨es, clock, hb, _⟩ := h
  exact (Array.getElem?_eq_some_iff.1 hb).1
theorem OwnsK.of_block {w w' : World} {I : Value → Prop} {b : Nat} {G : Value → Option Value} (h : OwnsK w I b G) (e : w'.heap[b]? = w.heap[b]?) : OwnsK w' I b G := by
  obtain ⟨es, clock, hb, r⟩ := h
  exact ⟨es, clock, e.trans hb, r⟩
theorem OwnsK.widen {w : World} {I J : Value → Prop} {b : Nat} {G : Value → Option Value} (h : OwnsK w I b G) (e : ∀ v, I v → J v) : OwnsK w J b G := by
  obtain ⟨es, clock, hb, h1, r⟩ := h
  exact ⟨es, clock, hb, fun x hx => ⟨e _ (h1 x hx).1, (h1 x hx).2⟩, r⟩
theorem OwnsK.made (w : World) (I : Value → Prop) : OwnsK (w.alloc (.map #[] 0)) I w.heap.size (fun _ => none) :=
  ⟨#[], 0, (MapKept.heap_alloc w _).1, by simp, by simp, by simp⟩
theorem OwnsK.key {w : World} {I : Value → Prop} {b : Nat} {G : Value → Option Value} (h : OwnsK w I b G) {k v : Value} (hk : G k = some v) : I k := by
  obtain ⟨es, clock, hb, h1, h2, _⟩ := h
  obtain ⟨e, he, rfl⟩ := h2 k v hk
  exact (h1 e he).1

theorem OwnsK.look {P : Program} {k : TypeId} {I : Value → Prop} {w : World} {b : Nat} {G : Value → Option Value} {t e : TypeId} (c : Bool) (h : OwnsK w I b G) (K : KeyAt P k I w) (ht : P.underlying t = some (.map k e)) {z : Value} (hz : (zeroValue e).run P w = .ok z w) {x : Value} (hx : I x) :
    (Instr.lookup t (.map (some b)) x c).run P w = .ok (if c then .tuple #[(G x).getD z, .bool (G x).isSome] else (G x).getD z) w := by
  obtain ⟨es, clock, hb, h1, h2, h3⟩ := h
  rcases findKey_at K x hx es.toList (fun e he => (h1 e he).1) with ⟨r1, r2⟩ | ⟨j, e0, r1, r2, r3⟩
  · have hG : G x = none := by
      cases hg : G x with
      | none => rfl
      | some v => obtain ⟨e1, he1, hk1⟩ := h2 x v hg; exact absurd hk1 (r2 e1 he1)
    simp [Instr.lookup, run_underlying ht, MapKept.run_getObj_map hb, K.check _ x hx, r1, hz, hG, Result.andThen]
  · have hG : G x = some e0.val := by rw [← r3]; exact (h1 e0 (List.mem_of_getElem? r2)).2
    simp [Instr.lookup, run_underlying ht, MapKept.run_getObj_map hb, K.check _ x hx, r1, hG, Result.andThen]

theorem OwnsK.store {P : Program} {k : TypeId} {I : Value → Prop} {w : World} {b : Nat} {G : Value → Option Value} {t e : TypeId} (h : OwnsK w I b G) (K : KeyAt P k I w) (ht : P.underlying t = some (.map k e)) {x : Value} (hx : I x) (v : Value) :
    ∃ w' G', (Instr.mapUpdate t (.map (some b)) x v).run P w = .ok () w' ∧ OwnsK w' I b G' ∧ G' x = some v ∧ (∀ y, y ≠ x → G' y = G y) ∧ w.grownBy w' (some b) := by
  classical
  obtain ⟨es, clock, hb, h1, h2, h3⟩ := h
  have hgrow : ∀ o, w.grownBy (setBlock w b o) (some b) := fun o => ⟨rfl, rfl, rfl, by simp [setBlock], fun i _ hi => heap_setBlock_other hb _ (fun e => hi (by rw [e]))⟩
  rcases findKey_at K x hx es.toList (fun e he => (h1 e he).1) with ⟨r1, r2⟩ | ⟨j, e0, r1, r2, r3⟩
  · refine ⟨setBlock w b (.map (es.push ⟨x, v, clock⟩) (clock + 1)), fun y => if y = x then some v else G y, ?_, ⟨es.push ⟨x, v, clock⟩, clock + 1, heap_setBlock_same hb _, ?_, ?_, ?_⟩, by simp, fun y hy => by simp [hy], hgrow _⟩
    · simp [Instr.mapUpdate, run_underlying ht, MapKept.run_getObj_map hb, K.check false x hx, r1, MapKept.run_setObj_map _ hb, Result.andThen, setBlock]
    · intro e' he'
      simp only [Array.toList_push, List.mem_append, List.mem_singleton] at he'
      rcases he' with he' | rfl
      · exact ⟨(h1 e' he').1, by simp only; rw [if_neg (r2 e' he')]; exact (h1 e' he').2⟩
      · exact ⟨hx, by simp⟩
    · intro y u hy
      simp only at hy
      by_cases hyx : y = x
      · exact ⟨⟨x, v, clock⟩, by simp, hyx.symm⟩
      · rw [if_neg hyx] at hy
        obtain ⟨e', he', hk'⟩ := h2 y u hy
        exact ⟨e', by simp only [Array.toList_push, List.mem_append]; exact Or.inl he', hk'⟩
    · rw [Array.toList_push, List.pairwise_append]
      exact ⟨h3, by simp, fun a ha c hc => by simp at hc; subst hc; exact r2 a ha⟩
  · have hj : es[j]? = some e0 := by simpa using r2
    have hlist : (es.modify j (fun e' => { e' with key := x, val := v })).toList = es.toList.set j { e0 with key := x, val := v } := by rw [Array.toList_modify, modify_eq_set _ _ _ _ r2]
    have hjl : j < es.toList.length := (List.getElem?_eq_some_iff.1 r2).1
    have hej : es.toList[j] = e0 := (List.getElem?_eq_some_iff.1 r2).2
    have hoth : ∀ (i : Nat) (hi : i < es.toList.length), i ≠ j → es.toList[i].key ≠ x := fun i hi hij => by
      rcases Nat.lt_or_gt_of_ne hij with hlt | hlt
      · have := List.pairwise_iff_getElem.1 h3 i j hi hjl hlt
        rw [hej, r3] at this; exact this
      · have := List.pairwise_iff_getElem.1 h3 j i hjl hi hlt
        rw [hej, r3] at this; exact fun e => this e.symm
    refine ⟨setBlock w b (.map (es.modify j (fun e' => { e' with key := x, val := v })) clock), fun y => if y = x then some v else G y, ?_, ⟨_, clock, heap_setBlock_same hb _, ?_, ?_, ?_⟩, by simp, fun y hy => by simp [hy], hgrow _⟩
    · have hs := K.stays x hx
      simp [Instr.mapUpdate, run_underlying ht, MapKept.run_getObj_map hb, K.check false x hx, r1, hj, r3, Instr.keyThatStays, hs, MapKept.run_setObj_map _ hb, Result.andThen, setBlock]
    · intro e' he'
      rw [hlist] at he'
      obtain ⟨i, hi, rfl⟩ := List.getElem_of_mem he'
      rw [List.getElem_set]
      split
      · exact ⟨hx, by simp⟩
      · rename_i hne
        have hi' : i < es.toList.length := by simpa using hi
        exact ⟨(h1 _ (List.getElem_mem hi')).1, by simp only; rw [if_neg (hoth i hi' (fun e => hne e.symm))]; exact (h1 _ (List.getElem_mem hi')).2⟩
    · intro y u hy
      rw [hlist]
      simp only at hy
      by_cases hyx : y = x
      · exact ⟨{ e0 with key := x, val := v }, List.mem_of_getElem? (i := j) (by rw [List.getElem?_set_self hjl]), hyx.symm⟩
      · rw [if_neg hyx] at hy
        obtain ⟨e', he', hk'⟩ := h2 y u hy
        obtain ⟨i, hi, rfl⟩ := List.getElem_of_mem he'
        have hij : j ≠ i := fun e => by subst e; rw [hej, r3] at hk'; exact hyx hk'.symm
        exact ⟨es.toList[i], List.mem_of_getElem? (i := i) (by rw [List.getElem?_set_ne hij]; simp), hk'⟩
    · rw [hlist, List.pairwise_iff_getElem]
      intro i i' hi hi' hlt
      simp only [List.length_set] at hi hi'
      rw [List.getElem_set, List.getElem_set]
      split
      · rename_i e1
        subst e1
        rw [if_neg (by omega)]
        exact fun e => hoth i' hi' (by omega) e.symm
      · split
        · rename_i e1 e2
          subst e2
          exact hoth i hi (fun e => e1 e.symm)
        · exact List.pairwise_iff_getElem.1 h3 i i' hi hi' hlt

/-- A look-up at the operation, for the walk. -/
theorem wpList_lookup_K {P : Program} (w : World) {ops : Array Oper} {rest : List Oper} {o : Oper} {a : Act} {Q : Exit → Act → World → Prop}
    (hg : o.guard = none) (m x : Operand) (t : TypeId) (c : Bool) (hop : o.op = Op.lookup t m x c)
    (k e : TypeId) (I : Value → Prop) (K : KeyAt P k I w) (ht : P.underlying t = some (.map k e)) (z : Value) (hz : (zeroValue e).run P w = .ok z w) (b : Nat) (G : Value → Option Value)
    (hm : a.eval m = .map (some b)) (hown : OwnsK w I b G) (key : Value) (hx : a.eval x = key) (hkey : I key)
    (hK : wpList P ops Q rest (a.put o.dst (if c then .tuple #[(G key).getD z, .bool (G key).isSome] else (G key).getD z)) w) :
    wpList P ops Q (o :: rest) a w := by
  refine wpList_plain hg fun K' hK' => ?_
  have hrun := hown.look c K ht hz hkey
  unfold Oper.wp
  simp [execOp, hop, hm, hx, hrun, Result.andThen]
  exact hK' _ _ hK

/-- A store at the operation, for the walk. -/
theorem wpList_mapUpdate_K {P : Program} (w : World) {ops : Array Oper} {rest : List Oper} {o : Oper} {a : Act} {Q : Exit → Act → World → Prop}
    (hg : o.guard = none) (m x v : Operand) (t : TypeId) (hop : o.op = Op.mapUpdate t m x v)
    (k e : TypeId) (I : Value → Prop) (K : KeyAt P k I w) (ht : P.underlying t = some (.map k e)) (b : Nat) (G : Value → Option Value)
    (hm : a.eval m = .map (some b)) (hown : OwnsK w I b G) (key val : Value) (hx : a.eval x = key) (hv : a.eval v = val) (hkey : I key)
    (hK : ∀ w' G', OwnsK w' I b G' → G' key = some val → (∀ y, y ≠ key → G' y = G y) → w.grownBy w' (some b) → wpList P ops Q rest (a.put o.dst undef) w') :
    wpList P ops Q (o :: rest) a w := by
  refine wpList_plain hg fun K' hK' => ?_
  obtain ⟨w', G', hrun, r1, r2, r3, r4⟩ := hown.store K ht hkey val
  unfold Oper.wp
  simp [execOp, hop, hm, hx, hv, hrun, Result.andThen]
  exact hK' _ _ (hK w' G' r1 r2 r3 r4)

/-- A look-up at a step of a region. -/
theorem step_lookup_K {P : Program} {w : World} {ops : Array Oper} {o : Oper} {a : Act} {K : Act → World → Prop} {Q : Exit → Act → World → Prop} {E : Prop} (hgd : o.guard = none) (m x : Operand) (t : TypeId) (c : Bool) (ho : o.op = Op.lookup t m x c)
    (k e : TypeId) (I : Value → Prop) (KA : KeyAt P k I w) (ht : P.underlying t = some (.map k e)) (z : Value) (hz : (zeroValue e).run P w = .ok z w) (b : Nat) (G : Value → Option Value)
    (hm : a.eval m = .map (some b)) (hown : OwnsK w I b G) (key : Value) (hx : a.eval x = key) (hkey : I key)
    (h : K (a.put o.dst (if c then .tuple #[(G key).getD z, .bool (G key).isSome] else (G key).getD z)) w) :
    if Region.wanted o (yielded ops a.tmps) = true then Oper.wp P o a w K Q else E := by
  have hw : Region.wanted o (yielded ops a.tmps) = true := by simp [Region.wanted, hgd]
  rw [if_pos hw]
  have hrun := hown.look c KA ht hz hkey
  unfold Oper.wp
  simp [execOp, ho, hm, hx, hrun, Result.andThen]
  exact h

/-- A store at a step of a region. -/
theorem step_mapUpdate_K {P : Program} {w : World} {ops : Array Oper} {o : Oper} {a : Act} {K : Act → World → Prop} {Q : Exit → Act → World → Prop} {E : Prop} (hgd : o.guard = none) (m x v : Operand) (t : TypeId) (ho : o.op = Op.mapUpdate t m x v)
    (k e : TypeId) (I : Value → Prop) (KA : KeyAt P k I w) (ht : P.underlying t = some (.map k e)) (b : Nat) (G : Value → Option Value)
    (hm : a.eval m = .map (some b)) (hown : OwnsK w I b G) (key val : Value) (hx : a.eval x = key) (hv : a.eval v = val) (hkey : I key)
    (h : ∀ w' G', OwnsK w' I b G' → G' key = some val → (∀ y, y ≠ key → G' y = G y) → w.grownBy w' (some b) → K (a.put o.dst undef) w') :
    if Region.wanted o (yielded ops a.tmps) = true then Oper.wp P o a w K Q else E := by
  have hw : Region.wanted o (yielded ops a.tmps) = true := by simp [Region.wanted, hgd]
  rw [if_pos hw]
  obtain ⟨w', G', hrun, r1, r2, r3, r4⟩ := hown.store KA ht hkey val
  unfold Oper.wp
  simp [execOp, ho, hm, hx, hv, hrun, Result.andThen]
  exact h w' G' r1 r2 r3 r4

/-- Blocks that are no strings' bytes and no views: their addresses can be told apart. -/
def Apart (w : World) (b : Nat) : Prop := (∃ c t f, w.heap[b]? = some (.cells c t f)) ∧ ∀ a : Addr, a.block = b → w.frozen? a = false
theorem Apart.of_block {w w' : World} {b : Nat} (h : Apart w b) (e : w'.heap[b]? = w.heap[b]?) : Apart w' b := by
  obtain ⟨⟨c, t, f, h1⟩, h2⟩ := h
  refine ⟨⟨c, t, f, e.trans h1⟩, fun a ha => ?_⟩
  have := h2 a ha
  subst ha
  simpa [World.frozen?, e] using this
theorem Apart.of_cell {w : World} {b o : Nat} {v : Value} (h : w.cell? ⟨b, o, none⟩ = some v) (hf : ∀ a : Addr, a.block = b → w.frozen? a = false) : Apart w b := by
  refine ⟨?_, hf⟩
  unfold World.cell? at h
  split at h
  · rename_i c t f hb; exact ⟨c, t, f, hb⟩
  · cases h

theorem sameAddr_apart {P : Program} {w : World} {a b : Addr} (hne : a ≠ b) (ha : Apart w a.block) (hb : Apart w b.block) : (sameAddr a b).run P w = .ok false w := by
  obtain ⟨⟨c, t, f, h1⟩, h2⟩ := ha
  obtain ⟨⟨c', t', f', h1'⟩, h2'⟩ := hb
  by_cases hbl : a.block = b.block
  · simp [sameAddr, hbl, hne]
  · have f1 := h2 a rfl
    have f2 := h2' b rfl
    have g1 := h2 ⟨a.block, c.size, none⟩ rfl
    have g2 := h2' ⟨b.block, c'.size, none⟩ rfl
    simp [sameAddr, hbl, f1, f2, g1, g2, noView, viewAt, World.shape?, h1, h1', mayBeOne, stringish]
end Go.Proofs.YtbpdchlbhfjddaaGreat

namespace Go.Proofs.YtbpdchlbhfjddaaGreat
set_option linter.unusedSimpArgs false
set_option linter.unusedVariables false
open Go.RowKit

/-- Whether all bytes from a place on are plain. -/
def plainTo (s : ByteArray) (n : Nat) : Bool := (List.range n).all fun i => decide (32 ≤ byteAt s i) && decide (byteAt s i ≤ 126)
theorem plainTo_succ (s : ByteArray) (n : Nat) : plainTo s (n + 1) = (plainTo s n && (decide (32 ≤ byteAt s n) && decide (byteAt s n ≤ 126))) := by
  simp [plainTo, List.range_succ]
theorem plainTo_false (s : ByteArray) (n k : Nat) (hk : k < n) (h : (decide (32 ≤ byteAt s k) && decide (byteAt s k ≤ 126)) = false) : plainTo s n = false := by
  rw [plainTo, List.all_eq_false]
  exact ⟨k, by simpa using hk, by simpa using h⟩

def plainB (s : ByteArray) : Bool := decide (s.size ≤ 24) && plainTo s s.size

end Go.Proofs.YtbpdchlbhfjddaaGreat

namespace Go.Proofs.YtbpdchlbhfjddaaGreat
set_option linter.unusedSimpArgs false
set_option linter.unusedVariables false
open Go.RowKit

/-- A text is in a list. -/
def hasTo (ns : List ByteArray) (s : ByteArray) (n : Nat) : Bool := (List.range n).any fun i => (nth ns i).toList == s.toList
theorem hasTo_succ (ns : List ByteArray) (s : ByteArray) (n : Nat) : hasTo ns s (n + 1) = (hasTo ns s n || ((nth ns n).toList == s.toList)) := by
  simp [hasTo, List.range_succ]
theorem hasTo_true (ns : List ByteArray) (s : ByteArray) (n k : Nat) (hk : k < n) (h : ((nth ns k).toList == s.toList) = true) : hasTo ns s n = true := by
  rw [hasTo, List.any_eq_true]
  exact ⟨k, by simpa using hk, h⟩

/-- The first texts of a list are words, none twice. -/
def onceTo (ns : List ByteArray) (n : Nat) : Bool := (List.range n).all fun i => wordB (nth ns i) && !hasTo ns (nth ns i) i
theorem onceTo_succ (ns : List ByteArray) (n : Nat) : onceTo ns (n + 1) = (onceTo ns n && (wordB (nth ns n) && !hasTo ns (nth ns n) n)) := by
  simp [onceTo, List.range_succ]
theorem onceTo_false (ns : List ByteArray) (n k : Nat) (hk : k < n) (h : (wordB (nth ns k) && !hasTo ns (nth ns k) k) = false) : onceTo ns n = false := by
  rw [onceTo, List.all_eq_false]
  exact ⟨k, by simpa using hk, by simpa using h⟩

end Go.Proofs.YtbpdchlbhfjddaaGreat
