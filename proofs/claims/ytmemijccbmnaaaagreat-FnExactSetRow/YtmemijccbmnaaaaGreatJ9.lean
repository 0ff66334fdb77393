import Derived.Test.YtmemijccbmnaaaaGreatJ8
import Derived.Deep.AppendLies
import Derived.Laws.AppendOwnNone
import Derived.Test.YtmemijccbmnaaaaGreatIWrite
import Derived.Test.YtmemijccbmnaaaaGreatPCheck
import Derived.Test.YtmemijccbmnaaaaGreatIFind
import Derived.Test.YtmemijccbmnaaaaGreatJ1
import Derived.Test.YtmemijccbmnaaaaGreatJ3
namespace Go.Proofs.YtmemijccbmnaaaaGreat
set_option linter.unusedSimpArgs false
set_option linter.unusedVariables false
open Go.RowKit

theorem below_grown {B : Nat} {a w w' : World} (h : Below B a w) (hg : w.grownBy w' none) (hB : B ≤ w.heap.size) : Below B a w' :=
  h.trans ⟨hg.os, hg.tape, hg.output, hg.size, fun k hk => hg.block k (by omega) (by simp)⟩
theorem nth_map (ns : List ByteArray) (j : Nat) (u : Value) (h : (ns.map Value.string)[j]? = some u) : j < ns.length ∧ u = .string (nth ns j) := by
  rw [List.getElem?_map] at h
  obtain ⟨b, hb, rfl⟩ := Option.map_eq_some_iff.1 h
  obtain ⟨hj, rfl⟩ := List.getElem?_eq_some_iff.1 hb
  exact ⟨hj, by simp [nth, List.getD_eq_getElem?_getD, hj]⟩
/-- A block of this kind is nowhere frozen. -/
theorem frozen_cells {w : World} {g : Nat} {cur : Array Value} {e : TypeId} (h : w.heap[g]? = some (.cells cur e (0, 0))) (o : Nat) : w.frozen? ⟨g, o, none⟩ = false := by simp [World.frozen?, h]
theorem strs_ownedW {w : World} {base : Nat} {ns : List ByteArray} {g cap : Nat} (h : w.ownsRow base 9 1 (.slice (some ⟨g, 0, none⟩) ns.length cap) ns.length (ns.map Value.string)) (h2 : ∀ i, (nth ns i).size ≤ maxLen) (h3 : ns.length ≤ maxLen) (hlt : g < w.heap.size) :
    Strs w (fun b => base ≤ b ∧ b < w.heap.size) ns (some ⟨g, 0, none⟩) ∧ ns.length ≤ cap ∧ WStrs w base w.heap.size ns.length (some ⟨g, 0, none⟩) := by
  have hb : base ≤ g ∧ ns.length ≤ cap ∧ ∀ o, w.frozen? ⟨g, o, none⟩ = false := by
    rcases h.2 with ⟨h', _⟩ | ⟨g', cap', cur, h', hb, hh, hn, _⟩
    · simp at h'
    · simp only [Value.slice.injEq, Option.some.injEq, Addr.mk.injEq, and_true, true_and] at h'
      obtain ⟨rfl, rfl⟩ := h'
      exact ⟨hb, hn, frozen_cells hh⟩
  have hc : ∀ i, i < ns.length → w.cell? ⟨g, 0 + i, none⟩ = some (.string (nth ns i)) := fun i hi => by
    have := h.cellAt i (by omega)
    rw [Nat.zero_add, this, List.getElem?_map]
    simp [nth, List.getD_eq_getElem?_getD, hi]
  exact ⟨⟨fun _ => ⟨g, 0, rfl, ⟨hb.1, hlt⟩, hc⟩, h2, h3⟩, hb.2.1, fun _ => ⟨g, 0, rfl, hb.1, hlt, fun i hi => ⟨⟨_, hc i hi⟩, hb.2.2 _⟩⟩⟩

end Go.Proofs.YtmemijccbmnaaaaGreat

namespace Go.Proofs.YtmemijccbmnaaaaGreat
set_option linter.unusedSimpArgs false
set_option linter.unusedVariables false
open Go.RowKit

theorem below_sets {B N : Nat} {a w : World} (h : Below B a w) (hN : B ≤ N) (v0 v1 v2 v3 v4 v5 v6 v7 : Value) :
    Below B a ((((((((w.setCell ⟨N, 0, none⟩ v0).setCell ⟨N, 1, none⟩ v1).setCell ⟨N, 2, none⟩ v2).setCell ⟨N, 3, none⟩ v3).setCell ⟨N, 4, none⟩ v4).setCell ⟨N, 5, none⟩ v5).setCell ⟨N, 6, none⟩ v6).setCell ⟨N, 7, none⟩ v7) :=
  puts_below hN [v0, v1, v2, v3, v4, v5, v6, v7] w 0 h
theorem sets_block {N b : Nat} (h : b ≠ N) (w : World) (v0 v1 v2 v3 v4 v5 v6 v7 : Value) :
    ((((((((w.setCell ⟨N, 0, none⟩ v0).setCell ⟨N, 1, none⟩ v1).setCell ⟨N, 2, none⟩ v2).setCell ⟨N, 3, none⟩ v3).setCell ⟨N, 4, none⟩ v4).setCell ⟨N, 5, none⟩ v5).setCell ⟨N, 6, none⟩ v6).setCell ⟨N, 7, none⟩ v7).heap[b]? = w.heap[b]? :=
  puts_block N b h [v0, v1, v2, v3, v4, v5, v6, v7] w 0
theorem sets_cells {w : World} {N : Nat} {c : Array Value} {T : TypeId} (hb : w.heap[N]? = some (.cells c T (0, 0))) (hc : c.size = 8) (v0 v1 v2 v3 v4 v5 v6 v7 : Value) (W : World)
    (hW : W.heap[N]? = ((((((((w.setCell ⟨N, 0, none⟩ v0).setCell ⟨N, 1, none⟩ v1).setCell ⟨N, 2, none⟩ v2).setCell ⟨N, 3, none⟩ v3).setCell ⟨N, 4, none⟩ v4).setCell ⟨N, 5, none⟩ v5).setCell ⟨N, 6, none⟩ v6).setCell ⟨N, 7, none⟩ v7).heap[N]?) :
    W.cell? ⟨N, 0, none⟩ = some v0 ∧ W.cell? ⟨N, 1, none⟩ = some v1 ∧ W.cell? ⟨N, 2, none⟩ = some v2 ∧ W.cell? ⟨N, 3, none⟩ = some v3 ∧ W.cell? ⟨N, 4, none⟩ = some v4 ∧ W.cell? ⟨N, 5, none⟩ = some v5 ∧ W.cell? ⟨N, 6, none⟩ = some v6 ∧ W.cell? ⟨N, 7, none⟩ = some v7 := by
  have hrow : w.rowIs N T 8 (fun i => c[i]?.getD undef) := ⟨c, hb, hc, fun i hi => by simp [show i < c.size by omega]⟩
  obtain ⟨G', hG, hG1, -⟩ := puts_row [v0, v1, v2, v3, v4, v5, v6, v7] 0 hrow
  have hG2 : W.rowIs N T 8 G' := hG.of_block hW
  have g : ∀ j, j < 8 → W.cell? ⟨N, j, none⟩ = some ([v0, v1, v2, v3, v4, v5, v6, v7].getD j undef) := fun j hj => by
    have := hG1 j hj
    rw [Nat.zero_add] at this
    rw [hG2.cell hj, this]
  exact ⟨g 0 (by omega), g 1 (by omega), g 2 (by omega), g 3 (by omega), g 4 (by omega), g 5 (by omega), g 6 (by omega), g 7 (by omega)⟩
theorem WStrs.mono {w w' : World} {lo hi n : Nat} {a : Option Addr} (h : WStrs w lo hi n a) (e : ∀ b, lo ≤ b → b < hi → w'.heap[b]? = w.heap[b]?) : WStrs w' lo hi n a := fun hn => by
  obtain ⟨b, off, ha, h1, h2, hc⟩ := h hn
  refine ⟨b, off, ha, h1, h2, fun i hi => ?_⟩
  obtain ⟨⟨s, hs⟩, hf⟩ := hc i hi
  exact ⟨⟨s, (World.cell?_of_block (w := w) (a := ⟨b, off + i, none⟩) (e b h1 h2)).trans hs⟩, (World.frozen?_of_block (w := w) (e b h1 h2)).trans hf⟩
theorem WStrs.wide {w : World} {lo hi lo' hi' n : Nat} {a : Option Addr} (h : WStrs w lo hi n a) (h1 : lo' ≤ lo) (h2 : hi ≤ hi') : WStrs w lo' hi' n a := fun hn => by
  obtain ⟨b, off, ha, x1, x2, hc⟩ := h hn
  exact ⟨b, off, ha, by omega, by omega, hc⟩

end Go.Proofs.YtmemijccbmnaaaaGreat

namespace Go.Proofs.YtmemijccbmnaaaaGreat
set_option linter.unusedSimpArgs false
set_option linter.unusedVariables false
open Go.RowKit

end Go.Proofs.YtmemijccbmnaaaaGreat

namespace Go.Proofs.YtmemijccbmnaaaaGreat
set_option linter.unusedSimpArgs false
set_option linter.unusedVariables false
open Go.RowKit

end Go.Proofs.YtmemijccbmnaaaaGreat

namespace Go.Proofs.YtmemijccbmnaaaaGreat
set_option linter.unusedSimpArgs false
set_option linter.unusedVariables false
open Go.RowKit

end Go.Proofs.YtmemijccbmnaaaaGreat

namespace Go.Proofs.YtmemijccbmnaaaaGreat
set_option linter.unusedSimpArgs false
set_option linter.unusedVariables false
open Go.RowKit

theorem nth_small {ns : List ByteArray} (h : ∀ x ∈ ns, x.size ≤ 2097153) (i : Nat) : (nth ns i).size ≤ maxLen := by
  unfold maxLen
  by_cases hi : i < ns.length
  · have : nth ns i = ns[i] := by simp [nth, List.getD_eq_getElem?_getD, hi]
    rw [this]
    have := h _ (List.getElem_mem hi)
    omega
  · have : nth ns i = ByteArray.empty := by simp [nth, List.getD_eq_getElem?_getD, List.getElem?_eq_none (Nat.le_of_not_lt hi)]
    rw [this]; simp

/-- What PartBreaks leaves: the texts in new memory that may be written. -/
def TextsNew (w w' : World) (ns : List ByteArray) (e : Ending) : Prop := ∃ (a : Option Addr) (c : Nat), e = .returned (.slice a ns.length c) ∧ ns.length ≤ c ∧ Below w.heap.size w w' ∧ Strs w' (fun b => w.heap.size ≤ b ∧ b < w'.heap.size) ns a ∧ WStrs w' w.heap.size w'.heap.size ns.length a
theorem TextsNew.nil {w w' : World} (hb : Below w.heap.size w w') : TextsNew w w' [] (.returned (.slice none 0 0)) :=
  ⟨none, 0, rfl, by simp, hb, ⟨fun h => absurd rfl h, fun i => by simp [nth], by simp⟩, fun h => by simp at h⟩
theorem TextsNew.own {w w' : World} {ns : List ByteArray} {v : Value} {base : Nat} (hb : Below w.heap.size w w') (h1 : w.heap.size ≤ base) (h : w'.ownsRow base 9 1 v ns.length (ns.map Value.string)) (h2 : ∀ x ∈ ns, x.size ≤ 2097153) (h3 : ns.length ≤ 1048576) : TextsNew w w' ns (.returned v) := by
  rcases h.2 with ⟨rfl, hn⟩ | ⟨g, cap, cur, rfl, hg, hh, hn, -⟩
  · have : ns = [] := by simpa using hn
    subst this
    exact TextsNew.nil hb
  · have hlt : g < w'.heap.size := by
      rcases Nat.lt_or_ge g w'.heap.size with h | h
      · exact h
      · simp [Array.getElem?_eq_none h] at hh
    obtain ⟨hS, hc, hW⟩ := strs_ownedW h (nth_small h2) (by unfold maxLen; omega) hlt
    exact ⟨_, _, rfl, hc, hb, hS.sub fun k hk => ⟨by omega, hk.2⟩, hW.wide h1 (Nat.le_refl _)⟩
end Go.Proofs.YtmemijccbmnaaaaGreat

namespace Go.Proofs.YtmemijccbmnaaaaGreat
set_option linter.unusedSimpArgs false
set_option linter.unusedVariables false
open Go.RowKit

end Go.Proofs.YtmemijccbmnaaaaGreat

namespace Go.Proofs.YtmemijccbmnaaaaGreat
set_option linter.unusedSimpArgs false
set_option linter.unusedVariables false
open Go.RowKit

theorem fieldResultG (FW : World) (tmps : Array Value) (N : Nat) (ok : Bool) (v0 v1 v2 v3 v4 v5 v6 v7 : Value) (h6 : tmps.getD 6 undef = .pointer (some ⟨N, 0, none⟩)) (h7 : tmps.getD 7 undef = .bool ok)
    (d0 : FW.cell? ⟨N, 0, none⟩ = some v0) (d1 : FW.cell? ⟨N, 1, none⟩ = some v1) (d2 : FW.cell? ⟨N, 2, none⟩ = some v2) (d3 : FW.cell? ⟨N, 3, none⟩ = some v3) (d4 : FW.cell? ⟨N, 4, none⟩ = some v4) (d5 : FW.cell? ⟨N, 5, none⟩ = some v5) (d6 : FW.cell? ⟨N, 6, none⟩ = some v6) (d7 : FW.cell? ⟨N, 7, none⟩ = some v7) :
    (results Tryz.f48 tmps).run Tryz.prog FW = .ok (.tuple #[.agg #[v0, v1, v2, v3, v4, v5, v6, v7], .bool ok]) FW := by
  simp only [Array.getD_eq_getD_getElem?] at h6 h7
  simp [results, Tryz.results48, go_sem, h6, h7, d0, d1, d2, d3, d4, d5, d6, d7]

/-- The field that l2Get tells. -/
def getF (p : Pt) (s f : ByteArray) : F := if 0 ≤ typeIx p s then fieldOr (typeOr p s) f else F.zero
def getB (p : Pt) (s f : ByteArray) : Bool := decide (0 ≤ typeIx p s) && decide (0 ≤ fieldIx (typeOr p s) f)

set_option maxRecDepth 20000 in
set_option maxHeartbeats 3200000 in
theorem l2Get_any (p : Pt) (s f : ByteArray) (w : World) (B : Nat) (v : Value) (hP : PRep w (· < B) p v) (hB : B ≤ w.heap.size) :
    Calls Tryz.prog 48 #[v, .string s, .string f] w fun e w' => ∃ (nm of : ByteArray) (l m fr hi sh : Bool) (na : Option Addr) (nc : Nat),
      e = .returned (.tuple #[.agg #[.string nm, .string of, .bool l, .bool m, .bool fr, .bool hi, .bool sh, .slice na (getF p s f).needs.length nc], .bool (getB p s f)]) ∧ Below w.heap.size w w' ∧
      FRep w' (· < B) (getF p s f) (.agg #[.string nm, .string of, .bool l, .bool m, .bool fr, .bool hi, .bool sh, .slice na (getF p s f).needs.length nc]) := by
  have hP' := hP
  obtain ⟨pname, types⟩ := p
  obtain ⟨ta, tc, rfl, hK, hnc, hpn⟩ := hP
  simp only at hK hnc hpn hP'
  obtain ⟨X, hXe⟩ : ∃ X, X = ((w.alloc (.cells #[.string pname, .slice ta types.length tc] 40)).alloc (.cells #[.string ByteArray.empty, .string ByteArray.empty, .bool false, .bool false, .bool false, .bool false, .bool false, .slice none 0 0] 103)) := ⟨_, rfl⟩
  have PC : ∀ W, Below (w.heap.size + 1 + 1) X W → W.cell? ⟨w.heap.size, 0, none⟩ = some (.string pname) ∧ W.cell? ⟨w.heap.size, 1, none⟩ = some (.slice ta types.length tc) ∧ W.heap[w.heap.size + 1]? = some (.cells #[.string ByteArray.empty, .string ByteArray.empty, .bool false, .bool false, .bool false, .bool false, .bool false, .slice none 0 0] 103 (0, 0)) ∧ Below w.heap.size w W ∧ w.heap.size + 1 < W.heap.size := fun W h => by
    subst hXe
    have hz := h.size
    simp at hz
    have a : ∀ i (hi : i < 2), W.cell? ⟨w.heap.size, i, none⟩ = some #[Value.string pname, .slice ta types.length tc][i] := fun i hi => (h.cell (p := ⟨w.heap.size, i, none⟩) (by show w.heap.size < _; omega)).trans (((below_box _ _).cell (p := ⟨w.heap.size, i, none⟩) (by show w.heap.size < _; simp)).trans (box_new _ _ i (by simpa using hi)))
    have hb : W.heap[w.heap.size + 1]? = some (.cells #[.string ByteArray.empty, .string ByteArray.empty, .bool false, .bool false, .bool false, .bool false, .bool false, .slice none 0 0] 103 (0, 0)) := (h.block (w.heap.size + 1) (by omega)).trans (by have := heap_alloc_new (w.alloc (.cells #[.string pname, .slice ta types.length tc] 40)) (.cells #[.string ByteArray.empty, .string ByteArray.empty, .bool false, .bool false, .bool false, .bool false, .bool false, .slice none 0 0] 103); simpa using this)
    exact ⟨a 0 (by omega), a 1 (by omega), hb, (below_box2 w _ _).trans (h.mono (by omega)), by omega⟩
  have hT0 : Below (w.heap.size + 1 + 1) X ((w.alloc (.cells #[.string pname, .slice ta types.length tc] 40)).alloc (.cells #[.string ByteArray.empty, .string ByteArray.empty, .bool false, .bool false, .bool false, .bool false, .bool false, .slice none 0 0] 103)) := by rw [hXe]; exact Below.refl _ _
  clear hXe
  have hBW := fun W (h : Below (w.heap.size + 1 + 1) X W) => show B ≤ W.heap.size by have := (PC W h).2.2.2.2; omega
  have hI := fun W h => l2Type_any ⟨pname, types⟩ W B _ s (hP'.under ((PC W h).2.2.2.1.mono hB)) (hBW W h)
  have HTX : Hid (typeIx ⟨pname, types⟩ s = firstTo (fun i => (tth types i).name.toList == s.toList) types.length) := rfl
  simp only at hI
  rw [← HTX.out] at hI
  have I1 := hI _ hT0
  rcases firstTo_cases (fun i => (tth types i).name.toList == s.toList) types.length with ⟨hx, -⟩ | ⟨g, hx, hg, -, -⟩
  · rw [← HTX.out] at hx
    have HA : Hid (getF ⟨pname, types⟩ s f = F.zero ∧ getB ⟨pname, types⟩ s f = false) := ⟨by rw [getF, if_neg (by rw [hx]; omega)], by rw [getB, hx]; simp⟩
    rw [hx] at I1
    clear hx
    go_enter Tryz.func48, Tryz.ntmps48
    go_wp2_with (first
      | (
        go_at_call 46
        refine I1.mono ?_
        rintro e w1 ⟨rfl, hb1⟩
        have hT1 := hT0.trans (hb1.mono (by simp))
        obtain ⟨q0, q1, hbx, hw1, hz1⟩ := PC w1 hT1
        obtain ⟨a0, b0⟩ := box_at hbx 0 (by simp)
        obtain ⟨a1, b1⟩ := box_at hbx 1 (by simp)
        obtain ⟨a2, b2⟩ := box_at hbx 2 (by simp)
        obtain ⟨a3, b3⟩ := box_at hbx 3 (by simp)
        obtain ⟨a4, b4⟩ := box_at hbx 4 (by simp)
        obtain ⟨a5, b5⟩ := box_at hbx 5 (by simp)
        obtain ⟨a6, b6⟩ := box_at hbx 6 (by simp)
        obtain ⟨a7, b7⟩ := box_at hbx 7 (by simp)))
    obtain ⟨d0, d1, d2, d3, d4, d5, d6, d7⟩ := sets_cells hbx rfl (.string ⟨#[]⟩) (.string ⟨#[]⟩) (.bool false) (.bool false) (.bool false) (.bool false) (.bool false) (.slice none 0 0) _ rfl
    refine bodyPost_ret (fieldResultG _ _ (w.heap.size + 1) false (.string ⟨#[]⟩) (.string ⟨#[]⟩) (.bool false) (.bool false) (.bool false) (.bool false) (.bool false) (.slice none 0 0) rfl rfl d0 d1 d2 d3 d4 d5 d6 d7) rfl ?_
    rw [HA.out.1, HA.out.2]
    exact ⟨_, _, _, _, _, _, _, _, _, rfl, below_sets hw1 (Nat.le_succ _) _ _ _ _ _ _ _ _, FRep.zero _ _⟩
  rw [← HTX.out] at hx
  have hto : typeOr ⟨pname, types⟩ s = tth types g := by rw [typeOr, if_pos (by rw [hx]; omega), hx]; rfl
  have HA0 : Hid (getF ⟨pname, types⟩ s f = fieldOr (tth types g) f ∧ getB ⟨pname, types⟩ s f = decide (0 ≤ fieldIx (tth types g) f)) := ⟨by rw [getF, if_pos (by rw [hx]; omega), hto], by rw [getB, hx, hto]; simp⟩
  rw [hx] at I1
  clear hx hto
  obtain ⟨b, off, fa, fc, rfl, htr, hcs⟩ := hK.at hB g hg
  obtain ⟨fa', fc', e0, e1, e2, hff, hffc, hs1, hs2⟩ := htr.parts
  simp only [Value.slice.injEq] at e2
  obtain ⟨rfl, -, rfl⟩ := e2
  clear e0 e1
  have hgi : (g : Int) < (types.length : Int) := by omega
  have hg0 : ¬ (g : Int) < 0 := by omega
  have hL := fun W h => l2Field_any (tth types g) W B _ f (htr.under ((PC W h).2.2.2.1.mono hB)) (hBW W h)
  have HFX : Hid (fieldIx (tth types g) f = firstTo (fun i => (fth (tth types g).fields i).name.toList == f.toList) (tth types g).fields.length) := rfl
  rcases firstTo_cases (fun i => (fth (tth types g).fields i).name.toList == f.toList) (tth types g).fields.length with ⟨hx, -⟩ | ⟨h, hx, hh, -, -⟩
  · rw [hx] at hL
    have HA : Hid (getF ⟨pname, types⟩ s f = F.zero ∧ getB ⟨pname, types⟩ s f = false) := ⟨by rw [HA0.out.1, fieldOr, if_neg (by rw [HFX.out, hx]; omega)], by rw [HA0.out.2, HFX.out, hx]; rfl⟩
    clear hx
    go_enter Tryz.func48, Tryz.ntmps48
    go_wp2_with (first
      | (
        go_at_call 46
        refine I1.mono ?_
        rintro e w1 ⟨rfl, hb1⟩
        have hT1 := hT0.trans (hb1.mono (by simp))
        obtain ⟨q0, q1, -, hw1, hz1⟩ := PC w1 hT1
        obtain ⟨c0, c1, c2⟩ := hcs w1 hw1)
      | (
        go_at_call 78
        refine (hL w1 hT1).mono ?_
        rintro e w3 ⟨rfl, hb3⟩
        have hT3 := hT1.trans (hb3.mono (by omega))
        obtain ⟨y0, y1, hbx, hw3, hz3⟩ := PC w3 hT3
        obtain ⟨a0, b0⟩ := box_at hbx 0 (by simp)
        obtain ⟨a1, b1⟩ := box_at hbx 1 (by simp)
        obtain ⟨a2, b2⟩ := box_at hbx 2 (by simp)
        obtain ⟨a3, b3⟩ := box_at hbx 3 (by simp)
        obtain ⟨a4, b4⟩ := box_at hbx 4 (by simp)
        obtain ⟨a5, b5⟩ := box_at hbx 5 (by simp)
        obtain ⟨a6, b6⟩ := box_at hbx 6 (by simp)
        obtain ⟨a7, b7⟩ := box_at hbx 7 (by simp)))
    obtain ⟨d0, d1, d2, d3, d4, d5, d6, d7⟩ := sets_cells hbx rfl (.string ⟨#[]⟩) (.string ⟨#[]⟩) (.bool false) (.bool false) (.bool false) (.bool false) (.bool false) (.slice none 0 0) _ rfl
    refine bodyPost_ret (fieldResultG _ _ (w.heap.size + 1) false (.string ⟨#[]⟩) (.string ⟨#[]⟩) (.bool false) (.bool false) (.bool false) (.bool false) (.bool false) (.slice none 0 0) rfl rfl d0 d1 d2 d3 d4 d5 d6 d7) rfl ?_
    rw [HA.out.1, HA.out.2]
    exact ⟨_, _, _, _, _, _, _, _, _, rfl, below_sets hw3 (Nat.le_succ _) _ _ _ _ _ _ _ _, FRep.zero _ _⟩
  rw [hx] at hL
  have HA : Hid (getF ⟨pname, types⟩ s f = fth (tth types g).fields h ∧ getB ⟨pname, types⟩ s f = true) := ⟨by rw [HA0.out.1, fieldOr, HFX.out, hx, if_pos (by omega)]; rfl, by rw [HA0.out.2, HFX.out, hx]; simp⟩
  clear hx HA0 HFX
  obtain ⟨fb, foff, na, nc, rfl, hfr, hcf⟩ := hff.at hB h hh
  have hhi : (h : Int) < ((tth types g).fields.length : Int) := by omega
  have hh0 : ¬ (h : Int) < 0 := by omega
  generalize fth (tth types g).fields h = ff at *
  go_enter Tryz.func48, Tryz.ntmps48
  go_wp2_with (first
    | (
      go_at_call 46
      refine I1.mono ?_
      rintro e w1 ⟨rfl, hb1⟩
      have hT1 := hT0.trans (hb1.mono (by simp))
      obtain ⟨q0, q1, -, hw1, hz1⟩ := PC w1 hT1
      obtain ⟨c0, c1, c2⟩ := hcs w1 hw1)
    | (
      go_at_call 78
      refine (hL w1 hT1).mono ?_
      rintro e w3 ⟨rfl, hb3⟩
      have hT3 := hT1.trans (hb3.mono (by omega))
      obtain ⟨y0, y1, hbx, hw3, hz3⟩ := PC w3 hT3
      obtain ⟨c30, c31, c32⟩ := hcs w3 hw3
      obtain ⟨g0, g1, g2, g3, g4, g5, g6, g7⟩ := hcf w3 hw3
      obtain ⟨a0, b0⟩ := box_at hbx 0 (by simp)
      obtain ⟨a1, b1⟩ := box_at hbx 1 (by simp)
      obtain ⟨a2, b2⟩ := box_at hbx 2 (by simp)
      obtain ⟨a3, b3⟩ := box_at hbx 3 (by simp)
      obtain ⟨a4, b4⟩ := box_at hbx 4 (by simp)
      obtain ⟨a5, b5⟩ := box_at hbx 5 (by simp)
      obtain ⟨a6, b6⟩ := box_at hbx 6 (by simp)
      obtain ⟨a7, b7⟩ := box_at hbx 7 (by simp)))
  obtain ⟨d0, d1, d2, d3, d4, d5, d6, d7⟩ := sets_cells hbx rfl (.string ff.name) (.string ff.of) (.bool ff.list) (.bool ff.must) (.bool ff.far) (.bool ff.hidden) (.bool ff.shared) (.slice na ff.needs.length nc) _ rfl
  refine bodyPost_ret (fieldResultG _ _ (w.heap.size + 1) true (.string ff.name) (.string ff.of) (.bool ff.list) (.bool ff.must) (.bool ff.far) (.bool ff.hidden) (.bool ff.shared) (.slice na ff.needs.length nc) rfl rfl d0 d1 d2 d3 d4 d5 d6 d7) rfl ?_
  rw [HA.out.1, HA.out.2]
  exact ⟨_, _, _, _, _, _, _, _, _, rfl, below_sets hw3 (Nat.le_succ _) _ _ _ _ _ _ _ _, hfr.mono fun k hk => (sets_block (by omega) _ _ _ _ _ _ _ _ _).trans (hw3.block k (by omega))⟩
end Go.Proofs.YtmemijccbmnaaaaGreat

namespace Go.Proofs.YtmemijccbmnaaaaGreat
set_option linter.unusedSimpArgs false
set_option linter.unusedVariables false
open Go.RowKit

theorem hid_of {q : Prop} (h : q) : Hid q := h
theorem Rep.form {w : World} {P : Nat → Prop} {x : V} {v : Value} (h : Rep w P x v) : ∃ (na ka : Option Addr) (nc kc : Nat), v = .agg #[.int .i64 x.sort, .int .i64 x.num, .string x.text, .slice na x.names.length nc, .slice ka x.kids.length kc] ∧ 16 * x.names.length ≤ 281474976710656 ∧ Kids w P x.kids ka := by
  obtain ⟨s, n, t, ns, ks⟩ := x
  obtain ⟨na, ka, nc, kc, h1, -, -, -, h5, h6⟩ := h.inv
  exact ⟨na, ka, nc, kc, h1, h5, h6⟩
end Go.Proofs.YtmemijccbmnaaaaGreat

namespace Go.Proofs.YtmemijccbmnaaaaGreat
set_option linter.unusedSimpArgs false
set_option linter.unusedVariables false
open Go.RowKit

theorem bytes_inj {a b : ByteArray} (h : a.toList = b.toList) : a = b := by
  rw [ByteArray.toList_eq, ByteArray.toList_eq] at h
  cases a; cases b
  simp at h
  rw [h]

/-- Which of the first k rows is the first one of a type with a number. -/
def fi (rs : List Ro) (t : ByteArray) (n : Int) : Nat → Option Nat
  | 0 => none
  | k + 1 => match fi rs t n k with
    | some i => some i
    | none => if (rth rs k).type = t ∧ (rth rs k).id = n then some k else none
theorem fi_lt {rs : List Ro} {t : ByteArray} {n : Int} : ∀ {k i : Nat}, fi rs t n k = some i → i < k
  | k + 1, i, h => by
    simp only [fi] at h
    split at h
    · rename_i j hj; simp at h; subst h; have := fi_lt hj; omega
    · split at h
      · simp at h; omega
      · cases h
theorem fi_more {rs : List Ro} {t : ByteArray} {n : Int} {k i : Nat} (h : fi rs t n k = some i) : ∀ m, fi rs t n (k + m) = some i
  | 0 => h
  | m + 1 => by
    have := fi_more h m
    show fi rs t n (k + m + 1) = some i
    simp only [fi, this]
theorem fi_at {rs : List Ro} {t : ByteArray} {n : Int} {k l : Nat} (h : fi rs t n k = none) (hk : k < l) (e : (rth rs k).type = t ∧ (rth rs k).id = n) : fi rs t n l = some k := by
  have h1 : fi rs t n (k + 1) = some k := by simp [fi, h, e]
  have := fi_more h1 (l - (k + 1))
  rwa [show k + 1 + (l - (k + 1)) = l by omega] at this
theorem fi_not {rs : List Ro} {t : ByteArray} {n : Int} {k : Nat} (h : fi rs t n k = none) (e : ¬ ((rth rs k).type = t ∧ (rth rs k).id = n)) : fi rs t n (k + 1) = none := by simp [fi, h, e]

/-- Which of the first k cells is the first one of a name. -/
def fc (cs : List Ce) (f : ByteArray) : Nat → Option Nat
  | 0 => none
  | k + 1 => match fc cs f k with
    | some i => some i
    | none => if (cth cs k).name = f then some k else none
theorem fc_lt {cs : List Ce} {f : ByteArray} : ∀ {k i : Nat}, fc cs f k = some i → i < k
  | k + 1, i, h => by
    simp only [fc] at h
    split at h
    · rename_i j hj; simp at h; subst h; have := fc_lt hj; omega
    · split at h
      · simp at h; omega
      · cases h
theorem fc_more {cs : List Ce} {f : ByteArray} {k i : Nat} (h : fc cs f k = some i) : ∀ m, fc cs f (k + m) = some i
  | 0 => h
  | m + 1 => by
    have := fc_more h m
    show fc cs f (k + m + 1) = some i
    simp only [fc, this]
theorem fc_at {cs : List Ce} {f : ByteArray} {k l : Nat} (h : fc cs f k = none) (hk : k < l) (e : (cth cs k).name = f) : fc cs f l = some k := by
  have h1 : fc cs f (k + 1) = some k := by simp [fc, h, e]
  have := fc_more h1 (l - (k + 1))
  rwa [show k + 1 + (l - (k + 1)) = l by omega] at this
theorem fc_not {cs : List Ce} {f : ByteArray} {k : Nat} (h : fc cs f k = none) (e : ¬ (cth cs k).name = f) : fc cs f (k + 1) = none := by simp [fc, h, e]

end Go.Proofs.YtmemijccbmnaaaaGreat

namespace Go.Proofs.YtmemijccbmnaaaaGreat
set_option linter.unusedSimpArgs false
set_option linter.unusedVariables false
open Go.RowKit

/-- A change as it is meant. -/
structure Ch where
  type : ByteArray
  id : Int
  field : ByteArray
  val : V
/-- The part knows what is changed. -/
def knB (p : Pt) (c : Ch) : Bool := getB p c.type c.field && !(getF p c.type c.field).far
/-- Why a change is refused, 0 if it is not. -/
def codeC (p : Pt) (rs : List Ro) (c : Ch) : Int :=
  if knB p c = false then 1 else if fi rs c.type c.id rs.length = none then 2 else if (c.field.toList == (typeOr p c.type).key.toList) = true then 3
  else if (c.val.sort == 7 || !fitS (getF p c.type c.field) c.val) = true then 4 else 0
/-- Cells with another value under a name. -/
def putC (cs : List Ce) (f : ByteArray) (x : V) : List Ce := cs.map fun c => if c.name = f then ⟨c.name, x⟩ else c
/-- Rows with another value in a row. -/
def putR (rs : List Ro) (i : Nat) (f : ByteArray) (x : V) : List Ro := rs.set i ⟨(rth rs i).type, (rth rs i).id, putC (rth rs i).cells f x⟩
/-- The rows behind a change, and its code. -/
def setRs (p : Pt) (rs : List Ro) (c : Ch) : List Ro :=
  if storeS p rs = false then [] else if codeC p rs c = 0 then putR rs ((fi rs c.type c.id rs.length).getD 0) c.field c.val else rs
def setCode (p : Pt) (rs : List Ro) (c : Ch) : Int := if storeS p rs = false then 1 else codeC p rs c

/-- The first cell of a name in the first row of a key that has one, among the first n rows. -/
def cTo (rs : List Ro) (c : Ch) : Nat → Option (Nat × Nat)
  | 0 => none
  | n + 1 => match cTo rs c n with
    | some q => some q
    | none => if (rth rs n).type = c.type ∧ (rth rs n).id = c.id then (fc (rth rs n).cells c.field (rth rs n).cells.length).map fun j => (n, j) else none

theorem fc_found {cs : List Ce} {f : ByteArray} : ∀ {n j : Nat}, fc cs f n = some j → ∃ m, m ≤ n ∧ fc cs f m = none ∧ fc cs f (m + 1) = some j ∧ (cth cs m).name = f ∧ j = m
  | 0, j, h => by simp [fc] at h
  | n + 1, j, h => by
    cases hf : fc cs f n with
    | some j' =>
      have h' : fc cs f (n + 1) = some j' := fc_more hf 1
      rw [h] at h'
      cases h'
      obtain ⟨m, h1, h2⟩ := fc_found hf
      exact ⟨m, by omega, h2⟩
    | none =>
      by_cases e : (cth cs n).name = f
      · have h' := fc_at hf (Nat.lt_succ_self n) e
        rw [h] at h'
        cases h'
        exact ⟨n, Nat.le_succ n, hf, h, e, rfl⟩
      · rw [fc_not hf e] at h; cases h
theorem fc_some {cs : List Ce} {f : ByteArray} : ∀ {n k : Nat}, k < n → (cth cs k).name = f → ∃ j, fc cs f n = some j ∧ (cth cs j).name = f
  | 0, k, h, _ => by omega
  | n + 1, k, h, e => by
    cases hf : fc cs f n with
    | some j =>
      have hj : fc cs f (n + 1) = some j := fc_more hf 1
      refine ⟨j, hj, ?_⟩
      by_cases hk : k < n
      · obtain ⟨j', h1, h2⟩ := fc_some hk e
        rw [hf] at h1
        cases h1
        exact h2
      · have hex : ∃ m, m ≤ n ∧ fc cs f m = none ∧ fc cs f (m + 1) = some j ∧ (cth cs m).name = f ∧ j = m := fc_found hf
        obtain ⟨m, -, -, -, h4, h5⟩ := hex
        rw [h5]; exact h4
    | none =>
      by_cases hk : k < n
      · obtain ⟨j', h1, h2⟩ := fc_some hk e
        rw [hf] at h1; cases h1
      · have : k = n := by omega
        subst this
        exact ⟨k, fc_at hf (Nat.lt_succ_self k) e, e⟩
theorem KF_sub (fs : List F) : ∀ n, n ≤ fs.length → (KF fs n).Sublist (fs.take n)
  | 0, _ => by simp [KF]
  | n + 1, h => by
    have ih := KF_sub fs n (by omega)
    have e : fs.take (n + 1) = fs.take n ++ [fth fs n] := by
      rw [List.take_succ_eq_append_getElem (by omega)]
      simp [fth, List.getD_eq_getElem?_getD, show n < fs.length by omega]
    rw [e, KF]
    split
    · exact ih.trans (List.sublist_append_left _ _)
    · exact ih.append (List.Sublist.refl _)
theorem once_nodup (t : T) : ∀ n, n ≤ t.fields.length → onceFTo t n = true → ((t.fields.take n).map F.name).Nodup
  | 0, _, _ => by simp
  | n + 1, h, ho => by
    rw [onceFTo_succ, Bool.and_eq_true] at ho
    have ih := once_nodup t n (by omega) ho.1
    rw [List.take_succ_eq_append_getElem (by omega), List.map_append, List.nodup_append]
    refine ⟨ih, by simp, fun a ha b hb e => ?_⟩
    simp only [List.map_cons, List.map_nil, List.mem_singleton] at hb
    obtain ⟨x, hx, rfl⟩ := List.mem_map.1 ha
    obtain ⟨i, hi, rfl⟩ := List.mem_iff_getElem.1 hx
    simp only [List.length_take] at hi
    have ho2 := ho.2
    unfold onceF at ho2
    rcases firstTo_cases (fun j => (fth t.fields j).name.toList == (fth t.fields n).name.toList) n with ⟨-, hp⟩ | ⟨k, e2, -⟩
    · have := hp i (by omega)
      have e1 : fth t.fields i = (t.fields.take n)[i] := by simp [fth, List.getD_eq_getElem?_getD, show i < t.fields.length by omega]
      have e3 : fth t.fields n = t.fields[n] := by simp [fth, List.getD_eq_getElem?_getD, show n < t.fields.length by omega]
      rw [e1, e3, e, hb] at this
      simp at this
    · rw [e2] at ho2; simp at ho2
theorem code_ok (p : Pt) : ∀ n k i, k + n ≤ badAt p k n → k ≤ i → i < k + n → typeCode p i = 0
  | 0, k, i, _, h1, h2 => by omega
  | n + 1, k, i, h, h1, h2 => by
    rw [badAt] at h
    by_cases e : typeCode p k = 0
    · rw [if_pos e] at h
      by_cases ei : i = k
      · rw [ei]; exact e
      · exact code_ok p n (k + 1) i (by omega) (by omega) (by omega)
    · rw [if_neg e] at h; omega
theorem okP_once {p : Pt} (h : okP p = true) : ∀ i, i < p.types.length → onceFTo (tth p.types i) (tth p.types i).fields.length = true := fun i hi => by
  simp only [okP, Bool.and_eq_true, Bool.not_eq_true', decide_eq_false_iff_not] at h
  obtain ⟨⟨⟨⟨a, b⟩, c⟩, d⟩, e⟩ := h
  have h1 := code_ok p p.types.length 0 i (by unfold badT at d; omega) (Nat.zero_le _) (by omega)
  unfold typeCode at h1
  by_cases h2 : typeNamesB (tth p.types i) = false
  · rw [if_pos h2] at h1; cases h1
  · rw [if_neg h2] at h1
    by_cases h3 : twiceB p.types i (tth p.types i) = true
    · rw [if_pos h3] at h1; cases h1
    · simp only [twiceB, Bool.or_eq_true, not_or, Bool.not_eq_true', Bool.not_eq_true] at h3
      simpa using h3.2
/-- What is known of rows of a store: their cells are their types' fields, by name, each once. -/
theorem store_row {p : Pt} {rs : List Ro} (h : storeS p rs = true) {i : Nat} (hi : i < rs.length) : 0 ≤ tIx p (rth rs i).type ∧ rowB (typeOr p (rth rs i).type) (rth rs i) = true ∧ ((rth rs i).cells.map Ce.name).Nodup := by
  simp only [storeS, Bool.and_eq_true] at h
  have h1 := allTo_at _ _ i hi h.2
  simp only [oneS, Bool.and_eq_true, decide_eq_true_eq] at h1
  obtain ⟨⟨h2, h3⟩, -⟩ := h1
  have h2' : 0 ≤ typeIx p (rth rs i).type := h2
  have e : typeOr p (rth rs i).type = tth p.types (tIx p (rth rs i).type).toNat := by unfold typeOr; rw [if_pos h2']; rfl
  have hk : (tIx p (rth rs i).type).toNat < p.types.length := by
    rcases tIx_bd p (rth rs i).type with ⟨-, hb⟩ | hb
    · omega
    · omega
  refine ⟨h2, by rw [e]; exact h3, ?_⟩
  have ho := okP_once h.1.1.1 _ hk
  have hn := once_nodup _ _ (Nat.le_refl _) ho
  rw [List.take_length] at hn
  have hs := KF_sub (tth p.types (tIx p (rth rs i).type).toNat).fields _ (Nat.le_refl _)
  rw [List.take_length] at hs
  have hn2 := hn.sublist (hs.map F.name)
  simp only [rowB, Bool.and_eq_true, decide_eq_true_eq] at h3
  obtain ⟨⟨-, hl⟩, hc⟩ := h3
  have he : (rth rs i).cells.map Ce.name = (KF (tth p.types (tIx p (rth rs i).type).toNat).fields (tth p.types (tIx p (rth rs i).type).toNat).fields.length).map F.name := by
    apply List.ext_getElem
    · simpa using hl
    · intro n h1 h2
      simp only [List.length_map] at h1 h2
      rw [List.getElem_map, List.getElem_map]
      have := List.all_eq_true.1 hc n (by simpa using h2)
      simp only [cellB, Bool.and_eq_true, beq_iff_eq] at this
      have hb := bytes_inj this.1.1
      simpa [cth, fth, List.getD_eq_getElem?_getD, h1, h2] using hb
  rw [he]
  exact hn2
/-- A row of a store has the cell of each field that its part knows. -/
theorem store_cell {p : Pt} {rs : List Ro} {c : Ch} (h : storeS p rs = true) (hk : knB p c = true) {i : Nat} (hi : i < rs.length) (ht : (rth rs i).type = c.type) : ∃ j, fc (rth rs i).cells c.field (rth rs i).cells.length = some j ∧ (cth (rth rs i).cells j).name = c.field := by
  obtain ⟨h1, h2, -⟩ := store_row h hi
  rw [ht] at h2
  simp only [knB, getB, Bool.and_eq_true, decide_eq_true_eq, Bool.not_eq_true'] at hk
  obtain ⟨⟨hk1, hk2⟩, hk3⟩ := hk
  unfold getF at hk3
  rw [if_pos hk1] at hk3
  unfold fieldOr at hk3
  rw [if_pos hk2] at hk3
  rcases firstTo_cases (fun i => (fth (typeOr p c.type).fields i).name.toList == c.field.toList) (typeOr p c.type).fields.length with ⟨e, -⟩ | ⟨m, e, hm, hq, -⟩
  · have : fieldIx (typeOr p c.type) c.field = -1 := e
    omega
  · have em : fieldIx (typeOr p c.type) c.field = m := e
    rw [em] at hk3
    simp only [Int.toNat_natCast] at hk3
    have hka := KF_at (typeOr p c.type).fields m _ hm hk3
    simp only [rowB, Bool.and_eq_true, decide_eq_true_eq] at h2
    obtain ⟨⟨-, hl⟩, hc⟩ := h2
    have := List.all_eq_true.1 hc (KF (typeOr p c.type).fields m).length (by simpa using hka.1)
    simp only [cellB, Bool.and_eq_true, beq_iff_eq] at this
    have hb := bytes_inj this.1.1
    rw [hka.2] at hb
    have hname : (fth (typeOr p c.type).fields m).name = c.field := bytes_inj (by simpa using hq)
    exact fc_some (k := (KF (typeOr p c.type).fields m).length) (by omega) (hb.trans hname)
theorem fi_hit {rs : List Ro} {t : ByteArray} {n : Int} : ∀ {k i : Nat}, fi rs t n k = some i → (rth rs i).type = t ∧ (rth rs i).id = n
  | 0, i, h => by simp [fi] at h
  | k + 1, i, h => by
    cases hf : fi rs t n k with
    | some i' =>
      have h' := fi_more hf 1
      rw [h] at h'
      cases h'
      exact fi_hit hf
    | none =>
      by_cases e : (rth rs k).type = t ∧ (rth rs k).id = n
      · have h' := fi_at hf (Nat.lt_succ_self k) e
        rw [h] at h'
        cases h'
        exact e
      · rw [fi_not hf e] at h; cases h
/-- Where the program finds what is changed. -/
theorem cTo_fi {p : Pt} {rs : List Ro} {c : Ch} (h : storeS p rs = true) (hk : knB p c = true) : ∀ n, n ≤ rs.length → cTo rs c n = (fi rs c.type c.id n).bind fun i => (fc (rth rs i).cells c.field (rth rs i).cells.length).map fun j => (i, j)
  | 0, _ => by simp [cTo, fi]
  | n + 1, hn => by
    have ih := cTo_fi h hk n (by omega)
    rw [cTo, ih]
    cases hf : fi rs c.type c.id n with
    | some i =>
      have hi := fi_lt hf
      have ht : (rth rs i).type = c.type := (fi_hit hf).1
      obtain ⟨j, hj, -⟩ := store_cell h hk (by omega : i < rs.length) ht
      rw [fi_more hf 1]
      simp [hj]
    | none =>
      by_cases e : (rth rs n).type = c.type ∧ (rth rs n).id = c.id
      · rw [fi_at hf (Nat.lt_succ_self n) e]
        simp [e]
      · rw [fi_not hf e]
        simp [e]
/-- Another value under a name that stands once. -/
theorem putC_set {cs : List Ce} {f : ByteArray} {x : V} {j : Nat} (hn : (cs.map Ce.name).Nodup) (hj : j < cs.length) (e : (cth cs j).name = f) : putC cs f x = cs.set j ⟨f, x⟩ := by
  apply List.ext_getElem
  · simp [putC]
  · intro n h1 h2
    have hn' : n < cs.length := by simpa [putC] using h1
    have ej : cs[j].name = f := by simpa [cth, List.getD_eq_getElem?_getD, hj] using e
    rw [List.getElem_set]
    simp only [putC, List.getElem_map]
    by_cases en : j = n
    · subst en
      rw [if_pos rfl, if_pos ej, ej]
    · rw [if_neg en, if_neg]
      intro e2
      have hp := List.pairwise_iff_getElem.1 hn
      rcases Nat.lt_or_gt_of_ne en with h | h
      · exact hp j n (by simpa using hj) (by simpa using hn') h (by simp [ej, e2])
      · exact hp n j (by simpa using hn') (by simpa using hj) h (by simp [ej, e2])
end Go.Proofs.YtmemijccbmnaaaaGreat

namespace Go.Proofs.YtmemijccbmnaaaaGreat
set_option linter.unusedSimpArgs false
set_option linter.unusedVariables false
open Go.RowKit

/-- A place as the model tells it: -1 for none. -/
def fiI : Option Nat → Int
  | none => -1
  | some i => (i : Nat)

set_option maxHeartbeats 800000 in
theorem l4Find_any (rs : List Ro) (t : ByteArray) (n : Int) (w : World) (P : Nat → Prop) (a : Option Addr) (c : Nat) (hR : RoReps w P rs a) :
    Calls Tryz.prog 49 #[.slice a rs.length c, .string t, .int .i64 n] w fun e w' => e = .returned (.int .i64 (fiI (fi rs t n rs.length))) ∧ ∃ m, w' = w.drewN m := by
  obtain ⟨h3, C, hA, hr⟩ := hR
  go_enter Tryz.func49, Tryz.ntmps49
  go_wp2_with fail
  go_loopw [7] (fun i wr => ∃ k : Nat, k ≤ rs.length ∧ i = .int .i64 k ∧ wr = w ∧ fi rs t n k = none) (fun i _ => rs.length - (intOf i).toNat)
  case atStart => exact ⟨0, Nat.zero_le _, rfl, rfl, rfl⟩
  case round =>
    obtain ⟨k, hk, rfl, rfl, hf⟩ := hrel
    have HF := hid_of hf
    clear hf
    by_cases hlt : k < rs.length
    · have hki : (k : Int) < (rs.length : Int) := by omega
      obtain ⟨b, off, rfl, hbB, hc⟩ := hA (by omega)
      obtain ⟨fa, fc', e0, e1, e2, -⟩ := (hr k hlt).pieces
      have hc0 : wr.cell? ⟨b, off + k * 3, none⟩ = some (.string (rth rs k).type) := e0 ▸ hc k hlt 0 (by omega)
      have hc1 : wr.cell? ⟨b, off + k * 3 + 1, none⟩ = some (.int .i64 (rth rs k).id) := e1 ▸ hc k hlt 1 (by omega)
      clear hc hA hr e0 e1 e2
      cases h1 : ((rth rs k).type.toList == t.toList)
      · have HE := hid_of (show ¬ ((rth rs k).type = t ∧ (rth rs k).id = n) from fun e => by rw [e.1] at h1; simp at h1)
        go_wp2_with fail
        go_roundw
        case rel => exact ⟨k + 1, by omega, by go_num, trivial, fi_not HF.out HE.out⟩
        case measure => simp [intOf]; omega
      · by_cases h2 : (rth rs k).id = n
        · have HE := hid_of (fi_at HF.out hlt ⟨bytes_inj (by simpa using h1), h2⟩)
          go_wp2_with fail
          go_ret
          exact ⟨by rw [HE.out]; rfl, 0, rfl⟩
        · have HE := hid_of (show ¬ ((rth rs k).type = t ∧ (rth rs k).id = n) from fun e => h2 e.2)
          go_wp2_with fail
          go_roundw
          case rel => exact ⟨k + 1, by omega, by go_num, trivial, fi_not HF.out HE.out⟩
          case measure => simp [intOf]; omega
    · have e : k = rs.length := by omega
      subst e
      go_wp2_with fail
      go_ret
      exact ⟨by rw [HF.out]; rfl, 0, rfl⟩
end Go.Proofs.YtmemijccbmnaaaaGreat
