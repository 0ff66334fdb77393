/-
  ChartOwner, the program's and the model's: the parts of the first owner of that type and field.
-/
import Derived.Test.YtkecmamjebkonaaCRep
import Derived.Deep.AppendLies
import Derived.Laws.AppendOwnNone
namespace Go.Proofs.Ytkecmamjebkonaa
set_option linter.unusedSimpArgs false
set_option linter.unusedVariables false
open Go.RowKit

/-- An owner that is looked for. -/
def hitO (os : List O) (s f : ByteArray) (i : Nat) : Bool := (oth os i).type.toList == s.toList && (oth os i).field.toList == f.toList
/-- What ChartOwner answers. -/
def ownL (os : List O) (s f : ByteArray) : List Int := match (List.range os.length).find? (hitO os s f) with
  | some i => (oth os i).parts
  | none => []
theorem ownL_none {os : List O} {s f : ByteArray} (h : ∀ i, i < os.length → hitO os s f i = false) : ownL os s f = [] := by
  have : (List.range os.length).find? (hitO os s f) = none := by
    rw [List.find?_eq_none]; intro i hi; simpa using h i (by simpa using hi)
  rw [ownL, this]
theorem ownL_hit {os : List O} {s f : ByteArray} {k : Nat} (h : ∀ i, i < k → hitO os s f i = false) (hk : hitO os s f k = true) (hn : k < os.length) : ownL os s f = (oth os k).parts := by
  have : (List.range os.length).find? (hitO os s f) = some k := by
    rw [List.find?_range_eq_some]
    exact ⟨hk, by simpa using hn, fun i hi => by simpa using h i hi⟩
  rw [ownL, this]
theorem ownL_len (os : List O) (s f : ByteArray) (hz : szOs os ≤ 1048576) : (ownL os s f).length ≤ 1048576 := by
  rw [ownL]
  split
  · exact parts_small os hz _
  · simp

/-- What a function leaves that answers new numbers. -/
def IntsNew (w w' : World) (ns : List Int) (e : Ending) : Prop := ∃ (a : Option Addr) (c : Nat), e = .returned (.slice a ns.length c) ∧ Below w.heap.size w w' ∧ Ints w' (fun b => w.heap.size ≤ b ∧ b < w'.heap.size) ns a ∧ WInts w' w.heap.size w'.heap.size ns.length a
theorem ith_map (ns : List Int) (j : Nat) (u : Value) (h : (ns.map (Value.int .i64))[j]? = some u) : j < ns.length ∧ u = .int .i64 (ith ns j) := by
  rw [List.getElem?_map] at h
  obtain ⟨b, hb, rfl⟩ := Option.map_eq_some_iff.1 h
  obtain ⟨hj, rfl⟩ := List.getElem?_eq_some_iff.1 hb
  exact ⟨hj, by simp [ith, List.getD_eq_getElem?_getD, hj]⟩
theorem frozen_cellsN {w : World} {g : Nat} {cur : Array Value} {e : TypeId} (h : w.heap[g]? = some (.cells cur e (0, 0))) (o : Nat) : w.frozen? ⟨g, o, none⟩ = false := by simp [World.frozen?, h]
theorem ints_owned {w : World} {base : Nat} {ns : List Int} {g cap : Nat} (h : w.ownsRow base 3 1 (.slice (some ⟨g, 0, none⟩) ns.length cap) ns.length (ns.map (Value.int .i64))) (h3 : 8 * ns.length ≤ 281474976710656) (hlt : g < w.heap.size) :
    Ints w (fun b => base ≤ b ∧ b < w.heap.size) ns (some ⟨g, 0, none⟩) ∧ WInts w base w.heap.size ns.length (some ⟨g, 0, none⟩) := by
  have hb : base ≤ g ∧ ns.length ≤ cap ∧ ∀ o, w.frozen? ⟨g, o, none⟩ = false := by
    rcases h.2 with ⟨h', _⟩ | ⟨g', cap', cur, h', hb, hh, hn, _⟩
    · simp at h'
    · simp only [Value.slice.injEq, Option.some.injEq, Addr.mk.injEq, and_true, true_and] at h'
      obtain ⟨rfl, rfl⟩ := h'
      exact ⟨hb, hn, frozen_cellsN hh⟩
  have hc : ∀ i, i < ns.length → w.cell? ⟨g, 0 + i, none⟩ = some (.int .i64 (ith ns i)) := fun i hi => by
    have := h.cellAt i (by omega)
    rw [Nat.zero_add, this, List.getElem?_map]
    simp [ith, List.getD_eq_getElem?_getD, hi]
  exact ⟨⟨h3, fun _ => ⟨g, 0, rfl, ⟨hb.1, hlt⟩, hc⟩⟩, fun _ => ⟨g, 0, rfl, hb.1, hlt, fun i hi => ⟨⟨_, hc i hi⟩, hb.2.2 _⟩⟩⟩
theorem below_grownN {B : Nat} {a w w' : World} (h : Below B a w) (hg : w.grownBy w' none) (hB : B ≤ w.heap.size) : Below B a w' :=
  h.trans ⟨hg.os, hg.tape, hg.output, hg.size, fun k hk => hg.block k (by omega) (by simp)⟩

set_option maxHeartbeats 1600000 in
theorem ChartOwnerI_any (c : Ch) (s f : ByteArray) (w : World) (B : Nat) (v : Value) (hR : CRep w (· < B) c v) (hB : B ≤ w.heap.size) (hz : szC c ≤ 1048576) :
    Calls Try.prog 7 #[v, .string s, .string f] w fun e w' => IntsNew w w' (ownL c.owners s f) e := by
  obtain ⟨ta, oa, tc, oc, rfl, hP, hO, hoc⟩ := hR
  obtain ⟨⟨name, types⟩, owners⟩ := c
  simp only at hP hO hoc ⊢
  have hps := parts_small owners (by have : szC ⟨⟨name, types⟩, owners⟩ = szP ⟨name, types⟩ + szOs owners := rfl; omega)
  obtain ⟨h3, C, hA, hr⟩ := hO
  obtain ⟨i0, hi, hz0, hz1, hz2⟩ := info_parts info3
  clear hP
  go_enter Try.func7, Try.ntmps7
  go_wp2_with fail
  go_loopw [12] (fun i wr => ∃ k : Nat, k ≤ owners.length ∧ i = .int .i64 k ∧ Below w.heap.size w wr ∧ ∀ j, j < k → hitO owners s f j = false) (fun i _ => owners.length - (intOf i).toNat)
  case atStart => exact ⟨0, Nat.zero_le _, rfl, below_box _ _, fun j hj => by omega⟩
  case round =>
    obtain ⟨k, hk, rfl, hbel, hno⟩ := hrel
    obtain ⟨w0, rfl⟩ : ∃ x, x = wr := ⟨wr, rfl⟩
    have HNO : Hid (∀ j, j < k → hitO owners s f j = false) := hno
    clear hno
    by_cases hlt : k < owners.length
    · have hki : (k : Int) < (owners.length : Int) := by omega
      obtain ⟨b, off, rfl, hbB, hc⟩ := hA (by omega)
      obtain ⟨fa, fc, e0, e1, e2, hI, -⟩ := (hr k hlt).pieces
      have hck : ∀ j, j < 3 → w0.cell? ⟨b, off + k * 3 + j, none⟩ = some (C k j) := fun j hj => (hbel.cell (p := ⟨b, off + k * 3 + j, none⟩) (by show b < _; omega)).trans (hc k hlt j hj)
      have hc0 : w0.cell? ⟨b, off + k * 3, none⟩ = some (C k 0) := hck 0 (by omega)
      have hc1 : w0.cell? ⟨b, off + k * 3 + 1, none⟩ = some (C k 1) := hck 1 (by omega)
      have hc2 : w0.cell? ⟨b, off + k * 3 + 2, none⟩ = some (C k 2) := hck 2 (by omega)
      rw [e0] at hc0
      rw [e1] at hc1
      rw [e2] at hc2
      have hpk := hps k
      have HH : Hid (hitO owners s f k = ((oth owners k).type.toList == s.toList && (oth owners k).field.toList == f.toList)) := rfl
      have z0 := hbel.size
      clear hck hc hA hr e0 e1 e2
      cases h1 : ((oth owners k).type.toList == s.toList)
      · go_wp2_with fail
        go_roundw
        case rel => exact ⟨k + 1, by omega, by go_num, hbel.alloc (by omega) _, fun j hj => by
          by_cases e : j = k
          · rw [e, HH.out, h1]; rfl
          · exact HNO.out j (by omega)⟩
        case measure => simp [intOf]; omega
      · cases h2 : ((oth owners k).field.toList == f.toList)
        · go_wp2_with fail
          go_roundw
          case rel => exact ⟨k + 1, by omega, by go_num, hbel.alloc (by omega) _, fun j hj => by
            by_cases e : j = k
            · rw [e, HH.out, h1, h2]; rfl
            · exact HNO.out j (by omega)⟩
          case measure => simp [intOf]; omega
        · have HE : Hid (ownL owners s f = (oth owners k).parts) := ownL_hit HNO.out (by rw [HH.out, h1, h2]; rfl) hlt
          by_cases hn0 : (oth owners k).parts.length = 0
          · have hns : (oth owners k).parts = [] := by simpa using hn0
            rw [hn0] at hc2
            cases fa
            all_goals
              go_wp2_with fail
              go_ret
              exact ⟨none, 0, by rw [HE.out, hns]; rfl, hbel.alloc (by omega) _, by rw [HE.out, hns]; exact Ints.nil _ _ _, by rw [HE.out, hns]; intro h; simp at h⟩
          · obtain ⟨b', off', rfl, hbB', hcc⟩ := hI.2 (by omega)
            have bx := below_box w0 (.cells #[.string (oth owners k).type, .string (oth owners k).field, .slice (some ⟨b', off', none⟩) (oth owners k).parts.length fc] 46)
            have hcx : ∀ i, i < (oth owners k).parts.length → (w0.alloc (.cells #[.string (oth owners k).type, .string (oth owners k).field, .slice (some ⟨b', off', none⟩) (oth owners k).parts.length fc] 46)).cell? ⟨b', off' + i, none⟩ = some (.int .i64 (ith (oth owners k).parts i)) := fun i hi => (bx.cell (p := ⟨b', off' + i, none⟩) (by show b' < _; omega)).trans ((hbel.cell (p := ⟨b', off' + i, none⟩) (by show b' < _; omega)).trans (hcc i hi))
            clear hcc bx
            go_wp2_with (at_builtin; refine wpList_append_lies _ rfl _ _ 29 rfl (w0.heap.size + 1) 3 i0 (.int .i64 0) 1 8 Try.underlying29 hi hz0 hz1 hz2 rfl (by decide) (.slice none 0 0) 0 [] rfl (World.ownsRow_nil _ _ _ _) ⟨b', off', none⟩ (oth owners k).parts.length fc ((oth owners k).parts.map (Value.int .i64)) rfl (by simp) ?c1 ?c2 (by omega) ?c3 (by omega) (by simp) _ rfl ?_)
            case c1 =>
              intro j u hj
              obtain ⟨hj', rfl⟩ := ith_map _ j u hj
              rw [Addr.add_lit]
              exact hcx j hj'
            case c2 => intro u hu; simp at hu; obtain ⟨x, -, rfl⟩ := hu; rfl
            case c3 => unfold maxLen; omega
            intro g cap w1 hown hgrow hat hlt1
            go_wp2_with fail
            go_ret
            have hS := ints_owned (base := w0.heap.size + 1) (by simpa using hown) hI.1 hlt1
            refine ⟨some ⟨g, 0, none⟩, cap, ?_, below_grownN (hbel.alloc (by omega) _) hgrow (by simp; omega), ?_, ?_⟩
            · rw [HE.out]; simp
            · rw [HE.out]; exact hS.1.sub fun x hx => by omega
            · rw [HE.out]; intro h0; obtain ⟨b2, o2, q1, q2, q3, q4⟩ := hS.2 h0; exact ⟨b2, o2, q1, by omega, q3, q4⟩
    · go_wp2_with fail
      go_ret
      have e : k = owners.length := by omega
      subst e
      have HE : ownL owners s f = [] := ownL_none HNO.out
      exact ⟨none, 0, by rw [HE]; rfl, hbel, by rw [HE]; exact Ints.nil _ _ _, by rw [HE]; intro h; simp at h⟩
end Go.Proofs.Ytkecmamjebkonaa
