import Derived.Test.YtbpdchlbhfjddaaGreatJ1
import Derived.Test.YtbpdchlbhfjddaaGreatJ4
import Derived.Test.YtbpdchlbhfjddaaGreatJ5
import Derived.Test.YtbpdchlbhfjddaaGreatCopyS
import Derived.Test.YtbpdchlbhfjddaaGreatJ2
import Derived.Deep.AppendLies
import Derived.Laws.AppendOwnNone
import Derived.Test.YtbpdchlbhfjddaaGreatJ3
import Derived.Deep.RegionLaw
import Derived.Deep.RegionHeld3
import Derived.Deep.DeepCutAuto
namespace Go.Proofs.YtbpdchlbhfjddaaGreat
set_option linter.unusedSimpArgs false
set_option linter.unusedVariables false
open Go.RowKit Go.Maps

/-- A row's key. -/
def rk (t : ByteArray) (n : Int) : Value := .agg #[.string t, .int .i64 n]
theorem rk_inj {t t' : ByteArray} {n n' : Int} (h : rk t n = rk t' n') : t = t' ∧ n = n' := by
  simp [rk] at h
  exact h
def RK (v : Value) : Prop := ∃ t n, v = rk t n

theorem rk_part0 (w : World) (t : ByteArray) (n : Int) : (part 9 #[.string t, .int .i64 n] 0).run Tryz.prog w = .ok (.string t) w := by kernel_rfl
theorem rk_part1 (w : World) (t : ByteArray) (n : Int) : (part 3 #[.string t, .int .i64 n] 1).run Tryz.prog w = .ok (.int .i64 n) w := by kernel_rfl
theorem rk_str : Tryz.prog.underlying 9 = some .string := by kernel_rfl
theorem rk_int : Tryz.prog.underlying 3 = some (.int .i64) := by kernel_rfl

theorem bytes_inj {a b : ByteArray} (h : a.toList = b.toList) : a = b := by
  rw [ByteArray.toList_eq, ByteArray.toList_eq] at h
  cases a; cases b
  simp at h
  rw [h]
/-- Which of the first k rows is the first one of a type with a number. -/
def fi (rs : List Ro) (t : ByteArray) (n : Int) : Nat → Option Nat
  | 0 => none
  | k + 1 => match fi rs t n k with
    | some i => some i
    | none => if (rth rs k).type = t ∧ (rth rs k).id = n then some k else none
theorem fi_lt {rs : List Ro} {t : ByteArray} {n : Int} : ∀ {k i : Nat}, fi rs t n k = some i → i < k
  | k + 1, i, h => by
    simp only [fi] at h
    split at h
    · rename_i j hj; simp at h; subst h; have := fi_lt hj; omega
    · split at h
      · simp at h; omega
      · cases h
theorem fi_more {rs : List Ro} {t : ByteArray} {n : Int} {k i : Nat} (h : fi rs t n k = some i) : ∀ m, fi rs t n (k + m) = some i
  | 0 => h
  | m + 1 => by
    have := fi_more h m
    show fi rs t n (k + m + 1) = some i
    simp only [fi, this]
theorem fi_at {rs : List Ro} {t : ByteArray} {n : Int} {k l : Nat} (h : fi rs t n k = none) (hk : k < l) (e : (rth rs k).type = t ∧ (rth rs k).id = n) : fi rs t n l = some k := by
  have h1 : fi rs t n (k + 1) = some k := by simp [fi, h, e]
  have := fi_more h1 (l - (k + 1))
  rwa [show k + 1 + (l - (k + 1)) = l by omega] at this
theorem fi_not {rs : List Ro} {t : ByteArray} {n : Int} {k : Nat} (h : fi rs t n k = none) (e : ¬ ((rth rs k).type = t ∧ (rth rs k).id = n)) : fi rs t n (k + 1) = none := by simp [fi, h, e]

/-- Which of the first k cells is the first one of a name. -/
def fc (cs : List Ce) (f : ByteArray) : Nat → Option Nat
  | 0 => none
  | k + 1 => match fc cs f k with
    | some i => some i
    | none => if (cth cs k).name = f then some k else none
theorem fc_lt {cs : List Ce} {f : ByteArray} : ∀ {k i : Nat}, fc cs f k = some i → i < k
  | k + 1, i, h => by
    simp only [fc] at h
    split at h
    · rename_i j hj; simp at h; subst h; have := fc_lt hj; omega
    · split at h
      · simp at h; omega
      · cases h
theorem fc_more {cs : List Ce} {f : ByteArray} {k i : Nat} (h : fc cs f k = some i) : ∀ m, fc cs f (k + m) = some i
  | 0 => h
  | m + 1 => by
    have := fc_more h m
    show fc cs f (k + m + 1) = some i
    simp only [fc, this]
theorem fc_at {cs : List Ce} {f : ByteArray} {k l : Nat} (h : fc cs f k = none) (hk : k < l) (e : (cth cs k).name = f) : fc cs f l = some k := by
  have h1 : fc cs f (k + 1) = some k := by simp [fc, h, e]
  have := fc_more h1 (l - (k + 1))
  rwa [show k + 1 + (l - (k + 1)) = l by omega] at this
theorem fc_not {cs : List Ce} {f : ByteArray} {k : Nat} (h : fc cs f k = none) (e : ¬ (cth cs k).name = f) : fc cs f (k + 1) = none := by simp [fc, h, e]

/-- What is got: the value of the first cell of a name in the first row of a type with a number. -/
def got (rs : List Ro) (t : ByteArray) (n : Int) (f : ByteArray) : Option V :=
  match fi rs t n rs.length with
  | none => none
  | some i => match fc (rth rs i).cells f (rth rs i).cells.length with
    | none => none
    | some j => some (cth (rth rs i).cells j).val

/-- The map of a store: under each key the place of its first row. -/
def Places (rs : List Ro) (k : Nat) (G : Value → Option Value) : Prop := ∀ t n, G (rk t n) = (fi rs t n k).map fun i => .int .i64 (i : Nat)
theorem Places.next {rs : List Ro} {k : Nat} {G : Value → Option Value} (h : Places rs k G) (hs : fi rs (rth rs k).type (rth rs k).id k ≠ none) : Places rs (k + 1) G := by
  intro t n
  rw [h t n]
  by_cases e : (rth rs k).type = t ∧ (rth rs k).id = n
  · obtain ⟨rfl, rfl⟩ := e
    cases hf : fi rs (rth rs k).type (rth rs k).id k with
    | none => exact absurd hf hs
    | some i => simp [fi, hf]
  · cases hf : fi rs t n k with
    | none => rw [fi_not hf e]
    | some i => simp [fi, hf]
theorem Places.put {rs : List Ro} {k : Nat} {G G' : Value → Option Value} (h : Places rs k G) (hs : fi rs (rth rs k).type (rth rs k).id k = none) (h1 : G' (rk (rth rs k).type (rth rs k).id) = some (.int .i64 (k : Nat))) (h2 : ∀ y, y ≠ rk (rth rs k).type (rth rs k).id → G' y = G y) : Places rs (k + 1) G' := by
  intro t n
  by_cases e : (rth rs k).type = t ∧ (rth rs k).id = n
  · obtain ⟨rfl, rfl⟩ := e
    rw [h1]
    simp [fi, hs]
  · rw [h2 _ (fun h => e (by have := rk_inj h; exact ⟨this.1.symm, this.2.symm⟩)), h t n]
    cases hf : fi rs t n k with
    | none => rw [fi_not hf e]
    | some i => simp [fi, hf]
end Go.Proofs.YtbpdchlbhfjddaaGreat

namespace Go.Proofs.YtbpdchlbhfjddaaGreat
set_option linter.unusedSimpArgs false
set_option linter.unusedVariables false
open Go.RowKit

/-- Five cells of a block. -/
def Five (w : World) (N : Nat) (c0 c1 c2 c3 c4 : Value) : Prop :=
  w.cell? ⟨N, 0, none⟩ = some c0 ∧ w.cell? ⟨N, 1, none⟩ = some c1 ∧ w.cell? ⟨N, 2, none⟩ = some c2 ∧ w.cell? ⟨N, 3, none⟩ = some c3 ∧ w.cell? ⟨N, 4, none⟩ = some c4
theorem Five.new (w : World) (c0 c1 c2 c3 c4 : Value) (T : TypeId) : Five (w.alloc (.cells #[c0, c1, c2, c3, c4] T)) w.heap.size c0 c1 c2 c3 c4 := by
  simp [Five]
theorem Five.keep {w w' : World} {N : Nat} {c0 c1 c2 c3 c4 : Value} (h : Five w N c0 c1 c2 c3 c4) (hb : Below w.heap.size w w') (hN : N < w.heap.size) : Five w' N c0 c1 c2 c3 c4 :=
  ⟨(hb.cell (p := ⟨N, 0, none⟩) hN).trans h.1, (hb.cell (p := ⟨N, 1, none⟩) hN).trans h.2.1, (hb.cell (p := ⟨N, 2, none⟩) hN).trans h.2.2.1, (hb.cell (p := ⟨N, 3, none⟩) hN).trans h.2.2.2.1, (hb.cell (p := ⟨N, 4, none⟩) hN).trans h.2.2.2.2⟩

end Go.Proofs.YtbpdchlbhfjddaaGreat

namespace Go.Proofs.YtbpdchlbhfjddaaGreat
set_option linter.unusedSimpArgs false
set_option linter.unusedVariables false
open Go.RowKit

theorem below_grown {B : Nat} {a w w' : World} (h : Below B a w) (hg : w.grownBy w' none) (hB : B ≤ w.heap.size) : Below B a w' :=
  h.trans ⟨hg.os, hg.tape, hg.output, hg.size, fun k hk => hg.block k (by omega) (by simp)⟩
theorem nth_map (ns : List ByteArray) (j : Nat) (u : Value) (h : (ns.map Value.string)[j]? = some u) : j < ns.length ∧ u = .string (nth ns j) := by
  rw [List.getElem?_map] at h
  obtain ⟨b, hb, rfl⟩ := Option.map_eq_some_iff.1 h
  obtain ⟨hj, rfl⟩ := List.getElem?_eq_some_iff.1 hb
  exact ⟨hj, by simp [nth, List.getD_eq_getElem?_getD, hj]⟩
theorem strs_owned {w : World} {base : Nat} {ns : List ByteArray} {g cap : Nat} (h : w.ownsRow base 9 1 (.slice (some ⟨g, 0, none⟩) ns.length cap) ns.length (ns.map Value.string)) (h2 : ∀ i, (nth ns i).size ≤ maxLen) (h3 : ns.length ≤ maxLen) (hlt : g < w.heap.size) :
    Strs w (fun b => base ≤ b ∧ b < w.heap.size) ns (some ⟨g, 0, none⟩) ∧ ns.length ≤ cap := by
  have hb : base ≤ g ∧ ns.length ≤ cap := by
    rcases h.2 with ⟨h', _⟩ | ⟨g', cap', cur, h', hb, _, hn, _⟩
    · simp at h'
    · simp only [Value.slice.injEq, Option.some.injEq, Addr.mk.injEq, and_true, true_and] at h'
      obtain ⟨rfl, rfl⟩ := h'
      exact ⟨hb, hn⟩
  refine ⟨⟨fun _ => ⟨g, 0, rfl, ⟨hb.1, hlt⟩, fun i hi => ?_⟩, h2, h3⟩, hb.2⟩
  have := h.cellAt i (by omega)
  rw [Nat.zero_add, this, List.getElem?_map]
  simp [nth, List.getD_eq_getElem?_getD, hi]

set_option maxHeartbeats 400000 in
theorem copyTexts_any (ns : List ByteArray) (a : Option Addr) (c : Nat) (w : World) (P : Nat → Prop) (hS : Strs w P ns a) (hb : 16 * ns.length ≤ 140737488355328) :
    Calls Tryz.prog 73 #[.slice a ns.length c] w fun e w' => ∃ (a' : Option Addr) (c' : Nat), e = .returned (.slice a' ns.length c') ∧ ns.length ≤ c' ∧ Below w.heap.size w w' ∧ Strs w' (fun b => w.heap.size ≤ b ∧ b < w'.heap.size) ns a' ∧ ∀ b o, a' = some ⟨b, o, none⟩ → (w.heap.size ≤ b ∧ b < w'.heap.size) ∧ ∀ i, w'.frozen? ⟨b, i, none⟩ = false := by
  obtain ⟨h1, h2, h3⟩ := hS
  obtain ⟨i0, hi, hz0, hz1, hz2⟩ := info_parts info9
  by_cases hn0 : ns.length = 0
  · have hns : ns = [] := by simpa using hn0
    subst hns
    cases a with
    | none =>
      go_enter Tryz.func73, Tryz.ntmps73
      go_wp2_with fail
      go_ret
      exact ⟨none, 0, rfl, by simp, Below.refl _ _, ⟨fun h => absurd rfl h, h2, h3⟩, fun b o h => by cases h⟩
    | some ad =>
      go_enter Tryz.func73, Tryz.ntmps73
      go_wp2_with fail
      go_ret
      exact ⟨none, 0, rfl, by simp, Below.refl _ _, ⟨fun h => absurd rfl h, h2, h3⟩, fun b o h => by cases h⟩
  · obtain ⟨b, off, rfl, _, hc⟩ := h1 (by intro e; simp [e] at hn0)
    clear h1
    go_enter Tryz.func73, Tryz.ntmps73
    go_wp2_with (at_builtin; refine wpList_append_lies _ rfl _ _ 55 rfl w.heap.size 9 i0 (.string ByteArray.empty) 1 16 Tryz.underlying55 hi hz0 hz1 hz2 rfl (by decide) (.slice none 0 0) 0 [] rfl (World.ownsRow_nil _ _ _ _) ⟨b, off, none⟩ ns.length c (ns.map Value.string) rfl (by simp) ?c1 ?c2 (by omega) ?c3 (by omega) (Nat.le_refl _) _ rfl ?_)
    case c1 =>
      intro j u hj
      obtain ⟨hj', rfl⟩ := nth_map ns j u hj
      rw [Addr.add_lit]
      exact hc j hj'
    case c2 => intro u hu; simp at hu; obtain ⟨x, -, rfl⟩ := hu; rfl
    case c3 => omega
    intro g cap w1 hown hgrow hat hlt
    go_wp2_with fail
    go_ret
    have hS := strs_owned (base := w.heap.size) (by simpa using hown) h2 h3 hlt
    exact ⟨_, cap, by simp, hS.2, below_grown (Below.refl _ _) hgrow (Nat.le_refl _), hS.1, fun b o h => by cases h; exact ⟨hown.lt g rfl, fun i => hown.frozenAt i⟩⟩
end Go.Proofs.YtbpdchlbhfjddaaGreat

namespace Go.Proofs.YtbpdchlbhfjddaaGreat
set_option linter.unusedSimpArgs false
set_option linter.unusedVariables false
open Go.RowKit

/-- A call of a Go function, as one step of a region that draws its order. -/
theorem step_call {P : Program} {ops : Array Oper} {o : Oper} {a : Act} {w : World} {K : Act → World → Prop} {Q : Exit → Act → World → Prop} {E : Prop} (hg : o.guard = none) {f : FuncId} {vs : Array Value}
    (hex : (execOp a.eval o).run P w = .ok (.enter f vs) w) (hc : Calls P f vs w fun e w' => ∃ v, e = .returned v ∧ K (a.put o.dst v) w') :
    if Region.wanted o (yielded ops a.tmps) = true then Oper.wp P o a w K Q else E := by
  rw [if_pos (by simp [Region.wanted, hg])]
  unfold Oper.wp
  rw [hex, Oper.upon_enter]
  refine hc.mono ?_
  rintro e w' ⟨v, rfl, hK⟩
  exact hK

/-- A value that goes no deeper than so many levels, of at most 2097152 parts, its lists no longer than that. -/
def fit : Nat → V → Prop
  | 0, _ => False
  | f + 1, x => x.kids.length ≤ 2097152 ∧ (x.names.length ≤ 2097152 ∧ cntV x ≤ 2097152) ∧ ∀ i, i < x.kids.length → fit f (kth x.kids i)
theorem fit.cnt : ∀ {f : Nat} {x : V}, fit f x → cntV x ≤ 2097152
  | 0, _, h => h.elim
  | _ + 1, _, h => h.2.1.2

/-- A block of one value. -/
def Row5 (w : World) (b : Nat) (c0 c1 c2 c3 c4 : Value) : Prop := w.rowIs b 58 5 (fun i => if i = 0 then c0 else if i = 1 then c1 else if i = 2 then c2 else if i = 3 then c3 else c4)
theorem Row5.five {w : World} {b : Nat} {c0 c1 c2 c3 c4 : Value} (h : Row5 w b c0 c1 c2 c3 c4) : Five w b c0 c1 c2 c3 c4 :=
  ⟨h.cell (i := 0) (by omega), h.cell (i := 1) (by omega), h.cell (i := 2) (by omega), h.cell (i := 3) (by omega), h.cell (i := 4) (by omega)⟩
theorem Row5.frozen {w : World} {b : Nat} {c0 c1 c2 c3 c4 : Value} (h : Row5 w b c0 c1 c2 c3 c4) : ∀ i, w.frozen? ⟨b, i, none⟩ = false := fun i => World.rowIs.frozen h i
theorem Row5.lt {w : World} {b : Nat} {c0 c1 c2 c3 c4 : Value} (h : Row5 w b c0 c1 c2 c3 c4) : b < w.heap.size := World.rowIs.lt h
theorem Row5.of_block {w w' : World} {b : Nat} {c0 c1 c2 c3 c4 : Value} (h : Row5 w b c0 c1 c2 c3 c4) (e : w'.heap[b]? = w.heap[b]?) : Row5 w' b c0 c1 c2 c3 c4 := World.rowIs.of_block h e
theorem Row5.new (w : World) (c0 c1 c2 c3 c4 : Value) : Row5 (w.alloc (.cells #[c0, c1, c2, c3, c4] 58)) w.heap.size c0 c1 c2 c3 c4 :=
  World.rowIs_alloc w #[c0, c1, c2, c3, c4] 58 _ fun i hi => by
    have : i = 0 ∨ i = 1 ∨ i = 2 ∨ i = 3 ∨ i = 4 := by simp at hi; omega
    rcases this with rfl | rfl | rfl | rfl | rfl <;> rfl
theorem Row5.put {w : World} {b : Nat} {c0 c1 c2 c3 c4 : Value} (h : Row5 w b c0 c1 c2 c3 c4) (d0 d1 d2 d3 d4 : Value) : Row5 (put5 w b 0 d0 d1 d2 d3 d4) b d0 d1 d2 d3 d4 := by
  obtain ⟨G, hG, ⟨g0, g1, g2, g3, g4⟩, -⟩ := put5_row h 0 d0 d1 d2 d3 d4
  refine World.rowIs.congr hG fun i hi => ?_
  have : i = 0 ∨ i = 1 ∨ i = 2 ∨ i = 3 ∨ i = 4 := by omega
  rcases this with rfl | rfl | rfl | rfl | rfl
  · rw [if_pos rfl]; exact g0
  · simpa using g1
  · simpa using g2
  · simpa using g3
  · simpa using g4
theorem Row5.set4 {w : World} {b : Nat} {c0 c1 c2 c3 c4 : Value} (h : Row5 w b c0 c1 c2 c3 c4) (d : Value) : Row5 (w.setCell ⟨b, 4, none⟩ d) b c0 c1 c2 c3 d := by
  refine World.rowIs.congr (World.rowIs.set h 4 d) fun i hi => ?_
  have : i = 0 ∨ i = 1 ∨ i = 2 ∨ i = 3 ∨ i = 4 := by omega
  rcases this with rfl | rfl | rfl | rfl | rfl <;> simp

/-- What is gathered so far: a row of values of the call's own, each in memory of its own. -/
def OwnKids (w : World) (lo ob : Nat) (ks : List V) (k : Nat) (v : Value) (xs : List Value) : Prop :=
  w.ownsRow lo 58 5 v k xs ∧ v.ownBlock ≠ some ob ∧ ∀ i, i < k → Rep w (fun b => lo ≤ b ∧ b < w.heap.size ∧ b ≠ ob ∧ v.ownBlock ≠ some b) (kth ks i) (.agg #[xs.getD (i * 5) undef, xs.getD (i * 5 + 1) undef, xs.getD (i * 5 + 2) undef, xs.getD (i * 5 + 3) undef, xs.getD (i * 5 + 4) undef])

theorem OwnKids.nil (w : World) (lo ob : Nat) (ks : List V) : OwnKids w lo ob ks 0 (.slice none 0 0) [] := ⟨World.ownsRow_nil _ _ _ _, by simp [Value.ownBlock], fun i hi => by omega⟩

theorem OwnKids.step {wr w1 w3 : World} {lo ob : Nat} {ks : List V} {k : Nat} {v : Value} {xs : List Value} (h : OwnKids wr lo ob ks k v xs) (hlo : lo ≤ wr.heap.size) (hob : ob < wr.heap.size) (hb1 : Below wr.heap.size wr w1) {d0 d1 d2 d3 d4 : Value}
    (hrep : Rep w1 (fun b => wr.heap.size ≤ b ∧ b < w1.heap.size) (kth ks k) (.agg #[d0, d1, d2, d3, d4])) {o : Obj} {g cap : Nat}
    (hown : w3.ownsRow lo 58 5 (.slice (some ⟨g, 0, none⟩) (k + 1) cap) (k + 1) (xs ++ [d0, d1, d2, d3, d4])) (hgrow : (w1.alloc o).grownBy w3 v.ownBlock) (hat : v.ownBlock = some g ∨ g = w1.heap.size + 1) :
    OwnKids w3 lo ob ks (k + 1) (.slice (some ⟨g, 0, none⟩) (k + 1) cap) (xs ++ [d0, d1, d2, d3, d4]) ∧ (∀ b, b < wr.heap.size → v.ownBlock ≠ some b → w3.heap[b]? = wr.heap[b]?) ∧ w1.heap.size < w3.heap.size ∧ Below lo wr w3 := by
  have z1 := hb1.size
  have z3 := hgrow.size
  simp at z3
  have hgl : ∀ b, v.ownBlock = some b → b < wr.heap.size := fun b hb => (h.1.lt b hb).2
  have hsame : ∀ b, b < w1.heap.size → v.ownBlock ≠ some b → w3.heap[b]? = w1.heap[b]? := fun b hb hne => by
    rw [hgrow.block b (by simp; omega) (fun e => hne e.symm)]
    exact World.grownBy_alloc w1 o none |>.block b hb (by simp)
  have hxl := h.1.1
  refine ⟨⟨hown, ?_, fun i hi => ?_⟩, fun b hb hne => (hsame b (by omega) hne).trans (hb1.block b hb), by omega, hgrow.os.trans hb1.os, hgrow.tape.trans hb1.tape, hgrow.output.trans hb1.output, by omega, fun b hb => (hsame b (by omega) fun e => ?_).trans (hb1.block b (by omega))⟩
  · intro e
    have e' : g = ob := by simpa [Value.ownBlock] using e
    rcases hat with h1 | h1
    · exact h.2.1 (by rw [h1, e'])
    · omega
  · by_cases e : i = k
    · subst e
      have hg : ∀ j, (xs ++ [d0, d1, d2, d3, d4]).getD (i * 5 + j) undef = [d0, d1, d2, d3, d4].getD j undef := fun j => by
        rw [List.getD_eq_getElem?_getD, List.getElem?_append_right (by omega), List.getD_eq_getElem?_getD, hxl, show i * 5 + j - i * 5 = j by omega]
      have g0 := hg 0
      rw [Nat.add_zero] at g0
      rw [g0, hg 1, hg 2, hg 3, hg 4]
      refine (hrep.mono fun b hb => hsame b hb.2 fun e => ?_).sub fun b hb => ⟨by omega, by omega, by omega, fun e => ?_⟩
      · have := hgl b e; omega
      · have e' : g = b := by simpa [Value.ownBlock] using e
        rcases hat with h1 | h1
        · have := hgl g h1; omega
        · omega
    · have hik : i < k := by omega
      have hg : ∀ j, j < 5 → (xs ++ [d0, d1, d2, d3, d4]).getD (i * 5 + j) undef = xs.getD (i * 5 + j) undef := fun j hj => by
        rw [List.getD_eq_getElem?_getD, List.getElem?_append_left (by omega), List.getD_eq_getElem?_getD]
      have g0 := hg 0 (by omega)
      rw [Nat.add_zero] at g0
      rw [g0, hg 1 (by omega), hg 2 (by omega), hg 3 (by omega), hg 4 (by omega)]
      refine ((h.2.2 i hik).mono fun b hb => (hsame b (by omega) hb.2.2.2).trans (hb1.block b hb.2.1)).sub fun b hb => ⟨hb.1, by omega, hb.2.2.1, fun e => ?_⟩
      have e' : g = b := by simpa [Value.ownBlock] using e
      rcases hat with h1 | h1
      · exact hb.2.2.2 (by rw [h1, e'])
      · omega
  · have := (h.1.lt b e).1
    omega

theorem OwnKids.set {w : World} {lo ob : Nat} {ks : List V} {k : Nat} {v : Value} {xs : List Value} (h : OwnKids w lo ob ks k v xs) (o : Nat) (u : Value) : OwnKids (w.setCell ⟨ob, o, none⟩ u) lo ob ks k v xs := by
  refine ⟨h.1.kept (row := some ob) ⟨rfl, rfl, rfl, by rw [size_set]; exact Nat.le_refl _, fun b _ hne => Below.heap_setCell _ _ _ _ (fun e => hne (by rw [show b = ob from e]))⟩ (Or.inr h.2.1), h.2.1, fun i hi => ?_⟩
  refine ((h.2.2 i hi).mono fun b hb => Below.heap_setCell _ _ _ _ (fun e => hb.2.2.1 e)).sub fun b hb => ⟨hb.1, by rw [size_set]; exact hb.2.1, hb.2.2⟩

theorem OwnKids.kids {w : World} {lo ob : Nat} {ks : List V} {v : Value} {xs : List Value} (h : OwnKids w lo ob ks ks.length v xs) (hb : 80 * ks.length ≤ 281474976710656) :
    ∃ (ka : Option Addr) (kc : Nat), v = .slice ka ks.length kc ∧ Kids w (fun b => lo ≤ b ∧ b < w.heap.size ∧ b ≠ ob) ks ka := by
  obtain ⟨h1, h2, h3⟩ := h
  rcases h1.2 with ⟨rfl, h0⟩ | ⟨g, cap, cur, rfl, hlo, hg, _⟩
  · refine ⟨none, 0, by rw [h0], hb, 0, 0, fun _ _ => undef, fun hn => ?_, fun i hi => by omega, fun i hi => by omega⟩
    exact absurd (List.eq_nil_of_length_eq_zero h0) hn
  · have hlt : g < w.heap.size := (Array.getElem?_eq_some_iff.1 hg).1
    refine ⟨_, cap, rfl, hb, g, 0, fun i j => xs.getD (i * 5 + j) undef, fun _ => ⟨rfl, hlo, hlt, fun e => h2 (by rw [e]; rfl)⟩, fun i hi j hj => ?_, fun i hi => (h3 i hi).sub fun b hb => ⟨hb.1, hb.2.1, hb.2.2.1⟩⟩
    have hx := h1.1
    have := h1.cellAt (i * 5 + j) (by omega)
    show _ = some (xs.getD (i * 5 + j) undef)
    rw [Nat.zero_add, this, List.getD_eq_getElem?_getD, List.getElem?_eq_getElem (by omega)]
    rfl
theorem OwnKids.owns {wr w1 : World} {lo ob : Nat} {ks : List V} {k : Nat} {v : Value} {xs : List Value} (h : OwnKids wr lo ob ks k v xs) (hb1 : Below wr.heap.size wr w1) (o : Obj) : (w1.alloc o).ownsRow lo 58 5 v k xs :=
  (h.1.kept (row := none) ⟨hb1.os, hb1.tape, hb1.output, hb1.size, fun b hb _ => hb1.block b hb⟩ (by cases hv : v.ownBlock <;> simp)).alloc o

end Go.Proofs.YtbpdchlbhfjddaaGreat

namespace Go.Proofs.YtbpdchlbhfjddaaGreat
set_option linter.unusedSimpArgs false
set_option linter.unusedVariables false
open Go.RowKit Go.Maps

/-- What a row tells of a name. -/
def TellOk (w : World) (P : Nat → Prop) (r : Ro) (f : ByteArray) (e : Ending) : Prop := match fc r.cells f r.cells.length with
      | none => e = .returned (.tuple #[.agg #[.int .i64 0, .int .i64 0, .string ⟨#[]⟩, .slice none 0 0, .slice none 0 0], .bool false])
      | some j => ∃ (na ka : Option Addr) (nc kc : Nat), e = .returned (.tuple #[.agg #[.int .i64 (cth r.cells j).val.sort, .int .i64 (cth r.cells j).val.num, .string (cth r.cells j).val.text, .slice na (cth r.cells j).val.names.length nc, .slice ka (cth r.cells j).val.kids.length kc], .bool true]) ∧ Rep w P (cth r.cells j).val (.agg #[.int .i64 (cth r.cells j).val.sort, .int .i64 (cth r.cells j).val.num, .string (cth r.cells j).val.text, .slice na (cth r.cells j).val.names.length nc, .slice ka (cth r.cells j).val.kids.length kc])
/-- What a store tells of a key. -/
def CellsOk (w w' : World) (P : Nat → Prop) (rs : List Ro) (t : ByteArray) (n : Int) (e : Ending) : Prop := match fi rs t n rs.length with
      | none => e = .returned (.tuple #[.nilFunc, .bool false])
      | some i => ∃ (g : Nat) (fa : Option Addr) (fc' : Nat), e = .returned (.tuple #[.func (.func 94) #[] #[.pointer (some ⟨g, 0, none⟩)], .bool true]) ∧ w.heap.size ≤ g ∧ g < w'.heap.size ∧ w'.cell? ⟨g, 2, none⟩ = some (.slice fa (rth rs i).cells.length fc') ∧ CeReps w P (rth rs i).cells fa ∧ (rth rs i).cells.length ≤ fc'

set_option maxRecDepth 20000 in
set_option maxHeartbeats 800000 in
theorem teller_any (r : Ro) (f : ByteArray) (w : World) (P : Nat → Prop) (g : Nat) (ca : Option Addr) (cc : Nat) (hg : w.cell? ⟨g, 2, none⟩ = some (.slice ca r.cells.length cc)) (hgl : g < w.heap.size) (hR : CeReps w P r.cells ca) (hP : ∀ b, P b → b < w.heap.size) (hcc : r.cells.length ≤ cc) :
    Calls Tryz.prog 94 #[.string f, .pointer (some ⟨g, 0, none⟩)] w fun e w' => Below w.heap.size w w' ∧ TellOk w P r f e := by
  obtain ⟨h3, C, hA, hr⟩ := hR
  go_enter Tryz.func94, Tryz.ntmps94
  go_wp2_with fail
  have zB := below_box w (.cells #[.int .i64 0, .int .i64 0, .string ⟨#[]⟩, .slice none 0 0, .slice none 0 0] 58)
  have zR := Row5.new w (.int .i64 0) (.int .i64 0) (.string ⟨#[]⟩) (.slice none 0 0) (.slice none 0 0)
  generalize w.alloc (.cells #[.int .i64 0, .int .i64 0, .string ⟨#[]⟩, .slice none 0 0, .slice none 0 0] 58) = wA at *
  go_loopw [10] (fun i wr => ∃ (k : Nat), k ≤ r.cells.length ∧ i = .int .i64 k ∧ fc r.cells f k = none ∧ Below w.heap.size w wr ∧ Row5 wr w.heap.size (.int .i64 0) (.int .i64 0) (.string ⟨#[]⟩) (.slice none 0 0) (.slice none 0 0)) (fun i _ => r.cells.length - (intOf i).toNat)
  case atStart => exact ⟨0, Nat.zero_le _, rfl, rfl, zB, zR⟩
  case round =>
    clear zB zR
    obtain ⟨k, hk, rfl, hf, hbel, hrow⟩ := hrel
    have hll := hrow.lt
    obtain ⟨l0, l1, l2, l3, l4⟩ := hrow.five
    have hlf := hrow.frozen
    by_cases hlt : k < r.cells.length
    · obtain ⟨b, off, rfl, hbB, hc⟩ := hA (by omega)
      have hbw := hP b hbB
      have hck : ∀ j, j < 6 → wr.cell? ⟨b, off + k * 6 + j, none⟩ = some (C k j) := fun j hj => (hbel.cell (p := ⟨b, off + k * 6 + j, none⟩) (by show b < _; omega)).trans (hc k hlt j hj)
      obtain ⟨e0, hV, hn⟩ := (hr k hlt).pieces
      obtain ⟨na, ka, nc, kc, e5, -⟩ := hV.form
      simp only [Value.agg.injEq, Array.mk.injEq, List.cons.injEq, and_true] at e5
      obtain ⟨e1, e2, e3, e4, e5⟩ := e5
      rw [e1, e2, e3, e4, e5] at hV
      have hc0 : wr.cell? ⟨b, off + k * 6, none⟩ = some (.string (cth r.cells k).name) := e0 ▸ hck 0 (by omega)
      have hc1 : wr.cell? ⟨b, off + k * 6 + 1, none⟩ = some (.int .i64 (cth r.cells k).val.sort) := e1 ▸ hck 1 (by omega)
      have hc2 : wr.cell? ⟨b, off + k * 6 + 2, none⟩ = some (.int .i64 (cth r.cells k).val.num) := e2 ▸ hck 2 (by omega)
      have hc3 : wr.cell? ⟨b, off + k * 6 + 3, none⟩ = some (.string (cth r.cells k).val.text) := e3 ▸ hck 3 (by omega)
      have hc4 : wr.cell? ⟨b, off + k * 6 + 4, none⟩ = some (.slice na (cth r.cells k).val.names.length nc) := e4 ▸ hck 4 (by omega)
      have hc5 : wr.cell? ⟨b, off + k * 6 + 5, none⟩ = some (.slice ka (cth r.cells k).val.kids.length kc) := e5 ▸ hck 5 (by omega)
      clear hck hc e0 e1 e2 e3 e4 e5
      have hBX := below_box wr (.cells #[.string (cth r.cells k).name, .int .i64 (cth r.cells k).val.sort, .int .i64 (cth r.cells k).val.num, .string (cth r.cells k).val.text, .slice na (cth r.cells k).val.names.length nc, .slice ka (cth r.cells k).val.kids.length kc] 62)
      have hrow' := hrow.of_block (hBX.block _ hll)
      obtain ⟨q, hq⟩ : ∃ q, q = ((cth r.cells k).name.toList == f.toList) := ⟨_, rfl⟩
      cases q
      rotate_left
      · have e : (cth r.cells k).name.toList = f.toList := by simpa using hq.symm
        have hq' := hq.symm
        clear hq
        have hfc := fc_at hf hlt (bytes_inj e)
        clear e
        have HX := hid_of hrow
        have HV := hid_of hV
        clear hBX hrow' hrow hV
        go_wp2_with fail
        have hfin := HX.out.put (.int .i64 (cth r.cells k).val.sort) (.int .i64 (cth r.cells k).val.num) (.string (cth r.cells k).val.text) (.slice na (cth r.cells k).val.names.length nc) (.slice ka (cth r.cells k).val.kids.length kc)
        refine bodyPost_ret (v := .tuple #[.agg #[.int .i64 (cth r.cells k).val.sort, .int .i64 (cth r.cells k).val.num, .string (cth r.cells k).val.text, .slice na (cth r.cells k).val.names.length nc, .slice ka (cth r.cells k).val.kids.length kc], .bool true]) ?res rfl ⟨(put5_below hbel (Nat.le_refl _) 0 _ _ _ _ _).alloc ?sz _, by unfold TellOk; rw [hfc]; exact ⟨_, _, _, _, rfl, HV.out⟩⟩
        case res =>
          obtain ⟨p0, p1, p2, p3, p4⟩ := (hfin.of_block ((below_box _ (.cells #[.string (cth r.cells k).name, .int .i64 (cth r.cells k).val.sort, .int .i64 (cth r.cells k).val.num, .string (cth r.cells k).val.text, .slice na (cth r.cells k).val.names.length nc, .slice ka (cth r.cells k).val.kids.length kc] 62)).block _ hfin.lt)).five
          simp only [put5] at p0 p1 p2 p3 p4
          clear hfin
          simp [results, Tryz.results94, go_sem, p0, p1, p2, p3, p4]
        case sz => rw [put5_size]; exact hbel.size
      · have e : ¬ (cth r.cells k).name.toList = f.toList := by simpa using hq.symm
        have hq' := hq.symm
        clear hq
        have HE := hid_of e
        clear e
        go_wp2_with fail
        go_roundw
        case rel => exact ⟨k + 1, by omega, by go_num, fc_not hf (fun h => HE.out (by rw [h])), hbel.trans (hBX.mono hbel.size), hrow'⟩
        case measure => simp [intOf]; omega
    · have e : k = r.cells.length := by omega
      subst e
      have HX := hid_of hrow
      clear hrow
      go_wp2_with fail
      have hfin := HX.out.put (.int .i64 0) (.int .i64 0) (.string ⟨#[]⟩) (.slice none 0 0) (.slice none 0 0)
      refine bodyPost_ret (v := .tuple #[.agg #[.int .i64 0, .int .i64 0, .string ⟨#[]⟩, .slice none 0 0, .slice none 0 0], .bool false]) ?res rfl ⟨put5_below hbel (Nat.le_refl _) _ _ _ _ _ _, by unfold TellOk; rw [hf]⟩
      case res =>
        obtain ⟨p0, p1, p2, p3, p4⟩ := hfin.five
        simp only [put5] at p0 p1 p2 p3 p4
        clear hfin
        simp [results, Tryz.results94, go_sem, p0, p1, p2, p3, p4]

set_option maxHeartbeats 400000 in
theorem cellsOfRow_any (w : World) (c0 c1 c2 : Value) :
    Calls Tryz.prog 69 #[.agg #[c0, c1, c2]] w fun e w' => e = .returned (.func (.func 94) #[] #[.pointer (some ⟨w.heap.size, 0, none⟩)]) ∧ w' = w.alloc (.cells #[c0, c1, c2] 51) := by
  go_enter Tryz.func69, Tryz.ntmps69
  go_wp2_with fail
  go_ret
  exact ⟨rfl, rfl⟩

end Go.Proofs.YtbpdchlbhfjddaaGreat
