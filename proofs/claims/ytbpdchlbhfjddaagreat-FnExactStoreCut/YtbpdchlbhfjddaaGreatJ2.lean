import Derived.Test.YtbpdchlbhfjddaaGreatJ1
import Derived.Test.YtbpdchlbhfjddaaGreatCopyS
import Derived.BigRegion
import Derived.Deep.RegionWith
import Derived.Deep.RegionHeld3
namespace Go.Proofs.YtbpdchlbhfjddaaGreat
set_option linter.unusedSimpArgs false
set_option linter.unusedVariables false
open Go.RowKit

/-- A value as it is meant: its sort, its number, its text, its names and what is in it. -/
structure V where
  sort : Int
  num : Int
  text : ByteArray
  names : List ByteArray
  kids : List V
def V.zero : V := .mk 0 0 ByteArray.empty [] []
/-- Kid i. -/
def kth (ks : List V) (i : Nat) : V := ks.getD i V.zero
theorem kth_lt (ks : List V) (i : Nat) (h : i < ks.length) : SizeOf.sizeOf (kth ks i) < SizeOf.sizeOf ks := by
  have e : kth ks i = ks[i] := by simp [kth, List.getD_eq_getElem?_getD, h]
  rw [e]
  exact List.sizeOf_lt_of_mem (List.getElem_mem h)

/-- The cells of the world hold the value, in blocks of which P holds; so many levels at most. -/
def RepN (w : World) (P : Nat → Prop) : Nat → V → Value → Prop
  | 0, _, _ => False
  | f + 1, x, v => ∃ (na ka : Option Addr) (nc kc : Nat) (b off : Nat) (C : Nat → Nat → Value),
      v = .agg #[.int .i64 x.sort, .int .i64 x.num, .string x.text, .slice na x.names.length nc, .slice ka x.kids.length kc] ∧ Strs w P x.names na ∧ x.names.length ≤ nc ∧ x.text.size ≤ maxLen ∧ 16 * x.names.length ≤ 281474976710656 ∧ 80 * x.kids.length ≤ 281474976710656 ∧
      (x.kids ≠ [] → ka = some ⟨b, off, none⟩ ∧ P b) ∧ (∀ i, i < x.kids.length → ∀ j, j < 5 → w.cell? ⟨b, off + i * 5 + j, none⟩ = some (C i j)) ∧
      ∀ i, i < x.kids.length → RepN w P f (kth x.kids i) (.agg #[C i 0, C i 1, C i 2, C i 3, C i 4])
/-- The cells of the world hold the value, in blocks of which P holds. -/
def Rep (w : World) (P : Nat → Prop) (x : V) (v : Value) : Prop := ∃ f, RepN w P f x v

/-- The same of a list of values. -/
def Kids (w : World) (P : Nat → Prop) (ks : List V) (ka : Option Addr) : Prop :=
  80 * ks.length ≤ 281474976710656 ∧ ∃ (b off : Nat) (C : Nat → Nat → Value), (ks ≠ [] → ka = some ⟨b, off, none⟩ ∧ P b) ∧ (∀ i, i < ks.length → ∀ j, j < 5 → w.cell? ⟨b, off + i * 5 + j, none⟩ = some (C i j)) ∧
    ∀ i, i < ks.length → Rep w P (kth ks i) (.agg #[C i 0, C i 1, C i 2, C i 3, C i 4])

theorem RepN.le {w : World} {P : Nat → Prop} : ∀ {f g : Nat} {x : V} {v : Value}, RepN w P f x v → f ≤ g → RepN w P g x v
  | 0, _, _, _, h, _ => h.elim
  | f + 1, 0, _, _, _, hg => by omega
  | f + 1, g + 1, x, v, h, hg => by
    obtain ⟨na, ka, nc, kc, b, off, C, h1, h2, h3, h4, h5, h6, h7, h8, h9⟩ := h
    exact ⟨na, ka, nc, kc, b, off, C, h1, h2, h3, h4, h5, h6, h7, h8, fun i hi => (h9 i hi).le (by omega)⟩

theorem rep_bound {w : World} {P : Nat → Prop} {X : Nat → V} {U : Nat → Value} : ∀ n : Nat, (∀ i, i < n → Rep w P (X i) (U i)) → ∃ f, ∀ i, i < n → RepN w P f (X i) (U i)
  | 0, _ => ⟨0, fun i hi => by omega⟩
  | n + 1, h => by
    obtain ⟨f, hf⟩ := rep_bound n fun i hi => h i (by omega)
    obtain ⟨g, hg⟩ := h n (by omega)
    refine ⟨f + g, fun i hi => ?_⟩
    by_cases e : i = n
    · subst e; exact hg.le (by omega)
    · exact (hf i (by omega)).le (by omega)

theorem Rep.of_kids {w : World} {P : Nat → Prop} {s n : Int} {t : ByteArray} {ns : List ByteArray} {ks : List V} {na ka : Option Addr} {nc kc : Nat} (hs : Strs w P ns na) (hns : ns.length ≤ nc) (ht : t.size ≤ maxLen) (hbs : 16 * ns.length ≤ 281474976710656) (hK : Kids w P ks ka) :
    Rep w P (.mk s n t ns ks) (.agg #[.int .i64 s, .int .i64 n, .string t, .slice na ns.length nc, .slice ka ks.length kc]) := by
  obtain ⟨hbk, b, off, C, hka, hc, hr⟩ := hK
  obtain ⟨f, hf⟩ := rep_bound ks.length hr
  exact ⟨f + 1, na, ka, nc, kc, b, off, C, rfl, hs, hns, ht, hbs, hbk, hka, hc, hf⟩

theorem Rep.inv {w : World} {P : Nat → Prop} {s n : Int} {t : ByteArray} {ns : List ByteArray} {ks : List V} {v : Value} (h : Rep w P (.mk s n t ns ks) v) :
    ∃ (na ka : Option Addr) (nc kc : Nat), v = .agg #[.int .i64 s, .int .i64 n, .string t, .slice na ns.length nc, .slice ka ks.length kc] ∧ Strs w P ns na ∧ ns.length ≤ nc ∧ t.size ≤ maxLen ∧ 16 * ns.length ≤ 281474976710656 ∧ Kids w P ks ka := by
  obtain ⟨f, h⟩ := h
  match f, h with
  | f + 1, h =>
    obtain ⟨na, ka, nc, kc, b, off, C, hv, hs, hns, ht, hbs, hbk, hka, hc, hr⟩ := h
    exact ⟨na, ka, nc, kc, hv, hs, hns, ht, hbs, hbk, b, off, C, hka, hc, fun i hi => ⟨f, hr i hi⟩⟩

theorem RepN.mono {w w' : World} {P : Nat → Prop} (e : ∀ k, P k → w'.heap[k]? = w.heap[k]?) : ∀ {f : Nat} {x : V} {v : Value}, RepN w P f x v → RepN w' P f x v
  | 0, _, _, h => h.elim
  | f + 1, x, v, h => by
    obtain ⟨na, ka, nc, kc, b, off, C, h1, hs, h3, h4, h5, h6, hka, hc, hr⟩ := h
    refine ⟨na, ka, nc, kc, b, off, C, h1, hs.mono e, h3, h4, h5, h6, hka, fun i hi j hj => ?_, fun i hi => (hr i hi).mono e⟩
    have hb := (hka (by intro e; simp [e] at hi)).2
    exact (World.cell?_of_block (w := w) (a := ⟨b, off + i * 5 + j, none⟩) (e b hb)).trans (hc i hi j hj)
theorem RepN.sub {w : World} {P Q : Nat → Prop} (e : ∀ k, P k → Q k) : ∀ {f : Nat} {x : V} {v : Value}, RepN w P f x v → RepN w Q f x v
  | 0, _, _, h => h.elim
  | f + 1, x, v, h => by
    obtain ⟨na, ka, nc, kc, b, off, C, h1, hs, h3, h4, h5, h6, hka, hc, hr⟩ := h
    exact ⟨na, ka, nc, kc, b, off, C, h1, hs.sub e, h3, h4, h5, h6, fun h => ⟨(hka h).1, e _ (hka h).2⟩, hc, fun i hi => (hr i hi).sub e⟩
theorem Rep.mono {w w' : World} {P : Nat → Prop} {x : V} {v : Value} (h : Rep w P x v) (e : ∀ k, P k → w'.heap[k]? = w.heap[k]?) : Rep w' P x v := by
  obtain ⟨f, h⟩ := h; exact ⟨f, h.mono e⟩
theorem Rep.sub {w : World} {P Q : Nat → Prop} {x : V} {v : Value} (h : Rep w P x v) (e : ∀ k, P k → Q k) : Rep w Q x v := by
  obtain ⟨f, h⟩ := h; exact ⟨f, h.sub e⟩
theorem Kids.mono {w w' : World} {P : Nat → Prop} {ks : List V} {a : Option Addr} (h : Kids w P ks a) (e : ∀ k, P k → w'.heap[k]? = w.heap[k]?) : Kids w' P ks a := by
  obtain ⟨hbk, b, off, C, hka, hc, hr⟩ := h
  refine ⟨hbk, b, off, C, hka, (fun i hi j hj => ?_), fun i hi => (hr i hi).mono e⟩
  have hb := (hka (by intro e; simp [e] at hi)).2
  exact (World.cell?_of_block (w := w) (a := ⟨b, off + i * 5 + j, none⟩) (e b hb)).trans (hc i hi j hj)
theorem Kids.sub {w : World} {P Q : Nat → Prop} {ks : List V} {a : Option Addr} (h : Kids w P ks a) (e : ∀ k, P k → Q k) : Kids w Q ks a := by
  obtain ⟨hbk, b, off, C, hka, hc, hr⟩ := h
  exact ⟨hbk, b, off, C, fun h => ⟨(hka h).1, e _ (hka h).2⟩, hc, fun i hi => (hr i hi).sub e⟩
theorem Rep.under {w w' : World} {B : Nat} {x : V} {v : Value} (h : Rep w (· < B) x v) (hb : Below B w w') : Rep w' (· < B) x v := h.mono fun k hk => hb.block k hk
theorem Kids.under {w w' : World} {B : Nat} {x : List V} {v : Option Addr} (h : Kids w (· < B) x v) (hb : Below B w w') : Kids w' (· < B) x v := h.mono fun k hk => hb.block k hk

/-- What szValue does with a value. -/
def SzOk (x : V) : Prop := ∀ (w : World) (B : Nat) (v : Value) (left : Int), Rep w (· < B) x v → B ≤ w.heap.size → 0 ≤ left → left ≤ 1048576 →
  Calls Tryz.prog 77 #[v, .int .i64 left] w fun e w' => ∃ x : Int, e = .returned (.int .i64 x) ∧ -1 ≤ x ∧ x ≤ left ∧ Below w.heap.size w w'

set_option maxHeartbeats 400000 in
theorem szValueS_any (ks : List V) (IH : ∀ i, i < ks.length → SzOk (kth ks i)) (w : World) (B : Nat) (a : Option Addr) (c : Nat) (left : Int) (hK : Kids w (· < B) ks a) (hB : B ≤ w.heap.size) (hl0 : 0 ≤ left) (hl1 : left ≤ 1048576) :
    Calls Tryz.prog 98 #[.slice a ks.length c, .int .i64 left] w fun e w' => ∃ x : Int, e = .returned (.int .i64 x) ∧ -1 ≤ x ∧ x ≤ left ∧ Below w.heap.size w w' := by
  obtain ⟨h3, b, off, C, hka, hc, hr⟩ := hK
  by_cases hbig : left < ks.length
  · go_enter Tryz.func98, Tryz.ntmps98
    go_wp2_with fail
    go_ret
    exact ⟨-1, rfl, by omega, by omega, Below.refl _ _⟩
  by_cases hn0 : ks.length = 0
  · have hns : ks = [] := by simpa using hn0
    subst hns
    go_enter Tryz.func98, Tryz.ntmps98
    go_wp2_with fail
    go_loop [1, 5] (fun l i => i = .int .i64 0 ∧ l = .int .i64 left) (fun _ _ => 0)
    case atStart => exact ⟨rfl, rfl⟩
    case round =>
      obtain ⟨rfl, rfl⟩ := hrel
      go_wp2_with fail
      go_ret
      exact ⟨left, rfl, by omega, by omega, Below.refl _ _⟩
  · obtain ⟨rfl, hbB⟩ := hka (by intro e; simp [e] at hn0)
    clear hka
    go_enter Tryz.func98, Tryz.ntmps98
    go_wp2_with fail
    go_loopw [1, 5] (fun l i wr => ∃ (k : Nat) (x : Int), k ≤ ks.length ∧ i = .int .i64 k ∧ l = .int .i64 x ∧ 0 ≤ x ∧ x ≤ left ∧ Below w.heap.size w wr) (fun _ i _ => ks.length - (intOf i).toNat)
    case atStart => exact ⟨0, _, Nat.zero_le _, rfl, rfl, by omega, by omega, Below.refl _ _⟩
    case round =>
      obtain ⟨k, x, hk, rfl, rfl, hx0, hx1, hbel⟩ := hrel
      by_cases hlt : k < ks.length
      · have hck : ∀ j, j < 5 → wr.cell? ⟨b, off + k * 5 + j, none⟩ = some (C k j) := fun j hj => (hbel.cell (p := ⟨b, off + k * 5 + j, none⟩) (by show b < _; omega)).trans (hc k hlt j hj)
        have hc0 : wr.cell? ⟨b, off + k * 5, none⟩ = some (C k 0) := hck 0 (by omega)
        have hc1 := hck 1 (by omega)
        have hc2 := hck 2 (by omega)
        have hc3 := hck 3 (by omega)
        have hc4 := hck 4 (by omega)
        clear hck hc
        go_wp2_with (go_at_call 77; refine (IH k hlt _ B _ x ((hr k hlt).under (hbel.mono hB)) (by have := hbel.size; omega) hx0 (by omega)).mono ?_; rintro e w' ⟨y, rfl, hy0, hy1, hby⟩)
        · go_ret
          exact ⟨-1, rfl, by omega, by omega, hbel.trans (hby.mono hbel.size)⟩
        · go_roundw
          case rel => exact ⟨k + 1, y, by omega, by go_num, rfl, by assumption, by omega, hbel.trans (hby.mono hbel.size)⟩
          case measure => simp [intOf]; omega
      · go_wp2_with fail
        go_ret
        exact ⟨x, rfl, by omega, by omega, hbel⟩

set_option maxHeartbeats 400000 in
theorem szValue_step (s n : Int) (t : ByteArray) (ns : List ByteArray) (ks : List V) (IH : ∀ i, i < ks.length → SzOk (kth ks i)) : SzOk (.mk s n t ns ks) := by
  intro w B v left hR hB hl0 hl1
  obtain ⟨na, ka, nc, kc, rfl, hs, hns, ht, hbs, hK⟩ := hR.inv
  clear hR
  unfold maxLen at ht
  have hbx : ∀ o, Below w.heap.size w (w.alloc o) := fun o => (Below.refl _ _).alloc (Nat.le_refl _) _
  by_cases h1 : left < t.size
  · go_enter Tryz.func77, Tryz.ntmps77
    go_wp2_with fail
    go_ret
    exact ⟨-1, rfl, by omega, by omega, hbx _⟩
  · go_enter Tryz.func77, Tryz.ntmps77
    go_wp2_with (first
      | (go_at_call 97; refine (szStringS_any ns na nc _ (· < B) (hs.under ((hbx _).mono hB)) _ (by omega) (by omega)).mono ?_; rintro e w' ⟨y, rfl, hy0, hy1, -, rfl⟩)
      | (go_at_call 98; refine (szValueS_any ks IH _ B ka kc _ (hK.under ((hbx _).mono hB)) (by simp; omega) (by omega) (by omega)).mono ?_; rintro e w' ⟨z, rfl, hz0, hz1, hbz⟩))
    · go_ret
      exact ⟨-1, rfl, by omega, by omega, hbx _⟩
    · go_ret
      exact ⟨-1, rfl, by omega, by omega, (hbx _).trans (hbz.mono (by simp))⟩
    · go_ret
      exact ⟨z, rfl, by omega, by omega, (hbx _).trans (hbz.mono (by simp))⟩

theorem sz_all (m : Nat) : ∀ x : V, SizeOf.sizeOf x < m → SzOk x := by
  induction m with
  | zero => intro x h; omega
  | succ m ih =>
    intro x h
    match x, h with
    | .mk s n t ns ks, h => exact szValue_step s n t ns ks fun i hi => ih _ (by have := kth_lt ks i hi; simp at h; omega)
theorem szValue_any (x : V) : SzOk x := sz_all _ x (Nat.lt_succ_self _)

def zeroV : Value := .agg #[.int .i64 0, .int .i64 0, .string ByteArray.empty, .slice none 0 0, .slice none 0 0]
theorem info30 : (Tryz.prog.info? 58).map (fun i => (i.zero, i.size, i.bytes)) = some (some zeroV, 5, 80) := by kernel_rfl

/-- A value stored at element k of a row of values. -/
def put5 (w : World) (N k : Nat) (c0 c1 c2 c3 c4 : Value) : World :=
  ((((w.setCell ⟨N, k, none⟩ c0).setCell ⟨N, k + 1, none⟩ c1).setCell ⟨N, k + 2, none⟩ c2).setCell ⟨N, k + 3, none⟩ c3).setCell ⟨N, k + 4, none⟩ c4
theorem put5_block (w : World) (N k : Nat) (c0 c1 c2 c3 c4 : Value) (b : Nat) (h : b ≠ N) : (put5 w N k c0 c1 c2 c3 c4).heap[b]? = w.heap[b]? := by
  unfold put5
  rw [Below.heap_setCell _ _ _ _ h, Below.heap_setCell _ _ _ _ h, Below.heap_setCell _ _ _ _ h, Below.heap_setCell _ _ _ _ h, Below.heap_setCell _ _ _ _ h]
theorem put5_size (w : World) (N k : Nat) (c0 c1 c2 c3 c4 : Value) : (put5 w N k c0 c1 c2 c3 c4).heap.size = w.heap.size := by
  simp [put5, World.setCell]
theorem put5_below {a w : World} {B N : Nat} (h : Below B a w) (hN : B ≤ N) (k : Nat) (c0 c1 c2 c3 c4 : Value) : Below B a (put5 w N k c0 c1 c2 c3 c4) :=
  ((((h.setCell hN _).setCell hN _).setCell hN _).setCell hN _).setCell hN _
theorem put5_row {w : World} {N L : Nat} {e : TypeId} {F : Nat → Value} (h : w.rowIs N e L F) (k : Nat) (c0 c1 c2 c3 c4 : Value) : ∃ G : Nat → Value, (put5 w N k c0 c1 c2 c3 c4).rowIs N e L G ∧ (G k = c0 ∧ G (k + 1) = c1 ∧ G (k + 2) = c2 ∧ G (k + 3) = c3 ∧ G (k + 4) = c4) ∧ ∀ i, i < k → G i = F i := by
  refine ⟨_, ((((h.set k c0).set (k + 1) c1).set (k + 2) c2).set (k + 3) c3).set (k + 4) c4, ?_, ?_⟩
  · simp
  · intro i hi
    simp [show i ≠ k by omega, show i ≠ k + 1 by omega, show i ≠ k + 2 by omega, show i ≠ k + 3 by omega, show i ≠ k + 4 by omega]

/-- What toValue does with a value. -/
def CpOk (x : V) : Prop := ∀ (w : World) (B : Nat) (v : Value), Rep w (· < B) x v → B ≤ w.heap.size →
  Calls Tryz.prog 80 #[v] w fun e w' => ∃ (s n : Int) (t : ByteArray) (na ka : Option Addr) (nl nc kl kc : Nat), e = .returned (.agg #[.int .i64 s, .int .i64 n, .string t, .slice na nl nc, .slice ka kl kc]) ∧ Below w.heap.size w w' ∧
    Rep w' (fun b => w.heap.size ≤ b ∧ b < w'.heap.size) x (.agg #[.int .i64 s, .int .i64 n, .string t, .slice na nl nc, .slice ka kl kc])

set_option maxHeartbeats 400000 in
theorem toValueS_any (ks : List V) (IH : ∀ i, i < ks.length → CpOk (kth ks i)) (w : World) (B : Nat) (a : Option Addr) (c : Nat) (hK : Kids w (· < B) ks a) (hB : B ≤ w.heap.size) :
    Calls Tryz.prog 100 #[.slice a ks.length c] w fun e w' => e = .returned (.slice (some ⟨w.heap.size, 0, none⟩) ks.length ks.length) ∧ Below w.heap.size w w' ∧ w.heap.size < w'.heap.size ∧
      Kids w' (fun b => w.heap.size ≤ b ∧ b < w'.heap.size) ks (some ⟨w.heap.size, 0, none⟩) := by
  have h3 := hK.1
  obtain ⟨-, b, off, C, hka, hc, hr⟩ := hK
  have hmk := run_make_any (P := Tryz.prog) 56 58 zeroV #[.int .i64 0, .int .i64 0, .string ByteArray.empty, .slice none 0 0, .slice none 0 0] rfl 5 80 Tryz.underlying56 info30 .i64 .i64 ks.length h3 (by omega)
  go_enter Tryz.func100, Tryz.ntmps100
  go_wp2_with fail
  go_loopw [4] (fun i wr => ∃ (k : Nat) (F : Nat → Value), k ≤ ks.length ∧ i = .int .i64 k ∧ Below w.heap.size w wr ∧ wr.rowIs w.heap.size 58 (ks.length * 5) F ∧
      ∀ i, i < k → Rep wr (fun b => w.heap.size < b ∧ b < wr.heap.size) (kth ks i) (.agg #[F (i * 5), F (i * 5 + 1), F (i * 5 + 2), F (i * 5 + 3), F (i * 5 + 4)])) (fun i _ => ks.length - (intOf i).toNat)
  case atStart =>
    refine ⟨0, fun i => (madeCells #[Value.int .i64 0, .int .i64 0, .string ByteArray.empty, .slice none 0 0, .slice none 0 0] (ks.length * 5))[i]?.getD undef, Nat.zero_le _, rfl, (Below.refl _ _).alloc (Nat.le_refl _) _, ?_, fun i hi => by omega⟩
    have h := World.rowIs_alloc w (madeCells #[Value.int .i64 0, .int .i64 0, .string ByteArray.empty, .slice none 0 0, .slice none 0 0] (ks.length * 5)) 58 (fun i => (madeCells #[Value.int .i64 0, .int .i64 0, .string ByteArray.empty, .slice none 0 0, .slice none 0 0] (ks.length * 5))[i]?.getD undef) (fun i hi => by simp [hi])
    rw [size_madeCells] at h
    exact h
  case round =>
    obtain ⟨k, F, hk, rfl, hbel, hrow, hreps⟩ := hrel
    by_cases hlt : k < ks.length
    · obtain ⟨rfl, hbB⟩ := hka (by intro e; simp [e] at hlt)
      have hck : ∀ j, j < 5 → wr.cell? ⟨b, off + k * 5 + j, none⟩ = some (C k j) := fun j hj => (hbel.cell (p := ⟨b, off + k * 5 + j, none⟩) (by show b < _; omega)).trans (hc k hlt j hj)
      have hc0 : wr.cell? ⟨b, off + k * 5, none⟩ = some (C k 0) := hck 0 (by omega)
      have hc1 := hck 1 (by omega)
      have hc2 := hck 2 (by omega)
      have hc3 := hck 3 (by omega)
      have hc4 := hck 4 (by omega)
      clear hck hc
      have hlt5 : k * 5 + 4 < ks.length * 5 := by omega
      go_wp2_with (
        go_at_call 80
        refine (IH k hlt _ B _ ((hr k hlt).under (hbel.mono hB)) (by have := hbel.size; omega)).mono ?_
        rintro e w1 ⟨s, n, t, na, ka, nl, nc, kl, kc, rfl, hby, hry⟩
        have hrow1 := hrow.of_block (hby.block _ hrow.lt)
        have q0 : w1.cell? ⟨w.heap.size, k * 5, none⟩ = some (F (k * 5)) := hrow1.cell (by omega)
        have q1 : w1.cell? ⟨w.heap.size, k * 5 + 1, none⟩ = some (F (k * 5 + 1)) := hrow1.cell (by omega)
        have q2 : w1.cell? ⟨w.heap.size, k * 5 + 2, none⟩ = some (F (k * 5 + 2)) := hrow1.cell (by omega)
        have q3 : w1.cell? ⟨w.heap.size, k * 5 + 3, none⟩ = some (F (k * 5 + 3)) := hrow1.cell (by omega)
        have q4 : w1.cell? ⟨w.heap.size, k * 5 + 4, none⟩ = some (F (k * 5 + 4)) := hrow1.cell (by omega)
        have z0 : ∀ j, w1.frozen? ⟨w.heap.size, j, none⟩ = false := fun j => hrow1.frozen j)
      go_roundw
      case rel =>
        obtain ⟨G, hG, ⟨g0, g1, g2, g3, g4⟩, hGF⟩ := put5_row hrow1 (k * 5) (.int .i64 s) (.int .i64 n) (.string t) (.slice na nl nc) (.slice ka kl kc)
        have hs1 := hbel.size
        have hs2 := hby.size
        have hs3 := hrow.lt
        refine ⟨k + 1, G, by omega, by go_num, put5_below (hbel.trans (hby.mono hs1)) (Nat.le_refl _) _ _ _ _ _ _, hG, fun i hi => ?_⟩
        by_cases e1 : i = k
        · subst e1
          rw [g0, g1, g2, g3, g4]
          refine (hry.mono fun b hb => put5_block w1 _ _ _ _ _ _ _ b (by omega)).sub fun b hb => ⟨by omega, ?_⟩
          have := put5_size w1 w.heap.size (i * 5) (.int .i64 s) (.int .i64 n) (.string t) (.slice na nl nc) (.slice ka kl kc)
          show b < (put5 w1 w.heap.size (i * 5) (.int .i64 s) (.int .i64 n) (.string t) (.slice na nl nc) (.slice ka kl kc)).heap.size
          omega
        · rw [hGF _ (by omega), hGF _ (by omega), hGF _ (by omega), hGF _ (by omega), hGF _ (by omega)]
          refine ((hreps i (by omega)).mono fun b hb => (put5_block w1 _ _ _ _ _ _ _ b (by omega)).trans (hby.block b hb.2)).sub fun b hb => ⟨hb.1, ?_⟩
          have := put5_size w1 w.heap.size (k * 5) (.int .i64 s) (.int .i64 n) (.string t) (.slice na nl nc) (.slice ka kl kc)
          show b < (put5 w1 w.heap.size (k * 5) (.int .i64 s) (.int .i64 n) (.string t) (.slice na nl nc) (.slice ka kl kc)).heap.size
          omega
      case measure => simp [intOf]; omega
    · go_wp2_with fail
      go_ret
      have e : k = ks.length := by omega
      subst e
      refine ⟨rfl, hbel, hrow.lt, h3, w.heap.size, 0, fun i j => F (i * 5 + j), fun _ => ⟨rfl, Nat.le_refl _, hrow.lt⟩, fun i hi j hj => ?_, fun i hi => (hreps i hi).sub fun b hb => ⟨by omega, hb.2⟩⟩
      have := hrow.cell (i := i * 5 + j) (by omega)
      simpa using this
end Go.Proofs.YtbpdchlbhfjddaaGreat

namespace Go.Proofs.YtbpdchlbhfjddaaGreat
set_option linter.unusedSimpArgs false
set_option linter.unusedVariables false
open Go.RowKit

/-- What toValue's last steps leave: the result's cells hold what was built. -/
theorem cp_end {w w1 w2 : World} {s n : Int} {t : ByteArray} {ns : List ByteArray} {ks : List V} {x y : Value} {N : Nat} (hN : N = w.heap.size) (hbw : Below N w w1) (hsz1 : w1.heap.size = N + 1 + 1 + 1 + 1)
    (hst1 : Strs w1 (· = N + 1 + 1 + 1) ns (some ⟨N + 1 + 1 + 1, 0, none⟩)) (hb2 : Below w1.heap.size (w1.setCell ⟨N + 1 + 1, 3, none⟩ x) w2) (hlt : w1.heap.size < w2.heap.size)
    (hkd2 : Kids w2 (fun b => w1.heap.size ≤ b ∧ b < w2.heap.size) ks (some ⟨w1.heap.size, 0, none⟩)) (ht : t.size ≤ maxLen) (hbs : 16 * ns.length ≤ 281474976710656) (c0 c1 c2 c3 c4 : Value) :
    Below N w (put5 (w2.setCell ⟨N + 1 + 1, 4, none⟩ y) (N + 1) 0 c0 c1 c2 c3 c4) ∧
    Rep (put5 (w2.setCell ⟨N + 1 + 1, 4, none⟩ y) (N + 1) 0 c0 c1 c2 c3 c4) (fun b => N ≤ b ∧ b < (put5 (w2.setCell ⟨N + 1 + 1, 4, none⟩ y) (N + 1) 0 c0 c1 c2 c3 c4).heap.size) (.mk s n t ns ks)
      (.agg #[.int .i64 s, .int .i64 n, .string t, .slice (some ⟨N + 1 + 1 + 1, 0, none⟩) ns.length ns.length, .slice (some ⟨N + 1 + 1 + 1 + 1, 0, none⟩) ks.length ks.length]) := by
  have hsz : (put5 (w2.setCell ⟨N + 1 + 1, 4, none⟩ y) (N + 1) 0 c0 c1 c2 c3 c4).heap.size = w2.heap.size := by rw [put5_size]; simp [World.setCell]
  have hoff : ∀ b, b ≠ N + 1 → b ≠ N + 1 + 1 → (put5 (w2.setCell ⟨N + 1 + 1, 4, none⟩ y) (N + 1) 0 c0 c1 c2 c3 c4).heap[b]? = w2.heap[b]? := fun b h1 h2 => by
    rw [put5_block _ _ _ _ _ _ _ _ _ h1, Below.heap_setCell _ _ _ _ h2]
  refine ⟨put5_below (((hbw.setCell (by show N ≤ N + 1 + 1; omega) _).trans (hb2.mono (by omega))).setCell (by show N ≤ N + 1 + 1; omega) _) (by omega) _ _ _ _ _ _, ?_⟩
  refine Rep.of_kids ((hst1.mono fun k hk => ?_).sub fun k hk => ?_) (Nat.le_refl _) ht hbs ?_
  · rw [hoff k (by omega) (by omega), hb2.block k (by omega), Below.heap_setCell _ _ _ _ (by show k ≠ N + 1 + 1; omega)]
  · rw [hsz]; omega
  · rw [hsz1] at hkd2
    exact (hkd2.mono fun k hk => hoff k (by omega) (by omega)).sub fun k hk => by rw [hsz]; omega

set_option maxHeartbeats 800000 in
theorem toValue_step (s n : Int) (t : ByteArray) (ns : List ByteArray) (ks : List V) (IH : ∀ i, i < ks.length → CpOk (kth ks i)) : CpOk (.mk s n t ns ks) := by
  intro w B v hR hB
  obtain ⟨na, ka, nc, kc, rfl, hs, hns, ht, hbs, hK⟩ := hR.inv
  clear hR
  have hb3 : ∀ o1 o2 o3, Below w.heap.size w (((w.alloc o1).alloc o2).alloc o3) := fun o1 o2 o3 => (((Below.refl _ _).alloc (Nat.le_refl _) _).alloc (by simp) _).alloc (by simp; omega) _
  go_enter Tryz.func80, Tryz.ntmps80
  go_wp2_with (first
    | (
      go_at_call 99
      refine (toStringS_any ns na nc _ ((hs.under ((hb3 _ _ _).mono hB)).sub fun k hk => by simp; omega) hbs).mono ?_
      rintro e w1 ⟨rfl, hb1, hsz1, hst1⟩
      obtain ⟨c1, f1⟩ := bcell hb1
      simp at hsz1
      have hlt1 : w.heap.size + 1 + 1 < w1.heap.size := by omega)
    | (
      go_at_call 100
      have hbw : Below w.heap.size w w1 := (hb3 _ _ _).trans (hb1.mono (by simp; omega))
      refine (toValueS_any ks IH _ B ka kc (hK.under ((hbw.setCell (by show w.heap.size ≤ w.heap.size + 1 + 1; omega) _).mono hB)) (by simp [World.setCell]; omega)).mono ?_
      rintro e w2 ⟨rfl, hb2, hsz2, hkd2⟩
      obtain ⟨c2, f2⟩ := bcell hb2
      simp [World.setCell] at hsz2
      have hlt2 : w.heap.size + 1 + 1 < w2.heap.size := by omega))
  have hbw : Below w.heap.size w w1 := (hb3 _ _ _).trans (hb1.mono (by simp; omega))
  have fin := cp_end (w := w) (w1 := w1) (w2 := w2) (s := s) (n := n) (t := t) (ns := ns) (ks := ks) (x := .slice (some ⟨w.heap.size + 1 + 1 + 1, 0, none⟩) ns.length ns.length) (y := .slice (some ⟨w.heap.size + 1 + 1 + 1 + 1, 0, none⟩) ks.length ks.length) (N := w.heap.size) rfl hbw hsz1 (by simpa using hst1) (by simpa [World.setCell] using hb2) hsz2 (by simpa [World.setCell] using hkd2) ht hbs (.int .i64 s) (.int .i64 n) (.string t) (.slice (some ⟨w.heap.size + 1 + 1 + 1, 0, none⟩) ns.length ns.length) (.slice (some ⟨w.heap.size + 1 + 1 + 1 + 1, 0, none⟩) ks.length ks.length)
  refine bodyPost_ret (v := .agg #[.int .i64 s, .int .i64 n, .string t, .slice (some ⟨w.heap.size + 1 + 1 + 1, 0, none⟩) ns.length ns.length, .slice (some ⟨w.heap.size + 1 + 1 + 1 + 1, 0, none⟩) ks.length ks.length]) ?res rfl ⟨s, n, t, _, _, _, _, _, _, rfl, fin.1, fin.2⟩
  case res =>
    have hr0 : ∀ o1 o3 c, ((((w.alloc o1).alloc (.cells c 58)).alloc o3)).rowIs (w.heap.size + 1) 58 c.size (fun i => c[i]?.getD undef) := fun o1 o3 c => by
      have h := ((w.alloc o1).rowIs_alloc c 58 (fun i => c[i]?.getD undef) (fun i hi => by simp [hi])).alloc o3
      simpa using h
    have hr1 := (hr0 _ _ _).of_block (hb1.block (w.heap.size + 1) (by simp))
    have hr2 := (hr1.setOther (a := ⟨w.heap.size + 1 + 1, 3, none⟩) (by show w.heap.size + 1 ≠ w.heap.size + 1 + 1; omega) (.slice (some ⟨w.heap.size + 1 + 1 + 1, 0, none⟩) ns.length ns.length)).of_block (hb2.block (w.heap.size + 1) (by simp [World.setCell]; omega))
    have p0 := hr2.cell (i := 0) (by simp)
    have p1 := hr2.cell (i := 1) (by simp)
    have p2 := hr2.cell (i := 2) (by simp)
    have p3 := hr2.cell (i := 3) (by simp)
    have p4 := hr2.cell (i := 4) (by simp)
    clear fin hkd2 hst1 hK hs IH c1 c2 f1 f2 hb1 hb2 hr0 hr1 hr2
    simp [results, Tryz.results80, go_sem, p0, p1, p2, p3, p4]

theorem cp_all (m : Nat) : ∀ x : V, SizeOf.sizeOf x < m → CpOk x := by
  induction m with
  | zero => intro x h; omega
  | succ m ih =>
    intro x h
    match x, h with
    | .mk s n t ns ks, h => exact toValue_step s n t ns ks fun i hi => ih _ (by have := kth_lt ks i hi; simp at h; omega)
theorem toValue_any (x : V) : CpOk x := cp_all _ x (Nat.lt_succ_self _)
end Go.Proofs.YtbpdchlbhfjddaaGreat

namespace Go.Proofs.YtbpdchlbhfjddaaGreat
set_option linter.unusedSimpArgs false
set_option linter.unusedVariables false
open Go.RowKit

def EqOk (x : V) : Prop := ∀ (w : World) (B : Nat) (v v' : Value), Rep w (· < B) x v → Rep w (· < B) x v' → B ≤ w.heap.size →
  Calls Tryz.prog 95 #[v, v'] w fun e w' => e = .returned (.bool true) ∧ Below w.heap.size w w'

set_option maxHeartbeats 400000 in
theorem eqValueS_any (ks : List V) (IH : ∀ i, i < ks.length → EqOk (kth ks i)) (w : World) (B : Nat) (a a' : Option Addr) (c c' : Nat) (hK : Kids w (· < B) ks a) (hK' : Kids w (· < B) ks a') (hB : B ≤ w.heap.size) :
    Calls Tryz.prog 118 #[.slice a ks.length c, .slice a' ks.length c'] w fun e w' => e = .returned (.bool true) ∧ Below w.heap.size w w' := by
  obtain ⟨h3, b, off, C, hka, hc, hr⟩ := hK
  obtain ⟨-, b', off', C', hka', hc', hr'⟩ := hK'
  by_cases hn0 : ks.length = 0
  · have hns : ks = [] := by simpa using hn0
    subst hns
    go_enter Tryz.func118, Tryz.ntmps118
    go_wp2_with fail
    go_loop [5] (fun i => i = .int .i64 0) (fun _ => 0)
    case atStart => rfl
    case round =>
      subst hrel
      go_wp2_with fail
      go_ret
      exact ⟨rfl, Below.refl _ _⟩
  · obtain ⟨rfl, hbB⟩ := hka (by intro e; simp [e] at hn0)
    obtain ⟨rfl, hbB'⟩ := hka' (by intro e; simp [e] at hn0)
    clear hka hka'
    go_enter Tryz.func118, Tryz.ntmps118
    go_wp2_with fail
    go_loopw [5] (fun i wr => ∃ k : Nat, k ≤ ks.length ∧ i = .int .i64 k ∧ Below w.heap.size w wr) (fun i _ => ks.length - (intOf i).toNat)
    case atStart => exact ⟨0, Nat.zero_le _, rfl, Below.refl _ _⟩
    case round =>
      obtain ⟨k, hk, rfl, hbel⟩ := hrel
      by_cases hlt : k < ks.length
      · have hck : ∀ j, j < 5 → wr.cell? ⟨b, off + k * 5 + j, none⟩ = some (C k j) := fun j hj => (hbel.cell (p := ⟨b, off + k * 5 + j, none⟩) (by show b < _; omega)).trans (hc k hlt j hj)
        have hc0 : wr.cell? ⟨b, off + k * 5, none⟩ = some (C k 0) := hck 0 (by omega)
        have hc1 := hck 1 (by omega)
        have hc2 := hck 2 (by omega)
        have hc3 := hck 3 (by omega)
        have hc4 := hck 4 (by omega)
        have hdk : ∀ j, j < 5 → wr.cell? ⟨b', off' + k * 5 + j, none⟩ = some (C' k j) := fun j hj => (hbel.cell (p := ⟨b', off' + k * 5 + j, none⟩) (by show b' < _; omega)).trans (hc' k hlt j hj)
        have hd0 : wr.cell? ⟨b', off' + k * 5, none⟩ = some (C' k 0) := hdk 0 (by omega)
        have hd1 := hdk 1 (by omega)
        have hd2 := hdk 2 (by omega)
        have hd3 := hdk 3 (by omega)
        have hd4 := hdk 4 (by omega)
        clear hck hc hdk hc'
        go_wp2_with fail
        go_region_with (go_at_call 95; refine (IH k hlt _ B _ _ ((hr k hlt).under ((hbel.drew).mono hB)) ((hr' k hlt).under ((hbel.drew).mono hB)) (by have := hbel.size; simp; omega)).mono ?_; rintro e w1 ⟨rfl, hby⟩)
        all_goals
          go_wp2_with fail
          go_roundw
          case rel => exact ⟨k + 1, by omega, by go_num, hbel.drew.trans (hby.mono (by have := hbel.size; simpa using this))⟩
          case measure => simp [intOf]; omega
      · go_wp2_with fail
        go_ret
        exact ⟨rfl, hbel⟩

set_option maxHeartbeats 400000 in
theorem eqValue_step (s n : Int) (t : ByteArray) (ns : List ByteArray) (ks : List V) (IH : ∀ i, i < ks.length → EqOk (kth ks i)) : EqOk (.mk s n t ns ks) := by
  intro w B v v' hR hR' hB
  obtain ⟨na, ka, nc, kc, rfl, hs, hns, ht, hbs, hK⟩ := hR.inv
  obtain ⟨na', ka', nc', kc', rfl, hs', hns', -, -, hK'⟩ := hR'.inv
  clear hR hR'
  have hb2 : ∀ o1 o2, Below w.heap.size w ((w.alloc o1).alloc o2) := fun o1 o2 => ((Below.refl _ _).alloc (Nat.le_refl _) _).alloc (by simp) _
  go_enter Tryz.func95, Tryz.ntmps95
  go_wp2_with (first
    | (
      go_at_call 117
      refine (eqStringS_any ns na na' nc nc' _ (· < B) (· < B) (hs.under ((hb2 _ _).mono hB)) (hs'.under ((hb2 _ _).mono hB))).mono ?_
      rintro e w' ⟨rfl, m, rfl⟩)
    | (
      go_at_call 118
      refine (eqValueS_any ks IH _ B ka ka' kc kc' (hK.under ((below_drews (hb2 _ _) m).mono hB)) (hK'.under ((below_drews (hb2 _ _) m).mono hB)) (by simp; omega)).mono ?_
      rintro e w' ⟨rfl, hb⟩))
  go_ret
  exact ⟨rfl, (below_drews (hb2 _ _) m).trans (hb.mono (by simp; omega))⟩

theorem eq_all (m : Nat) : ∀ x : V, SizeOf.sizeOf x < m → EqOk x := by
  induction m with
  | zero => intro x h; omega
  | succ m ih =>
    intro x h
    match x, h with
    | .mk s n t ns ks, h => exact eqValue_step s n t ns ks fun i hi => ih _ (by have := kth_lt ks i hi; simp at h; omega)
theorem eqValue_any (x : V) : EqOk x := eq_all _ x (Nat.lt_succ_self _)
end Go.Proofs.YtbpdchlbhfjddaaGreat
