import Derived.Test.YtbpdchlbhfjddaaGreatJ2
import Derived.Test.YtbpdchlbhfjddaaGreatJ1
import Derived.Test.YtbpdchlbhfjddaaGreatJ3
import Derived.Test.YtbpdchlbhfjddaaGreatArr
namespace Go.Proofs.YtbpdchlbhfjddaaGreat
set_option linter.unusedSimpArgs false
set_option linter.unusedVariables false
open Go.RowKit

/-- What toValue does with a value, and that it may be written. -/
def CpNf (x : V) : Prop := ∀ (w : World) (B : Nat) (v : Value), Rep w (· < B) x v → B ≤ w.heap.size →
  Calls Tryz.prog 80 #[v] w fun e w' => ∃ (s n : Int) (t : ByteArray) (na ka : Option Addr) (nl nc kl kc : Nat), e = .returned (.agg #[.int .i64 s, .int .i64 n, .string t, .slice na nl nc, .slice ka kl kc]) ∧ Below w.heap.size w w' ∧
    Rep w' (fun b => w.heap.size ≤ b ∧ b < w'.heap.size) x (.agg #[.int .i64 s, .int .i64 n, .string t, .slice na nl nc, .slice ka kl kc]) ∧ NF w.heap.size w'

set_option maxHeartbeats 400000 in
theorem toValueS_nf (ks : List V) (IH : ∀ i, i < ks.length → CpNf (kth ks i)) (w : World) (B : Nat) (a : Option Addr) (c : Nat) (hK : Kids w (· < B) ks a) (hB : B ≤ w.heap.size) :
    Calls Tryz.prog 100 #[.slice a ks.length c] w fun e w' => e = .returned (.slice (some ⟨w.heap.size, 0, none⟩) ks.length ks.length) ∧ Below w.heap.size w w' ∧ w.heap.size < w'.heap.size ∧
      Kids w' (fun b => w.heap.size ≤ b ∧ b < w'.heap.size) ks (some ⟨w.heap.size, 0, none⟩) ∧ NF w.heap.size w' := by
  have h3 := hK.1
  obtain ⟨-, b, off, C, hka, hc, hr⟩ := hK
  have hmk := run_make_any (P := Tryz.prog) 56 58 zeroV #[.int .i64 0, .int .i64 0, .string ByteArray.empty, .slice none 0 0, .slice none 0 0] rfl 5 80 Tryz.underlying56 info30 .i64 .i64 ks.length h3 (by omega)
  go_enter Tryz.func100, Tryz.ntmps100
  go_wp2_with fail
  go_loopw [4] (fun i wr => ∃ (k : Nat) (F : Nat → Value), k ≤ ks.length ∧ i = .int .i64 k ∧ Below w.heap.size w wr ∧ wr.rowIs w.heap.size 58 (ks.length * 5) F ∧
      (∀ i, i < k → Rep wr (fun b => w.heap.size < b ∧ b < wr.heap.size) (kth ks i) (.agg #[F (i * 5), F (i * 5 + 1), F (i * 5 + 2), F (i * 5 + 3), F (i * 5 + 4)])) ∧ NF w.heap.size wr) (fun i _ => ks.length - (intOf i).toNat)
  case atStart =>
    refine ⟨0, fun i => (madeCells #[Value.int .i64 0, .int .i64 0, .string ByteArray.empty, .slice none 0 0, .slice none 0 0] (ks.length * 5))[i]?.getD undef, Nat.zero_le _, rfl, (Below.refl _ _).alloc (Nat.le_refl _) _, ?_, fun i hi => by omega, (NF.new w).alloc _ _⟩
    have h := World.rowIs_alloc w (madeCells #[Value.int .i64 0, .int .i64 0, .string ByteArray.empty, .slice none 0 0, .slice none 0 0] (ks.length * 5)) 58 (fun i => (madeCells #[Value.int .i64 0, .int .i64 0, .string ByteArray.empty, .slice none 0 0, .slice none 0 0] (ks.length * 5))[i]?.getD undef) (fun i hi => by simp [hi])
    rw [size_madeCells] at h
    exact h
  case round =>
    obtain ⟨k, F, hk, rfl, hbel, hrow, hreps, hnf⟩ := hrel
    have HNF : Hid (NF w.heap.size wr) := hnf
    clear hnf
    by_cases hlt : k < ks.length
    · obtain ⟨rfl, hbB⟩ := hka (by intro e; simp [e] at hlt)
      have hck : ∀ j, j < 5 → wr.cell? ⟨b, off + k * 5 + j, none⟩ = some (C k j) := fun j hj => (hbel.cell (p := ⟨b, off + k * 5 + j, none⟩) (by show b < _; omega)).trans (hc k hlt j hj)
      have hc0 : wr.cell? ⟨b, off + k * 5, none⟩ = some (C k 0) := hck 0 (by omega)
      have hc1 := hck 1 (by omega)
      have hc2 := hck 2 (by omega)
      have hc3 := hck 3 (by omega)
      have hc4 := hck 4 (by omega)
      clear hck hc
      have hlt5 : k * 5 + 4 < ks.length * 5 := by omega
      go_wp2_with (
        go_at_call 80
        refine (IH k hlt _ B _ ((hr k hlt).under (hbel.mono hB)) (by have := hbel.size; omega)).mono ?_
        rintro e w1 ⟨s, n, t, na, ka, nl, nc, kl, kc, rfl, hby, hry, hnf1⟩
        have HN1 : Hid (NF w.heap.size w1) := NF.call HNF.out hby hnf1
        clear hnf1
        have hrow1 := hrow.of_block (hby.block _ hrow.lt)
        have q0 : w1.cell? ⟨w.heap.size, k * 5, none⟩ = some (F (k * 5)) := hrow1.cell (by omega)
        have q1 : w1.cell? ⟨w.heap.size, k * 5 + 1, none⟩ = some (F (k * 5 + 1)) := hrow1.cell (by omega)
        have q2 : w1.cell? ⟨w.heap.size, k * 5 + 2, none⟩ = some (F (k * 5 + 2)) := hrow1.cell (by omega)
        have q3 : w1.cell? ⟨w.heap.size, k * 5 + 3, none⟩ = some (F (k * 5 + 3)) := hrow1.cell (by omega)
        have q4 : w1.cell? ⟨w.heap.size, k * 5 + 4, none⟩ = some (F (k * 5 + 4)) := hrow1.cell (by omega)
        have z0 : ∀ j, w1.frozen? ⟨w.heap.size, j, none⟩ = false := fun j => hrow1.frozen j)
      go_roundw
      case rel =>
        obtain ⟨G, hG, ⟨g0, g1, g2, g3, g4⟩, hGF⟩ := put5_row hrow1 (k * 5) (.int .i64 s) (.int .i64 n) (.string t) (.slice na nl nc) (.slice ka kl kc)
        have hs1 := hbel.size
        have hs2 := hby.size
        have hs3 := hrow.lt
        refine ⟨k + 1, G, by omega, by go_num, put5_below (hbel.trans (hby.mono hs1)) (Nat.le_refl _) _ _ _ _ _ _, hG, fun i hi => ?_, ((((HN1.out.set _ _).set _ _).set _ _).set _ _).set _ _⟩
        by_cases e1 : i = k
        · subst e1
          rw [g0, g1, g2, g3, g4]
          refine (hry.mono fun b hb => put5_block w1 _ _ _ _ _ _ _ b (by omega)).sub fun b hb => ⟨by omega, ?_⟩
          have := put5_size w1 w.heap.size (i * 5) (.int .i64 s) (.int .i64 n) (.string t) (.slice na nl nc) (.slice ka kl kc)
          show b < (put5 w1 w.heap.size (i * 5) (.int .i64 s) (.int .i64 n) (.string t) (.slice na nl nc) (.slice ka kl kc)).heap.size
          omega
        · rw [hGF _ (by omega), hGF _ (by omega), hGF _ (by omega), hGF _ (by omega), hGF _ (by omega)]
          refine ((hreps i (by omega)).mono fun b hb => (put5_block w1 _ _ _ _ _ _ _ b (by omega)).trans (hby.block b hb.2)).sub fun b hb => ⟨hb.1, ?_⟩
          have := put5_size w1 w.heap.size (k * 5) (.int .i64 s) (.int .i64 n) (.string t) (.slice na nl nc) (.slice ka kl kc)
          show b < (put5 w1 w.heap.size (k * 5) (.int .i64 s) (.int .i64 n) (.string t) (.slice na nl nc) (.slice ka kl kc)).heap.size
          omega
      case measure => simp [intOf]; omega
    · go_wp2_with fail
      go_ret
      have e : k = ks.length := by omega
      subst e
      refine ⟨rfl, hbel, hrow.lt, ⟨h3, w.heap.size, 0, fun i j => F (i * 5 + j), fun _ => ⟨rfl, Nat.le_refl _, hrow.lt⟩, fun i hi j hj => ?_, fun i hi => (hreps i hi).sub fun b hb => ⟨by omega, hb.2⟩⟩, HNF.out⟩
      have := hrow.cell (i := i * 5 + j) (by omega)
      simpa using this
set_option maxHeartbeats 800000 in
theorem toValue_nfstep (s n : Int) (t : ByteArray) (ns : List ByteArray) (ks : List V) (IH : ∀ i, i < ks.length → CpNf (kth ks i)) : CpNf (.mk s n t ns ks) := by
  intro w B v hR hB
  obtain ⟨na, ka, nc, kc, rfl, hs, hns, ht, hbs, hK⟩ := hR.inv
  clear hR
  have hb3 : ∀ o1 o2 o3, Below w.heap.size w (((w.alloc o1).alloc o2).alloc o3) := fun o1 o2 o3 => (((Below.refl _ _).alloc (Nat.le_refl _) _).alloc (by simp) _).alloc (by simp; omega) _
  go_enter Tryz.func80, Tryz.ntmps80
  go_wp2_with (first
    | (
      go_at_call 99
      refine (toStringS_nf ns na nc _ ((hs.under ((hb3 _ _ _).mono hB)).sub fun k hk => by simp; omega) hbs).mono ?_
      rintro e w1 ⟨rfl, hb1, hsz1, hst1, hnf1⟩
      have HN1 : Hid (NF w.heap.size w1) := NF.call (NF.three w _ _ _ _ _ _) hb1 hnf1
      clear hnf1
      obtain ⟨c1, f1⟩ := bcell hb1
      simp at hsz1
      have hlt1 : w.heap.size + 1 + 1 < w1.heap.size := by omega)
    | (
      go_at_call 100
      have hbw : Below w.heap.size w w1 := (hb3 _ _ _).trans (hb1.mono (by simp; omega))
      refine (toValueS_nf ks IH _ B ka kc (hK.under ((hbw.setCell (by show w.heap.size ≤ w.heap.size + 1 + 1; omega) _).mono hB)) (by simp [World.setCell]; omega)).mono ?_
      rintro e w2 ⟨rfl, hb2, hsz2, hkd2, hnf2⟩
      have HN2 : Hid (NF w.heap.size w2) := NF.call (HN1.out.set _ _) hb2 hnf2
      clear hnf2
      obtain ⟨c2, f2⟩ := bcell hb2
      simp [World.setCell] at hsz2
      have hlt2 : w.heap.size + 1 + 1 < w2.heap.size := by omega))
  have hbw : Below w.heap.size w w1 := (hb3 _ _ _).trans (hb1.mono (by simp; omega))
  have fin := cp_end (w := w) (w1 := w1) (w2 := w2) (s := s) (n := n) (t := t) (ns := ns) (ks := ks) (x := .slice (some ⟨w.heap.size + 1 + 1 + 1, 0, none⟩) ns.length ns.length) (y := .slice (some ⟨w.heap.size + 1 + 1 + 1 + 1, 0, none⟩) ks.length ks.length) (N := w.heap.size) rfl hbw hsz1 (by simpa using hst1) (by simpa [World.setCell] using hb2) hsz2 (by simpa [World.setCell] using hkd2) ht hbs (.int .i64 s) (.int .i64 n) (.string t) (.slice (some ⟨w.heap.size + 1 + 1 + 1, 0, none⟩) ns.length ns.length) (.slice (some ⟨w.heap.size + 1 + 1 + 1 + 1, 0, none⟩) ks.length ks.length)
  refine bodyPost_ret (v := .agg #[.int .i64 s, .int .i64 n, .string t, .slice (some ⟨w.heap.size + 1 + 1 + 1, 0, none⟩) ns.length ns.length, .slice (some ⟨w.heap.size + 1 + 1 + 1 + 1, 0, none⟩) ks.length ks.length]) ?res rfl ⟨s, n, t, _, _, _, _, _, _, rfl, fin.1, fin.2, (((((HN2.out.set _ _).set _ _).set _ _).set _ _).set _ _).set _ _⟩
  case res =>
    have hr0 : ∀ o1 o3 c, ((((w.alloc o1).alloc (.cells c 58)).alloc o3)).rowIs (w.heap.size + 1) 58 c.size (fun i => c[i]?.getD undef) := fun o1 o3 c => by
      have h := ((w.alloc o1).rowIs_alloc c 58 (fun i => c[i]?.getD undef) (fun i hi => by simp [hi])).alloc o3
      simpa using h
    have hr1 := (hr0 _ _ _).of_block (hb1.block (w.heap.size + 1) (by simp))
    have hr2 := (hr1.setOther (a := ⟨w.heap.size + 1 + 1, 3, none⟩) (by show w.heap.size + 1 ≠ w.heap.size + 1 + 1; omega) (.slice (some ⟨w.heap.size + 1 + 1 + 1, 0, none⟩) ns.length ns.length)).of_block (hb2.block (w.heap.size + 1) (by simp [World.setCell]; omega))
    have p0 := hr2.cell (i := 0) (by simp)
    have p1 := hr2.cell (i := 1) (by simp)
    have p2 := hr2.cell (i := 2) (by simp)
    have p3 := hr2.cell (i := 3) (by simp)
    have p4 := hr2.cell (i := 4) (by simp)
    clear fin hkd2 hst1 hK hs IH c1 c2 f1 f2 hb1 hb2 hr0 hr1 hr2
    simp [results, Tryz.results80, go_sem, p0, p1, p2, p3, p4]

theorem cpnf_all (m : Nat) : ∀ x : V, SizeOf.sizeOf x < m → CpNf x := by
  induction m with
  | zero => intro x h; omega
  | succ m ih =>
    intro x h
    match x, h with
    | .mk s n t ns ks, h => exact toValue_nfstep s n t ns ks fun i hi => ih _ (by have := kth_lt ks i hi; simp at h; omega)
theorem toValue_nf (x : V) : CpNf x := cpnf_all _ x (Nat.lt_succ_self _)
end Go.Proofs.YtbpdchlbhfjddaaGreat

namespace Go.Proofs.YtbpdchlbhfjddaaGreat
set_option linter.unusedSimpArgs false
set_option linter.unusedVariables false
open Go.RowKit

/-- A cell as it is meant. -/
structure Ce where
  name : ByteArray
  val : V
/-- A row as it is meant. -/
structure Ro where
  type : ByteArray
  id : Int
  cells : List Ce
def Ce.zero : Ce := ⟨ByteArray.empty, V.zero⟩
def Ro.zero : Ro := ⟨ByteArray.empty, 0, []⟩
def cth (cs : List Ce) (i : Nat) : Ce := cs.getD i Ce.zero
def rth (rs : List Ro) (i : Nat) : Ro := rs.getD i Ro.zero

def CeRep (w : World) (P : Nat → Prop) (c : Ce) (v : Value) : Prop := ∃ c1 c2 c3 c4 c5 : Value,
  v = .agg #[.string c.name, c1, c2, c3, c4, c5] ∧ Rep w P c.val (.agg #[c1, c2, c3, c4, c5]) ∧ c.name.size ≤ maxLen
def CeReps (w : World) (P : Nat → Prop) (cs : List Ce) (a : Option Addr) : Prop := 96 * cs.length ≤ 281474976710656 ∧ ∃ C : Nat → Nat → Value, Arr w P 6 cs.length a C ∧ ∀ i, i < cs.length → CeRep w P (cth cs i) (.agg #[C i 0, C i 1, C i 2, C i 3, C i 4, C i 5])
def RoRep (w : World) (P : Nat → Prop) (r : Ro) (v : Value) : Prop := ∃ (ca : Option Addr) (cc : Nat),
  v = .agg #[.string r.type, .int .i64 r.id, .slice ca r.cells.length cc] ∧ CeReps w P r.cells ca ∧ r.cells.length ≤ cc ∧ r.type.size ≤ maxLen
def RoReps (w : World) (P : Nat → Prop) (rs : List Ro) (a : Option Addr) : Prop := 48 * rs.length ≤ 281474976710656 ∧ ∃ C : Nat → Nat → Value, Arr w P 3 rs.length a C ∧ ∀ i, i < rs.length → RoRep w P (rth rs i) (.agg #[C i 0, C i 1, C i 2])
theorem CeRep.mono {w w' : World} {P : Nat → Prop} {f : Ce} {v : Value} (h : CeRep w P f v) (e : ∀ k, P k → w'.heap[k]? = w.heap[k]?) : CeRep w' P f v := by
  obtain ⟨c1, c2, c3, c4, c5, h1, h2, h3⟩ := h; exact ⟨c1, c2, c3, c4, c5, h1, h2.mono e, h3⟩
theorem CeRep.sub {w : World} {P Q : Nat → Prop} {f : Ce} {v : Value} (h : CeRep w P f v) (e : ∀ k, P k → Q k) : CeRep w Q f v := by
  obtain ⟨c1, c2, c3, c4, c5, h1, h2, h3⟩ := h; exact ⟨c1, c2, c3, c4, c5, h1, h2.sub e, h3⟩
theorem CeReps.mono {w w' : World} {P : Nat → Prop} {f : List Ce} {v : Option Addr} (h : CeReps w P f v) (e : ∀ k, P k → w'.heap[k]? = w.heap[k]?) : CeReps w' P f v := by
  obtain ⟨h0, C, h1, h2⟩ := h; exact ⟨h0, C, h1.mono e, fun i hi => (h2 i hi).mono e⟩
theorem CeReps.sub {w : World} {P Q : Nat → Prop} {f : List Ce} {v : Option Addr} (h : CeReps w P f v) (e : ∀ k, P k → Q k) : CeReps w Q f v := by
  obtain ⟨h0, C, h1, h2⟩ := h; exact ⟨h0, C, h1.sub e, fun i hi => (h2 i hi).sub e⟩
theorem RoRep.mono {w w' : World} {P : Nat → Prop} {t : Ro} {v : Value} (h : RoRep w P t v) (e : ∀ k, P k → w'.heap[k]? = w.heap[k]?) : RoRep w' P t v := by
  obtain ⟨fa, fc, h1, h2, h3⟩ := h; exact ⟨fa, fc, h1, h2.mono e, h3⟩
theorem RoRep.sub {w : World} {P Q : Nat → Prop} {t : Ro} {v : Value} (h : RoRep w P t v) (e : ∀ k, P k → Q k) : RoRep w Q t v := by
  obtain ⟨fa, fc, h1, h2, h3⟩ := h; exact ⟨fa, fc, h1, h2.sub e, h3⟩
theorem RoReps.mono {w w' : World} {P : Nat → Prop} {f : List Ro} {v : Option Addr} (h : RoReps w P f v) (e : ∀ k, P k → w'.heap[k]? = w.heap[k]?) : RoReps w' P f v := by
  obtain ⟨h0, C, h1, h2⟩ := h; exact ⟨h0, C, h1.mono e, fun i hi => (h2 i hi).mono e⟩
theorem RoReps.sub {w : World} {P Q : Nat → Prop} {f : List Ro} {v : Option Addr} (h : RoReps w P f v) (e : ∀ k, P k → Q k) : RoReps w Q f v := by
  obtain ⟨h0, C, h1, h2⟩ := h; exact ⟨h0, C, h1.sub e, fun i hi => (h2 i hi).sub e⟩
theorem CeRep.under {w w' : World} {B : Nat} {x : Ce} {v : Value} (h : CeRep w (· < B) x v) (hb : Below B w w') : CeRep w' (· < B) x v := h.mono fun k hk => hb.block k hk
theorem CeReps.under {w w' : World} {B : Nat} {x : List Ce} {v : Option Addr} (h : CeReps w (· < B) x v) (hb : Below B w w') : CeReps w' (· < B) x v := h.mono fun k hk => hb.block k hk
theorem RoRep.under {w w' : World} {B : Nat} {x : Ro} {v : Value} (h : RoRep w (· < B) x v) (hb : Below B w w') : RoRep w' (· < B) x v := h.mono fun k hk => hb.block k hk
theorem RoReps.under {w w' : World} {B : Nat} {x : List Ro} {v : Option Addr} (h : RoReps w (· < B) x v) (hb : Below B w w') : RoReps w' (· < B) x v := h.mono fun k hk => hb.block k hk
theorem CeRep.pieces {w : World} {P : Nat → Prop} {c : Ce} {c0 c1 c2 c3 c4 c5 : Value} (h : CeRep w P c (.agg #[c0, c1, c2, c3, c4, c5])) : c0 = .string c.name ∧ Rep w P c.val (.agg #[c1, c2, c3, c4, c5]) ∧ c.name.size ≤ maxLen := by
  obtain ⟨d1, d2, d3, d4, d5, hv, h2, h3⟩ := h
  simp only [Value.agg.injEq, Array.mk.injEq, List.cons.injEq, and_true] at hv
  obtain ⟨e0, rfl, rfl, rfl, rfl, rfl⟩ := hv
  exact ⟨e0, h2, h3⟩
theorem RoRep.pieces {w : World} {P : Nat → Prop} {t : Ro} {c0 c1 c2 : Value} (h : RoRep w P t (.agg #[c0, c1, c2])) :
    ∃ (fa : Option Addr) (fc : Nat), c0 = .string t.type ∧ c1 = .int .i64 t.id ∧ c2 = .slice fa t.cells.length fc ∧ CeReps w P t.cells fa ∧ t.cells.length ≤ fc ∧ t.type.size ≤ maxLen := by
  obtain ⟨fa, fc, hv, h2, h3, h4⟩ := h
  simp only [Value.agg.injEq, Array.mk.injEq, List.cons.injEq, and_true] at hv
  exact ⟨fa, fc, hv.1, hv.2.1, hv.2.2, h2, h3, h4⟩

theorem hid_of2 {q : Prop} (h : q) : Hid q := h
/-- A cell whose value is no greater than the laws look at; a row of such cells. -/
def CeSm (c : Ce) : Prop := szV c.val ≤ 1048576
def RoSm (r : Ro) : Prop := ∀ i, i < r.cells.length → CeSm (cth r.cells i)
/-- How great cells and rows are. -/
def szC (c : Ce) : Nat := c.name.size + szV c.val
def szR (r : Ro) : Nat := r.type.size + (r.cells.length + (r.cells.map szC).sum)
theorem sum_take {α : Type} (g : α → Nat) (d : α) (xs : List α) (k : Nat) (h : k < xs.length) : ((xs.take (k + 1)).map g).sum = ((xs.take k).map g).sum + g (xs.getD k d) := by
  rw [List.take_succ_eq_append_getElem h]
  simp only [List.map_append, List.sum_append, List.map_cons, List.map_nil, List.sum_cons, List.sum_nil, List.getD_eq_getElem?_getD, List.getElem?_eq_getElem h, Option.getD_some, Nat.add_zero]
theorem sum_part {α : Type} (g : α → Nat) (xs : List α) (k : Nat) : ((xs.take k).map g).sum ≤ (xs.map g).sum := by
  conv => rhs; rw [← List.take_append_drop k xs]
  simp only [List.map_append, List.sum_append]
  omega
theorem sum_one {α : Type} (g : α → Nat) (d : α) (xs : List α) (k : Nat) (h : k < xs.length) : g (xs.getD k d) ≤ (xs.map g).sum := by
  have h1 := sum_take g d xs k h
  have h2 := sum_part g xs (k + 1)
  omega
theorem RoSm.of {r : Ro} (h : szR r ≤ 1048576) : RoSm r := fun i hi => by
  have h1 : szC (cth r.cells i) ≤ (r.cells.map szC).sum := sum_one szC Ce.zero r.cells i hi
  unfold szR at h
  have h2 : szC (cth r.cells i) = (cth r.cells i).name.size + szV (cth r.cells i).val := rfl
  unfold CeSm
  omega

set_option maxHeartbeats 800000 in
theorem szCell_any (c : Ce) (w : World) (B : Nat) (v : Value) (left : Int) (hR : CeRep w (· < B) c v) (hB : B ≤ w.heap.size) (hl0 : 0 ≤ left) (hl1 : left ≤ 1048576) :
    Calls Tryz.prog 54 #[v, .int .i64 left] w fun e w' => ∃ x : Int, e = .returned (.int .i64 x) ∧ -1 ≤ x ∧ x ≤ left ∧ (0 ≤ x → x + szC c ≤ left) ∧ Below w.heap.size w w' := by
  obtain ⟨c1, c2, c3, c4, c5, rfl, hV, hn⟩ := hR
  unfold maxLen at hn
  by_cases h1 : left < c.name.size
  · go_enter Tryz.func54, Tryz.ntmps54
    go_wp2_with fail
    go_ret
    exact ⟨-1, rfl, by omega, by omega, by omega, below_box _ _⟩
  go_enter Tryz.func54, Tryz.ntmps54
  go_wp2_with (go_at_call 77; refine (szValue_sum c.val _ B _ _ (hV.under ((below_box w _).mono hB)) (by simp; omega) (by omega) (by omega)).mono ?_; rintro e w' ⟨y, rfl, hy0, hy1, hy2, hb⟩; have HY := hid_of2 hy2; clear hy2)
  · go_ret
    exact ⟨-1, rfl, by omega, by omega, by omega, (below_box w _).trans (hb.mono (by simp))⟩
  · go_ret
    exact ⟨y, rfl, by omega, by omega, fun h => by have := HY.out h; unfold szC; omega, (below_box w _).trans (hb.mono (by simp))⟩

set_option maxHeartbeats 800000 in
theorem szRow_any0 (r : Ro) (hC : ∀ (w : World) (B : Nat) (a : Option Addr) (c : Nat) (left : Int), CeReps w (· < B) r.cells a → B ≤ w.heap.size → 0 ≤ left → left ≤ 1048576 →
      Calls Tryz.prog 31 #[.slice a r.cells.length c, .int .i64 left] w fun e w' => ∃ x : Int, e = .returned (.int .i64 x) ∧ -1 ≤ x ∧ x ≤ left ∧ (0 ≤ x → x + (r.cells.length + (r.cells.map szC).sum : Nat) ≤ left) ∧ Below w.heap.size w w')
    (w : World) (B : Nat) (v : Value) (left : Int) (hR : RoRep w (· < B) r v) (hB : B ≤ w.heap.size) (hl0 : 0 ≤ left) (hl1 : left ≤ 1048576) :
    Calls Tryz.prog 16 #[v, .int .i64 left] w fun e w' => ∃ x : Int, e = .returned (.int .i64 x) ∧ -1 ≤ x ∧ x ≤ left ∧ (0 ≤ x → x + szR r ≤ left) ∧ Below w.heap.size w w' := by
  obtain ⟨fa, fc, rfl, hs, hnc, hn⟩ := hR
  unfold maxLen at hn
  by_cases h1 : left < r.type.size
  · go_enter Tryz.func16, Tryz.ntmps16
    go_wp2_with fail
    go_ret
    exact ⟨-1, rfl, by omega, by omega, by omega, below_box _ _⟩
  go_enter Tryz.func16, Tryz.ntmps16
  go_wp2_with (go_at_call 31; refine (hC _ B fa fc _ (hs.under ((below_box w _).mono hB)) (by simp; omega) (by omega) (by omega)).mono ?_; rintro e w' ⟨y, rfl, hy0, hy1, hy2, hb⟩; have HY := hid_of2 hy2; clear hy2)
  · go_ret
    exact ⟨-1, rfl, by omega, by omega, by omega, (below_box w _).trans (hb.mono (by simp))⟩
  · go_ret
    exact ⟨y, rfl, by omega, by omega, fun h => by have := HY.out h; unfold szR; omega, (below_box w _).trans (hb.mono (by simp))⟩

set_option maxHeartbeats 400000 in
theorem szCellS_any (xs : List Ce) (w : World) (B : Nat) (a : Option Addr) (c : Nat) (left : Int) (hK : CeReps w (· < B) xs a) (hB : B ≤ w.heap.size) (hl0 : 0 ≤ left) (hl1 : left ≤ 1048576) :
    Calls Tryz.prog 31 #[.slice a xs.length c, .int .i64 left] w fun e w' => ∃ x : Int, e = .returned (.int .i64 x) ∧ -1 ≤ x ∧ x ≤ left ∧ (0 ≤ x → x + (xs.length + (xs.map szC).sum : Nat) ≤ left) ∧ Below w.heap.size w w' := by
  obtain ⟨h3, C, hA, hr⟩ := hK
  by_cases hbig : left < xs.length
  · go_enter Tryz.func31, Tryz.ntmps31
    go_wp2_with fail
    go_ret
    exact ⟨-1, rfl, by omega, by omega, by omega, Below.refl _ _⟩
  · go_enter Tryz.func31, Tryz.ntmps31
    go_wp2_with fail
    go_loopw [1, 5] (fun l i wr => ∃ (k : Nat) (x : Int), k ≤ xs.length ∧ i = .int .i64 k ∧ l = .int .i64 x ∧ 0 ≤ x ∧ x + xs.length ≤ left ∧ Hid (x + (xs.length + ((xs.take k).map szC).sum : Nat) ≤ left) ∧ Below w.heap.size w wr) (fun _ i _ => xs.length - (intOf i).toNat)
    case atStart => exact ⟨0, _, Nat.zero_le _, rfl, rfl, by omega, by omega, hid_of2 (by simp only [List.take_zero, List.map_nil, List.sum_nil]; omega), Below.refl _ _⟩
    case round =>
      obtain ⟨k, x, hk, rfl, rfl, hx0, hx1, hsm, hbel⟩ := hrel
      by_cases hlt : k < xs.length
      · obtain ⟨b, off, rfl, hbB, hc⟩ := hA (by omega)
        have hck : ∀ j, j < 6 → wr.cell? ⟨b, off + k * 6 + j, none⟩ = some (C k j) := fun j hj => (hbel.cell (p := ⟨b, off + k * 6 + j, none⟩) (by show b < _; omega)).trans (hc k hlt j hj)
        have hc0 : wr.cell? ⟨b, off + k * 6, none⟩ = some (C k 0) := hck 0 (by omega)
        have hc1 : wr.cell? ⟨b, off + k * 6 + 1, none⟩ = some (C k 1) := hck 1 (by omega)
        have hc2 : wr.cell? ⟨b, off + k * 6 + 2, none⟩ = some (C k 2) := hck 2 (by omega)
        have hc3 : wr.cell? ⟨b, off + k * 6 + 3, none⟩ = some (C k 3) := hck 3 (by omega)
        have hc4 : wr.cell? ⟨b, off + k * 6 + 4, none⟩ = some (C k 4) := hck 4 (by omega)
        have hc5 : wr.cell? ⟨b, off + k * 6 + 5, none⟩ = some (C k 5) := hck 5 (by omega)
        clear hck hc
        go_wp2_with (go_at_call 54; refine (szCell_any _ _ B _ x ((hr k hlt).under (hbel.mono hB)) (by have := hbel.size; omega) hx0 (by omega)).mono ?_; rintro e w' ⟨y, rfl, hy0, hy1, hy2, hby⟩; have HY := hid_of2 hy2; clear hy2)
        · go_ret
          exact ⟨-1, rfl, by omega, by omega, by omega, hbel.trans (hby.mono hbel.size)⟩
        · go_roundw
          case rel => exact ⟨k + 1, y, by omega, by go_num, rfl, by assumption, by omega, hid_of2 (by
            have h1 := HY.out (by assumption)
            have h2 := hsm.out
            have h3 : _ = _ + szC (cth xs k) := sum_take szC Ce.zero xs k hlt
            rw [h3]
            omega), hbel.trans (hby.mono hbel.size)⟩
          case measure => simp [intOf]; omega
      · go_wp2_with fail
        go_ret
        exact ⟨x, rfl, by omega, by omega, fun _ => by have h := hsm.out; rw [show k = xs.length by omega, List.take_length] at h; exact h, hbel⟩

theorem szRow_any (r : Ro) (w : World) (B : Nat) (v : Value) (left : Int) (hR : RoRep w (· < B) r v) (hB : B ≤ w.heap.size) (hl0 : 0 ≤ left) (hl1 : left ≤ 1048576) :
    Calls Tryz.prog 16 #[v, .int .i64 left] w fun e w' => ∃ x : Int, e = .returned (.int .i64 x) ∧ -1 ≤ x ∧ x ≤ left ∧ (0 ≤ x → x + szR r ≤ left) ∧ Below w.heap.size w w' :=
  szRow_any0 r (fun w B a c left h1 h2 h3 h4 => szCellS_any r.cells w B a c left h1 h2 h3 h4) w B v left hR hB hl0 hl1

set_option maxHeartbeats 400000 in
theorem szRowS_any (xs : List Ro) (w : World) (B : Nat) (a : Option Addr) (c : Nat) (left : Int) (hK : RoReps w (· < B) xs a) (hB : B ≤ w.heap.size) (hl0 : 0 ≤ left) (hl1 : left ≤ 1048576) :
    Calls Tryz.prog 5 #[.slice a xs.length c, .int .i64 left] w fun e w' => ∃ x : Int, e = .returned (.int .i64 x) ∧ -1 ≤ x ∧ x ≤ left ∧ (0 ≤ x → x + (xs.length + (xs.map szR).sum : Nat) ≤ left) ∧ Below w.heap.size w w' := by
  obtain ⟨h3, C, hA, hr⟩ := hK
  by_cases hbig : left < xs.length
  · go_enter Tryz.func5, Tryz.ntmps5
    go_wp2_with fail
    go_ret
    exact ⟨-1, rfl, by omega, by omega, by omega, Below.refl _ _⟩
  · go_enter Tryz.func5, Tryz.ntmps5
    go_wp2_with fail
    go_loopw [1, 5] (fun l i wr => ∃ (k : Nat) (x : Int), k ≤ xs.length ∧ i = .int .i64 k ∧ l = .int .i64 x ∧ 0 ≤ x ∧ x + xs.length ≤ left ∧ Hid (x + (xs.length + ((xs.take k).map szR).sum : Nat) ≤ left) ∧ Below w.heap.size w wr) (fun _ i _ => xs.length - (intOf i).toNat)
    case atStart => exact ⟨0, _, Nat.zero_le _, rfl, rfl, by omega, by omega, hid_of2 (by simp only [List.take_zero, List.map_nil, List.sum_nil]; omega), Below.refl _ _⟩
    case round =>
      obtain ⟨k, x, hk, rfl, rfl, hx0, hx1, hsm, hbel⟩ := hrel
      by_cases hlt : k < xs.length
      · obtain ⟨b, off, rfl, hbB, hc⟩ := hA (by omega)
        have hck : ∀ j, j < 3 → wr.cell? ⟨b, off + k * 3 + j, none⟩ = some (C k j) := fun j hj => (hbel.cell (p := ⟨b, off + k * 3 + j, none⟩) (by show b < _; omega)).trans (hc k hlt j hj)
        have hc0 : wr.cell? ⟨b, off + k * 3, none⟩ = some (C k 0) := hck 0 (by omega)
        have hc1 : wr.cell? ⟨b, off + k * 3 + 1, none⟩ = some (C k 1) := hck 1 (by omega)
        have hc2 : wr.cell? ⟨b, off + k * 3 + 2, none⟩ = some (C k 2) := hck 2 (by omega)
        clear hck hc
        go_wp2_with (go_at_call 16; refine (szRow_any _ _ B _ x ((hr k hlt).under (hbel.mono hB)) (by have := hbel.size; omega) hx0 (by omega)).mono ?_; rintro e w' ⟨y, rfl, hy0, hy1, hy2, hby⟩; have HY := hid_of2 hy2; clear hy2)
        · go_ret
          exact ⟨-1, rfl, by omega, by omega, by omega, hbel.trans (hby.mono hbel.size)⟩
        · go_roundw
          case rel => exact ⟨k + 1, y, by omega, by go_num, rfl, by assumption, by omega, hid_of2 (by
            have h1 := HY.out (by assumption)
            have h2 := hsm.out
            have h3 : _ = _ + szR (rth xs k) := sum_take szR Ro.zero xs k hlt
            rw [h3]
            omega), hbel.trans (hby.mono hbel.size)⟩
          case measure => simp [intOf]; omega
      · go_wp2_with fail
        go_ret
        exact ⟨x, rfl, by omega, by omega, fun _ => by have h := hsm.out; rw [show k = xs.length by omega, List.take_length] at h; exact h, hbel⟩
end Go.Proofs.YtbpdchlbhfjddaaGreat
