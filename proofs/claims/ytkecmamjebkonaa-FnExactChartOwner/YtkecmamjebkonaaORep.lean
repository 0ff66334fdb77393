/-
  Owners in memory, and the laws' functions over them.
-/
import Derived.Test.YtkecmamjebkonaaInts
import Derived.Test.YtkecmamjebkonaaPEq
namespace Go.Proofs.Ytkecmamjebkonaa
set_option linter.unusedSimpArgs false
set_option linter.unusedVariables false
open Go.RowKit

/-- An owner as it is meant: a type, a field, and who knows it. -/
structure O where
  type : ByteArray
  field : ByteArray
  parts : List Int
def O.zero : O := ⟨ByteArray.empty, ByteArray.empty, []⟩
def oth (ts : List O) (i : Nat) : O := ts.getD i O.zero
def ORep (w : World) (P : Nat → Prop) (t : O) (v : Value) : Prop := ∃ (fa : Option Addr) (fc : Nat),
  v = .agg #[.string t.type, .string t.field, .slice fa t.parts.length fc] ∧ Ints w P t.parts fa ∧ t.parts.length ≤ fc ∧ t.type.size ≤ maxLen ∧ t.field.size ≤ maxLen
def OsRep (w : World) (P : Nat → Prop) (ts : List O) (a : Option Addr) : Prop := 56 * ts.length ≤ 281474976710656 ∧ ∃ C : Nat → Nat → Value, Arr w P 3 ts.length a C ∧ ∀ i, i < ts.length → ORep w P (oth ts i) (.agg #[C i 0, C i 1, C i 2])
theorem ORep.mono {w w' : World} {P : Nat → Prop} {t : O} {v : Value} (h : ORep w P t v) (e : ∀ k, P k → w'.heap[k]? = w.heap[k]?) : ORep w' P t v := by
  obtain ⟨fa, fc, h1, h2, h3⟩ := h; exact ⟨fa, fc, h1, h2.mono e, h3⟩
theorem ORep.sub {w : World} {P Q : Nat → Prop} {t : O} {v : Value} (h : ORep w P t v) (e : ∀ k, P k → Q k) : ORep w Q t v := by
  obtain ⟨fa, fc, h1, h2, h3⟩ := h; exact ⟨fa, fc, h1, h2.sub e, h3⟩
theorem OsRep.mono {w w' : World} {P : Nat → Prop} {f : List O} {v : Option Addr} (h : OsRep w P f v) (e : ∀ k, P k → w'.heap[k]? = w.heap[k]?) : OsRep w' P f v := by
  obtain ⟨h0, C, h1, h2⟩ := h; exact ⟨h0, C, h1.mono e, fun i hi => (h2 i hi).mono e⟩
theorem OsRep.sub {w : World} {P Q : Nat → Prop} {f : List O} {v : Option Addr} (h : OsRep w P f v) (e : ∀ k, P k → Q k) : OsRep w Q f v := by
  obtain ⟨h0, C, h1, h2⟩ := h; exact ⟨h0, C, h1.sub e, fun i hi => (h2 i hi).sub e⟩
theorem ORep.under {w w' : World} {B : Nat} {x : O} {v : Value} (h : ORep w (· < B) x v) (hb : Below B w w') : ORep w' (· < B) x v := h.mono fun k hk => hb.block k hk
theorem OsRep.under {w w' : World} {B : Nat} {x : List O} {v : Option Addr} (h : OsRep w (· < B) x v) (hb : Below B w w') : OsRep w' (· < B) x v := h.mono fun k hk => hb.block k hk
theorem ORep.pieces {w : World} {P : Nat → Prop} {t : O} {c0 c1 c2 : Value} (h : ORep w P t (.agg #[c0, c1, c2])) :
    ∃ (fa : Option Addr) (fc : Nat), c0 = .string t.type ∧ c1 = .string t.field ∧ c2 = .slice fa t.parts.length fc ∧ Ints w P t.parts fa ∧ t.parts.length ≤ fc ∧ t.type.size ≤ maxLen ∧ t.field.size ≤ maxLen := by
  obtain ⟨fa, fc, hv, h2, h3, h4, h5⟩ := h
  simp only [Value.agg.injEq, Array.mk.injEq, List.cons.injEq, and_true] at hv
  exact ⟨fa, fc, hv.1, hv.2.1, hv.2.2, h2, h3, h4, h5⟩
def szO (t : O) : Nat := t.type.size + t.field.size + szIs t.parts
def szOsTo (ts : List O) (n : Nat) : Nat := ((List.range n).map fun i => szO (oth ts i)).sum
theorem szOsTo_succ (ts : List O) (n : Nat) : szOsTo ts (n + 1) = szOsTo ts n + szO (oth ts n) := by simp [szOsTo, List.range_succ]
def szOs (ts : List O) : Nat := ts.length + szOsTo ts ts.length

set_option maxHeartbeats 400000 in
theorem szOwner_any (t : O) (w : World) (B : Nat) (v : Value) (left : Int) (hR : ORep w (· < B) t v) (hB : B ≤ w.heap.size) (hl0 : 0 ≤ left) (hl1 : left ≤ 1048576) :
    Calls Try.prog 22 #[v, .int .i64 left] w fun e w' => ∃ x : Int, e = .returned (.int .i64 x) ∧ -1 ≤ x ∧ x ≤ left ∧ (0 ≤ x → x + szO t ≤ left) ∧ Below w.heap.size w w' := by
  obtain ⟨fa, fc, rfl, hs, hnc, hn, ho⟩ := hR
  obtain ⟨name, key, fields⟩ := t
  simp only at hs hnc hn ho
  unfold maxLen at hn ho
  by_cases h1 : left < name.size
  · go_enter Try.func22, Try.ntmps22
    go_wp2_with fail
    go_ret
    exact ⟨-1, rfl, by omega, by omega, by omega, below_box _ _⟩
  by_cases h2 : left - name.size < key.size
  · go_enter Try.func22, Try.ntmps22
    go_wp2_with fail
    go_ret
    exact ⟨-1, rfl, by omega, by omega, by omega, below_box _ _⟩
  go_enter Try.func22, Try.ntmps22
  go_wp2_with (go_at_call 30; refine (szIntS_any fields _ B fa fc _ (hs.under ((below_box w _).mono hB)) (by simp; omega) (by omega) (by omega)).mono ?_; rintro e w' ⟨y, rfl, hy0, hy1, hy2, hb⟩)
  · go_ret
    exact ⟨-1, rfl, by omega, by omega, by omega, (below_box w _).trans (hb.mono (by simp))⟩
  · go_ret
    exact ⟨y, rfl, by omega, by omega, fun h => by have := hy2 h; simp only [szO]; omega, (below_box w _).trans (hb.mono (by simp))⟩

set_option maxHeartbeats 400000 in
theorem szOwnerS_any (ts : List O) (w : World) (B : Nat) (a : Option Addr) (c : Nat) (left : Int) (hK : OsRep w (· < B) ts a) (hB : B ≤ w.heap.size) (hl0 : 0 ≤ left) (hl1 : left ≤ 1048576) :
    Calls Try.prog 14 #[.slice a ts.length c, .int .i64 left] w fun e w' => ∃ x : Int, e = .returned (.int .i64 x) ∧ -1 ≤ x ∧ x ≤ left ∧ (0 ≤ x → x + szOs ts ≤ left) ∧ Below w.heap.size w w' := by
  obtain ⟨h3, C, hA, hr⟩ := hK
  by_cases hbig : left < ts.length
  · go_enter Try.func14, Try.ntmps14
    go_wp2_with fail
    go_ret
    exact ⟨-1, rfl, by omega, by omega, by omega, Below.refl _ _⟩
  by_cases hn0 : ts.length = 0
  · have hns : ts = [] := by simpa using hn0
    subst hns
    go_enter Try.func14, Try.ntmps14
    go_wp2_with fail
    go_loop [1, 5] (fun l i => i = .int .i64 0 ∧ l = .int .i64 left) (fun _ _ => 0)
    case atStart => exact ⟨rfl, rfl⟩
    case round =>
      obtain ⟨rfl, rfl⟩ := hrel
      go_wp2_with fail
      go_ret
      exact ⟨left, rfl, by omega, by omega, by simp [szOs, szOsTo], Below.refl _ _⟩
  · obtain ⟨b, off, rfl, hbB, hc⟩ := hA (by omega)
    go_enter Try.func14, Try.ntmps14
    go_wp2_with fail
    go_loopw [1, 5] (fun l i wr => ∃ (k : Nat) (x : Int), k ≤ ts.length ∧ i = .int .i64 k ∧ l = .int .i64 x ∧ 0 ≤ x ∧ x ≤ left ∧ x + szOsTo ts k + ts.length ≤ left ∧ Below w.heap.size w wr) (fun _ i _ => ts.length - (intOf i).toNat)
    case atStart => exact ⟨0, _, Nat.zero_le _, rfl, rfl, by omega, by omega, by simp [szOsTo], Below.refl _ _⟩
    case round =>
      obtain ⟨k, x, hk, rfl, rfl, hx0, hx1, hx2, hbel⟩ := hrel
      have HX : Hid (x + szOsTo ts k + ts.length ≤ left) := hx2
      clear hx2
      by_cases hlt : k < ts.length
      · have hck : ∀ j, j < 3 → wr.cell? ⟨b, off + k * 3 + j, none⟩ = some (C k j) := fun j hj => (hbel.cell (p := ⟨b, off + k * 3 + j, none⟩) (by show b < _; omega)).trans (hc k hlt j hj)
        have hc0 : wr.cell? ⟨b, off + k * 3, none⟩ = some (C k 0) := hck 0 (by omega)
        have hc1 := hck 1 (by omega)
        have hc2 := hck 2 (by omega)
        clear hck hc
        go_wp2_with (go_at_call 22; refine (szOwner_any _ _ B _ x ((hr k hlt).under (hbel.mono hB)) (by have := hbel.size; omega) hx0 (by omega)).mono ?_; rintro e w' ⟨y, rfl, hy0, hy1, hy2, hby⟩)
        · go_ret
          exact ⟨-1, rfl, by omega, by omega, by omega, hbel.trans (hby.mono hbel.size)⟩
        · go_roundw
          case rel => exact ⟨k + 1, y, by omega, by go_num, rfl, by assumption, by omega, by have := HX.out; have := hy2 (by assumption); rw [szOsTo_succ]; omega, hbel.trans (hby.mono hbel.size)⟩
          case measure => simp [intOf]; omega
      · go_wp2_with fail
        go_ret
        have e : k = ts.length := by omega
        exact ⟨x, rfl, by omega, by omega, fun _ => by have := HX.out; rw [szOs]; rw [e] at this; omega, hbel⟩

/-- What toOwner's last steps leave. -/
theorem cpO_end {w w1 : World} {t : O} {x : Value} {N : Nat} (hN : N = w.heap.size) (hbw : Below N w w1) (hsz1 : N + 1 + 1 + 1 < w1.heap.size)
    (hst1 : Ints w1 (fun b => N + 1 + 1 + 1 ≤ b ∧ b < w1.heap.size) t.parts (some ⟨N + 1 + 1 + 1, 0, none⟩)) (h1 : t.type.size ≤ maxLen) (h2 : t.field.size ≤ maxLen) (cs : List Value) :
    Below N w (puts (w1.setCell ⟨N + 1 + 1, 2, none⟩ x) (N + 1) 0 cs) ∧
    ORep (puts (w1.setCell ⟨N + 1 + 1, 2, none⟩ x) (N + 1) 0 cs) (fun b => N ≤ b ∧ b < (puts (w1.setCell ⟨N + 1 + 1, 2, none⟩ x) (N + 1) 0 cs).heap.size) t
      (.agg #[.string t.type, .string t.field, .slice (some ⟨N + 1 + 1 + 1, 0, none⟩) t.parts.length t.parts.length]) := by
  have hsz : (puts (w1.setCell ⟨N + 1 + 1, 2, none⟩ x) (N + 1) 0 cs).heap.size = w1.heap.size := by rw [puts_size, size_set]
  refine ⟨puts_below (by omega) _ _ _ (hbw.setCell (by show N ≤ N + 1 + 1; omega) _), _, _, rfl, (hst1.mono fun k hk => ?_).sub fun k hk => ?_, Nat.le_refl _, h1, h2⟩
  · rw [puts_block _ _ (by omega), Below.heap_setCell _ _ _ _ (by show k ≠ N + 1 + 1; omega)]
  · rw [hsz]; omega

set_option maxHeartbeats 800000 in
theorem toOwner_any (t : O) (w : World) (B : Nat) (v : Value) (hR : ORep w (· < B) t v) (hB : B ≤ w.heap.size) :
    Calls Try.prog 24 #[v] w fun e w' => ∃ (fa : Option Addr) (fc : Nat), e = .returned (.agg #[.string t.type, .string t.field, .slice fa t.parts.length fc]) ∧ Below w.heap.size w w' ∧
      ORep w' (fun b => w.heap.size ≤ b ∧ b < w'.heap.size) t (.agg #[.string t.type, .string t.field, .slice fa t.parts.length fc]) := by
  obtain ⟨na, nc, rfl, hs, hnc, hn, ho⟩ := hR
  obtain ⟨name, key, fields⟩ := t
  simp only at hs hnc hn ho
  have hb3 : ∀ o1 o2 o3, Below w.heap.size w (((w.alloc o1).alloc o2).alloc o3) := fun o1 o2 o3 => (((Below.refl _ _).alloc (Nat.le_refl _) _).alloc (by simp) _).alloc (by simp; omega) _
  go_enter Try.func24, Try.ntmps24
  go_wp2_with (
      go_at_call 32
      refine (toIntS_any fields _ B na nc (hs.under ((hb3 _ _ _).mono hB)) (by simp; omega)).mono ?_
      rintro e w1 ⟨rfl, hb1, hsz1, hst1⟩
      obtain ⟨c1, f1⟩ := bcell hb1
      simp at hsz1
      have hlt1 : w.heap.size + 1 + 1 < w1.heap.size := by omega)
  have hbw : Below w.heap.size w w1 := (hb3 _ _ _).trans (hb1.mono (by simp; omega))
  have fin := cpO_end (w := w) (w1 := w1) (t := ⟨name, key, fields⟩) (x := .slice (some ⟨w.heap.size + 1 + 1 + 1, 0, none⟩) fields.length fields.length) (N := w.heap.size) rfl hbw hsz1 (by simpa using hst1) hn ho [.string name, .string key, .slice (some ⟨w.heap.size + 1 + 1 + 1, 0, none⟩) fields.length fields.length]
  refine bodyPost_ret (v := .agg #[.string name, .string key, .slice (some ⟨w.heap.size + 1 + 1 + 1, 0, none⟩) fields.length fields.length]) ?res rfl ⟨_, _, rfl, fin.1, fin.2⟩
  case res =>
    have hr0 : ∀ o1 o3 c, ((((w.alloc o1).alloc (.cells c 46)).alloc o3)).rowIs (w.heap.size + 1) 46 c.size (fun i => c[i]?.getD undef) := fun o1 o3 c => by
      have h := ((w.alloc o1).rowIs_alloc c 46 (fun i => c[i]?.getD undef) (fun i hi => by simp [hi])).alloc o3
      simpa using h
    have hr1 := (hr0 _ _ _).of_block (hb1.block (w.heap.size + 1) (by simp))
    have p0 := hr1.cell (i := 0) (by simp)
    have p1 := hr1.cell (i := 1) (by simp)
    have p2 := hr1.cell (i := 2) (by simp)
    clear fin hst1 hs c1 f1 hb1 hr0 hr1
    simp [results, Try.results24, go_sem, p0, p1, p2]

theorem info_Owner : (Try.prog.info? 46).map (fun i => (i.zero, i.size, i.bytes)) = some (some (.agg #[.string ByteArray.empty, .string ByteArray.empty, .slice none 0 0]), 3, 56) := by kernel_rfl

set_option maxHeartbeats 800000 in
theorem toOwnerS_any (xs : List O) (w : World) (B : Nat) (a : Option Addr) (c : Nat) (hK : OsRep w (· < B) xs a) (hB : B ≤ w.heap.size) :
    Calls Try.prog 16 #[.slice a xs.length c] w fun e w' => e = .returned (.slice (some ⟨w.heap.size, 0, none⟩) xs.length xs.length) ∧ Below w.heap.size w w' ∧ w.heap.size < w'.heap.size ∧
      OsRep w' (fun b => w.heap.size ≤ b ∧ b < w'.heap.size) xs (some ⟨w.heap.size, 0, none⟩) := by
  have h3 := hK.1
  obtain ⟨-, C, hA, hr⟩ := hK
  have hmk := run_make_any (P := Try.prog) 34 46 (.agg #[.string ByteArray.empty, .string ByteArray.empty, .slice none 0 0]) #[.string ByteArray.empty, .string ByteArray.empty, .slice none 0 0] rfl 3 56 Try.underlying34 info_Owner .i64 .i64 xs.length h3 (by omega)
  go_enter Try.func16, Try.ntmps16
  go_wp2_with fail
  go_loopw [4] (fun i wr => ∃ (k : Nat) (G : Nat → Value), k ≤ xs.length ∧ i = .int .i64 k ∧ Below w.heap.size w wr ∧ wr.rowIs w.heap.size 46 (xs.length * 3) G ∧
      ∀ i, i < k → ORep wr (fun b => w.heap.size < b ∧ b < wr.heap.size) (oth xs i) (.agg #[G (i * 3), G (i * 3 + 1), G (i * 3 + 2)])) (fun i _ => xs.length - (intOf i).toNat)
  case atStart =>
    obtain ⟨G, hG⟩ := made_row w #[.string ByteArray.empty, .string ByteArray.empty, .slice none 0 0] (xs.length * 3) 46
    exact ⟨0, G, Nat.zero_le _, rfl, below_box _ _, hG, fun i hi => by omega⟩
  case round =>
    obtain ⟨k, G, hk, rfl, hbel, hrow, hreps⟩ := hrel
    by_cases hlt : k < xs.length
    · obtain ⟨b, off, rfl, hbB, hc⟩ := hA (by omega)
      have hck : ∀ j, j < 3 → wr.cell? ⟨b, off + k * 3 + j, none⟩ = some (C k j) := fun j hj => (hbel.cell (p := ⟨b, off + k * 3 + j, none⟩) (by show b < _; omega)).trans (hc k hlt j hj)
      have hc0 : wr.cell? ⟨b, off + k * 3, none⟩ = some (C k 0) := hck 0 (by omega)
      have hc1 : wr.cell? ⟨b, off + k * 3 + 1, none⟩ = some (C k 1) := hck 1 (by omega)
      have hc2 : wr.cell? ⟨b, off + k * 3 + 2, none⟩ = some (C k 2) := hck 2 (by omega)
      clear hck hc
      go_wp2_with (
        go_at_call 24
        refine (toOwner_any (oth xs k) _ B _ ((hr k hlt).under (hbel.mono hB)) (by have := hbel.size; omega)).mono ?_
        rintro e w1 ⟨na, nc, rfl, hby, hry⟩
        have hrow1 := hrow.of_block (hby.block _ hrow.lt)
        have q0 : w1.cell? ⟨w.heap.size, k * 3, none⟩ = some (G (k * 3)) := hrow1.cell (by omega)
        have q1 : w1.cell? ⟨w.heap.size, k * 3 + 1, none⟩ = some (G (k * 3 + 1)) := hrow1.cell (by omega)
        have q2 : w1.cell? ⟨w.heap.size, k * 3 + 2, none⟩ = some (G (k * 3 + 2)) := hrow1.cell (by omega)
        have z0 : ∀ j, w1.frozen? ⟨w.heap.size, j, none⟩ = false := fun j => hrow1.frozen j)
      go_roundw
      case rel =>
        obtain ⟨G', hG, hG1, hGF⟩ := puts_row [.string (oth xs k).type, .string (oth xs k).field, .slice na (oth xs k).parts.length nc] (k * 3) hrow1
        have hs1 := hbel.size
        have hs2 := hby.size
        have hs3 := hrow.lt
        have g0 : G' (k * 3) = .string (oth xs k).type := hG1 0 (by simp)
        have g1 : G' (k * 3 + 1) = .string (oth xs k).field := hG1 1 (by simp)
        have g2 : G' (k * 3 + 2) = .slice na (oth xs k).parts.length nc := hG1 2 (by simp)
        have hpb := puts_block w.heap.size
        have hps := puts_size w.heap.size [.string (oth xs k).type, .string (oth xs k).field, .slice na (oth xs k).parts.length nc] w1 (k * 3)
        refine ⟨k + 1, G', by omega, by go_num, puts_below (Nat.le_refl _) [.string (oth xs k).type, .string (oth xs k).field, .slice na (oth xs k).parts.length nc] w1 (k * 3) (hbel.trans (hby.mono hs1)), hG, fun i hi => ?_⟩
        by_cases e1 : i = k
        · rw [e1, g0, g1, g2]
          refine (hry.mono fun b hb => hpb b (by omega) [.string (oth xs k).type, .string (oth xs k).field, .slice na (oth xs k).parts.length nc] w1 _).sub fun b hb => ⟨by omega, ?_⟩
          show b < (puts w1 w.heap.size (k * 3) [.string (oth xs k).type, .string (oth xs k).field, .slice na (oth xs k).parts.length nc]).heap.size
          omega
        · rw [hGF _ (by omega), hGF _ (by omega), hGF _ (by omega)]
          refine ((hreps i (by omega)).mono fun b hb => (hpb b (by omega) [.string (oth xs k).type, .string (oth xs k).field, .slice na (oth xs k).parts.length nc] w1 _).trans (hby.block b hb.2)).sub fun b hb => ⟨hb.1, ?_⟩
          show b < (puts w1 w.heap.size (k * 3) [.string (oth xs k).type, .string (oth xs k).field, .slice na (oth xs k).parts.length nc]).heap.size
          omega
      case measure => simp [intOf]; omega
    · go_wp2_with fail
      go_ret
      have e : k = xs.length := by omega
      subst e
      refine ⟨rfl, hbel, hrow.lt, h3, fun i j => G (i * 3 + j), fun _ => ⟨_, _, rfl, ⟨Nat.le_refl _, hrow.lt⟩, fun i hi j hj => ?_⟩, fun i hi => (hreps i hi).sub fun b hb => ⟨by omega, hb.2⟩⟩
      have := hrow.cell (i := i * 3 + j) (by omega)
      simpa using this

set_option maxHeartbeats 800000 in
theorem eqOwner_any (t : O) (w : World) (B : Nat) (v v' : Value) (hR : ORep w (· < B) t v) (hR' : ORep w (· < B) t v') (hB : B ≤ w.heap.size) :
    Calls Try.prog 26 #[v, v'] w fun e w' => e = .returned (.bool true) ∧ Below w.heap.size w w' := by
  obtain ⟨na, nc, rfl, hs, -⟩ := hR
  obtain ⟨na', nc', rfl, hs', -⟩ := hR'
  obtain ⟨name, key, fields⟩ := t
  simp only at hs hs'
  go_enter Try.func26, Try.ntmps26
  go_wp2_with (
      go_at_call 8
      refine (eqIntS_any fields _ B na na' nc nc' (hs.under ((below_box2 w _ _).mono hB)) (hs'.under ((below_box2 w _ _).mono hB)) (by simp; omega)).mono ?_
      rintro e w' ⟨rfl, hb⟩)
  go_ret
  exact ⟨rfl, (below_box2 w _ _).trans (hb.mono (by simp; omega))⟩

set_option maxHeartbeats 800000 in
theorem eqOwnerS_any (ks : List O) (w : World) (B : Nat) (a a' : Option Addr) (c c' : Nat) (hK : OsRep w (· < B) ks a) (hK' : OsRep w (· < B) ks a') (hB : B ≤ w.heap.size) :
    Calls Try.prog 18 #[.slice a ks.length c, .slice a' ks.length c'] w fun e w' => e = .returned (.bool true) ∧ Below w.heap.size w w' := by
  have h3 := hK.1
  obtain ⟨-, C, hA, hr⟩ := hK
  obtain ⟨-, C', hA', hr'⟩ := hK'
  by_cases hn0 : ks.length = 0
  · have hns : ks = [] := by simpa using hn0
    subst hns
    go_enter Try.func18, Try.ntmps18
    go_wp2_with fail
    go_loop [5] (fun i => i = .int .i64 0) (fun _ => 0)
    case atStart => rfl
    case round =>
      subst hrel
      go_wp2_with fail
      go_ret
      exact ⟨rfl, Below.refl _ _⟩
  · obtain ⟨b, off, rfl, hbB, hc⟩ := hA (by omega)
    obtain ⟨b', off', rfl, hbB', hd⟩ := hA' (by omega)
    clear hA hA'
    go_enter Try.func18, Try.ntmps18
    go_wp2_with fail
    go_loopw [5] (fun i wr => ∃ k : Nat, k ≤ ks.length ∧ i = .int .i64 k ∧ Below w.heap.size w wr) (fun i _ => ks.length - (intOf i).toNat)
    case atStart => exact ⟨0, Nat.zero_le _, rfl, Below.refl _ _⟩
    case round =>
      obtain ⟨k, hk, rfl, hbel⟩ := hrel
      by_cases hlt : k < ks.length
      · have hck : ∀ j, j < 3 → wr.cell? ⟨b, off + k * 3 + j, none⟩ = some (C k j) := fun j hj => (hbel.cell (p := ⟨b, off + k * 3 + j, none⟩) (by show b < _; omega)).trans (hc k hlt j hj)
        have hc0 : wr.cell? ⟨b, off + k * 3, none⟩ = some (C k 0) := hck 0 (by omega)
        have hc1 : wr.cell? ⟨b, off + k * 3 + 1, none⟩ = some (C k 1) := hck 1 (by omega)
        have hc2 : wr.cell? ⟨b, off + k * 3 + 2, none⟩ = some (C k 2) := hck 2 (by omega)
        clear hck hc
        have hdk : ∀ j, j < 3 → wr.cell? ⟨b', off' + k * 3 + j, none⟩ = some (C' k j) := fun j hj => (hbel.cell (p := ⟨b', off' + k * 3 + j, none⟩) (by show b' < _; omega)).trans (hd k hlt j hj)
        have hd0 : wr.cell? ⟨b', off' + k * 3, none⟩ = some (C' k 0) := hdk 0 (by omega)
        have hd1 : wr.cell? ⟨b', off' + k * 3 + 1, none⟩ = some (C' k 1) := hdk 1 (by omega)
        have hd2 : wr.cell? ⟨b', off' + k * 3 + 2, none⟩ = some (C' k 2) := hdk 2 (by omega)
        clear hdk hd
        go_wp2_with fail
        go_region_with (go_at_call 26; refine (eqOwner_any (oth ks k) _ B _ _ ((hr k hlt).under ((hbel.drew).mono hB)) ((hr' k hlt).under ((hbel.drew).mono hB)) (by have := hbel.size; simp; omega)).mono ?_; rintro e w1 ⟨rfl, hby⟩)
        all_goals
          go_wp2_with fail
          go_roundw
          case rel => exact ⟨k + 1, by omega, by go_num, hbel.drew.trans (hby.mono (by have := hbel.size; simpa using this))⟩
          case measure => simp [intOf]; omega
      · go_wp2_with fail
        go_ret
        exact ⟨rfl, hbel⟩

set_option maxHeartbeats 800000 in
theorem toOwner_nf (t : O) (w : World) (B : Nat) (v : Value) (hR : ORep w (· < B) t v) (hB : B ≤ w.heap.size) :
    Calls Try.prog 24 #[v] w fun e w' => ∃ (fa : Option Addr) (fc : Nat), e = .returned (.agg #[.string t.type, .string t.field, .slice fa t.parts.length fc]) ∧ Below w.heap.size w w' ∧
      ORep w' (fun b => w.heap.size ≤ b ∧ b < w'.heap.size) t (.agg #[.string t.type, .string t.field, .slice fa t.parts.length fc]) ∧ NF w.heap.size w' := by
  obtain ⟨na, nc, rfl, hs, hnc, hn, ho⟩ := hR
  obtain ⟨name, key, fields⟩ := t
  simp only at hs hnc hn ho
  have hb3 : ∀ o1 o2 o3, Below w.heap.size w (((w.alloc o1).alloc o2).alloc o3) := fun o1 o2 o3 => (((Below.refl _ _).alloc (Nat.le_refl _) _).alloc (by simp) _).alloc (by simp; omega) _
  go_enter Try.func24, Try.ntmps24
  go_wp2_with (
      go_at_call 32
      refine (toIntS_nf fields _ B na nc (hs.under ((hb3 _ _ _).mono hB)) (by simp; omega)).mono ?_
      rintro e w1 ⟨rfl, hb1, hsz1, hst1, hnf1⟩
      have HN1 : Hid (NF w.heap.size w1) := NF.call (NF.three w _ _ _ _ _ _) hb1 hnf1
      clear hnf1
      obtain ⟨c1, f1⟩ := bcell hb1
      simp at hsz1
      have hlt1 : w.heap.size + 1 + 1 < w1.heap.size := by omega)
  have hbw : Below w.heap.size w w1 := (hb3 _ _ _).trans (hb1.mono (by simp; omega))
  have fin := cpO_end (w := w) (w1 := w1) (t := ⟨name, key, fields⟩) (x := .slice (some ⟨w.heap.size + 1 + 1 + 1, 0, none⟩) fields.length fields.length) (N := w.heap.size) rfl hbw hsz1 (by simpa using hst1) hn ho [.string name, .string key, .slice (some ⟨w.heap.size + 1 + 1 + 1, 0, none⟩) fields.length fields.length]
  refine bodyPost_ret (v := .agg #[.string name, .string key, .slice (some ⟨w.heap.size + 1 + 1 + 1, 0, none⟩) fields.length fields.length]) ?res rfl ⟨_, _, rfl, fin.1, fin.2, fun a ha => by simp only [World.frozen?_setCell]; exact HN1.out a ha⟩
  case res =>
    have hr0 : ∀ o1 o3 c, ((((w.alloc o1).alloc (.cells c 46)).alloc o3)).rowIs (w.heap.size + 1) 46 c.size (fun i => c[i]?.getD undef) := fun o1 o3 c => by
      have h := ((w.alloc o1).rowIs_alloc c 46 (fun i => c[i]?.getD undef) (fun i hi => by simp [hi])).alloc o3
      simpa using h
    have hr1 := (hr0 _ _ _).of_block (hb1.block (w.heap.size + 1) (by simp))
    have p0 := hr1.cell (i := 0) (by simp)
    have p1 := hr1.cell (i := 1) (by simp)
    have p2 := hr1.cell (i := 2) (by simp)
    clear fin hst1 hs c1 f1 hb1 hr0 hr1
    simp [results, Try.results24, go_sem, p0, p1, p2]

set_option maxHeartbeats 800000 in
theorem toOwnerS_nf (xs : List O) (w : World) (B : Nat) (a : Option Addr) (c : Nat) (hK : OsRep w (· < B) xs a) (hB : B ≤ w.heap.size) :
    Calls Try.prog 16 #[.slice a xs.length c] w fun e w' => e = .returned (.slice (some ⟨w.heap.size, 0, none⟩) xs.length xs.length) ∧ Below w.heap.size w w' ∧ w.heap.size < w'.heap.size ∧
      OsRep w' (fun b => w.heap.size ≤ b ∧ b < w'.heap.size) xs (some ⟨w.heap.size, 0, none⟩) ∧ NF w.heap.size w' := by
  have h3 := hK.1
  obtain ⟨-, C, hA, hr⟩ := hK
  have hmk := run_make_any (P := Try.prog) 34 46 (.agg #[.string ByteArray.empty, .string ByteArray.empty, .slice none 0 0]) #[.string ByteArray.empty, .string ByteArray.empty, .slice none 0 0] rfl 3 56 Try.underlying34 info_Owner .i64 .i64 xs.length h3 (by omega)
  go_enter Try.func16, Try.ntmps16
  go_wp2_with fail
  go_loopw [4] (fun i wr => ∃ (k : Nat) (G : Nat → Value), k ≤ xs.length ∧ i = .int .i64 k ∧ Below w.heap.size w wr ∧ wr.rowIs w.heap.size 46 (xs.length * 3) G ∧
      (∀ i, i < k → ORep wr (fun b => w.heap.size < b ∧ b < wr.heap.size) (oth xs i) (.agg #[G (i * 3), G (i * 3 + 1), G (i * 3 + 2)])) ∧ NF w.heap.size wr) (fun i _ => xs.length - (intOf i).toNat)
  case atStart =>
    obtain ⟨G, hG⟩ := made_row w #[.string ByteArray.empty, .string ByteArray.empty, .slice none 0 0] (xs.length * 3) 46
    exact ⟨0, G, Nat.zero_le _, rfl, below_box _ _, hG, fun i hi => by omega, (NF.new w).alloc _ _⟩
  case round =>
    obtain ⟨k, G, hk, rfl, hbel, hrow, hreps, hnf⟩ := hrel
    have HNF : Hid (NF w.heap.size wr) := hnf
    clear hnf
    by_cases hlt : k < xs.length
    · obtain ⟨b, off, rfl, hbB, hc⟩ := hA (by omega)
      have hck : ∀ j, j < 3 → wr.cell? ⟨b, off + k * 3 + j, none⟩ = some (C k j) := fun j hj => (hbel.cell (p := ⟨b, off + k * 3 + j, none⟩) (by show b < _; omega)).trans (hc k hlt j hj)
      have hc0 : wr.cell? ⟨b, off + k * 3, none⟩ = some (C k 0) := hck 0 (by omega)
      have hc1 : wr.cell? ⟨b, off + k * 3 + 1, none⟩ = some (C k 1) := hck 1 (by omega)
      have hc2 : wr.cell? ⟨b, off + k * 3 + 2, none⟩ = some (C k 2) := hck 2 (by omega)
      clear hck hc
      go_wp2_with (
        go_at_call 24
        refine (toOwner_nf (oth xs k) _ B _ ((hr k hlt).under (hbel.mono hB)) (by have := hbel.size; omega)).mono ?_
        rintro e w1 ⟨na, nc, rfl, hby, hry, hnf1⟩
        have HN1 : Hid (NF w.heap.size w1) := NF.call HNF.out hby hnf1
        clear hnf1
        have hrow1 := hrow.of_block (hby.block _ hrow.lt)
        have q0 : w1.cell? ⟨w.heap.size, k * 3, none⟩ = some (G (k * 3)) := hrow1.cell (by omega)
        have q1 : w1.cell? ⟨w.heap.size, k * 3 + 1, none⟩ = some (G (k * 3 + 1)) := hrow1.cell (by omega)
        have q2 : w1.cell? ⟨w.heap.size, k * 3 + 2, none⟩ = some (G (k * 3 + 2)) := hrow1.cell (by omega)
        have z0 : ∀ j, w1.frozen? ⟨w.heap.size, j, none⟩ = false := fun j => hrow1.frozen j)
      go_roundw
      case rel =>
        obtain ⟨G', hG, hG1, hGF⟩ := puts_row [.string (oth xs k).type, .string (oth xs k).field, .slice na (oth xs k).parts.length nc] (k * 3) hrow1
        have hs1 := hbel.size
        have hs2 := hby.size
        have hs3 := hrow.lt
        have g0 : G' (k * 3) = .string (oth xs k).type := hG1 0 (by simp)
        have g1 : G' (k * 3 + 1) = .string (oth xs k).field := hG1 1 (by simp)
        have g2 : G' (k * 3 + 2) = .slice na (oth xs k).parts.length nc := hG1 2 (by simp)
        have hpb := puts_block w.heap.size
        have hps := puts_size w.heap.size [.string (oth xs k).type, .string (oth xs k).field, .slice na (oth xs k).parts.length nc] w1 (k * 3)
        refine ⟨k + 1, G', by omega, by go_num, puts_below (Nat.le_refl _) [.string (oth xs k).type, .string (oth xs k).field, .slice na (oth xs k).parts.length nc] w1 (k * 3) (hbel.trans (hby.mono hs1)), hG, fun i hi => ?_, fun a ha => by simp only [World.frozen?_setCell]; exact HN1.out a ha⟩
        by_cases e1 : i = k
        · rw [e1, g0, g1, g2]
          refine (hry.mono fun b hb => hpb b (by omega) [.string (oth xs k).type, .string (oth xs k).field, .slice na (oth xs k).parts.length nc] w1 _).sub fun b hb => ⟨by omega, ?_⟩
          show b < (puts w1 w.heap.size (k * 3) [.string (oth xs k).type, .string (oth xs k).field, .slice na (oth xs k).parts.length nc]).heap.size
          omega
        · rw [hGF _ (by omega), hGF _ (by omega), hGF _ (by omega)]
          refine ((hreps i (by omega)).mono fun b hb => (hpb b (by omega) [.string (oth xs k).type, .string (oth xs k).field, .slice na (oth xs k).parts.length nc] w1 _).trans (hby.block b hb.2)).sub fun b hb => ⟨hb.1, ?_⟩
          show b < (puts w1 w.heap.size (k * 3) [.string (oth xs k).type, .string (oth xs k).field, .slice na (oth xs k).parts.length nc]).heap.size
          omega
      case measure => simp [intOf]; omega
    · go_wp2_with fail
      go_ret
      have e : k = xs.length := by omega
      subst e
      refine ⟨rfl, hbel, hrow.lt, ⟨h3, fun i j => G (i * 3 + j), fun _ => ⟨_, _, rfl, ⟨Nat.le_refl _, hrow.lt⟩, fun i hi j hj => ?_⟩, fun i hi => (hreps i hi).sub fun b hb => ⟨by omega, hb.2⟩⟩, HNF.out⟩
      have := hrow.cell (i := i * 3 + j) (by omega)
      simpa using this

end Go.Proofs.Ytkecmamjebkonaa
