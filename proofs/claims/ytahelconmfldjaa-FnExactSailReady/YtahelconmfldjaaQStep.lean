/-
  Steps in memory, and the laws' functions over them.
-/
import Derived.Test.YtahelconmfldjaaQSel
namespace Go.Proofs.Ytahelconmfldjaa
set_option linter.unusedSimpArgs false
set_option linter.unusedVariables false
open Go.RowKit

/-- A step as it is meant. -/
structure St where
  part : Int
  way : List ByteArray
  type : ByteArray
  sels : List Se
  after : List Int
  brings : List ByteArray
def St.zero : St := ⟨0, [], ByteArray.empty, [], [], []⟩
/-- Step i. -/
def pth (ss : List St) (i : Nat) : St := ss.getD i St.zero
def StRep (w : World) (P : Nat → Prop) (s : St) (v : Value) : Prop := ∃ (wa sa aa ba : Option Addr) (wc sc ac bc : Nat),
  v = .agg #[.int .i64 s.part, .slice wa s.way.length wc, .string s.type, .slice sa s.sels.length sc, .slice aa s.after.length ac, .slice ba s.brings.length bc] ∧
  Strs w P s.way wa ∧ 16 * s.way.length ≤ 281474976710656 ∧ s.type.size ≤ maxLen ∧ SeReps w P s.sels sa ∧ Ints w P s.after aa ∧ s.after.length ≤ ac ∧ Strs w P s.brings ba ∧ 16 * s.brings.length ≤ 281474976710656
def StReps (w : World) (P : Nat → Prop) (ss : List St) (a : Option Addr) : Prop := 120 * ss.length ≤ 281474976710656 ∧ ∃ C : Nat → Nat → Value, Arr w P 6 ss.length a C ∧ ∀ i, i < ss.length → StRep w P (pth ss i) (.agg #[C i 0, C i 1, C i 2, C i 3, C i 4, C i 5])
theorem StRep.mono {w w' : World} {P : Nat → Prop} {s : St} {v : Value} (h : StRep w P s v) (e : ∀ k, P k → w'.heap[k]? = w.heap[k]?) : StRep w' P s v := by
  obtain ⟨wa, sa, aa, ba, wc, sc, ac, bc, h1, h2, h3, h4, h5, h6, h7, h8, h9⟩ := h
  exact ⟨wa, sa, aa, ba, wc, sc, ac, bc, h1, h2.mono e, h3, h4, h5.mono e, h6.mono e, h7, h8.mono e, h9⟩
theorem StRep.sub {w : World} {P Q : Nat → Prop} {s : St} {v : Value} (h : StRep w P s v) (e : ∀ k, P k → Q k) : StRep w Q s v := by
  obtain ⟨wa, sa, aa, ba, wc, sc, ac, bc, h1, h2, h3, h4, h5, h6, h7, h8, h9⟩ := h
  exact ⟨wa, sa, aa, ba, wc, sc, ac, bc, h1, h2.sub e, h3, h4, h5.sub e, h6.sub e, h7, h8.sub e, h9⟩
theorem StReps.mono {w w' : World} {P : Nat → Prop} {f : List St} {v : Option Addr} (h : StReps w P f v) (e : ∀ k, P k → w'.heap[k]? = w.heap[k]?) : StReps w' P f v := by
  obtain ⟨h0, C, h1, h2⟩ := h; exact ⟨h0, C, h1.mono e, fun i hi => (h2 i hi).mono e⟩
theorem StReps.sub {w : World} {P Q : Nat → Prop} {f : List St} {v : Option Addr} (h : StReps w P f v) (e : ∀ k, P k → Q k) : StReps w Q f v := by
  obtain ⟨h0, C, h1, h2⟩ := h; exact ⟨h0, C, h1.sub e, fun i hi => (h2 i hi).sub e⟩
theorem StRep.under {w w' : World} {B : Nat} {x : St} {v : Value} (h : StRep w (· < B) x v) (hb : Below B w w') : StRep w' (· < B) x v := h.mono fun k hk => hb.block k hk
theorem StReps.under {w w' : World} {B : Nat} {x : List St} {v : Option Addr} (h : StReps w (· < B) x v) (hb : Below B w w') : StReps w' (· < B) x v := h.mono fun k hk => hb.block k hk
theorem StRep.pieces {w : World} {P : Nat → Prop} {s : St} {c0 c1 c2 c3 c4 c5 : Value} (h : StRep w P s (.agg #[c0, c1, c2, c3, c4, c5])) :
    ∃ (wa sa aa ba : Option Addr) (wc sc ac bc : Nat), c0 = .int .i64 s.part ∧ c1 = .slice wa s.way.length wc ∧ c2 = .string s.type ∧ c3 = .slice sa s.sels.length sc ∧ c4 = .slice aa s.after.length ac ∧ c5 = .slice ba s.brings.length bc ∧
      Ints w P s.after aa ∧ s.after.length ≤ ac := by
  obtain ⟨wa, sa, aa, ba, wc, sc, ac, bc, hv, h2, h3, h4, h5, h6, h7, h8, h9⟩ := h
  simp only [Value.agg.injEq, Array.mk.injEq, List.cons.injEq, and_true] at hv
  exact ⟨wa, sa, aa, ba, wc, sc, ac, bc, hv.1, hv.2.1, hv.2.2.1, hv.2.2.2.1, hv.2.2.2.2.1, hv.2.2.2.2.2, h6, h7⟩

/-- Six cells of a block. -/
def Six (w : World) (N : Nat) (c0 c1 c2 c3 c4 c5 : Value) : Prop :=
  w.cell? ⟨N, 0, none⟩ = some c0 ∧ w.cell? ⟨N, 1, none⟩ = some c1 ∧ w.cell? ⟨N, 2, none⟩ = some c2 ∧ w.cell? ⟨N, 3, none⟩ = some c3 ∧ w.cell? ⟨N, 4, none⟩ = some c4 ∧ w.cell? ⟨N, 5, none⟩ = some c5
theorem Six.new (w : World) (c0 c1 c2 c3 c4 c5 : Value) (T : TypeId) : Six (w.alloc (.cells #[c0, c1, c2, c3, c4, c5] T)) w.heap.size c0 c1 c2 c3 c4 c5 := by
  simp [Six]
theorem Six.two (w : World) (c0 c1 c2 c3 c4 c5 d0 d1 d2 d3 d4 d5 : Value) (T U : TypeId) (m : Nat) : Six (((w.alloc (.cells #[c0, c1, c2, c3, c4, c5] T)).alloc (.cells #[d0, d1, d2, d3, d4, d5] U)).drewN m) w.heap.size c0 c1 c2 c3 c4 c5 ∧
    Six (((w.alloc (.cells #[c0, c1, c2, c3, c4, c5] T)).alloc (.cells #[d0, d1, d2, d3, d4, d5] U)).drewN m) (w.heap.size + 1) d0 d1 d2 d3 d4 d5 := by
  have h := Six.new (w.alloc (.cells #[c0, c1, c2, c3, c4, c5] T)) d0 d1 d2 d3 d4 d5 U
  have e : (w.alloc (.cells #[c0, c1, c2, c3, c4, c5] T)).heap.size = w.heap.size + 1 := by simp
  rw [e] at h
  refine ⟨?_, h⟩
  simp [Six]
theorem Six.keep {w w' : World} {N : Nat} {c0 c1 c2 c3 c4 c5 : Value} (h : Six w N c0 c1 c2 c3 c4 c5) (hb : Below w.heap.size w w') (hN : N < w.heap.size) : Six w' N c0 c1 c2 c3 c4 c5 :=
  ⟨(hb.cell (p := ⟨N, 0, none⟩) hN).trans h.1, (hb.cell (p := ⟨N, 1, none⟩) hN).trans h.2.1, (hb.cell (p := ⟨N, 2, none⟩) hN).trans h.2.2.1, (hb.cell (p := ⟨N, 3, none⟩) hN).trans h.2.2.2.1, (hb.cell (p := ⟨N, 4, none⟩) hN).trans h.2.2.2.2.1, (hb.cell (p := ⟨N, 5, none⟩) hN).trans h.2.2.2.2.2⟩

/-- How many things a step has is bounded. -/
def Small (s : St) : Prop := s.way.length ≤ 1048576 ∧ (∀ f, cntTo f s.sels s.sels.length ≤ 1048576) ∧ s.after.length ≤ 1048576 ∧ s.brings.length ≤ 1048576

set_option maxHeartbeats 800000 in
theorem szStep_any (s : St) (w : World) (B : Nat) (v : Value) (left : Int) (hR : StRep w (· < B) s v) (hB : B ≤ w.heap.size) (hl0 : 0 ≤ left) (hl1 : left ≤ 1048576) :
    Calls Try.prog 20 #[v, .int .i64 left] w fun e w' => ∃ x : Int, e = .returned (.int .i64 x) ∧ -1 ≤ x ∧ x ≤ left ∧ (0 ≤ x → Small s) ∧ Below w.heap.size w w' := by
  obtain ⟨wa, sa, aa, ba, wc, sc, ac, bc, rfl, hway, hwb, hty, hsel, haf, hac, hbr, hbb⟩ := hR
  obtain ⟨part, way, type, sels, after, brings⟩ := s
  simp only at hway hwb hty hsel haf hac hbr hbb
  unfold maxLen at hty
  go_enter Try.func20, Try.ntmps20
  go_wp2_with (go_at_call 35; refine (szStringS_any way wa wc _ (· < B) (hway.under ((below_box w _).mono hB)) _ (by omega) (by omega)).mono ?_; rintro e w' ⟨y, rfl, hy0, hy1, hy2, rfl⟩)
  · go_ret
    exact ⟨-1, rfl, by omega, by omega, by omega, below_box _ _⟩
  · go_ret
    exact ⟨-1, rfl, by omega, by omega, by omega, below_box _ _⟩
  refine (szSelS_any sels (fun i _ => szSel_any _) _ B sa sc _ (hsel.under ((below_box w _).mono hB)) (by simp; omega) (by omega) (by omega)).mono ?_
  rintro e w1 ⟨z, rfl, hz0, hz1, hz2, hb1⟩
  have b1 : Below w.heap.size w w1 := (below_box w _).trans (hb1.mono (by simp))
  have s1 : w.heap.size < w1.heap.size := by have := hb1.size; simp at this; omega
  have F1 := (Six.new w _ _ _ _ _ _ _).keep hb1 (by simp)
  clear hb1
  obtain ⟨p0, p1, p2, p3, p4, p5⟩ := id F1
  go_wp2_with fail
  · go_ret
    exact ⟨-1, rfl, by omega, by omega, by omega, b1⟩
  clear p0 p1 p2 p3 p4 p5
  refine (szIntS_any after _ B aa ac _ (haf.under (b1.mono hB)) (by omega) (by omega) (by omega)).mono ?_
  rintro e w2 ⟨u, rfl, hu0, hu1, hu2, hb2⟩
  have b2 : Below w.heap.size w w2 := b1.trans (hb2.mono (by omega))
  obtain ⟨p0, p1, p2, p3, p4, p5⟩ := F1.keep hb2 s1
  clear hb2
  go_wp2_with fail
  · go_ret
    exact ⟨-1, rfl, by omega, by omega, by omega, b2⟩
  refine (szStringS_any brings ba bc _ (· < B) (hbr.under (b2.mono hB)) _ (by omega) (by omega)).mono ?_
  rintro e w' ⟨v, rfl, hv0, hv1, hv2, rfl⟩
  go_wp2_with fail
  · go_ret
    exact ⟨-1, rfl, by omega, by omega, by omega, b2⟩
  · go_ret
    exact ⟨v, rfl, by omega, by omega, fun h => ⟨by have := hy2 (by omega); simp only [szNs] at this; show way.length ≤ _; omega, fun f => by have := (hz2 (by omega)).2 f; show cntTo f sels sels.length ≤ _; omega, by have := hu2 (by omega); simp only [szIs] at this; show after.length ≤ _; omega, by have := hv2 h; simp only [szNs] at this; show brings.length ≤ _; omega⟩, b2⟩

set_option maxHeartbeats 400000 in
theorem szStepS_any (xs : List St) (w : World) (B : Nat) (a : Option Addr) (c : Nat) (left : Int) (hK : StReps w (· < B) xs a) (hB : B ≤ w.heap.size) (hl0 : 0 ≤ left) (hl1 : left ≤ 1048576) :
    Calls Try.prog 6 #[.slice a xs.length c, .int .i64 left] w fun e w' => ∃ x : Int, e = .returned (.int .i64 x) ∧ -1 ≤ x ∧ x ≤ left ∧ (0 ≤ x → x + xs.length ≤ left ∧ ∀ i, i < xs.length → Small (pth xs i)) ∧ Below w.heap.size w w' := by
  obtain ⟨h3, C, hA, hr⟩ := hK
  by_cases hbig : left < xs.length
  · go_enter Try.func6, Try.ntmps6
    go_wp2_with fail
    go_ret
    exact ⟨-1, rfl, by omega, by omega, by omega, Below.refl _ _⟩
  · go_enter Try.func6, Try.ntmps6
    go_wp2_with fail
    go_loopw [1, 5] (fun l i wr => ∃ (k : Nat) (x : Int), k ≤ xs.length ∧ i = .int .i64 k ∧ l = .int .i64 x ∧ 0 ≤ x ∧ x + xs.length ≤ left ∧ (∀ i, i < k → Small (pth xs i)) ∧ Below w.heap.size w wr) (fun _ i _ => xs.length - (intOf i).toNat)
    case atStart => exact ⟨0, _, Nat.zero_le _, rfl, rfl, by omega, by omega, fun i hi => by omega, Below.refl _ _⟩
    case round =>
      obtain ⟨k, x, hk, rfl, rfl, hx0, hx1, hsm, hbel⟩ := hrel
      have HSM : Hid (∀ i, i < k → Small (pth xs i)) := hsm
      clear hsm
      by_cases hlt : k < xs.length
      · obtain ⟨b, off, rfl, hbB, hc⟩ := hA (by omega)
        have hck : ∀ j, j < 6 → wr.cell? ⟨b, off + k * 6 + j, none⟩ = some (C k j) := fun j hj => (hbel.cell (p := ⟨b, off + k * 6 + j, none⟩) (by show b < _; omega)).trans (hc k hlt j hj)
        have hc0 : wr.cell? ⟨b, off + k * 6, none⟩ = some (C k 0) := hck 0 (by omega)
        have hc1 : wr.cell? ⟨b, off + k * 6 + 1, none⟩ = some (C k 1) := hck 1 (by omega)
        have hc2 : wr.cell? ⟨b, off + k * 6 + 2, none⟩ = some (C k 2) := hck 2 (by omega)
        have hc3 : wr.cell? ⟨b, off + k * 6 + 3, none⟩ = some (C k 3) := hck 3 (by omega)
        have hc4 : wr.cell? ⟨b, off + k * 6 + 4, none⟩ = some (C k 4) := hck 4 (by omega)
        have hc5 : wr.cell? ⟨b, off + k * 6 + 5, none⟩ = some (C k 5) := hck 5 (by omega)
        clear hck hc
        go_wp2_with (go_at_call 20; refine (szStep_any _ _ B _ x ((hr k hlt).under (hbel.mono hB)) (by have := hbel.size; omega) hx0 (by omega)).mono ?_; rintro e w' ⟨y, rfl, hy0, hy1, hys, hby⟩)
        · go_ret
          exact ⟨-1, rfl, by omega, by omega, by omega, hbel.trans (hby.mono hbel.size)⟩
        · go_roundw
          case rel => exact ⟨k + 1, y, by omega, by go_num, rfl, by assumption, by omega, (fun i hi => by by_cases e : i = k; { subst e; exact hys (by assumption) }; { exact HSM.out i (by omega) }), hbel.trans (hby.mono hbel.size)⟩
          case measure => simp [intOf]; omega
      · go_wp2_with fail
        go_ret
        exact ⟨x, rfl, by omega, by omega, fun _ => ⟨by omega, fun i hi => HSM.out i (by omega)⟩, hbel⟩

set_option maxHeartbeats 1600000 in
theorem eqStep_any (s : St) (w : World) (B : Nat) (v v' : Value) (hR : StRep w (· < B) s v) (hR' : StRep w (· < B) s v') (hB : B ≤ w.heap.size) :
    Calls Try.prog 24 #[v, v'] w fun e w' => e = .returned (.bool true) ∧ Below w.heap.size w w' := by
  obtain ⟨wa, sa, aa, ba, wc, sc, ac, bc, rfl, hway, hwb, hty, hsel, haf, hac, hbr, hbb⟩ := hR
  obtain ⟨wa', sa', aa', ba', wc', sc', ac', bc', rfl, hway', -, -, hsel', haf', -, hbr', -⟩ := hR'
  obtain ⟨part, way, type, sels, after, brings⟩ := s
  simp only at hway hsel haf hbr hway' hsel' haf' hbr'
  have b0 := below_box2 w
  go_enter Try.func24, Try.ntmps24
  go_wp2_with (
      go_at_call 41
      refine (eqStringS_any way wa wa' wc wc' _ (· < B) (· < B) (hway.under ((b0 _ _).mono hB)) (hway'.under ((b0 _ _).mono hB))).mono ?_
      rintro e w' ⟨rfl, m, rfl⟩)
  refine (eqSelS_any sels (fun i _ => eqSel_any _) _ B sa sa' sc sc' (hsel.under ((below_drews (b0 _ _) m).mono hB)) (hsel'.under ((below_drews (b0 _ _) m).mono hB)) (by simp; omega)).mono ?_
  rintro e w1 ⟨rfl, hb1⟩
  have b1 : Below w.heap.size w w1 := (below_drews (b0 _ _) m).trans (hb1.mono (by simp; omega))
  have s1 : w.heap.size + 1 < w1.heap.size := by have := hb1.size; simp at this; omega
  have F1 := (Six.two w _ _ _ _ _ _ _ _ _ _ _ _ _ _ m).1.keep hb1 (by simp; omega)
  have G1 := (Six.two w _ _ _ _ _ _ _ _ _ _ _ _ _ _ m).2.keep hb1 (by simp)
  clear hb1
  obtain ⟨p0, p1, p2, p3, p4, p5⟩ := id F1
  obtain ⟨q0, q1, q2, q3, q4, q5⟩ := id G1
  go_wp2_with fail
  clear p0 p1 p2 p3 p4 p5 q0 q1 q2 q3 q4 q5
  refine (eqIntS_any after _ B aa aa' ac ac' (haf.under (b1.mono hB)) (haf'.under (b1.mono hB)) (by omega)).mono ?_
  rintro e w2 ⟨rfl, hb2⟩
  have b2 : Below w.heap.size w w2 := b1.trans (hb2.mono (by omega))
  obtain ⟨p0, p1, p2, p3, p4, p5⟩ := F1.keep hb2 (by omega)
  obtain ⟨q0, q1, q2, q3, q4, q5⟩ := G1.keep hb2 (by omega)
  clear hb2
  go_wp2_with fail
  refine (eqStringS_any brings ba ba' bc bc' _ (· < B) (· < B) (hbr.under (b2.mono hB)) (hbr'.under (b2.mono hB))).mono ?_
  rintro e w' ⟨rfl, m2, rfl⟩
  go_wp2_with fail
  go_ret
  exact ⟨rfl, below_drews b2 m2⟩

set_option maxHeartbeats 1600000 in
theorem eqStepS_any (xs : List St) (w : World) (B : Nat) (a a' : Option Addr) (c c' : Nat) (hK : StReps w (· < B) xs a) (hK' : StReps w (· < B) xs a') (hB : B ≤ w.heap.size) :
    Calls Try.prog 10 #[.slice a xs.length c, .slice a' xs.length c'] w fun e w' => e = .returned (.bool true) ∧ Below w.heap.size w w' := by
  have h3 := hK.1
  obtain ⟨-, C, hA, hr⟩ := hK
  obtain ⟨-, C', hA', hr'⟩ := hK'
  go_enter Try.func10, Try.ntmps10
  go_wp2_with fail
  go_loopw [5] (fun i wr => ∃ k : Nat, k ≤ xs.length ∧ i = .int .i64 k ∧ Below w.heap.size w wr) (fun i _ => xs.length - (intOf i).toNat)
  case atStart => exact ⟨0, Nat.zero_le _, rfl, Below.refl _ _⟩
  case round =>
    obtain ⟨k, hk, rfl, hbel⟩ := hrel
    by_cases hlt : k < xs.length
    · obtain ⟨b, off, rfl, hbB, hc⟩ := hA (by omega)
      obtain ⟨b', off', rfl, hbB', hd⟩ := hA' (by omega)
      clear hA hA'
      have hck : ∀ j, j < 6 → wr.cell? ⟨b, off + k * 6 + j, none⟩ = some (C k j) := fun j hj => (hbel.cell (p := ⟨b, off + k * 6 + j, none⟩) (by show b < _; omega)).trans (hc k hlt j hj)
      have hc0 : wr.cell? ⟨b, off + k * 6, none⟩ = some (C k 0) := hck 0 (by omega)
      have hc1 : wr.cell? ⟨b, off + k * 6 + 1, none⟩ = some (C k 1) := hck 1 (by omega)
      have hc2 : wr.cell? ⟨b, off + k * 6 + 2, none⟩ = some (C k 2) := hck 2 (by omega)
      have hc3 : wr.cell? ⟨b, off + k * 6 + 3, none⟩ = some (C k 3) := hck 3 (by omega)
      have hc4 : wr.cell? ⟨b, off + k * 6 + 4, none⟩ = some (C k 4) := hck 4 (by omega)
      have hc5 : wr.cell? ⟨b, off + k * 6 + 5, none⟩ = some (C k 5) := hck 5 (by omega)
      clear hck hc
      have hdk : ∀ j, j < 6 → wr.cell? ⟨b', off' + k * 6 + j, none⟩ = some (C' k j) := fun j hj => (hbel.cell (p := ⟨b', off' + k * 6 + j, none⟩) (by show b' < _; omega)).trans (hd k hlt j hj)
      have hd0 : wr.cell? ⟨b', off' + k * 6, none⟩ = some (C' k 0) := hdk 0 (by omega)
      have hd1 : wr.cell? ⟨b', off' + k * 6 + 1, none⟩ = some (C' k 1) := hdk 1 (by omega)
      have hd2 : wr.cell? ⟨b', off' + k * 6 + 2, none⟩ = some (C' k 2) := hdk 2 (by omega)
      have hd3 : wr.cell? ⟨b', off' + k * 6 + 3, none⟩ = some (C' k 3) := hdk 3 (by omega)
      have hd4 : wr.cell? ⟨b', off' + k * 6 + 4, none⟩ = some (C' k 4) := hdk 4 (by omega)
      have hd5 : wr.cell? ⟨b', off' + k * 6 + 5, none⟩ = some (C' k 5) := hdk 5 (by omega)
      clear hdk hd
      go_wp2_with fail
      go_region_with (go_at_call 24; refine (eqStep_any (pth xs k) _ B _ _ ((hr k hlt).under ((hbel.drew).mono hB)) ((hr' k hlt).under ((hbel.drew).mono hB)) (by have := hbel.size; simp; omega)).mono ?_; rintro e w1 ⟨rfl, hby⟩)
      all_goals
        go_wp2_with fail
        go_roundw
        case rel => exact ⟨k + 1, by omega, by go_num, hbel.drew.trans (hby.mono (by have := hbel.size; simpa using this))⟩
        case measure => simp [intOf]; omega
    · go_wp2_with fail
      go_ret
      exact ⟨rfl, hbel⟩
end Go.Proofs.Ytahelconmfldjaa
