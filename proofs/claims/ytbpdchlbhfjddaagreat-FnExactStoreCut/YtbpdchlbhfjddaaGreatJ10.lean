import Derived.Test.YtbpdchlbhfjddaaGreatJ1
import Derived.Test.YtbpdchlbhfjddaaGreatJ6
import Derived.Test.YtbpdchlbhfjddaaGreatJ7
import Derived.Test.YtbpdchlbhfjddaaGreatJ3
import Derived.Deep.LoopGhost
import Derived.Deep.RegionHeld3
import Derived.Deep.DeepCutAuto
namespace Go.Proofs.YtbpdchlbhfjddaaGreat
set_option linter.unusedSimpArgs false
set_option linter.unusedVariables false
open Go.RowKit

/-- Nothing, as a value. -/
def vNull : V := ⟨1, 0, ⟨#[]⟩, [], []⟩
/-- What cells have under a name. -/
def cellV (cs : List Ce) (f : ByteArray) : V := match fc cs f cs.length with
  | none => vNull
  | some j => (cth cs j).val
/-- The cells of fields. -/
def cutL (fl : List F) (cs : List Ce) : List Ce := fl.map fun f => ⟨f.name, cellV cs f.name⟩
theorem cutL_len (fl : List F) (cs : List Ce) : (cutL fl cs).length = fl.length := by simp [cutL]
theorem cutL_take (fl : List F) (cs : List Ce) (k : Nat) (h : k < fl.length) : cutL (fl.take (k + 1)) cs = cutL (fl.take k) cs ++ [⟨(fth fl k).name, cellV cs (fth fl k).name⟩] := by
  rw [List.take_succ_eq_append_getElem h]
  have e : fth fl k = fl[k] := by simp [fth, List.getD_eq_getElem?_getD, h]
  rw [e]
  simp only [cutL, List.map_append, List.map_cons, List.map_nil]
/-- A row with what a part knows of its type. -/
def cutR (t : T) (r : Ro) : Ro := ⟨r.type, r.id, cutL (KF t.fields t.fields.length) r.cells⟩
/-- The first rows that are of a type. -/
def cutTo (t : T) (rs : List Ro) : Nat → List Ro
  | 0 => []
  | n + 1 => if ((rth rs n).type.toList == t.name.toList) = true then cutTo t rs n ++ [cutR t (rth rs n)] else cutTo t rs n
/-- The rows of the first types. -/
def cutTs (ts : List T) (rs : List Ro) : Nat → List Ro
  | 0 => []
  | n + 1 => cutTs ts rs n ++ cutTo (tth ts n) rs rs.length
end Go.Proofs.YtbpdchlbhfjddaaGreat

namespace Go.Proofs.YtbpdchlbhfjddaaGreat
set_option linter.unusedSimpArgs false
set_option linter.unusedVariables false
open Go.RowKit

/-- A place that is still to be copied: the way to it, its block, where it begins there, and what is meant there. -/
structure Pq where
  p : List Nat
  b : Nat
  o : Nat
  y : V
def Pq.has (e : Pq) (b o : Nat) : Prop := e.b = b ∧ e.o ≤ o ∧ o < e.o + 5
def inQ (L : List Pq) (b o : Nat) : Prop := ∃ e ∈ L, e.has b o
/-- A place holds a value, its lists apart. -/
def RepLab (w : World) (P : Nat → Prop) (lab : Nat → List Nat) (p : List Nat) (b o : Nat) (y : V) : Prop := ∃ c0 c1 c2 c3 c4 : Value, w.cell? ⟨b, o, none⟩ = some c0 ∧ w.cell? ⟨b, o + 1, none⟩ = some c1 ∧ w.cell? ⟨b, o + 2, none⟩ = some c2 ∧ w.cell? ⟨b, o + 3, none⟩ = some c3 ∧ w.cell? ⟨b, o + 4, none⟩ = some c4 ∧ Rep w P y (.agg #[c0, c1, c2, c3, c4]) ∧ LRep w lab p y (.agg #[c0, c1, c2, c3, c4])
/-- In every later world that keeps the blocks T outside the open places, and in which each open place holds its value in new memory, the root holds x in new memory. -/
def ClosesL (w : World) (lab : Nat → List Nat) (base : Nat) (T : Nat → Prop) (L : List Pq) (root : Nat) (x : V) : Prop :=
  ∀ (w' : World) (lab' : Nat → List Nat), w.heap.size ≤ w'.heap.size → (∀ b, T b → lab' b = lab b) → (∀ b o, T b → ¬ inQ L b o → w'.cell? ⟨b, o, none⟩ = w.cell? ⟨b, o, none⟩) → (∀ b i, T b → w'.frozen? ⟨b, i, none⟩ = w.frozen? ⟨b, i, none⟩) →
    (∀ e, e ∈ L → RepLab w' (New base w') lab' e.p e.b e.o e.y) → RepLab w' (New base w') lab' [] root 0 x

theorem ClosesL.start (w : World) (lab : Nat → List Nat) (base : Nat) (T : Nat → Prop) (root : Nat) (x : V) : ClosesL w lab base T [⟨[], root, 0, x⟩] root x := fun w' lab' _ _ _ _ h => h ⟨[], root, 0, x⟩ (by simp)
theorem ClosesL.done {w : World} {lab : Nat → List Nat} {base : Nat} {T : Nat → Prop} {root : Nat} {x : V} (h : ClosesL w lab base T [] root x) : RepLab w (New base w) lab [] root 0 x :=
  h w lab (Nat.le_refl _) (fun _ _ => rfl) (fun _ _ _ _ => rfl) (fun _ _ _ => rfl) (fun e he => by simp at he)

/-- The places of the first kids. -/
def kidQ (p : List Nat) (kb : Nat) (ks : List V) (n : Nat) : List Pq := (List.range n).map fun i => ⟨(i + 2) :: p, kb, i * 5, kth ks i⟩
theorem kidQ_succ (p : List Nat) (kb : Nat) (ks : List V) (n : Nat) : kidQ p kb ks (n + 1) = kidQ p kb ks n ++ [⟨(n + 2) :: p, kb, n * 5, kth ks n⟩] := by simp [kidQ, List.range_succ]
theorem kidQ_mem {p : List Nat} {kb : Nat} {ks : List V} {n : Nat} {e : Pq} (h : e ∈ kidQ p kb ks n) : ∃ i, i < n ∧ e = ⟨(i + 2) :: p, kb, i * 5, kth ks i⟩ := by
  simp only [kidQ, List.mem_map, List.mem_range] at h
  obtain ⟨i, hi, rfl⟩ := h
  exact ⟨i, hi, rfl⟩
theorem kidQ_in (p : List Nat) (kb : Nat) (ks : List V) {n i : Nat} (h : i < n) : (⟨(i + 2) :: p, kb, i * 5, kth ks i⟩ : Pq) ∈ kidQ p kb ks n := by
  simp only [kidQ, List.mem_map, List.mem_range]; exact ⟨i, h, rfl⟩

/-- What is to be done still: the parts of all open places. -/
def todoQ (L : List Pq) : Nat := cntL (L.map Pq.y)
theorem kidQ_vals (p : List Nat) (kb : Nat) (ks : List V) : (kidQ p kb ks ks.length).map Pq.y = ks := by
  apply List.ext_getElem
  · simp [kidQ]
  · intro i h1 h2; simp [kidQ, kth, List.getD_eq_getElem?_getD, List.getElem?_eq_getElem h2]
theorem todoQ_step (L0 : List Pq) (p : List Nat) (b o : Nat) (s n : Int) (t : ByteArray) (ns : List ByteArray) (ks : List V) (kb : Nat) : todoQ (L0 ++ kidQ p kb ks ks.length) + 1 = todoQ (L0 ++ [⟨p, b, o, .mk s n t ns ks⟩]) := by
  simp only [todoQ, List.map_append, cntL_append, kidQ_vals, List.map_cons, List.map_nil, cntL, cntV]
  omega
theorem todoQ_len (L : List Pq) : L.length ≤ todoQ L := by
  induction L with
  | nil => simp
  | cons e r ih =>
    have := cntV_pos e.y
    simp only [todoQ, List.map_cons, cntL, List.length_cons] at ih ⊢
    omega

theorem ClosesL.step {w w2 : World} {lab lab2 : Nat → List Nat} {base : Nat} {T T2 N : Nat → Prop} {L0 : List Pq} {p : List Nat} {b o : Nat} {s n : Int} {t : ByteArray} {ns : List ByteArray} {ks : List V} {root : Nat} {x : V} {na ka : Option Addr} {nc kc kb : Nat}
    (h : ClosesL w lab base T (L0 ++ [⟨p, b, o, .mk s n t ns ks⟩]) root x) (hsz : w.heap.size ≤ w2.heap.size) (hbz : base + 1 < w.heap.size)
    (hT : ∀ c, T c → base ≤ c ∧ c < w.heap.size) (hTb : T b) (hT2 : ∀ c, T c → T2 c) (hN2 : ∀ c, N c → T2 c) (hk2 : ks ≠ [] → T2 kb)
    (hL0 : ∀ e, e ∈ L0 → T e.b) (hap : ∀ e, e ∈ L0 → e.b ≠ b ∨ e.o + 5 ≤ o ∨ o + 5 ≤ e.o)
    (hN : ∀ c, N c → w.heap.size ≤ c ∧ c < w2.heap.size ∧ c ≠ kb) (hkb : w.heap.size ≤ kb) (hkb2 : ks ≠ [] → kb < w2.heap.size)
    (hkeep : ∀ c i, T c → ¬ inQ (L0 ++ [⟨p, b, o, .mk s n t ns ks⟩]) c i → w2.cell? ⟨c, i, none⟩ = w.cell? ⟨c, i, none⟩) (hfk : ∀ c i, T c → w2.frozen? ⟨c, i, none⟩ = w.frozen? ⟨c, i, none⟩)
    (hl1 : ∀ c, T c → lab2 c = lab c) (hl2 : ∀ c, N c → lab2 c = 0 :: p) (hl3 : ks ≠ [] → lab2 kb = 1 :: p) (hf2 : ∀ nb off, na = some ⟨nb, off, none⟩ → ∀ i, w2.frozen? ⟨nb, i, none⟩ = false) (hf3 : ks ≠ [] → ∀ i, w2.frozen? ⟨kb, i, none⟩ = false)
    (c0 : w2.cell? ⟨b, o, none⟩ = some (.int .i64 s)) (c1 : w2.cell? ⟨b, o + 1, none⟩ = some (.int .i64 n)) (c2 : w2.cell? ⟨b, o + 2, none⟩ = some (.string t)) (c3 : w2.cell? ⟨b, o + 3, none⟩ = some (.slice na ns.length nc)) (c4 : w2.cell? ⟨b, o + 4, none⟩ = some (.slice ka ks.length kc))
    (hS : Strs w2 N ns na) (hnc : ns.length ≤ nc) (ht : t.size ≤ maxLen) (hbs : 16 * ns.length ≤ 281474976710656) (hbk : 80 * ks.length ≤ 281474976710656) (hka : ks ≠ [] → ka = some ⟨kb, 0, none⟩) :
    ClosesL w2 lab2 base T2 (L0 ++ kidQ p kb ks ks.length) root x := by
  intro w' lab' hz hlab hk hfr hr
  have hbb := hT b hTb
  have notK : ∀ c i, c < w.heap.size → ¬ inQ (kidQ p kb ks ks.length) c i := by
    rintro c i hc ⟨e, he, h1, -⟩
    obtain ⟨j, hj, rfl⟩ := kidQ_mem he
    simp only at h1
    omega
  refine h w' lab' (by omega) (fun c hc => (hlab c (hT2 c hc)).trans (hl1 c hc)) (fun c i hc hn => ?_) (fun c i hc => (hfr c i (hT2 c hc)).trans (hfk c i hc)) (fun e he => ?_)
  · rw [hk c i (hT2 c hc) (fun hin => hn ?_), hkeep c i hc hn]
    obtain ⟨e, he, hh⟩ := hin
    rcases List.mem_append.1 he with he | he
    · exact ⟨e, List.mem_append_left _ he, hh⟩
    · exact absurd ⟨e, he, hh⟩ (notK c i (hT c hc).2)
  · rcases List.mem_append.1 he with he | he
    · exact hr e (List.mem_append_left _ he)
    · obtain rfl : e = ⟨p, b, o, .mk s n t ns ks⟩ := by simpa using he
      have cell : ∀ j, j < 5 → w'.cell? ⟨b, o + j, none⟩ = w2.cell? ⟨b, o + j, none⟩ := fun j hj => hk b (o + j) (hT2 b hTb) fun hin => by
        obtain ⟨e, he, h1, h2, h3⟩ := hin
        rcases List.mem_append.1 he with he' | he'
        · rcases hap e he' with h4 | h4 | h4
          · exact h4 h1
          · omega
          · omega
        · exact notK b (o + j) hbb.2 ⟨e, he', h1, h2, h3⟩
      have hncell : ∀ nb off, N nb → ∀ i, w'.cell? ⟨nb, off + i, none⟩ = w2.cell? ⟨nb, off + i, none⟩ := fun nb off e2 i => hk nb (off + i) (hN2 nb e2) fun hin => by
        have hn := hN nb e2
        obtain ⟨e, he, h1, h2, h3⟩ := hin
        rcases List.mem_append.1 he with he' | he'
        · have := (hT _ (hL0 e he')).2; omega
        · obtain ⟨j, hj, rfl⟩ := kidQ_mem he'
          exact hn.2.2 h1.symm
      have hK : ∀ i, ∃ C : Nat → Value, i < ks.length → (∀ j, j < 5 → w'.cell? ⟨kb, 0 + i * 5 + j, none⟩ = some (C j)) ∧ Rep w' (New base w') (kth ks i) (.agg #[C 0, C 1, C 2, C 3, C 4]) ∧ LRep w' lab' ((i + 2) :: p) (kth ks i) (.agg #[C 0, C 1, C 2, C 3, C 4]) := fun i => by
        by_cases hi : i < ks.length
        · obtain ⟨d0, d1, d2, d3, d4, g0, g1, g2, g3, g4, hR, hL⟩ := hr ⟨(i + 2) :: p, kb, i * 5, kth ks i⟩ (List.mem_append_right _ (kidQ_in p kb ks hi))
          refine ⟨fun j => if j = 0 then d0 else if j = 1 then d1 else if j = 2 then d2 else if j = 3 then d3 else d4, fun _ => ⟨fun j hj => ?_, by simpa using hR, by simpa using hL⟩⟩
          have : j = 0 ∨ j = 1 ∨ j = 2 ∨ j = 3 ∨ j = 4 := by omega
          rcases this with rfl | rfl | rfl | rfl | rfl
          · simpa using g0
          · simpa using g1
          · simpa using g2
          · simpa using g3
          · simpa using g4
        · exact ⟨fun _ => undef, fun h => absurd h hi⟩
      obtain ⟨C, hC⟩ := Classical.skolem.1 hK
      refine ⟨_, _, _, _, _, (cell 0 (by omega)).trans c0, (cell 1 (by omega)).trans c1, (cell 2 (by omega)).trans c2, (cell 3 (by omega)).trans c3, (cell 4 (by omega)).trans c4, Rep.of_kids ⟨fun hne => ?_, hS.2⟩ hnc ht hbs ⟨hbk, kb, 0, C, fun hne => ⟨hka hne, by omega, by have := hkb2 hne; omega, by omega⟩, fun i hi => (hC i hi).1, fun i hi => (hC i hi).2.1⟩, LRep.of_kids (fun hne => ?_) ⟨kb, 0, C, fun hne => ⟨hka hne, ?_, fun i => ?_⟩, fun i hi => (hC i hi).1, fun i hi => (hC i hi).2.2⟩⟩
      · obtain ⟨nb, off, e1, e2, e3⟩ := hS.1 hne
        have hn := hN nb e2
        exact ⟨nb, off, e1, ⟨by omega, by omega, by omega⟩, fun i hi => (hncell nb off e2 i).trans (e3 i hi)⟩
      · obtain ⟨nb, off, e1, e2, e3⟩ := hS.1 hne
        exact ⟨nb, off, e1, (hlab nb (hN2 nb e2)).trans (hl2 nb e2), fun i => (hfr nb i (hN2 nb e2)).trans (hf2 nb off e1 i), fun i hi => (hncell nb off e2 i).trans (e3 i hi)⟩
      · exact (hlab kb (hk2 hne)).trans (hl3 hne)
      · exact (hfr kb i (hk2 hne)).trans (hf3 hne i)
end Go.Proofs.YtbpdchlbhfjddaaGreat

namespace Go.Proofs.YtbpdchlbhfjddaaGreat
set_option linter.unusedSimpArgs false
set_option linter.unusedVariables false
open Go.RowKit

/-- What copyValue does. -/
def CvL (x : V) (w : World) (B : Nat) (v : Value) : Prop :=
  Calls Tryz.prog 45 #[v] w fun e w' => ∃ (na ka : Option Addr) (nc kc : Nat), e = .returned (.agg #[.int .i64 x.sort, .int .i64 x.num, .string x.text, .slice na x.names.length nc, .slice ka x.kids.length kc]) ∧ Below w.heap.size w w' ∧
    Rep w' (fun b => w.heap.size ≤ b ∧ b < w'.heap.size) x (.agg #[.int .i64 x.sort, .int .i64 x.num, .string x.text, .slice na x.names.length nc, .slice ka x.kids.length kc]) ∧
    ∃ lab : Nat → List Nat, (∀ b, lab b ≠ [] → w.heap.size ≤ b ∧ b < w'.heap.size) ∧ LRep w' lab [] x (.agg #[.int .i64 x.sort, .int .i64 x.num, .string x.text, .slice na x.names.length nc, .slice ka x.kids.length kc])

/-- What holds in a round: the open places, their row of pointers, what is made so far. -/
def OpensL (w0 : World) (B root : Nat) (x : V) (wr : World) (lab : Nat → List Nat) (T : Nat → Prop) (L : List Pq) (vo : Value) : Prop :=
  (∀ b, lab b ≠ [] → T b ∧ b ≠ root) ∧ ClosesL wr lab root T L root x ∧ (∀ c, T c → root ≤ c ∧ c < wr.heap.size ∧ c ≠ root + 1 ∧ vo.ownBlock ≠ some c) ∧ T root ∧
  (∀ e, e ∈ L → T e.b ∧ RepAt wr (· < B) e.b e.o e.y ∧ (∃ f, fit f e.y) ∧ ∀ i, wr.frozen? ⟨e.b, i, none⟩ = false) ∧ L.Pairwise (fun e e' => e.b ≠ e'.b ∨ e.o + 5 ≤ e'.o ∨ e'.o + 5 ≤ e.o) ∧
  wr.ownsRow (root + 1 + 1) 130 1 vo L.length (L.map fun e => .pointer (some ⟨e.b, e.o, none⟩)) ∧ Below root w0 wr ∧ ∃ y0 y1 y2 y3 y4, Row5 wr (root + 1) y0 y1 y2 y3 y4

theorem OpensL.start (f : Nat) (s n : Int) (t : ByteArray) (ns : List ByteArray) (ks : List V) (na ka : Option Addr) (nc kc : Nat) (w : World) (B : Nat) (hfit : fit f (.mk s n t ns ks)) (hR : Rep w (· < B) (.mk s n t ns ks) (.agg #[.int .i64 s, .int .i64 n, .string t, .slice na ns.length nc, .slice ka ks.length kc])) (hB : B ≤ w.heap.size) :
    OpensL w B w.heap.size (.mk s n t ns ks) (((w.alloc (.cells #[.int .i64 s, .int .i64 n, .string t, .slice na ns.length nc, .slice ka ks.length kc] 58)).alloc (.cells #[.int .i64 0, .int .i64 0, .string ByteArray.empty, .slice none 0 0, .slice none 0 0] 58)).alloc (.cells #[.pointer (some ⟨w.heap.size, 0, none⟩)] 130))
      (fun _ => []) (fun c => c = w.heap.size) [⟨[], w.heap.size, 0, .mk s n t ns ks⟩] (.slice (some ⟨w.heap.size + 1 + 1, 0, none⟩) 1 1) := by
  have b1 := below_box w (.cells #[.int .i64 s, .int .i64 n, .string t, .slice na ns.length nc, .slice ka ks.length kc] 58)
  have r0 := Row5.new w (.int .i64 s) (.int .i64 n) (.string t) (.slice na ns.length nc) (.slice ka ks.length kc)
  have z1 : (w.alloc (.cells #[.int .i64 s, .int .i64 n, .string t, .slice na ns.length nc, .slice ka ks.length kc] 58)).heap.size = w.heap.size + 1 := by simp
  generalize w.alloc (.cells #[.int .i64 s, .int .i64 n, .string t, .slice na ns.length nc, .slice ka ks.length kc] 58) = w1 at b1 r0 z1
  have b2 := below_box w1 (.cells #[.int .i64 0, .int .i64 0, .string ByteArray.empty, .slice none 0 0, .slice none 0 0] 58)
  have r1 := Row5.new w1 (.int .i64 0) (.int .i64 0) (.string ByteArray.empty) (.slice none 0 0) (.slice none 0 0)
  have z2 : (w1.alloc (.cells #[.int .i64 0, .int .i64 0, .string ByteArray.empty, .slice none 0 0, .slice none 0 0] 58)).heap.size = w1.heap.size + 1 := by simp
  generalize w1.alloc (.cells #[.int .i64 0, .int .i64 0, .string ByteArray.empty, .slice none 0 0, .slice none 0 0] 58) = w2 at b2 r1 z2
  have b3 := below_box w2 (.cells #[.pointer (some ⟨w.heap.size, 0, none⟩)] 130)
  have z3 : (w2.alloc (.cells #[.pointer (some ⟨w.heap.size, 0, none⟩)] 130)).heap.size = w2.heap.size + 1 := by simp
  have k3 := heap_alloc_new w2 (.cells #[.pointer (some ⟨w.heap.size, 0, none⟩)] 130)
  generalize w2.alloc (.cells #[.pointer (some ⟨w.heap.size, 0, none⟩)] 130) = w3 at b3 z3 k3
  have hb : Below w.heap.size w w3 := (b1.trans (b2.mono (by omega))).trans (b3.mono (by omega))
  have R0 := (r0.of_block (b2.block _ (by omega))).of_block (b3.block _ (by omega))
  rw [z1] at r1
  have R1 := r1.of_block (b3.block _ (by omega))
  obtain ⟨c0, c1, c2, c3, c4⟩ := R0.five
  refine ⟨fun b hb => absurd rfl hb, ClosesL.start _ _ _ _ _ _, fun c hc => ?_, rfl, fun e he => ?_, by simp, ⟨by simp, Or.inr ⟨w.heap.size + 1 + 1, 1, #[.pointer (some ⟨w.heap.size, 0, none⟩)], rfl, Nat.le_refl _, ?_, Nat.le_refl _, by simp [maxLen], by simp, by simp⟩⟩, hb, _, _, _, _, _, R1⟩
  · subst hc
    refine ⟨Nat.le_refl _, by omega, by omega, ?_⟩
    simp [Value.ownBlock]; omega
  · obtain rfl : e = ⟨[], w.heap.size, 0, .mk s n t ns ks⟩ := by simpa using he
    exact ⟨rfl, ⟨_, _, _, _, _, c0, c1, c2, c3, c4, hR.under (hb.mono hB)⟩, ⟨f, hfit⟩, R0.frozen⟩
  · rw [show w.heap.size + 1 + 1 = w2.heap.size by omega]; exact k3

theorem frozen_below {w w' : World} {b : Nat} (h : Below w.heap.size w w') (hb : b < w.heap.size) (i : Nat) : w'.frozen? ⟨b, i, none⟩ = w.frozen? ⟨b, i, none⟩ := by
  have := h.block b hb
  simp [World.frozen?, this]
theorem owns_slice {w : World} {base : Nat} {e : TypeId} {k : Nat} {v : Value} {n : Nat} {xs : List Value} (h : w.ownsRow base e k v n xs) : ∃ (a : Option Addr) (cap : Nat), v = .slice a n cap := by
  rcases h.2 with ⟨rfl, rfl⟩ | ⟨g, cap, cur, rfl, -⟩
  · exact ⟨none, 0, rfl⟩
  · exact ⟨_, cap, rfl⟩

theorem kidQ_apart (p : List Nat) (kb : Nat) (ks : List V) : ∀ n, (kidQ p kb ks n).Pairwise (fun e e' => e.b ≠ e'.b ∨ e.o + 5 ≤ e'.o ∨ e'.o + 5 ≤ e.o)
  | 0 => by simp [kidQ]
  | n + 1 => by
    rw [kidQ_succ, List.pairwise_append]
    refine ⟨kidQ_apart p kb ks n, by simp, fun e he e' he' => ?_⟩
    obtain ⟨i, hi, rfl⟩ := kidQ_mem he
    obtain rfl : e' = ⟨(n + 2) :: p, kb, n * 5, kth ks n⟩ := by simpa using he'
    right; left
    show i * 5 + 5 ≤ n * 5
    omega

theorem OpensL.turn {w wr wx : World} {B root : Nat} {x : V} {lab : Nat → List Nat} {T N : Nat → Prop} {L0 : List Pq} {p : List Nat} {b o : Nat} {s n : Int} {t : ByteArray} {ns : List ByteArray} {ks : List V} {vo vo' : Value} {og g : Nat} {na ka : Option Addr} {nc kc : Nat}
    (hO : OpensL w B root x wr lab T (L0 ++ [⟨p, b, o, .mk s n t ns ks⟩]) vo) (hBr : B ≤ root) (hog : vo.ownBlock = some og)
    (hsz : wr.heap.size ≤ wx.heap.size) (hos : wx.os = wr.os) (htp : wx.tape = wr.tape) (hou : wx.output = wr.output)
    (hblk : ∀ c, c < wr.heap.size → c ≠ b → c ≠ og → wx.heap[c]? = wr.heap[c]?)
    (hcell : ∀ i, i ≠ o + 3 → i ≠ o + 4 → wx.cell? ⟨b, i, none⟩ = wr.cell? ⟨b, i, none⟩) (hfz : ∀ i, wx.frozen? ⟨b, i, none⟩ = wr.frozen? ⟨b, i, none⟩)
    (c3 : wx.cell? ⟨b, o + 3, none⟩ = some (.slice na ns.length nc)) (c4 : wx.cell? ⟨b, o + 4, none⟩ = some (.slice ka ks.length kc))
    (hN : ∀ c, N c → wr.heap.size ≤ c ∧ c < wx.heap.size ∧ c ≠ g ∧ vo'.ownBlock ≠ some c) (hS : Strs wx N ns na) (hnc : ns.length ≤ nc) (hsf : ∀ nb off, na = some ⟨nb, off, none⟩ → ∀ i, wx.frozen? ⟨nb, i, none⟩ = false)
    (hg : wr.heap.size ≤ g) (hgx : ks ≠ [] → g < wx.heap.size) (hka : ks ≠ [] → ka = some ⟨g, 0, none⟩) (hgo : ks ≠ [] → vo'.ownBlock ≠ some g) (hgf : ks ≠ [] → ∀ i, wx.frozen? ⟨g, i, none⟩ = false)
    (hkids : ∀ i, i < ks.length → RepAt wx (· < B) g (i * 5) (kth ks i)) (hvo : ∀ c, c < wr.heap.size → vo'.ownBlock = some c → c = og)
    (hown : wx.ownsRow (root + 1 + 1) 130 1 vo' (L0.length + ks.length) ((L0 ++ kidQ p g ks ks.length).map fun e => .pointer (some ⟨e.b, e.o, none⟩))) :
    ∃ lab2, OpensL w B root x wx lab2 (fun c => T c ∨ N c ∨ (ks ≠ [] ∧ c = g)) (L0 ++ kidQ p g ks ks.length) vo' := by
  classical
  obtain ⟨hLb, hCl, hT, hTr, hLe, hap, hownr, hbel, y0, y1, y2, y3, y4, hr1⟩ := hO
  have hogl := hownr.lt og hog
  have hr1l := hr1.lt
  obtain ⟨hTb, ⟨d0, d1, d2, d3, d4, p0, p1, p2, p3, p4, hrep⟩, ⟨fe, hfe⟩, hfb⟩ := hLe ⟨p, b, o, .mk s n t ns ks⟩ (by simp)
  simp only at hTb p0 p1 p2 p3 p4 hrep hfe hfb
  obtain ⟨na0, ka0, nc0, kc0, e5, -, -, ht, hbs, hK⟩ := hrep.inv
  simp only [Value.agg.injEq, Array.mk.injEq, List.cons.injEq, and_true] at e5
  obtain ⟨rfl, rfl, rfl, rfl, rfl⟩ := e5
  have hkf : ∀ i, i < ks.length → ∃ f, fit f (kth ks i) := by
    match fe, hfe with
    | fe + 1, hfe => exact fun i hi => ⟨fe, hfe.2.2 i hi⟩
  have hTB := hT b hTb
  have hbw : Below root wr wx := ⟨hos, htp, hou, hsz, fun c hc => hblk c (by omega) (by omega) (by omega)⟩
  rw [List.pairwise_append] at hap
  have hap' : ∀ e, e ∈ L0 → e.b ≠ b ∨ e.o + 5 ≤ o ∨ o + 5 ≤ e.o := fun e he => hap.2.2 e he ⟨p, b, o, .mk s n t ns ks⟩ (by simp)
  have hTo : ∀ c, T c → c ≠ og := fun c hc e => (hT c hc).2.2.2 (by rw [hog, e])
  have nN : ∀ c, T c → ¬ N c := fun c hc hn => by have := (hT c hc).2.1; have := (hN c hn).1; omega
  have nG : ∀ c, T c → c ≠ g := fun c hc e => by have := (hT c hc).2.1; omega
  refine ⟨fun c => if N c then 0 :: p else if ks ≠ [] ∧ c = g then 1 :: p else lab c, fun c hc => ?_, ClosesL.step (T2 := fun c => T c ∨ N c ∨ (ks ≠ [] ∧ c = g)) (N := N) hCl hsz hr1l (fun c hc => ⟨(hT c hc).1, (hT c hc).2.1⟩) hTb (fun c hc => Or.inl hc) (fun c hc => Or.inr (Or.inl hc)) (fun hne => Or.inr (Or.inr ⟨hne, rfl⟩)) (fun e he => (hLe e (List.mem_append_left _ he)).1) hap' (fun c hc => ⟨(hN c hc).1, (hN c hc).2.1, (hN c hc).2.2.1⟩) hg hgx (fun c i hc hn => ?_) (fun c i hc => ?_) (fun c hc => by rw [if_neg (nN c hc), if_neg (fun h => nG c hc h.2)]) (fun c hc => if_pos hc) (fun hne => by rw [if_neg (fun h => (hN g h).2.2.1 rfl), if_pos ⟨hne, rfl⟩]) hsf hgf
    ((hcell o (by omega) (by omega)).trans p0) ((hcell (o + 1) (by omega) (by omega)).trans p1) ((hcell (o + 2) (by omega) (by omega)).trans p2) c3 c4 hS hnc ht hbs hK.1 hka, fun c hc => ?_, Or.inl hTr, fun e he => ?_, ?_, ?_, hbel.trans hbw, y0, y1, y2, y3, y4, hr1.of_block (hblk _ (by omega) (fun e => hTB.2.2.1 e.symm) (by omega))⟩
  · simp only at hc
    by_cases h1 : N c
    · have := hN c h1; exact ⟨Or.inr (Or.inl h1), by omega⟩
    · rw [if_neg h1] at hc
      by_cases h2 : ks ≠ [] ∧ c = g
      · exact ⟨Or.inr (Or.inr h2), by have := h2.2; omega⟩
      · rw [if_neg h2] at hc
        exact ⟨Or.inl (hLb c hc).1, (hLb c hc).2⟩
  · by_cases hcb : c = b
    · subst hcb
      have : ¬ (o ≤ i ∧ i < o + 5) := fun h => hn ⟨⟨p, c, o, .mk s n t ns ks⟩, by simp, rfl, h.1, h.2⟩
      exact hcell i (by omega) (by omega)
    · exact World.cell?_of_block (w := wr) (a := ⟨c, i, none⟩) (hblk c (hT c hc).2.1 hcb (hTo c hc))
  · by_cases hcb : c = b
    · subst hcb; exact hfz i
    · exact World.frozen?_of_block (w := wr) (a := ⟨c, i, none⟩) (hblk c (hT c hc).2.1 hcb (hTo c hc))
  · rcases hc with hc | hc | ⟨hne, rfl⟩
    · have h1 := hT c hc
      exact ⟨h1.1, by omega, h1.2.2.1, fun e => hTo c hc (hvo c h1.2.1 e)⟩
    · have h1 := hN c hc
      exact ⟨by omega, h1.2.1, by omega, h1.2.2.2⟩
    · exact ⟨by omega, hgx hne, by omega, hgo hne⟩
  · rcases List.mem_append.1 he with he | he
    · obtain ⟨h1, ⟨q0, q1, q2, q3, q4, k0, k1, k2, k3, k4, hq⟩, h3, h4⟩ := hLe e (List.mem_append_left _ he)
      have hqx := hq.under (hbw.mono hBr)
      by_cases hcb : e.b = b
      · have hc : ∀ i, e.o ≤ i → i < e.o + 5 → wx.cell? ⟨e.b, i, none⟩ = wr.cell? ⟨e.b, i, none⟩ := fun i hi hi' => by
          rcases hap' e he with h | h | h
          · exact absurd hcb h
          · rw [hcb]; exact hcell i (by omega) (by omega)
          · rw [hcb]; exact hcell i (by omega) (by omega)
        exact ⟨Or.inl h1, ⟨_, _, _, _, _, (hc _ (by omega) (by omega)).trans k0, (hc _ (by omega) (by omega)).trans k1, (hc _ (by omega) (by omega)).trans k2, (hc _ (by omega) (by omega)).trans k3, (hc _ (by omega) (by omega)).trans k4, hqx⟩, h3, fun i => by rw [hcb, hfz i, ← hcb]; exact h4 i⟩
      · have hb' := hblk e.b (hT _ h1).2.1 hcb (hTo _ h1)
        have hc : ∀ i, wx.cell? ⟨e.b, i, none⟩ = wr.cell? ⟨e.b, i, none⟩ := fun i => World.cell?_of_block (w := wr) (a := ⟨e.b, i, none⟩) hb'
        exact ⟨Or.inl h1, ⟨_, _, _, _, _, (hc _).trans k0, (hc _).trans k1, (hc _).trans k2, (hc _).trans k3, (hc _).trans k4, hqx⟩, h3, fun i => (World.frozen?_of_block (w := wr) (a := ⟨e.b, i, none⟩) hb').trans (h4 i)⟩
    · obtain ⟨i, hi, rfl⟩ := kidQ_mem he
      have hne : ks ≠ [] := by intro e; simp [e] at hi
      exact ⟨Or.inr (Or.inr ⟨hne, rfl⟩), hkids i hi, hkf i hi, hgf hne⟩
  · rw [List.pairwise_append]
    refine ⟨hap.1, kidQ_apart _ _ _ _, fun e he e' he' => Or.inl ?_⟩
    obtain ⟨i, hi, rfl⟩ := kidQ_mem he'
    have := (hT _ (hLe e (List.mem_append_left _ he)).1).2.1
    show e.b ≠ g
    omega
  · have : (L0 ++ kidQ p g ks ks.length).length = L0.length + ks.length := by simp [kidQ]
    rw [this]; exact hown

end Go.Proofs.YtbpdchlbhfjddaaGreat
