import Derived.Test.YtdohgkokoicjlaaB18
import Derived.Deep.RegionHeld3
import Derived.Test.YtdohgkokoicjlaaB2
import Derived.WideShapes
set_option linter.unusedSimpArgs false
set_option linter.unusedVariables false
namespace Go.Proofs.Ytdohgkokoicjlaa
open Go.RowKit
theorem TsRep.at {w : World} {B : Nat} {ts : List T} {ta : Option Addr} (h : TsRep w (· < B) ts ta) (hB : B ≤ w.heap.size) (k : Nat) (hk : k < ts.length) : ∃ (b off : Nat) (fa : Option Addr) (fc : Nat), ta = some ⟨b, off, none⟩ ∧
    TRep w (· < B) (tth ts k) (.agg #[.string (tth ts k).name, .string (tth ts k).key, .slice fa (tth ts k).fields.length fc]) ∧
    ∀ W, Below w.heap.size w W → W.cell? ⟨b, off + k * 3, none⟩ = some (.string (tth ts k).name) ∧ W.cell? ⟨b, off + k * 3 + 1, none⟩ = some (.string (tth ts k).key) ∧ W.cell? ⟨b, off + k * 3 + 2, none⟩ = some (.slice fa (tth ts k).fields.length fc) := by
  obtain ⟨-, C, hA, hr⟩ := h
  obtain ⟨b, off, rfl, hbB, hc⟩ := hA (by omega)
  have hkt := hr k hk
  obtain ⟨fa, fc, e0, e1, e2, -⟩ := (hr k hk).parts
  rw [e0, e1, e2] at hkt
  refine ⟨b, off, fa, fc, rfl, hkt, fun W hb => ?_⟩
  have hck : ∀ j, j < 3 → W.cell? ⟨b, off + k * 3 + j, none⟩ = some (C k j) := fun j hj => (hb.cell (p := ⟨b, off + k * 3 + j, none⟩) (by show b < _; omega)).trans (hc k hk j hj)
  have c0 : W.cell? ⟨b, off + k * 3, none⟩ = some (C k 0) := hck 0 (by omega)
  rw [c0, hck 1 (by omega), hck 2 (by omega), e0, e1, e2]
  exact ⟨rfl, rfl, rfl⟩
def knownF (p : Pt) (f : F) : Bool := decide (0 ≤ typeIx p f.of) || scalarB f.of
def knownTo (p : Pt) (fs : List F) (n : Nat) : Bool := (List.range n).all fun i => knownF p (fth fs i)
theorem knownTo_succ (p : Pt) (fs : List F) (n : Nat) : knownTo p fs (n + 1) = (knownTo p fs n && knownF p (fth fs n)) := by simp [knownTo, List.range_succ]
set_option maxHeartbeats 1600000 in
theorem isTypeKnown_any (p : Pt) (t : T) (w : World) (B : Nat) (v u : Value) (hP : PRep w (· < B) p v) (hR : TRep w (· < B) t u) (hB : B ≤ w.heap.size) :
    Calls Try.prog 62 #[v, u] w fun e w' => e = .returned (.bool (knownTo p t.fields t.fields.length)) ∧ Below w.heap.size w w' := by
  have hP' := hP
  obtain ⟨pname, types⟩ := p
  obtain ⟨ta, tc, rfl, -, -, -⟩ := hP
  obtain ⟨name, key, fields⟩ := t
  obtain ⟨fa, fc, rfl, hK, hnc, hn, ho⟩ := hR
  simp only at hK hnc hn ho hP' ⊢
  have h3 := hK.1
  go_enter Try.func62, Try.ntmps62
  go_wp2_with fail
  go_loopw [12] (fun i wr => ∃ k : Nat, k ≤ fields.length ∧ i = .int .i64 k ∧ Below (w.heap.size + 1) (w.alloc (.cells #[.string pname, .slice ta types.length tc] 25)) wr ∧ w.heap.size < wr.heap.size ∧ knownTo ⟨pname, types⟩ fields k = true) (fun i _ => fields.length - (intOf i).toNat)
  case atStart => exact ⟨0, Nat.zero_le _, rfl, (Below.refl _ _).alloc (by simp) _, by simp; omega, rfl⟩
  case round =>
    obtain ⟨k, hk, rfl, hbel, hz, hp⟩ := hrel
    have HP : Hid (knownTo ⟨pname, types⟩ fields k = true) := hp
    clear hp
    have hbw : Below w.heap.size w wr := (below_box w _).trans (hbel.mono (by omega))
    have hcell : ∀ W, Below (w.heap.size + 1) (w.alloc (.cells #[.string pname, .slice ta types.length tc] 25)) W → W.cell? ⟨w.heap.size, 0, none⟩ = some (.string pname) ∧ W.cell? ⟨w.heap.size, 1, none⟩ = some (.slice ta types.length tc) := fun W h =>
      ⟨(h.cell (p := ⟨w.heap.size, 0, none⟩) (by show w.heap.size < _; omega)).trans (box_new _ _ 0 (by simp)), (h.cell (p := ⟨w.heap.size, 1, none⟩) (by show w.heap.size < _; omega)).trans (box_new _ _ 1 (by simp))⟩
    by_cases hlt : k < fields.length
    · obtain ⟨b, off, na, nc, rfl, hfr, hcs⟩ := hK.at hB k hlt
      obtain ⟨c0, c1, c2, c3, c4, c5, c6, c7⟩ := hcs wr hbw
      have q := fun o => hcell (wr.alloc o) (hbel.alloc (by omega) o)
      have q0 := fun o => (q o).1
      have q1 := fun o => (q o).2
      have hft := fun o => findType_any ⟨pname, types⟩ (wr.alloc o) B _ (fth fields k).of (hP'.under ((hbw.alloc (by omega) o).mono hB)) (by simp; omega)
      have hL := fun w => isLeaf_any (fth fields k).of w
      have hB5 := fun w1 o (hb1 : Below (wr.alloc o).heap.size (wr.alloc o) w1) => (hb1.cell (p := ⟨wr.heap.size, 1, none⟩) (by show wr.heap.size < _; simp))
      clear hcs q
      have HK : Hid (knownF ⟨pname, types⟩ (fth fields k) = (decide (0 ≤ typeIx ⟨pname, types⟩ (fth fields k).of) || scalarB (fth fields k).of)) := rfl
      cases x1 : decide (0 ≤ typeIx ⟨pname, types⟩ (fth fields k).of)
      · rw [x1] at hft
        cases x2 : scalarB (fth fields k).of
        · rw [x2] at hL
          have hres : Hid (knownTo ⟨pname, types⟩ fields fields.length = false) := all_false (k := k) hlt (by rw [HK.out, x1, x2]; rfl)
          go_wp2_with (first
            | (
              go_at_call 23
              refine (hft _).mono ?_
              rintro e w1 ⟨nm, ky, fa2, fl2, fc2, rfl, hb1, -⟩
              have z1 := hb1.size
              simp at z1
              have g1 : ∀ o, (w1.alloc o).cell? ⟨wr.heap.size, 1, none⟩ = some (.string (fth fields k).of) := fun o => ((below_box w1 o).cell (p := ⟨wr.heap.size, 1, none⟩) (by show wr.heap.size < _; omega)).trans ((hB5 w1 _ hb1).trans (box_new _ _ 1 (by simp))))
            | (go_at_call 78; refine (hL _).mono ?_; rintro e w' ⟨rfl, rfl⟩))
          go_ret
          exact ⟨ret_bool hres.out.symm, ((hbw.alloc (by omega) _).trans (hb1.mono (by simp; omega))).alloc (by omega) _⟩
        · rw [x2] at hL
          go_wp2_with (first
            | (
              go_at_call 23
              refine (hft _).mono ?_
              rintro e w1 ⟨nm, ky, fa2, fl2, fc2, rfl, hb1, -⟩
              have z1 := hb1.size
              simp at z1
              have g1 : ∀ o, (w1.alloc o).cell? ⟨wr.heap.size, 1, none⟩ = some (.string (fth fields k).of) := fun o => ((below_box w1 o).cell (p := ⟨wr.heap.size, 1, none⟩) (by show wr.heap.size < _; omega)).trans ((hB5 w1 _ hb1).trans (box_new _ _ 1 (by simp))))
            | (go_at_call 78; refine (hL _).mono ?_; rintro e w' ⟨rfl, rfl⟩))
          go_roundw
          case rel => exact ⟨k + 1, by omega, by go_num, ((hbel.alloc (by omega) _).trans (hb1.mono (by simp; omega))).alloc (by omega) _, by simp; omega, by rw [knownTo_succ, HP.out, HK.out, x1, x2]; rfl⟩
          case measure => simp [intOf]; omega
      · rw [x1] at hft
        go_wp2_with (go_at_call 23; refine (hft _).mono ?_; rintro e w1 ⟨nm, ky, fa2, fl2, fc2, rfl, hb1, -⟩)
        have z1 := hb1.size
        simp at z1
        go_roundw
        case rel => exact ⟨k + 1, by omega, by go_num, ((hbel.alloc (by omega) _).trans (hb1.mono (by simp; omega))).alloc (by omega) _, by simp; omega, by rw [knownTo_succ, HP.out, HK.out, x1]; rfl⟩
        case measure => simp [intOf]; omega
    · go_wp2_with fail
      go_ret
      have e : k = fields.length := by omega
      exact ⟨ret_bool (by rw [← e, HP.out]), hbw⟩
def hasRootB (p : Pt) : Bool := decide (0 < p.types.length) && isT (tth p.types 0).name [113, 117, 101, 114, 121] && (tth p.types 0).key.toList.isEmpty
set_option maxHeartbeats 800000 in
theorem hasRoot_any (p : Pt) (w : World) (B : Nat) (v : Value) (hP : PRep w (· < B) p v) (hB : B ≤ w.heap.size) :
    Calls Try.prog 36 #[v] w fun e w' => e = .returned (.bool (hasRootB p)) ∧ Below w.heap.size w w' := by
  obtain ⟨pname, types⟩ := p
  obtain ⟨ta, tc, rfl, hK, -, -⟩ := hP
  simp only at hK
  have h3 := hK.1
  by_cases h0 : 0 < types.length
  · have d1 : (0 : Int) < (types.length : Int) := by omega
    obtain ⟨b, off, fa, fc, rfl, -, hcs⟩ := hK.at hB 0 h0
    have q := fun o => hcs (w.alloc o) (below_box w o)
    have q0 : ∀ o, (w.alloc o).cell? ⟨b, off, none⟩ = some (.string (tth types 0).name) := fun o => by simpa using (q o).1
    have q1 : ∀ o, (w.alloc o).cell? ⟨b, off + 1, none⟩ = some (.string (tth types 0).key) := fun o => by simpa using (q o).2.1
    clear q hcs hK
    have HR : Hid (hasRootB ⟨pname, types⟩ = ((tth types 0).name.toList == [113, 117, 101, 114, 121] && (tth types 0).key.toList.isEmpty)) := by show _ = _; simp [hasRootB, isT, h0]
    cases x1 : ((tth types 0).name.toList == [113, 117, 101, 114, 121])
    · go_enter Try.func36, Try.ntmps36
      go_wp2_with fail
      go_ret
      exact ⟨ret_bool (by rw [HR.out, x1]; rfl), below_box _ _⟩
    · go_enter Try.func36, Try.ntmps36
      go_wp2_with fail
      go_ret
      exact ⟨ret_bool (by rw [HR.out, x1]; simp), below_box _ _⟩
  · have d1 : decide ((0 : Int) < (types.length : Int)) = false := decide_eq_false (by omega)
    have d2 : decide (0 < types.length) = false := decide_eq_false (by omega)
    have HR : Hid (hasRootB ⟨pname, types⟩ = false) := by show _ = _; simp only [hasRootB, d2, Bool.false_and]
    clear h0
    go_enter Try.func36, Try.ntmps36
    go_wp2_with fail
    go_ret
    exact ⟨ret_bool HR.out.symm, below_box _ _⟩
end Go.Proofs.Ytdohgkokoicjlaa
namespace Go.Proofs.Ytdohgkokoicjlaa
open Go.RowKit Go.Maps
theorem of_block (W : World) (rb cb q g : Nat) (hR : RdOk W rb cb q) (hq : q ≤ 100000) (ns : List ByteArray) (h0 : 0 < ns.length) (hl : ns.length ≤ 10) (hs : ∀ s ∈ ns, s.size ≤ 12) (hb : W.heap[g]? = some (.cells (ns.map Value.string).toArray 9 (0, 0))) (hg : g ≠ rb) :
    Calls Try.prog 19 #[.pointer (some ⟨rb, 0, none⟩), .slice (some ⟨g, 0, none⟩) ns.length ns.length] W fun e w' => ∃ s : ByteArray, e = .returned (.string s) ∧ s.size ≤ 12 ∧ RdOk w' rb cb (q + 1) ∧ Only (· = rb) W w' := by
  have hn : ∀ i, i < ns.length → (nth ns i) ∈ ns := fun i hi => by simp [nth, List.getD_eq_getElem?_getD, hi]
  have hS : Strs W (· = g) ns (some ⟨g, 0, none⟩) := by
    refine ⟨fun _ => ⟨_, 0, rfl, rfl, fun i hi => ?_⟩, fun i => ?_, by unfold maxLen; omega⟩
    · rw [Nat.zero_add, cell_of_row _ _ _ _ _ _ hb]
      simp [nth, List.getD_eq_getElem?_getD, hi]
    · by_cases hi : i < ns.length
      · have := hs _ (hn i hi); unfold maxLen; omega
      · simp [nth, List.getD_eq_getElem?_getD, hi]
  refine (of_any W rb cb q ns _ ns.length (· = g) hR (by omega) hS (fun b hb' => by have hb' : b = g := hb'; subst hb'; exact ⟨(Array.getElem?_eq_some_iff.1 hb).1, hg⟩) h0 (by omega)).mono ?_
  rintro e w' ⟨k, hk, rfl, h1, h2, h3⟩
  exact ⟨_, rfl, hs _ (hn k hk), h1, h2⟩
end Go.Proofs.Ytdohgkokoicjlaa
namespace Go.Proofs.Ytdohgkokoicjlaa
open Go.RowKit Go.Deep Go.ChangeShapes Go.WideShapes
theorem Try.cells5 : Try.prog.cellsOf 5 = 1 := by kernel_rfl
theorem Try.bytes5 : Try.prog.bytesOf 5 = 1 := by kernel_rfl
section
variable {H : Type} {enc : TypeId × Value → H} {w : World}
set_option maxRecDepth 20000 in
theorem slice_form {b0 : Nat} {v : Value} (hv : Value.okWide Try.prog w .any b0 22 v) (a : Option Addr) (n c : Nat) (hf : v = .slice a n c) : a = none ∨ ∃ b o, a = some ⟨b, o, none⟩ := by
  subst hf
  rcases a with _ | ⟨b, o, s⟩
  · exact Or.inl rfl
  · right
    simp only [Value.okWide, Try.underlying22, Cell.okWide, Cell.ok, World.has] at hv
    obtain ⟨-, -, -, h, -⟩ := hv
    exact ⟨b, o, by rw [h]⟩
set_option maxRecDepth 20000 in
theorem code_new {fuel b0 : Nat} {c : Value} {x : DataW H × List MemPlace} (h : DataW.trod enc Try.prog w 0 (fun _ => true) true fuel 22 [c] = some x) (hl : Light 22 x.1) (hv : Value.okWide Try.prog w .any b0 22 c) :
    ∃ (n cap cb : Nat) (a : Option Addr), c = .slice a n cap ∧ ∀ o, CodeOk (w.alloc o) cb c n := by
  have hcap : ∀ a n cap, c = .slice a n cap → cap ≤ maxLen := fun a n cap e => by
    subst e
    rcases DataW.trod_slice Try.underlying22 h with ⟨hc0, -⟩ | ⟨a', len, cap', elems, rest, n', hfu, hc0, -, -, hlc, hcm, -⟩
    · simp at hc0; omega
    · simp at hc0; omega
  obtain ⟨ns, na, nc, C, rfl, hnc, hb, hA, hr⟩ := rows_open (0 : Int) (fun n cs => cs = [.int .u8 n] ∧ (Lit.int .u8 n).wf = true) 22 5 1 1 Try.underlying22 Try.cells5 Try.bytes5 (by omega) h hl (fun m cs y hy _ => by
    obtain ⟨n, rfl, -, hw⟩ := DataW.trod_int Try.underlying5 hy
    exact ⟨rfl, n, rfl, hw⟩)
  have hform := slice_form hv na ns.length nc rfl
  have hm := hcap _ _ _ rfl
  rcases Nat.eq_zero_or_pos ns.length with h0 | h0
  · exact ⟨ns.length, nc, 0, na, rfl, fun o => ⟨na, nc, 0, rfl, hnc, hm, by simp, fun h => by omega, hform, fun i hi => by omega⟩⟩
  · obtain ⟨b, off, e, hlt, hc⟩ := hA h0
    refine ⟨ns.length, nc, b, na, rfl, fun o => ⟨na, nc, off, rfl, hnc, hm, by simp; omega, fun _ => e, Or.inr ⟨b, off, e⟩, fun i hi => ?_⟩⟩
    have h1 := hc i hi 0 (by omega)
    obtain ⟨h2, hw⟩ := hr i hi
    simp only [List.range, List.range.loop, List.map_cons, List.map_nil, List.cons.injEq, and_true] at h2
    rw [h2] at h1
    have hw2 : 0 ≤ ns.getD i 0 ∧ ns.getD i 0 ≤ 255 := by
      have h3 := hw
      simp [Lit.wf] at h3
      first | exact h3 | (simp [IntKind.min, IntKind.max] at h3; omega)
    refine ⟨(ns.getD i 0).toNat, by omega, ?_⟩
    rw [Nat.mul_one, Nat.add_zero] at h1
    rw [(below_box w o).cell (p := ⟨b, off + i, none⟩) hlt, h1, Int.toNat_of_nonneg hw2.1]
end
end Go.Proofs.Ytdohgkokoicjlaa
