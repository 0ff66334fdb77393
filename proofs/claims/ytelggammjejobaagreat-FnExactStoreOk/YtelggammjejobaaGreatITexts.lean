import Derived.Test.YtelggammjejobaaGreatIMarks
import Derived.Test.YtelggammjejobaaGreatPLine
import Derived.Test.YtelggammjejobaaGreatIShelf
import Derived.Deep.RegionHeld3
import Derived.Deep.DeepCutAuto
import Derived.Test.YtelggammjejobaaGreatITypes
namespace Go.Proofs.YtelggammjejobaaGreat
set_option linter.unusedSimpArgs false
set_option linter.unusedVariables false
open Go.RowKit

theorem word_far (w : World) : Calls Tryz.prog 95 #[.int .u8 4] w fun e w' => e = .returned (.string ⟨#[102, 97, 114]⟩) ∧ w = w' := by
  go_enter Tryz.func95, Tryz.ntmps95
  go_wp2_with fail
  go_ret
  exact ⟨rfl, rfl⟩
theorem word_hidden (w : World) : Calls Tryz.prog 95 #[.int .u8 8] w fun e w' => e = .returned (.string ⟨#[104, 105, 100, 100, 101, 110]⟩) ∧ w = w' := by
  go_enter Tryz.func95, Tryz.ntmps95
  go_wp2_with fail
  go_ret
  exact ⟨rfl, rfl⟩
theorem word_shared (w : World) : Calls Tryz.prog 95 #[.int .u8 16] w fun e w' => e = .returned (.string ⟨#[115, 104, 97, 114, 101, 100]⟩) ∧ w = w' := by
  go_enter Tryz.func95, Tryz.ntmps95
  go_wp2_with fail
  go_ret
  exact ⟨rfl, rfl⟩

set_option maxHeartbeats 800000 in
theorem ofText_any (nm of : ByteArray) (l m fr hi sh : Bool) (needs : List ByteArray) (na : Option Addr) (nl nc : Nat) (w : World) (hs : of.size ≤ 1048576) :
    Calls Tryz.prog 94 #[.agg #[.int .u8 (bitsF l m fr hi sh), .string nm, .string of, .bool l, .bool m, .bool fr, .bool hi, .bool sh, .slice na nl nc]] w fun e w' => e = .returned (.string (ofB ⟨nm, of, l, m, fr, hi, sh, needs⟩)) ∧ Below w.heap.size w w' := by
  have h1 := fun w => hasAll_any (bitsF l m fr hi sh) 1 w
  have h2 := fun w => hasAll_any (bitsF l m fr hi sh) 2 w
  rw [bits_list] at h1
  rw [bits_must] at h2
  generalize bitsF l m fr hi sh = x at *
  have b1 : of.size + 1 ≤ 9223372036854775807 := by omega
  have b2 : of.size + 1 + 1 ≤ 9223372036854775807 := by omega
  have b3 : 1 + of.size + 1 + 1 ≤ 9223372036854775807 := by omega
  have b4 : 1 + of.size + 1 ≤ 9223372036854775807 := by omega
  have b5 : 1 + of.size ≤ 9223372036854775807 := by omega
  cases l <;> cases m
  all_goals
    go_enter Tryz.func94, Tryz.ntmps94
    go_wp2_with (first | (go_at_call_of 89 (Value.int IntKind.u8 1); refine (h1 _).mono ?_; rintro e w' ⟨rfl, rfl⟩) | (go_at_call_of 89 (Value.int IntKind.u8 2); refine (h2 _).mono ?_; rintro e w' ⟨rfl, rfl⟩))
    go_ret
    exact ⟨rfl, below_box _ _⟩
end Go.Proofs.YtelggammjejobaaGreat

namespace Go.Proofs.YtelggammjejobaaGreat
set_option linter.unusedSimpArgs false
set_option linter.unusedVariables false
open Go.RowKit

/-- A field's text as far as so many of its marks are written. -/
def stepB (f : F) : Nat → ByteArray
  | 0 => headB f
  | 1 => farB f
  | 2 => hidB f
  | _ => shaB f
def bitOf : Nat → Int
  | 0 => 4
  | 1 => 8
  | 2 => 16
  | _ => 32

theorem step_size (f : F) (j : Nat) : (stepB f j).size ≤ f.name.size + f.of.size + 32 := by
  have h := ofB_size f
  have h0 : (headB f).size ≤ f.name.size + f.of.size + 6 := by unfold headB; simp only [ByteArray.size_append, sz_lit, List.size_toArray, List.length_cons, List.length_nil]; omega
  have h1 : (farB f).size ≤ f.name.size + f.of.size + 10 := by unfold farB; split <;> (first | simp only [ByteArray.size_append, sz_lit, List.size_toArray, List.length_cons, List.length_nil] | skip) <;> omega
  have h2 : (hidB f).size ≤ f.name.size + f.of.size + 17 := by unfold hidB; split <;> (first | simp only [ByteArray.size_append, sz_lit, List.size_toArray, List.length_cons, List.length_nil] | skip) <;> omega
  have h3 : (shaB f).size ≤ f.name.size + f.of.size + 24 := by unfold shaB; split <;> (first | simp only [ByteArray.size_append, sz_lit, List.size_toArray, List.length_cons, List.length_nil] | skip) <;> omega
  match j with
  | 0 => show (headB f).size ≤ _; omega
  | 1 => show (farB f).size ≤ _; omega
  | 2 => show (hidB f).size ≤ _; omega
  | j + 3 => show (shaB f).size ≤ _; omega

theorem append_toList (a b : ByteArray) : (a ++ b).data.toList = a.data.toList ++ b.data.toList := by simp

theorem fits_more (bs : List UInt8) (a s : ByteArray) (h1 : bs.length ≤ 70368744177664) (h2 : a.size ≤ 4194304) (h3 : s.size ≤ 4194304) : (bs ++ a.data.toList).length + s.size ≤ 140737488355328 := by
  have h : a.data.toList.length = a.size := Array.length_toList
  rw [List.length_append, h]
  omega

/-- What is needed, each behind a space. -/
def tailL (ns : List ByteArray) : List UInt8 := (ns.map fun b => 32 :: b.data.toList).flatten
theorem tailL_append (xs ys : List ByteArray) : tailL (xs ++ ys) = tailL xs ++ tailL ys := by simp [tailL]
theorem lineTo_tail (f : F) : ∀ k, k ≤ f.needs.length → (lineTo f k).data.toList = (markB f).data.toList ++ tailL (f.needs.take k)
  | 0, _ => by simp [lineTo, tailL]
  | k + 1, h => by
    have e : nth f.needs k = f.needs[k] := by simp [nth, List.getD_eq_getElem?_getD, show k < f.needs.length by omega]
    rw [lineTo, append_toList, append_toList, lineTo_tail f k (by omega), List.take_succ_eq_append_getElem (by omega), tailL_append, ← e]
    have e2 : tailL [nth f.needs k] = 32 :: (nth f.needs k).data.toList := by simp [tailL]
    rw [e2]
    simp
theorem join_tail (ns : List ByteArray) (h : ns ≠ []) : 32 :: Lib.join (ns.map (·.data.toList)) [32] = tailL ns := by
  cases ns with
  | nil => exact absurd rfl h
  | cons x r => simp [Lib.join_cons, Lib.joinTail, tailL, Function.comp_def]

theorem ownsRowF_kept {w w' : World} {base : Nat} {e : TypeId} {size : Nat} {v : Value} {n : Nat} {xs : List Value} (h : w.ownsRowF base e size v n xs) (hb : Below w.heap.size w w') : w'.ownsRowF base e size v n xs := by
  refine ⟨h.1, ?_⟩
  rcases h.2 with h2 | ⟨g, cap, cur, fz, h2, h3, h4, h5⟩
  · exact Or.inl h2
  · exact Or.inr ⟨g, cap, cur, fz, h2, h3, (hb.block g (Array.getElem?_eq_some_iff.1 h4).1).trans h4, h5⟩
theorem kept_below {b : Nat} {w w' : World} (hb : Below w.heap.size w w') : Kept b w w' := fun k o hk _ _ => (hb.block k (Array.getElem?_eq_some_iff.1 hk).1).trans hk
theorem Kept.trans {b : Nat} {a c d : World} (h : Kept b a c) (k : Kept b c d) : Kept b a d := Lib.OthersKept.trans h k
theorem Bld.kept {B b : Nat} {l : List UInt8} {w w' : World} (h : Bld B b l w) (hb : Below w.heap.size w w') : Bld B b l w' := by
  have key : ∀ p, Lib.BuilderAtF 114 5 B b p (Lib.byteCells l) w → Lib.BuilderAtF 114 5 B b p (Lib.byteCells l) w' := fun p ⟨h1, v, h2, h3, h4⟩ =>
    ⟨h1, v, (hb.block b (Array.getElem?_eq_some_iff.1 h2).1).trans h2, ownsRowF_kept h3 hb, h4⟩
  rcases h with h | h
  · exact Or.inl (key _ h)
  · exact Or.inr (key _ h)

set_option maxHeartbeats 1600000 in
theorem writeField_any (nm of : ByteArray) (l m fr hi sh : Bool) (needs : List ByteArray) (na : Option Addr) (nc : Nat) (w : World) (B bb : Nat) (bs : List UInt8) (hb : Bld B bb bs w) (hbb : bb < w.heap.size) (hB : B ≤ w.heap.size) (hs1 : nm.size ≤ 1048576) (hs2 : of.size ≤ 1048576) (hlen : bs.length ≤ 70368744177664) (hS : Strs w (· < B) needs na) (hnc : needs.length ≤ nc) (hsn : szNs needs ≤ 1048576) :
    Calls Tryz.prog 66 #[.pointer (some ⟨bb, 0, none⟩), .agg #[.int .u8 (bitsF l m fr hi sh), .string nm, .string of, .bool l, .bool m, .bool fr, .bool hi, .bool sh, .slice na needs.length nc]] w fun e w' => e = .returned (.tuple #[]) ∧ Bld B bb (bs ++ (lineB ⟨nm, of, l, m, fr, hi, sh, needs⟩).data.toList) w' ∧ Below B w w' ∧ Kept bb w w' := by
  have BM : ∀ W : World, W.heap[w.heap.size]? = some (.cells #[.int .u8 (bitsF l m fr hi sh), .string nm, .string of, .bool l, .bool m, .bool fr, .bool hi, .bool sh, .slice na needs.length nc] 121 (0, 0)) → W.cell? ⟨w.heap.size, 0, none⟩ = some (.int .u8 (bitsF l m fr hi sh)) ∧ W.cell? ⟨w.heap.size, 1, none⟩ = some (.string nm) ∧ W.cell? ⟨w.heap.size, 2, none⟩ = some (.string of) ∧ W.cell? ⟨w.heap.size, 3, none⟩ = some (.bool l) ∧ W.cell? ⟨w.heap.size, 4, none⟩ = some (.bool m) ∧ W.cell? ⟨w.heap.size, 5, none⟩ = some (.bool fr) ∧ W.cell? ⟨w.heap.size, 6, none⟩ = some (.bool hi) ∧ W.cell? ⟨w.heap.size, 7, none⟩ = some (.bool sh) ∧ W.cell? ⟨w.heap.size, 8, none⟩ = some (.slice na needs.length nc) := fun W h =>
    ⟨(box_at h 0 (by simp)).1, (box_at h 1 (by simp)).1, (box_at h 2 (by simp)).1, (box_at h 3 (by simp)).1, (box_at h 4 (by simp)).1, (box_at h 5 (by simp)).1, (box_at h 6 (by simp)).1, (box_at h 7 (by simp)).1, (box_at h 8 (by simp)).1⟩
  have hbx := heap_alloc_new w (.cells #[.int .u8 (bitsF l m fr hi sh), .string nm, .string of, .bool l, .bool m, .bool fr, .bool hi, .bool sh, .slice na needs.length nc] 121)
  have hof := fun w => ofText_any nm of l m fr hi sh needs na needs.length nc w hs2
  have ha4 := bits_far l m fr hi sh
  have ha8 := bits_hidden l m fr hi sh
  have ha16 := bits_shared l m fr hi sh
  generalize bitsF l m fr hi sh = x at *
  obtain ⟨p0, p1, p2, p3, p4, p5, p6, p7, p8⟩ := BM _ hbx
  have hzo := ofB_size ⟨nm, of, l, m, fr, hi, sh, needs⟩
  simp only at hzo
  have HOF : Hid (ofB ⟨nm, of, l, m, fr, hi, sh, needs⟩ = ofB ⟨nm, of, l, m, fr, hi, sh, needs⟩) := rfl
  generalize hoe : ofB ⟨nm, of, l, m, fr, hi, sh, needs⟩ = ot at *
  have b1 : 2 + nm.size ≤ 9223372036854775807 := by omega
  have b2 : 2 + nm.size + 1 ≤ 9223372036854775807 := by omega
  have b3 : 2 + nm.size + 1 + ot.size ≤ 9223372036854775807 := by omega
  have hbld : ∀ W, Below (w.alloc (.cells #[.int .u8 x, .string nm, .string of, .bool l, .bool m, .bool fr, .bool hi, .bool sh, .slice na needs.length nc] 121)).heap.size (w.alloc (.cells #[.int .u8 x, .string nm, .string of, .bool l, .bool m, .bool fr, .bool hi, .bool sh, .slice na needs.length nc] 121)) W → Bld B bb bs W := fun W h => hb.kept ((below_box w _).trans (h.mono (by simp)))
  go_enter Tryz.func66, Tryz.ntmps66
  go_upto_region 1 with fail
  go_cut [] (fun wx => Bld B bb (bs ++ (⟨#[32, 32]⟩ ++ nm ++ ⟨#[32]⟩ ++ ot : ByteArray).data.toList) wx ∧ Below B w wx ∧ Kept bb w wx ∧ wx.heap[w.heap.size]? = some (.cells #[.int .u8 x, .string nm, .string of, .bool l, .bool m, .bool fr, .bool hi, .bool sh, .slice na needs.length nc] 121 (0, 0)))
  case first =>
    go_region_with (first
      | (
        go_at_call 94
        refine (hof _).mono ?_
        rintro e w1 ⟨rfl, hb1⟩
        have hu1 := below_undrew hb1
        have hk1 := (hu1.block w.heap.size (by simp)).trans hbx
        obtain ⟨q0, q1, q2, q3, q4, q5, q6, q7, q8⟩ := BM w1 hk1
        have z1 := hu1.size
        simp at z1
        have hbd1 := hbld w1 hu1)
      | (
        go_at_call 64
        refine (bldString_any B bb bs _ w1 hbd1 ?_ (by omega)).mono ?_
        · simp only [ByteArray.size_append, sz_lit, List.size_toArray, List.length_cons, List.length_nil]
          omega
        rintro e w2 ⟨rfl, hbd2, hbe2, hke2⟩
        have hk2 := hke2.block hk1 (by omega) (by decide)
        obtain ⟨r0, r1, r2, r3, r4, r5, r6, r7, r8⟩ := BM w2 hk2))
    all_goals
      go_wp2_with fail
      go_meet
      case rel => exact ⟨hbd2, ((below_box w _).mono hB).trans ((hu1.mono (by simp; omega)).trans hbe2), (kept_below ((below_box w _).trans (hu1.mono (by simp)))).trans hke2, hk2⟩
  case rest =>
    obtain ⟨hbd, hbe, hke, hkb⟩ := hcut
    have hsz : B ≤ wc.heap.size := Nat.le_trans hB hbe.size
    have hbd0 : Bld B bb (bs ++ (stepB ⟨nm, of, l, m, fr, hi, sh, needs⟩ 0).data.toList) wc := by
      show Bld B bb (bs ++ (headB ⟨nm, of, l, m, fr, hi, sh, needs⟩).data.toList) wc
      rw [headB, hoe]; exact hbd
    clear hbd hof hbx hbld hb p0 p1 p2 p3 p4 p5 p6 p7 p8 b1 b2 b3 HOF
    go_wp2_with fail
    go_loopw [4] (fun i wr => ∃ j : Nat, j ≤ 3 ∧ i = .int .u8 (bitOf j) ∧ Bld B bb (bs ++ (stepB ⟨nm, of, l, m, fr, hi, sh, needs⟩ j).data.toList) wr ∧ Below B w wr ∧ Kept bb w wr ∧ wr.heap[w.heap.size]? = some (.cells #[.int .u8 x, .string nm, .string of, .bool l, .bool m, .bool fr, .bool hi, .bool sh, .slice na needs.length nc] 121 (0, 0)) ∧ B ≤ wr.heap.size) (fun i _ => 32 - (intOf i).toNat)
    case atStart => exact ⟨0, by omega, rfl, hbd0, hbe, hke, hkb, hsz⟩
    case round =>
      clear hbd0 hbe hke hkb hsz
      obtain ⟨j, hj, rfl, hbd, hbe, hke, hkb, hsz⟩ := hrel
      obtain ⟨p0, p1, p2, p3, p4, p5, p6, p7, p8⟩ := BM wr hkb
      have hj4 : j = 0 ∨ j = 1 ∨ j = 2 ∨ j = 3 := by omega
      rcases hj4 with rfl | rfl | rfl | rfl
      · -- the bit 4
        have hA := fun w => hasAll_any x 4 w
        rw [ha4] at hA
        cases fr
        · go_wp2_with (go_at_call 89; refine (hA _).mono ?_; rintro e w' ⟨rfl, rfl⟩)
          go_roundw
          case rel => exact ⟨1, by omega, by rfl, hbd, hbe, hke, hkb, hsz⟩
          case measure => simp [intOf, bitOf]
        · go_wp2_with (first
            | (go_at_call 89; refine (hA _).mono ?_; rintro e w' ⟨rfl, rfl⟩)
            | (go_at_call 95; refine (word_far _).mono ?_; rintro e w' ⟨rfl, rfl⟩)
            | (
              go_at_call 64
              refine (bldString_any B bb _ _ wr hbd ?_ hsz).mono ?_
              · exact fits_more _ _ _ hlen (by have := step_size ⟨nm, of, l, m, true, hi, sh, needs⟩ 0; simp only at this; omega) (by simp [ByteArray.size_append, sz_lit])
              rintro e w2 ⟨rfl, hbd2, hbe2, hke2⟩
              have hkb2 := hke2.block hkb (by omega) (by decide)))
          go_roundw
          case rel =>
            refine ⟨1, by omega, by rfl, ?_, hbe.trans hbe2, hke.trans hke2, hkb2, Nat.le_trans hsz hbe2.size⟩
            rw [List.append_assoc, ← append_toList] at hbd2
            exact hbd2
          case measure => simp [intOf, bitOf]
      · -- the bit 8
        have hA := fun w => hasAll_any x 8 w
        rw [ha8] at hA
        cases hi
        · go_wp2_with (go_at_call 89; refine (hA _).mono ?_; rintro e w' ⟨rfl, rfl⟩)
          go_roundw
          case rel => exact ⟨2, by omega, by rfl, hbd, hbe, hke, hkb, hsz⟩
          case measure => simp [intOf, bitOf]
        · go_wp2_with (first
            | (go_at_call 89; refine (hA _).mono ?_; rintro e w' ⟨rfl, rfl⟩)
            | (go_at_call 95; refine (word_hidden _).mono ?_; rintro e w' ⟨rfl, rfl⟩)
            | (
              go_at_call 64
              refine (bldString_any B bb _ _ wr hbd ?_ hsz).mono ?_
              · exact fits_more _ _ _ hlen (by have := step_size ⟨nm, of, l, m, fr, true, sh, needs⟩ 1; simp only at this; omega) (by simp [ByteArray.size_append, sz_lit])
              rintro e w2 ⟨rfl, hbd2, hbe2, hke2⟩
              have hkb2 := hke2.block hkb (by omega) (by decide)))
          go_roundw
          case rel =>
            refine ⟨2, by omega, by rfl, ?_, hbe.trans hbe2, hke.trans hke2, hkb2, Nat.le_trans hsz hbe2.size⟩
            rw [List.append_assoc, ← append_toList] at hbd2
            exact hbd2
          case measure => simp [intOf, bitOf]
      · -- the bit 16
        have hA := fun w => hasAll_any x 16 w
        rw [ha16] at hA
        cases sh
        · go_wp2_with (go_at_call 89; refine (hA _).mono ?_; rintro e w' ⟨rfl, rfl⟩)
          go_roundw
          case rel => exact ⟨3, by omega, by rfl, hbd, hbe, hke, hkb, hsz⟩
          case measure => simp [intOf, bitOf]
        · go_wp2_with (first
            | (go_at_call 89; refine (hA _).mono ?_; rintro e w' ⟨rfl, rfl⟩)
            | (go_at_call 95; refine (word_shared _).mono ?_; rintro e w' ⟨rfl, rfl⟩)
            | (
              go_at_call 64
              refine (bldString_any B bb _ _ wr hbd ?_ hsz).mono ?_
              · exact fits_more _ _ _ hlen (by have := step_size ⟨nm, of, l, m, fr, hi, true, needs⟩ 2; simp only at this; omega) (by simp [ByteArray.size_append, sz_lit])
              rintro e w2 ⟨rfl, hbd2, hbe2, hke2⟩
              have hkb2 := hke2.block hkb (by omega) (by decide)))
          go_roundw
          case rel =>
            refine ⟨3, by omega, by rfl, ?_, hbe.trans hbe2, hke.trans hke2, hkb2, Nat.le_trans hsz hbe2.size⟩
            rw [List.append_assoc, ← append_toList] at hbd2
            exact hbd2
          case measure => simp [intOf, bitOf]
      · have hz3 := step_size ⟨nm, of, l, m, fr, hi, sh, needs⟩ 3
        simp only at hz3
        by_cases hn0 : needs.length = 0
        · have d1 : decide ((0 : Int) < (needs.length : Int)) = false := decide_eq_false (by omega)
          have d2 : decide (0 < needs.length) = false := decide_eq_false (by omega)
          have HL : Hid ((lineB ⟨nm, of, l, m, fr, hi, sh, needs⟩).data.toList = (stepB ⟨nm, of, l, m, fr, hi, sh, needs⟩ 3).data.toList ++ [10]) := by
            show _ = _
            rw [lineB, append_toList]
            show (lineTo ⟨nm, of, l, m, fr, hi, sh, needs⟩ needs.length).data.toList ++ _ = _
            rw [hn0]
            show (markB ⟨nm, of, l, m, fr, hi, sh, needs⟩).data.toList ++ _ = (shaB ⟨nm, of, l, m, fr, hi, sh, needs⟩).data.toList ++ _
            rw [markB, if_neg (by show ¬ 0 < needs.length; omega)]
          have hwb := bldByte_any B bb _ 10 wr hbd (by
            have h : (stepB ⟨nm, of, l, m, fr, hi, sh, needs⟩ 3).data.toList.length = (stepB ⟨nm, of, l, m, fr, hi, sh, needs⟩ 3).size := Array.length_toList
            rw [List.length_append, h]
            omega) hsz
          rw [show (((10 : UInt8).toNat : Nat) : Int) = 10 from rfl] at hwb
          clear hn0
          go_wp2_with (
            go_at_call 65
            refine hwb.mono ?_
            rintro e w2 ⟨rfl, hbd2, hbe2, hke2⟩)
          refine bodyPost_end (v := .tuple #[]) ?res rfl ⟨rfl, by rw [HL.out, ← List.append_assoc]; exact hbd2, hbe.trans hbe2, hke.trans hke2⟩
          case res => simp [results, Tryz.results66, go_sem]
        · have d1 : (0 : Int) < (needs.length : Int) := by omega
          have hne : needs ≠ [] := by intro e; simp [e] at hn0
          obtain ⟨d, doff, rfl, hdB, hcc⟩ := hS.1 hne
          have htl : (lineTo ⟨nm, of, l, m, fr, hi, sh, needs⟩ needs.length).data.toList = (markB ⟨nm, of, l, m, fr, hi, sh, needs⟩).data.toList ++ tailL needs := by
            have := lineTo_tail ⟨nm, of, l, m, fr, hi, sh, needs⟩ needs.length (Nat.le_refl _)
            rw [this]; simp
          have hmk : (markB ⟨nm, of, l, m, fr, hi, sh, needs⟩).data.toList = (stepB ⟨nm, of, l, m, fr, hi, sh, needs⟩ 3).data.toList ++ [32, 110, 101, 101, 100, 115] := by
            show _ = (shaB ⟨nm, of, l, m, fr, hi, sh, needs⟩).data.toList ++ _
            rw [markB, if_pos (by show 0 < needs.length; omega), append_toList]
          have htz : (tailL needs).length ≤ 4000000 := by
            have h1 := lineTo_size ⟨nm, of, l, m, fr, hi, sh, needs⟩ needs.length
            have h2 : (lineTo ⟨nm, of, l, m, fr, hi, sh, needs⟩ needs.length).data.toList.length = (lineTo ⟨nm, of, l, m, fr, hi, sh, needs⟩ needs.length).size := Array.length_toList
            rw [htl, List.length_append] at h2
            simp only at h1
            have h3 : needs.length + sumTo needs needs.length ≤ 1048576 := hsn
            omega
          have hjt := join_tail needs hne
          have hjl : (Lib.join (needs.map (·.data.toList)) [32]).length + 1 ≤ 4000000 := by
            have := congrArg List.length hjt
            simp only [List.length_cons] at this
            omega
          have HL : Hid ((lineB ⟨nm, of, l, m, fr, hi, sh, needs⟩).data.toList = (stepB ⟨nm, of, l, m, fr, hi, sh, needs⟩ 3).data.toList ++ ([32, 110, 101, 101, 100, 115] ++ (32 :: Lib.join (needs.map (·.data.toList)) [32])) ++ [10]) := by
            show _ = _
            rw [lineB, append_toList]
            show (lineTo ⟨nm, of, l, m, fr, hi, sh, needs⟩ needs.length).data.toList ++ [10] = _
            rw [htl, hmk, hjt]; simp
          have hJ := join_any d doff nc needs ⟨#[32]⟩ wr (fun j y hy => by
            obtain ⟨hjl, rfl⟩ := List.getElem?_eq_some_iff.1 hy
            have := (hbe.cell (p := ⟨d, doff + j, none⟩) hdB).trans (hcc j hjl)
            simpa [nth, List.getD_eq_getElem?_getD, hjl] using this) (by omega) (by have := hS.2.2; have h3 : needs.length + sumTo needs needs.length ≤ 1048576 := hsn; omega) hnc (by
              show (Lib.join (needs.map (·.data.toList)) [32]).length ≤ _
              omega)
          rw [show ((⟨#[32]⟩ : ByteArray).data.toList) = [32] from rfl] at hJ
          clear htl hmk htz hjt hcc hn0
          generalize Lib.join (needs.map (·.data.toList)) [32] = jl at *
          have bj : 7 + (⟨jl.toArray⟩ : ByteArray).size ≤ 9223372036854775807 := by
            have : (⟨jl.toArray⟩ : ByteArray).size = jl.length := by simp [ByteArray.size]
            omega
          have hjs : (⟨jl.toArray⟩ : ByteArray).size = jl.length := by simp [ByteArray.size]
          go_wp2_with (first
            | (
              go_at_call 96
              refine hJ.mono ?_
              rintro e w2 ⟨rfl, hb2⟩
              have hbd2 := hbd.kept hb2
              have hkb2 := (hb2.block w.heap.size (Array.getElem?_eq_some_iff.1 hkb).1).trans hkb
              have hsz2 := Nat.le_trans hsz hb2.size
              obtain ⟨v0, v1, v2, v3, v4, v5, v6, v7, v8⟩ := BM w2 hkb2)
            | (
              go_at_call 64
              refine (bldString_any B bb _ _ w2 hbd2 (fits_more _ _ _ hlen (by omega) (by simp only [ByteArray.size_append, sz_lit, hjs, List.size_toArray, List.length_cons, List.length_nil]; omega)) hsz2).mono ?_
              rintro e w3 ⟨rfl, hbd3, hbe3, hke3⟩
              have hsz3 := Nat.le_trans hsz2 hbe3.size)
            | (
              go_at_call 65
              have hwb := bldByte_any B bb _ 10 w3 hbd3 (by
                have h : (stepB ⟨nm, of, l, m, fr, hi, sh, needs⟩ 3).data.toList.length = (stepB ⟨nm, of, l, m, fr, hi, sh, needs⟩ 3).size := Array.length_toList
                have h2 : ∀ a : ByteArray, a.data.toList.length = a.size := fun a => Array.length_toList
                rw [List.length_append, List.length_append, h, h2]
                simp only [ByteArray.size_append, sz_lit, hjs, List.size_toArray, List.length_cons, List.length_nil]
                omega) hsz3
              rw [show (((10 : UInt8).toNat : Nat) : Int) = 10 from rfl] at hwb
              refine hwb.mono ?_
              rintro e w4 ⟨rfl, hbd4, hbe4, hke4⟩))
          refine bodyPost_end (v := .tuple #[]) ?res rfl ⟨rfl, ?_, (hbe.trans (hb2.mono hsz)).trans (hbe3.trans hbe4), ((hke.trans (kept_below hb2)).trans hke3).trans hke4⟩
          case res => simp [results, Tryz.results66, go_sem]
          rw [HL.out]
          simpa using hbd4
end Go.Proofs.YtelggammjejobaaGreat

namespace Go.Proofs.YtelggammjejobaaGreat
set_option linter.unusedSimpArgs false
set_option linter.unusedVariables false
open Go.RowKit

def fieldsL (fs : List F) : Nat → List UInt8
  | 0 => []
  | n + 1 => fieldsL fs n ++ (lineB (fth fs n)).data.toList
def keyL (t : T) : List UInt8 := if t.key.toList.isEmpty = true then [] else [32, 107, 101, 121, 32] ++ t.key.data.toList
def typeHeadL (t : T) : List UInt8 := [116, 121, 112, 101, 32] ++ t.name.data.toList ++ keyL t ++ [10]
def typesL (ts : List T) : Nat → List UInt8
  | 0 => []
  | n + 1 => typesL ts n ++ (typeHeadL (tth ts n) ++ fieldsL (tth ts n).fields (tth ts n).fields.length)
def partHeadL (p : Pt) : List UInt8 := [112, 97, 114, 116, 32] ++ p.name.data.toList ++ [10]
def partL (p : Pt) : List UInt8 := partHeadL p ++ typesL p.types p.types.length

theorem fieldsL_le (fs : List F) (k : Nat) : ∀ n, k ≤ n → (fieldsL fs k).length ≤ (fieldsL fs n).length
  | 0, h => by rw [show k = 0 by omega]; exact Nat.le_refl _
  | n + 1, h => by
    by_cases e : k = n + 1
    · rw [e]; exact Nat.le_refl _
    · have := fieldsL_le fs k n (by omega); rw [fieldsL, List.length_append]; omega
theorem typesL_le (ts : List T) (k : Nat) : ∀ n, k ≤ n → (typesL ts k).length ≤ (typesL ts n).length
  | 0, h => by rw [show k = 0 by omega]; exact Nat.le_refl _
  | n + 1, h => by
    by_cases e : k = n + 1
    · rw [e]; exact Nat.le_refl _
    · have := typesL_le ts k n (by omega); rw [typesL, List.length_append]; omega

theorem Bld.fresh (w : World) (N : Nat) (hN : w.heap.size = N) : Bld N N [] (w.alloc (.cells #[.pointer none, .slice none 0 0] 114)) := by
  subst hN
  exact Or.inl ⟨Nat.le_refl _, .slice none 0 0, heap_alloc_new w _, ⟨rfl, Or.inl ⟨rfl, rfl⟩⟩, by simp [Value.ownBlock]⟩
theorem le_sum (g : Nat → Nat) (k : Nat) : ∀ n, k < n → g k ≤ ((List.range n).map g).sum
  | 0, h => by omega
  | n + 1, h => by
    rw [List.range_succ, List.map_append, List.sum_append]
    by_cases e : k = n
    · subst e; simp
    · have := le_sum g k n (by omega); omega
theorem szT_le (p : Pt) (k : Nat) (h : k < p.types.length) (hz : szP p ≤ 1048576) : szT (tth p.types k) ≤ 1048576 := by
  have h1 := le_sum (fun i => szT (tth p.types i)) k _ h
  have h2 : p.name.size + (p.types.length + szTsTo p.types p.types.length) ≤ 1048576 := hz
  have h3 : szTsTo p.types p.types.length = ((List.range p.types.length).map fun i => szT (tth p.types i)).sum := rfl
  omega
theorem szF_le (t : T) (k : Nat) (h : k < t.fields.length) (hz : szT t ≤ 1048576) : szF (fth t.fields k) ≤ 1048576 := by
  have h1 := le_sum (fun i => szF (fth t.fields i)) k _ h
  have h2 : t.name.size + t.key.size + (t.fields.length + szFsTo t.fields t.fields.length) ≤ 1048576 := hz
  have h3 : szFsTo t.fields t.fields.length = ((List.range t.fields.length).map fun i => szF (fth t.fields i)).sum := rfl
  omega
theorem tl (a : ByteArray) : a.data.toList.length = a.size := Array.length_toList

set_option maxHeartbeats 3200000 in
theorem partText_any (p : Pt) (w : World) (B : Nat) (v : Value) (hP : PRep w (· < B) p v) (hB : B ≤ w.heap.size) (hz : szP p ≤ 1048576) (hl : (partL p).length ≤ 70368744177664) :
    Calls Tryz.prog 36 #[v] w fun e w' => e = .returned (.string ⟨(partL p).toArray⟩) ∧ Below w.heap.size w w' := by
  obtain ⟨pname, types⟩ := p
  obtain ⟨ta, tc, rfl, hK, hnc, hpn⟩ := hP
  simp only at hK hnc hpn
  have h56 := hK.1
  have hl2 : (partHeadL ⟨pname, types⟩).length + (typesL types types.length).length ≤ 70368744177664 := by rw [← List.length_append]; exact hl
  have hpz : pname.size ≤ 1048576 := by have : pname.size + szTs types ≤ 1048576 := hz; omega
  have HP0 : Hid (partL ⟨pname, types⟩ = partHeadL ⟨pname, types⟩ ++ typesL types types.length) := rfl
  have HH : Hid ((⟨#[112, 97, 114, 116, 32]⟩ ++ pname ++ ⟨#[10]⟩ : ByteArray).data.toList = partHeadL ⟨pname, types⟩) := by show _ = _; rw [append_toList, append_toList]; rfl
  have hfr := Bld.fresh (w.alloc (.cells #[.string pname, .slice ta types.length tc] 31)) (w.heap.size + 1) (by simp)
  have b1 : 5 + pname.size ≤ 9223372036854775807 := by omega
  have b2 : 5 + pname.size + 1 ≤ 9223372036854775807 := by omega
  have PC : ∀ W, Below (w.heap.size + 1) (w.alloc (.cells #[.string pname, .slice ta types.length tc] 31)) W → W.cell? ⟨w.heap.size, 1, none⟩ = some (.slice ta types.length tc) := fun W h => (h.cell (p := ⟨w.heap.size, 1, none⟩) (by show w.heap.size < _; omega)).trans (box_new _ _ 1 (by simp))
  go_enter Tryz.func36, Tryz.ntmps36
  go_wp2_with (
    go_at_call 64
    refine (bldString_any (w.heap.size + 1) (w.heap.size + 1) [] _ _ hfr ?_ (by simp)).mono ?_
    · simp only [List.length_nil, ByteArray.size_append, sz_lit, List.size_toArray, List.length_cons]
      omega
    rintro e w1 ⟨rfl, hbd1, hbe1, hke1⟩
    have hbl1 : Below (w.heap.size + 1) (w.alloc (.cells #[.string pname, .slice ta types.length tc] 31)) w1 := ((Below.refl _ _).alloc (by simp) _).trans hbe1
    have pc1 := PC w1 hbl1)
  rw [List.nil_append, HH.out] at hbd1
  go_loopw [16] (fun i wr => ∃ k : Nat, k ≤ types.length ∧ i = .int .i64 k ∧ Bld (w.heap.size + 1) (w.heap.size + 1) (partHeadL ⟨pname, types⟩ ++ typesL types k) wr ∧ Below (w.heap.size + 1) (w.alloc (.cells #[.string pname, .slice ta types.length tc] 31)) wr ∧ w.heap.size + 1 < wr.heap.size) (fun i _ => types.length - (intOf i).toNat)
  case atStart => exact ⟨0, Nat.zero_le _, rfl, by rw [typesL, List.append_nil]; exact hbd1, hbl1, by have := hbe1.size; simp at this; omega⟩
  case round =>
    clear hbd1 hbe1 hke1 hbl1 pc1
    obtain ⟨k, hk, rfl, hbd, hbl, hsz⟩ := hrel
    obtain ⟨w0, rfl⟩ : ∃ x, x = wr := ⟨wr, rfl⟩
    have hbw : Below w.heap.size w w0 := (below_box w _).trans (hbl.mono (by omega))
    by_cases hlt : k < types.length
    · obtain ⟨b, off, fa, fc, rfl, htr, hcs⟩ := hK.at hB k hlt
      obtain ⟨c0, c1, c2⟩ := hcs w0 hbw
      obtain ⟨fa', fc', e0, e1, e2, hfs, hffc, hs1, hs2⟩ := htr.parts
      simp only [Value.slice.injEq] at e2
      obtain ⟨rfl, -, rfl⟩ := e2
      have hf56 := hfs.1
      have hszT := szT_le ⟨pname, types⟩ k hlt hz
      simp only at hszT
      have hszT2 : (tth types k).name.size + (tth types k).key.size + szFs (tth types k).fields ≤ 1048576 := hszT
      have hlk := typesL_le types (k + 1) _ hlt
      rw [typesL, List.length_append, List.length_append] at hlk
      have HTY : Hid (typeHeadL (tth types k) = [116, 121, 112, 101, 32] ++ (tth types k).name.data.toList ++ keyL (tth types k) ++ [10]) := rfl
      have hthl : (typeHeadL (tth types k)).length = 5 + (tth types k).name.size + (keyL (tth types k)).length + 1 := by rw [HTY.out]; simp only [List.length_append, tl, List.length_cons, List.length_nil]
      have b3 : 5 + (tth types k).name.size ≤ 9223372036854775807 := by omega
      have b4 : 5 + (tth types k).key.size ≤ 9223372036854775807 := by omega
      clear hcs htr e0 e1
      have hbd0 := hbd.kept (below_box w0 (.cells #[.string (tth types k).name, .string (tth types k).key, .slice fa (tth types k).fields.length fc] 54))
      have hW1 := bldString_any (w.heap.size + 1) (w.heap.size + 1) _ (⟨#[116, 121, 112, 101, 32]⟩ ++ (tth types k).name) _ hbd0 (by simp only [List.length_append, ByteArray.size_append, sz_lit, List.size_toArray, List.length_cons, List.length_nil]; omega) (by simp; omega)
      have hk0 := heap_alloc_new w0 (.cells #[.string (tth types k).name, .string (tth types k).key, .slice fa (tth types k).fields.length fc] 54)
      have TC : ∀ W : World, W.heap[w0.heap.size]? = some (.cells #[.string (tth types k).name, .string (tth types k).key, .slice fa (tth types k).fields.length fc] 54 (0, 0)) → W.cell? ⟨w0.heap.size, 1, none⟩ = some (.string (tth types k).key) ∧ W.cell? ⟨w0.heap.size, 2, none⟩ = some (.slice fa (tth types k).fields.length fc) := fun W h => ⟨(box_at h 1 (by simp)).1, (box_at h 2 (by simp)).1⟩
      cases hke : (tth types k).key.toList.isEmpty
      · have hkl : keyL (tth types k) = [32, 107, 101, 121, 32] ++ (tth types k).key.data.toList := by rw [keyL, if_neg (by rw [hke]; simp)]
        have hkll : (keyL (tth types k)).length = 5 + (tth types k).key.size := by rw [hkl]; simp only [List.length_append, tl, List.length_cons, List.length_nil]
        have hW2 := fun W1 (h : Bld (w.heap.size + 1) (w.heap.size + 1) (partHeadL ⟨pname, types⟩ ++ typesL types k ++ (⟨#[116, 121, 112, 101, 32]⟩ ++ (tth types k).name : ByteArray).data.toList) W1) hs => bldString_any (w.heap.size + 1) (w.heap.size + 1) _ (⟨#[32, 107, 101, 121, 32]⟩ ++ (tth types k).key) W1 h (by simp only [List.length_append, ByteArray.size_append, tl, sz_lit, List.size_toArray, List.length_cons, List.length_nil]; omega) hs
        have hW3 := fun W1 (h : Bld (w.heap.size + 1) (w.heap.size + 1) (partHeadL ⟨pname, types⟩ ++ typesL types k ++ (⟨#[116, 121, 112, 101, 32]⟩ ++ (tth types k).name : ByteArray).data.toList ++ (⟨#[32, 107, 101, 121, 32]⟩ ++ (tth types k).key : ByteArray).data.toList) W1) hs => bldByte_any (w.heap.size + 1) (w.heap.size + 1) _ 10 W1 h (by simp only [List.length_append, ByteArray.size_append, tl, sz_lit, List.size_toArray, List.length_cons, List.length_nil]; omega) hs
        go_wp2_with (first
          | (
            go_at_call_of 64 ((tth types k).name)
            refine hW1.mono ?_
            rintro e w1 ⟨rfl, hbd1, hbe1, hke1⟩
            have hk1 := hke1.block hk0 (by omega) (by decide)
            obtain ⟨t11, t12⟩ := TC w1 hk1
            have z1 := hbe1.size
            simp at z1)
          | (
            go_at_call_of 64 ((tth types k).key)
            refine (hW2 w1 hbd1 (by omega)).mono ?_
            rintro e w2 ⟨rfl, hbd2, hbe2, hke2⟩
            have hk2 := hke2.block hk1 (by omega) (by decide)
            obtain ⟨t21, t22⟩ := TC w2 hk2
            have z2 := hbe2.size)
          | (
            go_at_call 65
            have hwb := hW3 w2 hbd2 (by omega)
            rw [show (((10 : UInt8).toNat : Nat) : Int) = 10 from rfl] at hwb
            refine hwb.mono ?_
            rintro e w3 ⟨rfl, hbdX, hbe3, hke3⟩
            have hkX := hke3.block hk2 (by omega) (by decide)
            obtain ⟨t31, t32⟩ := TC w3 hkX))
        · have hblX : Below (w.heap.size + 1) (w.alloc (.cells #[.string pname, .slice (some ⟨b, off, none⟩) types.length tc] 31)) w3 := (((hbl.alloc (by omega) _).trans hbe1).trans hbe2).trans hbe3
          have HTH : Hid (partHeadL ⟨pname, types⟩ ++ typesL types k ++ typeHeadL (tth types k) = partHeadL ⟨pname, types⟩ ++ typesL types k ++ (⟨#[116, 121, 112, 101, 32]⟩ ++ (tth types k).name : ByteArray).data.toList ++ (⟨#[32, 107, 101, 121, 32]⟩ ++ (tth types k).key : ByteArray).data.toList ++ [10]) := by
            show _ = _
            rw [HTY.out, hkl, append_toList, append_toList]; simp
          clear hbd1 hbe1 hke1 hk1 hbd2 hbe2 hke2 hk2 hbe3 hke3 hbd0 hW1 hk0
          go_loopw [35] (fun i w2 => ∃ j : Nat, j ≤ (tth types k).fields.length ∧ i = .int .i64 j ∧ Bld (w.heap.size + 1) (w.heap.size + 1) (partHeadL ⟨pname, types⟩ ++ typesL types k ++ typeHeadL (tth types k) ++ fieldsL (tth types k).fields j) w2 ∧ Below (w.heap.size + 1) (w.alloc (.cells #[.string pname, .slice (some ⟨b, off, none⟩) types.length tc] 31)) w2 ∧ w2.heap[w0.heap.size]? = some (.cells #[.string (tth types k).name, .string (tth types k).key, .slice fa (tth types k).fields.length fc] 54 (0, 0))) (fun i _ => (tth types k).fields.length - (intOf i).toNat)
          case atStart => exact ⟨0, Nat.zero_le _, rfl, by rw [fieldsL, List.append_nil, HTH.out]; exact hbdX, hblX, hkX⟩
          case round =>
            clear hbdX hblX hkX
            obtain ⟨w5, rfl⟩ : ∃ x, x = wr := ⟨wr, rfl⟩
            obtain ⟨j, hj, rfl, hbd5, hbl5, hk5⟩ := hrel
            have hw5 : Below w.heap.size w w5 := (below_box w _).trans (hbl5.mono (by omega))
            have z5 : w0.heap.size < w5.heap.size := (Array.getElem?_eq_some_iff.1 hk5).1
            by_cases hjl : j < (tth types k).fields.length
            · obtain ⟨b2, off2, na, nc, rfl, hfr2, hcs2⟩ := hfs.at hB j hjl
              obtain ⟨c0, c1, c2, c3, c4, c5, c6, c7⟩ := hcs2 w5 hw5
              have hsf := szF_le (tth types k) j hjl hszT
              have hsf2 : (fth (tth types k).fields j).name.size + (fth (tth types k).fields j).of.size + szNs (fth (tth types k).fields j).needs ≤ 1048576 := hsf
              obtain ⟨-, -, -, -, -, -, -, -, hSt, hncc, -, -⟩ := hfr2.vals
              have hln := fieldsL_le (tth types k).fields j _ (Nat.le_of_lt hjl)
              have hwf := fun w6 (hb6 : Below (w5.heap.size + 1) (w5.alloc (.cells #[.string (fth (tth types k).fields j).name, .string (fth (tth types k).fields j).of, .bool (fth (tth types k).fields j).list, .bool (fth (tth types k).fields j).must, .bool (fth (tth types k).fields j).far, .bool (fth (tth types k).fields j).hidden, .bool (fth (tth types k).fields j).shared, .slice na (fth (tth types k).fields j).needs.length nc] 73)) w6) => writeField_any (fth (tth types k).fields j).name (fth (tth types k).fields j).of (fth (tth types k).fields j).list (fth (tth types k).fields j).must (fth (tth types k).fields j).far (fth (tth types k).fields j).hidden (fth (tth types k).fields j).shared (fth (tth types k).fields j).needs na nc w6 (w.heap.size + 1) (w.heap.size + 1) _ (hbd5.kept ((below_box w5 _).trans (hb6.mono (by omega)))) (by have := hb6.size; simp at this; omega) (by have := hb6.size; simp at this; omega) (by omega) (by omega) (by simp only [List.length_append] at hln ⊢; omega) ((hSt.under ((hw5.trans (((below_box w5 _).trans (hb6.mono (by omega))).mono (by omega))).mono hB)).sub fun q hq => by omega) hncc (by omega)
              clear hcs2
              go_wp2_with (first
                | (
                  go_at_call 67
                  refine (marksOf_any _ _ _ _ _ _ _ _ _ _ _).mono ?_
                  rintro e w6 ⟨rfl, hb6⟩
                  have hb6' := hb6.mono (show w5.heap.size + 1 ≤ _ by simp)
                  have z6 := hb6.size
                  simp at z6)
                | (
                  go_at_call 66
                  refine (hwf w6 hb6').mono ?_
                  rintro e w7 ⟨rfl, hbd7, hbe7, hke7⟩))
              have hk6 : w6.heap[w0.heap.size]? = some (.cells #[.string (tth types k).name, .string (tth types k).key, .slice (some ⟨b2, off2, none⟩) (tth types k).fields.length fc] 54 (0, 0)) := (hb6.block _ (by simp; omega)).trans (((below_box w5 _).block _ z5).trans hk5)
              go_roundw
              case rel => exact ⟨j + 1, by omega, by go_num, by rw [fieldsL, ← List.append_assoc]; exact hbd7, (hbl5.trans (((below_box w5 _).trans (hb6.mono (by simp))).mono (by omega))).trans hbe7, hke7.block hk6 (by omega) (by decide)⟩
              case measure => simp [intOf]; omega
            · go_wp2_with fail
              go_roundw
              case rel =>
                have ej : j = (tth types k).fields.length := by omega
                refine ⟨k + 1, by omega, by go_num, ?_, hbl5, by omega⟩
                rw [typesL, ← List.append_assoc, ← List.append_assoc, ← ej]
                exact hbd5
              case measure => simp [intOf]; omega
      · have hkl : keyL (tth types k) = [] := by rw [keyL, if_pos hke]
        have hkll : (keyL (tth types k)).length = 0 := by rw [hkl]; rfl
        have hW3 := fun W1 (h : Bld (w.heap.size + 1) (w.heap.size + 1) (partHeadL ⟨pname, types⟩ ++ typesL types k ++ (⟨#[116, 121, 112, 101, 32]⟩ ++ (tth types k).name : ByteArray).data.toList) W1) hs => bldByte_any (w.heap.size + 1) (w.heap.size + 1) _ 10 W1 h (by simp only [List.length_append, ByteArray.size_append, tl, sz_lit, List.size_toArray, List.length_cons, List.length_nil]; omega) hs
        go_wp2_with (first
          | (
            go_at_call_of 64 ((tth types k).name)
            refine hW1.mono ?_
            rintro e w1 ⟨rfl, hbd1, hbe1, hke1⟩
            have hk1 := hke1.block hk0 (by omega) (by decide)
            obtain ⟨t11, t12⟩ := TC w1 hk1
            have z1 := hbe1.size
            simp at z1)
          | (
            go_at_call 65
            have hwb := hW3 w1 hbd1 (by omega)
            rw [show (((10 : UInt8).toNat : Nat) : Int) = 10 from rfl] at hwb
            refine hwb.mono ?_
            rintro e w3 ⟨rfl, hbdX, hbe3, hke3⟩
            have hkX := hke3.block hk1 (by omega) (by decide)
            obtain ⟨t31, t32⟩ := TC w3 hkX))
        · have hblX : Below (w.heap.size + 1) (w.alloc (.cells #[.string pname, .slice (some ⟨b, off, none⟩) types.length tc] 31)) w3 := ((hbl.alloc (by omega) _).trans hbe1).trans hbe3
          have HTH : Hid (partHeadL ⟨pname, types⟩ ++ typesL types k ++ typeHeadL (tth types k) = partHeadL ⟨pname, types⟩ ++ typesL types k ++ (⟨#[116, 121, 112, 101, 32]⟩ ++ (tth types k).name : ByteArray).data.toList ++ [10]) := by
            show _ = _
            rw [HTY.out, hkl, append_toList]; simp
          clear hbd1 hbe1 hke1 hk1 hbe3 hke3 hbd0 hW1 hk0
          go_loopw [35] (fun i w2 => ∃ j : Nat, j ≤ (tth types k).fields.length ∧ i = .int .i64 j ∧ Bld (w.heap.size + 1) (w.heap.size + 1) (partHeadL ⟨pname, types⟩ ++ typesL types k ++ typeHeadL (tth types k) ++ fieldsL (tth types k).fields j) w2 ∧ Below (w.heap.size + 1) (w.alloc (.cells #[.string pname, .slice (some ⟨b, off, none⟩) types.length tc] 31)) w2 ∧ w2.heap[w0.heap.size]? = some (.cells #[.string (tth types k).name, .string (tth types k).key, .slice fa (tth types k).fields.length fc] 54 (0, 0))) (fun i _ => (tth types k).fields.length - (intOf i).toNat)
          case atStart => exact ⟨0, Nat.zero_le _, rfl, by rw [fieldsL, List.append_nil, HTH.out]; exact hbdX, hblX, hkX⟩
          case round =>
            clear hbdX hblX hkX
            obtain ⟨w5, rfl⟩ : ∃ x, x = wr := ⟨wr, rfl⟩
            obtain ⟨j, hj, rfl, hbd5, hbl5, hk5⟩ := hrel
            have hw5 : Below w.heap.size w w5 := (below_box w _).trans (hbl5.mono (by omega))
            have z5 : w0.heap.size < w5.heap.size := (Array.getElem?_eq_some_iff.1 hk5).1
            by_cases hjl : j < (tth types k).fields.length
            · obtain ⟨b2, off2, na, nc, rfl, hfr2, hcs2⟩ := hfs.at hB j hjl
              obtain ⟨c0, c1, c2, c3, c4, c5, c6, c7⟩ := hcs2 w5 hw5
              have hsf := szF_le (tth types k) j hjl hszT
              have hsf2 : (fth (tth types k).fields j).name.size + (fth (tth types k).fields j).of.size + szNs (fth (tth types k).fields j).needs ≤ 1048576 := hsf
              obtain ⟨-, -, -, -, -, -, -, -, hSt, hncc, -, -⟩ := hfr2.vals
              have hln := fieldsL_le (tth types k).fields j _ (Nat.le_of_lt hjl)
              have hwf := fun w6 (hb6 : Below (w5.heap.size + 1) (w5.alloc (.cells #[.string (fth (tth types k).fields j).name, .string (fth (tth types k).fields j).of, .bool (fth (tth types k).fields j).list, .bool (fth (tth types k).fields j).must, .bool (fth (tth types k).fields j).far, .bool (fth (tth types k).fields j).hidden, .bool (fth (tth types k).fields j).shared, .slice na (fth (tth types k).fields j).needs.length nc] 73)) w6) => writeField_any (fth (tth types k).fields j).name (fth (tth types k).fields j).of (fth (tth types k).fields j).list (fth (tth types k).fields j).must (fth (tth types k).fields j).far (fth (tth types k).fields j).hidden (fth (tth types k).fields j).shared (fth (tth types k).fields j).needs na nc w6 (w.heap.size + 1) (w.heap.size + 1) _ (hbd5.kept ((below_box w5 _).trans (hb6.mono (by omega)))) (by have := hb6.size; simp at this; omega) (by have := hb6.size; simp at this; omega) (by omega) (by omega) (by simp only [List.length_append] at hln ⊢; omega) ((hSt.under ((hw5.trans (((below_box w5 _).trans (hb6.mono (by omega))).mono (by omega))).mono hB)).sub fun q hq => by omega) hncc (by omega)
              clear hcs2
              go_wp2_with (first
                | (
                  go_at_call 67
                  refine (marksOf_any _ _ _ _ _ _ _ _ _ _ _).mono ?_
                  rintro e w6 ⟨rfl, hb6⟩
                  have hb6' := hb6.mono (show w5.heap.size + 1 ≤ _ by simp)
                  have z6 := hb6.size
                  simp at z6)
                | (
                  go_at_call 66
                  refine (hwf w6 hb6').mono ?_
                  rintro e w7 ⟨rfl, hbd7, hbe7, hke7⟩))
              have hk6 : w6.heap[w0.heap.size]? = some (.cells #[.string (tth types k).name, .string (tth types k).key, .slice (some ⟨b2, off2, none⟩) (tth types k).fields.length fc] 54 (0, 0)) := (hb6.block _ (by simp; omega)).trans (((below_box w5 _).block _ z5).trans hk5)
              go_roundw
              case rel => exact ⟨j + 1, by omega, by go_num, by rw [fieldsL, ← List.append_assoc]; exact hbd7, (hbl5.trans (((below_box w5 _).trans (hb6.mono (by simp))).mono (by omega))).trans hbe7, hke7.block hk6 (by omega) (by decide)⟩
              case measure => simp [intOf]; omega
            · go_wp2_with fail
              go_roundw
              case rel =>
                have ej : j = (tth types k).fields.length := by omega
                refine ⟨k + 1, by omega, by go_num, ?_, hbl5, by omega⟩
                rw [typesL, ← List.append_assoc, ← List.append_assoc, ← ej]
                exact hbd5
              case measure => simp [intOf]; omega
    · have ek : k = types.length := by omega
      go_wp2_with (
        go_at_call 68
        refine (bldDone_any (w.heap.size + 1) (w.heap.size + 1) _ w0 hbd (by omega)).mono ?_
        rintro e w9 ⟨rfl, hbe9⟩)
      exact ⟨rfl, .string ⟨(partHeadL ⟨pname, types⟩ ++ typesL types types.length).toArray⟩, by simp [results, Tryz.results36, go_sem], by rw [HP0.out], hbw.trans (hbe9.mono (by omega))⟩
end Go.Proofs.YtelggammjejobaaGreat

namespace Go.Proofs.YtelggammjejobaaGreat
open Go.RowKit

theorem lineB_len (f : F) : (lineB f).data.toList.length ≤ szF f + 33 := by
  have h1 := lineTo_size f f.needs.length
  have h2 : szF f = f.name.size + f.of.size + (f.needs.length + sumTo f.needs f.needs.length) := rfl
  rw [tl, lineB, ByteArray.size_append]
  have h3 : (⟨#[10]⟩ : ByteArray).size = 1 := rfl
  omega
theorem fieldsL_len (fs : List F) : ∀ n, (fieldsL fs n).length ≤ szFsTo fs n + 33 * n
  | 0 => by simp [fieldsL]
  | n + 1 => by
    have h1 := fieldsL_len fs n
    have h2 := lineB_len (fth fs n)
    rw [fieldsL, List.length_append, szFsTo_succ]
    omega
theorem keyL_len (t : T) : (keyL t).length ≤ 5 + t.key.size := by
  unfold keyL
  split
  · exact Nat.zero_le _
  · rw [List.length_append, tl]; exact Nat.le_refl _
theorem typeHeadL_len (t : T) : (typeHeadL t).length ≤ 11 + t.name.size + t.key.size := by
  have h1 := keyL_len t
  have h2 : ([116, 121, 112, 101, 32] : List UInt8).length = 5 := rfl
  have h3 : ([10] : List UInt8).length = 1 := rfl
  rw [typeHeadL, List.length_append, List.length_append, List.length_append, tl]
  omega
theorem typesL_len (ts : List T) : ∀ n, (typesL ts n).length ≤ 33 * szTsTo ts n + 11 * n
  | 0 => by simp [typesL]
  | n + 1 => by
    have h1 := typesL_len ts n
    have h2 := typeHeadL_len (tth ts n)
    have h3 := fieldsL_len (tth ts n).fields (tth ts n).fields.length
    have h4 : szT (tth ts n) = (tth ts n).name.size + (tth ts n).key.size + ((tth ts n).fields.length + szFsTo (tth ts n).fields (tth ts n).fields.length) := rfl
    rw [typesL, List.length_append, List.length_append, szTsTo_succ]
    omega
theorem partL_len (p : Pt) : (partL p).length ≤ 33 * szP p + 6 := by
  have h1 := typesL_len p.types p.types.length
  have h2 : szP p = p.name.size + (p.types.length + szTsTo p.types p.types.length) := rfl
  have h3 : ([112, 97, 114, 116, 32] : List UInt8).length = 5 := rfl
  have h4 : ([10] : List UInt8).length = 1 := rfl
  rw [partL, partHeadL, List.length_append, List.length_append, List.length_append, tl]
  omega
theorem partText_all (p : Pt) (w : World) (B : Nat) (v : Value) (hP : PRep w (· < B) p v) (hB : B ≤ w.heap.size) (hz : szP p ≤ 1048576) :
    Calls Tryz.prog 36 #[v] w fun e w' => e = .returned (.string ⟨(partL p).toArray⟩) ∧ Below w.heap.size w w' :=
  partText_any p w B v hP hB hz (by have := partL_len p; omega)
end Go.Proofs.YtelggammjejobaaGreat
