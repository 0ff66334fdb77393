/-
  The program's StoreGet.
-/
import Derived.Test.YtjlifamkfdmfcaaGStore
import Derived.Test.YtjlifamkfdmfcaaVCopy
namespace Go.Proofs.Ytjlifamkfdmfcaa
set_option linter.unusedSimpArgs false
set_option linter.unusedVariables false
open Go.RowKit Go.Maps

/-- The five cells of a value. -/
def vv (x : V) (na ka : Option Addr) (nc kc : Nat) : Value := .agg #[.int .i64 x.sort, .int .i64 x.num, .string x.text, .slice na x.names.length nc, .slice ka x.kids.length kc]
def vZ : V := ⟨0, 0, ⟨#[]⟩, [], []⟩
/-- What StoreGet answers: nothing, or a value in new memory whose lists lie apart. -/
def GetOk (x : Option V) (w w' : World) (e : Ending) : Prop := ∃ (na ka : Option Addr) (nc kc : Nat), e = .returned (.tuple #[vv (x.getD vZ) na ka nc kc, .bool x.isSome]) ∧
    Rep w' (fun b => w.heap.size ≤ b ∧ b < w'.heap.size) (x.getD vZ) (vv (x.getD vZ) na ka nc kc) ∧
    ∃ lab : Nat → List Nat, (∀ b, lab b ≠ [] → w.heap.size ≤ b ∧ b < w'.heap.size) ∧ LRep w' lab [] (x.getD vZ) (vv (x.getD vZ) na ka nc kc)

theorem vZ_rep (w : World) (P : Nat → Prop) : Rep w P vZ (vv vZ none none 0 0) :=
  Rep.of_kids ⟨fun h => absurd rfl h, fun i => Nat.zero_le _, Nat.zero_le _⟩ (Nat.le_refl _) (Nat.zero_le _) (by simp) ⟨by simp, 0, 0, fun _ _ => undef, fun h => absurd rfl h, fun i hi => by simp at hi, fun i hi => by simp at hi⟩
theorem vZ_lrep (w : World) : LRep w (fun _ => []) [] vZ (vv vZ none none 0 0) :=
  LRep.of_kids (fun h => absurd rfl h) ⟨0, 0, fun _ _ => undef, fun h => absurd rfl h, fun i hi => by simp at hi, fun i hi => by simp at hi⟩
theorem get_none {x : Option V} (hx : x = none) (w w' : World) : GetOk x w w' (.returned (.tuple #[.agg #[.int .i64 0, .int .i64 0, .string ⟨#[]⟩, .slice none 0 0, .slice none 0 0], .bool false])) := by
  subst hx
  exact ⟨none, none, 0, 0, rfl, vZ_rep _ _, fun _ => [], fun b hb => absurd rfl hb, vZ_lrep _⟩

set_option maxRecDepth 20000 in
set_option maxHeartbeats 800000 in
theorem implGet_any (rs : List Ro) (t f : ByteArray) (n : Int) (w : World) (P : Nat → Prop) (a : Option Addr) (c : Nat) (hR : RoReps w P rs a) (hP : ∀ b, P b → b < w.heap.size ∧ Apart w b) (hsm : ∀ i, i < rs.length → RoSm (rth rs i)) :
    Calls Try.prog 8 #[.slice a rs.length c, .string t, .int .i64 n, .string f] w fun e w' => GetOk (got rs t n f) w w' e ∧ Below w.heap.size w w' := by
  go_enter Try.func8, Try.ntmps8
  go_wp2_with fail
  have zB := below_box w (.cells #[.int .i64 0, .int .i64 0, .string ⟨#[]⟩, .slice none 0 0, .slice none 0 0] 27)
  have zR := Row5.new w (.int .i64 0) (.int .i64 0) (.string ⟨#[]⟩) (.slice none 0 0) (.slice none 0 0)
  generalize w.alloc (.cells #[.int .i64 0, .int .i64 0, .string ⟨#[]⟩, .slice none 0 0, .slice none 0 0] 27) = wA at *
  have zl := zR.lt
  refine (storeOf_any rs wA P a c (hR.mono fun k hk => zB.block k (hP k hk).1) (fun b hb => by have := (hP b hb).1; omega)).mono ?_
  rintro e w1 ⟨m, G, rfl, hm1, hm2, hO, hPl, hb1⟩
  have z1 := hb1.size
  have B1 : Below w.heap.size w w1 := zB.trans (hb1.mono (by omega))
  have R1 := zR.of_block (hb1.block _ zl)
  clear hb1 zB zR
  go_wp2_with fail
  refine (cellsOf_any rs t n w1 P a c m G (hR.mono fun k hk => B1.block k (hP k hk).1) (fun b hb => by have := (hP b hb).1; omega) hO hPl).mono ?_
  rintro e w2 ⟨hb2, hC⟩
  have z2 := hb2.size
  have B2 : Below w.heap.size w w2 := B1.trans (hb2.mono (by omega))
  have R2 := R1.of_block (hb2.block _ (by omega))
  clear hb2 hO hPl R1
  unfold CellsOk at hC
  cases hf : fi rs t n rs.length with
  | none =>
    rw [hf] at hC
    simp only at hC
    subst hC
    have hgot : got rs t n f = none := by simp [got, hf]
    obtain ⟨l0, l1, l2, l3, l4⟩ := R2.five
    have hlf := R2.frozen
    have HX := hid_of R2
    clear R2
    go_wp2_with fail
    have hfin := HX.out.put (.int .i64 0) (.int .i64 0) (.string ⟨#[]⟩) (.slice none 0 0) (.slice none 0 0)
    refine bodyPost_ret (v := .tuple #[.agg #[.int .i64 0, .int .i64 0, .string ⟨#[]⟩, .slice none 0 0, .slice none 0 0], .bool false]) ?res rfl ⟨get_none hgot _ _, put5_below B2 (Nat.le_refl _) _ _ _ _ _ _⟩
    case res =>
      obtain ⟨p0, p1, p2, p3, p4⟩ := hfin.five
      simp only [put5] at p0 p1 p2 p3 p4
      clear hfin
      simp [results, Try.results8, go_sem, p0, p1, p2, p3, p4]
  | some i =>
    have hi := fi_lt hf
    rw [hf] at hC
    simp only at hC
    obtain ⟨g, fa, fc', rfl, hg1, hg2, hgc, hCe, hfc⟩ := hC
    have hsi := hsm i hi
    go_wp2_with fail
    refine (teller_any (rth rs i) f w2 P g fa fc' hgc hg2 (hCe.mono fun k hk => (B2.block k (hP k hk).1).trans (B1.block k (hP k hk).1).symm) (fun b hb => by have := (hP b hb).1; omega) hfc).mono ?_
    rintro e w3 ⟨hb3, hT⟩
    have z3 := hb3.size
    have B3 : Below w.heap.size w w3 := B2.trans (hb3.mono (by omega))
    have R3 := R2.of_block (hb3.block _ (by omega))
    clear hgc hCe R2
    unfold TellOk at hT
    cases hj : fc (rth rs i).cells f (rth rs i).cells.length with
    | none =>
      rw [hj] at hT
      simp only at hT
      subst hT
      have hgot : got rs t n f = none := by simp [got, hf, hj]
      obtain ⟨l0, l1, l2, l3, l4⟩ := R3.five
      have hlf := R3.frozen
      have hne : w.heap.size < w3.heap.size := R3.lt
      have HX := hid_of R3
      clear R3
      go_wp2_with fail
      have hfin := HX.out.put (.int .i64 0) (.int .i64 0) (.string ⟨#[]⟩) (.slice none 0 0) (.slice none 0 0)
      refine bodyPost_ret (v := .tuple #[.agg #[.int .i64 0, .int .i64 0, .string ⟨#[]⟩, .slice none 0 0, .slice none 0 0], .bool false]) ?res rfl ⟨get_none hgot _ _, (put5_below B3 (Nat.le_refl _) 0 _ _ _ _ _).alloc ?sz _⟩
      case res =>
        obtain ⟨p0, p1, p2, p3, p4⟩ := (hfin.of_block ((below_box _ (.cells #[.int .i64 0, .int .i64 0, .string ⟨#[]⟩, .slice none 0 0, .slice none 0 0] 27)).block _ hfin.lt)).five
        simp only [put5] at p0 p1 p2 p3 p4
        clear hfin
        simp [results, Try.results8, go_sem, p0, p1, p2, p3, p4]
      case sz => rw [put5_size]; omega
    | some j =>
      have hjl := fc_lt hj
      rw [hj] at hT
      simp only at hT
      obtain ⟨na, ka, nc, kc, rfl, hV⟩ := hT
      have hgot : got rs t n f = some (cth (rth rs i).cells j).val := by simp [got, hf, hj]
      have hs := hsi j hjl
      unfold CeSm at hs
      generalize (cth (rth rs i).cells j).val = x at *
      go_wp2_with fail
      have B4 : Below w.heap.size w (w3.alloc (.cells #[.int .i64 x.sort, .int .i64 x.num, .string x.text, .slice na x.names.length nc, .slice ka x.kids.length kc] 27)) := B3.trans ((below_box w3 _).mono (by omega))
      have R4 := R3.of_block ((below_box w3 (.cells #[.int .i64 x.sort, .int .i64 x.num, .string x.text, .slice na x.names.length nc, .slice ka x.kids.length kc] 27)).block _ R3.lt)
      have Q4 := Row5.new w3 (.int .i64 x.sort) (.int .i64 x.num) (.string x.text) (.slice na x.names.length nc) (.slice ka x.kids.length kc)
      have z4 : (w3.alloc (.cells #[.int .i64 x.sort, .int .i64 x.num, .string x.text, .slice na x.names.length nc, .slice ka x.kids.length kc] 27)).heap.size = w3.heap.size + 1 := by simp
      have hne : w.heap.size < w3.heap.size := R3.lt
      have hne2 : ¬ w3.heap.size = w.heap.size := by omega
      have hne3 : ¬ w.heap.size = w3.heap.size := by omega
      have V4 := hV.mono (w' := w3.alloc (.cells #[.int .i64 x.sort, .int .i64 x.num, .string x.text, .slice na x.names.length nc, .slice ka x.kids.length kc] 27)) fun k hk => (B4.block k (hP k hk).1).trans (B2.block k (hP k hk).1).symm
      generalize w3.alloc (.cells #[.int .i64 x.sort, .int .i64 x.num, .string x.text, .slice na x.names.length nc, .slice ka x.kids.length kc] 27) = w4 at *
      obtain ⟨s0, s1, s2, s3, s4⟩ := Q4.five
      have HR4 := hid_of R4
      have HQ4 := hid_of Q4
      have HV4 := hid_of V4
      clear hV V4 R4 Q4 R3 B3 hb3 hR hsm hsi
      go_region_held3 (fun w' => w'.cell? ⟨w3.heap.size, 0, none⟩ = some (.int .i64 x.sort) ∧ w'.cell? ⟨w3.heap.size, 1, none⟩ = some (.int .i64 x.num) ∧ w'.cell? ⟨w3.heap.size, 2, none⟩ = some (.string x.text) ∧ w'.cell? ⟨w3.heap.size, 3, none⟩ = some (.slice na x.names.length nc) ∧ w'.cell? ⟨w3.heap.size, 4, none⟩ = some (.slice ka x.kids.length kc)) (go_keep)
        (first
          | (
            go_at_call 25
            refine (newCopier_any _).mono ?_
            rintro e w5 ⟨gc, mc, rfl, hgc1, hgc2, hmc1, hmc2, hmg, hCo, hOk, hb5⟩
            have hb5' := below_undrew hb5
            have q0 := (hb5'.cell (p := ⟨w3.heap.size, 0, none⟩) (by show w3.heap.size < _; omega)).trans s0
            have q1 := (hb5'.cell (p := ⟨w3.heap.size, 1, none⟩) (by show w3.heap.size < _; omega)).trans s1
            have q2 := (hb5'.cell (p := ⟨w3.heap.size, 2, none⟩) (by show w3.heap.size < _; omega)).trans s2
            have q3 := (hb5'.cell (p := ⟨w3.heap.size, 3, none⟩) (by show w3.heap.size < _; omega)).trans s3
            have q4 := (hb5'.cell (p := ⟨w3.heap.size, 4, none⟩) (by show w3.heap.size < _; omega)).trans s4
            simp at hgc1 hmc1
            have hW := copier_any x w5 w4.heap.size (.agg #[.int .i64 x.sort, .int .i64 x.num, .string x.text, .slice na x.names.length nc, .slice ka x.kids.length kc]) gc mc hs ((HV4.out.mono fun k hk => hb5'.block k (by have := (hP k hk).1; omega)).sub fun k hk => ⟨by have := (hP k hk).1; omega, (hP k hk).2.of_block ((hb5'.block k (by have := (hP k hk).1; omega)).trans (B4.block k (hP k hk).1))⟩) hgc1 hmc1 hmg hgc2 hCo hOk
            have HW := hid_of hW
            have HB5 := hid_of hb5'
            clear hW hCo hOk hb5 hb5')
          | (
            go_at_call 26
            refine HW.out.mono ?_
            rintro e w6 ⟨n0, na', ka', nc', kc', hn0, rfl, hb6, hr6, lab, hl1, hl2⟩
            have B6 : Below w4.heap.size w4 w6 := HB5.out.trans hb6
            have R6 := HR4.out.of_block (B6.block _ (by omega))
            obtain ⟨l0, l1, l2, l3, l4⟩ := R6.five
            have hlf := R6.frozen
            have u0 := (B6.cell (p := ⟨w3.heap.size, 0, none⟩) (by show w3.heap.size < _; omega)).trans s0
            have u1 := (B6.cell (p := ⟨w3.heap.size, 1, none⟩) (by show w3.heap.size < _; omega)).trans s1
            have u2 := (B6.cell (p := ⟨w3.heap.size, 2, none⟩) (by show w3.heap.size < _; omega)).trans s2
            have u3 := (B6.cell (p := ⟨w3.heap.size, 3, none⟩) (by show w3.heap.size < _; omega)).trans s3
            have u4 := (B6.cell (p := ⟨w3.heap.size, 4, none⟩) (by show w3.heap.size < _; omega)).trans s4
            have HX := hid_of (And.intro B6 (And.intro R6 (And.intro hr6 (And.intro hl1 hl2))))
            clear hb6 hr6 hl1 hl2 B6 R6))
      all_goals
        go_wp2_with fail
        obtain ⟨B6, R6, hr6, hl1, hl2⟩ := HX.out
        have hfin := R6.put (.int .i64 x.sort) (.int .i64 x.num) (.string x.text) (.slice na' x.names.length nc') (.slice ka' x.kids.length kc')
        have hsz := put5_size w6 w.heap.size 0 (.int .i64 x.sort) (.int .i64 x.num) (.string x.text) (.slice na' x.names.length nc') (.slice ka' x.kids.length kc')
        have hblk := put5_block w6 w.heap.size 0 (.int .i64 x.sort) (.int .i64 x.num) (.string x.text) (.slice na' x.names.length nc') (.slice ka' x.kids.length kc')
        refine bodyPost_ret (v := .tuple #[.agg #[.int .i64 x.sort, .int .i64 x.num, .string x.text, .slice na' x.names.length nc', .slice ka' x.kids.length kc'], .bool true]) ?res rfl ⟨?_, put5_below (B4.trans (B6.mono (by omega))) (Nat.le_refl _) _ _ _ _ _ _⟩
        case res =>
          obtain ⟨p0, p1, p2, p3, p4⟩ := hfin.five
          simp only [put5] at p0 p1 p2 p3 p4
          clear hfin hsz hblk hr6 hl1 hl2 R6 B6
          simp [results, Try.results8, go_sem, p0, p1, p2, p3, p4]
        rw [hgot]
        exact ⟨na', ka', nc', kc', rfl, (hr6.mono fun k hk => hblk k (by omega)).sub fun k hk => ⟨by omega, Nat.lt_of_lt_of_eq hk.2 hsz.symm⟩, lab, fun b hb => ⟨by have := (hl1 b hb).1; omega, Nat.lt_of_lt_of_eq (hl1 b hb).2 hsz.symm⟩, hl2.keep fun b hb _ => hblk b (by have := hl1 b hb; omega)⟩
end Go.Proofs.Ytjlifamkfdmfcaa
