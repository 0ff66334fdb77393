/-
  The copier: what a copy of a value takes of memory, and the copy.
-/
import Derived.Test.YtjlifamkfdmfcaaWWeigh
import Derived.Test.YtjlifamkfdmfcaaVSize
import Derived.Test.YtjlifamkfdmfcaaLCopyV
namespace Go.Proofs.Ytjlifamkfdmfcaa
set_option linter.unusedSimpArgs false
set_option linter.unusedVariables false
open Go.RowKit

def copyN (x : V) : Nat := 80 + 16 * x.names.length
theorem copyBytes_fn : OwnFn 49 copyN := by
  intro w b o x na ka nc kc h0 h3 h4 h16
  have h := copyBytes_any w b o na ka x.names.length nc x.kids.length kc h3 h4 h16
  have e : ((copyN x : Nat) : Int) = 80 + 16 * (x.names.length : Int) := by unfold copyN; omega
  rw [e]
  exact h
theorem copy_cnt (x : V) : wV copyN x ≤ 80 + 96 * szV x := by
  refine v_ind (q := fun x => wV copyN x ≤ 80 + 96 * szV x) (fun x ih => ?_) x
  have h1 := sums (f := wV copyN) (g := fun k => 80 + 96 * szV k) (F := wL copyN) (G := fun l => 80 * l.length + 96 * sL l) rfl rfl (fun _ _ => by simp [wL]) (fun _ _ => by simp [sL]; omega) x.kids ih
  rw [wV_eq, szV_eq]
  have := len_szNs x.names
  have e : copyN x = 80 + 16 * x.names.length := rfl
  omega
theorem callBytes (args : Array Value) (w : World) : (callFunc 49 args).run Try.prog w = .ok (.enter 49 args) w := by kernel_rfl

set_option maxHeartbeats 400000 in
theorem bytesScale_any (w : World) (F : Nat) :
    Calls Try.prog 48 #[.func (.func F) #[] #[]] w fun e w' => e = .returned (.agg #[.func (.func F) #[] #[], .int .i64 17179869185, .int .i64 17179869184]) ∧ Below w.heap.size w w' := by
  go_enter Try.func48, Try.ntmps48
  go_wp2_with fail
  refine bodyPost_ret (v := .agg #[.func (.func F) #[] #[], .int .i64 17179869185, .int .i64 17179869184]) (by simp [results, Try.results48, go_sem]) rfl ⟨rfl, below_box _ _⟩

/-- A copier in a block of its own: its scales, and what is left. -/
def Copier (w : World) (g m : Nat) (left : Int) : Prop :=
  w.cell? ⟨g, 0, none⟩ = some (.func (.func 49) #[] #[]) ∧ w.cell? ⟨g, 1, none⟩ = some (.int .i64 17179869185) ∧ w.cell? ⟨g, 2, none⟩ = some (.int .i64 17179869184) ∧ w.cell? ⟨g, 3, none⟩ = some (.map (some m)) ∧ w.cell? ⟨g, 4, none⟩ = some (.int .i64 left) ∧ w.frozen? ⟨g, 4, none⟩ = false

set_option maxHeartbeats 400000 in
theorem newCopier_any (w : World) :
    Calls Try.prog 25 #[] w fun e w' => ∃ g m, e = .returned (.pointer (some ⟨g, 0, none⟩)) ∧ w.heap.size ≤ g ∧ g < w'.heap.size ∧ w.heap.size ≤ m ∧ m < w'.heap.size ∧ m ≠ g ∧ Copier w' g m 17179869184 ∧ OwnsK w' (fun _ => False) m (fun _ => none) ∧ Below w.heap.size w w' := by
  go_enter Try.func25, Try.ntmps25
  go_wp2_with fail
  refine (bytesScale_any w 49).mono ?_
  rintro e w1 ⟨rfl, hb1⟩
  go_wp2_with fail
  refine (scalesOf_any w1 49 _ _).mono ?_
  rintro e w2 ⟨m, rfl, hm1, hm2, hO, hb2⟩
  unfold scalesV
  go_wp2_with fail
  have z1 := hb1.size
  have z2 := hb2.size
  go_ret
  refine ⟨w2.heap.size, m, rfl, by omega, by simp, by omega, by simp; omega, by omega, ?_, hO.of_block ((below_box w2 _).block m hm2), (hb1.trans (hb2.mono (by omega))).trans ((below_box w2 _).mono (by omega))⟩
  refine ⟨by simp, by simp, by simp, by simp, by simp, by simp only [World.frozen?, heap_alloc_new]; simp⟩

theorem grown_undrew {a b : World} {m : Option Nat} (h : a.drew.grownBy b m) : a.grownBy b m := ⟨h.os, h.tape, h.output, h.size, h.block⟩

set_option maxRecDepth 20000 in
set_option maxHeartbeats 800000 in
theorem copier_any (x : V) (w : World) (B : Nat) (v : Value) (g m : Nat) (hs : szV x ≤ 1048576) (hR : Rep w (fun b => b < B ∧ Apart w b) x v) (hB : B ≤ g) (hBm : B ≤ m) (hgm : m ≠ g) (hg : g < w.heap.size) (hC : Copier w g m 17179869184) (hO : OwnsK w (fun _ => False) m (fun _ => none)) :
    Calls Try.prog 26 #[.pointer (some ⟨g, 0, none⟩), v] w fun e w' => ∃ (n : Nat) (na ka : Option Addr) (nc kc : Nat), B ≤ n ∧ e = .returned (.tuple #[.agg #[.int .i64 x.sort, .int .i64 x.num, .string x.text, .slice na x.names.length nc, .slice ka x.kids.length kc], .bool true]) ∧ Below B w w' ∧
    Rep w' (fun b => n ≤ b ∧ b < w'.heap.size) x (.agg #[.int .i64 x.sort, .int .i64 x.num, .string x.text, .slice na x.names.length nc, .slice ka x.kids.length kc]) ∧
    ∃ lab : Nat → List Nat, (∀ b, lab b ≠ [] → n ≤ b ∧ b < w'.heap.size) ∧ LRep w' lab [] x (.agg #[.int .i64 x.sort, .int .i64 x.num, .string x.text, .slice na x.names.length nc, .slice ka x.kids.length kc]) := by
  obtain ⟨p0, p1, p2, p3, p4, pf⟩ := hC
  obtain ⟨na0, ka0, nc0, kc0, rfl, -⟩ := hR.form
  have hw := copy_cnt x
  have hc := cntV_sz x
  go_enter Try.func26, Try.ntmps26
  go_wp2_with fail
  obtain ⟨O, hOO⟩ : ∃ O, O = Obj.cells #[.int .i64 x.sort, .int .i64 x.num, .string x.text, .slice na0 x.names.length nc0, .slice ka0 x.kids.length kc0] 27 := ⟨_, rfl⟩
  rw [← hOO]
  obtain ⟨O2, hO2⟩ : ∃ O, O = Obj.cells #[.int .i64 0, .int .i64 0, .string ⟨#[]⟩, .slice none 0 0, .slice none 0 0] 27 := ⟨_, rfl⟩
  rw [← hO2]
  have hBX := below_box2 w O O2
  have r0 : ((w.alloc O).alloc O2).cell? ⟨w.heap.size, 0, none⟩ = some (.int .i64 x.sort) := by subst hOO; simp
  have r1 : ((w.alloc O).alloc O2).cell? ⟨w.heap.size, 1, none⟩ = some (.int .i64 x.num) := by subst hOO; simp
  have r2 : ((w.alloc O).alloc O2).cell? ⟨w.heap.size, 2, none⟩ = some (.string x.text) := by subst hOO; simp
  have r3 : ((w.alloc O).alloc O2).cell? ⟨w.heap.size, 3, none⟩ = some (.slice na0 x.names.length nc0) := by subst hOO; simp
  have r4 : ((w.alloc O).alloc O2).cell? ⟨w.heap.size, 4, none⟩ = some (.slice ka0 x.kids.length kc0) := by subst hOO; simp
  have rw5 : Row5 ((w.alloc O).alloc O2) (w.heap.size + 1) (.int .i64 0) (.int .i64 0) (.string ⟨#[]⟩) (.slice none 0 0) (.slice none 0 0) := by subst hO2; have := Row5.new (w.alloc O) (.int .i64 0) (.int .i64 0) (.string ⟨#[]⟩) (.slice none 0 0) (.slice none 0 0); simpa using this
  have zA : ((w.alloc O).alloc O2).heap.size = w.heap.size + 1 + 1 := by simp
  generalize hwA : (w.alloc O).alloc O2 = wA at *
  have hkeep : ∀ k, k < w.heap.size → wA.heap[k]? = w.heap[k]? := fun k hk => hBX.block k hk
  have hW : ∀ W, Below wA.heap.size wA W → Calls Try.prog 43 #[scalesV 49 17179869185 17179869184 m, _] W _ := fun W hb =>
    weigh_any 49 copyN copyBytes_fn callBytes x W (fun b => b < B ∧ Apart w b) _ 17179869185 17179869184 m (fun _ => none) (hR.mono fun k hk => (hb.block k (by omega)).trans (hkeep k (by omega))) (fun b hb' => ⟨by have := hb.size; omega, hb'.2.of_block ((hb.block b (by omega)).trans (hkeep b (by omega)))⟩) ((hO.of_block ((hb.block m (by have := hO.lt; omega)).trans (hkeep m hO.lt))).widen fun _ h => h.elim) (fun b o n v h => by cases h) (by omega) (by omega) (by omega)
  have HW := hid_of hW
  clear hW
  have q0 := (hBX.cell (p := ⟨g, 0, none⟩) hg).trans p0
  have q1 := (hBX.cell (p := ⟨g, 1, none⟩) hg).trans p1
  have q2 := (hBX.cell (p := ⟨g, 2, none⟩) hg).trans p2
  have q3 := (hBX.cell (p := ⟨g, 3, none⟩) hg).trans p3
  have q4 := (hBX.cell (p := ⟨g, 4, none⟩) hg).trans p4
  have qf : wA.frozen? ⟨g, 4, none⟩ = false := by rw [← pf]; simp only [World.frozen?, hkeep g hg]
  clear p0 p1 p2 p3 p4 pf hwA
  go_cut [6, 7] (fun a b wx => a = .int .i64 (wV copyN x : Nat) ∧ b = .bool true ∧ wA.grownBy wx (some m))
  case first =>
    go_region_with (first
      | (
        go_at_call 43
        refine (HW.out _ (Below.refl _ _).drew).mono ?_
        rintro e w2 ⟨rfl, -, hg2⟩
        have hg2' := grown_undrew hg2
        clear hg2))
    all_goals
      go_wp2_with fail
      go_meet
      case rel => exact ⟨rfl, rfl, hg2'⟩
  case rest =>
  obtain ⟨rfl, rfl, hg2⟩ := hcut
  have z2 := hg2.size
  have s0 := (hg2.cell_far ⟨w.heap.size, 0, none⟩ (by show w.heap.size < _; omega) (by have := hO.lt; simp; omega)).trans r0
  have s1 := (hg2.cell_far ⟨w.heap.size, 1, none⟩ (by show w.heap.size < _; omega) (by have := hO.lt; simp; omega)).trans r1
  have s2 := (hg2.cell_far ⟨w.heap.size, 2, none⟩ (by show w.heap.size < _; omega) (by have := hO.lt; simp; omega)).trans r2
  have s3 := (hg2.cell_far ⟨w.heap.size, 3, none⟩ (by show w.heap.size < _; omega) (by have := hO.lt; simp; omega)).trans r3
  have s4 := (hg2.cell_far ⟨w.heap.size, 4, none⟩ (by show w.heap.size < _; omega) (by have := hO.lt; simp; omega)).trans r4
  have t4 := (hg2.cell_far ⟨g, 4, none⟩ (by show g < _; omega) (by simp; omega)).trans q4
  have tf : wc.frozen? ⟨g, 4, none⟩ = false := by rw [← qf]; simp only [World.frozen?, hg2.block g (by omega) (by simp; omega)]
  go_wp2_with fail
  have bd : Below B w (wc.setCell ⟨g, 4, none⟩ (.int .i64 (17179869184 - (wV copyN x : Nat)))) := ((hBX.mono (by omega)).grown hg2 (by omega) (fun k hk => by cases hk; omega)).setCell (p := ⟨g, 4, none⟩) hB _
  have zd : (wc.setCell ⟨g, 4, none⟩ (.int .i64 (17179869184 - (wV copyN x : Nat)))).heap.size = wc.heap.size := by simp [World.setCell]
  have rd : Row5 (wc.setCell ⟨g, 4, none⟩ (.int .i64 (17179869184 - (wV copyN x : Nat)))) (w.heap.size + 1) (.int .i64 0) (.int .i64 0) (.string ⟨#[]⟩) (.slice none 0 0) (.slice none 0 0) := rw5.of_block ((Below.heap_setCell _ _ _ _ (by show w.heap.size + 1 ≠ g; omega)).trans (hg2.block _ (by omega) (by have := hO.lt; simp; omega)))
  clear hg2 s0 s1 s2 s3 s4 t4 tf q0 q1 q2 q3 q4 qf r0 r1 r2 r3 r4 rw5 HW
  generalize wc.setCell ⟨g, 4, none⟩ (.int .i64 (17179869184 - (wV copyN x : Nat))) = wd at *
  refine (copyValue_l x wd B _ hs ((hR.sub fun k hk => hk.1).under bd) (by omega)).mono ?_
  rintro e w3 ⟨na, ka, nc, kc, rfl, hb3, hr3, lab, hl1, hl2⟩
  have z3 := hb3.size
  have r3 := rd.of_block (hb3.block _ (by omega))
  obtain ⟨l0, l1, l2, l3, l4⟩ := r3.five
  have hlf := r3.frozen
  have HR := hid_of (And.intro hr3 (And.intro hl1 hl2))
  clear hr3 hl1 hl2
  go_wp2_with fail
  have hfin := r3.put (.int .i64 x.sort) (.int .i64 x.num) (.string x.text) (.slice na x.names.length nc) (.slice ka x.kids.length kc)
  have hsz := put5_size w3 (w.heap.size + 1) 0 (.int .i64 x.sort) (.int .i64 x.num) (.string x.text) (.slice na x.names.length nc) (.slice ka x.kids.length kc)
  have hblk := put5_block w3 (w.heap.size + 1) 0 (.int .i64 x.sort) (.int .i64 x.num) (.string x.text) (.slice na x.names.length nc) (.slice ka x.kids.length kc)
  obtain ⟨hr3, hl1, hl2⟩ := HR.out
  refine bodyPost_ret (v := .tuple #[.agg #[.int .i64 x.sort, .int .i64 x.num, .string x.text, .slice na x.names.length nc, .slice ka x.kids.length kc], .bool true]) ?res rfl ⟨wd.heap.size, na, ka, nc, kc, by omega, rfl, put5_below (bd.trans (hb3.mono (by omega))) (by omega) _ _ _ _ _ _, (hr3.mono fun k hk => hblk k (by omega)).sub fun k hk => ⟨hk.1, Nat.lt_of_lt_of_eq hk.2 hsz.symm⟩, lab, fun b hb => ⟨(hl1 b hb).1, Nat.lt_of_lt_of_eq (hl1 b hb).2 hsz.symm⟩, hl2.keep fun b hb _ => hblk b (by have := hl1 b hb; omega)⟩
  case res =>
    obtain ⟨p0, p1, p2, p3, p4⟩ := hfin.five
    simp only [put5] at p0 p1 p2 p3 p4
    clear hfin hblk hsz r3 hr3 hl1 hl2
    simp [results, Try.results26, go_sem, p0, p1, p2, p3, p4]
end Go.Proofs.Ytjlifamkfdmfcaa
