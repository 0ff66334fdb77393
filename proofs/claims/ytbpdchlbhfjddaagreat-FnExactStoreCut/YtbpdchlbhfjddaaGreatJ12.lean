import Derived.Test.YtbpdchlbhfjddaaGreatJ11
import Derived.Test.YtbpdchlbhfjddaaGreatJ1
import Derived.Test.YtbpdchlbhfjddaaGreatJ6
import Derived.Test.YtbpdchlbhfjddaaGreatJ7
import Derived.Test.YtbpdchlbhfjddaaGreatJ9
import Derived.Test.YtbpdchlbhfjddaaGreatJ10
namespace Go.Proofs.YtbpdchlbhfjddaaGreat
set_option linter.unusedSimpArgs false
set_option linter.unusedVariables false
open Go.RowKit

/-- Nothing but some blocks has changed, new ones aside. -/
structure Aside (S : Nat → Prop) (w w' : World) : Prop where
  os : w'.os = w.os
  tape : w'.tape = w.tape
  output : w'.output = w.output
  size : w.heap.size ≤ w'.heap.size
  block : ∀ b, b < w.heap.size → ¬ S b → w'.heap[b]? = w.heap[b]?
theorem Aside.refl (S : Nat → Prop) (w : World) : Aside S w w := ⟨rfl, rfl, rfl, Nat.le_refl _, fun _ _ _ => rfl⟩
theorem Aside.trans {S : Nat → Prop} {a b c : World} (h : Aside S a b) (k : Aside S b c) : Aside S a c :=
  ⟨k.os.trans h.os, k.tape.trans h.tape, k.output.trans h.output, Nat.le_trans h.size k.size, fun i hi hn => (k.block i (Nat.lt_of_lt_of_le hi h.size) hn).trans (h.block i hi hn)⟩
theorem Aside.of_below {S : Nat → Prop} {a w' : World} {B : Nat} (h : Below B a w') (hB : a.heap.size ≤ B) : Aside S a w' := ⟨h.os, h.tape, h.output, h.size, fun b hb _ => h.block b (by omega)⟩
theorem Aside.of_grown {S : Nat → Prop} {w w' : World} {m : Nat} (h : w.grownBy w' (some m)) (hm : S m) : Aside S w w' := ⟨h.os, h.tape, h.output, h.size, fun b hb hn => h.block b hb (fun e => hn (by simpa using (Option.some.inj e) ▸ hm))⟩
theorem Aside.set {S : Nat → Prop} (w : World) (p : Addr) (v : Value) (h : S p.block) : Aside S w (w.setCell p v) :=
  ⟨rfl, rfl, rfl, by rw [size_set]; exact Nat.le_refl _, fun b _ hn => Below.heap_setCell _ _ _ _ (fun e => hn (by rw [e]; exact h))⟩
/-- What is known stays known where the kids' blocks stay. -/
theorem KidsAt.mono {w w' : World} {P : Nat → Prop} {b o : Nat} {ks : List V} (h : KidsAt w P b o ks) (e : ∀ k, P k → w'.heap[k]? = w.heap[k]?) : KidsAt w' P b o ks := by
  obtain ⟨h1, h2, C, h3, h4⟩ := h
  exact ⟨h1, h2, C, fun i hi j hj => (World.cell?_of_block (w := w) (a := ⟨b, o + i * 5 + j, none⟩) (e b h1)).trans (h3 i hi j hj), fun i hi => (h4 i hi).mono e⟩
theorem KnOk.mono {w w' : World} {P : Nat → Prop} {ow : V → Nat} {G : Value → Option Value} (h : KnOk w P ow G []) (e : ∀ k, P k → w'.heap[k]? = w.heap[k]?) : KnOk w' P ow G [] := by
  intro b o n v hv
  rcases h b o n v hv with ⟨f, hf, -⟩ | h1
  · cases hf
  · exact .inr fun L hL hK => h1 L hL (hK.mono fun k hk => (e k hk).symm)

theorem Copier.of_block {w w' : World} {g m : Nat} {left : Int} (h : Copier w g m left) (e : w'.heap[g]? = w.heap[g]?) : Copier w' g m left := by
  obtain ⟨h0, h1, h2, h3, h4, h5⟩ := h
  exact ⟨(World.cell?_of_block (w := w) (a := ⟨g, 0, none⟩) e).trans h0, (World.cell?_of_block (w := w) (a := ⟨g, 1, none⟩) e).trans h1, (World.cell?_of_block (w := w) (a := ⟨g, 2, none⟩) e).trans h2, (World.cell?_of_block (w := w) (a := ⟨g, 3, none⟩) e).trans h3, (World.cell?_of_block (w := w) (a := ⟨g, 4, none⟩) e).trans h4, (World.frozen?_of_block (w := w) (a := ⟨g, 4, none⟩) e).trans h5⟩

set_option maxRecDepth 20000 in
set_option maxHeartbeats 800000 in
theorem copier_more (x : V) (w : World) (P : Nat → Prop) (v : Value) (g m : Nat) (left : Int) (G : Value → Option Value) (hs : szV x ≤ 1048576) (hR : Rep w P x v) (hP : ∀ b, P b → b < w.heap.size ∧ Apart w b) (hPg : ∀ b, P b → b ≠ g) (hgm : m ≠ g) (hg : g < w.heap.size) (hC : Copier w g m left) (hO : OwnsK w (fun v => ∃ b o n, v = pk b o n ∧ P b) m G) (hK : KnOk w P copyN G []) (hl0 : (wV copyN x : Int) ≤ left) (hl1 : left ≤ 17179869184) :
    Calls Tryz.prog 23 #[.pointer (some ⟨g, 0, none⟩), v] w fun e w' => ∃ (na ka : Option Addr) (nc kc : Nat), e = .returned (.tuple #[.agg #[.int .i64 x.sort, .int .i64 x.num, .string x.text, .slice na x.names.length nc, .slice ka x.kids.length kc], .bool true]) ∧ Aside (fun b => b = g ∨ b = m) w w' ∧ Copier w' g m (left - wV copyN x) ∧ (∃ G', OwnsK w' (fun v => ∃ b o n, v = pk b o n ∧ P b) m G' ∧ KnOk w' P copyN G' []) ∧
    Rep w' (fun b => w.heap.size ≤ b ∧ b < w'.heap.size) x (.agg #[.int .i64 x.sort, .int .i64 x.num, .string x.text, .slice na x.names.length nc, .slice ka x.kids.length kc]) ∧
    ∃ lab : Nat → List Nat, (∀ b, lab b ≠ [] → w.heap.size ≤ b ∧ b < w'.heap.size) ∧ LRep w' lab [] x (.agg #[.int .i64 x.sort, .int .i64 x.num, .string x.text, .slice na x.names.length nc, .slice ka x.kids.length kc]) := by
  obtain ⟨p0, p1, p2, p3, p4, pf⟩ := hC
  obtain ⟨na0, ka0, nc0, kc0, rfl, -⟩ := hR.form
  have hmne : ∀ b, P b → b ≠ m := fun b hb e => by
    obtain ⟨es, clock, h1, -⟩ := hO
    obtain ⟨⟨c, t, f, h2⟩, -⟩ := (hP b hb).2
    rw [e, h1] at h2
    cases h2
  have hw := copy_cnt x
  have hc := cntV_sz x
  go_enter Tryz.func23, Tryz.ntmps23
  go_wp2_with fail
  obtain ⟨O, hOO⟩ : ∃ O, O = Obj.cells #[.int .i64 x.sort, .int .i64 x.num, .string x.text, .slice na0 x.names.length nc0, .slice ka0 x.kids.length kc0] 58 := ⟨_, rfl⟩
  rw [← hOO]
  obtain ⟨O2, hO2⟩ : ∃ O, O = Obj.cells #[.int .i64 0, .int .i64 0, .string ⟨#[]⟩, .slice none 0 0, .slice none 0 0] 58 := ⟨_, rfl⟩
  rw [← hO2]
  have hBX := below_box2 w O O2
  have r0 : ((w.alloc O).alloc O2).cell? ⟨w.heap.size, 0, none⟩ = some (.int .i64 x.sort) := by subst hOO; simp
  have r1 : ((w.alloc O).alloc O2).cell? ⟨w.heap.size, 1, none⟩ = some (.int .i64 x.num) := by subst hOO; simp
  have r2 : ((w.alloc O).alloc O2).cell? ⟨w.heap.size, 2, none⟩ = some (.string x.text) := by subst hOO; simp
  have r3 : ((w.alloc O).alloc O2).cell? ⟨w.heap.size, 3, none⟩ = some (.slice na0 x.names.length nc0) := by subst hOO; simp
  have r4 : ((w.alloc O).alloc O2).cell? ⟨w.heap.size, 4, none⟩ = some (.slice ka0 x.kids.length kc0) := by subst hOO; simp
  have rw5 : Row5 ((w.alloc O).alloc O2) (w.heap.size + 1) (.int .i64 0) (.int .i64 0) (.string ⟨#[]⟩) (.slice none 0 0) (.slice none 0 0) := by subst hO2; have := Row5.new (w.alloc O) (.int .i64 0) (.int .i64 0) (.string ⟨#[]⟩) (.slice none 0 0) (.slice none 0 0); simpa using this
  have zA : ((w.alloc O).alloc O2).heap.size = w.heap.size + 1 + 1 := by simp
  generalize hwA : (w.alloc O).alloc O2 = wA at *
  have hkeep : ∀ k, k < w.heap.size → wA.heap[k]? = w.heap[k]? := fun k hk => hBX.block k hk
  have hW : ∀ W, Below wA.heap.size wA W → Calls Tryz.prog 44 #[scalesV 43 17179869185 17179869184 m, _] W _ := fun W hb =>
    weigh_any 43 copyN copyBytes_fn callBytes x W P _ 17179869185 17179869184 m G (hR.mono fun k hk => (hb.block k (by have := (hP k hk).1; omega)).trans (hkeep k (hP k hk).1)) (fun b hb' => ⟨by have := hb.size; have := (hP b hb').1; omega, (hP b hb').2.of_block ((hb.block b (by have := (hP b hb').1; omega)).trans (hkeep b (hP b hb').1))⟩) (hO.of_block ((hb.block m (by have := hO.lt; omega)).trans (hkeep m hO.lt))) (hK.mono fun k hk => (hb.block k (by have := (hP k hk).1; omega)).trans (hkeep k (hP k hk).1)) (by omega) (by omega) (by omega)
  have HW := hid_of hW
  clear hW
  have q0 := (hBX.cell (p := ⟨g, 0, none⟩) hg).trans p0
  have q1 := (hBX.cell (p := ⟨g, 1, none⟩) hg).trans p1
  have q2 := (hBX.cell (p := ⟨g, 2, none⟩) hg).trans p2
  have q3 := (hBX.cell (p := ⟨g, 3, none⟩) hg).trans p3
  have q4 := (hBX.cell (p := ⟨g, 4, none⟩) hg).trans p4
  have qf : wA.frozen? ⟨g, 4, none⟩ = false := by rw [← pf]; simp only [World.frozen?, hkeep g hg]
  clear p0 p1 p2 p3 p4 pf hwA
  go_cut [6, 7] (fun a b wx => a = .int .i64 (wV copyN x : Nat) ∧ b = .bool true ∧ wA.grownBy wx (some m) ∧ ∃ G', OwnsK wx (fun v => ∃ b o n, v = pk b o n ∧ P b) m G' ∧ KnOk wA P copyN G' [])
  case first =>
    go_region_with (first
      | (
        go_at_call 44
        refine (HW.out _ (Below.refl _ _).drew).mono ?_
        rintro e w2 ⟨rfl, hkn, hg2⟩
        have hg2' := grown_undrew hg2
        have HK2 := hid_of hkn
        clear hg2 hkn))
    all_goals
      go_wp2_with fail
      go_meet
      case rel => exact ⟨rfl, rfl, hg2', HK2.out.elim fun G' h => ⟨G', h.1, h.2.mono fun _ _ => rfl⟩⟩
  case rest =>
  obtain ⟨rfl, rfl, hg2, G', hO', hK'⟩ := hcut
  have hml := hO.lt
  have HK' := hid_of (And.intro hO' hK')
  clear hO' hK'
  have z2 := hg2.size
  have s0 := (hg2.cell_far ⟨w.heap.size, 0, none⟩ (by show w.heap.size < _; omega) (by have := hO.lt; simp; omega)).trans r0
  have s1 := (hg2.cell_far ⟨w.heap.size, 1, none⟩ (by show w.heap.size < _; omega) (by have := hO.lt; simp; omega)).trans r1
  have s2 := (hg2.cell_far ⟨w.heap.size, 2, none⟩ (by show w.heap.size < _; omega) (by have := hO.lt; simp; omega)).trans r2
  have s3 := (hg2.cell_far ⟨w.heap.size, 3, none⟩ (by show w.heap.size < _; omega) (by have := hO.lt; simp; omega)).trans r3
  have s4 := (hg2.cell_far ⟨w.heap.size, 4, none⟩ (by show w.heap.size < _; omega) (by have := hO.lt; simp; omega)).trans r4
  have t4 := (hg2.cell_far ⟨g, 4, none⟩ (by show g < _; omega) (by simp; omega)).trans q4
  have tf : wc.frozen? ⟨g, 4, none⟩ = false := by rw [← qf]; simp only [World.frozen?, hg2.block g (by omega) (by simp; omega)]
  go_wp2_with fail
  have ad : Aside (fun b => b = g ∨ b = m) w (wc.setCell ⟨g, 4, none⟩ (.int .i64 (left - (wV copyN x : Nat)))) := ((Aside.of_below hBX (Nat.le_refl _)).trans (Aside.of_grown hg2 (.inr rfl))).trans (Aside.set _ _ _ (.inl rfl))
  have cd : Copier (wc.setCell ⟨g, 4, none⟩ (.int .i64 (left - (wV copyN x : Nat)))) g m (left - (wV copyN x : Nat)) := by
    have far : ∀ j u, wA.cell? ⟨g, j, none⟩ = some u → wc.cell? ⟨g, j, none⟩ = some u := fun j u h => (hg2.cell_far ⟨g, j, none⟩ (by show g < _; omega) (by simp; omega)).trans h
    refine ⟨?_, ?_, ?_, ?_, World.cell?_setCell_same _ _ _ t4, by simpa using tf⟩
    · rw [World.cell?_setCell_other _ _ _ _ (by simp)]; exact far 0 _ q0
    · rw [World.cell?_setCell_other _ _ _ _ (by simp)]; exact far 1 _ q1
    · rw [World.cell?_setCell_other _ _ _ _ (by simp)]; exact far 2 _ q2
    · rw [World.cell?_setCell_other _ _ _ _ (by simp)]; exact far 3 _ q3
  have kd : OwnsK (wc.setCell ⟨g, 4, none⟩ (.int .i64 (left - (wV copyN x : Nat)))) (fun v => ∃ b o n, v = pk b o n ∧ P b) m G' := HK'.out.1.of_block (Below.heap_setCell _ _ _ _ hgm)
  have zd : (wc.setCell ⟨g, 4, none⟩ (.int .i64 (left - (wV copyN x : Nat)))).heap.size = wc.heap.size := by simp [World.setCell]
  have rd : Row5 (wc.setCell ⟨g, 4, none⟩ (.int .i64 (left - (wV copyN x : Nat)))) (w.heap.size + 1) (.int .i64 0) (.int .i64 0) (.string ⟨#[]⟩) (.slice none 0 0) (.slice none 0 0) := rw5.of_block ((Below.heap_setCell _ _ _ _ (by show w.heap.size + 1 ≠ g; omega)).trans (hg2.block _ (by omega) (by have := hO.lt; simp; omega)))
  clear hg2 s0 s1 s2 s3 s4 t4 tf q0 q1 q2 q3 q4 qf r0 r1 r2 r3 r4 rw5 HW
  have HD := hid_of (And.intro cd kd)
  clear cd kd
  generalize wc.setCell ⟨g, 4, none⟩ (.int .i64 (left - (wV copyN x : Nat))) = wd at *
  refine (copyValue_l x wd w.heap.size _ hs ((hR.mono fun k hk => ad.block k (hP k hk).1 (fun h => h.elim (hPg k hk) (hmne k hk))).sub fun k hk => (hP k hk).1) ad.size).mono ?_
  rintro e w3 ⟨na, ka, nc, kc, rfl, hb3, hr3, lab, hl1, hl2⟩
  have z3 := hb3.size
  have r3 := rd.of_block (hb3.block _ (by omega))
  obtain ⟨l0, l1, l2, l3, l4⟩ := r3.five
  have hlf := r3.frozen
  have HR := hid_of (And.intro hr3 (And.intro hl1 hl2))
  clear hr3 hl1 hl2
  go_wp2_with fail
  have hfin := r3.put (.int .i64 x.sort) (.int .i64 x.num) (.string x.text) (.slice na x.names.length nc) (.slice ka x.kids.length kc)
  have hsz := put5_size w3 (w.heap.size + 1) 0 (.int .i64 x.sort) (.int .i64 x.num) (.string x.text) (.slice na x.names.length nc) (.slice ka x.kids.length kc)
  have hblk := put5_block w3 (w.heap.size + 1) 0 (.int .i64 x.sort) (.int .i64 x.num) (.string x.text) (.slice na x.names.length nc) (.slice ka x.kids.length kc)
  obtain ⟨hr3, hl1, hl2⟩ := HR.out
  have bp := put5_below (Below.refl (w.heap.size + 1) w3) (Nat.le_refl _) 0 (.int .i64 x.sort) (.int .i64 x.num) (.string x.text) (.slice na x.names.length nc) (.slice ka x.kids.length kc)
  have fa : Aside (fun b => b = g ∨ b = m) w (put5 w3 (w.heap.size + 1) 0 (.int .i64 x.sort) (.int .i64 x.num) (.string x.text) (.slice na x.names.length nc) (.slice ka x.kids.length kc)) := ⟨bp.os.trans (hb3.os.trans ad.os), bp.tape.trans (hb3.tape.trans ad.tape), bp.output.trans (hb3.output.trans ad.output), Nat.le_trans (Nat.le_trans ad.size hb3.size) (Nat.le_of_eq hsz.symm), fun b hb hn => (hblk b (by omega)).trans ((hb3.block b (by have := ad.size; omega)).trans (ad.block b hb hn))⟩
  have fb : Copier (put5 w3 (w.heap.size + 1) 0 (.int .i64 x.sort) (.int .i64 x.num) (.string x.text) (.slice na x.names.length nc) (.slice ka x.kids.length kc)) g m (left - (wV copyN x : Nat)) := HD.out.1.of_block ((hblk g (by omega)).trans (hb3.block g (by have := ad.size; omega)))
  have fd : ∃ G', OwnsK (put5 w3 (w.heap.size + 1) 0 (.int .i64 x.sort) (.int .i64 x.num) (.string x.text) (.slice na x.names.length nc) (.slice ka x.kids.length kc)) (fun v => ∃ b o n, v = pk b o n ∧ P b) m G' ∧ KnOk (put5 w3 (w.heap.size + 1) 0 (.int .i64 x.sort) (.int .i64 x.num) (.string x.text) (.slice na x.names.length nc) (.slice ka x.kids.length kc)) P copyN G' [] := ⟨G', HD.out.2.of_block ((hblk m (by omega)).trans (hb3.block m (by have := ad.size; omega))), HK'.out.2.mono fun k hk => (((hblk k (by have := (hP k hk).1; omega)).trans ((hb3.block k (by have := ad.size; have := (hP k hk).1; omega)).trans (ad.block k (hP k hk).1 (fun h => h.elim (hPg k hk) (hmne k hk))))).trans (hkeep k (hP k hk).1).symm)⟩
  have zad := ad.size
  refine bodyPost_ret (v := .tuple #[.agg #[.int .i64 x.sort, .int .i64 x.num, .string x.text, .slice na x.names.length nc, .slice ka x.kids.length kc], .bool true]) ?res rfl ⟨na, ka, nc, kc, rfl, fa, fb, fd, (hr3.mono fun k hk => hblk k (by omega)).sub fun k hk => ⟨by omega, Nat.lt_of_lt_of_eq hk.2 hsz.symm⟩, lab, fun b hb => ⟨by have := (hl1 b hb).1; omega, Nat.lt_of_lt_of_eq (hl1 b hb).2 hsz.symm⟩, hl2.keep fun b hb _ => hblk b (by have := hl1 b hb; omega)⟩
  case res =>
    obtain ⟨p0, p1, p2, p3, p4⟩ := hfin.five
    simp only [put5] at p0 p1 p2 p3 p4
    clear hfin hblk hsz r3 hr3 hl1 hl2 fa fb fd bp
    simp [results, Tryz.results23, go_sem, p0, p1, p2, p3, p4]
end Go.Proofs.YtbpdchlbhfjddaaGreat

namespace Go.Proofs.YtbpdchlbhfjddaaGreat
set_option linter.unusedSimpArgs false
set_option linter.unusedVariables false
open Go.RowKit

theorem owns_same {w w' : World} {base e sz n : Nat} {v : Value} {xs : List Value} (h : w.ownsRow base e sz v n xs) (hb : ∀ b, v.ownBlock = some b → w'.heap[b]? = w.heap[b]?) : w'.ownsRow base e sz v n xs := by
  refine ⟨h.1, h.2.imp id ?_⟩
  rintro ⟨g, cap, cur, rfl, hg, hh, hr⟩
  exact ⟨g, cap, cur, rfl, hg, (hb g rfl).trans hh, hr⟩
/-- Cells that a call gathers itself. -/
def OwnCs (w : World) (lo : Nat) (P : Nat → Prop) (cs : List Ce) (v : Value) (xs : List Value) : Prop :=
  w.ownsRow lo 62 6 v cs.length xs ∧ ∀ i, i < cs.length → CeRep w P (cth cs i) (.agg #[xs.getD (i * 6) undef, xs.getD (i * 6 + 1) undef, xs.getD (i * 6 + 2) undef, xs.getD (i * 6 + 3) undef, xs.getD (i * 6 + 4) undef, xs.getD (i * 6 + 5) undef])
theorem OwnCs.nil (w : World) (lo : Nat) (P : Nat → Prop) : OwnCs w lo P [] (.slice none 0 0) [] := ⟨World.ownsRow_nil _ _ _ _, fun i hi => by simp at hi⟩
theorem OwnCs.put {w1 w3 : World} {lo : Nat} {P : Nat → Prop} {cs : List Ce} {v u : Value} {xs : List Value} {f : Ce} {d0 d1 d2 d3 d4 d5 : Value} (h : OwnCs w1 lo P cs v xs) (hf : CeRep w1 P f (.agg #[d0, d1, d2, d3, d4, d5])) (hb : ∀ k, P k → w3.heap[k]? = w1.heap[k]?)
    (hown : w3.ownsRow lo 62 6 u (cs.length + 1) (xs ++ [d0, d1, d2, d3, d4, d5])) : OwnCs w3 lo P (cs ++ [f]) u (xs ++ [d0, d1, d2, d3, d4, d5]) := by
  have hxl := h.1.1
  refine ⟨by simpa using hown, fun i hi => ?_⟩
  simp only [List.length_append, List.length_singleton] at hi
  by_cases e : i = cs.length
  · have hg : ∀ j, (xs ++ [d0, d1, d2, d3, d4, d5]).getD (i * 6 + j) undef = [d0, d1, d2, d3, d4, d5].getD j undef := fun j => by
      rw [List.getD_eq_getElem?_getD, List.getElem?_append_right (by omega), List.getD_eq_getElem?_getD, hxl, e, show cs.length * 6 + j - cs.length * 6 = j by omega]
    have g0 := hg 0
    rw [Nat.add_zero] at g0
    rw [g0, hg 1, hg 2, hg 3, hg 4, hg 5]
    have : cth (cs ++ [f]) i = f := by simp [cth, List.getD_eq_getElem?_getD, e]
    rw [this]
    exact hf.mono hb
  · have hik : i < cs.length := by omega
    have hg : ∀ j, j < 6 → (xs ++ [d0, d1, d2, d3, d4, d5]).getD (i * 6 + j) undef = xs.getD (i * 6 + j) undef := fun j hj => by
      rw [List.getD_eq_getElem?_getD, List.getElem?_append_left (by omega), List.getD_eq_getElem?_getD]
    have g0 := hg 0 (by omega)
    rw [Nat.add_zero] at g0
    rw [g0, hg 1 (by omega), hg 2 (by omega), hg 3 (by omega), hg 4 (by omega), hg 5 (by omega)]
    have : cth (cs ++ [f]) i = cth cs i := by simp [cth, List.getD_eq_getElem?_getD, List.getElem?_append_left hik]
    rw [this]
    exact (h.2 i hik).mono hb
theorem OwnCs.keep {w w' : World} {lo : Nat} {P : Nat → Prop} {cs : List Ce} {v : Value} {xs : List Value} (h : OwnCs w lo P cs v xs) (hv : ∀ b, v.ownBlock = some b → w'.heap[b]? = w.heap[b]?) (hP : ∀ k, P k → w'.heap[k]? = w.heap[k]?) : OwnCs w' lo P cs v xs :=
  ⟨owns_same h.1 hv, fun i hi => (h.2 i hi).mono hP⟩

/-- A cell whose value lies elsewhere. -/
def SCe (P : Nat → Prop) (X : Nat → Ce) (w : World) (i : Nat) (c : Nat → Value) : Prop := c 0 = .string (X i).name ∧ Rep w P (X i).val (.agg #[c 1, c 2, c 3, c 4, c 5]) ∧ (X i).name.size ≤ maxLen
/-- Cells in new memory, their values elsewhere. -/
def NCells (w : World) (lo : Nat) (P : Nat → Prop) (cs : List Ce) (a : Option Addr) : Prop :=
  0 < cs.length → ∃ b, a = some ⟨b, 0, none⟩ ∧ lo ≤ b ∧ b < w.heap.size ∧ (∀ i, w.frozen? ⟨b, i, none⟩ = false) ∧ GRow w 6 cs.length b 0 (SCe P (cth cs))
theorem OwnCs.rep {w : World} {lo : Nat} {P : Nat → Prop} {cs : List Ce} {v : Value} {xs : List Value} (h : OwnCs w lo P cs v xs) : ∃ (a : Option Addr) (c : Nat), v = .slice a cs.length c ∧ cs.length ≤ c ∧ NCells w lo P cs a := by
  obtain ⟨h1, h2⟩ := h
  have h1' := h1
  rcases h1.2 with ⟨rfl, h0⟩ | ⟨g, cap, cur, rfl, hlo, hg, hn, _⟩
  · exact ⟨none, 0, by rw [h0], by omega, fun h => by omega⟩
  · have hlt : g < w.heap.size := (Array.getElem?_eq_some_iff.1 hg).1
    refine ⟨_, cap, rfl, hn, fun _ => ⟨g, rfl, hlo, hlt, fun i => h1'.frozenAt i, fun i j => xs.getD (i * 6 + j) undef, fun i hi j hj => ?_, fun i hi => (h2 i hi).pieces⟩⟩
    have hx := h1.1
    have := h1.cellAt (i * 6 + j) (by omega)
    show _ = some (xs.getD (i * 6 + j) undef)
    rw [Nat.zero_add, this, List.getD_eq_getElem?_getD, List.getElem?_eq_getElem (by omega)]
    rfl
theorem vNull_rep (w : World) (P : Nat → Prop) : Rep w P vNull (.agg #[.int .i64 1, .int .i64 0, .string ⟨#[]⟩, .slice none 0 0, .slice none 0 0]) :=
  Rep.of_kids ⟨fun h => absurd rfl h, fun i => Nat.zero_le _, Nat.zero_le _⟩ (Nat.le_refl _) (Nat.zero_le _) (by simp) ⟨by simp, 0, 0, fun _ _ => undef, fun h => absurd rfl h, fun i hi => by simp at hi, fun i hi => by simp at hi⟩

theorem block_new {w : World} {N : Nat} (c : Array Value) (T : TypeId) (h : w.heap.size = N) : (w.alloc (.cells c T)).heap[N]? = some (.cells c T (0, 0)) := by subst h; exact heap_alloc_new w _
theorem block_old {w : World} {N : Nat} {x : Option Obj} (o : Obj) (h : w.heap[N]? = x) (hn : N < w.heap.size) : (w.alloc o).heap[N]? = x := ((below_box w o).block N hn).trans h
theorem set_box {w : World} {N : Nat} {cs : Array Value} {T : TypeId} (h : w.heap[N]? = some (.cells cs T (0, 0))) (i : Nat) (d : Value) : (w.setCell ⟨N, i, none⟩ d).heap[N]? = some (.cells (cs.setIfInBounds i d) T (0, 0)) := by
  show (w.heap.modify N _)[N]? = _
  rw [Array.getElem?_modify]
  simp [h]
theorem set_box3 {w : World} {N : Nat} {a b c : Value} {T : TypeId} (h : w.heap[N]? = some (.cells #[a, b, c] T (0, 0))) (d : Value) : (w.setCell ⟨N, 2, none⟩ d).heap[N]? = some (.cells #[a, b, d] T (0, 0)) := set_box h 2 d
/-- Three cells of a box are written. -/
def put3 (w : World) (N : Nat) (a b c : Value) : World := ((w.setCell ⟨N, 0, none⟩ a).setCell ⟨N, 1, none⟩ b).setCell ⟨N, 2, none⟩ c
theorem put3_box {w : World} {N : Nat} {x y z : Value} {T : TypeId} (h : w.heap[N]? = some (.cells #[x, y, z] T (0, 0))) (a b c : Value) : (put3 w N a b c).heap[N]? = some (.cells #[a, b, c] T (0, 0)) := set_box (set_box (set_box h 0 a) 1 b) 2 c
theorem put3_size (w : World) (N : Nat) (a b c : Value) : (put3 w N a b c).heap.size = w.heap.size := by unfold put3; rw [size_set, size_set, size_set]
theorem put3_block (w : World) (N : Nat) (a b c : Value) (k : Nat) (hk : k ≠ N) : (put3 w N a b c).heap[k]? = w.heap[k]? := by
  unfold put3
  rw [Below.heap_setCell _ _ _ _ hk, Below.heap_setCell _ _ _ _ hk, Below.heap_setCell _ _ _ _ hk]
theorem put3_below {B : Nat} {a w : World} (h : Below B a w) {N : Nat} (hN : B ≤ N) (x y z : Value) : Below B a (put3 w N x y z) := ((h.setCell (p := ⟨N, 0, none⟩) hN _).setCell (p := ⟨N, 1, none⟩) hN _).setCell (p := ⟨N, 2, none⟩) hN _

set_option maxRecDepth 20000 in
set_option maxHeartbeats 1600000 in
theorem cutRow_any (t : T) (r : Ro) (w : World) (B : Nat) (P : Nat → Prop) (u v : Value) (hT : TRep w (· < B) t u) (hB : B ≤ w.heap.size) (hR : RoRep w P r v) (hP : ∀ b, P b → b < w.heap.size) (hfl : t.fields.length ≤ 1048576) :
    Calls Tryz.prog 40 #[u, v] w fun e w' => ∃ (ca : Option Addr) (cc : Nat), e = .returned (.agg #[.string r.type, .int .i64 r.id, .slice ca (cutR t r).cells.length cc]) ∧ Below w.heap.size w w' ∧ (cutR t r).cells.length ≤ cc ∧ NCells w' w.heap.size P (cutR t r).cells ca := by
  have hT' := hT
  obtain ⟨fa, fc0, rfl, hK, hfc, -⟩ := hT
  obtain ⟨ra, rc, rfl, hCe, hrc, hrn⟩ := hR
  obtain ⟨i0, hi, hz0, hz1, hz2⟩ := info_parts info_Cell
  have hKl := KF_len t.fields t.fields.length
  have hKF := fun W (h : Below w.heap.size w W) => knownFields_two t W B _ (hT'.under (h.mono hB)) (by have := h.size; omega) hfl
  obtain ⟨KL, hKL⟩ : ∃ KL, KL = KF t.fields t.fields.length := ⟨_, rfl⟩
  have hcut : (cutR t r).cells = cutL KL r.cells := by rw [hKL]; rfl
  rw [← hKL] at hKF hKl
  rw [hcut, cutL_len]
  clear hKL hcut
  go_enter Tryz.func40, Tryz.ntmps40
  go_wp2_with fail
  refine (cellsOfRow_any _ _ _ _).mono ?_
  rintro e w1 ⟨rfl, hw1⟩
  have b1 : Below w.heap.size w w1 := by rw [hw1]; exact ((((((Below.refl w.heap.size w).alloc (Nat.le_refl _) _).alloc (by simp) _).alloc (by simp; omega) _).alloc (by simp; omega) _)).alloc (by simp; omega) _
  have z1 : w1.heap.size = w.heap.size + 5 := by rw [hw1]; simp
  have B0 : w1.heap[w.heap.size]? = some (.cells #[.string t.name, .string t.key, .slice fa t.fields.length fc0] 76 (0, 0)) := by rw [hw1]; exact block_old _ (block_old _ (block_old _ (block_old _ (block_new _ _ (by simp)) (by simp; try omega)) (by simp; try omega)) (by simp; try omega)) (by simp; try omega)
  have B2 : w1.heap[w.heap.size + 1 + 1]? = some (.cells #[.string ⟨#[]⟩, .int .i64 0, .slice none 0 0] 51 (0, 0)) := by rw [hw1]; exact block_old _ (block_old _ (block_new _ _ (by simp)) (by simp; try omega)) (by simp; try omega)
  have B3 : w1.heap[w.heap.size + 1 + 1 + 1]? = some (.cells #[.string r.type, .int .i64 r.id, .slice none 0 0] 51 (0, 0)) := by rw [hw1]; exact block_old _ (block_new _ _ (by simp)) (by simp; try omega)
  have B4 : w1.heap[w.heap.size + 1 + 1 + 1 + 1]? = some (.cells #[.string r.type, .int .i64 r.id, .slice ra r.cells.length rc] 51 (0, 0)) := by rw [hw1]; exact block_new _ _ (by simp)
  have q0 := (box_at B0 0 (by simp)).1
  have q1 := (box_at B0 1 (by simp)).1
  have q2 := (box_at B0 2 (by simp)).1
  rw [show ((((w.alloc (.cells #[.string t.name, .string t.key, .slice fa t.fields.length fc0] 76)).alloc (.cells #[.string r.type, .int .i64 r.id, .slice ra r.cells.length rc] 51)).alloc (.cells #[.string ⟨#[]⟩, .int .i64 0, .slice none 0 0] 51)).alloc (.cells #[.string r.type, .int .i64 r.id, .slice none 0 0] 51)).heap.size = w.heap.size + 1 + 1 + 1 + 1 by simp]
  clear hw1
  have hKw := hKF w1 b1
  clear hKF
  go_wp2_with fail
  refine hKw.mono ?_
  rintro e w2 ⟨ka, kc, rfl, hb2, hkc, hFs⟩
  have z2 := hb2.size
  have b2 := b1.trans (hb2.mono (by omega))
  have C2 := (hb2.block _ (by omega)).trans B2
  have C3 := (hb2.block _ (by omega)).trans B3
  have C4 := (hb2.block _ (by omega)).trans B4
  clear B0 B2 B3 B4 q0 q1 q2 b1 hb2 hKw
  obtain ⟨h64, C, hA, hr⟩ := hFs
  go_wp2_with fail
  go_loopw [21] (fun i wr => ∃ (k : Nat) (v : Value) (xs : List Value), k ≤ KL.length ∧ i = .int .i64 k ∧ wr.heap[w.heap.size + 1 + 1 + 1]? = some (.cells #[.string r.type, .int .i64 r.id, v] 51 (0, 0)) ∧ OwnCs wr w2.heap.size P (cutL (KL.take k) r.cells) v xs ∧ Aside (fun b => b = w.heap.size + 1 + 1 + 1) w2 wr) (fun i _ => KL.length - (intOf i).toNat)
  case atStart => exact ⟨0, .slice none 0 0, [], Nat.zero_le _, rfl, C3, by simpa [cutL] using OwnCs.nil w2 w2.heap.size P, Aside.refl _ _⟩
  case round =>
    clear C3
    obtain ⟨k, v, xs, hk, rfl, hv, hown, has⟩ := hrel
    obtain ⟨w0, rfl⟩ : ∃ x, x = wr := ⟨wr, rfl⟩
    have zs := has.size
    have D2 := (has.block _ (by omega) (by omega)).trans C2
    have D4 := (has.block _ (by omega) (by omega)).trans C4
    obtain ⟨va, vc, rfl⟩ : ∃ va vc, v = .slice va k vc := by
      rcases hown.1.2 with ⟨rfl, h0⟩ | ⟨g, cap, cur, rfl, -⟩
      · rw [cutL_len, List.length_take] at h0
        exact ⟨none, 0, by rw [show k = 0 by omega]⟩
      · exact ⟨some ⟨g, 0, none⟩, cap, by rw [cutL_len, List.length_take, Nat.min_eq_left hk]⟩
    have HO := hid_of hown
    have HA := hid_of has
    have HV := hid_of hv
    by_cases hlt : k < KL.length
    · obtain ⟨b, off, rfl, hbB, hc⟩ := hA (by omega)
      have hbb : w0.heap[b]? = w2.heap[b]? := has.block b (by omega) (by omega)
      obtain ⟨na, nc, ev, -, -, hnm, -⟩ := hr k hlt
      simp only [Value.agg.injEq, Array.mk.injEq, List.cons.injEq, and_true] at ev
      obtain ⟨e0, e1, e2, e3, e4, e5, e6, e7⟩ := ev
      have hck : ∀ j, j < 8 → w0.cell? ⟨b, off + k * 8 + j, none⟩ = some (C k j) := fun j hj => (World.cell?_of_block (w := w2) (a := ⟨b, off + k * 8 + j, none⟩) hbb).trans (hc k hlt j hj)
      have c0 : w0.cell? ⟨b, off + k * 8, none⟩ = some (.string (fth KL k).name) := e0 ▸ hck 0 (by omega)
      have c1 := hck 1 (by omega)
      have c2 := hck 2 (by omega)
      have c3 := hck 3 (by omega)
      have c4 := hck 4 (by omega)
      have c5 := hck 5 (by omega)
      have c6 := hck 6 (by omega)
      have c7 := hck 7 (by omega)
      rw [e1] at c1
      rw [e2] at c2
      rw [e3] at c3
      rw [e4] at c4
      rw [e5] at c5
      rw [e6] at c6
      rw [e7] at c7
      have HTK := hid_of (cutL_take KL r.cells k hlt)
      generalize fth KL k = f at *
      clear hck hc e0 e1 e2 e3 e4 e5 e6 e7 hown has hv hr hA
      have hki : (k : Int) < (KL.length : Int) := by omega
      have bA := below_box w0 (.cells #[.string f.name, .string f.of, .bool f.list, .bool f.must, .bool f.far, .bool f.hidden, .bool f.shared, .slice na f.needs.length nc] 78)
      have n0 := block_new (w := w0) #[.string f.name, .string f.of, .bool f.list, .bool f.must, .bool f.far, .bool f.hidden, .bool f.shared, .slice na f.needs.length nc] 78 rfl
      have zA : (w0.alloc (.cells #[.string f.name, .string f.of, .bool f.list, .bool f.must, .bool f.far, .bool f.hidden, .bool f.shared, .slice na f.needs.length nc] 78)).heap.size = w0.heap.size + 1 := by simp
      have hg2 : (w0.alloc (.cells #[.string f.name, .string f.of, .bool f.list, .bool f.must, .bool f.far, .bool f.hidden, .bool f.shared, .slice na f.needs.length nc] 78)).cell? ⟨w.heap.size + 1 + 1 + 1 + 1, 2, none⟩ = some (.slice ra r.cells.length rc) := (box_at ((bA.block _ (by omega)).trans D4) 2 (by simp)).1
      have hPk : ∀ k, P k → w0.heap[k]? = w.heap[k]? := fun k hk => (HA.out.block k (by have := hP k hk; omega) (by have := hP k hk; omega)).trans (b2.block k (hP k hk))
      have hTL := teller_any r f.name (w0.alloc (.cells #[.string f.name, .string f.of, .bool f.list, .bool f.must, .bool f.far, .bool f.hidden, .bool f.shared, .slice na f.needs.length nc] 78)) P (w.heap.size + 1 + 1 + 1 + 1) ra rc hg2 (by omega) (hCe.mono fun k hk => (bA.block k (by have := hP k hk; omega)).trans (hPk k hk)) (fun b hb => by have := hP b hb; omega) hrc
      clear hg2 D4
      go_wp2_with fail
      refine hTL.mono ?_
      rintro e w3 ⟨hb3, hTell⟩
      clear hTL c0 c1 c2 c3 c4 c5 c6 c7
      have z3 := hb3.size
      rw [zA] at z3
      have n1 := (box_at ((hb3.block _ (by omega)).trans n0) 0 (by simp)).1
      have b3 : Below w0.heap.size w0 w3 := bA.trans (hb3.mono (by omega))
      clear hb3 n0 bA zA
      have hV3 : w3.heap[w.heap.size + 1 + 1 + 1]? = some (.cells #[.string r.type, .int .i64 r.id, .slice va k vc] 51 (0, 0)) := (b3.block _ (by omega)).trans HV.out
      have hvo := (box_at hV3 2 (by simp)).1
      have hvf := (box_at hV3 2 (by simp)).2
      have HO3 := hid_of (HO.out.keep (fun b hb => b3.block b (HO.out.1.lt b hb).2) (fun k hk => b3.block k (by have := hP k hk; omega)))
      have HTE : Hid (cutL (KL.take (k + 1)) r.cells = cutL (KL.take k) r.cells ++ [⟨f.name, cellV r.cells f.name⟩]) := HTK.out
      have m1 : w.heap.size + 1 + 1 + 1 < w3.heap.size := by omega
      have m2 : ¬ w3.heap.size = w.heap.size + 1 + 1 + 1 := by omega
      have m3 : ¬ w.heap.size + 1 + 1 + 1 = w3.heap.size := by omega
      have m4 : w0.heap.size < w3.heap.size := by omega
      have m5 : ¬ w3.heap.size = w0.heap.size := by omega
      have m6 : ¬ w0.heap.size = w3.heap.size := by omega
      unfold TellOk at hTell
      cases hf : fc r.cells f.name r.cells.length with
      | none =>
        rw [hf] at hTell
        simp only at hTell
        subst hTell
        have hX : Rep w3 P (cellV r.cells f.name) (.agg #[.int .i64 1, .int .i64 0, .string ⟨#[]⟩, .slice none 0 0, .slice none 0 0]) := by
          have : cellV r.cells f.name = vNull := by unfold cellV; rw [hf]
          rw [this]; exact vNull_rep _ _
        have K1 := block_new (w := w3.alloc (.cells #[.int .i64 1, .int .i64 0, .string ⟨#[]⟩, .slice none 0 0, .slice none 0 0] 58)) #[.string f.name, .int .i64 1, .int .i64 0, .string ⟨#[]⟩, .slice none 0 0, .slice none 0 0] 62 (N := w3.heap.size + 1) (by simp)
        have bx : Below w3.heap.size w3 ((w3.alloc (.cells #[.int .i64 1, .int .i64 0, .string ⟨#[]⟩, .slice none 0 0, .slice none 0 0] 58)).alloc (.cells #[.string f.name, .int .i64 1, .int .i64 0, .string ⟨#[]⟩, .slice none 0 0, .slice none 0 0] 62)) := below_box2 w3 _ _
        have hPx : ∀ k, P k → ((w3.alloc (.cells #[.int .i64 1, .int .i64 0, .string ⟨#[]⟩, .slice none 0 0, .slice none 0 0] 58)).alloc (.cells #[.string f.name, .int .i64 1, .int .i64 0, .string ⟨#[]⟩, .slice none 0 0, .slice none 0 0] 62)).heap[k]? = w3.heap[k]? := fun k hk => bx.block k (by have := hP k hk; omega)
        have HO4 := hid_of (HO3.out.keep (fun b hb => bx.block b (HO3.out.1.lt b hb).2) hPx)
        have HCe : Hid (CeRep ((w3.alloc (.cells #[.int .i64 1, .int .i64 0, .string ⟨#[]⟩, .slice none 0 0, .slice none 0 0] 58)).alloc (.cells #[.string f.name, .int .i64 1, .int .i64 0, .string ⟨#[]⟩, .slice none 0 0, .slice none 0 0] 62)) P ⟨f.name, cellV r.cells f.name⟩ (.agg #[.string f.name, .int .i64 1, .int .i64 0, .string ⟨#[]⟩, .slice none 0 0, .slice none 0 0])) := hid_of ⟨_, _, _, _, _, rfl, hX.mono hPx, hnm⟩
        have hV4' := (bx.block _ m1).trans hV3
        clear hX hPx
        go_wp2_with (at_builtin; refine wpList_append_lies _ rfl _ _ 49 rfl w2.heap.size 62 i0 (.agg #[.string ByteArray.empty, .int .i64 0, .int .i64 0, .string ByteArray.empty, .slice none 0 0, .slice none 0 0]) 6 96 Tryz.underlying49 hi hz0 hz1 hz2 rfl (by decide) (.slice va k vc) k xs rfl ?own ⟨w3.heap.size + 1, 0, none⟩ 1 1 [.string f.name, .int .i64 1, .int .i64 0, .string ⟨#[]⟩, .slice none 0 0, .slice none 0 0] rfl rfl ?c1 ?c2 (by omega) ?c3 (by omega) (by simp; omega) _ rfl ?_)
        case own => have h := HO4.out.1; rw [cutL_len, List.length_take, Nat.min_eq_left hk] at h; exact h
        case c1 => exact World.news_of_block K1
        case c2 => intro u hu; simp at hu; rcases hu with rfl | rfl | rfl | rfl | rfl | rfl <;> rfl
        case c3 => unfold maxLen; omega
        intro g cap w4 hown4 hgrow hat hlt4
        have z4 := hgrow.size
        simp at z4
        have hV4 := (hgrow.block _ (by simp; omega) (fun e => by have := (HO4.out.1.lt _ e.symm).1; omega)).trans hV4'
        have x4 := (box_at hV4 2 (by simp)).1
        have x5 := (box_at hV4 2 (by simp)).2
        have HG := hid_of (And.intro hown4 (And.intro hgrow hat))
        have HV4 := hid_of hV4
        clear hown4 hgrow hat hV4 hV4' hV3 hvo hvf K1
        go_wp2_with fail
        go_roundw
        case measure => simp [intOf]; omega
        case rel =>
          obtain ⟨hown4, hgrow, hat⟩ := HG.out
          have hl : (cutL (KL.take k) r.cells).length + 1 = k + 1 := by rw [cutL_len, List.length_take, Nat.min_eq_left hk]
          have hgb : ∀ b, b < w3.heap.size → (Value.slice va k vc).ownBlock ≠ some b → w4.heap[b]? = w3.heap[b]? := fun b hb hne => (hgrow.block b (by simp; omega) (fun e => hne e.symm)).trans (bx.block b hb)
          have hgP : ∀ k', P k' → w4.heap[k']? = ((w3.alloc (.cells #[.int .i64 1, .int .i64 0, .string ⟨#[]⟩, .slice none 0 0, .slice none 0 0] 58)).alloc (.cells #[.string f.name, .int .i64 1, .int .i64 0, .string ⟨#[]⟩, .slice none 0 0, .slice none 0 0] 62)).heap[k']? := fun k' hk' => hgrow.block k' (by have := hP k' hk'; simp; omega) (fun e => by have := (HO4.out.1.lt _ e.symm).1; have := hP k' hk'; omega)
          refine ⟨k + 1, _, xs ++ [.string f.name, .int .i64 1, .int .i64 0, .string ⟨#[]⟩, .slice none 0 0, .slice none 0 0], by omega, by go_num, set_box3 HV4.out _, ?_, ?_⟩
          · rw [HTE.out]
            refine OwnCs.keep (w := w4) (HO4.out.put HCe.out hgP (by rw [hl]; exact hown4)) (fun b hb => Below.heap_setCell _ _ _ _ (fun e => ?_)) (fun k' hk' => Below.heap_setCell _ _ _ _ (fun e => ?_))
            · have := (hown4.lt b hb).1
              have e' : b = w.heap.size + 1 + 1 + 1 := e
              omega
            · have := hP k' hk'
              have e' : k' = w.heap.size + 1 + 1 + 1 := e
              omega
          · refine ⟨hgrow.os.trans (bx.os.trans (b3.os.trans HA.out.os)), hgrow.tape.trans (bx.tape.trans (b3.tape.trans HA.out.tape)), hgrow.output.trans (bx.output.trans (b3.output.trans HA.out.output)), by rw [size_set]; omega, fun b hb hn => ?_⟩
            rw [Below.heap_setCell _ _ _ _ (fun e => hn e)]
            exact (hgb b (by omega) (fun h => by have := (HO4.out.1.lt b h).1; omega)).trans ((b3.block b (by omega)).trans (HA.out.block b hb hn))
      | some jj =>
        rw [hf] at hTell
        simp only at hTell
        obtain ⟨na', ka', nc', kc', rfl, hV⟩ := hTell
        have hxe : cellV r.cells f.name = (cth r.cells jj).val := by unfold cellV; rw [hf]
        generalize (cth r.cells jj).val = x at *
        have hX : Rep w3 P (cellV r.cells f.name) (.agg #[.int .i64 x.sort, .int .i64 x.num, .string x.text, .slice na' x.names.length nc', .slice ka' x.kids.length kc']) := by
          rw [hxe]
          exact hV.mono fun k hk => (b3.block k (by have := hP k hk; omega)).trans ((below_box w0 _).block k (by have := hP k hk; omega)).symm
        clear hV hxe
        have K1 := block_new (w := w3.alloc (.cells #[.int .i64 x.sort, .int .i64 x.num, .string x.text, .slice na' x.names.length nc', .slice ka' x.kids.length kc'] 58)) #[.string f.name, .int .i64 x.sort, .int .i64 x.num, .string x.text, .slice na' x.names.length nc', .slice ka' x.kids.length kc'] 62 (N := w3.heap.size + 1) (by simp)
        have bx : Below w3.heap.size w3 ((w3.alloc (.cells #[.int .i64 x.sort, .int .i64 x.num, .string x.text, .slice na' x.names.length nc', .slice ka' x.kids.length kc'] 58)).alloc (.cells #[.string f.name, .int .i64 x.sort, .int .i64 x.num, .string x.text, .slice na' x.names.length nc', .slice ka' x.kids.length kc'] 62)) := below_box2 w3 _ _
        have hPx : ∀ k, P k → ((w3.alloc (.cells #[.int .i64 x.sort, .int .i64 x.num, .string x.text, .slice na' x.names.length nc', .slice ka' x.kids.length kc'] 58)).alloc (.cells #[.string f.name, .int .i64 x.sort, .int .i64 x.num, .string x.text, .slice na' x.names.length nc', .slice ka' x.kids.length kc'] 62)).heap[k]? = w3.heap[k]? := fun k hk => bx.block k (by have := hP k hk; omega)
        have HO4 := hid_of (HO3.out.keep (fun b hb => bx.block b (HO3.out.1.lt b hb).2) hPx)
        have HCe : Hid (CeRep ((w3.alloc (.cells #[.int .i64 x.sort, .int .i64 x.num, .string x.text, .slice na' x.names.length nc', .slice ka' x.kids.length kc'] 58)).alloc (.cells #[.string f.name, .int .i64 x.sort, .int .i64 x.num, .string x.text, .slice na' x.names.length nc', .slice ka' x.kids.length kc'] 62)) P ⟨f.name, cellV r.cells f.name⟩ (.agg #[.string f.name, .int .i64 x.sort, .int .i64 x.num, .string x.text, .slice na' x.names.length nc', .slice ka' x.kids.length kc'])) := hid_of ⟨_, _, _, _, _, rfl, hX.mono hPx, hnm⟩
        have hV4' := (bx.block _ m1).trans hV3
        clear hX hPx
        go_wp2_with (at_builtin; refine wpList_append_lies _ rfl _ _ 49 rfl w2.heap.size 62 i0 (.agg #[.string ByteArray.empty, .int .i64 0, .int .i64 0, .string ByteArray.empty, .slice none 0 0, .slice none 0 0]) 6 96 Tryz.underlying49 hi hz0 hz1 hz2 rfl (by decide) (.slice va k vc) k xs rfl ?own ⟨w3.heap.size + 1, 0, none⟩ 1 1 [.string f.name, .int .i64 x.sort, .int .i64 x.num, .string x.text, .slice na' x.names.length nc', .slice ka' x.kids.length kc'] rfl rfl ?c1 ?c2 (by omega) ?c3 (by omega) (by simp; omega) _ rfl ?_)
        case own => have h := HO4.out.1; rw [cutL_len, List.length_take, Nat.min_eq_left hk] at h; exact h
        case c1 => exact World.news_of_block K1
        case c2 => intro u hu; simp at hu; rcases hu with rfl | rfl | rfl | rfl | rfl | rfl <;> rfl
        case c3 => unfold maxLen; omega
        intro g cap w4 hown4 hgrow hat hlt4
        have z4 := hgrow.size
        simp at z4
        have hV4 := (hgrow.block _ (by simp; omega) (fun e => by have := (HO4.out.1.lt _ e.symm).1; omega)).trans hV4'
        have x4 := (box_at hV4 2 (by simp)).1
        have x5 := (box_at hV4 2 (by simp)).2
        have HG := hid_of (And.intro hown4 (And.intro hgrow hat))
        have HV4 := hid_of hV4
        clear hown4 hgrow hat hV4 hV4' hV3 hvo hvf K1
        go_wp2_with fail
        go_roundw
        case measure => simp [intOf]; omega
        case rel =>
          obtain ⟨hown4, hgrow, hat⟩ := HG.out
          have hl : (cutL (KL.take k) r.cells).length + 1 = k + 1 := by rw [cutL_len, List.length_take, Nat.min_eq_left hk]
          have hgb : ∀ b, b < w3.heap.size → (Value.slice va k vc).ownBlock ≠ some b → w4.heap[b]? = w3.heap[b]? := fun b hb hne => (hgrow.block b (by simp; omega) (fun e => hne e.symm)).trans (bx.block b hb)
          have hgP : ∀ k', P k' → w4.heap[k']? = ((w3.alloc (.cells #[.int .i64 x.sort, .int .i64 x.num, .string x.text, .slice na' x.names.length nc', .slice ka' x.kids.length kc'] 58)).alloc (.cells #[.string f.name, .int .i64 x.sort, .int .i64 x.num, .string x.text, .slice na' x.names.length nc', .slice ka' x.kids.length kc'] 62)).heap[k']? := fun k' hk' => hgrow.block k' (by have := hP k' hk'; simp; omega) (fun e => by have := (HO4.out.1.lt _ e.symm).1; have := hP k' hk'; omega)
          refine ⟨k + 1, _, xs ++ [.string f.name, .int .i64 x.sort, .int .i64 x.num, .string x.text, .slice na' x.names.length nc', .slice ka' x.kids.length kc'], by omega, by go_num, set_box3 HV4.out _, ?_, ?_⟩
          · rw [HTE.out]
            refine OwnCs.keep (w := w4) (HO4.out.put HCe.out hgP (by rw [hl]; exact hown4)) (fun b hb => Below.heap_setCell _ _ _ _ (fun e => ?_)) (fun k' hk' => Below.heap_setCell _ _ _ _ (fun e => ?_))
            · have := (hown4.lt b hb).1
              have e' : b = w.heap.size + 1 + 1 + 1 := e
              omega
            · have := hP k' hk'
              have e' : k' = w.heap.size + 1 + 1 + 1 := e
              omega
          · refine ⟨hgrow.os.trans (bx.os.trans (b3.os.trans HA.out.os)), hgrow.tape.trans (bx.tape.trans (b3.tape.trans HA.out.tape)), hgrow.output.trans (bx.output.trans (b3.output.trans HA.out.output)), by rw [size_set]; omega, fun b hb hn => ?_⟩
            rw [Below.heap_setCell _ _ _ _ (fun e => hn e)]
            exact (hgb b (by omega) (fun h => by have := (HO4.out.1.lt b h).1; omega)).trans ((b3.block b (by omega)).trans (HA.out.block b hb hn))
    · have e : k = KL.length := by omega
      subst e
      have d20 := (box_at D2 0 (by simp)).1
      have d21 := (box_at D2 1 (by simp)).1
      have d22 := (box_at D2 2 (by simp)).1
      have f20 := (box_at D2 0 (by simp)).2
      have f21 := (box_at D2 1 (by simp)).2
      have f22 := (box_at D2 2 (by simp)).2
      have d30 := (box_at hv 0 (by simp)).1
      have d31 := (box_at hv 1 (by simp)).1
      have d32 := (box_at hv 2 (by simp)).1
      clear hown has hv hr hA D4
      go_wp2_with fail
      have bw : Below w.heap.size w w0 := ⟨HA.out.os.trans b2.os, HA.out.tape.trans b2.tape, HA.out.output.trans b2.output, by have := b2.size; omega, fun b hb => (HA.out.block b (by omega) (by omega)).trans (b2.block b hb)⟩
      have hfin := put3_box D2 (.string r.type) (.int .i64 r.id) (.slice va KL.length vc)
      have ho : OwnCs (put3 w0 (w.heap.size + 1 + 1) (.string r.type) (.int .i64 r.id) (.slice va KL.length vc)) w2.heap.size P (cutL KL r.cells) (.slice va KL.length vc) xs := by
        have h := HO.out
        rw [List.take_length] at h
        exact h.keep (fun b hb => put3_block _ _ _ _ _ _ (by have := (h.1.lt b hb).1; omega)) (fun k hk => put3_block _ _ _ _ _ _ (by have := hP k hk; omega))
      obtain ⟨a', c', he, hc', hN⟩ := ho.rep
      rw [cutL_len] at he hc'
      simp only [Value.slice.injEq, true_and] at he
      obtain ⟨rfl, rfl⟩ := he
      refine bodyPost_ret (v := .agg #[.string r.type, .int .i64 r.id, .slice va KL.length vc]) ?res rfl ⟨va, vc, rfl, put3_below bw (by omega) _ _ _, hc', fun h0 => ?_⟩
      case res =>
        have p0 := (box_at hfin 0 (by simp)).1
        have p1 := (box_at hfin 1 (by simp)).1
        have p2 := (box_at hfin 2 (by simp)).1
        simp only [put3] at p0 p1 p2
        clear hfin ho hN
        simp [results, Tryz.results40, go_sem, p0, p1, p2]
      obtain ⟨b, h1, h2, h3⟩ := hN h0
      exact ⟨b, h1, by omega, h3⟩
end Go.Proofs.YtbpdchlbhfjddaaGreat
