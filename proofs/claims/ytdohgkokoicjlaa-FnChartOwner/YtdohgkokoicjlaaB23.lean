import Derived.Test.YtdohgkokoicjlaaB1
import Derived.Test.YtdohgkokoicjlaaB22
import Derived.Test.YtdohgkokoicjlaaB19
import Derived.BigRegion
set_option linter.unusedSimpArgs false
set_option linter.unusedVariables false
namespace Go.Proofs.Ytdohgkokoicjlaa
open Go.RowKit Go.Maps
attribute [local go_sem] Oper.semAt_some
theorem cpResult (FW : World) (tmps : Array Value) (N : Nat) (v0 v1 : Value) (h2 : tmps.getD 2 undef = .pointer (some ⟨N, 0, none⟩))
    (d0 : FW.cell? ⟨N, 0, none⟩ = some v0) (d1 : FW.cell? ⟨N, 1, none⟩ = some v1) :
    (results Try.f57 tmps).run Try.prog FW = .ok (.agg #[v0, v1]) FW := by
  simp only [Array.getD_eq_getD_getElem?] at h2
  simp [results, Try.results57, go_sem, h2, d0, d1]
def CPEnd (w : World) (nm : ByteArray) (n nf : Nat) (e : Ending) (w' : World) : Prop :=
  ∃ (σ : Sh) (xa : Option Addr) (xc : Nat), e = .returned (.agg #[.string nm, .slice xa n xc]) ∧ Wf w' σ ⟨0, nf, 1, false⟩ ∧ (∀ b T m, σ b = some (T, m) → w.heap.size ≤ b) ∧ SlIn σ 48 xa n xc ∧ n ≤ xc ∧ xc ≤ maxLen ∧ Below w.heap.size w w'
set_option maxRecDepth 20000 in
set_option maxHeartbeats 6400000 in
theorem l2CopyPart_wf (w : World) (p : Pt) (ta : Option Addr) (tc nf : Nat) (hP : PRep w (· < w.heap.size) p (.agg #[.string p.name, .slice ta p.types.length tc])) (hn : p.types.length ≤ 10000) (hnf : nf ≤ 10000) (hsm : ∀ i, SmT nf 1 (tth p.types i)) :
    Calls Try.prog 57 #[.agg #[.string p.name, .slice ta p.types.length tc]] w (CPEnd w p.name p.types.length nf) := by
  obtain ⟨iF, hiF, hzF, hsF, hbF⟩ := info_parts infoF
  obtain ⟨iT, hiT, hzT, hsT, hbT⟩ := info_parts infoT
  obtain ⟨ta', tc', e, hTs, -⟩ := hP
  simp only [Value.agg.injEq, Array.mk.injEq, List.cons.injEq, Value.slice.injEq, true_and, and_true] at e
  obtain ⟨rfl, rfl⟩ := e
  have HTS : Hid (∀ i, i < p.types.length → ∃ (b off : Nat) (fa : Option Addr) (fc : Nat), ta = some ⟨b, off, none⟩ ∧ FsRep w (· < w.heap.size) (tth p.types i).fields fa ∧ ∀ W, Below w.heap.size w W → W.cell? ⟨b, off + i * 3, none⟩ = some (.string (tth p.types i).name) ∧ W.cell? ⟨b, off + i * 3 + 1, none⟩ = some (.string (tth p.types i).key) ∧ W.cell? ⟨b, off + i * 3 + 2, none⟩ = some (.slice fa (tth p.types i).fields.length fc)) := hid_of fun i hi => by
    obtain ⟨b, off, fa, fc, e, hT, hc⟩ := hTs.at (Nat.le_refl _) i hi
    obtain ⟨fa', fc', e', hF, -⟩ := hT
    simp only [Value.agg.injEq, Array.mk.injEq, List.cons.injEq, Value.slice.injEq, true_and, and_true] at e'
    obtain ⟨rfl, rfl⟩ := e'
    exact ⟨b, off, fa, fc, e, hF, hc⟩
  have HSMT := hid_of hsm
  obtain ⟨n, hnn⟩ : ∃ n, n = p.types.length := ⟨_, rfl⟩
  obtain ⟨nm, hnm⟩ : ∃ x, x = p.name := ⟨_, rfl⟩
  obtain ⟨TT, hTT⟩ : ∃ x, x = tth p.types := ⟨_, rfl⟩
  rw [← hnn] at HTS hn ⊢
  rw [← hnm]
  rw [← hTT] at HTS HSMT
  clear hTs hsm hnn hnm hTT p
  have C0 : CSt w nm #[.string nm, .slice ta n tc] ⟨0, nf, 1, false⟩ (((w.alloc (.cells #[.string nm, .slice ta n tc] 25)).alloc (.cells #[.string ⟨#[]⟩, .slice none 0 0] 25)).alloc (.cells #[.string nm, .slice none 0 0] 25)) (fun _ => none) none 0 0 := by
    obtain ⟨h1, h2, h3⟩ := boxes3 w #[.string nm, .slice ta n tc] #[.string ⟨#[]⟩, .slice none 0 0] #[.string nm, .slice none 0 0] 25 25 25
    exact ⟨h1, h2, h3, Wf.nil _ _, (fun _ _ _ h => by cases h), Or.inl ⟨rfl, rfl, rfl⟩, Nat.le_refl _, Nat.zero_le _, (below_box2 w _ _).alloc (by simp; omega) _, by simp⟩
  have HC0 := hid_of C0
  clear C0
  go_enter Try.func57, Try.ntmps57
  go_wp2_with fail
  generalize (((w.alloc (.cells #[.string nm, .slice ta n tc] 25)).alloc (.cells #[.string ⟨#[]⟩, .slice none 0 0] 25)).alloc (.cells #[.string nm, .slice none 0 0] 25)) = wS at *
  go_loopw [4, 5, 6] (fun ii _ _ wr => ∃ (i : Nat) (σ : Sh) (xa : Option Addr) (xc : Nat), i ≤ n ∧ ii = .int .i64 i ∧ Hid (CSt w nm #[.string nm, .slice ta n tc] ⟨0, nf, 1, false⟩ wr σ xa i xc)) (fun ii _ _ _ => n - (intOf ii).toNat)
  case atStart => exact ⟨0, _, _, _, Nat.zero_le _, rfl, HC0⟩
  case round =>
    obtain ⟨i, σ, xa, xc, hi, rfl, HC⟩ := hrel
    obtain ⟨wI, rfl⟩ : ∃ x, x = wr := ⟨wr, rfl⟩
    clear HC0
    obtain ⟨p1, -⟩ := box_at HC.out.pb 1 (by simp)
    simp only [List.getElem_toArray, List.getElem_cons_zero, List.getElem_cons_succ] at p1
    by_cases hin : i < n
    case neg =>
      have hin' : ¬ (i : Int) < (n : Int) := by omega
      have hie : i = n := by omega
      subst hie
      obtain ⟨x0, -⟩ := box_at HC.out.xb 0 (by simp)
      obtain ⟨x1, -⟩ := box_at HC.out.xb 1 (by simp)
      obtain ⟨y0, yf0⟩ := box_at HC.out.rb 0 (by simp)
      obtain ⟨y1, yf1⟩ := box_at HC.out.rb 1 (by simp)
      simp only [List.getElem_toArray, List.getElem_cons_zero, List.getElem_cons_succ] at x0 x1 y0 y1
      go_wp2_with fail
      have hd := sets2_cells HC.out.rb (.string nm) (.slice xa i xc)
      refine bodyPost_ret (cpResult _ _ (w.heap.size + 1) (.string nm) (.slice xa i xc) rfl hd.1 hd.2) rfl ⟨σ, xa, xc, rfl, HC.out.wf.keep fun b T m hb => ?_, fun b T m hb => by have := HC.out.new b T m hb; omega, HC.out.sl, HC.out.le, HC.out.cm, (HC.out.bel.setCell (by show w.heap.size ≤ w.heap.size + 1; omega) _).setCell (by show w.heap.size ≤ w.heap.size + 1; omega) _⟩
      have hne : b ≠ w.heap.size + 1 := by have := HC.out.new b T m hb; omega
      rw [Below.heap_setCell _ _ _ _ hne, Below.heap_setCell _ _ _ _ hne]
    have hin' : (i : Int) < (n : Int) := by omega
    obtain ⟨sb, so, f0, fc0, rfl, hFS, hcs⟩ := HTS.out i hin
    obtain ⟨t0, t1, t2⟩ := hcs wI HC.out.bel
    have HCS := hid_of hcs
    have HFS := hid_of hFS
    have HSM0 := hid_of (HSMT.out i)
    clear hcs hFS
    obtain ⟨tn, htn⟩ : ∃ x, x = (TT i).name := ⟨_, rfl⟩
    obtain ⟨tk, htk⟩ : ∃ x, x = (TT i).key := ⟨_, rfl⟩
    obtain ⟨fs, hfs⟩ : ∃ x, x = (TT i).fields := ⟨_, rfl⟩
    obtain ⟨hz1, hz2, hz3, hz4⟩ := HSM0.out
    rw [← htn] at t0 hz1 HCS
    rw [← htk] at t1 hz2 HCS
    rw [← hfs] at t2 hz3 HCS HFS
    have HSF0 : Hid (∀ k, SmF 1 (fth fs k)) := hid_of (by rw [hfs]; exact hz4)
    clear htn htk hfs HSM0 hz4
    obtain ⟨fl, hfl⟩ : ∃ x, x = fs.length := ⟨_, rfl⟩
    rw [← hfl] at t2 hz3 HCS
    have HT0 := hid_of (HC.out.box (tb := wI.heap.size) rfl tn tk)
    have A0 : ∀ o, (wI.alloc o).cell? ⟨w.heap.size, 1, none⟩ = some (.slice (some ⟨sb, so, none⟩) n tc) := fun o => ((below_box wI o).cell (p := ⟨w.heap.size, 1, none⟩) (World.block_lt_of_cell? _ _ p1)).trans p1
    have A1 : ∀ o, (wI.alloc o).cell? ⟨sb, so + i * 3, none⟩ = some (.string tn) := fun o => ((below_box wI o).cell (p := ⟨sb, so + i * 3, none⟩) (World.block_lt_of_cell? _ _ t0)).trans t0
    have A2 : ∀ o, (wI.alloc o).cell? ⟨sb, so + i * 3 + 1, none⟩ = some (.string tk) := fun o => ((below_box wI o).cell (p := ⟨sb, so + i * 3 + 1, none⟩) (World.block_lt_of_cell? _ _ t1)).trans t1
    go_upto_region 5 with fail
    go_region
    clear t0 t1 t2 p1 A0 A1 A2 HC
    have HT1 := hid_of (HT0.out.below (wy := (wI.alloc (.cells #[.string tn, .string tk, .slice none 0 0] 48)).drew) ⟨rfl, rfl, rfl, Nat.le_refl _, fun _ _ => rfl⟩)
    clear HT0
    obtain ⟨TB, hTB⟩ : ∃ x, x = wI.heap.size := ⟨_, rfl⟩
    rw [← hTB] at HT1
    simp only [← hTB]
    generalize (wI.alloc (.cells #[.string tn, .string tk, .slice none 0 0] 48)).drew = wT at *
    have HFL := hid_of hfl
    clear hfl hTB
    go_wp2_with fail
    go_loopw [6] (fun kk wr => ∃ (k : Nat) (σ : Sh) (fa : Option Addr) (fc : Nat), k ≤ fl ∧ kk = .int .i64 k ∧ Hid (TSt w nm #[.string nm, .slice (some ⟨sb, so, none⟩) n tc] ⟨0, nf, 1, false⟩ wr σ xa i xc TB tn tk fa k fc)) (fun kk _ => fl - (intOf kk).toNat)
    case atStart => exact ⟨0, _, _, _, Nat.zero_le _, rfl, HT1⟩
    case round =>
      obtain ⟨k, σ2, fa, fc, hk, rfl, HGJ⟩ := hrel
      obtain ⟨wD, rfl⟩ : ∃ x, x = wr := ⟨wr, rfl⟩
      clear HT1
      obtain ⟨p1, -⟩ := box_at HGJ.out.c.pb 1 (by simp)
      simp only [List.getElem_toArray, List.getElem_cons_zero, List.getElem_cons_succ] at p1
      obtain ⟨-, -, t2⟩ := HCS.out wD HGJ.out.c.bel
      by_cases hkl : k < fl
      case neg =>
        have hkl' : ¬ (k : Int) < (fl : Int) := by omega
        obtain ⟨x1, -⟩ := box_at HGJ.out.c.xb 1 (by simp)
        obtain ⟨b0, -⟩ := box_at HGJ.out.t 0 (by simp)
        obtain ⟨b1, -⟩ := box_at HGJ.out.t 1 (by simp)
        obtain ⟨b2, -⟩ := box_at HGJ.out.t 2 (by simp)
        simp only [List.getElem_toArray, List.getElem_cons_zero, List.getElem_cons_succ] at x1 b0 b1 b2
        have HOK := hid_of (cells_list (T := 48) (cs := #[.string tn, .string tk, .slice fa k fc]) rfl (typeCells σ2 ⟨0, nf, 1, false⟩ tn tk (.slice fa k fc) hz1 (fun h => by cases h) hz2 ⟨fa, k, fc, rfl, by show k ≤ nf; omega, HGJ.out.le, HGJ.out.cm, HGJ.out.sl⟩))
        have hixc := HGJ.out.c.le
        have hxcm := HGJ.out.c.cm
        have HSLX := hid_of HGJ.out.c.sl
        go_wp2_with (
          at_builtin
          refine wpList_append_wf (HGJ.out.c.wf.below (below_box _ _)) rfl _ _ 23 rfl 48 iT _ 56 Try.underlying23 hiT hzT hsT hbT rfl (zeroT _ _) xa i xc rfl hixc hxcm HSLX.out ⟨wD.heap.size, 0, none⟩ 1 1 [.string tn, .string tk, .slice fa k fc] rfl rfl (World.news_of_block (block_new _ _ rfl)) (by intro u hu; simp at hu; rcases hu with rfl | rfl | rfl <;> rfl) HOK.out (by omega) (by unfold maxLen; omega) (by omega) ?_
          intro gF capF wF σF q1 q2 q3 q4 q5 q6 q7 q8 q9
          obtain ⟨hC2, hxb⟩ := HGJ.out.c.app (below_box _ _) q1 q2 q3 q4 q5 q6 q7
          have HC2 := hid_of hC2
          obtain ⟨y1, yf1⟩ := box_at hxb 1 (by simp)
          simp only [List.getElem_toArray, List.getElem_cons_zero, List.getElem_cons_succ] at y1
          clear hC2 hxb q1 q2 q5 q6 q7 q8 q9)
        exact ⟨⟨i + 1, σF, _, capF, by omega, by go_num, HC2⟩, by simp [intOf]; omega⟩
      have hkl' : (k : Int) < (fl : Int) := by omega
      obtain ⟨fb, fo, na, nc, rfl, hFR, hfc8⟩ := HFS.out.at (Nat.le_refl _) k (by rw [← HFL.out]; exact hkl)
      have HSM := hid_of (HSF0.out k)
      obtain ⟨f, hf⟩ : ∃ f, f = fth fs k := ⟨_, rfl⟩
      rw [← hf] at hFR hfc8 HSM
      obtain ⟨na', nc', e', hStr, -⟩ := hFR
      simp only [Value.agg.injEq, Array.mk.injEq, List.cons.injEq, Value.slice.injEq, true_and, and_true] at e'
      obtain ⟨rfl, rfl⟩ := e'
      clear hf
      have HCP : Hid (∀ W, Below wD.heap.size wD W → Calls Try.prog 75 #[.agg #[.string f.name, .string f.of, .bool f.list, .bool f.must, .bool f.far, .bool f.hidden, .bool f.shared, .slice na f.needs.length nc]] W (CopyEnd W σ2 ⟨0, nf, 1, false⟩ f.name f.of f.list f.must f.far f.hidden f.shared f.needs.length)) := hid_of fun W hW => l2Copy_wf W σ2 _ f.name f.of f.list f.must f.far f.hidden f.shared na nc f.needs (· < w.heap.size) (HGJ.out.c.wf.below hW) (hStr.mono fun b hb => ((hW.block b (by have := HGJ.out.c.bel.size; omega)).trans (HGJ.out.c.bel.block b hb))) (fun b hb => by have h1 : b < w.heap.size := hb; have := HGJ.out.c.bel.size; have := hW.size; omega) HSM.out.2.2.2 (by have := HSM.out.2.2.1; omega)
      have HBL : Hid (∀ W, Below wD.heap.size wD W → Below w.heap.size w W) := hid_of fun W hW => HGJ.out.c.bel.trans (hW.mono HGJ.out.c.bel.size)
      have HSX : Hid (∀ W, Below w.heap.size w W → W.heap[w.heap.size]? = wD.heap[w.heap.size]? → W.cell? ⟨w.heap.size, 1, none⟩ = some (.slice (some ⟨sb, so, none⟩) n tc) ∧ W.cell? ⟨sb, so + i * 3 + 2, none⟩ = some (.slice (some ⟨fb, fo, none⟩) fl fc0) ∧ W.cell? ⟨fb, fo + k * 8, none⟩ = some (.string f.name) ∧ W.cell? ⟨fb, fo + k * 8 + 1, none⟩ = some (.string f.of) ∧ W.cell? ⟨fb, fo + k * 8 + 2, none⟩ = some (.bool f.list) ∧ W.cell? ⟨fb, fo + k * 8 + 3, none⟩ = some (.bool f.must) ∧ W.cell? ⟨fb, fo + k * 8 + 4, none⟩ = some (.bool f.far) ∧ W.cell? ⟨fb, fo + k * 8 + 5, none⟩ = some (.bool f.hidden) ∧ W.cell? ⟨fb, fo + k * 8 + 6, none⟩ = some (.bool f.shared) ∧ W.cell? ⟨fb, fo + k * 8 + 7, none⟩ = some (.slice na f.needs.length nc)) := hid_of fun W h1 h2 => by
        obtain ⟨-, -, g2⟩ := HCS.out W h1
        exact ⟨(box_at (h2.trans HGJ.out.c.pb) 1 (by simp)).1, g2, hfc8 W h1⟩
      have HSD : Hid (∀ W, Below wD.heap.size wD W → W.cell? ⟨w.heap.size, 1, none⟩ = some (.slice (some ⟨sb, so, none⟩) n tc) ∧ W.cell? ⟨sb, so + i * 3 + 2, none⟩ = some (.slice (some ⟨fb, fo, none⟩) fl fc0) ∧ W.cell? ⟨fb, fo + k * 8, none⟩ = some (.string f.name) ∧ W.cell? ⟨fb, fo + k * 8 + 1, none⟩ = some (.string f.of) ∧ W.cell? ⟨fb, fo + k * 8 + 2, none⟩ = some (.bool f.list) ∧ W.cell? ⟨fb, fo + k * 8 + 3, none⟩ = some (.bool f.must) ∧ W.cell? ⟨fb, fo + k * 8 + 4, none⟩ = some (.bool f.far) ∧ W.cell? ⟨fb, fo + k * 8 + 5, none⟩ = some (.bool f.hidden) ∧ W.cell? ⟨fb, fo + k * 8 + 6, none⟩ = some (.bool f.shared) ∧ W.cell? ⟨fb, fo + k * 8 + 7, none⟩ = some (.slice na f.needs.length nc)) := hid_of fun W hW => HSX.out W (HBL.out W hW) (hW.block _ (by have := HGJ.out.c.sz; omega))
      have HCL : Hid (∀ W, Below wD.heap.size wD W → W.cell? ⟨TB, 2, none⟩ = some (.slice fa k fc)) := hid_of fun W hW => (box_at ((hW.block _ HGJ.out.lt).trans HGJ.out.t) 2 (by simp)).1
      have HROW : Hid (∀ W, Below wD.heap.size wD W → ∀ W', W.grownBy W' (Value.slice fa k fc).ownBlock → (∀ x, x < wD.heap.size → σ2 x = none → W'.heap[x]? = wD.heap[x]?) ∧ Below w.heap.size w W') := hid_of fun W hW W' hg => by
        have hr : ∀ x, x < wD.heap.size → σ2 x = none → W'.heap[x]? = wD.heap[x]? := fun x hx hn => (hg.block x (Nat.lt_of_lt_of_le hx hW.size) (fun e => by have := HGJ.out.sl.own x e.symm; rw [hn] at this; cases this)).trans (hW.block x hx)
        have hb := HBL.out W hW
        refine ⟨hr, ⟨hg.os.trans hb.os, hg.tape.trans hb.tape, hg.output.trans hb.output, Nat.le_trans hb.size hg.size, fun x hx => ?_⟩⟩
        have hx2 : x < wD.heap.size := Nat.lt_of_lt_of_le hx HGJ.out.c.bel.size
        rw [hr x hx2 (by
          cases e : σ2 x with
          | none => rfl
          | some y => obtain ⟨T, m⟩ := y; have := HGJ.out.c.new x T m e; omega)]
        exact HGJ.out.c.bel.block x hx
      have HSF : Hid (∀ W, Below wD.heap.size wD W → ∀ W', W.grownBy W' (Value.slice fa k fc).ownBlock → W'.cell? ⟨w.heap.size, 1, none⟩ = some (.slice (some ⟨sb, so, none⟩) n tc) ∧ W'.cell? ⟨sb, so + i * 3 + 2, none⟩ = some (.slice (some ⟨fb, fo, none⟩) fl fc0) ∧ W'.cell? ⟨fb, fo + k * 8, none⟩ = some (.string f.name) ∧ W'.cell? ⟨fb, fo + k * 8 + 1, none⟩ = some (.string f.of) ∧ W'.cell? ⟨fb, fo + k * 8 + 2, none⟩ = some (.bool f.list) ∧ W'.cell? ⟨fb, fo + k * 8 + 3, none⟩ = some (.bool f.must) ∧ W'.cell? ⟨fb, fo + k * 8 + 4, none⟩ = some (.bool f.far) ∧ W'.cell? ⟨fb, fo + k * 8 + 5, none⟩ = some (.bool f.hidden) ∧ W'.cell? ⟨fb, fo + k * 8 + 6, none⟩ = some (.bool f.shared) ∧ W'.cell? ⟨fb, fo + k * 8 + 7, none⟩ = some (.slice na f.needs.length nc)) := hid_of fun W hW W' hg => by
        obtain ⟨h1, h2⟩ := HROW.out W hW W' hg
        exact HSX.out W' h2 (h1 _ (by have := HGJ.out.c.sz; omega) (by
          cases e : σ2 w.heap.size with
          | none => rfl
          | some y => obtain ⟨T, m⟩ := y; have := HGJ.out.c.new _ T m e; omega))
      have HBT : Hid (∀ W, Below wD.heap.size wD W → ∀ W', W.grownBy W' (Value.slice fa k fc).ownBlock → W'.cell? ⟨TB, 2, none⟩ = some (.slice fa k fc) ∧ W'.frozen? ⟨TB, 2, none⟩ = false) := hid_of fun W hW W' hg => by
        have hb := ((HROW.out W hW W' hg).1 TB HGJ.out.lt HGJ.out.nt).trans HGJ.out.t
        exact box_at hb 2 (by simp)
      have HST : Hid (∀ W, Below wD.heap.size wD W → ∀ W', W.grownBy W' (Value.slice fa k fc).ownBlock → ∀ v, (W'.setCell ⟨TB, 2, none⟩ v).cell? ⟨w.heap.size, 1, none⟩ = some (.slice (some ⟨sb, so, none⟩) n tc) ∧ (W'.setCell ⟨TB, 2, none⟩ v).cell? ⟨sb, so + i * 3 + 2, none⟩ = some (.slice (some ⟨fb, fo, none⟩) fl fc0) ∧ (W'.setCell ⟨TB, 2, none⟩ v).cell? ⟨fb, fo + k * 8, none⟩ = some (.string f.name) ∧ (W'.setCell ⟨TB, 2, none⟩ v).cell? ⟨fb, fo + k * 8 + 1, none⟩ = some (.string f.of) ∧ (W'.setCell ⟨TB, 2, none⟩ v).cell? ⟨fb, fo + k * 8 + 2, none⟩ = some (.bool f.list) ∧ (W'.setCell ⟨TB, 2, none⟩ v).cell? ⟨fb, fo + k * 8 + 3, none⟩ = some (.bool f.must) ∧ (W'.setCell ⟨TB, 2, none⟩ v).cell? ⟨fb, fo + k * 8 + 4, none⟩ = some (.bool f.far) ∧ (W'.setCell ⟨TB, 2, none⟩ v).cell? ⟨fb, fo + k * 8 + 5, none⟩ = some (.bool f.hidden) ∧ (W'.setCell ⟨TB, 2, none⟩ v).cell? ⟨fb, fo + k * 8 + 6, none⟩ = some (.bool f.shared) ∧ (W'.setCell ⟨TB, 2, none⟩ v).cell? ⟨fb, fo + k * 8 + 7, none⟩ = some (.slice na f.needs.length nc)) := hid_of fun W hW W' hg v => by
        obtain ⟨h1, h2⟩ := HROW.out W hW W' hg
        have hgt := HGJ.out.gt
        exact HSX.out _ (h2.setCell (by show w.heap.size ≤ TB; omega) v) ((Below.heap_setCell _ _ _ _ (by show w.heap.size ≠ TB; omega)).trans (h1 _ (by have := HGJ.out.c.sz; omega) (by
          cases e : σ2 w.heap.size with
          | none => rfl
          | some y => obtain ⟨T, m⟩ := y; have := HGJ.out.c.new _ T m e; omega)))
      have HSL := hid_of HGJ.out.sl
      have hkfc := HGJ.out.le
      have hfcm := HGJ.out.cm
      have hk5 : k ≤ 100000 := by omega
      go_upto_region 9 with fail
      clear p1 t2 hStr hfc8
      refine wp_region_held_drew (S := (fun w' => w'.cell? ⟨w.heap.size, 1, none⟩ = some (.slice (some ⟨sb, so, none⟩) n tc) ∧ w'.cell? ⟨sb, so + i * 3 + 2, none⟩ = some (.slice (some ⟨fb, fo, none⟩) fl fc0) ∧ w'.cell? ⟨fb, fo + k * 8, none⟩ = some (.string f.name) ∧ w'.cell? ⟨fb, fo + k * 8 + 1, none⟩ = some (.string f.of) ∧ w'.cell? ⟨fb, fo + k * 8 + 2, none⟩ = some (.bool f.list) ∧ w'.cell? ⟨fb, fo + k * 8 + 3, none⟩ = some (.bool f.must) ∧ w'.cell? ⟨fb, fo + k * 8 + 4, none⟩ = some (.bool f.far) ∧ w'.cell? ⟨fb, fo + k * 8 + 5, none⟩ = some (.bool f.hidden) ∧ w'.cell? ⟨fb, fo + k * 8 + 6, none⟩ = some (.bool f.shared) ∧ w'.cell? ⟨fb, fo + k * 8 + 7, none⟩ = some (.slice na f.needs.length nc))) (by kernel_rfl) (HSD.out _ (Below.refl _ _).drew) (fun hHeld => ?_)
      have bX : Below wD.heap.size wD wD.drew := (Below.refl _ _).drew
      generalize wD.drew = wE0 at *
      refine tkH 0 hHeld ?_
      refine tkH 2 hHeld ?_
      refine tkH 3 hHeld ?_
      refine tkH 4 hHeld ?_
      refine tkH 5 hHeld ?_
      refine tkH 6 hHeld ?_
      refine tkH 7 hHeld ?_
      refine tkH 8 hHeld ?_
      refine tkH 9 hHeld ?_
      refine tkH 10 hHeld ?_
      refine rdyH [1, 11] ?_
      refine rcH (fun K hK => ?_) ?_
      · have c1 := HCL.out wE0 bX
        go_simp
        clear c1
        refine hK.out _ _ (HSD.out _ bX) (fun hHeld => ?_)
        clear hK K
        try simp only [Act.put, List.setIfInBounds_toArray, List.set_cons_zero, List.set_cons_succ]
        refine rdyH [11] ?_
        refine rcH (fun K hK => ?_) AllReadyH.nil
        go_simp
        refine (HCP.out wE0 bX).mono ?_
        rintro e wC ⟨σ1, gC, cC, rfl, W1, x1, s1, bC, hgC, hlC, hcC⟩
        have HC1 := hid_of (And.intro W1 (And.intro x1 (fun x (hx : x < wD.heap.size) => s1 x (Nat.lt_of_lt_of_le hx bX.size))))
        have bX := bX.trans (bC.mono bX.size)
        have bY := Below.refl wC.heap.size wC
        have HOK := hid_of (cells_list (T := 37) (cs := #[.string f.name, .string f.of, .bool f.list, .bool f.must, .bool f.far, .bool f.hidden, .bool f.shared, .slice (some ⟨gC, 0, none⟩) f.needs.length cC]) rfl (fieldCells σ1 ⟨0, nf, 1, false⟩ f.name f.of f.list f.must f.far f.hidden f.shared (.slice (some ⟨gC, 0, none⟩) f.needs.length cC) HSM.out.1 HSM.out.2.1 ⟨_, _, _, rfl, HSM.out.2.2.1, hlC, hcC, Or.inr ⟨gC, rfl, hgC⟩⟩))
        clear W1 x1 s1 bC hgC
        refine hK.out _ _ (HSD.out _ bX) (fun hHeld => ?_)
        clear hK K
        try simp only [Act.put, List.setIfInBounds_toArray, List.set_cons_zero, List.set_cons_succ]
        refine rdyH [12] ?_
        refine rcH (fun K hK => ?_) AllReadyH.nil
        go_simp
        have bE := below_box wC (.cells #[.string f.name, .string f.of, .bool f.list, .bool f.must, .bool f.far, .bool f.hidden, .bool f.shared, .slice (some ⟨gC, 0, none⟩) f.needs.length cC] 37)
        obtain ⟨gE, hgE⟩ : ∃ g, g = wC.heap.size := ⟨_, rfl⟩
        have nE := block_new (w := wC) (N := gE) #[.string f.name, .string f.of, .bool f.list, .bool f.must, .bool f.far, .bool f.hidden, .bool f.shared, .slice (some ⟨gC, 0, none⟩) f.needs.length cC] 37 hgE.symm
        have bX := bX.trans (bE.mono bX.size)
        have bY := bY.trans (bE.mono bY.size)
        refine hK.out _ _ (HSD.out _ bX) (fun hHeld => ?_)
        clear hK K
        try simp only [Act.put, List.setIfInBounds_toArray, List.set_cons_zero, List.set_cons_succ]
        rw [← hgE]
        generalize wC.alloc (.cells #[.string f.name, .string f.of, .bool f.list, .bool f.must, .bool f.far, .bool f.hidden, .bool f.shared, .slice (some ⟨gC, 0, none⟩) f.needs.length cC] 37) = wE at *
        clear hgE bE
        refine rdyH [13] ?_
        refine rcH (fun K hK => ?_) AllReadyH.nil
        refine step_append_wf (HC1.out.1.below bY) rfl (.tmp 42) (.tmp 53) 46 rfl 37 iF _ 64 Try.underlying46 hiF hzF hsF hbF rfl (zeroF _ _) fa k fc rfl hkfc hfcm (HSL.out.ext HC1.out.2.1) ⟨gE, 0, none⟩ 1 1 [.string f.name, .string f.of, .bool f.list, .bool f.must, .bool f.far, .bool f.hidden, .bool f.shared, .slice (some ⟨gC, 0, none⟩) f.needs.length cC] rfl rfl (World.news_of_block nE) (by intro u hu; simp at hu; rcases hu with rfl | rfl | rfl | rfl | rfl | rfl | rfl | rfl <;> rfl) HOK.out (by omega) (by unfold maxLen; omega) (by omega) ?_
        intro gF capF wF σF q1 q2 q3 q4 q5 q6 q7 q8 q9
        have HQ := hid_of (And.intro q1 (And.intro q2 (And.intro q5 (And.intro q6 q7))))
        clear q1 q2 q5 q6 q7 q8 q9
        refine hK.out _ _ (HSF.out _ bX _ HQ.out.2.2.2.2) (fun hHeld => ?_)
        clear hK K
        try simp only [Act.put, List.setIfInBounds_toArray, List.set_cons_zero, List.set_cons_succ]
        refine tkH 14 hHeld ?_
        refine rdyH [15] ?_
        refine rcH (fun K hK => ?_) AllReadyH.nil
        obtain ⟨c1, z1⟩ := HBT.out _ bX _ HQ.out.2.2.2.2
        go_simp
        clear c1 z1
        refine hK.out _ _ (HST.out _ bX _ HQ.out.2.2.2.2 _) (fun hHeld => ?_)
        clear hK K
        try simp only [Act.put, List.setIfInBounds_toArray, List.set_cons_zero, List.set_cons_succ]
        refine wpAnyH_done (by kernel_rfl) ?_ _
        have HFIN := hid_of (HGJ.out.app bX HC1.out.2.1 HC1.out.2.2 HQ.out.1 HQ.out.2.1 q3 q4 HQ.out.2.2.1 HQ.out.2.2.2.1 HQ.out.2.2.2.2)
        clear HGJ
        go_wp2_with fail
        exact ⟨⟨k + 1, σF, _, capF, by omega, by go_num, HFIN⟩, by simp [intOf]; omega⟩
      refine rcH (fun K hK => ?_) AllReadyH.nil
      go_simp
      refine (HCP.out wE0 bX).mono ?_
      rintro e wC ⟨σ1, gC, cC, rfl, W1, x1, s1, bC, hgC, hlC, hcC⟩
      have HC1 := hid_of (And.intro W1 (And.intro x1 (fun x (hx : x < wD.heap.size) => s1 x (Nat.lt_of_lt_of_le hx bX.size))))
      have bX := bX.trans (bC.mono bX.size)
      have bY := Below.refl wC.heap.size wC
      have HOK := hid_of (cells_list (T := 37) (cs := #[.string f.name, .string f.of, .bool f.list, .bool f.must, .bool f.far, .bool f.hidden, .bool f.shared, .slice (some ⟨gC, 0, none⟩) f.needs.length cC]) rfl (fieldCells σ1 ⟨0, nf, 1, false⟩ f.name f.of f.list f.must f.far f.hidden f.shared (.slice (some ⟨gC, 0, none⟩) f.needs.length cC) HSM.out.1 HSM.out.2.1 ⟨_, _, _, rfl, HSM.out.2.2.1, hlC, hcC, Or.inr ⟨gC, rfl, hgC⟩⟩))
      clear W1 x1 s1 bC hgC
      refine hK.out _ _ (HSD.out _ bX) (fun hHeld => ?_)
      clear hK K
      try simp only [Act.put, List.setIfInBounds_toArray, List.set_cons_zero, List.set_cons_succ]
      refine rdyH [1, 12] ?_
      refine rcH (fun K hK => ?_) ?_
      · have c1 := HCL.out wC bX
        go_simp
        clear c1
        refine hK.out _ _ (HSD.out _ bX) (fun hHeld => ?_)
        clear hK K
        try simp only [Act.put, List.setIfInBounds_toArray, List.set_cons_zero, List.set_cons_succ]
        refine rdyH [12] ?_
        refine rcH (fun K hK => ?_) AllReadyH.nil
        go_simp
        have bE := below_box wC (.cells #[.string f.name, .string f.of, .bool f.list, .bool f.must, .bool f.far, .bool f.hidden, .bool f.shared, .slice (some ⟨gC, 0, none⟩) f.needs.length cC] 37)
        obtain ⟨gE, hgE⟩ : ∃ g, g = wC.heap.size := ⟨_, rfl⟩
        have nE := block_new (w := wC) (N := gE) #[.string f.name, .string f.of, .bool f.list, .bool f.must, .bool f.far, .bool f.hidden, .bool f.shared, .slice (some ⟨gC, 0, none⟩) f.needs.length cC] 37 hgE.symm
        have bX := bX.trans (bE.mono bX.size)
        have bY := bY.trans (bE.mono bY.size)
        refine hK.out _ _ (HSD.out _ bX) (fun hHeld => ?_)
        clear hK K
        try simp only [Act.put, List.setIfInBounds_toArray, List.set_cons_zero, List.set_cons_succ]
        rw [← hgE]
        generalize wC.alloc (.cells #[.string f.name, .string f.of, .bool f.list, .bool f.must, .bool f.far, .bool f.hidden, .bool f.shared, .slice (some ⟨gC, 0, none⟩) f.needs.length cC] 37) = wE at *
        clear hgE bE
        refine rdyH [13] ?_
        refine rcH (fun K hK => ?_) AllReadyH.nil
        refine step_append_wf (HC1.out.1.below bY) rfl (.tmp 42) (.tmp 53) 46 rfl 37 iF _ 64 Try.underlying46 hiF hzF hsF hbF rfl (zeroF _ _) fa k fc rfl hkfc hfcm (HSL.out.ext HC1.out.2.1) ⟨gE, 0, none⟩ 1 1 [.string f.name, .string f.of, .bool f.list, .bool f.must, .bool f.far, .bool f.hidden, .bool f.shared, .slice (some ⟨gC, 0, none⟩) f.needs.length cC] rfl rfl (World.news_of_block nE) (by intro u hu; simp at hu; rcases hu with rfl | rfl | rfl | rfl | rfl | rfl | rfl | rfl <;> rfl) HOK.out (by omega) (by unfold maxLen; omega) (by omega) ?_
        intro gF capF wF σF q1 q2 q3 q4 q5 q6 q7 q8 q9
        have HQ := hid_of (And.intro q1 (And.intro q2 (And.intro q5 (And.intro q6 q7))))
        clear q1 q2 q5 q6 q7 q8 q9
        refine hK.out _ _ (HSF.out _ bX _ HQ.out.2.2.2.2) (fun hHeld => ?_)
        clear hK K
        try simp only [Act.put, List.setIfInBounds_toArray, List.set_cons_zero, List.set_cons_succ]
        refine tkH 14 hHeld ?_
        refine rdyH [15] ?_
        refine rcH (fun K hK => ?_) AllReadyH.nil
        obtain ⟨c1, z1⟩ := HBT.out _ bX _ HQ.out.2.2.2.2
        go_simp
        clear c1 z1
        refine hK.out _ _ (HST.out _ bX _ HQ.out.2.2.2.2 _) (fun hHeld => ?_)
        clear hK K
        try simp only [Act.put, List.setIfInBounds_toArray, List.set_cons_zero, List.set_cons_succ]
        refine wpAnyH_done (by kernel_rfl) ?_ _
        have HFIN := hid_of (HGJ.out.app bX HC1.out.2.1 HC1.out.2.2 HQ.out.1 HQ.out.2.1 q3 q4 HQ.out.2.2.1 HQ.out.2.2.2.1 HQ.out.2.2.2.2)
        clear HGJ
        go_wp2_with fail
        exact ⟨⟨k + 1, σF, _, capF, by omega, by go_num, HFIN⟩, by simp [intOf]; omega⟩
      refine rcH (fun K hK => ?_) AllReadyH.nil
      go_simp
      have bE := below_box wC (.cells #[.string f.name, .string f.of, .bool f.list, .bool f.must, .bool f.far, .bool f.hidden, .bool f.shared, .slice (some ⟨gC, 0, none⟩) f.needs.length cC] 37)
      obtain ⟨gE, hgE⟩ : ∃ g, g = wC.heap.size := ⟨_, rfl⟩
      have nE := block_new (w := wC) (N := gE) #[.string f.name, .string f.of, .bool f.list, .bool f.must, .bool f.far, .bool f.hidden, .bool f.shared, .slice (some ⟨gC, 0, none⟩) f.needs.length cC] 37 hgE.symm
      have bX := bX.trans (bE.mono bX.size)
      have bY := bY.trans (bE.mono bY.size)
      refine hK.out _ _ (HSD.out _ bX) (fun hHeld => ?_)
      clear hK K
      try simp only [Act.put, List.setIfInBounds_toArray, List.set_cons_zero, List.set_cons_succ]
      rw [← hgE]
      generalize wC.alloc (.cells #[.string f.name, .string f.of, .bool f.list, .bool f.must, .bool f.far, .bool f.hidden, .bool f.shared, .slice (some ⟨gC, 0, none⟩) f.needs.length cC] 37) = wE at *
      clear hgE bE
      refine rdyH [1] ?_
      refine rcH (fun K hK => ?_) AllReadyH.nil
      have c1 := HCL.out wE bX
      go_simp
      clear c1
      refine hK.out _ _ (HSD.out _ bX) (fun hHeld => ?_)
      clear hK K
      try simp only [Act.put, List.setIfInBounds_toArray, List.set_cons_zero, List.set_cons_succ]
      refine rdyH [13] ?_
      refine rcH (fun K hK => ?_) AllReadyH.nil
      refine step_append_wf (HC1.out.1.below bY) rfl (.tmp 42) (.tmp 53) 46 rfl 37 iF _ 64 Try.underlying46 hiF hzF hsF hbF rfl (zeroF _ _) fa k fc rfl hkfc hfcm (HSL.out.ext HC1.out.2.1) ⟨gE, 0, none⟩ 1 1 [.string f.name, .string f.of, .bool f.list, .bool f.must, .bool f.far, .bool f.hidden, .bool f.shared, .slice (some ⟨gC, 0, none⟩) f.needs.length cC] rfl rfl (World.news_of_block nE) (by intro u hu; simp at hu; rcases hu with rfl | rfl | rfl | rfl | rfl | rfl | rfl | rfl <;> rfl) HOK.out (by omega) (by unfold maxLen; omega) (by omega) ?_
      intro gF capF wF σF q1 q2 q3 q4 q5 q6 q7 q8 q9
      have HQ := hid_of (And.intro q1 (And.intro q2 (And.intro q5 (And.intro q6 q7))))
      clear q1 q2 q5 q6 q7 q8 q9
      refine hK.out _ _ (HSF.out _ bX _ HQ.out.2.2.2.2) (fun hHeld => ?_)
      clear hK K
      try simp only [Act.put, List.setIfInBounds_toArray, List.set_cons_zero, List.set_cons_succ]
      refine tkH 14 hHeld ?_
      refine rdyH [15] ?_
      refine rcH (fun K hK => ?_) AllReadyH.nil
      obtain ⟨c1, z1⟩ := HBT.out _ bX _ HQ.out.2.2.2.2
      go_simp
      clear c1 z1
      refine hK.out _ _ (HST.out _ bX _ HQ.out.2.2.2.2 _) (fun hHeld => ?_)
      clear hK K
      try simp only [Act.put, List.setIfInBounds_toArray, List.set_cons_zero, List.set_cons_succ]
      refine wpAnyH_done (by kernel_rfl) ?_ _
      have HFIN := hid_of (HGJ.out.app bX HC1.out.2.1 HC1.out.2.2 HQ.out.1 HQ.out.2.1 q3 q4 HQ.out.2.2.1 HQ.out.2.2.2.1 HQ.out.2.2.2.2)
      clear HGJ
      go_wp2_with fail
      exact ⟨⟨k + 1, σF, _, capF, by omega, by go_num, HFIN⟩, by simp [intOf]; omega⟩
end Go.Proofs.Ytdohgkokoicjlaa
