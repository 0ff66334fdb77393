import Derived.Test.YtokmgbidmnanpaaGreatDoorB1
import Derived.Test.YtokmgbidmnanpaaGreatDoorB29
import Derived.Test.YtokmgbidmnanpaaGreatDoorBW3
set_option linter.unusedSimpArgs false
set_option linter.unusedVariables false
namespace Go.Proofs.YtokmgbidmnanpaaGreatDoor
open Go.RowKit Go.Shelf Go.Maps
def WayAt (w : World) (B b off : Nat) (ts : List ByteArray) : Prop := b < B ∧ ∀ i, i < ts.length → w.cell? ⟨b, off + i, none⟩ = some (.string (nth ts i))
theorem WayAt.tail {w : World} {B b off : Nat} {t : ByteArray} {ts : List ByteArray} (h : WayAt w B b off (t :: ts)) : WayAt w B b (off + 1) ts := ⟨h.1, fun i hi => by
  have := h.2 (i + 1) (by simpa using hi)
  rw [show off + (i + 1) = off + 1 + i by omega] at this
  rw [this]
  simp [nth]⟩
theorem WayAt.under {w w' : World} {B b off : Nat} {ts : List ByteArray} (h : WayAt w B b off ts) (hb : Below B w w') : WayAt w' B b off ts := ⟨h.1, fun i hi => (hb.cell (p := ⟨b, off + i, none⟩) h.1).trans (h.2 i hi)⟩
structure LG (B : Nat) (w : World) (k : Nat) (es : List El) (o : Value) (wr : World) : Prop where
  len : es.length ≤ k
  row : RowP SeReps w.heap.size es o wr
  low : ∀ e ∈ es, ∀ b, e.Q b → b < B ∨ w.heap.size ≤ b
  sz : ∀ e ∈ es, e.s.al.size ≤ maxLen ∧ e.s.name.size ≤ maxLen
  nn : ¬ o = .slice none 0 0
theorem LG.keep {B k : Nat} {w wr wr' : World} {es : List El} {o : Value} (h : LG B w k es o wr) (hb : Below wr.heap.size wr wr') : LG B w k es o wr' := ⟨h.len, h.row.keep looks_reps hb, h.low, h.sz, h.nn⟩
theorem LG.next {B k : Nat} {w wr : World} {es : List El} {o : Value} (h : LG B w k es o wr) : LG B w (k + 1) es o wr := ⟨Nat.le_succ_of_le h.len, h.row, h.low, h.sz, h.nn⟩
theorem LG.push {B k : Nat} {w wr wr' : World} {es : List El} {o o' : Value} (h : LG B w k es o wr) (e : El) {xs : List Value} (hx : xs = e.cells)
    (hr : wr'.ownsRow w.heap.size 56 5 o' (es.length + 1) (es.flatMap El.cells ++ xs)) (hg : wr.grownBy wr' o.ownBlock) (hnn : o' = .slice none 0 0 ↔ o = .slice none 0 0 ∧ 1 = 0) (ho : o'.ownBlock = o.ownBlock ∨ o'.ownBlock = some wr.heap.size)
    (hk : SeReps wr e.Q e.s.kids e.ka) (hq : ∀ b, e.Q b → b < wr.heap.size ∧ o.ownBlock ≠ some b) (hlow : ∀ b, e.Q b → b < B ∨ w.heap.size ≤ b) (hsz : e.s.al.size ≤ maxLen ∧ e.s.name.size ≤ maxLen) : LG B w (k + 1) (es ++ [e]) o' wr' :=
  ⟨by have := h.len; simp; omega, h.row.push looks_reps e hx rfl hr hg ho hk hq, fun y hy => by
    rcases List.mem_append.1 hy with hy | hy
    · exact h.low y hy
    · rw [List.mem_singleton.1 hy]; exact hlow, fun y hy => by
    rcases List.mem_append.1 hy with hy | hy
    · exact h.sz y hy
    · rw [List.mem_singleton.1 hy]; exact hsz, fun e => by cases (hnn.1 e).2⟩
set_option maxRecDepth 20000 in
set_option maxHeartbeats 1600000 in
theorem l12Less_any : ∀ (f : Nat) (ks : List Se) (t : ByteArray) (ts : List ByteArray) (w : World) (B b off c : Nat) (ka : Option Addr) (kc : Nat), FitS f ks → cntTo f ks ks.length ≤ 1000000 → SeReps w (· < B) ks ka → WayAt w B b off (t :: ts) → ts.length + 1 ≤ 2000000 → ts.length + 1 ≤ c → B ≤ w.heap.size →
    Calls Tryz.prog 60 #[.slice ka ks.length kc, .slice (some ⟨b, off, none⟩) (ts.length + 1) c] w fun e w' => NewS B w (lessM f ((t :: ts).map ByteArray.toList) ks ks.length) e w' := by
  intro f
  induction f with
  | zero =>
    intro ks t ts w B b off c ka kc hf hcn hR hW hts hc hB
    have e : ks = [] := hf
    subst e
    go_enter Tryz.func60, Tryz.ntmps60
    go_wp2_with fail
    go_loopw [5, 6] (fun o i wr => i = .int .i64 0 ∧ o = .slice (some ⟨w.heap.size, 0, none⟩) 0 0 ∧ Below w.heap.size w wr) (fun _ _ _ => 0)
    case atStart => exact ⟨rfl, rfl, below_box _ _⟩
    case round =>
      obtain ⟨rfl, rfl, hb⟩ := hrel
      go_wp2_with fail
      go_ret
      exact ⟨_, _, rfl, ⟨by simp [lessM], fun _ _ => .bool false, fun hn => by simp [lessM] at hn, fun i hi => by simp [lessM] at hi⟩, hb⟩
  | succ f IH =>
    intro ks t ts w B b off c ka kc hf hcn hR hW hts hc hB
    obtain ⟨i0, hi0, hz0, hz1, hz2⟩ := info_parts info_Sel
    have h72 := hR.1
    have hlen := kids_len hf hcn
    have HR := hid_of hR
    have HW := hid_of hW
    clear hR hW
    go_enter Tryz.func60, Tryz.ntmps60
    go_wp2_with fail
    go_loopw [5, 6] (fun o i wr => ∃ (k : Nat) (es : List El), k ≤ ks.length ∧ i = .int .i64 k ∧ Hid (es.map El.s = lessM (f + 1) ((t :: ts).map ByteArray.toList) ks k) ∧ Hid (LG B w k es o wr) ∧ Below w.heap.size w wr) (fun _ i _ => ks.length - (intOf i).toNat)
    case atStart => exact ⟨0, [], Nat.zero_le _, rfl, hid_of (by simp [lessM]), hid_of ⟨Nat.le_refl _, RowP.new w, (fun e he => by cases he), (fun e he => by cases he), by simp⟩, below_box _ _⟩
    case round =>
      obtain ⟨k, es, hk, rfl, HM, HG, hb⟩ := hrel
      obtain ⟨w2, rfl⟩ : ∃ x, x = wr := ⟨wr, rfl⟩
      have zb := hb.size
      obtain ⟨g, cap, rfl⟩ := HG.out.row.form HG.out.nn
      have hel := HG.out.len
      by_cases hlt : k < ks.length
      case neg =>
        have e : k = ks.length := by omega
        subst e
        obtain ⟨a, c2, e, hRR⟩ := HG.out.row.reps (fun _ _ _ _ h => h) (by omega) HG.out.sz (fun b => b < B ∨ (w.heap.size ≤ b ∧ b < w2.heap.size)) (fun b hb => Or.inr hb) (fun e he b hq => (HG.out.low e he b hq).imp id fun h => ⟨h, ((HG.out.row.kid e he).2 b hq).1⟩)
        rw [HM.out] at hRR
        have HRR := hid_of hRR
        have HE := hid_of e
        have HL := hid_of (show es.length = (lessM (f + 1) ((t :: ts).map ByteArray.toList) ks ks.length).length by rw [← HM.out, List.length_map])
        clear e hRR
        go_wp2_with fail
        go_ret
        refine ⟨a, c2, ?_, HRR.out, hb⟩
        rw [← HL.out, ← HE.out]
        rfl
      have hki : (k : Int) < (ks.length : Int) := by omega
      obtain ⟨-, C, hA, hr⟩ := HR.out.under (hb.mono hB)
      obtain ⟨kb, koff, rfl, hkB, hkc⟩ := hA (by omega)
      have hkW : kb < w.heap.size := by omega
      obtain ⟨sa, sc, e0, e1, e2, e3, e4, hal, hnm, hKids⟩ := (hr k hlt).pieces
      have q0 : w2.cell? ⟨kb, koff + k * 5, none⟩ = some (.string (sth ks k).al) := e0 ▸ hkc k hlt 0 (by omega)
      have q1 : w2.cell? ⟨kb, koff + k * 5 + 1, none⟩ = some (.string (sth ks k).name) := e1 ▸ hkc k hlt 1 (by omega)
      have q2 : w2.cell? ⟨kb, koff + k * 5 + 2, none⟩ = some (.bool (sth ks k).one) := e2 ▸ hkc k hlt 2 (by omega)
      have q3 : w2.cell? ⟨kb, koff + k * 5 + 3, none⟩ = some (.int .i64 (sth ks k).id) := e3 ▸ hkc k hlt 3 (by omega)
      have q4 : w2.cell? ⟨kb, koff + k * 5 + 4, none⟩ = some (.slice sa (sth ks k).kids.length sc) := e4 ▸ hkc k hlt 4 (by omega)
      have HLS := hid_of (lessM_succ f ((t :: ts).map ByteArray.toList) ks k)
      have hc1 := cntTo_mono (f + 1) ks (show k + 1 ≤ ks.length by omega)
      rw [cntTo_succ, cntSe_kids] at hc1
      have HWW := hid_of (fun W (hW : Below w2.heap.size w2 W) => HW.out.under (w' := W) ((hb.mono hB).trans (hW.mono (by omega))))
      have HKD := hid_of (fun W (hW : Below w2.heap.size w2 W) => (hKids.mono (w' := W) fun j hj => hW.block j (by omega)))
      have HIH := hid_of (fun (t' : ByteArray) (ts' : List ByteArray) (hte : ts = t' :: ts') W (hW : Below w2.heap.size w2 W) => IH (sth ks k).kids t' ts' W B b (off + 1) (c - 1) sa sc (hf k hlt) (by omega) (HKD.out W hW) (hte ▸ (HWW.out W hW).tail) (by rw [hte] at hts; simp at hts; omega) (by rw [hte] at hc; simp at hc; omega) (by have := hW.size; omega))
      have HSZ := hid_of (And.intro hal hnm)
      clear e0 e1 e2 e3 e4 hkc hr hA hKids IH hc1 hal hnm
      generalize sth ks k = s at *
      have HK := hid_of (fun W => l3Key_any s W (.bool s.one) (.int .i64 s.id) (.slice sa s.kids.length sc))
      have hwb : b < w.heap.size := by have := HW.out.1; omega
      go_wp2_with fail
      obtain ⟨w3, hw3⟩ : ∃ W, W = w2.alloc (.cells #[.string s.al, .string s.name, .bool s.one, .int .i64 s.id, .slice sa s.kids.length sc] 56) := ⟨_, rfl⟩
      rw [← hw3]
      have hb3 : Below w2.heap.size w2 w3 := by rw [hw3]; exact below_box _ _
      have z3 : w3.heap.size = w2.heap.size + 1 := by rw [hw3]; simp
      have hbk : w3.heap[w2.heap.size]? = some (.cells #[.string s.al, .string s.name, .bool s.one, .int .i64 s.id, .slice sa s.kids.length sc] 56 (0, 0)) := by rw [hw3]; exact heap_alloc_new w2 _
      clear hw3 q0 q1 q2 q3 q4
      have HBX := hid_of (fun W (hW : Below w3.heap.size w3 W) => show (W.cell? ⟨w2.heap.size, 0, none⟩ = some (.string s.al) ∧ W.cell? ⟨w2.heap.size, 1, none⟩ = some (.string s.name) ∧ W.cell? ⟨w2.heap.size, 2, none⟩ = some (.bool s.one) ∧ W.cell? ⟨w2.heap.size, 3, none⟩ = some (.int .i64 s.id) ∧ W.cell? ⟨w2.heap.size, 4, none⟩ = some (.slice sa s.kids.length sc)) ∧ W.frozen? ⟨w2.heap.size, 4, none⟩ = false ∧ W.cell? ⟨b, off, none⟩ = some (.string t) by
        have hk := (hW.block w2.heap.size (by omega)).trans hbk
        have hwy := (HWW.out W (hb3.trans (hW.mono (by omega)))).2 0 (by simp)
        exact ⟨⟨by simp [World.cell?, hk], by simp [World.cell?, hk], by simp [World.cell?, hk], by simp [World.cell?, hk], by simp [World.cell?, hk]⟩, by simp [World.frozen?, hk], by simpa [nth] using hwy⟩)
      clear hbk
      obtain ⟨⟨p0, p1, p2, p3, p4⟩, pf, pw⟩ := HBX.out w3 (Below.refl _ _)
      go_cut [25] (fun r wx => r = .bool (!((keyS s).toList == t.toList)) ∧ Below w3.heap.size w3 wx)
      case first =>
        go_region_held3 (fun w' => w'.cell? ⟨w2.heap.size, 0, none⟩ = some (.string s.al) ∧ w'.cell? ⟨w2.heap.size, 1, none⟩ = some (.string s.name) ∧ w'.cell? ⟨w2.heap.size, 2, none⟩ = some (.bool s.one) ∧ w'.cell? ⟨w2.heap.size, 3, none⟩ = some (.int .i64 s.id) ∧ w'.cell? ⟨w2.heap.size, 4, none⟩ = some (.slice sa s.kids.length sc) ∧ w'.cell? ⟨b, off, none⟩ = some (.string t)) (go_keep)
          (first
            | (
              go_at_call 81
              refine (HK.out w3.drew).mono ?_
              rintro e w4 ⟨rfl, hb4⟩
              have hb4' := below_undrew hb4
              obtain ⟨⟨a0, a1, a2, a3, a4⟩, af, aw⟩ := HBX.out w4 hb4'
              clear hb4))
        all_goals
          go_wp2_with fail
          go_meet
          case rel => exact ⟨rfl, hb4'⟩
      case rest =>
      obtain ⟨rfl, hb4⟩ := hcut
      obtain ⟨w4, rfl⟩ : ∃ x, x = wc := ⟨wc, rfl⟩
      have z4 := hb4.size
      have hb24 := hb3.trans (hb4.mono (by omega))
      have HG4 := hid_of (HG.out.keep hb24)
      have hrow := HG4.out.row.row
      have HOL := hid_of (fun j => HG.out.row.row.lt j)
      obtain ⟨⟨a0, a1, a2, a3, a4⟩, af, aw⟩ := HBX.out w4 hb4
      clear p0 p1 p2 p3 p4 pf pw
      cases hq : ((keyS s).toList == t.toList)
      · have HONE := hid_of (show oneM ((t :: ts).map ByteArray.toList) s (lessM f ((t :: ts).map ByteArray.toList).tail s.kids s.kids.length) = [s] by
          unfold oneM
          rw [if_neg]
          simpa using hq)
        go_wp2_with (
          at_builtin
          refine wpList_append_own_at _ rfl _ _ 23 rfl w.heap.size 56 i0 zeroSe 5 72 Tryz.underlying23 hi0 hz0 hz1 hz2 rfl (by decide) _ es.length _ rfl (hrow.alloc _) ⟨w4.heap.size, 0, none⟩ 1 1 [.string s.al, .string s.name, .bool s.one, .int .i64 s.id, .slice sa s.kids.length sc] rfl rfl (World.news_of_block (heap_alloc_new w4 _)) (by intro u hu; simp at hu; rcases hu with rfl | rfl | rfl | rfl | rfl <;> rfl) (by unfold maxLen; omega) (by omega) (by simp; omega) ?_
          intro v' w5 hown hgrow hnn hob
          refine Hid.out ?_)
        refine hid_of ?_
        have hpush := LG.push (HG4.out.keep (below_box w4 _)) ⟨s, sa, sc, (· < B)⟩ rfl hown hgrow hnn hob ((HKD.out w4 hb24).mono fun b hq => (below_box w4 _).block b (by omega)) (fun b hq => ⟨by simp; have : b < B := hq; omega, fun e2 => by have := (HOL.out b e2).1; have : b < B := hq; omega⟩) (fun b hq => Or.inl hq) HSZ.out
        have hb5 : Below w.heap.size w w5 := ((hb.trans (hb24.mono zb)).alloc (by omega) _).grown hgrow (by simp; omega) (fun j hj => (HOL.out j hj).1)
        have HP := hid_of hpush
        obtain ⟨g5, cap5, rfl⟩ := hpush.row.form hpush.nn
        clear hown hgrow hnn hob hpush
        go_wp2_with fail
        go_roundw
        case measure => simp [intOf]; omega
        case rel => exact ⟨k + 1, _, by omega, by go_num, hid_of (by rw [HLS.out, HONE.out, List.map_append, HM.out]; rfl), HP, hb5⟩
      · have HQE := hid_of (show (keyS s).toList = t.toList by simpa using hq)
        cases hts2 : ts with
        | nil =>
          have HONE := hid_of (show oneM ((t :: ts).map ByteArray.toList) s (lessM f ((t :: ts).map ByteArray.toList).tail s.kids s.kids.length) = [] by
            unfold oneM
            rw [if_pos (by simpa using HQE.out), if_pos (by rw [hts2]; rfl)])
          subst hts2
          go_wp2_with fail
          go_roundw
          case measure => simp [intOf]; omega
          case rel => exact ⟨k + 1, es, by omega, by go_num, hid_of (by rw [HLS.out, HONE.out, HM.out]; simp), hid_of HG4.out.next, hb.trans (hb24.mono zb)⟩
        | cons t' ts' =>
          have HSB := hid_of (fun W (hW : Below w4.heap.size w4 W) => HIH.out t' ts' hts2 W (hb24.trans (hW.mono (by omega))))
          have hlt2 : ts.length = ts'.length + 1 := by rw [hts2]; rfl
          rw [hlt2] at hts hc
          obtain ⟨m, hm⟩ : ∃ m, m = (t' :: ts').length + 1 := ⟨_, rfl⟩
          have hm2 : m - 1 = ts'.length + 1 := by rw [hm]; rfl
          have hm3 : 2 ≤ m ∧ m ≤ 2000000 ∧ m ≤ c := by rw [hm]; simp only [List.length_cons]; omega
          rw [← hm]
          rw [← hm2] at HSB
          have hmi1 : (1 : Int) ≤ (m : Int) := by omega
          have hmi2 : (m : Int) ≤ (c : Int) := by omega
          have hmi3 : ((m : Int) == 1) = false := by simp; omega
          have hcne : (c = 1) = False := by simp; omega
          have HMM := hid_of (show m = ts.length + 1 by rw [hts2]; exact hm)
          clear hm hm2
          have HMP := hid_of (show ((t :: ts).map ByteArray.toList).tail = (t' :: ts').map ByteArray.toList by rw [hts2]; rfl)
          have HML := hid_of (show ((t :: ts).map ByteArray.toList).length ≠ 1 by rw [hts2]; simp)
          clear hts2
          go_wp2_with fail
          generalize hKK : lessM f ((t' :: ts').map ByteArray.toList) s.kids s.kids.length = K at HSB
          have HKK := hid_of hKK
          clear hKK
          go_cut [8] (fun r wx => ∃ w5 a5 c5, r = .int .i64 (s.kids.length : Nat) ∧ Hid (SeReps w5 (fun b => b < B ∨ (w4.heap.size ≤ b ∧ b < w5.heap.size)) K a5 ∧ Below w4.heap.size w4 w5) ∧ wx = w5.setCell ⟨w2.heap.size, 4, none⟩ (.slice a5 K.length c5))
          case first =>
            refine wp_region_held_drew (S := (fun _ => True)) (by kernel_rfl) trivial (fun hHeld => ?_)
            have bX : Below w4.heap.size w4 w4.drew := (Below.refl _ _).drew
            generalize w4.drew = wD at *
            obtain ⟨⟨-, -, -, -, d4⟩, -, -⟩ := HBX.out wD (hb4.trans (bX.mono z4))
            refine tkH 0 hHeld ?_
            refine tkH 2 hHeld ?_
            refine tkH 3 hHeld ?_
            refine rdyH [1] ?_
            refine rcH (fun K hK => ?_) AllReadyH.nil
            go_simp
            refine hK.out _ _ trivial (fun hHeld => ?_)
            clear hK K
            try simp only [Act.put, List.setIfInBounds_toArray, List.set_cons_zero, List.set_cons_succ]
            refine rdyH [4] ?_
            refine rcH (fun K hK => ?_) AllReadyH.nil
            go_simp
            try simp only [hcne, if_false]
            refine (HSB.out wD bX).mono ?_
            rintro e w5 ⟨a5, c5, rfl, hR5, hb5⟩
            have HR5 := hid_of (hR5.sub fun b hq => hq.imp id fun h => (⟨Nat.le_trans bX.size h.1, h.2⟩ : w4.heap.size ≤ b ∧ b < w5.heap.size))
            have bX := bX.trans (hb5.mono bX.size)
            obtain ⟨⟨-, -, -, -, b4⟩, bf, -⟩ := HBX.out w5 (hb4.trans (bX.mono z4))
            clear hR5 hb5
            refine hK.out _ _ trivial (fun hHeld => ?_)
            clear hK K
            try simp only [Act.put, List.setIfInBounds_toArray, List.set_cons_zero, List.set_cons_succ]
            refine tkH 5 hHeld ?_
            refine rdyH [6] ?_
            refine rcH (fun K hK => ?_) AllReadyH.nil
            go_simp
            refine hK.out _ _ trivial (fun hHeld => ?_)
            clear hK K
            try simp only [Act.put, List.setIfInBounds_toArray, List.set_cons_zero, List.set_cons_succ]
            refine wpAnyH_done (by kernel_rfl) ?_ _
            go_wp2_with fail
            go_meet
            case rel => exact ⟨w5, a5, c5, rfl, ⟨HR5.out, bX⟩, rfl⟩
          case rest =>
          obtain ⟨w5, a5, c5, rfl, H5, rfl⟩ := hcut
          have z5 := H5.out.2.size
          obtain ⟨⟨d0, d1, d2, d3, d4⟩, df, -⟩ := HBX.out w5 (hb4.trans (H5.out.2.mono z4))
          have hb25 := hb24.trans (H5.out.2.mono (by omega))
          obtain ⟨W, hW⟩ : ∃ W, W = w5.setCell ⟨w2.heap.size, 4, none⟩ (.slice a5 K.length c5) := ⟨_, rfl⟩
          have hbW : Below w2.heap.size w2 W := by rw [hW]; exact hb25.setCell (Nat.le_refl _) _
          have zW : W.heap.size = w5.heap.size := by rw [hW]; simp [World.setCell]
          have HRW := hid_of (H5.out.1.mono (w' := W) fun b hq => by
            rw [hW]
            refine Below.heap_setCell _ _ _ _ ?_
            show b ≠ w2.heap.size
            rcases hq with hq | hq <;> omega)
          have HGW := hid_of (HG.out.keep hbW)
          have hrowW := HGW.out.row.row
          clear a0 a1 a2 a3 a4 af aw hrow
          have x0 : W.cell? ⟨w2.heap.size, 0, none⟩ = some (.string s.al) := by rw [hW]; exact (World.cell?_setCell_other _ _ _ _ (by simp)).trans d0
          have x1 : W.cell? ⟨w2.heap.size, 1, none⟩ = some (.string s.name) := by rw [hW]; exact (World.cell?_setCell_other _ _ _ _ (by simp)).trans d1
          have x2 : W.cell? ⟨w2.heap.size, 2, none⟩ = some (.bool s.one) := by rw [hW]; exact (World.cell?_setCell_other _ _ _ _ (by simp)).trans d2
          have x3 : W.cell? ⟨w2.heap.size, 3, none⟩ = some (.int .i64 s.id) := by rw [hW]; exact (World.cell?_setCell_other _ _ _ _ (by simp)).trans d3
          have x4 : W.cell? ⟨w2.heap.size, 4, none⟩ = some (.slice a5 K.length c5) := by rw [hW]; exact World.cell?_setCell_same _ _ _ d4
          rw [← hW]
          clear hW d0 d1 d2 d3 d4 df
          obtain ⟨nK, hnK⟩ : ∃ n, n = K.length := ⟨_, rfl⟩
          obtain ⟨ns, hns⟩ : ∃ n, n = s.kids.length := ⟨_, rfl⟩
          rw [← hnK] at x4
          rw [← hns]
          have HNK := hid_of hnK
          have HNS := hid_of hns
          clear hnK hns
          by_cases hkeep : K = [] ∧ s.kids ≠ []
          · have HONE := hid_of (show oneM ((t :: ts).map ByteArray.toList) s (lessM f ((t :: ts).map ByteArray.toList).tail s.kids s.kids.length) = [] by
              unfold oneM
              rw [if_pos (by simpa using HQE.out), if_neg HML.out, HMP.out, HKK.out, if_neg (by simp [hkeep.1, hkeep.2])])
            have hK0 : nK = 0 := by rw [HNK.out, hkeep.1]; rfl
            have hs0 : 0 < ns := by rw [HNS.out]; exact List.length_pos_iff.2 hkeep.2
            clear hkeep
            subst hK0
            have hi2 : ((ns : Int) == 0) = false := beq_eq_false_iff_ne.2 (by omega)
            go_wp2_with fail
            obtain rfl : m = ts.length + 1 := HMM.out
            go_roundw
            case measure => simp [intOf]; omega
            case rel => exact ⟨k + 1, es, by omega, by go_num, hid_of (by rw [HLS.out, HONE.out, HM.out]; simp), hid_of HGW.out.next, hb.trans (hbW.mono zb)⟩
          · have HONE := hid_of (show oneM ((t :: ts).map ByteArray.toList) s (lessM f ((t :: ts).map ByteArray.toList).tail s.kids s.kids.length) = [s.sub K] by
              unfold oneM
              rw [if_pos (by simpa using HQE.out), if_neg HML.out, HMP.out, HKK.out, if_pos]
              by_cases h : K = []
              · exact Or.inr (Classical.not_not.1 fun h2 => hkeep ⟨h, h2⟩)
              · exact Or.inl h)
            have hcs : 0 < nK ∨ (nK = 0 ∧ ns = 0) := by
              rw [HNK.out, HNS.out]
              by_cases h : K = []
              · right
                have h2 : s.kids = [] := Classical.not_not.1 fun h2 => hkeep ⟨h, h2⟩
                rw [h, h2]; simp
              · left
                exact List.length_pos_iff.2 h
            clear hkeep
            rcases hcs with hcs | ⟨rfl, rfl⟩
            · go_wp2_with (
                at_builtin
                refine wpList_append_own_at _ rfl _ _ 23 rfl w.heap.size 56 i0 zeroSe 5 72 Tryz.underlying23 hi0 hz0 hz1 hz2 rfl (by decide) _ es.length _ rfl (hrowW.alloc _) ⟨w5.heap.size, 0, none⟩ 1 1 [.string s.al, .string s.name, .bool s.one, .int .i64 s.id, .slice a5 nK c5] rfl rfl (by rw [← zW]; exact World.news_of_block (heap_alloc_new W _)) (by intro u hu; simp at hu; rcases hu with rfl | rfl | rfl | rfl | rfl <;> rfl) (by unfold maxLen; omega) (by omega) (by simp; omega) ?_
                intro v' w6 hown hgrow hnn hob
                refine Hid.out ?_)
              refine hid_of ?_
              have hpush := LG.push (HGW.out.keep (below_box W _)) ⟨s.sub K, a5, c5, fun b => b < B ∨ (w4.heap.size ≤ b ∧ b < w5.heap.size)⟩ (by unfold El.cells; simp only [Se.sub]; rw [← HNK.out]) hown hgrow hnn hob (HRW.out.mono fun b hq => (below_box W _).block b (by omega)) (fun b hq => ⟨by simp; omega, fun e2 => by have := HOL.out b e2; omega⟩) (fun b hq => by omega) HSZ.out
              have hb6 : Below w.heap.size w w6 := ((hb.trans (hbW.mono zb)).alloc (by omega) _).grown hgrow (by simp; omega) (fun j hj => (HOL.out j hj).1)
              have HP := hid_of hpush
              obtain ⟨g6, cap6, rfl⟩ := hpush.row.form hpush.nn
              clear hown hgrow hnn hob hpush
              go_wp2_with fail
              obtain rfl : m = ts.length + 1 := HMM.out
              go_roundw
              case measure => simp [intOf]; omega
              case rel => exact ⟨k + 1, _, by omega, by go_num, hid_of (by rw [HLS.out, HONE.out, List.map_append, HM.out]; rfl), HP, hb6⟩
            · go_wp2_with (
                at_builtin
                refine wpList_append_own_at _ rfl _ _ 23 rfl w.heap.size 56 i0 zeroSe 5 72 Tryz.underlying23 hi0 hz0 hz1 hz2 rfl (by decide) _ es.length _ rfl (hrowW.alloc _) ⟨w5.heap.size, 0, none⟩ 1 1 [.string s.al, .string s.name, .bool s.one, .int .i64 s.id, .slice a5 0 c5] rfl rfl (by rw [← zW]; exact World.news_of_block (heap_alloc_new W _)) (by intro u hu; simp at hu; rcases hu with rfl | rfl | rfl | rfl | rfl <;> rfl) (by unfold maxLen; omega) (by omega) (by simp; omega) ?_
                intro v' w6 hown hgrow hnn hob
                refine Hid.out ?_)
              refine hid_of ?_
              have hpush := LG.push (HGW.out.keep (below_box W _)) ⟨s.sub K, a5, c5, fun b => b < B ∨ (w4.heap.size ≤ b ∧ b < w5.heap.size)⟩ (by unfold El.cells; simp only [Se.sub]; rw [← HNK.out]) hown hgrow hnn hob (HRW.out.mono fun b hq => (below_box W _).block b (by omega)) (fun b hq => ⟨by simp; omega, fun e2 => by have := HOL.out b e2; omega⟩) (fun b hq => by omega) HSZ.out
              have hb6 : Below w.heap.size w w6 := ((hb.trans (hbW.mono zb)).alloc (by omega) _).grown hgrow (by simp; omega) (fun j hj => (HOL.out j hj).1)
              have HP := hid_of hpush
              obtain ⟨g6, cap6, rfl⟩ := hpush.row.form hpush.nn
              clear hown hgrow hnn hob hpush
              go_wp2_with fail
              obtain rfl : m = ts.length + 1 := HMM.out
              go_roundw
              case measure => simp [intOf]; omega
              case rel => exact ⟨k + 1, _, by omega, by go_num, hid_of (by rw [HLS.out, HONE.out, List.map_append, HM.out]; rfl), HP, hb6⟩
end Go.Proofs.YtokmgbidmnanpaaGreatDoor
