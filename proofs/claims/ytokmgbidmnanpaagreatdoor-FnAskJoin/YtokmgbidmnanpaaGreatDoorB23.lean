import Derived.Test.YtokmgbidmnanpaaGreatDoorB1
import Derived.Test.YtokmgbidmnanpaaGreatDoorB22
import Derived.Test.YtokmgbidmnanpaaGreatDoorB3
import Derived.Test.YtokmgbidmnanpaaGreatDoorB5
import Derived.Test.YtokmgbidmnanpaaGreatDoorB8
import Derived.Test.YtokmgbidmnanpaaGreatDoorB2
set_option linter.unusedSimpArgs false
set_option linter.unusedVariables false
namespace Go.Proofs.YtokmgbidmnanpaaGreatDoor
open Go.RowKit Go.Shelf
attribute [local go_sem] Oper.semAt_some
theorem owns_low {w : World} {base base' e sz n : Nat} {v : Value} {xs : List Value} (h : w.ownsRow base e sz v n xs) (hb : base' ≤ base) : w.ownsRow base' e sz v n xs := by
  refine ⟨h.1, h.2.imp id ?_⟩
  rintro ⟨g, cap, cur, rfl, hg, hr⟩
  exact ⟨g, cap, cur, rfl, by omega, hr⟩
theorem KeepO.then {O O' : Nat → Prop} {A B C : World} (h : KeepO O A B) (ho : ∀ b, O' b → O b ∨ A.heap.size ≤ b) (k : KeepO O' B C) : KeepO O A C := ⟨Nat.le_trans h.size k.size, fun b o hb h1 h2 => k.cells b o (fun h' => (ho b h').elim hb (fun hs => by have := (Array.getElem?_eq_some_iff.1 h1).1; omega)) (h.cells b o hb h1 h2) h2⟩
theorem strsOf {w : World} {base g cap : Nat} {ah : Way} {key : ByteArray} (h : w.ownsRow base 9 1 (.slice (some ⟨g, 0, none⟩) (ah.length + 1) cap) (ah.length + 1) (ah.map Value.string ++ [.string key])) (hk : key.size ≤ maxLen) (hs : ∀ i, (nth ah i).size ≤ maxLen) (hl : ah.length + 1 ≤ maxLen) (hlt : g < w.heap.size) :
    Strs w (fun b => base ≤ b ∧ b < w.heap.size) (ah ++ [key]) (some ⟨g, 0, none⟩) ∧ ah.length + 1 ≤ cap := by
  have hb : base ≤ g ∧ ah.length + 1 ≤ cap := by
    rcases h.2 with ⟨h', _⟩ | ⟨g', cap', cur, h', hb, _, hn, _⟩
    · simp at h'
    · simp only [Value.slice.injEq, Option.some.injEq, Addr.mk.injEq, and_true, true_and] at h'
      obtain ⟨rfl, rfl⟩ := h'
      exact ⟨hb, hn⟩
  have hnth : ∀ i, nth (ah ++ [key]) i = if i < ah.length then nth ah i else if i = ah.length then key else nth [] 0 := fun i => by
    simp only [nth, List.getD_eq_getElem?_getD]
    by_cases h1 : i < ah.length
    · rw [if_pos h1, List.getElem?_append_left h1]
    · rw [if_neg h1, List.getElem?_append_right (by omega)]
      by_cases h2 : i = ah.length
      · subst h2; simp
      · rw [if_neg h2, List.getElem?_eq_none (by simp; omega)]; rfl
  refine ⟨⟨fun _ => ⟨g, 0, rfl, ⟨hb.1, hlt⟩, fun i hi => ?_⟩, fun i => ?_, by simpa using hl⟩, hb.2⟩
  · simp only [List.length_append, List.length_singleton] at hi
    have := h.cellAt i (by omega)
    rw [Nat.zero_add, this]
    rw [hnth]
    by_cases h1 : i < ah.length
    · rw [if_pos h1, List.getElem?_append_left (by simpa using h1), List.getElem?_map]
      simp [nth, List.getD_eq_getElem?_getD, h1]
    · rw [if_neg h1, if_pos (by omega), List.getElem?_append_right (by simp; omega)]
      simp [show i = ah.length by omega]
  · rw [hnth]
    split
    · exact hs i
    · split
      · exact hk
      · unfold maxLen; decide
set_option maxRecDepth 20000 in
set_option maxHeartbeats 3200000 in
theorem tellSels_own (XS : List (Way × Se)) (l : Nat) (J : List (Way × Se) → (Nat → Prop) → World → Prop) (Jx : World → Prop) (lo : Nat) (hJg : ∀ pre O, Grows (J pre O)) (hJO : ∀ pre O A, J pre O A → ∀ b, O b → b < A.heap.size)
    (hY : ∀ (n : Nat) pre O x ar A, J pre O A → pre ++ [x] <+: XS → ArgN lo O x ar A → YieldAt Fence.wide n Tryz.prog l ar A fun e B => ∃ go, e = .returned (.bool go) ∧ Told J Jx O pre x A go B) :
    ∀ (f n : Nat) (ah : Way) (ks : List Se) (pre : List (Way × Se)) (O : Nat → Prop) (W : World) (aa : Option Addr) (ac : Nat) (ka : Option Addr) (kc : Nat), FitS f ks → SmallS f ks → (∀ a ∈ ah, a.size ≤ 1048576) → SeReps W (· < lo) ks ka → lo ≤ W.heap.size → Strs W (fun b => ¬ O b ∧ b < W.heap.size) ah aa → ah.length + f ≤ 1000000000 → J pre O W → (∀ b, O b → lo ≤ b) → pre ++ preTo f ah ks ks.length <+: XS →
    CallsIn Fence.wide n Tryz.prog 80 #[.slice aa ah.length ac, .slice ka ks.length kc, .func (.yield l) #[] #[]] W (TellP J Jx O lo (pre ++ preTo f ah ks ks.length) W) := by
  intro f
  induction f with
  | zero =>
    intro n ah ks pre O W aa ac ka kc hf hsm hah hR hlo hS hbd hJ hO hpx
    have e : ks = [] := hf
    subst e
    have HJ := hid_of hJ
    clear hJ
    refine callsIn_of_wp Tryz.func80 rfl trivial ?_ rfl
    simp only [Tryz.ntmps80, List.size_toArray, List.length_cons, List.length_nil, Nat.reduceAdd, Nat.reduceSub, Array.replicate_succ, Array.replicate_zero, List.push_toArray, List.append_toArray, List.nil_append, List.cons_append]
    gi_wp2
    gi_loopw [12] (fun i wr => i = .int .i64 0 ∧ wr = W) (fun _ _ => 0)
    case atStart => exact ⟨rfl, rfl⟩
    case round =>
      obtain ⟨rfl, rfl⟩ := hrel
      gi_wp2
      go_ret
      exact ⟨true, rfl, Or.inl ⟨rfl, O, by simpa [preTo] using HJ.out, KeepO.refl _ _, fun b hb => Or.inl hb, hO⟩⟩
  | succ f IH =>
    intro n ah ks pre O W aa ac ka kc hf hsm hah hR hlo hS hbd hJ hO hpx
    have h72 := hR.1
    obtain ⟨i0, hi, hz0, hz1, hz2⟩ := info_parts info9
    refine callsIn_of_wp Tryz.func80 rfl trivial ?_ rfl
    simp only [Tryz.ntmps80, List.size_toArray, List.length_cons, List.length_nil, Nat.reduceAdd, Nat.reduceSub, Array.replicate_succ, Array.replicate_zero, List.push_toArray, List.append_toArray, List.nil_append, List.cons_append]
    gi_wp2
    gi_loopw [12] (fun i wr => ∃ (k : Nat) (O' : Nat → Prop), k ≤ ks.length ∧ i = .int .i64 k ∧ Hid (J (pre ++ preTo (f + 1) ah ks k) O' wr) ∧ KeepO O W wr ∧ Hid (∀ b, O' b → O b ∨ W.heap.size ≤ b) ∧ Hid (∀ b, O' b → lo ≤ b) ∧ Hid (Strs wr (fun b => ¬ O' b ∧ b < wr.heap.size) ah aa) ∧ Hid (SeReps wr (· < lo) ks ka)) (fun i _ => ks.length - (intOf i).toNat)
    case atStart => exact ⟨0, O, Nat.zero_le _, rfl, hid_of (by simpa [preTo] using hJ), KeepO.refl _ _, hid_of fun b hb => Or.inl hb, hid_of hO, hid_of hS, hid_of hR⟩
    case round =>
      clear hR hS hJ
      obtain ⟨k, O', hk, rfl, HJ, hkeep, HOO, HOL, HS, HR⟩ := hrel
      obtain ⟨w0, rfl⟩ : ∃ x, x = wr := ⟨wr, rfl⟩
      have zk := hkeep.size
      by_cases hlt : k < ks.length
      case neg =>
        have e : k = ks.length := by omega
        subst e
        gi_wp2
        go_ret
        exact ⟨true, rfl, Or.inl ⟨rfl, O', HJ.out, hkeep, HOO.out, HOL.out⟩⟩
      obtain ⟨-, C, hA, hr⟩ := HR.out
      obtain ⟨kb, koff, rfl, hkB, hkc⟩ := hA (by omega)
      have hki : (k : Int) < (ks.length : Int) := by omega
      obtain ⟨sa, sc, e0, e1, e2, e3, e4, hal, hnm, hKids⟩ := (hr k hlt).pieces
      have q0 : w0.cell? ⟨kb, koff + k * 5, none⟩ = some (.string (sth ks k).al) := e0 ▸ hkc k hlt 0 (by omega)
      have q1 : w0.cell? ⟨kb, koff + k * 5 + 1, none⟩ = some (.string (sth ks k).name) := e1 ▸ hkc k hlt 1 (by omega)
      have q2 : w0.cell? ⟨kb, koff + k * 5 + 2, none⟩ = some (.bool (sth ks k).one) := e2 ▸ hkc k hlt 2 (by omega)
      have q3 : w0.cell? ⟨kb, koff + k * 5 + 3, none⟩ = some (.int .i64 (sth ks k).id) := e3 ▸ hkc k hlt 3 (by omega)
      have q4 : w0.cell? ⟨kb, koff + k * 5 + 4, none⟩ = some (.slice sa (sth ks k).kids.length sc) := e4 ▸ hkc k hlt 4 (by omega)
      have hfit := hf k hlt
      have hsmk := hsm k hlt
      have HPR := hid_of (preTo_succ f ah ks k)
      have HPX : Hid ((pre ++ preTo (f + 1) ah ks k) ++ [(ah ++ [keyS (sth ks k)], sth ks k)] <+: XS ∧ (pre ++ preTo (f + 1) ah ks k ++ [(ah ++ [keyS (sth ks k)], sth ks k)]) ++ preTo f (ah ++ [keyS (sth ks k)]) (sth ks k).kids (sth ks k).kids.length <+: XS) := hid_of (by
        have h1 := preTo_pre f ah ks ks.length (k + 1) hlt
        rw [preTo_succ] at h1
        have h2 : (pre ++ preTo (f + 1) ah ks k ++ [(ah ++ [keyS (sth ks k)], sth ks k)]) ++ preTo f (ah ++ [keyS (sth ks k)]) (sth ks k).kids (sth ks k).kids.length <+: XS := by
          refine List.IsPrefix.trans ?_ hpx
          simp only [List.append_assoc, List.prefix_append_right_inj, List.singleton_append]
          exact h1
        exact ⟨(List.prefix_append _ _).trans h2, h2⟩)
      have hkm : (keyS (sth ks k)).size ≤ maxLen := by unfold keyS; split <;> assumption
      have hks : (keyS (sth ks k)).size ≤ 1048576 := by
        unfold keyS
        split
        · exact hsmk.2.1
        · exact hsmk.1
      generalize sth ks k = s at *
      clear e0 e1 e2 e3 e4 hkc hr hA
      have hS := HS.out
      have bB := below_box w0 (.cells #[.string s.al, .string s.name, .bool s.one, .int .i64 s.id, .slice sa s.kids.length sc] 56)
      have nB := block_new (w := w0) #[.string s.al, .string s.name, .bool s.one, .int .i64 s.id, .slice sa s.kids.length sc] 56 rfl
      have zB : w0.heap.size < (w0.alloc (.cells #[.string s.al, .string s.name, .bool s.one, .int .i64 s.id, .slice sa s.kids.length sc] 56)).heap.size := by simp
      gi_wp2
      generalize w0.alloc (.cells #[.string s.al, .string s.name, .bool s.one, .int .i64 s.id, .slice sa s.kids.length sc] 56) = X at *
      have HBX : Hid (∀ W', Below X.heap.size X W' → W'.cell? ⟨w0.heap.size, 0, none⟩ = some (.string s.al) ∧ W'.cell? ⟨w0.heap.size, 1, none⟩ = some (.string s.name) ∧ W'.cell? ⟨w0.heap.size, 2, none⟩ = some (.bool s.one) ∧ W'.cell? ⟨w0.heap.size, 3, none⟩ = some (.int .i64 s.id) ∧ W'.cell? ⟨w0.heap.size, 4, none⟩ = some (.slice sa s.kids.length sc)) := hid_of fun W' hW => by
        have hb := (hW.block _ zB).trans nB
        exact ⟨(box_at hb 0 (by simp)).1, (box_at hb 1 (by simp)).1, (box_at hb 2 (by simp)).1, (box_at hb 3 (by simp)).1, (box_at hb 4 (by simp)).1⟩
      have HCT := hid_of (fun W' (hW : Below X.heap.size X W') => copyTexts_own ah aa ac W' _ (strs_below (strs_below hS bB) hW) (by omega))
      clear q0 q1 q2 q3 q4
      refine wpIn_wide.2 ?_
      refine wp_region_held_drew (S := (fun w' => w'.cell? ⟨w0.heap.size, 0, none⟩ = some (.string s.al) ∧ w'.cell? ⟨w0.heap.size, 1, none⟩ = some (.string s.name) ∧ w'.cell? ⟨w0.heap.size, 2, none⟩ = some (.bool s.one) ∧ w'.cell? ⟨w0.heap.size, 3, none⟩ = some (.int .i64 s.id) ∧ w'.cell? ⟨w0.heap.size, 4, none⟩ = some (.slice sa s.kids.length sc))) (by kernel_rfl) (HBX.out _ (Below.refl _ _).drew) (fun hHeld => ?_)
      have bX : Below X.heap.size X X.drew := (Below.refl _ _).drew
      generalize X.drew = wD at *
      refine tkH 0 hHeld ?_
      refine tkH 2 hHeld ?_
      refine rdyH [1] ?_
      refine rcH (fun K hK => ?_) AllReadyH.nil
      go_simp
      refine (HCT.out wD bX).mono ?_
      rintro e wC ⟨cv, rfl, hcv, bC⟩
      have HOV : Hid (∀ W', Below wC.heap.size wC W' → W'.ownsRow X.heap.size 9 1 cv ah.length (ah.map Value.string)) := hid_of fun W' hW => owns_low (owns_keep' hcv hW) bX.size
      have bX := bX.trans (bC.mono bX.size)
      clear hcv
      refine hK.out _ _ (HBX.out _ bX) (fun hHeld => ?_)
      clear hK K
      try simp only [Act.put, List.setIfInBounds_toArray, List.set_cons_zero, List.set_cons_succ]
      refine rdyH [3] ?_
      refine rcH (fun K hK => ?_) AllReadyH.nil
      go_simp
      refine (answeredAs_any s wC _ _ _).mono ?_
      rintro e wK ⟨rfl, bK⟩
      have bX := bX.trans (bK.mono bX.size)
      refine hK.out _ _ (HBX.out _ bX) (fun hHeld => ?_)
      clear hK K
      try simp only [Act.put, List.setIfInBounds_toArray, List.set_cons_zero, List.set_cons_succ]
      refine rdyH [4] ?_
      refine rcH (fun K hK => ?_) AllReadyH.nil
      go_simp
      have bA := below_box wK (.cells #[.string (keyS s)] 9)
      have nA := block_new (w := wK) #[.string (keyS s)] 9 rfl
      have zA : wK.heap.size < (wK.alloc (.cells #[.string (keyS s)] 9)).heap.size := by simp
      have bX := bX.trans (bA.mono bX.size)
      refine hK.out _ _ (HBX.out _ bX) (fun hHeld => ?_)
      clear hK K
      try simp only [Act.put, List.setIfInBounds_toArray, List.set_cons_zero, List.set_cons_succ]
      generalize wK.alloc (.cells #[.string (keyS s)] 9) = wA at *
      refine rdyH [5] ?_
      refine rcH (fun K hK => ?_) AllReadyH.nil
      refine step_append_lies _ rfl (.tmp 17) (.tmp 20) 29 rfl X.heap.size 9 i0 (.string ByteArray.empty) 1 16 Tryz.underlying29 hi hz0 hz1 hz2 rfl (by decide) cv ah.length (ah.map Value.string) rfl (HOV.out wA (bK.trans (bA.mono bK.size))) ⟨wK.heap.size, 0, none⟩ 1 1 [.string (keyS s)] rfl rfl (World.news_of_block nA) (by intro u hu; simp at hu; subst hu; rfl) (by omega) (by unfold maxLen; omega) (by omega) bX.size wA.heap.size rfl ?_
      intro g cap wP hown hgrow hat hltP
      have bX := bX.grown hgrow bX.size (fun k hk => (HOV.out wA (bK.trans (bA.mono bK.size))).lt k hk |>.1)
      have HOW := hid_of (And.intro hown hltP)
      clear hown hgrow hat
      refine hK.out _ _ (HBX.out _ bX) (fun hHeld => ?_)
      clear hK K
      try simp only [Act.put, List.setIfInBounds_toArray, List.set_cons_zero, List.set_cons_succ]
      refine tkH 6 hHeld ?_
      refine wpAnyH_done (by kernel_rfl) ?_ _
      have hah2 : ∀ a ∈ ah ++ [keyS s], a.size ≤ 1048576 := fun a ha => by
        rcases List.mem_append.1 ha with h | h
        · exact hah a h
        · rw [List.mem_singleton.1 h]; exact hks
      have hWay := strsOf HOW.out.1 hkm hS.2.1 (by unfold maxLen; omega) HOW.out.2
      have b0P : Below w0.heap.size w0 wP := bB.trans (bX.mono (by omega))
      have hJP := hJg _ _ _ _ HJ.out b0P
      have hOw : ∀ b, O' b → b < w0.heap.size := hJO _ _ _ HJ.out
      have hWay2 : Strs wP (fun b => ¬ O' b ∧ b < wP.heap.size) (ah ++ [keyS s]) (some ⟨g, 0, none⟩) := hWay.1.sub fun b hb => ⟨fun h => by have := hOw b h; omega, hb.2⟩
      have hKidsP := hKids.mono fun b hb => b0P.block b (by omega)
      obtain ⟨fn, tmps, assign, body, hy, hRr⟩ := hY (n - 1) _ O' (ah ++ [keyS s], s) #[.slice (some ⟨g, 0, none⟩) (ah.length + 1) cap, .agg #[.string s.al, .string s.name, .bool s.one, .int .i64 s.id, .slice sa s.kids.length sc]] wP hJP HPX.out.1 ⟨⟨_, cap, sa, sc, by simp, by simpa using hWay.2, hWay.1.sub fun b hb => hb.2, hal, hnm, hah2, by simp⟩, g, cap, .agg #[.string s.al, .string s.name, .bool s.one, .int .i64 s.id, .slice sa s.kids.length sc], by simp, by have := (HOW.out.1.lt g rfl).1; omega, HOW.out.2, (fun hOg => by have := hOw g hOg; have := (HOW.out.1.lt g rfl).1; omega), fun j => HOW.out.1.frozenAt j⟩
      have HRR := hid_of hRr
      have HW2 := hid_of hWay2
      have HKP := hid_of hKidsP
      have HLT := hid_of hOw
      obtain ⟨y0, y1, y2, y3, y4⟩ := HBX.out wP bX
      clear hRr hWay hWay2 hKidsP hJP hOw
      gi_wp2
      refine ⟨(fun h => by cases h), HRR.out.mono ?_⟩
      rintro e B ⟨go, rfl, hT⟩
      clear hy y0 y1 y2 y3 y4 HRR
      rcases hT with ⟨rfl, O2, hJ2, hk2, ho2⟩ | ⟨rfl, hjx⟩
      rotate_left
      · have HJX := hid_of hjx
        clear hjx
        gi_wp2
        refine ⟨trivial, ?_⟩
        gi_wp2
        go_ret
        exact ⟨false, rfl, Or.inr ⟨rfl, HJX.out⟩⟩
      have zP := b0P.size
      have zB2 := hk2.size
      have hnO : ¬ O' w0.heap.size := fun h => by have := HLT.out _ h; omega
      have y4 : B.cell? ⟨w0.heap.size, 4, none⟩ = some (.slice sa s.kids.length sc) := hk2.cell hnO (HBX.out wP bX).2.2.2.2
      have hOL2 : ∀ b, O2 b → lo ≤ b := fun b hb => (ho2 b hb).elim (HOL.out b) (fun h => by omega)
      have hIH := IH (n - 1) (ah ++ [keyS s]) s.kids _ O2 B (some ⟨g, 0, none⟩) cap sa sc hfit hsmk.2.2 hah2 (ses_keepO HKP.out HOL.out hk2) (by omega) (strs_keepO HW2.out hk2 ho2) (by simp; omega) hJ2 hOL2 HPX.out.2
      simp only [List.length_append, List.length_singleton] at hIH
      have HIH := hid_of hIH
      have hKW : KeepO O W B := (hkeep.then HOO.out (KeepO.below b0P)).then HOO.out hk2
      have hOW2 : ∀ b, O2 b → O b ∨ W.heap.size ≤ b := fun b hb => (ho2 b hb).elim (HOO.out b) (fun h => Or.inr (by omega))
      have HS2 := hid_of (strs_keepO (strs_below HS.out b0P) hk2 ho2)
      have HR2 := hid_of (ses_keepO (HR.out.mono fun b hb => b0P.block b (by omega)) HOL.out hk2)
      have HH := hid_of (And.intro hKW (And.intro hOW2 hOL2))
      clear hIH hJ2 hKW hOW2 hOL2 ho2
      gi_wp2
      refine ⟨trivial, (fun h => by cases h), HIH.out.mono ?_⟩
      rintro e C ⟨go, rfl, hT⟩
      clear y4 HIH
      rcases hT with ⟨rfl, O3, hJ3, hk3, ho3, hl3⟩ | ⟨rfl, hjx⟩
      rotate_left
      · have HJX := hid_of hjx
        clear hjx
        gi_wp2
        go_ret
        exact ⟨false, rfl, Or.inr ⟨rfl, HJX.out⟩⟩
      have HJ3 := hid_of (And.intro hJ3 (And.intro hk3 (And.intro ho3 hl3)))
      clear hJ3 ho3 hl3
      gi_wp2
      go_roundw
      case measure => simp [intOf]; omega
      case rel =>
        obtain ⟨hJ3, -, ho3, hl3⟩ := HJ3.out
        obtain ⟨hKW, hOW2, hOL2⟩ := HH.out
        refine ⟨k + 1, O3, by omega, by go_num, hid_of ?_, hKW.then hOW2 hk3, hid_of fun b hb => (ho3 b hb).elim (hOW2 b) (fun h => Or.inr (by have := hKW.size; omega)), hid_of hl3, hid_of (strs_keepO HS2.out hk3 ho3), hid_of (ses_keepO HR2.out hOL2 hk3)⟩
        rw [HPR.out]
        simpa using hJ3
end Go.Proofs.YtokmgbidmnanpaaGreatDoor
namespace Go.Proofs.YtokmgbidmnanpaaGreatDoor
open Go.RowKit Go.Shelf
attribute [local go_sem] Oper.semAt_some
set_option maxHeartbeats 400000 in
theorem selsOf_any (w : World) (ka : Option Addr) (kl kc : Nat) :
    Calls Tryz.prog 42 #[.slice ka kl kc] w fun e w' => e = .returned (.func (.func 79) #[] #[.pointer (some ⟨w.heap.size, 0, none⟩)]) ∧ w' = w.alloc (.cells #[.slice ka kl kc] 23) := by
  go_enter Tryz.func42, Tryz.ntmps42
  go_wp2_with fail
  go_ret
  exact ⟨rfl, rfl⟩
set_option maxRecDepth 20000 in
set_option maxHeartbeats 800000 in
theorem selsOf1_own (f : Nat) (ks : List Se) (l : Nat) (J : List (Way × Se) → (Nat → Prop) → World → Prop) (Jx : World → Prop) (lo : Nat) (hJg : ∀ pre O, Grows (J pre O)) (hJO : ∀ pre O A, J pre O A → ∀ b, O b → b < A.heap.size)
    (hY : ∀ (n : Nat) pre O x ar A, J pre O A → pre ++ [x] <+: preTo f [] ks ks.length → ArgN lo O x ar A → YieldAt Fence.wide n Tryz.prog l ar A fun e B => ∃ go, e = .returned (.bool go) ∧ Told J Jx O pre x A go B)
    (n : Nat) (O : Nat → Prop) (W : World) (ka : Option Addr) (kc sb : Nat) (hf : FitS f ks) (hsm : SmallS f ks) (hR : SeReps W (· < lo) ks ka) (hlo : lo ≤ W.heap.size) (hbd : f ≤ 1000000000) (hJ : J [] O W) (hO : ∀ b, O b → lo ≤ b) (hs : W.cell? ⟨sb, 0, none⟩ = some (.slice ka ks.length kc)) :
    CallsIn Fence.wide n Tryz.prog 79 #[.func (.yield l) #[] #[], .pointer (some ⟨sb, 0, none⟩)] W fun e W' => (∃ v, e = .returned v) ∧ ((∃ O', J (preTo f [] ks ks.length) O' W') ∨ Jx W') := by
  have hT := tellSels_own (preTo f [] ks ks.length) l J Jx lo hJg hJO hY f (n - 1) [] ks [] O W none 0 ka kc hf hsm (fun a ha => by simp at ha) hR hlo ⟨fun h => absurd rfl h, fun i => by simp [nth], by unfold maxLen; simp⟩ (by simpa using hbd) hJ hO (by simp)
  have HT := hid_of hT
  clear hT
  refine callsIn_of_wp Tryz.func79 rfl trivial ?_ rfl
  simp only [Tryz.ntmps79, List.size_toArray, List.length_cons, List.length_nil, Nat.reduceAdd, Nat.reduceSub, Array.replicate_succ, Array.replicate_zero, List.push_toArray, List.append_toArray, List.nil_append, List.cons_append]
  gi_wp2
  refine ⟨trivial, (fun h => by cases h), HT.out.mono ?_⟩
  rintro e C ⟨go, rfl, hT⟩
  have HC : Hid ((∃ O', J (preTo f [] ks ks.length) O' C) ∨ Jx C) := hid_of (by
    rcases hT with ⟨-, O3, hJ3, -⟩ | ⟨-, hjx⟩
    · exact Or.inl ⟨O3, by simpa using hJ3⟩
    · exact Or.inr hjx)
  clear hT
  gi_wp2
  refine bodyPost_end (v := .tuple #[]) ?res rfl ⟨⟨_, rfl⟩, HC.out⟩
  case res => simp [results, Tryz.results79, go_sem]
theorem selsOf1_any (f : Nat) (ks : List Se) (l : Nat) (J : List (Way × Se) → (Nat → Prop) → World → Prop) (Jx : World → Prop) (lo : Nat) (hJg : ∀ pre O, Grows (J pre O)) (hJO : ∀ pre O A, J pre O A → ∀ b, O b → b < A.heap.size)
    (hY : ∀ (n : Nat) pre O x ar A, J pre O A → pre ++ [x] <+: preTo f [] ks ks.length → ArgT x ar A → YieldAt Fence.wide n Tryz.prog l ar A fun e B => ∃ go, e = .returned (.bool go) ∧ Told J Jx O pre x A go B)
    (n : Nat) (O : Nat → Prop) (W : World) (ka : Option Addr) (kc sb : Nat) (hf : FitS f ks) (hsm : SmallS f ks) (hR : SeReps W (· < lo) ks ka) (hlo : lo ≤ W.heap.size) (hbd : f ≤ 1000000000) (hJ : J [] O W) (hO : ∀ b, O b → lo ≤ b) (hs : W.cell? ⟨sb, 0, none⟩ = some (.slice ka ks.length kc)) :
    CallsIn Fence.wide n Tryz.prog 79 #[.func (.yield l) #[] #[], .pointer (some ⟨sb, 0, none⟩)] W fun e W' => (∃ v, e = .returned v) ∧ ((∃ O', J (preTo f [] ks ks.length) O' W') ∨ Jx W') :=
  selsOf1_own f ks l J Jx lo hJg hJO (fun n pre O x ar A h1 h2 h3 => hY n pre O x ar A h1 h2 h3.1) n O W ka kc sb hf hsm hR hlo hbd hJ hO hs
end Go.Proofs.YtokmgbidmnanpaaGreatDoor
namespace Go.Proofs.YtokmgbidmnanpaaGreatDoor
open Go.RowKit Go.Shelf
theorem joinW_lib : ∀ way : Way, Lib.join (way.map (·.data.toList)) [47] = joinW way
  | [] => rfl
  | [a] => by simp [Lib.join, List.intercalate, joinW, ByteArray.toList_eq]
  | a :: b :: l => by
    have ih := joinW_lib (b :: l)
    rw [joinW, ← ih, ByteArray.toList_eq]
    simp [Lib.join, List.intercalate]
theorem joinW_len : ∀ way : Way, (∀ a ∈ way, a.size ≤ 1048576) → (joinW way).length ≤ 1048577 * way.length
  | [], _ => by simp [joinW]
  | [a], h => by
    have := h a (by simp)
    rw [joinW, toList_len]; simp; omega
  | a :: b :: l, h => by
    have h1 := h a (by simp)
    have ih := joinW_len (b :: l) (fun x hx => h x (List.mem_cons_of_mem _ hx))
    rw [joinW, List.length_append, List.length_cons, toList_len]
    simp only [List.length_cons] at ih ⊢
    omega
set_option maxHeartbeats 400000 in
theorem wayText_any (way : Way) (wa : Option Addr) (wc : Nat) (w : World) (hS : Strs w (· < w.heap.size) way wa) (hne : way ≠ []) (hc : way.length ≤ wc) (hl : way.length ≤ 1000) (hsm : ∀ a ∈ way, a.size ≤ 1048576) :
    Calls Tryz.prog 51 #[.slice wa way.length wc] w fun e w' => (∃ t : ByteArray, e = .returned (.string t) ∧ t.toList = joinW way ∧ t.size ≤ 1048577000) ∧ Below w.heap.size w w' := by
  obtain ⟨b, off, rfl, hb, hcl⟩ := hS.1 hne
  have hj := joinW_len way hsm
  have HJ := hid_of (join_any b off wc way ⟨#[47]⟩ w (fun j x hx => by
    obtain ⟨hj, rfl⟩ := List.getElem?_eq_some_iff.1 hx
    have h3 := hcl j hj
    have e3 : nth way j = way[j] := by unfold nth; rw [List.getD_eq_getElem?_getD, List.getElem?_eq_getElem hj]; rfl
    rw [e3] at h3
    exact h3) hb (by omega) hc (by show (Lib.join (way.map (·.data.toList)) [47]).length ≤ _; rw [joinW_lib]; omega))
  go_enter Tryz.func51, Tryz.ntmps51
  go_wp2_with fail
  refine HJ.out.mono ?_
  rintro e w1 ⟨rfl, hb1⟩
  have HB := hid_of hb1
  clear hb1
  go_wp2_with fail
  go_ret
  refine ⟨⟨_, rfl, ?_, ?_⟩, HB.out⟩
  · rw [ByteArray.toList_eq]
    exact joinW_lib way
  · show (Lib.join (way.map (·.data.toList)) [47]).toArray.size ≤ _
    rw [joinW_lib]; simp; omega
end Go.Proofs.YtokmgbidmnanpaaGreatDoor
namespace Go.Proofs.YtokmgbidmnanpaaGreatDoor
open Go.RowKit Go.Shelf
attribute [local go_sem] Oper.semAt_some
theorem yieldAt_wide {n m : Nat} {P : Program} {l : Nat} {args : Array Value} {W : World} {R : Ending → World → Prop} (h : YieldAt Fence.wide n P l args W R) : YieldAt Fence.wide m P l args W R := by
  obtain ⟨fn, tmps, assign, body, h1, h2, h3⟩ := h
  exact ⟨fn, tmps, assign, body, h1, h2, fun c cs _ => h3 c cs (room_wide _)⟩
def Gat (base bw : Nat) (ts : List ByteArray) (wv : Value) (A : World) : Prop :=
  A.heap[bw]? = some (.cells #[wv] 29 (0, 0)) ∧ A.ownsRow base 9 1 wv ts.length (ts.map Value.string) ∧ wv.ownBlock ≠ some bw
theorem Gat.of {base bw : Nat} {ts : List ByteArray} {wv : Value} {A B : World} (h : Gat base bw ts wv A) (e : ∀ (k : Nat) (c : Array Value) (t : TypeId), (k = bw ∨ wv.ownBlock = some k) → A.heap[k]? = some (Obj.cells c t (0, 0)) → B.heap[k]? = some (Obj.cells c t (0, 0))) : Gat base bw ts wv B := by
  obtain ⟨h1, h2, h3⟩ := h
  refine ⟨e _ _ _ (Or.inl rfl) h1, ⟨h2.1, ?_⟩, h3⟩
  rcases h2.2 with hn | ⟨g, cap, cur, hv, hb, hh, r⟩
  · exact Or.inl hn
  · exact Or.inr ⟨g, cap, cur, hv, hb, e _ _ _ (Or.inr (by rw [hv]; rfl)) hh, r⟩
theorem Gat.still {base bw : Nat} {ts : List ByteArray} {wv : Value} {A : World} (h : Gat base bw ts wv A) {l : Nat} {o o' : Obj} (hl : A.heap[l]? = some o) (ho : o.isCells = false) : Gat base bw ts wv (A.putObj l o') :=
  h.of fun k c t _ hk => by
    have hne : k ≠ l := by intro e; rw [e, hl] at hk; cases hk; cases ho
    exact (World.putObj_heap_other hne).trans hk
theorem Gat.grow {base bw : Nat} {ts : List ByteArray} {wv : Value} {A B : World} (h : Gat base bw ts wv A) (hb : Below A.heap.size A B) : Gat base bw ts wv B :=
  h.of fun k c t _ hk => (hb.block k (Array.getElem?_eq_some_iff.1 hk).1).trans hk
theorem Gat.strs {base bw : Nat} {ts : List ByteArray} {wv : Value} {A : World} (h : Gat base bw ts wv A) (hs : ∀ t ∈ ts, t.size ≤ maxLen) (hl : ts.length ≤ 1000000) : ∃ a c, wv = .slice a ts.length c ∧ Strs A (fun _ => True) ts a := by
  obtain ⟨-, h2, -⟩ := h
  have hsz : ∀ i, (nth ts i).size ≤ maxLen := fun i => by
    by_cases hi : i < ts.length
    · simp only [nth, List.getD_eq_getElem?_getD, List.getElem?_eq_getElem hi, Option.getD_some]
      exact hs _ (List.getElem_mem hi)
    · simp only [nth, List.getD_eq_getElem?_getD, List.getElem?_eq_none (by omega : ts.length ≤ i), Option.getD_none]
      unfold maxLen; decide
  rcases h2.2 with ⟨rfl, h0⟩ | ⟨g, cap, cur, rfl, hb, hh, r⟩
  · have e : ts = [] := List.length_eq_zero_iff.1 h0
    subst e
    exact ⟨none, 0, rfl, fun h => absurd rfl h, hsz, by unfold maxLen; simp⟩
  · refine ⟨_, _, rfl, fun _ => ⟨g, 0, rfl, trivial, fun i hi => ?_⟩, hsz, by unfold maxLen; omega⟩
    have := h2.cellAt i (by omega)
    rw [Nat.zero_add, this, List.getElem?_map]
    simp [nth, List.getD_eq_getElem?_getD, hi]
theorem preTo_some {f : Nat} {ks : List Se} (hf : FitS f ks) : (0 < (preTo f [] ks ks.length).length) ↔ ks.isEmpty = false := by
  rw [preTo_len f [] ks _ (Nat.le_refl _) hf]
  cases ks with
  | nil => simp [cntTo]
  | cons a l =>
    simp only [List.isEmpty_cons, iff_true]
    cases f with
    | zero => exact absurd hf (by simp [FitS])
    | succ f =>
      have := cnt_one (f + 1) (a :: l) (a :: l).length 0 (by simp)
      rw [cntSe_kids] at this
      omega
theorem walkB_app : ∀ (l : List (Way × Se)) (ws : List (List UInt8)) (m : List (Way × Se)), walkB ws (l ++ m) = (walkB ws l && walkB (ws ++ l.map fun x => joinW x.1) m)
  | [], ws, m => by simp [walkB]
  | x :: l, ws, m => by
    rw [List.cons_append, walkB, walkB, walkB_app l, List.map_cons, Bool.and_assoc]
    simp
theorem walkB_bad {xs pre : List (Way × Se)} {x : Way × Se} (hp : pre ++ [x] <+: xs) (hb : stepB (pre.map fun x => joinW x.1) x = false) : walkB [] xs = false := by
  obtain ⟨m, rfl⟩ := hp
  rw [List.append_assoc, walkB_app]
  simp [walkB, hb]
theorem walkB_one {pre : List (Way × Se)} {x : Way × Se} (hw : walkB [] pre = true) (hs : stepB (pre.map fun x => joinW x.1) x = true) : walkB [] (pre ++ [x]) = true := by
  rw [walkB_app, hw]
  simp [walkB, hs]
end Go.Proofs.YtokmgbidmnanpaaGreatDoor
namespace Go.Proofs.YtokmgbidmnanpaaGreatDoor
open Go.RowKit Go.Shelf
def InCells (w : World) (P : Nat → Prop) (b : Nat) : Prop := P b ∧ ∃ o, w.heap[b]? = some o ∧ o.isCells = true
theorem Strs.only {w : World} {P : Nat → Prop} {ns : List ByteArray} {a : Option Addr} (h : Strs w P ns a) : Strs w (InCells w P) ns a := by
  obtain ⟨h1, h2, h3⟩ := h
  refine ⟨fun hn => ?_, h2, h3⟩
  obtain ⟨b, off, e, hb, hc⟩ := h1 hn
  exact ⟨b, off, e, ⟨hb, cell_cells (hc 0 (List.length_pos_iff.2 hn))⟩, hc⟩
theorem Arr.only {w : World} {P : Nat → Prop} {k n : Nat} {a : Option Addr} {C : Nat → Nat → Value} (hk : 0 < k) (h : Arr w P k n a C) : Arr w (InCells w P) k n a C := fun hn => by
  obtain ⟨b, off, e, hb, hc⟩ := h hn
  exact ⟨b, off, e, ⟨hb, cell_cells (hc 0 hn 0 hk)⟩, hc⟩
theorem FRep.only {w : World} {P : Nat → Prop} {f : F} {v : Value} (h : FRep w P f v) : FRep w (InCells w P) f v := by
  obtain ⟨na, nc, e, h1, h2⟩ := h
  exact ⟨na, nc, e, h1.only, h2⟩
theorem FsRep.only {w : World} {P : Nat → Prop} {fs : List F} {a : Option Addr} (h : FsRep w P fs a) : FsRep w (InCells w P) fs a := by
  obtain ⟨h0, C, hA, hr⟩ := h
  exact ⟨h0, C, hA.only (by omega), fun i hi => (hr i hi).only⟩
theorem TRep.only {w : World} {P : Nat → Prop} {t : T} {v : Value} (h : TRep w P t v) : TRep w (InCells w P) t v := by
  obtain ⟨fa, fc, e, h1, h2⟩ := h
  exact ⟨fa, fc, e, h1.only, h2⟩
theorem TsRep.only {w : World} {P : Nat → Prop} {ts : List T} {a : Option Addr} (h : TsRep w P ts a) : TsRep w (InCells w P) ts a := by
  obtain ⟨h0, C, hA, hr⟩ := h
  exact ⟨h0, C, hA.only (by omega), fun i hi => (hr i hi).only⟩
theorem PRep.only {w : World} {P : Nat → Prop} {p : Pt} {v : Value} (h : PRep w P p v) : PRep w (InCells w P) p v := by
  obtain ⟨ta, tc, e, h1, h2⟩ := h
  exact ⟨ta, tc, e, h1.only, h2⟩
end Go.Proofs.YtokmgbidmnanpaaGreatDoor
