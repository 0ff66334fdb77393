import Derived.Test.YtgcfgadkclfonaaGreatDoorJ7
import Derived.Test.YtgcfgadkclfonaaGreatDoorJ2
namespace Go.Proofs.YtgcfgadkclfonaaGreatDoor
set_option linter.unusedSimpArgs false
set_option linter.unusedVariables false
open Go.RowKit Go.Shelf
attribute [local go_sem] Oper.semAt_some

theorem owns_keep' {w w' : World} {base e sz n : Nat} {v : Value} {xs : List Value} (h : w.ownsRow base e sz v n xs) (hb : Below w.heap.size w w') : w'.ownsRow base e sz v n xs := by
  refine ⟨h.1, h.2.imp id ?_⟩
  rintro ⟨g, cap, cur, rfl, hg, hh, hr⟩
  exact ⟨g, cap, cur, rfl, hg, (hb.block g (Array.getElem?_eq_some_iff.1 hh).1).trans hh, hr⟩
theorem owns_low {w : World} {base base' e sz n : Nat} {v : Value} {xs : List Value} (h : w.ownsRow base e sz v n xs) (hb : base' ≤ base) : w.ownsRow base' e sz v n xs := by
  refine ⟨h.1, h.2.imp id ?_⟩
  rintro ⟨g, cap, cur, rfl, hg, hr⟩
  exact ⟨g, cap, cur, rfl, by omega, hr⟩
theorem KeepO.then {O O' : Nat → Prop} {A B C : World} (h : KeepO O A B) (ho : ∀ b, O' b → O b ∨ A.heap.size ≤ b) (k : KeepO O' B C) : KeepO O A C := ⟨Nat.le_trans h.size k.size, fun b o hb h1 h2 => k.cells b o (fun h' => (ho b h').elim hb (fun hs => by have := (Array.getElem?_eq_some_iff.1 h1).1; omega)) (h.cells b o hb h1 h2) h2⟩
/-- The way behind an append. -/
theorem strsOf {w : World} {base g cap : Nat} {ah : Way} {key : ByteArray} (h : w.ownsRow base 9 1 (.slice (some ⟨g, 0, none⟩) (ah.length + 1) cap) (ah.length + 1) (ah.map Value.string ++ [.string key])) (hk : key.size ≤ maxLen) (hs : ∀ i, (nth ah i).size ≤ maxLen) (hl : ah.length + 1 ≤ maxLen) (hlt : g < w.heap.size) :
    Strs w (fun b => base ≤ b ∧ b < w.heap.size) (ah ++ [key]) (some ⟨g, 0, none⟩) ∧ ah.length + 1 ≤ cap := by
  have hb : base ≤ g ∧ ah.length + 1 ≤ cap := by
    rcases h.2 with ⟨h', _⟩ | ⟨g', cap', cur, h', hb, _, hn, _⟩
    · simp at h'
    · simp only [Value.slice.injEq, Option.some.injEq, Addr.mk.injEq, and_true, true_and] at h'
      obtain ⟨rfl, rfl⟩ := h'
      exact ⟨hb, hn⟩
  have hnth : ∀ i, nth (ah ++ [key]) i = if i < ah.length then nth ah i else if i = ah.length then key else nth [] 0 := fun i => by
    simp only [nth, List.getD_eq_getElem?_getD]
    by_cases h1 : i < ah.length
    · rw [if_pos h1, List.getElem?_append_left h1]
    · rw [if_neg h1, List.getElem?_append_right (by omega)]
      by_cases h2 : i = ah.length
      · subst h2; simp
      · rw [if_neg h2, List.getElem?_eq_none (by simp; omega)]; rfl
  refine ⟨⟨fun _ => ⟨g, 0, rfl, ⟨hb.1, hlt⟩, fun i hi => ?_⟩, fun i => ?_, by simpa using hl⟩, hb.2⟩
  · simp only [List.length_append, List.length_singleton] at hi
    have := h.cellAt i (by omega)
    rw [Nat.zero_add, this]
    rw [hnth]
    by_cases h1 : i < ah.length
    · rw [if_pos h1, List.getElem?_append_left (by simpa using h1), List.getElem?_map]
      simp [nth, List.getD_eq_getElem?_getD, h1]
    · rw [if_neg h1, if_pos (by omega), List.getElem?_append_right (by simp; omega)]
      simp [show i = ah.length by omega]
  · rw [hnth]
    split
    · exact hs i
    · split
      · exact hk
      · unfold maxLen; decide

set_option maxRecDepth 20000 in
set_option maxHeartbeats 3200000 in
theorem tellSels_own (XS : List (Way × Se)) (l : Nat) (J : List (Way × Se) → (Nat → Prop) → World → Prop) (Jx : World → Prop) (lo : Nat) (hJg : ∀ pre O, Grows (J pre O)) (hJO : ∀ pre O A, J pre O A → ∀ b, O b → b < A.heap.size)
    (hY : ∀ (n : Nat) pre O x ar A, J pre O A → pre ++ [x] <+: XS → ArgN lo O x ar A → YieldAt Fence.wide n Tryz.prog l ar A fun e B => ∃ go, e = .returned (.bool go) ∧ Told J Jx O pre x A go B) :
    ∀ (f n : Nat) (ah : Way) (ks : List Se) (pre : List (Way × Se)) (O : Nat → Prop) (W : World) (aa : Option Addr) (ac : Nat) (ka : Option Addr) (kc : Nat), FitS f ks → SmallS f ks → (∀ a ∈ ah, a.size ≤ 1048576) → SeReps W (· < lo) ks ka → lo ≤ W.heap.size → Strs W (fun b => ¬ O b ∧ b < W.heap.size) ah aa → ah.length + f ≤ 1000000000 → J pre O W → (∀ b, O b → lo ≤ b) → pre ++ preTo f ah ks ks.length <+: XS →
    CallsIn Fence.wide n Tryz.prog 97 #[.slice aa ah.length ac, .slice ka ks.length kc, .func (.yield l) #[] #[]] W (TellP J Jx O lo (pre ++ preTo f ah ks ks.length) W) := by
  intro f
  induction f with
  | zero =>
    intro n ah ks pre O W aa ac ka kc hf hsm hah hR hlo hS hbd hJ hO hpx
    have e : ks = [] := hf
    subst e
    have HJ := hid_of hJ
    clear hJ
    refine callsIn_of_wp Tryz.func97 rfl trivial ?_ rfl
    simp only [Tryz.ntmps97, List.size_toArray, List.length_cons, List.length_nil, Nat.reduceAdd, Nat.reduceSub, Array.replicate_succ, Array.replicate_zero, List.push_toArray, List.append_toArray, List.nil_append, List.cons_append]
    gi_wp2
    gi_loopw [12] (fun i wr => i = .int .i64 0 ∧ wr = W) (fun _ _ => 0)
    case atStart => exact ⟨rfl, rfl⟩
    case round =>
      obtain ⟨rfl, rfl⟩ := hrel
      gi_wp2
      go_ret
      exact ⟨true, rfl, Or.inl ⟨rfl, O, by simpa [preTo] using HJ.out, KeepO.refl _ _, fun b hb => Or.inl hb, hO⟩⟩
  | succ f IH =>
    intro n ah ks pre O W aa ac ka kc hf hsm hah hR hlo hS hbd hJ hO hpx
    have h72 := hR.1
    obtain ⟨i0, hi, hz0, hz1, hz2⟩ := info_parts info9
    refine callsIn_of_wp Tryz.func97 rfl trivial ?_ rfl
    simp only [Tryz.ntmps97, List.size_toArray, List.length_cons, List.length_nil, Nat.reduceAdd, Nat.reduceSub, Array.replicate_succ, Array.replicate_zero, List.push_toArray, List.append_toArray, List.nil_append, List.cons_append]
    gi_wp2
    gi_loopw [12] (fun i wr => ∃ (k : Nat) (O' : Nat → Prop), k ≤ ks.length ∧ i = .int .i64 k ∧ Hid (J (pre ++ preTo (f + 1) ah ks k) O' wr) ∧ KeepO O W wr ∧ Hid (∀ b, O' b → O b ∨ W.heap.size ≤ b) ∧ Hid (∀ b, O' b → lo ≤ b) ∧ Hid (Strs wr (fun b => ¬ O' b ∧ b < wr.heap.size) ah aa) ∧ Hid (SeReps wr (· < lo) ks ka)) (fun i _ => ks.length - (intOf i).toNat)
    case atStart => exact ⟨0, O, Nat.zero_le _, rfl, hid_of (by simpa [preTo] using hJ), KeepO.refl _ _, hid_of fun b hb => Or.inl hb, hid_of hO, hid_of hS, hid_of hR⟩
    case round =>
      clear hR hS hJ
      obtain ⟨k, O', hk, rfl, HJ, hkeep, HOO, HOL, HS, HR⟩ := hrel
      obtain ⟨w0, rfl⟩ : ∃ x, x = wr := ⟨wr, rfl⟩
      have zk := hkeep.size
      by_cases hlt : k < ks.length
      case neg =>
        have e : k = ks.length := by omega
        subst e
        gi_wp2
        go_ret
        exact ⟨true, rfl, Or.inl ⟨rfl, O', HJ.out, hkeep, HOO.out, HOL.out⟩⟩
      obtain ⟨-, C, hA, hr⟩ := HR.out
      obtain ⟨kb, koff, rfl, hkB, hkc⟩ := hA (by omega)
      have hki : (k : Int) < (ks.length : Int) := by omega
      obtain ⟨sa, sc, e0, e1, e2, e3, e4, hal, hnm, hKids⟩ := (hr k hlt).pieces
      have q0 : w0.cell? ⟨kb, koff + k * 5, none⟩ = some (.string (sth ks k).al) := e0 ▸ hkc k hlt 0 (by omega)
      have q1 : w0.cell? ⟨kb, koff + k * 5 + 1, none⟩ = some (.string (sth ks k).name) := e1 ▸ hkc k hlt 1 (by omega)
      have q2 : w0.cell? ⟨kb, koff + k * 5 + 2, none⟩ = some (.bool (sth ks k).one) := e2 ▸ hkc k hlt 2 (by omega)
      have q3 : w0.cell? ⟨kb, koff + k * 5 + 3, none⟩ = some (.int .i64 (sth ks k).id) := e3 ▸ hkc k hlt 3 (by omega)
      have q4 : w0.cell? ⟨kb, koff + k * 5 + 4, none⟩ = some (.slice sa (sth ks k).kids.length sc) := e4 ▸ hkc k hlt 4 (by omega)
      have hfit := hf k hlt
      have hsmk := hsm k hlt
      have HPR := hid_of (preTo_succ f ah ks k)
      have HPX : Hid ((pre ++ preTo (f + 1) ah ks k) ++ [(ah ++ [keyS (sth ks k)], sth ks k)] <+: XS ∧ (pre ++ preTo (f + 1) ah ks k ++ [(ah ++ [keyS (sth ks k)], sth ks k)]) ++ preTo f (ah ++ [keyS (sth ks k)]) (sth ks k).kids (sth ks k).kids.length <+: XS) := hid_of (by
        have h1 := preTo_pre f ah ks ks.length (k + 1) hlt
        rw [preTo_succ] at h1
        have h2 : (pre ++ preTo (f + 1) ah ks k ++ [(ah ++ [keyS (sth ks k)], sth ks k)]) ++ preTo f (ah ++ [keyS (sth ks k)]) (sth ks k).kids (sth ks k).kids.length <+: XS := by
          refine List.IsPrefix.trans ?_ hpx
          simp only [List.append_assoc, List.prefix_append_right_inj, List.singleton_append]
          exact h1
        exact ⟨(List.prefix_append _ _).trans h2, h2⟩)
      have hkm : (keyS (sth ks k)).size ≤ maxLen := by unfold keyS; split <;> assumption
      have hks : (keyS (sth ks k)).size ≤ 1048576 := by
        unfold keyS
        split
        · exact hsmk.2.1
        · exact hsmk.1
      generalize sth ks k = s at *
      clear e0 e1 e2 e3 e4 hkc hr hA
      have hS := HS.out
      have bB := below_box w0 (.cells #[.string s.al, .string s.name, .bool s.one, .int .i64 s.id, .slice sa s.kids.length sc] 60)
      have nB := block_new (w := w0) #[.string s.al, .string s.name, .bool s.one, .int .i64 s.id, .slice sa s.kids.length sc] 60 rfl
      have zB : w0.heap.size < (w0.alloc (.cells #[.string s.al, .string s.name, .bool s.one, .int .i64 s.id, .slice sa s.kids.length sc] 60)).heap.size := by simp
      gi_wp2
      generalize w0.alloc (.cells #[.string s.al, .string s.name, .bool s.one, .int .i64 s.id, .slice sa s.kids.length sc] 60) = X at *
      have HBX : Hid (∀ W', Below X.heap.size X W' → W'.cell? ⟨w0.heap.size, 0, none⟩ = some (.string s.al) ∧ W'.cell? ⟨w0.heap.size, 1, none⟩ = some (.string s.name) ∧ W'.cell? ⟨w0.heap.size, 2, none⟩ = some (.bool s.one) ∧ W'.cell? ⟨w0.heap.size, 3, none⟩ = some (.int .i64 s.id) ∧ W'.cell? ⟨w0.heap.size, 4, none⟩ = some (.slice sa s.kids.length sc)) := hid_of fun W' hW => by
        have hb := (hW.block _ zB).trans nB
        exact ⟨(box_at hb 0 (by simp)).1, (box_at hb 1 (by simp)).1, (box_at hb 2 (by simp)).1, (box_at hb 3 (by simp)).1, (box_at hb 4 (by simp)).1⟩
      have HCT := hid_of (fun W' (hW : Below X.heap.size X W') => copyTexts_own ah aa ac W' _ (strs_below (strs_below hS bB) hW) (by omega))
      clear q0 q1 q2 q3 q4
      refine wpIn_wide.2 ?_
      refine wp_region_held_drew (S := (fun w' => w'.cell? ⟨w0.heap.size, 0, none⟩ = some (.string s.al) ∧ w'.cell? ⟨w0.heap.size, 1, none⟩ = some (.string s.name) ∧ w'.cell? ⟨w0.heap.size, 2, none⟩ = some (.bool s.one) ∧ w'.cell? ⟨w0.heap.size, 3, none⟩ = some (.int .i64 s.id) ∧ w'.cell? ⟨w0.heap.size, 4, none⟩ = some (.slice sa s.kids.length sc))) (by kernel_rfl) (HBX.out _ (Below.refl _ _).drew) (fun hHeld => ?_)
      have bX : Below X.heap.size X X.drew := (Below.refl _ _).drew
      generalize X.drew = wD at *
      refine wpAnyH_take (i := 0) (oi := { dst := some 16, op := Op.move (Operand.tmp 0), type := 28, pos := "l3_ask.go:96", after := #[], guard := none }) (v := ?_) rfl (by kernel_rfl) (by kernel_rfl) (by kernel_rfl) (fun _ _ _ h => h) (Or.inl ⟨by rfl, ?_⟩) hHeld ?_
      rotate_left
      · intro w' hSw
        (try dsimp only at hSw)
        go_simp
        try with_reducible rfl
      try simp only [Act.put, List.setIfInBounds_toArray, List.set_cons_zero, List.set_cons_succ]
      refine wpAnyH_take (i := 2) (oi := { dst := some 18, op := Op.load 60 (Operand.tmp 8), type := 60, pos := "l3_ask.go:96", after := #[], guard := none }) (v := ?_) rfl (by kernel_rfl) (by kernel_rfl) (by kernel_rfl) (fun _ _ _ h => h) (Or.inl ⟨by rfl, ?_⟩) hHeld ?_
      rotate_left
      · intro w' hSw
        (try dsimp only at hSw)
        go_simp
        try with_reducible rfl
      try simp only [Act.put, List.setIfInBounds_toArray, List.set_cons_zero, List.set_cons_succ]
      refine wpAnyH_ready (rs := [1]) (by kernel_rfl) (by simp) ?_
      refine AllReadyH.cons (o := { dst := some 17, op := Op.call { callee := Callee.value (Operand.func 123), args := #[Operand.tmp 16], argTypes := #[28] }, type := 28, pos := "l3_ask.go:96", after := #[{ on := 0, ground := Ground.data }], guard := none }) rfl (fun K hK => ?_) AllReadyH.nil
      go_simp
      refine (HCT.out wD bX).mono ?_
      rintro e wC ⟨cv, rfl, hcv, bC⟩
      have HOV : Hid (∀ W', Below wC.heap.size wC W' → W'.ownsRow X.heap.size 9 1 cv ah.length (ah.map Value.string)) := hid_of fun W' hW => owns_low (owns_keep' hcv hW) bX.size
      have bX := bX.trans (bC.mono bX.size)
      clear hcv
      refine hK.out _ _ (HBX.out _ bX) (fun hHeld => ?_)
      clear hK K
      try simp only [Act.put, List.setIfInBounds_toArray, List.set_cons_zero, List.set_cons_succ]
      refine wpAnyH_ready (rs := [3]) (by kernel_rfl) (by simp) ?_
      refine AllReadyH.cons (o := { dst := some 19, op := Op.call { callee := Callee.value (Operand.func 124), args := #[Operand.tmp 18], argTypes := #[60] }, type := 9, pos := "l3_ask.go:96", after := #[{ on := 2, ground := Ground.data }, { on := 1, ground := Ground.chain }], guard := none }) rfl (fun K hK => ?_) AllReadyH.nil
      go_simp
      refine (answeredAs_any s wC _ _ _).mono ?_
      rintro e wK ⟨rfl, bK⟩
      have bX := bX.trans (bK.mono bX.size)
      refine hK.out _ _ (HBX.out _ bX) (fun hHeld => ?_)
      clear hK K
      try simp only [Act.put, List.setIfInBounds_toArray, List.set_cons_zero, List.set_cons_succ]
      refine wpAnyH_ready (rs := [4]) (by kernel_rfl) (by simp) ?_
      refine AllReadyH.cons (o := { dst := some 20, op := Op.buildSlice 28 1 #[(0, Operand.tmp 19)], type := 28, pos := "l3_ask.go:96", after := #[{ on := 3, ground := Ground.data }], guard := none }) rfl (fun K hK => ?_) AllReadyH.nil
      go_simp
      have bA := below_box wK (.cells #[.string (keyS s)] 9)
      have nA := block_new (w := wK) #[.string (keyS s)] 9 rfl
      have zA : wK.heap.size < (wK.alloc (.cells #[.string (keyS s)] 9)).heap.size := by simp
      have bX := bX.trans (bA.mono bX.size)
      refine hK.out _ _ (HBX.out _ bX) (fun hHeld => ?_)
      clear hK K
      try simp only [Act.put, List.setIfInBounds_toArray, List.set_cons_zero, List.set_cons_succ]
      generalize wK.alloc (.cells #[.string (keyS s)] 9) = wA at *
      refine wpAnyH_ready (rs := [5]) (by kernel_rfl) (by simp) ?_
      refine AllReadyH.cons (o := { dst := some 21, op := Op.call { callee := Callee.builtin Builtin.append, args := #[Operand.tmp 17, Operand.tmp 20], argTypes := #[28, 28] }, type := 28, pos := "l3_ask.go:96", after := #[{ on := 1, ground := Ground.data }, { on := 4, ground := Ground.data }, { on := 3, ground := Ground.chain }], guard := none }) rfl (fun K hK => ?_) AllReadyH.nil
      refine step_append_lies _ rfl (.tmp 17) (.tmp 20) 28 rfl X.heap.size 9 i0 (.string ByteArray.empty) 1 16 Tryz.underlying28 hi hz0 hz1 hz2 rfl (by decide) cv ah.length (ah.map Value.string) rfl (HOV.out wA (bK.trans (bA.mono bK.size))) ⟨wK.heap.size, 0, none⟩ 1 1 [.string (keyS s)] rfl rfl (World.news_of_block nA) (by intro u hu; simp at hu; subst hu; rfl) (by omega) (by unfold maxLen; omega) (by omega) bX.size wA.heap.size rfl ?_
      intro g cap wP hown hgrow hat hltP
      have bX := bX.grown hgrow bX.size (fun k hk => (HOV.out wA (bK.trans (bA.mono bK.size))).lt k hk |>.1)
      have HOW := hid_of (And.intro hown hltP)
      clear hown hgrow hat
      refine hK.out _ _ (HBX.out _ bX) (fun hHeld => ?_)
      clear hK K
      try simp only [Act.put, List.setIfInBounds_toArray, List.set_cons_zero, List.set_cons_succ]
      refine wpAnyH_take (i := 6) (oi := { dst := some 9, op := Op.assign (Operand.tmp 21), type := 28, pos := "l3_ask.go:96", after := #[{ on := 5, ground := Ground.data }, { on := 5, ground := Ground.chain }, { on := 0, ground := Ground.phase }, { on := 1, ground := Ground.phase }, { on := 2, ground := Ground.phase }, { on := 3, ground := Ground.phase }, { on := 4, ground := Ground.phase }, { on := 5, ground := Ground.phase }], guard := none }) (v := ?_) rfl (by kernel_rfl) (by kernel_rfl) (by kernel_rfl) (fun _ _ _ h => h) (Or.inl ⟨by rfl, ?_⟩) hHeld ?_
      rotate_left
      · intro w' hSw
        (try dsimp only at hSw)
        go_simp
        try with_reducible rfl
      try simp only [Act.put, List.setIfInBounds_toArray, List.set_cons_zero, List.set_cons_succ]
      refine wpAnyH_done (by kernel_rfl) ?_ _
      have hah2 : ∀ a ∈ ah ++ [keyS s], a.size ≤ 1048576 := fun a ha => by
        rcases List.mem_append.1 ha with h | h
        · exact hah a h
        · rw [List.mem_singleton.1 h]; exact hks
      have hWay := strsOf HOW.out.1 hkm hS.2.1 (by unfold maxLen; omega) HOW.out.2
      have b0P : Below w0.heap.size w0 wP := bB.trans (bX.mono (by omega))
      have hJP := hJg _ _ _ _ HJ.out b0P
      have hOw : ∀ b, O' b → b < w0.heap.size := hJO _ _ _ HJ.out
      have hWay2 : Strs wP (fun b => ¬ O' b ∧ b < wP.heap.size) (ah ++ [keyS s]) (some ⟨g, 0, none⟩) := hWay.1.sub fun b hb => ⟨fun h => by have := hOw b h; omega, hb.2⟩
      have hKidsP := hKids.mono fun b hb => b0P.block b (by omega)
      obtain ⟨fn, tmps, assign, body, hy, hRr⟩ := hY (n - 1) _ O' (ah ++ [keyS s], s) #[.slice (some ⟨g, 0, none⟩) (ah.length + 1) cap, .agg #[.string s.al, .string s.name, .bool s.one, .int .i64 s.id, .slice sa s.kids.length sc]] wP hJP HPX.out.1 ⟨⟨_, cap, sa, sc, by simp, by simpa using hWay.2, hWay.1.sub fun b hb => hb.2, hal, hnm, hah2, by simp⟩, g, cap, .agg #[.string s.al, .string s.name, .bool s.one, .int .i64 s.id, .slice sa s.kids.length sc], by simp, by have := (HOW.out.1.lt g rfl).1; omega, HOW.out.2, (fun hOg => by have := hOw g hOg; have := (HOW.out.1.lt g rfl).1; omega), fun j => HOW.out.1.frozenAt j⟩
      have HRR := hid_of hRr
      have HW2 := hid_of hWay2
      have HKP := hid_of hKidsP
      have HLT := hid_of hOw
      obtain ⟨y0, y1, y2, y3, y4⟩ := HBX.out wP bX
      clear hRr hWay hWay2 hKidsP hJP hOw
      gi_wp2
      refine ⟨(fun h => by cases h), HRR.out.mono ?_⟩
      rintro e B ⟨go, rfl, hT⟩
      clear hy y0 y1 y2 y3 y4 HRR
      rcases hT with ⟨rfl, O2, hJ2, hk2, ho2⟩ | ⟨rfl, hjx⟩
      rotate_left
      · have HJX := hid_of hjx
        clear hjx
        gi_wp2
        refine ⟨trivial, ?_⟩
        gi_wp2
        go_ret
        exact ⟨false, rfl, Or.inr ⟨rfl, HJX.out⟩⟩
      have zP := b0P.size
      have zB2 := hk2.size
      have hnO : ¬ O' w0.heap.size := fun h => by have := HLT.out _ h; omega
      have y4 : B.cell? ⟨w0.heap.size, 4, none⟩ = some (.slice sa s.kids.length sc) := hk2.cell hnO (HBX.out wP bX).2.2.2.2
      have hOL2 : ∀ b, O2 b → lo ≤ b := fun b hb => (ho2 b hb).elim (HOL.out b) (fun h => by omega)
      have hIH := IH (n - 1) (ah ++ [keyS s]) s.kids _ O2 B (some ⟨g, 0, none⟩) cap sa sc hfit hsmk.2.2 hah2 (ses_keepO HKP.out HOL.out hk2) (by omega) (strs_keepO HW2.out hk2 ho2) (by simp; omega) hJ2 hOL2 HPX.out.2
      simp only [List.length_append, List.length_singleton] at hIH
      have HIH := hid_of hIH
      have hKW : KeepO O W B := (hkeep.then HOO.out (KeepO.below b0P)).then HOO.out hk2
      have hOW2 : ∀ b, O2 b → O b ∨ W.heap.size ≤ b := fun b hb => (ho2 b hb).elim (HOO.out b) (fun h => Or.inr (by omega))
      have HS2 := hid_of (strs_keepO (strs_below HS.out b0P) hk2 ho2)
      have HR2 := hid_of (ses_keepO (HR.out.mono fun b hb => b0P.block b (by omega)) HOL.out hk2)
      have HH := hid_of (And.intro hKW (And.intro hOW2 hOL2))
      clear hIH hJ2 hKW hOW2 hOL2 ho2
      gi_wp2
      refine ⟨trivial, (fun h => by cases h), HIH.out.mono ?_⟩
      rintro e C ⟨go, rfl, hT⟩
      clear y4 HIH
      rcases hT with ⟨rfl, O3, hJ3, hk3, ho3, hl3⟩ | ⟨rfl, hjx⟩
      rotate_left
      · have HJX := hid_of hjx
        clear hjx
        gi_wp2
        go_ret
        exact ⟨false, rfl, Or.inr ⟨rfl, HJX.out⟩⟩
      have HJ3 := hid_of (And.intro hJ3 (And.intro hk3 (And.intro ho3 hl3)))
      clear hJ3 ho3 hl3
      gi_wp2
      go_roundw
      case measure => simp [intOf]; omega
      case rel =>
        obtain ⟨hJ3, -, ho3, hl3⟩ := HJ3.out
        obtain ⟨hKW, hOW2, hOL2⟩ := HH.out
        refine ⟨k + 1, O3, by omega, by go_num, hid_of ?_, hKW.then hOW2 hk3, hid_of fun b hb => (ho3 b hb).elim (hOW2 b) (fun h => Or.inr (by have := hKW.size; omega)), hid_of hl3, hid_of (strs_keepO HS2.out hk3 ho3), hid_of (ses_keepO HR2.out hOL2 hk3)⟩
        rw [HPR.out]
        simpa using hJ3
theorem tellSels_any (XS : List (Way × Se)) (l : Nat) (J : List (Way × Se) → (Nat → Prop) → World → Prop) (Jx : World → Prop) (lo : Nat) (hJg : ∀ pre O, Grows (J pre O)) (hJO : ∀ pre O A, J pre O A → ∀ b, O b → b < A.heap.size)
    (hY : ∀ (n : Nat) pre O x ar A, J pre O A → pre ++ [x] <+: XS → ArgT x ar A → YieldAt Fence.wide n Tryz.prog l ar A fun e B => ∃ go, e = .returned (.bool go) ∧ Told J Jx O pre x A go B) :
    ∀ (f n : Nat) (ah : Way) (ks : List Se) (pre : List (Way × Se)) (O : Nat → Prop) (W : World) (aa : Option Addr) (ac : Nat) (ka : Option Addr) (kc : Nat), FitS f ks → SmallS f ks → (∀ a ∈ ah, a.size ≤ 1048576) → SeReps W (· < lo) ks ka → lo ≤ W.heap.size → Strs W (fun b => ¬ O b ∧ b < W.heap.size) ah aa → ah.length + f ≤ 1000000000 → J pre O W → (∀ b, O b → lo ≤ b) → pre ++ preTo f ah ks ks.length <+: XS →
    CallsIn Fence.wide n Tryz.prog 97 #[.slice aa ah.length ac, .slice ka ks.length kc, .func (.yield l) #[] #[]] W (TellP J Jx O lo (pre ++ preTo f ah ks ks.length) W) :=
  tellSels_own XS l J Jx lo hJg hJO fun n pre O x ar A h1 h2 h3 => hY n pre O x ar A h1 h2 h3.1
end Go.Proofs.YtgcfgadkclfonaaGreatDoor

namespace Go.Proofs.YtgcfgadkclfonaaGreatDoor
set_option linter.unusedSimpArgs false
set_option linter.unusedVariables false
open Go.RowKit Go.Shelf
attribute [local go_sem] Oper.semAt_some

set_option maxHeartbeats 400000 in
theorem selsOf_any (w : World) (ka : Option Addr) (kl kc : Nat) :
    Calls Tryz.prog 62 #[.slice ka kl kc] w fun e w' => e = .returned (.func (.func 96) #[] #[.pointer (some ⟨w.heap.size, 0, none⟩)]) ∧ w' = w.alloc (.cells #[.slice ka kl kc] 36) := by
  go_enter Tryz.func62, Tryz.ntmps62
  go_wp2_with fail
  go_ret
  exact ⟨rfl, rfl⟩

set_option maxRecDepth 20000 in
set_option maxHeartbeats 800000 in
theorem selsOf1_own (f : Nat) (ks : List Se) (l : Nat) (J : List (Way × Se) → (Nat → Prop) → World → Prop) (Jx : World → Prop) (lo : Nat) (hJg : ∀ pre O, Grows (J pre O)) (hJO : ∀ pre O A, J pre O A → ∀ b, O b → b < A.heap.size)
    (hY : ∀ (n : Nat) pre O x ar A, J pre O A → pre ++ [x] <+: preTo f [] ks ks.length → ArgN lo O x ar A → YieldAt Fence.wide n Tryz.prog l ar A fun e B => ∃ go, e = .returned (.bool go) ∧ Told J Jx O pre x A go B)
    (n : Nat) (O : Nat → Prop) (W : World) (ka : Option Addr) (kc sb : Nat) (hf : FitS f ks) (hsm : SmallS f ks) (hR : SeReps W (· < lo) ks ka) (hlo : lo ≤ W.heap.size) (hbd : f ≤ 1000000000) (hJ : J [] O W) (hO : ∀ b, O b → lo ≤ b) (hs : W.cell? ⟨sb, 0, none⟩ = some (.slice ka ks.length kc)) :
    CallsIn Fence.wide n Tryz.prog 96 #[.func (.yield l) #[] #[], .pointer (some ⟨sb, 0, none⟩)] W fun e W' => (∃ v, e = .returned v) ∧ ((∃ O', J (preTo f [] ks ks.length) O' W') ∨ Jx W') := by
  have hT := tellSels_own (preTo f [] ks ks.length) l J Jx lo hJg hJO hY f (n - 1) [] ks [] O W none 0 ka kc hf hsm (fun a ha => by simp at ha) hR hlo ⟨fun h => absurd rfl h, fun i => by simp [nth], by unfold maxLen; simp⟩ (by simpa using hbd) hJ hO (by simp)
  have HT := hid_of hT
  clear hT
  refine callsIn_of_wp Tryz.func96 rfl trivial ?_ rfl
  simp only [Tryz.ntmps96, List.size_toArray, List.length_cons, List.length_nil, Nat.reduceAdd, Nat.reduceSub, Array.replicate_succ, Array.replicate_zero, List.push_toArray, List.append_toArray, List.nil_append, List.cons_append]
  gi_wp2
  refine ⟨trivial, (fun h => by cases h), HT.out.mono ?_⟩
  rintro e C ⟨go, rfl, hT⟩
  have HC : Hid ((∃ O', J (preTo f [] ks ks.length) O' C) ∨ Jx C) := hid_of (by
    rcases hT with ⟨-, O3, hJ3, -⟩ | ⟨-, hjx⟩
    · exact Or.inl ⟨O3, by simpa using hJ3⟩
    · exact Or.inr hjx)
  clear hT
  gi_wp2
  refine bodyPost_end (v := .tuple #[]) ?res rfl ⟨⟨_, rfl⟩, HC.out⟩
  case res => simp [results, Tryz.results96, go_sem]
theorem selsOf1_any (f : Nat) (ks : List Se) (l : Nat) (J : List (Way × Se) → (Nat → Prop) → World → Prop) (Jx : World → Prop) (lo : Nat) (hJg : ∀ pre O, Grows (J pre O)) (hJO : ∀ pre O A, J pre O A → ∀ b, O b → b < A.heap.size)
    (hY : ∀ (n : Nat) pre O x ar A, J pre O A → pre ++ [x] <+: preTo f [] ks ks.length → ArgT x ar A → YieldAt Fence.wide n Tryz.prog l ar A fun e B => ∃ go, e = .returned (.bool go) ∧ Told J Jx O pre x A go B)
    (n : Nat) (O : Nat → Prop) (W : World) (ka : Option Addr) (kc sb : Nat) (hf : FitS f ks) (hsm : SmallS f ks) (hR : SeReps W (· < lo) ks ka) (hlo : lo ≤ W.heap.size) (hbd : f ≤ 1000000000) (hJ : J [] O W) (hO : ∀ b, O b → lo ≤ b) (hs : W.cell? ⟨sb, 0, none⟩ = some (.slice ka ks.length kc)) :
    CallsIn Fence.wide n Tryz.prog 96 #[.func (.yield l) #[] #[], .pointer (some ⟨sb, 0, none⟩)] W fun e W' => (∃ v, e = .returned v) ∧ ((∃ O', J (preTo f [] ks ks.length) O' W') ∨ Jx W') :=
  selsOf1_own f ks l J Jx lo hJg hJO (fun n pre O x ar A h1 h2 h3 => hY n pre O x ar A h1 h2 h3.1) n O W ka kc sb hf hsm hR hlo hbd hJ hO hs
end Go.Proofs.YtgcfgadkclfonaaGreatDoor

namespace Go.Proofs.YtgcfgadkclfonaaGreatDoor
set_option linter.unusedSimpArgs false
set_option linter.unusedVariables false
open Go.RowKit

theorem FitS.le : ∀ {f g : Nat} {ks : List Se}, FitS f ks → f ≤ g → FitS g ks
  | 0, 0, ks, h, _ => h
  | 0, g + 1, ks, h, _ => by
    have e : ks = [] := h
    subst e
    exact fun i hi => by simp at hi
  | f + 1, 0, ks, h, hg => by omega
  | f + 1, g + 1, ks, h, hg => fun i hi => (h i hi).le (by omega)
/-- The count does not change beyond the levels that there are. -/
theorem cntTo_fit : ∀ {f : Nat} {ks : List Se} (g n : Nat), FitS f ks → f ≤ g → n ≤ ks.length → cntTo g ks n = cntTo f ks n
  | 0, ks, g, n, h, _, hn => by
    have e : ks = [] := h
    subst e
    have : n = 0 := by simpa using hn
    subst this
    simp [cntTo]
  | f + 1, ks, g, 0, h, hg, hn => by simp [cntTo]
  | f + 1, ks, 0, n + 1, h, hg, hn => by omega
  | f + 1, ks, g + 1, n + 1, h, hg, hn => by
    rw [cntTo_succ, cntTo_succ, cntTo_fit (g + 1) n h hg (by omega), cntSe_kids, cntSe_kids, cntTo_fit g _ (h n (by omega)) (by omega) (Nat.le_refl _)]
theorem cnt_one (f : Nat) (ks : List Se) : ∀ (n i : Nat), i < n → cntSe f (sth ks i) ≤ cntTo f ks n
  | 0, i, h => by omega
  | n + 1, i, h => by
    rw [cntTo_succ]
    by_cases e : i = n
    · subst e; omega
    · have := cnt_one f ks n i (by omega)
      omega
/-- So many levels are enough as there are fields. -/
theorem FitS.few : ∀ (f : Nat) {ks : List Se}, FitS f ks → ∀ m, cntTo f ks ks.length ≤ m → FitS m ks
  | 0, ks, h, m, hm => h.le (Nat.zero_le _)
  | f + 1, ks, h, m, hm => by
    cases m with
    | zero =>
      cases ks with
      | nil => rfl
      | cons a l =>
        have := cnt_one (f + 1) (a :: l) (a :: l).length 0 (by simp)
        rw [cntSe_kids] at this
        omega
    | succ m =>
      intro i hi
      have := cnt_one (f + 1) ks ks.length i hi
      rw [cntSe_kids] at this
      exact FitS.few f (h i hi) m (by omega)
end Go.Proofs.YtgcfgadkclfonaaGreatDoor
