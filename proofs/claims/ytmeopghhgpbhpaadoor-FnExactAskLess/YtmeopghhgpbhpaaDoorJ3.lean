import Derived.Test.YtmeopghhgpbhpaaDoorJ2
import Derived.Test.YtmeopghhgpbhpaaDoorQSel
import Derived.Test.YtmeopghhgpbhpaaDoorASpec1
import Derived.Test.YtmeopghhgpbhpaaDoorJ1
namespace Go.Proofs.YtmeopghhgpbhpaaDoor
set_option linter.unusedSimpArgs false
set_option linter.unusedVariables false
open Go.RowKit

/-- Fields that may be written, with all that is asked of them, within a range of blocks. -/
def WSels (w : World) (lo hi : Nat) : Nat → List Se → Option Addr → Prop
  | 0, ks, _ => ks.length = 0
  | f + 1, ks, a => 0 < ks.length → ∃ b off, a = some ⟨b, off, none⟩ ∧ lo ≤ b ∧ b < hi ∧ ∀ i, i < ks.length → TextAt w ⟨b, off + i * 5, none⟩ ∧ TextAt w ⟨b, off + i * 5 + 1, none⟩ ∧ FlagAt w ⟨b, off + i * 5 + 2, none⟩ ∧ NumAt w ⟨b, off + i * 5 + 3, none⟩ ∧
      ∃ ka kc, w.cell? ⟨b, off + i * 5 + 4, none⟩ = some (.slice ka (sth ks i).kids.length kc) ∧ WSels w lo hi f (sth ks i).kids ka
theorem WSels.keep {lo hi lo' hi' : Nat} {w w' : World} (m : MarkedN lo' hi' w w') : ∀ {f : Nat} {ks : List Se} {a : Option Addr}, WSels w lo hi f ks a → WSels w' lo hi f ks a
  | 0, _, _, h => h
  | f + 1, ks, a, h => fun hn => by
    obtain ⟨b, off, e, h1, h2, hc⟩ := h hn
    refine ⟨b, off, e, h1, h2, fun i hi => ?_⟩
    obtain ⟨q0, q1, q2, q3, ka, kc, q4, q5⟩ := hc i hi
    exact ⟨q0.keep m.m, q1.keep m.m, q2.keep m.m, q3.keep m, ka, kc, m.m.list _ _ _ _ q4, q5.keep m⟩
theorem WSels.of_n {w : World} {lo hi : Nat} (nf : NF lo w) : ∀ {f : Nat} {ks : List Se} {a : Option Addr} {C : Nat → Nat → Value}, Arr w (fun b => lo ≤ b ∧ b < hi) 5 ks.length a C → (∀ i, i < ks.length → SeN w (fun b => lo ≤ b ∧ b < hi) f (sth ks i) (.agg #[C i 0, C i 1, C i 2, C i 3, C i 4])) → WSels w lo hi (f + 1) ks a
  | 0, ks, a, C, hA, hr => fun hn => (hr 0 hn).elim
  | f + 1, ks, a, C, hA, hr => fun hn => by
    obtain ⟨b, off, e, hb, hc⟩ := hA hn
    refine ⟨b, off, e, hb.1, hb.2, fun i hi => ?_⟩
    obtain ⟨ka, kc, D, hv, -, -, -, hA2, hr2⟩ := hr i hi
    simp only [Value.agg.injEq, Array.mk.injEq, List.cons.injEq, and_true] at hv
    obtain ⟨e0, e1, e2, e3, e4⟩ := hv
    have c0 := hc i hi 0 (by omega)
    have c1 := hc i hi 1 (by omega)
    have c2 := hc i hi 2 (by omega)
    have c3 := hc i hi 3 (by omega)
    have c4 := hc i hi 4 (by omega)
    rw [e0] at c0
    rw [e1] at c1
    rw [e2] at c2
    rw [e3] at c3
    rw [e4] at c4
    exact ⟨⟨⟨_, c0⟩, nf _ hb.1⟩, ⟨⟨_, c1⟩, nf _ hb.1⟩, ⟨⟨_, c2⟩, nf _ hb.1⟩, ⟨⟨_, c3⟩, nf _ hb.1⟩, ka, kc, c4, WSels.of_n nf hA2 hr2⟩
theorem WSels.of_rep {w : World} {lo hi : Nat} {ks : List Se} {a : Option Addr} (h : SeReps w (fun b => lo ≤ b ∧ b < hi) ks a) (nf : NF lo w) : ∃ f, WSels w lo hi f ks a := by
  obtain ⟨h0, C, hA, hr⟩ := h
  obtain ⟨f, hf⟩ := se_bound ks.length hr
  exact ⟨f + 1, WSels.of_n nf hA hf⟩

theorem cntTo_ge (ks : List Se) (f : Nat) : ∀ n, n ≤ cntTo (f + 1) ks n
  | 0 => Nat.zero_le _
  | n + 1 => by have := cntTo_ge ks f n; rw [cntTo_succ, cntSe_kids]; omega
theorem kids_le (ks : List Se) (h : ∀ g, cntTo g ks ks.length ≤ 1048576) {j : Nat} (hj : j < ks.length) : (sth ks j).kids.length ≤ 1048576 := by
  have g1 := h 2
  have g2 := cntTo_mono 2 ks (show j + 1 ≤ ks.length by omega)
  have g3 := cntTo_succ 2 ks j
  have g4 : cntSe 2 (sth ks j) = 1 + cntTo 1 (sth ks j).kids (sth ks j).kids.length := cntSe_kids _ _
  have g5 : (sth ks j).kids.length ≤ cntTo 1 (sth ks j).kids (sth ks j).kids.length := cntTo_ge (sth ks j).kids 0 (sth ks j).kids.length
  omega
theorem markText_i (K : Int) (w : World) (h0 : 0 ≤ K) (h1 : K ≤ 1000000000000000000) :
    Calls Tryd.prog 40 #[.int .i64 K] w fun e w' => (∃ s, e = .returned (.string s)) ∧ Below w.heap.size w w' := by
  have h := markText_any K.toNat w (by omega)
  rw [show ((K.toNat : Nat) : Int) = K by omega] at h
  exact h.mono fun e w' ⟨h1, h2⟩ => ⟨⟨_, h1⟩, h2⟩
theorem markStringS_i (n c lo hi : Nat) (K : Int) (a : Option Addr) (w : World) (hw : WStrs w lo hi n a) (hn : n ≤ 1048576) (h0 : 0 ≤ K) (h1 : K ≤ 100000000000000000) :
    Calls Tryd.prog 24 #[.slice a n c, .int .i64 K] w fun e w' => (∃ K' : Int, e = .returned (.int .i64 K') ∧ 0 ≤ K' ∧ K' ≤ K + n) ∧ MarkedN lo hi w w' := by
  have h := markStringS_num n c K.toNat lo hi a w hw hn (by omega)
  rw [show ((K.toNat : Nat) : Int) = K by omega] at h
  exact h.mono fun e w' ⟨h1, h2, _⟩ => ⟨⟨_, h1, by omega, by omega⟩, h2⟩
set_option maxRecDepth 20000 in
set_option maxHeartbeats 1600000 in
theorem markSelS_any (f : Nat) : ∀ (ks : List Se) (c lo hi : Nat) (K : Int) (a : Option Addr) (w : World), WSels w lo hi f ks a → ks.length ≤ 1048576 → (∀ g, cntTo g ks ks.length ≤ 1048576) → 0 ≤ K → K + 4 * cntTo f ks ks.length ≤ 100000000000000000 →
    Calls Tryd.prog 23 #[.slice a ks.length c, .int .i64 K] w fun e w' => (∃ K' : Int, e = .returned (.int .i64 K') ∧ 0 ≤ K' ∧ K' ≤ K + 4 * cntTo f ks ks.length) ∧ MarkedN lo hi w w' := by
  induction f with
  | zero =>
    intro ks c lo hi K a w h hn hcn hk0 hk
    have h0 : ks.length = 0 := h
    have hks : ks = [] := by simpa using h0
    subst hks
    go_enter Tryd.func23, Tryd.ntmps23
    go_wp2_with fail
    go_loopw [1, 5] (fun kk i wr => kk = .int .i64 K ∧ i = .int .i64 0 ∧ wr = w) (fun _ _ _ => 0)
    case atStart => exact ⟨rfl, rfl, rfl⟩
    case round =>
      obtain ⟨rfl, rfl, rfl⟩ := hrel
      go_wp2_with fail
      go_ret
      exact ⟨⟨K, rfl, hk0, by omega⟩, MarkedN.refl _ _ _⟩
  | succ f ih =>
    intro ks c lo hi K0 a w h hn hcn hk0 hk
    go_enter Tryd.func23, Tryd.ntmps23
    go_wp2_with fail
    go_loopw [1, 5] (fun kk i wr => ∃ (j : Nat) (q : Int), j ≤ ks.length ∧ 0 ≤ q ∧ q ≤ K0 + 4 * cntTo (f + 1) ks j ∧ kk = .int .i64 q ∧ i = .int .i64 j ∧ MarkedN lo hi w wr) (fun _ i _ => ks.length - (intOf i).toNat)
    case atStart => exact ⟨0, K0, Nat.zero_le _, hk0, by omega, rfl, rfl, MarkedN.refl _ _ _⟩
    case round =>
      obtain ⟨j, K, hj, hK0, hKq, rfl, rfl, hm⟩ := hrel
      obtain ⟨w0, rfl⟩ : ∃ x, x = wr := ⟨wr, rfl⟩
      by_cases hlt : j < ks.length
      · obtain ⟨b, off, rfl, h1, h2, hcc⟩ := (h.keep hm) (by omega)
        obtain ⟨x0, x1, x2, x3, ka, kc, x4, x5⟩ := hcc j hlt
        clear hcc
        have hji : (j : Int) < (ks.length : Int) := by omega
        have hmono : cntTo (f + 1) ks (j + 1) ≤ cntTo (f + 1) ks ks.length := cntTo_mono _ _ (by omega)
        have hsucc := cntTo_succ (f + 1) ks j
        have hkid : cntSe (f + 1) (sth ks j) = 1 + cntTo f (sth ks j).kids (sth ks j).kids.length := cntSe_kids _ _
        have hkl : (sth ks j).kids.length ≤ 1048576 := kids_le ks hcn hlt
        have hkc : ∀ g, cntTo g (sth ks j).kids (sth ks j).kids.length ≤ 1048576 := fun g => by
          have g1 := hcn (g + 1)
          have g2 := cntTo_mono (g + 1) ks (show j + 1 ≤ ks.length by omega)
          have g3 := cntTo_succ (g + 1) ks j
          have g4 : cntSe (g + 1) (sth ks j) = 1 + cntTo g (sth ks j).kids (sth ks j).kids.length := cntSe_kids _ _
          omega
        have HKB : Hid (K0 + 4 * cntTo (f + 1) ks ks.length ≤ 100000000000000000 ∧ K ≤ K0 + 4 * cntTo (f + 1) ks j ∧ cntTo (f + 1) ks (j + 1) = cntTo (f + 1) ks j + 1 + cntTo f (sth ks j).kids (sth ks j).kids.length ∧ cntTo (f + 1) ks (j + 1) ≤ cntTo (f + 1) ks ks.length) := ⟨hk, hKq, by omega, hmono⟩
        have hKm : K + 4 + 4 * cntTo f (sth ks j).kids (sth ks j).kids.length ≤ 100000000000000000 := by omega
        have HC : Hid (∀ g, cntTo g (sth ks j).kids (sth ks j).kids.length ≤ 1048576) := hkc
        have hB1 : Hid (lo ≤ b ∧ b < hi) := ⟨h1, h2⟩
        have HX : Hid (TextAt w0 ⟨b, off + j * 5, none⟩ ∧ TextAt w0 ⟨b, off + j * 5 + 1, none⟩ ∧ FlagAt w0 ⟨b, off + j * 5 + 2, none⟩ ∧ NumAt w0 ⟨b, off + j * 5 + 3, none⟩ ∧ w0.cell? ⟨b, off + j * 5 + 4, none⟩ = some (.slice ka (sth ks j).kids.length kc) ∧ WSels w0 lo hi f (sth ks j).kids ka) := ⟨x0, x1, x2, x3, x4, x5⟩
        clear x0 x1 x2 x3 x4 x5 h1 h2 hmono hsucc hkid hkc hk hKq hcn
        go_wp2_with fail
        refine (markText_i K w0 hK0 (by omega)).mono ?_
        rintro e w1 ⟨⟨mt0, rfl⟩, hb1⟩
        have m1 := MarkedN.of_below lo hi hb1
        obtain ⟨⟨s0, t0⟩, f0⟩ := HX.out.1.keep m1.m
        have m1' := m1.trans (MarkedN.set_text t0 hB1.out.1 hB1.out.2 mt0)
        go_wp2_with fail
        obtain ⟨W1, hW1⟩ : ∃ W, W = w1.setCell ⟨b, off + j * 5, none⟩ (.string mt0) := ⟨_, rfl⟩
        rw [← hW1] at m1' ⊢
        clear hW1 t0 f0 m1 hb1
        refine (markText_i (K + 1) W1 (by omega) (by omega)).mono ?_
        rintro e w2 ⟨⟨mt1, rfl⟩, hb2⟩
        have m2 := m1'.trans (MarkedN.of_below lo hi hb2)
        obtain ⟨⟨s1, t1⟩, f1⟩ := HX.out.2.1.keep m2.m
        obtain ⟨⟨s2, t2⟩, f2⟩ := HX.out.2.2.1.keep m2.m
        obtain ⟨⟨s3, t3⟩, f3⟩ := HX.out.2.2.2.1.keep m2
        have t4 := m2.m.list _ _ _ _ HX.out.2.2.2.2.1
        have HM2 : Hid (MarkedN lo hi w0 w2) := m2
        clear m1' hb2 m2
        go_wp2_with fail
        have n1 := MarkedN.set_text t1 hB1.out.1 hB1.out.2 mt1
        obtain ⟨⟨s2', t2'⟩, -⟩ := FlagAt.keep ⟨⟨_, t2⟩, f2⟩ n1.m
        have n2 := n1.trans (MarkedN.set_flag t2' hB1.out.1 hB1.out.2 ((K + 1 + 1) % 3 == 0))
        obtain ⟨⟨s3', t3'⟩, -⟩ := NumAt.keep ⟨⟨_, t3⟩, f3⟩ n2
        have n3 := HM2.out.trans (n2.trans (MarkedN.set_num t3' hB1.out.1 hB1.out.2 (K + 1 + 1 + 1)))
        refine (ih (sth ks j).kids kc lo hi (K + 1 + 1 + 1 + 1) ka _ (HX.out.2.2.2.2.2.keep n3) hkl HC.out (by omega) (by omega)).mono ?_
        rintro e w5 ⟨⟨K', rfl, hK'0, hK'1⟩, m6⟩
        have m7 := hm.trans (n3.trans m6)
        clear n1 n2 n3 m6 t1 t2 t3 t4 t2' t3' f1 f2 f3 ih
        go_wp2_with fail
        go_roundw
        case rel => exact ⟨j + 1, K', by omega, hK'0, by have := HKB.out; omega, rfl, by go_num, m7⟩
        case measure => simp [intOf]; omega
      · go_wp2_with fail
        go_ret
        have e : j = ks.length := by omega
        exact ⟨⟨K, rfl, hK0, by rw [← e]; exact hKq⟩, hm⟩


set_option maxRecDepth 20000 in
set_option maxHeartbeats 1600000 in
theorem heldStringS_any (n c k : Nat) (a : Option Addr) (w : World) (ha : 0 < n → ∃ b off, a = some ⟨b, off, none⟩ ∧ ∀ i, i < n → w.cell? ⟨b, off + i, none⟩ = some (.string (mtext (k + i)))) (hn : n ≤ 1048576) (hk : k ≤ 1000000000000) :
    Calls Tryd.prog 25 #[.slice a n c, .int .i64 k] w fun e w' => e = .returned (.int .i64 ((k + n : Nat) : Int)) ∧ Below w.heap.size w w' := by
  go_enter Tryd.func25, Tryd.ntmps25
  go_wp2_with fail
  go_loopw [1, 5] (fun kk i wr => ∃ j : Nat, j ≤ n ∧ kk = .int .i64 ((k + j : Nat) : Int) ∧ i = .int .i64 j ∧ Below w.heap.size w wr) (fun _ i _ => n - (intOf i).toNat)
  case atStart => exact ⟨0, Nat.zero_le _, rfl, rfl, Below.refl _ _⟩
  case round =>
    obtain ⟨j, hj, rfl, rfl, hb⟩ := hrel
    obtain ⟨w0, rfl⟩ : ∃ x, x = wr := ⟨wr, rfl⟩
    by_cases hlt : j < n
    · obtain ⟨b, off, rfl, hcc⟩ := ha (by omega)
      have hx := hcc j hlt
      have hbl := cell_block hx
      have c0 := (hb.cell hbl).trans hx
      have hM := markText_any (k + j) w0.drew (by omega)
      have hji : (j : Int) < (n : Int) := by omega
      have hz := hb.size
      clear hcc
      generalize mtext (k + j) = mt at hx c0 hM
      go_wp2_with fail
      go_region_held3 (fun w' => w'.cell? ⟨b, off + j, none⟩ = some (.string mt)) (go_keep)
        (first
          | (
            go_at_call 40
            refine hM.mono ?_
            rintro e w1 ⟨rfl, hb1⟩
            have hb1' := below_undrew hb1
            have hw1 := hb.trans (hb1'.mono hz)
            have c1 := (hw1.cell hbl).trans hx))
      go_wp2_with fail
      go_roundw
      case rel => exact ⟨j + 1, by omega, by go_num, by go_num, hw1⟩
      case measure => simp [intOf]; omega
    · go_wp2_with fail
      go_ret
      have e : j = n := by omega
      exact ⟨by rw [e]; rfl, hb⟩
end Go.Proofs.YtmeopghhgpbhpaaDoor

namespace Go.Proofs.YtmeopghhgpbhpaaDoor
set_option linter.unusedSimpArgs false
set_option linter.unusedVariables false
open Go.RowKit Go.Shelf Go.Maps

/-- A list of fields that a call answers: below, or new. -/
def NewS (B : Nat) (w : World) (ks : List Se) (e : Ending) (w' : World) : Prop := ∃ a c, e = .returned (.slice a ks.length c) ∧ SeReps w' (fun b => b < B ∨ (w.heap.size ≤ b ∧ b < w'.heap.size)) ks a ∧ Below w.heap.size w w'

theorem kids_len {f : Nat} {ks : List Se} (hf : FitS f ks) (hc : cntTo f ks ks.length ≤ 1000000) : ks.length ≤ 1000000 := by
  cases f with
  | zero => have e : ks = [] := hf; rw [e]; simp
  | succ f => exact Nat.le_trans (cntTo_ge ks f _) hc
set_option maxRecDepth 20000 in
set_option maxHeartbeats 3200000 in
theorem l3Copy_any : ∀ (f : Nat) (ks : List Se) (w : World) (P : Nat → Prop) (ka : Option Addr) (kc : Nat), FitS f ks → cntTo f ks ks.length ≤ 1000000 → SeReps w P ks ka → (∀ b, P b → b < w.heap.size) →
    Calls Tryd.prog 41 #[.slice ka ks.length kc] w fun e w' => NewS 0 w ks e w' := by
  intro f
  induction f with
  | zero =>
    intro ks w P ka kc hf hcn hR hB
    have e : ks = [] := hf
    subst e
    go_enter Tryd.func41, Tryd.ntmps41
    go_wp2_with fail
    go_loopw [3, 4] (fun o i wr => i = .int .i64 0 ∧ o = .slice (some ⟨w.heap.size, 0, none⟩) 0 0 ∧ Below w.heap.size w wr) (fun _ _ _ => 0)
    case atStart => exact ⟨rfl, rfl, below_box _ _⟩
    case round =>
      obtain ⟨rfl, rfl, hb⟩ := hrel
      go_wp2_with fail
      go_ret
      exact ⟨_, _, rfl, ⟨by simp, fun _ _ => .bool false, fun hn => by simp at hn, fun i hi => by simp at hi⟩, hb⟩
  | succ f IH =>
    intro ks w P ka kc hf hcn hR hB
    obtain ⟨i0, hi0, hz0, hz1, hz2⟩ := info_parts info_Sel
    have h72 := hR.1
    have HR := hid_of hR
    clear hR
    go_enter Tryd.func41, Tryd.ntmps41
    go_wp2_with fail
    go_loopw [3, 4] (fun o i wr => ∃ (k : Nat) (es : List El), k ≤ ks.length ∧ i = .int .i64 k ∧ Hid (es.length = k) ∧ Hid (es.map El.s = ks.take k) ∧ Hid (RowP SeReps w.heap.size es o wr) ∧ Hid (∀ e ∈ es, ∀ b, e.Q b → w.heap.size ≤ b) ∧ Hid (¬ o = .slice none 0 0) ∧ Below w.heap.size w wr) (fun _ i _ => ks.length - (intOf i).toNat)
    case atStart => exact ⟨0, [], Nat.zero_le _, rfl, hid_of rfl, hid_of (by simp), hid_of (RowP.new w), hid_of (fun e he => by cases he), hid_of (by simp), below_box _ _⟩
    case round =>
      obtain ⟨k, es, hk, rfl, HEL, HM, HO, HQ, HNN, hb⟩ := hrel
      obtain ⟨w2, rfl⟩ : ∃ x, x = wr := ⟨wr, rfl⟩
      have zb := hb.size
      by_cases hlt : k < ks.length
      case neg =>
        have e : k = ks.length := by omega
        subst e
        have HMM := hid_of (show es.map El.s = ks by rw [HM.out, List.take_length])
        have hlen := kids_len hf hcn
        have HSZ := hid_of (show ∀ e ∈ es, e.s.al.size ≤ maxLen ∧ e.s.name.size ≤ maxLen from fun e he => by
          have hm : e.s ∈ ks := by rw [← HMM.out]; exact List.mem_map.2 ⟨e, he, rfl⟩
          obtain ⟨-, C, -, hr⟩ := HR.out
          obtain ⟨i, hi, ei⟩ := List.mem_iff_getElem.1 hm
          have es1 : sth ks i = e.s := by simp [sth, List.getD_eq_getElem?_getD, hi, ei]
          obtain ⟨-, -, -, -, -, -, -, h1, h2, -⟩ := (hr i hi).pieces
          rw [es1] at h1 h2
          exact ⟨h1, h2⟩)
        obtain ⟨a, c, e, hRR⟩ := HO.out.reps (fun _ _ _ _ h => h) (by rw [HEL.out]; exact hlen) HSZ.out (fun b => b < 0 ∨ (w.heap.size ≤ b ∧ b < w2.heap.size)) (fun b hb => Or.inr hb) (fun e he b hq => Or.inr ⟨HQ.out e he b hq, ((HO.out.kid e he).2 b hq).1⟩)
        rw [HMM.out] at hRR
        have HRR := hid_of hRR
        subst e
        go_wp2_with fail
        go_ret
        exact ⟨a, c, by rw [HEL.out]; rfl, HRR.out, hb⟩
      have hki : (k : Int) < (ks.length : Int) := by omega
      obtain ⟨-, C, hA, hr⟩ := HR.out.mono fun b hb2 => hb.block b (hB b hb2)
      obtain ⟨kb, koff, rfl, hkB, hkc⟩ := hA (by omega)
      have hkW := hB kb hkB
      obtain ⟨sa, sc, e0, e1, e2, e3, e4, hal, hnm, hKids⟩ := (hr k hlt).pieces
      have q0 : w2.cell? ⟨kb, koff + k * 5, none⟩ = some (.string (sth ks k).al) := e0 ▸ hkc k hlt 0 (by omega)
      have q1 : w2.cell? ⟨kb, koff + k * 5 + 1, none⟩ = some (.string (sth ks k).name) := e1 ▸ hkc k hlt 1 (by omega)
      have q2 : w2.cell? ⟨kb, koff + k * 5 + 2, none⟩ = some (.bool (sth ks k).one) := e2 ▸ hkc k hlt 2 (by omega)
      have q3 : w2.cell? ⟨kb, koff + k * 5 + 3, none⟩ = some (.int .i64 (sth ks k).id) := e3 ▸ hkc k hlt 3 (by omega)
      have q4 : w2.cell? ⟨kb, koff + k * 5 + 4, none⟩ = some (.slice sa (sth ks k).kids.length sc) := e4 ▸ hkc k hlt 4 (by omega)
      have HT := hid_of (sth_take ks k hlt)
      have hc1 := cntTo_mono (f + 1) ks (show k + 1 ≤ ks.length by omega)
      rw [cntTo_succ, cntSe_kids] at hc1
      have HIH := hid_of (fun W (hW : Below w2.heap.size w2 W) => IH (sth ks k).kids W P sa sc (hf k hlt) (by omega) (hKids.mono fun j hj => hW.block j (by have := hB j hj; omega)) (fun j hj => by have := hB j hj; have := hW.size; omega))
      have HSZ := hid_of (And.intro hal hnm)
      clear e0 e1 e2 e3 e4 hkc hr hA hKids IH hc1 hal hnm
      generalize sth ks k = s at *
      go_wp2_with fail
      refine (HIH.out _ (below_box w2 _)).mono ?_
      rintro e w3 ⟨a3, c3, rfl, hR3, hb3⟩
      have z3 : w2.heap.size + 1 ≤ w3.heap.size := by have := hb3.size; simpa using this
      have hbk : w3.heap[w2.heap.size]? = some (.cells #[.string s.al, .string s.name, .bool s.one, .int .i64 s.id, .slice sa s.kids.length sc] 43 (0, 0)) := (hb3.block _ (by simp)).trans (heap_alloc_new w2 _)
      have hb3' : Below w2.heap.size w2 w3 := (below_box w2 _).trans (hb3.mono (by simp))
      have p0 : w3.cell? ⟨w2.heap.size, 0, none⟩ = some (.string s.al) := by simp [World.cell?, hbk]
      have p1 : w3.cell? ⟨w2.heap.size, 1, none⟩ = some (.string s.name) := by simp [World.cell?, hbk]
      have p2 : w3.cell? ⟨w2.heap.size, 2, none⟩ = some (.bool s.one) := by simp [World.cell?, hbk]
      have p3 : w3.cell? ⟨w2.heap.size, 3, none⟩ = some (.int .i64 s.id) := by simp [World.cell?, hbk]
      have p4 : w3.cell? ⟨w2.heap.size, 4, none⟩ = some (.slice sa s.kids.length sc) := by simp [World.cell?, hbk]
      have p5 : w3.frozen? ⟨w2.heap.size, 4, none⟩ = false := by simp [World.frozen?, hbk]
      have HR3 := hid_of hR3
      have HB3 := hid_of hb3
      have HBK := hid_of hbk
      clear hR3 hb3 hbk q0 q1 q2 q3 q4 HIH
      obtain ⟨W, hW⟩ : ∃ W, W = w3.setCell ⟨w2.heap.size, 4, none⟩ (.slice a3 s.kids.length c3) := ⟨_, rfl⟩
      have hbW : Below w2.heap.size w2 W := by rw [hW]; exact hb3'.setCell (Nat.le_refl _) _
      have zW : W.heap.size = w3.heap.size := by rw [hW]; simp [World.setCell]
      have HRW := hid_of (HR3.out.mono (w' := W) fun b hq => by
        rw [hW]
        refine Below.heap_setCell _ _ _ _ ?_
        rcases hq with hq | hq
        · omega
        · have := hq.1; simp at this; show b ≠ w2.heap.size; omega)
      have HOW := hid_of (HO.out.keep looks_reps hbW)
      have hrow := HOW.out.row
      obtain ⟨g, cap, rfl⟩ := HO.out.form HNN.out
      have HOL := hid_of (fun j => HO.out.row.lt j)
      have hesl : es.length ≤ 1000000 := by
        have := kids_len (f := f + 1) (ks := ks) hf hcn
        have := HEL.out
        omega
      have hesk : es.length + 1 ≤ 1000000 := by
        have := kids_len (f := f + 1) (ks := ks) hf hcn
        have := HEL.out
        omega
      go_wp2_with (
        at_builtin
        rw [← hW]
        refine wpList_append_own_at _ rfl _ _ 25 rfl w.heap.size 43 i0 zeroSe 5 72 Tryd.underlying25 hi0 hz0 hz1 hz2 rfl (by decide) _ es.length _ rfl (hrow.alloc _) ⟨w3.heap.size, 0, none⟩ 1 1 [.string s.al, .string s.name, .bool s.one, .int .i64 s.id, .slice a3 s.kids.length c3] rfl rfl (by rw [← zW]; exact World.news_of_block (heap_alloc_new W _)) (by intro u hu; simp at hu; rcases hu with rfl | rfl | rfl | rfl | rfl <;> rfl) (by unfold maxLen; omega) (by omega) (by simp; omega) ?_
        intro v' w4 hown hgrow hnn hob
        refine Hid.out ?_)
      refine hid_of ?_
      have hpush := RowP.push looks_reps (HOW.out.keep looks_reps (below_box W _)) ⟨s, a3, c3, fun b => w2.heap.size + 1 ≤ b ∧ b < w3.heap.size⟩ rfl rfl hown hgrow hob (looks_reps _ _ _ _ _ (HRW.out.sub fun b hq => hq.elim (fun h => by omega) (fun h => by simpa using h)) fun b hq => (below_box W _).block b (by omega)) (fun b hq => ⟨by simp; omega, fun e2 => by have := (HOL.out b e2).2; have := hq.1; omega⟩)
      have z4 : w3.heap.size + 1 ≤ w4.heap.size := by have := hgrow.size; simp at this; omega
      have hb4 : Below w.heap.size w w4 := ((hb.trans (hbW.mono zb)).alloc (by omega) _).grown hgrow (by simp; omega) (fun j hj => (HOL.out j hj).1)
      have HP := hid_of hpush
      have HN4 := hid_of (fun e => absurd (hnn.1 e).2 (by decide) : ¬ v' = .slice none 0 0)
      obtain ⟨g4, cap4, rfl⟩ := hpush.form HN4.out
      clear hown hgrow hnn hob hpush
      go_wp2_with fail
      go_roundw
      case measure => simp [intOf]; omega
      case rel =>
        refine ⟨k + 1, _, by omega, by go_num, hid_of (by simp [HEL.out]), hid_of ?_, HP, hid_of ?_, HN4, hb4⟩
        · rw [List.map_append, HM.out, ← HT.out]; rfl
        · intro e he b hq
          rcases List.mem_append.1 he with he | he
          · exact HQ.out e he b hq
          · rw [List.mem_singleton.1 he] at hq
            have := hq.1
            omega
end Go.Proofs.YtmeopghhgpbhpaaDoor
