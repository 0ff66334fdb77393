import Derived.Test.YtokmgbidmnanpaaGreatDoorB26
import Derived.Maps.AppendAt
set_option linter.unusedSimpArgs false
set_option linter.unusedVariables false
namespace Go.Proofs.YtokmgbidmnanpaaGreatDoor
open Go.RowKit Go.Shelf Go.Maps
def wyT : Nat → List UInt8 → List Se → Nat → List (List UInt8)
  | 0, _, _, _ => []
  | f + 1, p, ks, n => (List.range n).flatMap fun i => (p ++ (keyS (sth ks i)).toList) :: wyT f (p ++ (keyS (sth ks i)).toList ++ [47]) (sth ks i).kids (sth ks i).kids.length
theorem wyT_succ (f : Nat) (p : List UInt8) (ks : List Se) (n : Nat) : wyT (f + 1) p ks (n + 1) = wyT (f + 1) p ks n ++ ((p ++ (keyS (sth ks n)).toList) :: wyT f (p ++ (keyS (sth ks n)).toList ++ [47]) (sth ks n).kids (sth ks n).kids.length) := by
  simp [wyT, List.range_succ]
def pfx (ah : Way) : List UInt8 := if ah = [] then [] else joinW ah ++ [47]
theorem joinW_snoc : ∀ (ah : Way) (k : ByteArray), joinW (ah ++ [k]) = pfx ah ++ k.toList
  | [], k => by simp [pfx, joinW]
  | [a], k => by simp [pfx, joinW]
  | a :: b :: l, k => by
    have ih := joinW_snoc (b :: l) k
    have e : joinW ((a :: b :: l) ++ [k]) = a.toList ++ 47 :: joinW ((b :: l) ++ [k]) := rfl
    rw [e, ih]
    simp [pfx, joinW]
theorem wyT_pre : ∀ (f : Nat) (ah : Way) (ks : List Se) (n : Nat), wyT f (pfx ah) ks n = (preTo f ah ks n).map fun x => joinW x.1
  | 0, ah, ks, n => by simp [wyT, preTo]
  | f + 1, ah, ks, 0 => by simp [wyT, preTo]
  | f + 1, ah, ks, n + 1 => by
    have h2 := wyT_pre f (ah ++ [keyS (sth ks n)]) (sth ks n).kids (sth ks n).kids.length
    have e : pfx (ah ++ [keyS (sth ks n)]) = pfx ah ++ (keyS (sth ks n)).toList ++ [47] := by
      rw [pfx, if_neg (by simp), joinW_snoc]
    rw [wyT_succ, preTo_succ, wyT_pre (f + 1) ah ks n, List.map_append, List.map_cons, ← h2, e]
    simp only
    rw [joinW_snoc]
theorem wyT_len (f : Nat) (p : List UInt8) (ah : Way) (ks : List Se) (n : Nat) (hn : n ≤ ks.length) (hf : FitS f ks) : (wyT f p ks n).length = cntTo f ks n := by
  have h : ∀ (f : Nat) (p q : List UInt8) (ks : List Se) (n : Nat), (wyT f p ks n).length = (wyT f q ks n).length := by
    intro f
    induction f with
    | zero => intro p q ks n; simp [wyT]
    | succ f ih =>
      intro p q ks n
      induction n with
      | zero => simp [wyT]
      | succ n ihn =>
        rw [wyT_succ, wyT_succ, List.length_append, List.length_append, ihn, List.length_cons, List.length_cons, ih _ (q ++ (keyS (sth ks n)).toList ++ [47])]
  rw [h f p (pfx ah), wyT_pre, List.length_map, preTo_len f ah ks n hn hf]
def Own9 (base : Nat) (ts : List ByteArray) (v : Value) (w : World) : Prop := ∃ g cap, v = .slice (some ⟨g, 0, none⟩) ts.length cap ∧ w.ownsRow base 9 1 v ts.length (ts.map Value.string)
theorem Own9.keep {base : Nat} {ts : List ByteArray} {v : Value} {w w' : World} (h : Own9 base ts v w) (hb : Below w.heap.size w w') : Own9 base ts v w' := by
  obtain ⟨g, cap, e, h1⟩ := h
  exact ⟨g, cap, e, owns_keep' h1 hb⟩
theorem Own9.of {base n : Nat} {ts : List ByteArray} {v : Value} {w : World} (hn : n = ts.length) (h : w.ownsRow base 9 1 v n (ts.map Value.string)) (hne : ¬ v = .slice none 0 0) : Own9 base ts v w := by
  subst hn
  rcases h.2 with ⟨e, _⟩ | ⟨g, cap, cur, e, r⟩
  · exact absurd e hne
  · exact ⟨g, cap, e, h⟩
set_option maxRecDepth 20000 in
set_option maxHeartbeats 3200000 in
theorem l12Ways_any : ∀ (f : Nat) (ks : List Se) (wy : ByteArray) (w : World) (B : Nat) (ka : Option Addr) (kc : Nat), FitS f ks → SmallS f ks → cntTo f ks ks.length ≤ 1000000 → wy.size + f * 1048577 ≤ 2305843009213693952 → SeReps w (· < B) ks ka → B ≤ w.heap.size →
    Calls Tryz.prog 43 #[.slice ka ks.length kc, .string wy] w fun e w' => ∃ (ts : List ByteArray) (v : Value), e = .returned v ∧ Own9 w.heap.size ts v w' ∧ ts.map ByteArray.toList = wyT f wy.toList ks ks.length ∧ Below w.heap.size w w' := by
  intro f
  induction f with
  | zero =>
    intro ks wy w B ka kc hf hsm hcn hwy hR hB
    have e : ks = [] := hf
    subst e
    go_enter Tryz.func43, Tryz.ntmps43
    go_wp2_with fail
    go_loopw [5, 6] (fun o i wr => i = .int .i64 0 ∧ Own9 w.heap.size [] o wr ∧ Below w.heap.size w wr) (fun _ _ _ => 0)
    case atStart =>
      refine ⟨rfl, ?_, below_box _ _⟩
      exact ⟨w.heap.size, 0, rfl, by simp, Or.inr ⟨w.heap.size, 0, #[], rfl, Nat.le_refl _, heap_alloc_new w _, Nat.le_refl _, by unfold maxLen; omega, rfl, rfl⟩⟩
    case round =>
      obtain ⟨rfl, hO, hb⟩ := hrel
      have HO := hid_of hO
      obtain ⟨g, cap, rfl, -⟩ := hO
      go_wp2_with fail
      go_ret
      exact ⟨[], _, rfl, HO.out, by simp [wyT], hb⟩
  | succ f IH =>
    intro ks wy w B ka kc hf hsm hcn hwy hR hB
    have h72 := hR.1
    obtain ⟨i0, hi0, hz0, hz1, hz2⟩ := info_parts info9
    have HR := hid_of hR
    clear hR
    go_enter Tryz.func43, Tryz.ntmps43
    go_wp2_with fail
    go_loopw [5, 6] (fun o i wr => ∃ (k : Nat) (ts : List ByteArray), k ≤ ks.length ∧ i = .int .i64 k ∧ Hid (Own9 w.heap.size ts o wr) ∧ Hid (ts.map ByteArray.toList = wyT (f + 1) wy.toList ks k) ∧ Below w.heap.size w wr) (fun _ i _ => ks.length - (intOf i).toNat)
    case atStart =>
      refine ⟨0, [], Nat.zero_le _, rfl, ?_, by simp [wyT, Hid], below_box _ _⟩
      exact ⟨w.heap.size, 0, rfl, by simp, Or.inr ⟨w.heap.size, 0, #[], rfl, Nat.le_refl _, heap_alloc_new w _, Nat.le_refl _, by unfold maxLen; omega, rfl, rfl⟩⟩
    case round =>
      obtain ⟨k, ts, hk, rfl, HO, HT, hb⟩ := hrel
      obtain ⟨w2, rfl⟩ : ∃ x, x = wr := ⟨wr, rfl⟩
      by_cases hlt : k < ks.length
      case neg =>
        have e : k = ks.length := by omega
        subst e
        obtain ⟨g, cap, rfl, -⟩ := HO.out
        go_wp2_with fail
        go_ret
        exact ⟨ts, _, rfl, HO.out, HT.out, hb⟩
      have hki : (k : Int) < (ks.length : Int) := by omega
      have zb := hb.size
      obtain ⟨-, C, hA, hr⟩ := HR.out.under (hb.mono hB)
      obtain ⟨kb, koff, rfl, hkB, hkc⟩ := hA (by omega)
      obtain ⟨sa, sc, e0, e1, e2, e3, e4, hal, hnm, hKids⟩ := (hr k hlt).pieces
      have q0 : w2.cell? ⟨kb, koff + k * 5, none⟩ = some (.string (sth ks k).al) := e0 ▸ hkc k hlt 0 (by omega)
      have q1 : w2.cell? ⟨kb, koff + k * 5 + 1, none⟩ = some (.string (sth ks k).name) := e1 ▸ hkc k hlt 1 (by omega)
      have q2 : w2.cell? ⟨kb, koff + k * 5 + 2, none⟩ = some (.bool (sth ks k).one) := e2 ▸ hkc k hlt 2 (by omega)
      have q3 : w2.cell? ⟨kb, koff + k * 5 + 3, none⟩ = some (.int .i64 (sth ks k).id) := e3 ▸ hkc k hlt 3 (by omega)
      have q4 : w2.cell? ⟨kb, koff + k * 5 + 4, none⟩ = some (.slice sa (sth ks k).kids.length sc) := e4 ▸ hkc k hlt 4 (by omega)
      have hsk := hsm k hlt
      have hks : (keyS (sth ks k)).size ≤ 1048576 := by
        unfold keyS
        split
        · exact hsk.2.1
        · exact hsk.1
      have HWS := hid_of (wyT_succ f wy.toList ks k)
      have hlen : ts.length = cntTo (f + 1) ks k := by
        have := congrArg List.length HT.out
        rw [wyT_len (f + 1) _ [] ks k hk hf] at this
        simpa using this
      have hc1 := cntTo_mono (f + 1) ks (show k + 1 ≤ ks.length by omega)
      rw [cntTo_succ, cntSe_kids] at hc1
      have hIH := fun W (hW : Below w.heap.size w W) (y : ByteArray) (hy : y.size + f * 1048577 ≤ 2305843009213693952) => IH (sth ks k).kids y W B sa sc (hf k hlt) hsk.2.2 (by omega) hy (hKids.mono fun j hj => (hW.block j (by omega)).trans (hb.block j (by omega)).symm) (by have := hW.size; omega)
      have HIH := hid_of hIH
      have hsub : ts.length + 1 + cntTo f (sth ks k).kids (sth ks k).kids.length ≤ 1000000 := by omega
      have HLn := hid_of (fun (p : List UInt8) => wyT_len f p [] (sth ks k).kids _ (Nat.le_refl _) (hf k hlt))
      clear e0 e1 e2 e3 e4 hkc hr hA hKids IH hIH hsk hc1
      generalize sth ks k = s at *
      have hts : ts.length + 1 ≤ 1000000 := by omega
      have HL := hid_of hlen
      clear hlen
      have b1 : ¬ 9223372036854775807 < wy.size + (keyS s).size := by omega
      have b2 : ¬ 9223372036854775807 < wy.size + (keyS s).size + 1 := by omega
      have HK := hid_of (fun W => l3Key_any s W (.bool s.one) (.int .i64 s.id) (.slice sa s.kids.length sc))
      go_wp2_with fail
      refine (HK.out _).mono ?_
      rintro e w3 ⟨rfl, hb3⟩
      have z3 := hb3.size
      have q4' : w3.cell? ⟨kb, koff + k * 5 + 4, none⟩ = some (.slice sa s.kids.length sc) := (hb3.cell (p := ⟨kb, koff + k * 5 + 4, none⟩) (by show kb < _; omega)).trans q4
      have hO3 := HO.out.keep hb3
      obtain ⟨g, cap, rfl, hr3⟩ := hO3
      have hyl : (wy ++ keyS s).toList = wy.toList ++ (keyS s).toList := by rw [ByteArray.toList_eq, ByteArray.toList_eq, ByteArray.toList_eq]; simp
      have hys : (wy ++ keyS s).size = wy.size + (keyS s).size := by rw [ByteArray.size_append]
      have b3 : ¬ 9223372036854775807 < (wy ++ keyS s).size + 1 := by omega
      have HYL := hid_of hyl
      clear hyl
      go_wp2_with (
        at_builtin
        refine wpList_append_own _ rfl _ _ 29 rfl w.heap.size 9 i0 (.string ByteArray.empty) 1 16 Tryz.underlying29 hi0 hz0 hz1 hz2 rfl (by decide) _ ts.length _ rfl (hr3.alloc _) ⟨w3.heap.size, 0, none⟩ 1 1 [.string (wy ++ keyS s)] rfl rfl (World.news_of_block (heap_alloc_new w3 _)) (by intro u hu; simp at hu; subst hu; rfl) (by unfold maxLen; omega) (by omega) (by simp; omega) ?_
        intro v' w4 hown hgrow hnn
        refine Hid.out ?_)
      refine hid_of ?_
      have z4 : w3.heap.size + 1 ≤ w4.heap.size := by have := hgrow.size; simpa using this
      have hb4 : Below w.heap.size w w4 := ((hb.trans (hb3.mono zb)).trans ((below_box w3 _).mono (by omega))).grown hgrow (by simp; omega) (fun j hj => (hr3.lt j hj).1)
      have hO4 : Own9 w.heap.size (ts ++ [wy ++ keyS s]) v' w4 := Own9.of (n := ts.length + 1) (by simp) (by simpa using hown) (fun e => by cases (hnn.1 e).1)
      have k4 : w4.cell? ⟨kb, koff + k * 5 + 4, none⟩ = some (.slice sa s.kids.length sc) := by
        have hlo : kb < w.heap.size := by omega
        have c1 := (hb.cell (p := ⟨kb, koff + k * 5 + 4, none⟩) hlo)
        exact (hb4.cell (p := ⟨kb, koff + k * 5 + 4, none⟩) hlo).trans (c1.symm.trans q4)
      have hyb : (wy ++ keyS s ++ ⟨#[47]⟩ : ByteArray).size = wy.size + (keyS s).size + 1 := by rw [ByteArray.size_append, hys]; rfl
      have hybl : (wy ++ keyS s ++ ⟨#[47]⟩ : ByteArray).toList = wy.toList ++ (keyS s).toList ++ [47] := by
        rw [← HYL.out, ByteArray.toList_eq, ByteArray.toList_eq]; simp
      have HYB := hid_of hybl
      have HSub := hid_of (HIH.out w4 hb4 (wy ++ keyS s ++ ⟨#[47]⟩) (by omega))
      have HO4 := hid_of hO4
      obtain ⟨g4, cap4, rfl, -⟩ := hO4
      clear hown hgrow hnn hybl hr3 q0 q1 q2 q3 q4 q4'
      go_wp2_with fail
      refine HSub.out.mono ?_
      rintro e w5 ⟨ts5, v5, rfl, ⟨g5, cap5, rfl, hr5⟩, ht5, hb5⟩
      have z5 := hb5.size
      have hb5' := hb4.trans (hb5.mono hb4.size)
      have hl5 : ts5.length = cntTo f s.kids s.kids.length := by
        have := congrArg List.length ht5
        rw [HLn.out] at this
        simpa using this
      have HT5 := hid_of ht5
      have hsum : ts.length + 1 + ts5.length ≤ 1000000 := by omega
      have HL5 := hid_of hl5
      obtain ⟨g4', cap4', e4, hr4⟩ := HO4.out.keep hb5
      simp only [List.length_append, List.length_singleton, Value.slice.injEq, true_and, Option.some.injEq, Addr.mk.injEq, and_true] at e4
      obtain ⟨rfl, rfl⟩ := e4
      simp only [List.length_append, List.length_singleton] at hr4
      clear ht5 hl5
      go_wp2_with (
        at_builtin
        refine wpList_append_own _ rfl _ _ 29 rfl w.heap.size 9 i0 (.string ByteArray.empty) 1 16 Tryz.underlying29 hi0 hz0 hz1 hz2 rfl (by decide) _ (ts.length + 1) _ rfl hr4 ⟨g5, 0, none⟩ ts5.length cap5 (ts5.map Value.string) rfl (by simp) (fun j u hu => hr5.cells (g := g5) rfl j u hu) (by intro u hu; obtain ⟨s, -, rfl⟩ := List.mem_map.1 hu; rfl) (by unfold maxLen; omega) (by omega) (by omega) ?_
        intro v6 w6 hown hgrow hnn
        refine Hid.out ?_)
      refine hid_of ?_
      have hb6 : Below w.heap.size w w6 := hb5'.grown hgrow (by omega) (fun j hj => (hr4.lt j hj).1)
      have hO6 : Own9 w.heap.size (ts ++ [wy ++ keyS s] ++ ts5) v6 w6 := Own9.of (n := ts.length + 1 + ts5.length) (by simp; omega) (by simpa using hown) (fun e => by cases (hnn.1 e).1)
      have HO6 := hid_of hO6
      obtain ⟨g6, cap6, rfl, -⟩ := hO6
      clear hown hgrow hnn
      go_wp2_with fail
      go_roundw
      case measure => simp [intOf]; omega
      case rel =>
        refine ⟨k + 1, _, by omega, by go_num, HO6, hid_of ?_, hb6⟩
        rw [HWS.out, ← HT.out]
        simp only [List.map_append, List.map_cons, List.map_nil, List.append_assoc, List.singleton_append]
        rw [HT5.out, HYB.out, HYL.out]
        simp
theorem pfx_nil : pfx [] = [] := by simp [pfx]
theorem empty_list : (⟨#[]⟩ : ByteArray).toList = [] := by rw [ByteArray.toList_eq]
set_option maxHeartbeats 400000 in
theorem AskSizeS_any (f : Nat) (ks : List Se) (w : World) (B : Nat) (ka : Option Addr) (kc : Nat) (hf : FitS f ks) (hsm : SmallS f ks) (hfb : f ≤ 1000000000) (hR : SeReps w (· < B) ks ka) (hB : B ≤ w.heap.size) :
    Calls Tryz.prog 12 #[.slice ka ks.length kc] w fun e w' => e = .returned (.int .i64 ((askWays f ks).length : Nat)) ∧ Below w.heap.size w w' := by
  have HO := hid_of (AskOkS_any f ks w B ka kc hf hR hB)
  cases ho : askOk f ks
  · rw [ho] at HO
    have HE : Hid (askWays f ks = []) := hid_of (by rw [askWays, ho]; rfl)
    go_enter Tryz.func12, Tryz.ntmps12
    go_wp2_with fail
    refine HO.out.mono ?_
    rintro e w1 ⟨rfl, hb1⟩
    go_wp2_with fail
    go_ret
    exact ⟨ret_int (by rw [HE.out]; rfl), hb1⟩
  · rw [ho] at HO
    have HE : Hid (askWays f ks = wyT f [] ks ks.length) := hid_of (by rw [askWays, ho, if_pos rfl, ← wyT_pre f [] ks ks.length, pfx_nil])
    have hc : cntTo f ks ks.length ≤ 1000000 := by
      simp only [askOk, askB, Bool.and_eq_true, decide_eq_true_eq] at ho
      omega
    have HD := hid_of (fun W (hW : Below w.heap.size w W) => l12Ways_any f ks ⟨#[]⟩ W B ka kc hf hsm hc (by show 0 + f * 1048577 ≤ _; omega) (hR.under (hW.mono hB)) (by have := hW.size; omega))
    go_enter Tryz.func12, Tryz.ntmps12
    go_wp2_with fail
    refine HO.out.mono ?_
    rintro e w1 ⟨rfl, hb1⟩
    go_wp2_with fail
    refine (HD.out w1 hb1).mono ?_
    rintro e w2 ⟨ts, v, rfl, ⟨g, cap, rfl, hr⟩, ht, hb2⟩
    have HL : Hid ((askWays f ks).length = ts.length) := hid_of (by
      rw [HE.out]
      have := congrArg List.length ht
      simp only [List.length_map] at this
      rw [this, empty_list])
    clear hr ht
    go_wp2_with fail
    go_ret
    exact ⟨ret_int (by rw [HL.out]), hb1.trans (hb2.mono hb1.size)⟩
set_option maxHeartbeats 400000 in
theorem AskSizeI_any (f : Nat) (ks : List Se) (P : Nat → Prop) (B : Nat) (ka : Option Addr) (kc : Nat) (w : World) (h : AskIn f ks P B ka w) :
    Calls Tryz.prog 10 #[.slice ka ks.length kc] w fun e w' => e = .returned (.int .i64 ((askWays f ks).length : Nat)) ∧ Below w.heap.size w w' := by
  have HW := hid_of (AskWaysI_any f ks P B ka kc w h)
  go_enter Tryz.func10, Tryz.ntmps10
  go_wp2_with fail
  refine HW.out.mono ?_
  rintro e w1 ⟨ts, wv, rfl, hr, ht, -, -, hb⟩
  have HL : Hid ((askWays f ks).length = ts.length) := hid_of (by rw [← ht]; simp)
  have hv : ∃ a c, wv = .slice a ts.length c := by
    rcases hr.2 with ⟨e, h0⟩ | ⟨g, cap, cur, e, _⟩
    · exact ⟨none, 0, by rw [e, h0]⟩
    · exact ⟨_, _, e⟩
  obtain ⟨va, vc, rfl⟩ := hv
  clear hr ht
  go_wp2_with fail
  go_ret
  exact ⟨ret_int (by rw [HL.out]), hb⟩
end Go.Proofs.YtokmgbidmnanpaaGreatDoor
