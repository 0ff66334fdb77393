import Derived.Test.YtokmgbidmnanpaaGreatDoorB40
import Derived.Test.YtokmgbidmnanpaaGreatDoorB25
import Derived.Test.YtokmgbidmnanpaaGreatDoorB26
import Derived.Maps.AppendAt
import Derived.Test.YtokmgbidmnanpaaGreatDoorB32
set_option linter.unusedSimpArgs false
set_option linter.unusedVariables false
namespace Go.Proofs.YtokmgbidmnanpaaGreatDoor
open Go.RowKit Go.Shelf Go.Maps
theorem all_of_parts (w1 : World) (rb cb : Nat) : ∀ w2 σ c q pb pc ps n, PSt w1 rb cb n w2 σ c q pb pc ps → n ≤ 3 → c ≤ 56 → Calls Tryz.prog 54 #[.slice (some ⟨pb, 0, none⟩) n pc] w2 fun e w' => ∃ (p : Pt) (v : Value), e = .returned v ∧ PRep w' (fun b => b < w'.heap.size ∧ b ≠ rb) p v ∧ szP p ≤ 1048576 ∧ FldOk p ∧ 0 < p.types.length ∧ Below w2.heap.size w2 w' := fun w2 σ c q pb pc ps n hP h3 hc => by
  obtain ⟨qs, hql, hqs, hqz⟩ := hP.list h3 hc
  subst hql
  exact (l11All_any qs w2 w2.heap.size (some ⟨pb, 0, none⟩) pc (hqs.sub fun b hb => hb.2) (Nat.le_refl _) (fun i hi => Nat.le_trans (hqz i hi) (by omega))).mono fun e w' h => h.apart (Nat.le_refl _) hP.rd
theorem askIn_drawn {F L m : Nat} {ks : List Se} {a : Option Addr} {w : World} (hF : F ≤ 1000000000) (hTr : Tr m F ks) (hSA : SA w L ks a) (hT : Tab w.heap.size w) : AskIn F ks (fun b => L ≤ b ∧ b < w.heap.size ∧ Apart w b) w.heap.size a w :=
  ⟨hTr.fit, hTr.small F, hF, hSA, fun b hb => hb.2, Nat.le_refl _, hT⟩
end Go.Proofs.YtokmgbidmnanpaaGreatDoor
namespace Go.Proofs.YtokmgbidmnanpaaGreatDoor
open Go.RowKit Go.Shelf Go.Maps
def wyT : Nat → List UInt8 → List Se → Nat → List (List UInt8)
  | 0, _, _, _ => []
  | f + 1, p, ks, n => (List.range n).flatMap fun i => (p ++ (keyS (sth ks i)).toList) :: wyT f (p ++ (keyS (sth ks i)).toList ++ [47]) (sth ks i).kids (sth ks i).kids.length
theorem wyT_succ (f : Nat) (p : List UInt8) (ks : List Se) (n : Nat) : wyT (f + 1) p ks (n + 1) = wyT (f + 1) p ks n ++ ((p ++ (keyS (sth ks n)).toList) :: wyT f (p ++ (keyS (sth ks n)).toList ++ [47]) (sth ks n).kids (sth ks n).kids.length) := by
  simp [wyT, List.range_succ]
def pfx (ah : Way) : List UInt8 := if ah = [] then [] else joinW ah ++ [47]
theorem joinW_snoc : ∀ (ah : Way) (k : ByteArray), joinW (ah ++ [k]) = pfx ah ++ k.toList
  | [], k => by simp [pfx, joinW]
  | [a], k => by simp [pfx, joinW]
  | a :: b :: l, k => by
    have ih := joinW_snoc (b :: l) k
    have e : joinW ((a :: b :: l) ++ [k]) = a.toList ++ 47 :: joinW ((b :: l) ++ [k]) := rfl
    rw [e, ih]
    simp [pfx, joinW]
theorem wyT_pre : ∀ (f : Nat) (ah : Way) (ks : List Se) (n : Nat), wyT f (pfx ah) ks n = (preTo f ah ks n).map fun x => joinW x.1
  | 0, ah, ks, n => by simp [wyT, preTo]
  | f + 1, ah, ks, 0 => by simp [wyT, preTo]
  | f + 1, ah, ks, n + 1 => by
    have h2 := wyT_pre f (ah ++ [keyS (sth ks n)]) (sth ks n).kids (sth ks n).kids.length
    have e : pfx (ah ++ [keyS (sth ks n)]) = pfx ah ++ (keyS (sth ks n)).toList ++ [47] := by
      rw [pfx, if_neg (by simp), joinW_snoc]
    rw [wyT_succ, preTo_succ, wyT_pre (f + 1) ah ks n, List.map_append, List.map_cons, ← h2, e]
    simp only
    rw [joinW_snoc]
theorem wyT_len (f : Nat) (p : List UInt8) (ah : Way) (ks : List Se) (n : Nat) (hn : n ≤ ks.length) (hf : FitS f ks) : (wyT f p ks n).length = cntTo f ks n := by
  have h : ∀ (f : Nat) (p q : List UInt8) (ks : List Se) (n : Nat), (wyT f p ks n).length = (wyT f q ks n).length := by
    intro f
    induction f with
    | zero => intro p q ks n; simp [wyT]
    | succ f ih =>
      intro p q ks n
      induction n with
      | zero => simp [wyT]
      | succ n ihn =>
        rw [wyT_succ, wyT_succ, List.length_append, List.length_append, ihn, List.length_cons, List.length_cons, ih _ (q ++ (keyS (sth ks n)).toList ++ [47])]
  rw [h f p (pfx ah), wyT_pre, List.length_map, preTo_len f ah ks n hn hf]
def Own9 (base : Nat) (ts : List ByteArray) (v : Value) (w : World) : Prop := ∃ g cap, v = .slice (some ⟨g, 0, none⟩) ts.length cap ∧ w.ownsRow base 9 1 v ts.length (ts.map Value.string)
theorem Own9.keep {base : Nat} {ts : List ByteArray} {v : Value} {w w' : World} (h : Own9 base ts v w) (hb : Below w.heap.size w w') : Own9 base ts v w' := by
  obtain ⟨g, cap, e, h1⟩ := h
  exact ⟨g, cap, e, owns_keep' h1 hb⟩
theorem Own9.of {base n : Nat} {ts : List ByteArray} {v : Value} {w : World} (hn : n = ts.length) (h : w.ownsRow base 9 1 v n (ts.map Value.string)) (hne : ¬ v = .slice none 0 0) : Own9 base ts v w := by
  subst hn
  rcases h.2 with ⟨e, _⟩ | ⟨g, cap, cur, e, r⟩
  · exact absurd e hne
  · exact ⟨g, cap, e, h⟩
set_option maxRecDepth 20000 in
set_option maxHeartbeats 3200000 in
theorem l12Ways_any : ∀ (f : Nat) (ks : List Se) (wy : ByteArray) (w : World) (B : Nat) (ka : Option Addr) (kc : Nat), FitS f ks → SmallS f ks → cntTo f ks ks.length ≤ 1000000 → wy.size + f * 1048577 ≤ 2305843009213693952 → SeReps w (· < B) ks ka → B ≤ w.heap.size →
    Calls Tryz.prog 43 #[.slice ka ks.length kc, .string wy] w fun e w' => ∃ (ts : List ByteArray) (v : Value), e = .returned v ∧ Own9 w.heap.size ts v w' ∧ ts.map ByteArray.toList = wyT f wy.toList ks ks.length ∧ Below w.heap.size w w' := by
  intro f
  induction f with
  | zero =>
    intro ks wy w B ka kc hf hsm hcn hwy hR hB
    have e : ks = [] := hf
    subst e
    go_enter Tryz.func43, Tryz.ntmps43
    go_wp2_with fail
    go_loopw [5, 6] (fun o i wr => i = .int .i64 0 ∧ Own9 w.heap.size [] o wr ∧ Below w.heap.size w wr) (fun _ _ _ => 0)
    case atStart =>
      refine ⟨rfl, ?_, below_box _ _⟩
      exact ⟨w.heap.size, 0, rfl, by simp, Or.inr ⟨w.heap.size, 0, #[], rfl, Nat.le_refl _, heap_alloc_new w _, Nat.le_refl _, by unfold maxLen; omega, rfl, rfl⟩⟩
    case round =>
      obtain ⟨rfl, hO, hb⟩ := hrel
      have HO := hid_of hO
      obtain ⟨g, cap, rfl, -⟩ := hO
      go_wp2_with fail
      go_ret
      exact ⟨[], _, rfl, HO.out, by simp [wyT], hb⟩
  | succ f IH =>
    intro ks wy w B ka kc hf hsm hcn hwy hR hB
    have h72 := hR.1
    obtain ⟨i0, hi0, hz0, hz1, hz2⟩ := info_parts info9
    have HR := hid_of hR
    clear hR
    go_enter Tryz.func43, Tryz.ntmps43
    go_wp2_with fail
    go_loopw [5, 6] (fun o i wr => ∃ (k : Nat) (ts : List ByteArray), k ≤ ks.length ∧ i = .int .i64 k ∧ Hid (Own9 w.heap.size ts o wr) ∧ Hid (ts.map ByteArray.toList = wyT (f + 1) wy.toList ks k) ∧ Below w.heap.size w wr) (fun _ i _ => ks.length - (intOf i).toNat)
    case atStart =>
      refine ⟨0, [], Nat.zero_le _, rfl, ?_, by simp [wyT, Hid], below_box _ _⟩
      exact ⟨w.heap.size, 0, rfl, by simp, Or.inr ⟨w.heap.size, 0, #[], rfl, Nat.le_refl _, heap_alloc_new w _, Nat.le_refl _, by unfold maxLen; omega, rfl, rfl⟩⟩
    case round =>
      obtain ⟨k, ts, hk, rfl, HO, HT, hb⟩ := hrel
      obtain ⟨w2, rfl⟩ : ∃ x, x = wr := ⟨wr, rfl⟩
      by_cases hlt : k < ks.length
      case neg =>
        have e : k = ks.length := by omega
        subst e
        obtain ⟨g, cap, rfl, -⟩ := HO.out
        go_wp2_with fail
        go_ret
        exact ⟨ts, _, rfl, HO.out, HT.out, hb⟩
      have hki : (k : Int) < (ks.length : Int) := by omega
      have zb := hb.size
      obtain ⟨-, C, hA, hr⟩ := HR.out.under (hb.mono hB)
      obtain ⟨kb, koff, rfl, hkB, hkc⟩ := hA (by omega)
      obtain ⟨sa, sc, e0, e1, e2, e3, e4, hal, hnm, hKids⟩ := (hr k hlt).pieces
      have q0 : w2.cell? ⟨kb, koff + k * 5, none⟩ = some (.string (sth ks k).al) := e0 ▸ hkc k hlt 0 (by omega)
      have q1 : w2.cell? ⟨kb, koff + k * 5 + 1, none⟩ = some (.string (sth ks k).name) := e1 ▸ hkc k hlt 1 (by omega)
      have q2 : w2.cell? ⟨kb, koff + k * 5 + 2, none⟩ = some (.bool (sth ks k).one) := e2 ▸ hkc k hlt 2 (by omega)
      have q3 : w2.cell? ⟨kb, koff + k * 5 + 3, none⟩ = some (.int .i64 (sth ks k).id) := e3 ▸ hkc k hlt 3 (by omega)
      have q4 : w2.cell? ⟨kb, koff + k * 5 + 4, none⟩ = some (.slice sa (sth ks k).kids.length sc) := e4 ▸ hkc k hlt 4 (by omega)
      have hsk := hsm k hlt
      have hks : (keyS (sth ks k)).size ≤ 1048576 := by
        unfold keyS
        split
        · exact hsk.2.1
        · exact hsk.1
      have HWS := hid_of (wyT_succ f wy.toList ks k)
      have hlen : ts.length = cntTo (f + 1) ks k := by
        have := congrArg List.length HT.out
        rw [wyT_len (f + 1) _ [] ks k hk hf] at this
        simpa using this
      have hc1 := cntTo_mono (f + 1) ks (show k + 1 ≤ ks.length by omega)
      rw [cntTo_succ, cntSe_kids] at hc1
      have hIH := fun W (hW : Below w.heap.size w W) (y : ByteArray) (hy : y.size + f * 1048577 ≤ 2305843009213693952) => IH (sth ks k).kids y W B sa sc (hf k hlt) hsk.2.2 (by omega) hy (hKids.mono fun j hj => (hW.block j (by omega)).trans (hb.block j (by omega)).symm) (by have := hW.size; omega)
      have HIH := hid_of hIH
      have hsub : ts.length + 1 + cntTo f (sth ks k).kids (sth ks k).kids.length ≤ 1000000 := by omega
      have HLn := hid_of (fun (p : List UInt8) => wyT_len f p [] (sth ks k).kids _ (Nat.le_refl _) (hf k hlt))
      clear e0 e1 e2 e3 e4 hkc hr hA hKids IH hIH hsk hc1
      generalize sth ks k = s at *
      have hts : ts.length + 1 ≤ 1000000 := by omega
      have HL := hid_of hlen
      clear hlen
      have b1 : ¬ 9223372036854775807 < wy.size + (keyS s).size := by omega
      have b2 : ¬ 9223372036854775807 < wy.size + (keyS s).size + 1 := by omega
      have HK := hid_of (fun W => l3Key_any s W (.bool s.one) (.int .i64 s.id) (.slice sa s.kids.length sc))
      go_wp2_with fail
      refine (HK.out _).mono ?_
      rintro e w3 ⟨rfl, hb3⟩
      have z3 := hb3.size
      have q4' : w3.cell? ⟨kb, koff + k * 5 + 4, none⟩ = some (.slice sa s.kids.length sc) := (hb3.cell (p := ⟨kb, koff + k * 5 + 4, none⟩) (by show kb < _; omega)).trans q4
      have hO3 := HO.out.keep hb3
      obtain ⟨g, cap, rfl, hr3⟩ := hO3
      have hyl : (wy ++ keyS s).toList = wy.toList ++ (keyS s).toList := by rw [ByteArray.toList_eq, ByteArray.toList_eq, ByteArray.toList_eq]; simp
      have hys : (wy ++ keyS s).size = wy.size + (keyS s).size := by rw [ByteArray.size_append]
      have b3 : ¬ 9223372036854775807 < (wy ++ keyS s).size + 1 := by omega
      have HYL := hid_of hyl
      clear hyl
      go_wp2_with (
        at_builtin
        refine wpList_append_own _ rfl _ _ 29 rfl w.heap.size 9 i0 (.string ByteArray.empty) 1 16 Tryz.underlying29 hi0 hz0 hz1 hz2 rfl (by decide) _ ts.length _ rfl (hr3.alloc _) ⟨w3.heap.size, 0, none⟩ 1 1 [.string (wy ++ keyS s)] rfl rfl (World.news_of_block (heap_alloc_new w3 _)) (by intro u hu; simp at hu; subst hu; rfl) (by unfold maxLen; omega) (by omega) (by simp; omega) ?_
        intro v' w4 hown hgrow hnn
        refine Hid.out ?_)
      refine hid_of ?_
      have z4 : w3.heap.size + 1 ≤ w4.heap.size := by have := hgrow.size; simpa using this
      have hb4 : Below w.heap.size w w4 := ((hb.trans (hb3.mono zb)).trans ((below_box w3 _).mono (by omega))).grown hgrow (by simp; omega) (fun j hj => (hr3.lt j hj).1)
      have hO4 : Own9 w.heap.size (ts ++ [wy ++ keyS s]) v' w4 := Own9.of (n := ts.length + 1) (by simp) (by simpa using hown) (fun e => by cases (hnn.1 e).1)
      have k4 : w4.cell? ⟨kb, koff + k * 5 + 4, none⟩ = some (.slice sa s.kids.length sc) := by
        have hlo : kb < w.heap.size := by omega
        have c1 := (hb.cell (p := ⟨kb, koff + k * 5 + 4, none⟩) hlo)
        exact (hb4.cell (p := ⟨kb, koff + k * 5 + 4, none⟩) hlo).trans (c1.symm.trans q4)
      have hyb : (wy ++ keyS s ++ ⟨#[47]⟩ : ByteArray).size = wy.size + (keyS s).size + 1 := by rw [ByteArray.size_append, hys]; rfl
      have hybl : (wy ++ keyS s ++ ⟨#[47]⟩ : ByteArray).toList = wy.toList ++ (keyS s).toList ++ [47] := by
        rw [← HYL.out, ByteArray.toList_eq, ByteArray.toList_eq]; simp
      have HYB := hid_of hybl
      have HSub := hid_of (HIH.out w4 hb4 (wy ++ keyS s ++ ⟨#[47]⟩) (by omega))
      have HO4 := hid_of hO4
      obtain ⟨g4, cap4, rfl, -⟩ := hO4
      clear hown hgrow hnn hybl hr3 q0 q1 q2 q3 q4 q4'
      go_wp2_with fail
      refine HSub.out.mono ?_
      rintro e w5 ⟨ts5, v5, rfl, ⟨g5, cap5, rfl, hr5⟩, ht5, hb5⟩
      have z5 := hb5.size
      have hb5' := hb4.trans (hb5.mono hb4.size)
      have hl5 : ts5.length = cntTo f s.kids s.kids.length := by
        have := congrArg List.length ht5
        rw [HLn.out] at this
        simpa using this
      have HT5 := hid_of ht5
      have hsum : ts.length + 1 + ts5.length ≤ 1000000 := by omega
      have HL5 := hid_of hl5
      obtain ⟨g4', cap4', e4, hr4⟩ := HO4.out.keep hb5
      simp only [List.length_append, List.length_singleton, Value.slice.injEq, true_and, Option.some.injEq, Addr.mk.injEq, and_true] at e4
      obtain ⟨rfl, rfl⟩ := e4
      simp only [List.length_append, List.length_singleton] at hr4
      clear ht5 hl5
      go_wp2_with (
        at_builtin
        refine wpList_append_own _ rfl _ _ 29 rfl w.heap.size 9 i0 (.string ByteArray.empty) 1 16 Tryz.underlying29 hi0 hz0 hz1 hz2 rfl (by decide) _ (ts.length + 1) _ rfl hr4 ⟨g5, 0, none⟩ ts5.length cap5 (ts5.map Value.string) rfl (by simp) (fun j u hu => hr5.cells (g := g5) rfl j u hu) (by intro u hu; obtain ⟨s, -, rfl⟩ := List.mem_map.1 hu; rfl) (by unfold maxLen; omega) (by omega) (by omega) ?_
        intro v6 w6 hown hgrow hnn
        refine Hid.out ?_)
      refine hid_of ?_
      have hb6 : Below w.heap.size w w6 := hb5'.grown hgrow (by omega) (fun j hj => (hr4.lt j hj).1)
      have hO6 : Own9 w.heap.size (ts ++ [wy ++ keyS s] ++ ts5) v6 w6 := Own9.of (n := ts.length + 1 + ts5.length) (by simp; omega) (by simpa using hown) (fun e => by cases (hnn.1 e).1)
      have HO6 := hid_of hO6
      obtain ⟨g6, cap6, rfl, -⟩ := hO6
      clear hown hgrow hnn
      go_wp2_with fail
      go_roundw
      case measure => simp [intOf]; omega
      case rel =>
        refine ⟨k + 1, _, by omega, by go_num, HO6, hid_of ?_, hb6⟩
        rw [HWS.out, ← HT.out]
        simp only [List.map_append, List.map_cons, List.map_nil, List.append_assoc, List.singleton_append]
        rw [HT5.out, HYB.out, HYL.out]
        simp
theorem pfx_nil : pfx [] = [] := by simp [pfx]
theorem empty_list : (⟨#[]⟩ : ByteArray).toList = [] := by rw [ByteArray.toList_eq]
set_option maxHeartbeats 400000 in
theorem AskWaysS_any (f : Nat) (ks : List Se) (w : World) (B : Nat) (ka : Option Addr) (kc : Nat) (hf : FitS f ks) (hsm : SmallS f ks) (hfb : f ≤ 1000000000) (hR : SeReps w (· < B) ks ka) (hB : B ≤ w.heap.size) :
    Calls Tryz.prog 22 #[.slice ka ks.length kc] w fun e w' => ∃ (ts : List ByteArray) (v : Value), e = .returned v ∧ Own9 w.heap.size ts v w' ∧ ts.map ByteArray.toList = askWays f ks ∧ Below w.heap.size w w' := by
  have HO := hid_of (AskOkS_any f ks w B ka kc hf hR hB)
  cases ho : askOk f ks
  · rw [ho] at HO
    have HE : Hid (askWays f ks = []) := hid_of (by rw [askWays, ho]; rfl)
    go_enter Tryz.func22, Tryz.ntmps22
    go_wp2_with fail
    refine HO.out.mono ?_
    rintro e w1 ⟨rfl, hb1⟩
    go_wp2_with fail
    go_ret
    refine ⟨[], _, rfl, ⟨w1.heap.size, 0, rfl, by simp, Or.inr ⟨w1.heap.size, 0, #[], rfl, hb1.size, heap_alloc_new w1 _, Nat.le_refl _, by unfold maxLen; omega, rfl, rfl⟩⟩, by rw [HE.out]; rfl, hb1.trans ((below_box w1 _).mono hb1.size)⟩
  · rw [ho] at HO
    have HE : Hid (askWays f ks = wyT f [] ks ks.length) := hid_of (by rw [askWays, ho, if_pos rfl, ← wyT_pre f [] ks ks.length, pfx_nil])
    have hc : cntTo f ks ks.length ≤ 1000000 := by
      simp only [askOk, askB, Bool.and_eq_true, decide_eq_true_eq] at ho
      omega
    have HD := hid_of (fun W (hW : Below w.heap.size w W) => l12Ways_any f ks ⟨#[]⟩ W B ka kc hf hsm hc (by show 0 + f * 1048577 ≤ _; omega) (hR.under (hW.mono hB)) (by have := hW.size; omega))
    go_enter Tryz.func22, Tryz.ntmps22
    go_wp2_with fail
    refine HO.out.mono ?_
    rintro e w1 ⟨rfl, hb1⟩
    go_wp2_with fail
    refine (HD.out w1 hb1).mono ?_
    rintro e w2 ⟨ts, v, rfl, ⟨g, cap, rfl, hr⟩, ht, hb2⟩
    have HR := hid_of (And.intro hr ht)
    clear hr ht
    go_wp2_with fail
    go_ret
    refine ⟨ts, _, rfl, ⟨g, cap, rfl, owns_low HR.out.1 hb1.size⟩, ?_, hb1.trans (hb2.mono hb1.size)⟩
    rw [HE.out, HR.out.2, empty_list]
end Go.Proofs.YtokmgbidmnanpaaGreatDoor
namespace Go.Proofs.YtokmgbidmnanpaaGreatDoor
open Go.RowKit Go.Shelf Go.Maps
end Go.Proofs.YtokmgbidmnanpaaGreatDoor
namespace Go.Proofs.YtokmgbidmnanpaaGreatDoor
open Go.RowKit Go.Shelf Go.Maps
attribute [local go_sem] Oper.semAt_some
def dpt : Nat → List Se → Nat → Nat
  | 0, _, _ => 0
  | _ + 1, _, 0 => 0
  | f + 1, ks, n + 1 => max (dpt (f + 1) ks n) (1 + dpt f (sth ks n).kids (sth ks n).kids.length)
def top : List (Way × Se) → Nat
  | [] => 0
  | x :: l => max x.1.length (top l)
theorem top_app : ∀ (l m : List (Way × Se)), top (l ++ m) = max (top l) (top m)
  | [], m => by simp [top]
  | x :: l, m => by rw [List.cons_append, top, top, top_app l m]; omega
theorem top_pre : ∀ (f : Nat) (ah : Way) (ks : List Se) (n : Nat), FitS f ks → n ≤ ks.length → top (preTo f ah ks n) = if n = 0 then 0 else ah.length + dpt f ks n
  | 0, ah, ks, n, hf, hn => by
    have e : ks = [] := hf
    subst e
    have : n = 0 := by simpa using hn
    subst this
    simp [preTo, top]
  | f + 1, ah, ks, 0, hf, hn => by simp [preTo, top]
  | f + 1, ah, ks, n + 1, hf, hn => by
    have h1 := top_pre (f + 1) ah ks n hf (by omega)
    have h2 := top_pre f (ah ++ [keyS (sth ks n)]) (sth ks n).kids _ (hf n (by omega)) (Nat.le_refl _)
    rw [preTo_succ, top_app, top, h1, h2, dpt, if_neg (by omega : ¬ n + 1 = 0)]
    simp only [List.length_append, List.length_singleton]
    by_cases hn0 : n = 0
    · subst hn0
      rw [if_pos rfl]
      have e0 : dpt (f + 1) ks 0 = 0 := by simp [dpt]
      rw [e0]
      by_cases hk : (sth ks 0).kids.length = 0
      · rw [if_pos hk, hk]
        have e1 : dpt f (sth ks 0).kids 0 = 0 := by cases f <;> simp [dpt]
        rw [e1]; omega
      · rw [if_neg hk]; omega
    · rw [if_neg hn0]
      by_cases hk : (sth ks n).kids.length = 0
      · rw [if_pos hk, hk]
        have e1 : dpt f (sth ks n).kids 0 = 0 := by cases f <;> simp [dpt]
        rw [e1]; omega
      · rw [if_neg hk]; omega
def askDep (f : Nat) (ks : List Se) : Nat := if askOk f ks = true then dpt f ks ks.length else 0
end Go.Proofs.YtokmgbidmnanpaaGreatDoor
