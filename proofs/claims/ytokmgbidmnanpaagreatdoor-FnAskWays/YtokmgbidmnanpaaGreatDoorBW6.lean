import Derived.Test.YtokmgbidmnanpaaGreatDoorBW5
import Derived.Test.YtokmgbidmnanpaaGreatDoorBW1
import Derived.Test.YtokmgbidmnanpaaGreatDoorB32
set_option linter.unusedSimpArgs false
set_option linter.unusedVariables false
namespace Go.Proofs.YtokmgbidmnanpaaGreatDoor
open Go.RowKit Go.Shelf Go.Maps
theorem cutL_len : ∀ l : List UInt8, (cutL l).length ≤ l.length + 1
  | [] => by simp [cutL]
  | c :: l => by
    have ih := cutL_len l
    unfold cutL
    split
    · simpa using ih
    · split
      · simp
      · rename_i h t e
        rw [e] at ih
        simp at ih ⊢
        omega
theorem lessM_fit : ∀ (f : Nat) (wy : List (List UInt8)) (ks : List Se) (n : Nat), n ≤ ks.length → FitS f ks → FitS f (lessM f wy ks n)
  | 0, wy, ks, n, hn, hf => by simp [lessM, FitS]
  | f + 1, wy, ks, 0, hn, hf => by simp [lessM, FitS]
  | f + 1, wy, ks, n + 1, hn, hf => by
    have h1 := fit_mem.1 (lessM_fit (f + 1) wy ks n (by omega) hf)
    have h2 := lessM_fit f wy.tail (sth ks n).kids _ (Nat.le_refl _) (hf n (by omega))
    rw [lessM_succ, fit_mem]
    intro x hx
    rcases List.mem_append.1 hx with hx | hx
    · exact h1 x hx
    · unfold oneM at hx
      split at hx
      · split at hx
        · cases hx
        · split at hx
          · rw [List.mem_singleton.1 hx]; exact h2
          · cases hx
      · rw [List.mem_singleton.1 hx]; exact hf n (by omega)
theorem lessM_cnt : ∀ (f : Nat) (wy : List (List UInt8)) (ks : List Se) (n : Nat), ((lessM f wy ks n).map (cntSe f)).sum ≤ cntTo f ks n
  | 0, wy, ks, n => by simp [lessM]
  | f + 1, wy, ks, 0 => by simp [lessM]
  | f + 1, wy, ks, n + 1 => by
    have h1 := lessM_cnt (f + 1) wy ks n
    have h2 := lessM_cnt f wy.tail (sth ks n).kids (sth ks n).kids.length
    rw [lessM_succ, cntTo_succ, List.map_append, List.sum_append]
    have h3 : ((oneM wy (sth ks n) (lessM f wy.tail (sth ks n).kids (sth ks n).kids.length)).map (cntSe (f + 1))).sum ≤ cntSe (f + 1) (sth ks n) := by
      unfold oneM
      split
      · split
        · simp
        · split
          · simp only [List.map_cons, List.map_nil, List.sum_cons, List.sum_nil]
            rw [cntSe_kids, cntSe_kids, cnt_list]
            simp only [Se.sub]
            omega
          · simp
      · simp
    omega
theorem NewS.nil (w w1 : World) (h : Below w.heap.size w w1) (c : Nat) (a : Option Addr) : NewS 0 w [] (.returned (.slice a 0 c)) w1 := ⟨a, c, rfl, ⟨by simp, fun _ _ => .bool false, fun hn => by simp at hn, fun i hi => by simp at hi⟩, h⟩
set_option maxHeartbeats 800000 in
theorem AskLessS_any (f : Nat) (ks : List Se) (wy : ByteArray) (w : World) (B : Nat) (ka : Option Addr) (kc : Nat) (hf : FitS f ks) (hwy : wy.size ≤ 1048576) (hR : SeReps w (· < B) ks ka) (hB : B ≤ w.heap.size) :
    Calls Tryz.prog 23 #[.slice ka ks.length kc, .string wy] w fun e w' => NewS 0 w (askLess f ks wy.toList) e w' := by
  have HO := hid_of (AskOkS_any f ks w B ka kc hf hR hB)
  cases ho : askOk f ks
  · rw [ho] at HO
    have HE : Hid (askLess f ks wy.toList = []) := hid_of (by rw [askLess, ho]; rfl)
    go_enter Tryz.func23, Tryz.ntmps23
    go_wp2_with fail
    refine HO.out.mono ?_
    rintro e w1 ⟨rfl, hb1⟩
    go_wp2_with fail
    go_ret
    rw [HE.out]
    exact NewS.nil w _ (hb1.trans ((below_box w1 _).mono hb1.size)) _ _
  · rw [ho] at HO
    have HE : Hid (askLess f ks wy.toList = lessM f (cutL wy.toList) ks ks.length) := hid_of (by rw [askLess, ho]; rfl)
    have hc : cntTo f ks ks.length ≤ 1000000 := by
      simp only [askOk, askB, Bool.and_eq_true, decide_eq_true_eq] at ho
      omega
    have HC := hid_of (fun W => l2Cut_any wy W hwy)
    have HL := hid_of (fun (t : ByteArray) (ts : List ByteArray) W (g c : Nat) (hW : Below w.heap.size w W) (hA : WayAt W W.heap.size g 0 (t :: ts)) (h1 : ts.length + 1 ≤ 2000000) (h2 : ts.length + 1 ≤ c) => l12Less_any f ks t ts W W.heap.size g 0 c ka kc hf hc ((hR.under (hW.mono hB)).sub fun b hb => by have := hW.size; omega) hA h1 h2 (Nat.le_refl _))
    have HF := hid_of (lessM_fit f (cutL wy.toList) ks _ (Nat.le_refl _) hf)
    have hcl : cntTo f (lessM f (cutL wy.toList) ks ks.length) (lessM f (cutL wy.toList) ks ks.length).length ≤ 1000000 := by
      rw [cnt_list]
      exact Nat.le_trans (lessM_cnt f _ ks _) hc
    have HCL := hid_of hcl
    clear hcl
    have hwl : wy.toList.length = wy.size := by rw [ByteArray.toList_eq]; simp
    have HLN := hid_of (show (cutL wy.toList).length ≤ 1048577 by have := cutL_len wy.toList; omega)
    clear hwl
    go_enter Tryz.func23, Tryz.ntmps23
    go_wp2_with fail
    refine HO.out.mono ?_
    rintro e w1 ⟨rfl, hb1⟩
    go_wp2_with fail
    refine (HC.out w1).mono ?_
    rintro e w2 ⟨ts0, v, rfl, ⟨g, cap, rfl, hr⟩, ht, hb2⟩
    cases hts : ts0 with
    | nil => rw [hts] at ht; exact absurd ht.symm (cutL_ne _)
    | cons t ts =>
      subst hts
      have hb12 := hb1.trans (hb2.mono hb1.size)
      have hln : ts.length + 1 ≤ 2000000 := by
        have := congrArg List.length ht
        have h2 := HLN.out
        rw [← this] at h2
        simp at h2
        omega
      have hgc : g < w2.heap.size ∧ ts.length + 1 ≤ cap := by
        rcases hr.2 with ⟨e, -⟩ | ⟨g', cap', cur, e, -, hh, hn, -⟩
        · cases e
        · simp only [Value.slice.injEq, Option.some.injEq, Addr.mk.injEq, and_true, true_and] at e
          obtain ⟨rfl, rfl⟩ := e
          exact ⟨(Array.getElem?_eq_some_iff.1 hh).1, by simpa using hn⟩
      have hA : WayAt w2 w2.heap.size g 0 (t :: ts) := ⟨hgc.1, fun i hi => by
        rw [Nat.zero_add, hr.cellAt i (by omega), List.getElem?_map]
        simp only [nth, List.getD_eq_getElem?_getD, List.getElem?_eq_getElem hi, Option.getD_some, Option.map_some]⟩
      have HLL := hid_of (HL.out t ts w2 g cap hb12 hA hln hgc.2)
      rw [ht] at HLL
      generalize hKK : lessM f (cutL wy.toList) ks ks.length = K at *
      clear hA hgc hr ht hKK
      rw [show (t :: ts).length = ts.length + 1 from rfl]
      go_wp2_with fail
      refine HLL.out.mono ?_
      rintro e w3 ⟨a3, c3, rfl, hR3, hb3⟩
      have HCP := hid_of (l3Copy_any f K w3 _ a3 c3 HF.out HCL.out hR3 (fun b hb => by have := hb3.size; rcases hb with hb | hb <;> omega))
      clear hR3
      go_wp2_with fail
      refine HCP.out.mono ?_
      rintro e w4 ⟨a4, c4, rfl, hR4, hb4⟩
      have HR4 := hid_of hR4
      clear hR4
      go_wp2_with fail
      go_ret
      have hb13 := hb12.trans (hb3.mono hb12.size)
      refine ⟨a4, c4, by rw [HE.out]; rfl, ?_, hb13.trans (hb4.mono hb13.size)⟩
      rw [HE.out]
      exact HR4.out.sub fun b hq => hq.imp id fun h => ⟨Nat.le_trans hb13.size h.1, h.2⟩
end Go.Proofs.YtokmgbidmnanpaaGreatDoor
namespace Go.Proofs.YtokmgbidmnanpaaGreatDoor
open Go.RowKit Go.Shelf Go.Maps
theorem texts_inj : ∀ {a b : List ByteArray}, a.map ByteArray.toList = b.map ByteArray.toList → a = b
  | [], [], _ => rfl
  | [], x :: l, h => by simp at h
  | x :: l, [], h => by simp at h
  | x :: l, y :: m, h => by
    simp only [List.map_cons, List.cons.injEq] at h
    rw [bytesInj h.1, texts_inj h.2]
theorem own_texts {w : World} {base : Nat} {ts : List ByteArray} {v : Value} (h : w.ownsRow base 9 1 v ts.length (ts.map Value.string)) (hs : ∀ t ∈ ts, t.size ≤ 1048577000) (hl : ts.length ≤ 1000000) :
    ∃ a c, v = .slice a ts.length c ∧ Strs w (fun b => base ≤ b ∧ b < w.heap.size) ts a := by
  have hsz : ∀ i, (nth ts i).size ≤ maxLen := fun i => by
    by_cases hi : i < ts.length
    · simp only [nth, List.getD_eq_getElem?_getD, List.getElem?_eq_getElem hi, Option.getD_some]
      have := hs _ (List.getElem_mem hi)
      unfold maxLen; omega
    · simp only [nth, List.getD_eq_getElem?_getD, List.getElem?_eq_none (by omega : ts.length ≤ i), Option.getD_none]
      unfold maxLen; decide
  rcases h.2 with ⟨rfl, h0⟩ | ⟨g, cap, cur, rfl, hb, hh, r⟩
  · have e : ts = [] := List.length_eq_zero_iff.1 h0
    subst e
    exact ⟨none, 0, rfl, fun h => absurd rfl h, hsz, by unfold maxLen; simp⟩
  · have hlt := (Array.getElem?_eq_some_iff.1 hh).1
    have hc : ∀ i, i < ts.length → w.cell? ⟨g, 0 + i, none⟩ = some (.string (nth ts i)) := fun i hi => by
      have := h.cellAt i (by omega)
      rw [Nat.zero_add, this, List.getElem?_map]
      simp [nth, List.getD_eq_getElem?_getD, hi]
    exact ⟨_, _, rfl, fun _ => ⟨g, 0, rfl, ⟨hb, hlt⟩, hc⟩, hsz, by unfold maxLen; omega⟩
theorem lessM_small : ∀ (f : Nat) (wy : List (List UInt8)) (ks : List Se) (n : Nat), n ≤ ks.length → SmallS f ks → SmallS f (lessM f wy ks n)
  | 0, wy, ks, n, hn, hf => trivial
  | f + 1, wy, ks, 0, hn, hf => by simp [lessM, SmallS]
  | f + 1, wy, ks, n + 1, hn, hf => by
    have h1 := small_mem.1 (lessM_small (f + 1) wy ks n (by omega) hf)
    have hs := hf n (by omega)
    have h2 := lessM_small f wy.tail (sth ks n).kids _ (Nat.le_refl _) hs.2.2
    rw [lessM_succ, small_mem]
    intro x hx
    rcases List.mem_append.1 hx with hx | hx
    · exact h1 x hx
    · unfold oneM at hx
      split at hx
      · split at hx
        · cases hx
        · split at hx
          · rw [List.mem_singleton.1 hx]; exact ⟨hs.1, hs.2.1, h2⟩
          · cases hx
      · rw [List.mem_singleton.1 hx]; exact hs
theorem askLess_fits {f : Nat} {ks : List Se} (wo : List UInt8) (hf : FitS f ks) (hs : SmallS f ks) : FitS f (askLess f ks wo) ∧ SmallS f (askLess f ks wo) := by
  unfold askLess
  split
  · exact ⟨lessM_fit f _ ks _ (Nat.le_refl _) hf, lessM_small f _ ks _ (Nat.le_refl _) hs⟩
  · refine ⟨?_, ?_⟩
    · cases f with
      | zero => rfl
      | succ f => exact fun i hi => by simp at hi
    · cases f with
      | zero => trivial
      | succ f => exact fun i hi => by simp at hi
end Go.Proofs.YtokmgbidmnanpaaGreatDoor
