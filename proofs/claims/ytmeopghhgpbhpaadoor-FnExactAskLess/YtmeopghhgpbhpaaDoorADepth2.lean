/-
  The program's AskDepth.
-/
import Derived.Test.YtmeopghhgpbhpaaDoorADepth
namespace Go.Proofs.YtmeopghhgpbhpaaDoor
set_option linter.unusedSimpArgs false
set_option linter.unusedVariables false
open Go.RowKit Go.Shelf Go.Maps
attribute [local go_sem] Oper.semAt_some

set_option maxRecDepth 20000 in
set_option maxHeartbeats 3200000 in
theorem AskDepthI_any (f : Nat) (ks : List Se) (P : Nat → Prop) (B : Nat) (ka : Option Addr) (kc : Nat) (w : World) (h : AskIn f ks P B ka w) :
    Calls Tryd.prog 17 #[.slice ka ks.length kc] w fun e w' => e = .returned (.int .i64 (askDep f ks)) ∧ Below w.heap.size w w' := by
  have HO := hid_of (AskOkI_any f ks P B ka kc w h)
  cases ho : askOk f ks
  · rw [ho] at HO
    have HE : Hid (askDep f ks = 0) := hid_of (by rw [askDep, ho]; rfl)
    refine (callsIn_wide (n := 3)).1 ?_
    refine callsIn_of_wp_marks Tryd.func17 rfl trivial ?_ rfl
    simp only [Tryd.ntmps17, List.size_toArray, List.length_cons, List.length_nil, Nat.reduceAdd, Nat.reduceSub, Array.replicate_succ, Array.replicate_zero, List.push_toArray, List.append_toArray, List.nil_append, List.cons_append]
    gi_wp2_with (refine ⟨trivial, ?_⟩; gi_at_call 12; refine (callsIn_wide.2 HO.out).mono ?_; rintro e w1 ⟨rfl, hb1⟩)
    refine ⟨_, results_tmp rfl _ _ _, ?_, hb1⟩
    exact ret_int (by rw [HE.out]; rfl)
  rw [ho] at HO
  have HE : Hid (askDep f ks = dpt f ks ks.length) := hid_of (by rw [askDep, ho]; rfl)
  have hq : askB f ks = true := by
    simp only [askOk, Bool.and_eq_true] at ho
    exact ho.1
  have h0 : 0 < ks.length := by
    cases ks with
    | nil => simp [askB] at hq
    | cons a l => simp
  obtain ⟨XS, hXS⟩ : ∃ XS, XS = preTo f [] ks ks.length := ⟨_, rfl⟩
  have HTop : Hid (top XS = askDep f ks) := hid_of (by rw [HE.out, hXS, top_pre f [] ks _ h.fit (Nat.le_refl _), if_neg (by omega)]; simp)
  have HXS := hid_of hXS
  clear hXS hq ho HE
  refine (callsIn_wide (n := 3)).1 ?_
  refine callsIn_of_wp_marks Tryd.func17 rfl trivial ?_ rfl
  simp only [Tryd.ntmps17, List.size_toArray, List.length_cons, List.length_nil, Nat.reduceAdd, Nat.reduceSub, Array.replicate_succ, Array.replicate_zero, List.push_toArray, List.append_toArray, List.nil_append, List.cons_append]
  gi_wp2_with (first
    | (refine ⟨trivial, ?_⟩; gi_at_call 12; refine (callsIn_wide.2 HO.out).mono ?_; rintro e w1 ⟨rfl, hb1⟩)
    | (refine ⟨trivial, ?_⟩; gi_at_call 37; refine (callsIn_wide.2 (selsOf_any _ ka ks.length kc)).mono ?_; rintro e w' ⟨rfl, rfl⟩))
  have h1 := h.on hb1
  clear HO
  obtain ⟨Y, hY⟩ : ∃ Y, Y = (w1.alloc (.cells #[.int .i64 0] 3)).alloc (.cells #[.slice ka ks.length kc] 25) := ⟨_, rfl⟩
  have zY : Y.heap.size = w1.heap.size + 1 + 1 := by rw [hY]; simp
  have bY : Below w1.heap.size w1 Y := by rw [hY]; exact below_box2 _ _ _
  have rY : Y.heap[w1.heap.size]? = some (.cells #[.int .i64 0] 3 (0, 0)) := by
    rw [hY, (below_box _ _).block _ (by simp)]
    exact block_new _ _ rfl
  have sY : Y.heap[w1.heap.size + 1]? = some (.cells #[.slice ka ks.length kc] 25 (0, 0)) := by
    rw [hY]
    exact block_new _ _ (by simp)
  rw [← hY]
  clear hY
  refine range_stop (w := Y) rfl (by omega) (gf := 54) (lb := #[.pointer (some ⟨w1.heap.size + 1, 0, none⟩)]) rfl trivial (enters_of Tryd.func54 (by kernel_rfl) rfl)
    XS (fun pre x ar A => ArgT x ar A ∧ pre ++ [x] <+: XS) ?ps (fun pre O A => A.heap[w1.heap.size]? = some (.cells #[.int .i64 (top pre)] 3 (0, 0)) ∧ Below w1.heap.size w1 A ∧ top pre ≤ maxLen ∧ (∀ b, O b ↔ b = w1.heap.size)) ?still ?grows ?lt (fun _ => False) ?xstill
    (fun b => b = w1.heap.size) ?start ?seq
    (fun pre x ar a' A => ∃ (wa : Option Addr) (wc : Nat) (sv : Value), x.1.length ≤ maxLen ∧ a' = { tmps := #[.slice ka ks.length kc, undef, .int .i64 0, .pointer (some ⟨w1.heap.size, 0, none⟩), .slice wa x.1.length wc, .slice ka ks.length kc, .bool true, .bool false, .slice ka ks.length kc, .func (.func 54) #[] #[.pointer (some ⟨w1.heap.size + 1, 0, none⟩)], .slice wa x.1.length wc, sv, undef, undef, undef, undef, undef], defers := [] }) ?astill ?assign ?body ?done ?stop
  case ps =>
    rintro pre x ar A ⟨⟨wa, wc, sa, sc, rfl, -⟩, -⟩
    rfl
  case still =>
    rintro pre O A l o o' ⟨h1, h2, h3, h4⟩ hl ho1 ho2
    exact ⟨still_cells ho1 ho2 h1, h2.trans (below_putObj _ _ (by omega)), h3, h4⟩
  case grows =>
    rintro pre O A A' ⟨h1, h2, h3, h4⟩ hb
    exact ⟨(hb.block _ (Array.getElem?_eq_some_iff.1 h1).1).trans h1, h2.trans (hb.mono h2.size), h3, h4⟩
  case lt =>
    rintro pre O A ⟨h1, h2, h3, h4⟩ b hb
    rw [(h4 b).1 hb]
    exact (Array.getElem?_eq_some_iff.1 h1).1
  case xstill => exact fun A l o o' h => h.elim
  case start => exact ⟨rY, bY, Nat.zero_le _, fun b => Iff.rfl⟩
  case seq =>
    intro l J Jx W hb hJg hJO hy h0
    have hbW := bY.trans (hb.mono (by omega))
    have := selsOf1_any f ks l J Jx w1.heap.size hJg hJO (fun n pre O x ar A hJ hp hA => yieldAt_wide (hy pre O x ar A hJ ⟨hA, by rw [HXS.out]; exact hp⟩)) (3 - 1) _ W ka kc (w1.heap.size + 1) h1.fit h1.small ((h1.on hbW).rep.sub fun b hb => by have := (h1.apart b hb).1; have := h1.le; omega) hbW.size h1.few h0 (by rintro b rfl; omega) ((hb.cell (p := ⟨w1.heap.size + 1, 0, none⟩) (by show w1.heap.size + 1 < _; omega)).trans (box_at sY 0 (by simp)).1)
    rw [← HXS.out] at this
    exact this
  case astill => exact fun pre x ar a' A l o o' h _ _ _ => h
  case assign =>
    rintro l pre x ar A K ⟨⟨wa, wc, sa, sc, rfl, h3, h4, h5, h6, h7, h8⟩, hp⟩ hK
    have HK := hid_of hK
    clear hK
    gi_wp2
    exact HK.out _ _ (Below.refl _ _) ⟨wa, wc, _, h4.2.2, rfl⟩
  case body =>
    rintro l pre O x ar a' A ⟨g1, g2, g3, g4⟩ ⟨wa, wc, sv, hxl, rfl⟩
    have zY2 : w1.heap.size ≤ Y.heap.size := by omega
    clear zY
    have c0 := (box_at g1 0 (by simp)).1
    have c0f := (box_at g1 0 (by simp)).2
    simp only [List.getElem_toArray, List.getElem_cons_zero] at c0
    unfold maxLen at g3 hxl
    obtain ⟨v, hv⟩ : ∃ v : Nat, v = max (top pre) x.1.length := ⟨_, rfl⟩
    have hvi : (v : Int) = max (top pre : Int) (x.1.length : Int) := by omega
    have hfin : KeepsFrom Y.heap.size A (A.setCell ⟨w1.heap.size, 0, none⟩ (.int .i64 v)) ∧ ∃ O' : Nat → Prop, (A.setCell ⟨w1.heap.size, 0, none⟩ (.int .i64 v)).heap[w1.heap.size]? = some (.cells #[.int .i64 (top (pre ++ [x]))] 3 (0, 0)) ∧ Below w1.heap.size w1 (A.setCell ⟨w1.heap.size, 0, none⟩ (.int .i64 v)) ∧ top (pre ++ [x]) ≤ maxLen ∧ (∀ b, O' b ↔ b = w1.heap.size) := by
      have ht : top (pre ++ [x]) = v := by rw [top_app, hv]; simp [top]
      refine ⟨(KeepsOthers.setCell _ _ _).from _, O, ?_, g2.setCell (p := ⟨w1.heap.size, 0, none⟩) (Nat.le_refl _) _, ?_, g4⟩
      · rw [set_box g1, ht]; rfl
      · rw [ht, hv]; unfold maxLen; omega
    have hkp : KeepO O A (A.setCell ⟨w1.heap.size, 0, none⟩ (.int .i64 v)) := ⟨by simp, fun b o hO hc _ => (Below.heap_setCell _ _ _ _ (fun e => hO ((g4 b).2 e))).trans hc⟩
    rw [hvi] at hfin hkp
    have HF := hid_of (And.intro hfin hkp)
    have HG := hid_of g4
    clear hfin hkp hvi hv g4
    gi_wp2
    obtain ⟨⟨k1, O', k2, k3, k4, k5⟩, k6⟩ := HF.out
    exact ⟨k1, Or.inl ⟨rfl, O', ⟨k2, k3, k4, k5⟩, k6, fun b hb => Or.inl ((HG.out b).2 ((k5 b).1 hb))⟩⟩
  case done =>
    rintro D O W hD ⟨g1, g2, g3, g4⟩ hK
    have c0 := (box_at g1 0 (by simp)).1
    simp only [List.getElem_toArray, List.getElem_cons_zero] at c0
    gi_wp2
    refine ⟨by simp, .inl ⟨_, _, rfl, run_takeDeferred hK, ?_⟩⟩
    refine ⟨_, results_tmp rfl _ _ _, ?_, hb1.trans ((g2.mono hb1.size).trans (below_putObj _ _ (by have := hb1.size; omega)))⟩
    exact ret_int (by rw [HTop.out])
  case stop => exact fun D W _ h _ => h.elim
end Go.Proofs.YtmeopghhgpbhpaaDoor
