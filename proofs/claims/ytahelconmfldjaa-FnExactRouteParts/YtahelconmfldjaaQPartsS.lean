/-
  The model's RouteParts.
-/
import Derived.Test.YtahelconmfldjaaQPartsA
namespace Go.Proofs.Ytahelconmfldjaa
set_option linter.unusedSimpArgs false
set_option linter.unusedVariables false
open Go.RowKit Go.Maps

set_option maxRecDepth 20000 in
set_option maxHeartbeats 800000 in
theorem specParts_any (ss : List St) (w : World) (B : Nat) (a : Option Addr) (c : Nat) (hK : StReps w (· < B) ss a) (hB : B ≤ w.heap.size) (hl : ss.length ≤ 1048576) :
    Calls Try.prog 11 #[.slice a ss.length c] w fun e w' => IntsNew w w' (rp ss ss.length) e := by
  obtain ⟨h3, C, hA, hr⟩ := hK
  obtain ⟨i0, hi, hz0, hz1, hz2⟩ := info_parts info3
  have hw0 : (w.alloc (.cells #[] 3)).ownsRow w.heap.size 3 1 (.slice (some ⟨w.heap.size, 0, none⟩) 0 0) 0 [] := ⟨rfl, .inr ⟨_, 0, #[], rfl, Nat.le_refl _, heap_alloc_new _ _, Nat.le_refl _, by simp, rfl, rfl⟩⟩
  go_enter Try.func11, Try.ntmps11
  go_wp2_with fail
  go_loopw [3, 4] (fun d i wr => ∃ (k g cap : Nat), k ≤ ss.length ∧ i = .int .i64 k ∧ d = .slice (some ⟨g, 0, none⟩) (rp ss k).length cap ∧ (rp ss k).length ≤ cap ∧ wr.ownsRow w.heap.size 3 1 d (rp ss k).length ((rp ss k).map (Value.int .i64)) ∧ w.heap.size ≤ g ∧ g < wr.heap.size ∧ Below w.heap.size w wr) (fun _ i _ => ss.length - (intOf i).toNat)
  case atStart => exact ⟨0, w.heap.size, 0, Nat.zero_le _, rfl, rfl, Nat.le_refl _, hw0, Nat.le_refl _, by simp, below_box _ _⟩
  case round =>
    obtain ⟨k, g, cap, hk, rfl, rfl, hcap, hown, hg1, hg2, hbel⟩ := hrel
    obtain ⟨w0, rfl⟩ : ∃ x, x = wr := ⟨wr, rfl⟩
    have hrl := rp_len ss k
    have HR : Hid (rp ss (k + 1) = ins (rp ss k) (pth ss k).part) := rfl
    have z0 := hbel.size
    have hcl : ∀ i, i < (rp ss k).length → w0.cell? ⟨g, i, none⟩ = some (.int .i64 (ith (rp ss k) i)) := fun i hi => by
      have := hown.cellAt i (by omega)
      rw [this, List.getElem?_map]
      simp [ith, List.getD_eq_getElem?_getD, hi]
    have HO : Hid (w0.ownsRow w.heap.size 3 1 (.slice (some ⟨g, 0, none⟩) (rp ss k).length cap) (rp ss k).length ((rp ss k).map (Value.int .i64))) := hown
    clear hown
    by_cases hlt : k < ss.length
    · obtain ⟨b, off, rfl, hbB, hc⟩ := hA (by omega)
      have hki : (k : Int) < (ss.length : Int) := by omega
      have hc0 : w0.cell? ⟨b, off + k * 6, none⟩ = some (C k 0) := (hbel.cell (p := ⟨b, off + k * 6, none⟩) (by show b < _; omega)).trans (hc k hlt 0 (by omega))
      obtain ⟨wa, sa, aa, ba, wc, sc, ac, bc, e0, -, -, -, -, -, hI, hac⟩ := (hr k hlt).pieces
      rw [e0] at hc0
      clear hc hI e0 hA hr
      obtain ⟨L, hLe⟩ : ∃ L, L = rp ss k := ⟨_, rfl⟩
      obtain ⟨p, hpe⟩ : ∃ p, p = (pth ss k).part := ⟨_, rfl⟩
      rw [← hLe] at hrl HR hcl HO hcap ⊢
      rw [← hpe] at HR hc0
      clear hLe hpe
      have HCL : Hid (∀ i, i < L.length → w0.cell? ⟨g, i, none⟩ = some (.int .i64 (ith L i))) := hcl
      clear hcl
      go_wp2_with fail
      go_loopw [5] (fun j wx => ∃ q m : Nat, q ≤ L.length ∧ j = .int .i64 q ∧ wx = w0.drewN m ∧ ∀ i, i < q → ith L i < p) (fun j _ => L.length - (intOf j).toNat)
      case atStart => exact ⟨0, 0, Nat.zero_le _, rfl, rfl, fun i hi => by omega⟩
      case round =>
        obtain ⟨q, m, hq, rfl, rfl, hlo⟩ := hrel
        have HLO : Hid (∀ i, i < q → ith L i < p) := hlo
        clear hlo
        by_cases hlq : q < L.length
        · have hqi : (q : Int) < (L.length : Int) := by omega
          have hcq := HCL.out q hlq
          obtain ⟨x, hxe⟩ : ∃ x, x = ith L q := ⟨_, rfl⟩
          rw [← hxe] at hcq
          have HXE : Hid (x = ith L q) := hxe
          clear hxe
          by_cases hxp : x < p
          · go_wp2_with fail
            go_region
            go_wp2_with fail
            · go_roundw
              case rel => exact ⟨q + 1, m + 1, by omega, by go_num, rfl, fun i hi => by
                by_cases e : i = q
                · rw [e, ← HXE.out]; exact hxp
                · exact HLO.out i (by omega)⟩
              case measure => simp [intOf]; omega
          · have HQ : Hid (q = pos L p) := pos_of HLO.out hq (fun _ => by rw [← HXE.out]; exact hxp)
            by_cases hxe : x = p
            · have HR2 : Hid (rp ss (k + 1) = L) := by show _ = _; rw [HR.out]; exact ins_old L p (by rw [← HQ.out]; exact hlq) (by rw [← HQ.out, ← HXE.out]; exact hxe)
              go_wp2_with fail
              go_region
              go_wp2_with fail
              have hqn : ¬ (q : Int) = (L.length : Int) := by omega
              have hqn2 : ¬ q = L.length := by omega
              have hqn3 : (q == L.length) = false := by simp; omega
              have hqn4 : ((q : Int) == (L.length : Int)) = false := by simp; omega
              go_region
              go_wp2_with fail
              go_roundw
              case rel => exact ⟨k + 1, g, cap, by omega, by go_num, by rw [HR2.out], by rw [HR2.out]; exact hcap, by rw [HR2.out]; exact owns_drew HO.out _, hg1, by simpa using hg2, below_drews hbel _⟩
              case measure => simp [intOf]; omega
            · go_wp2_with fail
              go_region
              go_wp2_with fail
              have hqn : ¬ (q : Int) = (L.length : Int) := by omega
              have hqn2 : ¬ q = L.length := by omega
              have hqn3 : (q == L.length) = false := by simp; omega
              have hqn4 : ((q : Int) == (L.length : Int)) = false := by simp; omega
              go_region
              go_wp2_with fail
              have HN : Hid (rp ss (k + 1) = [] ++ L.take q ++ [p] ++ L.drop q) := by
                show _ = _
                rw [HR.out, HQ.out, List.nil_append]
                exact ins_new L p (.inr (by rw [← HQ.out, ← HXE.out]; exact hxe))
              have HNL : Hid ((rp ss (k + 1)).length = L.length + 1) := by
                show _ = _
                rw [HN.out]; simp; omega
              have hqc : q ≤ cap := by omega
              have hql : q ≤ L.length := by omega
              have hqk : ¬ cap = q := by omega
              have HG : Hid (∀ W, Below w0.heap.size w0 W → (∀ i, i < L.length → W.cell? ⟨g, i, none⟩ = some (.int .i64 (ith L i))) ∧ W.cell? ⟨b, off + k * 6, none⟩ = some (.int .i64 p)) := fun W hb => ⟨fun i hi => (hb.cell (p := ⟨g, i, none⟩) hg2).trans (HCL.out i hi), (hb.cell (p := ⟨b, off + k * 6, none⟩) (by show b < _; omega)).trans hc0⟩
              have cA : ((w0.drewN (m + 1 + 1 + 1)).alloc (Obj.cells #[] 3)).cell? ⟨b, off + k * 6, none⟩ = some (.int .i64 p) := (HG.out _ (by repeat (first | exact Below.refl _ _ | (refine below_drews ?_ _) | (refine Below.drew ?_) | (refine Below.alloc ?_ (by simp) _)))).2
              go_region_law (first
                | (
                  refine step_app (W0 := w0) rfl (.tmp 47) (.tmp 50) rfl (by repeat (first | exact Below.refl _ _ | (refine below_drews ?_ _) | (refine Below.drew ?_) | (refine Below.alloc ?_ (by simp) _))) _ 0 0 [] rfl (own_empty (by first | exact heap_at (by simp) | exact heap_under (heap_at (by simp))) (by simp)) ⟨g, 0, none⟩ q cap (L.take q) rfl (by simp; try omega) (news_take hql (HG.out _ (by repeat (first | exact Below.refl _ _ | (refine below_drews ?_ _) | (refine Below.drew ?_) | (refine Below.alloc ?_ (by simp) _)))).1) q (by omega) (by omega) ?_
                  intro g1 cap1 w5 hown5 b5 hz5 hk5
                  have c5 := (HG.out w5 b5).2
                  have HO5 := hid_of hown5
                  have HZ5 := hid_of hz5
                  have HK5 := hid_of hk5
                  clear hown5 hz5 hk5)
                | (
                  refine step_app (W0 := w0) rfl (.tmp 51) (.tmp 57) rfl (by first | exact b5 | exact b5.alloc b5.size _) g1 q cap1 ([] ++ L.take q) rfl (by first | exact HO5.out | exact HO5.out.alloc _) _ 1 1 [p] rfl rfl (news_one (by first | exact heap_alloc_new _ _ | exact Eq.trans (HK5.out (w0.heap.size + 1) (by simp; try omega) (by simp; try omega)) (heap_at (by simp)) | exact Eq.trans (HK5.out w0.heap.size (by simp; try omega) (by simp; try omega)) (heap_under (heap_at (by simp))))) (q + 1) rfl (by omega) ?_
                  intro g2 cap2 w6 hown6 b6 hz6 hk6
                  have HO6 := hid_of hown6
                  have HZ6 := hid_of hz6
                  clear hown6 hz6 hk6)
                | (
                  refine step_app (W0 := w0) rfl (.tmp 58) (.tmp 61) rfl b6 g2 (q + 1) cap2 ([] ++ L.take q ++ [p]) rfl HO6.out ⟨g, q, none⟩ (L.length - q) (cap - q) (L.drop q) rfl (by simp) (news_drop (HG.out w6 b6).1) (L.length + 1) (by omega) (by omega) ?_
                  intro g3 cap3 w7 hown7 b7 hz7 hk7
                  have HO7 := hid_of hown7
                  have HZ7 := hid_of hz7
                  clear hown7 hz7 hk7))
              all_goals
                go_wp2_with fail
                go_roundw
                case rel => exact ⟨k + 1, g3, cap3, by omega, by go_num, by rw [HNL.out], by rw [HNL.out]; exact HZ7.out.2.2.1, by rw [HNL.out, HN.out]; exact owns_base HO7.out z0, Nat.le_trans z0 HZ7.out.1, HZ7.out.2.1, hbel.trans (b7.mono z0)⟩
                case measure => simp [intOf]; omega
        · have e : q = L.length := by omega
          subst e
          have HQ : Hid (L.length = pos L p) := pos_of HLO.out (Nat.le_refl _) (fun h => by omega)
          have HN : Hid (rp ss (k + 1) = [] ++ L.take L.length ++ [p] ++ []) := by
            show _ = _
            rw [HR.out, ins_new L p (.inl HQ.out.symm), ← HQ.out]; simp
          have HNL : Hid ((rp ss (k + 1)).length = L.length + 1) := by
            show _ = _
            rw [HN.out]; simp
          have hql : L.length ≤ L.length := Nat.le_refl _
          have HG : Hid (∀ W, Below w0.heap.size w0 W → (∀ i, i < L.length → W.cell? ⟨g, i, none⟩ = some (.int .i64 (ith L i))) ∧ W.cell? ⟨b, off + k * 6, none⟩ = some (.int .i64 p)) := fun W hb => ⟨fun i hi => (hb.cell (p := ⟨g, i, none⟩) hg2).trans (HCL.out i hi), (hb.cell (p := ⟨b, off + k * 6, none⟩) (by show b < _; omega)).trans hc0⟩
          have cA : ((w0.drewN (m + 1 + 1 + 1)).alloc (Obj.cells #[] 3)).cell? ⟨b, off + k * 6, none⟩ = some (.int .i64 p) := (HG.out _ (by repeat (first | exact Below.refl _ _ | (refine below_drews ?_ _) | (refine Below.drew ?_) | (refine Below.alloc ?_ (by simp) _)))).2
          by_cases hce : cap = L.length
          · subst hce
            go_wp2_with fail
            go_region
            go_wp2_with fail
            go_region
            go_wp2_with fail
            go_region_law (first
              | (
                refine step_app (W0 := w0) rfl (.tmp 47) (.tmp 50) rfl (by repeat (first | exact Below.refl _ _ | (refine below_drews ?_ _) | (refine Below.drew ?_) | (refine Below.alloc ?_ (by simp) _))) _ 0 0 [] rfl (own_empty (by first | exact heap_at (by simp) | exact heap_under (heap_at (by simp))) (by simp)) ⟨g, 0, none⟩ L.length L.length (L.take L.length) rfl (by simp; try omega) (news_take hql (HG.out _ (by repeat (first | exact Below.refl _ _ | (refine below_drews ?_ _) | (refine Below.drew ?_) | (refine Below.alloc ?_ (by simp) _)))).1) L.length (by omega) (by omega) ?_
                intro g1 cap1 w5 hown5 b5 hz5 hk5
                have c5 := (HG.out w5 b5).2
                have HO5 := hid_of hown5
                have HZ5 := hid_of hz5
                have HK5 := hid_of hk5
                clear hown5 hz5 hk5)
              | (
                refine step_app (W0 := w0) rfl (.tmp 51) (.tmp 57) rfl (by first | exact b5 | exact b5.alloc b5.size _) g1 L.length cap1 ([] ++ L.take L.length) rfl (by first | exact HO5.out | exact HO5.out.alloc _) _ 1 1 [p] rfl rfl (news_one (by first | exact heap_alloc_new _ _ | exact Eq.trans (HK5.out (w0.heap.size + 1) (by simp; try omega) (by simp; try omega)) (heap_at (by simp)) | exact Eq.trans (HK5.out w0.heap.size (by simp; try omega) (by simp; try omega)) (heap_under (heap_at (by simp))))) (L.length + 1) rfl (by omega) ?_
                intro g2 cap2 w6 hown6 b6 hz6 hk6
                have HO6 := hid_of hown6
                have HZ6 := hid_of hz6
                clear hown6 hz6 hk6)
              | (
                refine step_app (W0 := w0) rfl (.tmp 58) (.tmp 61) rfl b6 g2 (L.length + 1) cap2 ([] ++ L.take L.length ++ [p]) rfl HO6.out _ _ _ [] rfl (by simp) (by intro j u h; simp at h) (L.length + 1) (by omega) (by omega) ?_
                intro g3 cap3 w7 hown7 b7 hz7 hk7
                have HO7 := hid_of hown7
                have HZ7 := hid_of hz7
                clear hown7 hz7 hk7))
            all_goals
              go_wp2_with fail
              go_roundw
              case rel => exact ⟨k + 1, g3, cap3, by omega, by go_num, by rw [HNL.out], by rw [HNL.out]; exact HZ7.out.2.2.1, by rw [HNL.out, HN.out]; exact owns_base HO7.out z0, Nat.le_trans z0 HZ7.out.1, HZ7.out.2.1, hbel.trans (b7.mono z0)⟩
              case measure => simp [intOf]; omega
          · go_wp2_with fail
            go_region
            go_wp2_with fail
            go_region
            go_wp2_with fail
            go_region_law (first
              | (
                refine step_app (W0 := w0) rfl (.tmp 47) (.tmp 50) rfl (by repeat (first | exact Below.refl _ _ | (refine below_drews ?_ _) | (refine Below.drew ?_) | (refine Below.alloc ?_ (by simp) _))) _ 0 0 [] rfl (own_empty (by first | exact heap_at (by simp) | exact heap_under (heap_at (by simp))) (by simp)) ⟨g, 0, none⟩ L.length cap (L.take L.length) rfl (by simp; try omega) (news_take hql (HG.out _ (by repeat (first | exact Below.refl _ _ | (refine below_drews ?_ _) | (refine Below.drew ?_) | (refine Below.alloc ?_ (by simp) _)))).1) L.length (by omega) (by omega) ?_
                intro g1 cap1 w5 hown5 b5 hz5 hk5
                have c5 := (HG.out w5 b5).2
                have HO5 := hid_of hown5
                have HZ5 := hid_of hz5
                have HK5 := hid_of hk5
                clear hown5 hz5 hk5)
              | (
                refine step_app (W0 := w0) rfl (.tmp 51) (.tmp 57) rfl (by first | exact b5 | exact b5.alloc b5.size _) g1 L.length cap1 ([] ++ L.take L.length) rfl (by first | exact HO5.out | exact HO5.out.alloc _) _ 1 1 [p] rfl rfl (news_one (by first | exact heap_alloc_new _ _ | exact Eq.trans (HK5.out (w0.heap.size + 1) (by simp; try omega) (by simp; try omega)) (heap_at (by simp)) | exact Eq.trans (HK5.out w0.heap.size (by simp; try omega) (by simp; try omega)) (heap_under (heap_at (by simp))))) (L.length + 1) rfl (by omega) ?_
                intro g2 cap2 w6 hown6 b6 hz6 hk6
                have HO6 := hid_of hown6
                have HZ6 := hid_of hz6
                clear hown6 hz6 hk6)
              | (
                refine step_app (W0 := w0) rfl (.tmp 58) (.tmp 61) rfl b6 g2 (L.length + 1) cap2 ([] ++ L.take L.length ++ [p]) rfl HO6.out _ _ _ [] rfl (by simp) (by intro j u h; simp at h) (L.length + 1) (by omega) (by omega) ?_
                intro g3 cap3 w7 hown7 b7 hz7 hk7
                have HO7 := hid_of hown7
                have HZ7 := hid_of hz7
                clear hown7 hz7 hk7))
            all_goals
              go_wp2_with fail
              go_roundw
              case rel => exact ⟨k + 1, g3, cap3, by omega, by go_num, by rw [HNL.out], by rw [HNL.out]; exact HZ7.out.2.2.1, by rw [HNL.out, HN.out]; exact owns_base HO7.out z0, Nat.le_trans z0 HZ7.out.1, HZ7.out.2.1, hbel.trans (b7.mono z0)⟩
              case measure => simp [intOf]; omega
    · go_wp2_with fail
      go_ret
      have e : k = ss.length := by omega
      subst e
      have hS := ints_owned (base := w.heap.size) HO.out (by omega) hg2
      exact ⟨some ⟨g, 0, none⟩, cap, rfl, hbel, hS.1, hS.2⟩
end Go.Proofs.Ytahelconmfldjaa
