/-
  What fits, by the program: isFit.
-/
import Derived.Test.YtjpabpkfdahdhaaGreatSFit
import Derived.Deep.RegionWith
namespace Go.Proofs.YtjpabpkfdahdhaaGreat
set_option linter.unusedSimpArgs false
set_option linter.unusedVariables false
open Go.RowKit

set_option maxHeartbeats 1600000 in
theorem isFit_any (f : F) (x : V) (w : World) (B : Nat) (u v : Value) (hF : FRep w (· < B) f u) (hR : Rep w (· < B) x v) (hB : B ≤ w.heap.size) :
    Calls Tryz.prog 40 #[u, v] w fun e w' => e = .returned (.bool (fitI f x)) ∧ Below w.heap.size w w' := by
  have hR' := hR
  have hF' := hF
  obtain ⟨s, n, t, ns, ks⟩ := x
  obtain ⟨na, ka, nc, kc, rfl, -⟩ := hR.inv
  obtain ⟨fa, fc, rfl, -⟩ := hF
  have hbx : ∀ o1 o2, Below w.heap.size w ((w.alloc o1).alloc o2) := below_box2 w
  by_cases h7 : s = 7
  · subst h7
    have HE : Hid (fitI f (.mk 7 n t ns ks) = (n == 0 && t.toList.isEmpty && nokV ns ks.length)) := rfl
    cases hn : (n == 0)
    · go_enter Tryz.func40, Tryz.ntmps40
      go_wp2_with fail
      go_ret
      exact ⟨ret_bool (by rw [HE.out, hn]; rfl), hbx _ _⟩
    · cases ht : t.toList.isEmpty
      · go_enter Tryz.func40, Tryz.ntmps40
        go_wp2_with fail
        go_ret
        exact ⟨ret_bool (by rw [HE.out, hn, ht]; rfl), hbx _ _⟩
      · go_enter Tryz.func40, Tryz.ntmps40
        go_wp2_with (go_at_call 71; refine (hasNoKids_any 7 n t ns na ka nc kc ks.length _).mono ?_; rintro e w1 ⟨rfl, hb1⟩)
        go_ret
        exact ⟨ret_bool (by rw [HE.out, hn, ht]; simp), (hbx _ _).trans (hb1.mono (by simp; omega))⟩
  have g7 : (s == 7) = false := by simpa using h7
  have hJ := fun W (hb : Below w.heap.size w W) => implOk_any (.mk s n t ns ks) W B _ (hR'.under (hb.mono hB)) (by have := hb.size; omega)
  by_cases h1 : s = 1
  · subst h1
    have HE : Hid (fitI f (.mk 1 n t ns ks) = (!f.must && okV (.mk 1 n t ns ks))) := rfl
    cases hm : f.must
    · go_enter Tryz.func40, Tryz.ntmps40
      go_wp2_with (go_at_call 72; refine (hJ _ (hbx _ _)).mono ?_; rintro e w1 ⟨rfl, hb1⟩)
      go_ret
      exact ⟨ret_bool (by rw [HE.out, hm]; simp), (hbx _ _).trans (hb1.mono (by simp; omega))⟩
    · go_enter Tryz.func40, Tryz.ntmps40
      go_wp2_with fail
      go_ret
      exact ⟨ret_bool (by rw [HE.out, hm]; rfl), hbx _ _⟩
  have g1 : (s == 1) = false := by simpa using h1
  cases hl : f.list
  · have HE : Hid (fitI f (.mk s n t ns ks) = (s == sortW f.of && okV (.mk s n t ns ks))) := by show _ = _; unfold fitI; rw [if_neg h7, if_neg h1, if_pos hl]
    have hso : ∀ W, Calls Tryz.prog 73 #[.string f.of] W fun e w' => e = .returned (.int .i64 (sortW f.of)) ∧ w' = W := fun W => (sortOfWord_any f.of W).mono fun _ _ h => ⟨h.1, h.2.symm⟩
    generalize sortW f.of = sw at HE hso
    cases hs : (s == sw)
    · go_enter Tryz.func40, Tryz.ntmps40
      go_wp2_with fail
      go_quiet (first | (go_at_call 73; exact Calls.quiet_of_same (hso _)))
      go_wp2_with fail
      go_ret
      exact ⟨ret_bool (by rw [HE.out, hs]; rfl), below_drews (hbx _ _) _⟩
    · go_enter Tryz.func40, Tryz.ntmps40
      go_wp2_with fail
      go_region_with (first
        | (go_at_call 73; refine (hso _).mono ?_; rintro e w1 ⟨rfl, rfl⟩)
        | (go_at_call 72; refine (hJ _ (hbx _ _).drew).mono ?_; rintro e w2 ⟨rfl, hb2⟩))
      all_goals
        go_wp2_with fail
        go_ret
        exact ⟨ret_bool (by rw [HE.out, hs]; simp), (hbx _ _).drew.trans (hb2.mono (by simp; omega))⟩
  · have HE : Hid (fitI f (.mk s n t ns ks) = listI f.of (.mk s n t ns ks)) := by show _ = _; unfold fitI; rw [if_neg h7, if_neg h1, if_neg (by simp [hl])]
    have hL := fun o1 o2 => isFitList_any f (.mk s n t ns ks) ((w.alloc o1).alloc o2) B _ _ (hF'.under ((hbx _ _).mono hB)) (hR'.under ((hbx _ _).mono hB)) (by simp; omega)
    rw [hl] at hL
    go_enter Tryz.func40, Tryz.ntmps40
    go_wp2_with (go_at_call 74; refine (hL _ _).mono ?_; rintro e w1 ⟨rfl, hb1⟩)
    go_ret
    exact ⟨ret_bool (by rw [HE.out]), (hbx _ _).trans (hb1.mono (by simp; omega))⟩
end Go.Proofs.YtjpabpkfdahdhaaGreat
