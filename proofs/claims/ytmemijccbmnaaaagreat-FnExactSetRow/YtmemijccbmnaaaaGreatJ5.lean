import Derived.Test.YtmemijccbmnaaaaGreatJ4
import Derived.Test.YtmemijccbmnaaaaGreatIFind
import Derived.Deep.RegionHeld3
import Derived.Deep.RegionWith
import Derived.Laws.EntriesVeiled
import Derived.Test.YtmemijccbmnaaaaGreatJ3
import Derived.Test.YtmemijccbmnaaaaGreatIType2
import Derived.Test.YtmemijccbmnaaaaGreatPCopy
import Derived.Deep.AppendLies
import Derived.Laws.AppendOwnNone
import Derived.Test.YtmemijccbmnaaaaGreatPRep
namespace Go.Proofs.YtmemijccbmnaaaaGreat
set_option linter.unusedSimpArgs false
set_option linter.unusedVariables false
open Go.RowKit

/-- What two boxes hold in whatever later world. -/
theorem boxes2 {w W : World} {A1 A2 : Array Value} {T1 T2 : TypeId} (h : Below (w.heap.size + 1 + 1) ((w.alloc (.cells A1 T1)).alloc (.cells A2 T2)) W) :
    (∀ i (hi : i < A1.size), W.cell? ⟨w.heap.size, i, none⟩ = some A1[i]) ∧ (∀ i (hi : i < A2.size), W.cell? ⟨w.heap.size + 1, i, none⟩ = some A2[i]) ∧ Below w.heap.size w W ∧ w.heap.size + 1 < W.heap.size := by
  have hz := h.size
  simp at hz
  refine ⟨fun i hi => (h.cell (p := ⟨w.heap.size, i, none⟩) (by show w.heap.size < _; omega)).trans (((below_box _ _).cell (p := ⟨w.heap.size, i, none⟩) (by show w.heap.size < _; simp)).trans (box_new _ _ i hi)), fun i hi => (h.cell (p := ⟨w.heap.size + 1, i, none⟩) (by show w.heap.size + 1 < _; omega)).trans ?_, (below_box2 w _ _).trans (h.mono (by omega)), by omega⟩
  have := box_new (w := w.alloc (.cells A1 T1)) A2 T2 i hi
  rw [show (w.alloc (.cells A1 T1)).heap.size = w.heap.size + 1 by simp] at this
  exact this
theorem Rep.heads {w : World} {P : Nat → Prop} {x : V} {a0 a1 a2 a3 a4 : Value} (h : Rep w P x (.agg #[a0, a1, a2, a3, a4])) :
    ∃ (na ka : Option Addr) (nc kc : Nat), a0 = .int .i64 x.sort ∧ a1 = .int .i64 x.num ∧ a2 = .string x.text ∧ a3 = .slice na x.names.length nc ∧ a4 = .slice ka x.kids.length kc := by
  obtain ⟨s, n, t, ns, ks⟩ := x
  obtain ⟨na, ka, nc, kc, hv, -⟩ := h.inv
  simp only [Value.agg.injEq, Array.mk.injEq, List.cons.injEq, and_true] at hv
  exact ⟨na, ka, nc, kc, hv⟩

theorem sortOfWord_any (s : ByteArray) (w : World) :
    Calls Tryz.prog 125 #[.string s] w fun e w' => e = .returned (.int .i64 (sortW s)) ∧ w = w' := by
  cases h1 : (s.toList == [116, 101, 120, 116])
  · cases h2 : (s.toList == [98, 111, 111, 108])
    all_goals
      go_enter Tryz.func125, Tryz.ntmps125
      go_wp2_with fail
      go_ret
      exact ⟨ret_int (by simp [sortW, isT, h1, h2]), rfl⟩
  · go_enter Tryz.func125, Tryz.ntmps125
    go_wp2_with fail
    go_ret
    exact ⟨ret_int (by simp [sortW, isT, h1]), rfl⟩

theorem isNumber_any (s n : Int) (c2 c3 c4 : Value) (id : Int) (w : World) :
    Calls Tryz.prog 91 #[.agg #[.int .i64 s, .int .i64 n, c2, c3, c4], .int .i64 id] w fun e w' => e = .returned (.bool (s == 3 && n == id)) ∧ Below w.heap.size w w' := by
  cases h1 : (s == 3)
  all_goals
    go_enter Tryz.func91, Tryz.ntmps91
    go_wp2_with fail
    go_ret
    exact ⟨ret_bool (by simp), below_box _ _⟩

set_option maxHeartbeats 1600000 in
theorem isFitList_any (f : F) (x : V) (w : World) (B : Nat) (u v : Value) (hF : FRep w (· < B) f u) (hR : Rep w (· < B) x v) (hB : B ≤ w.heap.size) :
    Calls Tryz.prog 126 #[u, v] w fun e w' => e = .returned (.bool (listI f.of x)) ∧ Below w.heap.size w w' := by
  have hR' := hR
  obtain ⟨s, n, t, ns, ks⟩ := x
  obtain ⟨na, ka, nc, kc, rfl, -, -, -, -, hK⟩ := hR.inv
  obtain ⟨fa, fc, rfl, -⟩ := hF
  have hJ := fun W (hb : Below w.heap.size w W) => implOk_any (.mk s n t ns ks) W B _ (hR'.under (hb.mono hB)) (by have := hb.size; omega)
  have hbx : ∀ o1 o2, Below w.heap.size w ((w.alloc o1).alloc o2) := below_box2 w
  cases h5 : (s == 5)
  · have h5' : (s != 5) = true := by simp only [bne, h5]; rfl
    go_enter Tryz.func126, Tryz.ntmps126
    go_wp2_with fail
    go_ret
    exact ⟨ret_bool (by simp [listI, h5]), hbx _ _⟩
  have h5' : (s != 5) = false := by simp only [bne, h5]; rfl
  by_cases h3 : ks.length ≤ 3
  case neg =>
    have h3' : (3 : Int) < (ks.length : Int) := by omega
    go_enter Tryz.func126, Tryz.ntmps126
    go_wp2_with fail
    go_ret
    exact ⟨ret_bool (by simp [listI, h3]), hbx _ _⟩
  have h3' : ¬ (3 : Int) < (ks.length : Int) := by omega
  have h3'' : decide ((3 : Int) < (ks.length : Int)) = false := by simp; omega
  cases ho : okV (.mk s n t ns ks)
  · rw [ho] at hJ
    go_enter Tryz.func126, Tryz.ntmps126
    go_wp2_with (go_at_call 124; refine (hJ _ (hbx _ _)).mono ?_; rintro e w1 ⟨rfl, hb1⟩)
    go_ret
    exact ⟨ret_bool (by simp [listI, ho]), (hbx _ _).trans (hb1.mono (by simp; omega))⟩
  rw [ho] at hJ
  have HL : Hid (listI f.of (.mk s n t ns ks) = kidsI f.of ks ks.length) := by show _ = _; simp [listI, h5, h3, ho]
  obtain ⟨h80, b, off, C, hka, hc, hr⟩ := hK
  obtain ⟨X, hXe⟩ : ∃ X, X = ((w.alloc (.cells #[.string f.name, .string f.of, .bool f.list, .bool f.must, .bool f.far, .bool f.hidden, .bool f.shared, .slice fa f.needs.length fc] 103)).alloc (.cells #[.int .i64 s, .int .i64 n, .string t, .slice na ns.length nc, .slice ka ks.length kc] 45)) := ⟨_, rfl⟩
  have TB : ∀ W, Below (w.heap.size + 1 + 1) X W → W.cell? ⟨w.heap.size, 1, none⟩ = some (.string f.of) ∧ W.cell? ⟨w.heap.size + 1, 4, none⟩ = some (.slice ka ks.length kc) ∧ Below w.heap.size w W ∧ w.heap.size + 1 < W.heap.size := fun W h => by
    obtain ⟨h1, h2, h3, h4⟩ := boxes2 (by rw [← hXe]; exact h)
    exact ⟨h1 1 (by simp), h2 4 (by simp), h3, h4⟩
  have hT0 : Below (w.heap.size + 1 + 1) X ((w.alloc (.cells #[.string f.name, .string f.of, .bool f.list, .bool f.must, .bool f.far, .bool f.hidden, .bool f.shared, .slice fa f.needs.length fc] 103)).alloc (.cells #[.int .i64 s, .int .i64 n, .string t, .slice na ns.length nc, .slice ka ks.length kc] 45)) := by rw [hXe]; exact Below.refl _ _
  clear hXe
  go_enter Tryz.func126, Tryz.ntmps126
  go_wp2_with (
    go_at_call 124
    refine (hJ _ (hbx _ _)).mono ?_
    rintro e w1 ⟨rfl, hb1⟩
    have hT1 := hT0.trans (hb1.mono (by simp))
    obtain ⟨p1, p4, hw1, hz1⟩ := TB w1 hT1)
  clear p1 p4 hw1 hz1 hb1 hT0 hJ
  go_loopw [24] (fun i wr => ∃ k : Nat, k ≤ ks.length ∧ i = .int .i64 k ∧ Below (w.heap.size + 1 + 1) X wr ∧ kidsI f.of ks k = true) (fun i _ => ks.length - (intOf i).toNat)
  case atStart => exact ⟨0, Nat.zero_le _, rfl, hT1, rfl⟩
  case round =>
    clear hT1
    obtain ⟨k, hk, rfl, hT, hp⟩ := hrel
    obtain ⟨w0, rfl⟩ : ∃ x, x = wr := ⟨wr, rfl⟩
    have HP : Hid (kidsI f.of ks k = true) := hp
    clear hp
    obtain ⟨p1, p4, hbel, hz0⟩ := TB w0 hT
    by_cases hlt : k < ks.length
    · have hki : (k : Int) < (ks.length : Int) := by omega
      obtain ⟨rfl, hbB⟩ := hka (by intro e; simp [e] at hlt)
      obtain ⟨na2, ka2, nc2, kc2, e0, e1, e2, e3, e4⟩ := (hr k hlt).heads
      have hck : ∀ j, j < 5 → w0.cell? ⟨b, off + k * 5 + j, none⟩ = some (C k j) := fun j hj => (hbel.cell (p := ⟨b, off + k * 5 + j, none⟩) (by show b < _; omega)).trans (hc k hlt j hj)
      have hc0 : w0.cell? ⟨b, off + k * 5, none⟩ = some (C k 0) := hck 0 (by omega)
      have hc1 := hck 1 (by omega)
      have hc2 := hck 2 (by omega)
      have hc3 := hck 3 (by omega)
      have hc4 := hck 4 (by omega)
      rw [e0] at hc0
      rw [e1] at hc1
      rw [e2] at hc2
      rw [e3] at hc3
      rw [e4] at hc4
      clear hck hc hr hka e0 e1 e2 e3 e4
      have HB := hT.alloc (by omega) (.cells #[.int .i64 (kth ks k).sort, .int .i64 (kth ks k).num, .string (kth ks k).text, .slice na2 (kth ks k).names.length nc2, .slice ka2 (kth ks k).kids.length kc2] 45)
      obtain ⟨p1', -, hbel', -⟩ := TB _ HB
      have HS : Hid (kidsI f.of ks (k + 1) = ((kth ks k).sort == 1 || (kth ks k).sort == sortW f.of)) := by show _ = _; rw [kidsI_succ, HP.out, Bool.true_and]
      have HF : Hid (((kth ks k).sort == 1 || (kth ks k).sort == sortW f.of) = false → kidsI f.of ks ks.length = false) := kidsI_false f.of ks _ k hlt
      have hso : ∀ W, Calls Tryz.prog 125 #[.string f.of] W fun e w' => e = .returned (.int .i64 (sortW f.of)) ∧ w' = W := fun W => (sortOfWord_any f.of W).mono fun _ _ h => ⟨h.1, h.2.symm⟩
      generalize sortW f.of = sw at HS HF hso
      cases q1 : ((kth ks k).sort == 1)
      · have q1' : ((kth ks k).sort != 1) = true := by simp only [bne, q1]; rfl
        cases q2 : ((kth ks k).sort == sw)
        · have q2' : ((kth ks k).sort != sw) = true := by simp only [bne, q2]; rfl
          go_wp2_with fail
          go_quiet (first | (go_at_call 125; exact Calls.quiet_of_same (hso _)))
          go_wp2_with fail
          go_ret
          exact ⟨ret_bool (by rw [HL.out, HF.out (by rw [q1, q2]; rfl)]), below_drews hbel' _⟩
        · have q2' : ((kth ks k).sort != sw) = false := by simp only [bne, q2]; rfl
          go_wp2_with fail
          go_quiet (first | (go_at_call 125; exact Calls.quiet_of_same (hso _)))
          go_wp2_with fail
          go_roundw
          case rel => exact ⟨k + 1, by omega, by go_num, below_drews HB _, by rw [HS.out, q1, q2]; rfl⟩
          case measure => simp [intOf]; omega
      · have q1' : ((kth ks k).sort != 1) = false := by simp only [bne, q1]; rfl
        go_wp2_with fail
        go_quiet (fail)
        go_wp2_with fail
        go_roundw
        case rel => exact ⟨k + 1, by omega, by go_num, below_drews HB _, by rw [HS.out, q1]; rfl⟩
        case measure => simp [intOf]; omega
    · go_wp2_with fail
      go_ret
      have e : k = ks.length := by omega
      exact ⟨ret_bool (by rw [HL.out, ← e, HP.out]), hbel⟩
end Go.Proofs.YtmemijccbmnaaaaGreat

namespace Go.Proofs.YtmemijccbmnaaaaGreat
set_option linter.unusedSimpArgs false
set_option linter.unusedVariables false
open Go.RowKit

set_option maxHeartbeats 1600000 in
theorem isFit_any (f : F) (x : V) (w : World) (B : Nat) (u v : Value) (hF : FRep w (· < B) f u) (hR : Rep w (· < B) x v) (hB : B ≤ w.heap.size) :
    Calls Tryz.prog 90 #[u, v] w fun e w' => e = .returned (.bool (fitI f x)) ∧ Below w.heap.size w w' := by
  have hR' := hR
  have hF' := hF
  obtain ⟨s, n, t, ns, ks⟩ := x
  obtain ⟨na, ka, nc, kc, rfl, -⟩ := hR.inv
  obtain ⟨fa, fc, rfl, -⟩ := hF
  have hbx : ∀ o1 o2, Below w.heap.size w ((w.alloc o1).alloc o2) := below_box2 w
  by_cases h7 : s = 7
  · subst h7
    have HE : Hid (fitI f (.mk 7 n t ns ks) = (n == 0 && t.toList.isEmpty && nokV ns ks.length)) := rfl
    cases hn : (n == 0)
    · go_enter Tryz.func90, Tryz.ntmps90
      go_wp2_with fail
      go_ret
      exact ⟨ret_bool (by rw [HE.out, hn]; rfl), hbx _ _⟩
    · cases ht : t.toList.isEmpty
      · go_enter Tryz.func90, Tryz.ntmps90
        go_wp2_with fail
        go_ret
        exact ⟨ret_bool (by rw [HE.out, hn, ht]; rfl), hbx _ _⟩
      · go_enter Tryz.func90, Tryz.ntmps90
        go_wp2_with (go_at_call 123; refine (hasNoKids_any 7 n t ns na ka nc kc ks.length _).mono ?_; rintro e w1 ⟨rfl, hb1⟩)
        go_ret
        exact ⟨ret_bool (by rw [HE.out, hn, ht]; simp), (hbx _ _).trans (hb1.mono (by simp; omega))⟩
  have g7 : (s == 7) = false := by simpa using h7
  have hJ := fun W (hb : Below w.heap.size w W) => implOk_any (.mk s n t ns ks) W B _ (hR'.under (hb.mono hB)) (by have := hb.size; omega)
  by_cases h1 : s = 1
  · subst h1
    have HE : Hid (fitI f (.mk 1 n t ns ks) = (!f.must && okV (.mk 1 n t ns ks))) := rfl
    cases hm : f.must
    · go_enter Tryz.func90, Tryz.ntmps90
      go_wp2_with (go_at_call 124; refine (hJ _ (hbx _ _)).mono ?_; rintro e w1 ⟨rfl, hb1⟩)
      go_ret
      exact ⟨ret_bool (by rw [HE.out, hm]; simp), (hbx _ _).trans (hb1.mono (by simp; omega))⟩
    · go_enter Tryz.func90, Tryz.ntmps90
      go_wp2_with fail
      go_ret
      exact ⟨ret_bool (by rw [HE.out, hm]; rfl), hbx _ _⟩
  have g1 : (s == 1) = false := by simpa using h1
  cases hl : f.list
  · have HE : Hid (fitI f (.mk s n t ns ks) = (s == sortW f.of && okV (.mk s n t ns ks))) := by show _ = _; unfold fitI; rw [if_neg h7, if_neg h1, if_pos hl]
    have hso : ∀ W, Calls Tryz.prog 125 #[.string f.of] W fun e w' => e = .returned (.int .i64 (sortW f.of)) ∧ w' = W := fun W => (sortOfWord_any f.of W).mono fun _ _ h => ⟨h.1, h.2.symm⟩
    generalize sortW f.of = sw at HE hso
    cases hs : (s == sw)
    · go_enter Tryz.func90, Tryz.ntmps90
      go_wp2_with fail
      go_quiet (first | (go_at_call 125; exact Calls.quiet_of_same (hso _)))
      go_wp2_with fail
      go_ret
      exact ⟨ret_bool (by rw [HE.out, hs]; rfl), below_drews (hbx _ _) _⟩
    · go_enter Tryz.func90, Tryz.ntmps90
      go_wp2_with fail
      go_region_with (first
        | (go_at_call 125; refine (hso _).mono ?_; rintro e w1 ⟨rfl, rfl⟩)
        | (go_at_call 124; refine (hJ _ (hbx _ _).drew).mono ?_; rintro e w2 ⟨rfl, hb2⟩))
      all_goals
        go_wp2_with fail
        go_ret
        exact ⟨ret_bool (by rw [HE.out, hs]; simp), (hbx _ _).drew.trans (hb2.mono (by simp; omega))⟩
  · have HE : Hid (fitI f (.mk s n t ns ks) = listI f.of (.mk s n t ns ks)) := by show _ = _; unfold fitI; rw [if_neg h7, if_neg h1, if_neg (by simp [hl])]
    have hL := fun o1 o2 => isFitList_any f (.mk s n t ns ks) ((w.alloc o1).alloc o2) B _ _ (hF'.under ((hbx _ _).mono hB)) (hR'.under ((hbx _ _).mono hB)) (by simp; omega)
    rw [hl] at hL
    go_enter Tryz.func90, Tryz.ntmps90
    go_wp2_with (go_at_call 126; refine (hL _ _).mono ?_; rintro e w1 ⟨rfl, hb1⟩)
    go_ret
    exact ⟨ret_bool (by rw [HE.out]), (hbx _ _).trans (hb1.mono (by simp; omega))⟩
end Go.Proofs.YtmemijccbmnaaaaGreat

namespace Go.Proofs.YtmemijccbmnaaaaGreat
set_option linter.unusedSimpArgs false
set_option linter.unusedVariables false
open Go.RowKit

theorem cell_block' {w : World} {t : Addr} {old : Value} (h : w.cell? t = some old) : t.block < w.heap.size := by
  rcases Nat.lt_or_ge t.block w.heap.size with h1 | h1
  · exact h1
  · simp [World.cell?, Array.getElem?_eq_none h1] at h

/-- The closure of typePlace. -/
theorem typePlace1_any (t : T) (s : ByteArray) (cb : Nat) (w : World) (B : Nat) (u : Value) (hT : TRep w (· < B) t u) (hc : w.cell? ⟨cb, 0, none⟩ = some (.string s)) :
    Calls Tryz.prog 122 #[u, .pointer (some ⟨cb, 0, none⟩)] w fun e w' => e = .returned (.bool (t.name.toList == s.toList)) ∧ Below w.heap.size w w' := by
  obtain ⟨fa, fc, rfl, -⟩ := hT
  have hcb := cell_block' hc
  have hc' := fun o => ((below_box w o).cell (p := ⟨cb, 0, none⟩) hcb).trans hc
  go_enter Tryz.func122, Tryz.ntmps122
  go_wp2_with fail
  go_ret
  exact ⟨rfl, below_box _ _⟩

set_option maxHeartbeats 800000 in
theorem indexType_any (types : List T) (s : ByteArray) (cb : Nat) (w : World) (B : Nat) (ta : Option Addr) (tc : Nat) (hK : TsRep w (· < B) types ta) (hB : B ≤ w.heap.size) (hcell : w.cell? ⟨cb, 0, none⟩ = some (.string s)) :
    Calls Tryz.prog 121 #[.slice ta types.length tc, .func (.func 122) #[] #[.pointer (some ⟨cb, 0, none⟩)]] w fun e w' =>
      e = .returned (.int .i64 (firstTo (fun i => (tth types i).name.toList == s.toList) types.length)) ∧ Below w.heap.size w w' := by
  have h3 := hK.1
  go_enter Tryz.func121, Tryz.ntmps121
  go_wp2_with fail
  go_loopw [5, 8] (fun _ i wr => ∃ k : Nat, k ≤ types.length ∧ i = .int .i64 k ∧ Below w.heap.size w wr ∧ ∀ j, j < k → ((tth types j).name.toList == s.toList) = false) (fun _ i _ => types.length - (intOf i).toNat)
  case atStart => exact ⟨0, Nat.zero_le _, rfl, Below.refl _ _, fun j hj => by omega⟩
  case round =>
    obtain ⟨k, hk, rfl, hbel, hp⟩ := hrel
    obtain ⟨w0, rfl⟩ : ∃ x, x = wr := ⟨wr, rfl⟩
    have HP : Hid (∀ j, j < k → ((tth types j).name.toList == s.toList) = false) := hp
    clear hp
    by_cases hlt : k < types.length
    · have hki : (k : Int) < (types.length : Int) := by omega
      obtain ⟨b, off, fa, fc, rfl, hTR, hcs⟩ := hK.at hB k hlt
      obtain ⟨c0, c1, c2⟩ := hcs w0 hbel
      have hC := typePlace1_any (tth types k) s cb w0 B _ (hTR.under (hbel.mono hB)) ((hbel.cell (p := ⟨cb, 0, none⟩) (cell_block' hcell)).trans hcell)
      clear hcs
      have z0 := hbel.size
      cases x1 : ((tth types k).name.toList == s.toList)
      · rw [x1] at hC
        go_wp2_with (go_at_call 122; refine hC.mono ?_; rintro e w1 ⟨rfl, hb1⟩)
        go_roundw
        case rel => exact ⟨k + 1, by omega, by go_num, hbel.trans (hb1.mono z0), fun j hj => by
          by_cases e : j = k
          · rw [e]; exact x1
          · exact HP.out j (by omega)⟩
        case measure => simp [intOf]; omega
      · rw [x1] at hC
        have HE : Hid (firstTo (fun i => (tth types i).name.toList == s.toList) types.length = (k : Int)) := firstTo_hit HP.out x1 hlt
        go_wp2_with (go_at_call 122; refine hC.mono ?_; rintro e w1 ⟨rfl, hb1⟩)
        go_ret
        exact ⟨ret_int HE.out.symm, hbel.trans (hb1.mono z0)⟩
    · go_wp2_with fail
      go_ret
      have e : k = types.length := by omega
      exact ⟨ret_int (firstTo_none (e ▸ HP.out)).symm, hbel⟩

theorem typePlace_any (p : Pt) (s : ByteArray) (w : World) (B : Nat) (v : Value) (hP : PRep w (· < B) p v) (hB : B ≤ w.heap.size) :
    Calls Tryz.prog 87 #[v, .string s] w fun e w' => e = .returned (.int .i64 (tIx p s)) ∧ Below w.heap.size w w' := by
  obtain ⟨name, types⟩ := p
  obtain ⟨ta, tc, rfl, hK, -⟩ := hP
  have hcb : ∀ o, ((w.alloc o).alloc (.cells #[.string s] 9)).cell? ⟨w.heap.size + 1, 0, none⟩ = some (.string s) := fun o => by
    have := box_new (w := w.alloc o) #[Value.string s] 9 0 (by simp)
    rw [show (w.alloc o).heap.size = w.heap.size + 1 by simp] at this
    exact this
  have hI := fun o => indexType_any types s (w.heap.size + 1) ((w.alloc o).alloc (.cells #[.string s] 9)) B ta tc (hK.under ((below_box2 w _ _).mono hB)) (by simp; omega) (hcb o)
  go_enter Tryz.func87, Tryz.ntmps87
  go_wp2_with (go_at_call 121; refine (hI _).mono ?_; rintro e w1 ⟨rfl, hb1⟩)
  go_ret
  exact ⟨rfl, (below_box2 w _ _).trans (hb1.mono (by simp; omega))⟩
end Go.Proofs.YtmemijccbmnaaaaGreat

namespace Go.Proofs.YtmemijccbmnaaaaGreat
set_option linter.unusedSimpArgs false
set_option linter.unusedVariables false
open Go.RowKit

/-- Fields that a call gathers itself. -/
def OwnFs (w : World) (lo B : Nat) (fs : List F) (v : Value) (xs : List Value) : Prop :=
  w.ownsRow lo 103 8 v fs.length xs ∧ ∀ i, i < fs.length → FRep w (· < B) (fth fs i) (.agg #[xs.getD (i * 8) undef, xs.getD (i * 8 + 1) undef, xs.getD (i * 8 + 2) undef, xs.getD (i * 8 + 3) undef, xs.getD (i * 8 + 4) undef, xs.getD (i * 8 + 5) undef, xs.getD (i * 8 + 6) undef, xs.getD (i * 8 + 7) undef])
theorem OwnFs.nil (w : World) (lo B : Nat) : OwnFs w lo B [] (.slice none 0 0) [] := ⟨World.ownsRow_nil _ _ _ _, fun i hi => by simp at hi⟩
theorem OwnFs.put {w1 w3 : World} {lo B : Nat} {fs : List F} {v u : Value} {xs : List Value} {f : F} {d0 d1 d2 d3 d4 d5 d6 d7 : Value} (h : OwnFs w1 lo B fs v xs) (hf : FRep w1 (· < B) f (.agg #[d0, d1, d2, d3, d4, d5, d6, d7])) (hb : Below B w1 w3)
    (hown : w3.ownsRow lo 103 8 u (fs.length + 1) (xs ++ [d0, d1, d2, d3, d4, d5, d6, d7])) : OwnFs w3 lo B (fs ++ [f]) u (xs ++ [d0, d1, d2, d3, d4, d5, d6, d7]) := by
  have hxl := h.1.1
  refine ⟨by simpa using hown, fun i hi => ?_⟩
  simp only [List.length_append, List.length_singleton] at hi
  by_cases e : i = fs.length
  · have hg : ∀ j, (xs ++ [d0, d1, d2, d3, d4, d5, d6, d7]).getD (i * 8 + j) undef = [d0, d1, d2, d3, d4, d5, d6, d7].getD j undef := fun j => by
      rw [List.getD_eq_getElem?_getD, List.getElem?_append_right (by omega), List.getD_eq_getElem?_getD, hxl, e, show fs.length * 8 + j - fs.length * 8 = j by omega]
    have g0 := hg 0
    rw [Nat.add_zero] at g0
    rw [g0, hg 1, hg 2, hg 3, hg 4, hg 5, hg 6, hg 7]
    have : fth (fs ++ [f]) i = f := by simp [fth, List.getD_eq_getElem?_getD, e]
    rw [this]
    exact hf.under hb
  · have hik : i < fs.length := by omega
    have hg : ∀ j, j < 8 → (xs ++ [d0, d1, d2, d3, d4, d5, d6, d7]).getD (i * 8 + j) undef = xs.getD (i * 8 + j) undef := fun j hj => by
      rw [List.getD_eq_getElem?_getD, List.getElem?_append_left (by omega), List.getD_eq_getElem?_getD]
    have g0 := hg 0 (by omega)
    rw [Nat.add_zero] at g0
    rw [g0, hg 1 (by omega), hg 2 (by omega), hg 3 (by omega), hg 4 (by omega), hg 5 (by omega), hg 6 (by omega), hg 7 (by omega)]
    have : fth (fs ++ [f]) i = fth fs i := by simp [fth, List.getD_eq_getElem?_getD, List.getElem?_append_left hik]
    rw [this]
    exact (h.2 i hik).under hb
theorem OwnFs.keep {w w' : World} {lo B : Nat} {fs : List F} {v : Value} {xs : List Value} (h : OwnFs w lo B fs v xs) (hb : Below w.heap.size w w') (hB : B ≤ w.heap.size) : OwnFs w' lo B fs v xs :=
  ⟨h.1.kept (row := none) ⟨hb.os, hb.tape, hb.output, hb.size, fun b hb' _ => hb.block b hb'⟩ (by cases hv : v.ownBlock <;> simp), fun i hi => (h.2 i hi).under (hb.mono hB)⟩
theorem OwnFs.rep {w : World} {lo B : Nat} {fs : List F} {v : Value} {xs : List Value} (h : OwnFs w lo B fs v xs) (h64 : 64 * fs.length ≤ 281474976710656) : ∃ (a : Option Addr) (c : Nat), v = .slice a fs.length c ∧ fs.length ≤ c ∧ FsRep w (fun b => b < B ∨ (lo ≤ b ∧ b < w.heap.size)) fs a := by
  obtain ⟨h1, h2⟩ := h
  rcases h1.2 with ⟨rfl, h0⟩ | ⟨g, cap, cur, rfl, hlo, hg, hn, _⟩
  · have : fs = [] := by simpa using h0
    subst this
    exact ⟨none, 0, rfl, by simp, FsRep.nil _ _ _⟩
  · have hlt : g < w.heap.size := (Array.getElem?_eq_some_iff.1 hg).1
    refine ⟨_, cap, rfl, hn, h64, fun i j => xs.getD (i * 8 + j) undef, fun _ => ⟨g, 0, rfl, .inr ⟨hlo, hlt⟩, fun i hi j hj => ?_⟩, fun i hi => (h2 i hi).sub fun b hb => .inl hb⟩
    have hx := h1.1
    have := h1.cellAt (i * 8 + j) (by omega)
    show _ = some (xs.getD (i * 8 + j) undef)
    rw [Nat.zero_add, this, List.getD_eq_getElem?_getD, List.getElem?_eq_getElem (by omega)]
    rfl

set_option maxRecDepth 20000 in
set_option maxHeartbeats 1600000 in
theorem knownFields_two (t : T) (w : World) (B : Nat) (u : Value) (hT : TRep w (· < B) t u) (hB : B ≤ w.heap.size) (hfl : t.fields.length ≤ 1048576) :
    Calls Tryz.prog 89 #[u] w fun e w' => ∃ (a : Option Addr) (c : Nat), e = .returned (.slice a (KF t.fields t.fields.length).length c) ∧ Below w.heap.size w w' ∧ (KF t.fields t.fields.length).length ≤ c ∧ FsRep w' (fun b => b < B ∨ (w.heap.size + 1 ≤ b ∧ b < w'.heap.size)) (KF t.fields t.fields.length) a := by
  obtain ⟨fa, fc, rfl, hK, hfc, -⟩ := hT
  obtain ⟨name, key, fields⟩ := t
  simp only at hK hfc hfl ⊢
  have h64 := hK.1
  obtain ⟨i0, hi, hz0, hz1, hz2⟩ := info_parts info_Field
  go_enter Tryz.func89, Tryz.ntmps89
  go_wp2_with fail
  go_loopw [3, 9] (fun o i wr => ∃ (k : Nat) (v : Value) (xs : List Value), k ≤ fields.length ∧ i = .int .i64 k ∧ v = o ∧ Below w.heap.size w wr ∧ w.heap.size < wr.heap.size ∧ OwnFs wr (w.heap.size + 1) B (KF fields k) v xs) (fun _ i _ => fields.length - (intOf i).toNat)
  case atStart => exact ⟨0, _, [], Nat.zero_le _, rfl, rfl, below_box _ _, by simp, OwnFs.nil _ _ _⟩
  case round =>
    obtain ⟨k, v, xs, hk, rfl, rfl, hbel, hz, hown⟩ := hrel
    obtain ⟨w0, rfl⟩ : ∃ x, x = wr := ⟨wr, rfl⟩
    have HO : Hid (OwnFs w0 (w.heap.size + 1) B (KF fields k) v xs) := hown
    clear hown
    have hkl := KF_len fields k
    by_cases hlt : k < fields.length
    · have hki : (k : Int) < (fields.length : Int) := by omega
      obtain ⟨b, off, na, nc, rfl, hFR, hcs⟩ := hK.at hB k hlt
      obtain ⟨c0, c1, c2, c3, c4, c5, c6, c7⟩ := hcs w0 hbel
      have HN : Hid (KF fields (k + 1) = if (fth fields k).far = true then KF fields k else KF fields k ++ [fth fields k]) := rfl
      have bx := below_box w0 (.cells #[.string (fth fields k).name, .string (fth fields k).of, .bool (fth fields k).list, .bool (fth fields k).must, .bool (fth fields k).far, .bool (fth fields k).hidden, .bool (fth fields k).shared, .slice na (fth fields k).needs.length nc] 103)
      clear hcs
      cases hf : (fth fields k).far
      · rw [hf] at c4 bx
        have hFR' := hFR
        rw [hf] at hFR'
        have bx2 := below_box (w0.alloc (.cells #[.string (fth fields k).name, .string (fth fields k).of, .bool (fth fields k).list, .bool (fth fields k).must, .bool false, .bool (fth fields k).hidden, .bool (fth fields k).shared, .slice na (fth fields k).needs.length nc] 103)) (.cells #[.string (fth fields k).name, .string (fth fields k).of, .bool (fth fields k).list, .bool (fth fields k).must, .bool false, .bool (fth fields k).hidden, .bool (fth fields k).shared, .slice na (fth fields k).needs.length nc] 103)
        have b02 := bx.trans (bx2.mono (by simp))
        have HO1 : Hid (OwnFs _ (w.heap.size + 1) B (KF fields k) v xs) := HO.out.keep b02 (by omega)
        have K1 := heap_alloc_new (w0.alloc (.cells #[.string (fth fields k).name, .string (fth fields k).of, .bool (fth fields k).list, .bool (fth fields k).must, .bool false, .bool (fth fields k).hidden, .bool (fth fields k).shared, .slice na (fth fields k).needs.length nc] 103)) (.cells #[.string (fth fields k).name, .string (fth fields k).of, .bool (fth fields k).list, .bool (fth fields k).must, .bool false, .bool (fth fields k).hidden, .bool (fth fields k).shared, .slice na (fth fields k).needs.length nc] 103)
        rw [show (w0.alloc (.cells #[.string (fth fields k).name, .string (fth fields k).of, .bool (fth fields k).list, .bool (fth fields k).must, .bool false, .bool (fth fields k).hidden, .bool (fth fields k).shared, .slice na (fth fields k).needs.length nc] 103)).heap.size = w0.heap.size + 1 by simp] at K1
        go_wp2_with (at_builtin; refine wpList_append_lies _ rfl _ _ 99 rfl (w.heap.size + 1) 103 i0 (.agg #[.string ByteArray.empty, .string ByteArray.empty, .bool false, .bool false, .bool false, .bool false, .bool false, .slice none 0 0]) 8 64 Tryz.underlying99 hi hz0 hz1 hz2 rfl (by decide) v (KF fields k).length xs rfl ?own ⟨w0.heap.size + 1, 0, none⟩ 1 1 [.string (fth fields k).name, .string (fth fields k).of, .bool (fth fields k).list, .bool (fth fields k).must, .bool false, .bool (fth fields k).hidden, .bool (fth fields k).shared, .slice na (fth fields k).needs.length nc] rfl rfl ?c1 ?c2 (by omega) ?c3 (by omega) (by simp; omega) _ rfl ?_)
        case own => exact HO1.out.1
        case c1 => exact World.news_of_block K1
        case c2 => intro u hu; simp at hu; rcases hu with rfl | rfl | rfl | rfl | rfl | rfl | rfl | rfl <;> rfl
        case c3 => unfold maxLen; omega
        intro g cap w3 hown3 hgrow hat hlt3
        have hb3 := Below.grown (Below.refl (w.heap.size + 1) _) hgrow (by simp; omega) (fun k hk => (HO1.out.1.lt k hk).1)
        have HN' : Hid (KF fields (k + 1) = KF fields k ++ [fth fields k]) := by show _ = _; rw [HN.out, if_neg (by simp [hf])]
        have HO3 : Hid (∃ xs', OwnFs w3 (w.heap.size + 1) B (KF fields (k + 1)) (.slice (some ⟨g, 0, none⟩) ((KF fields k).length + 1) cap) xs') := ⟨_, by rw [HN'.out]; exact HO1.out.put (hFR'.under ((hbel.trans (b02.mono (by omega))).mono hB)) (hb3.mono (by omega)) hown3⟩
        have z3 := hb3.size
        simp at z3
        have hw3 : Below w.heap.size w w3 := (hbel.trans (b02.mono (by omega))).trans (hb3.mono (by omega))
        clear hown3 hgrow hat hb3 HO1 K1
        go_wp2_with fail
        go_roundw
        case rel =>
          obtain ⟨xs', hxs⟩ := HO3.out
          exact ⟨k + 1, _, xs', by omega, by go_num, rfl, hw3, by omega, hxs⟩
        case measure => simp [intOf]; omega
      · rw [hf] at c4 bx
        go_wp2_with fail
        go_roundw
        case rel => exact ⟨k + 1, v, xs, by omega, by go_num, rfl, hbel.trans (bx.mono (by omega)), by simp; omega, by rw [HN.out, if_pos hf]; exact HO.out.keep bx (by omega)⟩
        case measure => simp [intOf]; omega
    · go_wp2_with fail
      go_ret
      have e : k = fields.length := by omega
      subst e
      obtain ⟨a, c, rfl, hc, hF⟩ := HO.out.rep (by omega)
      exact ⟨a, c, rfl, hbel, hc, hF⟩
theorem knownFields_any (t : T) (w : World) (B : Nat) (u : Value) (hT : TRep w (· < B) t u) (hB : B ≤ w.heap.size) (hfl : t.fields.length ≤ 1048576) :
    Calls Tryz.prog 89 #[u] w fun e w' => ∃ (a : Option Addr) (c : Nat), e = .returned (.slice a (KF t.fields t.fields.length).length c) ∧ Below w.heap.size w w' ∧ (KF t.fields t.fields.length).length ≤ c ∧ FsRep w' (· < w'.heap.size) (KF t.fields t.fields.length) a := by
  refine (knownFields_two t w B u hT hB hfl).mono ?_
  rintro e w' ⟨a, c, h1, h2, h3, h4⟩
  exact ⟨a, c, h1, h2, h3, h4.sub fun b hb => by have := h2.size; omega⟩
end Go.Proofs.YtmemijccbmnaaaaGreat

namespace Go.Proofs.YtmemijccbmnaaaaGreat
set_option linter.unusedSimpArgs false
set_option linter.unusedVariables false
open Go.RowKit

theorem RoReps.at {w : World} {B : Nat} {rs : List Ro} {ra : Option Addr} (h : RoReps w (· < B) rs ra) (hB : B ≤ w.heap.size) (k : Nat) (hk : k < rs.length) : ∃ (b off : Nat) (ca : Option Addr) (cc : Nat), ra = some ⟨b, off, none⟩ ∧
    RoRep w (· < B) (rth rs k) (.agg #[.string (rth rs k).type, .int .i64 (rth rs k).id, .slice ca (rth rs k).cells.length cc]) ∧
    ∀ W, Below w.heap.size w W → W.cell? ⟨b, off + k * 3, none⟩ = some (.string (rth rs k).type) ∧ W.cell? ⟨b, off + k * 3 + 1, none⟩ = some (.int .i64 (rth rs k).id) ∧ W.cell? ⟨b, off + k * 3 + 2, none⟩ = some (.slice ca (rth rs k).cells.length cc) := by
  obtain ⟨-, C, hA, hr⟩ := h
  obtain ⟨b, off, rfl, hbB, hc⟩ := hA (by omega)
  have hkt := hr k hk
  obtain ⟨ca, cc, e0, e1, e2, -⟩ := (hr k hk).pieces
  rw [e0, e1, e2] at hkt
  have c : ∀ W, Below w.heap.size w W → ∀ j, j < 3 → W.cell? ⟨b, off + k * 3 + j, none⟩ = some (C k j) := fun W hb j hj => (hb.cell (p := ⟨b, off + k * 3 + j, none⟩) (by show b < _; omega)).trans (hc k hk j hj)
  exact ⟨b, off, ca, cc, rfl, hkt, fun W hb => ⟨(c W hb 0 (by omega)).trans (congrArg some e0), (c W hb 1 (by omega)).trans (congrArg some e1), (c W hb 2 (by omega)).trans (congrArg some e2)⟩⟩

/-- What three boxes hold in whatever later world. -/
theorem boxes3 {w W : World} {A1 A2 A3 : Array Value} {T1 T2 T3 : TypeId} (h : Below (w.heap.size + 1 + 1 + 1) (((w.alloc (.cells A1 T1)).alloc (.cells A2 T2)).alloc (.cells A3 T3)) W) :
    (∀ i (hi : i < A1.size), W.cell? ⟨w.heap.size, i, none⟩ = some A1[i]) ∧ (∀ i (hi : i < A2.size), W.cell? ⟨w.heap.size + 1, i, none⟩ = some A2[i]) ∧ (∀ i (hi : i < A3.size), W.cell? ⟨w.heap.size + 1 + 1, i, none⟩ = some A3[i]) ∧ Below w.heap.size w W ∧ w.heap.size + 1 + 1 < W.heap.size := by
  have hz := h.size
  simp at hz
  obtain ⟨h1, h2, h3, h4⟩ := boxes2 (w := w) (W := W) (A1 := A1) (A2 := A2) (T1 := T1) (T2 := T2) ((((Below.refl _ _).alloc (by simp) (.cells A3 T3))).trans (h.mono (by omega)))
  refine ⟨h1, h2, fun i hi => (h.cell (p := ⟨w.heap.size + 1 + 1, i, none⟩) (by show w.heap.size + 1 + 1 < _; omega)).trans ?_, h3, by omega⟩
  have := box_new (w := (w.alloc (.cells A1 T1)).alloc (.cells A2 T2)) A3 T3 i hi
  rw [show ((w.alloc (.cells A1 T1)).alloc (.cells A2 T2)).heap.size = w.heap.size + 1 + 1 by simp] at this
  exact this

set_option maxRecDepth 20000 in
set_option maxHeartbeats 1600000 in
theorem isRowInOrder_any (p : Pt) (rs : List Ro) (i : Nat) (w : World) (B : Nat) (v u : Value) (ra : Option Addr) (rc : Nat) (hP : PRep w (· < B) p v) (hRs : RoReps w (· < B) rs ra) (hi : i < rs.length) (hR : RoRep w (· < B) (rth rs i) u) (hB : B ≤ w.heap.size) :
    Calls Tryz.prog 57 #[v, .slice ra i rc, u] w fun e w' => e = .returned (.bool (ordI p rs i)) ∧ Below w.heap.size w w' := by
  have hP' := hP
  have h48 := hRs.1
  obtain ⟨name, types⟩ := p
  obtain ⟨ta, tc, rfl, -⟩ := hP
  obtain ⟨ca, cc, rfl, -⟩ := hR
  simp only at hP'
  by_cases h0 : i = 0
  · subst h0
    have HE : Hid (ordI ⟨name, types⟩ rs 0 = (isT (rth rs 0).type [113, 117, 101, 114, 121] && (rth rs 0).id == 0)) := rfl
    cases h1 : ((rth rs 0).type.toList == [113, 117, 101, 114, 121])
    all_goals
      go_enter Tryz.func57, Tryz.ntmps57
      go_wp2_with fail
      go_ret
      exact ⟨ret_bool (by rw [HE.out]; simp [isT, h1]), below_box2 w _ _⟩
  have hi0 : ((i : Int) == 0) = false := by simp; omega
  obtain ⟨j, rfl⟩ : ∃ j, i = j + 1 := ⟨i - 1, by omega⟩
  obtain ⟨b, off, ca2, cc2, rfl, -, hcs⟩ := hRs.at hB j (by omega)
  have HE : Hid (ordI ⟨name, types⟩ rs (j + 1) = if ((rth rs (j + 1)).type.toList == (rth rs j).type.toList) = true then !isT (rth rs (j + 1)).type [113, 117, 101, 114, 121] && decide ((rth rs j).id < (rth rs (j + 1)).id) else decide (tIx ⟨name, types⟩ (rth rs j).type < tIx ⟨name, types⟩ (rth rs (j + 1)).type)) := rfl
  have hjm : ((j + 1 : Nat) : Int) - 1 = (j : Int) := by omega
  obtain ⟨c0, c1, c2⟩ := hcs _ (below_box2 w (.cells #[.string name, .slice ta types.length tc] 40) (.cells #[.string (rth rs (j + 1)).type, .int .i64 (rth rs (j + 1)).id, .slice ca (rth rs (j + 1)).cells.length cc] 69))
  clear hcs
  cases h1 : ((rth rs (j + 1)).type.toList == (rth rs j).type.toList)
  · rw [h1] at HE
    generalize (rth rs (j + 1)).type = sA at HE c0 c1 c2 h1 ⊢
    generalize (rth rs j).type = sB at HE c0 c1 c2 h1 ⊢
    have hTP := fun W (hb : Below w.heap.size w W) s => typePlace_any ⟨name, types⟩ s W B _ (hP'.under (hb.mono hB)) (by have := hb.size; omega)
    obtain ⟨X, hXe⟩ : ∃ X, X = (((w.alloc (.cells #[.string name, .slice ta types.length tc] 40)).alloc (.cells #[.string sA, .int .i64 (rth rs (j + 1)).id, .slice ca (rth rs (j + 1)).cells.length cc] 69)).alloc (.cells #[.string sB, .int .i64 (rth rs j).id, .slice ca2 (rth rs j).cells.length cc2] 69)) := ⟨_, rfl⟩
    obtain ⟨N2, HN2⟩ : ∃ N2, Hid (w.heap.size + 1 + 1 = N2) := ⟨_, rfl⟩
    have TB : ∀ W, Below (w.heap.size + 1 + 1 + 1) X W → W.cell? ⟨w.heap.size, 0, none⟩ = some (.string name) ∧ W.cell? ⟨w.heap.size, 1, none⟩ = some (.slice ta types.length tc) ∧ W.cell? ⟨w.heap.size + 1, 0, none⟩ = some (.string sA) ∧ W.cell? ⟨N2, 0, none⟩ = some (.string sB) ∧ Below w.heap.size w W ∧ w.heap.size + 1 + 1 < W.heap.size := fun W h => by
      obtain ⟨h1, h2, h3, h4, h5⟩ := boxes3 (by rw [← hXe]; exact h)
      rw [← HN2.out]
      exact ⟨h1 0 (by simp), h1 1 (by simp), h2 0 (by simp), h3 0 (by simp), h4, h5⟩
    have hT0 : Below (w.heap.size + 1 + 1 + 1) X X := Below.refl _ _
    obtain ⟨p0, p1, q0, lz0, hw0, hz0⟩ := TB X hT0
    have hA := hTP X.drew hw0.drew sA
    go_enter Tryz.func57, Tryz.ntmps57
    go_wp2_with fail
    rw [← hXe, HN2.out]
    clear hXe c0 c1 c2
    go_region_held3 (fun w' => w'.cell? ⟨w.heap.size, 0, none⟩ = some (.string name) ∧ w'.cell? ⟨w.heap.size, 1, none⟩ = some (.slice ta types.length tc) ∧ w'.cell? ⟨w.heap.size + 1, 0, none⟩ = some (.string sA) ∧ w'.cell? ⟨N2, 0, none⟩ = some (.string sB)) (go_keep)
      (first
        | (
          go_at_call_of 87 (Value.string sA)
          refine hA.mono ?_
          rintro e w1 ⟨rfl, hb1⟩
          have hT1 := hT0.trans ((below_undrew hb1).mono (by omega))
          obtain ⟨p0', p1', q0', lz0', hw1, hz1⟩ := TB w1 hT1)
        | (
          go_at_call_of 87 (Value.string sB)
          refine (hTP w1 hw1 sB).mono ?_
          rintro e w2 ⟨rfl, hb2⟩
          have hT2 := hT1.trans (hb2.mono (by omega))
          obtain ⟨p0'', p1'', q0'', lz0'', hw2, hz2⟩ := TB w2 hT2))
    all_goals
      go_wp2_with fail
      go_ret
      exact ⟨ret_bool (by rw [HE.out]; simp), hw2⟩
  · rw [h1] at HE
    cases h2 : ((rth rs (j + 1)).type.toList == [113, 117, 101, 114, 121])
    all_goals
      go_enter Tryz.func57, Tryz.ntmps57
      go_wp2_with fail
      go_ret
      exact ⟨ret_bool (by rw [HE.out]; simp [isT, h2]), (below_box2 w _ _).alloc (by simp; omega) _⟩
end Go.Proofs.YtmemijccbmnaaaaGreat

namespace Go.Proofs.YtmemijccbmnaaaaGreat
set_option linter.unusedSimpArgs false
set_option linter.unusedVariables false
open Go.RowKit

theorem szFsTo_mono (fs : List F) : ∀ i n, i ≤ n → szFsTo fs i ≤ szFsTo fs n := fun i n h => by
  induction h with
  | refl => exact Nat.le_refl _
  | step h ih => exact Nat.le_trans ih (by rw [szFsTo_succ]; omega)
theorem szTsTo_mono (ts : List T) : ∀ i n, i ≤ n → szTsTo ts i ≤ szTsTo ts n := fun i n h => by
  induction h with
  | refl => exact Nat.le_refl _
  | step h ih => exact Nat.le_trans ih (by rw [szTsTo_succ]; omega)
theorem fields_smallS (ts : List T) (h : szTs ts ≤ 1048576) (i : Nat) : szFs (tth ts i).fields ≤ 1048576 := by
  by_cases hi : i < ts.length
  · have h1 := szTsTo_mono ts (i + 1) ts.length hi
    rw [szTsTo_succ] at h1
    have h2 : szT (tth ts i) = (tth ts i).name.size + (tth ts i).key.size + szFs (tth ts i).fields := rfl
    have h3 : szTs ts = ts.length + szTsTo ts ts.length := rfl
    omega
  · have : tth ts i = T.zero := by simp [tth, List.getD_eq_getElem?_getD, List.getElem?_eq_none (Nat.le_of_not_lt hi)]
    rw [this]; decide
end Go.Proofs.YtmemijccbmnaaaaGreat

namespace Go.Proofs.YtmemijccbmnaaaaGreat
set_option linter.unusedSimpArgs false
set_option linter.unusedVariables false
open Go.RowKit

theorem CeReps.at {w : World} {B : Nat} {cs : List Ce} {ca : Option Addr} (h : CeReps w (· < B) cs ca) (hB : B ≤ w.heap.size) (k : Nat) (hk : k < cs.length) : ∃ (b off : Nat) (na ka : Option Addr) (nc kc : Nat), ca = some ⟨b, off, none⟩ ∧
    Rep w (· < B) (cth cs k).val (.agg #[.int .i64 (cth cs k).val.sort, .int .i64 (cth cs k).val.num, .string (cth cs k).val.text, .slice na (cth cs k).val.names.length nc, .slice ka (cth cs k).val.kids.length kc]) ∧
    ∀ W, Below w.heap.size w W → W.cell? ⟨b, off + k * 6, none⟩ = some (.string (cth cs k).name) ∧ W.cell? ⟨b, off + k * 6 + 1, none⟩ = some (.int .i64 (cth cs k).val.sort) ∧ W.cell? ⟨b, off + k * 6 + 2, none⟩ = some (.int .i64 (cth cs k).val.num) ∧ W.cell? ⟨b, off + k * 6 + 3, none⟩ = some (.string (cth cs k).val.text) ∧ W.cell? ⟨b, off + k * 6 + 4, none⟩ = some (.slice na (cth cs k).val.names.length nc) ∧ W.cell? ⟨b, off + k * 6 + 5, none⟩ = some (.slice ka (cth cs k).val.kids.length kc) := by
  obtain ⟨-, C, hA, hr⟩ := h
  obtain ⟨b, off, rfl, hbB, hc⟩ := hA (by omega)
  obtain ⟨e0, hV, -⟩ := (hr k hk).pieces
  obtain ⟨na, ka, nc, kc, e1, e2, e3, e4, e5⟩ := hV.heads
  rw [e1, e2, e3, e4, e5] at hV
  have c : ∀ W, Below w.heap.size w W → ∀ j, j < 6 → W.cell? ⟨b, off + k * 6 + j, none⟩ = some (C k j) := fun W hb j hj => (hb.cell (p := ⟨b, off + k * 6 + j, none⟩) (by show b < _; omega)).trans (hc k hk j hj)
  exact ⟨b, off, na, ka, nc, kc, rfl, hV, fun W hb => ⟨(c W hb 0 (by omega)).trans (congrArg some e0), (c W hb 1 (by omega)).trans (congrArg some e1), (c W hb 2 (by omega)).trans (congrArg some e2), (c W hb 3 (by omega)).trans (congrArg some e3), (c W hb 4 (by omega)).trans (congrArg some e4), (c W hb 5 (by omega)).trans (congrArg some e5)⟩⟩

/-- What isRowOk answers. -/
def rowI (p : Pt) (r : Ro) : Bool := decide (0 ≤ tIx p r.type) && rowB (tth p.types (tIx p r.type).toNat) r
theorem rowI_or (p : Pt) (r : Ro) (h : 0 ≤ typeIx p r.type) : rowI p r = rowB (typeOr p r.type) r := by
  have h' : 0 ≤ tIx p r.type := h
  rw [rowI, typeOr, if_pos h, decide_eq_true h']; rfl

set_option maxRecDepth 20000 in
set_option maxHeartbeats 3200000 in
theorem isRowOk_any (p : Pt) (r : Ro) (w : World) (B : Nat) (v u : Value) (hP : PRep w (· < B) p v) (hR : RoRep w (· < B) r u) (hB : B ≤ w.heap.size) (hz : szP p ≤ 1048576) :
    Calls Tryz.prog 58 #[v, u] w fun e w' => e = .returned (.bool (rowI p r)) ∧ Below w.heap.size w w' := by
  have hP' := hP
  obtain ⟨type, id, cells⟩ := r
  obtain ⟨ca, cc, rfl, hC, hcc, -⟩ := hR
  obtain ⟨name, types⟩ := p
  obtain ⟨ta, tc, rfl, -⟩ := hP
  simp only at hP' hC hcc
  have h96 := hC.1
  have hfs : (typeOr ⟨name, types⟩ type).fields.length ≤ 1048576 := by
    unfold typeOr
    split
    · have hs : szTs types ≤ 1048576 := by have : szP ⟨name, types⟩ = name.size + szTs types := rfl; omega
      have h1 := fields_smallS types hs (typeIx ⟨name, types⟩ type).toNat
      have h2 : szFs (tth types (typeIx ⟨name, types⟩ type).toNat).fields = (tth types (typeIx ⟨name, types⟩ type).toNat).fields.length + szFsTo (tth types (typeIx ⟨name, types⟩ type).toNat).fields (tth types (typeIx ⟨name, types⟩ type).toNat).fields.length := rfl
      show (tth types (typeIx ⟨name, types⟩ type).toNat).fields.length ≤ _
      omega
    · simp [T.zero]
  have HRI : Hid (0 ≤ typeIx ⟨name, types⟩ type → rowI ⟨name, types⟩ ⟨type, id, cells⟩ = rowB (typeOr ⟨name, types⟩ type) ⟨type, id, cells⟩) := rowI_or ⟨name, types⟩ ⟨type, id, cells⟩
  have HRN : Hid (¬ 0 ≤ typeIx ⟨name, types⟩ type → rowI ⟨name, types⟩ ⟨type, id, cells⟩ = false) := fun h => by
    have h' : ¬ 0 ≤ tIx ⟨name, types⟩ type := h
    simp [rowI, h']
  have hb2 : ∀ o1 o2, Below w.heap.size w ((w.alloc o1).alloc o2) := below_box2 w
  have hFT := fun o1 o2 => findType_any ⟨name, types⟩ ((w.alloc o1).alloc o2) B _ type (hP'.under ((hb2 _ _).mono hB)) (by simp; omega)
  generalize typeIx ⟨name, types⟩ type = ix at HRI HRN hFT
  generalize typeOr ⟨name, types⟩ type = t at hfs HRI hFT
  go_enter Tryz.func58, Tryz.ntmps58
  go_wp2_with fail
  refine (hFT _ _).mono ?_
  rintro e w1 ⟨nm, ky, fa, fl, fc, rfl, hb1, hT1⟩
  obtain ⟨fa', fc', e0, e1, e2, -⟩ := hT1.parts
  simp only [Value.string.injEq, Value.slice.injEq] at e0 e1 e2
  obtain ⟨rfl, rfl, rfl⟩ := e2
  subst e0 e1
  have z1 := hb1.size
  simp at z1
  have hw1 : Below w.heap.size w w1 := (hb2 _ _).trans (hb1.mono (by simp; omega))
  have bT := below_box w1 (.cells #[.string t.name, .string t.key, .slice fa t.fields.length fc] 101)
  have hwT := hw1.trans (bT.mono (by omega))
  have hKF := knownFields_any t (w1.alloc (.cells #[.string t.name, .string t.key, .slice fa t.fields.length fc] 101)) B _ (hT1.under (bT.mono (by omega))) (by simp; omega) hfs
  have HL : Hid (rowB t ⟨type, id, cells⟩ = (decide (0 ≤ id) && decide (id ≤ 999999) && decide (cells.length = (KF t.fields t.fields.length).length) && cellsTo t ⟨type, id, cells⟩ (KF t.fields t.fields.length) (KF t.fields t.fields.length).length)) := rfl
  have hKl := KF_len t.fields t.fields.length
  generalize KF t.fields t.fields.length = KL at hKF HL hKl
  go_wp2_with fail
  refine hKF.mono ?_
  rintro e w2 ⟨a, c, rfl, hb2', hkc, hFs⟩
  have z2 := hb2'.size
  simp at z2
  have hw2 : Below w.heap.size w w2 := hwT.trans (hb2'.mono (by simp; omega))
  have KT := (hb2'.block _ (by simp)).trans (heap_alloc_new w1 (.cells #[.string t.name, .string t.key, .slice fa t.fields.length fc] 101))
  have hx := boxes2 (w := w) (W := w2) (A1 := #[.string name, .slice ta types.length tc]) (A2 := #[.string type, .int .i64 id, .slice ca cells.length cc]) (T1 := 40) (T2 := 69) (((hb1.trans (bT.mono (by simp; omega))).trans (hb2'.mono (by simp; omega))).mono (by simp))
  have FW : ∀ W, Below w2.heap.size w2 W → W.cell? ⟨w.heap.size + 1, 1, none⟩ = some (.int .i64 id) ∧ W.cell? ⟨w.heap.size + 1, 2, none⟩ = some (.slice ca cells.length cc) ∧ W.cell? ⟨w1.heap.size, 1, none⟩ = some (.string t.key) ∧ Below w.heap.size w W ∧ w2.heap.size ≤ W.heap.size := fun W h =>
    ⟨(h.cell (p := ⟨w.heap.size + 1, 1, none⟩) (by show w.heap.size + 1 < _; omega)).trans (hx.2.1 1 (by simp)), (h.cell (p := ⟨w.heap.size + 1, 2, none⟩) (by show w.heap.size + 1 < _; omega)).trans (hx.2.1 2 (by simp)), (h.cell (p := ⟨w1.heap.size, 1, none⟩) (by show w1.heap.size < _; omega)).trans (box_at KT 1 (by simp)).1, hw2.trans (h.mono (by omega)), h.size⟩
  obtain ⟨x1, x2, x3, -, -⟩ := FW w2 (Below.refl _ _)
  clear hb2' KT hx hwT bT hw1 hb1 hT1 hKF
  cases hix : decide (0 ≤ ix)
  · go_wp2_with fail
    go_ret
    exact ⟨ret_bool (HRN.out (by simpa using hix)).symm, hw2⟩
  have HR : Hid (rowI ⟨name, types⟩ ⟨type, id, cells⟩ = rowB t ⟨type, id, cells⟩) := HRI.out (by simpa using hix)
  by_cases hi1 : id < 0
  · have hi1' : decide (id < 0) = true := by simpa using hi1
    go_wp2_with fail
    go_ret
    exact ⟨ret_bool (by rw [HR.out, HL.out, decide_eq_false (by omega : ¬ 0 ≤ id)]; rfl), hw2⟩
  have hi1' : decide (id < 0) = false := by simpa using hi1
  by_cases hi2 : 999999 < id
  · have hi2' : decide (999999 < id) = true := by simpa using hi2
    go_wp2_with fail
    go_ret
    exact ⟨ret_bool (by rw [HR.out, HL.out, decide_eq_false (by omega : ¬ id ≤ 999999)]; simp), hw2⟩
  have hi2' : decide (999999 < id) = false := by simpa using hi2
  by_cases hlen : cells.length = KL.length
  case neg =>
    have hl1 : ((cells.length : Int) == (KL.length : Int)) = false := by simp; omega
    have hl2 : ((cells.length : Int) != (KL.length : Int)) = true := by simp only [bne, hl1]; rfl
    go_wp2_with fail
    go_ret
    exact ⟨ret_bool (by rw [HR.out, HL.out, decide_eq_false hlen]; simp), hw2⟩
  have hl1 : ((cells.length : Int) == (KL.length : Int)) = true := by simp; omega
  have hl2 : ((cells.length : Int) != (KL.length : Int)) = false := by simp only [bne, hl1]; rfl
  have HRR : Hid (rowI ⟨name, types⟩ ⟨type, id, cells⟩ = cellsTo t ⟨type, id, cells⟩ KL KL.length) := by
    show _ = _
    rw [HR.out, HL.out, decide_eq_true (by omega : 0 ≤ id), decide_eq_true (by omega : id ≤ 999999), decide_eq_true hlen]; rfl
  clear HR HL HRI HRN
  go_wp2_with fail
  clear x1 x2 x3 hl1 hl2 hi1' hi2'
  go_loopw [42] (fun i wr => ∃ k : Nat, k ≤ KL.length ∧ i = .int .i64 k ∧ Below w2.heap.size w2 wr ∧ cellsTo t ⟨type, id, cells⟩ KL k = true) (fun i _ => KL.length - (intOf i).toNat)
  case atStart => exact ⟨0, Nat.zero_le _, rfl, Below.refl _ _, rfl⟩
  case round =>
    obtain ⟨k, hk, rfl, hbel, hp⟩ := hrel
    obtain ⟨w0, rfl⟩ : ∃ x, x = wr := ⟨wr, rfl⟩
    have HP : Hid (cellsTo t ⟨type, id, cells⟩ KL k = true) := hp
    clear hp
    obtain ⟨x1, x2, x3, hww, hz0⟩ := FW w0 hbel
    by_cases hlt : k < KL.length
    · have hki : (k : Int) < (KL.length : Int) := by omega
      have hkc2 : (k : Int) < (cells.length : Int) := by omega
      obtain ⟨b, off, na, nc, rfl, hFR, hcs⟩ := hFs.at (Nat.le_refl _) k hlt
      obtain ⟨f0, f1, f2, f3, f4, f5, f6, f7⟩ := hcs w0 hbel
      obtain ⟨b', off', na2, ka2, nc2, kc2, rfl, hV, hds⟩ := hC.at hB k (by omega)
      have bF := below_box w0 (.cells #[.string (fth KL k).name, .string (fth KL k).of, .bool (fth KL k).list, .bool (fth KL k).must, .bool (fth KL k).far, .bool (fth KL k).hidden, .bool (fth KL k).shared, .slice na (fth KL k).needs.length nc] 103)
      have bC := below_box (w0.alloc (.cells #[.string (fth KL k).name, .string (fth KL k).of, .bool (fth KL k).list, .bool (fth KL k).must, .bool (fth KL k).far, .bool (fth KL k).hidden, .bool (fth KL k).shared, .slice na (fth KL k).needs.length nc] 103)) (.cells #[.string (cth cells k).name, .int .i64 (cth cells k).val.sort, .int .i64 (cth cells k).val.num, .string (cth cells k).val.text, .slice na2 (cth cells k).val.names.length nc2, .slice ka2 (cth cells k).val.kids.length kc2] 109)
      obtain ⟨d0, d1, d2, d3, d4, d5⟩ := hds (w0.alloc (.cells #[.string (fth KL k).name, .string (fth KL k).of, .bool (fth KL k).list, .bool (fth KL k).must, .bool (fth KL k).far, .bool (fth KL k).hidden, .bool (fth KL k).shared, .slice na (fth KL k).needs.length nc] 103)) (hww.trans (bF.mono (by omega)))
      have bFC := bF.trans (bC.mono (by simp))
      have hbel2 := hbel.trans (bFC.mono (by omega))
      obtain ⟨y1, y2, y3, hww2, hz2⟩ := FW _ hbel2
      obtain ⟨g1, g2, g3, -⟩ := FW _ (hbel.trans (bF.mono (by omega)))
      have HCB : Hid (cellB t id (fth KL k) (cth cells k) = ((cth cells k).name.toList == (fth KL k).name.toList && fitS (fth KL k) (cth cells k).val && (!((fth KL k).name.toList == t.key.toList) || ((cth cells k).val.sort == 3 && (cth cells k).val.num == id)))) := rfl
      have HF : Hid (cellB t id (fth KL k) (cth cells k) = false → cellsTo t ⟨type, id, cells⟩ KL KL.length = false) := cellsTo_false t ⟨type, id, cells⟩ KL _ k hlt
      have HS : Hid (cellB t id (fth KL k) (cth cells k) = true → cellsTo t ⟨type, id, cells⟩ KL (k + 1) = true) := fun h => by rw [cellsTo_succ, HP.out]; exact h
      have hfit := isFit_any (fth KL k) (cth cells k).val ((w0.alloc (.cells #[.string (fth KL k).name, .string (fth KL k).of, .bool (fth KL k).list, .bool (fth KL k).must, .bool (fth KL k).far, .bool (fth KL k).hidden, .bool (fth KL k).shared, .slice na (fth KL k).needs.length nc] 103)).alloc (.cells #[.string (cth cells k).name, .int .i64 (cth cells k).val.sort, .int .i64 (cth cells k).val.num, .string (cth cells k).val.text, .slice na2 (cth cells k).val.names.length nc2, .slice ka2 (cth cells k).val.kids.length kc2] 109)) w2.heap.size _ _ (hFR.under hbel2) ((hV.under (hww2.mono hB)).sub fun b hb => by have := hw2.size; omega) (by simp; omega)
      rw [fit_same] at hfit
      clear hcs hds
      cases q1 : ((cth cells k).name.toList == (fth KL k).name.toList)
      · have q1' : ((cth cells k).name.toList != (fth KL k).name.toList) = true := by simp only [bne, q1]; rfl
        go_wp2_with fail
        go_ret
        exact ⟨ret_bool (by rw [HRR.out, HF.out (by rw [HCB.out, q1]; rfl)]), hww2⟩
      have q1' : ((cth cells k).name.toList != (fth KL k).name.toList) = false := by simp only [bne, q1]; rfl
      cases q2 : fitS (fth KL k) (cth cells k).val
      · rw [q2] at hfit
        go_wp2_with (go_at_call 90; refine hfit.mono ?_; rintro e w3 ⟨rfl, hb3⟩)
        go_ret
        exact ⟨ret_bool (by rw [HRR.out, HF.out (by rw [HCB.out, q1, q2]; rfl)]), hww2.trans (hb3.mono (by simp; omega))⟩
      rw [q2] at hfit
      have hafter : ∀ W, Below ((w0.alloc (.cells #[.string (fth KL k).name, .string (fth KL k).of, .bool (fth KL k).list, .bool (fth KL k).must, .bool (fth KL k).far, .bool (fth KL k).hidden, .bool (fth KL k).shared, .slice na (fth KL k).needs.length nc] 103)).alloc (.cells #[.string (cth cells k).name, .int .i64 (cth cells k).val.sort, .int .i64 (cth cells k).val.num, .string (cth cells k).val.text, .slice na2 (cth cells k).val.names.length nc2, .slice ka2 (cth cells k).val.kids.length kc2] 109)).heap.size ((w0.alloc (.cells #[.string (fth KL k).name, .string (fth KL k).of, .bool (fth KL k).list, .bool (fth KL k).must, .bool (fth KL k).far, .bool (fth KL k).hidden, .bool (fth KL k).shared, .slice na (fth KL k).needs.length nc] 103)).alloc (.cells #[.string (cth cells k).name, .int .i64 (cth cells k).val.sort, .int .i64 (cth cells k).val.num, .string (cth cells k).val.text, .slice na2 (cth cells k).val.names.length nc2, .slice ka2 (cth cells k).val.kids.length kc2] 109)) W →
          W.cell? ⟨w0.heap.size, 0, none⟩ = some (.string (fth KL k).name) ∧ (W.cell? ⟨w0.heap.size + 1, 1, none⟩ = some (.int .i64 (cth cells k).val.sort) ∧ W.cell? ⟨w0.heap.size + 1, 2, none⟩ = some (.int .i64 (cth cells k).val.num) ∧ W.cell? ⟨w0.heap.size + 1, 3, none⟩ = some (.string (cth cells k).val.text) ∧ W.cell? ⟨w0.heap.size + 1, 4, none⟩ = some (.slice na2 (cth cells k).val.names.length nc2) ∧ W.cell? ⟨w0.heap.size + 1, 5, none⟩ = some (.slice ka2 (cth cells k).val.kids.length kc2)) ∧
          W.cell? ⟨w.heap.size + 1, 1, none⟩ = some (.int .i64 id) ∧ W.cell? ⟨w1.heap.size, 1, none⟩ = some (.string t.key) ∧ Below w2.heap.size w2 W ∧ Below w.heap.size w W := fun W h => by
        have hx := boxes2 (w := w0) (W := W) (A1 := #[.string (fth KL k).name, .string (fth KL k).of, .bool (fth KL k).list, .bool (fth KL k).must, .bool (fth KL k).far, .bool (fth KL k).hidden, .bool (fth KL k).shared, .slice na (fth KL k).needs.length nc]) (A2 := #[.string (cth cells k).name, .int .i64 (cth cells k).val.sort, .int .i64 (cth cells k).val.num, .string (cth cells k).val.text, .slice na2 (cth cells k).val.names.length nc2, .slice ka2 (cth cells k).val.kids.length kc2]) (T1 := 103) (T2 := 109) (h.mono (by simp))
        have h2 := hbel2.trans (h.mono (by simp; omega))
        obtain ⟨a1, a2, a3, a4, -⟩ := FW W h2
        exact ⟨hx.1 0 (by simp), ⟨hx.2.1 1 (by simp), hx.2.1 2 (by simp), hx.2.1 3 (by simp), hx.2.1 4 (by simp), hx.2.1 5 (by simp)⟩, a1, a3, h2, a4⟩
      cases q3 : ((fth KL k).name.toList == t.key.toList)
      · go_wp2_with (
          go_at_call 90
          refine hfit.mono ?_
          rintro e w3 ⟨rfl, hb3⟩
          obtain ⟨m0, ⟨m1, m2, m3, m4, m5⟩, m6, m7, hbel3, hww3⟩ := hafter w3 hb3)
        go_roundw
        case rel => exact ⟨k + 1, by omega, by go_num, hbel3, HS.out (by rw [HCB.out, q1, q2, q3]; rfl)⟩
        case measure => simp [intOf]; omega
      · cases q4 : ((cth cells k).val.sort == 3 && (cth cells k).val.num == id)
        · go_wp2_with (first
            | (
              go_at_call 90
              refine hfit.mono ?_
              rintro e w3 ⟨rfl, hb3⟩
              obtain ⟨m0, ⟨m1, m2, m3, m4, m5⟩, m6, m7, hbel3, hww3⟩ := hafter w3 hb3)
            | (
              go_at_call 91
              refine (isNumber_any _ _ _ _ _ id w3).mono ?_
              rw [q4]
              rintro e w4 ⟨rfl, hb4⟩))
          go_ret
          exact ⟨ret_bool (by rw [HRR.out, HF.out (by rw [HCB.out, q1, q2, q3, q4]; rfl)]), hww3.trans (hb4.mono (by have := hww3.size; omega))⟩
        · go_wp2_with (first
            | (
              go_at_call 90
              refine hfit.mono ?_
              rintro e w3 ⟨rfl, hb3⟩
              obtain ⟨m0, ⟨m1, m2, m3, m4, m5⟩, m6, m7, hbel3, hww3⟩ := hafter w3 hb3)
            | (
              go_at_call 91
              refine (isNumber_any _ _ _ _ _ id w3).mono ?_
              rw [q4]
              rintro e w4 ⟨rfl, hb4⟩))
          go_roundw
          case rel => exact ⟨k + 1, by omega, by go_num, hbel3.trans (hb4.mono (by have := hbel3.size; omega)), HS.out (by rw [HCB.out, q1, q2, q3, q4]; rfl)⟩
          case measure => simp [intOf]; omega
    · go_wp2_with fail
      go_ret
      have e : k = KL.length := by omega
      exact ⟨ret_bool (by rw [HRR.out, ← e, HP.out]), hww⟩
end Go.Proofs.YtmemijccbmnaaaaGreat
