import Derived.Test.YtjpabpkfdahdhaaGreatSPure
import Derived.Test.YtjpabpkfdahdhaaGreatSFit
import Derived.Deep.RegionHeld3
import Derived.Deep.DeepCutAuto
import Derived.Test.YtjpabpkfdahdhaaGreatSRow
namespace Go.Proofs.YtjpabpkfdahdhaaGreat
set_option linter.unusedSimpArgs false
set_option linter.unusedVariables false
open Go.RowKit

theorem plain_any (x : V) (w : World) (B : Nat) (v : Value) (hR : Rep w (· < B) x v) (hB : B ≤ w.heap.size) :
    Calls Tryz.prog 53 #[v] w fun e w' => e = .returned (.bool (plainX x)) ∧ Below w.heap.size w w' := by
  obtain ⟨s, n, t, ns, ks⟩ := x
  obtain ⟨na, ka, nc, kc, rfl, hs, hns, ht, -, -⟩ := hR.inv
  exact l1Plain_any s n t ns na ka nc kc ks.length w (hs.sub fun k hk => by omega) hns ht

set_option maxHeartbeats 800000 in
theorem l4One_any (of : ByteArray) (x : V) (w : World) (B : Nat) (v : Value) (hR : Rep w (· < B) x v) (hB : B ≤ w.heap.size) :
    Calls Tryz.prog 52 #[.string of, v] w fun e w' => e = .returned (.bool (oneB of x)) ∧ Below w.heap.size w w' := by
  have hR' := hR
  obtain ⟨s, n, t, ns, ks⟩ := x
  obtain ⟨na, ka, nc, kc, rfl, -⟩ := hR.inv
  have hPl := plain_any (.mk s n t ns ks) (w.alloc (.cells #[.int .i64 s, .int .i64 n, .string t, .slice na ns.length nc, .slice ka ks.length kc] 77)) B _ (hR'.under ((below_box w _).mono hB)) (by simp; omega)
  have HE : Hid (oneB of (.mk s n t ns ks) = (plainX (.mk s n t ns ks) && (s == 1 || s == sortW of))) := rfl
  have PC : ∀ W, Below (w.alloc (.cells #[.int .i64 s, .int .i64 n, .string t, .slice na ns.length nc, .slice ka ks.length kc] 77)).heap.size (w.alloc (.cells #[.int .i64 s, .int .i64 n, .string t, .slice na ns.length nc, .slice ka ks.length kc] 77)) W → W.cell? ⟨w.heap.size, 0, none⟩ = some (.int .i64 s) ∧ Below w.heap.size w W := fun W h =>
    ⟨(h.cell (p := ⟨w.heap.size, 0, none⟩) (by show w.heap.size < _; simp)).trans (box_new _ _ 0 (by simp)), (below_box w _).trans (h.mono (by simp))⟩
  cases hp : plainX (.mk s n t ns ks)
  · rw [hp] at hPl
    go_enter Tryz.func52, Tryz.ntmps52
    go_wp2_with (go_at_call 53; refine hPl.mono ?_; rintro e w1 ⟨rfl, hb1⟩)
    go_ret
    exact ⟨ret_bool (by rw [HE.out, hp]; rfl), (PC _ hb1).2⟩
  rw [hp] at hPl
  rw [hp] at HE
  cases h1 : (s == 1)
  · cases h2 : (of.toList == [98, 111, 111, 108])
    · cases h3 : (of.toList == [116, 101, 120, 116])
      all_goals
        go_enter Tryz.func52, Tryz.ntmps52
        go_wp2_with (go_at_call 53; refine hPl.mono ?_; rintro e w1 ⟨rfl, hb1⟩; obtain ⟨c0, hw1⟩ := PC _ hb1)
        go_ret
        exact ⟨ret_bool (by rw [HE.out]; simp [sortW, isT, h1, h2, h3]), hw1⟩
    · have h3 : (of.toList == [116, 101, 120, 116]) = false := by
        have : of.toList = [98, 111, 111, 108] := by simpa using h2
        rw [this]; rfl
      go_enter Tryz.func52, Tryz.ntmps52
      go_wp2_with (go_at_call 53; refine hPl.mono ?_; rintro e w1 ⟨rfl, hb1⟩; obtain ⟨c0, hw1⟩ := PC _ hb1)
      go_ret
      exact ⟨ret_bool (by rw [HE.out]; simp [sortW, isT, h1, h2, h3]), hw1⟩
  · cases h2 : (of.toList == [98, 111, 111, 108]) <;> cases h3 : (of.toList == [116, 101, 120, 116])
    all_goals
      go_enter Tryz.func52, Tryz.ntmps52
      go_wp2_with (go_at_call 53; refine hPl.mono ?_; rintro e w1 ⟨rfl, hb1⟩; obtain ⟨c0, hw1⟩ := PC _ hb1)
      go_ret
      exact ⟨ret_bool (by rw [HE.out]; simp [h1]), hw1⟩

set_option maxRecDepth 20000 in
set_option maxHeartbeats 3200000 in
theorem l4Fits_any (f : F) (x : V) (w : World) (B : Nat) (u v : Value) (hF : FRep w (· < B) f u) (hR : Rep w (· < B) x v) (hB : B ≤ w.heap.size) :
    Calls Tryz.prog 30 #[u, v] w fun e w' => e = .returned (.bool (fitS f x)) ∧ Below w.heap.size w w' := by
  have hR' := hR
  obtain ⟨s, n, t, ns, ks⟩ := x
  obtain ⟨na, ka, nc, kc, rfl, hs, hns, -, hbs, hK⟩ := hR.inv
  obtain ⟨fa, fc, rfl, -⟩ := hF
  have hns3 := hs.2.2
  unfold maxLen at hns3
  have h80 := hK.1
  have hbx : ∀ o1 o2, Below w.heap.size w ((w.alloc o1).alloc o2) := below_box2 w
  by_cases h7 : s = 7
  · subst h7
    have HE : Hid (fitS f (.mk 7 n t ns ks) = (n == 0 && t.toList.isEmpty && nokV ns ks.length)) := rfl
    have HN : Hid (nokV ns ks.length = (((ns.length : Int) + (ks.length : Int)) == 0)) := by
      show _ = _
      unfold nokV
      rw [Bool.eq_iff_iff]; simp only [Bool.and_eq_true, beq_iff_eq]; omega
    cases hn : (n == 0)
    · go_enter Tryz.func30, Tryz.ntmps30
      go_wp2_with fail
      go_ret
      exact ⟨ret_bool (by rw [HE.out, hn]; rfl), hbx _ _⟩
    · cases ht : t.toList.isEmpty
      · go_enter Tryz.func30, Tryz.ntmps30
        go_wp2_with fail
        go_ret
        exact ⟨ret_bool (by rw [HE.out, hn, ht]; rfl), hbx _ _⟩
      · go_enter Tryz.func30, Tryz.ntmps30
        go_wp2_with fail
        go_ret
        exact ⟨ret_bool (by rw [HE.out, hn, ht, HN.out]; simp), hbx _ _⟩
  have g7 : (s == 7) = false := by simpa using h7
  have hO := fun W (hb : Below w.heap.size w W) => l4One_any f.of (.mk s n t ns ks) W B _ (hR'.under (hb.mono hB)) (by have := hb.size; omega)
  by_cases h1 : s = 1
  · subst h1
    cases hm : f.must
    · have HE : Hid (fitS f (.mk 1 n t ns ks) = oneB f.of (.mk 1 n t ns ks)) := by show _ = _; unfold fitS; rw [if_neg (by simp), if_neg (by simp [hm]), if_pos (Or.inr rfl)]
      cases hl : f.list
      all_goals
        go_enter Tryz.func30, Tryz.ntmps30
        go_wp2_with (go_at_call 52; refine (hO _ (hbx _ _)).mono ?_; rintro e w1 ⟨rfl, hb1⟩)
        go_ret
        exact ⟨ret_bool (by rw [HE.out]), (hbx _ _).trans (hb1.mono (by simp; omega))⟩
    · have HE : Hid (fitS f (.mk 1 n t ns ks) = false) := by show _ = _; unfold fitS; rw [if_neg (by simp), if_pos ⟨hm, rfl⟩]
      go_enter Tryz.func30, Tryz.ntmps30
      go_wp2_with fail
      go_ret
      exact ⟨ret_bool HE.out.symm, hbx _ _⟩
  have g1 : (s == 1) = false := by simpa using h1
  cases hl : f.list
  · have HE : Hid (fitS f (.mk s n t ns ks) = oneB f.of (.mk s n t ns ks)) := by show _ = _; unfold fitS; rw [if_neg h7, if_neg (fun h => h1 h.2), if_pos (Or.inl hl)]
    cases hm : f.must
    all_goals
      go_enter Tryz.func30, Tryz.ntmps30
      go_wp2_with (go_at_call 52; refine (hO _ (hbx _ _)).mono ?_; rintro e w1 ⟨rfl, hb1⟩)
      go_ret
      exact ⟨ret_bool (by rw [HE.out]), (hbx _ _).trans (hb1.mono (by simp; omega))⟩
  have HE : Hid (fitS f (.mk s n t ns ks) = (s == 5 && plainX (.mk s n t ns ks) && decide (ks.length ≤ 3) && kidsS f.of ks ks.length)) := by show _ = _; unfold fitS; rw [if_neg h7, if_neg (fun h => h1 h.2), if_neg (by simp [hl, h1])]
  clear hO
  generalize f.must = m
  have hPl := plain_any (.mk s n t ns ks) ((w.alloc (.cells #[.string f.name, .string f.of, .bool true, .bool m, .bool f.far, .bool f.hidden, .bool f.shared, .slice fa f.needs.length fc] 73)).alloc (.cells #[.int .i64 s, .int .i64 n, .string t, .slice na ns.length nc, .slice ka ks.length kc] 77)) B _ (hR'.under ((below_box2 w _ _).mono hB)) (by simp; omega)
  obtain ⟨X, hXe⟩ : ∃ X, X = ((w.alloc (.cells #[.string f.name, .string f.of, .bool true, .bool m, .bool f.far, .bool f.hidden, .bool f.shared, .slice fa f.needs.length fc] 73)).alloc (.cells #[.int .i64 s, .int .i64 n, .string t, .slice na ns.length nc, .slice ka ks.length kc] 77)) := ⟨_, rfl⟩
  have TB : ∀ W, Below (w.heap.size + 1 + 1) X W → W.cell? ⟨w.heap.size, 1, none⟩ = some (.string f.of) ∧ (W.cell? ⟨w.heap.size + 1, 0, none⟩ = some (.int .i64 s) ∧ W.cell? ⟨w.heap.size + 1, 1, none⟩ = some (.int .i64 n) ∧ W.cell? ⟨w.heap.size + 1, 2, none⟩ = some (.string t) ∧ W.cell? ⟨w.heap.size + 1, 3, none⟩ = some (.slice na ns.length nc) ∧ W.cell? ⟨w.heap.size + 1, 4, none⟩ = some (.slice ka ks.length kc)) ∧ Below w.heap.size w W ∧ w.heap.size + 1 < W.heap.size := fun W h => by
    obtain ⟨h1, h2, h3, h4⟩ := boxes2 (by rw [← hXe]; exact h)
    exact ⟨h1 1 (by simp), ⟨h2 0 (by simp), h2 1 (by simp), h2 2 (by simp), h2 3 (by simp), h2 4 (by simp)⟩, h3, h4⟩
  have hT0 : Below (w.heap.size + 1 + 1) X X := Below.refl _ _
  rw [← hXe] at hPl
  obtain ⟨-, -, hw0, hz0⟩ := TB X hT0
  cases h5 : (s == 5)
  · have h5' : (s != 5) = true := by simp only [bne, h5]; rfl
    cases m
    all_goals
      go_enter Tryz.func30, Tryz.ntmps30
      go_wp2_with fail
      go_ret
      exact ⟨ret_bool (by rw [HE.out, h5]; rfl), hbx _ _⟩
  have h5' : (s != 5) = false := by simp only [bne, h5]; rfl
  cases hp : plainX (.mk s n t ns ks)
  · rw [hp] at hPl
    cases m
    all_goals
      go_enter Tryz.func30, Tryz.ntmps30
      go_wp2_with (go_at_call 53; rw [← hXe]; refine hPl.mono ?_; rintro e w1 ⟨rfl, hb1⟩)
      go_ret
      exact ⟨ret_bool (by rw [HE.out, hp]; simp), (TB _ (hT0.trans (hb1.mono (by omega)))).2.2.1⟩
  rw [hp] at hPl HE
  by_cases h3 : ks.length ≤ 3
  case neg =>
    have h3' : (3 : Int) < (ks.length : Int) := by omega
    have h3'' : decide ((3 : Int) < (ks.length : Int)) = true := by simp; omega
    cases m
    all_goals
      go_enter Tryz.func30, Tryz.ntmps30
      go_wp2_with (
        go_at_call 53
        rw [← hXe]
        refine hPl.mono ?_
        rintro e w1 ⟨rfl, hb1⟩
        obtain ⟨p1, ⟨v0, v1, v2, v3, v4⟩, hw1, hz1⟩ := TB w1 (hT0.trans (hb1.mono (by omega))))
      go_ret
      exact ⟨ret_bool (by rw [HE.out, decide_eq_false h3]; simp), hw1⟩
  have h3' : ¬ (3 : Int) < (ks.length : Int) := by omega
  have h3'' : decide ((3 : Int) < (ks.length : Int)) = false := by simp; omega
  have HR : Hid (fitS f (.mk s n t ns ks) = kidsS f.of ks ks.length) := by show _ = _; rw [HE.out, h5, decide_eq_true h3]; rfl
  obtain ⟨-, b, off, C, hka, hc, hr⟩ := hK
  have hO := fun i (hi : i < ks.length) W (hb : Below w.heap.size w W) => l4One_any f.of (kth ks i) W B _ ((hr i hi).under (hb.mono hB)) (by have := hb.size; omega)
  clear HE
  cases m
  all_goals
    go_enter Tryz.func30, Tryz.ntmps30
    go_wp2_with (
      go_at_call 53
      rw [← hXe]
      refine hPl.mono ?_
      rintro e w1 ⟨rfl, hb1⟩
      have hT1 := hT0.trans (hb1.mono (by omega))
      obtain ⟨p1, ⟨v0, v1, v2, v3, v4⟩, hw1, hz1⟩ := TB w1 hT1)
    clear p1 v0 v1 v2 v3 v4 hw1 hz1 hb1 hPl hXe
    go_loopw [5] (fun i wr => ∃ k : Nat, k ≤ ks.length ∧ i = .int .i64 k ∧ Below (w.heap.size + 1 + 1) X wr ∧ kidsS f.of ks k = true) (fun i _ => ks.length - (intOf i).toNat)
    case atStart => exact ⟨0, Nat.zero_le _, rfl, hT1, rfl⟩
    case round =>
      clear hT1
      obtain ⟨k, hk, rfl, hT, hp⟩ := hrel
      obtain ⟨w2, rfl⟩ : ∃ x, x = wr := ⟨wr, rfl⟩
      have HP : Hid (kidsS f.of ks k = true) := hp
      clear hp
      obtain ⟨p1, ⟨v0, v1, v2, v3, v4⟩, hw2, hz2⟩ := TB w2 hT
      by_cases hlt : k < ks.length
      · have hki : (k : Int) < (ks.length : Int) := by omega
        obtain ⟨rfl, hbB⟩ := hka (by intro e; simp [e] at hlt)
        obtain ⟨na2, ka2, nc2, kc2, e0, e1, e2, e3, e4⟩ := (hr k hlt).heads
        have hck : ∀ W, Below w.heap.size w W → ∀ j, j < 5 → W.cell? ⟨b, off + k * 5 + j, none⟩ = some (C k j) := fun W hb j hj => (hb.cell (p := ⟨b, off + k * 5 + j, none⟩) (by show b < _; omega)).trans (hc k hlt j hj)
        have hcs : ∀ W, Below w.heap.size w W → W.cell? ⟨b, off + k * 5, none⟩ = some (.int .i64 (kth ks k).sort) ∧ W.cell? ⟨b, off + k * 5 + 1, none⟩ = some (.int .i64 (kth ks k).num) ∧ W.cell? ⟨b, off + k * 5 + 2, none⟩ = some (.string (kth ks k).text) ∧ W.cell? ⟨b, off + k * 5 + 3, none⟩ = some (.slice na2 (kth ks k).names.length nc2) ∧ W.cell? ⟨b, off + k * 5 + 4, none⟩ = some (.slice ka2 (kth ks k).kids.length kc2) := fun W hb =>
          ⟨(hck W hb 0 (by omega)).trans (congrArg some e0), (hck W hb 1 (by omega)).trans (congrArg some e1), (hck W hb 2 (by omega)).trans (congrArg some e2), (hck W hb 3 (by omega)).trans (congrArg some e3), (hck W hb 4 (by omega)).trans (congrArg some e4)⟩
        obtain ⟨c0, c1, c2, c3, c4⟩ := hcs w2 hw2
        have hOk := hO k hlt w2.drew hw2.drew
        rw [e0, e1, e2, e3, e4] at hOk
        have HF : Hid ((oneB f.of (kth ks k) && (kth ks k).kids.length == 0) = false → fitS f (.mk s n t ns ks) = false) := fun h => by rw [HR.out]; exact kidsS_false f.of ks _ k hlt h
        have HN : Hid ((oneB f.of (kth ks k) && (kth ks k).kids.length == 0) = true → kidsS f.of ks (k + 1) = true) := fun h => by rw [kidsS_succ, HP.out, h]; rfl
        generalize oneB f.of (kth ks k) = ob at hOk HF HN
        clear hck e0 e1 e2 e3 e4 hO
        cases ob
        · go_wp2_with fail
          refine wp_region_held_drew (S := fun w' => w'.cell? ⟨w.heap.size, 1, none⟩ = some (.string f.of) ∧ w'.cell? ⟨w.heap.size + 1, 4, none⟩ = some (.slice (some ⟨b, off, none⟩) ks.length kc) ∧ w'.cell? ⟨b, off + k * 5, none⟩ = some (.int .i64 (kth ks k).sort) ∧ w'.cell? ⟨b, off + k * 5 + 1, none⟩ = some (.int .i64 (kth ks k).num) ∧ w'.cell? ⟨b, off + k * 5 + 2, none⟩ = some (.string (kth ks k).text) ∧ w'.cell? ⟨b, off + k * 5 + 3, none⟩ = some (.slice na2 (kth ks k).names.length nc2) ∧ w'.cell? ⟨b, off + k * 5 + 4, none⟩ = some (.slice ka2 (kth ks k).kids.length kc2)) (by kernel_rfl) ⟨p1, v4, c0, c1, c2, c3, c4⟩ (fun hHeld => ?_)
          refine wpAnyH_take (i := 0) (oi := { dst := some 67, op := Op.fieldAddr 73 (Operand.tmp 2) 1, type := 0, pos := "l4_store.go:34", after := #[], guard := none }) (v := ?_) rfl (by kernel_rfl) (by kernel_rfl) (by kernel_rfl) (fun _ _ _ h => h) (Or.inl ⟨by rfl, ?_⟩) hHeld ?_
          rotate_left
          · intro w' hSw
            (try dsimp only at hSw)
            go_simp
            try with_reducible rfl
          try simp only [Act.put, List.setIfInBounds_toArray, List.set_cons_zero, List.set_cons_succ]
          refine wpAnyH_take (i := 1) (oi := { dst := some 68, op := Op.load 9 (Operand.tmp 67), type := 9, pos := "l4_store.go:34", after := #[{ on := 0, ground := Ground.data }], guard := none }) (v := ?_) rfl (by kernel_rfl) (by kernel_rfl) (by kernel_rfl) (fun _ _ _ h => h) (Or.inl ⟨by rfl, ?_⟩) hHeld ?_
          rotate_left
          · intro w' hSw
            (try dsimp only at hSw)
            go_simp
            try with_reducible rfl
          try simp only [Act.put, List.setIfInBounds_toArray, List.set_cons_zero, List.set_cons_succ]
          refine wpAnyH_take (i := 2) (oi := { dst := some 69, op := Op.fieldAddr 77 (Operand.tmp 3) 4, type := 0, pos := "l4_store.go:34", after := #[], guard := none }) (v := ?_) rfl (by kernel_rfl) (by kernel_rfl) (by kernel_rfl) (fun _ _ _ h => h) (Or.inl ⟨by rfl, ?_⟩) hHeld ?_
          rotate_left
          · intro w' hSw
            (try dsimp only at hSw)
            go_simp
            try with_reducible rfl
          try simp only [Act.put, List.setIfInBounds_toArray, List.set_cons_zero, List.set_cons_succ]
          refine wpAnyH_take (i := 3) (oi := { dst := some 70, op := Op.load 75 (Operand.tmp 69), type := 75, pos := "l4_store.go:34", after := #[{ on := 2, ground := Ground.data }], guard := none }) (v := ?_) rfl (by kernel_rfl) (by kernel_rfl) (by kernel_rfl) (fun _ _ _ h => h) (Or.inl ⟨by rfl, ?_⟩) hHeld ?_
          rotate_left
          · intro w' hSw
            (try dsimp only at hSw)
            go_simp
            try with_reducible rfl
          try simp only [Act.put, List.setIfInBounds_toArray, List.set_cons_zero, List.set_cons_succ]
          refine wpAnyH_take (i := 4) (oi := { dst := some 71, op := Op.move (Operand.tmp 5), type := 3, pos := "l4_store.go:34", after := #[], guard := none }) (v := ?_) rfl (by kernel_rfl) (by kernel_rfl) (by kernel_rfl) (fun _ _ _ h => h) (Or.inl ⟨by rfl, ?_⟩) hHeld ?_
          rotate_left
          · intro w' hSw
            (try dsimp only at hSw)
            go_simp
            try with_reducible rfl
          try simp only [Act.put, List.setIfInBounds_toArray, List.set_cons_zero, List.set_cons_succ]
          refine wpAnyH_take (i := 5) (oi := { dst := some 72, op := Op.indexAddr 75 (Operand.tmp 70) (Operand.tmp 71), type := 0, pos := "l4_store.go:34", after := #[{ on := 3, ground := Ground.data }, { on := 4, ground := Ground.data }], guard := none }) (v := ?_) rfl (by kernel_rfl) (by kernel_rfl) (by kernel_rfl) (fun _ _ _ h => h) (Or.inl ⟨by rfl, ?_⟩) hHeld ?_
          rotate_left
          · intro w' hSw
            (try dsimp only at hSw)
            go_simp
            try with_reducible rfl
          try simp only [Act.put, List.setIfInBounds_toArray, List.set_cons_zero, List.set_cons_succ]
          refine wpAnyH_take (i := 6) (oi := { dst := some 73, op := Op.load 77 (Operand.tmp 72), type := 77, pos := "l4_store.go:34", after := #[{ on := 5, ground := Ground.data }], guard := none }) (v := ?_) rfl (by kernel_rfl) (by kernel_rfl) (by kernel_rfl) (fun _ _ _ h => h) (Or.inl ⟨by rfl, ?_⟩) hHeld ?_
          rotate_left
          · intro w' hSw
            (try dsimp only at hSw)
            go_simp
            try with_reducible rfl
          try simp only [Act.put, List.setIfInBounds_toArray, List.set_cons_zero, List.set_cons_succ]
          refine wpAnyH_ready (rs := [7]) (by kernel_rfl) (by simp) ?_
          refine AllReadyH.cons (o := { dst := some 74, op := Op.call { callee := Callee.value (Operand.func 52), args := #[Operand.tmp 68, Operand.tmp 73], argTypes := #[9, 77] }, type := 4, pos := "l4_store.go:34", after := #[{ on := 1, ground := Ground.data }, { on := 6, ground := Ground.data }], guard := none }) rfl (fun K hK => ?_) AllReadyH.nil
          go_simp
          refine (hOk).mono ?_
          rintro e w3 ⟨rfl, hb3⟩
          have hT3 := hT.trans ((below_undrew hb3).mono (by omega))
          obtain ⟨p1', ⟨v0', v1', v2', v3', v4'⟩, hw3, hz3⟩ := TB w3 hT3
          obtain ⟨c0', c1', c2', c3', c4'⟩ := hcs w3 hw3
          refine hK.out _ _ ⟨p1', v4', c0', c1', c2', c3', c4'⟩ (fun hHeld => ?_)
          clear hK K
          try simp only [Act.put, List.setIfInBounds_toArray, List.set_cons_zero, List.set_cons_succ]
          refine wpAnyH_take (i := 8) (oi := { dst := some 75, op := Op.unOp UnOp.not 4 (Operand.tmp 74), type := 4, pos := "l4_store.go:34", after := #[{ on := 7, ground := Ground.data }], guard := none }) (v := ?_) rfl (by kernel_rfl) (by kernel_rfl) (by kernel_rfl) (fun _ _ _ h => h) (Or.inl ⟨by rfl, ?_⟩) hHeld ?_
          rotate_left
          · intro w' hSw
            (try dsimp only at hSw)
            go_simp
            try with_reducible rfl
          try simp only [Act.put, List.setIfInBounds_toArray, List.set_cons_zero, List.set_cons_succ]
          refine wpAnyH_take (i := 9) (oi := { dst := some 76, op := Op.move (Operand.tmp 75), type := 4, pos := "l4_store.go:34", after := #[{ on := 8, ground := Ground.data }, { on := 7, ground := Ground.chain }], guard := none }) (v := ?_) rfl (by kernel_rfl) (by kernel_rfl) (by kernel_rfl) (fun _ _ _ h => h) (Or.inl ⟨by rfl, ?_⟩) hHeld ?_
          rotate_left
          · intro w' hSw
            (try dsimp only at hSw)
            go_simp
            try with_reducible rfl
          try simp only [Act.put, List.setIfInBounds_toArray, List.set_cons_zero, List.set_cons_succ]
          refine wpAnyH_take (i := 10) (oi := { dst := some 77, op := Op.fieldAddr 77 (Operand.tmp 3) 4, type := 0, pos := "l4_store.go:34", after := #[{ on := 9, ground := Ground.guard }], guard := some (9, false) }) (v := undef) rfl (by kernel_rfl) (by kernel_rfl) (by kernel_rfl) (fun _ _ _ h => h) (Or.inr ⟨by rfl, rfl⟩) hHeld ?_
          try simp only [Act.put, List.setIfInBounds_toArray, List.set_cons_zero, List.set_cons_succ]
          refine wpAnyH_take (i := 11) (oi := { dst := some 78, op := Op.load 75 (Operand.tmp 77), type := 75, pos := "l4_store.go:34", after := #[{ on := 10, ground := Ground.data }, { on := 9, ground := Ground.guard }], guard := some (9, false) }) (v := undef) rfl (by kernel_rfl) (by kernel_rfl) (by kernel_rfl) (fun _ _ _ h => h) (Or.inr ⟨by rfl, rfl⟩) hHeld ?_
          try simp only [Act.put, List.setIfInBounds_toArray, List.set_cons_zero, List.set_cons_succ]
          refine wpAnyH_take (i := 12) (oi := { dst := some 79, op := Op.move (Operand.tmp 5), type := 3, pos := "l4_store.go:34", after := #[{ on := 9, ground := Ground.guard }], guard := some (9, false) }) (v := undef) rfl (by kernel_rfl) (by kernel_rfl) (by kernel_rfl) (fun _ _ _ h => h) (Or.inr ⟨by rfl, rfl⟩) hHeld ?_
          try simp only [Act.put, List.setIfInBounds_toArray, List.set_cons_zero, List.set_cons_succ]
          refine wpAnyH_take (i := 13) (oi := { dst := some 80, op := Op.indexAddr 75 (Operand.tmp 78) (Operand.tmp 79), type := 0, pos := "l4_store.go:34", after := #[{ on := 11, ground := Ground.data }, { on := 12, ground := Ground.data }, { on := 9, ground := Ground.guard }], guard := some (9, false) }) (v := undef) rfl (by kernel_rfl) (by kernel_rfl) (by kernel_rfl) (fun _ _ _ h => h) (Or.inr ⟨by rfl, rfl⟩) hHeld ?_
          try simp only [Act.put, List.setIfInBounds_toArray, List.set_cons_zero, List.set_cons_succ]
          refine wpAnyH_take (i := 14) (oi := { dst := some 81, op := Op.fieldAddr 77 (Operand.tmp 80) 4, type := 0, pos := "l4_store.go:34", after := #[{ on := 13, ground := Ground.data }, { on := 9, ground := Ground.guard }], guard := some (9, false) }) (v := undef) rfl (by kernel_rfl) (by kernel_rfl) (by kernel_rfl) (fun _ _ _ h => h) (Or.inr ⟨by rfl, rfl⟩) hHeld ?_
          try simp only [Act.put, List.setIfInBounds_toArray, List.set_cons_zero, List.set_cons_succ]
          refine wpAnyH_take (i := 15) (oi := { dst := some 82, op := Op.load 75 (Operand.tmp 81), type := 75, pos := "l4_store.go:34", after := #[{ on := 14, ground := Ground.data }, { on := 9, ground := Ground.guard }], guard := some (9, false) }) (v := undef) rfl (by kernel_rfl) (by kernel_rfl) (by kernel_rfl) (fun _ _ _ h => h) (Or.inr ⟨by rfl, rfl⟩) hHeld ?_
          try simp only [Act.put, List.setIfInBounds_toArray, List.set_cons_zero, List.set_cons_succ]
          refine wpAnyH_take (i := 16) (oi := { dst := some 83, op := Op.call { callee := Callee.builtin Builtin.len, args := #[Operand.tmp 82], argTypes := #[75] }, type := 3, pos := "l4_store.go:34", after := #[{ on := 15, ground := Ground.data }, { on := 9, ground := Ground.guard }], guard := some (9, false) }) (v := undef) rfl (by kernel_rfl) (by kernel_rfl) (by kernel_rfl) (fun _ _ _ h => h) (Or.inr ⟨by rfl, rfl⟩) hHeld ?_
          try simp only [Act.put, List.setIfInBounds_toArray, List.set_cons_zero, List.set_cons_succ]
          refine wpAnyH_take (i := 17) (oi := { dst := some 84, op := Op.binOp BinOp.gtr 3 (Operand.tmp 83) (Operand.const (Value.int IntKind.i64 0)) 3, type := 4, pos := "l4_store.go:34", after := #[{ on := 16, ground := Ground.data }, { on := 9, ground := Ground.guard }], guard := some (9, false) }) (v := undef) rfl (by kernel_rfl) (by kernel_rfl) (by kernel_rfl) (fun _ _ _ h => h) (Or.inr ⟨by rfl, rfl⟩) hHeld ?_
          try simp only [Act.put, List.setIfInBounds_toArray, List.set_cons_zero, List.set_cons_succ]
          refine wpAnyH_take (i := 18) (oi := { dst := some 85, op := Op.pick (Operand.tmp 76) (Operand.const (Value.bool true)) (Operand.tmp 84), type := 4, pos := "l4_store.go:34", after := #[{ on := 9, ground := Ground.data }, { on := 17, ground := Ground.data }], guard := none }) (v := ?_) rfl (by kernel_rfl) (by kernel_rfl) (by kernel_rfl) (fun _ _ _ h => h) (Or.inl ⟨by rfl, ?_⟩) hHeld ?_
          rotate_left
          · intro w' hSw
            (try dsimp only at hSw)
            go_simp
            try with_reducible rfl
          try simp only [Act.put, List.setIfInBounds_toArray, List.set_cons_zero, List.set_cons_succ]
          refine wpAnyH_done (by kernel_rfl) ?_ _
          go_wp2_with fail
          go_ret
          exact ⟨ret_bool (HF.out (by rfl)).symm, by first | exact hw3 | exact hw3.drew | exact below_drews hw3 _⟩
        · have HKL : Hid (∀ q : Bool, q = decide (0 < (kth ks k).kids.length) → (q = true → fitS f (.mk s n t ns ks) = false) ∧ (q = false → kidsS f.of ks (k + 1) = true)) := fun q hq => ⟨fun e => HF.out (by rw [e] at hq; have := of_decide_eq_true hq.symm; simp; intro e0; rw [e0] at this; simp at this), fun e => HN.out (by rw [e] at hq; have := of_decide_eq_false hq.symm; simp; simpa using (show (kth ks k).kids.length = 0 by omega))⟩
          have h80k : 0 ≤ ((kth ks k).kids.length : Int) := by omega
          go_wp2_with fail
          go_cut [85] (fun r wx => r = .bool (decide (0 < (kth ks k).kids.length)) ∧ Below (w.heap.size + 1 + 1) X wx)
          case first =>
            go_region_held3 (fun w' => w'.cell? ⟨w.heap.size, 1, none⟩ = some (.string f.of) ∧ w'.cell? ⟨w.heap.size + 1, 4, none⟩ = some (.slice (some ⟨b, off, none⟩) ks.length kc) ∧ w'.cell? ⟨b, off + k * 5, none⟩ = some (.int .i64 (kth ks k).sort) ∧ w'.cell? ⟨b, off + k * 5 + 1, none⟩ = some (.int .i64 (kth ks k).num) ∧ w'.cell? ⟨b, off + k * 5 + 2, none⟩ = some (.string (kth ks k).text) ∧ w'.cell? ⟨b, off + k * 5 + 3, none⟩ = some (.slice na2 (kth ks k).names.length nc2) ∧ w'.cell? ⟨b, off + k * 5 + 4, none⟩ = some (.slice ka2 (kth ks k).kids.length kc2)) (go_keep)
              (first
                | (
                  go_at_call 52
                  refine hOk.mono ?_
                  rintro e w3 ⟨rfl, hb3⟩
                  have hT3 := hT.trans ((below_undrew hb3).mono (by omega))
                  obtain ⟨p1', ⟨v0', v1', v2', v3', v4'⟩, hw3, hz3⟩ := TB w3 hT3
                  obtain ⟨c0', c1', c2', c3', c4'⟩ := hcs w3 hw3))
            all_goals
              go_wp2_with fail
              go_meet
              case rel => exact ⟨rfl, hT3⟩
          case rest =>
          obtain ⟨rfl, hT3⟩ := hcut
          obtain ⟨w3, rfl⟩ : ∃ x, x = wc := ⟨wc, rfl⟩
          obtain ⟨-, -, hw3, -⟩ := TB w3 hT3
          clear p1 v0 v1 v2 v3 v4 c0 c1 c2 c3 c4
          cases hq : decide (0 < (kth ks k).kids.length)
          · have HQ := (HKL.out _ rfl).2 hq
            have HQ' : Hid (kidsS f.of ks (k + 1) = true) := HQ
            clear HQ
            go_wp2_with fail
            go_roundw
            case rel => exact ⟨k + 1, by omega, by go_num, hT3, HQ'.out⟩
            case measure => simp [intOf]; omega
          · have HQ := (HKL.out _ rfl).1 hq
            have HQ' : Hid (fitS f (.mk s n t ns ks) = false) := HQ
            clear HQ
            go_wp2_with fail
            go_ret
            exact ⟨ret_bool HQ'.out.symm, hw3⟩
      · go_wp2_with fail
        go_ret
        have e : k = ks.length := by omega
        exact ⟨ret_bool (by rw [HR.out, ← e, HP.out]), hw2⟩
end Go.Proofs.YtjpabpkfdahdhaaGreat

namespace Go.Proofs.YtjpabpkfdahdhaaGreat
set_option linter.unusedSimpArgs false
set_option linter.unusedVariables false
open Go.RowKit

set_option maxRecDepth 20000 in
set_option maxHeartbeats 6400000 in
theorem l4Row_any (t : T) (r : Ro) (w : World) (B : Nat) (v u : Value) (hT : TRep w (· < B) t v) (hR : RoRep w (· < B) r u) (hB : B ≤ w.heap.size) :
    Calls Tryz.prog 17 #[v, u] w fun e w' => e = .returned (.bool (rowB t r)) ∧ Below w.heap.size w w' := by
  obtain ⟨type, id, cells⟩ := r
  obtain ⟨ca, cc, rfl, hC, hcc, -⟩ := hR
  obtain ⟨name, key, fields⟩ := t
  obtain ⟨fa, fc, rfl, hK, -⟩ := hT
  simp only at hC hcc hK
  have h96 := hC.1
  have h64 := hK.1
  have HRB : Hid (rowB ⟨name, key, fields⟩ ⟨type, id, cells⟩ = (decide (0 ≤ id) && decide (id ≤ 999999) && decide (cells.length = (KF fields fields.length).length) && cellsTo ⟨name, key, fields⟩ ⟨type, id, cells⟩ (KF fields fields.length) (KF fields fields.length).length)) := rfl
  have RS := row_short ⟨name, key, fields⟩ ⟨type, id, cells⟩
  have RBD := row_bad ⟨name, key, fields⟩ ⟨type, id, cells⟩
  have CG := cells_grow ⟨name, key, fields⟩ ⟨type, id, cells⟩
  simp only at RS RBD CG
  obtain ⟨X, hXe⟩ : ∃ X, X = ((w.alloc (.cells #[.string name, .string key, .slice fa fields.length fc] 54)).alloc (.cells #[.string type, .int .i64 id, .slice ca cells.length cc] 49)) := ⟨_, rfl⟩
  have TB : ∀ W, Below (w.heap.size + 1 + 1) X W → (W.cell? ⟨w.heap.size, 1, none⟩ = some (.string key) ∧ W.cell? ⟨w.heap.size, 2, none⟩ = some (.slice fa fields.length fc)) ∧ (W.cell? ⟨w.heap.size + 1, 1, none⟩ = some (.int .i64 id) ∧ W.cell? ⟨w.heap.size + 1, 2, none⟩ = some (.slice ca cells.length cc)) ∧ Below w.heap.size w W ∧ w.heap.size + 1 < W.heap.size := fun W h => by
    obtain ⟨h1, h2, h3, h4⟩ := boxes2 (by rw [← hXe]; exact h)
    exact ⟨⟨h1 1 (by simp), h1 2 (by simp)⟩, ⟨h2 1 (by simp), h2 2 (by simp)⟩, h3, h4⟩
  have hT0 : Below (w.heap.size + 1 + 1) X ((w.alloc (.cells #[.string name, .string key, .slice fa fields.length fc] 54)).alloc (.cells #[.string type, .int .i64 id, .slice ca cells.length cc] 49)) := by rw [hXe]; exact Below.refl _ _
  clear hXe
  go_enter Tryz.func17, Tryz.ntmps17
  go_wp2_with fail
  go_loopw [5, 6] (fun kk ii wr => ∃ i : Nat, i ≤ fields.length ∧ kk = .int .i64 ((KF fields i).length : Int) ∧ ii = .int .i64 i ∧ Below (w.heap.size + 1 + 1) X wr ∧ cellsTo ⟨name, key, fields⟩ ⟨type, id, cells⟩ (KF fields fields.length) (KF fields i).length = true) (fun _ ii _ => fields.length - (intOf ii).toNat)
  case atStart => exact ⟨0, Nat.zero_le _, rfl, rfl, hT0, rfl⟩
  case round =>
    clear hT0
    obtain ⟨i, hi, rfl, rfl, hT, hp⟩ := hrel
    obtain ⟨w0, rfl⟩ : ∃ x, x = wr := ⟨wr, rfl⟩
    have HP : Hid (cellsTo ⟨name, key, fields⟩ ⟨type, id, cells⟩ (KF fields fields.length) (KF fields i).length = true) := hp
    clear hp
    have hkl := KF_len fields i
    obtain ⟨⟨p1, p2⟩, ⟨q1, q2⟩, hw0, hz0⟩ := TB w0 hT
    by_cases hlt : i < fields.length
    · have hii : (i : Int) < (fields.length : Int) := by omega
      obtain ⟨b, off, na, nc, rfl, hFR, hcs⟩ := hK.at hB i hlt
      obtain ⟨f0, f1, f2, f3, f4, f5, f6, f7⟩ := hcs w0 hw0
      clear hcs
      cases hf : (fth fields i).far
      case true =>
        rw [hf] at f4
        have HN : Hid (KF fields (i + 1) = KF fields i) := by show _ = _; rw [KF, if_pos hf]
        go_wp2_with fail
        go_roundw
        case rel => exact ⟨i + 1, by omega, by rw [HN.out], by go_num, hT.alloc (by omega) _, by rw [HN.out]; exact HP.out⟩
        case measure => simp [intOf]; omega
      rw [hf] at f4 hFR
      have HN : Hid ((KF fields (i + 1)).length = (KF fields i).length + 1) := by show _ = _; rw [KF, if_neg (by simp [hf])]; simp
      have HRS : Hid (cells.length ≤ (KF fields i).length → rowB ⟨name, key, fields⟩ ⟨type, id, cells⟩ = false) := RS i hlt hf
      have HRBD : Hid (cellB ⟨name, key, fields⟩ id (fth fields i) (cth cells (KF fields i).length) = false → rowB ⟨name, key, fields⟩ ⟨type, id, cells⟩ = false) := RBD i hlt hf
      have HCG : Hid (cellB ⟨name, key, fields⟩ id (fth fields i) (cth cells (KF fields i).length) = true → cellsTo ⟨name, key, fields⟩ ⟨type, id, cells⟩ (KF fields fields.length) (KF fields (i + 1)).length = true) := CG i hlt hf HP.out
      have HKE : Hid (∃ k, k = (KF fields i).length) := ⟨_, rfl⟩
      generalize hkk : (KF fields i).length = k at hkl HN HRS HRBD HCG
      go_wp2_with fail
      obtain ⟨W1, hW1⟩ : ∃ x, x = (w0.alloc (.cells #[.string (fth fields i).name, .string (fth fields i).of, .bool (fth fields i).list, .bool (fth fields i).must, .bool false, .bool (fth fields i).hidden, .bool (fth fields i).shared, .slice na (fth fields i).needs.length nc] 73)) := ⟨_, rfl⟩
      have bF : Below w0.heap.size w0 W1 := by rw [hW1]; exact below_box _ _
      have zW1 : w0.heap.size < W1.heap.size := by rw [hW1]; simp
      have KFB : W1.heap[w0.heap.size]? = some (.cells #[.string (fth fields i).name, .string (fth fields i).of, .bool (fth fields i).list, .bool (fth fields i).must, .bool false, .bool (fth fields i).hidden, .bool (fth fields i).shared, .slice na (fth fields i).needs.length nc] 73 (0, 0)) := by rw [hW1]; exact heap_alloc_new _ _
      rw [← hW1]
      clear hW1 f0 f1 f2 f3 f4 f5 f6 f7 p1 p2 q1 q2
      have hT1 := hT.trans (bF.mono (by omega))
      obtain ⟨⟨p1', p2'⟩, ⟨q1', q2'⟩, hw1, hz1⟩ := TB W1 hT1
      by_cases hkc : k < cells.length
      case neg =>
        have hk1 : (cells.length : Int) ≤ (k : Int) := by omega
        have hk2 : decide ((cells.length : Int) ≤ (k : Int)) = true := by simp; omega
        have HQ : Hid (rowB ⟨name, key, fields⟩ ⟨type, id, cells⟩ = false) := HRS.out (by omega)
        clear hkk HRS HRBD HCG HN
        go_quiet (fail)
        go_wp2_with fail
        go_ret
        exact ⟨ret_bool HQ.out.symm, below_drews hw1 _⟩
      have hkci : (k : Int) < (cells.length : Int) := by omega
      have hkci2 : decide ((cells.length : Int) ≤ (k : Int)) = false := by simp; omega
      have hkci3 : decide (cells.length ≤ k) = false := by simp; omega
      obtain ⟨b', off', na2, ka2, nc2, kc2, rfl, hV, hds⟩ := hC.at hB k hkc
      have AF : ∀ W, Below W1.heap.size W1 W → (W.cell? ⟨w0.heap.size, 0, none⟩ = some (.string (fth fields i).name) ∧ W.cell? ⟨w0.heap.size, 1, none⟩ = some (.string (fth fields i).of) ∧ W.cell? ⟨w0.heap.size, 2, none⟩ = some (.bool (fth fields i).list) ∧ W.cell? ⟨w0.heap.size, 3, none⟩ = some (.bool (fth fields i).must) ∧ W.cell? ⟨w0.heap.size, 4, none⟩ = some (.bool false) ∧ W.cell? ⟨w0.heap.size, 5, none⟩ = some (.bool (fth fields i).hidden) ∧ W.cell? ⟨w0.heap.size, 6, none⟩ = some (.bool (fth fields i).shared) ∧ W.cell? ⟨w0.heap.size, 7, none⟩ = some (.slice na (fth fields i).needs.length nc)) ∧ (W.cell? ⟨b', off' + k * 6, none⟩ = some (.string (cth cells k).name) ∧ W.cell? ⟨b', off' + k * 6 + 1, none⟩ = some (.int .i64 (cth cells k).val.sort) ∧ W.cell? ⟨b', off' + k * 6 + 2, none⟩ = some (.int .i64 (cth cells k).val.num) ∧ W.cell? ⟨b', off' + k * 6 + 3, none⟩ = some (.string (cth cells k).val.text) ∧ W.cell? ⟨b', off' + k * 6 + 4, none⟩ = some (.slice na2 (cth cells k).val.names.length nc2) ∧ W.cell? ⟨b', off' + k * 6 + 5, none⟩ = some (.slice ka2 (cth cells k).val.kids.length kc2)) ∧ W.cell? ⟨w.heap.size, 1, none⟩ = some (.string key) ∧ W.cell? ⟨w.heap.size + 1, 1, none⟩ = some (.int .i64 id) ∧ W.cell? ⟨w.heap.size + 1, 2, none⟩ = some (.slice (some ⟨b', off', none⟩) cells.length cc) ∧ Below (w.heap.size + 1 + 1) X W ∧ Below w.heap.size w W := fun W h => by
        have K := (h.block _ zW1).trans KFB
        have h2 := hT1.trans (h.mono (by omega))
        obtain ⟨⟨a1, a2⟩, ⟨a3, a4⟩, a5, -⟩ := TB W h2
        exact ⟨⟨(box_at K 0 (by simp)).1, (box_at K 1 (by simp)).1, (box_at K 2 (by simp)).1, (box_at K 3 (by simp)).1, (box_at K 4 (by simp)).1, (box_at K 5 (by simp)).1, (box_at K 6 (by simp)).1, (box_at K 7 (by simp)).1⟩, hds W a5, a1, a3, a4, h2, a5⟩
      have hfit := l4Fits_any (fth fields i) (cth cells k).val W1.drew B _ _ (hFR.under (hw1.drew.mono hB)) (hV.under (hw1.drew.mono hB)) (by simp; omega)
      have HCB : Hid (cellB ⟨name, key, fields⟩ id (fth fields i) (cth cells k) = ((cth cells k).name.toList == (fth fields i).name.toList && fitS (fth fields i) (cth cells k).val && (!((fth fields i).name.toList == key.toList) || ((cth cells k).val.sort == 3 && (cth cells k).val.num == id)))) := rfl
      generalize fitS (fth fields i) (cth cells k).val = fi at hfit HCB
      obtain ⟨⟨g0', g1', g2', g3', g4', g5', g6', g7'⟩, ⟨d0, d1, d2, d3, d4, d5⟩, -⟩ := AF _ (Below.refl _ _)
      clear hds HRS
      cases x1 : ((cth cells k).name.toList == (fth fields i).name.toList)
      · have x1' : ((cth cells k).name.toList != (fth fields i).name.toList) = true := by simp only [bne, x1]; rfl
        have HQ : Hid (rowB ⟨name, key, fields⟩ ⟨type, id, cells⟩ = false) := HRBD.out (by rw [HCB.out, x1]; rfl)
        clear hkk HRBD HCG HN HCB AF hfit
        go_quiet (fail)
        go_wp2_with fail
        go_ret
        exact ⟨ret_bool HQ.out.symm, below_drews hw1 _⟩
      have x1' : ((cth cells k).name.toList != (fth fields i).name.toList) = false := by simp only [bne, x1]; rfl
      rw [x1] at HCB
      clear hkk
      go_cut [49] (fun r wx => r = .bool (!fi) ∧ Below W1.heap.size W1 wx)
      case first =>
        go_region_held3 (fun w' => w'.cell? ⟨w.heap.size + 1, 2, none⟩ = some (.slice (some ⟨b', off', none⟩) cells.length cc) ∧ w'.cell? ⟨w0.heap.size, 0, none⟩ = some (.string (fth fields i).name) ∧ w'.cell? ⟨w0.heap.size, 1, none⟩ = some (.string (fth fields i).of) ∧ w'.cell? ⟨w0.heap.size, 2, none⟩ = some (.bool (fth fields i).list) ∧ w'.cell? ⟨w0.heap.size, 3, none⟩ = some (.bool (fth fields i).must) ∧ w'.cell? ⟨w0.heap.size, 4, none⟩ = some (.bool false) ∧ w'.cell? ⟨w0.heap.size, 5, none⟩ = some (.bool (fth fields i).hidden) ∧ w'.cell? ⟨w0.heap.size, 6, none⟩ = some (.bool (fth fields i).shared) ∧ w'.cell? ⟨w0.heap.size, 7, none⟩ = some (.slice na (fth fields i).needs.length nc) ∧ w'.cell? ⟨b', off' + k * 6, none⟩ = some (.string (cth cells k).name) ∧ w'.cell? ⟨b', off' + k * 6 + 1, none⟩ = some (.int .i64 (cth cells k).val.sort) ∧ w'.cell? ⟨b', off' + k * 6 + 2, none⟩ = some (.int .i64 (cth cells k).val.num) ∧ w'.cell? ⟨b', off' + k * 6 + 3, none⟩ = some (.string (cth cells k).val.text) ∧ w'.cell? ⟨b', off' + k * 6 + 4, none⟩ = some (.slice na2 (cth cells k).val.names.length nc2) ∧ w'.cell? ⟨b', off' + k * 6 + 5, none⟩ = some (.slice ka2 (cth cells k).val.kids.length kc2)) (go_keep)
          (first
            | (
              go_at_call 30
              refine hfit.mono ?_
              rintro e w3 ⟨rfl, hb3⟩
              have hb3' := below_undrew hb3
              obtain ⟨⟨m0, m1, m2, m3, m4, m5, m6, m7⟩, ⟨n0, n1, n2, n3, n4, n5⟩, o1, o2, o3, hT3, hw3⟩ := AF w3 hb3'))
        all_goals
          go_wp2_with fail
          go_meet
          case rel => exact ⟨rfl, hb3'⟩
      case rest =>
      obtain ⟨rfl, hb3⟩ := hcut
      obtain ⟨w3, rfl⟩ : ∃ x, x = wc := ⟨wc, rfl⟩
      have AF3 := AF w3 hb3
      have z31 := hb3.size
      clear g0' g1' g2' g3' g4' g5' g6' g7' d0 d1 d2 d3 d4 d5 hfit p1' p2' q1' q2' hw1 hT1 AF hb3
      obtain ⟨⟨m0, m1, m2, m3, m4, m5, m6, m7⟩, ⟨n0, n1, n2, n3, n4, n5⟩, o1, o2, o3, hT3, hw3⟩ := AF3
      cases fi
      · have HQ : Hid (rowB ⟨name, key, fields⟩ ⟨type, id, cells⟩ = false) := HRBD.out (by rw [HCB.out]; rfl)
        clear HRBD HCG HN HCB
        go_wp2_with fail
        go_ret
        exact ⟨ret_bool HQ.out.symm, hw3⟩
      have z3 := hT3.size
      have HTV := hT3.alloc (by omega) (.cells #[.int .i64 (cth cells k).val.sort, .int .i64 (cth cells k).val.num, .string (cth cells k).val.text, .slice na2 (cth cells k).val.names.length nc2, .slice ka2 (cth cells k).val.kids.length kc2] 77)
      obtain ⟨⟨l1, -⟩, ⟨l2, -⟩, hwV, -⟩ := TB _ HTV
      have l0 := fun o => ((below_box w3 o).cell (p := ⟨w0.heap.size, 0, none⟩) (cell_block' m0)).trans m0
      cases x3 : ((fth fields i).name.toList == key.toList)
      · have HQ : Hid (cellsTo ⟨name, key, fields⟩ ⟨type, id, cells⟩ (KF fields fields.length) (KF fields (i + 1)).length = true) := HCG.out (by rw [HCB.out, x3]; rfl)
        clear HRBD HCG HCB
        go_wp2_with fail
        go_roundw
        case rel => exact ⟨i + 1, by omega, by rw [HN.out]; go_num, by go_num, HTV, HQ.out⟩
        case measure => simp [intOf]; omega
      rw [x3] at HCB
      cases x4 : ((cth cells k).val.sort == 3)
      · have x4' : ((cth cells k).val.sort != 3) = true := by simp only [bne, x4]; rfl
        have HQ : Hid (rowB ⟨name, key, fields⟩ ⟨type, id, cells⟩ = false) := HRBD.out (by rw [HCB.out, x4]; rfl)
        clear HRBD HCG HN HCB
        go_wp2_with fail
        go_ret
        exact ⟨ret_bool HQ.out.symm, hwV⟩
      have x4' : ((cth cells k).val.sort != 3) = false := by simp only [bne, x4]; rfl
      rw [x4] at HCB
      cases x5 : ((cth cells k).val.num == id)
      · have x5' : ((cth cells k).val.num != id) = true := by simp only [bne, x5]; rfl
        have HQ : Hid (rowB ⟨name, key, fields⟩ ⟨type, id, cells⟩ = false) := HRBD.out (by rw [HCB.out, x5]; rfl)
        clear HRBD HCG HN HCB
        go_wp2_with fail
        go_ret
        exact ⟨ret_bool HQ.out.symm, hwV⟩
      · have x5' : ((cth cells k).val.num != id) = false := by simp only [bne, x5]; rfl
        have HQ : Hid (cellsTo ⟨name, key, fields⟩ ⟨type, id, cells⟩ (KF fields fields.length) (KF fields (i + 1)).length = true) := HCG.out (by rw [HCB.out, x5]; rfl)
        clear HRBD HCG HCB
        go_wp2_with fail
        go_roundw
        case rel => exact ⟨i + 1, by omega, by rw [HN.out]; go_num, by go_num, HTV, HQ.out⟩
        case measure => simp [intOf]; omega
    · have e : i = fields.length := by omega
      subst e
      have HQ : Hid (rowB ⟨name, key, fields⟩ ⟨type, id, cells⟩ = (decide (0 ≤ id) && decide (id ≤ 999999) && decide (cells.length = (KF fields fields.length).length))) := by show _ = _; rw [HRB.out, HP.out]; simp
      by_cases hl : (KF fields fields.length).length = cells.length
      · have hl1 : (((KF fields fields.length).length : Int) == (cells.length : Int)) = true := by rw [hl]; simp
        go_wp2_with (go_at_call 15; refine (l1In_any _ _ _ _).mono ?_; rintro e w1 ⟨rfl, rfl⟩)
        go_ret
        exact ⟨ret_bool (by rw [HQ.out, decide_eq_true hl.symm]; simp), hw0⟩
      · have hl1 : (((KF fields fields.length).length : Int) == (cells.length : Int)) = false := by rw [beq_eq_false_iff_ne]; omega
        go_wp2_with fail
        go_ret
        have hne : ¬ cells.length = (KF fields fields.length).length := fun e => hl e.symm
        exact ⟨ret_bool (by rw [HQ.out, decide_eq_false hne]; simp), hw0⟩
end Go.Proofs.YtjpabpkfdahdhaaGreat
