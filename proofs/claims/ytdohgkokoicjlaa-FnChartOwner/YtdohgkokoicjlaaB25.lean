import Derived.Test.YtdohgkokoicjlaaB1
import Derived.Test.YtdohgkokoicjlaaB24
set_option linter.unusedSimpArgs false
set_option linter.unusedVariables false
namespace Go.Proofs.Ytdohgkokoicjlaa
open Go.RowKit Go.Maps
attribute [local go_sem] Oper.semAt_some
def PartsEnd (w : World) (rb cb q0 : Nat) (e : Ending) (w' : World) : Prop := ∃ (n : Nat) (σ : Sh) (c q pb pc : Nat) (ps : List Pv), e = .returned (.slice (some ⟨pb, 0, none⟩) n pc) ∧ 1 ≤ n ∧ n ≤ 3 ∧ c ≤ 56 ∧ q ≤ q0 + 10000 ∧ PSt w rb cb n w' σ c q pb pc ps
set_option maxRecDepth 20000 in
set_option maxHeartbeats 12800000 in
theorem l11Parts_any (w : World) (rb cb q0 : Nat) (hR : RdOk w rb cb q0) (hq : q0 ≤ 80000) :
    Calls Try.prog 32 #[.pointer (some ⟨rb, 0, none⟩)] w (PartsEnd w rb cb q0) := by
  obtain ⟨hr1, hr2, hr3⟩ := hR.lt
  have HP0 := hid_of (pick_any w rb cb q0 3 hR (by omega) (by omega) (by omega))
  clear hR
  obtain ⟨iP, hiP, hzP, hsP, hbP⟩ := info_parts infoP
  go_enter Try.func32, Try.ntmps32
  go_wp2_with (go_at_call 33; refine HP0.out.mono ?_; rintro e w1 ⟨x, rfl, hx, r1, o1, z1⟩)
  obtain ⟨n, hn⟩ : ∃ n, n = 1 + x := ⟨_, rfl⟩
  have hnI : (1 : Int) + (x : Int) = (n : Int) := by omega
  have hn1 : 1 ≤ n := by omega
  have hn3 : n ≤ 3 := by omega
  have hps := PSt.start r1 o1 hr1 hr2 (by omega)
  rw [z1] at hps
  have HPS := hid_of hps
  clear hps
  simp only [hnI]
  clear HP0 hn hx r1 o1 hnI
  generalize w1.alloc (.cells #[] 25) = wS at *
  go_loopw [4, 5, 6] (fun v i _ wr => ∃ (k : Nat) (σ : Sh) (pb pc : Nat) (ps : List Pv), k ≤ n ∧ v = .slice (some ⟨pb, 0, none⟩) k pc ∧ i = .int .i64 k ∧ Hid (PSt w rb cb k wr σ 0 (q0 + 1) pb pc ps)) (fun _ i _ _ => n - (intOf i).toNat)
  case atStart => exact ⟨0, _, _, 0, [], Nat.zero_le _, rfl, rfl, HPS⟩
  case round =>
    obtain ⟨k, σ, pb, pc, ps, hk, rfl, rfl, HP⟩ := hrel
    obtain ⟨wK, rfl⟩ : ∃ x, x = wr := ⟨wr, rfl⟩
    clear HPS
    by_cases hlt : k < n
    case neg =>
      have hke : k = n := by omega
      subst hke
      have HFL := hid_of (l11Fields_any wK)
      have hkn : ¬ (k : Int) < (k : Int) := by omega
      go_wp2_with (first
        | (go_at_call 55; refine HFL.out.mono ?_; rintro e wL ⟨σL, tb, rfl, hbL, hWL, hnL, bwL, -⟩; obtain ⟨σ1, hR1⟩ := HP.out.join hWL hbL hnL bwL; have HR1 := hid_of hR1; have HPK := hid_of (pick_any wL rb cb (q0 + 1) k hR1.p.rd (by omega) (by omega) (by omega)); clear hR1 hbL hWL hnL bwL)
        | (go_at_call 33; refine HPK.out.mono ?_; rintro e w3 ⟨hm, rfl, hhm, r3, o3, z3⟩; have HR3 := hid_of (HR1.out.move r3 o3); clear HPK r3 o3 z3))
      have hmk : hm < k := by omega
      clear HP HFL HR1 hhm hkn z1 hiP hzP hsP hbP
      obtain ⟨n, rfl⟩ : ∃ n, n = k := ⟨k, rfl⟩
      go_loopw [9, 10, 11, 12] (fun i _ _ _ wr => ∃ (j : Nat) (σ : Sh) (c q : Nat) (ps : List Pv), j ≤ 4 ∧ i = .int .i64 j ∧ c ≤ 14 * j ∧ q ≤ q0 + 2 + 70 * j ∧ Hid (RSt w rb cb n wr σ σL c q pb pc tb ps)) (fun i _ _ _ _ => 4 - (intOf i).toNat)
      case atStart => exact ⟨0, σ1, 0, q0 + 2, ps, by omega, rfl, by omega, by omega, HR3⟩
      case round =>
        obtain ⟨j, σ2, c, q, ps2, hj, rfl, hc, hqq, HR⟩ := hrel
        obtain ⟨wJ, rfl⟩ : ∃ x, x = wr := ⟨wr, rfl⟩
        clear HR3
        by_cases hj4 : j < 4
        case neg =>
          have hj4' : ¬ (j : Int) < 4 := by omega
          go_wp2_with fail
          go_ret
          exact ⟨n, σ2, c, q, pb, pc, ps2, rfl, hn1, hn3, by omega, by omega, HR.out.p⟩
        have hj4' : (j : Int) < 4 := by omega
        go_wp2_with fail
        go_loopw [10, 11, 12] (fun kk _ _ wr => ∃ (k : Nat) (σ : Sh) (c q : Nat) (ps : List Pv), k ≤ 7 ∧ kk = .int .i64 k ∧ c ≤ 14 * j + 2 * k ∧ q ≤ q0 + 2 + 70 * j + 10 * k ∧ Hid (RSt w rb cb n wr σ σL c q pb pc tb ps)) (fun kk _ _ _ => 7 - (intOf kk).toNat)
        case atStart => exact ⟨0, σ2, c, q, ps2, by omega, rfl, by omega, by omega, HR⟩
        case round =>
          obtain ⟨k, σ3, c3, q3, ps3, hk7, rfl, hc3, hq3, HR3⟩ := hrel
          obtain ⟨wK, rfl⟩ : ∃ x, x = wr := ⟨wr, rfl⟩
          clear HR hc hqq
          obtain ⟨nm, fa, fl, fp, t0, t2, hnm, hnsc, hfl7, hfb⟩ := HR3.out.l.row j hj4
          by_cases hkf : k < fl
          case neg =>
            have hkf' : ¬ (k : Int) < (fl : Int) := by omega
            clear t0
            go_wp2_with fail
            exact ⟨⟨j + 1, σ3, c3, q3, ps3, by omega, by go_num, by omega, by omega, HR3⟩, by simp [intOf]; omega⟩
          have hkf' : (k : Int) < (fl : Int) := by omega
          obtain ⟨fb, rfl, hflp, hfbL⟩ := hfb (by omega)
          obtain ⟨fn, fo, l, m, fr, hd, sh, na, nl, nc, g0, g1, g2, g3, g4, g5, g6, g7, hfn, hfo, hsl⟩ := HR3.out.l.field hfbL (k := k) (by omega)
          have HF1 := hid_of (HR3.out.box (fn := fn) (fo := fo) (l := l) (m := m) (fr := fr) (hd := hd) (sh := sh) hsl rfl)
          clear HR3 hsl
          go_upto_region 17 with fail
          clear t0 t2 g0 g1 g2 g3 g4 g5 g6 g7
          generalize wK.alloc (.cells #[.string fn, .string fo, .bool l, .bool m, .bool fr, .bool hd, .bool sh, .slice na nl nc] 37) = wF at *
          go_cut [88] (fun r wx => ∃ (bb : Bool) (q' : Nat), r = .bool bb ∧ q' ≤ q3 + 1 ∧ Hid (RF w rb cb n σL pb pc tb wK.heap.size wx σ3 c3 q' ps3 fn fo l m fr hd sh na nl nc))
          case first =>
            obtain ⟨d0, -⟩ := HF1.out.cell
            have HPK := hid_of (pick_any wF rb cb q3 7 HF1.out.r.p.rd (by omega) (by omega) (by omega))
            cases e1 : (fn.toList == [105, 100]) <;> cases e2 : (fn.toList == [98, 111, 100, 121]) <;> cases e3 : (fn.toList == [97, 103, 101]) <;> cases e4 : (fn.toList == [112, 114, 105, 99, 101])
            all_goals
              go_wp2_with (go_at_call 33; refine HPK.out.mono ?_; rintro e w5 ⟨x5, rfl, hx5, r5, o5, z5⟩)
              go_meet
              case rel => first | exact ⟨_, q3, rfl, by omega, HF1⟩ | exact ⟨_, q3 + 1, rfl, by omega, hid_of (HF1.out.move r5 o5)⟩
          case rest =>
          obtain ⟨bb, q4, rfl, hq4, HF4⟩ := hcut
          obtain ⟨wA, rfl⟩ : ∃ x, x = wc := ⟨wc, rfl⟩
          clear HF1
          cases bb
          case true =>
            go_wp2_with fail
            exact ⟨⟨k + 1, σ3, c3, q4, ps3, by omega, by go_num, by omega, by omega, hid_of HF4.out.r⟩, by simp [intOf]; omega⟩
          have HPK := hid_of (pick_any wA rb cb q4 n HF4.out.r.p.rd (by omega) (by omega) (by omega))
          go_upto_region 19 with (go_at_call 33; refine HPK.out.mono ?_; rintro e w6 ⟨tq, rfl, hto, r6, o6, z6⟩; have HF6 := hid_of (HF4.out.move r6 o6); clear r6 o6 z6)
          have hton : tq < n := by omega
          clear HPK HF4 hto
          go_cut [107] (fun r wx => ∃ (b2 : Bool) (q' : Nat), r = .bool b2 ∧ q' ≤ q4 + 2 ∧ Hid (RF w rb cb n σL pb pc tb wK.heap.size wx σ3 c3 q' ps3 fn fo l m fr hd sh na nl nc))
          case first =>
            obtain ⟨-, d1, -⟩ := HF6.out.cell
            obtain ⟨nm2, -, -, -, t0, -⟩ := HF6.out.r.l.row j hj4
            have HPK := hid_of (pick_any w6 rb cb (q4 + 1) 12 HF6.out.r.p.rd (by omega) (by omega) (by omega))
            cases e1 : (fo.toList == [110, 111, 116, 101]) <;> cases e2 : (nm2.toList == [110, 111, 116, 101])
            all_goals
              go_wp2_with (go_at_call 33; refine HPK.out.mono ?_; rintro e w5 ⟨x5, rfl, hx5, r5, o5, z5⟩)
              go_meet
              case rel => first | exact ⟨_, q4 + 1, rfl, by omega, HF6⟩ | exact ⟨_, q4 + 2, rfl, by omega, hid_of (HF6.out.move r5 o5)⟩
          case rest =>
          obtain ⟨b2, q5, rfl, hq5, HF7⟩ := hcut
          obtain ⟨wB, rfl⟩ : ∃ x, x = wc := ⟨wc, rfl⟩
          clear HF6
          go_upto_if 107 with fail
          go_cut [12] (fun r wx => ∃ tn : Nat, r = .int .i64 tn ∧ tn < n ∧ wx = wB)
          case first =>
            cases b2
            · go_wp2_with fail
              go_meet
              case rel => exact ⟨tq, rfl, hton, rfl⟩
            · go_wp2_with fail
              go_meet
              case rel => exact ⟨hm, rfl, hmk, rfl⟩
          case rest =>
          obtain ⟨tn, rfl, htn, hwc⟩ := hcut
          subst hwc
          obtain ⟨wB, rfl⟩ : ∃ x, x = wc := ⟨wc, rfl⟩
          have HPK := hid_of (pick_any wB rb cb q5 16 HF7.out.r.p.rd (by omega) (by omega) (by omega))
          go_upto_region 22 with (go_at_call 33; refine HPK.out.mono ?_; rintro e w8 ⟨x8, rfl, hx8, r8, o8, z8⟩; have HF8 := hid_of (HF7.out.move r8 o8); obtain ⟨-, -, -, -, -, d5, -, -, df5, -⟩ := HF8.out.cell; clear r8 o8 z8)
          have HF9 := hid_of (HF8.out.setH ((x8 : Int) == 0))
          clear HPK HF7 HF8 hx8 d5 df5
          generalize ((x8 : Int) == 0) = hb at *
          generalize w8.setCell ⟨wK.heap.size, 5, none⟩ (.bool hb) = wG at *
          have htni : IntKind.i64.wrap ((tn : Int) + 1) = (tn : Int) + 1 := IntWalk.i64_in _ (by omega)
          obtain ⟨ti, hti⟩ : ∃ t : Nat, ((tn : Int) + 1) % (n : Int) = (t : Int) := ⟨(tn + 1) % n, by simp⟩
          have htil : ti < n := by
            have h1 := Int.emod_lt_of_pos ((tn : Int) + 1) (show (0 : Int) < (n : Int) by omega)
            omega
          have htm : ((tn : Int) + 1).tmod (n : Int) = (ti : Int) := by rw [Int.tmod_eq_emod_of_nonneg (by omega)]; exact hti
          clear hti
          go_cut [126] (fun r wx => ∃ (b3 : Bool) (q' : Nat), r = .bool b3 ∧ q' ≤ q5 + 3 ∧ Hid (RF w rb cb n σL pb pc tb wK.heap.size wx σ3 c3 q' ps3 fn fo l m fr hb sh na nl nc))
          case first =>
            obtain ⟨-, -, -, -, -, -, -, d7, -, -⟩ := HF9.out.cell
            have HPK : Hid (∀ W (x : Int), RdOk W rb cb (q5 + 1) → 0 ≤ x → x ≤ 8 → Calls Try.prog 33 #[.pointer (some ⟨rb, 0, none⟩), .int .i64 x] W fun e w' => ∃ y : Nat, e = .returned (.int .i64 y) ∧ RdOk w' rb cb (q5 + 2) ∧ Only (· = rb) W w') := hid_of fun W x hW h0 h8 => (pick_any W rb cb (q5 + 1) x hW (by omega) (by omega) (by omega)).mono fun e w' ⟨y, h1, h2, h3, h4, h5⟩ => ⟨y, h1, h3, h4⟩
            have HPL : Hid (∀ W (x : Int), RdOk W rb cb (q5 + 2) → 0 ≤ x → x ≤ 8 → Calls Try.prog 33 #[.pointer (some ⟨rb, 0, none⟩), .int .i64 x] W fun e w' => ∃ y : Nat, e = .returned (.int .i64 y) ∧ RdOk w' rb cb (q5 + 3) ∧ Only (· = rb) W w') := hid_of fun W x hW h0 h8 => (pick_any W rb cb (q5 + 2) x hW (by omega) (by omega) (by omega)).mono fun e w' ⟨y, h1, h2, h3, h4, h5⟩ => ⟨y, h1, h3, h4⟩
            by_cases hnl : nl = 0
            · subst hnl
              go_wp2_with (go_at_call 33; refine (HPK.out wG _ HF9.out.r.p.rd (by omega) (by omega)).mono ?_; rintro e w5 ⟨x5, rfl, r5, o5⟩)
              go_meet
              case rel => exact ⟨_, q5 + 2, rfl, by omega, hid_of (HF9.out.move r5 o5)⟩
            · have hnl' : ¬ (nl : Int) = 0 := by omega
              go_wp2_with (first
                | (go_at_call_of 33 (Value.int IntKind.i64 8); refine (HPK.out wG _ HF9.out.r.p.rd (by omega) (by omega)).mono ?_; rintro e w5 ⟨x5, rfl, r5, o5⟩; rcases Nat.eq_zero_or_pos x5 with hx5 | hx5)
                | (go_at_call_of 33 (Value.int IntKind.i64 5); refine (HPL.out w5 _ r5 (by omega) (by omega)).mono ?_; rintro e w6' ⟨x6, rfl, r6, o6⟩))
              all_goals
                go_meet
                case rel => first | exact ⟨_, q5 + 3, rfl, by omega, hid_of ((HF9.out.move r5 o5).move r6 o6)⟩ | exact ⟨_, q5 + 2, rfl, by omega, hid_of (HF9.out.move r5 o5)⟩
          case rest =>
          obtain ⟨b3, q7, rfl, hq7, HF10⟩ := hcut
          obtain ⟨wH0, rfl⟩ : ∃ x, x = wc := ⟨wc, rfl⟩
          clear HF9
          go_upto_if 126 with fail
          go_cut [] (fun wx => ∃ (σ' : Sh) (c' q' : Nat) (ps' : List Pv) (sb : Bool), c' ≤ c3 + 1 ∧ q' ≤ q5 + 3 ∧ Hid (RF w rb cb n σL pb pc tb wK.heap.size wx σ' c' q' ps' fn fo l m fr hb sb na nl nc))
          case first =>
            cases b3
            · go_wp2_with fail
              go_meet
              case rel => exact ⟨σ3, c3, q7, ps3, sh, by omega, hq7, HF10⟩
            obtain ⟨-, -, -, -, -, -, d6, -, -, df6⟩ := HF10.out.cell
            go_upto_region 24 with fail
            have HFH := hid_of (HF10.out.setS true)
            clear d6 df6 HF10
            generalize wH0.setCell ⟨wK.heap.size, 6, none⟩ (.bool true) = wH at *
            have hn0 : ¬ n = 0 := by omega
            have htil' : (ti : Int) < (n : Int) := by omega
            obtain ⟨nm2, -, -, -, t0, -, hnm2, hnsc2, -, -⟩ := HFH.out.r.l.row j hj4
            have HS0 : Hid (∀ W : World, W.heap[tb]? = wH.heap[tb]? → W.heap[wK.heap.size]? = wH.heap[wK.heap.size]? → W.cell? ⟨tb, j * 3, none⟩ = some (.string nm2) ∧ W.cell? ⟨wK.heap.size, 0, none⟩ = some (.string fn) ∧ W.cell? ⟨wK.heap.size, 1, none⟩ = some (.string fo) ∧ W.cell? ⟨wK.heap.size, 2, none⟩ = some (.bool l) ∧ W.cell? ⟨wK.heap.size, 3, none⟩ = some (.bool m) ∧ W.cell? ⟨wK.heap.size, 4, none⟩ = some (.bool fr) ∧ W.cell? ⟨wK.heap.size, 5, none⟩ = some (.bool hb) ∧ W.cell? ⟨wK.heap.size, 6, none⟩ = some (.bool true) ∧ W.cell? ⟨wK.heap.size, 7, none⟩ = some (.slice na nl nc)) := hid_of fun W h1 h2 => by
              obtain ⟨d0, d1, d2, d3, d4, d5, d6, d7, -, -⟩ := HFH.out.cell
              exact ⟨(World.cell?_of_block (a := ⟨tb, j * 3, none⟩) h1).trans t0, (World.cell?_of_block (a := ⟨wK.heap.size, 0, none⟩) h2).trans d0, (World.cell?_of_block (a := ⟨wK.heap.size, 1, none⟩) h2).trans d1, (World.cell?_of_block (a := ⟨wK.heap.size, 2, none⟩) h2).trans d2, (World.cell?_of_block (a := ⟨wK.heap.size, 3, none⟩) h2).trans d3, (World.cell?_of_block (a := ⟨wK.heap.size, 4, none⟩) h2).trans d4, (World.cell?_of_block (a := ⟨wK.heap.size, 5, none⟩) h2).trans d5, (World.cell?_of_block (a := ⟨wK.heap.size, 6, none⟩) h2).trans d6, (World.cell?_of_block (a := ⟨wK.heap.size, 7, none⟩) h2).trans d7⟩
            clear t0
            refine wp_region_held_drew (S := (fun w' => w'.cell? ⟨tb, j * 3, none⟩ = some (.string nm2) ∧ w'.cell? ⟨wK.heap.size, 0, none⟩ = some (.string fn) ∧ w'.cell? ⟨wK.heap.size, 1, none⟩ = some (.string fo) ∧ w'.cell? ⟨wK.heap.size, 2, none⟩ = some (.bool l) ∧ w'.cell? ⟨wK.heap.size, 3, none⟩ = some (.bool m) ∧ w'.cell? ⟨wK.heap.size, 4, none⟩ = some (.bool fr) ∧ w'.cell? ⟨wK.heap.size, 5, none⟩ = some (.bool hb) ∧ w'.cell? ⟨wK.heap.size, 6, none⟩ = some (.bool true) ∧ w'.cell? ⟨wK.heap.size, 7, none⟩ = some (.slice na nl nc))) (by kernel_rfl) (HS0.out _ rfl rfl) (fun hHeld => ?_)
            have bt : wH.drew.heap[tb]? = wH.heap[tb]? := rfl
            have bf : wH.drew.heap[wK.heap.size]? = wH.heap[wK.heap.size]? := rfl
            have HFD := hid_of HFH.out.drew
            generalize wH.drew = wE0 at *
            refine tkH 0 hHeld ?_
            refine tkH 1 hHeld ?_
            refine tkH 2 hHeld ?_
            refine tkH 3 hHeld ?_
            refine tkH 4 hHeld ?_
            refine tkH 5 hHeld ?_
            refine tkH 6 hHeld ?_
            refine tkH 7 hHeld ?_
            refine tkH 8 hHeld ?_
            refine tkH 9 hHeld ?_
            refine tkH 10 hHeld ?_
            refine tkH 12 hHeld ?_
            refine tkH 13 hHeld ?_
            refine tkH 14 hHeld ?_
            refine tkH 15 hHeld ?_
            refine tkH 16 hHeld ?_
            refine tkH 17 hHeld ?_
            refine rdyH [11] ?_
            refine rcH (fun K hK => ?_) AllReadyH.nil
            obtain ⟨pv, hpv, a0, a1, -, -⟩ := HFD.out.r.p.cells ti (by omega)
            go_simp
            clear a0 a1
            refine hK.out _ _ (HS0.out _ bt bf) (fun hHeld => ?_)
            clear hK K
            try simp only [Act.put, List.setIfInBounds_toArray, List.set_cons_zero, List.set_cons_succ]
            refine rdyH [18] ?_
            refine rcH (fun K hK => ?_) AllReadyH.nil
            go_simp
            refine (HFD.out.give (by omega) (i := ti) (by omega) hpv hnm2 hnsc2 hfn hfo).mono ?_
            rintro e wC ⟨pv', σ', rfl, ⟨v0, v1, a0, a1, z0, z1⟩, HG⟩
            obtain ⟨-, k1, k2, k3, k4⟩ := HG.out
            refine hK.out _ _ (HS0.out _ (k1.trans bt) (k3.trans bf)) (fun hHeld => ?_)
            clear hK K
            try simp only [Act.put, List.setIfInBounds_toArray, List.set_cons_zero, List.set_cons_succ]
            refine tkH 19 hHeld ?_
            refine rdyH [20] ?_
            refine rcH (fun K hK => ?_) AllReadyH.nil
            go_simp
            clear a0 a1 z0 z1
            refine hK.out _ _ (HS0.out _ (by rw [Below.heap_setCell _ _ _ _ k2, Below.heap_setCell _ _ _ _ k2]; exact k1.trans bt) (by rw [Below.heap_setCell _ _ _ _ k4, Below.heap_setCell _ _ _ _ k4]; exact k3.trans bf)) (fun hHeld => ?_)
            clear hK K
            try simp only [Act.put, List.setIfInBounds_toArray, List.set_cons_zero, List.set_cons_succ]
            refine wpAnyH_done (by kernel_rfl) ?_ _
            obtain ⟨HFIN, -⟩ := HG.out
            have HFN := hid_of HFIN
            clear HFIN HG k1 k2 k3 k4
            go_wp2_with fail
            go_meet
            case rel => exact ⟨σ', c3 + 1, q7, _, true, by omega, by omega, HFN⟩
          case rest =>
          obtain ⟨σ6, c6, q6, ps6, sb, hc6, hq6, HFI⟩ := hcut
          obtain ⟨wI, rfl⟩ : ∃ x, x = wc := ⟨wc, rfl⟩
          clear HF10
          have htnl : (tn : Int) < (n : Int) := by omega
          obtain ⟨nm2, -, -, -, t0, -, hnm2, hnsc2, -, -⟩ := HFI.out.r.l.row j hj4
          have HS0 : Hid (∀ W : World, W.heap[tb]? = wI.heap[tb]? → W.heap[wK.heap.size]? = wI.heap[wK.heap.size]? → W.cell? ⟨tb, j * 3, none⟩ = some (.string nm2) ∧ W.cell? ⟨wK.heap.size, 0, none⟩ = some (.string fn) ∧ W.cell? ⟨wK.heap.size, 1, none⟩ = some (.string fo) ∧ W.cell? ⟨wK.heap.size, 2, none⟩ = some (.bool l) ∧ W.cell? ⟨wK.heap.size, 3, none⟩ = some (.bool m) ∧ W.cell? ⟨wK.heap.size, 4, none⟩ = some (.bool fr) ∧ W.cell? ⟨wK.heap.size, 5, none⟩ = some (.bool hb) ∧ W.cell? ⟨wK.heap.size, 6, none⟩ = some (.bool sb) ∧ W.cell? ⟨wK.heap.size, 7, none⟩ = some (.slice na nl nc)) := hid_of fun W h1 h2 => by
            obtain ⟨d0, d1, d2, d3, d4, d5, d6, d7, -, -⟩ := HFI.out.cell
            exact ⟨(World.cell?_of_block (a := ⟨tb, j * 3, none⟩) h1).trans t0, (World.cell?_of_block (a := ⟨wK.heap.size, 0, none⟩) h2).trans d0, (World.cell?_of_block (a := ⟨wK.heap.size, 1, none⟩) h2).trans d1, (World.cell?_of_block (a := ⟨wK.heap.size, 2, none⟩) h2).trans d2, (World.cell?_of_block (a := ⟨wK.heap.size, 3, none⟩) h2).trans d3, (World.cell?_of_block (a := ⟨wK.heap.size, 4, none⟩) h2).trans d4, (World.cell?_of_block (a := ⟨wK.heap.size, 5, none⟩) h2).trans d5, (World.cell?_of_block (a := ⟨wK.heap.size, 6, none⟩) h2).trans d6, (World.cell?_of_block (a := ⟨wK.heap.size, 7, none⟩) h2).trans d7⟩
          clear t0
          go_upto_region 25 with fail
          refine wp_region_held_drew (S := (fun w' => w'.cell? ⟨tb, j * 3, none⟩ = some (.string nm2) ∧ w'.cell? ⟨wK.heap.size, 0, none⟩ = some (.string fn) ∧ w'.cell? ⟨wK.heap.size, 1, none⟩ = some (.string fo) ∧ w'.cell? ⟨wK.heap.size, 2, none⟩ = some (.bool l) ∧ w'.cell? ⟨wK.heap.size, 3, none⟩ = some (.bool m) ∧ w'.cell? ⟨wK.heap.size, 4, none⟩ = some (.bool fr) ∧ w'.cell? ⟨wK.heap.size, 5, none⟩ = some (.bool hb) ∧ w'.cell? ⟨wK.heap.size, 6, none⟩ = some (.bool sb) ∧ w'.cell? ⟨wK.heap.size, 7, none⟩ = some (.slice na nl nc))) (by kernel_rfl) (HS0.out _ rfl rfl) (fun hHeld => ?_)
          have bt : wI.drew.heap[tb]? = wI.heap[tb]? := rfl
          have bf : wI.drew.heap[wK.heap.size]? = wI.heap[wK.heap.size]? := rfl
          have HFD := hid_of HFI.out.drew
          generalize wI.drew = wE0 at *
          refine tkH 0 hHeld ?_
          refine tkH 1 hHeld ?_
          refine tkH 2 hHeld ?_
          refine tkH 3 hHeld ?_
          refine tkH 4 hHeld ?_
          refine tkH 6 hHeld ?_
          refine tkH 7 hHeld ?_
          refine tkH 8 hHeld ?_
          refine tkH 9 hHeld ?_
          refine tkH 10 hHeld ?_
          refine tkH 11 hHeld ?_
          refine rdyH [5] ?_
          refine rcH (fun K hK => ?_) AllReadyH.nil
          obtain ⟨pv, hpv, a0, a1, -, -⟩ := HFD.out.r.p.cells tn (by omega)
          go_simp
          clear a0 a1
          refine hK.out _ _ (HS0.out _ bt bf) (fun hHeld => ?_)
          clear hK K
          try simp only [Act.put, List.setIfInBounds_toArray, List.set_cons_zero, List.set_cons_succ]
          refine rdyH [12] ?_
          refine rcH (fun K hK => ?_) AllReadyH.nil
          go_simp
          refine (HFD.out.give (by omega) (i := tn) (by omega) hpv hnm2 hnsc2 hfn hfo).mono ?_
          rintro e wC ⟨pv', σ', rfl, ⟨v0, v1, a0, a1, z0, z1⟩, HG⟩
          obtain ⟨-, k1, k2, k3, k4⟩ := HG.out
          refine hK.out _ _ (HS0.out _ (k1.trans bt) (k3.trans bf)) (fun hHeld => ?_)
          clear hK K
          try simp only [Act.put, List.setIfInBounds_toArray, List.set_cons_zero, List.set_cons_succ]
          refine tkH 13 hHeld ?_
          refine rdyH [14] ?_
          refine rcH (fun K hK => ?_) AllReadyH.nil
          go_simp
          clear a0 a1 z0 z1
          refine hK.out _ _ (HS0.out _ (by rw [Below.heap_setCell _ _ _ _ k2, Below.heap_setCell _ _ _ _ k2]; exact k1.trans bt) (by rw [Below.heap_setCell _ _ _ _ k4, Below.heap_setCell _ _ _ _ k4]; exact k3.trans bf)) (fun hHeld => ?_)
          clear hK K
          try simp only [Act.put, List.setIfInBounds_toArray, List.set_cons_zero, List.set_cons_succ]
          refine wpAnyH_done (by kernel_rfl) ?_ _
          obtain ⟨HFIN, -⟩ := HG.out
          have HFN := hid_of HFIN.r
          clear HFIN HG k1 k2 k3 k4
          go_wp2_with fail
          exact ⟨⟨k + 1, σ', c6 + 1, q6, _, by omega, by go_num, by omega, by omega, HFN⟩, by simp [intOf]; omega⟩
    have hki : (k : Int) < (n : Int) := by omega
    obtain ⟨nm, hnmz, hnmc⟩ : ∃ nm : ByteArray, nm.size ≤ 12 ∧ (wK.alloc (.cells #[.string ⟨#[101, 97, 115, 116]⟩, .string ⟨#[119, 101, 115, 116]⟩, .string ⟨#[110, 111, 114, 116, 104]⟩] 9)).cell? ⟨wK.heap.size, k, none⟩ = some (.string nm) := by
      have hb := block_new (w := wK) #[.string ⟨#[101, 97, 115, 116]⟩, .string ⟨#[119, 101, 115, 116]⟩, .string ⟨#[110, 111, 114, 116, 104]⟩] 9 rfl
      rcases k with _ | _ | _ | k
      · exact ⟨_, by decide, (box_at hb 0 (by simp)).1⟩
      · exact ⟨_, by decide, (box_at hb 1 (by simp)).1⟩
      · exact ⟨_, by decide, (box_at hb 2 (by simp)).1⟩
      · omega
    have HB1 := hid_of (below_box wK (.cells #[.string ⟨#[101, 97, 115, 116]⟩, .string ⟨#[119, 101, 115, 116]⟩, .string ⟨#[110, 111, 114, 116, 104]⟩] 9))
    have HDC := hid_of (fun W => l1Dec_small k W (by omega))
    have hk3 : (k : Int) < 3 := by omega
    go_wp2_with (first
      | (go_at_call 54; refine (HDC.out _).mono ?_; rintro e w2 ⟨s, rfl, hs1, hb2⟩; have HP2 := hid_of (HP.out.below (HB1.out.trans (hb2.mono (by simp)))); have hsz : ¬ 9223372036854775807 < 1 + s.size := (by omega); have hsz2 : (⟨#[110]⟩ : ByteArray).size + s.size ≤ 9223372036854775807 := (by rw [hs1]; decide))
      | (
        at_builtin
        (refine wpList_append_lies _ rfl _ _ _ rfl w.heap.size 25 iP _ 2 40 Try.underlying55 hiP hzP hsP hbP rfl (by decide) (.slice (some ⟨pb, 0, none⟩) k pc) k (flatP ps) rfl (HP2.out.below ((below_box2 _ _ _).alloc (by simp; omega) _)).own ⟨w2.heap.size + 1 + 1, 0, none⟩ 1 1 [.string nm, .slice (some ⟨w2.heap.size + 1, 0, none⟩) 1 1] rfl rfl (World.news_of_block (block_new _ _ (by simp))) (by intro u hu; simp at hu; rcases hu with rfl | rfl <;> rfl) (by omega) (by unfold maxLen; omega) (by omega) (by have := HP2.out.only.size; simp; omega) _ rfl ?_)
        intro g cap wP hown hgrow hat hltP
        (have HPN := hid_of (HP2.out.push ((⟨#[110]⟩ : ByteArray) ++ s) nm (by rw [ByteArray.size_append, hs1]; decide) hnmz _ rfl hown hgrow hat))
        clear hown hgrow hat))
    exact ⟨⟨k + 1, _, g, cap, _, by omega, rfl, by go_num, HPN⟩, by simp [intOf]; omega⟩
end Go.Proofs.Ytdohgkokoicjlaa
