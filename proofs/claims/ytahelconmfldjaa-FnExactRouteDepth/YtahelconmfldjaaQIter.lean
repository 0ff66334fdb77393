/-
  The program's depthsOf: what its iterator tells, round by round.
-/
import Derived.Test.YtahelconmfldjaaQRange
namespace Go.Proofs.Ytahelconmfldjaa
set_option linter.unusedSimpArgs false
set_option linter.unusedVariables false
open Go.RowKit Go.Shelf
attribute [local go_sem] Oper.semAt_some

/-- What the iterator keeps in its own list between two rounds. -/
def dcell (ss : List St) (k i : Nat) : Value := .int .i64 (if i < k then (dn ss i : Int) else 0)

set_option maxRecDepth 20000 in
set_option maxHeartbeats 1200000 in
theorem depths_seq (n : Nat) (hn : 1 ≤ n) (ss : List St) (hl : ss.length ≤ 1048576) (a : Option Addr) (c B bx Bn l : Nat) (J : Nat → World → Prop) (W : World)
    (hBn : W.cell? ⟨Bn, 0, none⟩ = some (.slice a ss.length c)) (hK : StReps W (· < B) ss a) (hB : B ≤ bx) (hbx : bx < Bn) (hBW : Bn < W.heap.size)
    (hJ : ∀ i X Y, J i X → Below W.heap.size X Y → J i Y)
    (hY : ∀ i X, J i X → i < ss.length → YieldAt Fence.wide (n - 1) Try.prog l #[.int .i64 i, .int .i64 (dn ss i)] X fun e Y => e = .returned (.bool true) ∧ J (i + 1) Y ∧ KeepBut bx X Y) (h0 : J 0 W) :
    CallsIn Fence.wide n Try.prog 40 #[.func (.yield l) #[] #[], .pointer (some ⟨Bn, 0, none⟩)] W fun e W' => (∃ v, e = .returned v) ∧ J ss.length W' := by
  have h3 := hK.1
  have hmk := run_make_row' (P := Try.prog) 29 3 (.int .i64 0) 8 Try.underlying29 info3 rfl .i64 .i64 ss.length (by omega) (by omega)
  refine callsIn_of_wp Try.func40 rfl trivial ?_ rfl
  simp only [Try.ntmps40, List.size_toArray, List.length_cons, List.length_nil, Nat.reduceAdd, Nat.reduceSub, Array.replicate_succ, Array.replicate_zero, List.push_toArray, List.append_toArray, List.nil_append, List.cons_append]
  gi_wp2
  gi_loopw [13] (fun i wr => ∃ k : Nat, k ≤ ss.length ∧ i = .int .i64 k ∧ wr.rowIs W.heap.size 3 ss.length (dcell ss k) ∧ StReps wr (· < B) ss a ∧ J k wr) (fun i _ => ss.length - (intOf i).toNat)
  case atStart =>
    have b0 : Below W.heap.size W (W.alloc (.cells (madeCells #[.int .i64 0] ss.length) 3)) := below_box _ _
    exact ⟨0, Nat.zero_le _, rfl, (World.rowIs_made W _ _ _).congr fun i hi => by simp [dcell], hK.under (b0.mono (by omega)), hJ 0 _ _ h0 b0⟩
  case round =>
    obtain ⟨k, hk, rfl, hrow, hS, hJk⟩ := hrel
    obtain ⟨w0, rfl⟩ : ∃ x, x = wr := ⟨wr, rfl⟩
    have hd := hrow.lt
    by_cases hlt : k < ss.length
    · obtain ⟨-, C, hA, hr⟩ := id hS
      obtain ⟨b, off, rfl, hbB, hc⟩ := hA (by omega)
      have hki : (k : Int) < (ss.length : Int) := by omega
      obtain ⟨wa, sa, aa, ba, wc, sc, ac, bc, e0, e1, e2, e3, e4, e5, hI, hac⟩ := (hr k hlt).pieces
      have hc0 : w0.cell? ⟨b, off + k * 6, none⟩ = some (C k 0) := hc k hlt 0 (by omega)
      have hc1 := hc k hlt 1 (by omega)
      have hc2 := hc k hlt 2 (by omega)
      have hc3 := hc k hlt 3 (by omega)
      have hc4 := hc k hlt 4 (by omega)
      have hc5 := hc k hlt 5 (by omega)
      rw [e0] at hc0
      rw [e1] at hc1
      rw [e2] at hc2
      rw [e3] at hc3
      rw [e4] at hc4
      rw [e5] at hc5
      have HS : Hid (StReps w0 (· < B) ss (some ⟨b, off, none⟩)) := hS
      have HJ : Hid (J k w0) := hJk
      have HI : Hid (Ints w0 (· < B) (pth ss k).after aa) := hI
      have hI8 := hI.1
      have hdn : ∀ j, dn ss j ≤ j + 1 := dn_le ss
      have HD : Hid (dn ss k = 1 + mx (dn ss) k (pth ss k).after (pth ss k).after.length) := dn_eq ss k
      have hm : ∀ j, mx (dn ss) k (pth ss k).after j ≤ k := mx_le fun i hi => by have := hdn i; omega
      clear hS hJk hI hA hr hc e0 e1 e2 e3 e4 e5
      gi_wp2
      obtain ⟨X0, hX0⟩ : ∃ X0, X0 = w0.alloc (.cells #[.int .i64 (pth ss k).part, .slice wa (pth ss k).way.length wc, .string (pth ss k).type, .slice sa (pth ss k).sels.length sc, .slice aa (pth ss k).after.length ac, .slice ba (pth ss k).brings.length bc] 44) := ⟨_, rfl⟩
      have bX : Below w0.heap.size w0 X0 := by rw [hX0]; exact below_box _ _
      have rX : X0.rowIs W.heap.size 3 ss.length (dcell ss k) := hrow.of_block (bX.block _ hd)
      rw [← hX0]
      clear hX0 hc0 hc1 hc2 hc3 hc4 hc5
      gi_loopw [21] (fun j wx => ∃ q : Nat, q ≤ (pth ss k).after.length ∧ j = .int .i64 q ∧ X0.grownBy wx (some W.heap.size) ∧ wx.rowIs W.heap.size 3 ss.length (fun i => if i = k then .int .i64 (mx (dn ss) k (pth ss k).after q : Nat) else dcell ss k i)) (fun j _ => (pth ss k).after.length - (intOf j).toNat)
      case atStart =>
        refine ⟨0, Nat.zero_le _, rfl, ⟨rfl, rfl, rfl, Nat.le_refl _, fun _ _ _ => rfl⟩, rX.congr fun i hi => ?_⟩
        by_cases e : i = k
        · subst e; simp [dcell, mx]
        · simp [e]
      case round =>
        obtain ⟨q, hq, rfl, hgr, hrq⟩ := hrel
        obtain ⟨w1, rfl⟩ : ∃ x, x = wr := ⟨wr, rfl⟩
        have hck : w1.cell? ⟨W.heap.size, k, none⟩ = some (.int .i64 (mx (dn ss) k (pth ss k).after q : Nat)) := by have := hrq.cell (i := k) hlt; simpa using this
        have hfz := fun i => hrq.frozen i
        have hmq := hm q
        by_cases hlq : q < (pth ss k).after.length
        · obtain ⟨ab, ao, rfl, hab, hcc⟩ := HI.out.2 (by omega)
          have hx : w1.cell? ⟨ab, ao + q, none⟩ = some (.int .i64 (ith (pth ss k).after q)) := (hgr.cell_far ⟨ab, ao + q, none⟩ (by show ab < _; have := bX.size; omega) (by intro e; simp at e; omega)).trans ((bX.cell (p := ⟨ab, ao + q, none⟩) (by show ab < _; omega)).trans (hcc q hlq))
          clear hcc
          have hqi : (q : Int) < ((pth ss k).after.length : Int) := by omega
          have HM : Hid (mx (dn ss) k (pth ss k).after (q + 1) = if 0 ≤ ith (pth ss k).after q ∧ ith (pth ss k).after q < k then max (mx (dn ss) k (pth ss k).after q) (dn ss (ith (pth ss k).after q).toNat) else mx (dn ss) k (pth ss k).after q) := rfl
          have HR : Hid (w1.rowIs W.heap.size 3 ss.length (fun i => if i = k then .int .i64 (mx (dn ss) k (pth ss k).after q : Nat) else dcell ss k i)) := hrq
          obtain ⟨M, hMe⟩ : ∃ M, M = mx (dn ss) k (pth ss k).after q := ⟨_, rfl⟩
          rw [← hMe] at hmq HM HR hck
          obtain ⟨at', hae⟩ : ∃ x, x = ith (pth ss k).after q := ⟨_, rfl⟩
          rw [← hae] at hx HM
          clear hMe hae hm hrq
          by_cases hin : 0 ≤ at' ∧ at' < k
          · obtain ⟨n', rfl⟩ : ∃ n' : Nat, at' = (n' : Int) := ⟨at'.toNat, by omega⟩
            have hnk : (n' : Int) < (k : Int) := by omega
            have hns : (n' : Int) < (ss.length : Int) := by omega
            have h0n : (0 : Int) ≤ (n' : Int) := by omega
            have hcn : w1.cell? ⟨W.heap.size, n', none⟩ = some (.int .i64 (dn ss n')) := by
              have := HR.out.cell (i := n') (by omega)
              rw [if_neg (by omega)] at this
              simpa [dcell, show n' < k by omega] using this
            have hdnn := hdn n'
            obtain ⟨d, hde⟩ : ∃ d, d = dn ss n' := ⟨_, rfl⟩
            rw [← hde] at hcn hdnn
            have HDE : Hid (d = dn ss n') := hde
            clear hde
            have hmx : mx (dn ss) k (pth ss k).after (q + 1) = max M d := by rw [HM.out, if_pos (by omega), Int.toNat_natCast, ← HDE.out]
            have HMX : Hid (mx (dn ss) k (pth ss k).after (q + 1) = max M d) := hmx
            clear hmx
            gi_wp2
            refine wpIn_wide.2 ?_
            go_region
            have hval : (if M < d then (d : Int) else (M : Int)) = ((max M d : Nat) : Int) := by
              by_cases h : M < d
              · rw [if_pos h, Nat.max_eq_right (by omega)]
              · rw [if_neg h, Nat.max_eq_left (by omega)]
            rw [hval]
            gi_wp2
            go_roundw
            case rel =>
              refine ⟨q + 1, by omega, by go_num, ⟨hgr.os, hgr.tape, hgr.output, by have := hgr.size; simpa [World.setCell] using this, fun b' hb' hne => ?_⟩, ?_⟩
              · exact (Below.heap_setCell _ _ _ _ (by intro e; exact hne (by rw [e]))).trans (hgr.block b' hb' hne)
              · refine ((HR.out.set k (.int .i64 ((max M d : Nat) : Int))).congr fun i hi => ?_).of_block rfl
                by_cases e : i = k
                · subst e; simp [HMX.out]
                · simp [e]
            case measure => simp [intOf]; omega
          · by_cases h0' : 0 ≤ at'
            · have h1' : ¬ at' < (k : Int) := by omega
              gi_wp2
              go_roundw
              case rel => exact ⟨q + 1, by omega, by go_num, hgr, by rw [HM.out, if_neg hin]; exact HR.out⟩
              case measure => simp [intOf]; omega
            · gi_wp2
              go_roundw
              case rel => exact ⟨q + 1, by omega, by go_num, hgr, by rw [HM.out, if_neg hin]; exact HR.out⟩
              case measure => simp [intOf]; omega
        · have e : q = (pth ss k).after.length := by omega
          subst e
          obtain ⟨M, hMe⟩ : ∃ M, M = mx (dn ss) k (pth ss k).after (pth ss k).after.length := ⟨_, rfl⟩
          have HR : Hid (w1.rowIs W.heap.size 3 ss.length (fun i => if i = k then .int .i64 (mx (dn ss) k (pth ss k).after (pth ss k).after.length : Nat) else dcell ss k i)) := hrq
          rw [← hMe] at hmq hck HR
          have hdk : ((dn ss k : Nat) : Int) = (M : Int) + 1 := by rw [HD.out, ← hMe]; omega
          clear hMe hm hrq
          obtain ⟨X2, hX2⟩ : ∃ X2, X2 = w1.setCell ⟨W.heap.size, k, none⟩ (.int .i64 ((M : Int) + 1)) := ⟨_, rfl⟩
          have r2 : X2.rowIs W.heap.size 3 ss.length (dcell ss (k + 1)) := by
            rw [hX2]
            refine (HR.out.set k _).congr fun i hi => ?_
            by_cases e : i = k
            · subst e; simp [dcell, hdk]
            · by_cases e2 : i < k
              · simp [e, dcell, e2, show i < k + 1 by omega]
              · simp [e, dcell, e2, show ¬ i < k + 1 by omega]
          have b1 : Below W.heap.size w0 w1 := (bX.mono (by omega)).trans ⟨hgr.os, hgr.tape, hgr.output, hgr.size, fun x hx => hgr.block x (by have := bX.size; omega) (by intro e; simp at e; omega)⟩
          have b2 : Below W.heap.size w0 X2 := by
            rw [hX2]
            exact b1.setCell (p := ⟨W.heap.size, k, none⟩) (Nat.le_refl _) _
          have j2 : J k X2 := hJ k _ _ HJ.out b2
          have s2 : StReps X2 (· < B) ss (some ⟨b, off, none⟩) := HS.out.under (b2.mono (by omega))
          have hcd : X2.cell? ⟨W.heap.size, k, none⟩ = some (.int .i64 ((M : Int) + 1)) := by rw [hX2]; exact World.cell?_setCell_same _ _ _ hck
          obtain ⟨fn, tmps, assign, body, hy, hR⟩ := hY k X2 j2 hlt
          rw [hdk, hX2] at hy
          rw [hX2] at hR
          have HRo : Hid (RoundIn Fence.wide (n - 1) Try.prog l fn tmps assign body (w1.setCell ⟨W.heap.size, k, none⟩ (.int .i64 ((M : Int) + 1))) fun e Y => e = .returned (.bool true) ∧ J (k + 1) Y ∧ KeepBut bx (w1.setCell ⟨W.heap.size, k, none⟩ (.int .i64 ((M : Int) + 1))) Y) := hR
          clear hR
          gi_wp2
          refine HRo.out.mono ?_
          rintro e W3 ⟨rfl, hJ3, hk3⟩
          rw [← hX2] at hk3
          gi_wp2
          go_roundw
          case rel =>
            exact ⟨k + 1, by omega, by go_num, hk3.row (by omega) r2, s2.mono fun x hx => hk3.below.block x (by omega), hJ3⟩
          case measure => simp [intOf]; omega
    · gi_wp2
      go_end0
      have e : k = ss.length := by omega
      subst e
      exact ⟨⟨_, rfl⟩, hJk⟩
end Go.Proofs.Ytahelconmfldjaa
