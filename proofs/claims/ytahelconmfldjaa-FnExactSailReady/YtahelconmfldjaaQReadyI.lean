/-
  The program's SailReady.
-/
import Derived.Test.YtahelconmfldjaaQSet
namespace Go.Proofs.Ytahelconmfldjaa
set_option linter.unusedSimpArgs false
set_option linter.unusedVariables false
open Go.RowKit Go.Maps

theorem owns_slice' {w : World} {base : Nat} {e : TypeId} {sz n : Nat} {v : Value} {xs : List Value} (h : w.ownsRow base e sz v n xs) : ∃ (a : Option Addr) (c : Nat), v = .slice a n c := by
  rcases h.2 with ⟨h', rfl, _⟩ | ⟨g', cap', cur, h', _⟩
  · exact ⟨none, 0, h'⟩
  · exact ⟨_, _, h'⟩
theorem ints_of_owns {w : World} {base : Nat} {ns : List Int} {a : Option Addr} {cap : Nat} (h : w.ownsRow base 3 1 (.slice a ns.length cap) ns.length (ns.map (Value.int .i64))) (h3 : 8 * ns.length ≤ 281474976710656) :
    Ints w (fun b => base ≤ b ∧ b < w.heap.size) ns a ∧ WInts w base w.heap.size ns.length a := by
  by_cases h0 : ns.length = 0
  · have hns : ns = [] := by simpa using h0
    subst hns
    exact ⟨Ints.nil _ _ _, ints_none _ _ _ _⟩
  · have h' := h
    rcases h.2 with ⟨-, hn⟩ | ⟨g, cap', cur, hv, hb, hh, -⟩
    · exact absurd hn h0
    · simp only [Value.slice.injEq] at hv
      obtain ⟨rfl, -, rfl⟩ := hv
      exact ints_owned h' h3 (Array.getElem?_eq_some_iff.1 hh).1

theorem owns_keep {w w' : World} {base : Nat} {e : TypeId} {sz n : Nat} {v : Value} {xs : List Value} (h : w.ownsRow base e sz v n xs) (hb : Below w.heap.size w w') : w'.ownsRow base e sz v n xs := by
  obtain ⟨h1, h2⟩ := h
  refine ⟨h1, ?_⟩
  rcases h2 with h2 | ⟨g, cap, cur, hv, hb', hh, r⟩
  · exact .inl h2
  · exact .inr ⟨g, cap, cur, hv, hb', (hb.block g (Array.getElem?_eq_some_iff.1 hh).1).trans hh, r⟩

set_option maxRecDepth 20000 in
set_option maxHeartbeats 1600000 in
theorem implReady_any (ss : List St) (ds : List Int) (w : World) (B : Nat) (a da : Option Addr) (c dc : Nat) (hK : StReps w (· < B) ss a) (hD : Ints w (· < B) ds da) (hB : B ≤ w.heap.size) (hl : ss.length ≤ 1048576)
    (hwd : ∀ i, (Lit.int .i64 (ith ds i)).wf = true) (hwa : ∀ i q, (Lit.int .i64 (ith (pth ss i).after q)).wf = true) :
    Calls Try.prog 19 #[.slice a ss.length c, .slice da ds.length dc] w fun e w' => IntsNew w w' (rdL ss ds ss.length) e := by
  have h3 := hK.1
  obtain ⟨i0, hi, hz0, hz1, hz2⟩ := info_parts info3
  go_enter Try.func19, Try.ntmps19
  go_wp2_with fail
  refine (setOf_any ds w B da dc hD hB hwd).mono ?_
  rintro e w1 ⟨rfl, hown1, b1, hz⟩
  go_wp2_with fail
  obtain ⟨X, hX⟩ : ∃ X, X = w1.alloc (.cells #[.map (some w.heap.size)] 52) := ⟨_, rfl⟩
  have bX : Below w1.heap.size w1 X := by rw [hX]; exact below_box _ _
  have zX : w1.heap.size < X.heap.size := by rw [hX]; simp
  have cX : X.cell? ⟨w1.heap.size, 0, none⟩ = some (.map (some w.heap.size)) := by rw [hX]; simp
  have BX : Below w.heap.size w X := b1.trans (bX.mono (by omega))
  have mX : Hid (X.ownsMap Try.prog 3 unitElem w.heap.size ds.length (Sd ds ds.length)) := owns_under hown1 (bX.block _ hz)
  have SX : Hid (StReps X (· < B) ss a) := hK.under (BX.mono hB)
  rw [← hX]
  clear hX bX b1 hown1 hK
  go_loopw [7, 15] (fun d i wr => ∃ k : Nat, k ≤ ss.length ∧ i = .int .i64 k ∧ wr.ownsRow X.heap.size 3 1 d (rdL ss ds k).length ((rdL ss ds k).map (Value.int .i64)) ∧ Below X.heap.size X wr) (fun _ i _ => ss.length - (intOf i).toNat)
  case atStart => exact ⟨0, Nat.zero_le _, rfl, World.ownsRow_nil _ _ _ _, Below.refl _ _⟩
  case round =>
    obtain ⟨k, hk, rfl, hown, hbel⟩ := hrel
    obtain ⟨w0, rfl⟩ : ∃ x, x = wr := ⟨wr, rfl⟩
    obtain ⟨ra, rc, rfl⟩ := owns_slice' hown
    have hrl := rdL_le ss ds k
    have HO : Hid (w0.ownsRow X.heap.size 3 1 (.slice ra (rdL ss ds k).length rc) (rdL ss ds k).length ((rdL ss ds k).map (Value.int .i64))) := hown
    have HR : Hid (rdL ss ds (k + 1) = if rdy ss ds k then rdL ss ds k ++ [(k : Int)] else rdL ss ds k) := rfl
    have z0 := hbel.size
    clear hown
    by_cases hlt : k < ss.length
    · obtain ⟨-, C, hA, hr⟩ := SX.out
      obtain ⟨b, off, rfl, hbB, hc⟩ := hA (by omega)
      have hki : (k : Int) < (ss.length : Int) := by omega
      obtain ⟨wa, sa, aa, ba, wc, sc, ac, bc, e0, e1, e2, e3, e4, e5, hI, hac⟩ := (hr k hlt).pieces
      have hck : ∀ j, j < 6 → w0.cell? ⟨b, off + k * 6 + j, none⟩ = some (C k j) := fun j hj => (hbel.cell (p := ⟨b, off + k * 6 + j, none⟩) (by show b < _; omega)).trans (hc k hlt j hj)
      have hc0 : w0.cell? ⟨b, off + k * 6, none⟩ = some (C k 0) := hck 0 (by omega)
      have hc1 := hck 1 (by omega)
      have hc2 := hck 2 (by omega)
      have hc3 := hck 3 (by omega)
      have hc4 := hck 4 (by omega)
      have hc5 := hck 5 (by omega)
      rw [e0] at hc0
      rw [e1] at hc1
      rw [e2] at hc2
      rw [e3] at hc3
      rw [e4] at hc4
      rw [e5] at hc5
      have HI : Hid (Ints X (· < B) (pth ss k).after aa) := hI
      have HRY : Hid (rdy ss ds k = (!hasI ds k ds.length && allD ds (pth ss k).after (pth ss k).after.length)) := rfl
      have hh : Maps.has (Sd ds ds.length) (.int .i64 (k : Int)) = hasI ds k ds.length := has_Sd _ _ _
      have HWK : Hid ((Lit.int .i64 (k : Int)).wf = true) := WalkArith.wf_i64 (by omega)
      have hbx : w1.heap.size < X.heap.size := zX
      clear hck hc hA hr e0 e1 e2 e3 e4 e5 hI
      go_wp2_with fail
      obtain ⟨Y, hY⟩ : ∃ Y, Y = w0.alloc (.cells #[.int .i64 (pth ss k).part, .slice wa (pth ss k).way.length wc, .string (pth ss k).type, .slice sa (pth ss k).sels.length sc, .slice aa (pth ss k).after.length ac, .slice ba (pth ss k).brings.length bc] 44) := ⟨_, rfl⟩
      have bY : Below w0.heap.size w0 Y := by rw [hY]; exact below_box _ _
      have zY : Y.heap.size = w0.heap.size + 1 := by rw [hY]; simp
      have c4Y : Y.cell? ⟨w0.heap.size, 4, none⟩ = some (.slice aa (pth ss k).after.length ac) := by rw [hY]; simp
      have bXY : Below X.heap.size X Y := hbel.trans (bY.mono z0)
      rw [← hY]
      clear hY hc0 hc1 hc2 hc3 hc4 hc5
      have hwX : w.heap.size < X.heap.size := by omega
      refine (waits_any (k : Int) HWK.out Y w1.heap.size w.heap.size ds.length _ ((bXY.cell (p := ⟨w1.heap.size, 0, none⟩) hbx).trans cX) (owns_under mX.out (bXY.block _ hwX))).mono ?_
      rw [hh]
      rintro e w2 ⟨rfl, hb2⟩
      have b02 : Below w0.heap.size w0 w2 := bY.trans (hb2.mono (by omega))
      have b2 : Below X.heap.size X w2 := hbel.trans (b02.mono z0)
      have c42 : w2.cell? ⟨w0.heap.size, 4, none⟩ = some (.slice aa (pth ss k).after.length ac) := (hb2.cell (p := ⟨w0.heap.size, 4, none⟩) (by show w0.heap.size < _; omega)).trans c4Y
      have z2 : w0.heap.size < w2.heap.size := by have := hb2.size; omega
      clear hb2 bY c4Y hh
      cases hv : hasI ds k ds.length
      · rw [hv] at HRY
        go_wp2_with fail
        refine (containsFunc_any (pth ss k).after ds w2 B aa ac (HI.out.under (b2.mono (by omega))) (by omega) (hwa k) w1.heap.size w.heap.size ds.length (by omega) ((b2.cell (p := ⟨w1.heap.size, 0, none⟩) hbx).trans cX) (owns_under mX.out (b2.block _ hwX))).mono ?_
        rintro e w3 ⟨rfl, hb3⟩
        have b03 : Below w0.heap.size w0 w3 := b02.trans (hb3.mono (by omega))
        have b3 : Below X.heap.size X w3 := hbel.trans (b03.mono z0)
        have z3 : w0.heap.size < w3.heap.size := by have := hb3.size; omega
        have HO3 : Hid (w3.ownsRow X.heap.size 3 1 (.slice ra (rdL ss ds k).length rc) (rdL ss ds k).length ((rdL ss ds k).map (Value.int .i64))) := owns_keep HO.out b03
        clear hb3 c42
        cases ha : allD ds (pth ss k).after (pth ss k).after.length
        · rw [ha] at HRY
          have HR2 : Hid (rdL ss ds (k + 1) = rdL ss ds k) := by show _ = _; rw [HR.out, HRY.out]; rfl
          go_wp2_with fail
          go_roundw
          case rel => exact ⟨k + 1, by omega, by go_num, by rw [HR2.out]; exact HO3.out, b3⟩
          case measure => simp [intOf]; omega
        · rw [ha] at HRY
          have HR2 : Hid (rdL ss ds (k + 1) = rdL ss ds k ++ [(k : Int)]) := by show _ = _; rw [HR.out, HRY.out]; rfl
          go_wp2_with (at_builtin; refine wpList_append_lies _ rfl _ _ 29 rfl X.heap.size 3 i0 (.int .i64 0) 1 8 Try.underlying29 hi hz0 hz1 hz2 rfl (by decide) (.slice ra (rdL ss ds k).length rc) (rdL ss ds k).length ((rdL ss ds k).map (Value.int .i64)) rfl (HO3.out.alloc _) ⟨w3.heap.size, 0, none⟩ 1 1 [.int .i64 (k : Int)] rfl rfl (World.news_of_block (heap_alloc_new w3 _)) (by intro u hu; simp at hu; subst hu; rfl) (by omega) (by unfold maxLen; omega) (by omega) (by simp; omega) _ rfl ?_)
          intro g2 cap2 w4 hown4 hgrow4 hat4 hlt4
          have hz4 := hgrow4.size
          simp at hz4
          have b4 : Below X.heap.size X w4 := ((b3.alloc (by omega) _).grown hgrow4 (by simp; omega) (fun x hx => by
            rcases HO3.out.2 with ⟨h', _⟩ | ⟨g', cap', cur, h', hb', _⟩
            · rw [h'] at hx; simp [Value.ownBlock] at hx
            · rw [h'] at hx; simp [Value.ownBlock] at hx; omega))
          have HOWN : Hid (w4.ownsRow X.heap.size 3 1 (.slice (some ⟨g2, 0, none⟩) ((rdL ss ds k).length + 1) cap2) ((rdL ss ds k).length + 1) ((rdL ss ds k ++ [(k : Int)]).map (Value.int .i64))) := by show World.ownsRow _ _ _ _ _ _ _; rw [List.map_append]; exact hown4
          clear hown4 hgrow4 hat4
          go_wp2_with fail
          go_roundw
          case rel => exact ⟨k + 1, by omega, by go_num, by rw [HR2.out]; simpa using HOWN.out, b4⟩
          case measure => simp [intOf]; omega
      · rw [hv] at HRY
        have HR2 : Hid (rdL ss ds (k + 1) = rdL ss ds k) := by show _ = _; rw [HR.out, HRY.out]; rfl
        have HO2 : Hid (w2.ownsRow X.heap.size 3 1 (.slice ra (rdL ss ds k).length rc) (rdL ss ds k).length ((rdL ss ds k).map (Value.int .i64))) := owns_keep HO.out b02
        go_wp2_with fail
        go_roundw
        case rel => exact ⟨k + 1, by omega, by go_num, by rw [HR2.out]; exact HO2.out, b2⟩
        case measure => simp [intOf]; omega
    · go_wp2_with fail
      go_ret
      have e : k = ss.length := by omega
      subst e
      have hS := ints_of_owns HO.out (by omega)
      have hwX : w.heap.size ≤ X.heap.size := BX.size
      refine ⟨ra, rc, rfl, BX.trans (hbel.mono hwX), hS.1.sub fun x hx => by omega, fun h0 => ?_⟩
      obtain ⟨b2, o2, q1, q2, q3, q4⟩ := hS.2 h0
      exact ⟨b2, o2, q1, by omega, q3, q4⟩
end Go.Proofs.Ytahelconmfldjaa
