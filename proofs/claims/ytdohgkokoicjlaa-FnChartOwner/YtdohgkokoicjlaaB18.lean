import Derived.Test.YtdohgkokoicjlaaB15
import Derived.Test.YtdohgkokoicjlaaB12
import Derived.Laws.IdiomStrings
set_option linter.unusedSimpArgs false
set_option linter.unusedVariables false
namespace Go.Proofs.Ytdohgkokoicjlaa
open Go.RowKit
def typeNamesB (t : T) : Bool := nameB t.name && (t.key.toList.isEmpty || nameB t.key) && decide (0 < t.fields.length) && decide (t.fields.length ≤ 8) && fieldsNamesTo t.fields t.fields.length
set_option maxHeartbeats 1600000 in
theorem isTypeOfNames_any (t : T) (w : World) (B : Nat) (v : Value) (hR : TRep w (· < B) t v) (hB : B ≤ w.heap.size) :
    Calls Try.prog 60 #[v] w fun e w' => e = .returned (.bool (typeNamesB t)) ∧ Below w.heap.size w w' := by
  obtain ⟨name, key, fields⟩ := t
  obtain ⟨fa, fc, rfl, hK, hnc, hn, ho⟩ := hR
  simp only at hK hnc hn ho
  have h3 := hK.1
  have hN1 := fun w => isName_any name w hn
  have hN2 := fun w => isName_any key w ho
  have HT : Hid (typeNamesB ⟨name, key, fields⟩ = (nameB name && (key.toList.isEmpty || nameB key) && decide (0 < fields.length) && decide (fields.length ≤ 8) && fieldsNamesTo fields fields.length)) := rfl
  cases x1 : nameB name
  · rw [x1] at hN1
    go_enter Try.func60, Try.ntmps60
    go_wp2_with (go_at_call_of 35 (Value.string name); refine (hN1 _).mono ?_; rintro e w' ⟨rfl, rfl⟩)
    go_ret
    exact ⟨ret_bool (by rw [HT.out, x1]; rfl), below_box _ _⟩
  rw [x1] at hN1
  have key2 : ∀ b1 : Bool, key.toList.isEmpty = b1 → (b1 = false → nameB key = true) → Calls Try.prog 60 #[.agg #[.string name, .string key, .slice fa fields.length fc]] w fun e w' => e = .returned (.bool (typeNamesB ⟨name, key, fields⟩)) ∧ Below w.heap.size w w' := by
    intro b1 hb1 hb2
    have HE : Hid (typeNamesB ⟨name, key, fields⟩ = (decide (0 < fields.length) && decide (fields.length ≤ 8) && fieldsNamesTo fields fields.length)) := by
      show _ = _
      rw [HT.out, x1, hb1]
      cases b1
      · rw [hb2 rfl]; rfl
      · rfl
    have key3 : ∀ (hlen : 0 < fields.length ∧ fields.length ≤ 8 ∨ ¬ (0 < fields.length ∧ fields.length ≤ 8)), Calls Try.prog 60 #[.agg #[.string name, .string key, .slice fa fields.length fc]] w fun e w' => e = .returned (.bool (typeNamesB ⟨name, key, fields⟩)) ∧ Below w.heap.size w w' := by
      intro hlen
      rcases hlen with hlen | hlen
      · have d1 : ((fields.length : Int) == 0) = false := by simp; intro e; simp [e] at hlen
        have d2 : decide ((8 : Int) < (fields.length : Int)) = false := decide_eq_false (by omega)
        have d3 : decide (8 < fields.length) = false := decide_eq_false (by omega)
        have HE2 : Hid (typeNamesB ⟨name, key, fields⟩ = fieldsNamesTo fields fields.length) := by
          show _ = _
          rw [HE.out, decide_eq_true hlen.1, decide_eq_true hlen.2]; rfl
        cases b1
        all_goals
          first | (have hb3 := hb2 rfl; rw [hb3] at hN2; clear hb3) | skip
          clear hb2
          go_enter Try.func60, Try.ntmps60
          go_wp2_with (first | (go_at_call_of 35 (Value.string name); refine (hN1 _).mono ?_; rintro e w' ⟨rfl, rfl⟩) | (go_at_call_of 35 (Value.string key); refine (hN2 _).mono ?_; rintro e w' ⟨rfl, rfl⟩))
          go_loopw [33] (fun i wr => ∃ k : Nat, k ≤ fields.length ∧ i = .int .i64 k ∧ Below w.heap.size w wr ∧ fieldsNamesTo fields k = true) (fun i _ => fields.length - (intOf i).toNat)
          case atStart => exact ⟨0, Nat.zero_le _, rfl, below_box _ _, rfl⟩
          case round =>
            obtain ⟨k, hk, rfl, hbw, hp⟩ := hrel
            have HP : Hid (fieldsNamesTo fields k = true) := hp
            clear hp
            have hz := hbw.size
            by_cases hlt : k < fields.length
            · obtain ⟨b, off, na, nc, rfl, hfr, hcs⟩ := hK.at hB k hlt
              obtain ⟨c0, c1, c2, c3, c4, c5, c6, c7⟩ := hcs wr hbw
              have hFN := fun o => isFieldOfNames_any (fth fields k) (wr.alloc o) B _ (hfr.under ((hbw.alloc hz o).mono hB)) (by simp; omega)
              clear hcs
              cases x3 : fieldNamesB (fth fields k)
              · rw [x3] at hFN
                have hres : Hid (fieldsNamesTo fields fields.length = false) := all_false (k := k) hlt x3
                go_wp2_with (go_at_call 79; refine (hFN _).mono ?_; rintro e w1 ⟨rfl, hb1'⟩)
                go_ret
                exact ⟨ret_bool (by rw [HE2.out, hres.out]), (hbw.alloc hz _).trans (hb1'.mono (by simp; omega))⟩
              · rw [x3] at hFN
                go_wp2_with (go_at_call 79; refine (hFN _).mono ?_; rintro e w1 ⟨rfl, hb1'⟩)
                go_roundw
                case rel => exact ⟨k + 1, by omega, by go_num, (hbw.alloc hz _).trans (hb1'.mono (by simp; omega)), by rw [fieldsNamesTo_succ, HP.out, x3]; rfl⟩
                case measure => simp [intOf]; omega
            · go_wp2_with fail
              go_ret
              have e : k = fields.length := by omega
              exact ⟨ret_bool (by rw [HE2.out, ← e, HP.out]), hbw⟩
      · have HE2 : Hid (typeNamesB ⟨name, key, fields⟩ = false) := by
          show _ = _
          rw [HE.out]
          by_cases h0 : 0 < fields.length
          · have : ¬ fields.length ≤ 8 := fun h => hlen ⟨h0, h⟩
            simp [this]
          · simp [h0]
        have dd : ((fields.length : Int) == 0) = true ∨ ((fields.length : Int) == 0) = false ∧ decide ((8 : Int) < (fields.length : Int)) = true := by
          by_cases h0 : fields.length = 0
          · left; simp; exact List.eq_nil_of_length_eq_zero h0
          · right
            refine ⟨by simp; intro e; simp [e] at h0, decide_eq_true ?_⟩
            have : ¬ fields.length ≤ 8 := fun h => hlen ⟨by omega, h⟩
            omega
        clear hlen
        rcases dd with d1 | ⟨d1, d2⟩
        all_goals
          cases b1
          all_goals
            first | (have hb3 := hb2 rfl; rw [hb3] at hN2; clear hb3) | skip
            clear hb2
            go_enter Try.func60, Try.ntmps60
            go_wp2_with (first | (go_at_call_of 35 (Value.string name); refine (hN1 _).mono ?_; rintro e w' ⟨rfl, rfl⟩) | (go_at_call_of 35 (Value.string key); refine (hN2 _).mono ?_; rintro e w' ⟨rfl, rfl⟩))
            go_ret
            exact ⟨ret_bool HE2.out.symm, below_box _ _⟩
    exact key3 (Classical.em _)
  cases x2 : key.toList.isEmpty
  · cases x3 : nameB key
    · rw [x3] at hN2
      go_enter Try.func60, Try.ntmps60
      go_wp2_with (first | (go_at_call_of 35 (Value.string name); refine (hN1 _).mono ?_; rintro e w' ⟨rfl, rfl⟩) | (go_at_call_of 35 (Value.string key); refine (hN2 _).mono ?_; rintro e w' ⟨rfl, rfl⟩))
      go_ret
      exact ⟨ret_bool (by rw [HT.out, x2, x3]; simp), below_box _ _⟩
    · exact key2 false x2 fun _ => x3
  · exact key2 true x2 fun h => by cases h
end Go.Proofs.Ytdohgkokoicjlaa
namespace Go.Proofs.Ytdohgkokoicjlaa
open Go.RowKit Go.Maps
def CodeOk (w : World) (cb : Nat) (v : Value) (n : Nat) : Prop := ∃ (a : Option Addr) (c off : Nat), v = .slice a n c ∧ n ≤ c ∧ c ≤ maxLen ∧ cb < w.heap.size ∧ (0 < n → a = some ⟨cb, off, none⟩) ∧ (a = none ∨ ∃ b o, a = some ⟨b, o, none⟩) ∧ ∀ i, i < n → ∃ x : Nat, x < 256 ∧ w.cell? ⟨cb, off + i, none⟩ = some (.int .u8 x)
set_option maxHeartbeats 800000 in
theorem l1Open_any (w : World) (cb n : Nat) (v : Value) (h : CodeOk w cb v n) (hn : n ≤ 1048576) :
    Calls Try.prog 16 #[v] w fun e w' => ∃ N, e = .returned (.pointer (some ⟨N, 0, none⟩)) ∧ w.heap.size ≤ N ∧ RdOk w' N cb 0 ∧ Below w.heap.size w w' := by
  obtain ⟨a, c, off, rfl, hc, hm, hcb, ha, ha2, hx⟩ := h
  unfold maxLen at hm
  have key : ∀ k, k ≤ n → k ≤ 2000 → ∀ c', RdOk (w.alloc (.cells #[.slice a k c', .int .i64 0] 71)) w.heap.size cb 0 := fun k hk hk2 c' =>
    ⟨0, k, c', a, off, Nat.le_refl _, hk2, by omega, block_new _ _ rfl, by simp; omega, fun h => ha (by omega), fun i hi => by
      obtain ⟨x, h1, h2⟩ := hx i (by omega)
      exact ⟨x, h1, ((below_box w _).cell (p := ⟨cb, off + i, none⟩) hcb).trans h2⟩⟩
  have HK := hid_of key
  clear key hx
  by_cases h2 : 2000 < n
  · obtain rfl := ha (by omega)
    have h2' : (2000 : Int) < (n : Int) := by omega
    have h3 : (2000 : Int) ≤ (c : Int) := by omega
    go_enter Try.func16, Try.ntmps16
    go_wp2_with fail
    go_ret
    exact ⟨_, rfl, Nat.le_refl _, HK.out 2000 (by omega) (by omega) _, below_box _ _⟩
  · have h2' : ¬ (2000 : Int) < (n : Int) := by omega
    go_enter Try.func16, Try.ntmps16
    go_wp2_with fail
    go_ret
    exact ⟨_, rfl, Nat.le_refl _, HK.out n (by omega) (by omega) _, below_box _ _⟩
set_option maxHeartbeats 800000 in
theorem of_any (w : World) (rb cb q : Nat) (ns : List ByteArray) (a : Option Addr) (c : Nat) (P : Nat → Prop) (hR : RdOk w rb cb q) (hq : q ≤ 1000000) (hS : Strs w P ns a) (hP : ∀ b, P b → b < w.heap.size ∧ b ≠ rb) (h0 : 0 < ns.length) (hl : ns.length ≤ 1000) :
    Calls Try.prog 19 #[.pointer (some ⟨rb, 0, none⟩), .slice a ns.length c] w fun e w' => ∃ k, k < ns.length ∧ e = .returned (.string (nth ns k)) ∧ RdOk w' rb cb (q + 1) ∧ Only (· = rb) w w' ∧ w'.heap.size = w.heap.size := by
  obtain ⟨b, off, rfl, hb, hc⟩ := hS.1 (by intro e; rw [e] at h0; simp at h0)
  have HP := hid_of (pick_any w rb cb q ns.length hR hq (by omega) (by omega))
  have HC := hid_of hc
  have HB := hid_of (hP b hb)
  clear hc hS hP
  obtain ⟨L, hL⟩ : ∃ L, L = ns.length := ⟨_, rfl⟩
  rw [← hL] at HP h0 hl ⊢
  have HL := hid_of hL
  clear hL
  go_enter Try.func19, Try.ntmps19
  go_wp2_with (go_at_call 33; refine HP.out.mono ?_; rintro e w' ⟨x, rfl, hx, hr, ho, hz⟩; have hxl : x < L := (by omega); have cx : w'.cell? ⟨b, off + x, none⟩ = some (.string (nth ns x)) := ((World.cell?_of_block (a := ⟨b, off + x, none⟩) (ho.block b HB.out.1 HB.out.2)).trans (HC.out x (by rw [← HL.out]; exact hxl))); have hxi : (x : Int) < (L : Int) := (by omega))
  go_ret
  exact ⟨x, hxl, rfl, hr, ho, hz⟩
end Go.Proofs.Ytdohgkokoicjlaa
