import Derived.Test.YtokmgbidmnanpaaGreatDoorBS4
set_option linter.unusedSimpArgs false
set_option linter.unusedVariables false
namespace Go.Proofs.YtokmgbidmnanpaaGreatDoor
open Go.RowKit Go.Shelf Go.Maps
def pairsS : Value := .agg #[.func (.func 89) #[] #[], .func (.func 93) #[] #[], .func (.func 94) #[] #[], .func (.func 95) #[] #[]]
theorem selPairs_any (w : World) : Calls Tryz.prog 50 #[] w fun e w' => e = .returned pairsS ∧ Below w.heap.size w w' := by
  go_enter Tryz.func50, Tryz.ntmps50
  go_wp2_with fail
  refine bodyPost_ret (v := pairsS) ?res rfl ⟨rfl, below_box _ _⟩
  case res => simp [results, Tryz.results50, go_sem, pairsS]
theorem kidsS_any (b o : Nat) (w : World) : Calls Tryz.prog 94 #[.pointer (some ⟨b, o, none⟩)] w fun e w' => e = .returned (.pointer (some ⟨b, o + 4, none⟩)) ∧ w = w' := by
  go_enter Tryz.func94, Tryz.ntmps94
  go_wp2_with fail
  go_ret
  exact ⟨rfl, rfl⟩
theorem empty_len (ks : List Se) : ks.isEmpty = decide (ks.length = 0) := by cases ks <;> simp
set_option maxHeartbeats 800000 in
theorem alikeS_any (x s : Se) (a a' : Option Addr) (c c' : Nat) (w : World) :
    Calls Tryz.prog 93 #[.agg #[.string x.al, .string x.name, .bool x.one, .int .i64 x.id, .slice a x.kids.length c], .agg #[.string s.al, .string s.name, .bool s.one, .int .i64 s.id, .slice a' s.kids.length c']] w fun e w' => e = .returned (.bool (alikeS x s)) ∧ Below w.heap.size w w' := by
  have hb2 : ∀ o1 o2, Below w.heap.size w ((w.alloc o1).alloc o2) := fun o1 o2 => below_box2 w o1 o2
  have HE : Hid (alikeS x s = ((x.name.toList == s.name.toList) && (x.one == s.one) && (x.id == s.id) && (decide (x.kids.length = 0) == decide (s.kids.length = 0)))) := hid_of (by rw [alikeS, empty_len, empty_len])
  generalize alikeS x s = r at *
  generalize x.name = n1 at *
  generalize x.al = l1 at *
  generalize x.one = o1 at *
  generalize x.id = i1 at *
  generalize x.kids.length = k1 at *
  generalize s.name = n2 at *
  generalize s.al = l2 at *
  generalize s.one = o2 at *
  generalize s.id = i2 at *
  generalize s.kids.length = k2 at *
  cases e1 : (n1.toList == n2.toList)
  · have hr : Hid (r = false) := hid_of (by rw [HE.out, e1]; rfl)
    go_enter Tryz.func93, Tryz.ntmps93
    go_wp2_with fail
    go_ret
    exact ⟨ret_bool (by rw [hr.out]), hb2 _ _⟩
  cases e2 : (o1 == o2)
  · have hr : Hid (r = false) := hid_of (by rw [HE.out, e1, e2]; rfl)
    go_enter Tryz.func93, Tryz.ntmps93
    go_wp2_with fail
    go_ret
    exact ⟨ret_bool (by rw [hr.out]), hb2 _ _⟩
  cases e3 : (i1 == i2)
  · have hr : Hid (r = false) := hid_of (by rw [HE.out, e1, e2, e3]; rfl)
    go_enter Tryz.func93, Tryz.ntmps93
    go_wp2_with fail
    go_ret
    exact ⟨ret_bool (by rw [hr.out]), hb2 _ _⟩
  have HR : Hid (r = (decide (k1 = 0) == decide (k2 = 0))) := hid_of (by rw [HE.out, e1, e2, e3]; simp)
  clear HE
  by_cases h1 : k1 = 0 <;> by_cases h2 : k2 = 0
  · subst h1 h2
    go_enter Tryz.func93, Tryz.ntmps93
    go_wp2_with fail
    go_ret
    exact ⟨ret_bool (by rw [HR.out]; rfl), hb2 _ _⟩
  · subst h1
    have hp : 0 < k2 := by omega
    have hr : Hid (r = false) := hid_of (by rw [HR.out]; simp [h2])
    go_enter Tryz.func93, Tryz.ntmps93
    go_wp2_with fail
    go_ret
    exact ⟨ret_bool (by rw [hr.out]), hb2 _ _⟩
  · subst h2
    have hp : 0 < k1 := by omega
    have hr : Hid (r = false) := hid_of (by rw [HR.out]; simp [h1])
    go_enter Tryz.func93, Tryz.ntmps93
    go_wp2_with fail
    go_ret
    exact ⟨ret_bool (by rw [hr.out]), hb2 _ _⟩
  · have hp : 0 < k1 := by omega
    have hp2 : 0 < k2 := by omega
    have hr : Hid (r = true) := hid_of (by rw [HR.out]; simp [h1, h2])
    go_enter Tryz.func93, Tryz.ntmps93
    go_wp2_with fail
    go_ret
    exact ⟨ret_bool (by rw [hr.out]), hb2 _ _⟩
def BoxS (w : World) (b : Nat) (s : Se) (a : Option Addr) (c : Nat) : Prop := b < w.heap.size ∧ w.cell? ⟨b, 0, none⟩ = some (.string s.al) ∧ w.cell? ⟨b, 1, none⟩ = some (.string s.name) ∧ w.cell? ⟨b, 2, none⟩ = some (.bool s.one) ∧ w.cell? ⟨b, 3, none⟩ = some (.int .i64 s.id) ∧ w.cell? ⟨b, 4, none⟩ = some (.slice a s.kids.length c)
theorem BoxS.keep {w w' : World} {b : Nat} {s : Se} {a : Option Addr} {c : Nat} (h : BoxS w b s a c) (hb : Below w.heap.size w w') : BoxS w' b s a c :=
  ⟨Nat.lt_of_lt_of_le h.1 hb.size, (hb.cell (p := ⟨b, 0, none⟩) h.1).trans h.2.1, (hb.cell (p := ⟨b, 1, none⟩) h.1).trans h.2.2.1, (hb.cell (p := ⟨b, 2, none⟩) h.1).trans h.2.2.2.1, (hb.cell (p := ⟨b, 3, none⟩) h.1).trans h.2.2.2.2.1, (hb.cell (p := ⟨b, 4, none⟩) h.1).trans h.2.2.2.2.2⟩
theorem BoxS.new (w : World) (s : Se) (a : Option Addr) (c : Nat) : BoxS (w.alloc (.cells #[.string s.al, .string s.name, .bool s.one, .int .i64 s.id, .slice a s.kids.length c] 56)) w.heap.size s a c := by
  refine ⟨by simp, ?_, ?_, ?_, ?_, ?_⟩ <;> simp
set_option maxRecDepth 20000 in
set_option maxHeartbeats 800000 in
theorem same1_any (x s : Se) (xa sa : Option Addr) (xc sc b : Nat) (w : World) (hB : BoxS w b s sa sc) :
    Calls Tryz.prog 91 #[.agg #[.string x.al, .string x.name, .bool x.one, .int .i64 x.id, .slice xa x.kids.length xc], .pointer (some ⟨b, 0, none⟩)] w fun e w' => e = .returned (.bool ((keyS x).toList == (keyS s).toList)) ∧ Below w.heap.size w w' := by
  have bX := below_box w (.cells #[.string x.al, .string x.name, .bool x.one, .int .i64 x.id, .slice xa x.kids.length xc] 56)
  have HX := hid_of (BoxS.new w x xa xc)
  have hlt := hB.1
  have HS := hid_of (hB.keep bX)
  clear hB
  go_enter Tryz.func91, Tryz.ntmps91
  go_wp2_with fail
  generalize w.alloc (.cells #[.string x.al, .string x.name, .bool x.one, .int .i64 x.id, .slice xa x.kids.length xc] 56) = X at *
  obtain ⟨x9, x0, x1, x2, x3, x4⟩ := HX.out
  obtain ⟨s9, s0, s1, s2, s3, s4⟩ := HS.out
  have HA := hid_of (fun W v2 v3 v4 => answeredAs_any x W v2 v3 v4)
  have HA2 := hid_of (fun W v2 v3 v4 => answeredAs_any s W v2 v3 v4)
  go_region_held3 (fun w' => w'.cell? ⟨w.heap.size, 0, none⟩ = some (.string x.al) ∧ w'.cell? ⟨w.heap.size, 1, none⟩ = some (.string x.name) ∧ w'.cell? ⟨w.heap.size, 2, none⟩ = some (.bool x.one) ∧ w'.cell? ⟨w.heap.size, 3, none⟩ = some (.int .i64 x.id) ∧ w'.cell? ⟨w.heap.size, 4, none⟩ = some (.slice xa x.kids.length xc) ∧ w'.cell? ⟨b, 0, none⟩ = some (.string s.al) ∧ w'.cell? ⟨b, 1, none⟩ = some (.string s.name) ∧ w'.cell? ⟨b, 2, none⟩ = some (.bool s.one) ∧ w'.cell? ⟨b, 3, none⟩ = some (.int .i64 s.id) ∧ w'.cell? ⟨b, 4, none⟩ = some (.slice sa s.kids.length sc)) (go_keep)
    (first
      | (
        go_at_call_of 92 (Value.agg #[.string x.al, .string x.name, .bool x.one, .int .i64 x.id, .slice xa x.kids.length xc])
        refine (HA.out X.drew _ _ _).mono ?_
        rintro e w1 ⟨rfl, hb1⟩
        have b1 := below_undrew hb1
        clear hb1
        obtain ⟨y9, y0, y1, y2, y3, y4⟩ := HX.out.keep b1
        obtain ⟨t9, t0, t1, t2, t3, t4⟩ := HS.out.keep b1)
      | (
        go_at_call_of 92 (Value.agg #[.string s.al, .string s.name, .bool s.one, .int .i64 s.id, .slice sa s.kids.length sc])
        refine (HA2.out w1 _ _ _).mono ?_
        rintro e w2 ⟨rfl, hb2⟩
        have b2 := b1.trans (hb2.mono b1.size)
        obtain ⟨z9, z0, z1, z2, z3, z4⟩ := HX.out.keep b2
        obtain ⟨r9, r0, r1, r2, r3, r4⟩ := HS.out.keep b2))
  all_goals
    go_wp2_with fail
    go_ret
    exact ⟨rfl, bX.trans (b2.mono bX.size)⟩
def mateI (out : List Se) (k : ByteArray) : Int := match mateS out k with
  | none => -1
  | some i => (i : Nat)
theorem mateI_none {out : List Se} {k : ByteArray} (h : ∀ i, i < out.length → (keyS (sth out i)).toList ≠ k.toList) : mateI out k = -1 := by unfold mateI; rw [mateS_none.2 h]
theorem mateI_some {out : List Se} {k : ByteArray} {i : Nat} (h : i < out.length ∧ (keyS (sth out i)).toList = k.toList ∧ ∀ j, j < i → (keyS (sth out j)).toList ≠ k.toList) : mateI out k = (i : Nat) := by unfold mateI; rw [mateS_some.2 h]
set_option maxRecDepth 20000 in
set_option maxHeartbeats 800000 in
theorem indexFunc_any (ks : List Se) (ka : Option Addr) (kc : Nat) (s : Se) (sa : Option Addr) (sc b : Nat) (w : World) (hR : SeReps w (· < w.heap.size) ks ka) (hB : BoxS w b s sa sc) :
    Calls Tryz.prog 90 #[.slice ka ks.length kc, .func (.func 91) #[] #[.pointer (some ⟨b, 0, none⟩)]] w fun e w' => e = .returned (.int .i64 (mateI ks (keyS s))) ∧ Below w.heap.size w w' := by
  have h72 := hR.1
  have HR := hid_of hR
  have HB := hid_of hB
  clear hR hB
  go_enter Tryz.func90, Tryz.ntmps90
  go_wp2_with fail
  go_loopw [8] (fun i wr => ∃ k : Nat, k ≤ ks.length ∧ i = .int .i64 k ∧ Hid (∀ j, j < k → (keyS (sth ks j)).toList ≠ (keyS s).toList) ∧ Below w.heap.size w wr) (fun i _ => ks.length - (intOf i).toNat)
  case atStart => exact ⟨0, Nat.zero_le _, rfl, hid_of (fun j hj => by omega), Below.refl _ _⟩
  case round =>
    obtain ⟨k, hk, rfl, HN, hb⟩ := hrel
    obtain ⟨w0, rfl⟩ : ∃ x, x = wr := ⟨wr, rfl⟩
    have zb := hb.size
    by_cases hlt : k < ks.length
    case neg =>
      have e : k = ks.length := by omega
      subst e
      have HE := hid_of (mateI_none HN.out)
      go_wp2_with fail
      go_ret
      exact ⟨by rw [HE.out]; rfl, hb⟩
    have hki : (k : Int) < (ks.length : Int) := by omega
    obtain ⟨-, C, hA, hr⟩ := HR.out.mono fun b hb2 => hb.block b hb2
    obtain ⟨kb, koff, rfl, hkB, hkc⟩ := hA (by omega)
    obtain ⟨xa, xc, e0, e1, e2, e3, e4, hal, hnm, -⟩ := (hr k hlt).pieces
    have q0 : w0.cell? ⟨kb, koff + k * 5, none⟩ = some (.string (sth ks k).al) := e0 ▸ hkc k hlt 0 (by omega)
    have q1 : w0.cell? ⟨kb, koff + k * 5 + 1, none⟩ = some (.string (sth ks k).name) := e1 ▸ hkc k hlt 1 (by omega)
    have q2 : w0.cell? ⟨kb, koff + k * 5 + 2, none⟩ = some (.bool (sth ks k).one) := e2 ▸ hkc k hlt 2 (by omega)
    have q3 : w0.cell? ⟨kb, koff + k * 5 + 3, none⟩ = some (.int .i64 (sth ks k).id) := e3 ▸ hkc k hlt 3 (by omega)
    have q4 : w0.cell? ⟨kb, koff + k * 5 + 4, none⟩ = some (.slice xa (sth ks k).kids.length xc) := e4 ▸ hkc k hlt 4 (by omega)
    have HF := hid_of (same1_any (sth ks k) s xa sa xc sc b w0 (HB.out.keep hb))
    have HH : Hid ((keyS (sth ks k)).toList = (keyS s).toList → mateI ks (keyS s) = (k : Nat)) := hid_of fun h => mateI_some ⟨hlt, h, HN.out⟩
    have HX : Hid ((keyS (sth ks k)).toList ≠ (keyS s).toList → ∀ j, j < k + 1 → (keyS (sth ks j)).toList ≠ (keyS s).toList) := hid_of fun h j hj => by
      by_cases e : j = k
      · subst e; exact h
      · exact HN.out j (by omega)
    clear e0 e1 e2 e3 e4 hkc hr hA hal hnm
    generalize sth ks k = x at *
    cases hq : ((keyS x).toList == (keyS s).toList)
    · rw [hq] at HF
      have HX2 := hid_of (HX.out (by simpa using hq))
      go_wp2_with fail
      refine HF.out.mono ?_
      rintro e w1 ⟨rfl, hb1⟩
      have hb01 := hb.trans (hb1.mono zb)
      go_wp2_with fail
      go_roundw
      case measure => simp [intOf]; omega
      case rel => exact ⟨k + 1, by omega, by go_num, HX2, hb01⟩
    · rw [hq] at HF
      have HE := hid_of (HH.out (by simpa using hq))
      go_wp2_with fail
      refine HF.out.mono ?_
      rintro e w1 ⟨rfl, hb1⟩
      have hb01 := hb.trans (hb1.mono zb)
      go_wp2_with fail
      go_ret
      exact ⟨by rw [HE.out]; rfl, hb01⟩
set_option maxHeartbeats 800000 in
theorem mateS_any (ks : List Se) (ka : Option Addr) (kc : Nat) (s : Se) (sa : Option Addr) (sc : Nat) (n : Int) (w : World) (hR : SeReps w (· < w.heap.size) ks ka) :
    Calls Tryz.prog 89 #[.slice ka ks.length kc, .agg #[.string s.al, .string s.name, .bool s.one, .int .i64 s.id, .slice sa s.kids.length sc], .int .i64 n] w fun e w' => e = .returned (.int .i64 (mateI ks (keyS s))) ∧ Below w.heap.size w w' := by
  have bX := below_box w (.cells #[.string s.al, .string s.name, .bool s.one, .int .i64 s.id, .slice sa s.kids.length sc] 56)
  have HI := hid_of (indexFunc_any ks ka kc s sa sc w.heap.size _ ((hR.mono fun b hb => bX.block b hb).sub fun b hb => by simp; omega) (BoxS.new w s sa sc))
  clear hR
  go_enter Tryz.func89, Tryz.ntmps89
  go_wp2_with fail
  refine HI.out.mono ?_
  rintro e w1 ⟨rfl, hb1⟩
  have hb01 := bX.trans (hb1.mono (by simp))
  go_wp2_with fail
  go_ret
  exact ⟨rfl, hb01⟩
end Go.Proofs.YtokmgbidmnanpaaGreatDoor
