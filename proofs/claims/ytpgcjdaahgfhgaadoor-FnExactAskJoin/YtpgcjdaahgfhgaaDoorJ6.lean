import Derived.Test.YtpgcjdaahgfhgaaDoorJ5
namespace Go.Proofs.YtpgcjdaahgfhgaaDoor
set_option linter.unusedSimpArgs false
set_option linter.unusedVariables false
open Go.RowKit Go.Shelf Go.Maps

/-- The four functions of fields. -/
def pairsS : Value := .agg #[.func (.func 26) #[] #[], .func (.func 30) #[] #[], .func (.func 31) #[] #[], .func (.func 32) #[] #[]]
/-- A field's five cells. -/
def aggS (s : Se) (a : Option Addr) (c : Nat) : Value := .agg #[.string s.al, .string s.name, .bool s.one, .int .i64 s.id, .slice a s.kids.length c]

theorem selPairs_any (w : World) : Calls Tryd.prog 18 #[] w fun e w' => e = .returned pairsS ∧ Below w.heap.size w w' := by
  go_enter Tryd.func18, Tryd.ntmps18
  go_wp2_with fail
  refine bodyPost_ret (v := pairsS) ?res rfl ⟨rfl, below_box _ _⟩
  case res => simp [results, Tryd.results18, go_sem, pairsS]
theorem kidsS_any (b o : Nat) (w : World) : Calls Tryd.prog 31 #[.pointer (some ⟨b, o, none⟩)] w fun e w' => e = .returned (.pointer (some ⟨b, o + 4, none⟩)) ∧ w = w' := by
  go_enter Tryd.func31, Tryd.ntmps31
  go_wp2_with fail
  go_ret
  exact ⟨rfl, rfl⟩
theorem empty_len (ks : List Se) : ks.isEmpty = decide (ks.length = 0) := by cases ks <;> simp

set_option maxHeartbeats 800000 in
theorem alikeS_any (x s : Se) (a a' : Option Addr) (c c' : Nat) (w : World) :
    Calls Tryd.prog 30 #[.agg #[.string x.al, .string x.name, .bool x.one, .int .i64 x.id, .slice a x.kids.length c], .agg #[.string s.al, .string s.name, .bool s.one, .int .i64 s.id, .slice a' s.kids.length c']] w fun e w' => e = .returned (.bool (alikeS x s)) ∧ Below w.heap.size w w' := by
  have hb2 : ∀ o1 o2, Below w.heap.size w ((w.alloc o1).alloc o2) := fun o1 o2 => below_box2 w o1 o2
  have HE : Hid (alikeS x s = ((x.name.toList == s.name.toList) && (x.one == s.one) && (x.id == s.id) && (decide (x.kids.length = 0) == decide (s.kids.length = 0)))) := hid_of (by rw [alikeS, empty_len, empty_len])
  generalize alikeS x s = r at *
  generalize x.name = n1 at *
  generalize x.al = l1 at *
  generalize x.one = o1 at *
  generalize x.id = i1 at *
  generalize x.kids.length = k1 at *
  generalize s.name = n2 at *
  generalize s.al = l2 at *
  generalize s.one = o2 at *
  generalize s.id = i2 at *
  generalize s.kids.length = k2 at *
  cases e1 : (n1.toList == n2.toList)
  · have hr : Hid (r = false) := hid_of (by rw [HE.out, e1]; rfl)
    go_enter Tryd.func30, Tryd.ntmps30
    go_wp2_with fail
    go_ret
    exact ⟨ret_bool (by rw [hr.out]), hb2 _ _⟩
  cases e2 : (o1 == o2)
  · have hr : Hid (r = false) := hid_of (by rw [HE.out, e1, e2]; rfl)
    go_enter Tryd.func30, Tryd.ntmps30
    go_wp2_with fail
    go_ret
    exact ⟨ret_bool (by rw [hr.out]), hb2 _ _⟩
  cases e3 : (i1 == i2)
  · have hr : Hid (r = false) := hid_of (by rw [HE.out, e1, e2, e3]; rfl)
    go_enter Tryd.func30, Tryd.ntmps30
    go_wp2_with fail
    go_ret
    exact ⟨ret_bool (by rw [hr.out]), hb2 _ _⟩
  have HR : Hid (r = (decide (k1 = 0) == decide (k2 = 0))) := hid_of (by rw [HE.out, e1, e2, e3]; simp)
  clear HE
  by_cases h1 : k1 = 0 <;> by_cases h2 : k2 = 0
  · subst h1 h2
    go_enter Tryd.func30, Tryd.ntmps30
    go_wp2_with fail
    go_ret
    exact ⟨ret_bool (by rw [HR.out]; rfl), hb2 _ _⟩
  · subst h1
    have hp : 0 < k2 := by omega
    have hr : Hid (r = false) := hid_of (by rw [HR.out]; simp [h2])
    go_enter Tryd.func30, Tryd.ntmps30
    go_wp2_with fail
    go_ret
    exact ⟨ret_bool (by rw [hr.out]), hb2 _ _⟩
  · subst h2
    have hp : 0 < k1 := by omega
    have hr : Hid (r = false) := hid_of (by rw [HR.out]; simp [h1])
    go_enter Tryd.func30, Tryd.ntmps30
    go_wp2_with fail
    go_ret
    exact ⟨ret_bool (by rw [hr.out]), hb2 _ _⟩
  · have hp : 0 < k1 := by omega
    have hp2 : 0 < k2 := by omega
    have hr : Hid (r = true) := hid_of (by rw [HR.out]; simp [h1, h2])
    go_enter Tryd.func30, Tryd.ntmps30
    go_wp2_with fail
    go_ret
    exact ⟨ret_bool (by rw [hr.out]), hb2 _ _⟩

/-- The box of the field that a mate is looked for. -/
def BoxS (w : World) (b : Nat) (s : Se) (a : Option Addr) (c : Nat) : Prop := b < w.heap.size ∧ w.cell? ⟨b, 0, none⟩ = some (.string s.al) ∧ w.cell? ⟨b, 1, none⟩ = some (.string s.name) ∧ w.cell? ⟨b, 2, none⟩ = some (.bool s.one) ∧ w.cell? ⟨b, 3, none⟩ = some (.int .i64 s.id) ∧ w.cell? ⟨b, 4, none⟩ = some (.slice a s.kids.length c)
theorem BoxS.keep {w w' : World} {b : Nat} {s : Se} {a : Option Addr} {c : Nat} (h : BoxS w b s a c) (hb : Below w.heap.size w w') : BoxS w' b s a c :=
  ⟨Nat.lt_of_lt_of_le h.1 hb.size, (hb.cell (p := ⟨b, 0, none⟩) h.1).trans h.2.1, (hb.cell (p := ⟨b, 1, none⟩) h.1).trans h.2.2.1, (hb.cell (p := ⟨b, 2, none⟩) h.1).trans h.2.2.2.1, (hb.cell (p := ⟨b, 3, none⟩) h.1).trans h.2.2.2.2.1, (hb.cell (p := ⟨b, 4, none⟩) h.1).trans h.2.2.2.2.2⟩
theorem BoxS.new (w : World) (s : Se) (a : Option Addr) (c : Nat) : BoxS (w.alloc (.cells #[.string s.al, .string s.name, .bool s.one, .int .i64 s.id, .slice a s.kids.length c] 37)) w.heap.size s a c := by
  refine ⟨by simp, ?_, ?_, ?_, ?_, ?_⟩ <;> simp

set_option maxRecDepth 20000 in
set_option maxHeartbeats 800000 in
theorem same1_any (x s : Se) (xa sa : Option Addr) (xc sc b : Nat) (w : World) (hB : BoxS w b s sa sc) :
    Calls Tryd.prog 28 #[.agg #[.string x.al, .string x.name, .bool x.one, .int .i64 x.id, .slice xa x.kids.length xc], .pointer (some ⟨b, 0, none⟩)] w fun e w' => e = .returned (.bool ((keyS x).toList == (keyS s).toList)) ∧ Below w.heap.size w w' := by
  have bX := below_box w (.cells #[.string x.al, .string x.name, .bool x.one, .int .i64 x.id, .slice xa x.kids.length xc] 37)
  have HX := hid_of (BoxS.new w x xa xc)
  have hlt := hB.1
  have HS := hid_of (hB.keep bX)
  clear hB
  go_enter Tryd.func28, Tryd.ntmps28
  go_wp2_with fail
  generalize w.alloc (.cells #[.string x.al, .string x.name, .bool x.one, .int .i64 x.id, .slice xa x.kids.length xc] 37) = X at *
  obtain ⟨x9, x0, x1, x2, x3, x4⟩ := HX.out
  obtain ⟨s9, s0, s1, s2, s3, s4⟩ := HS.out
  have HA := hid_of (fun W v2 v3 v4 => answeredAs_any x W v2 v3 v4)
  have HA2 := hid_of (fun W v2 v3 v4 => answeredAs_any s W v2 v3 v4)
  go_region_held3 (fun w' => w'.cell? ⟨w.heap.size, 0, none⟩ = some (.string x.al) ∧ w'.cell? ⟨w.heap.size, 1, none⟩ = some (.string x.name) ∧ w'.cell? ⟨w.heap.size, 2, none⟩ = some (.bool x.one) ∧ w'.cell? ⟨w.heap.size, 3, none⟩ = some (.int .i64 x.id) ∧ w'.cell? ⟨w.heap.size, 4, none⟩ = some (.slice xa x.kids.length xc) ∧ w'.cell? ⟨b, 0, none⟩ = some (.string s.al) ∧ w'.cell? ⟨b, 1, none⟩ = some (.string s.name) ∧ w'.cell? ⟨b, 2, none⟩ = some (.bool s.one) ∧ w'.cell? ⟨b, 3, none⟩ = some (.int .i64 s.id) ∧ w'.cell? ⟨b, 4, none⟩ = some (.slice sa s.kids.length sc)) (go_keep)
    (first
      | (
        go_at_call_of 29 (Value.agg #[.string x.al, .string x.name, .bool x.one, .int .i64 x.id, .slice xa x.kids.length xc])
        refine (HA.out X.drew _ _ _).mono ?_
        rintro e w1 ⟨rfl, hb1⟩
        have b1 := below_undrew hb1
        clear hb1
        obtain ⟨y9, y0, y1, y2, y3, y4⟩ := HX.out.keep b1
        obtain ⟨t9, t0, t1, t2, t3, t4⟩ := HS.out.keep b1)
      | (
        go_at_call_of 29 (Value.agg #[.string s.al, .string s.name, .bool s.one, .int .i64 s.id, .slice sa s.kids.length sc])
        refine (HA2.out w1 _ _ _).mono ?_
        rintro e w2 ⟨rfl, hb2⟩
        have b2 := b1.trans (hb2.mono b1.size)
        obtain ⟨z9, z0, z1, z2, z3, z4⟩ := HX.out.keep b2
        obtain ⟨r9, r0, r1, r2, r3, r4⟩ := HS.out.keep b2))
  all_goals
    go_wp2_with fail
    go_ret
    exact ⟨rfl, bX.trans (b2.mono bX.size)⟩

/-- Where the mate stands, -1 if there is none. -/
def mateI (out : List Se) (k : ByteArray) : Int := match mateS out k with
  | none => -1
  | some i => (i : Nat)
theorem mateI_none {out : List Se} {k : ByteArray} (h : ∀ i, i < out.length → (keyS (sth out i)).toList ≠ k.toList) : mateI out k = -1 := by unfold mateI; rw [mateS_none.2 h]
theorem mateI_some {out : List Se} {k : ByteArray} {i : Nat} (h : i < out.length ∧ (keyS (sth out i)).toList = k.toList ∧ ∀ j, j < i → (keyS (sth out j)).toList ≠ k.toList) : mateI out k = (i : Nat) := by unfold mateI; rw [mateS_some.2 h]

set_option maxRecDepth 20000 in
set_option maxHeartbeats 800000 in
theorem indexFunc_any (ks : List Se) (ka : Option Addr) (kc : Nat) (s : Se) (sa : Option Addr) (sc b : Nat) (w : World) (hR : SeReps w (· < w.heap.size) ks ka) (hB : BoxS w b s sa sc) :
    Calls Tryd.prog 27 #[.slice ka ks.length kc, .func (.func 28) #[] #[.pointer (some ⟨b, 0, none⟩)]] w fun e w' => e = .returned (.int .i64 (mateI ks (keyS s))) ∧ Below w.heap.size w w' := by
  have h72 := hR.1
  have HR := hid_of hR
  have HB := hid_of hB
  clear hR hB
  go_enter Tryd.func27, Tryd.ntmps27
  go_wp2_with fail
  go_loopw [8] (fun i wr => ∃ k : Nat, k ≤ ks.length ∧ i = .int .i64 k ∧ Hid (∀ j, j < k → (keyS (sth ks j)).toList ≠ (keyS s).toList) ∧ Below w.heap.size w wr) (fun i _ => ks.length - (intOf i).toNat)
  case atStart => exact ⟨0, Nat.zero_le _, rfl, hid_of (fun j hj => by omega), Below.refl _ _⟩
  case round =>
    obtain ⟨k, hk, rfl, HN, hb⟩ := hrel
    obtain ⟨w0, rfl⟩ : ∃ x, x = wr := ⟨wr, rfl⟩
    have zb := hb.size
    by_cases hlt : k < ks.length
    case neg =>
      have e : k = ks.length := by omega
      subst e
      have HE := hid_of (mateI_none HN.out)
      go_wp2_with fail
      go_ret
      exact ⟨by rw [HE.out]; rfl, hb⟩
    have hki : (k : Int) < (ks.length : Int) := by omega
    obtain ⟨-, C, hA, hr⟩ := HR.out.mono fun b hb2 => hb.block b hb2
    obtain ⟨kb, koff, rfl, hkB, hkc⟩ := hA (by omega)
    obtain ⟨xa, xc, e0, e1, e2, e3, e4, hal, hnm, -⟩ := (hr k hlt).pieces
    have q0 : w0.cell? ⟨kb, koff + k * 5, none⟩ = some (.string (sth ks k).al) := e0 ▸ hkc k hlt 0 (by omega)
    have q1 : w0.cell? ⟨kb, koff + k * 5 + 1, none⟩ = some (.string (sth ks k).name) := e1 ▸ hkc k hlt 1 (by omega)
    have q2 : w0.cell? ⟨kb, koff + k * 5 + 2, none⟩ = some (.bool (sth ks k).one) := e2 ▸ hkc k hlt 2 (by omega)
    have q3 : w0.cell? ⟨kb, koff + k * 5 + 3, none⟩ = some (.int .i64 (sth ks k).id) := e3 ▸ hkc k hlt 3 (by omega)
    have q4 : w0.cell? ⟨kb, koff + k * 5 + 4, none⟩ = some (.slice xa (sth ks k).kids.length xc) := e4 ▸ hkc k hlt 4 (by omega)
    have HF := hid_of (same1_any (sth ks k) s xa sa xc sc b w0 (HB.out.keep hb))
    have HH : Hid ((keyS (sth ks k)).toList = (keyS s).toList → mateI ks (keyS s) = (k : Nat)) := hid_of fun h => mateI_some ⟨hlt, h, HN.out⟩
    have HX : Hid ((keyS (sth ks k)).toList ≠ (keyS s).toList → ∀ j, j < k + 1 → (keyS (sth ks j)).toList ≠ (keyS s).toList) := hid_of fun h j hj => by
      by_cases e : j = k
      · subst e; exact h
      · exact HN.out j (by omega)
    clear e0 e1 e2 e3 e4 hkc hr hA hal hnm
    generalize sth ks k = x at *
    cases hq : ((keyS x).toList == (keyS s).toList)
    · rw [hq] at HF
      have HX2 := hid_of (HX.out (by simpa using hq))
      go_wp2_with fail
      refine HF.out.mono ?_
      rintro e w1 ⟨rfl, hb1⟩
      have hb01 := hb.trans (hb1.mono zb)
      go_wp2_with fail
      go_roundw
      case measure => simp [intOf]; omega
      case rel => exact ⟨k + 1, by omega, by go_num, HX2, hb01⟩
    · rw [hq] at HF
      have HE := hid_of (HH.out (by simpa using hq))
      go_wp2_with fail
      refine HF.out.mono ?_
      rintro e w1 ⟨rfl, hb1⟩
      have hb01 := hb.trans (hb1.mono zb)
      go_wp2_with fail
      go_ret
      exact ⟨by rw [HE.out]; rfl, hb01⟩

set_option maxHeartbeats 800000 in
theorem mateS_any (ks : List Se) (ka : Option Addr) (kc : Nat) (s : Se) (sa : Option Addr) (sc : Nat) (n : Int) (w : World) (hR : SeReps w (· < w.heap.size) ks ka) :
    Calls Tryd.prog 26 #[.slice ka ks.length kc, .agg #[.string s.al, .string s.name, .bool s.one, .int .i64 s.id, .slice sa s.kids.length sc], .int .i64 n] w fun e w' => e = .returned (.int .i64 (mateI ks (keyS s))) ∧ Below w.heap.size w w' := by
  have bX := below_box w (.cells #[.string s.al, .string s.name, .bool s.one, .int .i64 s.id, .slice sa s.kids.length sc] 37)
  have HI := hid_of (indexFunc_any ks ka kc s sa sc w.heap.size _ ((hR.mono fun b hb => bX.block b hb).sub fun b hb => by simp; omega) (BoxS.new w s sa sc))
  clear hR
  go_enter Tryd.func26, Tryd.ntmps26
  go_wp2_with fail
  refine HI.out.mono ?_
  rintro e w1 ⟨rfl, hb1⟩
  have hb01 := bX.trans (hb1.mono (by simp))
  go_wp2_with fail
  go_ret
  exact ⟨rfl, hb01⟩
end Go.Proofs.YtpgcjdaahgfhgaaDoor

namespace Go.Proofs.YtpgcjdaahgfhgaaDoor
set_option linter.unusedSimpArgs false
set_option linter.unusedVariables false
open Go.RowKit Go.Shelf Go.Maps

/-- How joinTrees ends. -/
def JEnd (f : Nat) (w : World) (o : Option (List Se)) (e : Ending) (w' : World) : Prop := Below w.heap.size w w' ∧ ((o = none ∧ e = .returned (.tuple #[.slice none 0 0, .bool false])) ∨ ∃ L a c, o = some L ∧ e = .returned (.tuple #[.slice a L.length c, .bool true]) ∧ OwnT f w' (fun b => w.heap.size ≤ b ∧ b < w'.heap.size) L a)
/-- What joinTrees does with two lists of fields. -/
def JnS (f : Nat) : Prop := ∀ (a b : List Se) (w : World) (ka kb : Option Addr) (kc kd : Nat), FitS f a → FitS f b → cntTo f a a.length + cntTo f b b.length ≤ 1000 → SeReps w (· < w.heap.size) a ka → SeReps w (· < w.heap.size) b kb →
  Calls Tryd.prog 17 #[.slice ka a.length kc, .slice kb b.length kd, pairsS] w fun e w' => JEnd f w (joinF f a b) e w'
/-- The block of the four functions. -/
def byS : Obj := .cells #[.func (.func 26) #[] #[], .func (.func 30) #[] #[], .func (.func 31) #[] #[], .func (.func 32) #[] #[]] 45
/-- The four functions in their block. -/
def ByAt (W : World) (b : Nat) : Prop := W.cell? ⟨b, 0, none⟩ = some (.func (.func 26) #[] #[]) ∧ W.cell? ⟨b, 1, none⟩ = some (.func (.func 30) #[] #[]) ∧ W.cell? ⟨b, 2, none⟩ = some (.func (.func 31) #[] #[]) ∧ W.cell? ⟨b, 3, none⟩ = some (.func (.func 32) #[] #[])
theorem ByAt.new (w : World) : ByAt (w.alloc byS) w.heap.size := by
  refine ⟨?_, ?_, ?_, ?_⟩ <;> simp [byS]
theorem ByAt.keep {w w' : World} {b : Nat} (h : ByAt w b) (hb : b < w.heap.size) (k : Below w.heap.size w w') : ByAt w' b := by
  have hc : ∀ o, w'.cell? ⟨b, o, none⟩ = w.cell? ⟨b, o, none⟩ := fun o => k.cell (p := ⟨b, o, none⟩) hb
  unfold ByAt
  rw [hc, hc, hc, hc]
  exact h
theorem cells_len (e : El) : e.cells.length = 5 := rfl
theorem flat_set : ∀ (es : List El) (i : Nat) (a : Option Addr) (c : Nat) (Q : Nat → Prop) (K : List Se) (hi : i < es.length), (es.flatMap El.cells).set (i * 5 + 4) (.slice a K.length c) = (es.set i ⟨(es[i]).s.sub K, a, c, Q⟩).flatMap El.cells
  | [], i, a, c, Q, K, hi => by simp at hi
  | e :: es, 0, a, c, Q, K, hi => by
    simp only [List.flatMap_cons, List.set_cons_zero, List.getElem_cons_zero]
    rfl
  | e :: es, i + 1, a, c, Q, K, hi => by
    simp only [List.flatMap_cons, List.set_cons_succ, List.getElem_cons_succ]
    rw [List.set_append_right _ _ (by rw [cells_len]; omega), cells_len, show (i + 1) * 5 + 4 - 5 = i * 5 + 4 by omega, flat_set es i a c Q K (by simpa using hi)]
/-- The kids of one field are put in the place of others. -/
theorem LI.put {f base k N g cap : Nat} {es : List El} {w : World} (h : LI f base k es (.slice (some ⟨g, 0, none⟩) es.length cap) w) (i : Nat) (hi : i < es.length) (a : Option Addr) (c : Nat) (Q : Nat → Prop) (K : List Se) (hO : OwnT f w Q K a) (hq : ∀ b, Q b → b < w.heap.size ∧ b ≠ g) (hlow : ∀ b, Q b → base ≤ b ∧ N ≤ b) (hold : ∀ y ∈ es, ∀ b, y.Q b → b < N) :
    LI f base k (es.set i ⟨(es[i]).s.sub K, a, c, Q⟩) (.slice (some ⟨g, 0, none⟩) es.length cap) (w.setCell ⟨g, i * 5 + 4, none⟩ (.slice a K.length c)) := by
  have hset : ∀ b, b ≠ g → (w.setCell ⟨g, i * 5 + 4, none⟩ (.slice a K.length c)).heap[b]? = w.heap[b]? := fun b hb => Below.heap_setCell _ _ _ _ hb
  refine ⟨by simpa using h.len, ⟨?_, fun y hy => ?_⟩, fun y hy => ?_, ?_, fun y hy => ?_⟩
  · obtain ⟨h1, -⟩ := h.row.row.stored (i * 5 + 4) (.slice a K.length c)
    rw [flat_set es i a c Q K hi] at h1
    simpa using h1
  · rcases mem_set hy with hy | rfl
    · obtain ⟨h1, h2⟩ := h.row.kid y hy
      refine ⟨h1.keep fun b hb => hset b fun e => (h2 b hb).2 (by rw [e]; rfl), fun b hb => ⟨by rw [size_set]; exact (h2 b hb).1, (h2 b hb).2⟩⟩
    · exact ⟨hO.keep fun b hb => hset b (hq b hb).2, fun b hb => ⟨by rw [size_set]; exact (hq b hb).1, fun e => (hq b hb).2 (by simpa [Value.ownBlock] using e.symm)⟩⟩
  · rcases mem_set hy with hy | rfl
    · exact h.low y hy
    · exact fun b hb => (hlow b hb).1
  · have hap := h.ap
    rw [List.pairwise_iff_getElem] at hap ⊢
    intro p q hp hq2 hpq b h1 h2
    simp only [List.length_set] at hp hq2
    rw [List.getElem_set] at h1 h2
    split at h1 <;> split at h2
    · omega
    · have := (hlow b h1).2
      have := hold _ (List.getElem_mem hq2) b h2
      omega
    · have := (hlow b h2).2
      have := hold _ (List.getElem_mem hp) b h1
      omega
    · exact hap p q hp hq2 hpq b h1 h2
  · rcases mem_set hy with hy | rfl
    · exact h.sz y hy
    · have h1 := h.sz (es[i]) (List.getElem_mem hi)
      exact h1
theorem map_set_s (es : List El) (i : Nat) (hi : i < es.length) (a : Option Addr) (c : Nat) (Q : Nat → Prop) (K : List Se) : (es.set i ⟨(es[i]).s.sub K, a, c, Q⟩).map El.s = (es.map El.s).set i ((sth (es.map El.s) i).sub K) := by
  rw [List.map_set]
  congr 2
  simp [sth, List.getD_eq_getElem?_getD, hi]
/-- The cells of a field in a list of the call's own. -/
theorem LI.cells {f base k g cap : Nat} {es : List El} {w : World} (h : LI f base k es (.slice (some ⟨g, 0, none⟩) es.length cap) w) (i : Nat) (hi : i < es.length) : Cells5 w g (i * 5) (es[i]).s (es[i]).ka (es[i]).kc ∧ g < w.heap.size ∧ base ≤ g ∧ w.frozen? ⟨g, i * 5 + 4, none⟩ = false := by
  have hc : ∀ j, j < 5 → w.cell? ⟨g, i * 5 + j, none⟩ = (es[i]).cells[j]? := fun j hj => by rw [h.row.row.cellAt (i * 5 + j) (by omega), flat5 es i j hi hj]
  have hl := h.row.row.lt g rfl
  exact ⟨⟨hc 0 (by omega), hc 1 (by omega), hc 2 (by omega), hc 3 (by omega), hc 4 (by omega)⟩, hl.2, hl.1, h.row.row.frozenAt _⟩
/-- All the blocks of what was gathered are old. -/
theorem LI.old {f base k : Nat} {es : List El} {v : Value} {w : World} (h : LI f base k es v w) : ∀ y ∈ es, ∀ b, y.Q b → b < w.heap.size := fun y hy b hq => ((h.row.kid y hy).2 b hq).1
theorem LI.reps {f base k : Nat} {es : List El} {v : Value} {w : World} (h : LI f base k es v w) (hk : k ≤ 1000000) : ∃ a c, v = .slice a es.length c ∧ SeReps w (· < w.heap.size) (es.map El.s) a := h.row.reps (fun _ _ _ _ h => h.reps) (by have := h.len; omega) h.sz _ (fun b hb => hb.2) (fun e he b hq => h.old e he b hq)
end Go.Proofs.YtpgcjdaahgfhgaaDoor
