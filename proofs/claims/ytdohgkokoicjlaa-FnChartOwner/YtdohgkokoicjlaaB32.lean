import Derived.Test.YtdohgkokoicjlaaB31
set_option linter.unusedSimpArgs false
set_option linter.unusedVariables false
namespace Go.Proofs.Ytdohgkokoicjlaa
open Go.RowKit
def fcT (p : Pt) : Nat → Nat
  | 0 => 0
  | k + 1 => fcT p k + (tth p.types k).fields.length + 1
def fcP (ps : List Pt) : Nat → Nat
  | 0 => 0
  | i + 1 => fcP ps i + fcT (pth ps i) (pth ps i).types.length
theorem fcT_le (p : Pt) {k j : Nat} (h : k ≤ j) : fcT p k ≤ fcT p j := by
  induction h with
  | refl => exact Nat.le_refl _
  | step _ ih => rw [fcT]; omega
theorem fcP_le (ps : List Pt) {k j : Nat} (h : k ≤ j) : fcP ps k ≤ fcP ps j := by
  induction h with
  | refl => exact Nat.le_refl _
  | step _ ih => rw [fcP]; omega
def BdH (out : List T) (M : Nat) : Prop := out.length ≤ M ∧ ∀ i, i < out.length → (tth out i).fields.length ≤ M
theorem putF_len (t : T) (f : F) : (putF t f).fields.length ≤ t.fields.length + 1 := by
  unfold putF
  split <;> simp
theorem putTo_len (o t : T) (n : Nat) : (putTo o t n).fields.length ≤ o.fields.length + n := by
  induction n with
  | zero => exact Nat.le_refl _
  | succ n ih =>
    rw [putTo]
    have := putF_len (putTo o t n) (fth t.fields n)
    omega
theorem putTo_name (o t : T) (n : Nat) : (putTo o t n).name = o.name ∧ (putTo o t n).key = o.key := by
  induction n with
  | zero => exact ⟨rfl, rfl⟩
  | succ n ih =>
    rw [putTo, putF]
    split
    · exact ih
    · exact ih
def baseT (ps : List Pt) (out : List T) (t : T) : List T := if 0 ≤ tyIx out t.name then out else out ++ [⟨t.name, keyM ps t.name, []⟩]
def atT (out : List T) (t : T) : Nat := if 0 ≤ tyIx out t.name then (tyIx out t.name).toNat else out.length
theorem atT_lt (ps : List Pt) (out : List T) (t : T) : atT out t < (baseT ps out t).length := by
  unfold atT baseT
  split
  · rename_i h
    have hx : tyIx out t.name = firstTo (fun i => (tth out i).name.toList == t.name.toList) out.length := rfl
    rcases firstTo_cases (fun i => (tth out i).name.toList == t.name.toList) out.length with ⟨h2, -⟩ | ⟨g, h2, hg, -, -⟩
    · rw [hx, h2] at h; omega
    · rw [hx, h2]; simpa using hg
  · simp
def midT (ps : List Pt) (out : List T) (t : T) (n : Nat) : List T := (baseT ps out t).set (atT out t) (putTo (tth (baseT ps out t) (atT out t)) t n)
theorem list_set_self (ts : List T) (k : Nat) : ts.set k (tth ts k) = ts := by
  apply List.ext_getElem?
  intro i
  by_cases e : k = i
  · subst e
    by_cases h : k < ts.length
    · rw [List.getElem?_set_self h]
      simp [tth, List.getD_eq_getElem?_getD, h]
    · rw [List.getElem?_eq_none (by simp; omega), List.getElem?_eq_none (by omega)]
  · rw [List.getElem?_set_ne e]
theorem midT_zero (ps : List Pt) (out : List T) (t : T) : midT ps out t 0 = baseT ps out t := by
  unfold midT
  rw [putTo]
  exact list_set_self _ _
theorem midT_len (ps : List Pt) (out : List T) (t : T) (n : Nat) : (midT ps out t n).length = (baseT ps out t).length := by simp [midT]
theorem midT_at (ps : List Pt) (out : List T) (t : T) (n : Nat) : tth (midT ps out t n) (atT out t) = putTo (tth (baseT ps out t) (atT out t)) t n := by
  unfold midT
  exact tth_set_eq _ _ _ (atT_lt ps out t)
theorem midT_succ (ps : List Pt) (out : List T) (t : T) (n : Nat) : midT ps out t (n + 1) = (midT ps out t n).set (atT out t) (putF (tth (midT ps out t n) (atT out t)) (fth t.fields n)) := by
  rw [midT_at]
  unfold midT
  rw [List.set_set]
  rfl
theorem midT_step (ps : List Pt) (out : List T) (t : T) : midT ps out t t.fields.length = stepT ps out t := by
  unfold midT stepT baseT atT
  by_cases h : 0 ≤ tyIx out t.name
  · simp only [if_pos h]
  · simp only [if_neg h]
    rw [tth_snoc_eq]
    simp
theorem BdH.base {ps : List Pt} {out : List T} {M : Nat} (h : BdH out M) (t : T) : BdH (baseT ps out t) (M + 1) := by
  unfold baseT
  split
  · exact ⟨Nat.le_succ_of_le h.1, fun i hi => Nat.le_succ_of_le (h.2 i hi)⟩
  · refine ⟨by simpa using h.1, fun i hi => ?_⟩
    have hi' : i < out.length + 1 := by simpa using hi
    by_cases e : i < out.length
    · rw [tth_snoc_lt _ _ _ e]; exact Nat.le_succ_of_le (h.2 i e)
    · have : i = out.length := by omega
      subst this
      rw [tth_snoc_eq]
      exact Nat.zero_le _
theorem BdH.mid {ps : List Pt} {out : List T} {M : Nat} (h : BdH out M) (t : T) (n : Nat) : BdH (midT ps out t n) (M + n + 1) := by
  have hb := h.base (ps := ps) t
  refine ⟨by rw [midT_len]; have := hb.1; omega, fun i hi => ?_⟩
  rw [midT_len] at hi
  by_cases e : i = atT out t
  · subst e
    rw [midT_at]
    have := putTo_len (tth (baseT ps out t) (atT out t)) t n
    have := hb.2 _ hi
    omega
  · unfold midT
    rw [tth_set_ne _ _ _ _ e]
    have := hb.2 _ hi
    omega
theorem BdH.types {ps : List Pt} {p : Pt} {out : List T} {M : Nat} (h : BdH out M) (k : Nat) : BdH (typesTo ps p out k) (M + fcT p k) := by
  induction k with
  | zero => exact h
  | succ k ih =>
    rw [typesTo, fcT, ← midT_step]
    have := ih.mid (ps := ps) (tth p.types k) (tth p.types k).fields.length
    rw [show M + (fcT p k + (tth p.types k).fields.length + 1) = M + fcT p k + (tth p.types k).fields.length + 1 by omega]
    exact this
theorem BdH.parts (ps : List Pt) (i : Nat) : BdH (partsTo ps i) (fcP ps i) := by
  induction i with
  | zero => exact ⟨Nat.le_refl _, fun i hi => absurd hi (Nat.not_lt_zero _)⟩
  | succ i ih => rw [partsTo, fcP]; exact ih.types _
end Go.Proofs.Ytdohgkokoicjlaa
namespace Go.Proofs.Ytdohgkokoicjlaa
open Go.RowKit Go.Maps
def cellsH (h : Bool) (k : Nat) (L : List Value) : List Value := if h = true then L.set (k * 8 + 5) (.bool true) else L
def cellsN (o : Option Value) (k : Nat) (L : List Value) : List Value := match o with | none => L | some v => L.set (k * 8 + 7) v
theorem cellsH_len (h : Bool) (k : Nat) (L : List Value) : (cellsH h k L).length = L.length := by unfold cellsH; split <;> simp
def cellK (h : Bool) (o : Option Value) (c : Nat → Value) (j : Nat) : Value := if j = 5 ∧ h = true then .bool true else if j = 7 then o.getD (c 7) else c j
theorem cells_at (h : Bool) (o : Option Value) (k n : Nat) (C : Nat → Nat → Value) (i j : Nat) (hi : i < n) (hj : j < 8) :
    (cellsN o k (cellsH h k (flat8 C n)))[i * 8 + j]? = some (if i = k then cellK h o (C k) j else C i j) := by
  have hf := flat8_at C n i j hi hj
  have hH : (cellsH h k (flat8 C n))[i * 8 + j]? = some (if i = k ∧ j = 5 ∧ h = true then .bool true else C i j) := by
    unfold cellsH
    by_cases hh : h = true
    · rw [if_pos hh]
      by_cases e : i = k ∧ j = 5
      · obtain ⟨rfl, rfl⟩ := e
        rw [List.getElem?_set_self (by rw [flat8_len]; omega), if_pos ⟨rfl, rfl, hh⟩]
      · rw [List.getElem?_set_ne (by omega), hf, if_neg (fun x => e ⟨x.1, x.2.1⟩)]
    · rw [if_neg hh, hf, if_neg (fun x => hh x.2.2)]
  cases o with
  | none =>
    show (cellsH h k (flat8 C n))[i * 8 + j]? = _
    rw [hH]
    by_cases e : i = k
    · subst e
      simp only [true_and, if_true, cellK, Option.getD_none]
      by_cases e2 : j = 5 ∧ h = true
      · rw [if_pos e2, if_pos e2]
      · rw [if_neg e2, if_neg e2]
        by_cases e3 : j = 7
        · rw [if_pos e3, e3]
        · rw [if_neg e3]
    · rw [if_neg (fun x => e x.1), if_neg e]
  | some v =>
    show ((cellsH h k (flat8 C n)).set (k * 8 + 7) v)[i * 8 + j]? = _
    by_cases e : i = k ∧ j = 7
    · obtain ⟨rfl, rfl⟩ := e
      rw [List.getElem?_set_self (by rw [cellsH_len, flat8_len]; omega)]
      simp [cellK]
    · rw [List.getElem?_set_ne (by omega), hH]
      by_cases e1 : i = k
      · subst e1
        have e3 : j ≠ 7 := fun x => e ⟨rfl, x⟩
        simp only [true_and, if_true, cellK]
        by_cases e2 : j = 5 ∧ h = true
        · rw [if_pos e2, if_pos e2]
        · rw [if_neg e2, if_neg e2, if_neg e3]
      · rw [if_neg (fun x => e1 x.1), if_neg e1]
theorem fth_set_ne (fs : List F) (g : F) (k i : Nat) (h : i ≠ k) : fth (fs.set k g) i = fth fs i := by
  simp [fth, List.getD_eq_getElem?_getD, List.getElem?_set_ne (Ne.symm h)]
theorem fth_set_eq (fs : List F) (g : F) (k : Nat) (h : k < fs.length) : fth (fs.set k g) k = g := by
  simp [fth, List.getD_eq_getElem?_getD, List.getElem?_set_self h]
def oldF (t : T) (f : F) (k : Nat) : F := { (fth t.fields k) with hidden := (fth t.fields k).hidden || f.hidden, needs := if f.needs.length = 0 then (fth t.fields k).needs else f.needs }
theorem putEnd2 {t : T} {f : F} {v : Value} {na : Option Addr} {nc : Nat} {w wS : World} {P Q : Nat → Prop} {Cf : Nat → Nat → Value} {base gB capB N k : Nat} {o : Option Value} (hT : TRep w P t v) (hF : FRep w Q f (fval f na nc)) (hP : ∀ b, P b → b < w.heap.size) (hl : t.fields.length ≤ 1000000000) (hl2 : f.needs.length ≤ 1000000000) (hx : fieldIx t f.name = (k : Int)) (hk : k < t.fields.length)
    (hr : ∀ i, i < t.fields.length → FRep w P (fth t.fields i) (.agg #[Cf i 0, Cf i 1, Cf i 2, Cf i 3, Cf i 4, Cf i 5, Cf i 6, Cf i 7])) (hb : w.heap.size ≤ base) (hN : N < base) (hN2 : w.heap.size ≤ N)
    (hO : wS.ownsRow base 37 8 (.slice (some ⟨gB, 0, none⟩) t.fields.length capB) t.fields.length (cellsN o k (cellsH f.hidden k (flat8 Cf t.fields.length))))
    (ho : (f.needs.length = 0 ∧ o = none) ∨ (f.needs.length ≠ 0 ∧ ∃ gD capD, o = some (.slice (some ⟨gD, 0, none⟩) f.needs.length capD) ∧ f.needs.length ≤ capD ∧ wS.ownsRow base 9 1 (.slice (some ⟨gD, 0, none⟩) f.needs.length capD) f.needs.length (f.needs.map Value.string)))
    (hcf : t.fields.length ≤ capB) (bS : Below w.heap.size w wS) (v0 v1 v2 : Value) (W : World) (hW : W = (((wS.setCell ⟨N, 0, none⟩ v0).setCell ⟨N, 1, none⟩ v1).setCell ⟨N, 2, none⟩ v2)) :
    ∃ fa' fc', (.returned (.agg #[.string t.name, .string t.key, .slice (some ⟨gB, 0, none⟩) t.fields.length capB]) : Ending) = .returned (.agg #[.string t.name, .string t.key, .slice fa' (putF t f).fields.length fc']) ∧ TRep W (fun b => P b ∨ Q b ∨ (w.heap.size ≤ b ∧ b < W.heap.size)) (putF t f) (.agg #[.string t.name, .string t.key, .slice fa' (putF t f).fields.length fc']) ∧ Below w.heap.size w W := by
  have hp : putF t f = { t with fields := t.fields.set k (oldF t f k) } := by
    rw [putF, if_pos (by rw [hx]; omega), hx]
    rfl
  have hln : (putF t f).fields.length = t.fields.length := by rw [hp]; simp
  have hbl : ∀ b, b ≠ N → W.heap[b]? = wS.heap[b]? := fun b hb => by rw [hW]; exact sets3_block hb _ _ _ _
  have hsz : W.heap.size = wS.heap.size := by rw [hW]; exact sets3_size _ _ _ _
  have hbW : Below w.heap.size w W := by rw [hW]; exact below_sets3 bS hN2 _ _ _
  have oF := owns_at (w' := W) hO fun j hj => by cases hj; exact hbl gB (by have := (hO.lt gB rfl).1; omega)
  obtain ⟨fa0, fc0, -, -, -, ht1, ht2⟩ := hT
  obtain ⟨na', nc', -, hs, -, hf1, hf2, -⟩ := hF
  have hR : FsRep W (fun b => P b ∨ Q b ∨ (w.heap.size ≤ b ∧ b < W.heap.size)) (t.fields.set k (oldF t f k)) (some ⟨gB, 0, none⟩) := by
    refine ⟨by simp; omega, fun i j => if i = k then cellK f.hidden o (Cf k) j else Cf i j, fun _ => ⟨gB, 0, rfl, Or.inr (Or.inr ⟨by have := (oF.lt gB rfl).1; omega, (oF.lt gB rfl).2⟩), fun i hi j hj => ?_⟩, fun i hi => ?_⟩
    · have hi' : i < t.fields.length := by simpa using hi
      rw [Nat.zero_add, oF.cellAt (i * 8 + j) (by omega)]
      exact cells_at f.hidden o k t.fields.length Cf i j hi' hj
    · have hi' : i < t.fields.length := by simpa using hi
      by_cases e : i = k
      · subst e
        rw [fth_set_eq _ _ _ hk]
        simp only [if_true]
        obtain ⟨na0, nc0, e0, hs0, hc0, hz1, hz2, hz3⟩ := hr i hk
        simp only [Value.agg.injEq, Array.mk.injEq, List.cons.injEq, and_true] at e0
        obtain ⟨c0, c1, c2, c3, c4, c5, c6, c7⟩ := e0
        have h5 : cellK f.hidden o (Cf i) 5 = .bool ((fth t.fields i).hidden || f.hidden) := by
          cases hh : f.hidden <;> simp [cellK, c5]
        rcases ho with ⟨hn, rfl⟩ | ⟨hn, gD, capD, rfl, hcd, hoD⟩
        · refine ⟨na0, nc0, ?_, ?_, ?_, hz1, hz2, ?_⟩
          · rw [h5]
            simp [cellK, c0, c1, c2, c3, c4, c6, c7, oldF, hn]
          · simp only [oldF, if_pos hn]
            exact (hs0.mono fun b hb => hbW.block b (hP b hb)).sub fun b hb => Or.inl hb
          · simp only [oldF, if_pos hn]; exact hc0
          · simp only [oldF, if_pos hn]; exact hz3
        · have oD := owns_at (w' := W) hoD fun j hj => by cases hj; exact hbl gD (by have := (hoD.lt gD rfl).1; omega)
          refine ⟨some ⟨gD, 0, none⟩, capD, ?_, ?_, ?_, hz1, hz2, ?_⟩
          · rw [h5]
            simp [cellK, c0, c1, c2, c3, c4, c6, c7, oldF, hn]
          · simp only [oldF, if_neg hn]
            exact (rowStrs (n := 0) oD hs.2.1 (by unfold maxLen; omega)).sub fun b hb => Or.inr (Or.inr ⟨by omega, hb.2⟩)
          · simp only [oldF, if_neg hn]; exact hcd
          · simp only [oldF, if_neg hn]; omega
      · rw [fth_set_ne _ _ _ _ e]
        simp only [if_neg e]
        exact ((hr i hi').mono fun b hb => hbW.block b (hP b hb)).sub fun b hb => Or.inl hb
  refine ⟨some ⟨gB, 0, none⟩, capB, by rw [hln], ⟨some ⟨gB, 0, none⟩, capB, ?_, ?_, by rw [hln]; exact hcf, ?_, ?_⟩, hbW⟩
  · rw [hp]
  · rw [hp]
    exact hR
  · rw [hp]; exact ht1
  · rw [hp]; exact ht2
end Go.Proofs.Ytdohgkokoicjlaa
namespace Go.Proofs.Ytdohgkokoicjlaa
open Go.RowKit
theorem szFs_set (fs : List F) (k : Nat) (g : F) (hk : k < fs.length) : szFs (fs.set k g) + szF (fth fs k) = szFs fs + szF g := by
  unfold szFs szFsTo
  rw [List.length_set]
  have := sum_change (fun i => szF (fth (fs.set k g) i)) (fun i => szF (fth fs i)) k (fun i hi => by show szF _ = szF _; rw [fth_set_ne _ _ _ _ hi]) fs.length hk
  simp only [fth_set_eq _ _ _ hk] at this
  omega
theorem szFs_snoc (fs : List F) (g : F) : szFs (fs ++ [g]) = szFs fs + 1 + szF g := by
  unfold szFs
  rw [List.length_append, List.length_singleton, szFsTo_succ, fth_snoc_eq]
  have : szFsTo (fs ++ [g]) fs.length = szFsTo fs fs.length := sum_same _ _ _ fun i hi => by rw [fth_snoc_lt _ _ _ hi]
  omega
theorem szTs_set (ts : List T) (k : Nat) (g : T) (hk : k < ts.length) : szTs (ts.set k g) + szT (tth ts k) = szTs ts + szT g := by
  unfold szTs szTsTo
  rw [List.length_set]
  have := sum_change (fun i => szT (tth (ts.set k g) i)) (fun i => szT (tth ts i)) k (fun i hi => by show szT _ = szT _; rw [tth_set_ne _ _ _ _ hi]) ts.length hk
  simp only [tth_set_eq _ _ _ hk] at this
  omega
theorem szTs_snoc (ts : List T) (g : T) : szTs (ts ++ [g]) = szTs ts + 1 + szT g := by
  unfold szTs
  rw [List.length_append, List.length_singleton, szTsTo_succ, tth_snoc_eq]
  have : szTsTo (ts ++ [g]) ts.length = szTsTo ts ts.length := sum_same _ _ _ fun i hi => by rw [tth_snoc_lt _ _ _ hi]
  omega
theorem putF_sz (t : T) (f : F) : szT (putF t f) ≤ szT t + 1 + szF f := by
  unfold putF
  split
  · rename_i h
    have hx : fieldIx t f.name = firstTo (fun i => (fth t.fields i).name.toList == f.name.toList) t.fields.length := rfl
    rcases firstTo_cases (fun i => (fth t.fields i).name.toList == f.name.toList) t.fields.length with ⟨h2, -⟩ | ⟨g, h2, hg, -, -⟩
    · rw [hx, h2] at h; omega
    · rw [hx, h2]
      show t.name.size + t.key.size + szFs (t.fields.set (g : Int).toNat _) ≤ _
      rw [Int.toNat_natCast]
      have h3 := szFs_set t.fields g { (fth t.fields g) with hidden := (fth t.fields g).hidden || f.hidden, needs := if f.needs.length = 0 then (fth t.fields g).needs else f.needs } hg
      have h4 : szF { (fth t.fields g) with hidden := (fth t.fields g).hidden || f.hidden, needs := if f.needs.length = 0 then (fth t.fields g).needs else f.needs } ≤ szF (fth t.fields g) + szF f := by
        unfold szF
        simp only
        split <;> omega
      unfold szT
      omega
  · show t.name.size + t.key.size + szFs (t.fields ++ [_]) ≤ _
    rw [szFs_snoc]
    unfold szT szF
    simp only
    omega
theorem putTo_sz (o t : T) (n : Nat) : szT (putTo o t n) ≤ szT o + n + szFsTo t.fields n := by
  induction n with
  | zero => simp [putTo]
  | succ n ih =>
    rw [putTo, szFsTo_succ]
    have := putF_sz (putTo o t n) (fth t.fields n)
    omega
theorem stepT_sz (ps : List Pt) (out : List T) (t : T) (K : Nat) (hK : (keyM ps t.name).size ≤ K) : szTs (stepT ps out t) ≤ szTs out + szT t + K + 1 := by
  rw [← midT_step]
  unfold midT
  have h1 := szTs_set (baseT ps out t) (atT out t) (putTo (tth (baseT ps out t) (atT out t)) t t.fields.length) (atT_lt ps out t)
  have h2 := putTo_sz (tth (baseT ps out t) (atT out t)) t t.fields.length
  have h3 : szTs (baseT ps out t) ≤ szTs out + t.name.size + K + 1 := by
    unfold baseT
    split
    · omega
    · rw [szTs_snoc]
      have : szT ⟨t.name, keyM ps t.name, []⟩ = t.name.size + (keyM ps t.name).size := by simp [szT, szFs, szFsTo]
      omega
  have h4 : szT t = t.name.size + t.key.size + (t.fields.length + szFsTo t.fields t.fields.length) := rfl
  omega
theorem typesTo_sz (ps : List Pt) (p : Pt) (out : List T) (K : Nat) (hK : ∀ nm, (keyM ps nm).size ≤ K) (k : Nat) : szTs (typesTo ps p out k) ≤ szTs out + szTsTo p.types k + k * (K + 1) := by
  induction k with
  | zero => simp [typesTo]
  | succ k ih =>
    rw [typesTo, szTsTo_succ, Nat.succ_mul]
    have := stepT_sz ps (typesTo ps p out k) (tth p.types k) K (hK _)
    omega
theorem partsTo_sz (ps : List Pt) (K M L : Nat) (hK : ∀ nm, (keyM ps nm).size ≤ K) (i : Nat) (hM : ∀ j, j < i → szP (pth ps j) ≤ M) (hL : ∀ j, j < i → (pth ps j).types.length ≤ L) : szTs (partsTo ps i) ≤ i * (M + L * (K + 1)) := by
  induction i with
  | zero => simp [partsTo, szTs, szTsTo]
  | succ i ih =>
    rw [partsTo, Nat.succ_mul]
    have h1 := ih (fun j hj => hM j (by omega)) (fun j hj => hL j (by omega))
    have h2 := typesTo_sz ps (pth ps i) (partsTo ps i) K hK (pth ps i).types.length
    have h3 := hM i (by omega)
    have h4 : szP (pth ps i) = (pth ps i).name.size + ((pth ps i).types.length + szTsTo (pth ps i).types (pth ps i).types.length) := rfl
    have h5 := Nat.mul_le_mul_right (K + 1) (hL i (by omega))
    omega
theorem allM_sz (ps : List Pt) (K M L : Nat) (hK : ∀ nm, (keyM ps nm).size ≤ K) (hM : ∀ j, j < ps.length → szP (pth ps j) ≤ M) (hL : ∀ j, j < ps.length → (pth ps j).types.length ≤ L) : szP (allM ps) ≤ 1 + ps.length * (M + L * (K + 1)) := by
  have h1 := partsTo_sz ps K M L hK ps.length hM hL
  show (1 : Nat) + szTs (partsTo ps ps.length) ≤ _
  omega
theorem szTsTo_at (ts : List T) (k : Nat) : ∀ n, k < n → szT (tth ts k) ≤ szTsTo ts n
  | 0, h => absurd h (Nat.not_lt_zero _)
  | n + 1, h => by
    rw [szTsTo_succ]
    by_cases e : k = n
    · subst e; omega
    · have := szTsTo_at ts k n (by omega)
      omega
theorem typeOr_szT (p : Pt) (nm : ByteArray) : szT (typeOr p nm) ≤ szP p := by
  have hz : ∀ k, szT (tth p.types k) ≤ szP p := fun k => by
    have h4 : szP p = p.name.size + (p.types.length + szTsTo p.types p.types.length) := rfl
    by_cases h : k < p.types.length
    · have := szTsTo_at p.types k p.types.length h
      omega
    · have : tth p.types k = T.zero := by simp [tth, List.getD_eq_getElem?_getD, List.getElem?_eq_none (Nat.le_of_not_lt h)]
      rw [this]
      exact Nat.zero_le _
  unfold typeOr
  split
  · exact hz _
  · exact Nat.zero_le _
theorem keyM_sz (ps : List Pt) (M : Nat) (hM : ∀ j, j < ps.length → szP (pth ps j) ≤ M) (nm : ByteArray) : (keyM ps nm).size ≤ M := by
  unfold keyM
  split
  · rename_i hx
    have hk : keyIx ps nm = firstTo (fun i => !(typeOr (pth ps i) nm).key.toList.isEmpty) ps.length := rfl
    rcases firstTo_cases (fun i => !(typeOr (pth ps i) nm).key.toList.isEmpty) ps.length with ⟨h2, -⟩ | ⟨g, h2, hg, -, -⟩
    · rw [hk, h2] at hx; omega
    · rw [hk, h2, Int.toNat_natCast]
      have h1 := typeOr_szT (pth ps g) nm
      have h3 := hM g hg
      have h4 : szT (typeOr (pth ps g) nm) = (typeOr (pth ps g) nm).name.size + (typeOr (pth ps g) nm).key.size + szFs (typeOr (pth ps g) nm).fields := rfl
      omega
  · exact Nat.zero_le _
end Go.Proofs.Ytdohgkokoicjlaa
namespace Go.Proofs.Ytdohgkokoicjlaa
open Go.RowKit Go.Maps
attribute [local go_sem] Oper.semAt_some
set_option maxRecDepth 20000 in
set_option maxHeartbeats 3200000 in
theorem l6Put_old (t : T) (f : F) (fa na : Option Addr) (fc nc : Nat) (w : World) (P Q : Nat → Prop) (hT : TRep w P t (.agg #[.string t.name, .string t.key, .slice fa t.fields.length fc])) (hF : FRep w Q f (fval f na nc)) (hP : ∀ b, P b → b < w.heap.size) (hQ : ∀ b, Q b → b < w.heap.size) (hl : t.fields.length ≤ 1000000000) (hl2 : f.needs.length ≤ 1000000000) (k : Nat) (hx : fieldIx t f.name = (k : Int)) (hk : k < t.fields.length) :
    Calls Try.prog 52 #[.agg #[.string t.name, .string t.key, .slice fa t.fields.length fc], fval f na nc] w fun e w' => ∃ fa' fc', e = .returned (.agg #[.string t.name, .string t.key, .slice fa' (putF t f).fields.length fc']) ∧ TRep w' (fun b => P b ∨ Q b ∨ (w.heap.size ≤ b ∧ b < w'.heap.size)) (putF t f) (.agg #[.string t.name, .string t.key, .slice fa' (putF t f).fields.length fc']) ∧ Below w.heap.size w w' := by
  obtain ⟨iF, zF, hiF, hF0, hF1, hF2, hFz⟩ := infoF_parts
  obtain ⟨i9, hi9, hy0, hy1, hy2⟩ := info_parts info9
  obtain ⟨X, hXe⟩ : ∃ X, X = ((w.alloc (.cells #[.string t.name, .string t.key, .slice fa t.fields.length fc] 48)).alloc (.cells #[.string f.name, .string f.of, .bool f.list, .bool f.must, .bool f.far, .bool f.hidden, .bool f.shared, .slice na f.needs.length nc] 37)).alloc (.cells #[.string ⟨#[]⟩, .string ⟨#[]⟩, .slice none 0 0] 48) := ⟨_, rfl⟩
  have zX : X.heap.size = w.heap.size + 3 := by rw [hXe]; simp
  have bw : Below w.heap.size w X := by rw [hXe]; exact (((Below.refl _ _).alloc (Nat.le_refl _) _).alloc (by simp) _).alloc (by simp <;> omega) _
  have n0 : X.heap[w.heap.size]? = some (.cells #[.string t.name, .string t.key, .slice fa t.fields.length fc] 48 (0, 0)) := by
    rw [hXe, (below_box _ _).block _ (by simp <;> omega), (below_box _ _).block _ (by simp)]
    exact block_new _ _ rfl
  have n1 : X.heap[w.heap.size + 1]? = some (.cells #[.string f.name, .string f.of, .bool f.list, .bool f.must, .bool f.far, .bool f.hidden, .bool f.shared, .slice na f.needs.length nc] 37 (0, 0)) := by
    rw [hXe, (below_box _ _).block _ (by simp)]
    exact block_new _ _ (by simp)
  have n2 : X.heap[w.heap.size + 1 + 1]? = some (.cells #[.string ⟨#[]⟩, .string ⟨#[]⟩, .slice none 0 0] 48 (0, 0)) := by
    rw [hXe]
    exact block_new _ _ (by simp)
  have HX : Hid (∀ W, Below X.heap.size X W → (W.cell? ⟨w.heap.size, 0, none⟩ = some (.string t.name) ∧ W.cell? ⟨w.heap.size, 1, none⟩ = some (.string t.key) ∧ W.cell? ⟨w.heap.size, 2, none⟩ = some (.slice fa t.fields.length fc)) ∧ (W.cell? ⟨w.heap.size + 1, 0, none⟩ = some (.string f.name) ∧ W.cell? ⟨w.heap.size + 1, 1, none⟩ = some (.string f.of) ∧ W.cell? ⟨w.heap.size + 1, 2, none⟩ = some (.bool f.list) ∧ W.cell? ⟨w.heap.size + 1, 3, none⟩ = some (.bool f.must) ∧ W.cell? ⟨w.heap.size + 1, 4, none⟩ = some (.bool f.far) ∧ W.cell? ⟨w.heap.size + 1, 5, none⟩ = some (.bool f.hidden) ∧ W.cell? ⟨w.heap.size + 1, 6, none⟩ = some (.bool f.shared) ∧ W.cell? ⟨w.heap.size + 1, 7, none⟩ = some (.slice na f.needs.length nc)) ∧ W.heap[w.heap.size]? = some (.cells #[.string t.name, .string t.key, .slice fa t.fields.length fc] 48 (0, 0)) ∧ W.heap[w.heap.size + 1 + 1]? = some (.cells #[.string ⟨#[]⟩, .string ⟨#[]⟩, .slice none 0 0] 48 (0, 0)) ∧ Below w.heap.size w W) := hid_of fun W hW => by
    have h0 := (hW.block _ (by omega)).trans n0
    have h1 := (hW.block _ (by omega)).trans n1
    exact ⟨⟨(box_at h0 0 (by simp)).1, (box_at h0 1 (by simp)).1, (box_at h0 2 (by simp)).1⟩, ⟨(box_at h1 0 (by simp)).1, (box_at h1 1 (by simp)).1, (box_at h1 2 (by simp)).1, (box_at h1 3 (by simp)).1, (box_at h1 4 (by simp)).1, (box_at h1 5 (by simp)).1, (box_at h1 6 (by simp)).1, (box_at h1 7 (by simp)).1⟩, h0, (hW.block _ (by omega)).trans n2, bw.trans (hW.mono (by omega))⟩
  have hT' := hT
  obtain ⟨fa', fc', e, hFs, -⟩ := hT
  simp only [Value.agg.injEq, Array.mk.injEq, List.cons.injEq, Value.slice.injEq, true_and, and_true] at e
  obtain ⟨rfl, rfl⟩ := e
  obtain ⟨h64, Cf, hAr, hCr⟩ := hFs
  have HLF : Hid (∀ W, Below X.heap.size X W → LiesAt W fa t.fields.length (flat8 Cf t.fields.length)) := hid_of fun W hW => flat8_lies (hAr.mono fun b hb => (HX.out W hW).2.2.2.2.block b (hP b hb))
  have HOF : Hid (∀ u ∈ flat8 Cf t.fields.length, u.oneCell' = true) := hid_of (flat8_one hCr)
  have HNS : Hid (Strs w Q f.needs na) := hid_of (by
    obtain ⟨na', nc', e, h1, -⟩ := hF
    unfold fval at e
    simp only [Value.agg.injEq, Array.mk.injEq, List.cons.injEq, Value.slice.injEq, true_and, and_true] at e
    obtain ⟨rfl, rfl⟩ := e
    exact h1)
  have HLN : Hid (∀ W, Below X.heap.size X W → LiesAt W na f.needs.length (f.needs.map Value.string)) := hid_of fun W hW => strs_lies (HNS.out.mono fun b hb => (HX.out W hW).2.2.2.2.block b (hQ b hb))
  have HFI := hid_of (fun W (hW : Below X.heap.size X W) => l2Field_any t W w.heap.size _ f.name ((hT'.mono fun b hb => (HX.out W hW).2.2.2.2.block b (hP b hb)).sub fun b hb => hP b hb) (HX.out W hW).2.2.2.2.size)
  have HFX : Hid (fieldIx t f.name = firstTo (fun i => (fth t.fields i).name.toList == f.name.toList) t.fields.length) := hid_of rfl
  rw [← HFX.out, hx] at HFI
  have HCR := hid_of (And.intro hAr hCr)
  have HT' := hid_of hT'
  have HF' := hid_of hF
  obtain ⟨⟨x0, x1, x2⟩, ⟨y0, -⟩, -⟩ := HX.out X (Below.refl _ _)
  rw [hXe] at x0 x1 x2 y0
  unfold fval
  go_enter Try.func52, Try.ntmps52
  clear hAr hCr hT' hF n0 n1 n2 HFX
  go_wp2_with fail
  clear x0 x1 x2 y0
  rw [← hXe]
  clear hXe
  refine (HFI.out X (Below.refl _ _)).mono ?_
  rintro e w1 ⟨rfl, hb1⟩
  have zw1 := hb1.size
  have nA := block_new (w := w1) (N := w1.heap.size) #[] 37 rfl
  have bA := hb1.trans ((below_box w1 (.cells #[] 37)).mono hb1.size)
  have c2 := (HX.out _ bA).1.2.2
  go_wp2_with (
    at_builtin
    refine wpList_append_all rfl _ _ 46 rfl X.heap.size 37 iF zF 8 64 Try.underlying46 hiF hF0 hF1 hF2 hFz (by decide) w1.heap.size 0 0 [] rfl ⟨rfl, Or.inr ⟨_, 0, _, rfl, hb1.size, nA, Nat.le_refl _, by unfold maxLen; omega, rfl, rfl⟩⟩ fa t.fields.length fc (flat8 Cf t.fields.length) rfl (flat8_len _ _) (HLF.out _ bA) HOF.out (by unfold maxLen; omega) (by omega) bA.size ?_
    intro gB capB wB oB hgrB hatB
    refine Hid.out ?_)
  refine hid_of ?_
  have bB := bA.grown hgrB bA.size (fun k hk => by cases hk; exact hb1.size)
  simp only [Nat.zero_add, List.nil_append] at oB ⊢
  have qB := (oB.lt gB rfl).1
  clear c2 nA bA hgrB hatB
  have hcf : t.fields.length ≤ capB := by obtain ⟨-, h | ⟨_, _, _, h, -, -, h2, -⟩⟩ := oB <;> simp_all
  cases hh : f.hidden
  · have y5 := (HX.out _ bB).2.1.2.2.2.2.2.1
    rw [hh] at y5
    have bH := bB
    have oH := oB
    rcases Nat.eq_zero_or_pos f.needs.length with hn | hn
    · have y7 := (HX.out _ bH).2.1.2.2.2.2.2.2.2
      rw [hn] at y7
      have bX := bH
      have oX : (wB).ownsRow X.heap.size 37 8 (.slice (some ⟨gB, 0, none⟩) t.fields.length capB) t.fields.length (cellsN none k (cellsH f.hidden k (flat8 Cf t.fields.length))) := by rw [hh]; exact oH
      clear oB oH
      have c2 := (HX.out _ bX).1.2.2
      have z2 := (box_at (HX.out _ bX).2.2.1 2 (by simp)).2
      have hn0 : ((wB).setCell ⟨w.heap.size, 2, none⟩ (.slice (some ⟨gB, 0, none⟩) t.fields.length capB)).heap[w.heap.size]? = some (.cells #[.string t.name, .string t.key, (.slice (some ⟨gB, 0, none⟩) t.fields.length capB)] 48 (0, 0)) := set_box (HX.out _ bX).2.2.1 2 _
      have hkS : ∀ b, b ≠ w.heap.size → ((wB).setCell ⟨w.heap.size, 2, none⟩ (.slice (some ⟨gB, 0, none⟩) t.fields.length capB)).heap[b]? = (wB).heap[b]? := fun b hb => Below.heap_setCell _ _ _ _ hb
      have hn2 := (hkS (w.heap.size + 1 + 1) (by omega)).trans (HX.out _ bX).2.2.2.1
      have bS : Below w.heap.size w ((wB).setCell ⟨w.heap.size, 2, none⟩ (.slice (some ⟨gB, 0, none⟩) t.fields.length capB)) := (HX.out _ bX).2.2.2.2.setCell (Nat.le_refl _) _
      have oS := owns_at oX fun j hj => by cases hj; exact hkS gB (by omega)
      have ho := True.intro
      have HO := hid_of (And.intro oS ho)
      have HBS := hid_of bS
      obtain ⟨a0, -⟩ := box_at hn0 0 (by simp)
      obtain ⟨a1, -⟩ := box_at hn0 1 (by simp)
      obtain ⟨a2, -⟩ := box_at hn0 2 (by simp)
      obtain ⟨r0, s0⟩ := box_at hn2 0 (by simp)
      obtain ⟨r1, s1⟩ := box_at hn2 1 (by simp)
      obtain ⟨r2, s2⟩ := box_at hn2 2 (by simp)
      clear oX oS ho hkS bS bX
      go_wp2_with fail
      obtain ⟨d0, d1, d2⟩ := sets3_cells hn2 rfl (.string t.name) (.string t.key) (.slice (some ⟨gB, 0, none⟩) t.fields.length capB)
      refine bodyPost_ret (typeResult _ _ (w.heap.size + 1 + 1) _ _ _ rfl d0 d1 d2) rfl ?_
      exact putEnd2 HT'.out HF'.out hP hl hl2 hx hk HCR.out.2 (by omega) (by omega) (by omega) HO.out.1 (Or.inl ⟨hn, rfl⟩) hcf HBS.out _ _ _ _ rfl
    · have y7 := (HX.out _ bH).2.1.2.2.2.2.2.2.2
      have bC := bH.trans ((below_box (wB) (.cells #[] 9)).mono bH.size)
      have y7' := (HX.out _ bC).2.1.2.2.2.2.2.2.2
      have nC := block_new (w := wB) (N := wB.heap.size) #[] 9 (by simp)
      have zC := bB.size
      have lB := (oH.lt gB rfl).2
      go_wp2_with (
        at_builtin
        refine wpList_append_all rfl _ _ 35 rfl X.heap.size 9 i9 (.string ByteArray.empty) 1 16 Try.underlying35 hi9 hy0 hy1 hy2 rfl (by decide) wB.heap.size 0 0 [] rfl ⟨rfl, Or.inr ⟨_, 0, _, rfl, zC, nC, Nat.le_refl _, by unfold maxLen; omega, rfl, rfl⟩⟩ na f.needs.length nc (f.needs.map Value.string) rfl (by simp) (HLN.out _ bC) (strs_one _) (by unfold maxLen; omega) (by omega) bC.size ?_
        intro gD capD wD2 oD hgrD hatD
        refine Hid.out ?_)
      refine hid_of ?_
      have hkD : ∀ b, b < (wB).heap.size → wD2.heap[b]? = (wB).heap[b]? := fun b hb => (hgrD.block b (by simp at hb ⊢; omega) (fun e => by simp at hb e; omega)).trans ((below_box (wB) (.cells #[] 9)).block b hb)
      have bD := bC.grown hgrD bC.size (fun k hk => by cases hk; exact zC)
      have hDB : gD ≠ gB := by simp at lB hatD; omega
      simp only [Nat.zero_add, List.nil_append] at oD ⊢
      have oE : wD2.ownsRow X.heap.size 37 8 (.slice (some ⟨gB, 0, none⟩) t.fields.length capB) t.fields.length (cellsN none k (cellsH f.hidden k (flat8 Cf t.fields.length))) := by rw [hh]; exact owns_at oH fun j hj => by cases hj; exact hkD gB lB
      have z7 := oE.frozenAt (k * 8 + 7)
      have x7 := (oE.cellAt (k * 8 + 7) (by omega)).trans (cells_at f.hidden none k t.fields.length Cf k 7 hk (by omega))
      have oX : (wD2.setCell ⟨gB, k * 8 + 7, none⟩ (.slice (some ⟨gD, 0, none⟩) f.needs.length capD)).ownsRow X.heap.size 37 8 (.slice (some ⟨gB, 0, none⟩) t.fields.length capB) t.fields.length (cellsN (some (.slice (some ⟨gD, 0, none⟩) f.needs.length capD)) k (cellsH f.hidden k (flat8 Cf t.fields.length))) := (oE.stored (k * 8 + 7) (.slice (some ⟨gD, 0, none⟩) f.needs.length capD)).1
      have bX := bD.setCell (show X.heap.size ≤ (⟨gB, k * 8 + 7, none⟩ : Addr).block from qB) (.slice (some ⟨gD, 0, none⟩) f.needs.length capD)
      have oD2 := owns_at (w' := wD2.setCell ⟨gB, k * 8 + 7, none⟩ (.slice (some ⟨gD, 0, none⟩) f.needs.length capD)) oD fun j hj => by cases hj; exact Below.heap_setCell _ _ _ _ hDB
      have hcd : f.needs.length ≤ capD := by obtain ⟨-, h | ⟨_, _, _, h, -, -, h2, -⟩⟩ := oD <;> simp_all
      have qD := (oD.lt gD rfl).1
      clear nC y7 y7' hgrD hatD hkD oB oH oE bC bD bH oD
      have c2 := (HX.out _ bX).1.2.2
      have z2 := (box_at (HX.out _ bX).2.2.1 2 (by simp)).2
      have hn0 : ((wD2.setCell ⟨gB, k * 8 + 7, none⟩ (.slice (some ⟨gD, 0, none⟩) f.needs.length capD)).setCell ⟨w.heap.size, 2, none⟩ (.slice (some ⟨gB, 0, none⟩) t.fields.length capB)).heap[w.heap.size]? = some (.cells #[.string t.name, .string t.key, (.slice (some ⟨gB, 0, none⟩) t.fields.length capB)] 48 (0, 0)) := set_box (HX.out _ bX).2.2.1 2 _
      have hkS : ∀ b, b ≠ w.heap.size → ((wD2.setCell ⟨gB, k * 8 + 7, none⟩ (.slice (some ⟨gD, 0, none⟩) f.needs.length capD)).setCell ⟨w.heap.size, 2, none⟩ (.slice (some ⟨gB, 0, none⟩) t.fields.length capB)).heap[b]? = (wD2.setCell ⟨gB, k * 8 + 7, none⟩ (.slice (some ⟨gD, 0, none⟩) f.needs.length capD)).heap[b]? := fun b hb => Below.heap_setCell _ _ _ _ hb
      have hn2 := (hkS (w.heap.size + 1 + 1) (by omega)).trans (HX.out _ bX).2.2.2.1
      have bS : Below w.heap.size w ((wD2.setCell ⟨gB, k * 8 + 7, none⟩ (.slice (some ⟨gD, 0, none⟩) f.needs.length capD)).setCell ⟨w.heap.size, 2, none⟩ (.slice (some ⟨gB, 0, none⟩) t.fields.length capB)) := (HX.out _ bX).2.2.2.2.setCell (Nat.le_refl _) _
      have oS := owns_at oX fun j hj => by cases hj; exact hkS gB (by omega)
      have ho := And.intro hcd (owns_at oD2 fun j hj => by cases hj; exact hkS gD (by omega))
      clear oD2
      have HO := hid_of (And.intro oS ho)
      have HBS := hid_of bS
      obtain ⟨a0, -⟩ := box_at hn0 0 (by simp)
      obtain ⟨a1, -⟩ := box_at hn0 1 (by simp)
      obtain ⟨a2, -⟩ := box_at hn0 2 (by simp)
      obtain ⟨r0, s0⟩ := box_at hn2 0 (by simp)
      obtain ⟨r1, s1⟩ := box_at hn2 1 (by simp)
      obtain ⟨r2, s2⟩ := box_at hn2 2 (by simp)
      clear oX oS ho hkS bS bX
      go_wp2_with fail
      obtain ⟨d0, d1, d2⟩ := sets3_cells hn2 rfl (.string t.name) (.string t.key) (.slice (some ⟨gB, 0, none⟩) t.fields.length capB)
      refine bodyPost_ret (typeResult _ _ (w.heap.size + 1 + 1) _ _ _ rfl d0 d1 d2) rfl ?_
      exact putEnd2 HT'.out HF'.out hP hl hl2 hx hk HCR.out.2 (by omega) (by omega) (by omega) HO.out.1 (Or.inr ⟨by omega, gD, capD, rfl, HO.out.2.1, HO.out.2.2⟩) hcf HBS.out _ _ _ _ rfl
  · have y5 := (HX.out _ bB).2.1.2.2.2.2.2.1
    rw [hh] at y5
    have z5 := oB.frozenAt (k * 8 + 5)
    have x5 := oB.cellAt (k * 8 + 5) (by omega)
    rw [flat8_at _ _ _ _ hk (by omega)] at x5
    have bH := bB.setCell (show X.heap.size ≤ (⟨gB, k * 8 + 5, none⟩ : Addr).block from qB) (.bool true)
    have oH := (oB.stored (k * 8 + 5) (.bool true)).1
    rcases Nat.eq_zero_or_pos f.needs.length with hn | hn
    · have y7 := (HX.out _ bH).2.1.2.2.2.2.2.2.2
      rw [hn] at y7
      have bX := bH
      have oX : (wB.setCell ⟨gB, k * 8 + 5, none⟩ (.bool true)).ownsRow X.heap.size 37 8 (.slice (some ⟨gB, 0, none⟩) t.fields.length capB) t.fields.length (cellsN none k (cellsH f.hidden k (flat8 Cf t.fields.length))) := by rw [hh]; exact oH
      clear oB oH
      have c2 := (HX.out _ bX).1.2.2
      have z2 := (box_at (HX.out _ bX).2.2.1 2 (by simp)).2
      have hn0 : ((wB.setCell ⟨gB, k * 8 + 5, none⟩ (.bool true)).setCell ⟨w.heap.size, 2, none⟩ (.slice (some ⟨gB, 0, none⟩) t.fields.length capB)).heap[w.heap.size]? = some (.cells #[.string t.name, .string t.key, (.slice (some ⟨gB, 0, none⟩) t.fields.length capB)] 48 (0, 0)) := set_box (HX.out _ bX).2.2.1 2 _
      have hkS : ∀ b, b ≠ w.heap.size → ((wB.setCell ⟨gB, k * 8 + 5, none⟩ (.bool true)).setCell ⟨w.heap.size, 2, none⟩ (.slice (some ⟨gB, 0, none⟩) t.fields.length capB)).heap[b]? = (wB.setCell ⟨gB, k * 8 + 5, none⟩ (.bool true)).heap[b]? := fun b hb => Below.heap_setCell _ _ _ _ hb
      have hn2 := (hkS (w.heap.size + 1 + 1) (by omega)).trans (HX.out _ bX).2.2.2.1
      have bS : Below w.heap.size w ((wB.setCell ⟨gB, k * 8 + 5, none⟩ (.bool true)).setCell ⟨w.heap.size, 2, none⟩ (.slice (some ⟨gB, 0, none⟩) t.fields.length capB)) := (HX.out _ bX).2.2.2.2.setCell (Nat.le_refl _) _
      have oS := owns_at oX fun j hj => by cases hj; exact hkS gB (by omega)
      have ho := True.intro
      have HO := hid_of (And.intro oS ho)
      have HBS := hid_of bS
      obtain ⟨a0, -⟩ := box_at hn0 0 (by simp)
      obtain ⟨a1, -⟩ := box_at hn0 1 (by simp)
      obtain ⟨a2, -⟩ := box_at hn0 2 (by simp)
      obtain ⟨r0, s0⟩ := box_at hn2 0 (by simp)
      obtain ⟨r1, s1⟩ := box_at hn2 1 (by simp)
      obtain ⟨r2, s2⟩ := box_at hn2 2 (by simp)
      clear oX oS ho hkS bS bX
      go_wp2_with fail
      obtain ⟨d0, d1, d2⟩ := sets3_cells hn2 rfl (.string t.name) (.string t.key) (.slice (some ⟨gB, 0, none⟩) t.fields.length capB)
      refine bodyPost_ret (typeResult _ _ (w.heap.size + 1 + 1) _ _ _ rfl d0 d1 d2) rfl ?_
      exact putEnd2 HT'.out HF'.out hP hl hl2 hx hk HCR.out.2 (by omega) (by omega) (by omega) HO.out.1 (Or.inl ⟨hn, rfl⟩) hcf HBS.out _ _ _ _ rfl
    · have y7 := (HX.out _ bH).2.1.2.2.2.2.2.2.2
      have bC := bH.trans ((below_box (wB.setCell ⟨gB, k * 8 + 5, none⟩ (.bool true)) (.cells #[] 9)).mono bH.size)
      have y7' := (HX.out _ bC).2.1.2.2.2.2.2.2.2
      have nC := block_new (w := wB.setCell ⟨gB, k * 8 + 5, none⟩ (.bool true)) (N := wB.heap.size) #[] 9 (by simp)
      have zC := bB.size
      have lB := (oH.lt gB rfl).2
      go_wp2_with (
        at_builtin
        refine wpList_append_all rfl _ _ 35 rfl X.heap.size 9 i9 (.string ByteArray.empty) 1 16 Try.underlying35 hi9 hy0 hy1 hy2 rfl (by decide) wB.heap.size 0 0 [] rfl ⟨rfl, Or.inr ⟨_, 0, _, rfl, zC, nC, Nat.le_refl _, by unfold maxLen; omega, rfl, rfl⟩⟩ na f.needs.length nc (f.needs.map Value.string) rfl (by simp) (HLN.out _ bC) (strs_one _) (by unfold maxLen; omega) (by omega) bC.size ?_
        intro gD capD wD2 oD hgrD hatD
        refine Hid.out ?_)
      refine hid_of ?_
      have hkD : ∀ b, b < (wB.setCell ⟨gB, k * 8 + 5, none⟩ (.bool true)).heap.size → wD2.heap[b]? = (wB.setCell ⟨gB, k * 8 + 5, none⟩ (.bool true)).heap[b]? := fun b hb => (hgrD.block b (by simp at hb ⊢; omega) (fun e => by simp at hb e; omega)).trans ((below_box (wB.setCell ⟨gB, k * 8 + 5, none⟩ (.bool true)) (.cells #[] 9)).block b hb)
      have bD := bC.grown hgrD bC.size (fun k hk => by cases hk; exact zC)
      have hDB : gD ≠ gB := by simp at lB hatD; omega
      simp only [Nat.zero_add, List.nil_append] at oD ⊢
      have oE : wD2.ownsRow X.heap.size 37 8 (.slice (some ⟨gB, 0, none⟩) t.fields.length capB) t.fields.length (cellsN none k (cellsH f.hidden k (flat8 Cf t.fields.length))) := by rw [hh]; exact owns_at oH fun j hj => by cases hj; exact hkD gB lB
      have z7 := oE.frozenAt (k * 8 + 7)
      have x7 := (oE.cellAt (k * 8 + 7) (by omega)).trans (cells_at f.hidden none k t.fields.length Cf k 7 hk (by omega))
      have oX : (wD2.setCell ⟨gB, k * 8 + 7, none⟩ (.slice (some ⟨gD, 0, none⟩) f.needs.length capD)).ownsRow X.heap.size 37 8 (.slice (some ⟨gB, 0, none⟩) t.fields.length capB) t.fields.length (cellsN (some (.slice (some ⟨gD, 0, none⟩) f.needs.length capD)) k (cellsH f.hidden k (flat8 Cf t.fields.length))) := (oE.stored (k * 8 + 7) (.slice (some ⟨gD, 0, none⟩) f.needs.length capD)).1
      have bX := bD.setCell (show X.heap.size ≤ (⟨gB, k * 8 + 7, none⟩ : Addr).block from qB) (.slice (some ⟨gD, 0, none⟩) f.needs.length capD)
      have oD2 := owns_at (w' := wD2.setCell ⟨gB, k * 8 + 7, none⟩ (.slice (some ⟨gD, 0, none⟩) f.needs.length capD)) oD fun j hj => by cases hj; exact Below.heap_setCell _ _ _ _ hDB
      have hcd : f.needs.length ≤ capD := by obtain ⟨-, h | ⟨_, _, _, h, -, -, h2, -⟩⟩ := oD <;> simp_all
      have qD := (oD.lt gD rfl).1
      clear nC y7 y7' hgrD hatD hkD oB oH oE bC bD bH oD
      have c2 := (HX.out _ bX).1.2.2
      have z2 := (box_at (HX.out _ bX).2.2.1 2 (by simp)).2
      have hn0 : ((wD2.setCell ⟨gB, k * 8 + 7, none⟩ (.slice (some ⟨gD, 0, none⟩) f.needs.length capD)).setCell ⟨w.heap.size, 2, none⟩ (.slice (some ⟨gB, 0, none⟩) t.fields.length capB)).heap[w.heap.size]? = some (.cells #[.string t.name, .string t.key, (.slice (some ⟨gB, 0, none⟩) t.fields.length capB)] 48 (0, 0)) := set_box (HX.out _ bX).2.2.1 2 _
      have hkS : ∀ b, b ≠ w.heap.size → ((wD2.setCell ⟨gB, k * 8 + 7, none⟩ (.slice (some ⟨gD, 0, none⟩) f.needs.length capD)).setCell ⟨w.heap.size, 2, none⟩ (.slice (some ⟨gB, 0, none⟩) t.fields.length capB)).heap[b]? = (wD2.setCell ⟨gB, k * 8 + 7, none⟩ (.slice (some ⟨gD, 0, none⟩) f.needs.length capD)).heap[b]? := fun b hb => Below.heap_setCell _ _ _ _ hb
      have hn2 := (hkS (w.heap.size + 1 + 1) (by omega)).trans (HX.out _ bX).2.2.2.1
      have bS : Below w.heap.size w ((wD2.setCell ⟨gB, k * 8 + 7, none⟩ (.slice (some ⟨gD, 0, none⟩) f.needs.length capD)).setCell ⟨w.heap.size, 2, none⟩ (.slice (some ⟨gB, 0, none⟩) t.fields.length capB)) := (HX.out _ bX).2.2.2.2.setCell (Nat.le_refl _) _
      have oS := owns_at oX fun j hj => by cases hj; exact hkS gB (by omega)
      have ho := And.intro hcd (owns_at oD2 fun j hj => by cases hj; exact hkS gD (by omega))
      clear oD2
      have HO := hid_of (And.intro oS ho)
      have HBS := hid_of bS
      obtain ⟨a0, -⟩ := box_at hn0 0 (by simp)
      obtain ⟨a1, -⟩ := box_at hn0 1 (by simp)
      obtain ⟨a2, -⟩ := box_at hn0 2 (by simp)
      obtain ⟨r0, s0⟩ := box_at hn2 0 (by simp)
      obtain ⟨r1, s1⟩ := box_at hn2 1 (by simp)
      obtain ⟨r2, s2⟩ := box_at hn2 2 (by simp)
      clear oX oS ho hkS bS bX
      go_wp2_with fail
      obtain ⟨d0, d1, d2⟩ := sets3_cells hn2 rfl (.string t.name) (.string t.key) (.slice (some ⟨gB, 0, none⟩) t.fields.length capB)
      refine bodyPost_ret (typeResult _ _ (w.heap.size + 1 + 1) _ _ _ rfl d0 d1 d2) rfl ?_
      exact putEnd2 HT'.out HF'.out hP hl hl2 hx hk HCR.out.2 (by omega) (by omega) (by omega) HO.out.1 (Or.inr ⟨by omega, gD, capD, rfl, HO.out.2.1, HO.out.2.2⟩) hcf HBS.out _ _ _ _ rfl
end Go.Proofs.Ytdohgkokoicjlaa
