import Derived.Test.YtokmgbidmnanpaaGreatDoorB25
import Derived.Test.YtokmgbidmnanpaaGreatDoorB8
import Derived.Test.YtokmgbidmnanpaaGreatDoorB4
import Derived.Test.YtokmgbidmnanpaaGreatDoorB3
import Derived.Deep.RegionHeld3
import Derived.Deep.DeepCutAuto
import Derived.Test.YtokmgbidmnanpaaGreatDoorB11
import Derived.Test.YtokmgbidmnanpaaGreatDoorB1
set_option linter.unusedSimpArgs false
set_option linter.unusedVariables false
namespace Go.Proofs.YtokmgbidmnanpaaGreatDoor
open Go.RowKit Go.Maps
def Off (P : Nat → Prop) (B : Nat) (w : World) (v : Value) (b : Nat) : Prop := P b ∨ (B ≤ b ∧ b < w.heap.size ∧ v.ownBlock ≠ some b)
def TyRow (w : World) (B : Nat) (P : Nat → Prop) (ts : List T) (v : Value) : Prop := ∃ C : Nat → Nat → Value, w.ownsRow B 52 3 v ts.length (flat3 C ts.length) ∧ ∀ i, i < ts.length → TRep w (Off P B w v) (tth ts i) (.agg #[C i 0, C i 1, C i 2])
theorem TyRow.nil (w : World) (B : Nat) (P : Nat → Prop) : TyRow w B P [] (.slice none 0 0) := ⟨fun _ _ => undef, World.ownsRow_nil _ _ _ _, fun i hi => absurd hi (Nat.not_lt_zero _)⟩
theorem TyRow.keep {w w' : World} {B : Nat} {P : Nat → Prop} {ts : List T} {v : Value} (h : TyRow w B P ts v) (hP : ∀ b, P b → b < w.heap.size) (hb : Below w.heap.size w w') : TyRow w' B P ts v := by
  obtain ⟨C, h1, h2⟩ := h
  refine ⟨C, owns_keep' h1 hb, fun i hi => ((h2 i hi).mono fun b hq => hb.block b ?_).sub fun b hq => ?_⟩
  · exact hq.elim (hP b) fun x => x.2.1
  · exact hq.elim Or.inl fun x => Or.inr ⟨x.1, Nat.lt_of_lt_of_le x.2.1 hb.size, x.2.2⟩
theorem TyRow.put {w : World} {B g n cap k : Nat} {P : Nat → Prop} {ts : List T} (h : TyRow w B P ts (.slice (some ⟨g, 0, none⟩) n cap)) (hn : n = ts.length) (hk : k < ts.length) (hP : ∀ b, P b → b < B) (t : T) (d0 d1 d2 : Value) (ht : TRep w (Off P B w (.slice (some ⟨g, 0, none⟩) n cap)) t (.agg #[d0, d1, d2])) :
    TyRow (((w.setCell ⟨g, k * 3, none⟩ d0).setCell ⟨g, k * 3 + 1, none⟩ d1).setCell ⟨g, k * 3 + 2, none⟩ d2) B P (ts.set k t) (.slice (some ⟨g, 0, none⟩) n cap) := by
  subst hn
  obtain ⟨C, h1, h2⟩ := h
  have hg := (h1.lt g rfl).1
  have hset := flat3_set C ts.length k hk (fun j => [d0, d1, d2].getD j undef)
  have o1 := (h1.stored (k * 3) d0).1
  have o2 := (o1.stored (k * 3 + 1) d1).1
  have o3 := (o2.stored (k * 3 + 2) d2).1
  have hbl : ∀ b, b ≠ g → (((w.setCell ⟨g, k * 3, none⟩ d0).setCell ⟨g, k * 3 + 1, none⟩ d1).setCell ⟨g, k * 3 + 2, none⟩ d2).heap[b]? = w.heap[b]? := fun b hb => ((Below.heap_setCell _ _ _ _ hb).trans (Below.heap_setCell _ _ _ _ hb)).trans (Below.heap_setCell _ _ _ _ hb)
  have hsz : (((w.setCell ⟨g, k * 3, none⟩ d0).setCell ⟨g, k * 3 + 1, none⟩ d1).setCell ⟨g, k * 3 + 2, none⟩ d2).heap.size = w.heap.size := by simp
  have hoff : ∀ b, Off P B w (.slice (some ⟨g, 0, none⟩) ts.length cap) b → b ≠ g := fun b hq e => hq.elim (fun x => by have := hP b x; omega) fun x => x.2.2 (by rw [e]; rfl)
  have hmv : ∀ b, Off P B w (.slice (some ⟨g, 0, none⟩) ts.length cap) b → Off P B (((w.setCell ⟨g, k * 3, none⟩ d0).setCell ⟨g, k * 3 + 1, none⟩ d1).setCell ⟨g, k * 3 + 2, none⟩ d2) (.slice (some ⟨g, 0, none⟩) ts.length cap) b := fun b hq => by
    unfold Off
    rw [hsz]
    exact hq
  refine ⟨fun a j => if a = k then [d0, d1, d2].getD j undef else C a j, ?_, fun i hi => ?_⟩
  · rw [List.length_set, ← hset]
    exact o3
  · rw [List.length_set] at hi
    by_cases e : i = k
    · subst e
      rw [tth_set_eq _ _ _ hk]
      simp only [if_true]
      exact (ht.mono fun b hq => hbl b (hoff b hq)).sub hmv
    · rw [tth_set_ne _ _ _ _ e]
      simp only [if_neg e]
      exact ((h2 i hi).mono fun b hq => hbl b (hoff b hq)).sub hmv
theorem TyRow.push {w w' : World} {B : Nat} {P : Nat → Prop} {ts : List T} {v v' : Value} {C : Nat → Nat → Value} (h2 : ∀ i, i < ts.length → TRep w (Off P B w v) (tth ts i) (.agg #[C i 0, C i 1, C i 2])) (hP : ∀ b, P b → b < w.heap.size) (hPB : ∀ b, P b → b < B) (t : T) (d0 d1 d2 : Value)
    (ht : TRep w (Off P B w v) t (.agg #[d0, d1, d2])) (ho : w'.ownsRow B 52 3 v' (ts.length + 1) (flat3 C ts.length ++ [d0, d1, d2])) (hk : ∀ b, b < w.heap.size → v.ownBlock ≠ some b → w'.heap[b]? = w.heap[b]?) (hs : w.heap.size ≤ w'.heap.size) (hv : ∀ b, v'.ownBlock = some b → v.ownBlock = some b ∨ w.heap.size ≤ b) (hvB : ∀ b, v.ownBlock = some b → B ≤ b) :
    TyRow w' B P (ts ++ [t]) v' := by
  have hin : ∀ b, Off P B w v b → w'.heap[b]? = w.heap[b]? := fun b hq => hq.elim (fun x => hk b (hP b x) (fun e => by have := hvB b e; have := hPB b x; omega)) fun x => hk b x.2.1 x.2.2
  have hmv : ∀ b, Off P B w v b → Off P B w' v' b := fun b hq => hq.elim Or.inl fun x => Or.inr ⟨x.1, by omega, fun e => (hv b e).elim x.2.2 (by omega)⟩
  refine ⟨fun a j => if a < ts.length then C a j else [d0, d1, d2].getD j undef, ?_, fun i hi => ?_⟩
  · rw [List.length_append, List.length_singleton, ← flat3_push]
    exact ho
  · have hi' : i < ts.length + 1 := by simpa using hi
    by_cases e : i < ts.length
    · rw [tth_snoc_lt _ _ _ e]
      simp only [if_pos e]
      exact ((h2 i e).mono hin).sub hmv
    · have : i = ts.length := by omega
      subst this
      rw [tth_snoc_eq]
      simp only [if_neg e]
      exact (ht.mono hin).sub hmv
end Go.Proofs.YtokmgbidmnanpaaGreatDoor
namespace Go.Proofs.YtokmgbidmnanpaaGreatDoor
open Go.RowKit Go.Maps
def cellsH (h : Bool) (k : Nat) (L : List Value) : List Value := if h = true then L.set (k * 8 + 5) (.bool true) else L
def cellsN (o : Option Value) (k : Nat) (L : List Value) : List Value := match o with | none => L | some v => L.set (k * 8 + 7) v
theorem cellsH_len (h : Bool) (k : Nat) (L : List Value) : (cellsH h k L).length = L.length := by unfold cellsH; split <;> simp
def cellK (h : Bool) (o : Option Value) (c : Nat → Value) (j : Nat) : Value := if j = 5 ∧ h = true then .bool true else if j = 7 then o.getD (c 7) else c j
theorem cells_at (h : Bool) (o : Option Value) (k n : Nat) (C : Nat → Nat → Value) (i j : Nat) (hi : i < n) (hj : j < 8) :
    (cellsN o k (cellsH h k (flat8 C n)))[i * 8 + j]? = some (if i = k then cellK h o (C k) j else C i j) := by
  have hf := flat8_at C n i j hi hj
  have hH : (cellsH h k (flat8 C n))[i * 8 + j]? = some (if i = k ∧ j = 5 ∧ h = true then .bool true else C i j) := by
    unfold cellsH
    by_cases hh : h = true
    · rw [if_pos hh]
      by_cases e : i = k ∧ j = 5
      · obtain ⟨rfl, rfl⟩ := e
        rw [List.getElem?_set_self (by rw [flat8_len]; omega), if_pos ⟨rfl, rfl, hh⟩]
      · rw [List.getElem?_set_ne (by omega), hf, if_neg (fun x => e ⟨x.1, x.2.1⟩)]
    · rw [if_neg hh, hf, if_neg (fun x => hh x.2.2)]
  cases o with
  | none =>
    show (cellsH h k (flat8 C n))[i * 8 + j]? = _
    rw [hH]
    by_cases e : i = k
    · subst e
      simp only [true_and, if_true, cellK, Option.getD_none]
      by_cases e2 : j = 5 ∧ h = true
      · rw [if_pos e2, if_pos e2]
      · rw [if_neg e2, if_neg e2]
        by_cases e3 : j = 7
        · rw [if_pos e3, e3]
        · rw [if_neg e3]
    · rw [if_neg (fun x => e x.1), if_neg e]
  | some v =>
    show ((cellsH h k (flat8 C n)).set (k * 8 + 7) v)[i * 8 + j]? = _
    by_cases e : i = k ∧ j = 7
    · obtain ⟨rfl, rfl⟩ := e
      rw [List.getElem?_set_self (by rw [cellsH_len, flat8_len]; omega)]
      simp [cellK]
    · rw [List.getElem?_set_ne (by omega), hH]
      by_cases e1 : i = k
      · subst e1
        have e3 : j ≠ 7 := fun x => e ⟨rfl, x⟩
        simp only [true_and, if_true, cellK]
        by_cases e2 : j = 5 ∧ h = true
        · rw [if_pos e2, if_pos e2]
        · rw [if_neg e2, if_neg e2, if_neg e3]
      · rw [if_neg (fun x => e1 x.1), if_neg e1]
theorem fth_set_ne (fs : List F) (g : F) (k i : Nat) (h : i ≠ k) : fth (fs.set k g) i = fth fs i := by
  simp [fth, List.getD_eq_getElem?_getD, List.getElem?_set_ne (Ne.symm h)]
theorem fth_set_eq (fs : List F) (g : F) (k : Nat) (h : k < fs.length) : fth (fs.set k g) k = g := by
  simp [fth, List.getD_eq_getElem?_getD, List.getElem?_set_self h]
def oldF (t : T) (f : F) (k : Nat) : F := { (fth t.fields k) with hidden := (fth t.fields k).hidden || f.hidden, needs := if f.needs.length = 0 then (fth t.fields k).needs else f.needs }
theorem putEnd2 {t : T} {f : F} {v : Value} {na : Option Addr} {nc : Nat} {w wS : World} {P Q : Nat → Prop} {Cf : Nat → Nat → Value} {base gB capB N k : Nat} {o : Option Value} (hT : TRep w P t v) (hF : FRep w Q f (fval f na nc)) (hP : ∀ b, P b → b < w.heap.size) (hl : t.fields.length ≤ 1000000000) (hl2 : f.needs.length ≤ 1000000000) (hx : fieldIx t f.name = (k : Int)) (hk : k < t.fields.length)
    (hr : ∀ i, i < t.fields.length → FRep w P (fth t.fields i) (.agg #[Cf i 0, Cf i 1, Cf i 2, Cf i 3, Cf i 4, Cf i 5, Cf i 6, Cf i 7])) (hb : w.heap.size ≤ base) (hN : N < base) (hN2 : w.heap.size ≤ N)
    (hO : wS.ownsRow base 54 8 (.slice (some ⟨gB, 0, none⟩) t.fields.length capB) t.fields.length (cellsN o k (cellsH f.hidden k (flat8 Cf t.fields.length))))
    (ho : (f.needs.length = 0 ∧ o = none) ∨ (f.needs.length ≠ 0 ∧ ∃ gD capD, o = some (.slice (some ⟨gD, 0, none⟩) f.needs.length capD) ∧ f.needs.length ≤ capD ∧ wS.ownsRow base 9 1 (.slice (some ⟨gD, 0, none⟩) f.needs.length capD) f.needs.length (f.needs.map Value.string)))
    (hcf : t.fields.length ≤ capB) (bS : Below w.heap.size w wS) (v0 v1 v2 : Value) (W : World) (hW : W = (((wS.setCell ⟨N, 0, none⟩ v0).setCell ⟨N, 1, none⟩ v1).setCell ⟨N, 2, none⟩ v2)) :
    ∃ fa' fc', (.returned (.agg #[.string t.name, .string t.key, .slice (some ⟨gB, 0, none⟩) t.fields.length capB]) : Ending) = .returned (.agg #[.string t.name, .string t.key, .slice fa' (putF t f).fields.length fc']) ∧ TRep W (fun b => P b ∨ Q b ∨ (w.heap.size ≤ b ∧ b < W.heap.size)) (putF t f) (.agg #[.string t.name, .string t.key, .slice fa' (putF t f).fields.length fc']) ∧ Below w.heap.size w W := by
  have hp : putF t f = { t with fields := t.fields.set k (oldF t f k) } := by
    rw [putF, if_pos (by rw [hx]; omega), hx]
    rfl
  have hln : (putF t f).fields.length = t.fields.length := by rw [hp]; simp
  have hbl : ∀ b, b ≠ N → W.heap[b]? = wS.heap[b]? := fun b hb => by rw [hW]; exact sets3_block hb _ _ _ _
  have hsz : W.heap.size = wS.heap.size := by rw [hW]; exact sets3_size _ _ _ _
  have hbW : Below w.heap.size w W := by rw [hW]; exact below_sets3 bS hN2 _ _ _
  have oF := owns_at (w' := W) hO fun j hj => by cases hj; exact hbl gB (by have := (hO.lt gB rfl).1; omega)
  obtain ⟨fa0, fc0, -, -, -, ht1, ht2⟩ := hT
  obtain ⟨na', nc', -, hs, -, hf1, hf2, -⟩ := hF
  have hR : FsRep W (fun b => P b ∨ Q b ∨ (w.heap.size ≤ b ∧ b < W.heap.size)) (t.fields.set k (oldF t f k)) (some ⟨gB, 0, none⟩) := by
    refine ⟨by simp; omega, fun i j => if i = k then cellK f.hidden o (Cf k) j else Cf i j, fun _ => ⟨gB, 0, rfl, Or.inr (Or.inr ⟨by have := (oF.lt gB rfl).1; omega, (oF.lt gB rfl).2⟩), fun i hi j hj => ?_⟩, fun i hi => ?_⟩
    · have hi' : i < t.fields.length := by simpa using hi
      rw [Nat.zero_add, oF.cellAt (i * 8 + j) (by omega)]
      exact cells_at f.hidden o k t.fields.length Cf i j hi' hj
    · have hi' : i < t.fields.length := by simpa using hi
      by_cases e : i = k
      · subst e
        rw [fth_set_eq _ _ _ hk]
        simp only [if_true]
        obtain ⟨na0, nc0, e0, hs0, hc0, hz1, hz2, hz3⟩ := hr i hk
        simp only [Value.agg.injEq, Array.mk.injEq, List.cons.injEq, and_true] at e0
        obtain ⟨c0, c1, c2, c3, c4, c5, c6, c7⟩ := e0
        have h5 : cellK f.hidden o (Cf i) 5 = .bool ((fth t.fields i).hidden || f.hidden) := by
          cases hh : f.hidden <;> simp [cellK, c5]
        rcases ho with ⟨hn, rfl⟩ | ⟨hn, gD, capD, rfl, hcd, hoD⟩
        · refine ⟨na0, nc0, ?_, ?_, ?_, hz1, hz2, ?_⟩
          · rw [h5]
            simp [cellK, c0, c1, c2, c3, c4, c6, c7, oldF, hn]
          · simp only [oldF, if_pos hn]
            exact (hs0.mono fun b hb => hbW.block b (hP b hb)).sub fun b hb => Or.inl hb
          · simp only [oldF, if_pos hn]; exact hc0
          · simp only [oldF, if_pos hn]; exact hz3
        · have oD := owns_at (w' := W) hoD fun j hj => by cases hj; exact hbl gD (by have := (hoD.lt gD rfl).1; omega)
          refine ⟨some ⟨gD, 0, none⟩, capD, ?_, ?_, ?_, hz1, hz2, ?_⟩
          · rw [h5]
            simp [cellK, c0, c1, c2, c3, c4, c6, c7, oldF, hn]
          · simp only [oldF, if_neg hn]
            exact (rowStrs (n := 0) oD hs.2.1 (by unfold maxLen; omega)).sub fun b hb => Or.inr (Or.inr ⟨by omega, hb.2⟩)
          · simp only [oldF, if_neg hn]; exact hcd
          · simp only [oldF, if_neg hn]; omega
      · rw [fth_set_ne _ _ _ _ e]
        simp only [if_neg e]
        exact ((hr i hi').mono fun b hb => hbW.block b (hP b hb)).sub fun b hb => Or.inl hb
  refine ⟨some ⟨gB, 0, none⟩, capB, by rw [hln], ⟨some ⟨gB, 0, none⟩, capB, ?_, ?_, by rw [hln]; exact hcf, ?_, ?_⟩, hbW⟩
  · rw [hp]
  · rw [hp]
    exact hR
  · rw [hp]; exact ht1
  · rw [hp]; exact ht2
end Go.Proofs.YtokmgbidmnanpaaGreatDoor
namespace Go.Proofs.YtokmgbidmnanpaaGreatDoor
open Go.RowKit
end Go.Proofs.YtokmgbidmnanpaaGreatDoor
namespace Go.Proofs.YtokmgbidmnanpaaGreatDoor
open Go.RowKit
theorem append_toList (a b : ByteArray) : (a ++ b).data.toList = a.data.toList ++ b.data.toList := by simp
theorem Kept.trans {b : Nat} {a c d : World} (h : Kept b a c) (k : Kept b c d) : Kept b a d := Lib.OthersKept.trans h k
end Go.Proofs.YtokmgbidmnanpaaGreatDoor
namespace Go.Proofs.YtokmgbidmnanpaaGreatDoor
open Go.RowKit
def fieldsL (fs : List F) : Nat → List UInt8
  | 0 => []
  | n + 1 => fieldsL fs n ++ (lineB (fth fs n)).data.toList
def keyL (t : T) : List UInt8 := if t.key.toList.isEmpty = true then [] else [32, 107, 101, 121, 32] ++ t.key.data.toList
def typeHeadL (t : T) : List UInt8 := [116, 121, 112, 101, 32] ++ t.name.data.toList ++ keyL t ++ [10]
def typesL (ts : List T) : Nat → List UInt8
  | 0 => []
  | n + 1 => typesL ts n ++ (typeHeadL (tth ts n) ++ fieldsL (tth ts n).fields (tth ts n).fields.length)
def partHeadL (p : Pt) : List UInt8 := [112, 97, 114, 116, 32] ++ p.name.data.toList ++ [10]
def partL (p : Pt) : List UInt8 := partHeadL p ++ typesL p.types p.types.length
theorem fieldsL_le (fs : List F) (k : Nat) : ∀ n, k ≤ n → (fieldsL fs k).length ≤ (fieldsL fs n).length
  | 0, h => by rw [show k = 0 by omega]; exact Nat.le_refl _
  | n + 1, h => by
    by_cases e : k = n + 1
    · rw [e]; exact Nat.le_refl _
    · have := fieldsL_le fs k n (by omega); rw [fieldsL, List.length_append]; omega
theorem typesL_le (ts : List T) (k : Nat) : ∀ n, k ≤ n → (typesL ts k).length ≤ (typesL ts n).length
  | 0, h => by rw [show k = 0 by omega]; exact Nat.le_refl _
  | n + 1, h => by
    by_cases e : k = n + 1
    · rw [e]; exact Nat.le_refl _
    · have := typesL_le ts k n (by omega); rw [typesL, List.length_append]; omega
theorem le_sum (g : Nat → Nat) (k : Nat) : ∀ n, k < n → g k ≤ ((List.range n).map g).sum
  | 0, h => by omega
  | n + 1, h => by
    rw [List.range_succ, List.map_append, List.sum_append]
    by_cases e : k = n
    · subst e; simp
    · have := le_sum g k n (by omega); omega
theorem szT_le (p : Pt) (k : Nat) (h : k < p.types.length) (hz : szP p ≤ 1048576) : szT (tth p.types k) ≤ 1048576 := by
  have h1 := le_sum (fun i => szT (tth p.types i)) k _ h
  have h2 : p.name.size + (p.types.length + szTsTo p.types p.types.length) ≤ 1048576 := hz
  have h3 : szTsTo p.types p.types.length = ((List.range p.types.length).map fun i => szT (tth p.types i)).sum := rfl
  omega
theorem szF_le (t : T) (k : Nat) (h : k < t.fields.length) (hz : szT t ≤ 1048576) : szF (fth t.fields k) ≤ 1048576 := by
  have h1 := le_sum (fun i => szF (fth t.fields i)) k _ h
  have h2 : t.name.size + t.key.size + (t.fields.length + szFsTo t.fields t.fields.length) ≤ 1048576 := hz
  have h3 : szFsTo t.fields t.fields.length = ((List.range t.fields.length).map fun i => szF (fth t.fields i)).sum := rfl
  omega
theorem tl (a : ByteArray) : a.data.toList.length = a.size := Array.length_toList
end Go.Proofs.YtokmgbidmnanpaaGreatDoor
namespace Go.Proofs.YtokmgbidmnanpaaGreatDoor
open Go.RowKit Go.Shelf Go.Maps
structure El where
  s : Se
  ka : Option Addr
  kc : Nat
  Q : Nat → Prop
def El.cells (e : El) : List Value := [.string e.s.al, .string e.s.name, .bool e.s.one, .int .i64 e.s.id, .slice e.ka e.s.kids.length e.kc]
def Looks (P : World → (Nat → Prop) → List Se → Option Addr → Prop) : Prop := ∀ (w w' : World) (Q : Nat → Prop) (ks : List Se) (a : Option Addr), P w Q ks a → (∀ b, Q b → w'.heap[b]? = w.heap[b]?) → P w' Q ks a
theorem looks_reps : Looks SeReps := fun w w' Q ks a h e => h.mono e
structure RowP (P : World → (Nat → Prop) → List Se → Option Addr → Prop) (base : Nat) (es : List El) (v : Value) (w : World) : Prop where
  row : w.ownsRow base 56 5 v es.length (es.flatMap El.cells)
  kid : ∀ e ∈ es, P w e.Q e.s.kids e.ka ∧ ∀ b, e.Q b → b < w.heap.size ∧ v.ownBlock ≠ some b
theorem RowP.nil {P : World → (Nat → Prop) → List Se → Option Addr → Prop} (base : Nat) (w : World) : RowP P base [] (.slice none 0 0) w := ⟨World.ownsRow_nil _ _ _ _, fun e he => by cases he⟩
theorem RowP.new {P : World → (Nat → Prop) → List Se → Option Addr → Prop} (w : World) : RowP P w.heap.size [] (.slice (some ⟨w.heap.size, 0, none⟩) 0 0) (w.alloc (.cells #[] 56)) :=
  ⟨⟨rfl, Or.inr ⟨w.heap.size, 0, #[], rfl, Nat.le_refl _, heap_alloc_new w _, Nat.le_refl _, by unfold maxLen; omega, rfl, rfl⟩⟩, fun e he => by cases he⟩
theorem RowP.form {P : World → (Nat → Prop) → List Se → Option Addr → Prop} {base : Nat} {es : List El} {v : Value} {w : World} (h : RowP P base es v w) (hn : ¬ v = .slice none 0 0) : ∃ g cap, v = .slice (some ⟨g, 0, none⟩) es.length cap := by
  rcases h.row.2 with ⟨e, -⟩ | ⟨g, cap, cur, e, -⟩
  · exact absurd e hn
  · exact ⟨g, cap, e⟩
theorem RowP.slice {P : World → (Nat → Prop) → List Se → Option Addr → Prop} {base : Nat} {es : List El} {v : Value} {w : World} (h : RowP P base es v w) : ∃ a cap, v = .slice a es.length cap := by
  rcases h.row.2 with ⟨e, e2⟩ | ⟨g, cap, cur, e, -⟩
  · exact ⟨none, 0, by rw [e, e2]⟩
  · exact ⟨_, cap, e⟩
theorem RowP.keep {P : World → (Nat → Prop) → List Se → Option Addr → Prop} (hP : Looks P) {base : Nat} {es : List El} {v : Value} {w w' : World} (h : RowP P base es v w) (hb : Below w.heap.size w w') : RowP P base es v w' := by
  refine ⟨owns_keep' h.row hb, fun e he => ?_⟩
  obtain ⟨h1, h2⟩ := h.kid e he
  exact ⟨hP _ _ _ _ _ h1 fun b hq => hb.block b (h2 b hq).1, fun b hq => ⟨Nat.lt_of_lt_of_le (h2 b hq).1 hb.size, (h2 b hq).2⟩⟩
theorem RowP.push {P : World → (Nat → Prop) → List Se → Option Addr → Prop} (hP : Looks P) {base : Nat} {es : List El} {v v' : Value} {w w' : World} (h : RowP P base es v w) (e : El) {xs : List Value} (hx : xs = e.cells) {n : Nat} (hn : n = es.length)
    (hr : w'.ownsRow base 56 5 v' (n + 1) (es.flatMap El.cells ++ xs)) (hg : w.grownBy w' v.ownBlock) (ho : v'.ownBlock = v.ownBlock ∨ v'.ownBlock = some w.heap.size)
    (hk : P w e.Q e.s.kids e.ka) (hq : ∀ b, e.Q b → b < w.heap.size ∧ v.ownBlock ≠ some b) : RowP P base (es ++ [e]) v' w' := by
  subst hx hn
  have hall : ∀ y ∈ es ++ [e], P w y.Q y.s.kids y.ka ∧ ∀ b, y.Q b → b < w.heap.size ∧ v.ownBlock ≠ some b := fun y hy => by
    rcases List.mem_append.1 hy with hy | hy
    · exact h.kid y hy
    · rw [List.mem_singleton.1 hy]; exact ⟨hk, hq⟩
  refine ⟨by simpa [List.flatMap_append] using hr, fun y hy => ?_⟩
  obtain ⟨h1, h2⟩ := hall y hy
  refine ⟨hP _ _ _ _ _ h1 fun b hb => hg.block b (h2 b hb).1 (h2 b hb).2.symm, fun b hb => ⟨Nat.lt_of_lt_of_le (h2 b hb).1 hg.size, fun e2 => ?_⟩⟩
  rcases ho with ho | ho
  · exact (h2 b hb).2 (ho ▸ e2)
  · rw [ho] at e2
    have := (h2 b hb).1
    simp at e2
    omega
theorem flat5 (es : List El) : ∀ (i j : Nat) (hi : i < es.length), j < 5 → (es.flatMap El.cells)[i * 5 + j]? = (es[i]).cells[j]? := by
  induction es with
  | nil => intro i j hi; simp at hi
  | cons e es ih =>
    intro i j hi hj
    rw [List.flatMap_cons]
    have hl : e.cells.length = 5 := rfl
    cases i with
    | zero => rw [List.getElem?_append_left (by omega)]; simp
    | succ i =>
      rw [List.getElem?_append_right (by omega), hl, show (i + 1) * 5 + j - 5 = i * 5 + j by omega]
      simpa using ih i j (by simpa using hi) hj
theorem RowP.reps {P : World → (Nat → Prop) → List Se → Option Addr → Prop} (hP : ∀ w Q ks a, P w Q ks a → SeReps w Q ks a) {base : Nat} {es : List El} {v : Value} {w : World} (h : RowP P base es v w) (hl : es.length ≤ 1000000) (hs : ∀ e ∈ es, e.s.al.size ≤ maxLen ∧ e.s.name.size ≤ maxLen) (R : Nat → Prop)
    (hR : ∀ b, (base ≤ b ∧ b < w.heap.size) → R b) (hRe : ∀ e ∈ es, ∀ b, e.Q b → R b) :
    ∃ a c, v = .slice a es.length c ∧ SeReps w R (es.map El.s) a := by
  rcases h.row.2 with ⟨rfl, h0⟩ | ⟨g, cap, cur, rfl, hb, hh, r⟩
  · have e : es = [] := List.length_eq_zero_iff.1 h0
    subst e
    exact ⟨none, 0, rfl, by simp, fun _ _ => .bool false, fun hn => by simp at hn, fun i hi => by simp at hi⟩
  · refine ⟨_, _, rfl, by simp; omega, fun i j => ((es.flatMap El.cells)[i * 5 + j]?).getD (.bool false), fun hn => ⟨g, 0, rfl, hR g ⟨hb, (Array.getElem?_eq_some_iff.1 hh).1⟩, fun i hi j hj => ?_⟩, fun i hi => ?_⟩
    · have hi' : i < es.length := by simpa using hi
      rw [Nat.zero_add, h.row.cellAt (i * 5 + j) (by omega)]
      have hlt : i * 5 + j < (es.flatMap El.cells).length := by rw [h.row.1]; omega
      show _ = some ((es.flatMap El.cells)[i * 5 + j]?.getD (.bool false))
      rw [List.getElem?_eq_getElem hlt]; rfl
    · have hi' : i < es.length := by simpa using hi
      have hm := List.getElem_mem hi'
      have c0 := flat5 es i 0 hi' (by omega)
      have c1 := flat5 es i 1 hi' (by omega)
      have c2 := flat5 es i 2 hi' (by omega)
      have c3 := flat5 es i 3 hi' (by omega)
      have c4 := flat5 es i 4 hi' (by omega)
      simp only
      rw [c0, c1, c2, c3, c4]
      have es1 : sth (es.map El.s) i = es[i].s := by simp [sth, List.getD_eq_getElem?_getD, hi']
      rw [es1]
      have hk := (hP _ _ _ _ (h.kid _ hm).1).sub (hRe _ hm)
      have hz := hs _ hm
      generalize es[i] = x at *
      simp only [El.cells, List.getElem?_cons_zero, List.getElem?_cons_succ, Option.getD_some]
      obtain ⟨⟨x1, x2, x3, x4, x5⟩, x6, x7, x8⟩ := x
      exact SeRep.of_kids hz.1 hz.2 hk
end Go.Proofs.YtokmgbidmnanpaaGreatDoor
namespace Go.Proofs.YtokmgbidmnanpaaGreatDoor
open Go.RowKit Go.Shelf Go.Maps
attribute [local go_sem] Oper.semAt_some
theorem anyIn_go {F : Fence} {n : Nat} {P : Program} {md : Region.Mode} {ops : Array Oper} {Q : Exit → Act → World → Prop} {fuel : Nat} {listed : Array Bool} {a : Act} {w : World} (rs : List Nat) (hr : Region.ready md ops listed = rs) (hne : rs ≠ [])
    (h : ∀ i ∈ rs, ∃ o, ops[i]? = some o ∧ o.guard = none ∧ o.wpIn F n P a w (wpAnyIn F n P md ops Q fuel (listed.setIfInBounds i true)) Q) : wpAnyIn F n P md ops Q (fuel + 1) listed a w := by
  refine ⟨fun e => absurd (hr.symm.trans e) hne, fun i hi => ?_⟩
  rw [hr] at hi
  obtain ⟨o, h1, h2, h3⟩ := h i hi
  have hw : Region.wanted o (yielded ops a.tmps) = true := by simp [Region.wanted, h2]
  simp only [wpOpIn, h1, hw, if_true]
  exact h3
theorem anyIn_done {F : Fence} {n : Nat} {P : Program} {md : Region.Mode} {ops : Array Oper} {Q : Exit → Act → World → Prop} {listed : Array Bool} {a : Act} {w : World} (hr : Region.ready md ops listed = []) (h : Q .normal a w) : wpAnyIn F n P md ops Q 0 listed a w := ⟨hr, h⟩
theorem append_wpIn {F : Fence} {n : Nat} {P : Program} {w : World} {o : Oper} {a : Act} {K : Act → World → Prop} {Q : Exit → Act → World → Prop} (s x : Operand) (t : TypeId) (ho : o.op = .call { callee := .builtin .append, args := #[s, x], argTypes := #[t, t] })
    (base : Nat) (e : TypeId) (i : TypeInfo) (z : Value) (size bytes : Nat) (ht : P.underlying t = some (.slice e)) (hi : P.info? e = some i) (hz : i.zero = some z) (hsize : i.size = size) (hby : i.bytes = bytes) (hzs : z.cells.size = size) (hsz : 0 < size)
    (v : Value) (k : Nat) (xs : List Value) (hs : a.eval s = v) (hown : w.ownsRow base e size v k xs) (ad : Addr) (m c : Nat) (news : List Value) (hx : a.eval x = .slice (some ad) m c) (hl : news.length = m * size)
    (hnews : ∀ j u, news[j]? = some u → w.cell? (ad.add j) = some u) (h1 : ∀ u ∈ news, u.oneCell' = true) (h63 : k + m ≤ maxLen) (hbytes : (k + m) * bytes ≤ 140737488355328) (hbase : base ≤ w.heap.size)
    (h : ∀ v' w', w'.ownsRow base e size v' (k + m) (xs ++ news) → w.grownBy w' v.ownBlock → (v'.ownBlock = v.ownBlock ∨ v'.ownBlock = some w.heap.size) → K (a.put o.dst v') w') : o.wpIn F n P a w K Q := by
  obtain ⟨v', w', hr, h2, h3, -, h5⟩ := run_append_own_at (P := P) w base t o.type e i z size bytes ht hi hz hsize hby hzs hsz v k xs hown ad m c news hl hnews h1 h63 hbytes hbase
  unfold Oper.wpIn
  refine ⟨by simp [Oper.about, ho, resolve, Target.leads, Sem.run_pure], ?_⟩
  rw [Oper.semAt_plain F _ _ (by rw [ho]; intro c hc'; cases hc')]
  simp [execOp, ho, resolve, invoke, builtin, hs, hx, hr, Result.andThen]
  exact h v' w' h2 h3 h5
def askWays (f : Nat) (ks : List Se) : List (List UInt8) := if askOk f ks = true then (preTo f [] ks ks.length).map fun x => joinW x.1 else []
structure IWy (w : World) (pre : List (Way × Se)) (O : Nat → Prop) (ts : List ByteArray) (wv : Value) (A : World) : Prop where
  gat : Gat w.heap.size w.heap.size ts wv A
  texts : ts.map ByteArray.toList = pre.map fun x => joinW x.1
  sizes : ∀ t ∈ ts, t.size ≤ 1048577000
  bel : Below w.heap.size w A
  own : ∀ b, O b ↔ b = w.heap.size ∨ wv.ownBlock = some b
theorem IWy.next {w : World} {pre : List (Way × Se)} {O : Nat → Prop} {ts : List ByteArray} {wv v' : Value} {A W W3 : World} {x : Way × Se} {t : ByteArray} (h : IWy w pre O ts wv A) (hb : Below A.heap.size A W) (hgr : W.grownBy W3 wv.ownBlock)
    (hown : W3.ownsRow w.heap.size 9 1 v' (ts.length + 1) (ts.map Value.string ++ [.string t])) (hat : v'.ownBlock = wv.ownBlock ∨ v'.ownBlock = some W.heap.size) (ht : t.toList = joinW x.1) (hts : t.size ≤ 1048577000) :
    (∃ O', (∃ ts wv, IWy w (pre ++ [x]) O' ts wv (W3.setCell ⟨w.heap.size, 0, none⟩ v')) ∧ KeepO O A (W3.setCell ⟨w.heap.size, 0, none⟩ v') ∧ ∀ b, O' b → O b ∨ A.heap.size ≤ b) ∧ KeepsOthers A (W3.setCell ⟨w.heap.size, 0, none⟩ v') := by
  have lN1 := (Array.getElem?_eq_some_iff.1 h.gat.1).1
  have zW := hb.size
  have zA := h.bel.size
  have hk : ∀ (k : Nat) (o : Obj), A.heap[k]? = some o → wv.ownBlock ≠ some k → W3.heap[k]? = some o := fun k o hk hne => by
    have h1 := (hb.block k (Array.getElem?_eq_some_iff.1 hk).1).trans hk
    rw [hgr.block k (Array.getElem?_eq_some_iff.1 h1).1 (fun e => hne e.symm)]
    exact h1
  have hv1 : v'.ownBlock ≠ some w.heap.size := fun e => by
    rcases hat with e2 | e2
    · exact h.gat.2.2 (by rw [← e2, e])
    · rw [e2] at e
      simp only [Option.some.injEq] at e
      omega
  have hset : ∀ (k : Nat), k ≠ w.heap.size → (W3.setCell ⟨w.heap.size, 0, none⟩ v').heap[k]? = W3.heap[k]? := fun k hk => Below.heap_setCell _ _ _ _ hk
  have hbl : ∀ b, wv.ownBlock = some b → w.heap.size ≤ b := fun b hb => (h.gat.2.1.lt b hb).1
  refine ⟨⟨fun b => b = w.heap.size ∨ v'.ownBlock = some b, ⟨ts ++ [t], v', ⟨⟨?_, ?_, hv1⟩, ?_, ?_, ?_, fun b => Iff.rfl⟩⟩, ⟨?_, fun b o hO hc hcl => ?_⟩, fun b hO => ?_⟩, ⟨?_, fun k o hko ho => ?_⟩⟩
  · rw [set_box (hk _ _ h.gat.1 h.gat.2.2)]; rfl
  · have := hown.kept (row := some w.heap.size) (w' := W3.setCell ⟨w.heap.size, 0, none⟩ v') ⟨rfl, rfl, rfl, by simp [World.setCell], fun k _ hk => hset k (fun e => hk (by rw [e]))⟩ (Or.inr hv1)
    simpa using this
  · simp [h.texts, ht]
  · intro u hu
    rcases List.mem_append.1 hu with hu | hu
    · exact h.sizes u hu
    · rw [List.mem_singleton.1 hu]; exact hts
  · exact (((h.bel.trans (hb.mono zA)).grown hgr (by omega) hbl)).setCell (p := ⟨w.heap.size, 0, none⟩) (Nat.le_refl _) _
  · have := hgr.size
    simp; omega
  · have hn1 : b ≠ w.heap.size := fun e => hO ((h.own b).2 (Or.inl e))
    rw [hset _ hn1]
    exact hk _ _ hc (fun e => hO ((h.own b).2 (Or.inr e)))
  · rcases hO with rfl | hO
    · exact Or.inl ((h.own _).2 (Or.inl rfl))
    · rcases hat with e2 | e2
      · exact Or.inl ((h.own b).2 (Or.inr (by rw [← e2, hO])))
      · rw [e2] at hO
        simp only [Option.some.injEq] at hO
        exact Or.inr (by omega)
  · have := hgr.size
    simp; omega
  · have hn1 : k ≠ w.heap.size := fun e => by rw [e, h.gat.1] at hko; cases hko; cases ho
    rw [hset _ hn1]
    refine hk _ _ hko (fun e => ?_)
    rcases h.gat.2.1.2 with ⟨rfl, _⟩ | ⟨g, cap, cur, rfl, hbg, hg, _⟩
    · simp [Value.ownBlock] at e
    · simp only [Value.ownBlock, Option.some.injEq] at e
      rw [e, hko] at hg
      cases hg
      cases ho
theorem IWy.of {w : World} {pre : List (Way × Se)} {O : Nat → Prop} {ts : List ByteArray} {wv : Value} {A B : World} (h : IWy w pre O ts wv A) (hg : Gat w.heap.size w.heap.size ts wv B) (hb : Below w.heap.size w B) : IWy w pre O ts wv B :=
  ⟨hg, h.texts, h.sizes, hb, h.own⟩
set_option maxRecDepth 20000 in
set_option maxHeartbeats 3200000 in
theorem AskWaysI_any (f : Nat) (ks : List Se) (P : Nat → Prop) (B : Nat) (ka : Option Addr) (kc : Nat) (w : World) (h : AskIn f ks P B ka w) :
    Calls Tryz.prog 17 #[.slice ka ks.length kc] w fun e w' => ∃ (ts : List ByteArray) (wv : Value), e = .returned wv ∧ w'.ownsRow w.heap.size 9 1 wv ts.length (ts.map Value.string) ∧ ts.map ByteArray.toList = askWays f ks ∧ (∀ t ∈ ts, t.size ≤ 1048577000) ∧ ts.length ≤ 24 ∧ Below w.heap.size w w' := by
  have HO := hid_of (AskOkI_any f ks P B ka kc w h)
  cases ho : askOk f ks
  · rw [ho] at HO
    have HE : Hid (askWays f ks = []) := hid_of (by rw [askWays, ho]; rfl)
    refine (callsIn_wide (n := 3)).1 ?_
    refine callsIn_of_wp_marks Tryz.func17 rfl trivial ?_ rfl
    simp only [Tryz.ntmps17, List.size_toArray, List.length_cons, List.length_nil, Nat.reduceAdd, Nat.reduceSub, Array.replicate_succ, Array.replicate_zero, List.push_toArray, List.append_toArray, List.nil_append, List.cons_append]
    gi_wp2_with (refine ⟨trivial, ?_⟩; gi_at_call 14; refine (callsIn_wide.2 HO.out).mono ?_; rintro e w1 ⟨rfl, hb1⟩)
    refine ⟨_, results_tmp rfl _ _ _, [], .slice none 0 0, rfl, World.ownsRow_nil _ _ _ _, ?_, by simp, by simp, hb1⟩
    rw [HE.out]; rfl
  rw [ho] at HO
  have HE : Hid (askWays f ks = (preTo f [] ks ks.length).map fun x => joinW x.1) := hid_of (by rw [askWays, ho]; rfl)
  have hq : askB f ks = true := by
    simp only [askOk, Bool.and_eq_true] at ho
    exact ho.1
  obtain ⟨XS, hXS⟩ : ∃ XS, XS = preTo f [] ks ks.length := ⟨_, rfl⟩
  have hX24 : XS.length ≤ 24 := by
    simp only [askB, Bool.and_eq_true, decide_eq_true_eq] at hq
    rw [hXS, preTo_len f [] ks _ (Nat.le_refl _) h.fit]; exact hq.2
  have hwy : ∀ x ∈ XS, x.1.length ≤ 5 := by
    have := askB_walk f ks h.fit
    rw [hq, ← hXS] at this
    have h2 : walkB [] XS = true := by
      cases hw : walkB [] XS
      · rw [hw] at this; simp at this
      · rfl
    exact fun x hx => (((walkB_all XS []).1 h2).1 x hx).1
  have HXS := hid_of hXS
  clear hXS ho
  refine (callsIn_wide (n := 3)).1 ?_
  refine callsIn_of_wp_marks Tryz.func17 rfl trivial ?_ rfl
  simp only [Tryz.ntmps17, List.size_toArray, List.length_cons, List.length_nil, Nat.reduceAdd, Nat.reduceSub, Array.replicate_succ, Array.replicate_zero, List.push_toArray, List.append_toArray, List.nil_append, List.cons_append]
  gi_wp2_with (first
    | (refine ⟨trivial, ?_⟩; gi_at_call 14; refine (callsIn_wide.2 HO.out).mono ?_; rintro e w1 ⟨rfl, hb1⟩)
    | (refine ⟨trivial, ?_⟩; gi_at_call 42; refine (callsIn_wide.2 (selsOf_any _ ka ks.length kc)).mono ?_; rintro e w' ⟨rfl, rfl⟩))
  have h1 := h.on hb1
  clear HO
  obtain ⟨Y, hY⟩ : ∃ Y, Y = (w1.alloc (.cells #[.slice none 0 0] 29)).alloc (.cells #[.slice ka ks.length kc] 23) := ⟨_, rfl⟩
  have zY : Y.heap.size = w1.heap.size + 1 + 1 := by rw [hY]; simp
  have bY : Below w1.heap.size w1 Y := by rw [hY]; exact below_box2 _ _ _
  have rY : Y.heap[w1.heap.size]? = some (.cells #[.slice none 0 0] 29 (0, 0)) := by
    rw [hY, (below_box _ _).block _ (by simp)]
    exact block_new _ _ rfl
  have sY : Y.heap[w1.heap.size + 1]? = some (.cells #[.slice ka ks.length kc] 23 (0, 0)) := by
    rw [hY]
    exact block_new _ _ (by simp)
  rw [← hY]
  clear hY
  refine range_stop (w := Y) rfl (by omega) (gf := 79) (lb := #[.pointer (some ⟨w1.heap.size + 1, 0, none⟩)]) rfl trivial (enters_of Tryz.func79 (by kernel_rfl) rfl)
    XS (fun pre x ar A => ArgT x ar A ∧ pre ++ [x] <+: XS) ?ps (fun pre O A => ∃ ts wv, IWy w1 pre O ts wv A) ?still ?grows ?lt (fun _ => False) ?xstill
    (fun b => b = w1.heap.size) ?start ?seq
    (fun pre x ar a' A => ∃ (wa : Option Addr) (wc : Nat) (sv : Value), pre ++ [x] <+: XS ∧ x.1.length ≤ wc ∧ Strs A (· < A.heap.size) x.1 wa ∧ (∀ a ∈ x.1, a.size ≤ 1048576) ∧ x.1 ≠ [] ∧ a' = { tmps := #[.slice ka ks.length kc, undef, .slice none 0 0, .pointer (some ⟨w1.heap.size, 0, none⟩), .slice wa x.1.length wc, .slice ka ks.length kc, .bool true, .bool false, .slice ka ks.length kc, .func (.func 79) #[] #[.pointer (some ⟨w1.heap.size + 1, 0, none⟩)], .slice wa x.1.length wc, sv, undef, undef, undef, undef, undef, undef], defers := [] }) ?astill ?assign ?body ?done ?stop
  case ps =>
    rintro pre x ar A ⟨⟨wa, wc, sa, sc, rfl, -⟩, -⟩
    rfl
  case still =>
    rintro pre O A l o o' ⟨ts, wv, h⟩ hl ho1 ho2
    exact ⟨ts, wv, h.of (h.gat.still ho1 ho2) (h.bel.trans (below_putObj _ _ (by omega)))⟩
  case grows =>
    rintro pre O A A' ⟨ts, wv, h⟩ hb
    exact ⟨ts, wv, h.of (h.gat.grow hb) (h.bel.trans (hb.mono h.bel.size))⟩
  case lt =>
    rintro pre O A ⟨ts, wv, h⟩ b hb
    rcases (h.own b).1 hb with rfl | hv
    · exact (Array.getElem?_eq_some_iff.1 h.gat.1).1
    · exact (h.gat.2.1.lt b hv).2
  case xstill => exact fun A l o o' h => h.elim
  case start => exact ⟨[], .slice none 0 0, ⟨⟨rY, World.ownsRow_nil _ _ _ _, by simp [Value.ownBlock]⟩, rfl, by simp, bY, fun b => by simp [Value.ownBlock]⟩⟩
  case seq =>
    intro l J Jx W hb hJg hJO hy h0
    have hbW := bY.trans (hb.mono (by omega))
    have := selsOf1_any f ks l J Jx w1.heap.size hJg hJO (fun n pre O x ar A hJ hp hA => yieldAt_wide (hy pre O x ar A hJ ⟨hA, by rw [HXS.out]; exact hp⟩)) (3 - 1) _ W ka kc (w1.heap.size + 1) h1.fit h1.small ((h1.on hbW).rep.sub fun b hb => by have := (h1.apart b hb).1; have := h1.le; omega) hbW.size h1.few h0 (by rintro b rfl; omega) ((hb.cell (p := ⟨w1.heap.size + 1, 0, none⟩) (by show w1.heap.size + 1 < _; omega)).trans (box_at sY 0 (by simp)).1)
    rw [← HXS.out] at this
    exact this
  case astill =>
    rintro pre x ar a' A l o o' ⟨wa, wc, sv, h1, h2, h3, h4, h5, h6⟩ hl ho1 ho2
    exact ⟨wa, wc, sv, h1, h2, still_strs ho1 ho2 h3, h4, h5, h6⟩
  case assign =>
    rintro l pre x ar A K ⟨⟨wa, wc, sa, sc, rfl, h3, h4, h5, h6, h7, h8⟩, hp⟩ hK
    have HK := hid_of hK
    clear hK
    gi_wp2
    exact HK.out _ _ (Below.refl _ _) ⟨wa, wc, _, hp, h3, h4, h7, h8, rfl⟩
  case body =>
    rintro l pre O x ar a' A ⟨ts, wv, h⟩ ⟨wa, wc, sv, hp, h3, h4, h7, h8, rfl⟩
    have zY2 : w1.heap.size ≤ Y.heap.size := by omega
    clear zY
    have hpn : ts.length = pre.length := by have := congrArg List.length h.texts; simpa using this
    have hpl : pre.length ≤ 24 := by have := hp.length_le; simp at this; omega
    obtain ⟨va, vc, rfl, -⟩ := h.gat.strs (fun t ht => by have := h.sizes t ht; unfold maxLen; omega) (by omega)
    have hx5 : x.1.length ≤ 1000 := by
      have := hwy x (hp.subset (by simp))
      omega
    have hlN := (Array.getElem?_eq_some_iff.1 h.gat.1).1
    have hcell : ∀ W, Below A.heap.size A W → W.cell? ⟨w1.heap.size, 0, none⟩ = some (.slice va ts.length vc) := fun W hb => by
      have := (box_at ((hb.block _ hlN).trans h.gat.1) 0 (by simp)).1
      simpa using this
    have HC := hid_of hcell
    have hti : ts.length ≤ 24 := by omega
    have HW := hid_of (fun W (hb : Below A.heap.size A W) => wayText_any x.1 wa wc W ((h4.mono fun k hk => hb.block k hk).sub fun k hk => by have := hb.size; omega) h8 h3 hx5 h7)
    obtain ⟨i0, hi0, hz0, hz1, hz2⟩ := info_parts info9
    have HH := hid_of h
    have zA := h.bel.size
    clear hcell h hp hpn hpl h3 h4 h7 h8
    gi_wp2
    refine wpIn_region_any (by kernel_rfl) ?_
    have bD : Below A.heap.size A A.drew := (Below.refl _ _).drew
    refine anyIn_go [0, 1] (by kernel_rfl) (by simp) ?_
    intro i hi
    simp only [List.mem_cons, List.not_mem_nil, or_false] at hi
    rcases hi with rfl | rfl
    · refine ⟨_, rfl, rfl, ?_⟩
      generalize hK : wpAnyIn _ _ _ _ _ _ _ _ = K
      have HK := hid_of hK
      clear hK
      have c0 := HC.out A.drew bD
      gi_wp2
      rw [← HK.out]
      clear HK
      refine anyIn_go [1] (by kernel_rfl) (by simp) ?_
      intro i hi
      simp only [List.mem_cons, List.not_mem_nil, or_false] at hi
      subst hi
      refine ⟨_, rfl, rfl, ?_⟩
      generalize hK : wpAnyIn _ _ _ _ _ _ _ _ = K
      have HK := hid_of hK
      clear hK
      gi_wp2
      rw [← HK.out]
      clear HK
      refine anyIn_go [2] (by kernel_rfl) (by simp) ?_
      intro i hi
      simp only [List.mem_cons, List.not_mem_nil, or_false] at hi
      subst hi
      refine ⟨_, rfl, rfl, ?_⟩
      generalize hK : wpAnyIn _ _ _ _ _ _ _ _ = K
      have HK := hid_of hK
      clear hK
      gi_wp2
      refine ⟨trivial, (CallsIn.inRound l (callsIn_wide.2 (HW.out A.drew bD))).mono ?_⟩
      rintro e w2 ⟨⟨t, rfl, ht, hts⟩, hb2⟩
      have bw2 : Below A.heap.size A w2 := Below.trans bD (hb2.mono (Below.size bD))
      have HT := hid_of (And.intro ht hts)
      clear ht hts hb2
      gi_wp2
      rw [← HK.out]
      clear HK
      refine anyIn_go [3] (by kernel_rfl) (by simp) ?_
      intro i hi
      simp only [List.mem_cons, List.not_mem_nil, or_false] at hi
      subst hi
      refine ⟨_, rfl, rfl, ?_⟩
      generalize hK : wpAnyIn _ _ _ _ _ _ _ _ = K
      have HK := hid_of hK
      clear hK
      gi_wp2
      have bw3 : Below A.heap.size A (w2.alloc (.cells #[.string t] 9)) := bw2.trans ((below_box w2 _).mono bw2.size)
      rw [← HK.out]
      clear HK
      refine anyIn_go [4] (by kernel_rfl) (by simp) ?_
      intro i hi
      simp only [List.mem_cons, List.not_mem_nil, or_false] at hi
      subst hi
      refine ⟨_, rfl, rfl, ?_⟩
      refine append_wpIn (.tmp 12) (.tmp 15) 29 rfl w1.heap.size 9 i0 (.string ByteArray.empty) 1 16 Tryz.underlying29 hi0 hz0 hz1 hz2 rfl (by decide) (.slice va ts.length vc) ts.length (ts.map Value.string) rfl ((HH.out.gat.grow bw2).2.1.alloc _) ⟨w2.heap.size, 0, none⟩ 1 1 [.string t] rfl rfl (World.news_of_block (heap_alloc_new w2 _)) (by intro u hu; simp at hu; subst hu; rfl) (by unfold maxLen; omega) (by omega) (by have := bw2.size; simp; omega) ?_
      intro v' w4 hown hgrow hat
      have hnx := HH.out.next (x := x) (t := t) (bw2.trans ((below_box w2 _).mono bw2.size)) hgrow hown hat HT.out.1 HT.out.2
      have HN := hid_of hnx
      have n4 : w4.heap[w1.heap.size]? = some (.cells #[.slice va ts.length vc] 29 (0, 0)) := by
        have z2 := bw2.size
        rw [hgrow.block _ (by simp; omega) (fun e => HH.out.gat.2.2 e.symm)]
        exact ((bw2.trans ((below_box w2 _).mono bw2.size)).block _ hlN).trans HH.out.gat.1
      have g1 := (box_at n4 0 (by simp)).1
      have g1f := (box_at n4 0 (by simp)).2
      simp only [List.getElem_toArray, List.getElem_cons_zero] at g1
      obtain ⟨a4, m4, c4, rfl⟩ : ∃ a n c, v' = .slice a n c := by
        rcases hown.2 with ⟨hv, _⟩ | ⟨g, cap, cur, hv, _⟩
        · exact ⟨_, _, _, hv⟩
        · exact ⟨_, _, _, hv⟩
      clear hnx hown hgrow hat
      try simp only [Act.put, List.setIfInBounds_toArray, List.set_cons_zero, List.set_cons_succ]
      refine anyIn_go [5] (by kernel_rfl) (by simp) ?_
      intro i hi
      simp only [List.mem_cons, List.not_mem_nil, or_false] at hi
      subst hi
      refine ⟨_, rfl, rfl, ?_⟩
      generalize hK : wpAnyIn _ _ _ _ _ _ _ _ = K
      have HK := hid_of hK
      clear hK
      gi_wp2
      rw [← HK.out]
      refine anyIn_done (by kernel_rfl) ?_
      exact ⟨HN.out.2.from _, Or.inl ⟨rfl, Or.inl ⟨rfl, HN.out.1⟩⟩⟩
    · refine ⟨_, rfl, rfl, ?_⟩
      generalize hK : wpAnyIn _ _ _ _ _ _ _ _ = K
      have HK := hid_of hK
      clear hK
      gi_wp2
      rw [← HK.out]
      clear HK
      refine anyIn_go [0, 2] (by kernel_rfl) (by simp) ?_
      intro i hi
      simp only [List.mem_cons, List.not_mem_nil, or_false] at hi
      rcases hi with rfl | rfl
      · refine ⟨_, rfl, rfl, ?_⟩
        generalize hK : wpAnyIn _ _ _ _ _ _ _ _ = K
        have HK := hid_of hK
        clear hK
        have c0 := HC.out A.drew bD
        gi_wp2
        rw [← HK.out]
        clear HK
        refine anyIn_go [2] (by kernel_rfl) (by simp) ?_
        intro i hi
        simp only [List.mem_cons, List.not_mem_nil, or_false] at hi
        subst hi
        refine ⟨_, rfl, rfl, ?_⟩
        generalize hK : wpAnyIn _ _ _ _ _ _ _ _ = K
        have HK := hid_of hK
        clear hK
        gi_wp2
        refine ⟨trivial, (CallsIn.inRound l (callsIn_wide.2 (HW.out A.drew bD))).mono ?_⟩
        rintro e w2 ⟨⟨t, rfl, ht, hts⟩, hb2⟩
        have bw2 : Below A.heap.size A w2 := Below.trans bD (hb2.mono (Below.size bD))
        have HT := hid_of (And.intro ht hts)
        clear ht hts hb2
        gi_wp2
        rw [← HK.out]
        clear HK
        refine anyIn_go [3] (by kernel_rfl) (by simp) ?_
        intro i hi
        simp only [List.mem_cons, List.not_mem_nil, or_false] at hi
        subst hi
        refine ⟨_, rfl, rfl, ?_⟩
        generalize hK : wpAnyIn _ _ _ _ _ _ _ _ = K
        have HK := hid_of hK
        clear hK
        gi_wp2
        have bw3 : Below A.heap.size A (w2.alloc (.cells #[.string t] 9)) := bw2.trans ((below_box w2 _).mono bw2.size)
        rw [← HK.out]
        clear HK
        refine anyIn_go [4] (by kernel_rfl) (by simp) ?_
        intro i hi
        simp only [List.mem_cons, List.not_mem_nil, or_false] at hi
        subst hi
        refine ⟨_, rfl, rfl, ?_⟩
        refine append_wpIn (.tmp 12) (.tmp 15) 29 rfl w1.heap.size 9 i0 (.string ByteArray.empty) 1 16 Tryz.underlying29 hi0 hz0 hz1 hz2 rfl (by decide) (.slice va ts.length vc) ts.length (ts.map Value.string) rfl ((HH.out.gat.grow bw2).2.1.alloc _) ⟨w2.heap.size, 0, none⟩ 1 1 [.string t] rfl rfl (World.news_of_block (heap_alloc_new w2 _)) (by intro u hu; simp at hu; subst hu; rfl) (by unfold maxLen; omega) (by omega) (by have := bw2.size; simp; omega) ?_
        intro v' w4 hown hgrow hat
        have hnx := HH.out.next (x := x) (t := t) (bw2.trans ((below_box w2 _).mono bw2.size)) hgrow hown hat HT.out.1 HT.out.2
        have HN := hid_of hnx
        have n4 : w4.heap[w1.heap.size]? = some (.cells #[.slice va ts.length vc] 29 (0, 0)) := by
          have z2 := bw2.size
          rw [hgrow.block _ (by simp; omega) (fun e => HH.out.gat.2.2 e.symm)]
          exact ((bw2.trans ((below_box w2 _).mono bw2.size)).block _ hlN).trans HH.out.gat.1
        have g1 := (box_at n4 0 (by simp)).1
        have g1f := (box_at n4 0 (by simp)).2
        simp only [List.getElem_toArray, List.getElem_cons_zero] at g1
        obtain ⟨a4, m4, c4, rfl⟩ : ∃ a n c, v' = .slice a n c := by
          rcases hown.2 with ⟨hv, _⟩ | ⟨g, cap, cur, hv, _⟩
          · exact ⟨_, _, _, hv⟩
          · exact ⟨_, _, _, hv⟩
        clear hnx hown hgrow hat
        try simp only [Act.put, List.setIfInBounds_toArray, List.set_cons_zero, List.set_cons_succ]
        refine anyIn_go [5] (by kernel_rfl) (by simp) ?_
        intro i hi
        simp only [List.mem_cons, List.not_mem_nil, or_false] at hi
        subst hi
        refine ⟨_, rfl, rfl, ?_⟩
        generalize hK : wpAnyIn _ _ _ _ _ _ _ _ = K
        have HK := hid_of hK
        clear hK
        gi_wp2
        rw [← HK.out]
        refine anyIn_done (by kernel_rfl) ?_
        exact ⟨HN.out.2.from _, Or.inl ⟨rfl, Or.inl ⟨rfl, HN.out.1⟩⟩⟩
      · refine ⟨_, rfl, rfl, ?_⟩
        generalize hK : wpAnyIn _ _ _ _ _ _ _ _ = K
        have HK := hid_of hK
        clear hK
        gi_wp2
        refine ⟨trivial, (CallsIn.inRound l (callsIn_wide.2 (HW.out A.drew bD))).mono ?_⟩
        rintro e w2 ⟨⟨t, rfl, ht, hts⟩, hb2⟩
        have bw2 : Below A.heap.size A w2 := Below.trans bD (hb2.mono (Below.size bD))
        have HT := hid_of (And.intro ht hts)
        clear ht hts hb2
        gi_wp2
        rw [← HK.out]
        clear HK
        refine anyIn_go [0, 3] (by kernel_rfl) (by simp) ?_
        intro i hi
        simp only [List.mem_cons, List.not_mem_nil, or_false] at hi
        rcases hi with rfl | rfl
        · refine ⟨_, rfl, rfl, ?_⟩
          generalize hK : wpAnyIn _ _ _ _ _ _ _ _ = K
          have HK := hid_of hK
          clear hK
          have c0 := HC.out w2 bw2
          gi_wp2
          rw [← HK.out]
          clear HK
          refine anyIn_go [3] (by kernel_rfl) (by simp) ?_
          intro i hi
          simp only [List.mem_cons, List.not_mem_nil, or_false] at hi
          subst hi
          refine ⟨_, rfl, rfl, ?_⟩
          generalize hK : wpAnyIn _ _ _ _ _ _ _ _ = K
          have HK := hid_of hK
          clear hK
          gi_wp2
          have bw3 : Below A.heap.size A (w2.alloc (.cells #[.string t] 9)) := bw2.trans ((below_box w2 _).mono bw2.size)
          rw [← HK.out]
          clear HK
          refine anyIn_go [4] (by kernel_rfl) (by simp) ?_
          intro i hi
          simp only [List.mem_cons, List.not_mem_nil, or_false] at hi
          subst hi
          refine ⟨_, rfl, rfl, ?_⟩
          refine append_wpIn (.tmp 12) (.tmp 15) 29 rfl w1.heap.size 9 i0 (.string ByteArray.empty) 1 16 Tryz.underlying29 hi0 hz0 hz1 hz2 rfl (by decide) (.slice va ts.length vc) ts.length (ts.map Value.string) rfl ((HH.out.gat.grow bw2).2.1.alloc _) ⟨w2.heap.size, 0, none⟩ 1 1 [.string t] rfl rfl (World.news_of_block (heap_alloc_new w2 _)) (by intro u hu; simp at hu; subst hu; rfl) (by unfold maxLen; omega) (by omega) (by have := bw2.size; simp; omega) ?_
          intro v' w4 hown hgrow hat
          have hnx := HH.out.next (x := x) (t := t) (bw2.trans ((below_box w2 _).mono bw2.size)) hgrow hown hat HT.out.1 HT.out.2
          have HN := hid_of hnx
          have n4 : w4.heap[w1.heap.size]? = some (.cells #[.slice va ts.length vc] 29 (0, 0)) := by
            have z2 := bw2.size
            rw [hgrow.block _ (by simp; omega) (fun e => HH.out.gat.2.2 e.symm)]
            exact ((bw2.trans ((below_box w2 _).mono bw2.size)).block _ hlN).trans HH.out.gat.1
          have g1 := (box_at n4 0 (by simp)).1
          have g1f := (box_at n4 0 (by simp)).2
          simp only [List.getElem_toArray, List.getElem_cons_zero] at g1
          obtain ⟨a4, m4, c4, rfl⟩ : ∃ a n c, v' = .slice a n c := by
            rcases hown.2 with ⟨hv, _⟩ | ⟨g, cap, cur, hv, _⟩
            · exact ⟨_, _, _, hv⟩
            · exact ⟨_, _, _, hv⟩
          clear hnx hown hgrow hat
          try simp only [Act.put, List.setIfInBounds_toArray, List.set_cons_zero, List.set_cons_succ]
          refine anyIn_go [5] (by kernel_rfl) (by simp) ?_
          intro i hi
          simp only [List.mem_cons, List.not_mem_nil, or_false] at hi
          subst hi
          refine ⟨_, rfl, rfl, ?_⟩
          generalize hK : wpAnyIn _ _ _ _ _ _ _ _ = K
          have HK := hid_of hK
          clear hK
          gi_wp2
          rw [← HK.out]
          refine anyIn_done (by kernel_rfl) ?_
          exact ⟨HN.out.2.from _, Or.inl ⟨rfl, Or.inl ⟨rfl, HN.out.1⟩⟩⟩
        · refine ⟨_, rfl, rfl, ?_⟩
          generalize hK : wpAnyIn _ _ _ _ _ _ _ _ = K
          have HK := hid_of hK
          clear hK
          gi_wp2
          have bw3 : Below A.heap.size A (w2.alloc (.cells #[.string t] 9)) := bw2.trans ((below_box w2 _).mono bw2.size)
          rw [← HK.out]
          clear HK
          refine anyIn_go [0] (by kernel_rfl) (by simp) ?_
          intro i hi
          simp only [List.mem_cons, List.not_mem_nil, or_false] at hi
          subst hi
          refine ⟨_, rfl, rfl, ?_⟩
          generalize hK : wpAnyIn _ _ _ _ _ _ _ _ = K
          have HK := hid_of hK
          clear hK
          have c0 := HC.out (w2.alloc (.cells #[.string t] 9)) bw3
          gi_wp2
          rw [← HK.out]
          clear HK
          refine anyIn_go [4] (by kernel_rfl) (by simp) ?_
          intro i hi
          simp only [List.mem_cons, List.not_mem_nil, or_false] at hi
          subst hi
          refine ⟨_, rfl, rfl, ?_⟩
          refine append_wpIn (.tmp 12) (.tmp 15) 29 rfl w1.heap.size 9 i0 (.string ByteArray.empty) 1 16 Tryz.underlying29 hi0 hz0 hz1 hz2 rfl (by decide) (.slice va ts.length vc) ts.length (ts.map Value.string) rfl ((HH.out.gat.grow bw2).2.1.alloc _) ⟨w2.heap.size, 0, none⟩ 1 1 [.string t] rfl rfl (World.news_of_block (heap_alloc_new w2 _)) (by intro u hu; simp at hu; subst hu; rfl) (by unfold maxLen; omega) (by omega) (by have := bw2.size; simp; omega) ?_
          intro v' w4 hown hgrow hat
          have hnx := HH.out.next (x := x) (t := t) (bw2.trans ((below_box w2 _).mono bw2.size)) hgrow hown hat HT.out.1 HT.out.2
          have HN := hid_of hnx
          have n4 : w4.heap[w1.heap.size]? = some (.cells #[.slice va ts.length vc] 29 (0, 0)) := by
            have z2 := bw2.size
            rw [hgrow.block _ (by simp; omega) (fun e => HH.out.gat.2.2 e.symm)]
            exact ((bw2.trans ((below_box w2 _).mono bw2.size)).block _ hlN).trans HH.out.gat.1
          have g1 := (box_at n4 0 (by simp)).1
          have g1f := (box_at n4 0 (by simp)).2
          simp only [List.getElem_toArray, List.getElem_cons_zero] at g1
          obtain ⟨a4, m4, c4, rfl⟩ : ∃ a n c, v' = .slice a n c := by
            rcases hown.2 with ⟨hv, _⟩ | ⟨g, cap, cur, hv, _⟩
            · exact ⟨_, _, _, hv⟩
            · exact ⟨_, _, _, hv⟩
          clear hnx hown hgrow hat
          try simp only [Act.put, List.setIfInBounds_toArray, List.set_cons_zero, List.set_cons_succ]
          refine anyIn_go [5] (by kernel_rfl) (by simp) ?_
          intro i hi
          simp only [List.mem_cons, List.not_mem_nil, or_false] at hi
          subst hi
          refine ⟨_, rfl, rfl, ?_⟩
          generalize hK : wpAnyIn _ _ _ _ _ _ _ _ = K
          have HK := hid_of hK
          clear hK
          gi_wp2
          rw [← HK.out]
          refine anyIn_done (by kernel_rfl) ?_
          exact ⟨HN.out.2.from _, Or.inl ⟨rfl, Or.inl ⟨rfl, HN.out.1⟩⟩⟩
  case done =>
    rintro D O W hD ⟨ts, wv, g⟩ hK
    have c0 := (box_at g.gat.1 0 (by simp)).1
    simp only [List.getElem_toArray, List.getElem_cons_zero] at c0
    have hpn : ts.length = XS.length := by have := congrArg List.length g.texts; simpa using this
    obtain ⟨va, vc, rfl, -⟩ := g.gat.strs (fun t ht => by have := g.sizes t ht; unfold maxLen; omega) (by omega)
    have HG := hid_of g
    have HN := hid_of hpn
    have hDN : w1.heap.size ≤ D := by omega
    clear g hpn
    gi_wp2
    refine ⟨by simp, .inl ⟨_, _, rfl, run_takeDeferred hK, ?_⟩⟩
    refine ⟨_, results_tmp rfl _ _ _, ts, _, rfl, ?_, ?_, HG.out.sizes, by rw [HN.out]; exact hX24, hb1.trans ((HG.out.bel.mono hb1.size).trans (below_putObj _ _ (by have := hb1.size; omega)))⟩
    · have := (HG.out.gat.still (o' := .deferred none) hK rfl).2.1
      exact owns_low this hb1.size
    · rw [HE.out, HG.out.texts, HXS.out]
  case stop => exact fun D W _ h _ => h.elim
end Go.Proofs.YtokmgbidmnanpaaGreatDoor
namespace Go.Proofs.YtokmgbidmnanpaaGreatDoor
open Go.RowKit Go.Shelf Go.Maps
end Go.Proofs.YtokmgbidmnanpaaGreatDoor
