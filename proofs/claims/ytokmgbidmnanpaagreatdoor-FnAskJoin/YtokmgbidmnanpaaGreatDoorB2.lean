import Derived.Test.YtokmgbidmnanpaaGreatDoorB1
import Derived.BigRegion
import Derived.Deep.RegionWith
import Derived.Deep.AppendLies
import Derived.Deep.RegionLaw
import Derived.Maps.AppendAt
import Derived.RangeFuncNested
import Derived.RangeFuncBound
import Derived.RangeFuncCalls
import Derived.RangeFuncLeaves
import Derived.Shelf.Abstract
import Derived.Shelf.RegionOpen
import Derived.OwnWalkIn
import Derived.TacticsInMore
import Derived.LoopNIn
import Derived.LoopIn
import Derived.Laws.AppendOwnNone
import Derived.Laws.EntriesVeiled
set_option linter.unusedSimpArgs false
set_option linter.unusedVariables false
namespace Go.Proofs.YtokmgbidmnanpaaGreatDoor
open Go.RowKit
end Go.Proofs.YtokmgbidmnanpaaGreatDoor
namespace Go.Proofs.YtokmgbidmnanpaaGreatDoor
open Go.RowKit
end Go.Proofs.YtokmgbidmnanpaaGreatDoor
namespace Go.Proofs.YtokmgbidmnanpaaGreatDoor
open Go.RowKit
def isT (s : ByteArray) (l : List UInt8) : Bool := s.toList == l
def scalarB (s : ByteArray) : Bool := isT s [105, 110, 116] || isT s [116, 101, 120, 116] || isT s [98, 111, 111, 108]
set_option maxHeartbeats 400000 in
theorem l2Scalar_any (s : ByteArray) (w : World) :
    Calls Tryz.prog 109 #[.string s] w fun e w' => e = .returned (.bool (scalarB s)) ∧ w = w' := by
  cases h1 : (s.toList == [105, 110, 116]) <;> cases h2 : (s.toList == [116, 101, 120, 116]) <;>
  · go_enter Tryz.func109, Tryz.ntmps109
    go_wp2
    go_ret
    exact ⟨ret_bool (by simp only [scalarB, isT, h1, h2]; rfl), rfl⟩
def nameB (s : ByteArray) : Bool := wordB s && decide (s.size ≤ 8) && !(byteAt s 0 == 95) && !scalarB s && !isT s [112, 97, 114, 116] && !isT s [116, 121, 112, 101] && !isT s [107, 101, 121] && !isT s [102, 97, 114] && !isT s [104, 105, 100, 100, 101, 110] && !isT s [115, 104, 97, 114, 101, 100] && !isT s [110, 101, 101, 100, 115]
set_option maxHeartbeats 1600000 in
theorem l2Name_any (s : ByteArray) (w : World) (hs : s.size ≤ maxLen) :
    Calls Tryz.prog 77 #[.string s] w fun e w' => e = .returned (.bool (nameB s)) ∧ w = w' := by
  cases hw : wordB s
  · go_enter Tryz.func77, Tryz.ntmps77
    go_wp2_with (first | (go_at_call 119; refine (l1Name_any _ _ hs).mono ?_; rintro e w' ⟨rfl, rfl⟩) | (go_at_call 109; refine (l2Scalar_any _ _).mono ?_; rintro e w' ⟨rfl, rfl⟩))
    go_ret
    exact ⟨ret_bool (by simp [nameB, isT, hw]), rfl⟩
  have h1 : 0 < s.size := by
    rw [wordB] at hw; simp only [Bool.and_eq_true, decide_eq_true_eq] at hw; omega
  have hb0 := byteAt_get s 0 h1
  by_cases h8 : s.size ≤ 8
  case neg =>
    have h8' : ¬ (s.size : Int) ≤ 8 := by omega
    go_enter Tryz.func77, Tryz.ntmps77
    go_wp2_with (first | (go_at_call 119; refine (l1Name_any _ _ hs).mono ?_; rintro e w' ⟨rfl, rfl⟩) | (go_at_call 109; refine (l2Scalar_any _ _).mono ?_; rintro e w' ⟨rfl, rfl⟩))
    go_ret
    exact ⟨ret_bool (by simp [nameB]; omega), rfl⟩
  have H8 : Hid (decide (s.size ≤ 8) = true) := by show _ = _; simpa using h8
  cases hu : (byteAt s 0 == 95)
  case true =>
    have hu' : (byteAt s 0 != 95) = false := by simp only [bne, hu]; rfl
    go_enter Tryz.func77, Tryz.ntmps77
    go_wp2_with (first | (go_at_call 119; refine (l1Name_any _ _ hs).mono ?_; rintro e w' ⟨rfl, rfl⟩) | (go_at_call 109; refine (l2Scalar_any _ _).mono ?_; rintro e w' ⟨rfl, rfl⟩))
    go_ret
    exact ⟨ret_bool (by simp only [nameB, hu]; simp), rfl⟩
  have hu' : (byteAt s 0 != 95) = true := by simp only [bne, hu]; rfl
  cases hc : scalarB s
  case true =>
    go_enter Tryz.func77, Tryz.ntmps77
    go_wp2_with (first | (go_at_call 119; refine (l1Name_any _ _ hs).mono ?_; rintro e w' ⟨rfl, rfl⟩) | (go_at_call 109; refine (l2Scalar_any _ _).mono ?_; rintro e w' ⟨rfl, rfl⟩))
    go_ret
    exact ⟨ret_bool (by simp only [nameB, hc]; simp), rfl⟩
  cases k0 : (s.toList == [112, 97, 114, 116])
  case true =>
    go_enter Tryz.func77, Tryz.ntmps77
    go_wp2_with (first | (go_at_call 119; refine (l1Name_any _ _ hs).mono ?_; rintro e w' ⟨rfl, rfl⟩) | (go_at_call 109; refine (l2Scalar_any _ _).mono ?_; rintro e w' ⟨rfl, rfl⟩))
    go_ret
    exact ⟨ret_bool (by simp only [nameB, isT, k0]; simp), rfl⟩
  cases k1 : (s.toList == [116, 121, 112, 101])
  case true =>
    go_enter Tryz.func77, Tryz.ntmps77
    go_wp2_with (first | (go_at_call 119; refine (l1Name_any _ _ hs).mono ?_; rintro e w' ⟨rfl, rfl⟩) | (go_at_call 109; refine (l2Scalar_any _ _).mono ?_; rintro e w' ⟨rfl, rfl⟩))
    go_ret
    exact ⟨ret_bool (by simp only [nameB, isT, k1]; simp), rfl⟩
  cases k2 : (s.toList == [107, 101, 121])
  case true =>
    go_enter Tryz.func77, Tryz.ntmps77
    go_wp2_with (first | (go_at_call 119; refine (l1Name_any _ _ hs).mono ?_; rintro e w' ⟨rfl, rfl⟩) | (go_at_call 109; refine (l2Scalar_any _ _).mono ?_; rintro e w' ⟨rfl, rfl⟩))
    go_ret
    exact ⟨ret_bool (by simp only [nameB, isT, k2]; simp), rfl⟩
  cases k3 : (s.toList == [102, 97, 114])
  case true =>
    go_enter Tryz.func77, Tryz.ntmps77
    go_wp2_with (first | (go_at_call 119; refine (l1Name_any _ _ hs).mono ?_; rintro e w' ⟨rfl, rfl⟩) | (go_at_call 109; refine (l2Scalar_any _ _).mono ?_; rintro e w' ⟨rfl, rfl⟩))
    go_ret
    exact ⟨ret_bool (by simp only [nameB, isT, k3]; simp), rfl⟩
  cases k4 : (s.toList == [104, 105, 100, 100, 101, 110])
  case true =>
    go_enter Tryz.func77, Tryz.ntmps77
    go_wp2_with (first | (go_at_call 119; refine (l1Name_any _ _ hs).mono ?_; rintro e w' ⟨rfl, rfl⟩) | (go_at_call 109; refine (l2Scalar_any _ _).mono ?_; rintro e w' ⟨rfl, rfl⟩))
    go_ret
    exact ⟨ret_bool (by simp only [nameB, isT, k4]; simp), rfl⟩
  cases k5 : (s.toList == [115, 104, 97, 114, 101, 100])
  case true =>
    go_enter Tryz.func77, Tryz.ntmps77
    go_wp2_with (first | (go_at_call 119; refine (l1Name_any _ _ hs).mono ?_; rintro e w' ⟨rfl, rfl⟩) | (go_at_call 109; refine (l2Scalar_any _ _).mono ?_; rintro e w' ⟨rfl, rfl⟩))
    go_ret
    exact ⟨ret_bool (by simp only [nameB, isT, k5]; simp), rfl⟩
  go_enter Tryz.func77, Tryz.ntmps77
  go_wp2_with (first | (go_at_call 119; refine (l1Name_any _ _ hs).mono ?_; rintro e w' ⟨rfl, rfl⟩) | (go_at_call 109; refine (l2Scalar_any _ _).mono ?_; rintro e w' ⟨rfl, rfl⟩))
  go_ret
  exact ⟨ret_bool (by simp only [nameB, isT, hw, H8.out, hu, hc, k0, k1, k2, k3, k4, k5]; simp), rfl⟩
end Go.Proofs.YtokmgbidmnanpaaGreatDoor
namespace Go.Proofs.YtokmgbidmnanpaaGreatDoor
open Go.RowKit Go.Maps
abbrev Sh := Nat → Option (TypeId × Nat)
structure Bd where
  nt : Nat
  nf : Nat
  nn : Nat
  st : Bool
def Bd.le (a b : Bd) : Prop := a.nt ≤ b.nt ∧ a.nf ≤ b.nf ∧ a.nn ≤ b.nn ∧ (b.st = true → a.st = true)
theorem Bd.le.refl (a : Bd) : a.le a := ⟨Nat.le_refl _, Nat.le_refl _, Nat.le_refl _, id⟩
theorem Bd.le.trans {a b c : Bd} (h : a.le b) (k : b.le c) : a.le c := ⟨Nat.le_trans h.1 k.1, Nat.le_trans h.2.1 k.2.1, Nat.le_trans h.2.2.1 k.2.2.1, fun x => h.2.2.2 (k.2.2.2 x)⟩
def wide (T : TypeId) : Nat := if T = 54 then 8 else if T = 52 then 3 else 1
theorem wide_pos (T : TypeId) : 0 < wide T := by
  unfold wide
  split
  · omega
  · split <;> omega
theorem wideF : wide 54 = 8 := rfl
theorem wideT : wide 52 = 3 := rfl
theorem wideS : wide 9 = 1 := rfl
def SlOk (σ : Sh) (T : TypeId) (N : Nat) (v : Value) : Prop := ∃ (a : Option Addr) (len cap : Nat), v = .slice a len cap ∧ len ≤ N ∧ len ≤ cap ∧ cap ≤ maxLen ∧ ((a = none ∧ len = 0 ∧ cap = 0) ∨ ∃ b, a = some ⟨b, 0, none⟩ ∧ σ b = some (T, cap))
def StOk (v : Value) : Prop := ∃ s : ByteArray, v = .string s ∧ s.size ≤ 12
def NmOk (st : Bool) (v : Value) : Prop := ∃ s : ByteArray, v = .string s ∧ s.size ≤ 12 ∧ (st = true → scalarB s = false)
def BoOk (v : Value) : Prop := ∃ b : Bool, v = .bool b
def CellOk (σ : Sh) (B : Bd) (T : TypeId) (j : Nat) (v : Value) : Prop :=
  if T = 54 then (if j < 2 then StOk v else if j < 7 then BoOk v else SlOk σ 9 B.nn v)
  else if T = 52 then (if j = 0 then NmOk B.st v else if j = 1 then StOk v else SlOk σ 54 B.nf v)
  else StOk v
def Wf (w : World) (σ : Sh) (B : Bd) : Prop := ∀ b T n, σ b = some (T, n) → ∃ cur : Array Value, w.heap[b]? = some (.cells cur T (0, 0)) ∧ cur.size = n * wide T ∧ ∀ k v, cur[k]? = some v → CellOk σ B T (k % wide T) v
def Ext (σ σ' : Sh) : Prop := ∀ b T n, σ b = some (T, n) → σ' b = some (T, n)
theorem Ext.refl (σ : Sh) : Ext σ σ := fun _ _ _ h => h
theorem Ext.trans {a b c : Sh} (h : Ext a b) (k : Ext b c) : Ext a c := fun x T n q => k x T n (h x T n q)
def Sh.add (σ : Sh) (N : Nat) (T : TypeId) (n : Nat) : Sh := fun b => if b = N then some (T, n) else σ b
theorem Sh.add_ext {σ : Sh} {N n : Nat} {T : TypeId} (h : σ N = none) : Ext σ (σ.add N T n) := fun b T' n' hb => by
  unfold Sh.add
  by_cases e : b = N
  · subst e; rw [h] at hb; cases hb
  · rw [if_neg e, hb]
theorem Sh.add_self (σ : Sh) (N : Nat) (T : TypeId) (n : Nat) : σ.add N T n N = some (T, n) := if_pos rfl
theorem Sh.add_ne (σ : Sh) (N : Nat) (T : TypeId) (n b : Nat) (h : b ≠ N) : σ.add N T n b = σ b := if_neg h
theorem SlOk.ext {σ σ' : Sh} {T : TypeId} {N N' : Nat} {v : Value} (h : SlOk σ T N v) (he : Ext σ σ') (hN : N ≤ N') : SlOk σ' T N' v := by
  obtain ⟨a, len, cap, rfl, h1, h2, h3, h4⟩ := h
  exact ⟨a, len, cap, rfl, by omega, h2, h3, h4.imp id fun ⟨b, hb, hs⟩ => ⟨b, hb, he _ _ _ hs⟩⟩
theorem CellOk.ext {σ σ' : Sh} {B B' : Bd} {T : TypeId} {j : Nat} {v : Value} (h : CellOk σ B T j v) (he : Ext σ σ') (hB : B.le B') : CellOk σ' B' T j v := by
  unfold CellOk at h ⊢
  obtain ⟨h1, h2, h3, h4⟩ := hB
  split
  · rename_i e; rw [if_pos e] at h
    split
    · rename_i e; rw [if_pos e] at h; exact h
    · rename_i e; rw [if_neg e] at h
      split
      · rename_i e; rw [if_pos e] at h; exact h
      · rename_i e; rw [if_neg e] at h; exact h.ext he h3
  · rename_i e; rw [if_neg e] at h
    split
    · rename_i e; rw [if_pos e] at h
      split
      · rename_i e; rw [if_pos e] at h
        obtain ⟨s, rfl, q1, q2⟩ := h
        exact ⟨s, rfl, q1, fun x => q2 (h4 x)⟩
      · rename_i e; rw [if_neg e] at h
        split
        · rename_i e; rw [if_pos e] at h; exact h
        · rename_i e; rw [if_neg e] at h; exact h.ext he h2
    · rename_i e; rw [if_neg e] at h; exact h
theorem Wf.le {w : World} {σ : Sh} {B B' : Bd} (h : Wf w σ B) (hB : B.le B') : Wf w σ B' := fun b T n hb => by
  obtain ⟨cur, h1, h2, h3⟩ := h b T n hb
  exact ⟨cur, h1, h2, fun k v hv => (h3 k v hv).ext (Ext.refl _) hB⟩
theorem Wf.keep {w w' : World} {σ : Sh} {B : Bd} (h : Wf w σ B) (hb : ∀ b T n, σ b = some (T, n) → w'.heap[b]? = w.heap[b]?) : Wf w' σ B := fun b T n hs => by
  obtain ⟨cur, h1, h2⟩ := h b T n hs
  exact ⟨cur, (hb b T n hs).trans h1, h2⟩
theorem Wf.lt {w : World} {σ : Sh} {B : Bd} (h : Wf w σ B) {b : Nat} {T : TypeId} {n : Nat} (hs : σ b = some (T, n)) : b < w.heap.size := by
  obtain ⟨cur, h1, -⟩ := h b T n hs
  exact (Array.getElem?_eq_some_iff.1 h1).1
theorem Wf.fresh {w : World} {σ : Sh} {B : Bd} (h : Wf w σ B) {b : Nat} (hb : w.heap.size ≤ b) : σ b = none := by
  cases e : σ b with
  | none => rfl
  | some x => obtain ⟨T, n⟩ := x; have := h.lt e; omega
theorem Wf.below {w w' : World} {σ : Sh} {B : Bd} (h : Wf w σ B) (hb : Below w.heap.size w w') : Wf w' σ B := h.keep fun b T n hs => hb.block b (h.lt hs)
theorem Wf.nil (w : World) (B : Bd) : Wf w (fun _ => none) B := fun _ _ _ h => by cases h
theorem Wf.cell {w : World} {σ : Sh} {B : Bd} (h : Wf w σ B) {b : Nat} {T : TypeId} {n : Nat} (hs : σ b = some (T, n)) (i j : Nat) (hi : i < n) (hj : j < wide T) : ∃ v, w.cell? ⟨b, i * wide T + j, none⟩ = some v ∧ CellOk σ B T j v ∧ w.frozen? ⟨b, i * wide T + j, none⟩ = false := by
  obtain ⟨cur, h1, h2, h3⟩ := h b T n hs
  have hlt : i * wide T + j < cur.size := by
    rw [h2]
    calc i * wide T + j < i * wide T + wide T := by omega
      _ = (i + 1) * wide T := by rw [Nat.add_mul, Nat.one_mul]
      _ ≤ n * wide T := Nat.mul_le_mul_right _ hi
  refine ⟨cur[i * wide T + j], ?_, ?_, ?_⟩
  · rw [cell_of_row w b _ cur T (0, 0) h1, Array.getElem?_eq_getElem hlt]
  · have := h3 _ _ (Array.getElem?_eq_getElem hlt)
    have e : (i * wide T + j) % wide T = j := by rw [Nat.mul_comm i, Nat.mul_add_mod, Nat.mod_eq_of_lt hj]
    rw [e] at this
    exact this
  · simp [World.frozen?, h1]
theorem Wf.add {w : World} {σ : Sh} {B : Bd} (h : Wf w σ B) {N : Nat} {T : TypeId} {n : Nat} {cur : Array Value} (hN : σ N = none) (hb : w.heap[N]? = some (.cells cur T (0, 0))) (hz : cur.size = n * wide T) (hc : ∀ k v, cur[k]? = some v → CellOk σ B T (k % wide T) v) : Wf w (σ.add N T n) B := by
  have he := Sh.add_ext (T := T) (n := n) hN
  intro b T' n' hs
  by_cases e : b = N
  · subst e
    rw [Sh.add_self] at hs
    cases hs
    exact ⟨cur, hb, hz, fun k v hv => (hc k v hv).ext he (Bd.le.refl _)⟩
  · rw [Sh.add_ne _ _ _ _ _ e] at hs
    obtain ⟨cur', h1, h2, h3⟩ := h b T' n' hs
    exact ⟨cur', h1, h2, fun k v hv => (h3 k v hv).ext he (Bd.le.refl _)⟩
theorem Wf.row {w w' : World} {σ : Sh} {B : Bd} (h : Wf w σ B) {N : Nat} {T : TypeId} {n : Nat} {cur : Array Value} (hN : σ N = some (T, n)) (hb : w'.heap[N]? = some (.cells cur T (0, 0))) (hz : cur.size = n * wide T) (hc : ∀ k v, cur[k]? = some v → CellOk σ B T (k % wide T) v) (hr : ∀ b, b ≠ N → b < w.heap.size → w'.heap[b]? = w.heap[b]?) : Wf w' σ B := by
  intro b T' n' hs
  by_cases e : b = N
  · subst e
    rw [hN] at hs
    cases hs
    exact ⟨cur, hb, hz, hc⟩
  · obtain ⟨cur', h1, h2⟩ := h b T' n' hs
    exact ⟨cur', (hr b e (h.lt hs)).trans h1, h2⟩
theorem Wf.set {w : World} {σ : Sh} {B : Bd} (h : Wf w σ B) {N : Nat} {T : TypeId} {n : Nat} (hN : σ N = some (T, n)) (k : Nat) (v : Value) (hv : CellOk σ B T (k % wide T) v) : Wf (w.setCell ⟨N, k, none⟩ v) σ B := by
  obtain ⟨cur, h1, h2, h3⟩ := h N T n hN
  refine h.row hN (cur := cur.setIfInBounds k v) ?_ (by simpa using h2) (fun j u hu => ?_) (fun b hb _ => Below.heap_setCell _ _ _ _ hb)
  · show (w.heap.modify N _)[N]? = _
    rw [Array.getElem?_modify]
    simp [h1]
  · by_cases e : j = k
    · subst e
      rw [Array.getElem?_setIfInBounds_self] at hu
      split at hu
      · cases hu; exact hv
      · cases hu
    · rw [Array.getElem?_setIfInBounds_ne (Ne.symm e)] at hu
      exact h3 j u hu
theorem run_append_wf {P : Program} {w : World} {σ : Sh} {B : Bd} (hW : Wf w σ B) (t ty e : TypeId) (i : TypeInfo) (z : Value) (bytes : Nat) (ht : P.underlying t = some (.slice e)) (hi : P.info? e = some i) (hz : i.zero = some z)
    (hsize : i.size = wide e) (hby : i.bytes = bytes) (hzs : z.cells.size = wide e) (hzc : ∀ j u, z.cells[j]? = some u → CellOk σ B e j u)
    (a : Option Addr) (n cap : Nat) (hnc : n ≤ cap) (hcm : cap ≤ maxLen) (hs : (a = none ∧ n = 0 ∧ cap = 0) ∨ ∃ b, a = some ⟨b, 0, none⟩ ∧ σ b = some (e, cap))
    (ad : Addr) (m c : Nat) (news : List Value) (hl : news.length = m * wide e) (hnews : ∀ j u, news[j]? = some u → w.cell? (ad.add j) = some u) (h1 : ∀ u ∈ news, u.oneCell' = true) (hok : ∀ j u, news[j]? = some u → CellOk σ B e (j % wide e) u)
    (hm : 0 < m) (h63 : n + m ≤ maxLen) (hbytes : (n + m) * bytes ≤ 140737488355328) :
    ∃ g cap' w' σ', (Builtin.append_ #[t, t] ty #[.slice a n cap, .slice (some ad) m c]).run P w = .ok (.slice (some ⟨g, 0, none⟩) (n + m) cap') w' ∧ Wf w' σ' B ∧ σ' g = some (e, cap') ∧ n + m ≤ cap' ∧ cap' ≤ maxLen ∧ Ext σ σ' ∧ (∀ b, b < w.heap.size → σ' b = σ b) ∧
      w.grownBy w' (Value.slice a n cap).ownBlock ∧ (∀ b, a = some ⟨b, 0, none⟩ → ∀ j, j < n * wide e → w'.cell? ⟨g, j, none⟩ = w.cell? ⟨b, j, none⟩) ∧ (∀ j u, news[j]? = some u → w'.cell? ⟨g, n * wide e + j, none⟩ = some u) := by
  have hpos := wide_pos e
  subst hby
  have hsmall : n + m ≤ 9223372036854775807 := by simp only [maxLen] at h63; omega
  have zc : ∀ q k v, (Builtin.zeroCells z.cells q)[k]? = some v → CellOk σ B e (k % wide e) v := by
    intro q k v hv
    have hk : k < q * wide e := by
      have := (Array.getElem?_eq_some_iff.1 hv).1
      rw [size_zeroCells, hzs] at this
      exact this
    refine hzc (k % wide e) v ?_
    unfold Builtin.zeroCells at hv
    rw [← hv]
    have hkm : k % wide e < z.cells.size := by rw [hzs]; exact Nat.mod_lt _ hpos
    simp [hzs, hk, hkm, Nat.mod_lt _ hpos]
  have grown : ∀ (old : Nat) (xs : List Value), xs.length = n * wide e → (∀ j u, xs[j]? = some u → CellOk σ B e (j % wide e) u) → ∀ (row : Option Nat),
      Wf (w.drew.alloc (.cells (xs.toArray ++ news.toArray ++ Builtin.zeroCells z.cells (grownCap w (n + m) old e - (n + m))) e)) (σ.add w.heap.size e (grownCap w (n + m) old e)) B ∧ n + m ≤ grownCap w (n + m) old e ∧ grownCap w (n + m) old e ≤ maxLen ∧
      w.grownBy (w.drew.alloc (.cells (xs.toArray ++ news.toArray ++ Builtin.zeroCells z.cells (grownCap w (n + m) old e - (n + m))) e)) row ∧
      (∀ j u, xs[j]? = some u → (w.drew.alloc (.cells (xs.toArray ++ news.toArray ++ Builtin.zeroCells z.cells (grownCap w (n + m) old e - (n + m))) e)).cell? ⟨w.heap.size, j, none⟩ = some u) ∧
      (∀ j u, news[j]? = some u → (w.drew.alloc (.cells (xs.toArray ++ news.toArray ++ Builtin.zeroCells z.cells (grownCap w (n + m) old e - (n + m))) e)).cell? ⟨w.heap.size, n * wide e + j, none⟩ = some u) := by
    intro old xs hx hxo row
    have hge := grownCap_ge w (n + m) old e
    have hcm : grownCap w (n + m) old e ≤ maxLen := grownCap_le_maxLen w (n + m) old e h63
    generalize grownCap w (n + m) old e = q at *
    have hblk : (w.drew.alloc (.cells (xs.toArray ++ news.toArray ++ Builtin.zeroCells z.cells (q - (n + m))) e)).heap[w.heap.size]? = some (.cells (xs.toArray ++ news.toArray ++ Builtin.zeroCells z.cells (q - (n + m))) e (0, 0)) := heap_alloc_new w.drew _
    have hgr : ∀ row, w.grownBy (w.drew.alloc (.cells (xs.toArray ++ news.toArray ++ Builtin.zeroCells z.cells (q - (n + m))) e)) row := fun row => ⟨rfl, rfl, rfl, by simp, fun k hk _ => (World.grownBy_alloc w.drew _ none).block k hk (by simp)⟩
    have hWn : Wf (w.drew.alloc (.cells (xs.toArray ++ news.toArray ++ Builtin.zeroCells z.cells (q - (n + m))) e)) σ B := hW.keep fun b T n' hb => (hgr none).block b (hW.lt hb) (by simp)
    refine ⟨hWn.add (hW.fresh (Nat.le_refl _)) hblk ?_ ?_, hge, hcm, hgr row, fun j u hu => ?_, fun j u hu => ?_⟩
    · simp only [Array.size_append, List.size_toArray, size_zeroCells, hzs, hx, hl, ← Nat.add_mul]
      congr 1
      omega
    · intro k v hv
      rw [Array.getElem?_append, Array.getElem?_append] at hv
      simp only [Array.size_append, List.size_toArray, hx, hl] at hv
      split at hv
      · split at hv
        · exact hxo k v (by simpa using hv)
        · rename_i e1 e2
          have h2 := hok (k - n * wide e) v (by simpa using hv)
          have e3 : (k - n * wide e) % wide e = k % wide e := by
            obtain ⟨d, rfl⟩ : ∃ d, k = n * wide e + d := ⟨k - n * wide e, by omega⟩
            rw [Nat.add_sub_cancel_left, Nat.mul_comm n, Nat.mul_add_mod]
          rwa [e3] at h2
      · rename_i e1
        have h2 := zc _ (k - (n * wide e + m * wide e)) v hv
        have e3 : (k - (n * wide e + m * wide e)) % wide e = k % wide e := by
          rw [← Nat.add_mul] at e1 ⊢
          obtain ⟨d, rfl⟩ : ∃ d, k = (n + m) * wide e + d := ⟨k - (n + m) * wide e, by omega⟩
          rw [Nat.add_sub_cancel_left, Nat.mul_comm (n + m), Nat.mul_add_mod]
        rwa [e3] at h2
    · rw [cell_of_row _ _ _ _ _ _ hblk]
      have hj := (List.getElem?_eq_some_iff.1 hu).1
      rw [Array.getElem?_append, if_pos (by simp; omega), Array.getElem?_append, if_pos (by simpa using hj)]
      simpa using hu
    · rw [cell_of_row _ _ _ _ _ _ hblk]
      have hj := (List.getElem?_eq_some_iff.1 hu).1
      rw [Array.getElem?_append, if_pos (by simp [hx]; omega), Array.getElem?_append, if_neg (by simp [hx])]
      simpa [hx] using hu
  have hgext : ∀ q, Ext σ (σ.add w.heap.size e q) ∧ ∀ b, b < w.heap.size → (σ.add w.heap.size e q) b = σ b := fun q => ⟨Sh.add_ext (hW.fresh (Nat.le_refl _)), fun b hb => Sh.add_ne _ _ _ _ _ (by omega)⟩
  rcases hs with ⟨rfl, rfl, rfl⟩ | ⟨g, rfl, hg⟩
  · have hr := run_append_nil (P := P) w t ty e i z ht hi hz ad m c news (by rw [hsize]; exact hl) hnews (by omega) (by omega) (by have hb := hbytes; simp only [Nat.zero_add] at hb; omega)
    obtain ⟨g1, g2, g3, g4, -, g6⟩ := grown 0 [] (by simp) (fun j u hu => by simp at hu) none
    simp only [Nat.zero_add, List.nil_append, Array.empty_append] at g1 g2 g3 g4 g6 ⊢
    exact ⟨w.heap.size, _, _, _, hr, g1, Sh.add_self _ _ _ _, g2, g3, (hgext _).1, (hgext _).2, g4, (fun b hb => by cases hb), g6⟩
  · obtain ⟨cur, hb, hcs, hco⟩ := hW g e cap hg
    have hlen : (cur.toList.take (n * wide e)).length = n * wide e := by
      rw [List.length_take, Array.length_toList, hcs]
      exact Nat.min_eq_left (Nat.mul_le_mul_right _ hnc)
    have hxo : ∀ j u, (cur.toList.take (n * wide e))[j]? = some u → CellOk σ B e (j % wide e) u := fun j u hu => by
      rw [List.getElem?_take] at hu
      split at hu
      · exact hco j u (by simpa using hu)
      · cases hu
    have hxc : ∀ j, j < n * wide e → (cur.toList.take (n * wide e))[j]? = cur[j]? := fun j hj => by
      rw [List.getElem?_take, if_pos hj]; simp
    by_cases hroom : n + m ≤ cap
    · have hfit : n * i.size + news.length ≤ cur.size := by rw [hl, hcs, hsize, ← Nat.add_mul]; exact Nat.mul_le_mul_right _ hroom
      have hr := run_append_room (P := P) w t ty e i ht hi g n cap cur hb ad m c news (by rw [hsize]; exact hl) hnews h1 hroom hfit
      rw [hsize] at hr hfit
      have hb' := setRow_heap w g cur (cur.toList.take (n * wide e) ++ news ++ cur.toList.drop (n * wide e + news.length)).toArray e _ hb
      refine ⟨g, cap, _, σ, hr, ?_, hg, hroom, hcm, Ext.refl _, fun _ _ => rfl, ⟨rfl, rfl, rfl, by simp, fun k _ hk => setRow_other w g k _ (fun e => hk (by simp [Value.ownBlock, e]))⟩, fun b hbe j hj => ?_, fun j u hu => ?_⟩
      · refine hW.row hg hb' ?_ ?_ (fun b hb _ => setRow_other w g b _ hb)
        · simp only [List.size_toArray, List.length_append, hlen, List.length_drop, Array.length_toList]
          omega
        · intro k v hv
          simp only [List.getElem?_toArray] at hv
          rw [List.append_assoc, List.getElem?_append] at hv
          split at hv
          · exact hxo k v hv
          · rename_i e1
            rw [hlen] at e1 hv
            rw [List.getElem?_append] at hv
            split at hv
            · have h2 := hok _ v hv
              have e3 : (k - n * wide e) % wide e = k % wide e := by
                obtain ⟨d, rfl⟩ : ∃ d, k = n * wide e + d := ⟨k - n * wide e, by omega⟩
                rw [Nat.add_sub_cancel_left, Nat.mul_comm n, Nat.mul_add_mod]
              rwa [e3] at h2
            · rename_i e2
              rw [List.getElem?_drop] at hv
              have e4 : n * wide e + news.length + (k - n * wide e - news.length) = k := by omega
              rw [e4] at hv
              exact hco k v (by simpa using hv)
      · cases hbe
        rw [cell_of_row _ _ _ _ _ _ hb', cell_of_row _ _ _ _ _ _ hb]
        simp only [List.getElem?_toArray]
        rw [List.append_assoc, List.getElem?_append, if_pos (by rw [hlen]; exact hj), hxc j hj]
      · rw [cell_of_row _ _ _ _ _ _ hb']
        simp only [List.getElem?_toArray]
        have hj := (List.getElem?_eq_some_iff.1 hu).1
        rw [List.append_assoc, List.getElem?_append, if_neg (by rw [hlen]; omega), hlen, Nat.add_sub_cancel_left, List.getElem?_append, if_pos hj, hu]
    · have holds : ∀ j u, (cur.toList.take (n * wide e))[j]? = some u → w.cell? ((⟨g, 0, none⟩ : Addr).add j) = some u := fun j u hu => by
        rw [Addr.add_lit, Nat.zero_add, cell_of_row _ _ _ _ _ _ hb]
        have hj := (List.getElem?_eq_some_iff.1 hu).1
        rw [hlen] at hj
        rw [← hu, hxc j hj]
      have hr := run_append_grow (P := P) w t ty e i z ht hi hz ⟨g, 0, none⟩ n cap _ (by rw [hsize]; exact hlen) holds ad m c news (by rw [hsize]; exact hl) hnews (by omega) (by omega) (growslice_fits (by omega) hbytes)
      obtain ⟨g1, g2, g3, g4, g5, g6⟩ := grown cap _ hlen hxo (Value.ownBlock (.slice (some ⟨g, 0, none⟩) n cap))
      refine ⟨w.heap.size, _, _, _, hr, g1, Sh.add_self _ _ _ _, g2, g3, (hgext _).1, (hgext _).2, g4, fun b hbe j hj => ?_, g6⟩
      cases hbe
      have hj2 : j < cur.size := by
        rw [hcs]
        exact Nat.lt_of_lt_of_le hj (Nat.mul_le_mul_right _ hnc)
      rw [cell_of_row _ _ _ _ _ _ hb, Array.getElem?_eq_getElem hj2]
      exact g5 j _ (by rw [hxc j hj, Array.getElem?_eq_getElem hj2])
theorem wpList_append_wf {P : Program} {w : World} {σ : Sh} {B : Bd} (hW : Wf w σ B) {ops : Array Oper} {rest : List Oper} {o : Oper} {ac : Act} {Q : Exit → Act → World → Prop} (hgd : o.guard = none) (s x : Operand) (t : TypeId)
    (ho : o.op = .call { callee := .builtin .append, args := #[s, x], argTypes := #[t, t] })
    (e : TypeId) (i : TypeInfo) (z : Value) (bytes : Nat) (ht : P.underlying t = some (.slice e)) (hi : P.info? e = some i) (hz : i.zero = some z)
    (hsize : i.size = wide e) (hby : i.bytes = bytes) (hzs : z.cells.size = wide e) (hzc : ∀ j u, z.cells[j]? = some u → CellOk σ B e j u)
    (a : Option Addr) (n cap : Nat) (hsv : ac.eval s = .slice a n cap) (hnc : n ≤ cap) (hcm : cap ≤ maxLen) (hs : (a = none ∧ n = 0 ∧ cap = 0) ∨ ∃ b, a = some ⟨b, 0, none⟩ ∧ σ b = some (e, cap))
    (ad : Addr) (m c : Nat) (news : List Value) (hx : ac.eval x = .slice (some ad) m c) (hl : news.length = m * wide e) (hnews : ∀ j u, news[j]? = some u → w.cell? (ad.add j) = some u) (h1 : ∀ u ∈ news, u.oneCell' = true) (hok : ∀ j u, news[j]? = some u → CellOk σ B e (j % wide e) u)
    (hm : 0 < m) (h63 : n + m ≤ maxLen) (hbytes : (n + m) * bytes ≤ 140737488355328)
    (h : ∀ g cap' w' σ', Wf w' σ' B → σ' g = some (e, cap') → n + m ≤ cap' → cap' ≤ maxLen → Ext σ σ' → (∀ b, b < w.heap.size → σ' b = σ b) →
      w.grownBy w' (Value.slice a n cap).ownBlock → (∀ b, a = some ⟨b, 0, none⟩ → ∀ j, j < n * wide e → w'.cell? ⟨g, j, none⟩ = w.cell? ⟨b, j, none⟩) → (∀ j u, news[j]? = some u → w'.cell? ⟨g, n * wide e + j, none⟩ = some u) → wpList P ops Q rest (ac.put o.dst (.slice (some ⟨g, 0, none⟩) (n + m) cap')) w') :
    wpList P ops Q (o :: rest) ac w := by
  obtain ⟨g, cap', w', σ', hrun, q1, q2, q3, q4, q5, q6, q7, q8, q9⟩ := run_append_wf (P := P) hW t o.type e i z bytes ht hi hz hsize hby hzs hzc a n cap hnc hcm hs ad m c news hl hnews h1 hok hm h63 hbytes
  refine wpList_plain hgd fun K hK => ?_
  unfold Oper.wp
  simp [execOp, ho, resolve, invoke, builtin, hsv, hx, hrun, Result.andThen]
  exact hK _ _ (h g cap' w' σ' q1 q2 q3 q4 q5 q6 q7 q8 q9)
theorem step_append_wf {P : Program} {w : World} {σ : Sh} {B : Bd} (hW : Wf w σ B) {ops : Array Oper} {o : Oper} {ac : Act} {K : Act → World → Prop} {Q : Exit → Act → World → Prop} {E : Prop} (hgd : o.guard = none) (s x : Operand) (t : TypeId)
    (ho : o.op = .call { callee := .builtin .append, args := #[s, x], argTypes := #[t, t] })
    (e : TypeId) (i : TypeInfo) (z : Value) (bytes : Nat) (ht : P.underlying t = some (.slice e)) (hi : P.info? e = some i) (hz : i.zero = some z)
    (hsize : i.size = wide e) (hby : i.bytes = bytes) (hzs : z.cells.size = wide e) (hzc : ∀ j u, z.cells[j]? = some u → CellOk σ B e j u)
    (a : Option Addr) (n cap : Nat) (hsv : ac.eval s = .slice a n cap) (hnc : n ≤ cap) (hcm : cap ≤ maxLen) (hs : (a = none ∧ n = 0 ∧ cap = 0) ∨ ∃ b, a = some ⟨b, 0, none⟩ ∧ σ b = some (e, cap))
    (ad : Addr) (m c : Nat) (news : List Value) (hx : ac.eval x = .slice (some ad) m c) (hl : news.length = m * wide e) (hnews : ∀ j u, news[j]? = some u → w.cell? (ad.add j) = some u) (h1 : ∀ u ∈ news, u.oneCell' = true) (hok : ∀ j u, news[j]? = some u → CellOk σ B e (j % wide e) u)
    (hm : 0 < m) (h63 : n + m ≤ maxLen) (hbytes : (n + m) * bytes ≤ 140737488355328)
    (h : ∀ g cap' w' σ', Wf w' σ' B → σ' g = some (e, cap') → n + m ≤ cap' → cap' ≤ maxLen → Ext σ σ' → (∀ b, b < w.heap.size → σ' b = σ b) →
      w.grownBy w' (Value.slice a n cap).ownBlock → (∀ b, a = some ⟨b, 0, none⟩ → ∀ j, j < n * wide e → w'.cell? ⟨g, j, none⟩ = w.cell? ⟨b, j, none⟩) → (∀ j u, news[j]? = some u → w'.cell? ⟨g, n * wide e + j, none⟩ = some u) → K (ac.put o.dst (.slice (some ⟨g, 0, none⟩) (n + m) cap')) w') :
    if Region.wanted o (yielded ops ac.tmps) = true then Oper.wp P o ac w K Q else E := by
  have hw : Region.wanted o (yielded ops ac.tmps) = true := by simp [Region.wanted, hgd]
  rw [if_pos hw]
  obtain ⟨g, cap', w', σ', hrun, q1, q2, q3, q4, q5, q6, q7, q8, q9⟩ := run_append_wf (P := P) hW t o.type e i z bytes ht hi hz hsize hby hzs hzc a n cap hnc hcm hs ad m c news hl hnews h1 hok hm h63 hbytes
  unfold Oper.wp execOp
  simp only [ho, resolve, invoke, builtin, Sem.run_bind, Sem.run_pure, Result.andThen_ok, List.map_toArray, List.map_cons, List.map_nil, hsv, hx, hrun]
  exact h g cap' w' σ' q1 q2 q3 q4 q5 q6 q7 q8 q9
end Go.Proofs.YtokmgbidmnanpaaGreatDoor
namespace Go.Proofs.YtokmgbidmnanpaaGreatDoor
open Go.RowKit Go.Maps
theorem fth_snoc_lt (fs : List F) (g : F) (i : Nat) (h : i < fs.length) : fth (fs ++ [g]) i = fth fs i := by
  simp [fth, List.getD_eq_getElem?_getD, List.getElem?_append_left h]
theorem fth_snoc_eq (fs : List F) (g : F) : fth (fs ++ [g]) fs.length = g := by
  simp [fth, List.getD_eq_getElem?_getD]
def flat3 (C : Nat → Nat → Value) (n : Nat) : List Value := (List.range (n * 3)).map fun j => C (j / 3) (j % 3)
theorem flat3_len (C : Nat → Nat → Value) (n : Nat) : (flat3 C n).length = n * 3 := by simp [flat3]
theorem flat3_at (C : Nat → Nat → Value) (n i j : Nat) (hi : i < n) (hj : j < 3) : (flat3 C n)[i * 3 + j]? = some (C i j) := by
  have h1 : i * 3 + j < n * 3 := by omega
  have h2 : (i * 3 + j) / 3 = i := by omega
  have h3 : (i * 3 + j) % 3 = j := by omega
  simp [flat3, h1, h2, h3]
theorem flat3_of {L : List Value} {C : Nat → Nat → Value} {n : Nat} (hl : L.length = n * 3) (h : ∀ i, i < n → ∀ j, j < 3 → L[i * 3 + j]? = some (C i j)) : L = flat3 C n := by
  apply List.ext_getElem?
  intro x
  by_cases hx : x < n * 3
  · have e : x / 3 * 3 + x % 3 = x := by omega
    have h1 := h (x / 3) (by omega) (x % 3) (Nat.mod_lt _ (by omega))
    have h2 := flat3_at C n (x / 3) (x % 3) (by omega) (Nat.mod_lt _ (by omega))
    rw [e] at h1 h2
    rw [h1, h2]
  · rw [List.getElem?_eq_none (by omega), List.getElem?_eq_none (by rw [flat3_len]; omega)]
theorem flat3_set (C : Nat → Nat → Value) (n i : Nat) (hi : i < n) (d : Nat → Value) :
    (((flat3 C n).set (i * 3) (d 0)).set (i * 3 + 1) (d 1)).set (i * 3 + 2) (d 2) = flat3 (fun a j => if a = i then d j else C a j) n := by
  apply flat3_of
  · simp [flat3_len]
  · intro a ha j hj
    have h0 := flat3_at C n a j ha hj
    by_cases e : a = i
    · subst e
      rw [if_pos rfl]
      have hlen : (flat3 C n).length = n * 3 := flat3_len C n
      rcases j with _ | _ | _ | j
      · rw [List.getElem?_set_ne (by omega), List.getElem?_set_ne (by omega), Nat.add_zero, List.getElem?_set_self (by omega)]
      · rw [List.getElem?_set_ne (by omega), List.getElem?_set_self (by simp [hlen]; omega)]
      · rw [List.getElem?_set_self (by simp [hlen]; omega)]
      · omega
    · rw [if_neg e, List.getElem?_set_ne (by omega), List.getElem?_set_ne (by omega), List.getElem?_set_ne (by omega), h0]
theorem flat3_push (C : Nat → Nat → Value) (n : Nat) (d0 d1 d2 : Value) : flat3 C n ++ [d0, d1, d2] = flat3 (fun a j => if a < n then C a j else [d0, d1, d2].getD j undef) (n + 1) := by
  apply flat3_of
  · simp [flat3_len]; omega
  · intro a ha j hj
    by_cases e : a < n
    · rw [if_pos e, List.getElem?_append_left (by rw [flat3_len]; omega), flat3_at _ _ _ _ e hj]
    · have : a = n := by omega
      subst this
      rw [if_neg e, List.getElem?_append_right (by rw [flat3_len]; omega), flat3_len, Nat.add_sub_cancel_left]
      rcases j with _ | _ | _ | j
      all_goals first | rfl | omega
theorem tth_set_ne (ts : List T) (g : T) (k i : Nat) (h : i ≠ k) : tth (ts.set k g) i = tth ts i := by
  simp [tth, List.getD_eq_getElem?_getD, List.getElem?_set_ne (Ne.symm h)]
theorem tth_set_eq (ts : List T) (g : T) (k : Nat) (h : k < ts.length) : tth (ts.set k g) k = g := by
  simp [tth, List.getD_eq_getElem?_getD, List.getElem?_set_self h]
theorem tth_snoc_lt (ts : List T) (g : T) (i : Nat) (h : i < ts.length) : tth (ts ++ [g]) i = tth ts i := by
  simp [tth, List.getD_eq_getElem?_getD, List.getElem?_append_left h]
theorem tth_snoc_eq (ts : List T) (g : T) : tth (ts ++ [g]) ts.length = g := by
  simp [tth, List.getD_eq_getElem?_getD]
end Go.Proofs.YtokmgbidmnanpaaGreatDoor
namespace Go.Proofs.YtokmgbidmnanpaaGreatDoor
open Go.RowKit
structure Se where
  al : ByteArray
  name : ByteArray
  one : Bool
  id : Int
  kids : List Se
def Se.zero : Se := .mk ByteArray.empty ByteArray.empty false 0 []
def sth (ks : List Se) (i : Nat) : Se := ks.getD i Se.zero
def SeN (w : World) (P : Nat → Prop) : Nat → Se → Value → Prop
  | 0, _, _ => False
  | f + 1, x, v => ∃ (ka : Option Addr) (kc : Nat) (C : Nat → Nat → Value),
      v = .agg #[.string x.al, .string x.name, .bool x.one, .int .i64 x.id, .slice ka x.kids.length kc] ∧ x.al.size ≤ maxLen ∧ x.name.size ≤ maxLen ∧ 72 * x.kids.length ≤ 281474976710656 ∧
      Arr w P 5 x.kids.length ka C ∧ ∀ i, i < x.kids.length → SeN w P f (sth x.kids i) (.agg #[C i 0, C i 1, C i 2, C i 3, C i 4])
def SeRep (w : World) (P : Nat → Prop) (x : Se) (v : Value) : Prop := ∃ f, SeN w P f x v
def SeReps (w : World) (P : Nat → Prop) (ks : List Se) (a : Option Addr) : Prop :=
  72 * ks.length ≤ 281474976710656 ∧ ∃ C : Nat → Nat → Value, Arr w P 5 ks.length a C ∧ ∀ i, i < ks.length → SeRep w P (sth ks i) (.agg #[C i 0, C i 1, C i 2, C i 3, C i 4])
theorem SeN.le {w : World} {P : Nat → Prop} : ∀ {f g : Nat} {x : Se} {v : Value}, SeN w P f x v → f ≤ g → SeN w P g x v
  | 0, _, _, _, h, _ => h.elim
  | f + 1, 0, _, _, _, hg => by omega
  | f + 1, g + 1, x, v, h, hg => by
    obtain ⟨ka, kc, C, h1, h2, h3, h4, h5, h6⟩ := h
    exact ⟨ka, kc, C, h1, h2, h3, h4, h5, fun i hi => (h6 i hi).le (by omega)⟩
theorem se_bound {w : World} {P : Nat → Prop} {X : Nat → Se} {U : Nat → Value} : ∀ n : Nat, (∀ i, i < n → SeRep w P (X i) (U i)) → ∃ f, ∀ i, i < n → SeN w P f (X i) (U i)
  | 0, _ => ⟨0, fun i hi => by omega⟩
  | n + 1, h => by
    obtain ⟨f, hf⟩ := se_bound n fun i hi => h i (by omega)
    obtain ⟨g, hg⟩ := h n (by omega)
    refine ⟨f + g, fun i hi => ?_⟩
    by_cases e : i = n
    · subst e; exact hg.le (by omega)
    · exact (hf i (by omega)).le (by omega)
theorem SeRep.of_kids {w : World} {P : Nat → Prop} {s n : ByteArray} {o : Bool} {id : Int} {ks : List Se} {ka : Option Addr} {kc : Nat} (hs : s.size ≤ maxLen) (hn : n.size ≤ maxLen) (hK : SeReps w P ks ka) :
    SeRep w P (.mk s n o id ks) (.agg #[.string s, .string n, .bool o, .int .i64 id, .slice ka ks.length kc]) := by
  obtain ⟨hbk, C, hA, hr⟩ := hK
  obtain ⟨f, hf⟩ := se_bound ks.length hr
  exact ⟨f + 1, ka, kc, C, rfl, hs, hn, hbk, hA, hf⟩
theorem SeRep.inv {w : World} {P : Nat → Prop} {s n : ByteArray} {o : Bool} {id : Int} {ks : List Se} {v : Value} (h : SeRep w P (.mk s n o id ks) v) :
    ∃ (ka : Option Addr) (kc : Nat), v = .agg #[.string s, .string n, .bool o, .int .i64 id, .slice ka ks.length kc] ∧ s.size ≤ maxLen ∧ n.size ≤ maxLen ∧ SeReps w P ks ka := by
  obtain ⟨f, h⟩ := h
  match f, h with
  | f + 1, h =>
    obtain ⟨ka, kc, C, hv, hs, hn, hbk, hA, hr⟩ := h
    exact ⟨ka, kc, hv, hs, hn, hbk, C, hA, fun i hi => ⟨f, hr i hi⟩⟩
theorem SeN.mono {w w' : World} {P : Nat → Prop} (e : ∀ k, P k → w'.heap[k]? = w.heap[k]?) : ∀ {f : Nat} {x : Se} {v : Value}, SeN w P f x v → SeN w' P f x v
  | 0, _, _, h => h.elim
  | f + 1, x, v, h => by
    obtain ⟨ka, kc, C, h1, h2, h3, h4, hA, hr⟩ := h
    exact ⟨ka, kc, C, h1, h2, h3, h4, hA.mono e, fun i hi => (hr i hi).mono e⟩
theorem SeN.sub {w : World} {P Q : Nat → Prop} (e : ∀ k, P k → Q k) : ∀ {f : Nat} {x : Se} {v : Value}, SeN w P f x v → SeN w Q f x v
  | 0, _, _, h => h.elim
  | f + 1, x, v, h => by
    obtain ⟨ka, kc, C, h1, h2, h3, h4, hA, hr⟩ := h
    exact ⟨ka, kc, C, h1, h2, h3, h4, hA.sub e, fun i hi => (hr i hi).sub e⟩
theorem SeRep.mono {w w' : World} {P : Nat → Prop} {x : Se} {v : Value} (h : SeRep w P x v) (e : ∀ k, P k → w'.heap[k]? = w.heap[k]?) : SeRep w' P x v := by
  obtain ⟨f, h⟩ := h; exact ⟨f, h.mono e⟩
theorem SeRep.sub {w : World} {P Q : Nat → Prop} {x : Se} {v : Value} (h : SeRep w P x v) (e : ∀ k, P k → Q k) : SeRep w Q x v := by
  obtain ⟨f, h⟩ := h; exact ⟨f, h.sub e⟩
theorem SeReps.mono {w w' : World} {P : Nat → Prop} {ks : List Se} {a : Option Addr} (h : SeReps w P ks a) (e : ∀ k, P k → w'.heap[k]? = w.heap[k]?) : SeReps w' P ks a := by
  obtain ⟨h0, C, h1, h2⟩ := h; exact ⟨h0, C, h1.mono e, fun i hi => (h2 i hi).mono e⟩
theorem SeReps.sub {w : World} {P Q : Nat → Prop} {ks : List Se} {a : Option Addr} (h : SeReps w P ks a) (e : ∀ k, P k → Q k) : SeReps w Q ks a := by
  obtain ⟨h0, C, h1, h2⟩ := h; exact ⟨h0, C, h1.sub e, fun i hi => (h2 i hi).sub e⟩
theorem SeRep.under {w w' : World} {B : Nat} {x : Se} {v : Value} (h : SeRep w (· < B) x v) (hb : Below B w w') : SeRep w' (· < B) x v := h.mono fun k hk => hb.block k hk
theorem SeReps.under {w w' : World} {B : Nat} {x : List Se} {v : Option Addr} (h : SeReps w (· < B) x v) (hb : Below B w w') : SeReps w' (· < B) x v := h.mono fun k hk => hb.block k hk
def cntSe : Nat → Se → Nat
  | 0, _ => 0
  | f + 1, x => 1 + ((List.range x.kids.length).map fun i => cntSe f (sth x.kids i)).sum
def cntTo (f : Nat) (ks : List Se) (n : Nat) : Nat := ((List.range n).map fun i => cntSe f (sth ks i)).sum
theorem cntTo_succ (f : Nat) (ks : List Se) (n : Nat) : cntTo f ks (n + 1) = cntTo f ks n + cntSe f (sth ks n) := by simp [cntTo, List.range_succ]
theorem cntSe_kids (f : Nat) (x : Se) : cntSe (f + 1) x = 1 + cntTo f x.kids x.kids.length := rfl
def zeroSe : Value := .agg #[.string ByteArray.empty, .string ByteArray.empty, .bool false, .int .i64 0, .slice none 0 0]
theorem info_Sel : (Tryz.prog.info? 56).map (fun i => (i.zero, i.size, i.bytes)) = some (some zeroSe, 5, 72) := by kernel_rfl
end Go.Proofs.YtokmgbidmnanpaaGreatDoor
namespace Go.Proofs.YtokmgbidmnanpaaGreatDoor
open Go.RowKit
theorem hid_of {q : Prop} (h : q) : Hid q := h
theorem box_at {W : World} {b : Nat} {cs : Array Value} {T : TypeId} (h : W.heap[b]? = some (.cells cs T (0, 0))) (i : Nat) (hi : i < cs.size) : W.cell? ⟨b, i, none⟩ = some cs[i] ∧ W.frozen? ⟨b, i, none⟩ = false := by
  refine ⟨?_, frozen_of_row W b i cs T h⟩
  rw [cell_of_row W b i cs T (0, 0) h]
  simp [hi]
theorem block_new {w : World} {N : Nat} (c : Array Value) (T : TypeId) (h : w.heap.size = N) : (w.alloc (.cells c T)).heap[N]? = some (.cells c T (0, 0)) := by subst h; exact heap_alloc_new w _
theorem set_box {w : World} {N : Nat} {cs : Array Value} {T : TypeId} (h : w.heap[N]? = some (.cells cs T (0, 0))) (i : Nat) (d : Value) : (w.setCell ⟨N, i, none⟩ d).heap[N]? = some (.cells (cs.setIfInBounds i d) T (0, 0)) := by
  show (w.heap.modify N _)[N]? = _
  rw [Array.getElem?_modify]
  simp [h]
end Go.Proofs.YtokmgbidmnanpaaGreatDoor
namespace Go.Proofs.YtokmgbidmnanpaaGreatDoor
open Go.RowKit Go.Shelf
theorem below_putObj {B l : Nat} (W : World) (o : Obj) (h : B ≤ l) : Below B W (W.putObj l o) := ⟨rfl, rfl, rfl, by simp, fun k hk => World.putObj_heap_other (by omega)⟩
structure KeepO (O : Nat → Prop) (A B : World) : Prop where
  size : A.heap.size ≤ B.heap.size
  cells : ∀ b o, ¬ O b → A.heap[b]? = some o → o.isCells = true → B.heap[b]? = some o
theorem KeepO.refl (O : Nat → Prop) (A : World) : KeepO O A A := ⟨Nat.le_refl _, fun _ _ _ h _ => h⟩
theorem KeepO.trans {O : Nat → Prop} {A B C : World} (h : KeepO O A B) (k : KeepO O B C) : KeepO O A C := ⟨Nat.le_trans h.size k.size, fun b o hb h1 h2 => k.cells b o hb (h.cells b o hb h1 h2) h2⟩
theorem KeepO.below {O : Nat → Prop} {A B : World} (h : Below A.heap.size A B) : KeepO O A B := ⟨h.size, fun b o _ h1 _ => (h.block b (Array.getElem?_eq_some_iff.1 h1).1).trans h1⟩
theorem KeepO.putObj {O : Nat → Prop} {l : Nat} {W : World} {o : Obj} (h : W.heap[l]? = some o) (ho : o.isCells = false) (o' : Obj) : KeepO O W (W.putObj l o') := ⟨by simp, fun b o2 hb h1 h2 => by
  have hne : b ≠ l := by intro e; rw [e, h] at h1; cases h1; rw [ho] at h2; cases h2
  exact (World.putObj_heap_other hne).trans h1⟩
def Still (lo : Nat) (p : World → Prop) : Prop := ∀ A l o o', p A → lo ≤ l → A.heap[l]? = some o → o.isCells = false → p (A.putObj l o')
def Grows (p : World → Prop) : Prop := ∀ A B, p A → Below A.heap.size A B → p B
def Told {α : Type} (I : List α → (Nat → Prop) → World → Prop) (Ix : World → Prop) (O : Nat → Prop) (pre : List α) (x : α) (A : World) (go : Bool) (B : World) : Prop :=
  (go = true ∧ ∃ O', I (pre ++ [x]) O' B ∧ KeepO O A B ∧ ∀ b, O' b → O b ∨ A.heap.size ≤ b) ∨ (go = false ∧ Ix B)
theorem range_stop {F : Fence} {n : Nat} {P : Program} {g : Operand} {ps : Array Tmp} {assign body : Code} {Q : Exit → Act → World → Prop} {a : Act} {w : World}
    (hro : F.round = none) (h1 : 1 ≤ n) {gf : Nat} {lb : Array Value} (hg : a.eval g = .func (.func gf) #[] lb) (hFg : F.fn gf) (eg : ∀ args w, (callFunc gf args).run P w = .ok (.enter gf args) w)
    {α : Type} (xs : List α) (Arg : List α → α → Array Value → World → Prop) (hps : ∀ pre x ar A, Arg pre x ar A → ar.size = ps.size)
    (I : List α → (Nat → Prop) → World → Prop) (hIs : ∀ pre O, Still w.heap.size (I pre O)) (hIg : ∀ pre O, Grows (I pre O)) (hIO : ∀ pre O A, I pre O A → ∀ b, O b → b < A.heap.size)
    (Ix : World → Prop) (hXs : Still w.heap.size Ix)
    (O0 : Nat → Prop) (h0 : I [] O0 w)
    (hseq : ∀ (l : Nat) (J : List α → (Nat → Prop) → World → Prop) (Jx : World → Prop) (W : World), Below w.heap.size w W → (∀ pre O, Grows (J pre O)) → (∀ pre O A, J pre O A → ∀ b, O b → b < A.heap.size) →
      (∀ pre O x ar A, J pre O A → Arg pre x ar A → YieldAt F (n - 1 - 1) P l ar A fun e B => ∃ go, e = .returned (.bool go) ∧ Told J Jx O pre x A go B) → J [] O0 W →
      CallsIn F (n - 1) P gf (#[.func (.yield l) #[] #[]] ++ lb) W fun e W' => (∃ v, e = .returned v) ∧ ((∃ O', J xs O' W') ∨ Jx W'))
    (Ax : List α → α → Array Value → Act → World → Prop) (hAs : ∀ pre x ar a', Still w.heap.size (Ax pre x ar a'))
    (hassign : ∀ (l : Nat) (pre : List α) (x : α) (ar : Array Value) (A : World) (K : Act → World → Prop), Arg pre x ar A → (∀ a' B, Below A.heap.size A B → Ax pre x ar a' B → K a' B) →
      assign.wpIn (F.inRound l) (n - 1 - 1) P (Exit.then K (fun _ _ _ => False)) { tmps := (ps.zip ar).foldl (fun t (p, v) => t.setIfInBounds p v) a.tmps, defers := [] } A)
    (hbody : ∀ (l : Nat) (pre : List α) (O : Nat → Prop) (x : α) (ar : Array Value) (a' : Act) (A : World), I pre O A → Ax pre x ar a' A →
      body.wpIn (F.inRound l) (n - 1 - 1) P (fun e _ B => KeepsFrom w.heap.size A B ∧ ((e = .normal ∧ Told I Ix O pre x A true B) ∨ (e = .ret ∧ Told I Ix O pre x A false B))) a' A)
    (hdone : ∀ (D : Nat) (O : Nat → Prop) (W : World), w.heap.size ≤ D → I xs O W → W.heap[D]? = some (.deferred (some [])) → Q .normal { a with defers := { target := .collected D, args := #[] } :: a.defers } W)
    (hstop : ∀ (D : Nat) (W : World), w.heap.size ≤ D → Ix W → W.heap[D]? = some (.deferred (some [])) → Code.ret.wpIn F n P Q { a with defers := { target := .collected D, args := #[] } :: a.defers } W) :
    (Code.rangeFunc g ps assign body).wpIn F n P Q a w := by
  refine wpIn_rangeFunc fun fn hfn => ?_
  rw [hro]
  obtain ⟨rec, hrec⟩ : ∃ rec : LoopState → Option Code → Loop, rec = fun st pe => { state := st, pending := pe, fn, tmps := a.tmps, params := ps, assign, body, defers := w.heap.size } := ⟨_, rfl⟩
  obtain ⟨X, hX⟩ : ∃ X, X = (w.alloc (.deferred (some []))).alloc (.loop (rec .ready none)) := ⟨_, rfl⟩
  have bX : Below w.heap.size w X := by rw [hX]; exact ((Below.refl _ w).alloc (Nat.le_refl _) _).alloc (by simp) _
  have lX : X.heap[w.heap.size + 1]? = some (.loop (rec .ready none)) := by
    rw [hX]; have := World.alloc_heap_new (w.alloc (.deferred (some []))) (.loop (rec .ready none)); rwa [World.size_alloc] at this
  have dX : X.heap[w.heap.size]? = some (.deferred (some [])) := by
    rw [hX]; exact (Below.heap_alloc _ _ _ (by simp)).trans (World.alloc_heap_new w _)
  refine ⟨w.heap.size + 1, [{ target := .collected w.heap.size, args := #[] }], X, { target := .fn (.func gf) lb, args := #[.func (.yield (w.heap.size + 1)) #[] #[]] }, X, gf,
    #[.func (.yield (w.heap.size + 1)) #[] #[]] ++ lb, X, ?_, ?_, ?_, ?_, fun _ => h1, ?_⟩
  · rw [hX, hrec]; exact run_enterLoop_outer _ _ _ _ _
  · simp only [resolve, hg]
    simp [go_sem]
  · intro f' hf'; simp [Target.leads] at hf'; subst hf'; exact hFg
  · simp [invoke, go_sem, eg]
  · have key : ∀ {A B : World}, Below A.heap.size A B → ∀ {b : Nat} {o : Obj}, A.heap[b]? = some o → B.heap[b]? = some o := by
      intro A B h b o hb
      exact (h.block b (Array.getElem?_eq_some_iff.1 hb).1).trans hb
    refine (hseq (w.heap.size + 1) (fun pre O W => I pre O W ∧ W.heap[w.heap.size + 1]? = some (.loop (rec .ready none)) ∧ W.heap[w.heap.size]? = some (.deferred (some [])))
      (fun W => Ix W ∧ W.heap[w.heap.size + 1]? = some (.loop (rec .done (some .ret))) ∧ W.heap[w.heap.size]? = some (.deferred (some []))) X bX
      (fun pre O A B h hb => ⟨hIg pre O A B h.1 hb, key hb h.2.1, key hb h.2.2⟩) (fun pre O A h => hIO pre O A h.1) ?_ ⟨hIg [] O0 w X h0 bX, lX, dX⟩).mono ?_
    · rintro pre O x ar W ⟨hi, hl, hd⟩ harg
      have hy := run_yield (P := P) (args := ar) hl (by rw [hrec]; exact hps pre x ar W harg)
      rw [hrec] at hy
      refine ⟨fn, _, assign, body, hy, roundIn_of_wpIn hfn (hassign _ pre x ar W _ harg fun a' B hAB hax => ?_)⟩
      have lB := key hAB hl
      have dB := key hAB hd
      have hlt : w.heap.size + 1 < B.heap.size := (Array.getElem?_eq_some_iff.1 lB).1
      have hlt0 : w.heap.size < B.heap.size := by omega
      refine ⟨_, run_beginRound lB (by rw [hrec]), ?_⟩
      obtain ⟨Y, hY⟩ : ∃ Y, Y = B.putObj (w.heap.size + 1) (.loop { rec .ready none with state := .busy }) := ⟨_, rfl⟩
      have lY : Y.heap[w.heap.size + 1]? = some (.loop { rec .ready none with state := .busy }) := by rw [hY]; exact World.putObj_heap_same hlt
      have dY : Y.heap[w.heap.size]? = some (.deferred (some [])) := by rw [hY]; exact (World.putObj_heap_other (by omega)).trans dB
      have zY : Y.heap.size = B.heap.size := by rw [hY]; simp
      have kY : KeepO O W Y := by rw [hY]; exact (KeepO.below hAB).trans (KeepO.putObj lB rfl _)
      have iY : I pre O Y := by rw [hY]; exact hIs pre O _ _ _ _ (hIg pre O _ _ hi hAB) (by omega) lB rfl
      have aY : Ax pre x ar a' Y := by rw [hY]; exact hAs pre x ar a' _ _ _ _ hax (by omega) lB rfl
      rw [← hY]
      refine wpIn_mono (hbody _ pre O x ar a' Y iY aY) ?_
      rintro e a3 Z ⟨hk3, hp⟩
      have lZ := hk3.same _ _ (by omega) lY rfl
      have dZ := hk3.same _ _ (by omega) dY rfl
      have hzl : w.heap.size + 1 < Z.heap.size := (Array.getElem?_eq_some_iff.1 lZ).1
      rcases hp with ⟨rfl, hT⟩ | ⟨rfl, hT⟩
      · rcases hT with ⟨-, O', i3, k3, o3⟩ | ⟨h, -⟩
        · have hr := run_endRound (P := P) none lZ
          refine ⟨_, _, hr, true, rfl, Or.inl ⟨rfl, O', ⟨hIs _ _ _ _ _ _ i3 (by omega) lZ rfl, ?_, (World.putObj_heap_other (by omega)).trans dZ⟩, (kY.trans k3).trans (KeepO.putObj lZ rfl _), fun b hb => (o3 b hb).imp id fun h => ?_⟩⟩
          · rw [hrec]; exact World.putObj_heap_same hzl
          · have := hAB.size; omega
        · cases h
      · rcases hT with ⟨h, -⟩ | ⟨-, i3⟩
        · cases h
        · have hr := run_endRound (P := P) (some .ret) lZ
          refine ⟨_, _, hr, false, rfl, Or.inr ⟨rfl, hXs _ _ _ _ i3 (by omega) lZ rfl, ?_, (World.putObj_heap_other (by omega)).trans dZ⟩⟩
          rw [hrec]; exact World.putObj_heap_same hzl
    · rintro e W ⟨⟨v, rfl⟩, hfin⟩
      rcases hfin with ⟨O', hi, hl, hd⟩ | ⟨hi, hl, hd⟩
      · exact ⟨none, _, by have := run_endLoop (P := P) hl (by rw [hrec]; simp); rw [hrec] at this; exact this, hdone w.heap.size O' _ (Nat.le_refl _) (hIs _ _ _ _ _ _ hi (by omega) hl rfl) ((World.putObj_heap_other (by omega)).trans hd)⟩
      · exact ⟨some .ret, _, by have := run_endLoop (P := P) hl (by rw [hrec]; simp); rw [hrec] at this; exact this, hstop w.heap.size _ (Nat.le_refl _) (hXs _ _ _ _ hi (by omega) hl rfl) ((World.putObj_heap_other (by omega)).trans hd)⟩
end Go.Proofs.YtokmgbidmnanpaaGreatDoor
namespace Go.Proofs.YtokmgbidmnanpaaGreatDoor
open Go.RowKit
theorem nth_map (ns : List ByteArray) (j : Nat) (u : Value) (h : (ns.map Value.string)[j]? = some u) : j < ns.length ∧ u = .string (nth ns j) := by
  rw [List.getElem?_map] at h
  obtain ⟨b, hb, rfl⟩ := Option.map_eq_some_iff.1 h
  obtain ⟨hj, rfl⟩ := List.getElem?_eq_some_iff.1 hb
  exact ⟨hj, by simp [nth, List.getD_eq_getElem?_getD, hj]⟩
set_option maxHeartbeats 400000 in
theorem copyTexts_own (ns : List ByteArray) (a : Option Addr) (c : Nat) (w : World) (P : Nat → Prop) (hS : Strs w P ns a) (hb : 16 * ns.length ≤ 140737488355328) :
    Calls Tryz.prog 101 #[.slice a ns.length c] w fun e w' => ∃ v : Value, e = .returned v ∧ w'.ownsRow w.heap.size 9 1 v ns.length (ns.map Value.string) ∧ Below w.heap.size w w' := by
  obtain ⟨h1, h2, h3⟩ := hS
  obtain ⟨i0, hi, hz0, hz1, hz2⟩ := info_parts info9
  by_cases hn0 : ns.length = 0
  · have hns : ns = [] := by simpa using hn0
    subst hns
    cases a with
    | none =>
      go_enter Tryz.func101, Tryz.ntmps101
      go_wp2_with fail
      go_ret
      exact ⟨_, rfl, World.ownsRow_nil _ _ _ _, Below.refl _ _⟩
    | some ad =>
      go_enter Tryz.func101, Tryz.ntmps101
      go_wp2_with fail
      go_ret
      exact ⟨_, rfl, World.ownsRow_nil _ _ _ _, Below.refl _ _⟩
  · obtain ⟨b, off, rfl, _, hc⟩ := h1 (by intro e; simp [e] at hn0)
    clear h1
    go_enter Tryz.func101, Tryz.ntmps101
    go_wp2_with (at_builtin; refine wpList_append_lies _ rfl _ _ 29 rfl w.heap.size 9 i0 (.string ByteArray.empty) 1 16 Tryz.underlying29 hi hz0 hz1 hz2 rfl (by decide) (.slice none 0 0) 0 [] rfl (World.ownsRow_nil _ _ _ _) ⟨b, off, none⟩ ns.length c (ns.map Value.string) rfl (by simp) ?c1 ?c2 (by omega) ?c3 (by omega) (Nat.le_refl _) _ rfl ?_)
    case c1 =>
      intro j u hj
      obtain ⟨hj', rfl⟩ := nth_map ns j u hj
      rw [Addr.add_lit]
      exact hc j hj'
    case c2 =>
      intro u hu
      obtain ⟨s, -, rfl⟩ := List.mem_map.1 hu
      rfl
    case c3 => omega
    intro g cap w' hown hgrow hat hlt
    have HO := hid_of hown
    have HB := hid_of ((Below.refl w.heap.size w).grown hgrow (Nat.le_refl _) (fun k hk => by simp [Value.ownBlock] at hk))
    clear hown hgrow hat
    go_wp2_with fail
    go_ret
    exact ⟨_, rfl, by simpa using HO.out, HB.out⟩
end Go.Proofs.YtokmgbidmnanpaaGreatDoor
namespace Go.Proofs.YtokmgbidmnanpaaGreatDoor
open Go.RowKit
def pk (b o n : Nat) : Value := .agg #[.pointer (some ⟨b, o, none⟩), .int .i64 n]
theorem pk_inj {b o n b' o' n' : Nat} (h : pk b o n = pk b' o' n') : b = b' ∧ o = o' ∧ n = n' := by
  simp [pk] at h
  omega
def PK (w : World) (v : Value) : Prop := ∃ b o n, v = pk b o n ∧ Apart w b
theorem kk_under : Tryz.prog.underlying 178 = some (.struct (Tryz.prog.fieldsOf 178)) := by kernel_rfl
theorem kk_held : Tryz.prog.stoodInHeld 178 = false := by kernel_rfl
theorem kk_fields : (Tryz.prog.fieldsOf 178).toList.map (fun f => (f.name, f.type, f.offset)) = [("first", 130, 0), ("count", 3, 1)] := by kernel_rfl
theorem kk_check (w : World) (em : Bool) (a : Option Addr) (n : Int) : (Instr.checkKey em 10000 178 (.agg #[.pointer a, .int .i64 n])).run Tryz.prog w = .ok () w := by kernel_rfl
theorem kk_part0 (w : World) (a : Option Addr) (n : Int) : (part 130 #[.pointer a, .int .i64 n] 0).run Tryz.prog w = .ok (.pointer a) w := by kernel_rfl
theorem kk_part1 (w : World) (a : Option Addr) (n : Int) : (part 3 #[.pointer a, .int .i64 n] 1).run Tryz.prog w = .ok (.int .i64 n) w := by kernel_rfl
theorem kk_ptr : Tryz.prog.underlying 130 = some (.pointer 56) := by kernel_rfl
theorem kk_size (w : World) : (sizeOf 56).run Tryz.prog w = .ok 5 w := by kernel_rfl
theorem kk_int : Tryz.prog.underlying 3 = some (.int .i64) := by kernel_rfl
theorem kk_equal (w : World) (a b : Addr) (n m : Int) (r : Bool) (h : (sameAddr a b).run Tryz.prog w = .ok r w) :
    (Op.equal 178 (.agg #[.pointer (some a), .int .i64 n]) (.agg #[.pointer (some b), .int .i64 m])).run Tryz.prog w = .ok (r && (n == m)) w := by
  have hp0 : ∀ d : Nat, (Op.equalIn (d + 1) 130 (.pointer (some a)) (.pointer (some b))).run Tryz.prog w = .ok r w := fun d => by
    simp [Op.equalIn, run_underlying kk_ptr, kk_size, h, Result.andThen]
  have hp : (Op.equalIn 9999 130 (.pointer (some a)) (.pointer (some b))).run Tryz.prog w = .ok r w := hp0 9998
  have hi : (Op.equalIn 9999 3 (.int .i64 n) (.int .i64 m)).run Tryz.prog w = .ok (n == m) w := run_equalIn_int w 9998 3 .i64 .i64 n m kk_int
  show (Op.equalIn (9999 + 1) _ _ _).run _ _ = _
  rw [run_equalIn_agg w 9999 _ _ _ kk_under kk_held]
  obtain ⟨f0, f1, hf⟩ : ∃ f0 f1, (Tryz.prog.fieldsOf 178).toList = [f0, f1] := by
    have h := congrArg List.length kk_fields
    simp only [List.length_map] at h
    match (Tryz.prog.fieldsOf 178).toList, h with
    | [f0, f1], _ => exact ⟨f0, f1, rfl⟩
  have hk := kk_fields
  rw [hf] at hk ⊢
  simp only [List.map_cons, List.map_nil, List.cons.injEq, Prod.mk.injEq, and_true] at hk
  obtain ⟨⟨n0, t0, o0⟩, n1, t1, o1⟩ := hk
  simp only [Op.eqFields, n0, t0, o0, n1, t1, o1]
  obtain ⟨q, hq⟩ : ∃ q, q = (n == m) := ⟨_, rfl⟩
  rw [← hq] at hi ⊢
  cases r <;> cases q <;> simp [kk_part0, kk_part1, hp, hi, Result.andThen]
theorem keyK {w : World} {J : Value → Prop} (hJ : ∀ v, J v → PK w v) : KeyAt Tryz.prog 178 J w where
  fields := ⟨_, kk_under⟩
  check em v hv := by obtain ⟨b, o, n, rfl, _⟩ := hJ v hv; exact kk_check w em _ _
  same v hv := by
    obtain ⟨b, o, n, rfl, _⟩ := hJ v hv
    have := kk_equal w ⟨b, o, none⟩ ⟨b, o, none⟩ n n true (run_sameAddr_same w _)
    simpa [pk] using this
  differ u v hu hv hne := by
    obtain ⟨b, o, n, rfl, h1⟩ := hJ u hu
    obtain ⟨b', o', n', rfl, h2⟩ := hJ v hv
    by_cases ha : (⟨b, o, none⟩ : Addr) = ⟨b', o', none⟩
    · have hn : n ≠ n' := fun e => hne (by rw [pk, pk, ha, e])
      have := kk_equal w ⟨b, o, none⟩ ⟨b', o', none⟩ n n' true (by rw [ha]; exact run_sameAddr_same w _)
      rw [pk, pk, this]
      have : ((n : Int) == (n' : Int)) = false := by simp; omega
      simp [this]
    · have := kk_equal w ⟨b, o, none⟩ ⟨b', o', none⟩ n n' false (sameAddr_apart ha h1 h2)
      rw [pk, pk, this]; rfl
  stays v hv := by
    obtain ⟨b, o, n, rfl, _⟩ := hJ v hv
    simp [pk, Instr.sameBits]
set_option maxHeartbeats 400000 in
theorem keyOfKids_any (w : World) (b o n c : Nat) (hn : 0 < n) (h72 : 72 * n ≤ 281474976710656) :
    Calls Tryz.prog 125 #[.slice (some ⟨b, o, none⟩) n c] w fun e w' => e = .returned (pk b o n) ∧ Below w.heap.size w w' := by
  have hni : (0 : Int) < (n : Int) := by omega
  have hn0 : ¬ (n : Int) = 0 := by omega
  go_enter Tryz.func125, Tryz.ntmps125
  go_wp2_with fail
  refine bodyPost_ret (v := pk b o n) (by simp [results, Tryz.results125, go_sem, pk]) rfl ⟨rfl, ?_⟩
  exact below_box _ _
end Go.Proofs.YtokmgbidmnanpaaGreatDoor
namespace Go.Proofs.YtokmgbidmnanpaaGreatDoor
open Go.RowKit Go.Shelf
end Go.Proofs.YtokmgbidmnanpaaGreatDoor
namespace Go.Proofs.YtokmgbidmnanpaaGreatDoor
open Go.RowKit Go.Shelf
end Go.Proofs.YtokmgbidmnanpaaGreatDoor
