import Derived.Test.YtokmgbidmnanpaaGreatDoorB3
import Derived.Test.YtokmgbidmnanpaaGreatDoorB2
import Derived.Shelf.Strings.BuilderK
import Derived.Lib.FrozenHead2
import Derived.Lib.OthersKept
import Derived.Shelf.RegionOpenPlain
import Derived.Laws.Externs
import Derived.Lib.Walk
import Derived.Deep.AppendLies
import Derived.Deep.QuietTactic
import Derived.BigQuiet
import Derived.Deep.RegionHeld3
set_option linter.unusedSimpArgs false
set_option linter.unusedVariables false
namespace Go.Proofs.YtokmgbidmnanpaaGreatDoor
open Go.RowKit
def typeIx (p : Pt) (s : ByteArray) : Int := firstTo (fun i => (tth p.types i).name.toList == s.toList) p.types.length
def typeOr (p : Pt) (s : ByteArray) : T := if 0 ≤ typeIx p s then tth p.types (typeIx p s).toNat else T.zero
theorem FsRep.nil (w : World) (P : Nat → Prop) (a : Option Addr) : FsRep w P [] a := ⟨by simp, fun _ _ => undef, fun h => by simp at h, fun i hi => by simp at hi⟩
theorem TRep.zero (w : World) (P : Nat → Prop) : TRep w P T.zero (.agg #[.string ByteArray.empty, .string ByteArray.empty, .slice none 0 0]) :=
  ⟨none, 0, rfl, FsRep.nil _ _ _, Nat.le_refl _, by simp [T.zero, maxLen], by simp [T.zero, maxLen]⟩
theorem TRep.parts {w : World} {P : Nat → Prop} {t : T} {c0 c1 c2 : Value} (h : TRep w P t (.agg #[c0, c1, c2])) :
    ∃ (fa : Option Addr) (fc : Nat), c0 = .string t.name ∧ c1 = .string t.key ∧ c2 = .slice fa t.fields.length fc ∧ FsRep w P t.fields fa ∧ t.fields.length ≤ fc ∧ t.name.size ≤ maxLen ∧ t.key.size ≤ maxLen := by
  obtain ⟨fa, fc, hv, h2, h3, h4, h5⟩ := h
  simp only [Value.agg.injEq, Array.mk.injEq, List.cons.injEq, and_true] at hv
  exact ⟨fa, fc, hv.1, hv.2.1, hv.2.2, h2, h3, h4, h5⟩
theorem box_new {w : World} (cs : Array Value) (T : TypeId) (i : Nat) (hi : i < cs.size) : (w.alloc (.cells cs T)).cell? ⟨w.heap.size, i, none⟩ = some cs[i] := by
  rw [cell_of_row (w.alloc (.cells cs T)) w.heap.size i cs T (0, 0) (heap_alloc_new w _)]
  simp [hi]
def fieldOr (t : T) (s : ByteArray) : F := if 0 ≤ fieldIx t s then fth t.fields (fieldIx t s).toNat else F.zero
theorem FRep.zero (w : World) (P : Nat → Prop) : FRep w P F.zero (.agg #[.string ByteArray.empty, .string ByteArray.empty, .bool false, .bool false, .bool false, .bool false, .bool false, .slice none 0 0]) :=
  ⟨none, 0, rfl, ⟨fun h => absurd rfl h, fun i => by simp [F.zero, nth, maxLen], by simp [F.zero, maxLen]⟩, Nat.le_refl _, by simp [F.zero, maxLen], by simp [F.zero, maxLen], by simp [F.zero]⟩
end Go.Proofs.YtokmgbidmnanpaaGreatDoor
namespace Go.Proofs.YtokmgbidmnanpaaGreatDoor
open Go.RowKit Go.Maps
structure Only (O : Nat → Prop) (w w' : World) : Prop where
  os : w'.os = w.os
  tape : w'.tape = w.tape
  output : w'.output = w.output
  size : w.heap.size ≤ w'.heap.size
  block : ∀ b, b < w.heap.size → ¬ O b → w'.heap[b]? = w.heap[b]?
theorem Only.refl (O : Nat → Prop) (w : World) : Only O w w := ⟨rfl, rfl, rfl, Nat.le_refl _, fun _ _ _ => rfl⟩
theorem Only.trans {O O' : Nat → Prop} {a b c : World} (h : Only O a b) (k : Only O' b c) (hO : ∀ x, x < a.heap.size → O' x → O x) : Only O a c :=
  ⟨k.os.trans h.os, k.tape.trans h.tape, k.output.trans h.output, Nat.le_trans h.size k.size, fun x hx hn => (k.block x (Nat.lt_of_lt_of_le hx h.size) fun q => hn (hO x hx q)).trans (h.block x hx hn)⟩
theorem Only.of_below {w w' : World} (O : Nat → Prop) (h : Below w.heap.size w w') : Only O w w' := ⟨h.os, h.tape, h.output, h.size, fun b hb _ => h.block b hb⟩
theorem Only.below {O : Nat → Prop} {w w' : World} {B : Nat} (h : Only O w w') (hB : B ≤ w.heap.size) (hO : ∀ b, b < B → ¬ O b) : Below B w w' := ⟨h.os, h.tape, h.output, h.size, fun b hb => h.block b (Nat.lt_of_lt_of_le hb hB) (hO b hb)⟩
theorem Only.imp {O O' : Nat → Prop} {w w' : World} (h : Only O w w') (hO : ∀ b, b < w.heap.size → O b → O' b) : Only O' w w' := ⟨h.os, h.tape, h.output, h.size, fun b hb hn => h.block b hb fun q => hn (hO b hb q)⟩
theorem Only.set {O : Nat → Prop} {a w : World} (h : Only O a w) (N i : Nat) (hN : O N ∨ a.heap.size ≤ N) (v : Value) : Only O a (w.setCell ⟨N, i, none⟩ v) :=
  ⟨h.os, h.tape, h.output, by rw [size_set]; exact h.size, fun b hb hn => (Below.heap_setCell _ _ _ _ (fun e => by subst e; rcases hN with q | q; exact hn q; omega)).trans (h.block b hb hn)⟩
theorem Only.alloc {O : Nat → Prop} {a w : World} (h : Only O a w) (o : Obj) : Only O a (w.alloc o) := h.trans (Only.of_below O (below_box w o)) fun _ _ q => q
theorem Only.grown {O : Nat → Prop} {a w w' : World} {row : Option Nat} (h : Only O a w) (hg : w.grownBy w' row) (hr : ∀ k, row = some k → O k ∨ a.heap.size ≤ k) : Only O a w' :=
  ⟨hg.os.trans h.os, hg.tape.trans h.tape, hg.output.trans h.output, Nat.le_trans h.size hg.size, fun b hb hn => (hg.block b (Nat.lt_of_lt_of_le hb h.size) (fun e => by rcases hr b e.symm with q | q; exact hn q; omega)).trans (h.block b hb hn)⟩
def RdOk (w : World) (rb cb q : Nat) : Prop := ∃ (p n bc : Nat) (ba : Option Addr) (off : Nat), p ≤ q ∧ n ≤ 2000 ∧ rb ≠ cb ∧ w.heap[rb]? = some (.cells #[.slice ba n bc, .int .i64 p] 134 (0, 0)) ∧ cb < w.heap.size ∧ (0 < n → ba = some ⟨cb, off, none⟩) ∧ ∀ i, i < n → ∃ x : Nat, x < 256 ∧ w.cell? ⟨cb, off + i, none⟩ = some (.int .u8 x)
theorem RdOk.keep {w w' : World} {rb cb q : Nat} (h : RdOk w rb cb q) (h1 : w'.heap[rb]? = w.heap[rb]?) (h2 : w'.heap[cb]? = w.heap[cb]?) (hs : w.heap.size ≤ w'.heap.size) : RdOk w' rb cb q := by
  obtain ⟨p, n, bc, ba, off, a1, a2, a3, a4, a5, a6, a7⟩ := h
  exact ⟨p, n, bc, ba, off, a1, a2, a3, h1.trans a4, by omega, a6, fun i hi => by obtain ⟨x, hx, hc⟩ := a7 i hi; exact ⟨x, hx, (World.cell?_of_block (a := ⟨cb, off + i, none⟩) h2).trans hc⟩⟩
theorem RdOk.lt {w : World} {rb cb q : Nat} (h : RdOk w rb cb q) : rb < w.heap.size ∧ cb < w.heap.size ∧ rb ≠ cb := by
  obtain ⟨p, n, bc, ba, off, a1, a2, a3, a4, a5, a6, a7⟩ := h
  exact ⟨(Array.getElem?_eq_some_iff.1 a4).1, a5, a3⟩
theorem RdOk.only {O : Nat → Prop} {w w' : World} {rb cb q : Nat} (h : RdOk w rb cb q) (ho : Only O w w') (h1 : ¬ O rb) (h2 : ¬ O cb) : RdOk w' rb cb q :=
  h.keep (ho.block _ h.lt.1 h1) (ho.block _ h.lt.2.1 h2) ho.size
theorem RdOk.le {w : World} {rb cb q q' : Nat} (h : RdOk w rb cb q) (hq : q ≤ q') : RdOk w rb cb q' := by
  obtain ⟨p, n, bc, ba, off, a1, a⟩ := h
  exact ⟨p, n, bc, ba, off, by omega, a⟩
end Go.Proofs.YtokmgbidmnanpaaGreatDoor
namespace Go.Proofs.YtokmgbidmnanpaaGreatDoor
open Go.RowKit
def needHead (t : T) (f : F) : Bool := isT f.of [105, 110, 116] && !f.list && !f.far && !f.must && !t.key.toList.isEmpty && !(f.name.toList == t.key.toList)
def needed (g : F) : Bool := !decide (0 < (g.needs.length : Int)) && isT g.of [105, 110, 116] && !g.list
def needAt (t : T) (f : F) (i : Nat) : Bool := decide (0 ≤ fieldIx t (nth f.needs i)) && needed (fth t.fields (fieldIx t (nth f.needs i)).toNat) && (i == 0 || Op.bytesLess (nth f.needs (i - 1)).toList (nth f.needs i).toList)
def needTo (t : T) (f : F) (n : Nat) : Bool := (List.range n).all fun i => needAt t f i
theorem needTo_succ (t : T) (f : F) (n : Nat) : needTo t f (n + 1) = (needTo t f n && needAt t f n) := by simp [needTo, List.range_succ]
theorem needTo_false (t : T) (f : F) (n k : Nat) (hk : k < n) (h : needAt t f k = false) : needTo t f n = false := by
  rw [needTo, List.all_eq_false]; exact ⟨k, by simpa using hk, by simpa using h⟩
def needsB (t : T) (f : F) : Bool := (f.needs.isEmpty || needHead t f) && needTo t f f.needs.length
set_option maxHeartbeats 1600000 in
theorem l2Needs_none (t : T) (f : F) (w : World) (v u : Value) (B : Nat) (hR : TRep w (· < B) t v) (hF : FRep w (· < B) f u) (hB : B ≤ w.heap.size) (h0 : f.needs = []) :
    Calls Tryz.prog 121 #[v, u] w fun e w' => e = .returned (.bool (needsB t f)) ∧ Below w.heap.size w w' := by
  obtain ⟨tn, key, fields⟩ := t
  obtain ⟨fa, fc, rfl, hK, -⟩ := hR
  obtain ⟨na, nc, rfl, -⟩ := hF
  obtain ⟨name, of, l, m, fr, hi, sh, needs⟩ := f
  simp only at h0
  subst h0
  go_enter Tryz.func121, Tryz.ntmps121
  go_wp2_with fail
  go_loop [5, 6] (fun i _ => i = .int .i64 0) (fun _ _ => 0)
  case atStart => rfl
  case round =>
    subst hrel
    go_wp2_with fail
    go_ret
    exact ⟨ret_bool (by simp [needsB, needTo]), below_box2 _ _ _⟩
set_option maxHeartbeats 1600000 in
theorem l2Needs_head (t : T) (f : F) (w : World) (v u : Value) (B : Nat) (hR : TRep w (· < B) t v) (hF : FRep w (· < B) f u) (hB : B ≤ w.heap.size) (h0 : 0 < f.needs.length) (hh : needHead t f = false) :
    Calls Tryz.prog 121 #[v, u] w fun e w' => e = .returned (.bool (needsB t f)) ∧ Below w.heap.size w w' := by
  have hb : Hid (needsB t f = false) := by
    show _ = _
    have : f.needs.isEmpty = false := by cases h : f.needs with
      | nil => simp [h] at h0
      | cons a b => rfl
    simp only [needsB, this, hh]; rfl
  obtain ⟨tn, key, fields⟩ := t
  obtain ⟨fa, fc, rfl, hK, -⟩ := hR
  obtain ⟨na, nc, rfl, -⟩ := hF
  obtain ⟨name, of, l, m, fr, hi, sh, needs⟩ := f
  simp only at h0
  have h0' : (0 : Int) < (needs.length : Int) := by omega
  simp only [needHead, isT] at hh
  cases h1 : (of.toList == [105, 110, 116])
  case false =>
    clear hh
    go_enter Tryz.func121, Tryz.ntmps121
    go_wp2_with fail
    go_ret
    exact ⟨ret_bool hb.out.symm, below_box2 _ _ _⟩
  cases l
  case true =>
    clear hh
    go_enter Tryz.func121, Tryz.ntmps121
    go_wp2_with fail
    go_ret
    exact ⟨ret_bool hb.out.symm, below_box2 _ _ _⟩
  cases fr
  case true =>
    clear hh
    go_enter Tryz.func121, Tryz.ntmps121
    go_wp2_with fail
    go_ret
    exact ⟨ret_bool hb.out.symm, below_box2 _ _ _⟩
  cases m
  case true =>
    clear hh
    go_enter Tryz.func121, Tryz.ntmps121
    go_wp2_with fail
    go_ret
    exact ⟨ret_bool hb.out.symm, below_box2 _ _ _⟩
  cases h2 : key.toList.isEmpty
  case true =>
    clear hh
    go_enter Tryz.func121, Tryz.ntmps121
    go_wp2_with fail
    go_ret
    exact ⟨ret_bool hb.out.symm, below_box2 _ _ _⟩
  have h3 : (name.toList == key.toList) = true := by
    rw [h1, h2] at hh; simpa using hh
  clear hh
  go_enter Tryz.func121, Tryz.ntmps121
  go_wp2_with fail
  go_ret
  exact ⟨ret_bool hb.out.symm, below_box2 _ _ _⟩
end Go.Proofs.YtokmgbidmnanpaaGreatDoor
namespace Go.Proofs.YtokmgbidmnanpaaGreatDoor
open Go.RowKit
def decL (n : Nat) : List UInt8 := if h : n < 10 then [UInt8.ofNat (48 + n)] else decL (n / 10) ++ [UInt8.ofNat (48 + n % 10)]
termination_by n
decreasing_by omega
theorem decL_small {n : Nat} (h : n < 10) : decL n = [UInt8.ofNat (48 + n)] := by rw [decL, dif_pos h]
theorem decL_big {n : Nat} (h : ¬ n < 10) : decL n = decL (n / 10) ++ [UInt8.ofNat (48 + n % 10)] := by rw [decL, dif_neg h]
theorem decL_len : ∀ (d n : Nat), n < 10 ^ (d + 1) → (decL n).length ≤ d + 1
  | d, n, h => by
    by_cases hn : n < 10
    · rw [decL_small hn]; simp
    · rw [decL_big hn]
      cases d with
      | zero => simp at h; omega
      | succ d =>
        have := decL_len d (n / 10) (by rw [Nat.pow_succ] at h; omega)
        simp; omega
def headL (s : Se) : List UInt8 := (if s.al.toList.isEmpty = true then [] else s.al.toList ++ [58]) ++ s.name.toList ++ (if s.one = true then 40 :: decL s.id.toNat ++ [41] else [])
def txtTo : Nat → List Se → Nat → List UInt8
  | 0, _, _ => []
  | f + 1, ks, n => (List.range n).flatMap fun i => (if i = 0 then [] else [44]) ++ headL (sth ks i) ++ (if (sth ks i).kids.isEmpty = true then [] else 123 :: txtTo f (sth ks i).kids (sth ks i).kids.length ++ [125])
theorem txtTo_succ (f : Nat) (ks : List Se) (n : Nat) : txtTo (f + 1) ks (n + 1) = txtTo (f + 1) ks n ++ ((if n = 0 then [] else [44]) ++ headL (sth ks n) ++ (if (sth ks n).kids.isEmpty = true then [] else 123 :: txtTo f (sth ks n).kids (sth ks n).kids.length ++ [125])) := by
  simp [txtTo, List.range_succ]
def txtL (f : Nat) (ks : List Se) : List UInt8 := 123 :: txtTo f ks ks.length ++ [125]
theorem name_size {s : ByteArray} (h : nameB s = true) : s.size ≤ 8 := by
  simp only [nameB, Bool.and_eq_true, decide_eq_true_eq] at h
  exact h.1.1.1.1.1.1.1.1.1.2
theorem toList_len (s : ByteArray) : s.toList.length = s.size := by rw [ByteArray.toList_eq]; simp
theorem selB_id {s : Se} (h : selB s = true) : 0 ≤ s.id ∧ s.id ≤ 999999 := by
  simp only [selB, Bool.and_eq_true, decide_eq_true_eq] at h
  exact h.2
theorem headL_len {s : Se} (h : selB s = true) : (headL s).length ≤ 25 := by
  have hid := selB_id h
  have h1 := decL_len 5 s.id.toNat (by omega)
  simp only [selB, Bool.and_eq_true, Bool.or_eq_true] at h
  have h2 := name_size h.1.1.1
  have h3 := toList_len s.name
  have h4 : (if s.al.toList.isEmpty = true then ([] : List UInt8) else s.al.toList ++ [58]).length ≤ 9 := by
    split
    · simp
    · rename_i hne
      rcases h.1.1.2 with h5 | h5
      · exact absurd h5 hne
      · have := name_size h5.1
        have := toList_len s.al
        simp; omega
  have h5 : (if s.one = true then 40 :: decL s.id.toNat ++ [41] else []).length ≤ 8 := by
    split
    · simp; omega
    · simp
  unfold headL
  rw [List.length_append, List.length_append]
  omega
theorem txtTo_len : ∀ (f d : Nat) (ks : List Se) (n : Nat), n ≤ ks.length → FitS f ks → okTo f d ks n = true → (txtTo f ks n).length ≤ 28 * cntTo f ks n
  | 0, d, ks, n, hn, hf, h => by simp [txtTo]
  | f + 1, d, ks, 0, hn, hf, h => by simp [txtTo]
  | f + 1, d, ks, n + 1, hn, hf, h => by
    rw [okTo_succ] at h
    simp only [Bool.and_eq_true] at h
    obtain ⟨h1, ⟨h2, -⟩, -, h3⟩ := h
    have i1 := txtTo_len (f + 1) d ks n (by omega) hf h1
    have i2 := txtTo_len f (d + 1) (sth ks n).kids _ (Nat.le_refl _) (hf n (by omega)) h3
    have i3 := headL_len h2
    rw [txtTo_succ, cntTo_succ, cntSe_kids]
    have e1 : (if n = 0 then ([] : List UInt8) else [44]).length ≤ 1 := by split <;> simp
    have e2 : (if (sth ks n).kids.isEmpty = true then ([] : List UInt8) else 123 :: txtTo f (sth ks n).kids (sth ks n).kids.length ++ [125]).length ≤ 2 + (txtTo f (sth ks n).kids (sth ks n).kids.length).length := by
      split
      · simp
      · simp; omega
    rw [List.length_append, List.length_append, List.length_append]
    omega
end Go.Proofs.YtokmgbidmnanpaaGreatDoor
namespace Go.Proofs.YtokmgbidmnanpaaGreatDoor
open Go.RowKit
theorem FitS.le : ∀ {f g : Nat} {ks : List Se}, FitS f ks → f ≤ g → FitS g ks
  | 0, 0, ks, h, _ => h
  | 0, g + 1, ks, h, _ => by
    have e : ks = [] := h
    subst e
    exact fun i hi => by simp at hi
  | f + 1, 0, ks, h, hg => by omega
  | f + 1, g + 1, ks, h, hg => fun i hi => (h i hi).le (by omega)
theorem cnt_one (f : Nat) (ks : List Se) : ∀ (n i : Nat), i < n → cntSe f (sth ks i) ≤ cntTo f ks n
  | 0, i, h => by omega
  | n + 1, i, h => by
    rw [cntTo_succ]
    by_cases e : i = n
    · subst e; omega
    · have := cnt_one f ks n i (by omega)
      omega
theorem FitS.few : ∀ (f : Nat) {ks : List Se}, FitS f ks → ∀ m, cntTo f ks ks.length ≤ m → FitS m ks
  | 0, ks, h, m, hm => h.le (Nat.zero_le _)
  | f + 1, ks, h, m, hm => by
    cases m with
    | zero =>
      cases ks with
      | nil => rfl
      | cons a l =>
        have := cnt_one (f + 1) (a :: l) (a :: l).length 0 (by simp)
        rw [cntSe_kids] at this
        omega
    | succ m =>
      intro i hi
      have := cnt_one (f + 1) ks ks.length i hi
      rw [cntSe_kids] at this
      exact FitS.few f (h i hi) m (by omega)
end Go.Proofs.YtokmgbidmnanpaaGreatDoor
namespace Go.Proofs.YtokmgbidmnanpaaGreatDoor
open Go.RowKit Go.Shelf
def AskT (B b : Nat) (m : Value) (l : List UInt8) (w : World) : Prop :=
  B ≤ b ∧ ∃ p v, (p = .pointer none ∨ p = .pointer (some ⟨b, 0, none⟩)) ∧ w.heap[b]? = some (.cells #[p, v, m] 126 (0, 0)) ∧ w.ownsRowF B 5 1 v l.length (Lib.byteCells l)
def AskU (B b : Nat) (m : Value) (l : List UInt8) (w : World) : Prop :=
  B ≤ b ∧ ∃ v, w.heap[b]? = some (.cells #[.pointer (some ⟨b, 0, none⟩), v, m] 126 (0, 0)) ∧ w.ownsRowF B 5 1 v l.length (Lib.byteCells l)
theorem AskU.t {B b : Nat} {m : Value} {l : List UInt8} {w : World} (h : AskU B b m l w) : AskT B b m l w := by
  obtain ⟨h1, v, h2, h3⟩ := h
  exact ⟨h1, _, v, Or.inr rfl, h2, h3⟩
theorem tag_ne : (126 : TypeId) ≠ 5 := by decide
theorem AskT.lt {B b : Nat} {m : Value} {l : List UInt8} {w : World} (h : AskT B b m l w) : b < w.heap.size := by
  obtain ⟨-, p, v, -, h2, -⟩ := h
  exact (Array.getElem?_eq_some_iff.1 h2).1
theorem AskT.map {B b : Nat} {m : Value} {l : List UInt8} {w : World} (h : AskT B b m l w) : w.cell? ⟨b, 2, none⟩ = some m := by
  obtain ⟨-, p, v, -, h2, -⟩ := h
  rw [Lib.cell_of_heap h2]; rfl
theorem AskT.of_blocks {B b : Nat} {m : Value} {l : List UInt8} {w w' : World} (h : AskT B b m l w) (e : ∀ (k : Nat) (c : Array Value) (t : TypeId) (f : Nat × Nat), (t = 126 ∨ t = 5) → w.heap[k]? = some (Obj.cells c t f) → w'.heap[k]? = some (Obj.cells c t f)) : AskT B b m l w' := by
  obtain ⟨h1, p, v, hp, h2, h3, h4⟩ := h
  refine ⟨h1, p, v, hp, e _ _ _ _ (Or.inl rfl) h2, h3, ?_⟩
  rcases h4 with h4 | ⟨g, cap, cur, fz, hv, hb, hg, r⟩
  · exact Or.inl h4
  · exact Or.inr ⟨g, cap, cur, fz, hv, hb, e _ _ _ _ (Or.inr rfl) hg, r⟩
theorem AskT.below {B b : Nat} {m : Value} {l : List UInt8} {w w' : World} (h : AskT B b m l w) (hb : Below w.heap.size w w') : AskT B b m l w' :=
  h.of_blocks fun k c t f _ hk => (hb.block k (Array.getElem?_eq_some_iff.1 hk).1).trans hk
theorem info_byte : (Tryz.prog.info? 5).map (fun i => (i.zero, i.size, i.bytes)) = some (some (.int .u8 0), 1, 1) := by kernel_rfl
theorem size_builder : (Tryz.prog.info? 122).map (fun i => i.size) = some 2 := by kernel_rfl
theorem lies_builder : liesAt Tryz.prog Tryz.prog.depth 126 (3 / Tryz.prog.cellsOf 126) 0 122 1 = true := by kernel_rfl
set_option maxHeartbeats 1000000 in
set_option maxRecDepth 100000 in
theorem copyCheck_used (b : Nat) (w : World) (h0 : w.cell? ⟨b, 0, none⟩ = some (.pointer (some ⟨b, 0, none⟩))) :
    Calls Tryz.prog 144 #[.pointer (some ⟨b, 0, none⟩)] w fun e w' => e = .returned (.tuple #[]) ∧ w' = w := by
  obtain ⟨j, hj, -⟩ := Option.map_eq_some_iff.1 size_builder
  go_enter Tryz.func144, Tryz.ntmps144
  go_wp2_with fail
  rw [Lib.run_neq_ptr_same w _ Tryz.underlying120 hj]
  go_wp2_with fail
  go_end0
  exact ⟨rfl, rfl⟩
set_option maxHeartbeats 1000000 in
set_option maxRecDepth 100000 in
theorem copyCheck_fresh (b : Nat) (w : World) (h0 : w.cell? ⟨b, 0, none⟩ = some (.pointer none)) (hsh : w.shape? b = some (126, 3)) (hfz : w.frozen? ⟨b, 0, none⟩ = false) :
    Calls Tryz.prog 144 #[.pointer (some ⟨b, 0, none⟩)] w fun e w' => e = .returned (.tuple #[]) ∧ w' = w.setCell ⟨b, 0, none⟩ (.pointer (some ⟨b, 0, none⟩)) := by
  obtain ⟨j, hj, hjs⟩ := Option.map_eq_some_iff.1 size_builder
  have hx := run_callFunc_extern (P := Tryz.prog) Tryz.func162 (by kernel_rfl) (by kernel_rfl) (by kernel_rfl) (e := Extern.AbiNoEscape.same) (by kernel_rfl)
  go_enter Tryz.func144, Tryz.ntmps144
  go_wp2_with fail
  rw [Lib.run_to_unsafe w ⟨b, 0, none⟩ Tryz.underlying120 Tryz.underlying205 hj (by rw [hjs]; decide) hsh (Nat.zero_lt_succ 2)]
  simp only [Result.andThen]
  rw [Oper.upon_value]
  go_wp2_with fail
  rw [Lib.run_noEscape]
  simp only [Result.andThen]
  rw [Oper.upon_value]
  go_wp2_with fail
  rw [Lib.run_from_unsafe w ⟨b, 0, none⟩ Tryz.underlying205 Tryz.underlying120 hj hsh lies_builder]
  simp only [Result.andThen]
  rw [Oper.upon_value]
  go_wp2_with fail
  go_end0
  exact ⟨rfl, rfl⟩
theorem AskT.used {B b : Nat} {m v : Value} {l : List UInt8} {w : World} (hB : B ≤ b) (h : w.heap[b]? = some (.cells #[.pointer none, v, m] 126 (0, 0))) (ho : w.ownsRowF B 5 1 v l.length (Lib.byteCells l)) :
    AskU B b m l (w.setCell ⟨b, 0, none⟩ (.pointer (some ⟨b, 0, none⟩))) := by
  have hne := Lib.ownBlock_neF ho h tag_ne
  refine ⟨hB, v, by rw [set_box h]; rfl, ho.kept (row := some b) ⟨rfl, rfl, rfl, by simp [World.setCell], fun k _ hk => Below.heap_setCell _ _ _ _ (fun e => hk (by simp [e]))⟩ (Or.inr hne)⟩
theorem AskU.put {B b : Nat} {m p v v' : Value} {l' : List UInt8} {w : World} (hB : B ≤ b) (hp : p = .pointer (some ⟨b, 0, none⟩)) (h : w.heap[b]? = some (.cells #[p, v, m] 126 (0, 0))) (ho : w.ownsRowF B 5 1 v' l'.length (Lib.byteCells l')) :
    AskU B b m l' (w.setCell ⟨b, 1, none⟩ v') := by
  subst hp
  have hne := Lib.ownBlock_neF ho h tag_ne
  refine ⟨hB, v', by rw [set_box h]; rfl, ho.kept (row := some b) ⟨rfl, rfl, rfl, by simp [World.setCell], fun k _ hk => Below.heap_setCell _ _ _ _ (fun e => hk (by simp [e]))⟩ (Or.inr hne)⟩
theorem copyCheckA (B b : Nat) (m : Value) (l : List UInt8) (w : World) (h : AskT B b m l w) :
    Calls Tryz.prog 144 #[.pointer (some ⟨b, 0, none⟩)] w fun e w' => e = .returned (.tuple #[]) ∧ AskU B b m l w' ∧ Below B w w' ∧ Kept b w w' := by
  obtain ⟨hB, p, v, hp, hb, ho⟩ := h
  rcases hp with rfl | rfl
  · refine (copyCheck_fresh b w (by rw [Lib.cell_of_heap hb]; rfl) (by simp [World.shape?, hb]) (Lib.frozen_of_heap hb 0)).mono ?_
    rintro e w' ⟨rfl, rfl⟩
    exact ⟨rfl, AskT.used hB hb ho, (Below.refl B w).setCell (p := ⟨b, 0, none⟩) hB _, (Lib.OthersKept.refl _ _ w).setCell ⟨b, 0, none⟩ rfl _⟩
  · refine (copyCheck_used b w (by rw [Lib.cell_of_heap hb]; rfl)).mono ?_
    rintro e w' ⟨rfl, rfl⟩
    exact ⟨rfl, ⟨hB, v, hb, ho⟩, Below.refl B _, Lib.OthersKept.refl _ _ _⟩
set_option maxHeartbeats 1000000 in
set_option maxRecDepth 100000 in
theorem writeStringA (B b : Nat) (m : Value) (l : List UInt8) (s : ByteArray) (w : World) (h : AskT B b m l w) (hlen : l.length + s.size ≤ 140737488355328) (hBw : B ≤ w.heap.size) :
    Calls Tryz.prog 114 #[.pointer (some ⟨b, 0, none⟩), .string s] w fun e w' => e = .returned (.tuple #[.int .i64 s.size, .nilIface]) ∧ AskT B b m (l ++ s.data.toList) w' ∧ Below B w w' ∧ Kept b w w' := by
  obtain ⟨i0, hi, hz0, hz1, hz2⟩ := info_parts info_byte
  have HC := hid_of (copyCheckA B b m l w h)
  go_enter Tryz.func114, Tryz.ntmps114
  go_wp2_with fail
  refine HC.out.mono ?_
  rintro e w1 ⟨rfl, ⟨hB, v, hbk, hown⟩, hb1, hk1⟩
  have hne := Lib.ownBlock_neF hown hbk tag_ne
  have c0 : w1.cell? ⟨b, 0, none⟩ = some (.pointer (some ⟨b, 0, none⟩)) := by rw [Lib.cell_of_heap hbk]; rfl
  have c1 : w1.cell? ⟨b, 1, none⟩ = some v := by rw [Lib.cell_of_heap hbk]; rfl
  have hz1' := hb1.size
  go_wp2_with (
    at_builtin
    refine Lib.wpList_append_own_stringF _ rfl _ _ 22 9 rfl B 5 i0 Tryz.underlying22 Tryz.underlying9 hi hz0 hz1 hz2 _ _ _ rfl hown s rfl (by unfold maxLen; omega) (by omega) (by omega) ?_)
  intro v' w2 hown' hgrow _
  have hlt : b < w1.heap.size := (Array.getElem?_eq_some_iff.1 hbk).1
  have hb2 : w2.heap[b]? = some (.cells #[.pointer (some ⟨b, 0, none⟩), v, m] 126 (0, 0)) := by
    rw [hgrow.block b hlt (fun e => hne e.symm)]
    exact hbk
  have d0 : w2.cell? ⟨b, 0, none⟩ = some (.pointer (some ⟨b, 0, none⟩)) := by rw [Lib.cell_of_heap hb2]; rfl
  have d1 : w2.cell? ⟨b, 1, none⟩ = some v := by rw [Lib.cell_of_heap hb2]; rfl
  have f1 : w2.frozen? ⟨b, 1, none⟩ = false := Lib.frozen_of_heap hb2 1
  have HE := hid_of (And.intro hown' hgrow)
  obtain ⟨ao, n', cap, rfl⟩ : ∃ ao n' cap, v' = .slice ao n' cap := by
    rcases hown'.2 with ⟨hv, _⟩ | ⟨g, cap, cur, fz, hv, _⟩
    · exact ⟨_, _, _, hv⟩
    · exact ⟨_, _, _, hv⟩
  clear hown' hgrow
  go_wp2_with fail
  go_ret2
  obtain ⟨hown', hgrow⟩ := HE.out
  refine ⟨rfl, (AskU.put (l' := l ++ s.data.toList) hB rfl hb2 ?_).t, ?_, ?_⟩
  · rw [Lib.strCells_eq, byteCells_append] at hown'
    simpa using hown'
  · exact (hb1.grown hgrow (by omega) (fun k hk => (hown.lt k hk).1)).setCell (p := ⟨b, 1, none⟩) hB _
  · exact (hk1.grown hgrow (Lib.ownsRowF_kind hown)).setCell ⟨b, 1, none⟩ rfl _
set_option maxHeartbeats 1000000 in
set_option maxRecDepth 100000 in
theorem writeByteA (B b : Nat) (m : Value) (l : List UInt8) (c : UInt8) (w : World) (h : AskT B b m l w) (hlen : l.length + 1 ≤ 140737488355328) (hBw : B ≤ w.heap.size) :
    Calls Tryz.prog 115 #[.pointer (some ⟨b, 0, none⟩), .int .u8 c.toNat] w fun e w' => e = .returned .nilIface ∧ AskT B b m (l ++ [c]) w' ∧ Below B w w' ∧ Kept b w w' := by
  obtain ⟨i0, hi, hz0, hz1, hz2⟩ := info_parts info_byte
  have HC := hid_of (copyCheckA B b m l w h)
  go_enter Tryz.func115, Tryz.ntmps115
  go_wp2_with fail
  refine HC.out.mono ?_
  rintro e w1 ⟨rfl, ⟨hB, v, hbk, hown⟩, hb1, hk1⟩
  have hne := Lib.ownBlock_neF hown hbk tag_ne
  have c0 : w1.cell? ⟨b, 0, none⟩ = some (.pointer (some ⟨b, 0, none⟩)) := by rw [Lib.cell_of_heap hbk]; rfl
  have c1 : w1.cell? ⟨b, 1, none⟩ = some v := by rw [Lib.cell_of_heap hbk]; rfl
  have hz1' := hb1.size
  have hlt : b < w1.heap.size := (Array.getElem?_eq_some_iff.1 hbk).1
  go_wp2_with (
    at_builtin
    refine wpList_append_ownF _ rfl _ _ 22 rfl B 5 i0 (.int .u8 0) 1 1 Tryz.underlying22 hi hz0 hz1 hz2 rfl (by decide) _ _ _ rfl (hown.alloc _) ⟨w1.heap.size, 0, none⟩ 1 1 [.int .u8 c.toNat] rfl rfl (World.news_of_block (heap_alloc_new w1 _)) (by intro u hu; simp at hu; subst hu; rfl) (by unfold maxLen; omega) (by omega) (by simp; omega) ?_)
  intro v' w2 hown' hgrow _
  have hb2 : w2.heap[b]? = some (.cells #[.pointer (some ⟨b, 0, none⟩), v, m] 126 (0, 0)) := by
    rw [hgrow.block b (by simp; omega) (fun e => hne e.symm)]
    exact (Lib.alloc_old w1 _ b hlt).trans hbk
  have d0 : w2.cell? ⟨b, 0, none⟩ = some (.pointer (some ⟨b, 0, none⟩)) := by rw [Lib.cell_of_heap hb2]; rfl
  have d1 : w2.cell? ⟨b, 1, none⟩ = some v := by rw [Lib.cell_of_heap hb2]; rfl
  have f1 : w2.frozen? ⟨b, 1, none⟩ = false := Lib.frozen_of_heap hb2 1
  have HE := hid_of (And.intro hown' hgrow)
  obtain ⟨ao, n', cap, rfl⟩ : ∃ ao n' cap, v' = .slice ao n' cap := by
    rcases hown'.2 with ⟨hv, _⟩ | ⟨g, cap, cur, fz, hv, _⟩
    · exact ⟨_, _, _, hv⟩
    · exact ⟨_, _, _, hv⟩
  clear hown' hgrow
  go_wp2_with fail
  go_ret
  obtain ⟨hown', hgrow⟩ := HE.out
  refine ⟨rfl, (AskU.put (l' := l ++ [c]) hB rfl hb2 ?_).t, ?_, ?_⟩
  · rw [show [Value.int .u8 (c.toNat : Int)] = Lib.byteCells [c] from rfl, byteCells_append] at hown'
    simpa using hown'
  · exact ((hb1.alloc (by omega) _).grown hgrow (by simp; omega) (fun k hk => (hown.lt k hk).1)).setCell (p := ⟨b, 1, none⟩) hB _
  · exact ((hk1.alloc _).grown hgrow (Lib.ownsRowF_kind (hown.alloc _))).setCell ⟨b, 1, none⟩ rfl _
set_option maxHeartbeats 1000000 in
set_option maxRecDepth 100000 in
theorem lenA (B b : Nat) (m : Value) (l : List UInt8) (w : World) (h : AskT B b m l w) :
    Calls Tryz.prog 124 #[.pointer (some ⟨b, 0, none⟩)] w fun e w' => e = .returned (.int .i64 l.length) ∧ w = w' := by
  obtain ⟨hB, p, v, -, hbk, hown⟩ := h
  obtain ⟨ao, cap, rfl⟩ : ∃ ao cap, v = .slice ao l.length cap := by
    rcases hown.2 with ⟨hv, h0⟩ | ⟨g, cap, cur, fz, hv, _⟩
    · exact ⟨none, 0, by rw [hv, h0]⟩
    · exact ⟨_, _, hv⟩
  have c1 : w.cell? ⟨b, 1, none⟩ = some (.slice ao l.length cap) := by rw [Lib.cell_of_heap hbk]; rfl
  go_enter Tryz.func124, Tryz.ntmps124
  go_wp2_with fail
  go_ret
  exact ⟨rfl, rfl⟩
theorem AskT.froze {B b g cap : Nat} {m p : Value} {l : List UInt8} {w : World} (hB : B ≤ b) (hp : p = .pointer none ∨ p = .pointer (some ⟨b, 0, none⟩)) (hbk : w.heap[b]? = some (.cells #[p, .slice (some ⟨g, 0, none⟩) l.length cap, m] 126 (0, 0))) (ho : w.ownsRowF B 5 1 (.slice (some ⟨g, 0, none⟩) l.length cap) l.length (Lib.byteCells l)) :
    AskT B b m l (w.freeze ⟨g, 0, none⟩ l.length) := by
  have hne := Lib.ownBlock_neF ho hbk tag_ne
  have hgb : g ≠ b := fun e => hne (by simp [Value.ownBlock, e])
  unfold World.freeze
  split
  · exact ⟨hB, p, _, hp, hbk, ho⟩
  · refine ⟨hB, p, .slice (some ⟨g, 0, none⟩) l.length cap, hp, ?_, ho.1, ?_⟩
    · simp only [Array.getElem?_modify]
      rw [if_neg hgb]
      exact hbk
    · rcases ho.2 with ⟨hv, _⟩ | ⟨g', cap', cur, fz, hv, hbg, hg, hfz, rest⟩
      · cases hv
      · simp only [Value.slice.injEq, Option.some.injEq, Addr.mk.injEq, and_true, true_and] at hv
        obtain ⟨rfl, rfl⟩ := hv
        obtain ⟨lo, hi⟩ := fz
        refine Or.inr ⟨g, _, cur, (if lo == hi then (0, 0 + l.length) else (min lo 0, max hi (0 + l.length))), rfl, hbg, ?_, ?_, rest⟩
        · simp [Array.getElem?_modify, hg]
        · simp only at hfz
          split <;> simp <;> omega
theorem cells_byte : Tryz.prog.cellsOf 5 = 1 := by kernel_rfl
set_option maxHeartbeats 1000000 in
set_option maxRecDepth 100000 in
theorem stringA (B b : Nat) (m : Value) (l : List UInt8) (w : World) (h : AskT B b m l w) (h0 : l ≠ []) :
    Calls Tryz.prog 86 #[.pointer (some ⟨b, 0, none⟩)] w fun e w' => e = .returned (.string ⟨l.toArray⟩) ∧ AskT B b m l w' ∧ Below B w w' ∧ Kept b w w' := by
  obtain ⟨hB, p, v, hp, hbk, hown⟩ := h
  have hl0 : l.length ≠ 0 := by simpa using h0
  obtain ⟨g, cap, cur, fz, rfl, hbg, hg, hfz, hnc, hcm, hcs, htake⟩ : ∃ g cap cur fz, v = .slice (some ⟨g, 0, none⟩) l.length cap ∧ B ≤ g ∧ w.heap[g]? = some (.cells cur 5 fz) ∧ fz.2 ≤ l.length * 1 ∧ l.length ≤ cap ∧ cap ≤ maxLen ∧ cur.size = cap * 1 ∧ cur.toList.take (l.length * 1) = Lib.byteCells l := by
    rcases hown.2 with ⟨_, hz⟩ | ⟨g, cap, cur, fz, hv, r⟩
    · exact absurd hz hl0
    · exact ⟨g, cap, cur, fz, hv, r⟩
  have c1 : w.drew.cell? ⟨b, 1, none⟩ = some (.slice (some ⟨g, 0, none⟩) l.length cap) := by
    have : w.drew.heap[b]? = some (.cells #[p, .slice (some ⟨g, 0, none⟩) l.length cap, m] 126 (0, 0)) := hbk
    rw [Lib.cell_of_heap this]; rfl
  have hSD : (Builtin.unsafeSliceData_ #[22] 182 #[.slice (some ⟨g, 0, none⟩) l.length cap]).run Tryz.prog w.drew = .ok (.pointer (some ⟨g, 0, none⟩)) w.drew :=
    Lib.run_unsafeSliceData_row _ _ _ _ _ _ (by omega)
  have hUS : (Builtin.unsafeString_ #[182, 3] 9 #[.pointer (some ⟨g, 0, none⟩), .int .i64 l.length]).run Tryz.prog w.drew = .ok (.string ⟨l.toArray⟩) (w.drew.freeze ⟨g, 0, none⟩ l.length) := by
    refine Lib.run_unsafeString_row w.drew 182 3 9 5 Tryz.underlying182 cells_byte g cur.size (by have hg' : w.drew.heap[g]? = some (.cells cur 5 fz) := hg; simp [World.shape?, hg']) l h0 (by omega) (by unfold maxLen at hcm; omega) ?_
    intro j x hx
    exact hown.cells (g := g) rfl j (.int .u8 x.toNat) (by simp [Lib.byteCells, hx])
  have mixed : Tryz.prog.follows Departure.mixedOrders = true := by kernel_rfl
  have HK : Hid (AskT B b m l (w.drew.freeze ⟨g, 0, none⟩ l.length)) := hid_of (AskT.froze (w := w.drew) hB hp hbk hown)
  go_enter Tryz.func86, Tryz.ntmps86
  go_wp2_with fail
  go_region_o
  all_goals
    go_wp2_with fail
    go_ret
    exact ⟨rfl, HK.out, Lib.below_freeze (Below.drew (Below.refl B w)) (p := ⟨g, 0, none⟩) hbg _, ((Lib.OthersKept.refl _ _ w).drew).freeze ⟨g, 0, none⟩ _ ⟨cur, fz, hg⟩⟩
end Go.Proofs.YtokmgbidmnanpaaGreatDoor
namespace Go.Proofs.YtokmgbidmnanpaaGreatDoor
open Go.RowKit
theorem txtTo_fit : ∀ {f : Nat} {ks : List Se} (g n : Nat), FitS f ks → f ≤ g → n ≤ ks.length → txtTo g ks n = txtTo f ks n
  | 0, ks, g, n, h, _, hn => by
    have e : ks = [] := h
    subst e
    have : n = 0 := by simpa using hn
    subst this
    cases g <;> simp [txtTo]
  | f + 1, ks, g, 0, h, hg, hn => by cases g <;> simp [txtTo]
  | f + 1, ks, 0, n + 1, h, hg, hn => by omega
  | f + 1, ks, g + 1, n + 1, h, hg, hn => by
    rw [txtTo_succ, txtTo_succ, txtTo_fit (g + 1) n h hg (by omega), txtTo_fit g _ (h n (by omega)) (by omega) (Nat.le_refl _)]
theorem txtL_fit {f g : Nat} {ks : List Se} (hf : FitS f ks) (hg : FitS g ks) : txtL f ks = txtL g ks := by
  unfold txtL
  rcases Nat.le_total f g with h | h
  · rw [txtTo_fit g _ hf h (Nat.le_refl _)]
  · rw [txtTo_fit f _ hg h (Nat.le_refl _)]
theorem txtTo_pre : ∀ (f : Nat) (ks : List Se) (d n : Nat), d ≤ n → ∃ t, txtTo f ks n = txtTo f ks d ++ t
  | 0, ks, d, n, h => ⟨[], by simp [txtTo]⟩
  | f + 1, ks, d, 0, h => by
    have e : d = 0 := by omega
    subst e
    exact ⟨[], by simp⟩
  | f + 1, ks, d, n + 1, h => by
    by_cases e : d = n + 1
    · subst e; exact ⟨[], by simp⟩
    · obtain ⟨t, ht⟩ := txtTo_pre (f + 1) ks d n (by omega)
      exact ⟨_, by rw [txtTo_succ, ht, List.append_assoc]⟩
def restTo (f : Nat) (ks : List Se) (d : Nat) : List UInt8 := (txtTo f ks ks.length).drop (txtTo f ks d).length ++ [125]
theorem restTo_eq (f : Nat) (ks : List Se) (d : Nat) (h : d ≤ ks.length) : txtTo f ks d ++ restTo f ks d = txtTo f ks ks.length ++ [125] := by
  obtain ⟨t, ht⟩ := txtTo_pre f ks d _ h
  unfold restTo
  rw [ht, List.drop_left, List.append_assoc]
theorem restTo_end (f : Nat) (ks : List Se) : restTo f ks ks.length = [125] := by simp [restTo]
theorem restTo_all (f : Nat) (ks : List Se) : 123 :: restTo f ks 0 = txtL f ks := by
  have h := restTo_eq f ks 0 (Nat.zero_le _)
  have e : txtTo f ks 0 = [] := by cases f <;> simp [txtTo]
  rw [e, List.nil_append] at h
  rw [h]; rfl
theorem restTo_next (f : Nat) (ks : List Se) (d : Nat) (h : d < ks.length) :
    restTo (f + 1) ks d = ((if d = 0 then [] else [44]) ++ headL (sth ks d)) ++ ((if (sth ks d).kids.isEmpty = true then [] else txtL f (sth ks d).kids) ++ restTo (f + 1) ks (d + 1)) := by
  have h1 := restTo_eq (f + 1) ks d (by omega)
  have h2 := restTo_eq (f + 1) ks (d + 1) (by omega)
  rw [← h2, txtTo_succ, List.append_assoc, List.append_cancel_left_eq] at h1
  unfold txtL
  rw [h1]
  simp only [List.append_assoc]
structure Op where
  b : Nat
  o : Nat
  c : Nat
  f : Nat
  g : Nat
  ks : List Se
  d : Nat
  x : Nat
def Op.cells (p : Op) : List Value := [.slice (some ⟨p.b, p.o, none⟩) p.ks.length p.c, .int .i64 p.d, .int .i64 p.x]
def rests : List Op → List UInt8
  | [] => []
  | p :: r => restTo p.f p.ks p.d ++ rests r
theorem rests_len : ∀ r : List Op, r.length ≤ (rests r).length
  | [] => by simp [rests]
  | p :: r => by
    have := rests_len r
    simp only [rests, restTo, List.length_append, List.length_cons, List.length_nil]
    omega
def OpsOk (T : List UInt8) : List UInt8 → List Op → Prop
  | _, [] => True
  | acc, p :: r => p.x ≤ T.length ∧ p.d ≤ p.ks.length ∧ T.drop p.x ++ (acc ++ restTo p.f p.ks p.d) = txtL p.f p.ks ∧ OpsOk T (acc ++ restTo p.f p.ks p.d) r
theorem OpsOk.next {T x : List UInt8} : ∀ {r : List Op} {acc acc' : List UInt8}, OpsOk T acc r → acc = x ++ acc' → OpsOk (T ++ x) acc' r
  | [], _, _, _, _ => trivial
  | p :: r, acc, acc', h, e => by
    obtain ⟨h1, h2, h3, h4⟩ := h
    subst e
    refine ⟨by simp; omega, h2, ?_, OpsOk.next h4 (by rw [List.append_assoc])⟩
    rw [← h3, List.drop_append_of_le_length h1]
    simp
theorem OpsOk.step {T x : List UInt8} {p : Op} {r : List Op} (h : OpsOk T [] (p :: r)) {d : Nat} (hd : d ≤ p.ks.length) (e : restTo p.f p.ks p.d = x ++ restTo p.f p.ks d) : OpsOk (T ++ x) [] ({ p with d := d } :: r) := by
  obtain ⟨h1, h2, h3, h4⟩ := h
  refine ⟨by simp; omega, hd, ?_, ?_⟩
  · rw [← h3, List.drop_append_of_le_length h1, List.nil_append, List.nil_append, e]
    simp
  · exact h4.next (by rw [List.nil_append, e, List.nil_append])
theorem OpsOk.push {T x : List UInt8} {p q : Op} {r : List Op} (h : OpsOk T [] (p :: r)) {d : Nat} (hd : d ≤ p.ks.length) (e : restTo p.f p.ks p.d = x ++ (txtL q.f q.ks ++ restTo p.f p.ks d)) (hq : q.d = 0) (hx : q.x = (T ++ x).length) :
    OpsOk (T ++ x ++ [123]) [] (q :: { p with d := d } :: r) := by
  obtain ⟨h1, h2, h3, h4⟩ := h
  have hall := restTo_all q.f q.ks
  have e2 : restTo p.f p.ks p.d = (x ++ [123]) ++ (restTo q.f q.ks q.d ++ restTo p.f p.ks d) := by
    rw [e, ← hall, hq]; simp
  refine ⟨by rw [hx]; simp, by rw [hq]; omega, ?_, by simp; omega, hd, ?_, ?_⟩
  · rw [hx, List.drop_append_of_le_length (by simp), List.drop_length, hq, ← hall]; rfl
  · rw [← h3, List.append_assoc, List.drop_append_of_le_length h1, List.nil_append, List.nil_append, e2]
    simp
  · rw [List.append_assoc]
    exact h4.next (by rw [List.nil_append, e2, List.nil_append])
theorem OpsOk.pop {T : List UInt8} {p : Op} {r : List Op} (h : OpsOk T [] (p :: r)) (hd : p.d = p.ks.length) : OpsOk (T ++ [125]) [] r ∧ (T ++ [125]).drop p.x = txtL p.f p.ks ∧ p.x ≤ T.length := by
  obtain ⟨h1, h2, h3, h4⟩ := h
  rw [hd, restTo_end] at h3 h4
  refine ⟨h4.next (by simp), ?_, h1⟩
  rw [← h3, List.drop_append_of_le_length h1]; rfl
theorem seN_one {w : World} {P Q : Nat → Prop} : ∀ (f : Nat) {x y : Se} {v : Value}, SeN w P f x v → SeRep w Q y v → x = y
  | 0, _, _, _, h, _ => h.elim
  | f + 1, x, y, v, h, h' => by
    obtain ⟨s, n, o, id, ks⟩ := x
    obtain ⟨s', n', o', id', ks'⟩ := y
    obtain ⟨ka, kc, C, h1, -, -, -, h5, h6⟩ := h
    obtain ⟨ka', kc', g1, -, -, -, C', g5, g6⟩ := h'.inv
    rw [h1] at g1
    simp only [Value.agg.injEq, Array.mk.injEq, List.cons.injEq, and_true, Value.int.injEq, true_and, Value.string.injEq, Value.slice.injEq, Value.bool.injEq] at g1
    obtain ⟨rfl, rfl, rfl, rfl, rfl, e2, rfl⟩ := g1
    simp only at e2 h5 h6
    have hks : ks = ks' := by
      by_cases hn : ks = []
      · subst hn
        exact (List.length_eq_zero_iff.1 e2.symm).symm
      · have hl : 0 < ks.length := List.length_pos_iff.2 hn
        obtain ⟨b, off, rfl, -, hc⟩ := h5 hl
        obtain ⟨b', off', e', -, hc'⟩ := g5 (by omega)
        simp only [Option.some.injEq, Addr.mk.injEq, and_true] at e'
        obtain ⟨rfl, rfl⟩ := e'
        apply List.ext_getElem e2
        intro i hi hi'
        have hC : ∀ j, j < 5 → C i j = C' i j := fun j hj => Option.some.inj ((hc i hi j hj).symm.trans (hc' i hi' j hj))
        have r1 := h6 i hi
        have r2 := g6 i hi'
        rw [← hC 0 (by omega), ← hC 1 (by omega), ← hC 2 (by omega), ← hC 3 (by omega), ← hC 4 (by omega)] at r2
        have := seN_one f r1 r2
        simpa [sth, List.getD_eq_getElem?_getD, List.getElem?_eq_getElem hi, List.getElem?_eq_getElem hi'] using this
    rw [hks]
theorem seReps_one {w : World} {P Q : Nat → Prop} {a c : List Se} {A : Option Addr} (h : SeReps w P a A) (h' : SeReps w Q c A) (hl : a.length = c.length) : a = c := by
  obtain ⟨-, C, h5, h6⟩ := h
  obtain ⟨-, C', g5, g6⟩ := h'
  by_cases hn : a = []
  · subst hn
    exact (List.length_eq_zero_iff.1 hl.symm).symm
  · have hp : 0 < a.length := List.length_pos_iff.2 hn
    obtain ⟨b, off, rfl, -, hc⟩ := h5 hp
    obtain ⟨b', off', e', -, hc'⟩ := g5 (by omega)
    simp only [Option.some.injEq, Addr.mk.injEq, and_true] at e'
    obtain ⟨rfl, rfl⟩ := e'
    apply List.ext_getElem hl
    intro i hi hi'
    have hC : ∀ j, j < 5 → C i j = C' i j := fun j hj => Option.some.inj ((hc i hi j hj).symm.trans (hc' i hi' j hj))
    obtain ⟨f, r1⟩ := h6 i hi
    have r2 := g6 i hi'
    rw [← hC 0 (by omega), ← hC 1 (by omega), ← hC 2 (by omega), ← hC 3 (by omega), ← hC 4 (by omega)] at r2
    have := seN_one f r1 r2
    simpa [sth, List.getD_eq_getElem?_getD, List.getElem?_eq_getElem hi, List.getElem?_eq_getElem hi'] using this
theorem okTo_at {f d : Nat} {ks : List Se} : ∀ {n i : Nat}, okTo (f + 1) d ks n = true → i < n → selB (sth ks i) = true ∧ okTo f (d + 1) (sth ks i).kids (sth ks i).kids.length = true
  | 0, i, _, h => by omega
  | n + 1, i, h, hi => by
    rw [okTo_succ, Bool.and_eq_true] at h
    by_cases e : i = n
    · subst e
      simp only [Bool.and_eq_true] at h
      exact ⟨h.2.1.1, h.2.2.2⟩
    · exact okTo_at h.1 (by omega)
theorem headL_pos {s : Se} (h : selB s = true) : 0 < (headL s).length := by
  simp only [selB, Bool.and_eq_true] at h
  have h1 := h.1.1.1
  simp only [nameB, wordB, Bool.and_eq_true, decide_eq_true_eq] at h1
  have h2 : 1 ≤ s.name.size := h1.1.1.1.1.1.1.1.1.1.1.1.1.1
  have h3 := toList_len s.name
  unfold headL
  rw [List.length_append, List.length_append]
  omega
end Go.Proofs.YtokmgbidmnanpaaGreatDoor
namespace Go.Proofs.YtokmgbidmnanpaaGreatDoor
open Go.RowKit
theorem SeRep.inv2 {w : World} {P : Nat → Prop} {x : Se} {v : Value} (h : SeRep w P x v) : ∃ (ka : Option Addr) (kc : Nat), v = .agg #[.string x.al, .string x.name, .bool x.one, .int .i64 x.id, .slice ka x.kids.length kc] ∧ SeReps w P x.kids ka := by
  obtain ⟨s, n, o, id, ks⟩ := x
  obtain ⟨ka, kc, h1, -, -, h2⟩ := h.inv
  exact ⟨ka, kc, h1, h2⟩
set_option maxHeartbeats 1600000 in
theorem wpSels_any : ∀ (f : Nat) (xs : List Se) (w : World) (B : Nat) (a a' : Option Addr) (c c' : Nat), FitS f xs → SeReps w (· < B) xs a → SeReps w (· < B) xs a' → B ≤ w.heap.size →
    Calls Tryz.prog 18 #[.slice a xs.length c, .slice a' xs.length c'] w fun e w' => e = .returned (.bool true) ∧ Below w.heap.size w w' := by
  intro f
  induction f with
  | zero =>
    intro xs w B a a' c c' hf hK hK' hB
    have e : xs = [] := hf
    subst e
    clear hK hK'
    go_enter Tryz.func18, Tryz.ntmps18
    go_wp2_with fail
    go_loopw [5] (fun i wr => i = .int .i64 0 ∧ wr = w) (fun _ _ => 0)
    case atStart => exact ⟨rfl, rfl⟩
    case round =>
      obtain ⟨rfl, rfl⟩ := hrel
      go_wp2_with fail
      go_ret
      exact ⟨rfl, Below.refl _ _⟩
  | succ f IH =>
    intro xs w B a a' c c' hf hK hK' hB
    have h3 := hK.1
    obtain ⟨-, C, hA, hr⟩ := hK
    obtain ⟨-, C', hA', hr'⟩ := hK'
    have HF := hid_of hf
    clear hf
    go_enter Tryz.func18, Tryz.ntmps18
    go_wp2_with fail
    go_loopw [5] (fun i wr => ∃ k : Nat, k ≤ xs.length ∧ i = .int .i64 k ∧ Below w.heap.size w wr) (fun i _ => xs.length - (intOf i).toNat)
    case atStart => exact ⟨0, Nat.zero_le _, rfl, Below.refl _ _⟩
    case round =>
      obtain ⟨k, hk, rfl, hbel⟩ := hrel
      by_cases hlt : k < xs.length
      · obtain ⟨b, off, rfl, hbB, hc⟩ := hA (by omega)
        obtain ⟨b', off', rfl, hbB', hd⟩ := hA' (by omega)
        clear hA hA'
        obtain ⟨ka, kc, he, hK⟩ := (hr k hlt).inv2
        obtain ⟨ka', kc', he', hK'⟩ := (hr' k hlt).inv2
        simp only [Value.agg.injEq, Array.mk.injEq, List.cons.injEq, and_true] at he he'
        obtain ⟨e0, e1, e2, e3, e4⟩ := he
        obtain ⟨g0, g1, g2, g3, g4⟩ := he'
        have HX : Hid (∀ W, Below w.heap.size w W → (W.cell? ⟨b, off + k * 5, none⟩ = some (.string (sth xs k).al) ∧ W.cell? ⟨b, off + k * 5 + 1, none⟩ = some (.string (sth xs k).name) ∧ W.cell? ⟨b, off + k * 5 + 2, none⟩ = some (.bool (sth xs k).one) ∧ W.cell? ⟨b, off + k * 5 + 3, none⟩ = some (.int .i64 (sth xs k).id) ∧ W.cell? ⟨b, off + k * 5 + 4, none⟩ = some (.slice ka (sth xs k).kids.length kc)) ∧ W.cell? ⟨b', off' + k * 5, none⟩ = some (.string (sth xs k).al) ∧ W.cell? ⟨b', off' + k * 5 + 1, none⟩ = some (.string (sth xs k).name) ∧ W.cell? ⟨b', off' + k * 5 + 2, none⟩ = some (.bool (sth xs k).one) ∧ W.cell? ⟨b', off' + k * 5 + 3, none⟩ = some (.int .i64 (sth xs k).id) ∧ W.cell? ⟨b', off' + k * 5 + 4, none⟩ = some (.slice ka' (sth xs k).kids.length kc')) := hid_of fun W hW => by
          have hck : ∀ j, j < 5 → W.cell? ⟨b, off + k * 5 + j, none⟩ = some (C k j) := fun j hj => (hW.cell (p := ⟨b, off + k * 5 + j, none⟩) (by show b < _; omega)).trans (hc k hlt j hj)
          have hdk : ∀ j, j < 5 → W.cell? ⟨b', off' + k * 5 + j, none⟩ = some (C' k j) := fun j hj => (hW.cell (p := ⟨b', off' + k * 5 + j, none⟩) (by show b' < _; omega)).trans (hd k hlt j hj)
          have a0 := hck 0 (by omega)
          have a1 := hck 1 (by omega)
          have a2 := hck 2 (by omega)
          have a3 := hck 3 (by omega)
          have a4 := hck 4 (by omega)
          have b0 := hdk 0 (by omega)
          have b1 := hdk 1 (by omega)
          have b2 := hdk 2 (by omega)
          have b3 := hdk 3 (by omega)
          have b4 := hdk 4 (by omega)
          rw [e0, Nat.add_zero] at a0
          rw [e1] at a1
          rw [e2] at a2
          rw [e3] at a3
          rw [e4] at a4
          rw [g0, Nat.add_zero] at b0
          rw [g1] at b1
          rw [g2] at b2
          rw [g3] at b3
          rw [g4] at b4
          exact ⟨⟨a0, a1, a2, a3, a4⟩, b0, b1, b2, b3, b4⟩
        clear hc hd e0 e1 e2 e3 e4 g0 g1 g2 g3 g4
        have HI := hid_of (fun W (hW : Below w.heap.size w W) => IH (sth xs k).kids W B ka ka' kc kc' (HF.out k hlt) (hK.under (hW.mono hB)) (hK'.under (hW.mono hB)) (by have := hW.size; omega))
        clear hr hr' hK hK' IH
        generalize sth xs k = s at *
        obtain ⟨al, nm, one, id, ks⟩ := s
        simp only at HX HI
        have HB := hid_of hbel
        obtain ⟨⟨a0, a1, a2, a3, a4⟩, d0, d1, d2, d3, d4⟩ := HX.out wr.drew hbel.drew
        go_wp2_with fail
        go_region_held3 (fun w' => (w'.cell? ⟨b, off + k * 5, none⟩ = some (.string al) ∧ w'.cell? ⟨b, off + k * 5 + 1, none⟩ = some (.string nm) ∧ w'.cell? ⟨b, off + k * 5 + 2, none⟩ = some (.bool one) ∧ w'.cell? ⟨b, off + k * 5 + 3, none⟩ = some (.int .i64 id) ∧ w'.cell? ⟨b, off + k * 5 + 4, none⟩ = some (.slice ka ks.length kc)) ∧ w'.cell? ⟨b', off' + k * 5, none⟩ = some (.string al) ∧ w'.cell? ⟨b', off' + k * 5 + 1, none⟩ = some (.string nm) ∧ w'.cell? ⟨b', off' + k * 5 + 2, none⟩ = some (.bool one) ∧ w'.cell? ⟨b', off' + k * 5 + 3, none⟩ = some (.int .i64 id) ∧ w'.cell? ⟨b', off' + k * 5 + 4, none⟩ = some (.slice ka' ks.length kc')) (first | exact ⟨⟨a0, a1, a2, a3, a4⟩, d0, d1, d2, d3, d4⟩ | exact HX.out w1 hb1)
          (first
            | (
              go_at_call 18
              refine (HI.out _ HB.out.drew).mono ?_
              rintro e w1 ⟨rfl, hby⟩
              have hb1 : Below w.heap.size w w1 := HB.out.drew.trans (hby.mono (by have := HB.out.size; simpa using this))))
        all_goals
          go_wp2_with fail
          go_roundw
          case rel => exact ⟨k + 1, by omega, by go_num, hb1⟩
          case measure => simp [intOf]; omega
      · go_wp2_with fail
        go_ret
        exact ⟨rfl, hbel⟩
end Go.Proofs.YtokmgbidmnanpaaGreatDoor
