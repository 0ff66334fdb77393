import Derived.Test.YtdohgkokoicjlaaProg
import Derived.RowKit
import Derived.Deep.RegionHeld3
import Derived.Deep.DeepCutAuto
import Derived.Test.YtdohgkokoicjlaaRows
import Derived.WalkKit
import Derived.WalkSpells
import Derived.WalkLawsBesides
import Derived.Deep.OwnRows
import Derived.Deep.QuietTactic
import Derived.BigQuiet
import Derived.Below
set_option linter.unusedSimpArgs false
set_option linter.unusedVariables false
namespace Go.Proofs.Ytdohgkokoicjlaa
open Go.RowKit
section
variable {P : Program} {ops : Array Oper} {Q : Exit → Act → World → Prop} {md : Region.Mode} {S : World → Prop}
theorem tkH (i : Nat) {oi : Oper} {v : Value} {fuel : Nat} {listed l' : Array Bool} {a a' : Act} {w : World} (hS : S w) (h : wpAnyH P md ops Q S fuel l' a' w)
    (hi : ops.toList[i]? = some oi := by exact rfl) (hs : Region.noSelect ops = true := by kernel_rfl) (hf : Region.free md ops listed i = true := by kernel_rfl) (hr : (Region.ready md ops listed).contains i = true := by kernel_rfl)
    (hw : Region.wanted oi (yielded ops a.tmps) = true := by exact rfl)
    (hy : ∀ w', S w' → (execOp a.eval oi).run P w' = .ok (.value v) w' := by (intro w' hSw; (try dsimp only at hSw); go_simp; try with_reducible rfl))
    (hQ : ∀ c a w, Q (.panic c) (a.put oi.dst v) w → Q (.panic c) a w := by exact fun _ _ _ h => h)
    (ha : a.put oi.dst v = a' := by ((try simp only [Act.put, List.setIfInBounds_toArray, List.set_cons_zero, List.set_cons_succ]); try rfl))
    (hl : listed.setIfInBounds i true = l' := by ((try simp only [List.setIfInBounds_toArray, List.set_cons_zero, List.set_cons_succ]); try rfl)) : wpAnyH P md ops Q S (fuel + 1) listed a w := by
  subst ha hl
  exact wpAnyH_take (by rw [← Array.getElem?_toList]; exact hi) hs hf hr hQ (Or.inl ⟨hw, hy⟩) hS h
theorem tnH (i : Nat) {oi : Oper} {fuel : Nat} {listed l' : Array Bool} {a a' : Act} {w : World} (hS : S w) (h : wpAnyH P md ops Q S fuel l' a' w)
    (hi : ops.toList[i]? = some oi := by exact rfl) (hs : Region.noSelect ops = true := by kernel_rfl) (hf : Region.free md ops listed i = true := by kernel_rfl) (hr : (Region.ready md ops listed).contains i = true := by kernel_rfl)
    (hw : Region.wanted oi (yielded ops a.tmps) = false := by exact rfl)
    (hQ : ∀ c a w, Q (.panic c) (a.put oi.dst undef) w → Q (.panic c) a w := by exact fun _ _ _ h => h)
    (ha : a.put oi.dst undef = a' := by ((try simp only [Act.put, List.setIfInBounds_toArray, List.set_cons_zero, List.set_cons_succ]); try rfl))
    (hl : listed.setIfInBounds i true = l' := by ((try simp only [List.setIfInBounds_toArray, List.set_cons_zero, List.set_cons_succ]); try rfl)) : wpAnyH P md ops Q S (fuel + 1) listed a w := by
  subst ha hl
  exact wpAnyH_take (by rw [← Array.getElem?_toList]; exact hi) hs hf hr hQ (Or.inr ⟨hw, rfl⟩) hS h
theorem rdyH (rs : List Nat) {fuel : Nat} {listed : Array Bool} {a : Act} {w : World} (h : AllReadyH P md ops Q S fuel listed a w rs) (hr : Region.ready md ops listed = rs := by kernel_rfl) (hne : rs ≠ [] := by simp) : wpAnyH P md ops Q S (fuel + 1) listed a w := wpAnyH_ready hr hne h
theorem rcH {fuel : Nat} {listed : Array Bool} {a : Act} {w : World} {i : Nat} {o : Oper} {rs : List Nat}
    (h : ∀ K' : Act → World → Prop, Shut (∀ a w, S w → (S w → wpAnyH P md ops Q S fuel (listed.setIfInBounds i true) a w) → K' a w) → if Region.wanted o (yielded ops a.tmps) = true then Oper.wp P o a w K' Q else K' (a.put o.dst undef) w)
    (hs : AllReadyH P md ops Q S fuel listed a w rs) (ho : ops.toList[i]? = some o := by exact rfl) : AllReadyH P md ops Q S fuel listed a w (i :: rs) := AllReadyH.cons (by rw [← Array.getElem?_toList]; exact ho) h hs
end
end Go.Proofs.Ytdohgkokoicjlaa
namespace Go.Proofs.Ytdohgkokoicjlaa
open Go.RowKit
theorem ret_bool {a b : Bool} (h : a = b) : Ending.returned (.bool a) = .returned (.bool b) := by rw [h]
theorem ret_int {k : IntKind} {a b : Int} (h : a = b) : Ending.returned (.int k a) = .returned (.int k b) := by rw [h]
def digB (c : Int) : Bool := decide (48 ≤ c) && decide (c ≤ 57)
def wbB (c : Int) : Bool := decide (97 ≤ c) && decide (c ≤ 122) || (c == 95) || digB c
set_option maxHeartbeats 400000 in
theorem isDigit_any (c : Int) (w : World) :
    Calls Try.prog 76 #[.int .u8 c] w fun e w' => e = .returned (.bool (digB c)) ∧ w = w' := by
  by_cases h1 : 48 ≤ c <;> by_cases h2 : c ≤ 57 <;>
  · go_enter Try.func76, Try.ntmps76
    go_wp2
    go_ret
    exact ⟨by simp [digB, h1, h2], rfl⟩
set_option maxHeartbeats 400000 in
theorem isWordByte_any (c : Int) (w : World) :
    Calls Try.prog 77 #[.int .u8 c] w fun e w' => e = .returned (.bool (wbB c)) ∧ w = w' := by
  by_cases h1 : 97 ≤ c <;> by_cases h2 : c ≤ 122 <;> by_cases h3 : c = 95 <;>
  · go_enter Try.func77, Try.ntmps77
    go_wp2_with (go_at_call 76; refine (isDigit_any _ _).mono ?_; rintro e w' ⟨rfl, rfl⟩)
    go_ret
    exact ⟨ret_bool (by grind [wbB]), rfl⟩
set_option maxHeartbeats 400000 in
theorem l1In_any (n lo hi : Int) (w : World) :
    Calls Try.prog 72 #[.int .i64 n, .int .i64 lo, .int .i64 hi] w fun e w' => e = .returned (.bool (decide (lo ≤ n) && decide (n ≤ hi))) ∧ w = w' := by
  by_cases h1 : lo ≤ n <;> by_cases h2 : n ≤ hi <;>
  · go_enter Try.func72, Try.ntmps72
    go_wp2
    go_ret
    exact ⟨by simp [h1, h2], rfl⟩
def byteAt (s : ByteArray) (i : Nat) : Int := ((s.data.toList.getD i 0).toNat : Int)
theorem byteAt_lt (s : ByteArray) (i : Nat) : 0 ≤ byteAt s i ∧ byteAt s i ≤ 255 := by
  unfold byteAt
  have := (s.data.toList.getD i 0).toNat_lt
  omega
theorem byteAt_get (s : ByteArray) (i : Nat) (h : i < s.size) : ((s[i].toNat : Nat) : Int) = byteAt s i := by
  unfold byteAt
  have h' : i < s.data.toList.length := by simpa using h
  rw [List.getD_eq_getElem?_getD, List.getElem?_eq_getElem h']
  rfl
def wordTo (s : ByteArray) (n : Nat) : Bool := (List.range n).all fun i => wbB (byteAt s i)
theorem wordTo_succ (s : ByteArray) (n : Nat) : wordTo s (n + 1) = (wordTo s n && wbB (byteAt s n)) := by
  simp [wordTo, List.range_succ]
theorem wordTo_false (s : ByteArray) (n k : Nat) (hk : k < n) (h : wbB (byteAt s k) = false) : wordTo s n = false := by
  rw [wordTo, List.all_eq_false]
  exact ⟨k, by simpa using hk, by simpa using h⟩
def wordB (s : ByteArray) : Bool := decide (1 ≤ s.size) && decide (s.size ≤ 9) && !digB (byteAt s 0) && wordTo s s.size
set_option maxHeartbeats 400000 in
theorem isWord_any (s : ByteArray) (w : World) (hs : s.size ≤ maxLen) :
    Calls Try.prog 58 #[.string s] w fun e w' => e = .returned (.bool (wordB s)) ∧ w = w' := by
  unfold maxLen at hs
  by_cases h0 : s.size = 0
  · have he : s.toList.isEmpty = true := by
      have : s.toList.length = s.size := by rw [ByteArray.toList_eq]; simp
      rw [List.isEmpty_iff_length_eq_zero]; omega
    go_enter Try.func58, Try.ntmps58
    go_wp2_with fail
    go_ret
    exact ⟨ret_bool (by rw [wordB]; simp [h0]), rfl⟩
  have he : s.toList.isEmpty = false := by
    have : s.toList.length = s.size := by rw [ByteArray.toList_eq]; simp
    rw [Bool.eq_false_iff, Ne, List.isEmpty_iff_length_eq_zero]; omega
  by_cases hl : s.size ≤ 9
  · have hp : 0 < s.size := by omega
    have hb0 := byteAt_get s 0 hp
    by_cases hd : digB (byteAt s 0) = true
    · go_enter Try.func58, Try.ntmps58
      go_wp2_with (go_at_call 76; refine (isDigit_any _ _).mono ?_; rintro e w' ⟨rfl, rfl⟩)
      go_ret
      exact ⟨ret_bool (by rw [wordB]; simp [hd]), rfl⟩
    · have hd' : digB (byteAt s 0) = false := by simpa using hd
      clear hd
      go_enter Try.func58, Try.ntmps58
      go_wp2_with (go_at_call 76; refine (isDigit_any _ _).mono ?_; rintro e w' ⟨rfl, rfl⟩)
      go_loop [3] (fun i => ∃ k : Nat, k ≤ s.size ∧ i = .int .i64 k ∧ wordTo s k = true) (fun i => s.size - (intOf i).toNat)
      case atStart => exact ⟨0, Nat.zero_le _, rfl, rfl⟩
      case round =>
        obtain ⟨k, hk, rfl, hp⟩ := hrel
        have HP : Hid (wordTo s k = true) := hp
        clear hp
        by_cases hlt : k < s.size
        · have hb := byteAt_get s k hlt
          cases hw : wbB (byteAt s k)
          · go_wp2_with (go_at_call 77; refine (isWordByte_any _ _).mono ?_; rintro e w' ⟨rfl, rfl⟩)
            go_ret
            exact ⟨ret_bool (by rw [wordB, wordTo_false s _ k hlt hw]; simp), rfl⟩
          · go_wp2_with (go_at_call 77; refine (isWordByte_any _ _).mono ?_; rintro e w' ⟨rfl, rfl⟩)
            go_round
            case rel => exact ⟨k + 1, by omega, by go_num, by rw [wordTo_succ, HP.out, hw]; rfl⟩
            case measure => simp [intOf]; omega
        · go_wp2_with fail
          go_ret
          have e : k = s.size := by omega
          exact ⟨ret_bool (by rw [wordB, hd', ← e, HP.out]; simp; omega), rfl⟩
  · go_enter Try.func58, Try.ntmps58
    go_wp2_with fail
    go_ret
    exact ⟨ret_bool (by rw [wordB]; simp; omega), rfl⟩
def nbB (i : Nat) (c : Int) : Bool := decide (97 ≤ c) && decide (c ≤ 122) || (c == 95) || (decide (0 < i) && digB c)
def nameTo (s : ByteArray) (n : Nat) : Bool := (List.range n).all fun i => nbB i (byteAt s i)
theorem nameTo_succ (s : ByteArray) (n : Nat) : nameTo s (n + 1) = (nameTo s n && nbB n (byteAt s n)) := by
  simp [nameTo, List.range_succ]
theorem nameTo_false (s : ByteArray) (n k : Nat) (hk : k < n) (h : nbB k (byteAt s k) = false) : nameTo s n = false := by
  rw [nameTo, List.all_eq_false]
  exact ⟨k, by simpa using hk, by simpa using h⟩
theorem nameTo_word (s : ByteArray) (n : Nat) : nameTo s (n + 1) = (!digB (byteAt s 0) && wordTo s (n + 1)) := by
  induction n with
  | zero =>
    rw [nameTo_succ, wordTo_succ]
    simp only [nameTo, wordTo, List.range_zero, List.all_nil, Bool.true_and, nbB, wbB]
    generalize byteAt s 0 = c
    rw [Bool.eq_iff_iff]; simp [digB]; omega
  | succ n ih =>
    rw [nameTo_succ, ih, wordTo_succ s (n + 1), Bool.and_assoc]
    simp [nbB, wbB]
theorem name_word (s : ByteArray) (h : 1 ≤ s.size) : nameTo s s.size = (!digB (byteAt s 0) && wordTo s s.size) := by
  obtain ⟨n, hn⟩ : ∃ n, s.size = n + 1 := ⟨s.size - 1, by omega⟩
  rw [hn]; exact nameTo_word s n
set_option maxHeartbeats 400000 in
theorem l1Name_any (s : ByteArray) (w : World) (hs : s.size ≤ maxLen) :
    Calls Try.prog 44 #[.string s] w fun e w' => e = .returned (.bool (wordB s)) ∧ w = w' := by
  unfold maxLen at hs
  by_cases hin : 1 ≤ s.size ∧ s.size ≤ 9
  · have hin' : (decide ((1 : Int) ≤ s.size) && decide ((s.size : Int) ≤ 9)) = true := by simp; omega
    go_enter Try.func44, Try.ntmps44
    go_wp2_with (go_at_call 72; refine (l1In_any _ _ _ _).mono ?_; rw [hin']; rintro e w' ⟨rfl, rfl⟩)
    go_loop [3] (fun i => ∃ k : Nat, k ≤ s.size ∧ i = .int .i64 k ∧ nameTo s k = true) (fun i => s.size - (intOf i).toNat)
    case atStart => exact ⟨0, Nat.zero_le _, rfl, rfl⟩
    case round =>
      obtain ⟨k, hk, rfl, hp⟩ := hrel
      have HP : Hid (nameTo s k = true) := hp
      clear hp hin'
      by_cases hlt : k < s.size
      · have hb := byteAt_get s k hlt
        have hbd := byteAt_lt s k
        have fin0 : nbB k (byteAt s k) = false → wordB s = false := fun h => by
          have h1 := nameTo_false s s.size k hlt h
          rw [name_word s (by omega)] at h1
          rw [wordB]; simp only [Bool.and_assoc]; rw [h1]; simp
        have FIN0 : Hid (nbB k (byteAt s k) = false → wordB s = false) := fin0
        clear fin0
        by_cases h1 : 97 ≤ byteAt s k ∧ byteAt s k ≤ 122
        · obtain ⟨h1, h2⟩ := h1
          go_wp2_with fail
          go_round
          case rel => exact ⟨k + 1, by omega, by go_num, by rw [nameTo_succ, HP.out]; simp [nbB, h1, h2]⟩
          case measure => simp [intOf]; omega
        · by_cases h3 : byteAt s k = 95
          · have h1' : byteAt s k < 97 := by omega
            have T : (byteAt s k == 95) = true := by simp [h3]
            have N : Hid (nbB k (byteAt s k) = true) := by show _ = _; simp [nbB, h3]
            clear h1 h3
            go_wp2_with fail
            go_round
            case rel => exact ⟨k + 1, by omega, by go_num, by rw [nameTo_succ, HP.out, N.out]; rfl⟩
            case measure => simp [intOf]; omega
          · have T : (byteAt s k == 95) = false := by simp [h3]
            by_cases hk0 : k = 0
            · have N : Hid (nbB k (byteAt s k) = false) := by show _ = _; grind [nbB]
              have hk0' : (k : Int) ≤ 0 := by omega
              clear hk0 h3
              have h1' : byteAt s k < 97 ∨ (97 ≤ byteAt s k ∧ 122 < byteAt s k) := by omega
              clear h1
              rcases h1' with h1' | ⟨h1', h1''⟩
              · go_wp2_with fail
                go_ret
                exact ⟨ret_bool (FIN0.out N.out).symm, rfl⟩
              · have D : decide (byteAt s k ≤ 122) = false := by simp; omega
                go_wp2_with fail
                go_ret
                exact ⟨ret_bool (FIN0.out N.out).symm, rfl⟩
            · have hk0' : (0 : Int) < (k : Int) := by omega
              by_cases hd : 48 ≤ byteAt s k ∧ byteAt s k ≤ 57
              · have N : Hid (nbB k (byteAt s k) = true) := by show _ = _; simp [nbB, digB]; omega
                obtain ⟨hd1, hd2⟩ := hd
                have h1' : byteAt s k < 97 := by omega
                clear h1 h3
                go_wp2_with fail
                go_round
                case rel => exact ⟨k + 1, by omega, by go_num, by rw [nameTo_succ, HP.out, N.out]; rfl⟩
                case measure => simp [intOf]; omega
              · have N : Hid (nbB k (byteAt s k) = false) := by show _ = _; grind [nbB, digB]
                have h1' : byteAt s k < 48 ∧ byteAt s k < 97 ∨ (48 ≤ byteAt s k ∧ 57 < byteAt s k ∧ byteAt s k < 97) ∨ (97 ≤ byteAt s k ∧ 122 < byteAt s k ∧ 48 ≤ byteAt s k ∧ 57 < byteAt s k) := by omega
                clear h1 hd h3
                rcases h1' with ⟨a1, a2⟩ | ⟨a1, a2, a3⟩ | ⟨a1, a2, a3, a4⟩
                · go_wp2_with fail
                  go_ret
                  exact ⟨ret_bool (FIN0.out N.out).symm, rfl⟩
                · have D : decide (byteAt s k ≤ 57) = false := by simp; omega
                  go_wp2_with fail
                  go_ret
                  exact ⟨ret_bool (FIN0.out N.out).symm, rfl⟩
                · have D : decide (byteAt s k ≤ 57) = false := by simp; omega
                  have D' : decide (byteAt s k ≤ 122) = false := by simp; omega
                  go_wp2_with fail
                  go_ret
                  exact ⟨ret_bool (FIN0.out N.out).symm, rfl⟩
      · go_wp2_with fail
        go_ret
        have e : k = s.size := by omega
        exact ⟨ret_bool (by have h1 := name_word s (by omega); rw [← e] at h1; rw [HP.out] at h1; rw [wordB]; simp only [Bool.and_assoc]; rw [← e, ← h1]; simp; omega), rfl⟩
  · have hin' : (decide ((1 : Int) ≤ s.size) && decide ((s.size : Int) ≤ 9)) = false := by simp; omega
    go_enter Try.func44, Try.ntmps44
    go_wp2_with (go_at_call 72; refine (l1In_any _ _ _ _).mono ?_; rw [hin']; rintro e w' ⟨rfl, rfl⟩)
    go_ret
    exact ⟨ret_bool (by rw [wordB]; simp; omega), rfl⟩
end Go.Proofs.Ytdohgkokoicjlaa
namespace Go.Proofs.Ytdohgkokoicjlaa
open Go.RowKit
def nth (ns : List ByteArray) (i : Nat) : ByteArray := ns.getD i ByteArray.empty
def Strs (w : World) (P : Nat → Prop) (ns : List ByteArray) (a : Option Addr) : Prop :=
  (ns ≠ [] → ∃ b off, a = some ⟨b, off, none⟩ ∧ P b ∧ ∀ i, i < ns.length → w.cell? ⟨b, off + i, none⟩ = some (.string (nth ns i))) ∧
  (∀ i, (nth ns i).size ≤ maxLen) ∧ ns.length ≤ maxLen
theorem Strs.mono {w w' : World} {P : Nat → Prop} {ns : List ByteArray} {a : Option Addr} (h : Strs w P ns a) (e : ∀ k, P k → w'.heap[k]? = w.heap[k]?) : Strs w' P ns a := by
  refine ⟨fun hn => ?_, h.2⟩
  obtain ⟨b, off, ha, hP, hc⟩ := h.1 hn
  exact ⟨b, off, ha, hP, fun i hi => (World.cell?_of_block (w := w) (a := ⟨b, off + i, none⟩) (e b hP)).trans (hc i hi)⟩
theorem Strs.sub {w : World} {P Q : Nat → Prop} {ns : List ByteArray} {a : Option Addr} (h : Strs w P ns a) (e : ∀ k, P k → Q k) : Strs w Q ns a := by
  refine ⟨fun hn => ?_, h.2⟩
  obtain ⟨b, off, ha, hP, hc⟩ := h.1 hn
  exact ⟨b, off, ha, e _ hP, hc⟩
theorem Strs.take {w : World} {P : Nat → Prop} {ns : List ByteArray} {a : Option Addr} (h : Strs w P ns a) (k : Nat) : Strs w P (ns.take k) a := by
  refine ⟨fun hn => ?_, fun i => ?_, by have := h.2.2; simp; omega⟩
  · obtain ⟨b, off, ha, hP, hc⟩ := h.1 (by intro e; simp [e] at hn)
    refine ⟨b, off, ha, hP, fun i hi => ?_⟩
    have hi' : i < k ∧ i < ns.length := by simp at hi; omega
    rw [hc i hi'.2]; simp [nth, List.getD_eq_getElem?_getD, List.getElem?_take, hi'.1]
  · have := h.2.1 i
    simp only [nth, List.getD_eq_getElem?_getD, List.getElem?_take] at this ⊢
    split
    · exact this
    · simp
def sumTo (ns : List ByteArray) (n : Nat) : Nat := ((List.range n).map fun i => (nth ns i).size).sum
theorem sumTo_succ (ns : List ByteArray) (n : Nat) : sumTo ns (n + 1) = sumTo ns n + (nth ns n).size := by
  simp [sumTo, List.range_succ]
def szNs (ns : List ByteArray) : Nat := ns.length + sumTo ns ns.length
end Go.Proofs.Ytdohgkokoicjlaa
namespace Go.Proofs.Ytdohgkokoicjlaa
open Go.RowKit
theorem tgH (n : Nat) {p : Prop} (h : Hid (n = n) → p) : p := h rfl
section
variable {P : Program} {ops : Array Oper} {Q : Exit → Act → World → Prop} {md : Region.Mode} {S : World → Prop}
theorem tkL (i : Nat) {oi : Oper} {v : Value} {fuel : Nat} {listed l' : Array Bool} {a a' : Act} {w : World} (hS : S w) (h : wpAnyH P md ops Q S fuel l' a' w)
    (hr : ((Region.ready md ops listed).contains i && Region.free md ops listed i) = true := by decide +kernel)
    (hi : ops.toList[i]? = some oi := by exact rfl) (hs : Region.noSelect ops = true := by kernel_rfl)
    (hw : Region.wanted oi (yielded ops a.tmps) = true := by exact rfl)
    (hy : ∀ w', S w' → (execOp a.eval oi).run P w' = .ok (.value v) w' := by (intro w' hSw; (try dsimp only at hSw); go_simp; try with_reducible rfl))
    (hQ : ∀ c a w, Q (.panic c) (a.put oi.dst v) w → Q (.panic c) a w := by exact fun _ _ _ h => h)
    (ha : a.put oi.dst v = a' := by ((try simp only [Act.put, List.setIfInBounds_toArray, List.set_cons_zero, List.set_cons_succ]); try rfl))
    (hl : listed.setIfInBounds i true = l' := by ((try simp only [List.setIfInBounds_toArray, List.set_cons_zero, List.set_cons_succ]); try rfl)) : wpAnyH P md ops Q S (fuel + 1) listed a w := by
  rw [Bool.and_eq_true] at hr
  exact tkH i hS h hi hs hr.2 hr.1 hw hy hQ ha hl
theorem rdyL (rs : List Nat) {fuel : Nat} {listed : Array Bool} {a : Act} {w : World} (h : AllReadyH P md ops Q S fuel listed a w rs) (hr : Region.ready md ops listed = rs := by decide +kernel) (hne : rs ≠ [] := by simp) : wpAnyH P md ops Q S (fuel + 1) listed a w := wpAnyH_ready hr hne h
end
end Go.Proofs.Ytdohgkokoicjlaa
