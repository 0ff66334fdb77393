import Derived.Test.YtokmgbidmnanpaaGreatDoorB20
import Derived.Test.YtokmgbidmnanpaaGreatDoorB2
set_option linter.unusedSimpArgs false
set_option linter.unusedVariables false
namespace Go.Proofs.YtokmgbidmnanpaaGreatDoor
open Go.RowKit
set_option maxHeartbeats 400000 in
theorem answeredAs_any (s : Se) (w : World) (v2 v3 v4 : Value) :
    Calls Tryz.prog 92 #[.agg #[.string s.al, .string s.name, v2, v3, v4]] w fun e w' => e = .returned (.string (keyS s)) ∧ Below w.heap.size w w' := by
  have HK : Hid (∀ b, s.al.toList.isEmpty = b → keyS s = if b = true then s.name else s.al) := fun b hb => by unfold keyS; rw [hb]
  cases he : s.al.toList.isEmpty
  · go_enter Tryz.func92, Tryz.ntmps92
    go_wp2_with fail
    go_ret
    exact ⟨by rw [HK.out false he]; rfl, below_box w _⟩
  · go_enter Tryz.func92, Tryz.ntmps92
    go_wp2_with fail
    go_ret
    exact ⟨by rw [HK.out true he]; rfl, below_box w _⟩
theorem name_some {s : ByteArray} (h : nameB s = true) : s.toList.isEmpty = false := by
  simp only [nameB, wordB, Bool.and_eq_true, decide_eq_true_eq] at h
  have h1 : 1 ≤ s.size := h.1.1.1.1.1.1.1.1.1.1.1.1.1
  have h2 := toList_len s
  cases e : s.toList with
  | nil => rw [e] at h2; simp at h2; omega
  | cons a l => rfl
set_option maxRecDepth 20000 in
set_option maxHeartbeats 1600000 in
theorem isSelOk_any (s : Se) (w : World) (v4 : Value) (hal : s.al.size ≤ maxLen) (hnm : s.name.size ≤ maxLen) :
    Calls Tryz.prog 82 #[.agg #[.string s.al, .string s.name, .bool s.one, .int .i64 s.id, v4]] w fun e w' => e = .returned (.bool (selB s)) ∧ Below w.heap.size w w' := by
  have HSE : Hid (selB s = (nameB s.name && (s.al.toList.isEmpty || (nameB s.al && !(s.al.toList == s.name.toList))) && (s.one || decide (s.id = 0)) && (decide (0 ≤ s.id) && decide (s.id ≤ 999999)))) := rfl
  have N1 := fun W => isName_any s.name W hnm
  have N2 := fun W => isName_any s.al W hal
  obtain ⟨sel, hsel⟩ : ∃ b, b = selB s := ⟨_, rfl⟩
  rw [← hsel] at HSE ⊢
  clear hsel
  have hne : nameB s.name = true → s.al.toList.isEmpty = true → (s.al.toList == s.name.toList) = false := fun h1 h2 => by
    have h3 := name_some h1
    rw [List.isEmpty_iff] at h2
    rw [h2]
    cases e : s.name.toList with
    | nil => rw [e] at h3; simp at h3
    | cons a l => rfl
  generalize s.al = al at *
  generalize s.name = name at *
  generalize s.one = one at *
  generalize s.id = id at *
  cases hn1 : nameB name
  · rw [hn1] at HSE
    have hs : sel = false := by rw [HSE.out]; simp
    simp only [hn1] at N1
    have HS := hid_of hs
    clear hs
    go_enter Tryz.func82, Tryz.ntmps82
    go_wp2_with (first
      | (
        go_at_call_of 105 (Value.string name)
        refine (N1 _).mono ?_
        rintro e w' ⟨rfl, rfl⟩)
      | (
        go_at_call_of 105 (Value.string al)
        refine (N2 _).mono ?_
        rintro e w' ⟨rfl, rfl⟩))
    go_ret
    exact ⟨ret_bool (by first | (rw [HS.out]; done) | (rw [HS.out]; simp [hid])), below_box w _⟩
  rw [hn1] at HSE
  simp only [hn1] at N1
  cases he : al.toList.isEmpty
  · rw [he] at HSE
    cases hn2 : nameB al
    · rw [hn2] at HSE
      have hs : sel = false := by rw [HSE.out]; simp
      simp only [hn2] at N2
      have HS := hid_of hs
      clear hs
      go_enter Tryz.func82, Tryz.ntmps82
      go_wp2_with (first
        | (
          go_at_call_of 105 (Value.string name)
          refine (N1 _).mono ?_
          rintro e w' ⟨rfl, rfl⟩)
        | (
          go_at_call_of 105 (Value.string al)
          refine (N2 _).mono ?_
          rintro e w' ⟨rfl, rfl⟩))
      go_ret
      exact ⟨ret_bool (by first | (rw [HS.out]; done) | (rw [HS.out]; simp [hid])), below_box w _⟩
    rw [hn2] at HSE
    simp only [hn2] at N2
    cases hq : (al.toList == name.toList)
    rotate_left
    · rw [hq] at HSE
      have hs : sel = false := by rw [HSE.out]; simp
      have HS := hid_of hs
      clear hs
      go_enter Tryz.func82, Tryz.ntmps82
      go_wp2_with (first
        | (
          go_at_call_of 105 (Value.string name)
          refine (N1 _).mono ?_
          rintro e w' ⟨rfl, rfl⟩)
        | (
          go_at_call_of 105 (Value.string al)
          refine (N2 _).mono ?_
          rintro e w' ⟨rfl, rfl⟩))
      go_ret
      exact ⟨ret_bool (by first | (rw [HS.out]; done) | (rw [HS.out]; simp [hid])), below_box w _⟩
    rw [hq] at HSE
    clear hne
    by_cases h0 : 0 ≤ id
    rotate_left
    · have hs : sel = false := by rw [HSE.out]; simp [h0]
      have HS := hid_of hs
      clear hs
      go_enter Tryz.func82, Tryz.ntmps82
      go_wp2_with (first
        | (
          go_at_call_of 105 (Value.string name)
          refine (N1 _).mono ?_
          rintro e w' ⟨rfl, rfl⟩)
        | (
          go_at_call_of 105 (Value.string al)
          refine (N2 _).mono ?_
          rintro e w' ⟨rfl, rfl⟩))
      go_ret
      exact ⟨ret_bool (by first | (rw [HS.out]; done) | (rw [HS.out]; simp [hid])), below_box w _⟩
    by_cases h9 : id ≤ 999999
    rotate_left
    · have hs : sel = false := by rw [HSE.out]; simp [h9]
      have HS := hid_of hs
      clear hs
      go_enter Tryz.func82, Tryz.ntmps82
      go_wp2_with (first
        | (
          go_at_call_of 105 (Value.string name)
          refine (N1 _).mono ?_
          rintro e w' ⟨rfl, rfl⟩)
        | (
          go_at_call_of 105 (Value.string al)
          refine (N2 _).mono ?_
          rintro e w' ⟨rfl, rfl⟩))
      go_ret
      exact ⟨ret_bool (by first | (rw [HS.out]; done) | (rw [HS.out]; simp [hid])), below_box w _⟩
    cases one
    · by_cases hid : id = 0
      · subst hid
        have hs : sel = true := by rw [HSE.out]; simp
        have HS := hid_of hs
        clear hs
        go_enter Tryz.func82, Tryz.ntmps82
        go_wp2_with (first
          | (
            go_at_call_of 105 (Value.string name)
            refine (N1 _).mono ?_
            rintro e w' ⟨rfl, rfl⟩)
          | (
            go_at_call_of 105 (Value.string al)
            refine (N2 _).mono ?_
            rintro e w' ⟨rfl, rfl⟩))
        go_ret
        exact ⟨ret_bool (by first | (rw [HS.out]; done) | (rw [HS.out]; simp [hid])), below_box w _⟩
      · have hs : sel = false := by rw [HSE.out]; simp [hid]
        have HS := hid_of hs
        clear hs
        go_enter Tryz.func82, Tryz.ntmps82
        go_wp2_with (first
          | (
            go_at_call_of 105 (Value.string name)
            refine (N1 _).mono ?_
            rintro e w' ⟨rfl, rfl⟩)
          | (
            go_at_call_of 105 (Value.string al)
            refine (N2 _).mono ?_
            rintro e w' ⟨rfl, rfl⟩))
        go_ret
        exact ⟨ret_bool (by first | (rw [HS.out]; done) | (rw [HS.out]; simp [hid])), below_box w _⟩
    · have hs : sel = true := by rw [HSE.out]; simp [h0, h9]
      have HS := hid_of hs
      clear hs
      go_enter Tryz.func82, Tryz.ntmps82
      go_wp2_with (first
        | (
          go_at_call_of 105 (Value.string name)
          refine (N1 _).mono ?_
          rintro e w' ⟨rfl, rfl⟩)
        | (
          go_at_call_of 105 (Value.string al)
          refine (N2 _).mono ?_
          rintro e w' ⟨rfl, rfl⟩))
      go_ret
      exact ⟨ret_bool (by first | (rw [HS.out]; done) | (rw [HS.out]; simp [hid])), below_box w _⟩
  · rw [he] at HSE
    have hq := hne hn1 he
    clear hne
    by_cases h0 : 0 ≤ id
    rotate_left
    · have hs : sel = false := by rw [HSE.out]; simp [h0]
      have HS := hid_of hs
      clear hs
      go_enter Tryz.func82, Tryz.ntmps82
      go_wp2_with (first
        | (
          go_at_call_of 105 (Value.string name)
          refine (N1 _).mono ?_
          rintro e w' ⟨rfl, rfl⟩)
        | (
          go_at_call_of 105 (Value.string al)
          refine (N2 _).mono ?_
          rintro e w' ⟨rfl, rfl⟩))
      go_ret
      exact ⟨ret_bool (by first | (rw [HS.out]; done) | (rw [HS.out]; simp [hid])), below_box w _⟩
    by_cases h9 : id ≤ 999999
    rotate_left
    · have hs : sel = false := by rw [HSE.out]; simp [h9]
      have HS := hid_of hs
      clear hs
      go_enter Tryz.func82, Tryz.ntmps82
      go_wp2_with (first
        | (
          go_at_call_of 105 (Value.string name)
          refine (N1 _).mono ?_
          rintro e w' ⟨rfl, rfl⟩)
        | (
          go_at_call_of 105 (Value.string al)
          refine (N2 _).mono ?_
          rintro e w' ⟨rfl, rfl⟩))
      go_ret
      exact ⟨ret_bool (by first | (rw [HS.out]; done) | (rw [HS.out]; simp [hid])), below_box w _⟩
    cases one
    · by_cases hid : id = 0
      · subst hid
        have hs : sel = true := by rw [HSE.out]; simp
        have HS := hid_of hs
        clear hs
        go_enter Tryz.func82, Tryz.ntmps82
        go_wp2_with (first
          | (
            go_at_call_of 105 (Value.string name)
            refine (N1 _).mono ?_
            rintro e w' ⟨rfl, rfl⟩)
          | (
            go_at_call_of 105 (Value.string al)
            refine (N2 _).mono ?_
            rintro e w' ⟨rfl, rfl⟩))
        go_ret
        exact ⟨ret_bool (by first | (rw [HS.out]; done) | (rw [HS.out]; simp [hid])), below_box w _⟩
      · have hs : sel = false := by rw [HSE.out]; simp [hid]
        have HS := hid_of hs
        clear hs
        go_enter Tryz.func82, Tryz.ntmps82
        go_wp2_with (first
          | (
            go_at_call_of 105 (Value.string name)
            refine (N1 _).mono ?_
            rintro e w' ⟨rfl, rfl⟩)
          | (
            go_at_call_of 105 (Value.string al)
            refine (N2 _).mono ?_
            rintro e w' ⟨rfl, rfl⟩))
        go_ret
        exact ⟨ret_bool (by first | (rw [HS.out]; done) | (rw [HS.out]; simp [hid])), below_box w _⟩
    · have hs : sel = true := by rw [HSE.out]; simp [h0, h9]
      have HS := hid_of hs
      clear hs
      go_enter Tryz.func82, Tryz.ntmps82
      go_wp2_with (first
        | (
          go_at_call_of 105 (Value.string name)
          refine (N1 _).mono ?_
          rintro e w' ⟨rfl, rfl⟩)
        | (
          go_at_call_of 105 (Value.string al)
          refine (N2 _).mono ?_
          rintro e w' ⟨rfl, rfl⟩))
      go_ret
      exact ⟨ret_bool (by first | (rw [HS.out]; done) | (rw [HS.out]; simp [hid])), below_box w _⟩
def ixS (ns : List ByteArray) (s : ByteArray) : Nat → Int
  | 0 => -1
  | n + 1 => if 0 ≤ ixS ns s n then ixS ns s n else if (nth ns n).toList == s.toList then (n : Nat) else -1
theorem ixS_cases (ns : List ByteArray) (s : ByteArray) : ∀ n, ixS ns s n = -1 ∨ 0 ≤ ixS ns s n
  | 0 => Or.inl rfl
  | n + 1 => by
    rw [ixS]
    rcases ixS_cases ns s n with h | h
    · rw [h, if_neg (by omega)]
      split
      · right; omega
      · left; rfl
    · rw [if_pos h]; exact Or.inr h
theorem ixS_in (ns : List ByteArray) (s : ByteArray) : ∀ n, n ≤ ns.length → (0 ≤ ixS ns s n ↔ ∃ i, i < n ∧ (nth ns i).toList = s.toList)
  | 0, _ => by simp [ixS]
  | n + 1, h => by
    have ih := ixS_in ns s n (by omega)
    rw [ixS]
    by_cases h0 : 0 ≤ ixS ns s n
    · rw [if_pos h0]
      obtain ⟨i, hi, e⟩ := ih.1 h0
      exact ⟨fun _ => ⟨i, by omega, e⟩, fun _ => h0⟩
    · rw [if_neg h0]
      by_cases hq : ((nth ns n).toList == s.toList) = true
      · rw [if_pos hq]
        exact ⟨fun _ => ⟨n, by omega, by simpa using hq⟩, fun _ => by omega⟩
      · rw [if_neg hq]
        refine ⟨fun h => by omega, fun ⟨i, hi, e⟩ => ?_⟩
        by_cases ei : i = n
        · subst ei; exact absurd (by simpa using e) hq
        · exact absurd (ih.2 ⟨i, by omega, e⟩) h0
set_option maxHeartbeats 800000 in
theorem indexS_any (ns : List ByteArray) (s : ByteArray) (w : World) (P : Nat → Prop) (a : Option Addr) (c : Nat) (hS : Strs w P ns a) (hl : ns.length ≤ 1048576) :
    Calls Tryz.prog 122 #[.slice a ns.length c, .string s] w fun e w' => e = .returned (.int .i64 (ixS ns s ns.length)) ∧ w = w' := by
  obtain ⟨hS1, hS2, hS3⟩ := hS
  go_enter Tryz.func122, Tryz.ntmps122
  go_wp2_with fail
  go_loopw [8] (fun i wr => ∃ k : Nat, k ≤ ns.length ∧ i = .int .i64 k ∧ Hid (ixS ns s k = -1) ∧ wr = w) (fun i _ => ns.length - (intOf i).toNat)
  case atStart => exact ⟨0, Nat.zero_le _, rfl, hid_of rfl, rfl⟩
  case round =>
    obtain ⟨k, hk, rfl, HI, rfl⟩ := hrel
    by_cases hlt : k < ns.length
    · obtain ⟨b, off, rfl, -, hc⟩ := hS1 (by intro e; rw [e] at hlt; simp at hlt)
      have hki : (k : Int) < (ns.length : Int) := by omega
      have q0 := hc k hlt
      have HX : Hid (ixS ns s (k + 1) = if ((nth ns k).toList == s.toList) = true then ((k : Nat) : Int) else -1) := hid_of (by rw [ixS, HI.out, if_neg (by omega)])
      have HM : Hid (((nth ns k).toList == s.toList) = true → ixS ns s ns.length = (k : Nat)) := hid_of fun h => by
        have h1 : ixS ns s (k + 1) = (k : Nat) := by rw [HX.out, if_pos h]
        have key : ∀ m, k + 1 ≤ m → ixS ns s m = (k : Nat) := fun m hm => by
          induction m with
          | zero => omega
          | succ m ih =>
            by_cases em : m = k
            · rw [em]; exact h1
            · rw [ixS, ih (by omega), if_pos (by omega)]
        exact key ns.length (by omega)
      clear hc hS1 hS2
      generalize nth ns k = x at *
      cases hq : (s.toList == x.toList)
      · have hq2 : (x.toList == s.toList) = false := by rw [Bool.beq_comm]; exact hq
        rw [hq2] at HX
        clear HM
        go_wp2_with fail
        go_roundw
        case measure => simp [intOf]; omega
        case rel => exact ⟨k + 1, by omega, by go_num, hid_of (by rw [HX.out]; rfl), trivial⟩
      · have hq2 : (x.toList == s.toList) = true := by rw [Bool.beq_comm]; exact hq
        have HR := hid_of (HM.out hq2)
        clear HM HX
        go_wp2_with fail
        go_ret
        exact ⟨ret_int (by rw [HR.out]), rfl⟩
    · have e : k = ns.length := by omega
      subst e
      go_wp2_with fail
      go_ret
      exact ⟨ret_int (by rw [HI.out]), rfl⟩
set_option maxHeartbeats 400000 in
theorem containsS_any (ns : List ByteArray) (s : ByteArray) (w : World) (P : Nat → Prop) (a : Option Addr) (c : Nat) (hS : Strs w P ns a) (hl : ns.length ≤ 1048576) :
    Calls Tryz.prog 83 #[.slice a ns.length c, .string s] w fun e w' => e = .returned (.bool ((ns.map ByteArray.toList).contains s.toList)) ∧ w = w' := by
  have hI := indexS_any ns s w P a c hS hl
  have HC : Hid ((ns.map ByteArray.toList).contains s.toList = decide (0 ≤ ixS ns s ns.length)) := hid_of (by
    rw [Bool.eq_iff_iff, decide_eq_true_eq, ixS_in ns s _ (Nat.le_refl _)]
    simp only [List.contains_iff_mem, List.mem_map]
    constructor
    · rintro ⟨x, hx, e⟩
      obtain ⟨i, hi, rfl⟩ := List.mem_iff_getElem.1 hx
      exact ⟨i, hi, by rw [← e]; simp [nth, List.getD_eq_getElem?_getD, hi]⟩
    · rintro ⟨i, hi, e⟩
      exact ⟨ns[i], List.getElem_mem hi, by rw [← e]; simp [nth, List.getD_eq_getElem?_getD, hi]⟩)
  have hcs := ixS_cases ns s ns.length
  generalize ixS ns s ns.length = x at *
  by_cases hx : 0 ≤ x
  · have hx' : x ≥ 0 := hx
    go_enter Tryz.func83, Tryz.ntmps83
    go_wp2_with fail
    refine hI.mono ?_
    rintro e w1 ⟨rfl, rfl⟩
    go_wp2_with fail
    go_ret
    exact ⟨ret_bool (by rw [HC.out]; simp [hx]), rfl⟩
  · have hx' : ¬ x ≥ 0 := hx
    go_enter Tryz.func83, Tryz.ntmps83
    go_wp2_with fail
    refine hI.mono ?_
    rintro e w1 ⟨rfl, rfl⟩
    go_wp2_with fail
    go_ret
    exact ⟨ret_bool (by rw [HC.out]; try simp [hx]), rfl⟩
end Go.Proofs.YtokmgbidmnanpaaGreatDoor
namespace Go.Proofs.YtokmgbidmnanpaaGreatDoor
open Go.RowKit Go.Shelf
theorem cell_cells {W : World} {b i : Nat} {v : Value} (h : W.cell? ⟨b, i, none⟩ = some v) : ∃ o, W.heap[b]? = some o ∧ o.isCells = true := by
  cases hb : W.heap[b]? with
  | none => simp [World.cell?, hb] at h
  | some o =>
    refine ⟨o, rfl, ?_⟩
    cases o <;> simp_all [World.cell?, Obj.isCells]
theorem KeepO.cell {O : Nat → Prop} {A B : World} (h : KeepO O A B) {b i : Nat} {v : Value} (hb : ¬ O b) (hc : A.cell? ⟨b, i, none⟩ = some v) : B.cell? ⟨b, i, none⟩ = some v := by
  obtain ⟨o, h1, h2⟩ := cell_cells hc
  have h3 := h.cells b o hb h1 h2
  exact (World.cell?_of_block (w := A) (a := ⟨b, i, none⟩) (h3.trans h1.symm)).trans hc
theorem strs_keepO {O O' : Nat → Prop} {A B : World} {ns : List ByteArray} {a : Option Addr} (h : Strs A (fun b => ¬ O b ∧ b < A.heap.size) ns a) (k : KeepO O A B) (ho : ∀ b, O' b → O b ∨ A.heap.size ≤ b) : Strs B (fun b => ¬ O' b ∧ b < B.heap.size) ns a := by
  obtain ⟨h1, h2, h3⟩ := h
  refine ⟨fun hn => ?_, h2, h3⟩
  obtain ⟨b, off, e, hb, hc⟩ := h1 hn
  exact ⟨b, off, e, ⟨fun h => (ho b h).elim hb.1 (fun h' => by omega), by have := k.size; omega⟩, fun i hi => k.cell hb.1 (hc i hi)⟩
theorem strs_below {O : Nat → Prop} {A B : World} {ns : List ByteArray} {a : Option Addr} (h : Strs A (fun b => ¬ O b ∧ b < A.heap.size) ns a) (k : Below A.heap.size A B) : Strs B (fun b => ¬ O b ∧ b < B.heap.size) ns a :=
  strs_keepO h (KeepO.below k) (fun b hb => Or.inl hb)
theorem se_keepO {O : Nat → Prop} {A B : World} {lo : Nat} (hO : ∀ b, O b → lo ≤ b) (k : KeepO O A B) : ∀ {f : Nat} {x : Se} {v : Value}, SeN A (· < lo) f x v → SeN B (· < lo) f x v
  | 0, _, _, h => h.elim
  | f + 1, x, v, h => by
    obtain ⟨ka, kc, C, h1, h2, h3, h4, hA, hr⟩ := h
    refine ⟨ka, kc, C, h1, h2, h3, h4, fun hn => ?_, fun i hi => se_keepO hO k (hr i hi)⟩
    obtain ⟨b, off, e, hb, hc⟩ := hA hn
    exact ⟨b, off, e, hb, fun i hi j hj => k.cell (fun h => by have := hO b h; omega) (hc i hi j hj)⟩
theorem ses_keepO {O : Nat → Prop} {A B : World} {lo : Nat} {ks : List Se} {a : Option Addr} (h : SeReps A (· < lo) ks a) (hO : ∀ b, O b → lo ≤ b) (k : KeepO O A B) : SeReps B (· < lo) ks a := by
  obtain ⟨h0, C, hA, hr⟩ := h
  refine ⟨h0, C, fun hn => ?_, fun i hi => ?_⟩
  · obtain ⟨b, off, e, hb, hc⟩ := hA hn
    exact ⟨b, off, e, hb, fun i hi j hj => k.cell (fun h => by have := hO b h; omega) (hc i hi j hj)⟩
  · obtain ⟨f, hf⟩ := hr i hi
    exact ⟨f, se_keepO hO k hf⟩
def ArgT (x : Way × Se) (ar : Array Value) (A : World) : Prop := ∃ (wa : Option Addr) (wc : Nat) (ka : Option Addr) (kc : Nat),
  ar = #[.slice wa x.1.length wc, .agg #[.string x.2.al, .string x.2.name, .bool x.2.one, .int .i64 x.2.id, .slice ka x.2.kids.length kc]] ∧ x.1.length ≤ wc ∧ Strs A (· < A.heap.size) x.1 wa ∧ x.2.al.size ≤ maxLen ∧ x.2.name.size ≤ maxLen ∧ (∀ a ∈ x.1, a.size ≤ 1048576) ∧ x.1 ≠ []
def ArgN (lo : Nat) (O : Nat → Prop) (x : Way × Se) (ar : Array Value) (A : World) : Prop := ArgT x ar A ∧ ∃ (g c : Nat) (v : Value), ar = #[.slice (some ⟨g, 0, none⟩) x.1.length c, v] ∧ lo ≤ g ∧ g < A.heap.size ∧ (¬ O g) ∧ ∀ j, A.frozen? ⟨g, j, none⟩ = false
def TellP (J : List (Way × Se) → (Nat → Prop) → World → Prop) (Jx : World → Prop) (O : Nat → Prop) (lo : Nat) (all : List (Way × Se)) (A : World) (e : Ending) (B : World) : Prop :=
  ∃ go, e = .returned (.bool go) ∧ ((go = true ∧ ∃ O', J all O' B ∧ KeepO O A B ∧ (∀ b, O' b → O b ∨ A.heap.size ≤ b) ∧ ∀ b, O' b → lo ≤ b) ∨ (go = false ∧ Jx B))
end Go.Proofs.YtokmgbidmnanpaaGreatDoor
