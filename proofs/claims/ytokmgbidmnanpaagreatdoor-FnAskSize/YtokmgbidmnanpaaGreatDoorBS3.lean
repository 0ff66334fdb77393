import Derived.Test.YtokmgbidmnanpaaGreatDoorB25
import Derived.Test.YtokmgbidmnanpaaGreatDoorBS1
import Derived.Test.YtokmgbidmnanpaaGreatDoorBS2
set_option linter.unusedSimpArgs false
set_option linter.unusedVariables false
namespace Go.Proofs.YtokmgbidmnanpaaGreatDoor
open Go.RowKit Go.Shelf Go.Maps
attribute [local go_sem] Oper.semAt_some
def dpt : Nat → List Se → Nat → Nat
  | 0, _, _ => 0
  | _ + 1, _, 0 => 0
  | f + 1, ks, n + 1 => max (dpt (f + 1) ks n) (1 + dpt f (sth ks n).kids (sth ks n).kids.length)
theorem dpt_le : ∀ (f : Nat) (ks : List Se) (n : Nat), dpt f ks n ≤ f
  | 0, _, _ => by simp [dpt]
  | f + 1, ks, 0 => by simp [dpt]
  | f + 1, ks, n + 1 => by
    have h1 := dpt_le (f + 1) ks n
    have h2 := dpt_le f (sth ks n).kids (sth ks n).kids.length
    rw [dpt]; omega
def top : List (Way × Se) → Nat
  | [] => 0
  | x :: l => max x.1.length (top l)
theorem top_app : ∀ (l m : List (Way × Se)), top (l ++ m) = max (top l) (top m)
  | [], m => by simp [top]
  | x :: l, m => by rw [List.cons_append, top, top, top_app l m]; omega
theorem top_pre : ∀ (f : Nat) (ah : Way) (ks : List Se) (n : Nat), FitS f ks → n ≤ ks.length → top (preTo f ah ks n) = if n = 0 then 0 else ah.length + dpt f ks n
  | 0, ah, ks, n, hf, hn => by
    have e : ks = [] := hf
    subst e
    have : n = 0 := by simpa using hn
    subst this
    simp [preTo, top]
  | f + 1, ah, ks, 0, hf, hn => by simp [preTo, top]
  | f + 1, ah, ks, n + 1, hf, hn => by
    have h1 := top_pre (f + 1) ah ks n hf (by omega)
    have h2 := top_pre f (ah ++ [keyS (sth ks n)]) (sth ks n).kids _ (hf n (by omega)) (Nat.le_refl _)
    rw [preTo_succ, top_app, top, h1, h2, dpt, if_neg (by omega : ¬ n + 1 = 0)]
    simp only [List.length_append, List.length_singleton]
    by_cases hn0 : n = 0
    · subst hn0
      rw [if_pos rfl]
      have e0 : dpt (f + 1) ks 0 = 0 := by simp [dpt]
      rw [e0]
      by_cases hk : (sth ks 0).kids.length = 0
      · rw [if_pos hk, hk]
        have e1 : dpt f (sth ks 0).kids 0 = 0 := by cases f <;> simp [dpt]
        rw [e1]; omega
      · rw [if_neg hk]; omega
    · rw [if_neg hn0]
      by_cases hk : (sth ks n).kids.length = 0
      · rw [if_pos hk, hk]
        have e1 : dpt f (sth ks n).kids 0 = 0 := by cases f <;> simp [dpt]
        rw [e1]; omega
      · rw [if_neg hk]; omega
set_option maxHeartbeats 800000 in
theorem l15Depth_any : ∀ (f : Nat) (ks : List Se) (w : World) (B : Nat) (ka : Option Addr) (kc : Nat), FitS f ks → f ≤ 1000000000 → SeReps w (· < B) ks ka → B ≤ w.heap.size →
    Calls Tryz.prog 44 #[.slice ka ks.length kc] w fun e w' => e = .returned (.int .i64 (dpt f ks ks.length)) ∧ w = w' := by
  intro f
  induction f with
  | zero =>
    intro ks w B ka kc hf hfb hR hB
    have e : ks = [] := hf
    subst e
    go_enter Tryz.func44, Tryz.ntmps44
    go_wp2_with fail
    go_loopw [3, 4] (fun m i wr => m = .int .i64 0 ∧ i = .int .i64 0 ∧ wr = w) (fun _ _ _ => 0)
    case atStart => exact ⟨rfl, rfl, rfl⟩
    case round =>
      obtain ⟨rfl, rfl, rfl⟩ := hrel
      go_wp2_with fail
      go_ret
      exact ⟨ret_int (by simp [dpt]), rfl⟩
  | succ f IH =>
    intro ks w B ka kc hf hfb hR hB
    have h72 := hR.1
    obtain ⟨-, C, hA, hr⟩ := hR
    go_enter Tryz.func44, Tryz.ntmps44
    go_wp2_with fail
    go_loopw [3, 4] (fun m i wr => ∃ k : Nat, k ≤ ks.length ∧ m = .int .i64 (dpt (f + 1) ks k) ∧ i = .int .i64 k ∧ wr = w) (fun _ i _ => ks.length - (intOf i).toNat)
    case atStart => exact ⟨0, Nat.zero_le _, by simp [dpt], rfl, rfl⟩
    case round =>
      obtain ⟨k, hk, rfl, rfl, rfl⟩ := hrel
      have HD : Hid (dpt (f + 1) ks (k + 1) = max (dpt (f + 1) ks k) (1 + dpt f (sth ks k).kids (sth ks k).kids.length)) := hid_of (by rw [dpt])
      have d1 := dpt_le (f + 1) ks k
      by_cases hlt : k < ks.length
      case neg =>
        have e : k = ks.length := by omega
        subst e
        go_wp2_with fail
        go_ret
        exact ⟨ret_int rfl, rfl⟩
      have hki : (k : Int) < (ks.length : Int) := by omega
      obtain ⟨kb, koff, rfl, hkB, hkc⟩ := hA (by omega)
      obtain ⟨sa, sc, e0, e1, e2, e3, e4, hal, hnm, hKids⟩ := (hr k hlt).pieces
      have q4 : wr.cell? ⟨kb, koff + k * 5 + 4, none⟩ = some (.slice sa (sth ks k).kids.length sc) := e4 ▸ hkc k hlt 4 (by omega)
      have HI := hid_of (IH (sth ks k).kids wr B sa sc (hf k hlt) (by omega) hKids hB)
      have d2 := dpt_le f (sth ks k).kids (sth ks k).kids.length
      generalize dpt f (sth ks k).kids (sth ks k).kids.length = v at *
      generalize dpt (f + 1) ks k = u at *
      generalize (sth ks k).kids = kk at *
      clear e0 e1 e2 e3 e4 hkc hr hA hKids IH
      by_cases hgt : u < 1 + v
      · have hgi : (u : Int) < 1 + (v : Int) := by omega
        go_wp2_with fail
        refine HI.out.mono ?_
        rintro e w' ⟨rfl, rfl⟩
        go_wp2_with fail
        go_roundw
        case measure => simp [intOf]; omega
        case rel => exact ⟨k + 1, by omega, by rw [HD.out]; congr 1; omega, by go_num, trivial⟩
      · have hgi : ¬ (u : Int) < 1 + (v : Int) := by omega
        go_wp2_with fail
        refine HI.out.mono ?_
        rintro e w' ⟨rfl, rfl⟩
        go_wp2_with fail
        go_roundw
        case measure => simp [intOf]; omega
        case rel => exact ⟨k + 1, by omega, by rw [HD.out]; congr 1; omega, by go_num, trivial⟩
def askDep (f : Nat) (ks : List Se) : Nat := if askOk f ks = true then dpt f ks ks.length else 0
set_option maxHeartbeats 400000 in
theorem AskDepthS_any (f : Nat) (ks : List Se) (w : World) (B : Nat) (ka : Option Addr) (kc : Nat) (hf : FitS f ks) (hfb : f ≤ 1000000000) (hR : SeReps w (· < B) ks ka) (hB : B ≤ w.heap.size) :
    Calls Tryz.prog 13 #[.slice ka ks.length kc] w fun e w' => e = .returned (.int .i64 (askDep f ks)) ∧ Below w.heap.size w w' := by
  have HO := hid_of (AskOkS_any f ks w B ka kc hf hR hB)
  cases ho : askOk f ks
  · rw [ho] at HO
    have HE : Hid (askDep f ks = 0) := hid_of (by rw [askDep, ho]; rfl)
    go_enter Tryz.func13, Tryz.ntmps13
    go_wp2_with fail
    refine HO.out.mono ?_
    rintro e w1 ⟨rfl, hb1⟩
    go_wp2_with fail
    go_ret
    exact ⟨ret_int (by rw [HE.out]; rfl), hb1⟩
  · rw [ho] at HO
    have HE : Hid (askDep f ks = dpt f ks ks.length) := hid_of (by rw [askDep, ho]; rfl)
    have HD := hid_of (fun W (hW : Below w.heap.size w W) => l15Depth_any f ks W B ka kc hf hfb (hR.under (hW.mono hB)) (by have := hW.size; omega))
    generalize dpt f ks ks.length = v at *
    go_enter Tryz.func13, Tryz.ntmps13
    go_wp2_with fail
    refine HO.out.mono ?_
    rintro e w1 ⟨rfl, hb1⟩
    go_wp2_with fail
    refine (HD.out w1 hb1).mono ?_
    rintro e w2 ⟨rfl, rfl⟩
    go_wp2_with fail
    go_ret
    exact ⟨ret_int (by rw [HE.out]), hb1⟩
end Go.Proofs.YtokmgbidmnanpaaGreatDoor
namespace Go.Proofs.YtokmgbidmnanpaaGreatDoor
open Go.RowKit Go.Shelf Go.Maps
theorem alikeS_self (s : Se) : alikeS s s = true := by simp [alikeS]
theorem sub_self (s : Se) : s.sub s.kids = s := by obtain ⟨a, b, c, d, e⟩ := s; rfl
theorem set_self (l : List Se) (i : Nat) (h : i < l.length) : l.set i (sth l i) = l := by
  apply List.ext_getElem?
  intro j
  by_cases e : i = j
  · subst e; rw [List.getElem?_set_self h, sth_get h, List.getElem?_eq_getElem h]
  · rw [List.getElem?_set_ne e]
theorem joinF_self : ∀ (f : Nat) (a : List Se), Nd f a → joinF f a a = some a
  | 0, a, _ => rfl
  | f + 1, a, h => by
    rw [joinF]
    have key : ∀ n, n ≤ a.length → joinTo (joinF f) a a n = some a := by
      intro n
      induction n with
      | zero => intro _; rfl
      | succ n ih =>
        intro hn
        rw [joinTo_at (ih (by omega)), stepJ_rec (mate_of_nd h (by omega) rfl) (alikeS_self _), joinF_self f _ (h.2 n (by omega))]
        show some (a.set n ((sth a n).sub (sth a n).kids)) = some a
        rw [sub_self, set_self a n (by omega)]
    exact key _ (Nat.le_refl _)
theorem askJoin_self {f : Nat} {a : List Se} (h : askOk f a = true) : askJoin f a a = some a := by
  have hb : askB f a = true := by unfold askOk at h; rw [Bool.and_eq_true] at h; exact h.1
  have ho : okTo f 1 a a.length = true := by unfold askB at hb; rw [Bool.and_eq_true, Bool.and_eq_true] at hb; exact hb.1.2
  unfold askJoin
  rw [if_pos ⟨h, h⟩, joinF_self f a (nd_of_ok ho)]
  show (if askOk f a = true then some a else none) = some a
  rw [if_pos h]
theorem dpt_cnt : ∀ (f : Nat) (ks : List Se) (n : Nat), dpt f ks n ≤ cntTo f ks n
  | 0, ks, n => by simp [dpt]
  | f + 1, ks, 0 => by simp [dpt]
  | f + 1, ks, n + 1 => by
    have h1 := dpt_cnt (f + 1) ks n
    have h2 := dpt_cnt f (sth ks n).kids (sth ks n).kids.length
    rw [dpt, cntTo_succ, cntSe_kids]
    omega
theorem askOk_facts {f : Nat} {a : List Se} (hf : FitS f a) (h : askOk f a = true) : 0 < a.length ∧ (askWays f a).length = cntTo f a a.length ∧ cntTo f a a.length ≤ 24 ∧ 1 ≤ askDep f a ∧ askDep f a ≤ 5 ∧ askDep f a ≤ (askWays f a).length ∧ (askWays f a).Nodup := by
  have hb : askB f a = true := by unfold askOk at h; rw [Bool.and_eq_true] at h; exact h.1
  have hw := hb
  rw [askB_walk f a hf, Bool.and_eq_true, walkB_all] at hw
  obtain ⟨-, h1, -, h3⟩ := hw
  unfold askB at hb
  rw [Bool.and_eq_true, Bool.and_eq_true, decide_eq_true_eq] at hb
  have hne : a ≠ [] := by
    intro e
    subst e
    simp at hb
  have hpos : 0 < a.length := List.length_pos_iff.2 hne
  have hws : askWays f a = (preTo f [] a a.length).map fun x => joinW x.1 := by unfold askWays; rw [if_pos h]
  have hlen : (askWays f a).length = cntTo f a a.length := by rw [hws, List.length_map, preTo_len f [] a a.length (Nat.le_refl _) hf]
  have hd : askDep f a = dpt f a a.length := by unfold askDep; rw [if_pos h]
  have ht := top_pre f [] a a.length hf (Nat.le_refl _)
  rw [if_neg (by omega)] at ht
  simp only [List.length_nil, Nat.zero_add] at ht
  have htop : ∀ l : List (Way × Se), (∀ x ∈ l, x.1.length ≤ 5) → top l ≤ 5 := by
    intro l
    induction l with
    | nil => intro _; simp [top]
    | cons x l ih => intro hx; rw [top]; have := ih (fun y hy => hx y (List.mem_cons_of_mem _ hy)); have := hx x (List.mem_cons_self ..); omega
  have h5 := htop _ fun x hx => (h1 x hx).1
  have h1d : 1 ≤ dpt f a a.length := by
    cases f with
    | zero => exact absurd hf hne
    | succ f =>
      obtain ⟨n, hn⟩ : ∃ n, a.length = n + 1 := ⟨a.length - 1, by omega⟩
      rw [hn, dpt]
      omega
  have hc := dpt_cnt f a a.length
  refine ⟨hpos, hlen, hb.2, by omega, by omega, by omega, by rw [hws]; exact h3⟩
end Go.Proofs.YtokmgbidmnanpaaGreatDoor
