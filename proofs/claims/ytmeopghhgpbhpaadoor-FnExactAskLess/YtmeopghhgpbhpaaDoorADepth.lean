/-
  How many levels an ask has: the model's l15Depth and AskDepth, the program's AskDepth.
-/
import Derived.Test.YtmeopghhgpbhpaaDoorAAsk
namespace Go.Proofs.YtmeopghhgpbhpaaDoor
set_option linter.unusedSimpArgs false
set_option linter.unusedVariables false
open Go.RowKit Go.Shelf Go.Maps
attribute [local go_sem] Oper.semAt_some

/-- How many levels the first n of a list have. -/
def dpt : Nat → List Se → Nat → Nat
  | 0, _, _ => 0
  | _ + 1, _, 0 => 0
  | f + 1, ks, n + 1 => max (dpt (f + 1) ks n) (1 + dpt f (sth ks n).kids (sth ks n).kids.length)
theorem dpt_le : ∀ (f : Nat) (ks : List Se) (n : Nat), dpt f ks n ≤ f
  | 0, _, _ => by simp [dpt]
  | f + 1, ks, 0 => by simp [dpt]
  | f + 1, ks, n + 1 => by
    have h1 := dpt_le (f + 1) ks n
    have h2 := dpt_le f (sth ks n).kids (sth ks n).kids.length
    rw [dpt]; omega
/-- How long the longest way is. -/
def top : List (Way × Se) → Nat
  | [] => 0
  | x :: l => max x.1.length (top l)
theorem top_app : ∀ (l m : List (Way × Se)), top (l ++ m) = max (top l) (top m)
  | [], m => by simp [top]
  | x :: l, m => by rw [List.cons_append, top, top, top_app l m]; omega
theorem top_pre : ∀ (f : Nat) (ah : Way) (ks : List Se) (n : Nat), FitS f ks → n ≤ ks.length → top (preTo f ah ks n) = if n = 0 then 0 else ah.length + dpt f ks n
  | 0, ah, ks, n, hf, hn => by
    have e : ks = [] := hf
    subst e
    have : n = 0 := by simpa using hn
    subst this
    simp [preTo, top]
  | f + 1, ah, ks, 0, hf, hn => by simp [preTo, top]
  | f + 1, ah, ks, n + 1, hf, hn => by
    have h1 := top_pre (f + 1) ah ks n hf (by omega)
    have h2 := top_pre f (ah ++ [keyS (sth ks n)]) (sth ks n).kids _ (hf n (by omega)) (Nat.le_refl _)
    rw [preTo_succ, top_app, top, h1, h2, dpt, if_neg (by omega : ¬ n + 1 = 0)]
    simp only [List.length_append, List.length_singleton]
    by_cases hn0 : n = 0
    · subst hn0
      rw [if_pos rfl]
      have e0 : dpt (f + 1) ks 0 = 0 := by simp [dpt]
      rw [e0]
      by_cases hk : (sth ks 0).kids.length = 0
      · rw [if_pos hk, hk]
        have e1 : dpt f (sth ks 0).kids 0 = 0 := by cases f <;> simp [dpt]
        rw [e1]; omega
      · rw [if_neg hk]; omega
    · rw [if_neg hn0]
      by_cases hk : (sth ks n).kids.length = 0
      · rw [if_pos hk, hk]
        have e1 : dpt f (sth ks n).kids 0 = 0 := by cases f <;> simp [dpt]
        rw [e1]; omega
      · rw [if_neg hk]; omega

set_option maxHeartbeats 800000 in
theorem l15Depth_any : ∀ (f : Nat) (ks : List Se) (w : World) (B : Nat) (ka : Option Addr) (kc : Nat), FitS f ks → f ≤ 1000000000 → SeReps w (· < B) ks ka → B ≤ w.heap.size →
    Calls Tryd.prog 36 #[.slice ka ks.length kc] w fun e w' => e = .returned (.int .i64 (dpt f ks ks.length)) ∧ w = w' := by
  intro f
  induction f with
  | zero =>
    intro ks w B ka kc hf hfb hR hB
    have e : ks = [] := hf
    subst e
    go_enter Tryd.func36, Tryd.ntmps36
    go_wp2_with fail
    go_loopw [3, 4] (fun m i wr => m = .int .i64 0 ∧ i = .int .i64 0 ∧ wr = w) (fun _ _ _ => 0)
    case atStart => exact ⟨rfl, rfl, rfl⟩
    case round =>
      obtain ⟨rfl, rfl, rfl⟩ := hrel
      go_wp2_with fail
      go_ret
      exact ⟨ret_int (by simp [dpt]), rfl⟩
  | succ f IH =>
    intro ks w B ka kc hf hfb hR hB
    have h72 := hR.1
    obtain ⟨-, C, hA, hr⟩ := hR
    go_enter Tryd.func36, Tryd.ntmps36
    go_wp2_with fail
    go_loopw [3, 4] (fun m i wr => ∃ k : Nat, k ≤ ks.length ∧ m = .int .i64 (dpt (f + 1) ks k) ∧ i = .int .i64 k ∧ wr = w) (fun _ i _ => ks.length - (intOf i).toNat)
    case atStart => exact ⟨0, Nat.zero_le _, by simp [dpt], rfl, rfl⟩
    case round =>
      obtain ⟨k, hk, rfl, rfl, rfl⟩ := hrel
      have HD : Hid (dpt (f + 1) ks (k + 1) = max (dpt (f + 1) ks k) (1 + dpt f (sth ks k).kids (sth ks k).kids.length)) := hid_of (by rw [dpt])
      have d1 := dpt_le (f + 1) ks k
      by_cases hlt : k < ks.length
      case neg =>
        have e : k = ks.length := by omega
        subst e
        go_wp2_with fail
        go_ret
        exact ⟨ret_int rfl, rfl⟩
      have hki : (k : Int) < (ks.length : Int) := by omega
      obtain ⟨kb, koff, rfl, hkB, hkc⟩ := hA (by omega)
      obtain ⟨sa, sc, e0, e1, e2, e3, e4, hal, hnm, hKids⟩ := (hr k hlt).pieces
      have q4 : wr.cell? ⟨kb, koff + k * 5 + 4, none⟩ = some (.slice sa (sth ks k).kids.length sc) := e4 ▸ hkc k hlt 4 (by omega)
      have HI := hid_of (IH (sth ks k).kids wr B sa sc (hf k hlt) (by omega) hKids hB)
      have d2 := dpt_le f (sth ks k).kids (sth ks k).kids.length
      generalize dpt f (sth ks k).kids (sth ks k).kids.length = v at *
      generalize dpt (f + 1) ks k = u at *
      generalize (sth ks k).kids = kk at *
      clear e0 e1 e2 e3 e4 hkc hr hA hKids IH
      by_cases hgt : u < 1 + v
      · have hgi : (u : Int) < 1 + (v : Int) := by omega
        go_wp2_with fail
        refine HI.out.mono ?_
        rintro e w' ⟨rfl, rfl⟩
        go_wp2_with fail
        go_roundw
        case measure => simp [intOf]; omega
        case rel => exact ⟨k + 1, by omega, by rw [HD.out]; congr 1; omega, by go_num, trivial⟩
      · have hgi : ¬ (u : Int) < 1 + (v : Int) := by omega
        go_wp2_with fail
        refine HI.out.mono ?_
        rintro e w' ⟨rfl, rfl⟩
        go_wp2_with fail
        go_roundw
        case measure => simp [intOf]; omega
        case rel => exact ⟨k + 1, by omega, by rw [HD.out]; congr 1; omega, by go_num, trivial⟩

/-- How many levels an ask has, none if it is not ok. -/
def askDep (f : Nat) (ks : List Se) : Nat := if askOk f ks = true then dpt f ks ks.length else 0

set_option maxHeartbeats 400000 in
theorem AskDepthS_any (f : Nat) (ks : List Se) (w : World) (B : Nat) (ka : Option Addr) (kc : Nat) (hf : FitS f ks) (hfb : f ≤ 1000000000) (hR : SeReps w (· < B) ks ka) (hB : B ≤ w.heap.size) :
    Calls Tryd.prog 16 #[.slice ka ks.length kc] w fun e w' => e = .returned (.int .i64 (askDep f ks)) ∧ Below w.heap.size w w' := by
  have HO := hid_of (AskOkS_any f ks w B ka kc hf hR hB)
  cases ho : askOk f ks
  · rw [ho] at HO
    have HE : Hid (askDep f ks = 0) := hid_of (by rw [askDep, ho]; rfl)
    go_enter Tryd.func16, Tryd.ntmps16
    go_wp2_with fail
    refine HO.out.mono ?_
    rintro e w1 ⟨rfl, hb1⟩
    go_wp2_with fail
    go_ret
    exact ⟨ret_int (by rw [HE.out]; rfl), hb1⟩
  · rw [ho] at HO
    have HE : Hid (askDep f ks = dpt f ks ks.length) := hid_of (by rw [askDep, ho]; rfl)
    have HD := hid_of (fun W (hW : Below w.heap.size w W) => l15Depth_any f ks W B ka kc hf hfb (hR.under (hW.mono hB)) (by have := hW.size; omega))
    generalize dpt f ks ks.length = v at *
    go_enter Tryd.func16, Tryd.ntmps16
    go_wp2_with fail
    refine HO.out.mono ?_
    rintro e w1 ⟨rfl, hb1⟩
    go_wp2_with fail
    refine (HD.out w1 hb1).mono ?_
    rintro e w2 ⟨rfl, rfl⟩
    go_wp2_with fail
    go_ret
    exact ⟨ret_int (by rw [HE.out]), hb1⟩
end Go.Proofs.YtmeopghhgpbhpaaDoor
