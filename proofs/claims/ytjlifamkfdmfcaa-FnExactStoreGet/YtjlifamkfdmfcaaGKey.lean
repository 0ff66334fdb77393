/-
  Rows by their key: the program's store, and which row is the first of a type with a number.
-/
import Derived.Test.YtjlifamkfdmfcaaKMap
import Derived.Test.YtjlifamkfdmfcaaRRep
import Derived.Test.YtjlifamkfdmfcaaWWeigh
namespace Go.Proofs.Ytjlifamkfdmfcaa
set_option linter.unusedSimpArgs false
set_option linter.unusedVariables false
open Go.RowKit Go.Maps

/-- A row's key. -/
def rk (t : ByteArray) (n : Int) : Value := .agg #[.string t, .int .i64 n]
theorem rk_inj {t t' : ByteArray} {n n' : Int} (h : rk t n = rk t' n') : t = t' ∧ n = n' := by
  simp [rk] at h
  exact h
def RK (v : Value) : Prop := ∃ t n, v = rk t n

theorem rk_under : Try.prog.underlying 99 = some (.struct (Try.prog.fieldsOf 99)) := by kernel_rfl
theorem rk_held : Try.prog.stoodInHeld 99 = false := by kernel_rfl
theorem rk_fields : (Try.prog.fieldsOf 99).toList.map (fun f => (f.name, f.type, f.offset)) = [("of", 9, 0), ("id", 3, 1)] := by kernel_rfl
theorem rk_check (w : World) (em : Bool) (t : ByteArray) (n : Int) : (Instr.checkKey em 10000 99 (.agg #[.string t, .int .i64 n])).run Try.prog w = .ok () w := by kernel_rfl
theorem rk_part0 (w : World) (t : ByteArray) (n : Int) : (part 9 #[.string t, .int .i64 n] 0).run Try.prog w = .ok (.string t) w := by kernel_rfl
theorem rk_part1 (w : World) (t : ByteArray) (n : Int) : (part 3 #[.string t, .int .i64 n] 1).run Try.prog w = .ok (.int .i64 n) w := by kernel_rfl
theorem rk_str : Try.prog.underlying 9 = some .string := by kernel_rfl
theorem rk_int : Try.prog.underlying 3 = some (.int .i64) := by kernel_rfl

theorem bytes_inj {a b : ByteArray} (h : a.toList = b.toList) : a = b := by
  rw [ByteArray.toList_eq, ByteArray.toList_eq] at h
  cases a; cases b
  simp at h
  rw [h]
theorem rk_equal (w : World) (a b : ByteArray) (n m : Int) :
    (Op.equal 99 (.agg #[.string a, .int .i64 n]) (.agg #[.string b, .int .i64 m])).run Try.prog w = .ok ((a.toList == b.toList) && (n == m)) w := by
  have hp : (Op.equalIn 9999 9 (.string a) (.string b)).run Try.prog w = .ok (a.toList == b.toList) w := run_equalIn_string w 9998 9 a b rk_str
  have hi : (Op.equalIn 9999 3 (.int .i64 n) (.int .i64 m)).run Try.prog w = .ok (n == m) w := run_equalIn_int w 9998 3 .i64 .i64 n m rk_int
  show (Op.equalIn (9999 + 1) _ _ _).run _ _ = _
  rw [run_equalIn_agg w 9999 _ _ _ rk_under rk_held]
  obtain ⟨f0, f1, hf⟩ : ∃ f0 f1, (Try.prog.fieldsOf 99).toList = [f0, f1] := by
    have h := congrArg List.length rk_fields
    simp only [List.length_map] at h
    match (Try.prog.fieldsOf 99).toList, h with
    | [f0, f1], _ => exact ⟨f0, f1, rfl⟩
  have hk := rk_fields
  rw [hf] at hk ⊢
  simp only [List.map_cons, List.map_nil, List.cons.injEq, Prod.mk.injEq, and_true] at hk
  obtain ⟨⟨n0, t0, o0⟩, n1, t1, o1⟩ := hk
  simp only [Op.eqFields, n0, t0, o0, n1, t1, o1]
  obtain ⟨q, hq⟩ : ∃ q, q = (n == m) := ⟨_, rfl⟩
  obtain ⟨r, hr⟩ : ∃ q, q = (a.toList == b.toList) := ⟨_, rfl⟩
  rw [← hq] at hi ⊢
  rw [← hr] at hp ⊢
  cases r <;> cases q <;> simp [rk_part0, rk_part1, hp, hi, Result.andThen]

theorem keyR (w : World) : KeyAt Try.prog 99 RK w where
  fields := ⟨_, rk_under⟩
  check em v hv := by obtain ⟨t, n, rfl⟩ := hv; exact rk_check w em _ _
  same v hv := by
    obtain ⟨t, n, rfl⟩ := hv
    have := rk_equal w t t n n
    simpa [rk] using this
  differ u v hu hv hne := by
    obtain ⟨t, n, rfl⟩ := hu
    obtain ⟨t', n', rfl⟩ := hv
    have := rk_equal w t t' n n'
    rw [rk, rk, this]
    by_cases e : t = t'
    · have hn : n ≠ n' := fun h => hne (by rw [e, h])
      simp [hn]
    · have : (t.toList == t'.toList) = false := by simp; exact fun h => e (bytes_inj h)
      simp [this]
  stays v hv := by
    obtain ⟨t, n, rfl⟩ := hv
    have h : (t == t) = true := by
      show ByteArray.beq t t = true
      unfold ByteArray.beq
      simp
    simp [rk, Instr.sameBits, h]

/-- Which of the first k rows is the first one of a type with a number. -/
def fi (rs : List Ro) (t : ByteArray) (n : Int) : Nat → Option Nat
  | 0 => none
  | k + 1 => match fi rs t n k with
    | some i => some i
    | none => if (rth rs k).type = t ∧ (rth rs k).id = n then some k else none
theorem fi_lt {rs : List Ro} {t : ByteArray} {n : Int} : ∀ {k i : Nat}, fi rs t n k = some i → i < k
  | k + 1, i, h => by
    simp only [fi] at h
    split at h
    · rename_i j hj; simp at h; subst h; have := fi_lt hj; omega
    · split at h
      · simp at h; omega
      · cases h
theorem fi_more {rs : List Ro} {t : ByteArray} {n : Int} {k i : Nat} (h : fi rs t n k = some i) : ∀ m, fi rs t n (k + m) = some i
  | 0 => h
  | m + 1 => by
    have := fi_more h m
    show fi rs t n (k + m + 1) = some i
    simp only [fi, this]
theorem fi_at {rs : List Ro} {t : ByteArray} {n : Int} {k l : Nat} (h : fi rs t n k = none) (hk : k < l) (e : (rth rs k).type = t ∧ (rth rs k).id = n) : fi rs t n l = some k := by
  have h1 : fi rs t n (k + 1) = some k := by simp [fi, h, e]
  have := fi_more h1 (l - (k + 1))
  rwa [show k + 1 + (l - (k + 1)) = l by omega] at this
theorem fi_not {rs : List Ro} {t : ByteArray} {n : Int} {k : Nat} (h : fi rs t n k = none) (e : ¬ ((rth rs k).type = t ∧ (rth rs k).id = n)) : fi rs t n (k + 1) = none := by simp [fi, h, e]

/-- Which of the first k cells is the first one of a name. -/
def fc (cs : List Ce) (f : ByteArray) : Nat → Option Nat
  | 0 => none
  | k + 1 => match fc cs f k with
    | some i => some i
    | none => if (cth cs k).name = f then some k else none
theorem fc_lt {cs : List Ce} {f : ByteArray} : ∀ {k i : Nat}, fc cs f k = some i → i < k
  | k + 1, i, h => by
    simp only [fc] at h
    split at h
    · rename_i j hj; simp at h; subst h; have := fc_lt hj; omega
    · split at h
      · simp at h; omega
      · cases h
theorem fc_more {cs : List Ce} {f : ByteArray} {k i : Nat} (h : fc cs f k = some i) : ∀ m, fc cs f (k + m) = some i
  | 0 => h
  | m + 1 => by
    have := fc_more h m
    show fc cs f (k + m + 1) = some i
    simp only [fc, this]
theorem fc_at {cs : List Ce} {f : ByteArray} {k l : Nat} (h : fc cs f k = none) (hk : k < l) (e : (cth cs k).name = f) : fc cs f l = some k := by
  have h1 : fc cs f (k + 1) = some k := by simp [fc, h, e]
  have := fc_more h1 (l - (k + 1))
  rwa [show k + 1 + (l - (k + 1)) = l by omega] at this
theorem fc_not {cs : List Ce} {f : ByteArray} {k : Nat} (h : fc cs f k = none) (e : ¬ (cth cs k).name = f) : fc cs f (k + 1) = none := by simp [fc, h, e]

/-- What is got: the value of the first cell of a name in the first row of a type with a number. -/
def got (rs : List Ro) (t : ByteArray) (n : Int) (f : ByteArray) : Option V :=
  match fi rs t n rs.length with
  | none => none
  | some i => match fc (rth rs i).cells f (rth rs i).cells.length with
    | none => none
    | some j => some (cth (rth rs i).cells j).val

/-- The map of a store: under each key the place of its first row. -/
def Places (rs : List Ro) (k : Nat) (G : Value → Option Value) : Prop := ∀ t n, G (rk t n) = (fi rs t n k).map fun i => .int .i64 (i : Nat)
theorem Places.next {rs : List Ro} {k : Nat} {G : Value → Option Value} (h : Places rs k G) (hs : fi rs (rth rs k).type (rth rs k).id k ≠ none) : Places rs (k + 1) G := by
  intro t n
  rw [h t n]
  by_cases e : (rth rs k).type = t ∧ (rth rs k).id = n
  · obtain ⟨rfl, rfl⟩ := e
    cases hf : fi rs (rth rs k).type (rth rs k).id k with
    | none => exact absurd hf hs
    | some i => simp [fi, hf]
  · cases hf : fi rs t n k with
    | none => rw [fi_not hf e]
    | some i => simp [fi, hf]
theorem Places.put {rs : List Ro} {k : Nat} {G G' : Value → Option Value} (h : Places rs k G) (hs : fi rs (rth rs k).type (rth rs k).id k = none) (h1 : G' (rk (rth rs k).type (rth rs k).id) = some (.int .i64 (k : Nat))) (h2 : ∀ y, y ≠ rk (rth rs k).type (rth rs k).id → G' y = G y) : Places rs (k + 1) G' := by
  intro t n
  by_cases e : (rth rs k).type = t ∧ (rth rs k).id = n
  · obtain ⟨rfl, rfl⟩ := e
    rw [h1]
    simp [fi, hs]
  · rw [h2 _ (fun h => e (by have := rk_inj h; exact ⟨this.1.symm, this.2.symm⟩)), h t n]
    cases hf : fi rs t n k with
    | none => rw [fi_not hf e]
    | some i => simp [fi, hf]
end Go.Proofs.Ytjlifamkfdmfcaa
