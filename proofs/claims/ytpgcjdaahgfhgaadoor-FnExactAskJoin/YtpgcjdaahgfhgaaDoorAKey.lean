/-
  The keys of lists of fields: a place and how many there are.
-/
import Derived.Test.YtpgcjdaahgfhgaaDoorKMap
import Derived.Test.YtpgcjdaahgfhgaaDoorABase
import Derived.Deep.RegionWith
import Derived.BigRegion
import Derived.Laws.EntriesVeiled
namespace Go.Proofs.YtpgcjdaahgfhgaaDoor
set_option linter.unusedSimpArgs false
set_option linter.unusedVariables false
open Go.RowKit

/-- A key: where the first one stands, and how many there are. -/
def pk (b o n : Nat) : Value := .agg #[.pointer (some ⟨b, o, none⟩), .int .i64 n]
theorem pk_inj {b o n b' o' n' : Nat} (h : pk b o n = pk b' o' n') : b = b' ∧ o = o' ∧ n = n' := by
  simp [pk] at h
  omega
/-- Keys whose blocks can be told apart. -/
def PK (w : World) (v : Value) : Prop := ∃ b o n, v = pk b o n ∧ Apart w b

theorem kk_under : Tryd.prog.underlying 91 = some (.struct (Tryd.prog.fieldsOf 91)) := by kernel_rfl
theorem kk_held : Tryd.prog.stoodInHeld 91 = false := by kernel_rfl
theorem kk_fields : (Tryd.prog.fieldsOf 91).toList.map (fun f => (f.name, f.type, f.offset)) = [("first", 52, 0), ("count", 3, 1)] := by kernel_rfl
theorem kk_check (w : World) (em : Bool) (a : Option Addr) (n : Int) : (Instr.checkKey em 10000 91 (.agg #[.pointer a, .int .i64 n])).run Tryd.prog w = .ok () w := by kernel_rfl
theorem kk_part0 (w : World) (a : Option Addr) (n : Int) : (part 52 #[.pointer a, .int .i64 n] 0).run Tryd.prog w = .ok (.pointer a) w := by kernel_rfl
theorem kk_part1 (w : World) (a : Option Addr) (n : Int) : (part 3 #[.pointer a, .int .i64 n] 1).run Tryd.prog w = .ok (.int .i64 n) w := by kernel_rfl
theorem kk_ptr : Tryd.prog.underlying 52 = some (.pointer 37) := by kernel_rfl
theorem kk_size (w : World) : (sizeOf 37).run Tryd.prog w = .ok 5 w := by kernel_rfl
theorem kk_int : Tryd.prog.underlying 3 = some (.int .i64) := by kernel_rfl

theorem kk_equal (w : World) (a b : Addr) (n m : Int) (r : Bool) (h : (sameAddr a b).run Tryd.prog w = .ok r w) :
    (Op.equal 91 (.agg #[.pointer (some a), .int .i64 n]) (.agg #[.pointer (some b), .int .i64 m])).run Tryd.prog w = .ok (r && (n == m)) w := by
  have hp0 : ∀ d : Nat, (Op.equalIn (d + 1) 52 (.pointer (some a)) (.pointer (some b))).run Tryd.prog w = .ok r w := fun d => by
    simp [Op.equalIn, run_underlying kk_ptr, kk_size, h, Result.andThen]
  have hp : (Op.equalIn 9999 52 (.pointer (some a)) (.pointer (some b))).run Tryd.prog w = .ok r w := hp0 9998
  have hi : (Op.equalIn 9999 3 (.int .i64 n) (.int .i64 m)).run Tryd.prog w = .ok (n == m) w := run_equalIn_int w 9998 3 .i64 .i64 n m kk_int
  show (Op.equalIn (9999 + 1) _ _ _).run _ _ = _
  rw [run_equalIn_agg w 9999 _ _ _ kk_under kk_held]
  obtain ⟨f0, f1, hf⟩ : ∃ f0 f1, (Tryd.prog.fieldsOf 91).toList = [f0, f1] := by
    have h := congrArg List.length kk_fields
    simp only [List.length_map] at h
    match (Tryd.prog.fieldsOf 91).toList, h with
    | [f0, f1], _ => exact ⟨f0, f1, rfl⟩
  have hk := kk_fields
  rw [hf] at hk ⊢
  simp only [List.map_cons, List.map_nil, List.cons.injEq, Prod.mk.injEq, and_true] at hk
  obtain ⟨⟨n0, t0, o0⟩, n1, t1, o1⟩ := hk
  simp only [Op.eqFields, n0, t0, o0, n1, t1, o1]
  obtain ⟨q, hq⟩ : ∃ q, q = (n == m) := ⟨_, rfl⟩
  rw [← hq] at hi ⊢
  cases r <;> cases q <;> simp [kk_part0, kk_part1, hp, hi, Result.andThen]

theorem keyK {w : World} {J : Value → Prop} (hJ : ∀ v, J v → PK w v) : KeyAt Tryd.prog 91 J w where
  fields := ⟨_, kk_under⟩
  check em v hv := by obtain ⟨b, o, n, rfl, _⟩ := hJ v hv; exact kk_check w em _ _
  same v hv := by
    obtain ⟨b, o, n, rfl, _⟩ := hJ v hv
    have := kk_equal w ⟨b, o, none⟩ ⟨b, o, none⟩ n n true (run_sameAddr_same w _)
    simpa [pk] using this
  differ u v hu hv hne := by
    obtain ⟨b, o, n, rfl, h1⟩ := hJ u hu
    obtain ⟨b', o', n', rfl, h2⟩ := hJ v hv
    by_cases ha : (⟨b, o, none⟩ : Addr) = ⟨b', o', none⟩
    · have hn : n ≠ n' := fun e => hne (by rw [pk, pk, ha, e])
      have := kk_equal w ⟨b, o, none⟩ ⟨b', o', none⟩ n n' true (by rw [ha]; exact run_sameAddr_same w _)
      rw [pk, pk, this]
      have : ((n : Int) == (n' : Int)) = false := by simp; omega
      simp [this]
    · have := kk_equal w ⟨b, o, none⟩ ⟨b', o', none⟩ n n' false (sameAddr_apart ha h1 h2)
      rw [pk, pk, this]; rfl
  stays v hv := by
    obtain ⟨b, o, n, rfl, _⟩ := hJ v hv
    simp [pk, Instr.sameBits]

set_option maxHeartbeats 400000 in
theorem keyOfKids_any (w : World) (b o n c : Nat) (hn : 0 < n) (h72 : 72 * n ≤ 281474976710656) :
    Calls Tryd.prog 54 #[.slice (some ⟨b, o, none⟩) n c] w fun e w' => e = .returned (pk b o n) ∧ Below w.heap.size w w' := by
  have hni : (0 : Int) < (n : Int) := by omega
  have hn0 : ¬ (n : Int) = 0 := by omega
  go_enter Tryd.func54, Tryd.ntmps54
  go_wp2_with fail
  refine bodyPost_ret (v := pk b o n) (by simp [results, Tryd.results54, go_sem, pk]) rfl ⟨rfl, ?_⟩
  exact below_box _ _
end Go.Proofs.YtpgcjdaahgfhgaaDoor
