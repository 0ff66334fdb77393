import Derived.Test.YtbpdchlbhfjddaaGreatJ2
import Derived.Test.YtbpdchlbhfjddaaGreatJ1
import Derived.Deep.RegionWith
import Derived.BigRegion
import Derived.Laws.EntriesVeiled
namespace Go.Proofs.YtbpdchlbhfjddaaGreat
set_option linter.unusedSimpArgs false
set_option linter.unusedVariables false
open Go.RowKit

mutual
/-- How many parts a value has. -/
def cntV : V → Nat
  | .mk _ _ _ _ ks => 1 + cntL ks
/-- The same of a list of values. -/
def cntL : List V → Nat
  | [] => 0
  | k :: r => cntV k + cntL r
end
theorem cntV_pos (x : V) : 1 ≤ cntV x := by cases x; simp [cntV]
theorem len_cntL (ks : List V) : ks.length ≤ cntL ks := by
  induction ks with
  | nil => simp
  | cons k r ih =>
    have := cntV_pos k
    simp only [cntL, List.length_cons]
    omega

/-- A place that is still to be copied: its block, where it begins there, and what is meant there. -/
structure Pl where
  b : Nat
  o : Nat
  y : V
def Pl.has (e : Pl) (b o : Nat) : Prop := e.b = b ∧ e.o ≤ o ∧ o < e.o + 5
def inL (L : List Pl) (b o : Nat) : Prop := ∃ e ∈ L, e.has b o
/-- A place holds a value. -/
def RepAt (w : World) (P : Nat → Prop) (b o : Nat) (y : V) : Prop := ∃ c0 c1 c2 c3 c4 : Value, w.cell? ⟨b, o, none⟩ = some c0 ∧ w.cell? ⟨b, o + 1, none⟩ = some c1 ∧ w.cell? ⟨b, o + 2, none⟩ = some c2 ∧ w.cell? ⟨b, o + 3, none⟩ = some c3 ∧ w.cell? ⟨b, o + 4, none⟩ = some c4 ∧ Rep w P y (.agg #[c0, c1, c2, c3, c4])
/-- The blocks that a call has made, but for its result's own. -/
def New (base : Nat) (w : World) : Nat → Prop := fun b => base ≤ b ∧ b < w.heap.size ∧ b ≠ base + 1
/-- In every later world that keeps the blocks T outside the open places, and in which each open place holds its value in new memory, the root holds x in new memory. -/
def Closes (w : World) (base : Nat) (T : Nat → Prop) (L : List Pl) (root : Nat) (x : V) : Prop :=
  ∀ w' : World, w.heap.size ≤ w'.heap.size → (∀ b o, T b → ¬ inL L b o → w'.cell? ⟨b, o, none⟩ = w.cell? ⟨b, o, none⟩) → (∀ e, e ∈ L → RepAt w' (New base w') e.b e.o e.y) → RepAt w' (New base w') root 0 x

theorem Closes.start (w : World) (base : Nat) (T : Nat → Prop) (root : Nat) (x : V) : Closes w base T [⟨root, 0, x⟩] root x := fun w' _ _ h => h ⟨root, 0, x⟩ (by simp)
theorem Closes.done {w : World} {base : Nat} {T : Nat → Prop} {root : Nat} {x : V} (h : Closes w base T [] root x) : RepAt w (New base w) root 0 x :=
  h w (Nat.le_refl _) (fun _ _ _ _ => rfl) (fun e he => by simp at he)

/-- The places of the first kids. -/
def kidPls (kb : Nat) (ks : List V) (n : Nat) : List Pl := (List.range n).map fun i => ⟨kb, i * 5, kth ks i⟩
theorem kidPls_succ (kb : Nat) (ks : List V) (n : Nat) : kidPls kb ks (n + 1) = kidPls kb ks n ++ [⟨kb, n * 5, kth ks n⟩] := by simp [kidPls, List.range_succ]
theorem kidPls_mem {kb : Nat} {ks : List V} {n : Nat} {e : Pl} (h : e ∈ kidPls kb ks n) : ∃ i, i < n ∧ e = ⟨kb, i * 5, kth ks i⟩ := by
  simp only [kidPls, List.mem_map, List.mem_range] at h
  obtain ⟨i, hi, rfl⟩ := h
  exact ⟨i, hi, rfl⟩
theorem kidPls_in (kb : Nat) (ks : List V) {n i : Nat} (h : i < n) : (⟨kb, i * 5, kth ks i⟩ : Pl) ∈ kidPls kb ks n := by
  simp only [kidPls, List.mem_map, List.mem_range]; exact ⟨i, h, rfl⟩

/-- What is to be done still: the parts of all open places. -/
def todo (L : List Pl) : Nat := cntL (L.map Pl.y)
theorem cntL_append (a b : List V) : cntL (a ++ b) = cntL a + cntL b := by
  induction a with
  | nil => simp [cntL]
  | cons k r ih => simp [cntL, ih]; omega
theorem kid_vals (kb : Nat) (ks : List V) : (kidPls kb ks ks.length).map Pl.y = ks := by
  apply List.ext_getElem
  · simp [kidPls]
  · intro i h1 h2; simp [kidPls, kth, List.getD_eq_getElem?_getD, List.getElem?_eq_getElem h2]
theorem todo_step (L0 : List Pl) (b o : Nat) (s n : Int) (t : ByteArray) (ns : List ByteArray) (ks : List V) (kb : Nat) : todo (L0 ++ kidPls kb ks ks.length) + 1 = todo (L0 ++ [⟨b, o, .mk s n t ns ks⟩]) := by
  simp only [todo, List.map_append, cntL_append, kid_vals, List.map_cons, List.map_nil, cntL, cntV]
  omega
theorem todo_len (L : List Pl) : L.length ≤ todo L := by
  induction L with
  | nil => simp
  | cons e r ih =>
    have := cntV_pos e.y
    simp only [todo, List.map_cons, cntL, List.length_cons] at ih ⊢
    omega

theorem Closes.step {w w2 : World} {base : Nat} {T T2 N : Nat → Prop} {L0 : List Pl} {b o : Nat} {s n : Int} {t : ByteArray} {ns : List ByteArray} {ks : List V} {root : Nat} {x : V} {na ka : Option Addr} {nc kc kb : Nat}
    (h : Closes w base T (L0 ++ [⟨b, o, .mk s n t ns ks⟩]) root x) (hsz : w.heap.size ≤ w2.heap.size) (hbz : base + 1 < w.heap.size)
    (hT : ∀ c, T c → base ≤ c ∧ c < w.heap.size) (hTb : T b) (hT2 : ∀ c, T c → T2 c) (hN2 : ∀ c, N c → T2 c)
    (hL0 : ∀ e, e ∈ L0 → T e.b) (hap : ∀ e, e ∈ L0 → e.b ≠ b ∨ e.o + 5 ≤ o ∨ o + 5 ≤ e.o)
    (hN : ∀ c, N c → w.heap.size ≤ c ∧ c < w2.heap.size ∧ c ≠ kb) (hkb : w.heap.size ≤ kb) (hkb2 : ks ≠ [] → kb < w2.heap.size)
    (hkeep : ∀ c i, T c → ¬ inL (L0 ++ [⟨b, o, .mk s n t ns ks⟩]) c i → w2.cell? ⟨c, i, none⟩ = w.cell? ⟨c, i, none⟩)
    (c0 : w2.cell? ⟨b, o, none⟩ = some (.int .i64 s)) (c1 : w2.cell? ⟨b, o + 1, none⟩ = some (.int .i64 n)) (c2 : w2.cell? ⟨b, o + 2, none⟩ = some (.string t)) (c3 : w2.cell? ⟨b, o + 3, none⟩ = some (.slice na ns.length nc)) (c4 : w2.cell? ⟨b, o + 4, none⟩ = some (.slice ka ks.length kc))
    (hS : Strs w2 N ns na) (hnc : ns.length ≤ nc) (ht : t.size ≤ maxLen) (hbs : 16 * ns.length ≤ 281474976710656) (hbk : 80 * ks.length ≤ 281474976710656) (hka : ks ≠ [] → ka = some ⟨kb, 0, none⟩) :
    Closes w2 base T2 (L0 ++ kidPls kb ks ks.length) root x := by
  intro w' hz hk hr
  have hbb := hT b hTb
  have notK : ∀ c i, c < w.heap.size → ¬ inL (kidPls kb ks ks.length) c i := by
    rintro c i hc ⟨e, he, h1, -⟩
    obtain ⟨j, hj, rfl⟩ := kidPls_mem he
    simp only at h1
    omega
  refine h w' (by omega) (fun c i hc hn => ?_) (fun e he => ?_)
  · rw [hk c i (hT2 c hc) (fun hin => hn ?_), hkeep c i hc hn]
    obtain ⟨e, he, hh⟩ := hin
    rcases List.mem_append.1 he with he | he
    · exact ⟨e, List.mem_append_left _ he, hh⟩
    · exact absurd ⟨e, he, hh⟩ (notK c i (hT c hc).2)
  · rcases List.mem_append.1 he with he | he
    · exact hr e (List.mem_append_left _ he)
    · obtain rfl : e = ⟨b, o, .mk s n t ns ks⟩ := by simpa using he
      have cell : ∀ j, j < 5 → w'.cell? ⟨b, o + j, none⟩ = w2.cell? ⟨b, o + j, none⟩ := fun j hj => hk b (o + j) (hT2 b hTb) fun hin => by
        obtain ⟨e, he, h1, h2, h3⟩ := hin
        rcases List.mem_append.1 he with he' | he'
        · rcases hap e he' with h4 | h4 | h4
          · exact h4 h1
          · omega
          · omega
        · exact notK b (o + j) hbb.2 ⟨e, he', h1, h2, h3⟩
      refine ⟨_, _, _, _, _, (cell 0 (by omega)).trans c0, (cell 1 (by omega)).trans c1, (cell 2 (by omega)).trans c2, (cell 3 (by omega)).trans c3, (cell 4 (by omega)).trans c4, Rep.of_kids ⟨fun hne => ?_, hS.2⟩ hnc ht hbs ?_⟩
      · obtain ⟨nb, off, e1, e2, e3⟩ := hS.1 hne
        have hn := hN nb e2
        refine ⟨nb, off, e1, ⟨by omega, by omega, by omega⟩, fun i hi => (hk nb (off + i) (hN2 nb e2) fun hin => ?_).trans (e3 i hi)⟩
        obtain ⟨e, he, h1, h2, h3⟩ := hin
        rcases List.mem_append.1 he with he' | he'
        · have := (hT _ (hL0 e he')).2; omega
        · obtain ⟨j, hj, rfl⟩ := kidPls_mem he'
          exact hn.2.2 h1.symm
      · refine ⟨hbk, ?_⟩
        have hK : ∀ i, ∃ C : Nat → Value, i < ks.length → (∀ j, j < 5 → w'.cell? ⟨kb, 0 + i * 5 + j, none⟩ = some (C j)) ∧ Rep w' (New base w') (kth ks i) (.agg #[C 0, C 1, C 2, C 3, C 4]) := fun i => by
          by_cases hi : i < ks.length
          · obtain ⟨d0, d1, d2, d3, d4, g0, g1, g2, g3, g4, hR⟩ := hr ⟨kb, i * 5, kth ks i⟩ (List.mem_append_right _ (kidPls_in kb ks hi))
            refine ⟨fun j => if j = 0 then d0 else if j = 1 then d1 else if j = 2 then d2 else if j = 3 then d3 else d4, fun _ => ⟨fun j hj => ?_, by simpa using hR⟩⟩
            have : j = 0 ∨ j = 1 ∨ j = 2 ∨ j = 3 ∨ j = 4 := by omega
            rcases this with rfl | rfl | rfl | rfl | rfl
            · simpa using g0
            · simpa using g1
            · simpa using g2
            · simpa using g3
            · simpa using g4
          · exact ⟨fun _ => undef, fun h => absurd h hi⟩
        obtain ⟨C, hC⟩ := Classical.skolem.1 hK
        exact ⟨kb, 0, C, fun hne => ⟨hka hne, by omega, by have := hkb2 hne; omega, by omega⟩, fun i hi => (hC i hi).1, fun i hi => (hC i hi).2⟩
end Go.Proofs.YtbpdchlbhfjddaaGreat

namespace Go.Proofs.YtbpdchlbhfjddaaGreat
set_option linter.unusedSimpArgs false
set_option linter.unusedVariables false
open Go.RowKit

/-- A key: where the first one stands, and how many there are. -/
def pk (b o n : Nat) : Value := .agg #[.pointer (some ⟨b, o, none⟩), .int .i64 n]
theorem pk_inj {b o n b' o' n' : Nat} (h : pk b o n = pk b' o' n') : b = b' ∧ o = o' ∧ n = n' := by
  simp [pk] at h
  omega
/-- Keys whose blocks can be told apart. -/
def PK (w : World) (v : Value) : Prop := ∃ b o n, v = pk b o n ∧ Apart w b

theorem kk_under : Tryz.prog.underlying 136 = some (.struct (Tryz.prog.fieldsOf 136)) := by kernel_rfl
theorem kk_held : Tryz.prog.stoodInHeld 136 = false := by kernel_rfl
theorem kk_fields : (Tryz.prog.fieldsOf 136).toList.map (fun f => (f.name, f.type, f.offset)) = [("first", 130, 0), ("count", 3, 1)] := by kernel_rfl
theorem kk_check (w : World) (em : Bool) (a : Option Addr) (n : Int) : (Instr.checkKey em 10000 136 (.agg #[.pointer a, .int .i64 n])).run Tryz.prog w = .ok () w := by kernel_rfl
theorem kk_part0 (w : World) (a : Option Addr) (n : Int) : (part 130 #[.pointer a, .int .i64 n] 0).run Tryz.prog w = .ok (.pointer a) w := by kernel_rfl
theorem kk_part1 (w : World) (a : Option Addr) (n : Int) : (part 3 #[.pointer a, .int .i64 n] 1).run Tryz.prog w = .ok (.int .i64 n) w := by kernel_rfl
theorem kk_ptr : Tryz.prog.underlying 130 = some (.pointer 58) := by kernel_rfl
theorem kk_size (w : World) : (sizeOf 58).run Tryz.prog w = .ok 5 w := by kernel_rfl
theorem kk_int : Tryz.prog.underlying 3 = some (.int .i64) := by kernel_rfl

theorem kk_equal (w : World) (a b : Addr) (n m : Int) (r : Bool) (h : (sameAddr a b).run Tryz.prog w = .ok r w) :
    (Op.equal 136 (.agg #[.pointer (some a), .int .i64 n]) (.agg #[.pointer (some b), .int .i64 m])).run Tryz.prog w = .ok (r && (n == m)) w := by
  have hp0 : ∀ d : Nat, (Op.equalIn (d + 1) 130 (.pointer (some a)) (.pointer (some b))).run Tryz.prog w = .ok r w := fun d => by
    simp [Op.equalIn, run_underlying kk_ptr, kk_size, h, Result.andThen]
  have hp : (Op.equalIn 9999 130 (.pointer (some a)) (.pointer (some b))).run Tryz.prog w = .ok r w := hp0 9998
  have hi : (Op.equalIn 9999 3 (.int .i64 n) (.int .i64 m)).run Tryz.prog w = .ok (n == m) w := run_equalIn_int w 9998 3 .i64 .i64 n m kk_int
  show (Op.equalIn (9999 + 1) _ _ _).run _ _ = _
  rw [run_equalIn_agg w 9999 _ _ _ kk_under kk_held]
  obtain ⟨f0, f1, hf⟩ : ∃ f0 f1, (Tryz.prog.fieldsOf 136).toList = [f0, f1] := by
    have h := congrArg List.length kk_fields
    simp only [List.length_map] at h
    match (Tryz.prog.fieldsOf 136).toList, h with
    | [f0, f1], _ => exact ⟨f0, f1, rfl⟩
  have hk := kk_fields
  rw [hf] at hk ⊢
  simp only [List.map_cons, List.map_nil, List.cons.injEq, Prod.mk.injEq, and_true] at hk
  obtain ⟨⟨n0, t0, o0⟩, n1, t1, o1⟩ := hk
  simp only [Op.eqFields, n0, t0, o0, n1, t1, o1]
  obtain ⟨q, hq⟩ : ∃ q, q = (n == m) := ⟨_, rfl⟩
  rw [← hq] at hi ⊢
  cases r <;> cases q <;> simp [kk_part0, kk_part1, hp, hi, Result.andThen]

theorem keyK {w : World} {J : Value → Prop} (hJ : ∀ v, J v → PK w v) : KeyAt Tryz.prog 136 J w where
  fields := ⟨_, kk_under⟩
  check em v hv := by obtain ⟨b, o, n, rfl, _⟩ := hJ v hv; exact kk_check w em _ _
  same v hv := by
    obtain ⟨b, o, n, rfl, _⟩ := hJ v hv
    have := kk_equal w ⟨b, o, none⟩ ⟨b, o, none⟩ n n true (run_sameAddr_same w _)
    simpa [pk] using this
  differ u v hu hv hne := by
    obtain ⟨b, o, n, rfl, h1⟩ := hJ u hu
    obtain ⟨b', o', n', rfl, h2⟩ := hJ v hv
    by_cases ha : (⟨b, o, none⟩ : Addr) = ⟨b', o', none⟩
    · have hn : n ≠ n' := fun e => hne (by rw [pk, pk, ha, e])
      have := kk_equal w ⟨b, o, none⟩ ⟨b', o', none⟩ n n' true (by rw [ha]; exact run_sameAddr_same w _)
      rw [pk, pk, this]
      have : ((n : Int) == (n' : Int)) = false := by simp; omega
      simp [this]
    · have := kk_equal w ⟨b, o, none⟩ ⟨b', o', none⟩ n n' false (sameAddr_apart ha h1 h2)
      rw [pk, pk, this]; rfl
  stays v hv := by
    obtain ⟨b, o, n, rfl, _⟩ := hJ v hv
    simp [pk, Instr.sameBits]
end Go.Proofs.YtbpdchlbhfjddaaGreat

namespace Go.Proofs.YtbpdchlbhfjddaaGreat
set_option linter.unusedSimpArgs false
set_option linter.unusedVariables false
open Go.RowKit

set_option maxHeartbeats 400000 in
theorem keyOfKids_any (w : World) (b o n c : Nat) (hn : 0 < n) (h80 : 80 * n ≤ 281474976710656) :
    Calls Tryz.prog 71 #[.slice (some ⟨b, o, none⟩) n c] w fun e w' => e = .returned (pk b o n) ∧ Below w.heap.size w w' := by
  have hni : (0 : Int) < (n : Int) := by omega
  have hn0 : ¬ (n : Int) = 0 := by omega
  go_enter Tryz.func71, Tryz.ntmps71
  go_wp2_with fail
  refine bodyPost_ret (v := pk b o n) (by simp [results, Tryz.results71, go_sem, pk]) rfl ⟨rfl, ?_⟩
  exact below_box _ _

set_option maxHeartbeats 400000 in
theorem add_yes (w : World) (b o : Nat) (x more most : Int) (hc : w.cell? ⟨b, o + 2, none⟩ = some (.int .i64 x)) (hf : w.frozen? ⟨b, o + 2, none⟩ = false) (hx : 0 ≤ x) (hm : 0 ≤ more) (hs : x + more ≤ most) (hmost : most ≤ 9223372036854775807) :
    Calls Tryz.prog 72 #[.pointer (some ⟨b, o, none⟩), .int .i64 more, .int .i64 most] w fun e w' => e = .returned (.bool true) ∧ w' = w.setCell ⟨b, o + 2, none⟩ (.int .i64 (x + more)) := by
  have h1 : ¬ most - x < more := by omega
  go_enter Tryz.func72, Tryz.ntmps72
  go_wp2_with fail
  go_ret
  exact ⟨rfl, rfl⟩

def nullW (s : Int) : Int := if s = 1 then 1 else 0

set_option maxHeartbeats 400000 in
theorem copyBytes_any (w : World) (b o : Nat) (na ka : Option Addr) (nl nc kl kc : Nat) (h3 : w.cell? ⟨b, o + 3, none⟩ = some (.slice na nl nc)) (h4 : w.cell? ⟨b, o + 4, none⟩ = some (.slice ka kl kc)) (hn : 16 * nl ≤ 281474976710656) :
    Calls Tryz.prog 43 #[.pointer (some ⟨b, o, none⟩)] w fun e w' => e = .returned (.tuple #[.int .i64 (80 + 16 * nl), .slice ka kl kc]) ∧ ∃ n, w' = w.drewN n := by
  go_enter Tryz.func43, Tryz.ntmps43
  go_wp2_with fail
  go_quiet (fail)
  go_wp2_with fail
  go_ret2
  exact ⟨rfl, _, rfl⟩

/-- The four cells of scales: what each weighs, rings, the most, what is known. -/
def scalesV (F : Nat) (ring most : Int) (m : Nat) : Value := .agg #[.func (.func F) #[] #[], .int .i64 ring, .int .i64 most, .map (some m)]

set_option maxHeartbeats 400000 in
theorem scalesOf_any (w : World) (F : Nat) (ring most : Int) :
    Calls Tryz.prog 41 #[.agg #[.func (.func F) #[] #[], .int .i64 ring, .int .i64 most]] w fun e w' => ∃ m, e = .returned (scalesV F ring most m) ∧ w.heap.size ≤ m ∧ m < w'.heap.size ∧ OwnsK w' (fun _ => False) m (fun _ => none) ∧ Below w.heap.size w w' := by
  have hmm := @run_makeMap Tryz.prog
  go_enter Tryz.func41, Tryz.ntmps41
  go_wp2_with fail
  refine bodyPost_ret (v := scalesV F ring most (w.heap.size + 1 + 1)) (by simp [results, Tryz.results41, go_sem, scalesV]) rfl ⟨_, rfl, by omega, by simp [World.setCell], ?_, ?_⟩
  · have h := OwnsK.made ((w.alloc (.cells #[.func (.func F) #[] #[], .int .i64 ring, .int .i64 most] 90)).alloc (.cells #[.func (.func F) #[] #[], .int .i64 ring, .int .i64 most, .map (some (w.heap.size + 1 + 1))] 93)) (fun _ => False)
    simp only [World.size_alloc] at h
    exact h
  · exact ((((Below.refl w.heap.size w).alloc (Nat.le_refl _) _).alloc (by simp) _).alloc (by simp; omega) _)
end Go.Proofs.YtbpdchlbhfjddaaGreat

namespace Go.Proofs.YtbpdchlbhfjddaaGreat
set_option linter.unusedSimpArgs false
set_option linter.unusedVariables false
open Go.RowKit

mutual
/-- What a value weighs, with all that is in it. -/
def wV (ow : V → Nat) : V → Nat
  | .mk s n t ns ks => ow (.mk s n t ns ks) + wL ow ks
/-- The same of a list of values. -/
def wL (ow : V → Nat) : List V → Nat
  | [] => 0
  | k :: r => wV ow k + wL ow r
end
theorem wV_eq (ow : V → Nat) (x : V) : wV ow x = ow x + wL ow x.kids := by obtain ⟨s, n, t, ns, ks⟩ := x; simp only [wV]
theorem wL_append (ow : V → Nat) (a b : List V) : wL ow (a ++ b) = wL ow a + wL ow b := by
  induction a with
  | nil => simp [wL]
  | cons k r ih => simp [wL, ih]; omega
theorem take_kth' (ks : List V) (k : Nat) (h : k < ks.length) : ks.take (k + 1) = ks.take k ++ [kth ks k] := by
  rw [List.take_succ_eq_append_getElem h]
  congr 2
  simp [kth, List.getD_eq_getElem?_getD, h]
theorem wL_take (ow : V → Nat) (ks : List V) (k : Nat) (h : k < ks.length) : wL ow (ks.take (k + 1)) = wL ow (ks.take k) + wV ow (kth ks k) := by
  rw [take_kth' ks k h, wL_append]; simp [wL]
theorem wL_part (ow : V → Nat) (ks : List V) (k : Nat) : wL ow (ks.take k) ≤ wL ow ks := by
  conv => rhs; rw [← List.take_append_drop k ks]
  rw [wL_append]; omega
theorem wV_le (ow : V → Nat) (ks : List V) (k : Nat) (h : k < ks.length) : wV ow (kth ks k) ≤ wL ow ks := by
  have h1 := wL_take ow ks k h
  have h2 := wL_part ow ks (k + 1)
  omega
theorem cntV_eq (x : V) : cntV x = 1 + cntL x.kids := by obtain ⟨s, n, t, ns, ks⟩ := x; simp only [cntV]
theorem cntL_take (ks : List V) (k : Nat) (h : k < ks.length) : cntL (ks.take (k + 1)) = cntL (ks.take k) + cntV (kth ks k) := by
  rw [take_kth' ks k h, cntL_append]; simp [cntL]
theorem cntL_drop (ks : List V) (k : Nat) (h : k < ks.length) : cntL (ks.drop k) = cntV (kth ks k) + cntL (ks.drop (k + 1)) := by
  have e : ks.drop k = kth ks k :: ks.drop (k + 1) := by
    rw [List.drop_eq_getElem_cons h]
    congr 1
    simp [kth, List.getD_eq_getElem?_getD, h]
  rw [e]; simp [cntL]
theorem cntL_part (ks : List V) (k : Nat) : cntL (ks.drop k) ≤ cntL ks := by
  conv => rhs; rw [← List.take_append_drop k ks]
  rw [cntL_append]; omega
theorem cntV_le (ks : List V) (k : Nat) (h : k < ks.length) : cntV (kth ks k) ≤ cntL ks := by
  have h1 := cntL_drop ks k h
  have h2 := cntL_part ks k
  omega

/-- Kids that are open: where they stand, how many are done, and what these weigh. -/
structure Fr where
  b : Nat
  o : Nat
  c : Nat
  ks : List V
  d : Nat
  x : Nat
def Fr.cells (f : Fr) : List Value := [.slice (some ⟨f.b, f.o, none⟩) f.ks.length f.c, .int .i64 f.d, .int .i64 f.x]

/-- The kids f stand in one of the kids below them, and so on down to the root; those below are done but for what is open above them. -/
def Under (ow : V → Nat) (root : V) : Fr → List Fr → Prop
  | f, [] => f.ks = [root]
  | f, g :: r => (0 < g.d ∧ g.d ≤ g.ks.length ∧ f.ks = (kth g.ks (g.d - 1)).kids ∧ g.x + wL ow f.ks = wL ow (g.ks.take g.d)) ∧ Under ow root g r

theorem Under.kids {ow : V → Nat} {root : V} {f g : Fr} {r : List Fr} (h : Under ow root f r) (e : g.ks = f.ks) : Under ow root g r := by
  match r, h with
  | [], h => exact e.trans h
  | a :: r, h => exact ⟨⟨h.1.1, h.1.2.1, e.trans h.1.2.2.1, by rw [e]; exact h.1.2.2.2⟩, h.2⟩
theorem Under.le {ow : V → Nat} {root : V} : ∀ {r : List Fr} {f : Fr}, Under ow root f r → wL ow f.ks ≤ wV ow root ∧ r.length + cntL f.ks ≤ cntV root
  | [], f, h => by
    have h' : f.ks = [root] := h
    rw [h']; simp [wL, cntL]
  | g :: r, f, h => by
    obtain ⟨⟨h1, h2, h3, -⟩, h4⟩ := h
    have ih := Under.le h4
    have hk : g.d - 1 < g.ks.length := by omega
    have a1 := wV_le ow g.ks (g.d - 1) hk
    have a2 := cntV_le g.ks (g.d - 1) hk
    rw [wV_eq, ← h3] at a1
    rw [cntV_eq, ← h3] at a2
    simp only [List.length_cons]
    omega
theorem Under.cnt {ow : V → Nat} {root : V} : ∀ {r : List Fr} {f : Fr}, Under ow root f r → ∀ g, g ∈ r → cntL f.ks < cntL g.ks
  | [], f, _, g, hg => by simp at hg
  | a :: r, f, h, g, hg => by
    obtain ⟨⟨h1, h2, h3, -⟩, h4⟩ := h
    have hk : a.d - 1 < a.ks.length := by omega
    have a2 := cntV_le a.ks (a.d - 1) hk
    rw [cntV_eq, ← h3] at a2
    rcases List.mem_cons.1 hg with rfl | hg
    · omega
    · have := Under.cnt h4 g hg; omega

/-- What a stack of open kids has still to do. -/
def todoF : List Fr → Nat
  | [] => 0
  | f :: r => 1 + 2 * cntL (f.ks.drop f.d) + todoF r

/-- Values that stand in a row. -/
def KidsAt (w : World) (P : Nat → Prop) (b o : Nat) (ks : List V) : Prop := P b ∧ 80 * ks.length ≤ 281474976710656 ∧
  ∃ C : Nat → Nat → Value, (∀ i, i < ks.length → ∀ j, j < 5 → w.cell? ⟨b, o + i * 5 + j, none⟩ = some (C i j)) ∧ ∀ i, i < ks.length → Rep w P (kth ks i) (.agg #[C i 0, C i 1, C i 2, C i 3, C i 4])

theorem Kids.at {w : World} {P : Nat → Prop} {ks : List V} {ka : Option Addr} (h : Kids w P ks ka) (hne : ks ≠ []) : ∃ b o, ka = some ⟨b, o, none⟩ ∧ KidsAt w P b o ks := by
  obtain ⟨h80, b, off, C, h1, h2, h3⟩ := h
  obtain ⟨rfl, hb⟩ := h1 hne
  exact ⟨b, off, rfl, hb, h80, C, h2, h3⟩

theorem strs_one {w : World} {P Q : Nat → Prop} {a b : List ByteArray} {ad : Option Addr} (h : Strs w P a ad) (h' : Strs w Q b ad) (hl : a.length = b.length) : a = b := by
  by_cases hn : a = []
  · subst hn
    exact (List.length_eq_zero_iff.1 hl.symm).symm
  · have hn' : b ≠ [] := fun e => hn (List.length_eq_zero_iff.1 (by rw [hl, e]; rfl))
    obtain ⟨c, o, rfl, -, hc⟩ := h.1 hn
    obtain ⟨c', o', e', -, hc'⟩ := h'.1 hn'
    simp only [Option.some.injEq, Addr.mk.injEq, and_true] at e'
    obtain ⟨rfl, rfl⟩ := e'
    apply List.ext_getElem hl
    intro i h1 h2
    have := (hc i h1).symm.trans (hc' i h2)
    simp only [Option.some.injEq, Value.string.injEq, nth, List.getD_eq_getElem?_getD, List.getElem?_eq_getElem h1, List.getElem?_eq_getElem h2, Option.getD_some] at this
    exact this

/-- One place holds one value. -/
theorem repN_one {w : World} {P Q : Nat → Prop} : ∀ (f : Nat) {x y : V} {v : Value}, RepN w P f x v → Rep w Q y v → x = y
  | 0, _, _, _, h, _ => h.elim
  | f + 1, x, y, v, h, h' => by
    obtain ⟨s, n, t, ns, ks⟩ := x
    obtain ⟨s', n', t', ns', ks'⟩ := y
    obtain ⟨na, ka, nc, kc, b, off, C, h1, h2, -, -, -, -, h7, h8, h9⟩ := h
    obtain ⟨na', ka', nc', kc', g1, g2, -, -, -, -, b', off', C', g7, g8, g9⟩ := h'.inv
    rw [h1] at g1
    simp only [Value.agg.injEq, Array.mk.injEq, List.cons.injEq, and_true, Value.int.injEq, true_and, Value.string.injEq, Value.slice.injEq] at g1
    obtain ⟨rfl, rfl, rfl, ⟨rfl, e1, rfl⟩, rfl, e2, rfl⟩ := g1
    simp only at e1 e2 h2 h7 h8 h9
    have hns : ns = ns' := strs_one h2 g2 e1
    have hks : ks = ks' := by
      by_cases hn : ks = []
      · subst hn
        exact (List.length_eq_zero_iff.1 e2.symm).symm
      · have hn' : ks' ≠ [] := fun e => hn (List.length_eq_zero_iff.1 (by rw [e2, e]; rfl))
        obtain ⟨rfl, -⟩ := h7 hn
        obtain ⟨e', -⟩ := g7 hn'
        simp only [Option.some.injEq, Addr.mk.injEq, and_true] at e'
        obtain ⟨rfl, rfl⟩ := e'
        apply List.ext_getElem e2
        intro i hi hi'
        have hC : ∀ j, j < 5 → C i j = C' i j := fun j hj => Option.some.inj ((h8 i hi j hj).symm.trans (g8 i hi' j hj))
        have r1 := h9 i hi
        have r2 := g9 i hi'
        rw [← hC 0 (by omega), ← hC 1 (by omega), ← hC 2 (by omega), ← hC 3 (by omega), ← hC 4 (by omega)] at r2
        have := repN_one f r1 r2
        simpa [kth, List.getD_eq_getElem?_getD, List.getElem?_eq_getElem hi, List.getElem?_eq_getElem hi'] using this
    rw [hns, hks]
theorem rep_one {w : World} {P Q : Nat → Prop} {x y : V} {v : Value} (h : Rep w P x v) (h' : Rep w Q y v) : x = y := by
  obtain ⟨f, h⟩ := h; exact repN_one f h h'
theorem kidsAt_one {w : World} {P : Nat → Prop} {b o : Nat} {a c : List V} (h : KidsAt w P b o a) (h' : KidsAt w P b o c) (hl : a.length = c.length) : a = c := by
  obtain ⟨-, -, C, h2, h3⟩ := h
  obtain ⟨-, -, C', g2, g3⟩ := h'
  apply List.ext_getElem hl
  intro i hi hi'
  have hC : ∀ j, j < 5 → C i j = C' i j := fun j hj => Option.some.inj ((h2 i hi j hj).symm.trans (g2 i hi' j hj))
  have r1 := h3 i hi
  have r2 := g3 i hi'
  rw [← hC 0 (by omega), ← hC 1 (by omega), ← hC 2 (by omega), ← hC 3 (by omega), ← hC 4 (by omega)] at r2
  have := rep_one r1 r2
  simpa [kth, List.getD_eq_getElem?_getD, List.getElem?_eq_getElem hi, List.getElem?_eq_getElem hi'] using this

/-- What is known of kids: those that are open weigh whatever; all others what they weigh. -/
def KnOk (w : World) (P : Nat → Prop) (ow : V → Nat) (G : Value → Option Value) (st : List Fr) : Prop :=
  ∀ b o n v, G (pk b o n) = some v → (∃ f, f ∈ st ∧ f.b = b ∧ f.o = o ∧ f.ks.length = n ∧ KidsAt w P b o f.ks) ∨ ∀ L, L.length = n → KidsAt w P b o L → v = .int .i64 (wL ow L : Nat)

/-- Kids that are met within the topmost are known only if they are done. -/
theorem KnOk.met {w : World} {P : Nat → Prop} {ow : V → Nat} {G : Value → Option Value} {root : V} {f : Fr} {r : List Fr} (h : KnOk w P ow G (f :: r)) (hU : Under ow root f r) {i b o : Nat} (hi : i < f.ks.length) (hK : KidsAt w P b o (kth f.ks i).kids) {v : Value}
    (hG : G (pk b o (kth f.ks i).kids.length) = some v) : v = .int .i64 (wL ow (kth f.ks i).kids : Nat) := by
  rcases h b o _ v hG with ⟨g, hg, h1, h2, h3, h4⟩ | h1
  · exfalso
    have e := kidsAt_one h4 hK h3
    have a1 := cntV_le f.ks i hi
    rw [cntV_eq, ← e] at a1
    rcases List.mem_cons.1 hg with rfl | hg
    · omega
    · have := hU.cnt g hg; omega
  · exact h1 _ rfl hK

/-- The topmost are done. -/
theorem KnOk.pop {w : World} {P : Nat → Prop} {ow : V → Nat} {G G' : Value → Option Value} {f g g' : Fr} {r : List Fr} (h : KnOk w P ow G (f :: g :: r)) (hb : g'.b = g.b ∧ g'.o = g.o ∧ g'.ks = g.ks) (hK : KidsAt w P f.b f.o f.ks)
    (h1 : G' (pk f.b f.o f.ks.length) = some (.int .i64 (wL ow f.ks : Nat))) (h2 : ∀ y, y ≠ pk f.b f.o f.ks.length → G' y = G y) : KnOk w P ow G' (g' :: r) := by
  intro b o n v hv
  by_cases e : pk b o n = pk f.b f.o f.ks.length
  · right
    obtain ⟨rfl, rfl, rfl⟩ := pk_inj e
    rw [h1] at hv
    intro L hL hKL
    have e2 := kidsAt_one hKL hK hL
    rw [e2]; exact (Option.some.inj hv).symm
  · rw [h2 _ e] at hv
    rcases h b o n v hv with ⟨k, hk, k1, k2, k3, k4⟩ | hc
    · rcases List.mem_cons.1 hk with rfl | hk
      · exact absurd (by rw [k1, k2, k3]) e
      · left
        rcases List.mem_cons.1 hk with rfl | hk
        · exact ⟨g', by simp, by rw [hb.1, k1], by rw [hb.2.1, k2], by rw [hb.2.2, k3], by rw [hb.2.2]; exact k4⟩
        · exact ⟨k, by simp [hk], k1, k2, k3, k4⟩
    · exact Or.inr hc

/-- One more is done; the same kids stay open. -/
theorem KnOk.stay {w : World} {P : Nat → Prop} {ow : V → Nat} {G : Value → Option Value} {f f' : Fr} {r : List Fr} (h : KnOk w P ow G (f :: r)) (hb : f'.b = f.b ∧ f'.o = f.o ∧ f'.ks = f.ks) : KnOk w P ow G (f' :: r) := by
  intro b o n v hv
  rcases h b o n v hv with ⟨k, hk, k1, k2, k3, k4⟩ | hc
  · left
    rcases List.mem_cons.1 hk with rfl | hk
    · exact ⟨f', by simp, by rw [hb.1, k1], by rw [hb.2.1, k2], by rw [hb.2.2, k3], by rw [hb.2.2]; exact k4⟩
    · exact ⟨k, by simp [hk], k1, k2, k3, k4⟩
  · exact Or.inr hc

/-- New kids are open. -/
theorem KnOk.push {w : World} {P : Nat → Prop} {ow : V → Nat} {G G' : Value → Option Value} {f g : Fr} {r : List Fr} (h : KnOk w P ow G (f :: r)) (hK : KidsAt w P g.b g.o g.ks)
    (h2 : ∀ y, y ≠ pk g.b g.o g.ks.length → G' y = G y) : KnOk w P ow G' (g :: f :: r) := by
  intro b o n v hv
  by_cases e : pk b o n = pk g.b g.o g.ks.length
  · obtain ⟨rfl, rfl, rfl⟩ := pk_inj e
    exact Or.inl ⟨g, by simp, rfl, rfl, rfl, hK⟩
  · rw [h2 _ e] at hv
    rcases h b o n v hv with ⟨k, hk, k1, k2, k3, k4⟩ | hc
    · exact Or.inl ⟨k, List.mem_cons_of_mem _ hk, k1, k2, k3, k4⟩
    · exact Or.inr hc
end Go.Proofs.YtbpdchlbhfjddaaGreat

namespace Go.Proofs.YtbpdchlbhfjddaaGreat
set_option linter.unusedSimpArgs false
set_option linter.unusedVariables false
open Go.RowKit

mutual
/-- How great a value is, itself not counted. -/
def szV : V → Nat
  | .mk _ _ t ns ks => t.size + szNs ns + (ks.length + sL ks)
/-- How great values are together, themselves not counted. -/
def sL : List V → Nat
  | [] => 0
  | k :: r => szV k + sL r
end
theorem sL_append (a b : List V) : sL (a ++ b) = sL a + sL b := by
  induction a with
  | nil => simp [sL]
  | cons k r ih => simp [sL, ih]; omega
theorem sL_take (ks : List V) (k : Nat) (h : k < ks.length) : sL (ks.take (k + 1)) = sL (ks.take k) + szV (kth ks k) := by
  rw [take_kth' ks k h, sL_append]; simp [sL]
theorem szV_kth (ks : List V) (k : Nat) (h : k < ks.length) : szV (kth ks k) ≤ sL ks := by
  have h1 := sL_take ks k h
  have h2 : sL (ks.take (k + 1)) ≤ sL ks := by
    conv => rhs; rw [← List.take_append_drop (k + 1) ks]
    rw [sL_append]; omega
  omega
theorem szV_eq (x : V) : szV x = x.text.size + szNs x.names + (x.kids.length + sL x.kids) := by obtain ⟨s, n, t, ns, ks⟩ := x; simp only [szV]
theorem len_szNs (ns : List ByteArray) : ns.length ≤ szNs ns := by simp [szNs]
/-- What holds of a value if it holds of one whose kids it holds of. -/
theorem v_ind {q : V → Prop} (h : ∀ x : V, (∀ i, i < x.kids.length → q (kth x.kids i)) → q x) : ∀ x : V, q x := by
  have key : ∀ m : Nat, ∀ x : V, SizeOf.sizeOf x < m → q x := by
    intro m
    induction m with
    | zero => intro x h; omega
    | succ m ih =>
      intro x hx
      refine h x fun i hi => ih _ ?_
      obtain ⟨s, n, t, ns, ks⟩ := x
      have := kth_lt ks i hi
      simp at hx
      simp only at hi
      show SizeOf.sizeOf (kth ks i) < m
      omega
  exact fun x => key _ x (Nat.lt_succ_self _)
theorem sums {f g : V → Nat} {F G : List V → Nat} (hF0 : F [] = 0) (hG0 : G [] = 0) (hF : ∀ k r, F (k :: r) = f k + F r) (hG : ∀ k r, G (k :: r) = g k + G r) (ks : List V) (h : ∀ i, i < ks.length → f (kth ks i) ≤ g (kth ks i)) : F ks ≤ G ks := by
  induction ks with
  | nil => omega
  | cons k r ih =>
    have h1 := ih fun i hi => h (i + 1) (by simpa using hi)
    have h2 := h 0 (by simp)
    rw [hF, hG]
    simp [kth] at h2
    omega
theorem cntV_sz (x : V) : cntV x ≤ 1 + szV x := by
  refine v_ind (q := fun x => cntV x ≤ 1 + szV x) (fun x ih => ?_) x
  have h1 := sums (f := cntV) (g := fun k => 1 + szV k) (F := cntL) (G := fun l => l.length + sL l) rfl rfl (fun _ _ => by simp [cntL]) (fun _ _ => by simp [sL]; omega) x.kids ih
  rw [cntV_eq, szV_eq]
  omega

/-- What szValue does with a value: it takes its size. -/
def SzSum (x : V) : Prop := ∀ (w : World) (B : Nat) (v : Value) (left : Int), Rep w (· < B) x v → B ≤ w.heap.size → 0 ≤ left → left ≤ 1048576 →
  Calls Tryz.prog 77 #[v, .int .i64 left] w fun e w' => ∃ y : Int, e = .returned (.int .i64 y) ∧ -1 ≤ y ∧ y ≤ left ∧ (0 ≤ y → y + szV x ≤ left) ∧ Below w.heap.size w w'

set_option maxHeartbeats 400000 in
theorem szValueS_sum (ks : List V) (IH : ∀ i, i < ks.length → SzSum (kth ks i)) (w : World) (B : Nat) (a : Option Addr) (c : Nat) (left : Int) (hK : Kids w (· < B) ks a) (hB : B ≤ w.heap.size) (hl0 : 0 ≤ left) (hl1 : left ≤ 1048576) :
    Calls Tryz.prog 98 #[.slice a ks.length c, .int .i64 left] w fun e w' => ∃ x : Int, e = .returned (.int .i64 x) ∧ -1 ≤ x ∧ x ≤ left ∧ (0 ≤ x → x + (ks.length + sL ks : Nat) ≤ left) ∧ Below w.heap.size w w' := by
  obtain ⟨h3, b, off, C, hka, hc, hr⟩ := hK
  by_cases hbig : left < ks.length
  · go_enter Tryz.func98, Tryz.ntmps98
    go_wp2_with fail
    go_ret
    exact ⟨-1, rfl, by omega, by omega, by omega, Below.refl _ _⟩
  by_cases hn0 : ks.length = 0
  · have hns : ks = [] := by simpa using hn0
    subst hns
    go_enter Tryz.func98, Tryz.ntmps98
    go_wp2_with fail
    go_loop [1, 5] (fun l i => i = .int .i64 0 ∧ l = .int .i64 left) (fun _ _ => 0)
    case atStart => exact ⟨rfl, rfl⟩
    case round =>
      obtain ⟨rfl, rfl⟩ := hrel
      go_wp2_with fail
      go_ret
      exact ⟨left, rfl, by omega, by omega, by simp [sL], Below.refl _ _⟩
  · obtain ⟨rfl, hbB⟩ := hka (by intro e; simp [e] at hn0)
    clear hka
    go_enter Tryz.func98, Tryz.ntmps98
    go_wp2_with fail
    go_loopw [1, 5] (fun l i wr => ∃ (k : Nat) (x : Int), k ≤ ks.length ∧ i = .int .i64 k ∧ l = .int .i64 x ∧ 0 ≤ x ∧ x ≤ left ∧ x + (sL (ks.take k) : Nat) + ks.length ≤ left ∧ Below w.heap.size w wr) (fun _ i _ => ks.length - (intOf i).toNat)
    case atStart => exact ⟨0, _, Nat.zero_le _, rfl, rfl, by omega, by omega, by simp [sL], Below.refl _ _⟩
    case round =>
      obtain ⟨k, x, hk, rfl, rfl, hx0, hx1, hx2, hbel⟩ := hrel
      have HX : Hid (x + (sL (ks.take k) : Nat) + ks.length ≤ left) := hx2
      clear hx2
      by_cases hlt : k < ks.length
      · have hck : ∀ j, j < 5 → wr.cell? ⟨b, off + k * 5 + j, none⟩ = some (C k j) := fun j hj => (hbel.cell (p := ⟨b, off + k * 5 + j, none⟩) (by show b < _; omega)).trans (hc k hlt j hj)
        have hc0 : wr.cell? ⟨b, off + k * 5, none⟩ = some (C k 0) := hck 0 (by omega)
        have hc1 := hck 1 (by omega)
        have hc2 := hck 2 (by omega)
        have hc3 := hck 3 (by omega)
        have hc4 := hck 4 (by omega)
        clear hck hc
        go_wp2_with (go_at_call 77; refine (IH k hlt _ B _ x ((hr k hlt).under (hbel.mono hB)) (by have := hbel.size; omega) hx0 (by omega)).mono ?_; rintro e w' ⟨y, rfl, hy0, hy1, hy2, hby⟩)
        · go_ret
          exact ⟨-1, rfl, by omega, by omega, by omega, hbel.trans (hby.mono hbel.size)⟩
        · go_roundw
          case rel => exact ⟨k + 1, y, by omega, by go_num, rfl, by assumption, by omega, by have := HX.out; have := hy2 (by assumption); rw [sL_take ks k hlt]; omega, hbel.trans (hby.mono hbel.size)⟩
          case measure => simp [intOf]; omega
      · go_wp2_with fail
        go_ret
        have e : k = ks.length := by omega
        exact ⟨x, rfl, by omega, by omega, fun _ => by have := HX.out; rw [e, List.take_length] at this; omega, hbel⟩

set_option maxHeartbeats 400000 in
theorem szValue_sstep (s n : Int) (t : ByteArray) (ns : List ByteArray) (ks : List V) (IH : ∀ i, i < ks.length → SzSum (kth ks i)) : SzSum (.mk s n t ns ks) := by
  intro w B v left hR hB hl0 hl1
  obtain ⟨na, ka, nc, kc, rfl, hs, hns, ht, hbs, hK⟩ := hR.inv
  clear hR
  unfold maxLen at ht
  have hbx : ∀ o, Below w.heap.size w (w.alloc o) := fun o => (Below.refl _ _).alloc (Nat.le_refl _) _
  by_cases h1 : left < t.size
  · go_enter Tryz.func77, Tryz.ntmps77
    go_wp2_with fail
    go_ret
    exact ⟨-1, rfl, by omega, by omega, by omega, hbx _⟩
  · go_enter Tryz.func77, Tryz.ntmps77
    go_wp2_with (first
      | (go_at_call 97; refine (szStringS_any ns na nc _ (· < B) (hs.under ((hbx _).mono hB)) _ (by omega) (by omega)).mono ?_; rintro e w' ⟨y, rfl, hy0, hy1, hy2, rfl⟩)
      | (go_at_call 98; refine (szValueS_sum ks IH _ B ka kc _ (hK.under ((hbx _).mono hB)) (by simp; omega) (by omega) (by omega)).mono ?_; rintro e w' ⟨z, rfl, hz0, hz1, hz2, hbz⟩))
    · go_ret
      exact ⟨-1, rfl, by omega, by omega, by omega, hbx _⟩
    · go_ret
      exact ⟨-1, rfl, by omega, by omega, by omega, (hbx _).trans (hbz.mono (by simp))⟩
    · go_ret
      exact ⟨z, rfl, by omega, by omega, fun h => by have := hz2 h; have := hy2 (by omega); simp only [szV]; omega, (hbx _).trans (hbz.mono (by simp))⟩

theorem szsum_all (m : Nat) : ∀ x : V, SizeOf.sizeOf x < m → SzSum x := by
  induction m with
  | zero => intro x h; omega
  | succ m ih =>
    intro x h
    match x, h with
    | .mk s n t ns ks, h => exact szValue_sstep s n t ns ks fun i hi => ih _ (by have := kth_lt ks i hi; simp at h; omega)
theorem szValue_sum (x : V) : SzSum x := szsum_all _ x (Nat.lt_succ_self _)

end Go.Proofs.YtbpdchlbhfjddaaGreat
