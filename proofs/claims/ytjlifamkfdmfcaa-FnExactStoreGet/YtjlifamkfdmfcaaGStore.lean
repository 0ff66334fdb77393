/-
  The program's store: where the first row of each key stands; the cells of a row.
-/
import Derived.Test.YtjlifamkfdmfcaaGKey
import Derived.Test.YtjlifamkfdmfcaaSOwn
namespace Go.Proofs.Ytjlifamkfdmfcaa
set_option linter.unusedSimpArgs false
set_option linter.unusedVariables false
open Go.RowKit Go.Maps

set_option maxRecDepth 20000 in
set_option maxHeartbeats 800000 in
theorem storeOf_any (rs : List Ro) (w : World) (P : Nat → Prop) (a : Option Addr) (c : Nat) (hR : RoReps w P rs a) (hP : ∀ b, P b → b < w.heap.size) :
    Calls Try.prog 23 #[.slice a rs.length c] w fun e w' => ∃ m G, e = .returned (.agg #[.slice a rs.length c, .map (some m)]) ∧ w.heap.size ≤ m ∧ m < w'.heap.size ∧ OwnsK w' RK m G ∧ Places rs rs.length G ∧ Below w.heap.size w w' := by
  have hmm := @run_makeMap Try.prog
  obtain ⟨h3, C, hA, hr⟩ := hR
  go_enter Try.func23, Try.ntmps23
  go_wp2_with fail
  have z0 : (((w.alloc (.cells #[.slice none 0 0, .map none] 68)).alloc (.map #[] 0)).alloc (.cells #[.slice a rs.length c, .map (some (w.heap.size + 1))] 68)).heap[w.heap.size]? = some (.cells #[.slice none 0 0, .map none] 68 (0, 0)) := by
    rw [(below_box2 (w.alloc (.cells #[.slice none 0 0, .map none] 68)) _ _).block _ (by simp)]
    exact heap_alloc_new w _
  have z2 : (((w.alloc (.cells #[.slice none 0 0, .map none] 68)).alloc (.map #[] 0)).alloc (.cells #[.slice a rs.length c, .map (some (w.heap.size + 1))] 68)).heap[w.heap.size + 1 + 1]? = some (.cells #[.slice a rs.length c, .map (some (w.heap.size + 1))] 68 (0, 0)) := by
    have := heap_alloc_new ((w.alloc (.cells #[.slice none 0 0, .map none] 68)).alloc (.map #[] 0)) (.cells #[.slice a rs.length c, .map (some (w.heap.size + 1))] 68)
    simpa using this
  have zO : OwnsK (((w.alloc (.cells #[.slice none 0 0, .map none] 68)).alloc (.map #[] 0)).alloc (.cells #[.slice a rs.length c, .map (some (w.heap.size + 1))] 68)) RK (w.heap.size + 1) (fun _ => none) := by
    have h := OwnsK.made (w.alloc (.cells #[.slice none 0 0, .map none] 68)) RK
    simp only [World.size_alloc] at h
    exact h.of_block ((below_box _ _).block _ (by simp))
  have zB : Below w.heap.size w (((w.alloc (.cells #[.slice none 0 0, .map none] 68)).alloc (.map #[] 0)).alloc (.cells #[.slice a rs.length c, .map (some (w.heap.size + 1))] 68)) := ((((Below.refl w.heap.size w).alloc (Nat.le_refl _) _).alloc (by simp) _).alloc (by simp; omega) _)
  generalize ((w.alloc (.cells #[.slice none 0 0, .map none] 68)).alloc (.map #[] 0)).alloc (.cells #[.slice a rs.length c, .map (some (w.heap.size + 1))] 68) = wA at *
  go_loopw [14] (fun i wr => ∃ (k : Nat) (G : Value → Option Value), k ≤ rs.length ∧ i = .int .i64 k ∧ OwnsK wr RK (w.heap.size + 1) G ∧ Places rs k G ∧ Below w.heap.size w wr ∧ wr.heap[w.heap.size]? = some (.cells #[.slice none 0 0, .map none] 68 (0, 0)) ∧ wr.heap[w.heap.size + 1 + 1]? = some (.cells #[.slice a rs.length c, .map (some (w.heap.size + 1))] 68 (0, 0))) (fun i _ => rs.length - (intOf i).toNat)
  case atStart => exact ⟨0, _, Nat.zero_le _, rfl, zO, fun t n => by simp [fi], zB, z0, z2⟩
  case round =>
    clear zO zB z0 z2
    obtain ⟨k, G, hk, rfl, hO, hPl, hbel, z0, z2⟩ := hrel
    have hlm := hO.lt
    have hl2 := (Array.getElem?_eq_some_iff.1 z2).1
    have s0 : wr.cell? ⟨w.heap.size + 1 + 1, 0, none⟩ = some (.slice a rs.length c) := by simp [World.cell?, z2]
    have s1 : wr.cell? ⟨w.heap.size + 1 + 1, 1, none⟩ = some (.map (some (w.heap.size + 1))) := by simp [World.cell?, z2]
    have n0 : wr.cell? ⟨w.heap.size, 0, none⟩ = some (.slice none 0 0) := by simp [World.cell?, z0]
    have n1 : wr.cell? ⟨w.heap.size, 1, none⟩ = some (.map none) := by simp [World.cell?, z0]
    have nf : ∀ i, wr.frozen? ⟨w.heap.size, i, none⟩ = false := fun i => by simp [World.frozen?, z0]
    by_cases hlt : k < rs.length
    · obtain ⟨b, off, rfl, hbB, hc⟩ := hA (by omega)
      have hbw := hP b hbB
      have hck : ∀ j, j < 3 → wr.cell? ⟨b, off + k * 3 + j, none⟩ = some (C k j) := fun j hj => (hbel.cell (p := ⟨b, off + k * 3 + j, none⟩) (by show b < _; omega)).trans (hc k hlt j hj)
      obtain ⟨fa, fc', e0, e1, e2, -⟩ := (hr k hlt).pieces
      have hc0 : wr.cell? ⟨b, off + k * 3, none⟩ = some (.string (rth rs k).type) := e0 ▸ hck 0 (by omega)
      have hc1 : wr.cell? ⟨b, off + k * 3 + 1, none⟩ = some (.int .i64 (rth rs k).id) := e1 ▸ hck 1 (by omega)
      have hc2 : wr.cell? ⟨b, off + k * 3 + 2, none⟩ = some (.slice fa (rth rs k).cells.length fc') := e2 ▸ hck 2 (by omega)
      clear hck hc e0 e1 e2
      have hBX := below_box2 wr (.cells #[.string (rth rs k).type, .int .i64 (rth rs k).id, .slice fa (rth rs k).cells.length fc'] 58) (.cells #[.string (rth rs k).type, .int .i64 (rth rs k).id] 99)
      have hOx := hO.of_block (hBX.block _ hlm)
      have hlk := hOx.look true (keyR _) Try.underlying66 (show (zeroValue 3).run Try.prog _ = .ok (.int .i64 0) _ by kernel_rfl) (x := rk (rth rs k).type (rth rs k).id) ⟨_, _, rfl⟩
      rw [hPl] at hlk
      have HZ := hid_of (And.intro z0 z2)
      clear z0 z2
      cases hf : fi rs (rth rs k).type (rth rs k).id k with
      | some i =>
        rw [hf] at hlk
        simp only [rk, Option.map_some, Option.getD_some, Option.isSome_some, if_true] at hlk
        go_wp2_with fail
        go_roundw
        case rel => exact ⟨k + 1, G, by omega, by go_num, hOx, hPl.next (by rw [hf]; simp), hbel.trans (hBX.mono hbel.size), (hBX.block _ (by omega)).trans HZ.out.1, (hBX.block _ (by omega)).trans HZ.out.2⟩
        case measure => simp [intOf]; omega
      | none =>
        rw [hf] at hlk
        simp only [rk, Option.map_none, Option.getD_none, Option.isSome_none, if_true] at hlk
        obtain ⟨w2, G2, hrun, hG2, hGx, hGo, hgr⟩ := hOx.store (keyR _) Try.underlying66 (x := rk (rth rs k).type (rth rs k).id) ⟨_, _, rfl⟩ (.int .i64 (k : Nat))
        simp only [rk] at hrun
        go_wp2_with fail
        go_roundw
        case rel => exact ⟨k + 1, G2, by omega, by go_num, hG2, hPl.put hf hGx hGo, (hbel.trans (hBX.mono hbel.size)).grown hgr (by have := hbel.size; have := hBX.size; omega) (fun k hk => by cases hk; omega), ((hgr.block _ (by have := hBX.size; omega) (by simp)).trans (hBX.block _ (by omega))).trans HZ.out.1, ((hgr.block _ (by have := hBX.size; omega) (by simp)).trans (hBX.block _ (by omega))).trans HZ.out.2⟩
        case measure => simp [intOf]; omega
    · have e : k = rs.length := by omega
      subst e
      go_wp2_with fail
      refine bodyPost_ret (v := .agg #[.slice a rs.length c, .map (some (w.heap.size + 1))]) (by simp [results, Try.results23, go_sem, n0, n1]) rfl ⟨w.heap.size + 1, G, rfl, by omega, by simp [World.setCell]; omega, hO.of_block ?_, hPl, (hbel.setCell (Nat.le_refl _) _).setCell (Nat.le_refl _) _⟩
      rw [Below.heap_setCell _ _ _ _ (by simp), Below.heap_setCell _ _ _ _ (by simp)]

/-- What a row tells of a name. -/
def TellOk (w : World) (P : Nat → Prop) (r : Ro) (f : ByteArray) (e : Ending) : Prop := match fc r.cells f r.cells.length with
      | none => e = .returned (.tuple #[.agg #[.int .i64 0, .int .i64 0, .string ⟨#[]⟩, .slice none 0 0, .slice none 0 0], .bool false])
      | some j => ∃ (na ka : Option Addr) (nc kc : Nat), e = .returned (.tuple #[.agg #[.int .i64 (cth r.cells j).val.sort, .int .i64 (cth r.cells j).val.num, .string (cth r.cells j).val.text, .slice na (cth r.cells j).val.names.length nc, .slice ka (cth r.cells j).val.kids.length kc], .bool true]) ∧ Rep w P (cth r.cells j).val (.agg #[.int .i64 (cth r.cells j).val.sort, .int .i64 (cth r.cells j).val.num, .string (cth r.cells j).val.text, .slice na (cth r.cells j).val.names.length nc, .slice ka (cth r.cells j).val.kids.length kc])
/-- What a store tells of a key. -/
def CellsOk (w w' : World) (P : Nat → Prop) (rs : List Ro) (t : ByteArray) (n : Int) (e : Ending) : Prop := match fi rs t n rs.length with
      | none => e = .returned (.tuple #[.nilFunc, .bool false])
      | some i => ∃ (g : Nat) (fa : Option Addr) (fc' : Nat), e = .returned (.tuple #[.func (.func 63) #[] #[.pointer (some ⟨g, 0, none⟩)], .bool true]) ∧ w.heap.size ≤ g ∧ g < w'.heap.size ∧ w'.cell? ⟨g, 2, none⟩ = some (.slice fa (rth rs i).cells.length fc') ∧ CeReps w P (rth rs i).cells fa ∧ (rth rs i).cells.length ≤ fc'

set_option maxRecDepth 20000 in
set_option maxHeartbeats 800000 in
theorem teller_any (r : Ro) (f : ByteArray) (w : World) (P : Nat → Prop) (g : Nat) (ca : Option Addr) (cc : Nat) (hg : w.cell? ⟨g, 2, none⟩ = some (.slice ca r.cells.length cc)) (hgl : g < w.heap.size) (hR : CeReps w P r.cells ca) (hP : ∀ b, P b → b < w.heap.size) (hcc : r.cells.length ≤ cc) :
    Calls Try.prog 63 #[.string f, .pointer (some ⟨g, 0, none⟩)] w fun e w' => Below w.heap.size w w' ∧ TellOk w P r f e := by
  obtain ⟨h3, C, hA, hr⟩ := hR
  go_enter Try.func63, Try.ntmps63
  go_wp2_with fail
  have zB := below_box w (.cells #[.int .i64 0, .int .i64 0, .string ⟨#[]⟩, .slice none 0 0, .slice none 0 0] 27)
  have zR := Row5.new w (.int .i64 0) (.int .i64 0) (.string ⟨#[]⟩) (.slice none 0 0) (.slice none 0 0)
  generalize w.alloc (.cells #[.int .i64 0, .int .i64 0, .string ⟨#[]⟩, .slice none 0 0, .slice none 0 0] 27) = wA at *
  go_loopw [10] (fun i wr => ∃ (k : Nat), k ≤ r.cells.length ∧ i = .int .i64 k ∧ fc r.cells f k = none ∧ Below w.heap.size w wr ∧ Row5 wr w.heap.size (.int .i64 0) (.int .i64 0) (.string ⟨#[]⟩) (.slice none 0 0) (.slice none 0 0)) (fun i _ => r.cells.length - (intOf i).toNat)
  case atStart => exact ⟨0, Nat.zero_le _, rfl, rfl, zB, zR⟩
  case round =>
    clear zB zR
    obtain ⟨k, hk, rfl, hf, hbel, hrow⟩ := hrel
    have hll := hrow.lt
    obtain ⟨l0, l1, l2, l3, l4⟩ := hrow.five
    have hlf := hrow.frozen
    by_cases hlt : k < r.cells.length
    · obtain ⟨b, off, rfl, hbB, hc⟩ := hA (by omega)
      have hbw := hP b hbB
      have hck : ∀ j, j < 6 → wr.cell? ⟨b, off + k * 6 + j, none⟩ = some (C k j) := fun j hj => (hbel.cell (p := ⟨b, off + k * 6 + j, none⟩) (by show b < _; omega)).trans (hc k hlt j hj)
      obtain ⟨e0, hV, hn⟩ := (hr k hlt).pieces
      obtain ⟨na, ka, nc, kc, e5, -⟩ := hV.form
      simp only [Value.agg.injEq, Array.mk.injEq, List.cons.injEq, and_true] at e5
      obtain ⟨e1, e2, e3, e4, e5⟩ := e5
      rw [e1, e2, e3, e4, e5] at hV
      have hc0 : wr.cell? ⟨b, off + k * 6, none⟩ = some (.string (cth r.cells k).name) := e0 ▸ hck 0 (by omega)
      have hc1 : wr.cell? ⟨b, off + k * 6 + 1, none⟩ = some (.int .i64 (cth r.cells k).val.sort) := e1 ▸ hck 1 (by omega)
      have hc2 : wr.cell? ⟨b, off + k * 6 + 2, none⟩ = some (.int .i64 (cth r.cells k).val.num) := e2 ▸ hck 2 (by omega)
      have hc3 : wr.cell? ⟨b, off + k * 6 + 3, none⟩ = some (.string (cth r.cells k).val.text) := e3 ▸ hck 3 (by omega)
      have hc4 : wr.cell? ⟨b, off + k * 6 + 4, none⟩ = some (.slice na (cth r.cells k).val.names.length nc) := e4 ▸ hck 4 (by omega)
      have hc5 : wr.cell? ⟨b, off + k * 6 + 5, none⟩ = some (.slice ka (cth r.cells k).val.kids.length kc) := e5 ▸ hck 5 (by omega)
      clear hck hc e0 e1 e2 e3 e4 e5
      have hBX := below_box wr (.cells #[.string (cth r.cells k).name, .int .i64 (cth r.cells k).val.sort, .int .i64 (cth r.cells k).val.num, .string (cth r.cells k).val.text, .slice na (cth r.cells k).val.names.length nc, .slice ka (cth r.cells k).val.kids.length kc] 60)
      have hrow' := hrow.of_block (hBX.block _ hll)
      obtain ⟨q, hq⟩ : ∃ q, q = ((cth r.cells k).name.toList == f.toList) := ⟨_, rfl⟩
      cases q
      rotate_left
      · have e : (cth r.cells k).name.toList = f.toList := by simpa using hq.symm
        have hq' := hq.symm
        clear hq
        have hfc := fc_at hf hlt (bytes_inj e)
        clear e
        have HX := hid_of hrow
        have HV := hid_of hV
        clear hBX hrow' hrow hV
        go_wp2_with fail
        have hfin := HX.out.put (.int .i64 (cth r.cells k).val.sort) (.int .i64 (cth r.cells k).val.num) (.string (cth r.cells k).val.text) (.slice na (cth r.cells k).val.names.length nc) (.slice ka (cth r.cells k).val.kids.length kc)
        refine bodyPost_ret (v := .tuple #[.agg #[.int .i64 (cth r.cells k).val.sort, .int .i64 (cth r.cells k).val.num, .string (cth r.cells k).val.text, .slice na (cth r.cells k).val.names.length nc, .slice ka (cth r.cells k).val.kids.length kc], .bool true]) ?res rfl ⟨(put5_below hbel (Nat.le_refl _) 0 _ _ _ _ _).alloc ?sz _, by unfold TellOk; rw [hfc]; exact ⟨_, _, _, _, rfl, HV.out⟩⟩
        case res =>
          obtain ⟨p0, p1, p2, p3, p4⟩ := (hfin.of_block ((below_box _ (.cells #[.string (cth r.cells k).name, .int .i64 (cth r.cells k).val.sort, .int .i64 (cth r.cells k).val.num, .string (cth r.cells k).val.text, .slice na (cth r.cells k).val.names.length nc, .slice ka (cth r.cells k).val.kids.length kc] 60)).block _ hfin.lt)).five
          simp only [put5] at p0 p1 p2 p3 p4
          clear hfin
          simp [results, Try.results63, go_sem, p0, p1, p2, p3, p4]
        case sz => rw [put5_size]; exact hbel.size
      · have e : ¬ (cth r.cells k).name.toList = f.toList := by simpa using hq.symm
        have hq' := hq.symm
        clear hq
        have HE := hid_of e
        clear e
        go_wp2_with fail
        go_roundw
        case rel => exact ⟨k + 1, by omega, by go_num, fc_not hf (fun h => HE.out (by rw [h])), hbel.trans (hBX.mono hbel.size), hrow'⟩
        case measure => simp [intOf]; omega
    · have e : k = r.cells.length := by omega
      subst e
      have HX := hid_of hrow
      clear hrow
      go_wp2_with fail
      have hfin := HX.out.put (.int .i64 0) (.int .i64 0) (.string ⟨#[]⟩) (.slice none 0 0) (.slice none 0 0)
      refine bodyPost_ret (v := .tuple #[.agg #[.int .i64 0, .int .i64 0, .string ⟨#[]⟩, .slice none 0 0, .slice none 0 0], .bool false]) ?res rfl ⟨put5_below hbel (Nat.le_refl _) _ _ _ _ _ _, by unfold TellOk; rw [hf]⟩
      case res =>
        obtain ⟨p0, p1, p2, p3, p4⟩ := hfin.five
        simp only [put5] at p0 p1 p2 p3 p4
        clear hfin
        simp [results, Try.results63, go_sem, p0, p1, p2, p3, p4]

set_option maxHeartbeats 400000 in
theorem cellsOfRow_any (w : World) (c0 c1 c2 : Value) :
    Calls Try.prog 47 #[.agg #[c0, c1, c2]] w fun e w' => e = .returned (.func (.func 63) #[] #[.pointer (some ⟨w.heap.size, 0, none⟩)]) ∧ w' = w.alloc (.cells #[c0, c1, c2] 58) := by
  go_enter Try.func47, Try.ntmps47
  go_wp2_with fail
  go_ret
  exact ⟨rfl, rfl⟩

set_option maxRecDepth 20000 in
set_option maxHeartbeats 800000 in
theorem cellsOf_any (rs : List Ro) (t : ByteArray) (n : Int) (w : World) (P : Nat → Prop) (a : Option Addr) (c m : Nat) (G : Value → Option Value) (hR : RoReps w P rs a) (hP : ∀ b, P b → b < w.heap.size) (hO : OwnsK w RK m G) (hPl : Places rs rs.length G) :
    Calls Try.prog 24 #[.agg #[.slice a rs.length c, .map (some m)], .string t, .int .i64 n] w fun e w' => Below w.heap.size w w' ∧ CellsOk w w' P rs t n e := by
  have hBX := below_box w (.cells #[.slice a rs.length c, .map (some m)] 68)
  have hOx := hO.of_block (hBX.block _ hO.lt)
  have hlk := hOx.look true (keyR _) Try.underlying66 (show (zeroValue 3).run Try.prog _ = .ok (.int .i64 0) _ by kernel_rfl) (x := rk t n) ⟨_, _, rfl⟩
  rw [hPl] at hlk
  obtain ⟨h3, C, hA, hr⟩ := hR
  cases hf : fi rs t n rs.length with
  | some i =>
    rw [hf] at hlk
    simp only [rk, Option.map_some, Option.getD_some, Option.isSome_some, if_true] at hlk
    have hi := fi_lt hf
    obtain ⟨b, off, rfl, hbB, hc⟩ := hA (by omega)
    have hbw := hP b hbB
    obtain ⟨fa, fc', e0, e1, e2, hCe, hfc, -⟩ := (hr i hi).pieces
    have HC := hid_of (And.intro hCe hfc)
    clear hCe hfc
    have hck : ∀ j, j < 3 → (w.alloc (.cells #[.slice (some ⟨b, off, none⟩) rs.length c, .map (some m)] 68)).cell? ⟨b, off + i * 3 + j, none⟩ = some (C i j) := fun j hj => (hBX.cell (p := ⟨b, off + i * 3 + j, none⟩) (by show b < _; omega)).trans (hc i hi j hj)
    have hc0 : (w.alloc (.cells #[.slice (some ⟨b, off, none⟩) rs.length c, .map (some m)] 68)).cell? ⟨b, off + i * 3, none⟩ = some (.string (rth rs i).type) := e0 ▸ hck 0 (by omega)
    have hc1 : (w.alloc (.cells #[.slice (some ⟨b, off, none⟩) rs.length c, .map (some m)] 68)).cell? ⟨b, off + i * 3 + 1, none⟩ = some (.int .i64 (rth rs i).id) := e1 ▸ hck 1 (by omega)
    have hc2 : (w.alloc (.cells #[.slice (some ⟨b, off, none⟩) rs.length c, .map (some m)] 68)).cell? ⟨b, off + i * 3 + 2, none⟩ = some (.slice fa (rth rs i).cells.length fc') := e2 ▸ hck 2 (by omega)
    clear hck hc e0 e1 e2
    go_enter Try.func24, Try.ntmps24
    go_wp2_with fail
    refine (cellsOfRow_any _ _ _ _).mono ?_
    rintro e w2 ⟨rfl, rfl⟩
    go_wp2_with fail
    refine bodyPost_ret (v := .tuple #[.func (.func 63) #[] #[.pointer (some ⟨w.heap.size + 1, 0, none⟩)], .bool true]) (by simp [results, Try.results24, go_sem]) rfl ⟨below_box2 _ _ _, by unfold CellsOk; rw [hf]; exact ⟨w.heap.size + 1, fa, fc', rfl, by omega, by simp, by simp, HC.out.1, HC.out.2⟩⟩
  | none =>
    rw [hf] at hlk
    simp only [rk, Option.map_none, Option.getD_none, Option.isSome_none, if_true] at hlk
    go_enter Try.func24, Try.ntmps24
    go_wp2_with fail
    refine bodyPost_ret (v := .tuple #[.nilFunc, .bool false]) (by simp [results, Try.results24, go_sem]) rfl ⟨below_box _ _, by unfold CellsOk; rw [hf]⟩
end Go.Proofs.Ytjlifamkfdmfcaa
