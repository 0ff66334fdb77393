/-
  The model's StoreGet.
-/
import Derived.Test.YtjlifamkfdmfcaaGCopy
import Derived.Test.YtjlifamkfdmfcaaGImpl
namespace Go.Proofs.Ytjlifamkfdmfcaa
set_option linter.unusedSimpArgs false
set_option linter.unusedVariables false
open Go.RowKit Go.Maps

/-- A place as the model tells it: -1 for none. -/
def fiI : Option Nat → Int
  | none => -1
  | some i => (i : Nat)

set_option maxHeartbeats 800000 in
theorem l4Find_any (rs : List Ro) (t : ByteArray) (n : Int) (w : World) (P : Nat → Prop) (a : Option Addr) (c : Nat) (hR : RoReps w P rs a) :
    Calls Try.prog 20 #[.slice a rs.length c, .string t, .int .i64 n] w fun e w' => e = .returned (.int .i64 (fiI (fi rs t n rs.length))) ∧ ∃ m, w' = w.drewN m := by
  obtain ⟨h3, C, hA, hr⟩ := hR
  go_enter Try.func20, Try.ntmps20
  go_wp2_with fail
  go_loopw [7] (fun i wr => ∃ k : Nat, k ≤ rs.length ∧ i = .int .i64 k ∧ wr = w ∧ fi rs t n k = none) (fun i _ => rs.length - (intOf i).toNat)
  case atStart => exact ⟨0, Nat.zero_le _, rfl, rfl, rfl⟩
  case round =>
    obtain ⟨k, hk, rfl, rfl, hf⟩ := hrel
    have HF := hid_of hf
    clear hf
    by_cases hlt : k < rs.length
    · have hki : (k : Int) < (rs.length : Int) := by omega
      obtain ⟨b, off, rfl, hbB, hc⟩ := hA (by omega)
      obtain ⟨fa, fc', e0, e1, e2, -⟩ := (hr k hlt).pieces
      have hc0 : wr.cell? ⟨b, off + k * 3, none⟩ = some (.string (rth rs k).type) := e0 ▸ hc k hlt 0 (by omega)
      have hc1 : wr.cell? ⟨b, off + k * 3 + 1, none⟩ = some (.int .i64 (rth rs k).id) := e1 ▸ hc k hlt 1 (by omega)
      clear hc hA hr e0 e1 e2
      cases h1 : ((rth rs k).type.toList == t.toList)
      · have HE := hid_of (show ¬ ((rth rs k).type = t ∧ (rth rs k).id = n) from fun e => by rw [e.1] at h1; simp at h1)
        go_wp2_with fail
        go_roundw
        case rel => exact ⟨k + 1, by omega, by go_num, trivial, fi_not HF.out HE.out⟩
        case measure => simp [intOf]; omega
      · by_cases h2 : (rth rs k).id = n
        · have HE := hid_of (fi_at HF.out hlt ⟨bytes_inj (by simpa using h1), h2⟩)
          go_wp2_with fail
          go_ret
          exact ⟨by rw [HE.out]; rfl, 0, rfl⟩
        · have HE := hid_of (show ¬ ((rth rs k).type = t ∧ (rth rs k).id = n) from fun e => h2 e.2)
          go_wp2_with fail
          go_roundw
          case rel => exact ⟨k + 1, by omega, by go_num, trivial, fi_not HF.out HE.out⟩
          case measure => simp [intOf]; omega
    · have e : k = rs.length := by omega
      subst e
      go_wp2_with fail
      go_ret
      exact ⟨by rw [HF.out]; rfl, 0, rfl⟩

/-- What the model's StoreGet answers. -/
def GetS (x : Option V) (w w' : World) (e : Ending) : Prop := ∃ (s n : Int) (t : ByteArray) (na ka : Option Addr) (nl nc kl kc : Nat), e = .returned (.tuple #[.agg #[.int .i64 s, .int .i64 n, .string t, .slice na nl nc, .slice ka kl kc], .bool x.isSome]) ∧
    Rep w' (fun b => w.heap.size ≤ b ∧ b < w'.heap.size) (x.getD vZ) (.agg #[.int .i64 s, .int .i64 n, .string t, .slice na nl nc, .slice ka kl kc])

set_option maxRecDepth 20000 in
set_option maxHeartbeats 800000 in
theorem specGet_any (rs : List Ro) (t f : ByteArray) (n : Int) (w : World) (B : Nat) (a : Option Addr) (c : Nat) (hR : RoReps w (· < B) rs a) (hB : B ≤ w.heap.size) (hsm : ∀ i, i < rs.length → RoSm (rth rs i)) :
    Calls Try.prog 6 #[.slice a rs.length c, .string t, .int .i64 n, .string f] w fun e w' => GetS (got rs t n f) w w' e ∧ Below w.heap.size w w' := by
  go_enter Try.func6, Try.ntmps6
  go_wp2_with fail
  have zB := below_box w (.cells #[.int .i64 0, .int .i64 0, .string ⟨#[]⟩, .slice none 0 0, .slice none 0 0] 27)
  have zR := Row5.new w (.int .i64 0) (.int .i64 0) (.string ⟨#[]⟩) (.slice none 0 0) (.slice none 0 0)
  generalize w.alloc (.cells #[.int .i64 0, .int .i64 0, .string ⟨#[]⟩, .slice none 0 0, .slice none 0 0] 27) = wA at *
  refine (l4Find_any rs t n wA (· < B) a c (hR.under (zB.mono hB))).mono ?_
  rintro e w1 ⟨rfl, m, hm⟩
  have hb1 : Below w.heap.size w w1 := by rw [hm]; exact below_drews zB m
  have R1 : Row5 w1 w.heap.size (.int .i64 0) (.int .i64 0) (.string ⟨#[]⟩) (.slice none 0 0) (.slice none 0 0) := by rw [hm]; exact zR
  clear hm zB zR
  obtain ⟨l0, l1, l2, l3, l4⟩ := R1.five
  have hlf := R1.frozen
  have hl := R1.lt
  cases hf : fi rs t n rs.length with
  | none =>
    have hgot : got rs t n f = none := by simp [got, hf]
    have HX := hid_of R1
    clear R1
    simp only [fiI]
    go_wp2_with fail
    have hfin := HX.out.put (.int .i64 0) (.int .i64 0) (.string ⟨#[]⟩) (.slice none 0 0) (.slice none 0 0)
    refine bodyPost_ret (v := .tuple #[.agg #[.int .i64 0, .int .i64 0, .string ⟨#[]⟩, .slice none 0 0, .slice none 0 0], .bool false]) ?res rfl ⟨by rw [hgot]; exact ⟨_, _, _, _, _, _, _, _, _, rfl, vZ_rep _ _⟩, put5_below hb1 (Nat.le_refl _) _ _ _ _ _ _⟩
    case res =>
      obtain ⟨p0, p1, p2, p3, p4⟩ := hfin.five
      simp only [put5] at p0 p1 p2 p3 p4
      clear hfin
      simp [results, Try.results6, go_sem, p0, p1, p2, p3, p4]
  | some i =>
    have hi := fi_lt hf
    have hii : (i : Int) < (rs.length : Int) := by omega
    obtain ⟨h3, C, hA, hr⟩ := hR
    obtain ⟨b, off, rfl, hbB, hc⟩ := hA (by omega)
    obtain ⟨fa, fc', e0, e1, e2, hCe, hfc, -⟩ := (hr i hi).pieces
    have hc2 : w1.cell? ⟨b, off + i * 3 + 2, none⟩ = some (.slice fa (rth rs i).cells.length fc') := (hb1.cell (p := ⟨b, off + i * 3 + 2, none⟩) (by show b < _; omega)).trans (e2 ▸ hc i hi 2 (by omega))
    have hsi := hsm i hi
    obtain ⟨g3, D, hAD, hrD⟩ := hCe
    clear hc hA hr e0 e1 e2 hsm
    simp only [fiI]
    have hneg : ¬ (i : Int) < 0 := by omega
    go_wp2_with fail
    go_loopw [11] (fun j wr => ∃ k : Nat, k ≤ (rth rs i).cells.length ∧ j = .int .i64 k ∧ wr = w1 ∧ fc (rth rs i).cells f k = none) (fun j _ => (rth rs i).cells.length - (intOf j).toNat)
    case atStart => exact ⟨0, Nat.zero_le _, rfl, rfl, rfl⟩
    case round =>
      obtain ⟨k, hk, rfl, rfl, hfk⟩ := hrel
      have HF := hid_of hfk
      clear hfk
      by_cases hlt : k < (rth rs i).cells.length
      · have hki : (k : Int) < ((rth rs i).cells.length : Int) := by omega
        obtain ⟨b', off', rfl, hbB', hc'⟩ := hAD (by omega)
        obtain ⟨e0, hV, hn⟩ := (hrD k hlt).pieces
        obtain ⟨na, ka, nc, kc, e5, -⟩ := hV.form
        simp only [Value.agg.injEq, Array.mk.injEq, List.cons.injEq, and_true] at e5
        obtain ⟨e1, e2, e3, e4, e5⟩ := e5
        rw [e1, e2, e3, e4, e5] at hV
        have hck : ∀ j, j < 6 → wr.cell? ⟨b', off' + k * 6 + j, none⟩ = some (D k j) := fun j hj => (hb1.cell (p := ⟨b', off' + k * 6 + j, none⟩) (by show b' < _; omega)).trans (hc' k hlt j hj)
        have hd0 : wr.cell? ⟨b', off' + k * 6, none⟩ = some (.string (cth (rth rs i).cells k).name) := e0 ▸ hck 0 (by omega)
        have hd1 : wr.cell? ⟨b', off' + k * 6 + 1, none⟩ = some (.int .i64 (cth (rth rs i).cells k).val.sort) := e1 ▸ hck 1 (by omega)
        have hd2 : wr.cell? ⟨b', off' + k * 6 + 1 + 1, none⟩ = some (.int .i64 (cth (rth rs i).cells k).val.num) := e2 ▸ hck 2 (by omega)
        have hd3 : wr.cell? ⟨b', off' + k * 6 + 1 + 2, none⟩ = some (.string (cth (rth rs i).cells k).val.text) := e3 ▸ hck 3 (by omega)
        have hd4 : wr.cell? ⟨b', off' + k * 6 + 1 + 3, none⟩ = some (.slice na (cth (rth rs i).cells k).val.names.length nc) := e4 ▸ hck 4 (by omega)
        have hd5 : wr.cell? ⟨b', off' + k * 6 + 1 + 4, none⟩ = some (.slice ka (cth (rth rs i).cells k).val.kids.length kc) := e5 ▸ hck 5 (by omega)
        clear hck hc' e0 e1 e2 e3 e4 e5
        cases h1 : ((cth (rth rs i).cells k).name.toList == f.toList)
        · have HE := hid_of (show ¬ (cth (rth rs i).cells k).name = f from fun e => by rw [e] at h1; simp at h1)
          go_wp2_with fail
          go_roundw
          case rel => exact ⟨k + 1, by omega, by go_num, trivial, fc_not HF.out HE.out⟩
          case measure => simp [intOf]; omega
        · have HE := hid_of (fc_at HF.out hlt (bytes_inj (by simpa using h1)))
          have hs := hsi k hlt
          unfold CeSm at hs
          have hgot : got rs t n f = some (cth (rth rs i).cells k).val := by simp [got, hf, HE.out]
          go_wp2_with fail
          refine (l1Copy_any (cth (rth rs i).cells k).val wr B _ hs (hV.under (hb1.mono hB)) (by have := hb1.size; omega)).mono ?_
          rintro e w3 ⟨s3, n3, t3, na3, ka3, nl3, nc3, kl3, kc3, rfl, hb3, hr3⟩
          have z3 := hb3.size
          have R3 := R1.of_block (hb3.block _ hl)
          clear l0 l1 l2 l3 l4 hlf
          obtain ⟨l0, l1, l2, l3, l4⟩ := R3.five
          have hlf := R3.frozen
          have HX := hid_of (And.intro R3 hr3)
          clear R3 hr3 R1
          go_wp2_with fail
          obtain ⟨R3, hr3⟩ := HX.out
          have hfin := R3.put (.int .i64 s3) (.int .i64 n3) (.string t3) (.slice na3 nl3 nc3) (.slice ka3 kl3 kc3)
          have hsz := put5_size w3 w.heap.size 0 (.int .i64 s3) (.int .i64 n3) (.string t3) (.slice na3 nl3 nc3) (.slice ka3 kl3 kc3)
          have hblk := put5_block w3 w.heap.size 0 (.int .i64 s3) (.int .i64 n3) (.string t3) (.slice na3 nl3 nc3) (.slice ka3 kl3 kc3)
          refine bodyPost_ret (v := .tuple #[.agg #[.int .i64 s3, .int .i64 n3, .string t3, .slice na3 nl3 nc3, .slice ka3 kl3 kc3], .bool true]) ?res rfl ⟨by rw [hgot]; exact ⟨_, _, _, _, _, _, _, _, _, rfl, (hr3.mono fun k hk => hblk k (by omega)).sub fun k hk => ⟨by omega, Nat.lt_of_lt_of_eq hk.2 hsz.symm⟩⟩, put5_below (hb1.trans (hb3.mono (by omega))) (Nat.le_refl _) _ _ _ _ _ _⟩
          case res =>
            obtain ⟨p0, p1, p2, p3, p4⟩ := hfin.five
            simp only [put5] at p0 p1 p2 p3 p4
            clear hfin hsz hblk R3 hr3
            simp [results, Try.results6, go_sem, p0, p1, p2, p3, p4]
      · have e : k = (rth rs i).cells.length := by omega
        subst e
        have hgot : got rs t n f = none := by simp [got, hf, HF.out]
        have HX := hid_of R1
        clear R1
        go_wp2_with fail
        have hfin := HX.out.put (.int .i64 0) (.int .i64 0) (.string ⟨#[]⟩) (.slice none 0 0) (.slice none 0 0)
        refine bodyPost_ret (v := .tuple #[.agg #[.int .i64 0, .int .i64 0, .string ⟨#[]⟩, .slice none 0 0, .slice none 0 0], .bool false]) ?res rfl ⟨by rw [hgot]; exact ⟨_, _, _, _, _, _, _, _, _, rfl, vZ_rep _ _⟩, put5_below hb1 (Nat.le_refl _) _ _ _ _ _ _⟩
        case res =>
          obtain ⟨p0, p1, p2, p3, p4⟩ := hfin.five
          simp only [put5] at p0 p1 p2 p3 p4
          clear hfin
          simp [results, Try.results6, go_sem, p0, p1, p2, p3, p4]
end Go.Proofs.Ytjlifamkfdmfcaa
