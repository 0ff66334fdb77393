import Derived.Test.YtbpdchlbhfjddaaGreatJ12
import Derived.Test.YtbpdchlbhfjddaaGreatJ14
namespace Go.Proofs.YtbpdchlbhfjddaaGreat
set_option linter.unusedSimpArgs false
set_option linter.unusedVariables false
open Go.RowKit

/-- Cells at a way, their values elsewhere. -/
def SCells (w : World) (lab : Nat → List Nat) (p : List Nat) (P : Nat → Prop) (cs : List Ce) (a : Option Addr) : Prop :=
  0 < cs.length → ∃ b off, a = some ⟨b, off, none⟩ ∧ lab b = 1 :: p ∧ (∀ i, w.frozen? ⟨b, i, none⟩ = false) ∧ GRow w 6 cs.length b off (SCe P (cth cs))
def SRo (lab : Nat → List Nat) (p : List Nat) (P : Nat → Prop) (X : Nat → Ro) (w : World) (i : Nat) (c : Nat → Value) : Prop :=
  c 0 = .string (X i).type ∧ c 1 = .int .i64 (X i).id ∧ ∃ ca cc, c 2 = .slice ca (X i).cells.length cc ∧ (X i).cells.length ≤ cc ∧ (X i).type.size ≤ maxLen ∧ SCells w lab ((i + 2) :: p) P (X i).cells ca
theorem SCe.keep {P : Nat → Prop} {X : Nat → Ce} {w w' : World} {i : Nat} {c : Nat → Value} (h : SCe P X w i c) (e : ∀ k, P k → w'.heap[k]? = w.heap[k]?) : SCe P X w' i c := ⟨h.1, h.2.1.mono e, h.2.2⟩
theorem SCells.keep {w w' : World} {lab lab' : Nat → List Nat} {p : List Nat} {P : Nat → Prop} {cs : List Ce} {a : Option Addr} (h : SCells w lab p P cs a) (hl : ∀ b, lab b ≠ [] → lab' b = lab b ∧ w'.heap[b]? = w.heap[b]?) (e : ∀ k, P k → w'.heap[k]? = w.heap[k]?) : SCells w' lab' p P cs a := fun hn => by
  obtain ⟨b, off, h1, h2, h3, C, h4, h5⟩ := h hn
  obtain ⟨hb1, hb⟩ := hl b (by rw [h2]; simp)
  exact ⟨b, off, h1, hb1.trans h2, fun i => (World.frozen?_of_block (w := w) (a := ⟨b, i, none⟩) hb).trans (h3 i), C, fun i hi j hj => (World.cell?_of_block (w := w) (a := ⟨b, off + i * 6 + j, none⟩) hb).trans (h4 i hi j hj), fun i hi => (h5 i hi).keep e⟩
theorem SRo.keep {w w' : World} {lab lab' : Nat → List Nat} {p : List Nat} {P : Nat → Prop} {X X' : Nat → Ro} {i : Nat} {c c' : Nat → Value} (h : SRo lab p P X w i c) (hX : X' i = X i) (hc : ∀ m, m < 3 → c' m = c m) (hl : ∀ b, lab b ≠ [] → lab' b = lab b ∧ w'.heap[b]? = w.heap[b]?) (e : ∀ k, P k → w'.heap[k]? = w.heap[k]?) : SRo lab' p P X' w' i c' := by
  obtain ⟨h1, h2, ca, cc, h3, h4, h5, h6⟩ := h
  unfold SRo
  rw [hX, hc 0 (by omega), hc 1 (by omega), hc 2 (by omega)]
  exact ⟨h1, h2, ca, cc, h3, h4, h5, h6.keep hl e⟩
/-- Rows that a call gathers itself. -/
structure OwnRs (w : World) (lo : Nat) (lab : Nat → List Nat) (P : Nat → Prop) (rl : List Ro) (v : Value) (xs : List Value) : Prop where
  own : w.ownsRow lo 51 3 v rl.length xs
  way : ∀ b, lab b ≠ [] → lo ≤ b ∧ b < w.heap.size ∧ v.ownBlock ≠ some b
  row : ∀ k, k < rl.length → SRo lab [] P (rth rl) w k (fun m => xs.getD (k * 3 + m) undef)
theorem OwnRs.nil (w : World) (lo : Nat) (P : Nat → Prop) : OwnRs w lo (fun _ => []) P [] (.slice none 0 0) [] := ⟨World.ownsRow_nil _ _ _ _, fun b h => absurd rfl h, fun i hi => by simp at hi⟩
theorem OwnRs.keep {w w' : World} {lo : Nat} {lab : Nat → List Nat} {P : Nat → Prop} {rl : List Ro} {v : Value} {xs : List Value} (h : OwnRs w lo lab P rl v xs) (hb : Below w.heap.size w w') (hP : ∀ k, P k → k < w.heap.size) : OwnRs w' lo lab P rl v xs :=
  ⟨owns_same h.own fun b hb' => hb.block b (h.own.lt b hb').2, fun b hb' => ⟨(h.way b hb').1, Nat.lt_of_lt_of_le (h.way b hb').2.1 hb.size, (h.way b hb').2.2⟩, fun k hk => (h.row k hk).keep rfl (fun _ _ => rfl) (fun b hb' => ⟨rfl, hb.block b (h.way b hb').2.1⟩) (fun k hk => hb.block k (hP k hk))⟩
theorem OwnRs.put {w1 w3 : World} {lo : Nat} {lab : Nat → List Nat} {P : Nat → Prop} {rl : List Ro} {v : Value} {xs : List Value} (h : OwnRs w1 lo lab P rl v xs) {s0 : Nat} (hs : ∀ b, lab b ≠ [] → b < s0) (hs1 : s0 ≤ w1.heap.size) (hv : ∀ b, v.ownBlock = some b → b < s0) (hlo : lo ≤ s0)
    {r : Ro} {ca : Option Addr} {cc : Nat} (hc : r.cells.length ≤ cc) (ht : r.type.size ≤ maxLen) (hN : NCells w1 s0 P r.cells ca) {o : Obj} {g cap : Nat}
    (hown : w3.ownsRow lo 51 3 (.slice (some ⟨g, 0, none⟩) (rl.length + 1) cap) (rl.length + 1) (xs ++ [.string r.type, .int .i64 r.id, .slice ca r.cells.length cc])) (hgrow : (w1.alloc o).grownBy w3 v.ownBlock) (hat : v.ownBlock = some g ∨ g = w1.heap.size + 1) (hP : ∀ k, P k → k < lo) :
    ∃ lab', OwnRs w3 lo lab' P (rl ++ [r]) (.slice (some ⟨g, 0, none⟩) (rl.length + 1) cap) (xs ++ [.string r.type, .int .i64 r.id, .slice ca r.cells.length cc]) := by
  have z3 := hgrow.size
  simp at z3
  have hsame : ∀ b, b < w1.heap.size → v.ownBlock ≠ some b → w3.heap[b]? = w1.heap[b]? := fun b hb hne => by
    rw [hgrow.block b (by simp; omega) (fun e => hne e.symm)]
    exact (below_box w1 o).block b hb
  have hPs : ∀ k, P k → w3.heap[k]? = w1.heap[k]? := fun k hk => hsame k (by have := hP k hk; omega) (fun e => by have := (h.own.lt k e).1; have := hP k hk; omega)
  have hxl := h.own.1
  refine ⟨fun b => if s0 ≤ b ∧ b < w1.heap.size then [1, rl.length + 2] else lab b, by simpa using hown, fun b hb => ?_, fun k hk => ?_⟩
  · by_cases e : s0 ≤ b ∧ b < w1.heap.size
    · refine ⟨by omega, by omega, fun e2 => ?_⟩
      have e' : g = b := by simpa [Value.ownBlock] using e2
      rcases hat with h1 | h1
      · have := hv g h1; omega
      · omega
    · simp only [if_neg e] at hb
      obtain ⟨a1, a2, a3⟩ := h.way b hb
      refine ⟨a1, by omega, fun e2 => ?_⟩
      have e' : g = b := by simpa [Value.ownBlock] using e2
      rcases hat with h1 | h1
      · exact a3 (by rw [h1, e'])
      · omega
  · simp only [List.length_append, List.length_singleton] at hk
    by_cases e : k = rl.length
    · have hg : ∀ j, (xs ++ [Value.string r.type, .int .i64 r.id, .slice ca r.cells.length cc]).getD (k * 3 + j) undef = [Value.string r.type, .int .i64 r.id, .slice ca r.cells.length cc].getD j undef := fun j => by
        rw [List.getD_eq_getElem?_getD, List.getElem?_append_right (by omega), List.getD_eq_getElem?_getD, hxl, e, show rl.length * 3 + j - rl.length * 3 = j by omega]
      have hr : rth (rl ++ [r]) k = r := by simp [rth, List.getD_eq_getElem?_getD, e]
      unfold SRo
      rw [hr]
      refine ⟨hg 0, hg 1, ca, cc, hg 2, hc, ht, fun h0 => ?_⟩
      obtain ⟨b, h1, h2, h3, h4, C, h5, h6⟩ := hN h0
      have hb : w3.heap[b]? = w1.heap[b]? := hsame b h3 (fun e => by have := hv b e; omega)
      exact ⟨b, 0, h1, by rw [e]; exact if_pos ⟨h2, h3⟩, fun i => (World.frozen?_of_block (w := w1) (a := ⟨b, i, none⟩) hb).trans (h4 i), C, fun i hi j hj => (World.cell?_of_block (w := w1) (a := ⟨b, 0 + i * 6 + j, none⟩) hb).trans (h5 i hi j hj), fun i hi => (h6 i hi).keep hPs⟩
    · have hik : k < rl.length := by omega
      refine (h.row k hik).keep (by simp [rth, List.getD_eq_getElem?_getD, List.getElem?_append_left hik]) (fun m hm => ?_) (fun b hb => ⟨?_, hsame b (h.way b hb).2.1 (h.way b hb).2.2⟩) hPs
      · show (xs ++ _).getD (k * 3 + m) undef = xs.getD (k * 3 + m) undef
        rw [List.getD_eq_getElem?_getD, List.getElem?_append_left (by omega), List.getD_eq_getElem?_getD]
      · exact if_neg (by have := hs b hb; omega)

/-- Rows in new memory, each with cells of its own, the values elsewhere. -/
def SRows (w : World) (lab : Nat → List Nat) (P : Nat → Prop) (rl : List Ro) (a : Option Addr) : Prop :=
  0 < rl.length → ∃ b, a = some ⟨b, 0, none⟩ ∧ lab b = [1] ∧ (∀ i, w.frozen? ⟨b, i, none⟩ = false) ∧ GRow w 3 rl.length b 0 (SRo lab [] P (rth rl))
theorem OwnRs.rows {w : World} {lo : Nat} {lab : Nat → List Nat} {P : Nat → Prop} {rl : List Ro} {v : Value} {xs : List Value} (h : OwnRs w lo lab P rl v xs) :
    ∃ (a : Option Addr) (c : Nat) (lab' : Nat → List Nat), v = .slice a rl.length c ∧ rl.length ≤ c ∧ (∀ b, lab' b ≠ [] → lo ≤ b ∧ b < w.heap.size) ∧ SRows w lab' P rl a := by
  obtain ⟨h1, h2, h3⟩ := h
  have h1' := h1
  rcases h1.2 with ⟨rfl, h0⟩ | ⟨g, cap, cur, rfl, hlo, hg, hn, _⟩
  · exact ⟨none, 0, fun _ => [], by rw [h0], by omega, fun b hb => absurd rfl hb, fun h => by omega⟩
  · have hlt : g < w.heap.size := (Array.getElem?_eq_some_iff.1 hg).1
    refine ⟨_, cap, fun b => if b = g then [1] else lab b, rfl, hn, fun b hb => ?_, fun _ => ⟨g, rfl, if_pos rfl, fun i => h1'.frozenAt i, fun i j => xs.getD (i * 3 + j) undef, fun i hi j hj => ?_, fun i hi => (h3 i hi).keep rfl (fun _ _ => rfl) (fun b hb => ⟨if_neg (fun e : b = g => (h2 b hb).2.2 (by rw [e]; rfl)), rfl⟩) (fun _ _ => rfl)⟩⟩
    · by_cases e : b = g
      · rw [e]; exact ⟨hlo, hlt⟩
      · simp only [if_neg e] at hb
        exact ⟨(h2 b hb).1, (h2 b hb).2.1⟩
    · have hx := h1.1
      have := h1.cellAt (i * 3 + j) (by omega)
      show _ = some (xs.getD (i * 3 + j) undef)
      rw [Nat.zero_add, this, List.getD_eq_getElem?_getD, List.getElem?_eq_getElem (by omega)]
      rfl
theorem cutTo_len (t : T) (rs : List Ro) : ∀ n, (cutTo t rs n).length ≤ n
  | 0 => by simp [cutTo]
  | n + 1 => by
    have := cutTo_len t rs n
    rw [cutTo]; split
    · simp; omega
    · omega
theorem cutTs_len (ts : List T) (rs : List Ro) : ∀ n, (cutTs ts rs n).length ≤ n * rs.length
  | 0 => by simp [cutTs]
  | n + 1 => by
    have := cutTs_len ts rs n
    have := cutTo_len (tth ts n) rs rs.length
    rw [cutTs, List.length_append, Nat.add_mul, Nat.one_mul]; omega

/-- What cutOf answers. -/
def CutOk (w w' : World) (P : Nat → Prop) (rl : List Ro) (e : Ending) : Prop := ∃ (a : Option Addr) (c : Nat) (lab : Nat → List Nat), e = .returned (.slice a rl.length c) ∧ rl.length ≤ c ∧ (∀ b, lab b ≠ [] → w.heap.size ≤ b ∧ b < w'.heap.size) ∧ SRows w' lab P rl a

set_option maxRecDepth 20000 in
set_option maxHeartbeats 3200000 in
theorem cutOf_any (p : Pt) (rs : List Ro) (w : World) (B : Nat) (P : Nat → Prop) (u : Value) (ra : Option Addr) (rc : Nat) (hPt : PRep w (· < B) p u) (hB : B ≤ w.heap.size) (hz : szP p ≤ 1048576) (hR : RoReps w P rs ra) (hP : ∀ b, P b → b < w.heap.size) (hrl : rs.length ≤ 1048576) :
    Calls Tryz.prog 21 #[u, .slice ra rs.length rc] w fun e w' => CutOk w w' P (cutA p rs) e ∧ Below w.heap.size w w' := by
  have hP' := hPt
  have HCA : Hid (cutA p rs = if okP p = true then cutTs p.types rs p.types.length else []) := rfl
  have hfew := fun h => okP_few (p := p) h
  obtain ⟨pname, types⟩ := p
  obtain ⟨ta, tc, rfl, hK, hnc, hpn⟩ := hPt
  simp only at hK hnc hpn hP' hfew
  have hC := fun W (h : Below w.heap.size w W) => checkPart_any ⟨pname, types⟩ W B _ (hP'.under (h.mono hB)) (by have := h.size; omega) hz
  obtain ⟨i0, hi, hz0, hz1, hz2⟩ := info_parts info_Row
  have bP := below_box w (.cells #[.string pname, .slice ta types.length tc] 32)
  have C1 := hC _ bP
  cases ho : okP ⟨pname, types⟩
  · have HA : Hid (cutA ⟨pname, types⟩ rs = []) := hid_of (by rw [HCA.out, ho]; rfl)
    rcases partErr_bad _ ho with ⟨x, hx⟩ | ⟨i, x, hx⟩ <;> rw [hx] at C1
    all_goals
      go_enter Tryz.func21, Tryz.ntmps21
      go_wp2_with fail
      refine C1.mono ?_
      rintro e w1 ⟨rfl, hb1⟩
      have b1 := bP.trans (hb1.mono (by simp))
      go_wp2_with fail
      go_ret
      rw [HA.out]
      exact ⟨⟨none, 0, fun _ => [], rfl, Nat.le_refl _, fun b hb => absurd rfl hb, fun h => by simp at h⟩, b1⟩
  · rw [partErr_ok _ ho] at C1
    have HA : Hid (cutA ⟨pname, types⟩ rs = cutTs types rs types.length) := hid_of (by rw [HCA.out, ho]; rfl)
    obtain ⟨ht5, ht8⟩ := hfew ho
    clear hfew HCA hC
    go_enter Tryz.func21, Tryz.ntmps21
    go_wp2_with fail
    refine C1.mono ?_
    rintro e w1 ⟨rfl, hb1⟩
    have z1 := hb1.size
    simp at z1
    have b1 := bP.trans (hb1.mono (by simp))
    have q1 : w1.cell? ⟨w.heap.size, 1, none⟩ = some (.slice ta types.length tc) := (hb1.cell (p := ⟨w.heap.size, 1, none⟩) (by show w.heap.size < _; simp)).trans (by simp)
    have h56 := hK.1
    clear C1 hb1 bP
    go_wp2_with fail
    go_loopw [5, 16] (fun o i wr => ∃ (k : Nat) (v : Value) (xs : List Value) (lab : Nat → List Nat), k ≤ types.length ∧ i = .int .i64 k ∧ v = o ∧ Hid (OwnRs wr w1.heap.size lab P (cutTs types rs k) v xs) ∧ Below w1.heap.size w1 wr) (fun _ i _ => types.length - (intOf i).toNat)
    case atStart => exact ⟨0, _, [], _, Nat.zero_le _, rfl, rfl, hid_of (OwnRs.nil _ _ _), Below.refl _ _⟩
    case round =>
      clear q1
      obtain ⟨k, v, xs, lab, hk, rfl, rfl, HO, hbel⟩ := hrel
      obtain ⟨w0, rfl⟩ : ∃ x, x = wr := ⟨wr, rfl⟩
      have zb := hbel.size
      have bw := b1.trans (hbel.mono (by omega))
      by_cases hlt : k < types.length
      · obtain ⟨b, off, fa, fc', rfl, htr, hcs⟩ := hK.at hB k hlt
        obtain ⟨c0, c1, c2⟩ := hcs w0 bw
        have hki : (k : Int) < (types.length : Int) := by omega
        have ht8k := ht8 k hlt
        have HTS : Hid (cutTs types rs (k + 1) = cutTs types rs k ++ cutTo (tth types k) rs rs.length) := rfl
        have hlenT := cutTs_len types rs k
        generalize tth types k = t at *
        clear hcs
        have hT := fun W (h : Below w.heap.size w W) => htr.under (h.mono hB)
        have bT := below_box w0 (.cells #[.string t.name, .string t.key, .slice fa t.fields.length fc'] 76)
        have nT := block_new (w := w0) #[.string t.name, .string t.key, .slice fa t.fields.length fc'] 76 rfl
        have zT : (w0.alloc (.cells #[.string t.name, .string t.key, .slice fa t.fields.length fc'] 76)).heap.size = w0.heap.size + 1 := by simp
        have HOT := hid_of (HO.out.keep bT (fun k hk => by have := hP k hk; omega))
        have HNB : Hid (v.ownBlock ≠ some w0.heap.size) := hid_of (fun e => by have := (HO.out.own.lt _ e).2; omega)
        clear HO
        go_wp2_with fail
        go_loopw [5, 22] (fun o i wr => ∃ (j : Nat) (v : Value) (xs : List Value) (lab : Nat → List Nat), j ≤ rs.length ∧ i = .int .i64 j ∧ v = o ∧ Hid (OwnRs wr w1.heap.size lab P (cutTs types rs k ++ cutTo t rs j) v xs) ∧ Hid (v.ownBlock ≠ some w0.heap.size) ∧ wr.heap[w0.heap.size]? = some (.cells #[.string t.name, .string t.key, .slice fa t.fields.length fc'] 76 (0, 0)) ∧ Below w1.heap.size w1 wr ∧ w0.heap.size < wr.heap.size) (fun _ i _ => rs.length - (intOf i).toNat)
        case atStart => exact ⟨0, _, xs, lab, Nat.zero_le _, rfl, rfl, by simpa [cutTo] using HOT, HNB, nT, hbel.trans (bT.mono zb), by omega⟩
        case round =>
          clear nT bT zT c0 c1 c2 HOT HNB
          obtain ⟨j, v, xs, lab, hj, rfl, rfl, HO, HNB, nT, hbel2, zlt⟩ := hrel
          obtain ⟨w2, rfl⟩ : ∃ x, x = wr := ⟨wr, rfl⟩
          have bw2 := b1.trans (hbel2.mono (by omega))
          have zb2 := hbel2.size
          have t0 := (box_at nT 0 (by simp)).1
          have t1 := (box_at nT 1 (by simp)).1
          have t2 := (box_at nT 2 (by simp)).1
          by_cases hjt : j < rs.length
          · obtain ⟨h48, C, hA, hr⟩ := id hR
            obtain ⟨rb, roff, rfl, hrB, hrc'⟩ := hA (by omega)
            have hrw := hP rb hrB
            have hji : (j : Int) < (rs.length : Int) := by omega
            have hrj := hr j hjt
            obtain ⟨ca, ccp, e0, e1, e2, -, -, htz⟩ := hrj.pieces
            rw [e0, e1, e2] at hrj
            have hck : ∀ m, m < 3 → w2.cell? ⟨rb, roff + j * 3 + m, none⟩ = some (C j m) := fun m hm => (bw2.cell (p := ⟨rb, roff + j * 3 + m, none⟩) (by show rb < _; omega)).trans (hrc' j hjt m hm)
            have r0 : w2.cell? ⟨rb, roff + j * 3, none⟩ = some (.string (rth rs j).type) := e0 ▸ hck 0 (by omega)
            have r1 : w2.cell? ⟨rb, roff + j * 3 + 1, none⟩ = some (.int .i64 (rth rs j).id) := e1 ▸ hck 1 (by omega)
            have r2 : w2.cell? ⟨rb, roff + j * 3 + 2, none⟩ = some (.slice ca (rth rs j).cells.length ccp) := e2 ▸ hck 2 (by omega)
            clear hck hrc' e0 e1 e2 hA hr
            have HTO : Hid (cutTo t rs (j + 1) = if ((rth rs j).type.toList == t.name.toList) = true then cutTo t rs j ++ [cutR t (rth rs j)] else cutTo t rs j) := rfl
            have hlenJ := cutTo_len t rs j
            generalize rth rs j = r at *
            have bR := below_box w2 (.cells #[.string r.type, .int .i64 r.id, .slice ca r.cells.length ccp] 51)
            have zR : (w2.alloc (.cells #[.string r.type, .int .i64 r.id, .slice ca r.cells.length ccp] 51)).heap.size = w2.heap.size + 1 := by simp
            have nT2 := (bR.block _ zlt).trans nT
            have HOR := hid_of (HO.out.keep bR (fun k hk => by have := hP k hk; omega))
            have m1 : ¬ w2.heap.size = w0.heap.size := by omega
            have m2 : ¬ w0.heap.size = w2.heap.size := by omega
            obtain ⟨q, hq⟩ : ∃ q, q = (r.type.toList == t.name.toList) := ⟨_, rfl⟩
            rw [← hq] at HTO
            cases q
            · have hq' := hq.symm
              clear hq
              go_wp2_with fail
              go_roundw
              case measure => simp [intOf]; omega
              case rel => exact ⟨j + 1, v, xs, lab, by omega, by go_num, rfl, by rw [HTO.out]; exact HOR, HNB, nT2, hbel2.trans (bR.mono zb2), by omega⟩
            · have hq' := hq.symm
              clear hq
              have bwR := bw2.trans (bR.mono (by have := bw2.size; omega))
              have hCR := cutRow_any t r _ B P _ _ (hT _ bwR) (by have := bwR.size; omega) (hrj.mono fun k hk => bwR.block k (hP k hk)) (fun b hb => by have := hP b hb; have := bwR.size; omega) (by omega)
              have HCR := hid_of hCR
              clear hCR
              go_wp2_with fail
              refine HCR.out.mono ?_
              rintro e w3 ⟨ca3, cc3, rfl, hb3, hcc3, hN3⟩
              have z3 := hb3.size
              rw [zR] at z3
              have b23 : Below w2.heap.size w2 w3 := bR.trans (hb3.mono (by omega))
              have bx := below_box w3 (.cells #[.string r.type, .int .i64 r.id, .slice ca3 (cutR t r).cells.length cc3] 51)
              have K1 := block_new (w := w3) #[.string r.type, .int .i64 r.id, .slice ca3 (cutR t r).cells.length cc3] 51 rfl
              have HO3 := hid_of (HO.out.keep b23 (fun k hk => by have := hP k hk; omega))
              have HOX := hid_of (HO3.out.keep bx (fun k hk => by have := hP k hk; omega))
              have hlen : (cutTs types rs k ++ cutTo t rs j).length ≤ 6291456 := by
                have h1 : k * rs.length ≤ 5 * 1048576 := Nat.mul_le_mul (by omega) hrl
                rw [List.length_append]; omega
              have HN3 := hid_of hN3
              clear hN3 r0 r1 r2 t0 t1 t2 nT2 HOR HCR
              obtain ⟨n, hn⟩ : ∃ n, n = (cutTs types rs k ++ cutTo t rs j).length := ⟨_, rfl⟩
              rw [← hn] at hlen
              have HNN := hid_of hn
              clear hn
              go_wp2_with (at_builtin; refine wpList_append_lies _ rfl _ _ 28 rfl w1.heap.size 51 i0 (.agg #[.string ByteArray.empty, .int .i64 0, .slice none 0 0]) 3 48 Tryz.underlying28 hi hz0 hz1 hz2 rfl (by decide) v n xs rfl ?own ⟨w3.heap.size, 0, none⟩ 1 1 [.string r.type, .int .i64 r.id, .slice ca3 (cutR t r).cells.length cc3] rfl rfl ?c1 ?c2 (by omega) ?c3 (by omega) (by simp; omega) _ rfl ?_)
              case own => rw [HNN.out]; exact HOX.out.own
              case c1 => exact World.news_of_block K1
              case c2 => intro u hu; simp at hu; rcases hu with rfl | rfl | rfl <;> rfl
              case c3 => unfold maxLen; omega
              intro g cap w4 hown4 hgrow hat hlt4
              have z4 := hgrow.size
              simp at z4
              have HG := hid_of (And.intro hown4 (And.intro hgrow hat))
              clear hown4 hgrow hat K1
              go_wp2_with fail
              go_roundw
              case measure => simp [intOf]; omega
              case rel =>
                obtain ⟨hown4, hgrow, hat⟩ := HG.out
                obtain ⟨lab', hput⟩ := HO3.out.put (s0 := w2.heap.size) (fun b hb => (HO.out.way b hb).2.1) b23.size (fun b hb => (HO.out.own.lt b hb).2) (by omega) (r := cutR t r) (ca := ca3) (cc := cc3) hcc3 htz (fun h0 => by obtain ⟨b, h1, h2, h3⟩ := HN3.out h0; exact ⟨b, h1, by omega, h3⟩) (by rw [← HNN.out]; exact hown4) hgrow (by simpa using hat) (fun k hk => by have := hP k hk; omega)
                refine ⟨j + 1, _, xs ++ [.string r.type, .int .i64 r.id, .slice ca3 (cutR t r).cells.length cc3], lab', by omega, by go_num, rfl, ?_, ?_, ?_, ?_, by omega⟩
                · rw [HTO.out, if_pos trivial, ← List.append_assoc]
                  rw [← HNN.out] at hput
                  exact hid_of hput
                · refine hid_of (fun e => ?_)
                  have e' : g = w0.heap.size := by simpa [Value.ownBlock] using e
                  rcases hat with h1 | h1
                  · exact HNB.out (by rw [h1, e'])
                  · omega
                · exact ((hgrow.block _ (by simp; omega) (fun e => HNB.out e.symm)).trans (bx.block _ (by omega))).trans ((b23.block _ (by omega)).trans nT)
                · have hb4 : Below w1.heap.size w1 w3 := hbel2.trans (b23.mono (by omega))
                  exact (hb4.trans (bx.mono (by omega))).grown hgrow (by simp; omega) (fun k hk => (HOX.out.own.lt k hk).1)
          · have e : j = rs.length := by omega
            subst e
            go_wp2_with fail
            go_roundw
            case measure => simp [intOf]; omega
            case rel => exact ⟨k + 1, v, xs, lab, by omega, by go_num, rfl, by rw [HTS.out]; exact HO, hbel2⟩
      · have e : k = types.length := by omega
        subst e
        go_wp2_with fail
        go_ret
        obtain ⟨a', c', lab', rfl, h2, h3, h4⟩ := HO.out.rows
        rw [HA.out]
        exact ⟨⟨a', c', lab', rfl, h2, fun b hb => by have := h3 b hb; omega, h4⟩, bw⟩
end Go.Proofs.YtbpdchlbhfjddaaGreat
