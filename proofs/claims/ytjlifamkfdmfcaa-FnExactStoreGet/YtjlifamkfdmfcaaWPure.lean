/-
  What a value weighs, part by part; lists of kids that are open while they are weighed.
-/
import Derived.Test.YtjlifamkfdmfcaaSOpen
import Derived.Test.YtjlifamkfdmfcaaWLeaf
namespace Go.Proofs.Ytjlifamkfdmfcaa
set_option linter.unusedSimpArgs false
set_option linter.unusedVariables false
open Go.RowKit

mutual
/-- What a value weighs, with all that is in it. -/
def wV (ow : V → Nat) : V → Nat
  | .mk s n t ns ks => ow (.mk s n t ns ks) + wL ow ks
/-- The same of a list of values. -/
def wL (ow : V → Nat) : List V → Nat
  | [] => 0
  | k :: r => wV ow k + wL ow r
end
theorem wV_eq (ow : V → Nat) (x : V) : wV ow x = ow x + wL ow x.kids := by obtain ⟨s, n, t, ns, ks⟩ := x; simp only [wV]
theorem wL_append (ow : V → Nat) (a b : List V) : wL ow (a ++ b) = wL ow a + wL ow b := by
  induction a with
  | nil => simp [wL]
  | cons k r ih => simp [wL, ih]; omega
theorem take_kth' (ks : List V) (k : Nat) (h : k < ks.length) : ks.take (k + 1) = ks.take k ++ [kth ks k] := by
  rw [List.take_succ_eq_append_getElem h]
  congr 2
  simp [kth, List.getD_eq_getElem?_getD, h]
theorem wL_take (ow : V → Nat) (ks : List V) (k : Nat) (h : k < ks.length) : wL ow (ks.take (k + 1)) = wL ow (ks.take k) + wV ow (kth ks k) := by
  rw [take_kth' ks k h, wL_append]; simp [wL]
theorem wL_part (ow : V → Nat) (ks : List V) (k : Nat) : wL ow (ks.take k) ≤ wL ow ks := by
  conv => rhs; rw [← List.take_append_drop k ks]
  rw [wL_append]; omega
theorem wV_le (ow : V → Nat) (ks : List V) (k : Nat) (h : k < ks.length) : wV ow (kth ks k) ≤ wL ow ks := by
  have h1 := wL_take ow ks k h
  have h2 := wL_part ow ks (k + 1)
  omega
theorem cntV_eq (x : V) : cntV x = 1 + cntL x.kids := by obtain ⟨s, n, t, ns, ks⟩ := x; simp only [cntV]
theorem cntL_take (ks : List V) (k : Nat) (h : k < ks.length) : cntL (ks.take (k + 1)) = cntL (ks.take k) + cntV (kth ks k) := by
  rw [take_kth' ks k h, cntL_append]; simp [cntL]
theorem cntL_drop (ks : List V) (k : Nat) (h : k < ks.length) : cntL (ks.drop k) = cntV (kth ks k) + cntL (ks.drop (k + 1)) := by
  have e : ks.drop k = kth ks k :: ks.drop (k + 1) := by
    rw [List.drop_eq_getElem_cons h]
    congr 1
    simp [kth, List.getD_eq_getElem?_getD, h]
  rw [e]; simp [cntL]
theorem cntL_part (ks : List V) (k : Nat) : cntL (ks.drop k) ≤ cntL ks := by
  conv => rhs; rw [← List.take_append_drop k ks]
  rw [cntL_append]; omega
theorem cntV_le (ks : List V) (k : Nat) (h : k < ks.length) : cntV (kth ks k) ≤ cntL ks := by
  have h1 := cntL_drop ks k h
  have h2 := cntL_part ks k
  omega

/-- Kids that are open: where they stand, how many are done, and what these weigh. -/
structure Fr where
  b : Nat
  o : Nat
  c : Nat
  ks : List V
  d : Nat
  x : Nat
def Fr.cells (f : Fr) : List Value := [.slice (some ⟨f.b, f.o, none⟩) f.ks.length f.c, .int .i64 f.d, .int .i64 f.x]

/-- The kids f stand in one of the kids below them, and so on down to the root; those below are done but for what is open above them. -/
def Under (ow : V → Nat) (root : V) : Fr → List Fr → Prop
  | f, [] => f.ks = [root]
  | f, g :: r => (0 < g.d ∧ g.d ≤ g.ks.length ∧ f.ks = (kth g.ks (g.d - 1)).kids ∧ g.x + wL ow f.ks = wL ow (g.ks.take g.d)) ∧ Under ow root g r

theorem Under.kids {ow : V → Nat} {root : V} {f g : Fr} {r : List Fr} (h : Under ow root f r) (e : g.ks = f.ks) : Under ow root g r := by
  match r, h with
  | [], h => exact e.trans h
  | a :: r, h => exact ⟨⟨h.1.1, h.1.2.1, e.trans h.1.2.2.1, by rw [e]; exact h.1.2.2.2⟩, h.2⟩
theorem Under.le {ow : V → Nat} {root : V} : ∀ {r : List Fr} {f : Fr}, Under ow root f r → wL ow f.ks ≤ wV ow root ∧ r.length + cntL f.ks ≤ cntV root
  | [], f, h => by
    have h' : f.ks = [root] := h
    rw [h']; simp [wL, cntL]
  | g :: r, f, h => by
    obtain ⟨⟨h1, h2, h3, -⟩, h4⟩ := h
    have ih := Under.le h4
    have hk : g.d - 1 < g.ks.length := by omega
    have a1 := wV_le ow g.ks (g.d - 1) hk
    have a2 := cntV_le g.ks (g.d - 1) hk
    rw [wV_eq, ← h3] at a1
    rw [cntV_eq, ← h3] at a2
    simp only [List.length_cons]
    omega
theorem Under.cnt {ow : V → Nat} {root : V} : ∀ {r : List Fr} {f : Fr}, Under ow root f r → ∀ g, g ∈ r → cntL f.ks < cntL g.ks
  | [], f, _, g, hg => by simp at hg
  | a :: r, f, h, g, hg => by
    obtain ⟨⟨h1, h2, h3, -⟩, h4⟩ := h
    have hk : a.d - 1 < a.ks.length := by omega
    have a2 := cntV_le a.ks (a.d - 1) hk
    rw [cntV_eq, ← h3] at a2
    rcases List.mem_cons.1 hg with rfl | hg
    · omega
    · have := Under.cnt h4 g hg; omega

/-- What a stack of open kids has still to do. -/
def todoF : List Fr → Nat
  | [] => 0
  | f :: r => 1 + 2 * cntL (f.ks.drop f.d) + todoF r

/-- Values that stand in a row. -/
def KidsAt (w : World) (P : Nat → Prop) (b o : Nat) (ks : List V) : Prop := P b ∧ 80 * ks.length ≤ 281474976710656 ∧
  ∃ C : Nat → Nat → Value, (∀ i, i < ks.length → ∀ j, j < 5 → w.cell? ⟨b, o + i * 5 + j, none⟩ = some (C i j)) ∧ ∀ i, i < ks.length → Rep w P (kth ks i) (.agg #[C i 0, C i 1, C i 2, C i 3, C i 4])

theorem Kids.at {w : World} {P : Nat → Prop} {ks : List V} {ka : Option Addr} (h : Kids w P ks ka) (hne : ks ≠ []) : ∃ b o, ka = some ⟨b, o, none⟩ ∧ KidsAt w P b o ks := by
  obtain ⟨h80, b, off, C, h1, h2, h3⟩ := h
  obtain ⟨rfl, hb⟩ := h1 hne
  exact ⟨b, off, rfl, hb, h80, C, h2, h3⟩

theorem strs_one {w : World} {P Q : Nat → Prop} {a b : List ByteArray} {ad : Option Addr} (h : Strs w P a ad) (h' : Strs w Q b ad) (hl : a.length = b.length) : a = b := by
  by_cases hn : a = []
  · subst hn
    exact (List.length_eq_zero_iff.1 hl.symm).symm
  · have hn' : b ≠ [] := fun e => hn (List.length_eq_zero_iff.1 (by rw [hl, e]; rfl))
    obtain ⟨c, o, rfl, -, hc⟩ := h.1 hn
    obtain ⟨c', o', e', -, hc'⟩ := h'.1 hn'
    simp only [Option.some.injEq, Addr.mk.injEq, and_true] at e'
    obtain ⟨rfl, rfl⟩ := e'
    apply List.ext_getElem hl
    intro i h1 h2
    have := (hc i h1).symm.trans (hc' i h2)
    simp only [Option.some.injEq, Value.string.injEq, nth, List.getD_eq_getElem?_getD, List.getElem?_eq_getElem h1, List.getElem?_eq_getElem h2, Option.getD_some] at this
    exact this

/-- One place holds one value. -/
theorem repN_one {w : World} {P Q : Nat → Prop} : ∀ (f : Nat) {x y : V} {v : Value}, RepN w P f x v → Rep w Q y v → x = y
  | 0, _, _, _, h, _ => h.elim
  | f + 1, x, y, v, h, h' => by
    obtain ⟨s, n, t, ns, ks⟩ := x
    obtain ⟨s', n', t', ns', ks'⟩ := y
    obtain ⟨na, ka, nc, kc, b, off, C, h1, h2, -, -, -, -, h7, h8, h9⟩ := h
    obtain ⟨na', ka', nc', kc', g1, g2, -, -, -, -, b', off', C', g7, g8, g9⟩ := h'.inv
    rw [h1] at g1
    simp only [Value.agg.injEq, Array.mk.injEq, List.cons.injEq, and_true, Value.int.injEq, true_and, Value.string.injEq, Value.slice.injEq] at g1
    obtain ⟨rfl, rfl, rfl, ⟨rfl, e1, rfl⟩, rfl, e2, rfl⟩ := g1
    simp only at e1 e2 h2 h7 h8 h9
    have hns : ns = ns' := strs_one h2 g2 e1
    have hks : ks = ks' := by
      by_cases hn : ks = []
      · subst hn
        exact (List.length_eq_zero_iff.1 e2.symm).symm
      · have hn' : ks' ≠ [] := fun e => hn (List.length_eq_zero_iff.1 (by rw [e2, e]; rfl))
        obtain ⟨rfl, -⟩ := h7 hn
        obtain ⟨e', -⟩ := g7 hn'
        simp only [Option.some.injEq, Addr.mk.injEq, and_true] at e'
        obtain ⟨rfl, rfl⟩ := e'
        apply List.ext_getElem e2
        intro i hi hi'
        have hC : ∀ j, j < 5 → C i j = C' i j := fun j hj => Option.some.inj ((h8 i hi j hj).symm.trans (g8 i hi' j hj))
        have r1 := h9 i hi
        have r2 := g9 i hi'
        rw [← hC 0 (by omega), ← hC 1 (by omega), ← hC 2 (by omega), ← hC 3 (by omega), ← hC 4 (by omega)] at r2
        have := repN_one f r1 r2
        simpa [kth, List.getD_eq_getElem?_getD, List.getElem?_eq_getElem hi, List.getElem?_eq_getElem hi'] using this
    rw [hns, hks]
theorem rep_one {w : World} {P Q : Nat → Prop} {x y : V} {v : Value} (h : Rep w P x v) (h' : Rep w Q y v) : x = y := by
  obtain ⟨f, h⟩ := h; exact repN_one f h h'
theorem kidsAt_one {w : World} {P : Nat → Prop} {b o : Nat} {a c : List V} (h : KidsAt w P b o a) (h' : KidsAt w P b o c) (hl : a.length = c.length) : a = c := by
  obtain ⟨-, -, C, h2, h3⟩ := h
  obtain ⟨-, -, C', g2, g3⟩ := h'
  apply List.ext_getElem hl
  intro i hi hi'
  have hC : ∀ j, j < 5 → C i j = C' i j := fun j hj => Option.some.inj ((h2 i hi j hj).symm.trans (g2 i hi' j hj))
  have r1 := h3 i hi
  have r2 := g3 i hi'
  rw [← hC 0 (by omega), ← hC 1 (by omega), ← hC 2 (by omega), ← hC 3 (by omega), ← hC 4 (by omega)] at r2
  have := rep_one r1 r2
  simpa [kth, List.getD_eq_getElem?_getD, List.getElem?_eq_getElem hi, List.getElem?_eq_getElem hi'] using this

/-- What is known of kids: those that are open weigh whatever; all others what they weigh. -/
def KnOk (w : World) (P : Nat → Prop) (ow : V → Nat) (G : Value → Option Value) (st : List Fr) : Prop :=
  ∀ b o n v, G (pk b o n) = some v → (∃ f, f ∈ st ∧ f.b = b ∧ f.o = o ∧ f.ks.length = n ∧ KidsAt w P b o f.ks) ∨ ∀ L, L.length = n → KidsAt w P b o L → v = .int .i64 (wL ow L : Nat)

/-- Kids that are met within the topmost are known only if they are done. -/
theorem KnOk.met {w : World} {P : Nat → Prop} {ow : V → Nat} {G : Value → Option Value} {root : V} {f : Fr} {r : List Fr} (h : KnOk w P ow G (f :: r)) (hU : Under ow root f r) {i b o : Nat} (hi : i < f.ks.length) (hK : KidsAt w P b o (kth f.ks i).kids) {v : Value}
    (hG : G (pk b o (kth f.ks i).kids.length) = some v) : v = .int .i64 (wL ow (kth f.ks i).kids : Nat) := by
  rcases h b o _ v hG with ⟨g, hg, h1, h2, h3, h4⟩ | h1
  · exfalso
    have e := kidsAt_one h4 hK h3
    have a1 := cntV_le f.ks i hi
    rw [cntV_eq, ← e] at a1
    rcases List.mem_cons.1 hg with rfl | hg
    · omega
    · have := hU.cnt g hg; omega
  · exact h1 _ rfl hK

/-- The topmost are done. -/
theorem KnOk.pop {w : World} {P : Nat → Prop} {ow : V → Nat} {G G' : Value → Option Value} {f g g' : Fr} {r : List Fr} (h : KnOk w P ow G (f :: g :: r)) (hb : g'.b = g.b ∧ g'.o = g.o ∧ g'.ks = g.ks) (hK : KidsAt w P f.b f.o f.ks)
    (h1 : G' (pk f.b f.o f.ks.length) = some (.int .i64 (wL ow f.ks : Nat))) (h2 : ∀ y, y ≠ pk f.b f.o f.ks.length → G' y = G y) : KnOk w P ow G' (g' :: r) := by
  intro b o n v hv
  by_cases e : pk b o n = pk f.b f.o f.ks.length
  · right
    obtain ⟨rfl, rfl, rfl⟩ := pk_inj e
    rw [h1] at hv
    intro L hL hKL
    have e2 := kidsAt_one hKL hK hL
    rw [e2]; exact (Option.some.inj hv).symm
  · rw [h2 _ e] at hv
    rcases h b o n v hv with ⟨k, hk, k1, k2, k3, k4⟩ | hc
    · rcases List.mem_cons.1 hk with rfl | hk
      · exact absurd (by rw [k1, k2, k3]) e
      · left
        rcases List.mem_cons.1 hk with rfl | hk
        · exact ⟨g', by simp, by rw [hb.1, k1], by rw [hb.2.1, k2], by rw [hb.2.2, k3], by rw [hb.2.2]; exact k4⟩
        · exact ⟨k, by simp [hk], k1, k2, k3, k4⟩
    · exact Or.inr hc

/-- One more is done; the same kids stay open. -/
theorem KnOk.stay {w : World} {P : Nat → Prop} {ow : V → Nat} {G : Value → Option Value} {f f' : Fr} {r : List Fr} (h : KnOk w P ow G (f :: r)) (hb : f'.b = f.b ∧ f'.o = f.o ∧ f'.ks = f.ks) : KnOk w P ow G (f' :: r) := by
  intro b o n v hv
  rcases h b o n v hv with ⟨k, hk, k1, k2, k3, k4⟩ | hc
  · left
    rcases List.mem_cons.1 hk with rfl | hk
    · exact ⟨f', by simp, by rw [hb.1, k1], by rw [hb.2.1, k2], by rw [hb.2.2, k3], by rw [hb.2.2]; exact k4⟩
    · exact ⟨k, by simp [hk], k1, k2, k3, k4⟩
  · exact Or.inr hc

/-- New kids are open. -/
theorem KnOk.push {w : World} {P : Nat → Prop} {ow : V → Nat} {G G' : Value → Option Value} {f g : Fr} {r : List Fr} (h : KnOk w P ow G (f :: r)) (hK : KidsAt w P g.b g.o g.ks)
    (h2 : ∀ y, y ≠ pk g.b g.o g.ks.length → G' y = G y) : KnOk w P ow G' (g :: f :: r) := by
  intro b o n v hv
  by_cases e : pk b o n = pk g.b g.o g.ks.length
  · obtain ⟨rfl, rfl, rfl⟩ := pk_inj e
    exact Or.inl ⟨g, by simp, rfl, rfl, rfl, hK⟩
  · rw [h2 _ e] at hv
    rcases h b o n v hv with ⟨k, hk, k1, k2, k3, k4⟩ | hc
    · exact Or.inl ⟨k, List.mem_cons_of_mem _ hk, k1, k2, k3, k4⟩
    · exact Or.inr hc
end Go.Proofs.Ytjlifamkfdmfcaa
