import Derived.Test.YtdohgkokoicjlaaB24
import Derived.Test.YtdohgkokoicjlaaB25
import Derived.Test.YtdohgkokoicjlaaB18
import Derived.Test.YtdohgkokoicjlaaB11
import Derived.Test.YtdohgkokoicjlaaB32
import Derived.Test.YtdohgkokoicjlaaB31
set_option linter.unusedSimpArgs false
set_option linter.unusedVariables false
namespace Go.Proofs.Ytdohgkokoicjlaa
open Go.RowKit Go.Maps
attribute [local go_sem] Oper.semAt_some
theorem SmT.le {a b nn : Nat} {t : T} (h : SmT a nn t) (hab : a ≤ b) : SmT b nn t := ⟨h.1, h.2.1, Nat.le_trans h.2.2.1 hab, h.2.2.2⟩
end Go.Proofs.Ytdohgkokoicjlaa
namespace Go.Proofs.Ytdohgkokoicjlaa
open Go.RowKit Go.Maps
theorem PSt.list {w : World} {rb cb n : Nat} {wx : World} {σ : Sh} {c q pb pc : Nat} {ps : List Pv} (h : PSt w rb cb n wx σ c q pb pc ps) (hn : n ≤ 3) (hc : c ≤ 56) :
    ∃ qs : List Pt, qs.length = n ∧ PsRep wx (fun b => w.heap.size ≤ b ∧ b < wx.heap.size) qs (some ⟨pb, 0, none⟩) ∧ ∀ i, i < n → szP (pth qs i) ≤ 900000 := by
  have hk : ∀ i, ∃ r : Pt × Value × Value, i < n → wx.cell? ⟨pb, i * 2, none⟩ = some r.2.1 ∧ wx.cell? ⟨pb, i * 2 + 1, none⟩ = some r.2.2 ∧ PRep wx (fun b => w.heap.size ≤ b ∧ b < wx.heap.size) r.1 (.agg #[r.2.1, r.2.2]) ∧ szP r.1 ≤ 900000 := by
    intro i
    by_cases hi : i < n
    · obtain ⟨p, ⟨h1, h2, h3, h4, h5, h6⟩, c0, c1, -⟩ := h.cells i hi
      have hL : Laid w wx σ (bdP c) p.s p.b 0 p.len p.cap p.cap := ⟨h.wf, h.new, h6, by omega, by have : (bdP c).nt = 1 + 2 * c := rfl; omega, h4, by have : (bdP c).nn = 1 := rfl; omega, by have : (bdP c).nf = 7 + 2 * c := rfl; omega, h1⟩
      obtain ⟨x, hP, hz⟩ := hL.partN
      rw [Nat.zero_mul] at hP
      exact ⟨(x, _, _), fun _ => ⟨c0, c1, hP, hz⟩⟩
    · exact ⟨(Pt.zero, undef, undef), fun h => absurd h hi⟩
  obtain ⟨f, hf⟩ := Classical.skolem.1 hk
  have hl : ((List.range n).map fun i => (f i).1).length = n := by simp
  have hat : ∀ i, i < n → pth ((List.range n).map fun i => (f i).1) i = (f i).1 := fun i hi => by simp [pth, List.getD_eq_getElem?_getD, hi]
  have hp := h.plt
  refine ⟨(List.range n).map fun i => (f i).1, hl, ⟨by rw [hl]; omega, fun i j => if j = 0 then (f i).2.1 else (f i).2.2, fun _ => ⟨pb, 0, rfl, hp, fun i hi j hj => ?_⟩, fun i hi => ?_⟩, fun i hi => ?_⟩
  · rw [hl] at hi
    obtain ⟨c0, c1, -⟩ := hf i hi
    rw [Nat.zero_add]
    by_cases e : j = 0
    · subst e; simpa using c0
    · have : j = 1 := by omega
      subst this; simpa using c1
  · rw [hl] at hi
    rw [hat i hi]
    simpa using (hf i hi).2.2.1
  · rw [hat i hi]; exact (hf i hi).2.2.2
end Go.Proofs.Ytdohgkokoicjlaa
namespace Go.Proofs.Ytdohgkokoicjlaa
open Go.RowKit
theorem allM_ok (ps : List Pt) (h4 : ps.length ≤ 4) (h : ∀ i, i < ps.length → okP (pth ps i) = true) : szP (allM ps) ≤ 1048576 := by
  have hM : ∀ j, j < ps.length → szP (pth ps j) ≤ 1500 := fun j hj => (okP_sz _ (h j hj)).1
  have h1 := allM_sz ps 1500 1500 5 (keyM_sz ps 1500 hM) hM (fun j hj => (okP_sz _ (h j hj)).2)
  have h2 : ps.length * (1500 + 5 * (1500 + 1)) ≤ 4 * (1500 + 5 * (1500 + 1)) := Nat.mul_le_mul_right _ h4
  omega
theorem fcT_sz (p : Pt) (k : Nat) : fcT p k ≤ szTsTo p.types k + k := by
  induction k with
  | zero => exact Nat.zero_le _
  | succ k ih =>
    rw [fcT, szTsTo_succ]
    have h4 : szT (tth p.types k) = (tth p.types k).name.size + (tth p.types k).key.size + ((tth p.types k).fields.length + szFsTo (tth p.types k).fields (tth p.types k).fields.length) := rfl
    omega
theorem fcP_sz (ps : List Pt) (M i : Nat) (hM : ∀ j, j < i → szP (pth ps j) ≤ M) : fcP ps i ≤ i * M := by
  induction i with
  | zero => exact Nat.zero_le _
  | succ i ih =>
    rw [fcP, Nat.succ_mul]
    have h1 := ih fun j hj => hM j (by omega)
    have h2 := fcT_sz (pth ps i) (pth ps i).types.length
    have h3 := hM i (by omega)
    have h4 : szP (pth ps i) = (pth ps i).name.size + ((pth ps i).types.length + szTsTo (pth ps i).types (pth ps i).types.length) := rfl
    omega
theorem fcP_ok (ps : List Pt) (h4 : ps.length ≤ 4) (hz : ∀ i, i < ps.length → szP (pth ps i) ≤ 1048576) : fcP ps ps.length ≤ 100000000 := by
  have h1 := fcP_sz ps 1048576 ps.length hz
  have h2 : ps.length * 1048576 ≤ 4 * 1048576 := Nat.mul_le_mul_right _ h4
  omega
end Go.Proofs.Ytdohgkokoicjlaa
namespace Go.Proofs.Ytdohgkokoicjlaa
open Go.RowKit
structure EachF (G S : F → Prop) : Prop where
  new : ∀ f, S f → G ⟨f.name, f.of, f.list, f.must, false, f.hidden, false, f.needs⟩
  old : ∀ g f, G g → S f → G { g with hidden := g.hidden || f.hidden, needs := if f.needs.length = 0 then g.needs else f.needs }
def EachT (G : F → Prop) (t : T) : Prop := ∀ j, j < t.fields.length → G (fth t.fields j)
def EachTs (G : F → Prop) (ts : List T) : Prop := ∀ i, i < ts.length → EachT G (tth ts i)
theorem EachT.put {G S : F → Prop} (e : EachF G S) {t : T} {f : F} (h : EachT G t) (hf : S f) : EachT G (putF t f) := by
  intro j hj
  unfold putF at hj ⊢
  by_cases c : 0 ≤ fieldIx t f.name
  · rw [if_pos c] at hj ⊢
    simp only [List.length_set] at hj
    simp only
    by_cases ej : j = (fieldIx t f.name).toNat
    · subst ej
      rw [fth_set_eq _ _ _ hj]
      exact e.old _ _ (h _ hj) hf
    · rw [fth_set_ne _ _ _ _ ej]
      exact h _ hj
  · rw [if_neg c] at hj ⊢
    simp only [List.length_append, List.length_singleton] at hj
    simp only
    by_cases ej : j < t.fields.length
    · rw [fth_snoc_lt _ _ _ ej]; exact h _ ej
    · have : j = t.fields.length := by omega
      subst this
      rw [fth_snoc_eq]
      exact e.new _ hf
theorem EachTs.base {G : F → Prop} {ps : List Pt} {out : List T} (h : EachTs G out) (t : T) : EachTs G (baseT ps out t) := by
  unfold baseT
  split
  · exact h
  · intro i hi j hj
    simp only [List.length_append, List.length_singleton] at hi
    by_cases e : i < out.length
    · rw [tth_snoc_lt _ _ _ e] at hj ⊢; exact h i e j hj
    · have : i = out.length := by omega
      subst this
      rw [tth_snoc_eq] at hj
      simp at hj
theorem EachTs.mid {G S : F → Prop} (e : EachF G S) {ps : List Pt} {out : List T} (h : EachTs G out) {t : T} (ht : EachT S t) : ∀ n, n ≤ t.fields.length → EachTs G (midT ps out t n)
  | 0, _ => by rw [midT_zero]; exact h.base t
  | n + 1, hn => by
    have ih := EachTs.mid (ps := ps) e h ht n (by omega)
    rw [midT_succ]
    intro i hi
    rw [List.length_set] at hi
    by_cases c : i = atT out t
    · subst c
      rw [tth_set_eq _ _ _ hi]
      exact (ih _ hi).put e (ht n (by omega))
    · rw [tth_set_ne _ _ _ _ c]
      exact ih i hi
theorem EachTs.types {G S : F → Prop} (e : EachF G S) {ps : List Pt} {out : List T} (h : EachTs G out) {p : Pt} (hp : EachTs S p.types) : ∀ k, k ≤ p.types.length → EachTs G (typesTo ps p out k)
  | 0, _ => h
  | k + 1, hk => by
    rw [typesTo, ← midT_step]
    exact (EachTs.types e h hp k (by omega)).mid e (hp k (by omega)) _ (Nat.le_refl _)
theorem EachTs.parts {G S : F → Prop} (e : EachF G S) {ps : List Pt} (hs : ∀ i, i < ps.length → EachTs S (pth ps i).types) : ∀ i, i ≤ ps.length → EachTs G (partsTo ps i)
  | 0, _ => fun i hi => absurd hi (Nat.not_lt_zero _)
  | i + 1, hi => by
    rw [partsTo]
    exact (EachTs.parts e hs i (by omega)).types e (hs i (by omega)) _ (Nat.le_refl _)
theorem allM_each {G S : F → Prop} (e : EachF G S) {ps : List Pt} (hs : ∀ i, i < ps.length → EachTs S (pth ps i).types) : EachTs G (allM ps).types := EachTs.parts e hs ps.length (Nat.le_refl _)
theorem allM_near (ps : List Pt) : EachTs (fun f => f.far = false ∧ f.shared = false) (allM ps).types :=
  allM_each (S := fun _ => True) ⟨fun f _ => ⟨rfl, rfl⟩, fun g f h _ => h⟩ fun i _ k _ j _ => trivial
end Go.Proofs.Ytdohgkokoicjlaa
