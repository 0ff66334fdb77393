import Derived.Test.YtdohgkokoicjlaaB34
import Derived.Test.YtdohgkokoicjlaaB38
import Derived.Test.YtdohgkokoicjlaaB1
import Derived.Test.YtdohgkokoicjlaaB37
import Derived.Test.YtdohgkokoicjlaaB36
import Derived.Test.YtdohgkokoicjlaaB32
import Derived.Test.YtdohgkokoicjlaaB5
import Derived.Test.YtdohgkokoicjlaaB31
set_option linter.unusedSimpArgs false
set_option linter.unusedVariables false
namespace Go.Proofs.Ytdohgkokoicjlaa
open Go.RowKit
theorem allTo_at (q : Nat → Bool) : ∀ n, allTo q n = true → ∀ i, i < n → q i = true
  | 0, _, i, hi => absurd hi (Nat.not_lt_zero _)
  | n + 1, h, i, hi => by
    rw [allTo, Bool.and_eq_true] at h
    by_cases e : i = n
    · subst e; exact h.2
    · exact allTo_at q n h.1 i (by omega)
theorem partsOk_ok {ps : List Pt} {okp : Pt → Bool} (h : partsOkB ps okp = true) : 0 < ps.length ∧ ps.length ≤ 4 ∧ ∀ i, i < ps.length → okp (pth ps i) = true := by
  unfold partsOkB at h
  simp only [Bool.and_eq_true, decide_eq_true_eq] at h
  refine ⟨h.1.1.1, h.1.1.2, fun i hi => ?_⟩
  have := allTo_at _ _ h.1.2 i hi
  unfold eachB at this
  rw [Bool.and_eq_true] at this
  exact this.1
theorem szFsTo_at (fs : List F) (k : Nat) : ∀ n, k < n → szF (fth fs k) ≤ szFsTo fs n
  | 0, h => absurd h (Nat.not_lt_zero _)
  | n + 1, h => by
    rw [szFsTo_succ]
    by_cases e : k = n
    · subst e; omega
    · have := szFsTo_at fs k n (by omega)
      omega
theorem needs_ok (ps : List Pt) (hz : ∀ i, i < ps.length → szP (pth ps i) ≤ 1048576) (i k n : Nat) : (fth (tth (pth ps i).types k).fields n).needs.length ≤ 1000000000 := by
  by_cases hi : i < ps.length
  · have h0 := hz i hi
    have h1 : szP (pth ps i) = (pth ps i).name.size + ((pth ps i).types.length + szTsTo (pth ps i).types (pth ps i).types.length) := rfl
    generalize pth ps i = p at *
    by_cases hk : k < p.types.length
    · have h2 := szTsTo_at p.types k p.types.length hk
      have h3 : szT (tth p.types k) = (tth p.types k).name.size + (tth p.types k).key.size + ((tth p.types k).fields.length + szFsTo (tth p.types k).fields (tth p.types k).fields.length) := rfl
      generalize tth p.types k = t at *
      by_cases hn : n < t.fields.length
      · have h4 := szFsTo_at t.fields n t.fields.length hn
        have h5 : szF (fth t.fields n) = (fth t.fields n).name.size + (fth t.fields n).of.size + ((fth t.fields n).needs.length + sumTo (fth t.fields n).needs (fth t.fields n).needs.length) := rfl
        omega
      · have : fth t.fields n = F.zero := by simp [fth, List.getD_eq_getElem?_getD, List.getElem?_eq_none (Nat.le_of_not_lt hn)]
        rw [this]
        exact Nat.zero_le _
    · have e1 : tth p.types k = T.zero := by simp [tth, List.getD_eq_getElem?_getD, List.getElem?_eq_none (Nat.le_of_not_lt hk)]
      rw [e1]
      have : fth T.zero.fields n = F.zero := by simp [fth, T.zero]
      rw [this]
      exact Nat.zero_le _
  · have e0 : pth ps i = Pt.zero := by simp [pth, List.getD_eq_getElem?_getD, List.getElem?_eq_none (Nat.le_of_not_lt hi)]
    rw [e0]
    have e1 : tth Pt.zero.types k = T.zero := by simp [tth, Pt.zero]
    rw [e1]
    have : fth T.zero.fields n = F.zero := by simp [fth, T.zero]
    rw [this]
    exact Nat.zero_le _
end Go.Proofs.Ytdohgkokoicjlaa
namespace Go.Proofs.Ytdohgkokoicjlaa
open Go.RowKit Go.Maps
attribute [local go_sem] Oper.semAt_some
theorem infoO : (Try.prog.info? 59).map (fun i => (i.zero.map fun z => z.cells.size, i.size, i.bytes)) = some (some 3, 3, 56) := by kernel_rfl
theorem infoO_parts : ∃ (i : TypeInfo) (z : Value), Try.prog.info? 59 = some i ∧ i.zero = some z ∧ i.size = 3 ∧ i.bytes = 56 ∧ z.cells.size = 3 := by
  have h := infoO
  cases hi : Try.prog.info? 59 with
  | none => rw [hi] at h; cases h
  | some i =>
    rw [hi] at h
    simp only [Option.map_some, Option.some.injEq, Prod.mk.injEq] at h
    obtain ⟨h1, h2, h3⟩ := h
    cases hz : i.zero with
    | none => rw [hz] at h1; cases h1
    | some z =>
      rw [hz] at h1
      simp only [Option.map_some, Option.some.injEq] at h1
      exact ⟨i, z, rfl, hz, h2, h3, h1⟩
theorem mkResult (FW : World) (tmps : Array Value) (N M : Nat) (v0 v1 v2 u0 u1 u2 u3 : Value) (h2 : tmps.getD 2 undef = .pointer (some ⟨N, 0, none⟩)) (h3 : tmps.getD 3 undef = .pointer (some ⟨M, 0, none⟩))
    (hN : FW.heap[N]? = some (.cells #[v0, v1, v2] 28 (0, 0))) (hM : FW.heap[M]? = some (.cells #[u0, u1, u2, u3] 52 (0, 0))) :
    (results Try.f17 tmps).run Try.prog FW = .ok (.tuple #[.agg #[v0, v1, v2], .agg #[u0, u1, u2, u3]]) FW := by
  simp only [Array.getD_eq_getD_getElem?] at h2 h3
  have a0 := (box_at hN 0 (by simp)).1
  have a1 := (box_at hN 1 (by simp)).1
  have a2 := (box_at hN 2 (by simp)).1
  have c0 := (box_at hM 0 (by simp)).1
  have c1 := (box_at hM 1 (by simp)).1
  have c2 := (box_at hM 2 (by simp)).1
  have c3 := (box_at hM 3 (by simp)).1
  simp only [List.getElem_toArray, List.getElem_cons_zero, List.getElem_cons_succ] at a0 a1 a2 c0 c1 c2 c3
  simp [results, Try.results17, go_sem, h2, h3, a0, a1, a2, c0, c1, c2, c3]
theorem put7a {W : World} {N M : Nat} {a b c d e f g : Value} (hN : W.heap[N]? = some (.cells #[a, b, c] 28 (0, 0))) (hM : W.heap[M]? = some (.cells #[d, e, f, g] 52 (0, 0))) (hne : N ≠ M) (v0 v1 v2 u0 u1 u2 u3 : Value) (F : World)
    (hF : F = ((((((W.setCell ⟨N, 0, none⟩ v0).setCell ⟨N, 1, none⟩ v1).setCell ⟨N, 2, none⟩ v2).setCell ⟨M, 0, none⟩ u0).setCell ⟨M, 1, none⟩ u1).setCell ⟨M, 2, none⟩ u2).setCell ⟨M, 3, none⟩ u3 ∨ F = ((((((W.setCell ⟨M, 0, none⟩ u0).setCell ⟨M, 1, none⟩ u1).setCell ⟨M, 2, none⟩ u2).setCell ⟨M, 3, none⟩ u3).setCell ⟨N, 0, none⟩ v0).setCell ⟨N, 1, none⟩ v1).setCell ⟨N, 2, none⟩ v2) :
    F.heap[N]? = some (.cells #[v0, v1, v2] 28 (0, 0)) ∧ F.heap[M]? = some (.cells #[u0, u1, u2, u3] 52 (0, 0)) ∧ (∀ x, x ≠ N → x ≠ M → F.heap[x]? = W.heap[x]?) ∧ F.heap.size = W.heap.size ∧ (∀ (B : Nat) (w0 : World), Below B w0 W → B ≤ N → B ≤ M → Below B w0 F) := by
  have key : ∀ (V : World) (n : Nat) (i : Nat) (v : Value) (x : Nat), x ≠ n → (V.setCell ⟨n, i, none⟩ v).heap[x]? = V.heap[x]? := fun V n i v x hx => Below.heap_setCell _ _ _ _ hx
  rcases hF with rfl | rfl
  · have hM3 := (key ((W.setCell ⟨N, 0, none⟩ v0).setCell ⟨N, 1, none⟩ v1) N 2 v2 M (Ne.symm hne)).trans ((key (W.setCell ⟨N, 0, none⟩ v0) N 1 v1 M (Ne.symm hne)).trans ((key W N 0 v0 M (Ne.symm hne)).trans hM))
    have hN3 := set_box (set_box (set_box hN 0 v0) 1 v1) 2 v2
    refine ⟨?_, by simpa using set_box (set_box (set_box (set_box hM3 0 u0) 1 u1) 2 u2) 3 u3, fun x h1 h2 => ?_, by simp, fun B w0 hb h1 h2 => ?_⟩
    · rw [key _ M _ _ _ hne, key _ M _ _ _ hne, key _ M _ _ _ hne, key _ M _ _ _ hne]; simpa using hN3
    · rw [key _ M _ _ _ h2, key _ M _ _ _ h2, key _ M _ _ _ h2, key _ M _ _ _ h2, key _ N _ _ _ h1, key _ N _ _ _ h1, key _ N _ _ _ h1]
    · exact ((((((hb.setCell (p := ⟨N, 0, none⟩) h1 _).setCell (p := ⟨N, 1, none⟩) h1 _).setCell (p := ⟨N, 2, none⟩) h1 _).setCell (p := ⟨M, 0, none⟩) h2 _).setCell (p := ⟨M, 1, none⟩) h2 _).setCell (p := ⟨M, 2, none⟩) h2 _).setCell (p := ⟨M, 3, none⟩) h2 _
  · have hM3 := set_box (set_box (set_box (set_box hM 0 u0) 1 u1) 2 u2) 3 u3
    have hN3 := (key (((W.setCell ⟨M, 0, none⟩ u0).setCell ⟨M, 1, none⟩ u1).setCell ⟨M, 2, none⟩ u2) M 3 u3 N hne).trans ((key ((W.setCell ⟨M, 0, none⟩ u0).setCell ⟨M, 1, none⟩ u1) M 2 u2 N hne).trans ((key (W.setCell ⟨M, 0, none⟩ u0) M 1 u1 N hne).trans ((key W M 0 u0 N hne).trans hN)))
    refine ⟨by simpa using set_box (set_box (set_box hN3 0 v0) 1 v1) 2 v2, ?_, fun x h1 h2 => ?_, by simp, fun B w0 hb h1 h2 => ?_⟩
    · rw [key _ N _ _ _ (Ne.symm hne), key _ N _ _ _ (Ne.symm hne), key _ N _ _ _ (Ne.symm hne)]; simpa using hM3
    · rw [key _ N _ _ _ h1, key _ N _ _ _ h1, key _ N _ _ _ h1, key _ M _ _ _ h2, key _ M _ _ _ h2, key _ M _ _ _ h2, key _ M _ _ _ h2]
    · exact ((((((hb.setCell (p := ⟨M, 0, none⟩) h2 _).setCell (p := ⟨M, 1, none⟩) h2 _).setCell (p := ⟨M, 2, none⟩) h2 _).setCell (p := ⟨M, 3, none⟩) h2 _).setCell (p := ⟨N, 0, none⟩) h1 _).setCell (p := ⟨N, 1, none⟩) h1 _).setCell (p := ⟨N, 2, none⟩) h1 _
theorem drew_heap (w : World) : w.drew.heap = w.heap := rfl
theorem put7 {W : World} {N M : Nat} {a b c d e f g : Value} (hN : W.heap[N]? = some (.cells #[a, b, c] 28 (0, 0))) (hM : W.heap[M]? = some (.cells #[d, e, f, g] 52 (0, 0))) (hne : N ≠ M) (v0 v1 v2 u0 u1 u2 u3 : Value) (F G : World)
    (hF : F = ((((((W.setCell ⟨N, 0, none⟩ v0).setCell ⟨N, 1, none⟩ v1).setCell ⟨N, 2, none⟩ v2).setCell ⟨M, 0, none⟩ u0).setCell ⟨M, 1, none⟩ u1).setCell ⟨M, 2, none⟩ u2).setCell ⟨M, 3, none⟩ u3 ∨ F = ((((((W.setCell ⟨M, 0, none⟩ u0).setCell ⟨M, 1, none⟩ u1).setCell ⟨M, 2, none⟩ u2).setCell ⟨M, 3, none⟩ u3).setCell ⟨N, 0, none⟩ v0).setCell ⟨N, 1, none⟩ v1).setCell ⟨N, 2, none⟩ v2) (hG : G = F ∨ G = F.drew) :
    G.heap[N]? = some (.cells #[v0, v1, v2] 28 (0, 0)) ∧ G.heap[M]? = some (.cells #[u0, u1, u2, u3] 52 (0, 0)) ∧ (∀ x, x ≠ N → x ≠ M → G.heap[x]? = W.heap[x]?) ∧ G.heap.size = W.heap.size ∧ (∀ (B : Nat) (w0 : World), Below B w0 W → B ≤ N → B ≤ M → Below B w0 G) := by
  have h := put7a hN hM hne v0 v1 v2 u0 u1 u2 u3 F hF
  rcases hG with rfl | rfl
  · exact h
  · rw [drew_heap]
    exact ⟨h.1, h.2.1, h.2.2.1, h.2.2.2.1, fun B w0 hb h1 h2 => (h.2.2.2.2 B w0 hb h1 h2).drew⟩
end Go.Proofs.Ytdohgkokoicjlaa
namespace Go.Proofs.Ytdohgkokoicjlaa
open Go.RowKit
theorem ba_injH {a b : ByteArray} (h : a.toList = b.toList) : a = b := by
  rw [ByteArray.toList_eq, ByteArray.toList_eq] at h
  cases a; cases b
  simp only [ByteArray.mk.injEq]
  exact Array.toList_inj.1 h
def ownO (ps : List Pt) (nm n : ByteArray) : O := ⟨nm, n, (ownersM ps nm n).map fun (k : Nat) => (k : Int)⟩
def ownF (ps : List Pt) (t : T) : Nat → List O
  | 0 => []
  | k + 1 => ownF ps t k ++ [ownO ps t.name (fth t.fields k).name]
def ownT (ps : List Pt) (A : Pt) : Nat → List O
  | 0 => []
  | i + 1 => ownT ps A i ++ ownF ps (tth A.types i) (tth A.types i).fields.length
theorem ownF_len (ps : List Pt) (t : T) : ∀ k, (ownF ps t k).length = k
  | 0 => rfl
  | k + 1 => by rw [ownF, List.length_append, ownF_len ps t k]; rfl
theorem ownT_len (ps : List Pt) (A : Pt) : ∀ i, (ownT ps A i).length ≤ fcT A i
  | 0 => Nat.le_refl _
  | i + 1 => by
    have := ownT_len ps A i
    rw [ownT, List.length_append, ownF_len, fcT]
    omega
theorem ownF_mem {ps : List Pt} {t : T} {o : O} : ∀ {k : Nat}, o ∈ ownF ps t k ↔ ∃ j, j < k ∧ o = ownO ps t.name (fth t.fields j).name
  | 0 => by simp [ownF]
  | k + 1 => by
    rw [ownF, List.mem_append, ownF_mem, List.mem_singleton]
    constructor
    · rintro (⟨j, h1, h2⟩ | h)
      · exact ⟨j, by omega, h2⟩
      · exact ⟨k, by omega, h⟩
    · rintro ⟨j, h1, h2⟩
      by_cases e : j = k
      · subst e; exact Or.inr h2
      · exact Or.inl ⟨j, by omega, h2⟩
theorem ownT_mem {ps : List Pt} {A : Pt} {o : O} : ∀ {i : Nat}, o ∈ ownT ps A i ↔ ∃ k j, k < i ∧ j < (tth A.types k).fields.length ∧ o = ownO ps (tth A.types k).name (fth (tth A.types k).fields j).name
  | 0 => by simp [ownT]
  | i + 1 => by
    rw [ownT, List.mem_append, ownT_mem, ownF_mem]
    constructor
    · rintro (⟨k, j, h1, h2, h3⟩ | ⟨j, h1, h2⟩)
      · exact ⟨k, j, by omega, h2, h3⟩
      · exact ⟨i, j, by omega, h1, h2⟩
    · rintro ⟨k, j, h1, h2, h3⟩
      by_cases e : k = i
      · subst e; exact Or.inr ⟨j, h2, h3⟩
      · exact Or.inl ⟨k, j, by omega, h2, h3⟩
def chartC (ps : List Pt) : Ch := if chartB ps okP = true then ⟨allM ps, ownT ps (allM ps) (allM ps).types.length⟩ else ⟨⟨⟨#[]⟩, []⟩, []⟩
def Said (ps : List Pt) (nm n : ByteArray) : Prop := ∃ p k j, p < ps.length ∧ k < (pth ps p).types.length ∧ j < (tth (pth ps p).types k).fields.length ∧ (tth (pth ps p).types k).name = nm ∧ (fth (tth (pth ps p).types k).fields j).name = n
def TSaid (ps : List Pt) (t : T) : Prop := ∀ j, j < t.fields.length → Said ps t.name (fth t.fields j).name
def OutS (ps : List Pt) (out : List T) : Prop := ∀ i, i < out.length → TSaid ps (tth out i)
theorem putF_name (t : T) (f : F) : (putF t f).name = t.name := by unfold putF; split <;> rfl
theorem TSaid.put {ps : List Pt} {t : T} {f : F} (h : TSaid ps t) (hf : Said ps t.name f.name) : TSaid ps (putF t f) := by
  intro j hj
  rw [putF_name]
  unfold putF at hj ⊢
  by_cases e : 0 ≤ fieldIx t f.name
  · rw [if_pos e] at hj ⊢
    simp only [List.length_set] at hj
    by_cases ej : j = (fieldIx t f.name).toNat
    · subst ej
      simp only
      rw [fth_set_eq _ _ _ hj]
      exact h _ hj
    · simp only
      rw [fth_set_ne _ _ _ _ ej]
      exact h _ hj
  · rw [if_neg e] at hj ⊢
    simp only [List.length_append, List.length_singleton] at hj
    simp only
    by_cases ej : j < t.fields.length
    · rw [fth_app_lt _ _ ej]; exact h _ ej
    · have : j = t.fields.length := by omega
      subst this
      rw [fth_app]
      exact hf
theorem OutS.base {ps : List Pt} {out : List T} (h : OutS ps out) (t : T) : OutS ps (baseT ps out t) := by
  unfold baseT
  split
  · exact h
  · intro i hi j hj
    simp only [List.length_append, List.length_singleton] at hi
    by_cases e : i < out.length
    · rw [tth_app_lt _ _ e] at hj ⊢; exact h i e j hj
    · have : i = out.length := by omega
      subst this
      rw [tth_app] at hj
      simp at hj
theorem base_name (ps : List Pt) (out : List T) (t : T) : (tth (baseT ps out t) (atT out t)).name = t.name := by
  unfold baseT atT
  by_cases e : 0 ≤ tyIx out t.name
  · rw [if_pos e, if_pos e]
    have hx : tyIx out t.name = firstTo (fun i => (tth out i).name.toList == t.name.toList) out.length := rfl
    rcases firstTo_cases (fun i => (tth out i).name.toList == t.name.toList) out.length with ⟨h2, -⟩ | ⟨g, h2, hg, hq, -⟩
    · rw [hx, h2] at e; omega
    · rw [hx, h2, Int.toNat_natCast]
      exact ba_injH (by simpa using hq)
  · rw [if_neg e, if_neg e, tth_app]
theorem mid_name (ps : List Pt) (out : List T) (t : T) (n : Nat) : (tth (midT ps out t n) (atT out t)).name = t.name := by
  rw [midT_at, (putTo_name _ _ _).1]
  exact base_name ps out t
theorem OutS.mid {ps : List Pt} {out : List T} (h : OutS ps out) {t : T} (ht : TSaid ps t) : ∀ n, n ≤ t.fields.length → OutS ps (midT ps out t n)
  | 0, _ => by rw [midT_zero]; exact h.base t
  | n + 1, hn => by
    have ih := OutS.mid h ht n (by omega)
    rw [midT_succ]
    intro i hi
    rw [List.length_set] at hi
    by_cases e : i = atT out t
    · subst e
      rw [tth_set_eq _ _ _ hi]
      exact (ih _ hi).put (by rw [mid_name]; exact ht n (by omega))
    · rw [tth_set_ne _ _ _ _ e]
      exact ih i hi
theorem OutS.types {ps : List Pt} {out : List T} (h : OutS ps out) {p : Pt} (hp : OutS ps p.types) : ∀ k, k ≤ p.types.length → OutS ps (typesTo ps p out k)
  | 0, _ => h
  | k + 1, hk => by
    rw [typesTo, ← midT_step]
    exact (OutS.types h hp k (by omega)).mid (hp k (by omega)) _ (Nat.le_refl _)
theorem OutS.parts (ps : List Pt) : ∀ i, i ≤ ps.length → OutS ps (partsTo ps i)
  | 0, _ => fun i hi => absurd hi (Nat.not_lt_zero _)
  | i + 1, hi => by
    rw [partsTo]
    exact (OutS.parts ps i (by omega)).types (fun k hk j hj => ⟨i, k, j, by omega, hk, hj, rfl, rfl⟩) _ (Nat.le_refl _)
theorem allM_said (ps : List Pt) {i j : Nat} (hi : i < (allM ps).types.length) (hj : j < (tth (allM ps).types i).fields.length) : Said ps (tth (allM ps).types i).name (fth (tth (allM ps).types i).fields j).name :=
  OutS.parts ps ps.length (Nat.le_refl _) i hi j hj
theorem said_known {ps : List Pt} {okp : Pt → Bool} (h : partsOkB ps okp = true) {nm n : ByteArray} (hs : Said ps nm n) : 0 < (ownersM ps nm n).length := by
  obtain ⟨p, k, j, hp, hk, hj, rfl, rfl⟩ := hs
  simp only [partsOkB, Bool.and_eq_true] at h
  have h1 := (allTo_iff _ _).1 ((allTo_iff _ _).1 h.2 p hp) k hk
  simp only [typeOkB, Bool.and_eq_true] at h1
  have h2 := (allTo_iff _ _).1 h1.2 j hj
  have h3 : fieldCode ps (tth (pth ps p).types k).name (fth (tth (pth ps p).types k).fields j) = 0 := by simpa using h2
  apply Nat.pos_of_ne_zero
  intro h4
  unfold fieldCode at h3
  split at h3
  · omega
  · first
      | omega
      | (rw [if_pos h4] at h3; omega)
theorem ownersTo_asc (ps : List Pt) (nm n : ByteArray) : ∀ k, (ownersTo ps nm n k).Pairwise (· < ·) ∧ ∀ x ∈ ownersTo ps nm n k, x < k
  | 0 => by simp [ownersTo]
  | k + 1 => by
    obtain ⟨h1, h2⟩ := ownersTo_asc ps nm n k
    rw [ownersTo]
    split
    · refine ⟨List.pairwise_append.2 ⟨h1, by simp, fun a ha b hb => ?_⟩, fun x hx => ?_⟩
      · rw [List.mem_singleton] at hb; subst hb; exact h2 a ha
      · rw [List.mem_append, List.mem_singleton] at hx
        rcases hx with hx | hx
        · have := h2 x hx; omega
        · omega
    · rw [List.append_nil]
      exact ⟨h1, fun x hx => by have := h2 x hx; omega⟩
theorem type_once {p : Pt} (h : okP p = true) {i : Nat} (hi : i < p.types.length) : typeIx p (tth p.types i).name = (i : Int) := by
  have hx : typeIx p (tth p.types i).name = firstTo (fun k => (tth p.types k).name.toList == (tth p.types i).name.toList) p.types.length := rfl
  rcases firstTo_cases (fun k => (tth p.types k).name.toList == (tth p.types i).name.toList) p.types.length with ⟨h2, ha⟩ | ⟨g, h2, hg, hq, ha⟩
  · have := ha i hi; simp at this
  · rw [hx, h2]
    by_cases e : g = i
    · rw [e]
    · exfalso
      have hgi : g < i := by
        rcases Nat.lt_or_ge g i with h | h
        · exact h
        · have := ha i (by omega); simp at this
      have h3 := (code_names (okP_all h hi)).2.2
      simp only [twiceB, Bool.or_eq_false_iff] at h3
      have h4 := firstTo_some (q := fun k => (tth p.types k).name.toList == (tth p.types i).name.toList) hgi hq
      simp at h3
      omega
theorem own_list (ps : List Pt) (s f : ByteArray) (h : okP (allM ps) = true) : ownL (ownT ps (allM ps) (allM ps).types.length) s f = if sayB (allM ps) s f = true then (ownersM ps s f).map fun (k : Nat) => (k : Int) else [] := by
  have hit : ∀ o ∈ ownT ps (allM ps) (allM ps).types.length, o.type.toList = s.toList → o.field.toList = f.toList → o.parts = (ownersM ps s f).map fun (k : Nat) => (k : Int) := by
    intro o ho h1 h2
    obtain ⟨k, j, hk, hj, rfl⟩ := ownT_mem.1 ho
    have e1 : (tth (allM ps).types k).name = s := ba_injH h1
    have e2 : (fth (tth (allM ps).types k).fields j).name = f := ba_injH h2
    simp only [ownO, e1, e2]
  have hmem : ∀ i, i < (ownT ps (allM ps) (allM ps).types.length).length → oth (ownT ps (allM ps) (allM ps).types.length) i ∈ ownT ps (allM ps) (allM ps).types.length := fun i hi => by
    simp [oth, List.getD_eq_getElem?_getD, hi]
  cases hs : sayB (allM ps) s f
  · rw [if_neg (by simp)]
    refine ownL_none fun i hi => ?_
    cases hh : hitO (ownT ps (allM ps) (allM ps).types.length) s f i
    · rfl
    · exfalso
      simp only [hitO, Bool.and_eq_true, beq_iff_eq] at hh
      obtain ⟨k, j, hk, hj, e⟩ := ownT_mem.1 (hmem i hi)
      rw [e] at hh
      have e1 : (tth (allM ps).types k).name = s := ba_injH hh.1
      have e2 : (fth (tth (allM ps).types k).fields j).name = f := ba_injH hh.2
      have ht := type_once h hk
      rw [e1] at ht
      have hto : typeOr (allM ps) s = tth (allM ps).types k := by unfold typeOr; rw [ht]; simp
      have h3 : 0 ≤ fieldIx (typeOr (allM ps) s) f := by
        rw [hto]
        exact firstTo_some (q := fun i => (fth (tth (allM ps).types k).fields i).name.toList == f.toList) hj (by rw [e2]; simp)
      simp [sayB] at hs
      omega
  · rw [if_pos rfl]
    simp only [sayB, decide_eq_true_eq] at hs
    have hx : fieldIx (typeOr (allM ps) s) f = firstTo (fun i => (fth (typeOr (allM ps) s).fields i).name.toList == f.toList) (typeOr (allM ps) s).fields.length := rfl
    rcases firstTo_cases (fun i => (fth (typeOr (allM ps) s).fields i).name.toList == f.toList) (typeOr (allM ps) s).fields.length with ⟨h2, -⟩ | ⟨j, h2, hj, hq, -⟩
    · rw [hx, h2] at hs; omega
    have htx : 0 ≤ typeIx (allM ps) s := by
      by_cases e : 0 ≤ typeIx (allM ps) s
      · exact e
      · exfalso
        unfold typeOr at hj
        rw [if_neg e] at hj
        simp [T.zero] at hj
    have hty : typeIx (allM ps) s = firstTo (fun i => (tth (allM ps).types i).name.toList == s.toList) (allM ps).types.length := rfl
    rcases firstTo_cases (fun i => (tth (allM ps).types i).name.toList == s.toList) (allM ps).types.length with ⟨h3, -⟩ | ⟨k, h3, hk, hqk, -⟩
    · rw [hty, h3] at htx; omega
    have hto : typeOr (allM ps) s = tth (allM ps).types k := by unfold typeOr; rw [if_pos htx, hty, h3, Int.toNat_natCast]
    rw [hto] at hj hq
    have hin : ownO ps (tth (allM ps).types k).name (fth (tth (allM ps).types k).fields j).name ∈ ownT ps (allM ps) (allM ps).types.length := ownT_mem.2 ⟨k, j, hk, hj, rfl⟩
    obtain ⟨i, hi, he⟩ := List.mem_iff_getElem.1 hin
    have hio : oth (ownT ps (allM ps) (allM ps).types.length) i = ownO ps (tth (allM ps).types k).name (fth (tth (allM ps).types k).fields j).name := by
      rw [← he]; simp [oth, List.getD_eq_getElem?_getD, hi]
    have hhit : hitO (ownT ps (allM ps) (allM ps).types.length) s f i = true := by
      simp only [hitO, hio, ownO, Bool.and_eq_true]
      exact ⟨hqk, hq⟩
    cases hfd : (List.range (ownT ps (allM ps) (allM ps).types.length).length).find? (hitO (ownT ps (allM ps) (allM ps).types.length) s f) with
    | none =>
      exfalso
      rw [List.find?_eq_none] at hfd
      have := hfd i (by simpa using hi)
      rw [hhit] at this
      simp at this
    | some m =>
      have h4 := List.find?_some hfd
      have h5 := List.mem_of_find?_eq_some hfd
      rw [List.mem_range] at h5
      rw [ownL, hfd]
      simp only [hitO, Bool.and_eq_true, beq_iff_eq] at h4
      exact hit _ (hmem m h5) h4.1 h4.2
end Go.Proofs.Ytdohgkokoicjlaa
namespace Go.Proofs.Ytdohgkokoicjlaa
open Go.RowKit
def toldF (f : F) : F := ⟨f.name, f.of, f.list, f.must, f.far, f.hidden, f.shared, []⟩
def seenF (f : F) : F := ⟨f.name, f.of, f.list, f.must, false, false, false, []⟩
def toldFs (fs : List F) : Nat → List F
  | 0 => []
  | k + 1 => toldFs fs k ++ if (fth fs k).hidden = true then [] else [toldF (fth fs k)]
def seenFs (fs : List F) : Nat → List F
  | 0 => []
  | k + 1 => seenFs fs k ++ if (fth fs k).hidden = true then [] else [seenF (fth fs k)]
def seenT (t : T) : T := ⟨t.name, ⟨#[]⟩, seenFs t.fields t.fields.length⟩
def seenTs (ts : List T) : Nat → List T
  | 0 => []
  | k + 1 => seenTs ts k ++ if (seenFs (tth ts k).fields (tth ts k).fields.length).length = 0 then [] else [seenT (tth ts k)]
def seenP (p : Pt) : Pt := ⟨p.name, seenTs p.types p.types.length⟩
theorem toldFs_eq (fs : List F) : ∀ k, (∀ j, j < k → (fth fs j).far = false ∧ (fth fs j).shared = false) → toldFs fs k = seenFs fs k
  | 0, _ => rfl
  | k + 1, h => by
    rw [toldFs, seenFs, toldFs_eq fs k fun j hj => h j (by omega)]
    obtain ⟨h1, h2⟩ := h k (by omega)
    cases hh : (fth fs k).hidden
    · simp [toldF, seenF, h1, h2, hh]
    · simp
theorem seenFs_len (fs : List F) : ∀ k, (seenFs fs k).length ≤ k
  | 0 => Nat.le_refl _
  | k + 1 => by have := seenFs_len fs k; rw [seenFs, List.length_append]; split <;> simp <;> omega
theorem toldFs_len (fs : List F) : ∀ k, (toldFs fs k).length = (seenFs fs k).length
  | 0 => rfl
  | k + 1 => by rw [toldFs, seenFs, List.length_append, List.length_append, toldFs_len fs k]; split <;> simp
theorem seenTs_len (ts : List T) : ∀ k, (seenTs ts k).length ≤ k
  | 0 => Nat.le_refl _
  | k + 1 => by have := seenTs_len ts k; rw [seenTs, List.length_append]; split <;> simp <;> omega
theorem seenF_sz (f : F) : szF (seenF f) ≤ szF f := by simp [szF, seenF, szNs, sumTo]
theorem seenFs_sz (fs : List F) : ∀ k, szFs (seenFs fs k) ≤ k + szFsTo fs k
  | 0 => by simp [seenFs, szFs, szFsTo]
  | k + 1 => by
    have ih := seenFs_sz fs k
    rw [seenFs, szFsTo_succ]
    split
    · rw [List.append_nil]; omega
    · rw [szFs_snoc]; have := seenF_sz (fth fs k); omega
theorem seenT_sz (t : T) : szT (seenT t) ≤ szT t := by
  have h1 := seenFs_sz t.fields t.fields.length
  have h2 : szT t = t.name.size + t.key.size + szFs t.fields := rfl
  have h3 : szFs t.fields = t.fields.length + szFsTo t.fields t.fields.length := rfl
  have h4 : szT (seenT t) = t.name.size + (⟨#[]⟩ : ByteArray).size + szFs (seenFs t.fields t.fields.length) := rfl
  have h5 : (⟨#[]⟩ : ByteArray).size = 0 := rfl
  omega
theorem seenTs_sz (ts : List T) : ∀ k, szTs (seenTs ts k) ≤ k + szTsTo ts k
  | 0 => by simp [seenTs, szTs, szTsTo]
  | k + 1 => by
    have ih := seenTs_sz ts k
    rw [seenTs, szTsTo_succ]
    split
    · rw [List.append_nil]; omega
    · rw [szTs_snoc]; have := seenT_sz (tth ts k); omega
theorem seenP_sz (p : Pt) : szP (seenP p) ≤ szP p := by
  have h1 := seenTs_sz p.types p.types.length
  have h2 : szP p = p.name.size + (p.types.length + szTsTo p.types p.types.length) := rfl
  have h3 : szP (seenP p) = p.name.size + szTs (seenTs p.types p.types.length) := rfl
  omega
def nl (l : List UInt8) : Nat := l.countP (· == 10)
theorem nl_app (a b : List UInt8) : nl (a ++ b) = nl a + nl b := List.countP_append
theorem nl_word {s : ByteArray} (h : wordB s = true) : nl s.data.toList = 0 := by
  simp only [wordB, Bool.and_eq_true, decide_eq_true_eq] at h
  have h1 := List.all_eq_true.1 h.2
  unfold nl
  rw [List.countP_eq_zero]
  intro x hx hc
  obtain ⟨i, hi, rfl⟩ := List.mem_iff_getElem.1 hx
  have h2 := h1 i (by simpa using hi)
  have h3 : byteAt s i = 10 := by
    unfold byteAt
    rw [List.getD_eq_getElem?_getD, List.getElem?_eq_getElem hi]
    simp only [beq_iff_eq] at hc
    simp [hc]
  rw [h3] at h2
  simp [wbB, digB] at h2
theorem nl_name {s : ByteArray} (h : nameB s = true) : nl s.data.toList = 0 := by
  simp only [nameB, Bool.and_eq_true] at h
  exact nl_word (by simp [h])
theorem nl_of {s : ByteArray} (h : (scalarB s || nameB s) = true) : nl s.data.toList = 0 := by
  cases hs : scalarB s
  · rw [hs] at h; exact nl_name (by simpa using h)
  · simp only [scalarB, isT, Bool.or_eq_true, beq_iff_eq] at hs
    rw [← ByteArray.toList_eq]
    rcases hs with (hs | hs) | hs <;> rw [hs] <;> rfl
theorem nl_line {f : F} (h : fieldNamesB f = true) : nl (lineB (seenF f)).data.toList = 1 := by
  simp only [fieldNamesB, Bool.and_eq_true] at h
  have h1 := nl_name h.1.1
  have h2 := nl_of h.1.2
  have ho : nl (ofB (seenF f)).data.toList = 0 := by
    have e91 : nl (⟨#[91]⟩ : ByteArray).data.toList = 0 := rfl
    have e93 : nl (⟨#[93]⟩ : ByteArray).data.toList = 0 := rfl
    have e33 : nl (⟨#[33]⟩ : ByteArray).data.toList = 0 := rfl
    cases hm : f.must <;> cases hl : f.list <;> simp only [ofB, seenF, hm, hl, if_true, if_false, Bool.false_eq_true, append_toList, nl_app, h2, e91, e93, e33]
  have e : lineB (seenF f) = headB (seenF f) ++ ⟨#[10]⟩ := rfl
  have e2 : headB (seenF f) = ⟨#[32, 32]⟩ ++ f.name ++ ⟨#[32]⟩ ++ ofB (seenF f) := rfl
  rw [e, e2]
  simp only [append_toList, nl_app, h1, ho]
  rfl
theorem nl_fields {fs : List F} : ∀ k, (∀ j, j < k → fieldNamesB (fth fs j) = true) → nl (fieldsL (seenFs fs k) (seenFs fs k).length) = (seenFs fs k).length
  | 0, _ => rfl
  | k + 1, h => by
    have ih := nl_fields k fun j hj => h j (by omega)
    rw [seenFs]
    split
    · rw [List.append_nil]; exact ih
    · rw [List.length_append, List.length_singleton, fieldsL, nl_app, fth_snoc_eq, nl_line (h k (by omega))]
      have hfl : ∀ n, n ≤ (seenFs fs k).length → fieldsL (seenFs fs k ++ [seenF (fth fs k)]) n = fieldsL (seenFs fs k) n := by
        intro n
        induction n with
        | zero => intro _; rfl
        | succ n ihn => intro hn; rw [fieldsL, fieldsL, ihn (by omega), fth_snoc_lt _ _ _ (by omega)]
      rw [hfl _ (Nat.le_refl _), ih]
def seenN (ts : List T) : Nat → Nat
  | 0 => 1
  | k + 1 => seenN ts k + if (seenFs (tth ts k).fields (tth ts k).fields.length).length = 0 then 0 else 1 + (seenFs (tth ts k).fields (tth ts k).fields.length).length
theorem nl_type {t : T} (h : typeNamesB t = true) : nl (typeHeadL (seenT t) ++ fieldsL (seenT t).fields (seenT t).fields.length) = 1 + (seenFs t.fields t.fields.length).length := by
  simp only [typeNamesB, Bool.and_eq_true] at h
  have hf : ∀ j, j < t.fields.length → fieldNamesB (fth t.fields j) = true := fun j hj => (List.all_eq_true.1 h.2) j (by simpa using hj)
  have ek : (seenT t).key.toList.isEmpty = true := by simp [seenT, ByteArray.toList_eq]
  have e : typeHeadL (seenT t) = [116, 121, 112, 101, 32] ++ t.name.data.toList ++ [] ++ [10] := by
    unfold typeHeadL keyL
    rw [if_pos ek]
    rfl
  have e2 : (seenT t).fields = seenFs t.fields t.fields.length := rfl
  rw [nl_app, e, e2, nl_fields _ hf]
  simp only [nl_app, nl_name h.1.1.1.1]
  rfl
theorem nl_types {ts : List T} : ∀ k, (∀ j, j < k → typeNamesB (tth ts j) = true) → 1 + nl (typesL (seenTs ts k) (seenTs ts k).length) = seenN ts k
  | 0, _ => rfl
  | k + 1, h => by
    have ih := nl_types k fun j hj => h j (by omega)
    rw [seenTs, seenN]
    split
    · rw [List.append_nil]; exact ih
    · rw [List.length_append, List.length_singleton, typesL, nl_app, tth_snoc_eq, nl_type (h k (by omega))]
      have hfl : ∀ n, n ≤ (seenTs ts k).length → typesL (seenTs ts k ++ [seenT (tth ts k)]) n = typesL (seenTs ts k) n := by
        intro n
        induction n with
        | zero => intro _; rfl
        | succ n ihn => intro hn; rw [typesL, typesL, ihn (by omega), tth_snoc_lt _ _ _ (by omega)]
      rw [hfl _ (Nat.le_refl _)]
      omega
theorem okP_typeNames {p : Pt} (h : okP p = true) {i : Nat} (hi : i < p.types.length) : typeNamesB (tth p.types i) = true := by
  have h1 := okP_all h hi
  unfold typeCode at h1
  by_cases a : typeNamesB (tth p.types i) = false
  · rw [if_pos a] at h1; omega
  · simpa using a
theorem nl_told {p : Pt} (h : okP p = true) : nl (partL (seenP p)) = seenN p.types p.types.length := by
  have h1 : nameB p.name = true := by simp only [okP, Bool.and_eq_true] at h; exact h.1.1.1.2
  have h2 := nl_types p.types.length fun j hj => okP_typeNames h hj
  have e : partL (seenP p) = [112, 97, 114, 116, 32] ++ p.name.data.toList ++ [10] ++ typesL (seenTs p.types p.types.length) (seenTs p.types p.types.length).length := rfl
  rw [e, ← h2]
  simp only [nl_app, nl_name h1]
  rfl
end Go.Proofs.Ytdohgkokoicjlaa
