import Derived.Test.YtibpieomldhomaaDoorPCheck
import Derived.Test.YtibpieomldhomaaDoorIWrite
import Derived.Test.YtibpieomldhomaaDoorPRep
import Derived.Test.YtibpieomldhomaaDoorJ1
import Derived.Deep.AppendLies
import Derived.Deep.RegionLaw
import Derived.Maps.AppendAt
import Derived.Laws.OwnMore
import Derived.Test.YtibpieomldhomaaDoorJ11
import Derived.Test.YtibpieomldhomaaDoorIPCheck
import Derived.BigRegion
namespace Go.Proofs.YtibpieomldhomaaDoor
set_option linter.unusedSimpArgs false
set_option linter.unusedVariables false
open Go.RowKit Go.Maps

theorem badAt_le (p : Pt) : ∀ n k i, k ≤ i → i < k + n → typeCode p i ≠ 0 → badAt p k n ≤ i
  | 0, k, i, h1, h2, h3 => by omega
  | n + 1, k, i, h1, h2, h3 => by
    rw [badAt]
    by_cases e : typeCode p k = 0
    · rw [if_pos e]
      have : k ≠ i := fun h => h3 (h ▸ e)
      exact badAt_le p n (k + 1) i (by omega) (by omega) h3
    · rw [if_neg e]; exact h1
theorem okP_all {p : Pt} (h : okP p = true) {i : Nat} (hi : i < p.types.length) : typeCode p i = 0 := by
  by_cases e : typeCode p i = 0
  · exact e
  · have := badAt_le p p.types.length 0 i (Nat.zero_le _) (by omega) e
    have h4 : ¬ badT p < p.types.length := fun hc => by simp [okP, hc] at h
    unfold badT at h4
    omega
theorem okP_zero {p : Pt} (h : okP p = true) : 0 < p.types.length ∧ p.types.length ≤ 5 := by
  simp [okP, hasRootB] at h
  omega
theorem code_names {p : Pt} {i : Nat} (h : typeCode p i = 0) : 0 < (tth p.types i).fields.length ∧ (tth p.types i).fields.length ≤ 8 ∧ twiceB p.types i (tth p.types i) = false := by
  unfold typeCode at h
  by_cases a : typeNamesB (tth p.types i) = false
  · rw [if_pos a] at h; omega
  rw [if_neg a] at h
  by_cases b : twiceB p.types i (tth p.types i) = true
  · rw [if_pos b] at h; omega
  simp [typeNamesB] at a
  exact ⟨by omega, by omega, by simpa using b⟩
theorem firstTo_some {q : Nat → Bool} {n k : Nat} (hk : k < n) (hq : q k = true) : 0 ≤ firstTo q n := by
  rcases firstTo_cases q n with ⟨h, ha⟩ | ⟨j, h, hj, hqj, ha⟩
  · rw [ha k hk] at hq; cases hq
  · omega
theorem tth_app (a : List T) (t : T) : tth (a ++ [t]) a.length = t := by simp [tth, List.getD_eq_getElem?_getD]
theorem tth_app_lt (a : List T) (t : T) {i : Nat} (h : i < a.length) : tth (a ++ [t]) i = tth a i := by simp [tth, List.getD_eq_getElem?_getD, List.getElem?_append_left h]
theorem fth_app (a : List F) (t : F) : fth (a ++ [t]) a.length = t := by simp [fth, List.getD_eq_getElem?_getD]
theorem fth_app_lt (a : List F) (t : F) {i : Nat} (h : i < a.length) : fth (a ++ [t]) i = fth a i := by simp [fth, List.getD_eq_getElem?_getD, List.getElem?_append_left h]
/-- A type once more. -/
theorem twiceT_bad (p : Pt) (k : Nat) (hk : k < p.types.length) : (partFault ⟨p.name, p.types ++ [tth p.types k]⟩).2 ≠ 0 := fun h => by
  have hok := (partFault_ok _).1 h
  have h2 := (code_names (okP_all hok (i := p.types.length) (by simp))).2.2
  simp only [tth_app, twiceB, Bool.or_eq_false_iff] at h2
  have := firstTo_some (q := fun i => (tth (p.types ++ [tth p.types k]) i).name.toList == (tth p.types k).name.toList) hk (by simp [tth_app_lt _ _ hk])
  simp at h2
  omega
/-- A field once more. -/
theorem twiceF_bad (p : Pt) (k : Nat) (hk : k < p.types.length) (h0 : 0 < (tth p.types k).fields.length) : (partFault ⟨p.name, p.types.set k ⟨(tth p.types k).name, (tth p.types k).key, (tth p.types k).fields ++ [fth (tth p.types k).fields 0]⟩⟩).2 ≠ 0 := fun h => by
  have hok := (partFault_ok _).1 h
  have h2 := (code_names (okP_all hok (i := k) (by simpa using hk))).2.2
  have ht : tth (p.types.set k ⟨(tth p.types k).name, (tth p.types k).key, (tth p.types k).fields ++ [fth (tth p.types k).fields 0]⟩) k = ⟨(tth p.types k).name, (tth p.types k).key, (tth p.types k).fields ++ [fth (tth p.types k).fields 0]⟩ := by
    simp [tth, List.getD_eq_getElem?_getD, hk]
  simp only [ht, twiceB, Bool.or_eq_false_iff, List.length_append, List.length_cons, List.length_nil, Nat.zero_add, onceFTo_succ] at h2
  have h3 := h2.2
  have hf := firstTo_some (q := fun j => (fth ((tth p.types k).fields ++ [fth (tth p.types k).fields 0]) j).name.toList == (fth ((tth p.types k).fields ++ [fth (tth p.types k).fields 0]) (tth p.types k).fields.length).name.toList) h0 (by simp [fth_app, fth_app_lt _ _ h0])
  have : onceF ⟨(tth p.types k).name, (tth p.types k).key, (tth p.types k).fields ++ [fth (tth p.types k).fields 0]⟩ (tth p.types k).fields.length = false := by
    simp only [onceF, hf, decide_true, Bool.not_true]
  rw [this] at h3
  simp at h3
end Go.Proofs.YtibpieomldhomaaDoor

namespace Go.Proofs.YtibpieomldhomaaDoor
set_option linter.unusedSimpArgs false
set_option linter.unusedVariables false
open Go.RowKit

/-- A sum over places, one of them changed. -/
theorem sum_change (f g : Nat → Nat) (k : Nat) (h : ∀ i, i ≠ k → f i = g i) : ∀ n, k < n → ((List.range n).map f).sum + g k = ((List.range n).map g).sum + f k
  | 0, hk => absurd hk (Nat.not_lt_zero _)
  | n + 1, hk => by
    simp only [List.range_succ, List.map_append, List.map_cons, List.map_nil, List.sum_append, List.sum_cons, List.sum_nil, Nat.add_zero]
    by_cases e : k = n
    · subst e
      have : (List.range k).map f = (List.range k).map g := List.map_congr_left fun i hi => h i (by have := List.mem_range.1 hi; omega)
      rw [this]
      omega
    · have ih := sum_change f g k h n (by omega)
      have := h n (fun x => e x.symm)
      omega
theorem sum_same (f g : Nat → Nat) (n : Nat) (h : ∀ i, i < n → f i = g i) : ((List.range n).map f).sum = ((List.range n).map g).sum := by
  rw [List.map_congr_left fun i hi => h i (List.mem_range.1 hi)]
theorem ofB_ge (f : F) : f.of.size ≤ (ofB f).size := by
  unfold ofB; split <;> split <;> (first | simp only [ByteArray.size_append, sz_lit, List.size_toArray, List.length_cons, List.length_nil] | skip) <;> omega
theorem markB_ge (f : F) : f.name.size + f.of.size ≤ (markB f).size := by
  have := ofB_ge f
  unfold markB shaB hidB farB headB
  split <;> split <;> split <;> split <;> simp only [ByteArray.size_append, sz_lit, List.size_toArray, List.length_cons, List.length_nil] <;> omega
theorem lineTo_ge (f : F) : ∀ k, f.name.size + f.of.size + k + sumTo f.needs k ≤ (lineTo f k).size
  | 0 => by have := markB_ge f; simp only [lineTo, sumTo]; simp; omega
  | k + 1 => by
    have := lineTo_ge f k
    rw [lineTo, sumTo_succ]
    simp only [ByteArray.size_append, sz_lit, List.size_toArray, List.length_cons, List.length_nil]
    omega
theorem lineB_ge (f : F) : szF f + 1 ≤ (lineB f).data.toList.length := by
  have h1 := lineTo_ge f f.needs.length
  have h2 : szF f = f.name.size + f.of.size + (f.needs.length + sumTo f.needs f.needs.length) := rfl
  rw [tl, lineB, ByteArray.size_append]
  have h3 : (⟨#[10]⟩ : ByteArray).size = 1 := rfl
  omega
theorem fieldsL_ge (fs : List F) : ∀ n, szFsTo fs n + n ≤ (fieldsL fs n).length
  | 0 => by simp [fieldsL, szFsTo]
  | n + 1 => by
    have h1 := fieldsL_ge fs n
    have h2 := lineB_ge (fth fs n)
    rw [fieldsL, List.length_append, szFsTo_succ]
    omega
theorem typesL_ge (ts : List T) (hk : ∀ i, (tth ts i).key.size ≤ (keyL (tth ts i)).length) : ∀ n, szTsTo ts n + n ≤ (typesL ts n).length
  | 0 => by simp [typesL, szTsTo]
  | n + 1 => by
    have h1 := typesL_ge ts hk n
    have h3 := fieldsL_ge (tth ts n).fields (tth ts n).fields.length
    have h4 : szT (tth ts n) = (tth ts n).name.size + (tth ts n).key.size + ((tth ts n).fields.length + szFsTo (tth ts n).fields (tth ts n).fields.length) := rfl
    have h5 := hk n
    have h2 : ([116, 121, 112, 101, 32] : List UInt8).length = 5 := rfl
    have h6 : ([10] : List UInt8).length = 1 := rfl
    rw [typesL, List.length_append, List.length_append, szTsTo_succ, typeHeadL, List.length_append, List.length_append, List.length_append, tl]
    omega
theorem keyL_ge (t : T) : t.key.size ≤ (keyL t).length := by
  unfold keyL
  split
  · rename_i h
    have h0 : t.key.toList = [] := List.isEmpty_iff.1 h
    have h1 : t.key.data.toList = [] := by rw [← ByteArray.toList_eq]; exact h0
    rw [← tl, h1]
    exact Nat.le_refl _
  · rw [List.length_append, tl]; omega
theorem partL_ge (p : Pt) : szP p ≤ (partL p).length := by
  have h1 := typesL_ge p.types (fun i => keyL_ge _) p.types.length
  have h2 : szP p = p.name.size + (p.types.length + szTsTo p.types p.types.length) := rfl
  rw [partL, partHeadL, List.length_append, List.length_append, List.length_append, tl]
  omega
/-- What a good part weighs. -/
theorem okP_sz (p : Pt) (h : okP p = true) : szP p ≤ 1500 ∧ p.types.length ≤ 5 := by
  have h1 := partL_ge p
  unfold okP at h
  simp only [Bool.and_eq_true, Bool.not_eq_true', decide_eq_false_iff_not] at h
  omega
end Go.Proofs.YtibpieomldhomaaDoor

namespace Go.Proofs.YtibpieomldhomaaDoor
set_option linter.unusedSimpArgs false
set_option linter.unusedVariables false
open Go.RowKit Go.Maps

theorem fth_snoc_lt (fs : List F) (g : F) (i : Nat) (h : i < fs.length) : fth (fs ++ [g]) i = fth fs i := by
  simp [fth, List.getD_eq_getElem?_getD, List.getElem?_append_left h]
theorem fth_snoc_eq (fs : List F) (g : F) : fth (fs ++ [g]) fs.length = g := by
  simp [fth, List.getD_eq_getElem?_getD]
def flat3 (C : Nat → Nat → Value) (n : Nat) : List Value := (List.range (n * 3)).map fun j => C (j / 3) (j % 3)
theorem flat3_len (C : Nat → Nat → Value) (n : Nat) : (flat3 C n).length = n * 3 := by simp [flat3]
theorem flat3_at (C : Nat → Nat → Value) (n i j : Nat) (hi : i < n) (hj : j < 3) : (flat3 C n)[i * 3 + j]? = some (C i j) := by
  have h1 : i * 3 + j < n * 3 := by omega
  have h2 : (i * 3 + j) / 3 = i := by omega
  have h3 : (i * 3 + j) % 3 = j := by omega
  simp [flat3, h1, h2, h3]
/-- A list is these cells. -/
theorem flat3_of {L : List Value} {C : Nat → Nat → Value} {n : Nat} (hl : L.length = n * 3) (h : ∀ i, i < n → ∀ j, j < 3 → L[i * 3 + j]? = some (C i j)) : L = flat3 C n := by
  apply List.ext_getElem?
  intro x
  by_cases hx : x < n * 3
  · have e : x / 3 * 3 + x % 3 = x := by omega
    have h1 := h (x / 3) (by omega) (x % 3) (Nat.mod_lt _ (by omega))
    have h2 := flat3_at C n (x / 3) (x % 3) (by omega) (Nat.mod_lt _ (by omega))
    rw [e] at h1 h2
    rw [h1, h2]
  · rw [List.getElem?_eq_none (by omega), List.getElem?_eq_none (by rw [flat3_len]; omega)]
theorem flat3_set (C : Nat → Nat → Value) (n i : Nat) (hi : i < n) (d : Nat → Value) :
    (((flat3 C n).set (i * 3) (d 0)).set (i * 3 + 1) (d 1)).set (i * 3 + 2) (d 2) = flat3 (fun a j => if a = i then d j else C a j) n := by
  apply flat3_of
  · simp [flat3_len]
  · intro a ha j hj
    have h0 := flat3_at C n a j ha hj
    by_cases e : a = i
    · subst e
      rw [if_pos rfl]
      have hlen : (flat3 C n).length = n * 3 := flat3_len C n
      rcases j with _ | _ | _ | j
      · rw [List.getElem?_set_ne (by omega), List.getElem?_set_ne (by omega), Nat.add_zero, List.getElem?_set_self (by omega)]
      · rw [List.getElem?_set_ne (by omega), List.getElem?_set_self (by simp [hlen]; omega)]
      · rw [List.getElem?_set_self (by simp [hlen]; omega)]
      · omega
    · rw [if_neg e, List.getElem?_set_ne (by omega), List.getElem?_set_ne (by omega), List.getElem?_set_ne (by omega), h0]
theorem flat3_push (C : Nat → Nat → Value) (n : Nat) (d0 d1 d2 : Value) : flat3 C n ++ [d0, d1, d2] = flat3 (fun a j => if a < n then C a j else [d0, d1, d2].getD j undef) (n + 1) := by
  apply flat3_of
  · simp [flat3_len]; omega
  · intro a ha j hj
    by_cases e : a < n
    · rw [if_pos e, List.getElem?_append_left (by rw [flat3_len]; omega), flat3_at _ _ _ _ e hj]
    · have : a = n := by omega
      subst this
      rw [if_neg e, List.getElem?_append_right (by rw [flat3_len]; omega), flat3_len, Nat.add_sub_cancel_left]
      rcases j with _ | _ | _ | j
      all_goals first | rfl | omega
theorem tth_set_ne (ts : List T) (g : T) (k i : Nat) (h : i ≠ k) : tth (ts.set k g) i = tth ts i := by
  simp [tth, List.getD_eq_getElem?_getD, List.getElem?_set_ne (Ne.symm h)]
theorem tth_set_eq (ts : List T) (g : T) (k : Nat) (h : k < ts.length) : tth (ts.set k g) k = g := by
  simp [tth, List.getD_eq_getElem?_getD, List.getElem?_set_self h]
theorem tth_snoc_lt (ts : List T) (g : T) (i : Nat) (h : i < ts.length) : tth (ts ++ [g]) i = tth ts i := by
  simp [tth, List.getD_eq_getElem?_getD, List.getElem?_append_left h]
theorem tth_snoc_eq (ts : List T) (g : T) : tth (ts ++ [g]) ts.length = g := by
  simp [tth, List.getD_eq_getElem?_getD]
end Go.Proofs.YtibpieomldhomaaDoor

namespace Go.Proofs.YtibpieomldhomaaDoor
set_option linter.unusedSimpArgs false
set_option linter.unusedVariables false
open Go.RowKit

theorem owns_keep' {w w' : World} {base e sz n : Nat} {v : Value} {xs : List Value} (h : w.ownsRow base e sz v n xs) (hb : Below w.heap.size w w') : w'.ownsRow base e sz v n xs := by
  refine ⟨h.1, h.2.imp id ?_⟩
  rintro ⟨g, cap, cur, rfl, hg, hh, hr⟩
  exact ⟨g, cap, cur, rfl, hg, (hb.block g (Array.getElem?_eq_some_iff.1 hh).1).trans hh, hr⟩
theorem owns_at {w w' : World} {base e sz n : Nat} {v : Value} {xs : List Value} (h : w.ownsRow base e sz v n xs) (hb : ∀ k, v.ownBlock = some k → w'.heap[k]? = w.heap[k]?) : w'.ownsRow base e sz v n xs := by
  refine ⟨h.1, h.2.imp id ?_⟩
  rintro ⟨g, cap, cur, rfl, hg, hh, hr⟩
  exact ⟨g, cap, cur, rfl, hg, (hb g rfl).trans hh, hr⟩
end Go.Proofs.YtibpieomldhomaaDoor

namespace Go.Proofs.YtibpieomldhomaaDoor
set_option linter.unusedSimpArgs false
set_option linter.unusedVariables false
open Go.RowKit Go.Maps

/-- A list of so many elements lies where a slice says. -/
def LiesAt (w : World) (xa : Option Addr) (m : Nat) (news : List Value) : Prop := 0 < m → ∃ ad, xa = some ad ∧ ∀ j u, news[j]? = some u → w.cell? (ad.add j) = some u
theorem run_append_none {P : Program} (w : World) (t ty e : TypeId) (i : TypeInfo) (ht : P.underlying t = some (.slice e)) (hi : P.info? e = some i) (g n cap c : Nat) (hn : n ≤ cap) :
    (Builtin.append_ #[t, t] ty #[.slice (some ⟨g, 0, none⟩) n cap, .slice none 0 c]).run P w = .ok (.slice (some ⟨g, 0, none⟩) n cap) w := by
  simp [Builtin.append_, run_underlying ht, sizeOf, typeInfo, hi, Builtin.lenOf, Builtin.firstCells, hn, storeCells]
/-- What append leaves. -/
theorem run_append_all {P : Program} {w : World} (base : Nat) (t ty e : TypeId) (i : TypeInfo) (z : Value) (size bytes : Nat) (ht : P.underlying t = some (.slice e)) (hi : P.info? e = some i) (hz : i.zero = some z)
    (hsize : i.size = size) (hby : i.bytes = bytes) (hzs : z.cells.size = size) (hsz : 0 < size)
    (g n cap : Nat) (xs : List Value) (hown : w.ownsRow base e size (.slice (some ⟨g, 0, none⟩) n cap) n xs)
    (xa : Option Addr) (m c : Nat) (news : List Value) (hl : news.length = m * size) (hnews : LiesAt w xa m news) (h1 : ∀ u ∈ news, u.oneCell' = true)
    (h63 : n + m ≤ maxLen) (hbytes : (n + m) * bytes ≤ 140737488355328) (hbase : base ≤ w.heap.size) :
    ∃ g' cap' w', (Builtin.append_ #[t, t] ty #[.slice (some ⟨g, 0, none⟩) n cap, .slice xa m c]).run P w = .ok (.slice (some ⟨g', 0, none⟩) (n + m) cap') w' ∧ w'.ownsRow base e size (.slice (some ⟨g', 0, none⟩) (n + m) cap') (n + m) (xs ++ news) ∧ w.grownBy w' (some g) ∧ (g' = g ∨ g' = w.heap.size) := by
  have hnc : n ≤ cap := by
    rcases hown.2 with ⟨h', _⟩ | ⟨g', cap', cur, h', _, _, hn, _⟩
    · simp at h'
    · simp only [Value.slice.injEq, true_and] at h'
      obtain ⟨-, rfl⟩ := h'
      exact hn
  rcases xa with _ | ad
  · have hm : m = 0 := by
      rcases Nat.eq_zero_or_pos m with h | h
      · exact h
      · obtain ⟨ad, e, -⟩ := hnews h
        cases e
    subst hm
    have hnil : news = [] := List.length_eq_zero_iff.1 (by simpa using hl)
    subst hnil
    exact ⟨g, cap, w, run_append_none w t ty e i ht hi g n cap c hnc, by simpa using hown, ⟨rfl, rfl, rfl, Nat.le_refl _, fun _ _ _ => rfl⟩, Or.inl rfl⟩
  · have hn2 : ∀ j u, news[j]? = some u → w.cell? (ad.add j) = some u := fun j u hu => by
      rcases Nat.eq_zero_or_pos m with h | h
      · subst h
        have hnil : news = [] := List.length_eq_zero_iff.1 (by simpa using hl)
        rw [hnil] at hu
        simp at hu
      · obtain ⟨ad', e, h2⟩ := hnews h
        cases e
        exact h2 j u hu
    obtain ⟨v', w', hrun, h2, h3, -, h5⟩ := run_append_own_at (P := P) w base t ty e i z size bytes ht hi hz hsize hby hzs hsz _ n xs hown ad m c news hl hn2 h1 h63 hbytes hbase
    rcases h2.2 with ⟨h', _⟩ | ⟨g', cap', cur, hv, -⟩
    · rw [h'] at h5; simp [Value.ownBlock] at h5
    · subst hv
      refine ⟨g', cap', w', hrun, h2, h3, ?_⟩
      simpa [Value.ownBlock] using h5
/-- The same at a step of a region that draws. -/
theorem step_append_all {P : Program} {w : World} {ops : Array Oper} {o : Oper} {a : Act} {K : Act → World → Prop} {Q : Exit → Act → World → Prop} {E : Prop} (hgd : o.guard = none) (s x : Operand) (t : TypeId)
    (ho : o.op = .call { callee := .builtin .append, args := #[s, x], argTypes := #[t, t] })
    (base : Nat) (e : TypeId) (i : TypeInfo) (z : Value) (size bytes : Nat) (ht : P.underlying t = some (.slice e)) (hi : P.info? e = some i) (hz : i.zero = some z)
    (hsize : i.size = size) (hby : i.bytes = bytes) (hzs : z.cells.size = size) (hsz : 0 < size)
    (g n cap : Nat) (xs : List Value) (hs : a.eval s = .slice (some ⟨g, 0, none⟩) n cap) (hown : w.ownsRow base e size (.slice (some ⟨g, 0, none⟩) n cap) n xs)
    (xa : Option Addr) (m c : Nat) (news : List Value) (hx : a.eval x = .slice xa m c) (hl : news.length = m * size) (hnews : LiesAt w xa m news) (h1 : ∀ u ∈ news, u.oneCell' = true)
    (h63 : n + m ≤ maxLen) (hbytes : (n + m) * bytes ≤ 140737488355328) (hbase : base ≤ w.heap.size)
    (h : ∀ g' cap' w', w'.ownsRow base e size (.slice (some ⟨g', 0, none⟩) (n + m) cap') (n + m) (xs ++ news) → w.grownBy w' (some g) → (g' = g ∨ g' = w.heap.size) → K (a.put o.dst (.slice (some ⟨g', 0, none⟩) (n + m) cap')) w') :
    if Region.wanted o (yielded ops a.tmps) = true then Oper.wp P o a w K Q else E := by
  have hw : Region.wanted o (yielded ops a.tmps) = true := by simp [Region.wanted, hgd]
  rw [if_pos hw]
  obtain ⟨g', cap', w', hrun, h2, h3, h4⟩ := run_append_all (P := P) (w := w) base t o.type e i z size bytes ht hi hz hsize hby hzs hsz g n cap xs hown xa m c news hl hnews h1 h63 hbytes hbase
  unfold Oper.wp execOp
  simp only [ho, resolve, invoke, builtin, Sem.run_bind, Sem.run_pure, Result.andThen_ok, List.map_toArray, List.map_cons, List.map_nil, hs, hx, hrun]
  exact h g' cap' w' h2 h3 h4
/-- The same in a region that does not draw. -/
theorem wpList_append_all {P : Program} {w : World} {ops : Array Oper} {rest : List Oper} {o : Oper} {a : Act} {Q : Exit → Act → World → Prop} (hgd : o.guard = none) (s x : Operand) (t : TypeId)
    (ho : o.op = .call { callee := .builtin .append, args := #[s, x], argTypes := #[t, t] })
    (base : Nat) (e : TypeId) (i : TypeInfo) (z : Value) (size bytes : Nat) (ht : P.underlying t = some (.slice e)) (hi : P.info? e = some i) (hz : i.zero = some z)
    (hsize : i.size = size) (hby : i.bytes = bytes) (hzs : z.cells.size = size) (hsz : 0 < size)
    (g n cap : Nat) (xs : List Value) (hs : a.eval s = .slice (some ⟨g, 0, none⟩) n cap) (hown : w.ownsRow base e size (.slice (some ⟨g, 0, none⟩) n cap) n xs)
    (xa : Option Addr) (m c : Nat) (news : List Value) (hx : a.eval x = .slice xa m c) (hl : news.length = m * size) (hnews : LiesAt w xa m news) (h1 : ∀ u ∈ news, u.oneCell' = true)
    (h63 : n + m ≤ maxLen) (hbytes : (n + m) * bytes ≤ 140737488355328) (hbase : base ≤ w.heap.size)
    (h : ∀ g' cap' w', w'.ownsRow base e size (.slice (some ⟨g', 0, none⟩) (n + m) cap') (n + m) (xs ++ news) → w.grownBy w' (some g) → (g' = g ∨ g' = w.heap.size) → wpList P ops Q rest (a.put o.dst (.slice (some ⟨g', 0, none⟩) (n + m) cap')) w') :
    wpList P ops Q (o :: rest) a w := by
  obtain ⟨g', cap', w', hrun, h2, h3, h4⟩ := run_append_all (P := P) (w := w) base t o.type e i z size bytes ht hi hz hsize hby hzs hsz g n cap xs hown xa m c news hl hnews h1 h63 hbytes hbase
  refine wpList_plain hgd fun K hK => ?_
  unfold Oper.wp
  simp [execOp, ho, resolve, invoke, builtin, hs, hx, hrun, Result.andThen]
  exact hK _ _ (h g' cap' w' h2 h3 h4)

/-- Fields' cells, one behind the other. -/
def flat8 (C : Nat → Nat → Value) (n : Nat) : List Value := (List.range (n * 8)).map fun j => C (j / 8) (j % 8)
theorem flat8_len (C : Nat → Nat → Value) (n : Nat) : (flat8 C n).length = n * 8 := by simp [flat8]
theorem flat8_at (C : Nat → Nat → Value) (n i j : Nat) (hi : i < n) (hj : j < 8) : (flat8 C n)[i * 8 + j]? = some (C i j) := by
  have h1 : i * 8 + j < n * 8 := by omega
  have h2 : (i * 8 + j) / 8 = i := by omega
  have h3 : (i * 8 + j) % 8 = j := by omega
  simp [flat8, h1, h2, h3]
theorem flat8_one {w : World} {P : Nat → Prop} {fs : List F} {C : Nat → Nat → Value} (hr : ∀ i, i < fs.length → FRep w P (fth fs i) (.agg #[C i 0, C i 1, C i 2, C i 3, C i 4, C i 5, C i 6, C i 7])) : ∀ u ∈ flat8 C fs.length, u.oneCell' = true := by
  intro u hu
  simp only [flat8, List.mem_map, List.mem_range] at hu
  obtain ⟨j, hj, rfl⟩ := hu
  obtain ⟨na, nc, e, -⟩ := hr (j / 8) (by omega)
  simp only [Value.agg.injEq, Array.mk.injEq, List.cons.injEq, and_true] at e
  obtain ⟨e0, e1, e2, e3, e4, e5, e6, e7⟩ := e
  have hm : j % 8 < 8 := Nat.mod_lt _ (by omega)
  generalize j % 8 = q at *
  rcases q with _ | _ | _ | _ | _ | _ | _ | _ | q
  · simp only [e0]; rfl
  · simp only [Nat.zero_add, e1]; rfl
  · simp only [Nat.zero_add, Nat.reduceAdd, e2]; rfl
  · simp only [Nat.zero_add, Nat.reduceAdd, e3]; rfl
  · simp only [Nat.zero_add, Nat.reduceAdd, e4]; rfl
  · simp only [Nat.zero_add, Nat.reduceAdd, e5]; rfl
  · simp only [Nat.zero_add, Nat.reduceAdd, e6]; rfl
  · simp only [Nat.zero_add, Nat.reduceAdd, e7]; rfl
  · omega
theorem flat8_lies {w : World} {P : Nat → Prop} {n : Nat} {a : Option Addr} {C : Nat → Nat → Value} (h : Arr w P 8 n a C) : LiesAt w a n (flat8 C n) := fun hn => by
  obtain ⟨b, off, e, -, hc⟩ := h hn
  refine ⟨_, e, fun j u hu => ?_⟩
  have hj : j < n * 8 := by
    have := (List.getElem?_eq_some_iff.1 hu).1
    rw [flat8_len] at this
    exact this
  have h1 := hc (j / 8) (by omega) (j % 8) (Nat.mod_lt _ (by omega))
  rw [Addr.add_lit]
  have e2 : off + j / 8 * 8 + j % 8 = off + j := by omega
  rw [e2] at h1
  rw [h1]
  have e3 : (flat8 C n)[j]? = some (C (j / 8) (j % 8)) := by simp [flat8, hj]
  rw [e3] at hu
  exact hu
theorem strs_lies {w : World} {P : Nat → Prop} {ns : List ByteArray} {a : Option Addr} (h : Strs w P ns a) : LiesAt w a ns.length (ns.map Value.string) := fun hn => by
  obtain ⟨b, off, e, -, hc⟩ := h.1 (List.length_pos_iff.1 hn)
  refine ⟨_, e, fun j u hu => ?_⟩
  rw [List.getElem?_map] at hu
  obtain ⟨s, hs, rfl⟩ := Option.map_eq_some_iff.1 hu
  obtain ⟨hj, rfl⟩ := List.getElem?_eq_some_iff.1 hs
  rw [Addr.add_lit, hc j hj]
  simp [nth, List.getD_eq_getElem?_getD, hj]
theorem strs_one (ns : List ByteArray) : ∀ u ∈ ns.map Value.string, u.oneCell' = true := by
  intro u hu
  simp at hu
  obtain ⟨x, -, rfl⟩ := hu
  rfl
/-- A row of the call's own, as texts. -/
theorem rowStrs {w : World} {base g n cap : Nat} {ns : List ByteArray} (h : w.ownsRow base 9 1 (.slice (some ⟨g, 0, none⟩) ns.length cap) ns.length (ns.map Value.string)) (hs : ∀ i, (nth ns i).size ≤ maxLen) (hl : ns.length ≤ maxLen) : Strs w (fun b => base ≤ b ∧ b < w.heap.size) ns (some ⟨g, 0, none⟩) :=
  ⟨fun _ => ⟨g, 0, rfl, h.lt g rfl, fun i hi => by
    rw [Nat.zero_add, h.cellAt i (by omega), List.getElem?_map]
    simp [nth, List.getD_eq_getElem?_getD, hi]⟩, hs, hl⟩
end Go.Proofs.YtibpieomldhomaaDoor

namespace Go.Proofs.YtibpieomldhomaaDoor
set_option linter.unusedSimpArgs false
set_option linter.unusedVariables false
open Go.RowKit Go.Maps

theorem flat3_lies {w : World} {P : Nat → Prop} {n : Nat} {a : Option Addr} {C : Nat → Nat → Value} (h : Arr w P 3 n a C) : LiesAt w a n (flat3 C n) := fun hn => by
  obtain ⟨b, off, e, -, hc⟩ := h hn
  refine ⟨_, e, fun j u hu => ?_⟩
  have hj : j < n * 3 := by
    have := (List.getElem?_eq_some_iff.1 hu).1
    rw [flat3_len] at this
    exact this
  have h1 := hc (j / 3) (by omega) (j % 3) (Nat.mod_lt _ (by omega))
  rw [Addr.add_lit]
  have e2 : off + j / 3 * 3 + j % 3 = off + j := by omega
  rw [e2] at h1
  rw [h1]
  have e3 : (flat3 C n)[j]? = some (C (j / 3) (j % 3)) := by simp [flat3, hj]
  rw [e3] at hu
  exact hu
theorem flat3_one {w : World} {P : Nat → Prop} {ts : List T} {C : Nat → Nat → Value} (hr : ∀ i, i < ts.length → TRep w P (tth ts i) (.agg #[C i 0, C i 1, C i 2])) : ∀ u ∈ flat3 C ts.length, u.oneCell' = true := by
  intro u hu
  simp only [flat3, List.mem_map, List.mem_range] at hu
  obtain ⟨j, hj, rfl⟩ := hu
  obtain ⟨fa, fc, e, -⟩ := hr (j / 3) (by omega)
  simp only [Value.agg.injEq, Array.mk.injEq, List.cons.injEq, and_true] at e
  obtain ⟨e0, e1, e2⟩ := e
  have hm : j % 3 < 3 := Nat.mod_lt _ (by omega)
  generalize j % 3 = q at *
  rcases q with _ | _ | _ | q
  · simp only [e0]; rfl
  · simp only [Nat.zero_add, e1]; rfl
  · simp only [Nat.zero_add, Nat.reduceAdd, e2]; rfl
  · omega
theorem owns_cap {w : World} {base e sz g n cap : Nat} {xs : List Value} (h : w.ownsRow base e sz (.slice (some ⟨g, 0, none⟩) n cap) n xs) : n ≤ cap := by
  rcases h.2 with ⟨h', _⟩ | ⟨g', cap', cur, h', _, _, hn, _⟩
  · simp at h'
  · simp only [Value.slice.injEq, true_and] at h'
    obtain ⟨-, rfl⟩ := h'
    exact hn
/-- Types in a row, as a list of types. -/
theorem rowTs {w : World} {P : Nat → Prop} {base g cap : Nat} {ts : List T} {C : Nat → Nat → Value}
    (hr : ∀ i, i < ts.length → TRep w P (tth ts i) (.agg #[C i 0, C i 1, C i 2]))
    (h : w.ownsRow base 33 3 (.slice (some ⟨g, 0, none⟩) ts.length cap) ts.length (flat3 C ts.length)) (hl : ts.length ≤ 1000000000) :
    TsRep w (fun b => P b ∨ (base ≤ b ∧ b < w.heap.size)) ts (some ⟨g, 0, none⟩) :=
  ⟨by omega, C, fun _ => ⟨g, 0, rfl, Or.inr (h.lt g rfl), fun i hi j hj => by
    rw [Nat.zero_add, h.cellAt (i * 3 + j) (by omega), flat3_at _ _ _ _ hi hj]⟩, fun i hi => (hr i hi).sub fun b hb => Or.inl hb⟩
/-- Fields in a row, as a list of fields. -/
theorem rowFs2 {w : World} {P : Nat → Prop} {base g cap : Nat} {fs : List F} {C : Nat → Nat → Value}
    (hr : ∀ i, i < fs.length → FRep w P (fth fs i) (.agg #[C i 0, C i 1, C i 2, C i 3, C i 4, C i 5, C i 6, C i 7]))
    (h : w.ownsRow base 36 8 (.slice (some ⟨g, 0, none⟩) fs.length cap) fs.length (flat8 C fs.length)) (hl : fs.length ≤ 1000000000) :
    FsRep w (fun b => P b ∨ (base ≤ b ∧ b < w.heap.size)) fs (some ⟨g, 0, none⟩) :=
  ⟨by omega, C, fun _ => ⟨g, 0, rfl, Or.inr (h.lt g rfl), fun i hi j hj => by
    rw [Nat.zero_add, h.cellAt (i * 8 + j) (by omega), flat8_at _ _ _ _ hi hj]⟩, fun i hi => (hr i hi).sub fun b hb => Or.inl hb⟩
theorem flat8_of {L : List Value} {C : Nat → Nat → Value} {n : Nat} (hl : L.length = n * 8) (h : ∀ i, i < n → ∀ j, j < 8 → L[i * 8 + j]? = some (C i j)) : L = flat8 C n := by
  apply List.ext_getElem?
  intro x
  by_cases hx : x < n * 8
  · have e : x / 8 * 8 + x % 8 = x := by omega
    have h1 := h (x / 8) (by omega) (x % 8) (Nat.mod_lt _ (by omega))
    have h2 := flat8_at C n (x / 8) (x % 8) (by omega) (Nat.mod_lt _ (by omega))
    rw [e] at h1 h2
    rw [h1, h2]
  · rw [List.getElem?_eq_none (by omega), List.getElem?_eq_none (by rw [flat8_len]; omega)]
/-- The cells of a list with one of its elements once more. -/
def again (C : Nat → Nat → Value) (n k : Nat) : Nat → Nat → Value := fun i j => if i < n then C i j else C k j
theorem flat3_again (C : Nat → Nat → Value) (n k : Nat) : flat3 C n ++ [C k 0, C k 1, C k 2] = flat3 (again C n k) (n + 1) := by
  rw [flat3_push]
  apply flat3_of (flat3_len _ _)
  intro i hi j hj
  rw [flat3_at _ _ _ _ hi hj]
  unfold again
  by_cases e : i < n
  · simp only [if_pos e]
  · simp only [if_neg e]
    rcases j with _ | _ | _ | j
    all_goals first | rfl | omega
theorem flat8_again (C : Nat → Nat → Value) (n k : Nat) : flat8 C n ++ [C k 0, C k 1, C k 2, C k 3, C k 4, C k 5, C k 6, C k 7] = flat8 (again C n k) (n + 1) := by
  apply flat8_of (by simp [flat8_len]; omega)
  intro i hi j hj
  unfold again
  by_cases e : i < n
  · simp only [if_pos e]
    rw [List.getElem?_append_left (by rw [flat8_len]; omega), flat8_at _ _ _ _ e hj]
  · have : i = n := by omega
    subst this
    simp only [if_neg e]
    rw [List.getElem?_append_right (by rw [flat8_len]; omega), flat8_len, Nat.add_sub_cancel_left]
    rcases j with _ | _ | _ | _ | _ | _ | _ | _ | j
    all_goals first | rfl | omega
/-- The cells of types with the fields of one replaced. -/
def other (C : Nat → Nat → Value) (k : Nat) (v : Value) : Nat → Nat → Value := fun i j => if i = k ∧ j = 2 then v else C i j
theorem flat3_other (C : Nat → Nat → Value) (n k : Nat) (v : Value) (hk : k < n) : (flat3 C n).set (k * 3 + 2) v = flat3 (other C k v) n := by
  apply flat3_of (by simp [flat3_len])
  intro i hi j hj
  have h0 := flat3_at C n i j hi hj
  unfold other
  by_cases e : i = k ∧ j = 2
  · obtain ⟨rfl, rfl⟩ := e
    rw [if_pos ⟨rfl, rfl⟩, List.getElem?_set_self (by rw [flat3_len]; omega)]
  · rw [if_neg e, List.getElem?_set_ne (by omega), h0]
/-- A part and one of its types once more. -/
theorem againT {w : World} {P : Nat → Prop} {base g cap k : Nat} {s : ByteArray} {ts : List T} {C : Nat → Nat → Value} (hk : k < ts.length) (hs : s.size ≤ maxLen)
    (hr : ∀ i, i < ts.length → TRep w P (tth ts i) (.agg #[C i 0, C i 1, C i 2]))
    (h : w.ownsRow base 33 3 (.slice (some ⟨g, 0, none⟩) (ts.length + 1) cap) (ts.length + 1) (flat3 C ts.length ++ [C k 0, C k 1, C k 2])) (hl : ts.length ≤ 1000000) (hc : ts.length + 1 ≤ cap) :
    PRep w (fun b => P b ∨ (base ≤ b ∧ b < w.heap.size)) ⟨s, ts ++ [tth ts k]⟩ (.agg #[.string s, .slice (some ⟨g, 0, none⟩) (ts.length + 1) cap]) := by
  have hl2 : (ts ++ [tth ts k]).length = ts.length + 1 := by simp
  refine ⟨some ⟨g, 0, none⟩, cap, by rw [hl2], ?_, by rw [hl2]; exact hc, hs⟩
  rw [flat3_again, ← hl2] at h
  refine rowTs (C := again C ts.length k) (fun i hi => ?_) h (by rw [hl2]; omega)
  rw [hl2] at hi
  unfold again
  by_cases e : i < ts.length
  · simp only [if_pos e]
    rw [tth_app_lt _ _ e]
    exact hr i e
  · have : i = ts.length := by omega
    subst this
    simp only [if_neg e]
    rw [tth_app]
    exact hr k hk
theorem againF {w : World} {P : Nat → Prop} {base g cap k : Nat} {fs : List F} {C : Nat → Nat → Value} (hk : k < fs.length)
    (hr : ∀ i, i < fs.length → FRep w P (fth fs i) (.agg #[C i 0, C i 1, C i 2, C i 3, C i 4, C i 5, C i 6, C i 7]))
    (h : w.ownsRow base 36 8 (.slice (some ⟨g, 0, none⟩) (fs.length + 1) cap) (fs.length + 1) (flat8 C fs.length ++ [C k 0, C k 1, C k 2, C k 3, C k 4, C k 5, C k 6, C k 7])) (hl : fs.length ≤ 1000000) :
    FsRep w (fun b => P b ∨ (base ≤ b ∧ b < w.heap.size)) (fs ++ [fth fs k]) (some ⟨g, 0, none⟩) := by
  have hl2 : (fs ++ [fth fs k]).length = fs.length + 1 := by simp
  rw [flat8_again, ← hl2] at h
  refine rowFs2 (C := again C fs.length k) (fun i hi => ?_) h (by rw [hl2]; omega)
  rw [hl2] at hi
  unfold again
  by_cases e : i < fs.length
  · simp only [if_pos e]
    rw [fth_app_lt _ _ e]
    exact hr i e
  · have : i = fs.length := by omega
    subst this
    simp only [if_neg e]
    rw [fth_app]
    exact hr k hk
/-- A part, the fields of one of its types replaced. -/
theorem otherT {w : World} {P Q : Nat → Prop} {base g cap k gF capF : Nat} {s : ByteArray} {ts : List T} {C : Nat → Nat → Value} {fs : List F} (hk : k < ts.length) (hs : s.size ≤ maxLen) (hPQ : ∀ b, P b → Q b)
    (hr : ∀ i, i < ts.length → TRep w P (tth ts i) (.agg #[C i 0, C i 1, C i 2])) (hf : FsRep w Q fs (some ⟨gF, 0, none⟩)) (hcF : fs.length ≤ capF)
    (h : w.ownsRow base 33 3 (.slice (some ⟨g, 0, none⟩) ts.length cap) ts.length ((flat3 C ts.length).set (k * 3 + 2) (.slice (some ⟨gF, 0, none⟩) fs.length capF))) (hl : ts.length ≤ 1000000) (hc : ts.length ≤ cap) :
    PRep w (fun b => Q b ∨ (base ≤ b ∧ b < w.heap.size)) ⟨s, ts.set k ⟨(tth ts k).name, (tth ts k).key, fs⟩⟩ (.agg #[.string s, .slice (some ⟨g, 0, none⟩) ts.length cap]) := by
  have hl2 : (ts.set k ⟨(tth ts k).name, (tth ts k).key, fs⟩).length = ts.length := by simp
  refine ⟨some ⟨g, 0, none⟩, cap, by rw [hl2], ?_, by rw [hl2]; exact hc, hs⟩
  rw [flat3_other _ _ _ _ hk, ← hl2] at h
  refine rowTs (C := other C k (.slice (some ⟨gF, 0, none⟩) fs.length capF)) (fun i hi => ?_) h (by rw [hl2]; omega)
  rw [hl2] at hi
  unfold other
  by_cases e : i = k
  · subst e
    rw [tth_set_eq _ _ _ hk]
    obtain ⟨fa, fc, e1, h1, h2, h3, h4⟩ := hr i hk
    simp only [Value.agg.injEq, Array.mk.injEq, List.cons.injEq, and_true] at e1
    obtain ⟨e0, e1, e2⟩ := e1
    refine ⟨_, capF, ?_, hf, hcF, h3, h4⟩
    simp [e0, e1]
  · rw [tth_set_ne _ _ _ _ e]
    simp only [e, false_and, if_false]
    exact (hr i hi).sub hPQ
theorem szTsTo_le (ts : List T) (k n : Nat) (hk : k < n) : szT (tth ts k) ≤ szTsTo ts n := by
  induction n with
  | zero => omega
  | succ n ih =>
    rw [szTsTo_succ]
    by_cases e : k = n
    · subst e; omega
    · have := ih (by omega); omega
theorem szFsTo_le (fs : List F) (k n : Nat) (hk : k < n) : szF (fth fs k) ≤ szFsTo fs n := by
  induction n with
  | zero => omega
  | succ n ih =>
    rw [szFsTo_succ]
    by_cases e : k = n
    · subst e; omega
    · have := ih (by omega); omega
/-- What the two weigh. -/
theorem againT_sz (p : Pt) (h : okP p = true) (k : Nat) (hk : k < p.types.length) : szP ⟨p.name, p.types ++ [tth p.types k]⟩ ≤ 1048576 := by
  have h1 := (okP_sz p h).1
  have h2 : szP p = p.name.size + (p.types.length + szTsTo p.types p.types.length) := rfl
  have h3 := szTsTo_le p.types k p.types.length hk
  have h4 : szP ⟨p.name, p.types ++ [tth p.types k]⟩ = p.name.size + ((p.types ++ [tth p.types k]).length + szTsTo (p.types ++ [tth p.types k]) (p.types ++ [tth p.types k]).length) := rfl
  have h5 : szTsTo (p.types ++ [tth p.types k]) p.types.length = szTsTo p.types p.types.length := sum_same _ _ _ fun i hi => by rw [tth_app_lt _ _ hi]
  rw [h4, List.length_append, List.length_singleton, szTsTo_succ, h5, tth_app]
  omega
theorem againF_sz (p : Pt) (h : okP p = true) (k : Nat) (hk : k < p.types.length) (h0 : 0 < (tth p.types k).fields.length) : szP ⟨p.name, p.types.set k ⟨(tth p.types k).name, (tth p.types k).key, (tth p.types k).fields ++ [fth (tth p.types k).fields 0]⟩⟩ ≤ 1048576 := by
  have h1 := (okP_sz p h).1
  have h2 : szP p = p.name.size + (p.types.length + szTsTo p.types p.types.length) := rfl
  have h3 := szTsTo_le p.types k p.types.length hk
  have h6 : szT (tth p.types k) = (tth p.types k).name.size + (tth p.types k).key.size + ((tth p.types k).fields.length + szFsTo (tth p.types k).fields (tth p.types k).fields.length) := rfl
  have h7 := szFsTo_le (tth p.types k).fields 0 _ h0
  have h9 : szT ⟨(tth p.types k).name, (tth p.types k).key, (tth p.types k).fields ++ [fth (tth p.types k).fields 0]⟩ = (tth p.types k).name.size + (tth p.types k).key.size + (((tth p.types k).fields ++ [fth (tth p.types k).fields 0]).length + szFsTo ((tth p.types k).fields ++ [fth (tth p.types k).fields 0]) ((tth p.types k).fields ++ [fth (tth p.types k).fields 0]).length) := rfl
  have h5 : szFsTo ((tth p.types k).fields ++ [fth (tth p.types k).fields 0]) (tth p.types k).fields.length = szFsTo (tth p.types k).fields (tth p.types k).fields.length := sum_same _ _ _ fun i hi => by rw [fth_app_lt _ _ hi]
  rw [List.length_append, List.length_singleton, szFsTo_succ, h5, fth_app] at h9
  have h8 := sum_change (fun i => szT (tth (p.types.set k ⟨(tth p.types k).name, (tth p.types k).key, (tth p.types k).fields ++ [fth (tth p.types k).fields 0]⟩) i)) (fun i => szT (tth p.types i)) k (fun i hi => by rw [tth_set_ne _ _ _ _ hi]) p.types.length hk
  simp only [tth_set_eq _ _ _ hk] at h8
  have h4 : szP ⟨p.name, p.types.set k ⟨(tth p.types k).name, (tth p.types k).key, (tth p.types k).fields ++ [fth (tth p.types k).fields 0]⟩⟩ = p.name.size + ((p.types.set k ⟨(tth p.types k).name, (tth p.types k).key, (tth p.types k).fields ++ [fth (tth p.types k).fields 0]⟩).length + szTsTo (p.types.set k ⟨(tth p.types k).name, (tth p.types k).key, (tth p.types k).fields ++ [fth (tth p.types k).fields 0]⟩) (p.types.set k ⟨(tth p.types k).name, (tth p.types k).key, (tth p.types k).fields ++ [fth (tth p.types k).fields 0]⟩).length) := rfl
  rw [h4, List.length_set]
  unfold szTsTo at h2 h3 ⊢
  omega
end Go.Proofs.YtibpieomldhomaaDoor

namespace Go.Proofs.YtibpieomldhomaaDoor
set_option linter.unusedSimpArgs false
set_option linter.unusedVariables false
open Go.RowKit Go.Maps

/-- A part stands in a box, its types in memory that is known. -/
def XEnd (w2 : World) (X : Nat) (q : Pt) (wx : World) : Prop := ∃ g cap, wx.heap[X]? = some (.cells #[.string q.name, .slice (some ⟨g, 0, none⟩) q.types.length cap] 25 (0, 0)) ∧ PRep wx (· < wx.heap.size) q (.agg #[.string q.name, .slice (some ⟨g, 0, none⟩) q.types.length cap]) ∧ Below w2.heap.size w2 wx ∧ X < wx.heap.size
theorem XEnd.below {w2 wx w' : World} {X : Nat} {q : Pt} (h : XEnd w2 X q wx) (hb : Below wx.heap.size wx w') : XEnd w2 X q w' := by
  obtain ⟨g, cap, h1, h2, h3, h4⟩ := h
  exact ⟨g, cap, (hb.block X h4).trans h1, (h2.under hb).sub fun b hq => Nat.lt_of_lt_of_le hq hb.size, h3.trans (hb.mono h3.size), by have := hb.size; omega⟩
theorem own_nil {W : World} {base n : Nat} (T : TypeId) (sz : Nat) (h : W.heap[n]? = some (.cells #[] T (0, 0))) (hb : base ≤ n) : W.ownsRow base T sz (.slice (some ⟨n, 0, none⟩) 0 0) 0 [] :=
  ⟨by simp, .inr ⟨_, 0, #[], rfl, hb, h, Nat.le_refl _, Nat.zero_le _, by simp, by simp⟩⟩
theorem XEnd.mk1 {w2 wG : World} {P X base g cap k : Nat} {s tn tk : ByteArray} {v vf : Value} {ts : List T} {C : Nat → Nat → Value} (hk : k < ts.length) (hs : s.size ≤ maxLen) (hPX : P ≤ X) (hXb : X < base)
    (hr : ∀ i, i < ts.length → TRep wG (· < P) (tth ts i) (.agg #[C i 0, C i 1, C i 2])) (c0 : C k 0 = .string tn) (c1 : C k 1 = .string tk) (c2 : C k 2 = vf)
    (ho : wG.ownsRow base 33 3 (.slice (some ⟨g, 0, none⟩) (ts.length + 1) cap) (ts.length + 1) (flat3 C ts.length ++ [.string tn, .string tk, vf])) (hl : ts.length ≤ 1000000)
    (hbox : wG.heap[X]? = some (.cells #[.string s, v] 25 (0, 0))) (hb : Below w2.heap.size w2 wG) (hX : w2.heap.size ≤ X) (hxg : X < wG.heap.size) :
    XEnd w2 X ⟨s, ts ++ [tth ts k]⟩ (wG.setCell ⟨X, 1, none⟩ (.slice (some ⟨g, 0, none⟩) (ts.length + 1) cap)) := by
  rw [← c0, ← c1, ← c2] at ho
  have hlen : (ts ++ [tth ts k]).length = ts.length + 1 := by simp
  have hcap := owns_cap ho
  have hP := againT (P := (· < P)) hk hs hr ho hl hcap
  refine ⟨g, cap, ?_, ?_, hb.setCell hX _, by simpa using hxg⟩
  · have := set_box hbox 1 (.slice (some ⟨g, 0, none⟩) (ts.length + 1) cap)
    simpa [hlen] using this
  · simp only [hlen]
    refine (hP.mono fun b hq => Below.heap_setCell _ _ _ _ ?_).sub fun b hq => ?_
    · show b ≠ X
      rcases hq with h | h <;> omega
    · show b < (wG.setCell ⟨X, 1, none⟩ _).heap.size
      have : (wG.setCell ⟨X, 1, none⟩ (.slice (some ⟨g, 0, none⟩) (ts.length + 1) cap)).heap.size = wG.heap.size := by simp
      rw [this]
      rcases hq with h | h <;> omega
theorem XEnd.mk2 {w2 wG : World} {P X base g cap k gF capF : Nat} {s : ByteArray} {ts : List T} {fs : List F} {C D : Nat → Nat → Value} {f0 : List Value} (hk : k < ts.length) (hs : s.size ≤ maxLen) (hPX : P ≤ X) (hXb : X < base)
    (hr : ∀ i, i < ts.length → TRep wG (· < P) (tth ts i) (.agg #[C i 0, C i 1, C i 2]))
    (hfs : fs = (tth ts k).fields) (h0 : 0 < fs.length) (hd : ∀ i, i < fs.length → FRep wG (· < P) (fth fs i) (.agg #[D i 0, D i 1, D i 2, D i 3, D i 4, D i 5, D i 6, D i 7]))
    (hf0 : f0 = [D 0 0, D 0 1, D 0 2, D 0 3, D 0 4, D 0 5, D 0 6, D 0 7])
    (ho : wG.ownsRow base 33 3 (.slice (some ⟨g, 0, none⟩) ts.length cap) ts.length (flat3 C ts.length)) (hl : ts.length ≤ 1000000) (hlf : fs.length ≤ 1000000)
    (hof : wG.ownsRow base 36 8 (.slice (some ⟨gF, 0, none⟩) (fs.length + 1) capF) (fs.length + 1) (flat8 D fs.length ++ f0)) (hgf : g ≠ gF)
    (hbox : wG.heap[X]? = some (.cells #[.string s, .slice (some ⟨g, 0, none⟩) ts.length cap] 25 (0, 0))) (hb : Below w2.heap.size w2 wG) (hX : w2.heap.size ≤ X) (hxg : X < wG.heap.size) (hPb : P ≤ base) :
    XEnd w2 X ⟨s, ts.set k ⟨(tth ts k).name, (tth ts k).key, fs ++ [fth fs 0]⟩⟩ (wG.setCell ⟨g, k * 3 + 2, none⟩ (.slice (some ⟨gF, 0, none⟩) (fs.length + 1) capF)) := by
  subst hf0
  have hlen : (ts.set k ⟨(tth ts k).name, (tth ts k).key, fs ++ [fth fs 0]⟩).length = ts.length := by simp
  have hlen2 : (fs ++ [fth fs 0]).length = fs.length + 1 := by simp
  have hg := ho.lt g rfl
  have hgF := hof.lt gF rfl
  have hcapF := owns_cap hof
  have hst := (ho.stored (k * 3 + 2) (.slice (some ⟨gF, 0, none⟩) (fs.length + 1) capF)).1
  have hne : ∀ b, b ≠ g → (wG.setCell ⟨g, k * 3 + 2, none⟩ (.slice (some ⟨gF, 0, none⟩) (fs.length + 1) capF)).heap[b]? = wG.heap[b]? := fun b hq => Below.heap_setCell _ _ _ _ hq
  have hsz : (wG.setCell ⟨g, k * 3 + 2, none⟩ (.slice (some ⟨gF, 0, none⟩) (fs.length + 1) capF)).heap.size = wG.heap.size := by simp
  have hFa := againF (P := (· < P)) (k := 0) h0 hd hof hlf
  have hofS : (wG.setCell ⟨g, k * 3 + 2, none⟩ (.slice (some ⟨gF, 0, none⟩) (fs.length + 1) capF)).ownsRow base 36 8 (.slice (some ⟨gF, 0, none⟩) (fs.length + 1) capF) (fs.length + 1) (flat8 D fs.length ++ [D 0 0, D 0 1, D 0 2, D 0 3, D 0 4, D 0 5, D 0 6, D 0 7]) := owns_at hof fun b hq => hne b fun e => by
    have : gF = b := Option.some.inj hq
    omega
  have hFS := againF (P := (· < P)) (k := 0) h0 (fun i hi => (hd i hi).mono fun b hq => hne b (by show b ≠ g; omega)) hofS hlf
  have hbS := hb.setCell (p := ⟨g, k * 3 + 2, none⟩) (show w2.heap.size ≤ g by omega) (.slice (some ⟨gF, 0, none⟩) (fs.length + 1) capF)
  generalize wG.setCell ⟨g, k * 3 + 2, none⟩ (.slice (some ⟨gF, 0, none⟩) (fs.length + 1) capF) = wS at *
  have hrS : ∀ i, i < ts.length → TRep wS (· < P) (tth ts i) (.agg #[C i 0, C i 1, C i 2]) := fun i hi => (hr i hi).mono fun b hq => hne b (by omega)
  have hP := otherT (fs := fs ++ [fth fs 0]) (P := (· < P)) (Q := fun b => b < P ∨ (base ≤ b ∧ b < wS.heap.size)) hk hs (fun b h => Or.inl h) hrS hFS (by rw [hlen2]; exact hcapF) (by rw [hlen2]; exact hst) hl (owns_cap ho)
  refine ⟨g, cap, ?_, ?_, hbS, by omega⟩
  · rw [hne X (by omega), hbox, hlen]
  · rw [hlen]
    exact hP.sub fun b hq => by rcases hq with (h | h) | h <;> omega
end Go.Proofs.YtibpieomldhomaaDoor

namespace Go.Proofs.YtibpieomldhomaaDoor
set_option linter.unusedSimpArgs false
set_option linter.unusedVariables false
open Go.RowKit Go.Maps
attribute [local go_sem] Oper.semAt_some

set_option maxRecDepth 20000 in
set_option maxHeartbeats 6400000 in
theorem twice_great (w : World) (v u : Value) (a b : Option Addr) (n m c d : Nat) (hv : v = .slice a n c) (hu : u = .slice b m d) (h : 1048576 < n ∨ 1048576 < m) :
    Calls Tryd.prog 3 #[v, u] w fun e w' => e = .returned (.bool true) ∧ Below w.heap.size w w' := by
  subst hv hu
  by_cases h1 : 1048576 < n
  · have h1' : (1048576 : Int) < (n : Int) := by omega
    go_enter Tryd.func3, Tryd.ntmps3
    go_wp2_with fail
    go_ret
    exact ⟨rfl, Below.refl _ _⟩
  · have h1' : ¬ (1048576 : Int) < (n : Int) := by omega
    have h2' : (1048576 : Int) < (m : Int) := by omega
    go_enter Tryd.func3, Tryd.ntmps3
    go_wp2_with fail
    go_ret
    exact ⟨rfl, Below.refl _ _⟩
end Go.Proofs.YtibpieomldhomaaDoor
