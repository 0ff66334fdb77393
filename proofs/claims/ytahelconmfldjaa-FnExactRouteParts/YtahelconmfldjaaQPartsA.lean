/-
  Appending whole numbers onto a list of the call's own, nothing among them: as one step of a region.
-/
import Derived.Test.YtahelconmfldjaaQParts
import Derived.Test.YtahelconmfldjaaQReadyI
import Derived.Deep.RegionLaw
namespace Go.Proofs.Ytahelconmfldjaa
set_option linter.unusedSimpArgs false
set_option linter.unusedVariables false
open Go.RowKit Go.Maps

theorem ith_take (L : List Int) (k i : Nat) (h : i < k) : ith (L.take k) i = ith L i := by simp [ith, List.getD_eq_getElem?_getD, List.getElem?_take, h]
theorem ith_drop (L : List Int) (k i : Nat) : ith (L.drop k) i = ith L (k + i) := by simp [ith, List.getD_eq_getElem?_getD, List.getElem?_drop]

/-- A list with nothing in it, in a block of its own. -/
theorem own_empty {W : World} {base n : Nat} (h : W.heap[n]? = some (.cells #[] 3 (0, 0))) (hb : base ≤ n) : W.ownsRow base 3 1 (.slice (some ⟨n, 0, none⟩) 0 0) 0 (([] : List Int).map (Value.int .i64)) :=
  ⟨rfl, .inr ⟨n, 0, #[], rfl, hb, h, Nat.le_refl _, by simp, rfl, rfl⟩⟩
theorem news_take {W : World} {g q : Nat} {L : List Int} (hq : q ≤ L.length) (h : ∀ i, i < L.length → W.cell? ⟨g, i, none⟩ = some (.int .i64 (ith L i))) : ∀ j u, ((L.take q).map (Value.int .i64))[j]? = some u → W.cell? ((⟨g, 0, none⟩ : Addr).add j) = some u := by
  intro j u hj
  obtain ⟨hj', rfl⟩ := ith_map _ j u hj
  have hj2 : j < q := by simp at hj'; omega
  rw [Addr.add_lit, Nat.zero_add, ith_take L q j hj2]
  exact h j (by omega)
theorem news_drop {W : World} {g q : Nat} {L : List Int} (h : ∀ i, i < L.length → W.cell? ⟨g, i, none⟩ = some (.int .i64 (ith L i))) : ∀ j u, ((L.drop q).map (Value.int .i64))[j]? = some u → W.cell? ((⟨g, q, none⟩ : Addr).add j) = some u := by
  intro j u hj
  obtain ⟨hj', rfl⟩ := ith_map _ j u hj
  have hj2 : q + j < L.length := by simp at hj'; omega
  rw [Addr.add_lit, ith_drop]
  exact h (q + j) hj2
theorem news_one {W : World} {n : Nat} {p : Int} (h : W.heap[n]? = some (.cells #[.int .i64 p] 3 (0, 0))) : ∀ j u, (([p] : List Int).map (Value.int .i64))[j]? = some u → W.cell? ((⟨n, 0, none⟩ : Addr).add j) = some u := World.news_of_block h
theorem ints_one (L : List Int) : ∀ u, u ∈ L.map (Value.int .i64) → u.oneCell' = true := by
  intro u hu
  simp at hu
  obtain ⟨x, -, rfl⟩ := hu
  rfl
theorem owns_drew {w : World} {base : Nat} {e : TypeId} {sz n : Nat} {v : Value} {xs : List Value} (h : w.ownsRow base e sz v n xs) (m : Nat) : (w.drewN m).ownsRow base e sz v n xs := h
theorem owns_base {w : World} {base base' : Nat} {e : TypeId} {sz n : Nat} {v : Value} {xs : List Value} (h : w.ownsRow base e sz v n xs) (hb : base' ≤ base) : w.ownsRow base' e sz v n xs := by
  refine ⟨h.1, ?_⟩
  rcases h.2 with h2 | ⟨g, cap, cur, h2, h3, h4⟩
  · exact .inl h2
  · exact .inr ⟨g, cap, cur, h2, by omega, h4⟩

theorem heap_at {W : World} {o : Obj} {n : Nat} (h : W.heap.size = n) : (W.alloc o).heap[n]? = some o := h ▸ heap_alloc_new W o
theorem heap_under {W : World} {o o' : Obj} {n : Nat} (h : W.heap[n]? = some o') : (W.alloc o).heap[n]? = some o' := (Below.heap_alloc W o n (by
  rcases Nat.lt_or_ge n W.heap.size with hlt | hge
  · exact hlt
  · rw [Array.getElem?_eq_none hge] at h; cases h)).trans h
theorem hid_of {q : Prop} (h : q) : Hid q := h
/-- append(own, xs...) at a step of a region. -/
theorem step_app {W0 w : World} {ops : Array Oper} {o : Oper} {a : Act} {K : Act → World → Prop} {Q : Exit → Act → World → Prop} {E : Prop} (hgd : o.guard = none) (s x : Operand)
    (ho : o.op = .call { callee := .builtin .append, args := #[s, x], argTypes := #[29, 29] }) (hb : Below W0.heap.size W0 w)
    (g0 n c0 : Nat) (xs : List Int) (hs : a.eval s = .slice (some ⟨g0, 0, none⟩) n c0) (hown : w.ownsRow W0.heap.size 3 1 (.slice (some ⟨g0, 0, none⟩) n c0) n (xs.map (Value.int .i64)))
    (ad : Addr) (m c : Nat) (news : List Int) (hx : a.eval x = .slice (some ad) m c) (hl : news.length = m) (hnews : ∀ j u, (news.map (Value.int .i64))[j]? = some u → w.cell? (ad.add j) = some u) (r : Nat) (hr : n + m = r) (hlen : r ≤ 4194304)
    (h : ∀ g cap w', w'.ownsRow W0.heap.size 3 1 (.slice (some ⟨g, 0, none⟩) r cap) r ((xs ++ news).map (Value.int .i64)) → Below W0.heap.size W0 w' → (W0.heap.size ≤ g ∧ g < w'.heap.size ∧ r ≤ cap ∧ w.heap.size ≤ w'.heap.size) → (∀ b, b < w.heap.size → b ≠ g0 → w'.heap[b]? = w.heap[b]?) → K (a.put o.dst (.slice (some ⟨g, 0, none⟩) r cap)) w') :
    if Region.wanted o (yielded ops a.tmps) = true then Oper.wp Try.prog o a w K Q else E := by
  obtain ⟨i0, hi, hz0, hz1, hz2⟩ := info_parts info3
  have hw : Region.wanted o (yielded ops a.tmps) = true := by simp [Region.wanted, hgd]
  have hwb := hb.size
  rw [if_pos hw]
  obtain ⟨v', w', hrun, h2, h3, -, h5⟩ := run_append_own_at (P := Try.prog) w W0.heap.size 29 o.type 3 i0 (.int .i64 0) 1 8 Try.underlying29 hi hz0 hz1 hz2 rfl (by decide) _ n _ hown ad m c (news.map (Value.int .i64)) (by simp [hl]) hnews (ints_one _) (by unfold maxLen; omega) (by omega) hwb
  have hb0 : W0.heap.size ≤ g0 := by
    rcases hown.2 with ⟨h', _⟩ | ⟨g', _, _, h', hb', _⟩
    · simp at h'
    · simp at h'; omega
  obtain ⟨g, cap, rfl, hg1, hg2, hg3⟩ : ∃ g cap, v' = .slice (some ⟨g, 0, none⟩) (n + m) cap ∧ W0.heap.size ≤ g ∧ g < w'.heap.size ∧ n + m ≤ cap := by
    rcases h2.2 with ⟨h', _⟩ | ⟨g, cap, cur, hv, hb', hg, hc', _⟩
    · rw [h'] at h5; simp [Value.ownBlock] at h5
    · refine ⟨g, cap, hv, hb', ?_, hc'⟩
      rcases Nat.lt_or_ge g w'.heap.size with hlt | hge
      · exact hlt
      · rw [Array.getElem?_eq_none hge] at hg; cases hg
  subst hr
  unfold Oper.wp execOp
  simp only [ho, resolve, invoke, builtin, Sem.run_bind, Sem.run_pure, Result.andThen_ok, List.map_toArray, List.map_cons, List.map_nil, hs, hx, hrun]
  refine h g cap w' (by simpa using h2) (hb.grown h3 hwb (fun k hk => by simp [Value.ownBlock] at hk; omega)) ⟨hg1, hg2, hg3, h3.size⟩ (fun b hb hne => h3.block b hb (by simp [Value.ownBlock]; exact hne))
end Go.Proofs.Ytahelconmfldjaa
