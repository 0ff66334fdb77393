import Derived.Test.YtdohgkokoicjlaaB11
import Derived.Deep.RegionLaw
import Derived.Maps.AppendAt
set_option linter.unusedSimpArgs false
set_option linter.unusedVariables false
namespace Go.Proofs.Ytdohgkokoicjlaa
open Go.RowKit
theorem FRep.vals {w : World} {P : Nat → Prop} {f : F} {nm of : ByteArray} {l m fr hi sh : Bool} {na : Option Addr} {nl nc : Nat} (h : FRep w P f (.agg #[.string nm, .string of, .bool l, .bool m, .bool fr, .bool hi, .bool sh, .slice na nl nc])) :
    nm = f.name ∧ of = f.of ∧ l = f.list ∧ m = f.must ∧ fr = f.far ∧ hi = f.hidden ∧ sh = f.shared ∧ nl = f.needs.length ∧ Strs w P f.needs na ∧ f.needs.length ≤ nc ∧ f.name.size ≤ maxLen ∧ f.of.size ≤ maxLen := by
  obtain ⟨e0, e1, e2, e3, e4, e5, e6, na', nc', e7, h1, h2, h3, h4⟩ := h.parts
  simp only [Value.string.injEq, Value.bool.injEq, Value.slice.injEq] at e0 e1 e2 e3 e4 e5 e6 e7
  obtain ⟨rfl, e8, rfl⟩ := e7
  exact ⟨e0, e1, e2, e3, e4, e5, e6, e8, h1, h2, h3, h4⟩
set_option maxHeartbeats 800000 in
theorem canBeKey_any (nm of : ByteArray) (l m fr hi sh : Bool) (na : Option Addr) (nl nc : Nat) (w : World) :
    Calls Try.prog 80 #[.agg #[.int .u8 (bitsF l m fr hi sh), .string nm, .string of, .bool l, .bool m, .bool fr, .bool hi, .bool sh, .slice na nl nc]] w fun e w' => e = .returned (.bool (isT of [105, 110, 116] && (nl : Int) == 0 && m && !(l || fr || hi))) ∧ Below w.heap.size w w' := by
  have h1 := fun w => hasAll_any (bitsF l m fr hi sh) 2 w
  have h2 := fun w => hasAny_any (bitsF l m fr hi sh) 13 w
  rw [bits_must] at h1
  rw [bits_key] at h2
  generalize bitsF l m fr hi sh = x at *
  cases e1 : (of.toList == [105, 110, 116])
  · go_enter Try.func80, Try.ntmps80
    go_wp2_with fail
    go_ret
    exact ⟨ret_bool (by simp [isT, e1]), below_box _ _⟩
  cases e2 : ((nl : Int) == 0)
  · go_enter Try.func80, Try.ntmps80
    go_wp2_with fail
    go_ret
    exact ⟨ret_bool (by simp), below_box _ _⟩
  cases m
  · go_enter Try.func80, Try.ntmps80
    go_wp2_with (go_at_call 68; refine (h1 _).mono ?_; rintro e w' ⟨rfl, rfl⟩)
    go_ret
    exact ⟨ret_bool (by simp), below_box _ _⟩
  · go_enter Try.func80, Try.ntmps80
    go_wp2_with (first | (go_at_call 68; refine (h1 _).mono ?_; rintro e w' ⟨rfl, rfl⟩) | (go_at_call 86; refine (h2 _).mono ?_; rintro e w' ⟨rfl, rfl⟩))
    go_ret
    exact ⟨ret_bool (by simp [isT, e1]), below_box _ _⟩
set_option maxHeartbeats 800000 in
theorem canBeNeeded_any (nm of : ByteArray) (l m fr hi sh : Bool) (na : Option Addr) (nl nc : Nat) (w : World) :
    Calls Try.prog 87 #[.agg #[.int .u8 (bitsF l m fr hi sh), .string nm, .string of, .bool l, .bool m, .bool fr, .bool hi, .bool sh, .slice na nl nc]] w fun e w' => e = .returned (.bool (isT of [105, 110, 116] && (nl : Int) == 0 && !l)) ∧ Below w.heap.size w w' := by
  have h2 := fun w => hasAny_any (bitsF l m fr hi sh) 1 w
  rw [bits_anyl] at h2
  generalize bitsF l m fr hi sh = x at *
  cases e1 : (of.toList == [105, 110, 116])
  · go_enter Try.func87, Try.ntmps87
    go_wp2_with fail
    go_ret
    exact ⟨ret_bool (by simp [isT, e1]), below_box _ _⟩
  cases e2 : ((nl : Int) == 0)
  · go_enter Try.func87, Try.ntmps87
    go_wp2_with fail
    go_ret
    exact ⟨ret_bool (by simp), below_box _ _⟩
  · go_enter Try.func87, Try.ntmps87
    go_wp2_with (go_at_call 86; refine (h2 _).mono ?_; rintro e w' ⟨rfl, rfl⟩)
    go_ret
    exact ⟨ret_bool (by simp [isT, e1]), below_box _ _⟩
set_option maxHeartbeats 800000 in
theorem canNeed_any (nm of : ByteArray) (l m fr hi sh : Bool) (na : Option Addr) (nl nc : Nat) (tn tk : ByteArray) (fa : Option Addr) (fl fc : Nat) (w : World) :
    Calls Try.prog 81 #[.agg #[.int .u8 (bitsF l m fr hi sh), .string nm, .string of, .bool l, .bool m, .bool fr, .bool hi, .bool sh, .slice na nl nc], .agg #[.string tn, .string tk, .slice fa fl fc]] w fun e w' => e = .returned (.bool (isT of [105, 110, 116] && !(l || fr || m) && !tk.toList.isEmpty && !(nm.toList == tk.toList))) ∧ Below w.heap.size w w' := by
  have h2 := fun w => hasAny_any (bitsF l m fr hi sh) 7 w
  rw [bits_need] at h2
  generalize bitsF l m fr hi sh = x at *
  cases e1 : (of.toList == [105, 110, 116])
  · go_enter Try.func81, Try.ntmps81
    go_wp2_with fail
    go_ret
    exact ⟨ret_bool (by simp [isT, e1]), below_box2 _ _ _⟩
  cases e2 : (l || fr || m)
  · rw [e2] at h2
    cases e3 : tk.toList.isEmpty
    · cases e4 : (nm.toList == tk.toList)
      · have g4 : (nm.toList != tk.toList) = true := by simp only [bne, e4]; rfl
        go_enter Try.func81, Try.ntmps81
        go_wp2_with (go_at_call 86; refine (h2 _).mono ?_; rintro e w' ⟨rfl, rfl⟩)
        go_ret
        exact ⟨ret_bool (by simp [isT, e1]), below_box2 _ _ _⟩
      · have g4 : (nm.toList != tk.toList) = false := by simp only [bne, e4]; rfl
        go_enter Try.func81, Try.ntmps81
        go_wp2_with (go_at_call 86; refine (h2 _).mono ?_; rintro e w' ⟨rfl, rfl⟩)
        go_ret
        exact ⟨ret_bool (by simp [isT, e1]), below_box2 _ _ _⟩
    · go_enter Try.func81, Try.ntmps81
      go_wp2_with (go_at_call 86; refine (h2 _).mono ?_; rintro e w' ⟨rfl, rfl⟩)
      go_ret
      exact ⟨ret_bool (by simp), below_box2 _ _ _⟩
  · rw [e2] at h2
    go_enter Try.func81, Try.ntmps81
    go_wp2_with (go_at_call 86; refine (h2 _).mono ?_; rintro e w' ⟨rfl, rfl⟩)
    go_ret
    exact ⟨ret_bool (by simp), below_box2 _ _ _⟩
set_option maxHeartbeats 800000 in
theorem isKeyRight_any (t : T) (w : World) (B : Nat) (v : Value) (hR : TRep w (· < B) t v) (hB : B ≤ w.heap.size) :
    Calls Try.prog 63 #[v] w fun e w' => e = .returned (.bool (keyB t)) ∧ Below w.heap.size w w' := by
  have hR' := hR
  obtain ⟨name, key, fields⟩ := t
  obtain ⟨fa, fc, rfl, hK, hnc, hn, ho⟩ := hR
  simp only at hK hnc hn ho
  cases hke : key.toList.isEmpty
  case true =>
    go_enter Try.func63, Try.ntmps63
    go_wp2_with fail
    go_ret
    exact ⟨ret_bool (by simp [keyB, hke]), below_box _ _⟩
  have hff := fun o => findField_any ⟨name, key, fields⟩ (w.alloc o) B _ key (hR'.under ((below_box w o).mono hB)) (by simp; omega)
  have hkb : Hid (keyB ⟨name, key, fields⟩ = (decide (0 ≤ fieldIx ⟨name, key, fields⟩ key) && keyOkF (fieldOr ⟨name, key, fields⟩ key))) := by
    show _ = _
    by_cases h : 0 ≤ fieldIx ⟨name, key, fields⟩ key <;> simp [keyB, hke, fieldOr, h]
  cases hix : decide (0 ≤ fieldIx ⟨name, key, fields⟩ key)
  · rw [hix] at hff
    go_enter Try.func63, Try.ntmps63
    go_wp2_with (go_at_call 24; refine (hff _).mono ?_; rintro e w1 ⟨nm, of, l, m, fr, hi, sh, na, nl, nc, rfl, hb1, hf1⟩)
    go_ret
    exact ⟨ret_bool (by rw [hkb.out, hix]; rfl), ((below_box w _).trans (hb1.mono (by simp))).alloc (by have := hb1.size; simp at this; omega) _⟩
  · rw [hix] at hff
    go_enter Try.func63, Try.ntmps63
    go_wp2_with (first
      | (
        go_at_call 24
        refine (hff _).mono ?_
        rintro e w1 ⟨nm, of, l, m, fr, hi, sh, na, nl, nc, rfl, hb1, hf1⟩)
      | (
        go_at_call 41
        refine (marksOf_any _ _ _ _ _ _ _ _ _ _ _).mono ?_
        rintro e w2 ⟨rfl, hb2⟩)
      | (
        go_at_call 80
        refine (canBeKey_any _ _ _ _ _ _ _ _ _ _ _).mono ?_
        rintro e w3 ⟨rfl, hb3⟩))
    go_ret
    obtain ⟨-, rfl, rfl, rfl, rfl, rfl, rfl, rfl, -⟩ := hf1.vals
    have z1 := hb1.size
    simp at z1
    have z2 := hb2.size
    simp at z2
    refine ⟨ret_bool ?_, ((((below_box w _).trans (hb1.mono (by simp))).alloc (by omega) _).trans (hb2.mono (by simp; omega))).trans (hb3.mono (by omega))⟩
    rw [hkb.out, hix]
    simp only [keyOkF, Bool.true_and]
    generalize fieldOr ⟨name, key, fields⟩ key = f
    cases f.list <;> cases f.must <;> cases f.far <;> cases f.hidden <;> simp
end Go.Proofs.Ytdohgkokoicjlaa
namespace Go.Proofs.Ytdohgkokoicjlaa
open Go.RowKit Go.Maps
def LiesAt (w : World) (xa : Option Addr) (m : Nat) (news : List Value) : Prop := 0 < m → ∃ ad, xa = some ad ∧ ∀ j u, news[j]? = some u → w.cell? (ad.add j) = some u
theorem run_append_none {P : Program} (w : World) (t ty e : TypeId) (i : TypeInfo) (ht : P.underlying t = some (.slice e)) (hi : P.info? e = some i) (g n cap c : Nat) (hn : n ≤ cap) :
    (Builtin.append_ #[t, t] ty #[.slice (some ⟨g, 0, none⟩) n cap, .slice none 0 c]).run P w = .ok (.slice (some ⟨g, 0, none⟩) n cap) w := by
  simp [Builtin.append_, run_underlying ht, sizeOf, typeInfo, hi, Builtin.lenOf, Builtin.firstCells, hn, storeCells]
theorem run_append_all {P : Program} {w : World} (base : Nat) (t ty e : TypeId) (i : TypeInfo) (z : Value) (size bytes : Nat) (ht : P.underlying t = some (.slice e)) (hi : P.info? e = some i) (hz : i.zero = some z)
    (hsize : i.size = size) (hby : i.bytes = bytes) (hzs : z.cells.size = size) (hsz : 0 < size)
    (g n cap : Nat) (xs : List Value) (hown : w.ownsRow base e size (.slice (some ⟨g, 0, none⟩) n cap) n xs)
    (xa : Option Addr) (m c : Nat) (news : List Value) (hl : news.length = m * size) (hnews : LiesAt w xa m news) (h1 : ∀ u ∈ news, u.oneCell' = true)
    (h63 : n + m ≤ maxLen) (hbytes : (n + m) * bytes ≤ 140737488355328) (hbase : base ≤ w.heap.size) :
    ∃ g' cap' w', (Builtin.append_ #[t, t] ty #[.slice (some ⟨g, 0, none⟩) n cap, .slice xa m c]).run P w = .ok (.slice (some ⟨g', 0, none⟩) (n + m) cap') w' ∧ w'.ownsRow base e size (.slice (some ⟨g', 0, none⟩) (n + m) cap') (n + m) (xs ++ news) ∧ w.grownBy w' (some g) ∧ (g' = g ∨ g' = w.heap.size) := by
  have hnc : n ≤ cap := by
    rcases hown.2 with ⟨h', _⟩ | ⟨g', cap', cur, h', _, _, hn, _⟩
    · simp at h'
    · simp only [Value.slice.injEq, true_and] at h'
      obtain ⟨-, rfl⟩ := h'
      exact hn
  rcases xa with _ | ad
  · have hm : m = 0 := by
      rcases Nat.eq_zero_or_pos m with h | h
      · exact h
      · obtain ⟨ad, e, -⟩ := hnews h
        cases e
    subst hm
    have hnil : news = [] := List.length_eq_zero_iff.1 (by simpa using hl)
    subst hnil
    exact ⟨g, cap, w, run_append_none w t ty e i ht hi g n cap c hnc, by simpa using hown, ⟨rfl, rfl, rfl, Nat.le_refl _, fun _ _ _ => rfl⟩, Or.inl rfl⟩
  · have hn2 : ∀ j u, news[j]? = some u → w.cell? (ad.add j) = some u := fun j u hu => by
      rcases Nat.eq_zero_or_pos m with h | h
      · subst h
        have hnil : news = [] := List.length_eq_zero_iff.1 (by simpa using hl)
        rw [hnil] at hu
        simp at hu
      · obtain ⟨ad', e, h2⟩ := hnews h
        cases e
        exact h2 j u hu
    obtain ⟨v', w', hrun, h2, h3, -, h5⟩ := run_append_own_at (P := P) w base t ty e i z size bytes ht hi hz hsize hby hzs hsz _ n xs hown ad m c news hl hn2 h1 h63 hbytes hbase
    rcases h2.2 with ⟨h', _⟩ | ⟨g', cap', cur, hv, -⟩
    · rw [h'] at h5; simp [Value.ownBlock] at h5
    · subst hv
      refine ⟨g', cap', w', hrun, h2, h3, ?_⟩
      simpa [Value.ownBlock] using h5
theorem step_append_all {P : Program} {w : World} {ops : Array Oper} {o : Oper} {a : Act} {K : Act → World → Prop} {Q : Exit → Act → World → Prop} {E : Prop} (hgd : o.guard = none) (s x : Operand) (t : TypeId)
    (ho : o.op = .call { callee := .builtin .append, args := #[s, x], argTypes := #[t, t] })
    (base : Nat) (e : TypeId) (i : TypeInfo) (z : Value) (size bytes : Nat) (ht : P.underlying t = some (.slice e)) (hi : P.info? e = some i) (hz : i.zero = some z)
    (hsize : i.size = size) (hby : i.bytes = bytes) (hzs : z.cells.size = size) (hsz : 0 < size)
    (g n cap : Nat) (xs : List Value) (hs : a.eval s = .slice (some ⟨g, 0, none⟩) n cap) (hown : w.ownsRow base e size (.slice (some ⟨g, 0, none⟩) n cap) n xs)
    (xa : Option Addr) (m c : Nat) (news : List Value) (hx : a.eval x = .slice xa m c) (hl : news.length = m * size) (hnews : LiesAt w xa m news) (h1 : ∀ u ∈ news, u.oneCell' = true)
    (h63 : n + m ≤ maxLen) (hbytes : (n + m) * bytes ≤ 140737488355328) (hbase : base ≤ w.heap.size)
    (h : ∀ g' cap' w', w'.ownsRow base e size (.slice (some ⟨g', 0, none⟩) (n + m) cap') (n + m) (xs ++ news) → w.grownBy w' (some g) → (g' = g ∨ g' = w.heap.size) → K (a.put o.dst (.slice (some ⟨g', 0, none⟩) (n + m) cap')) w') :
    if Region.wanted o (yielded ops a.tmps) = true then Oper.wp P o a w K Q else E := by
  have hw : Region.wanted o (yielded ops a.tmps) = true := by simp [Region.wanted, hgd]
  rw [if_pos hw]
  obtain ⟨g', cap', w', hrun, h2, h3, h4⟩ := run_append_all (P := P) (w := w) base t o.type e i z size bytes ht hi hz hsize hby hzs hsz g n cap xs hown xa m c news hl hnews h1 h63 hbytes hbase
  unfold Oper.wp execOp
  simp only [ho, resolve, invoke, builtin, Sem.run_bind, Sem.run_pure, Result.andThen_ok, List.map_toArray, List.map_cons, List.map_nil, hs, hx, hrun]
  exact h g' cap' w' h2 h3 h4
theorem wpList_append_all {P : Program} {w : World} {ops : Array Oper} {rest : List Oper} {o : Oper} {a : Act} {Q : Exit → Act → World → Prop} (hgd : o.guard = none) (s x : Operand) (t : TypeId)
    (ho : o.op = .call { callee := .builtin .append, args := #[s, x], argTypes := #[t, t] })
    (base : Nat) (e : TypeId) (i : TypeInfo) (z : Value) (size bytes : Nat) (ht : P.underlying t = some (.slice e)) (hi : P.info? e = some i) (hz : i.zero = some z)
    (hsize : i.size = size) (hby : i.bytes = bytes) (hzs : z.cells.size = size) (hsz : 0 < size)
    (g n cap : Nat) (xs : List Value) (hs : a.eval s = .slice (some ⟨g, 0, none⟩) n cap) (hown : w.ownsRow base e size (.slice (some ⟨g, 0, none⟩) n cap) n xs)
    (xa : Option Addr) (m c : Nat) (news : List Value) (hx : a.eval x = .slice xa m c) (hl : news.length = m * size) (hnews : LiesAt w xa m news) (h1 : ∀ u ∈ news, u.oneCell' = true)
    (h63 : n + m ≤ maxLen) (hbytes : (n + m) * bytes ≤ 140737488355328) (hbase : base ≤ w.heap.size)
    (h : ∀ g' cap' w', w'.ownsRow base e size (.slice (some ⟨g', 0, none⟩) (n + m) cap') (n + m) (xs ++ news) → w.grownBy w' (some g) → (g' = g ∨ g' = w.heap.size) → wpList P ops Q rest (a.put o.dst (.slice (some ⟨g', 0, none⟩) (n + m) cap')) w') :
    wpList P ops Q (o :: rest) a w := by
  obtain ⟨g', cap', w', hrun, h2, h3, h4⟩ := run_append_all (P := P) (w := w) base t o.type e i z size bytes ht hi hz hsize hby hzs hsz g n cap xs hown xa m c news hl hnews h1 h63 hbytes hbase
  refine wpList_plain hgd fun K hK => ?_
  unfold Oper.wp
  simp [execOp, ho, resolve, invoke, builtin, hs, hx, hrun, Result.andThen]
  exact hK _ _ (h g' cap' w' h2 h3 h4)
def flat8 (C : Nat → Nat → Value) (n : Nat) : List Value := (List.range (n * 8)).map fun j => C (j / 8) (j % 8)
theorem flat8_len (C : Nat → Nat → Value) (n : Nat) : (flat8 C n).length = n * 8 := by simp [flat8]
theorem flat8_at (C : Nat → Nat → Value) (n i j : Nat) (hi : i < n) (hj : j < 8) : (flat8 C n)[i * 8 + j]? = some (C i j) := by
  have h1 : i * 8 + j < n * 8 := by omega
  have h2 : (i * 8 + j) / 8 = i := by omega
  have h3 : (i * 8 + j) % 8 = j := by omega
  simp [flat8, h1, h2, h3]
theorem flat8_one {w : World} {P : Nat → Prop} {fs : List F} {C : Nat → Nat → Value} (hr : ∀ i, i < fs.length → FRep w P (fth fs i) (.agg #[C i 0, C i 1, C i 2, C i 3, C i 4, C i 5, C i 6, C i 7])) : ∀ u ∈ flat8 C fs.length, u.oneCell' = true := by
  intro u hu
  simp only [flat8, List.mem_map, List.mem_range] at hu
  obtain ⟨j, hj, rfl⟩ := hu
  obtain ⟨na, nc, e, -⟩ := hr (j / 8) (by omega)
  simp only [Value.agg.injEq, Array.mk.injEq, List.cons.injEq, and_true] at e
  obtain ⟨e0, e1, e2, e3, e4, e5, e6, e7⟩ := e
  have hm : j % 8 < 8 := Nat.mod_lt _ (by omega)
  generalize j % 8 = q at *
  rcases q with _ | _ | _ | _ | _ | _ | _ | _ | q
  · simp only [e0]; rfl
  · simp only [Nat.zero_add, e1]; rfl
  · simp only [Nat.zero_add, Nat.reduceAdd, e2]; rfl
  · simp only [Nat.zero_add, Nat.reduceAdd, e3]; rfl
  · simp only [Nat.zero_add, Nat.reduceAdd, e4]; rfl
  · simp only [Nat.zero_add, Nat.reduceAdd, e5]; rfl
  · simp only [Nat.zero_add, Nat.reduceAdd, e6]; rfl
  · simp only [Nat.zero_add, Nat.reduceAdd, e7]; rfl
  · omega
theorem flat8_lies {w : World} {P : Nat → Prop} {n : Nat} {a : Option Addr} {C : Nat → Nat → Value} (h : Arr w P 8 n a C) : LiesAt w a n (flat8 C n) := fun hn => by
  obtain ⟨b, off, e, -, hc⟩ := h hn
  refine ⟨_, e, fun j u hu => ?_⟩
  have hj : j < n * 8 := by
    have := (List.getElem?_eq_some_iff.1 hu).1
    rw [flat8_len] at this
    exact this
  have h1 := hc (j / 8) (by omega) (j % 8) (Nat.mod_lt _ (by omega))
  rw [Addr.add_lit]
  have e2 : off + j / 8 * 8 + j % 8 = off + j := by omega
  rw [e2] at h1
  rw [h1]
  have e3 : (flat8 C n)[j]? = some (C (j / 8) (j % 8)) := by simp [flat8, hj]
  rw [e3] at hu
  exact hu
theorem strs_lies {w : World} {P : Nat → Prop} {ns : List ByteArray} {a : Option Addr} (h : Strs w P ns a) : LiesAt w a ns.length (ns.map Value.string) := fun hn => by
  obtain ⟨b, off, e, -, hc⟩ := h.1 (List.length_pos_iff.1 hn)
  refine ⟨_, e, fun j u hu => ?_⟩
  rw [List.getElem?_map] at hu
  obtain ⟨s, hs, rfl⟩ := Option.map_eq_some_iff.1 hu
  obtain ⟨hj, rfl⟩ := List.getElem?_eq_some_iff.1 hs
  rw [Addr.add_lit, hc j hj]
  simp [nth, List.getD_eq_getElem?_getD, hj]
theorem strs_one (ns : List ByteArray) : ∀ u ∈ ns.map Value.string, u.oneCell' = true := by
  intro u hu
  simp at hu
  obtain ⟨x, -, rfl⟩ := hu
  rfl
theorem rowStrs {w : World} {base g n cap : Nat} {ns : List ByteArray} (h : w.ownsRow base 9 1 (.slice (some ⟨g, 0, none⟩) ns.length cap) ns.length (ns.map Value.string)) (hs : ∀ i, (nth ns i).size ≤ maxLen) (hl : ns.length ≤ maxLen) : Strs w (fun b => base ≤ b ∧ b < w.heap.size) ns (some ⟨g, 0, none⟩) :=
  ⟨fun _ => ⟨g, 0, rfl, h.lt g rfl, fun i hi => by
    rw [Nat.zero_add, h.cellAt i (by omega), List.getElem?_map]
    simp [nth, List.getD_eq_getElem?_getD, hi]⟩, hs, hl⟩
end Go.Proofs.Ytdohgkokoicjlaa
namespace Go.Proofs.Ytdohgkokoicjlaa
open Go.RowKit Go.Maps
theorem step_append_own_at {P : Program} {w : World} {ops : Array Oper} {o : Oper} {a : Act} {K : Act → World → Prop} {Q : Exit → Act → World → Prop} {E : Prop} (hgd : o.guard = none) (s x : Operand) (t : TypeId)
    (ho : o.op = .call { callee := .builtin .append, args := #[s, x], argTypes := #[t, t] })
    (base : Nat) (e : TypeId) (i : TypeInfo) (z : Value) (size bytes : Nat) (ht : P.underlying t = some (.slice e)) (hi : P.info? e = some i) (hz : i.zero = some z)
    (hsize : i.size = size) (hby : i.bytes = bytes) (hzs : z.cells.size = size) (hsz : 0 < size)
    (v : Value) (n : Nat) (xs : List Value) (hs : a.eval s = v) (hown : w.ownsRow base e size v n xs)
    (ad : Addr) (m c : Nat) (news : List Value) (hx : a.eval x = .slice (some ad) m c) (hl : news.length = m * size) (hnews : ∀ j u, news[j]? = some u → w.cell? (ad.add j) = some u) (h1 : ∀ u ∈ news, u.oneCell' = true)
    (h63 : n + m ≤ maxLen) (hbytes : (n + m) * bytes ≤ 140737488355328) (hbase : base ≤ w.heap.size)
    (h : ∀ v' w', w'.ownsRow base e size v' (n + m) (xs ++ news) → w.grownBy w' v.ownBlock → (v' = .slice none 0 0 ↔ v = .slice none 0 0 ∧ m = 0) → (v'.ownBlock = v.ownBlock ∨ v'.ownBlock = some w.heap.size) → K (a.put o.dst v') w') :
    if Region.wanted o (yielded ops a.tmps) = true then Oper.wp P o a w K Q else E := by
  have hw : Region.wanted o (yielded ops a.tmps) = true := by simp [Region.wanted, hgd]
  rw [if_pos hw]
  obtain ⟨v', w', hr, h2, h3, h4, h5⟩ := run_append_own_at (P := P) w base t o.type e i z size bytes ht hi hz hsize hby hzs hsz v n xs hown ad m c news hl hnews h1 h63 hbytes hbase
  unfold Oper.wp execOp
  simp only [ho, resolve, invoke, builtin, Sem.run_bind, Sem.run_pure, Result.andThen_ok, List.map_toArray, List.map_cons, List.map_nil, hs, hx, hr]
  exact h v' w' h2 h3 h4 h5
end Go.Proofs.Ytdohgkokoicjlaa
