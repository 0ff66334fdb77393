import Derived.Test.YtokmgbidmnanpaaGreatDoorB5
import Derived.Test.YtokmgbidmnanpaaGreatDoorB3
import Derived.Test.YtokmgbidmnanpaaGreatDoorB1
import Derived.Deep.AppendLies
import Derived.Test.YtokmgbidmnanpaaGreatDoorB2
set_option linter.unusedSimpArgs false
set_option linter.unusedVariables false
namespace Go.Proofs.YtokmgbidmnanpaaGreatDoor
open Go.RowKit Go.Maps
def Hot (σ : Sh) (b : Nat) : Prop := ∃ T n, σ b = some (T, n) ∧ T ≠ 9
theorem Hot.old {σ σ' : Sh} {N : Nat} (h : ∀ b, b < N → σ' b = σ b) : ∀ b, b < N → Hot σ' b → Hot σ b := fun b hb ⟨T, n, h1, h2⟩ => ⟨T, n, by rw [← h b hb]; exact h1, h2⟩
def SmF (nn : Nat) (f : F) : Prop := f.name.size ≤ 12 ∧ f.of.size ≤ 12 ∧ f.needs.length ≤ nn ∧ ∀ i, (nth f.needs i).size ≤ 12
def SmT (nf nn : Nat) (t : T) : Prop := t.name.size ≤ 12 ∧ t.key.size ≤ 12 ∧ t.fields.length ≤ nf ∧ ∀ i, SmF nn (fth t.fields i)
theorem SmF.zero (nn : Nat) : SmF nn F.zero := ⟨by decide, by decide, Nat.zero_le _, fun i => by simp [F.zero, nth]⟩
theorem SmT.zero (nf nn : Nat) : SmT nf nn T.zero := ⟨by decide, by decide, Nat.zero_le _, fun i => by simpa [T.zero, fth] using SmF.zero nn⟩
theorem Wf.strs {w : World} {σ : Sh} {B : Bd} (h : Wf w σ B) {v : Value} {N : Nat} (hv : SlOk σ 9 N v) : ∃ (a : Option Addr) (c : Nat) (ns : List ByteArray), v = .slice a ns.length c ∧ Strs w (· < w.heap.size) ns a ∧ ns.length ≤ c ∧ ns.length ≤ N ∧ (∀ i, (nth ns i).size ≤ 12) := by
  obtain ⟨a, len, cap, rfl, h1, h2, h3, h4⟩ := hv
  rcases h4 with ⟨rfl, rfl, rfl⟩ | ⟨b, rfl, hb⟩
  · exact ⟨none, 0, [], rfl, ⟨fun h => absurd rfl h, fun i => by simp [nth], by simp [maxLen]⟩, by simp, by simp, fun i => by simp [nth]⟩
  · have hall : ∀ i, i < len → ∃ s : ByteArray, w.cell? ⟨b, i, none⟩ = some (.string s) ∧ s.size ≤ 12 := fun i hi => by
      obtain ⟨v, hc, ho, -⟩ := h.cell hb i 0 (by omega) (by rw [wideS]; omega)
      rw [wideS, Nat.mul_one, Nat.add_zero] at hc
      obtain ⟨s, rfl, hs⟩ : StOk v := by simpa [CellOk] using ho
      exact ⟨s, hc, hs⟩
    let f : Fin len → ByteArray := fun i => Classical.choose (hall i.val i.isLt)
    have hf : ∀ i : Fin len, w.cell? ⟨b, i.val, none⟩ = some (.string (f i)) ∧ (f i).size ≤ 12 := fun i => Classical.choose_spec (hall i.val i.isLt)
    have hn : ∀ i (hi : i < len), nth (List.ofFn f) i = f ⟨i, hi⟩ := fun i hi => by simp [nth, List.getD_eq_getElem?_getD, hi]
    have hs12 : ∀ i, (nth (List.ofFn f) i).size ≤ 12 := fun i => by
      by_cases hi : i < len
      · rw [hn i hi]; exact (hf ⟨i, hi⟩).2
      · simp [nth, List.getD_eq_getElem?_getD, hi]
    refine ⟨some ⟨b, 0, none⟩, cap, List.ofFn f, by simp, ⟨fun _ => ⟨b, 0, rfl, h.lt hb, fun i hi => ?_⟩, fun i => by have := hs12 i; unfold maxLen; omega, by simp; omega⟩, by simpa using h2, by simpa using h1, hs12⟩
    have hi' : i < len := by simpa using hi
    rw [Nat.zero_add, hn i hi']
    exact (hf ⟨i, hi'⟩).1
theorem Wf.field {w : World} {σ : Sh} {B : Bd} (h : Wf w σ B) (C : Nat → Value) (hC : ∀ j, j < 8 → CellOk σ B 54 j (C j)) (hnn : B.nn ≤ 3) :
    ∃ f : F, FRep w (· < w.heap.size) f (.agg #[C 0, C 1, C 2, C 3, C 4, C 5, C 6, C 7]) ∧ szF f ≤ 24 + 13 * B.nn ∧ SmF B.nn f := by
  obtain ⟨s0, e0, z0⟩ : StOk (C 0) := by simpa [CellOk] using hC 0 (by omega)
  obtain ⟨s1, e1, z1⟩ : StOk (C 1) := by simpa [CellOk] using hC 1 (by omega)
  obtain ⟨b2, e2⟩ : BoOk (C 2) := by simpa [CellOk] using hC 2 (by omega)
  obtain ⟨b3, e3⟩ : BoOk (C 3) := by simpa [CellOk] using hC 3 (by omega)
  obtain ⟨b4, e4⟩ : BoOk (C 4) := by simpa [CellOk] using hC 4 (by omega)
  obtain ⟨b5, e5⟩ : BoOk (C 5) := by simpa [CellOk] using hC 5 (by omega)
  obtain ⟨b6, e6⟩ : BoOk (C 6) := by simpa [CellOk] using hC 6 (by omega)
  have h7 : SlOk σ 9 B.nn (C 7) := by simpa [CellOk] using hC 7 (by omega)
  obtain ⟨a, c, ns, e7, hS, hc, hl, hz⟩ := h.strs h7
  refine ⟨⟨s0, s1, b2, b3, b4, b5, b6, ns⟩, ⟨a, c, by rw [e0, e1, e2, e3, e4, e5, e6, e7], hS, hc, by simp only [maxLen]; omega, by simp only [maxLen]; omega, by simp only; omega⟩, ?_, z0, z1, hl, hz⟩
  have hsum : ∀ n, sumTo ns n ≤ 12 * n := fun n => by
    induction n with
    | zero => simp [sumTo]
    | succ n ih => rw [sumTo_succ]; have := hz n; omega
  have := hsum ns.length
  simp only [szF, szNs]
  omega
theorem Wf.fields {w : World} {σ : Sh} {B : Bd} (h : Wf w σ B) {v : Value} {N : Nat} (hv : SlOk σ 54 N v) (hN : N ≤ 1000000) (hnn : B.nn ≤ 3) :
    ∃ (a : Option Addr) (c : Nat) (fs : List F), v = .slice a fs.length c ∧ FsRep w (· < w.heap.size) fs a ∧ fs.length ≤ c ∧ fs.length ≤ N ∧ (∀ i, szF (fth fs i) ≤ 24 + 13 * B.nn) ∧ (∀ i, SmF B.nn (fth fs i)) := by
  obtain ⟨a, len, cap, rfl, h1, h2, h3, h4⟩ := hv
  rcases h4 with ⟨rfl, rfl, rfl⟩ | ⟨b, rfl, hb⟩
  · exact ⟨none, 0, [], rfl, ⟨by simp, fun _ _ => undef, fun h => by simp at h, fun i hi => by simp at hi⟩, by simp, by simp, (fun i => by simp [fth, F.zero, szF, szNs, sumTo]), fun i => by simpa [fth] using SmF.zero B.nn⟩
  · have hall : ∀ i j, i < len → j < 8 → ∃ v, w.cell? ⟨b, i * 8 + j, none⟩ = some v ∧ CellOk σ B 54 j v := fun i j hi hj => by
      obtain ⟨v, hc, ho, -⟩ := h.cell hb i j (by omega) (by rw [wideF]; omega)
      rw [wideF] at hc
      exact ⟨v, hc, ho⟩
    have hall' : ∀ i j, ∃ v, i < len → j < 8 → w.cell? ⟨b, i * 8 + j, none⟩ = some v ∧ CellOk σ B 54 j v := fun i j => by
      by_cases hi : i < len
      · by_cases hj : j < 8
        · obtain ⟨v, hv⟩ := hall i j hi hj; exact ⟨v, fun _ _ => hv⟩
        · exact ⟨undef, fun _ h => absurd h hj⟩
      · exact ⟨undef, fun h => absurd h hi⟩
    let C : Nat → Nat → Value := fun i j => Classical.choose (hall' i j)
    have hC : ∀ i j, i < len → j < 8 → w.cell? ⟨b, i * 8 + j, none⟩ = some (C i j) ∧ CellOk σ B 54 j (C i j) := fun i j => Classical.choose_spec (hall' i j)
    have hF : ∀ i, ∃ f : F, i < len → FRep w (· < w.heap.size) f (.agg #[C i 0, C i 1, C i 2, C i 3, C i 4, C i 5, C i 6, C i 7]) ∧ szF f ≤ 24 + 13 * B.nn ∧ SmF B.nn f := fun i => by
      by_cases hi : i < len
      · obtain ⟨f, hf⟩ := h.field (C i) (fun j hj => (hC i j hi hj).2) hnn; exact ⟨f, fun _ => hf⟩
      · exact ⟨F.zero, fun h => absurd h hi⟩
    let f : Nat → F := fun i => Classical.choose (hF i)
    have hf : ∀ i, i < len → FRep w (· < w.heap.size) (f i) (.agg #[C i 0, C i 1, C i 2, C i 3, C i 4, C i 5, C i 6, C i 7]) ∧ szF (f i) ≤ 24 + 13 * B.nn ∧ SmF B.nn (f i) := fun i => Classical.choose_spec (hF i)
    have hlen : ((List.range len).map f).length = len := by simp
    have hn : ∀ i, i < len → fth ((List.range len).map f) i = f i := fun i hi => by simp [fth, List.getD_eq_getElem?_getD, hi]
    refine ⟨some ⟨b, 0, none⟩, cap, (List.range len).map f, by rw [hlen], ⟨by rw [hlen]; omega, C, fun _ => ⟨b, 0, rfl, h.lt hb, fun i hi j hj => ?_⟩, fun i hi => ?_⟩, by rw [hlen]; exact h2, by rw [hlen]; exact h1, fun i => ?_, fun i => ?_⟩
    · rw [hlen] at hi; rw [Nat.zero_add]; exact (hC i j hi hj).1
    · rw [hlen] at hi; rw [hn i hi]; exact (hf i hi).1
    · by_cases hi : i < len
      · rw [hn i hi]; exact (hf i hi).2.1
      · simp [fth, List.getD_eq_getElem?_getD, hi, F.zero, szF, szNs, sumTo]
    · by_cases hi : i < len
      · rw [hn i hi]; exact (hf i hi).2.2
      · have e : fth ((List.range len).map f) i = F.zero := by simp [fth, List.getD_eq_getElem?_getD, hi]
        rw [e]; exact SmF.zero _
theorem Wf.type {w : World} {σ : Sh} {B : Bd} (h : Wf w σ B) (C : Nat → Value) (hC : ∀ j, j < 3 → CellOk σ B 52 j (C j)) (hnn : B.nn ≤ 3) (hnf : B.nf ≤ 1000000) :
    ∃ t : T, TRep w (· < w.heap.size) t (.agg #[C 0, C 1, C 2]) ∧ szT t ≤ 24 + (25 + 13 * B.nn) * B.nf ∧ C 0 = .string t.name ∧ SmT B.nf B.nn t := by
  obtain ⟨s0, e0, z0, -⟩ : NmOk B.st (C 0) := by simpa [CellOk] using hC 0 (by omega)
  obtain ⟨s1, e1, z1⟩ : StOk (C 1) := by simpa [CellOk] using hC 1 (by omega)
  have h2 : SlOk σ 54 B.nf (C 2) := by simpa [CellOk] using hC 2 (by omega)
  obtain ⟨a, c, fs, e2, hS, hc, hl, hz, hsm⟩ := h.fields h2 hnf hnn
  refine ⟨⟨s0, s1, fs⟩, ⟨a, c, by rw [e0, e1, e2], hS, hc, by simp only [maxLen]; omega, by simp only [maxLen]; omega⟩, ?_, e0, z0, z1, hl, hsm⟩
  have hsum : ∀ n, szFsTo fs n ≤ (24 + 13 * B.nn) * n := fun n => by
    induction n with
    | zero => simp [szFsTo]
    | succ n ih => rw [szFsTo_succ, Nat.mul_succ]; have := hz n; omega
  have := hsum fs.length
  have h5 : (24 + 13 * B.nn) * fs.length ≤ (24 + 13 * B.nn) * B.nf := Nat.mul_le_mul_left _ hl
  simp only [szT, szFs]
  have h6 : (25 + 13 * B.nn) * B.nf = (24 + 13 * B.nn) * B.nf + B.nf := by rw [show 25 + 13 * B.nn = (24 + 13 * B.nn) + 1 by omega, Nat.add_mul, Nat.one_mul]
  omega
theorem Wf.types {w : World} {σ : Sh} {B : Bd} (h : Wf w σ B) {b off len cap c' : Nat} (hb : σ b = some (52, cap)) (hl : off + len ≤ cap) (hN : len ≤ 1000000) (hc' : len ≤ c') (hnn : B.nn ≤ 3) (hnf : B.nf ≤ 1000000) (s : ByteArray) (hs : s.size ≤ 12) :
    ∃ ts : List T, ts.length = len ∧ PRep w (· < w.heap.size) ⟨s, ts⟩ (.agg #[.string s, .slice (some ⟨b, off * 3, none⟩) len c']) ∧ (∀ i, i < len → w.cell? ⟨b, (off + i) * 3, none⟩ = some (.string (tth ts i).name)) ∧ szP ⟨s, ts⟩ ≤ 12 + (25 + (25 + 13 * B.nn) * B.nf) * len ∧ (∀ i, SmT B.nf B.nn (tth ts i)) := by
  have hall : ∀ i j, i < len → j < 3 → ∃ v, w.cell? ⟨b, (off + i) * 3 + j, none⟩ = some v ∧ CellOk σ B 52 j v := fun i j hi hj => by
    obtain ⟨v, hc, ho, -⟩ := h.cell hb (off + i) j (by omega) (by rw [wideT]; omega)
    rw [wideT] at hc
    exact ⟨v, hc, ho⟩
  have hall' : ∀ i j, ∃ v, i < len → j < 3 → w.cell? ⟨b, (off + i) * 3 + j, none⟩ = some v ∧ CellOk σ B 52 j v := fun i j => by
    by_cases hi : i < len
    · by_cases hj : j < 3
      · obtain ⟨v, hv⟩ := hall i j hi hj; exact ⟨v, fun _ _ => hv⟩
      · exact ⟨undef, fun _ h => absurd h hj⟩
    · exact ⟨undef, fun h => absurd h hi⟩
  let C : Nat → Nat → Value := fun i j => Classical.choose (hall' i j)
  have hC : ∀ i j, i < len → j < 3 → w.cell? ⟨b, (off + i) * 3 + j, none⟩ = some (C i j) ∧ CellOk σ B 52 j (C i j) := fun i j => Classical.choose_spec (hall' i j)
  have hF : ∀ i, ∃ t : T, i < len → TRep w (· < w.heap.size) t (.agg #[C i 0, C i 1, C i 2]) ∧ szT t ≤ 24 + (25 + 13 * B.nn) * B.nf ∧ C i 0 = .string t.name ∧ SmT B.nf B.nn t := fun i => by
    by_cases hi : i < len
    · obtain ⟨f, hf⟩ := h.type (C i) (fun j hj => (hC i j hi hj).2) hnn hnf; exact ⟨f, fun _ => hf⟩
    · exact ⟨T.zero, fun h => absurd h hi⟩
  let f : Nat → T := fun i => Classical.choose (hF i)
  have hf : ∀ i, i < len → TRep w (· < w.heap.size) (f i) (.agg #[C i 0, C i 1, C i 2]) ∧ szT (f i) ≤ 24 + (25 + 13 * B.nn) * B.nf ∧ C i 0 = .string (f i).name ∧ SmT B.nf B.nn (f i) := fun i => Classical.choose_spec (hF i)
  have hlen : ((List.range len).map f).length = len := by simp
  have hn : ∀ i, i < len → tth ((List.range len).map f) i = f i := fun i hi => by simp [tth, List.getD_eq_getElem?_getD, hi]
  refine ⟨(List.range len).map f, hlen, ⟨some ⟨b, off * 3, none⟩, c', by rw [hlen], ⟨by rw [hlen]; omega, C, fun _ => ⟨b, off * 3, rfl, h.lt hb, fun i hi j hj => ?_⟩, fun i hi => ?_⟩, by rw [hlen]; exact hc', by simp only; unfold maxLen; omega⟩, fun i hi => ?_, ?_, fun i => ?_⟩
  · rw [hlen] at hi
    rw [show off * 3 + i * 3 + j = (off + i) * 3 + j by omega]
    exact (hC i j hi hj).1
  · rw [hlen] at hi; rw [hn i hi]; exact (hf i hi).1
  · rw [hn i hi, ← (hf i hi).2.2.1]
    exact (hC i 0 hi (by omega)).1
  · have hsum : ∀ n, n ≤ len → szTsTo ((List.range len).map f) n ≤ (24 + (25 + 13 * B.nn) * B.nf) * n := fun n => by
      induction n with
      | zero => intro _; simp [szTsTo]
      | succ n ih => intro hn'; rw [szTsTo_succ, Nat.mul_succ, hn n (by omega)]; have := (hf n (by omega)).2.1; have := ih (by omega); omega
    have := hsum len (Nat.le_refl _)
    simp only [szP, szTs, hlen]
    rw [show 25 + (25 + 13 * B.nn) * B.nf = (24 + (25 + 13 * B.nn) * B.nf) + 1 by omega, Nat.add_mul, Nat.one_mul]
    omega
  · by_cases hi : i < len
    · rw [hn i hi]; exact (hf i hi).2.2.2
    · have e : tth ((List.range len).map f) i = T.zero := by simp [tth, List.getD_eq_getElem?_getD, hi]
      rw [e]; exact SmT.zero _ _
end Go.Proofs.YtokmgbidmnanpaaGreatDoor
namespace Go.Proofs.YtokmgbidmnanpaaGreatDoor
open Go.RowKit Go.Maps
def TN (w : World) (b len : Nat) (nm : ByteArray) : Prop := ∃ i, i < len ∧ w.cell? ⟨b, i * 3, none⟩ = some (.string nm)
theorem bytes_eqB {a b : ByteArray} : (a.toList == b.toList) = true ↔ a = b := by
  constructor
  · intro h
    have h1 : a.toList = b.toList := by simpa using h
    rw [ByteArray.toList_eq, ByteArray.toList_eq] at h1
    cases a; cases b; congr; exact Array.toList_inj.1 h1
  · rintro rfl; simp
set_option maxHeartbeats 400000 in
theorem l2Type_wf (w : World) (σ : Sh) (B : Bd) (s nm : ByteArray) (b len cap : Nat) (hW : Wf w σ B) (hs : s.size ≤ 12) (hb : σ b = some (52, cap)) (hl : len ≤ cap) (hN : len ≤ 1000000) (hnn : B.nn ≤ 3) (hnf : B.nf ≤ 1000000) :
    Calls Tryz.prog 112 #[.agg #[.string s, .slice (some ⟨b, 0, none⟩) len cap], .string nm] w fun e w' => ∃ k : Int, e = .returned (.int .i64 k) ∧ -1 ≤ k ∧ k < len ∧ (0 ≤ k ↔ TN w b len nm) ∧ Below w.heap.size w w' := by
  obtain ⟨ts, hlen, hP, hnm, -⟩ := hW.types (off := 0) (c' := cap) hb (by omega) hN hl hnn hnf s hs
  subst hlen
  refine (l2Type_any _ w w.heap.size _ nm (by simpa using hP) (Nat.le_refl _)).mono fun e w' h => ?_
  obtain ⟨he, hbl⟩ := h
  refine ⟨_, he, ?_, ?_, ?_, hbl⟩
  all_goals rcases firstTo_cases (fun i => (tth ts i).name.toList == nm.toList) ts.length with ⟨hx, hno⟩ | ⟨g, hx, hg, hyes, -⟩
  all_goals simp only [hx]
  · omega
  · omega
  · omega
  · omega
  · refine ⟨fun h => by omega, fun ⟨i, hi, hc⟩ => ?_⟩
    have h1 := hnm i hi
    rw [Nat.zero_add] at h1
    rw [h1] at hc
    simp only [Option.some.injEq, Value.string.injEq] at hc
    have h2 := hno i hi
    rw [hc] at h2
    simp at h2
  · refine ⟨fun _ => ⟨g, hg, ?_⟩, fun _ => by omega⟩
    have h1 := hnm g hg
    rw [Nat.zero_add] at h1
    rw [h1, bytes_eqB.1 hyes]
theorem infoT : (Tryz.prog.info? 52).map (fun i => (i.zero, i.size, i.bytes)) = some (some (.agg #[.string ByteArray.empty, .string ByteArray.empty, .slice none 0 0]), 3, 56) := by kernel_rfl
theorem infoF : (Tryz.prog.info? 54).map (fun i => (i.zero, i.size, i.bytes)) = some (some (.agg #[.string ByteArray.empty, .string ByteArray.empty, .bool false, .bool false, .bool false, .bool false, .bool false, .slice none 0 0]), 8, 64) := by kernel_rfl
theorem sl_nil (σ : Sh) (T : TypeId) (N : Nat) : SlOk σ T N (.slice none 0 0) := ⟨none, 0, 0, rfl, Nat.zero_le _, Nat.le_refl _, Nat.zero_le _, Or.inl ⟨rfl, rfl, rfl⟩⟩
theorem sc_empty : scalarB ByteArray.empty = false := by simp [scalarB, isT, ByteArray.toList_eq]
theorem fieldCells (σ : Sh) (B : Bd) (n o : ByteArray) (l m f h s : Bool) (nv : Value) (hn : n.size ≤ 12) (ho : o.size ≤ 12) (hv : SlOk σ 9 B.nn nv) : ∀ j u, (#[.string n, .string o, .bool l, .bool m, .bool f, .bool h, .bool s, nv] : Array Value)[j]? = some u → CellOk σ B 54 j u := fun j u hu => by
  rcases j with _ | _ | _ | _ | _ | _ | _ | _ | j
  · simp at hu; subst hu; simp [CellOk, StOk]; exact hn
  · simp at hu; subst hu; simp [CellOk, StOk]; exact ho
  · simp at hu; subst hu; simp [CellOk, BoOk]
  · simp at hu; subst hu; simp [CellOk, BoOk]
  · simp at hu; subst hu; simp [CellOk, BoOk]
  · simp at hu; subst hu; simp [CellOk, BoOk]
  · simp at hu; subst hu; simp [CellOk, BoOk]
  · simp at hu; subst hu; simpa [CellOk] using hv
  · simp at hu
theorem typeCells (σ : Sh) (B : Bd) (n k : ByteArray) (fv : Value) (hn : n.size ≤ 12) (hsc : B.st = true → scalarB n = false) (hk : k.size ≤ 12) (hv : SlOk σ 54 B.nf fv) : ∀ j u, (#[.string n, .string k, fv] : Array Value)[j]? = some u → CellOk σ B 52 j u := fun j u hu => by
  rcases j with _ | _ | _ | j
  · simp at hu; subst hu; simp [CellOk, NmOk]; exact ⟨hn, hsc⟩
  · simp at hu; subst hu; simp [CellOk, StOk]; exact hk
  · simp at hu; subst hu; simpa [CellOk] using hv
  · simp at hu
theorem zeroT (σ : Sh) (B : Bd) : ∀ j u, (Value.agg #[.string ByteArray.empty, .string ByteArray.empty, .slice none 0 0]).cells[j]? = some u → CellOk σ B 52 j u := typeCells σ B _ _ _ (by decide) (fun _ => sc_empty) (by decide) (sl_nil _ _ _)
theorem zeroF (σ : Sh) (B : Bd) : ∀ j u, (Value.agg #[.string ByteArray.empty, .string ByteArray.empty, .bool false, .bool false, .bool false, .bool false, .bool false, .slice none 0 0]).cells[j]? = some u → CellOk σ B 54 j u := fieldCells σ B _ _ _ _ _ _ _ _ (by decide) (by decide) (sl_nil _ _ _)
theorem cells_one {σ : Sh} {B : Bd} {T : TypeId} {cs : Array Value} (hz : cs.size = wide T) (h : ∀ j u, cs[j]? = some u → CellOk σ B T j u) : ∀ k v, cs[k]? = some v → CellOk σ B T (k % wide T) v := fun k v hv => by
  have hk := (Array.getElem?_eq_some_iff.1 hv).1
  rw [hz] at hk
  rw [Nat.mod_eq_of_lt hk]
  exact h k v hv
theorem cells_list {σ : Sh} {B : Bd} {T : TypeId} {cs : Array Value} (hz : cs.size = wide T) (h : ∀ j u, cs[j]? = some u → CellOk σ B T j u) : ∀ k v, cs.toList[k]? = some v → CellOk σ B T (k % wide T) v := fun k v hv => cells_one hz h k v (by simpa using hv)
theorem sets2_cells {W : World} {N : Nat} {a b : Value} {T : TypeId} (h : W.heap[N]? = some (.cells #[a, b] T (0, 0))) (v0 v1 : Value) :
    ((W.setCell ⟨N, 0, none⟩ v0).setCell ⟨N, 1, none⟩ v1).cell? ⟨N, 0, none⟩ = some v0 ∧ ((W.setCell ⟨N, 0, none⟩ v0).setCell ⟨N, 1, none⟩ v1).cell? ⟨N, 1, none⟩ = some v1 := by
  have h2 := set_box (set_box h 0 v0) 1 v1
  exact ⟨(box_at h2 0 (by simp)).1, (box_at h2 1 (by simp)).1⟩
theorem needResult (FW : World) (tmps : Array Value) (N : Nat) (v0 v1 : Value) (h4 : tmps.getD 4 undef = .pointer (some ⟨N, 0, none⟩))
    (d0 : FW.cell? ⟨N, 0, none⟩ = some v0) (d1 : FW.cell? ⟨N, 1, none⟩ = some v1) :
    (results Tryz.f133 tmps).run Tryz.prog FW = .ok (.agg #[v0, v1]) FW := by
  simp only [Array.getD_eq_getD_getElem?] at h4
  simp [results, Tryz.results133, go_sem, h4, d0, d1]
theorem boxes2 {w w1 : World} {c1 c2 : Array Value} {T1 T2 : TypeId} (hb : Below ((w.alloc (.cells c1 T1)).alloc (.cells c2 T2)).heap.size ((w.alloc (.cells c1 T1)).alloc (.cells c2 T2)) w1) :
    w1.heap[w.heap.size]? = some (.cells c1 T1 (0, 0)) ∧ w1.heap[w.heap.size + 1]? = some (.cells c2 T2 (0, 0)) ∧ w.heap.size + 1 < w1.heap.size ∧ Below w.heap.size w w1 := by
  have hz := hb.size
  simp at hz
  refine ⟨(hb.block _ (by simp; omega)).trans ?_, (hb.block _ (by simp)).trans (block_new _ _ (by simp)), by omega, (below_box2 w _ _).trans (hb.mono (by simp; omega))⟩
  rw [(below_box _ _).block _ (by simp)]
  exact block_new _ _ rfl
def NeedEnd (w : World) (σ : Sh) (B : Bd) (s nm : ByteArray) (b len : Nat) (e : Ending) (w' : World) : Prop :=
  ∃ (σ' : Sh) (b' len' cap' : Nat), e = .returned (.agg #[.string s, .slice (some ⟨b', 0, none⟩) len' cap']) ∧ Wf w' σ' B ∧ Ext σ σ' ∧ (∀ x, x < w.heap.size → σ' x = σ x) ∧ Only (Hot σ) w w' ∧ len ≤ len' ∧ len' ≤ len + 1 ∧ len' ≤ cap' ∧ cap' ≤ maxLen ∧ σ' b' = some (52, cap') ∧ (∀ x, TN w b len x → TN w' b' len' x) ∧ (scalarB nm = false → TN w' b' len' nm)
theorem need_close {w W3 wP Wz : World} {σ σ' : Sh} {B : Bd} {s nm : ByteArray} {b len cap g cap' FB : Nat} (hW : Wf w σ B) (hb : σ b = some (52, cap)) (bw : Below w.heap.size w W3) (hF : w.heap.size + 1 < FB) (hF3 : FB < W3.heap.size)
    (q1 : Wf wP σ' B) (q2 : σ' g = some (52, cap')) (q3 : len + 1 ≤ cap') (q4 : cap' ≤ maxLen) (q5 : Ext (σ.add FB 54 1) σ') (q6 : ∀ x, x < W3.heap.size → σ' x = (σ.add FB 54 1) x) (q7 : W3.grownBy wP (some b))
    (q8 : ∀ j, j < len * 3 → wP.cell? ⟨g, j, none⟩ = W3.cell? ⟨b, j, none⟩) (q9 : wP.cell? ⟨g, len * 3 + 0, none⟩ = some (.string nm))
    (hz : ∀ x, x ≠ w.heap.size → x ≠ w.heap.size + 1 → Wz.heap[x]? = wP.heap[x]?) (hzs : Wz.heap.size = wP.heap.size) (ho : Wz.os = wP.os) (ht : Wz.tape = wP.tape) (hu : Wz.output = wP.output) :
    NeedEnd w σ B s nm b len (.returned (.agg #[.string s, .slice (some ⟨g, 0, none⟩) (len + 1) cap'])) Wz := by
  have hbl := hW.lt hb
  have hs3 := bw.size
  have hsg : ∀ x, x < w.heap.size → σ' x = σ x := fun x hx => by rw [q6 x (by omega), Sh.add_ne _ _ _ _ _ (by omega)]
  have n0 : σ' w.heap.size = none := by rw [q6 _ (by omega), Sh.add_ne _ _ _ _ _ (by omega)]; exact hW.fresh (Nat.le_refl _)
  have n1 : σ' (w.heap.size + 1) = none := by rw [q6 _ (by omega), Sh.add_ne _ _ _ _ _ (by omega)]; exact hW.fresh (by omega)
  have hk : ∀ x T n, σ' x = some (T, n) → Wz.heap[x]? = wP.heap[x]? := fun x T n hx => hz x (fun e => by subst e; rw [n0] at hx; cases hx) (fun e => by subst e; rw [n1] at hx; cases hx)
  have hgc : ∀ j, Wz.cell? ⟨g, j, none⟩ = wP.cell? ⟨g, j, none⟩ := fun j => World.cell?_of_block (a := ⟨g, j, none⟩) (hk _ _ _ q2)
  have hbc : ∀ j, W3.cell? ⟨b, j, none⟩ = w.cell? ⟨b, j, none⟩ := fun j => bw.cell (p := ⟨b, j, none⟩) hbl
  refine ⟨σ', g, len + 1, cap', rfl, q1.keep hk, (Sh.add_ext (hW.fresh (by omega))).trans q5, hsg, ⟨by rw [ho, q7.os, bw.os], by rw [ht, q7.tape, bw.tape], by rw [hu, q7.output, bw.output], by have := q7.size; omega, fun x hx hn => ?_⟩, by omega, by omega, q3, q4, q2, fun x hx => ?_, fun _ => ⟨len, by omega, ?_⟩⟩
  · rw [hz x (by omega) (by omega), q7.block x (by omega) (fun e => hn ⟨_, _, by cases e; exact hb, by decide⟩), bw.block x hx]
  · obtain ⟨i, hi, hc⟩ := hx
    exact ⟨i, by omega, by rw [hgc, q8 _ (by omega), hbc]; exact hc⟩
  · rw [hgc]; exact q9
set_option maxRecDepth 20000 in
set_option maxHeartbeats 1600000 in
theorem l11Need_any (w : World) (σ : Sh) (B : Bd) (s nm : ByteArray) (b len cap : Nat) (hW : Wf w σ B) (hs : s.size ≤ 12) (hb : σ b = some (52, cap)) (hl : len ≤ cap) (hcm : cap ≤ maxLen) (hN : len ≤ 100000) (hnm : nm.size ≤ 12) (hnn : B.nn ≤ 3) (hnf : B.nf ≤ 1000000) (hnf1 : 1 ≤ B.nf) :
    Calls Tryz.prog 133 #[.agg #[.string s, .slice (some ⟨b, 0, none⟩) len cap], .string nm] w (NeedEnd w σ B s nm b len) := by
  have hS := l2Scalar_any nm
  have HT : Hid (∀ W, Below w.heap.size w W → Calls Tryz.prog 112 #[.agg #[.string s, .slice (some ⟨b, 0, none⟩) len cap], .string nm] W fun e w' => ∃ k : Int, e = .returned (.int .i64 k) ∧ -1 ≤ k ∧ k < len ∧ (0 ≤ k ↔ TN w b len nm) ∧ Below W.heap.size W w') := hid_of fun W hWb => (l2Type_wf W σ B s nm b len cap (hW.below hWb) hs hb hl (by omega) hnn hnf).mono fun e w' ⟨k, h1, h2, h3, h4, h5⟩ => ⟨k, h1, h2, h3, h4.trans (by
      have : ∀ i, W.cell? ⟨b, i * 3, none⟩ = w.cell? ⟨b, i * 3, none⟩ := fun i => hWb.cell (p := ⟨b, i * 3, none⟩) (hW.lt hb)
      simp only [TN, this]), h5⟩
  have HSTAY : Hid (∀ W, Below w.heap.size w W → (scalarB nm = false → TN w b len nm) → NeedEnd w σ B s nm b len (.returned (.agg #[.string s, .slice (some ⟨b, 0, none⟩) len cap])) W) := hid_of fun W hWb htn => by
    have hc : ∀ i, W.cell? ⟨b, i * 3, none⟩ = w.cell? ⟨b, i * 3, none⟩ := fun i => hWb.cell (p := ⟨b, i * 3, none⟩) (hW.lt hb)
    exact ⟨σ, b, len, cap, rfl, hW.below hWb, Ext.refl _, fun _ _ => rfl, Only.of_below _ hWb, Nat.le_refl _, by omega, hl, hcm, hb, fun x hx => by simpa only [TN, hc] using hx, fun h => by simpa only [TN, hc] using htn h⟩
  cases hsc : scalarB nm
  case true =>
    rw [hsc] at hS
    go_enter Tryz.func133, Tryz.ntmps133
    go_wp2_with (go_at_call 109; refine (hS _).mono ?_; rintro e w' ⟨rfl, rfl⟩)
    refine bodyPost_ret (needResult _ _ (w.heap.size + 1) (.string s) (.slice (some ⟨b, 0, none⟩) len cap) rfl (by simp) (by simp)) rfl ?_
    exact HSTAY.out _ (below_box2 _ _ _) (fun h => by rw [hsc] at h; cases h)
  rw [hsc] at hS
  go_enter Tryz.func133, Tryz.ntmps133
  go_wp2_with (go_at_call 109; refine (hS _).mono ?_; rintro e w' ⟨rfl, rfl⟩)
  refine (HT.out _ (below_box2 _ _ _)).mono ?_
  rintro e w1 ⟨k, rfl, hk1, hk2, hk3, hb1⟩
  obtain ⟨pb, rb, hz1, bw⟩ := boxes2 hb1
  clear hb1
  obtain ⟨p0, -⟩ := box_at pb 0 (by simp)
  obtain ⟨p1, pf1⟩ := box_at pb 1 (by simp)
  obtain ⟨r0, rf0⟩ := box_at rb 0 (by simp)
  obtain ⟨r1, rf1⟩ := box_at rb 1 (by simp)
  simp only [List.getElem_toArray, List.getElem_cons_zero, List.getElem_cons_succ] at p0 p1 r0 r1
  have hlt1 : w.heap.size < w1.heap.size := by omega
  have A2 : ∀ o o', ((w1.alloc o).alloc o').cell? ⟨w.heap.size, 1, none⟩ = some (.slice (some ⟨b, 0, none⟩) len cap) := fun o o' => ((below_box2 w1 o o').cell (p := ⟨w.heap.size, 1, none⟩) hlt1).trans p1
  have A3 : ∀ o o' o'', (((w1.alloc o).alloc o').alloc o'').cell? ⟨w.heap.size, 1, none⟩ = some (.slice (some ⟨b, 0, none⟩) len cap) := fun o o' o'' => ((below_box _ _).cell (p := ⟨w.heap.size, 1, none⟩) (by simp; omega)).trans (A2 o o')
  have B3 : ∀ o o' o'', Below w.heap.size w (((w1.alloc o).alloc o').alloc o'') := fun o o' o'' => (bw.trans ((below_box2 w1 o o').mono (by omega))).alloc (by simp; omega) o''
  obtain ⟨iT, hiT, hzT, hsT, hbT⟩ := info_parts infoT
  have HEND : Hid (∀ W3 wP g cap' σ' FB, Below w.heap.size w W3 → w1.heap.size ≤ FB → FB < W3.heap.size → W3.heap[w.heap.size]? = w1.heap[w.heap.size]? → W3.heap[w.heap.size + 1]? = w1.heap[w.heap.size + 1]? → Wf wP σ' B → σ' g = some (52, cap') → len + 1 ≤ cap' → cap' ≤ maxLen → Ext (σ.add FB 54 1) σ' → (∀ x, x < W3.heap.size → σ' x = (σ.add FB 54 1) x) → W3.grownBy wP (some b) →
      (∀ j, j < len * 3 → wP.cell? ⟨g, j, none⟩ = W3.cell? ⟨b, j, none⟩) → wP.cell? ⟨g, len * 3 + 0, none⟩ = some (.string nm) →
      NeedEnd w σ B s nm b len (.returned (.agg #[.string s, .slice (some ⟨g, 0, none⟩) (len + 1) cap'])) (((wP.setCell ⟨w.heap.size, 1, none⟩ (.slice (some ⟨g, 0, none⟩) (len + 1) cap')).setCell ⟨w.heap.size + 1, 0, none⟩ (.string s)).setCell ⟨w.heap.size + 1, 1, none⟩ (.slice (some ⟨g, 0, none⟩) (len + 1) cap')) ∧
      wP.heap[w.heap.size]? = some (.cells #[.string s, .slice (some ⟨b, 0, none⟩) len cap] 43 (0, 0)) ∧ wP.heap[w.heap.size + 1]? = some (.cells #[.string ⟨#[]⟩, .slice none 0 0] 43 (0, 0)) ∧ w.heap.size + 1 < wP.heap.size) := hid_of fun W3 wP g cap' σ' FB b3 hF hF3 e0 e1 q1 q2 q3 q4 q5 q6 q7 q8 q9 => by
    have hbl := hW.lt hb
    have z3 := b3.size
    refine ⟨need_close hW hb b3 (by omega) hF3 q1 q2 q3 q4 q5 q6 q7 q8 q9 (fun x h0 h1 => ?_) (by simp [size_set]) rfl rfl rfl, ?_, ?_, ?_⟩
    · rw [Below.heap_setCell _ _ _ _ h1, Below.heap_setCell _ _ _ _ h1, Below.heap_setCell _ _ _ _ h0]
    · rw [q7.block _ (by omega) (by intro e; cases e; omega), e0]; exact pb
    · rw [q7.block _ (by omega) (by intro e; cases e; omega), e1]; exact rb
    · have := q7.size; omega
  by_cases htn : TN w b len nm
  · have hk4 := hk3.2 htn
    clear A2 A3 HEND
    go_wp2_with fail
    have hd := sets2_cells rb (.string s) (.slice (some ⟨b, 0, none⟩) len cap)
    refine bodyPost_ret (needResult _ _ (w.heap.size + 1) (.string s) (.slice (some ⟨b, 0, none⟩) len cap) rfl hd.1 hd.2) rfl ?_
    · exact HSTAY.out _ ((bw.setCell (by show w.heap.size ≤ w.heap.size + 1; omega) _).setCell (by show w.heap.size ≤ w.heap.size + 1; omega) _) (fun _ => htn)
  have hk4 : k < 0 := by
    have h : ¬ 0 ≤ k := fun h => htn (hk3.1 h)
    omega
  cases hno : (nm.toList == [110, 111, 116, 101])
  case true =>
    have WF : ∀ o o', Wf (((w1.alloc o).alloc (.cells #[.string ⟨#[98, 111, 100, 121]⟩, .string ⟨#[116, 101, 120, 116]⟩, .bool false, .bool true, .bool false, .bool false, .bool true, .slice none 0 0] 54)).alloc o') (σ.add (w1.heap.size + 1) 54 1) B ∧ Below w.heap.size w (((w1.alloc o).alloc (.cells #[.string ⟨#[98, 111, 100, 121]⟩, .string ⟨#[116, 101, 120, 116]⟩, .bool false, .bool true, .bool false, .bool false, .bool true, .slice none 0 0] 54)).alloc o') ∧ (((w1.alloc o).alloc (.cells #[.string ⟨#[98, 111, 100, 121]⟩, .string ⟨#[116, 101, 120, 116]⟩, .bool false, .bool true, .bool false, .bool false, .bool true, .slice none 0 0] 54)).alloc o').heap[w.heap.size]? = w1.heap[w.heap.size]? ∧ (((w1.alloc o).alloc (.cells #[.string ⟨#[98, 111, 100, 121]⟩, .string ⟨#[116, 101, 120, 116]⟩, .bool false, .bool true, .bool false, .bool false, .bool true, .slice none 0 0] 54)).alloc o').heap[w.heap.size + 1]? = w1.heap[w.heap.size + 1]? := fun o o' => by
      have hB : Below w1.heap.size w1 (((w1.alloc o).alloc (.cells #[.string ⟨#[98, 111, 100, 121]⟩, .string ⟨#[116, 101, 120, 116]⟩, .bool false, .bool true, .bool false, .bool false, .bool true, .slice none 0 0] 54)).alloc o') := (below_box2 w1 _ _).alloc (by simp; omega) _
      refine ⟨(hW.below (bw.trans (hB.mono (by omega)))).add (hW.fresh (by omega)) ?_ rfl (cells_one rfl (fieldCells _ _ ⟨#[98, 111, 100, 121]⟩ ⟨#[116, 101, 120, 116]⟩ false true false false true _ (by decide) (by decide) (sl_nil _ _ _))), bw.trans (hB.mono (by omega)), hB.block _ (by omega), hB.block _ (by omega)⟩
      rw [(below_box _ _).block _ (by simp)]
      exact block_new _ _ (by simp)
    have TOK := typeCells (σ.add (w1.heap.size + 1) 54 1) B nm ⟨#[]⟩ (.slice (some ⟨w1.heap.size + 1, 0, none⟩) 1 1) hnm (fun _ => hsc) (by decide) ⟨_, 1, 1, rfl, hnf1, by omega, by simp [maxLen], Or.inr ⟨_, rfl, Sh.add_self _ _ _ _⟩⟩
    have HWF := hid_of WF
    have HTOK := hid_of TOK
    clear WF TOK A3
    go_wp2_with (
      at_builtin
      (refine wpList_append_wf (HWF.out _ _).1 rfl _ _ 41 rfl 52 iT _ 56 Tryz.underlying41 hiT hzT hsT hbT rfl (zeroT _ _) (some ⟨b, 0, none⟩) len cap rfl hl hcm (Or.inr ⟨b, rfl, (Sh.add_ext (hW.fresh (by omega))) _ _ _ hb⟩) ⟨w1.heap.size + 1 + 1, 0, none⟩ 1 1 [.string nm, .string ⟨#[]⟩, .slice (some ⟨w1.heap.size + 1, 0, none⟩) 1 1] rfl rfl (World.news_of_block (block_new _ _ (by simp))) (by intro u hu; simp at hu; rcases hu with rfl | rfl | rfl <;> rfl) (cells_list (T := 52) (cs := #[.string nm, .string ⟨#[]⟩, .slice (some ⟨w1.heap.size + 1, 0, none⟩) 1 1]) rfl HTOK.out) (by omega) (by unfold maxLen; omega) (by omega) ?_)
      intro g cap' wP σ' q1 q2 q3 q4 q5 q6 q7 q8 q9
      (obtain ⟨hE, x0, x1, hzP⟩ := HEND.out _ wP g cap' σ' _ (HWF.out _ _).2.1 (by omega) (by simp) (HWF.out _ _).2.2.1 (HWF.out _ _).2.2.2 q1 q2 q3 q4 q5 q6 q7 (q8 b rfl) (q9 0 _ rfl))
      have HE := hid_of hE
      clear hE q1 q2 q5 q6 q7 q8 q9
      obtain ⟨y0, -⟩ := box_at x0 0 (by simp)
      obtain ⟨y1, yf1⟩ := box_at x0 1 (by simp)
      obtain ⟨u0, uf0⟩ := box_at x1 0 (by simp)
      obtain ⟨u1, uf1⟩ := box_at x1 1 (by simp)
      simp only [List.getElem_toArray, List.getElem_cons_zero, List.getElem_cons_succ] at y0 y1 u0 u1)
    have hd := sets2_cells ((Below.heap_setCell wP ⟨w.heap.size, 1, none⟩ (.slice (some ⟨g, 0, none⟩) (len + 1) cap') (w.heap.size + 1) (by show w.heap.size + 1 ≠ w.heap.size; omega)).trans x1) (.string s) (.slice (some ⟨g, 0, none⟩) (len + 1) cap')
    exact bodyPost_ret (needResult _ _ (w.heap.size + 1) (.string s) (.slice (some ⟨g, 0, none⟩) (len + 1) cap') rfl hd.1 hd.2) rfl HE.out
  case false =>
    have WF : ∀ o o1 o', Wf ((((w1.alloc o).alloc o1).alloc (.cells #[.string ⟨#[105, 100]⟩, .string ⟨#[105, 110, 116]⟩, .bool false, .bool true, .bool false, .bool false, .bool false, .slice none 0 0] 54)).alloc o') (σ.add (w1.heap.size + 1 + 1) 54 1) B ∧ Below w.heap.size w ((((w1.alloc o).alloc o1).alloc (.cells #[.string ⟨#[105, 100]⟩, .string ⟨#[105, 110, 116]⟩, .bool false, .bool true, .bool false, .bool false, .bool false, .slice none 0 0] 54)).alloc o') ∧ ((((w1.alloc o).alloc o1).alloc (.cells #[.string ⟨#[105, 100]⟩, .string ⟨#[105, 110, 116]⟩, .bool false, .bool true, .bool false, .bool false, .bool false, .slice none 0 0] 54)).alloc o').heap[w.heap.size]? = w1.heap[w.heap.size]? ∧ ((((w1.alloc o).alloc o1).alloc (.cells #[.string ⟨#[105, 100]⟩, .string ⟨#[105, 110, 116]⟩, .bool false, .bool true, .bool false, .bool false, .bool false, .slice none 0 0] 54)).alloc o').heap[w.heap.size + 1]? = w1.heap[w.heap.size + 1]? := fun o o1 o' => by
      have hB : Below w1.heap.size w1 ((((w1.alloc o).alloc o1).alloc (.cells #[.string ⟨#[105, 100]⟩, .string ⟨#[105, 110, 116]⟩, .bool false, .bool true, .bool false, .bool false, .bool false, .slice none 0 0] 54)).alloc o') := ((below_box2 w1 _ _).alloc (by simp; omega) _).alloc (by simp; omega) _
      refine ⟨(hW.below (bw.trans (hB.mono (by omega)))).add (hW.fresh (by omega)) ?_ rfl (cells_one rfl (fieldCells _ _ ⟨#[105, 100]⟩ ⟨#[105, 110, 116]⟩ false true false false false _ (by decide) (by decide) (sl_nil _ _ _))), bw.trans (hB.mono (by omega)), hB.block _ (by omega), hB.block _ (by omega)⟩
      rw [(below_box _ _).block _ (by simp)]
      exact block_new _ _ (by simp)
    have TOK := typeCells (σ.add (w1.heap.size + 1 + 1) 54 1) B nm ⟨#[105, 100]⟩ (.slice (some ⟨w1.heap.size + 1 + 1, 0, none⟩) 1 1) hnm (fun _ => hsc) (by decide) ⟨_, 1, 1, rfl, hnf1, by omega, by simp [maxLen], Or.inr ⟨_, rfl, Sh.add_self _ _ _ _⟩⟩
    have HWF := hid_of WF
    have HTOK := hid_of TOK
    clear WF TOK A2
    go_wp2_with (
      at_builtin
      (refine wpList_append_wf (HWF.out _ _ _).1 rfl _ _ 41 rfl 52 iT _ 56 Tryz.underlying41 hiT hzT hsT hbT rfl (zeroT _ _) (some ⟨b, 0, none⟩) len cap rfl hl hcm (Or.inr ⟨b, rfl, (Sh.add_ext (hW.fresh (by omega))) _ _ _ hb⟩) ⟨w1.heap.size + 1 + 1 + 1, 0, none⟩ 1 1 [.string nm, .string ⟨#[105, 100]⟩, .slice (some ⟨w1.heap.size + 1 + 1, 0, none⟩) 1 1] rfl rfl (World.news_of_block (block_new _ _ (by simp))) (by intro u hu; simp at hu; rcases hu with rfl | rfl | rfl <;> rfl) (cells_list (T := 52) (cs := #[.string nm, .string ⟨#[105, 100]⟩, .slice (some ⟨w1.heap.size + 1 + 1, 0, none⟩) 1 1]) rfl HTOK.out) (by omega) (by unfold maxLen; omega) (by omega) ?_)
      intro g cap' wP σ' q1 q2 q3 q4 q5 q6 q7 q8 q9
      (obtain ⟨hE, x0, x1, hzP⟩ := HEND.out _ wP g cap' σ' _ (HWF.out _ _ _).2.1 (by omega) (by simp) (HWF.out _ _ _).2.2.1 (HWF.out _ _ _).2.2.2 q1 q2 q3 q4 q5 q6 q7 (q8 b rfl) (q9 0 _ rfl))
      have HE := hid_of hE
      clear hE q1 q2 q5 q6 q7 q8 q9
      obtain ⟨y0, -⟩ := box_at x0 0 (by simp)
      obtain ⟨y1, yf1⟩ := box_at x0 1 (by simp)
      obtain ⟨u0, uf0⟩ := box_at x1 0 (by simp)
      obtain ⟨u1, uf1⟩ := box_at x1 1 (by simp)
      simp only [List.getElem_toArray, List.getElem_cons_zero, List.getElem_cons_succ] at y0 y1 u0 u1)
    have hd := sets2_cells ((Below.heap_setCell wP ⟨w.heap.size, 1, none⟩ (.slice (some ⟨g, 0, none⟩) (len + 1) cap') (w.heap.size + 1) (by show w.heap.size + 1 ≠ w.heap.size; omega)).trans x1) (.string s) (.slice (some ⟨g, 0, none⟩) (len + 1) cap')
    exact bodyPost_ret (needResult _ _ (w.heap.size + 1) (.string s) (.slice (some ⟨g, 0, none⟩) (len + 1) cap') rfl hd.1 hd.2) rfl HE.out
end Go.Proofs.YtokmgbidmnanpaaGreatDoor
namespace Go.Proofs.YtokmgbidmnanpaaGreatDoor
open Go.RowKit
end Go.Proofs.YtokmgbidmnanpaaGreatDoor
namespace Go.Proofs.YtokmgbidmnanpaaGreatDoor
open Go.RowKit
def Pt.zero : Pt := ⟨ByteArray.empty, []⟩
def pth (ps : List Pt) (i : Nat) : Pt := ps.getD i Pt.zero
def sayF (p : Pt) (nm n : ByteArray) : F := fieldOr (typeOr p nm) n
def sayB (p : Pt) (nm n : ByteArray) : Bool := decide (0 ≤ fieldIx (typeOr p nm) n)
def knowB (p : Pt) (nm n : ByteArray) : Bool := sayB p nm n && !(sayF p nm n).far
def ownersTo (ps : List Pt) (nm n : ByteArray) : Nat → List Nat
  | 0 => []
  | k + 1 => ownersTo ps nm n k ++ if knowB (pth ps k) nm n = true then [k] else []
def ownersM (ps : List Pt) (nm n : ByteArray) : List Nat := ownersTo ps nm n ps.length
def keyIx (ps : List Pt) (nm : ByteArray) : Int := firstTo (fun i => !(typeOr (pth ps i) nm).key.toList.isEmpty) ps.length
def keyM (ps : List Pt) (nm : ByteArray) : ByteArray := if 0 ≤ keyIx ps nm then (typeOr (pth ps (keyIx ps nm).toNat) nm).key else ByteArray.empty
def alikeB (f g : F) : Bool := (f.of.toList == g.of.toList) && (f.list == g.list) && (f.must == g.must)
def cntP (q : Nat → Bool) : Nat → Nat
  | 0 => 0
  | k + 1 => cntP q k + if q k = true then 1 else 0
def allTo (q : Nat → Bool) : Nat → Bool
  | 0 => true
  | k + 1 => allTo q k && q k
theorem allTo_iff (q : Nat → Bool) : ∀ n, allTo q n = true ↔ ∀ i, i < n → q i = true
  | 0 => by simp [allTo]
  | n + 1 => by
    rw [allTo, Bool.and_eq_true, allTo_iff q n]
    constructor
    · rintro ⟨h1, h2⟩ i hi
      by_cases e : i = n
      · subst e; exact h2
      · exact h1 i (by omega)
    · exact fun h => ⟨fun i hi => h i (by omega), h n (by omega)⟩
theorem allTo_false {q : Nat → Bool} {n i : Nat} (hi : i < n) (h : q i = false) : allTo q n = false := by
  cases hq : allTo q n
  · rfl
  · rw [(allTo_iff q n).1 hq i hi] at h; cases h
def alikeAt (ps : List Pt) (nm : ByteArray) (f : F) (i : Nat) : Bool := !(sayB (pth ps i) nm f.name) || alikeB f (sayF (pth ps i) nm f.name)
def sharedAt (ps : List Pt) (nm n : ByteArray) (i : Nat) : Bool := sayB (pth ps i) nm n && (sayF (pth ps i) nm n).shared
def needsAt (ps : List Pt) (nm n : ByteArray) (i : Nat) : Bool := sayB (pth ps i) nm n && decide (0 < (sayF (pth ps i) nm n).needs.length)
def plainNeeds (ps : List Pt) (nm : ByteArray) (f : F) : Bool := allTo (fun i => allTo (fun k => !(needsAt ps nm (nth f.needs i) k)) ps.length) f.needs.length
def fieldCode (ps : List Pt) (nm : ByteArray) (f : F) : Int :=
  if allTo (alikeAt ps nm f) ps.length = false then 3
  else if (ownersM ps nm f.name).length = 0 then 6
  else if 1 < (ownersM ps nm f.name).length ∧ (f.name.toList == (keyM ps nm).toList) = false ∧ cntP (sharedAt ps nm f.name) ps.length < (ownersM ps nm f.name).length then 5
  else if 0 < cntP (needsAt ps nm f.name) ps.length ∧ 1 < (ownersM ps nm f.name).length then 7
  else if plainNeeds ps nm f = false then 7
  else 0
def keyOkB (ps : List Pt) (t : T) : Bool := t.key.toList.isEmpty || (t.key.toList == (keyM ps t.name).toList)
def typeOkB (ps : List Pt) (t : T) : Bool := keyOkB ps t && allTo (fun n => fieldCode ps t.name (fth t.fields n) == 0) t.fields.length
def eachB (ps : List Pt) (okp : Pt → Bool) (i : Nat) : Bool := okp (pth ps i) && allTo (fun k => !((pth ps k).name.toList == (pth ps i).name.toList)) i
def partsOkB (ps : List Pt) (okp : Pt → Bool) : Bool := decide (0 < ps.length) && decide (ps.length ≤ 4) && allTo (eachB ps okp) ps.length && allTo (fun i => allTo (fun k => typeOkB ps (tth (pth ps i).types k)) (pth ps i).types.length) ps.length
def putF (t : T) (f : F) : T :=
  if 0 ≤ fieldIx t f.name then
    { t with fields := t.fields.set (fieldIx t f.name).toNat { (fth t.fields (fieldIx t f.name).toNat) with hidden := (fth t.fields (fieldIx t f.name).toNat).hidden || f.hidden, needs := if f.needs.length = 0 then (fth t.fields (fieldIx t f.name).toNat).needs else f.needs } }
  else { t with fields := t.fields ++ [⟨f.name, f.of, f.list, f.must, false, f.hidden, false, f.needs⟩] }
def putTo (o t : T) : Nat → T
  | 0 => o
  | n + 1 => putF (putTo o t n) (fth t.fields n)
def tyIx (out : List T) (nm : ByteArray) : Int := firstTo (fun i => (tth out i).name.toList == nm.toList) out.length
def stepT (ps : List Pt) (out : List T) (t : T) : List T :=
  if 0 ≤ tyIx out t.name then out.set (tyIx out t.name).toNat (putTo (tth out (tyIx out t.name).toNat) t t.fields.length)
  else out ++ [putTo ⟨t.name, keyM ps t.name, []⟩ t t.fields.length]
def typesTo (ps : List Pt) (p : Pt) (out : List T) : Nat → List T
  | 0 => out
  | k + 1 => stepT ps (typesTo ps p out k) (tth p.types k)
def partsTo (ps : List Pt) : Nat → List T
  | 0 => []
  | i + 1 => typesTo ps (pth ps i) (partsTo ps i) (pth ps i).types.length
def allM (ps : List Pt) : Pt := ⟨⟨#[97]⟩, partsTo ps ps.length⟩
def chartB (ps : List Pt) (okp : Pt → Bool) : Bool := partsOkB ps okp && okp (allM ps)
end Go.Proofs.YtokmgbidmnanpaaGreatDoor
namespace Go.Proofs.YtokmgbidmnanpaaGreatDoor
open Go.RowKit
def PsRep (w : World) (P : Nat → Prop) (ps : List Pt) (a : Option Addr) : Prop := 40 * ps.length ≤ 281474976710656 ∧ ∃ C : Nat → Nat → Value, Arr w P 2 ps.length a C ∧ ∀ i, i < ps.length → PRep w P (pth ps i) (.agg #[C i 0, C i 1])
theorem PsRep.mono {w w' : World} {P : Nat → Prop} {ps : List Pt} {a : Option Addr} (h : PsRep w P ps a) (e : ∀ k, P k → w'.heap[k]? = w.heap[k]?) : PsRep w' P ps a := by
  obtain ⟨h0, C, h1, h2⟩ := h; exact ⟨h0, C, h1.mono e, fun i hi => (h2 i hi).mono e⟩
theorem PsRep.sub {w : World} {P Q : Nat → Prop} {ps : List Pt} {a : Option Addr} (h : PsRep w P ps a) (e : ∀ k, P k → Q k) : PsRep w Q ps a := by
  obtain ⟨h0, C, h1, h2⟩ := h; exact ⟨h0, C, h1.sub e, fun i hi => (h2 i hi).sub e⟩
theorem PsRep.under {w w' : World} {B : Nat} {ps : List Pt} {a : Option Addr} (h : PsRep w (· < B) ps a) (hb : Below B w w') : PsRep w' (· < B) ps a := h.mono fun k hk => hb.block k hk
theorem PsRep.at {w : World} {B : Nat} {ps : List Pt} {a : Option Addr} (h : PsRep w (· < B) ps a) (i : Nat) (hi : i < ps.length) :
    ∃ (b off : Nat) (ta : Option Addr) (tc : Nat), a = some ⟨b, off, none⟩ ∧ b < B ∧ w.cell? ⟨b, off + i * 2, none⟩ = some (.string (pth ps i).name) ∧ w.cell? ⟨b, off + i * 2 + 1, none⟩ = some (.slice ta (pth ps i).types.length tc) ∧ PRep w (· < B) (pth ps i) (.agg #[.string (pth ps i).name, .slice ta (pth ps i).types.length tc]) := by
  obtain ⟨-, C, hA, hr⟩ := h
  obtain ⟨b, off, rfl, hb, hc⟩ := hA (by omega)
  have hp := hr i hi
  obtain ⟨ta, tc, e, -⟩ := hp
  simp only [Value.agg.injEq, Array.mk.injEq, List.cons.injEq, and_true] at e
  refine ⟨b, off, ta, tc, rfl, hb, ?_, ?_, ?_⟩
  · rw [← e.1]; exact hc i hi 0 (by omega)
  · rw [← e.2]; exact hc i hi 1 (by omega)
  · rw [← e.1, ← e.2]; exact hr i hi
end Go.Proofs.YtokmgbidmnanpaaGreatDoor
namespace Go.Proofs.YtokmgbidmnanpaaGreatDoor
open Go.RowKit
theorem owns_keep' {w w' : World} {base e sz n : Nat} {v : Value} {xs : List Value} (h : w.ownsRow base e sz v n xs) (hb : Below w.heap.size w w') : w'.ownsRow base e sz v n xs := by
  refine ⟨h.1, h.2.imp id ?_⟩
  rintro ⟨g, cap, cur, rfl, hg, hh, hr⟩
  exact ⟨g, cap, cur, rfl, hg, (hb.block g (Array.getElem?_eq_some_iff.1 hh).1).trans hh, hr⟩
theorem owns_at {w w' : World} {base e sz n : Nat} {v : Value} {xs : List Value} (h : w.ownsRow base e sz v n xs) (hb : ∀ k, v.ownBlock = some k → w'.heap[k]? = w.heap[k]?) : w'.ownsRow base e sz v n xs := by
  refine ⟨h.1, h.2.imp id ?_⟩
  rintro ⟨g, cap, cur, rfl, hg, hh, hr⟩
  exact ⟨g, cap, cur, rfl, hg, (hb g rfl).trans hh, hr⟩
theorem cell_ltH {w : World} {t : Addr} {old : Value} (h : w.cell? t = some old) : t.block < w.heap.size := by
  rcases Nat.lt_or_ge t.block w.heap.size with h1 | h1
  · exact h1
  · simp [World.cell?, Array.getElem?_eq_none h1] at h
end Go.Proofs.YtokmgbidmnanpaaGreatDoor
namespace Go.Proofs.YtokmgbidmnanpaaGreatDoor
open Go.RowKit
def fldF (p : Pt) (nm n : ByteArray) : F := fieldOr (typeOr p nm) n
def fldB (p : Pt) (nm n : ByteArray) : Bool := decide (0 ≤ fieldIx (typeOr p nm) n)
def qry : ByteArray := ⟨#[113, 117, 101, 114, 121]⟩
def faultG (nm : ByteArray) (one : Bool) (kl : Nat) (g : F) (known : Bool) : Int :=
  if known = false then 1
  else if (scalarB g.of && decide (0 < kl)) = true then 2
  else if (!scalarB g.of && decide (kl = 0)) = true then 3
  else if (one && (scalarB g.of || g.list || !(nm.toList == qry.toList))) = true then 4
  else 0
def faultC (p : Pt) (nm : ByteArray) (s : Se) : Int := faultG nm s.one s.kids.length (fldF p nm s.name) (fldB p nm s.name && !(fldF p nm s.name).hidden)
def chkM (p : Pt) : Nat → Way → ByteArray → List Se → Nat → Option (Way × Int)
  | 0, _, _, _, _ => none
  | _ + 1, _, _, _, 0 => none
  | f + 1, ah, nm, ks, n + 1 => match chkM p (f + 1) ah nm ks n with
    | some x => some x
    | none => if faultC p nm (sth ks n) ≠ 0 then some (ah ++ [keyS (sth ks n)], faultC p nm (sth ks n)) else chkM p f (ah ++ [keyS (sth ks n)]) (fldF p nm (sth ks n).name).of (sth ks n).kids (sth ks n).kids.length
end Go.Proofs.YtokmgbidmnanpaaGreatDoor
namespace Go.Proofs.YtokmgbidmnanpaaGreatDoor
open Go.RowKit
end Go.Proofs.YtokmgbidmnanpaaGreatDoor
namespace Go.Proofs.YtokmgbidmnanpaaGreatDoor
open Go.RowKit
end Go.Proofs.YtokmgbidmnanpaaGreatDoor
