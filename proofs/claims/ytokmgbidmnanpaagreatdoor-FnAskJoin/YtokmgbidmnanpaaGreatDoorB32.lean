import Derived.Test.YtokmgbidmnanpaaGreatDoorB28
import Derived.Test.YtokmgbidmnanpaaGreatDoorB26
import Derived.Test.YtokmgbidmnanpaaGreatDoorB29
import Derived.Test.YtokmgbidmnanpaaGreatDoorB16
set_option linter.unusedSimpArgs false
set_option linter.unusedVariables false
namespace Go.Proofs.YtokmgbidmnanpaaGreatDoor
open Go.RowKit
theorem szFs_set (fs : List F) (k : Nat) (g : F) (hk : k < fs.length) : szFs (fs.set k g) + szF (fth fs k) = szFs fs + szF g := by
  unfold szFs szFsTo
  rw [List.length_set]
  have := sum_change (fun i => szF (fth (fs.set k g) i)) (fun i => szF (fth fs i)) k (fun i hi => by show szF _ = szF _; rw [fth_set_ne _ _ _ _ hi]) fs.length hk
  simp only [fth_set_eq _ _ _ hk] at this
  omega
theorem szFs_snoc (fs : List F) (g : F) : szFs (fs ++ [g]) = szFs fs + 1 + szF g := by
  unfold szFs
  rw [List.length_append, List.length_singleton, szFsTo_succ, fth_snoc_eq]
  have : szFsTo (fs ++ [g]) fs.length = szFsTo fs fs.length := sum_same _ _ _ fun i hi => by rw [fth_snoc_lt _ _ _ hi]
  omega
theorem szTs_set (ts : List T) (k : Nat) (g : T) (hk : k < ts.length) : szTs (ts.set k g) + szT (tth ts k) = szTs ts + szT g := by
  unfold szTs szTsTo
  rw [List.length_set]
  have := sum_change (fun i => szT (tth (ts.set k g) i)) (fun i => szT (tth ts i)) k (fun i hi => by show szT _ = szT _; rw [tth_set_ne _ _ _ _ hi]) ts.length hk
  simp only [tth_set_eq _ _ _ hk] at this
  omega
theorem szTs_snoc (ts : List T) (g : T) : szTs (ts ++ [g]) = szTs ts + 1 + szT g := by
  unfold szTs
  rw [List.length_append, List.length_singleton, szTsTo_succ, tth_snoc_eq]
  have : szTsTo (ts ++ [g]) ts.length = szTsTo ts ts.length := sum_same _ _ _ fun i hi => by rw [tth_snoc_lt _ _ _ hi]
  omega
theorem putF_sz (t : T) (f : F) : szT (putF t f) ≤ szT t + 1 + szF f := by
  unfold putF
  split
  · rename_i h
    have hx : fieldIx t f.name = firstTo (fun i => (fth t.fields i).name.toList == f.name.toList) t.fields.length := rfl
    rcases firstTo_cases (fun i => (fth t.fields i).name.toList == f.name.toList) t.fields.length with ⟨h2, -⟩ | ⟨g, h2, hg, -, -⟩
    · rw [hx, h2] at h; omega
    · rw [hx, h2]
      show t.name.size + t.key.size + szFs (t.fields.set (g : Int).toNat _) ≤ _
      rw [Int.toNat_natCast]
      have h3 := szFs_set t.fields g { (fth t.fields g) with hidden := (fth t.fields g).hidden || f.hidden, needs := if f.needs.length = 0 then (fth t.fields g).needs else f.needs } hg
      have h4 : szF { (fth t.fields g) with hidden := (fth t.fields g).hidden || f.hidden, needs := if f.needs.length = 0 then (fth t.fields g).needs else f.needs } ≤ szF (fth t.fields g) + szF f := by
        unfold szF
        simp only
        split <;> omega
      unfold szT
      omega
  · show t.name.size + t.key.size + szFs (t.fields ++ [_]) ≤ _
    rw [szFs_snoc]
    unfold szT szF
    simp only
    omega
theorem putTo_sz (o t : T) (n : Nat) : szT (putTo o t n) ≤ szT o + n + szFsTo t.fields n := by
  induction n with
  | zero => simp [putTo]
  | succ n ih =>
    rw [putTo, szFsTo_succ]
    have := putF_sz (putTo o t n) (fth t.fields n)
    omega
theorem stepT_sz (ps : List Pt) (out : List T) (t : T) (K : Nat) (hK : (keyM ps t.name).size ≤ K) : szTs (stepT ps out t) ≤ szTs out + szT t + K + 1 := by
  rw [← midT_step]
  unfold midT
  have h1 := szTs_set (baseT ps out t) (atT out t) (putTo (tth (baseT ps out t) (atT out t)) t t.fields.length) (atT_lt ps out t)
  have h2 := putTo_sz (tth (baseT ps out t) (atT out t)) t t.fields.length
  have h3 : szTs (baseT ps out t) ≤ szTs out + t.name.size + K + 1 := by
    unfold baseT
    split
    · omega
    · rw [szTs_snoc]
      have : szT ⟨t.name, keyM ps t.name, []⟩ = t.name.size + (keyM ps t.name).size := by simp [szT, szFs, szFsTo]
      omega
  have h4 : szT t = t.name.size + t.key.size + (t.fields.length + szFsTo t.fields t.fields.length) := rfl
  omega
theorem typesTo_sz (ps : List Pt) (p : Pt) (out : List T) (K : Nat) (hK : ∀ nm, (keyM ps nm).size ≤ K) (k : Nat) : szTs (typesTo ps p out k) ≤ szTs out + szTsTo p.types k + k * (K + 1) := by
  induction k with
  | zero => simp [typesTo]
  | succ k ih =>
    rw [typesTo, szTsTo_succ, Nat.succ_mul]
    have := stepT_sz ps (typesTo ps p out k) (tth p.types k) K (hK _)
    omega
theorem partsTo_sz (ps : List Pt) (K M L : Nat) (hK : ∀ nm, (keyM ps nm).size ≤ K) (i : Nat) (hM : ∀ j, j < i → szP (pth ps j) ≤ M) (hL : ∀ j, j < i → (pth ps j).types.length ≤ L) : szTs (partsTo ps i) ≤ i * (M + L * (K + 1)) := by
  induction i with
  | zero => simp [partsTo, szTs, szTsTo]
  | succ i ih =>
    rw [partsTo, Nat.succ_mul]
    have h1 := ih (fun j hj => hM j (by omega)) (fun j hj => hL j (by omega))
    have h2 := typesTo_sz ps (pth ps i) (partsTo ps i) K hK (pth ps i).types.length
    have h3 := hM i (by omega)
    have h4 : szP (pth ps i) = (pth ps i).name.size + ((pth ps i).types.length + szTsTo (pth ps i).types (pth ps i).types.length) := rfl
    have h5 := Nat.mul_le_mul_right (K + 1) (hL i (by omega))
    omega
theorem allM_sz (ps : List Pt) (K M L : Nat) (hK : ∀ nm, (keyM ps nm).size ≤ K) (hM : ∀ j, j < ps.length → szP (pth ps j) ≤ M) (hL : ∀ j, j < ps.length → (pth ps j).types.length ≤ L) : szP (allM ps) ≤ 1 + ps.length * (M + L * (K + 1)) := by
  have h1 := partsTo_sz ps K M L hK ps.length hM hL
  show (1 : Nat) + szTs (partsTo ps ps.length) ≤ _
  omega
theorem szTsTo_at (ts : List T) (k : Nat) : ∀ n, k < n → szT (tth ts k) ≤ szTsTo ts n
  | 0, h => absurd h (Nat.not_lt_zero _)
  | n + 1, h => by
    rw [szTsTo_succ]
    by_cases e : k = n
    · subst e; omega
    · have := szTsTo_at ts k n (by omega)
      omega
theorem typeOr_szT (p : Pt) (nm : ByteArray) : szT (typeOr p nm) ≤ szP p := by
  have hz : ∀ k, szT (tth p.types k) ≤ szP p := fun k => by
    have h4 : szP p = p.name.size + (p.types.length + szTsTo p.types p.types.length) := rfl
    by_cases h : k < p.types.length
    · have := szTsTo_at p.types k p.types.length h
      omega
    · have : tth p.types k = T.zero := by simp [tth, List.getD_eq_getElem?_getD, List.getElem?_eq_none (Nat.le_of_not_lt h)]
      rw [this]
      exact Nat.zero_le _
  unfold typeOr
  split
  · exact hz _
  · exact Nat.zero_le _
theorem keyM_sz (ps : List Pt) (M : Nat) (hM : ∀ j, j < ps.length → szP (pth ps j) ≤ M) (nm : ByteArray) : (keyM ps nm).size ≤ M := by
  unfold keyM
  split
  · rename_i hx
    have hk : keyIx ps nm = firstTo (fun i => !(typeOr (pth ps i) nm).key.toList.isEmpty) ps.length := rfl
    rcases firstTo_cases (fun i => !(typeOr (pth ps i) nm).key.toList.isEmpty) ps.length with ⟨h2, -⟩ | ⟨g, h2, hg, -, -⟩
    · rw [hk, h2] at hx; omega
    · rw [hk, h2, Int.toNat_natCast]
      have h1 := typeOr_szT (pth ps g) nm
      have h3 := hM g hg
      have h4 : szT (typeOr (pth ps g) nm) = (typeOr (pth ps g) nm).name.size + (typeOr (pth ps g) nm).key.size + szFs (typeOr (pth ps g) nm).fields := rfl
      omega
  · exact Nat.zero_le _
end Go.Proofs.YtokmgbidmnanpaaGreatDoor
namespace Go.Proofs.YtokmgbidmnanpaaGreatDoor
open Go.RowKit
theorem allM_ok (ps : List Pt) (h4 : ps.length ≤ 4) (h : ∀ i, i < ps.length → okP (pth ps i) = true) : szP (allM ps) ≤ 1048576 := by
  have hM : ∀ j, j < ps.length → szP (pth ps j) ≤ 1500 := fun j hj => (okP_sz _ (h j hj)).1
  have h1 := allM_sz ps 1500 1500 5 (keyM_sz ps 1500 hM) hM (fun j hj => (okP_sz _ (h j hj)).2)
  have h2 : ps.length * (1500 + 5 * (1500 + 1)) ≤ 4 * (1500 + 5 * (1500 + 1)) := Nat.mul_le_mul_right _ h4
  omega
theorem fcT_sz (p : Pt) (k : Nat) : fcT p k ≤ szTsTo p.types k + k := by
  induction k with
  | zero => exact Nat.zero_le _
  | succ k ih =>
    rw [fcT, szTsTo_succ]
    have h4 : szT (tth p.types k) = (tth p.types k).name.size + (tth p.types k).key.size + ((tth p.types k).fields.length + szFsTo (tth p.types k).fields (tth p.types k).fields.length) := rfl
    omega
theorem fcP_sz (ps : List Pt) (M i : Nat) (hM : ∀ j, j < i → szP (pth ps j) ≤ M) : fcP ps i ≤ i * M := by
  induction i with
  | zero => exact Nat.zero_le _
  | succ i ih =>
    rw [fcP, Nat.succ_mul]
    have h1 := ih fun j hj => hM j (by omega)
    have h2 := fcT_sz (pth ps i) (pth ps i).types.length
    have h3 := hM i (by omega)
    have h4 : szP (pth ps i) = (pth ps i).name.size + ((pth ps i).types.length + szTsTo (pth ps i).types (pth ps i).types.length) := rfl
    omega
theorem fcP_ok (ps : List Pt) (h4 : ps.length ≤ 4) (hz : ∀ i, i < ps.length → szP (pth ps i) ≤ 1048576) : fcP ps ps.length ≤ 100000000 := by
  have h1 := fcP_sz ps 1048576 ps.length hz
  have h2 : ps.length * 1048576 ≤ 4 * 1048576 := Nat.mul_le_mul_right _ h4
  omega
end Go.Proofs.YtokmgbidmnanpaaGreatDoor
namespace Go.Proofs.YtokmgbidmnanpaaGreatDoor
open Go.RowKit Go.Shelf Go.Maps
def SA (W : World) (L : Nat) (ks : List Se) (a : Option Addr) : Prop := SeReps W (fun b => L ≤ b ∧ b < W.heap.size ∧ Apart W b) ks a
theorem SA.keep {W W' : World} {L : Nat} {ks : List Se} {a : Option Addr} (h : SA W L ks a) (hk : ∀ b, L ≤ b → b < W.heap.size → W'.heap[b]? = W.heap[b]?) (hz : W.heap.size ≤ W'.heap.size) : SA W' L ks a :=
  (SeReps.mono h fun b hb => hk b hb.1 hb.2.1).sub fun b hb => ⟨hb.1, Nat.lt_of_lt_of_le hb.2.1 hz, hb.2.2.of_block (hk b hb.1 hb.2.1)⟩
theorem SA.below {W W' : World} {L : Nat} {ks : List Se} {a : Option Addr} (h : SA W L ks a) (hb : Below W.heap.size W W') : SA W' L ks a := h.keep (fun b _ h2 => hb.block b h2) hb.size
theorem SA.low {W : World} {L L' : Nat} {ks : List Se} {a : Option Addr} (h : SA W L ks a) (hl : L' ≤ L) : SA W L' ks a := SeReps.sub h fun b hb => ⟨Nat.le_trans hl hb.1, hb.2⟩
theorem SA.old {W : World} {L : Nat} {ks : List Se} {a : Option Addr} (h : SA W L ks a) : SeReps W (· < W.heap.size) ks a := SeReps.sub h fun b hb => hb.2.1
theorem SA.one {w : World} {L N : Nat} {nm : ByteArray} (hL : L ≤ N) (h : w.heap[N]? = some (.cells #[.string ⟨#[]⟩, .string nm, .bool false, .int .i64 0, .slice none 0 0] 56 (0, 0))) (hs : nm.size ≤ 1048576) : SA w L [⟨⟨#[]⟩, nm, false, 0, []⟩] (some ⟨N, 0, none⟩) := by
  have hN : N < w.heap.size := (Array.getElem?_eq_some_iff.1 h).1
  refine ⟨by simp, fun i j => (#[Value.string ⟨#[]⟩, .string nm, .bool false, .int .i64 0, .slice none 0 0] : Array Value).getD j (.bool false), fun _ => ⟨N, 0, rfl, ⟨hL, hN, ⟨_, _, _, h⟩, fun a ha => by simp [World.frozen?, ha, h]⟩, fun i hi j hj => ?_⟩, fun i hi => ?_⟩
  · have : i = 0 := by simp at hi; omega
    subst this
    have hj' : j = 0 ∨ j = 1 ∨ j = 2 ∨ j = 3 ∨ j = 4 := by omega
    rcases hj' with rfl | rfl | rfl | rfl | rfl <;> simp [World.cell?, h]
  · have : i = 0 := by simp at hi; omega
    subst this
    exact SeRep.of_kids (s := ⟨#[]⟩) (n := nm) (o := false) (id := 0) (ks := []) (ka := none) (kc := 0) (by decide) (by unfold maxLen; omega) ⟨by simp, fun _ _ => .bool false, fun hn => by simp at hn, fun i hi => by simp at hi⟩
def NewA (w : World) (ks : List Se) (e : Ending) (w' : World) : Prop := ∃ a c, e = .returned (.slice a ks.length c) ∧ SeReps w' (fun b => w.heap.size ≤ b ∧ b < w'.heap.size ∧ Apart w' b) ks a ∧ Below w.heap.size w w'
def RowA (w : World) (ks : List Se) (e : Ending) (w' : World) : Prop := ∃ (es : List El) (v : Value), e = .returned v ∧ es.map El.s = ks ∧ RowP SeReps w.heap.size es v w' ∧ (∀ e ∈ es, ∀ b, e.Q b → w.heap.size ≤ b ∧ Apart w' b) ∧ (¬ v = .slice none 0 0) ∧ (∀ e ∈ es, e.s.al.size ≤ maxLen ∧ e.s.name.size ≤ maxLen) ∧ Below w.heap.size w w'
theorem RowA.new {w w' : World} {ks : List Se} {e : Ending} (h : RowA w ks e w') (hl : ks.length ≤ 1000000) : NewA w ks e w' := by
  obtain ⟨es, v, rfl, hm, hr, hq, hn, hz, hb⟩ := h
  have hel : es.length = ks.length := by rw [← hm]; simp
  obtain ⟨a, c, e, hRR⟩ := hr.repsA (by omega) hz (fun e he b hb => hq e he b hb) (hr.form hn)
  rw [hm] at hRR
  exact ⟨a, c, by rw [e, hel], hRR, hb⟩
set_option maxRecDepth 20000 in
set_option maxHeartbeats 3200000 in
theorem l3Copy_rowA : ∀ (f : Nat) (ks : List Se) (w : World) (P : Nat → Prop) (ka : Option Addr) (kc : Nat), FitS f ks → cntTo f ks ks.length ≤ 1000000 → SeReps w P ks ka → (∀ b, P b → b < w.heap.size) →
    Calls Tryz.prog 59 #[.slice ka ks.length kc] w fun e w' => RowA w ks e w' := by
  intro f
  induction f with
  | zero =>
    intro ks w P ka kc hf hcn hR hB
    have e : ks = [] := hf
    subst e
    go_enter Tryz.func59, Tryz.ntmps59
    go_wp2_with fail
    go_loopw [3, 4] (fun o i wr => i = .int .i64 0 ∧ o = .slice (some ⟨w.heap.size, 0, none⟩) 0 0 ∧ wr = w.alloc (.cells #[] 56)) (fun _ _ _ => 0)
    case atStart => exact ⟨rfl, rfl, rfl⟩
    case round =>
      obtain ⟨rfl, rfl, rfl⟩ := hrel
      go_wp2_with fail
      go_ret
      exact ⟨[], _, rfl, rfl, RowP.new w, (fun e he => by cases he), (by simp), (fun e he => by cases he), below_box _ _⟩
  | succ f IH =>
    intro ks w P ka kc hf hcn hR hB
    obtain ⟨i0, hi0, hz0, hz1, hz2⟩ := info_parts info_Sel
    have h72 := hR.1
    have HR := hid_of hR
    clear hR
    go_enter Tryz.func59, Tryz.ntmps59
    go_wp2_with fail
    go_loopw [3, 4] (fun o i wr => ∃ (k : Nat) (es : List El), k ≤ ks.length ∧ i = .int .i64 k ∧ Hid (es.length = k) ∧ Hid (es.map El.s = ks.take k) ∧ Hid (RowP SeReps w.heap.size es o wr) ∧ Hid (∀ e ∈ es, ∀ b, e.Q b → w.heap.size ≤ b ∧ Apart wr b) ∧ Hid (¬ o = .slice none 0 0) ∧ Below w.heap.size w wr) (fun _ i _ => ks.length - (intOf i).toNat)
    case atStart => exact ⟨0, [], Nat.zero_le _, rfl, hid_of rfl, hid_of (by simp), hid_of (RowP.new w), hid_of (fun e he => by cases he), hid_of (by simp), below_box _ _⟩
    case round =>
      obtain ⟨k, es, hk, rfl, HEL, HM, HO, HQ, HNN, hb⟩ := hrel
      obtain ⟨w2, rfl⟩ : ∃ x, x = wr := ⟨wr, rfl⟩
      have zb := hb.size
      by_cases hlt : k < ks.length
      case neg =>
        have e : k = ks.length := by omega
        subst e
        have HMM := hid_of (show es.map El.s = ks by rw [HM.out, List.take_length])
        have hlen := kids_len hf hcn
        have HSZ := hid_of (show ∀ e ∈ es, e.s.al.size ≤ maxLen ∧ e.s.name.size ≤ maxLen from fun e he => by
          have hm : e.s ∈ ks := by rw [← HMM.out]; exact List.mem_map.2 ⟨e, he, rfl⟩
          obtain ⟨-, C, -, hr⟩ := HR.out
          obtain ⟨i, hi, ei⟩ := List.mem_iff_getElem.1 hm
          have es1 : sth ks i = e.s := by simp [sth, List.getD_eq_getElem?_getD, hi, ei]
          obtain ⟨-, -, -, -, -, -, -, h1, h2, -⟩ := (hr i hi).pieces
          rw [es1] at h1 h2
          exact ⟨h1, h2⟩)
        obtain ⟨oa, oc, rfl⟩ := HO.out.slice
        go_wp2_with fail
        go_ret
        exact ⟨es, _, rfl, HMM.out, HO.out, HQ.out, HNN.out, HSZ.out, hb⟩
      have hki : (k : Int) < (ks.length : Int) := by omega
      obtain ⟨-, C, hA, hr⟩ := HR.out.mono fun b hb2 => hb.block b (hB b hb2)
      obtain ⟨kb, koff, rfl, hkB, hkc⟩ := hA (by omega)
      have hkW := hB kb hkB
      obtain ⟨sa, sc, e0, e1, e2, e3, e4, hal, hnm, hKids⟩ := (hr k hlt).pieces
      have q0 : w2.cell? ⟨kb, koff + k * 5, none⟩ = some (.string (sth ks k).al) := e0 ▸ hkc k hlt 0 (by omega)
      have q1 : w2.cell? ⟨kb, koff + k * 5 + 1, none⟩ = some (.string (sth ks k).name) := e1 ▸ hkc k hlt 1 (by omega)
      have q2 : w2.cell? ⟨kb, koff + k * 5 + 2, none⟩ = some (.bool (sth ks k).one) := e2 ▸ hkc k hlt 2 (by omega)
      have q3 : w2.cell? ⟨kb, koff + k * 5 + 3, none⟩ = some (.int .i64 (sth ks k).id) := e3 ▸ hkc k hlt 3 (by omega)
      have q4 : w2.cell? ⟨kb, koff + k * 5 + 4, none⟩ = some (.slice sa (sth ks k).kids.length sc) := e4 ▸ hkc k hlt 4 (by omega)
      have HT := hid_of (sth_take ks k hlt)
      have hc1 := cntTo_mono (f + 1) ks (show k + 1 ≤ ks.length by omega)
      rw [cntTo_succ, cntSe_kids] at hc1
      have HIH := hid_of (fun W (hW : Below w2.heap.size w2 W) => (IH (sth ks k).kids W P sa sc (hf k hlt) (by omega) (hKids.mono fun j hj => hW.block j (by have := hB j hj; omega)) (fun j hj => by have := hB j hj; have := hW.size; omega)).mono fun e w' h => h.new (kids_len (hf k hlt) (by omega)))
      have HSZ := hid_of (And.intro hal hnm)
      clear e0 e1 e2 e3 e4 hkc hr hA hKids IH hc1 hal hnm
      generalize sth ks k = s at *
      go_wp2_with fail
      refine (HIH.out _ (below_box w2 _)).mono ?_
      rintro e w3 ⟨a3, c3, rfl, hR3, hb3⟩
      have z3 : w2.heap.size + 1 ≤ w3.heap.size := by have := hb3.size; simpa using this
      have hbk : w3.heap[w2.heap.size]? = some (.cells #[.string s.al, .string s.name, .bool s.one, .int .i64 s.id, .slice sa s.kids.length sc] 56 (0, 0)) := (hb3.block _ (by simp)).trans (heap_alloc_new w2 _)
      have hb3' : Below w2.heap.size w2 w3 := (below_box w2 _).trans (hb3.mono (by simp))
      have p0 : w3.cell? ⟨w2.heap.size, 0, none⟩ = some (.string s.al) := by simp [World.cell?, hbk]
      have p1 : w3.cell? ⟨w2.heap.size, 1, none⟩ = some (.string s.name) := by simp [World.cell?, hbk]
      have p2 : w3.cell? ⟨w2.heap.size, 2, none⟩ = some (.bool s.one) := by simp [World.cell?, hbk]
      have p3 : w3.cell? ⟨w2.heap.size, 3, none⟩ = some (.int .i64 s.id) := by simp [World.cell?, hbk]
      have p4 : w3.cell? ⟨w2.heap.size, 4, none⟩ = some (.slice sa s.kids.length sc) := by simp [World.cell?, hbk]
      have p5 : w3.frozen? ⟨w2.heap.size, 4, none⟩ = false := by simp [World.frozen?, hbk]
      have HR3 := hid_of hR3
      have HB3 := hid_of hb3
      have HBK := hid_of hbk
      clear hR3 hb3 hbk q0 q1 q2 q3 q4 HIH
      obtain ⟨W, hW⟩ : ∃ W, W = w3.setCell ⟨w2.heap.size, 4, none⟩ (.slice a3 s.kids.length c3) := ⟨_, rfl⟩
      have hbW : Below w2.heap.size w2 W := by rw [hW]; exact hb3'.setCell (Nat.le_refl _) _
      have zW : W.heap.size = w3.heap.size := by rw [hW]; simp [World.setCell]
      have hWk : ∀ b, b ≠ w2.heap.size → W.heap[b]? = w3.heap[b]? := fun b hb => by rw [hW]; exact Below.heap_setCell _ _ _ _ hb
      have hal1 : (w2.alloc (.cells #[.string s.al, .string s.name, .bool s.one, .int .i64 s.id, .slice sa s.kids.length sc] 56)).heap.size = w2.heap.size + 1 := by simp
      have HRW := hid_of (HR3.out.mono (w' := W) fun b hq => hWk b (by have := hq.1; omega))
      have HOW := hid_of (HO.out.keep looks_reps hbW)
      have hrow := HOW.out.row
      obtain ⟨g, cap, rfl⟩ := HO.out.form HNN.out
      have HOL := hid_of (fun j => HO.out.row.lt j)
      have hesl : es.length ≤ 1000000 := by
        have := kids_len (f := f + 1) (ks := ks) hf hcn
        have := HEL.out
        omega
      have hesk : es.length + 1 ≤ 1000000 := by
        have := kids_len (f := f + 1) (ks := ks) hf hcn
        have := HEL.out
        omega
      go_wp2_with (
        at_builtin
        rw [← hW]
        refine wpList_append_own_at _ rfl _ _ 23 rfl w.heap.size 56 i0 zeroSe 5 72 Tryz.underlying23 hi0 hz0 hz1 hz2 rfl (by decide) _ es.length _ rfl (hrow.alloc _) ⟨w3.heap.size, 0, none⟩ 1 1 [.string s.al, .string s.name, .bool s.one, .int .i64 s.id, .slice a3 s.kids.length c3] rfl rfl (by rw [← zW]; exact World.news_of_block (heap_alloc_new W _)) (by intro u hu; simp at hu; rcases hu with rfl | rfl | rfl | rfl | rfl <;> rfl) (by unfold maxLen; omega) (by omega) (by simp; omega) ?_
        intro v' w4 hown hgrow hnn hob
        refine Hid.out ?_)
      refine hid_of ?_
      have hpush := RowP.push looks_reps (HOW.out.keep looks_reps (below_box W _)) ⟨s, a3, c3, fun b => w2.heap.size + 1 ≤ b ∧ b < w3.heap.size ∧ Apart w3 b⟩ rfl rfl hown hgrow hob (looks_reps _ _ _ _ _ (HRW.out.sub fun b hq => ⟨by omega, hq.2.1, hq.2.2⟩) fun b hq => (below_box W _).block b (by omega)) (fun b hq => ⟨by simp; omega, fun e2 => by have := (HOL.out b e2).2; have := hq.1; omega⟩)
      have z4 : w3.heap.size + 1 ≤ w4.heap.size := by have := hgrow.size; simp at this; omega
      have hb4 : Below w.heap.size w w4 := ((hb.trans (hbW.mono zb)).alloc (by omega) _).grown hgrow (by simp; omega) (fun j hj => (HOL.out j hj).1)
      have HP := hid_of hpush
      have HQ4 : Hid (∀ e ∈ es ++ [⟨s, a3, c3, fun b => w2.heap.size + 1 ≤ b ∧ b < w3.heap.size ∧ Apart w3 b⟩], ∀ b, e.Q b → w.heap.size ≤ b ∧ Apart w4 b) := hid_of (by
        have hk4 : ∀ b, b < W.heap.size → Value.ownBlock (.slice (some ⟨g, 0, none⟩) es.length cap) ≠ some b → w4.heap[b]? = W.heap[b]? := fun b h1 h2 => (hgrow.block b (by simp; omega) (fun e => h2 e.symm)).trans ((below_box W _).block b h1)
        intro e he b hq
        rcases List.mem_append.1 he with he | he
        · obtain ⟨h1, h2⟩ := HQ.out e he b hq
          obtain ⟨h3, h4⟩ := (HO.out.kid e he).2 b hq
          exact ⟨h1, h2.of_block ((hk4 b (by omega) h4).trans (hbW.block b h3))⟩
        · rw [List.mem_singleton.1 he] at hq
          have h1 := hq.1
          exact ⟨by omega, hq.2.2.of_block ((hk4 b (by have := hq.2.1; omega) (fun e2 => by have := (HOL.out b e2).2; omega)).trans (hWk b (by omega)))⟩)
      have HN4 := hid_of (fun e => absurd (hnn.1 e).2 (by decide) : ¬ v' = .slice none 0 0)
      obtain ⟨g4, cap4, rfl⟩ := hpush.form HN4.out
      clear hown hgrow hnn hob hpush
      go_wp2_with fail
      go_roundw
      case measure => simp [intOf]; omega
      case rel =>
        refine ⟨k + 1, _, by omega, by go_num, hid_of (by simp [HEL.out]), hid_of ?_, HP, HQ4, HN4, hb4⟩
        rw [List.map_append, HM.out, ← HT.out]; rfl
end Go.Proofs.YtokmgbidmnanpaaGreatDoor
namespace Go.Proofs.YtokmgbidmnanpaaGreatDoor
open Go.RowKit Go.Shelf Go.Maps
theorem sth_get {ks : List Se} {i : Nat} (h : i < ks.length) : sth ks i = ks[i] := by simp [sth, List.getD_eq_getElem?_getD, h]
theorem mem_set {α : Type} {l : List α} {i : Nat} {x y : α} (h : y ∈ l.set i x) : y ∈ l ∨ y = x := List.mem_or_eq_of_mem_set h
theorem small_mem {f : Nat} {ks : List Se} : SmallS (f + 1) ks ↔ ∀ x ∈ ks, x.al.size ≤ 1048576 ∧ x.name.size ≤ 1048576 ∧ SmallS f x.kids := by
  constructor
  · intro h x hx
    obtain ⟨i, hi, rfl⟩ := List.mem_iff_getElem.1 hx
    have := h i hi
    rw [sth_get hi] at this; exact this
  · intro h i hi
    exact h _ (sth_mem hi)
theorem cells_len (e : El) : e.cells.length = 5 := rfl
theorem flat_set : ∀ (es : List El) (i : Nat) (a : Option Addr) (c : Nat) (Q : Nat → Prop) (K : List Se) (hi : i < es.length), (es.flatMap El.cells).set (i * 5 + 4) (.slice a K.length c) = (es.set i ⟨(es[i]).s.sub K, a, c, Q⟩).flatMap El.cells
  | [], i, a, c, Q, K, hi => by simp at hi
  | e :: es, 0, a, c, Q, K, hi => by
    simp only [List.flatMap_cons, List.set_cons_zero, List.getElem_cons_zero]
    rfl
  | e :: es, i + 1, a, c, Q, K, hi => by
    simp only [List.flatMap_cons, List.set_cons_succ, List.getElem_cons_succ]
    rw [List.set_append_right _ _ (by rw [cells_len]; omega), cells_len, show (i + 1) * 5 + 4 - 5 = i * 5 + 4 by omega, flat_set es i a c Q K (by simpa using hi)]
theorem map_set_s (es : List El) (i : Nat) (hi : i < es.length) (a : Option Addr) (c : Nat) (Q : Nat → Prop) (K : List Se) : (es.set i ⟨(es[i]).s.sub K, a, c, Q⟩).map El.s = (es.map El.s).set i ((sth (es.map El.s) i).sub K) := by
  rw [List.map_set]
  congr 2
  simp [sth, List.getD_eq_getElem?_getD, hi]
end Go.Proofs.YtokmgbidmnanpaaGreatDoor
namespace Go.Proofs.YtokmgbidmnanpaaGreatDoor
open Go.RowKit Go.Shelf Go.Maps
def SpSEnd (w : World) (rb cb q0 d : Nat) (e : Ending) (w' : World) : Prop := ∃ (ks : List Se) (a : Option Addr) (c q' : Nat), e = .returned (.slice a ks.length c) ∧ SA w' w.heap.size ks a ∧ RdOk w' rb cb q' ∧ q' ≤ q0 + 3 * (d + 1) ∧ Only (· = rb) w w' ∧ Tr 4 (d + 1) ks
theorem flat_cell : ∀ (es : List El) (i j : Nat) (v : Value) (e' : El) (hi : i < es.length), j < 5 → e'.cells = (es[i]).cells.set j v → (es.flatMap El.cells).set (i * 5 + j) v = (es.set i e').flatMap El.cells
  | [], i, j, v, e', hi, _, _ => by simp at hi
  | e :: es, 0, j, v, e', hi, hj, h => by
    simp only [List.flatMap_cons, List.set_cons_zero, List.getElem_cons_zero] at h ⊢
    rw [h, Nat.zero_mul, Nat.zero_add, List.set_append_left _ _ (by rw [cells_len]; omega)]
  | e :: es, i + 1, j, v, e', hi, hj, h => by
    simp only [List.flatMap_cons, List.set_cons_succ, List.getElem_cons_succ] at h ⊢
    rw [List.set_append_right _ _ (by rw [cells_len]; omega), cells_len, show (i + 1) * 5 + j - 5 = i * 5 + j by omega, flat_cell es i j v e' (by simpa using hi) hj h]
structure XS (w : World) (rb cb d q : Nat) (es : List El) (g cap : Nat) (wx : World) : Prop where
  rd : RdOk wx rb cb q
  row : RowP SeReps w.heap.size es (.slice (some ⟨g, 0, none⟩) es.length cap) wx
  own : ∀ e ∈ es, (∀ b, e.Q b → w.heap.size ≤ b ∧ Apart wx b) ∧ e.s.al.size ≤ 1048576 ∧ e.s.name.size ≤ 1048576 ∧ Tr 4 d e.s.kids
  only : Only (· = rb) w wx
  rlt : rb < w.heap.size
  clt : cb < w.heap.size
theorem XS.move {w : World} {rb cb d q q' : Nat} {es : List El} {g cap : Nat} {wr W : World} (h : XS w rb cb d q es g cap wr) (hr : RdOk W rb cb q') (ho : Only (· = rb) wr W) : XS w rb cb d q' es g cap W := by
  have hlt := h.rlt
  have hk : ∀ b, w.heap.size ≤ b → b < wr.heap.size → W.heap[b]? = wr.heap[b]? := fun b h1 h2 => ho.block b h2 (by omega)
  refine ⟨hr, ⟨?_, fun e he => ?_⟩, fun e he => ⟨fun b hb => ⟨((h.own e he).1 b hb).1, ((h.own e he).1 b hb).2.of_block (hk b ((h.own e he).1 b hb).1 ((h.row.kid e he).2 b hb).1)⟩, (h.own e he).2⟩, h.only.trans ho fun _ _ q => q, h.rlt, h.clt⟩
  · exact owns_at h.row.row fun b hb => hk b (h.row.row.lt b hb).1 (h.row.row.lt b hb).2
  · obtain ⟨h1, h2⟩ := h.row.kid e he
    exact ⟨h1.mono fun b hb => hk b ((h.own e he).1 b hb).1 (h2 b hb).1, fun b hb => ⟨Nat.lt_of_lt_of_le (h2 b hb).1 ho.size, (h2 b hb).2⟩⟩
theorem XS.below {w : World} {rb cb d q : Nat} {es : List El} {g cap : Nat} {wr W : World} (h : XS w rb cb d q es g cap wr) (hb : Below wr.heap.size wr W) : XS w rb cb d q es g cap W :=
  h.move (h.rd.only (Only.of_below (fun _ => False) hb) id id) (Only.of_below _ hb)
theorem XS.cells {w : World} {rb cb d q : Nat} {es : List El} {g cap : Nat} {wr : World} (h : XS w rb cb d q es g cap wr) (i : Nat) (hi : i < es.length) : Cells5 wr g (i * 5) (es[i]).s (es[i]).ka (es[i]).kc ∧ g < wr.heap.size ∧ w.heap.size ≤ g ∧ ∀ j, wr.frozen? ⟨g, j, none⟩ = false := by
  have hc : ∀ j, j < 5 → wr.cell? ⟨g, i * 5 + j, none⟩ = (es[i]).cells[j]? := fun j hj => by rw [h.row.row.cellAt (i * 5 + j) (by omega), flat5 es i j hi hj]
  have hl := h.row.row.lt g rfl
  exact ⟨⟨hc 0 (by omega), hc 1 (by omega), hc 2 (by omega), hc 3 (by omega), hc 4 (by omega)⟩, hl.2, hl.1, fun j => h.row.row.frozenAt j⟩
theorem XS.put {w : World} {rb cb d q : Nat} {es : List El} {g cap : Nat} {wx : World} (h : XS w rb cb d q es g cap wx) (i : Nat) (hi : i < es.length) (j : Nat) (hj : j < 5) (v : Value) (e' : El) (he : e'.cells = (es[i]).cells.set j v)
    (hO : SeReps wx e'.Q e'.s.kids e'.ka) (hq : ∀ b, e'.Q b → b < wx.heap.size ∧ b ≠ g ∧ w.heap.size ≤ b ∧ Apart wx b) (hs : e'.s.al.size ≤ 1048576 ∧ e'.s.name.size ≤ 1048576 ∧ Tr 4 d e'.s.kids) : XS w rb cb d q (es.set i e') g cap (wx.setCell ⟨g, i * 5 + j, none⟩ v) := by
  have hset : ∀ b, b ≠ g → (wx.setCell ⟨g, i * 5 + j, none⟩ v).heap[b]? = wx.heap[b]? := fun b hb => Below.heap_setCell _ _ _ _ hb
  have hl := h.row.row.lt g rfl
  have h1 := h.rlt
  have h2 := h.clt
  refine ⟨h.rd.keep (hset rb (by omega)) (hset cb (by omega)) (by simp), ⟨?_, fun y hy => ?_⟩, fun y hy => ?_, h.only.set _ _ (Or.inr hl.1) _, h1, h2⟩
  · obtain ⟨h1, -⟩ := h.row.row.stored (i * 5 + j) v
    rw [flat_cell es i j v e' hi hj he] at h1
    simpa using h1
  · rw [List.length_set]
    rcases mem_set hy with hy | rfl
    · obtain ⟨h1, h2⟩ := h.row.kid y hy
      refine ⟨h1.mono fun b hb => hset b fun e => (h2 b hb).2 (by rw [e]; rfl), fun b hb => ⟨by rw [size_set]; exact (h2 b hb).1, (h2 b hb).2⟩⟩
    · exact ⟨hO.mono fun b hb => hset b (hq b hb).2.1, fun b hb => ⟨by rw [size_set]; exact (hq b hb).1, fun e => (hq b hb).2.1 (by simpa [Value.ownBlock] using e.symm)⟩⟩
  · rcases mem_set hy with hy | rfl
    · exact ⟨fun b hb => ⟨((h.own y hy).1 b hb).1, ((h.own y hy).1 b hb).2.of_block (hset b fun e => ((h.row.kid y hy).2 b hb).2 (by rw [e]; rfl))⟩, (h.own y hy).2⟩
    · exact ⟨fun b hb => ⟨(hq b hb).2.2.1, (hq b hb).2.2.2.of_block (hset b (hq b hb).2.1)⟩, hs⟩
theorem XS.fin {w : World} {rb cb d q q0 : Nat} {es : List El} {g cap : Nat} {wx : World} (h : XS w rb cb (d + 1) q es g cap wx) (hl : es.length ≤ 4) (hq : q ≤ q0 + 3 * (d + 1 + 1)) : SpSEnd w rb cb q0 (d + 1) (.returned (.slice (some ⟨g, 0, none⟩) es.length cap)) wx := by
  obtain ⟨a, c, e, hR⟩ := h.row.repsA (by omega) (fun e he => by have := (h.own e he).2; have h1 := this.1; have h2 := this.2.1; unfold maxLen; exact ⟨by omega, by omega⟩) (fun e he b hb => (h.own e he).1 b hb) ⟨_, _, rfl⟩
  have hm : (es.map El.s).length = es.length := by simp
  exact ⟨es.map El.s, a, c, q, by rw [hm, e], hR, h.rd, hq, h.only, by rw [hm]; exact hl, fun s hs => by obtain ⟨x, hx, rfl⟩ := List.mem_map.1 hs; exact (h.own x hx).2⟩
theorem RowA.start {w w1 : World} {rb cb d q : Nat} {ks : List Se} {e : Ending} (hR : RdOk w rb cb q) (hT : Tr 3 (d + 1) ks) (h : RowA w ks e w1) : ∃ es g cap, e = .returned (.slice (some ⟨g, 0, none⟩) es.length cap) ∧ es.length = ks.length ∧ XS w rb cb (d + 1) q es g cap w1 ∧ (∀ i (hi : i < es.length), Tr 3 d (es[i]).s.kids) := by
  obtain ⟨es, v, rfl, hm, hr, hq, hn, hz, hb⟩ := h
  obtain ⟨g, cap, rfl⟩ := hr.form hn
  obtain ⟨h1, h2, -⟩ := hR.lt
  have hin : ∀ e ∈ es, e.s ∈ ks := fun e he => by rw [← hm]; exact List.mem_map.2 ⟨e, he, rfl⟩
  exact ⟨es, g, cap, rfl, by rw [← hm]; simp, ⟨hR.only (Only.of_below (fun _ => False) hb) id id, hr, fun e he => ⟨fun b hb => hq e he b hb, (hT.2 _ (hin e he)).1, (hT.2 _ (hin e he)).2.1, Tr.up (by omega) (by omega) (hT.2 _ (hin e he)).2.2⟩, Only.of_below _ hb, h1, h2⟩, fun i hi => (hT.2 _ (hin _ (List.getElem_mem hi))).2.2⟩
theorem XS.kid {w : World} {rb cb d q : Nat} {es : List El} {g cap : Nat} {wx : World} (h : XS w rb cb d q es g cap wx) (i : Nat) (hi : i < es.length) : SeReps wx (es[i]).Q (es[i]).s.kids (es[i]).ka ∧ (∀ b, (es[i]).Q b → b < wx.heap.size ∧ b ≠ g ∧ w.heap.size ≤ b ∧ Apart wx b) ∧ (es[i]).s.al.size ≤ 1048576 ∧ (es[i]).s.name.size ≤ 1048576 ∧ Tr 4 d (es[i]).s.kids := by
  have hm := List.getElem_mem hi
  obtain ⟨h1, h2⟩ := h.row.kid _ hm
  obtain ⟨h3, h4⟩ := h.own _ hm
  exact ⟨h1, fun b hb => ⟨(h2 b hb).1, fun e => (h2 b hb).2 (by rw [e]; rfl), (h3 b hb).1, (h3 b hb).2⟩, h4⟩
theorem XS.push {w : World} {rb cb d q : Nat} {es : List El} {g cap : Nat} {v' : Value} {W W' : World} (h : XS w rb cb d q es g cap W) (e : El) {xs : List Value} (hx : xs = e.cells)
    (hr : W'.ownsRow w.heap.size 56 5 v' (es.length + 1) (es.flatMap El.cells ++ xs)) (hg : W.grownBy W' (Value.slice (some ⟨g, 0, none⟩) es.length cap).ownBlock) (hob : v'.ownBlock = (Value.slice (some ⟨g, 0, none⟩) es.length cap).ownBlock ∨ v'.ownBlock = some W.heap.size)
    (hk : SeReps W e.Q e.s.kids e.ka) (hq : ∀ b, e.Q b → b < W.heap.size ∧ b ≠ g ∧ w.heap.size ≤ b ∧ Apart W b) (hs : e.s.al.size ≤ 1048576 ∧ e.s.name.size ≤ 1048576 ∧ Tr 4 d e.s.kids) : ∃ g' cap', v' = .slice (some ⟨g', 0, none⟩) (es.length + 1) cap' ∧ XS w rb cb d q (es ++ [e]) g' cap' W' := by
  have hrl := h.rlt
  have hcl := h.clt
  have hrd := h.rd.lt
  have hl := h.row.row.lt g rfl
  have hne : ∀ b, b ≠ g → (Value.slice (some ⟨g, 0, none⟩) es.length cap).ownBlock ≠ some b := fun b hb e => hb (by simpa [Value.ownBlock] using e.symm)
  have hkb : ∀ b, b < W.heap.size → b ≠ g → W'.heap[b]? = W.heap[b]? := fun b h1 h2 => hg.block b h1 fun e => hne b h2 e.symm
  have hp := h.row.push looks_reps e hx rfl hr hg hob hk (fun b hb => ⟨(hq b hb).1, hne b (hq b hb).2.1⟩)
  rcases hr.2 with ⟨-, h0⟩ | ⟨g', cap', cur, e2, -⟩
  · omega
  · subst e2
    have hlen : (es ++ [e]).length = es.length + 1 := by simp
    refine ⟨g', cap', rfl, h.rd.keep (hkb rb hrd.1 (by omega)) (hkb cb hrd.2.1 (by omega)) hg.size, by rw [hlen]; exact hp, fun y hy => ?_, h.only.grown hg fun k hk2 => Or.inr (h.row.row.lt k hk2).1, hrl, hcl⟩
    rcases List.mem_append.1 hy with hy | hy
    · exact ⟨fun b hb => ⟨((h.own y hy).1 b hb).1, ((h.own y hy).1 b hb).2.of_block (hg.block b ((h.row.kid y hy).2 b hb).1 fun e2 => ((h.row.kid y hy).2 b hb).2 e2.symm)⟩, (h.own y hy).2⟩
    · rw [List.mem_singleton.1 hy]; exact ⟨fun b hb => ⟨(hq b hb).2.2.1, (hq b hb).2.2.2.of_block (hkb b (hq b hb).1 (hq b hb).2.1)⟩, hs⟩
theorem trN_mono (m : Nat) : ∀ {d e : Nat}, d ≤ e → trN m d ≤ trN m e
  | 0, _, _ => Nat.zero_le _
  | d + 1, 0, h => absurd h (by omega)
  | d + 1, e + 1, h => by
    have := trN_mono m (show d ≤ e by omega)
    rw [trN, trN]
    exact Nat.mul_le_mul_left _ (by omega)
theorem of_blockG (W : World) (rb cb q g M : Nat) (hM : M ≤ maxLen) (hR : RdOk W rb cb q) (hq : q ≤ 100000) (ns : List ByteArray) (h0 : 0 < ns.length) (hl : ns.length ≤ 10) (hs : ∀ s ∈ ns, s.size ≤ M) (hb : W.heap[g]? = some (.cells (ns.map Value.string).toArray 9 (0, 0))) (hg : g ≠ rb) :
    Calls Tryz.prog 57 #[.pointer (some ⟨rb, 0, none⟩), .slice (some ⟨g, 0, none⟩) ns.length ns.length] W fun e w' => ∃ s : ByteArray, e = .returned (.string s) ∧ s.size ≤ M ∧ RdOk w' rb cb (q + 1) ∧ Only (· = rb) W w' := by
  have hn : ∀ i, i < ns.length → (nth ns i) ∈ ns := fun i hi => by simp [nth, List.getD_eq_getElem?_getD, hi]
  have hS : Strs W (· = g) ns (some ⟨g, 0, none⟩) := by
    refine ⟨fun _ => ⟨_, 0, rfl, rfl, fun i hi => ?_⟩, fun i => ?_, by unfold maxLen; omega⟩
    · rw [Nat.zero_add, cell_of_row _ _ _ _ _ _ hb]
      simp [nth, List.getD_eq_getElem?_getD, hi]
    · by_cases hi : i < ns.length
      · exact Nat.le_trans (hs _ (hn i hi)) hM
      · simp [nth, List.getD_eq_getElem?_getD, hi]
  refine (of_any W rb cb q ns _ ns.length (· = g) hR (by omega) hS (fun b hb' => by have hb' : b = g := hb'; subst hb'; exact ⟨(Array.getElem?_eq_some_iff.1 hb).1, hg⟩) h0 (by omega)).mono ?_
  rintro e w' ⟨k, hk, rfl, h1, h2, h3⟩
  exact ⟨_, rfl, hs _ (hn k hk), h1, h2⟩
end Go.Proofs.YtokmgbidmnanpaaGreatDoor
namespace Go.Proofs.YtokmgbidmnanpaaGreatDoor
open Go.RowKit Go.Shelf Go.Maps
theorem frozen_off {w : World} {g : Nat} (h : ∀ j, w.frozen? ⟨g, j, none⟩ = false) (a : Addr) (ha : a.block = g) : w.frozen? a = false := by
  obtain ⟨b, o, k⟩ := a
  have e : b = g := ha
  subst e
  exact h o
theorem OwnT.apart : ∀ {f : Nat} {w : World} {Q : Nat → Prop} {ks : List Se} {a : Option Addr}, OwnT f w Q ks a → OwnT f w (fun b => Q b ∧ Apart w b) ks a
  | 0, _, _, _, _, h => h
  | f + 1, w, Q, ks, a, h => ⟨h.1, fun hn => by
    obtain ⟨g, R, A, c, h1, h2, h3, h4, h5, h6⟩ := h.2 hn
    refine ⟨g, fun i b => R i b ∧ Apart w b, A, c, h1, ⟨h2, Apart.of_cell (h6 0 hn).1.1 (frozen_off h3)⟩, h3, fun i hi b hb => ⟨⟨(h4 i hi b hb.1).1, hb.2⟩, (h4 i hi b hb.1).2⟩, fun i j hi hj hij b hb hb2 => h5 i j hi hj hij b hb.1 hb2.1, fun i hi => ?_⟩
    obtain ⟨k1, k2, k3, k4⟩ := h6 i hi
    exact ⟨k1, k2, k3, k4.apart⟩⟩
theorem askIn_own {f : Nat} {ks : List Se} {a : Option Addr} {Q : Nat → Prop} {w : World} (hf : FitS f ks) (hs : SmallS f ks) (hfew : f ≤ 1000000000) (hO : OwnT f w Q ks a) (hQ : ∀ b, Q b → b < w.heap.size) (hT : Tab w.heap.size w) :
    AskIn f ks (fun b => Q b ∧ Apart w b) w.heap.size a w := ⟨hf, hs, hfew, hO.apart.reps, fun b hb => ⟨hQ b hb.1, hb.2⟩, Nat.le_refl _, hT⟩
end Go.Proofs.YtokmgbidmnanpaaGreatDoor
