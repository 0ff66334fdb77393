import Derived.Test.YtdohgkokoicjlaaB26
import Derived.Test.YtdohgkokoicjlaaB13
import Derived.Test.YtdohgkokoicjlaaB2
import Derived.Test.YtdohgkokoicjlaaB30
set_option linter.unusedSimpArgs false
set_option linter.unusedVariables false
namespace Go.Proofs.Ytdohgkokoicjlaa
open Go.RowKit Go.Maps
theorem rowFs {w0 w : World} {P : Nat → Prop} {base gF capF gD capD : Nat} {fs : List F} {Cf : Nat → Nat → Value} (g : F)
    (hr : ∀ i, i < fs.length → FRep w0 P (fth fs i) (.agg #[Cf i 0, Cf i 1, Cf i 2, Cf i 3, Cf i 4, Cf i 5, Cf i 6, Cf i 7])) (hk : ∀ b, P b → w.heap[b]? = w0.heap[b]?)
    (h : w.ownsRow base 37 8 (.slice (some ⟨gF, 0, none⟩) (fs.length + 1) capF) (fs.length + 1) (flat8 Cf fs.length ++ [.string g.name, .string g.of, .bool g.list, .bool g.must, .bool g.far, .bool g.hidden, .bool g.shared, .slice (some ⟨gD, 0, none⟩) g.needs.length capD]))
    (hd : w.ownsRow base 9 1 (.slice (some ⟨gD, 0, none⟩) g.needs.length capD) g.needs.length (g.needs.map Value.string))
    (hcd : g.needs.length ≤ capD) (hs : ∀ i, (nth g.needs i).size ≤ maxLen) (hl : g.needs.length ≤ 1000000000) (hl2 : fs.length ≤ 1000000000) (h1 : g.name.size ≤ maxLen) (h2 : g.of.size ≤ maxLen) :
    FsRep w (fun b => P b ∨ (base ≤ b ∧ b < w.heap.size)) (fs ++ [g]) (some ⟨gF, 0, none⟩) := by
  have hD := rowStrs (n := 0) hd hs (by unfold maxLen; omega)
  refine ⟨by simp; omega, fun i j => if i < fs.length then Cf i j else ([.string g.name, .string g.of, .bool g.list, .bool g.must, .bool g.far, .bool g.hidden, .bool g.shared, .slice (some ⟨gD, 0, none⟩) g.needs.length capD] : List Value).getD j undef, fun _ => ⟨gF, 0, rfl, Or.inr (h.lt gF rfl), fun i hi j hj => ?_⟩, fun i hi => ?_⟩
  · have hi' : i < fs.length + 1 := by simpa using hi
    rw [Nat.zero_add, h.cellAt (i * 8 + j) (by omega)]
    show _ = some (if i < fs.length then Cf i j else _)
    by_cases hlt : i < fs.length
    · rw [if_pos hlt, List.getElem?_append_left (by rw [flat8_len]; omega), flat8_at _ _ _ _ hlt hj]
    · have : i = fs.length := by omega
      subst this
      rw [if_neg hlt, List.getElem?_append_right (by rw [flat8_len]; omega), flat8_len, Nat.add_sub_cancel_left]
      rcases j with _ | _ | _ | _ | _ | _ | _ | _ | j
      all_goals first | rfl | omega
  · have hi' : i < fs.length + 1 := by simpa using hi
    by_cases hlt : i < fs.length
    · simp only [if_pos hlt]
      rw [fth_snoc_lt _ _ _ hlt]
      exact ((hr i hlt).mono hk).sub fun b hb => Or.inl hb
    · have : i = fs.length := by omega
      subst this
      simp only [if_neg hlt]
      rw [fth_snoc_eq]
      exact ⟨_, capD, rfl, hD.sub fun b hb => Or.inr hb, hcd, h1, h2, by omega⟩
theorem below_sets3 {B N : Nat} {a w : World} (h : Below B a w) (hN : B ≤ N) (v0 v1 v2 : Value) :
    Below B a (((w.setCell ⟨N, 0, none⟩ v0).setCell ⟨N, 1, none⟩ v1).setCell ⟨N, 2, none⟩ v2) :=
  puts_below hN [v0, v1, v2] w 0 h
theorem sets3_block {N b : Nat} (h : b ≠ N) (w : World) (v0 v1 v2 : Value) :
    (((w.setCell ⟨N, 0, none⟩ v0).setCell ⟨N, 1, none⟩ v1).setCell ⟨N, 2, none⟩ v2).heap[b]? = w.heap[b]? :=
  puts_block N b h [v0, v1, v2] w 0
theorem sets3_size {N : Nat} (w : World) (v0 v1 v2 : Value) :
    (((w.setCell ⟨N, 0, none⟩ v0).setCell ⟨N, 1, none⟩ v1).setCell ⟨N, 2, none⟩ v2).heap.size = w.heap.size :=
  puts_size N [v0, v1, v2] w 0
theorem sets3_cells {w : World} {N : Nat} {c : Array Value} {T : TypeId} (hb : w.heap[N]? = some (.cells c T (0, 0))) (hc : c.size = 3) (v0 v1 v2 : Value) :
    (((w.setCell ⟨N, 0, none⟩ v0).setCell ⟨N, 1, none⟩ v1).setCell ⟨N, 2, none⟩ v2).cell? ⟨N, 0, none⟩ = some v0 ∧ (((w.setCell ⟨N, 0, none⟩ v0).setCell ⟨N, 1, none⟩ v1).setCell ⟨N, 2, none⟩ v2).cell? ⟨N, 1, none⟩ = some v1 ∧ (((w.setCell ⟨N, 0, none⟩ v0).setCell ⟨N, 1, none⟩ v1).setCell ⟨N, 2, none⟩ v2).cell? ⟨N, 2, none⟩ = some v2 := by
  have hrow : w.rowIs N T 3 (fun i => c[i]?.getD undef) := ⟨c, hb, hc, fun i hi => by simp [show i < c.size by omega]⟩
  obtain ⟨G', hG2, hG1, -⟩ := puts_row [v0, v1, v2] 0 hrow
  have g : ∀ j, j < 3 → (((w.setCell ⟨N, 0, none⟩ v0).setCell ⟨N, 1, none⟩ v1).setCell ⟨N, 2, none⟩ v2).cell? ⟨N, j, none⟩ = some ([v0, v1, v2].getD j undef) := fun j hj => by
    have := hG1 j hj
    rw [Nat.zero_add] at this
    exact (hG2.cell hj).trans (congrArg some this)
  exact ⟨g 0 (by omega), g 1 (by omega), g 2 (by omega)⟩
theorem typeResult (FW : World) (tmps : Array Value) (N : Nat) (v0 v1 v2 : Value) (h4 : tmps.getD 4 undef = .pointer (some ⟨N, 0, none⟩))
    (d0 : FW.cell? ⟨N, 0, none⟩ = some v0) (d1 : FW.cell? ⟨N, 1, none⟩ = some v1) (d2 : FW.cell? ⟨N, 2, none⟩ = some v2) :
    (results Try.f52 tmps).run Try.prog FW = .ok (.agg #[v0, v1, v2]) FW := by
  simp only [Array.getD_eq_getD_getElem?] at h4
  simp [results, Try.results52, go_sem, h4, d0, d1, d2]
theorem putEnd {t : T} {f : F} {v : Value} {na : Option Addr} {nc : Nat} {w wS : World} {P Q : Nat → Prop} {Cf : Nat → Nat → Value} {base gF capF gD capD N : Nat} (hT : TRep w P t v) (hF : FRep w Q f (fval f na nc)) (hP : ∀ b, P b → b < w.heap.size) (hl : t.fields.length ≤ 1000000000) (hl2 : f.needs.length ≤ 1000000000) (hx : fieldIx t f.name = -1)
    (hr : ∀ i, i < t.fields.length → FRep w P (fth t.fields i) (.agg #[Cf i 0, Cf i 1, Cf i 2, Cf i 3, Cf i 4, Cf i 5, Cf i 6, Cf i 7])) (hb : w.heap.size ≤ base) (hN : N < base) (hN2 : w.heap.size ≤ N)
    (hO : wS.ownsRow base 37 8 (.slice (some ⟨gF, 0, none⟩) (t.fields.length + 1) capF) (t.fields.length + 1) (flat8 Cf t.fields.length ++ [.string f.name, .string f.of, .bool f.list, .bool f.must, .bool false, .bool f.hidden, .bool false, .slice (some ⟨gD, 0, none⟩) f.needs.length capD]) ∧ wS.ownsRow base 9 1 (.slice (some ⟨gD, 0, none⟩) f.needs.length capD) f.needs.length (f.needs.map Value.string))
    (hcf : t.fields.length + 1 ≤ capF) (hcd : f.needs.length ≤ capD) (bS : Below w.heap.size w wS) (v0 v1 v2 : Value) (W : World) (hW : W = (((wS.setCell ⟨N, 0, none⟩ v0).setCell ⟨N, 1, none⟩ v1).setCell ⟨N, 2, none⟩ v2)) :
    ∃ fa' fc', (.returned (.agg #[.string t.name, .string t.key, .slice (some ⟨gF, 0, none⟩) (t.fields.length + 1) capF]) : Ending) = .returned (.agg #[.string t.name, .string t.key, .slice fa' (putF t f).fields.length fc']) ∧ TRep W (fun b => P b ∨ Q b ∨ (w.heap.size ≤ b ∧ b < W.heap.size)) (putF t f) (.agg #[.string t.name, .string t.key, .slice fa' (putF t f).fields.length fc']) ∧ Below w.heap.size w W := by
  have hp : putF t f = { t with fields := t.fields ++ [⟨f.name, f.of, f.list, f.must, false, f.hidden, false, f.needs⟩] } := by rw [putF, if_neg (by rw [hx]; omega)]
  have hln : (putF t f).fields.length = t.fields.length + 1 := by rw [hp]; simp
  have hbl : ∀ b, b ≠ N → W.heap[b]? = wS.heap[b]? := fun b hb => by rw [hW]; exact sets3_block hb _ _ _ _
  have hsz : W.heap.size = wS.heap.size := by rw [hW]; exact sets3_size _ _ _ _
  have hbW : Below w.heap.size w W := by rw [hW]; exact below_sets3 bS hN2 _ _ _
  have oF := owns_at (w' := W) hO.1 fun j hj => by cases hj; exact hbl gF (by have := (hO.1.lt gF rfl).1; omega)
  have oD := owns_at (w' := W) hO.2 fun j hj => by cases hj; exact hbl gD (by have := (hO.2.lt gD rfl).1; omega)
  obtain ⟨fa0, fc0, -, -, -, ht1, ht2⟩ := hT
  obtain ⟨na', nc', -, hs, -, hf1, hf2, -⟩ := hF
  have hR := rowFs (w0 := w) (w := W) (P := P) (⟨f.name, f.of, f.list, f.must, false, f.hidden, false, f.needs⟩ : F) hr (fun b hb => hbW.block b (hP b hb)) oF oD hcd hs.2.1 hl2 hl hf1 hf2
  refine ⟨some ⟨gF, 0, none⟩, capF, by rw [hln], ⟨some ⟨gF, 0, none⟩, capF, ?_, ?_, by rw [hln]; exact hcf, ?_, ?_⟩, hbW⟩
  · rw [hp]
  · rw [hp]
    exact hR.sub fun b hb => hb.elim Or.inl fun h => Or.inr (Or.inr ⟨by omega, h.2⟩)
  · rw [hp]; exact ht1
  · rw [hp]; exact ht2
theorem infoFH : (Try.prog.info? 37).map (fun i => (i.zero.map fun z => z.cells.size, i.size, i.bytes)) = some (some 8, 8, 64) := by kernel_rfl
theorem infoF_parts : ∃ (i : TypeInfo) (z : Value), Try.prog.info? 37 = some i ∧ i.zero = some z ∧ i.size = 8 ∧ i.bytes = 64 ∧ z.cells.size = 8 := by
  have h := infoFH
  cases hi : Try.prog.info? 37 with
  | none => rw [hi] at h; cases h
  | some i =>
    rw [hi] at h
    simp only [Option.map_some, Option.some.injEq, Prod.mk.injEq] at h
    obtain ⟨h1, h2, h3⟩ := h
    cases hz : i.zero with
    | none => rw [hz] at h1; cases h1
    | some z =>
      rw [hz] at h1
      simp only [Option.map_some, Option.some.injEq] at h1
      exact ⟨i, z, rfl, hz, h2, h3, h1⟩
end Go.Proofs.Ytdohgkokoicjlaa
namespace Go.Proofs.Ytdohgkokoicjlaa
open Go.RowKit Go.Maps
def Off (P : Nat → Prop) (B : Nat) (w : World) (v : Value) (b : Nat) : Prop := P b ∨ (B ≤ b ∧ b < w.heap.size ∧ v.ownBlock ≠ some b)
def TyRow (w : World) (B : Nat) (P : Nat → Prop) (ts : List T) (v : Value) : Prop := ∃ C : Nat → Nat → Value, w.ownsRow B 48 3 v ts.length (flat3 C ts.length) ∧ ∀ i, i < ts.length → TRep w (Off P B w v) (tth ts i) (.agg #[C i 0, C i 1, C i 2])
theorem TyRow.nil (w : World) (B : Nat) (P : Nat → Prop) : TyRow w B P [] (.slice none 0 0) := ⟨fun _ _ => undef, World.ownsRow_nil _ _ _ _, fun i hi => absurd hi (Nat.not_lt_zero _)⟩
theorem TyRow.keep {w w' : World} {B : Nat} {P : Nat → Prop} {ts : List T} {v : Value} (h : TyRow w B P ts v) (hP : ∀ b, P b → b < w.heap.size) (hb : Below w.heap.size w w') : TyRow w' B P ts v := by
  obtain ⟨C, h1, h2⟩ := h
  refine ⟨C, owns_keep' h1 hb, fun i hi => ((h2 i hi).mono fun b hq => hb.block b ?_).sub fun b hq => ?_⟩
  · exact hq.elim (hP b) fun x => x.2.1
  · exact hq.elim Or.inl fun x => Or.inr ⟨x.1, Nat.lt_of_lt_of_le x.2.1 hb.size, x.2.2⟩
theorem TyRow.put {w : World} {B g n cap k : Nat} {P : Nat → Prop} {ts : List T} (h : TyRow w B P ts (.slice (some ⟨g, 0, none⟩) n cap)) (hn : n = ts.length) (hk : k < ts.length) (hP : ∀ b, P b → b < B) (t : T) (d0 d1 d2 : Value) (ht : TRep w (Off P B w (.slice (some ⟨g, 0, none⟩) n cap)) t (.agg #[d0, d1, d2])) :
    TyRow (((w.setCell ⟨g, k * 3, none⟩ d0).setCell ⟨g, k * 3 + 1, none⟩ d1).setCell ⟨g, k * 3 + 2, none⟩ d2) B P (ts.set k t) (.slice (some ⟨g, 0, none⟩) n cap) := by
  subst hn
  obtain ⟨C, h1, h2⟩ := h
  have hg := (h1.lt g rfl).1
  have hset := flat3_set C ts.length k hk (fun j => [d0, d1, d2].getD j undef)
  have o1 := (h1.stored (k * 3) d0).1
  have o2 := (o1.stored (k * 3 + 1) d1).1
  have o3 := (o2.stored (k * 3 + 2) d2).1
  have hbl : ∀ b, b ≠ g → (((w.setCell ⟨g, k * 3, none⟩ d0).setCell ⟨g, k * 3 + 1, none⟩ d1).setCell ⟨g, k * 3 + 2, none⟩ d2).heap[b]? = w.heap[b]? := fun b hb => ((Below.heap_setCell _ _ _ _ hb).trans (Below.heap_setCell _ _ _ _ hb)).trans (Below.heap_setCell _ _ _ _ hb)
  have hsz : (((w.setCell ⟨g, k * 3, none⟩ d0).setCell ⟨g, k * 3 + 1, none⟩ d1).setCell ⟨g, k * 3 + 2, none⟩ d2).heap.size = w.heap.size := by simp
  have hoff : ∀ b, Off P B w (.slice (some ⟨g, 0, none⟩) ts.length cap) b → b ≠ g := fun b hq e => hq.elim (fun x => by have := hP b x; omega) fun x => x.2.2 (by rw [e]; rfl)
  have hmv : ∀ b, Off P B w (.slice (some ⟨g, 0, none⟩) ts.length cap) b → Off P B (((w.setCell ⟨g, k * 3, none⟩ d0).setCell ⟨g, k * 3 + 1, none⟩ d1).setCell ⟨g, k * 3 + 2, none⟩ d2) (.slice (some ⟨g, 0, none⟩) ts.length cap) b := fun b hq => by
    unfold Off
    rw [hsz]
    exact hq
  refine ⟨fun a j => if a = k then [d0, d1, d2].getD j undef else C a j, ?_, fun i hi => ?_⟩
  · rw [List.length_set, ← hset]
    exact o3
  · rw [List.length_set] at hi
    by_cases e : i = k
    · subst e
      rw [tth_set_eq _ _ _ hk]
      simp only [if_true]
      exact (ht.mono fun b hq => hbl b (hoff b hq)).sub hmv
    · rw [tth_set_ne _ _ _ _ e]
      simp only [if_neg e]
      exact ((h2 i hi).mono fun b hq => hbl b (hoff b hq)).sub hmv
theorem TyRow.push {w w' : World} {B : Nat} {P : Nat → Prop} {ts : List T} {v v' : Value} {C : Nat → Nat → Value} (h2 : ∀ i, i < ts.length → TRep w (Off P B w v) (tth ts i) (.agg #[C i 0, C i 1, C i 2])) (hP : ∀ b, P b → b < w.heap.size) (hPB : ∀ b, P b → b < B) (t : T) (d0 d1 d2 : Value)
    (ht : TRep w (Off P B w v) t (.agg #[d0, d1, d2])) (ho : w'.ownsRow B 48 3 v' (ts.length + 1) (flat3 C ts.length ++ [d0, d1, d2])) (hk : ∀ b, b < w.heap.size → v.ownBlock ≠ some b → w'.heap[b]? = w.heap[b]?) (hs : w.heap.size ≤ w'.heap.size) (hv : ∀ b, v'.ownBlock = some b → v.ownBlock = some b ∨ w.heap.size ≤ b) (hvB : ∀ b, v.ownBlock = some b → B ≤ b) :
    TyRow w' B P (ts ++ [t]) v' := by
  have hin : ∀ b, Off P B w v b → w'.heap[b]? = w.heap[b]? := fun b hq => hq.elim (fun x => hk b (hP b x) (fun e => by have := hvB b e; have := hPB b x; omega)) fun x => hk b x.2.1 x.2.2
  have hmv : ∀ b, Off P B w v b → Off P B w' v' b := fun b hq => hq.elim Or.inl fun x => Or.inr ⟨x.1, by omega, fun e => (hv b e).elim x.2.2 (by omega)⟩
  refine ⟨fun a j => if a < ts.length then C a j else [d0, d1, d2].getD j undef, ?_, fun i hi => ?_⟩
  · rw [List.length_append, List.length_singleton, ← flat3_push]
    exact ho
  · have hi' : i < ts.length + 1 := by simpa using hi
    by_cases e : i < ts.length
    · rw [tth_snoc_lt _ _ _ e]
      simp only [if_pos e]
      exact ((h2 i e).mono hin).sub hmv
    · have : i = ts.length := by omega
      subst this
      rw [tth_snoc_eq]
      simp only [if_neg e]
      exact (ht.mono hin).sub hmv
end Go.Proofs.Ytdohgkokoicjlaa
namespace Go.Proofs.Ytdohgkokoicjlaa
open Go.RowKit
def okP (p : Pt) : Bool := !(decide (5 < p.types.length)) && nameB p.name && hasRootB p && !(decide (badT p < p.types.length)) && !(decide (1500 < (partL p).length))
theorem typeCode_bad (p : Pt) : ∀ n k, badAt p k n < k + n → typeCode p (badAt p k n) ≠ 0
  | 0, k, h => by simp [badAt] at h
  | n + 1, k, h => by
    rw [badAt] at h ⊢
    by_cases e : typeCode p k = 0
    · rw [if_pos e] at h ⊢; exact typeCode_bad p n (k + 1) (by omega)
    · rw [if_neg e]; exact e
theorem partErr_ok (p : Pt) (h : okP p = true) : partErr p = .nilIface := by
  simp only [okP, Bool.and_eq_true, Bool.not_eq_true', decide_eq_false_iff_not] at h
  obtain ⟨⟨⟨⟨a, b⟩, c⟩, d⟩, e⟩ := h
  rw [partErr, if_neg a, if_neg (by rw [b]; simp), if_neg (by rw [c]; simp), if_neg d, if_neg e]
theorem partErr_bad (p : Pt) (h : okP p = false) : (∃ x, partErr p = .iface 77 (.int .i64 x)) ∨ ∃ i x, partErr p = .iface 79 (.agg #[.int .i64 i, .iface 77 (.int .i64 x)]) := by
  unfold partErr
  by_cases a : 5 < p.types.length
  · rw [if_pos a]; exact .inr ⟨_, _, rfl⟩
  rw [if_neg a]
  by_cases b : nameB p.name = false
  · rw [if_pos b]; exact .inl ⟨_, rfl⟩
  rw [if_neg b]
  by_cases c : hasRootB p = false
  · rw [if_pos c]; exact .inl ⟨_, rfl⟩
  rw [if_neg c]
  by_cases d : badT p < p.types.length
  · rw [if_pos d]
    have hb : typeCode p (badT p) ≠ 0 := typeCode_bad p _ 0 (by rw [Nat.zero_add]; exact d)
    exact .inr ⟨((badT p : Nat) + 1 : Int), typeCode p (badT p), by rw [codeErr, if_neg hb]⟩
  rw [if_neg d]
  by_cases e : 1500 < (partL p).length
  · rw [if_pos e]; exact .inl ⟨_, rfl⟩
  exfalso
  simp [okP, a, b, c, d, e] at h
set_option maxHeartbeats 1600000 in
theorem PartWrite_any (p : Pt) (w : World) (B : Nat) (v : Value) (hP : PRep w (· < B) p v) (hB : B ≤ w.heap.size) (hz : szP p ≤ 1048576) :
    Calls Try.prog 9 #[v] w fun e w' => e = .returned (.string (if okP p = true then ⟨(partL p).toArray⟩ else ByteArray.empty)) ∧ Below w.heap.size w w' := by
  have hP' := hP
  obtain ⟨pname, types⟩ := p
  obtain ⟨ta, tc, rfl, hK, hnc, hpn⟩ := hP
  have hC := fun W (h : Below w.heap.size w W) => checkPart_any ⟨pname, types⟩ W B _ (hP'.under (h.mono hB)) (by have := h.size; omega) hz
  have hX := fun W (h : Below w.heap.size w W) => partText_all ⟨pname, types⟩ W B _ (hP'.under (h.mono hB)) (by have := h.size; omega) hz
  have hbx := below_box w (.cells #[.string pname, .slice ta types.length tc] 25)
  have PC : ∀ W, Below (w.heap.size + 1) (w.alloc (.cells #[.string pname, .slice ta types.length tc] 25)) W → W.cell? ⟨w.heap.size, 0, none⟩ = some (.string pname) ∧ W.cell? ⟨w.heap.size, 1, none⟩ = some (.slice ta types.length tc) := fun W h =>
    ⟨(h.cell (p := ⟨w.heap.size, 0, none⟩) (by show w.heap.size < _; omega)).trans (box_new _ _ 0 (by simp)), (h.cell (p := ⟨w.heap.size, 1, none⟩) (by show w.heap.size < _; omega)).trans (box_new _ _ 1 (by simp))⟩
  cases ho : okP ⟨pname, types⟩
  · rw [if_neg (by simp)]
    rcases partErr_bad _ ho with ⟨x, hx⟩ | ⟨i, x, hx⟩ <;> rw [hx] at hC
    · go_enter Try.func9, Try.ntmps9
      go_wp2_with (
        go_at_call 20
        refine (hC _ (by first | exact hbx | exact Below.refl _ _)).mono ?_
        rintro e w1 ⟨rfl, hb1⟩)
      go_ret
      exact ⟨rfl, by first | exact hb1 | exact hbx.trans (hb1.mono (by simp))⟩
    · go_enter Try.func9, Try.ntmps9
      go_wp2_with (
        go_at_call 20
        refine (hC _ (by first | exact hbx | exact Below.refl _ _)).mono ?_
        rintro e w1 ⟨rfl, hb1⟩)
      go_ret
      exact ⟨rfl, by first | exact hb1 | exact hbx.trans (hb1.mono (by simp))⟩
  · rw [if_pos rfl]
    rw [partErr_ok _ ho] at hC
    generalize (⟨(partL ⟨pname, types⟩).toArray⟩ : ByteArray) = tx at hX ⊢
    go_enter Try.func9, Try.ntmps9
    go_wp2_with (first
      | (
        go_at_call 20
        refine (hC _ (by first | exact hbx | exact Below.refl _ _)).mono ?_
        rintro e w1 ⟨rfl, hb1⟩
        have hT1 : Below w.heap.size w w1 := by first | exact hb1 | exact hbx.trans (hb1.mono (by simp))
        obtain ⟨q0, q1⟩ := PC w1 (hb1.mono (by simp)))
      | (
        go_at_call 21
        refine (hX _ hT1).mono ?_
        rintro e w2 ⟨rfl, hb2⟩))
    go_ret
    exact ⟨rfl, hT1.trans (hb2.mono hT1.size)⟩
end Go.Proofs.Ytdohgkokoicjlaa
namespace Go.Proofs.Ytdohgkokoicjlaa
open Go.RowKit
theorem sum_change (f g : Nat → Nat) (k : Nat) (h : ∀ i, i ≠ k → f i = g i) : ∀ n, k < n → ((List.range n).map f).sum + g k = ((List.range n).map g).sum + f k
  | 0, hk => absurd hk (Nat.not_lt_zero _)
  | n + 1, hk => by
    simp only [List.range_succ, List.map_append, List.map_cons, List.map_nil, List.sum_append, List.sum_cons, List.sum_nil, Nat.add_zero]
    by_cases e : k = n
    · subst e
      have : (List.range k).map f = (List.range k).map g := List.map_congr_left fun i hi => h i (by have := List.mem_range.1 hi; omega)
      rw [this]
      omega
    · have ih := sum_change f g k h n (by omega)
      have := h n (fun x => e x.symm)
      omega
theorem sum_same (f g : Nat → Nat) (n : Nat) (h : ∀ i, i < n → f i = g i) : ((List.range n).map f).sum = ((List.range n).map g).sum := by
  rw [List.map_congr_left fun i hi => h i (List.mem_range.1 hi)]
theorem ofB_ge (f : F) : f.of.size ≤ (ofB f).size := by
  unfold ofB; split <;> split <;> (first | simp only [ByteArray.size_append, sz_lit, List.size_toArray, List.length_cons, List.length_nil] | skip) <;> omega
theorem markB_ge (f : F) : f.name.size + f.of.size ≤ (markB f).size := by
  have := ofB_ge f
  unfold markB shaB hidB farB headB
  split <;> split <;> split <;> split <;> simp only [ByteArray.size_append, sz_lit, List.size_toArray, List.length_cons, List.length_nil] <;> omega
theorem lineTo_ge (f : F) : ∀ k, f.name.size + f.of.size + k + sumTo f.needs k ≤ (lineTo f k).size
  | 0 => by have := markB_ge f; simp only [lineTo, sumTo]; simp; omega
  | k + 1 => by
    have := lineTo_ge f k
    rw [lineTo, sumTo_succ]
    simp only [ByteArray.size_append, sz_lit, List.size_toArray, List.length_cons, List.length_nil]
    omega
theorem lineB_ge (f : F) : szF f + 1 ≤ (lineB f).data.toList.length := by
  have h1 := lineTo_ge f f.needs.length
  have h2 : szF f = f.name.size + f.of.size + (f.needs.length + sumTo f.needs f.needs.length) := rfl
  rw [tl, lineB, ByteArray.size_append]
  have h3 : (⟨#[10]⟩ : ByteArray).size = 1 := rfl
  omega
theorem fieldsL_ge (fs : List F) : ∀ n, szFsTo fs n + n ≤ (fieldsL fs n).length
  | 0 => by simp [fieldsL, szFsTo]
  | n + 1 => by
    have h1 := fieldsL_ge fs n
    have h2 := lineB_ge (fth fs n)
    rw [fieldsL, List.length_append, szFsTo_succ]
    omega
theorem typesL_ge (ts : List T) (hk : ∀ i, (tth ts i).key.size ≤ (keyL (tth ts i)).length) : ∀ n, szTsTo ts n + n ≤ (typesL ts n).length
  | 0 => by simp [typesL, szTsTo]
  | n + 1 => by
    have h1 := typesL_ge ts hk n
    have h3 := fieldsL_ge (tth ts n).fields (tth ts n).fields.length
    have h4 : szT (tth ts n) = (tth ts n).name.size + (tth ts n).key.size + ((tth ts n).fields.length + szFsTo (tth ts n).fields (tth ts n).fields.length) := rfl
    have h5 := hk n
    have h2 : ([116, 121, 112, 101, 32] : List UInt8).length = 5 := rfl
    have h6 : ([10] : List UInt8).length = 1 := rfl
    rw [typesL, List.length_append, List.length_append, szTsTo_succ, typeHeadL, List.length_append, List.length_append, List.length_append, tl]
    omega
theorem keyL_ge (t : T) : t.key.size ≤ (keyL t).length := by
  unfold keyL
  split
  · rename_i h
    have h0 : t.key.toList = [] := List.isEmpty_iff.1 h
    have h1 : t.key.data.toList = [] := by rw [← ByteArray.toList_eq]; exact h0
    rw [← tl, h1]
    exact Nat.le_refl _
  · rw [List.length_append, tl]; omega
theorem partL_ge (p : Pt) : szP p ≤ (partL p).length := by
  have h1 := typesL_ge p.types (fun i => keyL_ge _) p.types.length
  have h2 : szP p = p.name.size + (p.types.length + szTsTo p.types p.types.length) := rfl
  rw [partL, partHeadL, List.length_append, List.length_append, List.length_append, tl]
  omega
theorem okP_sz (p : Pt) (h : okP p = true) : szP p ≤ 1500 ∧ p.types.length ≤ 5 := by
  have h1 := partL_ge p
  unfold okP at h
  simp only [Bool.and_eq_true, Bool.not_eq_true', decide_eq_false_iff_not] at h
  omega
end Go.Proofs.Ytdohgkokoicjlaa
