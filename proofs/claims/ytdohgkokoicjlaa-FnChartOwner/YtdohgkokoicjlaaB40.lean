import Derived.Test.YtdohgkokoicjlaaB1
import Derived.Test.YtdohgkokoicjlaaB39
set_option linter.unusedSimpArgs false
set_option linter.unusedVariables false
namespace Go.Proofs.Ytdohgkokoicjlaa
open Go.RowKit Go.Maps
attribute [local go_sem] Oper.semAt_some
def OwRow (w : World) (B : Nat) (os : List O) (v : Value) : Prop := ∃ C : Nat → Nat → Value, w.ownsRow B 59 3 v os.length (flat3 C os.length) ∧ ∀ i, i < os.length → ORep w (Off (fun _ => False) B w v) (oth os i) (.agg #[C i 0, C i 1, C i 2])
theorem OwRow.nil (w : World) (B : Nat) : OwRow w B [] (.slice none 0 0) := ⟨fun _ _ => undef, World.ownsRow_nil _ _ _ _, fun i hi => absurd hi (Nat.not_lt_zero _)⟩
theorem OwRow.keep {w w' : World} {B : Nat} {os : List O} {v : Value} (h : OwRow w B os v) (hk : ∀ b, B ≤ b → b < w.heap.size → w'.heap[b]? = w.heap[b]?) (hs : w.heap.size ≤ w'.heap.size) : OwRow w' B os v := by
  obtain ⟨C, h1, h2⟩ := h
  refine ⟨C, ⟨h1.1, ?_⟩, fun i hi => ((h2 i hi).mono fun b hq => hq.elim False.elim fun x => hk b x.1 x.2.1).sub fun b hq => hq.elim Or.inl fun x => Or.inr ⟨x.1, by omega, x.2.2⟩⟩
  refine h1.2.imp id ?_
  rintro ⟨g, cap, cur, hv, hg, hh, hr⟩
  exact ⟨g, cap, cur, hv, hg, (hk g hg (Array.getElem?_eq_some_iff.1 hh).1).trans hh, hr⟩
theorem oth_snoc_lt (os : List O) (o : O) {i : Nat} (h : i < os.length) : oth (os ++ [o]) i = oth os i := by simp [oth, List.getD_eq_getElem?_getD, List.getElem?_append_left h]
theorem oth_snoc_eq (os : List O) (o : O) : oth (os ++ [o]) os.length = o := by simp [oth, List.getD_eq_getElem?_getD]
theorem OwRow.push {w w' : World} {B : Nat} {os : List O} {v v' : Value} {C : Nat → Nat → Value} (h2 : ∀ i, i < os.length → ORep w (Off (fun _ => False) B w v) (oth os i) (.agg #[C i 0, C i 1, C i 2])) (o : O) (d0 d1 d2 : Value)
    (ht : ORep w (Off (fun _ => False) B w v) o (.agg #[d0, d1, d2])) (ho : w'.ownsRow B 59 3 v' (os.length + 1) (flat3 C os.length ++ [d0, d1, d2])) (hk : ∀ b, b < w.heap.size → v.ownBlock ≠ some b → w'.heap[b]? = w.heap[b]?) (hs : w.heap.size ≤ w'.heap.size) (hv : ∀ b, v'.ownBlock = some b → v.ownBlock = some b ∨ w.heap.size ≤ b) :
    OwRow w' B (os ++ [o]) v' := by
  have hin : ∀ b, Off (fun _ => False) B w v b → w'.heap[b]? = w.heap[b]? := fun b hq => hq.elim False.elim fun x => hk b x.2.1 x.2.2
  have hmv : ∀ b, Off (fun _ => False) B w v b → Off (fun _ => False) B w' v' b := fun b hq => hq.elim Or.inl fun x => Or.inr ⟨x.1, by omega, fun e => (hv b e).elim x.2.2 (by omega)⟩
  refine ⟨fun a j => if a < os.length then C a j else [d0, d1, d2].getD j undef, ?_, fun i hi => ?_⟩
  · rw [List.length_append, List.length_singleton, ← flat3_push]
    exact ho
  · have hi' : i < os.length + 1 := by simpa using hi
    by_cases e : i < os.length
    · rw [oth_snoc_lt _ _ e]
      simp only [if_pos e]
      exact ((h2 i e).mono hin).sub hmv
    · have : i = os.length := by omega
      subst this
      rw [oth_snoc_eq]
      simp only [if_neg e]
      exact (ht.mono hin).sub hmv
theorem OwRow.rep {w : World} {B : Nat} {os : List O} {oa : Option Addr} {ol oc : Nat} (h : OwRow w B os (.slice oa ol oc)) (hl : os.length ≤ 1000000000) : ol = os.length ∧ os.length ≤ oc ∧ OsRep w (fun b => B ≤ b ∧ b < w.heap.size) os oa := by
  obtain ⟨C, h1, h2⟩ := h
  have hr : ∀ i, i < os.length → ORep w (fun b => B ≤ b ∧ b < w.heap.size) (oth os i) (.agg #[C i 0, C i 1, C i 2]) := fun i hi => (h2 i hi).sub fun b hq => hq.elim False.elim fun x => ⟨x.1, x.2.1⟩
  rcases h1.2 with ⟨e, h0⟩ | ⟨g, cap, cur, e, hg, hh, hn, -⟩
  · have h0' : os.length = 0 := h0
    simp only [Value.slice.injEq] at e
    obtain ⟨rfl, rfl, rfl⟩ := e
    exact ⟨h0'.symm, by omega, by omega, C, fun hp => by omega, hr⟩
  · simp only [Value.slice.injEq] at e
    obtain ⟨rfl, rfl, rfl⟩ := e
    have hlt : g < w.heap.size := (Array.getElem?_eq_some_iff.1 hh).1
    refine ⟨rfl, by omega, by omega, C, fun _ => ⟨g, 0, rfl, ⟨hg, hlt⟩, fun i hi j hj => ?_⟩, hr⟩
    have h3 := h1.cellAt (i * 3 + j) (by omega)
    rw [Nat.zero_add, h3]
    have e1 : (i * 3 + j) / 3 = i := by omega
    have e2 : (i * 3 + j) % 3 = j := by omega
    have e3 : i * 3 + j < os.length * 3 := by omega
    simp [flat3, e1, e2, e3]
theorem RowI.ints {base : Nat} {w : World} {oa : Option Addr} {oc : Nat} {l : List Nat} (h : RowI base w (.slice oa l.length oc) l) (hl : l.length ≤ 1000000000) : Ints w (fun b => base ≤ b ∧ b < w.heap.size) (l.map fun (k : Nat) => (k : Int)) oa ∧ l.length ≤ oc := by
  unfold RowI at h
  rcases h.2 with ⟨e, h0⟩ | ⟨g, cap, cur, e, hg, hh, hn, -⟩
  · simp only [Value.slice.injEq] at e
    obtain ⟨rfl, e1, rfl⟩ := e
    have : l = [] := List.length_eq_zero_iff.1 e1
    subst this
    exact ⟨Ints.nil _ _ _, Nat.le_refl _⟩
  · simp only [Value.slice.injEq, true_and] at e
    obtain ⟨rfl, rfl⟩ := e
    have hlt : g < w.heap.size := (Array.getElem?_eq_some_iff.1 hh).1
    refine ⟨⟨by simp; omega, fun _ => ⟨g, 0, rfl, ⟨hg, hlt⟩, fun i hi => ?_⟩⟩, hn⟩
    have hi' : i < l.length := by simpa using hi
    have h3 := h.cellAt i (by omega)
    rw [Nat.zero_add, h3]
    simp [ith, List.getD_eq_getElem?_getD, hi']
theorem Ints.off {w : World} {base B : Nat} {ns : List Int} {oa : Option Addr} {v : Value} (h : Ints w (fun b => base ≤ b ∧ b < w.heap.size) ns oa) (hB : B ≤ base) (hv : ∀ b, v.ownBlock = some b → b < base) {W : World} (hW : Below w.heap.size w W) : Ints W (Off (fun _ => False) B W v) ns oa :=
  (h.mono fun b hb => hW.block b hb.2).sub fun b hb => Or.inr ⟨by omega, by have := hW.size; omega, fun e => by have := hv b e; omega⟩
def MakeC (w : World) (Lo B : Nat) (ps : List Pt) (e : Ending) (w' : World) : Prop := ∃ (v : Value) (at' : Int) (ty fl : ByteArray) (code : Int), e = .returned (.tuple #[v, .agg #[.int .i64 at', .string ty, .string fl, .int .i64 code]]) ∧ (code = 0 ↔ chartB ps okP = true) ∧ Below w.heap.size w w' ∧ CRep w' (fun b => (Lo ≤ b ∧ b < B) ∨ (w.heap.size ≤ b ∧ b < w'.heap.size)) (chartC ps) v
theorem MakeC.nil {w w' : World} {Lo B : Nat} {ps : List Pt} (at' : Int) (ty fl : ByteArray) (code : Int) (hc : code ≠ 0) (hn : ¬ chartB ps okP = true) (hb : Below w.heap.size w w') : MakeC w Lo B ps (.returned (.tuple #[.agg #[.string ⟨#[]⟩, .slice none 0 0, .slice none 0 0], .agg #[.int .i64 at', .string ty, .string fl, .int .i64 code]])) w' := by
  refine ⟨_, at', ty, fl, code, rfl, ⟨fun h => absurd h hc, fun h => absurd h hn⟩, hb, ?_⟩
  unfold chartC
  rw [if_neg hn]
  exact ⟨none, none, 0, 0, rfl, ⟨none, 0, rfl, ⟨by simp, fun _ _ => undef, fun h => by simp at h, fun i hi => by simp at hi⟩, by simp, Nat.zero_le _⟩, ⟨by simp, fun _ _ => undef, fun h => by simp at h, fun i hi => by simp at hi⟩, by simp⟩
structure OwSt (X : World) (CB : Nat) (ta : Option Addr) (L tc : Nat) (os : List O) (wr : World) : Prop where
  ex : ∃ ov : Value, wr.heap[CB]? = some (.cells #[.string ⟨#[97]⟩, .slice ta L tc, ov] 28 (0, 0)) ∧ OwRow wr (CB + 1) os ov
  bel : Below CB X wr
  lt : CB < wr.heap.size
structure OwTy (X : World) (CB : Nat) (ta : Option Addr) (L tc : Nat) (os : List O) (TB : Nat) (cs : Array Value) (wr : World) : Prop where
  ex : ∃ ov : Value, wr.heap[CB]? = some (.cells #[.string ⟨#[97]⟩, .slice ta L tc, ov] 28 (0, 0)) ∧ OwRow wr (CB + 1) os ov ∧ ov.ownBlock ≠ some TB
  bel : Below CB X wr
  lt : CB < TB ∧ TB < wr.heap.size
  box : wr.heap[TB]? = some (.cells cs 48 (0, 0))
theorem OwTy.st {X : World} {CB : Nat} {ta : Option Addr} {L tc TB : Nat} {os : List O} {cs : Array Value} {wr : World} (h : OwTy X CB ta L tc os TB cs wr) : OwSt X CB ta L tc os wr := by
  obtain ⟨ov, h1, h2, -⟩ := h.ex
  exact ⟨⟨ov, h1, h2⟩, h.bel, Nat.lt_trans h.lt.1 h.lt.2⟩
theorem OwSt.ty {X : World} {CB : Nat} {ta : Option Addr} {L tc : Nat} {os : List O} {wr : World} (h : OwSt X CB ta L tc os wr) (cs : Array Value) : OwTy X CB ta L tc os wr.heap.size cs (wr.alloc (.cells cs 48)) := by
  obtain ⟨ov, h1, h2⟩ := h.ex
  have hb := below_box wr (.cells cs 48)
  refine ⟨⟨ov, (hb.block CB h.lt).trans h1, h2.keep (fun b _ hb2 => hb.block b hb2) hb.size, fun e => ?_⟩, h.bel.trans (hb.mono (Nat.le_of_lt h.lt)), ⟨h.lt, by simp⟩, block_new _ _ rfl⟩
  obtain ⟨C, h3, -⟩ := h2
  have := (h3.lt _ e).2
  omega
set_option maxRecDepth 20000 in
set_option maxHeartbeats 3200000 in
theorem ChartMakeC_any (ps : List Pt) (w : World) (Lo B : Nat) (a : Option Addr) (c : Nat) (hR : PsRep w (fun b => Lo ≤ b ∧ b < B) ps a) (hB : B ≤ w.heap.size) (hz : ∀ i, i < ps.length → szP (pth ps i) ≤ 1048576) :
    Calls Try.prog 17 #[.slice a ps.length c] w fun e w' => MakeC w Lo B ps e w' := by
  have HFA := hid_of (fun W (hW : Below w.heap.size w W) => l6Fault_any ps W B a c (hR.low.under (hW.mono hB)) (Nat.le_trans hB hW.size) hz)
  have HR := hid_of hR
  have HBL := hid_of hB
  have HZ := hid_of hz
  have HCB : Hid (chartB ps okP = (partsOkB ps okP && okP (allM ps))) := hid_of (by first | rfl | (unfold chartB; rfl))
  clear hR hB hz
  obtain ⟨X, hXe⟩ : ∃ x, x = (w.alloc (.cells #[.string ⟨#[]⟩, .slice none 0 0, .slice none 0 0] 28)).alloc (.cells #[.int .i64 0, .string ⟨#[]⟩, .string ⟨#[]⟩, .int .i64 0] 52) := ⟨_, rfl⟩
  have bX := below_box2 w (.cells #[.string ⟨#[]⟩, .slice none 0 0, .slice none 0 0] 28) (.cells #[.int .i64 0, .string ⟨#[]⟩, .string ⟨#[]⟩, .int .i64 0] 52)
  go_enter Try.func17, Try.ntmps17
  go_upto_region 2 with (go_at_call 29; refine (HFA.out _ bX).mono ?_; rintro e w1 ⟨at', ty, fl, code, rfl, hcode, b1⟩)
  rw [← hXe] at bX b1
  have hXs : X.heap.size = w.heap.size + 1 + 1 := by rw [hXe]; simp
  have nN : X.heap[w.heap.size]? = some (.cells #[.string ⟨#[]⟩, .slice none 0 0, .slice none 0 0] 28 (0, 0)) := by rw [hXe]; exact ((below_box _ _).block w.heap.size (by simp)).trans (block_new _ _ rfl)
  have nM : X.heap[w.heap.size + 1]? = some (.cells #[.int .i64 0, .string ⟨#[]⟩, .string ⟨#[]⟩, .int .i64 0] 52 (0, 0)) := by rw [hXe]; exact block_new _ _ (by simp)
  have nF := block_new (w := w1) (N := w1.heap.size) #[.int .i64 at', .string ty, .string fl, .int .i64 code] 52 rfl
  have bF := below_box w1 (.cells #[.int .i64 at', .string ty, .string fl, .int .i64 code] 52)
  have hF1 : w1.heap.size < (w1.alloc (.cells #[.int .i64 at', .string ty, .string fl, .int .i64 code] 52)).heap.size := by simp
  generalize w1.alloc (.cells #[.int .i64 at', .string ty, .string fl, .int .i64 code] 52) = w2 at *
  have hz1 := b1.size
  have b2 : Below X.heap.size X w2 := b1.trans (bF.mono b1.size)
  have hz2 := b2.size
  have HBX : Hid (∀ W, Below w2.heap.size w2 W → W.heap[w.heap.size]? = some (.cells #[.string ⟨#[]⟩, .slice none 0 0, .slice none 0 0] 28 (0, 0)) ∧ W.heap[w.heap.size + 1]? = some (.cells #[.int .i64 0, .string ⟨#[]⟩, .string ⟨#[]⟩, .int .i64 0] 52 (0, 0)) ∧ W.heap[w1.heap.size]? = some (.cells #[.int .i64 at', .string ty, .string fl, .int .i64 code] 52 (0, 0)) ∧ Below w.heap.size w W) := hid_of fun W hW => by
    have hb := b2.trans (hW.mono hz2)
    exact ⟨(hb.block _ (by omega)).trans nN, (hb.block _ (by omega)).trans nM, (hW.block _ hF1).trans nF, bX.trans (hb.mono (by omega))⟩
  clear hXe nN nM nF bF b1 HFA
  obtain ⟨FB, hFB⟩ : ∃ x, x = w1.heap.size := ⟨_, rfl⟩
  cases hok : partsOkB ps okP
  · have hc0 : ¬ code = 0 := fun h => by rw [hcode.1 h] at hok; cases hok
    obtain ⟨h1, h2, h3, -⟩ := HBX.out w2 (Below.refl _ _)
    have hbw := (HBX.out w2 (Below.refl _ _)).2.2.2
    obtain ⟨a0, az0⟩ := box_at h1 0 (by simp)
    obtain ⟨a1, az1⟩ := box_at h1 1 (by simp)
    obtain ⟨a2, az2⟩ := box_at h1 2 (by simp)
    obtain ⟨c0, cz0⟩ := box_at h2 0 (by simp)
    obtain ⟨c1, cz1⟩ := box_at h2 1 (by simp)
    obtain ⟨c2, cz2⟩ := box_at h2 2 (by simp)
    obtain ⟨c3, cz3⟩ := box_at h2 3 (by simp)
    obtain ⟨e0, -⟩ := box_at h3 0 (by simp)
    obtain ⟨e1, -⟩ := box_at h3 1 (by simp)
    obtain ⟨e2, -⟩ := box_at h3 2 (by simp)
    obtain ⟨e3, -⟩ := box_at h3 3 (by simp)
    obtain ⟨-, -, h3', -⟩ := HBX.out w2 (Below.refl _ _)
    obtain ⟨g3, -⟩ := box_at h3' 3 (by simp)
    simp only [List.getElem_toArray, List.getElem_cons_zero, List.getElem_cons_succ] at a0 a1 a2 c0 c1 c2 c3 e0 e1 e2 e3 g3
    go_upto_region 3 with fail
    clear g3 h3'
    go_region
    all_goals
      have HP := put7 h1 h2 (by omega) (.string ⟨#[]⟩) (.slice none 0 0) (.slice none 0 0) (.int .i64 at') (.string ty) (.string fl) (.int .i64 code) _ _ (by first | exact Or.inl rfl | exact Or.inr rfl) (Or.inr rfl)
      go_wp2_with fail
      exact bodyPost_ret (mkResult _ _ w.heap.size (w.heap.size + 1) _ _ _ _ _ _ _ rfl rfl HP.1 HP.2.1) rfl (MakeC.nil at' ty fl code hc0 (fun h => (by rw [HCB.out, hok] at h; cases h)) (HP.2.2.2.2 _ _ hbw (Nat.le_refl _) (Nat.le_succ _)))
  · obtain rfl := hcode.2 hok
    obtain ⟨hp1, hp4, hpk⟩ := partsOk_ok hok
    have hallz := allM_ok ps hp4 hpk
    have HAL := hid_of (l6All_any ps w2 Lo B a c (HR.out.underA ((bX.trans (b2.mono (by omega))).mono HBL.out)) (by have := HBL.out; omega) (fcP_ok ps hp4 HZ.out) (needs_ok ps HZ.out))
    have HPF := hid_of (partFault_ok (allM ps))
    obtain ⟨A, HA⟩ : ∃ A, Hid (A = allM ps) := ⟨_, rfl⟩
    rw [← HA.out] at HAL hallz HPF
    replace hallz := hid_of hallz
    replace hok := hid_of hok
    have HP4 := hid_of hp4
    clear hp1 hp4 hpk hcode
    obtain ⟨-, -, h3', -⟩ := HBX.out w2 (Below.refl _ _)
    obtain ⟨g3, -⟩ := box_at h3' 3 (by simp)
    simp only [List.getElem_toArray, List.getElem_cons_zero, List.getElem_cons_succ] at g3
    go_upto_region 5 with (
      go_at_call 30
      refine HAL.out.mono ?_
      rintro e w3 ⟨ta, tc, rfl, hPA, b3⟩)
    clear g3 h3' HAL
    obtain ⟨L, HLn⟩ : ∃ L, Hid (L = A.types.length) := ⟨_, rfl⟩
    rw [← HLn.out] at hPA ⊢
    have nC := block_new (w := w3) (N := w3.heap.size) #[.string ⟨#[97]⟩, .slice ta L tc, .slice none 0 0] 28 rfl
    have bC := below_box w3 (.cells #[.string ⟨#[97]⟩, .slice ta L tc, .slice none 0 0] 28)
    have hC1 : w3.heap.size < (w3.alloc (.cells #[.string ⟨#[97]⟩, .slice ta L tc, .slice none 0 0] 28)).heap.size := by simp
    generalize w3.alloc (.cells #[.string ⟨#[97]⟩, .slice ta L tc, .slice none 0 0] 28) = w4 at *
    have hz3 := b3.size
    have hBw := HBL.out
    obtain ⟨c0, -⟩ := box_at nC 0 (by simp)
    obtain ⟨c1, -⟩ := box_at nC 1 (by simp)
    simp only [List.getElem_toArray, List.getElem_cons_zero, List.getElem_cons_succ] at c0 c1
    have HPA : Hid (∀ W, Below w3.heap.size w3 W → PRep W (fun b => (Lo ≤ b ∧ b < B) ∨ (w2.heap.size ≤ b ∧ b < w3.heap.size)) A (.agg #[.string ⟨#[97]⟩, .slice ta L tc])) := hid_of fun W hW => hPA.mono fun b hb => hW.block b (by omega)
    have HPC := hid_of (fun W (hW : Below w4.heap.size w4 W) => PartCheckS_any A W w4.heap.size _ ((HPA.out W (bC.trans (hW.mono (Nat.le_of_lt hC1)))).sub (Q := fun b => b < w4.heap.size) fun b hb => by show b < w4.heap.size; omega) hW.size hallz.out)
    obtain ⟨fa, fc, HFP⟩ : ∃ fa fc, Hid (partFault A = (fa, fc)) := ⟨_, _, rfl⟩
    rw [HFP.out] at HPC HPF
    have hF := field_code (.int .i64 fa) (.int .i64 fc)
    have HBX4 : Hid (∀ W, Below w3.heap.size w3 W → W.heap[w.heap.size]? = some (.cells #[.string ⟨#[]⟩, .slice none 0 0, .slice none 0 0] 28 (0, 0)) ∧ W.heap[w.heap.size + 1]? = some (.cells #[.int .i64 0, .string ⟨#[]⟩, .string ⟨#[]⟩, .int .i64 0] 52 (0, 0)) ∧ W.heap[w1.heap.size]? = some (.cells #[.int .i64 at', .string ty, .string fl, .int .i64 0] 52 (0, 0)) ∧ Below w.heap.size w W) := hid_of fun W hW => HBX.out W (b3.trans (hW.mono hz3))
    go_upto_if 23 with (
      go_at_call 15
      refine (HPC.out w4 (Below.refl _ _)).mono ?_
      rintro e w5 ⟨rfl, b5⟩)
    have nC5 := (b5.block w3.heap.size hC1).trans nC
    have b35 : Below w3.heap.size w3 w5 := bC.trans (b5.mono (Nat.le_of_lt hC1))
    have hz5 := b5.size
    clear c0 c1 nC bC b5 HPC HBX hPA
    by_cases hfc : fc = 0
    rotate_left
    · have hfb : (fc != 0) = true := by simpa using hfc
      obtain ⟨h1, h2, -, hbw⟩ := HBX4.out w5 b35
      obtain ⟨a0, az0⟩ := box_at h1 0 (by simp)
      obtain ⟨a1, az1⟩ := box_at h1 1 (by simp)
      obtain ⟨a2, az2⟩ := box_at h1 2 (by simp)
      obtain ⟨c0, cz0⟩ := box_at h2 0 (by simp)
      obtain ⟨c1, cz1⟩ := box_at h2 1 (by simp)
      obtain ⟨c2, cz2⟩ := box_at h2 2 (by simp)
      obtain ⟨c3, cz3⟩ := box_at h2 3 (by simp)
      simp only [List.getElem_toArray, List.getElem_cons_zero, List.getElem_cons_succ] at a0 a1 a2 c0 c1 c2 c3
      have HP := hid_of (put7 h1 h2 (by omega) (.string ⟨#[]⟩) (.slice none 0 0) (.slice none 0 0) (.int .i64 0) (.string ⟨#[]⟩) (.string ⟨#[]⟩) (.int .i64 8) _ _ (Or.inl rfl) (Or.inl rfl))
      have hnok : ¬ okP A = true := fun h => hfc (HPF.out.2 h)
      go_wp2_with fail
      exact bodyPost_ret (mkResult _ _ w.heap.size (w.heap.size + 1) _ _ _ _ _ _ _ rfl rfl HP.out.1 HP.out.2.1) rfl (MakeC.nil 0 ⟨#[]⟩ ⟨#[]⟩ 8 (by omega) (fun h => (by rw [HCB.out, hok.out, Bool.true_and, ← HA.out] at h; exact absurd h hnok)) (HP.out.2.2.2.2 _ _ hbw (Nat.le_refl _) (Nat.le_succ _)))
    subst hfc
    obtain ⟨-, -, h3', -⟩ := HBX4.out w5 b35
    obtain ⟨ta', tc', he, ⟨h56, C, hA, hr⟩, -⟩ := HPA.out w3 (Below.refl _ _)
    simp only [Value.agg.injEq, Array.mk.injEq, List.cons.injEq, Value.slice.injEq, true_and, and_true] at he
    obtain ⟨-, rfl, -, rfl⟩ := he
    have HAOK : Hid (okP A = true) := hid_of (HPF.out.1 rfl)
    have hL6 : L ≤ 6000000000000 := by rw [HLn.out]; omega
    have HTT : Hid (∀ k, k < L → ∃ (b off fl fcp fb fo : Nat) (tn tk : ByteArray), ta = some ⟨b, off, none⟩ ∧ fl = (tth A.types k).fields.length ∧ fl ≤ 1000000000000000 ∧ (tn = (tth A.types k).name ∧ tn.size ≤ maxLen) ∧ (∀ W, Below w3.heap.size w3 W → W.cell? ⟨b, off + k * 3, none⟩ = some (.string tn) ∧ W.cell? ⟨b, off + k * 3 + 1, none⟩ = some (.string tk) ∧ W.cell? ⟨b, off + k * 3 + 2, none⟩ = some (.slice (some ⟨fb, fo, none⟩) fl fcp)) ∧ ∀ j, j < fl → ∃ (fn : ByteArray), (fn = (fth (tth A.types k).fields j).name ∧ fn.size ≤ maxLen) ∧ ∀ W, Below w3.heap.size w3 W → W.cell? ⟨fb, fo + j * 8, none⟩ = some (.string fn)) := hid_of fun k hk => by
      rw [HLn.out] at hk
      obtain ⟨b, off, e, hb, hc⟩ := hA (by omega)
      obtain ⟨fa, fcp, he, ⟨h64, D, hAD, hrD⟩, -, htn1, -⟩ := hr k hk
      simp only [Value.agg.injEq, Array.mk.injEq, List.cons.injEq, and_true] at he
      obtain ⟨e0, e1, e2⟩ := he
      have hbl : b < w3.heap.size := by omega
      obtain ⟨fb, fo, rfl, hfb, hcd⟩ := hAD (code_names (okP_all HAOK.out hk)).1
      refine ⟨b, off, _, fcp, fb, fo, (tth A.types k).name, (tth A.types k).key, e, rfl, by omega, ⟨rfl, htn1⟩, fun W hW => ?_, fun j hj => ?_⟩
      · have h := fun j hj => (hW.cell (p := ⟨b, off + k * 3 + j, none⟩) hbl).trans (hc k hk j hj)
        have h0 := h 0 (by omega)
        have h1 := h 1 (by omega)
        have h2 := h 2 (by omega)
        rw [e0, Nat.add_zero] at h0
        rw [e1] at h1
        rw [e2] at h2
        exact ⟨h0, h1, h2⟩
      · obtain ⟨na, nc, he, -, -, hfn1, -⟩ := hrD j hj
        simp only [Value.agg.injEq, Array.mk.injEq, List.cons.injEq, and_true] at he
        refine ⟨(fth (tth A.types k).fields j).name, ⟨rfl, hfn1⟩, fun W hW => ?_⟩
        have h1 := (hW.cell (p := ⟨fb, fo + j * 8 + 0, none⟩) (by show fb < _; omega)).trans (hcd j hj 0 (by omega))
        rw [he.1, Nat.add_zero] at h1
        exact h1
    have HFC : Hid (∀ k, k < L → fcT A (k + 1) = fcT A k + (tth A.types k).fields.length + 1) := hid_of fun k hk => rfl
    have HFB : Hid (∀ k, k ≤ L → fcT A k ≤ 100000000) := hid_of fun k hk => by
      have h1 := fcT_sz A A.types.length
      have h2 := fcT_le A (show k ≤ A.types.length by rw [← HLn.out]; exact hk)
      have h3 : szP A = A.name.size + (A.types.length + szTsTo A.types A.types.length) := rfl
      have h4 := hallz.out
      omega
    have HM0 : Hid (OwSt w5 w3.heap.size ta L tc (ownT ps A 0) w5) := hid_of ⟨⟨.slice none 0 0, nC5, OwRow.nil _ _⟩, Below.refl _ _, by omega⟩
    have HOL : Hid (∀ k j, k < L → j ≤ (tth A.types k).fields.length → (ownT ps A k ++ ownF ps (tth A.types k) j).length ≤ 100000000) := hid_of fun k j hk hj => by
      have h1 := ownT_len ps A k
      have h2 := HFB.out (k + 1) (by omega)
      rw [HFC.out k hk] at h2
      rw [List.length_append, ownF_len]
      omega
    have HOT : Hid ((ownT ps A L).length ≤ 100000000) := hid_of (by have h1 := ownT_len ps A L; have h2 := HFB.out L (Nat.le_refl _); omega)
    have HLL : Hid (L = A.types.length) := HLn
    have hw22 : w.heap.size + 2 ≤ w2.heap.size := by omega
    have HNE : Hid (¬ w1.heap.size = w.heap.size ∧ ¬ w1.heap.size = w.heap.size + 1 ∧ ¬ w3.heap.size = w.heap.size ∧ ¬ w3.heap.size = w.heap.size + 1 ∧ ¬ w.heap.size = w1.heap.size ∧ ¬ w.heap.size + 1 = w1.heap.size ∧ ¬ w.heap.size = w3.heap.size ∧ ¬ w.heap.size + 1 = w3.heap.size) := hid_of ⟨by omega, by omega, by omega, by omega, by omega, by omega, by omega, by omega⟩
    clear h3' nC5 hA hr h56 hF hz1 hz2 HPF
    go_wp2_with fail
    simp only [show ((0 : Int) != 0) = false from rfl]
    go_loopw [6] (fun i wr => ∃ k : Nat, k ≤ L ∧ i = .int .i64 k ∧ Hid (OwSt w5 w3.heap.size ta L tc (ownT ps A k) wr)) (fun i _ => L - (intOf i).toNat)
    case atStart => exact ⟨0, Nat.zero_le _, rfl, HM0⟩
    case round =>
      clear HM0
      obtain ⟨k, hk, rfl, HK⟩ := hrel
      obtain ⟨wK, rfl⟩ : ∃ x, x = wr := ⟨wr, rfl⟩
      have b5K := HK.out.bel
      have bK : Below w3.heap.size w3 wK := b35.trans b5K
      obtain ⟨ov, hCB, hrw⟩ := HK.out.ex
      obtain ⟨oa, ol, oc, rfl⟩ : ∃ oa ol oc, ov = .slice oa ol oc := by
        obtain ⟨C', hrw, -⟩ := hrw
        rcases hrw.2 with ⟨e, -⟩ | ⟨g, cap, cur, e, -⟩
        · exact ⟨_, _, _, e⟩
        · exact ⟨_, _, _, e⟩
      have HRWK := hid_of hrw
      clear hrw
      obtain ⟨c0, -⟩ := box_at hCB 0 (by simp)
      obtain ⟨c1, -⟩ := box_at hCB 1 (by simp)
      obtain ⟨c2, -⟩ := box_at hCB 2 (by simp)
      simp only [List.getElem_toArray, List.getElem_cons_zero, List.getElem_cons_succ] at c0 c1 c2
      by_cases hlt : k < L
      case neg =>
        have hki : ¬ (k : Int) < (L : Int) := by omega
        obtain ⟨h1, h2, h3, hbw⟩ := HBX4.out wK bK
        obtain ⟨a0, az0⟩ := box_at h1 0 (by simp)
        obtain ⟨a1, az1⟩ := box_at h1 1 (by simp)
        obtain ⟨a2, az2⟩ := box_at h1 2 (by simp)
        obtain ⟨d0, dz0⟩ := box_at h2 0 (by simp)
        obtain ⟨d1, dz1⟩ := box_at h2 1 (by simp)
        obtain ⟨d2, dz2⟩ := box_at h2 2 (by simp)
        obtain ⟨d3, dz3⟩ := box_at h2 3 (by simp)
        obtain ⟨e0, -⟩ := box_at h3 0 (by simp)
        obtain ⟨e1, -⟩ := box_at h3 1 (by simp)
        obtain ⟨e2, -⟩ := box_at h3 2 (by simp)
        obtain ⟨e3, -⟩ := box_at h3 3 (by simp)
        simp only [List.getElem_toArray, List.getElem_cons_zero, List.getElem_cons_succ] at a0 a1 a2 d0 d1 d2 d3 e0 e1 e2 e3
        have HEND : Hid (∀ F G, (F = ((((((wK.setCell ⟨w.heap.size, 0, none⟩ (.string ⟨#[97]⟩)).setCell ⟨w.heap.size, 1, none⟩ (.slice ta L tc)).setCell ⟨w.heap.size, 2, none⟩ (.slice oa ol oc)).setCell ⟨w.heap.size + 1, 0, none⟩ (.int .i64 at')).setCell ⟨w.heap.size + 1, 1, none⟩ (.string ty)).setCell ⟨w.heap.size + 1, 2, none⟩ (.string fl)).setCell ⟨w.heap.size + 1, 3, none⟩ (.int .i64 0) ∨ F = ((((((wK.setCell ⟨w.heap.size + 1, 0, none⟩ (.int .i64 at')).setCell ⟨w.heap.size + 1, 1, none⟩ (.string ty)).setCell ⟨w.heap.size + 1, 2, none⟩ (.string fl)).setCell ⟨w.heap.size + 1, 3, none⟩ (.int .i64 0)).setCell ⟨w.heap.size, 0, none⟩ (.string ⟨#[97]⟩)).setCell ⟨w.heap.size, 1, none⟩ (.slice ta L tc)).setCell ⟨w.heap.size, 2, none⟩ (.slice oa ol oc)) → (G = F ∨ G = F.drew) →
          G.heap[w.heap.size]? = some (.cells #[.string ⟨#[97]⟩, .slice ta L tc, .slice oa ol oc] 28 (0, 0)) ∧ G.heap[w.heap.size + 1]? = some (.cells #[.int .i64 at', .string ty, .string fl, .int .i64 0] 52 (0, 0)) ∧ MakeC w Lo B ps (.returned (.tuple #[.agg #[.string ⟨#[97]⟩, .slice ta L tc, .slice oa ol oc], .agg #[.int .i64 at', .string ty, .string fl, .int .i64 0]])) G) := hid_of fun F G hF hG => by
          have HP := put7 h1 h2 (by omega) (.string ⟨#[97]⟩) (.slice ta L tc) (.slice oa ol oc) (.int .i64 at') (.string ty) (.string fl) (.int .i64 0) F G hF hG
          have hpa := HPA.out wK bK
          have hzK := bK.size
          have hch : chartB ps okP = true := by rw [HCB.out, hok.out, Bool.true_and, ← HA.out]; exact HAOK.out
          have hkL : k = L := by omega
          obtain ⟨ho1, ho2, ho3⟩ := OwRow.rep (hkL ▸ HRWK.out) (Nat.le_trans HOT.out (by omega))
          have hw3w := HNE.out
          refine ⟨HP.1, HP.2.1, _, at', ty, fl, 0, rfl, ⟨fun _ => hch, fun _ => rfl⟩, HP.2.2.2.2 _ _ hbw (Nat.le_refl _) (Nat.le_succ _), ?_⟩
          unfold chartC
          rw [if_pos hch, ← HA.out]
          have e5 : (⟨#[97]⟩ : ByteArray) = A.name := by rw [HA.out]; rfl
          refine ⟨ta, oa, tc, oc, ?_, ?_, ?_, ?_⟩
          · simp only
            rw [← HLL.out, ← ho1, ← e5]
          · have hps := (hpa.mono (w' := G) fun b hb => HP.2.2.1 b (by omega) (by omega)).sub (Q := fun b => (Lo ≤ b ∧ b < B) ∨ (w.heap.size ≤ b ∧ b < G.heap.size)) fun b hb => hb.imp id fun h => ⟨by omega, by rw [HP.2.2.2.1]; omega⟩
            obtain ⟨x1, x2, x3, x4⟩ := hps
            exact ⟨x1, x2, by rw [← x3, e5, HLL.out], x4⟩
          · simp only
            rw [← HLL.out]
            exact (ho3.mono fun b hb => HP.2.2.1 b (by omega) (by omega)).sub fun b hb => Or.inr ⟨by omega, by rw [HP.2.2.2.1]; omega⟩
          · simp only
            rw [← HLL.out]
            exact ho2
        obtain ⟨ne1, ne2, ne3, ne4, ne5, ne6, ne7, ne8⟩ := HNE.out
        go_upto_region 15 with fail
        go_region
        all_goals
          have HE := HEND.out _ _ (by first | exact Or.inl rfl | exact Or.inr rfl) (Or.inr rfl)
          go_wp2_with fail
          exact bodyPost_ret (mkResult _ _ w.heap.size (w.heap.size + 1) _ _ _ _ _ _ _ rfl rfl HE.1 HE.2.1) rfl HE.2.2
      case pos =>
        have hki : (k : Int) < (L : Int) := by omega
        obtain ⟨b, off, fl', fcp, fb, fo, tn, tk, rfl, HFL, hfl, HTN, hTC, hFC⟩ := HTT.out k hlt
        replace HTN := hid_of HTN
        replace HFL := hid_of HFL
        have HFN := hid_of hFC
        obtain ⟨t0, t1, t2⟩ := hTC wK bK
        have HMT := hid_of (HK.out.ty #[.string tn, .string tk, .slice (some ⟨fb, fo, none⟩) fl' fcp])
        have hTB : w3.heap.size < wK.heap.size := HK.out.lt
        go_upto_region 11 with fail
        clear c0 c1 c2 t0 t1 t2 hCB hFC hTC
        generalize wK.alloc (.cells #[.string tn, .string tk, .slice (some ⟨fb, fo, none⟩) fl' fcp] 48) = wT at *
        go_wp2_with fail
        go_loopw [8] (fun i wr => ∃ j : Nat, j ≤ fl' ∧ i = .int .i64 j ∧ Hid (OwTy w5 w3.heap.size (some ⟨b, off, none⟩) L tc (ownT ps A k ++ ownF ps (tth A.types k) j) wK.heap.size #[.string tn, .string tk, .slice (some ⟨fb, fo, none⟩) fl' fcp] wr)) (fun i _ => fl' - (intOf i).toNat)
        case atStart => exact ⟨0, Nat.zero_le _, rfl, hid_of (by rw [ownF, List.append_nil]; exact HMT.out)⟩
        case round =>
          clear HMT
          obtain ⟨j, hj, rfl, HJ⟩ := hrel
          obtain ⟨wJ, rfl⟩ : ∃ x, x = wr := ⟨wr, rfl⟩
          obtain ⟨y2, -⟩ := box_at HJ.out.box 2 (by simp)
          simp only [List.getElem_toArray, List.getElem_cons_zero, List.getElem_cons_succ] at y2
          by_cases hjl : j < fl'
          case neg =>
            have hji : ¬ (j : Int) < (fl' : Int) := by omega
            have HK1 : Hid (OwSt w5 w3.heap.size (some ⟨b, off, none⟩) L tc (ownT ps A (k + 1)) wJ) := hid_of (by rw [ownT, ← HFL.out, ← show j = fl' by omega]; exact HJ.out.st)
            go_wp2_with fail
            exact ⟨⟨k + 1, by omega, by go_num, HK1⟩, by simp [intOf]; omega⟩
          case pos =>
            have hji : (j : Int) < (fl' : Int) := by omega
            obtain ⟨fn, HFNM, hFc⟩ := HFN.out j hjl
            replace HFNM := hid_of HFNM
            obtain ⟨ov, hCB, hOW, hob⟩ := HJ.out.ex
            obtain ⟨os, HOS⟩ : ∃ os, Hid (os = ownT ps A k ++ ownF ps (tth A.types k) j) := ⟨_, hid_of rfl⟩
            rw [← HOS.out] at hOW
            obtain ⟨C, hrw, hOR⟩ := hOW
            have HOR := hid_of hOR
            have hqb : os.length ≤ 200000000 := by have := HOL.out k j hlt (by rw [← HFL.out]; omega); rw [← HOS.out] at this; omega
            obtain ⟨q, hq⟩ : ∃ q, q = os.length := ⟨_, rfl⟩
            obtain ⟨xs, hxs⟩ : ∃ xs, xs = flat3 C os.length := ⟨_, rfl⟩
            rw [← hq] at hqb
            rw [← hxs, ← hq] at hrw
            replace hq := hid_of hq
            replace hxs := hid_of hxs
            clear hOR
            have hlt3 := HJ.out.lt
            have bJ : Below w3.heap.size w3 wJ := b35.trans HJ.out.bel
            obtain ⟨iO, zO, hiO, hO0, hO1, hO2, hOz⟩ := infoO_parts
            have hbT := HJ.out.box
            have HSD : Hid (∀ W, Below wJ.heap.size wJ W → W.cell? ⟨wK.heap.size, 0, none⟩ = some (.string tn) ∧ W.cell? ⟨wK.heap.size, 2, none⟩ = some (.slice (some ⟨fb, fo, none⟩) fl' fcp) ∧ W.cell? ⟨fb, fo + j * 8, none⟩ = some (.string fn)) := hid_of fun W hW => by
              have h := (hW.block _ hlt3.2).trans hbT
              exact ⟨(box_at h 0 (by simp)).1, (box_at h 2 (by simp)).1, hFc W (bJ.trans (hW.mono (by omega)))⟩
            have HC2 : Hid (∀ W, Below wJ.heap.size wJ W → W.cell? ⟨w3.heap.size, 2, none⟩ = some ov) := hid_of fun W hW => (box_at ((hW.block _ (by omega)).trans hCB) 2 (by simp)).1
            have HOW := hid_of (fun W (hW : Below wJ.heap.size wJ W) => l6Owners_any ps tn fn W B a c ((HR.out.low.under ((HBX4.out W (bJ.trans (hW.mono (by omega)))).2.2.2.mono HBL.out))) (by have := hW.size; have := HBL.out; omega))
            have HRW : Hid (∀ W, Below wJ.heap.size wJ W → W.ownsRow (w3.heap.size + 1) 59 3 ov q xs ∧ w3.heap.size + 1 ≤ W.heap.size) := hid_of fun W hW => ⟨owns_keep' hrw hW, by have := hW.size; omega⟩
            have HGR : Hid (∀ W, Below wJ.heap.size wJ W → ∀ W', W.grownBy W' ov.ownBlock → ∀ b, b < wJ.heap.size → ov.ownBlock ≠ some b → W'.heap[b]? = wJ.heap[b]?) := hid_of fun W hW W' hg b hb hn => (hg.block b (Nat.lt_of_lt_of_le hb hW.size) (fun e => hn e.symm)).trans (hW.block b hb)
            have hCo : ov.ownBlock ≠ some w3.heap.size := fun e => by have := (hrw.lt _ e).1; omega
            have hFo : ov.ownBlock ≠ some fb ∨ True := Or.inr trivial
            have HSF : Hid (∀ W, Below wJ.heap.size wJ W → ∀ W', W.grownBy W' ov.ownBlock → W'.cell? ⟨wK.heap.size, 0, none⟩ = some (.string tn) ∧ W'.cell? ⟨wK.heap.size, 2, none⟩ = some (.slice (some ⟨fb, fo, none⟩) fl' fcp) ∧ W'.cell? ⟨fb, fo + j * 8, none⟩ = some (.string fn)) := hid_of fun W hW W' hg => by
              have h := (HGR.out W hW W' hg _ hlt3.2 hob).trans hbT
              refine ⟨(box_at h 0 (by simp)).1, (box_at h 2 (by simp)).1, hFc W' ((bJ.trans (hW.mono (by omega))).grown hg (by have := hW.size; omega) fun k hk => by have := (hrw.lt k hk).1; omega)⟩
            have HBF : Hid (∀ W, Below wJ.heap.size wJ W → ∀ W', W.grownBy W' ov.ownBlock → W'.heap[w3.heap.size]? = some (.cells #[.string ⟨#[97]⟩, .slice (some ⟨b, off, none⟩) L tc, ov] 28 (0, 0))) := hid_of fun W hW W' hg => (HGR.out W hW W' hg _ (by omega) hCo).trans hCB
            have HST : Hid (∀ W, Below wJ.heap.size wJ W → ∀ W', W.grownBy W' ov.ownBlock → ∀ v, (W'.setCell ⟨w3.heap.size, 2, none⟩ v).cell? ⟨wK.heap.size, 0, none⟩ = some (.string tn) ∧ (W'.setCell ⟨w3.heap.size, 2, none⟩ v).cell? ⟨wK.heap.size, 2, none⟩ = some (.slice (some ⟨fb, fo, none⟩) fl' fcp) ∧ (W'.setCell ⟨w3.heap.size, 2, none⟩ v).cell? ⟨fb, fo + j * 8, none⟩ = some (.string fn)) := hid_of fun W hW W' hg v => by
              obtain ⟨q1, q2, -⟩ := HSF.out W hW W' hg
              have hb' := (bJ.trans (hW.mono (by omega))).grown hg (by have := hW.size; omega) fun k hk => by have := (hrw.lt k hk).1; omega
              exact ⟨(World.cell?_of_block (a := ⟨wK.heap.size, 0, none⟩) (Below.heap_setCell _ _ _ _ (by show wK.heap.size ≠ w3.heap.size; omega))).trans q1, (World.cell?_of_block (a := ⟨wK.heap.size, 2, none⟩) (Below.heap_setCell _ _ _ _ (by show wK.heap.size ≠ w3.heap.size; omega))).trans q2, hFc _ (hb'.setCell (p := ⟨w3.heap.size, 2, none⟩) (Nat.le_refl _) v)⟩
            have HEND : Hid (∀ W, Below wJ.heap.size wJ W → ∀ oa oc, Ints W (Off (fun _ => False) (w3.heap.size + 1) W ov) (ownO ps tn fn).parts oa ∧ (ownO ps tn fn).parts.length ≤ oc → ∀ W' gF capF, W'.ownsRow (w3.heap.size + 1) 59 3 (.slice (some ⟨gF, 0, none⟩) (q + 1) capF) (q + 1) (xs ++ [.string tn, .string fn, .slice oa (ownersM ps tn fn).length oc]) → W.grownBy W' ov.ownBlock → ((Value.slice (some ⟨gF, 0, none⟩) (q + 1) capF).ownBlock = ov.ownBlock ∨ (Value.slice (some ⟨gF, 0, none⟩) (q + 1) capF).ownBlock = some W.heap.size) → Hid (OwTy w5 w3.heap.size (some ⟨b, off, none⟩) L tc (ownT ps A k ++ ownF ps (tth A.types k) (j + 1)) wK.heap.size #[.string tn, .string tk, .slice (some ⟨fb, fo, none⟩) fl' fcp] (W'.setCell ⟨w3.heap.size, 2, none⟩ (.slice (some ⟨gF, 0, none⟩) (q + 1) capF)))) := hid_of fun W hW oa oc hI W' gF capF oF hg hor => by
              have hz := hW.size
              have hb5 : Below w3.heap.size w5 W' := (HJ.out.bel.trans (hW.mono (by omega))).grown hg (by omega) fun k hk => by have := (hrw.lt k hk).1; omega
              have hlo := ownersTo_len ps tn fn ps.length
              have hol : (ownO ps tn fn).parts.length = (ownersM ps tn fn).length := by simp [ownO]
              have hOW : ∀ i, i < os.length → ORep W (Off (fun _ => False) (w3.heap.size + 1) W ov) (oth os i) (.agg #[C i 0, C i 1, C i 2]) := fun i hi => ((HOR.out i hi).mono fun b hb => hb.elim False.elim fun x => hW.block b x.2.1).sub fun b hb => hb.elim Or.inl fun x => Or.inr ⟨x.1, by omega, x.2.2⟩
              rw [hxs.out, hq.out] at oF
              rw [hq.out] at hor
              have hP := OwRow.push hOW (ownO ps tn fn) (.string tn) (.string fn) (.slice oa (ownersM ps tn fn).length oc) ⟨oa, oc, by rw [hol]; rfl, hI.1, hI.2, HTN.out.2, HFNM.out.2⟩ oF (fun b hb hn => hg.block b hb fun e => hn e.symm) hg.size (fun b hb => by
                rcases hor with hor | hor
                · rw [hor] at hb; exact Or.inl hb
                · rw [hor] at hb; exact Or.inr (by have := Option.some.inj hb; omega))
              have hos : os ++ [ownO ps tn fn] = ownT ps A k ++ ownF ps (tth A.types k) (j + 1) := by
                rw [HOS.out, List.append_assoc, ownF, HTN.out.1, HFNM.out.1]
              rw [hos] at hP
              rw [hq.out]
              refine ⟨⟨_, by simpa using set_box (HBF.out W hW W' hg) 2 (.slice (some ⟨gF, 0, none⟩) (os.length + 1) capF), hP.keep (fun b hb _ => Below.heap_setCell _ _ _ _ (by show b ≠ w3.heap.size; omega)) (by simp), fun e => ?_⟩, hb5.setCell (p := ⟨w3.heap.size, 2, none⟩) (Nat.le_refl _) _, ⟨hlt3.1, ?_⟩, ?_⟩
              · rcases hor with hor | hor
                · exact hob (hor ▸ e)
                · rw [hor] at e; have := Option.some.inj e; omega
              · have := hg.size; simp; omega
              · rw [Below.heap_setCell _ _ _ _ (by show wK.heap.size ≠ w3.heap.size; omega)]; exact (HGR.out W hW W' hg _ hlt3.2 hob).trans hbT
            have HLO : Hid ((ownersM ps tn fn).length ≤ 1000000000) := hid_of (by have h := ownersTo_len ps tn fn ps.length; have h2 : (ownersM ps tn fn).length ≤ ps.length := h; have := HP4.out; omega)
            have HRB : Hid (∀ b, ov.ownBlock = some b → b < wJ.heap.size) := hid_of fun b hb => (hrw.lt b hb).2
            clear hCB hbT
            go_upto_region 14 with fail
            clear y2
            refine wp_region_held_drew (S := (fun w' => w'.cell? ⟨wK.heap.size, 0, none⟩ = some (.string tn) ∧ w'.cell? ⟨wK.heap.size, 2, none⟩ = some (.slice (some ⟨fb, fo, none⟩) fl' fcp) ∧ w'.cell? ⟨fb, fo + j * 8, none⟩ = some (.string fn))) (by kernel_rfl) (HSD.out _ (Below.refl _ _).drew) (fun hHeld => ?_)
            have bX : Below wJ.heap.size wJ wJ.drew := (Below.refl _ _).drew
            generalize wJ.drew = wD at *
            refine tkH 0 hHeld ?_
            refine tkH 2 hHeld ?_
            refine tkH 3 hHeld ?_
            refine tkH 4 hHeld ?_
            refine tkH 5 hHeld ?_
            refine tkH 6 hHeld ?_
            refine tkH 7 hHeld ?_
            refine tkH 8 hHeld ?_
            refine tkH 9 hHeld ?_
            refine tkH 10 hHeld ?_
            refine tkH 11 hHeld ?_
            refine tkH 12 hHeld ?_
            refine tkH 13 hHeld ?_
            refine tkH 14 hHeld ?_
            refine tkH 15 hHeld ?_
            refine tkH 16 hHeld ?_
            refine tkH 17 hHeld ?_
            refine tkH 18 hHeld ?_
            refine rdyH [1, 19] ?_
            refine rcH (fun K hK => ?_) ?_
            · have c1 := HC2.out wD bX
              go_simp
              clear c1
              refine hK.out _ _ (HSD.out _ bX) (fun hHeld => ?_)
              clear hK K
              try simp only [Act.put, List.setIfInBounds_toArray, List.set_cons_zero, List.set_cons_succ]
              refine rdyH [19] ?_
              refine rcH (fun K hK => ?_) AllReadyH.nil
              go_simp
              refine (HOW.out wD bX).mono ?_
              rintro e wOw ⟨oa, oc, rfl, hRI, bOw⟩
              have hIN := hid_of (RowI.ints hRI HLO.out)
              have hzI := bX.size
              have bX := bX.trans (bOw.mono bX.size)
              clear hRI
              refine hK.out _ _ (HSD.out _ bX) (fun hHeld => ?_)
              clear hK K
              try simp only [Act.put, List.setIfInBounds_toArray, List.set_cons_zero, List.set_cons_succ]
              refine tkH 20 hHeld ?_
              refine rdyH [21] ?_
              refine rcH (fun K hK => ?_) AllReadyH.nil
              go_simp
              have bE := below_box wOw (.cells #[.string tn, .string fn, .slice oa (ownersM ps tn fn).length oc] 59)
              obtain ⟨gE, hgE⟩ : ∃ g, g = wOw.heap.size := ⟨_, rfl⟩
              have hI2 : Hid (Ints (wOw.alloc (.cells #[.string tn, .string fn, .slice oa (ownersM ps tn fn).length oc] 59)) (Off (fun _ => False) (w3.heap.size + 1) (wOw.alloc (.cells #[.string tn, .string fn, .slice oa (ownersM ps tn fn).length oc] 59)) ov) (ownO ps tn fn).parts oa ∧ (ownO ps tn fn).parts.length ≤ oc) := hid_of ⟨hIN.out.1.off (by omega) (fun b hb => by have := HRB.out b hb; omega) bE, by have h := hIN.out.2; simp only [ownO, List.length_map]; exact h⟩
              have nE := block_new (w := wOw) (N := gE) #[.string tn, .string fn, .slice oa (ownersM ps tn fn).length oc] 59 hgE.symm
              have bX := bX.trans (bE.mono bX.size)
              refine hK.out _ _ (HSD.out _ bX) (fun hHeld => ?_)
              clear hK K
              try simp only [Act.put, List.setIfInBounds_toArray, List.set_cons_zero, List.set_cons_succ]
              rw [← hgE]
              generalize wOw.alloc (.cells #[.string tn, .string fn, .slice oa (ownersM ps tn fn).length oc] 59) = wEe at *
              clear hgE bE
              refine rdyH [22] ?_
              refine rcH (fun K hK => ?_) AllReadyH.nil
              refine step_append_own_at rfl (.tmp 48) (.tmp 68) 26 rfl (w3.heap.size + 1) 59 iO zO 3 56 Try.underlying26 hiO hO0 hO1 hO2 hOz (by decide) ov q xs rfl (HRW.out wEe bX).1 ⟨gE, 0, none⟩ 1 1 [.string tn, .string fn, .slice oa (ownersM ps tn fn).length oc] rfl rfl (World.news_of_block nE) (by intro u hu; simp at hu; rcases hu with rfl | rfl | rfl <;> rfl) (by unfold maxLen; omega) (by omega) (HRW.out wEe bX).2 ?_
              intro v' wF oF hgrF hiffF hobF
              obtain ⟨gF, capF, rfl, -, -⟩ := oF.form (by omega)
              refine hK.out _ _ (HSF.out _ bX _ hgrF) (fun hHeld => ?_)
              clear hK K
              try simp only [Act.put, List.setIfInBounds_toArray, List.set_cons_zero, List.set_cons_succ]
              refine tkH 23 hHeld ?_
              refine rdyH [24] ?_
              refine rcH (fun K hK => ?_) AllReadyH.nil
              have hbx := HBF.out _ bX _ hgrF
              obtain ⟨c1, z1⟩ := box_at hbx 2 (by simp)
              go_simp
              clear hbx c1 z1
              refine hK.out _ _ (HST.out _ bX _ hgrF _) (fun hHeld => ?_)
              clear hK K
              try simp only [Act.put, List.setIfInBounds_toArray, List.set_cons_zero, List.set_cons_succ]
              refine wpAnyH_done (by kernel_rfl) ?_ _
              have HFIN := HEND.out _ bX oa oc hI2.out _ gF capF oF hgrF hobF
              clear HEND
              generalize wF.setCell ⟨w3.heap.size, 2, none⟩ (.slice (some ⟨gF, 0, none⟩) (q + 1) capF) = wZ at *
              clear oF hgrF hobF bX nE
              go_wp2_with fail
              go_roundw
              case measure => simp [intOf]; omega
              case rel => exact ⟨j + 1, by omega, by go_num, HFIN⟩
            refine rcH (fun K hK => ?_) AllReadyH.nil
            go_simp
            refine (HOW.out wD bX).mono ?_
            rintro e wOw ⟨oa, oc, rfl, hRI, bOw⟩
            have hIN := hid_of (RowI.ints hRI HLO.out)
            have hzI := bX.size
            have bX := bX.trans (bOw.mono bX.size)
            clear hRI
            refine hK.out _ _ (HSD.out _ bX) (fun hHeld => ?_)
            clear hK K
            try simp only [Act.put, List.setIfInBounds_toArray, List.set_cons_zero, List.set_cons_succ]
            refine tkH 20 hHeld ?_
            refine rdyH [1, 21] ?_
            refine rcH (fun K hK => ?_) ?_
            · have c1 := HC2.out wOw bX
              go_simp
              clear c1
              refine hK.out _ _ (HSD.out _ bX) (fun hHeld => ?_)
              clear hK K
              try simp only [Act.put, List.setIfInBounds_toArray, List.set_cons_zero, List.set_cons_succ]
              refine rdyH [21] ?_
              refine rcH (fun K hK => ?_) AllReadyH.nil
              go_simp
              have bE := below_box wOw (.cells #[.string tn, .string fn, .slice oa (ownersM ps tn fn).length oc] 59)
              obtain ⟨gE, hgE⟩ : ∃ g, g = wOw.heap.size := ⟨_, rfl⟩
              have hI2 : Hid (Ints (wOw.alloc (.cells #[.string tn, .string fn, .slice oa (ownersM ps tn fn).length oc] 59)) (Off (fun _ => False) (w3.heap.size + 1) (wOw.alloc (.cells #[.string tn, .string fn, .slice oa (ownersM ps tn fn).length oc] 59)) ov) (ownO ps tn fn).parts oa ∧ (ownO ps tn fn).parts.length ≤ oc) := hid_of ⟨hIN.out.1.off (by omega) (fun b hb => by have := HRB.out b hb; omega) bE, by have h := hIN.out.2; simp only [ownO, List.length_map]; exact h⟩
              have nE := block_new (w := wOw) (N := gE) #[.string tn, .string fn, .slice oa (ownersM ps tn fn).length oc] 59 hgE.symm
              have bX := bX.trans (bE.mono bX.size)
              refine hK.out _ _ (HSD.out _ bX) (fun hHeld => ?_)
              clear hK K
              try simp only [Act.put, List.setIfInBounds_toArray, List.set_cons_zero, List.set_cons_succ]
              rw [← hgE]
              generalize wOw.alloc (.cells #[.string tn, .string fn, .slice oa (ownersM ps tn fn).length oc] 59) = wEe at *
              clear hgE bE
              refine rdyH [22] ?_
              refine rcH (fun K hK => ?_) AllReadyH.nil
              refine step_append_own_at rfl (.tmp 48) (.tmp 68) 26 rfl (w3.heap.size + 1) 59 iO zO 3 56 Try.underlying26 hiO hO0 hO1 hO2 hOz (by decide) ov q xs rfl (HRW.out wEe bX).1 ⟨gE, 0, none⟩ 1 1 [.string tn, .string fn, .slice oa (ownersM ps tn fn).length oc] rfl rfl (World.news_of_block nE) (by intro u hu; simp at hu; rcases hu with rfl | rfl | rfl <;> rfl) (by unfold maxLen; omega) (by omega) (HRW.out wEe bX).2 ?_
              intro v' wF oF hgrF hiffF hobF
              obtain ⟨gF, capF, rfl, -, -⟩ := oF.form (by omega)
              refine hK.out _ _ (HSF.out _ bX _ hgrF) (fun hHeld => ?_)
              clear hK K
              try simp only [Act.put, List.setIfInBounds_toArray, List.set_cons_zero, List.set_cons_succ]
              refine tkH 23 hHeld ?_
              refine rdyH [24] ?_
              refine rcH (fun K hK => ?_) AllReadyH.nil
              have hbx := HBF.out _ bX _ hgrF
              obtain ⟨c1, z1⟩ := box_at hbx 2 (by simp)
              go_simp
              clear hbx c1 z1
              refine hK.out _ _ (HST.out _ bX _ hgrF _) (fun hHeld => ?_)
              clear hK K
              try simp only [Act.put, List.setIfInBounds_toArray, List.set_cons_zero, List.set_cons_succ]
              refine wpAnyH_done (by kernel_rfl) ?_ _
              have HFIN := HEND.out _ bX oa oc hI2.out _ gF capF oF hgrF hobF
              clear HEND
              generalize wF.setCell ⟨w3.heap.size, 2, none⟩ (.slice (some ⟨gF, 0, none⟩) (q + 1) capF) = wZ at *
              clear oF hgrF hobF bX nE
              go_wp2_with fail
              go_roundw
              case measure => simp [intOf]; omega
              case rel => exact ⟨j + 1, by omega, by go_num, HFIN⟩
            refine rcH (fun K hK => ?_) AllReadyH.nil
            go_simp
            have bE := below_box wOw (.cells #[.string tn, .string fn, .slice oa (ownersM ps tn fn).length oc] 59)
            obtain ⟨gE, hgE⟩ : ∃ g, g = wOw.heap.size := ⟨_, rfl⟩
            have hI2 : Hid (Ints (wOw.alloc (.cells #[.string tn, .string fn, .slice oa (ownersM ps tn fn).length oc] 59)) (Off (fun _ => False) (w3.heap.size + 1) (wOw.alloc (.cells #[.string tn, .string fn, .slice oa (ownersM ps tn fn).length oc] 59)) ov) (ownO ps tn fn).parts oa ∧ (ownO ps tn fn).parts.length ≤ oc) := hid_of ⟨hIN.out.1.off (by omega) (fun b hb => by have := HRB.out b hb; omega) bE, by have h := hIN.out.2; simp only [ownO, List.length_map]; exact h⟩
            have nE := block_new (w := wOw) (N := gE) #[.string tn, .string fn, .slice oa (ownersM ps tn fn).length oc] 59 hgE.symm
            have bX := bX.trans (bE.mono bX.size)
            refine hK.out _ _ (HSD.out _ bX) (fun hHeld => ?_)
            clear hK K
            try simp only [Act.put, List.setIfInBounds_toArray, List.set_cons_zero, List.set_cons_succ]
            rw [← hgE]
            generalize wOw.alloc (.cells #[.string tn, .string fn, .slice oa (ownersM ps tn fn).length oc] 59) = wEe at *
            clear hgE bE
            refine rdyH [1] ?_
            refine rcH (fun K hK => ?_) AllReadyH.nil
            have c1 := HC2.out wEe bX
            go_simp
            clear c1
            refine hK.out _ _ (HSD.out _ bX) (fun hHeld => ?_)
            clear hK K
            try simp only [Act.put, List.setIfInBounds_toArray, List.set_cons_zero, List.set_cons_succ]
            refine rdyH [22] ?_
            refine rcH (fun K hK => ?_) AllReadyH.nil
            refine step_append_own_at rfl (.tmp 48) (.tmp 68) 26 rfl (w3.heap.size + 1) 59 iO zO 3 56 Try.underlying26 hiO hO0 hO1 hO2 hOz (by decide) ov q xs rfl (HRW.out wEe bX).1 ⟨gE, 0, none⟩ 1 1 [.string tn, .string fn, .slice oa (ownersM ps tn fn).length oc] rfl rfl (World.news_of_block nE) (by intro u hu; simp at hu; rcases hu with rfl | rfl | rfl <;> rfl) (by unfold maxLen; omega) (by omega) (HRW.out wEe bX).2 ?_
            intro v' wF oF hgrF hiffF hobF
            obtain ⟨gF, capF, rfl, -, -⟩ := oF.form (by omega)
            refine hK.out _ _ (HSF.out _ bX _ hgrF) (fun hHeld => ?_)
            clear hK K
            try simp only [Act.put, List.setIfInBounds_toArray, List.set_cons_zero, List.set_cons_succ]
            refine tkH 23 hHeld ?_
            refine rdyH [24] ?_
            refine rcH (fun K hK => ?_) AllReadyH.nil
            have hbx := HBF.out _ bX _ hgrF
            obtain ⟨c1, z1⟩ := box_at hbx 2 (by simp)
            go_simp
            clear hbx c1 z1
            refine hK.out _ _ (HST.out _ bX _ hgrF _) (fun hHeld => ?_)
            clear hK K
            try simp only [Act.put, List.setIfInBounds_toArray, List.set_cons_zero, List.set_cons_succ]
            refine wpAnyH_done (by kernel_rfl) ?_ _
            have HFIN := HEND.out _ bX oa oc hI2.out _ gF capF oF hgrF hobF
            clear HEND
            generalize wF.setCell ⟨w3.heap.size, 2, none⟩ (.slice (some ⟨gF, 0, none⟩) (q + 1) capF) = wZ at *
            clear oF hgrF hobF bX nE
            go_wp2_with fail
            go_roundw
            case measure => simp [intOf]; omega
            case rel => exact ⟨j + 1, by omega, by go_num, HFIN⟩
end Go.Proofs.Ytdohgkokoicjlaa
