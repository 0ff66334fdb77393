import Derived.Test.YtokmgbidmnanpaaGreatDoorB16
import Derived.Deep.RegionHeld3
import Derived.Deep.DeepCutAuto
import Derived.BigRegion
import Derived.Test.YtokmgbidmnanpaaGreatDoorB17
set_option linter.unusedSimpArgs false
set_option linter.unusedVariables false
namespace Go.Proofs.YtokmgbidmnanpaaGreatDoor
open Go.RowKit Go.Maps
attribute [local go_sem] Oper.semAt_some
theorem infoP : (Tryz.prog.info? 43).map (fun i => (i.zero, i.size, i.bytes)) = some (some (.agg #[.string ByteArray.empty, .slice none 0 0]), 2, 40) := by kernel_rfl
theorem PSt.start {w wx : World} {rb cb q : Nat} (hr : RdOk wx rb cb q) (ho : Only (· = rb) w wx) (h1 : rb < w.heap.size) (h2 : cb < w.heap.size) (hz : w.heap.size ≤ wx.heap.size) :
    PSt w rb cb 0 (wx.alloc (.cells #[] 43)) (fun _ => none) 0 q wx.heap.size 0 [] :=
  ⟨hr.only (Only.of_below (fun _ => False) (below_box _ _)) id id, Wf.nil _ _, (fun _ _ _ h => by cases h), ⟨rfl, Or.inr ⟨wx.heap.size, 0, #[], rfl, hz, block_new _ _ rfl, Nat.le_refl _, Nat.zero_le _, rfl, rfl⟩⟩, rfl, (fun p hp => by simp at hp), rfl, ho.alloc _, h1, h2⟩
theorem PSt.push {w : World} {rb cb k : Nat} {w2 wP : World} {σ : Sh} {q pb pc g cap : Nat} {ps : List Pv} (h : PSt w rb cb k w2 σ 0 q pb pc ps) (fn nm : ByteArray) (hfn : fn.size ≤ 12) (hnm : nm.size ≤ 12) (W3 : World)
    (hW3 : W3 = (((w2.alloc (.cells #[.string fn, .string ⟨#[105, 110, 116]⟩, .bool false, .bool false, .bool false, .bool false, .bool false, .slice none 0 0] 54)).alloc (.cells #[.string ⟨#[113, 117, 101, 114, 121]⟩, .string ⟨#[]⟩, .slice (some ⟨w2.heap.size, 0, none⟩) 1 1] 52)).alloc (.cells #[.string nm, .slice (some ⟨w2.heap.size + 1, 0, none⟩) 1 1] 43)))
    (hown : wP.ownsRow w.heap.size 43 2 (.slice (some ⟨g, 0, none⟩) (k + 1) cap) (k + 1) (flatP ps ++ [.string nm, .slice (some ⟨w2.heap.size + 1, 0, none⟩) 1 1])) (hgr : W3.grownBy wP (Value.slice (some ⟨pb, 0, none⟩) k pc).ownBlock) (hg0 : (Value.slice (some ⟨pb, 0, none⟩) k pc).ownBlock = some g ∨ g = W3.heap.size) :
    PSt w rb cb (k + 1) wP ((σ.add w2.heap.size 54 1).add (w2.heap.size + 1) 52 1) 0 q g cap (ps ++ [⟨nm, w2.heap.size + 1, 1, 1⟩]) := by
  have hg : g = pb ∨ g = W3.heap.size := hg0.imp (fun e => (Option.some.inj e).symm) id
  have hgr : W3.grownBy wP (some pb) := hgr
  have b3 : Below w2.heap.size w2 W3 := by rw [hW3]; exact (below_box2 _ _ _).alloc (by simp; omega) _
  have z3 : W3.heap.size = w2.heap.size + 1 + 1 + 1 := by rw [hW3]; simp
  have h3 := h.below b3
  have hpl := h.plt
  have hrl := h.rlt
  have hcl := h.clt
  have hwz := h.only.size
  have kF : W3.heap[w2.heap.size]? = some (.cells #[.string fn, .string ⟨#[105, 110, 116]⟩, .bool false, .bool false, .bool false, .bool false, .bool false, .slice none 0 0] 54 (0, 0)) := by
    rw [hW3, (below_box2 _ _ _).block _ (by simp)]; exact block_new _ _ rfl
  have kT : W3.heap[w2.heap.size + 1]? = some (.cells #[.string ⟨#[113, 117, 101, 114, 121]⟩, .string ⟨#[]⟩, .slice (some ⟨w2.heap.size, 0, none⟩) 1 1] 52 (0, 0)) := by
    rw [hW3, (below_box _ _).block _ (by simp)]; exact block_new _ _ (by simp)
  have nF : σ w2.heap.size = none := h.wf.fresh (Nat.le_refl _)
  have nT : (σ.add w2.heap.size 54 1) (w2.heap.size + 1) = none := by rw [Sh.add_ne _ _ _ _ _ (by omega)]; exact h.wf.fresh (by omega)
  have W1 : Wf W3 (σ.add w2.heap.size 54 1) (bdP 0) := h3.wf.add nF kF rfl (cells_one rfl (fieldCells _ _ fn ⟨#[105, 110, 116]⟩ false false false false false _ hfn (by decide) (sl_nil _ _ _)))
  have W2 : Wf W3 ((σ.add w2.heap.size 54 1).add (w2.heap.size + 1) 52 1) (bdP 0) := W1.add nT kT rfl (cells_one rfl (typeCells _ _ ⟨#[113, 117, 101, 114, 121]⟩ ⟨#[]⟩ _ (by decide) (fun _ => by simp [scalarB, isT, ByteArray.toList_eq]) (by decide) ⟨_, 1, 1, rfl, by decide, Nat.le_refl _, by simp [maxLen], Or.inr ⟨_, rfl, Sh.add_self _ _ _ _⟩⟩))
  have he : Ext σ ((σ.add w2.heap.size 54 1).add (w2.heap.size + 1) 52 1) := (Sh.add_ext nF).trans (Sh.add_ext nT)
  have npb : ((σ.add w2.heap.size 54 1).add (w2.heap.size + 1) 52 1) pb = none := by rw [Sh.add_ne _ _ _ _ _ (by omega), Sh.add_ne _ _ _ _ _ (by omega)]; exact h.npb
  have hk : ∀ x, x < W3.heap.size → x ≠ pb → wP.heap[x]? = W3.heap[x]? := fun x hx hn => hgr.block x hx (fun e => hn (Option.some.inj e))
  refine ⟨h3.rd.keep (hk rb (by omega) (by omega)) (hk cb (by omega) (by omega)) hgr.size, W2.keep fun b T m hb => hk b (W2.lt hb) (fun e => by subst e; rw [npb] at hb; cases hb), fun b T m hb => ?_, by rw [flatP_app]; exact hown, by simp [h.len], fun p hp => ?_, ?_, h3.only.grown hgr (fun x hx => by cases hx; exact Or.inr hpl.1), hrl, hcl⟩
  · unfold Sh.add at hb
    split at hb
    · omega
    · split at hb
      · omega
      · exact h.new b T m hb
  · rcases List.mem_append.1 hp with hp | hp
    · exact (h.ok p hp).ext he (Nat.le_refl _)
    · obtain rfl : p = ⟨nm, w2.heap.size + 1, 1, 1⟩ := by simpa using hp
      exact ⟨hnm, Nat.le_refl _, Nat.le_refl _, Nat.le_refl _, by simp [maxLen], Sh.add_self _ _ _ _⟩
  · rcases hg with rfl | rfl
    · exact npb
    · exact W2.fresh (Nat.le_refl _)
theorem PSt.join {w : World} {rb cb n : Nat} {wx wy : World} {σ σL : Sh} {q pb pc tb : Nat} {ps : List Pv} (h : PSt w rb cb n wx σ 0 q pb pc ps) (hL : Wf wy σL bdL) (hb : σL tb = some (52, 4)) (hn : ∀ b T m, σL b = some (T, m) → wx.heap.size ≤ b) (hy : Below wx.heap.size wx wy) :
    ∃ σ', RSt w rb cb n wy σ' σL 0 q pb pc tb ps := by
  have hp := h.below hy
  have hz := h.only.size
  have hpl := h.plt
  let σ' : Sh := fun b => match σL b with
    | some (T, m) => if T = 9 then some (9, m) else σ b
    | none => σ b
  have e1 : ∀ b m, σL b = some (9, m) → σ' b = some (9, m) := fun b m h => by simp only [σ', h, if_pos]
  have e2 : ∀ b T m, σL b = some (T, m) → T ≠ 9 → σ' b = σ b := fun b T m h hT => by simp only [σ', h, if_neg hT]
  have e3 : ∀ b, σL b = none → σ' b = σ b := fun b h => by simp only [σ', h]
  have he : Ext σ σ' := fun b T m hb => by
    have hlt := h.wf.lt hb
    cases e : σL b with
    | none => rw [e3 b e]; exact hb
    | some x => obtain ⟨T', m'⟩ := x; have := hn b T' m' e; omega
  have hcase : ∀ b T m, σ' b = some (T, m) → σ b = some (T, m) ∨ (T = 9 ∧ σL b = some (9, m)) := fun b T m hb => by
    cases e : σL b with
    | none => rw [e3 b e] at hb; exact Or.inl hb
    | some x =>
      obtain ⟨T', m'⟩ := x
      by_cases hT : T' = 9
      · subst hT; rw [e1 b m' e] at hb; cases hb; exact Or.inr ⟨rfl, rfl⟩
      · rw [e2 b T' m' e hT] at hb; exact Or.inl hb
  refine ⟨σ', ⟨hp.rd, fun b T m hb => ?_, fun b T m hb => ?_, hp.own, hp.len, fun p hq => (hp.ok p hq).ext he (Nat.le_refl _), ?_, hp.only, hp.rlt, hp.clt⟩, hL, hb, fun b T m hb => by have := hn b T m hb; omega, e1, fun b T m hb hT => ⟨?_, ?_⟩⟩
  · rcases hcase b T m hb with h1 | ⟨rfl, h1⟩
    · obtain ⟨cur, k1, k2, k3⟩ := hp.wf b T m h1
      exact ⟨cur, k1, k2, fun k v hv => (k3 k v hv).ext he (Bd.le.refl _)⟩
    · obtain ⟨cur, k1, k2, k3⟩ := hL b 9 m h1
      refine ⟨cur, k1, k2, fun k v hv => ?_⟩
      have := k3 k v hv
      simpa [CellOk] using this
  · rcases hcase b T m hb with h1 | ⟨rfl, h1⟩
    · exact h.new b T m h1
    · have := hn b 9 m h1; omega
  · cases e : σ' pb with
    | none => rfl
    | some x =>
      obtain ⟨T, m⟩ := x
      rcases hcase pb T m e with h1 | ⟨rfl, h1⟩
      · rw [h.npb] at h1; cases h1
      · have := hn pb 9 m h1; omega
  · rw [e2 b T m hb hT]
    exact h.wf.fresh (hn b T m hb)
  · have := hn b T m hb; omega
def fcell (fn fo : ByteArray) (l m fr hd sh : Bool) (na : Option Addr) (nl nc : Nat) : Array Value := #[.string fn, .string fo, .bool l, .bool m, .bool fr, .bool hd, .bool sh, .slice na nl nc]
structure RF (w : World) (rb cb n : Nat) (σL : Sh) (pb pc tb fx : Nat) (wx : World) (σ : Sh) (c q : Nat) (ps : List Pv) (fn fo : ByteArray) (l m fr hd sh : Bool) (na : Option Addr) (nl nc : Nat) : Prop where
  r : RSt w rb cb n wx σ σL c q pb pc tb ps
  f : FBx w wx σ pb fx (fcell fn fo l m fr hd sh na nl nc)
  nL : σL fx = none
  sl : SlOk σ 9 1 (.slice na nl nc)
section
variable {w : World} {rb cb n : Nat} {σL : Sh} {pb pc tb fx : Nat} {wx wy : World} {σ : Sh} {c q q' : Nat} {ps : List Pv} {fn fo : ByteArray} {l m fr hd sh : Bool} {na : Option Addr} {nl nc : Nat}
theorem RF.move (h : RF w rb cb n σL pb pc tb fx wx σ c q ps fn fo l m fr hd sh na nl nc) (hr : RdOk wy rb cb q') (ho : Only (· = rb) wx wy) : RF w rb cb n σL pb pc tb fx wy σ c q' ps fn fo l m fr hd sh na nl nc :=
  ⟨h.r.move hr ho, h.f.move h.r.p.rlt ho, h.nL, h.sl⟩
theorem RF.setH (h : RF w rb cb n σL pb pc tb fx wx σ c q ps fn fo l m fr hd sh na nl nc) (b : Bool) : RF w rb cb n σL pb pc tb fx (wx.setCell ⟨fx, 5, none⟩ (.bool b)) σ c q ps fn fo l m fr b sh na nl nc :=
  ⟨⟨h.r.p.setF h.f 5 _, h.r.l.setF h.f h.nL 5 _⟩, h.f.set 5 (.bool b), h.nL, h.sl⟩
theorem RF.setS (h : RF w rb cb n σL pb pc tb fx wx σ c q ps fn fo l m fr hd sh na nl nc) (b : Bool) : RF w rb cb n σL pb pc tb fx (wx.setCell ⟨fx, 6, none⟩ (.bool b)) σ c q ps fn fo l m fr hd b na nl nc :=
  ⟨⟨h.r.p.setF h.f 6 _, h.r.l.setF h.f h.nL 6 _⟩, h.f.set 6 (.bool b), h.nL, h.sl⟩
theorem RF.drew (h : RF w rb cb n σL pb pc tb fx wx σ c q ps fn fo l m fr hd sh na nl nc) : RF w rb cb n σL pb pc tb fx wx.drew σ c q ps fn fo l m fr hd sh na nl nc :=
  h.move (h.r.p.rd.keep rfl rfl (Nat.le_refl _)) ⟨rfl, rfl, rfl, Nat.le_refl _, fun _ _ _ => rfl⟩
theorem RF.cell (h : RF w rb cb n σL pb pc tb fx wx σ c q ps fn fo l m fr hd sh na nl nc) : wx.cell? ⟨fx, 0, none⟩ = some (.string fn) ∧ wx.cell? ⟨fx, 1, none⟩ = some (.string fo) ∧ wx.cell? ⟨fx, 2, none⟩ = some (.bool l) ∧ wx.cell? ⟨fx, 3, none⟩ = some (.bool m) ∧ wx.cell? ⟨fx, 4, none⟩ = some (.bool fr) ∧ wx.cell? ⟨fx, 5, none⟩ = some (.bool hd) ∧ wx.cell? ⟨fx, 6, none⟩ = some (.bool sh) ∧ wx.cell? ⟨fx, 7, none⟩ = some (.slice na nl nc) ∧ wx.frozen? ⟨fx, 5, none⟩ = false ∧ wx.frozen? ⟨fx, 6, none⟩ = false := by
  have hb := h.f.box
  unfold fcell at hb
  exact ⟨(box_at hb 0 (by simp)).1, (box_at hb 1 (by simp)).1, (box_at hb 2 (by simp)).1, (box_at hb 3 (by simp)).1, (box_at hb 4 (by simp)).1, (box_at hb 5 (by simp)).1, (box_at hb 6 (by simp)).1, (box_at hb 7 (by simp)).1, (box_at hb 5 (by simp)).2, (box_at hb 6 (by simp)).2⟩
theorem RSt.box (h : RSt w rb cb n wx σ σL c q pb pc tb ps) (hsl : SlOk σ 9 1 (.slice na nl nc)) (hx : wx.heap.size = fx) : RF w rb cb n σL pb pc tb fx (wx.alloc (.cells #[.string fn, .string fo, .bool l, .bool m, .bool fr, .bool hd, .bool sh, .slice na nl nc] 54)) σ c q ps fn fo l m fr hd sh na nl nc := by
  subst hx
  obtain ⟨h1, h2, h3, h4⟩ := h.fresh (Nat.le_refl wx.heap.size)
  exact ⟨h.below (below_box _ _), ⟨block_new _ _ rfl, h1, h3, h4⟩, h2, hsl⟩
theorem RF.give (h : RF w rb cb n σL pb pc tb fx wx σ c q ps fn fo l m fr hd sh na nl nc) (hc : c ≤ 1000) {i : Nat} (hi : i < n) {p : Pv} (hp : PvOk σ (bdP c) p) {nm : ByteArray} (hnm : nm.size ≤ 12) (hsc : scalarB nm = false) (hfn : fn.size ≤ 12) (hfo : fo.size ≤ 12) :
    Calls Tryz.prog 100 #[.agg #[.string p.s, .slice (some ⟨p.b, 0, none⟩) p.len p.cap], .string nm, .agg #[.string fn, .string fo, .bool l, .bool m, .bool fr, .bool hd, .bool sh, .slice na nl nc]] wx fun e wy => ∃ (p' : Pv) (σ' : Sh), e = .returned (.agg #[.string p'.s, .slice (some ⟨p'.b, 0, none⟩) p'.len p'.cap]) ∧ (∃ v0 v1, wy.cell? ⟨pb, i * 2, none⟩ = some v0 ∧ wy.cell? ⟨pb, i * 2 + 1, none⟩ = some v1 ∧ wy.frozen? ⟨pb, i * 2, none⟩ = false ∧ wy.frozen? ⟨pb, i * 2 + 1, none⟩ = false) ∧
      Hid (RF w rb cb n σL pb pc tb fx ((wy.setCell ⟨pb, i * 2, none⟩ (.string p'.s)).setCell ⟨pb, i * 2 + 1, none⟩ (.slice (some ⟨p'.b, 0, none⟩) p'.len p'.cap)) σ' (c + 1) q (ps.set i p') fn fo l m fr hd sh na nl nc ∧ wy.heap[tb]? = wx.heap[tb]? ∧ tb ≠ pb ∧ wy.heap[fx]? = wx.heap[fx]? ∧ fx ≠ pb) := by
  refine (give_call h.r hc hi hp hnm hsc hfn hfo h.sl).mono ?_
  rintro e wy ⟨p', σ', rfl, h1, h2⟩
  obtain ⟨g1, g2, g3, g4, g5⟩ := h2.out
  exact ⟨p', σ', rfl, h1, ⟨⟨g1, g2 _ _ h.f, h.nL, h.sl.ext g3 (Nat.le_refl _)⟩, (g4 _ _ _ h.r.l.blk).1, (g4 _ _ _ h.r.l.blk).2, g5 _ _ h.f, h.f.ne⟩⟩
end
end Go.Proofs.YtokmgbidmnanpaaGreatDoor
namespace Go.Proofs.YtokmgbidmnanpaaGreatDoor
open Go.RowKit
def askOk (f : Nat) (ks : List Se) : Bool := askB f ks && decide ((txtL f ks).length ≤ 400)
def askTxt (f : Nat) (ks : List Se) : List UInt8 := if askOk f ks = true then txtL f ks else []
theorem FitS.ex {w : World} {P : Nat → Prop} {ks : List Se} {a : Option Addr} (h : SeReps w P ks a) : ∃ f, FitS f ks := by
  obtain ⟨-, C, -, hr⟩ := h
  obtain ⟨g, hg⟩ := se_bound ks.length hr
  cases g with
  | zero =>
    cases ks with
    | nil => exact ⟨0, rfl⟩
    | cons a l => exact (hg 0 (by simp)).elim
  | succ g => exact ⟨g + 1, fun i hi => FitS.of_rep (hg i hi)⟩
theorem askB_l3 {f : Nat} {ks : List Se} {x : Int} (h : L3P f 1 ks 24 x) (h0 : 0 < ks.length) : askB f ks = decide (0 ≤ x) := by
  obtain ⟨h1, -, -, -⟩ := h
  rw [Bool.eq_iff_iff, decide_eq_true_eq, h1, askB, Bool.and_eq_true, Bool.and_eq_true, decide_eq_true_eq]
  have hne : ks.isEmpty = false := by cases ks with
    | nil => simp at h0
    | cons a l => rfl
  rw [hne]
  simp
  omega
set_option maxRecDepth 20000 in
set_option maxHeartbeats 1600000 in
theorem AskOkS_any (f : Nat) (ks : List Se) (w : World) (B : Nat) (ka : Option Addr) (kc : Nat) (hf : FitS f ks) (hR : SeReps w (· < B) ks ka) (hB : B ≤ w.heap.size) :
    Calls Tryz.prog 15 #[.slice ka ks.length kc] w fun e w' => e = .returned (.bool (askOk f ks)) ∧ Below w.heap.size w w' := by
  have hL := fun W (hW : Below w.heap.size w W) => l3Ok_any f 1 ks W B ka kc 24 hf (hR.under (hW.mono hB)) (by have := hW.size; omega) (by omega) (by omega) (by omega)
  have hWr := fun W (hW : Below w.heap.size w W) h1 h2 => l3Write_any f 1 ks W B ka kc hf (hR.under (hW.mono hB)) (by have := hW.size; omega) h1 h2
  have HL := hid_of hL
  have HWr := hid_of hWr
  clear hL hWr
  by_cases h0 : 0 < ks.length
  case neg =>
    have e : ks = [] := List.length_eq_zero_iff.1 (by omega)
    subst e
    have HE : Hid (askOk f [] = false) := hid_of (by simp [askOk, askB])
    go_enter Tryz.func15, Tryz.ntmps15
    go_wp2_with fail
    go_ret
    exact ⟨ret_bool (by rw [HE.out]), Below.refl _ _⟩
  have hl0 : (0 : Int) < (ks.length : Int) := by omega
  have h48 := hR.1
  go_enter Tryz.func15, Tryz.ntmps15
  go_wp2_with fail
  refine (HL.out w (Below.refl _ _)).mono ?_
  rintro e w1 ⟨⟨x, rfl, hP⟩, hb1⟩
  have HB := hid_of (askB_l3 hP h0)
  have HP := hid_of hP
  clear hP
  by_cases hx : 0 ≤ x
  case neg =>
    have hx' : ¬ x ≥ 0 := by omega
    have HE : Hid (askOk f ks = false) := hid_of (by rw [askOk, HB.out]; simp [hx])
    go_wp2_with fail
    go_ret
    exact ⟨ret_bool (by rw [HE.out]), hb1⟩
  have hx' : x ≥ 0 := hx
  obtain ⟨-, q2, q3⟩ := HP.out.1.1 hx
  have HW := hid_of (HWr.out w1 hb1 q2 (by omega))
  go_wp2_with fail
  refine HW.out.mono ?_
  rintro e w2 ⟨⟨t, rfl, ht, htz⟩, hb2⟩
  have bw2 := hb1.trans (hb2.mono hb1.size)
  have HT := hid_of (show t.size = (txtL f ks).length by rw [← ht, toList_len])
  by_cases h4 : t.size ≤ 400
  · have h4i : (t.size : Int) ≤ 400 := by omega
    have HE : Hid (askOk f ks = true) := hid_of (by rw [askOk, HB.out, ← HT.out]; simp [hx, h4])
    go_wp2_with fail
    go_ret
    exact ⟨ret_bool (by rw [HE.out]; try (simp only [decide_eq_false_iff_not]; omega)), bw2⟩
  · have h4i : ¬ (t.size : Int) ≤ 400 := by omega
    have HE : Hid (askOk f ks = false) := hid_of (by rw [askOk, HB.out, ← HT.out]; simp [hx, h4])
    go_wp2_with fail
    go_ret
    exact ⟨ret_bool (by rw [HE.out]; try (simp only [decide_eq_false_iff_not]; omega)), bw2⟩
set_option maxHeartbeats 800000 in
theorem AskWriteS_any (f : Nat) (ks : List Se) (w : World) (B : Nat) (ka : Option Addr) (kc : Nat) (hf : FitS f ks) (hR : SeReps w (· < B) ks ka) (hB : B ≤ w.heap.size) :
    Calls Tryz.prog 27 #[.slice ka ks.length kc] w fun e w' => (∃ x : ByteArray, e = .returned (.string x) ∧ x.toList = askTxt f ks) ∧ Below w.heap.size w w' := by
  have HO := hid_of (AskOkS_any f ks w B ka kc hf hR hB)
  have hWr := fun W (hW : Below w.heap.size w W) h1 h2 => l3Write_any f 1 ks W B ka kc hf (hR.under (hW.mono hB)) (by have := hW.size; omega) h1 h2
  have HWr := hid_of hWr
  clear hWr
  cases ho : askOk f ks
  · rw [ho] at HO
    have HE : Hid (askTxt f ks = []) := hid_of (by rw [askTxt, ho]; rfl)
    go_enter Tryz.func27, Tryz.ntmps27
    go_wp2_with fail
    refine HO.out.mono ?_
    rintro e w1 ⟨rfl, hb1⟩
    go_wp2_with fail
    go_ret
    exact ⟨⟨_, rfl, by rw [HE.out, ByteArray.toList_eq]⟩, hb1⟩
  · rw [ho] at HO
    have HE : Hid (askTxt f ks = txtL f ks) := hid_of (by rw [askTxt, ho]; rfl)
    have hq : okTo f 1 ks ks.length = true ∧ cntTo f ks ks.length ≤ 24 := by
      simp only [askOk, askB, Bool.and_eq_true, decide_eq_true_eq] at ho
      exact ⟨ho.1.1.2, ho.1.2⟩
    go_enter Tryz.func27, Tryz.ntmps27
    go_wp2_with fail
    refine HO.out.mono ?_
    rintro e w1 ⟨rfl, hb1⟩
    have HW := hid_of (HWr.out w1 hb1 hq.1 hq.2)
    go_wp2_with fail
    refine HW.out.mono ?_
    rintro e w2 ⟨⟨t, rfl, ht, htz⟩, hb2⟩
    have HT := hid_of ht
    clear ht
    go_wp2_with fail
    go_ret
    exact ⟨⟨t, rfl, by rw [HE.out, HT.out]⟩, hb1.trans (hb2.mono hb1.size)⟩
end Go.Proofs.YtokmgbidmnanpaaGreatDoor
