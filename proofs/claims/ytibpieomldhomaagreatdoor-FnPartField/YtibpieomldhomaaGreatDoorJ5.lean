import Derived.Test.YtibpieomldhomaaGreatDoorJ4
import Derived.Laws.IdiomStrings
import Derived.Test.YtibpieomldhomaaGreatDoorJ2
import Derived.Test.YtibpieomldhomaaGreatDoorJ3
import Derived.Deep.RegionHeld3
import Derived.Deep.DeepCutAuto
import Derived.BigRegion
import Derived.Test.YtibpieomldhomaaGreatDoorArr
import Derived.ProofKit
import Derived.SizedLaws
import Derived.SliceStrings
import Derived.Deep.Slices
import Derived.WideShapes
namespace Go.Proofs.YtibpieomldhomaaGreatDoor
set_option linter.unusedSimpArgs false
set_option linter.unusedVariables false
open Go.RowKit Go.Maps

/-- A code as it comes in: bytes at their block. -/
def CodeOk (w : World) (cb : Nat) (v : Value) (n : Nat) : Prop := ∃ (a : Option Addr) (c off : Nat), v = .slice a n c ∧ n ≤ c ∧ c ≤ maxLen ∧ cb < w.heap.size ∧ (0 < n → a = some ⟨cb, off, none⟩) ∧ (a = none ∨ ∃ b o, a = some ⟨b, o, none⟩) ∧ ∀ i, i < n → ∃ x : Nat, x < 256 ∧ w.cell? ⟨cb, off + i, none⟩ = some (.int .u8 x)

set_option maxHeartbeats 800000 in
theorem l1Open_any (w : World) (cb n : Nat) (v : Value) (h : CodeOk w cb v n) (hn : n ≤ 1048576) :
    Calls Tryz.prog 12 #[v] w fun e w' => ∃ N, e = .returned (.pointer (some ⟨N, 0, none⟩)) ∧ w.heap.size ≤ N ∧ RdOk w' N cb 0 ∧ Below w.heap.size w w' := by
  obtain ⟨a, c, off, rfl, hc, hm, hcb, ha, ha2, hx⟩ := h
  unfold maxLen at hm
  have key : ∀ k, k ≤ n → k ≤ 2000 → ∀ c', RdOk (w.alloc (.cells #[.slice a k c', .int .i64 0] 61)) w.heap.size cb 0 := fun k hk hk2 c' =>
    ⟨0, k, c', a, off, Nat.le_refl _, hk2, by omega, block_new _ _ rfl, by simp; omega, fun h => ha (by omega), fun i hi => by
      obtain ⟨x, h1, h2⟩ := hx i (by omega)
      exact ⟨x, h1, ((below_box w _).cell (p := ⟨cb, off + i, none⟩) hcb).trans h2⟩⟩
  have HK := hid_of key
  clear key hx
  by_cases h2 : 2000 < n
  · obtain rfl := ha (by omega)
    have h2' : (2000 : Int) < (n : Int) := by omega
    have h3 : (2000 : Int) ≤ (c : Int) := by omega
    go_enter Tryz.func12, Tryz.ntmps12
    go_wp2_with fail
    go_ret
    exact ⟨_, rfl, Nat.le_refl _, HK.out 2000 (by omega) (by omega) _, below_box _ _⟩
  · have h2' : ¬ (2000 : Int) < (n : Int) := by omega
    go_enter Tryz.func12, Tryz.ntmps12
    go_wp2_with fail
    go_ret
    exact ⟨_, rfl, Nat.le_refl _, HK.out n (by omega) (by omega) _, below_box _ _⟩

set_option maxHeartbeats 800000 in
theorem of_any (w : World) (rb cb q : Nat) (ns : List ByteArray) (a : Option Addr) (c : Nat) (P : Nat → Prop) (hR : RdOk w rb cb q) (hq : q ≤ 1000000) (hS : Strs w P ns a) (hP : ∀ b, P b → b < w.heap.size ∧ b ≠ rb) (h0 : 0 < ns.length) (hl : ns.length ≤ 1000) :
    Calls Tryz.prog 14 #[.pointer (some ⟨rb, 0, none⟩), .slice a ns.length c] w fun e w' => ∃ k, k < ns.length ∧ e = .returned (.string (nth ns k)) ∧ RdOk w' rb cb (q + 1) ∧ Only (· = rb) w w' ∧ w'.heap.size = w.heap.size := by
  obtain ⟨b, off, rfl, hb, hc⟩ := hS.1 (by intro e; rw [e] at h0; simp at h0)
  have HP := hid_of (pick_any w rb cb q ns.length hR hq (by omega) (by omega))
  have HC := hid_of hc
  have HB := hid_of (hP b hb)
  clear hc hS hP
  obtain ⟨L, hL⟩ : ∃ L, L = ns.length := ⟨_, rfl⟩
  rw [← hL] at HP h0 hl ⊢
  have HL := hid_of hL
  clear hL
  go_enter Tryz.func14, Tryz.ntmps14
  go_wp2_with (go_at_call 29; refine HP.out.mono ?_; rintro e w' ⟨x, rfl, hx, hr, ho, hz⟩; have hxl : x < L := (by omega); have cx : w'.cell? ⟨b, off + x, none⟩ = some (.string (nth ns x)) := ((World.cell?_of_block (a := ⟨b, off + x, none⟩) (ho.block b HB.out.1 HB.out.2)).trans (HC.out x (by rw [← HL.out]; exact hxl))); have hxi : (x : Int) < (L : Int) := (by omega))
  go_ret
  exact ⟨x, hxl, rfl, hr, ho, hz⟩
end Go.Proofs.YtibpieomldhomaaGreatDoor

namespace Go.Proofs.YtibpieomldhomaaGreatDoor
set_option linter.unusedSimpArgs false
set_option linter.unusedVariables false
open Go.RowKit Go.Maps

theorem byte_text (W : World) (b : Nat) (v : Nat) (hv : v < 256) (hb : W.cell? ⟨b, 0, none⟩ = some (.int .u8 (v : Int))) :
    Sem.run Tryz.prog (convert 22 9 (.slice (some ⟨b, 0, none⟩) 1 1)) W = .ok (.string ⟨#[UInt8.ofNat v]⟩) W :=
  run_convert_bytes_back (P := Tryz.prog) W 22 9 5 ⟨b, 0, none⟩ 1 [UInt8.ofNat v] Tryz.underlying22 Tryz.underlying5 Tryz.underlying9 (fun j hj => by
    have hj0 : j = 0 := by simpa using hj
    subst hj0
    have hd : (UInt8.ofNat v).toNat = v := by rw [UInt8.toNat_ofNat']; omega
    simp only [List.getElem_cons_zero, hd]
    simpa [Addr.add] using hb)
set_option maxHeartbeats 800000 in
theorem l1Dec_small (n : Nat) (w : World) (h10 : n < 10) : Calls Tryz.prog 66 #[.int .i64 n] w fun e w' => ∃ s : ByteArray, e = .returned (.string s) ∧ s.size = 1 ∧ Below w.heap.size w w' := by
  have hn0 : ¬ (n : Int) < 0 := by omega
  have hn1 : ¬ (n : Int) < -9223372036854775807 := by omega
  have hi10 : (n : Int) < 10 := by omega
  have hw8 : IntKind.u8.wrap (48 + (n : Int)) = 48 + (n : Int) := by have : IntKind.u8.wrap (48 + (n : Int)) = (48 + (n : Int)) % 256 := rfl; omega
  have hcv := byte_text (w.alloc (.cells #[.int .u8 (48 + (n : Int))] 5)) w.heap.size (48 + n) (by omega) (by simp [go_sem])
  generalize UInt8.ofNat (48 + n) = dg at hcv
  go_enter Tryz.func66, Tryz.ntmps66
  go_wp2_with fail
  go_ret
  exact ⟨_, rfl, rfl, below_box w _⟩

/-- A part's value. -/
structure Pv where
  s : ByteArray
  b : Nat
  len : Nat
  cap : Nat
def Pv.val (p : Pv) : Value := .agg #[.string p.s, .slice (some ⟨p.b, 0, none⟩) p.len p.cap]
def flatP : List Pv → List Value
  | [] => []
  | p :: r => .string p.s :: .slice (some ⟨p.b, 0, none⟩) p.len p.cap :: flatP r
theorem flatP_len : ∀ ps : List Pv, (flatP ps).length = ps.length * 2
  | [] => rfl
  | p :: r => by simp only [flatP, List.length_cons, flatP_len r]; omega
theorem flatP_app : ∀ (ps : List Pv) (p : Pv), flatP (ps ++ [p]) = flatP ps ++ [.string p.s, .slice (some ⟨p.b, 0, none⟩) p.len p.cap]
  | [], p => rfl
  | q :: r, p => by simp only [List.cons_append, flatP, flatP_app r p]
theorem flatP_at : ∀ (ps : List Pv) (i : Nat) (h : i < ps.length), (flatP ps)[i * 2]? = some (.string ps[i].s) ∧ (flatP ps)[i * 2 + 1]? = some (.slice (some ⟨ps[i].b, 0, none⟩) ps[i].len ps[i].cap)
  | p :: r, 0, _ => ⟨rfl, rfl⟩
  | p :: r, i + 1, h => by
    have := flatP_at r i (by simpa using h)
    rw [show (i + 1) * 2 = i * 2 + 1 + 1 by omega]
    simpa only [flatP, List.getElem?_cons_succ, List.getElem_cons_succ] using this
theorem flatP_set : ∀ (ps : List Pv) (i : Nat) (p : Pv), i < ps.length → ((flatP ps).set (i * 2) (.string p.s)).set (i * 2 + 1) (.slice (some ⟨p.b, 0, none⟩) p.len p.cap) = flatP (ps.set i p)
  | q :: r, 0, p, _ => rfl
  | q :: r, i + 1, p, h => by
    have := flatP_set r i p (by simpa using h)
    rw [show (i + 1) * 2 = i * 2 + 1 + 1 by omega]
    simp only [flatP, List.set_cons_succ, this]
def PvOk (σ : Sh) (B : Bd) (p : Pv) : Prop := p.s.size ≤ 12 ∧ 1 ≤ p.len ∧ p.len ≤ B.nt ∧ p.len ≤ p.cap ∧ p.cap ≤ maxLen ∧ σ p.b = some (40, p.cap)
theorem PvOk.ext {σ σ' : Sh} {B B' : Bd} {p : Pv} (h : PvOk σ B p) (he : Ext σ σ') (hB : B.nt ≤ B'.nt) : PvOk σ' B' p := ⟨h.1, h.2.1, by have := h.2.2.1; omega, h.2.2.2.1, h.2.2.2.2.1, he _ _ _ h.2.2.2.2.2⟩
/-- How great things may be after so many fields were given. -/
def bdP (c : Nat) : Bd := ⟨1 + 2 * c, 7 + 2 * c, 1, true⟩
theorem bdP_more (c : Nat) : ((bdP c).more 2).le (bdP (c + 1)) := ⟨by simp only [bdP, Bd.more]; omega, by simp only [bdP, Bd.more]; omega, Nat.le_refl _, id⟩
/-- Parts in a row, and their memory. -/
structure PSt (w : World) (rb cb n : Nat) (wx : World) (σ : Sh) (c q pb pc : Nat) (ps : List Pv) : Prop where
  rd : RdOk wx rb cb q
  wf : Wf wx σ (bdP c)
  new : ∀ b T m, σ b = some (T, m) → w.heap.size ≤ b
  own : wx.ownsRow w.heap.size 25 2 (.slice (some ⟨pb, 0, none⟩) n pc) n (flatP ps)
  len : ps.length = n
  ok : ∀ p ∈ ps, PvOk σ (bdP c) p
  npb : σ pb = none
  only : Only (· = rb) w wx
  rlt : rb < w.heap.size
  clt : cb < w.heap.size
theorem PSt.plt {w : World} {rb cb n : Nat} {wx : World} {σ : Sh} {c q pb pc : Nat} {ps : List Pv} (h : PSt w rb cb n wx σ c q pb pc ps) : w.heap.size ≤ pb ∧ pb < wx.heap.size := h.own.lt pb rfl
/-- What the caller does besides: the reader goes on, boxes are made. -/
theorem PSt.move {w : World} {rb cb n : Nat} {wx wy : World} {σ : Sh} {c q q' pb pc : Nat} {ps : List Pv} (h : PSt w rb cb n wx σ c q pb pc ps) (hr : RdOk wy rb cb q') (ho : Only (· = rb) wx wy) : PSt w rb cb n wy σ c q' pb pc ps := by
  have hp := h.plt
  have hk : ∀ x, x < wx.heap.size → x ≠ rb → wy.heap[x]? = wx.heap[x]? := fun x hx hn => ho.block x hx hn
  refine ⟨hr, h.wf.keep fun b T m hb => hk b (h.wf.lt hb) (by have := h.new b T m hb; have := h.rlt; omega), h.new, ?_, h.len, h.ok, h.npb, h.only.trans ho fun _ _ q => q, h.rlt, h.clt⟩
  refine ⟨h.own.1, h.own.2.imp id ?_⟩
  rintro ⟨g, cap, cur, e, hg, hh, hr⟩
  cases e
  exact ⟨pb, pc, cur, rfl, hg, (hk pb hp.2 (by have := h.rlt; omega)).trans hh, hr⟩
theorem PSt.below {w : World} {rb cb n : Nat} {wx wy : World} {σ : Sh} {c q pb pc : Nat} {ps : List Pv} (h : PSt w rb cb n wx σ c q pb pc ps) (hb : Below wx.heap.size wx wy) : PSt w rb cb n wy σ c q pb pc ps :=
  h.move (h.rd.only (Only.of_below (fun _ => False) hb) id id) (Only.of_below _ hb)
/-- The cells of a part. -/
theorem PSt.cells {w : World} {rb cb n : Nat} {wx : World} {σ : Sh} {c q pb pc : Nat} {ps : List Pv} (h : PSt w rb cb n wx σ c q pb pc ps) (i : Nat) (hi : i < n) : ∃ p : Pv, PvOk σ (bdP c) p ∧ wx.cell? ⟨pb, i * 2, none⟩ = some (.string p.s) ∧ wx.cell? ⟨pb, i * 2 + 1, none⟩ = some (.slice (some ⟨p.b, 0, none⟩) p.len p.cap) ∧ wx.frozen? ⟨pb, i * 2, none⟩ = false ∧ wx.frozen? ⟨pb, i * 2 + 1, none⟩ = false := by
  have hl : i < ps.length := by rw [h.len]; exact hi
  have hf := flatP_at ps i hl
  have hc := h.own.cells (g := pb) rfl
  have h0 := hc _ _ hf.1
  have h1 := hc _ _ hf.2
  rw [Addr.add_lit, Nat.zero_add] at h0 h1
  have hfz : ∀ j, wx.frozen? ⟨pb, j, none⟩ = false := fun j => by
    rcases h.own.2 with ⟨e, -⟩ | ⟨g, cap, cur, e, -, hh, -⟩
    · cases e
    · cases e; simp [World.frozen?, hh]
  exact ⟨ps[i], h.ok _ (List.getElem_mem hl), h0, h1, hfz _, hfz _⟩
/-- A part is given a field. -/
theorem PSt.give {w : World} {rb cb n : Nat} {wx wy : World} {σ σ' : Sh} {c q pb pc i : Nat} {ps : List Pv} (h : PSt w rb cb n wx σ c q pb pc ps) (hi : i < n) (p : Pv) (hW : Wf wy σ' ((bdP c).more 2)) (he : Ext σ σ') (hs : ∀ x, x < wx.heap.size → σ' x = σ x) (ho : Only (Hot σ) wx wy) (hp : PvOk σ' (bdP (c + 1)) p) :
    PSt w rb cb n ((wy.setCell ⟨pb, i * 2, none⟩ (.string p.s)).setCell ⟨pb, i * 2 + 1, none⟩ (.slice (some ⟨p.b, 0, none⟩) p.len p.cap)) σ' (c + 1) q pb pc (ps.set i p) := by
  have hpl := h.plt
  have hz := ho.size
  have hrl := h.rlt
  have hcl := h.clt
  have hwx := h.only.size
  have nh : ∀ x, x < w.heap.size → ¬ Hot σ x := fun x hx ⟨T, m, hT, _⟩ => by have := h.new x T m hT; omega
  have nhp : ¬ Hot σ pb := fun ⟨T, m, hT, _⟩ => by rw [h.npb] at hT; cases hT
  have npb' : σ' pb = none := by rw [hs pb hpl.2]; exact h.npb
  have hset : ∀ x, x ≠ pb → ((wy.setCell ⟨pb, i * 2, none⟩ (.string p.s)).setCell ⟨pb, i * 2 + 1, none⟩ (.slice (some ⟨p.b, 0, none⟩) p.len p.cap)).heap[x]? = wy.heap[x]? := fun x hx => by rw [Below.heap_setCell _ _ _ _ hx, Below.heap_setCell _ _ _ _ hx]
  have hsz : ((wy.setCell ⟨pb, i * 2, none⟩ (.string p.s)).setCell ⟨pb, i * 2 + 1, none⟩ (.slice (some ⟨p.b, 0, none⟩) p.len p.cap)).heap.size = wy.heap.size := by rw [size_set, size_set]
  have hold : ∀ x, x < w.heap.size → ((wy.setCell ⟨pb, i * 2, none⟩ (.string p.s)).setCell ⟨pb, i * 2 + 1, none⟩ (.slice (some ⟨p.b, 0, none⟩) p.len p.cap)).heap[x]? = wx.heap[x]? := fun x hx => by rw [hset x (by omega), ho.block x (by omega) (nh x hx)]
  refine ⟨h.rd.keep (hold rb hrl) (hold cb hcl) (by rw [hsz]; exact hz), (hW.le (bdP_more c)).keep fun b T m hb => hset b (fun e => by subst e; rw [npb'] at hb; cases hb), fun b T m hb => ?_, ?_, by rw [List.length_set]; exact h.len, fun x hx => ?_, npb', ?_, hrl, hcl⟩
  · rcases Nat.lt_or_ge b wx.heap.size with hlt | hge
    · rw [hs b hlt] at hb; exact h.new b T m hb
    · omega
  · refine ⟨by rw [flatP_len, List.length_set, h.len], ?_⟩
    rcases h.own.2 with ⟨e, -⟩ | ⟨g, cap, cur, e, hg, hh, h1, h2, h3, h4⟩
    · cases e
    · cases e
      have hy : wy.heap[pb]? = some (.cells cur 25 (0, 0)) := (ho.block pb hpl.2 nhp).trans hh
      refine Or.inr ⟨pb, pc, _, rfl, hg, set_box (set_box hy _ _) _ _, h1, h2, by simpa using h3, ?_⟩
      rw [Array.toList_setIfInBounds, Array.toList_setIfInBounds, List.take_set, List.take_set, h4]
      exact flatP_set ps i p (by rw [h.len]; exact hi)
  · rcases List.mem_or_eq_of_mem_set hx with hx | rfl
    · exact (h.ok x hx).ext he (by simp only [bdP]; omega)
    · exact hp
  · exact ⟨ho.os.trans h.only.os, ho.tape.trans h.only.tape, ho.output.trans h.only.output, by rw [hsz]; omega, fun b hb hn => (hold b hb).trans (h.only.block b hb hn)⟩
end Go.Proofs.YtibpieomldhomaaGreatDoor

namespace Go.Proofs.YtibpieomldhomaaGreatDoor
set_option linter.unusedSimpArgs false
set_option linter.unusedVariables false
open Go.RowKit Go.Maps

/-- All that may be known: nobody writes there; its texts are known to the parts' memory, too. -/
structure LSt (w wx : World) (σ σL : Sh) (tb pb : Nat) : Prop where
  wf : Wf wx σL bdL
  blk : σL tb = some (40, 4)
  new : ∀ b T m, σL b = some (T, m) → w.heap.size ≤ b
  str : ∀ b m, σL b = some (9, m) → σ b = some (9, m)
  sep : ∀ b T m, σL b = some (T, m) → T ≠ 9 → σ b = none ∧ b ≠ pb
theorem LSt.move {w wx wy : World} {σ σL : Sh} {tb pb rb : Nat} (h : LSt w wx σ σL tb pb) (hr : rb < w.heap.size) (ho : Only (· = rb) wx wy) : LSt w wy σ σL tb pb :=
  ⟨h.wf.keep fun b T m hb => ho.block b (h.wf.lt hb) (by have := h.new b T m hb; omega), h.blk, h.new, h.str, h.sep⟩
/-- A field in a box of the call's own. -/
structure FBx (w wx : World) (σ : Sh) (pb fx : Nat) (cs : Array Value) : Prop where
  box : wx.heap[fx]? = some (.cells cs 30 (0, 0))
  nil : σ fx = none
  ne : fx ≠ pb
  new : w.heap.size ≤ fx
theorem FBx.lt {w wx : World} {σ : Sh} {pb fx : Nat} {cs : Array Value} (h : FBx w wx σ pb fx cs) : fx < wx.heap.size := (Array.getElem?_eq_some_iff.1 h.box).1
theorem FBx.move {w wx wy : World} {σ : Sh} {pb fx rb : Nat} {cs : Array Value} (h : FBx w wx σ pb fx cs) (hr : rb < w.heap.size) (ho : Only (· = rb) wx wy) : FBx w wy σ pb fx cs :=
  ⟨(ho.block fx h.lt (by have := h.new; omega)).trans h.box, h.nil, h.ne, h.new⟩
/-- A cell of it is written: the rest stays. -/
theorem FBx.set {w wx : World} {σ : Sh} {pb fx : Nat} {cs : Array Value} (h : FBx w wx σ pb fx cs) (j : Nat) (v : Value) : FBx w (wx.setCell ⟨fx, j, none⟩ v) σ pb fx (cs.setIfInBounds j v) := ⟨set_box h.box j v, h.nil, h.ne, h.new⟩
theorem PSt.setF {w : World} {rb cb n : Nat} {wx : World} {σ : Sh} {c q pb pc fx : Nat} {ps : List Pv} {cs : Array Value} (h : PSt w rb cb n wx σ c q pb pc ps) (hf : FBx w wx σ pb fx cs) (j : Nat) (v : Value) : PSt w rb cb n (wx.setCell ⟨fx, j, none⟩ v) σ c q pb pc ps := by
  have hk : ∀ x, x ≠ fx → (wx.setCell ⟨fx, j, none⟩ v).heap[x]? = wx.heap[x]? := fun x hx => Below.heap_setCell _ _ _ _ hx
  have hn := hf.new
  have hr := h.rlt
  have hc := h.clt
  refine ⟨h.rd.keep (hk rb (by omega)) (hk cb (by omega)) (by rw [size_set]; exact Nat.le_refl _), h.wf.keep fun b T m hb => hk b (fun e => by subst e; rw [hf.nil] at hb; cases hb), h.new, ?_, h.len, h.ok, h.npb, h.only.set fx j (Or.inr hn) v, hr, hc⟩
  refine ⟨h.own.1, h.own.2.imp id ?_⟩
  rintro ⟨g, cap, cur, e, hg, hh, hr⟩
  cases e
  exact ⟨pb, pc, cur, rfl, hg, (hk pb (Ne.symm hf.ne)).trans hh, hr⟩
theorem LSt.setF {w wx : World} {σ σL : Sh} {tb pb fx : Nat} {cs : Array Value} (h : LSt w wx σ σL tb pb) (hf : FBx w wx σ pb fx cs) (hL : σL fx = none) (j : Nat) (v : Value) : LSt w (wx.setCell ⟨fx, j, none⟩ v) σ σL tb pb :=
  ⟨h.wf.keep fun b T m hb => Below.heap_setCell _ _ _ _ (fun e => by have e : b = fx := e; subst e; rw [hL] at hb; cases hb), h.blk, h.new, h.str, h.sep⟩
/-- All of a round's state. -/
structure RSt (w : World) (rb cb n : Nat) (wx : World) (σ σL : Sh) (c q pb pc tb : Nat) (ps : List Pv) : Prop where
  p : PSt w rb cb n wx σ c q pb pc ps
  l : LSt w wx σ σL tb pb
theorem RSt.move {w : World} {rb cb n : Nat} {wx wy : World} {σ σL : Sh} {c q q' pb pc tb : Nat} {ps : List Pv} (h : RSt w rb cb n wx σ σL c q pb pc tb ps) (hr : RdOk wy rb cb q') (ho : Only (· = rb) wx wy) : RSt w rb cb n wy σ σL c q' pb pc tb ps := ⟨h.p.move hr ho, h.l.move h.p.rlt ho⟩
theorem RSt.below {w : World} {rb cb n : Nat} {wx wy : World} {σ σL : Sh} {c q pb pc tb : Nat} {ps : List Pv} (h : RSt w rb cb n wx σ σL c q pb pc tb ps) (hb : Below wx.heap.size wx wy) : RSt w rb cb n wy σ σL c q pb pc tb ps := ⟨h.p.below hb, h.l.move h.p.rlt (Only.of_below _ hb)⟩
/-- Known memory has no blocks that were made later. -/
theorem RSt.fresh {w : World} {rb cb n : Nat} {wx : World} {σ σL : Sh} {c q pb pc tb : Nat} {ps : List Pv} (h : RSt w rb cb n wx σ σL c q pb pc tb ps) {N : Nat} (hN : wx.heap.size ≤ N) : σ N = none ∧ σL N = none ∧ N ≠ pb ∧ w.heap.size ≤ N := ⟨h.p.wf.fresh hN, h.l.wf.fresh hN, by have := h.p.plt.2; omega, by have := h.p.only.size; omega⟩
/-- A type of all that may be known. -/
theorem LSt.row {w wx : World} {σ σL : Sh} {tb pb : Nat} (h : LSt w wx σ σL tb pb) (i : Nat) (hi : i < 4) :
    ∃ (n : ByteArray) (fa : Option Addr) (fl fp : Nat), wx.cell? ⟨tb, i * 3, none⟩ = some (.string n) ∧ wx.cell? ⟨tb, i * 3 + 2, none⟩ = some (.slice fa fl fp) ∧ n.size ≤ 12 ∧ scalarB n = false ∧ fl ≤ 7 ∧ (0 < fl → ∃ b, fa = some ⟨b, 0, none⟩ ∧ fl ≤ fp ∧ σL b = some (30, fp)) := by
  obtain ⟨v0, c0, o0, -⟩ := h.wf.cell h.blk i 0 hi (by rw [wideT]; omega)
  obtain ⟨v2, c2, o2, -⟩ := h.wf.cell h.blk i 2 hi (by rw [wideT]; omega)
  rw [wideT] at c0 c2
  obtain ⟨n, rfl, z0, hsc⟩ : NmOk bdL.st v0 := by simpa [CellOk] using o0
  obtain ⟨fa, fl, fp, rfl, q1, q2, q3, q4⟩ : SlOk σL 30 bdL.nf v2 := by simpa [CellOk] using o2
  refine ⟨n, fa, fl, fp, c0, c2, z0, hsc rfl, q1, fun h0 => ?_⟩
  rcases q4 with ⟨-, h, -⟩ | ⟨b, e, hb⟩
  · omega
  · exact ⟨b, e, q2, hb⟩
/-- A field of it. -/
theorem LSt.field {w wx : World} {σ σL : Sh} {tb pb : Nat} (h : LSt w wx σ σL tb pb) {b k fp : Nat} (hb : σL b = some (30, fp)) (hk : k < fp) :
    ∃ (fn fo : ByteArray) (l m fr hd sh : Bool) (na : Option Addr) (nl nc : Nat), wx.cell? ⟨b, k * 8, none⟩ = some (.string fn) ∧ wx.cell? ⟨b, k * 8 + 1, none⟩ = some (.string fo) ∧ wx.cell? ⟨b, k * 8 + 2, none⟩ = some (.bool l) ∧ wx.cell? ⟨b, k * 8 + 3, none⟩ = some (.bool m) ∧ wx.cell? ⟨b, k * 8 + 4, none⟩ = some (.bool fr) ∧ wx.cell? ⟨b, k * 8 + 5, none⟩ = some (.bool hd) ∧ wx.cell? ⟨b, k * 8 + 6, none⟩ = some (.bool sh) ∧ wx.cell? ⟨b, k * 8 + 7, none⟩ = some (.slice na nl nc) ∧ fn.size ≤ 12 ∧ fo.size ≤ 12 ∧ SlOk σ 9 1 (.slice na nl nc) := by
  have hc := fun j (hj : j < 8) => h.wf.cell hb k j hk (by rw [wideF]; exact hj)
  simp only [wideF] at hc
  obtain ⟨v0, c0, o0, -⟩ := hc 0 (by omega)
  obtain ⟨v1, c1, o1, -⟩ := hc 1 (by omega)
  obtain ⟨v2, c2, o2, -⟩ := hc 2 (by omega)
  obtain ⟨v3, c3, o3, -⟩ := hc 3 (by omega)
  obtain ⟨v4, c4, o4, -⟩ := hc 4 (by omega)
  obtain ⟨v5, c5, o5, -⟩ := hc 5 (by omega)
  obtain ⟨v6, c6, o6, -⟩ := hc 6 (by omega)
  obtain ⟨v7, c7, o7, -⟩ := hc 7 (by omega)
  obtain ⟨fn, rfl, z0⟩ : StOk v0 := by simpa [CellOk] using o0
  obtain ⟨fo, rfl, z1⟩ : StOk v1 := by simpa [CellOk] using o1
  obtain ⟨l, rfl⟩ : BoOk v2 := by simpa [CellOk] using o2
  obtain ⟨m, rfl⟩ : BoOk v3 := by simpa [CellOk] using o3
  obtain ⟨fr, rfl⟩ : BoOk v4 := by simpa [CellOk] using o4
  obtain ⟨hd, rfl⟩ : BoOk v5 := by simpa [CellOk] using o5
  obtain ⟨sh, rfl⟩ : BoOk v6 := by simpa [CellOk] using o6
  obtain ⟨na, nl, nc, rfl, q1, q2, q3, q4⟩ : SlOk σL 9 bdL.nn v7 := by simpa [CellOk] using o7
  exact ⟨fn, fo, l, m, fr, hd, sh, na, nl, nc, c0, c1, c2, c3, c4, c5, c6, c7, z0, z1, ⟨na, nl, nc, rfl, q1, q2, q3, q4.imp id fun ⟨x, e, hx⟩ => ⟨x, e, h.str _ _ hx⟩⟩⟩
/-- The call that gives a part a field, and what is known behind the store of its answer. -/
theorem give_call {w : World} {rb cb n : Nat} {wx : World} {σ σL : Sh} {c q pb pc tb : Nat} {ps : List Pv} (h : RSt w rb cb n wx σ σL c q pb pc tb ps) (hc : c ≤ 1000) {i : Nat} (hi : i < n) {p : Pv} (hp : PvOk σ (bdP c) p) {nm fn fo : ByteArray} {l m fr hd sh : Bool} {na : Option Addr} {nl nc : Nat} (hnm : nm.size ≤ 12) (hsc : scalarB nm = false) (hfn : fn.size ≤ 12) (hfo : fo.size ≤ 12) (hsl : SlOk σ 9 1 (.slice na nl nc)) :
    Calls Tryz.prog 68 #[.agg #[.string p.s, .slice (some ⟨p.b, 0, none⟩) p.len p.cap], .string nm, .agg #[.string fn, .string fo, .bool l, .bool m, .bool fr, .bool hd, .bool sh, .slice na nl nc]] wx fun e wy => ∃ (p' : Pv) (σ' : Sh), e = .returned (.agg #[.string p'.s, .slice (some ⟨p'.b, 0, none⟩) p'.len p'.cap]) ∧ (∃ v0 v1, wy.cell? ⟨pb, i * 2, none⟩ = some v0 ∧ wy.cell? ⟨pb, i * 2 + 1, none⟩ = some v1 ∧ wy.frozen? ⟨pb, i * 2, none⟩ = false ∧ wy.frozen? ⟨pb, i * 2 + 1, none⟩ = false) ∧
      Hid (RSt w rb cb n ((wy.setCell ⟨pb, i * 2, none⟩ (.string p'.s)).setCell ⟨pb, i * 2 + 1, none⟩ (.slice (some ⟨p'.b, 0, none⟩) p'.len p'.cap)) σ' σL (c + 1) q pb pc tb (ps.set i p') ∧ (∀ fx cs, FBx w wx σ pb fx cs → FBx w ((wy.setCell ⟨pb, i * 2, none⟩ (.string p'.s)).setCell ⟨pb, i * 2 + 1, none⟩ (.slice (some ⟨p'.b, 0, none⟩) p'.len p'.cap)) σ' pb fx cs) ∧ Ext σ σ' ∧ (∀ b T m, σL b = some (T, m) → wy.heap[b]? = wx.heap[b]? ∧ b ≠ pb) ∧ (∀ fx cs, FBx w wx σ pb fx cs → wy.heap[fx]? = wx.heap[fx]?)) := by
  refine (l11Give_any wx σ (bdP c) p.s nm fn fo l m fr hd sh na nl nc p.b p.len p.cap h.p.wf hp.1 hp.2.2.2.2.2 hp.2.2.2.1 hp.2.2.2.2.1 (by have := hp.2.2.1; simp only [bdP] at this; omega) hnm hsc hfn hfo hsl (Nat.le_refl _) (by simp only [bdP]; omega) (by simp only [bdP]; omega)).mono ?_
  rintro e wy ⟨σ', b', len', cap', rfl, W', x', s', o', hl1, hl2, hlc, hcm, hb'⟩
  have hpl := h.p.plt
  have nhp : ¬ Hot σ pb := fun ⟨T, m, hT, _⟩ => by rw [h.p.npb] at hT; cases hT
  obtain ⟨p0, -, c0, c1, f0, f1⟩ := h.p.cells i hi
  have hk := o'.block pb hpl.2 nhp
  have hok : PvOk σ' (bdP (c + 1)) ⟨p.s, b', len', cap'⟩ := ⟨hp.1, by have := hp.2.1; simp only; omega, by have := hp.2.2.1; simp only [bdP] at this ⊢; omega, hlc, hcm, hb'⟩
  have hset : ∀ x, x ≠ pb → ((wy.setCell ⟨pb, i * 2, none⟩ (.string p.s)).setCell ⟨pb, i * 2 + 1, none⟩ (.slice (some ⟨b', 0, none⟩) len' cap')).heap[x]? = wy.heap[x]? := fun x hx => by rw [Below.heap_setCell _ _ _ _ hx, Below.heap_setCell _ _ _ _ hx]
  have hL : ∀ b T m, σL b = some (T, m) → ¬ Hot σ b ∧ b ≠ pb := fun b T m hb => by
    by_cases hT : T = 9
    · subst hT
      have hs := h.l.str b m hb
      exact ⟨fun ⟨T', m', h1, h2⟩ => by rw [hs] at h1; cases h1; exact h2 rfl, fun e => by subst e; rw [h.p.npb] at hs; cases hs⟩
    · have hs := h.l.sep b T m hb hT
      exact ⟨(fun ⟨T', m', h1, h2⟩ => by rw [hs.1] at h1; cases h1), hs.2⟩
  refine ⟨⟨p.s, b', len', cap'⟩, σ', rfl, ⟨_, _, (World.cell?_of_block (a := ⟨pb, i * 2, none⟩) hk).trans c0, (World.cell?_of_block (a := ⟨pb, i * 2 + 1, none⟩) hk).trans c1, (World.frozen?_of_block (a := ⟨pb, i * 2, none⟩) hk).trans f0, (World.frozen?_of_block (a := ⟨pb, i * 2 + 1, none⟩) hk).trans f1⟩, ⟨h.p.give hi ⟨p.s, b', len', cap'⟩ W' x' s' o' hok, ?_⟩, fun fx cs hf => ?_, x', fun b T m hb => ⟨o'.block b (h.l.wf.lt hb) (hL b T m hb).1, (hL b T m hb).2⟩, fun fx cs hf => o'.block fx hf.lt (fun ⟨T, m, hT, _⟩ => by rw [hf.nil] at hT; cases hT)⟩
  · exact ⟨h.l.wf.keep fun b T m hb => (hset b (hL b T m hb).2).trans (o'.block b (h.l.wf.lt hb) (hL b T m hb).1), h.l.blk, h.l.new, fun b m hb => x' _ _ _ (h.l.str b m hb), fun b T m hb hT => by rw [s' b (h.l.wf.lt hb)]; exact h.l.sep b T m hb hT⟩
  · exact ⟨(hset fx hf.ne).trans ((o'.block fx hf.lt (fun ⟨T, m, hT, _⟩ => by rw [hf.nil] at hT; cases hT)).trans hf.box), by rw [s' fx hf.lt]; exact hf.nil, hf.ne, hf.new⟩
end Go.Proofs.YtibpieomldhomaaGreatDoor

namespace Go.Proofs.YtibpieomldhomaaGreatDoor
set_option linter.unusedSimpArgs false
set_option linter.unusedVariables false
open Go.RowKit Go.Maps
attribute [local go_sem] Oper.semAt_some

theorem infoP : (Tryz.prog.info? 25).map (fun i => (i.zero, i.size, i.bytes)) = some (some (.agg #[.string ByteArray.empty, .slice none 0 0]), 2, 40) := by kernel_rfl
/-- No parts yet. -/
theorem PSt.start {w wx : World} {rb cb q : Nat} (hr : RdOk wx rb cb q) (ho : Only (· = rb) w wx) (h1 : rb < w.heap.size) (h2 : cb < w.heap.size) (hz : w.heap.size ≤ wx.heap.size) :
    PSt w rb cb 0 (wx.alloc (.cells #[] 25)) (fun _ => none) 0 q wx.heap.size 0 [] :=
  ⟨hr.only (Only.of_below (fun _ => False) (below_box _ _)) id id, Wf.nil _ _, (fun _ _ _ h => by cases h), ⟨rfl, Or.inr ⟨wx.heap.size, 0, #[], rfl, hz, block_new _ _ rfl, Nat.le_refl _, Nat.zero_le _, rfl, rfl⟩⟩, rfl, (fun p hp => by simp at hp), rfl, ho.alloc _, h1, h2⟩
/-- One part more. -/
theorem PSt.push {w : World} {rb cb k : Nat} {w2 wP : World} {σ : Sh} {q pb pc g cap : Nat} {ps : List Pv} (h : PSt w rb cb k w2 σ 0 q pb pc ps) (fn nm : ByteArray) (hfn : fn.size ≤ 12) (hnm : nm.size ≤ 12) (W3 : World)
    (hW3 : W3 = (((w2.alloc (.cells #[.string fn, .string ⟨#[105, 110, 116]⟩, .bool false, .bool false, .bool false, .bool false, .bool false, .slice none 0 0] 30)).alloc (.cells #[.string ⟨#[113, 117, 101, 114, 121]⟩, .string ⟨#[]⟩, .slice (some ⟨w2.heap.size, 0, none⟩) 1 1] 40)).alloc (.cells #[.string nm, .slice (some ⟨w2.heap.size + 1, 0, none⟩) 1 1] 25)))
    (hown : wP.ownsRow w.heap.size 25 2 (.slice (some ⟨g, 0, none⟩) (k + 1) cap) (k + 1) (flatP ps ++ [.string nm, .slice (some ⟨w2.heap.size + 1, 0, none⟩) 1 1])) (hgr : W3.grownBy wP (Value.slice (some ⟨pb, 0, none⟩) k pc).ownBlock) (hg0 : (Value.slice (some ⟨pb, 0, none⟩) k pc).ownBlock = some g ∨ g = W3.heap.size) :
    PSt w rb cb (k + 1) wP ((σ.add w2.heap.size 30 1).add (w2.heap.size + 1) 40 1) 0 q g cap (ps ++ [⟨nm, w2.heap.size + 1, 1, 1⟩]) := by
  have hg : g = pb ∨ g = W3.heap.size := hg0.imp (fun e => (Option.some.inj e).symm) id
  have hgr : W3.grownBy wP (some pb) := hgr
  have b3 : Below w2.heap.size w2 W3 := by rw [hW3]; exact (below_box2 _ _ _).alloc (by simp; omega) _
  have z3 : W3.heap.size = w2.heap.size + 1 + 1 + 1 := by rw [hW3]; simp
  have h3 := h.below b3
  have hpl := h.plt
  have hrl := h.rlt
  have hcl := h.clt
  have hwz := h.only.size
  have kF : W3.heap[w2.heap.size]? = some (.cells #[.string fn, .string ⟨#[105, 110, 116]⟩, .bool false, .bool false, .bool false, .bool false, .bool false, .slice none 0 0] 30 (0, 0)) := by
    rw [hW3, (below_box2 _ _ _).block _ (by simp)]; exact block_new _ _ rfl
  have kT : W3.heap[w2.heap.size + 1]? = some (.cells #[.string ⟨#[113, 117, 101, 114, 121]⟩, .string ⟨#[]⟩, .slice (some ⟨w2.heap.size, 0, none⟩) 1 1] 40 (0, 0)) := by
    rw [hW3, (below_box _ _).block _ (by simp)]; exact block_new _ _ (by simp)
  have nF : σ w2.heap.size = none := h.wf.fresh (Nat.le_refl _)
  have nT : (σ.add w2.heap.size 30 1) (w2.heap.size + 1) = none := by rw [Sh.add_ne _ _ _ _ _ (by omega)]; exact h.wf.fresh (by omega)
  have W1 : Wf W3 (σ.add w2.heap.size 30 1) (bdP 0) := h3.wf.add nF kF rfl (cells_one rfl (fieldCells _ _ fn ⟨#[105, 110, 116]⟩ false false false false false _ hfn (by decide) (sl_nil _ _ _)))
  have W2 : Wf W3 ((σ.add w2.heap.size 30 1).add (w2.heap.size + 1) 40 1) (bdP 0) := W1.add nT kT rfl (cells_one rfl (typeCells _ _ ⟨#[113, 117, 101, 114, 121]⟩ ⟨#[]⟩ _ (by decide) (fun _ => by simp [scalarB, isT, ByteArray.toList_eq]) (by decide) ⟨_, 1, 1, rfl, by decide, Nat.le_refl _, by simp [maxLen], Or.inr ⟨_, rfl, Sh.add_self _ _ _ _⟩⟩))
  have he : Ext σ ((σ.add w2.heap.size 30 1).add (w2.heap.size + 1) 40 1) := (Sh.add_ext nF).trans (Sh.add_ext nT)
  have npb : ((σ.add w2.heap.size 30 1).add (w2.heap.size + 1) 40 1) pb = none := by rw [Sh.add_ne _ _ _ _ _ (by omega), Sh.add_ne _ _ _ _ _ (by omega)]; exact h.npb
  have hk : ∀ x, x < W3.heap.size → x ≠ pb → wP.heap[x]? = W3.heap[x]? := fun x hx hn => hgr.block x hx (fun e => hn (Option.some.inj e))
  refine ⟨h3.rd.keep (hk rb (by omega) (by omega)) (hk cb (by omega) (by omega)) hgr.size, W2.keep fun b T m hb => hk b (W2.lt hb) (fun e => by subst e; rw [npb] at hb; cases hb), fun b T m hb => ?_, by rw [flatP_app]; exact hown, by simp [h.len], fun p hp => ?_, ?_, h3.only.grown hgr (fun x hx => by cases hx; exact Or.inr hpl.1), hrl, hcl⟩
  · unfold Sh.add at hb
    split at hb
    · omega
    · split at hb
      · omega
      · exact h.new b T m hb
  · rcases List.mem_append.1 hp with hp | hp
    · exact (h.ok p hp).ext he (Nat.le_refl _)
    · obtain rfl : p = ⟨nm, w2.heap.size + 1, 1, 1⟩ := by simpa using hp
      exact ⟨hnm, Nat.le_refl _, Nat.le_refl _, Nat.le_refl _, by simp [maxLen], Sh.add_self _ _ _ _⟩
  · rcases hg with rfl | rfl
    · exact npb
    · exact W2.fresh (Nat.le_refl _)
/-- All that may be known is laid beside the parts. -/
theorem PSt.join {w : World} {rb cb n : Nat} {wx wy : World} {σ σL : Sh} {q pb pc tb : Nat} {ps : List Pv} (h : PSt w rb cb n wx σ 0 q pb pc ps) (hL : Wf wy σL bdL) (hb : σL tb = some (40, 4)) (hn : ∀ b T m, σL b = some (T, m) → wx.heap.size ≤ b) (hy : Below wx.heap.size wx wy) :
    ∃ σ', RSt w rb cb n wy σ' σL 0 q pb pc tb ps := by
  have hp := h.below hy
  have hz := h.only.size
  have hpl := h.plt
  let σ' : Sh := fun b => match σL b with
    | some (T, m) => if T = 9 then some (9, m) else σ b
    | none => σ b
  have e1 : ∀ b m, σL b = some (9, m) → σ' b = some (9, m) := fun b m h => by simp only [σ', h, if_pos]
  have e2 : ∀ b T m, σL b = some (T, m) → T ≠ 9 → σ' b = σ b := fun b T m h hT => by simp only [σ', h, if_neg hT]
  have e3 : ∀ b, σL b = none → σ' b = σ b := fun b h => by simp only [σ', h]
  have he : Ext σ σ' := fun b T m hb => by
    have hlt := h.wf.lt hb
    cases e : σL b with
    | none => rw [e3 b e]; exact hb
    | some x => obtain ⟨T', m'⟩ := x; have := hn b T' m' e; omega
  have hcase : ∀ b T m, σ' b = some (T, m) → σ b = some (T, m) ∨ (T = 9 ∧ σL b = some (9, m)) := fun b T m hb => by
    cases e : σL b with
    | none => rw [e3 b e] at hb; exact Or.inl hb
    | some x =>
      obtain ⟨T', m'⟩ := x
      by_cases hT : T' = 9
      · subst hT; rw [e1 b m' e] at hb; cases hb; exact Or.inr ⟨rfl, rfl⟩
      · rw [e2 b T' m' e hT] at hb; exact Or.inl hb
  refine ⟨σ', ⟨hp.rd, fun b T m hb => ?_, fun b T m hb => ?_, hp.own, hp.len, fun p hq => (hp.ok p hq).ext he (Nat.le_refl _), ?_, hp.only, hp.rlt, hp.clt⟩, hL, hb, fun b T m hb => by have := hn b T m hb; omega, e1, fun b T m hb hT => ⟨?_, ?_⟩⟩
  · rcases hcase b T m hb with h1 | ⟨rfl, h1⟩
    · obtain ⟨cur, k1, k2, k3⟩ := hp.wf b T m h1
      exact ⟨cur, k1, k2, fun k v hv => (k3 k v hv).ext he (Bd.le.refl _)⟩
    · obtain ⟨cur, k1, k2, k3⟩ := hL b 9 m h1
      refine ⟨cur, k1, k2, fun k v hv => ?_⟩
      have := k3 k v hv
      simpa [CellOk] using this
  · rcases hcase b T m hb with h1 | ⟨rfl, h1⟩
    · exact h.new b T m h1
    · have := hn b 9 m h1; omega
  · cases e : σ' pb with
    | none => rfl
    | some x =>
      obtain ⟨T, m⟩ := x
      rcases hcase pb T m e with h1 | ⟨rfl, h1⟩
      · rw [h.npb] at h1; cases h1
      · have := hn pb 9 m h1; omega
  · rw [e2 b T m hb hT]
    exact h.wf.fresh (hn b T m hb)
  · have := hn b T m hb; omega
/-- A field's cells. -/
def fcell (fn fo : ByteArray) (l m fr hd sh : Bool) (na : Option Addr) (nl nc : Nat) : Array Value := #[.string fn, .string fo, .bool l, .bool m, .bool fr, .bool hd, .bool sh, .slice na nl nc]
/-- A round's state, with the field in its box. -/
structure RF (w : World) (rb cb n : Nat) (σL : Sh) (pb pc tb fx : Nat) (wx : World) (σ : Sh) (c q : Nat) (ps : List Pv) (fn fo : ByteArray) (l m fr hd sh : Bool) (na : Option Addr) (nl nc : Nat) : Prop where
  r : RSt w rb cb n wx σ σL c q pb pc tb ps
  f : FBx w wx σ pb fx (fcell fn fo l m fr hd sh na nl nc)
  nL : σL fx = none
  sl : SlOk σ 9 1 (.slice na nl nc)
section
variable {w : World} {rb cb n : Nat} {σL : Sh} {pb pc tb fx : Nat} {wx wy : World} {σ : Sh} {c q q' : Nat} {ps : List Pv} {fn fo : ByteArray} {l m fr hd sh : Bool} {na : Option Addr} {nl nc : Nat}
theorem RF.move (h : RF w rb cb n σL pb pc tb fx wx σ c q ps fn fo l m fr hd sh na nl nc) (hr : RdOk wy rb cb q') (ho : Only (· = rb) wx wy) : RF w rb cb n σL pb pc tb fx wy σ c q' ps fn fo l m fr hd sh na nl nc :=
  ⟨h.r.move hr ho, h.f.move h.r.p.rlt ho, h.nL, h.sl⟩
theorem RF.setH (h : RF w rb cb n σL pb pc tb fx wx σ c q ps fn fo l m fr hd sh na nl nc) (b : Bool) : RF w rb cb n σL pb pc tb fx (wx.setCell ⟨fx, 5, none⟩ (.bool b)) σ c q ps fn fo l m fr b sh na nl nc :=
  ⟨⟨h.r.p.setF h.f 5 _, h.r.l.setF h.f h.nL 5 _⟩, h.f.set 5 (.bool b), h.nL, h.sl⟩
theorem RF.setS (h : RF w rb cb n σL pb pc tb fx wx σ c q ps fn fo l m fr hd sh na nl nc) (b : Bool) : RF w rb cb n σL pb pc tb fx (wx.setCell ⟨fx, 6, none⟩ (.bool b)) σ c q ps fn fo l m fr hd b na nl nc :=
  ⟨⟨h.r.p.setF h.f 6 _, h.r.l.setF h.f h.nL 6 _⟩, h.f.set 6 (.bool b), h.nL, h.sl⟩
theorem RF.drew (h : RF w rb cb n σL pb pc tb fx wx σ c q ps fn fo l m fr hd sh na nl nc) : RF w rb cb n σL pb pc tb fx wx.drew σ c q ps fn fo l m fr hd sh na nl nc :=
  h.move (h.r.p.rd.keep rfl rfl (Nat.le_refl _)) ⟨rfl, rfl, rfl, Nat.le_refl _, fun _ _ _ => rfl⟩
theorem RF.cell (h : RF w rb cb n σL pb pc tb fx wx σ c q ps fn fo l m fr hd sh na nl nc) : wx.cell? ⟨fx, 0, none⟩ = some (.string fn) ∧ wx.cell? ⟨fx, 1, none⟩ = some (.string fo) ∧ wx.cell? ⟨fx, 2, none⟩ = some (.bool l) ∧ wx.cell? ⟨fx, 3, none⟩ = some (.bool m) ∧ wx.cell? ⟨fx, 4, none⟩ = some (.bool fr) ∧ wx.cell? ⟨fx, 5, none⟩ = some (.bool hd) ∧ wx.cell? ⟨fx, 6, none⟩ = some (.bool sh) ∧ wx.cell? ⟨fx, 7, none⟩ = some (.slice na nl nc) ∧ wx.frozen? ⟨fx, 5, none⟩ = false ∧ wx.frozen? ⟨fx, 6, none⟩ = false := by
  have hb := h.f.box
  unfold fcell at hb
  exact ⟨(box_at hb 0 (by simp)).1, (box_at hb 1 (by simp)).1, (box_at hb 2 (by simp)).1, (box_at hb 3 (by simp)).1, (box_at hb 4 (by simp)).1, (box_at hb 5 (by simp)).1, (box_at hb 6 (by simp)).1, (box_at hb 7 (by simp)).1, (box_at hb 5 (by simp)).2, (box_at hb 6 (by simp)).2⟩
/-- The field is laid into a new box. -/
theorem RSt.box (h : RSt w rb cb n wx σ σL c q pb pc tb ps) (hsl : SlOk σ 9 1 (.slice na nl nc)) (hx : wx.heap.size = fx) : RF w rb cb n σL pb pc tb fx (wx.alloc (.cells #[.string fn, .string fo, .bool l, .bool m, .bool fr, .bool hd, .bool sh, .slice na nl nc] 30)) σ c q ps fn fo l m fr hd sh na nl nc := by
  subst hx
  obtain ⟨h1, h2, h3, h4⟩ := h.fresh (Nat.le_refl wx.heap.size)
  exact ⟨h.below (below_box _ _), ⟨block_new _ _ rfl, h1, h3, h4⟩, h2, hsl⟩
/-- The call that gives it, and the store. -/
theorem RF.give (h : RF w rb cb n σL pb pc tb fx wx σ c q ps fn fo l m fr hd sh na nl nc) (hc : c ≤ 1000) {i : Nat} (hi : i < n) {p : Pv} (hp : PvOk σ (bdP c) p) {nm : ByteArray} (hnm : nm.size ≤ 12) (hsc : scalarB nm = false) (hfn : fn.size ≤ 12) (hfo : fo.size ≤ 12) :
    Calls Tryz.prog 68 #[.agg #[.string p.s, .slice (some ⟨p.b, 0, none⟩) p.len p.cap], .string nm, .agg #[.string fn, .string fo, .bool l, .bool m, .bool fr, .bool hd, .bool sh, .slice na nl nc]] wx fun e wy => ∃ (p' : Pv) (σ' : Sh), e = .returned (.agg #[.string p'.s, .slice (some ⟨p'.b, 0, none⟩) p'.len p'.cap]) ∧ (∃ v0 v1, wy.cell? ⟨pb, i * 2, none⟩ = some v0 ∧ wy.cell? ⟨pb, i * 2 + 1, none⟩ = some v1 ∧ wy.frozen? ⟨pb, i * 2, none⟩ = false ∧ wy.frozen? ⟨pb, i * 2 + 1, none⟩ = false) ∧
      Hid (RF w rb cb n σL pb pc tb fx ((wy.setCell ⟨pb, i * 2, none⟩ (.string p'.s)).setCell ⟨pb, i * 2 + 1, none⟩ (.slice (some ⟨p'.b, 0, none⟩) p'.len p'.cap)) σ' (c + 1) q (ps.set i p') fn fo l m fr hd sh na nl nc ∧ wy.heap[tb]? = wx.heap[tb]? ∧ tb ≠ pb ∧ wy.heap[fx]? = wx.heap[fx]? ∧ fx ≠ pb) := by
  refine (give_call h.r hc hi hp hnm hsc hfn hfo h.sl).mono ?_
  rintro e wy ⟨p', σ', rfl, h1, h2⟩
  obtain ⟨g1, g2, g3, g4, g5⟩ := h2.out
  exact ⟨p', σ', rfl, h1, ⟨⟨g1, g2 _ _ h.f, h.nL, h.sl.ext g3 (Nat.le_refl _)⟩, (g4 _ _ _ h.r.l.blk).1, (g4 _ _ _ h.r.l.blk).2, g5 _ _ h.f, h.f.ne⟩⟩
end
end Go.Proofs.YtibpieomldhomaaGreatDoor

namespace Go.Proofs.YtibpieomldhomaaGreatDoor
set_option linter.unusedSimpArgs false
set_option linter.unusedVariables false
open Go.RowKit Go.Deep Go.ChangeShapes

theorem Tryz.cells9 : Tryz.prog.cellsOf 9 = 1 := by kernel_rfl
theorem Tryz.cells3 : Tryz.prog.cellsOf 3 = 1 := by kernel_rfl
theorem Tryz.cells28 : Tryz.prog.cellsOf 28 = 1 := by kernel_rfl
theorem Tryz.bytes9 : Tryz.prog.bytesOf 9 = 16 := by kernel_rfl

theorem add_plain (b off k : Nat) : (⟨b, off, none⟩ : Addr).add k = ⟨b, off + k, none⟩ := by by_cases h : k = 0 <;> simp [Addr.add, h]

section
variable {H : Type} {enc : TypeId × Value → H} {w : World}

/-- A datum's parts, each within the reach. -/
def Light (t : TypeId) (d : DataW H) : Prop := ∀ n ∈ d.weights Tryz.prog t, n ≤ reachBytes

theorem light_all {e : TypeId} : ∀ {l : List (DataW H)} {d : DataW H}, d ∈ l → ∀ n ∈ d.weights Tryz.prog e, n ∈ DataW.weightsAll Tryz.prog e l
  | x :: r, d, hd, n, hn => by
    rw [DataW.weightsAll, List.mem_append]
    rcases List.mem_cons.1 hd with rfl | h
    · exact Or.inl hn
    · exact Or.inr (light_all h n hn)

theorem strs_open {fuel : Nat} {c : Value} {x : DataW H × List MemPlace} (h : DataW.trod enc Tryz.prog w 0 (fun _ => true) true fuel 28 [c] = some x) (hl : Light 28 x.1) :
    ∃ (ns : List ByteArray) (na : Option Addr) (nc : Nat), c = .slice na ns.length nc ∧ Strs w (· < w.heap.size) ns na ∧ ns.length ≤ nc ∧ 16 * ns.length ≤ 281474976710656 := by
  rcases open_strings Tryz.underlying28 Tryz.underlying9 Tryz.cells9 h with ⟨hc, hx⟩ | ⟨a, len, cap, ss, hc, -, hlc, hcm, hsl, rfl, hcell, hsz⟩
  · simp only [List.cons.injEq, and_true] at hc
    exact ⟨[], none, 0, hc, ⟨fun h => absurd rfl h, fun i => by simp [nth], by simp⟩, by simp, by simp⟩
  · simp only [List.cons.injEq, and_true] at hc
    simp only [if_true] at hsl
    have hlen : (ss.take len).length = len := by simp; omega
    refine ⟨ss.take len, some a, cap, by rw [hlen]; exact hc, ⟨fun hne => ?_, fun i => ?_, by rw [hlen]; omega⟩, by omega, ?_⟩
    · have h0 : 0 < len := by
        rcases Nat.eq_zero_or_pos len with h | h
        · subst h; simp at hne
        · exact h
      obtain ⟨b, off, spot⟩ := a
      have hs : spot = none := by simpa [Addr.add] using World.cell?_spot (hcell 0 (by omega))
      subst hs
      refine ⟨b, off, rfl, ?_, fun i hi => ?_⟩
      · have h1 := hcell 0 (by omega)
        have : w.cells? 0 ⟨b, off, none⟩ 1 = some [.string (ss.getD 0 ByteArray.empty)] := cells?_one (Nat.zero_le _) (by simpa [Addr.add] using h1)
        exact World.cells?_block this (by omega)
      · have := hcell i (by omega)
        rw [add_plain] at this
        rw [this]
        simp [nth, List.getD_eq_getElem?_getD, List.getElem?_take, show i < len by omega]
    · simp only [nth, List.getD_eq_getElem?_getD, List.getElem?_take]
      split
      · by_cases hi : i < ss.length
        · rw [List.getElem?_eq_getElem hi]; exact hsz _ (List.getElem_mem hi)
        · rw [List.getElem?_eq_none (by omega)]; simp
      · simp
    · have h1 := hl ((strs (H := H) (ss.take len)).length + (strs (H := H) (ss.drop len)).length |>.mul (Tryz.prog.bytesOf 9)) (by
        simp only [DataW.weights, Tryz.underlying28]; exact List.mem_cons_self ..)
      have h2 : ((strs (H := H) (ss.take len)).length + (strs (H := H) (ss.drop len)).length) * Tryz.prog.bytesOf 9 ≤ reachBytes := h1
      rw [Tryz.bytes9] at h2
      simp only [strs, List.length_map, List.length_take, List.length_drop, reachBytes] at h2
      omega

/-- A list of things of so many cells each, opened. -/
theorem rows_open {X : Type} (z : X) (R : X → List Value → Prop) (sl e : TypeId) (sz by' : Nat) (hu : Tryz.prog.underlying sl = some (.slice e)) (hc : Tryz.prog.cellsOf e = sz) (hby : Tryz.prog.bytesOf e = by') (hs0 : 0 < sz)
    {fuel : Nat} {c : Value} {x : DataW H × List MemPlace} (h : DataW.trod enc Tryz.prog w 0 (fun _ => true) true fuel sl [c] = some x) (hl : Light sl x.1)
    (ih : ∀ m cs y, DataW.trod enc Tryz.prog w 0 (fun _ => true) true m e cs = some y → Light e y.1 → cs.length = sz ∧ ∃ a, R a cs) :
    ∃ (xs : List X) (a : Option Addr) (cap : Nat) (C : Nat → Nat → Value), c = .slice a xs.length cap ∧ xs.length ≤ cap ∧ by' * xs.length ≤ 281474976710656 ∧ Arr w (· < w.heap.size) sz xs.length a C ∧ ∀ i, i < xs.length → R (xs.getD i z) ((List.range sz).map (C i)) := by
  rcases DataW.trod_slice hu h with ⟨hc0, -⟩ | ⟨a, len, cap, elems, rest, n', hfu, hc0, rfl, -, hlc, hcm, hle, hel, -, -⟩
  · simp only [List.cons.injEq, and_true] at hc0
    exact ⟨[], none, 0, fun _ _ => undef, hc0, by simp, by simp, fun h => by simp at h, fun i hi => by simp at hi⟩
  · simp only [List.cons.injEq, and_true] at hc0
    have hw : by' * len ≤ 281474976710656 := by
      have h1 := hl (((elems.map (·.1)).length + (rest.map (·.1)).length) * Tryz.prog.bytesOf e) (by simp only [DataW.weights, hu]; exact List.mem_cons_self ..)
      rw [hby] at h1
      simp only [List.length_map, reachBytes] at h1
      have h2 : len * by' ≤ (elems.length + rest.length) * by' := Nat.mul_le_mul_right _ (by omega)
      have h3 : by' * len = len * by' := Nat.mul_comm _ _
      omega
    have hk : ∀ i, ∃ r : X × (Nat → Value), i < len → (∀ j, j < sz → w.cell? ((a.add (i * sz)).add j) = some (r.2 j)) ∧ R r.1 ((List.range sz).map r.2) := by
      intro i
      by_cases hi : i < len
      · have hi' : i < elems.length := by omega
        have h1 := hel i hi
        rw [List.getElem?_eq_getElem hi', hc] at h1
        obtain ⟨cs', hcs, htr⟩ := Option.bind_eq_some_iff.1 h1
        obtain ⟨hlen, y, hR⟩ := ih n' cs' _ htr (fun k hk => hl k (by
          simp only [DataW.weights, hu]
          refine List.mem_cons_of_mem _ (List.mem_append_left _ (light_all (d := elems[i].1) ?_ k hk))
          exact List.mem_map.2 ⟨elems[i], List.getElem_mem hi', rfl⟩))
        obtain ⟨-, -, hcc⟩ := World.cells?_some hcs
        have hcs2 : (List.range sz).map (fun j => cs'.getD j undef) = cs' := by
          apply List.ext_getElem
          · simp [hlen]
          · intro j h1 h2; simp [List.getD_eq_getElem?_getD, List.getElem?_eq_getElem h2]
        refine ⟨(y, fun j => cs'.getD j undef), fun _ => ⟨fun j hj => ?_, ?_⟩⟩
        · rw [hcc j hj]
          simp [List.getD_eq_getElem?_getD, List.getElem?_eq_getElem (show j < cs'.length by omega)]
        · show R y ((List.range sz).map (fun j => cs'.getD j undef))
          rw [hcs2]; exact hR
      · exact ⟨(z, fun _ => undef), fun h => absurd h hi⟩
    obtain ⟨f, hfk⟩ := Classical.skolem.1 hk
    have hkl : ((List.range len).map fun i => (f i).1).length = len := by simp
    refine ⟨(List.range len).map fun i => (f i).1, some a, cap, fun i => (f i).2, by rw [hkl]; exact hc0, by rw [hkl]; exact hlc, by rw [hkl]; exact hw, ?_, ?_⟩
    · intro h0
      rw [hkl] at h0 ⊢
      have h1 := (hfk 0 h0).1 0 hs0
      have h2 : w.cell? a = some ((f 0).2 0) := by simpa [Addr.add] using h1
      have hsp := World.cell?_spot h2
      obtain ⟨b, off, spot⟩ := a
      simp only at hsp
      subst hsp
      have : w.cells? 0 ⟨b, off, none⟩ 1 = some [(f 0).2 0] := cells?_one (Nat.zero_le _) h2
      refine ⟨b, off, rfl, World.cells?_block this (by omega), fun i hi j hj => ?_⟩
      have h3 := (hfk i hi).1 j hj
      rw [add_plain, add_plain] at h3
      exact h3
    · intro i hi
      rw [hkl] at hi
      have h1 := (hfk i hi).2
      simpa [List.getD_eq_getElem?_getD, List.getElem?_map, List.getElem?_range hi] using h1

end
end Go.Proofs.YtibpieomldhomaaGreatDoor

namespace Go.Proofs.YtibpieomldhomaaGreatDoor
set_option linter.unusedSimpArgs false
set_option linter.unusedVariables false
open Go.RowKit Go.Deep Go.ChangeShapes Go.WideShapes

theorem Tryz.cells5 : Tryz.prog.cellsOf 5 = 1 := by kernel_rfl
theorem Tryz.bytes5 : Tryz.prog.bytesOf 5 = 1 := by kernel_rfl

section
variable {H : Type} {enc : TypeId × Value → H} {w : World}

set_option maxRecDepth 20000 in
/-- A slice as an argument: nil, or at a plain place. -/
theorem slice_form {b0 : Nat} {v : Value} (hv : Value.okWide Tryz.prog w .any b0 22 v) (a : Option Addr) (n c : Nat) (hf : v = .slice a n c) : a = none ∨ ∃ b o, a = some ⟨b, o, none⟩ := by
  subst hf
  rcases a with _ | ⟨b, o, s⟩
  · exact Or.inl rfl
  · right
    simp only [Value.okWide, Tryz.underlying22, Cell.okWide, Cell.ok, World.has] at hv
    obtain ⟨-, -, -, h, -⟩ := hv
    exact ⟨b, o, by rw [h]⟩

set_option maxRecDepth 20000 in
theorem code_open {fuel b0 : Nat} {c : Value} {x : DataW H × List MemPlace} (h : DataW.trod enc Tryz.prog w 0 (fun _ => true) true fuel 22 [c] = some x) (hl : Light 22 x.1) (hv : Value.okWide Tryz.prog w .any b0 22 c) (hpos : 0 < w.heap.size) :
    ∃ (n cap cb : Nat) (a : Option Addr), c = .slice a n cap ∧ CodeOk w cb c n := by
  have hcap : ∀ a n cap, c = .slice a n cap → cap ≤ maxLen := fun a n cap e => by
    subst e
    rcases DataW.trod_slice Tryz.underlying22 h with ⟨hc0, -⟩ | ⟨a', len, cap', elems, rest, n', hfu, hc0, -, -, hlc, hcm, -⟩
    · simp at hc0; omega
    · simp at hc0; omega
  obtain ⟨ns, na, nc, C, rfl, hnc, hb, hA, hr⟩ := rows_open (0 : Int) (fun n cs => cs = [.int .u8 n] ∧ (Lit.int .u8 n).wf = true) 22 5 1 1 Tryz.underlying22 Tryz.cells5 Tryz.bytes5 (by omega) h hl (fun m cs y hy _ => by
    obtain ⟨n, rfl, -, hw⟩ := DataW.trod_int Tryz.underlying5 hy
    exact ⟨rfl, n, rfl, hw⟩)
  have hform := slice_form hv na ns.length nc rfl
  have hm := hcap _ _ _ rfl
  rcases Nat.eq_zero_or_pos ns.length with h0 | h0
  · exact ⟨ns.length, nc, 0, na, rfl, na, nc, 0, rfl, hnc, hm, hpos, fun h => by omega, hform, fun i hi => by omega⟩
  · obtain ⟨b, off, e, hlt, hc⟩ := hA h0
    refine ⟨ns.length, nc, b, na, rfl, na, nc, off, rfl, hnc, hm, hlt, fun _ => e, Or.inr ⟨b, off, e⟩, fun i hi => ?_⟩
    have h1 := hc i hi 0 (by omega)
    obtain ⟨h2, hw⟩ := hr i hi
    simp only [List.range, List.range.loop, List.map_cons, List.map_nil, List.cons.injEq, and_true] at h2
    rw [h2] at h1
    have hw2 : 0 ≤ ns.getD i 0 ∧ ns.getD i 0 ≤ 255 := by
      have h3 := hw
      simp [Lit.wf] at h3
      first | exact h3 | (simp [IntKind.min, IntKind.max] at h3; omega)
    refine ⟨(ns.getD i 0).toNat, by omega, ?_⟩
    rw [Nat.mul_one, Nat.add_zero] at h1
    rw [h1, Int.toNat_of_nonneg hw2.1]
end
end Go.Proofs.YtibpieomldhomaaGreatDoor
