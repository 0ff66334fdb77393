import Derived.Test.YtokmgbidmnanpaaGreatDoorB14
import Derived.Test.YtokmgbidmnanpaaGreatDoorB1
import Derived.Test.YtokmgbidmnanpaaGreatDoorB11
import Derived.BigRegion
import Derived.Test.YtokmgbidmnanpaaGreatDoorB9
import Derived.Laws.IdiomStrings
import Derived.Test.YtokmgbidmnanpaaGreatDoorB12
import Derived.Test.YtokmgbidmnanpaaGreatDoorB6
import Derived.Test.YtokmgbidmnanpaaGreatDoorB5
import Derived.Deep.RegionWith
import Derived.WideShapes
set_option linter.unusedSimpArgs false
set_option linter.unusedVariables false
namespace Go.Proofs.YtokmgbidmnanpaaGreatDoor
open Go.RowKit Go.Maps
end Go.Proofs.YtokmgbidmnanpaaGreatDoor
namespace Go.Proofs.YtokmgbidmnanpaaGreatDoor
open Go.RowKit Go.Maps
section
variable {w : World} {nm : ByteArray} {pbox : Array Value} {B : Bd} {wx wy : World} {σ : Sh} {xa : Option Addr} {i xc : Nat}
variable {tb : Nat} {tn tk : ByteArray} {fa : Option Addr} {k fc : Nat}
end
end Go.Proofs.YtokmgbidmnanpaaGreatDoor
namespace Go.Proofs.YtokmgbidmnanpaaGreatDoor
open Go.RowKit Go.Maps
attribute [local go_sem] Oper.semAt_some
end Go.Proofs.YtokmgbidmnanpaaGreatDoor
namespace Go.Proofs.YtokmgbidmnanpaaGreatDoor
open Go.RowKit Go.Maps
def CodeOk (w : World) (cb : Nat) (v : Value) (n : Nat) : Prop := ∃ (a : Option Addr) (c off : Nat), v = .slice a n c ∧ n ≤ c ∧ c ≤ maxLen ∧ cb < w.heap.size ∧ (0 < n → a = some ⟨cb, off, none⟩) ∧ (a = none ∨ ∃ b o, a = some ⟨b, o, none⟩) ∧ ∀ i, i < n → ∃ x : Nat, x < 256 ∧ w.cell? ⟨cb, off + i, none⟩ = some (.int .u8 x)
set_option maxHeartbeats 800000 in
theorem l1Open_any (w : World) (cb n : Nat) (v : Value) (h : CodeOk w cb v n) (hn : n ≤ 1048576) :
    Calls Tryz.prog 52 #[v] w fun e w' => ∃ N, e = .returned (.pointer (some ⟨N, 0, none⟩)) ∧ w.heap.size ≤ N ∧ RdOk w' N cb 0 ∧ Below w.heap.size w w' := by
  obtain ⟨a, c, off, rfl, hc, hm, hcb, ha, ha2, hx⟩ := h
  unfold maxLen at hm
  have key : ∀ k, k ≤ n → k ≤ 2000 → ∀ c', RdOk (w.alloc (.cells #[.slice a k c', .int .i64 0] 134)) w.heap.size cb 0 := fun k hk hk2 c' =>
    ⟨0, k, c', a, off, Nat.le_refl _, hk2, by omega, block_new _ _ rfl, by simp; omega, fun h => ha (by omega), fun i hi => by
      obtain ⟨x, h1, h2⟩ := hx i (by omega)
      exact ⟨x, h1, ((below_box w _).cell (p := ⟨cb, off + i, none⟩) hcb).trans h2⟩⟩
  have HK := hid_of key
  clear key hx
  by_cases h2 : 2000 < n
  · obtain rfl := ha (by omega)
    have h2' : (2000 : Int) < (n : Int) := by omega
    have h3 : (2000 : Int) ≤ (c : Int) := by omega
    go_enter Tryz.func52, Tryz.ntmps52
    go_wp2_with fail
    go_ret
    exact ⟨_, rfl, Nat.le_refl _, HK.out 2000 (by omega) (by omega) _, below_box _ _⟩
  · have h2' : ¬ (2000 : Int) < (n : Int) := by omega
    go_enter Tryz.func52, Tryz.ntmps52
    go_wp2_with fail
    go_ret
    exact ⟨_, rfl, Nat.le_refl _, HK.out n (by omega) (by omega) _, below_box _ _⟩
set_option maxHeartbeats 800000 in
theorem of_any (w : World) (rb cb q : Nat) (ns : List ByteArray) (a : Option Addr) (c : Nat) (P : Nat → Prop) (hR : RdOk w rb cb q) (hq : q ≤ 1000000) (hS : Strs w P ns a) (hP : ∀ b, P b → b < w.heap.size ∧ b ≠ rb) (h0 : 0 < ns.length) (hl : ns.length ≤ 1000) :
    Calls Tryz.prog 57 #[.pointer (some ⟨rb, 0, none⟩), .slice a ns.length c] w fun e w' => ∃ k, k < ns.length ∧ e = .returned (.string (nth ns k)) ∧ RdOk w' rb cb (q + 1) ∧ Only (· = rb) w w' ∧ w'.heap.size = w.heap.size := by
  obtain ⟨b, off, rfl, hb, hc⟩ := hS.1 (by intro e; rw [e] at h0; simp at h0)
  have HP := hid_of (pick_any w rb cb q ns.length hR hq (by omega) (by omega))
  have HC := hid_of hc
  have HB := hid_of (hP b hb)
  clear hc hS hP
  obtain ⟨L, hL⟩ : ∃ L, L = ns.length := ⟨_, rfl⟩
  rw [← hL] at HP h0 hl ⊢
  have HL := hid_of hL
  clear hL
  go_enter Tryz.func57, Tryz.ntmps57
  go_wp2_with (go_at_call 56; refine HP.out.mono ?_; rintro e w' ⟨x, rfl, hx, hr, ho, hz⟩; have hxl : x < L := (by omega); have cx : w'.cell? ⟨b, off + x, none⟩ = some (.string (nth ns x)) := ((World.cell?_of_block (a := ⟨b, off + x, none⟩) (ho.block b HB.out.1 HB.out.2)).trans (HC.out x (by rw [← HL.out]; exact hxl))); have hxi : (x : Int) < (L : Int) := (by omega))
  go_ret
  exact ⟨x, hxl, rfl, hr, ho, hz⟩
end Go.Proofs.YtokmgbidmnanpaaGreatDoor
namespace Go.Proofs.YtokmgbidmnanpaaGreatDoor
open Go.RowKit Go.Maps
section
variable {w : World} {rb cb XB : Nat} {wx wy : World} {σ σ' : Sh} {B B' : Bd} {q q' : Nat} {s : ByteArray} {tb len cap N : Nat} {cs : Array Value} {T : TypeId}
end
structure Laid (w w' : World) (σ : Sh) (B : Bd) (s : ByteArray) (tb off len c' cap : Nat) : Prop where
  wf : Wf w' σ B
  new : ∀ b T m, σ b = some (T, m) → w.heap.size ≤ b
  blk : σ tb = some (52, cap)
  inn : off + len ≤ cap
  few : len ≤ 115
  le : len ≤ c'
  nn : B.nn ≤ 2
  nf : B.nf ≤ 121
  sm : s.size ≤ 12
theorem Laid.keep {w w' w'' : World} {σ : Sh} {B : Bd} {s : ByteArray} {tb off len c' cap : Nat} (h : Laid w w' σ B s tb off len c' cap) (hk : ∀ b, w.heap.size ≤ b → b < w'.heap.size → w''.heap[b]? = w'.heap[b]?) : Laid w w'' σ B s tb off len c' cap :=
  ⟨h.wf.keep fun b T m hb => hk b (h.new b T m hb) (h.wf.lt hb), h.new, h.blk, h.inn, h.few, h.le, h.nn, h.nf, h.sm⟩
theorem Laid.part {w w' : World} {σ : Sh} {B : Bd} {s : ByteArray} {tb off len c' cap : Nat} (h : Laid w w' σ B s tb off len c' cap) :
    ∃ p : Pt, PRep w' (· < w'.heap.size) p (.agg #[.string s, .slice (some ⟨tb, off * 3, none⟩) len c']) ∧ szP p ≤ 900000 := by
  have hl := h.few
  have hnn := h.nn
  have hnf := h.nf
  obtain ⟨ts, hts, hP, -, hz, -⟩ := h.wf.types (off := off) (len := len) (c' := c') h.blk h.inn (by omega) h.le (by omega) (by omega) s h.sm
  refine ⟨⟨s, ts⟩, hP, Nat.le_trans hz ?_⟩
  have h1 : (25 + 13 * B.nn) * B.nf ≤ 51 * 121 := Nat.mul_le_mul (by omega) hnf
  have h2 : (25 + (25 + 13 * B.nn) * B.nf) * len ≤ (25 + 51 * 121) * 115 := Nat.mul_le_mul (by omega) hl
  omega
end Go.Proofs.YtokmgbidmnanpaaGreatDoor
namespace Go.Proofs.YtokmgbidmnanpaaGreatDoor
open Go.RowKit Go.Maps
def NoText (w : World) (Q : Nat → Prop) : Prop := ∀ b, Q b → ∀ o s, w.cell? ⟨b, o, none⟩ ≠ some (.string s)
theorem Strs.avoid {w : World} {P Q : Nat → Prop} {ns : List ByteArray} {a : Option Addr} (h : Strs w P ns a) (hr : NoText w Q) : Strs w (fun b => P b ∧ ¬ Q b) ns a :=
  ⟨fun hn => by
    obtain ⟨b, off, e, hb, hc⟩ := h.1 hn
    exact ⟨b, off, e, ⟨hb, fun hq => hr _ hq _ _ (hc 0 (List.length_pos_iff.2 hn))⟩, hc⟩, h.2⟩
theorem FRep.avoid {w : World} {P Q : Nat → Prop} {f : F} {v : Value} (h : FRep w P f v) (hr : NoText w Q) : FRep w (fun b => P b ∧ ¬ Q b) f v := by
  obtain ⟨na, nc, h1, h2, h3⟩ := h
  exact ⟨na, nc, h1, h2.avoid hr, h3⟩
theorem FsRep.avoid {w : World} {P Q : Nat → Prop} {fs : List F} {a : Option Addr} (h : FsRep w P fs a) (hr : NoText w Q) : FsRep w (fun b => P b ∧ ¬ Q b) fs a := by
  obtain ⟨h0, C, hA, hR⟩ := h
  refine ⟨h0, C, fun hn => ?_, fun i hi => (hR i hi).avoid hr⟩
  obtain ⟨b, off, e, hb, hc⟩ := hA hn
  refine ⟨b, off, e, ⟨hb, fun hq => ?_⟩, hc⟩
  obtain ⟨na, nc, e1, -⟩ := hR 0 hn
  simp only [Value.agg.injEq, Array.mk.injEq, List.cons.injEq, and_true] at e1
  have := hc 0 hn 0 (by omega)
  rw [e1.1] at this
  exact hr _ hq _ _ this
theorem TRep.avoid {w : World} {P Q : Nat → Prop} {t : T} {v : Value} (h : TRep w P t v) (hr : NoText w Q) : TRep w (fun b => P b ∧ ¬ Q b) t v := by
  obtain ⟨fa, fc, h1, h2, h3⟩ := h
  exact ⟨fa, fc, h1, h2.avoid hr, h3⟩
theorem PRep.avoid {w : World} {P Q : Nat → Prop} {p : Pt} {v : Value} (h : PRep w P p v) (hr : NoText w Q) : PRep w (fun b => P b ∧ ¬ Q b) p v := by
  obtain ⟨ta, tc, h1, ⟨h0, C, hA, hR⟩, h3⟩ := h
  refine ⟨ta, tc, h1, ⟨h0, C, fun hn => ?_, fun i hi => (hR i hi).avoid hr⟩, h3⟩
  obtain ⟨b, off, e, hb, hc⟩ := hA hn
  refine ⟨b, off, e, ⟨hb, fun hq => ?_⟩, hc⟩
  obtain ⟨fa, fc, e1, -⟩ := hR 0 hn
  simp only [Value.agg.injEq, Array.mk.injEq, List.cons.injEq, and_true] at e1
  have := hc 0 hn 0 (by omega)
  rw [e1.1] at this
  exact hr _ hq _ _ this
def blank (w : World) (N : Nat) : World := { w with heap := w.heap.mapIdx fun i o => if i < N then .cells #[] 0 else o }
theorem blank_at (w : World) (N k : Nat) (h : N ≤ k) : (blank w N).heap[k]? = w.heap[k]? := by
  have : ¬ k < N := by omega
  simp [blank, Array.getElem?_mapIdx, this]
theorem blank_none (w : World) (N : Nat) : NoText (blank w N) (· < N) := fun b hb o s hc => by
  have hb' : b < N := hb
  unfold World.cell? at hc
  rcases h : w.heap[b]? with _ | x
  · simp [blank, Array.getElem?_mapIdx, h] at hc
  · simp [blank, Array.getElem?_mapIdx, h, hb'] at hc
theorem blank_size (w : World) (N : Nat) : (blank w N).heap.size = w.heap.size := by simp [blank]
theorem Laid.partN {w w' : World} {σ : Sh} {B : Bd} {s : ByteArray} {tb off len c' cap : Nat} (h : Laid w w' σ B s tb off len c' cap) :
    ∃ p : Pt, PRep w' (fun b => w.heap.size ≤ b ∧ b < w'.heap.size) p (.agg #[.string s, .slice (some ⟨tb, off * 3, none⟩) len c']) ∧ szP p ≤ 900000 := by
  have hB : Laid w (blank w' w.heap.size) σ B s tb off len c' cap := h.keep fun b h1 _ => blank_at _ _ _ h1
  obtain ⟨p, hP, hz⟩ := hB.part
  refine ⟨p, ((hP.avoid (blank_none w' w.heap.size)).mono fun k hk => ?_).sub fun b hb => ?_, hz⟩
  · have : ¬ k < w.heap.size := hk.2
    exact (blank_at _ _ _ (by omega)).symm
  · have h1 : ¬ b < w.heap.size := hb.2
    have h2 : b < (blank w' w.heap.size).heap.size := hb.1
    rw [blank_size] at h2
    exact ⟨by omega, h2⟩
end Go.Proofs.YtokmgbidmnanpaaGreatDoor
namespace Go.Proofs.YtokmgbidmnanpaaGreatDoor
open Go.RowKit Go.Maps
theorem byte_text (W : World) (b : Nat) (v : Nat) (hv : v < 256) (hb : W.cell? ⟨b, 0, none⟩ = some (.int .u8 (v : Int))) :
    Sem.run Tryz.prog (convert 22 9 (.slice (some ⟨b, 0, none⟩) 1 1)) W = .ok (.string ⟨#[UInt8.ofNat v]⟩) W :=
  run_convert_bytes_back (P := Tryz.prog) W 22 9 5 ⟨b, 0, none⟩ 1 [UInt8.ofNat v] Tryz.underlying22 Tryz.underlying5 Tryz.underlying9 (fun j hj => by
    have hj0 : j = 0 := by simpa using hj
    subst hj0
    have hd : (UInt8.ofNat v).toNat = v := by rw [UInt8.toNat_ofNat']; omega
    simp only [List.getElem_cons_zero, hd]
    simpa [Addr.add] using hb)
set_option maxHeartbeats 800000 in
theorem l1Dec_small (n : Nat) (w : World) (h10 : n < 10) : Calls Tryz.prog 88 #[.int .i64 n] w fun e w' => ∃ s : ByteArray, e = .returned (.string s) ∧ s.size = 1 ∧ Below w.heap.size w w' := by
  have hn0 : ¬ (n : Int) < 0 := by omega
  have hn1 : ¬ (n : Int) < -9223372036854775807 := by omega
  have hi10 : (n : Int) < 10 := by omega
  have hw8 : IntKind.u8.wrap (48 + (n : Int)) = 48 + (n : Int) := by have : IntKind.u8.wrap (48 + (n : Int)) = (48 + (n : Int)) % 256 := rfl; omega
  have hcv := byte_text (w.alloc (.cells #[.int .u8 (48 + (n : Int))] 5)) w.heap.size (48 + n) (by omega) (by simp [go_sem])
  generalize UInt8.ofNat (48 + n) = dg at hcv
  go_enter Tryz.func88, Tryz.ntmps88
  go_wp2_with fail
  go_ret
  exact ⟨_, rfl, rfl, below_box w _⟩
structure Pv where
  s : ByteArray
  b : Nat
  len : Nat
  cap : Nat
def Pv.val (p : Pv) : Value := .agg #[.string p.s, .slice (some ⟨p.b, 0, none⟩) p.len p.cap]
def flatP : List Pv → List Value
  | [] => []
  | p :: r => .string p.s :: .slice (some ⟨p.b, 0, none⟩) p.len p.cap :: flatP r
theorem flatP_len : ∀ ps : List Pv, (flatP ps).length = ps.length * 2
  | [] => rfl
  | p :: r => by simp only [flatP, List.length_cons, flatP_len r]; omega
theorem flatP_app : ∀ (ps : List Pv) (p : Pv), flatP (ps ++ [p]) = flatP ps ++ [.string p.s, .slice (some ⟨p.b, 0, none⟩) p.len p.cap]
  | [], p => rfl
  | q :: r, p => by simp only [List.cons_append, flatP, flatP_app r p]
theorem flatP_at : ∀ (ps : List Pv) (i : Nat) (h : i < ps.length), (flatP ps)[i * 2]? = some (.string ps[i].s) ∧ (flatP ps)[i * 2 + 1]? = some (.slice (some ⟨ps[i].b, 0, none⟩) ps[i].len ps[i].cap)
  | p :: r, 0, _ => ⟨rfl, rfl⟩
  | p :: r, i + 1, h => by
    have := flatP_at r i (by simpa using h)
    rw [show (i + 1) * 2 = i * 2 + 1 + 1 by omega]
    simpa only [flatP, List.getElem?_cons_succ, List.getElem_cons_succ] using this
theorem flatP_set : ∀ (ps : List Pv) (i : Nat) (p : Pv), i < ps.length → ((flatP ps).set (i * 2) (.string p.s)).set (i * 2 + 1) (.slice (some ⟨p.b, 0, none⟩) p.len p.cap) = flatP (ps.set i p)
  | q :: r, 0, p, _ => rfl
  | q :: r, i + 1, p, h => by
    have := flatP_set r i p (by simpa using h)
    rw [show (i + 1) * 2 = i * 2 + 1 + 1 by omega]
    simp only [flatP, List.set_cons_succ, this]
def PvOk (σ : Sh) (B : Bd) (p : Pv) : Prop := p.s.size ≤ 12 ∧ 1 ≤ p.len ∧ p.len ≤ B.nt ∧ p.len ≤ p.cap ∧ p.cap ≤ maxLen ∧ σ p.b = some (52, p.cap)
theorem PvOk.ext {σ σ' : Sh} {B B' : Bd} {p : Pv} (h : PvOk σ B p) (he : Ext σ σ') (hB : B.nt ≤ B'.nt) : PvOk σ' B' p := ⟨h.1, h.2.1, by have := h.2.2.1; omega, h.2.2.2.1, h.2.2.2.2.1, he _ _ _ h.2.2.2.2.2⟩
def bdP (c : Nat) : Bd := ⟨1 + 2 * c, 7 + 2 * c, 1, true⟩
theorem bdP_more (c : Nat) : ((bdP c).more 2).le (bdP (c + 1)) := ⟨by simp only [bdP, Bd.more]; omega, by simp only [bdP, Bd.more]; omega, Nat.le_refl _, id⟩
structure PSt (w : World) (rb cb n : Nat) (wx : World) (σ : Sh) (c q pb pc : Nat) (ps : List Pv) : Prop where
  rd : RdOk wx rb cb q
  wf : Wf wx σ (bdP c)
  new : ∀ b T m, σ b = some (T, m) → w.heap.size ≤ b
  own : wx.ownsRow w.heap.size 43 2 (.slice (some ⟨pb, 0, none⟩) n pc) n (flatP ps)
  len : ps.length = n
  ok : ∀ p ∈ ps, PvOk σ (bdP c) p
  npb : σ pb = none
  only : Only (· = rb) w wx
  rlt : rb < w.heap.size
  clt : cb < w.heap.size
theorem PSt.plt {w : World} {rb cb n : Nat} {wx : World} {σ : Sh} {c q pb pc : Nat} {ps : List Pv} (h : PSt w rb cb n wx σ c q pb pc ps) : w.heap.size ≤ pb ∧ pb < wx.heap.size := h.own.lt pb rfl
theorem PSt.move {w : World} {rb cb n : Nat} {wx wy : World} {σ : Sh} {c q q' pb pc : Nat} {ps : List Pv} (h : PSt w rb cb n wx σ c q pb pc ps) (hr : RdOk wy rb cb q') (ho : Only (· = rb) wx wy) : PSt w rb cb n wy σ c q' pb pc ps := by
  have hp := h.plt
  have hk : ∀ x, x < wx.heap.size → x ≠ rb → wy.heap[x]? = wx.heap[x]? := fun x hx hn => ho.block x hx hn
  refine ⟨hr, h.wf.keep fun b T m hb => hk b (h.wf.lt hb) (by have := h.new b T m hb; have := h.rlt; omega), h.new, ?_, h.len, h.ok, h.npb, h.only.trans ho fun _ _ q => q, h.rlt, h.clt⟩
  refine ⟨h.own.1, h.own.2.imp id ?_⟩
  rintro ⟨g, cap, cur, e, hg, hh, hr⟩
  cases e
  exact ⟨pb, pc, cur, rfl, hg, (hk pb hp.2 (by have := h.rlt; omega)).trans hh, hr⟩
theorem PSt.below {w : World} {rb cb n : Nat} {wx wy : World} {σ : Sh} {c q pb pc : Nat} {ps : List Pv} (h : PSt w rb cb n wx σ c q pb pc ps) (hb : Below wx.heap.size wx wy) : PSt w rb cb n wy σ c q pb pc ps :=
  h.move (h.rd.only (Only.of_below (fun _ => False) hb) id id) (Only.of_below _ hb)
theorem PSt.cells {w : World} {rb cb n : Nat} {wx : World} {σ : Sh} {c q pb pc : Nat} {ps : List Pv} (h : PSt w rb cb n wx σ c q pb pc ps) (i : Nat) (hi : i < n) : ∃ p : Pv, PvOk σ (bdP c) p ∧ wx.cell? ⟨pb, i * 2, none⟩ = some (.string p.s) ∧ wx.cell? ⟨pb, i * 2 + 1, none⟩ = some (.slice (some ⟨p.b, 0, none⟩) p.len p.cap) ∧ wx.frozen? ⟨pb, i * 2, none⟩ = false ∧ wx.frozen? ⟨pb, i * 2 + 1, none⟩ = false := by
  have hl : i < ps.length := by rw [h.len]; exact hi
  have hf := flatP_at ps i hl
  have hc := h.own.cells (g := pb) rfl
  have h0 := hc _ _ hf.1
  have h1 := hc _ _ hf.2
  rw [Addr.add_lit, Nat.zero_add] at h0 h1
  have hfz : ∀ j, wx.frozen? ⟨pb, j, none⟩ = false := fun j => by
    rcases h.own.2 with ⟨e, -⟩ | ⟨g, cap, cur, e, -, hh, -⟩
    · cases e
    · cases e; simp [World.frozen?, hh]
  exact ⟨ps[i], h.ok _ (List.getElem_mem hl), h0, h1, hfz _, hfz _⟩
theorem PSt.give {w : World} {rb cb n : Nat} {wx wy : World} {σ σ' : Sh} {c q pb pc i : Nat} {ps : List Pv} (h : PSt w rb cb n wx σ c q pb pc ps) (hi : i < n) (p : Pv) (hW : Wf wy σ' ((bdP c).more 2)) (he : Ext σ σ') (hs : ∀ x, x < wx.heap.size → σ' x = σ x) (ho : Only (Hot σ) wx wy) (hp : PvOk σ' (bdP (c + 1)) p) :
    PSt w rb cb n ((wy.setCell ⟨pb, i * 2, none⟩ (.string p.s)).setCell ⟨pb, i * 2 + 1, none⟩ (.slice (some ⟨p.b, 0, none⟩) p.len p.cap)) σ' (c + 1) q pb pc (ps.set i p) := by
  have hpl := h.plt
  have hz := ho.size
  have hrl := h.rlt
  have hcl := h.clt
  have hwx := h.only.size
  have nh : ∀ x, x < w.heap.size → ¬ Hot σ x := fun x hx ⟨T, m, hT, _⟩ => by have := h.new x T m hT; omega
  have nhp : ¬ Hot σ pb := fun ⟨T, m, hT, _⟩ => by rw [h.npb] at hT; cases hT
  have npb' : σ' pb = none := by rw [hs pb hpl.2]; exact h.npb
  have hset : ∀ x, x ≠ pb → ((wy.setCell ⟨pb, i * 2, none⟩ (.string p.s)).setCell ⟨pb, i * 2 + 1, none⟩ (.slice (some ⟨p.b, 0, none⟩) p.len p.cap)).heap[x]? = wy.heap[x]? := fun x hx => by rw [Below.heap_setCell _ _ _ _ hx, Below.heap_setCell _ _ _ _ hx]
  have hsz : ((wy.setCell ⟨pb, i * 2, none⟩ (.string p.s)).setCell ⟨pb, i * 2 + 1, none⟩ (.slice (some ⟨p.b, 0, none⟩) p.len p.cap)).heap.size = wy.heap.size := by rw [size_set, size_set]
  have hold : ∀ x, x < w.heap.size → ((wy.setCell ⟨pb, i * 2, none⟩ (.string p.s)).setCell ⟨pb, i * 2 + 1, none⟩ (.slice (some ⟨p.b, 0, none⟩) p.len p.cap)).heap[x]? = wx.heap[x]? := fun x hx => by rw [hset x (by omega), ho.block x (by omega) (nh x hx)]
  refine ⟨h.rd.keep (hold rb hrl) (hold cb hcl) (by rw [hsz]; exact hz), (hW.le (bdP_more c)).keep fun b T m hb => hset b (fun e => by subst e; rw [npb'] at hb; cases hb), fun b T m hb => ?_, ?_, by rw [List.length_set]; exact h.len, fun x hx => ?_, npb', ?_, hrl, hcl⟩
  · rcases Nat.lt_or_ge b wx.heap.size with hlt | hge
    · rw [hs b hlt] at hb; exact h.new b T m hb
    · omega
  · refine ⟨by rw [flatP_len, List.length_set, h.len], ?_⟩
    rcases h.own.2 with ⟨e, -⟩ | ⟨g, cap, cur, e, hg, hh, h1, h2, h3, h4⟩
    · cases e
    · cases e
      have hy : wy.heap[pb]? = some (.cells cur 43 (0, 0)) := (ho.block pb hpl.2 nhp).trans hh
      refine Or.inr ⟨pb, pc, _, rfl, hg, set_box (set_box hy _ _) _ _, h1, h2, by simpa using h3, ?_⟩
      rw [Array.toList_setIfInBounds, Array.toList_setIfInBounds, List.take_set, List.take_set, h4]
      exact flatP_set ps i p (by rw [h.len]; exact hi)
  · rcases List.mem_or_eq_of_mem_set hx with hx | rfl
    · exact (h.ok x hx).ext he (by simp only [bdP]; omega)
    · exact hp
  · exact ⟨ho.os.trans h.only.os, ho.tape.trans h.only.tape, ho.output.trans h.only.output, by rw [hsz]; omega, fun b hb hn => (hold b hb).trans (h.only.block b hb hn)⟩
end Go.Proofs.YtokmgbidmnanpaaGreatDoor
namespace Go.Proofs.YtokmgbidmnanpaaGreatDoor
open Go.RowKit Go.Maps
structure LSt (w wx : World) (σ σL : Sh) (tb pb : Nat) : Prop where
  wf : Wf wx σL bdL
  blk : σL tb = some (52, 4)
  new : ∀ b T m, σL b = some (T, m) → w.heap.size ≤ b
  str : ∀ b m, σL b = some (9, m) → σ b = some (9, m)
  sep : ∀ b T m, σL b = some (T, m) → T ≠ 9 → σ b = none ∧ b ≠ pb
theorem LSt.move {w wx wy : World} {σ σL : Sh} {tb pb rb : Nat} (h : LSt w wx σ σL tb pb) (hr : rb < w.heap.size) (ho : Only (· = rb) wx wy) : LSt w wy σ σL tb pb :=
  ⟨h.wf.keep fun b T m hb => ho.block b (h.wf.lt hb) (by have := h.new b T m hb; omega), h.blk, h.new, h.str, h.sep⟩
structure FBx (w wx : World) (σ : Sh) (pb fx : Nat) (cs : Array Value) : Prop where
  box : wx.heap[fx]? = some (.cells cs 54 (0, 0))
  nil : σ fx = none
  ne : fx ≠ pb
  new : w.heap.size ≤ fx
theorem FBx.lt {w wx : World} {σ : Sh} {pb fx : Nat} {cs : Array Value} (h : FBx w wx σ pb fx cs) : fx < wx.heap.size := (Array.getElem?_eq_some_iff.1 h.box).1
theorem FBx.move {w wx wy : World} {σ : Sh} {pb fx rb : Nat} {cs : Array Value} (h : FBx w wx σ pb fx cs) (hr : rb < w.heap.size) (ho : Only (· = rb) wx wy) : FBx w wy σ pb fx cs :=
  ⟨(ho.block fx h.lt (by have := h.new; omega)).trans h.box, h.nil, h.ne, h.new⟩
theorem FBx.set {w wx : World} {σ : Sh} {pb fx : Nat} {cs : Array Value} (h : FBx w wx σ pb fx cs) (j : Nat) (v : Value) : FBx w (wx.setCell ⟨fx, j, none⟩ v) σ pb fx (cs.setIfInBounds j v) := ⟨set_box h.box j v, h.nil, h.ne, h.new⟩
theorem PSt.setF {w : World} {rb cb n : Nat} {wx : World} {σ : Sh} {c q pb pc fx : Nat} {ps : List Pv} {cs : Array Value} (h : PSt w rb cb n wx σ c q pb pc ps) (hf : FBx w wx σ pb fx cs) (j : Nat) (v : Value) : PSt w rb cb n (wx.setCell ⟨fx, j, none⟩ v) σ c q pb pc ps := by
  have hk : ∀ x, x ≠ fx → (wx.setCell ⟨fx, j, none⟩ v).heap[x]? = wx.heap[x]? := fun x hx => Below.heap_setCell _ _ _ _ hx
  have hn := hf.new
  have hr := h.rlt
  have hc := h.clt
  refine ⟨h.rd.keep (hk rb (by omega)) (hk cb (by omega)) (by rw [size_set]; exact Nat.le_refl _), h.wf.keep fun b T m hb => hk b (fun e => by subst e; rw [hf.nil] at hb; cases hb), h.new, ?_, h.len, h.ok, h.npb, h.only.set fx j (Or.inr hn) v, hr, hc⟩
  refine ⟨h.own.1, h.own.2.imp id ?_⟩
  rintro ⟨g, cap, cur, e, hg, hh, hr⟩
  cases e
  exact ⟨pb, pc, cur, rfl, hg, (hk pb (Ne.symm hf.ne)).trans hh, hr⟩
theorem LSt.setF {w wx : World} {σ σL : Sh} {tb pb fx : Nat} {cs : Array Value} (h : LSt w wx σ σL tb pb) (hf : FBx w wx σ pb fx cs) (hL : σL fx = none) (j : Nat) (v : Value) : LSt w (wx.setCell ⟨fx, j, none⟩ v) σ σL tb pb :=
  ⟨h.wf.keep fun b T m hb => Below.heap_setCell _ _ _ _ (fun e => by have e : b = fx := e; subst e; rw [hL] at hb; cases hb), h.blk, h.new, h.str, h.sep⟩
structure RSt (w : World) (rb cb n : Nat) (wx : World) (σ σL : Sh) (c q pb pc tb : Nat) (ps : List Pv) : Prop where
  p : PSt w rb cb n wx σ c q pb pc ps
  l : LSt w wx σ σL tb pb
theorem RSt.move {w : World} {rb cb n : Nat} {wx wy : World} {σ σL : Sh} {c q q' pb pc tb : Nat} {ps : List Pv} (h : RSt w rb cb n wx σ σL c q pb pc tb ps) (hr : RdOk wy rb cb q') (ho : Only (· = rb) wx wy) : RSt w rb cb n wy σ σL c q' pb pc tb ps := ⟨h.p.move hr ho, h.l.move h.p.rlt ho⟩
theorem RSt.below {w : World} {rb cb n : Nat} {wx wy : World} {σ σL : Sh} {c q pb pc tb : Nat} {ps : List Pv} (h : RSt w rb cb n wx σ σL c q pb pc tb ps) (hb : Below wx.heap.size wx wy) : RSt w rb cb n wy σ σL c q pb pc tb ps := ⟨h.p.below hb, h.l.move h.p.rlt (Only.of_below _ hb)⟩
theorem RSt.fresh {w : World} {rb cb n : Nat} {wx : World} {σ σL : Sh} {c q pb pc tb : Nat} {ps : List Pv} (h : RSt w rb cb n wx σ σL c q pb pc tb ps) {N : Nat} (hN : wx.heap.size ≤ N) : σ N = none ∧ σL N = none ∧ N ≠ pb ∧ w.heap.size ≤ N := ⟨h.p.wf.fresh hN, h.l.wf.fresh hN, by have := h.p.plt.2; omega, by have := h.p.only.size; omega⟩
theorem LSt.row {w wx : World} {σ σL : Sh} {tb pb : Nat} (h : LSt w wx σ σL tb pb) (i : Nat) (hi : i < 4) :
    ∃ (n : ByteArray) (fa : Option Addr) (fl fp : Nat), wx.cell? ⟨tb, i * 3, none⟩ = some (.string n) ∧ wx.cell? ⟨tb, i * 3 + 2, none⟩ = some (.slice fa fl fp) ∧ n.size ≤ 12 ∧ scalarB n = false ∧ fl ≤ 7 ∧ (0 < fl → ∃ b, fa = some ⟨b, 0, none⟩ ∧ fl ≤ fp ∧ σL b = some (54, fp)) := by
  obtain ⟨v0, c0, o0, -⟩ := h.wf.cell h.blk i 0 hi (by rw [wideT]; omega)
  obtain ⟨v2, c2, o2, -⟩ := h.wf.cell h.blk i 2 hi (by rw [wideT]; omega)
  rw [wideT] at c0 c2
  obtain ⟨n, rfl, z0, hsc⟩ : NmOk bdL.st v0 := by simpa [CellOk] using o0
  obtain ⟨fa, fl, fp, rfl, q1, q2, q3, q4⟩ : SlOk σL 54 bdL.nf v2 := by simpa [CellOk] using o2
  refine ⟨n, fa, fl, fp, c0, c2, z0, hsc rfl, q1, fun h0 => ?_⟩
  rcases q4 with ⟨-, h, -⟩ | ⟨b, e, hb⟩
  · omega
  · exact ⟨b, e, q2, hb⟩
theorem LSt.field {w wx : World} {σ σL : Sh} {tb pb : Nat} (h : LSt w wx σ σL tb pb) {b k fp : Nat} (hb : σL b = some (54, fp)) (hk : k < fp) :
    ∃ (fn fo : ByteArray) (l m fr hd sh : Bool) (na : Option Addr) (nl nc : Nat), wx.cell? ⟨b, k * 8, none⟩ = some (.string fn) ∧ wx.cell? ⟨b, k * 8 + 1, none⟩ = some (.string fo) ∧ wx.cell? ⟨b, k * 8 + 2, none⟩ = some (.bool l) ∧ wx.cell? ⟨b, k * 8 + 3, none⟩ = some (.bool m) ∧ wx.cell? ⟨b, k * 8 + 4, none⟩ = some (.bool fr) ∧ wx.cell? ⟨b, k * 8 + 5, none⟩ = some (.bool hd) ∧ wx.cell? ⟨b, k * 8 + 6, none⟩ = some (.bool sh) ∧ wx.cell? ⟨b, k * 8 + 7, none⟩ = some (.slice na nl nc) ∧ fn.size ≤ 12 ∧ fo.size ≤ 12 ∧ SlOk σ 9 1 (.slice na nl nc) := by
  have hc := fun j (hj : j < 8) => h.wf.cell hb k j hk (by rw [wideF]; exact hj)
  simp only [wideF] at hc
  obtain ⟨v0, c0, o0, -⟩ := hc 0 (by omega)
  obtain ⟨v1, c1, o1, -⟩ := hc 1 (by omega)
  obtain ⟨v2, c2, o2, -⟩ := hc 2 (by omega)
  obtain ⟨v3, c3, o3, -⟩ := hc 3 (by omega)
  obtain ⟨v4, c4, o4, -⟩ := hc 4 (by omega)
  obtain ⟨v5, c5, o5, -⟩ := hc 5 (by omega)
  obtain ⟨v6, c6, o6, -⟩ := hc 6 (by omega)
  obtain ⟨v7, c7, o7, -⟩ := hc 7 (by omega)
  obtain ⟨fn, rfl, z0⟩ : StOk v0 := by simpa [CellOk] using o0
  obtain ⟨fo, rfl, z1⟩ : StOk v1 := by simpa [CellOk] using o1
  obtain ⟨l, rfl⟩ : BoOk v2 := by simpa [CellOk] using o2
  obtain ⟨m, rfl⟩ : BoOk v3 := by simpa [CellOk] using o3
  obtain ⟨fr, rfl⟩ : BoOk v4 := by simpa [CellOk] using o4
  obtain ⟨hd, rfl⟩ : BoOk v5 := by simpa [CellOk] using o5
  obtain ⟨sh, rfl⟩ : BoOk v6 := by simpa [CellOk] using o6
  obtain ⟨na, nl, nc, rfl, q1, q2, q3, q4⟩ : SlOk σL 9 bdL.nn v7 := by simpa [CellOk] using o7
  exact ⟨fn, fo, l, m, fr, hd, sh, na, nl, nc, c0, c1, c2, c3, c4, c5, c6, c7, z0, z1, ⟨na, nl, nc, rfl, q1, q2, q3, q4.imp id fun ⟨x, e, hx⟩ => ⟨x, e, h.str _ _ hx⟩⟩⟩
theorem give_call {w : World} {rb cb n : Nat} {wx : World} {σ σL : Sh} {c q pb pc tb : Nat} {ps : List Pv} (h : RSt w rb cb n wx σ σL c q pb pc tb ps) (hc : c ≤ 1000) {i : Nat} (hi : i < n) {p : Pv} (hp : PvOk σ (bdP c) p) {nm fn fo : ByteArray} {l m fr hd sh : Bool} {na : Option Addr} {nl nc : Nat} (hnm : nm.size ≤ 12) (hsc : scalarB nm = false) (hfn : fn.size ≤ 12) (hfo : fo.size ≤ 12) (hsl : SlOk σ 9 1 (.slice na nl nc)) :
    Calls Tryz.prog 100 #[.agg #[.string p.s, .slice (some ⟨p.b, 0, none⟩) p.len p.cap], .string nm, .agg #[.string fn, .string fo, .bool l, .bool m, .bool fr, .bool hd, .bool sh, .slice na nl nc]] wx fun e wy => ∃ (p' : Pv) (σ' : Sh), e = .returned (.agg #[.string p'.s, .slice (some ⟨p'.b, 0, none⟩) p'.len p'.cap]) ∧ (∃ v0 v1, wy.cell? ⟨pb, i * 2, none⟩ = some v0 ∧ wy.cell? ⟨pb, i * 2 + 1, none⟩ = some v1 ∧ wy.frozen? ⟨pb, i * 2, none⟩ = false ∧ wy.frozen? ⟨pb, i * 2 + 1, none⟩ = false) ∧
      Hid (RSt w rb cb n ((wy.setCell ⟨pb, i * 2, none⟩ (.string p'.s)).setCell ⟨pb, i * 2 + 1, none⟩ (.slice (some ⟨p'.b, 0, none⟩) p'.len p'.cap)) σ' σL (c + 1) q pb pc tb (ps.set i p') ∧ (∀ fx cs, FBx w wx σ pb fx cs → FBx w ((wy.setCell ⟨pb, i * 2, none⟩ (.string p'.s)).setCell ⟨pb, i * 2 + 1, none⟩ (.slice (some ⟨p'.b, 0, none⟩) p'.len p'.cap)) σ' pb fx cs) ∧ Ext σ σ' ∧ (∀ b T m, σL b = some (T, m) → wy.heap[b]? = wx.heap[b]? ∧ b ≠ pb) ∧ (∀ fx cs, FBx w wx σ pb fx cs → wy.heap[fx]? = wx.heap[fx]?)) := by
  refine (l11Give_any wx σ (bdP c) p.s nm fn fo l m fr hd sh na nl nc p.b p.len p.cap h.p.wf hp.1 hp.2.2.2.2.2 hp.2.2.2.1 hp.2.2.2.2.1 (by have := hp.2.2.1; simp only [bdP] at this; omega) hnm hsc hfn hfo hsl (Nat.le_refl _) (by simp only [bdP]; omega) (by simp only [bdP]; omega)).mono ?_
  rintro e wy ⟨σ', b', len', cap', rfl, W', x', s', o', hl1, hl2, hlc, hcm, hb'⟩
  have hpl := h.p.plt
  have nhp : ¬ Hot σ pb := fun ⟨T, m, hT, _⟩ => by rw [h.p.npb] at hT; cases hT
  obtain ⟨p0, -, c0, c1, f0, f1⟩ := h.p.cells i hi
  have hk := o'.block pb hpl.2 nhp
  have hok : PvOk σ' (bdP (c + 1)) ⟨p.s, b', len', cap'⟩ := ⟨hp.1, by have := hp.2.1; simp only; omega, by have := hp.2.2.1; simp only [bdP] at this ⊢; omega, hlc, hcm, hb'⟩
  have hset : ∀ x, x ≠ pb → ((wy.setCell ⟨pb, i * 2, none⟩ (.string p.s)).setCell ⟨pb, i * 2 + 1, none⟩ (.slice (some ⟨b', 0, none⟩) len' cap')).heap[x]? = wy.heap[x]? := fun x hx => by rw [Below.heap_setCell _ _ _ _ hx, Below.heap_setCell _ _ _ _ hx]
  have hL : ∀ b T m, σL b = some (T, m) → ¬ Hot σ b ∧ b ≠ pb := fun b T m hb => by
    by_cases hT : T = 9
    · subst hT
      have hs := h.l.str b m hb
      exact ⟨fun ⟨T', m', h1, h2⟩ => by rw [hs] at h1; cases h1; exact h2 rfl, fun e => by subst e; rw [h.p.npb] at hs; cases hs⟩
    · have hs := h.l.sep b T m hb hT
      exact ⟨(fun ⟨T', m', h1, h2⟩ => by rw [hs.1] at h1; cases h1), hs.2⟩
  refine ⟨⟨p.s, b', len', cap'⟩, σ', rfl, ⟨_, _, (World.cell?_of_block (a := ⟨pb, i * 2, none⟩) hk).trans c0, (World.cell?_of_block (a := ⟨pb, i * 2 + 1, none⟩) hk).trans c1, (World.frozen?_of_block (a := ⟨pb, i * 2, none⟩) hk).trans f0, (World.frozen?_of_block (a := ⟨pb, i * 2 + 1, none⟩) hk).trans f1⟩, ⟨h.p.give hi ⟨p.s, b', len', cap'⟩ W' x' s' o' hok, ?_⟩, fun fx cs hf => ?_, x', fun b T m hb => ⟨o'.block b (h.l.wf.lt hb) (hL b T m hb).1, (hL b T m hb).2⟩, fun fx cs hf => o'.block fx hf.lt (fun ⟨T, m, hT, _⟩ => by rw [hf.nil] at hT; cases hT)⟩
  · exact ⟨h.l.wf.keep fun b T m hb => (hset b (hL b T m hb).2).trans (o'.block b (h.l.wf.lt hb) (hL b T m hb).1), h.l.blk, h.l.new, fun b m hb => x' _ _ _ (h.l.str b m hb), fun b T m hb hT => by rw [s' b (h.l.wf.lt hb)]; exact h.l.sep b T m hb hT⟩
  · exact ⟨(hset fx hf.ne).trans ((o'.block fx hf.lt (fun ⟨T, m, hT, _⟩ => by rw [hf.nil] at hT; cases hT)).trans hf.box), by rw [s' fx hf.lt]; exact hf.nil, hf.ne, hf.new⟩
end Go.Proofs.YtokmgbidmnanpaaGreatDoor
namespace Go.Proofs.YtokmgbidmnanpaaGreatDoor
open Go.RowKit
theorem toList_app (a b : ByteArray) : (a ++ b).toList = a.toList ++ b.toList := by
  rw [ByteArray.toList_eq, ByteArray.toList_eq, ByteArray.toList_eq, ByteArray.data_append]
  simp
set_option maxRecDepth 20000 in
set_option maxHeartbeats 1600000 in
theorem l1Dec_any : ∀ (m n : Nat) (w : World) (dd : Nat), n ≤ m → n ≤ 999999 → n < 10 ^ (dd + 1) → dd ≤ 10 →
    Calls Tryz.prog 88 #[.int .i64 n] w fun e w' => (∃ x : ByteArray, e = .returned (.string x) ∧ x.toList = decL n ∧ x.size ≤ dd + 1) ∧ Below w.heap.size w w' := by
  intro m
  induction m using Nat.strongRecOn with
  | ind m IH =>
    intro n w dd hn h9 hdd hd10
    have hn0 : ¬ (n : Int) < 0 := by omega
    have hn1 : ¬ (n : Int) < -9223372036854775807 := by omega
    by_cases h10 : n < 10
    · have HD := hid_of (decL_small h10)
      have hi10 : (n : Int) < 10 := by omega
      have hw8 : IntKind.u8.wrap (48 + (n : Int)) = 48 + (n : Int) := by have : IntKind.u8.wrap (48 + (n : Int)) = (48 + (n : Int)) % 256 := rfl; omega
      have hcv := byte_text (w.alloc (.cells #[.int .u8 (48 + (n : Int))] 5)) w.heap.size (48 + n) (by omega) (by simp [go_sem])
      generalize UInt8.ofNat (48 + n) = dg at hcv HD
      go_enter Tryz.func88, Tryz.ntmps88
      go_wp2_with fail
      go_ret
      exact ⟨⟨_, rfl, by rw [HD.out, ByteArray.toList_eq], by show 1 ≤ _; omega⟩, below_box w _⟩
    · obtain ⟨dd, rfl⟩ : ∃ d, dd = d + 1 := ⟨dd - 1, by
        rcases Nat.eq_zero_or_pos dd with h | h
        · subst h; simp at hdd; omega
        · omega⟩
      have HDB := hid_of (decL_big h10)
      have hi10 : ¬ (n : Int) < 10 := by omega
      have hIH := fun W => IH (n / 10) (by omega) (n / 10) W dd (Nat.le_refl _) (by omega) (by rw [Nat.pow_succ] at hdd; omega) (by omega)
      simp only [Int.natCast_ediv, Int.cast_ofNat_Int] at hIH
      have HIH := hid_of hIH
      have HCV : Hid (∀ W b, W.cell? ⟨b, 0, none⟩ = some (.int .u8 (48 + (n : Int) % 10)) → Sem.run Tryz.prog (convert 22 9 (.slice (some ⟨b, 0, none⟩) 1 1)) W = .ok (.string ⟨#[UInt8.ofNat (48 + n % 10)]⟩) W) := hid_of fun W b hb => byte_text W b (48 + n % 10) (by omega) (by rw [hb]; congr 2)
      generalize hdg : UInt8.ofNat (48 + n % 10) = dg at HCV HDB
      have hsd : (⟨#[dg]⟩ : ByteArray).size = 1 := rfl
      have ht : (n : Int).tmod 10 = (n : Int) % 10 := Int.tmod_eq_emod_of_nonneg (by omega)
      have hw1 : IntKind.i64.wrap ((n : Int) / 10) = (n : Int) / 10 := IntWalk.i64_in _ (by omega)
      have hw2 : IntKind.i64.wrap (48 + (n : Int) % 10) = 48 + (n : Int) % 10 := IntWalk.i64_in _ (by omega)
      have hw3 : IntKind.u8.wrap (48 + (n : Int) % 10) = 48 + (n : Int) % 10 := by have : IntKind.u8.wrap (48 + (n : Int) % 10) = (48 + (n : Int) % 10) % 256 := rfl; omega
      clear hIH IH
      go_enter Tryz.func88, Tryz.ntmps88
      go_wp2_with fail
      refine wp_region_held_drew (S := (fun _ => True)) (by kernel_rfl) trivial (fun hHeld => ?_)
      have bX : Below w.heap.size w w.drew := (Below.refl _ _).drew
      generalize w.drew = wD at *
      refine tkH 0 hHeld ?_
      refine tkH 1 hHeld ?_
      refine tkH 3 hHeld ?_
      refine tkH 4 hHeld ?_
      refine tkH 5 hHeld ?_
      refine tkH 6 hHeld ?_
      refine rdyH [2, 7] ?_
      refine rcH (fun K hK => ?_) ?_
      · go_simp
        refine (HIH.out wD).mono ?_
        rintro e wC ⟨⟨x, rfl, hx, hxz⟩, bC⟩
        have bX := bX.trans (bC.mono bX.size)
        have HX := hid_of hx
        have hxs : ¬ 9223372036854775807 < x.size + 1 := by omega
        clear hx
        refine hK.out _ _ trivial (fun hHeld => ?_)
        clear hK K
        try simp only [Act.put, List.setIfInBounds_toArray, List.set_cons_zero, List.set_cons_succ]
        refine rdyH [7] ?_
        refine rcH (fun K hK => ?_) AllReadyH.nil
        go_simp
        have bA := below_box wC (.cells #[.int .u8 (48 + (n : Int) % 10)] 5)
        have nA := block_new (w := wC) #[.int .u8 (48 + (n : Int) % 10)] 5 rfl
        have zA : wC.heap.size < (wC.alloc (.cells #[.int .u8 (48 + (n : Int) % 10)] 5)).heap.size := by simp
        have bX := bX.trans (bA.mono bX.size)
        refine hK.out _ _ trivial (fun hHeld => ?_)
        clear hK K
        try simp only [Act.put, List.setIfInBounds_toArray, List.set_cons_zero, List.set_cons_succ]
        generalize wC.alloc (.cells #[.int .u8 (48 + (n : Int) % 10)] 5) = wA at *
        refine rdyH [8] ?_
        refine rcH (fun K hK => ?_) AllReadyH.nil
        have hcv := HCV.out wA _ (box_at nA 0 (by simp)).1
        go_simp
        refine hK.out _ _ trivial (fun hHeld => ?_)
        clear hK K
        try simp only [Act.put, List.setIfInBounds_toArray, List.set_cons_zero, List.set_cons_succ]
        refine tkH 9 hHeld ?_
        refine tkH 10 hHeld ?_
        refine wpAnyH_done (by kernel_rfl) ?_ _
        go_wp2_with fail
        go_ret
        exact ⟨⟨x ++ ⟨#[dg]⟩, rfl, by rw [HDB.out, ← HX.out, toList_app, ByteArray.toList_eq ⟨#[dg]⟩], by rw [ByteArray.size_append, hsd]; omega⟩, bX⟩
      refine rcH (fun K hK => ?_) AllReadyH.nil
      go_simp
      have bA := below_box wD (.cells #[.int .u8 (48 + (n : Int) % 10)] 5)
      have nA := block_new (w := wD) #[.int .u8 (48 + (n : Int) % 10)] 5 rfl
      have zA : wD.heap.size < (wD.alloc (.cells #[.int .u8 (48 + (n : Int) % 10)] 5)).heap.size := by simp
      have bX := bX.trans (bA.mono bX.size)
      refine hK.out _ _ trivial (fun hHeld => ?_)
      clear hK K
      try simp only [Act.put, List.setIfInBounds_toArray, List.set_cons_zero, List.set_cons_succ]
      generalize wD.alloc (.cells #[.int .u8 (48 + (n : Int) % 10)] 5) = wA at *
      refine rdyH [2, 8] ?_
      refine rcH (fun K hK => ?_) ?_
      · go_simp
        refine (HIH.out wA).mono ?_
        rintro e wC ⟨⟨x, rfl, hx, hxz⟩, bC⟩
        have bX := bX.trans (bC.mono bX.size)
        have HX := hid_of hx
        have hxs : ¬ 9223372036854775807 < x.size + 1 := by omega
        clear hx
        have nA := (bC.block _ zA).trans nA
        have zA := Nat.lt_of_lt_of_le zA bC.size
        refine hK.out _ _ trivial (fun hHeld => ?_)
        clear hK K
        try simp only [Act.put, List.setIfInBounds_toArray, List.set_cons_zero, List.set_cons_succ]
        refine rdyH [8] ?_
        refine rcH (fun K hK => ?_) AllReadyH.nil
        have hcv := HCV.out wC _ (box_at nA 0 (by simp)).1
        go_simp
        refine hK.out _ _ trivial (fun hHeld => ?_)
        clear hK K
        try simp only [Act.put, List.setIfInBounds_toArray, List.set_cons_zero, List.set_cons_succ]
        refine tkH 9 hHeld ?_
        refine tkH 10 hHeld ?_
        refine wpAnyH_done (by kernel_rfl) ?_ _
        go_wp2_with fail
        go_ret
        exact ⟨⟨x ++ ⟨#[dg]⟩, rfl, by rw [HDB.out, ← HX.out, toList_app, ByteArray.toList_eq ⟨#[dg]⟩], by rw [ByteArray.size_append, hsd]; omega⟩, bX⟩
      refine rcH (fun K hK => ?_) AllReadyH.nil
      have hcv := HCV.out wA _ (box_at nA 0 (by simp)).1
      go_simp
      refine hK.out _ _ trivial (fun hHeld => ?_)
      clear hK K
      try simp only [Act.put, List.setIfInBounds_toArray, List.set_cons_zero, List.set_cons_succ]
      refine rdyH [2] ?_
      refine rcH (fun K hK => ?_) AllReadyH.nil
      go_simp
      refine (HIH.out wA).mono ?_
      rintro e wC ⟨⟨x, rfl, hx, hxz⟩, bC⟩
      have bX := bX.trans (bC.mono bX.size)
      have HX := hid_of hx
      have hxs : ¬ 9223372036854775807 < x.size + 1 := by omega
      clear hx
      have nA := (bC.block _ zA).trans nA
      have zA := Nat.lt_of_lt_of_le zA bC.size
      refine hK.out _ _ trivial (fun hHeld => ?_)
      clear hK K
      try simp only [Act.put, List.setIfInBounds_toArray, List.set_cons_zero, List.set_cons_succ]
      refine tkH 9 hHeld ?_
      refine tkH 10 hHeld ?_
      refine wpAnyH_done (by kernel_rfl) ?_ _
      go_wp2_with fail
      go_ret
      exact ⟨⟨x ++ ⟨#[dg]⟩, rfl, by rw [HDB.out, ← HX.out, toList_app, ByteArray.toList_eq ⟨#[dg]⟩], by rw [ByteArray.size_append, hsd]; omega⟩, bX⟩
end Go.Proofs.YtokmgbidmnanpaaGreatDoor
namespace Go.Proofs.YtokmgbidmnanpaaGreatDoor
open Go.RowKit Go.Maps
theorem of_block (W : World) (rb cb q g : Nat) (hR : RdOk W rb cb q) (hq : q ≤ 100000) (ns : List ByteArray) (h0 : 0 < ns.length) (hl : ns.length ≤ 10) (hs : ∀ s ∈ ns, s.size ≤ 12) (hb : W.heap[g]? = some (.cells (ns.map Value.string).toArray 9 (0, 0))) (hg : g ≠ rb) :
    Calls Tryz.prog 57 #[.pointer (some ⟨rb, 0, none⟩), .slice (some ⟨g, 0, none⟩) ns.length ns.length] W fun e w' => ∃ s : ByteArray, e = .returned (.string s) ∧ s.size ≤ 12 ∧ RdOk w' rb cb (q + 1) ∧ Only (· = rb) W w' := by
  have hn : ∀ i, i < ns.length → (nth ns i) ∈ ns := fun i hi => by simp [nth, List.getD_eq_getElem?_getD, hi]
  have hS : Strs W (· = g) ns (some ⟨g, 0, none⟩) := by
    refine ⟨fun _ => ⟨_, 0, rfl, rfl, fun i hi => ?_⟩, fun i => ?_, by unfold maxLen; omega⟩
    · rw [Nat.zero_add, cell_of_row _ _ _ _ _ _ hb]
      simp [nth, List.getD_eq_getElem?_getD, hi]
    · by_cases hi : i < ns.length
      · have := hs _ (hn i hi); unfold maxLen; omega
      · simp [nth, List.getD_eq_getElem?_getD, hi]
  refine (of_any W rb cb q ns _ ns.length (· = g) hR (by omega) hS (fun b hb' => by have hb' : b = g := hb'; subst hb'; exact ⟨(Array.getElem?_eq_some_iff.1 hb).1, hg⟩) h0 (by omega)).mono ?_
  rintro e w' ⟨k, hk, rfl, h1, h2, h3⟩
  exact ⟨_, rfl, hs _ (hn k hk), h1, h2⟩
end Go.Proofs.YtokmgbidmnanpaaGreatDoor
namespace Go.Proofs.YtokmgbidmnanpaaGreatDoor
open Go.RowKit Go.Deep Go.ChangeShapes Go.WideShapes
theorem Tryz.cells5 : Tryz.prog.cellsOf 5 = 1 := by kernel_rfl
theorem Tryz.bytes5 : Tryz.prog.bytesOf 5 = 1 := by kernel_rfl
section
variable {H : Type} {enc : TypeId × Value → H} {w : World}
set_option maxRecDepth 20000 in
theorem slice_form {b0 : Nat} {v : Value} (hv : Value.okWide Tryz.prog w .any b0 22 v) (a : Option Addr) (n c : Nat) (hf : v = .slice a n c) : a = none ∨ ∃ b o, a = some ⟨b, o, none⟩ := by
  subst hf
  rcases a with _ | ⟨b, o, s⟩
  · exact Or.inl rfl
  · right
    simp only [Value.okWide, Tryz.underlying22, Cell.okWide, Cell.ok, World.has] at hv
    obtain ⟨-, -, -, h, -⟩ := hv
    exact ⟨b, o, by rw [h]⟩
set_option maxRecDepth 20000 in
theorem code_open {fuel b0 : Nat} {c : Value} {x : DataW H × List MemPlace} (h : DataW.trod enc Tryz.prog w 0 (fun _ => true) true fuel 22 [c] = some x) (hl : Light 22 x.1) (hv : Value.okWide Tryz.prog w .any b0 22 c) (hpos : 0 < w.heap.size) :
    ∃ (n cap cb : Nat) (a : Option Addr), c = .slice a n cap ∧ CodeOk w cb c n := by
  have hcap : ∀ a n cap, c = .slice a n cap → cap ≤ maxLen := fun a n cap e => by
    subst e
    rcases DataW.trod_slice Tryz.underlying22 h with ⟨hc0, -⟩ | ⟨a', len, cap', elems, rest, n', hfu, hc0, -, -, hlc, hcm, -⟩
    · simp at hc0; omega
    · simp at hc0; omega
  obtain ⟨ns, na, nc, C, rfl, hnc, hb, hA, hr⟩ := rows_open (0 : Int) (fun n cs => cs = [.int .u8 n] ∧ (Lit.int .u8 n).wf = true) 22 5 1 1 Tryz.underlying22 Tryz.cells5 Tryz.bytes5 (by omega) h hl (fun m cs y hy _ => by
    obtain ⟨n, rfl, -, hw⟩ := DataW.trod_int Tryz.underlying5 hy
    exact ⟨rfl, n, rfl, hw⟩)
  have hform := slice_form hv na ns.length nc rfl
  have hm := hcap _ _ _ rfl
  rcases Nat.eq_zero_or_pos ns.length with h0 | h0
  · exact ⟨ns.length, nc, 0, na, rfl, na, nc, 0, rfl, hnc, hm, hpos, fun h => by omega, hform, fun i hi => by omega⟩
  · obtain ⟨b, off, e, hlt, hc⟩ := hA h0
    refine ⟨ns.length, nc, b, na, rfl, na, nc, off, rfl, hnc, hm, hlt, fun _ => e, Or.inr ⟨b, off, e⟩, fun i hi => ?_⟩
    have h1 := hc i hi 0 (by omega)
    obtain ⟨h2, hw⟩ := hr i hi
    simp only [List.range, List.range.loop, List.map_cons, List.map_nil, List.cons.injEq, and_true] at h2
    rw [h2] at h1
    have hw2 : 0 ≤ ns.getD i 0 ∧ ns.getD i 0 ≤ 255 := by
      have h3 := hw
      simp [Lit.wf] at h3
      first | exact h3 | (simp [IntKind.min, IntKind.max] at h3; omega)
    refine ⟨(ns.getD i 0).toNat, by omega, ?_⟩
    rw [Nat.mul_one, Nat.add_zero] at h1
    rw [h1, Int.toNat_of_nonneg hw2.1]
end
end Go.Proofs.YtokmgbidmnanpaaGreatDoor
