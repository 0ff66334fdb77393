import Derived.Test.YtdohgkokoicjlaaB11
import Derived.Test.YtdohgkokoicjlaaB20
import Derived.Test.YtdohgkokoicjlaaB7
import Derived.Test.YtdohgkokoicjlaaB19
import Derived.Deep.AppendLies
import Derived.Maps.AppendAt
set_option linter.unusedSimpArgs false
set_option linter.unusedVariables false
namespace Go.Proofs.Ytdohgkokoicjlaa
open Go.RowKit Go.Maps
attribute [local go_sem] Oper.semAt_some
theorem infoI : (Try.prog.info? 3).map (fun i => (i.zero, i.size, i.bytes)) = some (some (.int .i64 0), 1, 8) := by kernel_rfl
theorem getF_say (p : Pt) (nm n : ByteArray) : getF p nm n = sayF p nm n := by
  unfold getF sayF
  split
  · rfl
  · rename_i h
    rw [typeOr, if_neg h]
    rfl
theorem getB_say (p : Pt) (nm n : ByteArray) : getB p nm n = sayB p nm n := by
  unfold getB sayB
  by_cases h : 0 ≤ typeIx p nm
  · simp [h]
  · have e : fieldIx T.zero n = -1 := by simp [fieldIx, T.zero, firstTo]
    rw [typeOr, if_neg h, e]
    simp [h]
def fval (f : F) (na : Option Addr) (nc : Nat) : Value := .agg #[.string f.name, .string f.of, .bool f.list, .bool f.must, .bool f.far, .bool f.hidden, .bool f.shared, .slice na f.needs.length nc]
theorem l2Get_say (p : Pt) (nm n : ByteArray) (w : World) (B : Nat) (v : Value) (hP : PRep w (· < B) p v) (hB : B ≤ w.heap.size) :
    Calls Try.prog 53 #[v, .string nm, .string n] w fun e w' => ∃ (na : Option Addr) (nc : Nat), e = .returned (.tuple #[fval (sayF p nm n) na nc, .bool (sayB p nm n)]) ∧ Below w.heap.size w w' ∧ FRep w' (· < B) (sayF p nm n) (fval (sayF p nm n) na nc) :=
  (l2Get_any p nm n w B v hP hB).mono fun e w' h => by
    obtain ⟨n1, o1, l1, m1, f1, h1, s1, na, nc, he, hb, hf⟩ := h
    rw [getF_say] at hf
    have hf' := hf
    obtain ⟨na', nc', hv', -⟩ := hf
    rw [getF_say, getB_say] at he
    rw [hv'] at he hf'
    exact ⟨na', nc', he, hb, hf'⟩
set_option maxHeartbeats 1600000 in
theorem l6Alike_any (f g : F) (na ma : Option Addr) (nc mc : Nat) (w : World) :
    Calls Try.prog 73 #[fval f na nc, fval g ma mc] w fun e w' => e = .returned (.bool (alikeB f g)) ∧ Below w.heap.size w w' := by
  have bX := below_box2 w (.cells #[.string f.name, .string f.of, .bool f.list, .bool f.must, .bool f.far, .bool f.hidden, .bool f.shared, .slice na f.needs.length nc] 37) (.cells #[.string g.name, .string g.of, .bool g.list, .bool g.must, .bool g.far, .bool g.hidden, .bool g.shared, .slice ma g.needs.length mc] 37)
  have n0 : ((w.alloc (.cells #[.string f.name, .string f.of, .bool f.list, .bool f.must, .bool f.far, .bool f.hidden, .bool f.shared, .slice na f.needs.length nc] 37)).alloc (.cells #[.string g.name, .string g.of, .bool g.list, .bool g.must, .bool g.far, .bool g.hidden, .bool g.shared, .slice ma g.needs.length mc] 37)).heap[w.heap.size]? = some (.cells #[.string f.name, .string f.of, .bool f.list, .bool f.must, .bool f.far, .bool f.hidden, .bool f.shared, .slice na f.needs.length nc] 37 (0, 0)) := by
    rw [(below_box _ _).block _ (by simp)]
    exact block_new _ _ rfl
  have n1 : ((w.alloc (.cells #[.string f.name, .string f.of, .bool f.list, .bool f.must, .bool f.far, .bool f.hidden, .bool f.shared, .slice na f.needs.length nc] 37)).alloc (.cells #[.string g.name, .string g.of, .bool g.list, .bool g.must, .bool g.far, .bool g.hidden, .bool g.shared, .slice ma g.needs.length mc] 37)).heap[w.heap.size + 1]? = some (.cells #[.string g.name, .string g.of, .bool g.list, .bool g.must, .bool g.far, .bool g.hidden, .bool g.shared, .slice ma g.needs.length mc] 37 (0, 0)) := block_new _ _ (by simp)
  have x1 := (box_at n0 1 (by simp)).1
  have x2 := (box_at n0 2 (by simp)).1
  have x3 := (box_at n0 3 (by simp)).1
  have y1 := (box_at n1 1 (by simp)).1
  have y2 := (box_at n1 2 (by simp)).1
  have y3 := (box_at n1 3 (by simp)).1
  simp only [List.getElem_toArray, List.getElem_cons_zero, List.getElem_cons_succ] at x1 x2 x3 y1 y2 y3
  have HE : Hid (alikeB f g = ((f.of.toList == g.of.toList) && (f.list == g.list) && (f.must == g.must))) := hid_of rfl
  unfold fval
  obtain ⟨fn, fo, fl, fm, ff, fh, fs, fd⟩ := f
  obtain ⟨gn, go, gl, gm, gf, gh, gs, gd⟩ := g
  simp only at x1 x2 x3 y1 y2 y3 HE bX ⊢
  clear n0 n1
  cases h1 : (fo.toList == go.toList) <;> cases fl <;> cases gl <;> cases fm <;> cases gm
  all_goals
    go_enter Try.func73, Try.ntmps73
    go_wp2_with fail
    go_ret
    exact ⟨by rw [HE.out, h1]; rfl, bX⟩
def RowI (base : Nat) (w : World) (v : Value) (l : List Nat) : Prop := w.ownsRow base 3 1 v l.length (l.map fun (n : Nat) => Value.int .i64 (n : Int))
theorem ownersTo_len (ps : List Pt) (nm n : ByteArray) : ∀ k, (ownersTo ps nm n k).length ≤ k
  | 0 => by simp [ownersTo]
  | k + 1 => by
    have := ownersTo_len ps nm n k
    rw [ownersTo, List.length_append]
    split <;> simp <;> omega
set_option maxRecDepth 20000 in
set_option maxHeartbeats 1600000 in
theorem l6Owners_any (ps : List Pt) (nm n : ByteArray) (w : World) (B : Nat) (a : Option Addr) (c : Nat) (hR : PsRep w (· < B) ps a) (hB : B ≤ w.heap.size) :
    Calls Try.prog 31 #[.slice a ps.length c, .string nm, .string n] w fun e w' => ∃ oa oc, e = .returned (.slice oa (ownersM ps nm n).length oc) ∧ RowI w.heap.size w' (.slice oa (ownersM ps nm n).length oc) (ownersM ps nm n) ∧ Below w.heap.size w w' := by
  obtain ⟨i3, hi3, hy0, hy1, hy2⟩ := info_parts infoI
  have h40 := hR.1
  have HR := hid_of hR
  have HBL := hid_of hB
  clear hR hB
  have bX := below_box w (.cells #[] 3)
  have nX := block_new (w := w) #[] 3 rfl
  have hO : RowI w.heap.size (w.alloc (.cells #[] 3)) (.slice (some ⟨w.heap.size, 0, none⟩) 0 0) [] := ⟨rfl, Or.inr ⟨w.heap.size, 0, _, rfl, Nat.le_refl _, nX, Nat.le_refl _, by unfold maxLen; omega, rfl, rfl⟩⟩
  have HO := hid_of hO
  clear hO nX
  go_enter Try.func31, Try.ntmps31
  go_wp2_with fail
  generalize w.alloc (.cells #[] 3) = Z at *
  go_loopw [7, 8] (fun y i wr => ∃ (k : Nat) (L : List Nat) (oa : Option Addr) (oc : Nat), k ≤ ps.length ∧ y = .slice oa L.length oc ∧ i = .int .i64 k ∧ Hid (ownersTo ps nm n k = L) ∧ Hid (RowI w.heap.size wr (.slice oa L.length oc) L) ∧ Below w.heap.size w wr) (fun _ i _ => ps.length - (intOf i).toNat)
  case atStart => exact ⟨0, [], _, 0, Nat.zero_le _, rfl, rfl, hid_of rfl, HO, bX⟩
  case round =>
    obtain ⟨k, L, oa, oc, hk, rfl, rfl, HL, HRW, hb⟩ := hrel
    obtain ⟨w0, rfl⟩ : ∃ x, x = wr := ⟨wr, rfl⟩
    have zb := hb.size
    by_cases hlt : k < ps.length
    case neg =>
      have e : k = ps.length := by omega
      subst e
      go_wp2_with fail
      go_ret
      unfold ownersM
      rw [HL.out]
      exact ⟨oa, oc, rfl, HRW.out, hb⟩
    have hki : (k : Int) < (ps.length : Int) := by omega
    obtain ⟨pb, po, ta, tc, rfl, hpB, q0, q1, hP⟩ := (HR.out.under (hb.mono HBL.out)).at k hlt
    have hLl : L.length ≤ k := by rw [← HL.out]; exact ownersTo_len _ _ _ _
    have HSU : Hid (ownersTo ps nm n (k + 1) = L ++ if knowB (pth ps k) nm n = true then [k] else []) := hid_of (by rw [ownersTo, HL.out])
    have HG := hid_of (l2Get_say (pth ps k) nm n w0 B _ hP (by have := HBL.out; omega))
    clear hP
    unfold knowB at HSU
    generalize pth ps k = p at *
    generalize sayF p nm n = g at *
    generalize sayB p nm n = kn at *
    obtain ⟨gn, gof, gl, gm, gfr, gh, gs, gd⟩ := g
    simp only [fval] at HG HSU
    have HOW : Hid (∀ W, Below w0.heap.size w0 W → RowI w.heap.size W (.slice oa L.length oc) L) := hid_of fun W hW => owns_keep' HRW.out hW
    cases kn
    · have HN : Hid (ownersTo ps nm n (k + 1) = L) := hid_of (by rw [HSU.out]; simp)
      go_wp2_with (go_at_call 53; refine HG.out.mono ?_; rintro e w1 ⟨na, nc, rfl, hb1, -⟩; have b01 := fun o => hb1.trans ((below_box w1 o).mono hb1.size))
      go_roundw
      case measure => simp [intOf]; omega
      case rel => exact ⟨k + 1, L, oa, oc, by omega, by simp, by go_num, HN, hid_of (HOW.out _ (b01 _)), hb.trans ((b01 _).mono zb)⟩
    cases gfr
    rotate_left
    · have HN : Hid (ownersTo ps nm n (k + 1) = L) := hid_of (by rw [HSU.out]; simp)
      go_wp2_with (go_at_call 53; refine HG.out.mono ?_; rintro e w1 ⟨na, nc, rfl, hb1, -⟩; have b01 := fun o => hb1.trans ((below_box w1 o).mono hb1.size))
      go_roundw
      case measure => simp [intOf]; omega
      case rel => exact ⟨k + 1, L, oa, oc, by omega, by simp, by go_num, HN, hid_of (HOW.out _ (b01 _)), hb.trans ((b01 _).mono zb)⟩
    · have HN : Hid (ownersTo ps nm n (k + 1) = L ++ [k]) := hid_of (by rw [HSU.out]; simp)
      go_wp2_with (first
        | (go_at_call 53; refine HG.out.mono ?_; rintro e w1 ⟨na, nc, rfl, hb1, -⟩; have z1 := hb1.size; have b02 := fun o o' => hb1.trans ((below_box2 w1 o o').mono hb1.size))
        | (
          at_builtin
          refine wpList_append_lies _ rfl _ _ _ rfl w.heap.size 3 i3 (.int .i64 0) 1 8 Try.underlying31 hi3 hy0 hy1 hy2 rfl (by decide) (.slice oa L.length oc) L.length (L.map fun (n : Nat) => Value.int .i64 (n : Int)) rfl (HOW.out _ (b02 _ _)) ⟨w1.heap.size + 1, 0, none⟩ 1 1 [.int .i64 (k : Int)] rfl rfl (World.news_of_block (block_new _ _ (by simp))) (by intro u hu; simp at hu; subst hu; rfl) (by omega) (by unfold maxLen; omega) (by omega) (by simp; omega) _ rfl ?_
          intro g cap wP hown hgrow hat hltP
          have HN2 := hid_of (And.intro hown ((hb.trans ((b02 _ _).mono zb)).grown hgrow (by simp; omega) (fun j hj => (HRW.out.lt j hj).1)))
          clear hown hgrow hat))
      go_roundw
      case measure => simp [intOf]; omega
      case rel =>
        refine ⟨k + 1, L ++ [k], some ⟨g, 0, none⟩, cap, by omega, by simp, by go_num, HN, hid_of ?_, HN2.out.2⟩
        unfold RowI
        simp only [List.length_append, List.length_singleton, List.map_append, List.map_cons, List.map_nil]
        exact HN2.out.1
set_option maxRecDepth 20000 in
set_option maxHeartbeats 1600000 in
theorem l6Key_any (ps : List Pt) (nm : ByteArray) (w : World) (B : Nat) (a : Option Addr) (c : Nat) (hR : PsRep w (· < B) ps a) (hB : B ≤ w.heap.size) :
    Calls Try.prog 50 #[.slice a ps.length c, .string nm] w fun e w' => e = .returned (.string (keyM ps nm)) ∧ Below w.heap.size w w' := by
  have h40 := hR.1
  have HR := hid_of hR
  have HBL := hid_of hB
  clear hR hB
  go_enter Try.func50, Try.ntmps50
  go_wp2_with fail
  go_loopw [5] (fun i wr => ∃ k : Nat, k ≤ ps.length ∧ i = .int .i64 k ∧ Hid (∀ j, j < k → (!(typeOr (pth ps j) nm).key.toList.isEmpty) = false) ∧ Below w.heap.size w wr) (fun i _ => ps.length - (intOf i).toNat)
  case atStart => exact ⟨0, Nat.zero_le _, rfl, hid_of fun j hj => by omega, Below.refl _ _⟩
  case round =>
    obtain ⟨k, hk, rfl, HN, hb⟩ := hrel
    obtain ⟨w0, rfl⟩ : ∃ x, x = wr := ⟨wr, rfl⟩
    have zb := hb.size
    by_cases hlt : k < ps.length
    case neg =>
      have e : k = ps.length := by omega
      subst e
      have HE : Hid (keyM ps nm = ByteArray.empty) := hid_of (by
        have h1 : keyIx ps nm = -1 := firstTo_none HN.out
        rw [keyM, h1]; simp)
      go_wp2_with fail
      go_ret
      exact ⟨by rw [HE.out]; rfl, hb⟩
    have hki : (k : Int) < (ps.length : Int) := by omega
    obtain ⟨pb, po, ta, tc, rfl, hpB, q0, q1, hP⟩ := (HR.out.under (hb.mono HBL.out)).at k hlt
    have hT := l2Type_any (pth ps k) w0 B _ nm hP (by have := HBL.out; omega)
    have HTX : Hid (typeIx (pth ps k) nm = firstTo (fun i => (tth (pth ps k).types i).name.toList == nm.toList) (pth ps k).types.length) := hid_of rfl
    rw [← HTX.out] at hT
    rcases firstTo_cases (fun i => (tth (pth ps k).types i).name.toList == nm.toList) (pth ps k).types.length with ⟨hx, -⟩ | ⟨g, hx, hg, -, -⟩
    · rw [← HTX.out] at hx
      have HK : Hid ((!(typeOr (pth ps k) nm).key.toList.isEmpty) = false) := hid_of (by rw [typeOr, if_neg (by rw [hx]; omega)]; simp [T.zero, ByteArray.toList_eq])
      rw [hx] at hT
      have HT := hid_of hT
      clear hT hP hx
      go_wp2_with (go_at_call 46; refine HT.out.mono ?_; rintro e w1 ⟨rfl, hb1⟩)
      go_roundw
      case measure => simp [intOf]; omega
      case rel =>
        refine ⟨k + 1, by omega, by go_num, hid_of fun j hj => ?_, hb.trans (hb1.mono zb)⟩
        by_cases e : j = k
        · subst e; exact HK.out
        · exact HN.out j (by omega)
    · rw [← HTX.out] at hx
      have hto : typeOr (pth ps k) nm = tth (pth ps k).types g := by rw [typeOr, if_pos (by rw [hx]; omega), hx]; rfl
      have HTO := hid_of hto
      rw [hx] at hT
      have HT := hid_of hT
      obtain ⟨ta', tc', e, hTs, -⟩ := hP
      simp only [Value.agg.injEq, Array.mk.injEq, List.cons.injEq, Value.slice.injEq, true_and, and_true] at e
      obtain ⟨rfl, rfl⟩ := e
      obtain ⟨tb, toff, fa, fc, rfl, htr, hcs⟩ := hTs.at (by have := HBL.out; omega) g hg
      have hgi : (g : Int) < ((pth ps k).types.length : Int) := by omega
      obtain ⟨ky, hky⟩ : ∃ ky, ky = (tth (pth ps k).types g).key := ⟨_, rfl⟩
      have HC : Hid (∀ W, Below w0.heap.size w0 W → W.cell? ⟨pb, po + k * 2 + 1, none⟩ = some (.slice (some ⟨tb, toff, none⟩) (pth ps k).types.length tc) ∧ W.cell? ⟨tb, toff + g * 3 + 1, none⟩ = some (.string ky)) := hid_of fun W hW => ⟨(hW.cell (p := ⟨pb, po + k * 2 + 1, none⟩) (by show pb < _; have := HBL.out; omega)).trans q1, by rw [hky]; exact (hcs W hW).2.1⟩
      have HKY : Hid ((typeOr (pth ps k) nm).key = ky) := hid_of (by rw [HTO.out, hky])
      clear hT hx hto hTs htr hcs hky
      generalize (pth ps k).types.length = tl at *
      cases hke : ky.toList.isEmpty
      · have HE : Hid (keyM ps nm = ky) := hid_of (by
          have h1 : keyIx ps nm = k := firstTo_hit HN.out (by rw [HKY.out, hke]; rfl) hlt
          rw [keyM, h1, if_pos (by omega)]
          simpa using HKY.out)
        go_wp2_with (go_at_call 46; refine HT.out.mono ?_; rintro e w1 ⟨rfl, hb1⟩; obtain ⟨x0, x1⟩ := HC.out w1 hb1)
        go_ret
        exact ⟨by rw [HE.out] <;> rfl, hb.trans (hb1.mono zb)⟩
      · have HK : Hid ((!(typeOr (pth ps k) nm).key.toList.isEmpty) = false) := hid_of (by rw [HKY.out, hke]; rfl)
        go_wp2_with (go_at_call 46; refine HT.out.mono ?_; rintro e w1 ⟨rfl, hb1⟩; obtain ⟨x0, x1⟩ := HC.out w1 hb1)
        go_roundw
        case measure => simp [intOf]; omega
        case rel =>
          refine ⟨k + 1, by omega, by go_num, hid_of fun j hj => ?_, hb.trans (hb1.mono zb)⟩
          by_cases e : j = k
          · subst e; exact HK.out
          · exact HN.out j (by omega)
end Go.Proofs.Ytdohgkokoicjlaa
