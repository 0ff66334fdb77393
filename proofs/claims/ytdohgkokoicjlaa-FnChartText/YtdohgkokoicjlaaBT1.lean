import Derived.Test.YtdohgkokoicjlaaB39
import Derived.Test.YtdohgkokoicjlaaB13
import Derived.Test.YtdohgkokoicjlaaB31
import Derived.Deep.AppendLies
import Derived.Test.YtdohgkokoicjlaaB36
import Derived.Test.YtdohgkokoicjlaaB5
set_option linter.unusedSimpArgs false
set_option linter.unusedVariables false
namespace Go.Proofs.Ytdohgkokoicjlaa
open Go.RowKit Go.Maps
def cellF (f : F) : List Value := [.string f.name, .string f.of, .bool f.list, .bool f.must, .bool f.far, .bool f.hidden, .bool f.shared, .slice none 0 0]
def flatF : List F → List Value
  | [] => []
  | f :: r => cellF f ++ flatF r
theorem flatF_app : ∀ (a : List F) (f : F), flatF (a ++ [f]) = flatF a ++ cellF f
  | [], f => by simp [flatF]
  | x :: r, f => by rw [List.cons_append, flatF, flatF, flatF_app r f, List.append_assoc]
theorem flatF_at : ∀ (a : List F) (i j : Nat), i < a.length → j < 8 → (flatF a)[i * 8 + j]? = (cellF (fth a i))[j]?
  | [], i, j, h, _ => absurd h (Nat.not_lt_zero _)
  | x :: r, 0, j, _, hj => by
    rw [flatF, Nat.zero_mul, Nat.zero_add, List.getElem?_append_left (by simp [cellF]; omega)]
    rfl
  | x :: r, i + 1, j, h, hj => by
    have hl : (cellF x).length = 8 := rfl
    rw [flatF, List.getElem?_append_right (by rw [hl]; omega), hl, show (i + 1) * 8 + j - 8 = i * 8 + j by omega, flatF_at r i j (by simpa using h) hj]
    simp [fth]
theorem flatF_rep {W : World} {base n c : Nat} {a : Option Addr} {L : List F} (h : W.ownsRow base 37 8 (.slice a n c) L.length (flatF L)) (hl : L.length ≤ 1000000000) (hs : ∀ i, i < L.length → (fth L i).needs = [] ∧ (fth L i).name.size ≤ maxLen ∧ (fth L i).of.size ≤ maxLen) :
    n = L.length ∧ L.length ≤ c ∧ FsRep W (fun b => base ≤ b ∧ b < W.heap.size) L a := by
  have hr : ∀ i, i < L.length → FRep W (fun b => base ≤ b ∧ b < W.heap.size) (fth L i) (.agg #[.string (fth L i).name, .string (fth L i).of, .bool (fth L i).list, .bool (fth L i).must, .bool (fth L i).far, .bool (fth L i).hidden, .bool (fth L i).shared, .slice none 0 0]) := fun i hi => by
    obtain ⟨h1, h2, h3⟩ := hs i hi
    refine ⟨none, 0, by rw [h1]; rfl, ?_, by rw [h1]; exact Nat.le_refl _, h2, h3, by rw [h1]; simp⟩
    rw [h1]
    exact ⟨fun hn => absurd rfl hn, fun j => by simp [nth, maxLen], by simp [maxLen]⟩
  rcases h.2 with ⟨e, h0⟩ | ⟨g, cap, cur, e, hg, hh, hn, -⟩
  · simp only [Value.slice.injEq] at e
    obtain ⟨rfl, rfl, rfl⟩ := e
    exact ⟨h0.symm, by omega, by omega, fun i j => (cellF (fth L i)).getD j undef, fun hp => by omega, hr⟩
  · simp only [Value.slice.injEq] at e
    obtain ⟨rfl, rfl, rfl⟩ := e
    have hlt : g < W.heap.size := (Array.getElem?_eq_some_iff.1 hh).1
    refine ⟨rfl, by omega, by omega, fun i j => (cellF (fth L i)).getD j undef, fun _ => ⟨g, 0, rfl, ⟨hg, hlt⟩, fun i hi j hj => ?_⟩, hr⟩
    rw [Nat.zero_add, h.cellAt (i * 8 + j) (by omega), flatF_at L i j hi hj]
    show _ = some ((cellF (fth L i)).getD j undef)
    rw [List.getD_eq_getElem?_getD, List.getElem?_eq_getElem (by simp [cellF]; omega)]
    rfl
theorem toldFs_mem {P : F → Prop} {fs : List F} : ∀ k, (∀ j, j < k → P (toldF (fth fs j))) → ∀ i, i < (toldFs fs k).length → P (fth (toldFs fs k) i)
  | 0, _, i, hi => absurd hi (Nat.not_lt_zero _)
  | k + 1, h, i, hi => by
    have ih := toldFs_mem k fun j hj => h j (by omega)
    rw [toldFs] at hi ⊢
    cases hh : (fth fs k).hidden
    · rw [hh] at hi
      simp only [Bool.false_eq_true, if_false, List.length_append, List.length_singleton] at hi ⊢
      by_cases e : i < (toldFs fs k).length
      · rw [fth_snoc_lt _ _ _ e]; exact ih i e
      · have : i = (toldFs fs k).length := by omega
        subst this
        rw [fth_snoc_eq]
        exact h k (by omega)
    · rw [hh] at hi
      simp only [if_true, List.append_nil] at hi ⊢
      exact ih i hi
set_option maxRecDepth 20000 in
set_option maxHeartbeats 3200000 in
theorem toldFields_any (t : T) (w : World) (B : Nat) (v : Value) (hT : TRep w (· < B) t v) (hB : B ≤ w.heap.size) (hz : szT t ≤ 1048576) :
    Calls Try.prog 26 #[v] w fun e w' => ∃ (a : Option Addr) (c : Nat), e = .returned (.slice a (toldFs t.fields t.fields.length).length c) ∧ Below w.heap.size w w' ∧ (toldFs t.fields t.fields.length).length ≤ c ∧ FsRep w' (fun b => w.heap.size ≤ b ∧ b < w'.heap.size) (toldFs t.fields t.fields.length) a := by
  obtain ⟨fa, fc, rfl, hF, hfc, hs1, hs2⟩ := hT
  obtain ⟨tname, tkey, fs⟩ := t
  simp only at hF hfc hs1 hs2 ⊢
  have hfl : fs.length ≤ 1048576 := by
    have h2 : szT ⟨tname, tkey, fs⟩ = tname.size + tkey.size + (fs.length + szFsTo fs fs.length) := rfl
    omega
  obtain ⟨iF, zF, hiF, hF0, hF1, hF2, hFz⟩ := infoF_parts
  have HSM : Hid (∀ j, j < fs.length → (fth fs j).name.size ≤ maxLen ∧ (fth fs j).of.size ≤ maxLen) := hid_of fun j hj => by
    obtain ⟨-, C, -, hr⟩ := hF
    obtain ⟨_, _, _, _, _, h1, h2, _⟩ := hr j hj
    exact ⟨h1, h2⟩
  have HF : Hid (∀ W, Below w.heap.size w W → ∀ k, k < fs.length → ∃ (b off : Nat) (na : Option Addr) (nc : Nat), fa = some ⟨b, off, none⟩ ∧ W.cell? ⟨b, off + k * 8, none⟩ = some (.string (fth fs k).name) ∧ W.cell? ⟨b, off + k * 8 + 1, none⟩ = some (.string (fth fs k).of) ∧ W.cell? ⟨b, off + k * 8 + 2, none⟩ = some (.bool (fth fs k).list) ∧ W.cell? ⟨b, off + k * 8 + 3, none⟩ = some (.bool (fth fs k).must) ∧ W.cell? ⟨b, off + k * 8 + 4, none⟩ = some (.bool (fth fs k).far) ∧ W.cell? ⟨b, off + k * 8 + 5, none⟩ = some (.bool (fth fs k).hidden) ∧ W.cell? ⟨b, off + k * 8 + 6, none⟩ = some (.bool (fth fs k).shared) ∧ W.cell? ⟨b, off + k * 8 + 7, none⟩ = some (.slice na (fth fs k).needs.length nc)) := hid_of fun W hW k hk => by
    obtain ⟨b, off, na, nc, e, -, hc⟩ := hF.at hB k hk
    exact ⟨b, off, na, nc, e, hc W hW⟩
  clear hF hz
  go_enter Try.func26, Try.ntmps26
  go_wp2_with fail
  go_loopw [3, 9] (fun y i wr => ∃ (k : Nat) (L : List F) (oa : Option Addr) (oc : Nat), k ≤ fs.length ∧ y = .slice oa L.length oc ∧ i = .int .i64 k ∧ Hid (L = toldFs fs k) ∧ Hid (wr.ownsRow w.heap.size 37 8 (.slice oa L.length oc) L.length (flatF L)) ∧ Below w.heap.size w wr) (fun _ i _ => fs.length - (intOf i).toNat)
  case atStart => exact ⟨0, [], none, 0, Nat.zero_le _, rfl, rfl, hid_of rfl, hid_of (World.ownsRow_nil _ _ _ _), below_box _ _⟩
  case round =>
    obtain ⟨k, L, oa, oc, hk, rfl, rfl, HL, HR, hb⟩ := hrel
    obtain ⟨w0, rfl⟩ : ∃ x, x = wr := ⟨wr, rfl⟩
    have z0 := hb.size
    by_cases hlt : k < fs.length
    case neg =>
      have e : k = fs.length := by omega
      have hki : ¬ (k : Int) < (fs.length : Int) := by omega
      have HFIN : Hid (∃ (a : Option Addr) (c : Nat), Ending.returned (.slice oa L.length oc) = .returned (.slice a (toldFs fs fs.length).length c) ∧ Below w.heap.size w w0 ∧ (toldFs fs fs.length).length ≤ c ∧ FsRep w0 (fun b => w.heap.size ≤ b ∧ b < w0.heap.size) (toldFs fs fs.length) a) := hid_of (by
        have hL := HL.out
        rw [e] at hL
        have hlen := toldFs_len fs fs.length
        have hlen2 := seenFs_len fs fs.length
        obtain ⟨h1, h2, h3⟩ := flatF_rep HR.out (by rw [hL]; omega) (by
          rw [hL]
          exact toldFs_mem (P := fun f => f.needs = [] ∧ f.name.size ≤ maxLen ∧ f.of.size ≤ maxLen) fs.length fun j hj => ⟨rfl, HSM.out j hj⟩)
        rw [← hL]
        exact ⟨oa, oc, rfl, hb, h2, h3⟩)
      go_wp2_with fail
      go_ret
      exact HFIN.out
    case pos =>
      have hki : (k : Int) < (fs.length : Int) := by omega
      obtain ⟨b, off, na, nc, rfl, c0, c1, c2, c3, c4, c5, c6, c7⟩ := HF.out w0 hb k hlt
      have HLL : Hid (L.length ≤ 1048576) := hid_of (by rw [HL.out]; have := toldFs_len fs k; have := seenFs_len fs k; omega)
      have HSU : Hid (toldFs fs (k + 1) = L ++ if (fth fs k).hidden = true then [] else [toldF (fth fs k)]) := hid_of (by rw [HL.out]; rfl)
      generalize fth fs k = f at *
      obtain ⟨fn, fo, fl, fm, ff, fh, fsh, fnd⟩ := f
      simp only at c0 c1 c2 c3 c4 c5 c6 c7 HSU
      cases fh
      rotate_left
      · have HN : Hid (L = toldFs fs (k + 1)) := hid_of (by rw [HSU.out]; simp)
        have bX := below_box w0 (.cells #[.string fn, .string fo, .bool fl, .bool fm, .bool ff, .bool true, .bool fsh, .slice na fnd.length nc] 37)
        have HRX := hid_of (owns_keep' HR.out bX)
        go_wp2_with fail
        go_roundw
        case rel => exact ⟨k + 1, L, oa, oc, by omega, rfl, by go_num, HN, HRX, hb.trans (bX.mono z0)⟩
        case measure => simp [intOf]; omega
      · have bX := below_box w0 (.cells #[.string fn, .string fo, .bool fl, .bool fm, .bool ff, .bool false, .bool fsh, .slice na fnd.length nc] 37)
        have nX := block_new (w := w0) (N := w0.heap.size) #[.string fn, .string fo, .bool fl, .bool fm, .bool ff, .bool false, .bool fsh, .slice na fnd.length nc] 37 rfl
        have hXs : (w0.alloc (.cells #[.string fn, .string fo, .bool fl, .bool fm, .bool ff, .bool false, .bool fsh, .slice na fnd.length nc] 37)).heap.size = w0.heap.size + 1 := by simp
        have HN : Hid (toldFs fs (k + 1) = L ++ [⟨fn, fo, fl, fm, ff, false, fsh, []⟩]) := hid_of (by rw [HSU.out]; rfl)
        have nY := block_new (w := w0) (N := w0.heap.size) #[.string fn, .string fo, .bool fl, .bool fm, .bool ff, .bool false, .bool fsh, .slice none 0 0] 37 rfl
        have bY := below_box w0 (.cells #[.string fn, .string fo, .bool fl, .bool fm, .bool ff, .bool false, .bool fsh, .slice none 0 0] 37)
        have hYs : (w0.alloc (.cells #[.string fn, .string fo, .bool fl, .bool fm, .bool ff, .bool false, .bool fsh, .slice none 0 0] 37)).heap.size = w0.heap.size + 1 := by simp
        go_upto_region 7 with fail
        clear c0 c1 c2 c3 c4 c5 c6 c7
        generalize w0.alloc (.cells #[.string fn, .string fo, .bool fl, .bool fm, .bool ff, .bool false, .bool fsh, .slice none 0 0] 37) = Y at *
        have rY := owns_keep' HR.out bY
        have bA := below_box Y (.cells #[.string fn, .string fo, .bool fl, .bool fm, .bool ff, .bool false, .bool fsh, .slice none 0 0] 37)
        have nA := block_new (w := Y) (N := w0.heap.size + 1) #[.string fn, .string fo, .bool fl, .bool fm, .bool ff, .bool false, .bool fsh, .slice none 0 0] 37 hYs
        have rA := owns_keep' rY bA
        have zA : (Y.alloc (.cells #[.string fn, .string fo, .bool fl, .bool fm, .bool ff, .bool false, .bool fsh, .slice none 0 0] 37)).heap.size = Y.heap.size + 1 := by simp
        have bZ := hb.trans ((bY.trans (bA.mono (by omega))).mono z0)
        obtain ⟨y0, -⟩ := box_at nY 0 (by simp)
        obtain ⟨y1, -⟩ := box_at nY 1 (by simp)
        obtain ⟨y2, -⟩ := box_at nY 2 (by simp)
        obtain ⟨y3, -⟩ := box_at nY 3 (by simp)
        obtain ⟨y4, -⟩ := box_at nY 4 (by simp)
        obtain ⟨y5, -⟩ := box_at nY 5 (by simp)
        obtain ⟨y6, -⟩ := box_at nY 6 (by simp)
        obtain ⟨y7, -⟩ := box_at nY 7 (by simp)
        simp only [List.getElem_toArray, List.getElem_cons_zero, List.getElem_cons_succ] at y0 y1 y2 y3 y4 y5 y6 y7
        have hLL := HLL.out
        obtain ⟨n, hn⟩ : ∃ n, n = L.length := ⟨_, rfl⟩
        obtain ⟨xs, hxs⟩ : ∃ xs, xs = flatF L := ⟨_, rfl⟩
        have HEND : Hid (∀ g cap wF, wF.ownsRow w.heap.size 37 8 (.slice (some ⟨g, 0, none⟩) (n + 1) cap) (n + 1) (xs ++ [.string fn, .string fo, .bool fl, .bool fm, .bool ff, .bool false, .bool fsh, .slice none 0 0]) → (Y.alloc (.cells #[.string fn, .string fo, .bool fl, .bool fm, .bool ff, .bool false, .bool fsh, .slice none 0 0] 37)).grownBy wF (Value.slice oa n oc).ownBlock → ∃ L' : List F, n + 1 = L'.length ∧ Hid (L' = toldFs fs (k + 1)) ∧ Hid (wF.ownsRow w.heap.size 37 8 (.slice (some ⟨g, 0, none⟩) L'.length cap) L'.length (flatF L')) ∧ Below w.heap.size w wF) := hid_of fun g cap wF ho hg => by
          refine ⟨L ++ [⟨fn, fo, fl, fm, ff, false, fsh, []⟩], by rw [hn]; simp, hid_of HN.out.symm, hid_of ?_, bZ.grown hg (by omega) fun b hb => ?_⟩
          · rw [List.length_append, List.length_singleton, flatF_app, ← hn, ← hxs]
            exact ho
          · rw [hn] at hb; exact (HR.out.lt b hb).1
        rw [← hn, ← hxs] at rA
        rw [← hn] at hLL ⊢
        replace hn := hid_of hn
        replace hxs := hid_of hxs
        clear bX nX hXs nY bY rY bA bZ
        go_wp2_with (
          at_builtin
          refine wpList_append_lies _ rfl _ _ 46 rfl w.heap.size 37 iF zF 8 64 Try.underlying46 hiF hF0 hF1 hF2 hFz (by decide) (.slice oa n oc) n xs rfl rA ⟨w0.heap.size + 1, 0, none⟩ 1 1 [.string fn, .string fo, .bool fl, .bool fm, .bool ff, .bool false, .bool fsh, .slice none 0 0] rfl rfl (World.news_of_block nA) (by intro u hu; simp at hu; rcases hu with rfl | rfl | rfl | rfl | rfl | rfl | rfl | rfl <;> rfl) (by omega) (by unfold maxLen; omega) (by omega) (by omega) (w0.heap.size + 1 + 1) (by omega) ?_
          intro g cap wF ho hg hor hlt1
          obtain ⟨L', hL1, HL2, HL3, bF⟩ := HEND.out g cap wF ho hg
          clear ho hg hor)
        go_roundw
        case rel => exact ⟨k + 1, L', some ⟨g, 0, none⟩, cap, by omega, rfl, by go_num, HL2, HL3, bF⟩
        case measure => simp [intOf]; omega
end Go.Proofs.Ytdohgkokoicjlaa
namespace Go.Proofs.Ytdohgkokoicjlaa
open Go.RowKit Go.Maps
structure TolSt (X : World) (M : Nat) (nm : ByteArray) (L : List T) (wr : World) : Prop where
  ex : ∃ ov : Value, wr.heap[M]? = some (.cells #[.string nm, ov] 25 (0, 0)) ∧ TyRow wr (M + 1) (fun _ => False) L ov
  bel : Below M X wr
  lt : M < wr.heap.size
theorem TolSt.keep {X wr wy : World} {M : Nat} {nm : ByteArray} {L : List T} (h : TolSt X M nm L wr) (hb : Below wr.heap.size wr wy) : TolSt X M nm L wy := by
  obtain ⟨ov, h1, h2⟩ := h.ex
  have := h.lt
  exact ⟨⟨ov, (hb.block M this).trans h1, h2.keep (fun b hb => hb.elim) hb⟩, h.bel.trans (hb.mono (by omega)), by have := hb.size; omega⟩
theorem TolSt.push {X wx wF : World} {M : Nat} {nm : ByteArray} {L : List T} {ov : Value} (h1 : wx.heap[M]? = some (.cells #[.string nm, ov] 25 (0, 0))) (h2 : TyRow wx (M + 1) (fun _ => False) L ov) (hb : Below M X wx) (hl : M < wx.heap.size)
    (t : T) (fa : Option Addr) (fc : Nat) (lo : Nat) (hF : FsRep wx (fun b => lo ≤ b ∧ b < wx.heap.size) t.fields fa) (hlo : M < lo) (hov : ∀ b, ov.ownBlock = some b → b < lo) (hfc : t.fields.length ≤ fc) (hs1 : t.name.size ≤ maxLen) (hs2 : t.key.size ≤ maxLen)
    {v' : Value} {xs : List Value} (hxs : ∃ C, wx.ownsRow (M + 1) 48 3 ov L.length (flat3 C L.length) ∧ xs = flat3 C L.length ∧ ∀ i, i < L.length → TRep wx (Off (fun _ => False) (M + 1) wx ov) (tth L i) (.agg #[C i 0, C i 1, C i 2]))
    (ho : wF.ownsRow (M + 1) 48 3 v' (L.length + 1) (xs ++ [.string t.name, .string t.key, .slice fa t.fields.length fc])) (hg : wx.grownBy wF ov.ownBlock) (hor : v'.ownBlock = ov.ownBlock ∨ v'.ownBlock = some wx.heap.size) :
    TolSt X M nm (L ++ [t]) (wF.setCell ⟨M, 1, none⟩ v') := by
  obtain ⟨C, hr, rfl, hT⟩ := hxs
  have hMo : ∀ b, ov.ownBlock = some b → M + 1 ≤ b := fun b hb => (hr.lt b hb).1
  have hk : ∀ b, b < wx.heap.size → ov.ownBlock ≠ some b → wF.heap[b]? = wx.heap[b]? := fun b hb hn => hg.block b hb fun e => hn e.symm
  have hP := TyRow.push (P := fun _ => False) hT (fun b hb => hb.elim) (fun b hb => hb.elim) t (.string t.name) (.string t.key) (.slice fa t.fields.length fc) ⟨fa, fc, rfl, hF.sub fun b hb => Or.inr ⟨by omega, hb.2, fun e => by have := hov b e; omega⟩, hfc, hs1, hs2⟩ ho hk hg.size (fun b hb => by
    rcases hor with hor | hor
    · rw [hor] at hb; exact Or.inl hb
    · rw [hor] at hb; exact Or.inr (by have := Option.some.inj hb; omega)) hMo
  have hM : wF.heap[M]? = some (.cells #[.string nm, ov] 25 (0, 0)) := (hk M hl fun e => by have := hMo M e; omega).trans h1
  refine ⟨⟨v', by simpa using set_box hM 1 v', hP.keepB (fun b hb => Below.heap_setCell _ _ _ _ (by show b ≠ M; rcases hb with hb | hb; exact hb.elim; omega)) (by simp)⟩, ?_, ?_⟩
  · exact ((hb.grown hg (Nat.le_of_lt hl) fun k hk => by have := hMo k hk; omega)).setCell (p := ⟨M, 1, none⟩) (Nat.le_refl _) _
  · have := hg.size; simp; omega
theorem TolSt.start (w : World) (nm : ByteArray) (M : Nat) (hM : w.heap.size = M) : TolSt w M nm [] (w.alloc (.cells #[.string nm, .slice none 0 0] 25)) := by
  subst hM
  exact ⟨⟨_, block_new _ _ rfl, TyRow.nil _ _ _⟩, below_box _ _, by simp⟩
theorem TolSt.part {X wr : World} {M : Nat} {L : List T} (h : TolSt X M ⟨#[97]⟩ L wr) (hl : L.length ≤ 1000000000) : ∃ ov, wr.heap[M]? = some (.cells #[.string ⟨#[97]⟩, ov] 25 (0, 0)) ∧ PRep wr (· < wr.heap.size) ⟨⟨#[97]⟩, L⟩ (.agg #[.string ⟨#[97]⟩, ov]) := by
  obtain ⟨ov, h1, h2⟩ := h.ex
  exact ⟨ov, h1, h2.part (fun b hb => hb.elim) hl⟩
set_option maxRecDepth 20000 in
set_option maxHeartbeats 3200000 in
theorem ChartTextI_any (c : Ch) (w : World) (B : Nat) (v : Value) (hR : CRep w (· < B) c v) (hB : B ≤ w.heap.size) (hz : szC c ≤ 1048576) (hA : okP c.all = true → c.all.name = ⟨#[97]⟩ ∧ EachTs (fun f => f.far = false ∧ f.shared = false) c.all.types) :
    Calls Try.prog 13 #[v] w fun e w' => e = .returned (.string (if okP c.all = true then ⟨(partL (seenP c.all)).toArray⟩ else ByteArray.empty)) ∧ Below w.heap.size w w' := by
  obtain ⟨ta, oa, tc, oc, rfl, hP, -, -⟩ := hR
  obtain ⟨A, owners⟩ := c
  simp only at hP hA ⊢
  have hzP : szP A ≤ 1048576 := by have : szC ⟨A, owners⟩ = szP A + szOs owners := rfl; omega
  clear hz
  have bX := below_box w (.cells #[.string A.name, .slice ta A.types.length tc, .slice oa owners.length oc] 28)
  have nX := block_new (w := w) (N := w.heap.size) #[.string A.name, .slice ta A.types.length tc, .slice oa owners.length oc] 28 rfl
  have zX : w.heap.size < (w.alloc (.cells #[.string A.name, .slice ta A.types.length tc, .slice oa owners.length oc] 28)).heap.size := by simp
  have HC := hid_of (fun W (h : Below w.heap.size w W) => checkPart_any A W B _ (hP.under (h.mono hB)) (by have := h.size; omega) hzP)
  have HPW : Hid (∀ W, Below w.heap.size w W → PRep W (· < B) A (.agg #[.string A.name, .slice ta A.types.length tc])) := hid_of fun W h => hP.under (h.mono hB)
  obtain ⟨l, HL⟩ : ∃ l, Hid (l = A.types.length) := ⟨_, hid_of rfl⟩
  rw [← HL.out] at HC HPW bX nX zX ⊢
  have HLM : Hid (l ≤ 1048576) := hid_of (by rw [HL.out]; have h2 : szP A = A.name.size + (A.types.length + szTsTo A.types A.types.length) := rfl; omega)
  have HFL : Hid (∀ k, k < l → Hid ((seenT (tth A.types k)).fields.length ≤ 1048576)) := hid_of fun k hk => hid_of (by
    rw [HL.out] at hk
    have h1 := seenFs_len (tth A.types k).fields (tth A.types k).fields.length
    have h2 := szT_le A k hk hzP
    have h3 : szT (tth A.types k) = (tth A.types k).name.size + (tth A.types k).key.size + ((tth A.types k).fields.length + szFsTo (tth A.types k).fields (tth A.types k).fields.length) := rfl
    show (seenFs (tth A.types k).fields (tth A.types k).fields.length).length ≤ _
    omega)
  have HTT0 : Hid (EachTs (fun f => f.far = false ∧ f.shared = false) A.types → ∀ k, k < l → ∃ (b off : Nat) (fa : Option Addr) (fc : Nat), ta = some ⟨b, off, none⟩ ∧ (∀ W, Below w.heap.size w W → W.cell? ⟨b, off + k * 3, none⟩ = some (.string (tth A.types k).name) ∧ W.cell? ⟨b, off + k * 3 + 1, none⟩ = some (.string (tth A.types k).key) ∧ W.cell? ⟨b, off + k * 3 + 2, none⟩ = some (.slice fa (tth A.types k).fields.length fc)) ∧ (tth A.types k).name.size ≤ maxLen ∧ ∀ W', Below w.heap.size w W' → Calls Try.prog 26 #[.agg #[.string (tth A.types k).name, .string (tth A.types k).key, .slice fa (tth A.types k).fields.length fc]] W' fun e w' => ∃ (a : Option Addr) (c : Nat), e = .returned (.slice a (seenT (tth A.types k)).fields.length c) ∧ Below W'.heap.size W' w' ∧ (seenT (tth A.types k)).fields.length ≤ c ∧ FsRep w' (fun b => W'.heap.size ≤ b ∧ b < w'.heap.size) (seenT (tth A.types k)).fields a) := hid_of fun hnear k hk => by
    rw [HL.out] at hk
    obtain ⟨ta', tc', e, hT, -⟩ := hP
    simp only [Value.agg.injEq, Array.mk.injEq, List.cons.injEq, Value.slice.injEq, true_and, and_true] at e
    obtain ⟨rfl, rfl⟩ := e
    obtain ⟨b, off, fa, fc, rfl, hTR, hc⟩ := hT.at hB k hk
    have hTR' := hTR
    obtain ⟨_, _, _, _, _, hn1, _⟩ := hTR'
    refine ⟨b, off, fa, fc, rfl, hc, hn1, fun W' hW' => ?_⟩
    have h := toldFields_any (tth A.types k) W' B _ (hTR.under (hW'.mono hB)) (by have := hW'.size; omega) (szT_le A k hk hzP)
    rw [toldFs_eq _ _ fun j hj => hnear k hk j hj] at h
    refine h.mono ?_
    rintro e w' ⟨a, c, h1, h2, h3, h4⟩
    exact ⟨a, c, h1, h2, h3, h4⟩
  clear hP
  obtain ⟨nm, HN⟩ : ∃ x, Hid (x = A.name) := ⟨_, hid_of rfl⟩
  rw [← HN.out] at HC HPW bX nX zX ⊢
  cases ho : okP A
  · rw [if_neg (by simp)]
    rcases partErr_bad _ ho with ⟨x, hx⟩ | ⟨i, x, hx⟩ <;> rw [hx] at HC
    all_goals
      go_enter Try.func13, Try.ntmps13
      go_wp2_with (
        go_at_call 20
        refine (HC.out _ bX).mono ?_
        rintro e w1 ⟨rfl, hb1⟩)
      go_ret
      exact ⟨rfl, bX.trans (hb1.mono (by simp))⟩
  · rw [if_pos rfl]
    rw [partErr_ok _ ho] at HC
    obtain ⟨hnm, hnear⟩ := hA ho
    have HTT := hid_of (HTT0.out hnear)
    replace hnm := hid_of hnm
    clear HTT0 hnear
    have HTX : Hid (∀ W v, PRep W (· < W.heap.size) ⟨⟨#[97]⟩, seenTs A.types A.types.length⟩ v → Calls Try.prog 21 #[v] W fun e w' => e = .returned (.string ⟨(partL (seenP A)).toArray⟩) ∧ Below W.heap.size W w') := hid_of fun W v hv => by
      have e : (⟨⟨#[97]⟩, seenTs A.types A.types.length⟩ : Pt) = seenP A := by rw [seenP, hnm.out]
      rw [e] at hv
      exact partText_all (seenP A) W W.heap.size v hv (Nat.le_refl _) (Nat.le_trans (seenP_sz A) hzP)
    generalize (⟨(partL (seenP A)).toArray⟩ : ByteArray) = tx at HTX ⊢
    go_enter Try.func13, Try.ntmps13
    obtain ⟨N, hN⟩ : ∃ x, x = w.heap.size := ⟨_, rfl⟩
    go_upto_if 10 with (
      go_at_call 20
      refine (HC.out _ bX).mono ?_
      rintro e w1 ⟨rfl, hb1⟩)
    have bw1 : Below w.heap.size w w1 := bX.trans (hb1.mono (by omega))
    have n1 := (hb1.block w.heap.size zX).trans nX
    have z1 := hb1.size
    clear nX bX HC hb1
    obtain ⟨p0, -⟩ := box_at n1 0 (by simp)
    simp only [List.getElem_toArray, List.getElem_cons_zero] at p0
    go_upto_region 4 with fail
    clear p0
    have bM := below_box w1 (.cells #[.string nm, .slice none 0 0] 25)
    have n2 := (bM.block w.heap.size (by omega)).trans n1
    have HM0 := hid_of (TolSt.start w1 nm w1.heap.size rfl)
    have HPB : Hid (∀ W, Below w1.heap.size w1 W → W.cell? ⟨w.heap.size, 1, none⟩ = some (.slice ta l tc)) := hid_of fun W hW => (box_at ((hW.block w.heap.size (by omega)).trans n1) 1 (by simp)).1
    have HBW : Hid (∀ W, Below w1.heap.size w1 W → Below w.heap.size w W) := hid_of fun W hW => bw1.trans (hW.mono (by omega))
    have p1 := HPB.out _ bM
    generalize w1.alloc (.cells #[.string nm, .slice none 0 0] 25) = w2 at *
    clear n1 n2 bM
    go_wp2_with fail
    go_loopw [19] (fun i wr => ∃ k : Nat, k ≤ l ∧ i = .int .i64 k ∧ Hid (TolSt w1 w1.heap.size nm (seenTs A.types k) wr)) (fun i _ => l - (intOf i).toNat)
    case atStart => exact ⟨0, Nat.zero_le _, rfl, HM0⟩
    case round =>
      clear HM0 p1
      obtain ⟨k, hk, rfl, HK⟩ := hrel
      obtain ⟨wK, rfl⟩ : ∃ x, x = wr := ⟨wr, rfl⟩
      have bK := HK.out.bel
      have hlM := HLM.out
      by_cases hlt : k < l
      case neg =>
        have hki : ¬ (k : Int) < (l : Int) := by omega
        have e : k = A.types.length := by rw [← HL.out]; omega
        have HK2 : Hid (TolSt w1 w1.heap.size ⟨#[97]⟩ (seenTs A.types A.types.length) wK) := hid_of (by rw [← e, ← hnm.out, ← HN.out]; exact HK.out)
        obtain ⟨ov, hM, hPP⟩ := HK2.out.part (by have := seenTs_len A.types A.types.length; rw [← HL.out] at this ⊢; have := HLM.out; omega)
        have HT := hid_of (HTX.out wK _ hPP)
        obtain ⟨q0, -⟩ := box_at hM 0 (by simp)
        obtain ⟨q1, -⟩ := box_at hM 1 (by simp)
        simp only [List.getElem_toArray, List.getElem_cons_zero, List.getElem_cons_succ] at q0 q1
        have HBK := hid_of (HBW.out wK bK)
        clear hPP hM
        go_wp2_with (
          go_at_call 21
          refine HT.out.mono ?_
          rintro e w3 ⟨rfl, hb3⟩)
        go_ret
        exact ⟨rfl, HBK.out.trans (hb3.mono HBK.out.size)⟩
      case pos =>
        have hki : (k : Int) < (l : Int) := by omega
        obtain ⟨b, off, fa, fc, rfl, hTC, hns, HTD⟩ := HTT.out k hlt
        obtain ⟨t0, t1, t2⟩ := hTC wK (HBW.out wK bK)
        have HSU : Hid (seenTs A.types (k + 1) = seenTs A.types k ++ if (seenT (tth A.types k)).fields.length = 0 then [] else [seenT (tth A.types k)]) := hid_of rfl
        have HSN : Hid ((seenT (tth A.types k)).name = (tth A.types k).name ∧ (seenT (tth A.types k)).key = ⟨#[]⟩) := hid_of ⟨rfl, rfl⟩
        have HLT : Hid ((seenTs A.types k).length ≤ 1048576) := hid_of (by have := seenTs_len A.types k; have := HLM.out; omega)
        have hFL : Hid ((seenT (tth A.types k)).fields.length ≤ 1048576) := HFL.out k hlt
        generalize seenT (tth A.types k) = s at *
        generalize tth A.types k = t at *
        obtain ⟨tn, tk, tf⟩ := t
        simp only at t0 t1 t2 HTD hns HSN
        have bT := below_box wK (.cells #[.string tn, .string tk, .slice fa tf.length fc] 48)
        have nT := block_new (w := wK) (N := wK.heap.size) #[.string tn, .string tk, .slice fa tf.length fc] 48 rfl
        have HMT := hid_of (HK.out.keep bT)
        have zT : (wK.alloc (.cells #[.string tn, .string tk, .slice fa tf.length fc] 48)).heap.size = wK.heap.size + 1 := by simp
        have HTD2 := hid_of (HTD _ (HBW.out _ (bK.trans (bT.mono bK.size))))
        obtain ⟨ov, hMT, hRT⟩ := HMT.out.ex
        have HRT := hid_of hRT
        have HMB := hid_of hMT
        have HMTb := hid_of HMT.out.bel
        have hMlt := HK.out.lt
        clear hTC HTD
        go_upto_region 7 with fail
        clear t0 t1 t2
        generalize wK.alloc (.cells #[.string tn, .string tk, .slice fa tf.length fc] 48) = wT at *
        obtain ⟨y0, -⟩ := box_at nT 0 (by simp)
        obtain ⟨y1, -⟩ := box_at nT 1 (by simp)
        obtain ⟨y2, -⟩ := box_at nT 2 (by simp)
        simp only [List.getElem_toArray, List.getElem_cons_zero, List.getElem_cons_succ] at y0 y1 y2
        go_upto_region 8 with (
          go_at_call 26
          refine HTD2.out.mono ?_
          rintro e w5 ⟨ga, gc, rfl, b5, hgc, hFs⟩)
        have HFs := hid_of hFs
        have HB5 := hid_of b5
        have n5 := (b5.block wK.heap.size (by omega)).trans nT
        have HM5 := hid_of (HMT.out.keep b5)
        have z5 := b5.size
        have hfl := hFL.out
        obtain ⟨nf, hnf⟩ : ∃ x, x = s.fields.length := ⟨_, rfl⟩
        rw [← hnf] at hgc hfl HSU ⊢
        replace hnf := hid_of hnf
        clear y0 y1 y2 nT HMT b5 hFs bT HTD2
        by_cases hn0 : nf = 0
        · have hn0i : ¬ (0 : Int) < (nf : Int) := by omega
          have HN1 : Hid (TolSt w1 w1.heap.size nm (seenTs A.types (k + 1)) w5) := hid_of (by rw [HSU.out, if_pos hn0, List.append_nil]; exact HM5.out)
          subst hn0
          go_wp2_with fail
          go_roundw
          case rel => exact ⟨k + 1, by omega, by go_num, HN1⟩
          case measure => simp [intOf]; omega
        · have hn0i : (0 : Int) < (nf : Int) := by omega
          have hn0n : 0 < nf := by omega
          obtain ⟨C, hC1, hC2⟩ := HRT.out
          have hC2 := hid_of hC2
          have HOB : Hid (∀ b, ov.ownBlock = some b → b < wT.heap.size) := hid_of fun b hb => (hC1.lt b hb).2
          have HOM : Hid (∀ b, ov.ownBlock = some b → w1.heap.size + 1 ≤ b) := hid_of fun b hb => (hC1.lt b hb).1
          have bA := below_box w5 (.cells #[.string tn, .string ⟨#[]⟩, .slice ga nf gc] 48)
          have nA := block_new (w := w5) (N := w5.heap.size) #[.string tn, .string ⟨#[]⟩, .slice ga nf gc] 48 rfl
          have zA : (w5.alloc (.cells #[.string tn, .string ⟨#[]⟩, .slice ga nf gc] 48)).heap.size = w5.heap.size + 1 := by simp
          have bTA := HB5.out.trans (bA.mono z5)
          have hrA := owns_keep' hC1 bTA
          have hM5 := (HB5.out.block w1.heap.size (by omega)).trans HMB.out
          obtain ⟨m1, -⟩ := box_at hM5 1 (by simp)
          obtain ⟨y0, -⟩ := box_at n5 0 (by simp)
          simp only [List.getElem_toArray, List.getElem_cons_zero, List.getElem_cons_succ] at m1 y0
          have HEND : Hid (∀ g cap wF, wF.ownsRow (w1.heap.size + 1) 48 3 (.slice (some ⟨g, 0, none⟩) ((seenTs A.types k).length + 1) cap) ((seenTs A.types k).length + 1) (flat3 C (seenTs A.types k).length ++ [.string tn, .string ⟨#[]⟩, .slice ga nf gc]) → (w5.alloc (.cells #[.string tn, .string ⟨#[]⟩, .slice ga nf gc] 48)).grownBy wF ov.ownBlock → (ov.ownBlock = some g ∨ g = w5.heap.size + 1) → Hid (TolSt w1 w1.heap.size nm (seenTs A.types (k + 1)) (wF.setCell ⟨w1.heap.size, 1, none⟩ (.slice (some ⟨g, 0, none⟩) ((seenTs A.types k).length + 1) cap))) ∧ wF.heap[w1.heap.size]? = some (.cells #[.string nm, ov] 25 (0, 0))) := hid_of fun g cap wF ho hg hor => by
            have hMA : (w5.alloc (.cells #[.string tn, .string ⟨#[]⟩, .slice ga nf gc] 48)).heap[w1.heap.size]? = some (.cells #[.string nm, ov] 25 (0, 0)) := (bA.block _ (by omega)).trans hM5
            refine ⟨hid_of ?_, (hg.block _ (by omega) fun e => by have := HOM.out _ e.symm; omega).trans hMA⟩
            rw [HSU.out, if_neg hn0]
            have hbM : Below w1.heap.size w1 (w5.alloc (.cells #[.string tn, .string ⟨#[]⟩, .slice ga nf gc] 48)) := HMTb.out.trans (bTA.mono (by omega))
            refine TolSt.push (wx := w5.alloc (.cells #[.string tn, .string ⟨#[]⟩, .slice ga nf gc] 48)) hMA (HRT.out.keep (fun b hb => hb.elim) bTA) hbM (by omega) s ga gc wT.heap.size ((HFs.out.mono fun b hb => bA.block b hb.2).sub fun b hb => by omega) (by omega) HOB.out (by rw [← hnf.out]; exact hgc) (by rw [HSN.out.1]; exact hns) (by rw [HSN.out.2]; exact Nat.zero_le _) ⟨C, hrA, rfl, fun i hi => ((hC2.out i hi).mono fun b hb => hb.elim False.elim fun x => bTA.block b x.2.1).sub fun b hb => hb.elim Or.inl fun x => Or.inr ⟨x.1, by omega, x.2.2⟩⟩ (by rw [HSN.out.1, HSN.out.2, ← hnf.out]; exact ho) hg ?_
            rcases hor with hor | hor
            · exact Or.inl hor.symm
            · exact Or.inr (by rw [hor, zA]; rfl)
          obtain ⟨q, hq⟩ : ∃ q, q = (seenTs A.types k).length := ⟨_, rfl⟩
          have hq6 : q ≤ 1048576 := by rw [hq]; exact HLT.out
          obtain ⟨xs, hxs⟩ : ∃ xs, xs = flat3 C (seenTs A.types k).length := ⟨_, rfl⟩
          rw [← hxs, ← hq] at HEND
          rw [← hxs, ← hq] at hrA
          clear hq hxs hC1 bA bTA hM5 n5
          obtain ⟨iT, zT, hiT, hT0, hT1, hT2, hTz⟩ := infoT_parts
          go_wp2_with (
            at_builtin
            refine wpList_append_lies _ rfl _ _ 23 rfl (w1.heap.size + 1) 48 iT zT 3 56 Try.underlying23 hiT hT0 hT1 hT2 hTz (by decide) ov q xs rfl hrA ⟨w5.heap.size, 0, none⟩ 1 1 [.string tn, .string ⟨#[]⟩, .slice ga nf gc] rfl rfl (World.news_of_block nA) (by intro u hu; simp at hu; rcases hu with rfl | rfl | rfl <;> rfl) (by omega) (by unfold maxLen; omega) (by omega) (by omega) (w5.heap.size + 1) zA ?_
            intro g cap wF ho hg hor hlt1
            obtain ⟨HF1, hMF⟩ := HEND.out g cap wF ho hg hor
            obtain ⟨x1, xz⟩ := box_at hMF 1 (by simp)
            simp only [List.getElem_toArray, List.getElem_cons_zero, List.getElem_cons_succ] at x1
            clear hMF ho hg hor)
          go_roundw
          case rel => exact ⟨k + 1, by omega, by go_num, HF1⟩
          case measure => simp [intOf]; omega
end Go.Proofs.Ytdohgkokoicjlaa
