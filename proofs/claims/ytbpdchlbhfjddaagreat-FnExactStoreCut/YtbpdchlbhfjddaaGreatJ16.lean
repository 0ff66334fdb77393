import Derived.Test.YtbpdchlbhfjddaaGreatJ13
import Derived.Test.YtbpdchlbhfjddaaGreatJ15
import Derived.Test.YtbpdchlbhfjddaaGreatPCheck
import Derived.Deep.RegionLaw
import Derived.Deep.RegionWith
import Derived.BigQuiet
namespace Go.Proofs.YtbpdchlbhfjddaaGreat
set_option linter.unusedSimpArgs false
set_option linter.unusedVariables false
open Go.RowKit

set_option maxRecDepth 20000 in
set_option maxHeartbeats 3200000 in
theorem l4Cut_any (p : Pt) (rs : List Ro) (w : World) (B : Nat) (u : Value) (ra : Option Addr) (rc : Nat) (hPt : PRep w (· < B) p u) (hB : B ≤ w.heap.size) (hR : RoReps w (· < B) rs ra) (ht5 : p.types.length ≤ 5) (ht8 : ∀ i, i < p.types.length → (tth p.types i).fields.length ≤ 8) (hrl : rs.length ≤ 1048576) (hsm : ∀ i, i < rs.length → ∀ f, szV (cellV (rth rs i).cells f) ≤ 1048576) :
    Calls Tryz.prog 18 #[u, .slice ra rs.length rc] w fun e w' => ∃ (a : Option Addr) (c : Nat), e = .returned (.slice a (cutTs p.types rs p.types.length).length c) ∧ Below w.heap.size w w' ∧ RoReps w' (fun b => w.heap.size ≤ b ∧ b < w'.heap.size) (cutTs p.types rs p.types.length) a := by
  obtain ⟨pname, types⟩ := p
  obtain ⟨ta, tc, rfl, hK, hnc, hpn⟩ := hPt
  simp only at hK hnc hpn ht5 ht8
  obtain ⟨i0, hi, hz0, hz1, hz2⟩ := info_parts info_Row
  obtain ⟨i1, hi', hz0', hz1', hz2'⟩ := info_parts info_Cell
  have h56 := hK.1
  go_enter Tryz.func18, Tryz.ntmps18
  go_wp2_with fail
  have bX := below_box w (.cells #[.string pname, .slice ta types.length tc] 32)
  have zX : (w.alloc (.cells #[.string pname, .slice ta types.length tc] 32)).heap.size = w.heap.size + 1 := by simp
  have nX := block_new (w := w) #[.string pname, .slice ta types.length tc] 32 rfl
  have oX : OwnR2 ((w.alloc (.cells #[.string pname, .slice ta types.length tc] 32)).alloc (.cells #[] 51)) (w.heap.size + 1) (cutTs types rs 0) (.slice (some ⟨w.heap.size + 1, 0, none⟩) 0 0) [] := ⟨⟨rfl, .inr ⟨w.heap.size + 1, 0, #[], rfl, Nat.le_refl _, block_new _ _ zX, Nat.le_refl _, by simp, rfl, rfl⟩⟩, fun i hi => by simp [cutTs] at hi⟩
  have bX2 := below_box (w.alloc (.cells #[.string pname, .slice ta types.length tc] 32)) (.cells #[] 51)
  rw [zX] at bX2
  have HOX := hid_of oX
  have PC : ∀ W, Below (w.heap.size + 1) (w.alloc (.cells #[.string pname, .slice ta types.length tc] 32)) W → W.cell? ⟨w.heap.size, 1, none⟩ = some (.slice ta types.length tc) ∧ Below w.heap.size w W ∧ w.heap.size + 1 ≤ W.heap.size := fun W h => ⟨(box_at ((h.block _ (by omega)).trans nX) 1 (by simp)).1, bX.trans (h.mono (by omega)), by have := h.size; omega⟩
  obtain ⟨X, hXe⟩ : ∃ X, X = w.alloc (.cells #[.string pname, .slice ta types.length tc] 32) := ⟨_, rfl⟩
  rw [← hXe] at PC bX2 HOX
  clear oX nX bX zX
  go_loopw [5, 6] (fun o i wr => ∃ (k : Nat) (v : Value) (xs : List Value), k ≤ types.length ∧ i = .int .i64 k ∧ v = o ∧ Hid (OwnR2 wr (w.heap.size + 1) (cutTs types rs k) v xs) ∧ Below (w.heap.size + 1) X wr) (fun _ i _ => types.length - (intOf i).toNat)
  case atStart => exact ⟨0, _, [], Nat.zero_le _, rfl, rfl, by rw [← hXe]; exact HOX, by rw [← hXe]; exact bX2⟩
  case round =>
    clear HOX bX2 hXe
    obtain ⟨k, v, xs, hk, rfl, rfl, HO, hbel⟩ := hrel
    obtain ⟨w0, rfl⟩ : ∃ x, x = wr := ⟨wr, rfl⟩
    obtain ⟨p1, bw, zw⟩ := PC w0 hbel
    by_cases hlt : k < types.length
    · obtain ⟨b, off, fa, fc', rfl, htr, hcs⟩ := hK.at hB k hlt
      obtain ⟨c0, c1, c2⟩ := hcs w0 bw
      have hki : (k : Int) < (types.length : Int) := by omega
      have ht8k := ht8 k hlt
      have HTS : Hid (cutTs types rs (k + 1) = cutTs types rs k ++ cutTo (tth types k) rs rs.length) := rfl
      have hlenT := cutTs_len types rs k
      generalize tth types k = t at *
      clear hcs
      obtain ⟨fa', fc2, e0, e1, e2, hfs, hffc, hs1, hs2⟩ := htr.parts
      simp only [Value.slice.injEq] at e2
      obtain ⟨rfl, -, rfl⟩ := e2
      clear e0 e1
      have bT := below_box w0 (.cells #[.string t.name, .string t.key, .slice fa t.fields.length fc'] 76)
      have nT := block_new (w := w0) #[.string t.name, .string t.key, .slice fa t.fields.length fc'] 76 rfl
      have zT : (w0.alloc (.cells #[.string t.name, .string t.key, .slice fa t.fields.length fc'] 76)).heap.size = w0.heap.size + 1 := by simp
      have HOT := hid_of (HO.out.keep bT)
      have HNB : Hid (v.ownBlock ≠ some w0.heap.size) := hid_of (fun e => by have := (HO.out.1.lt _ e).2; omega)
      clear HO
      go_wp2_with fail
      go_loopw [5, 8] (fun o i wr => ∃ (j : Nat) (v : Value) (xs : List Value), j ≤ rs.length ∧ i = .int .i64 j ∧ v = o ∧ Hid (OwnR2 wr (w.heap.size + 1) (cutTs types rs k ++ cutTo t rs j) v xs) ∧ Hid (v.ownBlock ≠ some w0.heap.size) ∧ wr.heap[w0.heap.size]? = some (.cells #[.string t.name, .string t.key, .slice fa t.fields.length fc'] 76 (0, 0)) ∧ Below (w.heap.size + 1) X wr ∧ w0.heap.size < wr.heap.size) (fun _ i _ => rs.length - (intOf i).toNat)
      case atStart => exact ⟨0, _, xs, Nat.zero_le _, rfl, rfl, by simpa [cutTo] using HOT, HNB, nT, hbel.trans (bT.mono zw), by omega⟩
      case round =>
        clear nT bT zT c0 c1 c2 HOT HNB p1
        obtain ⟨j, v, xs, hj, rfl, rfl, HO, HNB, nT, hbel2, zlt⟩ := hrel
        obtain ⟨w2, rfl⟩ : ∃ x, x = wr := ⟨wr, rfl⟩
        obtain ⟨p1, bw2, zw2⟩ := PC w2 hbel2
        have t0 := (box_at nT 0 (by simp)).1
        have t1 := (box_at nT 1 (by simp)).1
        have t2 := (box_at nT 2 (by simp)).1
        by_cases hjt : j < rs.length
        · obtain ⟨h48, C, hA, hr⟩ := id hR
          obtain ⟨rb, roff, rfl, hrB, hrc'⟩ := hA (by omega)
          have hji : (j : Int) < (rs.length : Int) := by omega
          have hrj := hr j hjt
          obtain ⟨ca, ccp, e0, e1, e2, -, -, htz⟩ := hrj.pieces
          rw [e0, e1, e2] at hrj
          have RC : ∀ W, Below w.heap.size w W → W.cell? ⟨rb, roff + j * 3, none⟩ = some (.string (rth rs j).type) ∧ W.cell? ⟨rb, roff + j * 3 + 1, none⟩ = some (.int .i64 (rth rs j).id) ∧ W.cell? ⟨rb, roff + j * 3 + 2, none⟩ = some (.slice ca (rth rs j).cells.length ccp) := fun W hW => by
            have hck : ∀ m, m < 3 → W.cell? ⟨rb, roff + j * 3 + m, none⟩ = some (C j m) := fun m hm => (hW.cell (p := ⟨rb, roff + j * 3 + m, none⟩) (by show rb < _; omega)).trans (hrc' j hjt m hm)
            exact ⟨e0 ▸ hck 0 (by omega), e1 ▸ hck 1 (by omega), e2 ▸ hck 2 (by omega)⟩
          obtain ⟨r0, r1, r2⟩ := RC w2 bw2
          have HRC := hid_of RC
          clear hrc' e0 e1 e2 hA hr RC
          have HTO : Hid (cutTo t rs (j + 1) = if ((rth rs j).type.toList == t.name.toList) = true then cutTo t rs j ++ [cutR t (rth rs j)] else cutTo t rs j) := rfl
          have hlenJ := cutTo_len t rs j
          have hsmj := hsm j hjt
          generalize rth rs j = r at *
          obtain ⟨q, hq⟩ : ∃ q, q = (r.type.toList == t.name.toList) := ⟨_, rfl⟩
          rw [← hq] at HTO
          cases q
          · have hq' := hq.symm
            clear hq
            go_wp2_with fail
            go_quiet (fail)
            go_wp2_with fail
            go_roundw
            case measure => simp [intOf]; omega
            case rel =>
              have bd : Below w2.heap.size w2 (w2.drewN nq) := below_drews (Below.refl _ _) nq
              exact ⟨j + 1, v, xs, by omega, by go_num, rfl, by rw [HTO.out]; exact hid_of (HO.out.keep bd), HNB, nT, below_drews hbel2 nq, zlt⟩
          · have hq' := hq.symm
            have hte : r.type = t.name := bytes_inj (by simpa using hq')
            have HTE := hid_of hte
            clear hq hte
            go_wp2_with fail
            go_quiet (fail)
            go_wp2_with fail
            have b23 : Below w2.heap.size w2 (w2.drewN nq) := below_drews (Below.refl _ _) nq
            have z23 : w2.heap.size ≤ (w2.drewN nq).heap.size := Nat.le_refl _
            have z32 : (w2.drewN nq).heap.size ≤ w2.heap.size := Nat.le_refl _
            have nT3 : (w2.drewN nq).heap[w0.heap.size]? = some (.cells #[.string t.name, .string t.key, .slice fa t.fields.length fc'] 76 (0, 0)) := nT
            generalize w2.drewN nq = w3 at *
            have bw3 : Below w.heap.size w w3 := bw2.trans (b23.mono (by omega))
            clear t0 t1 t2 r0 r1 r2 p1 hq'
            obtain ⟨t0, -⟩ := box_at nT3 0 (by simp)
            obtain ⟨t1, -⟩ := box_at nT3 1 (by simp)
            obtain ⟨t2, -⟩ := box_at nT3 2 (by simp)
            obtain ⟨r0, r1, r2⟩ := HRC.out w3 bw3
            have m1 := World.new_ne w3 ⟨w0.heap.size, 0, none⟩ t0
            have m2 := World.new_ne w3 ⟨rb, roff + j * 3 + 1, none⟩ r1
            go_cut [9] (fun p wx => ∃ ob, p = .pointer (some ⟨ob, 0, none⟩) ∧ Below w3.heap.size w3 wx ∧ w3.heap.size ≤ ob ∧ ob < wx.heap.size ∧ wx.heap[ob]? = some (.cells #[.string t.name, .int .i64 r.id, .slice none 0 0] 51 (0, 0)))
            case first =>
              go_region_held3 (fun w' => w'.cell? ⟨w0.heap.size, 0, none⟩ = some (.string t.name) ∧ w'.cell? ⟨rb, roff + j * 3 + 1, none⟩ = some (.int .i64 r.id)) (go_keep) (fail)
              all_goals
                go_wp2_with fail
                go_meet
                case rel => exact ⟨w3.heap.size, rfl, (below_box w3 _).drew, Nat.le_refl _, by simp, block_new _ _ rfl⟩
            case rest =>
            obtain ⟨ob, rfl, hbc, hob1, hob2, nO⟩ := hcut
            have TF : ∀ W, Below w3.heap.size w3 W → W.cell? ⟨w0.heap.size, 2, none⟩ = some (.slice fa t.fields.length fc') := fun W hW => (hW.cell (p := ⟨w0.heap.size, 2, none⟩) (by show w0.heap.size < _; omega)).trans t2
            have HTF := hid_of TF
            have hRP := fun W (hW : Below w3.heap.size w3 W) => hrj.mono (w' := W) fun k hk => (bw3.trans (hW.mono (by omega))).block k (by omega)
            have HRP := hid_of hRP
            have h64 := hfs.1
            clear TF t0 t1 t2 r0 r1 r2 m1 m2 hrj hRP
            go_wp2_with fail
            go_loopw [10] (fun i wr => ∃ (n : Nat) (va : Option Addr) (vm vc : Nat) (ys : List Value), n ≤ t.fields.length ∧ i = .int .i64 n ∧ vm = (KF t.fields n).length ∧ wr.heap[ob]? = some (.cells #[.string t.name, .int .i64 r.id, .slice va vm vc] 51 (0, 0)) ∧ Hid (OwnC2 wr w3.heap.size ob (cutL (KF t.fields n) r.cells) (.slice va vm vc) ys) ∧ Below w3.heap.size w3 wr ∧ ob < wr.heap.size) (fun i _ => t.fields.length - (intOf i).toNat)
            case atStart => exact ⟨0, none, 0, 0, [], Nat.zero_le _, rfl, rfl, nO, hid_of (OwnC2.nil _ _ _), hbc, hob2⟩
            case round =>
              clear nO hbc hob2
              obtain ⟨n, va, vm, vc, ys, hn, rfl, hvm, nO, HOC, hbc, hob2⟩ := hrel
              obtain ⟨w4, rfl⟩ : ∃ x, x = wr := ⟨wr, rfl⟩
              have zc := hbc.size
              have bw4 : Below w.heap.size w w4 := bw3.trans (hbc.mono (by omega))
              have t2 := HTF.out w4 hbc
              have HVM := hid_of hvm
              have hvl : vm ≤ 8 := by have := KF_len t.fields n; omega
              clear hvm
              obtain ⟨o0, -⟩ := box_at nO 0 (by simp)
              obtain ⟨o1, -⟩ := box_at nO 1 (by simp)
              obtain ⟨o2, of2⟩ := box_at nO 2 (by simp)
              by_cases hnt : n < t.fields.length
              · obtain ⟨fb, foff, na, nc, rfl, hFR, hcs⟩ := hfs.at hB n hnt
                have HFC := hid_of hcs
                obtain ⟨f0, f1, f2, f3, f4, f5, f6, f7⟩ := hcs w4 bw4
                have HKF : Hid (KF t.fields (n + 1) = if (fth t.fields n).far = true then KF t.fields n else KF t.fields n ++ [fth t.fields n]) := rfl
                obtain ⟨-, -, -, -, -, hfn, -⟩ := hFR
                generalize fth t.fields n = f at *
                have hni : (n : Int) < (t.fields.length : Int) := by omega
                clear hcs f1 f2 f3 f5 f6 f7
                cases hfar : f.far
                · rw [hfar] at f4
                  rw [hfar] at HKF
                  obtain ⟨r0, r1, r2⟩ := HRC.out w4 bw4
                  have hLC := l4Cell_any r f.name w4.drew (· < B) _ (HRP.out w4.drew hbc.drew) (fun b hb => by show b < w4.heap.size; omega)
                  have HLC := hid_of hLC
                  have hl : (cutL (KF t.fields n) r.cells).length = vm := by rw [cutL_len]; exact HVM.out.symm
                  have HOV : Hid (∀ W, Below w4.heap.size w4 W → W.ownsRow w3.heap.size 62 6 (.slice va vm vc) vm ys) := hid_of fun W hW => by
                    have h := HOC.out.1
                    rw [hl] at h
                    exact owns_same h fun b hb => hW.block b (h.lt b hb).2
                  have HL := hid_of hl
                  have hsx := hsmj f.name
                  generalize hxx : cellV r.cells f.name = x at *
                  have HXX := hid_of hxx
                  clear hLC hl hxx
                  go_wp2_with fail
                  have HS : Hid (∀ W, Below w3.heap.size w3 W → W.cell? ⟨w0.heap.size, 2, none⟩ = some (.slice (some ⟨fb, foff, none⟩) t.fields.length fc') ∧ W.cell? ⟨fb, foff + n * 8, none⟩ = some (.string f.name) ∧ W.cell? ⟨rb, roff + j * 3, none⟩ = some (.string r.type) ∧ W.cell? ⟨rb, roff + j * 3 + 1, none⟩ = some (.int .i64 r.id) ∧ W.cell? ⟨rb, roff + j * 3 + 2, none⟩ = some (.slice ca r.cells.length ccp)) := hid_of fun W hW => ⟨HTF.out W hW, (HFC.out W (bw3.trans (hW.mono (by omega)))).1, HRC.out W (bw3.trans (hW.mono (by omega)))⟩
                  refine wp_region_held_drew (S := (fun w' => w'.cell? ⟨w0.heap.size, 2, none⟩ = some (.slice (some ⟨fb, foff, none⟩) t.fields.length fc') ∧ w'.cell? ⟨fb, foff + n * 8, none⟩ = some (.string f.name) ∧ w'.cell? ⟨rb, roff + j * 3, none⟩ = some (.string r.type) ∧ w'.cell? ⟨rb, roff + j * 3 + 1, none⟩ = some (.int .i64 r.id) ∧ w'.cell? ⟨rb, roff + j * 3 + 2, none⟩ = some (.slice ca r.cells.length ccp))) (by kernel_rfl) (HS.out _ hbc.drew) (fun hHeld => ?_)
                  refine wpAnyH_take (i := 0) (oi := { dst := some 60, op := Op.fieldAddr 51 (Operand.tmp 9) 2, type := 0, pos := "l4_store.go:113", after := #[], guard := none }) (v := ?_) rfl (by kernel_rfl) (by kernel_rfl) (by kernel_rfl) (fun _ _ _ h => h) (Or.inl ⟨by rfl, ?_⟩) hHeld ?_
                  rotate_left
                  · intro w' hSw
                    (try dsimp only at hSw)
                    go_simp
                    try with_reducible rfl
                  try simp only [Act.put, List.setIfInBounds_toArray, List.set_cons_zero, List.set_cons_succ]
                  refine wpAnyH_take (i := 2) (oi := { dst := some 62, op := Op.fieldAddr 76 (Operand.tmp 7) 2, type := 0, pos := "l4_store.go:113", after := #[], guard := none }) (v := ?_) rfl (by kernel_rfl) (by kernel_rfl) (by kernel_rfl) (fun _ _ _ h => h) (Or.inl ⟨by rfl, ?_⟩) hHeld ?_
                  rotate_left
                  · intro w' hSw
                    (try dsimp only at hSw)
                    go_simp
                    try with_reducible rfl
                  try simp only [Act.put, List.setIfInBounds_toArray, List.set_cons_zero, List.set_cons_succ]
                  refine wpAnyH_take (i := 3) (oi := { dst := some 63, op := Op.load 74 (Operand.tmp 62), type := 74, pos := "l4_store.go:113", after := #[{ on := 2, ground := Ground.data }], guard := none }) (v := ?_) rfl (by kernel_rfl) (by kernel_rfl) (by kernel_rfl) (fun _ _ _ h => h) (Or.inl ⟨by rfl, ?_⟩) hHeld ?_
                  rotate_left
                  · intro w' hSw
                    (try dsimp only at hSw)
                    go_simp
                    try with_reducible rfl
                  try simp only [Act.put, List.setIfInBounds_toArray, List.set_cons_zero, List.set_cons_succ]
                  refine wpAnyH_take (i := 4) (oi := { dst := some 64, op := Op.move (Operand.tmp 10), type := 3, pos := "l4_store.go:113", after := #[], guard := none }) (v := ?_) rfl (by kernel_rfl) (by kernel_rfl) (by kernel_rfl) (fun _ _ _ h => h) (Or.inl ⟨by rfl, ?_⟩) hHeld ?_
                  rotate_left
                  · intro w' hSw
                    (try dsimp only at hSw)
                    go_simp
                    try with_reducible rfl
                  try simp only [Act.put, List.setIfInBounds_toArray, List.set_cons_zero, List.set_cons_succ]
                  refine wpAnyH_take (i := 5) (oi := { dst := some 65, op := Op.indexAddr 74 (Operand.tmp 63) (Operand.tmp 64), type := 0, pos := "l4_store.go:113", after := #[{ on := 3, ground := Ground.data }, { on := 4, ground := Ground.data }], guard := none }) (v := ?_) rfl (by kernel_rfl) (by kernel_rfl) (by kernel_rfl) (fun _ _ _ h => h) (Or.inl ⟨by rfl, ?_⟩) hHeld ?_
                  rotate_left
                  · intro w' hSw
                    (try dsimp only at hSw)
                    go_simp
                    try with_reducible rfl
                  try simp only [Act.put, List.setIfInBounds_toArray, List.set_cons_zero, List.set_cons_succ]
                  refine wpAnyH_take (i := 6) (oi := { dst := some 66, op := Op.fieldAddr 78 (Operand.tmp 65) 0, type := 0, pos := "l4_store.go:113", after := #[{ on := 5, ground := Ground.data }], guard := none }) (v := ?_) rfl (by kernel_rfl) (by kernel_rfl) (by kernel_rfl) (fun _ _ _ h => h) (Or.inl ⟨by rfl, ?_⟩) hHeld ?_
                  rotate_left
                  · intro w' hSw
                    (try dsimp only at hSw)
                    go_simp
                    try with_reducible rfl
                  try simp only [Act.put, List.setIfInBounds_toArray, List.set_cons_zero, List.set_cons_succ]
                  refine wpAnyH_take (i := 7) (oi := { dst := some 67, op := Op.load 9 (Operand.tmp 66), type := 9, pos := "l4_store.go:113", after := #[{ on := 6, ground := Ground.data }], guard := none }) (v := ?_) rfl (by kernel_rfl) (by kernel_rfl) (by kernel_rfl) (fun _ _ _ h => h) (Or.inl ⟨by rfl, ?_⟩) hHeld ?_
                  rotate_left
                  · intro w' hSw
                    (try dsimp only at hSw)
                    go_simp
                    try with_reducible rfl
                  try simp only [Act.put, List.setIfInBounds_toArray, List.set_cons_zero, List.set_cons_succ]
                  refine wpAnyH_take (i := 8) (oi := { dst := some 68, op := Op.move (Operand.tmp 1), type := 28, pos := "l4_store.go:113", after := #[], guard := none }) (v := ?_) rfl (by kernel_rfl) (by kernel_rfl) (by kernel_rfl) (fun _ _ _ h => h) (Or.inl ⟨by rfl, ?_⟩) hHeld ?_
                  rotate_left
                  · intro w' hSw
                    (try dsimp only at hSw)
                    go_simp
                    try with_reducible rfl
                  try simp only [Act.put, List.setIfInBounds_toArray, List.set_cons_zero, List.set_cons_succ]
                  refine wpAnyH_take (i := 9) (oi := { dst := some 69, op := Op.move (Operand.tmp 8), type := 3, pos := "l4_store.go:113", after := #[], guard := none }) (v := ?_) rfl (by kernel_rfl) (by kernel_rfl) (by kernel_rfl) (fun _ _ _ h => h) (Or.inl ⟨by rfl, ?_⟩) hHeld ?_
                  rotate_left
                  · intro w' hSw
                    (try dsimp only at hSw)
                    go_simp
                    try with_reducible rfl
                  try simp only [Act.put, List.setIfInBounds_toArray, List.set_cons_zero, List.set_cons_succ]
                  refine wpAnyH_take (i := 10) (oi := { dst := some 70, op := Op.indexAddr 28 (Operand.tmp 68) (Operand.tmp 69), type := 0, pos := "l4_store.go:113", after := #[{ on := 8, ground := Ground.data }, { on := 9, ground := Ground.data }], guard := none }) (v := ?_) rfl (by kernel_rfl) (by kernel_rfl) (by kernel_rfl) (fun _ _ _ h => h) (Or.inl ⟨by rfl, ?_⟩) hHeld ?_
                  rotate_left
                  · intro w' hSw
                    (try dsimp only at hSw)
                    go_simp
                    try with_reducible rfl
                  try simp only [Act.put, List.setIfInBounds_toArray, List.set_cons_zero, List.set_cons_succ]
                  refine wpAnyH_take (i := 11) (oi := { dst := some 71, op := Op.load 51 (Operand.tmp 70), type := 51, pos := "l4_store.go:113", after := #[{ on := 10, ground := Ground.data }], guard := none }) (v := ?_) rfl (by kernel_rfl) (by kernel_rfl) (by kernel_rfl) (fun _ _ _ h => h) (Or.inl ⟨by rfl, ?_⟩) hHeld ?_
                  rotate_left
                  · intro w' hSw
                    (try dsimp only at hSw)
                    go_simp
                    try with_reducible rfl
                  try simp only [Act.put, List.setIfInBounds_toArray, List.set_cons_zero, List.set_cons_succ]
                  refine wpAnyH_take (i := 12) (oi := { dst := some 72, op := Op.fieldAddr 76 (Operand.tmp 7) 2, type := 0, pos := "l4_store.go:113", after := #[], guard := none }) (v := ?_) rfl (by kernel_rfl) (by kernel_rfl) (by kernel_rfl) (fun _ _ _ h => h) (Or.inl ⟨by rfl, ?_⟩) hHeld ?_
                  rotate_left
                  · intro w' hSw
                    (try dsimp only at hSw)
                    go_simp
                    try with_reducible rfl
                  try simp only [Act.put, List.setIfInBounds_toArray, List.set_cons_zero, List.set_cons_succ]
                  refine wpAnyH_take (i := 13) (oi := { dst := some 73, op := Op.load 74 (Operand.tmp 72), type := 74, pos := "l4_store.go:113", after := #[{ on := 12, ground := Ground.data }], guard := none }) (v := ?_) rfl (by kernel_rfl) (by kernel_rfl) (by kernel_rfl) (fun _ _ _ h => h) (Or.inl ⟨by rfl, ?_⟩) hHeld ?_
                  rotate_left
                  · intro w' hSw
                    (try dsimp only at hSw)
                    go_simp
                    try with_reducible rfl
                  try simp only [Act.put, List.setIfInBounds_toArray, List.set_cons_zero, List.set_cons_succ]
                  refine wpAnyH_take (i := 14) (oi := { dst := some 74, op := Op.move (Operand.tmp 10), type := 3, pos := "l4_store.go:113", after := #[], guard := none }) (v := ?_) rfl (by kernel_rfl) (by kernel_rfl) (by kernel_rfl) (fun _ _ _ h => h) (Or.inl ⟨by rfl, ?_⟩) hHeld ?_
                  rotate_left
                  · intro w' hSw
                    (try dsimp only at hSw)
                    go_simp
                    try with_reducible rfl
                  try simp only [Act.put, List.setIfInBounds_toArray, List.set_cons_zero, List.set_cons_succ]
                  refine wpAnyH_take (i := 15) (oi := { dst := some 75, op := Op.indexAddr 74 (Operand.tmp 73) (Operand.tmp 74), type := 0, pos := "l4_store.go:113", after := #[{ on := 13, ground := Ground.data }, { on := 14, ground := Ground.data }], guard := none }) (v := ?_) rfl (by kernel_rfl) (by kernel_rfl) (by kernel_rfl) (fun _ _ _ h => h) (Or.inl ⟨by rfl, ?_⟩) hHeld ?_
                  rotate_left
                  · intro w' hSw
                    (try dsimp only at hSw)
                    go_simp
                    try with_reducible rfl
                  try simp only [Act.put, List.setIfInBounds_toArray, List.set_cons_zero, List.set_cons_succ]
                  refine wpAnyH_take (i := 16) (oi := { dst := some 76, op := Op.fieldAddr 78 (Operand.tmp 75) 0, type := 0, pos := "l4_store.go:113", after := #[{ on := 15, ground := Ground.data }], guard := none }) (v := ?_) rfl (by kernel_rfl) (by kernel_rfl) (by kernel_rfl) (fun _ _ _ h => h) (Or.inl ⟨by rfl, ?_⟩) hHeld ?_
                  rotate_left
                  · intro w' hSw
                    (try dsimp only at hSw)
                    go_simp
                    try with_reducible rfl
                  try simp only [Act.put, List.setIfInBounds_toArray, List.set_cons_zero, List.set_cons_succ]
                  refine wpAnyH_take (i := 17) (oi := { dst := some 77, op := Op.load 9 (Operand.tmp 76), type := 9, pos := "l4_store.go:113", after := #[{ on := 16, ground := Ground.data }], guard := none }) (v := ?_) rfl (by kernel_rfl) (by kernel_rfl) (by kernel_rfl) (fun _ _ _ h => h) (Or.inl ⟨by rfl, ?_⟩) hHeld ?_
                  rotate_left
                  · intro w' hSw
                    (try dsimp only at hSw)
                    go_simp
                    try with_reducible rfl
                  try simp only [Act.put, List.setIfInBounds_toArray, List.set_cons_zero, List.set_cons_succ]
                  refine wpAnyH_ready (rs := [1, 18]) (by kernel_rfl) (by simp) ?_
                  refine AllReadyH.cons (o := { dst := some 61, op := Op.load 49 (Operand.tmp 60), type := 49, pos := "l4_store.go:113", after := #[{ on := 0, ground := Ground.data }], guard := none }) rfl (fun K hK => ?_) ?_
                  · go_simp
                    refine hK.out _ _ hHeld (fun hHeld => ?_)
                    clear hK K
                    try simp only [Act.put, List.setIfInBounds_toArray, List.set_cons_zero, List.set_cons_succ]
                    refine wpAnyH_ready (rs := [18]) (by kernel_rfl) (by simp) ?_
                    refine AllReadyH.cons (o := { dst := some 78, op := Op.call { callee := Callee.value (Operand.func 36), args := #[Operand.tmp 71, Operand.tmp 77], argTypes := #[51, 9] }, type := 58, pos := "l4_store.go:113", after := #[{ on := 11, ground := Ground.data }, { on := 17, ground := Ground.data }], guard := none }) rfl (fun K hK => ?_) AllReadyH.nil
                    go_simp
                    refine HLC.out.mono ?_
                    rintro e w5 ⟨⟨s5, n5, t5, na5, ka5, nl5, nc5, kl5, kc5, rfl, hr5⟩, hb5⟩
                    have b5 : Below w4.heap.size w4 w5 := below_undrew hb5
                    have z5 := b5.size
                    have c5 := hbc.trans (b5.mono zc)
                    obtain ⟨o25, -⟩ := box_at ((b5.block _ hob2).trans nO) 2 (by simp)
                    have HR5 := hid_of (hr5.mono (w' := w5) fun k hk => b5.block k (by omega))
                    clear hr5 hb5
                    refine hK.out _ _ (HS.out _ c5) (fun hHeld => ?_)
                    clear hK K
                    try simp only [Act.put, List.setIfInBounds_toArray, List.set_cons_zero, List.set_cons_succ]
                    refine wpAnyH_ready (rs := [19]) (by kernel_rfl) (by simp) ?_
                    refine AllReadyH.cons (o := { dst := some 79, op := Op.call { callee := Callee.value (Operand.func 35), args := #[Operand.tmp 78], argTypes := #[58] }, type := 58, pos := "l4_store.go:113", after := #[{ on := 18, ground := Ground.data }, { on := 18, ground := Ground.chain }], guard := none }) rfl (fun K hK => ?_) AllReadyH.nil
                    go_simp
                    refine (l1Copy_any x w5 B _ hsx HR5.out (by omega)).mono ?_
                    rintro e w6 ⟨s6, n6, t6, na6, ka6, nl6, nc6, kl6, kc6, rfl, hb6, hr6⟩
                    have b6 : Below w4.heap.size w4 w6 := b5.trans (hb6.mono z5)
                    have z6 := b6.size
                    have z56 := hb6.size
                    have c6 := hbc.trans (b6.mono zc)
                    obtain ⟨o26, -⟩ := box_at ((b6.block _ hob2).trans nO) 2 (by simp)
                    have HR6 := hid_of hr6
                    clear hr6 hb6
                    refine hK.out _ _ (HS.out _ c6) (fun hHeld => ?_)
                    clear hK K
                    try simp only [Act.put, List.setIfInBounds_toArray, List.set_cons_zero, List.set_cons_succ]
                    refine wpAnyH_take (i := 20) (oi := { dst := some 80, op := Op.build 62 #[(0, Operand.tmp 67), (1, Operand.tmp 79)], type := 62, pos := "l4_store.go:113", after := #[{ on := 7, ground := Ground.data }, { on := 19, ground := Ground.data }], guard := none }) (v := ?_) rfl (by kernel_rfl) (by kernel_rfl) (by kernel_rfl) (fun _ _ _ h => h) (Or.inl ⟨by rfl, ?_⟩) hHeld ?_
                    rotate_left
                    · intro w' hSw
                      (try dsimp only at hSw)
                      go_simp
                      try with_reducible rfl
                    try simp only [Act.put, List.setIfInBounds_toArray, List.set_cons_zero, List.set_cons_succ]
                    refine wpAnyH_ready (rs := [21]) (by kernel_rfl) (by simp) ?_
                    refine AllReadyH.cons (o := { dst := some 81, op := Op.buildSlice 49 1 #[(0, Operand.tmp 80)], type := 49, pos := "l4_store.go:113", after := #[{ on := 20, ground := Ground.data }], guard := none }) rfl (fun K hK => ?_) AllReadyH.nil
                    go_simp
                    have o2a : (w6.alloc (.cells #[.string f.name, .int .i64 s6, .int .i64 n6, .string t6, .slice na6 nl6 nc6, .slice ka6 kl6 kc6] 62)).cell? ⟨ob, 2, none⟩ = some (.slice va vm vc) := ((below_box w6 _).cell (p := ⟨ob, 2, none⟩) (by show ob < _; omega)).trans o26
                    have c6a := c6.trans ((below_box w6 (.cells #[.string f.name, .int .i64 s6, .int .i64 n6, .string t6, .slice na6 nl6 nc6, .slice ka6 kl6 kc6] 62)).mono (by omega))
                    refine hK.out _ _ (HS.out _ c6a) (fun hHeld => ?_)
                    clear hK K
                    try simp only [Act.put, List.setIfInBounds_toArray, List.set_cons_zero, List.set_cons_succ]
                    refine wpAnyH_ready (rs := [22]) (by kernel_rfl) (by simp) ?_
                    refine AllReadyH.cons (o := { dst := some 82, op := Op.call { callee := Callee.builtin Builtin.append, args := #[Operand.tmp 61, Operand.tmp 81], argTypes := #[49, 49] }, type := 49, pos := "l4_store.go:113", after := #[{ on := 1, ground := Ground.data }, { on := 21, ground := Ground.data }, { on := 19, ground := Ground.chain }], guard := none }) rfl (fun K hK => ?_) AllReadyH.nil
                    refine step_append_lies _ rfl (.tmp 61) (.tmp 81) 49 rfl w3.heap.size 62 i1 (.agg #[.string ByteArray.empty, .int .i64 0, .int .i64 0, .string ByteArray.empty, .slice none 0 0, .slice none 0 0]) 6 96 Tryz.underlying49 hi' hz0' hz1' hz2' rfl (by decide) (.slice va vm vc) vm ys rfl (HOV.out _ (b6.trans ((below_box w6 _).mono z6))) ⟨w6.heap.size, 0, none⟩ 1 1 [.string f.name, .int .i64 s6, .int .i64 n6, .string t6, .slice na6 nl6 nc6, .slice ka6 kl6 kc6] rfl rfl (World.news_of_block (heap_alloc_new w6 _)) (by intro u hu; simp at hu; rcases hu with rfl | rfl | rfl | rfl | rfl | rfl <;> rfl) (by omega) (by unfold maxLen; omega) (by omega) (by simp; omega) (w6.heap.size + 1) (by simp) ?_
                    intro g cap w7 hown7 hgrow hat hlt7
                    have z7 := hgrow.size
                    simp at z7
                    have nO7 := ((hgrow.block ob (by simp; omega) (fun e => HOC.out.2.1 e.symm)).trans ((below_box w6 _).block ob (by omega))).trans ((b6.block _ hob2).trans nO)
                    have c7 : Below w3.heap.size w3 w7 := c6a.grown hgrow (by simp; omega) (fun k hk => (HOC.out.1.lt k hk).1)
                    obtain ⟨o27, of27⟩ := box_at nO7 2 (by simp)
                    have H7 := hid_of (And.intro hown7 (And.intro hgrow (And.intro hat nO7)))
                    clear hown7 hgrow hat nO7
                    refine hK.out _ _ (HS.out _ c7) (fun hHeld => ?_)
                    clear hK K
                    try simp only [Act.put, List.setIfInBounds_toArray, List.set_cons_zero, List.set_cons_succ]
                    refine wpAnyH_take (i := 23) (oi := { dst := some 83, op := Op.fieldAddr 51 (Operand.tmp 9) 2, type := 0, pos := "l4_store.go:113", after := #[{ on := 0, ground := Ground.phase }, { on := 1, ground := Ground.phase }, { on := 2, ground := Ground.phase }, { on := 3, ground := Ground.phase }, { on := 4, ground := Ground.phase }, { on := 5, ground := Ground.phase }, { on := 6, ground := Ground.phase }, { on := 7, ground := Ground.phase }, { on := 8, ground := Ground.phase }, { on := 9, ground := Ground.phase }, { on := 10, ground := Ground.phase }, { on := 11, ground := Ground.phase }, { on := 12, ground := Ground.phase }, { on := 13, ground := Ground.phase }, { on := 14, ground := Ground.phase }, { on := 15, ground := Ground.phase }, { on := 16, ground := Ground.phase }, { on := 17, ground := Ground.phase }, { on := 18, ground := Ground.phase }, { on := 19, ground := Ground.phase }, { on := 20, ground := Ground.phase }, { on := 21, ground := Ground.phase }, { on := 22, ground := Ground.phase }], guard := none }) (v := ?_) rfl (by kernel_rfl) (by kernel_rfl) (by kernel_rfl) (fun _ _ _ h => h) (Or.inl ⟨by rfl, ?_⟩) hHeld ?_
                    rotate_left
                    · intro w' hSw
                      (try dsimp only at hSw)
                      go_simp
                      try with_reducible rfl
                    try simp only [Act.put, List.setIfInBounds_toArray, List.set_cons_zero, List.set_cons_succ]
                    refine wpAnyH_ready (rs := [24]) (by kernel_rfl) (by simp) ?_
                    refine AllReadyH.cons (o := { dst := none, op := Op.store 49 (Operand.tmp 83) (Operand.tmp 82), type := 0, pos := "l4_store.go:113", after := #[{ on := 23, ground := Ground.data }, { on := 22, ground := Ground.data }, { on := 22, ground := Ground.chain }, { on := 0, ground := Ground.phase }, { on := 1, ground := Ground.phase }, { on := 2, ground := Ground.phase }, { on := 3, ground := Ground.phase }, { on := 4, ground := Ground.phase }, { on := 5, ground := Ground.phase }, { on := 6, ground := Ground.phase }, { on := 7, ground := Ground.phase }, { on := 8, ground := Ground.phase }, { on := 9, ground := Ground.phase }, { on := 10, ground := Ground.phase }, { on := 11, ground := Ground.phase }, { on := 12, ground := Ground.phase }, { on := 13, ground := Ground.phase }, { on := 14, ground := Ground.phase }, { on := 15, ground := Ground.phase }, { on := 16, ground := Ground.phase }, { on := 17, ground := Ground.phase }, { on := 18, ground := Ground.phase }, { on := 19, ground := Ground.phase }, { on := 20, ground := Ground.phase }, { on := 21, ground := Ground.phase }, { on := 22, ground := Ground.phase }], guard := none }) rfl (fun K hK => ?_) AllReadyH.nil
                    go_simp
                    have c8 := c7.setCell (p := ⟨ob, 2, none⟩) hob1 (.slice (some ⟨g, 0, none⟩) (vm + 1) cap)
                    refine hK.out _ _ (HS.out _ c8) (fun hHeld => ?_)
                    clear hK K
                    try simp only [Act.put, List.setIfInBounds_toArray, List.set_cons_zero, List.set_cons_succ]
                    refine wpAnyH_done (by kernel_rfl) ?_ _
                    go_wp2_with fail
                    go_roundw
                    case measure => simp [intOf]; omega
                    case rel =>
                      obtain ⟨hown7, hgrow, hat, nO7⟩ := H7.out
                      have hst := HOC.out.step (c := ⟨f.name, x⟩) (by omega) hob2 b6 (d0 := .string f.name) (d1 := .int .i64 s6) (d2 := .int .i64 n6) (d3 := .string t6) (d4 := .slice na6 nl6 nc6) (d5 := .slice ka6 kl6 kc6) ⟨_, _, _, _, _, rfl, HR6.out.sub fun b hb => ⟨by omega, hb.2⟩, hfn⟩ (by rw [HL.out]; exact hown7) hgrow hat
                      rw [HL.out] at hst
                      have hcl : cutL (KF t.fields (n + 1)) r.cells = cutL (KF t.fields n) r.cells ++ [⟨f.name, x⟩] := by rw [HKF.out, if_neg (by simp), ← HXX.out]; simp only [cutL, List.map_append, List.map_cons, List.map_nil]
                      refine ⟨n + 1, some ⟨g, 0, none⟩, vm + 1, cap, ys ++ [.string f.name, .int .i64 s6, .int .i64 n6, .string t6, .slice na6 nl6 nc6, .slice ka6 kl6 kc6], by omega, by go_num, ?_, set_box3 nO7 _, hid_of ?_, c8, by rw [size_set]; omega⟩
                      · rw [HKF.out, if_neg (by simp), List.length_append, ← HVM.out]; rfl
                      · rw [hcl]; exact hst.1.set 2 _
                  refine AllReadyH.cons (o := { dst := some 78, op := Op.call { callee := Callee.value (Operand.func 36), args := #[Operand.tmp 71, Operand.tmp 77], argTypes := #[51, 9] }, type := 58, pos := "l4_store.go:113", after := #[{ on := 11, ground := Ground.data }, { on := 17, ground := Ground.data }], guard := none }) rfl (fun K hK => ?_) AllReadyH.nil
                  go_simp
                  refine HLC.out.mono ?_
                  rintro e w5 ⟨⟨s5, n5, t5, na5, ka5, nl5, nc5, kl5, kc5, rfl, hr5⟩, hb5⟩
                  have b5 : Below w4.heap.size w4 w5 := below_undrew hb5
                  have z5 := b5.size
                  have c5 := hbc.trans (b5.mono zc)
                  obtain ⟨o25, -⟩ := box_at ((b5.block _ hob2).trans nO) 2 (by simp)
                  have HR5 := hid_of (hr5.mono (w' := w5) fun k hk => b5.block k (by omega))
                  clear hr5 hb5
                  refine hK.out _ _ (HS.out _ c5) (fun hHeld => ?_)
                  clear hK K
                  try simp only [Act.put, List.setIfInBounds_toArray, List.set_cons_zero, List.set_cons_succ]
                  refine wpAnyH_ready (rs := [1, 19]) (by kernel_rfl) (by simp) ?_
                  refine AllReadyH.cons (o := { dst := some 61, op := Op.load 49 (Operand.tmp 60), type := 49, pos := "l4_store.go:113", after := #[{ on := 0, ground := Ground.data }], guard := none }) rfl (fun K hK => ?_) ?_
                  · go_simp
                    refine hK.out _ _ hHeld (fun hHeld => ?_)
                    clear hK K
                    try simp only [Act.put, List.setIfInBounds_toArray, List.set_cons_zero, List.set_cons_succ]
                    refine wpAnyH_ready (rs := [19]) (by kernel_rfl) (by simp) ?_
                    refine AllReadyH.cons (o := { dst := some 79, op := Op.call { callee := Callee.value (Operand.func 35), args := #[Operand.tmp 78], argTypes := #[58] }, type := 58, pos := "l4_store.go:113", after := #[{ on := 18, ground := Ground.data }, { on := 18, ground := Ground.chain }], guard := none }) rfl (fun K hK => ?_) AllReadyH.nil
                    go_simp
                    refine (l1Copy_any x w5 B _ hsx HR5.out (by omega)).mono ?_
                    rintro e w6 ⟨s6, n6, t6, na6, ka6, nl6, nc6, kl6, kc6, rfl, hb6, hr6⟩
                    have b6 : Below w4.heap.size w4 w6 := b5.trans (hb6.mono z5)
                    have z6 := b6.size
                    have z56 := hb6.size
                    have c6 := hbc.trans (b6.mono zc)
                    obtain ⟨o26, -⟩ := box_at ((b6.block _ hob2).trans nO) 2 (by simp)
                    have HR6 := hid_of hr6
                    clear hr6 hb6
                    refine hK.out _ _ (HS.out _ c6) (fun hHeld => ?_)
                    clear hK K
                    try simp only [Act.put, List.setIfInBounds_toArray, List.set_cons_zero, List.set_cons_succ]
                    refine wpAnyH_take (i := 20) (oi := { dst := some 80, op := Op.build 62 #[(0, Operand.tmp 67), (1, Operand.tmp 79)], type := 62, pos := "l4_store.go:113", after := #[{ on := 7, ground := Ground.data }, { on := 19, ground := Ground.data }], guard := none }) (v := ?_) rfl (by kernel_rfl) (by kernel_rfl) (by kernel_rfl) (fun _ _ _ h => h) (Or.inl ⟨by rfl, ?_⟩) hHeld ?_
                    rotate_left
                    · intro w' hSw
                      (try dsimp only at hSw)
                      go_simp
                      try with_reducible rfl
                    try simp only [Act.put, List.setIfInBounds_toArray, List.set_cons_zero, List.set_cons_succ]
                    refine wpAnyH_ready (rs := [21]) (by kernel_rfl) (by simp) ?_
                    refine AllReadyH.cons (o := { dst := some 81, op := Op.buildSlice 49 1 #[(0, Operand.tmp 80)], type := 49, pos := "l4_store.go:113", after := #[{ on := 20, ground := Ground.data }], guard := none }) rfl (fun K hK => ?_) AllReadyH.nil
                    go_simp
                    have o2a : (w6.alloc (.cells #[.string f.name, .int .i64 s6, .int .i64 n6, .string t6, .slice na6 nl6 nc6, .slice ka6 kl6 kc6] 62)).cell? ⟨ob, 2, none⟩ = some (.slice va vm vc) := ((below_box w6 _).cell (p := ⟨ob, 2, none⟩) (by show ob < _; omega)).trans o26
                    have c6a := c6.trans ((below_box w6 (.cells #[.string f.name, .int .i64 s6, .int .i64 n6, .string t6, .slice na6 nl6 nc6, .slice ka6 kl6 kc6] 62)).mono (by omega))
                    refine hK.out _ _ (HS.out _ c6a) (fun hHeld => ?_)
                    clear hK K
                    try simp only [Act.put, List.setIfInBounds_toArray, List.set_cons_zero, List.set_cons_succ]
                    refine wpAnyH_ready (rs := [22]) (by kernel_rfl) (by simp) ?_
                    refine AllReadyH.cons (o := { dst := some 82, op := Op.call { callee := Callee.builtin Builtin.append, args := #[Operand.tmp 61, Operand.tmp 81], argTypes := #[49, 49] }, type := 49, pos := "l4_store.go:113", after := #[{ on := 1, ground := Ground.data }, { on := 21, ground := Ground.data }, { on := 19, ground := Ground.chain }], guard := none }) rfl (fun K hK => ?_) AllReadyH.nil
                    refine step_append_lies _ rfl (.tmp 61) (.tmp 81) 49 rfl w3.heap.size 62 i1 (.agg #[.string ByteArray.empty, .int .i64 0, .int .i64 0, .string ByteArray.empty, .slice none 0 0, .slice none 0 0]) 6 96 Tryz.underlying49 hi' hz0' hz1' hz2' rfl (by decide) (.slice va vm vc) vm ys rfl (HOV.out _ (b6.trans ((below_box w6 _).mono z6))) ⟨w6.heap.size, 0, none⟩ 1 1 [.string f.name, .int .i64 s6, .int .i64 n6, .string t6, .slice na6 nl6 nc6, .slice ka6 kl6 kc6] rfl rfl (World.news_of_block (heap_alloc_new w6 _)) (by intro u hu; simp at hu; rcases hu with rfl | rfl | rfl | rfl | rfl | rfl <;> rfl) (by omega) (by unfold maxLen; omega) (by omega) (by simp; omega) (w6.heap.size + 1) (by simp) ?_
                    intro g cap w7 hown7 hgrow hat hlt7
                    have z7 := hgrow.size
                    simp at z7
                    have nO7 := ((hgrow.block ob (by simp; omega) (fun e => HOC.out.2.1 e.symm)).trans ((below_box w6 _).block ob (by omega))).trans ((b6.block _ hob2).trans nO)
                    have c7 : Below w3.heap.size w3 w7 := c6a.grown hgrow (by simp; omega) (fun k hk => (HOC.out.1.lt k hk).1)
                    obtain ⟨o27, of27⟩ := box_at nO7 2 (by simp)
                    have H7 := hid_of (And.intro hown7 (And.intro hgrow (And.intro hat nO7)))
                    clear hown7 hgrow hat nO7
                    refine hK.out _ _ (HS.out _ c7) (fun hHeld => ?_)
                    clear hK K
                    try simp only [Act.put, List.setIfInBounds_toArray, List.set_cons_zero, List.set_cons_succ]
                    refine wpAnyH_take (i := 23) (oi := { dst := some 83, op := Op.fieldAddr 51 (Operand.tmp 9) 2, type := 0, pos := "l4_store.go:113", after := #[{ on := 0, ground := Ground.phase }, { on := 1, ground := Ground.phase }, { on := 2, ground := Ground.phase }, { on := 3, ground := Ground.phase }, { on := 4, ground := Ground.phase }, { on := 5, ground := Ground.phase }, { on := 6, ground := Ground.phase }, { on := 7, ground := Ground.phase }, { on := 8, ground := Ground.phase }, { on := 9, ground := Ground.phase }, { on := 10, ground := Ground.phase }, { on := 11, ground := Ground.phase }, { on := 12, ground := Ground.phase }, { on := 13, ground := Ground.phase }, { on := 14, ground := Ground.phase }, { on := 15, ground := Ground.phase }, { on := 16, ground := Ground.phase }, { on := 17, ground := Ground.phase }, { on := 18, ground := Ground.phase }, { on := 19, ground := Ground.phase }, { on := 20, ground := Ground.phase }, { on := 21, ground := Ground.phase }, { on := 22, ground := Ground.phase }], guard := none }) (v := ?_) rfl (by kernel_rfl) (by kernel_rfl) (by kernel_rfl) (fun _ _ _ h => h) (Or.inl ⟨by rfl, ?_⟩) hHeld ?_
                    rotate_left
                    · intro w' hSw
                      (try dsimp only at hSw)
                      go_simp
                      try with_reducible rfl
                    try simp only [Act.put, List.setIfInBounds_toArray, List.set_cons_zero, List.set_cons_succ]
                    refine wpAnyH_ready (rs := [24]) (by kernel_rfl) (by simp) ?_
                    refine AllReadyH.cons (o := { dst := none, op := Op.store 49 (Operand.tmp 83) (Operand.tmp 82), type := 0, pos := "l4_store.go:113", after := #[{ on := 23, ground := Ground.data }, { on := 22, ground := Ground.data }, { on := 22, ground := Ground.chain }, { on := 0, ground := Ground.phase }, { on := 1, ground := Ground.phase }, { on := 2, ground := Ground.phase }, { on := 3, ground := Ground.phase }, { on := 4, ground := Ground.phase }, { on := 5, ground := Ground.phase }, { on := 6, ground := Ground.phase }, { on := 7, ground := Ground.phase }, { on := 8, ground := Ground.phase }, { on := 9, ground := Ground.phase }, { on := 10, ground := Ground.phase }, { on := 11, ground := Ground.phase }, { on := 12, ground := Ground.phase }, { on := 13, ground := Ground.phase }, { on := 14, ground := Ground.phase }, { on := 15, ground := Ground.phase }, { on := 16, ground := Ground.phase }, { on := 17, ground := Ground.phase }, { on := 18, ground := Ground.phase }, { on := 19, ground := Ground.phase }, { on := 20, ground := Ground.phase }, { on := 21, ground := Ground.phase }, { on := 22, ground := Ground.phase }], guard := none }) rfl (fun K hK => ?_) AllReadyH.nil
                    go_simp
                    have c8 := c7.setCell (p := ⟨ob, 2, none⟩) hob1 (.slice (some ⟨g, 0, none⟩) (vm + 1) cap)
                    refine hK.out _ _ (HS.out _ c8) (fun hHeld => ?_)
                    clear hK K
                    try simp only [Act.put, List.setIfInBounds_toArray, List.set_cons_zero, List.set_cons_succ]
                    refine wpAnyH_done (by kernel_rfl) ?_ _
                    go_wp2_with fail
                    go_roundw
                    case measure => simp [intOf]; omega
                    case rel =>
                      obtain ⟨hown7, hgrow, hat, nO7⟩ := H7.out
                      have hst := HOC.out.step (c := ⟨f.name, x⟩) (by omega) hob2 b6 (d0 := .string f.name) (d1 := .int .i64 s6) (d2 := .int .i64 n6) (d3 := .string t6) (d4 := .slice na6 nl6 nc6) (d5 := .slice ka6 kl6 kc6) ⟨_, _, _, _, _, rfl, HR6.out.sub fun b hb => ⟨by omega, hb.2⟩, hfn⟩ (by rw [HL.out]; exact hown7) hgrow hat
                      rw [HL.out] at hst
                      have hcl : cutL (KF t.fields (n + 1)) r.cells = cutL (KF t.fields n) r.cells ++ [⟨f.name, x⟩] := by rw [HKF.out, if_neg (by simp), ← HXX.out]; simp only [cutL, List.map_append, List.map_cons, List.map_nil]
                      refine ⟨n + 1, some ⟨g, 0, none⟩, vm + 1, cap, ys ++ [.string f.name, .int .i64 s6, .int .i64 n6, .string t6, .slice na6 nl6 nc6, .slice ka6 kl6 kc6], by omega, by go_num, ?_, set_box3 nO7 _, hid_of ?_, c8, by rw [size_set]; omega⟩
                      · rw [HKF.out, if_neg (by simp), List.length_append, ← HVM.out]; rfl
                      · rw [hcl]; exact hst.1.set 2 _
                  refine AllReadyH.cons (o := { dst := some 79, op := Op.call { callee := Callee.value (Operand.func 35), args := #[Operand.tmp 78], argTypes := #[58] }, type := 58, pos := "l4_store.go:113", after := #[{ on := 18, ground := Ground.data }, { on := 18, ground := Ground.chain }], guard := none }) rfl (fun K hK => ?_) AllReadyH.nil
                  go_simp
                  refine (l1Copy_any x w5 B _ hsx HR5.out (by omega)).mono ?_
                  rintro e w6 ⟨s6, n6, t6, na6, ka6, nl6, nc6, kl6, kc6, rfl, hb6, hr6⟩
                  have b6 : Below w4.heap.size w4 w6 := b5.trans (hb6.mono z5)
                  have z6 := b6.size
                  have z56 := hb6.size
                  have c6 := hbc.trans (b6.mono zc)
                  obtain ⟨o26, -⟩ := box_at ((b6.block _ hob2).trans nO) 2 (by simp)
                  have HR6 := hid_of hr6
                  clear hr6 hb6
                  refine hK.out _ _ (HS.out _ c6) (fun hHeld => ?_)
                  clear hK K
                  try simp only [Act.put, List.setIfInBounds_toArray, List.set_cons_zero, List.set_cons_succ]
                  refine wpAnyH_take (i := 20) (oi := { dst := some 80, op := Op.build 62 #[(0, Operand.tmp 67), (1, Operand.tmp 79)], type := 62, pos := "l4_store.go:113", after := #[{ on := 7, ground := Ground.data }, { on := 19, ground := Ground.data }], guard := none }) (v := ?_) rfl (by kernel_rfl) (by kernel_rfl) (by kernel_rfl) (fun _ _ _ h => h) (Or.inl ⟨by rfl, ?_⟩) hHeld ?_
                  rotate_left
                  · intro w' hSw
                    (try dsimp only at hSw)
                    go_simp
                    try with_reducible rfl
                  try simp only [Act.put, List.setIfInBounds_toArray, List.set_cons_zero, List.set_cons_succ]
                  refine wpAnyH_ready (rs := [1, 21]) (by kernel_rfl) (by simp) ?_
                  refine AllReadyH.cons (o := { dst := some 61, op := Op.load 49 (Operand.tmp 60), type := 49, pos := "l4_store.go:113", after := #[{ on := 0, ground := Ground.data }], guard := none }) rfl (fun K hK => ?_) ?_
                  · go_simp
                    refine hK.out _ _ hHeld (fun hHeld => ?_)
                    clear hK K
                    try simp only [Act.put, List.setIfInBounds_toArray, List.set_cons_zero, List.set_cons_succ]
                    refine wpAnyH_ready (rs := [21]) (by kernel_rfl) (by simp) ?_
                    refine AllReadyH.cons (o := { dst := some 81, op := Op.buildSlice 49 1 #[(0, Operand.tmp 80)], type := 49, pos := "l4_store.go:113", after := #[{ on := 20, ground := Ground.data }], guard := none }) rfl (fun K hK => ?_) AllReadyH.nil
                    go_simp
                    have o2a : (w6.alloc (.cells #[.string f.name, .int .i64 s6, .int .i64 n6, .string t6, .slice na6 nl6 nc6, .slice ka6 kl6 kc6] 62)).cell? ⟨ob, 2, none⟩ = some (.slice va vm vc) := ((below_box w6 _).cell (p := ⟨ob, 2, none⟩) (by show ob < _; omega)).trans o26
                    have c6a := c6.trans ((below_box w6 (.cells #[.string f.name, .int .i64 s6, .int .i64 n6, .string t6, .slice na6 nl6 nc6, .slice ka6 kl6 kc6] 62)).mono (by omega))
                    refine hK.out _ _ (HS.out _ c6a) (fun hHeld => ?_)
                    clear hK K
                    try simp only [Act.put, List.setIfInBounds_toArray, List.set_cons_zero, List.set_cons_succ]
                    refine wpAnyH_ready (rs := [22]) (by kernel_rfl) (by simp) ?_
                    refine AllReadyH.cons (o := { dst := some 82, op := Op.call { callee := Callee.builtin Builtin.append, args := #[Operand.tmp 61, Operand.tmp 81], argTypes := #[49, 49] }, type := 49, pos := "l4_store.go:113", after := #[{ on := 1, ground := Ground.data }, { on := 21, ground := Ground.data }, { on := 19, ground := Ground.chain }], guard := none }) rfl (fun K hK => ?_) AllReadyH.nil
                    refine step_append_lies _ rfl (.tmp 61) (.tmp 81) 49 rfl w3.heap.size 62 i1 (.agg #[.string ByteArray.empty, .int .i64 0, .int .i64 0, .string ByteArray.empty, .slice none 0 0, .slice none 0 0]) 6 96 Tryz.underlying49 hi' hz0' hz1' hz2' rfl (by decide) (.slice va vm vc) vm ys rfl (HOV.out _ (b6.trans ((below_box w6 _).mono z6))) ⟨w6.heap.size, 0, none⟩ 1 1 [.string f.name, .int .i64 s6, .int .i64 n6, .string t6, .slice na6 nl6 nc6, .slice ka6 kl6 kc6] rfl rfl (World.news_of_block (heap_alloc_new w6 _)) (by intro u hu; simp at hu; rcases hu with rfl | rfl | rfl | rfl | rfl | rfl <;> rfl) (by omega) (by unfold maxLen; omega) (by omega) (by simp; omega) (w6.heap.size + 1) (by simp) ?_
                    intro g cap w7 hown7 hgrow hat hlt7
                    have z7 := hgrow.size
                    simp at z7
                    have nO7 := ((hgrow.block ob (by simp; omega) (fun e => HOC.out.2.1 e.symm)).trans ((below_box w6 _).block ob (by omega))).trans ((b6.block _ hob2).trans nO)
                    have c7 : Below w3.heap.size w3 w7 := c6a.grown hgrow (by simp; omega) (fun k hk => (HOC.out.1.lt k hk).1)
                    obtain ⟨o27, of27⟩ := box_at nO7 2 (by simp)
                    have H7 := hid_of (And.intro hown7 (And.intro hgrow (And.intro hat nO7)))
                    clear hown7 hgrow hat nO7
                    refine hK.out _ _ (HS.out _ c7) (fun hHeld => ?_)
                    clear hK K
                    try simp only [Act.put, List.setIfInBounds_toArray, List.set_cons_zero, List.set_cons_succ]
                    refine wpAnyH_take (i := 23) (oi := { dst := some 83, op := Op.fieldAddr 51 (Operand.tmp 9) 2, type := 0, pos := "l4_store.go:113", after := #[{ on := 0, ground := Ground.phase }, { on := 1, ground := Ground.phase }, { on := 2, ground := Ground.phase }, { on := 3, ground := Ground.phase }, { on := 4, ground := Ground.phase }, { on := 5, ground := Ground.phase }, { on := 6, ground := Ground.phase }, { on := 7, ground := Ground.phase }, { on := 8, ground := Ground.phase }, { on := 9, ground := Ground.phase }, { on := 10, ground := Ground.phase }, { on := 11, ground := Ground.phase }, { on := 12, ground := Ground.phase }, { on := 13, ground := Ground.phase }, { on := 14, ground := Ground.phase }, { on := 15, ground := Ground.phase }, { on := 16, ground := Ground.phase }, { on := 17, ground := Ground.phase }, { on := 18, ground := Ground.phase }, { on := 19, ground := Ground.phase }, { on := 20, ground := Ground.phase }, { on := 21, ground := Ground.phase }, { on := 22, ground := Ground.phase }], guard := none }) (v := ?_) rfl (by kernel_rfl) (by kernel_rfl) (by kernel_rfl) (fun _ _ _ h => h) (Or.inl ⟨by rfl, ?_⟩) hHeld ?_
                    rotate_left
                    · intro w' hSw
                      (try dsimp only at hSw)
                      go_simp
                      try with_reducible rfl
                    try simp only [Act.put, List.setIfInBounds_toArray, List.set_cons_zero, List.set_cons_succ]
                    refine wpAnyH_ready (rs := [24]) (by kernel_rfl) (by simp) ?_
                    refine AllReadyH.cons (o := { dst := none, op := Op.store 49 (Operand.tmp 83) (Operand.tmp 82), type := 0, pos := "l4_store.go:113", after := #[{ on := 23, ground := Ground.data }, { on := 22, ground := Ground.data }, { on := 22, ground := Ground.chain }, { on := 0, ground := Ground.phase }, { on := 1, ground := Ground.phase }, { on := 2, ground := Ground.phase }, { on := 3, ground := Ground.phase }, { on := 4, ground := Ground.phase }, { on := 5, ground := Ground.phase }, { on := 6, ground := Ground.phase }, { on := 7, ground := Ground.phase }, { on := 8, ground := Ground.phase }, { on := 9, ground := Ground.phase }, { on := 10, ground := Ground.phase }, { on := 11, ground := Ground.phase }, { on := 12, ground := Ground.phase }, { on := 13, ground := Ground.phase }, { on := 14, ground := Ground.phase }, { on := 15, ground := Ground.phase }, { on := 16, ground := Ground.phase }, { on := 17, ground := Ground.phase }, { on := 18, ground := Ground.phase }, { on := 19, ground := Ground.phase }, { on := 20, ground := Ground.phase }, { on := 21, ground := Ground.phase }, { on := 22, ground := Ground.phase }], guard := none }) rfl (fun K hK => ?_) AllReadyH.nil
                    go_simp
                    have c8 := c7.setCell (p := ⟨ob, 2, none⟩) hob1 (.slice (some ⟨g, 0, none⟩) (vm + 1) cap)
                    refine hK.out _ _ (HS.out _ c8) (fun hHeld => ?_)
                    clear hK K
                    try simp only [Act.put, List.setIfInBounds_toArray, List.set_cons_zero, List.set_cons_succ]
                    refine wpAnyH_done (by kernel_rfl) ?_ _
                    go_wp2_with fail
                    go_roundw
                    case measure => simp [intOf]; omega
                    case rel =>
                      obtain ⟨hown7, hgrow, hat, nO7⟩ := H7.out
                      have hst := HOC.out.step (c := ⟨f.name, x⟩) (by omega) hob2 b6 (d0 := .string f.name) (d1 := .int .i64 s6) (d2 := .int .i64 n6) (d3 := .string t6) (d4 := .slice na6 nl6 nc6) (d5 := .slice ka6 kl6 kc6) ⟨_, _, _, _, _, rfl, HR6.out.sub fun b hb => ⟨by omega, hb.2⟩, hfn⟩ (by rw [HL.out]; exact hown7) hgrow hat
                      rw [HL.out] at hst
                      have hcl : cutL (KF t.fields (n + 1)) r.cells = cutL (KF t.fields n) r.cells ++ [⟨f.name, x⟩] := by rw [HKF.out, if_neg (by simp), ← HXX.out]; simp only [cutL, List.map_append, List.map_cons, List.map_nil]
                      refine ⟨n + 1, some ⟨g, 0, none⟩, vm + 1, cap, ys ++ [.string f.name, .int .i64 s6, .int .i64 n6, .string t6, .slice na6 nl6 nc6, .slice ka6 kl6 kc6], by omega, by go_num, ?_, set_box3 nO7 _, hid_of ?_, c8, by rw [size_set]; omega⟩
                      · rw [HKF.out, if_neg (by simp), List.length_append, ← HVM.out]; rfl
                      · rw [hcl]; exact hst.1.set 2 _
                  refine AllReadyH.cons (o := { dst := some 81, op := Op.buildSlice 49 1 #[(0, Operand.tmp 80)], type := 49, pos := "l4_store.go:113", after := #[{ on := 20, ground := Ground.data }], guard := none }) rfl (fun K hK => ?_) AllReadyH.nil
                  go_simp
                  have o2a : (w6.alloc (.cells #[.string f.name, .int .i64 s6, .int .i64 n6, .string t6, .slice na6 nl6 nc6, .slice ka6 kl6 kc6] 62)).cell? ⟨ob, 2, none⟩ = some (.slice va vm vc) := ((below_box w6 _).cell (p := ⟨ob, 2, none⟩) (by show ob < _; omega)).trans o26
                  have c6a := c6.trans ((below_box w6 (.cells #[.string f.name, .int .i64 s6, .int .i64 n6, .string t6, .slice na6 nl6 nc6, .slice ka6 kl6 kc6] 62)).mono (by omega))
                  refine hK.out _ _ (HS.out _ c6a) (fun hHeld => ?_)
                  clear hK K
                  try simp only [Act.put, List.setIfInBounds_toArray, List.set_cons_zero, List.set_cons_succ]
                  refine wpAnyH_ready (rs := [1]) (by kernel_rfl) (by simp) ?_
                  refine AllReadyH.cons (o := { dst := some 61, op := Op.load 49 (Operand.tmp 60), type := 49, pos := "l4_store.go:113", after := #[{ on := 0, ground := Ground.data }], guard := none }) rfl (fun K hK => ?_) AllReadyH.nil
                  go_simp
                  refine hK.out _ _ hHeld (fun hHeld => ?_)
                  clear hK K
                  try simp only [Act.put, List.setIfInBounds_toArray, List.set_cons_zero, List.set_cons_succ]
                  refine wpAnyH_ready (rs := [22]) (by kernel_rfl) (by simp) ?_
                  refine AllReadyH.cons (o := { dst := some 82, op := Op.call { callee := Callee.builtin Builtin.append, args := #[Operand.tmp 61, Operand.tmp 81], argTypes := #[49, 49] }, type := 49, pos := "l4_store.go:113", after := #[{ on := 1, ground := Ground.data }, { on := 21, ground := Ground.data }, { on := 19, ground := Ground.chain }], guard := none }) rfl (fun K hK => ?_) AllReadyH.nil
                  refine step_append_lies _ rfl (.tmp 61) (.tmp 81) 49 rfl w3.heap.size 62 i1 (.agg #[.string ByteArray.empty, .int .i64 0, .int .i64 0, .string ByteArray.empty, .slice none 0 0, .slice none 0 0]) 6 96 Tryz.underlying49 hi' hz0' hz1' hz2' rfl (by decide) (.slice va vm vc) vm ys rfl (HOV.out _ (b6.trans ((below_box w6 _).mono z6))) ⟨w6.heap.size, 0, none⟩ 1 1 [.string f.name, .int .i64 s6, .int .i64 n6, .string t6, .slice na6 nl6 nc6, .slice ka6 kl6 kc6] rfl rfl (World.news_of_block (heap_alloc_new w6 _)) (by intro u hu; simp at hu; rcases hu with rfl | rfl | rfl | rfl | rfl | rfl <;> rfl) (by omega) (by unfold maxLen; omega) (by omega) (by simp; omega) (w6.heap.size + 1) (by simp) ?_
                  intro g cap w7 hown7 hgrow hat hlt7
                  have z7 := hgrow.size
                  simp at z7
                  have nO7 := ((hgrow.block ob (by simp; omega) (fun e => HOC.out.2.1 e.symm)).trans ((below_box w6 _).block ob (by omega))).trans ((b6.block _ hob2).trans nO)
                  have c7 : Below w3.heap.size w3 w7 := c6a.grown hgrow (by simp; omega) (fun k hk => (HOC.out.1.lt k hk).1)
                  obtain ⟨o27, of27⟩ := box_at nO7 2 (by simp)
                  have H7 := hid_of (And.intro hown7 (And.intro hgrow (And.intro hat nO7)))
                  clear hown7 hgrow hat nO7
                  refine hK.out _ _ (HS.out _ c7) (fun hHeld => ?_)
                  clear hK K
                  try simp only [Act.put, List.setIfInBounds_toArray, List.set_cons_zero, List.set_cons_succ]
                  refine wpAnyH_take (i := 23) (oi := { dst := some 83, op := Op.fieldAddr 51 (Operand.tmp 9) 2, type := 0, pos := "l4_store.go:113", after := #[{ on := 0, ground := Ground.phase }, { on := 1, ground := Ground.phase }, { on := 2, ground := Ground.phase }, { on := 3, ground := Ground.phase }, { on := 4, ground := Ground.phase }, { on := 5, ground := Ground.phase }, { on := 6, ground := Ground.phase }, { on := 7, ground := Ground.phase }, { on := 8, ground := Ground.phase }, { on := 9, ground := Ground.phase }, { on := 10, ground := Ground.phase }, { on := 11, ground := Ground.phase }, { on := 12, ground := Ground.phase }, { on := 13, ground := Ground.phase }, { on := 14, ground := Ground.phase }, { on := 15, ground := Ground.phase }, { on := 16, ground := Ground.phase }, { on := 17, ground := Ground.phase }, { on := 18, ground := Ground.phase }, { on := 19, ground := Ground.phase }, { on := 20, ground := Ground.phase }, { on := 21, ground := Ground.phase }, { on := 22, ground := Ground.phase }], guard := none }) (v := ?_) rfl (by kernel_rfl) (by kernel_rfl) (by kernel_rfl) (fun _ _ _ h => h) (Or.inl ⟨by rfl, ?_⟩) hHeld ?_
                  rotate_left
                  · intro w' hSw
                    (try dsimp only at hSw)
                    go_simp
                    try with_reducible rfl
                  try simp only [Act.put, List.setIfInBounds_toArray, List.set_cons_zero, List.set_cons_succ]
                  refine wpAnyH_ready (rs := [24]) (by kernel_rfl) (by simp) ?_
                  refine AllReadyH.cons (o := { dst := none, op := Op.store 49 (Operand.tmp 83) (Operand.tmp 82), type := 0, pos := "l4_store.go:113", after := #[{ on := 23, ground := Ground.data }, { on := 22, ground := Ground.data }, { on := 22, ground := Ground.chain }, { on := 0, ground := Ground.phase }, { on := 1, ground := Ground.phase }, { on := 2, ground := Ground.phase }, { on := 3, ground := Ground.phase }, { on := 4, ground := Ground.phase }, { on := 5, ground := Ground.phase }, { on := 6, ground := Ground.phase }, { on := 7, ground := Ground.phase }, { on := 8, ground := Ground.phase }, { on := 9, ground := Ground.phase }, { on := 10, ground := Ground.phase }, { on := 11, ground := Ground.phase }, { on := 12, ground := Ground.phase }, { on := 13, ground := Ground.phase }, { on := 14, ground := Ground.phase }, { on := 15, ground := Ground.phase }, { on := 16, ground := Ground.phase }, { on := 17, ground := Ground.phase }, { on := 18, ground := Ground.phase }, { on := 19, ground := Ground.phase }, { on := 20, ground := Ground.phase }, { on := 21, ground := Ground.phase }, { on := 22, ground := Ground.phase }], guard := none }) rfl (fun K hK => ?_) AllReadyH.nil
                  go_simp
                  have c8 := c7.setCell (p := ⟨ob, 2, none⟩) hob1 (.slice (some ⟨g, 0, none⟩) (vm + 1) cap)
                  refine hK.out _ _ (HS.out _ c8) (fun hHeld => ?_)
                  clear hK K
                  try simp only [Act.put, List.setIfInBounds_toArray, List.set_cons_zero, List.set_cons_succ]
                  refine wpAnyH_done (by kernel_rfl) ?_ _
                  go_wp2_with fail
                  go_roundw
                  case measure => simp [intOf]; omega
                  case rel =>
                    obtain ⟨hown7, hgrow, hat, nO7⟩ := H7.out
                    have hst := HOC.out.step (c := ⟨f.name, x⟩) (by omega) hob2 b6 (d0 := .string f.name) (d1 := .int .i64 s6) (d2 := .int .i64 n6) (d3 := .string t6) (d4 := .slice na6 nl6 nc6) (d5 := .slice ka6 kl6 kc6) ⟨_, _, _, _, _, rfl, HR6.out.sub fun b hb => ⟨by omega, hb.2⟩, hfn⟩ (by rw [HL.out]; exact hown7) hgrow hat
                    rw [HL.out] at hst
                    have hcl : cutL (KF t.fields (n + 1)) r.cells = cutL (KF t.fields n) r.cells ++ [⟨f.name, x⟩] := by rw [HKF.out, if_neg (by simp), ← HXX.out]; simp only [cutL, List.map_append, List.map_cons, List.map_nil]
                    refine ⟨n + 1, some ⟨g, 0, none⟩, vm + 1, cap, ys ++ [.string f.name, .int .i64 s6, .int .i64 n6, .string t6, .slice na6 nl6 nc6, .slice ka6 kl6 kc6], by omega, by go_num, ?_, set_box3 nO7 _, hid_of ?_, c8, by rw [size_set]; omega⟩
                    · rw [HKF.out, if_neg (by simp), List.length_append, ← HVM.out]; rfl
                    · rw [hcl]; exact hst.1.set 2 _
                · rw [hfar] at f4
                  rw [hfar] at HKF
                  go_wp2_with fail
                  go_roundw
                  case measure => simp [intOf]; omega
                  case rel => exact ⟨n + 1, va, vm, vc, ys, by omega, by go_num, by rw [HKF.out, if_pos rfl]; exact HVM.out, nO, by rw [HKF.out, if_pos rfl]; exact HOC, hbc, hob2⟩
              · have e : n = t.fields.length := by omega
                subst e
                have hlenK : 96 * (cutL (KF t.fields t.fields.length) r.cells).length ≤ 281474976710656 := by rw [cutL_len]; have := KF_len t.fields t.fields.length; omega
                obtain ⟨a', c', he, hc', hCe⟩ := HOC.out.cells hlenK
                simp only [Value.slice.injEq] at he
                obtain ⟨rfl, hvm, rfl⟩ := he
                have HRO : Hid (RoRep w4 (fun b => w2.heap.size ≤ b ∧ b < w4.heap.size) (cutR t r) (.agg #[.string t.name, .int .i64 r.id, .slice va vm vc])) := hid_of ⟨va, vc, by rw [hvm, ← HTE.out]; rfl, hCe.sub fun b hb => ⟨by omega, hb.2.1⟩, hc', by show r.type.size ≤ maxLen; exact htz⟩
                have b24 : Below w2.heap.size w2 w4 := b23.trans (hbc.mono z23)
                have HOW := hid_of (HO.out.keep b24)
                have bx := below_box w4 (.cells #[.string t.name, .int .i64 r.id, .slice va vm vc] 51)
                have K1 := block_new (w := w4) #[.string t.name, .int .i64 r.id, .slice va vm vc] 51 rfl
                have HOX := hid_of (HOW.out.keep bx)
                have hlen : (cutTs types rs k ++ cutTo t rs j).length ≤ 6291456 := by
                  have h1 : k * rs.length ≤ 5 * 1048576 := Nat.mul_le_mul (by omega) hrl
                  rw [List.length_append]; omega
                obtain ⟨N, hN⟩ : ∃ N, N = (cutTs types rs k ++ cutTo t rs j).length := ⟨_, rfl⟩
                rw [← hN] at hlen
                have HNN := hid_of hN
                clear hN hCe hvm hlenK
                go_wp2_with (at_builtin; refine wpList_append_lies _ rfl _ _ 28 rfl (w.heap.size + 1) 51 i0 (.agg #[.string ByteArray.empty, .int .i64 0, .slice none 0 0]) 3 48 Tryz.underlying28 hi hz0 hz1 hz2 rfl (by decide) v N xs rfl ?own ⟨w4.heap.size, 0, none⟩ 1 1 [.string t.name, .int .i64 r.id, .slice va vm vc] rfl rfl ?c1 ?c2 (by omega) ?c3 (by omega) (by simp; omega) _ rfl ?_)
                case own => rw [HNN.out]; exact HOX.out.1
                case c1 => exact World.news_of_block K1
                case c2 => intro u hu; simp at hu; rcases hu with rfl | rfl | rfl <;> rfl
                case c3 => unfold maxLen; omega
                intro g cap w5 hown5 hgrow hat hlt5
                have z5 := hgrow.size
                simp at z5
                have HG := hid_of (And.intro hown5 (And.intro hgrow hat))
                clear hown5 hgrow hat K1
                go_wp2_with fail
                go_roundw
                case measure => simp [intOf]; omega
                case rel =>
                  obtain ⟨hown5, hgrow, hat⟩ := HG.out
                  have hst := HO.out.step (r := cutR t r) (by omega) b24 HRO.out (by rw [← HNN.out]; exact hown5) hgrow (by simpa using hat)
                  rw [← HNN.out] at hst
                  refine ⟨j + 1, _, xs ++ [.string t.name, .int .i64 r.id, .slice va vm vc], by omega, by go_num, rfl, ?_, ?_, ?_, ?_, by omega⟩
                  · rw [HTO.out, if_pos trivial, ← List.append_assoc]
                    exact hid_of hst
                  · refine hid_of (fun e => ?_)
                    have e' : g = w0.heap.size := by simpa [Value.ownBlock] using e
                    rcases hat with h1 | h1
                    · exact HNB.out (by rw [h1, e'])
                    · omega
                  · exact ((hgrow.block _ (by simp; omega) (fun e => HNB.out e.symm)).trans (bx.block _ (by omega))).trans ((b24.block _ (by omega)).trans nT)
                  · exact ((hbel2.trans (b24.mono (by omega))).trans (bx.mono (by omega))).grown hgrow (by simp; omega) (fun k hk => (HOX.out.1.lt k hk).1)
        · have e : j = rs.length := by omega
          subst e
          go_wp2_with fail
          go_roundw
          case measure => simp [intOf]; omega
          case rel => exact ⟨k + 1, v, xs, by omega, by go_num, rfl, by rw [HTS.out]; exact HO, hbel2⟩
    · have e : k = types.length := by omega
      subst e
      have hlenT := cutTs_len types rs types.length
      have hlen : (cutTs types rs types.length).length ≤ 5242880 := by
        have h1 : types.length * rs.length ≤ 5 * 1048576 := Nat.mul_le_mul (by omega) hrl
        omega
      obtain ⟨a', c', he, hRo⟩ := HO.out.rows (by omega)
      have HRo := hid_of hRo
      have HE := hid_of he
      clear hRo he
      go_wp2_with fail
      go_ret
      exact ⟨a', c', by rw [HE.out]; rfl, bw, HRo.out.sub fun b hb => ⟨by omega, hb.2⟩⟩
end Go.Proofs.YtbpdchlbhfjddaaGreat
