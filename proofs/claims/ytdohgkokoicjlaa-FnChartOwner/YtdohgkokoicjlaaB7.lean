import Derived.Test.YtdohgkokoicjlaaB6
import Derived.Shelf.Strings.Builder1
import Derived.Shelf.Strings.Builder2
import Derived.Shelf.Strings.OnBuilder
import Derived.Shelf.Strings.BuilderK
set_option linter.unusedSimpArgs false
set_option linter.unusedVariables false
namespace Go.Proofs.Ytdohgkokoicjlaa
open Go.RowKit
theorem FRep.parts {w : World} {P : Nat → Prop} {f : F} {c0 c1 c2 c3 c4 c5 c6 c7 : Value} (h : FRep w P f (.agg #[c0, c1, c2, c3, c4, c5, c6, c7])) :
    c0 = .string f.name ∧ c1 = .string f.of ∧ c2 = .bool f.list ∧ c3 = .bool f.must ∧ c4 = .bool f.far ∧ c5 = .bool f.hidden ∧ c6 = .bool f.shared ∧ ∃ na nc, c7 = .slice na f.needs.length nc ∧ Strs w P f.needs na ∧ f.needs.length ≤ nc ∧ f.name.size ≤ maxLen ∧ f.of.size ≤ maxLen := by
  obtain ⟨na, nc, hv, h2, h3, h4, h5, -⟩ := h
  simp only [Value.agg.injEq, Array.mk.injEq, List.cons.injEq, and_true] at hv
  obtain ⟨e0, e1, e2, e3, e4, e5, e6, e7⟩ := hv
  exact ⟨e0, e1, e2, e3, e4, e5, e6, na, nc, e7, h2, h3, h4, h5⟩
def fieldIx (t : T) (s : ByteArray) : Int := firstTo (fun i => (fth t.fields i).name.toList == s.toList) t.fields.length
def keyOkF (f : F) : Bool := isT f.of [105, 110, 116] && !f.list && f.must && !f.far && !f.hidden && (f.needs.length : Int) == 0
def keyB (t : T) : Bool := t.key.toList.isEmpty || (decide (0 ≤ fieldIx t t.key) && keyOkF (fth t.fields (fieldIx t t.key).toNat))
set_option maxHeartbeats 1600000 in
theorem l2Key_any (t : T) (w : World) (B : Nat) (v : Value) (hR : TRep w (· < B) t v) (hB : B ≤ w.heap.size) :
    Calls Try.prog 48 #[v] w fun e w' => e = .returned (.bool (keyB t)) ∧ Below w.heap.size w w' := by
  have hR' := hR
  obtain ⟨name, key, fields⟩ := t
  obtain ⟨fa, fc, rfl, hK, hnc, hn, ho⟩ := hR
  simp only at hK hnc hn ho
  cases hke : key.toList.isEmpty
  case true =>
    go_enter Try.func48, Try.ntmps48
    go_wp2_with fail
    go_ret
    exact ⟨ret_bool (by simp [keyB, hke]), below_box _ _⟩
  have hcall : ∀ o, Calls Try.prog 47 #[.agg #[.string name, .string key, .slice fa fields.length fc], .string key] (w.alloc o) fun e w' => e = .returned (.int .i64 (fieldIx ⟨name, key, fields⟩ key)) ∧ Below (w.alloc o).heap.size (w.alloc o) w' := fun o =>
    l2Field_any ⟨name, key, fields⟩ (w.alloc o) B _ key (hR'.under ((below_box w o).mono hB)) (by simp; omega)
  have hkb : Hid (keyB ⟨name, key, fields⟩ = (decide (0 ≤ fieldIx ⟨name, key, fields⟩ key) && keyOkF (fth fields (fieldIx ⟨name, key, fields⟩ key).toNat))) := by
    show _ = _; simp [keyB, hke]
  rcases firstTo_cases (fun i => (fth fields i).name.toList == key.toList) fields.length with ⟨hix, -⟩ | ⟨k, hix, hlt, -, -⟩
  · have hix' : fieldIx ⟨name, key, fields⟩ key = -1 := hix
    rw [hix'] at hcall hkb
    go_enter Try.func48, Try.ntmps48
    go_wp2_with (go_at_call 47; refine (hcall _).mono ?_; rintro e w1 ⟨rfl, hb1⟩)
    go_ret
    exact ⟨ret_bool (by rw [hkb.out]; simp), (below_box w _).trans (hb1.mono (by simp))⟩
  · have hix' : fieldIx ⟨name, key, fields⟩ key = (k : Int) := hix
    rw [hix'] at hcall hkb
    have h3 := hK.1
    obtain ⟨-, C, hA, hr⟩ := hK
    obtain ⟨b, off, rfl, hbB, hc⟩ := hA (by omega)
    have hck := hc k hlt
    obtain ⟨e0, e1, e2, e3, e4, e5, e6, na, nc, e7, -⟩ := (hr k hlt).parts
    have E0 := e0
    clear e0
    clear hc hr hA
    have hkf : Hid (keyB ⟨name, key, fields⟩ = keyOkF (fth fields k)) := by show _ = _; rw [hkb.out]; simp
    clear hkb
    generalize fth fields k = f at *
    obtain ⟨fn, of, l, m, fr, hi, sh, needs⟩ := f
    simp only at E0 e1 e2 e3 e4 e5 e6 e7
    have hcells : ∀ w1, Below w.heap.size w w1 → (w1.cell? ⟨b, off + k * 8, none⟩ = some (.string fn) ∧ w1.cell? ⟨b, off + k * 8 + 1, none⟩ = some (.string of) ∧ w1.cell? ⟨b, off + k * 8 + 2, none⟩ = some (.bool l) ∧ w1.cell? ⟨b, off + k * 8 + 3, none⟩ = some (.bool m) ∧ w1.cell? ⟨b, off + k * 8 + 4, none⟩ = some (.bool fr) ∧ w1.cell? ⟨b, off + k * 8 + 5, none⟩ = some (.bool hi) ∧ w1.cell? ⟨b, off + k * 8 + 6, none⟩ = some (.bool sh) ∧ w1.cell? ⟨b, off + k * 8 + 7, none⟩ = some (.slice na needs.length nc)) := fun w1 hb => by
      have hx : ∀ j, j < 8 → w1.cell? ⟨b, off + k * 8 + j, none⟩ = some (C k j) := fun j hj => (hb.cell (p := ⟨b, off + k * 8 + j, none⟩) (by show b < _; omega)).trans (hck j hj)
      have x0 := hx 0 (by omega); have x1 := hx 1 (by omega); have x2 := hx 2 (by omega); have x3 := hx 3 (by omega)
      have x4 := hx 4 (by omega); have x5 := hx 5 (by omega); have x6 := hx 6 (by omega); have x7 := hx 7 (by omega)
      rw [e1] at x1; rw [e2] at x2; rw [e3] at x3; rw [e4] at x4; rw [e5] at x5; rw [e6] at x6; rw [e7] at x7
      exact ⟨by rw [E0] at x0; exact x0, x1, x2, x3, x4, x5, x6, x7⟩
    have hki : (k : Int) < (fields.length : Int) := by omega
    clear hck e1 e2 e3 e4 e5 e6 e7 E0
    cases hof : (of.toList == [105, 110, 116])
    case false =>
      go_enter Try.func48, Try.ntmps48
      go_wp2_with (
        go_at_call 47
        refine (hcall _).mono ?_
        rintro e w1 ⟨rfl, hb1⟩
        have hbw : Below w.heap.size w w1 := (below_box w _).trans (hb1.mono (by simp))
        obtain ⟨x0, x1, x2, x3, x4, x5, x6, x7⟩ := hcells w1 hbw
        have hx2 : w1.cell? ⟨w.heap.size, 2, none⟩ = some (.slice (some ⟨b, off, none⟩) fields.length fc) := by rw [hb1.cell (by simp)]; simp)
      go_ret
      exact ⟨ret_bool (by rw [hkf.out]; simp [keyOkF, isT, hof]), hbw.trans ((below_box w1 _).mono hbw.size)⟩
    cases l
    case true =>
      go_enter Try.func48, Try.ntmps48
      go_wp2_with (
        go_at_call 47
        refine (hcall _).mono ?_
        rintro e w1 ⟨rfl, hb1⟩
        have hbw : Below w.heap.size w w1 := (below_box w _).trans (hb1.mono (by simp))
        obtain ⟨x0, x1, x2, x3, x4, x5, x6, x7⟩ := hcells w1 hbw
        have hx2 : w1.cell? ⟨w.heap.size, 2, none⟩ = some (.slice (some ⟨b, off, none⟩) fields.length fc) := by rw [hb1.cell (by simp)]; simp)
      go_ret
      exact ⟨ret_bool (by rw [hkf.out]; simp [keyOkF, isT, hof]), hbw.trans ((below_box w1 _).mono hbw.size)⟩
    cases m
    case false =>
      go_enter Try.func48, Try.ntmps48
      go_wp2_with (
        go_at_call 47
        refine (hcall _).mono ?_
        rintro e w1 ⟨rfl, hb1⟩
        have hbw : Below w.heap.size w w1 := (below_box w _).trans (hb1.mono (by simp))
        obtain ⟨x0, x1, x2, x3, x4, x5, x6, x7⟩ := hcells w1 hbw
        have hx2 : w1.cell? ⟨w.heap.size, 2, none⟩ = some (.slice (some ⟨b, off, none⟩) fields.length fc) := by rw [hb1.cell (by simp)]; simp)
      go_ret
      exact ⟨ret_bool (by rw [hkf.out]; simp [keyOkF, isT, hof]), hbw.trans ((below_box w1 _).mono hbw.size)⟩
    cases fr
    case true =>
      go_enter Try.func48, Try.ntmps48
      go_wp2_with (
        go_at_call 47
        refine (hcall _).mono ?_
        rintro e w1 ⟨rfl, hb1⟩
        have hbw : Below w.heap.size w w1 := (below_box w _).trans (hb1.mono (by simp))
        obtain ⟨x0, x1, x2, x3, x4, x5, x6, x7⟩ := hcells w1 hbw
        have hx2 : w1.cell? ⟨w.heap.size, 2, none⟩ = some (.slice (some ⟨b, off, none⟩) fields.length fc) := by rw [hb1.cell (by simp)]; simp)
      go_ret
      exact ⟨ret_bool (by rw [hkf.out]; simp [keyOkF, isT, hof]), hbw.trans ((below_box w1 _).mono hbw.size)⟩
    cases hi
    case true =>
      go_enter Try.func48, Try.ntmps48
      go_wp2_with (
        go_at_call 47
        refine (hcall _).mono ?_
        rintro e w1 ⟨rfl, hb1⟩
        have hbw : Below w.heap.size w w1 := (below_box w _).trans (hb1.mono (by simp))
        obtain ⟨x0, x1, x2, x3, x4, x5, x6, x7⟩ := hcells w1 hbw
        have hx2 : w1.cell? ⟨w.heap.size, 2, none⟩ = some (.slice (some ⟨b, off, none⟩) fields.length fc) := by rw [hb1.cell (by simp)]; simp)
      go_ret
      exact ⟨ret_bool (by rw [hkf.out]; simp [keyOkF, isT, hof]), hbw.trans ((below_box w1 _).mono hbw.size)⟩
    go_enter Try.func48, Try.ntmps48
    go_wp2_with (
      go_at_call 47
      refine (hcall _).mono ?_
      rintro e w1 ⟨rfl, hb1⟩
      have hbw : Below w.heap.size w w1 := (below_box w _).trans (hb1.mono (by simp))
      obtain ⟨x0, x1, x2, x3, x4, x5, x6, x7⟩ := hcells w1 hbw
      have hx2 : w1.cell? ⟨w.heap.size, 2, none⟩ = some (.slice (some ⟨b, off, none⟩) fields.length fc) := by rw [hb1.cell (by simp)]; simp)
    go_ret
    exact ⟨ret_bool (by rw [hkf.out]; simp [keyOkF, isT, hof]), hbw.trans ((below_box w1 _).mono hbw.size)⟩
end Go.Proofs.Ytdohgkokoicjlaa
namespace Go.Proofs.Ytdohgkokoicjlaa
open Go.RowKit Go.Shelf
def lays166_ren : Go.Shelf.Ren := ⟨fun | 166 => 38 | 240 => 66 | 276 => 84 | n => n, fun | 0 => 0 | 3 => 3 | 4 => 4 | 5 => 5 | 9 => 9 | 20 => 20 | 37 => 22 | 70 => 82 | 72 => 84 | 75 => 61 | 80 => 93 | 164 => 123 | n => n, fun | n => n⟩
theorem lays166 : Go.Proofs.Lays.n166 Try.prog lays166_ren := {
  mixed := by kernel_rfl
  f166 := Try.func38.trans (congrArg some (by kernel_rfl))
  f240 := Try.func66.trans (congrArg some (by kernel_rfl))
  f276 := Try.func84.trans (congrArg some (by kernel_rfl))
  t0 := Try.underlying0
  a0 := Try.isAgg0
  z0 := Try.sizeOf0
  v0 := Try.zeroValue0
  t3 := Try.underlying3
  a3 := Try.isAgg3
  z3 := Try.sizeOf3
  v3 := Try.zeroValue3
  t4 := Try.underlying4
  a4 := Try.isAgg4
  z4 := Try.sizeOf4
  v4 := Try.zeroValue4
  t9 := Try.underlying9
  a9 := Try.isAgg9
  z9 := Try.sizeOf9
  v9 := Try.zeroValue9
  t20 := Try.underlying20
  a20 := Try.isAgg20
  z20 := Try.sizeOf20
  v20 := Try.zeroValue20
  t37 := Try.underlying22
  a37 := Try.isAgg22
  z37 := Try.sizeOf22
  v37 := Try.zeroValue22
  t70 := Try.underlying82
  a70 := Try.isAgg82
  z70 := Try.sizeOf82
  v70 := Try.zeroValue82
  t72 := Try.underlying84
  a72 := Try.isAgg84
  z72 := Try.sizeOf84
  v72 := Try.zeroValue84
  t75 := Try.underlying61
  a75 := Try.isAgg61
  z75 := Try.sizeOf61
  v75 := Try.zeroValue61
  t164 := Try.underlying123
  a164 := Try.isAgg123
  z164 := Try.sizeOf123
  v164 := Try.zeroValue123 }
theorem extra166 : Builder.Extra Try.prog lays166_ren := {
  sizeBuilder := by kernel_rfl
  liesBuilder := by kernel_rfl
  t5 := Try.underlying5
  a5 := Try.isAgg5
  z5 := Try.sizeOf5
  v5 := Try.zeroValue5
  infoByte := by kernel_rfl
  cellsByte := by kernel_rfl
  sizeByte := by kernel_rfl
  neB5 := by decide }
def lays167_ren : Go.Shelf.Ren := ⟨fun | 167 => 39 | 240 => 66 | 276 => 84 | n => n, fun | 0 => 0 | 4 => 4 | 5 => 5 | 9 => 9 | 20 => 20 | 37 => 22 | 70 => 82 | 72 => 84 | 75 => 61 | 80 => 93 | 164 => 123 | n => n, fun | n => n⟩
theorem lays167 : Go.Proofs.Lays.n167 Try.prog lays167_ren := {
  mixed := by kernel_rfl
  f167 := Try.func39.trans (congrArg some (by kernel_rfl))
  f240 := Try.func66.trans (congrArg some (by kernel_rfl))
  f276 := Try.func84.trans (congrArg some (by kernel_rfl))
  t0 := Try.underlying0
  a0 := Try.isAgg0
  z0 := Try.sizeOf0
  v0 := Try.zeroValue0
  t4 := Try.underlying4
  a4 := Try.isAgg4
  z4 := Try.sizeOf4
  v4 := Try.zeroValue4
  t5 := Try.underlying5
  a5 := Try.isAgg5
  z5 := Try.sizeOf5
  v5 := Try.zeroValue5
  t9 := Try.underlying9
  a9 := Try.isAgg9
  z9 := Try.sizeOf9
  v9 := Try.zeroValue9
  t20 := Try.underlying20
  a20 := Try.isAgg20
  z20 := Try.sizeOf20
  v20 := Try.zeroValue20
  t37 := Try.underlying22
  a37 := Try.isAgg22
  z37 := Try.sizeOf22
  v37 := Try.zeroValue22
  t70 := Try.underlying82
  a70 := Try.isAgg82
  z70 := Try.sizeOf82
  v70 := Try.zeroValue82
  t72 := Try.underlying84
  a72 := Try.isAgg84
  z72 := Try.sizeOf84
  v72 := Try.zeroValue84
  t75 := Try.underlying61
  a75 := Try.isAgg61
  z75 := Try.sizeOf61
  v75 := Try.zeroValue61
  t164 := Try.underlying123
  a164 := Try.isAgg123
  z164 := Try.sizeOf123
  v164 := Try.zeroValue123 }
theorem extra167 : Builder.Extra Try.prog lays167_ren := {
  sizeBuilder := by kernel_rfl
  liesBuilder := by kernel_rfl
  t5 := Try.underlying5
  a5 := Try.isAgg5
  z5 := Try.sizeOf5
  v5 := Try.zeroValue5
  infoByte := by kernel_rfl
  cellsByte := by kernel_rfl
  sizeByte := by kernel_rfl
  neB5 := by decide }
def lays169_ren : Go.Shelf.Ren := ⟨fun | 169 => 42 | n => n, fun | 0 => 0 | 3 => 3 | 5 => 5 | 9 => 9 | 37 => 22 | 70 => 82 | 72 => 84 | 80 => 93 | 127 => 113 | n => n, fun | n => n⟩
theorem lays169 : Go.Proofs.Lays.n169 Try.prog lays169_ren := {
  mixed := by kernel_rfl
  f169 := Try.func42.trans (congrArg some (by kernel_rfl))
  t0 := Try.underlying0
  a0 := Try.isAgg0
  z0 := Try.sizeOf0
  v0 := Try.zeroValue0
  t3 := Try.underlying3
  a3 := Try.isAgg3
  z3 := Try.sizeOf3
  v3 := Try.zeroValue3
  t9 := Try.underlying9
  a9 := Try.isAgg9
  z9 := Try.sizeOf9
  v9 := Try.zeroValue9
  t37 := Try.underlying22
  a37 := Try.isAgg22
  z37 := Try.sizeOf22
  v37 := Try.zeroValue22
  t70 := Try.underlying82
  a70 := Try.isAgg82
  z70 := Try.sizeOf82
  v70 := Try.zeroValue82
  t72 := Try.underlying84
  a72 := Try.isAgg84
  z72 := Try.sizeOf84
  v72 := Try.zeroValue84
  t127 := Try.underlying113
  a127 := Try.isAgg113
  z127 := Try.sizeOf113
  v127 := Try.zeroValue113 }
theorem extra169 : Builder.Extra Try.prog lays169_ren := {
  sizeBuilder := by kernel_rfl
  liesBuilder := by kernel_rfl
  t5 := Try.underlying5
  a5 := Try.isAgg5
  z5 := Try.sizeOf5
  v5 := Try.zeroValue5
  infoByte := by kernel_rfl
  cellsByte := by kernel_rfl
  sizeByte := by kernel_rfl
  neB5 := by decide }
def lays156_ren : Go.Shelf.Ren := ⟨fun | 156 => 70 | 165 => 85 | 166 => 38 | 169 => 42 | 240 => 66 | 241 => 88 | 276 => 84 | 277 => 89 | n => n, fun | 0 => 0 | 3 => 3 | 4 => 4 | 5 => 5 | 9 => 9 | 20 => 20 | 31 => 35 | 37 => 22 | 70 => 82 | 72 => 84 | 75 => 61 | 76 => 85 | 80 => 93 | 127 => 113 | 164 => 123 | n => n, fun | n => n⟩
theorem lays156 : Go.Proofs.Lays.n156 Try.prog lays156_ren := {
  mixed := by kernel_rfl
  f156 := Try.func70.trans (congrArg some (by kernel_rfl))
  f165 := Try.func85.trans (congrArg some (by kernel_rfl))
  f166 := Try.func38.trans (congrArg some (by kernel_rfl))
  f169 := Try.func42.trans (congrArg some (by kernel_rfl))
  f240 := Try.func66.trans (congrArg some (by kernel_rfl))
  f241 := Try.func88.trans (congrArg some (by kernel_rfl))
  f276 := Try.func84.trans (congrArg some (by kernel_rfl))
  f277 := Try.func89.trans (congrArg some (by kernel_rfl))
  t0 := Try.underlying0
  a0 := Try.isAgg0
  z0 := Try.sizeOf0
  v0 := Try.zeroValue0
  t3 := Try.underlying3
  a3 := Try.isAgg3
  z3 := Try.sizeOf3
  v3 := Try.zeroValue3
  t4 := Try.underlying4
  a4 := Try.isAgg4
  z4 := Try.sizeOf4
  v4 := Try.zeroValue4
  t9 := Try.underlying9
  a9 := Try.isAgg9
  z9 := Try.sizeOf9
  v9 := Try.zeroValue9
  t20 := Try.underlying20
  a20 := Try.isAgg20
  z20 := Try.sizeOf20
  v20 := Try.zeroValue20
  t31 := Try.underlying35
  a31 := Try.isAgg35
  z31 := Try.sizeOf35
  v31 := Try.zeroValue35
  t37 := Try.underlying22
  a37 := Try.isAgg22
  z37 := Try.sizeOf22
  v37 := Try.zeroValue22
  t70 := Try.underlying82
  a70 := Try.isAgg82
  z70 := Try.sizeOf82
  v70 := Try.zeroValue82
  t72 := Try.underlying84
  a72 := Try.isAgg84
  z72 := Try.sizeOf84
  v72 := Try.zeroValue84
  t75 := Try.underlying61
  a75 := Try.isAgg61
  z75 := Try.sizeOf61
  v75 := Try.zeroValue61
  t76 := Try.underlying85
  a76 := Try.isAgg85
  z76 := Try.sizeOf85
  v76 := Try.zeroValue85
  t127 := Try.underlying113
  a127 := Try.isAgg113
  z127 := Try.sizeOf113
  v127 := Try.zeroValue113
  t164 := Try.underlying123
  a164 := Try.isAgg123
  z164 := Try.sizeOf123
  v164 := Try.zeroValue123 }
theorem extra156 : Builder.Extra Try.prog lays156_ren := {
  sizeBuilder := by kernel_rfl
  liesBuilder := by kernel_rfl
  t5 := Try.underlying5
  a5 := Try.isAgg5
  z5 := Try.sizeOf5
  v5 := Try.zeroValue5
  infoByte := by kernel_rfl
  cellsByte := by kernel_rfl
  sizeByte := by kernel_rfl
  neB5 := by decide }
theorem join_any (bk o c : Nat) (xs : List ByteArray) (sep : ByteArray) (w : World) (hcells : ∀ (j : Nat) x, xs[j]? = some x → w.cell? ⟨bk, o + j, none⟩ = some (.string x)) (hbk : bk < w.heap.size) (hN : xs.length ≤ 140737488355328) (hcap : xs.length ≤ c) (hlen : (Lib.join (xs.map (·.data.toList)) sep.data.toList).length ≤ 140737488355328) :
    Calls Try.prog 70 #[.slice (some ⟨bk, o, none⟩) xs.length c, .string sep] w fun e w' => e = .returned (.string ⟨(Lib.join (xs.map (·.data.toList)) sep.data.toList).toArray⟩) ∧ Below w.heap.size w w' := Any.strings_Join lays156 extra156 bk o c xs sep w hcells hbk hN hcap hlen
def Bld (B b : Nat) (l : List UInt8) (w : World) : Prop := Lib.IsBuilderF 84 5 B b (Lib.byteCells l) w
def Kept (b : Nat) (w w' : World) : Prop := Lib.OthersKept 5 (some b) w w'
theorem byteCells_append (l m : List UInt8) : Lib.byteCells l ++ Lib.byteCells m = Lib.byteCells (l ++ m) := by simp [Lib.byteCells]
theorem bldString_any (B b : Nat) (l : List UInt8) (s : ByteArray) (w : World) (h : Bld B b l w) (hlen : l.length + s.size ≤ 140737488355328) (hBw : B ≤ w.heap.size) :
    Calls Try.prog 38 #[.pointer (some ⟨b, 0, none⟩), .string s] w fun e w' => e = .returned (.tuple #[.int .i64 s.size, .nilIface]) ∧ Bld B b (l ++ s.data.toList) w' ∧ Below B w w' ∧ Kept b w w' :=
  (Any.Builder_WriteString_k lays166 extra166 B b _ s w h (by rw [Lib.byteCells_length]; exact hlen) hBw).mono fun e w' ⟨h1, h2, h3, h4⟩ => ⟨h1, Or.inr (by rw [Lib.strCells_eq, byteCells_append] at h2; exact h2), h3, h4⟩
theorem bldByte_any (B b : Nat) (l : List UInt8) (c : UInt8) (w : World) (h : Bld B b l w) (hlen : l.length + 1 ≤ 140737488355328) (hBw : B ≤ w.heap.size) :
    Calls Try.prog 39 #[.pointer (some ⟨b, 0, none⟩), .int .u8 c.toNat] w fun e w' => e = .returned .nilIface ∧ Bld B b (l ++ [c]) w' ∧ Below B w w' ∧ Kept b w w' :=
  (Any.Builder_WriteByte_k lays167 extra167 B b _ c.toNat w h (by rw [Lib.byteCells_length]; exact hlen) hBw).mono fun e w' ⟨h1, h2, h3, h4⟩ => ⟨h1, Or.inr (by rw [show [Value.int .u8 (c.toNat : Int)] = Lib.byteCells [c] from rfl, byteCells_append] at h2; exact h2), h3, h4⟩
theorem bldDone_any (B b : Nat) (l : List UInt8) (w : World) (h : Bld B b l w) (hBw : B ≤ w.heap.size) :
    Calls Try.prog 42 #[.pointer (some ⟨b, 0, none⟩)] w fun e w' => e = .returned (.string ⟨l.toArray⟩) ∧ Below B w w' :=
  (Any.Builder_String_any_k lays169 extra169 B b l w h hBw).mono fun e w' ⟨h1, _, h3, _⟩ => ⟨h1, h3⟩
theorem Kept.block {b : Nat} {w w' : World} (h : Kept b w w') {k : Nat} {cs : Array Value} {t : TypeId} {fz : Nat × Nat} (hk : w.heap[k]? = some (.cells cs t fz)) (hne : k ≠ b) (ht : t ≠ 5) : w'.heap[k]? = some (.cells cs t fz) :=
  h k _ hk (by intro e; exact hne (Option.some.inj e)) (by intro c z e; injection e with _ e2 _; exact ht e2)
end Go.Proofs.Ytdohgkokoicjlaa
