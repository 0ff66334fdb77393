/-
  Copies of fields, types and parts in new memory.
-/
import Derived.Test.YtibpieomldhomaaGreatDoorPRep
namespace Go.Proofs.YtibpieomldhomaaGreatDoor
set_option linter.unusedSimpArgs false
set_option linter.unusedVariables false
open Go.RowKit

/-- What toField's last steps leave. -/
theorem cpF_end {w w1 : World} {f : F} {x : Value} {N : Nat} (hN : N = w.heap.size) (hbw : Below N w w1) (hsz1 : w1.heap.size = N + 1 + 1 + 1 + 1)
    (hst1 : Strs w1 (· = N + 1 + 1 + 1) f.needs (some ⟨N + 1 + 1 + 1, 0, none⟩)) (h1 : f.name.size ≤ maxLen) (h2 : f.of.size ≤ maxLen) (hbs : 16 * f.needs.length ≤ 281474976710656) (cs : List Value) :
    Below N w (puts (w1.setCell ⟨N + 1 + 1, 7, none⟩ x) (N + 1) 0 cs) ∧
    FRep (puts (w1.setCell ⟨N + 1 + 1, 7, none⟩ x) (N + 1) 0 cs) (fun b => N ≤ b ∧ b < (puts (w1.setCell ⟨N + 1 + 1, 7, none⟩ x) (N + 1) 0 cs).heap.size) f
      (.agg #[.string f.name, .string f.of, .bool f.list, .bool f.must, .bool f.far, .bool f.hidden, .bool f.shared, .slice (some ⟨N + 1 + 1 + 1, 0, none⟩) f.needs.length f.needs.length]) := by
  have hsz : (puts (w1.setCell ⟨N + 1 + 1, 7, none⟩ x) (N + 1) 0 cs).heap.size = w1.heap.size := by rw [puts_size, size_set]
  refine ⟨puts_below (by omega) _ _ _ (hbw.setCell (by show N ≤ N + 1 + 1; omega) _), _, _, rfl, (hst1.mono fun k hk => ?_).sub fun k hk => ?_, Nat.le_refl _, h1, h2, hbs⟩
  · rw [puts_block _ _ (by omega), Below.heap_setCell _ _ _ _ (by show k ≠ N + 1 + 1; omega)]
  · rw [hsz]; omega

theorem info_Field : (Tryz.prog.info? 30).map (fun i => (i.zero, i.size, i.bytes)) = some (some (.agg #[.string ByteArray.empty, .string ByteArray.empty, .bool false, .bool false, .bool false, .bool false, .bool false, .slice none 0 0]), 8, 64) := by kernel_rfl

/-- What toType's last steps leave. -/
theorem cpT_end {w w1 : World} {t : T} {x : Value} {N : Nat} (hN : N = w.heap.size) (hbw : Below N w w1) (hsz1 : N + 1 + 1 + 1 < w1.heap.size)
    (hst1 : FsRep w1 (fun b => N + 1 + 1 + 1 ≤ b ∧ b < w1.heap.size) t.fields (some ⟨N + 1 + 1 + 1, 0, none⟩)) (h1 : t.name.size ≤ maxLen) (h2 : t.key.size ≤ maxLen) (cs : List Value) :
    Below N w (puts (w1.setCell ⟨N + 1 + 1, 2, none⟩ x) (N + 1) 0 cs) ∧
    TRep (puts (w1.setCell ⟨N + 1 + 1, 2, none⟩ x) (N + 1) 0 cs) (fun b => N ≤ b ∧ b < (puts (w1.setCell ⟨N + 1 + 1, 2, none⟩ x) (N + 1) 0 cs).heap.size) t
      (.agg #[.string t.name, .string t.key, .slice (some ⟨N + 1 + 1 + 1, 0, none⟩) t.fields.length t.fields.length]) := by
  have hsz : (puts (w1.setCell ⟨N + 1 + 1, 2, none⟩ x) (N + 1) 0 cs).heap.size = w1.heap.size := by rw [puts_size, size_set]
  refine ⟨puts_below (by omega) _ _ _ (hbw.setCell (by show N ≤ N + 1 + 1; omega) _), _, _, rfl, (hst1.mono fun k hk => ?_).sub fun k hk => ?_, Nat.le_refl _, h1, h2⟩
  · rw [puts_block _ _ (by omega), Below.heap_setCell _ _ _ _ (by show k ≠ N + 1 + 1; omega)]
  · rw [hsz]; omega

theorem info_Type : (Tryz.prog.info? 40).map (fun i => (i.zero, i.size, i.bytes)) = some (some (.agg #[.string ByteArray.empty, .string ByteArray.empty, .slice none 0 0]), 3, 56) := by kernel_rfl

theorem cpP_end {w w1 : World} {p : Pt} {x : Value} {N : Nat} (hN : N = w.heap.size) (hbw : Below N w w1) (hsz1 : N + 1 + 1 + 1 < w1.heap.size)
    (hst1 : TsRep w1 (fun b => N + 1 + 1 + 1 ≤ b ∧ b < w1.heap.size) p.types (some ⟨N + 1 + 1 + 1, 0, none⟩)) (h1 : p.name.size ≤ maxLen) (cs : List Value) :
    Below N w (puts (w1.setCell ⟨N + 1 + 1, 1, none⟩ x) (N + 1) 0 cs) ∧
    PRep (puts (w1.setCell ⟨N + 1 + 1, 1, none⟩ x) (N + 1) 0 cs) (fun b => N ≤ b ∧ b < (puts (w1.setCell ⟨N + 1 + 1, 1, none⟩ x) (N + 1) 0 cs).heap.size) p
      (.agg #[.string p.name, .slice (some ⟨N + 1 + 1 + 1, 0, none⟩) p.types.length p.types.length]) := by
  have hsz : (puts (w1.setCell ⟨N + 1 + 1, 1, none⟩ x) (N + 1) 0 cs).heap.size = w1.heap.size := by rw [puts_size, size_set]
  refine ⟨puts_below (by omega) _ _ _ (hbw.setCell (by show N ≤ N + 1 + 1; omega) _), _, _, rfl, (hst1.mono fun k hk => ?_).sub fun k hk => ?_, Nat.le_refl _, h1⟩
  · rw [puts_block _ _ (by omega), Below.heap_setCell _ _ _ _ (by show k ≠ N + 1 + 1; omega)]
  · rw [hsz]; omega

end Go.Proofs.YtibpieomldhomaaGreatDoor
