/-
  How long the text of a part is at most.
-/
import Derived.Test.YtibpieomldhomaaGreatDoorIPart
namespace Go.Proofs.YtibpieomldhomaaGreatDoor
open Go.RowKit

theorem lineB_len (f : F) : (lineB f).data.toList.length ≤ szF f + 33 := by
  have h1 := lineTo_size f f.needs.length
  have h2 : szF f = f.name.size + f.of.size + (f.needs.length + sumTo f.needs f.needs.length) := rfl
  rw [tl, lineB, ByteArray.size_append]
  have h3 : (⟨#[10]⟩ : ByteArray).size = 1 := rfl
  omega
theorem fieldsL_len (fs : List F) : ∀ n, (fieldsL fs n).length ≤ szFsTo fs n + 33 * n
  | 0 => by simp [fieldsL]
  | n + 1 => by
    have h1 := fieldsL_len fs n
    have h2 := lineB_len (fth fs n)
    rw [fieldsL, List.length_append, szFsTo_succ]
    omega
theorem keyL_len (t : T) : (keyL t).length ≤ 5 + t.key.size := by
  unfold keyL
  split
  · exact Nat.zero_le _
  · rw [List.length_append, tl]; exact Nat.le_refl _
theorem typeHeadL_len (t : T) : (typeHeadL t).length ≤ 11 + t.name.size + t.key.size := by
  have h1 := keyL_len t
  have h2 : ([116, 121, 112, 101, 32] : List UInt8).length = 5 := rfl
  have h3 : ([10] : List UInt8).length = 1 := rfl
  rw [typeHeadL, List.length_append, List.length_append, List.length_append, tl]
  omega
theorem typesL_len (ts : List T) : ∀ n, (typesL ts n).length ≤ 33 * szTsTo ts n + 11 * n
  | 0 => by simp [typesL]
  | n + 1 => by
    have h1 := typesL_len ts n
    have h2 := typeHeadL_len (tth ts n)
    have h3 := fieldsL_len (tth ts n).fields (tth ts n).fields.length
    have h4 : szT (tth ts n) = (tth ts n).name.size + (tth ts n).key.size + ((tth ts n).fields.length + szFsTo (tth ts n).fields (tth ts n).fields.length) := rfl
    rw [typesL, List.length_append, List.length_append, szTsTo_succ]
    omega
theorem partL_len (p : Pt) : (partL p).length ≤ 33 * szP p + 6 := by
  have h1 := typesL_len p.types p.types.length
  have h2 : szP p = p.name.size + (p.types.length + szTsTo p.types p.types.length) := rfl
  have h3 : ([112, 97, 114, 116, 32] : List UInt8).length = 5 := rfl
  have h4 : ([10] : List UInt8).length = 1 := rfl
  rw [partL, partHeadL, List.length_append, List.length_append, List.length_append, tl]
  omega
theorem partText_all (p : Pt) (w : World) (B : Nat) (v : Value) (hP : PRep w (· < B) p v) (hB : B ≤ w.heap.size) (hz : szP p ≤ 1048576) :
    Calls Tryz.prog 27 #[v] w fun e w' => e = .returned (.string ⟨(partL p).toArray⟩) ∧ Below w.heap.size w w' :=
  partText_any p w B v hP hB hz (by have := partL_len p; omega)
end Go.Proofs.YtibpieomldhomaaGreatDoor
