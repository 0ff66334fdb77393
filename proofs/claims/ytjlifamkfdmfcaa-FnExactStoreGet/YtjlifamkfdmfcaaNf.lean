/-
  From a block on nothing is frozen: what the laws' copies make may be written. toStringS, once more.
-/
import Derived.Test.YtjlifamkfdmfcaaCopyS
import Derived.RowKit3
namespace Go.Proofs.Ytjlifamkfdmfcaa
set_option linter.unusedSimpArgs false
set_option linter.unusedVariables false
open Go.RowKit

/-- From a block on nothing is frozen. -/
def NF (lo : Nat) (w : World) : Prop := ∀ a : Addr, lo ≤ a.block → w.frozen? a = false
theorem NF.new (w : World) : NF w.heap.size w := fun a h => by simp [World.frozen?, Array.getElem?_eq_none h]
theorem NF.alloc {lo : Nat} {w : World} (h : NF lo w) (c : Array Value) (t : TypeId) : NF lo (w.alloc (.cells c t)) := fun a ha => by rw [frozen?_alloc_cells]; exact h a ha
theorem NF.set {lo : Nat} {w : World} (h : NF lo w) (p : Addr) (v : Value) : NF lo (w.setCell p v) := fun a ha => by rw [World.frozen?_setCell]; exact h a ha
theorem NF.puts {lo : Nat} : ∀ {w : World} (h : NF lo w) (N k : Nat) (cs : List Value), NF lo (puts w N k cs)
  | w, h, N, k, [] => h
  | w, h, N, k, c :: cs => NF.puts (h.set ⟨N, k, none⟩ c) N (k + 1) cs
theorem NF.call {lo : Nat} {w w' : World} (h : NF lo w) (hb : Below w.heap.size w w') (h' : NF w.heap.size w') : NF lo w' := fun a ha => by
  rcases Nat.lt_or_ge a.block w.heap.size with h1 | h1
  · rw [hb.frozen h1]; exact h a ha
  · exact h' a h1
theorem NF.three (w : World) (c1 c2 c3 : Array Value) (t1 t2 t3 : TypeId) : NF w.heap.size (((w.alloc (.cells c1 t1)).alloc (.cells c2 t2)).alloc (.cells c3 t3)) := (((NF.new w).alloc c1 t1).alloc c2 t2).alloc c3 t3
set_option maxHeartbeats 400000 in
theorem toStringS_nf (ns : List ByteArray) (a : Option Addr) (c : Nat) (w : World) (hS : Strs w (· < w.heap.size) ns a) (hb : 16 * ns.length ≤ 281474976710656) :
    Calls Try.prog 55 #[.slice a ns.length c] w fun e w' => e = .returned (.slice (some ⟨w.heap.size, 0, none⟩) ns.length ns.length) ∧ Below w.heap.size w w' ∧ w'.heap.size = w.heap.size + 1 ∧
      Strs w' (· = w.heap.size) ns (some ⟨w.heap.size, 0, none⟩) ∧ NF w.heap.size w' := by
  have hS' := hS
  obtain ⟨h1, h2, h3⟩ := hS
  unfold maxLen at h3
  have hmk := run_make_row' (P := Try.prog) 24 9 (.string ByteArray.empty) 16 Try.underlying24 info9 rfl .i64 .i64 ns.length hb h3
  go_enter Try.func55, Try.ntmps55
  go_wp2
  go_loopw [4] (fun i wr => ∃ k : Nat, k ≤ ns.length ∧ i = .int .i64 k ∧ Below w.heap.size w wr ∧ wr.heap.size = w.heap.size + 1 ∧ wr.rowIs w.heap.size 9 ns.length (fun j => if j < k then .string (nth ns j) else .string ByteArray.empty) ∧ NF w.heap.size wr) (fun i _ => ns.length - (intOf i).toNat)
  case atStart =>
    refine ⟨0, Nat.zero_le _, rfl, (Below.refl _ _).alloc (Nat.le_refl _) _, by simp, ?_, (NF.new w).alloc _ _⟩
    exact (World.rowIs_made w _ _ _).congr fun i hi => by simp
  case round =>
    obtain ⟨k, hk, rfl, hbel, hsz, hrow, hnf⟩ := hrel
    have HNF : Hid (NF w.heap.size wr) := hnf
    clear hnf
    by_cases hlt : k < ns.length
    · obtain ⟨b, off, rfl, hbl, hc⟩ := h1 (by intro e; simp [e] at hlt)
      have hck : wr.cell? ⟨b, off + k, none⟩ = some (.string (nth ns k)) := (hbel.cell (p := ⟨b, off + k, none⟩) hbl).trans (hc k hlt)
      have hfz : wr.frozen? ⟨w.heap.size, k, none⟩ = false := hrow.frozen k
      have hcc : ∃ v, wr.cell? ⟨w.heap.size, k, none⟩ = some v := ⟨_, hrow.cell hlt⟩
      obtain ⟨v, hcv⟩ := hcc
      go_wp2
      go_roundw
      case rel =>
        refine ⟨k + 1, by omega, by go_num, hbel.setCell (Nat.le_refl _) _, by simp [World.setCell, hsz], ?_, HNF.out.set _ _⟩
        refine (hrow.set k _).congr fun i hi => ?_
        by_cases e1 : i = k
        · subst e1; simp
        · by_cases e2 : i < k
          · simp [e1, e2, show i < k + 1 by omega]
          · simp [e1, e2, show ¬ i < k + 1 by omega]
      case measure => simp [intOf]; omega
    · go_wp2
      go_ret
      have e : k = ns.length := by omega
      subst e
      refine ⟨rfl, hbel, hsz, ⟨fun _ => ⟨_, 0, rfl, rfl, fun i hi => ?_⟩, h2, by unfold maxLen; omega⟩, HNF.out⟩
      have := hrow.cell hi
      rw [if_pos hi] at this
      simpa using this
end Go.Proofs.Ytjlifamkfdmfcaa
