/-
  'takes' of every value, and the program's JsonOk: it answers as the model does.
-/
import Derived.Test.YtjpabpkfdahdhaaGreatTakes4
namespace Go.Proofs.YtjpabpkfdahdhaaGreat
set_option linter.unusedSimpArgs false
set_option linter.unusedVariables false
open Go.RowKit

theorem meth1 (w : World) : (method 302 170 (.agg #[]) "loop.example/portolan/impl.holds").run Tryz.prog w = .ok (137, .agg #[]) w := by kernel_rfl
theorem meth2 (w : World) : (method 302 171 (.agg #[]) "loop.example/portolan/impl.holds").run Tryz.prog w = .ok (141, .agg #[]) w := by kernel_rfl
theorem meth3 (w : World) : (method 302 172 (.agg #[]) "loop.example/portolan/impl.holds").run Tryz.prog w = .ok (145, .agg #[]) w := by kernel_rfl
theorem meth4 (w : World) : (method 302 173 (.agg #[]) "loop.example/portolan/impl.holds").run Tryz.prog w = .ok (149, .agg #[]) w := by kernel_rfl
theorem meth5 (w : World) : (method 302 174 (.agg #[]) "loop.example/portolan/impl.holds").run Tryz.prog w = .ok (155, .agg #[]) w := by kernel_rfl
theorem meth6 (w : World) : (method 302 175 (.agg #[]) "loop.example/portolan/impl.holds").run Tryz.prog w = .ok (162, .agg #[]) w := by kernel_rfl

theorem plain1 (n : Int) (t : ByteArray) (ns : List ByteArray) (kl : Nat) : (n == 0 && t.toList.isEmpty && nokV ns kl) = plainV 1 n t ns kl := by
  rw [Bool.eq_iff_iff]; simp [plainV, nokV]; grind
theorem plain2 (n : Int) (t : ByteArray) (ns : List ByteArray) (kl : Nat) : ((n == 0 || n == 1) && t.toList.isEmpty && nokV ns kl) = plainV 2 n t ns kl := by
  rw [Bool.eq_iff_iff]; simp [plainV, nokV]; grind
theorem plain3 (n : Int) (t : ByteArray) (ns : List ByteArray) (kl : Nat) : (decide (-999999 ≤ n) && decide (n ≤ 999999) && t.toList.isEmpty && nokV ns kl) = plainV 3 n t ns kl := by
  rw [Bool.eq_iff_iff]; simp [plainV, nokV]; grind
theorem plain4 (n : Int) (t : ByteArray) (ns : List ByteArray) (kl : Nat) : (n == 0 && plainB t && nokV ns kl) = plainV 4 n t ns kl := by
  rw [Bool.eq_iff_iff]; simp [plainV, nokV]; grind
theorem plain5 (n : Int) (t : ByteArray) (ns : List ByteArray) (kl : Nat) : (n == 0 && t.toList.isEmpty && (ns.length : Int) == 0) = plainV 5 n t ns kl := by
  rw [Bool.eq_iff_iff]; simp [plainV]
theorem plain6 (n : Int) (t : ByteArray) (ns : List ByteArray) (kl : Nat) : (n == 0 && t.toList.isEmpty && (ns.length : Int) == (kl : Int) && onceTo ns ns.length) = plainV 6 n t ns kl := by
  rw [Bool.eq_iff_iff]; simp [plainV]

/-- A row of the table: its type, its method, and what that answers. -/
def SortRow (s : Int) : Prop := ∃ (T : TypeId) (F : FuncId), (∀ w', Calls Tryz.prog 110 #[.int .i64 s] w' fun e w'' => e = .returned (.tuple #[.iface T (.agg #[]), .bool true]) ∧ w' = w'') ∧
  (∀ w', (method 302 T (.agg #[]) "loop.example/portolan/impl.holds").run Tryz.prog w' = .ok (F, .agg #[]) w') ∧ (∀ args w', (callFunc F args).run Tryz.prog w' = .ok (.enter F args) w') ∧
  ∀ (n : Int) (t : ByteArray) (ns : List ByteArray) (na ka : Option Addr) (nc kc kl : Nat) (w : World), t.size ≤ maxLen → Strs w (· < w.heap.size) ns na → ns.length ≤ nc →
    Calls Tryz.prog F #[.agg #[], .agg #[.int .i64 s, .int .i64 n, .string t, .slice na ns.length nc, .slice ka kl kc]] w fun e w' => e = .returned (.bool (plainV s n t ns kl)) ∧ Below w.heap.size w w'

theorem row1 : SortRow 1 := ⟨170, 137, fun w' => sortOf_any 1 w', meth1, cf_of Tryz.func137 (by kernel_rfl) rfl, fun n t ns na ka nc kc kl w _ _ _ => by
  rw [← plain1]; exact holds1_any 1 n t ns na ka nc kc kl w⟩
theorem row2 : SortRow 2 := ⟨171, 141, fun w' => sortOf_any 2 w', meth2, cf_of Tryz.func141 (by kernel_rfl) rfl, fun n t ns na ka nc kc kl w _ _ _ => by
  rw [← plain2]; exact holds2_any 2 n t ns na ka nc kc kl w⟩
theorem row3 : SortRow 3 := ⟨172, 145, fun w' => sortOf_any 3 w', meth3, cf_of Tryz.func145 (by kernel_rfl) rfl, fun n t ns na ka nc kc kl w _ _ _ => by
  rw [← plain3]; exact holds3_any 3 n t ns na ka nc kc kl w⟩
theorem row4 : SortRow 4 := ⟨173, 149, fun w' => sortOf_any 4 w', meth4, cf_of Tryz.func149 (by kernel_rfl) rfl, fun n t ns na ka nc kc kl w ht _ _ => by
  rw [← plain4]; exact holds4_any 4 n t ns na ka nc kc kl w ht⟩
theorem row5 : SortRow 5 := ⟨174, 155, fun w' => sortOf_any 5 w', meth5, cf_of Tryz.func155 (by kernel_rfl) rfl, fun n t ns na ka nc kc kl w _ _ _ => by
  rw [← plain5]; exact holds5_any 5 n t ns na ka nc kc kl w⟩
theorem row6 : SortRow 6 := ⟨175, 162, fun w' => sortOf_any 6 w', meth6, cf_of Tryz.func162 (by kernel_rfl) rfl, fun n t ns na ka nc kc kl w _ hS hc => by
  rw [← plain6]; exact holds6_any 6 n t ns na ka nc kc kl w hS hc⟩
theorem row_of (s : Int) (h : isSort s = true) : SortRow s := by
  have h' : s = 1 ∨ s = 2 ∨ s = 3 ∨ s = 4 ∨ s = 5 ∨ s = 6 := by simp [isSort] at h; omega
  rcases h' with rfl | rfl | rfl | rfl | rfl | rfl
  · exact row1
  · exact row2
  · exact row3
  · exact row4
  · exact row5
  · exact row6

theorem takes_step (s n : Int) (t : ByteArray) (ns : List ByteArray) (ks : List V) (IH : ∀ i, i < ks.length → TkOk (kth ks i)) : TkOk (.mk s n t ns ks) := by
  intro w B rb v d p hR hB hrb hcell hfz hd0 hd1 hp0 hp1
  obtain ⟨na, ka, nc, kc, rfl, hs, hns, ht, hbs, hK⟩ := hR.inv
  by_cases e1 : 16 < d ∨ p = 0
  · exact takes_no s n t ns ks na ka nc kc w rb d p hrb hcell hfz hp0 hp1 e1
  by_cases e2 : p - 1 < (ks.length : Int)
  · exact takes_big s n t ns ks na ka nc kc w rb d p hrb hcell hfz hp1 (by omega) (by omega) e2
  cases e3 : isSort s
  · exact takes_none s n t ns ks na ka nc kc w rb d p hrb hcell hfz hp1 (by omega) (by omega) (by omega) e3
  obtain ⟨T, F, hsort, hmeth, hcf, hhold⟩ := row_of s e3
  have hh := fun w' h => hhold n t ns na ka nc kc ks.length w' ht h hns
  cases e4 : plainV s n t ns ks.length
  · rw [e4] at hh
    exact takes_bad T F s n t ns ks na ka nc kc w B rb d p hs hns ht hB hrb hcell hfz hd0 hp1 (by omega) (by omega) (by omega) hsort hmeth e4 hcf hh
  · rw [e4] at hh
    exact takes_yes T F s n t ns ks IH na ka nc kc w B rb d p hs hns ht hK hB hrb hcell hfz hd0 hp1 (by omega) (by omega) (by omega) hsort hmeth e4 hcf hh

theorem tk_all (m : Nat) : ∀ x : V, SizeOf.sizeOf x < m → TkOk x := by
  induction m with
  | zero => intro x h; omega
  | succ m ih =>
    intro x h
    match x, h with
    | .mk s n t ns ks, h => exact takes_step s n t ns ks fun i hi => ih _ (by have := kth_lt ks i hi; simp at h; omega)
theorem takes_any (x : V) : TkOk x := tk_all _ x (Nat.lt_succ_self _)

set_option maxHeartbeats 400000 in
theorem implOk_any (x : V) (w : World) (B : Nat) (v : Value) (hR : Rep w (· < B) x v) (hB : B ≤ w.heap.size) :
    Calls Tryz.prog 72 #[v] w fun e w' => e = .returned (.bool (okV x)) ∧ Below w.heap.size w w' := by
  have hR' := hR
  obtain ⟨s, n, t, ns, ks⟩ := x
  obtain ⟨na, ka, nc, kc, rfl, -⟩ := hR.inv
  have hw2 : ∀ o c, ((w.alloc o).alloc (.cells #[c] 148)).cell? ⟨w.heap.size + 1, 0, none⟩ = some c := fun o c => by simp
  have hf2 : ∀ o c i, ((w.alloc o).alloc (.cells #[c] 148)).frozen? ⟨w.heap.size + 1, i, none⟩ = false := fun o c i => by simp
  go_enter Tryz.func72, Tryz.ntmps72
  go_wp2_with (go_at_call 98; refine (takes_any (.mk s n t ns ks) _ w.heap.size (w.heap.size + 1) _ _ 600 ((hR'.under ((below_box2 w _ _).mono hB)).sub fun k hk => by omega) (by omega) (by simp) (hw2 _ _) (hf2 _ _) (by omega) (by omega) (by omega) (by omega)).mono ?_; rintro e w2 ⟨q, rfl, -, -, -, -, -, hb⟩)
  go_ret
  exact ⟨rfl, (below_box2 w _ _).trans (hb.below (by omega) (by simp; omega))⟩
end Go.Proofs.YtjpabpkfdahdhaaGreat
