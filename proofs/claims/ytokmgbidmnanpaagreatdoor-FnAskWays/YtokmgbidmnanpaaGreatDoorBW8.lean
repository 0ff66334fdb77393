import Derived.Test.YtokmgbidmnanpaaGreatDoorBW7
import Derived.Test.YtokmgbidmnanpaaGreatDoorBW4
import Derived.Test.YtokmgbidmnanpaaGreatDoorBW6
import Derived.Test.YtokmgbidmnanpaaGreatDoorBW2
import Derived.Test.YtokmgbidmnanpaaGreatDoorB5
import Derived.Test.YtokmgbidmnanpaaGreatDoorB32
import Derived.Test.YtokmgbidmnanpaaGreatDoorB26
set_option linter.unusedSimpArgs false
set_option linter.unusedVariables false
namespace Go.Proofs.YtokmgbidmnanpaaGreatDoor
open Go.RowKit Go.Shelf Go.Maps
theorem strs_nilL (w : World) (P : Nat → Prop) : Strs w P [] none := ⟨fun h => absurd rfl h, fun i => by simp only [nth, List.getD_nil]; unfold maxLen; decide, by unfold maxLen; simp⟩
set_option maxHeartbeats 800000 in
theorem AskLessI_any (f : Nat) (ks : List Se) (wy : ByteArray) (P : Nat → Prop) (B : Nat) (ka : Option Addr) (kc : Nat) (w : World) (h : AskIn f ks P B ka w) :
    Calls Tryz.prog 20 #[.slice ka ks.length kc, .string wy] w fun e w' => OwnNew f w (askLess f ks wy.toList) e w' := by
  have HO := hid_of (AskOkI_any f ks P B ka kc w h)
  cases ho : askOk f ks
  · rw [ho] at HO
    have HE : Hid (askLess f ks wy.toList = []) := hid_of (by rw [askLess, ho]; rfl)
    go_enter Tryz.func20, Tryz.ntmps20
    go_wp2_with fail
    refine HO.out.mono ?_
    rintro e w1 ⟨rfl, hb1⟩
    go_wp2_with fail
    go_ret
    rw [HE.out]
    exact ⟨none, 0, rfl, OwnT.nil _ _ _ _, hb1⟩
  · rw [ho] at HO
    have hq : okTo f 1 ks ks.length = true ∧ cntTo f ks ks.length ≤ 24 := by
      simp only [askOk, askB, Bool.and_eq_true, decide_eq_true_eq] at ho
      exact ⟨ho.1.1.2, ho.1.2⟩
    have HE : Hid (askLess f ks wy.toList = lessI f [] wy.toList ks ks.length) := hid_of (by
      have e := lessI_M f [] wy.toList ks _ (Nat.le_refl _) h.fit (noCut_of_ok hq.1)
      rw [pfx_nil, List.nil_append] at e
      rw [askLess, ho, e]; rfl)
    have HL := hid_of (fun W (hW : Below w.heap.size w W) => lessSels_any wy f 1 [] ks W none 0 ka kc h.fit h.small hq.1 rfl (fun _ => by omega) hq.2 (by simp) ((h.on hW).rep.sub fun b hb => by have := (h.apart b hb).1; have := h.le; have := hW.size; omega) (strs_nilL _ _))
    clear hq
    go_enter Tryz.func20, Tryz.ntmps20
    go_wp2_with fail
    refine HO.out.mono ?_
    rintro e w1 ⟨rfl, hb1⟩
    go_wp2_with fail
    refine (HL.out w1 hb1).mono ?_
    rintro e w2 hN
    obtain ⟨a, c, rfl, h1, h2⟩ := hN.up hb1
    have HN := hid_of (And.intro h1 h2)
    clear h1 h2 hN
    go_wp2_with fail
    go_ret
    rw [HE.out]
    exact ⟨a, c, rfl, HN.out.1, HN.out.2⟩
end Go.Proofs.YtokmgbidmnanpaaGreatDoor
namespace Go.Proofs.YtokmgbidmnanpaaGreatDoor
open Go.RowKit Go.Shelf Go.Maps
theorem off_text {t wy : ByteArray} (h : ¬ (wy.toList ++ [47]) <+: (t.toList ++ [47])) : t ≠ wy ∧ (wy.size < t.size → t.extract 0 wy.size = wy → t.data[wy.size]? ≠ some 47) := by
  refine ⟨fun e => h (by rw [e]; exact List.prefix_rfl), fun hl he hb => h ?_⟩
  have e1 : t.toList.take wy.size = wy.toList := by
    rw [← he, ByteArray.toList_eq, ByteArray.toList_eq]
    simp [ByteArray.data_extract]
  have hl2 : wy.size < t.toList.length := by rw [toList_len]; exact hl
  have e2 : t.toList[wy.size]'hl2 = 47 := by
    have h3 : t.toList[wy.size]? = some 47 := by
      rw [ByteArray.toList_eq]
      simpa using hb
    rw [List.getElem?_eq_getElem hl2] at h3
    exact Option.some.inj h3
  have e3 : t.toList = wy.toList ++ 47 :: t.toList.drop (wy.size + 1) := by
    conv => lhs; rw [← List.take_append_drop wy.size t.toList]
    rw [e1, List.drop_eq_getElem_cons hl2, e2]
  rw [e3]
  refine (List.prefix_append (wy.toList ++ [47]) (t.toList.drop (wy.size + 1) ++ [47])).trans ?_
  simp
set_option maxRecDepth 20000 in
set_option maxHeartbeats 3200000 in
theorem ways_walk (w : World) (cb n : Nat) (v : Value) (h : CodeOk w cb v n) (hT : Tab w.heap.size w) :
    Calls Tryz.prog 4 #[v] w fun e w' => e = .returned (.bool true) ∧ Below w.heap.size w w' := by
  by_cases hn : 1048576 < n
  · obtain ⟨a, c, off, rfl, -⟩ := h
    have h1' : (1048576 : Int) < (n : Int) := by omega
    go_enter Tryz.func4, Tryz.ntmps4
    go_wp2_with fail
    go_ret
    exact ⟨rfl, Below.refl _ _⟩
  have HDR := hid_of (DrawAskLess_any w cb n v h (by omega))
  have HT := hid_of hT
  obtain ⟨a, cc, off, rfl, -⟩ := h
  have h1' : ¬ (1048576 : Int) < (n : Int) := by omega
  clear hT
  go_enter Tryz.func4, Tryz.ntmps4
  go_wp2_with fail
  refine HDR.out.mono ?_
  rintro e w1 ⟨ks, ka, kc, wy, rfl, hSA, hTr, hwy, hb1⟩
  clear HDR h1' hn
  obtain ⟨F, hFn, hTr⟩ : ∃ F : Nat, F ≤ 1000000000 ∧ Tr 3 F ks := ⟨5, by omega, hTr⟩
  have HB1 := hid_of hb1
  have HT1 := hid_of ((HT.out.on hb1).up hb1.size)
  have HA := hid_of (askIn_drawn hFn hTr hSA HT1.out)
  have HO := hid_of hSA.old
  have HF := hid_of hTr.fit
  have HS := hid_of (hTr.small F)
  have HFn := hid_of hFn
  have HLF := hid_of (askLess_fits wy.toList HF.out HS.out)
  have HOFF := hid_of (askLess_off HF.out wy.toList)
  have HND := hid_of (askWays_nodup HF.out)
  have HWY := hid_of hwy
  clear hTr hSA hb1 HT
  have HWI := hid_of (fun W (hW : Below w1.heap.size w1 W) => AskWaysI_any F ks _ _ ka kc W (HA.out.on hW))
  have HLI := hid_of (fun W (hW : Below w1.heap.size w1 W) => AskLessI_any F ks wy _ _ ka kc W (HA.out.on hW))
  have HOI := hid_of (fun W (hW : Below w1.heap.size w1 W) => AskOkI_any F ks _ _ ka kc W (HA.out.on hW))
  have HWS := hid_of (fun W (hW : Below w1.heap.size w1 W) => AskWaysS_any F ks W w1.heap.size ka kc HF.out HS.out HFn.out (HO.out.under hW) hW.size)
  have HLS := hid_of (fun W (hW : Below w1.heap.size w1 W) => AskLessS_any F ks wy W w1.heap.size ka kc HF.out (by have := HWY.out; omega) (HO.out.under hW) hW.size)
  have HOS := hid_of (fun W (hW : Below w1.heap.size w1 W) => AskOkS_any F ks W w1.heap.size ka kc HF.out (HO.out.under hW) hW.size)
  obtain ⟨L, HL⟩ : ∃ x, Hid (x = askLess F ks wy.toList) := ⟨_, hid_of rfl⟩
  obtain ⟨bo, HBO⟩ : ∃ x, Hid (x = askOk F ks) := ⟨_, hid_of rfl⟩
  rw [← HL.out] at HLI HLS HLF HOFF
  rw [← HBO.out] at HOI HOS
  clear hFn hwy
  go_wp2_with fail
  refine (HWI.out w1 (Below.refl _ _)).mono ?_
  rintro e w2 ⟨ts, wv, rfl, hr2, ht2, hs2, hl2, b2⟩
  obtain ⟨va, vc, rfl, hS2⟩ := own_texts hr2 hs2 (by omega)
  have HS2 := hid_of (hS2.sub (Q := fun b => b < w2.heap.size) fun b hb => hb.2)
  have HTS := hid_of ht2
  clear hr2 ht2 hS2
  go_wp2_with fail
  refine (HLI.out w2 b2).mono ?_
  rintro e w3 ⟨la, lc, rfl, hO3, b3⟩
  have HK2 := hid_of b3
  have HL3 := hid_of (hO3.reps.sub (Q := fun b => b < w3.heap.size) fun b hb => hb.2)
  have HAL := hid_of (askIn_own HLF.out.1 HLF.out.2 HFn.out hO3 (fun b hb => hb.2) ((HT1.out.on (b2.trans (b3.mono b2.size))).up (Nat.le_trans b2.size b3.size)))
  have b3 := b2.trans (b3.mono b2.size)
  clear hO3
  go_wp2_with fail
  refine (HWS.out w3 b3).mono ?_
  rintro e w4 ⟨ts4, wv4, rfl, ⟨g4, cap4, rfl, hr4⟩, ht4, b4⟩
  obtain rfl : ts4 = ts := texts_inj (by rw [ht4, HTS.out])
  obtain ⟨va4, vc4, e4, hS4⟩ := own_texts hr4 hs2 (by omega)
  rw [e4]
  have HK3 := hid_of (HK2.out.trans (b4.mono HK2.out.size))
  have HW4 := hid_of (wpWords_any ts4 va va4 vc vc4 w4 _ _ (HS2.out.under HK3.out) hS4)
  have HQ4 := hid_of b4
  have b4 := b3.trans (b4.mono b3.size)
  clear hr4 ht4 hS4 e4
  go_wp2_with fail
  refine HW4.out.mono ?_
  rintro e w5 ⟨rfl, m5, hm5⟩
  have b5 : Below w4.heap.size w4 w5 := by rw [hm5]; exact below_drews (Below.refl _ _) _
  have HQ5 := hid_of (HQ4.out.trans (b5.mono HQ4.out.size))
  have bb5 := b4.trans (b5.mono b4.size)
  clear HW4 hm5
  go_wp2_with fail
  refine (HLS.out w5 bb5).mono ?_
  rintro e w6 ⟨la6, lc6, rfl, hR6, b6⟩
  have HQ6 := hid_of (HQ5.out.trans (b6.mono HQ5.out.size))
  have HS6 := hid_of (wpSels_any F L w6 w6.heap.size la la6 lc lc6 HLF.out.1 ((HL3.out.under HQ6.out).sub fun b hb => Nat.lt_of_lt_of_le hb HQ6.out.size) (hR6.sub fun b hb => by rcases hb with h | h <;> omega) (Nat.le_refl _))
  have bb6 := bb5.trans (b6.mono bb5.size)
  clear hR6
  go_wp2_with fail
  refine HS6.out.mono ?_
  rintro e w7 ⟨rfl, b7⟩
  have b7' := b7
  have b7 := bb6.trans (b7.mono bb6.size)
  clear HS6
  go_wp2_with fail
  refine (HOI.out w7 b7).mono ?_
  rintro e w8 ⟨rfl, b8⟩
  have b8' := b8
  have b8 := b7.trans (b8.mono b7.size)
  go_wp2_with fail
  refine (HOS.out w8 b8).mono ?_
  rintro e w9 ⟨rfl, b9⟩
  have HQ9 := hid_of (HQ6.out.trans ((b7'.trans (b8'.mono b7'.size)).trans (b9.mono (b7'.trans (b8'.mono b7'.size)).size) |>.mono HQ6.out.size))
  have b9 := b8.trans (b9.mono b8.size)
  have HK9 := hid_of (HK2.out.trans (HQ9.out.mono HK2.out.size))
  have HWL := hid_of (fun W (hW : Below w9.heap.size w9 W) => AskWaysI_any F L _ _ la lc W ((HAL.out.on HQ9.out).on hW))
  have HB9 := hid_of (HB1.out.trans (b9.mono HB1.out.size))
  have hS2 := HS2.out.under HK9.out
  have HC9 : Hid (∀ W, Below w9.heap.size w9 W → ∀ i, i < ts4.length → ∃ b off, va = some ⟨b, off, none⟩ ∧ ∀ i, i < ts4.length → W.cell? ⟨b, off + i, none⟩ = some (.string (nth ts4 i))) := hid_of fun W hW i hi => by
    obtain ⟨b, off, e, hb, hc⟩ := hS2.1 (by intro e; rw [e] at hi; simp at hi)
    exact ⟨b, off, e, fun i hi => (hW.cell (p := ⟨b, off + i, none⟩) (by have := HK9.out.size; show b < _; omega)).trans (hc i hi)⟩
  have HNE : Hid (∀ i k, k < i → i < ts4.length → ((nth ts4 i).toList == (nth ts4 k).toList) = false) := hid_of fun i k hk hi => by
    apply Bool.eq_false_iff.2
    intro e
    rw [beq_iff_eq] at e
    replace e := bytesInj e
    have hnd := HND.out
    rw [← HTS.out] at hnd
    have hp := List.pairwise_iff_getElem.1 hnd k i (by simp; omega) (by simp; omega) hk
    apply hp
    simp only [List.getElem_map]
    have e1 : nth ts4 i = ts4[i] := by simp [nth, List.getD_eq_getElem?_getD, hi]
    have e2 : nth ts4 k = ts4[k]'(by omega) := by simp [nth, List.getD_eq_getElem?_getD, show k < ts4.length by omega]
    rw [← e1, ← e2, e]
  have HLN := hid_of hl2
  obtain ⟨nt, hnt⟩ : ∃ x, x = ts4.length := ⟨_, rfl⟩
  rw [← hnt] at HC9 HNE hl2 ⊢
  have HNT := hid_of hnt
  clear HWI HLI HOI HWS HLS HOS hS2 b2 b3 b4 b5 bb5 b6 bb6 b7 b8 b9 b7' b8' hnt hs2
  go_wp2_with fail
  go_loopw [7] (fun i wr => ∃ k : Nat, k ≤ nt ∧ i = .int .i64 k ∧ Below w9.heap.size w9 wr) (fun i _ => nt - (intOf i).toNat)
  case atStart => exact ⟨0, Nat.zero_le _, rfl, Below.refl _ _⟩
  case round =>
    obtain ⟨i, hi, rfl, hbel⟩ := hrel
    obtain ⟨wO, rfl⟩ : ∃ x, x = wr := ⟨wr, rfl⟩
    by_cases hlt : i < nt
    · have hlti : (i : Int) < (nt : Int) := by omega
      go_wp2_with fail
      go_loopw [8] (fun j wq => ∃ k : Nat, k ≤ i ∧ j = .int .i64 k ∧ Below wO.heap.size wO wq) (fun j _ => i - (intOf j).toNat)
      case atStart => exact ⟨0, Nat.zero_le _, rfl, Below.refl _ _⟩
      case round =>
        obtain ⟨k, hk, rfl, hbk⟩ := hrel
        obtain ⟨wX, rfl⟩ : ∃ x, x = wr := ⟨wr, rfl⟩
        by_cases hki : k < i
        · have hkii : (k : Int) < (i : Int) := by omega
          have hknt : (k : Int) < (nt : Int) := by omega
          have hbX := hbel.trans (hbk.mono hbel.size)
          obtain ⟨vb, vo, rfl, hc⟩ := HC9.out wX hbX i hlt
          have ci := hc i hlt
          have ck := hc k (by omega)
          have hne := HNE.out i k hki hlt
          generalize nth ts4 i = ti at *
          generalize nth ts4 k = tk at *
          clear hc
          go_wp2_with fail
          go_quiet (fail)
          go_wp2_with fail
          go_roundw
          case rel => exact ⟨k + 1, by omega, by go_num, below_drews hbk _⟩
          case measure => simp [intOf]; omega
        · have hkii : ¬ (k : Int) < (i : Int) := by omega
          go_wp2_with fail
          go_roundw
          case rel => exact ⟨i + 1, by omega, by go_num, hbel.trans (hbk.mono hbel.size)⟩
          case measure => simp [intOf]; omega
    · have hlti : ¬ (i : Int) < (nt : Int) := by omega
      have hbw := hbel
      go_wp2_with fail
      refine (HWL.out wO hbel).mono ?_
      rintro e w10 ⟨rs, rv, rfl, hr10, ht10, hs10, hl10, b10⟩
      obtain ⟨ra, rc, rfl, hS10⟩ := own_texts hr10 hs10 (by omega)
      have HB10 := hid_of (HB9.out.trans ((hbel.trans (b10.mono hbel.size)).mono HB9.out.size))
      have hmany : rs.length ≤ nt := by
        have h1 := HOFF.out.2
        rw [← ht10, ← HTS.out, List.length_map, List.length_map] at h1
        rw [HNT.out]; exact h1
      have HRO : Hid (∀ i, i < rs.length → ((nth rs i).toList == wy.toList) = false ∧ (wy.size < (nth rs i).size → (nth rs i).extract 0 wy.size = wy → (nth rs i).data[wy.size]? ≠ some 47)) := hid_of fun i hi => by
        have hm : (nth rs i).toList ∈ askWays F L := by
          rw [← ht10]
          exact List.mem_map.2 ⟨_, by simp [nth, List.getD_eq_getElem?_getD, hi], rfl⟩
        obtain ⟨h1, h2⟩ := off_text (HOFF.out.1 _ hm)
        exact ⟨by apply Bool.eq_false_iff.2; intro e; rw [beq_iff_eq] at e; exact h1 (bytesInj e), h2⟩
      have HC10 : Hid (∀ W, Below w10.heap.size w10 W → ∀ i, i < rs.length → ∃ b off, ra = some ⟨b, off, none⟩ ∧ W.cell? ⟨b, off + i, none⟩ = some (.string (nth rs i))) := hid_of fun W hW i hi => by
        obtain ⟨b, off, e, hb, hc⟩ := hS10.1 (by intro e; rw [e] at hi; simp at hi)
        exact ⟨b, off, e, (hW.cell (p := ⟨b, off + i, none⟩) hb.2).trans (hc i hi)⟩
      have HSZ : Hid (∀ i, (nth rs i).size ≤ 1048577000) := hid_of fun i => by
        by_cases hi : i < rs.length
        · exact hs10 _ (by simp [nth, List.getD_eq_getElem?_getD, hi])
        · simp [nth, List.getD_eq_getElem?_getD, List.getElem?_eq_none (by omega : rs.length ≤ i)]
      obtain ⟨nr, hnr⟩ : ∃ x, x = rs.length := ⟨_, rfl⟩
      rw [← hnr] at HRO HC10 hmany hl10 ⊢
      clear hr10 ht10 hs10 hS10 b10 hnr HWL HC9 HNE hbw
      go_wp2_with fail
      go_loopw [10] (fun i wr => ∃ k : Nat, k ≤ nr ∧ i = .int .i64 k ∧ Below w10.heap.size w10 wr) (fun i _ => nr - (intOf i).toNat)
      case atStart => exact ⟨0, Nat.zero_le _, rfl, Below.refl _ _⟩
      case round =>
        obtain ⟨k, hk, rfl, hbk⟩ := hrel
        obtain ⟨wX, rfl⟩ : ∃ x, x = wr := ⟨wr, rfl⟩
        by_cases hkr : k < nr
        · have hkri : (k : Int) < (nr : Int) := by omega
          obtain ⟨rb, ro, rfl, ck⟩ := HC10.out wX hbk k hkr
          obtain ⟨hne, hbe⟩ := HRO.out k hkr
          have hsz := HSZ.out k
          have hwz := HWY.out
          generalize nth rs k = t at *
          by_cases hlen : wy.size < t.size
          · have hleni : (wy.size : Int) < (t.size : Int) := by omega
            by_cases he : (t.extract 0 wy.size).toList = wy.toList
            · have hb : (((t[wy.size]'hlen).toNat : Int) == 47) = false := by
                apply Bool.eq_false_iff.2
                intro e
                rw [beq_iff_eq] at e
                refine hbe hlen (bytesInj he) ?_
                have e2 : t[wy.size]'hlen = 47 := UInt8.toNat_inj.1 (by show _ = 47; omega)
                have e3 : t.data[wy.size]? = some (t.data[wy.size]'hlen) := Array.getElem?_eq_getElem hlen
                rw [e3]
                exact congrArg some e2
              go_wp2_with fail
              go_roundw
              case rel => exact ⟨k + 1, by omega, by go_num, hbk⟩
              case measure => simp [intOf]; omega
            · go_wp2_with fail
              go_roundw
              case rel => exact ⟨k + 1, by omega, by go_num, hbk⟩
              case measure => simp [intOf]; omega
          · have hleni : ¬ (wy.size : Int) < (t.size : Int) := by omega
            go_wp2_with fail
            go_roundw
            case rel => exact ⟨k + 1, by omega, by go_num, hbk⟩
            case measure => simp [intOf]; omega
        · have hkri : ¬ (k : Int) < (nr : Int) := by omega
          have hmi : (nr : Int) ≤ (nt : Int) := by omega
          go_wp2_with fail
          go_ret
          exact ⟨rfl, HB10.out.trans (hbk.mono HB10.out.size)⟩
end Go.Proofs.YtokmgbidmnanpaaGreatDoor
