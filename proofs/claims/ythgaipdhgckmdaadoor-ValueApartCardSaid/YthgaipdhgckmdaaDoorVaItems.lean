/- Values: the contract of the reference's items, given that of Text for what is less deep. (Printed by gen/items.py.) -/
import Derived.Test.YthgaipdhgckmdaaDoorVaDigits
import Derived.Test.YthgaipdhgckmdaaDoorVaTags
namespace Go.Proofs.YthgaipdhgckmdaaDoor.Va
open Go.RowKit Cm
set_option linter.unusedVariables false
set_option linter.unusedSimpArgs false

theorem oks_take {l : List Va} (h : ∀ (i : Nat) (v : Va), l[i]? = some v → okV v) (j : Nat) : oksV (l.take j) := oks_of fun i v hi => by
  rw [List.getElem?_take] at hi
  split at hi
  · exact h i v hi
  · cases hi
theorem va_child {w : World} {k n : Int} {s : ByteArray} {tb : Option Addr} {tc i : Nat} {ts : List Int} {io : Option Addr} {ic : Nat} {is : List Va} {v : Va} (h : VaIn w (.mk k n s tb tc ts io ic is)) (hi : is[i]? = some v) : VaIn w v := by
  cases h with
  | mk _ _ _ _ _ _ _ _ _ hk hn hs htl hil ht hc hI => exact hI i v hi
theorem tags_room {w : World} {tb : Option Addr} {ts : List Int} (h : In tb ts w) : ∀ t, t ∈ ts → -9223372036854775808 ≤ t ∧ t ≤ 9223372036854775807 := fun t ht => by
  obtain ⟨i, hi⟩ := List.mem_iff_getElem?.1 ht
  exact (h i t hi).2
/-- How long the texts of the first items are. -/
theorem it_room {w : World} {k n : Int} {s : ByteArray} {tb : Option Addr} {tc : Nat} {ts : List Int} {io : Option Addr} {ic : Nat} {is : List Va} {t : ByteArray} {how j : Nat} (h : VaIn w (.mk k n s tb tc ts io ic is)) (hc : Nc (.mk k n s tb tc ts io ic is))
    (ht : t.data.toList = itV how ts 0 (is.take j)) : t.size ≤ 400000 := by
  have h1 := it_len how ts (tags_room (va_tags h)) (is.take j) 0 (oks_take (fun i v hi => va_ok (va_child h hi)) j)
  have h2 := szs_cut is j
  have h3 := hc.size
  rw [szV_eq] at h3
  rw [← len_list, ht]; omega
theorem tx_room {w : World} {v : Va} (h : VaIn w v) (hc : Nc v) : (txV v).length ≤ 400000 := by
  have h1 := tx_len v (va_ok h)
  have h2 := hc.size
  omega
def TextBelow (N : Nat) : Prop := ∀ (v : Va) (w : World), dpV v < N → VaIn w v → Nc v →
    Calls Tryd.prog 16 #[.agg #[.int .i64 v.k, .int .i64 v.n, .string v.s, .slice v.tb v.ts.length v.tc, .slice v.io v.is.length v.ic]] w fun e w' => e = .returned (.string ⟨(txV v).toArray⟩) ∧ Below w.heap.size w w'

set_option maxRecDepth 100000 in
set_option maxHeartbeats 2000000 in
theorem items0_of {N : Nat} (ih : TextBelow N) (k n : Int) (s : ByteArray) (tb : Option Addr) (tc : Nat) (ts : List Int) (io : Option Addr) (ic : Nat) (is : List Va) (w : World) (hN : dpV (.mk k n s tb tc ts io ic is) < N + 1) (hv : VaIn w (.mk k n s tb tc ts io ic is)) (hnc : Nc (.mk k n s tb tc ts io ic is)) :
    Calls Tryd.prog 31 #[.agg #[.int .i64 k, .int .i64 n, .string s, .slice tb ts.length tc, .slice io is.length ic], .int .i64 0] w fun e w' => e = .returned (.string ⟨(itV 0 ts 0 is).toArray⟩) ∧ Below w.heap.size w w' := by
  have hlen := (va_room hv).2.2.2.2
  have htl := (va_room hv).2.2.2.1
  have hB0 := Lib.hid ((Below.refl w.heap.size w).alloc (Nat.le_refl _) (.cells #[.int .i64 k, .int .i64 n, .string s, .slice tb ts.length tc, .slice io is.length ic] 25))
  have hC0 := Lib.hid (Cs.new w [.int .i64 k, .int .i64 n, .string s, .slice tb ts.length tc, .slice io is.length ic] 25)
  have hV := Lib.hid hv
  have hIH := Lib.hid ih
  have hND := Lib.hid hN
  have hNC := Lib.hid hnc
  clear hv ih hN hnc
  go_enter Tryd.func31, Tryd.ntmps31
  go_wp2
  go_loopw [5, 6] (fun o i wr => ∃ j t, j ≤ is.length ∧ i = .int .i64 (j : Nat) ∧ o = .string t ∧ Hid (t.data.toList = itV 0 ts 0 (is.take j)) ∧ Hid (Cs w.heap.size [.int .i64 k, .int .i64 n, .string s, .slice tb ts.length tc, .slice io is.length ic] wr) ∧ Hid (Below w.heap.size w wr)) (fun o i _ => is.length - (intOf i).toNat)
  case atStart => exact ⟨0, _, by omega, rfl, rfl, Lib.hid (by rw [List.take_zero, itV_nil]), hC0, hB0⟩
  case round =>
    obtain ⟨j, t, hj, rfl, rfl, HT, HC, HB⟩ := hrel
    clear hC0 hB0
    have hsz := HB.out.size
    have d4 := HC.out.cell (i := 4) rfl
    have d3 := HC.out.cell (i := 3) rfl
    have ht := it_room hV.out hNC.out HT.out
    by_cases hjl : j < is.length
    · have hji : (j : Int) < (is.length : Int) := by omega
      obtain ⟨v, hvi⟩ : ∃ v, is[j]? = some v := ⟨_, List.getElem?_eq_getElem hjl⟩
      obtain ⟨a, Ab, Ao, As, rfl, hA, hAb, c0, c1, c2, c3, c4, hin⟩ := va_place (va_below hV.out HB.out (Nat.le_refl _)) hvi
      have hHt := Lib.hid (And.intro hin hvi)
      have hHC := Lib.hid (And.intro c0 (And.intro c1 (And.intro c2 (And.intro c3 c4))))
      have hlv := tx_room hin (hNC.out.child hvi)
      have hnx := Lib.hid (it_take 0 ts is 0 j v hvi)
      have e2 : (j : Int).tmod 2 = (j : Int) % 2 := Int.tmod_eq_emod_of_nonneg (by omega)
      clear hin hvi
      by_cases g0 : j = 0
      · have g1 : ¬ 0 < j := by omega
        have G0 := Lib.hid g0
        clear g0
        have hA2 := Lib.hid (show aheadL 0 ts j = [] from by unfold aheadL; simp [G0.out])
        go_wp2_with (go_at_call 16; refine (hIH.out v _ (Nat.lt_of_lt_of_le (dp_childV hHt.out.2) (Nat.le_of_lt_succ hND.out)) hHt.out.1 (hNC.out.child hHt.out.2)).mono ?_; rintro e w2 ⟨rfl, hb2⟩)
        go_roundw
        case rel => exact ⟨j + 1, _, by omega, by go_num, rfl, Lib.hid (by rw [hnx.out, Nat.zero_add, hA2.out]; simp [HT.out]), HC.out.below hb2 HC.out.lt, HB.out.trans (hb2.mono hsz)⟩
        case measure => simp [intOf]; omega
      · have g1 : 0 < j := by omega
        have G0 := Lib.hid g1
        clear g0
        have hA2 := Lib.hid (show aheadL 0 ts j = [44] from by unfold aheadL; simp [G0.out])
        go_wp2_with (go_at_call 16; refine (hIH.out v _ (Nat.lt_of_lt_of_le (dp_childV hHt.out.2) (Nat.le_of_lt_succ hND.out)) hHt.out.1 (hNC.out.child hHt.out.2)).mono ?_; rintro e w2 ⟨rfl, hb2⟩)
        go_roundw
        case rel => exact ⟨j + 1, _, by omega, by go_num, rfl, Lib.hid (by rw [hnx.out, Nat.zero_add, hA2.out]; simp [HT.out]), HC.out.below hb2 HC.out.lt, HB.out.trans (hb2.mono hsz)⟩
        case measure => simp [intOf]; omega
    · have hji : ¬ (j : Int) < (is.length : Int) := by omega
      obtain rfl : j = is.length := by omega
      go_wp2
      go_ret
      refine ⟨str_of ?_, HB.out⟩
      rw [HT.out, List.take_length]

set_option maxRecDepth 100000 in
set_option maxHeartbeats 2000000 in
theorem items1_of {N : Nat} (ih : TextBelow N) (k n : Int) (s : ByteArray) (tb : Option Addr) (tc : Nat) (ts : List Int) (io : Option Addr) (ic : Nat) (is : List Va) (w : World) (hN : dpV (.mk k n s tb tc ts io ic is) < N + 1) (hv : VaIn w (.mk k n s tb tc ts io ic is)) (hnc : Nc (.mk k n s tb tc ts io ic is)) :
    Calls Tryd.prog 31 #[.agg #[.int .i64 k, .int .i64 n, .string s, .slice tb ts.length tc, .slice io is.length ic], .int .i64 1] w fun e w' => e = .returned (.string ⟨(itV 1 ts 0 is).toArray⟩) ∧ Below w.heap.size w w' := by
  have hlen := (va_room hv).2.2.2.2
  have htl := (va_room hv).2.2.2.1
  have hB0 := Lib.hid ((Below.refl w.heap.size w).alloc (Nat.le_refl _) (.cells #[.int .i64 k, .int .i64 n, .string s, .slice tb ts.length tc, .slice io is.length ic] 25))
  have hC0 := Lib.hid (Cs.new w [.int .i64 k, .int .i64 n, .string s, .slice tb ts.length tc, .slice io is.length ic] 25)
  have hV := Lib.hid hv
  have hIH := Lib.hid ih
  have hND := Lib.hid hN
  have hNC := Lib.hid hnc
  clear hv ih hN hnc
  go_enter Tryd.func31, Tryd.ntmps31
  go_wp2
  go_loopw [5, 6] (fun o i wr => ∃ j t, j ≤ is.length ∧ i = .int .i64 (j : Nat) ∧ o = .string t ∧ Hid (t.data.toList = itV 1 ts 0 (is.take j)) ∧ Hid (Cs w.heap.size [.int .i64 k, .int .i64 n, .string s, .slice tb ts.length tc, .slice io is.length ic] wr) ∧ Hid (Below w.heap.size w wr)) (fun o i _ => is.length - (intOf i).toNat)
  case atStart => exact ⟨0, _, by omega, rfl, rfl, Lib.hid (by rw [List.take_zero, itV_nil]), hC0, hB0⟩
  case round =>
    obtain ⟨j, t, hj, rfl, rfl, HT, HC, HB⟩ := hrel
    clear hC0 hB0
    have hsz := HB.out.size
    have d4 := HC.out.cell (i := 4) rfl
    have d3 := HC.out.cell (i := 3) rfl
    have ht := it_room hV.out hNC.out HT.out
    by_cases hjl : j < is.length
    · have hji : (j : Int) < (is.length : Int) := by omega
      obtain ⟨v, hvi⟩ : ∃ v, is[j]? = some v := ⟨_, List.getElem?_eq_getElem hjl⟩
      obtain ⟨a, Ab, Ao, As, rfl, hA, hAb, c0, c1, c2, c3, c4, hin⟩ := va_place (va_below hV.out HB.out (Nat.le_refl _)) hvi
      have hHt := Lib.hid (And.intro hin hvi)
      have hHC := Lib.hid (And.intro c0 (And.intro c1 (And.intro c2 (And.intro c3 c4))))
      have hlv := tx_room hin (hNC.out.child hvi)
      have hnx := Lib.hid (it_take 1 ts is 0 j v hvi)
      have e2 : (j : Int).tmod 2 = (j : Int) % 2 := Int.tmod_eq_emod_of_nonneg (by omega)
      clear hin hvi
      by_cases g0 : j = 0
      · have g1 : ¬ 0 < j := by omega
        have G0 := Lib.hid g0
        clear g0
        by_cases g2 : j < ts.length
        · obtain ⟨a', u, rfl, hu, b0, s0, u1, u2⟩ := (va_tags hV.out).at (i := j) g2
          have s1 : wr.cell? (a'.add j) = some (.int .i64 u) := by rw [HB.out.cell (p := a'.add j) b0]; exact s0
          have hgu : ts.getD j 0 = u := getD_of hu
          have hgi : (j : Int) < (ts.length : Int) := by omega
          have hsl : (sgL u).length ≤ 21 := sg_len ⟨u1, u2⟩
          have HGU := Lib.hid hgu
          clear s0 hu hgu
          have hA2 := Lib.hid (show aheadL 1 ts j = sgL u ++ [61] from by unfold aheadL; rw [HGU.out]; simp [G0.out])
          go_wp2_with (first
            | (go_at_call 28; refine (signed_any u _ (by omega)).mono ?_; rintro e w1 ⟨rfl, hb1⟩; have k4 := (HC.out.below hb1 HC.out.lt).cell (i := 4) rfl; have q0 := (hb1.cell (p := ⟨Ab, Ao, As⟩) hAb).trans hHC.out.1; have q1 := (hb1.cell (p := ⟨Ab, Ao + 1, none⟩) hAb).trans hHC.out.2.1; have q2 := (hb1.cell (p := ⟨Ab, Ao + 2, none⟩) hAb).trans hHC.out.2.2.1; have q3 := (hb1.cell (p := ⟨Ab, Ao + 3, none⟩) hAb).trans hHC.out.2.2.2.1; have q4 := (hb1.cell (p := ⟨Ab, Ao + 4, none⟩) hAb).trans hHC.out.2.2.2.2)
            | (go_at_call 16; refine (hIH.out v _ (Nat.lt_of_lt_of_le (dp_childV hHt.out.2) (Nat.le_of_lt_succ hND.out)) (va_below hHt.out.1 hb1 (Nat.le_refl _)) (hNC.out.child hHt.out.2)).mono ?_; rintro e w2 ⟨rfl, hb2⟩))
          have hb3 := hb1.trans (hb2.mono hb1.size)
          go_roundw
          case rel => exact ⟨j + 1, _, by omega, by go_num, rfl, Lib.hid (by rw [hnx.out, Nat.zero_add, hA2.out]; simp [HT.out]), HC.out.below hb3 HC.out.lt, HB.out.trans (hb3.mono hsz)⟩
          case measure => simp [intOf]; omega
        · have hgu : ts.getD j 0 = 0 := by rw [List.getD, List.getElem?_eq_none (by omega)]; rfl
          have hgi : ¬ (j : Int) < (ts.length : Int) := by omega
          have hsl : (sgL 0).length ≤ 21 := sg_len ⟨by decide, by decide⟩
          have HGU := Lib.hid hgu
          clear hgu
          have hA2 := Lib.hid (show aheadL 1 ts j = sgL 0 ++ [61] from by unfold aheadL; rw [HGU.out]; simp [G0.out])
          go_wp2_with (first
            | (go_at_call 28; refine (signed_any 0 _ (by omega)).mono ?_; rintro e w1 ⟨rfl, hb1⟩; have k4 := (HC.out.below hb1 HC.out.lt).cell (i := 4) rfl; have q0 := (hb1.cell (p := ⟨Ab, Ao, As⟩) hAb).trans hHC.out.1; have q1 := (hb1.cell (p := ⟨Ab, Ao + 1, none⟩) hAb).trans hHC.out.2.1; have q2 := (hb1.cell (p := ⟨Ab, Ao + 2, none⟩) hAb).trans hHC.out.2.2.1; have q3 := (hb1.cell (p := ⟨Ab, Ao + 3, none⟩) hAb).trans hHC.out.2.2.2.1; have q4 := (hb1.cell (p := ⟨Ab, Ao + 4, none⟩) hAb).trans hHC.out.2.2.2.2)
            | (go_at_call 16; refine (hIH.out v _ (Nat.lt_of_lt_of_le (dp_childV hHt.out.2) (Nat.le_of_lt_succ hND.out)) (va_below hHt.out.1 hb1 (Nat.le_refl _)) (hNC.out.child hHt.out.2)).mono ?_; rintro e w2 ⟨rfl, hb2⟩))
          have hb3 := hb1.trans (hb2.mono hb1.size)
          go_roundw
          case rel => exact ⟨j + 1, _, by omega, by go_num, rfl, Lib.hid (by rw [hnx.out, Nat.zero_add, hA2.out]; simp [HT.out]), HC.out.below hb3 HC.out.lt, HB.out.trans (hb3.mono hsz)⟩
          case measure => simp [intOf]; omega
      · have g1 : 0 < j := by omega
        have G0 := Lib.hid g1
        clear g0
        by_cases g2 : j < ts.length
        · obtain ⟨a', u, rfl, hu, b0, s0, u1, u2⟩ := (va_tags hV.out).at (i := j) g2
          have s1 : wr.cell? (a'.add j) = some (.int .i64 u) := by rw [HB.out.cell (p := a'.add j) b0]; exact s0
          have hgu : ts.getD j 0 = u := getD_of hu
          have hgi : (j : Int) < (ts.length : Int) := by omega
          have hsl : (sgL u).length ≤ 21 := sg_len ⟨u1, u2⟩
          have HGU := Lib.hid hgu
          clear s0 hu hgu
          have hA2 := Lib.hid (show aheadL 1 ts j = 44 :: sgL u ++ [61] from by unfold aheadL; rw [HGU.out]; simp [G0.out])
          go_wp2_with (first
            | (go_at_call 28; refine (signed_any u _ (by omega)).mono ?_; rintro e w1 ⟨rfl, hb1⟩; have k4 := (HC.out.below hb1 HC.out.lt).cell (i := 4) rfl; have q0 := (hb1.cell (p := ⟨Ab, Ao, As⟩) hAb).trans hHC.out.1; have q1 := (hb1.cell (p := ⟨Ab, Ao + 1, none⟩) hAb).trans hHC.out.2.1; have q2 := (hb1.cell (p := ⟨Ab, Ao + 2, none⟩) hAb).trans hHC.out.2.2.1; have q3 := (hb1.cell (p := ⟨Ab, Ao + 3, none⟩) hAb).trans hHC.out.2.2.2.1; have q4 := (hb1.cell (p := ⟨Ab, Ao + 4, none⟩) hAb).trans hHC.out.2.2.2.2)
            | (go_at_call 16; refine (hIH.out v _ (Nat.lt_of_lt_of_le (dp_childV hHt.out.2) (Nat.le_of_lt_succ hND.out)) (va_below hHt.out.1 hb1 (Nat.le_refl _)) (hNC.out.child hHt.out.2)).mono ?_; rintro e w2 ⟨rfl, hb2⟩))
          have hb3 := hb1.trans (hb2.mono hb1.size)
          go_roundw
          case rel => exact ⟨j + 1, _, by omega, by go_num, rfl, Lib.hid (by rw [hnx.out, Nat.zero_add, hA2.out]; simp [HT.out]), HC.out.below hb3 HC.out.lt, HB.out.trans (hb3.mono hsz)⟩
          case measure => simp [intOf]; omega
        · have hgu : ts.getD j 0 = 0 := by rw [List.getD, List.getElem?_eq_none (by omega)]; rfl
          have hgi : ¬ (j : Int) < (ts.length : Int) := by omega
          have hsl : (sgL 0).length ≤ 21 := sg_len ⟨by decide, by decide⟩
          have HGU := Lib.hid hgu
          clear hgu
          have hA2 := Lib.hid (show aheadL 1 ts j = 44 :: sgL 0 ++ [61] from by unfold aheadL; rw [HGU.out]; simp [G0.out])
          go_wp2_with (first
            | (go_at_call 28; refine (signed_any 0 _ (by omega)).mono ?_; rintro e w1 ⟨rfl, hb1⟩; have k4 := (HC.out.below hb1 HC.out.lt).cell (i := 4) rfl; have q0 := (hb1.cell (p := ⟨Ab, Ao, As⟩) hAb).trans hHC.out.1; have q1 := (hb1.cell (p := ⟨Ab, Ao + 1, none⟩) hAb).trans hHC.out.2.1; have q2 := (hb1.cell (p := ⟨Ab, Ao + 2, none⟩) hAb).trans hHC.out.2.2.1; have q3 := (hb1.cell (p := ⟨Ab, Ao + 3, none⟩) hAb).trans hHC.out.2.2.2.1; have q4 := (hb1.cell (p := ⟨Ab, Ao + 4, none⟩) hAb).trans hHC.out.2.2.2.2)
            | (go_at_call 16; refine (hIH.out v _ (Nat.lt_of_lt_of_le (dp_childV hHt.out.2) (Nat.le_of_lt_succ hND.out)) (va_below hHt.out.1 hb1 (Nat.le_refl _)) (hNC.out.child hHt.out.2)).mono ?_; rintro e w2 ⟨rfl, hb2⟩))
          have hb3 := hb1.trans (hb2.mono hb1.size)
          go_roundw
          case rel => exact ⟨j + 1, _, by omega, by go_num, rfl, Lib.hid (by rw [hnx.out, Nat.zero_add, hA2.out]; simp [HT.out]), HC.out.below hb3 HC.out.lt, HB.out.trans (hb3.mono hsz)⟩
          case measure => simp [intOf]; omega
    · have hji : ¬ (j : Int) < (is.length : Int) := by omega
      obtain rfl : j = is.length := by omega
      go_wp2
      go_ret
      refine ⟨str_of ?_, HB.out⟩
      rw [HT.out, List.take_length]

set_option maxRecDepth 100000 in
set_option maxHeartbeats 2000000 in
theorem items2_of {N : Nat} (ih : TextBelow N) (k n : Int) (s : ByteArray) (tb : Option Addr) (tc : Nat) (ts : List Int) (io : Option Addr) (ic : Nat) (is : List Va) (w : World) (hN : dpV (.mk k n s tb tc ts io ic is) < N + 1) (hv : VaIn w (.mk k n s tb tc ts io ic is)) (hnc : Nc (.mk k n s tb tc ts io ic is)) :
    Calls Tryd.prog 31 #[.agg #[.int .i64 k, .int .i64 n, .string s, .slice tb ts.length tc, .slice io is.length ic], .int .i64 2] w fun e w' => e = .returned (.string ⟨(itV 2 ts 0 is).toArray⟩) ∧ Below w.heap.size w w' := by
  have hlen := (va_room hv).2.2.2.2
  have htl := (va_room hv).2.2.2.1
  have hB0 := Lib.hid ((Below.refl w.heap.size w).alloc (Nat.le_refl _) (.cells #[.int .i64 k, .int .i64 n, .string s, .slice tb ts.length tc, .slice io is.length ic] 25))
  have hC0 := Lib.hid (Cs.new w [.int .i64 k, .int .i64 n, .string s, .slice tb ts.length tc, .slice io is.length ic] 25)
  have hV := Lib.hid hv
  have hIH := Lib.hid ih
  have hND := Lib.hid hN
  have hNC := Lib.hid hnc
  clear hv ih hN hnc
  go_enter Tryd.func31, Tryd.ntmps31
  go_wp2
  go_loopw [5, 6] (fun o i wr => ∃ j t, j ≤ is.length ∧ i = .int .i64 (j : Nat) ∧ o = .string t ∧ Hid (t.data.toList = itV 2 ts 0 (is.take j)) ∧ Hid (Cs w.heap.size [.int .i64 k, .int .i64 n, .string s, .slice tb ts.length tc, .slice io is.length ic] wr) ∧ Hid (Below w.heap.size w wr)) (fun o i _ => is.length - (intOf i).toNat)
  case atStart => exact ⟨0, _, by omega, rfl, rfl, Lib.hid (by rw [List.take_zero, itV_nil]), hC0, hB0⟩
  case round =>
    obtain ⟨j, t, hj, rfl, rfl, HT, HC, HB⟩ := hrel
    clear hC0 hB0
    have hsz := HB.out.size
    have d4 := HC.out.cell (i := 4) rfl
    have d3 := HC.out.cell (i := 3) rfl
    have ht := it_room hV.out hNC.out HT.out
    by_cases hjl : j < is.length
    · have hji : (j : Int) < (is.length : Int) := by omega
      obtain ⟨v, hvi⟩ : ∃ v, is[j]? = some v := ⟨_, List.getElem?_eq_getElem hjl⟩
      obtain ⟨a, Ab, Ao, As, rfl, hA, hAb, c0, c1, c2, c3, c4, hin⟩ := va_place (va_below hV.out HB.out (Nat.le_refl _)) hvi
      have hHt := Lib.hid (And.intro hin hvi)
      have hHC := Lib.hid (And.intro c0 (And.intro c1 (And.intro c2 (And.intro c3 c4))))
      have hlv := tx_room hin (hNC.out.child hvi)
      have hnx := Lib.hid (it_take 2 ts is 0 j v hvi)
      have e2 : (j : Int).tmod 2 = (j : Int) % 2 := Int.tmod_eq_emod_of_nonneg (by omega)
      clear hin hvi
      by_cases g0 : j = 0
      · have g1 : ¬ 0 < j := by omega
        have G0 := Lib.hid g0
        clear g0
        have hA2 := Lib.hid (show aheadL 2 ts j = [] from by unfold aheadL; simp [G0.out])
        go_wp2_with (go_at_call 16; refine (hIH.out v _ (Nat.lt_of_lt_of_le (dp_childV hHt.out.2) (Nat.le_of_lt_succ hND.out)) hHt.out.1 (hNC.out.child hHt.out.2)).mono ?_; rintro e w2 ⟨rfl, hb2⟩)
        go_roundw
        case rel => exact ⟨j + 1, _, by omega, by go_num, rfl, Lib.hid (by rw [hnx.out, Nat.zero_add, hA2.out]; simp [HT.out]), HC.out.below hb2 HC.out.lt, HB.out.trans (hb2.mono hsz)⟩
        case measure => simp [intOf]; omega
      · have g1 : 0 < j := by omega
        have G0 := Lib.hid g1
        clear g0
        by_cases g2 : j % 2 = 0
        · have f1 : ((j : Int) % 2 == 0) = true := by rw [show (j : Int) % 2 = 0 by omega]; rfl
          have f2 : ((j : Int) % 2 == 1) = false := beq_eq_false_iff_ne.2 (by omega)
          have hA3 : aheadL 2 ts j = [44] := by unfold aheadL; rw [if_pos ⟨g1, .inr g2⟩, if_neg (by omega), if_neg (by omega)]; rfl
          have hA4 := Lib.hid hA3
          clear hA3 g2
          have hA2 := hA4
          go_wp2_with (go_at_call 16; refine (hIH.out v _ (Nat.lt_of_lt_of_le (dp_childV hHt.out.2) (Nat.le_of_lt_succ hND.out)) hHt.out.1 (hNC.out.child hHt.out.2)).mono ?_; rintro e w2 ⟨rfl, hb2⟩)
          go_roundw
          case rel => exact ⟨j + 1, _, by omega, by go_num, rfl, Lib.hid (by rw [hnx.out, Nat.zero_add, hA2.out]; simp [HT.out]), HC.out.below hb2 HC.out.lt, HB.out.trans (hb2.mono hsz)⟩
          case measure => simp [intOf]; omega
        · have f1 : ((j : Int) % 2 == 0) = false := beq_eq_false_iff_ne.2 (by omega)
          have f2 : ((j : Int) % 2 == 1) = true := by rw [show (j : Int) % 2 = 1 by omega]; rfl
          have hA3 : aheadL 2 ts j = [58] := by unfold aheadL; rw [if_neg (by omega), if_pos ⟨g1, rfl, by omega⟩, if_neg (by omega)]; rfl
          have hA4 := Lib.hid hA3
          clear hA3 g2
          have hA2 := hA4
          go_wp2_with (go_at_call 16; refine (hIH.out v _ (Nat.lt_of_lt_of_le (dp_childV hHt.out.2) (Nat.le_of_lt_succ hND.out)) hHt.out.1 (hNC.out.child hHt.out.2)).mono ?_; rintro e w2 ⟨rfl, hb2⟩)
          go_roundw
          case rel => exact ⟨j + 1, _, by omega, by go_num, rfl, Lib.hid (by rw [hnx.out, Nat.zero_add, hA2.out]; simp [HT.out]), HC.out.below hb2 HC.out.lt, HB.out.trans (hb2.mono hsz)⟩
          case measure => simp [intOf]; omega
    · have hji : ¬ (j : Int) < (is.length : Int) := by omega
      obtain rfl : j = is.length := by omega
      go_wp2
      go_ret
      refine ⟨str_of ?_, HB.out⟩
      rw [HT.out, List.take_length]

end Go.Proofs.YthgaipdhgckmdaaDoor.Va
