/- Values: the contracts of the reference's Deep and Size. -/
import Derived.Test.YthgaipdhgckmdaaDoorVaGreatM
namespace Go.Proofs.YthgaipdhgckmdaaDoor.Va
open Go.RowKit Cm
set_option linter.unusedVariables false
set_option linter.unusedSimpArgs false

theorem dps_cut : ∀ (l : List Va) (i : Nat), dpsV (l.take i) ≤ dpsV l
  | [], i => by simp
  | x :: l, 0 => by simp [dpsV]
  | x :: l, i + 1 => by
    have := dps_cut l i
    simp only [List.take_succ_cons, dpsV]; omega
theorem szs_cut : ∀ (l : List Va) (i : Nat), szsV (l.take i) ≤ szsV l
  | [], i => by simp
  | x :: l, 0 => by simp [szsV]
  | x :: l, i + 1 => by
    have := szs_cut l i
    simp only [List.take_succ_cons, szsV]; omega

set_option maxRecDepth 100000 in
set_option maxHeartbeats 1000000 in
theorem rdeep_any : ∀ (N : Nat) (v : Va) (w : World), dpV v < N → VaIn w v → dpV v ≤ 1000000 →
    Calls Tryd.prog 12 #[.agg #[.int .i64 v.k, .int .i64 v.n, .string v.s, .slice v.tb v.ts.length v.tc, .slice v.io v.is.length v.ic]] w fun e w' => e = .returned (.int .i64 (dpV v : Nat)) ∧ Below w.heap.size w w' := by
  intro N
  induction N with
  | zero => intro v w h; omega
  | succ N ih =>
    intro v w hN hv hd
    obtain ⟨k, n, s, tb, tc, ts, io, ic, is⟩ := v
    have hlen := (va_room hv).2.2.2.2
    show Calls Tryd.prog 12 #[.agg #[.int .i64 k, .int .i64 n, .string s, .slice tb ts.length tc, .slice io is.length ic]] w fun e w' => e = .returned (.int .i64 (dpV (.mk k n s tb tc ts io ic is) : Nat)) ∧ Below w.heap.size w w'
    rw [dpV_eq]
    rw [dpV_eq] at hd
    have hB0 := Lib.hid ((Below.refl w.heap.size w).alloc (Nat.le_refl _) (.cells #[.int .i64 k, .int .i64 n, .string s, .slice tb ts.length tc, .slice io is.length ic] 25))
    have hC0 := Lib.hid (Cs.new w [.int .i64 k, .int .i64 n, .string s, .slice tb ts.length tc, .slice io is.length ic] 25)
    have hV := Lib.hid hv
    have hIH := Lib.hid ih
    have hND := Lib.hid hN
    clear hv ih hN
    go_enter Tryd.func12, Tryd.ntmps12
    go_wp2
    go_loopw [3, 4] (fun m i wr => ∃ j, j ≤ is.length ∧ i = .int .i64 (j : Nat) ∧ m = .int .i64 ((dpsV (is.take j) + 1 : Nat) : Int) ∧ Hid (Cs w.heap.size [.int .i64 k, .int .i64 n, .string s, .slice tb ts.length tc, .slice io is.length ic] wr) ∧ Hid (Below w.heap.size w wr)) (fun m i _ => is.length - (intOf i).toNat)
    case atStart => exact ⟨0, by omega, rfl, by simp [dpsV], hC0, hB0⟩
    case round =>
      obtain ⟨j, hj, rfl, rfl, HC, HB⟩ := hrel
      clear hC0 hB0
      have hsz := HB.out.size
      have d4 := HC.out.cell (i := 4) rfl
      by_cases hjl : j < is.length
      · have hji : (j : Int) < (is.length : Int) := by omega
        obtain ⟨v, hvi⟩ : ∃ v, is[j]? = some v := ⟨_, List.getElem?_eq_getElem hjl⟩
        obtain ⟨a, Ab, Ao, As, rfl, hA, hAb, c0, c1, c2, c3, c4, hin⟩ := va_place (va_below hV.out HB.out (Nat.le_refl _)) hvi
        have hHt := Lib.hid (And.intro hin hvi)
        have hle := dps_leV is j v hvi
        have hnx := dps_take is j v hvi
        have hlt := dps_cut is j
        go_wp2_with (go_at_call 12; refine (hIH.out v _ (by have := dp_childV (k := k) (n := n) (s := s) (tb := tb) (tc := tc) (ts := ts) (io := some a) (ic := ic) hHt.out.2; have := hND.out; omega) hHt.out.1 (by omega)).mono ?_; rintro e w2 ⟨rfl, hb2⟩)
        go_roundw
        case rel => exact ⟨j + 1, by omega, by go_num, by rw [hnx]; congr 1; omega, HC.out.below hb2 HC.out.lt, HB.out.trans (hb2.mono hsz)⟩
        case measure => simp [intOf]; omega
      · have hji : ¬ (j : Int) < (is.length : Int) := by omega
        obtain rfl : j = is.length := by omega
        go_wp2
        go_ret
        exact ⟨rfl, HB.out⟩
set_option maxRecDepth 100000 in
set_option maxHeartbeats 1000000 in
theorem rsize_any : ∀ (N : Nat) (v : Va) (w : World), dpV v < N → VaIn w v → szV v ≤ 1000000 →
    Calls Tryd.prog 14 #[.agg #[.int .i64 v.k, .int .i64 v.n, .string v.s, .slice v.tb v.ts.length v.tc, .slice v.io v.is.length v.ic]] w fun e w' => e = .returned (.int .i64 (szV v : Nat)) ∧ Below w.heap.size w w' := by
  intro N
  induction N with
  | zero => intro v w h; omega
  | succ N ih =>
    intro v w hN hv hd
    obtain ⟨k, n, s, tb, tc, ts, io, ic, is⟩ := v
    have hlen := (va_room hv).2.2.2.2
    show Calls Tryd.prog 14 #[.agg #[.int .i64 k, .int .i64 n, .string s, .slice tb ts.length tc, .slice io is.length ic]] w fun e w' => e = .returned (.int .i64 (szV (.mk k n s tb tc ts io ic is) : Nat)) ∧ Below w.heap.size w w'
    rw [szV_eq]
    rw [szV_eq] at hd
    have hB0 := Lib.hid ((Below.refl w.heap.size w).alloc (Nat.le_refl _) (.cells #[.int .i64 k, .int .i64 n, .string s, .slice tb ts.length tc, .slice io is.length ic] 25))
    have hC0 := Lib.hid (Cs.new w [.int .i64 k, .int .i64 n, .string s, .slice tb ts.length tc, .slice io is.length ic] 25)
    have hV := Lib.hid hv
    have hIH := Lib.hid ih
    have hND := Lib.hid hN
    clear hv ih hN
    go_enter Tryd.func14, Tryd.ntmps14
    go_wp2
    go_loopw [3, 4] (fun m i wr => ∃ j, j ≤ is.length ∧ i = .int .i64 (j : Nat) ∧ m = .int .i64 ((8 + s.size + szsV (is.take j) : Nat) : Int) ∧ Hid (Cs w.heap.size [.int .i64 k, .int .i64 n, .string s, .slice tb ts.length tc, .slice io is.length ic] wr) ∧ Hid (Below w.heap.size w wr)) (fun m i _ => is.length - (intOf i).toNat)
    case atStart => exact ⟨0, by omega, rfl, by simp [szsV], hC0, hB0⟩
    case round =>
      obtain ⟨j, hj, rfl, rfl, HC, HB⟩ := hrel
      clear hC0 hB0
      have hsz := HB.out.size
      have d4 := HC.out.cell (i := 4) rfl
      by_cases hjl : j < is.length
      · have hji : (j : Int) < (is.length : Int) := by omega
        obtain ⟨v, hvi⟩ : ∃ v, is[j]? = some v := ⟨_, List.getElem?_eq_getElem hjl⟩
        obtain ⟨a, Ab, Ao, As, rfl, hA, hAb, c0, c1, c2, c3, c4, hin⟩ := va_place (va_below hV.out HB.out (Nat.le_refl _)) hvi
        have hHt := Lib.hid (And.intro hin hvi)
        have hle := szs_le hvi
        have hnx := szs_take is j v hvi
        have hlt := szs_cut is j
        go_wp2_with (go_at_call 14; refine (hIH.out v _ (by have := dp_childV (k := k) (n := n) (s := s) (tb := tb) (tc := tc) (ts := ts) (io := some a) (ic := ic) hHt.out.2; have := hND.out; omega) hHt.out.1 (by omega)).mono ?_; rintro e w2 ⟨rfl, hb2⟩)
        go_roundw
        case rel => exact ⟨j + 1, by omega, by go_num, by rw [hnx]; congr 1; omega, HC.out.below hb2 HC.out.lt, HB.out.trans (hb2.mono hsz)⟩
        case measure => simp [intOf]; omega
      · have hji : ¬ (j : Int) < (is.length : Int) := by omega
        obtain rfl : j = is.length := by omega
        go_wp2
        go_ret
        exact ⟨rfl, HB.out⟩
end Go.Proofs.YthgaipdhgckmdaaDoor.Va
