/- Values: the contracts of the program's deeper, endless, deep, size. -/
import Derived.Test.YtdogddliifbjnaaGreatMg33
namespace Go.Proofs.YtdogddliifbjnaaGreat.Va
open Go.RowKit Cm
set_option linter.unusedVariables false
set_option linter.unusedSimpArgs false

set_option maxRecDepth 100000 in
set_option maxHeartbeats 1000000 in
theorem deeper_any : ∀ (N : Nat) (v : Va) (m : Nat) (w : World), dpV v < N → VaIn w v → dpV v ≤ m + 1 → m ≤ 1000000 →
    Calls Tryz.prog 71 #[.agg #[.int .i64 v.k, .int .i64 v.n, .string v.s, .slice v.tb v.ts.length v.tc, .slice v.io v.is.length v.ic], .int .i64 (m : Nat)] w fun e w' => e = .returned (.bool false) ∧ Below w.heap.size w w' := by
  intro N
  induction N with
  | zero => intro v m w h; omega
  | succ N ih =>
    intro v m w hN hv hd hm
    obtain ⟨k, n, s, tb, tc, ts, io, ic, is⟩ := v
    have hlen := (va_room hv).2.2.2.2
    show Calls Tryz.prog 71 #[.agg #[.int .i64 k, .int .i64 n, .string s, .slice tb ts.length tc, .slice io is.length ic], .int .i64 (m : Nat)] w fun e w' => e = .returned (.bool false) ∧ Below w.heap.size w w'
    have hmf : ∀ (fn : Fn) (first cap : Array Value) (w : World), (Instr.makeFunc fn first cap).run Tryz.prog w = .ok (.func fn first cap) w := fun _ _ _ _ => rfl
    have hB0 := ((Below.refl w.heap.size w).alloc (Nat.le_refl _) (.cells #[.int .i64 k, .int .i64 n, .string s, .slice tb ts.length tc, .slice io is.length ic] 26)).alloc (by simp) (.cells #[.int .i64 (m : Nat)] 3)
    have hC0 := (Cs.new w [.int .i64 k, .int .i64 n, .string s, .slice tb ts.length tc, .slice io is.length ic] 26).alloc (.cells #[.int .i64 (m : Nat)] 3)
    have hG0 := Cs.new (w.alloc (.cells #[.int .i64 k, .int .i64 n, .string s, .slice tb ts.length tc, .slice io is.length ic] 26)) [.int .i64 (m : Nat)] 3
    rw [show (w.alloc (.cells #[.int .i64 k, .int .i64 n, .string s, .slice tb ts.length tc, .slice io is.length ic] 26)).heap.size = w.heap.size + 1 by simp] at hG0
    have HB0 := Lib.hid hB0
    have HC0 := Lib.hid hC0
    have HG0 := Lib.hid hG0
    have hV := Lib.hid hv
    have hIH := Lib.hid ih
    have hND := Lib.hid hN
    have hDD := Lib.hid hd
    have f0 : ¬ (m : Int) < 0 := by omega
    clear hv ih hN hd hB0 hC0 hG0
    have hix : ∀ (w : World) (hv : VaIn w (.mk k n s tb tc ts io ic is)) (g : Nat) (hg : w.cell? ⟨g, 0, none⟩ = some (.int .i64 (m : Nat))),
        Calls Tryz.prog 97 #[.slice io is.length ic, .func (.func 96) #[] #[.pointer (some ⟨g, 0, none⟩)]] w fun e w' => e = .returned (.int .i64 (-1)) ∧ Below w.heap.size w w' := by
      intro w hv g hg
      have hlt := World.block_lt_of_cell? w _ hg
      have hV := Lib.hid hv
      have hG := Lib.hid hg
      clear hv hg HB0 HC0 HG0
      go_enter Tryz.func97, Tryz.ntmps97
      go_wp2
      go_loopw [8] (fun i wr => ∃ j, j ≤ is.length ∧ i = .int .i64 (j : Nat) ∧ Hid (Below w.heap.size w wr)) (fun i _ => is.length - (intOf i).toNat)
      case atStart => exact ⟨0, by omega, rfl, Below.refl _ _⟩
      case round =>
        obtain ⟨j, hj, rfl, HB⟩ := hrel
        have hsz := HB.out.size
        by_cases hjl : j < is.length
        · have hji : (j : Int) < (is.length : Int) := by omega
          obtain ⟨v, hvi⟩ : ∃ v, is[j]? = some v := ⟨_, List.getElem?_eq_getElem hjl⟩
          obtain ⟨a, Ab, Ao, As, rfl, hA, hAb, c0, c1, c2, c3, c4, hin⟩ := va_place (va_below hV.out HB.out (Nat.le_refl _)) hvi
          have hdc : dpV v < dpV (.mk k n s tb tc ts (some a) ic is) := dp_childV hvi
          have hp := dp_posV v
          have hgg := (HB.out.cell (p := ⟨g, 0, none⟩) hlt).trans hG.out
          have hHt := Lib.hid (And.intro hin hvi)
          have hdd : dpV v ≤ (m - 1) + 1 := by have := hDD.out; omega
          have hm1 : 1 ≤ m := by have := hDD.out; omega
          have hcl : Calls Tryz.prog 96 #[.agg #[.int .i64 v.k, .int .i64 v.n, .string v.s, .slice v.tb v.ts.length v.tc, .slice v.io v.is.length v.ic], .pointer (some ⟨g, 0, none⟩)] wr fun e w' => e = .returned (.bool false) ∧ Below wr.heap.size wr w' := by
            have hB1 := (Below.refl wr.heap.size wr).alloc (Nat.le_refl _) (.cells #[.int .i64 v.k, .int .i64 v.n, .string v.s, .slice v.tb v.ts.length v.tc, .slice v.io v.is.length v.ic] 26)
            have hglt := World.block_lt_of_cell? wr _ hgg
            have hg2 := (hB1.cell (p := ⟨g, 0, none⟩) hglt).trans hgg
            have HV1 := Lib.hid (va_below hin hB1 (Nat.le_refl _))
            have HB1 := Lib.hid hB1
            have hmm : IntKind.i64.wrap ((m : Int) - 1) = ((m - 1 : Nat) : Int) := by rw [IntKind.wrap_i64]; omega
            clear hB1 c0 c1 c2 c3 c4 hgg hA
            go_enter Tryz.func96, Tryz.ntmps96
            go_wp2_with (go_at_call 71; refine (hIH.out v (m - 1) _ (by have := hND.out; omega) HV1.out hdd (by omega)).mono ?_; rintro e w2 ⟨rfl, hb2⟩)
            go_ret
            exact ⟨rfl, HB1.out.trans (hb2.mono HB1.out.size)⟩
          have HCL := Lib.hid hcl
          clear hcl hgg
          go_wp2_with (go_at_call 96; refine HCL.out.mono ?_; rintro e w2 ⟨rfl, hb2⟩)
          go_roundw
          case rel => exact ⟨j + 1, by omega, by go_num, HB.out.trans (hb2.mono hsz)⟩
          case measure => simp [intOf]; omega
        · have hji : ¬ (j : Int) < (is.length : Int) := by omega
          obtain rfl : j = is.length := by omega
          go_wp2
          go_ret
          exact ⟨rfl, HB.out⟩
    have HIX := Lib.hid hix
    clear hix
    have hct : ∀ (w : World) (hv : VaIn w (.mk k n s tb tc ts io ic is)) (g : Nat) (hg : w.cell? ⟨g, 0, none⟩ = some (.int .i64 (m : Nat))),
        Calls Tryz.prog 74 #[.slice io is.length ic, .func (.func 96) #[] #[.pointer (some ⟨g, 0, none⟩)]] w fun e w' => e = .returned (.bool false) ∧ Below w.heap.size w w' := by
      intro w hv g hg
      have hV := Lib.hid hv
      have hG := Lib.hid hg
      clear hv hg HB0 HC0 HG0
      go_enter Tryz.func74, Tryz.ntmps74
      go_wp2_with (go_at_call 97; refine (HIX.out _ hV.out g hG.out).mono ?_; rintro e w2 ⟨rfl, hb2⟩)
      go_ret
      exact ⟨rfl, hb2⟩
    have HCT := Lib.hid hct
    clear hct
    have d4 := HC0.out.cell (i := 4) rfl
    have g0 := HG0.out.cell (i := 0) rfl
    have HG1 := Lib.hid g0
    go_enter Tryz.func71, Tryz.ntmps71
    go_wp2_with (go_at_call 74; refine (HCT.out _ (va_below hV.out HB0.out (Nat.le_refl _)) (w.heap.size + 1) HG1.out).mono ?_; rintro e w2 ⟨rfl, hb2⟩)
    go_ret
    exact ⟨rfl, HB0.out.trans (hb2.mono HB0.out.size)⟩

set_option maxRecDepth 100000 in
theorem endless_any (v : Va) (w : World) (hv : VaIn w v) (hnc : Nc v) :
    Calls Tryz.prog 40 #[.agg #[.int .i64 v.k, .int .i64 v.n, .string v.s, .slice v.tb v.ts.length v.tc, .slice v.io v.is.length v.ic]] w fun e w' => e = .returned (.bool false) ∧ Below w.heap.size w w' := by
  have hB1 := (Below.refl w.heap.size w).alloc (Nat.le_refl _) (.cells #[.int .i64 v.k, .int .i64 v.n, .string v.s, .slice v.tb v.ts.length v.tc, .slice v.io v.is.length v.ic] 26)
  have HV1 := Lib.hid (va_below hv hB1 (Nat.le_refl _))
  have HB1 := Lib.hid hB1
  have HN := Lib.hid hnc
  clear hv hnc hB1
  go_enter Tryz.func40, Tryz.ntmps40
  go_wp2_with (go_at_call 71; refine (deeper_any _ v 131072 _ (Nat.lt_succ_self _) HV1.out (by have := HN.out.deep; omega) (by omega)).mono ?_; rintro e w2 ⟨rfl, hb2⟩)
  go_ret
  exact ⟨rfl, HB1.out.trans (hb2.mono HB1.out.size)⟩

set_option maxRecDepth 100000 in
set_option maxHeartbeats 1000000 in
theorem ldeep_any : ∀ (N : Nat) (v : Va) (w : World), dpV v < N → VaIn w v → dpV v ≤ 1000000 →
    Calls Tryz.prog 42 #[.agg #[.int .i64 v.k, .int .i64 v.n, .string v.s, .slice v.tb v.ts.length v.tc, .slice v.io v.is.length v.ic]] w fun e w' => e = .returned (.int .i64 (dpV v : Nat)) ∧ Below w.heap.size w w' := by
  intro N
  induction N with
  | zero => intro v w h; omega
  | succ N ih =>
    intro v w hN hv hd
    obtain ⟨k, n, s, tb, tc, ts, io, ic, is⟩ := v
    have hlen := (va_room hv).2.2.2.2
    show Calls Tryz.prog 42 #[.agg #[.int .i64 k, .int .i64 n, .string s, .slice tb ts.length tc, .slice io is.length ic]] w fun e w' => e = .returned (.int .i64 (dpV (.mk k n s tb tc ts io ic is) : Nat)) ∧ Below w.heap.size w w'
    rw [dpV_eq]
    rw [dpV_eq] at hd
    have hB0 := Lib.hid ((Below.refl w.heap.size w).alloc (Nat.le_refl _) (.cells #[.int .i64 k, .int .i64 n, .string s, .slice tb ts.length tc, .slice io is.length ic] 26))
    have hC0 := Lib.hid (Cs.new w [.int .i64 k, .int .i64 n, .string s, .slice tb ts.length tc, .slice io is.length ic] 26)
    have hV := Lib.hid hv
    have hIH := Lib.hid ih
    have hND := Lib.hid hN
    clear hv ih hN
    have d4 := hC0.out.cell (i := 4) rfl
    go_enter Tryz.func42, Tryz.ntmps42
    go_wp2
    go_loopw [3, 9] (fun m i wr => ∃ j, j ≤ is.length ∧ i = .int .i64 (j : Nat) ∧ m = .int .i64 ((dpsV (is.take j) : Nat) : Int) ∧ Hid (Below w.heap.size w wr)) (fun m i _ => is.length - (intOf i).toNat)
    case atStart => exact ⟨0, by omega, rfl, by simp [dpsV], hB0⟩
    case round =>
      obtain ⟨j, hj, rfl, rfl, HB⟩ := hrel
      clear hC0 hB0
      have hsz := HB.out.size
      by_cases hjl : j < is.length
      · have hji : (j : Int) < (is.length : Int) := by omega
        obtain ⟨v, hvi⟩ : ∃ v, is[j]? = some v := ⟨_, List.getElem?_eq_getElem hjl⟩
        obtain ⟨a, Ab, Ao, As, rfl, hA, hAb, c0, c1, c2, c3, c4, hin⟩ := va_place (va_below hV.out HB.out (Nat.le_refl _)) hvi
        have hHt := Lib.hid (And.intro hin hvi)
        have hle := dps_leV is j v hvi
        have hnx := dps_take is j v hvi
        have hlt := dps_cut is j
        have hBx := (Below.refl wr.heap.size wr).alloc (Nat.le_refl _) (.cells #[.int .i64 v.k, .int .i64 v.n, .string v.s, .slice v.tb v.ts.length v.tc, .slice v.io v.is.length v.ic] 26)
        have HVx := Lib.hid (va_below hin hBx (Nat.le_refl _))
        have HBx := Lib.hid hBx
        clear hBx
        go_wp2_with (go_at_call 42; refine (hIH.out v _ (by have := dp_childV (k := k) (n := n) (s := s) (tb := tb) (tc := tc) (ts := ts) (io := some a) (ic := ic) hHt.out.2; have := hND.out; omega) HVx.out (by omega)).mono ?_; rintro e w2 ⟨rfl, hb2⟩)
        go_roundw
        case rel => exact ⟨j + 1, by omega, by go_num, by rw [hnx]; congr 1; omega, HB.out.trans ((HBx.out.trans (hb2.mono HBx.out.size)).mono hsz)⟩
        case measure => simp [intOf]; omega
      · have hji : ¬ (j : Int) < (is.length : Int) := by omega
        obtain rfl : j = is.length := by omega
        rw [List.take_length]
        go_wp2
        go_ret
        exact ⟨congrArg (fun x => Ending.returned (.int .i64 x)) (by omega), HB.out⟩
set_option maxRecDepth 100000 in
theorem deep_any (v : Va) (w : World) (hv : VaIn w v) (hnc : Nc v) :
    Calls Tryz.prog 23 #[.agg #[.int .i64 v.k, .int .i64 v.n, .string v.s, .slice v.tb v.ts.length v.tc, .slice v.io v.is.length v.ic]] w fun e w' => e = .returned (.int .i64 (dpV v : Nat)) ∧ Below w.heap.size w w' := by
  have hB1 := (Below.refl w.heap.size w).alloc (Nat.le_refl _) (.cells #[.int .i64 v.k, .int .i64 v.n, .string v.s, .slice v.tb v.ts.length v.tc, .slice v.io v.is.length v.ic] 26)
  have HC0 := Lib.hid (Cs.new w [.int .i64 v.k, .int .i64 v.n, .string v.s, .slice v.tb v.ts.length v.tc, .slice v.io v.is.length v.ic] 26)
  have HV1 := Lib.hid (va_below hv hB1 (Nat.le_refl _))
  have HB1 := Lib.hid hB1
  have HN := Lib.hid hnc
  clear hv hnc hB1
  go_enter Tryz.func23, Tryz.ntmps23
  go_wp2_with (first
    | (go_at_call 40; refine (endless_any v _ HV1.out HN.out).mono ?_; rintro e w2 ⟨rfl, hb2⟩; have d0 := (HC0.out.below hb2 HC0.out.lt).cell (i := 0) rfl; have d1 := (HC0.out.below hb2 HC0.out.lt).cell (i := 1) rfl; have d2 := (HC0.out.below hb2 HC0.out.lt).cell (i := 2) rfl; have d3 := (HC0.out.below hb2 HC0.out.lt).cell (i := 3) rfl; have d4 := (HC0.out.below hb2 HC0.out.lt).cell (i := 4) rfl)
    | (go_at_call 42; refine (ldeep_any _ v _ (Nat.lt_succ_self _) (va_below HV1.out hb2 (Nat.le_refl _)) (by have := HN.out.deep; omega)).mono ?_; rintro e w3 ⟨rfl, hb3⟩))
  go_ret
  exact ⟨rfl, HB1.out.trans ((hb2.trans (hb3.mono hb2.size)).mono HB1.out.size)⟩
end Go.Proofs.YtdogddliifbjnaaGreat.Va
