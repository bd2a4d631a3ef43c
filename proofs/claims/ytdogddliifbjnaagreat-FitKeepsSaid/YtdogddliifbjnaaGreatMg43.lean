/- Values: the contracts of the program's well and Well. (Printed by gen/well.py.) -/
import Derived.Test.YtdogddliifbjnaaGreatMg40
import Derived.Test.YtdogddliifbjnaaGreatMg42
namespace Go.Proofs.YtdogddliifbjnaaGreat.Va
open Go.RowKit Cm
set_option linter.unusedVariables false
set_option linter.unusedSimpArgs false

set_option maxRecDepth 100000 in
set_option maxHeartbeats 1000000 in
theorem ixw_any (N : Nat) (ih : ∀ (v : Va) (w : World), dpV v < N → VaIn w v → Nc v → Calls Tryz.prog 41 #[.agg #[.int .i64 v.k, .int .i64 v.n, .string v.s, .slice v.tb v.ts.length v.tc, .slice v.io v.is.length v.ic]] w fun e w' => e = .returned (.bool (weV rightB v)) ∧ Below w.heap.size w w') (k : Int) (n : Int) (s : ByteArray) (tb : Option Addr) (tc : Nat) (ts : List Int) (io : Option Addr) (ic : Nat) (is : List Va) (w : World)
    (hN : dpV (.mk k n s tb tc ts io ic is) < N + 1) (hv : VaIn w (.mk k n s tb tc ts io ic is)) (hnc : Nc (.mk k n s tb tc ts io ic is)) :
    Calls Tryz.prog 97 #[.slice io is.length ic, .func (.func 75) #[] #[]] w fun e w' => ∃ r : Int, e = .returned (.int .i64 r) ∧ (r = -1 ∧ wesV rightB is = true ∨ 0 ≤ r ∧ wesV rightB is = false) ∧ Below w.heap.size w w' := by
  have hlen := (va_room hv).2.2.2.2
  have hV := Lib.hid hv
  have hIH := Lib.hid ih
  have hND := Lib.hid hN
  have hNC := Lib.hid hnc
  clear hv ih hN hnc
  go_enter Tryz.func97, Tryz.ntmps97
  go_wp2
  go_loopw [8] (fun i wr => ∃ j, j ≤ is.length ∧ i = .int .i64 (j : Nat) ∧ Hid (∀ (q : Nat) (v : Va), q < j → is[q]? = some v → weV rightB v = true) ∧ Hid (Below w.heap.size w wr)) (fun i _ => is.length - (intOf i).toNat)
  case atStart => exact ⟨0, by omega, rfl, Lib.hid (fun q v hq => by omega), Lib.hid (Below.refl _ _)⟩
  case round =>
    obtain ⟨j, hj, rfl, HP, HB⟩ := hrel
    have hsz := HB.out.size
    by_cases hjl : j < is.length
    · have hji : (j : Int) < (is.length : Int) := by omega
      obtain ⟨v, hvi⟩ : ∃ v, is[j]? = some v := ⟨_, List.getElem?_eq_getElem hjl⟩
      obtain ⟨a, Ab, Ao, As, rfl, hA, hAb, c0, c1, c2, c3, c4, hin⟩ := va_place (va_below hV.out HB.out (Nat.le_refl _)) hvi
      have hHt := Lib.hid (And.intro hin hvi)
      clear hin hvi
      have hcl : ∀ b, weV rightB v = b → Calls Tryz.prog 75 #[.agg #[.int .i64 v.k, .int .i64 v.n, .string v.s, .slice v.tb v.ts.length v.tc, .slice v.io v.is.length v.ic]] wr fun e w' => e = .returned (.bool (!b)) ∧ Below wr.heap.size wr w' := by
        intro b hb
        have hB1 := (Below.refl wr.heap.size wr).alloc (Nat.le_refl _) (.cells #[.int .i64 v.k, .int .i64 v.n, .string v.s, .slice v.tb v.ts.length v.tc, .slice v.io v.is.length v.ic] 26)
        have HV1 := Lib.hid (va_below hHt.out.1 hB1 (Nat.le_refl _))
        have HB1 := Lib.hid hB1
        have HBB := Lib.hid hb
        clear hB1 c0 c1 c2 c3 c4 hA hb
        go_enter Tryz.func75, Tryz.ntmps75
        go_wp2_with (go_at_call 41; refine (hIH.out v _ (by have := dp_childV (k := k) (n := n) (s := s) (tb := tb) (tc := tc) (ts := ts) (io := some a) (ic := ic) hHt.out.2; have := hND.out; omega) HV1.out (hNC.out.child hHt.out.2)).mono ?_; rw [HBB.out]; rintro e w2 ⟨rfl, hb2⟩)
        go_ret
        exact ⟨rfl, HB1.out.trans (hb2.mono HB1.out.size)⟩
      cases hb : weV rightB v with
      | true =>
        have HCL := Lib.hid (hcl true hb)
        have HW := Lib.hid hb
        clear hcl hb
        go_wp2_with (go_at_call 75; refine HCL.out.mono ?_; rintro e w2 ⟨rfl, hb2⟩)
        go_roundw
        case rel => exact ⟨j + 1, by omega, by go_num, Lib.hid (fun q v' hq hv' => by
          by_cases e : q = j
          · subst e
            rw [hHt.out.2] at hv'
            obtain rfl := Option.some.inj hv'
            exact HW.out
          · exact HP.out q v' (by omega) hv'), Lib.hid (HB.out.trans (hb2.mono hsz))⟩
        case measure => simp [intOf]; omega
      | false =>
        have HCL := Lib.hid (hcl false hb)
        have HW := Lib.hid hb
        clear hcl hb
        go_wp2_with (go_at_call 75; refine HCL.out.mono ?_; rintro e w2 ⟨rfl, hb2⟩)
        go_ret
        exact ⟨_, rfl, .inr ⟨by omega, wes_false hHt.out.2 HW.out⟩, HB.out.trans (hb2.mono hsz)⟩
    · have hji : ¬ (j : Int) < (is.length : Int) := by omega
      go_wp2
      go_ret
      exact ⟨_, rfl, .inl ⟨rfl, (wes_iff _ is).2 (fun q v hv => HP.out q v (by have := (List.getElem?_eq_some_iff.1 hv).1; omega) hv)⟩, HB.out⟩
set_option maxRecDepth 100000 in
set_option maxHeartbeats 1000000 in
theorem ctw_any (N : Nat) (ih : ∀ (v : Va) (w : World), dpV v < N → VaIn w v → Nc v → Calls Tryz.prog 41 #[.agg #[.int .i64 v.k, .int .i64 v.n, .string v.s, .slice v.tb v.ts.length v.tc, .slice v.io v.is.length v.ic]] w fun e w' => e = .returned (.bool (weV rightB v)) ∧ Below w.heap.size w w') (k : Int) (n : Int) (s : ByteArray) (tb : Option Addr) (tc : Nat) (ts : List Int) (io : Option Addr) (ic : Nat) (is : List Va) (w : World)
    (hN : dpV (.mk k n s tb tc ts io ic is) < N + 1) (hv : VaIn w (.mk k n s tb tc ts io ic is)) (hnc : Nc (.mk k n s tb tc ts io ic is)) :
    Calls Tryz.prog 74 #[.slice io is.length ic, .func (.func 75) #[] #[]] w fun e w' => e = .returned (.bool (!wesV rightB is)) ∧ Below w.heap.size w w' := by
  have hI := Lib.hid (ixw_any N ih k n s tb tc ts io ic is w hN hv hnc)
  clear hv ih hN hnc
  cases hw : wesV rightB is with
  | true =>
    have HW := Lib.hid hw
    clear hw
    go_enter Tryz.func74, Tryz.ntmps74
    go_wp2_with (go_at_call 97; refine hI.out.mono ?_; rintro e w2 ⟨r, rfl, hr, hb2⟩; obtain rfl : r = -1 := hr.elim (fun h => h.1) (fun h => by have h2 := h.2; rw [HW.out] at h2; cases h2))
    go_ret
    exact ⟨rfl, hb2⟩
  | false =>
    have HW := Lib.hid hw
    clear hw
    go_enter Tryz.func74, Tryz.ntmps74
    go_wp2_with (go_at_call 97; refine hI.out.mono ?_; rintro e w2 ⟨r, rfl, hr, hb2⟩; have h0 : 0 ≤ r := hr.elim (fun h => by have h2 := h.2; rw [HW.out] at h2; cases h2) (fun h => h.1))
    go_ret
    refine ⟨?_, hb2⟩
    first
      | rfl
      | (show Ending.returned (.bool (decide (0 ≤ r))) = _; rw [decide_eq_true h0]; rfl)
theorem m1_any (n : Int) (w : World) : Calls Tryz.prog 178 #[.int .i64 n] w fun e w' => e = .returned (.bool (decide (n = 0) || decide (n = 1))) ∧ Below w.heap.size w w' := by
  by_cases h0 : n = 0
  · subst h0
    go_enter Tryz.func178, Tryz.ntmps178
    go_wp2
    go_ret
    exact ⟨rfl, Below.refl _ _⟩
  · have g0 : (n == 0) = false := by simpa using h0
    have g1 : (decide (n = 0) || decide (n = 1)) = (n == 1) := by rw [decide_eq_false h0, Bool.false_or, Bool.beq_eq_decide_eq]
    rw [g1]
    clear g1
    go_enter Tryz.func178, Tryz.ntmps178
    go_wp2
    go_ret
    exact ⟨rfl, Below.refl _ _⟩
theorem m2_any (n : Int) (s : ByteArray) (io : Option Addr) (il ic : Nat) (w : World) : Calls Tryz.prog 179 #[.int .i64 n] w fun e w' => e = .returned (.bool true) ∧ Below w.heap.size w w' := by
  go_enter Tryz.func179, Tryz.ntmps179
  go_wp2
  go_ret
  exact ⟨rfl, Below.refl _ _⟩
theorem m3_any (n : Int) (s : ByteArray) (io : Option Addr) (il ic : Nat) (w : World) : Calls Tryz.prog 180 #[.int .u64 n] w fun e w' => e = .returned (.bool true) ∧ Below w.heap.size w w' := by
  go_enter Tryz.func180, Tryz.ntmps180
  go_wp2
  go_ret
  exact ⟨rfl, Below.refl _ _⟩
theorem m6_any (n : Int) (w : World) : Calls Tryz.prog 181 #[.int .i64 n] w fun e w' => e = .returned (.bool (decide (0 ≤ n) && decide (n ≤ 9999))) ∧ Below w.heap.size w w' := by
  by_cases h0 : 0 ≤ n
  · have g1 : (decide (0 ≤ n) && decide (n ≤ 9999)) = decide (n ≤ 9999) := by rw [decide_eq_true h0, Bool.true_and]
    rw [g1]
    clear g1
    go_enter Tryz.func181, Tryz.ntmps181
    go_wp2
    go_ret
    exact ⟨rfl, Below.refl _ _⟩
  · have g1 : (decide (0 ≤ n) && decide (n ≤ 9999)) = false := by rw [decide_eq_false h0, Bool.false_and]
    rw [g1]
    clear g1
    go_enter Tryz.func181, Tryz.ntmps181
    go_wp2
    go_ret
    exact ⟨rfl, Below.refl _ _⟩
theorem m4_any (s : ByteArray) (w : World) (hs : s.size ≤ 2000) : Calls Tryz.prog 182 #[.string s] w fun e w' => e = .returned (.bool (rightB s)) ∧ Below w.heap.size w w' := by
  go_enter Tryz.func182, Tryz.ntmps182
  go_wp2_with (go_at_call 183; refine (valid_any s _ hs).mono ?_; rintro e w2 ⟨rfl, hb2⟩)
  go_ret
  exact ⟨rfl, hb2⟩
theorem m5_any (n : Int) (s : ByteArray) (io : Option Addr) (il ic : Nat) (w : World) : Calls Tryz.prog 188 #[.string s] w fun e w' => e = .returned (.bool true) ∧ Below w.heap.size w w' := by
  go_enter Tryz.func188, Tryz.ntmps188
  go_wp2
  go_ret
  exact ⟨rfl, Below.refl _ _⟩
theorem m7_any (n : Int) (s : ByteArray) (io : Option Addr) (il ic : Nat) (w : World) : Calls Tryz.prog 189 #[.slice io il ic] w fun e w' => e = .returned (.bool true) ∧ Below w.heap.size w w' := by
  go_enter Tryz.func189, Tryz.ntmps189
  go_wp2
  go_ret
  exact ⟨rfl, Below.refl _ _⟩
set_option maxRecDepth 100000 in
set_option maxHeartbeats 1000000 in
theorem well1_any (N : Nat) (ih : ∀ (v : Va) (w : World), dpV v < N → VaIn w v → Nc v → Calls Tryz.prog 41 #[.agg #[.int .i64 v.k, .int .i64 v.n, .string v.s, .slice v.tb v.ts.length v.tc, .slice v.io v.is.length v.ic]] w fun e w' => e = .returned (.bool (weV rightB v)) ∧ Below w.heap.size w w') (n : Int) (s : ByteArray) (tb : Option Addr) (tc : Nat) (ts : List Int) (io : Option Addr) (ic : Nat) (is : List Va) (w : World)
    (hN : dpV (.mk 1 n s tb tc ts io ic is) < N + 1) (hv : VaIn w (.mk 1 n s tb tc ts io ic is)) (hnc : Nc (.mk 1 n s tb tc ts io ic is)) :
    Calls Tryz.prog 41 #[.agg #[.int .i64 1, .int .i64 n, .string s, .slice tb ts.length tc, .slice io is.length ic]] w fun e w' => e = .returned (.bool ((decide (n = 0) || decide (n = 1)) && !ovB 1 n s ts.length is.length && wesV rightB is)) ∧ Below w.heap.size w w' := by
  have hs2 := hnc.room.2.2
  have htl := (va_room hv).2.2.2.1
  have HB0 := Lib.hid ((Below.refl w.heap.size w).alloc (Nat.le_refl _) (.cells #[.int .i64 1, .int .i64 n, .string s, .slice tb ts.length tc, .slice io is.length ic] 26))
  have HC0 := Lib.hid (Cs.new w [.int .i64 1, .int .i64 n, .string s, .slice tb ts.length tc, .slice io is.length ic] 26)
  have hV := Lib.hid hv
  have hIH := Lib.hid ih
  have hND := Lib.hid hN
  have hNC := Lib.hid hnc
  clear hv ih hN hnc
  cases hw : (decide (n = 0) || decide (n = 1)) with
  | false =>
    rw [Bool.false_and, Bool.false_and]
    go_enter Tryz.func41, Tryz.ntmps41
    go_wp2_with (first
      | (go_at_call 72; refine (kind1_any n s tb ts.length tc io is.length ic _).mono ?_; rintro e w1 ⟨rfl, hb1⟩; have h2 := HB0.out.trans (hb1.mono HB0.out.size); have hC2 := HC0.out.below hb1 HC0.out.lt; have d0 := hC2.cell (i := 0) rfl; have d1 := hC2.cell (i := 1) rfl; have d2 := hC2.cell (i := 2) rfl; have d3 := hC2.cell (i := 3) rfl; have d4 := hC2.cell (i := 4) rfl; have HC2 := Lib.hid hC2; have H2 := Lib.hid h2; clear hC2)
      | (go_at_call 178; refine (m1_any n _).mono ?_; rw [hw]; rintro e w2 ⟨rfl, hb2⟩; have h2 := H2.out.trans (hb2.mono H2.out.size); have hC2 := HC2.out.below hb2 HC2.out.lt; have d0 := hC2.cell (i := 0) rfl; have d1 := hC2.cell (i := 1) rfl; have d2 := hC2.cell (i := 2) rfl; have d3 := hC2.cell (i := 3) rfl; have d4 := hC2.cell (i := 4) rfl; have HC2 := Lib.hid hC2; have H2 := Lib.hid h2; clear hC2))
    skip
    go_ret
    exact ⟨rfl, H2.out⟩
  | true =>
    rw [Bool.true_and]
    cases ho : ovB 1 n s ts.length is.length with
    | true =>
      go_enter Tryz.func41, Tryz.ntmps41
      go_wp2_with (first
        | (go_at_call 72; refine (kind1_any n s tb ts.length tc io is.length ic _).mono ?_; rintro e w1 ⟨rfl, hb1⟩; have h2 := HB0.out.trans (hb1.mono HB0.out.size); have hC2 := HC0.out.below hb1 HC0.out.lt; have d0 := hC2.cell (i := 0) rfl; have d1 := hC2.cell (i := 1) rfl; have d2 := hC2.cell (i := 2) rfl; have d3 := hC2.cell (i := 3) rfl; have d4 := hC2.cell (i := 4) rfl; have HC2 := Lib.hid hC2; have H2 := Lib.hid h2; clear hC2)
        | (go_at_call 178; refine (m1_any n _).mono ?_; rw [hw]; rintro e w2 ⟨rfl, hb2⟩; have h2 := H2.out.trans (hb2.mono H2.out.size); have hC2 := HC2.out.below hb2 HC2.out.lt; have d0 := hC2.cell (i := 0) rfl; have d1 := hC2.cell (i := 1) rfl; have d2 := hC2.cell (i := 2) rfl; have d3 := hC2.cell (i := 3) rfl; have d4 := hC2.cell (i := 4) rfl; have HC2 := Lib.hid hC2; have H2 := Lib.hid h2; clear hC2)
        | (go_at_call 73; refine (over1_any n s tb ts.length tc io is.length ic _).mono ?_; rw [ho]; rintro e w3 ⟨rfl, hb3⟩; have h3 := H2.out.trans (hb3.mono H2.out.size); have hC3 := HC2.out.below hb3 HC2.out.lt; have d4 := hC3.cell (i := 4) rfl; have H3 := Lib.hid h3; clear hC3))
      skip
      go_ret
      exact ⟨rfl, H3.out⟩
    | false =>
      rw [Bool.not_false, Bool.true_and]
      go_enter Tryz.func41, Tryz.ntmps41
      go_wp2_with (first
        | (go_at_call 72; refine (kind1_any n s tb ts.length tc io is.length ic _).mono ?_; rintro e w1 ⟨rfl, hb1⟩; have h2 := HB0.out.trans (hb1.mono HB0.out.size); have hC2 := HC0.out.below hb1 HC0.out.lt; have d0 := hC2.cell (i := 0) rfl; have d1 := hC2.cell (i := 1) rfl; have d2 := hC2.cell (i := 2) rfl; have d3 := hC2.cell (i := 3) rfl; have d4 := hC2.cell (i := 4) rfl; have HC2 := Lib.hid hC2; have H2 := Lib.hid h2; clear hC2)
        | (go_at_call 178; refine (m1_any n _).mono ?_; rw [hw]; rintro e w2 ⟨rfl, hb2⟩; have h2 := H2.out.trans (hb2.mono H2.out.size); have hC2 := HC2.out.below hb2 HC2.out.lt; have d0 := hC2.cell (i := 0) rfl; have d1 := hC2.cell (i := 1) rfl; have d2 := hC2.cell (i := 2) rfl; have d3 := hC2.cell (i := 3) rfl; have d4 := hC2.cell (i := 4) rfl; have HC2 := Lib.hid hC2; have H2 := Lib.hid h2; clear hC2)
        | (go_at_call 73; refine (over1_any n s tb ts.length tc io is.length ic _).mono ?_; rw [ho]; rintro e w3 ⟨rfl, hb3⟩; have h3 := H2.out.trans (hb3.mono H2.out.size); have hC3 := HC2.out.below hb3 HC2.out.lt; have d4 := hC3.cell (i := 4) rfl; have H3 := Lib.hid h3; clear hC3)
        | (go_at_call 74; refine (ctw_any N hIH.out 1 n s tb tc ts io ic is _ hND.out (va_below hV.out H3.out (Nat.le_refl _)) hNC.out).mono ?_; rintro e w4 ⟨rfl, hb4⟩; have H4 := Lib.hid (H3.out.trans (hb4.mono H3.out.size))))
      skip
      go_ret
      exact ⟨rfl, H4.out⟩
set_option maxRecDepth 100000 in
set_option maxHeartbeats 1000000 in
theorem well2_any (N : Nat) (ih : ∀ (v : Va) (w : World), dpV v < N → VaIn w v → Nc v → Calls Tryz.prog 41 #[.agg #[.int .i64 v.k, .int .i64 v.n, .string v.s, .slice v.tb v.ts.length v.tc, .slice v.io v.is.length v.ic]] w fun e w' => e = .returned (.bool (weV rightB v)) ∧ Below w.heap.size w w') (n : Int) (s : ByteArray) (tb : Option Addr) (tc : Nat) (ts : List Int) (io : Option Addr) (ic : Nat) (is : List Va) (w : World)
    (hN : dpV (.mk 2 n s tb tc ts io ic is) < N + 1) (hv : VaIn w (.mk 2 n s tb tc ts io ic is)) (hnc : Nc (.mk 2 n s tb tc ts io ic is)) :
    Calls Tryz.prog 41 #[.agg #[.int .i64 2, .int .i64 n, .string s, .slice tb ts.length tc, .slice io is.length ic]] w fun e w' => e = .returned (.bool (true && !ovB 2 n s ts.length is.length && wesV rightB is)) ∧ Below w.heap.size w w' := by
  have hs2 := hnc.room.2.2
  have htl := (va_room hv).2.2.2.1
  have HB0 := Lib.hid ((Below.refl w.heap.size w).alloc (Nat.le_refl _) (.cells #[.int .i64 2, .int .i64 n, .string s, .slice tb ts.length tc, .slice io is.length ic] 26))
  have HC0 := Lib.hid (Cs.new w [.int .i64 2, .int .i64 n, .string s, .slice tb ts.length tc, .slice io is.length ic] 26)
  have hV := Lib.hid hv
  have hIH := Lib.hid ih
  have hND := Lib.hid hN
  have hNC := Lib.hid hnc
  clear hv ih hN hnc
  rw [Bool.true_and]
  cases ho : ovB 2 n s ts.length is.length with
  | true =>
    go_enter Tryz.func41, Tryz.ntmps41
    go_wp2_with (first
      | (go_at_call 72; refine (kind2_any n s tb ts.length tc io is.length ic _).mono ?_; rintro e w1 ⟨rfl, hb1⟩; have h2 := HB0.out.trans (hb1.mono HB0.out.size); have hC2 := HC0.out.below hb1 HC0.out.lt; have d0 := hC2.cell (i := 0) rfl; have d1 := hC2.cell (i := 1) rfl; have d2 := hC2.cell (i := 2) rfl; have d3 := hC2.cell (i := 3) rfl; have d4 := hC2.cell (i := 4) rfl; have HC2 := Lib.hid hC2; have H2 := Lib.hid h2; clear hC2)
      | (go_at_call 179; refine (m2_any n s io is.length ic _).mono ?_; rintro e w2 ⟨rfl, hb2⟩; have h2 := H2.out.trans (hb2.mono H2.out.size); have hC2 := HC2.out.below hb2 HC2.out.lt; have d0 := hC2.cell (i := 0) rfl; have d1 := hC2.cell (i := 1) rfl; have d2 := hC2.cell (i := 2) rfl; have d3 := hC2.cell (i := 3) rfl; have d4 := hC2.cell (i := 4) rfl; have HC2 := Lib.hid hC2; have H2 := Lib.hid h2; clear hC2)
      | (go_at_call 73; refine (over2_any n s tb ts.length tc io is.length ic _).mono ?_; rw [ho]; rintro e w3 ⟨rfl, hb3⟩; have h3 := H2.out.trans (hb3.mono H2.out.size); have hC3 := HC2.out.below hb3 HC2.out.lt; have d4 := hC3.cell (i := 4) rfl; have H3 := Lib.hid h3; clear hC3))
    skip
    go_ret
    exact ⟨rfl, H3.out⟩
  | false =>
    rw [Bool.not_false, Bool.true_and]
    go_enter Tryz.func41, Tryz.ntmps41
    go_wp2_with (first
      | (go_at_call 72; refine (kind2_any n s tb ts.length tc io is.length ic _).mono ?_; rintro e w1 ⟨rfl, hb1⟩; have h2 := HB0.out.trans (hb1.mono HB0.out.size); have hC2 := HC0.out.below hb1 HC0.out.lt; have d0 := hC2.cell (i := 0) rfl; have d1 := hC2.cell (i := 1) rfl; have d2 := hC2.cell (i := 2) rfl; have d3 := hC2.cell (i := 3) rfl; have d4 := hC2.cell (i := 4) rfl; have HC2 := Lib.hid hC2; have H2 := Lib.hid h2; clear hC2)
      | (go_at_call 179; refine (m2_any n s io is.length ic _).mono ?_; rintro e w2 ⟨rfl, hb2⟩; have h2 := H2.out.trans (hb2.mono H2.out.size); have hC2 := HC2.out.below hb2 HC2.out.lt; have d0 := hC2.cell (i := 0) rfl; have d1 := hC2.cell (i := 1) rfl; have d2 := hC2.cell (i := 2) rfl; have d3 := hC2.cell (i := 3) rfl; have d4 := hC2.cell (i := 4) rfl; have HC2 := Lib.hid hC2; have H2 := Lib.hid h2; clear hC2)
      | (go_at_call 73; refine (over2_any n s tb ts.length tc io is.length ic _).mono ?_; rw [ho]; rintro e w3 ⟨rfl, hb3⟩; have h3 := H2.out.trans (hb3.mono H2.out.size); have hC3 := HC2.out.below hb3 HC2.out.lt; have d4 := hC3.cell (i := 4) rfl; have H3 := Lib.hid h3; clear hC3)
      | (go_at_call 74; refine (ctw_any N hIH.out 2 n s tb tc ts io ic is _ hND.out (va_below hV.out H3.out (Nat.le_refl _)) hNC.out).mono ?_; rintro e w4 ⟨rfl, hb4⟩; have H4 := Lib.hid (H3.out.trans (hb4.mono H3.out.size))))
    skip
    go_ret
    exact ⟨rfl, H4.out⟩
set_option maxRecDepth 100000 in
set_option maxHeartbeats 1000000 in
theorem well3_any (N : Nat) (ih : ∀ (v : Va) (w : World), dpV v < N → VaIn w v → Nc v → Calls Tryz.prog 41 #[.agg #[.int .i64 v.k, .int .i64 v.n, .string v.s, .slice v.tb v.ts.length v.tc, .slice v.io v.is.length v.ic]] w fun e w' => e = .returned (.bool (weV rightB v)) ∧ Below w.heap.size w w') (n : Int) (s : ByteArray) (tb : Option Addr) (tc : Nat) (ts : List Int) (io : Option Addr) (ic : Nat) (is : List Va) (w : World)
    (hN : dpV (.mk 3 n s tb tc ts io ic is) < N + 1) (hv : VaIn w (.mk 3 n s tb tc ts io ic is)) (hnc : Nc (.mk 3 n s tb tc ts io ic is)) :
    Calls Tryz.prog 41 #[.agg #[.int .i64 3, .int .i64 n, .string s, .slice tb ts.length tc, .slice io is.length ic]] w fun e w' => e = .returned (.bool (true && !ovB 3 n s ts.length is.length && wesV rightB is)) ∧ Below w.heap.size w w' := by
  have hs2 := hnc.room.2.2
  have htl := (va_room hv).2.2.2.1
  have HB0 := Lib.hid ((Below.refl w.heap.size w).alloc (Nat.le_refl _) (.cells #[.int .i64 3, .int .i64 n, .string s, .slice tb ts.length tc, .slice io is.length ic] 26))
  have HC0 := Lib.hid (Cs.new w [.int .i64 3, .int .i64 n, .string s, .slice tb ts.length tc, .slice io is.length ic] 26)
  have hV := Lib.hid hv
  have hIH := Lib.hid ih
  have hND := Lib.hid hN
  have hNC := Lib.hid hnc
  clear hv ih hN hnc
  rw [Bool.true_and]
  cases ho : ovB 3 n s ts.length is.length with
  | true =>
    go_enter Tryz.func41, Tryz.ntmps41
    go_wp2_with (first
      | (go_at_call 72; refine (kind3_any n s tb ts.length tc io is.length ic _).mono ?_; rintro e w1 ⟨rfl, hb1⟩; have h2 := HB0.out.trans (hb1.mono HB0.out.size); have hC2 := HC0.out.below hb1 HC0.out.lt; have d0 := hC2.cell (i := 0) rfl; have d1 := hC2.cell (i := 1) rfl; have d2 := hC2.cell (i := 2) rfl; have d3 := hC2.cell (i := 3) rfl; have d4 := hC2.cell (i := 4) rfl; have HC2 := Lib.hid hC2; have H2 := Lib.hid h2; clear hC2)
      | (go_at_call 180; refine (m3_any (IntKind.u64.wrap n) s io is.length ic _).mono ?_; rintro e w2 ⟨rfl, hb2⟩; have h2 := H2.out.trans (hb2.mono H2.out.size); have hC2 := HC2.out.below hb2 HC2.out.lt; have d0 := hC2.cell (i := 0) rfl; have d1 := hC2.cell (i := 1) rfl; have d2 := hC2.cell (i := 2) rfl; have d3 := hC2.cell (i := 3) rfl; have d4 := hC2.cell (i := 4) rfl; have HC2 := Lib.hid hC2; have H2 := Lib.hid h2; clear hC2)
      | (go_at_call 73; refine (over3_any n s tb ts.length tc io is.length ic _).mono ?_; rw [ho]; rintro e w3 ⟨rfl, hb3⟩; have h3 := H2.out.trans (hb3.mono H2.out.size); have hC3 := HC2.out.below hb3 HC2.out.lt; have d4 := hC3.cell (i := 4) rfl; have H3 := Lib.hid h3; clear hC3))
    skip
    go_ret
    exact ⟨rfl, H3.out⟩
  | false =>
    rw [Bool.not_false, Bool.true_and]
    go_enter Tryz.func41, Tryz.ntmps41
    go_wp2_with (first
      | (go_at_call 72; refine (kind3_any n s tb ts.length tc io is.length ic _).mono ?_; rintro e w1 ⟨rfl, hb1⟩; have h2 := HB0.out.trans (hb1.mono HB0.out.size); have hC2 := HC0.out.below hb1 HC0.out.lt; have d0 := hC2.cell (i := 0) rfl; have d1 := hC2.cell (i := 1) rfl; have d2 := hC2.cell (i := 2) rfl; have d3 := hC2.cell (i := 3) rfl; have d4 := hC2.cell (i := 4) rfl; have HC2 := Lib.hid hC2; have H2 := Lib.hid h2; clear hC2)
      | (go_at_call 180; refine (m3_any (IntKind.u64.wrap n) s io is.length ic _).mono ?_; rintro e w2 ⟨rfl, hb2⟩; have h2 := H2.out.trans (hb2.mono H2.out.size); have hC2 := HC2.out.below hb2 HC2.out.lt; have d0 := hC2.cell (i := 0) rfl; have d1 := hC2.cell (i := 1) rfl; have d2 := hC2.cell (i := 2) rfl; have d3 := hC2.cell (i := 3) rfl; have d4 := hC2.cell (i := 4) rfl; have HC2 := Lib.hid hC2; have H2 := Lib.hid h2; clear hC2)
      | (go_at_call 73; refine (over3_any n s tb ts.length tc io is.length ic _).mono ?_; rw [ho]; rintro e w3 ⟨rfl, hb3⟩; have h3 := H2.out.trans (hb3.mono H2.out.size); have hC3 := HC2.out.below hb3 HC2.out.lt; have d4 := hC3.cell (i := 4) rfl; have H3 := Lib.hid h3; clear hC3)
      | (go_at_call 74; refine (ctw_any N hIH.out 3 n s tb tc ts io ic is _ hND.out (va_below hV.out H3.out (Nat.le_refl _)) hNC.out).mono ?_; rintro e w4 ⟨rfl, hb4⟩; have H4 := Lib.hid (H3.out.trans (hb4.mono H3.out.size))))
    skip
    go_ret
    exact ⟨rfl, H4.out⟩
set_option maxRecDepth 100000 in
set_option maxHeartbeats 1000000 in
theorem well6_any (N : Nat) (ih : ∀ (v : Va) (w : World), dpV v < N → VaIn w v → Nc v → Calls Tryz.prog 41 #[.agg #[.int .i64 v.k, .int .i64 v.n, .string v.s, .slice v.tb v.ts.length v.tc, .slice v.io v.is.length v.ic]] w fun e w' => e = .returned (.bool (weV rightB v)) ∧ Below w.heap.size w w') (n : Int) (s : ByteArray) (tb : Option Addr) (tc : Nat) (ts : List Int) (io : Option Addr) (ic : Nat) (is : List Va) (w : World)
    (hN : dpV (.mk 6 n s tb tc ts io ic is) < N + 1) (hv : VaIn w (.mk 6 n s tb tc ts io ic is)) (hnc : Nc (.mk 6 n s tb tc ts io ic is)) :
    Calls Tryz.prog 41 #[.agg #[.int .i64 6, .int .i64 n, .string s, .slice tb ts.length tc, .slice io is.length ic]] w fun e w' => e = .returned (.bool ((decide (0 ≤ n) && decide (n ≤ 9999)) && !ovB 6 n s ts.length is.length && wesV rightB is)) ∧ Below w.heap.size w w' := by
  have hs2 := hnc.room.2.2
  have htl := (va_room hv).2.2.2.1
  have HB0 := Lib.hid ((Below.refl w.heap.size w).alloc (Nat.le_refl _) (.cells #[.int .i64 6, .int .i64 n, .string s, .slice tb ts.length tc, .slice io is.length ic] 26))
  have HC0 := Lib.hid (Cs.new w [.int .i64 6, .int .i64 n, .string s, .slice tb ts.length tc, .slice io is.length ic] 26)
  have hV := Lib.hid hv
  have hIH := Lib.hid ih
  have hND := Lib.hid hN
  have hNC := Lib.hid hnc
  clear hv ih hN hnc
  cases hw : (decide (0 ≤ n) && decide (n ≤ 9999)) with
  | false =>
    rw [Bool.false_and, Bool.false_and]
    go_enter Tryz.func41, Tryz.ntmps41
    go_wp2_with (first
      | (go_at_call 72; refine (kind6_any n s tb ts.length tc io is.length ic _).mono ?_; rintro e w1 ⟨rfl, hb1⟩; have h2 := HB0.out.trans (hb1.mono HB0.out.size); have hC2 := HC0.out.below hb1 HC0.out.lt; have d0 := hC2.cell (i := 0) rfl; have d1 := hC2.cell (i := 1) rfl; have d2 := hC2.cell (i := 2) rfl; have d3 := hC2.cell (i := 3) rfl; have d4 := hC2.cell (i := 4) rfl; have HC2 := Lib.hid hC2; have H2 := Lib.hid h2; clear hC2)
      | (go_at_call 181; refine (m6_any n _).mono ?_; rw [hw]; rintro e w2 ⟨rfl, hb2⟩; have h2 := H2.out.trans (hb2.mono H2.out.size); have hC2 := HC2.out.below hb2 HC2.out.lt; have d0 := hC2.cell (i := 0) rfl; have d1 := hC2.cell (i := 1) rfl; have d2 := hC2.cell (i := 2) rfl; have d3 := hC2.cell (i := 3) rfl; have d4 := hC2.cell (i := 4) rfl; have HC2 := Lib.hid hC2; have H2 := Lib.hid h2; clear hC2))
    skip
    go_ret
    exact ⟨rfl, H2.out⟩
  | true =>
    rw [Bool.true_and]
    cases ho : ovB 6 n s ts.length is.length with
    | true =>
      go_enter Tryz.func41, Tryz.ntmps41
      go_wp2_with (first
        | (go_at_call 72; refine (kind6_any n s tb ts.length tc io is.length ic _).mono ?_; rintro e w1 ⟨rfl, hb1⟩; have h2 := HB0.out.trans (hb1.mono HB0.out.size); have hC2 := HC0.out.below hb1 HC0.out.lt; have d0 := hC2.cell (i := 0) rfl; have d1 := hC2.cell (i := 1) rfl; have d2 := hC2.cell (i := 2) rfl; have d3 := hC2.cell (i := 3) rfl; have d4 := hC2.cell (i := 4) rfl; have HC2 := Lib.hid hC2; have H2 := Lib.hid h2; clear hC2)
        | (go_at_call 181; refine (m6_any n _).mono ?_; rw [hw]; rintro e w2 ⟨rfl, hb2⟩; have h2 := H2.out.trans (hb2.mono H2.out.size); have hC2 := HC2.out.below hb2 HC2.out.lt; have d0 := hC2.cell (i := 0) rfl; have d1 := hC2.cell (i := 1) rfl; have d2 := hC2.cell (i := 2) rfl; have d3 := hC2.cell (i := 3) rfl; have d4 := hC2.cell (i := 4) rfl; have HC2 := Lib.hid hC2; have H2 := Lib.hid h2; clear hC2)
        | (go_at_call 73; refine (over6_any n s tb ts.length tc io is.length ic _).mono ?_; rw [ho]; rintro e w3 ⟨rfl, hb3⟩; have h3 := H2.out.trans (hb3.mono H2.out.size); have hC3 := HC2.out.below hb3 HC2.out.lt; have d4 := hC3.cell (i := 4) rfl; have H3 := Lib.hid h3; clear hC3))
      skip
      go_ret
      exact ⟨rfl, H3.out⟩
    | false =>
      rw [Bool.not_false, Bool.true_and]
      go_enter Tryz.func41, Tryz.ntmps41
      go_wp2_with (first
        | (go_at_call 72; refine (kind6_any n s tb ts.length tc io is.length ic _).mono ?_; rintro e w1 ⟨rfl, hb1⟩; have h2 := HB0.out.trans (hb1.mono HB0.out.size); have hC2 := HC0.out.below hb1 HC0.out.lt; have d0 := hC2.cell (i := 0) rfl; have d1 := hC2.cell (i := 1) rfl; have d2 := hC2.cell (i := 2) rfl; have d3 := hC2.cell (i := 3) rfl; have d4 := hC2.cell (i := 4) rfl; have HC2 := Lib.hid hC2; have H2 := Lib.hid h2; clear hC2)
        | (go_at_call 181; refine (m6_any n _).mono ?_; rw [hw]; rintro e w2 ⟨rfl, hb2⟩; have h2 := H2.out.trans (hb2.mono H2.out.size); have hC2 := HC2.out.below hb2 HC2.out.lt; have d0 := hC2.cell (i := 0) rfl; have d1 := hC2.cell (i := 1) rfl; have d2 := hC2.cell (i := 2) rfl; have d3 := hC2.cell (i := 3) rfl; have d4 := hC2.cell (i := 4) rfl; have HC2 := Lib.hid hC2; have H2 := Lib.hid h2; clear hC2)
        | (go_at_call 73; refine (over6_any n s tb ts.length tc io is.length ic _).mono ?_; rw [ho]; rintro e w3 ⟨rfl, hb3⟩; have h3 := H2.out.trans (hb3.mono H2.out.size); have hC3 := HC2.out.below hb3 HC2.out.lt; have d4 := hC3.cell (i := 4) rfl; have H3 := Lib.hid h3; clear hC3)
        | (go_at_call 74; refine (ctw_any N hIH.out 6 n s tb tc ts io ic is _ hND.out (va_below hV.out H3.out (Nat.le_refl _)) hNC.out).mono ?_; rintro e w4 ⟨rfl, hb4⟩; have H4 := Lib.hid (H3.out.trans (hb4.mono H3.out.size))))
      skip
      go_ret
      exact ⟨rfl, H4.out⟩
set_option maxRecDepth 100000 in
set_option maxHeartbeats 1000000 in
theorem well4_any (N : Nat) (ih : ∀ (v : Va) (w : World), dpV v < N → VaIn w v → Nc v → Calls Tryz.prog 41 #[.agg #[.int .i64 v.k, .int .i64 v.n, .string v.s, .slice v.tb v.ts.length v.tc, .slice v.io v.is.length v.ic]] w fun e w' => e = .returned (.bool (weV rightB v)) ∧ Below w.heap.size w w') (n : Int) (s : ByteArray) (tb : Option Addr) (tc : Nat) (ts : List Int) (io : Option Addr) (ic : Nat) (is : List Va) (w : World)
    (hN : dpV (.mk 4 n s tb tc ts io ic is) < N + 1) (hv : VaIn w (.mk 4 n s tb tc ts io ic is)) (hnc : Nc (.mk 4 n s tb tc ts io ic is)) :
    Calls Tryz.prog 41 #[.agg #[.int .i64 4, .int .i64 n, .string s, .slice tb ts.length tc, .slice io is.length ic]] w fun e w' => e = .returned (.bool (rightB s && !ovB 4 n s ts.length is.length && wesV rightB is)) ∧ Below w.heap.size w w' := by
  have hs2 := hnc.room.2.2
  have htl := (va_room hv).2.2.2.1
  have HB0 := Lib.hid ((Below.refl w.heap.size w).alloc (Nat.le_refl _) (.cells #[.int .i64 4, .int .i64 n, .string s, .slice tb ts.length tc, .slice io is.length ic] 26))
  have HC0 := Lib.hid (Cs.new w [.int .i64 4, .int .i64 n, .string s, .slice tb ts.length tc, .slice io is.length ic] 26)
  have hV := Lib.hid hv
  have hIH := Lib.hid ih
  have hND := Lib.hid hN
  have hNC := Lib.hid hnc
  clear hv ih hN hnc
  cases hw : rightB s with
  | false =>
    rw [Bool.false_and, Bool.false_and]
    go_enter Tryz.func41, Tryz.ntmps41
    go_wp2_with (first
      | (go_at_call 72; refine (kind4_any n s tb ts.length tc io is.length ic _).mono ?_; rintro e w1 ⟨rfl, hb1⟩; have h2 := HB0.out.trans (hb1.mono HB0.out.size); have hC2 := HC0.out.below hb1 HC0.out.lt; have d0 := hC2.cell (i := 0) rfl; have d1 := hC2.cell (i := 1) rfl; have d2 := hC2.cell (i := 2) rfl; have d3 := hC2.cell (i := 3) rfl; have d4 := hC2.cell (i := 4) rfl; have HC2 := Lib.hid hC2; have H2 := Lib.hid h2; clear hC2)
      | (go_at_call 182; refine (m4_any s _ hs2).mono ?_; rw [hw]; rintro e w2 ⟨rfl, hb2⟩; have h2 := H2.out.trans (hb2.mono H2.out.size); have hC2 := HC2.out.below hb2 HC2.out.lt; have d0 := hC2.cell (i := 0) rfl; have d1 := hC2.cell (i := 1) rfl; have d2 := hC2.cell (i := 2) rfl; have d3 := hC2.cell (i := 3) rfl; have d4 := hC2.cell (i := 4) rfl; have HC2 := Lib.hid hC2; have H2 := Lib.hid h2; clear hC2))
    skip
    go_ret
    exact ⟨rfl, H2.out⟩
  | true =>
    rw [Bool.true_and]
    cases ho : ovB 4 n s ts.length is.length with
    | true =>
      go_enter Tryz.func41, Tryz.ntmps41
      go_wp2_with (first
        | (go_at_call 72; refine (kind4_any n s tb ts.length tc io is.length ic _).mono ?_; rintro e w1 ⟨rfl, hb1⟩; have h2 := HB0.out.trans (hb1.mono HB0.out.size); have hC2 := HC0.out.below hb1 HC0.out.lt; have d0 := hC2.cell (i := 0) rfl; have d1 := hC2.cell (i := 1) rfl; have d2 := hC2.cell (i := 2) rfl; have d3 := hC2.cell (i := 3) rfl; have d4 := hC2.cell (i := 4) rfl; have HC2 := Lib.hid hC2; have H2 := Lib.hid h2; clear hC2)
        | (go_at_call 182; refine (m4_any s _ hs2).mono ?_; rw [hw]; rintro e w2 ⟨rfl, hb2⟩; have h2 := H2.out.trans (hb2.mono H2.out.size); have hC2 := HC2.out.below hb2 HC2.out.lt; have d0 := hC2.cell (i := 0) rfl; have d1 := hC2.cell (i := 1) rfl; have d2 := hC2.cell (i := 2) rfl; have d3 := hC2.cell (i := 3) rfl; have d4 := hC2.cell (i := 4) rfl; have HC2 := Lib.hid hC2; have H2 := Lib.hid h2; clear hC2)
        | (go_at_call 73; refine (over4_any n s tb ts.length tc io is.length ic _).mono ?_; rw [ho]; rintro e w3 ⟨rfl, hb3⟩; have h3 := H2.out.trans (hb3.mono H2.out.size); have hC3 := HC2.out.below hb3 HC2.out.lt; have d4 := hC3.cell (i := 4) rfl; have H3 := Lib.hid h3; clear hC3))
      skip
      go_ret
      exact ⟨rfl, H3.out⟩
    | false =>
      rw [Bool.not_false, Bool.true_and]
      go_enter Tryz.func41, Tryz.ntmps41
      go_wp2_with (first
        | (go_at_call 72; refine (kind4_any n s tb ts.length tc io is.length ic _).mono ?_; rintro e w1 ⟨rfl, hb1⟩; have h2 := HB0.out.trans (hb1.mono HB0.out.size); have hC2 := HC0.out.below hb1 HC0.out.lt; have d0 := hC2.cell (i := 0) rfl; have d1 := hC2.cell (i := 1) rfl; have d2 := hC2.cell (i := 2) rfl; have d3 := hC2.cell (i := 3) rfl; have d4 := hC2.cell (i := 4) rfl; have HC2 := Lib.hid hC2; have H2 := Lib.hid h2; clear hC2)
        | (go_at_call 182; refine (m4_any s _ hs2).mono ?_; rw [hw]; rintro e w2 ⟨rfl, hb2⟩; have h2 := H2.out.trans (hb2.mono H2.out.size); have hC2 := HC2.out.below hb2 HC2.out.lt; have d0 := hC2.cell (i := 0) rfl; have d1 := hC2.cell (i := 1) rfl; have d2 := hC2.cell (i := 2) rfl; have d3 := hC2.cell (i := 3) rfl; have d4 := hC2.cell (i := 4) rfl; have HC2 := Lib.hid hC2; have H2 := Lib.hid h2; clear hC2)
        | (go_at_call 73; refine (over4_any n s tb ts.length tc io is.length ic _).mono ?_; rw [ho]; rintro e w3 ⟨rfl, hb3⟩; have h3 := H2.out.trans (hb3.mono H2.out.size); have hC3 := HC2.out.below hb3 HC2.out.lt; have d4 := hC3.cell (i := 4) rfl; have H3 := Lib.hid h3; clear hC3)
        | (go_at_call 74; refine (ctw_any N hIH.out 4 n s tb tc ts io ic is _ hND.out (va_below hV.out H3.out (Nat.le_refl _)) hNC.out).mono ?_; rintro e w4 ⟨rfl, hb4⟩; have H4 := Lib.hid (H3.out.trans (hb4.mono H3.out.size))))
      skip
      go_ret
      exact ⟨rfl, H4.out⟩
set_option maxRecDepth 100000 in
set_option maxHeartbeats 1000000 in
theorem well5_any (N : Nat) (ih : ∀ (v : Va) (w : World), dpV v < N → VaIn w v → Nc v → Calls Tryz.prog 41 #[.agg #[.int .i64 v.k, .int .i64 v.n, .string v.s, .slice v.tb v.ts.length v.tc, .slice v.io v.is.length v.ic]] w fun e w' => e = .returned (.bool (weV rightB v)) ∧ Below w.heap.size w w') (n : Int) (s : ByteArray) (tb : Option Addr) (tc : Nat) (ts : List Int) (io : Option Addr) (ic : Nat) (is : List Va) (w : World)
    (hN : dpV (.mk 5 n s tb tc ts io ic is) < N + 1) (hv : VaIn w (.mk 5 n s tb tc ts io ic is)) (hnc : Nc (.mk 5 n s tb tc ts io ic is)) :
    Calls Tryz.prog 41 #[.agg #[.int .i64 5, .int .i64 n, .string s, .slice tb ts.length tc, .slice io is.length ic]] w fun e w' => e = .returned (.bool (true && !ovB 5 n s ts.length is.length && wesV rightB is)) ∧ Below w.heap.size w w' := by
  have hs2 := hnc.room.2.2
  have htl := (va_room hv).2.2.2.1
  have HB0 := Lib.hid ((Below.refl w.heap.size w).alloc (Nat.le_refl _) (.cells #[.int .i64 5, .int .i64 n, .string s, .slice tb ts.length tc, .slice io is.length ic] 26))
  have HC0 := Lib.hid (Cs.new w [.int .i64 5, .int .i64 n, .string s, .slice tb ts.length tc, .slice io is.length ic] 26)
  have hV := Lib.hid hv
  have hIH := Lib.hid ih
  have hND := Lib.hid hN
  have hNC := Lib.hid hnc
  clear hv ih hN hnc
  rw [Bool.true_and]
  cases ho : ovB 5 n s ts.length is.length with
  | true =>
    go_enter Tryz.func41, Tryz.ntmps41
    go_wp2_with (first
      | (go_at_call 72; refine (kind5_any n s tb ts.length tc io is.length ic _).mono ?_; rintro e w1 ⟨rfl, hb1⟩; have h2 := HB0.out.trans (hb1.mono HB0.out.size); have hC2 := HC0.out.below hb1 HC0.out.lt; have d0 := hC2.cell (i := 0) rfl; have d1 := hC2.cell (i := 1) rfl; have d2 := hC2.cell (i := 2) rfl; have d3 := hC2.cell (i := 3) rfl; have d4 := hC2.cell (i := 4) rfl; have HC2 := Lib.hid hC2; have H2 := Lib.hid h2; clear hC2)
      | (go_at_call 188; refine (m5_any n s io is.length ic _).mono ?_; rintro e w2 ⟨rfl, hb2⟩; have h2 := H2.out.trans (hb2.mono H2.out.size); have hC2 := HC2.out.below hb2 HC2.out.lt; have d0 := hC2.cell (i := 0) rfl; have d1 := hC2.cell (i := 1) rfl; have d2 := hC2.cell (i := 2) rfl; have d3 := hC2.cell (i := 3) rfl; have d4 := hC2.cell (i := 4) rfl; have HC2 := Lib.hid hC2; have H2 := Lib.hid h2; clear hC2)
      | (go_at_call 73; refine (over5_any n s tb ts.length tc io is.length ic _).mono ?_; rw [ho]; rintro e w3 ⟨rfl, hb3⟩; have h3 := H2.out.trans (hb3.mono H2.out.size); have hC3 := HC2.out.below hb3 HC2.out.lt; have d4 := hC3.cell (i := 4) rfl; have H3 := Lib.hid h3; clear hC3))
    skip
    go_ret
    exact ⟨rfl, H3.out⟩
  | false =>
    rw [Bool.not_false, Bool.true_and]
    go_enter Tryz.func41, Tryz.ntmps41
    go_wp2_with (first
      | (go_at_call 72; refine (kind5_any n s tb ts.length tc io is.length ic _).mono ?_; rintro e w1 ⟨rfl, hb1⟩; have h2 := HB0.out.trans (hb1.mono HB0.out.size); have hC2 := HC0.out.below hb1 HC0.out.lt; have d0 := hC2.cell (i := 0) rfl; have d1 := hC2.cell (i := 1) rfl; have d2 := hC2.cell (i := 2) rfl; have d3 := hC2.cell (i := 3) rfl; have d4 := hC2.cell (i := 4) rfl; have HC2 := Lib.hid hC2; have H2 := Lib.hid h2; clear hC2)
      | (go_at_call 188; refine (m5_any n s io is.length ic _).mono ?_; rintro e w2 ⟨rfl, hb2⟩; have h2 := H2.out.trans (hb2.mono H2.out.size); have hC2 := HC2.out.below hb2 HC2.out.lt; have d0 := hC2.cell (i := 0) rfl; have d1 := hC2.cell (i := 1) rfl; have d2 := hC2.cell (i := 2) rfl; have d3 := hC2.cell (i := 3) rfl; have d4 := hC2.cell (i := 4) rfl; have HC2 := Lib.hid hC2; have H2 := Lib.hid h2; clear hC2)
      | (go_at_call 73; refine (over5_any n s tb ts.length tc io is.length ic _).mono ?_; rw [ho]; rintro e w3 ⟨rfl, hb3⟩; have h3 := H2.out.trans (hb3.mono H2.out.size); have hC3 := HC2.out.below hb3 HC2.out.lt; have d4 := hC3.cell (i := 4) rfl; have H3 := Lib.hid h3; clear hC3)
      | (go_at_call 74; refine (ctw_any N hIH.out 5 n s tb tc ts io ic is _ hND.out (va_below hV.out H3.out (Nat.le_refl _)) hNC.out).mono ?_; rintro e w4 ⟨rfl, hb4⟩; have H4 := Lib.hid (H3.out.trans (hb4.mono H3.out.size))))
    skip
    go_ret
    exact ⟨rfl, H4.out⟩
set_option maxRecDepth 100000 in
set_option maxHeartbeats 1000000 in
theorem well7_any (N : Nat) (ih : ∀ (v : Va) (w : World), dpV v < N → VaIn w v → Nc v → Calls Tryz.prog 41 #[.agg #[.int .i64 v.k, .int .i64 v.n, .string v.s, .slice v.tb v.ts.length v.tc, .slice v.io v.is.length v.ic]] w fun e w' => e = .returned (.bool (weV rightB v)) ∧ Below w.heap.size w w') (n : Int) (s : ByteArray) (tb : Option Addr) (tc : Nat) (ts : List Int) (io : Option Addr) (ic : Nat) (is : List Va) (w : World)
    (hN : dpV (.mk 7 n s tb tc ts io ic is) < N + 1) (hv : VaIn w (.mk 7 n s tb tc ts io ic is)) (hnc : Nc (.mk 7 n s tb tc ts io ic is)) :
    Calls Tryz.prog 41 #[.agg #[.int .i64 7, .int .i64 n, .string s, .slice tb ts.length tc, .slice io is.length ic]] w fun e w' => e = .returned (.bool (true && !ovB 7 n s ts.length is.length && wesV rightB is)) ∧ Below w.heap.size w w' := by
  have hs2 := hnc.room.2.2
  have htl := (va_room hv).2.2.2.1
  have HB0 := Lib.hid ((Below.refl w.heap.size w).alloc (Nat.le_refl _) (.cells #[.int .i64 7, .int .i64 n, .string s, .slice tb ts.length tc, .slice io is.length ic] 26))
  have HC0 := Lib.hid (Cs.new w [.int .i64 7, .int .i64 n, .string s, .slice tb ts.length tc, .slice io is.length ic] 26)
  have hV := Lib.hid hv
  have hIH := Lib.hid ih
  have hND := Lib.hid hN
  have hNC := Lib.hid hnc
  clear hv ih hN hnc
  rw [Bool.true_and]
  cases ho : ovB 7 n s ts.length is.length with
  | true =>
    go_enter Tryz.func41, Tryz.ntmps41
    go_wp2_with (first
      | (go_at_call 72; refine (kind7_any n s tb ts.length tc io is.length ic _).mono ?_; rintro e w1 ⟨rfl, hb1⟩; have h2 := HB0.out.trans (hb1.mono HB0.out.size); have hC2 := HC0.out.below hb1 HC0.out.lt; have d0 := hC2.cell (i := 0) rfl; have d1 := hC2.cell (i := 1) rfl; have d2 := hC2.cell (i := 2) rfl; have d3 := hC2.cell (i := 3) rfl; have d4 := hC2.cell (i := 4) rfl; have HC2 := Lib.hid hC2; have H2 := Lib.hid h2; clear hC2)
      | (go_at_call 189; refine (m7_any n s io is.length ic _).mono ?_; rintro e w2 ⟨rfl, hb2⟩; have h2 := H2.out.trans (hb2.mono H2.out.size); have hC2 := HC2.out.below hb2 HC2.out.lt; have d0 := hC2.cell (i := 0) rfl; have d1 := hC2.cell (i := 1) rfl; have d2 := hC2.cell (i := 2) rfl; have d3 := hC2.cell (i := 3) rfl; have d4 := hC2.cell (i := 4) rfl; have HC2 := Lib.hid hC2; have H2 := Lib.hid h2; clear hC2)
      | (go_at_call 73; refine (over7_any n s tb ts.length tc io is.length ic _).mono ?_; rw [ho]; rintro e w3 ⟨rfl, hb3⟩; have h3 := H2.out.trans (hb3.mono H2.out.size); have hC3 := HC2.out.below hb3 HC2.out.lt; have d4 := hC3.cell (i := 4) rfl; have H3 := Lib.hid h3; clear hC3))
    skip
    go_ret
    exact ⟨rfl, H3.out⟩
  | false =>
    rw [Bool.not_false, Bool.true_and]
    go_enter Tryz.func41, Tryz.ntmps41
    go_wp2_with (first
      | (go_at_call 72; refine (kind7_any n s tb ts.length tc io is.length ic _).mono ?_; rintro e w1 ⟨rfl, hb1⟩; have h2 := HB0.out.trans (hb1.mono HB0.out.size); have hC2 := HC0.out.below hb1 HC0.out.lt; have d0 := hC2.cell (i := 0) rfl; have d1 := hC2.cell (i := 1) rfl; have d2 := hC2.cell (i := 2) rfl; have d3 := hC2.cell (i := 3) rfl; have d4 := hC2.cell (i := 4) rfl; have HC2 := Lib.hid hC2; have H2 := Lib.hid h2; clear hC2)
      | (go_at_call 189; refine (m7_any n s io is.length ic _).mono ?_; rintro e w2 ⟨rfl, hb2⟩; have h2 := H2.out.trans (hb2.mono H2.out.size); have hC2 := HC2.out.below hb2 HC2.out.lt; have d0 := hC2.cell (i := 0) rfl; have d1 := hC2.cell (i := 1) rfl; have d2 := hC2.cell (i := 2) rfl; have d3 := hC2.cell (i := 3) rfl; have d4 := hC2.cell (i := 4) rfl; have HC2 := Lib.hid hC2; have H2 := Lib.hid h2; clear hC2)
      | (go_at_call 73; refine (over7_any n s tb ts.length tc io is.length ic _).mono ?_; rw [ho]; rintro e w3 ⟨rfl, hb3⟩; have h3 := H2.out.trans (hb3.mono H2.out.size); have hC3 := HC2.out.below hb3 HC2.out.lt; have d4 := hC3.cell (i := 4) rfl; have H3 := Lib.hid h3; clear hC3)
      | (go_at_call 74; refine (ctw_any N hIH.out 7 n s tb tc ts io ic is _ hND.out (va_below hV.out H3.out (Nat.le_refl _)) hNC.out).mono ?_; rintro e w4 ⟨rfl, hb4⟩; have H4 := Lib.hid (H3.out.trans (hb4.mono H3.out.size))))
    skip
    go_ret
    exact ⟨rfl, H4.out⟩
set_option maxRecDepth 100000 in
set_option maxHeartbeats 1000000 in
theorem well8_any (N : Nat) (ih : ∀ (v : Va) (w : World), dpV v < N → VaIn w v → Nc v → Calls Tryz.prog 41 #[.agg #[.int .i64 v.k, .int .i64 v.n, .string v.s, .slice v.tb v.ts.length v.tc, .slice v.io v.is.length v.ic]] w fun e w' => e = .returned (.bool (weV rightB v)) ∧ Below w.heap.size w w') (n : Int) (s : ByteArray) (tb : Option Addr) (tc : Nat) (ts : List Int) (io : Option Addr) (ic : Nat) (is : List Va) (w : World)
    (hN : dpV (.mk 8 n s tb tc ts io ic is) < N + 1) (hv : VaIn w (.mk 8 n s tb tc ts io ic is)) (hnc : Nc (.mk 8 n s tb tc ts io ic is)) :
    Calls Tryz.prog 41 #[.agg #[.int .i64 8, .int .i64 n, .string s, .slice tb ts.length tc, .slice io is.length ic]] w fun e w' => e = .returned (.bool (kysB is && !ovB 8 n s ts.length is.length && wesV rightB is)) ∧ Below w.heap.size w w' := by
  have hs2 := hnc.room.2.2
  have htl := (va_room hv).2.2.2.1
  have HB0 := Lib.hid ((Below.refl w.heap.size w).alloc (Nat.le_refl _) (.cells #[.int .i64 8, .int .i64 n, .string s, .slice tb ts.length tc, .slice io is.length ic] 26))
  have HC0 := Lib.hid (Cs.new w [.int .i64 8, .int .i64 n, .string s, .slice tb ts.length tc, .slice io is.length ic] 26)
  have hV := Lib.hid hv
  have hIH := Lib.hid ih
  have hND := Lib.hid hN
  have hNC := Lib.hid hnc
  clear hv ih hN hnc
  cases hw : kysB is with
  | false =>
    rw [Bool.false_and, Bool.false_and]
    go_enter Tryz.func41, Tryz.ntmps41
    go_wp2_with (first
      | (go_at_call 72; refine (kind8_any n s tb ts.length tc io is.length ic _).mono ?_; rintro e w1 ⟨rfl, hb1⟩; have h2 := HB0.out.trans (hb1.mono HB0.out.size); have hC2 := HC0.out.below hb1 HC0.out.lt; have d0 := hC2.cell (i := 0) rfl; have d1 := hC2.cell (i := 1) rfl; have d2 := hC2.cell (i := 2) rfl; have d3 := hC2.cell (i := 3) rfl; have d4 := hC2.cell (i := 4) rfl; have HC2 := Lib.hid hC2; have H2 := Lib.hid h2; clear hC2)
      | (go_at_call 190; refine (table_any 8 n s tb tc ts io ic is _ (va_below hV.out h2 (Nat.le_refl _))).mono ?_; rw [hw]; rintro e w2 ⟨rfl, hb2⟩; have h2 := H2.out.trans (hb2.mono H2.out.size); have hC2 := HC2.out.below hb2 HC2.out.lt; have d0 := hC2.cell (i := 0) rfl; have d1 := hC2.cell (i := 1) rfl; have d2 := hC2.cell (i := 2) rfl; have d3 := hC2.cell (i := 3) rfl; have d4 := hC2.cell (i := 4) rfl; have HC2 := Lib.hid hC2; have H2 := Lib.hid h2; clear hC2))
    skip
    go_ret
    exact ⟨rfl, H2.out⟩
  | true =>
    rw [Bool.true_and]
    cases ho : ovB 8 n s ts.length is.length with
    | true =>
      go_enter Tryz.func41, Tryz.ntmps41
      go_wp2_with (first
        | (go_at_call 72; refine (kind8_any n s tb ts.length tc io is.length ic _).mono ?_; rintro e w1 ⟨rfl, hb1⟩; have h2 := HB0.out.trans (hb1.mono HB0.out.size); have hC2 := HC0.out.below hb1 HC0.out.lt; have d0 := hC2.cell (i := 0) rfl; have d1 := hC2.cell (i := 1) rfl; have d2 := hC2.cell (i := 2) rfl; have d3 := hC2.cell (i := 3) rfl; have d4 := hC2.cell (i := 4) rfl; have HC2 := Lib.hid hC2; have H2 := Lib.hid h2; clear hC2)
        | (go_at_call 190; refine (table_any 8 n s tb tc ts io ic is _ (va_below hV.out h2 (Nat.le_refl _))).mono ?_; rw [hw]; rintro e w2 ⟨rfl, hb2⟩; have h2 := H2.out.trans (hb2.mono H2.out.size); have hC2 := HC2.out.below hb2 HC2.out.lt; have d0 := hC2.cell (i := 0) rfl; have d1 := hC2.cell (i := 1) rfl; have d2 := hC2.cell (i := 2) rfl; have d3 := hC2.cell (i := 3) rfl; have d4 := hC2.cell (i := 4) rfl; have HC2 := Lib.hid hC2; have H2 := Lib.hid h2; clear hC2)
        | (go_at_call 73; refine (over8_any n s tb ts.length tc io is.length ic _).mono ?_; rw [ho]; rintro e w3 ⟨rfl, hb3⟩; have h3 := H2.out.trans (hb3.mono H2.out.size); have hC3 := HC2.out.below hb3 HC2.out.lt; have d4 := hC3.cell (i := 4) rfl; have H3 := Lib.hid h3; clear hC3))
      skip
      go_ret
      exact ⟨rfl, H3.out⟩
    | false =>
      rw [Bool.not_false, Bool.true_and]
      go_enter Tryz.func41, Tryz.ntmps41
      go_wp2_with (first
        | (go_at_call 72; refine (kind8_any n s tb ts.length tc io is.length ic _).mono ?_; rintro e w1 ⟨rfl, hb1⟩; have h2 := HB0.out.trans (hb1.mono HB0.out.size); have hC2 := HC0.out.below hb1 HC0.out.lt; have d0 := hC2.cell (i := 0) rfl; have d1 := hC2.cell (i := 1) rfl; have d2 := hC2.cell (i := 2) rfl; have d3 := hC2.cell (i := 3) rfl; have d4 := hC2.cell (i := 4) rfl; have HC2 := Lib.hid hC2; have H2 := Lib.hid h2; clear hC2)
        | (go_at_call 190; refine (table_any 8 n s tb tc ts io ic is _ (va_below hV.out h2 (Nat.le_refl _))).mono ?_; rw [hw]; rintro e w2 ⟨rfl, hb2⟩; have h2 := H2.out.trans (hb2.mono H2.out.size); have hC2 := HC2.out.below hb2 HC2.out.lt; have d0 := hC2.cell (i := 0) rfl; have d1 := hC2.cell (i := 1) rfl; have d2 := hC2.cell (i := 2) rfl; have d3 := hC2.cell (i := 3) rfl; have d4 := hC2.cell (i := 4) rfl; have HC2 := Lib.hid hC2; have H2 := Lib.hid h2; clear hC2)
        | (go_at_call 73; refine (over8_any n s tb ts.length tc io is.length ic _).mono ?_; rw [ho]; rintro e w3 ⟨rfl, hb3⟩; have h3 := H2.out.trans (hb3.mono H2.out.size); have hC3 := HC2.out.below hb3 HC2.out.lt; have d4 := hC3.cell (i := 4) rfl; have H3 := Lib.hid h3; clear hC3)
        | (go_at_call 74; refine (ctw_any N hIH.out 8 n s tb tc ts io ic is _ hND.out (va_below hV.out H3.out (Nat.le_refl _)) hNC.out).mono ?_; rintro e w4 ⟨rfl, hb4⟩; have H4 := Lib.hid (H3.out.trans (hb4.mono H3.out.size))))
      skip
      go_ret
      exact ⟨rfl, H4.out⟩
set_option maxRecDepth 100000 in
set_option maxHeartbeats 1000000 in
theorem well9_any (N : Nat) (ih : ∀ (v : Va) (w : World), dpV v < N → VaIn w v → Nc v → Calls Tryz.prog 41 #[.agg #[.int .i64 v.k, .int .i64 v.n, .string v.s, .slice v.tb v.ts.length v.tc, .slice v.io v.is.length v.ic]] w fun e w' => e = .returned (.bool (weV rightB v)) ∧ Below w.heap.size w w') (n : Int) (s : ByteArray) (tb : Option Addr) (tc : Nat) (ts : List Int) (io : Option Addr) (ic : Nat) (is : List Va) (w : World)
    (hN : dpV (.mk 9 n s tb tc ts io ic is) < N + 1) (hv : VaIn w (.mk 9 n s tb tc ts io ic is)) (hnc : Nc (.mk 9 n s tb tc ts io ic is)) :
    Calls Tryz.prog 41 #[.agg #[.int .i64 9, .int .i64 n, .string s, .slice tb ts.length tc, .slice io is.length ic]] w fun e w' => e = .returned (.bool ((tgsB 0 ts && decide (ts.length = is.length)) && !ovB 9 n s ts.length is.length && wesV rightB is)) ∧ Below w.heap.size w w' := by
  have hs2 := hnc.room.2.2
  have htl := (va_room hv).2.2.2.1
  have HB0 := Lib.hid ((Below.refl w.heap.size w).alloc (Nat.le_refl _) (.cells #[.int .i64 9, .int .i64 n, .string s, .slice tb ts.length tc, .slice io is.length ic] 26))
  have HC0 := Lib.hid (Cs.new w [.int .i64 9, .int .i64 n, .string s, .slice tb ts.length tc, .slice io is.length ic] 26)
  have hV := Lib.hid hv
  have hIH := Lib.hid ih
  have hND := Lib.hid hN
  have hNC := Lib.hid hnc
  clear hv ih hN hnc
  cases hw : (tgsB 0 ts && decide (ts.length = is.length)) with
  | false =>
    rw [Bool.false_and, Bool.false_and]
    go_enter Tryz.func41, Tryz.ntmps41
    go_wp2_with (first
      | (go_at_call 72; refine (kind9_any n s tb ts.length tc io is.length ic _).mono ?_; rintro e w1 ⟨rfl, hb1⟩; have h2 := HB0.out.trans (hb1.mono HB0.out.size); have hC2 := HC0.out.below hb1 HC0.out.lt; have d0 := hC2.cell (i := 0) rfl; have d1 := hC2.cell (i := 1) rfl; have d2 := hC2.cell (i := 2) rfl; have d3 := hC2.cell (i := 3) rfl; have d4 := hC2.cell (i := 4) rfl; have HC2 := Lib.hid hC2; have H2 := Lib.hid h2; clear hC2)
      | (go_at_call 201; refine (tagged_any tb tc ts io is.length ic _ ((va_tags hV.out).below h2 (Nat.le_refl _)) htl).mono ?_; rw [hw]; rintro e w2 ⟨rfl, hb2⟩; have h2 := H2.out.trans (hb2.mono H2.out.size); have hC2 := HC2.out.below hb2 HC2.out.lt; have d0 := hC2.cell (i := 0) rfl; have d1 := hC2.cell (i := 1) rfl; have d2 := hC2.cell (i := 2) rfl; have d3 := hC2.cell (i := 3) rfl; have d4 := hC2.cell (i := 4) rfl; have HC2 := Lib.hid hC2; have H2 := Lib.hid h2; clear hC2))
    skip
    go_ret
    exact ⟨rfl, H2.out⟩
  | true =>
    rw [Bool.true_and]
    cases ho : ovB 9 n s ts.length is.length with
    | true =>
      go_enter Tryz.func41, Tryz.ntmps41
      go_wp2_with (first
        | (go_at_call 72; refine (kind9_any n s tb ts.length tc io is.length ic _).mono ?_; rintro e w1 ⟨rfl, hb1⟩; have h2 := HB0.out.trans (hb1.mono HB0.out.size); have hC2 := HC0.out.below hb1 HC0.out.lt; have d0 := hC2.cell (i := 0) rfl; have d1 := hC2.cell (i := 1) rfl; have d2 := hC2.cell (i := 2) rfl; have d3 := hC2.cell (i := 3) rfl; have d4 := hC2.cell (i := 4) rfl; have HC2 := Lib.hid hC2; have H2 := Lib.hid h2; clear hC2)
        | (go_at_call 201; refine (tagged_any tb tc ts io is.length ic _ ((va_tags hV.out).below h2 (Nat.le_refl _)) htl).mono ?_; rw [hw]; rintro e w2 ⟨rfl, hb2⟩; have h2 := H2.out.trans (hb2.mono H2.out.size); have hC2 := HC2.out.below hb2 HC2.out.lt; have d0 := hC2.cell (i := 0) rfl; have d1 := hC2.cell (i := 1) rfl; have d2 := hC2.cell (i := 2) rfl; have d3 := hC2.cell (i := 3) rfl; have d4 := hC2.cell (i := 4) rfl; have HC2 := Lib.hid hC2; have H2 := Lib.hid h2; clear hC2)
        | (go_at_call 73; refine (over9_any n s tb ts.length tc io is.length ic _).mono ?_; rw [ho]; rintro e w3 ⟨rfl, hb3⟩; have h3 := H2.out.trans (hb3.mono H2.out.size); have hC3 := HC2.out.below hb3 HC2.out.lt; have d4 := hC3.cell (i := 4) rfl; have H3 := Lib.hid h3; clear hC3))
      skip
      go_ret
      exact ⟨rfl, H3.out⟩
    | false =>
      rw [Bool.not_false, Bool.true_and]
      go_enter Tryz.func41, Tryz.ntmps41
      go_wp2_with (first
        | (go_at_call 72; refine (kind9_any n s tb ts.length tc io is.length ic _).mono ?_; rintro e w1 ⟨rfl, hb1⟩; have h2 := HB0.out.trans (hb1.mono HB0.out.size); have hC2 := HC0.out.below hb1 HC0.out.lt; have d0 := hC2.cell (i := 0) rfl; have d1 := hC2.cell (i := 1) rfl; have d2 := hC2.cell (i := 2) rfl; have d3 := hC2.cell (i := 3) rfl; have d4 := hC2.cell (i := 4) rfl; have HC2 := Lib.hid hC2; have H2 := Lib.hid h2; clear hC2)
        | (go_at_call 201; refine (tagged_any tb tc ts io is.length ic _ ((va_tags hV.out).below h2 (Nat.le_refl _)) htl).mono ?_; rw [hw]; rintro e w2 ⟨rfl, hb2⟩; have h2 := H2.out.trans (hb2.mono H2.out.size); have hC2 := HC2.out.below hb2 HC2.out.lt; have d0 := hC2.cell (i := 0) rfl; have d1 := hC2.cell (i := 1) rfl; have d2 := hC2.cell (i := 2) rfl; have d3 := hC2.cell (i := 3) rfl; have d4 := hC2.cell (i := 4) rfl; have HC2 := Lib.hid hC2; have H2 := Lib.hid h2; clear hC2)
        | (go_at_call 73; refine (over9_any n s tb ts.length tc io is.length ic _).mono ?_; rw [ho]; rintro e w3 ⟨rfl, hb3⟩; have h3 := H2.out.trans (hb3.mono H2.out.size); have hC3 := HC2.out.below hb3 HC2.out.lt; have d4 := hC3.cell (i := 4) rfl; have H3 := Lib.hid h3; clear hC3)
        | (go_at_call 74; refine (ctw_any N hIH.out 9 n s tb tc ts io ic is _ hND.out (va_below hV.out H3.out (Nat.le_refl _)) hNC.out).mono ?_; rintro e w4 ⟨rfl, hb4⟩; have H4 := Lib.hid (H3.out.trans (hb4.mono H3.out.size))))
      skip
      go_ret
      exact ⟨rfl, H4.out⟩
set_option maxRecDepth 100000 in
set_option maxHeartbeats 1000000 in
theorem well10_any (N : Nat) (ih : ∀ (v : Va) (w : World), dpV v < N → VaIn w v → Nc v → Calls Tryz.prog 41 #[.agg #[.int .i64 v.k, .int .i64 v.n, .string v.s, .slice v.tb v.ts.length v.tc, .slice v.io v.is.length v.ic]] w fun e w' => e = .returned (.bool (weV rightB v)) ∧ Below w.heap.size w w') (n : Int) (s : ByteArray) (tb : Option Addr) (tc : Nat) (ts : List Int) (io : Option Addr) (ic : Nat) (is : List Va) (w : World)
    (hN : dpV (.mk 10 n s tb tc ts io ic is) < N + 1) (hv : VaIn w (.mk 10 n s tb tc ts io ic is)) (hnc : Nc (.mk 10 n s tb tc ts io ic is)) :
    Calls Tryz.prog 41 #[.agg #[.int .i64 10, .int .i64 n, .string s, .slice tb ts.length tc, .slice io is.length ic]] w fun e w' => e = .returned (.bool ((decide (ts.length = 1) && (tgsB 0 ts && decide (ts.length = is.length))) && !ovB 10 n s ts.length is.length && wesV rightB is)) ∧ Below w.heap.size w w' := by
  have hs2 := hnc.room.2.2
  have htl := (va_room hv).2.2.2.1
  have HB0 := Lib.hid ((Below.refl w.heap.size w).alloc (Nat.le_refl _) (.cells #[.int .i64 10, .int .i64 n, .string s, .slice tb ts.length tc, .slice io is.length ic] 26))
  have HC0 := Lib.hid (Cs.new w [.int .i64 10, .int .i64 n, .string s, .slice tb ts.length tc, .slice io is.length ic] 26)
  have hV := Lib.hid hv
  have hIH := Lib.hid ih
  have hND := Lib.hid hN
  have hNC := Lib.hid hnc
  clear hv ih hN hnc
  cases hw : (decide (ts.length = 1) && (tgsB 0 ts && decide (ts.length = is.length))) with
  | false =>
    rw [Bool.false_and, Bool.false_and]
    go_enter Tryz.func41, Tryz.ntmps41
    go_wp2_with (first
      | (go_at_call 72; refine (kind10_any n s tb ts.length tc io is.length ic _).mono ?_; rintro e w1 ⟨rfl, hb1⟩; have h2 := HB0.out.trans (hb1.mono HB0.out.size); have hC2 := HC0.out.below hb1 HC0.out.lt; have d0 := hC2.cell (i := 0) rfl; have d1 := hC2.cell (i := 1) rfl; have d2 := hC2.cell (i := 2) rfl; have d3 := hC2.cell (i := 3) rfl; have d4 := hC2.cell (i := 4) rfl; have HC2 := Lib.hid hC2; have H2 := Lib.hid h2; clear hC2)
      | (go_at_call 202; refine (union_any tb tc ts io is.length ic _ ((va_tags hV.out).below h2 (Nat.le_refl _)) htl).mono ?_; rw [hw]; rintro e w2 ⟨rfl, hb2⟩; have h2 := H2.out.trans (hb2.mono H2.out.size); have hC2 := HC2.out.below hb2 HC2.out.lt; have d0 := hC2.cell (i := 0) rfl; have d1 := hC2.cell (i := 1) rfl; have d2 := hC2.cell (i := 2) rfl; have d3 := hC2.cell (i := 3) rfl; have d4 := hC2.cell (i := 4) rfl; have HC2 := Lib.hid hC2; have H2 := Lib.hid h2; clear hC2))
    skip
    go_ret
    exact ⟨rfl, H2.out⟩
  | true =>
    rw [Bool.true_and]
    cases ho : ovB 10 n s ts.length is.length with
    | true =>
      go_enter Tryz.func41, Tryz.ntmps41
      go_wp2_with (first
        | (go_at_call 72; refine (kind10_any n s tb ts.length tc io is.length ic _).mono ?_; rintro e w1 ⟨rfl, hb1⟩; have h2 := HB0.out.trans (hb1.mono HB0.out.size); have hC2 := HC0.out.below hb1 HC0.out.lt; have d0 := hC2.cell (i := 0) rfl; have d1 := hC2.cell (i := 1) rfl; have d2 := hC2.cell (i := 2) rfl; have d3 := hC2.cell (i := 3) rfl; have d4 := hC2.cell (i := 4) rfl; have HC2 := Lib.hid hC2; have H2 := Lib.hid h2; clear hC2)
        | (go_at_call 202; refine (union_any tb tc ts io is.length ic _ ((va_tags hV.out).below h2 (Nat.le_refl _)) htl).mono ?_; rw [hw]; rintro e w2 ⟨rfl, hb2⟩; have h2 := H2.out.trans (hb2.mono H2.out.size); have hC2 := HC2.out.below hb2 HC2.out.lt; have d0 := hC2.cell (i := 0) rfl; have d1 := hC2.cell (i := 1) rfl; have d2 := hC2.cell (i := 2) rfl; have d3 := hC2.cell (i := 3) rfl; have d4 := hC2.cell (i := 4) rfl; have HC2 := Lib.hid hC2; have H2 := Lib.hid h2; clear hC2)
        | (go_at_call 73; refine (over10_any n s tb ts.length tc io is.length ic _).mono ?_; rw [ho]; rintro e w3 ⟨rfl, hb3⟩; have h3 := H2.out.trans (hb3.mono H2.out.size); have hC3 := HC2.out.below hb3 HC2.out.lt; have d4 := hC3.cell (i := 4) rfl; have H3 := Lib.hid h3; clear hC3))
      skip
      go_ret
      exact ⟨rfl, H3.out⟩
    | false =>
      rw [Bool.not_false, Bool.true_and]
      go_enter Tryz.func41, Tryz.ntmps41
      go_wp2_with (first
        | (go_at_call 72; refine (kind10_any n s tb ts.length tc io is.length ic _).mono ?_; rintro e w1 ⟨rfl, hb1⟩; have h2 := HB0.out.trans (hb1.mono HB0.out.size); have hC2 := HC0.out.below hb1 HC0.out.lt; have d0 := hC2.cell (i := 0) rfl; have d1 := hC2.cell (i := 1) rfl; have d2 := hC2.cell (i := 2) rfl; have d3 := hC2.cell (i := 3) rfl; have d4 := hC2.cell (i := 4) rfl; have HC2 := Lib.hid hC2; have H2 := Lib.hid h2; clear hC2)
        | (go_at_call 202; refine (union_any tb tc ts io is.length ic _ ((va_tags hV.out).below h2 (Nat.le_refl _)) htl).mono ?_; rw [hw]; rintro e w2 ⟨rfl, hb2⟩; have h2 := H2.out.trans (hb2.mono H2.out.size); have hC2 := HC2.out.below hb2 HC2.out.lt; have d0 := hC2.cell (i := 0) rfl; have d1 := hC2.cell (i := 1) rfl; have d2 := hC2.cell (i := 2) rfl; have d3 := hC2.cell (i := 3) rfl; have d4 := hC2.cell (i := 4) rfl; have HC2 := Lib.hid hC2; have H2 := Lib.hid h2; clear hC2)
        | (go_at_call 73; refine (over10_any n s tb ts.length tc io is.length ic _).mono ?_; rw [ho]; rintro e w3 ⟨rfl, hb3⟩; have h3 := H2.out.trans (hb3.mono H2.out.size); have hC3 := HC2.out.below hb3 HC2.out.lt; have d4 := hC3.cell (i := 4) rfl; have H3 := Lib.hid h3; clear hC3)
        | (go_at_call 74; refine (ctw_any N hIH.out 10 n s tb tc ts io ic is _ hND.out (va_below hV.out H3.out (Nat.le_refl _)) hNC.out).mono ?_; rintro e w4 ⟨rfl, hb4⟩; have H4 := Lib.hid (H3.out.trans (hb4.mono H3.out.size))))
      skip
      go_ret
      exact ⟨rfl, H4.out⟩
set_option maxRecDepth 100000 in
theorem well0_any (k : Int) (n : Int) (s : ByteArray) (tb : Option Addr) (tc : Nat) (ts : List Int) (io : Option Addr) (ic : Nat) (is : List Va) (w : World) (h : ¬ (1 ≤ k ∧ k ≤ 10)) :
    Calls Tryz.prog 41 #[.agg #[.int .i64 k, .int .i64 n, .string s, .slice tb ts.length tc, .slice io is.length ic]] w fun e w' => e = .returned (.bool false) ∧ Below w.heap.size w w' := by
  have HB0 := Lib.hid ((Below.refl w.heap.size w).alloc (Nat.le_refl _) (.cells #[.int .i64 k, .int .i64 n, .string s, .slice tb ts.length tc, .slice io is.length ic] 26))
  have H := Lib.hid h
  clear h
  go_enter Tryz.func41, Tryz.ntmps41
  go_wp2_with (go_at_call 72; refine (kind0_any k n s tb ts.length tc io is.length ic _ H.out).mono ?_; rintro e w1 ⟨rfl, hb1⟩)
  go_ret
  exact ⟨rfl, HB0.out.trans (hb1.mono HB0.out.size)⟩
theorem split_1 (n : Int) (s : ByteArray) (ts : List Int) (is : List Va) : oneB rightB 1 n s ts is = ((decide (n = 0) || decide (n = 1)) && !ovB 1 n s ts.length is.length) := by
  rw [one_1]
  unfold ovB
  by_cases h1 : n = 0 <;> by_cases h2 : s = ⟨#[]⟩ <;> by_cases h3 : ts.length = 0 <;> by_cases h4 : is.length = 0 <;> simp [h1, h2, h3, h4, Bool.and_comm]
theorem split_2 (n : Int) (s : ByteArray) (ts : List Int) (is : List Va) : oneB rightB 2 n s ts is = (true && !ovB 2 n s ts.length is.length) := by
  rw [one_2]
  unfold ovB
  by_cases h1 : n = 0 <;> by_cases h2 : s = ⟨#[]⟩ <;> by_cases h3 : ts.length = 0 <;> by_cases h4 : is.length = 0 <;> simp [h1, h2, h3, h4, Bool.and_comm]
theorem split_3 (n : Int) (s : ByteArray) (ts : List Int) (is : List Va) : oneB rightB 3 n s ts is = (true && !ovB 3 n s ts.length is.length) := by
  rw [one_3]
  unfold ovB
  by_cases h1 : n = 0 <;> by_cases h2 : s = ⟨#[]⟩ <;> by_cases h3 : ts.length = 0 <;> by_cases h4 : is.length = 0 <;> simp [h1, h2, h3, h4, Bool.and_comm]
theorem split_4 (n : Int) (s : ByteArray) (ts : List Int) (is : List Va) : oneB rightB 4 n s ts is = (rightB s && !ovB 4 n s ts.length is.length) := by
  rw [one_4]
  unfold ovB
  by_cases h1 : n = 0 <;> by_cases h2 : s = ⟨#[]⟩ <;> by_cases h3 : ts.length = 0 <;> by_cases h4 : is.length = 0 <;> simp [h1, h2, h3, h4, Bool.and_comm]
theorem split_5 (n : Int) (s : ByteArray) (ts : List Int) (is : List Va) : oneB rightB 5 n s ts is = (true && !ovB 5 n s ts.length is.length) := by
  rw [one_5]
  unfold ovB
  by_cases h1 : n = 0 <;> by_cases h2 : s = ⟨#[]⟩ <;> by_cases h3 : ts.length = 0 <;> by_cases h4 : is.length = 0 <;> simp [h1, h2, h3, h4, Bool.and_comm]
theorem split_6 (n : Int) (s : ByteArray) (ts : List Int) (is : List Va) : oneB rightB 6 n s ts is = ((decide (0 ≤ n) && decide (n ≤ 9999)) && !ovB 6 n s ts.length is.length) := by
  rw [one_6]
  unfold ovB
  by_cases h1 : n = 0 <;> by_cases h2 : s = ⟨#[]⟩ <;> by_cases h3 : ts.length = 0 <;> by_cases h4 : is.length = 0 <;> simp [h1, h2, h3, h4, Bool.and_comm]
theorem split_7 (n : Int) (s : ByteArray) (ts : List Int) (is : List Va) : oneB rightB 7 n s ts is = (true && !ovB 7 n s ts.length is.length) := by
  rw [one_7]
  unfold ovB
  by_cases h1 : n = 0 <;> by_cases h2 : s = ⟨#[]⟩ <;> by_cases h3 : ts.length = 0 <;> by_cases h4 : is.length = 0 <;> simp [h1, h2, h3, h4, Bool.and_comm]
theorem split_8 (n : Int) (s : ByteArray) (ts : List Int) (is : List Va) : oneB rightB 8 n s ts is = (kysB is && !ovB 8 n s ts.length is.length) := by
  rw [one_8]
  unfold ovB
  by_cases h1 : n = 0 <;> by_cases h2 : s = ⟨#[]⟩ <;> by_cases h3 : ts.length = 0 <;> by_cases h4 : is.length = 0 <;> simp [h1, h2, h3, h4, Bool.and_comm]
theorem split_9 (n : Int) (s : ByteArray) (ts : List Int) (is : List Va) : oneB rightB 9 n s ts is = ((tgsB 0 ts && decide (ts.length = is.length)) && !ovB 9 n s ts.length is.length) := by
  rw [one_9]
  unfold ovB
  by_cases h1 : n = 0 <;> by_cases h2 : s = ⟨#[]⟩ <;> by_cases h3 : ts.length = 0 <;> by_cases h4 : is.length = 0 <;> simp [h1, h2, h3, h4, Bool.and_comm]
theorem split_10 (n : Int) (s : ByteArray) (ts : List Int) (is : List Va) : oneB rightB 10 n s ts is = ((decide (ts.length = 1) && (tgsB 0 ts && decide (ts.length = is.length))) && !ovB 10 n s ts.length is.length) := by
  rw [one_10]
  unfold ovB
  by_cases h1 : n = 0 <;> by_cases h2 : s = ⟨#[]⟩ <;> by_cases h3 : ts.length = 0 <;> by_cases h4 : is.length = 0 <;> simp [h1, h2, h3, h4, Bool.and_comm]
  all_goals (by_cases h5 : ts.length = 1 <;> by_cases h6 : is.length = 1 <;> simp [h5, h6, eq_comm])
theorem lwell_any : ∀ (N : Nat) (v : Va) (w : World), dpV v < N → VaIn w v → Nc v →
    Calls Tryz.prog 41 #[.agg #[.int .i64 v.k, .int .i64 v.n, .string v.s, .slice v.tb v.ts.length v.tc, .slice v.io v.is.length v.ic]] w fun e w' => e = .returned (.bool (weV rightB v)) ∧ Below w.heap.size w w' := by
  intro N
  induction N with
  | zero => intro v w h; omega
  | succ N ih =>
    intro v w hN hv hnc
    obtain ⟨k, n, s, tb, tc, ts, io, ic, is⟩ := v
    rw [weV_eq]
    by_cases h1 : k = 1
    · subst h1; rw [split_1]; exact well1_any N ih n s tb tc ts io ic is w hN hv hnc
    by_cases h2 : k = 2
    · subst h2; rw [split_2]; exact well2_any N ih n s tb tc ts io ic is w hN hv hnc
    by_cases h3 : k = 3
    · subst h3; rw [split_3]; exact well3_any N ih n s tb tc ts io ic is w hN hv hnc
    by_cases h4 : k = 4
    · subst h4; rw [split_4]; exact well4_any N ih n s tb tc ts io ic is w hN hv hnc
    by_cases h5 : k = 5
    · subst h5; rw [split_5]; exact well5_any N ih n s tb tc ts io ic is w hN hv hnc
    by_cases h6 : k = 6
    · subst h6; rw [split_6]; exact well6_any N ih n s tb tc ts io ic is w hN hv hnc
    by_cases h7 : k = 7
    · subst h7; rw [split_7]; exact well7_any N ih n s tb tc ts io ic is w hN hv hnc
    by_cases h8 : k = 8
    · subst h8; rw [split_8]; exact well8_any N ih n s tb tc ts io ic is w hN hv hnc
    by_cases h9 : k = 9
    · subst h9; rw [split_9]; exact well9_any N ih n s tb tc ts io ic is w hN hv hnc
    by_cases h10 : k = 10
    · subst h10; rw [split_10]; exact well10_any N ih n s tb tc ts io ic is w hN hv hnc
    have h0 : ¬ (1 ≤ k ∧ k ≤ 10) := by omega
    rw [one_no rightB n s ts is h0, Bool.false_and]
    exact well0_any k n s tb tc ts io ic is w h0
set_option maxRecDepth 100000 in
theorem well_any (v : Va) (w : World) (hv : VaIn w v) (hnc : Nc v) :
    Calls Tryz.prog 22 #[.agg #[.int .i64 v.k, .int .i64 v.n, .string v.s, .slice v.tb v.ts.length v.tc, .slice v.io v.is.length v.ic]] w fun e w' => e = .returned (.bool (weV rightB v)) ∧ Below w.heap.size w w' := by
  have hB1 := (Below.refl w.heap.size w).alloc (Nat.le_refl _) (.cells #[.int .i64 v.k, .int .i64 v.n, .string v.s, .slice v.tb v.ts.length v.tc, .slice v.io v.is.length v.ic] 26)
  have HC0 := Lib.hid (Cs.new w [.int .i64 v.k, .int .i64 v.n, .string v.s, .slice v.tb v.ts.length v.tc, .slice v.io v.is.length v.ic] 26)
  have HV1 := Lib.hid (va_below hv hB1 (Nat.le_refl _))
  have HB1 := Lib.hid hB1
  have HN := Lib.hid hnc
  clear hv hnc hB1
  go_enter Tryz.func22, Tryz.ntmps22
  go_wp2_with (first
    | (go_at_call 40; refine (endless_any v _ HV1.out HN.out).mono ?_; rintro e w2 ⟨rfl, hb2⟩; have d0 := (HC0.out.below hb2 HC0.out.lt).cell (i := 0) rfl; have d1 := (HC0.out.below hb2 HC0.out.lt).cell (i := 1) rfl; have d2 := (HC0.out.below hb2 HC0.out.lt).cell (i := 2) rfl; have d3 := (HC0.out.below hb2 HC0.out.lt).cell (i := 3) rfl; have d4 := (HC0.out.below hb2 HC0.out.lt).cell (i := 4) rfl)
    | (go_at_call 41; refine (lwell_any _ v _ (Nat.lt_succ_self _) (va_below HV1.out hb2 (Nat.le_refl _)) HN.out).mono ?_; rintro e w3 ⟨rfl, hb3⟩))
  go_ret
  exact ⟨rfl, HB1.out.trans ((hb2.trans (hb3.mono hb2.size)).mono HB1.out.size)⟩
end Go.Proofs.YtdogddliifbjnaaGreat.Va
