/- Values: the contracts of the program's order and Cmp. (Printed by gen/cmp.py.) -/
import Derived.Test.YtdogddliifbjnaaGreatMg39
namespace Go.Proofs.YtdogddliifbjnaaGreat.Va
open Go.RowKit Cm
set_option linter.unusedVariables false
set_option linter.unusedSimpArgs false

theorem cmpI_any (x y : Int) (w : World) : Calls Tryz.prog 39 #[.int .i64 x, .int .i64 y] w fun e w' => e = .returned (.int .i64 (orZ (decide (x < y)) (decide (y < x)))) ∧ w' = w := by
  by_cases h1 : x < y
  · have hc : orZ (decide (x < y)) (decide (y < x)) = -1 := by rw [decide_eq_true h1]; rfl
    rw [hc]
    clear hc
    go_enter Tryz.func39, Tryz.ntmps39
    go_wp2
    go_ret
    exact ⟨rfl, rfl⟩
  · by_cases h2 : y < x
    · have hc : orZ (decide (x < y)) (decide (y < x)) = 1 := by rw [decide_eq_false h1, decide_eq_true h2]; rfl
      rw [hc]
      clear hc
      go_enter Tryz.func39, Tryz.ntmps39
      go_wp2
      go_ret
      exact ⟨rfl, rfl⟩
    · have hc : orZ (decide (x < y)) (decide (y < x)) = 0 := by rw [decide_eq_false h1, decide_eq_false h2]; rfl
      rw [hc]
      clear hc
      go_enter Tryz.func39, Tryz.ntmps39
      go_wp2
      go_ret
      exact ⟨rfl, rfl⟩
theorem cmpL_any (x y : Int) (w : World) : Calls Tryz.prog 195 #[.int .i64 x, .int .i64 y] w fun e w' => e = .returned (.int .i64 (orZ (decide (x < y)) (decide (y < x)))) ∧ w' = w := by
  by_cases h1 : x < y
  · have hc : orZ (decide (x < y)) (decide (y < x)) = -1 := by rw [decide_eq_true h1]; rfl
    rw [hc]
    clear hc
    go_enter Tryz.func195, Tryz.ntmps195
    go_wp2
    go_ret
    exact ⟨rfl, rfl⟩
  · by_cases h2 : y < x
    · have hc : orZ (decide (x < y)) (decide (y < x)) = 1 := by rw [decide_eq_false h1, decide_eq_true h2]; rfl
      rw [hc]
      clear hc
      go_enter Tryz.func195, Tryz.ntmps195
      go_wp2
      go_ret
      exact ⟨rfl, rfl⟩
    · have hc : orZ (decide (x < y)) (decide (y < x)) = 0 := by rw [decide_eq_false h1, decide_eq_false h2]; rfl
      rw [hc]
      clear hc
      go_enter Tryz.func195, Tryz.ntmps195
      go_wp2
      go_ret
      exact ⟨rfl, rfl⟩
theorem cmpN_any (x y : Int) (w : World) : Calls Tryz.prog 196 #[.int .u64 x, .int .u64 y] w fun e w' => e = .returned (.int .i64 (orZ (decide (x < y)) (decide (y < x)))) ∧ w' = w := by
  by_cases h1 : x < y
  · have hc : orZ (decide (x < y)) (decide (y < x)) = -1 := by rw [decide_eq_true h1]; rfl
    rw [hc]
    clear hc
    go_enter Tryz.func196, Tryz.ntmps196
    go_wp2
    go_ret
    exact ⟨rfl, rfl⟩
  · by_cases h2 : y < x
    · have hc : orZ (decide (x < y)) (decide (y < x)) = 1 := by rw [decide_eq_false h1, decide_eq_true h2]; rfl
      rw [hc]
      clear hc
      go_enter Tryz.func196, Tryz.ntmps196
      go_wp2
      go_ret
      exact ⟨rfl, rfl⟩
    · have hc : orZ (decide (x < y)) (decide (y < x)) = 0 := by rw [decide_eq_false h1, decide_eq_false h2]; rfl
      rw [hc]
      clear hc
      go_enter Tryz.func196, Tryz.ntmps196
      go_wp2
      go_ret
      exact ⟨rfl, rfl⟩
theorem cmpT_any (s t : ByteArray) (w : World) : Calls Tryz.prog 197 #[.string s, .string t] w fun e w' => e = .returned (.int .i64 (orZ (ltL s.data.toList t.data.toList) (ltL t.data.toList s.data.toList))) ∧ w' = w := by
  have g1 : Op.bytesLess s.toList t.toList = ltL s.data.toList t.data.toList := by rw [bl_eq, ByteArray.toList_eq, ByteArray.toList_eq]
  have g2 : (!Op.bytesLess s.toList t.toList && !s.toList == t.toList) = ltL t.data.toList s.data.toList := by rw [← Bool.not_or, bl_gt, ByteArray.toList_eq, ByteArray.toList_eq]
  have hs : (s.toList != s.toList) = false := by simp
  have ht : (t.toList != t.toList) = false := by simp
  rw [← g1, ← g2]
  clear g1 g2
  cases h1 : Op.bytesLess s.toList t.toList with
  | true =>
    go_enter Tryz.func197, Tryz.ntmps197
    go_wp2
    go_ret
    exact ⟨rfl, rfl⟩
  | false =>
    cases h2 : s.toList == t.toList with
    | true =>
      go_enter Tryz.func197, Tryz.ntmps197
      go_wp2
      go_ret
      exact ⟨rfl, rfl⟩
    | false =>
      go_enter Tryz.func197, Tryz.ntmps197
      go_wp2
      go_ret
      exact ⟨rfl, rfl⟩
set_option maxRecDepth 100000 in
set_option maxHeartbeats 1000000 in
theorem ord1_any (n : Int) (s : ByteArray) (tb : Option Addr) (tl tc : Nat) (io : Option Addr) (il ic : Nat) (k' n' : Int) (s' : ByteArray) (tb' : Option Addr) (tl' tc' : Nat) (io' : Option Addr) (il' ic' : Nat) (w : World) :
    Calls Tryz.prog 194 #[.agg #[.int .i64 1, .int .i64 n, .string s, .slice tb tl tc, .slice io il ic], .agg #[.int .i64 k', .int .i64 n', .string s', .slice tb' tl' tc', .slice io' il' ic']] w fun e w' => e = .returned (.int .i64 (orZ (decide (n < n')) (decide (n' < n)))) ∧ Below w.heap.size w w' := by
  obtain ⟨hA, hB, hW⟩ := two_new w [.int .i64 1, .int .i64 n, .string s, .slice tb tl tc, .slice io il ic] [.int .i64 k', .int .i64 n', .string s', .slice tb' tl' tc', .slice io' il' ic'] 26
  have HA := Lib.hid hA
  have HB := Lib.hid hB
  have HW := Lib.hid hW
  clear hA hB hW
  have a1 := as1_1 (.int .i64 n)
  have a2 := as1_2 (.int .i64 n)
  have a6 := as1_6 (.int .i64 n)
  have a3 := as1_3 (.int .i64 n)
  have a4 := as1_4 (.int .i64 n)
  go_enter Tryz.func194, Tryz.ntmps194
  go_wp2_with (first
    | (go_at_call 72; refine (kind1_any n s tb tl tc io il ic _).mono ?_; rintro e w2 ⟨rfl, hb2⟩; have p0 := (HA.out.below hb2 HA.out.lt).cell (i := 0) rfl; have p1 := (HA.out.below hb2 HA.out.lt).cell (i := 1) rfl; have p2 := (HA.out.below hb2 HA.out.lt).cell (i := 2) rfl; have q1 := (HB.out.below hb2 HB.out.lt).cell (i := 1) rfl; have q2 := (HB.out.below hb2 HB.out.lt).cell (i := 2) rfl)
    | (go_at_call 195; refine (cmpL_any n n' _).mono ?_; rintro e w3 ⟨rfl, rfl⟩))
  go_ret
  exact ⟨rfl, HW.out.trans (hb2.mono HW.out.size)⟩
set_option maxRecDepth 100000 in
set_option maxHeartbeats 1000000 in
theorem ord2_any (n : Int) (s : ByteArray) (tb : Option Addr) (tl tc : Nat) (io : Option Addr) (il ic : Nat) (k' n' : Int) (s' : ByteArray) (tb' : Option Addr) (tl' tc' : Nat) (io' : Option Addr) (il' ic' : Nat) (w : World) :
    Calls Tryz.prog 194 #[.agg #[.int .i64 2, .int .i64 n, .string s, .slice tb tl tc, .slice io il ic], .agg #[.int .i64 k', .int .i64 n', .string s', .slice tb' tl' tc', .slice io' il' ic']] w fun e w' => e = .returned (.int .i64 (orZ (decide (n < n')) (decide (n' < n)))) ∧ Below w.heap.size w w' := by
  obtain ⟨hA, hB, hW⟩ := two_new w [.int .i64 2, .int .i64 n, .string s, .slice tb tl tc, .slice io il ic] [.int .i64 k', .int .i64 n', .string s', .slice tb' tl' tc', .slice io' il' ic'] 26
  have HA := Lib.hid hA
  have HB := Lib.hid hB
  have HW := Lib.hid hW
  clear hA hB hW
  have a1 := as2_1 (.int .i64 n)
  have a2 := as2_2 (.int .i64 n)
  have a6 := as2_6 (.int .i64 n)
  have a3 := as2_3 (.int .i64 n)
  have a4 := as2_4 (.int .i64 n)
  go_enter Tryz.func194, Tryz.ntmps194
  go_wp2_with (first
    | (go_at_call 72; refine (kind2_any n s tb tl tc io il ic _).mono ?_; rintro e w2 ⟨rfl, hb2⟩; have p0 := (HA.out.below hb2 HA.out.lt).cell (i := 0) rfl; have p1 := (HA.out.below hb2 HA.out.lt).cell (i := 1) rfl; have p2 := (HA.out.below hb2 HA.out.lt).cell (i := 2) rfl; have q1 := (HB.out.below hb2 HB.out.lt).cell (i := 1) rfl; have q2 := (HB.out.below hb2 HB.out.lt).cell (i := 2) rfl)
    | (go_at_call 195; refine (cmpL_any n n' _).mono ?_; rintro e w3 ⟨rfl, rfl⟩))
  go_ret
  exact ⟨rfl, HW.out.trans (hb2.mono HW.out.size)⟩
set_option maxRecDepth 100000 in
set_option maxHeartbeats 1000000 in
theorem ord3_any (n : Int) (s : ByteArray) (tb : Option Addr) (tl tc : Nat) (io : Option Addr) (il ic : Nat) (k' n' : Int) (s' : ByteArray) (tb' : Option Addr) (tl' tc' : Nat) (io' : Option Addr) (il' ic' : Nat) (w : World) :
    Calls Tryz.prog 194 #[.agg #[.int .i64 3, .int .i64 n, .string s, .slice tb tl tc, .slice io il ic], .agg #[.int .i64 k', .int .i64 n', .string s', .slice tb' tl' tc', .slice io' il' ic']] w fun e w' => e = .returned (.int .i64 (orZ (decide (IntKind.u64.wrap n < IntKind.u64.wrap n')) (decide (IntKind.u64.wrap n' < IntKind.u64.wrap n)))) ∧ Below w.heap.size w w' := by
  obtain ⟨hA, hB, hW⟩ := two_new w [.int .i64 3, .int .i64 n, .string s, .slice tb tl tc, .slice io il ic] [.int .i64 k', .int .i64 n', .string s', .slice tb' tl' tc', .slice io' il' ic'] 26
  have HA := Lib.hid hA
  have HB := Lib.hid hB
  have HW := Lib.hid hW
  clear hA hB hW
  have a1 := as3_1 (.int .u64 (IntKind.u64.wrap n))
  have a2 := as3_2 (.int .u64 (IntKind.u64.wrap n))
  have a6 := as3_6 (.int .u64 (IntKind.u64.wrap n))
  have a3 := as3_3 (.int .u64 (IntKind.u64.wrap n))
  have a4 := as3_4 (.int .u64 (IntKind.u64.wrap n))
  go_enter Tryz.func194, Tryz.ntmps194
  go_wp2_with (first
    | (go_at_call 72; refine (kind3_any n s tb tl tc io il ic _).mono ?_; rintro e w2 ⟨rfl, hb2⟩; have p0 := (HA.out.below hb2 HA.out.lt).cell (i := 0) rfl; have p1 := (HA.out.below hb2 HA.out.lt).cell (i := 1) rfl; have p2 := (HA.out.below hb2 HA.out.lt).cell (i := 2) rfl; have q1 := (HB.out.below hb2 HB.out.lt).cell (i := 1) rfl; have q2 := (HB.out.below hb2 HB.out.lt).cell (i := 2) rfl)
    | (go_at_call 196; refine (cmpN_any _ _ _).mono ?_; rintro e w3 ⟨rfl, rfl⟩))
  go_ret
  exact ⟨rfl, HW.out.trans (hb2.mono HW.out.size)⟩
set_option maxRecDepth 100000 in
set_option maxHeartbeats 1000000 in
theorem ord4_any (n : Int) (s : ByteArray) (tb : Option Addr) (tl tc : Nat) (io : Option Addr) (il ic : Nat) (k' n' : Int) (s' : ByteArray) (tb' : Option Addr) (tl' tc' : Nat) (io' : Option Addr) (il' ic' : Nat) (w : World) :
    Calls Tryz.prog 194 #[.agg #[.int .i64 4, .int .i64 n, .string s, .slice tb tl tc, .slice io il ic], .agg #[.int .i64 k', .int .i64 n', .string s', .slice tb' tl' tc', .slice io' il' ic']] w fun e w' => e = .returned (.int .i64 (orZ (ltL s.data.toList s'.data.toList) (ltL s'.data.toList s.data.toList))) ∧ Below w.heap.size w w' := by
  obtain ⟨hA, hB, hW⟩ := two_new w [.int .i64 4, .int .i64 n, .string s, .slice tb tl tc, .slice io il ic] [.int .i64 k', .int .i64 n', .string s', .slice tb' tl' tc', .slice io' il' ic'] 26
  have HA := Lib.hid hA
  have HB := Lib.hid hB
  have HW := Lib.hid hW
  clear hA hB hW
  have a1 := as4_1 (.string s)
  have a2 := as4_2 (.string s)
  have a6 := as4_6 (.string s)
  have a3 := as4_3 (.string s)
  have a4 := as4_4 (.string s)
  go_enter Tryz.func194, Tryz.ntmps194
  go_wp2_with (first
    | (go_at_call 72; refine (kind4_any n s tb tl tc io il ic _).mono ?_; rintro e w2 ⟨rfl, hb2⟩; have p0 := (HA.out.below hb2 HA.out.lt).cell (i := 0) rfl; have p1 := (HA.out.below hb2 HA.out.lt).cell (i := 1) rfl; have p2 := (HA.out.below hb2 HA.out.lt).cell (i := 2) rfl; have q1 := (HB.out.below hb2 HB.out.lt).cell (i := 1) rfl; have q2 := (HB.out.below hb2 HB.out.lt).cell (i := 2) rfl)
    | (go_at_call 197; refine (cmpT_any s s' _).mono ?_; rintro e w3 ⟨rfl, rfl⟩))
  go_ret
  exact ⟨rfl, HW.out.trans (hb2.mono HW.out.size)⟩
set_option maxRecDepth 100000 in
set_option maxHeartbeats 1000000 in
theorem ord5_any (n : Int) (s : ByteArray) (tb : Option Addr) (tl tc : Nat) (io : Option Addr) (il ic : Nat) (k' n' : Int) (s' : ByteArray) (tb' : Option Addr) (tl' tc' : Nat) (io' : Option Addr) (il' ic' : Nat) (w : World) :
    Calls Tryz.prog 194 #[.agg #[.int .i64 5, .int .i64 n, .string s, .slice tb tl tc, .slice io il ic], .agg #[.int .i64 k', .int .i64 n', .string s', .slice tb' tl' tc', .slice io' il' ic']] w fun e w' => e = .returned (.int .i64 (0)) ∧ Below w.heap.size w w' := by
  obtain ⟨hA, hB, hW⟩ := two_new w [.int .i64 5, .int .i64 n, .string s, .slice tb tl tc, .slice io il ic] [.int .i64 k', .int .i64 n', .string s', .slice tb' tl' tc', .slice io' il' ic'] 26
  have HA := Lib.hid hA
  have HB := Lib.hid hB
  have HW := Lib.hid hW
  clear hA hB hW
  have a1 := as5_1 (.string s)
  have a2 := as5_2 (.string s)
  have a6 := as5_6 (.string s)
  have a3 := as5_3 (.string s)
  have a4 := as5_4 (.string s)
  go_enter Tryz.func194, Tryz.ntmps194
  go_wp2_with (go_at_call 72; refine (kind5_any n s tb tl tc io il ic _).mono ?_; rintro e w2 ⟨rfl, hb2⟩; have p0 := (HA.out.below hb2 HA.out.lt).cell (i := 0) rfl; have p1 := (HA.out.below hb2 HA.out.lt).cell (i := 1) rfl; have p2 := (HA.out.below hb2 HA.out.lt).cell (i := 2) rfl; have q1 := (HB.out.below hb2 HB.out.lt).cell (i := 1) rfl; have q2 := (HB.out.below hb2 HB.out.lt).cell (i := 2) rfl)
  go_ret
  exact ⟨rfl, HW.out.trans (hb2.mono HW.out.size)⟩
set_option maxRecDepth 100000 in
set_option maxHeartbeats 1000000 in
theorem ord6_any (n : Int) (s : ByteArray) (tb : Option Addr) (tl tc : Nat) (io : Option Addr) (il ic : Nat) (k' n' : Int) (s' : ByteArray) (tb' : Option Addr) (tl' tc' : Nat) (io' : Option Addr) (il' ic' : Nat) (w : World) :
    Calls Tryz.prog 194 #[.agg #[.int .i64 6, .int .i64 n, .string s, .slice tb tl tc, .slice io il ic], .agg #[.int .i64 k', .int .i64 n', .string s', .slice tb' tl' tc', .slice io' il' ic']] w fun e w' => e = .returned (.int .i64 (orZ (decide (n < n')) (decide (n' < n)))) ∧ Below w.heap.size w w' := by
  obtain ⟨hA, hB, hW⟩ := two_new w [.int .i64 6, .int .i64 n, .string s, .slice tb tl tc, .slice io il ic] [.int .i64 k', .int .i64 n', .string s', .slice tb' tl' tc', .slice io' il' ic'] 26
  have HA := Lib.hid hA
  have HB := Lib.hid hB
  have HW := Lib.hid hW
  clear hA hB hW
  have a1 := as6_1 (.int .i64 n)
  have a2 := as6_2 (.int .i64 n)
  have a6 := as6_6 (.int .i64 n)
  have a3 := as6_3 (.int .i64 n)
  have a4 := as6_4 (.int .i64 n)
  go_enter Tryz.func194, Tryz.ntmps194
  go_wp2_with (first
    | (go_at_call 72; refine (kind6_any n s tb tl tc io il ic _).mono ?_; rintro e w2 ⟨rfl, hb2⟩; have p0 := (HA.out.below hb2 HA.out.lt).cell (i := 0) rfl; have p1 := (HA.out.below hb2 HA.out.lt).cell (i := 1) rfl; have p2 := (HA.out.below hb2 HA.out.lt).cell (i := 2) rfl; have q1 := (HB.out.below hb2 HB.out.lt).cell (i := 1) rfl; have q2 := (HB.out.below hb2 HB.out.lt).cell (i := 2) rfl)
    | (go_at_call 195; refine (cmpL_any n n' _).mono ?_; rintro e w3 ⟨rfl, rfl⟩))
  go_ret
  exact ⟨rfl, HW.out.trans (hb2.mono HW.out.size)⟩
set_option maxRecDepth 100000 in
set_option maxHeartbeats 1000000 in
theorem ord7_any (n : Int) (s : ByteArray) (tb : Option Addr) (tl tc : Nat) (io : Option Addr) (il ic : Nat) (k' n' : Int) (s' : ByteArray) (tb' : Option Addr) (tl' tc' : Nat) (io' : Option Addr) (il' ic' : Nat) (w : World) :
    Calls Tryz.prog 194 #[.agg #[.int .i64 7, .int .i64 n, .string s, .slice tb tl tc, .slice io il ic], .agg #[.int .i64 k', .int .i64 n', .string s', .slice tb' tl' tc', .slice io' il' ic']] w fun e w' => e = .returned (.int .i64 (0)) ∧ Below w.heap.size w w' := by
  obtain ⟨hA, hB, hW⟩ := two_new w [.int .i64 7, .int .i64 n, .string s, .slice tb tl tc, .slice io il ic] [.int .i64 k', .int .i64 n', .string s', .slice tb' tl' tc', .slice io' il' ic'] 26
  have HA := Lib.hid hA
  have HB := Lib.hid hB
  have HW := Lib.hid hW
  clear hA hB hW
  have a1 := as7_1 (.slice io il ic)
  have a2 := as7_2 (.slice io il ic)
  have a6 := as7_6 (.slice io il ic)
  have a3 := as7_3 (.slice io il ic)
  have a4 := as7_4 (.slice io il ic)
  go_enter Tryz.func194, Tryz.ntmps194
  go_wp2_with (go_at_call 72; refine (kind7_any n s tb tl tc io il ic _).mono ?_; rintro e w2 ⟨rfl, hb2⟩; have p0 := (HA.out.below hb2 HA.out.lt).cell (i := 0) rfl; have p1 := (HA.out.below hb2 HA.out.lt).cell (i := 1) rfl; have p2 := (HA.out.below hb2 HA.out.lt).cell (i := 2) rfl; have q1 := (HB.out.below hb2 HB.out.lt).cell (i := 1) rfl; have q2 := (HB.out.below hb2 HB.out.lt).cell (i := 2) rfl)
  go_ret
  exact ⟨rfl, HW.out.trans (hb2.mono HW.out.size)⟩
set_option maxRecDepth 100000 in
set_option maxHeartbeats 1000000 in
theorem ord8_any (n : Int) (s : ByteArray) (tb : Option Addr) (tl tc : Nat) (io : Option Addr) (il ic : Nat) (k' n' : Int) (s' : ByteArray) (tb' : Option Addr) (tl' tc' : Nat) (io' : Option Addr) (il' ic' : Nat) (w : World) :
    Calls Tryz.prog 194 #[.agg #[.int .i64 8, .int .i64 n, .string s, .slice tb tl tc, .slice io il ic], .agg #[.int .i64 k', .int .i64 n', .string s', .slice tb' tl' tc', .slice io' il' ic']] w fun e w' => e = .returned (.int .i64 (0)) ∧ Below w.heap.size w w' := by
  obtain ⟨hA, hB, hW⟩ := two_new w [.int .i64 8, .int .i64 n, .string s, .slice tb tl tc, .slice io il ic] [.int .i64 k', .int .i64 n', .string s', .slice tb' tl' tc', .slice io' il' ic'] 26
  have HA := Lib.hid hA
  have HB := Lib.hid hB
  have HW := Lib.hid hW
  clear hA hB hW
  have a1 := as8_1 (.slice io il ic)
  have a2 := as8_2 (.slice io il ic)
  have a6 := as8_6 (.slice io il ic)
  have a3 := as8_3 (.slice io il ic)
  have a4 := as8_4 (.slice io il ic)
  go_enter Tryz.func194, Tryz.ntmps194
  go_wp2_with (go_at_call 72; refine (kind8_any n s tb tl tc io il ic _).mono ?_; rintro e w2 ⟨rfl, hb2⟩; have p0 := (HA.out.below hb2 HA.out.lt).cell (i := 0) rfl; have p1 := (HA.out.below hb2 HA.out.lt).cell (i := 1) rfl; have p2 := (HA.out.below hb2 HA.out.lt).cell (i := 2) rfl; have q1 := (HB.out.below hb2 HB.out.lt).cell (i := 1) rfl; have q2 := (HB.out.below hb2 HB.out.lt).cell (i := 2) rfl)
  go_ret
  exact ⟨rfl, HW.out.trans (hb2.mono HW.out.size)⟩
set_option maxRecDepth 100000 in
set_option maxHeartbeats 1000000 in
theorem ord9_any (n : Int) (s : ByteArray) (tb : Option Addr) (tl tc : Nat) (io : Option Addr) (il ic : Nat) (k' n' : Int) (s' : ByteArray) (tb' : Option Addr) (tl' tc' : Nat) (io' : Option Addr) (il' ic' : Nat) (w : World) :
    Calls Tryz.prog 194 #[.agg #[.int .i64 9, .int .i64 n, .string s, .slice tb tl tc, .slice io il ic], .agg #[.int .i64 k', .int .i64 n', .string s', .slice tb' tl' tc', .slice io' il' ic']] w fun e w' => e = .returned (.int .i64 (0)) ∧ Below w.heap.size w w' := by
  obtain ⟨hA, hB, hW⟩ := two_new w [.int .i64 9, .int .i64 n, .string s, .slice tb tl tc, .slice io il ic] [.int .i64 k', .int .i64 n', .string s', .slice tb' tl' tc', .slice io' il' ic'] 26
  have HA := Lib.hid hA
  have HB := Lib.hid hB
  have HW := Lib.hid hW
  clear hA hB hW
  have a1 := as9_1 (.agg #[.slice tb tl tc, .slice io il ic])
  have a2 := as9_2 (.agg #[.slice tb tl tc, .slice io il ic])
  have a6 := as9_6 (.agg #[.slice tb tl tc, .slice io il ic])
  have a3 := as9_3 (.agg #[.slice tb tl tc, .slice io il ic])
  have a4 := as9_4 (.agg #[.slice tb tl tc, .slice io il ic])
  go_enter Tryz.func194, Tryz.ntmps194
  go_wp2_with (go_at_call 72; refine (kind9_any n s tb tl tc io il ic _).mono ?_; rintro e w2 ⟨rfl, hb2⟩; have p0 := (HA.out.below hb2 HA.out.lt).cell (i := 0) rfl; have p1 := (HA.out.below hb2 HA.out.lt).cell (i := 1) rfl; have p2 := (HA.out.below hb2 HA.out.lt).cell (i := 2) rfl; have q1 := (HB.out.below hb2 HB.out.lt).cell (i := 1) rfl; have q2 := (HB.out.below hb2 HB.out.lt).cell (i := 2) rfl)
  go_ret
  exact ⟨rfl, HW.out.trans (hb2.mono HW.out.size)⟩
set_option maxRecDepth 100000 in
set_option maxHeartbeats 1000000 in
theorem ord10_any (n : Int) (s : ByteArray) (tb : Option Addr) (tl tc : Nat) (io : Option Addr) (il ic : Nat) (k' n' : Int) (s' : ByteArray) (tb' : Option Addr) (tl' tc' : Nat) (io' : Option Addr) (il' ic' : Nat) (w : World) :
    Calls Tryz.prog 194 #[.agg #[.int .i64 10, .int .i64 n, .string s, .slice tb tl tc, .slice io il ic], .agg #[.int .i64 k', .int .i64 n', .string s', .slice tb' tl' tc', .slice io' il' ic']] w fun e w' => e = .returned (.int .i64 (0)) ∧ Below w.heap.size w w' := by
  obtain ⟨hA, hB, hW⟩ := two_new w [.int .i64 10, .int .i64 n, .string s, .slice tb tl tc, .slice io il ic] [.int .i64 k', .int .i64 n', .string s', .slice tb' tl' tc', .slice io' il' ic'] 26
  have HA := Lib.hid hA
  have HB := Lib.hid hB
  have HW := Lib.hid hW
  clear hA hB hW
  have a1 := as10_1 (.agg #[.slice tb tl tc, .slice io il ic])
  have a2 := as10_2 (.agg #[.slice tb tl tc, .slice io il ic])
  have a6 := as10_6 (.agg #[.slice tb tl tc, .slice io il ic])
  have a3 := as10_3 (.agg #[.slice tb tl tc, .slice io il ic])
  have a4 := as10_4 (.agg #[.slice tb tl tc, .slice io il ic])
  go_enter Tryz.func194, Tryz.ntmps194
  go_wp2_with (go_at_call 72; refine (kind10_any n s tb tl tc io il ic _).mono ?_; rintro e w2 ⟨rfl, hb2⟩; have p0 := (HA.out.below hb2 HA.out.lt).cell (i := 0) rfl; have p1 := (HA.out.below hb2 HA.out.lt).cell (i := 1) rfl; have p2 := (HA.out.below hb2 HA.out.lt).cell (i := 2) rfl; have q1 := (HB.out.below hb2 HB.out.lt).cell (i := 1) rfl; have q2 := (HB.out.below hb2 HB.out.lt).cell (i := 2) rfl)
  go_ret
  exact ⟨rfl, HW.out.trans (hb2.mono HW.out.size)⟩
set_option maxRecDepth 100000 in
set_option maxHeartbeats 1000000 in
theorem ord0_any (k : Int) (n : Int) (s : ByteArray) (tb : Option Addr) (tl tc : Nat) (io : Option Addr) (il ic : Nat) (k' n' : Int) (s' : ByteArray) (tb' : Option Addr) (tl' tc' : Nat) (io' : Option Addr) (il' ic' : Nat) (w : World) (h : ¬ (1 ≤ k ∧ k ≤ 10)) :
    Calls Tryz.prog 194 #[.agg #[.int .i64 k, .int .i64 n, .string s, .slice tb tl tc, .slice io il ic], .agg #[.int .i64 k', .int .i64 n', .string s', .slice tb' tl' tc', .slice io' il' ic']] w fun e w' => e = .returned (.int .i64 (0)) ∧ Below w.heap.size w w' := by
  obtain ⟨hA, hB, hW⟩ := two_new w [.int .i64 k, .int .i64 n, .string s, .slice tb tl tc, .slice io il ic] [.int .i64 k', .int .i64 n', .string s', .slice tb' tl' tc', .slice io' il' ic'] 26
  have HA := Lib.hid hA
  have HB := Lib.hid hB
  have HW := Lib.hid hW
  clear hA hB hW
  have a1 := as0_1
  have a2 := as0_2
  have a6 := as0_6
  have a3 := as0_3
  have a4 := as0_4
  go_enter Tryz.func194, Tryz.ntmps194
  go_wp2_with (go_at_call 72; refine (kind0_any k n s tb tl tc io il ic _ h).mono ?_; rintro e w2 ⟨rfl, hb2⟩; have p0 := (HA.out.below hb2 HA.out.lt).cell (i := 0) rfl; have p1 := (HA.out.below hb2 HA.out.lt).cell (i := 1) rfl; have p2 := (HA.out.below hb2 HA.out.lt).cell (i := 2) rfl; have q1 := (HB.out.below hb2 HB.out.lt).cell (i := 1) rfl; have q2 := (HB.out.below hb2 HB.out.lt).cell (i := 2) rfl)
  go_ret
  exact ⟨rfl, HW.out.trans (hb2.mono HW.out.size)⟩
/-- What order answers of two of kind k. -/
def orV (k n : Int) (s : ByteArray) (n' : Int) (s' : ByteArray) : Int := cmpV k n s k n' s'
theorem or_un {n n' : Int} (hn : -9223372036854775808 ≤ n ∧ n ≤ 9223372036854775807) (hn' : -9223372036854775808 ≤ n' ∧ n' ≤ 9223372036854775807) (s s' : ByteArray) :
    orZ (decide (IntKind.u64.wrap n < IntKind.u64.wrap n')) (decide (IntKind.u64.wrap n' < IntKind.u64.wrap n)) = cmpV 3 n s 3 n' s' := by
  rw [IntKind.wrap_u64, IntKind.wrap_u64]
  unfold cmpV
  rw [if_neg (by decide), if_neg (by decide)]
  by_cases h1 : n < 0 <;> by_cases h2 : n' < 0
  · rw [if_neg (by rw [decide_eq_true h1, decide_eq_true h2]; simp)]
    congr 1 <;> exact decide_eq_decide.2 (by omega)
  · rw [if_pos (by rw [decide_eq_true h1, decide_eq_false h2]; simp)]
    congr 1 <;> exact decide_eq_decide.2 (by omega)
  · rw [if_pos (by rw [decide_eq_false h1, decide_eq_true h2]; simp)]
    congr 1 <;> exact decide_eq_decide.2 (by omega)
  · rw [if_neg (by rw [decide_eq_false h1, decide_eq_false h2]; simp)]
    congr 1 <;> exact decide_eq_decide.2 (by omega)
theorem or_no {k : Int} (h : keyB k = false) (n : Int) (s : ByteArray) (n' : Int) (s' : ByteArray) : cmpV k n s k n' s' = 0 := by
  unfold cmpV
  have hkk : decide (k < k) = false := by simp
  rw [if_pos (.inr h), hkk]; rfl
theorem lorder_any (k : Int) (n : Int) (s : ByteArray) (tb : Option Addr) (tl tc : Nat) (io : Option Addr) (il ic : Nat) (k' n' : Int) (s' : ByteArray) (tb' : Option Addr) (tl' tc' : Nat) (io' : Option Addr) (il' ic' : Nat) (w : World) (hn : -9223372036854775808 ≤ n ∧ n ≤ 9223372036854775807) (hn' : -9223372036854775808 ≤ n' ∧ n' ≤ 9223372036854775807) :
    Calls Tryz.prog 194 #[.agg #[.int .i64 k, .int .i64 n, .string s, .slice tb tl tc, .slice io il ic], .agg #[.int .i64 k', .int .i64 n', .string s', .slice tb' tl' tc', .slice io' il' ic']] w fun e w' => e = .returned (.int .i64 (cmpV k n s k n' s')) ∧ Below w.heap.size w w' := by
  by_cases h1 : k = 1
  · subst h1
    have hc : cmpV 1 n s 1 n' s' = orZ (decide (n < n')) (decide (n' < n)) := by unfold cmpV; rw [if_neg (by decide), if_neg (by decide), if_neg (fun h => absurd h.1 (by decide))]
    rw [hc]; exact ord1_any n s tb tl tc io il ic k' n' s' tb' tl' tc' io' il' ic' w
  by_cases h2 : k = 2
  · subst h2
    have hc : cmpV 2 n s 2 n' s' = orZ (decide (n < n')) (decide (n' < n)) := by unfold cmpV; rw [if_neg (by decide), if_neg (by decide), if_neg (fun h => absurd h.1 (by decide))]
    rw [hc]; exact ord2_any n s tb tl tc io il ic k' n' s' tb' tl' tc' io' il' ic' w
  by_cases h3 : k = 3
  · subst h3
    rw [← or_un hn hn' s s']; exact ord3_any n s tb tl tc io il ic k' n' s' tb' tl' tc' io' il' ic' w
  by_cases h4 : k = 4
  · subst h4
    have hc : cmpV 4 n s 4 n' s' = orZ (ltL s.data.toList s'.data.toList) (ltL s'.data.toList s.data.toList) := by unfold cmpV; rw [if_neg (by decide), if_pos rfl]
    rw [hc]; exact ord4_any n s tb tl tc io il ic k' n' s' tb' tl' tc' io' il' ic' w
  by_cases h5 : k = 5
  · subst h5
    rw [or_no (by decide)]; exact ord5_any n s tb tl tc io il ic k' n' s' tb' tl' tc' io' il' ic' w
  by_cases h6 : k = 6
  · subst h6
    have hc : cmpV 6 n s 6 n' s' = orZ (decide (n < n')) (decide (n' < n)) := by unfold cmpV; rw [if_neg (by decide), if_neg (by decide), if_neg (fun h => absurd h.1 (by decide))]
    rw [hc]; exact ord6_any n s tb tl tc io il ic k' n' s' tb' tl' tc' io' il' ic' w
  by_cases h7 : k = 7
  · subst h7
    rw [or_no (by decide)]; exact ord7_any n s tb tl tc io il ic k' n' s' tb' tl' tc' io' il' ic' w
  by_cases h8 : k = 8
  · subst h8
    rw [or_no (by decide)]; exact ord8_any n s tb tl tc io il ic k' n' s' tb' tl' tc' io' il' ic' w
  by_cases h9 : k = 9
  · subst h9
    rw [or_no (by decide)]; exact ord9_any n s tb tl tc io il ic k' n' s' tb' tl' tc' io' il' ic' w
  by_cases h10 : k = 10
  · subst h10
    rw [or_no (by decide)]; exact ord10_any n s tb tl tc io il ic k' n' s' tb' tl' tc' io' il' ic' w
  have hk : keyB k = false := by unfold keyB; rw [decide_eq_false (by omega), decide_eq_false (by omega)]; rfl
  rw [or_no hk]
  exact ord0_any k n s tb tl tc io il ic k' n' s' tb' tl' tc' io' il' ic' w (by omega)
set_option maxRecDepth 100000 in
set_option maxHeartbeats 1000000 in
theorem lcmp_any (k : Int) (n : Int) (s : ByteArray) (tb : Option Addr) (tl tc : Nat) (io : Option Addr) (il ic : Nat) (k' n' : Int) (s' : ByteArray) (tb' : Option Addr) (tl' tc' : Nat) (io' : Option Addr) (il' ic' : Nat) (w : World) (hn : -9223372036854775808 ≤ n ∧ n ≤ 9223372036854775807) (hn' : -9223372036854775808 ≤ n' ∧ n' ≤ 9223372036854775807) :
    Calls Tryz.prog 193 #[.agg #[.int .i64 k, .int .i64 n, .string s, .slice tb tl tc, .slice io il ic], .agg #[.int .i64 k', .int .i64 n', .string s', .slice tb' tl' tc', .slice io' il' ic']] w fun e w' => e = .returned (.int .i64 (cmpV k n s k' n' s')) ∧ Below w.heap.size w w' := by
  obtain ⟨hA, hB, hW⟩ := two_new w [.int .i64 k, .int .i64 n, .string s, .slice tb tl tc, .slice io il ic] [.int .i64 k', .int .i64 n', .string s', .slice tb' tl' tc', .slice io' il' ic'] 26
  have HA := Lib.hid hA
  have HB := Lib.hid hB
  have HW := Lib.hid hW
  clear hA hB hW
  by_cases h : k = k'
  · subst h
    go_enter Tryz.func193, Tryz.ntmps193
    go_wp2_with (go_at_call 194; refine (lorder_any k n s tb tl tc io il ic k n' s' tb' tl' tc' io' il' ic' _ hn hn').mono ?_; rintro e w2 ⟨rfl, hb2⟩)
    go_ret
    exact ⟨rfl, HW.out.trans (hb2.mono HW.out.size)⟩
  · have hc : cmpV k n s k' n' s' = orZ (decide (k < k')) (decide (k' < k)) := by unfold cmpV; rw [if_pos (.inl h)]
    rw [hc]
    have hne : (k != k') = true := by simpa using h
    clear hc h
    go_enter Tryz.func193, Tryz.ntmps193
    go_wp2_with (go_at_call 39; refine (cmpI_any k k' _).mono ?_; rintro e w2 ⟨rfl, rfl⟩)
    go_ret
    exact ⟨rfl, HW.out⟩
theorem cmp_any (a b : Va) (w : World) (ha : VaIn w a) (hb : VaIn w b) (hna : Nc a) (hnb : Nc b) :
    Calls Tryz.prog 193 #[.agg #[.int .i64 a.k, .int .i64 a.n, .string a.s, .slice a.tb a.ts.length a.tc, .slice a.io a.is.length a.ic], .agg #[.int .i64 b.k, .int .i64 b.n, .string b.s, .slice b.tb b.ts.length b.tc, .slice b.io b.is.length b.ic]] w
      fun e w' => e = .returned (.int .i64 (cmpV a.k a.n a.s b.k b.n b.s)) ∧ Below w.heap.size w w' := by
  obtain ⟨k, n, s, tb, tc, ts, io, ic, is⟩ := a
  obtain ⟨k', n', s', tb', tc', us, io', ic', js⟩ := b
  exact lcmp_any k n s tb ts.length tc io is.length ic k' n' s' tb' us.length tc' io' js.length ic' w (va_room ha).2.1 (va_room hb).2.1
end Go.Proofs.YtdogddliifbjnaaGreat.Va
