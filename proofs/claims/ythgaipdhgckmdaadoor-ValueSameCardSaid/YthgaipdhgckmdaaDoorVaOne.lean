/- Values: the contract of the reference's one. (Printed by gen/one.py.) -/
import Derived.Test.YthgaipdhgckmdaaDoorVaKeys
namespace Go.Proofs.YthgaipdhgckmdaaDoor.Va
open Go.RowKit Cm
set_option linter.unusedVariables false
set_option linter.unusedSimpArgs false

theorem plain_ret {k n : Int} {s : ByteArray} {tb : Option Addr} {tl tc : Nat} {io : Option Addr} {il ic : Nat} {b : Bool} (h : (decide (tl = 0) && decide (il = 0)) = b) (w : World) :
    Calls Tryd.prog 42 #[.agg #[.int .i64 k, .int .i64 n, .string s, .slice tb tl tc, .slice io il ic]] w fun e w' => e = .returned (.bool b) ∧ Below w.heap.size w w' := by
  subst h; exact plain_any k n s tb tl tc io il ic w
theorem txt_nil {s : ByteArray} (h : ¬ s = ⟨#[]⟩) : (s.toList == []) = false := by
  have h2 : ¬ s.toList = [] := fun e => h (bytes_eq (by rw [← ByteArray.toList_eq, e]))
  simp [h2]
theorem nil_len {ts : List Int} : decide (ts = []) = decide (ts.length = 0) := by cases ts <;> simp
/-- What a kind asks for, in the order of the text. -/
theorem one_1 (R : ByteArray → Bool) (n : Int) (s : ByteArray) (ts : List Int) (is : List Va) : oneB R 1 n s ts is = ((decide (ts.length = 0) && decide (is.length = 0)) && decide (s = ⟨#[]⟩) && (decide (n = 0) || decide (n = 1))) := by unfold oneB; rw [if_pos rfl, nil_len]
theorem one_2 (R : ByteArray → Bool) (n : Int) (s : ByteArray) (ts : List Int) (is : List Va) : oneB R 2 n s ts is = ((decide (ts.length = 0) && decide (is.length = 0)) && decide (s = ⟨#[]⟩)) := by unfold oneB; simp [nil_len]
theorem one_3 (R : ByteArray → Bool) (n : Int) (s : ByteArray) (ts : List Int) (is : List Va) : oneB R 3 n s ts is = ((decide (ts.length = 0) && decide (is.length = 0)) && decide (s = ⟨#[]⟩)) := by unfold oneB; simp [nil_len]
theorem one_4 (R : ByteArray → Bool) (n : Int) (s : ByteArray) (ts : List Int) (is : List Va) : oneB R 4 n s ts is = ((decide (ts.length = 0) && decide (is.length = 0)) && decide (n = 0) && R s) := by unfold oneB; simp [nil_len]
theorem one_5 (R : ByteArray → Bool) (n : Int) (s : ByteArray) (ts : List Int) (is : List Va) : oneB R 5 n s ts is = ((decide (ts.length = 0) && decide (is.length = 0)) && decide (n = 0)) := by unfold oneB; simp [nil_len]
theorem one_6 (R : ByteArray → Bool) (n : Int) (s : ByteArray) (ts : List Int) (is : List Va) : oneB R 6 n s ts is = ((decide (ts.length = 0) && decide (is.length = 0)) && decide (s = ⟨#[]⟩) && (decide (0 ≤ n) && decide (n ≤ 9999))) := by unfold oneB; simp [nil_len]
theorem one_7 (R : ByteArray → Bool) (n : Int) (s : ByteArray) (ts : List Int) (is : List Va) : oneB R 7 n s ts is = (decide (n = 0) && decide (s = ⟨#[]⟩) && decide (ts.length = 0)) := by unfold oneB; simp [nil_len]
theorem one_8 (R : ByteArray → Bool) (n : Int) (s : ByteArray) (ts : List Int) (is : List Va) : oneB R 8 n s ts is = (decide (n = 0) && decide (s = ⟨#[]⟩) && decide (ts.length = 0) && kysB is) := by unfold oneB; simp [nil_len]
theorem one_9 (R : ByteArray → Bool) (n : Int) (s : ByteArray) (ts : List Int) (is : List Va) : oneB R 9 n s ts is = (decide (n = 0) && decide (s = ⟨#[]⟩) && decide (ts.length = is.length) && tgsB 0 ts) := by unfold oneB; simp
theorem one_10 (R : ByteArray → Bool) (n : Int) (s : ByteArray) (ts : List Int) (is : List Va) : oneB R 10 n s ts is = (decide (n = 0) && decide (s = ⟨#[]⟩) && decide (ts.length = 1) && decide (is.length = 1) && tgsB 0 ts) := by unfold oneB; simp
theorem one_no (R : ByteArray → Bool) {k : Int} (n : Int) (s : ByteArray) (ts : List Int) (is : List Va) (h : ¬ (1 ≤ k ∧ k ≤ 10)) : oneB R k n s ts is = false := by
  unfold oneB
  rw [if_neg (by omega), if_neg (by omega), if_neg (by omega), if_neg (by omega), if_neg (by omega), if_neg (by omega), if_neg (by omega), if_neg (by omega), if_neg (by omega)]

set_option maxRecDepth 100000 in
set_option maxHeartbeats 1000000 in
theorem one1_any (BD : ByteArray → Int) (hBD : ∀ (s : ByteArray) (w : World), s.size ≤ 2000 → Calls Tryd.prog 43 #[.string s] w fun e w' => e = .returned (.int .i64 (BD s)) ∧ Below w.heap.size w w') (n : Int) (s : ByteArray) (tb : Option Addr) (tc : Nat) (ts : List Int) (io : Option Addr) (ic : Nat) (is : List Va) (w : World) (h : VaIn w (.mk 1 n s tb tc ts io ic is)) (hsz : s.size ≤ 2000) :
    Calls Tryd.prog 24 #[.agg #[.int .i64 1, .int .i64 n, .string s, .slice tb ts.length tc, .slice io is.length ic]] w fun e w' => e = .returned (.bool (oneB (fun s => decide (BD s < 0)) 1 n s ts is)) ∧ Below w.heap.size w w' := by
  have hlen := (va_room h).2.2.2.2
  have htl := (va_room h).2.2.2.1
  have hB0 := Lib.hid ((Below.refl w.heap.size w).alloc (Nat.le_refl _) (.cells #[.int .i64 1, .int .i64 n, .string s, .slice tb ts.length tc, .slice io is.length ic] 25))
  have hC0 := Lib.hid (Cs.new w [.int .i64 1, .int .i64 n, .string s, .slice tb ts.length tc, .slice io is.length ic] 25)
  have H := Lib.hid h
  clear h
  have hO := Lib.hid (one_1 (fun s => decide (BD s < 0)) n s ts is)
  obtain ⟨d0, d1, d2, d3, d4⟩ : True ∧ True ∧ True ∧ True ∧ True := ⟨trivial, trivial, trivial, trivial, trivial⟩
  clear d0 d1 d2 d3 d4
  cases hp : (decide (ts.length = 0) && decide (is.length = 0)) with
  | false =>
    go_enter Tryd.func24, Tryd.ntmps24
    go_wp2_with (first
      | (go_at_call 42; refine (plain_ret hp _).mono ?_; rintro e w1 ⟨rfl, hb1⟩; have d1 := (hC0.out.below hb1 hC0.out.lt).cell (i := 1) rfl; have d2 := (hC0.out.below hb1 hC0.out.lt).cell (i := 2) rfl))
    go_ret
    refine ⟨?_, hB0.out.trans (hb1.mono hB0.out.size)⟩
    rw [hO.out, hp]
    rfl
  | true =>
    by_cases hS : s = ⟨#[]⟩
    · have fS : (s.toList == []) = true := by simp [hS]
      have HS := Lib.hid hS
      clear hS
      by_cases hN0 : n = 0
      · have fN0 : (n == 0) = true := by simp [hN0]
        have HN0 := Lib.hid hN0
        clear hN0
        go_enter Tryd.func24, Tryd.ntmps24
        go_wp2_with (first
          | (go_at_call 42; refine (plain_ret hp _).mono ?_; rintro e w1 ⟨rfl, hb1⟩; have d1 := (hC0.out.below hb1 hC0.out.lt).cell (i := 1) rfl; have d2 := (hC0.out.below hb1 hC0.out.lt).cell (i := 2) rfl))
        go_ret
        refine ⟨?_, hB0.out.trans (hb1.mono hB0.out.size)⟩
        rw [hO.out, hp, decide_eq_true HS.out, decide_eq_true HN0.out]
        rfl
      · have fN0 : (n == 0) = false := by simp [hN0]
        have HN0 := Lib.hid hN0
        clear hN0
        by_cases hN1 : n = 1
        · have fN1 : (n == 1) = true := by simp [hN1]
          have HN1 := Lib.hid hN1
          clear hN1
          go_enter Tryd.func24, Tryd.ntmps24
          go_wp2_with (first
            | (go_at_call 42; refine (plain_ret hp _).mono ?_; rintro e w1 ⟨rfl, hb1⟩; have d1 := (hC0.out.below hb1 hC0.out.lt).cell (i := 1) rfl; have d2 := (hC0.out.below hb1 hC0.out.lt).cell (i := 2) rfl))
          go_ret
          refine ⟨?_, hB0.out.trans (hb1.mono hB0.out.size)⟩
          rw [hO.out, hp, decide_eq_true HS.out, decide_eq_false HN0.out, decide_eq_true HN1.out]
          rfl
        · have fN1 : (n == 1) = false := by simp [hN1]
          have HN1 := Lib.hid hN1
          clear hN1
          go_enter Tryd.func24, Tryd.ntmps24
          go_wp2_with (first
            | (go_at_call 42; refine (plain_ret hp _).mono ?_; rintro e w1 ⟨rfl, hb1⟩; have d1 := (hC0.out.below hb1 hC0.out.lt).cell (i := 1) rfl; have d2 := (hC0.out.below hb1 hC0.out.lt).cell (i := 2) rfl))
          go_ret
          refine ⟨?_, hB0.out.trans (hb1.mono hB0.out.size)⟩
          rw [hO.out, hp, decide_eq_true HS.out, decide_eq_false HN0.out, decide_eq_false HN1.out]
          rfl
    · have fS : (s.toList == []) = false := txt_nil hS
      have HS := Lib.hid hS
      clear hS
      go_enter Tryd.func24, Tryd.ntmps24
      go_wp2_with (first
        | (go_at_call 42; refine (plain_ret hp _).mono ?_; rintro e w1 ⟨rfl, hb1⟩; have d1 := (hC0.out.below hb1 hC0.out.lt).cell (i := 1) rfl; have d2 := (hC0.out.below hb1 hC0.out.lt).cell (i := 2) rfl))
      go_ret
      refine ⟨?_, hB0.out.trans (hb1.mono hB0.out.size)⟩
      rw [hO.out, hp, decide_eq_false HS.out]
      rfl

set_option maxRecDepth 100000 in
set_option maxHeartbeats 1000000 in
theorem one2_any (BD : ByteArray → Int) (hBD : ∀ (s : ByteArray) (w : World), s.size ≤ 2000 → Calls Tryd.prog 43 #[.string s] w fun e w' => e = .returned (.int .i64 (BD s)) ∧ Below w.heap.size w w') (n : Int) (s : ByteArray) (tb : Option Addr) (tc : Nat) (ts : List Int) (io : Option Addr) (ic : Nat) (is : List Va) (w : World) (h : VaIn w (.mk 2 n s tb tc ts io ic is)) (hsz : s.size ≤ 2000) :
    Calls Tryd.prog 24 #[.agg #[.int .i64 2, .int .i64 n, .string s, .slice tb ts.length tc, .slice io is.length ic]] w fun e w' => e = .returned (.bool (oneB (fun s => decide (BD s < 0)) 2 n s ts is)) ∧ Below w.heap.size w w' := by
  have hlen := (va_room h).2.2.2.2
  have htl := (va_room h).2.2.2.1
  have hB0 := Lib.hid ((Below.refl w.heap.size w).alloc (Nat.le_refl _) (.cells #[.int .i64 2, .int .i64 n, .string s, .slice tb ts.length tc, .slice io is.length ic] 25))
  have hC0 := Lib.hid (Cs.new w [.int .i64 2, .int .i64 n, .string s, .slice tb ts.length tc, .slice io is.length ic] 25)
  have H := Lib.hid h
  clear h
  have hO := Lib.hid (one_2 (fun s => decide (BD s < 0)) n s ts is)
  obtain ⟨d0, d1, d2, d3, d4⟩ : True ∧ True ∧ True ∧ True ∧ True := ⟨trivial, trivial, trivial, trivial, trivial⟩
  clear d0 d1 d2 d3 d4
  cases hp : (decide (ts.length = 0) && decide (is.length = 0)) with
  | false =>
    go_enter Tryd.func24, Tryd.ntmps24
    go_wp2_with (first
      | (go_at_call 42; refine (plain_ret hp _).mono ?_; rintro e w1 ⟨rfl, hb1⟩; have d1 := (hC0.out.below hb1 hC0.out.lt).cell (i := 1) rfl; have d2 := (hC0.out.below hb1 hC0.out.lt).cell (i := 2) rfl))
    go_ret
    refine ⟨?_, hB0.out.trans (hb1.mono hB0.out.size)⟩
    rw [hO.out, hp]
    rfl
  | true =>
    by_cases hS : s = ⟨#[]⟩
    · have fS : (s.toList == []) = true := by simp [hS]
      have HS := Lib.hid hS
      clear hS
      go_enter Tryd.func24, Tryd.ntmps24
      go_wp2_with (first
        | (go_at_call 42; refine (plain_ret hp _).mono ?_; rintro e w1 ⟨rfl, hb1⟩; have d1 := (hC0.out.below hb1 hC0.out.lt).cell (i := 1) rfl; have d2 := (hC0.out.below hb1 hC0.out.lt).cell (i := 2) rfl))
      go_ret
      refine ⟨?_, hB0.out.trans (hb1.mono hB0.out.size)⟩
      rw [hO.out, hp, decide_eq_true HS.out]
      rfl
    · have fS : (s.toList == []) = false := txt_nil hS
      have HS := Lib.hid hS
      clear hS
      go_enter Tryd.func24, Tryd.ntmps24
      go_wp2_with (first
        | (go_at_call 42; refine (plain_ret hp _).mono ?_; rintro e w1 ⟨rfl, hb1⟩; have d1 := (hC0.out.below hb1 hC0.out.lt).cell (i := 1) rfl; have d2 := (hC0.out.below hb1 hC0.out.lt).cell (i := 2) rfl))
      go_ret
      refine ⟨?_, hB0.out.trans (hb1.mono hB0.out.size)⟩
      rw [hO.out, hp, decide_eq_false HS.out]
      rfl

set_option maxRecDepth 100000 in
set_option maxHeartbeats 1000000 in
theorem one3_any (BD : ByteArray → Int) (hBD : ∀ (s : ByteArray) (w : World), s.size ≤ 2000 → Calls Tryd.prog 43 #[.string s] w fun e w' => e = .returned (.int .i64 (BD s)) ∧ Below w.heap.size w w') (n : Int) (s : ByteArray) (tb : Option Addr) (tc : Nat) (ts : List Int) (io : Option Addr) (ic : Nat) (is : List Va) (w : World) (h : VaIn w (.mk 3 n s tb tc ts io ic is)) (hsz : s.size ≤ 2000) :
    Calls Tryd.prog 24 #[.agg #[.int .i64 3, .int .i64 n, .string s, .slice tb ts.length tc, .slice io is.length ic]] w fun e w' => e = .returned (.bool (oneB (fun s => decide (BD s < 0)) 3 n s ts is)) ∧ Below w.heap.size w w' := by
  have hlen := (va_room h).2.2.2.2
  have htl := (va_room h).2.2.2.1
  have hB0 := Lib.hid ((Below.refl w.heap.size w).alloc (Nat.le_refl _) (.cells #[.int .i64 3, .int .i64 n, .string s, .slice tb ts.length tc, .slice io is.length ic] 25))
  have hC0 := Lib.hid (Cs.new w [.int .i64 3, .int .i64 n, .string s, .slice tb ts.length tc, .slice io is.length ic] 25)
  have H := Lib.hid h
  clear h
  have hO := Lib.hid (one_3 (fun s => decide (BD s < 0)) n s ts is)
  obtain ⟨d0, d1, d2, d3, d4⟩ : True ∧ True ∧ True ∧ True ∧ True := ⟨trivial, trivial, trivial, trivial, trivial⟩
  clear d0 d1 d2 d3 d4
  cases hp : (decide (ts.length = 0) && decide (is.length = 0)) with
  | false =>
    go_enter Tryd.func24, Tryd.ntmps24
    go_wp2_with (first
      | (go_at_call 42; refine (plain_ret hp _).mono ?_; rintro e w1 ⟨rfl, hb1⟩; have d1 := (hC0.out.below hb1 hC0.out.lt).cell (i := 1) rfl; have d2 := (hC0.out.below hb1 hC0.out.lt).cell (i := 2) rfl))
    go_ret
    refine ⟨?_, hB0.out.trans (hb1.mono hB0.out.size)⟩
    rw [hO.out, hp]
    rfl
  | true =>
    by_cases hS : s = ⟨#[]⟩
    · have fS : (s.toList == []) = true := by simp [hS]
      have HS := Lib.hid hS
      clear hS
      go_enter Tryd.func24, Tryd.ntmps24
      go_wp2_with (first
        | (go_at_call 42; refine (plain_ret hp _).mono ?_; rintro e w1 ⟨rfl, hb1⟩; have d1 := (hC0.out.below hb1 hC0.out.lt).cell (i := 1) rfl; have d2 := (hC0.out.below hb1 hC0.out.lt).cell (i := 2) rfl))
      go_ret
      refine ⟨?_, hB0.out.trans (hb1.mono hB0.out.size)⟩
      rw [hO.out, hp, decide_eq_true HS.out]
      rfl
    · have fS : (s.toList == []) = false := txt_nil hS
      have HS := Lib.hid hS
      clear hS
      go_enter Tryd.func24, Tryd.ntmps24
      go_wp2_with (first
        | (go_at_call 42; refine (plain_ret hp _).mono ?_; rintro e w1 ⟨rfl, hb1⟩; have d1 := (hC0.out.below hb1 hC0.out.lt).cell (i := 1) rfl; have d2 := (hC0.out.below hb1 hC0.out.lt).cell (i := 2) rfl))
      go_ret
      refine ⟨?_, hB0.out.trans (hb1.mono hB0.out.size)⟩
      rw [hO.out, hp, decide_eq_false HS.out]
      rfl

set_option maxRecDepth 100000 in
set_option maxHeartbeats 1000000 in
theorem one4_any (BD : ByteArray → Int) (hBD : ∀ (s : ByteArray) (w : World), s.size ≤ 2000 → Calls Tryd.prog 43 #[.string s] w fun e w' => e = .returned (.int .i64 (BD s)) ∧ Below w.heap.size w w') (n : Int) (s : ByteArray) (tb : Option Addr) (tc : Nat) (ts : List Int) (io : Option Addr) (ic : Nat) (is : List Va) (w : World) (h : VaIn w (.mk 4 n s tb tc ts io ic is)) (hsz : s.size ≤ 2000) :
    Calls Tryd.prog 24 #[.agg #[.int .i64 4, .int .i64 n, .string s, .slice tb ts.length tc, .slice io is.length ic]] w fun e w' => e = .returned (.bool (oneB (fun s => decide (BD s < 0)) 4 n s ts is)) ∧ Below w.heap.size w w' := by
  have hlen := (va_room h).2.2.2.2
  have htl := (va_room h).2.2.2.1
  have hB0 := Lib.hid ((Below.refl w.heap.size w).alloc (Nat.le_refl _) (.cells #[.int .i64 4, .int .i64 n, .string s, .slice tb ts.length tc, .slice io is.length ic] 25))
  have hC0 := Lib.hid (Cs.new w [.int .i64 4, .int .i64 n, .string s, .slice tb ts.length tc, .slice io is.length ic] 25)
  have H := Lib.hid h
  clear h
  have hO := Lib.hid (one_4 (fun s => decide (BD s < 0)) n s ts is)
  obtain ⟨d0, d1, d2, d3, d4⟩ : True ∧ True ∧ True ∧ True ∧ True := ⟨trivial, trivial, trivial, trivial, trivial⟩
  clear d0 d1 d2 d3 d4
  cases hp : (decide (ts.length = 0) && decide (is.length = 0)) with
  | false =>
    go_enter Tryd.func24, Tryd.ntmps24
    go_wp2_with (first
      | (go_at_call 42; refine (plain_ret hp _).mono ?_; rintro e w1 ⟨rfl, hb1⟩; have d1 := (hC0.out.below hb1 hC0.out.lt).cell (i := 1) rfl; have d2 := (hC0.out.below hb1 hC0.out.lt).cell (i := 2) rfl)
      | (go_at_call 43; refine (hBD s _ hsz).mono ?_; rintro e w2 ⟨rfl, hb2⟩))
    go_ret
    refine ⟨?_, hB0.out.trans (hb1.mono hB0.out.size)⟩
    rw [hO.out, hp]
    rfl
  | true =>
    by_cases hN0 : n = 0
    · have fN0 : (n == 0) = true := by simp [hN0]
      have HN0 := Lib.hid hN0
      clear hN0
      go_enter Tryd.func24, Tryd.ntmps24
      go_wp2_with (first
        | (go_at_call 42; refine (plain_ret hp _).mono ?_; rintro e w1 ⟨rfl, hb1⟩; have d1 := (hC0.out.below hb1 hC0.out.lt).cell (i := 1) rfl; have d2 := (hC0.out.below hb1 hC0.out.lt).cell (i := 2) rfl)
        | (go_at_call 43; refine (hBD s _ hsz).mono ?_; rintro e w2 ⟨rfl, hb2⟩))
      go_ret
      refine ⟨?_, (hB0.out.trans (hb1.mono hB0.out.size)).trans (hb2.mono (Nat.le_trans hB0.out.size hb1.size))⟩
      rw [hO.out, hp, decide_eq_true HN0.out]
      rfl
    · have fN0 : (n == 0) = false := by simp [hN0]
      have HN0 := Lib.hid hN0
      clear hN0
      go_enter Tryd.func24, Tryd.ntmps24
      go_wp2_with (first
        | (go_at_call 42; refine (plain_ret hp _).mono ?_; rintro e w1 ⟨rfl, hb1⟩; have d1 := (hC0.out.below hb1 hC0.out.lt).cell (i := 1) rfl; have d2 := (hC0.out.below hb1 hC0.out.lt).cell (i := 2) rfl)
        | (go_at_call 43; refine (hBD s _ hsz).mono ?_; rintro e w2 ⟨rfl, hb2⟩))
      go_ret
      refine ⟨?_, hB0.out.trans (hb1.mono hB0.out.size)⟩
      rw [hO.out, hp, decide_eq_false HN0.out]
      rfl

set_option maxRecDepth 100000 in
set_option maxHeartbeats 1000000 in
theorem one5_any (BD : ByteArray → Int) (hBD : ∀ (s : ByteArray) (w : World), s.size ≤ 2000 → Calls Tryd.prog 43 #[.string s] w fun e w' => e = .returned (.int .i64 (BD s)) ∧ Below w.heap.size w w') (n : Int) (s : ByteArray) (tb : Option Addr) (tc : Nat) (ts : List Int) (io : Option Addr) (ic : Nat) (is : List Va) (w : World) (h : VaIn w (.mk 5 n s tb tc ts io ic is)) (hsz : s.size ≤ 2000) :
    Calls Tryd.prog 24 #[.agg #[.int .i64 5, .int .i64 n, .string s, .slice tb ts.length tc, .slice io is.length ic]] w fun e w' => e = .returned (.bool (oneB (fun s => decide (BD s < 0)) 5 n s ts is)) ∧ Below w.heap.size w w' := by
  have hlen := (va_room h).2.2.2.2
  have htl := (va_room h).2.2.2.1
  have hB0 := Lib.hid ((Below.refl w.heap.size w).alloc (Nat.le_refl _) (.cells #[.int .i64 5, .int .i64 n, .string s, .slice tb ts.length tc, .slice io is.length ic] 25))
  have hC0 := Lib.hid (Cs.new w [.int .i64 5, .int .i64 n, .string s, .slice tb ts.length tc, .slice io is.length ic] 25)
  have H := Lib.hid h
  clear h
  have hO := Lib.hid (one_5 (fun s => decide (BD s < 0)) n s ts is)
  obtain ⟨d0, d1, d2, d3, d4⟩ : True ∧ True ∧ True ∧ True ∧ True := ⟨trivial, trivial, trivial, trivial, trivial⟩
  clear d0 d1 d2 d3 d4
  cases hp : (decide (ts.length = 0) && decide (is.length = 0)) with
  | false =>
    go_enter Tryd.func24, Tryd.ntmps24
    go_wp2_with (first
      | (go_at_call 42; refine (plain_ret hp _).mono ?_; rintro e w1 ⟨rfl, hb1⟩; have d1 := (hC0.out.below hb1 hC0.out.lt).cell (i := 1) rfl; have d2 := (hC0.out.below hb1 hC0.out.lt).cell (i := 2) rfl))
    go_ret
    refine ⟨?_, hB0.out.trans (hb1.mono hB0.out.size)⟩
    rw [hO.out, hp]
    rfl
  | true =>
    by_cases hN0 : n = 0
    · have fN0 : (n == 0) = true := by simp [hN0]
      have HN0 := Lib.hid hN0
      clear hN0
      go_enter Tryd.func24, Tryd.ntmps24
      go_wp2_with (first
        | (go_at_call 42; refine (plain_ret hp _).mono ?_; rintro e w1 ⟨rfl, hb1⟩; have d1 := (hC0.out.below hb1 hC0.out.lt).cell (i := 1) rfl; have d2 := (hC0.out.below hb1 hC0.out.lt).cell (i := 2) rfl))
      go_ret
      refine ⟨?_, hB0.out.trans (hb1.mono hB0.out.size)⟩
      rw [hO.out, hp, decide_eq_true HN0.out]
      rfl
    · have fN0 : (n == 0) = false := by simp [hN0]
      have HN0 := Lib.hid hN0
      clear hN0
      go_enter Tryd.func24, Tryd.ntmps24
      go_wp2_with (first
        | (go_at_call 42; refine (plain_ret hp _).mono ?_; rintro e w1 ⟨rfl, hb1⟩; have d1 := (hC0.out.below hb1 hC0.out.lt).cell (i := 1) rfl; have d2 := (hC0.out.below hb1 hC0.out.lt).cell (i := 2) rfl))
      go_ret
      refine ⟨?_, hB0.out.trans (hb1.mono hB0.out.size)⟩
      rw [hO.out, hp, decide_eq_false HN0.out]
      rfl

set_option maxRecDepth 100000 in
set_option maxHeartbeats 1000000 in
theorem one6_any (BD : ByteArray → Int) (hBD : ∀ (s : ByteArray) (w : World), s.size ≤ 2000 → Calls Tryd.prog 43 #[.string s] w fun e w' => e = .returned (.int .i64 (BD s)) ∧ Below w.heap.size w w') (n : Int) (s : ByteArray) (tb : Option Addr) (tc : Nat) (ts : List Int) (io : Option Addr) (ic : Nat) (is : List Va) (w : World) (h : VaIn w (.mk 6 n s tb tc ts io ic is)) (hsz : s.size ≤ 2000) :
    Calls Tryd.prog 24 #[.agg #[.int .i64 6, .int .i64 n, .string s, .slice tb ts.length tc, .slice io is.length ic]] w fun e w' => e = .returned (.bool (oneB (fun s => decide (BD s < 0)) 6 n s ts is)) ∧ Below w.heap.size w w' := by
  have hlen := (va_room h).2.2.2.2
  have htl := (va_room h).2.2.2.1
  have hB0 := Lib.hid ((Below.refl w.heap.size w).alloc (Nat.le_refl _) (.cells #[.int .i64 6, .int .i64 n, .string s, .slice tb ts.length tc, .slice io is.length ic] 25))
  have hC0 := Lib.hid (Cs.new w [.int .i64 6, .int .i64 n, .string s, .slice tb ts.length tc, .slice io is.length ic] 25)
  have H := Lib.hid h
  clear h
  have hO := Lib.hid (one_6 (fun s => decide (BD s < 0)) n s ts is)
  obtain ⟨d0, d1, d2, d3, d4⟩ : True ∧ True ∧ True ∧ True ∧ True := ⟨trivial, trivial, trivial, trivial, trivial⟩
  clear d0 d1 d2 d3 d4
  cases hp : (decide (ts.length = 0) && decide (is.length = 0)) with
  | false =>
    go_enter Tryd.func24, Tryd.ntmps24
    go_wp2_with (first
      | (go_at_call 42; refine (plain_ret hp _).mono ?_; rintro e w1 ⟨rfl, hb1⟩; have d1 := (hC0.out.below hb1 hC0.out.lt).cell (i := 1) rfl; have d2 := (hC0.out.below hb1 hC0.out.lt).cell (i := 2) rfl))
    go_ret
    refine ⟨?_, hB0.out.trans (hb1.mono hB0.out.size)⟩
    rw [hO.out, hp]
    rfl
  | true =>
    by_cases hS : s = ⟨#[]⟩
    · have fS : (s.toList == []) = true := by simp [hS]
      have HS := Lib.hid hS
      clear hS
      by_cases hge : 0 ≤ n
      · have fge : (0 : Int) ≤ n := hge
        have Hge := Lib.hid hge
        clear hge
        by_cases hle : n ≤ 9999
        · have fle : n ≤ (9999 : Int) := hle
          have Hle := Lib.hid hle
          clear hle
          go_enter Tryd.func24, Tryd.ntmps24
          go_wp2_with (first
            | (go_at_call 42; refine (plain_ret hp _).mono ?_; rintro e w1 ⟨rfl, hb1⟩; have d1 := (hC0.out.below hb1 hC0.out.lt).cell (i := 1) rfl; have d2 := (hC0.out.below hb1 hC0.out.lt).cell (i := 2) rfl))
          go_ret
          refine ⟨?_, hB0.out.trans (hb1.mono hB0.out.size)⟩
          rw [hO.out, hp, decide_eq_true HS.out, decide_eq_true Hge.out, decide_eq_true Hle.out]
          rfl
        · have fle : ¬ n ≤ (9999 : Int) := hle
          have Hle := Lib.hid hle
          clear hle
          go_enter Tryd.func24, Tryd.ntmps24
          go_wp2_with (first
            | (go_at_call 42; refine (plain_ret hp _).mono ?_; rintro e w1 ⟨rfl, hb1⟩; have d1 := (hC0.out.below hb1 hC0.out.lt).cell (i := 1) rfl; have d2 := (hC0.out.below hb1 hC0.out.lt).cell (i := 2) rfl))
          go_ret
          refine ⟨?_, hB0.out.trans (hb1.mono hB0.out.size)⟩
          rw [hO.out, hp, decide_eq_true HS.out, decide_eq_true Hge.out, decide_eq_false (by have := Hle.out; omega : ¬ n ≤ 9999)]
          rfl
      · have fge : ¬ (0 : Int) ≤ n := hge
        have Hge := Lib.hid hge
        clear hge
        go_enter Tryd.func24, Tryd.ntmps24
        go_wp2_with (first
          | (go_at_call 42; refine (plain_ret hp _).mono ?_; rintro e w1 ⟨rfl, hb1⟩; have d1 := (hC0.out.below hb1 hC0.out.lt).cell (i := 1) rfl; have d2 := (hC0.out.below hb1 hC0.out.lt).cell (i := 2) rfl))
        go_ret
        refine ⟨?_, hB0.out.trans (hb1.mono hB0.out.size)⟩
        rw [hO.out, hp, decide_eq_true HS.out, decide_eq_false (by have := Hge.out; omega : ¬ 0 ≤ n)]
        rfl
    · have fS : (s.toList == []) = false := txt_nil hS
      have HS := Lib.hid hS
      clear hS
      go_enter Tryd.func24, Tryd.ntmps24
      go_wp2_with (first
        | (go_at_call 42; refine (plain_ret hp _).mono ?_; rintro e w1 ⟨rfl, hb1⟩; have d1 := (hC0.out.below hb1 hC0.out.lt).cell (i := 1) rfl; have d2 := (hC0.out.below hb1 hC0.out.lt).cell (i := 2) rfl))
      go_ret
      refine ⟨?_, hB0.out.trans (hb1.mono hB0.out.size)⟩
      rw [hO.out, hp, decide_eq_false HS.out]
      rfl

set_option maxRecDepth 100000 in
set_option maxHeartbeats 1000000 in
theorem one7_any (BD : ByteArray → Int) (hBD : ∀ (s : ByteArray) (w : World), s.size ≤ 2000 → Calls Tryd.prog 43 #[.string s] w fun e w' => e = .returned (.int .i64 (BD s)) ∧ Below w.heap.size w w') (n : Int) (s : ByteArray) (tb : Option Addr) (tc : Nat) (ts : List Int) (io : Option Addr) (ic : Nat) (is : List Va) (w : World) (h : VaIn w (.mk 7 n s tb tc ts io ic is)) (hsz : s.size ≤ 2000) :
    Calls Tryd.prog 24 #[.agg #[.int .i64 7, .int .i64 n, .string s, .slice tb ts.length tc, .slice io is.length ic]] w fun e w' => e = .returned (.bool (oneB (fun s => decide (BD s < 0)) 7 n s ts is)) ∧ Below w.heap.size w w' := by
  have hlen := (va_room h).2.2.2.2
  have htl := (va_room h).2.2.2.1
  have hB0 := Lib.hid ((Below.refl w.heap.size w).alloc (Nat.le_refl _) (.cells #[.int .i64 7, .int .i64 n, .string s, .slice tb ts.length tc, .slice io is.length ic] 25))
  have hC0 := Lib.hid (Cs.new w [.int .i64 7, .int .i64 n, .string s, .slice tb ts.length tc, .slice io is.length ic] 25)
  have H := Lib.hid h
  clear h
  have hO := Lib.hid (one_7 (fun s => decide (BD s < 0)) n s ts is)
  obtain ⟨d0, d1, d2, d3, d4⟩ : True ∧ True ∧ True ∧ True ∧ True := ⟨trivial, trivial, trivial, trivial, trivial⟩
  clear d0 d1 d2 d3 d4
  by_cases hN0 : n = 0
  · have fN0 : (n == 0) = true := by simp [hN0]
    have HN0 := Lib.hid hN0
    clear hN0
    by_cases hS : s = ⟨#[]⟩
    · have fS : (s.toList == []) = true := by simp [hS]
      have HS := Lib.hid hS
      clear hS
      by_cases hT0 : ts.length = 0
      · have fT0 : ((ts.length : Int) == 0) = true := by rw [hT0]; rfl
        have HT0 := Lib.hid hT0
        clear hT0
        go_enter Tryd.func24, Tryd.ntmps24
        go_wp2
        go_ret
        refine ⟨?_, hB0.out⟩
        rw [hO.out, decide_eq_true HN0.out, decide_eq_true HS.out, decide_eq_true HT0.out]
        rfl
      · have fT0 : ((ts.length : Int) == 0) = false := beq_eq_false_iff_ne.2 (by omega)
        have HT0 := Lib.hid hT0
        clear hT0
        go_enter Tryd.func24, Tryd.ntmps24
        go_wp2
        go_ret
        refine ⟨?_, hB0.out⟩
        rw [hO.out, decide_eq_true HN0.out, decide_eq_true HS.out, decide_eq_false HT0.out]
        rfl
    · have fS : (s.toList == []) = false := txt_nil hS
      have HS := Lib.hid hS
      clear hS
      go_enter Tryd.func24, Tryd.ntmps24
      go_wp2
      go_ret
      refine ⟨?_, hB0.out⟩
      rw [hO.out, decide_eq_true HN0.out, decide_eq_false HS.out]
      rfl
  · have fN0 : (n == 0) = false := by simp [hN0]
    have HN0 := Lib.hid hN0
    clear hN0
    go_enter Tryd.func24, Tryd.ntmps24
    go_wp2
    go_ret
    refine ⟨?_, hB0.out⟩
    rw [hO.out, decide_eq_false HN0.out]
    rfl

set_option maxRecDepth 100000 in
set_option maxHeartbeats 1000000 in
theorem one8_any (BD : ByteArray → Int) (hBD : ∀ (s : ByteArray) (w : World), s.size ≤ 2000 → Calls Tryd.prog 43 #[.string s] w fun e w' => e = .returned (.int .i64 (BD s)) ∧ Below w.heap.size w w') (n : Int) (s : ByteArray) (tb : Option Addr) (tc : Nat) (ts : List Int) (io : Option Addr) (ic : Nat) (is : List Va) (w : World) (h : VaIn w (.mk 8 n s tb tc ts io ic is)) (hsz : s.size ≤ 2000) :
    Calls Tryd.prog 24 #[.agg #[.int .i64 8, .int .i64 n, .string s, .slice tb ts.length tc, .slice io is.length ic]] w fun e w' => e = .returned (.bool (oneB (fun s => decide (BD s < 0)) 8 n s ts is)) ∧ Below w.heap.size w w' := by
  have hlen := (va_room h).2.2.2.2
  have htl := (va_room h).2.2.2.1
  have hB0 := Lib.hid ((Below.refl w.heap.size w).alloc (Nat.le_refl _) (.cells #[.int .i64 8, .int .i64 n, .string s, .slice tb ts.length tc, .slice io is.length ic] 25))
  have hC0 := Lib.hid (Cs.new w [.int .i64 8, .int .i64 n, .string s, .slice tb ts.length tc, .slice io is.length ic] 25)
  have H := Lib.hid h
  clear h
  have hO := Lib.hid (one_8 (fun s => decide (BD s < 0)) n s ts is)
  obtain ⟨d0, d1, d2, d3, d4⟩ : True ∧ True ∧ True ∧ True ∧ True := ⟨trivial, trivial, trivial, trivial, trivial⟩
  clear d0 d1 d2 d3 d4
  by_cases hN0 : n = 0
  · have fN0 : (n == 0) = true := by simp [hN0]
    have HN0 := Lib.hid hN0
    clear hN0
    by_cases hS : s = ⟨#[]⟩
    · have fS : (s.toList == []) = true := by simp [hS]
      have HS := Lib.hid hS
      clear hS
      by_cases hT0 : ts.length = 0
      · have fT0 : ((ts.length : Int) == 0) = true := by rw [hT0]; rfl
        have HT0 := Lib.hid hT0
        clear hT0
        go_enter Tryd.func24, Tryd.ntmps24
        go_wp2_with (first
          | (go_at_call 44; refine (keys_any 8 n s tb tc ts io ic is _ (va_below H.out hB0.out (Nat.le_refl _))).mono ?_; rintro e w2 ⟨rfl, hb2⟩))
        go_ret
        refine ⟨?_, hB0.out.trans (hb2.mono hB0.out.size)⟩
        rw [hO.out, decide_eq_true HN0.out, decide_eq_true HS.out, decide_eq_true HT0.out]
        rfl
      · have fT0 : ((ts.length : Int) == 0) = false := beq_eq_false_iff_ne.2 (by omega)
        have HT0 := Lib.hid hT0
        clear hT0
        go_enter Tryd.func24, Tryd.ntmps24
        go_wp2_with (first
          | (go_at_call 44; refine (keys_any 8 n s tb tc ts io ic is _ (va_below H.out hB0.out (Nat.le_refl _))).mono ?_; rintro e w2 ⟨rfl, hb2⟩))
        go_ret
        refine ⟨?_, hB0.out⟩
        rw [hO.out, decide_eq_true HN0.out, decide_eq_true HS.out, decide_eq_false HT0.out]
        rfl
    · have fS : (s.toList == []) = false := txt_nil hS
      have HS := Lib.hid hS
      clear hS
      go_enter Tryd.func24, Tryd.ntmps24
      go_wp2_with (first
        | (go_at_call 44; refine (keys_any 8 n s tb tc ts io ic is _ (va_below H.out hB0.out (Nat.le_refl _))).mono ?_; rintro e w2 ⟨rfl, hb2⟩))
      go_ret
      refine ⟨?_, hB0.out⟩
      rw [hO.out, decide_eq_true HN0.out, decide_eq_false HS.out]
      rfl
  · have fN0 : (n == 0) = false := by simp [hN0]
    have HN0 := Lib.hid hN0
    clear hN0
    go_enter Tryd.func24, Tryd.ntmps24
    go_wp2_with (first
      | (go_at_call 44; refine (keys_any 8 n s tb tc ts io ic is _ (va_below H.out hB0.out (Nat.le_refl _))).mono ?_; rintro e w2 ⟨rfl, hb2⟩))
    go_ret
    refine ⟨?_, hB0.out⟩
    rw [hO.out, decide_eq_false HN0.out]
    rfl

set_option maxRecDepth 100000 in
set_option maxHeartbeats 1000000 in
theorem one9_any (BD : ByteArray → Int) (hBD : ∀ (s : ByteArray) (w : World), s.size ≤ 2000 → Calls Tryd.prog 43 #[.string s] w fun e w' => e = .returned (.int .i64 (BD s)) ∧ Below w.heap.size w w') (n : Int) (s : ByteArray) (tb : Option Addr) (tc : Nat) (ts : List Int) (io : Option Addr) (ic : Nat) (is : List Va) (w : World) (h : VaIn w (.mk 9 n s tb tc ts io ic is)) (hsz : s.size ≤ 2000) :
    Calls Tryd.prog 24 #[.agg #[.int .i64 9, .int .i64 n, .string s, .slice tb ts.length tc, .slice io is.length ic]] w fun e w' => e = .returned (.bool (oneB (fun s => decide (BD s < 0)) 9 n s ts is)) ∧ Below w.heap.size w w' := by
  have hlen := (va_room h).2.2.2.2
  have htl := (va_room h).2.2.2.1
  have hB0 := Lib.hid ((Below.refl w.heap.size w).alloc (Nat.le_refl _) (.cells #[.int .i64 9, .int .i64 n, .string s, .slice tb ts.length tc, .slice io is.length ic] 25))
  have hC0 := Lib.hid (Cs.new w [.int .i64 9, .int .i64 n, .string s, .slice tb ts.length tc, .slice io is.length ic] 25)
  have H := Lib.hid h
  clear h
  have hO := Lib.hid (one_9 (fun s => decide (BD s < 0)) n s ts is)
  obtain ⟨d0, d1, d2, d3, d4⟩ : True ∧ True ∧ True ∧ True ∧ True := ⟨trivial, trivial, trivial, trivial, trivial⟩
  clear d0 d1 d2 d3 d4
  by_cases hN0 : n = 0
  · have fN0 : (n == 0) = true := by simp [hN0]
    have HN0 := Lib.hid hN0
    clear hN0
    by_cases hS : s = ⟨#[]⟩
    · have fS : (s.toList == []) = true := by simp [hS]
      have HS := Lib.hid hS
      clear hS
      by_cases hTI : ts.length = is.length
      · have fTI : ((ts.length : Int) == (is.length : Int)) = true := by rw [hTI]; simp
        have HTI := Lib.hid hTI
        clear hTI
        go_enter Tryd.func24, Tryd.ntmps24
        go_wp2_with (first
          | (go_at_call 45; refine (tags_any tb ts tc _ ((va_tags H.out).below hB0.out (Nat.le_refl _)) htl).mono ?_; rintro e w2 ⟨rfl, hb2⟩))
        go_ret
        refine ⟨?_, hB0.out.trans (hb2.mono hB0.out.size)⟩
        rw [hO.out, decide_eq_true HN0.out, decide_eq_true HS.out, decide_eq_true HTI.out]
        rfl
      · have fTI : ((ts.length : Int) == (is.length : Int)) = false := beq_eq_false_iff_ne.2 (by omega)
        have HTI := Lib.hid hTI
        clear hTI
        go_enter Tryd.func24, Tryd.ntmps24
        go_wp2_with (first
          | (go_at_call 45; refine (tags_any tb ts tc _ ((va_tags H.out).below hB0.out (Nat.le_refl _)) htl).mono ?_; rintro e w2 ⟨rfl, hb2⟩))
        go_ret
        refine ⟨?_, hB0.out⟩
        rw [hO.out, decide_eq_true HN0.out, decide_eq_true HS.out, decide_eq_false HTI.out]
        rfl
    · have fS : (s.toList == []) = false := txt_nil hS
      have HS := Lib.hid hS
      clear hS
      go_enter Tryd.func24, Tryd.ntmps24
      go_wp2_with (first
        | (go_at_call 45; refine (tags_any tb ts tc _ ((va_tags H.out).below hB0.out (Nat.le_refl _)) htl).mono ?_; rintro e w2 ⟨rfl, hb2⟩))
      go_ret
      refine ⟨?_, hB0.out⟩
      rw [hO.out, decide_eq_true HN0.out, decide_eq_false HS.out]
      rfl
  · have fN0 : (n == 0) = false := by simp [hN0]
    have HN0 := Lib.hid hN0
    clear hN0
    go_enter Tryd.func24, Tryd.ntmps24
    go_wp2_with (first
      | (go_at_call 45; refine (tags_any tb ts tc _ ((va_tags H.out).below hB0.out (Nat.le_refl _)) htl).mono ?_; rintro e w2 ⟨rfl, hb2⟩))
    go_ret
    refine ⟨?_, hB0.out⟩
    rw [hO.out, decide_eq_false HN0.out]
    rfl

set_option maxRecDepth 100000 in
set_option maxHeartbeats 1000000 in
theorem one10_any (BD : ByteArray → Int) (hBD : ∀ (s : ByteArray) (w : World), s.size ≤ 2000 → Calls Tryd.prog 43 #[.string s] w fun e w' => e = .returned (.int .i64 (BD s)) ∧ Below w.heap.size w w') (n : Int) (s : ByteArray) (tb : Option Addr) (tc : Nat) (ts : List Int) (io : Option Addr) (ic : Nat) (is : List Va) (w : World) (h : VaIn w (.mk 10 n s tb tc ts io ic is)) (hsz : s.size ≤ 2000) :
    Calls Tryd.prog 24 #[.agg #[.int .i64 10, .int .i64 n, .string s, .slice tb ts.length tc, .slice io is.length ic]] w fun e w' => e = .returned (.bool (oneB (fun s => decide (BD s < 0)) 10 n s ts is)) ∧ Below w.heap.size w w' := by
  have hlen := (va_room h).2.2.2.2
  have htl := (va_room h).2.2.2.1
  have hB0 := Lib.hid ((Below.refl w.heap.size w).alloc (Nat.le_refl _) (.cells #[.int .i64 10, .int .i64 n, .string s, .slice tb ts.length tc, .slice io is.length ic] 25))
  have hC0 := Lib.hid (Cs.new w [.int .i64 10, .int .i64 n, .string s, .slice tb ts.length tc, .slice io is.length ic] 25)
  have H := Lib.hid h
  clear h
  have hO := Lib.hid (one_10 (fun s => decide (BD s < 0)) n s ts is)
  obtain ⟨d0, d1, d2, d3, d4⟩ : True ∧ True ∧ True ∧ True ∧ True := ⟨trivial, trivial, trivial, trivial, trivial⟩
  clear d0 d1 d2 d3 d4
  by_cases hN0 : n = 0
  · have fN0 : (n == 0) = true := by simp [hN0]
    have HN0 := Lib.hid hN0
    clear hN0
    by_cases hS : s = ⟨#[]⟩
    · have fS : (s.toList == []) = true := by simp [hS]
      have HS := Lib.hid hS
      clear hS
      by_cases hT1 : ts.length = 1
      · have fT1 : ((ts.length : Int) == 1) = true := by rw [hT1]; rfl
        have HT1 := Lib.hid hT1
        clear hT1
        by_cases hI1 : is.length = 1
        · have fI1 : ((is.length : Int) == 1) = true := by rw [hI1]; rfl
          have HI1 := Lib.hid hI1
          clear hI1
          go_enter Tryd.func24, Tryd.ntmps24
          go_wp2_with (first
            | (go_at_call 45; refine (tags_any tb ts tc _ ((va_tags H.out).below hB0.out (Nat.le_refl _)) htl).mono ?_; rintro e w2 ⟨rfl, hb2⟩))
          go_ret
          refine ⟨?_, hB0.out.trans (hb2.mono hB0.out.size)⟩
          rw [hO.out, decide_eq_true HN0.out, decide_eq_true HS.out, decide_eq_true HT1.out, decide_eq_true HI1.out]
          rfl
        · have fI1 : ((is.length : Int) == 1) = false := beq_eq_false_iff_ne.2 (by omega)
          have HI1 := Lib.hid hI1
          clear hI1
          go_enter Tryd.func24, Tryd.ntmps24
          go_wp2_with (first
            | (go_at_call 45; refine (tags_any tb ts tc _ ((va_tags H.out).below hB0.out (Nat.le_refl _)) htl).mono ?_; rintro e w2 ⟨rfl, hb2⟩))
          go_ret
          refine ⟨?_, hB0.out⟩
          rw [hO.out, decide_eq_true HN0.out, decide_eq_true HS.out, decide_eq_true HT1.out, decide_eq_false HI1.out]
          rfl
      · have fT1 : ((ts.length : Int) == 1) = false := beq_eq_false_iff_ne.2 (by omega)
        have HT1 := Lib.hid hT1
        clear hT1
        go_enter Tryd.func24, Tryd.ntmps24
        go_wp2_with (first
          | (go_at_call 45; refine (tags_any tb ts tc _ ((va_tags H.out).below hB0.out (Nat.le_refl _)) htl).mono ?_; rintro e w2 ⟨rfl, hb2⟩))
        go_ret
        refine ⟨?_, hB0.out⟩
        rw [hO.out, decide_eq_true HN0.out, decide_eq_true HS.out, decide_eq_false HT1.out]
        rfl
    · have fS : (s.toList == []) = false := txt_nil hS
      have HS := Lib.hid hS
      clear hS
      go_enter Tryd.func24, Tryd.ntmps24
      go_wp2_with (first
        | (go_at_call 45; refine (tags_any tb ts tc _ ((va_tags H.out).below hB0.out (Nat.le_refl _)) htl).mono ?_; rintro e w2 ⟨rfl, hb2⟩))
      go_ret
      refine ⟨?_, hB0.out⟩
      rw [hO.out, decide_eq_true HN0.out, decide_eq_false HS.out]
      rfl
  · have fN0 : (n == 0) = false := by simp [hN0]
    have HN0 := Lib.hid hN0
    clear hN0
    go_enter Tryd.func24, Tryd.ntmps24
    go_wp2_with (first
      | (go_at_call 45; refine (tags_any tb ts tc _ ((va_tags H.out).below hB0.out (Nat.le_refl _)) htl).mono ?_; rintro e w2 ⟨rfl, hb2⟩))
    go_ret
    refine ⟨?_, hB0.out⟩
    rw [hO.out, decide_eq_false HN0.out]
    rfl

end Go.Proofs.YthgaipdhgckmdaaDoor.Va
