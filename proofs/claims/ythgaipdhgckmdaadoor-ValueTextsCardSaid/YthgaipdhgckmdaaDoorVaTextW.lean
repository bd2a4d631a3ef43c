/- Values: the contract of the reference's Text. (Printed by gen/text.py.) -/
import Derived.Test.YthgaipdhgckmdaaDoorVaItems
namespace Go.Proofs.YthgaipdhgckmdaaDoor.Va
open Go.RowKit Cm
set_option linter.unusedVariables false
set_option linter.unusedSimpArgs false

theorem u64_un (n : Int) : IntKind.u64.wrap n = ((unN n : Nat) : Int) := by
  unfold unN
  rw [IntKind.wrap_u64]
  omega

set_option maxRecDepth 100000 in
set_option maxHeartbeats 1000000 in
theorem text1a_any (n : Int) (s : ByteArray) (tb : Option Addr) (tc : Nat) (ts : List Int) (io : Option Addr) (ic : Nat) (is : List Va) (w : World) (h0 : n = 0) (hv : VaIn w (.mk 1 n s tb tc ts io ic is)) (hnc : Nc (.mk 1 n s tb tc ts io ic is)) :
    Calls Tryd.prog 16 #[.agg #[.int .i64 1, .int .i64 n, .string s, .slice tb ts.length tc, .slice io is.length ic]] w fun e w' => e = .returned (.string ⟨(txV (.mk 1 n s tb tc ts io ic is)).toArray⟩) ∧ Below w.heap.size w w' := by
  have hB0 := Lib.hid ((Below.refl w.heap.size w).alloc (Nat.le_refl _) (.cells #[.int .i64 1, .int .i64 n, .string s, .slice tb ts.length tc, .slice io is.length ic] 25))
  have hC0 := Lib.hid (Cs.new w [.int .i64 1, .int .i64 n, .string s, .slice tb ts.length tc, .slice io is.length ic] 25)
  obtain ⟨hkb, hnb, hsb, htl, hil⟩ := va_room hv
  have hss := hnc.room.2.2
  have hX := Lib.hid (txV_eq 1 n s tb tc ts io ic is)
  have hV := Lib.hid hv
  have hNC := Lib.hid hnc
  clear hv hnc
  have f0 : (n == 0) = true := by rw [h0]; rfl
  have H0 := Lib.hid h0
  clear h0
  go_enter Tryd.func16, Tryd.ntmps16
  go_wp2
  go_ret
  refine ⟨str_of ?_, hB0.out⟩
  rw [hX.out, if_pos (by decide), if_pos H0.out]

set_option maxRecDepth 100000 in
set_option maxHeartbeats 1000000 in
theorem text1b_any (n : Int) (s : ByteArray) (tb : Option Addr) (tc : Nat) (ts : List Int) (io : Option Addr) (ic : Nat) (is : List Va) (w : World) (h0 : ¬ n = 0) (hv : VaIn w (.mk 1 n s tb tc ts io ic is)) (hnc : Nc (.mk 1 n s tb tc ts io ic is)) :
    Calls Tryd.prog 16 #[.agg #[.int .i64 1, .int .i64 n, .string s, .slice tb ts.length tc, .slice io is.length ic]] w fun e w' => e = .returned (.string ⟨(txV (.mk 1 n s tb tc ts io ic is)).toArray⟩) ∧ Below w.heap.size w w' := by
  have hB0 := Lib.hid ((Below.refl w.heap.size w).alloc (Nat.le_refl _) (.cells #[.int .i64 1, .int .i64 n, .string s, .slice tb ts.length tc, .slice io is.length ic] 25))
  have hC0 := Lib.hid (Cs.new w [.int .i64 1, .int .i64 n, .string s, .slice tb ts.length tc, .slice io is.length ic] 25)
  obtain ⟨hkb, hnb, hsb, htl, hil⟩ := va_room hv
  have hss := hnc.room.2.2
  have hX := Lib.hid (txV_eq 1 n s tb tc ts io ic is)
  have hV := Lib.hid hv
  have hNC := Lib.hid hnc
  clear hv hnc
  have f0 : (n == 0) = false := beq_eq_false_iff_ne.2 h0
  have H0 := Lib.hid h0
  clear h0
  go_enter Tryd.func16, Tryd.ntmps16
  go_wp2
  go_ret
  refine ⟨str_of ?_, hB0.out⟩
  rw [hX.out, if_pos (by decide), if_neg H0.out]

set_option maxRecDepth 100000 in
set_option maxHeartbeats 1000000 in
theorem text2_any (n : Int) (s : ByteArray) (tb : Option Addr) (tc : Nat) (ts : List Int) (io : Option Addr) (ic : Nat) (is : List Va) (w : World) (hv : VaIn w (.mk 2 n s tb tc ts io ic is)) (hnc : Nc (.mk 2 n s tb tc ts io ic is)) :
    Calls Tryd.prog 16 #[.agg #[.int .i64 2, .int .i64 n, .string s, .slice tb ts.length tc, .slice io is.length ic]] w fun e w' => e = .returned (.string ⟨(txV (.mk 2 n s tb tc ts io ic is)).toArray⟩) ∧ Below w.heap.size w w' := by
  have hB0 := Lib.hid ((Below.refl w.heap.size w).alloc (Nat.le_refl _) (.cells #[.int .i64 2, .int .i64 n, .string s, .slice tb ts.length tc, .slice io is.length ic] 25))
  have hC0 := Lib.hid (Cs.new w [.int .i64 2, .int .i64 n, .string s, .slice tb ts.length tc, .slice io is.length ic] 25)
  obtain ⟨hkb, hnb, hsb, htl, hil⟩ := va_room hv
  have hss := hnc.room.2.2
  have hX := Lib.hid (txV_eq 2 n s tb tc ts io ic is)
  have hV := Lib.hid hv
  have hNC := Lib.hid hnc
  clear hv hnc
  go_enter Tryd.func16, Tryd.ntmps16
  go_wp2_with (go_at_call 28; refine (signed_any n _ hnb).mono ?_; rintro e w1 ⟨rfl, hb1⟩)
  go_ret
  refine ⟨str_of ?_, hB0.out.trans (hb1.mono hB0.out.size)⟩
  rw [hX.out, if_neg (by decide), if_pos (by decide)]

set_option maxRecDepth 100000 in
set_option maxHeartbeats 1000000 in
theorem text6_any (n : Int) (s : ByteArray) (tb : Option Addr) (tc : Nat) (ts : List Int) (io : Option Addr) (ic : Nat) (is : List Va) (w : World) (hv : VaIn w (.mk 6 n s tb tc ts io ic is)) (hnc : Nc (.mk 6 n s tb tc ts io ic is)) :
    Calls Tryd.prog 16 #[.agg #[.int .i64 6, .int .i64 n, .string s, .slice tb ts.length tc, .slice io is.length ic]] w fun e w' => e = .returned (.string ⟨(txV (.mk 6 n s tb tc ts io ic is)).toArray⟩) ∧ Below w.heap.size w w' := by
  have hB0 := Lib.hid ((Below.refl w.heap.size w).alloc (Nat.le_refl _) (.cells #[.int .i64 6, .int .i64 n, .string s, .slice tb ts.length tc, .slice io is.length ic] 25))
  have hC0 := Lib.hid (Cs.new w [.int .i64 6, .int .i64 n, .string s, .slice tb ts.length tc, .slice io is.length ic] 25)
  obtain ⟨hkb, hnb, hsb, htl, hil⟩ := va_room hv
  have hss := hnc.room.2.2
  have hX := Lib.hid (txV_eq 6 n s tb tc ts io ic is)
  have hV := Lib.hid hv
  have hNC := Lib.hid hnc
  clear hv hnc
  go_enter Tryd.func16, Tryd.ntmps16
  go_wp2_with (go_at_call 28; refine (signed_any n _ hnb).mono ?_; rintro e w1 ⟨rfl, hb1⟩)
  go_ret
  refine ⟨str_of ?_, hB0.out.trans (hb1.mono hB0.out.size)⟩
  rw [hX.out, if_neg (by decide), if_pos (by decide)]

set_option maxRecDepth 100000 in
set_option maxHeartbeats 1000000 in
theorem text3_any (n : Int) (s : ByteArray) (tb : Option Addr) (tc : Nat) (ts : List Int) (io : Option Addr) (ic : Nat) (is : List Va) (w : World) (hv : VaIn w (.mk 3 n s tb tc ts io ic is)) (hnc : Nc (.mk 3 n s tb tc ts io ic is)) :
    Calls Tryd.prog 16 #[.agg #[.int .i64 3, .int .i64 n, .string s, .slice tb ts.length tc, .slice io is.length ic]] w fun e w' => e = .returned (.string ⟨(txV (.mk 3 n s tb tc ts io ic is)).toArray⟩) ∧ Below w.heap.size w w' := by
  have hB0 := Lib.hid ((Below.refl w.heap.size w).alloc (Nat.le_refl _) (.cells #[.int .i64 3, .int .i64 n, .string s, .slice tb ts.length tc, .slice io is.length ic] 25))
  have hC0 := Lib.hid (Cs.new w [.int .i64 3, .int .i64 n, .string s, .slice tb ts.length tc, .slice io is.length ic] 25)
  obtain ⟨hkb, hnb, hsb, htl, hil⟩ := va_room hv
  have hss := hnc.room.2.2
  have hX := Lib.hid (txV_eq 3 n s tb tc ts io ic is)
  have hV := Lib.hid hv
  have hNC := Lib.hid hnc
  clear hv hnc
  go_enter Tryd.func16, Tryd.ntmps16
  go_wp2_with (go_at_call 29; refine (digits_int (unN n) _ _ (u64_un n) (by unfold unN; omega)).mono ?_; rintro e w1 ⟨rfl, hb1⟩)
  go_ret
  refine ⟨str_of ?_, hB0.out.trans (hb1.mono hB0.out.size)⟩
  rw [hX.out, if_neg (by decide), if_neg (by decide), if_pos (by decide)]

set_option maxRecDepth 100000 in
set_option maxHeartbeats 1000000 in
theorem text4_any (n : Int) (s : ByteArray) (tb : Option Addr) (tc : Nat) (ts : List Int) (io : Option Addr) (ic : Nat) (is : List Va) (w : World) (hv : VaIn w (.mk 4 n s tb tc ts io ic is)) (hnc : Nc (.mk 4 n s tb tc ts io ic is)) :
    Calls Tryd.prog 16 #[.agg #[.int .i64 4, .int .i64 n, .string s, .slice tb ts.length tc, .slice io is.length ic]] w fun e w' => e = .returned (.string ⟨(txV (.mk 4 n s tb tc ts io ic is)).toArray⟩) ∧ Below w.heap.size w w' := by
  have hB0 := Lib.hid ((Below.refl w.heap.size w).alloc (Nat.le_refl _) (.cells #[.int .i64 4, .int .i64 n, .string s, .slice tb ts.length tc, .slice io is.length ic] 25))
  have hC0 := Lib.hid (Cs.new w [.int .i64 4, .int .i64 n, .string s, .slice tb ts.length tc, .slice io is.length ic] 25)
  obtain ⟨hkb, hnb, hsb, htl, hil⟩ := va_room hv
  have hss := hnc.room.2.2
  have hX := Lib.hid (txV_eq 4 n s tb tc ts io ic is)
  have hV := Lib.hid hv
  have hNC := Lib.hid hnc
  clear hv hnc
  go_enter Tryd.func16, Tryd.ntmps16
  go_wp2_with (go_at_call 30; refine (quoted_any s _ hss).mono ?_; rintro e w1 ⟨rfl, hb1⟩)
  go_ret
  refine ⟨str_of ?_, hB0.out.trans (hb1.mono hB0.out.size)⟩
  rw [hX.out, if_neg (by decide), if_neg (by decide), if_neg (by decide), if_pos (by decide)]

set_option maxRecDepth 100000 in
set_option maxHeartbeats 1000000 in
theorem text5_any (n : Int) (s : ByteArray) (tb : Option Addr) (tc : Nat) (ts : List Int) (io : Option Addr) (ic : Nat) (is : List Va) (w : World) (hv : VaIn w (.mk 5 n s tb tc ts io ic is)) (hnc : Nc (.mk 5 n s tb tc ts io ic is)) :
    Calls Tryd.prog 16 #[.agg #[.int .i64 5, .int .i64 n, .string s, .slice tb ts.length tc, .slice io is.length ic]] w fun e w' => e = .returned (.string ⟨(txV (.mk 5 n s tb tc ts io ic is)).toArray⟩) ∧ Below w.heap.size w w' := by
  have hB0 := Lib.hid ((Below.refl w.heap.size w).alloc (Nat.le_refl _) (.cells #[.int .i64 5, .int .i64 n, .string s, .slice tb ts.length tc, .slice io is.length ic] 25))
  have hC0 := Lib.hid (Cs.new w [.int .i64 5, .int .i64 n, .string s, .slice tb ts.length tc, .slice io is.length ic] 25)
  obtain ⟨hkb, hnb, hsb, htl, hil⟩ := va_room hv
  have hss := hnc.room.2.2
  have hX := Lib.hid (txV_eq 5 n s tb tc ts io ic is)
  have hV := Lib.hid hv
  have hNC := Lib.hid hnc
  clear hv hnc
  go_enter Tryd.func16, Tryd.ntmps16
  go_wp2_with (go_at_call 30; refine (quoted_any s _ hss).mono ?_; rintro e w1 ⟨rfl, hb1⟩)
  go_ret
  refine ⟨str_of ?_, hB0.out.trans (hb1.mono hB0.out.size)⟩
  rw [hX.out, if_neg (by decide), if_neg (by decide), if_neg (by decide), if_pos (by decide)]

set_option maxRecDepth 100000 in
set_option maxHeartbeats 1000000 in
theorem text7_any {N : Nat} (ih : TextBelow N) (n : Int) (s : ByteArray) (tb : Option Addr) (tc : Nat) (ts : List Int) (io : Option Addr) (ic : Nat) (is : List Va) (w : World) (hv : VaIn w (.mk 7 n s tb tc ts io ic is)) (hnc : Nc (.mk 7 n s tb tc ts io ic is)) (hN : dpV (.mk 7 n s tb tc ts io ic is) < N + 1) :
    Calls Tryd.prog 16 #[.agg #[.int .i64 7, .int .i64 n, .string s, .slice tb ts.length tc, .slice io is.length ic]] w fun e w' => e = .returned (.string ⟨(txV (.mk 7 n s tb tc ts io ic is)).toArray⟩) ∧ Below w.heap.size w w' := by
  have hB0 := Lib.hid ((Below.refl w.heap.size w).alloc (Nat.le_refl _) (.cells #[.int .i64 7, .int .i64 n, .string s, .slice tb ts.length tc, .slice io is.length ic] 25))
  have hC0 := Lib.hid (Cs.new w [.int .i64 7, .int .i64 n, .string s, .slice tb ts.length tc, .slice io is.length ic] 25)
  obtain ⟨hkb, hnb, hsb, htl, hil⟩ := va_room hv
  have hss := hnc.room.2.2
  have hX := Lib.hid (txV_eq 7 n s tb tc ts io ic is)
  have hV := Lib.hid hv
  have hNC := Lib.hid hnc
  clear hv hnc
  have hlen : (itV 0 ts 0 is).length ≤ 400000 := by
    have := it_room (t := ⟨(itV 0 ts 0 is).toArray⟩) (how := 0) (j := is.length) hV.out hNC.out (by rw [List.take_length])
    simpa [size_lit] using this
  have hIH := Lib.hid ih
  have hND := Lib.hid hN
  clear ih hN
  go_enter Tryd.func16, Tryd.ntmps16
  go_wp2_with (go_at_call 31; refine (items0_of hIH.out 7 n s tb tc ts io ic is _ hND.out (va_below hV.out hB0.out (Nat.le_refl _)) hNC.out).mono ?_; rintro e w1 ⟨rfl, hb1⟩)
  go_ret
  refine ⟨str_of ?_, hB0.out.trans (hb1.mono hB0.out.size)⟩
  rw [hX.out, if_neg (by decide), if_neg (by decide), if_neg (by decide), if_neg (by decide), if_pos (by decide)]; simp

set_option maxRecDepth 100000 in
set_option maxHeartbeats 1000000 in
theorem text8_any {N : Nat} (ih : TextBelow N) (n : Int) (s : ByteArray) (tb : Option Addr) (tc : Nat) (ts : List Int) (io : Option Addr) (ic : Nat) (is : List Va) (w : World) (hv : VaIn w (.mk 8 n s tb tc ts io ic is)) (hnc : Nc (.mk 8 n s tb tc ts io ic is)) (hN : dpV (.mk 8 n s tb tc ts io ic is) < N + 1) :
    Calls Tryd.prog 16 #[.agg #[.int .i64 8, .int .i64 n, .string s, .slice tb ts.length tc, .slice io is.length ic]] w fun e w' => e = .returned (.string ⟨(txV (.mk 8 n s tb tc ts io ic is)).toArray⟩) ∧ Below w.heap.size w w' := by
  have hB0 := Lib.hid ((Below.refl w.heap.size w).alloc (Nat.le_refl _) (.cells #[.int .i64 8, .int .i64 n, .string s, .slice tb ts.length tc, .slice io is.length ic] 25))
  have hC0 := Lib.hid (Cs.new w [.int .i64 8, .int .i64 n, .string s, .slice tb ts.length tc, .slice io is.length ic] 25)
  obtain ⟨hkb, hnb, hsb, htl, hil⟩ := va_room hv
  have hss := hnc.room.2.2
  have hX := Lib.hid (txV_eq 8 n s tb tc ts io ic is)
  have hV := Lib.hid hv
  have hNC := Lib.hid hnc
  clear hv hnc
  have hlen : (itV 2 ts 0 is).length ≤ 400000 := by
    have := it_room (t := ⟨(itV 2 ts 0 is).toArray⟩) (how := 2) (j := is.length) hV.out hNC.out (by rw [List.take_length])
    simpa [size_lit] using this
  have hIH := Lib.hid ih
  have hND := Lib.hid hN
  clear ih hN
  go_enter Tryd.func16, Tryd.ntmps16
  go_wp2_with (go_at_call 31; refine (items2_of hIH.out 8 n s tb tc ts io ic is _ hND.out (va_below hV.out hB0.out (Nat.le_refl _)) hNC.out).mono ?_; rintro e w1 ⟨rfl, hb1⟩)
  go_ret
  refine ⟨str_of ?_, hB0.out.trans (hb1.mono hB0.out.size)⟩
  rw [hX.out, if_neg (by decide), if_neg (by decide), if_neg (by decide), if_neg (by decide), if_neg (by decide), if_pos (by decide)]; simp

set_option maxRecDepth 100000 in
set_option maxHeartbeats 1000000 in
theorem text9_any {N : Nat} (ih : TextBelow N) (n : Int) (s : ByteArray) (tb : Option Addr) (tc : Nat) (ts : List Int) (io : Option Addr) (ic : Nat) (is : List Va) (w : World) (hv : VaIn w (.mk 9 n s tb tc ts io ic is)) (hnc : Nc (.mk 9 n s tb tc ts io ic is)) (hN : dpV (.mk 9 n s tb tc ts io ic is) < N + 1) :
    Calls Tryd.prog 16 #[.agg #[.int .i64 9, .int .i64 n, .string s, .slice tb ts.length tc, .slice io is.length ic]] w fun e w' => e = .returned (.string ⟨(txV (.mk 9 n s tb tc ts io ic is)).toArray⟩) ∧ Below w.heap.size w w' := by
  have hB0 := Lib.hid ((Below.refl w.heap.size w).alloc (Nat.le_refl _) (.cells #[.int .i64 9, .int .i64 n, .string s, .slice tb ts.length tc, .slice io is.length ic] 25))
  have hC0 := Lib.hid (Cs.new w [.int .i64 9, .int .i64 n, .string s, .slice tb ts.length tc, .slice io is.length ic] 25)
  obtain ⟨hkb, hnb, hsb, htl, hil⟩ := va_room hv
  have hss := hnc.room.2.2
  have hX := Lib.hid (txV_eq 9 n s tb tc ts io ic is)
  have hV := Lib.hid hv
  have hNC := Lib.hid hnc
  clear hv hnc
  have hlen : (itV 1 ts 0 is).length ≤ 400000 := by
    have := it_room (t := ⟨(itV 1 ts 0 is).toArray⟩) (how := 1) (j := is.length) hV.out hNC.out (by rw [List.take_length])
    simpa [size_lit] using this
  have hIH := Lib.hid ih
  have hND := Lib.hid hN
  clear ih hN
  go_enter Tryd.func16, Tryd.ntmps16
  go_wp2_with (go_at_call 31; refine (items1_of hIH.out 9 n s tb tc ts io ic is _ hND.out (va_below hV.out hB0.out (Nat.le_refl _)) hNC.out).mono ?_; rintro e w1 ⟨rfl, hb1⟩)
  go_ret
  refine ⟨str_of ?_, hB0.out.trans (hb1.mono hB0.out.size)⟩
  rw [hX.out, if_neg (by decide), if_neg (by decide), if_neg (by decide), if_neg (by decide), if_neg (by decide), if_neg (by decide), if_pos (by decide)]; simp

set_option maxRecDepth 100000 in
set_option maxHeartbeats 1000000 in
theorem text10_any {N : Nat} (ih : TextBelow N) (n : Int) (s : ByteArray) (tb : Option Addr) (tc : Nat) (ts : List Int) (io : Option Addr) (ic : Nat) (is : List Va) (w : World) (hv : VaIn w (.mk 10 n s tb tc ts io ic is)) (hnc : Nc (.mk 10 n s tb tc ts io ic is)) (hN : dpV (.mk 10 n s tb tc ts io ic is) < N + 1) :
    Calls Tryd.prog 16 #[.agg #[.int .i64 10, .int .i64 n, .string s, .slice tb ts.length tc, .slice io is.length ic]] w fun e w' => e = .returned (.string ⟨(txV (.mk 10 n s tb tc ts io ic is)).toArray⟩) ∧ Below w.heap.size w w' := by
  have hB0 := Lib.hid ((Below.refl w.heap.size w).alloc (Nat.le_refl _) (.cells #[.int .i64 10, .int .i64 n, .string s, .slice tb ts.length tc, .slice io is.length ic] 25))
  have hC0 := Lib.hid (Cs.new w [.int .i64 10, .int .i64 n, .string s, .slice tb ts.length tc, .slice io is.length ic] 25)
  obtain ⟨hkb, hnb, hsb, htl, hil⟩ := va_room hv
  have hss := hnc.room.2.2
  have hX := Lib.hid (txV_eq 10 n s tb tc ts io ic is)
  have hV := Lib.hid hv
  have hNC := Lib.hid hnc
  clear hv hnc
  have hlen : (itV 1 ts 0 is).length ≤ 400000 := by
    have := it_room (t := ⟨(itV 1 ts 0 is).toArray⟩) (how := 1) (j := is.length) hV.out hNC.out (by rw [List.take_length])
    simpa [size_lit] using this
  have hIH := Lib.hid ih
  have hND := Lib.hid hN
  clear ih hN
  go_enter Tryd.func16, Tryd.ntmps16
  go_wp2_with (go_at_call 31; refine (items1_of hIH.out 10 n s tb tc ts io ic is _ hND.out (va_below hV.out hB0.out (Nat.le_refl _)) hNC.out).mono ?_; rintro e w1 ⟨rfl, hb1⟩)
  go_ret
  refine ⟨str_of ?_, hB0.out.trans (hb1.mono hB0.out.size)⟩
  rw [hX.out, if_neg (by decide), if_neg (by decide), if_neg (by decide), if_neg (by decide), if_neg (by decide), if_neg (by decide), if_neg (by decide), if_pos (by decide)]; simp

set_option maxRecDepth 100000 in
set_option maxHeartbeats 1000000 in
theorem textno_any (n : Int) (s : ByteArray) (tb : Option Addr) (tc : Nat) (ts : List Int) (io : Option Addr) (ic : Nat) (is : List Va) (w : World) (k : Int) (hk : ¬ (1 ≤ k ∧ k ≤ 10)) (hv : VaIn w (.mk k n s tb tc ts io ic is)) (hnc : Nc (.mk k n s tb tc ts io ic is)) :
    Calls Tryd.prog 16 #[.agg #[.int .i64 k, .int .i64 n, .string s, .slice tb ts.length tc, .slice io is.length ic]] w fun e w' => e = .returned (.string ⟨(txV (.mk k n s tb tc ts io ic is)).toArray⟩) ∧ Below w.heap.size w w' := by
  have hB0 := Lib.hid ((Below.refl w.heap.size w).alloc (Nat.le_refl _) (.cells #[.int .i64 k, .int .i64 n, .string s, .slice tb ts.length tc, .slice io is.length ic] 25))
  have hC0 := Lib.hid (Cs.new w [.int .i64 k, .int .i64 n, .string s, .slice tb ts.length tc, .slice io is.length ic] 25)
  obtain ⟨hkb, hnb, hsb, htl, hil⟩ := va_room hv
  have hss := hnc.room.2.2
  have hX := Lib.hid (txV_eq k n s tb tc ts io ic is)
  have hV := Lib.hid hv
  have hNC := Lib.hid hnc
  clear hv hnc
  have f1 : (k == 1) = false := beq_eq_false_iff_ne.2 (by omega)
  have f2 : (k == 2) = false := beq_eq_false_iff_ne.2 (by omega)
  have f3 : (k == 3) = false := beq_eq_false_iff_ne.2 (by omega)
  have f4 : (k == 4) = false := beq_eq_false_iff_ne.2 (by omega)
  have f5 : (k == 5) = false := beq_eq_false_iff_ne.2 (by omega)
  have f6 : (k == 6) = false := beq_eq_false_iff_ne.2 (by omega)
  have f7 : (k == 7) = false := beq_eq_false_iff_ne.2 (by omega)
  have f8 : (k == 8) = false := beq_eq_false_iff_ne.2 (by omega)
  have f9 : (k == 9) = false := beq_eq_false_iff_ne.2 (by omega)
  have f10 : (k == 10) = false := beq_eq_false_iff_ne.2 (by omega)
  have HK := Lib.hid hk
  clear hk
  go_enter Tryd.func16, Tryd.ntmps16
  go_wp2
  go_ret
  refine ⟨str_of ?_, hB0.out⟩
  rw [hX.out, if_neg (by have := HK.out; omega), if_neg (by have := HK.out; omega), if_neg (by have := HK.out; omega), if_neg (by have := HK.out; omega), if_neg (by have := HK.out; omega), if_neg (by have := HK.out; omega), if_neg (by have := HK.out; omega), if_neg (by have := HK.out; omega)]

theorem text_below : ∀ N, TextBelow N := by
  intro N
  induction N with
  | zero => intro v w h; omega
  | succ N ih =>
    intro v w hN hv hnc
    obtain ⟨k, n, s, tb, tc, ts, io, ic, is⟩ := v
    by_cases h1 : k = 1
    · subst h1
      by_cases h0 : n = 0
      · exact text1a_any n s tb tc ts io ic is w h0 hv hnc
      · exact text1b_any n s tb tc ts io ic is w h0 hv hnc
    by_cases h2 : k = 2
    · subst h2; exact text2_any n s tb tc ts io ic is w hv hnc
    by_cases h3 : k = 3
    · subst h3; exact text3_any n s tb tc ts io ic is w hv hnc
    by_cases h4 : k = 4
    · subst h4; exact text4_any n s tb tc ts io ic is w hv hnc
    by_cases h5 : k = 5
    · subst h5; exact text5_any n s tb tc ts io ic is w hv hnc
    by_cases h6 : k = 6
    · subst h6; exact text6_any n s tb tc ts io ic is w hv hnc
    by_cases h7 : k = 7
    · subst h7; exact text7_any ih n s tb tc ts io ic is w hv hnc hN
    by_cases h8 : k = 8
    · subst h8; exact text8_any ih n s tb tc ts io ic is w hv hnc hN
    by_cases h9 : k = 9
    · subst h9; exact text9_any ih n s tb tc ts io ic is w hv hnc hN
    by_cases h10 : k = 10
    · subst h10; exact text10_any ih n s tb tc ts io ic is w hv hnc hN
    exact textno_any n s tb tc ts io ic is w k (by omega) hv hnc
theorem rtext_any (v : Va) (w : World) (hv : VaIn w v) (hnc : Nc v) :
    Calls Tryd.prog 16 #[.agg #[.int .i64 v.k, .int .i64 v.n, .string v.s, .slice v.tb v.ts.length v.tc, .slice v.io v.is.length v.ic]] w fun e w' => e = .returned (.string ⟨(txV v).toArray⟩) ∧ Below w.heap.size w w' :=
  text_below _ v w (Nat.lt_succ_self _) hv hnc
end Go.Proofs.YthgaipdhgckmdaaDoor.Va
