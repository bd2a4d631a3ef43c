/- Values: the contracts of the program's tell and Text. (Printed by gen/tell2.py.) -/
import Derived.Test.YthgaipdhgckmdaaDoorVaPWithin
namespace Go.Proofs.YthgaipdhgckmdaaDoor.Va
open Go.RowKit Cm
set_option linter.unusedVariables false
set_option linter.unusedSimpArgs false

theorem kept_top {w w' : World} (h : Below w.heap.size w w') : Lib.OthersKept 5 none w w' := by
  intro k o hk _ _
  have hlt : k < w.heap.size := (Array.getElem?_eq_some_iff.1 hk).1
  rw [h.block k hlt]; exact hk
theorem Bt.top {B : Nat} {v : Value} {l : List UInt8} {w w' : World} (h : Bt B v l w) (hb : Below w.heap.size w w') : Bt B v l w' := Rw.below (e := 5) (s := 1) h hb
theorem bool_text {n : Int} {x : List UInt8} (hx : x = if n = 0 then [102, 97, 108, 115, 101] else [116, 114, 117, 101]) : x = if (n != 0) = true then [116, 114, 117, 101] else [102, 97, 108, 115, 101] := by
  subst hx
  by_cases h : n = 0
  · subst h; rfl
  · have h2 : (n != 0) = true := by simpa using h
    rw [h2, if_neg h, if_pos rfl]
theorem appbool_ret {n : Int} {x : List UInt8} (hx : x = if n = 0 then [102, 97, 108, 115, 101] else [116, 114, 117, 101]) (B : Nat) (v : Value) (l : List UInt8) (w : World) (h : Bt B v l w) (hB : B ≤ w.heap.size) (hlim : l.length ≤ 100000000) :
    Calls Tryd.prog 46 #[v, .bool (n != 0)] w (Gv B w (l ++ x)) := by
  rw [bool_text hx]; exact appbool_any B v l (n != 0) w h hB hlim
theorem wrap_un (n : Int) : IntKind.u64.wrap n = ((unN n : Nat) : Int) := by
  unfold unN
  have h1 : IntKind.u64.wrap n = n % 18446744073709551616 := by simp [IntKind.wrap, IntKind.bits, IntKind.signed]
  rw [h1]; omega
set_option maxRecDepth 100000 in
set_option maxHeartbeats 1000000 in
theorem tell1_any (B : Nat) (bv : Value) (l : List UInt8) (n : Int) (s : ByteArray) (tb : Option Addr) (tl tc : Nat) (io : Option Addr) (il ic : Nat) (w : World) (h : Bt B bv l w) (hB : B ≤ w.heap.size) (hlim : l.length ≤ 10000000) :
    Calls Tryd.prog 27 #[bv, .agg #[.int .i64 1, .int .i64 n, .string s, .slice tb tl tc, .slice io il ic]] w (Gv B w (l ++ (if n = 0 then [102, 97, 108, 115, 101] else [116, 114, 117, 101]))) := by
  obtain ⟨x, hx⟩ : ∃ x : List UInt8, x = (if n = 0 then [102, 97, 108, 115, 101] else [116, 114, 117, 101]) := ⟨_, rfl⟩
  rw [← hx]
  have HX := Lib.hid hx
  have HB0 := Lib.hid ((Below.refl B w).alloc hB (.cells #[.int .i64 1, .int .i64 n, .string s, .slice tb tl tc, .slice io il ic] 25))
  have HK0 := Lib.hid ((Lib.OthersKept.refl 5 none w).alloc (.cells #[.int .i64 1, .int .i64 n, .string s, .slice tb tl tc, .slice io il ic] 25))
  have H0 := Lib.hid (h.alloc (.cells #[.int .i64 1, .int .i64 n, .string s, .slice tb tl tc, .slice io il ic] 25))
  clear h hx
  have a1 := as1_1 (.int .i64 n)
  have a2 := as1_2 (.int .i64 n)
  have a3 := as1_3 (.int .i64 n)
  have a6 := as1_6 (.int .i64 n)
  have a4 := as1_4 (.int .i64 n)
  have a5 := as1_5 (.int .i64 n)
  have a7 := as1_7 (.int .i64 n)
  have a8 := as1_8 (.int .i64 n)
  have a9 := as1_9 (.int .i64 n)
  have a10 := as1_10 (.int .i64 n)
  go_enter Tryd.func27, Tryd.ntmps27
  go_wp2_with (first
    | (go_at_call 38; refine (kind1_any n s tb tl tc io il ic _).mono ?_; rintro e w2 ⟨rfl, hb2⟩; have H2 := Lib.hid (H0.out.top hb2); have HB2 := Lib.hid (HB0.out.trans (hb2.mono (Nat.le_trans hB HB0.out.size))); have HK2 := Lib.hid (HK0.out.trans (kept_top hb2)); clear hb2)
    | (go_at_call 46; refine (appbool_ret HX.out B bv l _ H2.out (Nat.le_trans hB HB2.out.size) (by omega)).mono ?_; rintro e w3 ⟨v3, rfl, h3, hb3, hk3⟩))
  go_ret
  exact ⟨v3, rfl, (by first | exact h3 | (rw [HX.out]; exact h3)), HB2.out.trans hb3, HK2.out.trans hk3⟩
set_option maxRecDepth 100000 in
set_option maxHeartbeats 1000000 in
theorem tell2_any (B : Nat) (bv : Value) (l : List UInt8) (n : Int) (s : ByteArray) (tb : Option Addr) (tl tc : Nat) (io : Option Addr) (il ic : Nat) (w : World) (h : Bt B bv l w) (hB : B ≤ w.heap.size) (hlim : l.length ≤ 10000000) (hT : Lib.TabBelow Tryd.prog B w "internal/strconv.uint64pow10" .u64 Lib.pow10Tab) (hn : -9223372036854775808 ≤ n ∧ n ≤ 9223372036854775807) :
    Calls Tryd.prog 27 #[bv, .agg #[.int .i64 2, .int .i64 n, .string s, .slice tb tl tc, .slice io il ic]] w (Gv B w (l ++ sgL n)) := by
  obtain ⟨x, hx⟩ : ∃ x : List UInt8, x = sgL n := ⟨_, rfl⟩
  rw [← hx]
  have HX := Lib.hid hx
  have HB0 := Lib.hid ((Below.refl B w).alloc hB (.cells #[.int .i64 2, .int .i64 n, .string s, .slice tb tl tc, .slice io il ic] 25))
  have HK0 := Lib.hid ((Lib.OthersKept.refl 5 none w).alloc (.cells #[.int .i64 2, .int .i64 n, .string s, .slice tb tl tc, .slice io il ic] 25))
  have H0 := Lib.hid (h.alloc (.cells #[.int .i64 2, .int .i64 n, .string s, .slice tb tl tc, .slice io il ic] 25))
  clear h hx
  have HT := Lib.hid hT
  clear hT
  have a1 := as2_1 (.int .i64 n)
  have a2 := as2_2 (.int .i64 n)
  have a3 := as2_3 (.int .i64 n)
  have a6 := as2_6 (.int .i64 n)
  have a4 := as2_4 (.int .i64 n)
  have a5 := as2_5 (.int .i64 n)
  have a7 := as2_7 (.int .i64 n)
  have a8 := as2_8 (.int .i64 n)
  have a9 := as2_9 (.int .i64 n)
  have a10 := as2_10 (.int .i64 n)
  go_enter Tryd.func27, Tryd.ntmps27
  go_wp2_with (first
    | (go_at_call 38; refine (kind2_any n s tb tl tc io il ic _).mono ?_; rintro e w2 ⟨rfl, hb2⟩; have H2 := Lib.hid (H0.out.top hb2); have HB2 := Lib.hid (HB0.out.trans (hb2.mono (Nat.le_trans hB HB0.out.size))); have HK2 := Lib.hid (HK0.out.trans (kept_top hb2)); clear hb2)
    | (go_at_call 47; rw [HX.out]; refine (appint_any B bv l n _ hn H2.out (Nat.le_trans hB HB2.out.size) (by omega) (HT.out.on HB2.out)).mono ?_; rintro e w3 ⟨v3, rfl, h3, hb3, hk3⟩))
  go_ret
  exact ⟨v3, rfl, (by first | exact h3 | (rw [HX.out]; exact h3)), HB2.out.trans hb3, HK2.out.trans hk3⟩
set_option maxRecDepth 100000 in
set_option maxHeartbeats 1000000 in
theorem tell6_any (B : Nat) (bv : Value) (l : List UInt8) (n : Int) (s : ByteArray) (tb : Option Addr) (tl tc : Nat) (io : Option Addr) (il ic : Nat) (w : World) (h : Bt B bv l w) (hB : B ≤ w.heap.size) (hlim : l.length ≤ 10000000) (hT : Lib.TabBelow Tryd.prog B w "internal/strconv.uint64pow10" .u64 Lib.pow10Tab) (hn : -9223372036854775808 ≤ n ∧ n ≤ 9223372036854775807) :
    Calls Tryd.prog 27 #[bv, .agg #[.int .i64 6, .int .i64 n, .string s, .slice tb tl tc, .slice io il ic]] w (Gv B w (l ++ sgL n)) := by
  obtain ⟨x, hx⟩ : ∃ x : List UInt8, x = sgL n := ⟨_, rfl⟩
  rw [← hx]
  have HX := Lib.hid hx
  have HB0 := Lib.hid ((Below.refl B w).alloc hB (.cells #[.int .i64 6, .int .i64 n, .string s, .slice tb tl tc, .slice io il ic] 25))
  have HK0 := Lib.hid ((Lib.OthersKept.refl 5 none w).alloc (.cells #[.int .i64 6, .int .i64 n, .string s, .slice tb tl tc, .slice io il ic] 25))
  have H0 := Lib.hid (h.alloc (.cells #[.int .i64 6, .int .i64 n, .string s, .slice tb tl tc, .slice io il ic] 25))
  clear h hx
  have HT := Lib.hid hT
  clear hT
  have a1 := as6_1 (.int .i64 n)
  have a2 := as6_2 (.int .i64 n)
  have a3 := as6_3 (.int .i64 n)
  have a6 := as6_6 (.int .i64 n)
  have a4 := as6_4 (.int .i64 n)
  have a5 := as6_5 (.int .i64 n)
  have a7 := as6_7 (.int .i64 n)
  have a8 := as6_8 (.int .i64 n)
  have a9 := as6_9 (.int .i64 n)
  have a10 := as6_10 (.int .i64 n)
  go_enter Tryd.func27, Tryd.ntmps27
  go_wp2_with (first
    | (go_at_call 38; refine (kind6_any n s tb tl tc io il ic _).mono ?_; rintro e w2 ⟨rfl, hb2⟩; have H2 := Lib.hid (H0.out.top hb2); have HB2 := Lib.hid (HB0.out.trans (hb2.mono (Nat.le_trans hB HB0.out.size))); have HK2 := Lib.hid (HK0.out.trans (kept_top hb2)); clear hb2)
    | (go_at_call 47; rw [HX.out]; refine (appint_any B bv l n _ hn H2.out (Nat.le_trans hB HB2.out.size) (by omega) (HT.out.on HB2.out)).mono ?_; rintro e w3 ⟨v3, rfl, h3, hb3, hk3⟩))
  go_ret
  exact ⟨v3, rfl, (by first | exact h3 | (rw [HX.out]; exact h3)), HB2.out.trans hb3, HK2.out.trans hk3⟩
set_option maxRecDepth 100000 in
set_option maxHeartbeats 1000000 in
theorem tell3_any (B : Nat) (bv : Value) (l : List UInt8) (n : Int) (s : ByteArray) (tb : Option Addr) (tl tc : Nat) (io : Option Addr) (il ic : Nat) (w : World) (h : Bt B bv l w) (hB : B ≤ w.heap.size) (hlim : l.length ≤ 10000000) (hT : Lib.TabBelow Tryd.prog B w "internal/strconv.uint64pow10" .u64 Lib.pow10Tab) :
    Calls Tryd.prog 27 #[bv, .agg #[.int .i64 3, .int .i64 n, .string s, .slice tb tl tc, .slice io il ic]] w (Gv B w (l ++ dgL (unN n))) := by
  obtain ⟨x, hx⟩ : ∃ x : List UInt8, x = dgL (unN n) := ⟨_, rfl⟩
  rw [← hx]
  have HX := Lib.hid hx
  have HB0 := Lib.hid ((Below.refl B w).alloc hB (.cells #[.int .i64 3, .int .i64 n, .string s, .slice tb tl tc, .slice io il ic] 25))
  have HK0 := Lib.hid ((Lib.OthersKept.refl 5 none w).alloc (.cells #[.int .i64 3, .int .i64 n, .string s, .slice tb tl tc, .slice io il ic] 25))
  have H0 := Lib.hid (h.alloc (.cells #[.int .i64 3, .int .i64 n, .string s, .slice tb tl tc, .slice io il ic] 25))
  clear h hx
  have HT := Lib.hid hT
  clear hT
  have hu : unN n < 18446744073709551616 := by unfold unN; omega
  have a1 := as3_1 (.int .u64 (((unN n : Nat) : Int)))
  have a2 := as3_2 (.int .u64 (((unN n : Nat) : Int)))
  have a3 := as3_3 (.int .u64 (((unN n : Nat) : Int)))
  have a6 := as3_6 (.int .u64 (((unN n : Nat) : Int)))
  have a4 := as3_4 (.int .u64 (((unN n : Nat) : Int)))
  have a5 := as3_5 (.int .u64 (((unN n : Nat) : Int)))
  have a7 := as3_7 (.int .u64 (((unN n : Nat) : Int)))
  have a8 := as3_8 (.int .u64 (((unN n : Nat) : Int)))
  have a9 := as3_9 (.int .u64 (((unN n : Nat) : Int)))
  have a10 := as3_10 (.int .u64 (((unN n : Nat) : Int)))
  go_enter Tryd.func27, Tryd.ntmps27
  go_wp2_with (first
    | (go_at_call 38; refine (kind3_any n s tb tl tc io il ic _).mono ?_; rw [wrap_un]; rintro e w2 ⟨rfl, hb2⟩; have H2 := Lib.hid (H0.out.top hb2); have HB2 := Lib.hid (HB0.out.trans (hb2.mono (Nat.le_trans hB HB0.out.size))); have HK2 := Lib.hid (HK0.out.trans (kept_top hb2)); clear hb2)
    | (go_at_call 48; rw [HX.out]; refine (appuint_any B bv l (unN n) _ hu H2.out (Nat.le_trans hB HB2.out.size) (by omega) (HT.out.on HB2.out)).mono ?_; rintro e w3 ⟨v3, rfl, h3, hb3, hk3⟩))
  go_ret
  exact ⟨v3, rfl, (by first | exact h3 | (rw [HX.out]; exact h3)), HB2.out.trans hb3, HK2.out.trans hk3⟩
set_option maxRecDepth 100000 in
set_option maxHeartbeats 1000000 in
theorem tell4_any (B : Nat) (bv : Value) (l : List UInt8) (n : Int) (s : ByteArray) (tb : Option Addr) (tl tc : Nat) (io : Option Addr) (il ic : Nat) (w : World) (h : Bt B bv l w) (hB : B ≤ w.heap.size) (hlim : l.length ≤ 10000000) (hs : s.size ≤ 2000) :
    Calls Tryd.prog 27 #[bv, .agg #[.int .i64 4, .int .i64 n, .string s, .slice tb tl tc, .slice io il ic]] w (Gv B w (l ++ quL s.data.toList)) := by
  obtain ⟨x, hx⟩ : ∃ x : List UInt8, x = quL s.data.toList := ⟨_, rfl⟩
  rw [← hx]
  have HX := Lib.hid hx
  have HB0 := Lib.hid ((Below.refl B w).alloc hB (.cells #[.int .i64 4, .int .i64 n, .string s, .slice tb tl tc, .slice io il ic] 25))
  have HK0 := Lib.hid ((Lib.OthersKept.refl 5 none w).alloc (.cells #[.int .i64 4, .int .i64 n, .string s, .slice tb tl tc, .slice io il ic] 25))
  have H0 := Lib.hid (h.alloc (.cells #[.int .i64 4, .int .i64 n, .string s, .slice tb tl tc, .slice io il ic] 25))
  clear h hx
  have a1 := as4_1 (.string s)
  have a2 := as4_2 (.string s)
  have a3 := as4_3 (.string s)
  have a6 := as4_6 (.string s)
  have a4 := as4_4 (.string s)
  have a5 := as4_5 (.string s)
  have a7 := as4_7 (.string s)
  have a8 := as4_8 (.string s)
  have a9 := as4_9 (.string s)
  have a10 := as4_10 (.string s)
  go_enter Tryd.func27, Tryd.ntmps27
  go_wp2_with (first
    | (go_at_call 38; refine (kind4_any n s tb tl tc io il ic _).mono ?_; rintro e w2 ⟨rfl, hb2⟩; have H2 := Lib.hid (H0.out.top hb2); have HB2 := Lib.hid (HB0.out.trans (hb2.mono (Nat.le_trans hB HB0.out.size))); have HK2 := Lib.hid (HK0.out.trans (kept_top hb2)); clear hb2)
    | (go_at_call 49; rw [HX.out]; refine (quote_any B bv l s _ H2.out (Nat.le_trans hB HB2.out.size) hs (by omega)).mono ?_; rintro e w3 ⟨v3, rfl, h3, hb3, hk3⟩))
  go_ret
  exact ⟨v3, rfl, (by first | exact h3 | (rw [HX.out]; exact h3)), HB2.out.trans hb3, HK2.out.trans hk3⟩
set_option maxRecDepth 100000 in
set_option maxHeartbeats 1000000 in
theorem tell5_any (B : Nat) (bv : Value) (l : List UInt8) (n : Int) (s : ByteArray) (tb : Option Addr) (tl tc : Nat) (io : Option Addr) (il ic : Nat) (w : World) (h : Bt B bv l w) (hB : B ≤ w.heap.size) (hlim : l.length ≤ 10000000) (hs : s.size ≤ 2000) :
    Calls Tryd.prog 27 #[bv, .agg #[.int .i64 5, .int .i64 n, .string s, .slice tb tl tc, .slice io il ic]] w (Gv B w (l ++ quL s.data.toList)) := by
  obtain ⟨x, hx⟩ : ∃ x : List UInt8, x = quL s.data.toList := ⟨_, rfl⟩
  rw [← hx]
  have HX := Lib.hid hx
  have HB0 := Lib.hid ((Below.refl B w).alloc hB (.cells #[.int .i64 5, .int .i64 n, .string s, .slice tb tl tc, .slice io il ic] 25))
  have HK0 := Lib.hid ((Lib.OthersKept.refl 5 none w).alloc (.cells #[.int .i64 5, .int .i64 n, .string s, .slice tb tl tc, .slice io il ic] 25))
  have H0 := Lib.hid (h.alloc (.cells #[.int .i64 5, .int .i64 n, .string s, .slice tb tl tc, .slice io il ic] 25))
  clear h hx
  have a1 := as5_1 (.string s)
  have a2 := as5_2 (.string s)
  have a3 := as5_3 (.string s)
  have a6 := as5_6 (.string s)
  have a4 := as5_4 (.string s)
  have a5 := as5_5 (.string s)
  have a7 := as5_7 (.string s)
  have a8 := as5_8 (.string s)
  have a9 := as5_9 (.string s)
  have a10 := as5_10 (.string s)
  go_enter Tryd.func27, Tryd.ntmps27
  go_wp2_with (first
    | (go_at_call 38; refine (kind5_any n s tb tl tc io il ic _).mono ?_; rintro e w2 ⟨rfl, hb2⟩; have H2 := Lib.hid (H0.out.top hb2); have HB2 := Lib.hid (HB0.out.trans (hb2.mono (Nat.le_trans hB HB0.out.size))); have HK2 := Lib.hid (HK0.out.trans (kept_top hb2)); clear hb2)
    | (go_at_call 49; rw [HX.out]; refine (quote_any B bv l s _ H2.out (Nat.le_trans hB HB2.out.size) hs (by omega)).mono ?_; rintro e w3 ⟨v3, rfl, h3, hb3, hk3⟩))
  go_ret
  exact ⟨v3, rfl, (by first | exact h3 | (rw [HX.out]; exact h3)), HB2.out.trans hb3, HK2.out.trans hk3⟩
set_option maxRecDepth 100000 in
set_option maxHeartbeats 1000000 in
theorem tell7_any {N : Nat} {w0 : World} (ih : TellBelow N w0) (n : Int) (s : ByteArray) (tb : Option Addr) (tc : Nat) (ts : List Int) (io : Option Addr) (ic : Nat) (is : List Va) (bv : Value) (l : List UInt8) (w : World)
    (hN : dpV (.mk 7 n s tb tc ts io ic is) < N + 1) (hv : VaIn w0 (.mk 7 n s tb tc ts io ic is)) (hnc : Nc (.mk 7 n s tb tc ts io ic is)) (hZ : Below w0.heap.size w0 w) (hT : Lib.TabBelow Tryd.prog w0.heap.size w0 "internal/strconv.uint64pow10" .u64 Lib.pow10Tab) (h : Bt w0.heap.size bv l w) (hlim : l.length + 16 * szV (.mk 7 n s tb tc ts io ic is) ≤ 4000000) :
    Calls Tryd.prog 27 #[bv, .agg #[.int .i64 7, .int .i64 n, .string s, .slice tb ts.length tc, .slice io is.length ic]] w (Gv w0.heap.size w (l ++ (91 :: (itV 0 ts 0 is ++ [93])))) := by
  have hB : w0.heap.size ≤ w.heap.size := hZ.size
  obtain ⟨x, hx⟩ : ∃ x : List UInt8, x = (91 :: (itV 0 ts 0 is ++ [93])) := ⟨_, rfl⟩
  rw [← hx]
  have HX := Lib.hid hx
  have HB0 := Lib.hid ((Below.refl w0.heap.size w).alloc hB (.cells #[.int .i64 7, .int .i64 n, .string s, .slice tb ts.length tc, .slice io is.length ic] 25))
  have HK0 := Lib.hid ((Lib.OthersKept.refl 5 none w).alloc (.cells #[.int .i64 7, .int .i64 n, .string s, .slice tb ts.length tc, .slice io is.length ic] 25))
  have H0 := Lib.hid (h.alloc (.cells #[.int .i64 7, .int .i64 n, .string s, .slice tb ts.length tc, .slice io is.length ic] 25))
  have HZ := Lib.hid hZ
  have hTAB := Lib.hid hT
  have hV := Lib.hid hv
  have hIH := Lib.hid ih
  have hND := Lib.hid hN
  have hNC := Lib.hid hnc
  have HL := Lib.hid hlim
  clear h hx hZ hT hv ih hN hnc hlim
  have a1 := as7_1 (.slice io is.length ic)
  have a2 := as7_2 (.slice io is.length ic)
  have a3 := as7_3 (.slice io is.length ic)
  have a6 := as7_6 (.slice io is.length ic)
  have a4 := as7_4 (.slice io is.length ic)
  have a5 := as7_5 (.slice io is.length ic)
  have a7 := as7_7 (.slice io is.length ic)
  have a8 := as7_8 (.slice io is.length ic)
  have a9 := as7_9 (.slice io is.length ic)
  have a10 := as7_10 (.slice io is.length ic)
  go_enter Tryd.func27, Tryd.ntmps27
  go_wp2_with (first
    | (go_at_call 38; refine (kind7_any n s tb ts.length tc io is.length ic _).mono ?_; rintro e w2 ⟨rfl, hb2⟩; have H2 := Lib.hid (H0.out.top hb2); have HB2 := Lib.hid (HB0.out.trans (hb2.mono (Nat.le_trans hB HB0.out.size))); have HK2 := Lib.hid (HK0.out.trans (kept_top hb2)); clear hb2)
    | (go_at_call 50; rw [HX.out]; refine (within_list hIH.out 7 n s tb tc ts io ic is bv l _ hND.out hV.out hNC.out (HZ.out.trans HB2.out) hTAB.out H2.out HL.out).mono ?_; rintro e w3 ⟨v3, rfl, h3, hb3, hk3⟩))
  go_ret
  exact ⟨v3, rfl, (by first | exact h3 | (rw [HX.out]; exact h3)), HB2.out.trans hb3, HK2.out.trans hk3⟩
set_option maxRecDepth 100000 in
set_option maxHeartbeats 1000000 in
theorem tell8_any {N : Nat} {w0 : World} (ih : TellBelow N w0) (n : Int) (s : ByteArray) (tb : Option Addr) (tc : Nat) (ts : List Int) (io : Option Addr) (ic : Nat) (is : List Va) (bv : Value) (l : List UInt8) (w : World)
    (hN : dpV (.mk 8 n s tb tc ts io ic is) < N + 1) (hv : VaIn w0 (.mk 8 n s tb tc ts io ic is)) (hnc : Nc (.mk 8 n s tb tc ts io ic is)) (hZ : Below w0.heap.size w0 w) (hT : Lib.TabBelow Tryd.prog w0.heap.size w0 "internal/strconv.uint64pow10" .u64 Lib.pow10Tab) (h : Bt w0.heap.size bv l w) (hlim : l.length + 16 * szV (.mk 8 n s tb tc ts io ic is) ≤ 4000000) :
    Calls Tryd.prog 27 #[bv, .agg #[.int .i64 8, .int .i64 n, .string s, .slice tb ts.length tc, .slice io is.length ic]] w (Gv w0.heap.size w (l ++ (123 :: (itV 2 ts 0 is ++ [125])))) := by
  have hB : w0.heap.size ≤ w.heap.size := hZ.size
  obtain ⟨x, hx⟩ : ∃ x : List UInt8, x = (123 :: (itV 2 ts 0 is ++ [125])) := ⟨_, rfl⟩
  rw [← hx]
  have HX := Lib.hid hx
  have HB0 := Lib.hid ((Below.refl w0.heap.size w).alloc hB (.cells #[.int .i64 8, .int .i64 n, .string s, .slice tb ts.length tc, .slice io is.length ic] 25))
  have HK0 := Lib.hid ((Lib.OthersKept.refl 5 none w).alloc (.cells #[.int .i64 8, .int .i64 n, .string s, .slice tb ts.length tc, .slice io is.length ic] 25))
  have H0 := Lib.hid (h.alloc (.cells #[.int .i64 8, .int .i64 n, .string s, .slice tb ts.length tc, .slice io is.length ic] 25))
  have HZ := Lib.hid hZ
  have hTAB := Lib.hid hT
  have hV := Lib.hid hv
  have hIH := Lib.hid ih
  have hND := Lib.hid hN
  have hNC := Lib.hid hnc
  have HL := Lib.hid hlim
  clear h hx hZ hT hv ih hN hnc hlim
  have a1 := as8_1 (.slice io is.length ic)
  have a2 := as8_2 (.slice io is.length ic)
  have a3 := as8_3 (.slice io is.length ic)
  have a6 := as8_6 (.slice io is.length ic)
  have a4 := as8_4 (.slice io is.length ic)
  have a5 := as8_5 (.slice io is.length ic)
  have a7 := as8_7 (.slice io is.length ic)
  have a8 := as8_8 (.slice io is.length ic)
  have a9 := as8_9 (.slice io is.length ic)
  have a10 := as8_10 (.slice io is.length ic)
  go_enter Tryd.func27, Tryd.ntmps27
  go_wp2_with (first
    | (go_at_call 38; refine (kind8_any n s tb ts.length tc io is.length ic _).mono ?_; rintro e w2 ⟨rfl, hb2⟩; have H2 := Lib.hid (H0.out.top hb2); have HB2 := Lib.hid (HB0.out.trans (hb2.mono (Nat.le_trans hB HB0.out.size))); have HK2 := Lib.hid (HK0.out.trans (kept_top hb2)); clear hb2)
    | (go_at_call 50; rw [HX.out]; refine (within_map hIH.out 8 n s tb tc ts io ic is bv l _ hND.out hV.out hNC.out (HZ.out.trans HB2.out) hTAB.out H2.out HL.out).mono ?_; rintro e w3 ⟨v3, rfl, h3, hb3, hk3⟩))
  go_ret
  exact ⟨v3, rfl, (by first | exact h3 | (rw [HX.out]; exact h3)), HB2.out.trans hb3, HK2.out.trans hk3⟩
set_option maxRecDepth 100000 in
set_option maxHeartbeats 1000000 in
theorem tell9_any {N : Nat} {w0 : World} (ih : TellBelow N w0) (n : Int) (s : ByteArray) (tb : Option Addr) (tc : Nat) (ts : List Int) (io : Option Addr) (ic : Nat) (is : List Va) (bv : Value) (l : List UInt8) (w : World)
    (hN : dpV (.mk 9 n s tb tc ts io ic is) < N + 1) (hv : VaIn w0 (.mk 9 n s tb tc ts io ic is)) (hnc : Nc (.mk 9 n s tb tc ts io ic is)) (hZ : Below w0.heap.size w0 w) (hT : Lib.TabBelow Tryd.prog w0.heap.size w0 "internal/strconv.uint64pow10" .u64 Lib.pow10Tab) (h : Bt w0.heap.size bv l w) (hlim : l.length + 16 * szV (.mk 9 n s tb tc ts io ic is) ≤ 4000000) :
    Calls Tryd.prog 27 #[bv, .agg #[.int .i64 9, .int .i64 n, .string s, .slice tb ts.length tc, .slice io is.length ic]] w (Gv w0.heap.size w (l ++ (40 :: (itV 1 ts 0 is ++ [41])))) := by
  have hB : w0.heap.size ≤ w.heap.size := hZ.size
  obtain ⟨x, hx⟩ : ∃ x : List UInt8, x = (40 :: (itV 1 ts 0 is ++ [41])) := ⟨_, rfl⟩
  rw [← hx]
  have HX := Lib.hid hx
  have HB0 := Lib.hid ((Below.refl w0.heap.size w).alloc hB (.cells #[.int .i64 9, .int .i64 n, .string s, .slice tb ts.length tc, .slice io is.length ic] 25))
  have HK0 := Lib.hid ((Lib.OthersKept.refl 5 none w).alloc (.cells #[.int .i64 9, .int .i64 n, .string s, .slice tb ts.length tc, .slice io is.length ic] 25))
  have H0 := Lib.hid (h.alloc (.cells #[.int .i64 9, .int .i64 n, .string s, .slice tb ts.length tc, .slice io is.length ic] 25))
  have HZ := Lib.hid hZ
  have hTAB := Lib.hid hT
  have hV := Lib.hid hv
  have hIH := Lib.hid ih
  have hND := Lib.hid hN
  have hNC := Lib.hid hnc
  have HL := Lib.hid hlim
  clear h hx hZ hT hv ih hN hnc hlim
  have hmf : ∀ (fn : Fn) (first cap : Array Value) (w : World), (Instr.makeFunc fn first cap).run Tryd.prog w = .ok (.func fn first cap) w := fun _ _ _ _ => rfl
  have a1 := as9_1 (.agg #[.slice tb ts.length tc, .slice io is.length ic])
  have a2 := as9_2 (.agg #[.slice tb ts.length tc, .slice io is.length ic])
  have a3 := as9_3 (.agg #[.slice tb ts.length tc, .slice io is.length ic])
  have a6 := as9_6 (.agg #[.slice tb ts.length tc, .slice io is.length ic])
  have a4 := as9_4 (.agg #[.slice tb ts.length tc, .slice io is.length ic])
  have a5 := as9_5 (.agg #[.slice tb ts.length tc, .slice io is.length ic])
  have a7 := as9_7 (.agg #[.slice tb ts.length tc, .slice io is.length ic])
  have a8 := as9_8 (.agg #[.slice tb ts.length tc, .slice io is.length ic])
  have a9 := as9_9 (.agg #[.slice tb ts.length tc, .slice io is.length ic])
  have a10 := as9_10 (.agg #[.slice tb ts.length tc, .slice io is.length ic])
  go_enter Tryd.func27, Tryd.ntmps27
  go_wp2_with (first
    | (go_at_call 38; refine (kind9_any n s tb ts.length tc io is.length ic _).mono ?_; rintro e w2 ⟨rfl, hb2⟩; have H2 := Lib.hid (H0.out.top hb2); have HB2 := Lib.hid (HB0.out.trans (hb2.mono (Nat.le_trans hB HB0.out.size))); have HK2 := Lib.hid (HK0.out.trans (kept_top hb2)); clear hb2)
    | (go_at_call 50; rw [HX.out]; refine (within_rec hIH.out 9 n s tb tc ts io ic is bv l _ hND.out hV.out hNC.out (HZ.out.trans (HB2.out.alloc (Nat.le_trans hB HB2.out.size) _)) hTAB.out (H2.out.alloc _) HL.out).mono ?_; rintro e w3 ⟨v3, rfl, h3, hb3, hk3⟩))
  go_ret
  exact ⟨v3, rfl, (by first | exact h3 | (rw [HX.out]; exact h3)), (HB2.out.alloc (Nat.le_trans hB HB2.out.size) _).trans hb3, (HK2.out.alloc _).trans hk3⟩
set_option maxRecDepth 100000 in
set_option maxHeartbeats 1000000 in
theorem tell10_any {N : Nat} {w0 : World} (ih : TellBelow N w0) (n : Int) (s : ByteArray) (tb : Option Addr) (tc : Nat) (ts : List Int) (io : Option Addr) (ic : Nat) (is : List Va) (bv : Value) (l : List UInt8) (w : World)
    (hN : dpV (.mk 10 n s tb tc ts io ic is) < N + 1) (hv : VaIn w0 (.mk 10 n s tb tc ts io ic is)) (hnc : Nc (.mk 10 n s tb tc ts io ic is)) (hZ : Below w0.heap.size w0 w) (hT : Lib.TabBelow Tryd.prog w0.heap.size w0 "internal/strconv.uint64pow10" .u64 Lib.pow10Tab) (h : Bt w0.heap.size bv l w) (hlim : l.length + 16 * szV (.mk 10 n s tb tc ts io ic is) ≤ 4000000) :
    Calls Tryd.prog 27 #[bv, .agg #[.int .i64 10, .int .i64 n, .string s, .slice tb ts.length tc, .slice io is.length ic]] w (Gv w0.heap.size w (l ++ (60 :: (itV 1 ts 0 is ++ [62])))) := by
  have hB : w0.heap.size ≤ w.heap.size := hZ.size
  obtain ⟨x, hx⟩ : ∃ x : List UInt8, x = (60 :: (itV 1 ts 0 is ++ [62])) := ⟨_, rfl⟩
  rw [← hx]
  have HX := Lib.hid hx
  have HB0 := Lib.hid ((Below.refl w0.heap.size w).alloc hB (.cells #[.int .i64 10, .int .i64 n, .string s, .slice tb ts.length tc, .slice io is.length ic] 25))
  have HK0 := Lib.hid ((Lib.OthersKept.refl 5 none w).alloc (.cells #[.int .i64 10, .int .i64 n, .string s, .slice tb ts.length tc, .slice io is.length ic] 25))
  have H0 := Lib.hid (h.alloc (.cells #[.int .i64 10, .int .i64 n, .string s, .slice tb ts.length tc, .slice io is.length ic] 25))
  have HZ := Lib.hid hZ
  have hTAB := Lib.hid hT
  have hV := Lib.hid hv
  have hIH := Lib.hid ih
  have hND := Lib.hid hN
  have hNC := Lib.hid hnc
  have HL := Lib.hid hlim
  clear h hx hZ hT hv ih hN hnc hlim
  have hmf : ∀ (fn : Fn) (first cap : Array Value) (w : World), (Instr.makeFunc fn first cap).run Tryd.prog w = .ok (.func fn first cap) w := fun _ _ _ _ => rfl
  have a1 := as10_1 (.agg #[.slice tb ts.length tc, .slice io is.length ic])
  have a2 := as10_2 (.agg #[.slice tb ts.length tc, .slice io is.length ic])
  have a3 := as10_3 (.agg #[.slice tb ts.length tc, .slice io is.length ic])
  have a6 := as10_6 (.agg #[.slice tb ts.length tc, .slice io is.length ic])
  have a4 := as10_4 (.agg #[.slice tb ts.length tc, .slice io is.length ic])
  have a5 := as10_5 (.agg #[.slice tb ts.length tc, .slice io is.length ic])
  have a7 := as10_7 (.agg #[.slice tb ts.length tc, .slice io is.length ic])
  have a8 := as10_8 (.agg #[.slice tb ts.length tc, .slice io is.length ic])
  have a9 := as10_9 (.agg #[.slice tb ts.length tc, .slice io is.length ic])
  have a10 := as10_10 (.agg #[.slice tb ts.length tc, .slice io is.length ic])
  go_enter Tryd.func27, Tryd.ntmps27
  go_wp2_with (first
    | (go_at_call 38; refine (kind10_any n s tb ts.length tc io is.length ic _).mono ?_; rintro e w2 ⟨rfl, hb2⟩; have H2 := Lib.hid (H0.out.top hb2); have HB2 := Lib.hid (HB0.out.trans (hb2.mono (Nat.le_trans hB HB0.out.size))); have HK2 := Lib.hid (HK0.out.trans (kept_top hb2)); clear hb2)
    | (go_at_call 50; rw [HX.out]; refine (within_uni hIH.out 10 n s tb tc ts io ic is bv l _ hND.out hV.out hNC.out (HZ.out.trans (HB2.out.alloc (Nat.le_trans hB HB2.out.size) _)) hTAB.out (H2.out.alloc _) HL.out).mono ?_; rintro e w3 ⟨v3, rfl, h3, hb3, hk3⟩))
  go_ret
  exact ⟨v3, rfl, (by first | exact h3 | (rw [HX.out]; exact h3)), (HB2.out.alloc (Nat.le_trans hB HB2.out.size) _).trans hb3, (HK2.out.alloc _).trans hk3⟩
set_option maxRecDepth 100000 in
set_option maxHeartbeats 1000000 in
theorem tell0_any (B : Nat) (bv : Value) (l : List UInt8) (k : Int) (n : Int) (s : ByteArray) (tb : Option Addr) (tl tc : Nat) (io : Option Addr) (il ic : Nat) (w : World) (hk : ¬ (1 ≤ k ∧ k ≤ 10)) (h : Bt B bv l w) (hB : B ≤ w.heap.size) (hlim : l.length ≤ 10000000) :
    Calls Tryd.prog 27 #[bv, .agg #[.int .i64 k, .int .i64 n, .string s, .slice tb tl tc, .slice io il ic]] w (Gv B w (l ++ [63])) := by
  have HB0 := Lib.hid ((Below.refl B w).alloc hB (.cells #[.int .i64 k, .int .i64 n, .string s, .slice tb tl tc, .slice io il ic] 25))
  have HK0 := Lib.hid ((Lib.OthersKept.refl 5 none w).alloc (.cells #[.int .i64 k, .int .i64 n, .string s, .slice tb tl tc, .slice io il ic] 25))
  have H0 := Lib.hid (h.alloc (.cells #[.int .i64 k, .int .i64 n, .string s, .slice tb tl tc, .slice io il ic] 25))
  clear h
  have a1 := as0_1
  have a2 := as0_2
  have a3 := as0_3
  have a6 := as0_6
  have a4 := as0_4
  have a5 := as0_5
  have a7 := as0_7
  have a8 := as0_8
  have a9 := as0_9
  have a10 := as0_10
  go_enter Tryd.func27, Tryd.ntmps27
  go_wp2_with (first
    | (go_at_call 38; refine (kind0_any k n s tb tl tc io il ic _ hk).mono ?_; rintro e w2 ⟨rfl, hb2⟩; have H2 := Lib.hid (H0.out.top hb2); have HB2 := Lib.hid (HB0.out.trans (hb2.mono (Nat.le_trans hB HB0.out.size))); have HK2 := Lib.hid (HK0.out.trans (kept_top hb2)); clear hb2)
    | (at_builtin; refine app_lit rfl (.tmp 88) (.tmp 89) rfl B bv l [63] _ _ _ rfl rfl rfl rfl rfl H2.out (Nat.le_trans hB HB2.out.size) (by show _ + 1 ≤ _; omega) ?_; intro v3 w3 h3 hb3 hk3))
  go_ret
  exact ⟨v3, rfl, h3, HB2.out.trans hb3, HK2.out.trans hk3⟩
theorem tell_below : ∀ (N : Nat) (w0 : World), TellBelow N w0 := by
  intro N
  induction N with
  | zero => intro w0 v bv l w h; omega
  | succ N ih =>
    intro w0 v bv l w hN hv hnc hZ hT h hlim
    have hIH := ih w0
    have hsz := hZ.size
    obtain ⟨k, n, s, tb, tc, ts, io, ic, is⟩ := v
    have hn := (va_room hv).2.1
    have hs := hnc.room.2.2
    have hl2 : l.length ≤ 10000000 := by omega
    show Calls Tryd.prog 27 #[bv, .agg #[.int .i64 k, .int .i64 n, .string s, .slice tb ts.length tc, .slice io is.length ic]] w _
    rw [txV_eq]
    by_cases h1 : k = 1
    · subst h1; rw [if_pos rfl]; exact tell1_any _ bv l n s tb ts.length tc io is.length ic w h hsz hl2
    rw [if_neg h1]
    by_cases h2 : k = 2
    · subst h2; rw [if_pos (.inl rfl)]; exact tell2_any _ bv l n s tb ts.length tc io is.length ic w h hsz hl2 (hT.on hZ) hn
    by_cases h6 : k = 6
    · subst h6; rw [if_pos (.inr rfl)]; exact tell6_any _ bv l n s tb ts.length tc io is.length ic w h hsz hl2 (hT.on hZ) hn
    rw [if_neg (by omega)]
    by_cases h3 : k = 3
    · subst h3; rw [if_pos rfl]; exact tell3_any _ bv l n s tb ts.length tc io is.length ic w h hsz hl2 (hT.on hZ)
    rw [if_neg h3]
    by_cases h4 : k = 4
    · subst h4; rw [if_pos (.inl rfl)]; exact tell4_any _ bv l n s tb ts.length tc io is.length ic w h hsz hl2 hs
    by_cases h5 : k = 5
    · subst h5; rw [if_pos (.inr rfl)]; exact tell5_any _ bv l n s tb ts.length tc io is.length ic w h hsz hl2 hs
    rw [if_neg (by omega)]
    by_cases h7 : k = 7
    · subst h7; rw [if_pos rfl]; exact tell7_any hIH n s tb tc ts io ic is bv l w hN hv hnc hZ hT h hlim
    rw [if_neg h7]
    by_cases h8 : k = 8
    · subst h8; rw [if_pos rfl]; exact tell8_any hIH n s tb tc ts io ic is bv l w hN hv hnc hZ hT h hlim
    rw [if_neg h8]
    by_cases h9 : k = 9
    · subst h9; rw [if_pos rfl]; exact tell9_any hIH n s tb tc ts io ic is bv l w hN hv hnc hZ hT h hlim
    rw [if_neg h9]
    by_cases h10 : k = 10
    · subst h10; rw [if_pos rfl]; exact tell10_any hIH n s tb tc ts io ic is bv l w hN hv hnc hZ hT h hlim
    rw [if_neg h10]
    exact tell0_any _ bv l k n s tb ts.length tc io is.length ic w (by omega) h hsz hl2
/-- The library's table, in a world. -/
def Pw (w : World) : Prop := Lib.TabBelow Tryd.prog w.heap.size w "internal/strconv.uint64pow10" .u64 Lib.pow10Tab
theorem Pw.below {w w' : World} (h : Pw w) (hb : Below w.heap.size w w') : Pw w' := fun w2 h2 => h w2 (hb.trans (h2.mono hb.size))
theorem bt_conv {B : Nat} {v : Value} {l : List UInt8} {w : World} (h : Bt B v l w) : (convert 34 9 v).run Tryd.prog w = .ok (.string ⟨l.toArray⟩) w := by
  rcases h.2 with ⟨rfl, h0⟩ | ⟨g, cap, cur, rfl, hb, hgg, _⟩
  · rw [List.eq_nil_of_length_eq_zero h0]
    exact run_convert_bytes_nil (P := Tryd.prog) w 34 5 Tryd.underlying34 Tryd.underlying5 0 0 _ Tryd.underlying9
  · refine run_convert_bytes_back (P := Tryd.prog) w 34 9 5 ⟨g, 0, none⟩ cap l Tryd.underlying34 Tryd.underlying5 Tryd.underlying9 fun j hj => ?_
    exact World.ownsRow.cells h rfl j _ (by unfold Lib.byteCells; rw [List.getElem?_map, List.getElem?_eq_getElem hj]; rfl)
set_option maxRecDepth 100000 in
set_option maxHeartbeats 1000000 in
theorem text_any (v : Va) (w : World) (hv : VaIn w v) (hnc : Nc v) (hP : Pw w) :
    Calls Tryd.prog 15 #[.agg #[.int .i64 v.k, .int .i64 v.n, .string v.s, .slice v.tb v.ts.length v.tc, .slice v.io v.is.length v.ic]] w fun e w' => e = .returned (.string ⟨(txV v).toArray⟩) ∧ Below w.heap.size w w' := by
  have hl : ([] : List UInt8).length + 16 * szV v ≤ 4000000 := by have := hnc.size; simp; omega
  obtain ⟨k, n, s, tb, tc, ts, io, ic, is⟩ := v
  have HB0 := Lib.hid ((Below.refl w.heap.size w).alloc (Nat.le_refl _) (.cells #[.int .i64 k, .int .i64 n, .string s, .slice tb ts.length tc, .slice io is.length ic] 25))
  have HC0 := Lib.hid (Cs.new w [.int .i64 k, .int .i64 n, .string s, .slice tb ts.length tc, .slice io is.length ic] 25)
  have hV := Lib.hid hv
  have HN := Lib.hid hnc
  have HP := Lib.hid hP
  have HL := Lib.hid hl
  clear hv hnc hP hl
  show Calls Tryd.prog 15 #[.agg #[.int .i64 k, .int .i64 n, .string s, .slice tb ts.length tc, .slice io is.length ic]] w _
  go_enter Tryd.func15, Tryd.ntmps15
  go_wp2_with (first
    | (go_at_call 22; refine (endless_any (.mk k n s tb tc ts io ic is) _ (va_below hV.out HB0.out (Nat.le_refl _)) HN.out).mono ?_; rintro e w1 ⟨rfl, hb1⟩; have h1 := HB0.out.trans (hb1.mono HB0.out.size); have hC1 := HC0.out.below hb1 HC0.out.lt; have d0 := hC1.cell (i := 0) rfl; have d1 := hC1.cell (i := 1) rfl; have d2 := hC1.cell (i := 2) rfl; have d3 := hC1.cell (i := 3) rfl; have d4 := hC1.cell (i := 4) rfl; have H1 := Lib.hid h1; clear hC1 h1)
    | (go_at_call 27; refine (tell_below _ _ (.mk k n s tb tc ts io ic is) (.slice none 0 0) [] _ (Nat.lt_succ_self _) (va_below hV.out H1.out (Nat.le_refl _)) HN.out (Below.refl _ _) (HP.out.below H1.out) (Bt.nil _ _) HL.out).mono ?_; rintro e w2 ⟨v2, rfl, h2, hb2, hk2⟩; have hcv := bt_conv h2; have H2 := Lib.hid (H1.out.trans (hb2.mono H1.out.size)); clear h2 hb2 hk2))
  go_ret
  exact ⟨rfl, H2.out⟩
end Go.Proofs.YthgaipdhgckmdaaDoor.Va
