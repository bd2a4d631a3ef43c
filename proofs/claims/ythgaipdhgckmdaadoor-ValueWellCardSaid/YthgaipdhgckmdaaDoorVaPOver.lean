/- Values: the contract of the program's over. (Printed by gen/over.py.) -/
import Derived.Test.YthgaipdhgckmdaaDoorVaPKind
import Derived.Test.YthgaipdhgckmdaaDoorVaOne
namespace Go.Proofs.YthgaipdhgckmdaaDoor.Va
open Go.RowKit Cm
set_option linter.unusedVariables false
set_option linter.unusedSimpArgs false

/-- Has a value of kind k more than one of its kind has? -/
def ovB (k n : Int) (s : ByteArray) (tl il : Nat) : Bool :=
  (!decide (k = 1 ∨ k = 2 ∨ k = 3 ∨ k = 6) && decide (n ≠ 0)) || (!decide (k = 4 ∨ k = 5) && decide (s ≠ ⟨#[]⟩)) || (!decide (k = 9 ∨ k = 10) && decide (tl ≠ 0)) || (!decide (k = 7 ∨ k = 8 ∨ k = 9 ∨ k = 10) && decide (il ≠ 0))
set_option maxRecDepth 100000 in
set_option maxHeartbeats 1000000 in
theorem over1_any (n : Int) (s : ByteArray) (tb : Option Addr) (tl tc : Nat) (io : Option Addr) (il ic : Nat) (w : World) :
    Calls Tryd.prog 39 #[.agg #[.int .i64 1, .int .i64 n, .string s, .slice tb tl tc, .slice io il ic], .iface 52 (.int .i64 n)] w fun e w' => e = .returned (.bool (ovB 1 n s tl il)) ∧ Below w.heap.size w w' := by
  have a1 := as1_1 (.int .i64 n)
  have a2 := as1_2 (.int .i64 n)
  have a3 := as1_3 (.int .i64 n)
  have a6 := as1_6 (.int .i64 n)
  have a4 := as1_4 (.int .i64 n)
  have a5 := as1_5 (.int .i64 n)
  have a7 := as1_7 (.int .i64 n)
  have a8 := as1_8 (.int .i64 n)
  have a9 := as1_9 (.int .i64 n)
  have a10 := as1_10 (.int .i64 n)
  by_cases hs : s = ⟨#[]⟩
  case neg =>
    have gs := txt_nil hs
    have hv : ovB 1 n s tl il = true := by unfold ovB; clear a1 a2 a3 a6 a4 a5 a7 a8 a9 a10; simp [*]
    rw [hv]
    clear hv hs
    go_enter Tryd.func39, Tryd.ntmps39
    go_wp2
    go_ret
    exact ⟨rfl, (Below.refl w.heap.size w).alloc (Nat.le_refl _) _⟩
  have gs : (s.toList == []) = true := by rw [hs, ByteArray.toList_eq]; rfl
  by_cases ht : tl = 0
  case neg =>
    have gt : (0 : Int) < (tl : Int) := by omega
    have hv : ovB 1 n s tl il = true := by unfold ovB; clear a1 a2 a3 a6 a4 a5 a7 a8 a9 a10; simp [*]
    rw [hv]
    clear hv ht
    go_enter Tryd.func39, Tryd.ntmps39
    go_wp2
    go_ret
    exact ⟨rfl, (Below.refl w.heap.size w).alloc (Nat.le_refl _) _⟩
  have gt : ¬ (0 : Int) < (tl : Int) := by omega
  by_cases hi : il = 0
  case neg =>
    have gi : (0 : Int) < (il : Int) := by omega
    have hv : ovB 1 n s tl il = true := by unfold ovB; clear a1 a2 a3 a6 a4 a5 a7 a8 a9 a10; simp [*]
    rw [hv]
    clear hv hi
    go_enter Tryd.func39, Tryd.ntmps39
    go_wp2
    go_ret
    exact ⟨(by show Ending.returned (.bool (decide (0 < il))) = _; rw [decide_eq_true (by omega : 0 < il)]), (Below.refl w.heap.size w).alloc (Nat.le_refl _) _⟩
  have gi : ¬ (0 : Int) < (il : Int) := by omega
  have hv : ovB 1 n s tl il = false := by unfold ovB; clear a1 a2 a3 a6 a4 a5 a7 a8 a9 a10; simp [*]
  rw [hv]
  clear hv hs ht hi
  go_enter Tryd.func39, Tryd.ntmps39
  go_wp2
  go_ret
  exact ⟨(by show Ending.returned (.bool (decide (0 < il))) = _; rw [decide_eq_false (by omega : ¬ 0 < il)]), (Below.refl w.heap.size w).alloc (Nat.le_refl _) _⟩
set_option maxRecDepth 100000 in
set_option maxHeartbeats 1000000 in
theorem over2_any (n : Int) (s : ByteArray) (tb : Option Addr) (tl tc : Nat) (io : Option Addr) (il ic : Nat) (w : World) :
    Calls Tryd.prog 39 #[.agg #[.int .i64 2, .int .i64 n, .string s, .slice tb tl tc, .slice io il ic], .iface 54 (.int .i64 n)] w fun e w' => e = .returned (.bool (ovB 2 n s tl il)) ∧ Below w.heap.size w w' := by
  have a1 := as2_1 (.int .i64 n)
  have a2 := as2_2 (.int .i64 n)
  have a3 := as2_3 (.int .i64 n)
  have a6 := as2_6 (.int .i64 n)
  have a4 := as2_4 (.int .i64 n)
  have a5 := as2_5 (.int .i64 n)
  have a7 := as2_7 (.int .i64 n)
  have a8 := as2_8 (.int .i64 n)
  have a9 := as2_9 (.int .i64 n)
  have a10 := as2_10 (.int .i64 n)
  by_cases hs : s = ⟨#[]⟩
  case neg =>
    have gs := txt_nil hs
    have hv : ovB 2 n s tl il = true := by unfold ovB; clear a1 a2 a3 a6 a4 a5 a7 a8 a9 a10; simp [*]
    rw [hv]
    clear hv hs
    go_enter Tryd.func39, Tryd.ntmps39
    go_wp2
    go_ret
    exact ⟨rfl, (Below.refl w.heap.size w).alloc (Nat.le_refl _) _⟩
  have gs : (s.toList == []) = true := by rw [hs, ByteArray.toList_eq]; rfl
  by_cases ht : tl = 0
  case neg =>
    have gt : (0 : Int) < (tl : Int) := by omega
    have hv : ovB 2 n s tl il = true := by unfold ovB; clear a1 a2 a3 a6 a4 a5 a7 a8 a9 a10; simp [*]
    rw [hv]
    clear hv ht
    go_enter Tryd.func39, Tryd.ntmps39
    go_wp2
    go_ret
    exact ⟨rfl, (Below.refl w.heap.size w).alloc (Nat.le_refl _) _⟩
  have gt : ¬ (0 : Int) < (tl : Int) := by omega
  by_cases hi : il = 0
  case neg =>
    have gi : (0 : Int) < (il : Int) := by omega
    have hv : ovB 2 n s tl il = true := by unfold ovB; clear a1 a2 a3 a6 a4 a5 a7 a8 a9 a10; simp [*]
    rw [hv]
    clear hv hi
    go_enter Tryd.func39, Tryd.ntmps39
    go_wp2
    go_ret
    exact ⟨(by show Ending.returned (.bool (decide (0 < il))) = _; rw [decide_eq_true (by omega : 0 < il)]), (Below.refl w.heap.size w).alloc (Nat.le_refl _) _⟩
  have gi : ¬ (0 : Int) < (il : Int) := by omega
  have hv : ovB 2 n s tl il = false := by unfold ovB; clear a1 a2 a3 a6 a4 a5 a7 a8 a9 a10; simp [*]
  rw [hv]
  clear hv hs ht hi
  go_enter Tryd.func39, Tryd.ntmps39
  go_wp2
  go_ret
  exact ⟨(by show Ending.returned (.bool (decide (0 < il))) = _; rw [decide_eq_false (by omega : ¬ 0 < il)]), (Below.refl w.heap.size w).alloc (Nat.le_refl _) _⟩
set_option maxRecDepth 100000 in
set_option maxHeartbeats 1000000 in
theorem over3_any (n : Int) (s : ByteArray) (tb : Option Addr) (tl tc : Nat) (io : Option Addr) (il ic : Nat) (w : World) :
    Calls Tryd.prog 39 #[.agg #[.int .i64 3, .int .i64 n, .string s, .slice tb tl tc, .slice io il ic], .iface 56 (.int .u64 (IntKind.u64.wrap n))] w fun e w' => e = .returned (.bool (ovB 3 n s tl il)) ∧ Below w.heap.size w w' := by
  have a1 := as3_1 (.int .u64 (IntKind.u64.wrap n))
  have a2 := as3_2 (.int .u64 (IntKind.u64.wrap n))
  have a3 := as3_3 (.int .u64 (IntKind.u64.wrap n))
  have a6 := as3_6 (.int .u64 (IntKind.u64.wrap n))
  have a4 := as3_4 (.int .u64 (IntKind.u64.wrap n))
  have a5 := as3_5 (.int .u64 (IntKind.u64.wrap n))
  have a7 := as3_7 (.int .u64 (IntKind.u64.wrap n))
  have a8 := as3_8 (.int .u64 (IntKind.u64.wrap n))
  have a9 := as3_9 (.int .u64 (IntKind.u64.wrap n))
  have a10 := as3_10 (.int .u64 (IntKind.u64.wrap n))
  by_cases hs : s = ⟨#[]⟩
  case neg =>
    have gs := txt_nil hs
    have hv : ovB 3 n s tl il = true := by unfold ovB; clear a1 a2 a3 a6 a4 a5 a7 a8 a9 a10; simp [*]
    rw [hv]
    clear hv hs
    go_enter Tryd.func39, Tryd.ntmps39
    go_wp2
    go_ret
    exact ⟨rfl, (Below.refl w.heap.size w).alloc (Nat.le_refl _) _⟩
  have gs : (s.toList == []) = true := by rw [hs, ByteArray.toList_eq]; rfl
  by_cases ht : tl = 0
  case neg =>
    have gt : (0 : Int) < (tl : Int) := by omega
    have hv : ovB 3 n s tl il = true := by unfold ovB; clear a1 a2 a3 a6 a4 a5 a7 a8 a9 a10; simp [*]
    rw [hv]
    clear hv ht
    go_enter Tryd.func39, Tryd.ntmps39
    go_wp2
    go_ret
    exact ⟨rfl, (Below.refl w.heap.size w).alloc (Nat.le_refl _) _⟩
  have gt : ¬ (0 : Int) < (tl : Int) := by omega
  by_cases hi : il = 0
  case neg =>
    have gi : (0 : Int) < (il : Int) := by omega
    have hv : ovB 3 n s tl il = true := by unfold ovB; clear a1 a2 a3 a6 a4 a5 a7 a8 a9 a10; simp [*]
    rw [hv]
    clear hv hi
    go_enter Tryd.func39, Tryd.ntmps39
    go_wp2
    go_ret
    exact ⟨(by show Ending.returned (.bool (decide (0 < il))) = _; rw [decide_eq_true (by omega : 0 < il)]), (Below.refl w.heap.size w).alloc (Nat.le_refl _) _⟩
  have gi : ¬ (0 : Int) < (il : Int) := by omega
  have hv : ovB 3 n s tl il = false := by unfold ovB; clear a1 a2 a3 a6 a4 a5 a7 a8 a9 a10; simp [*]
  rw [hv]
  clear hv hs ht hi
  go_enter Tryd.func39, Tryd.ntmps39
  go_wp2
  go_ret
  exact ⟨(by show Ending.returned (.bool (decide (0 < il))) = _; rw [decide_eq_false (by omega : ¬ 0 < il)]), (Below.refl w.heap.size w).alloc (Nat.le_refl _) _⟩
set_option maxRecDepth 100000 in
set_option maxHeartbeats 1000000 in
theorem over6_any (n : Int) (s : ByteArray) (tb : Option Addr) (tl tc : Nat) (io : Option Addr) (il ic : Nat) (w : World) :
    Calls Tryd.prog 39 #[.agg #[.int .i64 6, .int .i64 n, .string s, .slice tb tl tc, .slice io il ic], .iface 58 (.int .i64 n)] w fun e w' => e = .returned (.bool (ovB 6 n s tl il)) ∧ Below w.heap.size w w' := by
  have a1 := as6_1 (.int .i64 n)
  have a2 := as6_2 (.int .i64 n)
  have a3 := as6_3 (.int .i64 n)
  have a6 := as6_6 (.int .i64 n)
  have a4 := as6_4 (.int .i64 n)
  have a5 := as6_5 (.int .i64 n)
  have a7 := as6_7 (.int .i64 n)
  have a8 := as6_8 (.int .i64 n)
  have a9 := as6_9 (.int .i64 n)
  have a10 := as6_10 (.int .i64 n)
  by_cases hs : s = ⟨#[]⟩
  case neg =>
    have gs := txt_nil hs
    have hv : ovB 6 n s tl il = true := by unfold ovB; clear a1 a2 a3 a6 a4 a5 a7 a8 a9 a10; simp [*]
    rw [hv]
    clear hv hs
    go_enter Tryd.func39, Tryd.ntmps39
    go_wp2
    go_ret
    exact ⟨rfl, (Below.refl w.heap.size w).alloc (Nat.le_refl _) _⟩
  have gs : (s.toList == []) = true := by rw [hs, ByteArray.toList_eq]; rfl
  by_cases ht : tl = 0
  case neg =>
    have gt : (0 : Int) < (tl : Int) := by omega
    have hv : ovB 6 n s tl il = true := by unfold ovB; clear a1 a2 a3 a6 a4 a5 a7 a8 a9 a10; simp [*]
    rw [hv]
    clear hv ht
    go_enter Tryd.func39, Tryd.ntmps39
    go_wp2
    go_ret
    exact ⟨rfl, (Below.refl w.heap.size w).alloc (Nat.le_refl _) _⟩
  have gt : ¬ (0 : Int) < (tl : Int) := by omega
  by_cases hi : il = 0
  case neg =>
    have gi : (0 : Int) < (il : Int) := by omega
    have hv : ovB 6 n s tl il = true := by unfold ovB; clear a1 a2 a3 a6 a4 a5 a7 a8 a9 a10; simp [*]
    rw [hv]
    clear hv hi
    go_enter Tryd.func39, Tryd.ntmps39
    go_wp2
    go_ret
    exact ⟨(by show Ending.returned (.bool (decide (0 < il))) = _; rw [decide_eq_true (by omega : 0 < il)]), (Below.refl w.heap.size w).alloc (Nat.le_refl _) _⟩
  have gi : ¬ (0 : Int) < (il : Int) := by omega
  have hv : ovB 6 n s tl il = false := by unfold ovB; clear a1 a2 a3 a6 a4 a5 a7 a8 a9 a10; simp [*]
  rw [hv]
  clear hv hs ht hi
  go_enter Tryd.func39, Tryd.ntmps39
  go_wp2
  go_ret
  exact ⟨(by show Ending.returned (.bool (decide (0 < il))) = _; rw [decide_eq_false (by omega : ¬ 0 < il)]), (Below.refl w.heap.size w).alloc (Nat.le_refl _) _⟩
set_option maxRecDepth 100000 in
set_option maxHeartbeats 1000000 in
theorem over4_any (n : Int) (s : ByteArray) (tb : Option Addr) (tl tc : Nat) (io : Option Addr) (il ic : Nat) (w : World) :
    Calls Tryd.prog 39 #[.agg #[.int .i64 4, .int .i64 n, .string s, .slice tb tl tc, .slice io il ic], .iface 59 (.string s)] w fun e w' => e = .returned (.bool (ovB 4 n s tl il)) ∧ Below w.heap.size w w' := by
  have a1 := as4_1 (.string s)
  have a2 := as4_2 (.string s)
  have a3 := as4_3 (.string s)
  have a6 := as4_6 (.string s)
  have a4 := as4_4 (.string s)
  have a5 := as4_5 (.string s)
  have a7 := as4_7 (.string s)
  have a8 := as4_8 (.string s)
  have a9 := as4_9 (.string s)
  have a10 := as4_10 (.string s)
  by_cases hn : n = 0
  case neg =>
    have gn : (n != 0) = true := by simpa using hn
    have hv : ovB 4 n s tl il = true := by unfold ovB; clear a1 a2 a3 a6 a4 a5 a7 a8 a9 a10; simp [*]
    rw [hv]
    clear hv hn
    go_enter Tryd.func39, Tryd.ntmps39
    go_wp2
    go_ret
    exact ⟨rfl, (Below.refl w.heap.size w).alloc (Nat.le_refl _) _⟩
  have gn : (n != 0) = false := by simpa using hn
  by_cases ht : tl = 0
  case neg =>
    have gt : (0 : Int) < (tl : Int) := by omega
    have hv : ovB 4 n s tl il = true := by unfold ovB; clear a1 a2 a3 a6 a4 a5 a7 a8 a9 a10; simp [*]
    rw [hv]
    clear hv ht
    go_enter Tryd.func39, Tryd.ntmps39
    go_wp2
    go_ret
    exact ⟨rfl, (Below.refl w.heap.size w).alloc (Nat.le_refl _) _⟩
  have gt : ¬ (0 : Int) < (tl : Int) := by omega
  by_cases hi : il = 0
  case neg =>
    have gi : (0 : Int) < (il : Int) := by omega
    have hv : ovB 4 n s tl il = true := by unfold ovB; clear a1 a2 a3 a6 a4 a5 a7 a8 a9 a10; simp [*]
    rw [hv]
    clear hv hi
    go_enter Tryd.func39, Tryd.ntmps39
    go_wp2
    go_ret
    exact ⟨(by show Ending.returned (.bool (decide (0 < il))) = _; rw [decide_eq_true (by omega : 0 < il)]), (Below.refl w.heap.size w).alloc (Nat.le_refl _) _⟩
  have gi : ¬ (0 : Int) < (il : Int) := by omega
  have hv : ovB 4 n s tl il = false := by unfold ovB; clear a1 a2 a3 a6 a4 a5 a7 a8 a9 a10; simp [*]
  rw [hv]
  clear hv hn ht hi
  go_enter Tryd.func39, Tryd.ntmps39
  go_wp2
  go_ret
  exact ⟨(by show Ending.returned (.bool (decide (0 < il))) = _; rw [decide_eq_false (by omega : ¬ 0 < il)]), (Below.refl w.heap.size w).alloc (Nat.le_refl _) _⟩
set_option maxRecDepth 100000 in
set_option maxHeartbeats 1000000 in
theorem over5_any (n : Int) (s : ByteArray) (tb : Option Addr) (tl tc : Nat) (io : Option Addr) (il ic : Nat) (w : World) :
    Calls Tryd.prog 39 #[.agg #[.int .i64 5, .int .i64 n, .string s, .slice tb tl tc, .slice io il ic], .iface 61 (.string s)] w fun e w' => e = .returned (.bool (ovB 5 n s tl il)) ∧ Below w.heap.size w w' := by
  have a1 := as5_1 (.string s)
  have a2 := as5_2 (.string s)
  have a3 := as5_3 (.string s)
  have a6 := as5_6 (.string s)
  have a4 := as5_4 (.string s)
  have a5 := as5_5 (.string s)
  have a7 := as5_7 (.string s)
  have a8 := as5_8 (.string s)
  have a9 := as5_9 (.string s)
  have a10 := as5_10 (.string s)
  by_cases hn : n = 0
  case neg =>
    have gn : (n != 0) = true := by simpa using hn
    have hv : ovB 5 n s tl il = true := by unfold ovB; clear a1 a2 a3 a6 a4 a5 a7 a8 a9 a10; simp [*]
    rw [hv]
    clear hv hn
    go_enter Tryd.func39, Tryd.ntmps39
    go_wp2
    go_ret
    exact ⟨rfl, (Below.refl w.heap.size w).alloc (Nat.le_refl _) _⟩
  have gn : (n != 0) = false := by simpa using hn
  by_cases ht : tl = 0
  case neg =>
    have gt : (0 : Int) < (tl : Int) := by omega
    have hv : ovB 5 n s tl il = true := by unfold ovB; clear a1 a2 a3 a6 a4 a5 a7 a8 a9 a10; simp [*]
    rw [hv]
    clear hv ht
    go_enter Tryd.func39, Tryd.ntmps39
    go_wp2
    go_ret
    exact ⟨rfl, (Below.refl w.heap.size w).alloc (Nat.le_refl _) _⟩
  have gt : ¬ (0 : Int) < (tl : Int) := by omega
  by_cases hi : il = 0
  case neg =>
    have gi : (0 : Int) < (il : Int) := by omega
    have hv : ovB 5 n s tl il = true := by unfold ovB; clear a1 a2 a3 a6 a4 a5 a7 a8 a9 a10; simp [*]
    rw [hv]
    clear hv hi
    go_enter Tryd.func39, Tryd.ntmps39
    go_wp2
    go_ret
    exact ⟨(by show Ending.returned (.bool (decide (0 < il))) = _; rw [decide_eq_true (by omega : 0 < il)]), (Below.refl w.heap.size w).alloc (Nat.le_refl _) _⟩
  have gi : ¬ (0 : Int) < (il : Int) := by omega
  have hv : ovB 5 n s tl il = false := by unfold ovB; clear a1 a2 a3 a6 a4 a5 a7 a8 a9 a10; simp [*]
  rw [hv]
  clear hv hn ht hi
  go_enter Tryd.func39, Tryd.ntmps39
  go_wp2
  go_ret
  exact ⟨(by show Ending.returned (.bool (decide (0 < il))) = _; rw [decide_eq_false (by omega : ¬ 0 < il)]), (Below.refl w.heap.size w).alloc (Nat.le_refl _) _⟩
set_option maxRecDepth 100000 in
set_option maxHeartbeats 1000000 in
theorem over7_any (n : Int) (s : ByteArray) (tb : Option Addr) (tl tc : Nat) (io : Option Addr) (il ic : Nat) (w : World) :
    Calls Tryd.prog 39 #[.agg #[.int .i64 7, .int .i64 n, .string s, .slice tb tl tc, .slice io il ic], .iface 62 (.slice io il ic)] w fun e w' => e = .returned (.bool (ovB 7 n s tl il)) ∧ Below w.heap.size w w' := by
  have a1 := as7_1 (.slice io il ic)
  have a2 := as7_2 (.slice io il ic)
  have a3 := as7_3 (.slice io il ic)
  have a6 := as7_6 (.slice io il ic)
  have a4 := as7_4 (.slice io il ic)
  have a5 := as7_5 (.slice io il ic)
  have a7 := as7_7 (.slice io il ic)
  have a8 := as7_8 (.slice io il ic)
  have a9 := as7_9 (.slice io il ic)
  have a10 := as7_10 (.slice io il ic)
  by_cases hn : n = 0
  case neg =>
    have gn : (n != 0) = true := by simpa using hn
    have hv : ovB 7 n s tl il = true := by unfold ovB; clear a1 a2 a3 a6 a4 a5 a7 a8 a9 a10; simp [*]
    rw [hv]
    clear hv hn
    go_enter Tryd.func39, Tryd.ntmps39
    go_wp2
    go_ret
    exact ⟨rfl, (Below.refl w.heap.size w).alloc (Nat.le_refl _) _⟩
  have gn : (n != 0) = false := by simpa using hn
  by_cases hs : s = ⟨#[]⟩
  case neg =>
    have gs := txt_nil hs
    have hv : ovB 7 n s tl il = true := by unfold ovB; clear a1 a2 a3 a6 a4 a5 a7 a8 a9 a10; simp [*]
    rw [hv]
    clear hv hs
    go_enter Tryd.func39, Tryd.ntmps39
    go_wp2
    go_ret
    exact ⟨rfl, (Below.refl w.heap.size w).alloc (Nat.le_refl _) _⟩
  have gs : (s.toList == []) = true := by rw [hs, ByteArray.toList_eq]; rfl
  by_cases ht : tl = 0
  case neg =>
    have gt : (0 : Int) < (tl : Int) := by omega
    have hv : ovB 7 n s tl il = true := by unfold ovB; clear a1 a2 a3 a6 a4 a5 a7 a8 a9 a10; simp [*]
    rw [hv]
    clear hv ht
    go_enter Tryd.func39, Tryd.ntmps39
    go_wp2
    go_ret
    exact ⟨rfl, (Below.refl w.heap.size w).alloc (Nat.le_refl _) _⟩
  have gt : ¬ (0 : Int) < (tl : Int) := by omega
  have hv : ovB 7 n s tl il = false := by unfold ovB; clear a1 a2 a3 a6 a4 a5 a7 a8 a9 a10; simp [*]
  rw [hv]
  clear hv hn hs ht
  go_enter Tryd.func39, Tryd.ntmps39
  go_wp2
  go_ret
  exact ⟨rfl, (Below.refl w.heap.size w).alloc (Nat.le_refl _) _⟩
set_option maxRecDepth 100000 in
set_option maxHeartbeats 1000000 in
theorem over8_any (n : Int) (s : ByteArray) (tb : Option Addr) (tl tc : Nat) (io : Option Addr) (il ic : Nat) (w : World) :
    Calls Tryd.prog 39 #[.agg #[.int .i64 8, .int .i64 n, .string s, .slice tb tl tc, .slice io il ic], .iface 65 (.slice io il ic)] w fun e w' => e = .returned (.bool (ovB 8 n s tl il)) ∧ Below w.heap.size w w' := by
  have a1 := as8_1 (.slice io il ic)
  have a2 := as8_2 (.slice io il ic)
  have a3 := as8_3 (.slice io il ic)
  have a6 := as8_6 (.slice io il ic)
  have a4 := as8_4 (.slice io il ic)
  have a5 := as8_5 (.slice io il ic)
  have a7 := as8_7 (.slice io il ic)
  have a8 := as8_8 (.slice io il ic)
  have a9 := as8_9 (.slice io il ic)
  have a10 := as8_10 (.slice io il ic)
  by_cases hn : n = 0
  case neg =>
    have gn : (n != 0) = true := by simpa using hn
    have hv : ovB 8 n s tl il = true := by unfold ovB; clear a1 a2 a3 a6 a4 a5 a7 a8 a9 a10; simp [*]
    rw [hv]
    clear hv hn
    go_enter Tryd.func39, Tryd.ntmps39
    go_wp2
    go_ret
    exact ⟨rfl, (Below.refl w.heap.size w).alloc (Nat.le_refl _) _⟩
  have gn : (n != 0) = false := by simpa using hn
  by_cases hs : s = ⟨#[]⟩
  case neg =>
    have gs := txt_nil hs
    have hv : ovB 8 n s tl il = true := by unfold ovB; clear a1 a2 a3 a6 a4 a5 a7 a8 a9 a10; simp [*]
    rw [hv]
    clear hv hs
    go_enter Tryd.func39, Tryd.ntmps39
    go_wp2
    go_ret
    exact ⟨rfl, (Below.refl w.heap.size w).alloc (Nat.le_refl _) _⟩
  have gs : (s.toList == []) = true := by rw [hs, ByteArray.toList_eq]; rfl
  by_cases ht : tl = 0
  case neg =>
    have gt : (0 : Int) < (tl : Int) := by omega
    have hv : ovB 8 n s tl il = true := by unfold ovB; clear a1 a2 a3 a6 a4 a5 a7 a8 a9 a10; simp [*]
    rw [hv]
    clear hv ht
    go_enter Tryd.func39, Tryd.ntmps39
    go_wp2
    go_ret
    exact ⟨rfl, (Below.refl w.heap.size w).alloc (Nat.le_refl _) _⟩
  have gt : ¬ (0 : Int) < (tl : Int) := by omega
  have hv : ovB 8 n s tl il = false := by unfold ovB; clear a1 a2 a3 a6 a4 a5 a7 a8 a9 a10; simp [*]
  rw [hv]
  clear hv hn hs ht
  go_enter Tryd.func39, Tryd.ntmps39
  go_wp2
  go_ret
  exact ⟨rfl, (Below.refl w.heap.size w).alloc (Nat.le_refl _) _⟩
set_option maxRecDepth 100000 in
set_option maxHeartbeats 1000000 in
theorem over9_any (n : Int) (s : ByteArray) (tb : Option Addr) (tl tc : Nat) (io : Option Addr) (il ic : Nat) (w : World) :
    Calls Tryd.prog 39 #[.agg #[.int .i64 9, .int .i64 n, .string s, .slice tb tl tc, .slice io il ic], .iface 69 (.agg #[.slice tb tl tc, .slice io il ic])] w fun e w' => e = .returned (.bool (ovB 9 n s tl il)) ∧ Below w.heap.size w w' := by
  have a1 := as9_1 (.agg #[.slice tb tl tc, .slice io il ic])
  have a2 := as9_2 (.agg #[.slice tb tl tc, .slice io il ic])
  have a3 := as9_3 (.agg #[.slice tb tl tc, .slice io il ic])
  have a6 := as9_6 (.agg #[.slice tb tl tc, .slice io il ic])
  have a4 := as9_4 (.agg #[.slice tb tl tc, .slice io il ic])
  have a5 := as9_5 (.agg #[.slice tb tl tc, .slice io il ic])
  have a7 := as9_7 (.agg #[.slice tb tl tc, .slice io il ic])
  have a8 := as9_8 (.agg #[.slice tb tl tc, .slice io il ic])
  have a9 := as9_9 (.agg #[.slice tb tl tc, .slice io il ic])
  have a10 := as9_10 (.agg #[.slice tb tl tc, .slice io il ic])
  by_cases hn : n = 0
  case neg =>
    have gn : (n != 0) = true := by simpa using hn
    have hv : ovB 9 n s tl il = true := by unfold ovB; clear a1 a2 a3 a6 a4 a5 a7 a8 a9 a10; simp [*]
    rw [hv]
    clear hv hn
    go_enter Tryd.func39, Tryd.ntmps39
    go_wp2
    go_ret
    exact ⟨rfl, (Below.refl w.heap.size w).alloc (Nat.le_refl _) _⟩
  have gn : (n != 0) = false := by simpa using hn
  by_cases hs : s = ⟨#[]⟩
  case neg =>
    have gs := txt_nil hs
    have hv : ovB 9 n s tl il = true := by unfold ovB; clear a1 a2 a3 a6 a4 a5 a7 a8 a9 a10; simp [*]
    rw [hv]
    clear hv hs
    go_enter Tryd.func39, Tryd.ntmps39
    go_wp2
    go_ret
    exact ⟨rfl, (Below.refl w.heap.size w).alloc (Nat.le_refl _) _⟩
  have gs : (s.toList == []) = true := by rw [hs, ByteArray.toList_eq]; rfl
  have hv : ovB 9 n s tl il = false := by unfold ovB; clear a1 a2 a3 a6 a4 a5 a7 a8 a9 a10; simp [*]
  rw [hv]
  clear hv hn hs
  go_enter Tryd.func39, Tryd.ntmps39
  go_wp2
  go_ret
  exact ⟨rfl, (Below.refl w.heap.size w).alloc (Nat.le_refl _) _⟩
set_option maxRecDepth 100000 in
set_option maxHeartbeats 1000000 in
theorem over10_any (n : Int) (s : ByteArray) (tb : Option Addr) (tl tc : Nat) (io : Option Addr) (il ic : Nat) (w : World) :
    Calls Tryd.prog 39 #[.agg #[.int .i64 10, .int .i64 n, .string s, .slice tb tl tc, .slice io il ic], .iface 70 (.agg #[.slice tb tl tc, .slice io il ic])] w fun e w' => e = .returned (.bool (ovB 10 n s tl il)) ∧ Below w.heap.size w w' := by
  have a1 := as10_1 (.agg #[.slice tb tl tc, .slice io il ic])
  have a2 := as10_2 (.agg #[.slice tb tl tc, .slice io il ic])
  have a3 := as10_3 (.agg #[.slice tb tl tc, .slice io il ic])
  have a6 := as10_6 (.agg #[.slice tb tl tc, .slice io il ic])
  have a4 := as10_4 (.agg #[.slice tb tl tc, .slice io il ic])
  have a5 := as10_5 (.agg #[.slice tb tl tc, .slice io il ic])
  have a7 := as10_7 (.agg #[.slice tb tl tc, .slice io il ic])
  have a8 := as10_8 (.agg #[.slice tb tl tc, .slice io il ic])
  have a9 := as10_9 (.agg #[.slice tb tl tc, .slice io il ic])
  have a10 := as10_10 (.agg #[.slice tb tl tc, .slice io il ic])
  by_cases hn : n = 0
  case neg =>
    have gn : (n != 0) = true := by simpa using hn
    have hv : ovB 10 n s tl il = true := by unfold ovB; clear a1 a2 a3 a6 a4 a5 a7 a8 a9 a10; simp [*]
    rw [hv]
    clear hv hn
    go_enter Tryd.func39, Tryd.ntmps39
    go_wp2
    go_ret
    exact ⟨rfl, (Below.refl w.heap.size w).alloc (Nat.le_refl _) _⟩
  have gn : (n != 0) = false := by simpa using hn
  by_cases hs : s = ⟨#[]⟩
  case neg =>
    have gs := txt_nil hs
    have hv : ovB 10 n s tl il = true := by unfold ovB; clear a1 a2 a3 a6 a4 a5 a7 a8 a9 a10; simp [*]
    rw [hv]
    clear hv hs
    go_enter Tryd.func39, Tryd.ntmps39
    go_wp2
    go_ret
    exact ⟨rfl, (Below.refl w.heap.size w).alloc (Nat.le_refl _) _⟩
  have gs : (s.toList == []) = true := by rw [hs, ByteArray.toList_eq]; rfl
  have hv : ovB 10 n s tl il = false := by unfold ovB; clear a1 a2 a3 a6 a4 a5 a7 a8 a9 a10; simp [*]
  rw [hv]
  clear hv hn hs
  go_enter Tryd.func39, Tryd.ntmps39
  go_wp2
  go_ret
  exact ⟨rfl, (Below.refl w.heap.size w).alloc (Nat.le_refl _) _⟩
end Go.Proofs.YthgaipdhgckmdaaDoor.Va
