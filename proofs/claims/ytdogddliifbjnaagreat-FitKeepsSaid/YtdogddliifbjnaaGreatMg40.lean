/- Values: the contract of the program's over. (Printed by gen/over.py.) -/
import Derived.Test.YtdogddliifbjnaaGreatMg58
import Derived.Test.YtdogddliifbjnaaGreatMg36
import Derived.Test.YtdogddliifbjnaaGreatMg39
namespace Go.Proofs.YtdogddliifbjnaaGreat.Va
open Go.RowKit Cm
set_option linter.unusedVariables false
set_option linter.unusedSimpArgs false

/-- Has a value of kind k more than one of its kind has? -/
def ovB (k n : Int) (s : ByteArray) (tl il : Nat) : Bool :=
  (!decide (k = 1 ∨ k = 2 ∨ k = 3 ∨ k = 6) && decide (n ≠ 0)) || (!decide (k = 4 ∨ k = 5) && decide (s ≠ ⟨#[]⟩)) || (!decide (k = 9 ∨ k = 10) && decide (tl ≠ 0)) || (!decide (k = 7 ∨ k = 8 ∨ k = 9 ∨ k = 10) && decide (il ≠ 0))
set_option maxRecDepth 100000 in
set_option maxHeartbeats 1000000 in
theorem over1_any (n : Int) (s : ByteArray) (tb : Option Addr) (tl tc : Nat) (io : Option Addr) (il ic : Nat) (w : World) :
    Calls Tryz.prog 73 #[.agg #[.int .i64 1, .int .i64 n, .string s, .slice tb tl tc, .slice io il ic], .iface 165 (.int .i64 n)] w fun e w' => e = .returned (.bool (ovB 1 n s tl il)) ∧ Below w.heap.size w w' := by
  have a1 := as1_1 (.int .i64 n)
  have a2 := as1_2 (.int .i64 n)
  have a3 := as1_3 (.int .i64 n)
  have a6 := as1_6 (.int .i64 n)
  have a4 := as1_4 (.int .i64 n)
  have a5 := as1_5 (.int .i64 n)
  have a7 := as1_7 (.int .i64 n)
  have a8 := as1_8 (.int .i64 n)
  have a9 := as1_9 (.int .i64 n)
  have a10 := as1_10 (.int .i64 n)
  by_cases hs : s = ⟨#[]⟩
  case neg =>
    have gs := txt_nil hs
    have hv : ovB 1 n s tl il = true := by unfold ovB; clear a1 a2 a3 a6 a4 a5 a7 a8 a9 a10; simp [*]
    rw [hv]
    clear hv hs
    go_enter Tryz.func73, Tryz.ntmps73
    go_wp2
    go_ret
    exact ⟨rfl, (Below.refl w.heap.size w).alloc (Nat.le_refl _) _⟩
  have gs : (s.toList == []) = true := by rw [hs, ByteArray.toList_eq]; rfl
  by_cases ht : tl = 0
  case neg =>
    have gt : (0 : Int) < (tl : Int) := by omega
    have hv : ovB 1 n s tl il = true := by unfold ovB; clear a1 a2 a3 a6 a4 a5 a7 a8 a9 a10; simp [*]
    rw [hv]
    clear hv ht
    go_enter Tryz.func73, Tryz.ntmps73
    go_wp2
    go_ret
    exact ⟨rfl, (Below.refl w.heap.size w).alloc (Nat.le_refl _) _⟩
  have gt : ¬ (0 : Int) < (tl : Int) := by omega
  by_cases hi : il = 0
  case neg =>
    have gi : (0 : Int) < (il : Int) := by omega
    have hv : ovB 1 n s tl il = true := by unfold ovB; clear a1 a2 a3 a6 a4 a5 a7 a8 a9 a10; simp [*]
    rw [hv]
    clear hv hi
    go_enter Tryz.func73, Tryz.ntmps73
    go_wp2
    go_ret
    exact ⟨(by show Ending.returned (.bool (decide (0 < il))) = _; rw [decide_eq_true (by omega : 0 < il)]), (Below.refl w.heap.size w).alloc (Nat.le_refl _) _⟩
  have gi : ¬ (0 : Int) < (il : Int) := by omega
  have hv : ovB 1 n s tl il = false := by unfold ovB; clear a1 a2 a3 a6 a4 a5 a7 a8 a9 a10; simp [*]
  rw [hv]
  clear hv hs ht hi
  go_enter Tryz.func73, Tryz.ntmps73
  go_wp2
  go_ret
  exact ⟨(by show Ending.returned (.bool (decide (0 < il))) = _; rw [decide_eq_false (by omega : ¬ 0 < il)]), (Below.refl w.heap.size w).alloc (Nat.le_refl _) _⟩
set_option maxRecDepth 100000 in
set_option maxHeartbeats 1000000 in
theorem over2_any (n : Int) (s : ByteArray) (tb : Option Addr) (tl tc : Nat) (io : Option Addr) (il ic : Nat) (w : World) :
    Calls Tryz.prog 73 #[.agg #[.int .i64 2, .int .i64 n, .string s, .slice tb tl tc, .slice io il ic], .iface 166 (.int .i64 n)] w fun e w' => e = .returned (.bool (ovB 2 n s tl il)) ∧ Below w.heap.size w w' := by
  have a1 := as2_1 (.int .i64 n)
  have a2 := as2_2 (.int .i64 n)
  have a3 := as2_3 (.int .i64 n)
  have a6 := as2_6 (.int .i64 n)
  have a4 := as2_4 (.int .i64 n)
  have a5 := as2_5 (.int .i64 n)
  have a7 := as2_7 (.int .i64 n)
  have a8 := as2_8 (.int .i64 n)
  have a9 := as2_9 (.int .i64 n)
  have a10 := as2_10 (.int .i64 n)
  by_cases hs : s = ⟨#[]⟩
  case neg =>
    have gs := txt_nil hs
    have hv : ovB 2 n s tl il = true := by unfold ovB; clear a1 a2 a3 a6 a4 a5 a7 a8 a9 a10; simp [*]
    rw [hv]
    clear hv hs
    go_enter Tryz.func73, Tryz.ntmps73
    go_wp2
    go_ret
    exact ⟨rfl, (Below.refl w.heap.size w).alloc (Nat.le_refl _) _⟩
  have gs : (s.toList == []) = true := by rw [hs, ByteArray.toList_eq]; rfl
  by_cases ht : tl = 0
  case neg =>
    have gt : (0 : Int) < (tl : Int) := by omega
    have hv : ovB 2 n s tl il = true := by unfold ovB; clear a1 a2 a3 a6 a4 a5 a7 a8 a9 a10; simp [*]
    rw [hv]
    clear hv ht
    go_enter Tryz.func73, Tryz.ntmps73
    go_wp2
    go_ret
    exact ⟨rfl, (Below.refl w.heap.size w).alloc (Nat.le_refl _) _⟩
  have gt : ¬ (0 : Int) < (tl : Int) := by omega
  by_cases hi : il = 0
  case neg =>
    have gi : (0 : Int) < (il : Int) := by omega
    have hv : ovB 2 n s tl il = true := by unfold ovB; clear a1 a2 a3 a6 a4 a5 a7 a8 a9 a10; simp [*]
    rw [hv]
    clear hv hi
    go_enter Tryz.func73, Tryz.ntmps73
    go_wp2
    go_ret
    exact ⟨(by show Ending.returned (.bool (decide (0 < il))) = _; rw [decide_eq_true (by omega : 0 < il)]), (Below.refl w.heap.size w).alloc (Nat.le_refl _) _⟩
  have gi : ¬ (0 : Int) < (il : Int) := by omega
  have hv : ovB 2 n s tl il = false := by unfold ovB; clear a1 a2 a3 a6 a4 a5 a7 a8 a9 a10; simp [*]
  rw [hv]
  clear hv hs ht hi
  go_enter Tryz.func73, Tryz.ntmps73
  go_wp2
  go_ret
  exact ⟨(by show Ending.returned (.bool (decide (0 < il))) = _; rw [decide_eq_false (by omega : ¬ 0 < il)]), (Below.refl w.heap.size w).alloc (Nat.le_refl _) _⟩
set_option maxRecDepth 100000 in
set_option maxHeartbeats 1000000 in
theorem over3_any (n : Int) (s : ByteArray) (tb : Option Addr) (tl tc : Nat) (io : Option Addr) (il ic : Nat) (w : World) :
    Calls Tryz.prog 73 #[.agg #[.int .i64 3, .int .i64 n, .string s, .slice tb tl tc, .slice io il ic], .iface 168 (.int .u64 (IntKind.u64.wrap n))] w fun e w' => e = .returned (.bool (ovB 3 n s tl il)) ∧ Below w.heap.size w w' := by
  have a1 := as3_1 (.int .u64 (IntKind.u64.wrap n))
  have a2 := as3_2 (.int .u64 (IntKind.u64.wrap n))
  have a3 := as3_3 (.int .u64 (IntKind.u64.wrap n))
  have a6 := as3_6 (.int .u64 (IntKind.u64.wrap n))
  have a4 := as3_4 (.int .u64 (IntKind.u64.wrap n))
  have a5 := as3_5 (.int .u64 (IntKind.u64.wrap n))
  have a7 := as3_7 (.int .u64 (IntKind.u64.wrap n))
  have a8 := as3_8 (.int .u64 (IntKind.u64.wrap n))
  have a9 := as3_9 (.int .u64 (IntKind.u64.wrap n))
  have a10 := as3_10 (.int .u64 (IntKind.u64.wrap n))
  by_cases hs : s = ⟨#[]⟩
  case neg =>
    have gs := txt_nil hs
    have hv : ovB 3 n s tl il = true := by unfold ovB; clear a1 a2 a3 a6 a4 a5 a7 a8 a9 a10; simp [*]
    rw [hv]
    clear hv hs
    go_enter Tryz.func73, Tryz.ntmps73
    go_wp2
    go_ret
    exact ⟨rfl, (Below.refl w.heap.size w).alloc (Nat.le_refl _) _⟩
  have gs : (s.toList == []) = true := by rw [hs, ByteArray.toList_eq]; rfl
  by_cases ht : tl = 0
  case neg =>
    have gt : (0 : Int) < (tl : Int) := by omega
    have hv : ovB 3 n s tl il = true := by unfold ovB; clear a1 a2 a3 a6 a4 a5 a7 a8 a9 a10; simp [*]
    rw [hv]
    clear hv ht
    go_enter Tryz.func73, Tryz.ntmps73
    go_wp2
    go_ret
    exact ⟨rfl, (Below.refl w.heap.size w).alloc (Nat.le_refl _) _⟩
  have gt : ¬ (0 : Int) < (tl : Int) := by omega
  by_cases hi : il = 0
  case neg =>
    have gi : (0 : Int) < (il : Int) := by omega
    have hv : ovB 3 n s tl il = true := by unfold ovB; clear a1 a2 a3 a6 a4 a5 a7 a8 a9 a10; simp [*]
    rw [hv]
    clear hv hi
    go_enter Tryz.func73, Tryz.ntmps73
    go_wp2
    go_ret
    exact ⟨(by show Ending.returned (.bool (decide (0 < il))) = _; rw [decide_eq_true (by omega : 0 < il)]), (Below.refl w.heap.size w).alloc (Nat.le_refl _) _⟩
  have gi : ¬ (0 : Int) < (il : Int) := by omega
  have hv : ovB 3 n s tl il = false := by unfold ovB; clear a1 a2 a3 a6 a4 a5 a7 a8 a9 a10; simp [*]
  rw [hv]
  clear hv hs ht hi
  go_enter Tryz.func73, Tryz.ntmps73
  go_wp2
  go_ret
  exact ⟨(by show Ending.returned (.bool (decide (0 < il))) = _; rw [decide_eq_false (by omega : ¬ 0 < il)]), (Below.refl w.heap.size w).alloc (Nat.le_refl _) _⟩
set_option maxRecDepth 100000 in
set_option maxHeartbeats 1000000 in
theorem over6_any (n : Int) (s : ByteArray) (tb : Option Addr) (tl tc : Nat) (io : Option Addr) (il ic : Nat) (w : World) :
    Calls Tryz.prog 73 #[.agg #[.int .i64 6, .int .i64 n, .string s, .slice tb tl tc, .slice io il ic], .iface 169 (.int .i64 n)] w fun e w' => e = .returned (.bool (ovB 6 n s tl il)) ∧ Below w.heap.size w w' := by
  have a1 := as6_1 (.int .i64 n)
  have a2 := as6_2 (.int .i64 n)
  have a3 := as6_3 (.int .i64 n)
  have a6 := as6_6 (.int .i64 n)
  have a4 := as6_4 (.int .i64 n)
  have a5 := as6_5 (.int .i64 n)
  have a7 := as6_7 (.int .i64 n)
  have a8 := as6_8 (.int .i64 n)
  have a9 := as6_9 (.int .i64 n)
  have a10 := as6_10 (.int .i64 n)
  by_cases hs : s = ⟨#[]⟩
  case neg =>
    have gs := txt_nil hs
    have hv : ovB 6 n s tl il = true := by unfold ovB; clear a1 a2 a3 a6 a4 a5 a7 a8 a9 a10; simp [*]
    rw [hv]
    clear hv hs
    go_enter Tryz.func73, Tryz.ntmps73
    go_wp2
    go_ret
    exact ⟨rfl, (Below.refl w.heap.size w).alloc (Nat.le_refl _) _⟩
  have gs : (s.toList == []) = true := by rw [hs, ByteArray.toList_eq]; rfl
  by_cases ht : tl = 0
  case neg =>
    have gt : (0 : Int) < (tl : Int) := by omega
    have hv : ovB 6 n s tl il = true := by unfold ovB; clear a1 a2 a3 a6 a4 a5 a7 a8 a9 a10; simp [*]
    rw [hv]
    clear hv ht
    go_enter Tryz.func73, Tryz.ntmps73
    go_wp2
    go_ret
    exact ⟨rfl, (Below.refl w.heap.size w).alloc (Nat.le_refl _) _⟩
  have gt : ¬ (0 : Int) < (tl : Int) := by omega
  by_cases hi : il = 0
  case neg =>
    have gi : (0 : Int) < (il : Int) := by omega
    have hv : ovB 6 n s tl il = true := by unfold ovB; clear a1 a2 a3 a6 a4 a5 a7 a8 a9 a10; simp [*]
    rw [hv]
    clear hv hi
    go_enter Tryz.func73, Tryz.ntmps73
    go_wp2
    go_ret
    exact ⟨(by show Ending.returned (.bool (decide (0 < il))) = _; rw [decide_eq_true (by omega : 0 < il)]), (Below.refl w.heap.size w).alloc (Nat.le_refl _) _⟩
  have gi : ¬ (0 : Int) < (il : Int) := by omega
  have hv : ovB 6 n s tl il = false := by unfold ovB; clear a1 a2 a3 a6 a4 a5 a7 a8 a9 a10; simp [*]
  rw [hv]
  clear hv hs ht hi
  go_enter Tryz.func73, Tryz.ntmps73
  go_wp2
  go_ret
  exact ⟨(by show Ending.returned (.bool (decide (0 < il))) = _; rw [decide_eq_false (by omega : ¬ 0 < il)]), (Below.refl w.heap.size w).alloc (Nat.le_refl _) _⟩
set_option maxRecDepth 100000 in
set_option maxHeartbeats 1000000 in
theorem over4_any (n : Int) (s : ByteArray) (tb : Option Addr) (tl tc : Nat) (io : Option Addr) (il ic : Nat) (w : World) :
    Calls Tryz.prog 73 #[.agg #[.int .i64 4, .int .i64 n, .string s, .slice tb tl tc, .slice io il ic], .iface 170 (.string s)] w fun e w' => e = .returned (.bool (ovB 4 n s tl il)) ∧ Below w.heap.size w w' := by
  have a1 := as4_1 (.string s)
  have a2 := as4_2 (.string s)
  have a3 := as4_3 (.string s)
  have a6 := as4_6 (.string s)
  have a4 := as4_4 (.string s)
  have a5 := as4_5 (.string s)
  have a7 := as4_7 (.string s)
  have a8 := as4_8 (.string s)
  have a9 := as4_9 (.string s)
  have a10 := as4_10 (.string s)
  by_cases hn : n = 0
  case neg =>
    have gn : (n != 0) = true := by simpa using hn
    have hv : ovB 4 n s tl il = true := by unfold ovB; clear a1 a2 a3 a6 a4 a5 a7 a8 a9 a10; simp [*]
    rw [hv]
    clear hv hn
    go_enter Tryz.func73, Tryz.ntmps73
    go_wp2
    go_ret
    exact ⟨rfl, (Below.refl w.heap.size w).alloc (Nat.le_refl _) _⟩
  have gn : (n != 0) = false := by simpa using hn
  by_cases ht : tl = 0
  case neg =>
    have gt : (0 : Int) < (tl : Int) := by omega
    have hv : ovB 4 n s tl il = true := by unfold ovB; clear a1 a2 a3 a6 a4 a5 a7 a8 a9 a10; simp [*]
    rw [hv]
    clear hv ht
    go_enter Tryz.func73, Tryz.ntmps73
    go_wp2
    go_ret
    exact ⟨rfl, (Below.refl w.heap.size w).alloc (Nat.le_refl _) _⟩
  have gt : ¬ (0 : Int) < (tl : Int) := by omega
  by_cases hi : il = 0
  case neg =>
    have gi : (0 : Int) < (il : Int) := by omega
    have hv : ovB 4 n s tl il = true := by unfold ovB; clear a1 a2 a3 a6 a4 a5 a7 a8 a9 a10; simp [*]
    rw [hv]
    clear hv hi
    go_enter Tryz.func73, Tryz.ntmps73
    go_wp2
    go_ret
    exact ⟨(by show Ending.returned (.bool (decide (0 < il))) = _; rw [decide_eq_true (by omega : 0 < il)]), (Below.refl w.heap.size w).alloc (Nat.le_refl _) _⟩
  have gi : ¬ (0 : Int) < (il : Int) := by omega
  have hv : ovB 4 n s tl il = false := by unfold ovB; clear a1 a2 a3 a6 a4 a5 a7 a8 a9 a10; simp [*]
  rw [hv]
  clear hv hn ht hi
  go_enter Tryz.func73, Tryz.ntmps73
  go_wp2
  go_ret
  exact ⟨(by show Ending.returned (.bool (decide (0 < il))) = _; rw [decide_eq_false (by omega : ¬ 0 < il)]), (Below.refl w.heap.size w).alloc (Nat.le_refl _) _⟩
set_option maxRecDepth 100000 in
set_option maxHeartbeats 1000000 in
theorem over5_any (n : Int) (s : ByteArray) (tb : Option Addr) (tl tc : Nat) (io : Option Addr) (il ic : Nat) (w : World) :
    Calls Tryz.prog 73 #[.agg #[.int .i64 5, .int .i64 n, .string s, .slice tb tl tc, .slice io il ic], .iface 171 (.string s)] w fun e w' => e = .returned (.bool (ovB 5 n s tl il)) ∧ Below w.heap.size w w' := by
  have a1 := as5_1 (.string s)
  have a2 := as5_2 (.string s)
  have a3 := as5_3 (.string s)
  have a6 := as5_6 (.string s)
  have a4 := as5_4 (.string s)
  have a5 := as5_5 (.string s)
  have a7 := as5_7 (.string s)
  have a8 := as5_8 (.string s)
  have a9 := as5_9 (.string s)
  have a10 := as5_10 (.string s)
  by_cases hn : n = 0
  case neg =>
    have gn : (n != 0) = true := by simpa using hn
    have hv : ovB 5 n s tl il = true := by unfold ovB; clear a1 a2 a3 a6 a4 a5 a7 a8 a9 a10; simp [*]
    rw [hv]
    clear hv hn
    go_enter Tryz.func73, Tryz.ntmps73
    go_wp2
    go_ret
    exact ⟨rfl, (Below.refl w.heap.size w).alloc (Nat.le_refl _) _⟩
  have gn : (n != 0) = false := by simpa using hn
  by_cases ht : tl = 0
  case neg =>
    have gt : (0 : Int) < (tl : Int) := by omega
    have hv : ovB 5 n s tl il = true := by unfold ovB; clear a1 a2 a3 a6 a4 a5 a7 a8 a9 a10; simp [*]
    rw [hv]
    clear hv ht
    go_enter Tryz.func73, Tryz.ntmps73
    go_wp2
    go_ret
    exact ⟨rfl, (Below.refl w.heap.size w).alloc (Nat.le_refl _) _⟩
  have gt : ¬ (0 : Int) < (tl : Int) := by omega
  by_cases hi : il = 0
  case neg =>
    have gi : (0 : Int) < (il : Int) := by omega
    have hv : ovB 5 n s tl il = true := by unfold ovB; clear a1 a2 a3 a6 a4 a5 a7 a8 a9 a10; simp [*]
    rw [hv]
    clear hv hi
    go_enter Tryz.func73, Tryz.ntmps73
    go_wp2
    go_ret
    exact ⟨(by show Ending.returned (.bool (decide (0 < il))) = _; rw [decide_eq_true (by omega : 0 < il)]), (Below.refl w.heap.size w).alloc (Nat.le_refl _) _⟩
  have gi : ¬ (0 : Int) < (il : Int) := by omega
  have hv : ovB 5 n s tl il = false := by unfold ovB; clear a1 a2 a3 a6 a4 a5 a7 a8 a9 a10; simp [*]
  rw [hv]
  clear hv hn ht hi
  go_enter Tryz.func73, Tryz.ntmps73
  go_wp2
  go_ret
  exact ⟨(by show Ending.returned (.bool (decide (0 < il))) = _; rw [decide_eq_false (by omega : ¬ 0 < il)]), (Below.refl w.heap.size w).alloc (Nat.le_refl _) _⟩
set_option maxRecDepth 100000 in
set_option maxHeartbeats 1000000 in
theorem over7_any (n : Int) (s : ByteArray) (tb : Option Addr) (tl tc : Nat) (io : Option Addr) (il ic : Nat) (w : World) :
    Calls Tryz.prog 73 #[.agg #[.int .i64 7, .int .i64 n, .string s, .slice tb tl tc, .slice io il ic], .iface 172 (.slice io il ic)] w fun e w' => e = .returned (.bool (ovB 7 n s tl il)) ∧ Below w.heap.size w w' := by
  have a1 := as7_1 (.slice io il ic)
  have a2 := as7_2 (.slice io il ic)
  have a3 := as7_3 (.slice io il ic)
  have a6 := as7_6 (.slice io il ic)
  have a4 := as7_4 (.slice io il ic)
  have a5 := as7_5 (.slice io il ic)
  have a7 := as7_7 (.slice io il ic)
  have a8 := as7_8 (.slice io il ic)
  have a9 := as7_9 (.slice io il ic)
  have a10 := as7_10 (.slice io il ic)
  by_cases hn : n = 0
  case neg =>
    have gn : (n != 0) = true := by simpa using hn
    have hv : ovB 7 n s tl il = true := by unfold ovB; clear a1 a2 a3 a6 a4 a5 a7 a8 a9 a10; simp [*]
    rw [hv]
    clear hv hn
    go_enter Tryz.func73, Tryz.ntmps73
    go_wp2
    go_ret
    exact ⟨rfl, (Below.refl w.heap.size w).alloc (Nat.le_refl _) _⟩
  have gn : (n != 0) = false := by simpa using hn
  by_cases hs : s = ⟨#[]⟩
  case neg =>
    have gs := txt_nil hs
    have hv : ovB 7 n s tl il = true := by unfold ovB; clear a1 a2 a3 a6 a4 a5 a7 a8 a9 a10; simp [*]
    rw [hv]
    clear hv hs
    go_enter Tryz.func73, Tryz.ntmps73
    go_wp2
    go_ret
    exact ⟨rfl, (Below.refl w.heap.size w).alloc (Nat.le_refl _) _⟩
  have gs : (s.toList == []) = true := by rw [hs, ByteArray.toList_eq]; rfl
  by_cases ht : tl = 0
  case neg =>
    have gt : (0 : Int) < (tl : Int) := by omega
    have hv : ovB 7 n s tl il = true := by unfold ovB; clear a1 a2 a3 a6 a4 a5 a7 a8 a9 a10; simp [*]
    rw [hv]
    clear hv ht
    go_enter Tryz.func73, Tryz.ntmps73
    go_wp2
    go_ret
    exact ⟨rfl, (Below.refl w.heap.size w).alloc (Nat.le_refl _) _⟩
  have gt : ¬ (0 : Int) < (tl : Int) := by omega
  have hv : ovB 7 n s tl il = false := by unfold ovB; clear a1 a2 a3 a6 a4 a5 a7 a8 a9 a10; simp [*]
  rw [hv]
  clear hv hn hs ht
  go_enter Tryz.func73, Tryz.ntmps73
  go_wp2
  go_ret
  exact ⟨rfl, (Below.refl w.heap.size w).alloc (Nat.le_refl _) _⟩
set_option maxRecDepth 100000 in
set_option maxHeartbeats 1000000 in
theorem over8_any (n : Int) (s : ByteArray) (tb : Option Addr) (tl tc : Nat) (io : Option Addr) (il ic : Nat) (w : World) :
    Calls Tryz.prog 73 #[.agg #[.int .i64 8, .int .i64 n, .string s, .slice tb tl tc, .slice io il ic], .iface 173 (.slice io il ic)] w fun e w' => e = .returned (.bool (ovB 8 n s tl il)) ∧ Below w.heap.size w w' := by
  have a1 := as8_1 (.slice io il ic)
  have a2 := as8_2 (.slice io il ic)
  have a3 := as8_3 (.slice io il ic)
  have a6 := as8_6 (.slice io il ic)
  have a4 := as8_4 (.slice io il ic)
  have a5 := as8_5 (.slice io il ic)
  have a7 := as8_7 (.slice io il ic)
  have a8 := as8_8 (.slice io il ic)
  have a9 := as8_9 (.slice io il ic)
  have a10 := as8_10 (.slice io il ic)
  by_cases hn : n = 0
  case neg =>
    have gn : (n != 0) = true := by simpa using hn
    have hv : ovB 8 n s tl il = true := by unfold ovB; clear a1 a2 a3 a6 a4 a5 a7 a8 a9 a10; simp [*]
    rw [hv]
    clear hv hn
    go_enter Tryz.func73, Tryz.ntmps73
    go_wp2
    go_ret
    exact ⟨rfl, (Below.refl w.heap.size w).alloc (Nat.le_refl _) _⟩
  have gn : (n != 0) = false := by simpa using hn
  by_cases hs : s = ⟨#[]⟩
  case neg =>
    have gs := txt_nil hs
    have hv : ovB 8 n s tl il = true := by unfold ovB; clear a1 a2 a3 a6 a4 a5 a7 a8 a9 a10; simp [*]
    rw [hv]
    clear hv hs
    go_enter Tryz.func73, Tryz.ntmps73
    go_wp2
    go_ret
    exact ⟨rfl, (Below.refl w.heap.size w).alloc (Nat.le_refl _) _⟩
  have gs : (s.toList == []) = true := by rw [hs, ByteArray.toList_eq]; rfl
  by_cases ht : tl = 0
  case neg =>
    have gt : (0 : Int) < (tl : Int) := by omega
    have hv : ovB 8 n s tl il = true := by unfold ovB; clear a1 a2 a3 a6 a4 a5 a7 a8 a9 a10; simp [*]
    rw [hv]
    clear hv ht
    go_enter Tryz.func73, Tryz.ntmps73
    go_wp2
    go_ret
    exact ⟨rfl, (Below.refl w.heap.size w).alloc (Nat.le_refl _) _⟩
  have gt : ¬ (0 : Int) < (tl : Int) := by omega
  have hv : ovB 8 n s tl il = false := by unfold ovB; clear a1 a2 a3 a6 a4 a5 a7 a8 a9 a10; simp [*]
  rw [hv]
  clear hv hn hs ht
  go_enter Tryz.func73, Tryz.ntmps73
  go_wp2
  go_ret
  exact ⟨rfl, (Below.refl w.heap.size w).alloc (Nat.le_refl _) _⟩
set_option maxRecDepth 100000 in
set_option maxHeartbeats 1000000 in
theorem over9_any (n : Int) (s : ByteArray) (tb : Option Addr) (tl tc : Nat) (io : Option Addr) (il ic : Nat) (w : World) :
    Calls Tryz.prog 73 #[.agg #[.int .i64 9, .int .i64 n, .string s, .slice tb tl tc, .slice io il ic], .iface 177 (.agg #[.slice tb tl tc, .slice io il ic])] w fun e w' => e = .returned (.bool (ovB 9 n s tl il)) ∧ Below w.heap.size w w' := by
  have a1 := as9_1 (.agg #[.slice tb tl tc, .slice io il ic])
  have a2 := as9_2 (.agg #[.slice tb tl tc, .slice io il ic])
  have a3 := as9_3 (.agg #[.slice tb tl tc, .slice io il ic])
  have a6 := as9_6 (.agg #[.slice tb tl tc, .slice io il ic])
  have a4 := as9_4 (.agg #[.slice tb tl tc, .slice io il ic])
  have a5 := as9_5 (.agg #[.slice tb tl tc, .slice io il ic])
  have a7 := as9_7 (.agg #[.slice tb tl tc, .slice io il ic])
  have a8 := as9_8 (.agg #[.slice tb tl tc, .slice io il ic])
  have a9 := as9_9 (.agg #[.slice tb tl tc, .slice io il ic])
  have a10 := as9_10 (.agg #[.slice tb tl tc, .slice io il ic])
  by_cases hn : n = 0
  case neg =>
    have gn : (n != 0) = true := by simpa using hn
    have hv : ovB 9 n s tl il = true := by unfold ovB; clear a1 a2 a3 a6 a4 a5 a7 a8 a9 a10; simp [*]
    rw [hv]
    clear hv hn
    go_enter Tryz.func73, Tryz.ntmps73
    go_wp2
    go_ret
    exact ⟨rfl, (Below.refl w.heap.size w).alloc (Nat.le_refl _) _⟩
  have gn : (n != 0) = false := by simpa using hn
  by_cases hs : s = ⟨#[]⟩
  case neg =>
    have gs := txt_nil hs
    have hv : ovB 9 n s tl il = true := by unfold ovB; clear a1 a2 a3 a6 a4 a5 a7 a8 a9 a10; simp [*]
    rw [hv]
    clear hv hs
    go_enter Tryz.func73, Tryz.ntmps73
    go_wp2
    go_ret
    exact ⟨rfl, (Below.refl w.heap.size w).alloc (Nat.le_refl _) _⟩
  have gs : (s.toList == []) = true := by rw [hs, ByteArray.toList_eq]; rfl
  have hv : ovB 9 n s tl il = false := by unfold ovB; clear a1 a2 a3 a6 a4 a5 a7 a8 a9 a10; simp [*]
  rw [hv]
  clear hv hn hs
  go_enter Tryz.func73, Tryz.ntmps73
  go_wp2
  go_ret
  exact ⟨rfl, (Below.refl w.heap.size w).alloc (Nat.le_refl _) _⟩
set_option maxRecDepth 100000 in
set_option maxHeartbeats 1000000 in
theorem over10_any (n : Int) (s : ByteArray) (tb : Option Addr) (tl tc : Nat) (io : Option Addr) (il ic : Nat) (w : World) :
    Calls Tryz.prog 73 #[.agg #[.int .i64 10, .int .i64 n, .string s, .slice tb tl tc, .slice io il ic], .iface 178 (.agg #[.slice tb tl tc, .slice io il ic])] w fun e w' => e = .returned (.bool (ovB 10 n s tl il)) ∧ Below w.heap.size w w' := by
  have a1 := as10_1 (.agg #[.slice tb tl tc, .slice io il ic])
  have a2 := as10_2 (.agg #[.slice tb tl tc, .slice io il ic])
  have a3 := as10_3 (.agg #[.slice tb tl tc, .slice io il ic])
  have a6 := as10_6 (.agg #[.slice tb tl tc, .slice io il ic])
  have a4 := as10_4 (.agg #[.slice tb tl tc, .slice io il ic])
  have a5 := as10_5 (.agg #[.slice tb tl tc, .slice io il ic])
  have a7 := as10_7 (.agg #[.slice tb tl tc, .slice io il ic])
  have a8 := as10_8 (.agg #[.slice tb tl tc, .slice io il ic])
  have a9 := as10_9 (.agg #[.slice tb tl tc, .slice io il ic])
  have a10 := as10_10 (.agg #[.slice tb tl tc, .slice io il ic])
  by_cases hn : n = 0
  case neg =>
    have gn : (n != 0) = true := by simpa using hn
    have hv : ovB 10 n s tl il = true := by unfold ovB; clear a1 a2 a3 a6 a4 a5 a7 a8 a9 a10; simp [*]
    rw [hv]
    clear hv hn
    go_enter Tryz.func73, Tryz.ntmps73
    go_wp2
    go_ret
    exact ⟨rfl, (Below.refl w.heap.size w).alloc (Nat.le_refl _) _⟩
  have gn : (n != 0) = false := by simpa using hn
  by_cases hs : s = ⟨#[]⟩
  case neg =>
    have gs := txt_nil hs
    have hv : ovB 10 n s tl il = true := by unfold ovB; clear a1 a2 a3 a6 a4 a5 a7 a8 a9 a10; simp [*]
    rw [hv]
    clear hv hs
    go_enter Tryz.func73, Tryz.ntmps73
    go_wp2
    go_ret
    exact ⟨rfl, (Below.refl w.heap.size w).alloc (Nat.le_refl _) _⟩
  have gs : (s.toList == []) = true := by rw [hs, ByteArray.toList_eq]; rfl
  have hv : ovB 10 n s tl il = false := by unfold ovB; clear a1 a2 a3 a6 a4 a5 a7 a8 a9 a10; simp [*]
  rw [hv]
  clear hv hn hs
  go_enter Tryz.func73, Tryz.ntmps73
  go_wp2
  go_ret
  exact ⟨rfl, (Below.refl w.heap.size w).alloc (Nat.le_refl _) _⟩
end Go.Proofs.YtdogddliifbjnaaGreat.Va
/- Values: the contracts of what a text's, tags' and a union's values are told by. -/
namespace Go.Proofs.YtdogddliifbjnaaGreat.Va
open Go.RowKit Cm
set_option linter.unusedVariables false
set_option linter.unusedSimpArgs false

theorem walk_ret (s : ByteArray) (n : Nat) (b : Int) (h : Ut.wkS s = (n, b)) (w : World) (hs : s.size ≤ 1125899906842624) :
    Calls Tryz.prog 185 #[.string s] w fun e w' => e = .returned (.tuple #[.int .i64 n, .int .i64 b]) ∧ Below w.heap.size w w' :=
  (Ut.walk_any s w hs).mono fun e w' ⟨h1, h2⟩ => ⟨by rw [h1, h]; rfl, h2⟩
theorem pbad_any (s : ByteArray) (w : World) (hs : s.size ≤ 1125899906842624) :
    Calls Tryz.prog 184 #[.string s] w fun e w' => e = .returned (.int .i64 (Ut.wkS s).2) ∧ Below w.heap.size w w' := by
  obtain ⟨n, b, h⟩ : ∃ n b, Ut.wkS s = (n, b) := ⟨_, _, rfl⟩
  have H := Lib.hid h
  rw [h]
  clear h
  go_enter Tryz.func184, Tryz.ntmps184
  go_wp2_with (go_at_call 185; refine (walk_ret s n b H.out _ hs).mono ?_; rintro e w' ⟨rfl, hb⟩)
  go_ret
  exact ⟨rfl, hb⟩
theorem valid_any (s : ByteArray) (w : World) (hs : s.size ≤ 2000) :
    Calls Tryz.prog 183 #[.string s] w fun e w' => e = .returned (.bool (rightB s)) ∧ Below w.heap.size w w' := by
  obtain ⟨b, h⟩ : ∃ b, (Ut.wkS s).2 = b := ⟨_, rfl⟩
  have hbd := (Ut.wkS_bd s).2.1
  rw [h] at hbd
  have H := Lib.hid h
  have HB := Lib.hid (pbad_any s w (by omega))
  rw [h] at HB
  clear h
  go_enter Tryz.func183, Tryz.ntmps183
  go_wp2_with (go_at_call 184; refine HB.out.mono ?_; rintro e w' ⟨rfl, hb⟩)
  go_ret
  exact ⟨ret_bool (by unfold rightB; rw [H.out, Bool.eq_iff_iff]; simp; omega), hb⟩

/-- The tag ahead of a place. -/
def lsT (ts : List Int) (j : Nat) : Int := if j = 0 then 0 else ts.getD (j - 1) 0
theorem tg_no {l : List Int} {j : Nat} (hj : j < l.length) (h : tgBad l j = true) : tgsB 0 l = false := by
  cases hb : tgsB 0 l with
  | false => rfl
  | true => rw [(tg_bad l).1 hb j hj] at h; cases h
theorem tg_step {l : List Int} {j : Nat} {t : Int} (hj : j < l.length) (ht : l.getD j 0 = t) (hp : ∀ q, q < j → tgBad l q = false) : tgBad l j = (decide (t ≤ lsT l j) || decide (255 < t)) := by
  unfold tgBad lsT
  rw [ht]
  by_cases h0 : j = 0
  · subst h0
    rw [if_pos rfl]
    have e : decide (t < 1) = decide (t ≤ 0) := decide_eq_decide.2 (by omega)
    rw [e]; simp
  · rw [if_neg h0]
    have hq := hp (j - 1) (by omega)
    unfold tgBad at hq
    simp only [Bool.or_eq_false_iff, decide_eq_false_iff_not, Bool.and_eq_false_iff] at hq
    rw [Bool.eq_iff_iff]
    simp only [Bool.or_eq_true, Bool.and_eq_true, decide_eq_true_eq]
    omega
theorem ls_next {l : List Int} {j : Nat} {t : Int} (ht : l.getD j 0 = t) : lsT l (j + 1) = t := by
  unfold lsT
  rw [if_neg (by omega), Nat.add_sub_cancel, ht]
set_option maxRecDepth 100000 in
set_option maxHeartbeats 1000000 in
theorem tagged_any (tb : Option Addr) (tc : Nat) (ts : List Int) (io : Option Addr) (il ic : Nat) (w : World) (h : In tb ts w) (hlen : ts.length ≤ 140737488355327) :
    Calls Tryz.prog 201 #[.agg #[.slice tb ts.length tc, .slice io il ic]] w fun e w' => e = .returned (.bool (tgsB 0 ts && decide (ts.length = il))) ∧ Below w.heap.size w w' := by
  have hB0 := Lib.hid ((Below.refl w.heap.size w).alloc (Nat.le_refl _) (.cells #[.slice tb ts.length tc, .slice io il ic] 175))
  have hC0 := Lib.hid (Cs.new w [.slice tb ts.length tc, .slice io il ic] 175)
  have H := Lib.hid h
  clear h
  go_enter Tryz.func201, Tryz.ntmps201
  go_wp2
  go_loopw [3, 9] (fun m i wr => ∃ j, j ≤ ts.length ∧ i = .int .i64 (j : Nat) ∧ m = .int .i64 (lsT ts j) ∧ Hid (∀ q, q < j → tgBad ts q = false) ∧ Hid (Cs w.heap.size [.slice tb ts.length tc, .slice io il ic] wr) ∧ Hid (Below w.heap.size w wr)) (fun m i _ => ts.length - (intOf i).toNat)
  case atStart => exact ⟨0, by omega, rfl, rfl, Lib.hid (fun q hq => by omega), hC0, hB0⟩
  case round =>
    obtain ⟨j, hj, rfl, rfl, HP, HC, HB⟩ := hrel
    clear hB0 hC0
    have d0 := HC.out.cell (i := 0) rfl
    have d1 := HC.out.cell (i := 1) rfl
    by_cases hjl : j < ts.length
    · have hji : (j : Int) < (ts.length : Int) := by omega
      obtain ⟨a, t, rfl, ht, b0, s0, t1, t2⟩ := (H.out.below HB.out (Nat.le_refl _)).at (i := j) hjl
      have hgd : ts.getD j 0 = t := by rw [List.getD, ht]; rfl
      have HT := Lib.hid (tg_step hjl hgd HP.out)
      have HG := Lib.hid hgd
      clear ht hgd
      by_cases h1 : t ≤ lsT ts j
      · have hbad : Hid (tgBad ts j = true) := Lib.hid (by rw [HT.out, decide_eq_true h1]; rfl)
        go_wp2
        go_ret
        refine ⟨?_, HB.out⟩
        rw [tg_no hjl hbad.out]; rfl
      · have h1f : decide (t ≤ lsT ts j) = false := decide_eq_false h1
        by_cases h2 : 255 < t
        · have hbad : Hid (tgBad ts j = true) := Lib.hid (by rw [HT.out, decide_eq_true h2, Bool.or_true])
          go_wp2
          go_ret
          refine ⟨?_, HB.out⟩
          rw [tg_no hjl hbad.out]; rfl
        · have hgood : Hid (tgBad ts j = false) := Lib.hid (by rw [HT.out, h1f, decide_eq_false h2]; rfl)
          have hnx := Lib.hid (ls_next HG.out)
          go_wp2
          go_roundw
          case rel => exact ⟨j + 1, by omega, by go_num, by rw [hnx.out], Lib.hid (fun q hq => by
            by_cases e : q = j
            · rw [e]; exact hgood.out
            · exact HP.out q (by omega)), HC, HB⟩
          case measure => simp [intOf]; omega
    · have hji : ¬ (j : Int) < (ts.length : Int) := by omega
      have hgood : Hid (tgsB 0 ts = true) := Lib.hid ((tg_bad ts).2 (fun q hq => HP.out q (by omega)))
      have e3 : decide (ts.length = il) = ((ts.length : Int) == (il : Int)) := by
        by_cases h : ts.length = il
        · rw [decide_eq_true h]; subst h; simp
        · rw [decide_eq_false h]; symm; simp; omega
      have E3 := Lib.hid e3
      clear e3
      go_wp2
      go_ret
      refine ⟨?_, HB.out⟩
      rw [hgood.out, E3.out]; rfl
set_option maxRecDepth 100000 in
theorem union_any (tb : Option Addr) (tc : Nat) (ts : List Int) (io : Option Addr) (il ic : Nat) (w : World) (h : In tb ts w) (hlen : ts.length ≤ 140737488355327) :
    Calls Tryz.prog 202 #[.agg #[.slice tb ts.length tc, .slice io il ic]] w fun e w' => e = .returned (.bool (decide (ts.length = 1) && (tgsB 0 ts && decide (ts.length = il)))) ∧ Below w.heap.size w w' := by
  have hB0 := (Below.refl w.heap.size w).alloc (Nat.le_refl _) (.cells #[.slice tb ts.length tc, .slice io il ic] 178)
  have H := Lib.hid (h.below hB0 (Nat.le_refl _))
  have HB0 := Lib.hid hB0
  clear h hB0
  by_cases h1 : ts.length = 1
  · have hh : ((ts.length : Int) == 1) = true := by rw [h1]; rfl
    rw [decide_eq_true h1, Bool.true_and]
    clear h1
    go_enter Tryz.func202, Tryz.ntmps202
    go_wp2_with (go_at_call 201; refine (tagged_any tb tc ts io il ic _ H.out hlen).mono ?_; rintro e w2 ⟨rfl, hb2⟩)
    go_ret
    exact ⟨rfl, HB0.out.trans (hb2.mono HB0.out.size)⟩
  · have hh : ((ts.length : Int) == 1) = false := by simp; omega
    rw [decide_eq_false h1, Bool.false_and]
    clear h1
    go_enter Tryz.func202, Tryz.ntmps202
    go_wp2
    go_ret
    exact ⟨rfl, HB0.out⟩
end Go.Proofs.YtdogddliifbjnaaGreat.Va
