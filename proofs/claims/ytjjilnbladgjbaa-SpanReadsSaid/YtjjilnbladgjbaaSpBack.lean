/- The walks of SpanBack and SpanNone. -/
import Derived.Test.YtjjilnbladgjbaaSpMeth
namespace Go.Proofs.Ytjjilnbladgjbaa.Vm
open Go.RowKit
set_option linter.unusedVariables false

theorem bytes_eq {a b : ByteArray} (h : a.data.toList = b.data.toList) : a = b := ByteArray.ext (Array.toList_inj.1 h)
theorem ext_list (s : ByteArray) (i j : Nat) : (s.extract i j).data.toList = (s.data.toList.drop i).take (j - i) := by
  rw [ByteArray.data_extract, Array.toList_extract]
theorem app_list (a b : ByteArray) : (a ++ b).data.toList = a.data.toList ++ b.data.toList := by rw [ByteArray.data_append, Array.toList_append]
theorem len_list (a : ByteArray) : a.data.toList.length = a.size := Array.length_toList

theorem left_app (a r : ByteArray) : left (a ++ r) a.size = r := by
  unfold left
  refine bytes_eq ?_
  rw [ext_list, app_list, List.drop_append_of_le_length (by rw [len_list]; omega)]
  rw [List.drop_of_length_le (by rw [len_list]; omega), List.nil_append, List.take_of_length_le (by rw [len_list, ByteArray.size_append]; omega)]
theorem left_zero (a : ByteArray) : left a 0 = a := by
  unfold left
  refine bytes_eq ?_
  rw [ext_list, List.drop_zero, List.take_of_length_le (by rw [len_list]; omega)]
/-- A span that was put is taken, whatever stands behind it. -/
theorem txS_put (a r : ByteArray) (ha : a.size < 9223372036854775808) : txS (spP a ++ r) a.size = (a, (spP a).size, 0) := by
  have ht : tkS (spP a ++ r) = (a.size, (putL a.size).length, 0) := by
    unfold spP; rw [ByteArray.append_assoc]; exact tkS_cat a.size _ (by omega)
  have hn := nmS_good (spP a ++ r) a.size a.size _ ht (by omega)
  have hz := spP_size a
  rw [txS_good _ _ _ _ hn (by rw [ByteArray.size_append]; omega), hz]
  refine Prod.ext ?_ rfl
  refine bytes_eq ?_
  have e1 : (spP a ++ r).data.toList = putL a.size ++ (a.data.toList ++ r.data.toList) := by
    unfold spP; rw [app_list, app_list, List.append_assoc]
  show ((spP a ++ r).extract _ _).data.toList = _
  rw [ext_list, e1, List.drop_append_of_le_length (Nat.le_refl _), List.drop_of_length_le (Nat.le_refl _), List.nil_append, Nat.add_sub_cancel_left, List.take_append_of_le_length (by rw [len_list]; omega), List.take_of_length_le (by rw [len_list]; omega)]
theorem txS_nil_err (m : Int) : tkS ByteArray.empty = (0, 0, 2) := rfl

set_option maxRecDepth 100000 in
set_option maxHeartbeats 1000000 in
theorem back_walk (a b c : ByteArray) (w : World) (ha : a.size ≤ 140737488355327) (hb : b.size ≤ 140737488355327) (hc : c.size ≤ 140737488355327) :
    Calls Try.prog 5 #[.string a, .string b, .string c] w fun e w' => e = .returned (.bool true) ∧ Below w.heap.size w w' := by
  have z1 := spP_size a
  have z2 := spP_size b
  have l1 := putL_len10 a.size (by omega)
  have l2 := putL_len10 b.size (by omega)
  have zX : (spP a ++ spP b ++ c).size = (spP a).size + (spP b).size + c.size := by rw [ByteArray.size_append, ByteArray.size_append]
  have hx1 : textN (spP a ++ spP b ++ c) 0 0 a.size = (a, (spP a).size, 0) := by
    unfold textN
    rw [left_zero, ByteArray.append_assoc, txS_put a _ (by omega)]; simp
  have hx2 : textN (spP a ++ spP b ++ c) (spP a).size 0 b.size = (b, (spP a).size + (spP b).size, 0) := by
    unfold textN
    rw [ByteArray.append_assoc, left_app, txS_put b _ (by omega)]; simp
  have hx3 : restN (spP a ++ spP b ++ c) ((spP a).size + (spP b).size) 0 = (c, (spP a ++ spP b ++ c).size, 0) := by
    unfold restN
    have := left_app (spP a ++ spP b) c
    rw [ByteArray.size_append] at this
    rw [this, zX]; simp
  have hx4 : doneN (spP a ++ spP b ++ c) (spP a ++ spP b ++ c).size 0 = 0 := by unfold doneN; simp
  have HX := Lib.hid (And.intro hx1 (And.intro hx2 (And.intro hx3 hx4)))
  clear hx1 hx2 hx3 hx4
  obtain ⟨X, hX⟩ : ∃ X, X = spP a ++ spP b ++ c := ⟨_, rfl⟩
  have hB := Lib.hid (Below.refl w.heap.size w)
  go_enter Try.func5, Try.ntmps5
  go_wp2_with (first
    | (go_at_call 9; refine (sput_any _ _ (by omega)).mono ?_; rintro e w' ⟨rfl, hb2⟩; (try have hR := hR.below hb2 hR.split.2.2); have hB := Lib.hid (hB.out.trans (hb2.mono hB.out.size)); clear hb2)
    | (go_at_call 12; refine (read_any _ _).mono ?_; rintro e w' ⟨rfl, hR, hb2⟩; have hBw := hB.out.size; have hB := Lib.hid (hB.out.trans (hb2.mono hBw)); clear hb2)
    | (go_at_call 16; refine (text_any _ _ _ _ _ _ hR (by omega) (by omega) (by omega) (by omega) (by omega)).mono ?_; (first | rw [HX.out.1] | rw [HX.out.2.1]); rintro e w' ⟨rfl, hR, hb2⟩; have hB := Lib.hid (hB.out.trans (hb2.below hBw hB.out.size)); clear hb2)
    | (go_at_call 18; refine (at_any _ _ _ _ _ hR).mono ?_; rintro e w' ⟨rfl, rfl⟩)
    | (go_at_call 17; refine (rest_any _ _ _ _ _ hR (by omega) (by omega) (by omega)).mono ?_; rw [HX.out.2.2.1]; rintro e w' ⟨rfl, hR, hb2⟩; have hB := Lib.hid (hB.out.trans (hb2.below hBw hB.out.size)); clear hb2)
    | (go_at_call 19; refine (done_any _ _ _ _ _ hR (by omega) (by omega)).mono ?_; rw [HX.out.2.2.2]; rintro e w' ⟨rfl, hR, hb2⟩; have hB := Lib.hid (hB.out.trans (hb2.mono hB.out.size)); clear hb2)
    | (go_at_call 11; refine (awake_any _).mono ?_; rintro e w' ⟨rfl, hb2⟩; have hB := Lib.hid (hB.out.trans (hb2.mono hB.out.size)); clear hb2))
  go_ret
  exact ⟨rfl, hB.out⟩

theorem emp_size : (⟨#[]⟩ : ByteArray).size = 0 := rfl
theorem rest_emp : restN ⟨#[]⟩ 0 0 = (⟨#[]⟩, 0, 0) := by
  unfold restN; simp only [ne_eq, not_true_eq_false, if_false]; rw [left_zero]; rfl
theorem int_emp (m : Int) : intN ⟨#[]⟩ 0 0 m = (0, 0, 2) := by
  have h : nmS ⟨#[]⟩ m = (0, 0, 2) := nmS_bad _ m 0 0 2 (txS_nil_err m) (by decide)
  unfold intN; simp only [ne_eq, not_true_eq_false, if_false]; rw [left_zero, h]; rfl
theorem done_emp : doneN ⟨#[]⟩ 0 0 = 0 := rfl
theorem done_two : doneN ⟨#[]⟩ 0 2 = 2 := rfl

set_option maxRecDepth 100000 in
set_option maxHeartbeats 1000000 in
theorem none_walk (m : Int) (w : World) (h1 : -9223372036854775808 ≤ m) (h2 : m ≤ 9223372036854775807) :
    Calls Try.prog 6 #[.int .i64 m] w fun e w' => e = .returned (.bool true) ∧ Below w.heap.size w w' := by
  have hR : Rd w.heap.size ⟨#[]⟩ 0 0 (w.alloc (.cells #[.string ⟨#[]⟩, .int .i64 0, .int .i64 0] 46)) := by
    refine ⟨⟨?_, ?_, ?_⟩, ⟨?_, ?_, ?_⟩, ?_⟩
    all_goals first
      | (rw [World.cell?_alloc_at _ _ _ _ rfl]; rfl)
      | exact World.frozen?_alloc_at _ _ _ _ rfl
      | simp
  have hBw : w.heap.size ≤ w.heap.size := Nat.le_refl _
  have hB := Lib.hid ((Below.refl w.heap.size w).alloc (Nat.le_refl _) (.cells #[.string ⟨#[]⟩, .int .i64 0, .int .i64 0] 46))
  go_enter Try.func6, Try.ntmps6
  go_wp2_with (first
    | (go_at_call_of 14 (Value.pointer none); refine (num_nil _).mono ?_; rintro e w' ⟨rfl, rfl⟩)
    | (go_at_call_of 15 (Value.pointer none); refine (int_nil _ _).mono ?_; rintro e w' ⟨rfl, hb2⟩; have hR := hR.below hb2 hR.split.2.2; have hB := Lib.hid (hB.out.trans (hb2.mono hB.out.size)); clear hb2)
    | (go_at_call_of 16 (Value.pointer none); refine (text_nil _ _).mono ?_; rintro e w' ⟨rfl, hb2⟩; have hR := hR.below hb2 hR.split.2.2; have hB := Lib.hid (hB.out.trans (hb2.mono hB.out.size)); clear hb2)
    | (go_at_call_of 17 (Value.pointer none); refine (rest_nil _).mono ?_; rintro e w' ⟨rfl, rfl⟩)
    | (go_at_call_of 19 (Value.pointer none); refine (done_nil _).mono ?_; rintro e w' ⟨rfl, rfl⟩)
    | (go_at_call_of 18 (Value.pointer none); refine (at_nil _).mono ?_; rintro e w' ⟨rfl, rfl⟩)
    | (go_at_call 18; refine (at_any _ _ _ _ _ hR).mono ?_; rintro e w' ⟨rfl, rfl⟩)
    | (go_at_call 17; refine (rest_any _ _ _ _ _ hR (Nat.zero_le _) (by rw [emp_size]; omega) (by rw [emp_size]; omega)).mono ?_; rw [rest_emp]; rintro e w' ⟨rfl, hR, hb2⟩; have hB := Lib.hid (hB.out.trans (hb2.below hBw hB.out.size)); clear hb2)
    | (go_at_call 15; refine (int_any _ _ _ _ _ _ hR (Nat.zero_le _) (by rw [emp_size]; omega) h1 h2).mono ?_; rw [int_emp]; rintro e w' ⟨rfl, hR, hb2⟩; have hB := Lib.hid (hB.out.trans (hb2.below hBw hB.out.size)); clear hb2)
    | (go_at_call 19; refine (done_any _ _ _ _ _ hR (Nat.zero_le _) (by rw [emp_size]; omega)).mono ?_; (first | rw [done_emp] | rw [done_two]); rintro e w' ⟨rfl, hR, hb2⟩; have hB := Lib.hid (hB.out.trans (hb2.mono hB.out.size)); clear hb2)
    | (go_at_call 11; refine (awake_any _).mono ?_; rintro e w' ⟨rfl, hb2⟩; have hB := Lib.hid (hB.out.trans (hb2.mono hB.out.size)); clear hb2))
  go_ret
  exact ⟨rfl, hB.out⟩
end Go.Proofs.Ytjjilnbladgjbaa.Vm
