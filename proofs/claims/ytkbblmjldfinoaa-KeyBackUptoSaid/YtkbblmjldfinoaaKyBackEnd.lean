/- What is joined is split: the mathematics, and the law KeyBack's walk. -/
import Derived.Test.YtkbblmjldfinoaaKyJoinsEnd
import Derived.Test.YtkbblmjldfinoaaKySplit
import Derived.Deep.RegionHeld3
namespace Go.Proofs.Ytkbblmjldfinoaa.Vm
open Go.RowKit
set_option linter.unusedVariables false
set_option linter.unusedSimpArgs false

theorem kapp_list (a b : ByteArray) : (a ++ b).data.toList = a.data.toList ++ b.data.toList := by rw [ByteArray.data_append, Array.toList_append]
theorem lf_app (a r : ByteArray) : lf (a ++ r) a.size = r := by
  apply kbytes_eq
  rw [lf_list, kapp_list, List.drop_append_of_le_length (by rw [klen_list]; omega), List.drop_of_length_le (by rw [klen_list]; omega), List.nil_append]
theorem ext_app (a r : ByteArray) : (a ++ r).extract 0 a.size = a := by
  apply kbytes_eq
  rw [kext_list, kapp_list, List.drop_zero, Nat.sub_zero, List.take_append_of_le_length (by rw [klen_list]; omega), List.take_of_length_le (by rw [klen_list]; omega)]
theorem kapp_assoc (a b c : ByteArray) : (a ++ b) ++ c = a ++ (b ++ c) := by
  apply kbytes_eq
  rw [kapp_list, kapp_list, kapp_list, kapp_list, List.append_assoc]

theorem kb_size_eq (t : Int) : (kb t).size = (putL (2 * t + 1).toNat).length := by
  show ((putL (2 * t + 1).toNat).toArray).size = _
  simp
theorem ktS_kb (t : Int) (r : ByteArray) (h1 : 1 ≤ t) (h2 : t ≤ 255) : ktS (kb t ++ r) = (t.toNat, 1, (kb t).size, 0) := by
  have ht : tkS (kb t ++ r) = ((2 * t + 1).toNat, (putL (2 * t + 1).toNat).length, 0) := tkS_cat (2 * t + 1).toNat r (by omega)
  rw [ktS_good _ _ _ ht (by omega), kb_size_eq, show (2 * t + 1).toNat / 2 = t.toNat by omega, show (2 * t + 1).toNat % 2 = 1 by omega]
theorem skS_spP (a r : ByteArray) (ha : a.size < 9223372036854775808) : skS (spP a ++ r) 1 = ((spP a).size, 0) := by
  have ht : tkS (spP a ++ r) = (a.size, (putL a.size).length, 0) := by
    unfold spP; rw [kapp_assoc]; exact tkS_cat a.size _ (by omega)
  have hz := spP_size a
  rw [skS_good _ _ _ ht (by rw [ByteArray.size_append]; omega), hz]
theorem txS_all (a : ByteArray) (ha : a.size ≤ 281474976710000) : txS (spP a) (spP a).size = (a, (spP a).size, 0) := by
  have ht : tkS (spP a) = (a.size, (putL a.size).length, 0) := tkS_cat a.size a (by omega)
  have hz := spP_size a
  have hn := nmS_good (spP a) (spP a).size a.size _ ht (by omega)
  rw [txS_good _ _ _ _ hn (by omega), hz]
  refine Prod.ext ?_ rfl
  apply kbytes_eq
  show ((spP a).extract _ _).data.toList = _
  have e1 : (spP a).data.toList = putL a.size ++ a.data.toList := by unfold spP; rw [kapp_list]
  rw [kext_list, e1, List.drop_append_of_le_length (Nat.le_refl _), List.drop_of_length_le (Nat.le_refl _), List.nil_append, Nat.add_sub_cancel_left, List.take_of_length_le (by rw [klen_list]; omega)]

/-- What stands behind the first fields. -/
theorem jnB_rest (K : Nat → Int) (X : Nat → ByteArray) {i n : Nat} (h : i ≤ n) : ∃ r, jnB K X n = jnB K X i ++ r := by
  induction n with
  | zero => obtain rfl : i = 0 := by omega
            exact ⟨⟨#[]⟩, (kbytes_eq (by rw [kapp_list]; simp))⟩
  | succ n ih =>
    by_cases e : i = n + 1
    · subst e; exact ⟨⟨#[]⟩, (kbytes_eq (by rw [kapp_list]; simp))⟩
    · obtain ⟨r, hr⟩ := ih (by omega)
      exact ⟨r ++ (kb (K n) ++ spP (X n)), by show jnB K X n ++ (kb (K n) ++ spP (X n)) = _; rw [hr, kapp_assoc]⟩
/-- The tags, and the spans, of the first fields. -/
def jnT (K : Nat → Int) : Nat → List Nat
  | 0 => []
  | i + 1 => jnT K i ++ [(K i).toNat]
def jnL (X : Nat → ByteArray) : Nat → List ByteArray
  | 0 => []
  | i + 1 => jnL X i ++ [spP (X i)]
theorem jnT_len (K : Nat → Int) (n : Nat) : (jnT K n).length = n := by
  induction n with
  | zero => rfl
  | succ n ih => simp [jnT, ih]
theorem jnL_len (X : Nat → ByteArray) (n : Nat) : (jnL X n).length = n := by
  induction n with
  | zero => rfl
  | succ n ih => simp [jnL, ih]
theorem jnT_at (K : Nat → Int) (n i : Nat) (h : i < n) : (jnT K n)[i]? = some (K i).toNat := by
  induction n with
  | zero => omega
  | succ n ih =>
    by_cases e : i = n
    · subst e
      rw [jnT, List.getElem?_append_right (by rw [jnT_len]; omega), jnT_len, Nat.sub_self]; rfl
    · rw [jnT, List.getElem?_append_left (by rw [jnT_len]; omega)]
      exact ih (by omega)
theorem jnL_at (X : Nat → ByteArray) (n i : Nat) (h : i < n) : (jnL X n)[i]? = some (spP (X i)) := by
  induction n with
  | zero => omega
  | succ n ih =>
    by_cases e : i = n
    · subst e
      rw [jnL, List.getElem?_append_right (by rw [jnL_len]; omega), jnL_len, Nat.sub_self]; rfl
    · rw [jnL, List.getElem?_append_left (by rw [jnL_len]; omega)]
      exact ih (by omega)

theorem split_joined (K : Nat → Int) (X : Nat → ByteArray) (n : Nat) (ho : okT K n) (hz : jnZ X n ≤ 100000000) (i : Nat) (hi : i ≤ n) :
    spS (jnB K X n) 0 0 [] [] = spS (jnB K X n) (jnB K X i).size (lastT K i).toNat (jnT K i) (jnL X i) := by
  induction i with
  | zero => rfl
  | succ i ih =>
    rw [ih (by omega)]
    obtain ⟨r, hr⟩ := jnB_rest K X (i := i + 1) (n := n) hi
    have e1 : jnB K X n = jnB K X i ++ (kb (K i) ++ (spP (X i) ++ r)) := by
      rw [hr]; show (jnB K X i ++ (kb (K i) ++ spP (X i))) ++ r = _
      rw [kapp_assoc, kapp_assoc]
    have hki := ho i (by omega)
    have hl1 : lf (jnB K X n) (jnB K X i).size = kb (K i) ++ (spP (X i) ++ r) := by rw [e1, lf_app]
    have hl2 : lf (jnB K X n) ((jnB K X i).size + (kb (K i)).size) = spP (X i) ++ r := by rw [← lf_lf', hl1, lf_app]
    have hxz := jnZ_each X (i := i) (n := n) (by omega)
    have hs := skS_spP (X i) r (by omega)
    have hk := ktS_kb (K i) (spP (X i) ++ r) hki.1 hki.2.1
    have hne : ¬ (jnB K X n).size ≤ (jnB K X i).size := by
      have := kb_size_eq (K i)
      have hr1 := (ktS_room _ _ _ _ hk).1
      rw [e1]; simp only [ByteArray.size_append]; omega
    have hlast : ¬ (K i).toNat ≤ (lastT K i).toNat := by
      have h3 := hki.2.2
      unfold lastT
      by_cases e : i = 0
      · rw [if_pos e]; omega
      · rw [if_neg e]; have := h3 (by omega); omega
    have hst := spS_step (jnB K X n) (jnB K X i).size (lastT K i).toNat (K i).toNat 1 (kb (K i)).size (spP (X i)).size (jnT K i) (jnL X i) hne (by rw [hl1]; exact hk) hlast (by rw [hl2]; exact hs)
    rw [hst, ← lf_take, hl2, ext_app]
    have e2 : (jnB K X (i + 1)).size = (jnB K X i).size + (kb (K i)).size + (spP (X i)).size := by
      show (jnB K X i ++ (kb (K i) ++ spP (X i))).size = _
      simp only [ByteArray.size_append]; omega
    have e3 : lastT K (i + 1) = K i := by simp [lastT]
    rw [e2, e3]; rfl
/-- What is joined is split. -/
theorem spS_joined (K : Nat → Int) (X : Nat → ByteArray) (n : Nat) (ho : okT K n) (hz : jnZ X n ≤ 100000000) : spS (jnB K X n) 0 0 [] [] = (jnT K n, jnL X n, 0) := by
  rw [split_joined K X n ho hz n (Nat.le_refl _), spS_done _ _ _ _ _ (Nat.le_refl _)]
end Go.Proofs.Ytkbblmjldfinoaa.Vm
