/- Hellos: which bytes one has, and which hello any bytes are. Mathematics, over numbers' bytes. -/
import Derived.Test.YtldjefnijkefcaaSpBase
import Derived.Test.YtldjefnijkefcaaCmB
namespace Go.Proofs.Ytldjefnijkefcaa.He
open Go.RowKit Vm
set_option linter.unusedVariables false
set_option linter.unusedSimpArgs false

/-- A number's bytes. -/
def puS (n : Nat) : ByteArray := ⟨(putL n).toArray⟩
def hpS (o e t : Nat) : ByteArray := puS o ++ puS e ++ puS t
abbrev most : Nat := 2147483647
/-- The hello that bytes are. -/
def htS (b : ByteArray) : Option (Nat × Nat × Nat) :=
  if (nmS b 2147483647).2.2 ≠ 0 then none else
  if (nmS (b.extract (nmS b 2147483647).2.1 b.size) 2147483647).2.2 ≠ 0 then none else
  if (tkS (b.extract ((nmS b 2147483647).2.1 + (nmS (b.extract (nmS b 2147483647).2.1 b.size) 2147483647).2.1) b.size)).2.2 ≠ 0 ∨
    (nmS b 2147483647).2.1 + (nmS (b.extract (nmS b 2147483647).2.1 b.size) 2147483647).2.1 + (tkS (b.extract ((nmS b 2147483647).2.1 + (nmS (b.extract (nmS b 2147483647).2.1 b.size) 2147483647).2.1) b.size)).2.1 ≠ b.size then none else
  some ((nmS b 2147483647).1, (nmS (b.extract (nmS b 2147483647).2.1 b.size) 2147483647).1, (tkS (b.extract ((nmS b 2147483647).2.1 + (nmS (b.extract (nmS b 2147483647).2.1 b.size) 2147483647).2.1) b.size)).1)
section
variable {b : ByteArray} {a i x c k y n j z : Nat}
theorem ht_bad1 (h : nmS b 2147483647 = (a, i, x)) (hx : x ≠ 0) : htS b = none := by
  unfold htS; rw [h]; rw [if_pos hx]
theorem ht_bad2 (h : nmS b 2147483647 = (a, i, 0)) (h2 : nmS (b.extract i b.size) 2147483647 = (c, k, y)) (hy : y ≠ 0) : htS b = none := by
  unfold htS; simp only [h, h2]; rw [if_neg (by simp), if_pos hy]
theorem ht_bad3 (h : nmS b 2147483647 = (a, i, 0)) (h2 : nmS (b.extract i b.size) 2147483647 = (c, k, 0)) (h3 : tkS (b.extract (i + k) b.size) = (n, j, z)) (hz : z ≠ 0 ∨ i + k + j ≠ b.size) : htS b = none := by
  unfold htS; simp only [h, h2, h3]; rw [if_neg (by simp), if_neg (by simp), if_pos hz]
theorem ht_good (h : nmS b 2147483647 = (a, i, 0)) (h2 : nmS (b.extract i b.size) 2147483647 = (c, k, 0)) (h3 : tkS (b.extract (i + k) b.size) = (n, j, 0)) (hz : i + k + j = b.size) : htS b = some (a, c, n) := by
  unfold htS; simp only [h, h2, h3]; rw [if_neg (by simp), if_neg (by simp), if_neg (by simp; exact hz)]
end
theorem pu_size (n : Nat) : (puS n).size = (putL n).length := rfl
theorem pu_room (n : Nat) (h : n < 18446744073709551616) : (puS n).size ≤ 10 := putL_len10 n h
theorem hp_size (o e t : Nat) : (hpS o e t).size = (putL o).length + (putL e).length + (putL t).length := by
  unfold hpS
  rw [ByteArray.size_append, ByteArray.size_append]
  rfl
theorem nm_cat (n : Nat) (b : ByteArray) (h : n ≤ 2147483647) : nmS (puS n ++ b) 2147483647 = (n, (putL n).length, 0) :=
  nmS_good _ _ n _ (tkS_cat n b (by omega)) (by omega)
theorem nm_cat_long (n : Nat) (b : ByteArray) (h : 2147483647 < n) (h2 : n < 18446744073709551616) : nmS (puS n ++ b) 2147483647 = (0, 0, 3) :=
  nmS_long _ _ n _ (tkS_cat n b h2) (by omega)
theorem tk_cat0 (n : Nat) (h : n < 18446744073709551616) : tkS (puS n) = (n, (putL n).length, 0) := by
  have := tkS_cat n ByteArray.empty h
  rwa [show (⟨(putL n).toArray⟩ : ByteArray) ++ ByteArray.empty = puS n from ByteArray.append_empty] at this
theorem ext_cat (n : Nat) (b : ByteArray) : (puS n ++ b).extract (putL n).length (puS n ++ b).size = b := by
  rw [← pu_size, ByteArray.size_append]
  exact ByteArray.extract_append_eq_right rfl (by simp)
/-- What is put is taken. -/
theorem ht_put (o e t : Nat) (ho : o ≤ 2147483647) (he : e ≤ 2147483647) (ht : t < 18446744073709551616) : htS (hpS o e t) = some (o, e, t) := by
  have h0 : hpS o e t = puS o ++ (puS e ++ puS t) := ByteArray.append_assoc
  have hs := hp_size o e t
  have h1 := nm_cat o (puS e ++ puS t) ho
  have h2 := ext_cat o (puS e ++ puS t)
  rw [← h0] at h1 h2
  refine ht_good h1 (c := e) (k := (putL e).length) (by rw [h2]; exact nm_cat e _ he) (n := t) (j := (putL t).length) ?_ hs.symm
  have h3 : (hpS o e t).extract ((putL o).length + (putL e).length) (hpS o e t).size = puS t := by
    have := ext_cat e (puS t)
    rw [← h2, ByteArray.extract_extract] at this
    rw [ByteArray.size_extract] at this
    rw [← this]
    congr 1
    omega
  rw [h3]
  exact tk_cat0 t ht
theorem ht_big (o e t : Nat) (ho : o < 18446744073709551616) (he : e < 18446744073709551616) (h : ¬ (o ≤ 2147483647 ∧ e ≤ 2147483647)) : htS (hpS o e t) = none := by
  have h0 : hpS o e t = puS o ++ (puS e ++ puS t) := ByteArray.append_assoc
  by_cases h1 : o ≤ 2147483647
  · have h2 := nm_cat o (puS e ++ puS t) h1
    have h3 := ext_cat o (puS e ++ puS t)
    rw [← h0] at h2 h3
    exact ht_bad2 h2 (c := 0) (k := 0) (y := 3) (by rw [h3]; exact nm_cat_long e _ (by omega) he) (by omega)
  · have h2 := nm_cat_long o (puS e ++ puS t) (by omega) ho
    rw [← h0] at h2
    exact ht_bad1 h2 (by omega)
theorem nm_tk {s : ByteArray} {m : Int} {n k : Nat} (h : nmS s m = (n, k, 0)) : tkS s = (n, k, 0) := by
  obtain ⟨a, b, c, hh⟩ : ∃ a b c, tkS s = (a, b, c) := ⟨_, _, _, rfl⟩
  by_cases hc : c = 0
  · subst hc
    by_cases hm : max m 0 < (a : Int)
    · rw [nmS_long s m a b hh hm] at h; simp at h
    · rw [nmS_good s m a b hh hm] at h; rw [hh, h]
  · rw [nmS_bad s m a b c hh hc] at h
    simp only [Prod.mk.injEq] at h; omega
theorem ext_end (s : ByteArray) (i : Nat) : (s.extract i s.size).data.toList = s.data.toList.drop i := by
  rw [Cm.ext_list, List.take_of_length_le (by rw [List.length_drop, Cm.len_list]; omega)]
/-- What is taken was put so. -/
theorem ht_one {b : ByteArray} {o e t : Nat} (h : htS b = some (o, e, t)) : hpS o e t = b ∧ o ≤ 2147483647 ∧ e ≤ 2147483647 ∧ t < 18446744073709551616 := by
  obtain ⟨a, i, x, h1⟩ : ∃ a i x, nmS b 2147483647 = (a, i, x) := ⟨_, _, _, rfl⟩
  by_cases hx : x = 0
  · subst hx
    obtain ⟨c, k, y, h2⟩ : ∃ c k y, nmS (b.extract i b.size) 2147483647 = (c, k, y) := ⟨_, _, _, rfl⟩
    by_cases hy : y = 0
    · subst hy
      obtain ⟨n, j, z, h3⟩ : ∃ n j z, tkS (b.extract (i + k) b.size) = (n, j, z) := ⟨_, _, _, rfl⟩
      by_cases hz : z ≠ 0 ∨ i + k + j ≠ b.size
      · rw [ht_bad3 h1 h2 h3 hz] at h; cases h
      · have hz1 : z = 0 := by omega
        have hz2 : i + k + j = b.size := by omega
        subst hz1
        rw [ht_good h1 h2 h3 hz2] at h
        obtain ⟨rfl, rfl, rfl⟩ : a = o ∧ c = e ∧ n = t := by simpa using h
        have l1 := nmS_lo _ _ _ _ h1
        have l2 := nmS_lo _ _ _ _ h2
        have t1 := nm_tk h1
        have t2 := nm_tk h2
        unfold tkS at t1 t2 h3
        rw [ext_end] at t2 h3
        obtain ⟨_, _, _, p1, _⟩ := tk_one0 _ _ _ t1
        obtain ⟨_, _, _, p2, _⟩ := tk_one0 _ _ _ t2
        obtain ⟨_, _, _, p3, q3⟩ := tk_one0 _ _ _ h3
        refine ⟨?_, by omega, by omega, q3⟩
        apply Cm.bytes_eq
        unfold hpS
        rw [Cm.app_list, Cm.app_list]
        show (putL a ++ putL c) ++ putL n = b.data.toList
        have hl := Cm.len_list b
        rw [p1, p2, p3, List.append_assoc, List.take_of_length_le (l := b.data.toList.drop (i + k)) (by rw [List.length_drop]; omega), ← List.drop_drop, List.take_append_drop, List.take_append_drop]
    · rw [ht_bad2 h1 h2 hy] at h; cases h
  · rw [ht_bad1 h1 hx] at h; cases h
end Go.Proofs.Ytldjefnijkefcaa.He
