/- Keys: which fields bytes are made of, as a function of the bytes; pieces of texts. -/
import Derived.Test.YtkbblmjldfinoaaKySkip
namespace Go.Proofs.Ytkbblmjldfinoaa.Vm
open Go.RowKit
set_option linter.unusedVariables false
set_option linter.unusedSimpArgs false

/-- What stands behind the first bytes. -/
def lf (s : ByteArray) (a : Nat) : ByteArray := s.extract a s.size
theorem lf_size (s : ByteArray) (a : Nat) : (lf s a).size = s.size - a := by unfold lf; rw [ByteArray.size_extract]; omega
theorem kbytes_eq {a b : ByteArray} (h : a.data.toList = b.data.toList) : a = b := ByteArray.ext (Array.toList_inj.1 h)
theorem kext_list (s : ByteArray) (i j : Nat) : (s.extract i j).data.toList = (s.data.toList.drop i).take (j - i) := by
  rw [ByteArray.data_extract, Array.toList_extract, List.extract_eq_take_drop]
theorem klen_list (a : ByteArray) : a.data.toList.length = a.size := Array.length_toList
theorem lf_list (s : ByteArray) (a : Nat) : (lf s a).data.toList = s.data.toList.drop a := by
  unfold lf; rw [kext_list, List.take_of_length_le]; rw [List.length_drop, klen_list]; omega
theorem lf_zero (s : ByteArray) : lf s 0 = s := kbytes_eq (by rw [lf_list, List.drop_zero])
theorem lf_lf (s : ByteArray) (a b : Nat) : (lf s a).extract b (lf s a).size = lf s (a + b) := by
  apply kbytes_eq
  show (lf (lf s a) b).data.toList = _
  rw [lf_list, lf_list, lf_list, List.drop_drop]
theorem lf_lf' (s : ByteArray) (a b : Nat) : lf (lf s a) b = lf s (a + b) := lf_lf s a b
theorem lf_take (s : ByteArray) (a n : Nat) : (lf s a).extract 0 n = s.extract a (a + n) := by
  apply kbytes_eq
  rw [kext_list, kext_list, lf_list, List.drop_zero, show a + n - a = n - 0 by omega]

theorem ktS_room (s : ByteArray) (t v k : Nat) (h : ktS s = (t, v, k, 0)) : 1 ≤ k ∧ k ≤ s.size ∧ 1 ≤ t ∧ t ≤ 255 ∧ v ≤ 1 := by
  obtain ⟨n, j, e, hh⟩ : ∃ n j e, tkS s = (n, j, e) := ⟨_, _, _, rfl⟩
  by_cases he : e = 0
  · subst he
    obtain ⟨g1, g2, g3, g4⟩ := tkS_good s n j hh
    by_cases hn : n < 2 ∨ 511 < n
    · rw [ktS_tag s n j hh hn] at h; simp at h
    · rw [ktS_good s n j hh hn] at h
      simp only [Prod.mk.injEq] at h
      omega
  · rw [ktS_bad s n j e hh he] at h
    simp only [Prod.mk.injEq] at h; omega
theorem ktS_err (s : ByteArray) (t v k e : Nat) (h : ktS s = (t, v, k, e)) (he : e ≠ 0) : t = 0 ∧ v = 0 ∧ k = 0 ∧ e ≤ 9 := by
  obtain ⟨n, j, f, hh⟩ : ∃ n j e, tkS s = (n, j, e) := ⟨_, _, _, rfl⟩
  by_cases hf : f = 0
  · subst hf
    by_cases hn : n < 2 ∨ 511 < n
    · rw [ktS_tag s n j hh hn] at h; simp only [Prod.mk.injEq] at h; omega
    · rw [ktS_good s n j hh hn] at h
      simp only [Prod.mk.injEq] at h; omega
  · have := tkS_bad s n j f hh hf
    rw [ktS_bad s n j f hh hf] at h
    simp only [Prod.mk.injEq] at h; omega
theorem skS_room (s : ByteArray) (v : Int) (k e : Nat) (h : skS s v = (k, e)) : k ≤ s.size ∧ e ≤ 4 := by
  obtain ⟨n, j, f, hh⟩ : ∃ n j e, tkS s = (n, j, e) := ⟨_, _, _, rfl⟩
  have hb : f ≠ 0 → j = 0 ∧ f ≤ 2 := fun hf => (tkS_bad s n j f hh hf).2
  have hg : f = 0 → j ≤ s.size := fun hf => by subst hf; exact (tkS_good s n j hh).2.2.1
  by_cases h0 : v = 0
  · subst h0; rw [skS_num s n j f hh] at h; simp only [Prod.mk.injEq] at h; by_cases hf : f = 0 <;> omega
  · by_cases h1 : v = 1
    · subst h1
      by_cases hf : f = 0
      · subst hf
        by_cases hz : s.size < j + n
        · rw [skS_short s n j hh hz] at h; simp only [Prod.mk.injEq] at h; omega
        · rw [skS_good s n j hh hz] at h; simp only [Prod.mk.injEq] at h; omega
      · rw [skS_bad s n j f hh hf] at h; simp only [Prod.mk.injEq] at h; have := hb hf; omega
    · rw [skS_kind s v h0 h1] at h; simp only [Prod.mk.injEq] at h; omega

/-- The fields of which bytes are made, from a place on, behind those that were found: their tags, their contents, what was wrong first. -/
def spS (s : ByteArray) (a last : Nat) (T : List Nat) (L : List ByteArray) : List Nat × List ByteArray × Nat :=
  if h : s.size ≤ a then (T, L, 0)
  else if (ktS (lf s a)).2.2.2 ≠ 0 then ([], [], (ktS (lf s a)).2.2.2)
  else if (ktS (lf s a)).1 ≤ last then ([], [], 9)
  else if (skS (lf s (a + (ktS (lf s a)).2.2.1)) (ktS (lf s a)).2.1).2 ≠ 0 then ([], [], (skS (lf s (a + (ktS (lf s a)).2.2.1)) (ktS (lf s a)).2.1).2)
  else if hk : (ktS (lf s a)).2.2.1 = 0 then ([], [], 0)
  else spS s (a + (ktS (lf s a)).2.2.1 + (skS (lf s (a + (ktS (lf s a)).2.2.1)) (ktS (lf s a)).2.1).1) (ktS (lf s a)).1 (T ++ [(ktS (lf s a)).1])
    (L ++ [s.extract (a + (ktS (lf s a)).2.2.1) (a + (ktS (lf s a)).2.2.1 + (skS (lf s (a + (ktS (lf s a)).2.2.1)) (ktS (lf s a)).2.1).1)])
termination_by s.size - a
decreasing_by omega

theorem spS_done (s : ByteArray) (a last : Nat) (T : List Nat) (L : List ByteArray) (h : s.size ≤ a) : spS s a last T L = (T, L, 0) := by
  rw [spS, dif_pos h]
theorem spS_key (s : ByteArray) (a last t v k e : Nat) (T : List Nat) (L : List ByteArray) (h : ¬ s.size ≤ a) (hk : ktS (lf s a) = (t, v, k, e)) (he : e ≠ 0) : spS s a last T L = ([], [], e) := by
  rw [spS, dif_neg h, hk, if_pos he]
theorem spS_tag (s : ByteArray) (a last t v k : Nat) (T : List Nat) (L : List ByteArray) (h : ¬ s.size ≤ a) (hk : ktS (lf s a) = (t, v, k, 0)) (ht : t ≤ last) : spS s a last T L = ([], [], 9) := by
  rw [spS, dif_neg h, hk, if_neg (by simp), if_pos ht]
theorem spS_skip (s : ByteArray) (a last t v k n f : Nat) (T : List Nat) (L : List ByteArray) (h : ¬ s.size ≤ a) (hk : ktS (lf s a) = (t, v, k, 0)) (ht : ¬ t ≤ last) (hs : skS (lf s (a + k)) v = (n, f)) (hf : f ≠ 0) :
    spS s a last T L = ([], [], f) := by
  rw [spS, dif_neg h, hk, if_neg (by simp), if_neg ht]
  simp only [hs, if_pos hf]
theorem spS_step (s : ByteArray) (a last t v k n : Nat) (T : List Nat) (L : List ByteArray) (h : ¬ s.size ≤ a) (hk : ktS (lf s a) = (t, v, k, 0)) (ht : ¬ t ≤ last) (hs : skS (lf s (a + k)) v = (n, 0)) :
    spS s a last T L = spS s (a + k + n) t (T ++ [t]) (L ++ [s.extract (a + k) (a + k + n)]) := by
  have hk1 := (ktS_room _ _ _ _ hk).1
  conv => lhs; rw [spS, dif_neg h, hk, if_neg (by simp), if_neg ht]
  simp only [hs]
  rw [if_neg (by simp), dif_neg (by omega)]
end Go.Proofs.Ytkbblmjldfinoaa.Vm
