/- Feeds: which frames bytes are made of, one behind the other, what is left, and what was wrong; pieces don't matter. -/
import Derived.Test.YthfogiogjmgodaaFrTake
import Derived.Test.YthfogiogjmgodaaCmB
namespace Go.Proofs.Ythfogiogjmgodaa.Fd
open Fr Cm
set_option linter.unusedVariables false
set_option linter.unusedSimpArgs false

abbrev Fm := Nat × Nat × ByteArray
/-- What stands behind the first n bytes. -/
def lf (s : ByteArray) (n : Nat) : ByteArray := s.extract n s.size
theorem lf_size (s : ByteArray) (n : Nat) : (lf s n).size = s.size - n := by unfold lf; rw [ByteArray.size_extract]; omega
theorem lf_app (a b : ByteArray) (n : Nat) (h : n ≤ a.size) : lf (a ++ b) n = lf a n ++ b := by
  apply bytes_eq
  unfold lf
  rw [ext_list, app_list, app_list, ext_list, List.drop_append_of_le_length (by rw [len_list]; exact h), ByteArray.size_append, List.take_of_length_le (by simp [len_list]; omega), List.take_of_length_le (by simp [len_list])]

/-- Frames, what is left, and why no more is taken (2: it is cut off). -/
def fdS (s : ByteArray) : List Fm × ByteArray × Nat :=
  if h : (taS s).2.2 = 0 ∧ 0 < (taS s).2.1 ∧ (taS s).2.1 ≤ s.size then ((taS s).1 :: (fdS (lf s (taS s).2.1)).1, (fdS (lf s (taS s).2.1)).2)
  else ([], if (taS s).2.2 = 2 then s else ⟨#[]⟩, (taS s).2.2)
termination_by s.size
decreasing_by all_goals (rw [lf_size]; omega)

theorem taS_room (s : ByteArray) (x : Fm) (n : Nat) (h : taS s = (x, n, 0)) : 4 ≤ n ∧ n ≤ s.size ∧ n ≤ 1028 := by
  obtain ⟨k, f, m, e, hh⟩ : ∃ k f m e, heS s = (k, f, m, e) := ⟨_, _, _, _, rfl⟩
  by_cases he : e = 0
  · subst he
    have g := heS_room s k f m hh
    by_cases hz : s.size < 4 + m
    · rw [taS_short s k f m hh hz] at h; simp at h
    · rw [taS_good s k f m hh hz] at h
      simp only [Prod.mk.injEq] at h
      omega
  · rw [taS_bad s k f m e hh he] at h
    simp only [Prod.mk.injEq] at h; omega
theorem fdS_good (s : ByteArray) (x : Fm) (n : Nat) (h : taS s = (x, n, 0)) : fdS s = (x :: (fdS (lf s n)).1, (fdS (lf s n)).2) := by
  have g := taS_room s x n h
  rw [fdS, dif_pos ⟨by rw [h], by rw [h]; show 0 < n; omega, by rw [h]; show n ≤ s.size; omega⟩, h]
theorem fdS_short (s : ByteArray) (x : Fm) (n : Nat) (h : taS s = (x, n, 2)) : fdS s = ([], s, 2) := by
  rw [fdS, dif_neg (by rw [h]; simp), h]; simp
theorem fdS_bad (s : ByteArray) (x : Fm) (n e : Nat) (h : taS s = (x, n, e)) (h0 : e ≠ 0) (h2 : e ≠ 2) : fdS s = ([], ⟨#[]⟩, e) := by
  rw [fdS, dif_neg (by rw [h]; simp [h0]), h]; simp [h2]

theorem bt_app (a b : ByteArray) (i : Nat) (h : i < a.size) : bt (a ++ b) i = bt a i := by
  unfold bt
  rw [app_list, List.getD, List.getD, List.getElem?_append_left (by rw [len_list]; exact h)]
theorem heS_app (a b : ByteArray) (h : 4 ≤ a.size) : heS (a ++ b) = heS a := by
  have q1 : ¬ a.size + b.size < 4 := by omega
  have q2 : ¬ a.size < 4 := by omega
  unfold heS
  rw [bt_app a b 0 (by omega), bt_app a b 1 (by omega), bt_app a b 2 (by omega), bt_app a b 3 (by omega), ByteArray.size_append, if_neg q1, if_neg q2]
/-- What is wrong, or is a frame, is so with whatever bytes behind. -/
theorem taS_app (a b : ByteArray) (x : Fm) (n e : Nat) (h : taS a = (x, n, e)) (h2 : e ≠ 2) : taS (a ++ b) = (x, n, e) := by
  obtain ⟨k, f, m, e', hh⟩ : ∃ k f m e, heS a = (k, f, m, e) := ⟨_, _, _, _, rfl⟩
  have h4 : 4 ≤ a.size := by
    rcases Nat.lt_or_ge a.size 4 with h4 | h4
    · rw [taS_bad a 0 0 0 2 (heS_short a h4) (by decide)] at h
      simp only [Prod.mk.injEq] at h; omega
    · exact h4
  have ha := heS_app a b h4
  by_cases he : e' = 0
  · subst he
    by_cases hz : a.size < 4 + m
    · rw [taS_short a k f m hh hz] at h
      simp only [Prod.mk.injEq] at h; omega
    · rw [taS_good a k f m hh hz] at h
      rw [taS_good (a ++ b) k f m (ha.trans hh) (by rw [ByteArray.size_append]; omega), ← h]
      have : (a ++ b).extract 4 (4 + m) = a.extract 4 (4 + m) := by
        apply bytes_eq
        rw [ext_list, ext_list, app_list, List.drop_append_of_le_length (by rw [len_list]; omega), List.take_append_of_le_length (by simp [len_list]; omega)]
      rw [this]
  · rw [taS_bad a k f m e' hh he] at h
    rw [taS_bad (a ++ b) k f m e' (ha.trans hh) he, h]
/-- How many bytes wait, at most. -/
theorem taS_wait (s : ByteArray) (x : Fm) (n : Nat) (h : taS s = (x, n, 2)) : s.size < 1028 := by
  obtain ⟨k, f, m, e, hh⟩ : ∃ k f m e, heS s = (k, f, m, e) := ⟨_, _, _, _, rfl⟩
  by_cases h4 : s.size < 4
  · omega
  by_cases he : e = 0
  · subst he
    have g := heS_room s k f m hh
    by_cases hz : s.size < 4 + m
    · omega
    · rw [taS_good s k f m hh hz] at h; simp at h
  · rw [taS_bad s k f m e hh he] at h
    simp only [Prod.mk.injEq] at h
    obtain ⟨_, _, rfl⟩ := h
    exfalso
    unfold heS at hh
    rw [if_neg h4] at hh
    split at hh
    · simp at hh
    · split at hh
      · simp at hh
      · simp at hh

/-- A feed as an error number has it: none for what is only cut off. -/
def okC (e : Nat) : Nat := if e = 2 then 0 else e
/-- What a feed told of all bytes, what waits, what broke it. -/
def dnS (s : ByteArray) : List Fm × ByteArray × Nat := ((fdS s).1, (fdS s).2.1, okC (fdS s).2.2)
/-- What a feed that waits with r, or is broken, makes of more bytes. -/
def psS (r : ByteArray) (bad : Nat) (b : ByteArray) : List Fm × ByteArray × Nat := if bad = 0 then dnS (r ++ b) else ([], r, bad)
theorem fdS_err (s : ByteArray) : (fdS s).2.2 ≠ 0 := by
  induction hn : s.size using Nat.strongRecOn generalizing s with
  | ind n ih =>
    obtain ⟨x, m, e, h⟩ : ∃ x m e, taS s = (x, m, e) := ⟨_, _, _, rfl⟩
    by_cases h0 : e = 0
    · subst h0
      have g := taS_room s x m h
      rw [fdS_good s x m h]
      exact ih (lf s m).size (by rw [lf_size]; omega) (lf s m) rfl
    · by_cases h2 : e = 2
      · subst h2; rw [fdS_short s x m h]; simp
      · rw [fdS_bad s x m e h h0 h2]; exact h0
/-- PIECES DON'T MATTER: what is told of bytes, and then of more, is what is told of all. -/
theorem fdS_app (a b : ByteArray) : ((fdS a).2.2 = 2 → fdS (a ++ b) = ((fdS a).1 ++ (fdS ((fdS a).2.1 ++ b)).1, (fdS ((fdS a).2.1 ++ b)).2)) ∧ ((fdS a).2.2 ≠ 2 → fdS (a ++ b) = fdS a) := by
  induction hn : a.size using Nat.strongRecOn generalizing a with
  | ind n ih =>
    obtain ⟨x, m, e, h⟩ : ∃ x m e, taS a = (x, m, e) := ⟨_, _, _, rfl⟩
    by_cases h0 : e = 0
    · subst h0
      have g := taS_room a x m h
      have i := ih (lf a m).size (by rw [lf_size]; omega) (lf a m) rfl
      have ha := fdS_good (a ++ b) x m (taS_app a b x m 0 h (by decide))
      rw [lf_app a b m (by omega)] at ha
      rw [ha, fdS_good a x m h]
      refine ⟨fun h2 => ?_, fun h2 => ?_⟩
      · rw [i.1 h2]; simp
      · rw [i.2 h2]
    · by_cases h2 : e = 2
      · subst h2
        rw [fdS_short a x m h]
        simp
      · rw [fdS_bad a x m e h h0 h2]
        refine ⟨fun h3 => absurd h3 h2, fun _ => ?_⟩
        exact fdS_bad (a ++ b) x m e (taS_app a b x m e h h2) h0 h2
theorem dnS_step (s b : ByteArray) (T F : List Fm) (r r' : ByteArray) (bad bad' : Nat) (h : dnS s = (T, r, bad)) (hp : psS r bad b = (F, r', bad')) : dnS (s ++ b) = (T ++ F, r', bad') := by
  obtain ⟨g1, g2⟩ := fdS_app s b
  have ge := fdS_err s
  unfold dnS at h
  simp only [Prod.mk.injEq] at h
  obtain ⟨rfl, rfl, rfl⟩ := h
  by_cases h2 : (fdS s).2.2 = 2
  · have e0 : okC (fdS s).2.2 = 0 := by rw [h2]; rfl
    unfold psS at hp
    rw [if_pos e0] at hp
    unfold dnS at hp ⊢
    simp only [Prod.mk.injEq] at hp
    obtain ⟨rfl, rfl, rfl⟩ := hp
    rw [g1 h2]
  · have e0 : okC (fdS s).2.2 ≠ 0 := by unfold okC; rw [if_neg h2]; exact ge
    unfold psS at hp
    rw [if_neg e0] at hp
    simp only [Prod.mk.injEq] at hp
    obtain ⟨rfl, rfl, rfl⟩ := hp
    unfold dnS
    rw [g2 h2, List.append_nil]
theorem fdS_nil : fdS ⟨#[]⟩ = ([], ⟨#[]⟩, 2) := fdS_short ⟨#[]⟩ _ _ (taS_bad ⟨#[]⟩ 0 0 0 2 (heS_short _ (by decide)) (by decide))
theorem dnS_nil : dnS ⟨#[]⟩ = ([], ⟨#[]⟩, 0) := by unfold dnS; rw [fdS_nil]; rfl
theorem nil_app (b : ByteArray) : (⟨#[]⟩ : ByteArray) ++ b = b := by apply bytes_eq; rw [app_list]; rfl
theorem psS_new (b : ByteArray) : psS ⟨#[]⟩ 0 b = dnS b := by unfold psS; rw [if_pos rfl, nil_app]
/-- How much waits; how many frames there are. -/
theorem fdS_room (s : ByteArray) : (fdS s).2.1.size ≤ s.size ∧ (fdS s).2.1.size < 1028 ∧ (fdS s).1.length * 4 ≤ s.size := by
  induction hn : s.size using Nat.strongRecOn generalizing s with
  | ind n ih =>
    obtain ⟨x, m, e, h⟩ : ∃ x m e, taS s = (x, m, e) := ⟨_, _, _, rfl⟩
    by_cases h0 : e = 0
    · subst h0
      have g := taS_room s x m h
      have i := ih (lf s m).size (by rw [lf_size]; omega) (lf s m) rfl
      rw [lf_size] at i
      rw [fdS_good s x m h]
      simp only [List.length_cons]
      omega
    · by_cases h2 : e = 2
      · subst h2; rw [fdS_short s x m h]
        have := taS_wait s x m h
        simp; omega
      · rw [fdS_bad s x m e h h0 h2]
        have : (⟨#[]⟩ : ByteArray).size = 0 := rfl
        simp [this]
theorem dnS_room (s : ByteArray) (T : List Fm) (r : ByteArray) (bad : Nat) (h : dnS s = (T, r, bad)) : r.size ≤ s.size ∧ r.size < 1028 ∧ T.length * 4 ≤ s.size := by
  unfold dnS at h
  simp only [Prod.mk.injEq] at h
  obtain ⟨rfl, rfl, _⟩ := h
  exact fdS_room s
end Go.Proofs.Ythfogiogjmgodaa.Fd
