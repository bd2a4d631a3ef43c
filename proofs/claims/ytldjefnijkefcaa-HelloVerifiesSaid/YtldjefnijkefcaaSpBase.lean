/- The contracts of span.Put, span.number, span.own and span.Take over the program, and of the reference's Put, Int and Take. -/
import Derived.Test.YtldjefnijkefcaaVmLaws
namespace Go.Proofs.Ytldjefnijkefcaa.Vm
open Go.RowKit
set_option linter.unusedVariables false

/-- A number that is not too great. -/
def nmS (s : ByteArray) (m : Int) : Nat × Nat × Nat :=
  if (tkS s).2.2 ≠ 0 then (0, 0, (tkS s).2.2) else if max m 0 < ((tkS s).1 : Int) then (0, 0, 3) else ((tkS s).1, (tkS s).2.1, 0)
/-- A span's text. -/
def txS (s : ByteArray) (m : Int) : ByteArray × Nat × Nat :=
  if (nmS s m).2.2 ≠ 0 then (ByteArray.empty, 0, (nmS s m).2.2) else if s.size < (nmS s m).2.1 + (nmS s m).1 then (ByteArray.empty, 0, 2) else (s.extract (nmS s m).2.1 ((nmS s m).2.1 + (nmS s m).1), (nmS s m).2.1 + (nmS s m).1, 0)

theorem tkS_good (s : ByteArray) (n k : Nat) (h : tkS s = (n, k, 0)) : 1 ≤ k ∧ k ≤ 10 ∧ k ≤ s.size ∧ n ≤ 18446744073709551615 := by
  unfold tkS at h
  obtain ⟨h1, h2, h3, _, h5⟩ := tk_one0 _ _ _ h
  exact ⟨h1, h2, by simpa using h3, by omega⟩
theorem tkS_bad (s : ByteArray) (n k e : Nat) (h : tkS s = (n, k, e)) (he : e ≠ 0) : n = 0 ∧ k = 0 ∧ e ≤ 2 := by
  unfold tkS at h
  rcases tk_err s.data.toList 0 0 with ⟨x, j, h2⟩ | h2 | h2 <;> rw [h2] at h <;> simp only [Prod.mk.injEq] at h <;> omega
theorem nmS_bad (s : ByteArray) (m : Int) (n k e : Nat) (h : tkS s = (n, k, e)) (he : e ≠ 0) : nmS s m = (0, 0, e) := by
  unfold nmS; rw [h]; simp only [he, ne_eq, not_false_eq_true, if_true]
theorem nmS_long (s : ByteArray) (m : Int) (n k : Nat) (h : tkS s = (n, k, 0)) (hm : max m 0 < (n : Int)) : nmS s m = (0, 0, 3) := by
  unfold nmS; rw [h]; simp only [ne_eq, not_true_eq_false, if_false, if_pos hm]
theorem nmS_good (s : ByteArray) (m : Int) (n k : Nat) (h : tkS s = (n, k, 0)) (hm : ¬ max m 0 < (n : Int)) : nmS s m = (n, k, 0) := by
  unfold nmS; rw [h]; simp only [ne_eq, not_true_eq_false, if_false, if_neg hm]
theorem nmS_lo (s : ByteArray) (m : Int) (n k : Nat) (h : nmS s m = (n, k, 0)) : 1 ≤ k ∧ k ≤ 10 ∧ k ≤ s.size ∧ (n : Int) ≤ max m 0 := by
  obtain ⟨a, b, c, hh⟩ : ∃ a b c, tkS s = (a, b, c) := ⟨_, _, _, rfl⟩
  by_cases hc : c = 0
  · subst hc
    by_cases hm : max m 0 < (a : Int)
    · rw [nmS_long s m a b hh hm] at h; simp at h
    · rw [nmS_good s m a b hh hm] at h
      simp only [Prod.mk.injEq] at h
      obtain ⟨rfl, rfl, _⟩ := h
      have := tkS_good s a b hh
      omega
  · rw [nmS_bad s m a b c hh hc] at h
    simp only [Prod.mk.injEq] at h; omega

def nmV (r : Nat × Nat × Nat) : Ending := .returned (.tuple #[.int .i64 r.1, .int .i64 r.2.1, .int .i64 r.2.2])
def txV (r : ByteArray × Nat × Nat) : Ending := .returned (.tuple #[.string r.1, .int .i64 r.2.1, .int .i64 r.2.2])

set_option maxRecDepth 100000 in
theorem rint_any (s : ByteArray) (m : Int) (w : World) (hs : s.size ≤ maxLen) (h1 : -9223372036854775808 ≤ m) (h2 : m ≤ 9223372036854775807) :
    Calls Try.prog 22 #[.string s, .int .i64 m] w fun e w' => e = nmV (nmS s m) ∧ w = w' := by
  obtain ⟨n, k, e, h⟩ : ∃ n k e, tkS s = (n, k, e) := ⟨_, _, _, rfl⟩
  have H := Lib.hid h
  by_cases he : e = 0
  · subst he
    obtain ⟨g1, g2, g3, g4⟩ := tkS_good s n k h
    clear h
    by_cases hneg : m < 0
    · by_cases hm : 0 < n
      · go_enter Try.func22, Try.ntmps22
        go_wp2_with (go_at_call 23; refine (rtake_ret s _ _ _ H.out _ hs).mono ?_; rintro e w' ⟨rfl, rfl⟩)
        go_ret3
        exact ⟨by rw [nmS_long s m n k H.out (by omega)]; rfl, rfl⟩
      · obtain rfl : n = 0 := by omega
        go_enter Try.func22, Try.ntmps22
        go_wp2_with (go_at_call 23; refine (rtake_ret s _ _ _ H.out _ hs).mono ?_; rintro e w' ⟨rfl, rfl⟩)
        go_ret3
        exact ⟨by rw [nmS_good s m 0 k H.out (by omega)]; rfl, rfl⟩
    · have hneg' : 0 ≤ m := by omega
      by_cases hm : m < (n : Int)
      · go_enter Try.func22, Try.ntmps22
        go_wp2_with (go_at_call 23; refine (rtake_ret s _ _ _ H.out _ hs).mono ?_; rintro e w' ⟨rfl, rfl⟩)
        go_ret3
        exact ⟨by rw [nmS_long s m n k H.out (by omega)]; rfl, rfl⟩
      · have hn : (n : Int) ≤ m := by omega
        go_enter Try.func22, Try.ntmps22
        go_wp2_with (go_at_call 23; refine (rtake_ret s _ _ _ H.out _ hs).mono ?_; rintro e w' ⟨rfl, rfl⟩)
        go_ret3
        exact ⟨by rw [nmS_good s m n k H.out (by omega)]; rfl, rfl⟩
  · obtain ⟨rfl, rfl, g3⟩ := tkS_bad s n k e h he
    clear h
    have he0 : ((e : Int) == 0) = false := by simpa using he
    go_enter Try.func22, Try.ntmps22
    go_wp2_with (go_at_call 23; refine (rtake_ret s _ _ _ H.out _ hs).mono ?_; rintro e w' ⟨rfl, rfl⟩)
    go_ret3
    exact ⟨by rw [nmS_bad s m 0 0 e H.out he]; rfl, rfl⟩
theorem rnm_ret (s : ByteArray) (m : Int) (n k e : Nat) (h : nmS s m = (n, k, e)) (w : World) (hs : s.size ≤ maxLen) (h1 : -9223372036854775808 ≤ m) (h2 : m ≤ 9223372036854775807) :
    Calls Try.prog 22 #[.string s, .int .i64 m] w fun x w' => x = .returned (.tuple #[.int .i64 n, .int .i64 k, .int .i64 e]) ∧ w = w' :=
  (rint_any s m w hs h1 h2).mono fun _ _ ⟨h1, h2⟩ => ⟨by rw [h1, h]; rfl, h2⟩

theorem nmS_bad0 (s : ByteArray) (m : Int) (n k e : Nat) (h : nmS s m = (n, k, e)) (he : e ≠ 0) : n = 0 ∧ k = 0 ∧ e ≤ 3 := by
  obtain ⟨a, b, c, hh⟩ : ∃ a b c, tkS s = (a, b, c) := ⟨_, _, _, rfl⟩
  by_cases hc : c = 0
  · subst hc
    by_cases hm : max m 0 < (a : Int)
    · rw [nmS_long s m a b hh hm] at h; simp only [Prod.mk.injEq] at h; omega
    · rw [nmS_good s m a b hh hm] at h; simp only [Prod.mk.injEq] at h; omega
  · rw [nmS_bad s m a b c hh hc] at h
    have := tkS_bad s a b c hh hc
    simp only [Prod.mk.injEq] at h; omega
theorem txS_bad (s : ByteArray) (m : Int) (n k e : Nat) (h : nmS s m = (n, k, e)) (he : e ≠ 0) : txS s m = (ByteArray.empty, 0, e) := by
  unfold txS; rw [h]; simp only [he, ne_eq, not_false_eq_true, if_true]
theorem txS_short (s : ByteArray) (m : Int) (n k : Nat) (h : nmS s m = (n, k, 0)) (hm : s.size < k + n) : txS s m = (ByteArray.empty, 0, 2) := by
  unfold txS; rw [h]; simp only [ne_eq, not_true_eq_false, if_false, if_pos hm]
theorem txS_good (s : ByteArray) (m : Int) (n k : Nat) (h : nmS s m = (n, k, 0)) (hm : ¬ s.size < k + n) : txS s m = (s.extract k (k + n), k + n, 0) := by
  unfold txS; rw [h]; simp only [ne_eq, not_true_eq_false, if_false, if_neg hm]

theorem ext_le (s : ByteArray) (a b : Nat) : (s.extract a b).size ≤ s.size := by rw [ByteArray.size_extract]; omega
/-- A span's bytes. -/
def spP (s : ByteArray) : ByteArray := (⟨(putL s.size).toArray⟩ : ByteArray) ++ s
theorem spP_size (s : ByteArray) : (spP s).size = (putL s.size).length + s.size := by unfold spP; rw [cat_size]

theorem sp_ab : spP ⟨#[97, 98]⟩ = ⟨#[2, 97, 98]⟩ := by
  unfold spP
  rw [show (⟨#[97, 98]⟩ : ByteArray).size = 2 from rfl, putL_lt (by omega)]; rfl
end Go.Proofs.Ytldjefnijkefcaa.Vm
