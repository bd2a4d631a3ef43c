/- The reference's step over the program. -/
import Derived.Test.YtjjilnbladgjbaaSpMeth
import Derived.Handy
namespace Go.Proofs.Ytjjilnbladgjbaa.Vm
open Go.RowKit
set_option linter.unusedVariables false

/-- What was taken, as a value. -/
def gotV (n : Nat) (x : ByteArray) (t e : Nat) : Value := .agg #[.int .u64 n, .string x, .int .i64 t, .int .i64 e]

theorem numN_bad (b : ByteArray) (t bad : Nat) (h : bad ≠ 0) : numN b t bad = (0, t, bad) := by unfold numN; simp [h]
theorem intN_bad (b : ByteArray) (t bad : Nat) (m : Int) (h : bad ≠ 0) : intN b t bad m = (0, t, bad) := by unfold intN; simp [h]
theorem textN_bad (b : ByteArray) (t bad : Nat) (m : Int) (h : bad ≠ 0) : textN b t bad m = (ByteArray.empty, t, bad) := by unfold textN; simp [h]
theorem restN_bad (b : ByteArray) (t bad : Nat) (h : bad ≠ 0) : restN b t bad = (ByteArray.empty, t, bad) := by unfold restN; simp [h]
theorem numN_of (b : ByteArray) (t n k r : Nat) (h : tkS (left b t) = (n, k, r)) : numN b t 0 = (n, t + k, r) := by
  unfold numN; rw [h]
  by_cases hr : r = 0
  · subst hr; simp
  · obtain ⟨rfl, rfl, _⟩ := tkS_bad _ n k r h hr; simp [hr]
theorem intN_of (b : ByteArray) (t n k r : Nat) (m : Int) (h : nmS (left b t) m = (n, k, r)) : intN b t 0 m = (n, t + k, r) := by
  unfold intN; rw [h]
  by_cases hr : r = 0
  · subst hr; simp
  · obtain ⟨rfl, rfl, _⟩ := nmS_bad0 _ m n k r h hr; simp [hr]
theorem textN_of (b : ByteArray) (t k r : Nat) (x : ByteArray) (m : Int) (h : txS (left b t) m = (x, k, r)) : textN b t 0 m = (x, t + k, r) := by
  unfold textN; rw [h]
  by_cases hr : r = 0
  · subst hr; simp
  · obtain ⟨rfl, rfl, _⟩ := txS_bad0 _ m x k r h hr; simp [hr]
theorem tkS_room (s : ByteArray) (n k r : Nat) (h : tkS s = (n, k, r)) : k ≤ s.size ∧ n ≤ 18446744073709551615 := by
  by_cases hr : r = 0
  · subst hr; have := tkS_good s n k h; omega
  · have := tkS_bad s n k r h hr; omega
theorem nmS_room (s : ByteArray) (m : Int) (n k r : Nat) (h : nmS s m = (n, k, r)) : k ≤ s.size ∧ (n : Int) ≤ max m 0 := by
  by_cases hr : r = 0
  · subst hr; have := nmS_lo s m n k h; omega
  · have := nmS_bad0 s m n k r h hr; omega
theorem txS_room (s : ByteArray) (m : Int) (x : ByteArray) (k r : Nat) (h : txS s m = (x, k, r)) : k ≤ s.size := by
  by_cases hr : r = 0
  · subst hr; exact (txS_lo s m x k h).1
  · have := txS_bad0 s m x k r h hr; omega

set_option maxRecDepth 100000 in
set_option maxHeartbeats 1000000 in
theorem next_num (b x0 : ByteArray) (n0 t bad : Nat) (m : Int) (w : World) (ht : t ≤ b.size) (hs : b.size ≤ 4611686018427387904) (h1 : -9223372036854775808 ≤ m) (h2 : m ≤ 9223372036854775807) :
    Calls Try.prog 13 #[.string b, .agg #[.int .u64 n0, .string x0, .int .i64 t, .int .i64 bad], .agg #[.int .i64 1, .int .i64 m]] w fun e w' => e = .returned (gotV (numN b t bad).1 ⟨#[]⟩ (numN b t bad).2.1 (numN b t bad).2.2) ∧ Below w.heap.size w w' := by
  have hd : decide (b.size < t) = false := decide_eq_false (by omega)
  by_cases hb : bad = 0
  · subst hb
    have hls := left_size b t
    have hm : (left b t).size ≤ maxLen := by unfold maxLen; omega
    obtain ⟨n, k, r, h⟩ : ∃ n k r, tkS (left b t) = (n, k, r) := ⟨_, _, _, rfl⟩
    obtain ⟨g1, g2⟩ := tkS_room _ n k r h
    rw [numN_of b t n k r h]
    have H := Lib.hid h
    clear h
    go_enter Try.func13, Try.ntmps13
    go_wp2_with (go_at_call 25; refine (rtake_ret (left b t) _ _ _ H.out _ hm).mono ?_; rintro e w' ⟨rfl, rfl⟩)
    go_returns
    exact ⟨rfl, (((Below.refl w.heap.size w).alloc (Nat.le_refl _) _).alloc (by simp) _).alloc (by simp only [World.size_alloc]; omega) _⟩
  · have hb0 : ((bad : Int) == 0) = false := by simpa using hb
    rw [numN_bad b t bad hb]
    go_enter Try.func13, Try.ntmps13
    go_wp2
    go_returns
    exact ⟨rfl, (((Below.refl w.heap.size w).alloc (Nat.le_refl _) _).alloc (by simp) _).alloc (by simp only [World.size_alloc]; omega) _⟩

set_option maxRecDepth 100000 in
set_option maxHeartbeats 1000000 in
theorem next_int (b x0 : ByteArray) (n0 t bad : Nat) (m : Int) (w : World) (ht : t ≤ b.size) (hs : b.size ≤ 4611686018427387904) (h1 : -9223372036854775808 ≤ m) (h2 : m ≤ 9223372036854775807) :
    Calls Try.prog 13 #[.string b, .agg #[.int .u64 n0, .string x0, .int .i64 t, .int .i64 bad], .agg #[.int .i64 2, .int .i64 m]] w fun e w' => e = .returned (gotV (intN b t bad m).1 ⟨#[]⟩ (intN b t bad m).2.1 (intN b t bad m).2.2) ∧ Below w.heap.size w w' := by
  have hd : decide (b.size < t) = false := decide_eq_false (by omega)
  by_cases hb : bad = 0
  · subst hb
    have hls := left_size b t
    have hm : (left b t).size ≤ maxLen := by unfold maxLen; omega
    obtain ⟨n, k, r, h⟩ : ∃ n k r, nmS (left b t) m = (n, k, r) := ⟨_, _, _, rfl⟩
    obtain ⟨g1, g2⟩ := nmS_room _ m n k r h
    rw [intN_of b t n k r m h]
    have H := Lib.hid h
    clear h
    go_enter Try.func13, Try.ntmps13
    go_wp2_with (go_at_call 22; refine (rnm_ret (left b t) m _ _ _ H.out _ hm h1 h2).mono ?_; rintro e w' ⟨rfl, rfl⟩)
    go_returns
    exact ⟨rfl, (((Below.refl w.heap.size w).alloc (Nat.le_refl _) _).alloc (by simp) _).alloc (by simp only [World.size_alloc]; omega) _⟩
  · have hb0 : ((bad : Int) == 0) = false := by simpa using hb
    rw [intN_bad b t bad m hb]
    go_enter Try.func13, Try.ntmps13
    go_wp2
    go_returns
    exact ⟨rfl, (((Below.refl w.heap.size w).alloc (Nat.le_refl _) _).alloc (by simp) _).alloc (by simp only [World.size_alloc]; omega) _⟩

set_option maxRecDepth 100000 in
set_option maxHeartbeats 1000000 in
theorem next_text (b x0 : ByteArray) (n0 t bad : Nat) (m : Int) (w : World) (ht : t ≤ b.size) (hs : b.size ≤ 4611686018427387904) (h1 : -9223372036854775808 ≤ m) (h2 : m ≤ 9223372036854775807) :
    Calls Try.prog 13 #[.string b, .agg #[.int .u64 n0, .string x0, .int .i64 t, .int .i64 bad], .agg #[.int .i64 3, .int .i64 m]] w fun e w' => e = .returned (gotV 0 (textN b t bad m).1 (textN b t bad m).2.1 (textN b t bad m).2.2) ∧ Below w.heap.size w w' := by
  have hd : decide (b.size < t) = false := decide_eq_false (by omega)
  by_cases hb : bad = 0
  · subst hb
    have hls := left_size b t
    have hm : (left b t).size ≤ maxLen := by unfold maxLen; omega
    obtain ⟨x, k, r, h⟩ : ∃ x k r, txS (left b t) m = (x, k, r) := ⟨_, _, _, rfl⟩
    have g1 := txS_room _ m x k r h
    rw [textN_of b t k r x m h]
    have H := Lib.hid h
    clear h
    go_enter Try.func13, Try.ntmps13
    go_wp2_with (go_at_call 8; refine (rtx_ret (left b t) m _ _ _ H.out _ hm h1 h2).mono ?_; rintro e w' ⟨rfl, rfl⟩)
    go_returns
    exact ⟨rfl, (((Below.refl w.heap.size w).alloc (Nat.le_refl _) _).alloc (by simp) _).alloc (by simp only [World.size_alloc]; omega) _⟩
  · have hb0 : ((bad : Int) == 0) = false := by simpa using hb
    rw [textN_bad b t bad m hb]
    go_enter Try.func13, Try.ntmps13
    go_wp2
    go_returns
    exact ⟨rfl, (((Below.refl w.heap.size w).alloc (Nat.le_refl _) _).alloc (by simp) _).alloc (by simp only [World.size_alloc]; omega) _⟩

set_option maxRecDepth 100000 in
set_option maxHeartbeats 1000000 in
theorem next_rest (b x0 : ByteArray) (n0 t bad : Nat) (kd m : Int) (w : World) (ht : t ≤ b.size) (hs : b.size ≤ 4611686018427387904) (h1 : -9223372036854775808 ≤ m) (h2 : m ≤ 9223372036854775807) (k1 : kd ≠ 1) (k2 : kd ≠ 2) (k3 : kd ≠ 3) :
    Calls Try.prog 13 #[.string b, .agg #[.int .u64 n0, .string x0, .int .i64 t, .int .i64 bad], .agg #[.int .i64 kd, .int .i64 m]] w fun e w' => e = .returned (gotV 0 (restN b t bad).1 (restN b t bad).2.1 (restN b t bad).2.2) ∧ Below w.heap.size w w' := by
  have hd : decide (b.size < t) = false := decide_eq_false (by omega)
  have q1 : (kd == 1) = false := by simpa using k1
  have q2 : (kd == 2) = false := by simpa using k2
  have q3 : (kd == 3) = false := by simpa using k3
  by_cases hb : bad = 0
  · subst hb
    have hls := left_size b t
    have hm : (left b t).size ≤ maxLen := by unfold maxLen; omega
    have hrs : restN b t 0 = (left b t, t + (b.size - t), 0) := by unfold restN; simp
    rw [hrs]
    go_enter Try.func13, Try.ntmps13
    go_wp2
    go_returns
    exact ⟨rfl, (((Below.refl w.heap.size w).alloc (Nat.le_refl _) _).alloc (by simp) _).alloc (by simp only [World.size_alloc]; omega) _⟩
  · have hb0 : ((bad : Int) == 0) = false := by simpa using hb
    rw [restN_bad b t bad hb]
    go_enter Try.func13, Try.ntmps13
    go_wp2
    go_returns
    exact ⟨rfl, (((Below.refl w.heap.size w).alloc (Nat.le_refl _) _).alloc (by simp) _).alloc (by simp only [World.size_alloc]; omega) _⟩
end Go.Proofs.Ytjjilnbladgjbaa.Vm
