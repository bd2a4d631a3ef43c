/- The reference's step over the program. -/
import Derived.Test.YtldjefnijkefcaaSpMeth
import Derived.Handy
namespace Go.Proofs.Ytldjefnijkefcaa.Vm
open Go.RowKit
set_option linter.unusedVariables false

/-- What was taken, as a value. -/
def gotV (n : Nat) (x : ByteArray) (t e : Nat) : Value := .agg #[.int .u64 n, .string x, .int .i64 t, .int .i64 e]

theorem numN_bad (b : ByteArray) (t bad : Nat) (h : bad ≠ 0) : numN b t bad = (0, t, bad) := by unfold numN; simp [h]
theorem intN_bad (b : ByteArray) (t bad : Nat) (m : Int) (h : bad ≠ 0) : intN b t bad m = (0, t, bad) := by unfold intN; simp [h]
theorem textN_bad (b : ByteArray) (t bad : Nat) (m : Int) (h : bad ≠ 0) : textN b t bad m = (ByteArray.empty, t, bad) := by unfold textN; simp [h]
theorem restN_bad (b : ByteArray) (t bad : Nat) (h : bad ≠ 0) : restN b t bad = (ByteArray.empty, t, bad) := by unfold restN; simp [h]
theorem numN_of (b : ByteArray) (t n k r : Nat) (h : tkS (left b t) = (n, k, r)) : numN b t 0 = (n, t + k, r) := by
  unfold numN; rw [h]
  by_cases hr : r = 0
  · subst hr; simp
  · obtain ⟨rfl, rfl, _⟩ := tkS_bad _ n k r h hr; simp [hr]
theorem intN_of (b : ByteArray) (t n k r : Nat) (m : Int) (h : nmS (left b t) m = (n, k, r)) : intN b t 0 m = (n, t + k, r) := by
  unfold intN; rw [h]
  by_cases hr : r = 0
  · subst hr; simp
  · obtain ⟨rfl, rfl, _⟩ := nmS_bad0 _ m n k r h hr; simp [hr]
theorem textN_of (b : ByteArray) (t k r : Nat) (x : ByteArray) (m : Int) (h : txS (left b t) m = (x, k, r)) : textN b t 0 m = (x, t + k, r) := by
  unfold textN; rw [h]
  by_cases hr : r = 0
  · subst hr; simp
  · obtain ⟨rfl, rfl, _⟩ := txS_bad0 _ m x k r h hr; simp [hr]
theorem tkS_room (s : ByteArray) (n k r : Nat) (h : tkS s = (n, k, r)) : k ≤ s.size ∧ n ≤ 18446744073709551615 := by
  by_cases hr : r = 0
  · subst hr; have := tkS_good s n k h; omega
  · have := tkS_bad s n k r h hr; omega
theorem nmS_room (s : ByteArray) (m : Int) (n k r : Nat) (h : nmS s m = (n, k, r)) : k ≤ s.size ∧ (n : Int) ≤ max m 0 := by
  by_cases hr : r = 0
  · subst hr; have := nmS_lo s m n k h; omega
  · have := nmS_bad0 s m n k r h hr; omega
theorem txS_room (s : ByteArray) (m : Int) (x : ByteArray) (k r : Nat) (h : txS s m = (x, k, r)) : k ≤ s.size := by
  by_cases hr : r = 0
  · subst hr; exact (txS_lo s m x k h).1
  · have := txS_bad0 s m x k r h hr; omega

end Go.Proofs.Ytldjefnijkefcaa.Vm
