/- The contract of varint.TakeInt over the program, and those of both Takes with their three results named. -/
import Derived.Test.YtldjefnijkefcaaVmTake
namespace Go.Proofs.Ytldjefnijkefcaa.Vm
open Go.RowKit
set_option linter.unusedVariables false

theorem tkS_lo (s : ByteArray) : (tkS s).1 < 18446744073709551616 := by
  unfold tkS
  rcases tk_err s.data.toList 0 0 with ⟨x, k, h⟩ | h | h
  · rw [h]; exact (tk_one0 _ _ _ h).2.2.2.2
  · rw [h]; decide
  · rw [h]; decide

theorem take_ret (s : ByteArray) (n k e : Nat) (h : tkS s = (n, k, e)) (w : World) (hs : s.size ≤ maxLen) :
    Calls Try.prog 29 #[.string s] w fun x w' => x = .returned (.tuple #[.int .u64 n, .int .i64 k, .int .i64 e]) ∧ w = w' :=
  (take_any s w hs).mono fun _ _ ⟨h1, h2⟩ => ⟨by rw [h1, h]; rfl, h2⟩
theorem rtake_ret (s : ByteArray) (n k e : Nat) (h : tkS s = (n, k, e)) (w : World) (hs : s.size ≤ maxLen) :
    Calls Try.prog 23 #[.string s] w fun x w' => x = .returned (.tuple #[.int .u64 n, .int .i64 k, .int .i64 e]) ∧ w = w' :=
  (rtake_any s w hs).mono fun _ _ ⟨h1, h2⟩ => ⟨by rw [h1, h]; rfl, h2⟩
end Go.Proofs.Ytldjefnijkefcaa.Vm
