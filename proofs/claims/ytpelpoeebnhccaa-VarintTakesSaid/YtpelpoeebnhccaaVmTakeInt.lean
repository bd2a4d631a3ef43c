/- The contract of varint.TakeInt over the program, and those of both Takes with their three results named. -/
import Derived.Test.YtpelpoeebnhccaaVmTake
namespace Go.Proofs.Ytpelpoeebnhccaa.Vm
open Go.RowKit
set_option linter.unusedVariables false

theorem tkS_lo (s : ByteArray) : (tkS s).1 < 18446744073709551616 := by
  unfold tkS
  rcases tk_err s.data.toList 0 0 with ⟨x, k, h⟩ | h | h
  · rw [h]; exact (tk_one0 _ _ _ h).2.2.2.2
  · rw [h]; decide
  · rw [h]; decide

theorem take_ret (s : ByteArray) (n k e : Nat) (h : tkS s = (n, k, e)) (w : World) (hs : s.size ≤ maxLen) :
    Calls Try.prog 16 #[.string s] w fun x w' => x = .returned (.tuple #[.int .u64 n, .int .i64 k, .int .i64 e]) ∧ w = w' :=
  (take_any s w hs).mono fun _ _ ⟨h1, h2⟩ => ⟨by rw [h1, h]; rfl, h2⟩
theorem takeint_ret (s : ByteArray) (n k e : Nat) (h : tkS s = (n, k, e)) (w : World) (hs : s.size ≤ maxLen) :
    Calls Try.prog 18 #[.string s] w fun x w' => x = .returned (.tuple #[.int .i64 (back n), .int .i64 k, .int .i64 e]) ∧ w = w' := by
  have hn : n ≤ 18446744073709551615 := by have := tkS_lo s; rw [h] at this; exact Nat.le_of_lt_succ this
  have H := Lib.hid h
  clear h
  go_enter Try.func18, Try.ntmps18
  go_wp2_with (first | (go_at_call 16; refine (take_ret s n k e H.out _ hs).mono ?_; rintro e w' ⟨rfl, rfl⟩) | (go_at_call 12; refine (back_any _ _ (by omega) (by omega)).mono ?_; rintro e w' ⟨rfl, rfl⟩))
  go_ret3
  exact ⟨rfl, rfl⟩
theorem rtake_ret (s : ByteArray) (n k e : Nat) (h : tkS s = (n, k, e)) (w : World) (hs : s.size ≤ maxLen) :
    Calls Try.prog 17 #[.string s] w fun x w' => x = .returned (.tuple #[.int .u64 n, .int .i64 k, .int .i64 e]) ∧ w = w' :=
  (rtake_any s w hs).mono fun _ _ ⟨h1, h2⟩ => ⟨by rw [h1, h]; rfl, h2⟩
end Go.Proofs.Ytpelpoeebnhccaa.Vm
