/- The contract of the reference's Put over the program, and of varint.PutInt and awake. -/
import Derived.Test.YtldjefnijkefcaaVmPut
import Derived.Test.YtldjefnijkefcaaVmNums
namespace Go.Proofs.Ytldjefnijkefcaa.Vm
open Go.RowKit
set_option linter.unusedVariables false

theorem str_eq {a b : ByteArray} (h : a.data.toList = b.data.toList) : Ending.returned (.string a) = .returned (.string b) := by
  have : a = b := ByteArray.ext (Array.toList_inj.1 h)
  rw [this]

theorem rput_int : ∀ (n : Nat) (x : Int) (w : World), x = n → n ≤ 18446744073709551615 →
    Calls Try.prog 18 #[.int .u64 x] w fun e w' => e = .returned (.string ⟨(putL n).toArray⟩) ∧ Below w.heap.size w w' := by
  intro n
  induction n using Nat.strongRecOn with
  | ind n ih =>
    intro x w hx h2
    subst hx
    by_cases hn : n < 128
    · have hlt : (n : Int) < 128 := by omega
      go_enter Try.func18, Try.ntmps18
      go_wp2_with (go_at_call 27; refine (byte_any _ _ (by omega) (by omega)).mono ?_; rintro e w' ⟨rfl, hb⟩)
      go_ret
      exact ⟨str_eq (by rw [putL_lt hn]), hb⟩
    · have hlt : ¬ (n : Int) < 128 := by omega
      have IH := Lib.hid ih
      clear ih
      have hlen := putL_len10 (n / 128) (by omega)
      go_enter Try.func18, Try.ntmps18
      go_wp2_with (first | (go_at_call 27; refine (byte_any _ _ (by omega) (by omega)).mono ?_; rintro e w' ⟨rfl, hb⟩) | (go_at_call 18; refine (IH.out (n / 128) (by omega) _ _ (by omega) (by omega)).mono ?_; rintro e w'' ⟨rfl, hb2⟩))
      go_ret
      refine ⟨str_eq ?_, hb.trans (hb2.mono hb.size)⟩
      rw [putL_ge (n := n) (by omega)]
      simp
theorem rput_any (n : Nat) (w : World) (h2 : n ≤ 18446744073709551615) :
    Calls Try.prog 18 #[.int .u64 n] w fun e w' => e = .returned (.string ⟨(putL n).toArray⟩) ∧ Below w.heap.size w w' := rput_int n n w rfl h2

theorem put300 : putL 300 = [172, 2] := by rw [putL_ge (by omega), putL_lt (by omega)]; rfl
end Go.Proofs.Ytldjefnijkefcaa.Vm
