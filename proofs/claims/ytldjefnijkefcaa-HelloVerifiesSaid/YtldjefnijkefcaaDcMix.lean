/- Dice: which number any two give; the contracts of the reference's xor and Mix. -/
import Derived.Test.YtldjefnijkefcaaCmW
import Derived.Laws.Bits64
import Derived.Laws.BitsAllLaws
namespace Go.Proofs.Ytldjefnijkefcaa.Dc
open Go.RowKit Cm
set_option linter.unusedVariables false
set_option linter.unusedSimpArgs false

/-- A number of both. -/
def mixN (a b : Nat) : Nat :=
  let x := ((a ^^^ b) * 11400714819323198485) % 18446744073709551616
  let y := ((x ^^^ (x / 536870912)) * 13787848793156543929) % 18446744073709551616
  y ^^^ (y / 4294967296)
theorem xor_lt {a b : Nat} (ha : a < 18446744073709551616) (hb : b < 18446744073709551616) : a ^^^ b < 18446744073709551616 := Nat.xor_lt_two_pow (n := 64) ha hb
theorem mix_lt (a b : Nat) : mixN a b < 18446744073709551616 := by
  unfold mixN
  simp only
  refine xor_lt (by omega) (by omega)
theorem mix_comm (a b : Nat) : mixN a b = mixN b a := by unfold mixN; rw [Nat.xor_comm a b]
theorem mix_self (a : Nat) : mixN a a = 0 := by unfold mixN; rw [Nat.xor_self]; rfl
theorem xor_two (x y : Nat) : (x ^^^ y) % 2 = (x + y) % 2 := by
  have h : (x ^^^ y) % 2 ^ 1 = (x % 2 ^ 1) ^^^ (y % 2 ^ 1) := Nat.xor_mod_two_pow
  simp only [Nat.pow_one] at h
  rw [h]
  rcases Nat.mod_two_eq_zero_or_one x with hx | hx <;> rcases Nat.mod_two_eq_zero_or_one y with hy | hy <;> (rw [hx, hy, Nat.add_mod, hx, hy]; rfl)
theorem half (A j : Nat) : A / 2 ^ j / 2 = A / 2 ^ (j + 1) := by rw [Nat.div_div_eq_div_mul, Nat.pow_succ]
theorem twice (j : Nat) : (2 ^ j % 18446744073709551616 * 2) % 18446744073709551616 = 2 ^ (j + 1) % 18446744073709551616 := by rw [Nat.pow_succ, Nat.mod_mul_mod]
theorem wrap_nat (n : Nat) : IntKind.u64.wrap (n : Int) = ((n % 18446744073709551616 : Nat) : Int) := by rw [IntKind.wrap_u64]; omega
/-- Bit by bit. -/
theorem xor_step (A B i : Nat) : (A ^^^ B) % 2 ^ (i + 1) = (A ^^^ B) % 2 ^ i + if A / 2 ^ i % 2 = B / 2 ^ i % 2 then 0 else 2 ^ i := by
  have h1 : (A ^^^ B) % 2 ^ (i + 1) = (A ^^^ B) % 2 ^ i + 2 ^ i * ((A ^^^ B) / 2 ^ i % 2) := Nat.mod_pow_succ
  have h2 : (A ^^^ B) / 2 ^ i = (A / 2 ^ i) ^^^ (B / 2 ^ i) := by
    rw [← Nat.shiftRight_eq_div_pow, ← Nat.shiftRight_eq_div_pow, ← Nat.shiftRight_eq_div_pow, Nat.shiftRight_xor_distrib]
  have h3 : ((A / 2 ^ i) ^^^ (B / 2 ^ i)) % 2 = (A / 2 ^ i + B / 2 ^ i) % 2 := xor_two _ _
  rw [h1, h2, h3]
  by_cases h : A / 2 ^ i % 2 = B / 2 ^ i % 2
  · rw [if_pos h, show (A / 2 ^ i + B / 2 ^ i) % 2 = 0 by omega, Nat.mul_zero]
  · rw [if_neg h, show (A / 2 ^ i + B / 2 ^ i) % 2 = 1 by omega, Nat.mul_one]
theorem pow_lt64 {i : Nat} (h : i < 64) : 2 ^ i < 18446744073709551616 := Nat.pow_lt_pow_right (by omega) h
theorem xor_end {A B : Nat} (ha : A < 18446744073709551616) (hb : B < 18446744073709551616) : (A ^^^ B) % 2 ^ 64 = A ^^^ B := Nat.mod_eq_of_lt (xor_lt ha hb)

end Go.Proofs.Ytldjefnijkefcaa.Dc
