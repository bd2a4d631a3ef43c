/- Dice: which number any two give; the contracts of the reference's xor and Mix. -/
import Derived.Test.YtcbicdmelokanaaCmW
import Derived.Laws.Bits64
import Derived.Laws.BitsAllLaws
namespace Go.Proofs.Ytcbicdmelokanaa.Dc
open Go.RowKit Cm
set_option linter.unusedVariables false
set_option linter.unusedSimpArgs false

/-- A number of both. -/
def mixN (a b : Nat) : Nat :=
  let x := ((a ^^^ b) * 11400714819323198485) % 18446744073709551616
  let y := ((x ^^^ (x / 536870912)) * 13787848793156543929) % 18446744073709551616
  y ^^^ (y / 4294967296)
theorem xor_lt {a b : Nat} (ha : a < 18446744073709551616) (hb : b < 18446744073709551616) : a ^^^ b < 18446744073709551616 := Nat.xor_lt_two_pow (n := 64) ha hb
theorem mix_lt (a b : Nat) : mixN a b < 18446744073709551616 := by
  unfold mixN
  simp only
  refine xor_lt (by omega) (by omega)
theorem mix_comm (a b : Nat) : mixN a b = mixN b a := by unfold mixN; rw [Nat.xor_comm a b]
theorem mix_self (a : Nat) : mixN a a = 0 := by unfold mixN; rw [Nat.xor_self]; rfl
theorem xor_two (x y : Nat) : (x ^^^ y) % 2 = (x + y) % 2 := by
  have h : (x ^^^ y) % 2 ^ 1 = (x % 2 ^ 1) ^^^ (y % 2 ^ 1) := Nat.xor_mod_two_pow
  simp only [Nat.pow_one] at h
  rw [h]
  rcases Nat.mod_two_eq_zero_or_one x with hx | hx <;> rcases Nat.mod_two_eq_zero_or_one y with hy | hy <;> (rw [hx, hy, Nat.add_mod, hx, hy]; rfl)
theorem half (A j : Nat) : A / 2 ^ j / 2 = A / 2 ^ (j + 1) := by rw [Nat.div_div_eq_div_mul, Nat.pow_succ]
theorem twice (j : Nat) : (2 ^ j % 18446744073709551616 * 2) % 18446744073709551616 = 2 ^ (j + 1) % 18446744073709551616 := by rw [Nat.pow_succ, Nat.mod_mul_mod]
theorem wrap_nat (n : Nat) : IntKind.u64.wrap (n : Int) = ((n % 18446744073709551616 : Nat) : Int) := by rw [IntKind.wrap_u64]; omega
/-- Bit by bit. -/
theorem xor_step (A B i : Nat) : (A ^^^ B) % 2 ^ (i + 1) = (A ^^^ B) % 2 ^ i + if A / 2 ^ i % 2 = B / 2 ^ i % 2 then 0 else 2 ^ i := by
  have h1 : (A ^^^ B) % 2 ^ (i + 1) = (A ^^^ B) % 2 ^ i + 2 ^ i * ((A ^^^ B) / 2 ^ i % 2) := Nat.mod_pow_succ
  have h2 : (A ^^^ B) / 2 ^ i = (A / 2 ^ i) ^^^ (B / 2 ^ i) := by
    rw [← Nat.shiftRight_eq_div_pow, ← Nat.shiftRight_eq_div_pow, ← Nat.shiftRight_eq_div_pow, Nat.shiftRight_xor_distrib]
  have h3 : ((A / 2 ^ i) ^^^ (B / 2 ^ i)) % 2 = (A / 2 ^ i + B / 2 ^ i) % 2 := xor_two _ _
  rw [h1, h2, h3]
  by_cases h : A / 2 ^ i % 2 = B / 2 ^ i % 2
  · rw [if_pos h, show (A / 2 ^ i + B / 2 ^ i) % 2 = 0 by omega, Nat.mul_zero]
  · rw [if_neg h, show (A / 2 ^ i + B / 2 ^ i) % 2 = 1 by omega, Nat.mul_one]
theorem pow_lt64 {i : Nat} (h : i < 64) : 2 ^ i < 18446744073709551616 := Nat.pow_lt_pow_right (by omega) h
theorem xor_end {A B : Nat} (ha : A < 18446744073709551616) (hb : B < 18446744073709551616) : (A ^^^ B) % 2 ^ 64 = A ^^^ B := Nat.mod_eq_of_lt (xor_lt ha hb)

set_option maxRecDepth 100000 in
set_option maxHeartbeats 1000000 in
theorem rxor_any (A B : Nat) (x y : Int) (w : World) (hx : x = A) (hy : y = B) (hA : A < 18446744073709551616) (hB : B < 18446744073709551616) :
    Calls Try.prog 24 #[.int .u64 x, .int .u64 y] w fun e w' => e = .returned (.int .u64 ((A ^^^ B : Nat) : Int)) ∧ w' = w := by
  subst hx
  subst hy
  go_enter Try.func24, Try.ntmps24
  go_wp2
  go_loopw [0, 1, 5, 6, 7] (fun a b o p i wr => ∃ j c d q r : Nat, j ≤ 64 ∧ i = .int .i64 (j : Nat) ∧ a = .int .u64 (c : Nat) ∧ b = .int .u64 (d : Nat) ∧ o = .int .u64 (q : Nat) ∧ p = .int .u64 (r : Nat) ∧ c < 18446744073709551616 ∧ d < 18446744073709551616 ∧ r < 18446744073709551616 ∧
    Hid (c = A / 2 ^ j ∧ d = B / 2 ^ j ∧ q = (A ^^^ B) % 2 ^ j ∧ r = 2 ^ j % 18446744073709551616) ∧ wr = w) (fun _ _ _ _ i _ => 64 - (intOf i).toNat)
  case atStart => exact ⟨0, A, B, 0, 1, by omega, rfl, rfl, rfl, rfl, rfl, hA, hB, by omega, Lib.hid ⟨by simp, by simp, by rw [Nat.pow_zero, Nat.mod_one], by simp⟩, rfl⟩
  case round =>
    obtain ⟨j, c, d, q, r, hj, rfl, rfl, rfl, rfl, rfl, hc, hd, hr, HI, rfl⟩ := hrel
    by_cases hjl : j < 64
    · have hji : (j : Int) < 64 := by omega
      have hrr : r = 2 ^ j := by rw [HI.out.2.2.2, Nat.mod_eq_of_lt (pow_lt64 hjl)]
      have hq : q < 2 ^ j := by rw [HI.out.2.2.1]; exact Nat.mod_lt _ (Nat.two_pow_pos j)
      have h2 : 2 ^ (j + 1) ≤ 2 ^ 64 := Nat.pow_le_pow_right (by omega) (by omega)
      have h3 : 2 ^ (j + 1) = 2 ^ j * 2 := Nat.pow_succ 2 j
      have hqr : q + r ≤ 18446744073709551615 := by
        have : (2 : Nat) ^ 64 = 18446744073709551616 := rfl
        omega
      have hst := Lib.hid (xor_step A B j)
      have hpw : Hid (r = 2 ^ j) := Lib.hid hrr
      clear hrr hq h2 h3
      have e1 : (c : Int).tmod 2 = (c : Int) % 2 := Int.tmod_eq_emod_of_nonneg (by omega)
      have e2 : (d : Int).tmod 2 = (d : Int) % 2 := Int.tmod_eq_emod_of_nonneg (by omega)
      by_cases hb : c % 2 = d % 2
      · have f1 : ((c : Int) % 2 != (d : Int) % 2) = false := by rw [show (c : Int) % 2 = (d : Int) % 2 by omega]; simp
        have Hb := Lib.hid hb
        clear hb
        go_wp2
        refine ⟨⟨j + 1, c / 2, d / 2, q, r * 2 % 18446744073709551616, by omega, by go_num, by congr 1, by congr 1, rfl, by rw [show ((r : Int) * 2) = ((r * 2 : Nat) : Int) by omega, wrap_nat], by omega, by omega, Nat.mod_lt _ (by decide), Lib.hid ⟨by rw [HI.out.1, half], by rw [HI.out.2.1, half], ?_, by rw [HI.out.2.2.2, twice]⟩, trivial⟩, by simp [intOf]; omega⟩
        have h1 := HI.out.1
        have h2 := HI.out.2.1
        rw [hst.out, if_pos (by rw [← h1, ← h2]; exact Hb.out), Nat.add_zero]
        exact HI.out.2.2.1
      · have f1 : ((c : Int) % 2 != (d : Int) % 2) = true := by
          have : ¬ (c : Int) % 2 = (d : Int) % 2 := by omega
          simpa using this
        have Hb := Lib.hid hb
        clear hb
        go_wp2
        refine ⟨⟨j + 1, c / 2, d / 2, q + r, r * 2 % 18446744073709551616, by omega, by go_num, by congr 1, by congr 1, by congr 1, by rw [show ((r : Int) * 2) = ((r * 2 : Nat) : Int) by omega, wrap_nat], by omega, by omega, Nat.mod_lt _ (by decide), Lib.hid ⟨by rw [HI.out.1, half], by rw [HI.out.2.1, half], ?_, by rw [HI.out.2.2.2, twice]⟩, trivial⟩, by simp [intOf]; omega⟩
        have h1 := HI.out.1
        have h2 := HI.out.2.1
        rw [hst.out, if_neg (by rw [← h1, ← h2]; exact Hb.out), ← HI.out.2.2.1, ← hpw.out]
    · have hji : ¬ (j : Int) < 64 := by omega
      obtain rfl : j = 64 := by omega
      have hqe := HI.out.2.2.1
      rw [xor_end hA hB] at hqe
      have HQ := Lib.hid hqe
      clear hqe
      go_wp2
      go_ret
      exact ⟨by rw [← HQ.out]; rfl, rfl⟩
set_option maxRecDepth 100000 in
set_option maxHeartbeats 1000000 in
theorem rmix_any (A B : Nat) (w : World) (hA : A < 18446744073709551616) (hB : B < 18446744073709551616) :
    Calls Try.prog 22 #[.int .u64 A, .int .u64 B] w fun e w' => e = .returned (.int .u64 ((mixN A B : Nat) : Int)) ∧ w' = w := by
  obtain ⟨X, hX⟩ : ∃ X, X = (A ^^^ B) * 11400714819323198485 % 18446744073709551616 := ⟨_, rfl⟩
  obtain ⟨Y, hY⟩ : ∃ Y, Y = (X ^^^ (X / 536870912)) * 13787848793156543929 % 18446744073709551616 := ⟨_, rfl⟩
  have hXl : X < 18446744073709551616 := by omega
  have hYl : Y < 18446744073709551616 := by omega
  have e1 : IntKind.u64.wrap (((A ^^^ B : Nat) : Int) * 11400714819323198485) = (X : Int) := by rw [show (((A ^^^ B : Nat) : Int) * 11400714819323198485) = (((A ^^^ B) * 11400714819323198485 : Nat) : Int) by omega, wrap_nat, hX]
  have e2 : IntKind.u64.wrap (((X ^^^ (X / 536870912) : Nat) : Int) * 13787848793156543929) = (Y : Int) := by rw [show (((X ^^^ (X / 536870912) : Nat) : Int) * 13787848793156543929) = (((X ^^^ (X / 536870912)) * 13787848793156543929 : Nat) : Int) by omega, wrap_nat, hY]
  have hm : mixN A B = Y ^^^ (Y / 4294967296) := by unfold mixN; simp only; rw [← hX, ← hY]
  have HM := Lib.hid hm
  clear hX hY hm
  go_enter Try.func22, Try.ntmps22
  go_wp2_with (first
    | (go_at_call 24; refine (rxor_any A B _ _ _ (by omega) (by omega) hA hB).mono ?_; rintro e w1 ⟨rfl, rfl⟩)
    | (go_at_call 24; refine (rxor_any X (X / 536870912) _ _ _ (by omega) (by omega) hXl (by omega)).mono ?_; rintro e w1 ⟨rfl, rfl⟩)
    | (go_at_call 24; refine (rxor_any Y (Y / 4294967296) _ _ _ (by omega) (by omega) hYl (by omega)).mono ?_; rintro e w1 ⟨rfl, rfl⟩))
  go_ret
  exact ⟨by rw [HM.out]; rfl, rfl⟩
end Go.Proofs.Ytcbicdmelokanaa.Dc
