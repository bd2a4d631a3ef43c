/- Dice: the walks of the law's example and of DiceMixes. -/
import Derived.Test.YtieoigfhjpeoeaaDcApi
namespace Go.Proofs.Ytieoigfhjpeoeaa.Dc
open Go.RowKit Cm
set_option linter.unusedVariables false
set_option linter.unusedSimpArgs false

section
variable {Dd : Nat → List Nat → World → Prop}
set_option maxRecDepth 100000 in
set_option maxHeartbeats 1000000 in
theorem awake_any (hA : Api Dd) (w : World) : Calls Try.prog 6 #[] w fun e w' => e = .returned (.bool true) ∧ Below w.heap.size w w' := by
  have HA := Lib.hid hA
  have m0 : mixN 0 0 = 0 := mix_self 0
  clear hA
  go_enter Try.func6, Try.ntmps6
  go_wp2_with (first
    | (go_at_call 7; refine (HA.out.new _).mono ?_; rintro e w1 ⟨B, rfl, hB, hb1, hd1⟩; have HD1 := Lib.hid hd1; clear hd1)
    | (go_at_call 9; refine (HA.out.put B [] 7 _ HD1.out (by omega)).mono ?_; rintro e w2 ⟨rfl, ho2, hd2⟩; have HD2 := Lib.hid hd2; clear hd2)
    | (go_at_call 8; refine (HA.out.take1 B 7 [] _ HD2.out).mono ?_; rintro e w3 ⟨rfl, ho3, hd3⟩; have HD3 := Lib.hid hd3; clear hd3)
    | (go_at_call 11; refine (HA.out.mix 0 0 _ (by omega) (by omega)).mono ?_; rw [m0]; rintro e w4 ⟨rfl, hb4⟩)
    | (go_at_call 10; refine (HA.out.left B [] _ (HA.out.below HD3.out hb4)).mono ?_; rintro e w5 ⟨rfl, ho5, hd5⟩))
  go_ret
  have o4 := ((((Only.of (B := B) hb1).trans ho2).trans ho3).after hb4).trans ho5
  exact ⟨rfl, o4.below hB (Nat.le_refl _)⟩

set_option maxRecDepth 100000 in
set_option maxHeartbeats 1000000 in
theorem mixes_walk (hA : Api Dd) (a b : Nat) (w : World) (ha : a < 18446744073709551616) (hb : b < 18446744073709551616) :
    Calls Try.prog 4 #[.int .u64 a, .int .u64 b] w fun e w' => e = .returned (.bool true) ∧ Below w.heap.size w w' := by
  have HA := Lib.hid hA
  have HC := Lib.hid (mix_comm b a)
  have HS := Lib.hid (mix_self a)
  clear hA
  obtain ⟨m, hm⟩ : ∃ m, mixN a b = m := ⟨_, rfl⟩
  have HM := Lib.hid hm
  clear hm
  have H0 := Lib.hid (Below.refl w.heap.size w)
  go_enter Try.func4, Try.ntmps4
  go_wp2_with (first
    | (go_at_call 12; refine (rmix_any a b _ ha hb).mono ?_; rw [HM.out]; rintro e w1 ⟨rfl, rfl⟩)
    | (go_at_call 11; with_reducible refine (HA.out.mix a b _ ha hb).mono ?_; rw [HM.out]; rintro e w2 ⟨rfl, hb2⟩; replace H0 := Lib.hid (H0.out.trans (hb2.mono H0.out.size)); clear hb2)
    | (go_at_call 11; with_reducible refine (HA.out.mix b a _ hb ha).mono ?_; rw [HC.out, HM.out]; rintro e w3 ⟨rfl, hb3⟩; replace H0 := Lib.hid (H0.out.trans (hb3.mono H0.out.size)); clear hb3)
    | (go_at_call 11; with_reducible refine (HA.out.mix a a _ ha ha).mono ?_; rw [HS.out]; rintro e w4 ⟨rfl, hb4⟩; replace H0 := Lib.hid (H0.out.trans (hb4.mono H0.out.size)); clear hb4)
    | (go_at_call 6; refine (awake_any HA.out _).mono ?_; rintro e w5 ⟨rfl, hb5⟩))
  go_ret
  exact ⟨rfl, H0.out.trans (hb5.mono H0.out.size)⟩
end
end Go.Proofs.Ytieoigfhjpeoeaa.Dc
