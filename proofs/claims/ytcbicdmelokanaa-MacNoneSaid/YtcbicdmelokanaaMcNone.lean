/- Tags that were issued: the walk of the law MacNone. -/
import Derived.Test.YtcbicdmelokanaaMcApi
namespace Go.Proofs.Ytcbicdmelokanaa.Mc
open Go.RowKit Cm Dc
set_option linter.unusedVariables false
set_option linter.unusedSimpArgs false

section
variable {Dd : Nat → List Nat → World → Prop} {Mt : Nat → (Nat → Nat) → (Nat → Nat) → World → Prop}
set_option maxRecDepth 100000 in
set_option maxHeartbeats 2000000 in
theorem none_walk (hD : Dc.Api Dd) (hA : Api Dd Mt) (o p : Int) (t : Nat) (w : World) (ho : I64 o) (hp : I64 p) (ht : t < 18446744073709551616) :
    Calls Try.prog 5 #[.int .i64 o, .int .i64 p, .int .u64 (t : Int)] w fun e w' => e = .returned (.bool true) ∧ Below w.heap.size w w' := by
  have HA := Lib.hid hA
  have HD := Lib.hid hD
  have HO := Lib.hid ho
  have HP := Lib.hid hp
  have HT := Lib.hid ht
  have h1 := Lib.hid (show decide (0 ≤ o ∧ o ≤ 8 ∧ (t : Int) ≠ 0 ∧ (((fun _ => 0) o.toNat : Nat) : Int) = p ∧ (((fun _ => 0) o.toNat : Nat) : Int) = (t : Int)) = false by
    refine decide_eq_false fun h => h.2.2.1 ?_
    exact h.2.2.2.2.symm)
  clear hA hD ho hp ht
  go_enter Try.func5, Try.ntmps5
  go_wp2_with (first
    | (go_at_call 8; refine (HD.out.new _).mono ?_; rintro e w1 ⟨D, rfl, hD, hb1, hd1⟩; have HD1 := Lib.hid hd1; have HB1 := Lib.hid hb1; have HDB := Lib.hid hD; clear hd1 hb1 hD)
    | (go_at_call 9; refine (HD.out.put D [] 1 _ HD1.out (by omega)).mono ?_; rintro e w2 ⟨rfl, ho2, hd2⟩; have HD2 := Lib.hid hd2; have HB2 := Lib.hid (HB1.out.trans (ho2.below HDB.out HB1.out.size)); clear hd2 ho2)
    | (go_at_call 10; refine (HA.out.issueN D o [1] _ HD2.out HO.out).mono ?_; rintro e w3 ⟨rfl, ho3, hd3⟩; have HD3 := Lib.hid hd3; have HB3 := Lib.hid (HB2.out.trans (ho3.below HDB.out HB2.out.size)); clear hd3 ho3)
    | (go_at_call 19; refine (HD.out.left D [1] _ HD3.out).mono ?_; rintro e w4 ⟨rfl, ho4, hd4⟩; have HB4 := Lib.hid (HB3.out.trans (ho4.below HDB.out HB3.out.size)); clear hd4 ho4)
    | (go_at_call 13; refine (HA.out.revokeN o _ HO.out).mono ?_; rintro e w5 ⟨rfl, hb5⟩; have HB5 := Lib.hid (HB4.out.trans (hb5.mono HB4.out.size)); clear hb5)
    | (go_at_call 15; refine (HA.out.epochN o _ HO.out).mono ?_; rintro e w7 ⟨rfl, hb7⟩; have HB7 := Lib.hid (HB6.out.trans (hb7.mono HB6.out.size)); clear hb7)
    | (go_at_call 7; refine (HA.out.new _).mono ?_; rintro e w8 ⟨B, rfl, hB, hb8, hm8⟩; have HM8 := Lib.hid hm8; have HBB := Lib.hid (Nat.le_trans HB7.out.size hB); have HB8 := Lib.hid (HB7.out.trans (hb8.mono HB7.out.size)); clear hb8 hm8 hB)
    | (go_at_call 17; with_reducible refine (HA.out.knows B o p t _ _ _ HM8.out HO.out HP.out HT.out).mono ?_; rw [h1.out]; rintro e w9 ⟨rfl, ho9, hm9⟩; have HB9 := Lib.hid (HB8.out.trans (ho9.below HBB.out HB8.out.size)); clear hm9 ho9)
    | (go_at_call 17; with_reducible refine (HA.out.knowsN o p t _ HO.out HP.out HT.out).mono ?_; rintro e w6 ⟨rfl, hb6⟩; have HB6 := Lib.hid (HB5.out.trans (hb6.mono HB5.out.size)); clear hb6)
    | (go_at_call 6; refine (awake_any HD.out HA.out _).mono ?_; rintro e w10 ⟨rfl, hb10⟩; have HB10 := Lib.hid (HB9.out.trans (hb10.mono HB9.out.size)); clear hb10))
  go_ret
  exact ⟨rfl, HB10.out⟩
end
end Go.Proofs.Ytcbicdmelokanaa.Mc
