/- Tags that were issued: the walk of the law MacFresh. -/
import Derived.Test.YtcbicdmelokanaaMcApi
import Derived.BigQuiet
namespace Go.Proofs.Ytcbicdmelokanaa.Mc
open Go.RowKit Cm Dc
set_option linter.unusedVariables false
set_option linter.unusedSimpArgs false

theorem kn_yes {E T : Nat → Nat} {p t : Nat} {e : Int} (hp : p ≤ 8) (ht : t ≠ 0) (h1 : (E p : Int) = e) (h2 : T p = t) : decide (0 ≤ (p : Int) ∧ (p : Int) ≤ 8 ∧ (t : Int) ≠ 0 ∧ (E (p : Int).toNat : Int) = e ∧ (T (p : Int).toNat : Int) = (t : Int)) = true := by
  refine decide_eq_true ⟨by omega, by omega, by omega, ?_, ?_⟩
  · rw [Int.toNat_natCast, h1]
  · rw [Int.toNat_natCast, h2]
theorem kn_no {E T : Nat → Nat} {p t : Nat} {e : Int} (h : ¬ ((E p : Int) = e ∧ T p = t ∧ t ≠ 0)) : decide (0 ≤ (p : Int) ∧ (p : Int) ≤ 8 ∧ (t : Int) ≠ 0 ∧ (E (p : Int).toNat : Int) = e ∧ (T (p : Int).toNat : Int) = (t : Int)) = false := by
  refine decide_eq_false fun ⟨_, _, h3, h4, h5⟩ => h ?_
  rw [Int.toNat_natCast] at h4 h5
  omega
section
variable {Dd : Nat → List Nat → World → Prop} {Mt : Nat → (Nat → Nat) → (Nat → Nat) → World → Prop}
set_option maxRecDepth 100000 in
set_option maxHeartbeats 4000000 in
theorem fresh_walk (hD : Dc.Api Dd) (hA : Api Dd Mt) (Z : Array Value) (hz : ∀ w : World, Mt w.heap.size (fun _ => 0) (fun _ => 0) (w.alloc (.cells Z 54)))
    (hzv : ∀ w : World, (zeroValue 54).run Try.prog w = .ok (.agg Z) w)
    (a b : Nat) (u v : Nat) (w : World) (ha : a < 18446744073709551616) (hb : b < 18446744073709551616) (hu : u < 256) (hv : v < 256) :
    Calls Try.prog 4 #[.int .u64 (a : Int), .int .u64 (b : Int), .agg #[.int .u8 (u : Int), .int .u8 (v : Int)]] w fun e w' => e = .returned (.bool true) ∧ Below w.heap.size w w' := by
  have HA := Lib.hid hA
  have HD := Lib.hid hD
  have HZ := Lib.hid hz
  have HHA := Lib.hid ha
  have HHB := Lib.hid hb
  obtain ⟨p, hp⟩ : ∃ p, u % 9 = p := ⟨_, rfl⟩
  obtain ⟨q, hq⟩ : ∃ q, v % 9 = q := ⟨_, rfl⟩
  have hp8 : p ≤ 8 := by omega
  have hq8 : q ≤ 8 := by omega
  have c0 := (Cs.new w [.int .u8 (u : Int), .int .u8 (v : Int)] 49).two
  have f1 : (u : Int).tmod 9 = (p : Int) := by rw [Int.tmod_eq_emod_of_nonneg (by omega)]; omega
  have f2 : (v : Int).tmod 9 = (q : Int) := by rw [Int.tmod_eq_emod_of_nonneg (by omega)]; omega
  have f1' : (u : Int) % 9 = (p : Int) := by omega
  have f2' : (v : Int) % 9 = (q : Int) := by omega
  have f3 : IntKind.u8.wrap (p : Int) = (p : Int) := by rw [IntKind.wrap_u8]; omega
  have f4 : IntKind.u8.wrap (q : Int) = (q : Int) := by rw [IntKind.wrap_u8]; omega
  have f5 : IntKind.i64.wrap (p : Int) = (p : Int) := IntWalk.i64_in _ (by omega)
  have f6 : IntKind.i64.wrap (q : Int) = (q : Int) := IntWalk.i64_in _ (by omega)
  have B0 := Lib.hid ((Below.refl w.heap.size w).alloc (Nat.le_refl _) (.cells #[.int .u8 (u : Int), .int .u8 (v : Int)] 49))
  clear hA hD hz ha hb hp hq
  go_enter Try.func4, Try.ntmps4
  go_wp2
  go_big_quiet (fail)
  have B1 := Lib.hid (below_drewN B0.out nq)
  generalize ((w.alloc (.cells #[.int .u8 (u : Int), .int .u8 (v : Int)] 49)).drewN nq) = w0 at B1 ⊢
  clear B0 c0 f1 f2 f1' f2' f3 f4 f5 f6
  by_cases hpq : p = q
  · subst hpq
    go_wp2_with (go_at_call 6; refine (awake_any HD.out HA.out _).mono ?_; rintro e w1 ⟨rfl, hb1⟩)
    go_ret
    exact ⟨rfl, B1.out.trans (hb1.mono B1.out.size)⟩
  · have g1 : ((p : Int) == (q : Int)) = false := by simpa using (show ¬ (p : Int) = (q : Int) by omega)
    obtain ⟨x, hx⟩ : ∃ x, tagN a 1 p = x := ⟨_, rfl⟩
    obtain ⟨y, hy⟩ : ∃ y, tagN b 1 q = y := ⟨_, rfl⟩
    obtain ⟨z, hz⟩ : ∃ z, tagN a 2 p = z := ⟨_, rfl⟩
    have HXL := Lib.hid (show x < 18446744073709551616 by rw [← hx]; exact tag_lt _ _ _)
    have HYL := Lib.hid (show y < 18446744073709551616 by rw [← hy]; exact tag_lt _ _ _)
    have HZL := Lib.hid (show z < 18446744073709551616 by rw [← hz]; exact tag_lt _ _ _)
    have hy0 : y ≠ 0 := by rw [← hy]; exact tag_pos _ _ _
    have hz0 : z ≠ 0 := by rw [← hz]; exact tag_pos _ _ _
    obtain ⟨E0, hE0⟩ : ∃ E0 : Nat → Nat, E0 = fun _ => 0 := ⟨_, rfl⟩
    obtain ⟨E1, hE1⟩ : ∃ E1, upN E0 p 1 = E1 := ⟨_, rfl⟩
    obtain ⟨E2, hE2⟩ : ∃ E2, upN E1 q 1 = E2 := ⟨_, rfl⟩
    obtain ⟨E3, hE3⟩ : ∃ E3, upN E2 p 2 = E3 := ⟨_, rfl⟩
    obtain ⟨T1, hT1⟩ : ∃ T1, upN E0 p x = T1 := ⟨_, rfl⟩
    obtain ⟨T2, hT2⟩ : ∃ T2, upN T1 q y = T2 := ⟨_, rfl⟩
    obtain ⟨T3, hT3⟩ : ∃ T3, upN T2 p z = T3 := ⟨_, rfl⟩
    obtain ⟨T4, hT4⟩ : ∃ T4, upN T3 p 0 = T4 := ⟨_, rfl⟩
    have n1 : E0 p + 1 = 1 := by rw [hE0]
    have n2 : E1 q + 1 = 1 := by rw [← hE1, upN_other _ _ (fun e => hpq e.symm), hE0]
    have n3 : E2 p + 1 = 2 := by rw [← hE2, upN_other _ _ hpq, ← hE1, upN_same]
    have e3p : E3 p = 2 := by rw [← hE3, upN_same]
    have e3q : E3 q = 1 := by rw [← hE3, upN_other _ _ (fun e => hpq e.symm), ← hE2, upN_same]
    have t3p : T3 p = z := by rw [← hT3, upN_same]
    have t3q : T3 q = y := by rw [← hT3, upN_other _ _ (fun e => hpq e.symm), ← hT2, upN_same]
    have t4p : T4 p = 0 := by rw [← hT4, upN_same]
    have t4q : T4 q = y := by rw [← hT4, upN_other _ _ (fun e => hpq e.symm), t3q]
    have k1 := Lib.hid (kn_no (E := E3) (T := T3) (p := p) (e := 1) (t := x) (by omega))
    have k2 := Lib.hid (kn_yes (E := E3) (T := T3) (e := 2) hp8 hz0 (by omega) t3p)
    have k3 := Lib.hid (kn_yes (E := E3) (T := T3) (e := 1) hq8 hy0 (by omega) t3q)
    have k4 := Lib.hid (kn_no (E := E3) (T := T4) (p := p) (e := 2) (t := z) (by omega))
    have k5 := Lib.hid (kn_no (E := E3) (T := T4) (p := p) (e := 0) (t := 0) (by omega))
    have k6 := Lib.hid (kn_yes (E := E3) (T := T4) (e := 1) hq8 hy0 (by omega) t4q)
    have k7 := Lib.hid (show (if 0 ≤ (p : Int) ∧ (p : Int) ≤ 8 then (E3 (p : Int).toNat : Int) else 0) = 2 by rw [if_pos (by omega), Int.toNat_natCast, e3p]; rfl)
    have k8 := Lib.hid (show T3 p ≠ 0 by rw [t3p]; exact hz0)
    have k9 := Lib.hid t4p
    have HXD := Lib.hid hx
    have HYD := Lib.hid hy
    have HZD := Lib.hid hz
    have N1 := Lib.hid n1
    have N2 := Lib.hid n2
    have N3 := Lib.hid n3
    have D1 := Lib.hid (And.intro hE1 hT1)
    have D2 := Lib.hid (And.intro hE2 hT2)
    have D3 := Lib.hid (And.intro hE3 hT3)
    have D4 := Lib.hid hT4
    have HZ0 : Hid (∀ w : World, Mt w.heap.size E0 E0 (w.alloc (.cells Z 54))) := Lib.hid (fun w => by rw [hE0]; exact HZ.out w)
    clear hx hy hz hE0 hE1 hE2 hE3 hT1 hT2 hT3 hT4 n1 n2 n3 e3p e3q t3p t3q t4p t4q hy0 hz0 HZ
    go_upto_region 8 with (first
      | (go_at_call 8; refine (HD.out.new _).mono ?_; rintro e w1 ⟨D, rfl, hD, hb1, hd1⟩; have HD1 := Lib.hid hd1; have HB1 := Lib.hid (B1.out.trans (hb1.mono B1.out.size)); have HDB := Lib.hid (Nat.le_trans B1.out.size hD); clear hd1 hb1 hD)
      | (go_at_call 9; (with_reducible refine (HD.out.put D [a, b] a _ HD3.out HHA.out).mono ?_); rintro e w4 ⟨rfl, ho4, hd4⟩; have HD4 : Hid (Dd D [a, b, a] w4) := Lib.hid hd4; have HB4 := Lib.hid (HB3.out.trans (ho4.below HDB.out HB3.out.size)); clear hd4 ho4)
      | (go_at_call 9; (with_reducible refine (HD.out.put D [a] b _ HD2.out HHB.out).mono ?_); rintro e w3 ⟨rfl, ho3, hd3⟩; have HD3 : Hid (Dd D [a, b] w3) := Lib.hid hd3; have HB3 := Lib.hid (HB2.out.trans (ho3.below HDB.out HB2.out.size)); clear hd3 ho3)
      | (go_at_call 9; (with_reducible refine (HD.out.put D [] a _ HD1.out HHA.out).mono ?_); rintro e w2 ⟨rfl, ho2, hd2⟩; have HD2 : Hid (Dd D [a] w2) := Lib.hid hd2; have HB2 := Lib.hid (HB1.out.trans (ho2.below HDB.out HB1.out.size)); clear hd2 ho2))
    have hm5 := HZ0.out w4
    have hb5 := HB4.out.alloc HB4.out.size (.cells Z 54)
    have hd5 := HD.out.below HD4.out ((Below.refl w4.heap.size w4).alloc (Nat.le_refl _) (.cells Z 54))
    have hne : w4.heap.size ≠ D := by have := HD.out.lt HD4.out; omega
    have hBB := HB4.out.size
    go_upto_region 9 with fail
    generalize w4.alloc (.cells Z 54) = w5 at hm5 hb5 hd5 ⊢
    generalize w4.heap.size = B at hm5 hne hBB ⊢
    have HM5 := Lib.hid hm5
    have HB5 := Lib.hid hb5
    have HD5 := Lib.hid hd5
    have HNE := Lib.hid hne
    have HBB := Lib.hid hBB
    have HP8 := Lib.hid hp8
    have HQ8 := Lib.hid hq8
    clear hm5 hb5 hd5 hne hBB HZ0 hzv
    go_wp2_with (first
      | (go_at_call 6; refine (awake_any HD.out HA.out _).mono ?_; rintro e w17 ⟨rfl, hb⟩; have HB17 := Lib.hid (HB16.out.trans (hb.mono HB16.out.size)); clear hb)
      | (go_at_call 13; (with_reducible refine (HA.out.revoke0 B p _ _ _ HM15.out HP8.out k9.out).mono ?_); rintro e w16 ⟨rfl, ho, hm⟩; have HB16 := Lib.hid (HB15.out.trans (ho.below HBB.out HB15.out.size)); clear hm ho)
      | (go_at_call 15; (with_reducible refine (HA.out.epoch B p _ _ _ HM14.out (by omega)).mono ?_); rw [k7.out]; rintro e w15 ⟨rfl, ho, hm⟩; have HM15 := Lib.hid hm; have HB15 := Lib.hid (HB14.out.trans (ho.below HBB.out HB14.out.size)); clear hm ho)
      | (go_at_call 17; (with_reducible refine (HA.out.knows B q 1 y _ _ _ HM13.out (by omega) (by omega) HYL.out).mono ?_); rw [k6.out]; rintro e w14 ⟨rfl, ho, hm⟩; have HM14 := Lib.hid hm; have HB14 := Lib.hid (HB13.out.trans (ho.below HBB.out HB13.out.size)); clear hm ho)
      | (go_at_call 17; (refine (HA.out.knows B p 0 0 _ _ _ HM12.out (by omega) (by omega) (by omega)).mono ?_); rw [k5.out]; rintro e w13 ⟨rfl, ho, hm⟩; have HM13 := Lib.hid hm; have HB13 := Lib.hid (HB12.out.trans (ho.below HBB.out HB12.out.size)); clear hm ho)
      | (go_at_call 17; (with_reducible refine (HA.out.knows B p 2 z _ _ _ HM11r.out (by omega) (by omega) HZL.out).mono ?_); rw [k4.out]; rintro e w12 ⟨rfl, ho, hm⟩; have HM12 := Lib.hid hm; have HB12 := Lib.hid (HB11r.out.trans (ho.below HBB.out HB11r.out.size)); clear hm ho)
      | (go_at_call 13; (with_reducible refine (HA.out.revoke B p _ _ _ HM11.out HP8.out k8.out).mono ?_); rw [D4.out]; rintro e w11r ⟨rfl, ho, hm⟩; have HM11r := Lib.hid hm; have HB11r := Lib.hid (HB11.out.trans (ho.below HBB.out HB11.out.size)); clear hm ho)
      | (go_at_call 17; (with_reducible refine (HA.out.knows B q 1 y _ _ _ HM10.out (by omega) (by omega) HYL.out).mono ?_); rw [k3.out]; rintro e w11 ⟨rfl, ho, hm⟩; have HM11 := Lib.hid hm; have HB11 := Lib.hid (HB10.out.trans (ho.below HBB.out HB10.out.size)); clear hm ho)
      | (go_at_call 17; (with_reducible refine (HA.out.knows B p 2 z _ _ _ HM9.out (by omega) (by omega) HZL.out).mono ?_); rw [k2.out]; rintro e w10 ⟨rfl, ho, hm⟩; have HM10 := Lib.hid hm; have HB10 := Lib.hid (HB9.out.trans (ho.below HBB.out HB9.out.size)); clear hm ho)
      | (go_at_call 17; (with_reducible refine (HA.out.knows B p 1 x _ _ _ HM8.out (by omega) (by omega) HXL.out).mono ?_); rw [k1.out]; rintro e w9 ⟨rfl, ho, hm⟩; have HM9 := Lib.hid hm; have HB9 := Lib.hid (HB8.out.trans (ho.below HBB.out HB8.out.size)); clear hm ho)
      | (go_at_call 10; (with_reducible refine (HA.out.issue B D p _ _ a [] _ HM7.out HD7.out HNE.out HP8.out HHA.out (by have := N3.out; omega)).mono ?_); rw [N3.out, HZD.out, D3.out.1, D3.out.2]; rintro e w8 ⟨rfl, ho, hm, hd⟩; have HM8 := Lib.hid hm; have HD8 := Lib.hid hd; have HB8 := Lib.hid (HB7.out.trans (ho.below HBB.out HDB.out HB7.out.size)); clear hm hd ho)
      | (go_at_call 10; (with_reducible refine (HA.out.issue B D q _ _ b [a] _ HM6.out HD6.out HNE.out HQ8.out HHB.out (by have := N2.out; omega)).mono ?_); rw [N2.out, HYD.out, D2.out.1, D2.out.2]; rintro e w7 ⟨rfl, ho, hm, hd⟩; have HM7 := Lib.hid hm; have HD7 := Lib.hid hd; have HB7 := Lib.hid (HB6.out.trans (ho.below HBB.out HDB.out HB6.out.size)); clear hm hd ho)
      | (go_at_call 10; (with_reducible refine (HA.out.issue B D p _ _ a [b, a] _ HM5.out HD5.out HNE.out HP8.out HHA.out (by have := N1.out; omega)).mono ?_); rw [N1.out, HXD.out, D1.out.1, D1.out.2]; rintro e w6 ⟨rfl, ho, hm, hd⟩; have HM6 := Lib.hid hm; have HD6 := Lib.hid hd; have HB6 := Lib.hid (HB5.out.trans (ho.below HBB.out HDB.out HB5.out.size)); clear hm hd ho))
    go_ret
    exact ⟨rfl, HB17.out⟩
end
end Go.Proofs.Ytcbicdmelokanaa.Mc
