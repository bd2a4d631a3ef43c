/- Values: the walk of the law ValueSame. (Written by gen/walks.py.) -/
import Derived.Test.YthgaipdhgckmdaaDoorVaWalks
namespace Go.Proofs.YthgaipdhgckmdaaDoor.Va
open Go.RowKit Cm
set_option linter.unusedVariables false
set_option linter.unusedSimpArgs false

set_option maxRecDepth 100000 in
set_option maxHeartbeats 1000000 in
theorem same_walk (a b : Va) (w : World) (ha : VaIn w a) (hb : VaIn w b) (hP : Pw w) :
    Calls Tryd.prog 5 #[.agg #[.int .i64 a.k, .int .i64 a.n, .string a.s, .slice a.tb a.ts.length a.tc, .slice a.io a.is.length a.ic], .agg #[.int .i64 b.k, .int .i64 b.n, .string b.s, .slice b.tb b.ts.length b.tc, .slice b.io b.is.length b.ic]] w fun e w' => e = .returned (.bool true) ∧ Below w.heap.size w w' := by
  obtain ⟨hCA, hCB, hW⟩ := two_new w [.int .i64 a.k, .int .i64 a.n, .string a.s, .slice a.tb a.ts.length a.tc, .slice a.io a.is.length a.ic] [.int .i64 b.k, .int .i64 b.n, .string b.s, .slice b.tb b.ts.length b.tc, .slice b.io b.is.length b.ic] 25
  have HCA := Lib.hid hCA
  have HCB := Lib.hid hCB
  have hB0 := Lib.hid hW
  have hS0 := Lib.hid (Cs.bx10 hCA hCB hW)
  have hA := Lib.hid ha
  have hU := Lib.hid hb
  have HP := Lib.hid hP
  clear ha hb hCA hCB hW hP
  cases hga : grV a 0 with
  | true =>
    have HGA := Lib.hid hga
    clear hga
    go_enter Tryd.func5, Tryd.ntmps5
    go_wp2_with (first
      | (go_at_call 7; with_reducible refine (great_ret HGA.out _ (va_below hA.out hB0.out (Nat.le_refl _))).mono ?_; rintro e w1 ⟨rfl, hb1⟩; have hS := bx10 hS0.out hb1; obtain ⟨⟨p0, p1, p2, p3, p4, q0, q1, q2, q3, q4⟩, hbq⟩ := id hS)
      | (go_at_call 8; refine (awake_any _ (HP.out.below hS.2)).mono ?_; rintro e w2 ⟨rfl, hb2⟩))
    go_ret
    exact ⟨rfl, (bx10 hS hb2).2⟩
  | false =>
    have HGA := Lib.hid hga
    have HNA := Lib.hid (gr_small a 0 hga).1
    clear hga
    cases hgb : grV b 0 with
    | true =>
      have HGB := Lib.hid hgb
      clear hgb
      go_enter Tryd.func5, Tryd.ntmps5
      go_wp2_with (first
        | (go_at_call 7; with_reducible refine (great_ret HGA.out _ (va_below hA.out hB0.out (Nat.le_refl _))).mono ?_; rintro e w1 ⟨rfl, hb1⟩; have hS := bx10 hS0.out hb1; obtain ⟨⟨p0, p1, p2, p3, p4, q0, q1, q2, q3, q4⟩, hbq⟩ := id hS)
        | (go_at_call 7; with_reducible refine (great_ret HGB.out _ (va_below hU.out hS.2 (Nat.le_refl _))).mono ?_; rintro e w2 ⟨rfl, hb2⟩; replace hS := bx10 hS hb2; obtain ⟨⟨r0, r1, r2, r3, r4, t0, t1, t2, t3, t4⟩, hbr⟩ := id hS)
        | (go_at_call 8; refine (awake_any _ (HP.out.below hS.2)).mono ?_; rintro e w3 ⟨rfl, hb3⟩))
      go_ret
      exact ⟨rfl, (bx10 hS hb3).2⟩
    | false =>
      have HGB := Lib.hid hgb
      have HNB := Lib.hid (gr_small b 0 hgb).1
      clear hgb
      obtain ⟨c, hc⟩ : ∃ c, cmpV a.k a.n a.s b.k b.n b.s = c := ⟨_, rfl⟩
      obtain ⟨d, hd⟩ : ∃ d, cmpV b.k b.n b.s a.k a.n a.s = d := ⟨_, rfl⟩
      have hdc : -d = c := by rw [← hc, ← hd, cmp_neg a.k]
      have hwc : IntKind.i64.wrap c = c := IntWalk.i64_in _ (by have := cmp_room a.k a.n a.s b.k b.n b.s; rw [hc] at this; omega)
      have HC := Lib.hid (And.intro hc hd)
      obtain ⟨s, hs⟩ : ∃ s, saV a b = s := ⟨_, rfl⟩
      have HSA := Lib.hid hs
      clear hc hd hs
      go_enter Tryd.func5, Tryd.ntmps5
      go_wp2_with (first
        | (go_at_call 7; with_reducible refine (great_ret HGA.out _ (va_below hA.out hB0.out (Nat.le_refl _))).mono ?_; rintro e w1 ⟨rfl, hb1⟩; have hS := bx10 hS0.out hb1; obtain ⟨⟨p0, p1, p2, p3, p4, q0, q1, q2, q3, q4⟩, hbq⟩ := id hS)
        | (go_at_call 7; with_reducible refine (great_ret HGB.out _ (va_below hU.out hS.2 (Nat.le_refl _))).mono ?_; rintro e w2 ⟨rfl, hb2⟩; replace hS := bx10 hS hb2; obtain ⟨⟨r0, r1, r2, r3, r4, t0, t1, t2, t3, t4⟩, hbr⟩ := id hS)
        | fail)
      replace hS := bx10_drew hS
      clear p0 p1 p2 p3 p4 q0 q1 q2 q3 q4 r0 r1 r2 r3 r4 t0 t1 t2 t3 t4 hbq hbr
      go_region_held3 (fun w' => (w'.cell? ⟨w.heap.size, 0, none⟩ = some (.int .i64 a.k) ∧ w'.cell? ⟨w.heap.size, 1, none⟩ = some (.int .i64 a.n) ∧ w'.cell? ⟨w.heap.size, 2, none⟩ = some (.string a.s) ∧ w'.cell? ⟨w.heap.size, 3, none⟩ = some (.slice a.tb a.ts.length a.tc) ∧ w'.cell? ⟨w.heap.size, 4, none⟩ = some (.slice a.io a.is.length a.ic) ∧ w'.cell? ⟨w.heap.size + 1, 0, none⟩ = some (.int .i64 b.k) ∧ w'.cell? ⟨w.heap.size + 1, 1, none⟩ = some (.int .i64 b.n) ∧ w'.cell? ⟨w.heap.size + 1, 2, none⟩ = some (.string b.s) ∧ w'.cell? ⟨w.heap.size + 1, 3, none⟩ = some (.slice b.tb b.ts.length b.tc) ∧ w'.cell? ⟨w.heap.size + 1, 4, none⟩ = some (.slice b.io b.is.length b.ic)) ∧ Below w.heap.size w w') (exact hS) (first
        | (go_at_call 17; with_reducible refine (same_prog HSA.out _ (va_below hA.out hS.2 (Nat.le_refl _)) (va_below hU.out hS.2 (Nat.le_refl _)) HNA.out).mono ?_; rintro e w' ⟨rfl, hb⟩; replace hS := bx10 hS hb; clear hb)
        | (go_at_call 18; with_reducible refine (same_ref HSA.out _ (va_below hA.out hS.2 (Nat.le_refl _)) (va_below hU.out hS.2 (Nat.le_refl _))).mono ?_; rintro e w' ⟨rfl, hb⟩; replace hS := bx10 hS hb; clear hb)
        | (go_at_call 17; with_reducible refine (same_prog (saV_refl a) _ (va_below hA.out hS.2 (Nat.le_refl _)) (va_below hA.out hS.2 (Nat.le_refl _)) HNA.out).mono ?_; rintro e w' ⟨rfl, hb⟩; replace hS := bx10 hS hb; clear hb)
        | (go_at_call 19; with_reducible refine (cmp_prog HC.out.1 _ (va_below hA.out hS.2 (Nat.le_refl _)) (va_below hU.out hS.2 (Nat.le_refl _)) HNA.out HNB.out).mono ?_; rintro e w' ⟨rfl, hb⟩; replace hS := bx10 hS hb; clear hb)
        | (go_at_call 20; with_reducible refine (cmp_ret HC.out.1 _).mono ?_; rintro e w' ⟨rfl, hb⟩; replace hS := bx10 hS hb; clear hb)
        | (go_at_call 19; with_reducible refine (cmp_prog HC.out.2 _ (va_below hU.out hS.2 (Nat.le_refl _)) (va_below hA.out hS.2 (Nat.le_refl _)) HNB.out HNA.out).mono ?_; rintro e w' ⟨rfl, hb⟩; replace hS := bx10 hS hb; clear hb)
        | (go_at_call 8; with_reducible refine (awake_any _ (HP.out.below hS.2)).mono ?_; rintro e w' ⟨rfl, hb⟩; replace hS := bx10 hS hb; clear hb))
      go_wp2
      go_ret
      exact ⟨rfl, hS.2⟩

end Go.Proofs.YthgaipdhgckmdaaDoor.Va
