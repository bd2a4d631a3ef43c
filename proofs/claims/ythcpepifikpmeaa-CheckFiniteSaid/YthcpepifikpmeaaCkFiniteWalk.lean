/- The walk of CheckFinite. -/
import Derived.Test.YthcpepifikpmeaaCkAwake
import Derived.Test.YthcpepifikpmeaaCkRFin
import Derived.RegionTactic
namespace Go.Proofs.Ythcpepifikpmeaa.Ck
open Go.RowKit Cm _root_.Go.Proofs.Ythcpepifikpmeaa.Nm
set_option linter.unusedVariables false
set_option linter.unusedSimpArgs false

set_option maxRecDepth 100000 in
set_option maxHeartbeats 4000000 in
theorem finite_walk (o : Option Addr) (len cap : Nat) (D : Dl) (F : Nat → Fy) (M : Nat → Ml) (w : World) (h : Ax o len D F M w) :
    Calls Try.prog 3 #[.slice o len cap] w fun e w' => e = .returned (.bool true) ∧ Below w.heap.size w w' := by
  have hlen := h.1.2
  have hlen2 : len ≤ 9223372036854775807 := by omega
  have H := Lib.hid h
  have hg := great_any o len cap D F M w h
  clear h
  cases hb : grB D F len with
  | true =>
    rw [hb] at hg
    have HG := Lib.hid hg
    clear hg hb
    go_enter Try.func3, Try.ntmps3
    go_wp2_with (first
      | (go_at_call 6; refine (awake_any _).mono ?_; rintro e w2 ⟨rfl, hb2⟩)
      | (go_at_call 5; refine HG.out.mono ?_; rintro e w1 ⟨rfl, hb1⟩))
    go_ret
    exact ⟨rfl, hb1.trans (hb2.mono hb1.size)⟩
  | false =>
    have HS := Lib.hid (gr_small hb)
    rw [hb] at hg
    have HG := Lib.hid hg
    clear hg hb
    go_enter Try.func3, Try.ntmps3
    go_wp2_with (first
      | (go_at_call 8; refine (rfinite_any o len cap D F M _ (H.out.below (hb1.trans (hb2.mono hb1.size)) (Nat.le_refl _))).mono ?_; rintro e w3 ⟨g3, rfl, hl3, hr3, hb3⟩)
      | (go_at_call 7; refine (finite_any o len cap D F M _ (H.out.below hb1 (Nat.le_refl _)) HS.out).mono ?_; rintro e w2 ⟨g2, rfl, hl2, hr2, hb2⟩)
      | (go_at_call 5; refine HG.out.mono ?_; rintro e w1 ⟨rfl, hb1⟩))
    have HA := Lib.hid (ri_below (f := fun i => .bool (rdB (syD D F len) len i)) hr2 hb3 hr2.lt)
    have HR := Lib.hid hr3
    have HB := Lib.hid ((hb1.trans (hb2.mono hb1.size)).trans (hb3.mono (hb1.trans (hb2.mono hb1.size)).size))
    clear hl2 hr2 hb2 hl3 hr3 hb3 hb1
    go_loopw [5] (fun i wr => ∃ j, j ≤ len ∧ i = .int .i64 (j : Nat) ∧ Hid (Below w3.heap.size w3 wr)) (fun i _ => len - (intOf i).toNat)
    case atStart => exact ⟨0, by omega, rfl, Lib.hid (Below.refl _ _)⟩
    case round =>
      obtain ⟨j, hj, rfl, HW⟩ := hrel
      by_cases hjl : j < len
      · have hji : (j : Int) < (len : Int) := by omega
        have hsz := HW.out.size
        have c1 := (ri_below (f := fun i => .bool (rdB (syD D F len) len i)) HA.out HW.out HA.out.lt).drew.cell hjl
        have c2 := (ri_below (f := fun i => .bool (rdB (syD D F len) len i)) HR.out HW.out HR.out.lt).drew.cell hjl
        cases hx : rdB (syD D F len) len j
        all_goals
          rw [hx] at c1 c2
          clear hx
          go_wp2
          go_region
          go_wp2
          go_roundw
          case rel => exact ⟨j + 1, by omega, by go_num, Lib.hid HW.out.drew⟩
          case measure => simp [intOf]; omega
      · have hji : ¬ (j : Int) < (len : Int) := by omega
        obtain rfl : j = len := by omega
        go_wp2_with (go_at_call 6; refine (awake_any _).mono ?_; rintro e w4 ⟨rfl, hb4⟩)
        go_ret
        exact ⟨rfl, (HB.out.trans (HW.out.mono HB.out.size)).trans (hb4.mono (HB.out.trans (HW.out.mono HB.out.size)).size)⟩
end Go.Proofs.Ythcpepifikpmeaa.Ck
