/- Values: the contract of the reference's Great. -/
import Derived.Test.YthgaipdhgckmdaaDoorVaDeep
namespace Go.Proofs.YthgaipdhgckmdaaDoor.Va
open Go.RowKit Cm
set_option linter.unusedVariables false
set_option linter.unusedSimpArgs false

set_option maxRecDepth 100000 in
set_option maxHeartbeats 2000000 in
theorem great_any : ∀ (N : Nat) (v : Va) (d : Nat) (w : World), dpV v < N → VaIn w v → d ≤ 1000000 →
    Calls Tryd.prog 7 #[.agg #[.int .i64 v.k, .int .i64 v.n, .string v.s, .slice v.tb v.ts.length v.tc, .slice v.io v.is.length v.ic], .int .i64 d] w fun e w' => e = .returned (.bool (grV v d)) ∧ Below w.heap.size w w' := by
  intro N
  induction N with
  | zero => intro v d w h; omega
  | succ N ih =>
    intro v d w hN hv hd
    obtain ⟨k, n, s, tb, tc, ts, io, ic, is⟩ := v
    have hlen := (va_room hv).2.2.2.2
    show Calls Tryd.prog 7 #[.agg #[.int .i64 k, .int .i64 n, .string s, .slice tb ts.length tc, .slice io is.length ic], .int .i64 d] w fun e w' => e = .returned (.bool (grV (.mk k n s tb tc ts io ic is) d)) ∧ Below w.heap.size w w'
    have hGR := Lib.hid (grV_eq k n s tb tc ts io ic is d)
    have hB0 := Lib.hid ((Below.refl w.heap.size w).alloc (Nat.le_refl _) (.cells #[.int .i64 k, .int .i64 n, .string s, .slice tb ts.length tc, .slice io is.length ic] 25))
    have hC0 := Lib.hid (Cs.new w [.int .i64 k, .int .i64 n, .string s, .slice tb ts.length tc, .slice io is.length ic] 25)
    have hV := Lib.hid hv
    have hIH := Lib.hid ih
    have hND := Lib.hid hN
    clear hv ih hN
    by_cases g1 : 40 < d
    · have g1' : (40 : Int) < (d : Int) := by omega
      go_enter Tryd.func7, Tryd.ntmps7
      go_wp2
      go_ret
      refine ⟨?_, hB0.out⟩
      rw [hGR.out, decide_eq_true g1]; rfl
    · have g1' : ¬ (40 : Int) < (d : Int) := by omega
      by_cases g2 : 60 < is.length
      · have g2' : (60 : Int) < (is.length : Int) := by omega
        go_enter Tryd.func7, Tryd.ntmps7
        go_wp2
        go_ret
        refine ⟨?_, hB0.out⟩
        rw [hGR.out, decide_eq_true g2]; simp
      · have g2' : ¬ (60 : Int) < (is.length : Int) := by omega
        by_cases g3 : 300 < ts.length
        · have g3' : (300 : Int) < (ts.length : Int) := by omega
          go_enter Tryd.func7, Tryd.ntmps7
          go_wp2
          go_ret
          refine ⟨?_, hB0.out⟩
          rw [hGR.out, decide_eq_true g3]; simp
        · have g3' : ¬ (300 : Int) < (ts.length : Int) := by omega
          by_cases g4 : 2000 < s.size
          · have g4' : (2000 : Int) < (s.size : Int) := by omega
            go_enter Tryd.func7, Tryd.ntmps7
            go_wp2
            go_ret
            refine ⟨?_, hB0.out⟩
            rw [hGR.out, decide_eq_true g4]; simp
          · have g4' : ¬ (2000 : Int) < (s.size : Int) := by omega
            go_enter Tryd.func7, Tryd.ntmps7
            go_wp2
            go_loopw [5, 6] (fun m i wr => ∃ j, j ≤ is.length ∧ i = .int .i64 (j : Nat) ∧ m = .int .i64 ((min (szsV (is.take j)) 100000 : Nat) : Int) ∧ Hid (∀ (q : Nat) (v : Va), q < j → is[q]? = some v → grV v (d + 1 + is.length / 4) = false) ∧ Hid (Cs w.heap.size [.int .i64 k, .int .i64 n, .string s, .slice tb ts.length tc, .slice io is.length ic] wr) ∧ Hid (Below w.heap.size w wr)) (fun m i _ => is.length - (intOf i).toNat)
            case atStart => exact ⟨0, by omega, rfl, by simp [szsV], Lib.hid (fun q v hq => by omega), hC0, hB0⟩
            case round =>
              obtain ⟨j, hj, rfl, rfl, HP, HC, HB⟩ := hrel
              clear hC0 hB0
              have hsz := HB.out.size
              have d4 := HC.out.cell (i := 4) rfl
              by_cases hjl : j < is.length
              · have hji : (j : Int) < (is.length : Int) := by omega
                obtain ⟨v, hvi⟩ : ∃ v, is[j]? = some v := ⟨_, List.getElem?_eq_getElem hjl⟩
                obtain ⟨a, Ab, Ao, As, rfl, hA, hAb, c0, c1, c2, c3, c4, hin⟩ := va_place (va_below hV.out HB.out (Nat.le_refl _)) hvi
                have hHt := Lib.hid (And.intro hin hvi)
                have e0 : (is.length : Int).tdiv 4 = (is.length : Int) / 4 := Int.tdiv_eq_ediv_of_nonneg (by omega)
                have e2 : IntKind.i64.wrap ((is.length : Int) / 4) = (is.length : Int) / 4 := IntWalk.i64_in _ (by omega)
                have e3 : IntKind.i64.wrap ((d : Int) + 1 + (is.length : Int) / 4) = ((d + 1 + is.length / 4 : Nat) : Int) := by rw [IntWalk.i64_in _ (by omega)]; omega
                have HC5 := Lib.hid (And.intro c0 (And.intro c1 (And.intro c2 (And.intro c3 c4))))
                have hnx := Lib.hid (szs_take is j v hvi)
                cases hb : grV v (d + 1 + is.length / 4) with
                | true =>
                  go_wp2
                  go_still_tail 12, (by kernel_rfl)
                  change wpList _ _ _ _ _ wr.drew
                  go_wp2_with (go_at_call 7; refine (hIH.out v (d + 1 + is.length / 4) _ (by have := dp_childV (k := k) (n := n) (s := s) (tb := tb) (tc := tc) (ts := ts) (io := some a) (ic := ic) hHt.out.2; have := hND.out; omega) (va_below hHt.out.1 (Below.refl _ _).drew (Nat.le_refl _)) (by omega)).mono ?_; rw [hb]; rintro e w2 ⟨rfl, hb2⟩)
                  replace hb2 : Below wr.heap.size wr w2 := (Below.refl wr.heap.size wr).drew.trans hb2
                  go_ret
                  refine ⟨?_, HB.out.trans (hb2.mono hsz)⟩
                  rw [hGR.out, grs_true hHt.out.2 hb]; simp
                | false =>
                  have hsm := Lib.hid (gr_small v _ hb)
                  have hzz := hsm.out.1.size
                  have hzm : min (szsV (is.take j)) 100000 ≤ 100000 := Nat.min_le_right _ _
                  go_wp2
                  go_still_tail 12, (by kernel_rfl)
                  change wpList _ _ _ _ _ wr.drew
                  go_wp2_with (first
                    | (go_at_call 7; refine (hIH.out v (d + 1 + is.length / 4) _ (by have := dp_childV (k := k) (n := n) (s := s) (tb := tb) (tc := tc) (ts := ts) (io := some a) (ic := ic) hHt.out.2; have := hND.out; omega) (va_below hHt.out.1 (Below.refl _ _).drew (Nat.le_refl _)) (by omega)).mono ?_; rw [hb]; rintro e w2 ⟨rfl, hb2⟩; replace hb2 : Below wr.heap.size wr w2 := (Below.refl wr.heap.size wr).drew.trans hb2; have k4 := (HC.out.below hb2 (Nat.lt_of_lt_of_le HC.out.lt (Nat.le_refl _))).cell (i := 4) rfl; have q0 := (hb2.cell (p := ⟨Ab, Ao, As⟩) hAb).trans HC5.out.1; have q1 := (hb2.cell (p := ⟨Ab, Ao + 1, none⟩) hAb).trans HC5.out.2.1; have q2 := (hb2.cell (p := ⟨Ab, Ao + 2, none⟩) hAb).trans HC5.out.2.2.1; have q3 := (hb2.cell (p := ⟨Ab, Ao + 3, none⟩) hAb).trans HC5.out.2.2.2.1; have q4 := (hb2.cell (p := ⟨Ab, Ao + 4, none⟩) hAb).trans HC5.out.2.2.2.2)
                    | (go_at_call 14; refine (rsize_any _ v _ (Nat.lt_succ_self _) (va_below hHt.out.1 hb2 (Nat.le_refl _)) (by have := hsm.out.1.size; omega)).mono ?_; rintro e w3 ⟨rfl, hb3⟩))
                  have h23 : Below wr.heap.size wr w3 := hb2.trans (hb3.mono hb2.size)
                  go_roundw
                  case rel => exact ⟨j + 1, by omega, by go_num, by rw [hnx.out]; congr 1; omega, Lib.hid (fun q v' hq hv' => by
                    by_cases e : q = j
                    · subst e; rw [hHt.out.2] at hv'; obtain rfl := Option.some.inj hv'; exact hb
                    · exact HP.out q v' (by omega) hv'), HC.out.below h23 HC.out.lt, HB.out.trans (h23.mono hsz)⟩
                  case measure => simp [intOf]; omega
              · have hji : ¬ (j : Int) < (is.length : Int) := by omega
                obtain rfl : j = is.length := by omega
                have hf : grsV is (d + 1 + is.length / 4) = false := (grs_iff is _).2 (fun q v hv => HP.out q v (List.getElem?_eq_some_iff.1 hv).1 hv)
                have ht : decide ((20000 : Int) < ((min (szsV is) 100000 : Nat) : Int)) = decide (20000 < szsV is) := decide_eq_decide.2 (by omega)
                have HT := Lib.hid (And.intro hf ht)
                clear hf ht
                go_wp2
                go_ret
                refine ⟨?_, HB.out⟩
                rw [hGR.out, HT.out.1, decide_eq_false g1, decide_eq_false g2, decide_eq_false g3, decide_eq_false g4]
                show Ending.returned (Value.bool (decide ((20000 : Int) < ((min (szsV is) 100000 : Nat) : Int)))) = _
                rw [HT.out.2]; rfl
end Go.Proofs.YthgaipdhgckmdaaDoor.Va
