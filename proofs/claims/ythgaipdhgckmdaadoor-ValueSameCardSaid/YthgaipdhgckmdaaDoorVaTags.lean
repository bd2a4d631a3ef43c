/- Values: the contract of the reference's tags. -/
import Derived.Test.YthgaipdhgckmdaaDoorVaCmp
namespace Go.Proofs.YthgaipdhgckmdaaDoor.Va
open Go.RowKit Cm
set_option linter.unusedVariables false
set_option linter.unusedSimpArgs false

theorem tgs_false {l : List Int} {i : Nat} (hi : i < l.length) (h : tgBad l i = true) : tgsB 0 l = false := by
  cases hb : tgsB 0 l with
  | false => rfl
  | true => rw [(tg_bad l).1 hb i hi] at h; cases h
theorem getD_of {l : List Int} {i : Nat} {t : Int} (h : l[i]? = some t) : l.getD i 0 = t := by rw [List.getD, h]; rfl

set_option maxRecDepth 100000 in
set_option maxHeartbeats 1000000 in
theorem tags_any (o : Option Addr) (ts : List Int) (cap : Nat) (w : World) (h : In o ts w) (hlen : ts.length ≤ 140737488355327) :
    Calls Tryd.prog 45 #[.slice o ts.length cap] w fun e w' => e = .returned (.bool (tgsB 0 ts)) ∧ Below w.heap.size w w' := by
  have hB0 := Lib.hid (Below.refl w.heap.size w)
  have H := Lib.hid h
  clear h
  go_enter Tryd.func45, Tryd.ntmps45
  go_wp2
  go_loopw [3] (fun i wr => ∃ j, j ≤ ts.length ∧ i = .int .i64 (j : Nat) ∧ Hid (∀ q, q < j → tgBad ts q = false) ∧ Hid (Below w.heap.size w wr)) (fun i _ => ts.length - (intOf i).toNat)
  case atStart => exact ⟨0, by omega, rfl, Lib.hid (fun q hq => by omega), hB0⟩
  case round =>
    obtain ⟨j, hj, rfl, HP, HB⟩ := hrel
    clear hB0
    by_cases hjl : j < ts.length
    · have hji : (j : Int) < (ts.length : Int) := by omega
      obtain ⟨a, t, rfl, ht, b0, s0, t1, t2⟩ := H.out.at (i := j) hjl
      have c0 : wr.cell? (a.add j) = some (.int .i64 t) := by rw [HB.out.cell (p := a.add j) b0]; exact s0
      have hg := Lib.hid (getD_of ht)
      clear s0 ht
      by_cases g1 : t < 1
      · have f1 : decide (t < 1) = true := decide_eq_true g1
        have G1 := Lib.hid g1
        clear g1
        go_upto_region 4 with fail
        go_big_quiet (fail)
        go_wp2
        go_ret
        refine ⟨?_, below_drewN HB.out nq⟩
        rw [tgs_false hjl (by unfold tgBad; rw [hg.out, decide_eq_true G1.out]; rfl)]; rfl
      · by_cases g2 : 255 < t
        · have f1 : decide (t < 1) = false := decide_eq_false g1
          have f2 : decide (255 < t) = true := decide_eq_true g2
          have G1 := Lib.hid g1
          have G2 := Lib.hid g2
          clear g1 g2
          go_upto_region 4 with fail
          go_big_quiet (fail)
          go_wp2
          go_ret
          refine ⟨?_, below_drewN HB.out nq⟩
          rw [tgs_false hjl (by unfold tgBad; rw [hg.out, decide_eq_true G2.out]; simp)]; rfl
        · by_cases g3 : j = 0
          · have G3 := Lib.hid g3
            have f3 : decide (0 < j) = false := decide_eq_false (by omega)
            clear g3
            have f1 : decide (t < 1) = false := decide_eq_false g1
            have f2 : decide (255 < t) = false := decide_eq_false g2
            have G1 := Lib.hid g1
            have G2 := Lib.hid g2
            clear g1 g2
            go_upto_region 4 with fail
            go_big_quiet (fail)
            go_wp2
            exact ⟨⟨j + 1, by omega, by go_num, Lib.hid (fun q hq => by
              obtain rfl : j = 0 := G3.out
              obtain rfl : q = 0 := by omega
              unfold tgBad; rw [hg.out, decide_eq_false G1.out, decide_eq_false G2.out]; rfl), below_drewN HB.out nq⟩, by simp [intOf]; omega⟩
          · obtain ⟨m, hm⟩ : ∃ m, j = m + 1 := ⟨j - 1, by omega⟩
            obtain ⟨a', p, e', hp, b1, s1, p1, p2⟩ := H.out.at (i := m) (by omega)
            obtain rfl := Option.some.inj e'
            have c1 : wr.cell? (a.add m) = some (.int .i64 p) := by rw [HB.out.cell (p := a.add m) b1]; exact s1
            have hg2 := Lib.hid (getD_of hp)
            have hpos : (0 : Int) < (j : Int) := by omega
            have hsub : (j : Int) - 1 = (m : Int) := by omega
            have HM := Lib.hid hm
            clear hm g3
            clear s1 hp
            by_cases g4 : t ≤ p
            · have f1 : decide (t < 1) = false := decide_eq_false g1
              have f2 : decide (255 < t) = false := decide_eq_false g2
              have f3 : decide (0 < j) = true := decide_eq_true (by omega)
              have f4 : decide (t ≤ p) = true := decide_eq_true g4
              have G1 := Lib.hid g1
              have G2 := Lib.hid g2
              have G4 := Lib.hid g4
              clear g1 g2 g4
              go_upto_region 4 with fail
              go_big_quiet (fail)
              go_wp2
              go_ret
              refine ⟨?_, below_drewN HB.out nq⟩
              rw [tgs_false hjl (by unfold tgBad; rw [hg.out, show j - 1 = m by have := HM.out; omega, hg2.out, decide_eq_true G4.out, f3]; simp)]; rfl
            · have f1 : decide (t < 1) = false := decide_eq_false g1
              have f2 : decide (255 < t) = false := decide_eq_false g2
              have f3 : decide (0 < j) = true := decide_eq_true (by omega)
              have f4 : decide (t ≤ p) = false := decide_eq_false g4
              have G1 := Lib.hid g1
              have G2 := Lib.hid g2
              have G4 := Lib.hid g4
              clear g1 g2 g4
              go_upto_region 4 with fail
              go_big_quiet (fail)
              go_wp2
              exact ⟨⟨j + 1, by omega, by go_num, Lib.hid (fun q hq => by
                by_cases e : q = j
                · rw [e]
                  unfold tgBad; rw [hg.out, show j - 1 = m by have := HM.out; omega, hg2.out, decide_eq_false G1.out, decide_eq_false G2.out, decide_eq_false G4.out]; simp
                · exact HP.out q (by omega)), below_drewN HB.out nq⟩, by simp [intOf]; omega⟩
    · have hji : ¬ (j : Int) < (ts.length : Int) := by omega
      go_wp2
      go_ret
      refine ⟨?_, HB.out⟩
      rw [(tg_bad ts).2 (fun i hi => HP.out i (by omega))]; rfl
end Go.Proofs.YthgaipdhgckmdaaDoor.Va
