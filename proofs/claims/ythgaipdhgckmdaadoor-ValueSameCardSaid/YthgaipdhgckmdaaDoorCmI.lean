/- The contract of the reference's Ints (two slices of numbers held against each other). For every package. -/
import Derived.Test.YthgaipdhgckmdaaDoorCmW
namespace Go.Proofs.YthgaipdhgckmdaaDoor.Cm
open Go.RowKit
set_option linter.unusedVariables false
set_option linter.unusedSimpArgs false

theorem In.at {o : Option Addr} {ts : List Int} {w : World} {i : Nat} (h : In o ts w) (hi : i < ts.length) : ∃ a t, o = some a ∧ ts[i]? = some t ∧ (a.add i).block < w.heap.size ∧ w.cell? (a.add i) = some (.int .i64 t) ∧ -9223372036854775808 ≤ t ∧ t ≤ 9223372036854775807 := by
  obtain ⟨t, ht⟩ : ∃ t, ts[i]? = some t := ⟨_, List.getElem?_eq_getElem hi⟩
  obtain ⟨⟨a, h1, h2, h3⟩, h4⟩ := h i t ht
  exact ⟨a, t, h1, ht, by rw [block_add]; exact h2, h3, h4.1, h4.2⟩
theorem list_eq {ts us : List Int} (hl : ts.length = us.length) (h : ∀ q, q < ts.length → ts[q]? = us[q]?) : ts = us := by
  apply List.ext_getElem?
  intro i
  by_cases hi : i < ts.length
  · exact h i hi
  · rw [List.getElem?_eq_none (by omega), List.getElem?_eq_none (by omega)]

set_option maxRecDepth 100000 in
set_option maxHeartbeats 1000000 in
theorem rints_any (o o' : Option Addr) (ts us : List Int) (cap cap' : Nat) (w : World) (h : In o ts w) (h' : In o' us w) (hlen : ts.length ≤ 9223372036854775807) :
    Calls Tryd.prog 33 #[.slice o ts.length cap, .slice o' us.length cap'] w fun e w' => e = .returned (.bool (decide (ts = us))) ∧ Below w.heap.size w w' := by
  have hB0 := Lib.hid (Below.refl w.heap.size w)
  by_cases hl : ts.length = us.length
  · have hn : ((ts.length : Int) != (us.length : Int)) = false := by simp; omega
    rw [hl] at hlen
    have H := Lib.hid h
    have H' := Lib.hid h'
    clear h h'
    go_enter Tryd.func33, Tryd.ntmps33
    go_wp2
    go_loopw [5] (fun i wr => ∃ j, j ≤ us.length ∧ i = .int .i64 (j : Nat) ∧ Hid (∀ q, q < j → ts[q]? = us[q]?) ∧ Hid (Below w.heap.size w wr)) (fun i _ => us.length - (intOf i).toNat)
    case atStart => exact ⟨0, by omega, rfl, Lib.hid (fun q hq => by omega), hB0⟩
    case round =>
      obtain ⟨j, hj, rfl, HP, HB⟩ := hrel
      clear hB0
      by_cases hjl : j < us.length
      · have hji : (j : Int) < (ts.length : Int) := by omega
        have hji' : (j : Int) < (us.length : Int) := by omega
        obtain ⟨a, t, rfl, ht, b0, s0, t1, t2⟩ := H.out.at (i := j) (by omega)
        obtain ⟨a', u, rfl, hu, b1, s1, u1, u2⟩ := H'.out.at (i := j) (by omega)
        have c0 : wr.cell? (a.add j) = some (.int .i64 t) := by rw [HB.out.cell (p := a.add j) b0]; exact s0
        have c1 : wr.cell? (a'.add j) = some (.int .i64 u) := by rw [HB.out.cell (p := a'.add j) b1]; exact s1
        have HT := Lib.hid (And.intro ht hu)
        clear s0 s1 ht hu
        by_cases e : t = u
        · subst e
          go_wp2
          go_quiet (fail)
          go_wp2
          exact ⟨⟨j + 1, by omega, by go_num, Lib.hid (fun q hq => by
            by_cases e : q = j
            · subst e; rw [HT.out.1, HT.out.2]
            · exact HP.out q (by omega)), below_drewN HB.out nq⟩, by simp [intOf]; omega⟩
        · have hne : (t != u) = true := by simpa using e
          go_wp2
          go_quiet (fail)
          go_wp2
          go_ret
          refine ⟨?_, below_drewN HB.out nq⟩
          rw [decide_eq_false (fun h => by
            have h1 := HT.out.1
            rw [h, HT.out.2] at h1
            exact e (Option.some.inj h1).symm)]
          rfl
      · have hji : ¬ (j : Int) < (ts.length : Int) := by omega
        go_wp2
        go_ret
        refine ⟨?_, HB.out⟩
        rw [decide_eq_true (list_eq hl (fun q hq => HP.out q (by omega)))]
        rfl
  · have hn : ((ts.length : Int) != (us.length : Int)) = true := by simp; omega
    go_enter Tryd.func33, Tryd.ntmps33
    go_wp2
    go_ret
    refine ⟨?_, hB0.out⟩
    rw [decide_eq_false (fun h => hl (by rw [h]))]
    rfl
end Go.Proofs.YthgaipdhgckmdaaDoor.Cm
