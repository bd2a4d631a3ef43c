/- Values: the contracts of what a text's, tags' and a union's values are told by. -/
import Derived.Test.YthgaipdhgckmdaaDoorVaPOver
import Derived.Test.YthgaipdhgckmdaaDoorUtWalk
import Derived.Test.YthgaipdhgckmdaaDoorVaBad
namespace Go.Proofs.YthgaipdhgckmdaaDoor.Va
open Go.RowKit Cm
set_option linter.unusedVariables false
set_option linter.unusedSimpArgs false

theorem walk_ret (s : ByteArray) (n : Nat) (b : Int) (h : Ut.wkS s = (n, b)) (w : World) (hs : s.size ≤ 1125899906842624) :
    Calls Tryd.prog 106 #[.string s] w fun e w' => e = .returned (.tuple #[.int .i64 n, .int .i64 b]) ∧ Below w.heap.size w w' :=
  (Ut.walk_any s w hs).mono fun e w' ⟨h1, h2⟩ => ⟨by rw [h1, h]; rfl, h2⟩
theorem pbad_any (s : ByteArray) (w : World) (hs : s.size ≤ 1125899906842624) :
    Calls Tryd.prog 105 #[.string s] w fun e w' => e = .returned (.int .i64 (Ut.wkS s).2) ∧ Below w.heap.size w w' := by
  obtain ⟨n, b, h⟩ : ∃ n b, Ut.wkS s = (n, b) := ⟨_, _, rfl⟩
  have H := Lib.hid h
  rw [h]
  clear h
  go_enter Tryd.func105, Tryd.ntmps105
  go_wp2_with (go_at_call 106; refine (walk_ret s n b H.out _ hs).mono ?_; rintro e w' ⟨rfl, hb⟩)
  go_ret
  exact ⟨rfl, hb⟩
theorem valid_any (s : ByteArray) (w : World) (hs : s.size ≤ 2000) :
    Calls Tryd.prog 104 #[.string s] w fun e w' => e = .returned (.bool (rightB s)) ∧ Below w.heap.size w w' := by
  obtain ⟨b, h⟩ : ∃ b, (Ut.wkS s).2 = b := ⟨_, rfl⟩
  have hbd := (Ut.wkS_bd s).2.1
  rw [h] at hbd
  have H := Lib.hid h
  have HB := Lib.hid (pbad_any s w (by omega))
  rw [h] at HB
  clear h
  go_enter Tryd.func104, Tryd.ntmps104
  go_wp2_with (go_at_call 105; refine HB.out.mono ?_; rintro e w' ⟨rfl, hb⟩)
  go_ret
  exact ⟨ret_bool (by unfold rightB; rw [H.out, Bool.eq_iff_iff]; simp; omega), hb⟩

/-- The tag ahead of a place. -/
def lsT (ts : List Int) (j : Nat) : Int := if j = 0 then 0 else ts.getD (j - 1) 0
theorem tg_no {l : List Int} {j : Nat} (hj : j < l.length) (h : tgBad l j = true) : tgsB 0 l = false := by
  cases hb : tgsB 0 l with
  | false => rfl
  | true => rw [(tg_bad l).1 hb j hj] at h; cases h
theorem tg_step {l : List Int} {j : Nat} {t : Int} (hj : j < l.length) (ht : l.getD j 0 = t) (hp : ∀ q, q < j → tgBad l q = false) : tgBad l j = (decide (t ≤ lsT l j) || decide (255 < t)) := by
  unfold tgBad lsT
  rw [ht]
  by_cases h0 : j = 0
  · subst h0
    rw [if_pos rfl]
    have e : decide (t < 1) = decide (t ≤ 0) := decide_eq_decide.2 (by omega)
    rw [e]; simp
  · rw [if_neg h0]
    have hq := hp (j - 1) (by omega)
    unfold tgBad at hq
    simp only [Bool.or_eq_false_iff, decide_eq_false_iff_not, Bool.and_eq_false_iff] at hq
    rw [Bool.eq_iff_iff]
    simp only [Bool.or_eq_true, Bool.and_eq_true, decide_eq_true_eq]
    omega
theorem ls_next {l : List Int} {j : Nat} {t : Int} (ht : l.getD j 0 = t) : lsT l (j + 1) = t := by
  unfold lsT
  rw [if_neg (by omega), Nat.add_sub_cancel, ht]
set_option maxRecDepth 100000 in
set_option maxHeartbeats 1000000 in
theorem tagged_any (tb : Option Addr) (tc : Nat) (ts : List Int) (io : Option Addr) (il ic : Nat) (w : World) (h : In tb ts w) (hlen : ts.length ≤ 140737488355327) :
    Calls Tryd.prog 114 #[.agg #[.slice tb ts.length tc, .slice io il ic]] w fun e w' => e = .returned (.bool (tgsB 0 ts && decide (ts.length = il))) ∧ Below w.heap.size w w' := by
  have hB0 := Lib.hid ((Below.refl w.heap.size w).alloc (Nat.le_refl _) (.cells #[.slice tb ts.length tc, .slice io il ic] 67))
  have hC0 := Lib.hid (Cs.new w [.slice tb ts.length tc, .slice io il ic] 67)
  have H := Lib.hid h
  clear h
  go_enter Tryd.func114, Tryd.ntmps114
  go_wp2
  go_loopw [3, 9] (fun m i wr => ∃ j, j ≤ ts.length ∧ i = .int .i64 (j : Nat) ∧ m = .int .i64 (lsT ts j) ∧ Hid (∀ q, q < j → tgBad ts q = false) ∧ Hid (Cs w.heap.size [.slice tb ts.length tc, .slice io il ic] wr) ∧ Hid (Below w.heap.size w wr)) (fun m i _ => ts.length - (intOf i).toNat)
  case atStart => exact ⟨0, by omega, rfl, rfl, Lib.hid (fun q hq => by omega), hC0, hB0⟩
  case round =>
    obtain ⟨j, hj, rfl, rfl, HP, HC, HB⟩ := hrel
    clear hB0 hC0
    have d0 := HC.out.cell (i := 0) rfl
    have d1 := HC.out.cell (i := 1) rfl
    by_cases hjl : j < ts.length
    · have hji : (j : Int) < (ts.length : Int) := by omega
      obtain ⟨a, t, rfl, ht, b0, s0, t1, t2⟩ := (H.out.below HB.out (Nat.le_refl _)).at (i := j) hjl
      have hgd : ts.getD j 0 = t := by rw [List.getD, ht]; rfl
      have HT := Lib.hid (tg_step hjl hgd HP.out)
      have HG := Lib.hid hgd
      clear ht hgd
      by_cases h1 : t ≤ lsT ts j
      · have hbad : Hid (tgBad ts j = true) := Lib.hid (by rw [HT.out, decide_eq_true h1]; rfl)
        go_wp2
        go_ret
        refine ⟨?_, HB.out⟩
        rw [tg_no hjl hbad.out]; rfl
      · have h1f : decide (t ≤ lsT ts j) = false := decide_eq_false h1
        by_cases h2 : 255 < t
        · have hbad : Hid (tgBad ts j = true) := Lib.hid (by rw [HT.out, decide_eq_true h2, Bool.or_true])
          go_wp2
          go_ret
          refine ⟨?_, HB.out⟩
          rw [tg_no hjl hbad.out]; rfl
        · have hgood : Hid (tgBad ts j = false) := Lib.hid (by rw [HT.out, h1f, decide_eq_false h2]; rfl)
          have hnx := Lib.hid (ls_next HG.out)
          go_wp2
          go_roundw
          case rel => exact ⟨j + 1, by omega, by go_num, by rw [hnx.out], Lib.hid (fun q hq => by
            by_cases e : q = j
            · rw [e]; exact hgood.out
            · exact HP.out q (by omega)), HC, HB⟩
          case measure => simp [intOf]; omega
    · have hji : ¬ (j : Int) < (ts.length : Int) := by omega
      have hgood : Hid (tgsB 0 ts = true) := Lib.hid ((tg_bad ts).2 (fun q hq => HP.out q (by omega)))
      have e3 : decide (ts.length = il) = ((ts.length : Int) == (il : Int)) := by
        by_cases h : ts.length = il
        · rw [decide_eq_true h]; subst h; simp
        · rw [decide_eq_false h]; symm; simp; omega
      have E3 := Lib.hid e3
      clear e3
      go_wp2
      go_ret
      refine ⟨?_, HB.out⟩
      rw [hgood.out, E3.out]; rfl
set_option maxRecDepth 100000 in
theorem union_any (tb : Option Addr) (tc : Nat) (ts : List Int) (io : Option Addr) (il ic : Nat) (w : World) (h : In tb ts w) (hlen : ts.length ≤ 140737488355327) :
    Calls Tryd.prog 115 #[.agg #[.slice tb ts.length tc, .slice io il ic]] w fun e w' => e = .returned (.bool (decide (ts.length = 1) && (tgsB 0 ts && decide (ts.length = il)))) ∧ Below w.heap.size w w' := by
  have hB0 := (Below.refl w.heap.size w).alloc (Nat.le_refl _) (.cells #[.slice tb ts.length tc, .slice io il ic] 70)
  have H := Lib.hid (h.below hB0 (Nat.le_refl _))
  have HB0 := Lib.hid hB0
  clear h hB0
  by_cases h1 : ts.length = 1
  · have hh : ((ts.length : Int) == 1) = true := by rw [h1]; rfl
    rw [decide_eq_true h1, Bool.true_and]
    clear h1
    go_enter Tryd.func115, Tryd.ntmps115
    go_wp2_with (go_at_call 114; refine (tagged_any tb tc ts io il ic _ H.out hlen).mono ?_; rintro e w2 ⟨rfl, hb2⟩)
    go_ret
    exact ⟨rfl, HB0.out.trans (hb2.mono HB0.out.size)⟩
  · have hh : ((ts.length : Int) == 1) = false := by simp; omega
    rw [decide_eq_false h1, Bool.false_and]
    clear h1
    go_enter Tryd.func115, Tryd.ntmps115
    go_wp2
    go_ret
    exact ⟨rfl, HB0.out⟩
end Go.Proofs.YthgaipdhgckmdaaDoor.Va
