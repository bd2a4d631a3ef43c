/- Values: the contracts of slices.Equal, slices.EqualFunc, same, Same. -/
import Derived.Test.YthgaipdhgckmdaaDoorVaPDeep
import Derived.Test.YthgaipdhgckmdaaDoorVaSame
namespace Go.Proofs.YthgaipdhgckmdaaDoor.Va
open Go.RowKit Cm
set_option linter.unusedVariables false
set_option linter.unusedSimpArgs false

set_option maxRecDepth 100000 in
set_option maxHeartbeats 1000000 in
theorem sints_any (o o' : Option Addr) (ts us : List Int) (cap cap' : Nat) (w : World) (h : In o ts w) (h' : In o' us w) (hlen : ts.length ≤ 9223372036854775807) :
    Calls Tryd.prog 56 #[.slice o ts.length cap, .slice o' us.length cap'] w fun e w' => e = .returned (.bool (decide (ts = us))) ∧ Below w.heap.size w w' := by
  have hB0 := Lib.hid (Below.refl w.heap.size w)
  by_cases hl : ts.length = us.length
  · have hn : ((ts.length : Int) != (us.length : Int)) = false := by simp; omega
    rw [hl] at hlen
    have H := Lib.hid h
    have H' := Lib.hid h'
    clear h h'
    go_enter Tryd.func56, Tryd.ntmps56
    go_wp2
    go_loopw [13] (fun i wr => ∃ j, j ≤ us.length ∧ i = .int .i64 (j : Nat) ∧ Hid (∀ q, q < j → ts[q]? = us[q]?) ∧ Hid (Below w.heap.size w wr)) (fun i _ => us.length - (intOf i).toNat)
    case atStart => exact ⟨0, by omega, rfl, Lib.hid (fun q hq => by omega), hB0⟩
    case round =>
      obtain ⟨j, hj, rfl, HP, HB⟩ := hrel
      clear hB0
      by_cases hjl : j < us.length
      · have hji : (j : Int) < (ts.length : Int) := by omega
        have hji' : (j : Int) < (us.length : Int) := by omega
        obtain ⟨a, t, rfl, ht, b0, s0, t1, t2⟩ := H.out.at (i := j) (by omega)
        obtain ⟨a', u, rfl, hu, b1, s1, u1, u2⟩ := H'.out.at (i := j) (by omega)
        have c0 : wr.cell? (a.add j) = some (.int .i64 t) := by rw [HB.out.cell (p := a.add j) b0]; exact s0
        have c1 : wr.cell? (a'.add j) = some (.int .i64 u) := by rw [HB.out.cell (p := a'.add j) b1]; exact s1
        have HT := Lib.hid (And.intro ht hu)
        clear s0 s1 ht hu
        by_cases e : t = u
        · subst e
          go_wp2
          go_quiet (fail)
          go_wp2
          exact ⟨⟨j + 1, by omega, by go_num, Lib.hid (fun q hq => by
            by_cases e : q = j
            · subst e; rw [HT.out.1, HT.out.2]
            · exact HP.out q (by omega)), below_drewN HB.out nq⟩, by simp [intOf]; omega⟩
        · have hne : (t != u) = true := by simpa using e
          go_wp2
          go_quiet (fail)
          go_wp2
          go_ret
          refine ⟨?_, below_drewN HB.out nq⟩
          rw [decide_eq_false (fun h => by
            have h1 := HT.out.1
            rw [h, HT.out.2] at h1
            exact e (Option.some.inj h1).symm)]
          rfl
      · have hji : ¬ (j : Int) < (ts.length : Int) := by omega
        go_wp2
        go_ret
        refine ⟨?_, HB.out⟩
        rw [decide_eq_true (list_eq hl (fun q hq => HP.out q (by omega)))]
        rfl
  · have hn : ((ts.length : Int) != (us.length : Int)) = true := by simp; omega
    go_enter Tryd.func56, Tryd.ntmps56
    go_wp2
    go_ret
    refine ⟨?_, hB0.out⟩
    rw [decide_eq_false (fun h => hl (by rw [h]))]
    rfl

set_option maxRecDepth 100000 in
set_option maxHeartbeats 2000000 in
theorem eqf_any (N : Nat) (ih : ∀ (a b : Va) (w : World), dpV a < N → VaIn w a → VaIn w b →
      Calls Tryd.prog 32 #[.agg #[.int .i64 a.k, .int .i64 a.n, .string a.s, .slice a.tb a.ts.length a.tc, .slice a.io a.is.length a.ic], .agg #[.int .i64 b.k, .int .i64 b.n, .string b.s, .slice b.tb b.ts.length b.tc, .slice b.io b.is.length b.ic]] w
        fun e w' => e = .returned (.bool (saV a b)) ∧ Below w.heap.size w w')
    (k n : Int) (s : ByteArray) (tb : Option Addr) (tc : Nat) (ts : List Int) (io : Option Addr) (ic : Nat) (is : List Va) (k' n' : Int) (s' : ByteArray) (tb' : Option Addr) (tc' : Nat) (us : List Int) (io' : Option Addr) (ic' : Nat) (js : List Va) (w : World)
    (hN : dpV (.mk k n s tb tc ts io ic is) < N + 1) (hv : VaIn w (.mk k n s tb tc ts io ic is)) (hu : VaIn w (.mk k' n' s' tb' tc' us io' ic' js)) :
    Calls Tryd.prog 57 #[.slice io is.length ic, .slice io' js.length ic', .func (.func 32) #[] #[]] w fun e w' => e = .returned (.bool (sasV is js)) ∧ Below w.heap.size w w' := by
  have hlen := (va_room hv).2.2.2.2
  have hlen' := (va_room hu).2.2.2.2
  have hV := Lib.hid hv
  have hU := Lib.hid hu
  have hIH := Lib.hid ih
  have hND := Lib.hid hN
  clear hv hu ih hN
  by_cases e5 : is.length = js.length
  · have hne : ((is.length : Int) != (js.length : Int)) = false := by simp; omega
    have E5 := Lib.hid e5
    clear e5
    go_enter Tryd.func57, Tryd.ntmps57
    go_wp2
    go_loopw [17] (fun i wr => ∃ j, j ≤ is.length ∧ i = .int .i64 (j : Nat) ∧ Hid (∀ (q : Nat) (v u : Va), q < j → is[q]? = some v → js[q]? = some u → saV v u = true) ∧ Hid (Below w.heap.size w wr)) (fun i _ => is.length - (intOf i).toNat)
    case atStart => exact ⟨0, by omega, rfl, Lib.hid (fun q v u hq => by omega), Lib.hid (Below.refl _ _)⟩
    case round =>
      obtain ⟨j, hj, rfl, HP, HE⟩ := hrel
      have hsz := HE.out.size
      by_cases hjl : j < is.length
      · have hji : (j : Int) < (is.length : Int) := by omega
        have hji' : (j : Int) < (js.length : Int) := by have := E5.out; omega
        have hjl' : j < js.length := by omega
        obtain ⟨v, hvi⟩ : ∃ v, is[j]? = some v := ⟨_, List.getElem?_eq_getElem hjl⟩
        obtain ⟨u, hui⟩ : ∃ u, js[j]? = some u := ⟨_, List.getElem?_eq_getElem hjl'⟩
        obtain ⟨a, Ab, Ao, As, rfl, hA, hAb, c0, c1, c2, c3, c4, hin⟩ := va_place (va_below hV.out HE.out (Nat.le_refl _)) hvi
        obtain ⟨b, Bb, Bo, Bs, rfl, hB, hBb, b0, b1, b2, b3, b4, hun⟩ := va_place (va_below hU.out HE.out (Nat.le_refl _)) hui
        have hHt := Lib.hid (And.intro (And.intro hin hun) (And.intro hvi hui))
        have hBx := (two_new wr [.int .i64 v.k, .int .i64 v.n, .string v.s, .slice v.tb v.ts.length v.tc, .slice v.io v.is.length v.ic] [.int .i64 u.k, .int .i64 u.n, .string u.s, .slice u.tb u.ts.length u.tc, .slice u.io u.is.length u.ic] 25).2.2
        have HBx := Lib.hid hBx
        have HVx := Lib.hid (va_below hin hBx (Nat.le_refl _))
        have HUx := Lib.hid (va_below hun hBx (Nat.le_refl _))
        clear hBx hin hun hvi hui
        cases hb : saV v u with
        | true =>
          go_wp2_with (go_at_call 32; refine (hIH.out v u _ (by have := dp_childV (k := k) (n := n) (s := s) (tb := tb) (tc := tc) (ts := ts) (io := some a) (ic := ic) hHt.out.2.1; have := hND.out; omega) HVx.out HUx.out).mono ?_; rw [hb]; rintro e w2 ⟨rfl, hb2⟩)
          go_roundw
          case rel => exact ⟨j + 1, by omega, by go_num, Lib.hid (fun q v' u' hq hv' hu' => by
            by_cases e : q = j
            · subst e
              rw [hHt.out.2.1] at hv'; rw [hHt.out.2.2] at hu'
              obtain rfl := Option.some.inj hv'
              obtain rfl := Option.some.inj hu'
              exact hb
            · exact HP.out q v' u' (by omega) hv' hu'), HE.out.trans ((HBx.out.trans (hb2.mono HBx.out.size)).mono hsz)⟩
          case measure => simp [intOf]; omega
        | false =>
          go_wp2_with (go_at_call 32; refine (hIH.out v u _ (by have := dp_childV (k := k) (n := n) (s := s) (tb := tb) (tc := tc) (ts := ts) (io := some a) (ic := ic) hHt.out.2.1; have := hND.out; omega) HVx.out HUx.out).mono ?_; rw [hb]; rintro e w2 ⟨rfl, hb2⟩)
          go_ret
          refine ⟨?_, HE.out.trans ((HBx.out.trans (hb2.mono HBx.out.size)).mono hsz)⟩
          rw [sas_false hHt.out.2.1 hHt.out.2.2 hb]; rfl
      · have hji : ¬ (j : Int) < (is.length : Int) := by omega
        go_wp2
        go_ret
        refine ⟨?_, HE.out⟩
        rw [(sas_iff is js).2 ⟨E5.out, fun q v u hv hu => HP.out q v u (by have := (List.getElem?_eq_some_iff.1 hv).1; omega) hv hu⟩]
        rfl
  · have hne : ((is.length : Int) != (js.length : Int)) = true := by simp; omega
    have hsf : sasV is js = false := by
      cases h : sasV is js with
      | false => rfl
      | true => exact absurd ((sas_iff is js).1 h).1 e5
    rw [hsf]
    clear e5
    go_enter Tryd.func57, Tryd.ntmps57
    go_wp2
    go_ret
    exact ⟨rfl, Below.refl _ _⟩

set_option maxRecDepth 100000 in
set_option maxHeartbeats 2000000 in
theorem lsame_any : ∀ (N : Nat) (a b : Va) (w : World), dpV a < N → VaIn w a → VaIn w b →
    Calls Tryd.prog 32 #[.agg #[.int .i64 a.k, .int .i64 a.n, .string a.s, .slice a.tb a.ts.length a.tc, .slice a.io a.is.length a.ic], .agg #[.int .i64 b.k, .int .i64 b.n, .string b.s, .slice b.tb b.ts.length b.tc, .slice b.io b.is.length b.ic]] w
      fun e w' => e = .returned (.bool (saV a b)) ∧ Below w.heap.size w w' := by
  intro N
  induction N with
  | zero => intro a b w h; omega
  | succ N ih =>
    intro a b w hN hv hu
    obtain ⟨k, n, s, tb, tc, ts, io, ic, is⟩ := a
    obtain ⟨k', n', s', tb', tc', us, io', ic', js⟩ := b
    have htl := (va_room hv).2.2.2.1
    show Calls Tryd.prog 32 #[.agg #[.int .i64 k, .int .i64 n, .string s, .slice tb ts.length tc, .slice io is.length ic], .agg #[.int .i64 k', .int .i64 n', .string s', .slice tb' us.length tc', .slice io' js.length ic']] w
      fun e w' => e = .returned (.bool (saV (.mk k n s tb tc ts io ic is) (.mk k' n' s' tb' tc' us io' ic' js))) ∧ Below w.heap.size w w'
    have hSE : saV (.mk k n s tb tc ts io ic is) (.mk k' n' s' tb' tc' us io' ic' js) = (decide (k = k') && decide (n = n') && decide (s = s') && decide (ts = us) && sasV is js) := saV_eq _ _ _ _ _ _ _ _ _ _
    obtain ⟨hA, hB, hW⟩ := two_new w [.int .i64 k, .int .i64 n, .string s, .slice tb ts.length tc, .slice io is.length ic] [.int .i64 k', .int .i64 n', .string s', .slice tb' us.length tc', .slice io' js.length ic'] 25
    have HA := Lib.hid hA
    have HB := Lib.hid hB
    have HW := Lib.hid hW
    have hV := Lib.hid hv
    have hU := Lib.hid hu
    have hIH := Lib.hid ih
    have hND := Lib.hid hN
    clear hv hu ih hN hA hB hW
    by_cases e1 : k = k'
    · subst e1
      by_cases e2 : n = n'
      · subst e2
        by_cases e3 : s = s'
        · subst e3
          have hss : (s.toList == s.toList) = true := by simp
          cases e4 : decide (ts = us) with
          | true =>
            have hX : saV (.mk k n s tb tc ts io ic is) (.mk k n s tb' tc' us io' ic' js) = sasV is js := by
              rw [hSE, e4]; simp
            rw [hX]
            have HSE := Lib.hid hSE
            clear hX hSE
            go_enter Tryd.func32, Tryd.ntmps32
            go_wp2_with (first
              | (go_at_call 56; refine (sints_any tb tb' ts us tc tc' _ ((va_tags hV.out).below HW.out (Nat.le_refl _)) ((va_tags hU.out).below HW.out (Nat.le_refl _)) (by omega)).mono ?_; rw [e4]; rintro e w1 ⟨rfl, hb1⟩; have k4 := (HA.out.below hb1 HA.out.lt).cell (i := 4) rfl; have j4 := (HB.out.below hb1 HB.out.lt).cell (i := 4) rfl)
              | (go_at_call 57; refine (eqf_any N hIH.out k n s tb tc ts io ic is k n s tb' tc' us io' ic' js _ hND.out (va_below hV.out (HW.out.trans (hb1.mono HW.out.size)) (Nat.le_refl _)) (va_below hU.out (HW.out.trans (hb1.mono HW.out.size)) (Nat.le_refl _))).mono ?_; rintro e w2 ⟨rfl, hb2⟩))
            go_ret
            exact ⟨rfl, (HW.out.trans (hb1.mono HW.out.size)).trans (hb2.mono (Nat.le_trans HW.out.size hb1.size))⟩
          | false =>
            have hX : saV (.mk k n s tb tc ts io ic is) (.mk k n s tb' tc' us io' ic' js) = false := by
              rw [hSE, e4]; simp
            rw [hX]
            have HSE := Lib.hid hSE
            clear hX hSE
            go_enter Tryd.func32, Tryd.ntmps32
            go_wp2_with (go_at_call 56; refine (sints_any tb tb' ts us tc tc' _ ((va_tags hV.out).below HW.out (Nat.le_refl _)) ((va_tags hU.out).below HW.out (Nat.le_refl _)) (by omega)).mono ?_; rw [e4]; rintro e w1 ⟨rfl, hb1⟩; have k4 := (HA.out.below hb1 HA.out.lt).cell (i := 4) rfl; have j4 := (HB.out.below hb1 HB.out.lt).cell (i := 4) rfl)
            go_ret
            exact ⟨rfl, HW.out.trans (hb1.mono HW.out.size)⟩
        · have hX : saV (.mk k n s tb tc ts io ic is) (.mk k n s' tb' tc' us io' ic' js) = false := by
            rw [hSE, decide_eq_false e3]; simp
          rw [hX]
          have hss := txt_neq e3
          clear hX hSE e3
          go_enter Tryd.func32, Tryd.ntmps32
          go_wp2
          go_ret
          exact ⟨rfl, HW.out⟩
      · have hX : saV (.mk k n s tb tc ts io ic is) (.mk k n' s' tb' tc' us io' ic' js) = false := by
          rw [hSE, decide_eq_false e2]; simp
        rw [hX]
        have hnn : (n == n') = false := by simpa using e2
        clear hX hSE e2
        go_enter Tryd.func32, Tryd.ntmps32
        go_wp2
        go_ret
        exact ⟨rfl, HW.out⟩
    · have hX : saV (.mk k n s tb tc ts io ic is) (.mk k' n' s' tb' tc' us io' ic' js) = false := by
        rw [hSE, decide_eq_false e1]; simp
      rw [hX]
      have hkk : (k == k') = false := by simpa using e1
      clear hX hSE e1
      go_enter Tryd.func32, Tryd.ntmps32
      go_wp2
      go_ret
      exact ⟨rfl, HW.out⟩
set_option maxRecDepth 100000 in
theorem same_any (a b : Va) (w : World) (ha : VaIn w a) (hb : VaIn w b) (hna : Nc a) :
    Calls Tryd.prog 17 #[.agg #[.int .i64 a.k, .int .i64 a.n, .string a.s, .slice a.tb a.ts.length a.tc, .slice a.io a.is.length a.ic], .agg #[.int .i64 b.k, .int .i64 b.n, .string b.s, .slice b.tb b.ts.length b.tc, .slice b.io b.is.length b.ic]] w
      fun e w' => e = .returned (.bool (saV a b)) ∧ Below w.heap.size w w' := by
  obtain ⟨hA, hB, hW⟩ := two_new w [.int .i64 a.k, .int .i64 a.n, .string a.s, .slice a.tb a.ts.length a.tc, .slice a.io a.is.length a.ic] [.int .i64 b.k, .int .i64 b.n, .string b.s, .slice b.tb b.ts.length b.tc, .slice b.io b.is.length b.ic] 25
  have HA := Lib.hid hA
  have HB := Lib.hid hB
  have HW := Lib.hid hW
  have HVa := Lib.hid ha
  have HVb := Lib.hid hb
  have HN := Lib.hid hna
  clear hA hB hW ha hb hna
  go_enter Tryd.func17, Tryd.ntmps17
  go_wp2_with (first
    | (go_at_call 22; refine (endless_any a _ (va_below HVa.out HW.out (Nat.le_refl _)) HN.out).mono ?_; rintro e w2 ⟨rfl, hb2⟩; have d0 := (HA.out.below hb2 HA.out.lt).cell (i := 0) rfl; have d1 := (HA.out.below hb2 HA.out.lt).cell (i := 1) rfl; have d2 := (HA.out.below hb2 HA.out.lt).cell (i := 2) rfl; have d3 := (HA.out.below hb2 HA.out.lt).cell (i := 3) rfl; have d4 := (HA.out.below hb2 HA.out.lt).cell (i := 4) rfl; have f0 := (HB.out.below hb2 HB.out.lt).cell (i := 0) rfl; have f1 := (HB.out.below hb2 HB.out.lt).cell (i := 1) rfl; have f2 := (HB.out.below hb2 HB.out.lt).cell (i := 2) rfl; have f3 := (HB.out.below hb2 HB.out.lt).cell (i := 3) rfl; have f4 := (HB.out.below hb2 HB.out.lt).cell (i := 4) rfl)
    | (go_at_call 32; refine (lsame_any _ a b _ (Nat.lt_succ_self _) (va_below HVa.out (HW.out.trans (hb2.mono HW.out.size)) (Nat.le_refl _)) (va_below HVb.out (HW.out.trans (hb2.mono HW.out.size)) (Nat.le_refl _))).mono ?_; rintro e w3 ⟨rfl, hb3⟩))
  go_ret
  exact ⟨rfl, (HW.out.trans (hb2.mono HW.out.size)).trans (hb3.mono (Nat.le_trans HW.out.size hb2.size))⟩
end Go.Proofs.YthgaipdhgckmdaaDoor.Va
