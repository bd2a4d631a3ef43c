/- Values: the contract of the reference's Same. -/
import Derived.Test.YthgaipdhgckmdaaDoorVaGreat
import Derived.Test.YthgaipdhgckmdaaDoorCmI
import Derived.Test.YthgaipdhgckmdaaDoorCmT
namespace Go.Proofs.YthgaipdhgckmdaaDoor.Va
open Go.RowKit Cm
set_option linter.unusedVariables false
set_option linter.unusedSimpArgs false

theorem sas_iff : ∀ (l m : List Va), sasV l m = true ↔ l.length = m.length ∧ ∀ (i : Nat) (v u : Va), l[i]? = some v → m[i]? = some u → saV v u = true
  | [], [] => ⟨fun _ => ⟨rfl, fun i v u h => by simp at h⟩, fun _ => by unfold sasV; rfl⟩
  | [], y :: m => ⟨(fun h => by unfold sasV at h; cases h), (fun h => by simp at h)⟩
  | x :: l, [] => ⟨(fun h => by unfold sasV at h; cases h), (fun h => by simp at h)⟩
  | x :: l, y :: m => by
    have ih := sas_iff l m
    have e : sasV (x :: l) (y :: m) = (saV x y && sasV l m) := by conv => lhs; unfold sasV
    rw [e, Bool.and_eq_true, ih]
    refine ⟨fun ⟨h1, h2, h3⟩ => ⟨by simp [h2], fun i v u hv hu => ?_⟩, fun ⟨h1, h2⟩ => ⟨h2 0 x y rfl rfl, by simpa using h1, fun i v u hv hu => h2 (i + 1) v u (by simpa using hv) (by simpa using hu)⟩⟩
    cases i with
    | zero =>
      obtain rfl : x = v := by simpa using hv
      obtain rfl : y = u := by simpa using hu
      exact h1
    | succ i => exact h3 i v u (by simpa using hv) (by simpa using hu)
theorem sas_false {l m : List Va} {i : Nat} {v u : Va} (hv : l[i]? = some v) (hu : m[i]? = some u) (h : saV v u = false) : sasV l m = false := by
  cases hb : sasV l m with
  | false => rfl
  | true => rw [((sas_iff l m).1 hb).2 i v u hv hu] at h; cases h
theorem two_new (w : World) (vs us : List Value) (T : TypeId) :
    Cs w.heap.size vs ((w.alloc (.cells vs.toArray T)).alloc (.cells us.toArray T)) ∧ Cs (w.heap.size + 1) us ((w.alloc (.cells vs.toArray T)).alloc (.cells us.toArray T)) ∧ Below w.heap.size w ((w.alloc (.cells vs.toArray T)).alloc (.cells us.toArray T)) := by
  have h1 := Cs.new (w.alloc (.cells vs.toArray T)) us T
  rw [show (w.alloc (.cells vs.toArray T)).heap.size = w.heap.size + 1 by simp] at h1
  exact ⟨(Cs.new w vs T).alloc _, h1, ((Below.refl w.heap.size w).alloc (Nat.le_refl _) _).alloc (by simp) _⟩

set_option maxRecDepth 100000 in
set_option maxHeartbeats 2000000 in
theorem rsame_any : ∀ (N : Nat) (a b : Va) (w : World), dpV a < N → VaIn w a → VaIn w b →
    Calls Tryd.prog 18 #[.agg #[.int .i64 a.k, .int .i64 a.n, .string a.s, .slice a.tb a.ts.length a.tc, .slice a.io a.is.length a.ic], .agg #[.int .i64 b.k, .int .i64 b.n, .string b.s, .slice b.tb b.ts.length b.tc, .slice b.io b.is.length b.ic]] w
      fun e w' => e = .returned (.bool (saV a b)) ∧ Below w.heap.size w w' := by
  intro N
  induction N with
  | zero => intro a b w h; omega
  | succ N ih =>
    intro a b w hN hv hu
    obtain ⟨k, n, s, tb, tc, ts, io, ic, is⟩ := a
    obtain ⟨k', n', s', tb', tc', us, io', ic', js⟩ := b
    have hlen := (va_room hv).2.2.2.2
    have hlen' := (va_room hu).2.2.2.2
    have htl := (va_room hv).2.2.2.1
    show Calls Tryd.prog 18 #[.agg #[.int .i64 k, .int .i64 n, .string s, .slice tb ts.length tc, .slice io is.length ic], .agg #[.int .i64 k', .int .i64 n', .string s', .slice tb' us.length tc', .slice io' js.length ic']] w
      fun e w' => e = .returned (.bool (saV (.mk k n s tb tc ts io ic is) (.mk k' n' s' tb' tc' us io' ic' js))) ∧ Below w.heap.size w w'
    have hSE : saV (.mk k n s tb tc ts io ic is) (.mk k' n' s' tb' tc' us io' ic' js) = (decide (k = k') && decide (n = n') && decide (s = s') && decide (ts = us) && sasV is js) := saV_eq _ _ _ _ _ _ _ _ _ _
    have hS := Lib.hid hSE
    obtain ⟨hA, hB, hW⟩ := two_new w [.int .i64 k, .int .i64 n, .string s, .slice tb ts.length tc, .slice io is.length ic] [.int .i64 k', .int .i64 n', .string s', .slice tb' us.length tc', .slice io' js.length ic'] 25
    have HA := Lib.hid hA
    have HB := Lib.hid hB
    have HW := Lib.hid hW
    have hV := Lib.hid hv
    have hU := Lib.hid hu
    have hIH := Lib.hid ih
    have hND := Lib.hid hN
    clear hv hu ih hN hSE hA hB hW
    by_cases e1 : k = k'
    · subst e1
      by_cases e2 : n = n'
      · subst e2
        by_cases e3 : s = s'
        · subst e3
          by_cases e4 : ts = us
          · subst e4
            by_cases e5 : is.length = js.length
            · have hne : ((is.length : Int) != (js.length : Int)) = false := by simp; omega
              have E5 := Lib.hid e5
              clear e5
              go_enter Tryd.func18, Tryd.ntmps18
              go_wp2_with (go_at_call 33; refine (rints_any tb tb' ts ts tc tc' _ ((va_tags hV.out).below HW.out (Nat.le_refl _)) ((va_tags hU.out).below HW.out (Nat.le_refl _)) (by omega)).mono ?_; rw [decide_eq_true rfl]; rintro e w1 ⟨rfl, hb1⟩; have k4 := (HA.out.below hb1 HA.out.lt).cell (i := 4) rfl; have j4 := (HB.out.below hb1 HB.out.lt).cell (i := 4) rfl)
              have h1 := HW.out.trans (hb1.mono HW.out.size)
              go_loopw [5] (fun i wr => ∃ j, j ≤ is.length ∧ i = .int .i64 (j : Nat) ∧ Hid (∀ (q : Nat) (v u : Va), q < j → is[q]? = some v → js[q]? = some u → saV v u = true) ∧ Hid (Cs w.heap.size [.int .i64 k, .int .i64 n, .string s, .slice tb ts.length tc, .slice io is.length ic] wr) ∧ Hid (Cs (w.heap.size + 1) [.int .i64 k, .int .i64 n, .string s, .slice tb' ts.length tc', .slice io' js.length ic'] wr) ∧ Hid (Below w.heap.size w wr)) (fun i _ => is.length - (intOf i).toNat)
              case atStart => exact ⟨0, by omega, rfl, Lib.hid (fun q v u hq => by omega), Lib.hid (HA.out.below hb1 HA.out.lt), Lib.hid (HB.out.below hb1 HB.out.lt), Lib.hid h1⟩
              case round =>
                clear k4 j4 hb1 h1
                obtain ⟨j, hj, rfl, HP, HC, HD, HE⟩ := hrel
                have hsz := HE.out.size
                have d4 := HC.out.cell (i := 4) rfl
                have f4 := HD.out.cell (i := 4) rfl
                by_cases hjl : j < is.length
                · have hji : (j : Int) < (is.length : Int) := by omega
                  have hji' : (j : Int) < (js.length : Int) := by have := E5.out; omega
                  have hjl' : j < js.length := by omega
                  obtain ⟨v, hvi⟩ : ∃ v, is[j]? = some v := ⟨_, List.getElem?_eq_getElem hjl⟩
                  obtain ⟨u, hui⟩ : ∃ u, js[j]? = some u := ⟨_, List.getElem?_eq_getElem hjl'⟩
                  obtain ⟨a, Ab, Ao, As, rfl, hA, hAb, c0, c1, c2, c3, c4, hin⟩ := va_place (va_below hV.out HE.out (Nat.le_refl _)) hvi
                  obtain ⟨b, Bb, Bo, Bs, rfl, hB, hBb, b0, b1, b2, b3, b4, hun⟩ := va_place (va_below hU.out HE.out (Nat.le_refl _)) hui
                  have hHt := Lib.hid (And.intro (And.intro hin hun) (And.intro hvi hui))
                  cases hb : saV v u with
                  | true =>
                    go_wp2
                    go_still_tail 10, (by kernel_rfl)
                    change wpList _ _ _ _ _ wr.drew
                    go_wp2_with (go_at_call 18; refine (hIH.out v u _ (by have := dp_childV (k := k) (n := n) (s := s) (tb := tb) (tc := tc) (ts := ts) (io := some a) (ic := ic) hHt.out.2.1; have := hND.out; omega) (va_below hHt.out.1.1 (Below.refl _ _).drew (Nat.le_refl _)) (va_below hHt.out.1.2 (Below.refl _ _).drew (Nat.le_refl _))).mono ?_; rw [hb]; rintro e w2 ⟨rfl, hb2⟩)
                    replace hb2 : Below wr.heap.size wr w2 := (Below.refl wr.heap.size wr).drew.trans hb2
                    go_roundw
                    case rel => exact ⟨j + 1, by omega, by go_num, Lib.hid (fun q v' u' hq hv' hu' => by
                      by_cases e : q = j
                      · subst e
                        rw [hHt.out.2.1] at hv'; rw [hHt.out.2.2] at hu'
                        obtain rfl := Option.some.inj hv'
                        obtain rfl := Option.some.inj hu'
                        exact hb
                      · exact HP.out q v' u' (by omega) hv' hu'), HC.out.below hb2 HC.out.lt, HD.out.below hb2 HD.out.lt, HE.out.trans (hb2.mono hsz)⟩
                    case measure => simp [intOf]; omega
                  | false =>
                    go_wp2
                    go_still_tail 10, (by kernel_rfl)
                    change wpList _ _ _ _ _ wr.drew
                    go_wp2_with (go_at_call 18; refine (hIH.out v u _ (by have := dp_childV (k := k) (n := n) (s := s) (tb := tb) (tc := tc) (ts := ts) (io := some a) (ic := ic) hHt.out.2.1; have := hND.out; omega) (va_below hHt.out.1.1 (Below.refl _ _).drew (Nat.le_refl _)) (va_below hHt.out.1.2 (Below.refl _ _).drew (Nat.le_refl _))).mono ?_; rw [hb]; rintro e w2 ⟨rfl, hb2⟩)
                    replace hb2 : Below wr.heap.size wr w2 := (Below.refl wr.heap.size wr).drew.trans hb2
                    go_ret
                    refine ⟨?_, HE.out.trans (hb2.mono hsz)⟩
                    rw [hS.out, sas_false hHt.out.2.1 hHt.out.2.2 hb, Bool.and_false]; rfl
                · have hji : ¬ (j : Int) < (is.length : Int) := by omega
                  go_wp2
                  go_ret
                  refine ⟨?_, HE.out⟩
                  rw [hS.out, (sas_iff is js).2 ⟨E5.out, fun q v u hv hu => HP.out q v u (by have := (List.getElem?_eq_some_iff.1 hv).1; omega) hv hu⟩]
                  simp
            · have hne : ((is.length : Int) != (js.length : Int)) = true := by simp; omega
              go_enter Tryd.func18, Tryd.ntmps18
              go_wp2_with (go_at_call 33; refine (rints_any tb tb' ts ts tc tc' _ ((va_tags hV.out).below HW.out (Nat.le_refl _)) ((va_tags hU.out).below HW.out (Nat.le_refl _)) (by omega)).mono ?_; rw [decide_eq_true rfl]; rintro e w1 ⟨rfl, hb1⟩; have k4 := (HA.out.below hb1 HA.out.lt).cell (i := 4) rfl; have j4 := (HB.out.below hb1 HB.out.lt).cell (i := 4) rfl)
              go_ret
              refine ⟨?_, HW.out.trans (hb1.mono HW.out.size)⟩
              have hf : sasV is js = false := by
                cases hb : sasV is js with
                | false => rfl
                | true => exact absurd ((sas_iff is js).1 hb).1 e5
              rw [hS.out, hf, Bool.and_false]; rfl
          · go_enter Tryd.func18, Tryd.ntmps18
            go_wp2_with (go_at_call 33; refine (rints_any tb tb' ts us tc tc' _ ((va_tags hV.out).below HW.out (Nat.le_refl _)) ((va_tags hU.out).below HW.out (Nat.le_refl _)) (by omega)).mono ?_; rw [decide_eq_false e4]; rintro e w1 ⟨rfl, hb1⟩)
            go_ret
            refine ⟨?_, HW.out.trans (hb1.mono HW.out.size)⟩
            rw [hS.out, decide_eq_false e4]; simp
        · have hne := txt_ne e3
          go_enter Tryd.func18, Tryd.ntmps18
          go_wp2
          go_ret
          refine ⟨?_, HW.out⟩
          rw [hS.out, decide_eq_false e3]; simp
      · have hne : (n != n') = true := by simpa using e2
        go_enter Tryd.func18, Tryd.ntmps18
        go_wp2
        go_ret
        refine ⟨?_, HW.out⟩
        rw [hS.out, decide_eq_false e2]; simp
    · have hne : (k != k') = true := by simpa using e1
      go_enter Tryd.func18, Tryd.ntmps18
      go_wp2
      go_ret
      refine ⟨?_, HW.out⟩
      rw [hS.out, decide_eq_false e1]; simp
end Go.Proofs.YthgaipdhgckmdaaDoor.Va
