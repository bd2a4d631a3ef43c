/- Values: the contract of the reference's Well. -/
import Derived.Test.YthgaipdhgckmdaaDoorVaOne
namespace Go.Proofs.YthgaipdhgckmdaaDoor.Va
open Go.RowKit Cm
set_option linter.unusedVariables false
set_option linter.unusedSimpArgs false

set_option maxRecDepth 100000 in
set_option maxHeartbeats 1000000 in
theorem one_none (k n : Int) (s : ByteArray) (tb : Option Addr) (tl tc : Nat) (io : Option Addr) (il ic : Nat) (w : World) (h : ¬ (1 ≤ k ∧ k ≤ 10)) :
    Calls Tryd.prog 24 #[.agg #[.int .i64 k, .int .i64 n, .string s, .slice tb tl tc, .slice io il ic]] w fun e w' => e = .returned (.bool false) ∧ Below w.heap.size w w' := by
  have hB0 := Lib.hid ((Below.refl w.heap.size w).alloc (Nat.le_refl _) (.cells #[.int .i64 k, .int .i64 n, .string s, .slice tb tl tc, .slice io il ic] 25))
  have f1 : (k == 1) = false := beq_eq_false_iff_ne.2 (by omega)
  have f2 : (k == 2) = false := beq_eq_false_iff_ne.2 (by omega)
  have f3 : (k == 3) = false := beq_eq_false_iff_ne.2 (by omega)
  have f4 : (k == 4) = false := beq_eq_false_iff_ne.2 (by omega)
  have f5 : (k == 5) = false := beq_eq_false_iff_ne.2 (by omega)
  have f6 : (k == 6) = false := beq_eq_false_iff_ne.2 (by omega)
  have f7 : (k == 7) = false := beq_eq_false_iff_ne.2 (by omega)
  have f8 : (k == 8) = false := beq_eq_false_iff_ne.2 (by omega)
  have f9 : (k == 9) = false := beq_eq_false_iff_ne.2 (by omega)
  have f10 : (k == 10) = false := beq_eq_false_iff_ne.2 (by omega)
  clear h
  go_enter Tryd.func24, Tryd.ntmps24
  go_wp2
  go_ret
  exact ⟨rfl, hB0.out⟩
theorem one_any (BD : ByteArray → Int) (hBD : ∀ (s : ByteArray) (w : World), s.size ≤ 2000 → Calls Tryd.prog 43 #[.string s] w fun e w' => e = .returned (.int .i64 (BD s)) ∧ Below w.heap.size w w')
    (k n : Int) (s : ByteArray) (tb : Option Addr) (tc : Nat) (ts : List Int) (io : Option Addr) (ic : Nat) (is : List Va) (w : World) (h : VaIn w (.mk k n s tb tc ts io ic is)) (hsz : s.size ≤ 2000) :
    Calls Tryd.prog 24 #[.agg #[.int .i64 k, .int .i64 n, .string s, .slice tb ts.length tc, .slice io is.length ic]] w fun e w' => e = .returned (.bool (oneB (fun s => decide (BD s < 0)) k n s ts is)) ∧ Below w.heap.size w w' := by
  by_cases h1 : k = 1
  · subst h1; exact one1_any BD hBD n s tb tc ts io ic is w h hsz
  by_cases h2 : k = 2
  · subst h2; exact one2_any BD hBD n s tb tc ts io ic is w h hsz
  by_cases h3 : k = 3
  · subst h3; exact one3_any BD hBD n s tb tc ts io ic is w h hsz
  by_cases h4 : k = 4
  · subst h4; exact one4_any BD hBD n s tb tc ts io ic is w h hsz
  by_cases h5 : k = 5
  · subst h5; exact one5_any BD hBD n s tb tc ts io ic is w h hsz
  by_cases h6 : k = 6
  · subst h6; exact one6_any BD hBD n s tb tc ts io ic is w h hsz
  by_cases h7 : k = 7
  · subst h7; exact one7_any BD hBD n s tb tc ts io ic is w h hsz
  by_cases h8 : k = 8
  · subst h8; exact one8_any BD hBD n s tb tc ts io ic is w h hsz
  by_cases h9 : k = 9
  · subst h9; exact one9_any BD hBD n s tb tc ts io ic is w h hsz
  by_cases h10 : k = 10
  · subst h10; exact one10_any BD hBD n s tb tc ts io ic is w h hsz
  have hn : ¬ (1 ≤ k ∧ k ≤ 10) := by omega
  rw [one_no _ _ _ _ _ hn]
  exact one_none k n s tb ts.length tc io is.length ic w hn
theorem one_ret {BD : ByteArray → Int} (hBD : ∀ (s : ByteArray) (w : World), s.size ≤ 2000 → Calls Tryd.prog 43 #[.string s] w fun e w' => e = .returned (.int .i64 (BD s)) ∧ Below w.heap.size w w')
    {k n : Int} {s : ByteArray} {tb : Option Addr} {tc : Nat} {ts : List Int} {io : Option Addr} {ic : Nat} {is : List Va} {b : Bool} (hb : oneB (fun s => decide (BD s < 0)) k n s ts is = b) (w : World) (h : VaIn w (.mk k n s tb tc ts io ic is)) (hsz : s.size ≤ 2000) :
    Calls Tryd.prog 24 #[.agg #[.int .i64 k, .int .i64 n, .string s, .slice tb ts.length tc, .slice io is.length ic]] w fun e w' => e = .returned (.bool b) ∧ Below w.heap.size w w' := by
  subst hb; exact one_any BD hBD k n s tb tc ts io ic is w h hsz
theorem wes_false {R : ByteArray → Bool} {l : List Va} {i : Nat} {v : Va} (hv : l[i]? = some v) (h : weV R v = false) : wesV R l = false := by
  cases hb : wesV R l with
  | false => rfl
  | true => rw [(wes_iff R l).1 hb i v hv] at h; cases h

set_option maxRecDepth 100000 in
set_option maxHeartbeats 2000000 in
theorem rwell_any (BD : ByteArray → Int) (hBD : ∀ (s : ByteArray) (w : World), s.size ≤ 2000 → Calls Tryd.prog 43 #[.string s] w fun e w' => e = .returned (.int .i64 (BD s)) ∧ Below w.heap.size w w') :
    ∀ (N : Nat) (v : Va) (w : World), dpV v < N → VaIn w v → Nc v →
    Calls Tryd.prog 10 #[.agg #[.int .i64 v.k, .int .i64 v.n, .string v.s, .slice v.tb v.ts.length v.tc, .slice v.io v.is.length v.ic]] w fun e w' => e = .returned (.bool (weV (fun s => decide (BD s < 0)) v)) ∧ Below w.heap.size w w' := by
  intro N
  induction N with
  | zero => intro v w h; omega
  | succ N ih =>
    intro v w hN hv hnc
    obtain ⟨k, n, s, tb, tc, ts, io, ic, is⟩ := v
    have hlen := (va_room hv).2.2.2.2
    have hsz := hnc.room.2.2
    show Calls Tryd.prog 10 #[.agg #[.int .i64 k, .int .i64 n, .string s, .slice tb ts.length tc, .slice io is.length ic]] w fun e w' => e = .returned (.bool (weV (fun s => decide (BD s < 0)) (.mk k n s tb tc ts io ic is))) ∧ Below w.heap.size w w'
    have hE := Lib.hid (weV_eq (fun s => decide (BD s < 0)) k n s tb tc ts io ic is)
    have hB0 := Lib.hid ((Below.refl w.heap.size w).alloc (Nat.le_refl _) (.cells #[.int .i64 k, .int .i64 n, .string s, .slice tb ts.length tc, .slice io is.length ic] 25))
    have hC0 := Lib.hid (Cs.new w [.int .i64 k, .int .i64 n, .string s, .slice tb ts.length tc, .slice io is.length ic] 25)
    have hV := Lib.hid hv
    have hIH := Lib.hid ih
    have hND := Lib.hid hN
    have hNC := Lib.hid hnc
    have HBD := Lib.hid hBD
    clear hv ih hN hnc hBD
    cases ho : oneB (fun s => decide (BD s < 0)) k n s ts is with
    | false =>
      have HO := Lib.hid ho
      clear ho
      go_enter Tryd.func10, Tryd.ntmps10
      go_wp2_with (go_at_call 24; refine (one_ret (tb := tb) (tc := tc) (ts := ts) (io := io) (ic := ic) (is := is) HBD.out HO.out _ (va_below hV.out hB0.out (Nat.le_refl _)) hsz).mono ?_; rintro e w1 ⟨rfl, hb1⟩)
      go_ret
      refine ⟨?_, hB0.out.trans (hb1.mono hB0.out.size)⟩
      rw [hE.out, HO.out]; rfl
    | true =>
      have HO := Lib.hid ho
      clear ho
      go_enter Tryd.func10, Tryd.ntmps10
      go_wp2_with (go_at_call 24; refine (one_ret (tb := tb) (tc := tc) (ts := ts) (io := io) (ic := ic) (is := is) HBD.out HO.out _ (va_below hV.out hB0.out (Nat.le_refl _)) hsz).mono ?_; rintro e w1 ⟨rfl, hb1⟩)
      go_loopw [3] (fun i wr => ∃ j, j ≤ is.length ∧ i = .int .i64 (j : Nat) ∧ Hid (∀ (q : Nat) (v : Va), q < j → is[q]? = some v → weV (fun s => decide (BD s < 0)) v = true) ∧ Hid (Cs w.heap.size [.int .i64 k, .int .i64 n, .string s, .slice tb ts.length tc, .slice io is.length ic] wr) ∧ Hid (Below w.heap.size w wr)) (fun i _ => is.length - (intOf i).toNat)
      case atStart => exact ⟨0, by omega, rfl, Lib.hid (fun q v hq => by omega), Lib.hid (hC0.out.below hb1 hC0.out.lt), Lib.hid (hB0.out.trans (hb1.mono hB0.out.size))⟩
      case round =>
        clear hb1
        obtain ⟨j, hj, rfl, HP, HC, HB⟩ := hrel
        have hbs := HB.out.size
        have d4 := HC.out.cell (i := 4) rfl
        by_cases hjl : j < is.length
        · have hji : (j : Int) < (is.length : Int) := by omega
          obtain ⟨v, hvi⟩ : ∃ v, is[j]? = some v := ⟨_, List.getElem?_eq_getElem hjl⟩
          obtain ⟨a, Ab, Ao, As, rfl, hA, hAb, c0, c1, c2, c3, c4, hin⟩ := va_place (va_below hV.out HB.out (Nat.le_refl _)) hvi
          have hHt := Lib.hid (And.intro hin hvi)
          cases hb : weV (fun s => decide (BD s < 0)) v with
          | true =>
            have HW := Lib.hid hb
            clear hb
            go_wp2_with (go_at_call 10; refine (hIH.out v _ (by have := dp_childV (k := k) (n := n) (s := s) (tb := tb) (tc := tc) (ts := ts) (io := some a) (ic := ic) hHt.out.2; have := hND.out; omega) hHt.out.1 (hNC.out.child hHt.out.2)).mono ?_; rw [HW.out]; rintro e w2 ⟨rfl, hb2⟩)
            go_roundw
            case rel => exact ⟨j + 1, by omega, by go_num, Lib.hid (fun q v' hq hv' => by
              by_cases e : q = j
              · subst e
                rw [hHt.out.2] at hv'
                obtain rfl := Option.some.inj hv'
                exact HW.out
              · exact HP.out q v' (by omega) hv'), HC.out.below hb2 HC.out.lt, HB.out.trans (hb2.mono hbs)⟩
            case measure => simp [intOf]; omega
          | false =>
            have HW := Lib.hid hb
            clear hb
            go_wp2_with (go_at_call 10; refine (hIH.out v _ (by have := dp_childV (k := k) (n := n) (s := s) (tb := tb) (tc := tc) (ts := ts) (io := some a) (ic := ic) hHt.out.2; have := hND.out; omega) hHt.out.1 (hNC.out.child hHt.out.2)).mono ?_; rw [HW.out]; rintro e w2 ⟨rfl, hb2⟩)
            go_ret
            refine ⟨?_, HB.out.trans (hb2.mono hbs)⟩
            rw [hE.out, wes_false hHt.out.2 HW.out, Bool.and_false]; rfl
        · have hji : ¬ (j : Int) < (is.length : Int) := by omega
          go_wp2
          go_ret
          refine ⟨?_, HB.out⟩
          rw [hE.out, HO.out, (wes_iff _ is).2 (fun q v hv => HP.out q v (by have := (List.getElem?_eq_some_iff.1 hv).1; omega) hv)]
          rfl
end Go.Proofs.YthgaipdhgckmdaaDoor.Va
