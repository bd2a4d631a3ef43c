/- Values: which are too great to be asked for, and what is small of those that are not. -/
import Derived.BigQuiet
import Derived.Deep.Cut
import Derived.Deep.CutRange
import Derived.Deep.LoopGhost
import Derived.Deep.OwnRows
import Derived.Deep.QuietTactic
import Derived.Deep.RegionHeld3
import Derived.Deep.RegionLaw
import Derived.Deep.RegionWith
import Derived.Handy
import Derived.StillTailTactics
import Derived.Test.YtdogddliifbjnaaGreatMg53
import Derived.Test.YtdogddliifbjnaaGreatMg55
namespace Go.Proofs.YtdogddliifbjnaaGreat.Va
open Go.RowKit Cm
set_option linter.unusedVariables false
set_option linter.unusedSimpArgs false

mutual
def grV : Va → Nat → Bool | .mk _ _ s _ _ ts _ _ is, d => decide (40 < d) || decide (60 < is.length) || decide (300 < ts.length) || decide (2000 < s.size) || grsV is (d + 1 + is.length / 4) || decide (20000 < szsV is)
def grsV : List Va → Nat → Bool
  | [], _ => false
  | v :: l, d => grV v d || grsV l d
end
theorem grV_eq (k n : Int) (s : ByteArray) (tb : Option Addr) (tc : Nat) (ts : List Int) (io : Option Addr) (ic : Nat) (is : List Va) (d : Nat) : grV (.mk k n s tb tc ts io ic is) d =
    (decide (40 < d) || decide (60 < is.length) || decide (300 < ts.length) || decide (2000 < s.size) || grsV is (d + 1 + is.length / 4) || decide (20000 < szsV is)) := by conv => lhs; unfold grV
theorem grs_iff : ∀ (l : List Va) (d : Nat), grsV l d = false ↔ ∀ (i : Nat) (v : Va), l[i]? = some v → grV v d = false
  | [], d => ⟨fun _ i v h => by simp at h, fun _ => by unfold grsV; rfl⟩
  | x :: l, d => by
    have ih := grs_iff l d
    have e : grsV (x :: l) d = (grV x d || grsV l d) := by conv => lhs; unfold grsV
    rw [e, Bool.or_eq_false_iff, ih]
    refine ⟨fun ⟨h1, h2⟩ i v h => ?_, fun h => ⟨h 0 x rfl, fun i v hv => h (i + 1) v (by simpa using hv)⟩⟩
    cases i with
    | zero => obtain rfl : x = v := by simpa using h
              exact h1
    | succ i => exact h2 i v (by simpa using h)
theorem grs_true {l : List Va} {d i : Nat} {v : Va} (h : l[i]? = some v) (hv : grV v d = true) : grsV l d = true := by
  cases hb : grsV l d with
  | true => rfl
  | false => rw [(grs_iff l d).1 hb i v h] at hv; cases hv
/-- A value that is not too great. -/
inductive Nc : Va → Prop
  | mk (k n : Int) (s : ByteArray) (tb : Option Addr) (tc : Nat) (ts : List Int) (io : Option Addr) (ic : Nat) (is : List Va) (hi : is.length ≤ 60) (ht : ts.length ≤ 300) (hs : s.size ≤ 2000) (hz : szV (.mk k n s tb tc ts io ic is) ≤ 22008) (hd : dpV (.mk k n s tb tc ts io ic is) ≤ 41)
      (hc : ∀ (i : Nat) (v : Va), is[i]? = some v → Nc v) : Nc (.mk k n s tb tc ts io ic is)
theorem Nc.size {v : Va} (h : Nc v) : szV v ≤ 22008 := by cases h; assumption
theorem Nc.deep {v : Va} (h : Nc v) : dpV v ≤ 41 := by cases h; assumption
theorem Nc.child {k n : Int} {s : ByteArray} {tb : Option Addr} {tc i : Nat} {ts : List Int} {io : Option Addr} {ic : Nat} {is : List Va} {v : Va} (h : Nc (.mk k n s tb tc ts io ic is)) (hi : is[i]? = some v) : Nc v := by
  cases h with
  | mk _ _ _ _ _ _ _ _ _ _ _ _ _ _ hc => exact hc i v hi
theorem Nc.room {k n : Int} {s : ByteArray} {tb : Option Addr} {tc : Nat} {ts : List Int} {io : Option Addr} {ic : Nat} {is : List Va} (h : Nc (.mk k n s tb tc ts io ic is)) : is.length ≤ 60 ∧ ts.length ≤ 300 ∧ s.size ≤ 2000 := by
  cases h; exact ⟨by assumption, by assumption, by assumption⟩
mutual
theorem gr_small : ∀ (v : Va) (d : Nat), grV v d = false → Nc v ∧ dpV v + d ≤ 41
  | .mk k n s tb tc ts io ic is, d, h => by
    rw [grV_eq] at h
    simp only [Bool.or_eq_false_iff, decide_eq_false_iff_not] at h
    obtain ⟨⟨⟨⟨⟨h1, h2⟩, h3⟩, h4⟩, h5⟩, h6⟩ := h
    obtain ⟨g1, g2⟩ := grs_small is _ h5
    have hd : dpV (.mk k n s tb tc ts io ic is) + d ≤ 41 := by rw [dpV_eq]; omega
    exact ⟨.mk k n s tb tc ts io ic is (by omega) (by omega) (by omega) (by rw [szV_eq]; omega) (by omega) g1, hd⟩
theorem grs_small : ∀ (l : List Va) (d : Nat), grsV l d = false → (∀ (i : Nat) (v : Va), l[i]? = some v → Nc v) ∧ (dpsV l = 0 ∨ dpsV l + d ≤ 41)
  | [], d, h => ⟨fun i v h => by simp at h, .inl (by unfold dpsV; rfl)⟩
  | x :: l, d, h => by
    have e : grsV (x :: l) d = (grV x d || grsV l d) := by conv => lhs; unfold grsV
    rw [e, Bool.or_eq_false_iff] at h
    have h1 := gr_small x d h.1
    have h2 := grs_small l d h.2
    refine ⟨fun i v hi => ?_, ?_⟩
    · cases i with
      | zero => obtain rfl : x = v := by simpa using hi
                exact h1.1
      | succ i => exact h2.1 i v (by simpa using hi)
    · have := h1.2
      have e2 : dpsV (x :: l) = max (dpV x) (dpsV l) := by conv => lhs; unfold dpsV
      rw [e2]
      rcases h2.2 with h0 | h0 <;> omega
end
theorem min_next (a b : Nat) : min (min a 100000 + b) 100000 = min (a + b) 100000 := by omega
theorem dp_posV (v : Va) : 0 < dpV v := by cases v; rw [dpV_eq]; omega
theorem szs_le {l : List Va} {i : Nat} {v : Va} (h : l[i]? = some v) : szsV (l.take i) + szV v ≤ szsV l := by
  rw [← szs_take l i v h]
  have : ∀ (l : List Va) (i : Nat), szsV (l.take i) ≤ szsV l := fun l => by
    induction l with
    | nil => intro i; simp
    | cons x l ih =>
      intro i
      cases i with
      | zero => simp [szsV]
      | succ i =>
        have := ih i
        simp only [List.take_succ_cons, szsV]; omega
  exact this l _
end Go.Proofs.YtdogddliifbjnaaGreat.Va
/- Values: the contracts of the reference's Deep and Size. -/
namespace Go.Proofs.YtdogddliifbjnaaGreat.Va
open Go.RowKit Cm
set_option linter.unusedVariables false
set_option linter.unusedSimpArgs false

theorem dps_cut : ∀ (l : List Va) (i : Nat), dpsV (l.take i) ≤ dpsV l
  | [], i => by simp
  | x :: l, 0 => by simp [dpsV]
  | x :: l, i + 1 => by
    have := dps_cut l i
    simp only [List.take_succ_cons, dpsV]; omega
theorem szs_cut : ∀ (l : List Va) (i : Nat), szsV (l.take i) ≤ szsV l
  | [], i => by simp
  | x :: l, 0 => by simp [szsV]
  | x :: l, i + 1 => by
    have := szs_cut l i
    simp only [List.take_succ_cons, szsV]; omega

set_option maxRecDepth 100000 in
set_option maxHeartbeats 1000000 in
theorem rsize_any : ∀ (N : Nat) (v : Va) (w : World), dpV v < N → VaIn w v → szV v ≤ 1000000 →
    Calls Tryz.prog 12 #[.agg #[.int .i64 v.k, .int .i64 v.n, .string v.s, .slice v.tb v.ts.length v.tc, .slice v.io v.is.length v.ic]] w fun e w' => e = .returned (.int .i64 (szV v : Nat)) ∧ Below w.heap.size w w' := by
  intro N
  induction N with
  | zero => intro v w h; omega
  | succ N ih =>
    intro v w hN hv hd
    obtain ⟨k, n, s, tb, tc, ts, io, ic, is⟩ := v
    have hlen := (va_room hv).2.2.2.2
    show Calls Tryz.prog 12 #[.agg #[.int .i64 k, .int .i64 n, .string s, .slice tb ts.length tc, .slice io is.length ic]] w fun e w' => e = .returned (.int .i64 (szV (.mk k n s tb tc ts io ic is) : Nat)) ∧ Below w.heap.size w w'
    rw [szV_eq]
    rw [szV_eq] at hd
    have hB0 := Lib.hid ((Below.refl w.heap.size w).alloc (Nat.le_refl _) (.cells #[.int .i64 k, .int .i64 n, .string s, .slice tb ts.length tc, .slice io is.length ic] 26))
    have hC0 := Lib.hid (Cs.new w [.int .i64 k, .int .i64 n, .string s, .slice tb ts.length tc, .slice io is.length ic] 26)
    have hV := Lib.hid hv
    have hIH := Lib.hid ih
    have hND := Lib.hid hN
    clear hv ih hN
    go_enter Tryz.func12, Tryz.ntmps12
    go_wp2
    go_loopw [3, 4] (fun m i wr => ∃ j, j ≤ is.length ∧ i = .int .i64 (j : Nat) ∧ m = .int .i64 ((8 + s.size + szsV (is.take j) : Nat) : Int) ∧ Hid (Cs w.heap.size [.int .i64 k, .int .i64 n, .string s, .slice tb ts.length tc, .slice io is.length ic] wr) ∧ Hid (Below w.heap.size w wr)) (fun m i _ => is.length - (intOf i).toNat)
    case atStart => exact ⟨0, by omega, rfl, by simp [szsV], hC0, hB0⟩
    case round =>
      obtain ⟨j, hj, rfl, rfl, HC, HB⟩ := hrel
      clear hC0 hB0
      have hsz := HB.out.size
      have d4 := HC.out.cell (i := 4) rfl
      by_cases hjl : j < is.length
      · have hji : (j : Int) < (is.length : Int) := by omega
        obtain ⟨v, hvi⟩ : ∃ v, is[j]? = some v := ⟨_, List.getElem?_eq_getElem hjl⟩
        obtain ⟨a, Ab, Ao, As, rfl, hA, hAb, c0, c1, c2, c3, c4, hin⟩ := va_place (va_below hV.out HB.out (Nat.le_refl _)) hvi
        have hHt := Lib.hid (And.intro hin hvi)
        have hle := szs_le hvi
        have hnx := szs_take is j v hvi
        have hlt := szs_cut is j
        go_wp2_with (go_at_call 12; refine (hIH.out v _ (by have := dp_childV (k := k) (n := n) (s := s) (tb := tb) (tc := tc) (ts := ts) (io := some a) (ic := ic) hHt.out.2; have := hND.out; omega) hHt.out.1 (by omega)).mono ?_; rintro e w2 ⟨rfl, hb2⟩)
        go_roundw
        case rel => exact ⟨j + 1, by omega, by go_num, by rw [hnx]; congr 1; omega, HC.out.below hb2 HC.out.lt, HB.out.trans (hb2.mono hsz)⟩
        case measure => simp [intOf]; omega
      · have hji : ¬ (j : Int) < (is.length : Int) := by omega
        obtain rfl : j = is.length := by omega
        go_wp2
        go_ret
        exact ⟨rfl, HB.out⟩
end Go.Proofs.YtdogddliifbjnaaGreat.Va
/- Values: the contract of the reference's Great. -/
namespace Go.Proofs.YtdogddliifbjnaaGreat.Va
open Go.RowKit Cm
set_option linter.unusedVariables false
set_option linter.unusedSimpArgs false

set_option maxRecDepth 100000 in
set_option maxHeartbeats 2000000 in
theorem great_any : ∀ (N : Nat) (v : Va) (d : Nat) (w : World), dpV v < N → VaIn w v → d ≤ 1000000 →
    Calls Tryz.prog 5 #[.agg #[.int .i64 v.k, .int .i64 v.n, .string v.s, .slice v.tb v.ts.length v.tc, .slice v.io v.is.length v.ic], .int .i64 d] w fun e w' => e = .returned (.bool (grV v d)) ∧ Below w.heap.size w w' := by
  intro N
  induction N with
  | zero => intro v d w h; omega
  | succ N ih =>
    intro v d w hN hv hd
    obtain ⟨k, n, s, tb, tc, ts, io, ic, is⟩ := v
    have hlen := (va_room hv).2.2.2.2
    show Calls Tryz.prog 5 #[.agg #[.int .i64 k, .int .i64 n, .string s, .slice tb ts.length tc, .slice io is.length ic], .int .i64 d] w fun e w' => e = .returned (.bool (grV (.mk k n s tb tc ts io ic is) d)) ∧ Below w.heap.size w w'
    have hGR := Lib.hid (grV_eq k n s tb tc ts io ic is d)
    have hB0 := Lib.hid ((Below.refl w.heap.size w).alloc (Nat.le_refl _) (.cells #[.int .i64 k, .int .i64 n, .string s, .slice tb ts.length tc, .slice io is.length ic] 26))
    have hC0 := Lib.hid (Cs.new w [.int .i64 k, .int .i64 n, .string s, .slice tb ts.length tc, .slice io is.length ic] 26)
    have hV := Lib.hid hv
    have hIH := Lib.hid ih
    have hND := Lib.hid hN
    clear hv ih hN
    by_cases g1 : 40 < d
    · have g1' : (40 : Int) < (d : Int) := by omega
      go_enter Tryz.func5, Tryz.ntmps5
      go_wp2
      go_ret
      refine ⟨?_, hB0.out⟩
      rw [hGR.out, decide_eq_true g1]; rfl
    · have g1' : ¬ (40 : Int) < (d : Int) := by omega
      by_cases g2 : 60 < is.length
      · have g2' : (60 : Int) < (is.length : Int) := by omega
        go_enter Tryz.func5, Tryz.ntmps5
        go_wp2
        go_ret
        refine ⟨?_, hB0.out⟩
        rw [hGR.out, decide_eq_true g2]; simp
      · have g2' : ¬ (60 : Int) < (is.length : Int) := by omega
        by_cases g3 : 300 < ts.length
        · have g3' : (300 : Int) < (ts.length : Int) := by omega
          go_enter Tryz.func5, Tryz.ntmps5
          go_wp2
          go_ret
          refine ⟨?_, hB0.out⟩
          rw [hGR.out, decide_eq_true g3]; simp
        · have g3' : ¬ (300 : Int) < (ts.length : Int) := by omega
          by_cases g4 : 2000 < s.size
          · have g4' : (2000 : Int) < (s.size : Int) := by omega
            go_enter Tryz.func5, Tryz.ntmps5
            go_wp2
            go_ret
            refine ⟨?_, hB0.out⟩
            rw [hGR.out, decide_eq_true g4]; simp
          · have g4' : ¬ (2000 : Int) < (s.size : Int) := by omega
            go_enter Tryz.func5, Tryz.ntmps5
            go_wp2
            go_loopw [5, 6] (fun m i wr => ∃ j, j ≤ is.length ∧ i = .int .i64 (j : Nat) ∧ m = .int .i64 ((min (szsV (is.take j)) 100000 : Nat) : Int) ∧ Hid (∀ (q : Nat) (v : Va), q < j → is[q]? = some v → grV v (d + 1 + is.length / 4) = false) ∧ Hid (Cs w.heap.size [.int .i64 k, .int .i64 n, .string s, .slice tb ts.length tc, .slice io is.length ic] wr) ∧ Hid (Below w.heap.size w wr)) (fun m i _ => is.length - (intOf i).toNat)
            case atStart => exact ⟨0, by omega, rfl, by simp [szsV], Lib.hid (fun q v hq => by omega), hC0, hB0⟩
            case round =>
              obtain ⟨j, hj, rfl, rfl, HP, HC, HB⟩ := hrel
              clear hC0 hB0
              have hsz := HB.out.size
              have d4 := HC.out.cell (i := 4) rfl
              by_cases hjl : j < is.length
              · have hji : (j : Int) < (is.length : Int) := by omega
                obtain ⟨v, hvi⟩ : ∃ v, is[j]? = some v := ⟨_, List.getElem?_eq_getElem hjl⟩
                obtain ⟨a, Ab, Ao, As, rfl, hA, hAb, c0, c1, c2, c3, c4, hin⟩ := va_place (va_below hV.out HB.out (Nat.le_refl _)) hvi
                have hHt := Lib.hid (And.intro hin hvi)
                have e0 : (is.length : Int).tdiv 4 = (is.length : Int) / 4 := Int.tdiv_eq_ediv_of_nonneg (by omega)
                have e2 : IntKind.i64.wrap ((is.length : Int) / 4) = (is.length : Int) / 4 := IntWalk.i64_in _ (by omega)
                have e3 : IntKind.i64.wrap ((d : Int) + 1 + (is.length : Int) / 4) = ((d + 1 + is.length / 4 : Nat) : Int) := by rw [IntWalk.i64_in _ (by omega)]; omega
                have HC5 := Lib.hid (And.intro c0 (And.intro c1 (And.intro c2 (And.intro c3 c4))))
                have hnx := Lib.hid (szs_take is j v hvi)
                cases hb : grV v (d + 1 + is.length / 4) with
                | true =>
                  go_wp2
                  go_still_tail 12, (by kernel_rfl)
                  change wpList _ _ _ _ _ wr.drew
                  go_wp2_with (go_at_call 5; refine (hIH.out v (d + 1 + is.length / 4) _ (by have := dp_childV (k := k) (n := n) (s := s) (tb := tb) (tc := tc) (ts := ts) (io := some a) (ic := ic) hHt.out.2; have := hND.out; omega) (va_below hHt.out.1 (Below.refl _ _).drew (Nat.le_refl _)) (by omega)).mono ?_; rw [hb]; rintro e w2 ⟨rfl, hb2⟩)
                  replace hb2 : Below wr.heap.size wr w2 := (Below.refl wr.heap.size wr).drew.trans hb2
                  go_ret
                  refine ⟨?_, HB.out.trans (hb2.mono hsz)⟩
                  rw [hGR.out, grs_true hHt.out.2 hb]; simp
                | false =>
                  have hsm := Lib.hid (gr_small v _ hb)
                  have hzz := hsm.out.1.size
                  have hzm : min (szsV (is.take j)) 100000 ≤ 100000 := Nat.min_le_right _ _
                  go_wp2
                  go_still_tail 12, (by kernel_rfl)
                  change wpList _ _ _ _ _ wr.drew
                  go_wp2_with (first
                    | (go_at_call 5; refine (hIH.out v (d + 1 + is.length / 4) _ (by have := dp_childV (k := k) (n := n) (s := s) (tb := tb) (tc := tc) (ts := ts) (io := some a) (ic := ic) hHt.out.2; have := hND.out; omega) (va_below hHt.out.1 (Below.refl _ _).drew (Nat.le_refl _)) (by omega)).mono ?_; rw [hb]; rintro e w2 ⟨rfl, hb2⟩; replace hb2 : Below wr.heap.size wr w2 := (Below.refl wr.heap.size wr).drew.trans hb2; have k4 := (HC.out.below hb2 (Nat.lt_of_lt_of_le HC.out.lt (Nat.le_refl _))).cell (i := 4) rfl; have q0 := (hb2.cell (p := ⟨Ab, Ao, As⟩) hAb).trans HC5.out.1; have q1 := (hb2.cell (p := ⟨Ab, Ao + 1, none⟩) hAb).trans HC5.out.2.1; have q2 := (hb2.cell (p := ⟨Ab, Ao + 2, none⟩) hAb).trans HC5.out.2.2.1; have q3 := (hb2.cell (p := ⟨Ab, Ao + 3, none⟩) hAb).trans HC5.out.2.2.2.1; have q4 := (hb2.cell (p := ⟨Ab, Ao + 4, none⟩) hAb).trans HC5.out.2.2.2.2)
                    | (go_at_call 12; refine (rsize_any _ v _ (Nat.lt_succ_self _) (va_below hHt.out.1 hb2 (Nat.le_refl _)) (by have := hsm.out.1.size; omega)).mono ?_; rintro e w3 ⟨rfl, hb3⟩))
                  have h23 : Below wr.heap.size wr w3 := hb2.trans (hb3.mono hb2.size)
                  go_roundw
                  case rel => exact ⟨j + 1, by omega, by go_num, by rw [hnx.out]; congr 1; omega, Lib.hid (fun q v' hq hv' => by
                    by_cases e : q = j
                    · subst e; rw [hHt.out.2] at hv'; obtain rfl := Option.some.inj hv'; exact hb
                    · exact HP.out q v' (by omega) hv'), HC.out.below h23 HC.out.lt, HB.out.trans (h23.mono hsz)⟩
                  case measure => simp [intOf]; omega
              · have hji : ¬ (j : Int) < (is.length : Int) := by omega
                obtain rfl : j = is.length := by omega
                have hf : grsV is (d + 1 + is.length / 4) = false := (grs_iff is _).2 (fun q v hv => HP.out q v (List.getElem?_eq_some_iff.1 hv).1 hv)
                have ht : decide ((20000 : Int) < ((min (szsV is) 100000 : Nat) : Int)) = decide (20000 < szsV is) := decide_eq_decide.2 (by omega)
                have HT := Lib.hid (And.intro hf ht)
                clear hf ht
                go_wp2
                go_ret
                refine ⟨?_, HB.out⟩
                rw [hGR.out, HT.out.1, decide_eq_false g1, decide_eq_false g2, decide_eq_false g3, decide_eq_false g4]
                show Ending.returned (Value.bool (decide ((20000 : Int) < ((min (szsV is) 100000 : Nat) : Int)))) = _
                rw [HT.out.2]; rfl
end Go.Proofs.YtdogddliifbjnaaGreat.Va
/- The contract of the reference's Ints (two slices of numbers held against each other). For every package. -/
namespace Go.Proofs.YtdogddliifbjnaaGreat.Cm
open Go.RowKit
set_option linter.unusedVariables false
set_option linter.unusedSimpArgs false

theorem In.at {o : Option Addr} {ts : List Int} {w : World} {i : Nat} (h : In o ts w) (hi : i < ts.length) : ∃ a t, o = some a ∧ ts[i]? = some t ∧ (a.add i).block < w.heap.size ∧ w.cell? (a.add i) = some (.int .i64 t) ∧ -9223372036854775808 ≤ t ∧ t ≤ 9223372036854775807 := by
  obtain ⟨t, ht⟩ : ∃ t, ts[i]? = some t := ⟨_, List.getElem?_eq_getElem hi⟩
  obtain ⟨⟨a, h1, h2, h3⟩, h4⟩ := h i t ht
  exact ⟨a, t, h1, ht, by rw [block_add]; exact h2, h3, h4.1, h4.2⟩
theorem list_eq {ts us : List Int} (hl : ts.length = us.length) (h : ∀ q, q < ts.length → ts[q]? = us[q]?) : ts = us := by
  apply List.ext_getElem?
  intro i
  by_cases hi : i < ts.length
  · exact h i hi
  · rw [List.getElem?_eq_none (by omega), List.getElem?_eq_none (by omega)]

end Go.Proofs.YtdogddliifbjnaaGreat.Cm
