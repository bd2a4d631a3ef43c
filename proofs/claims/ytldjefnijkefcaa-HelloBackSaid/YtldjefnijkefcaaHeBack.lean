/- Hellos: the walk of the law HelloBack. (Written by gen/back.py.) -/
import Derived.Test.YtldjefnijkefcaaHeTakes
namespace Go.Proofs.Ytldjefnijkefcaa.He
open Go.RowKit Cm Dc
set_option linter.unusedVariables false
set_option linter.unusedSimpArgs false

section
variable {Mt : Nat → (Nat → Nat) → (Nat → Nat) → World → Prop}
set_option maxRecDepth 100000 in
set_option maxHeartbeats 4000000 in
theorem back_walk (hA : Api Mt) (o e : Int) (t : Nat) (b : ByteArray) (w : World) (ho : I64 o) (he : I64 e) (ht : t < 18446744073709551616) (hb : b.size ≤ 140737488355327) :
    Calls Try.prog 5 #[agH o e t, .string b] w fun x w' => x = .returned (.bool true) ∧ Below w.heap.size w w' := by
  have HA := Lib.hid hA
  have HT := Lib.hid ht
  have HBZ := Lib.hid hb
  clear hA hb
  by_cases hneg : o < 0 ∨ e < 0
  · have HO := Lib.hid ho
    have HE := Lib.hid he
    have HSZ := Lib.hid (And.intro (hpT_neg t hneg) (hpE_neg hneg))
    have HC := Lib.hid (Cs.new w [.int .i64 o, .int .i64 e, .int .u64 (t : Int)] 24)
    have HB := Lib.hid ((Below.refl w.heap.size w).alloc (Nat.le_refl _) (.cells #[.int .i64 o, .int .i64 e, .int .u64 (t : Int)] 24))
    have c0 := HC.out.three
    clear hneg ho he ht
    cases hv : htS b with
    | none =>
      have HV := Lib.hid (htV_none hv)
      clear hv
      go_enter Try.func5, Try.ntmps5
      go_wp2_with (first
        | (go_at_call 6; (with_reducible refine (HA.out.put o e t _ HO.out HE.out HT.out).mono ?_); rw [HSZ.out.1, HSZ.out.2]; rintro y w1 ⟨rfl, hb1⟩; have HC1 := Lib.hid (HC.out.below hb1 HC.out.lt); have HB1 := Lib.hid (HB.out.trans (hb1.mono HB.out.size)); have c1 := HC1.out.three; clear hb1)
        | (go_at_call 8; (with_reducible refine (HA.out.take b 0 0 0 1 _ HBZ.out HV.out).mono ?_); rintro y w5 ⟨rfl, hb5⟩; have HC5 := Lib.hid (Cs.new w5 [.int .i64 0, .int .i64 0, .int .u64 0] 28); have HB5 := Lib.hid ((HB1.out.trans (hb5.mono HB1.out.size)).alloc (HB1.out.trans (hb5.mono HB1.out.size)).size (.cells #[.int .i64 0, .int .i64 0, .int .u64 0] 28)); have c5 := HC5.out.three; clear hb5)
        | (go_at_call 10; refine (awake_any HA.out _).mono ?_; rintro y w7 ⟨rfl, hb7⟩; have HB7 := Lib.hid (HB5.out.trans (hb7.mono HB5.out.size)); clear hb7))
      go_ret
      exact ⟨rfl, HB7.out⟩
    | some v =>
      obtain ⟨o', e', t'⟩ := v
      have HV := Lib.hid (htV_some hv)
      obtain ⟨g1, g2, g3, g4⟩ := ht_one hv
      have HP2 := Lib.hid ((hpT_pos o' e' t').trans g1)
      have HO2 := Lib.hid (show I64 (o' : Int) by omega)
      have HE2 := Lib.hid (show I64 (e' : Int) by omega)
      have HT2 := Lib.hid g4
      clear hv g1 g2 g3 g4
      go_enter Try.func5, Try.ntmps5
      go_wp2_with (first
        | (go_at_call 6; (with_reducible refine (HA.out.put o e t _ HO.out HE.out HT.out).mono ?_); rw [HSZ.out.1, HSZ.out.2]; rintro y w1 ⟨rfl, hb1⟩; have HC1 := Lib.hid (HC.out.below hb1 HC.out.lt); have HB1 := Lib.hid (HB.out.trans (hb1.mono HB.out.size)); have c1 := HC1.out.three; clear hb1)
        | (go_at_call 8; (with_reducible refine (HA.out.take b o' e' t' 0 _ HBZ.out HV.out).mono ?_); rintro y w5 ⟨rfl, hb5⟩; have HC5 := Lib.hid (Cs.new w5 [.int .i64 ((o' : Nat) : Int), .int .i64 ((e' : Nat) : Int), .int .u64 ((t' : Nat) : Int)] 28); have HB5 := Lib.hid ((HB1.out.trans (hb5.mono HB1.out.size)).alloc (HB1.out.trans (hb5.mono HB1.out.size)).size (.cells #[.int .i64 ((o' : Nat) : Int), .int .i64 ((e' : Nat) : Int), .int .u64 ((t' : Nat) : Int)] 28)); have c5 := HC5.out.three; clear hb5)
        | (go_at_call 6; (with_reducible refine (HA.out.put (o' : Int) (e' : Int) t' _ HO2.out HE2.out HT2.out).mono ?_); rw [HP2.out, hpE_pos]; rintro y w6 ⟨rfl, hb6⟩; have HB6 := Lib.hid (HB5.out.trans (hb6.mono HB5.out.size)); clear hb6)
        | (go_at_call 10; refine (awake_any HA.out _).mono ?_; rintro y w7 ⟨rfl, hb7⟩; have HB7 := Lib.hid (HB6.out.trans (hb7.mono HB6.out.size)); clear hb7))
      go_ret
      exact ⟨rfl, HB7.out⟩
  · obtain ⟨p, hp⟩ : ∃ p : Nat, (p : Int) = o := ⟨o.toNat, by omega⟩
    obtain ⟨q, hq⟩ : ∃ q : Nat, (q : Int) = e := ⟨e.toNat, by omega⟩
    subst hp hq
    have HO := Lib.hid ho
    have HE := Lib.hid he
    obtain ⟨s, hs⟩ : ∃ s, hpS p q t = s := ⟨_, rfl⟩
    have HSL : Hid (s.size ≤ 140737488355327) := Lib.hid (by have := hp_room p q t (by omega) (by omega) ht; rw [hs] at this; omega)
    have HSZ := Lib.hid (And.intro ((hpT_pos p q t).trans hs) (hpE_pos p q))
    have HC := Lib.hid (Cs.new w [.int .i64 (p : Int), .int .i64 (q : Int), .int .u64 (t : Int)] 24)
    have HB := Lib.hid ((Below.refl w.heap.size w).alloc (Nat.le_refl _) (.cells #[.int .i64 (p : Int), .int .i64 (q : Int), .int .u64 (t : Int)] 24))
    have c0 := HC.out.three
    by_cases hp : p ≤ 2147483647
    · by_cases hq : q ≤ 2147483647
      · have HW := Lib.hid (show htV s = (p, q, t, 0) by rw [← hs]; exact htV_some (ht_put p q t hp hq ht))
        have hpi : (p : Int) ≤ 2147483647 := by omega
        have hqi : (q : Int) ≤ 2147483647 := by omega
        clear hneg ho he ht hs
        cases hv : htS b with
        | none =>
          have HV := Lib.hid (htV_none hv)
          clear hv
          go_enter Try.func5, Try.ntmps5
          go_wp2_with (first
            | (go_at_call 6; (with_reducible refine (HA.out.put (p : Int) (q : Int) t _ HO.out HE.out HT.out).mono ?_); rw [HSZ.out.1, HSZ.out.2]; rintro y w1 ⟨rfl, hb1⟩; have HC1 := Lib.hid (HC.out.below hb1 HC.out.lt); have HB1 := Lib.hid (HB.out.trans (hb1.mono HB.out.size)); have c1 := HC1.out.three; clear hb1)
            | (go_at_call 8; (with_reducible refine (HA.out.take s p q t 0 _ HSL.out HW.out).mono ?_); rintro y w2 ⟨rfl, hb2⟩; have HC2 := Lib.hid ((HC1.out.below hb2 HC1.out.lt).alloc (.cells #[.int .i64 ((p : Nat) : Int), .int .i64 ((q : Nat) : Int), .int .u64 ((t : Nat) : Int)] 28)); have HC3 := Lib.hid (Cs.new w2 [.int .i64 ((p : Nat) : Int), .int .i64 ((q : Nat) : Int), .int .u64 ((t : Nat) : Int)] 28); have HB2 := Lib.hid ((HB1.out.trans (hb2.mono HB1.out.size)).alloc (HB1.out.trans (hb2.mono HB1.out.size)).size (.cells #[.int .i64 ((p : Nat) : Int), .int .i64 ((q : Nat) : Int), .int .u64 ((t : Nat) : Int)] 28)); have c2 := HC2.out.three; have c3 := HC3.out.three; clear hb2)
            | (go_at_call 8; (with_reducible refine (HA.out.take b 0 0 0 1 _ HBZ.out HV.out).mono ?_); rintro y w5 ⟨rfl, hb5⟩; have HC5 := Lib.hid (Cs.new w5 [.int .i64 0, .int .i64 0, .int .u64 0] 28); have HB5 := Lib.hid ((HB2.out.trans (hb5.mono HB2.out.size)).alloc (HB2.out.trans (hb5.mono HB2.out.size)).size (.cells #[.int .i64 0, .int .i64 0, .int .u64 0] 28)); have c5 := HC5.out.three; clear hb5)
            | (go_at_call 10; refine (awake_any HA.out _).mono ?_; rintro y w7 ⟨rfl, hb7⟩; have HB7 := Lib.hid (HB5.out.trans (hb7.mono HB5.out.size)); clear hb7))
          go_ret
          exact ⟨rfl, HB7.out⟩
        | some v =>
          obtain ⟨o', e', t'⟩ := v
          have HV := Lib.hid (htV_some hv)
          obtain ⟨g1, g2, g3, g4⟩ := ht_one hv
          have HP2 := Lib.hid ((hpT_pos o' e' t').trans g1)
          have HO2 := Lib.hid (show I64 (o' : Int) by omega)
          have HE2 := Lib.hid (show I64 (e' : Int) by omega)
          have HT2 := Lib.hid g4
          clear hv g1 g2 g3 g4
          go_enter Try.func5, Try.ntmps5
          go_wp2_with (first
            | (go_at_call 6; (with_reducible refine (HA.out.put (p : Int) (q : Int) t _ HO.out HE.out HT.out).mono ?_); rw [HSZ.out.1, HSZ.out.2]; rintro y w1 ⟨rfl, hb1⟩; have HC1 := Lib.hid (HC.out.below hb1 HC.out.lt); have HB1 := Lib.hid (HB.out.trans (hb1.mono HB.out.size)); have c1 := HC1.out.three; clear hb1)
            | (go_at_call 8; (with_reducible refine (HA.out.take s p q t 0 _ HSL.out HW.out).mono ?_); rintro y w2 ⟨rfl, hb2⟩; have HC2 := Lib.hid ((HC1.out.below hb2 HC1.out.lt).alloc (.cells #[.int .i64 ((p : Nat) : Int), .int .i64 ((q : Nat) : Int), .int .u64 ((t : Nat) : Int)] 28)); have HC3 := Lib.hid (Cs.new w2 [.int .i64 ((p : Nat) : Int), .int .i64 ((q : Nat) : Int), .int .u64 ((t : Nat) : Int)] 28); have HB2 := Lib.hid ((HB1.out.trans (hb2.mono HB1.out.size)).alloc (HB1.out.trans (hb2.mono HB1.out.size)).size (.cells #[.int .i64 ((p : Nat) : Int), .int .i64 ((q : Nat) : Int), .int .u64 ((t : Nat) : Int)] 28)); have c2 := HC2.out.three; have c3 := HC3.out.three; clear hb2)
            | (go_at_call 8; (with_reducible refine (HA.out.take b o' e' t' 0 _ HBZ.out HV.out).mono ?_); rintro y w5 ⟨rfl, hb5⟩; have HC5 := Lib.hid (Cs.new w5 [.int .i64 ((o' : Nat) : Int), .int .i64 ((e' : Nat) : Int), .int .u64 ((t' : Nat) : Int)] 28); have HB5 := Lib.hid ((HB2.out.trans (hb5.mono HB2.out.size)).alloc (HB2.out.trans (hb5.mono HB2.out.size)).size (.cells #[.int .i64 ((o' : Nat) : Int), .int .i64 ((e' : Nat) : Int), .int .u64 ((t' : Nat) : Int)] 28)); have c5 := HC5.out.three; clear hb5)
            | (go_at_call 6; (with_reducible refine (HA.out.put (o' : Int) (e' : Int) t' _ HO2.out HE2.out HT2.out).mono ?_); rw [HP2.out, hpE_pos]; rintro y w6 ⟨rfl, hb6⟩; have HB6 := Lib.hid (HB5.out.trans (hb6.mono HB5.out.size)); clear hb6)
            | (go_at_call 10; refine (awake_any HA.out _).mono ?_; rintro y w7 ⟨rfl, hb7⟩; have HB7 := Lib.hid (HB6.out.trans (hb7.mono HB6.out.size)); clear hb7))
          go_ret
          exact ⟨rfl, HB7.out⟩
      · have HW := Lib.hid (show htV s = (0, 0, 0, 1) by rw [← hs]; exact htV_none (ht_big p q t (by omega) (by omega) (by omega)))
        have hpi : (p : Int) ≤ 2147483647 := by omega
        have hqi : ¬ (q : Int) ≤ 2147483647 := by omega
        clear hneg ho he ht hs
        cases hv : htS b with
        | none =>
          have HV := Lib.hid (htV_none hv)
          clear hv
          go_enter Try.func5, Try.ntmps5
          go_wp2_with (first
            | (go_at_call 6; (with_reducible refine (HA.out.put (p : Int) (q : Int) t _ HO.out HE.out HT.out).mono ?_); rw [HSZ.out.1, HSZ.out.2]; rintro y w1 ⟨rfl, hb1⟩; have HC1 := Lib.hid (HC.out.below hb1 HC.out.lt); have HB1 := Lib.hid (HB.out.trans (hb1.mono HB.out.size)); have c1 := HC1.out.three; clear hb1)
            | (go_at_call 8; (with_reducible refine (HA.out.take s 0 0 0 1 _ HSL.out HW.out).mono ?_); rintro y w2 ⟨rfl, hb2⟩; have HC2 := Lib.hid ((HC1.out.below hb2 HC1.out.lt).alloc (.cells #[.int .i64 0, .int .i64 0, .int .u64 0] 28)); have HC3 := Lib.hid (Cs.new w2 [.int .i64 0, .int .i64 0, .int .u64 0] 28); have HB2 := Lib.hid ((HB1.out.trans (hb2.mono HB1.out.size)).alloc (HB1.out.trans (hb2.mono HB1.out.size)).size (.cells #[.int .i64 0, .int .i64 0, .int .u64 0] 28)); have c2 := HC2.out.three; have c3 := HC3.out.three; clear hb2)
            | (go_at_call 8; (with_reducible refine (HA.out.take b 0 0 0 1 _ HBZ.out HV.out).mono ?_); rintro y w5 ⟨rfl, hb5⟩; have HC5 := Lib.hid (Cs.new w5 [.int .i64 0, .int .i64 0, .int .u64 0] 28); have HB5 := Lib.hid ((HB2.out.trans (hb5.mono HB2.out.size)).alloc (HB2.out.trans (hb5.mono HB2.out.size)).size (.cells #[.int .i64 0, .int .i64 0, .int .u64 0] 28)); have c5 := HC5.out.three; clear hb5)
            | (go_at_call 10; refine (awake_any HA.out _).mono ?_; rintro y w7 ⟨rfl, hb7⟩; have HB7 := Lib.hid (HB5.out.trans (hb7.mono HB5.out.size)); clear hb7))
          go_ret
          exact ⟨rfl, HB7.out⟩
        | some v =>
          obtain ⟨o', e', t'⟩ := v
          have HV := Lib.hid (htV_some hv)
          obtain ⟨g1, g2, g3, g4⟩ := ht_one hv
          have HP2 := Lib.hid ((hpT_pos o' e' t').trans g1)
          have HO2 := Lib.hid (show I64 (o' : Int) by omega)
          have HE2 := Lib.hid (show I64 (e' : Int) by omega)
          have HT2 := Lib.hid g4
          clear hv g1 g2 g3 g4
          go_enter Try.func5, Try.ntmps5
          go_wp2_with (first
            | (go_at_call 6; (with_reducible refine (HA.out.put (p : Int) (q : Int) t _ HO.out HE.out HT.out).mono ?_); rw [HSZ.out.1, HSZ.out.2]; rintro y w1 ⟨rfl, hb1⟩; have HC1 := Lib.hid (HC.out.below hb1 HC.out.lt); have HB1 := Lib.hid (HB.out.trans (hb1.mono HB.out.size)); have c1 := HC1.out.three; clear hb1)
            | (go_at_call 8; (with_reducible refine (HA.out.take s 0 0 0 1 _ HSL.out HW.out).mono ?_); rintro y w2 ⟨rfl, hb2⟩; have HC2 := Lib.hid ((HC1.out.below hb2 HC1.out.lt).alloc (.cells #[.int .i64 0, .int .i64 0, .int .u64 0] 28)); have HC3 := Lib.hid (Cs.new w2 [.int .i64 0, .int .i64 0, .int .u64 0] 28); have HB2 := Lib.hid ((HB1.out.trans (hb2.mono HB1.out.size)).alloc (HB1.out.trans (hb2.mono HB1.out.size)).size (.cells #[.int .i64 0, .int .i64 0, .int .u64 0] 28)); have c2 := HC2.out.three; have c3 := HC3.out.three; clear hb2)
            | (go_at_call 8; (with_reducible refine (HA.out.take b o' e' t' 0 _ HBZ.out HV.out).mono ?_); rintro y w5 ⟨rfl, hb5⟩; have HC5 := Lib.hid (Cs.new w5 [.int .i64 ((o' : Nat) : Int), .int .i64 ((e' : Nat) : Int), .int .u64 ((t' : Nat) : Int)] 28); have HB5 := Lib.hid ((HB2.out.trans (hb5.mono HB2.out.size)).alloc (HB2.out.trans (hb5.mono HB2.out.size)).size (.cells #[.int .i64 ((o' : Nat) : Int), .int .i64 ((e' : Nat) : Int), .int .u64 ((t' : Nat) : Int)] 28)); have c5 := HC5.out.three; clear hb5)
            | (go_at_call 6; (with_reducible refine (HA.out.put (o' : Int) (e' : Int) t' _ HO2.out HE2.out HT2.out).mono ?_); rw [HP2.out, hpE_pos]; rintro y w6 ⟨rfl, hb6⟩; have HB6 := Lib.hid (HB5.out.trans (hb6.mono HB5.out.size)); clear hb6)
            | (go_at_call 10; refine (awake_any HA.out _).mono ?_; rintro y w7 ⟨rfl, hb7⟩; have HB7 := Lib.hid (HB6.out.trans (hb7.mono HB6.out.size)); clear hb7))
          go_ret
          exact ⟨rfl, HB7.out⟩
    · have HW := Lib.hid (show htV s = (0, 0, 0, 1) by rw [← hs]; exact htV_none (ht_big p q t (by omega) (by omega) (by omega)))
      have hpi : ¬ (p : Int) ≤ 2147483647 := by omega
      clear hneg ho he ht hs
      cases hv : htS b with
      | none =>
        have HV := Lib.hid (htV_none hv)
        clear hv
        go_enter Try.func5, Try.ntmps5
        go_wp2_with (first
          | (go_at_call 6; (with_reducible refine (HA.out.put (p : Int) (q : Int) t _ HO.out HE.out HT.out).mono ?_); rw [HSZ.out.1, HSZ.out.2]; rintro y w1 ⟨rfl, hb1⟩; have HC1 := Lib.hid (HC.out.below hb1 HC.out.lt); have HB1 := Lib.hid (HB.out.trans (hb1.mono HB.out.size)); have c1 := HC1.out.three; clear hb1)
          | (go_at_call 8; (with_reducible refine (HA.out.take s 0 0 0 1 _ HSL.out HW.out).mono ?_); rintro y w2 ⟨rfl, hb2⟩; have HC2 := Lib.hid ((HC1.out.below hb2 HC1.out.lt).alloc (.cells #[.int .i64 0, .int .i64 0, .int .u64 0] 28)); have HC3 := Lib.hid (Cs.new w2 [.int .i64 0, .int .i64 0, .int .u64 0] 28); have HB2 := Lib.hid ((HB1.out.trans (hb2.mono HB1.out.size)).alloc (HB1.out.trans (hb2.mono HB1.out.size)).size (.cells #[.int .i64 0, .int .i64 0, .int .u64 0] 28)); have c2 := HC2.out.three; have c3 := HC3.out.three; clear hb2)
          | (go_at_call 8; (with_reducible refine (HA.out.take b 0 0 0 1 _ HBZ.out HV.out).mono ?_); rintro y w5 ⟨rfl, hb5⟩; have HC5 := Lib.hid (Cs.new w5 [.int .i64 0, .int .i64 0, .int .u64 0] 28); have HB5 := Lib.hid ((HB2.out.trans (hb5.mono HB2.out.size)).alloc (HB2.out.trans (hb5.mono HB2.out.size)).size (.cells #[.int .i64 0, .int .i64 0, .int .u64 0] 28)); have c5 := HC5.out.three; clear hb5)
          | (go_at_call 10; refine (awake_any HA.out _).mono ?_; rintro y w7 ⟨rfl, hb7⟩; have HB7 := Lib.hid (HB5.out.trans (hb7.mono HB5.out.size)); clear hb7))
        go_ret
        exact ⟨rfl, HB7.out⟩
      | some v =>
        obtain ⟨o', e', t'⟩ := v
        have HV := Lib.hid (htV_some hv)
        obtain ⟨g1, g2, g3, g4⟩ := ht_one hv
        have HP2 := Lib.hid ((hpT_pos o' e' t').trans g1)
        have HO2 := Lib.hid (show I64 (o' : Int) by omega)
        have HE2 := Lib.hid (show I64 (e' : Int) by omega)
        have HT2 := Lib.hid g4
        clear hv g1 g2 g3 g4
        go_enter Try.func5, Try.ntmps5
        go_wp2_with (first
          | (go_at_call 6; (with_reducible refine (HA.out.put (p : Int) (q : Int) t _ HO.out HE.out HT.out).mono ?_); rw [HSZ.out.1, HSZ.out.2]; rintro y w1 ⟨rfl, hb1⟩; have HC1 := Lib.hid (HC.out.below hb1 HC.out.lt); have HB1 := Lib.hid (HB.out.trans (hb1.mono HB.out.size)); have c1 := HC1.out.three; clear hb1)
          | (go_at_call 8; (with_reducible refine (HA.out.take s 0 0 0 1 _ HSL.out HW.out).mono ?_); rintro y w2 ⟨rfl, hb2⟩; have HC2 := Lib.hid ((HC1.out.below hb2 HC1.out.lt).alloc (.cells #[.int .i64 0, .int .i64 0, .int .u64 0] 28)); have HC3 := Lib.hid (Cs.new w2 [.int .i64 0, .int .i64 0, .int .u64 0] 28); have HB2 := Lib.hid ((HB1.out.trans (hb2.mono HB1.out.size)).alloc (HB1.out.trans (hb2.mono HB1.out.size)).size (.cells #[.int .i64 0, .int .i64 0, .int .u64 0] 28)); have c2 := HC2.out.three; have c3 := HC3.out.three; clear hb2)
          | (go_at_call 8; (with_reducible refine (HA.out.take b o' e' t' 0 _ HBZ.out HV.out).mono ?_); rintro y w5 ⟨rfl, hb5⟩; have HC5 := Lib.hid (Cs.new w5 [.int .i64 ((o' : Nat) : Int), .int .i64 ((e' : Nat) : Int), .int .u64 ((t' : Nat) : Int)] 28); have HB5 := Lib.hid ((HB2.out.trans (hb5.mono HB2.out.size)).alloc (HB2.out.trans (hb5.mono HB2.out.size)).size (.cells #[.int .i64 ((o' : Nat) : Int), .int .i64 ((e' : Nat) : Int), .int .u64 ((t' : Nat) : Int)] 28)); have c5 := HC5.out.three; clear hb5)
          | (go_at_call 6; (with_reducible refine (HA.out.put (o' : Int) (e' : Int) t' _ HO2.out HE2.out HT2.out).mono ?_); rw [HP2.out, hpE_pos]; rintro y w6 ⟨rfl, hb6⟩; have HB6 := Lib.hid (HB5.out.trans (hb6.mono HB5.out.size)); clear hb6)
          | (go_at_call 10; refine (awake_any HA.out _).mono ?_; rintro y w7 ⟨rfl, hb7⟩; have HB7 := Lib.hid (HB6.out.trans (hb7.mono HB6.out.size)); clear hb7))
        go_ret
        exact ⟨rfl, HB7.out⟩
end
end Go.Proofs.Ytldjefnijkefcaa.He
