/- Tags that were issued: the walk of the law MacSteps. (Written by gen/steps.py.) -/
import Derived.Test.YtcbicdmelokanaaMcState
import Derived.Deep.RegionHeld3
import Derived.Deep.Cut
import Derived.Deep.CutRange
namespace Go.Proofs.Ytcbicdmelokanaa.Mc
open Go.RowKit Cm Dc
set_option linter.unusedVariables false
set_option linter.unusedSimpArgs false

section
variable {Dd : Nat → List Nat → World → Prop} {Mt : Nat → (Nat → Nat) → (Nat → Nat) → World → Prop}
set_option maxRecDepth 100000 in
set_option maxHeartbeats 8000000 in
theorem steps_walk (hD : Dc.Api Dd) (hA : Api Dd Mt) (o : Option Addr) (len cap : Nat) (K O : Nat → Int) (N : Nat → Nat) (H : Nat → Bool) (w : World) (hs : Sx o len K O N H w) (hlen : len ≤ 140737488355327) :
    Calls Try.prog 3 #[.slice o len cap] w fun e w' => e = .returned (.bool true) ∧ Below w.heap.size w w' := by
  have HA := Lib.hid hA
  have HD := Lib.hid hD
  have HS := Lib.hid hs
  clear hA hD hs
  by_cases hg : 300 < len
  · have hgi : (300 : Int) < (len : Int) := by omega
    go_enter Try.func3, Try.ntmps3
    go_wp2_with (go_at_call 6; refine (awake_any HD.out HA.out _).mono ?_; rintro e w1 ⟨rfl, hb1⟩)
    go_ret
    exact ⟨rfl, hb1⟩
  have hgi : ¬ (300 : Int) < (len : Int) := by omega
  go_enter Try.func3, Try.ntmps3
  go_wp2_with (first
    | (go_at_call 7; refine (HA.out.new _).mono ?_; rintro e w1 ⟨B, rfl, hB, hb1, hm1⟩; have HM1 := Lib.hid hm1; have HB1 := Lib.hid hb1; have HBB := Lib.hid hB; clear hm1 hb1 hB)
    | (go_at_call 8; refine (HD.out.new _).mono ?_; rintro e w2 ⟨D, rfl, hD, hb2, hd2⟩; have HM2 := Lib.hid (HA.out.below HM1.out hb2); have HD2 := Lib.hid hd2; have HB2 := Lib.hid (HB1.out.trans (hb2.mono HB1.out.size)); have HDB := Lib.hid hD; clear hb2 hd2 hD))
  obtain ⟨b, hb⟩ : ∃ b, w2.heap.size = b := ⟨_, rfl⟩
  have HSL0 : Hid (∀ S, b ≤ S → Sl B D b S w) := Lib.hid (fun S hS => ⟨by have := HA.out.lt HM1.out; have := HDB.out; omega, by have := HA.out.lt HM2.out; omega, by have := HD.out.lt HD2.out; omega, HBB.out, Nat.le_trans HB1.out.size HDB.out, hS⟩)
  have HWB : Hid (∀ {wr : World} {v : Value} {L : List MRow}, Below w.heap.size w wr → b ≤ wr.heap.size → True) := Lib.hid (fun _ _ => trivial)
  have HLE : Hid (b ≤ w2.heap.size) := Lib.hid (by omega)
  clear hb HDB HBB HM1 HB1
  go_loopw [5, 6] (fun v i wr => ∃ j v' L E T, j ≤ len ∧ i = .int .i64 (j : Nat) ∧ v' = v ∧ Hid (Rs L E T) ∧ Hid (L.length ≤ j) ∧ Hid (Mt B E T wr) ∧ Hid (Dd D [] wr) ∧ Hid (Mr b v' L wr) ∧ Hid (Below w.heap.size w wr ∧ b ≤ wr.heap.size)) (fun v i _ => len - (intOf i).toNat)
  case atStart => exact ⟨0, _, [], _, _, by omega, rfl, rfl, Lib.hid rs_nil, Lib.hid (by simp), HM2, HD2, Lib.hid (Rw.nil _ _ _ _), Lib.hid ⟨HB2.out, HLE.out⟩⟩
  case round =>
    clear HM2 HD2 HB2 HLE
    obtain ⟨j, v, L, E, T, hj, rfl, rfl, HR, HL, HM, HX, HMR, HB⟩ := hrel
    have hsz := Lib.hid HB.out.1.size
    by_cases hjl : j < len
    · have hji : (j : Int) < (len : Int) := by omega
      obtain ⟨hO, hN, a, Ab, Ao, As, rfl, ha, hAb, s0, s1, s2, s3⟩ := HS.out j hjl
      obtain ⟨a0, cap0, rfl, -⟩ := Rw.form HMR.out
      obtain ⟨k, hk⟩ : ∃ k, K j = k := ⟨_, rfl⟩
      obtain ⟨ow, how⟩ : ∃ ow, O j = ow := ⟨_, rfl⟩
      obtain ⟨n, hn⟩ : ∃ n, N j = n := ⟨_, rfl⟩
      obtain ⟨h, hh⟩ : ∃ h, H j = h := ⟨_, rfl⟩
      rw [hk] at s0
      rw [how] at s1 hO
      rw [hn] at s2 hN
      rw [hh] at s3
      have k0 := (HB.out.1.cell (p := ⟨Ab, Ao, As⟩) hAb).trans s0
      have k1 := (HB.out.1.cell (p := ⟨Ab, Ao + 1, none⟩) hAb).trans s1
      have k2 := (HB.out.1.cell (p := ⟨Ab, Ao + 2, none⟩) hAb).trans s2
      have k3 := (HB.out.1.cell (p := ⟨Ab, Ao + 3, none⟩) hAb).trans s3
      have HSL := Lib.hid (HSL0.out wr.heap.size HB.out.2)
      obtain ⟨cs, hcs⟩ : ∃ cs : List Value, cs = [.int .i64 k, .int .i64 ow, .int .u64 (n : Int), .bool h] := ⟨_, rfl⟩
      have HCS := Lib.hid hcs
      have HP : Hid (Sp Dd Mt B D b wr.heap.size cs [] (.slice a0 L.length cap0) L E T w (wr.alloc (.cells #[.int .i64 k, .int .i64 ow, .int .u64 (n : Int), .bool h] 31))) := Lib.hid ⟨HA.out.below HM.out ((Below.refl wr.heap.size wr).alloc (Nat.le_refl _) _), HD.out.below HX.out ((Below.refl wr.heap.size wr).alloc (Nat.le_refl _) _), Rw.alloc HMR.out _, by rw [hcs]; exact Cs.new wr [.int .i64 k, .int .i64 ow, .int .u64 (n : Int), .bool h] 31, HB.out.1.alloc HB.out.1.size _⟩
      clear s0 s1 s2 s3 hk how hn hh hcs HM HX HMR
      go_upto_region 10 with fail
      clear k0 k1 k2 k3
      generalize (wr.alloc (.cells #[.int .i64 k, .int .i64 ow, .int .u64 (n : Int), .bool h] 31)) = wq at HP ⊢
      generalize wr.heap.size = S at HP HSL hsz ⊢
      have HO := Lib.hid hO
      have HN := Lib.hid hN
      have HC4 : Hid (∀ {w' : World} {X : List Nat} {v' : Value} {L' : List MRow} {E' T' : Nat → Nat}, Sp Dd Mt B D b S cs X v' L' E' T' w w' → w'.cell? ⟨S, 0, none⟩ = some (.int .i64 k) ∧ w'.cell? ⟨S, 1, none⟩ = some (.int .i64 ow) ∧ w'.cell? ⟨S, 2, none⟩ = some (.int .u64 (n : Int)) ∧ w'.cell? ⟨S, 3, none⟩ = some (.bool h)) := Lib.hid (fun hp => four (by have := hp.cs; rwa [HCS.out] at this))
      have p0 := HC4.out HP.out
      have HBS := Lib.hid HB.out.2
      clear hO hN HB
      go_cut [8] from 23 to 225 (fun m wx => m = .bool (decide (0 ≤ ow ∧ ow ≤ 8)) ∧ wx = wq)
      case first =>
        by_cases h1 : 0 ≤ ow
        · by_cases h2 : ow ≤ 8
          · go_wp2
            go_meet
            exact ⟨by rw [decide_eq_true (by omega)], rfl⟩
          · go_wp2
            go_meet
            exact ⟨by rw [decide_eq_false (by omega)], rfl⟩
        · go_wp2
          go_meet
          exact ⟨by rw [decide_eq_false (by omega)], rfl⟩
      case rest =>
        obtain ⟨rfl, rfl⟩ := hcut
        go_step
        go_step
        go_cut [5, 8, 9, 10, 11, 12, 13, 14, 15] from 23 to 225 (fun v _ _ _ _ _ _ _ _ wx => ∃ ax cx nx L' E' T', v = .slice ax nx cx ∧ Hid (L'.length = nx) ∧ Hid (Rs L' E' T') ∧ Hid (L'.length ≤ j + 1) ∧ Hid (Sp Dd Mt B D b S cs [] (.slice ax nx cx) L' E' T' w wx))
        case first =>
          by_cases hk1 : k = 1
          · subst hk1
            by_cases hin : 0 ≤ ow ∧ ow ≤ 8
            · obtain ⟨p, hp⟩ : ∃ p : Nat, (p : Int) = ow := ⟨ow.toNat, by omega⟩
              subst hp
              have hp8 : p ≤ 8 := by omega
              have HP8 := Lib.hid hp8
              have HEQ := Lib.hid (HR.out.ep p hp8)
              have f9 : decide (0 ≤ (p : Int) ∧ (p : Int) ≤ 8) = true := decide_eq_true hin
              rw [f9]
              clear hin hp8 f9
              cases h with
              | true =>
                as_aux_lemma =>
                  have HE3 := Lib.hid (show E p ≤ 300 by have h1 := ep_le L (p : Int); have h2 := HL.out; rw [HEQ.out]; omega)
                  have hln : L.length ≤ 300 := by have := HL.out; omega
                  obtain ⟨m1, hm1⟩ : ∃ m1, epN L p + 1 = m1 := ⟨_, rfl⟩
                  obtain ⟨x, hx⟩ : ∃ x, tagN n m1 p = x := ⟨_, rfl⟩
                  obtain ⟨E', hE'⟩ : ∃ E', upN E p m1 = E' := ⟨_, rfl⟩
                  obtain ⟨T', hT'⟩ : ∃ T', upN T p x = T' := ⟨_, rfl⟩
                  obtain ⟨L', hL'⟩ : ∃ L', isL L p n = L' := ⟨_, rfl⟩
                  have HM1 := Lib.hid hm1
                  have HM2 := Lib.hid (show E p + 1 = m1 by rw [HEQ.out]; exact hm1)
                  have HX := Lib.hid hx
                  have HE' := Lib.hid hE'
                  have HT' := Lib.hid hT'
                  have HL' := Lib.hid hL'
                  have HR' : Hid (Rs L' E' T') := Lib.hid (by
                    have := rs_issue HR.out p n HP8.out
                    rw [HM2.out, hx, hE', hT', hL'] at this; exact this)
                  have HN' : Hid (L'.length = L.length + 1) := Lib.hid (by rw [← hL', is_len])
                  have HLL : Hid (L'.length ≤ j + 1) := Lib.hid (by rw [HN'.out]; have := HL.out; omega)
                  have f0 : ((m1 : Int) != (m1 : Int)) = false := by simp
                  have f2 : ((x : Int) != (x : Int)) = false := by simp
                  clear hm1 hx hE' hT' hL'
                  go_wp2_with (first
                    | (go_at_call 9; refine (HD.out.put D [] n _ HP.out.dd HN.out).mono ?_; rintro e w3 ⟨rfl, ho, hd⟩; have HP3 : Hid (Sp Dd Mt B D b S cs [n] (.slice a0 L.length cap0) L E T w w3) := Lib.hid (HP.out.onlyD HA.out HSL.out ho hd); have p3 := HC4.out HP3.out; clear ho hd)
                    | (go_at_call 10; refine (HA.out.issue B D p E T n [] _ HP3.out.mt HP3.out.dd HSL.out.ne HP8.out HN.out (by have := HE3.out; omega)).mono ?_; rw [HM2.out, HX.out, HE'.out, HT'.out]; rintro e w4 ⟨rfl, ho, hm, hd⟩; have HP4 := Lib.hid (HP3.out.two HSL.out ho hm hd); have p4 := HC4.out HP4.out; clear ho hm hd)
                    | (go_at_call 12; refine (rissue_at b _ L p n _ HP4.out.mr (HP4.out.size HSL.out) (by have := HL.out; omega) HP8.out HN.out).mono ?_; rw [HM1.out, HX.out, HL'.out]; rintro e w5 ⟨g, cap5, rfl, h5, hb5, d0, d1, d2, d3⟩; have HP5 := Lib.hid ((HP4.out.rows HD.out HA.out HSL.out hb5 h5).alloc HD.out HA.out (.cells #[.int .i64 (p : Int), .int .i64 (m1 : Int), .int .u64 (x : Int), .bool true] 40)); have c6 := four (Cs.new w5 [.int .i64 (p : Int), .int .i64 (m1 : Int), .int .u64 (x : Int), .bool true] 40); clear h5 hb5))
                  go_meet
                  exact ⟨_, _, (L.length + 1), L', E', T', rfl, HN', HR', HLL, HP5⟩
              | false =>
                as_aux_lemma =>
                  go_wp2_with (go_at_call 10; refine (HA.out.issue0 B D p E T _ HP.out.mt HP.out.dd HSL.out.ne HP8.out).mono ?_; rintro e w4 ⟨rfl, ho, hm, hd⟩; have HP4 := Lib.hid (HP.out.two HSL.out ho hm hd); have p4 := HC4.out HP4.out; clear ho hm hd)
                  exact ⟨⟨j + 1, _, L, E, T, by omega, by go_num, rfl, HR, (Lib.hid (by have := HL.out; omega)), Lib.hid HP4.out.mt, Lib.hid HP4.out.dd, Lib.hid HP4.out.mr, Lib.hid ⟨HP4.out.below, HP4.out.size HSL.out⟩⟩, by simp [intOf]; omega⟩
            · have HIN := Lib.hid hin
              have f9 : decide (0 ≤ ow ∧ ow ≤ 8) = false := decide_eq_false hin
              rw [f9]
              clear hin f9
              cases h with
              | true =>
                as_aux_lemma =>
                  go_wp2_with (first
                    | (go_at_call 9; refine (HD.out.put D [] n _ HP.out.dd HN.out).mono ?_; rintro e w3 ⟨rfl, ho, hd⟩; have HP3 : Hid (Sp Dd Mt B D b S cs [n] (.slice a0 L.length cap0) L E T w w3) := Lib.hid (HP.out.onlyD HA.out HSL.out ho hd); have p3 := HC4.out HP3.out; clear ho hd)
                    | (go_at_call 10; refine (HA.out.issueX B D ow E T [n] _ HP3.out.mt HP3.out.dd HSL.out.ne HO.out HIN.out).mono ?_; rintro e w4 ⟨rfl, ho, hm, hd⟩; have HP4 := Lib.hid (HP3.out.two HSL.out ho hm hd); have p4 := HC4.out HP4.out; clear ho hm hd)
                    | (go_at_call 11; refine (HD.out.take1 D n [] _ HP4.out.dd).mono ?_; rintro e w5 ⟨rfl, ho, hd⟩; have HP5 := Lib.hid (HP4.out.onlyD HA.out HSL.out ho hd); clear ho hd))
                  exact ⟨⟨j + 1, _, L, E, T, by omega, by go_num, rfl, HR, (Lib.hid (by have := HL.out; omega)), Lib.hid HP5.out.mt, Lib.hid HP5.out.dd, Lib.hid HP5.out.mr, Lib.hid ⟨HP5.out.below, HP5.out.size HSL.out⟩⟩, by simp [intOf]; omega⟩
              | false =>
                as_aux_lemma =>
                  go_wp2_with (first
                    | (go_at_call 10; refine (HA.out.issueX B D ow E T [] _ HP.out.mt HP.out.dd HSL.out.ne HO.out HIN.out).mono ?_; rintro e w4 ⟨rfl, ho, hm, hd⟩; have HP4 := Lib.hid (HP.out.two HSL.out ho hm hd); have p4 := HC4.out HP4.out; clear ho hm hd)
                    | (go_at_call 11; refine (HD.out.take0 D _ HP4.out.dd).mono ?_; rintro e w5 ⟨rfl, ho, hd⟩; have HP5 := Lib.hid (HP4.out.onlyD HA.out HSL.out ho hd); clear ho hd))
                  exact ⟨⟨j + 1, _, L, E, T, by omega, by go_num, rfl, HR, (Lib.hid (by have := HL.out; omega)), Lib.hid HP5.out.mt, Lib.hid HP5.out.dd, Lib.hid HP5.out.mr, Lib.hid ⟨HP5.out.below, HP5.out.size HSL.out⟩⟩, by simp [intOf]; omega⟩
          · by_cases hk2 : k = 2
            · subst hk2
              by_cases hin : 0 ≤ ow ∧ ow ≤ 8
              · obtain ⟨p, hp⟩ : ∃ p : Nat, (p : Int) = ow := ⟨ow.toNat, by omega⟩
                subst hp
                have hp8 : p ≤ 8 := by omega
                have HP8 := Lib.hid hp8
                have HEQ := Lib.hid (HR.out.ep p hp8)
                have f9 : decide (0 ≤ (p : Int) ∧ (p : Int) ≤ 8) = true := decide_eq_true hin
                rw [f9]
                clear hin hp8 f9
                obtain ⟨L', hL'⟩ : ∃ L', rvL L p = L' := ⟨_, rfl⟩
                have HL' := Lib.hid hL'
                have HN' : Hid (L'.length = L.length) := Lib.hid (by rw [← hL', rv_len])
                have HLL : Hid (L'.length ≤ j + 1) := Lib.hid (by rw [HN'.out]; have := HL.out; omega)
                by_cases ht : T p = 0
                · as_aux_lemma =>
                    have HR' : Hid (Rs L' E T) := Lib.hid (by rw [← hL']; exact rs_revoke0 HR.out p HP8.out ht)
                    have HWA : Hid (waB L p = false) := Lib.hid (by rw [rs_was HR.out, decide_eq_false (fun e => e.2.2 (by rw [Int.toNat_natCast]; exact ht))])
                    have HT0 := Lib.hid ht
                    clear ht hL'
                    go_wp2_with (first
                      | (go_at_call 13; refine (HA.out.revoke0 B p E T _ HP.out.mt HP8.out HT0.out).mono ?_; rintro e w3 ⟨rfl, ho, hm⟩; have HP3 := Lib.hid (HP.out.onlyB HD.out HSL.out ho hm); have p3 := HC4.out HP3.out; clear ho hm)
                      | (go_at_call 14; refine (rrevoke_at b _ L p _ HP3.out.mr (by have := HL.out; omega)).mono ?_; rw [HWA.out, HL'.out]; rintro e w5 ⟨a5, cap5, rfl, h5, hb5⟩; have HP5 := Lib.hid (HP3.out.rows HD.out HA.out HSL.out hb5 h5); clear h5 hb5))
                    go_meet
                    exact ⟨_, _, L.length, L', E, T, rfl, HN', HR', HLL, HP5⟩
                · as_aux_lemma =>
                    obtain ⟨T', hT'⟩ : ∃ T', upN T p 0 = T' := ⟨_, rfl⟩
                    have HR' : Hid (Rs L' E T') := Lib.hid (by rw [← hL', ← hT']; exact rs_revoke HR.out p HP8.out)
                    have HWA : Hid (waB L p = true) := Lib.hid (by have := HP8.out; rw [rs_was HR.out, decide_eq_true ⟨by omega, by omega, by rw [Int.toNat_natCast]; exact ht⟩])
                    have HT0 := Lib.hid ht
                    have HT' := Lib.hid hT'
                    clear ht hL' hT'
                    go_wp2_with (first
                      | (go_at_call 13; refine (HA.out.revoke B p E T _ HP.out.mt HP8.out HT0.out).mono ?_; rw [HT'.out]; rintro e w3 ⟨rfl, ho, hm⟩; have HP3 := Lib.hid (HP.out.onlyB HD.out HSL.out ho hm); have p3 := HC4.out HP3.out; clear ho hm)
                      | (go_at_call 14; refine (rrevoke_at b _ L p _ HP3.out.mr (by have := HL.out; omega)).mono ?_; rw [HWA.out, HL'.out]; rintro e w5 ⟨a5, cap5, rfl, h5, hb5⟩; have HP5 := Lib.hid (HP3.out.rows HD.out HA.out HSL.out hb5 h5); clear h5 hb5))
                    go_meet
                    exact ⟨_, _, L.length, L', E, T', rfl, HN', HR', HLL, HP5⟩
              · have HIN := Lib.hid hin
                have f9 : decide (0 ≤ ow ∧ ow ≤ 8) = false := decide_eq_false hin
                rw [f9]
                clear hin f9
                obtain ⟨L', hL'⟩ : ∃ L', rvL L ow = L' := ⟨_, rfl⟩
                have HL' := Lib.hid hL'
                have HN' : Hid (L'.length = L.length) := Lib.hid (by rw [← hL', rv_len])
                have HLL : Hid (L'.length ≤ j + 1) := Lib.hid (by rw [HN'.out]; have := HL.out; omega)
                as_aux_lemma =>
                  have HR' : Hid (Rs L' E T) := Lib.hid (by rw [← hL', rv_none HR.out HIN.out]; exact HR.out)
                  have HWA : Hid (waB L ow = false) := Lib.hid (wa_none HR.out HIN.out)
                  clear hL'
                  go_wp2_with (first
                    | (go_at_call 13; refine (HA.out.revokeX B ow E T _ HP.out.mt HO.out HIN.out).mono ?_; rintro e w3 ⟨rfl, ho, hm⟩; have HP3 := Lib.hid (HP.out.onlyB HD.out HSL.out ho hm); have p3 := HC4.out HP3.out; clear ho hm)
                    | (go_at_call 14; refine (rrevoke_at b _ L ow _ HP3.out.mr (by have := HL.out; omega)).mono ?_; rw [HWA.out, HL'.out]; rintro e w5 ⟨a5, cap5, rfl, h5, hb5⟩; have HP5 := Lib.hid (HP3.out.rows HD.out HA.out HSL.out hb5 h5); clear h5 hb5))
                  go_meet
                  exact ⟨_, _, L.length, L', E, T, rfl, HN', HR', HLL, HP5⟩
            · as_aux_lemma =>
                obtain ⟨m, hm⟩ : ∃ m, epN L ow = m := ⟨_, rfl⟩
                obtain ⟨kb, hkb⟩ : ∃ kb, knL L ow m n = kb := ⟨_, rfl⟩
                have hm3 : I64 (m : Int) := by have h1 := ep_le L ow; have h2 := HL.out; omega
                have HM3 := Lib.hid hm3
                have HM := Lib.hid hm
                have HEV := Lib.hid (ep_of HR.out ow hm)
                have HK1 := Lib.hid hkb
                have HK2 := Lib.hid (Sp.kn HR.out ow m n hkb)
                have HLL : Hid (L.length ≤ j + 1) := Lib.hid (by have := HL.out; omega)
                have f0 : ((m : Int) != (m : Int)) = false := by simp
                have f1 : (kb != kb) = false := by simp
                have hT := And.intro p0.2.1 (And.intro p0.2.2.1 HP.out)
                have HMK : Hid (∀ {w' : World}, Sp Dd Mt B D b S cs [] (.slice a0 L.length cap0) L E T w w' → w'.cell? ⟨S, 1, none⟩ = some (.int .i64 ow) ∧ w'.cell? ⟨S, 2, none⟩ = some (.int .u64 (n : Int)) ∧ Sp Dd Mt B D b S cs [] (.slice a0 L.length cap0) L E T w w') := Lib.hid (fun hp => ⟨(HC4.out hp).2.1, (HC4.out hp).2.2.1, hp⟩)
                clear hm hkb hm3
                go_upto_region 12 with fail
                replace hT := HMK.out (hT.2.2.drew HD.out HA.out)
                clear p0 HP
                go_region_held3 (fun w' => w'.cell? ⟨S, 1, none⟩ = some (.int .i64 ow) ∧ w'.cell? ⟨S, 2, none⟩ = some (.int .u64 (n : Int)) ∧ Sp Dd Mt B D b S cs [] (.slice a0 L.length cap0) L E T w w')
                  (first | exact hT)
                  (first
                    | (go_at_call 15; (with_reducible refine (HA.out.epoch B ow E T _ hT.2.2.mt HO.out).mono ?_); rw [HEV.out]; rintro e w' ⟨rfl, ho, hm⟩; replace hT := HMK.out (hT.2.2.onlyB HD.out HSL.out ho hm); clear ho hm)
                    | (go_at_call 16; (with_reducible refine (repoch_any b _ L ow _ hT.2.2.mr (by have := HL.out; omega)).mono ?_); rw [HM.out]; rintro e w' ⟨rfl, rfl⟩)
                    | (go_at_call 17; (with_reducible refine (HA.out.knows B ow m n _ _ _ hT.2.2.mt HO.out HM3.out HN.out).mono ?_); rw [HK2.out]; rintro e w' ⟨rfl, ho, hm⟩; replace hT := HMK.out (hT.2.2.onlyB HD.out HSL.out ho hm); clear ho hm)
                    | (go_at_call 18; (with_reducible refine (rknows_any b _ L ow m n _ hT.2.2.mr (by have := HL.out; omega)).mono ?_); rw [HK1.out]; rintro e w' ⟨rfl, rfl⟩))
                have HP5 := Lib.hid hT.2.2
                clear hT
                go_wp2_with fail
                go_meet
                exact ⟨_, _, L.length, L, E, T, rfl, (Lib.hid rfl), HR, HLL, HP5⟩
        case rest =>
          obtain ⟨ax, cx, nx, L', E', T', rfl, HN', HR', HLL, HP6⟩ := hcut
          clear HP p0 HR HL
          as_aux_lemma =>
            go_wp2
            go_loopw [16] (fun k wq => ∃ q, q ≤ nx ∧ k = .int .i64 (q : Nat) ∧ Hid (Sp Dd Mt B D b S cs [] (.slice ax nx cx) L' E' T' w wq)) (fun k _ => nx - (intOf k).toNat)
            case atStart => exact ⟨0, by omega, rfl, HP6⟩
            case round =>
              clear HP6
              obtain ⟨q, hq, rfl, HQ⟩ := hrel
              have hl300 : L'.length ≤ 301 := by have := HLL.out; omega
              have HL3 := Lib.hid hl300
              have hnx : nx ≤ 301 := by rw [← HN'.out]; exact hl300
              by_cases hql : q < nx
              · have hqi : (q : Int) < ((nx : Nat) : Int) := by omega
                obtain ⟨r, hr⟩ : ∃ r, L'[q]? = some r := ⟨_, List.getElem?_eq_getElem (by rw [HN'.out]; exact hql)⟩
                obtain ⟨-, g', hg', -⟩ := HQ.out.mr.place hr
                subst hg'
                obtain ⟨kb, hkb⟩ : ∃ kb, knL L' r.o r.e r.t = kb := ⟨_, rfl⟩
                have hK := kx_of (HQ.out.drew HD.out HA.out) hr
                have hown := HR'.out.own r (List.mem_of_getElem? hr)
                have hlow := HR'.out.low r (List.mem_of_getElem? hr)
                rw [HR'.out.ep _ hown] at hlow
                have hTL := Lib.hid (HR'.out.tag r (List.mem_of_getElem? hr)).2
                have hOL := Lib.hid (show I64 (r.o : Int) by omega)
                have hEL := Lib.hid (show I64 (r.e : Int) by have := ep_le L' (r.o : Int); omega)
                have HK1 := Lib.hid hkb
                have HK2 := Lib.hid (Sp.kn HR'.out r.o r.e r.t hkb)
                have HRR := Lib.hid hr
                have f1 : (kb != kb) = false := by simp
                clear hr hkb HQ hl300 hown hlow
                go_upto_region 38 with fail
                go_region_held3 (fun w' => w'.cell? ⟨g', q * 4, none⟩ = some (.int .i64 (r.o : Int)) ∧ w'.cell? ⟨g', q * 4 + 1, none⟩ = some (.int .i64 (r.e : Int)) ∧ w'.cell? ⟨g', q * 4 + 2, none⟩ = some (.int .u64 (r.t : Int)) ∧ Sp Dd Mt B D b S cs [] (.slice (some ⟨g', 0, none⟩) nx cx) L' E' T' w w')
                  (first | exact hK)
                  (first
                    | (go_at_call 17; (with_reducible refine (HA.out.knows B r.o r.e r.t _ _ _ hK.2.2.2.mt hOL.out hEL.out hTL.out).mono ?_); rw [HK2.out]; rintro e w' ⟨rfl, ho, hm⟩; replace hK := kx_of (hK.2.2.2.onlyB HD.out HSL.out ho hm) HRR.out; clear ho hm)
                    | (go_at_call 18; (with_reducible refine (rknows_any b _ L' r.o r.e r.t _ hK.2.2.2.mr (by have := HL3.out; omega)).mono ?_); rw [HK1.out]; rintro e w' ⟨rfl, rfl⟩))
                go_wp2
                exact ⟨⟨q + 1, by omega, by go_num, Lib.hid hK.2.2.2⟩, by simp [intOf]; omega⟩
              · have hqi : ¬ (q : Int) < ((nx : Nat) : Int) := by omega
                go_wp2
                exact ⟨⟨j + 1, _, L', E', T', by omega, by go_num, rfl, HR', HLL, Lib.hid HQ.out.mt, Lib.hid HQ.out.dd, Lib.hid HQ.out.mr, Lib.hid ⟨HQ.out.below, HQ.out.size HSL.out⟩⟩, by simp [intOf]; omega⟩
    · have hji : ¬ (j : Int) < (len : Int) := by omega
      go_wp2_with (go_at_call 6; refine (awake_any HD.out HA.out _).mono ?_; rintro e w4 ⟨rfl, hb4⟩)
      go_ret
      exact ⟨rfl, HB.out.1.trans (hb4.mono hsz.out)⟩
end
end Go.Proofs.Ytcbicdmelokanaa.Mc
