/- Hellos: the walk of the law HelloVerifies. (Written by gen/verifies.py.) -/
import Derived.Test.YtldjefnijkefcaaHeTakes
import Derived.Test.YtldjefnijkefcaaMcFresh
import Derived.Laws.Bits64
namespace Go.Proofs.Ytldjefnijkefcaa.He
open Go.RowKit Cm Dc
set_option linter.unusedVariables false
set_option linter.unusedSimpArgs false

theorem xor_one (a : Nat) (ha : a < 18446744073709551616) : bits BinOp.xor IntKind.u64 (a : Int) 1 = ((a ^^^ 1 : Nat) : Int) := by
  show IntKind.u64.wrap ((BitVec.ofInt 64 (a : Int) ^^^ BitVec.ofInt 64 ((1 : Nat) : Int)).toNat : Int) = _
  rw [BitVec.toNat_xor, ofInt_u64 _ (by omega), ofInt_u64 _ (by omega), wrap_nat, Nat.mod_eq_of_lt (xor_lt ha (by omega))]
theorem xor_ne (a : Nat) : a ≠ a ^^^ 1 := fun h => by
  have h1 : a ^^^ a = a ^^^ (a ^^^ 1) := by rw [← h]
  rw [Nat.xor_self, ← Nat.xor_assoc, Nat.xor_self, Nat.zero_xor] at h1
  omega
theorem kn_out {E T : Nat → Nat} {o e t : Nat} (h : ¬ (o ≤ 8 ∧ t ≠ 0 ∧ E o = e ∧ T o = t)) : decide (0 ≤ (o : Int) ∧ (o : Int) ≤ 8 ∧ (t : Int) ≠ 0 ∧ (E (o : Int).toNat : Int) = (e : Int) ∧ (T (o : Int).toNat : Int) = (t : Int)) = false := by
  refine decide_eq_false fun ⟨_, h2, h3, h4, h5⟩ => h ?_
  rw [Int.toNat_natCast] at h4 h5
  omega
/-- Numbers that came in. -/
def Nx (o : Option Addr) (len : Nat) (M : Nat → Nat) (w : World) : Prop := ∀ i, i < len → M i < 18446744073709551616 ∧ ∃ a, o = some a ∧ a.block < w.heap.size ∧ w.cell? (a.add i) = some (.int .u64 (M i : Int))
/-- What was issued last. -/
structure Vs (j ow ep tg : Nat) (E T : Nat → Nat) : Prop where
  low : ow ≤ 8
  epj : ep ≤ j
  tgl : tg < 18446744073709551616
  he : E ow = ep
  ht : T ow = tg
  each : ∀ o, E o ≤ j
  pos : 0 < j → tg ≠ 0
  none : j = 0 → tg = 0
theorem vs_start : Vs 0 0 0 0 (fun _ => 0) (fun _ => 0) := ⟨by omega, by omega, by omega, rfl, rfl, fun _ => Nat.le_refl _, fun h => by omega, fun _ => rfl⟩
theorem vs_next {j ow ep tg : Nat} {E T : Nat → Nat} (h : Vs j ow ep tg E T) (p n : Nat) (hp : p ≤ 8) : Vs (j + 1) p (E p + 1) (Mc.tagN n (E p + 1) p) (Mc.upN E p (E p + 1)) (Mc.upN T p (Mc.tagN n (E p + 1) p)) := by
  refine ⟨hp, by have := h.each p; omega, Mc.tag_lt _ _ _, Mc.upN_same _ _ _, Mc.upN_same _ _ _, fun o => ?_, fun _ => Mc.tag_pos _ _ _, fun h => by omega⟩
  by_cases e : o = p
  · subst e; rw [Mc.upN_same]; have := h.each o; omega
  · rw [Mc.upN_other _ _ e]; have := h.each o; omega

section
variable {Dd : Nat → List Nat → World → Prop} {Mt : Nat → (Nat → Nat) → (Nat → Nat) → World → Prop}
set_option maxRecDepth 100000 in
set_option maxHeartbeats 8000000 in
theorem verifies_walk (hD : Dc.Api Dd) (hM : Mc.Api Dd Mt) (hA : Api Mt) (o : Option Addr) (len cap : Nat) (M : Nat → Nat) (b : ByteArray) (w : World) (hs : Nx o len M w) (hlen : len ≤ 140737488355327) (hb : b.size ≤ 140737488355327) :
    Calls Try.prog 4 #[.slice o len cap, .string b] w fun e w' => e = .returned (.bool true) ∧ Below w.heap.size w w' := by
  have HA := Lib.hid hA
  have HMA := Lib.hid hM
  have HD := Lib.hid hD
  have HS0 := Lib.hid hs
  have HBZ := Lib.hid hb
  clear hA hD hM hs hb
  by_cases hg : 60 < len
  · have hgi : (60 : Int) < (len : Int) := by omega
    go_enter Try.func4, Try.ntmps4
    go_wp2_with (go_at_call 10; refine (awake_any HA.out _).mono ?_; rintro e w1 ⟨rfl, hb1⟩)
    go_ret
    exact ⟨rfl, hb1⟩
  have hgi : ¬ (60 : Int) < (len : Int) := by omega
  go_enter Try.func4, Try.ntmps4
  go_wp2_with (first
    | (go_at_call 11; refine (HD.out.new _).mono ?_; rintro e w1 ⟨D, rfl, hD, hb1, hd1⟩; have HD1 := Lib.hid hd1; have HB1 := Lib.hid hb1; have HDB := Lib.hid hD; clear hd1 hb1 hD)
    | (go_at_call 12; refine (HMA.out.new _).mono ?_; rintro e w2 ⟨B, rfl, hB, hb2, hm2⟩; have HD2 := Lib.hid (HD.out.below HD1.out hb2); have HM2 := Lib.hid hm2; have HB2 := Lib.hid (HB1.out.trans (hb2.mono HB1.out.size)); have HBB := Lib.hid (Nat.le_trans HB1.out.size hB); have HNE0 := Lib.hid (show B ≠ D by have := HD.out.lt HD1.out; omega); clear hb2 hm2 hB))
  go_loopw [7, 8, 9, 10] (fun x y z i wr => ∃ j ow ep tg E T, j ≤ len ∧ i = .int .i64 (j : Nat) ∧ x = .int .i64 (ow : Nat) ∧ y = .int .i64 (ep : Nat) ∧ z = .int .u64 (tg : Nat) ∧ Hid (Vs j ow ep tg E T) ∧ Hid (Mt B E T wr) ∧ Hid (Dd D [] wr) ∧ Hid (Below w.heap.size w wr)) (fun _ _ _ i _ => len - (intOf i).toNat)
  case atStart => exact ⟨0, 0, 0, 0, _, _, by omega, rfl, rfl, rfl, rfl, Lib.hid vs_start, HM2, HD2, HB2⟩
  case round =>
    clear HD1 HB1 HM2 HD2 HB2
    obtain ⟨j, ow, ep, tg, E, T, hj, rfl, rfl, rfl, rfl, HVS0, HM, HDD, HB⟩ := hrel
    by_cases hjl : j < len
    · have hji : (j : Int) < (len : Int) := by omega
      obtain ⟨hn, a, rfl, hab, s0⟩ := HS0.out j hjl
      obtain ⟨n, hn2⟩ : ∃ n, M j = n := ⟨_, rfl⟩
      rw [hn2] at hn s0
      have HN := Lib.hid hn
      have c0 := (HB.out.cell (p := a.add j) (by rw [block_add]; exact hab)).trans s0
      have HS1 := Lib.hid s0
      have HAB := Lib.hid hab
      obtain ⟨p, hp⟩ : ∃ p, n % 9 = p := ⟨_, rfl⟩
      have hp8 : p ≤ 8 := by omega
      have f1 : (n : Int).tmod 9 = (p : Int) := by rw [Int.tmod_eq_emod_of_nonneg (by omega)]; omega
      have f1' : (n : Int) % 9 = (p : Int) := by omega
      have f2 : IntKind.u64.wrap (p : Int) = (p : Int) := by rw [IntKind.wrap_u64]; omega
      have f3 : IntKind.i64.wrap (p : Int) = (p : Int) := IntWalk.i64_in _ (by omega)
      obtain ⟨m1, hm1⟩ : ∃ m1, E p + 1 = m1 := ⟨_, rfl⟩
      obtain ⟨x, hx⟩ : ∃ x, Mc.tagN n m1 p = x := ⟨_, rfl⟩
      have HNX := Lib.hid (vs_next HVS0.out p n hp8)
      rw [hm1, hx] at HNX
      have HP8 := Lib.hid hp8
      have HM1 := Lib.hid hm1
      have HX := Lib.hid hx
      have HEP := Lib.hid (HVS0.out.each p)
      clear s0 hn hn2 hp hp8 hm1 hx
      go_wp2_with (first
        | (go_at_call 13; refine (HD.out.put D [] n _ HDD.out HN.out).mono ?_; rintro y w3 ⟨rfl, ho, hd⟩; have HD3 : Hid (Dd D [n] w3) := Lib.hid hd; have HM3 := Lib.hid (HMA.out.only HM.out ho HNE0.out); have hb3 := HB.out.trans (ho.below HDB.out HB.out.size); have HB3 := Lib.hid hb3; have c3 := (hb3.cell (p := a.add j) (by rw [block_add]; exact HAB.out)).trans HS1.out; clear hd ho hb3)
        | (go_at_call 14; refine (HMA.out.issue B D p E T n [] _ HM3.out HD3.out HNE0.out HP8.out HN.out (by have := HEP.out; omega)).mono ?_; rw [HM1.out, HX.out]; rintro y w4 ⟨rfl, ho, hm, hd⟩; have HM4 := Lib.hid hm; have HD4 := Lib.hid hd; have HB4 := Lib.hid (HB3.out.trans (ho.below HBB.out HDB.out HB3.out.size)); clear hm hd ho))
      exact ⟨⟨j + 1, p, m1, x, _, _, by omega, by go_num, rfl, rfl, rfl, HNX, HM4, HD4, HB4⟩, by simp [intOf]; omega⟩
    · have hji : ¬ (j : Int) < (len : Int) := by omega
      obtain rfl : j = len := by omega
      have hv1 := HVS0.out
      obtain ⟨tx, htx⟩ : ∃ tx, tg ^^^ 1 = tx := ⟨_, rfl⟩
      have hxl : tx < 18446744073709551616 := by rw [← htx]; exact xor_lt hv1.tgl (by omega)
      have hxb : bits BinOp.xor IntKind.u64 (tg : Int) 1 = (tx : Int) := by rw [xor_one tg hv1.tgl, htx]
      obtain ⟨s, hs⟩ : ∃ s, hpS ow ep tg = s := ⟨_, rfl⟩
      obtain ⟨q, hq⟩ : ∃ q, hpS ow ep tx = q := ⟨_, rfl⟩
      have HS := Lib.hid ((hpT_pos ow ep tg).trans hs)
      have HQ := Lib.hid ((hpT_pos ow ep tx).trans hq)
      have h60 : j ≤ 60 := by omega
      have ho8 := hv1.low
      have he60 := hv1.epj
      have HI4 := Lib.hid (show I64 (ow : Int) by omega)
      have HI5 := Lib.hid (show I64 (ep : Int) by omega)
      have HI6 := Lib.hid hv1.tgl
      have HI7 := Lib.hid hxl
      have HSL := Lib.hid (show s.size ≤ 140737488355327 by have := hp_room ow ep tg (by omega) (by omega) hv1.tgl; rw [hs] at this; omega)
      have HQL := Lib.hid (show q.size ≤ 140737488355327 by have := hp_room ow ep tx (by omega) (by omega) hxl; rw [hq] at this; omega)
      have hhs := ht_put ow ep tg (by omega) (by omega) hv1.tgl
      have hhq := ht_put ow ep tx (by omega) (by omega) hxl
      rw [hs] at hhs
      rw [hq] at hhq
      have HVQ := Lib.hid (show vfB E T q = none by
        unfold vfB
        rw [hhq]
        refine if_neg fun h => xor_ne tg ?_
        rw [htx, ← hv1.ht]; exact h.2.2.2)
      clear htx hxl hs hq hjl hhq
      by_cases hl : 0 < j
      · have hli : (0 : Int) < (j : Int) := by omega
        have HVS := Lib.hid (show vfB E T s = some ow by
          unfold vfB
          rw [hhs]
          exact if_pos ⟨hv1.low, hv1.pos hl, hv1.he, hv1.ht⟩)
        have hf1 : ((ow : Int) != (ow : Int)) = false := by simp
        clear hv1 hhs hl ho8 he60
        cases hv : htS b with
        | none =>
          have HV := Lib.hid (htV_none hv)
          have HVF := Lib.hid (show vfB E T b = none by unfold vfB; rw [hv])
          clear hv
          as_aux_lemma =>
            go_wp2_with (first
              | (go_at_call 9; (with_reducible refine (rtake_any b 0 0 0 1 _ HBZ.out HV.out).mono ?_); rintro y w3 ⟨rfl, hb3⟩; have HB3 := Lib.hid ((HB.out.trans (hb3.mono HB.out.size)).alloc (HB.out.trans (hb3.mono HB.out.size)).size (.cells #[.int .i64 0, .int .i64 0, .int .u64 0] 24)); have HM3 := Lib.hid (HMA.out.below (HMA.out.below HM.out hb3) ((Below.refl w3.heap.size w3).alloc (Nat.le_refl _) (.cells #[.int .i64 0, .int .i64 0, .int .u64 0] 24))); have HC3 := Lib.hid (Cs.new w3 [.int .i64 0, .int .i64 0, .int .u64 0] 24); have HNE := Lib.hid (show w3.heap.size ≠ B by have := HMA.out.lt (HMA.out.below HM.out hb3); omega); have c3 := HC3.out.three; clear hb3)
              | (go_at_call 15; (with_reducible refine (HA.out.verify0 B E T b _ HM3.out HBZ.out HVF.out).mono ?_); rintro y w4 ⟨rfl, ho, hm⟩; have HM4 := Lib.hid hm; have HB4 := Lib.hid (HB3.out.trans (ho.below HBB.out HB3.out.size)); have c4 := (HC3.out.only ho HNE.out).three; have HC4 := Lib.hid (HC3.out.only ho HNE.out); clear hm ho)
              | (go_at_call 7; (with_reducible refine (rput_any (ow : Int) (ep : Int) tg _ HI4.out HI5.out HI6.out).mono ?_); rw [HS.out, hpE_pos]; rintro y w6 ⟨rfl, hb6⟩; have HM6 := Lib.hid (HMA.out.below HM4.out hb6); have HB6 := Lib.hid (HB4.out.trans (hb6.mono HB4.out.size)); clear hb6)
              | (go_at_call 15; (with_reducible refine (HA.out.verify B E T s ow _ HM6.out HSL.out HVS.out).mono ?_); rintro y w7 ⟨rfl, ho, hm⟩; have HM7 := Lib.hid hm; have HB7 := Lib.hid (HB6.out.trans (ho.below HBB.out HB6.out.size)); clear hm ho)
              | (go_at_call 7; (with_reducible refine (rput_any (ow : Int) (ep : Int) tx _ HI4.out HI5.out HI7.out).mono ?_); rw [HQ.out, hpE_pos]; rintro y w8 ⟨rfl, hb8⟩; have HM8 := Lib.hid (HMA.out.below HM7.out hb8); have HB8 := Lib.hid (HB7.out.trans (hb8.mono HB7.out.size)); clear hb8)
              | (go_at_call 15; (with_reducible refine (HA.out.verify0 B E T q _ HM8.out HQL.out HVQ.out).mono ?_); rintro y w9 ⟨rfl, ho, hm⟩; have HB9 := Lib.hid (HB8.out.trans (ho.below HBB.out HB8.out.size)); clear hm ho)
              | (go_at_call 15; (with_reducible refine (HA.out.verifyN s _ HSL.out).mono ?_); rintro y w10 ⟨rfl, hb10⟩; have HB10 := Lib.hid (HB9.out.trans (hb10.mono HB9.out.size)); clear hb10)
              | (go_at_call 10; refine (awake_any HA.out _).mono ?_; rintro y w11 ⟨rfl, hb11⟩; have HB11 := Lib.hid (HB10.out.trans (hb11.mono HB10.out.size)); clear hb11))
            go_ret
            exact ⟨rfl, HB11.out⟩
        | some v =>
          obtain ⟨o', e', t'⟩ := v
          have HV := Lib.hid (htV_some hv)
          obtain ⟨-, g2, g3, g4⟩ := ht_one hv
          have HI1 := Lib.hid (show I64 (o' : Int) by omega)
          have HI2 := Lib.hid (show I64 (e' : Int) by omega)
          have HI3 := Lib.hid g4
          have hf0 : ((o' : Int) != (o' : Int)) = false := by simp
          by_cases hk : o' ≤ 8 ∧ t' ≠ 0 ∧ E o' = e' ∧ T o' = t'
          · have HVF := Lib.hid (show vfB E T b = some o' by unfold vfB; rw [hv]; exact if_pos hk)
            have HK := Lib.hid (Mc.kn_yes (E := E) (T := T) hk.1 hk.2.1 (congrArg _ hk.2.2.1) hk.2.2.2)
            clear hv g2 g3 g4 hk
            as_aux_lemma =>
              go_wp2_with (first
                | (go_at_call 9; (with_reducible refine (rtake_any b o' e' t' 0 _ HBZ.out HV.out).mono ?_); rintro y w3 ⟨rfl, hb3⟩; have HB3 := Lib.hid ((HB.out.trans (hb3.mono HB.out.size)).alloc (HB.out.trans (hb3.mono HB.out.size)).size (.cells #[.int .i64 (o' : Int), .int .i64 (e' : Int), .int .u64 (t' : Int)] 24)); have HM3 := Lib.hid (HMA.out.below (HMA.out.below HM.out hb3) ((Below.refl w3.heap.size w3).alloc (Nat.le_refl _) (.cells #[.int .i64 (o' : Int), .int .i64 (e' : Int), .int .u64 (t' : Int)] 24))); have HC3 := Lib.hid (Cs.new w3 [.int .i64 (o' : Int), .int .i64 (e' : Int), .int .u64 (t' : Int)] 24); have HNE := Lib.hid (show w3.heap.size ≠ B by have := HMA.out.lt (HMA.out.below HM.out hb3); omega); have c3 := HC3.out.three; clear hb3)
                | (go_at_call 15; (with_reducible refine (HA.out.verify B E T b o' _ HM3.out HBZ.out HVF.out).mono ?_); rintro y w4 ⟨rfl, ho, hm⟩; have HM4 := Lib.hid hm; have HB4 := Lib.hid (HB3.out.trans (ho.below HBB.out HB3.out.size)); have c4 := (HC3.out.only ho HNE.out).three; have HC4 := Lib.hid (HC3.out.only ho HNE.out); clear hm ho)
                | (go_at_call 16; (with_reducible refine (HMA.out.knows B o' e' t' E T _ HM4.out HI1.out HI2.out HI3.out).mono ?_); rw [HK.out]; rintro y w5 ⟨rfl, ho, hm⟩; have HM5 := Lib.hid hm; have HB5 := Lib.hid (HB4.out.trans (ho.below HBB.out HB4.out.size)); have c5 := (HC4.out.only ho HNE.out).three; clear hm ho)
                | (go_at_call 7; (with_reducible refine (rput_any (ow : Int) (ep : Int) tg _ HI4.out HI5.out HI6.out).mono ?_); rw [HS.out, hpE_pos]; rintro y w6 ⟨rfl, hb6⟩; have HM6 := Lib.hid (HMA.out.below HM5.out hb6); have HB6 := Lib.hid (HB5.out.trans (hb6.mono HB5.out.size)); clear hb6)
                | (go_at_call 15; (with_reducible refine (HA.out.verify B E T s ow _ HM6.out HSL.out HVS.out).mono ?_); rintro y w7 ⟨rfl, ho, hm⟩; have HM7 := Lib.hid hm; have HB7 := Lib.hid (HB6.out.trans (ho.below HBB.out HB6.out.size)); clear hm ho)
                | (go_at_call 7; (with_reducible refine (rput_any (ow : Int) (ep : Int) tx _ HI4.out HI5.out HI7.out).mono ?_); rw [HQ.out, hpE_pos]; rintro y w8 ⟨rfl, hb8⟩; have HM8 := Lib.hid (HMA.out.below HM7.out hb8); have HB8 := Lib.hid (HB7.out.trans (hb8.mono HB7.out.size)); clear hb8)
                | (go_at_call 15; (with_reducible refine (HA.out.verify0 B E T q _ HM8.out HQL.out HVQ.out).mono ?_); rintro y w9 ⟨rfl, ho, hm⟩; have HB9 := Lib.hid (HB8.out.trans (ho.below HBB.out HB8.out.size)); clear hm ho)
                | (go_at_call 15; (with_reducible refine (HA.out.verifyN s _ HSL.out).mono ?_); rintro y w10 ⟨rfl, hb10⟩; have HB10 := Lib.hid (HB9.out.trans (hb10.mono HB9.out.size)); clear hb10)
                | (go_at_call 10; refine (awake_any HA.out _).mono ?_; rintro y w11 ⟨rfl, hb11⟩; have HB11 := Lib.hid (HB10.out.trans (hb11.mono HB10.out.size)); clear hb11))
              go_ret
              exact ⟨rfl, HB11.out⟩
          · have HVF := Lib.hid (show vfB E T b = none by unfold vfB; rw [hv]; exact if_neg hk)
            have HK := Lib.hid (kn_out (E := E) (T := T) hk)
            clear hv g2 g3 g4 hk
            as_aux_lemma =>
              go_wp2_with (first
                | (go_at_call 9; (with_reducible refine (rtake_any b o' e' t' 0 _ HBZ.out HV.out).mono ?_); rintro y w3 ⟨rfl, hb3⟩; have HB3 := Lib.hid ((HB.out.trans (hb3.mono HB.out.size)).alloc (HB.out.trans (hb3.mono HB.out.size)).size (.cells #[.int .i64 (o' : Int), .int .i64 (e' : Int), .int .u64 (t' : Int)] 24)); have HM3 := Lib.hid (HMA.out.below (HMA.out.below HM.out hb3) ((Below.refl w3.heap.size w3).alloc (Nat.le_refl _) (.cells #[.int .i64 (o' : Int), .int .i64 (e' : Int), .int .u64 (t' : Int)] 24))); have HC3 := Lib.hid (Cs.new w3 [.int .i64 (o' : Int), .int .i64 (e' : Int), .int .u64 (t' : Int)] 24); have HNE := Lib.hid (show w3.heap.size ≠ B by have := HMA.out.lt (HMA.out.below HM.out hb3); omega); have c3 := HC3.out.three; clear hb3)
                | (go_at_call 15; (with_reducible refine (HA.out.verify0 B E T b _ HM3.out HBZ.out HVF.out).mono ?_); rintro y w4 ⟨rfl, ho, hm⟩; have HM4 := Lib.hid hm; have HB4 := Lib.hid (HB3.out.trans (ho.below HBB.out HB3.out.size)); have c4 := (HC3.out.only ho HNE.out).three; have HC4 := Lib.hid (HC3.out.only ho HNE.out); clear hm ho)
                | (go_at_call 16; (with_reducible refine (HMA.out.knows B o' e' t' E T _ HM4.out HI1.out HI2.out HI3.out).mono ?_); rw [HK.out]; rintro y w5 ⟨rfl, ho, hm⟩; have HM5 := Lib.hid hm; have HB5 := Lib.hid (HB4.out.trans (ho.below HBB.out HB4.out.size)); have c5 := (HC4.out.only ho HNE.out).three; clear hm ho)
                | (go_at_call 7; (with_reducible refine (rput_any (ow : Int) (ep : Int) tg _ HI4.out HI5.out HI6.out).mono ?_); rw [HS.out, hpE_pos]; rintro y w6 ⟨rfl, hb6⟩; have HM6 := Lib.hid (HMA.out.below HM5.out hb6); have HB6 := Lib.hid (HB5.out.trans (hb6.mono HB5.out.size)); clear hb6)
                | (go_at_call 15; (with_reducible refine (HA.out.verify B E T s ow _ HM6.out HSL.out HVS.out).mono ?_); rintro y w7 ⟨rfl, ho, hm⟩; have HM7 := Lib.hid hm; have HB7 := Lib.hid (HB6.out.trans (ho.below HBB.out HB6.out.size)); clear hm ho)
                | (go_at_call 7; (with_reducible refine (rput_any (ow : Int) (ep : Int) tx _ HI4.out HI5.out HI7.out).mono ?_); rw [HQ.out, hpE_pos]; rintro y w8 ⟨rfl, hb8⟩; have HM8 := Lib.hid (HMA.out.below HM7.out hb8); have HB8 := Lib.hid (HB7.out.trans (hb8.mono HB7.out.size)); clear hb8)
                | (go_at_call 15; (with_reducible refine (HA.out.verify0 B E T q _ HM8.out HQL.out HVQ.out).mono ?_); rintro y w9 ⟨rfl, ho, hm⟩; have HB9 := Lib.hid (HB8.out.trans (ho.below HBB.out HB8.out.size)); clear hm ho)
                | (go_at_call 15; (with_reducible refine (HA.out.verifyN s _ HSL.out).mono ?_); rintro y w10 ⟨rfl, hb10⟩; have HB10 := Lib.hid (HB9.out.trans (hb10.mono HB9.out.size)); clear hb10)
                | (go_at_call 10; refine (awake_any HA.out _).mono ?_; rintro y w11 ⟨rfl, hb11⟩; have HB11 := Lib.hid (HB10.out.trans (hb11.mono HB10.out.size)); clear hb11))
              go_ret
              exact ⟨rfl, HB11.out⟩
      · obtain rfl : j = 0 := by omega
        have HVS := Lib.hid (show vfB E T s = none by
          unfold vfB
          rw [hhs]
          exact if_neg fun h => h.2.1 (hv1.none rfl))
        clear hv1 hhs hl ho8 he60
        cases hv : htS b with
        | none =>
          have HV := Lib.hid (htV_none hv)
          have HVF := Lib.hid (show vfB E T b = none by unfold vfB; rw [hv])
          clear hv
          as_aux_lemma =>
            go_wp2_with (first
              | (go_at_call 9; (with_reducible refine (rtake_any b 0 0 0 1 _ HBZ.out HV.out).mono ?_); rintro y w3 ⟨rfl, hb3⟩; have HB3 := Lib.hid ((HB.out.trans (hb3.mono HB.out.size)).alloc (HB.out.trans (hb3.mono HB.out.size)).size (.cells #[.int .i64 0, .int .i64 0, .int .u64 0] 24)); have HM3 := Lib.hid (HMA.out.below (HMA.out.below HM.out hb3) ((Below.refl w3.heap.size w3).alloc (Nat.le_refl _) (.cells #[.int .i64 0, .int .i64 0, .int .u64 0] 24))); have HC3 := Lib.hid (Cs.new w3 [.int .i64 0, .int .i64 0, .int .u64 0] 24); have HNE := Lib.hid (show w3.heap.size ≠ B by have := HMA.out.lt (HMA.out.below HM.out hb3); omega); have c3 := HC3.out.three; clear hb3)
              | (go_at_call 15; (with_reducible refine (HA.out.verify0 B E T b _ HM3.out HBZ.out HVF.out).mono ?_); rintro y w4 ⟨rfl, ho, hm⟩; have HM4 := Lib.hid hm; have HB4 := Lib.hid (HB3.out.trans (ho.below HBB.out HB3.out.size)); have c4 := (HC3.out.only ho HNE.out).three; have HC4 := Lib.hid (HC3.out.only ho HNE.out); clear hm ho)
              | (go_at_call 7; (with_reducible refine (rput_any (ow : Int) (ep : Int) tg _ HI4.out HI5.out HI6.out).mono ?_); rw [HS.out, hpE_pos]; rintro y w6 ⟨rfl, hb6⟩; have HM6 := Lib.hid (HMA.out.below HM4.out hb6); have HB6 := Lib.hid (HB4.out.trans (hb6.mono HB4.out.size)); clear hb6)
              | (go_at_call 15; (with_reducible refine (HA.out.verify0 B E T s _ HM6.out HSL.out HVS.out).mono ?_); rintro y w7 ⟨rfl, ho, hm⟩; have HM7 := Lib.hid hm; have HB7 := Lib.hid (HB6.out.trans (ho.below HBB.out HB6.out.size)); clear hm ho)
              | (go_at_call 7; (with_reducible refine (rput_any (ow : Int) (ep : Int) tx _ HI4.out HI5.out HI7.out).mono ?_); rw [HQ.out, hpE_pos]; rintro y w8 ⟨rfl, hb8⟩; have HM8 := Lib.hid (HMA.out.below HM7.out hb8); have HB8 := Lib.hid (HB7.out.trans (hb8.mono HB7.out.size)); clear hb8)
              | (go_at_call 15; (with_reducible refine (HA.out.verify0 B E T q _ HM8.out HQL.out HVQ.out).mono ?_); rintro y w9 ⟨rfl, ho, hm⟩; have HB9 := Lib.hid (HB8.out.trans (ho.below HBB.out HB8.out.size)); clear hm ho)
              | (go_at_call 15; (with_reducible refine (HA.out.verifyN s _ HSL.out).mono ?_); rintro y w10 ⟨rfl, hb10⟩; have HB10 := Lib.hid (HB9.out.trans (hb10.mono HB9.out.size)); clear hb10)
              | (go_at_call 10; refine (awake_any HA.out _).mono ?_; rintro y w11 ⟨rfl, hb11⟩; have HB11 := Lib.hid (HB10.out.trans (hb11.mono HB10.out.size)); clear hb11))
            go_ret
            exact ⟨rfl, HB11.out⟩
        | some v =>
          obtain ⟨o', e', t'⟩ := v
          have HV := Lib.hid (htV_some hv)
          obtain ⟨-, g2, g3, g4⟩ := ht_one hv
          have HI1 := Lib.hid (show I64 (o' : Int) by omega)
          have HI2 := Lib.hid (show I64 (e' : Int) by omega)
          have HI3 := Lib.hid g4
          have hf0 : ((o' : Int) != (o' : Int)) = false := by simp
          by_cases hk : o' ≤ 8 ∧ t' ≠ 0 ∧ E o' = e' ∧ T o' = t'
          · have HVF := Lib.hid (show vfB E T b = some o' by unfold vfB; rw [hv]; exact if_pos hk)
            have HK := Lib.hid (Mc.kn_yes (E := E) (T := T) hk.1 hk.2.1 (congrArg _ hk.2.2.1) hk.2.2.2)
            clear hv g2 g3 g4 hk
            as_aux_lemma =>
              go_wp2_with (first
                | (go_at_call 9; (with_reducible refine (rtake_any b o' e' t' 0 _ HBZ.out HV.out).mono ?_); rintro y w3 ⟨rfl, hb3⟩; have HB3 := Lib.hid ((HB.out.trans (hb3.mono HB.out.size)).alloc (HB.out.trans (hb3.mono HB.out.size)).size (.cells #[.int .i64 (o' : Int), .int .i64 (e' : Int), .int .u64 (t' : Int)] 24)); have HM3 := Lib.hid (HMA.out.below (HMA.out.below HM.out hb3) ((Below.refl w3.heap.size w3).alloc (Nat.le_refl _) (.cells #[.int .i64 (o' : Int), .int .i64 (e' : Int), .int .u64 (t' : Int)] 24))); have HC3 := Lib.hid (Cs.new w3 [.int .i64 (o' : Int), .int .i64 (e' : Int), .int .u64 (t' : Int)] 24); have HNE := Lib.hid (show w3.heap.size ≠ B by have := HMA.out.lt (HMA.out.below HM.out hb3); omega); have c3 := HC3.out.three; clear hb3)
                | (go_at_call 15; (with_reducible refine (HA.out.verify B E T b o' _ HM3.out HBZ.out HVF.out).mono ?_); rintro y w4 ⟨rfl, ho, hm⟩; have HM4 := Lib.hid hm; have HB4 := Lib.hid (HB3.out.trans (ho.below HBB.out HB3.out.size)); have c4 := (HC3.out.only ho HNE.out).three; have HC4 := Lib.hid (HC3.out.only ho HNE.out); clear hm ho)
                | (go_at_call 16; (with_reducible refine (HMA.out.knows B o' e' t' E T _ HM4.out HI1.out HI2.out HI3.out).mono ?_); rw [HK.out]; rintro y w5 ⟨rfl, ho, hm⟩; have HM5 := Lib.hid hm; have HB5 := Lib.hid (HB4.out.trans (ho.below HBB.out HB4.out.size)); have c5 := (HC4.out.only ho HNE.out).three; clear hm ho)
                | (go_at_call 7; (with_reducible refine (rput_any (ow : Int) (ep : Int) tg _ HI4.out HI5.out HI6.out).mono ?_); rw [HS.out, hpE_pos]; rintro y w6 ⟨rfl, hb6⟩; have HM6 := Lib.hid (HMA.out.below HM5.out hb6); have HB6 := Lib.hid (HB5.out.trans (hb6.mono HB5.out.size)); clear hb6)
                | (go_at_call 15; (with_reducible refine (HA.out.verify0 B E T s _ HM6.out HSL.out HVS.out).mono ?_); rintro y w7 ⟨rfl, ho, hm⟩; have HM7 := Lib.hid hm; have HB7 := Lib.hid (HB6.out.trans (ho.below HBB.out HB6.out.size)); clear hm ho)
                | (go_at_call 7; (with_reducible refine (rput_any (ow : Int) (ep : Int) tx _ HI4.out HI5.out HI7.out).mono ?_); rw [HQ.out, hpE_pos]; rintro y w8 ⟨rfl, hb8⟩; have HM8 := Lib.hid (HMA.out.below HM7.out hb8); have HB8 := Lib.hid (HB7.out.trans (hb8.mono HB7.out.size)); clear hb8)
                | (go_at_call 15; (with_reducible refine (HA.out.verify0 B E T q _ HM8.out HQL.out HVQ.out).mono ?_); rintro y w9 ⟨rfl, ho, hm⟩; have HB9 := Lib.hid (HB8.out.trans (ho.below HBB.out HB8.out.size)); clear hm ho)
                | (go_at_call 15; (with_reducible refine (HA.out.verifyN s _ HSL.out).mono ?_); rintro y w10 ⟨rfl, hb10⟩; have HB10 := Lib.hid (HB9.out.trans (hb10.mono HB9.out.size)); clear hb10)
                | (go_at_call 10; refine (awake_any HA.out _).mono ?_; rintro y w11 ⟨rfl, hb11⟩; have HB11 := Lib.hid (HB10.out.trans (hb11.mono HB10.out.size)); clear hb11))
              go_ret
              exact ⟨rfl, HB11.out⟩
          · have HVF := Lib.hid (show vfB E T b = none by unfold vfB; rw [hv]; exact if_neg hk)
            have HK := Lib.hid (kn_out (E := E) (T := T) hk)
            clear hv g2 g3 g4 hk
            as_aux_lemma =>
              go_wp2_with (first
                | (go_at_call 9; (with_reducible refine (rtake_any b o' e' t' 0 _ HBZ.out HV.out).mono ?_); rintro y w3 ⟨rfl, hb3⟩; have HB3 := Lib.hid ((HB.out.trans (hb3.mono HB.out.size)).alloc (HB.out.trans (hb3.mono HB.out.size)).size (.cells #[.int .i64 (o' : Int), .int .i64 (e' : Int), .int .u64 (t' : Int)] 24)); have HM3 := Lib.hid (HMA.out.below (HMA.out.below HM.out hb3) ((Below.refl w3.heap.size w3).alloc (Nat.le_refl _) (.cells #[.int .i64 (o' : Int), .int .i64 (e' : Int), .int .u64 (t' : Int)] 24))); have HC3 := Lib.hid (Cs.new w3 [.int .i64 (o' : Int), .int .i64 (e' : Int), .int .u64 (t' : Int)] 24); have HNE := Lib.hid (show w3.heap.size ≠ B by have := HMA.out.lt (HMA.out.below HM.out hb3); omega); have c3 := HC3.out.three; clear hb3)
                | (go_at_call 15; (with_reducible refine (HA.out.verify0 B E T b _ HM3.out HBZ.out HVF.out).mono ?_); rintro y w4 ⟨rfl, ho, hm⟩; have HM4 := Lib.hid hm; have HB4 := Lib.hid (HB3.out.trans (ho.below HBB.out HB3.out.size)); have c4 := (HC3.out.only ho HNE.out).three; have HC4 := Lib.hid (HC3.out.only ho HNE.out); clear hm ho)
                | (go_at_call 16; (with_reducible refine (HMA.out.knows B o' e' t' E T _ HM4.out HI1.out HI2.out HI3.out).mono ?_); rw [HK.out]; rintro y w5 ⟨rfl, ho, hm⟩; have HM5 := Lib.hid hm; have HB5 := Lib.hid (HB4.out.trans (ho.below HBB.out HB4.out.size)); have c5 := (HC4.out.only ho HNE.out).three; clear hm ho)
                | (go_at_call 7; (with_reducible refine (rput_any (ow : Int) (ep : Int) tg _ HI4.out HI5.out HI6.out).mono ?_); rw [HS.out, hpE_pos]; rintro y w6 ⟨rfl, hb6⟩; have HM6 := Lib.hid (HMA.out.below HM5.out hb6); have HB6 := Lib.hid (HB5.out.trans (hb6.mono HB5.out.size)); clear hb6)
                | (go_at_call 15; (with_reducible refine (HA.out.verify0 B E T s _ HM6.out HSL.out HVS.out).mono ?_); rintro y w7 ⟨rfl, ho, hm⟩; have HM7 := Lib.hid hm; have HB7 := Lib.hid (HB6.out.trans (ho.below HBB.out HB6.out.size)); clear hm ho)
                | (go_at_call 7; (with_reducible refine (rput_any (ow : Int) (ep : Int) tx _ HI4.out HI5.out HI7.out).mono ?_); rw [HQ.out, hpE_pos]; rintro y w8 ⟨rfl, hb8⟩; have HM8 := Lib.hid (HMA.out.below HM7.out hb8); have HB8 := Lib.hid (HB7.out.trans (hb8.mono HB7.out.size)); clear hb8)
                | (go_at_call 15; (with_reducible refine (HA.out.verify0 B E T q _ HM8.out HQL.out HVQ.out).mono ?_); rintro y w9 ⟨rfl, ho, hm⟩; have HB9 := Lib.hid (HB8.out.trans (ho.below HBB.out HB8.out.size)); clear hm ho)
                | (go_at_call 15; (with_reducible refine (HA.out.verifyN s _ HSL.out).mono ?_); rintro y w10 ⟨rfl, hb10⟩; have HB10 := Lib.hid (HB9.out.trans (hb10.mono HB9.out.size)); clear hb10)
                | (go_at_call 10; refine (awake_any HA.out _).mono ?_; rintro y w11 ⟨rfl, hb11⟩; have HB11 := Lib.hid (HB10.out.trans (hb11.mono HB10.out.size)); clear hb11))
              go_ret
              exact ⟨rfl, HB11.out⟩
end
end Go.Proofs.Ytldjefnijkefcaa.He
