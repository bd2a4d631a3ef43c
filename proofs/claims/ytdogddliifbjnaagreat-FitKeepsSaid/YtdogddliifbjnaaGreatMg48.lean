/- fit: the walk of FitKeeps. -/
import Derived.WideShapes
import Derived.Test.YtdogddliifbjnaaGreatMg16
import Derived.Test.YtdogddliifbjnaaGreatMg33
import Derived.Test.YtdogddliifbjnaaGreatMg47
namespace Go.Proofs.YtdogddliifbjnaaGreat.Ck
open Go.RowKit Cm
open _root_.Go.Proofs.YtdogddliifbjnaaGreat.Nm
set_option linter.unusedVariables false
set_option linter.unusedSimpArgs false

/-- Two schemas, behind a world that stays as it was. -/
structure Kp (p : Option Addr) (L : Sc) (q : Option Addr) (M : Sc) (w0 w : World) : Prop where
  pq : Pq (own p q) p L q M w
  new : ∀ k, own p q k = true → w0.heap.size ≤ k
  be : Below w0.heap.size w0 w
section
variable {p q : Option Addr} {L M : Sc} {w0 w w' : World}
theorem Kp.step (h : Kp p L q M w0 w) (hp : Pq (own p q) p L q M w') (hb : Be (own p q) w w') : Kp p L q M w0 w' :=
  ⟨hp, h.new, h.be.trans (hb.below (fun k hk => by
    cases e : own p q k with
    | false => rfl
    | true => have := h.new k e; omega) h.be.size)⟩
theorem Kp.below (h : Kp p L q M w0 w) (hb : Below w.heap.size w w') : Kp p L q M w0 w' := h.step (h.pq.below hb) (Be.of hb)
theorem Kp.va {v : Va.Va} (h : Kp p L q M w0 w) (hv : Va.VaIn w0 v) : Va.VaIn (cut (own p q) w) v := va_sub hv (in_old h.new h.be)
theorem Kp.cs {b : Nat} {l : List Value} (h : Kp p L q M w0 w) (hc : Cs b l w0) : Cs b l w := hc.below h.be hc.lt
end
theorem gl_ret {b : Bool} {o : Option Addr} {n c : Nat} {D : Dl} {F : Nat → Fy} {M : Nat → Ml} (hb : grB D F n = b) (w : World) (h : Ax o n D F M w) :
    Calls Tryz.prog 4 #[.slice o n c] w fun e w' => e = .returned (.bool b) ∧ Below w.heap.size w w' := by
  subst hb; exact great_any o n c D F M w h
theorem gv_ret {b : Bool} {v : Va.Va} (hb : Va.grV v 0 = b) (w : World) (h : Va.VaIn w v) :
    Calls Tryz.prog 5 #[.agg #[.int .i64 v.k, .int .i64 v.n, .string v.s, .slice v.tb v.ts.length v.tc, .slice v.io v.is.length v.ic], .int .i64 0] w fun e w' => e = .returned (.bool b) ∧ Below w.heap.size w w' := by
  subst hb; exact Va.great_any _ v 0 w (Nat.lt_succ_self _) h (by omega)
theorem rw_len {e : TypeId} {s B n : Nat} {v : Value} {xs : List Value} {w : World} (h : Rw e s B v n xs w) : ∃ o c, v = .slice o n c := by
  obtain ⟨o, c, rfl, _⟩ := h.form
  exact ⟨o, c, rfl⟩
set_option maxRecDepth 100000 in
set_option maxHeartbeats 4000000 in
theorem keeps_walk (ol : Option Addr) (nl cl : Nat) (D : Dl) (F : Nat → Fy) (R : Nat → Ml) (om : Option Addr) (nm cm : Nat) (D2 : Dl) (F2 : Nat → Fy) (R2 : Nat → Ml) (s : ByteArray) (v : Va.Va) (w : World)
    (h1 : Ax ol nl D F R w) (h2 : Ax om nm D2 F2 R2 w) (hs : s.size ≤ 140737488355327) (hv : Va.VaIn w v) :
    Calls Tryz.prog 3 #[.slice ol nl cl, .slice om nm cm, .agg #[.string s, .int .i64 v.k, .int .i64 v.n, .string v.s, .slice v.tb v.ts.length v.tc, .slice v.io v.is.length v.ic]] w fun e w' => e = .returned (.bool true) ∧ Below w.heap.size w w' := by
  have HB0 := Lib.hid ((Below.refl w.heap.size w).alloc (Nat.le_refl _) (.cells #[.string s, .int .i64 v.k, .int .i64 v.n, .string v.s, .slice v.tb v.ts.length v.tc, .slice v.io v.is.length v.ic] 28))
  have HC0 := Lib.hid (Cs.new w [.string s, .int .i64 v.k, .int .i64 v.n, .string v.s, .slice v.tb v.ts.length v.tc, .slice v.io v.is.length v.ic] 28)
  have H1 := Lib.hid h1
  have H2 := Lib.hid h2
  have HV := Lib.hid hv
  clear h1 h2 hv
  cases b1 : grB D F nl with
  | true =>
    have G1 := Lib.hid b1
    clear b1
    go_enter Tryz.func3, Tryz.ntmps3
    go_wp2_with (first
      | (go_at_call 6; (with_reducible refine (fawake_any _).mono ?_); rintro e w2 ⟨rfl, hb2⟩; have HB2 := Lib.hid (HB1.out.trans (hb2.mono HB1.out.size)); clear hb2)
      | (go_at_call 4; (with_reducible refine (gl_ret G1.out _ (H1.out.below HB0.out (Nat.le_refl _))).mono ?_); rintro e w1 ⟨rfl, hb1⟩; have HB1 := Lib.hid (HB0.out.trans (hb1.mono HB0.out.size)); clear hb1))
    go_ret
    exact ⟨rfl, HB2.out⟩
  | false =>
    have G1 := Lib.hid b1
    clear b1
    cases b2 : grB D2 F2 nm with
    | true =>
      have G2 := Lib.hid b2
      clear b2
      go_enter Tryz.func3, Tryz.ntmps3
      go_wp2_with (first
        | (go_at_call 6; (with_reducible refine (fawake_any _).mono ?_); rintro e w3 ⟨rfl, hb3⟩; have HB3 := Lib.hid (HB2.out.trans (hb3.mono HB2.out.size)); clear hb3)
        | (go_at_call 4; (with_reducible refine (gl_ret G2.out _ (H2.out.below HB1.out (Nat.le_refl _))).mono ?_); rintro e w2 ⟨rfl, hb2⟩; have HB2 := Lib.hid (HB1.out.trans (hb2.mono HB1.out.size)); clear hb2)
        | (go_at_call 4; (with_reducible refine (gl_ret G1.out _ (H1.out.below HB0.out (Nat.le_refl _))).mono ?_); rintro e w1 ⟨rfl, hb1⟩; have HB1 := Lib.hid (HB0.out.trans (hb1.mono HB0.out.size)); clear hb1))
      go_ret
      exact ⟨rfl, HB3.out⟩
    | false =>
      have G2 := Lib.hid b2
      clear b2
      cases b3 : Va.grV v 0 with
      | true =>
        have G3 := Lib.hid b3
        clear b3
        go_enter Tryz.func3, Tryz.ntmps3
        go_wp2_with (first
          | (go_at_call 6; (with_reducible refine (fawake_any _).mono ?_); rintro e w4 ⟨rfl, hb4⟩; have HB4 := Lib.hid (HB3.out.trans (hb4.mono HB3.out.size)); clear hb4)
          | (go_at_call 5; (with_reducible refine (gv_ret G3.out _ (Va.va_below HV.out HB2.out (Nat.le_refl _))).mono ?_); rintro e w3 ⟨rfl, hb3⟩; have HB3 := Lib.hid (HB2.out.trans (hb3.mono HB2.out.size)); clear hb3)
          | (go_at_call 4; (with_reducible refine (gl_ret G2.out _ (H2.out.below HB1.out (Nat.le_refl _))).mono ?_); rintro e w2 ⟨rfl, hb2⟩; have HB2 := Lib.hid (HB1.out.trans (hb2.mono HB1.out.size)); have hC2 := HC1.out.below hb2 HC1.out.lt; have d1 := hC2.cell (i := 1) rfl; have d2 := hC2.cell (i := 2) rfl; have d3 := hC2.cell (i := 3) rfl; have d4 := hC2.cell (i := 4) rfl; have d5 := hC2.cell (i := 5) rfl; clear hb2 hC2)
          | (go_at_call 4; (with_reducible refine (gl_ret G1.out _ (H1.out.below HB0.out (Nat.le_refl _))).mono ?_); rintro e w1 ⟨rfl, hb1⟩; have HB1 := Lib.hid (HB0.out.trans (hb1.mono HB0.out.size)); have HC1 := Lib.hid (HC0.out.below hb1 HC0.out.lt); clear hb1))
        go_ret
        exact ⟨rfl, HB4.out⟩
      | false =>
        have G3 := Lib.hid b3
        clear b3
        have HNC := Lib.hid (Va.gr_small v 0 G3.out).1
        go_enter Tryz.func3, Tryz.ntmps3
        go_upto_region 6 with (first
          | (go_at_call 8; go_loud (refine (check_p (own p q) p L q M _ HK5.out.pq).mono ?_; rintro e w6 ⟨er, st, rfl, hck, hp6, hb6⟩; have HCK := Lib.hid hck; have HK6 := Lib.hid (HK5.out.step hp6 hb6); clear hck hp6 hb6))
          | (go_at_call 7; (with_reducible refine (made_any om nm cm D2 F2 R2 _ (H2.out.below HB4.out (Nat.le_refl _)) G2.out).mono ?_); go_loud (rintro e w5 ⟨q, M, ob, nb, cb, rfl, hm5, hb5, hn5, hi5⟩; have HK5 : Hid (Kp p L q M w3 w5) := Lib.hid ⟨(two_made HM4.out HM4b.out.size (Below.refl _ _) hm5 hb5).1, (two_made HM4.out HM4b.out.size (Below.refl _ _) hm5 hb5).2, HM4b.out.trans (hb5.mono HM4b.out.size)⟩; clear hm5 hb5 hn5 hi5))
          | (go_at_call 7; (with_reducible refine (made_any ol nl cl D F R _ (H1.out.below HB3.out (Nat.le_refl _)) G1.out).mono ?_); go_loud (rintro e w4 ⟨p, L, oa, na, ca, rfl, hm4, hb4, hn4, hi4⟩; have HM4 := Lib.hid hm4; have HM4b := Lib.hid hb4; have HB4 := Lib.hid (HB3.out.trans (hb4.mono HB3.out.size)); have HN4 := Lib.hid hn4; have HI4 := Lib.hid hi4; clear hm4 hb4 hn4 hi4))
          | (go_at_call 5; (with_reducible refine (gv_ret G3.out _ (Va.va_below HV.out HB2.out (Nat.le_refl _))).mono ?_); rintro e w3 ⟨rfl, hb3⟩; have HB3 := Lib.hid (HB2.out.trans (hb3.mono HB2.out.size)); have HC3 := Lib.hid (HC2.out.below hb3 HC2.out.lt); clear hb3)
          | (go_at_call 4; (with_reducible refine (gl_ret G2.out _ (H2.out.below HB1.out (Nat.le_refl _))).mono ?_); rintro e w2 ⟨rfl, hb2⟩; have HB2 := Lib.hid (HB1.out.trans (hb2.mono HB1.out.size)); have hC2 := HC1.out.below hb2 HC1.out.lt; have d1 := hC2.cell (i := 1) rfl; have d2 := hC2.cell (i := 2) rfl; have d3 := hC2.cell (i := 3) rfl; have d4 := hC2.cell (i := 4) rfl; have d5 := hC2.cell (i := 5) rfl; have HC2 := Lib.hid hC2; clear hb2 hC2)
          | (go_at_call 4; (with_reducible refine (gl_ret G1.out _ (H1.out.below HB0.out (Nat.le_refl _))).mono ?_); rintro e w1 ⟨rfl, hb1⟩; have HB1 := Lib.hid (HB0.out.trans (hb1.mono HB0.out.size)); have HC1 := Lib.hid (HC0.out.below hb1 HC0.out.lt); clear hb1))
        have HV3 := Lib.hid (Va.va_below HV.out HB3.out (Nat.le_refl _))
        by_cases he : er = 0
        · subst he
          have HTA := Lib.hid (HCK.out rfl)
          clear HCK
          have hC6 := HK6.out.cs HC3.out
          have e0 := hC6.cell (i := 0) rfl
          have e1 := hC6.cell (i := 1) rfl
          have e2 := hC6.cell (i := 2) rfl
          have e3 := hC6.cell (i := 3) rfl
          have e4 := hC6.cell (i := 4) rfl
          have e5 := hC6.cell (i := 5) rfl
          clear hC6
          by_cases hst : StP L s v
          · have HST := Lib.hid hst
            clear hst
            go_upto_region 9 with (go_at_call 9; go_loud (refine (struct_any (own p q) p L q M s v _ HK6.out.pq hs (HK6.out.va HV3.out) HNC.out).mono ?_; rintro e w7 ⟨er2, rfl, her, hp7, hb7⟩; obtain rfl : er2 = 0 := her.2 HST.out; have HK7 := Lib.hid (HK6.out.step hp7 hb7); clear her hp7 hb7))
            go_loopw [13] (fun i wr => ∃ j : Nat, j ≤ na ∧ i = .int .i64 (j : Nat) ∧ Hid (∀ k, k < j → ∀ r ∈ L.rows (L.S k), ∃ r' ∈ M.rows (L.S k), r'.1 = r.1) ∧ Hid (Kp p L q M w3 wr)) (fun i _ => na - (intOf i).toNat)
            case atStart => exact ⟨0, by omega, rfl, Lib.hid (fun k hk => by omega), HK7⟩
            case round =>
              obtain ⟨j, hj, rfl, HQ, HK⟩ := hrel
              clear HK7
              by_cases hjl : j < na
              · have hji : (j : Int) < (na : Int) := by omega
                obtain ⟨hoa, hjn, hS⟩ := HI4.out j hjl
                have HSJ := Lib.hid hS
                have HAx := Lib.hid (H1.out.below (HB3.out.trans (HK.out.be.mono HB3.out.size)) (Nat.le_refl _))
                rw [← hoa] at HAx
                have hns : (D.S j).size ≤ 140737488355327 := by obtain ⟨_, _, _, _, g, _⟩ := HAx.out.1.1 j hjn; exact g
                have hjb : j < 1759218604441 := by have := HAx.out.1.2; omega
                clear hS hoa
                obtain ⟨a, Ab, Ao, As, rfl, hA, hAb, c0, c1, c2, c3, c4⟩ := Dx.place HAx.out.1 hjn
                clear c0 c2 c3 c4 hjn
                go_upto_region 12 with (go_at_call 10; go_loud (refine (gone_p (own p q) p L q M (D.S j) _ HK.out.pq hns).mono ?_; rintro e wg ⟨vg, ng, xs, rfl, hrw, hz, hp, hb⟩; obtain ⟨og, cg, rfl⟩ := rw_len hrw; have HZ := Lib.hid hz; have HKg := Lib.hid (HK.out.step hp hb); clear hrw hz hp hb))
                · go_wp2_with (go_at_call 6; (with_reducible refine (fawake_any _).mono ?_); rintro e w9 ⟨rfl, hb9⟩; have HK9 := Lib.hid (HKg.out.below hb9); clear hb9)
                  go_ret
                  exact ⟨rfl, HB3.out.trans (HK9.out.be.mono HB3.out.size)⟩
                · rename_i hng
                  refine ⟨⟨j + 1, by omega, by go_num, Lib.hid (fun k hk => ?_), HKg⟩, by simp [intOf]; omega⟩
                  by_cases e : k = j
                  · subst e
                    rw [HSJ.out]
                    exact HZ.out (by omega)
                  · exact HQ.out k (by omega)
              · have hji : ¬ (j : Int) < (na : Int) := by omega
                obtain rfl : na = j := by omega
                have HT : Hid (Takes L M) := Lib.hid ⟨HTA.out, fun i hi => HQ.out i (by rw [HN4.out]; exact hi), pd_ok HK.out.pq.b⟩
                have HSM := Lib.hid (st_takes HT.out HST.out)
                have hC8 := HK.out.cs HC3.out
                have g0 := hC8.cell (i := 0) rfl
                have g1 := hC8.cell (i := 1) rfl
                have g2 := hC8.cell (i := 2) rfl
                have g3 := hC8.cell (i := 3) rfl
                have g4 := hC8.cell (i := 4) rfl
                have g5 := hC8.cell (i := 5) rfl
                have HPs : Hid (Pq (own p q) q M p L wr) := Lib.hid HK.out.pq.symm
                have HVr := Lib.hid (HK.out.va HV3.out)
                clear hC8
                go_wp2_with (first
                  | (go_at_call 6; (with_reducible refine (fawake_any _).mono ?_); rintro e w9 ⟨rfl, hb9⟩; have HK9 := Lib.hid (HK8.out.below hb9); clear hb9)
                  | (go_at_call 9; go_loud (refine (struct_any (own p q) q M p L s v _ HPs.out hs HVr.out HNC.out).mono ?_; rintro e w8 ⟨er3, rfl, her, hp8, hb8⟩; obtain rfl : er3 = 0 := her.2 HSM.out; rw [own_symm] at hb8; have HK8 := Lib.hid (HK.out.step hp8.symm hb8); clear her hp8 hb8)))
                go_ret
                exact ⟨rfl, HB3.out.trans (HK9.out.be.mono HB3.out.size)⟩
          · have HST := Lib.hid hst
            clear hst
            go_wp2_with (first
              | (go_at_call 6; (with_reducible refine (fawake_any _).mono ?_); rintro e w8 ⟨rfl, hb8⟩; have HK8 := Lib.hid (HK7.out.below hb8); clear hb8)
              | (go_at_call 9; go_loud (refine (struct_any (own p q) p L q M s v _ HK6.out.pq hs (HK6.out.va HV3.out) HNC.out).mono ?_; rintro e w7 ⟨er2, rfl, her, hp7, hb7⟩; have hq : (er2 != 0) = true := (by simpa using (fun h => HST.out (her.1 h))); have HK7 := Lib.hid (HK6.out.step hp7 hb7); clear her hp7 hb7)))
            go_ret
            exact ⟨rfl, HB3.out.trans (HK8.out.be.mono HB3.out.size)⟩
        · have hq : (er != 0) = true := by simpa using he
          clear he
          go_wp2_with (go_at_call 6; (with_reducible refine (fawake_any _).mono ?_); rintro e w8 ⟨rfl, hb8⟩; have HK8 := Lib.hid (HK6.out.below hb8); clear hb8)
          go_ret
          exact ⟨rfl, HB3.out.trans (HK8.out.be.mono HB3.out.size)⟩
end Go.Proofs.YtdogddliifbjnaaGreat.Ck
/- fit: the law FitKeeps with what the form says of what came in. -/
namespace Go.Proofs.YtdogddliifbjnaaGreat.Ck
open Go.RowKit Cm
open _root_.Go.Proofs.YtdogddliifbjnaaGreat.Nm
set_option linter.unusedVariables false
set_option linter.unusedSimpArgs false

theorem cellsAsk : Tryz.prog.cellsOf 28 = 6 := by kernel_rfl
theorem askFields : ∃ f0 f1 : Field, Tryz.prog.underlying 28 = some (.struct #[f0, f1]) ∧ f0.offset = 0 ∧ f1.offset = 1 ∧ f0.type = 9 ∧ f1.type = 26 :=
  ⟨_, _, Tryz.underlying28, rfl, rfl, rfl, rfl⟩
set_option maxRecDepth 100000 in
theorem ask_arg {H : Type} {enc : TypeId × Value → H} {W : World} {base : Nat} {v : Value} {d : DataW H} {ps : List MemPlace}
    (hval : Value.okWide Tryz.prog W .any base 28 v) (h : DataW.Trod enc Tryz.prog W 0 (fun _ => true) true 28 v d ps) (hsz : ∀ n ∈ d.weights Tryz.prog 28, n ≤ reachBytes) :
    ∃ (s : ByteArray) (x : Va.Va), v = .agg #[.string s, .int .i64 x.k, .int .i64 x.n, .string x.s, .slice x.tb x.ts.length x.tc, .slice x.io x.is.length x.ic] ∧ s.size ≤ 140737488355327 ∧ Va.VaIn W x := by
  obtain ⟨cs, rfl, hcs⟩ := Go.WideShapes.okWide_struct Tryz.underlying28 hval
  obtain ⟨fuel, hf⟩ := h
  have hf' : DataW.trod enc Tryz.prog W 0 (fun _ => true) true fuel 28 cs.toList = some (d, ps) := by simpa [Value.cells] using hf
  obtain ⟨f0, f1, hu, o0, o1, t0, t1⟩ := askFields
  obtain ⟨xs, m, _, hd, hl, hlen, hfs⟩ := DataW.trod_struct hu hf'
  rw [cellsAsk] at hl
  obtain ⟨l, hcl⟩ : ∃ l, l = cs.toList := ⟨_, rfl⟩
  rw [← hcl] at hl hfs
  match xs, hlen, l, hl with
  | [y0, y1], _, [u0, u1, u2, u3, u4, u5], _ =>
    have g0 := hfs 0 f0 rfl
    have g1 := hfs 1 f1 rfl
    simp [o0, t0, Va.cellsStr] at g0
    simp [o1, t1, Va.cellsVa] at g1
    obtain ⟨s, e0, d0, w0⟩ := DataW.trod_string Tryz.underlying9 g0
    simp only [List.cons.injEq, and_true] at e0
    subst e0
    obtain rfl : d = _ := congrArg Prod.fst hd
    have hz : ∀ n, n = s.data.toList.length ∨ n ∈ y1.1.weights Tryz.prog 26 → n ≤ reachBytes := fun n hn => hsz n (by
      simp only [DataW.weights, hu, List.map_cons, List.map_nil, DataW.weightsEach, t0, t1, d0, List.mem_append, List.mem_cons, List.not_mem_nil, or_false, false_or]
      exact hn)
    obtain ⟨x, hx, hin⟩ := Va.value_open (SizeOf.sizeOf y1.1 + 1) (Nat.lt_succ_self _) g1 (fun n hn => hz n (.inr hn))
    refine ⟨s, x, ?_, Cm.reach_str (hz _ (.inl rfl)), hin⟩
    have : cs = [Value.string s, u1, u2, u3, u4, u5].toArray := by rw [hcl]
    rw [this, hx]
    rfl
set_option maxRecDepth 100000 in
theorem keeps_end {H : Type} {enc : TypeId × Value → H} {W : World} {base : Nat} {v0 v1 v2 : Value} {d0 d1 d2 : DataW H} {ps0 ps1 ps2 : List MemPlace}
    (w0 : Value.okWide Tryz.prog W .any base 22 v0) (h0 : DataW.Trod enc Tryz.prog W 0 (fun _ => true) true 22 v0 d0 ps0) (s0 : ∀ n ∈ d0.weights Tryz.prog 22, n ≤ reachBytes)
    (w1 : Value.okWide Tryz.prog W .any base 22 v1) (h1 : DataW.Trod enc Tryz.prog W 0 (fun _ => true) true 22 v1 d1 ps1) (s1 : ∀ n ∈ d1.weights Tryz.prog 22, n ≤ reachBytes)
    (w2 : Value.okWide Tryz.prog W .any base 28 v2) (h2 : DataW.Trod enc Tryz.prog W 0 (fun _ => true) true 28 v2 d2 ps2) (s2 : ∀ n ∈ d2.weights Tryz.prog 28, n ≤ reachBytes) :
    Calls Tryz.prog 3 #[v0, v1, v2] W fun e w' => e = .returned (.bool true) ∧ Below W.heap.size W w' := by
  obtain ⟨ol, nl, cl, D, F, R, rfl, hx⟩ := decls_all w0 h0 s0
  obtain ⟨om, nm, cm, D2, F2, R2, rfl, hy⟩ := decls_all w1 h1 s1
  obtain ⟨s, x, rfl, hs, hv⟩ := ask_arg w2 h2 s2
  exact keeps_walk ol nl cl D F R om nm cm D2 F2 R2 s x W hx hy hs hv
end Go.Proofs.YtdogddliifbjnaaGreat.Ck
