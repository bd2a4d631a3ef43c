/- fit: the items of a struct or union. -/
import Derived.RegionTactic
import Derived.Test.YtdogddliifbjnaaGreatMg30
namespace Go.Proofs.YtdogddliifbjnaaGreat.Ck
open Go.RowKit Cm
open _root_.Go.Proofs.YtdogddliifbjnaaGreat.Nm
set_option linter.unusedVariables false
set_option linter.unusedSimpArgs false
/-- Every question answers, of values that are okv, what fitC says. -/
def AskN (n : Nat) (okv : Va.Va → Prop) (F : Nat → Bool) (p : Option Addr) (L : Sc) (q : Option Addr) (M : Sc) (C : Nat) : Prop :=
  ∀ (Z : Ty) (x : Value), Th 21 Z.sp → OfV L p C Z x → ∃ (f : Nat) (first : Array Value), x = .func (.func f) first #[] ∧ (∀ (args : Array Value) (w : World), (callFunc f args).run Tryz.prog w = .ok (.enter f args) w) ∧ ∀ (v : Va.Va) (w : World), okv v → Ak F p L q M C w → TyIn (cut F w) Z → Va.VaIn (cut F w) v →
    Calls Tryz.prog f (first.push (.agg #[.int .i64 v.k, .int .i64 v.n, .string v.s, .slice v.tb v.ts.length v.tc, .slice v.io v.is.length v.ic])) w (fun e w' => AnP (fitC L n Z.sp v) F p L q M C w e w')
theorem Ak.nodup {F : Nat → Bool} {p q : Option Addr} {L M : Sc} {C : Nat} {w : World} (h : Ak F p L q M C w) (s : ByteArray) : ((L.rows s).map Prod.fst).Nodup := by
  rcases h.pq.a with ⟨_, h0⟩ | ⟨B, _, hd⟩
  · rw [rows_zero h0]; simp
  · exact rows_nodup hd.2.2.1 s
theorem va_room' {w : World} {v : Va.Va} (h : Va.VaIn w v) : v.ts.length ≤ 140737488355327 := by cases v; exact (Va.va_room h).2.2.2.1
theorem va_tags' {w : World} {v : Va.Va} (h : Va.VaIn w v) : In v.tb v.ts w := by cases v; exact Va.va_tags h
theorem va_item' {w : World} {v x : Va.Va} {i : Nat} (h : Va.VaIn w v) (hi : v.is[i]? = some x) : ∃ a Ab Ao As, v.io = some a ∧ a.add (i * 5) = ⟨Ab, Ao, As⟩ ∧ Ab < w.heap.size ∧ w.cell? ⟨Ab, Ao, As⟩ = some (.int .i64 x.k) ∧ w.cell? ⟨Ab, Ao + 1, none⟩ = some (.int .i64 x.n) ∧ w.cell? ⟨Ab, Ao + 2, none⟩ = some (.string x.s) ∧
    w.cell? ⟨Ab, Ao + 3, none⟩ = some (.slice x.tb x.ts.length x.tc) ∧ w.cell? ⟨Ab, Ao + 4, none⟩ = some (.slice x.io x.is.length x.ic) ∧ Va.VaIn w x := by
  cases v; exact Va.va_place h hi
def ItK (P : Sp → Va.Va → Prop) (rows : List (Int × Sp)) (v : Va.Va) (k : Nat) : Prop := ∀ (t : Int) (x : Va.Va), v.ts[k]? = some t → v.is[k]? = some x → ∃ r ∈ rows, r.1 = t ∧ P r.2 x
theorem itk_all {P : Sp → Va.Va → Prop} {rows : List (Int × Sp)} {v : Va.Va} (hl : v.ts.length = v.is.length) (h : ∀ k, k < v.ts.length → ItK P rows v k) : ItemsP P rows v := fun k t x ht hx => h k (List.getElem?_eq_some_iff.1 ht).1 t x ht hx
set_option maxRecDepth 100000 in
set_option maxHeartbeats 4000000 in
theorem ditems_any (n : Nat) (okv : Va.Va → Prop) (F : Nat → Bool) (p : Option Addr) (L : Sc) (q : Option Addr) (M : Sc) (C : Nat) (HI : AskN n okv F p L q M C) (s : ByteArray) (v : Va.Va) (w : World) (h : Ak F p L q M C w) (hs : s.size ≤ 140737488355327) (hk : L.kd s ≠ 0)
    (hv : Va.VaIn (cut F w) v) (hok : ∀ u, u ∈ v.is → okv u) (hlen : v.ts.length = v.is.length) :
    Calls Tryz.prog 98 #[.agg #[.pointer p, .map (some C), .string s], .agg #[.int .i64 v.k, .int .i64 v.n, .string v.s, .slice v.tb v.ts.length v.tc, .slice v.io v.is.length v.ic]] w (fun e w' => AnP (ItemsP (fitN L (n + 1)) (L.rows s) v) F p L q M C w e w') := by
  have hB1 := ((Below.refl w.heap.size w).alloc (Nat.le_refl _) (.cells #[.pointer p, .map (some C), .string s] 145)).alloc (by simp) (.cells #[.int .i64 v.k, .int .i64 v.n, .string v.s, .slice v.tb v.ts.length v.tc, .slice v.io v.is.length v.ic] 26)
  have hC := (Cs.new w [.pointer p, .map (some C), .string s] 145).alloc (.cells #[.int .i64 v.k, .int .i64 v.n, .string v.s, .slice v.tb v.ts.length v.tc, .slice v.io v.is.length v.ic] 26)
  have hD := Cs.new (w.alloc (.cells #[.pointer p, .map (some C), .string s] 145)) [.int .i64 v.k, .int .i64 v.n, .string v.s, .slice v.tb v.ts.length v.tc, .slice v.io v.is.length v.ic] 26
  rw [show (w.alloc (.cells #[.pointer p, .map (some C), .string s] 145)).heap.size = w.heap.size + 1 by simp] at hD
  have c0 := hC.cell (i := 0) rfl
  have c1 := hC.cell (i := 1) rfl
  have c2 := hC.cell (i := 2) rfl
  have HC := Lib.hid hC
  have HD := Lib.hid hD
  have HA0 := Lib.hid h
  have HA1 := Lib.hid (h.below hB1)
  have HB1 := Lib.hid hB1
  have HKD := Lib.hid hk
  have HV := Lib.hid hv
  have hvl := va_room' hv
  have HOK := Lib.hid hok
  have HLEN := Lib.hid hlen
  have HNW : Hid (∀ k, w.heap.size ≤ k → Tn p q C k = false) := Lib.hid (fun k hk => by
    unfold Tn Ck.add
    rw [Bool.or_eq_false_iff, decide_eq_false_iff_not]
    exact ⟨h.pq.new hk, fun e => by obtain ⟨N, G, m1, _⟩ := h.mp; have := m1.lt; omega⟩)
  have hnot : ∀ (x : Bool) (w : World), (Op.unary .not (.bool x)).run Tryz.prog w = .ok (.bool (!x)) w := fun _ _ => rfl
  have hmf : ∀ (fn : Fn) (first cap : Array Value) (w : World), (Instr.makeFunc fn first cap).run Tryz.prog w = .ok (.func fn first cap) w := fun _ _ _ _ => rfl
  have HII := Lib.hid HI
  clear h hB1 hC hD hk hv hok hlen HI
  go_enter Tryz.func98, Tryz.ntmps98
  go_wp2_with (go_at_call 113; go_loud (refine (rowsof_any F p L q M C s _ HA1.out hs HKD.out).mono ?_; rintro e w2 ⟨o, m, c, U, rfl, hf2, hr2, ha2, hb2⟩; have hm := hf2.2.1; have HF2 := Lib.hid hf2; have HR := Lib.hid hr2; have HA2 := Lib.hid ha2; have hC2 := HC.out.be hb2 (HNW.out _ (Nat.le_refl _)); have hD2 := HD.out.be hb2 (HNW.out _ (Nat.le_succ _)); have d3 := hD2.cell (i := 3) rfl; have HC2 := Lib.hid hC2; have HD2 := Lib.hid hD2; have HB2 := Lib.hid ((Be.of (F := Tn p q C) HB1.out).trans hb2); clear hf2 hr2 ha2 hb2 hC2 hD2))
  go_loopw [19] (fun i wr => ∃ j, j ≤ v.ts.length ∧ i = .int .i64 (j : Nat) ∧ Hid (∀ k, k < j → ItK (fitN L (n + 1)) (L.rows s) v k) ∧ Hid (Ak F p L q M C wr) ∧ Hid (Be (Tn p q C) w wr) ∧ Hid (Fls o m U (cut F wr)) ∧ Hid (Cs w.heap.size [.pointer p, .map (some C), .string s] wr) ∧ Hid (Cs (w.heap.size + 1) [.int .i64 v.k, .int .i64 v.n, .string v.s, .slice v.tb v.ts.length v.tc, .slice v.io v.is.length v.ic] wr)) (fun i _ => v.ts.length - (intOf i).toNat)
  case atStart => exact ⟨0, by omega, rfl, Lib.hid (fun i hi => by omega), HA2, HB2, HF2, HC2, HD2⟩
  case round =>
    obtain ⟨j, hj, rfl, HQ, HA, HB, HF, HC3, HD3⟩ := hrel
    clear HA2 HB2 HF2 HC2 HD2
    by_cases hjl : j < v.ts.length
    · have hji : (j : Int) < (v.ts.length : Int) := by omega
      have HVr := Lib.hid (Va.va_below HV.out (HA0.out.wide HB.out) (by rw [cut_size]; exact Nat.le_refl _))
      obtain ⟨ta, hta, htl, t0⟩ := in_at (in_sub (va_tags' HVr.out) (cut_all F wr)) hjl
      obtain ⟨x, hx⟩ : ∃ x, v.is[j]? = some x := ⟨_, List.getElem?_eq_getElem (by rw [← HLEN.out]; exact hjl)⟩
      have HX := Lib.hid hx
      have HTJ : Hid (v.ts[j]? = some (v.ts.getD j 0)) := Lib.hid (by rw [List.getD_eq_getElem?_getD, List.getElem?_eq_getElem hjl]; rfl)
      clear hx
      generalize htg : v.ts.getD j 0 = t at t0 HTJ
      clear htg
      go_upto_region 6 with (go_at_call 37; go_loud (refine (itmsearch_any o m c U t _ (HF.out.sub (cut_all F wr)) (rows_rise' HR.out)).mono ?_; rintro e w4 ⟨i, b, rfl, hbt, hbf, hb4⟩; have HBT := Lib.hid hbt; have HBF := Lib.hid hbf; have HA4 := Lib.hid (HA.out.below hb4); have HB4 := Lib.hid (HB.out.after hb4); have HF4 := Lib.hid (HF.out.sub (Sub.of_below (by rw [cut_size]; exact cut_below hb4))); have HC4 := Lib.hid (HC3.out.below hb4 HC3.out.lt); have HD4 := Lib.hid (HD3.out.below hb4 HD3.out.lt); clear hbt hbf hb4))
      cases b with
      | false =>
        have HNO := Lib.hid (HBF.out rfl)
        clear HBT HBF
        go_wp2
        go_ret
        exact ⟨9, rfl, ⟨fun h => by omega, fun h => by
          obtain ⟨r, hr, he, _⟩ := h j t x HTJ.out HX.out
          rw [← HR.out] at hr
          obtain ⟨k, hk, rfl⟩ := List.mem_map.1 hr
          exact absurd he (HNO.out k (List.mem_range.1 hk))⟩, HA4.out, HB4.out⟩
      | true =>
        obtain ⟨him, hiT⟩ := HBT.out rfl
        have HIT := Lib.hid hiT
        clear HBT HBF hiT
        go_upto_region 8 with (fail)
        obtain ⟨a, Ab, Ao, As, rfl, hA, hAb, r0, r1, r2, r3, r4⟩ := ex_five (v0 := .int .i64 (U i).T) (v1 := .string (U i).N) (v2 := .int .i64 (U i).Y.k) (v3 := .string (U i).Y.n) (v4 := .slice (U i).Y.o (U i).Y.of.length (U i).Y.c) HF4.out.1 him rfl
        have HV4 := Lib.hid (Va.va_below HV.out (HA0.out.wide HB4.out) (by rw [cut_size]; exact Nat.le_refl _))
        obtain ⟨xa, Xb, Xo, Xs, hxa, hXA, hXl, x0, x1, x2, x3, x4, hxin⟩ := va_item' HV4.out HX.out
        have hSB : ∀ W : World, Be (Tn p q C) w4 W → (W.cell? ⟨w.heap.size, 0, none⟩ = some (.pointer p) ∧ W.cell? ⟨w.heap.size, 1, none⟩ = some (.map (some C)) ∧ W.cell? ⟨Ab, Ao + 2, none⟩ = some (.int .i64 (U i).Y.k) ∧ W.cell? ⟨Ab, Ao + 3, none⟩ = some (.string (U i).Y.n) ∧ W.cell? ⟨Ab, Ao + 4, none⟩ = some (.slice (U i).Y.o (U i).Y.of.length (U i).Y.c) ∧ W.cell? ⟨w.heap.size + 1, 4, none⟩ = some (.slice v.io v.is.length v.ic) ∧ W.cell? ⟨Xb, Xo, Xs⟩ = some (.int .i64 x.k) ∧ W.cell? ⟨Xb, Xo + 1, none⟩ = some (.int .i64 x.n) ∧ W.cell? ⟨Xb, Xo + 2, none⟩ = some (.string x.s) ∧ W.cell? ⟨Xb, Xo + 3, none⟩ = some (.slice x.tb x.ts.length x.tc) ∧ W.cell? ⟨Xb, Xo + 4, none⟩ = some (.slice x.io x.is.length x.ic)) := fun W hb => by
          have hs1 : Sub (cut F w4) (cut F W) := Sub.of_below (by rw [cut_size]; exact HA4.out.wide hb)
          have hs := hs1.trans (cut_all F W)
          have hc := HC4.out.be hb (HNW.out _ (Nat.le_refl _))
          have hd := HD4.out.be hb (HNW.out _ (Nat.le_succ _))
          exact ⟨hc.cell (i := 0) rfl, hc.cell (i := 1) rfl, hs.cell r2, hs.cell r3, hs.cell r4, hd.cell (i := 4) rfl, hs.cell x0, hs.cell x1, hs.cell x2, hs.cell x3, hs.cell x4⟩
        have HSB := Lib.hid hSB
        have hS0 := hSB _ (Be.of ((Below.refl w4.heap.size w4).drew))
        have hii : (i : Int) < (m : Int) := by omega
        have hjj : (j : Int) < (v.is.length : Int) := by rw [← HLEN.out]; exact hji
        have hd4 := (Below.refl w4.heap.size w4).drew
        have HA5 := Lib.hid (HA4.out.below hd4)
        have HY5 := Lib.hid (ty_below (HF4.out.2.2 i him).ty (cut_below (F := F) hd4) (by rw [cut_size]; exact Nat.le_refl _))
        have HV5 := Lib.hid (Va.va_below hxin (cut_below (F := F) hd4) (by rw [cut_size]; exact Nat.le_refl _))
        have HB5 := Lib.hid (HB4.out.after hd4)
        have HTH := Lib.hid (HF4.out.2.2 i him).th
        have HOX := Lib.hid (HOK.out x (List.mem_of_getElem? HX.out))
        clear hSB x0 x1 x2 x3 x4 r0 r1 r2 r3 r4 hxin hd4 t0
        go_region_held3 (fun W => (W.cell? ⟨w.heap.size, 0, none⟩ = some (.pointer p) ∧ W.cell? ⟨w.heap.size, 1, none⟩ = some (.map (some C)) ∧ W.cell? ⟨Ab, Ao + 2, none⟩ = some (.int .i64 (U i).Y.k) ∧ W.cell? ⟨Ab, Ao + 3, none⟩ = some (.string (U i).Y.n) ∧ W.cell? ⟨Ab, Ao + 4, none⟩ = some (.slice (U i).Y.o (U i).Y.of.length (U i).Y.c) ∧ W.cell? ⟨w.heap.size + 1, 4, none⟩ = some (.slice v.io v.is.length v.ic) ∧ W.cell? ⟨Xb, Xo, Xs⟩ = some (.int .i64 x.k) ∧ W.cell? ⟨Xb, Xo + 1, none⟩ = some (.int .i64 x.n) ∧ W.cell? ⟨Xb, Xo + 2, none⟩ = some (.string x.s) ∧ W.cell? ⟨Xb, Xo + 3, none⟩ = some (.slice x.tb x.ts.length x.tc) ∧ W.cell? ⟨Xb, Xo + 4, none⟩ = some (.slice x.io x.is.length x.ic)))
          (first | (with_reducible exact hS0) | (with_reducible exact hS5) | (with_reducible exact hS6))
          (first
            | (go_at_call 24; go_loud (refine (of_any F p L q M C (U i).Y 21 _ HA5.out (ty_sub HY5.out (cut_all _ _)) HTH.out (by omega)).mono ?_; rintro e w5 ⟨xq, Z, rfl, hcr, hzt, hth, hof, ha5, hb5⟩; obtain ⟨f, first, rfl, hcf, hask⟩ := HII.out Z xq hth hof; have hBe5 := (Be.of (F := Tn p q C) ((Below.refl w4.heap.size w4).drew)).after hb5; have hS5 := HSB.out _ hBe5; have HE5 := Lib.hid hBe5; clear hBe5; have HASK := Lib.hid (hask x w5 HOX.out ha5 (ty_below (hzt _ HY5.out) (cut_below (F := F) hb5) (by rw [cut_size]; exact Nat.le_refl _)) (Va.va_below HV5.out (cut_below (F := F) hb5) (by rw [cut_size]; exact Nat.le_refl _))); have HCR := Lib.hid hcr; have HA6 := Lib.hid ha5; have HB6 := Lib.hid hb5; clear hask hcr hzt hth hof ha5 hb5))
            | (go_at_fn f; go_loud (refine HASK.out.mono ?_; rintro e w6 ⟨er, rfl, her, ha6, hb6⟩; have hS6 := HSB.out _ (HE5.out.trans hb6); have HER := Lib.hid her; have HA7 := Lib.hid ha6; have HB7 := Lib.hid hb6; clear her ha6 hb6)))
        have hBe := HE5.out.trans HB7.out
        have HF7 := Lib.hid (HF4.out.sub (Sub.of_below (by rw [cut_size]; exact HA4.out.wide hBe)))
        have HC7 := Lib.hid (HC4.out.be hBe (HNW.out _ (Nat.le_refl _)))
        have HD7 := Lib.hid (HD4.out.be hBe (HNW.out _ (Nat.le_succ _)))
        have HB8 := Lib.hid (HB4.out.trans hBe)
        have HFIT : Hid (er = 0 ↔ fitN L (n + 1) (U i).Y.sp x) := Lib.hid (HER.out.trans (fit_core HCR.out).symm)
        have HMEM : Hid (f2 (U i) ∈ L.rows s) := Lib.hid (by rw [← HR.out]; exact List.mem_map.2 ⟨i, List.mem_range.2 him, rfl⟩)
        have HD8 : Hid (Cs (w.heap.size + 1) [.int .i64 v.k, .int .i64 v.n, .string v.s, .slice (some ta) v.ts.length v.tc, .slice (some xa) v.is.length v.ic] w6) := by rw [← hta, ← hxa]; exact HD7
        clear hBe
        by_cases he : er = 0
        · subst he
          have HQ8 : Hid (∀ k, k < j + 1 → ItK (fitN L (n + 1)) (L.rows s) v k) := Lib.hid (fun k hk => by
            by_cases e : k = j
            · subst e
              intro t' x' ht' hx'
              rw [HTJ.out] at ht'
              rw [HX.out] at hx'
              obtain rfl := Option.some.inj ht'
              obtain rfl := Option.some.inj hx'
              exact ⟨f2 (U i), HMEM.out, HIT.out, HFIT.out.1 rfl⟩
            · exact HQ.out k (by omega))
          go_wp2
          go_roundw
          case measure => simp [intOf]; omega
          case rel => exact ⟨_, _, _, _, _, _, _, ⟨j + 1, by omega, rfl, HQ8⟩, rfl, rfl, rfl, rfl, rfl, rfl, by first | go_num | simp⟩
        · have hq : (er != 0) = true := by simpa using he
          have HE := Lib.hid he
          clear he
          go_wp2
          go_ret
          exact ⟨er, rfl, ⟨fun h => absurd h HE.out, fun h => by
            obtain ⟨r, hr, he1, hf⟩ := h j t x HTJ.out HX.out
            obtain rfl := row_one (HA0.out.nodup s) hr HMEM.out (he1.trans HIT.out.symm)
            exact absurd (HFIT.out.2 hf) HE.out⟩, HA7.out, HB8.out⟩
    · have hji : ¬ (j : Int) < (v.ts.length : Int) := by omega
      obtain rfl : j = v.ts.length := by omega
      go_wp2
      go_ret
      exact ⟨0, rfl, ⟨fun _ => itk_all HLEN.out HQ.out, fun _ => rfl⟩, HA.out, HB.out⟩
end Go.Proofs.YtdogddliifbjnaaGreat.Ck
/- fit: unions and structs. -/
namespace Go.Proofs.YtdogddliifbjnaaGreat.Ck
open Go.RowKit Cm
open _root_.Go.Proofs.YtdogddliifbjnaaGreat.Nm
set_option linter.unusedVariables false
set_option linter.unusedSimpArgs false
def UnP (L : Sc) (n : Nat) (s : ByteArray) (v : Va.Va) : Prop := v.k = 10 ∧ ItemsP (fitN L (n + 1)) (L.rows s) v
def ReP (L : Sc) (n : Nat) (s : ByteArray) (v : Va.Va) : Prop := v.k = 9 ∧ ItemsP (fitN L (n + 1)) (L.rows s) v ∧ FullP (L.rows s) v
set_option maxRecDepth 100000 in
set_option maxHeartbeats 2000000 in
theorem union_any (n : Nat) (okv : Va.Va → Prop) (F : Nat → Bool) (p : Option Addr) (L : Sc) (q : Option Addr) (M : Sc) (C : Nat) (HI : AskN n okv F p L q M C) (s : ByteArray) (v : Va.Va) (w : World) (h : Ak F p L q M C w) (hs : s.size ≤ 140737488355327) (hk : L.kd s ≠ 0)
    (hv : Va.VaIn (cut F w) v) (hok : ∀ u, u ∈ v.is → okv u) (hlen : v.k = 10 → v.ts.length = v.is.length) :
    Calls Tryz.prog 77 #[.agg #[.pointer p, .map (some C), .string s], .agg #[.int .i64 v.k, .int .i64 v.n, .string v.s, .slice v.tb v.ts.length v.tc, .slice v.io v.is.length v.ic]] w (fun e w' => AnP (UnP L n s v) F p L q M C w e w') := by
  have hB1 := ((Below.refl w.heap.size w).alloc (Nat.le_refl _) (.cells #[.pointer p, .map (some C), .string s] 145)).alloc (by simp) (.cells #[.int .i64 v.k, .int .i64 v.n, .string v.s, .slice v.tb v.ts.length v.tc, .slice v.io v.is.length v.ic] 26)
  have hC := (Cs.new w [.pointer p, .map (some C), .string s] 145).alloc (.cells #[.int .i64 v.k, .int .i64 v.n, .string v.s, .slice v.tb v.ts.length v.tc, .slice v.io v.is.length v.ic] 26)
  have hD := Cs.new (w.alloc (.cells #[.pointer p, .map (some C), .string s] 145)) [.int .i64 v.k, .int .i64 v.n, .string v.s, .slice v.tb v.ts.length v.tc, .slice v.io v.is.length v.ic] 26
  rw [show (w.alloc (.cells #[.pointer p, .map (some C), .string s] 145)).heap.size = w.heap.size + 1 by simp] at hD
  have c0 := hC.cell (i := 0) rfl
  have c1 := hC.cell (i := 1) rfl
  have c2 := hC.cell (i := 2) rfl
  have d0 := hD.cell (i := 0) rfl
  have d1 := hD.cell (i := 1) rfl
  have d2 := hD.cell (i := 2) rfl
  have d3 := hD.cell (i := 3) rfl
  have d4 := hD.cell (i := 4) rfl
  have HA1 := Lib.hid (h.below hB1)
  have HB1 := Lib.hid hB1
  have HV1 := Lib.hid (Va.va_below hv (cut_below (F := F) hB1) (by rw [cut_size]; exact Nat.le_refl _))
  have HOK := Lib.hid hok
  have HKD := Lib.hid hk
  have HII := Lib.hid HI
  clear h hB1 hC hD hv hok hk HI
  by_cases hk : v.k = 10
  · have HL := Lib.hid (hlen hk)
    have hk2 : (v.k != 10) = false := by rw [hk]; rfl
    have HK := Lib.hid hk
    clear hk hlen
    go_enter Tryz.func77, Tryz.ntmps77
    go_wp2_with (go_at_call 98; go_loud (refine (ditems_any n okv F p L q M C HII.out s v _ HA1.out hs HKD.out HV1.out HOK.out HL.out).mono ?_; rintro e w2 ⟨er, rfl, her, ha2, hb2⟩; have HER := Lib.hid her; have HA2 := Lib.hid ha2; have HB2 := Lib.hid ((Be.of (F := Tn p q C) HB1.out).trans hb2); clear her ha2 hb2))
    go_ret
    exact ⟨er, rfl, ⟨fun h => ⟨HK.out, HER.out.1 h⟩, fun h => HER.out.2 h.2⟩, HA2.out, HB2.out⟩
  · have hk2 : (v.k != 10) = true := by simpa using hk
    go_enter Tryz.func77, Tryz.ntmps77
    go_wp2
    go_ret
    exact ⟨4, rfl, ⟨fun h => by omega, fun h => absurd h.1 hk⟩, HA1.out, Be.of HB1.out⟩
set_option maxRecDepth 100000 in
set_option maxHeartbeats 2000000 in
theorem record_any (n : Nat) (okv : Va.Va → Prop) (F : Nat → Bool) (p : Option Addr) (L : Sc) (q : Option Addr) (M : Sc) (C : Nat) (HI : AskN n okv F p L q M C) (s : ByteArray) (v : Va.Va) (w : World) (h : Ak F p L q M C w) (hs : s.size ≤ 140737488355327) (hk : L.kd s ≠ 0)
    (hv : Va.VaIn (cut F w) v) (hok : ∀ u, u ∈ v.is → okv u) (hlen : v.k = 9 → v.ts.length = v.is.length) (hst : v.k = 9 → ∀ i j, i < j → j < v.ts.length → v.ts.getD i 0 ≤ v.ts.getD j 0) :
    Calls Tryz.prog 76 #[.agg #[.pointer p, .map (some C), .string s], .agg #[.int .i64 v.k, .int .i64 v.n, .string v.s, .slice v.tb v.ts.length v.tc, .slice v.io v.is.length v.ic]] w (fun e w' => AnP (ReP L n s v) F p L q M C w e w') := by
  have hB1 := ((Below.refl w.heap.size w).alloc (Nat.le_refl _) (.cells #[.pointer p, .map (some C), .string s] 145)).alloc (by simp) (.cells #[.int .i64 v.k, .int .i64 v.n, .string v.s, .slice v.tb v.ts.length v.tc, .slice v.io v.is.length v.ic] 26)
  have hC := (Cs.new w [.pointer p, .map (some C), .string s] 145).alloc (.cells #[.int .i64 v.k, .int .i64 v.n, .string v.s, .slice v.tb v.ts.length v.tc, .slice v.io v.is.length v.ic] 26)
  have hD := Cs.new (w.alloc (.cells #[.pointer p, .map (some C), .string s] 145)) [.int .i64 v.k, .int .i64 v.n, .string v.s, .slice v.tb v.ts.length v.tc, .slice v.io v.is.length v.ic] 26
  rw [show (w.alloc (.cells #[.pointer p, .map (some C), .string s] 145)).heap.size = w.heap.size + 1 by simp] at hD
  have c0 := hC.cell (i := 0) rfl
  have c1 := hC.cell (i := 1) rfl
  have c2 := hC.cell (i := 2) rfl
  have d0 := hD.cell (i := 0) rfl
  have d1 := hD.cell (i := 1) rfl
  have d2 := hD.cell (i := 2) rfl
  have d3 := hD.cell (i := 3) rfl
  have d4 := hD.cell (i := 4) rfl
  have HA1 := Lib.hid (h.below hB1)
  have HB1 := Lib.hid hB1
  have HC := Lib.hid hC
  have HD := Lib.hid hD
  have HNW : Hid (∀ k, w.heap.size ≤ k → Tn p q C k = false) := Lib.hid (fun k hk => by
    unfold Tn Ck.add
    rw [Bool.or_eq_false_iff, decide_eq_false_iff_not]
    exact ⟨h.pq.new hk, fun e => by obtain ⟨N, G, m1, _⟩ := h.mp; have := m1.lt; omega⟩)
  have HV1 := Lib.hid (Va.va_below hv (cut_below (F := F) hB1) (by rw [cut_size]; exact Nat.le_refl _))
  have HOK := Lib.hid hok
  have HKD := Lib.hid hk
  have HII := Lib.hid HI
  clear h hB1 hC hD hv hok hk HI
  by_cases hk : v.k = 9
  · have HL := Lib.hid (hlen hk)
    have HST := Lib.hid (hst hk)
    have hk2 : (v.k != 9) = false := by rw [hk]; rfl
    have HK := Lib.hid hk
    clear hk hlen hst
    go_enter Tryz.func76, Tryz.ntmps76
    go_upto_region 4 with (go_at_call 98; go_loud (refine (ditems_any n okv F p L q M C HII.out s v _ HA1.out hs HKD.out HV1.out HOK.out HL.out).mono ?_; rintro e w2 ⟨er, rfl, her, ha2, hb2⟩; have HER := Lib.hid her; have HA2 := Lib.hid ha2; have HB2 := Lib.hid ((Be.of (F := Tn p q C) HB1.out).trans hb2); have HV2 := Lib.hid (Va.va_below HV1.out (HA1.out.wide hb2) (by rw [cut_size]; exact Nat.le_refl _)); have hC2 := HC.out.be hb2 (HNW.out _ (Nat.le_refl _)); have hD2 := HD.out.be hb2 (HNW.out _ (Nat.le_succ _)); have e0 := hC2.cell (i := 0) rfl; have e1 := hC2.cell (i := 1) rfl; have e2 := hC2.cell (i := 2) rfl; have f3 := hD2.cell (i := 3) rfl; clear her ha2 hb2 hC2 hD2))
    by_cases he : er = 0
    · subst he
      have HI0 := Lib.hid (HER.out.1 rfl)
      clear HER
      go_wp2_with (go_at_call 99; go_loud (refine (missing_any F p L q M C s v.tb v.ts.length v.tc v.ts _ HA2.out hs HKD.out (va_tags' HV2.out) rfl (va_room' HV2.out) HST.out).mono ?_; rintro e w4 ⟨er, rfl, her, ha4, hb4⟩; have HER := Lib.hid her; have HA4 := Lib.hid ha4; have HB4 := Lib.hid (HB2.out.trans hb4); clear her ha4 hb4))
      go_ret
      exact ⟨er, rfl, ⟨fun h => ⟨HK.out, HI0.out, HER.out.1 h⟩, fun h => HER.out.2 h.2.2⟩, HA4.out, HB4.out⟩
    · have hq : (er != 0) = true := by simpa using he
      have HE := Lib.hid he
      clear he
      go_wp2
      go_ret
      exact ⟨er, rfl, ⟨fun h => absurd h HE.out, fun h => absurd (HER.out.2 h.2.1) HE.out⟩, HA2.out, HB2.out⟩
  · have hk2 : (v.k != 9) = true := by simpa using hk
    go_enter Tryz.func76, Tryz.ntmps76
    go_wp2
    go_ret
    exact ⟨4, rfl, ⟨fun h => by omega, fun h => absurd h.1 hk⟩, HA1.out, Be.of HB1.out⟩
end Go.Proofs.YtdogddliifbjnaaGreat.Ck
