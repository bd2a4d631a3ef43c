/- fit: Fits, Struct. -/
import Derived.Test.YtdogddliifbjnaaGreatMg37
import Derived.Test.YtdogddliifbjnaaGreatMg38
import Derived.Test.YtdogddliifbjnaaGreatMg43
namespace Go.Proofs.YtdogddliifbjnaaGreat.Ck
open Go.RowKit Cm
open _root_.Go.Proofs.YtdogddliifbjnaaGreat.Nm
set_option linter.unusedVariables false
set_option linter.unusedSimpArgs false

/-- Is a value of a type? -/
def FitP (L : Sc) (s : Sp) (v : Va.Va) : Prop := Va.weV Va.rightB v = true ∧ Va.dpV v ≤ 8 ∧ fitN L 9 s v
def FiP (P : Prop) (F : Nat → Bool) (p : Option Addr) (L : Sc) (q : Option Addr) (M : Sc) (w : World) (e : Ending) (w' : World) : Prop :=
  ∃ er : Int, e = .returned (.int .i64 er) ∧ (er = 0 ↔ P) ∧ Pq F p L q M w' ∧ Be (own p q) w w'
theorem FiP.iff {P Q : Prop} {F : Nat → Bool} {p q : Option Addr} {L M : Sc} {w w' : World} {e : Ending} (h : FiP P F p L q M w e w') (hq : P ↔ Q) : FiP Q F p L q M w e w' := by
  obtain ⟨er, h1, h2, h3⟩ := h
  exact ⟨er, h1, h2.trans hq, h3⟩
theorem FiP.of {P : Prop} {F : Nat → Bool} {p q : Option Addr} {L M : Sc} {w w0 w' : World} {e : Ending} (h : FiP P F p L q M w e w') (hb : Below w0.heap.size w0 w) : FiP P F p L q M w0 e w' := by
  obtain ⟨er, h1, h2, h3, h4⟩ := h
  exact ⟨er, h1, h2, h3, (Be.of hb).trans h4⟩
/-- An asker, made anew. -/
theorem Ak.made {F : Nat → Bool} {p q : Option Addr} {L M : Sc} {w : World} (h : Pq F p L q M w) : Ak (add F w.heap.size) p L q M w.heap.size (w.alloc (.map #[] 0)) :=
  ⟨h.add _, add_self _ _, h.new (Nat.le_refl _), [], fun _ => none, Fmq.made w, List.nodup_nil, (fun s hs => (by cases hs)), (fun s v hv => (by cases hv))⟩
set_option maxRecDepth 100000 in
set_option maxHeartbeats 4000000 in
theorem fits_any (F : Nat → Bool) (p : Option Addr) (L : Sc) (q : Option Addr) (M : Sc) (Y : Ty) (v : Va.Va) (w : World) (h : Pq F p L q M w) (hY : TyIn (cut F w) Y) (ht : Th 21 Y.sp) (hv : Va.VaIn (cut F w) v) (hnc : Va.Nc v) :
    Calls Tryz.prog 13 #[.pointer p, .agg #[.int .i64 Y.k, .string Y.n, .slice Y.o Y.of.length Y.c], .agg #[.int .i64 v.k, .int .i64 v.n, .string v.s, .slice v.tb v.ts.length v.tc, .slice v.io v.is.length v.ic]] w (fun e w' => FiP (FitP L Y.sp v) F p L q M w e w') := by
  have hB1 := ((Below.refl w.heap.size w).alloc (Nat.le_refl _) (.cells #[.int .i64 Y.k, .string Y.n, .slice Y.o Y.of.length Y.c] 48)).alloc (by simp) (.cells #[.int .i64 v.k, .int .i64 v.n, .string v.s, .slice v.tb v.ts.length v.tc, .slice v.io v.is.length v.ic] 26)
  have hC := (Cs.new w [.int .i64 Y.k, .string Y.n, .slice Y.o Y.of.length Y.c] 48).alloc (.cells #[.int .i64 v.k, .int .i64 v.n, .string v.s, .slice v.tb v.ts.length v.tc, .slice v.io v.is.length v.ic] 26)
  have hD := Cs.new (w.alloc (.cells #[.int .i64 Y.k, .string Y.n, .slice Y.o Y.of.length Y.c] 48)) [.int .i64 v.k, .int .i64 v.n, .string v.s, .slice v.tb v.ts.length v.tc, .slice v.io v.is.length v.ic] 26
  rw [show (w.alloc (.cells #[.int .i64 Y.k, .string Y.n, .slice Y.o Y.of.length Y.c] 48)).heap.size = w.heap.size + 1 by simp] at hD
  have d0 := hD.cell (i := 0) rfl
  have d1 := hD.cell (i := 1) rfl
  have d2 := hD.cell (i := 2) rfl
  have d3 := hD.cell (i := 3) rfl
  have d4 := hD.cell (i := 4) rfl
  have HB1 := Lib.hid hB1
  have HC := Lib.hid hC
  have HD := Lib.hid hD
  have HP := Lib.hid h
  have HY := Lib.hid hY
  have HT := Lib.hid ht
  have HV := Lib.hid hv
  have HNC := Lib.hid hnc
  have hnot : ∀ (x : Bool) (w : World), (Op.unary .not (.bool x)).run Tryz.prog w = .ok (.bool (!x)) w := fun _ _ => rfl
  clear h hB1 hC hD hY ht hv hnc
  cases hwe : Va.weV Va.rightB v with
  | false =>
    have HWE := Lib.hid hwe
    clear hwe
    go_enter Tryz.func13, Tryz.ntmps13
    go_wp2_with (go_at_call 22; go_loud (refine (Va.well_any v _ (Va.va_below (va_sub HV.out (cut_all F w)) HB1.out (Nat.le_refl _)) HNC.out).mono ?_; rw [HWE.out]; rintro e w2 ⟨rfl, hb2⟩; have HB2 := Lib.hid (HB1.out.trans (hb2.mono HB1.out.size)); clear hb2))
    go_ret
    exact ⟨1, rfl, ⟨fun h => by omega, fun h => by have := h.1; rw [HWE.out] at this; cases this⟩, HP.out.below HB2.out, Be.of HB2.out⟩
  | true =>
    have HWE := Lib.hid hwe
    clear hwe
    by_cases hdp : Va.dpV v ≤ 8
    · have hdi : ¬ (8 : Int) < ((Va.dpV v : Nat) : Int) := by omega
      obtain ⟨dz, hdz⟩ : ∃ dz, dz = Va.dpV v := ⟨_, rfl⟩
      rw [← hdz] at hdi
      have HDP : Hid (okN 8 v) := Lib.hid ⟨hdp, HWE.out⟩
      have HDZ := Lib.hid hdz
      clear hdp hdz
      have hmm := @run_makeMap Tryz.prog
      go_enter Tryz.func13, Tryz.ntmps13
      go_upto_region 5 with (first
        | (go_at_call 23; go_loud (refine (Va.deep_any v _ (Va.va_below (va_sub HV.out (cut_all F w)) HB2.out (Nat.le_refl _)) HNC.out).mono ?_; rw [← HDZ.out]; rintro e w3 ⟨rfl, hb3⟩; have HB3 := Lib.hid (HB2.out.trans (hb3.mono HB2.out.size)); have HC3 := Lib.hid (HC2.out.below hb3 HC2.out.lt); have HD3 := Lib.hid (HD2.out.below hb3 HD2.out.lt); clear hb3))
        | (go_at_call 22; go_loud (refine (Va.well_any v _ (Va.va_below (va_sub HV.out (cut_all F w)) HB1.out (Nat.le_refl _)) HNC.out).mono ?_; rw [HWE.out]; rintro e w2 ⟨rfl, hb2⟩; have HB2 := Lib.hid (HB1.out.trans (hb2.mono HB1.out.size)); have HC2 := Lib.hid (HC.out.below hb2 HC.out.lt); have hD2 := HD.out.below hb2 HD.out.lt; have e0 := hD2.cell (i := 0) rfl; have e1 := hD2.cell (i := 1) rfl; have e2 := hD2.cell (i := 2) rfl; have e3 := hD2.cell (i := 3) rfl; have e4 := hD2.cell (i := 4) rfl; have HD2 := Lib.hid hD2; clear hb2 hD2)))
      have hlt := HD3.out.lt
      have HWC : Hid (w.heap.size ≤ w3.heap.size) := Lib.hid HB3.out.size
      have HA4 := Lib.hid (Ak.made (HP.out.below HB3.out))
      have HB4 := Lib.hid (HB3.out.alloc HB3.out.size (.map #[] 0))
      have HY4 := Lib.hid (ty_sub (ty_below HY.out (cut_below (F := F) HB3.out) (by rw [cut_size]; exact Nat.le_refl _)) (add_new w3 (.map #[] 0)))
      have HV4 := Lib.hid (va_sub (Va.va_below HV.out (cut_below (F := F) HB3.out) (by rw [cut_size]; exact Nat.le_refl _)) (add_new w3 (.map #[] 0)))
      have hC4 := HC3.out.alloc (.map #[] 0)
      have HD4 := Lib.hid (HD3.out.alloc (.map #[] 0))
      have g0 := hC4.cell (i := 0) rfl
      have g1 := hC4.cell (i := 1) rfl
      have g2 := hC4.cell (i := 2) rfl
      clear hC4 hlt
      go_wp2_with (first
        | (go_at_fn f; go_loud (refine HASK.out.mono ?_; rintro e w6 ⟨er, rfl, her, ha6, hb6⟩; have HER := Lib.hid her; have HA6 := Lib.hid ha6; have HB6 := Lib.hid hb6; clear her ha6 hb6))
        | (go_at_call 24; go_loud (refine (of_any (add F w3.heap.size) p L q M w3.heap.size Y 21 _ HA4.out (ty_sub HY4.out (cut_all _ _)) HT.out (by omega)).mono ?_; rintro e w5 ⟨xq, Z, rfl, hcr, hzt, hth, hof, ha5, hb5⟩; obtain ⟨f, first, rfl, hcf, hask⟩ := ask_all (add F w3.heap.size) p L q M w3.heap.size 8 Z xq hth hof; have HASK := Lib.hid (hask v w5 HDP.out ha5 (ty_below (hzt _ HY4.out) (cut_below (F := add F w3.heap.size) hb5) (by rw [cut_size]; exact Nat.le_refl _)) (Va.va_below HV4.out (cut_below (F := add F w3.heap.size) hb5) (by rw [cut_size]; exact Nat.le_refl _))); have HCR := Lib.hid hcr; have HB5 := Lib.hid (HB4.out.trans (hb5.mono HB4.out.size)); have hD5 := HD4.out.below hb5 HD4.out.lt; have h0 := hD5.cell (i := 0) rfl; have h1 := hD5.cell (i := 1) rfl; have h2 := hD5.cell (i := 2) rfl; have h3 := hD5.cell (i := 3) rfl; have h4 := hD5.cell (i := 4) rfl; clear hask hcr hzt hth hof ha5 hb5 hD5)))
      go_ret
      refine ⟨er, rfl, ⟨fun h => ⟨HWE.out, HDP.out.1, (fit_core HCR.out).2 (HER.out.1 h)⟩, fun h => HER.out.2 ((fit_core HCR.out).1 h.2.2)⟩, HA6.out.pq.less (fun k hk => add_old hk) HP.out, ((Be.of (F := Tn p q w3.heap.size) HB5.out).trans HB6.out).wide (fun k hk hT => ?_)⟩
      unfold Tn Ck.add at hT
      rw [Bool.or_eq_true, decide_eq_true_eq] at hT
      rcases hT with hT | hT
      · exact hT
      · have := HWC.out; omega
    · have hdi : (8 : Int) < ((Va.dpV v : Nat) : Int) := by omega
      obtain ⟨dz, hdz⟩ : ∃ dz, dz = Va.dpV v := ⟨_, rfl⟩
      rw [← hdz] at hdi
      have HDP := Lib.hid hdp
      have HDZ := Lib.hid hdz
      clear hdp hdz
      go_enter Tryz.func13, Tryz.ntmps13
      go_wp2_with (first
        | (go_at_call 23; go_loud (refine (Va.deep_any v _ (Va.va_below (va_sub HV.out (cut_all F w)) HB2.out (Nat.le_refl _)) HNC.out).mono ?_; rw [← HDZ.out]; rintro e w3 ⟨rfl, hb3⟩; have HB3 := Lib.hid (HB2.out.trans (hb3.mono HB2.out.size)); clear hb3))
        | (go_at_call 22; go_loud (refine (Va.well_any v _ (Va.va_below (va_sub HV.out (cut_all F w)) HB1.out (Nat.le_refl _)) HNC.out).mono ?_; rw [HWE.out]; rintro e w2 ⟨rfl, hb2⟩; have HB2 := Lib.hid (HB1.out.trans (hb2.mono HB1.out.size)); have hD2 := HD.out.below hb2 HD.out.lt; have e0 := hD2.cell (i := 0) rfl; have e1 := hD2.cell (i := 1) rfl; have e2 := hD2.cell (i := 2) rfl; have e3 := hD2.cell (i := 3) rfl; have e4 := hD2.cell (i := 4) rfl; clear hb2 hD2)))
      go_ret
      exact ⟨10, rfl, ⟨fun h => by omega, fun h => absurd h.2.1 HDP.out⟩, HP.out.below HB3.out, Be.of HB3.out⟩
/-- Is a value of a struct? -/
def StP (L : Sc) (s : ByteArray) (v : Va.Va) : Prop := L.kd s = 1 ∧ FitP L (.mk 6 s []) v
theorem named_in (s : ByteArray) (w : World) (hs : s.size ≤ 140737488355327) : TyIn w (.mk 6 s none 0 []) := .mk 6 s none 0 [] (by omega) hs (by simp) (fun i t h => by simp at h) (fun i t h => by simp at h)
theorem named_th (s : ByteArray) : Th 21 (Ty.mk 6 s none 0 []).sp := by
  rw [sp_mk]
  exact ⟨by simp [Sp.of], fun i t h => by simp [Sp.of] at h⟩
set_option maxRecDepth 100000 in
set_option maxHeartbeats 2000000 in
theorem struct_any (F : Nat → Bool) (p : Option Addr) (L : Sc) (q : Option Addr) (M : Sc) (s : ByteArray) (v : Va.Va) (w : World) (h : Pq F p L q M w) (hs : s.size ≤ 140737488355327) (hv : Va.VaIn (cut F w) v) (hnc : Va.Nc v) :
    Calls Tryz.prog 9 #[.pointer p, .string s, .agg #[.int .i64 v.k, .int .i64 v.n, .string v.s, .slice v.tb v.ts.length v.tc, .slice v.io v.is.length v.ic]] w (fun e w' => FiP (StP L s v) F p L q M w e w') := by
  have hB1 := (Below.refl w.heap.size w).alloc (Nat.le_refl _) (.cells #[.int .i64 v.k, .int .i64 v.n, .string v.s, .slice v.tb v.ts.length v.tc, .slice v.io v.is.length v.ic] 26)
  have HC := Lib.hid (Cs.new w [.int .i64 v.k, .int .i64 v.n, .string v.s, .slice v.tb v.ts.length v.tc, .slice v.io v.is.length v.ic] 26)
  have HP := Lib.hid h
  have HB1 := Lib.hid hB1
  have HV := Lib.hid hv
  have HNC := Lib.hid hnc
  obtain ⟨k, hk⟩ : ∃ k, k = L.kd s := ⟨_, rfl⟩
  have HK := Lib.hid hk
  clear h hB1 hv hnc hk
  by_cases h1 : k = 1
  · subst h1
    go_enter Tryz.func9, Tryz.ntmps9
    go_wp2_with (first
      | (go_at_call 13; go_loud (refine (fits_any F p L q M (.mk 6 s none 0 []) v _ (HP.out.below HB2.out) (named_in s _ hs) (named_th s) (Va.va_below HV.out (cut_below (F := F) HB2.out) (by rw [cut_size]; exact Nat.le_refl _)) HNC.out).mono ?_; rintro e w3 ⟨er, rfl, her, hp3, hb3⟩; have HER := Lib.hid her; have HP3 := Lib.hid hp3; have HB3 := Lib.hid ((Be.of (F := own p q) HB2.out).trans hb3); clear her hp3 hb3))
      | (go_at_call 19; go_loud (refine (kind_p F p L s _ (HP.out.below HB1.out).a hs).mono ?_; rw [← HK.out]; rintro e w2 ⟨rfl, hb2⟩; have hC2 := HC.out.below hb2 HC.out.lt; have e0 := hC2.cell (i := 0) rfl; have e1 := hC2.cell (i := 1) rfl; have e2 := hC2.cell (i := 2) rfl; have e3 := hC2.cell (i := 3) rfl; have e4 := hC2.cell (i := 4) rfl; have HB2 := Lib.hid (HB1.out.trans (hb2.mono HB1.out.size)); clear hb2 hC2)))
    go_ret
    exact ⟨er, rfl, HER.out.trans ⟨fun h => ⟨HK.out.symm, h⟩, fun h => h.2⟩, HP3.out, HB3.out⟩
  · have hq : (k != 1) = true := by simpa using h1
    have HK1 := Lib.hid h1
    clear h1
    go_enter Tryz.func9, Tryz.ntmps9
    go_wp2_with (go_at_call 19; go_loud (refine (kind_p F p L s _ (HP.out.below HB1.out).a hs).mono ?_; rw [← HK.out]; rintro e w2 ⟨rfl, hb2⟩; have HB2 := Lib.hid (HB1.out.trans (hb2.mono HB1.out.size)); clear hb2))
    go_ret
    exact ⟨8, rfl, ⟨fun h => by omega, fun h => absurd (HK.out.trans h.1) HK1.out⟩, HP.out.below HB2.out, Be.of HB2.out⟩
end Go.Proofs.YtdogddliifbjnaaGreat.Ck
