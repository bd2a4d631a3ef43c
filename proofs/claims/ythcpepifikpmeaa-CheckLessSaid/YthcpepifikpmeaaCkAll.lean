/- check's Check. -/
import Derived.Test.YthcpepifikpmeaaCkCheck
import Derived.Test.YthcpepifikpmeaaCkFinW
namespace Go.Proofs.Ythcpepifikpmeaa.Ck
open Go.RowKit Cm _root_.Go.Proofs.Ythcpepifikpmeaa.Nm
set_option linter.unusedVariables false
set_option linter.unusedSimpArgs false

theorem ck_bad {D : Dl} {F : Nat → Fy} {M : Nat → Ml} {n j e : Nat} (hj : j < n) (h0 : fzE (dcE D F M n) j = 0) (h : dcE D F M n j = e + 1) : ckE D F M n = e + 1 := by
  unfold ckE
  rw [fz_at hj h0 h]
theorem ck_end {D : Dl} {F : Nat → Fy} {M : Nat → Ml} {n : Nat} (h0 : fzE (dcE D F M n) n = 0) : ckE D F M n = if (ixB (rdB (syD D F n) n) n).isSome = true then 10 else 0 := by
  unfold ckE
  rw [h0, ← ix_any]
  rfl

set_option maxRecDepth 100000 in
set_option maxHeartbeats 8000000 in
theorem check_any (o : Option Addr) (len cap : Nat) (D : Dl) (F : Nat → Fy) (M : Nat → Ml) (w : World) (h : Ax o len D F M w) (hs : Sml D F len) :
    Calls Try.prog 9 #[.slice o len cap] w fun e w' => ∃ p, e = .returned (.agg #[.int .i64 (ckE D F M len : Nat), .int .i64 p]) ∧ Below w.heap.size w w' := by
  have hlen := h.1.2
  have hlen2 : len ≤ 9223372036854775807 := by omega
  have hB0 := (Below.refl w.heap.size w).alloc (Nat.le_refl _) (.cells #[.int .i64 0, .int .i64 0] 29)
  have HB0 := Lib.hid hB0
  have HC0 := Lib.hid (Cs.new w [.int .i64 0, .int .i64 0] 29)
  have HZ0 : Hid ((w.alloc (.cells #[.int .i64 0, .int .i64 0] 29)).heap.size = w.heap.size + 1) := Lib.hid (by simp)
  have H := Lib.hid (h.below hB0 (Nat.le_refl _))
  have HSM := Lib.hid hs
  clear h hs hB0
  go_enter Try.func9, Try.ntmps9
  go_wp2_with (go_at_call 15; refine (of_any o len cap D _ H.out.1).mono ?_; rintro e w1 ⟨T, rfl, hT1, hT2, hb1⟩)
  have HT := Lib.hid hT2
  have HB1 := Lib.hid hb1
  have HC1 := Lib.hid (HC0.out.below hb1 HC0.out.lt)
  have hw1 : w.heap.size < w1.heap.size := by have := hb1.size; have := HZ0.out; omega
  clear hT2 hb1
  go_loopw [12] (fun i wr => ∃ j, j ≤ len ∧ i = .int .i64 (j : Nat) ∧ Hid (fzE (dcE D F M len) j = 0) ∧ Hid (Below w1.heap.size w1 wr)) (fun i _ => len - (intOf i).toNat)
  case atStart => exact ⟨0, by omega, rfl, Lib.hid rfl, Lib.hid (Below.refl _ _)⟩
  case round =>
    obtain ⟨j, hj, rfl, HZ, HB⟩ := hrel
    have hsz := HB.out.size
    have HBW : Hid (Below w.heap.size w wr) := Lib.hid ((HB0.out.trans (HB1.out.mono HB0.out.size)).trans (HB.out.mono (Nat.le_of_lt hw1)))
    by_cases hjl : j < len
    · have hji : (j : Int) < (len : Int) := by omega
      have hAx := H.out.below (HB1.out.trans (HB.out.mono HB1.out.size)) (Nat.le_refl _)
      obtain ⟨a, Ab, Ao, As, rfl, hA, hAb, c0, c1, c2, c3, c4⟩ := Dx.place hAx.1 hjl
      have hst := (Below.refl wr.heap.size wr).alloc (Nat.le_refl _) (.cells #[.int .i64 (D.K j), .string (D.S j), .slice (D.fo j) (D.fl j) (D.fc j), .slice (D.mo j) (D.ml j) (D.mc j), .int .i64 (D.A j)] 34)
      have HST := Lib.hid hst
      have HA2 := Lib.hid (hAx.below hst (Nat.le_refl _))
      have HT2 := Lib.hid ((HT.out.below HB.out).below hst)
      have HCd := Lib.hid (Cs.new wr [.int .i64 (D.K j), .string (D.S j), .slice (D.fo j) (D.fl j) (D.fc j), .slice (D.mo j) (D.ml j) (D.mc j), .int .i64 (D.A j)] 34)
      have hwd := wdecl_any T len j D F M (some a) _ HT2.out HA2.out hjl HSM.out
      clear hAx hst
      cases hr : dcE D F M len j with
      | succ e =>
        rw [hr] at hwd
        have HE := Lib.hid (ck_bad hjl HZ.out hr)
        have hq : ((((e + 1 : Nat) : Int)) != 0) = true := bne_iff_ne.2 (by omega)
        obtain ⟨x, hx⟩ : ∃ x : Int, x = ((e + 1 : Nat) : Int) := ⟨_, rfl⟩
        rw [← hx] at hwd hq
        have HX := Lib.hid hx
        have HWD := Lib.hid hwd
        clear hr hwd hx
        go_wp2_with (go_at_call 16; refine HWD.out.mono ?_; rintro e2 w2 ⟨rfl, hb2⟩; have y4 := (HCd.out.below hb2 HCd.out.lt).cell (i := 4) rfl; have hR := (HC1.out.below (HB.out.trans ((HST.out.trans (hb2.mono HST.out.size)).mono hsz)) hw1); have r0 := hR.cell (i := 0) rfl; have r1 := hR.cell (i := 1) rfl; have q0 := hR.frozen (i := 0) rfl; have q1 := hR.frozen (i := 1) rfl)
        have hR2 := (hR.put (i := 0) (.int .i64 x)).put (i := 1) (.int .i64 (D.A j))
        have hbel := ((HBW.out.trans ((HST.out.trans (hb2.mono HST.out.size)).mono HBW.out.size)).setCell (p := ⟨w.heap.size, 0, none⟩) (Nat.le_refl _) (.int .i64 x)).setCell (p := ⟨w.heap.size, 1, none⟩) (Nat.le_refl _) (.int .i64 (D.A j))
        generalize ((w2.setCell ⟨w.heap.size, 0, none⟩ (.int .i64 x)).setCell ⟨w.heap.size, 1, none⟩ (.int .i64 (D.A j))) = w5 at hR2 hbel ⊢
        have d0 := hR2.cell (i := 0) rfl
        have d1 := hR2.cell (i := 1) rfl
        refine bodyPost_ret (by simp [results, Try.results9, go_sem, d0, d1]; try rfl) rfl ?_
        exact ⟨D.A j, by rw [HE.out, ← HX.out], hbel⟩
      | zero =>
        rw [hr] at hwd
        have HWD := Lib.hid hwd
        have HR := Lib.hid hr
        clear hr hwd
        go_wp2_with (go_at_call 16; refine HWD.out.mono ?_; rintro e2 w2 ⟨rfl, hb2⟩)
        go_roundw
        case rel => exact ⟨j + 1, by omega, by go_num, Lib.hid (fz_on HZ.out HR.out), Lib.hid (HB.out.trans ((HST.out.trans (hb2.mono HST.out.size)).mono hsz))⟩
        case measure => simp [intOf]; omega
    · have hji : ¬ (j : Int) < (len : Int) := by omega
      obtain rfl : j = len := by omega
      have HAx := Lib.hid (H.out.below (HB1.out.trans (HB.out.mono HB1.out.size)) (Nat.le_refl _))
      have hce := ck_end HZ.out
      have hix := index_any
      cases hx : ixB (rdB (syD D F j) j) j with
      | some q =>
        have hz : ixZ (rdB (syD D F j) j) j = (q : Int) := by unfold ixZ; rw [hx]
        have HIZ := Lib.hid hz
        rw [hx] at hce
        have HE : Hid (ckE D F M j = 10) := Lib.hid hce
        have hql := ix_lt hx
        have hqj : (q : Int) < (j : Int) := by omega
        obtain ⟨a, Ab, Ao, As, rfl, hA, hAb, c0, c1, c2, c3, c4⟩ := Dx.place HAx.out.1 hql
        have HC4 := Lib.hid c4
        clear hce hix hx hz c0 c1 c2 c3 c4
        go_wp2_with (first
          | (go_at_call 17; refine (index_any g j j (rdB (syD D F j) j) _ hlen hg2).mono ?_; rw [HIZ.out]; rintro e3 w3 ⟨rfl, rfl⟩)
          | (go_at_call 7; refine (finite_any (some a) j cap D F M _ HAx.out HSM.out).mono ?_; rintro e2 w2 ⟨g, rfl, hg1, hg2, hb2⟩; have c4 := (hb2.cell (p := ⟨Ab, Ao + 4, none⟩) hAb).trans HC4.out; have hR := HC1.out.below (HB.out.trans (hb2.mono hsz)) hw1; have r0 := hR.cell (i := 0) rfl; have r1 := hR.cell (i := 1) rfl; have q0 := hR.frozen (i := 0) rfl; have q1 := hR.frozen (i := 1) rfl))
        have hR2 := (hR.put (i := 0) (.int .i64 10)).put (i := 1) (.int .i64 (D.A q))
        have hbel := ((HBW.out.trans (hb2.mono HBW.out.size)).setCell (p := ⟨w.heap.size, 0, none⟩) (Nat.le_refl _) (.int .i64 10)).setCell (p := ⟨w.heap.size, 1, none⟩) (Nat.le_refl _) (.int .i64 (D.A q))
        generalize ((w3.setCell ⟨w.heap.size, 0, none⟩ (.int .i64 10)).setCell ⟨w.heap.size, 1, none⟩ (.int .i64 (D.A q))) = w5 at hR2 hbel ⊢
        have d0 := hR2.cell (i := 0) rfl
        have d1 := hR2.cell (i := 1) rfl
        refine bodyPost_ret (by simp [results, Try.results9, go_sem, d0, d1]; try rfl) rfl ?_
        exact ⟨D.A q, by rw [HE.out]; rfl, hbel⟩
      | none =>
        have hz : ixZ (rdB (syD D F j) j) j = -1 := by unfold ixZ; rw [hx]
        have HIZ := Lib.hid hz
        rw [hx] at hce
        have HE : Hid (ckE D F M j = 0) := Lib.hid hce
        clear hce hix hx hz
        go_wp2_with (first
          | (go_at_call 17; refine (index_any g j j (rdB (syD D F j) j) _ hlen hg2).mono ?_; rw [HIZ.out]; rintro e3 w3 ⟨rfl, rfl⟩)
          | (go_at_call 7; refine (finite_any o j cap D F M _ HAx.out HSM.out).mono ?_; rintro e2 w2 ⟨g, rfl, hg1, hg2, hb2⟩; have hR := HC1.out.below (HB.out.trans (hb2.mono hsz)) hw1; have r0 := hR.cell (i := 0) rfl; have r1 := hR.cell (i := 1) rfl; have q0 := hR.frozen (i := 0) rfl; have q1 := hR.frozen (i := 1) rfl))
        have hR2 := (hR.put (i := 0) (.int .i64 0)).put (i := 1) (.int .i64 0)
        have hbel := ((HBW.out.trans (hb2.mono HBW.out.size)).setCell (p := ⟨w.heap.size, 0, none⟩) (Nat.le_refl _) (.int .i64 0)).setCell (p := ⟨w.heap.size, 1, none⟩) (Nat.le_refl _) (.int .i64 0)
        generalize ((w3.setCell ⟨w.heap.size, 0, none⟩ (.int .i64 0)).setCell ⟨w.heap.size, 1, none⟩ (.int .i64 0)) = w5 at hR2 hbel ⊢
        have d0 := hR2.cell (i := 0) rfl
        have d1 := hR2.cell (i := 1) rfl
        refine bodyPost_ret (by simp [results, Try.results9, go_sem, d0, d1]; try rfl) rfl ?_
        exact ⟨0, by rw [HE.out]; rfl, hbel⟩
end Go.Proofs.Ythcpepifikpmeaa.Ck
