/- Values: the walk of the law ValueTexts. -/
import Derived.Test.YthgaipdhgckmdaaDoorVaAwake
namespace Go.Proofs.YthgaipdhgckmdaaDoor.Va
open Go.RowKit Cm
set_option linter.unusedVariables false
set_option linter.unusedSimpArgs false

theorem great_ret {v : Va} {b : Bool} (h : grV v 0 = b) (w : World) (hv : VaIn w v) :
    Calls Tryd.prog 7 #[.agg #[.int .i64 v.k, .int .i64 v.n, .string v.s, .slice v.tb v.ts.length v.tc, .slice v.io v.is.length v.ic], .int .i64 0] w fun e w' => e = .returned (.bool b) ∧ Below w.heap.size w w' := by
  subst h
  exact great_any _ v 0 w (Nat.lt_succ_self _) hv (by omega)
/-- A variable's five cells, and what is below. -/
theorem bx5 {B : Nat} {x0 x1 x2 x3 x4 : Value} {w w1 w2 : World} (h : (w1.cell? ⟨B, 0, none⟩ = some x0 ∧ w1.cell? ⟨B, 1, none⟩ = some x1 ∧ w1.cell? ⟨B, 2, none⟩ = some x2 ∧ w1.cell? ⟨B, 3, none⟩ = some x3 ∧ w1.cell? ⟨B, 4, none⟩ = some x4) ∧ Below w.heap.size w w1)
    (hb : Below w1.heap.size w1 w2) : (w2.cell? ⟨B, 0, none⟩ = some x0 ∧ w2.cell? ⟨B, 1, none⟩ = some x1 ∧ w2.cell? ⟨B, 2, none⟩ = some x2 ∧ w2.cell? ⟨B, 3, none⟩ = some x3 ∧ w2.cell? ⟨B, 4, none⟩ = some x4) ∧ Below w.heap.size w w2 := by
  obtain ⟨⟨h0, h1, h2, h3, h4⟩, h5⟩ := h
  have hl : B < w1.heap.size := by simpa using World.block_lt_of_cell? w1 _ h0
  exact ⟨⟨(hb.cell (p := ⟨B, 0, none⟩) hl).trans h0, (hb.cell (p := ⟨B, 1, none⟩) hl).trans h1, (hb.cell (p := ⟨B, 2, none⟩) hl).trans h2, (hb.cell (p := ⟨B, 3, none⟩) hl).trans h3, (hb.cell (p := ⟨B, 4, none⟩) hl).trans h4⟩, h5.trans (hb.mono h5.size)⟩
theorem bx5_drew {B : Nat} {x0 x1 x2 x3 x4 : Value} {w w1 : World} (h : (w1.cell? ⟨B, 0, none⟩ = some x0 ∧ w1.cell? ⟨B, 1, none⟩ = some x1 ∧ w1.cell? ⟨B, 2, none⟩ = some x2 ∧ w1.cell? ⟨B, 3, none⟩ = some x3 ∧ w1.cell? ⟨B, 4, none⟩ = some x4) ∧ Below w.heap.size w w1) :
    (w1.drew.cell? ⟨B, 0, none⟩ = some x0 ∧ w1.drew.cell? ⟨B, 1, none⟩ = some x1 ∧ w1.drew.cell? ⟨B, 2, none⟩ = some x2 ∧ w1.drew.cell? ⟨B, 3, none⟩ = some x3 ∧ w1.drew.cell? ⟨B, 4, none⟩ = some x4) ∧ Below w.heap.size w w1.drew := ⟨h.1, h.2.drew⟩
theorem Cs.bx5 {B : Nat} {x0 x1 x2 x3 x4 : Value} {w w1 : World} (h : Cs B [x0, x1, x2, x3, x4] w1) (hb : Below w.heap.size w w1) : (w1.cell? ⟨B, 0, none⟩ = some x0 ∧ w1.cell? ⟨B, 1, none⟩ = some x1 ∧ w1.cell? ⟨B, 2, none⟩ = some x2 ∧ w1.cell? ⟨B, 3, none⟩ = some x3 ∧ w1.cell? ⟨B, 4, none⟩ = some x4) ∧ Below w.heap.size w w1 :=
  ⟨⟨h.cell (i := 0) rfl, h.cell (i := 1) rfl, h.cell (i := 2) rfl, h.cell (i := 3) rfl, h.cell (i := 4) rfl⟩, hb⟩

set_option maxRecDepth 100000 in
set_option maxHeartbeats 2000000 in
theorem texts_walk (v : Va) (w : World) (hv : VaIn w v) (hP : Pw w) :
    Calls Tryd.prog 4 #[.agg #[.int .i64 v.k, .int .i64 v.n, .string v.s, .slice v.tb v.ts.length v.tc, .slice v.io v.is.length v.ic]] w fun e w' => e = .returned (.bool true) ∧ Below w.heap.size w w' := by
  have hB0 := Lib.hid ((Below.refl w.heap.size w).alloc (Nat.le_refl _) (.cells #[.int .i64 v.k, .int .i64 v.n, .string v.s, .slice v.tb v.ts.length v.tc, .slice v.io v.is.length v.ic] 25))
  have hC0 := Lib.hid (Cs.new w [.int .i64 v.k, .int .i64 v.n, .string v.s, .slice v.tb v.ts.length v.tc, .slice v.io v.is.length v.ic] 25)
  have hV := Lib.hid hv
  have HP := Lib.hid hP
  clear hv hP
  cases hg : grV v 0 with
  | true =>
    have HG := Lib.hid hg
    clear hg
    go_enter Tryd.func4, Tryd.ntmps4
    go_wp2_with (first
      | (go_at_call 7; refine (great_ret HG.out _ (va_below hV.out hB0.out (Nat.le_refl _))).mono ?_; rintro e w1 ⟨rfl, hb1⟩)
      | (go_at_call 8; refine (awake_any _ (HP.out.below (hB0.out.trans (hb1.mono hB0.out.size)))).mono ?_; rintro e w2 ⟨rfl, hb2⟩))
    go_ret
    exact ⟨rfl, hB0.out.trans ((hb1.trans (hb2.mono hb1.size)).mono hB0.out.size)⟩
  | false =>
    have HN := Lib.hid (gr_small v 0 hg).1
    have HG := Lib.hid hg
    clear hg
    go_enter Tryd.func4, Tryd.ntmps4
    go_wp2_with (first
      | (go_at_call 7; refine (great_ret HG.out _ (va_below hV.out hB0.out (Nat.le_refl _))).mono ?_; rintro e w1 ⟨rfl, hb1⟩; have hS := Cs.bx5 (hC0.out.below hb1 hC0.out.lt) (hB0.out.trans (hb1.mono hB0.out.size)))
      | fail)
    replace hS := bx5_drew hS
    go_region_held3 (fun w' => (w'.cell? ⟨w.heap.size, 0, none⟩ = some (.int .i64 v.k) ∧ w'.cell? ⟨w.heap.size, 1, none⟩ = some (.int .i64 v.n) ∧ w'.cell? ⟨w.heap.size, 2, none⟩ = some (.string v.s) ∧ w'.cell? ⟨w.heap.size, 3, none⟩ = some (.slice v.tb v.ts.length v.tc) ∧ w'.cell? ⟨w.heap.size, 4, none⟩ = some (.slice v.io v.is.length v.ic)) ∧ Below w.heap.size w w') (exact hS) (first
      | (go_at_call 15; refine (text_any v _ (va_below hV.out hS.2 (Nat.le_refl _)) HN.out (HP.out.below hS.2)).mono ?_; rintro e w' ⟨rfl, hb⟩; replace hS := bx5 hS hb; clear hb)
      | (go_at_call 16; refine (rtext_any v _ (va_below hV.out hS.2 (Nat.le_refl _)) HN.out).mono ?_; rintro e w' ⟨rfl, hb⟩; replace hS := bx5 hS hb; clear hb)
      | (go_at_call 8; refine (awake_any _ (HP.out.below hS.2)).mono ?_; rintro e w' ⟨rfl, hb⟩; replace hS := bx5 hS hb; clear hb))
    go_wp2
    go_ret
    exact ⟨rfl, hS.2⟩
end Go.Proofs.YthgaipdhgckmdaaDoor.Va
