/- Values: the walks of the laws ValueWell, ValueSame, ValueApart. (Printed by gen/walks.py.) -/
import Derived.Test.YthgaipdhgckmdaaDoorVaTextsWalk
namespace Go.Proofs.YthgaipdhgckmdaaDoor.Va
open Go.RowKit Cm
set_option linter.unusedVariables false
set_option linter.unusedSimpArgs false

set_option maxRecDepth 100000 in
set_option maxHeartbeats 1000000 in
theorem well_walk (v : Va) (w : World) (hv : VaIn w v) (hP : Pw w) :
    Calls Tryd.prog 3 #[.agg #[.int .i64 v.k, .int .i64 v.n, .string v.s, .slice v.tb v.ts.length v.tc, .slice v.io v.is.length v.ic]] w fun e w' => e = .returned (.bool true) ∧ Below w.heap.size w w' := by
  have hB0 := Lib.hid ((Below.refl w.heap.size w).alloc (Nat.le_refl _) (.cells #[.int .i64 v.k, .int .i64 v.n, .string v.s, .slice v.tb v.ts.length v.tc, .slice v.io v.is.length v.ic] 25))
  have hC0 := Lib.hid (Cs.new w [.int .i64 v.k, .int .i64 v.n, .string v.s, .slice v.tb v.ts.length v.tc, .slice v.io v.is.length v.ic] 25)
  have hV := Lib.hid hv
  have HP := Lib.hid hP
  clear hv hP
  cases hg : grV v 0 with
  | true =>
    have HG := Lib.hid hg
    clear hg
    go_enter Tryd.func3, Tryd.ntmps3
    go_wp2_with (first
      | (go_at_call 7; with_reducible refine (great_ret HG.out _ (va_below hV.out hB0.out (Nat.le_refl _))).mono ?_; rintro e w1 ⟨rfl, hb1⟩)
      | (go_at_call 8; refine (awake_any _ (HP.out.below (hB0.out.trans (hb1.mono hB0.out.size)))).mono ?_; rintro e w2 ⟨rfl, hb2⟩))
    go_ret
    exact ⟨rfl, hB0.out.trans ((hb1.trans (hb2.mono hb1.size)).mono hB0.out.size)⟩
  | false =>
    have HN := Lib.hid (gr_small v 0 hg).1
    have HG := Lib.hid hg
    have HD := Lib.hid (gr_small v 0 hg).2
    clear hg
    go_enter Tryd.func3, Tryd.ntmps3
    go_wp2_with (first
      | (go_at_call 7; with_reducible refine (great_ret HG.out _ (va_below hV.out hB0.out (Nat.le_refl _))).mono ?_; rintro e w1 ⟨rfl, hb1⟩; have hS := Cs.bx5 (hC0.out.below hb1 hC0.out.lt) (hB0.out.trans (hb1.mono hB0.out.size)))
      | fail)
    replace hS := bx5_drew hS
    go_region_held3 (fun w' => (w'.cell? ⟨w.heap.size, 0, none⟩ = some (.int .i64 v.k) ∧ w'.cell? ⟨w.heap.size, 1, none⟩ = some (.int .i64 v.n) ∧ w'.cell? ⟨w.heap.size, 2, none⟩ = some (.string v.s) ∧ w'.cell? ⟨w.heap.size, 3, none⟩ = some (.slice v.tb v.ts.length v.tc) ∧ w'.cell? ⟨w.heap.size, 4, none⟩ = some (.slice v.io v.is.length v.ic)) ∧ Below w.heap.size w w') (exact hS) (first
      | (go_at_call 9; with_reducible refine (well_any v _ (va_below hV.out hS.2 (Nat.le_refl _)) HN.out).mono ?_; rintro e w' ⟨rfl, hb⟩; replace hS := bx5 hS hb; clear hb)
      | (go_at_call 10; with_reducible refine (rwell_of v _ (va_below hV.out hS.2 (Nat.le_refl _)) HN.out).mono ?_; rintro e w' ⟨rfl, hb⟩; replace hS := bx5 hS hb; clear hb)
      | (go_at_call 11; with_reducible refine (deep_any v _ (va_below hV.out hS.2 (Nat.le_refl _)) HN.out).mono ?_; rintro e w' ⟨rfl, hb⟩; replace hS := bx5 hS hb; clear hb)
      | (go_at_call 12; with_reducible refine (rdeep_any _ v _ (Nat.lt_succ_self _) (va_below hV.out hS.2 (Nat.le_refl _)) (by have := HN.out.deep; omega)).mono ?_; rintro e w' ⟨rfl, hb⟩; replace hS := bx5 hS hb; clear hb)
      | (go_at_call 13; with_reducible refine (size_any v _ (va_below hV.out hS.2 (Nat.le_refl _)) HN.out).mono ?_; rintro e w' ⟨rfl, hb⟩; replace hS := bx5 hS hb; clear hb)
      | (go_at_call 14; with_reducible refine (rsize_any _ v _ (Nat.lt_succ_self _) (va_below hV.out hS.2 (Nat.le_refl _)) (by have := HN.out.size; omega)).mono ?_; rintro e w' ⟨rfl, hb⟩; replace hS := bx5 hS hb; clear hb)
      | (go_at_call 8; with_reducible refine (awake_any _ (HP.out.below hS.2)).mono ?_; rintro e w' ⟨rfl, hb⟩; replace hS := bx5 hS hb; clear hb))
    go_wp2
    go_ret
    exact ⟨rfl, hS.2⟩

/-- Two variables' five cells, and what is below. -/
theorem bx10 {B C : Nat} {x0 x1 x2 x3 x4 y0 y1 y2 y3 y4 : Value} {w w1 w2 : World} (h : (w1.cell? ⟨B, 0, none⟩ = some x0 ∧ w1.cell? ⟨B, 1, none⟩ = some x1 ∧ w1.cell? ⟨B, 2, none⟩ = some x2 ∧ w1.cell? ⟨B, 3, none⟩ = some x3 ∧ w1.cell? ⟨B, 4, none⟩ = some x4 ∧ w1.cell? ⟨C, 0, none⟩ = some y0 ∧ w1.cell? ⟨C, 1, none⟩ = some y1 ∧ w1.cell? ⟨C, 2, none⟩ = some y2 ∧ w1.cell? ⟨C, 3, none⟩ = some y3 ∧ w1.cell? ⟨C, 4, none⟩ = some y4) ∧ Below w.heap.size w w1)
    (hb : Below w1.heap.size w1 w2) : (w2.cell? ⟨B, 0, none⟩ = some x0 ∧ w2.cell? ⟨B, 1, none⟩ = some x1 ∧ w2.cell? ⟨B, 2, none⟩ = some x2 ∧ w2.cell? ⟨B, 3, none⟩ = some x3 ∧ w2.cell? ⟨B, 4, none⟩ = some x4 ∧ w2.cell? ⟨C, 0, none⟩ = some y0 ∧ w2.cell? ⟨C, 1, none⟩ = some y1 ∧ w2.cell? ⟨C, 2, none⟩ = some y2 ∧ w2.cell? ⟨C, 3, none⟩ = some y3 ∧ w2.cell? ⟨C, 4, none⟩ = some y4) ∧ Below w.heap.size w w2 := by
  obtain ⟨⟨h0, h1, h2, h3, h4, g0, g1, g2, g3, g4⟩, h5⟩ := h
  have hl : B < w1.heap.size := by simpa using World.block_lt_of_cell? w1 _ h0
  have hm : C < w1.heap.size := by simpa using World.block_lt_of_cell? w1 _ g0
  exact ⟨⟨(hb.cell (p := ⟨B, 0, none⟩) hl).trans h0, (hb.cell (p := ⟨B, 1, none⟩) hl).trans h1, (hb.cell (p := ⟨B, 2, none⟩) hl).trans h2, (hb.cell (p := ⟨B, 3, none⟩) hl).trans h3, (hb.cell (p := ⟨B, 4, none⟩) hl).trans h4,
    (hb.cell (p := ⟨C, 0, none⟩) hm).trans g0, (hb.cell (p := ⟨C, 1, none⟩) hm).trans g1, (hb.cell (p := ⟨C, 2, none⟩) hm).trans g2, (hb.cell (p := ⟨C, 3, none⟩) hm).trans g3, (hb.cell (p := ⟨C, 4, none⟩) hm).trans g4⟩, h5.trans (hb.mono h5.size)⟩
theorem Cs.bx10 {B C : Nat} {x0 x1 x2 x3 x4 y0 y1 y2 y3 y4 : Value} {w w1 : World} (h : Cs B [x0, x1, x2, x3, x4] w1) (g : Cs C [y0, y1, y2, y3, y4] w1) (hb : Below w.heap.size w w1) : (w1.cell? ⟨B, 0, none⟩ = some x0 ∧ w1.cell? ⟨B, 1, none⟩ = some x1 ∧ w1.cell? ⟨B, 2, none⟩ = some x2 ∧ w1.cell? ⟨B, 3, none⟩ = some x3 ∧ w1.cell? ⟨B, 4, none⟩ = some x4 ∧ w1.cell? ⟨C, 0, none⟩ = some y0 ∧ w1.cell? ⟨C, 1, none⟩ = some y1 ∧ w1.cell? ⟨C, 2, none⟩ = some y2 ∧ w1.cell? ⟨C, 3, none⟩ = some y3 ∧ w1.cell? ⟨C, 4, none⟩ = some y4) ∧ Below w.heap.size w w1 :=
  ⟨⟨h.cell (i := 0) rfl, h.cell (i := 1) rfl, h.cell (i := 2) rfl, h.cell (i := 3) rfl, h.cell (i := 4) rfl, g.cell (i := 0) rfl, g.cell (i := 1) rfl, g.cell (i := 2) rfl, g.cell (i := 3) rfl, g.cell (i := 4) rfl⟩, hb⟩
theorem bx10_drew {B C : Nat} {x0 x1 x2 x3 x4 y0 y1 y2 y3 y4 : Value} {w w1 : World} (h : (w1.cell? ⟨B, 0, none⟩ = some x0 ∧ w1.cell? ⟨B, 1, none⟩ = some x1 ∧ w1.cell? ⟨B, 2, none⟩ = some x2 ∧ w1.cell? ⟨B, 3, none⟩ = some x3 ∧ w1.cell? ⟨B, 4, none⟩ = some x4 ∧ w1.cell? ⟨C, 0, none⟩ = some y0 ∧ w1.cell? ⟨C, 1, none⟩ = some y1 ∧ w1.cell? ⟨C, 2, none⟩ = some y2 ∧ w1.cell? ⟨C, 3, none⟩ = some y3 ∧ w1.cell? ⟨C, 4, none⟩ = some y4) ∧ Below w.heap.size w w1) : (w1.drew.cell? ⟨B, 0, none⟩ = some x0 ∧ w1.drew.cell? ⟨B, 1, none⟩ = some x1 ∧ w1.drew.cell? ⟨B, 2, none⟩ = some x2 ∧ w1.drew.cell? ⟨B, 3, none⟩ = some x3 ∧ w1.drew.cell? ⟨B, 4, none⟩ = some x4 ∧ w1.drew.cell? ⟨C, 0, none⟩ = some y0 ∧ w1.drew.cell? ⟨C, 1, none⟩ = some y1 ∧ w1.drew.cell? ⟨C, 2, none⟩ = some y2 ∧ w1.drew.cell? ⟨C, 3, none⟩ = some y3 ∧ w1.drew.cell? ⟨C, 4, none⟩ = some y4) ∧ Below w.heap.size w w1.drew := ⟨h.1, h.2.drew⟩

theorem cmp_prog {a b : Va} {c : Int} (h : cmpV a.k a.n a.s b.k b.n b.s = c) (w : World) (ha : VaIn w a) (hb : VaIn w b) (hna : Nc a) (hnb : Nc b) :
    Calls Tryd.prog 19 #[.agg #[.int .i64 a.k, .int .i64 a.n, .string a.s, .slice a.tb a.ts.length a.tc, .slice a.io a.is.length a.ic], .agg #[.int .i64 b.k, .int .i64 b.n, .string b.s, .slice b.tb b.ts.length b.tc, .slice b.io b.is.length b.ic]] w fun e w' => e = .returned (.int .i64 c) ∧ Below w.heap.size w w' := by
  subst h; exact cmp_any a b w ha hb hna hnb
theorem same_prog {a b : Va} {c : Bool} (h : saV a b = c) (w : World) (ha : VaIn w a) (hb : VaIn w b) (hna : Nc a) :
    Calls Tryd.prog 17 #[.agg #[.int .i64 a.k, .int .i64 a.n, .string a.s, .slice a.tb a.ts.length a.tc, .slice a.io a.is.length a.ic], .agg #[.int .i64 b.k, .int .i64 b.n, .string b.s, .slice b.tb b.ts.length b.tc, .slice b.io b.is.length b.ic]] w fun e w' => e = .returned (.bool c) ∧ Below w.heap.size w w' := by
  subst h; exact same_any a b w ha hb hna
theorem same_ref {a b : Va} {c : Bool} (h : saV a b = c) (w : World) (ha : VaIn w a) (hb : VaIn w b) :
    Calls Tryd.prog 18 #[.agg #[.int .i64 a.k, .int .i64 a.n, .string a.s, .slice a.tb a.ts.length a.tc, .slice a.io a.is.length a.ic], .agg #[.int .i64 b.k, .int .i64 b.n, .string b.s, .slice b.tb b.ts.length b.tc, .slice b.io b.is.length b.ic]] w fun e w' => e = .returned (.bool c) ∧ Below w.heap.size w w' := by
  subst h; exact rsame_any _ a b w (Nat.lt_succ_self _) ha hb
theorem well_prog {a : Va} {c : Bool} (h : weV rightB a = c) (w : World) (ha : VaIn w a) (hna : Nc a) :
    Calls Tryd.prog 9 #[.agg #[.int .i64 a.k, .int .i64 a.n, .string a.s, .slice a.tb a.ts.length a.tc, .slice a.io a.is.length a.ic]] w fun e w' => e = .returned (.bool c) ∧ Below w.heap.size w w' := by
  subst h; exact well_any a w ha hna
theorem va_num {w : World} {a : Va} (h : VaIn w a) : -9223372036854775808 ≤ a.n ∧ a.n ≤ 9223372036854775807 := by
  cases a; exact (va_room h).2.1
theorem txt_same (l m : List UInt8) : ((⟨l.toArray⟩ : ByteArray).toList == (⟨m.toArray⟩ : ByteArray).toList) = decide (l = m) := by
  rw [ByteArray.toList_eq, ByteArray.toList_eq]
  by_cases h : l = m
  · subst h; simp
  · simp [h]
theorem cmp_room (ak an : Int) (ax : ByteArray) (bk bn : Int) (bx : ByteArray) : -1 ≤ cmpV ak an ax bk bn bx ∧ cmpV ak an ax bk bn bx ≤ 1 := by
  have h : ∀ a b : Bool, -1 ≤ orZ a b ∧ orZ a b ≤ 1 := fun a b => by cases a <;> cases b <;> exact ⟨by decide, by decide⟩
  unfold cmpV
  repeat' split
  all_goals exact h _ _

end Go.Proofs.YthgaipdhgckmdaaDoor.Va
