/- Rows of one block that a call has made by make: what keeps them; the equations of make. -/
import Derived.Deep.OwnRows
import Derived.Test.YtdogddliifbjnaaGreatMg06
import Derived.Test.YtdogddliifbjnaaGreatMg16
import Derived.Test.YtdogddliifbjnaaGreatMg18
namespace Go.Proofs.YtdogddliifbjnaaGreat.Ck
open Go.RowKit Cm _root_.Go.Proofs.YtdogddliifbjnaaGreat.Nm
set_option linter.unusedVariables false
set_option linter.unusedSimpArgs false

section
variable {w w' : World} {b n : Nat} {t : TypeId} {f : Nat → Value}
theorem ri_below {m : Nat} (h : w.rowIs b t n f) (hb : Below m w w') (hm : b < m) : w'.rowIs b t n f := h.of_block (hb.block b hm)
theorem ri_only {B : Nat} (h : w.rowIs b t n f) (ho : Only B w w') (hn : b ≠ B) : w'.rowIs b t n f := h.of_block (ho.block b h.lt hn)
theorem ri_grown {row : Option Nat} (h : w.rowIs b t n f) (hg : w.grownBy w' row) (hr : some b ≠ row) : w'.rowIs b t n f := h.of_block (hg.block b h.lt hr)
end
theorem infoBoolE : (Tryz.prog.info? 4).map (fun i => (i.zero, i.size, i.bytes)) = some (some (.bool false), 1, 1) := by kernel_rfl
theorem infoIntE : (Tryz.prog.info? 3).map (fun i => (i.zero, i.size, i.bytes)) = some (some (.int .i64 0), 1, 8) := by kernel_rfl
theorem infoIntsE : (Tryz.prog.info? 23).map (fun i => (i.zero, i.size, i.bytes)) = some (some (.slice none 0 0), 1, 24) := by kernel_rfl
theorem make_bools (n : Nat) (hn : n ≤ 1759218604441) (w : World) : (Instr.makeSlice 114 (.int .i64 (n : Int)) (.int .i64 (n : Int))).run Tryz.prog w = .ok (.slice (some ⟨w.heap.size, 0, none⟩) n n) (w.alloc (.cells (madeCells #[.bool false] n) 4)) :=
  run_make_row' (P := Tryz.prog) 114 4 (.bool false) 1 Tryz.underlying114 infoBoolE rfl .i64 .i64 n (by omega) (by omega) w
theorem make_ints (n : Nat) (hn : n ≤ 1759218604441) (w : World) : (Instr.makeSlice 23 (.int .i64 (n : Int)) (.int .i64 (n : Int))).run Tryz.prog w = .ok (.slice (some ⟨w.heap.size, 0, none⟩) n n) (w.alloc (.cells (madeCells #[.int .i64 0] n) 3)) :=
  run_make_row' (P := Tryz.prog) 23 3 (.int .i64 0) 8 Tryz.underlying23 infoIntE rfl .i64 .i64 n (by omega) (by omega) w
theorem make_rows (n : Nat) (hn : n ≤ 1759218604441) (w : World) : (Instr.makeSlice 149 (.int .i64 (n : Int)) (.int .i64 (n : Int))).run Tryz.prog w = .ok (.slice (some ⟨w.heap.size, 0, none⟩) n n) (w.alloc (.cells (madeCells #[.slice none 0 0] n) 23)) :=
  run_make_row' (P := Tryz.prog) 149 23 (.slice none 0 0) 24 Tryz.underlying149 infoIntsE rfl .i64 .i64 n (by omega) (by omega) w
/-- Truths in a row. -/
def Bl (b n : Nat) (X : Nat → Bool) (w : World) : Prop := w.rowIs b 4 n (fun i => .bool (X i))
end Go.Proofs.YtdogddliifbjnaaGreat.Ck
/- check's wrongDecl; slices.Index over truths. -/
namespace Go.Proofs.YtdogddliifbjnaaGreat.Ck
open Go.RowKit Cm _root_.Go.Proofs.YtdogddliifbjnaaGreat.Nm
set_option linter.unusedVariables false
set_option linter.unusedSimpArgs false

theorem rw_eq (S : Nat → ByteArray) (K : Nat → Int) (n : Nat) (Kd : Int) (fl ml : Nat) (F : Fy) (M : Ml) : rwE S K n Kd fl ml F M = if Kd < 1 ∨ 4 < Kd then 4 else match wrE S K n Kd fl ml F M with
    | e + 1 => e + 1
    | 0 => if (Kd = 2 ∨ Kd = 3) ∧ fl = 0 then 12 else 0 := by
  unfold rwE wrE
  by_cases h : Kd < 1 ∨ 4 < Kd
  · rw [if_pos h, if_pos h]
  · rw [if_neg h, if_neg h]
    cases fzE (fdE S K n Kd F) fl with
    | succ e => rfl
    | zero =>
      cases h2 : fzE (mdE S K n Kd fl F M) ml with
      | succ e => simp only [h2]
      | zero => simp only [h2]

set_option maxRecDepth 100000 in
set_option maxHeartbeats 8000000 in
theorem wdecl_any (T n i : Nat) (D : Dl) (F : Nat → Fy) (M : Nat → Ml) (o : Option Addr) (w : World) (h : Tb T n D.S D.K w) (hA : Ax o n D F M w) (hi : i < n) (hs : Sml D F n) :
    Calls Tryz.prog 49 #[.pointer (some ⟨T, 0, none⟩), .int .i64 (i : Nat), .agg #[.int .i64 (D.K i), .string (D.S i), .slice (D.fo i) (D.fl i) (D.fc i), .slice (D.mo i) (D.ml i) (D.mc i), .int .i64 (D.A i)]] w
      fun e w' => e = .returned (.int .i64 (dcE D F M n i : Nat)) ∧ Below w.heap.size w w' := by
  have hSz := (hA.1.1 i hi).choose_spec.2.2.2.1
  have hB := (Below.refl w.heap.size w).alloc (Nat.le_refl _) (.cells #[.int .i64 (D.K i), .string (D.S i), .slice (D.fo i) (D.fl i) (D.fc i), .slice (D.mo i) (D.ml i) (D.mc i), .int .i64 (D.A i)] 43)
  have HC := Lib.hid (Cs.new w [.int .i64 (D.K i), .string (D.S i), .slice (D.fo i) (D.fl i) (D.fc i), .slice (D.mo i) (D.ml i) (D.mc i), .int .i64 (D.A i)] 43)
  have HT := Lib.hid (h.below hB)
  have HX := Lib.hid (hA.below hB (Nat.le_refl _)).2
  have HB := Lib.hid hB
  have hfl := hs.fl i hi
  have hml := hs.ml i hi
  have HDP : Hid (∀ k, k < D.fl i → dpT ((F i).Y k) ≤ 131072) := Lib.hid (fun k hk => by have := hs.dp i k hi hk; omega)
  clear h hA hB hs
  cases hf : fiS D.S (D.S i) i with
  | some p =>
    have hp := plS_some (fiS_ahead hi hf)
    have hpi : (p : Int) < (i : Int) := by have := (fiS_some hf).1; omega
    have he : dcE D F M n i = 7 := by unfold dcE; rw [hf]
    rw [he]
    clear hf he
    go_enter Tryz.func49, Tryz.ntmps49
    go_wp2_with (go_at_call 80; refine (find_any T n D.S D.K (D.S i) _ HT.out hSz).mono ?_; rw [hp]; rintro e w1 ⟨rfl, hb1⟩)
    go_ret
    exact ⟨rfl, HB.out.trans (hb1.mono HB.out.size)⟩
  | none =>
    have hp := plS_some (fiS_fresh hi hf)
    have he : dcE D F M n i = rwE D.S D.K n (D.K i) (D.fl i) (D.ml i) (F i) (M i) := by unfold dcE; rw [hf]
    rw [he, rw_eq]
    clear hf he
    have hwr := fun (w' : World) (h1 : Tb T n D.S D.K w') (h2 : Yx (D.fo i) (D.fl i) (F i) w') (h3 : Mx (D.mo i) (D.ml i) (M i) w') => wrows_any T n D.S D.K (D.K i) (D.A i) (D.S i) (D.fo i) (D.mo i) (D.fl i) (D.fc i) (D.ml i) (D.mc i) (F i) (M i) w' h1 h2 h3 hfl hml HDP.out
    have HYM : Hid (∀ w', Below (w.alloc (.cells #[.int .i64 (D.K i), .string (D.S i), .slice (D.fo i) (D.fl i) (D.fc i), .slice (D.mo i) (D.ml i) (D.mc i), .int .i64 (D.A i)] 43)).heap.size (w.alloc (.cells #[.int .i64 (D.K i), .string (D.S i), .slice (D.fo i) (D.fl i) (D.fc i), .slice (D.mo i) (D.ml i) (D.mc i), .int .i64 (D.A i)] 43)) w' → Tb T n D.S D.K w' ∧ Yx (D.fo i) (D.fl i) (F i) w' ∧ Mx (D.mo i) (D.ml i) (M i) w') :=
      Lib.hid (fun w' hb => ⟨HT.out.below hb, (HX.out i hi).1.below hb (Nat.le_refl _), (HX.out i hi).2.below hb (Nat.le_refl _)⟩)
    have hlt : ¬ ((i : Int) < (i : Int)) := by omega
    by_cases hk : D.K i < 1 ∨ 4 < D.K i
    · rw [if_pos hk]
      have n1 : (D.K i == 1) = false := beq_eq_false_iff_ne.2 (by omega)
      have n2 : (D.K i == 2) = false := beq_eq_false_iff_ne.2 (by omega)
      have n3 : (D.K i == 3) = false := beq_eq_false_iff_ne.2 (by omega)
      have n4 : (D.K i == 4) = false := beq_eq_false_iff_ne.2 (by omega)
      clear hk hwr
      go_enter Tryz.func49, Tryz.ntmps49
      go_wp2_with (go_at_call 80; refine (find_any T n D.S D.K (D.S i) _ HT.out hSz).mono ?_; rw [hp]; rintro e w1 ⟨rfl, hb1⟩; have d0 := (HC.out.below hb1 HC.out.lt).cell (i := 0) rfl)
      go_ret
      exact ⟨rfl, HB.out.trans (hb1.mono HB.out.size)⟩
    · rw [if_neg hk]
      obtain ⟨f, hff⟩ : ∃ f, f = D.fl i := ⟨_, rfl⟩
      cases hr : wrE D.S D.K n (D.K i) (D.fl i) (D.ml i) (F i) (M i) with
      | succ e =>
        rw [hr] at hwr
        show Calls Tryz.prog 49 _ w fun e2 w' => e2 = .returned (.int .i64 ((e + 1 : Nat) : Int)) ∧ Below w.heap.size w w'
        have hq : ((((e + 1 : Nat) : Int)) != 0) = true := bne_iff_ne.2 (by omega)
        obtain ⟨x, hx⟩ : ∃ x : Int, x = ((e + 1 : Nat) : Int) := ⟨_, rfl⟩
        rw [← hx] at hwr hq ⊢
        clear hx hr hff
        have hk4 : D.K i = 1 ∨ D.K i = 2 ∨ D.K i = 3 ∨ D.K i = 4 := by omega
        obtain ⟨Kx, hKx⟩ : ∃ Kx, Kx = D.K i := ⟨_, rfl⟩
        rw [← hKx] at hwr HC HB HYM HT HX hk4 ⊢
        have HWR := Lib.hid hwr
        clear hk hKx hwr
        rcases hk4 with rfl | rfl | rfl | rfl
        all_goals
          go_enter Tryz.func49, Tryz.ntmps49
          go_wp2_with (first
            | (go_at_call 81; refine (HWR.out _ (HYM.out _ hb1).1 (HYM.out _ hb1).2.1 (HYM.out _ hb1).2.2).mono ?_; rintro e2 w2 ⟨rfl, hb2⟩)
            | (go_at_call 80; refine (find_any T n D.S D.K (D.S i) _ HT.out hSz).mono ?_; rw [hp]; rintro e w1 ⟨rfl, hb1⟩; have hc1 := HC.out.below hb1 HC.out.lt; have d0 := hc1.cell (i := 0) rfl; have d1 := hc1.cell (i := 1) rfl; have d2 := hc1.cell (i := 2) rfl; have d3 := hc1.cell (i := 3) rfl; have d4 := hc1.cell (i := 4) rfl))
          go_ret
          exact ⟨rfl, (HB.out.trans (hb1.mono HB.out.size)).trans (hb2.mono (HB.out.trans (hb1.mono HB.out.size)).size)⟩
      | zero =>
        rw [hr] at hwr
        show Calls Tryz.prog 49 _ w fun e2 w' => e2 = .returned (.int .i64 ((if (D.K i = 2 ∨ D.K i = 3) ∧ D.fl i = 0 then 12 else 0 : Nat) : Int)) ∧ Below w.heap.size w w'
        have hk4 : D.K i = 1 ∨ D.K i = 2 ∨ D.K i = 3 ∨ D.K i = 4 := by omega
        obtain ⟨Kx, hKx⟩ : ∃ Kx, Kx = D.K i := ⟨_, rfl⟩
        rw [← hKx] at hwr HC HB HYM HT HX hk4 ⊢
        rw [← hff] at hwr HC HB HYM HT HX ⊢
        have HWR := Lib.hid hwr
        clear hk hKx hwr hr hff
        by_cases hf0 : f = 0
        · subst hf0
          rcases hk4 with rfl | rfl | rfl | rfl
          all_goals
            go_enter Tryz.func49, Tryz.ntmps49
            go_wp2_with (first
              | (go_at_call 81; refine (HWR.out _ (HYM.out _ hb1).1 (HYM.out _ hb1).2.1 (HYM.out _ hb1).2.2).mono ?_; rintro e2 w2 ⟨rfl, hb2⟩; have hc2 := (HC.out.below hb1 HC.out.lt).below hb2 (HC.out.below hb1 HC.out.lt).lt; have y0 := hc2.cell (i := 0) rfl; have y2 := hc2.cell (i := 2) rfl)
              | (go_at_call 80; refine (find_any T n D.S D.K (D.S i) _ HT.out hSz).mono ?_; rw [hp]; rintro e w1 ⟨rfl, hb1⟩; have hc1 := HC.out.below hb1 HC.out.lt; have d0 := hc1.cell (i := 0) rfl; have d1 := hc1.cell (i := 1) rfl; have d2 := hc1.cell (i := 2) rfl; have d3 := hc1.cell (i := 3) rfl; have d4 := hc1.cell (i := 4) rfl))
            go_ret
            exact ⟨rfl, (HB.out.trans (hb1.mono HB.out.size)).trans (hb2.mono (HB.out.trans (hb1.mono HB.out.size)).size)⟩
        · have hfq : ((f : Int) == 0) = false := beq_eq_false_iff_ne.2 (by omega)
          rw [if_neg (fun e => hf0 e.2)]
          clear hf0
          rcases hk4 with rfl | rfl | rfl | rfl
          all_goals
            go_enter Tryz.func49, Tryz.ntmps49
            go_wp2_with (first
              | (go_at_call 81; refine (HWR.out _ (HYM.out _ hb1).1 (HYM.out _ hb1).2.1 (HYM.out _ hb1).2.2).mono ?_; rintro e2 w2 ⟨rfl, hb2⟩; have hc2 := (HC.out.below hb1 HC.out.lt).below hb2 (HC.out.below hb1 HC.out.lt).lt; have y0 := hc2.cell (i := 0) rfl; have y2 := hc2.cell (i := 2) rfl)
              | (go_at_call 80; refine (find_any T n D.S D.K (D.S i) _ HT.out hSz).mono ?_; rw [hp]; rintro e w1 ⟨rfl, hb1⟩; have hc1 := HC.out.below hb1 HC.out.lt; have d0 := hc1.cell (i := 0) rfl; have d1 := hc1.cell (i := 1) rfl; have d2 := hc1.cell (i := 2) rfl; have d3 := hc1.cell (i := 3) rfl; have d4 := hc1.cell (i := 4) rfl))
            go_ret
            exact ⟨rfl, (HB.out.trans (hb1.mono HB.out.size)).trans (hb2.mono (HB.out.trans (hb1.mono HB.out.size)).size)⟩

/-- The first of the first n that is not so. -/
def ixB (X : Nat → Bool) : Nat → Option Nat
  | 0 => none
  | n + 1 => match ixB X n with
    | some i => some i
    | none => if X n = true then none else some n
theorem ix_up {X : Nat → Bool} {n m i : Nat} (hm : n ≤ m) (h : ixB X n = some i) : ixB X m = some i := by
  induction m with
  | zero => obtain rfl : n = 0 := by omega
            exact h
  | succ m ih =>
    by_cases e : n = m + 1
    · subst e; exact h
    · show (match ixB X m with | some i => some i | none => if X m = true then none else some m) = some i
      rw [ih (by omega)]
theorem ix_hit {X : Nat → Bool} {n : Nat} (h : ixB X n = none) (e : X n = false) : ixB X (n + 1) = some n := by
  show (match ixB X n with | some i => some i | none => if X n = true then none else some n) = some n
  rw [h, e]; rfl
theorem ix_miss {X : Nat → Bool} {n : Nat} (h : ixB X n = none) (e : X n = true) : ixB X (n + 1) = none := by
  show (match ixB X n with | some i => some i | none => if X n = true then none else some n) = none
  rw [h, e]; rfl
theorem ix_any (X : Nat → Bool) (n : Nat) : anB (fun i => !X i) n = (ixB X n).isSome := by
  induction n with
  | zero => rfl
  | succ n ih =>
    show (anB (fun i => !X i) n || !X n) = _
    rw [ih]
    cases h : ixB X n with
    | some i => rw [ix_up (Nat.le_succ n) h]; rfl
    | none =>
      cases e : X n with
      | true => rw [ix_miss h e]; rfl
      | false => rw [ix_hit h e]; rfl
theorem ix_lt {X : Nat → Bool} {n i : Nat} (h : ixB X n = some i) : i < n := by
  induction n with
  | zero => cases h
  | succ n ih =>
    cases hc : ixB X n with
    | some j => rw [ix_up (Nat.le_succ n) hc] at h; obtain rfl := Option.some.inj h; have := ih hc; omega
    | none =>
      cases e : X n with
      | true => rw [ix_miss hc e] at h; cases h
      | false => rw [ix_hit hc e] at h; obtain rfl := Option.some.inj h; omega
def ixZ (X : Nat → Bool) (n : Nat) : Int := match ixB X n with | some i => (i : Int) | none => -1
set_option maxRecDepth 100000 in
set_option maxHeartbeats 2000000 in
theorem index_any (g n c : Nat) (X : Nat → Bool) (w : World) (hn : n ≤ 1759218604441) (h : Bl g n X w) :
    Calls Tryz.prog 50 #[.slice (some ⟨g, 0, none⟩) n c, .bool false] w fun e w' => e = .returned (.int .i64 (ixZ X n)) ∧ w' = w := by
  have hn2 : n ≤ 9223372036854775807 := by omega
  have H := Lib.hid h
  clear h
  go_enter Tryz.func50, Tryz.ntmps50
  go_wp2
  go_loopw [8] (fun i wr => ∃ q, q ≤ n ∧ i = .int .i64 (q : Nat) ∧ Hid (ixB X q = none) ∧ wr = w) (fun i _ => n - (intOf i).toNat)
  case atStart => exact ⟨0, by omega, rfl, Lib.hid rfl, rfl⟩
  case round =>
    obtain ⟨q, hq, rfl, HI, rfl⟩ := hrel
    by_cases hql : q < n
    · have hqi : (q : Int) < (n : Int) := by omega
      have hc := H.out.cell hql
      cases hx : X q with
      | true =>
        rw [hx] at hc
        have HX := Lib.hid hx
        clear hx
        go_wp2
        go_roundw
        case rel => exact ⟨q + 1, by omega, by go_num, Lib.hid (ix_miss HI.out HX.out), by first | rfl | trivial⟩
        case measure => simp [intOf]; omega
      | false =>
        rw [hx] at hc
        have he : ixZ X n = q := by unfold ixZ; rw [ix_up hql (ix_hit HI.out hx)]
        have HE := Lib.hid he
        clear hx he
        go_wp2
        go_ret
        exact ⟨by rw [HE.out]; rfl, rfl⟩
    · have hqi : ¬ (q : Int) < (n : Int) := by omega
      obtain rfl : q = n := by omega
      have he : ixZ X q = -1 := by unfold ixZ; rw [HI.out]
      have HE := Lib.hid he
      clear he
      go_wp2
      go_ret
      exact ⟨by rw [HE.out]; rfl, rfl⟩
end Go.Proofs.YtdogddliifbjnaaGreat.Ck
