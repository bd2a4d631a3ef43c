/- Values: the contracts of the program's rising, and of what a map's items are told by. -/
import Derived.Test.YtdogddliifbjnaaGreatMg58
import Derived.Test.YtdogddliifbjnaaGreatMg41
namespace Go.Proofs.YtdogddliifbjnaaGreat.Va
open Go.RowKit Cm
set_option linter.unusedVariables false
set_option linter.unusedSimpArgs false

theorem orZ_lt (a b : Bool) : orZ a b < 0 ↔ orZ a b = -1 := by cases a <;> cases b <;> simp [orZ]
theorem cmpV_lt (k n : Int) (s : ByteArray) (k' n' : Int) (s' : ByteArray) : cmpV k n s k' n' s' < 0 ↔ cmpV k n s k' n' s' = -1 := by
  unfold cmpV
  split
  · exact orZ_lt _ _
  · split
    · exact orZ_lt _ _
    · split
      · exact orZ_lt _ _
      · exact orZ_lt _ _
/-- May one key stand behind another one? -/
def riB (u v : Va) : Bool := decide (u.k = v.k) && decide (cmpV u.k u.n u.s v.k v.n v.s = -1)
set_option maxRecDepth 100000 in
set_option maxHeartbeats 1000000 in
theorem rising_any (u v : Va) (w : World) (hu : -9223372036854775808 ≤ u.n ∧ u.n ≤ 9223372036854775807) (hv : -9223372036854775808 ≤ v.n ∧ v.n ≤ 9223372036854775807) :
    Calls Tryz.prog 192 #[.agg #[.int .i64 u.k, .int .i64 u.n, .string u.s, .slice u.tb u.ts.length u.tc, .slice u.io u.is.length u.ic], .agg #[.int .i64 v.k, .int .i64 v.n, .string v.s, .slice v.tb v.ts.length v.tc, .slice v.io v.is.length v.ic]] w
      fun e w' => e = .returned (.bool (riB u v)) ∧ Below w.heap.size w w' := by
  obtain ⟨hA, hB, hW⟩ := two_new w [.int .i64 u.k, .int .i64 u.n, .string u.s, .slice u.tb u.ts.length u.tc, .slice u.io u.is.length u.ic] [.int .i64 v.k, .int .i64 v.n, .string v.s, .slice v.tb v.ts.length v.tc, .slice v.io v.is.length v.ic] 26
  have HW := Lib.hid hW
  clear hA hB hW
  by_cases hk : u.k = v.k
  · have hkk : (u.k == v.k) = true := by simpa using hk
    obtain ⟨c, hc⟩ : ∃ c, cmpV u.k u.n u.s v.k v.n v.s = c := ⟨_, rfl⟩
    by_cases h : c = -1
    · have hr : riB u v = true := by unfold riB; rw [decide_eq_true hk, hc, decide_eq_true h]; rfl
      rw [hr]
      have hlt : c < 0 := by omega
      have HC := Lib.hid hc
      clear hr hk hc h
      go_enter Tryz.func192, Tryz.ntmps192
      go_wp2_with (go_at_call 193; refine (lcmp_any _ _ _ _ _ _ _ _ _ _ _ _ _ _ _ _ _ _ _ hu hv).mono ?_; rw [HC.out]; rintro e w2 ⟨rfl, hb2⟩)
      go_ret
      exact ⟨rfl, HW.out.trans (hb2.mono HW.out.size)⟩
    · have hr : riB u v = false := by unfold riB; rw [hc, decide_eq_false h, Bool.and_false]
      have hlt : ¬ c < 0 := by
        intro h2
        have := (cmpV_lt u.k u.n u.s v.k v.n v.s).1 (by rw [hc]; exact h2)
        exact h (by rw [← hc]; exact this)
      rw [hr]
      have HC := Lib.hid hc
      clear hr hk hc h
      go_enter Tryz.func192, Tryz.ntmps192
      go_wp2_with (go_at_call 193; refine (lcmp_any _ _ _ _ _ _ _ _ _ _ _ _ _ _ _ _ _ _ _ hu hv).mono ?_; rw [HC.out]; rintro e w2 ⟨rfl, hb2⟩)
      go_ret
      refine ⟨?_, HW.out.trans (hb2.mono HW.out.size)⟩
      show Ending.returned (.bool (decide (c < 0))) = _
      rw [decide_eq_false (by omega)]
  · have hr : riB u v = false := by unfold riB; rw [decide_eq_false hk]; rfl
    rw [hr]
    have hkk : (u.k == v.k) = false := by simpa using hk
    clear hr hk
    go_enter Tryz.func192, Tryz.ntmps192
    go_wp2
    go_ret
    exact ⟨rfl, HW.out⟩
theorem lkey_ret {k : Int} {b : Bool} (h : keyB k = b) (n : Int) (s : ByteArray) (tb : Option Addr) (tl tc : Nat) (io : Option Addr) (il ic : Nat) (w : World) :
    Calls Tryz.prog 191 #[.agg #[.int .i64 k, .int .i64 n, .string s, .slice tb tl tc, .slice io il ic]] w fun e w' => e = .returned (.bool b) ∧ Below w.heap.size w w' := by
  subst h; exact lkey_any k n s tb tl tc io il ic w
theorem rising_ret {u v : Va} {b : Bool} (h : riB u v = b) (w : World) (hu : -9223372036854775808 ≤ u.n ∧ u.n ≤ 9223372036854775807) (hv : -9223372036854775808 ≤ v.n ∧ v.n ≤ 9223372036854775807) :
    Calls Tryz.prog 192 #[.agg #[.int .i64 u.k, .int .i64 u.n, .string u.s, .slice u.tb u.ts.length u.tc, .slice u.io u.is.length u.ic], .agg #[.int .i64 v.k, .int .i64 v.n, .string v.s, .slice v.tb v.ts.length v.tc, .slice v.io v.is.length v.ic]] w
      fun e w' => e = .returned (.bool b) ∧ Below w.heap.size w w' := by
  subst h; exact rising_any u v w hu hv
theorem kys_bad {l : List Va} {j : Nat} (hj : 2 * j < l.length) (h : kyBad l (2 * j) = true) : kysB l = false := by
  by_cases h2 : 2 * j + 1 < l.length
  · exact kys_false h2 h
  · unfold kysB
    rw [decide_eq_false (by omega : ¬ l.length % 2 = 0), Bool.and_false]
theorem va_n {w : World} {v : Va} (h : VaIn w v) : -9223372036854775808 ≤ v.n ∧ v.n ≤ 9223372036854775807 := by
  cases h; assumption

theorem five_kept {z w w' : World} {Ab Ao : Nat} {As : Option Nat} {x0 x1 x2 x3 x4 : Value} (hb : Below w.heap.size w w') (ha : Ab < z.heap.size) (h : w.cell? ⟨Ab, Ao, As⟩ = some x0 ∧ w.cell? ⟨Ab, Ao + 1, none⟩ = some x1 ∧ w.cell? ⟨Ab, Ao + 2, none⟩ = some x2 ∧ w.cell? ⟨Ab, Ao + 3, none⟩ = some x3 ∧ w.cell? ⟨Ab, Ao + 4, none⟩ = some x4 ∧ Below z.heap.size z w) :
    w'.cell? ⟨Ab, Ao, As⟩ = some x0 ∧ w'.cell? ⟨Ab, Ao + 1, none⟩ = some x1 ∧ w'.cell? ⟨Ab, Ao + 2, none⟩ = some x2 ∧ w'.cell? ⟨Ab, Ao + 3, none⟩ = some x3 ∧ w'.cell? ⟨Ab, Ao + 4, none⟩ = some x4 ∧ Below z.heap.size z w' := by
  obtain ⟨h0, h1, h2, h3, h4, hz⟩ := h
  have ha := Nat.lt_of_lt_of_le ha hz.size
  exact ⟨(hb.cell ha).trans h0, (hb.cell ha).trans h1, (hb.cell ha).trans h2, (hb.cell ha).trans h3, (hb.cell ha).trans h4, hz.trans (hb.mono hz.size)⟩
theorem ten_kept {z w w' : World} {Ab Ao Bb Bo : Nat} {As Bs : Option Nat} {x0 x1 x2 x3 x4 y0 y1 y2 y3 y4 : Value} (hb : Below w.heap.size w w') (ha : Ab < z.heap.size) (hc : Bb < z.heap.size)
    (h : w.cell? ⟨Ab, Ao, As⟩ = some x0 ∧ w.cell? ⟨Ab, Ao + 1, none⟩ = some x1 ∧ w.cell? ⟨Ab, Ao + 2, none⟩ = some x2 ∧ w.cell? ⟨Ab, Ao + 3, none⟩ = some x3 ∧ w.cell? ⟨Ab, Ao + 4, none⟩ = some x4 ∧ w.cell? ⟨Bb, Bo, Bs⟩ = some y0 ∧ w.cell? ⟨Bb, Bo + 1, none⟩ = some y1 ∧ w.cell? ⟨Bb, Bo + 2, none⟩ = some y2 ∧ w.cell? ⟨Bb, Bo + 3, none⟩ = some y3 ∧ w.cell? ⟨Bb, Bo + 4, none⟩ = some y4 ∧ Below z.heap.size z w) :
    w'.cell? ⟨Ab, Ao, As⟩ = some x0 ∧ w'.cell? ⟨Ab, Ao + 1, none⟩ = some x1 ∧ w'.cell? ⟨Ab, Ao + 2, none⟩ = some x2 ∧ w'.cell? ⟨Ab, Ao + 3, none⟩ = some x3 ∧ w'.cell? ⟨Ab, Ao + 4, none⟩ = some x4 ∧ w'.cell? ⟨Bb, Bo, Bs⟩ = some y0 ∧ w'.cell? ⟨Bb, Bo + 1, none⟩ = some y1 ∧ w'.cell? ⟨Bb, Bo + 2, none⟩ = some y2 ∧ w'.cell? ⟨Bb, Bo + 3, none⟩ = some y3 ∧ w'.cell? ⟨Bb, Bo + 4, none⟩ = some y4 ∧ Below z.heap.size z w' := by
  obtain ⟨h0, h1, h2, h3, h4, g0, g1, g2, g3, g4, hz⟩ := h
  have ha := Nat.lt_of_lt_of_le ha hz.size
  have hc := Nat.lt_of_lt_of_le hc hz.size
  exact ⟨(hb.cell ha).trans h0, (hb.cell ha).trans h1, (hb.cell ha).trans h2, (hb.cell ha).trans h3, (hb.cell ha).trans h4, (hb.cell hc).trans g0, (hb.cell hc).trans g1, (hb.cell hc).trans g2, (hb.cell hc).trans g3, (hb.cell hc).trans g4, hz.trans (hb.mono hz.size)⟩

set_option maxRecDepth 100000 in
set_option maxHeartbeats 20000000 in
theorem table_any (k n : Int) (s : ByteArray) (tb : Option Addr) (tc : Nat) (ts : List Int) (io : Option Addr) (ic : Nat) (is : List Va) (w : World) (h : VaIn w (.mk k n s tb tc ts io ic is)) :
    Calls Tryz.prog 190 #[.slice io is.length ic] w fun e w' => e = .returned (.bool (kysB is)) ∧ Below w.heap.size w w' := by
  have hlen := (va_room h).2.2.2.2
  have hB0 := Lib.hid (Below.refl w.heap.size w)
  have H := Lib.hid h
  clear h
  go_enter Tryz.func190, Tryz.ntmps190
  go_wp2
  go_loopw [3] (fun i wr => ∃ j p, p ≤ is.length + 1 ∧ i = .int .i64 (p : Nat) ∧ Hid (p = 2 * j) ∧ Hid (∀ q, q < j → 2 * q + 1 < is.length → kyBad is (2 * q) = false) ∧ Hid (Below w.heap.size w wr)) (fun i _ => is.length + 2 - (intOf i).toNat)
  case atStart => exact ⟨0, 0, by omega, rfl, Lib.hid rfl, Lib.hid (fun q hq => by omega), hB0⟩
  case round =>
    obtain ⟨j, p, hp, rfl, HJ, HP, HB⟩ := hrel
    clear hB0
    by_cases hpl : p < is.length
    · have hpi : (p : Int) < (is.length : Int) := by omega
      have hjl2 : Hid (2 * j < is.length) := Lib.hid (by have := HJ.out; omega)
      obtain ⟨v, hvi⟩ : ∃ v, is[p]? = some v := ⟨_, List.getElem?_eq_getElem (by omega)⟩
      obtain ⟨a, Ab, Ao, As, rfl, hA, hAb, c0, c1, c2, c3, c4, hin⟩ := va_place (va_below H.out HB.out (Nat.le_refl _)) hvi
      have hg := Lib.hid (item_of hvi)
      have HVN := Lib.hid (va_n hin)
      clear hin hvi
      have hbad : Hid (∀ b : Bool, kyBad is p = b → kyBad is (2 * j) = b) := Lib.hid (fun b hb => by rw [← HJ.out]; exact hb)
      have hnext : Hid (kyBad is p = false → ∀ q, q < j + 1 → 2 * q + 1 < is.length → kyBad is (2 * q) = false) := Lib.hid (fun hb q hq hl => by
        by_cases e : q = j
        · rw [e]; exact hbad.out _ hb
        · exact HP.out q (by omega) hl)
      cases hk : keyB v.k with
      | false =>
        have hS : wr.cell? ⟨Ab, Ao, As⟩ = some (.int .i64 v.k) ∧ wr.cell? ⟨Ab, Ao + 1, none⟩ = some (.int .i64 v.n) ∧ wr.cell? ⟨Ab, Ao + 2, none⟩ = some (.string v.s) ∧ wr.cell? ⟨Ab, Ao + 3, none⟩ = some (.slice v.tb v.ts.length v.tc) ∧ wr.cell? ⟨Ab, Ao + 4, none⟩ = some (.slice v.io v.is.length v.ic) ∧ Below wr.heap.size wr wr.drew := ⟨c0, c1, c2, c3, c4, (Below.refl _ _).drew⟩
        go_upto_region 4 with fail
        refine wp_region_held_drew (S := fun w' => w'.cell? ⟨Ab, Ao, As⟩ = some (.int .i64 v.k) ∧ w'.cell? ⟨Ab, Ao + 1, none⟩ = some (.int .i64 v.n) ∧ w'.cell? ⟨Ab, Ao + 2, none⟩ = some (.string v.s) ∧ w'.cell? ⟨Ab, Ao + 3, none⟩ = some (.slice v.tb v.ts.length v.tc) ∧ w'.cell? ⟨Ab, Ao + 4, none⟩ = some (.slice v.io v.is.length v.ic) ∧ Below wr.heap.size wr w') (by kernel_rfl) hS (fun hHeld => ?_)
        refine wpAnyH_take (i := 0) (v := ?v1) rfl (by kernel_rfl) (by kernel_rfl) (by kernel_rfl) (fun _ _ _ h => h) (Or.inl ⟨by kernel_rfl, ?hy1⟩) (by assumption) ?rest1
        case hy1 =>
          intro w' hSw
          try dsimp only at hSw
          go_simp
          try with_reducible rfl
        simp only [Act.put, List.getElem_toArray, List.getElem_cons_zero, List.getElem_cons_succ, List.setIfInBounds_toArray, List.set_cons_zero, List.set_cons_succ]
        refine wpAnyH_take (i := 1) (v := ?v2) rfl (by kernel_rfl) (by kernel_rfl) (by kernel_rfl) (fun _ _ _ h => h) (Or.inl ⟨by kernel_rfl, ?hy2⟩) (by assumption) ?rest2
        case hy2 =>
          intro w' hSw
          try dsimp only at hSw
          go_simp
          try with_reducible rfl
        simp only [Act.put, List.getElem_toArray, List.getElem_cons_zero, List.getElem_cons_succ, List.setIfInBounds_toArray, List.set_cons_zero, List.set_cons_succ]
        refine wpAnyH_take (i := 2) (v := ?v3) rfl (by kernel_rfl) (by kernel_rfl) (by kernel_rfl) (fun _ _ _ h => h) (Or.inl ⟨by kernel_rfl, ?hy3⟩) (by assumption) ?rest3
        case hy3 =>
          intro w' hSw
          try dsimp only at hSw
          go_simp
          try with_reducible rfl
        simp only [Act.put, List.getElem_toArray, List.getElem_cons_zero, List.getElem_cons_succ, List.setIfInBounds_toArray, List.set_cons_zero, List.set_cons_succ]
        refine wpAnyH_take (i := 3) (v := ?v4) rfl (by kernel_rfl) (by kernel_rfl) (by kernel_rfl) (fun _ _ _ h => h) (Or.inl ⟨by kernel_rfl, ?hy4⟩) (by assumption) ?rest4
        case hy4 =>
          intro w' hSw
          try dsimp only at hSw
          go_simp
          try with_reducible rfl
        simp only [Act.put, List.getElem_toArray, List.getElem_cons_zero, List.getElem_cons_succ, List.setIfInBounds_toArray, List.set_cons_zero, List.set_cons_succ]
        refine wpAnyH_ready (rs := [4]) (by kernel_rfl) (by simp) ?_
        refine AllReadyH.cons rfl (fun K hK => ?_) AllReadyH.nil
        go_simp
        go_at_call 191
        refine (lkey_ret hk _ _ _ _ _ _ _ _ _).mono ?_
        rintro e w2 ⟨rfl, hb2⟩
        go_wp2_with fail
        refine hK.out _ _ (five_kept hb2 hAb hS) (fun hHeld2 => ?_)
        clear hK K hHeld
        replace hS := five_kept hb2 hAb hS
        try simp only [Act.put, List.getElem_toArray, List.getElem_cons_zero, List.getElem_cons_succ, List.setIfInBounds_toArray, List.set_cons_zero, List.set_cons_succ]
        refine wpAnyH_take (i := 5) (v := ?v5) rfl (by kernel_rfl) (by kernel_rfl) (by kernel_rfl) (fun _ _ _ h => h) (Or.inl ⟨by kernel_rfl, ?hy5⟩) (by assumption) ?rest5
        case hy5 =>
          intro w' hSw
          try dsimp only at hSw
          go_simp
          try with_reducible rfl
        simp only [Act.put, List.getElem_toArray, List.getElem_cons_zero, List.getElem_cons_succ, List.setIfInBounds_toArray, List.set_cons_zero, List.set_cons_succ]
        refine wpAnyH_take (i := 6) (v := ?v6) rfl (by kernel_rfl) (by kernel_rfl) (by kernel_rfl) (fun _ _ _ h => h) (Or.inl ⟨by kernel_rfl, ?hy6⟩) (by assumption) ?rest6
        case hy6 =>
          intro w' hSw
          try dsimp only at hSw
          go_simp
          try with_reducible rfl
        simp only [Act.put, List.getElem_toArray, List.getElem_cons_zero, List.getElem_cons_succ, List.setIfInBounds_toArray, List.set_cons_zero, List.set_cons_succ]
        refine wpAnyH_take (i := 7) (v := undef) rfl (by kernel_rfl) (by kernel_rfl) (by kernel_rfl) (fun _ _ _ h => h) (Or.inr ⟨by kernel_rfl, rfl⟩) (by assumption) ?_
        simp only [Act.put, List.getElem_toArray, List.getElem_cons_zero, List.getElem_cons_succ, List.setIfInBounds_toArray, List.set_cons_zero, List.set_cons_succ]
        refine wpAnyH_take (i := 8) (v := undef) rfl (by kernel_rfl) (by kernel_rfl) (by kernel_rfl) (fun _ _ _ h => h) (Or.inr ⟨by kernel_rfl, rfl⟩) (by assumption) ?_
        simp only [Act.put, List.getElem_toArray, List.getElem_cons_zero, List.getElem_cons_succ, List.setIfInBounds_toArray, List.set_cons_zero, List.set_cons_succ]
        refine wpAnyH_take (i := 9) (v := undef) rfl (by kernel_rfl) (by kernel_rfl) (by kernel_rfl) (fun _ _ _ h => h) (Or.inr ⟨by kernel_rfl, rfl⟩) (by assumption) ?_
        simp only [Act.put, List.getElem_toArray, List.getElem_cons_zero, List.getElem_cons_succ, List.setIfInBounds_toArray, List.set_cons_zero, List.set_cons_succ]
        refine wpAnyH_take (i := 10) (v := undef) rfl (by kernel_rfl) (by kernel_rfl) (by kernel_rfl) (fun _ _ _ h => h) (Or.inr ⟨by kernel_rfl, rfl⟩) (by assumption) ?_
        simp only [Act.put, List.getElem_toArray, List.getElem_cons_zero, List.getElem_cons_succ, List.setIfInBounds_toArray, List.set_cons_zero, List.set_cons_succ]
        refine wpAnyH_take (i := 11) (v := undef) rfl (by kernel_rfl) (by kernel_rfl) (by kernel_rfl) (fun _ _ _ h => h) (Or.inr ⟨by kernel_rfl, rfl⟩) (by assumption) ?_
        simp only [Act.put, List.getElem_toArray, List.getElem_cons_zero, List.getElem_cons_succ, List.setIfInBounds_toArray, List.set_cons_zero, List.set_cons_succ]
        refine wpAnyH_take (i := 12) (v := undef) rfl (by kernel_rfl) (by kernel_rfl) (by kernel_rfl) (fun _ _ _ h => h) (Or.inr ⟨by kernel_rfl, rfl⟩) (by assumption) ?_
        simp only [Act.put, List.getElem_toArray, List.getElem_cons_zero, List.getElem_cons_succ, List.setIfInBounds_toArray, List.set_cons_zero, List.set_cons_succ]
        refine wpAnyH_take (i := 13) (v := undef) rfl (by kernel_rfl) (by kernel_rfl) (by kernel_rfl) (fun _ _ _ h => h) (Or.inr ⟨by kernel_rfl, rfl⟩) (by assumption) ?_
        simp only [Act.put, List.getElem_toArray, List.getElem_cons_zero, List.getElem_cons_succ, List.setIfInBounds_toArray, List.set_cons_zero, List.set_cons_succ]
        refine wpAnyH_take (i := 14) (v := undef) rfl (by kernel_rfl) (by kernel_rfl) (by kernel_rfl) (fun _ _ _ h => h) (Or.inr ⟨by kernel_rfl, rfl⟩) (by assumption) ?_
        simp only [Act.put, List.getElem_toArray, List.getElem_cons_zero, List.getElem_cons_succ, List.setIfInBounds_toArray, List.set_cons_zero, List.set_cons_succ]
        refine wpAnyH_take (i := 15) (v := undef) rfl (by kernel_rfl) (by kernel_rfl) (by kernel_rfl) (fun _ _ _ h => h) (Or.inr ⟨by kernel_rfl, rfl⟩) (by assumption) ?_
        simp only [Act.put, List.getElem_toArray, List.getElem_cons_zero, List.getElem_cons_succ, List.setIfInBounds_toArray, List.set_cons_zero, List.set_cons_succ]
        refine wpAnyH_take (i := 16) (v := undef) rfl (by kernel_rfl) (by kernel_rfl) (by kernel_rfl) (fun _ _ _ h => h) (Or.inr ⟨by kernel_rfl, rfl⟩) (by assumption) ?_
        simp only [Act.put, List.getElem_toArray, List.getElem_cons_zero, List.getElem_cons_succ, List.setIfInBounds_toArray, List.set_cons_zero, List.set_cons_succ]
        refine wpAnyH_take (i := 17) (v := undef) rfl (by kernel_rfl) (by kernel_rfl) (by kernel_rfl) (fun _ _ _ h => h) (Or.inr ⟨by kernel_rfl, rfl⟩) (by assumption) ?_
        simp only [Act.put, List.getElem_toArray, List.getElem_cons_zero, List.getElem_cons_succ, List.setIfInBounds_toArray, List.set_cons_zero, List.set_cons_succ]
        refine wpAnyH_take (i := 18) (v := undef) rfl (by kernel_rfl) (by kernel_rfl) (by kernel_rfl) (fun _ _ _ h => h) (Or.inr ⟨by kernel_rfl, rfl⟩) (by assumption) ?_
        simp only [Act.put, List.getElem_toArray, List.getElem_cons_zero, List.getElem_cons_succ, List.setIfInBounds_toArray, List.set_cons_zero, List.set_cons_succ]
        refine wpAnyH_take (i := 19) (v := undef) rfl (by kernel_rfl) (by kernel_rfl) (by kernel_rfl) (fun _ _ _ h => h) (Or.inr ⟨by kernel_rfl, rfl⟩) (by assumption) ?_
        simp only [Act.put, List.getElem_toArray, List.getElem_cons_zero, List.getElem_cons_succ, List.setIfInBounds_toArray, List.set_cons_zero, List.set_cons_succ]
        refine wpAnyH_take (i := 20) (v := undef) rfl (by kernel_rfl) (by kernel_rfl) (by kernel_rfl) (fun _ _ _ h => h) (Or.inr ⟨by kernel_rfl, rfl⟩) (by assumption) ?_
        simp only [Act.put, List.getElem_toArray, List.getElem_cons_zero, List.getElem_cons_succ, List.setIfInBounds_toArray, List.set_cons_zero, List.set_cons_succ]
        refine wpAnyH_take (i := 21) (v := undef) rfl (by kernel_rfl) (by kernel_rfl) (by kernel_rfl) (fun _ _ _ h => h) (Or.inr ⟨by kernel_rfl, rfl⟩) (by assumption) ?_
        simp only [Act.put, List.getElem_toArray, List.getElem_cons_zero, List.getElem_cons_succ, List.setIfInBounds_toArray, List.set_cons_zero, List.set_cons_succ]
        refine wpAnyH_take (i := 22) (v := ?v7) rfl (by kernel_rfl) (by kernel_rfl) (by kernel_rfl) (fun _ _ _ h => h) (Or.inl ⟨by kernel_rfl, ?hy7⟩) (by assumption) ?rest7
        case hy7 =>
          intro w' hSw
          try dsimp only at hSw
          go_simp
          try with_reducible rfl
        simp only [Act.put, List.getElem_toArray, List.getElem_cons_zero, List.getElem_cons_succ, List.setIfInBounds_toArray, List.set_cons_zero, List.set_cons_succ]
        refine wpAnyH_done (by kernel_rfl) ?_ _
        go_wp2
        go_ret
        refine ⟨?_, HB.out.trans (hS.2.2.2.2.2.mono HB.out.size)⟩
        rw [kys_bad hjl2.out (hbad.out _ (by unfold kyBad; rw [hg.out, hk]; rfl))]; rfl
      | true =>
        by_cases h1 : 0 < p
        · obtain ⟨m, hm⟩ : ∃ m, p = m + 2 := ⟨p - 2, by have := HJ.out; omega⟩
          obtain ⟨u, hui⟩ : ∃ u, is[m]? = some u := ⟨_, List.getElem?_eq_getElem (by omega)⟩
          obtain ⟨a', Bb, Bo, Bs, e', hB, hBb, b0, b1, b2, b3, b4, hun⟩ := va_place (va_below H.out HB.out (Nat.le_refl _)) hui
          obtain rfl := Option.some.inj e'
          have HUN := Lib.hid (va_n hun)
          have hg2 := Lib.hid (show is.getD (p - 2) default = u by rw [show p - 2 = m by omega]; exact item_of hui)
          have hsub : (p : Int) - 2 = (m : Int) := by omega
          have hwr : IntKind.i64.wrap (m : Int) = (m : Int) := IntWalk.i64_in _ (by omega)
          have hmi : (m : Int) < (is.length : Int) := by omega
          have f1 : decide ((0 : Int) < (p : Int)) = true := decide_eq_true (by omega)
          have f1n : decide (0 < p) = true := decide_eq_true h1
          have f1' : decide (1 < p) = true := decide_eq_true (by omega)
          have F1 := Lib.hid f1'
          clear hun hui e' hm h1 f1'
          have hkb : Hid (kyBad is p = !riB u v) := Lib.hid (by
            unfold kyBad riB; rw [hg.out, hg2.out, hk, F1.out]
            by_cases e1 : u.k = v.k <;> by_cases e2 : cmpV u.k u.n u.s v.k v.n v.s = -1 <;> simp [e1, e2])
          have hS : wr.cell? ⟨Ab, Ao, As⟩ = some (.int .i64 v.k) ∧ wr.cell? ⟨Ab, Ao + 1, none⟩ = some (.int .i64 v.n) ∧ wr.cell? ⟨Ab, Ao + 2, none⟩ = some (.string v.s) ∧ wr.cell? ⟨Ab, Ao + 3, none⟩ = some (.slice v.tb v.ts.length v.tc) ∧ wr.cell? ⟨Ab, Ao + 4, none⟩ = some (.slice v.io v.is.length v.ic) ∧ wr.cell? ⟨Bb, Bo, Bs⟩ = some (.int .i64 u.k) ∧ wr.cell? ⟨Bb, Bo + 1, none⟩ = some (.int .i64 u.n) ∧ wr.cell? ⟨Bb, Bo + 2, none⟩ = some (.string u.s) ∧ wr.cell? ⟨Bb, Bo + 3, none⟩ = some (.slice u.tb u.ts.length u.tc) ∧ wr.cell? ⟨Bb, Bo + 4, none⟩ = some (.slice u.io u.is.length u.ic) ∧ Below wr.heap.size wr wr.drew := ⟨c0, c1, c2, c3, c4, b0, b1, b2, b3, b4, (Below.refl _ _).drew⟩
          cases hr : riB u v with
          | false =>
            go_upto_region 4 with fail
            go_region_held3 (fun w' => w'.cell? ⟨Ab, Ao, As⟩ = some (.int .i64 v.k) ∧ w'.cell? ⟨Ab, Ao + 1, none⟩ = some (.int .i64 v.n) ∧ w'.cell? ⟨Ab, Ao + 2, none⟩ = some (.string v.s) ∧ w'.cell? ⟨Ab, Ao + 3, none⟩ = some (.slice v.tb v.ts.length v.tc) ∧ w'.cell? ⟨Ab, Ao + 4, none⟩ = some (.slice v.io v.is.length v.ic) ∧ w'.cell? ⟨Bb, Bo, Bs⟩ = some (.int .i64 u.k) ∧ w'.cell? ⟨Bb, Bo + 1, none⟩ = some (.int .i64 u.n) ∧ w'.cell? ⟨Bb, Bo + 2, none⟩ = some (.string u.s) ∧ w'.cell? ⟨Bb, Bo + 3, none⟩ = some (.slice u.tb u.ts.length u.tc) ∧ w'.cell? ⟨Bb, Bo + 4, none⟩ = some (.slice u.io u.is.length u.ic) ∧ Below wr.heap.size wr w') (exact hS) (first
              | (go_at_call 191; refine (lkey_ret hk _ _ _ _ _ _ _ _ _).mono ?_; rintro e w2 ⟨rfl, hb2⟩; replace hS := ten_kept hb2 hAb hBb hS)
              | (go_at_call 192; refine (rising_ret hr _ HUN.out HVN.out).mono ?_; rintro e w3 ⟨rfl, hb3⟩; replace hS := ten_kept hb3 hAb hBb hS))
            go_wp2
            go_ret
            refine ⟨?_, HB.out.trans (hS.2.2.2.2.2.2.2.2.2.2.mono HB.out.size)⟩
            rw [kys_bad hjl2.out (hbad.out _ (by rw [hkb.out, hr]; rfl))]; rfl
          | true =>
            go_upto_region 4 with fail
            go_region_held3 (fun w' => w'.cell? ⟨Ab, Ao, As⟩ = some (.int .i64 v.k) ∧ w'.cell? ⟨Ab, Ao + 1, none⟩ = some (.int .i64 v.n) ∧ w'.cell? ⟨Ab, Ao + 2, none⟩ = some (.string v.s) ∧ w'.cell? ⟨Ab, Ao + 3, none⟩ = some (.slice v.tb v.ts.length v.tc) ∧ w'.cell? ⟨Ab, Ao + 4, none⟩ = some (.slice v.io v.is.length v.ic) ∧ w'.cell? ⟨Bb, Bo, Bs⟩ = some (.int .i64 u.k) ∧ w'.cell? ⟨Bb, Bo + 1, none⟩ = some (.int .i64 u.n) ∧ w'.cell? ⟨Bb, Bo + 2, none⟩ = some (.string u.s) ∧ w'.cell? ⟨Bb, Bo + 3, none⟩ = some (.slice u.tb u.ts.length u.tc) ∧ w'.cell? ⟨Bb, Bo + 4, none⟩ = some (.slice u.io u.is.length u.ic) ∧ Below wr.heap.size wr w') (exact hS) (first
              | (go_at_call 191; refine (lkey_ret hk _ _ _ _ _ _ _ _ _).mono ?_; rintro e w2 ⟨rfl, hb2⟩; replace hS := ten_kept hb2 hAb hBb hS)
              | (go_at_call 192; refine (rising_ret hr _ HUN.out HVN.out).mono ?_; rintro e w3 ⟨rfl, hb3⟩; replace hS := ten_kept hb3 hAb hBb hS))
            go_wp2
            exact ⟨⟨j + 1, p + 2, by omega, by go_num, Lib.hid (by have := HJ.out; omega), Lib.hid (hnext.out (by rw [hkb.out, hr]; rfl)), Lib.hid (HB.out.trans (hS.2.2.2.2.2.2.2.2.2.2.mono HB.out.size))⟩, by simp [intOf]; omega⟩
        · have f1 : decide ((0 : Int) < (p : Int)) = false := decide_eq_false (by omega)
          have f1n : decide (0 < p) = false := decide_eq_false h1
          have f1' : decide (1 < p) = false := decide_eq_false (by omega)
          have F1 := Lib.hid f1'
          clear h1 f1'
          have hS : wr.cell? ⟨Ab, Ao, As⟩ = some (.int .i64 v.k) ∧ wr.cell? ⟨Ab, Ao + 1, none⟩ = some (.int .i64 v.n) ∧ wr.cell? ⟨Ab, Ao + 2, none⟩ = some (.string v.s) ∧ wr.cell? ⟨Ab, Ao + 3, none⟩ = some (.slice v.tb v.ts.length v.tc) ∧ wr.cell? ⟨Ab, Ao + 4, none⟩ = some (.slice v.io v.is.length v.ic) ∧ Below wr.heap.size wr wr.drew := ⟨c0, c1, c2, c3, c4, (Below.refl _ _).drew⟩
          go_upto_region 4 with fail
          refine wp_region_held_drew (S := fun w' => w'.cell? ⟨Ab, Ao, As⟩ = some (.int .i64 v.k) ∧ w'.cell? ⟨Ab, Ao + 1, none⟩ = some (.int .i64 v.n) ∧ w'.cell? ⟨Ab, Ao + 2, none⟩ = some (.string v.s) ∧ w'.cell? ⟨Ab, Ao + 3, none⟩ = some (.slice v.tb v.ts.length v.tc) ∧ w'.cell? ⟨Ab, Ao + 4, none⟩ = some (.slice v.io v.is.length v.ic) ∧ Below wr.heap.size wr w') (by kernel_rfl) hS (fun hHeld => ?_)
          refine wpAnyH_take (i := 0) (v := ?v8) rfl (by kernel_rfl) (by kernel_rfl) (by kernel_rfl) (fun _ _ _ h => h) (Or.inl ⟨by kernel_rfl, ?hy8⟩) (by assumption) ?rest8
          case hy8 =>
            intro w' hSw
            try dsimp only at hSw
            go_simp
            try with_reducible rfl
          simp only [Act.put, List.getElem_toArray, List.getElem_cons_zero, List.getElem_cons_succ, List.setIfInBounds_toArray, List.set_cons_zero, List.set_cons_succ]
          refine wpAnyH_take (i := 1) (v := ?v9) rfl (by kernel_rfl) (by kernel_rfl) (by kernel_rfl) (fun _ _ _ h => h) (Or.inl ⟨by kernel_rfl, ?hy9⟩) (by assumption) ?rest9
          case hy9 =>
            intro w' hSw
            try dsimp only at hSw
            go_simp
            try with_reducible rfl
          simp only [Act.put, List.getElem_toArray, List.getElem_cons_zero, List.getElem_cons_succ, List.setIfInBounds_toArray, List.set_cons_zero, List.set_cons_succ]
          refine wpAnyH_take (i := 2) (v := ?v10) rfl (by kernel_rfl) (by kernel_rfl) (by kernel_rfl) (fun _ _ _ h => h) (Or.inl ⟨by kernel_rfl, ?hy10⟩) (by assumption) ?rest10
          case hy10 =>
            intro w' hSw
            try dsimp only at hSw
            go_simp
            try with_reducible rfl
          simp only [Act.put, List.getElem_toArray, List.getElem_cons_zero, List.getElem_cons_succ, List.setIfInBounds_toArray, List.set_cons_zero, List.set_cons_succ]
          refine wpAnyH_take (i := 3) (v := ?v11) rfl (by kernel_rfl) (by kernel_rfl) (by kernel_rfl) (fun _ _ _ h => h) (Or.inl ⟨by kernel_rfl, ?hy11⟩) (by assumption) ?rest11
          case hy11 =>
            intro w' hSw
            try dsimp only at hSw
            go_simp
            try with_reducible rfl
          simp only [Act.put, List.getElem_toArray, List.getElem_cons_zero, List.getElem_cons_succ, List.setIfInBounds_toArray, List.set_cons_zero, List.set_cons_succ]
          refine wpAnyH_ready (rs := [4]) (by kernel_rfl) (by simp) ?_
          refine AllReadyH.cons rfl (fun K hK => ?_) AllReadyH.nil
          go_simp
          go_at_call 191
          refine (lkey_ret hk _ _ _ _ _ _ _ _ _).mono ?_
          rintro e w2 ⟨rfl, hb2⟩
          go_wp2_with fail
          refine hK.out _ _ (five_kept hb2 hAb hS) (fun hHeld2 => ?_)
          clear hK K hHeld
          replace hS := five_kept hb2 hAb hS
          try simp only [Act.put, List.getElem_toArray, List.getElem_cons_zero, List.getElem_cons_succ, List.setIfInBounds_toArray, List.set_cons_zero, List.set_cons_succ]
          refine wpAnyH_take (i := 5) (v := ?v12) rfl (by kernel_rfl) (by kernel_rfl) (by kernel_rfl) (fun _ _ _ h => h) (Or.inl ⟨by kernel_rfl, ?hy12⟩) (by assumption) ?rest12
          case hy12 =>
            intro w' hSw
            try dsimp only at hSw
            go_simp
            try with_reducible rfl
          simp only [Act.put, List.getElem_toArray, List.getElem_cons_zero, List.getElem_cons_succ, List.setIfInBounds_toArray, List.set_cons_zero, List.set_cons_succ]
          refine wpAnyH_take (i := 6) (v := ?v13) rfl (by kernel_rfl) (by kernel_rfl) (by kernel_rfl) (fun _ _ _ h => h) (Or.inl ⟨by kernel_rfl, ?hy13⟩) (by assumption) ?rest13
          case hy13 =>
            intro w' hSw
            try dsimp only at hSw
            go_simp
            try with_reducible rfl
          simp only [Act.put, List.getElem_toArray, List.getElem_cons_zero, List.getElem_cons_succ, List.setIfInBounds_toArray, List.set_cons_zero, List.set_cons_succ]
          refine wpAnyH_take (i := 7) (v := ?v14) rfl (by kernel_rfl) (by kernel_rfl) (by kernel_rfl) (fun _ _ _ h => h) (Or.inl ⟨by kernel_rfl, ?hy14⟩) (by assumption) ?rest14
          case hy14 =>
            intro w' hSw
            try dsimp only at hSw
            go_simp
            try with_reducible rfl
          simp only [Act.put, List.getElem_toArray, List.getElem_cons_zero, List.getElem_cons_succ, List.setIfInBounds_toArray, List.set_cons_zero, List.set_cons_succ]
          refine wpAnyH_take (i := 8) (v := ?v15) rfl (by kernel_rfl) (by kernel_rfl) (by kernel_rfl) (fun _ _ _ h => h) (Or.inl ⟨by kernel_rfl, ?hy15⟩) (by assumption) ?rest15
          case hy15 =>
            intro w' hSw
            try dsimp only at hSw
            go_simp
            try with_reducible rfl
          simp only [Act.put, List.getElem_toArray, List.getElem_cons_zero, List.getElem_cons_succ, List.setIfInBounds_toArray, List.set_cons_zero, List.set_cons_succ]
          refine wpAnyH_take (i := 9) (v := ?v16) rfl (by kernel_rfl) (by kernel_rfl) (by kernel_rfl) (fun _ _ _ h => h) (Or.inl ⟨by kernel_rfl, ?hy16⟩) (by assumption) ?rest16
          case hy16 =>
            intro w' hSw
            try dsimp only at hSw
            go_simp
            try with_reducible rfl
          simp only [Act.put, List.getElem_toArray, List.getElem_cons_zero, List.getElem_cons_succ, List.setIfInBounds_toArray, List.set_cons_zero, List.set_cons_succ]
          refine wpAnyH_take (i := 10) (v := undef) rfl (by kernel_rfl) (by kernel_rfl) (by kernel_rfl) (fun _ _ _ h => h) (Or.inr ⟨by kernel_rfl, rfl⟩) (by assumption) ?_
          simp only [Act.put, List.getElem_toArray, List.getElem_cons_zero, List.getElem_cons_succ, List.setIfInBounds_toArray, List.set_cons_zero, List.set_cons_succ]
          refine wpAnyH_take (i := 11) (v := undef) rfl (by kernel_rfl) (by kernel_rfl) (by kernel_rfl) (fun _ _ _ h => h) (Or.inr ⟨by kernel_rfl, rfl⟩) (by assumption) ?_
          simp only [Act.put, List.getElem_toArray, List.getElem_cons_zero, List.getElem_cons_succ, List.setIfInBounds_toArray, List.set_cons_zero, List.set_cons_succ]
          refine wpAnyH_take (i := 12) (v := undef) rfl (by kernel_rfl) (by kernel_rfl) (by kernel_rfl) (fun _ _ _ h => h) (Or.inr ⟨by kernel_rfl, rfl⟩) (by assumption) ?_
          simp only [Act.put, List.getElem_toArray, List.getElem_cons_zero, List.getElem_cons_succ, List.setIfInBounds_toArray, List.set_cons_zero, List.set_cons_succ]
          refine wpAnyH_take (i := 13) (v := undef) rfl (by kernel_rfl) (by kernel_rfl) (by kernel_rfl) (fun _ _ _ h => h) (Or.inr ⟨by kernel_rfl, rfl⟩) (by assumption) ?_
          simp only [Act.put, List.getElem_toArray, List.getElem_cons_zero, List.getElem_cons_succ, List.setIfInBounds_toArray, List.set_cons_zero, List.set_cons_succ]
          refine wpAnyH_take (i := 14) (v := undef) rfl (by kernel_rfl) (by kernel_rfl) (by kernel_rfl) (fun _ _ _ h => h) (Or.inr ⟨by kernel_rfl, rfl⟩) (by assumption) ?_
          simp only [Act.put, List.getElem_toArray, List.getElem_cons_zero, List.getElem_cons_succ, List.setIfInBounds_toArray, List.set_cons_zero, List.set_cons_succ]
          refine wpAnyH_take (i := 15) (v := undef) rfl (by kernel_rfl) (by kernel_rfl) (by kernel_rfl) (fun _ _ _ h => h) (Or.inr ⟨by kernel_rfl, rfl⟩) (by assumption) ?_
          simp only [Act.put, List.getElem_toArray, List.getElem_cons_zero, List.getElem_cons_succ, List.setIfInBounds_toArray, List.set_cons_zero, List.set_cons_succ]
          refine wpAnyH_take (i := 16) (v := undef) rfl (by kernel_rfl) (by kernel_rfl) (by kernel_rfl) (fun _ _ _ h => h) (Or.inr ⟨by kernel_rfl, rfl⟩) (by assumption) ?_
          simp only [Act.put, List.getElem_toArray, List.getElem_cons_zero, List.getElem_cons_succ, List.setIfInBounds_toArray, List.set_cons_zero, List.set_cons_succ]
          refine wpAnyH_take (i := 17) (v := undef) rfl (by kernel_rfl) (by kernel_rfl) (by kernel_rfl) (fun _ _ _ h => h) (Or.inr ⟨by kernel_rfl, rfl⟩) (by assumption) ?_
          simp only [Act.put, List.getElem_toArray, List.getElem_cons_zero, List.getElem_cons_succ, List.setIfInBounds_toArray, List.set_cons_zero, List.set_cons_succ]
          refine wpAnyH_take (i := 18) (v := undef) rfl (by kernel_rfl) (by kernel_rfl) (by kernel_rfl) (fun _ _ _ h => h) (Or.inr ⟨by kernel_rfl, rfl⟩) (by assumption) ?_
          simp only [Act.put, List.getElem_toArray, List.getElem_cons_zero, List.getElem_cons_succ, List.setIfInBounds_toArray, List.set_cons_zero, List.set_cons_succ]
          refine wpAnyH_take (i := 19) (v := undef) rfl (by kernel_rfl) (by kernel_rfl) (by kernel_rfl) (fun _ _ _ h => h) (Or.inr ⟨by kernel_rfl, rfl⟩) (by assumption) ?_
          simp only [Act.put, List.getElem_toArray, List.getElem_cons_zero, List.getElem_cons_succ, List.setIfInBounds_toArray, List.set_cons_zero, List.set_cons_succ]
          refine wpAnyH_take (i := 20) (v := undef) rfl (by kernel_rfl) (by kernel_rfl) (by kernel_rfl) (fun _ _ _ h => h) (Or.inr ⟨by kernel_rfl, rfl⟩) (by assumption) ?_
          simp only [Act.put, List.getElem_toArray, List.getElem_cons_zero, List.getElem_cons_succ, List.setIfInBounds_toArray, List.set_cons_zero, List.set_cons_succ]
          refine wpAnyH_take (i := 21) (v := ?v17) rfl (by kernel_rfl) (by kernel_rfl) (by kernel_rfl) (fun _ _ _ h => h) (Or.inl ⟨by kernel_rfl, ?hy17⟩) (by assumption) ?rest17
          case hy17 =>
            intro w' hSw
            try dsimp only at hSw
            go_simp
            try with_reducible rfl
          simp only [Act.put, List.getElem_toArray, List.getElem_cons_zero, List.getElem_cons_succ, List.setIfInBounds_toArray, List.set_cons_zero, List.set_cons_succ]
          refine wpAnyH_take (i := 22) (v := ?v18) rfl (by kernel_rfl) (by kernel_rfl) (by kernel_rfl) (fun _ _ _ h => h) (Or.inl ⟨by kernel_rfl, ?hy18⟩) (by assumption) ?rest18
          case hy18 =>
            intro w' hSw
            try dsimp only at hSw
            go_simp
            try with_reducible rfl
          simp only [Act.put, List.getElem_toArray, List.getElem_cons_zero, List.getElem_cons_succ, List.setIfInBounds_toArray, List.set_cons_zero, List.set_cons_succ]
          refine wpAnyH_done (by kernel_rfl) ?_ _
          go_wp2
          exact ⟨⟨j + 1, p + 2, by omega, by go_num, Lib.hid (by have := HJ.out; omega), Lib.hid (hnext.out (by unfold kyBad; rw [hg.out, hk, F1.out]; rfl)), Lib.hid (HB.out.trans (hS.2.2.2.2.2.mono HB.out.size))⟩, by simp [intOf]; omega⟩
    · have hji : ¬ (p : Int) < (is.length : Int) := by omega
      have h0 : Hid (∀ q, q < is.length → 2 * q + 1 < is.length → kyBad is (2 * q) = false) := Lib.hid (fun q hq hl => HP.out q (by have := HJ.out; omega) hl)
      have e2 : (is.length : Int).tmod 2 = (is.length : Int) % 2 := Int.tmod_eq_emod_of_nonneg (by omega)
      have e3 : decide (is.length % 2 = 0) = ((is.length : Int) % 2 == 0) := by
        by_cases h : is.length % 2 = 0
        · have : (is.length : Int) % 2 = 0 := by omega
          rw [this, h]; rfl
        · have : (is.length : Int) % 2 = 1 := by omega
          rw [this, decide_eq_false h]; rfl
      have E3 := Lib.hid e3
      clear e3
      go_wp2
      go_ret
      refine ⟨?_, HB.out⟩
      unfold kysB
      rw [decide_eq_true h0.out, E3.out]; rfl
end Go.Proofs.YtdogddliifbjnaaGreat.Va
