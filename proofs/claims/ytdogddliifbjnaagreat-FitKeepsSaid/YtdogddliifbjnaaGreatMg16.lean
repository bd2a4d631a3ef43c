/- Types: the contract of concourselaw10.Great, and what it keeps small. -/
import Derived.Test.YtdogddliifbjnaaGreatMg08
namespace Go.Proofs.YtdogddliifbjnaaGreat.Ck
open Go.RowKit Cm _root_.Go.Proofs.YtdogddliifbjnaaGreat.Nm
set_option maxRecDepth 100000
set_option linter.unusedVariables false
set_option linter.unusedSimpArgs false

theorem Yx.place {o : Option Addr} {len j : Nat} {F : Fy} {w : World} (h : Yx o len F w) (hj : j < len) :
    ∃ a Ab Ao As, o = some a ∧ a.add (j * 5) = ⟨Ab, Ao, As⟩ ∧ Ab < w.heap.size ∧ w.cell? ⟨Ab, Ao, As⟩ = some (.int .i64 (F.T j)) ∧ w.cell? ⟨Ab, Ao + 1, none⟩ = some (.string (F.N j)) ∧
      w.cell? ⟨Ab, Ao + 2, none⟩ = some (.int .i64 (F.Y j).k) ∧ w.cell? ⟨Ab, Ao + 3, none⟩ = some (.string (F.Y j).n) ∧ w.cell? ⟨Ab, Ao + 4, none⟩ = some (.slice (F.Y j).o (F.Y j).of.length (F.Y j).c) ∧ TyIn w (F.Y j) :=  by
  obtain ⟨a, Ab, Ao, As, h1, h2, h3, h4, h5, h6, h7, h8⟩ := h.1.place hj
  exact ⟨a, Ab, Ao, As, h1, h2, h3, h4, h5, h6, h7, h8, (h.2 j hj).1⟩

/-- Is a declaration too great, at its place? -/
def gpB (D : Dl) (F : Nat → Fy) (i : Nat) : Bool := decide (20 < i) || decide (30 < D.fl i) || decide (30 < D.ml i) || anB (fun k => !smB ((F i).Y k) 0) (D.fl i)
def grB (D : Dl) (F : Nat → Fy) (n : Nat) : Bool := anB (gpB D F) n
/-- What is not too great is small. -/
structure Sml (D : Dl) (F : Nat → Fy) (n : Nat) : Prop where
  le : n ≤ 21
  fl : ∀ i, i < n → D.fl i ≤ 30
  ml : ∀ i, i < n → D.ml i ≤ 30
  dp : ∀ i k, i < n → k < D.fl i → dpT ((F i).Y k) ≤ 21
theorem gr_small {D : Dl} {F : Nat → Fy} {n : Nat} (h : grB D F n = false) : Sml D F n := by
  have hp : ∀ i, i < n → 20 ≥ i ∧ D.fl i ≤ 30 ∧ D.ml i ≤ 30 ∧ ∀ k, k < D.fl i → smB ((F i).Y k) 0 = true := fun i hi => by
    have := anB_false.1 h i hi
    unfold gpB at this
    simp only [Bool.or_eq_false_iff, decide_eq_false_iff_not] at this
    obtain ⟨⟨⟨a, b⟩, c⟩, d⟩ := this
    exact ⟨by omega, by omega, by omega, fun k hk => by simpa using anB_false.1 d k hk⟩
  refine ⟨?_, fun i hi => (hp i hi).2.1, fun i hi => (hp i hi).2.2.1, fun i k hi hk => ?_⟩
  · by_cases e : n ≤ 21
    · exact e
    · have := (hp 21 (by omega)).1; omega
  · have := sm_deep _ _ ((hp i hi).2.2.2 k hk); omega
theorem Sml.less {D : Dl} {F : Nat → Fy} {n m : Nat} (h : Sml D F n) (hm : m ≤ n) : Sml D F m :=
  ⟨by have := h.le; omega, fun i hi => h.fl i (by omega), fun i hi => h.ml i (by omega), fun i k hi hk => h.dp i k (by omega) hk⟩

set_option maxRecDepth 100000 in
set_option maxHeartbeats 1000000 in
theorem great_any (o : Option Addr) (len cap : Nat) (D : Dl) (F : Nat → Fy) (M : Nat → Ml) (w : World) (h : Ax o len D F M w) :
    Calls Tryz.prog 4 #[.slice o len cap] w fun e w' => e = .returned (.bool (grB D F len)) ∧ Below w.heap.size w w' := by
  have hlen := h.1.2
  have hlen2 : len ≤ 9223372036854775807 := by omega
  have H := Lib.hid h
  clear h
  go_enter Tryz.func4, Tryz.ntmps4
  go_wp2
  go_loopw [3] (fun i wr => ∃ j, j ≤ len ∧ i = .int .i64 (j : Nat) ∧ Hid (grB D F j = false) ∧ Hid (Below w.heap.size w wr)) (fun i _ => len - (intOf i).toNat)
  case atStart => exact ⟨0, by omega, rfl, Lib.hid rfl, Lib.hid (Below.refl _ _)⟩
  case round =>
    obtain ⟨j, hj, rfl, HG, HB⟩ := hrel
    by_cases hjl : j < len
    · have hji : (j : Int) < (len : Int) := by omega
      have hAx := H.out.below HB.out (Nat.le_refl _)
      have hfl : D.fl j ≤ 9223372036854775807 := (hAx.2 j hjl).1.1.2
      have hml : D.ml j ≤ 9223372036854775807 := (hAx.2 j hjl).2.2
      have HY := Lib.hid (hAx.2 j hjl).1
      obtain ⟨a, Ab, Ao, As, rfl, hA, hAb, c0, c1, c2, c3, c4⟩ := Dx.place hAx.1 hjl
      have HC := Lib.hid (And.intro c2 c3)
      clear hAx
      have hgt : gpB D F j = true → grB D F len = true := fun h => anB_true hjl h
      have hg1 : decide (20 < j) = true ∨ decide (30 < D.fl j) = true ∨ decide (30 < D.ml j) = true → grB D F len = true := fun h => hgt (by unfold gpB; rcases h with h | h | h <;> simp [h])
      have HG1 := Lib.hid hg1
      have HGT := Lib.hid hgt
      clear hg1 hgt
      by_cases g1 : 20 < j
      · have g1' : (20 : Int) < (j : Int) := by omega
        go_wp2
        go_ret
        exact ⟨by rw [HG1.out (.inl (decide_eq_true g1))]; rfl, HB.out⟩
      · have g1' : ¬ (20 : Int) < (j : Int) := by omega
        by_cases g2 : 30 < D.fl j
        · have g2' : (30 : Int) < (D.fl j : Int) := by omega
          go_wp2
          go_ret
          exact ⟨by rw [HG1.out (.inr (.inl (decide_eq_true g2)))]; rfl, HB.out⟩
        · have g2' : ¬ (30 : Int) < (D.fl j : Int) := by omega
          by_cases g3 : 30 < D.ml j
          · have g3' : (30 : Int) < (D.ml j : Int) := by omega
            go_wp2
            go_ret
            exact ⟨by rw [HG1.out (.inr (.inr (decide_eq_true g3)))]; rfl, HB.out⟩
          · have g3' : ¬ (30 : Int) < (D.ml j : Int) := by omega
            go_wp2
            clear c0 c1 c2 c3 c4
            go_loopw [4] (fun i wq => ∃ k, k ≤ D.fl j ∧ i = .int .i64 (k : Nat) ∧ Hid (anB (fun k => !smB ((F j).Y k) 0) k = false) ∧ Hid (Below wr.heap.size wr wq)) (fun i _ => D.fl j - (intOf i).toNat)
            case atStart => exact ⟨0, by omega, rfl, Lib.hid rfl, Lib.hid (Below.refl _ _)⟩
            case round =>
              obtain ⟨k, hk, rfl, HK, HB2⟩ := hrel
              have c2 := (HB2.out.cell (p := ⟨Ab, Ao + 2, none⟩) hAb).trans HC.out.1
              by_cases hkl : k < D.fl j
              · have hki : (k : Int) < (D.fl j : Int) := by omega
                obtain ⟨a2, Bb, Bo, Bs, hfo, hB, hBb, e0, e1, e2, e3, e4, hin⟩ := (HY.out.below HB2.out (Nat.le_refl _)).place hkl
                rw [hfo] at c2
                clear hfo
                have HIN := Lib.hid hin
                have hsz := HB2.out.size
                cases hb : smB ((F j).Y k) 0 with
                | true =>
                  go_wp2_with (go_at_call 11; refine (small_any _ ((F j).Y k) 0 _ (Nat.lt_succ_self _) HIN.out (by omega)).mono ?_; rw [hb]; rintro e w2 ⟨rfl, hb2⟩)
                  go_roundw
                  case rel => exact ⟨k + 1, by omega, by go_num, Lib.hid (anB_next HK.out (by rw [hb]; rfl)), Lib.hid (HB2.out.trans (hb2.mono hsz))⟩
                  case measure => simp [intOf]; omega
                | false =>
                  go_wp2_with (go_at_call 11; refine (small_any _ ((F j).Y k) 0 _ (Nat.lt_succ_self _) HIN.out (by omega)).mono ?_; rw [hb]; rintro e w2 ⟨rfl, hb2⟩)
                  go_ret
                  have hgg : gpB D F j = true := by unfold gpB; rw [anB_true hkl (by rw [hb]; rfl), Bool.or_true]
                  exact ⟨by rw [HGT.out hgg]; rfl, HB.out.trans ((HB2.out.trans (hb2.mono hsz)).mono HB.out.size)⟩
              · have hki : ¬ (k : Int) < (D.fl j : Int) := by omega
                obtain rfl : k = D.fl j := by omega
                go_wp2
                go_roundw
                case rel => exact ⟨j + 1, by omega, by go_num, Lib.hid (anB_next HG.out (by unfold gpB; rw [decide_eq_false g1, decide_eq_false g2, decide_eq_false g3, HK.out]; rfl)), Lib.hid (HB.out.trans (HB2.out.mono HB.out.size))⟩
                case measure => simp [intOf]; omega
    · have hji : ¬ (j : Int) < (len : Int) := by omega
      obtain rfl : j = len := by omega
      go_wp2
      go_ret
      exact ⟨by rw [HG.out]; rfl, HB.out⟩
end Go.Proofs.YtdogddliifbjnaaGreat.Ck
