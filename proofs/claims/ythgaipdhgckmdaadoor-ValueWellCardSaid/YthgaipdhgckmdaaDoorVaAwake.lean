/- Values: the laws' example. -/
import Derived.Test.YthgaipdhgckmdaaDoorVaProg
namespace Go.Proofs.YthgaipdhgckmdaaDoor.Va
open Go.RowKit Cm
set_option linter.unusedVariables false
set_option linter.unusedSimpArgs false

theorem Cs_newAt (w : World) (b : Nat) (vs : List Value) (T : TypeId) (h : w.heap.size = b) : Cs b vs (w.alloc (.cells vs.toArray T)) := by
  subst h; exact Cs.new w vs T
/-- The example's memory. -/
def awW (w : World) : World :=
  ((((w.alloc (.cells #[.int .i64 2, .int .i64 1, .string ⟨#[]⟩, .slice none 0 0, .slice none 0 0, .int .i64 2, .int .i64 2, .string ⟨#[]⟩, .slice none 0 0, .slice none 0 0] 25)).alloc
    (.cells #[.int .i64 7, .int .i64 0, .string ⟨#[]⟩, .slice none 0 0, .slice (some ⟨w.heap.size, 0, none⟩) 2 2] 25)).alloc
    (.cells #[.int .i64 1] 3)).alloc
    (.cells #[.int .i64 7, .int .i64 0, .string ⟨#[]⟩, .slice none 0 0, .slice (some ⟨w.heap.size, 0, none⟩) 2 2] 25)).alloc
    (.cells #[.int .i64 9, .int .i64 0, .string ⟨#[]⟩, .slice (some ⟨w.heap.size + 1 + 1, 0, none⟩) 1 1, .slice (some ⟨w.heap.size + 1 + 1 + 1, 0, none⟩) 1 1] 25)
def awI (n : Int) : Va := .mk 2 n ⟨#[]⟩ none 0 [] none 0 []
def awL (H : Nat) : Va := .mk 7 0 ⟨#[]⟩ none 0 [] (some ⟨H, 0, none⟩) 2 [awI 1, awI 2]
def awV (H : Nat) : Va := .mk 9 0 ⟨#[]⟩ (some ⟨H + 1 + 1, 0, none⟩) 1 [1] (some ⟨H + 1 + 1 + 1, 0, none⟩) 1 [awL H]
theorem awW_cells (w : World) :
    Cs w.heap.size [.int .i64 2, .int .i64 1, .string ⟨#[]⟩, .slice none 0 0, .slice none 0 0, .int .i64 2, .int .i64 2, .string ⟨#[]⟩, .slice none 0 0, .slice none 0 0] (awW w) ∧
    Cs (w.heap.size + 1 + 1) [.int .i64 1] (awW w) ∧
    Cs (w.heap.size + 1 + 1 + 1) [.int .i64 7, .int .i64 0, .string ⟨#[]⟩, .slice none 0 0, .slice (some ⟨w.heap.size, 0, none⟩) 2 2] (awW w) ∧
    Cs (w.heap.size + 1 + 1 + 1 + 1) [.int .i64 9, .int .i64 0, .string ⟨#[]⟩, .slice (some ⟨w.heap.size + 1 + 1, 0, none⟩) 1 1, .slice (some ⟨w.heap.size + 1 + 1 + 1, 0, none⟩) 1 1] (awW w) ∧
    Below w.heap.size w (awW w) := by
  unfold awW
  refine ⟨((((Cs.new w _ _).alloc _).alloc _).alloc _).alloc _, ((Cs_newAt _ _ _ _ (by simp)).alloc _).alloc _, (Cs_newAt _ _ _ _ (by simp)).alloc _, Cs_newAt _ _ _ _ (by simp), ?_⟩
  exact (((((Below.refl w.heap.size w).alloc (Nat.le_refl _) _).alloc (by simp) _).alloc (by simp; omega) _).alloc (by simp; omega) _).alloc (by simp; omega) _
theorem nil_in (W : World) : In none [] W := fun i t hi => by simp at hi
theorem leaf_in (W : World) (k n : Int) (hk : -9223372036854775808 ≤ k ∧ k ≤ 9223372036854775807) (hn : -9223372036854775808 ≤ n ∧ n ≤ 9223372036854775807) : VaIn W (.mk k n ⟨#[]⟩ none 0 [] none 0 []) :=
  .mk _ _ _ _ _ _ _ _ _ hk hn (by decide) (by simp) (by simp) (nil_in W) (fun i v hv => by simp at hv) (fun i v hv => by simp at hv)
theorem awV_in (w : World) : VaIn (awW w) (awV w.heap.size) := by
  obtain ⟨hA, hC, hD, hE, hB⟩ := awW_cells w
  have hl : VaIn (awW w) (awL w.heap.size) := by
    refine .mk _ _ _ _ _ _ _ _ _ (by decide) (by decide) (by decide) (by simp) (by simp) (nil_in _) (fun i v hv => ⟨_, rfl, hA.lt, fun j u hu => ?_⟩) (fun i v hv => ?_)
    · match i, hv with
      | 0, hv =>
        obtain rfl : awI 1 = v := by simpa using hv
        match j, hu with
        | 0, hu => obtain rfl := Option.some.inj hu; exact hA.cell (i := 0) rfl
        | 1, hu => obtain rfl := Option.some.inj hu; exact hA.cell (i := 1) rfl
        | 2, hu => obtain rfl := Option.some.inj hu; exact hA.cell (i := 2) rfl
        | 3, hu => obtain rfl := Option.some.inj hu; exact hA.cell (i := 3) rfl
        | 4, hu => obtain rfl := Option.some.inj hu; exact hA.cell (i := 4) rfl
        | j + 5, hu => simp [Va.at5] at hu
      | 1, hv =>
        obtain rfl : awI 2 = v := by simpa using hv
        match j, hu with
        | 0, hu => obtain rfl := Option.some.inj hu; exact hA.cell (i := 5) rfl
        | 1, hu => obtain rfl := Option.some.inj hu; exact hA.cell (i := 6) rfl
        | 2, hu => obtain rfl := Option.some.inj hu; exact hA.cell (i := 7) rfl
        | 3, hu => obtain rfl := Option.some.inj hu; exact hA.cell (i := 8) rfl
        | 4, hu => obtain rfl := Option.some.inj hu; exact hA.cell (i := 9) rfl
        | j + 5, hu => simp [Va.at5] at hu
      | i + 2, hv => simp at hv
    · match i, hv with
      | 0, hv => obtain rfl : awI 1 = v := by simpa using hv
                 exact leaf_in _ _ _ (by decide) (by decide)
      | 1, hv => obtain rfl : awI 2 = v := by simpa using hv
                 exact leaf_in _ _ _ (by decide) (by decide)
      | i + 2, hv => simp at hv
  refine .mk _ _ _ _ _ _ _ _ _ (by decide) (by decide) (by decide) (by simp) (by simp) (fun i t hi => ?_) (fun i v hv => ⟨_, rfl, hD.lt, fun j u hu => ?_⟩) (fun i v hv => ?_)
  · match i, hi with
    | 0, hi => obtain rfl : (1 : Int) = t := by simpa using hi
               exact ⟨⟨_, rfl, hC.lt, hC.cell (i := 0) rfl⟩, by decide, by decide⟩
    | i + 1, hi => simp at hi
  · match i, hv with
    | 0, hv =>
      obtain rfl : awL w.heap.size = v := by simpa using hv
      match j, hu with
      | 0, hu => obtain rfl := Option.some.inj hu; exact hD.cell (i := 0) rfl
      | 1, hu => obtain rfl := Option.some.inj hu; exact hD.cell (i := 1) rfl
      | 2, hu => obtain rfl := Option.some.inj hu; exact hD.cell (i := 2) rfl
      | 3, hu => obtain rfl := Option.some.inj hu; exact hD.cell (i := 3) rfl
      | 4, hu => obtain rfl := Option.some.inj hu; exact hD.cell (i := 4) rfl
      | j + 5, hu => simp [Va.at5] at hu
    | i + 1, hv => simp at hv
  · match i, hv with
    | 0, hv => obtain rfl : awL w.heap.size = v := by simpa using hv
               exact hl
    | i + 1, hv => simp at hv
theorem awV_text (H : Nat) : txV (awV H) = [40, 49, 61, 91, 49, 44, 50, 93, 41] := by
  have h1 : dgL 1 = [49] := dg_small (by decide)
  have h2 : dgL 2 = [50] := dg_small (by decide)
  simp [awV, awL, awI, txV_eq, itV_eq, itV_nil, aheadL, sgL, h1, h2]
theorem awV_deep (H : Nat) : dpV (awV H) = 3 := by simp [awV, awL, awI, dpV_eq, dpsV]
theorem awV_well (H : Nat) : weV rightB (awV H) = true := by simp [awV, awL, awI, weV_eq, wesV, oneB, tgsB]
theorem awV_nc (H : Nat) : Nc (awV H) := (gr_small (awV H) 0 (by simp [awV, awL, awI, grV_eq, grsV, szsV, szV_eq, size_lit])).1

set_option maxRecDepth 100000 in
set_option maxHeartbeats 1000000 in
theorem awake_any (w : World) (hP : Pw w) : Calls Tryd.prog 8 #[] w fun e w' => e = .returned (.bool true) ∧ Below w.heap.size w w' := by
  obtain ⟨_, _, _, hE, hB⟩ := awW_cells w
  have hV := awV_in w
  have hP2 := hP.below hB
  clear hP
  go_enter Tryd.func8, Tryd.ntmps8
  go_upto_region 3 with fail
  change Code.wp _ _ _ _ (awW w)
  generalize awW w = W at hE hB hV hP2 ⊢
  have HE := Lib.hid hE
  have HB := Lib.hid hB
  have HV := Lib.hid hV
  have HP := Lib.hid hP2
  have c0 := hE.cell (i := 0) rfl
  have c1 := hE.cell (i := 1) rfl
  have c2 := hE.cell (i := 2) rfl
  have c3 := hE.cell (i := 3) rfl
  have c4 := hE.cell (i := 4) rfl
  clear hE hB hV hP2
  have hw := Lib.hid (awV_well w.heap.size)
  have hd := Lib.hid (awV_deep w.heap.size)
  have ht := Lib.hid (awV_text w.heap.size)
  go_wp2_with (first
    | (go_at_call 15; refine (text_any (awV w.heap.size) _ HV.out (awV_nc _) HP.out).mono ?_; rw [ht.out]; rintro e w1 ⟨rfl, hb1⟩; have d0 := (HE.out.below hb1 HE.out.lt).cell (i := 0) rfl; have d1 := (HE.out.below hb1 HE.out.lt).cell (i := 1) rfl; have d2 := (HE.out.below hb1 HE.out.lt).cell (i := 2) rfl; have d3 := (HE.out.below hb1 HE.out.lt).cell (i := 3) rfl; have d4 := (HE.out.below hb1 HE.out.lt).cell (i := 4) rfl)
    | (go_at_call 9; refine (well_any (awV w.heap.size) _ (va_below HV.out hb1 (Nat.le_refl _)) (awV_nc _)).mono ?_; rw [hw.out]; rintro e w2 ⟨rfl, hb2⟩; have g0 := (HE.out.below (hb1.trans (hb2.mono hb1.size)) HE.out.lt).cell (i := 0) rfl; have g1 := (HE.out.below (hb1.trans (hb2.mono hb1.size)) HE.out.lt).cell (i := 1) rfl; have g2 := (HE.out.below (hb1.trans (hb2.mono hb1.size)) HE.out.lt).cell (i := 2) rfl; have g3 := (HE.out.below (hb1.trans (hb2.mono hb1.size)) HE.out.lt).cell (i := 3) rfl; have g4 := (HE.out.below (hb1.trans (hb2.mono hb1.size)) HE.out.lt).cell (i := 4) rfl)
    | (go_at_call 11; refine (deep_any (awV w.heap.size) _ (va_below HV.out (hb1.trans (hb2.mono hb1.size)) (Nat.le_refl _)) (awV_nc _)).mono ?_; rw [hd.out]; rintro e w3 ⟨rfl, hb3⟩))
  go_ret
  have h2 := hb1.trans (hb2.mono hb1.size)
  have h3 := h2.trans (hb3.mono h2.size)
  exact ⟨rfl, HB.out.trans (h3.mono HB.out.size)⟩
end Go.Proofs.YthgaipdhgckmdaaDoor.Va
