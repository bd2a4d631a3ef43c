/- The contracts of utf.Bad, Valid, Count and of awake, and the walks of the three laws of texts of UTF-8: each returns true, and nothing that was there turns. -/
import Derived.Test.YtoldmhpfcccbpaaUtName
namespace Go.Proofs.Ytoldmhpfcccbpaa.Ut
open Go.RowKit
set_option linter.unusedVariables false
set_option linter.unusedSimpArgs false

theorem walk_ret (s : ByteArray) (n : Nat) (b : Int) (h : wkS s = (n, b)) (w : World) (hs : s.size ≤ 1125899906842624) :
    Calls Try.prog 14 #[.string s] w fun e w' => e = .returned (.tuple #[.int .i64 n, .int .i64 b]) ∧ Below w.heap.size w w' :=
  (walk_any s w hs).mono fun e w' ⟨h1, h2⟩ => ⟨by rw [h1, h]; rfl, h2⟩
theorem bad_any (s : ByteArray) (w : World) (hs : s.size ≤ 1125899906842624) :
    Calls Try.prog 6 #[.string s] w fun e w' => e = .returned (.int .i64 (wkS s).2) ∧ Below w.heap.size w w' := by
  obtain ⟨n, b, h⟩ : ∃ n b, wkS s = (n, b) := ⟨_, _, rfl⟩
  have H := Lib.hid h
  rw [h]
  clear h
  go_enter Try.func6, Try.ntmps6
  go_wp2_with (go_at_call 14; refine (walk_ret s n b H.out _ hs).mono ?_; rintro e w' ⟨rfl, hb⟩)
  go_ret
  exact ⟨rfl, hb⟩
def valB (s : ByteArray) : Bool := decide ((wkS s).2 < 0)
theorem valid_any (s : ByteArray) (w : World) (hs : s.size ≤ 1125899906842624) :
    Calls Try.prog 8 #[.string s] w fun e w' => e = .returned (.bool (valB s)) ∧ Below w.heap.size w w' := by
  obtain ⟨b, h⟩ : ∃ b, (wkS s).2 = b := ⟨_, rfl⟩
  have hbd := (wkS_bd s).2.1
  rw [h] at hbd
  have H := Lib.hid h
  have HB := Lib.hid (bad_any s w hs)
  rw [h] at HB
  clear h
  go_enter Try.func8, Try.ntmps8
  go_wp2_with (go_at_call 6; refine HB.out.mono ?_; rintro e w' ⟨rfl, hb⟩)
  go_ret
  exact ⟨ret_bool (by unfold valB; rw [H.out, Bool.eq_iff_iff]; simp; omega), hb⟩
theorem count_any (s : ByteArray) (w : World) (hs : s.size ≤ 1125899906842624) :
    Calls Try.prog 9 #[.string s] w fun e w' => e = .returned (.int .i64 (cntS s)) ∧ Below w.heap.size w w' := by
  obtain ⟨n, b, h⟩ : ∃ n b, wkS s = (n, b) := ⟨_, _, rfl⟩
  have hbd := (wkS_bd s).2.1
  rw [h] at hbd
  have H := Lib.hid h
  have HC : Hid (cntS s = if b < 0 then n else 0) := by show cntS s = _; unfold cntS; rw [h]
  clear h
  by_cases hb0 : b < 0
  · obtain rfl : b = -1 := by simp at hbd; omega
    clear hbd hb0
    go_enter Try.func9, Try.ntmps9
    go_wp2_with (go_at_call 14; refine (walk_ret s n _ H.out _ hs).mono ?_; rintro e w' ⟨rfl, hb⟩)
    go_ret
    exact ⟨ret_int (by rw [HC.out, if_pos (by omega)]), hb⟩
  · have hb1 : (b != -1) = true := by simp; omega
    have hb2 : ¬ b = -1 := by omega
    go_enter Try.func9, Try.ntmps9
    go_wp2_with (go_at_call 14; refine (walk_ret s n _ H.out _ hs).mono ?_; rintro e w' ⟨rfl, hb⟩)
    go_ret
    exact ⟨ret_int (by rw [HC.out, if_neg (by omega)]; rfl), hb⟩

theorem two_below {w w' w'' : World} (hb : Below w.heap.size w w') (hb2 : Below w'.heap.size w' w'') : Below w.heap.size w w'' := hb.trans (hb2.mono hb.size)
theorem lit1 : (wkS ⟨#[97, 255]⟩).2 = 1 := by
  unfold wkS
  have e1 : rk [97, 255] = 1 := by decide
  have e2 : rk [255] = 0 := by decide
  show (wk 0 0 [97, 255]).2 = 1
  rw [wk_on (by rw [e1]; decide), e1]
  show (wk 1 1 [255]).2 = 1
  rw [wk_bad (by simp) e2]; rfl
theorem lit2 : valB ⟨#[97, 195, 169]⟩ = true := by
  unfold valB wkS
  have e1 : rk [97, 195, 169] = 1 := by decide
  have e2 : rk [195, 169] = 2 := by decide
  show decide ((wk 0 0 [97, 195, 169]).2 < 0) = true
  rw [wk_on (by rw [e1]; decide), e1]
  show decide ((wk 1 1 [195, 169]).2 < 0) = true
  rw [wk_on (by rw [e2]; decide), e2]
  show decide ((wk 2 3 []).2 < 0) = true
  rw [wk_nil]; rfl
theorem lit3 : nameS ⟨#[97, 95, 49]⟩ = true := by decide
theorem awake_any (w : World) :
    Calls Try.prog 11 #[] w fun e w' => e = .returned (.bool true) ∧ Below w.heap.size w w' := by
  have HB : Hid (∀ w : World, Calls Try.prog 6 #[.string ⟨#[97, 255]⟩] w fun e w' => e = .returned (.int .i64 1) ∧ Below w.heap.size w w') := fun w => by
    have h := bad_any ⟨#[97, 255]⟩ w (by decide)
    rwa [lit1] at h
  have HV : Hid (∀ w : World, Calls Try.prog 8 #[.string ⟨#[97, 195, 169]⟩] w fun e w' => e = .returned (.bool true) ∧ Below w.heap.size w w') := fun w => by
    have h := valid_any ⟨#[97, 195, 169]⟩ w (by decide)
    rwa [lit2] at h
  have HN : Hid (∀ w : World, Calls Try.prog 12 #[.string ⟨#[97, 95, 49]⟩] w fun e w' => e = .returned (.bool true) ∧ Below w.heap.size w w') := fun w => by
    have h := name_any ⟨#[97, 95, 49]⟩ w (by decide)
    rwa [lit3] at h
  have hb := Below.refl w.heap.size w
  go_enter Try.func11, Try.ntmps11
  go_wp2_with (first | (go_at_call 6; refine (HB.out _).mono ?_; rintro e w' ⟨rfl, hb2⟩; replace hb := two_below hb hb2; clear hb2) | (go_at_call 8; refine (HV.out _).mono ?_; rintro e w' ⟨rfl, hb2⟩; replace hb := two_below hb hb2; clear hb2) | (go_at_call 12; refine (HN.out _).mono ?_; rintro e w' ⟨rfl, hb2⟩; replace hb := two_below hb hb2; clear hb2))
  go_ret
  exact ⟨rfl, hb⟩

/-- What the five functions hand out, of a text of which it is known what it is. -/
theorem all_ret (s : ByteArray) (n : Nat) (b : Int) (h : wkS s = (n, b)) (hs : s.size ≤ 1125899906842624) :
    (∀ w, Calls Try.prog 6 #[.string s] w fun e w' => e = .returned (.int .i64 b) ∧ Below w.heap.size w w') ∧
    (∀ w, Calls Try.prog 8 #[.string s] w fun e w' => e = .returned (.bool (decide (b < 0))) ∧ Below w.heap.size w w') ∧
    (∀ w, Calls Try.prog 9 #[.string s] w fun e w' => e = .returned (.int .i64 ((if b < 0 then n else 0 : Nat) : Int)) ∧ Below w.heap.size w w') := by
  refine ⟨fun w => ?_, fun w => ?_, fun w => ?_⟩
  · have := bad_any s w hs; rwa [h] at this
  · have := valid_any s w hs; unfold valB at this; rwa [h] at this
  · have := count_any s w hs; unfold cntS at this; rwa [h] at this
theorem all_right (s : ByteArray) (n : Nat) (h : wkS s = (n, -1)) (hs : s.size ≤ 1125899906842624) :
    (∀ w, Calls Try.prog 6 #[.string s] w fun e w' => e = .returned (.int .i64 (-1)) ∧ Below w.heap.size w w') ∧
    (∀ w, Calls Try.prog 8 #[.string s] w fun e w' => e = .returned (.bool true) ∧ Below w.heap.size w w') ∧
    (∀ w, Calls Try.prog 9 #[.string s] w fun e w' => e = .returned (.int .i64 n) ∧ Below w.heap.size w w') := by
  obtain ⟨h1, h2, h3⟩ := all_ret s n (-1) h hs
  exact ⟨h1, h2, h3⟩
theorem all_wrong (s : ByteArray) (n : Nat) (b : Int) (h : wkS s = (n, b)) (hb : ¬ b < 0) (hs : s.size ≤ 1125899906842624) :
    (∀ w, Calls Try.prog 6 #[.string s] w fun e w' => e = .returned (.int .i64 b) ∧ Below w.heap.size w w') ∧
    (∀ w, Calls Try.prog 8 #[.string s] w fun e w' => e = .returned (.bool false) ∧ Below w.heap.size w w') ∧
    (∀ w, Calls Try.prog 9 #[.string s] w fun e w' => e = .returned (.int .i64 0) ∧ Below w.heap.size w w') := by
  obtain ⟨h1, h2, h3⟩ := all_ret s n b h hs
  refine ⟨h1, fun w => ?_, fun w => ?_⟩
  · have := h2 w; rwa [decide_eq_false hb] at this
  · have := h3 w; rwa [if_neg hb] at this
theorem ref_ret (s : ByteArray) (n : Nat) (b : Int) (h : wkS s = (n, b)) (hs : s.size ≤ 1125899906842624) :
    (∀ w, Calls Try.prog 7 #[.string s] w fun e w' => e = .returned (.int .i64 b) ∧ w = w') ∧
    (∀ w, Calls Try.prog 10 #[.string s] w fun e w' => e = .returned (.int .i64 ((if b < 0 then n else 0 : Nat) : Int)) ∧ w = w') := by
  refine ⟨fun w => ?_, fun w => ?_⟩
  · have := rbad_any s w hs; rwa [h] at this
  · have := rcount_any s w hs; unfold cntS at this; rwa [h] at this

set_option maxRecDepth 100000 in
theorem bad_walk (s : ByteArray) (w : World) (hs : s.size ≤ 1125899906842624) :
    Calls Try.prog 3 #[.string s] w fun e w' => e = .returned (.bool true) ∧ Below w.heap.size w w' := by
  obtain ⟨n, b, h⟩ : ∃ n b, wkS s = (n, b) := ⟨_, _, rfl⟩
  have hbd := (wkS_bd s).2.1
  rw [h] at hbd
  have hr := ref_ret s n b h hs
  by_cases hb0 : b < 0
  · obtain rfl : b = -1 := by simp at hbd; omega
    have HA := Lib.hid (all_right s n h hs)
    have HR := Lib.hid hr
    clear h hr hbd hb0
    have hb := Below.refl w.heap.size w
    go_enter Try.func3, Try.ntmps3
    go_wp2_with (first | (go_at_call 6; refine (HA.out.1 _).mono ?_; rintro e w' ⟨rfl, hb2⟩; replace hb := two_below hb hb2; clear hb2) | (go_at_call 8; refine (HA.out.2.1 _).mono ?_; rintro e w' ⟨rfl, hb2⟩; replace hb := two_below hb hb2; clear hb2) | (go_at_call 9; refine (HA.out.2.2 _).mono ?_; rintro e w' ⟨rfl, hb2⟩; replace hb := two_below hb hb2; clear hb2) | (go_at_call 7; refine (HR.out.1 _).mono ?_; rintro e w' ⟨rfl, rfl⟩) | (go_at_call 10; refine (HR.out.2 _).mono ?_; rintro e w' ⟨rfl, rfl⟩) | (go_at_call 11; refine (awake_any _).mono ?_; rintro e w' ⟨rfl, hb2⟩; replace hb := two_below hb hb2; clear hb2))
    go_ret
    exact ⟨rfl, hb⟩
  · have HA := Lib.hid (all_wrong s n b h hb0 hs)
    rw [if_neg hb0] at hr
    have HR := Lib.hid hr
    clear h hr hbd
    have hb := Below.refl w.heap.size w
    go_enter Try.func3, Try.ntmps3
    go_wp2_with (first | (go_at_call 6; refine (HA.out.1 _).mono ?_; rintro e w' ⟨rfl, hb2⟩; replace hb := two_below hb hb2; clear hb2) | (go_at_call 8; refine (HA.out.2.1 _).mono ?_; rintro e w' ⟨rfl, hb2⟩; replace hb := two_below hb hb2; clear hb2) | (go_at_call 9; refine (HA.out.2.2 _).mono ?_; rintro e w' ⟨rfl, hb2⟩; replace hb := two_below hb hb2; clear hb2) | (go_at_call 7; refine (HR.out.1 _).mono ?_; rintro e w' ⟨rfl, rfl⟩) | (go_at_call 10; refine (HR.out.2 _).mono ?_; rintro e w' ⟨rfl, rfl⟩) | (go_at_call 11; refine (awake_any _).mono ?_; rintro e w' ⟨rfl, hb2⟩; replace hb := two_below hb hb2; clear hb2))
    go_ret
    refine ⟨?_, hb⟩
    show Ending.returned (.bool (!decide (b < 0))) = _
    rw [decide_eq_false (by omega)]; rfl

theorem low_wk : ∀ (l : List UInt8) (n i : Nat), (∀ c ∈ l, c.toNat < 128) → wk n i l = (n + l.length, -1)
  | [], n, i, _ => by rw [wk_nil]; rfl
  | c :: r, n, i, h => by
    have e : rk (c :: r) = 1 := by rw [rk, if_pos (h c (by simp))]
    rw [wk_on (by rw [e]; decide), e]
    show wk (n + 1) (i + 1) r = _
    rw [low_wk r (n + 1) (i + 1) (fun x hx => h x (by simp [hx]))]
    simp; omega
theorem nm_low : ∀ (l : List UInt8) (i : Nat), nmL i l = true → ∀ c ∈ l, c.toNat < 128
  | [], _, _ => by simp
  | c :: r, i, h => by
    rw [nmL, Bool.and_eq_true] at h
    have ih := nm_low r (i + 1) h.2
    intro x hx
    rcases List.mem_cons.1 hx with rfl | hx
    · have := h.1
      by_cases hh : x.toNat < 128
      · exact hh
      · unfold okB at this
        rw [letB_high _ (by omega), digB_high _ (by omega)] at this
        simp at this; omega
    · exact ih x hx
theorem name_wk (s : ByteArray) (h : nameS s = true) : wkS s = (s.size, -1) := by
  unfold nameS at h
  rw [Bool.and_eq_true] at h
  unfold wkS
  rw [low_wk _ 0 0 (nm_low _ 0 h.2), Nat.zero_add]
  rfl
set_option maxRecDepth 100000 in
theorem names_walk (s : ByteArray) (w : World) (hs : s.size ≤ 1125899906842624) :
    Calls Try.prog 4 #[.string s] w fun e w' => e = .returned (.bool true) ∧ Below w.heap.size w w' := by
  have h1 : ∀ w, _ := fun w => name_any s w (by unfold maxLen; omega)
  have h2 : ∀ w, _ := fun w => rname_any s w (by unfold maxLen; omega)
  cases hn : nameS s
  · rw [hn] at h1 h2
    have HN := Lib.hid h1
    have HR := Lib.hid h2
    clear h1 h2 hn
    have hb := Below.refl w.heap.size w
    go_enter Try.func4, Try.ntmps4
    go_wp2_with (first | (go_at_call 12; refine (HN.out _).mono ?_; rintro e w' ⟨rfl, hb2⟩; replace hb := two_below hb hb2; clear hb2) | (go_at_call 13; refine (HR.out _).mono ?_; rintro e w' ⟨rfl, rfl⟩) | (go_at_call 11; refine (awake_any _).mono ?_; rintro e w' ⟨rfl, hb2⟩; replace hb := two_below hb hb2; clear hb2))
    go_ret
    exact ⟨rfl, hb⟩
  · have HA := Lib.hid (all_right s s.size (name_wk s hn) hs)
    rw [hn] at h1 h2
    have HN := Lib.hid h1
    have HR := Lib.hid h2
    clear h1 h2 hn
    have hb := Below.refl w.heap.size w
    go_enter Try.func4, Try.ntmps4
    go_wp2_with (first | (go_at_call 12; refine (HN.out _).mono ?_; rintro e w' ⟨rfl, hb2⟩; replace hb := two_below hb hb2; clear hb2) | (go_at_call 13; refine (HR.out _).mono ?_; rintro e w' ⟨rfl, rfl⟩) | (go_at_call 8; refine (HA.out.2.1 _).mono ?_; rintro e w' ⟨rfl, hb2⟩; replace hb := two_below hb hb2; clear hb2) | (go_at_call 9; refine (HA.out.2.2 _).mono ?_; rintro e w' ⟨rfl, hb2⟩; replace hb := two_below hb hb2; clear hb2) | (go_at_call 11; refine (awake_any _).mono ?_; rintro e w' ⟨rfl, hb2⟩; replace hb := two_below hb hb2; clear hb2))
    go_ret
    exact ⟨rfl, hb⟩
end Go.Proofs.Ytoldmhpfcccbpaa.Ut
