/- Frames: the contract of frame.Take over the program. -/
import Derived.Test.YthfogiogjmgodaaFrHead
import Derived.Test.YthfogiogjmgodaaShelf
namespace Go.Proofs.Ythfogiogjmgodaa.Fr
open Go.RowKit Cm
set_option linter.unusedVariables false
set_option linter.unusedSimpArgs false

theorem clone_any (s : ByteArray) (w : World) (hs : s.size ≤ 281474976710656) :
    Calls Try.prog 18 #[.string s] w fun e w' => e = .returned (.string s) ∧ Below w.heap.size w w' := by
  go_enter Try.func18, Try.ntmps18
  go_wp2_with (go_at_call 20; refine (Try.stringslite_Clone s _ hs).mono ?_; rintro e w' ⟨rfl, hb⟩)
  go_ret
  exact ⟨rfl, hb⟩

/-- The frame with which bytes begin: kind, flags, body; how many bytes it has; error. -/
def taS (s : ByteArray) : (Nat × Nat × ByteArray) × Nat × Nat :=
  if (heS s).2.2.2 ≠ 0 then ((0, 0, ⟨#[]⟩), 0, (heS s).2.2.2) else if s.size < 4 + (heS s).2.2.1 then ((0, 0, ⟨#[]⟩), 0, 2) else (((heS s).1, (heS s).2.1, s.extract 4 (4 + (heS s).2.2.1)), 4 + (heS s).2.2.1, 0)
def taV (r : (Nat × Nat × ByteArray) × Nat × Nat) : Ending := .returned (.tuple #[.agg #[.int .i64 r.1.1, .int .i64 r.1.2.1, .string r.1.2.2], .int .i64 r.2.1, .int .i64 r.2.2])
theorem taS_bad (s : ByteArray) (k f n e : Nat) (h : heS s = (k, f, n, e)) (he : e ≠ 0) : taS s = ((0, 0, ⟨#[]⟩), 0, e) := by unfold taS; rw [h]; simp [he]
theorem taS_short (s : ByteArray) (k f n : Nat) (h : heS s = (k, f, n, 0)) (hs : s.size < 4 + n) : taS s = ((0, 0, ⟨#[]⟩), 0, 2) := by unfold taS; rw [h]; simp [hs]
theorem taS_good (s : ByteArray) (k f n : Nat) (h : heS s = (k, f, n, 0)) (hs : ¬ s.size < 4 + n) : taS s = ((k, f, s.extract 4 (4 + n)), 4 + n, 0) := by unfold taS; rw [h]; simp [hs]
theorem heS_room (s : ByteArray) (k f n : Nat) (h : heS s = (k, f, n, 0)) : ¬ s.size < 4 ∧ bt s 0 = k ∧ bt s 1 = f ∧ bt s 2 * 256 + bt s 3 = n ∧ 1 ≤ k ∧ k ≤ 9 ∧ f < 256 ∧ n ≤ 1024 := by
  have hf := bt_lt s 1
  by_cases h1 : s.size < 4
  · rw [heS_short s h1] at h; simp at h
  · by_cases h2 : bt s 0 < 1 ∨ 9 < bt s 0
    · rw [heS_kind s h1 h2] at h; simp at h
    · by_cases h3 : 1024 < bt s 2 * 256 + bt s 3
      · rw [heS_long s h1 h2 h3] at h; simp at h
      · rw [heS_good s h1 h2 h3] at h
        simp only [Prod.mk.injEq] at h
        omega
theorem heS_err (s : ByteArray) (k f n e : Nat) (h : heS s = (k, f, n, e)) (he : e ≠ 0) : k = 0 ∧ f = 0 ∧ n = 0 ∧ e ≤ 4 := by
  by_cases h1 : s.size < 4
  · rw [heS_short s h1] at h; simp only [Prod.mk.injEq] at h; omega
  · by_cases h2 : bt s 0 < 1 ∨ 9 < bt s 0
    · rw [heS_kind s h1 h2] at h; simp only [Prod.mk.injEq] at h; omega
    · by_cases h3 : 1024 < bt s 2 * 256 + bt s 3
      · rw [heS_long s h1 h2 h3] at h; simp only [Prod.mk.injEq] at h; omega
      · rw [heS_good s h1 h2 h3] at h; simp only [Prod.mk.injEq] at h; omega

set_option maxRecDepth 100000 in
set_option maxHeartbeats 1000000 in
theorem take_any (s : ByteArray) (w : World) (hs : s.size ≤ 281474976710656) :
    Calls Try.prog 14 #[.string s] w fun e w' => e = taV (taS s) ∧ Below w.heap.size w w' := by
  obtain ⟨k, f, n, e, h⟩ : ∃ k f n e, heS s = (k, f, n, e) := ⟨_, _, _, _, rfl⟩
  have hmx : s.size ≤ maxLen := by unfold maxLen; omega
  have H := Lib.hid h
  have hb0 := (Below.refl w.heap.size w).alloc (Nat.le_refl _) (.cells #[.int .i64 0, .int .i64 0, .string ⟨#[]⟩] 39)
  have hC0 := Cs.new w [.int .i64 0, .int .i64 0, .string ⟨#[]⟩] 39
  by_cases he : e = 0
  · subst he
    obtain ⟨g0, g1, g2, g3, g4, g5, g6, g7⟩ := heS_room s k f n h
    clear g1 g2 g3
    have hadd : (4 : Int) + (n : Int) ≤ 1028 := by omega
    by_cases hn : s.size < 4 + n
    · rw [taS_short s k f n h hn]
      clear h
      have hn' : (s.size : Int) < 4 + (n : Int) := by omega
      go_enter Try.func14, Try.ntmps14
      go_wp2_with (go_at_call 17; refine (head_ret s _ _ _ _ H.out _ hmx).mono ?_; rintro e w2 ⟨rfl, hb⟩; have hC := hC0.below hb (by simp); obtain ⟨⟨c0, c1, c2⟩, ⟨f0, f1, f2⟩⟩ := hC.three)
      have hB2 := hb0.trans (hb.mono hb0.size)
      have hC3 := ((hC.put (i := 0) (.int .i64 0)).put (i := 1) (.int .i64 0)).put (i := 2) (.string ⟨#[]⟩)
      have hB3 : Below w.heap.size w (((w2.setCell ⟨w.heap.size, 0, none⟩ (.int .i64 0)).setCell ⟨w.heap.size, 1, none⟩ (.int .i64 0)).setCell ⟨w.heap.size, 2, none⟩ (.string ⟨#[]⟩)) := ((hB2.setCell (p := ⟨w.heap.size, 0, none⟩) (Nat.le_refl _) _).setCell (p := ⟨w.heap.size, 1, none⟩) (Nat.le_refl _) _).setCell (p := ⟨w.heap.size, 2, none⟩) (Nat.le_refl _) _
      simp only [List.set_cons_zero, List.set_cons_succ] at hC3
      generalize (((w2.setCell ⟨w.heap.size, 0, none⟩ (.int .i64 0)).setCell ⟨w.heap.size, 1, none⟩ (.int .i64 0)).setCell ⟨w.heap.size, 2, none⟩ (.string ⟨#[]⟩)) = w5 at hC3 hB3 ⊢
      obtain ⟨⟨d0, d1, d2⟩, _⟩ := hC3.three
      refine bodyPost_ret (by simp [results, Try.results14, go_sem, d0, d1, d2]; try rfl) rfl ?_
      exact ⟨rfl, hB3⟩
    · rw [taS_good s k f n h hn]
      clear h
      have hn' : ¬ (s.size : Int) < 4 + (n : Int) := by omega
      have hq : ((4 : Int) + (n : Int)).toNat = 4 + n := by omega
      have hx : (s.extract 4 (4 + n)).size ≤ 281474976710656 := by rw [ByteArray.size_extract]; omega
      have HX := Lib.hid hx
      clear hx
      go_enter Try.func14, Try.ntmps14
      go_wp2_with (first | (go_at_call 17; refine (head_ret s _ _ _ _ H.out _ hmx).mono ?_; rintro e w2 ⟨rfl, hb⟩; have hB1 := hb0.trans (hb.mono hb0.size); have hC1 := hC0.below hb (by simp)) | (go_at_call 18; refine (clone_any _ _ HX.out).mono ?_; rintro e w3 ⟨rfl, hb2⟩; have hB2 := hB1.trans (hb2.mono hB1.size); have hC := hC1.below hb2 hC1.lt; obtain ⟨⟨c0, c1, c2⟩, ⟨f0, f1, f2⟩⟩ := hC.three))
      have hC3 := ((hC.put (i := 0) (.int .i64 k)).put (i := 1) (.int .i64 f)).put (i := 2) (.string (s.extract 4 (4 + n)))
      have hB3 : Below w.heap.size w (((w3.setCell ⟨w.heap.size, 0, none⟩ (.int .i64 k)).setCell ⟨w.heap.size, 1, none⟩ (.int .i64 f)).setCell ⟨w.heap.size, 2, none⟩ (.string (s.extract 4 (4 + n)))) := ((hB2.setCell (p := ⟨w.heap.size, 0, none⟩) (Nat.le_refl _) _).setCell (p := ⟨w.heap.size, 1, none⟩) (Nat.le_refl _) _).setCell (p := ⟨w.heap.size, 2, none⟩) (Nat.le_refl _) _
      simp only [List.set_cons_zero, List.set_cons_succ] at hC3
      generalize (((w3.setCell ⟨w.heap.size, 0, none⟩ (.int .i64 k)).setCell ⟨w.heap.size, 1, none⟩ (.int .i64 f)).setCell ⟨w.heap.size, 2, none⟩ (.string (s.extract 4 (4 + n)))) = w5 at hC3 hB3 ⊢
      obtain ⟨⟨d0, d1, d2⟩, _⟩ := hC3.three
      refine bodyPost_ret (by simp [results, Try.results14, go_sem, d0, d1, d2]; try rfl) rfl ?_
      exact ⟨rfl, hB3⟩
  · rw [taS_bad s k f n e h he]
    obtain ⟨rfl, rfl, rfl, g4⟩ := heS_err s k f n e h he
    clear h
    have heb : ((e : Int) != 0) = true := by simpa using he
    have heb0 : ((e : Int) == 0) = false := by simpa using he
    go_enter Try.func14, Try.ntmps14
    go_wp2_with (go_at_call 17; refine (head_ret s _ _ _ _ H.out _ hmx).mono ?_; rintro e w2 ⟨rfl, hb⟩; have hC := hC0.below hb (by simp); obtain ⟨⟨c0, c1, c2⟩, ⟨f0, f1, f2⟩⟩ := hC.three)
    have hB2 := hb0.trans (hb.mono hb0.size)
    have hC3 := ((hC.put (i := 0) (.int .i64 0)).put (i := 1) (.int .i64 0)).put (i := 2) (.string ⟨#[]⟩)
    have hB3 : Below w.heap.size w (((w2.setCell ⟨w.heap.size, 0, none⟩ (.int .i64 0)).setCell ⟨w.heap.size, 1, none⟩ (.int .i64 0)).setCell ⟨w.heap.size, 2, none⟩ (.string ⟨#[]⟩)) := ((hB2.setCell (p := ⟨w.heap.size, 0, none⟩) (Nat.le_refl _) _).setCell (p := ⟨w.heap.size, 1, none⟩) (Nat.le_refl _) _).setCell (p := ⟨w.heap.size, 2, none⟩) (Nat.le_refl _) _
    simp only [List.set_cons_zero, List.set_cons_succ] at hC3
    generalize (((w2.setCell ⟨w.heap.size, 0, none⟩ (.int .i64 0)).setCell ⟨w.heap.size, 1, none⟩ (.int .i64 0)).setCell ⟨w.heap.size, 2, none⟩ (.string ⟨#[]⟩)) = w5 at hC3 hB3 ⊢
    obtain ⟨⟨d0, d1, d2⟩, _⟩ := hC3.three
    refine bodyPost_ret (by simp [results, Try.results14, go_sem, d0, d1, d2]; try rfl) rfl ?_
    exact ⟨rfl, hB3⟩
theorem take_ret (s : ByteArray) (k f : Nat) (x : ByteArray) (n e : Nat) (h : taS s = ((k, f, x), n, e)) (w : World) (hs : s.size ≤ 281474976710656) :
    Calls Try.prog 14 #[.string s] w fun y w' => y = .returned (.tuple #[.agg #[.int .i64 k, .int .i64 f, .string x], .int .i64 n, .int .i64 e]) ∧ Below w.heap.size w w' :=
  (take_any s w hs).mono fun _ _ ⟨h1, h2⟩ => ⟨by rw [h1, h]; rfl, h2⟩
end Go.Proofs.Ythfogiogjmgodaa.Fr
