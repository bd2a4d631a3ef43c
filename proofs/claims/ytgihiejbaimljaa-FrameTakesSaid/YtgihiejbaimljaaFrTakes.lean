/- Frames: the walk of FrameTakes. -/
import Derived.Test.YtgihiejbaimljaaFrLaws
namespace Go.Proofs.Ytgihiejbaimljaa.Fr
open Go.RowKit Cm
set_option linter.unusedVariables false
set_option linter.unusedSimpArgs false

theorem rtake_bad_ret (s : ByteArray) (k f n e : Nat) (h : heS s = (k, f, n, e)) (he : e ≠ 0) (w : World) (hs : s.size ≤ 281474976710656) :
    Calls Try.prog 14 #[.string s] w fun y w' => y = .returned (.tuple #[.agg #[.int .i64 0, .int .i64 0, .string ⟨#[]⟩], .int .i64 (-1), .int .i64 e]) ∧ Below w.heap.size w w' :=
  (rtake_bad s k f n e h he w hs).mono fun _ _ h => ⟨h.1.trans rfl, h.2⟩
theorem rtake_short_ret (s : ByteArray) (k f n : Nat) (h : heS s = (k, f, n, 0)) (hz : s.size < 4 + n) (w : World) (hs : s.size ≤ 281474976710656) :
    Calls Try.prog 14 #[.string s] w fun y w' => y = .returned (.tuple #[.agg #[.int .i64 0, .int .i64 0, .string ⟨#[]⟩], .int .i64 n, .int .i64 2]) ∧ Below w.heap.size w w' :=
  (rtake_short s k f n h hz w hs).mono fun _ _ h => ⟨h.1.trans rfl, h.2⟩
theorem rtake_good_ret (s : ByteArray) (k f n : Nat) (h : heS s = (k, f, n, 0)) (hz : ¬ s.size < 4 + n) (w : World) (hs : s.size ≤ 281474976710656) :
    Calls Try.prog 14 #[.string s] w fun y w' => y = .returned (.tuple #[.agg #[.int .i64 k, .int .i64 f, .string (s.extract 4 (4 + n))], .int .i64 n, .int .i64 0]) ∧ Below w.heap.size w w' :=
  (rtake_good s k f n h hz w hs).mono fun _ _ h => ⟨h.1.trans rfl, h.2⟩
set_option maxRecDepth 100000 in
set_option maxHeartbeats 1000000 in
theorem takes_bad (s : ByteArray) (k f n e : Nat) (h : heS s = (k, f, n, e)) (he : e ≠ 0) (w : World) (hs : s.size ≤ 281474976710656) :
    Calls Try.prog 4 #[.string s] w fun y w' => y = .returned (.bool true) ∧ Below w.heap.size w w' := by
  have hmx : s.size ≤ maxLen := by unfold maxLen; omega
  obtain ⟨rfl, rfl, rfl, g4⟩ := heS_err s k f n e h he
  have H := Lib.hid h
  have HT := Lib.hid (taS_bad s _ _ _ e h he)
  clear h
  have heb : ((e : Int) != 0) = true := by simpa using he
  have heb0 : ((e : Int) == 0) = false := by simpa using he
  have hB := Below.refl w.heap.size w
  go_enter Try.func4, Try.ntmps4
  go_wp2_with (first
    | (go_at_call 13; refine (take_ret s _ _ _ _ _ HT.out _ hs).mono ?_; rintro e w1 ⟨rfl, hb⟩; replace hB := (hB.trans (hb.mono hB.size)).alloc (by have := hb.size; have := hB.size; omega) (.cells #[.int .i64 0, .int .i64 0, .string ⟨#[]⟩] 23); have hF := Cs.new w1 [.int .i64 0, .int .i64 0, .string ⟨#[]⟩] 23; clear hb)
    | (go_at_call 14; refine (rtake_bad_ret s _ _ _ _ H.out he _ hs).mono ?_; rintro e w2 ⟨rfl, hb⟩; replace hB := (hB.trans (hb.mono hB.size)).alloc (by have := hb.size; have := hB.size; omega) (.cells #[.int .i64 0, .int .i64 0, .string ⟨#[]⟩] 23); replace hF := (hF.below hb hF.lt).alloc (.cells #[.int .i64 0, .int .i64 0, .string ⟨#[]⟩] 23); have hG := Cs.new w2 [.int .i64 0, .int .i64 0, .string ⟨#[]⟩] 23; clear hb)
    | (go_at_call 15; refine (head_ret s _ _ _ _ H.out _ hmx).mono ?_; rintro e w3 ⟨rfl, hb⟩; replace hB := hB.trans (hb.mono hB.size); replace hF := hF.below hb hF.lt; replace hG := hG.below hb hG.lt; obtain ⟨⟨d0, d1, d2⟩, _⟩ := hF.three; obtain ⟨⟨e0, e1, e2⟩, _⟩ := hG.three; clear hb)
    | (go_at_call 12; refine (awake_any _).mono ?_; rintro e w4 ⟨rfl, hb⟩; replace hB := hB.trans (hb.mono hB.size); clear hb))
  go_ret
  exact ⟨rfl, hB⟩

set_option maxRecDepth 100000 in
set_option maxHeartbeats 1000000 in
theorem takes_short (s : ByteArray) (k f n : Nat) (h : heS s = (k, f, n, 0)) (hz : s.size < 4 + n) (w : World) (hs : s.size ≤ 281474976710656) :
    Calls Try.prog 4 #[.string s] w fun y w' => y = .returned (.bool true) ∧ Below w.heap.size w w' := by
  have hmx : s.size ≤ maxLen := by unfold maxLen; omega
  obtain ⟨g0, gk, gf, gn, g4, g5, g6, g7⟩ := heS_room s k f n h
  have H := Lib.hid h
  have HT := Lib.hid (taS_short s _ _ _ h hz)
  clear h gn
  have i0 : 0 < s.size := by omega
  have i1 : 1 < s.size := by omega
  have j0 : (0 : Int) < (s.size : Int) := by omega
  have j1 : (1 : Int) < (s.size : Int) := by omega
  have c0 : s[0].toNat = k := (bt_at s 0 i0).trans gk
  have c1 : s[1].toNat = f := (bt_at s 1 i1).trans gf
  clear gk gf
  have hB := Below.refl w.heap.size w
  go_enter Try.func4, Try.ntmps4
  go_wp2_with (first
    | (go_at_call 13; refine (take_ret s _ _ _ _ _ HT.out _ hs).mono ?_; rintro e w1 ⟨rfl, hb⟩; replace hB := (hB.trans (hb.mono hB.size)).alloc (by have := hb.size; have := hB.size; omega) (.cells #[.int .i64 0, .int .i64 0, .string ⟨#[]⟩] 23); have hF := Cs.new w1 [.int .i64 0, .int .i64 0, .string ⟨#[]⟩] 23; clear hb)
    | (go_at_call 14; refine (rtake_short_ret s _ _ _ H.out hz _ hs).mono ?_; rintro e w2 ⟨rfl, hb⟩; replace hB := (hB.trans (hb.mono hB.size)).alloc (by have := hb.size; have := hB.size; omega) (.cells #[.int .i64 0, .int .i64 0, .string ⟨#[]⟩] 23); replace hF := (hF.below hb hF.lt).alloc (.cells #[.int .i64 0, .int .i64 0, .string ⟨#[]⟩] 23); have hG := Cs.new w2 [.int .i64 0, .int .i64 0, .string ⟨#[]⟩] 23; clear hb)
    | (go_at_call 15; refine (head_ret s _ _ _ _ H.out _ hmx).mono ?_; rintro e w3 ⟨rfl, hb⟩; replace hB := hB.trans (hb.mono hB.size); replace hF := hF.below hb hF.lt; replace hG := hG.below hb hG.lt; obtain ⟨⟨d0, d1, d2⟩, _⟩ := hF.three; obtain ⟨⟨e0, e1, e2⟩, _⟩ := hG.three; clear hb)
    | (go_at_call 12; refine (awake_any _).mono ?_; rintro e w4 ⟨rfl, hb⟩; replace hB := hB.trans (hb.mono hB.size); clear hb))
  go_ret
  exact ⟨rfl, hB⟩

set_option maxRecDepth 100000 in
set_option maxHeartbeats 1000000 in
theorem takes_good (s : ByteArray) (k f n : Nat) (h : heS s = (k, f, n, 0)) (hz : ¬ s.size < 4 + n) (w : World) (hs : s.size ≤ 281474976710656) :
    Calls Try.prog 4 #[.string s] w fun y w' => y = .returned (.bool true) ∧ Below w.heap.size w w' := by
  have hmx : s.size ≤ maxLen := by unfold maxLen; omega
  obtain ⟨g0, gk, gf, gn, g4, g5, g6, g7⟩ := heS_room s k f n h
  have H := Lib.hid h
  have HT := Lib.hid (taS_good s _ _ _ h hz)
  clear h gn
  have i0 : 0 < s.size := by omega
  have i1 : 1 < s.size := by omega
  have j0 : (0 : Int) < (s.size : Int) := by omega
  have j1 : (1 : Int) < (s.size : Int) := by omega
  have c0 : s[0].toNat = k := (bt_at s 0 i0).trans gk
  have c1 : s[1].toNat = f := (bt_at s 1 i1).trans gf
  clear gk gf
  have hB := Below.refl w.heap.size w
  go_enter Try.func4, Try.ntmps4
  go_wp2_with (first
    | (go_at_call 13; refine (take_ret s _ _ _ _ _ HT.out _ hs).mono ?_; rintro e w1 ⟨rfl, hb⟩; replace hB := (hB.trans (hb.mono hB.size)).alloc (by have := hb.size; have := hB.size; omega) (.cells #[.int .i64 k, .int .i64 f, .string (s.extract 4 (4 + n))] 23); have hF := Cs.new w1 [.int .i64 k, .int .i64 f, .string (s.extract 4 (4 + n))] 23; clear hb)
    | (go_at_call 14; refine (rtake_good_ret s _ _ _ H.out hz _ hs).mono ?_; rintro e w2 ⟨rfl, hb⟩; replace hB := (hB.trans (hb.mono hB.size)).alloc (by have := hb.size; have := hB.size; omega) (.cells #[.int .i64 k, .int .i64 f, .string (s.extract 4 (4 + n))] 23); replace hF := (hF.below hb hF.lt).alloc (.cells #[.int .i64 k, .int .i64 f, .string (s.extract 4 (4 + n))] 23); have hG := Cs.new w2 [.int .i64 k, .int .i64 f, .string (s.extract 4 (4 + n))] 23; clear hb)
    | (go_at_call 15; refine (head_ret s _ _ _ _ H.out _ hmx).mono ?_; rintro e w3 ⟨rfl, hb⟩; replace hB := hB.trans (hb.mono hB.size); replace hF := hF.below hb hF.lt; replace hG := hG.below hb hG.lt; obtain ⟨⟨d0, d1, d2⟩, _⟩ := hF.three; obtain ⟨⟨e0, e1, e2⟩, _⟩ := hG.three; clear hb)
    | (go_at_call 12; refine (awake_any _).mono ?_; rintro e w4 ⟨rfl, hb⟩; replace hB := hB.trans (hb.mono hB.size); clear hb))
  go_ret
  exact ⟨rfl, hB⟩

theorem takes_walk (s : ByteArray) (w : World) (hs : s.size ≤ 140737488355327) :
    Calls Try.prog 4 #[.string s] w fun y w' => y = .returned (.bool true) ∧ Below w.heap.size w w' := by
  obtain ⟨k, f, n, e, h⟩ : ∃ k f n e, heS s = (k, f, n, e) := ⟨_, _, _, _, rfl⟩
  by_cases he : e = 0
  · subst he
    by_cases hz : s.size < 4 + n
    · exact takes_short s k f n h hz w (by omega)
    · exact takes_good s k f n h hz w (by omega)
  · exact takes_bad s k f n e h he w (by omega)
end Go.Proofs.Ytgihiejbaimljaa.Fr
