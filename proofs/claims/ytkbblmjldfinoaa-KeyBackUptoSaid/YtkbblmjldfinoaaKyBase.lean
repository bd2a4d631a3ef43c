/- Keys: the contracts of key.isTag, Put, Take and Skip over the program, and of the reference's Put, Take and Skip. -/
import Derived.Test.YtkbblmjldfinoaaSpBase
namespace Go.Proofs.Ytkbblmjldfinoaa.Vm
open Go.RowKit
set_option linter.unusedVariables false
set_option linter.unusedSimpArgs false

/-- A key's bytes, and what is wrong with a tag and a wire. -/
def kpS (t v : Int) : ByteArray × Nat :=
  if t < 1 ∨ 255 < t then (⟨#[]⟩, 9) else if v ≠ 0 ∧ v ≠ 1 then (⟨#[]⟩, 4) else (⟨(putL (2 * t + v).toNat).toArray⟩, 0)
def kpV (r : ByteArray × Nat) : Ending := .returned (.tuple #[.string r.1, .int .i64 r.2])
/-- The key with which bytes begin. -/
def ktS (s : ByteArray) : Nat × Nat × Nat × Nat :=
  if (tkS s).2.2 ≠ 0 then (0, 0, 0, (tkS s).2.2) else if (tkS s).1 < 2 ∨ 511 < (tkS s).1 then (0, 0, 0, 9) else ((tkS s).1 / 2, (tkS s).1 % 2, (tkS s).2.1, 0)
def ktV (r : Nat × Nat × Nat × Nat) : Ending := .returned (.tuple #[.int .i64 r.1, .int .i64 r.2.1, .int .i64 r.2.2.1, .int .i64 r.2.2.2])
/-- How long a content is. -/
def skS (s : ByteArray) (v : Int) : Nat × Nat :=
  if v = 0 then ((tkS s).2.1, (tkS s).2.2) else if v ≠ 1 then (0, 4) else if (tkS s).2.2 ≠ 0 then (0, (tkS s).2.2) else if s.size < (tkS s).2.1 + (tkS s).1 then (0, 2) else ((tkS s).2.1 + (tkS s).1, 0)
def skV (r : Nat × Nat) : Ending := .returned (.tuple #[.int .i64 r.1, .int .i64 r.2])

theorem kpS_tag (t v : Int) (h : t < 1 ∨ 255 < t) : kpS t v = (⟨#[]⟩, 9) := by unfold kpS; rw [if_pos h]
theorem kpS_kind (t v : Int) (h : ¬ (t < 1 ∨ 255 < t)) (h2 : v ≠ 0 ∧ v ≠ 1) : kpS t v = (⟨#[]⟩, 4) := by unfold kpS; rw [if_neg h, if_pos h2]
theorem kpS_good (t v : Int) (h : ¬ (t < 1 ∨ 255 < t)) (h2 : ¬ (v ≠ 0 ∧ v ≠ 1)) : kpS t v = (⟨(putL (2 * t + v).toNat).toArray⟩, 0) := by unfold kpS; rw [if_neg h, if_neg h2]
theorem ktS_bad (s : ByteArray) (n k e : Nat) (h : tkS s = (n, k, e)) (he : e ≠ 0) : ktS s = (0, 0, 0, e) := by unfold ktS; rw [h]; simp [he]
theorem ktS_tag (s : ByteArray) (n k : Nat) (h : tkS s = (n, k, 0)) (hn : n < 2 ∨ 511 < n) : ktS s = (0, 0, 0, 9) := by unfold ktS; rw [h]; simp [hn]
theorem ktS_good (s : ByteArray) (n k : Nat) (h : tkS s = (n, k, 0)) (hn : ¬ (n < 2 ∨ 511 < n)) : ktS s = (n / 2, n % 2, k, 0) := by unfold ktS; rw [h]; simp only [ne_eq, not_true_eq_false, if_false, if_neg hn]
theorem skS_num (s : ByteArray) (n k e : Nat) (h : tkS s = (n, k, e)) : skS s 0 = (k, e) := by unfold skS; rw [h]; simp
theorem skS_kind (s : ByteArray) (v : Int) (h : v ≠ 0) (h1 : v ≠ 1) : skS s v = (0, 4) := by unfold skS; simp [h, h1]
theorem skS_bad (s : ByteArray) (n k e : Nat) (h : tkS s = (n, k, e)) (he : e ≠ 0) : skS s 1 = (0, e) := by unfold skS; rw [h]; simp [he]
theorem skS_short (s : ByteArray) (n k : Nat) (h : tkS s = (n, k, 0)) (hm : s.size < k + n) : skS s 1 = (0, 2) := by unfold skS; rw [h]; simp [hm]
theorem skS_good (s : ByteArray) (n k : Nat) (h : tkS s = (n, k, 0)) (hm : ¬ s.size < k + n) : skS s 1 = (k + n, 0) := by unfold skS; rw [h]; simp [hm]

theorem istag_any (n : Int) (w : World) :
    Calls Try.prog 21 #[.int .u64 n] w fun e w' => e = .returned (.bool (decide (1 ≤ n ∧ n ≤ 255))) ∧ w = w' := by
  by_cases h1 : 1 ≤ n
  · by_cases h2 : n ≤ 255
    · have hd : decide (1 ≤ n ∧ n ≤ 255) = true := decide_eq_true (And.intro h1 h2)
      rw [hd]; clear hd
      go_enter Try.func21, Try.ntmps21
      go_wp2
      go_ret
      exact ⟨rfl, rfl⟩
    · have hd : decide (1 ≤ n ∧ n ≤ 255) = false := decide_eq_false (fun h => h2 h.2)
      rw [hd]; clear hd
      go_enter Try.func21, Try.ntmps21
      go_wp2
      go_ret
      exact ⟨rfl, rfl⟩
  · have hd : decide (1 ≤ n ∧ n ≤ 255) = false := decide_eq_false (fun h => h1 h.1)
    rw [hd]; clear hd
    go_enter Try.func21, Try.ntmps21
    go_wp2
    go_ret
    exact ⟨rfl, rfl⟩
theorem istag_yes (n : Int) (w : World) (h : 1 ≤ n ∧ n ≤ 255) :
    Calls Try.prog 21 #[.int .u64 n] w fun e w' => e = .returned (.bool true) ∧ w = w' :=
  (istag_any n w).mono fun _ _ ⟨h1, h2⟩ => ⟨by rw [h1, decide_eq_true h], h2⟩
theorem istag_no (n : Int) (w : World) (h : ¬ (1 ≤ n ∧ n ≤ 255)) :
    Calls Try.prog 21 #[.int .u64 n] w fun e w' => e = .returned (.bool false) ∧ w = w' :=
  (istag_any n w).mono fun _ _ ⟨h1, h2⟩ => ⟨by rw [h1, decide_eq_false h], h2⟩

set_option maxRecDepth 100000 in
set_option maxHeartbeats 1000000 in
theorem kput_any (t v : Int) (w : World) (h1 : -9223372036854775808 ≤ t) (h2 : t ≤ 9223372036854775807) (h3 : -9223372036854775808 ≤ v) (h4 : v ≤ 9223372036854775807) :
    Calls Try.prog 7 #[.int .i64 t, .int .i64 v] w fun e w' => e = kpV (kpS t v) ∧ Below w.heap.size w w' := by
  have hb0 := Below.refl w.heap.size w
  by_cases ht : t < 1 ∨ 255 < t
  · rw [kpS_tag t v ht]
    have hd : ¬ (1 ≤ IntKind.u64.wrap t ∧ IntKind.u64.wrap t ≤ 255) := by
      rw [IntKind.wrap_u64]; omega
    go_enter Try.func7, Try.ntmps7
    go_wp2_with (go_at_call 21; refine (istag_no _ _ hd).mono ?_; rintro e w' ⟨rfl, rfl⟩)
    go_ret2
    exact ⟨rfl, hb0⟩
  · have hd : 1 ≤ t ∧ t ≤ 255 := by omega
    have hd1 := hd.1
    have hd2 := hd.2
    by_cases hv : v ≠ 0 ∧ v ≠ 1
    · rw [kpS_kind t v ht hv]
      by_cases hv0 : v < 0
      · go_enter Try.func7, Try.ntmps7
        go_wp2_with (go_at_call 21; refine (istag_yes _ _ hd).mono ?_; rintro e w' ⟨rfl, rfl⟩)
        go_ret2
        exact ⟨rfl, hb0⟩
      · have hv2 : 2 ≤ v := by omega
        go_enter Try.func7, Try.ntmps7
        go_wp2_with (go_at_call 21; refine (istag_yes _ _ hd).mono ?_; rintro e w' ⟨rfl, rfl⟩)
        go_ret2
        exact ⟨rfl, hb0⟩
    · rw [kpS_good t v ht hv]
      have hv0 : ¬ v < 0 := by omega
      have hv2 : ¬ 2 ≤ v := by omega
      obtain ⟨N, hN⟩ : ∃ N : Nat, (2 * t + v).toNat = N := ⟨_, rfl⟩
      have HN := Lib.hid hN
      rw [hN]; clear hN
      go_enter Try.func7, Try.ntmps7
      go_wp2_with (first | (go_at_call 21; refine (istag_yes _ _ hd).mono ?_; rintro e w' ⟨rfl, rfl⟩) | (go_at_call 22; rw [show t * 2 + v = (N : Int) by (have := HN.out; omega)]; refine (put_any _ _ (by have := HN.out; omega)).mono ?_; rintro e w' ⟨rfl, hb⟩))
      go_ret2
      exact ⟨rfl, hb⟩

theorem res4 {fn : Func} {t u v x : Tmp} (h : fn.results = #[.tmp t, .tmp u, .tmp v, .tmp x]) (tmps : Array Value) (P : Program) (w : World) :
    (results fn tmps).run P w = .ok (.tuple #[tmps.getD t undef, tmps.getD u undef, tmps.getD v undef, tmps.getD x undef]) w := by
  simp [results, h]
set_option maxRecDepth 100000 in
set_option maxHeartbeats 1000000 in
theorem ktake_any (s : ByteArray) (w : World) (hs : s.size ≤ maxLen) :
    Calls Try.prog 9 #[.string s] w fun e w' => e = ktV (ktS s) ∧ w = w' := by
  obtain ⟨n, k, e, h⟩ : ∃ n k e, tkS s = (n, k, e) := ⟨_, _, _, rfl⟩
  have H := Lib.hid h
  by_cases he : e = 0
  · subst he
    obtain ⟨g1, g2, g3, g4⟩ := tkS_good s n k h
    by_cases hn : n < 2 ∨ 511 < n
    · rw [ktS_tag s n k h hn]
      clear h
      go_enter Try.func9, Try.ntmps9
      go_wp2_with (first | (go_at_call 24; refine (take_ret s _ _ _ H.out _ hs).mono ?_; rintro e w' ⟨rfl, rfl⟩) | (go_at_call 21; refine (istag_no _ _ (by omega)).mono ?_; rintro e w' ⟨rfl, rfl⟩))
      refine bodyPost_ret (res4 rfl _ _ _) rfl ?_
      exact ⟨rfl, rfl⟩
    · rw [ktS_good s n k h hn]
      clear h
      go_enter Try.func9, Try.ntmps9
      go_wp2_with (first | (go_at_call 24; refine (take_ret s _ _ _ H.out _ hs).mono ?_; rintro e w' ⟨rfl, rfl⟩) | (go_at_call 21; refine (istag_yes _ _ (by omega)).mono ?_; rintro e w' ⟨rfl, rfl⟩))
      refine bodyPost_ret (res4 rfl _ _ _) rfl ?_
      exact ⟨rfl, rfl⟩
  · rw [ktS_bad s n k e h he]
    obtain ⟨g1, g2, g3⟩ := tkS_bad s n k e h he
    subst g1 g2
    clear h
    go_enter Try.func9, Try.ntmps9
    go_wp2_with (go_at_call 24; refine (take_ret s _ _ _ H.out _ hs).mono ?_; rintro e w' ⟨rfl, rfl⟩)
    refine bodyPost_ret (res4 rfl _ _ _) rfl ?_
    exact ⟨rfl, rfl⟩
set_option maxRecDepth 100000 in
set_option maxHeartbeats 1000000 in
theorem rktake_any (s : ByteArray) (w : World) (hs : s.size ≤ maxLen) :
    Calls Try.prog 10 #[.string s] w fun e w' => e = ktV (ktS s) ∧ w = w' := by
  obtain ⟨n, k, e, h⟩ : ∃ n k e, tkS s = (n, k, e) := ⟨_, _, _, rfl⟩
  have H := Lib.hid h
  by_cases he : e = 0
  · subst he
    obtain ⟨g1, g2, g3, g4⟩ := tkS_good s n k h
    by_cases hn : n < 2 ∨ 511 < n
    · rw [ktS_tag s n k h hn]
      clear h
      by_cases hn2 : n < 2
      · go_enter Try.func10, Try.ntmps10
        go_wp2_with (go_at_call 25; refine (rtake_ret s _ _ _ H.out _ hs).mono ?_; rintro e w' ⟨rfl, rfl⟩)
        refine bodyPost_ret (res4 rfl _ _ _) rfl ?_
        exact ⟨rfl, rfl⟩
      · have hn3 : 511 < n := by omega
        go_enter Try.func10, Try.ntmps10
        go_wp2_with (go_at_call 25; refine (rtake_ret s _ _ _ H.out _ hs).mono ?_; rintro e w' ⟨rfl, rfl⟩)
        refine bodyPost_ret (res4 rfl _ _ _) rfl ?_
        exact ⟨rfl, rfl⟩
    · rw [ktS_good s n k h hn]
      clear h
      have hn2 : ¬ n < 2 := by omega
      have hn3 : ¬ 511 < n := by omega
      go_enter Try.func10, Try.ntmps10
      go_wp2_with (go_at_call 25; refine (rtake_ret s _ _ _ H.out _ hs).mono ?_; rintro e w' ⟨rfl, rfl⟩)
      refine bodyPost_ret (res4 rfl _ _ _) rfl ?_
      exact ⟨rfl, rfl⟩
  · rw [ktS_bad s n k e h he]
    obtain ⟨g1, g2, g3⟩ := tkS_bad s n k e h he
    subst g1 g2
    clear h
    go_enter Try.func10, Try.ntmps10
    go_wp2_with (go_at_call 25; refine (rtake_ret s _ _ _ H.out _ hs).mono ?_; rintro e w' ⟨rfl, rfl⟩)
    refine bodyPost_ret (res4 rfl _ _ _) rfl ?_
    exact ⟨rfl, rfl⟩
end Go.Proofs.Ytkbblmjldfinoaa.Vm
