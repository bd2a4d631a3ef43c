/- Values: the contracts of the reference's Key, order, Cmp, plain. -/
import Derived.Test.YthgaipdhgckmdaaDoorVaSame
namespace Go.Proofs.YthgaipdhgckmdaaDoor.Va
open Go.RowKit Cm
set_option linter.unusedVariables false
set_option linter.unusedSimpArgs false

/-- The model's order of texts. -/
theorem bl_eq : ∀ (l m : List UInt8), Op.bytesLess l m = ltL l m
  | [], [] => rfl
  | [], _ :: _ => rfl
  | _ :: _, [] => rfl
  | a :: l, b :: m => by
    have := bl_eq l m
    show (decide (a < b) || (a == b && Op.bytesLess l m)) = (decide (a < b) || (decide (a = b) && ltL l m))
    rw [this]
    by_cases h : a = b
    · subst h; simp
    · have h2 : (a == b) = false := by simpa using h
      rw [h2, decide_eq_false h]
theorem bl_gt (l m : List UInt8) : (!(Op.bytesLess l m || l == m)) = ltL m l := by
  rw [bl_eq]
  cases h1 : ltL l m with
  | true => rw [ltL_asym l m h1]; rfl
  | false =>
    cases h2 : ltL m l with
    | true =>
      have : (l == m) = false := by
        cases h : l == m with
        | false => rfl
        | true =>
          obtain rfl := eq_of_beq h
          rw [ltL_irr] at h2; cases h2
      rw [this]; rfl
    | false =>
      obtain rfl := ltL_tri l m h1 h2
      simp

theorem key_any (k : Int) (w : World) : Calls Tryd.prog 21 #[.int .i64 k] w fun e w' => e = .returned (.bool (keyB k)) ∧ w' = w := by
  have hk : keyB k = (decide (1 ≤ k) && decide (k ≤ 4) || (k == 6)) := by
    unfold keyB
    rw [Bool.decide_and]
    congr 1
  have HK := Lib.hid hk
  clear hk
  by_cases g1 : 1 ≤ k
  · by_cases g2 : k ≤ 4
    · go_enter Tryd.func21, Tryd.ntmps21
      go_wp2
      go_ret
      refine ⟨?_, rfl⟩
      rw [HK.out, decide_eq_true g1, decide_eq_true g2]; rfl
    · go_enter Tryd.func21, Tryd.ntmps21
      go_wp2
      go_ret
      refine ⟨?_, rfl⟩
      rw [HK.out, decide_eq_true g1, decide_eq_false (by omega : ¬ k ≤ 4)]; rfl
  · go_enter Tryd.func21, Tryd.ntmps21
    go_wp2
    go_ret
    refine ⟨?_, rfl⟩
    rw [HK.out, decide_eq_false (by omega : ¬ 1 ≤ k)]; rfl
theorem order_any (a b : Bool) (w : World) : Calls Tryd.prog 36 #[.bool a, .bool b] w fun e w' => e = .returned (.int .i64 (orZ a b)) ∧ w' = w := by
  cases a <;> cases b <;> (go_enter Tryd.func36, Tryd.ntmps36; go_wp2; go_ret; exact ⟨rfl, rfl⟩)

set_option maxRecDepth 100000 in
set_option maxHeartbeats 2000000 in
theorem rcmp_any (a b : Va) (w : World) :
    Calls Tryd.prog 20 #[.agg #[.int .i64 a.k, .int .i64 a.n, .string a.s, .slice a.tb a.ts.length a.tc, .slice a.io a.is.length a.ic], .agg #[.int .i64 b.k, .int .i64 b.n, .string b.s, .slice b.tb b.ts.length b.tc, .slice b.io b.is.length b.ic]] w
      fun e w' => e = .returned (.int .i64 (cmpV a.k a.n a.s b.k b.n b.s)) ∧ Below w.heap.size w w' := by
  obtain ⟨k, n, s, tb, tc, ts, io, ic, is⟩ := a
  obtain ⟨k', n', s', tb', tc', us, io', ic', js⟩ := b
  show Calls Tryd.prog 20 #[.agg #[.int .i64 k, .int .i64 n, .string s, .slice tb ts.length tc, .slice io is.length ic], .agg #[.int .i64 k', .int .i64 n', .string s', .slice tb' us.length tc', .slice io' js.length ic']] w
    fun e w' => e = .returned (.int .i64 (cmpV k n s k' n' s')) ∧ Below w.heap.size w w'
  have hW := Lib.hid (two_new w [.int .i64 k, .int .i64 n, .string s, .slice tb ts.length tc, .slice io is.length ic] [.int .i64 k', .int .i64 n', .string s', .slice tb' us.length tc', .slice io' js.length ic'] 25).2.2
  by_cases e1 : k = k'
  · subst e1
    cases hk : keyB k with
    | false =>
      go_enter Tryd.func20, Tryd.ntmps20
      go_wp2_with (first
        | (go_at_call 21; refine (key_any _ _).mono ?_; rw [hk]; rintro e w1 ⟨rfl, rfl⟩)
        | (go_at_call 36; refine (order_any _ _ _).mono ?_; rintro e w1 ⟨rfl, rfl⟩))
      go_ret
      refine ⟨?_, hW.out⟩
      unfold cmpV
      have hkk : decide (k < k) = false := by simp
      rw [if_pos (.inr hk), hkk]; rfl
    | true =>
      have hif : ¬ (k ≠ k ∨ keyB k = false) := by rw [hk]; simp
      by_cases k4 : k = 4
      · have hk4 : (k == 4) = true := by simpa using k4
        have hc : cmpV k n s k n' s' = orZ (Op.bytesLess s.toList s'.toList) (!Op.bytesLess s.toList s'.toList && !s.toList == s'.toList) := by
          unfold cmpV
          rw [if_neg hif, if_pos k4, ← Bool.not_or, bl_gt, bl_eq, ByteArray.toList_eq, ByteArray.toList_eq]
        have HC := Lib.hid hc
        clear hif k4 hc
        go_enter Tryd.func20, Tryd.ntmps20
        go_wp2_with (first
          | (go_at_call 21; refine (key_any _ _).mono ?_; rw [hk]; rintro e w1 ⟨rfl, rfl⟩)
          | (go_at_call 36; refine (order_any _ _ _).mono ?_; rintro e w1 ⟨rfl, rfl⟩))
        go_ret
        refine ⟨?_, hW.out⟩
        rw [HC.out]; rfl
      · have hk4 : (k == 4) = false := by simpa using k4
        by_cases k3 : k = 3
        · have hk3 : (k == 3) = true := by simpa using k3
          by_cases hd : decide (n < 0) = decide (n' < 0)
          · have hd' : (!(decide (n < 0) == decide (n' < 0))) = false := by rw [hd]; simp
            have hc : cmpV k n s k n' s' = orZ (decide (n < n')) (decide (n' < n)) := by
              unfold cmpV
              rw [if_neg hif, if_neg k4, if_neg (fun h => h.2 hd)]
            have HC := Lib.hid hc
            clear hif k4 k3 hc hd
            go_enter Tryd.func20, Tryd.ntmps20
            go_wp2_with (first
              | (go_at_call 21; refine (key_any _ _).mono ?_; rw [hk]; rintro e w1 ⟨rfl, rfl⟩)
              | (go_at_call 36; refine (order_any _ _ _).mono ?_; rintro e w1 ⟨rfl, rfl⟩))
            go_ret
            refine ⟨?_, hW.out⟩
            rw [HC.out]; rfl
          · have hd' : (!(decide (n < 0) == decide (n' < 0))) = true := by simpa using hd
            have hc : cmpV k n s k n' s' = orZ (decide (n' < 0)) (decide (n < 0)) := by
              unfold cmpV
              rw [if_neg hif, if_neg k4, if_pos ⟨k3, hd⟩]
            have HC := Lib.hid hc
            clear hif k4 k3 hc hd
            go_enter Tryd.func20, Tryd.ntmps20
            go_wp2_with (first
              | (go_at_call 21; refine (key_any _ _).mono ?_; rw [hk]; rintro e w1 ⟨rfl, rfl⟩)
              | (go_at_call 36; refine (order_any _ _ _).mono ?_; rintro e w1 ⟨rfl, rfl⟩))
            go_ret
            refine ⟨?_, hW.out⟩
            rw [HC.out]; rfl
        · have hk3 : (k == 3) = false := by simpa using k3
          have hc : cmpV k n s k n' s' = orZ (decide (n < n')) (decide (n' < n)) := by
            unfold cmpV
            rw [if_neg hif, if_neg k4, if_neg (fun h => k3 h.1)]
          have HC := Lib.hid hc
          clear hif k4 k3 hc
          go_enter Tryd.func20, Tryd.ntmps20
          go_wp2_with (first
            | (go_at_call 21; refine (key_any _ _).mono ?_; rw [hk]; rintro e w1 ⟨rfl, rfl⟩)
            | (go_at_call 36; refine (order_any _ _ _).mono ?_; rintro e w1 ⟨rfl, rfl⟩))
          go_ret
          refine ⟨?_, hW.out⟩
          rw [HC.out]; rfl
  · have hne : (k != k') = true := by simpa using e1
    go_enter Tryd.func20, Tryd.ntmps20
    go_wp2_with (go_at_call 36; refine (order_any _ _ _).mono ?_; rintro e w1 ⟨rfl, rfl⟩)
    go_ret
    refine ⟨?_, hW.out⟩
    unfold cmpV
    rw [if_pos (.inl e1)]; rfl

/-- Has a value no more than its number, or its text? -/
theorem plain_any (k n : Int) (s : ByteArray) (tb : Option Addr) (tl tc : Nat) (io : Option Addr) (il ic : Nat) (w : World) :
    Calls Tryd.prog 42 #[.agg #[.int .i64 k, .int .i64 n, .string s, .slice tb tl tc, .slice io il ic]] w fun e w' => e = .returned (.bool (decide (tl = 0) && decide (il = 0))) ∧ Below w.heap.size w w' := by
  have hB0 := Lib.hid ((Below.refl w.heap.size w).alloc (Nat.le_refl _) (.cells #[.int .i64 k, .int .i64 n, .string s, .slice tb tl tc, .slice io il ic] 25))
  by_cases h1 : tl = 0
  · subst h1
    have h2 : decide (il = 0) = ((il : Int) == 0) := by
      by_cases h : il = 0
      · subst h; rfl
      · rw [decide_eq_false h]; symm; simpa using h
    go_enter Tryd.func42, Tryd.ntmps42
    go_wp2
    go_ret
    refine ⟨?_, hB0.out⟩
    rw [h2]; rfl
  · have h2 : ((tl : Int) == 0) = false := by simpa using h1
    go_enter Tryd.func42, Tryd.ntmps42
    go_wp2
    go_ret
    refine ⟨?_, hB0.out⟩
    rw [decide_eq_false h1]; rfl
end Go.Proofs.YthgaipdhgckmdaaDoor.Va
