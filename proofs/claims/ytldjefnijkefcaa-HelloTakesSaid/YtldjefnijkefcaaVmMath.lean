/- The plain mathematics of numbers as bytes of seven bits each: what is put, what is taken, numbers with a sign turned; it imports nothing of the program. -/
namespace Go.Proofs.Ytldjefnijkefcaa.Vm

/-- The bytes of a number. -/
def putL (n : Nat) : List UInt8 := if n < 128 then [UInt8.ofNat n] else UInt8.ofNat (n % 128 + 128) :: putL (n / 128)
termination_by n
decreasing_by omega

/-- What is taken of bytes, behind i bytes that have the number n: number, count, error. -/
def tk (i n : Nat) : List UInt8 → Nat × Nat × Nat
  | [] => (0, 0, 2)
  | c :: r => if (0 < i ∧ c.toNat = 0) ∨ (i = 9 ∧ 1 < c.toNat) then (0, 0, 1) else if c.toNat < 128 then (n + c.toNat * 128 ^ i, i + 1, 0) else tk (i + 1) (n + c.toNat % 128 * 128 ^ i) r

theorem putL_lt {n : Nat} (h : n < 128) : putL n = [UInt8.ofNat n] := by rw [putL, if_pos h]
theorem putL_ge {n : Nat} (h : 128 ≤ n) : putL n = UInt8.ofNat (n % 128 + 128) :: putL (n / 128) := by rw [putL, if_neg (by omega)]

theorem putL_pos (n : Nat) : 0 < (putL n).length := by
  by_cases h : n < 128
  · rw [putL_lt h]; simp
  · rw [putL_ge (by omega)]; simp

theorem putL_len (k : Nat) : ∀ n : Nat, n < 128 ^ (k + 1) → (putL n).length ≤ k + 1 := by
  induction k with
  | zero => intro n h; rw [putL_lt (by simpa using h)]; simp
  | succ k ih =>
    intro n h
    by_cases hn : n < 128
    · rw [putL_lt hn]; simp
    · rw [putL_ge (by omega)]
      have := ih (n / 128) (by rw [Nat.pow_succ] at h; exact Nat.div_lt_of_lt_mul (by omega))
      simp; omega

theorem putL_len10 (n : Nat) (h : n < 18446744073709551616) : (putL n).length ≤ 10 := by
  refine putL_len 9 n ?_
  have e : (128 : Nat) ^ (9 + 1) = 1180591620717411303424 := by decide
  rw [e]; omega

/-- A greater number has no fewer bytes. -/
theorem putL_len_mono : ∀ (b a : Nat), a ≤ b → (putL a).length ≤ (putL b).length := by
  intro b
  induction b using Nat.strongRecOn with
  | ind b ih =>
    intro a h
    by_cases ha : a < 128
    · rw [putL_lt ha]; exact putL_pos b
    · rw [putL_ge (by omega), putL_ge (n := b) (by omega)]
      have := ih (b / 128) (by omega) (a / 128) (by omega)
      simp; omega

theorem tn {n : Nat} (h : n < 256) : (UInt8.ofNat n).toNat = n := by simp; omega

/-- What is put is taken, whatever stands behind it. -/
theorem tk_put (r : List UInt8) : ∀ (m i n : Nat), i ≤ 9 → m * 128 ^ i < 18446744073709551616 → (0 < i → 0 < m) → tk i n (putL m ++ r) = (n + m * 128 ^ i, i + (putL m).length, 0) := by
  intro m
  induction m using Nat.strongRecOn with
  | ind m ih =>
    intro i n hi hm h0
    by_cases h : m < 128
    · rw [putL_lt h]
      simp only [List.cons_append, List.nil_append, tk, tn (show m < 256 by omega), List.length_singleton]
      rw [if_neg, if_pos h]
      intro hc
      rcases hc with ⟨h1, h2⟩ | ⟨h1, h2⟩
      · have := h0 h1; omega
      · subst h1
        have e : (128 : Nat) ^ 9 = 9223372036854775808 := by decide
        rw [e] at hm; omega
    · rw [putL_ge (by omega)]
      have hi9 : i ≠ 9 := by
        intro e; subst e
        have e : (128 : Nat) ^ 9 = 9223372036854775808 := by decide
        rw [e] at hm; omega
      have hb : m % 128 + 128 < 256 := by omega
      simp only [List.cons_append, tk, tn hb, List.length_cons]
      rw [if_neg (by omega), if_neg (by omega)]
      have hd : m / 128 * 128 ^ (i + 1) ≤ m * 128 ^ i := by
        rw [Nat.pow_succ, Nat.mul_comm (128 ^ i) 128, ← Nat.mul_assoc]
        exact Nat.mul_le_mul_right _ (Nat.div_mul_le_self m 128)
      rw [ih (m / 128) (by omega) (i + 1) _ (by omega) (by omega) (by omega)]
      have hs : m * 128 ^ i = m % 128 * 128 ^ i + m / 128 * 128 ^ (i + 1) := by
        rw [Nat.pow_succ, Nat.mul_comm (128 ^ i) 128, ← Nat.mul_assoc, ← Nat.add_mul]
        congr 1; omega
      have e1 : (m % 128 + 128) % 128 = m % 128 := by omega
      rw [e1, hs]
      refine Prod.ext ?_ (Prod.ext ?_ rfl) <;> simp <;> omega

theorem tk_put0 (m : Nat) (r : List UInt8) (h : m < 18446744073709551616) : tk 0 0 (putL m ++ r) = (m, (putL m).length, 0) := by
  have := tk_put r m 0 0 (by omega) (by simpa using h) (by omega)
  simpa using this

/-- No beginning of what is put is a number. -/
theorem tk_short : ∀ (m i n j : Nat), i ≤ 9 → m * 128 ^ i < 18446744073709551616 → (0 < i → 0 < m) → j < (putL m).length → tk i n ((putL m).take j) = (0, 0, 2) := by
  intro m
  induction m using Nat.strongRecOn with
  | ind m ih =>
    intro i n j hi hm h0 hj
    by_cases h : m < 128
    · rw [putL_lt h] at hj ⊢
      simp at hj; subst hj; simp [tk]
    · rw [putL_ge (by omega)] at hj ⊢
      have hi9 : i ≠ 9 := by
        intro e; subst e
        have e : (128 : Nat) ^ 9 = 9223372036854775808 := by decide
        rw [e] at hm; omega
      cases j with
      | zero => simp [tk]
      | succ j =>
        have hb : m % 128 + 128 < 256 := by omega
        simp only [List.take_succ_cons, tk, tn hb]
        rw [if_neg (by omega), if_neg (by omega)]
        have hd : m / 128 * 128 ^ (i + 1) ≤ m * 128 ^ i := by
          rw [Nat.pow_succ, Nat.mul_comm (128 ^ i) 128, ← Nat.mul_assoc]
          exact Nat.mul_le_mul_right _ (Nat.div_mul_le_self m 128)
        simp at hj
        exact ih (m / 128) (by omega) (i + 1) _ j (by omega) (by omega) (by omega) (by omega)

theorem tk_short0 (m j : Nat) (h : m < 18446744073709551616) (hj : j < (putL m).length) : tk 0 0 ((putL m).take j) = (0, 0, 2) :=
  tk_short m 0 0 j (by omega) (by simpa using h) (by omega) hj

/-- The bytes of which a number is taken are those that are put for it. -/
theorem tk_one : ∀ (l : List UInt8) (i n x k : Nat), i ≤ 9 → tk i n l = (x, k, 0) → ∃ m, x = n + m * 128 ^ i ∧ k = i + (putL m).length ∧ k ≤ i + l.length ∧ l.take (k - i) = putL m ∧ (0 < i → 0 < m) ∧ m * 128 ^ i < 18446744073709551616 ∧ k ≤ 10 := by
  intro l
  induction l with
  | nil => intro i n x k _ h; simp [tk] at h
  | cons c r ih =>
    intro i n x k hi h
    have hp : (128 : Nat) ^ i ≤ 9223372036854775808 := by
      have : (128 : Nat) ^ i ≤ 128 ^ 9 := Nat.pow_le_pow_right (by decide) hi
      simpa using this
    simp only [tk] at h
    split at h
    · simp at h
    · rename_i hne
      split at h
      · rename_i hc
        simp only [Prod.mk.injEq] at h
        obtain ⟨rfl, rfl, _⟩ := h
        have e : UInt8.ofNat c.toNat = c := by simp
        refine ⟨c.toNat, rfl, ?_, ?_, ?_, ?_, ?_, by omega⟩
        · rw [putL_lt hc]; simp
        · simp
        · rw [putL_lt hc, e]; simp
        · intro hi0; omega
        · by_cases h9 : i = 9
          · subst h9
            have h1 : c.toNat ≤ 1 := by omega
            calc c.toNat * 128 ^ 9 ≤ 1 * 128 ^ 9 := Nat.mul_le_mul_right _ h1
              _ < 18446744073709551616 := by decide
          · have hp8 : (128 : Nat) ^ i ≤ 128 ^ 8 := Nat.pow_le_pow_right (by decide) (by omega)
            calc c.toNat * 128 ^ i ≤ 127 * 128 ^ 8 := Nat.mul_le_mul (by omega) hp8
              _ < 18446744073709551616 := by decide
      · rename_i hc
        have hi9 : i ≠ 9 := by omega
        obtain ⟨m, hx, hk, hle, ht, hm0, hms, hk10⟩ := ih (i + 1) _ x k (by omega) h
        have hm := hm0 (by omega)
        have hlt : c.toNat < 256 := c.toNat_lt
        have e128 : (128 : Nat) ^ (i + 1) = 128 * 128 ^ i := by rw [Nat.pow_succ, Nat.mul_comm]
        have hpm : putL (c.toNat % 128 + 128 * m) = c :: putL m := by
          rw [putL_ge (by omega)]
          have e1 : (c.toNat % 128 + 128 * m) % 128 + 128 = c.toNat := by omega
          have e2 : (c.toNat % 128 + 128 * m) / 128 = m := by omega
          rw [e1, e2]; simp
        have hsum : (c.toNat % 128 + 128 * m) * 128 ^ i = c.toNat % 128 * 128 ^ i + m * 128 ^ (i + 1) := by
          rw [e128, Nat.add_mul, ← Nat.mul_assoc, Nat.mul_comm 128 m]
        refine ⟨c.toNat % 128 + 128 * m, ?_, ?_, ?_, ?_, by omega, ?_, hk10⟩
        · rw [hx, hsum]; omega
        · rw [hpm, hk]; simp; omega
        · simp; omega
        · have e3 : k - i = (k - (i + 1)) + 1 := by omega
          rw [hpm, e3, List.take_succ_cons, ht]
        · rw [hsum]
          -- the bound: c's seven bits fill what m leaves
          have hd : 128 ^ (i + 1) ∣ 18446744073709551616 := by
            have : (18446744073709551616 : Nat) = 128 ^ (i + 1) * 2 ^ (64 - 7 * (i + 1)) := by
              have e : (128 : Nat) = 2 ^ 7 := by decide
              rw [e, ← Nat.pow_mul, ← Nat.pow_add]
              have e2 : 7 * (i + 1) + (64 - 7 * (i + 1)) = 64 := by omega
              rw [e2]
            exact ⟨_, this⟩
          obtain ⟨q, hq⟩ := hd
          rw [hq] at hms ⊢
          have hmq : m < q := by
            rw [Nat.mul_comm] at hms
            exact Nat.lt_of_mul_lt_mul_left hms
          have h7 : c.toNat % 128 * 128 ^ i < 128 ^ (i + 1) := by
            rw [e128]; exact Nat.mul_lt_mul_of_pos_right (by omega) (Nat.pow_pos (by decide))
          calc c.toNat % 128 * 128 ^ i + m * 128 ^ (i + 1) < 128 ^ (i + 1) + m * 128 ^ (i + 1) := by omega
            _ = 128 ^ (i + 1) * (m + 1) := by rw [Nat.mul_add, Nat.mul_one, Nat.mul_comm m]; omega
            _ ≤ 128 ^ (i + 1) * q := Nat.mul_le_mul_left _ hmq

theorem tk_one0 (l : List UInt8) (x k : Nat) (h : tk 0 0 l = (x, k, 0)) : 1 ≤ k ∧ k ≤ 10 ∧ k ≤ l.length ∧ putL x = l.take k ∧ x < 18446744073709551616 := by
  obtain ⟨m, hx, hk, hle, ht, _, hms, h10⟩ := tk_one l 0 0 x k (by omega) h
  have e : x = m := by simpa using hx
  subst e
  have := putL_pos x
  exact ⟨by omega, h10, by omega, by simpa using ht.symm, by simpa using hms⟩

/-- Unlike numbers have unlike bytes. -/
theorem putL_inj (a b : Nat) (ha : a < 18446744073709551616) (hb : b < 18446744073709551616) (h : putL a = putL b) : a = b := by
  have h1 := tk_put0 a [] ha
  have h2 := tk_put0 b [] hb
  rw [h, h2] at h1
  simp only [Prod.mk.injEq] at h1
  exact h1.1.symm

/-- The error is 0, 1 or 2; beside an error all else is 0. -/
theorem tk_err : ∀ (l : List UInt8) (i n : Nat), (∃ x k, tk i n l = (x, k, 0)) ∨ tk i n l = (0, 0, 1) ∨ tk i n l = (0, 0, 2) := by
  intro l
  induction l with
  | nil => intro i n; exact .inr (.inr rfl)
  | cons c r ih =>
    intro i n
    simp only [tk]
    split
    · exact .inr (.inl rfl)
    · split
      · exact .inl ⟨_, _, rfl⟩
      · exact ih _ _

/-- A number with a sign as one without, and back. -/
def turn (m : Int) : Int := if 0 ≤ m then 2 * m else -(2 * m) - 1
def back (n : Int) : Int := if n % 2 = 0 then n / 2 else -(n / 2) - 1

theorem turn_lo (m : Int) : 0 ≤ turn m := by unfold turn; split <;> omega
theorem turn_hi (m : Int) (h1 : -9223372036854775808 ≤ m) (h2 : m ≤ 9223372036854775807) : turn m ≤ 18446744073709551615 := by unfold turn; split <;> omega
theorem back_lo (n : Int) (h1 : 0 ≤ n) (h2 : n ≤ 18446744073709551615) : -9223372036854775808 ≤ back n := by unfold back; split <;> omega
theorem back_hi (n : Int) (h1 : 0 ≤ n) (h2 : n ≤ 18446744073709551615) : back n ≤ 9223372036854775807 := by unfold back; split <;> omega
theorem back_turn (m : Int) : back (turn m) = m := by unfold back turn; split <;> split <;> omega
theorem turn_back (n : Int) (h : 0 ≤ n) : turn (back n) = n := by unfold back turn; split <;> split <;> omega

end Go.Proofs.Ytldjefnijkefcaa.Vm
