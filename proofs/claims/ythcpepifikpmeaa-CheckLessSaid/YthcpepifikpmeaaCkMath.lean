/- What is finite: the least set that is closed under a rule, found by as many rounds as there are declarations. Plain mathematics: it imports nothing of the program. -/
namespace Go.Proofs.Ythcpepifikpmeaa.Ck
/-- How many of the first n are so. -/
def cnB (p : Nat → Bool) : Nat → Nat
  | 0 => 0
  | n + 1 => cnB p n + if p n = true then 1 else 0
theorem cnB_hit {p : Nat → Bool} {n : Nat} (h : p n = true) : cnB p (n + 1) = cnB p n + 1 := by simp [cnB, h]
theorem cnB_miss {p : Nat → Bool} {n : Nat} (h : p n = false) : cnB p (n + 1) = cnB p n := by simp [cnB, h]
theorem cnB_le (p : Nat → Bool) (n : Nat) : cnB p n ≤ n := by
  induction n with
  | zero => simp [cnB]
  | succ n ih => simp only [cnB]; split <;> omega
theorem cnB_congr {p q : Nat → Bool} {n : Nat} (h : ∀ k, k < n → p k = q k) : cnB p n = cnB q n := by
  induction n with
  | zero => rfl
  | succ n ih => simp only [cnB, h n (by omega), ih (fun k hk => h k (by omega))]
theorem cnB_mono {p q : Nat → Bool} {n : Nat} (h : ∀ k, k < n → p k = true → q k = true) : cnB p n ≤ cnB q n := by
  induction n with
  | zero => simp [cnB]
  | succ n ih =>
    have i := ih (fun k hk => h k (by omega))
    cases hp : p n with
    | true => rw [cnB_hit hp, cnB_hit (h n (by omega) hp)]; omega
    | false => rw [cnB_miss hp]; simp only [cnB]; omega
theorem cnB_lt {p q : Nat → Bool} {n i : Nat} (h : ∀ k, k < n → p k = true → q k = true) (hi : i < n) (hp : p i = false) (hq : q i = true) : cnB p n < cnB q n := by
  induction n with
  | zero => omega
  | succ n ih =>
    by_cases e : i = n
    · subst e
      have := cnB_mono (n := i) (fun k hk => h k (by omega))
      rw [cnB_miss hp, cnB_hit hq]; omega
    · have i1 := ih (fun k hk => h k (by omega)) (by omega)
      cases hpn : p n with
      | true => rw [cnB_hit hpn, cnB_hit (h n (by omega) hpn)]; omega
      | false => rw [cnB_miss hpn]; simp only [cnB]; omega
theorem cnB_all {p : Nat → Bool} {n : Nat} : cnB p n = n ↔ ∀ k, k < n → p k = true := by
  induction n with
  | zero => exact ⟨fun _ k hk => by omega, fun _ => rfl⟩
  | succ n ih =>
    have hl := cnB_le p n
    cases hp : p n with
    | true =>
      rw [cnB_hit hp]
      refine ⟨fun h k hk => ?_, fun h => by rw [ih.2 (fun k hk => h k (by omega))]⟩
      by_cases e : k = n
      · subst e; exact hp
      · exact ih.1 (by omega) k (by omega)
    | false =>
      rw [cnB_miss hp]
      exact ⟨fun h => by omega, fun h => by rw [h n (by omega)] at hp; cases hp⟩
theorem cnB_pos {p : Nat → Bool} {n : Nat} : 0 < cnB p n ↔ ∃ k, k < n ∧ p k = true := by
  induction n with
  | zero => exact ⟨fun h => by simp [cnB] at h, fun ⟨k, hk, _⟩ => by omega⟩
  | succ n ih =>
    cases hp : p n with
    | true => rw [cnB_hit hp]; exact ⟨fun _ => ⟨n, by omega, hp⟩, fun _ => by omega⟩
    | false =>
      rw [cnB_miss hp, ih]
      refine ⟨fun ⟨k, hk, h⟩ => ⟨k, by omega, h⟩, fun ⟨k, hk, h⟩ => ⟨k, ?_, h⟩⟩
      by_cases e : k = n
      · subst e; rw [h] at hp; cases hp
      · omega

/-- Declarations as the rule sees them: kinds, how many fields, and what a field hangs on (none: on nothing; some none: on what is missing; some (some j): on the declaration j). -/
structure Sy where
  n : Nat
  K : Nat → Int
  l : Nat → Nat
  r : Nat → Nat → Option (Option Nat)
  lt : ∀ i k j, r i k = some (some j) → j < n
/-- Is a field finite, as far as is known? -/
def fdB (s : Sy) (X : Nat → Bool) (i k : Nat) : Bool := match s.r i k with
  | none => true
  | some none => false
  | some (some j) => X j
/-- Is a declaration? -/
def onB (s : Sy) (X : Nat → Bool) (i : Nat) : Bool :=
  (s.K i == 3) || (s.K i == 4) || ((s.K i == 1) && (cnB (fdB s X i) (s.l i) == s.l i)) || ((s.K i == 2) && decide (0 < cnB (fdB s X i) (s.l i)))
theorem fdB_mono {s : Sy} {X Y : Nat → Bool} (h : ∀ j, j < s.n → X j = true → Y j = true) {i k : Nat} (hf : fdB s X i k = true) : fdB s Y i k = true := by
  unfold fdB at hf ⊢
  cases hr : s.r i k with
  | none => rfl
  | some o =>
    rw [hr] at hf
    cases o with
    | none => cases hf
    | some j => exact h j (s.lt i k j hr) hf
theorem onB_mono {s : Sy} {X Y : Nat → Bool} (h : ∀ j, j < s.n → X j = true → Y j = true) {i : Nat} (hf : onB s X i = true) : onB s Y i = true := by
  have hm := cnB_mono (p := fdB s X i) (q := fdB s Y i) (n := s.l i) (fun k _ hk => fdB_mono h hk)
  have hl := cnB_le (fdB s Y i) (s.l i)
  unfold onB at hf ⊢
  simp only [Bool.or_eq_true, Bool.and_eq_true, beq_iff_eq, decide_eq_true_eq] at hf ⊢
  rcases hf with ((a | a) | ⟨a, b⟩) | ⟨a, b⟩
  · exact .inl (.inl (.inl a))
  · exact .inl (.inl (.inr a))
  · exact .inl (.inr ⟨a, by omega⟩)
  · exact .inr ⟨a, by omega⟩
/-- Rounds. -/
def rdB (s : Sy) : Nat → Nat → Bool
  | 0 => fun _ => false
  | m + 1 => fun i => onB s (rdB s m) i
def Closed (s : Sy) (X : Nat → Bool) : Prop := ∀ i, i < s.n → onB s X i = true → X i = true
theorem rdB_least {s : Sy} {X : Nat → Bool} (hX : Closed s X) (m : Nat) : ∀ i, i < s.n → rdB s m i = true → X i = true := by
  induction m with
  | zero => intro i _ h; cases h
  | succ m ih => intro i hi h; exact hX i hi (onB_mono ih h)
theorem rdB_chain (s : Sy) (m : Nat) : ∀ i, i < s.n → rdB s m i = true → rdB s (m + 1) i = true := by
  induction m with
  | zero => intro i _ h; cases h
  | succ m ih => intro i hi h; exact onB_mono ih h
theorem onB_congr {s : Sy} {X Y : Nat → Bool} (h : ∀ j, j < s.n → X j = Y j) (i : Nat) : onB s X i = onB s Y i := by
  have a := fun (hx : onB s X i = true) => onB_mono (s := s) (X := X) (Y := Y) (fun j hj hx => by rw [← h j hj]; exact hx) hx
  have b := fun (hx : onB s Y i = true) => onB_mono (s := s) (X := Y) (Y := X) (fun j hj hx => by rw [h j hj]; exact hx) hx
  cases hX : onB s X i with
  | true => rw [a hX]
  | false =>
    cases hY : onB s Y i with
    | true => rw [b hY] at hX; cases hX
    | false => rfl
/-- Behind m rounds either one changed nothing, or m are known. -/
theorem rdB_count (s : Sy) (m : Nat) : (∃ k, k < m ∧ ∀ i, i < s.n → rdB s (k + 1) i = rdB s k i) ∨ m ≤ cnB (rdB s m) s.n := by
  induction m with
  | zero => exact .inr (Nat.zero_le _)
  | succ m ih =>
    rcases ih with ⟨k, hk, h⟩ | h
    · exact .inl ⟨k, by omega, h⟩
    · by_cases hc : ∀ i, i < s.n → rdB s (m + 1) i = rdB s m i
      · exact .inl ⟨m, by omega, hc⟩
      · right
        obtain ⟨i, hi⟩ := Classical.not_forall.1 hc
        obtain ⟨hlt, hne⟩ := Classical.not_imp.1 hi
        have h0 : rdB s m i = false := by
          cases hx : rdB s m i with
          | false => rfl
          | true => rw [hx, rdB_chain s m i hlt hx] at hne; exact absurd rfl hne
        have h1 : rdB s (m + 1) i = true := by
          cases hx : rdB s (m + 1) i with
          | true => rfl
          | false => rw [h0, hx] at hne; exact absurd rfl hne
        have := cnB_lt (p := rdB s m) (q := rdB s (m + 1)) (fun k hk => rdB_chain s m k hk) hlt h0 h1
        omega
theorem rdB_still {s : Sy} {k : Nat} (h : ∀ i, i < s.n → rdB s (k + 1) i = rdB s k i) (m : Nat) : ∀ i, i < s.n → rdB s (k + m) i = rdB s k i := by
  induction m with
  | zero => intro i _; rfl
  | succ m ih =>
    intro i hi
    show onB s (rdB s (k + m)) i = rdB s k i
    rw [onB_congr ih i]
    exact h i hi
/-- As many rounds as there are declarations are enough. -/
theorem rdB_closed (s : Sy) : Closed s (rdB s s.n) := by
  intro i hi h
  rcases rdB_count s s.n with ⟨k, hk, hs⟩ | hc
  · have e : ∀ m, k ≤ m → ∀ i, i < s.n → rdB s m i = rdB s k i := fun m hm i hi => by
      have := rdB_still hs (m - k) i hi
      rw [show k + (m - k) = m by omega] at this
      exact this
    have h2 : rdB s (s.n + 1) i = true := h
    rw [e (s.n + 1) (by omega) i hi] at h2
    rw [e s.n (by omega) i hi]; exact h2
  · have := cnB_le (rdB s s.n) s.n
    exact cnB_all.1 (by omega) i hi
/-- Whatever is closed, and in each that is closed, is that. -/
theorem fin_unique {s : Sy} {Y : Nat → Bool} (hc : Closed s Y) (hl : ∀ X, Closed s X → ∀ i, i < s.n → Y i = true → X i = true) : ∀ i, i < s.n → Y i = rdB s s.n i := by
  intro i hi
  cases hY : Y i with
  | true => rw [hl _ (rdB_closed s) i hi hY]
  | false =>
    cases hR : rdB s s.n i with
    | false => rfl
    | true => rw [rdB_least hc s.n i hi hR] at hY; cases hY
end Go.Proofs.Ythcpepifikpmeaa.Ck
