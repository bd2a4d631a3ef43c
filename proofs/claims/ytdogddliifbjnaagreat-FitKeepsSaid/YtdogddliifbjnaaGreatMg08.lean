/- What is finite: the least set that is closed under a rule, found by as many rounds as there are declarations. Plain mathematics: it imports nothing of the program. -/
import Derived.Test.YtdogddliifbjnaaGreatMg05
namespace Go.Proofs.YtdogddliifbjnaaGreat.Ck
/-- How many of the first n are so. -/
def cnB (p : Nat → Bool) : Nat → Nat
  | 0 => 0
  | n + 1 => cnB p n + if p n = true then 1 else 0
theorem cnB_hit {p : Nat → Bool} {n : Nat} (h : p n = true) : cnB p (n + 1) = cnB p n + 1 := by simp [cnB, h]
theorem cnB_miss {p : Nat → Bool} {n : Nat} (h : p n = false) : cnB p (n + 1) = cnB p n := by simp [cnB, h]
theorem cnB_le (p : Nat → Bool) (n : Nat) : cnB p n ≤ n := by
  induction n with
  | zero => simp [cnB]
  | succ n ih => simp only [cnB]; split <;> omega
theorem cnB_congr {p q : Nat → Bool} {n : Nat} (h : ∀ k, k < n → p k = q k) : cnB p n = cnB q n := by
  induction n with
  | zero => rfl
  | succ n ih => simp only [cnB, h n (by omega), ih (fun k hk => h k (by omega))]
theorem cnB_mono {p q : Nat → Bool} {n : Nat} (h : ∀ k, k < n → p k = true → q k = true) : cnB p n ≤ cnB q n := by
  induction n with
  | zero => simp [cnB]
  | succ n ih =>
    have i := ih (fun k hk => h k (by omega))
    cases hp : p n with
    | true => rw [cnB_hit hp, cnB_hit (h n (by omega) hp)]; omega
    | false => rw [cnB_miss hp]; simp only [cnB]; omega
theorem cnB_lt {p q : Nat → Bool} {n i : Nat} (h : ∀ k, k < n → p k = true → q k = true) (hi : i < n) (hp : p i = false) (hq : q i = true) : cnB p n < cnB q n := by
  induction n with
  | zero => omega
  | succ n ih =>
    by_cases e : i = n
    · subst e
      have := cnB_mono (n := i) (fun k hk => h k (by omega))
      rw [cnB_miss hp, cnB_hit hq]; omega
    · have i1 := ih (fun k hk => h k (by omega)) (by omega)
      cases hpn : p n with
      | true => rw [cnB_hit hpn, cnB_hit (h n (by omega) hpn)]; omega
      | false => rw [cnB_miss hpn]; simp only [cnB]; omega
theorem cnB_all {p : Nat → Bool} {n : Nat} : cnB p n = n ↔ ∀ k, k < n → p k = true := by
  induction n with
  | zero => exact ⟨fun _ k hk => by omega, fun _ => rfl⟩
  | succ n ih =>
    have hl := cnB_le p n
    cases hp : p n with
    | true =>
      rw [cnB_hit hp]
      refine ⟨fun h k hk => ?_, fun h => by rw [ih.2 (fun k hk => h k (by omega))]⟩
      by_cases e : k = n
      · subst e; exact hp
      · exact ih.1 (by omega) k (by omega)
    | false =>
      rw [cnB_miss hp]
      exact ⟨fun h => by omega, fun h => by rw [h n (by omega)] at hp; cases hp⟩
theorem cnB_pos {p : Nat → Bool} {n : Nat} : 0 < cnB p n ↔ ∃ k, k < n ∧ p k = true := by
  induction n with
  | zero => exact ⟨fun h => by simp [cnB] at h, fun ⟨k, hk, _⟩ => by omega⟩
  | succ n ih =>
    cases hp : p n with
    | true => rw [cnB_hit hp]; exact ⟨fun _ => ⟨n, by omega, hp⟩, fun _ => by omega⟩
    | false =>
      rw [cnB_miss hp, ih]
      refine ⟨fun ⟨k, hk, h⟩ => ⟨k, by omega, h⟩, fun ⟨k, hk, h⟩ => ⟨k, ?_, h⟩⟩
      by_cases e : k = n
      · subst e; rw [h] at hp; cases hp
      · omega

/-- Declarations as the rule sees them: kinds, how many fields, and what a field hangs on (none: on nothing; some none: on what is missing; some (some j): on the declaration j). -/
structure Sy where
  n : Nat
  K : Nat → Int
  l : Nat → Nat
  r : Nat → Nat → Option (Option Nat)
  lt : ∀ i k j, r i k = some (some j) → j < n
/-- Is a field finite, as far as is known? -/
def fdB (s : Sy) (X : Nat → Bool) (i k : Nat) : Bool := match s.r i k with
  | none => true
  | some none => false
  | some (some j) => X j
/-- Is a declaration? -/
def onB (s : Sy) (X : Nat → Bool) (i : Nat) : Bool :=
  (s.K i == 3) || (s.K i == 4) || ((s.K i == 1) && (cnB (fdB s X i) (s.l i) == s.l i)) || ((s.K i == 2) && decide (0 < cnB (fdB s X i) (s.l i)))
theorem fdB_mono {s : Sy} {X Y : Nat → Bool} (h : ∀ j, j < s.n → X j = true → Y j = true) {i k : Nat} (hf : fdB s X i k = true) : fdB s Y i k = true := by
  unfold fdB at hf ⊢
  cases hr : s.r i k with
  | none => rfl
  | some o =>
    rw [hr] at hf
    cases o with
    | none => cases hf
    | some j => exact h j (s.lt i k j hr) hf
theorem onB_mono {s : Sy} {X Y : Nat → Bool} (h : ∀ j, j < s.n → X j = true → Y j = true) {i : Nat} (hf : onB s X i = true) : onB s Y i = true := by
  have hm := cnB_mono (p := fdB s X i) (q := fdB s Y i) (n := s.l i) (fun k _ hk => fdB_mono h hk)
  have hl := cnB_le (fdB s Y i) (s.l i)
  unfold onB at hf ⊢
  simp only [Bool.or_eq_true, Bool.and_eq_true, beq_iff_eq, decide_eq_true_eq] at hf ⊢
  rcases hf with ((a | a) | ⟨a, b⟩) | ⟨a, b⟩
  · exact .inl (.inl (.inl a))
  · exact .inl (.inl (.inr a))
  · exact .inl (.inr ⟨a, by omega⟩)
  · exact .inr ⟨a, by omega⟩
/-- Rounds. -/
def rdB (s : Sy) : Nat → Nat → Bool
  | 0 => fun _ => false
  | m + 1 => fun i => onB s (rdB s m) i
def Closed (s : Sy) (X : Nat → Bool) : Prop := ∀ i, i < s.n → onB s X i = true → X i = true
theorem rdB_least {s : Sy} {X : Nat → Bool} (hX : Closed s X) (m : Nat) : ∀ i, i < s.n → rdB s m i = true → X i = true := by
  induction m with
  | zero => intro i _ h; cases h
  | succ m ih => intro i hi h; exact hX i hi (onB_mono ih h)
theorem rdB_chain (s : Sy) (m : Nat) : ∀ i, i < s.n → rdB s m i = true → rdB s (m + 1) i = true := by
  induction m with
  | zero => intro i _ h; cases h
  | succ m ih => intro i hi h; exact onB_mono ih h
theorem onB_congr {s : Sy} {X Y : Nat → Bool} (h : ∀ j, j < s.n → X j = Y j) (i : Nat) : onB s X i = onB s Y i := by
  have a := fun (hx : onB s X i = true) => onB_mono (s := s) (X := X) (Y := Y) (fun j hj hx => by rw [← h j hj]; exact hx) hx
  have b := fun (hx : onB s Y i = true) => onB_mono (s := s) (X := Y) (Y := X) (fun j hj hx => by rw [h j hj]; exact hx) hx
  cases hX : onB s X i with
  | true => rw [a hX]
  | false =>
    cases hY : onB s Y i with
    | true => rw [b hY] at hX; cases hX
    | false => rfl
/-- Behind m rounds either one changed nothing, or m are known. -/
theorem rdB_count (s : Sy) (m : Nat) : (∃ k, k < m ∧ ∀ i, i < s.n → rdB s (k + 1) i = rdB s k i) ∨ m ≤ cnB (rdB s m) s.n := by
  induction m with
  | zero => exact .inr (Nat.zero_le _)
  | succ m ih =>
    rcases ih with ⟨k, hk, h⟩ | h
    · exact .inl ⟨k, by omega, h⟩
    · by_cases hc : ∀ i, i < s.n → rdB s (m + 1) i = rdB s m i
      · exact .inl ⟨m, by omega, hc⟩
      · right
        obtain ⟨i, hi⟩ := Classical.not_forall.1 hc
        obtain ⟨hlt, hne⟩ := Classical.not_imp.1 hi
        have h0 : rdB s m i = false := by
          cases hx : rdB s m i with
          | false => rfl
          | true => rw [hx, rdB_chain s m i hlt hx] at hne; exact absurd rfl hne
        have h1 : rdB s (m + 1) i = true := by
          cases hx : rdB s (m + 1) i with
          | true => rfl
          | false => rw [h0, hx] at hne; exact absurd rfl hne
        have := cnB_lt (p := rdB s m) (q := rdB s (m + 1)) (fun k hk => rdB_chain s m k hk) hlt h0 h1
        omega
theorem rdB_still {s : Sy} {k : Nat} (h : ∀ i, i < s.n → rdB s (k + 1) i = rdB s k i) (m : Nat) : ∀ i, i < s.n → rdB s (k + m) i = rdB s k i := by
  induction m with
  | zero => intro i _; rfl
  | succ m ih =>
    intro i hi
    show onB s (rdB s (k + m)) i = rdB s k i
    rw [onB_congr ih i]
    exact h i hi
/-- As many rounds as there are declarations are enough. -/
theorem rdB_closed (s : Sy) : Closed s (rdB s s.n) := by
  intro i hi h
  rcases rdB_count s s.n with ⟨k, hk, hs⟩ | hc
  · have e : ∀ m, k ≤ m → ∀ i, i < s.n → rdB s m i = rdB s k i := fun m hm i hi => by
      have := rdB_still hs (m - k) i hi
      rw [show k + (m - k) = m by omega] at this
      exact this
    have h2 : rdB s (s.n + 1) i = true := h
    rw [e (s.n + 1) (by omega) i hi] at h2
    rw [e s.n (by omega) i hi]; exact h2
  · have := cnB_le (rdB s s.n) s.n
    exact cnB_all.1 (by omega) i hi
/-- Whatever is closed, and in each that is closed, is that. -/
theorem fin_unique {s : Sy} {Y : Nat → Bool} (hc : Closed s Y) (hl : ∀ X, Closed s X → ∀ i, i < s.n → Y i = true → X i = true) : ∀ i, i < s.n → Y i = rdB s s.n i := by
  intro i hi
  cases hY : Y i with
  | true => rw [hl _ (rdB_closed s) i hi hY]
  | false =>
    cases hR : rdB s s.n i with
    | false => rfl
    | true => rw [rdB_least hc s.n i hi hR] at hY; cases hY
end Go.Proofs.YtdogddliifbjnaaGreat.Ck
/- Which schemas may be, as numbers of errors: types, fields, methods, declarations, all; without its last declaration a schema that may be. Plain mathematics over the trees of types. -/
namespace Go.Proofs.YtdogddliifbjnaaGreat.Ck
open _root_.Go.Proofs.YtdogddliifbjnaaGreat.Nm
set_option maxRecDepth 100000
set_option linter.unusedVariables false
set_option linter.unusedSimpArgs false

/-- How many types a kind is of. -/
def ofZ (k : Int) : Int := if k = 7 ∨ k = 9 then 1 else if k = 8 then 2 else if k < 1 ∨ 9 < k then -1 else 0
/-- Is a type formed rightly, and no TOpt where none may be? -/
def fmB (k : Int) (nm : ByteArray) (l : Nat) (inner : Bool) : Bool := decide (ofZ k = l) && (decide (k = 6) || decide (nm = ⟨#[]⟩)) && !(decide (k = 9) && inner)
/-- May a type be a map's keys? -/
def kyB (S : Nat → ByteArray) (K : Nat → Int) (n : Nat) (t : Ty) : Bool := decide (1 ≤ t.k ∧ t.k ≤ 4) || (decide (t.k = 6) && decide (knS S K t.n n = 3))
/-- A name as a type. -/
def nmE (S : Nat → ByteArray) (K : Nat → Int) (n : Nat) (nm : ByteArray) : Nat := match fiS S nm n with
  | none => 6
  | some i => if K i < 1 ∨ 3 < K i then 8 else 0
mutual
/-- Why a type may not stand. -/
def tyE (S : Nat → ByteArray) (K : Nat → Int) (n : Nat) : Ty → Bool → Nat
  | .mk k nm o c of, inner =>
    if fmB k nm of.length inner = false then 8
    else if k = 6 then nmE S K n nm
    else if k = 8 ∧ kyB S K n (of.getD 0 (.mk 0 ⟨#[]⟩ none 0 [])) = false then 8
    else tysE S K n of
def tysE (S : Nat → ByteArray) (K : Nat → Int) (n : Nat) : List Ty → Nat
  | [] => 0
  | t :: l => match tyE S K n t true with
    | 0 => tysE S K n l
    | e + 1 => e + 1
end
/-- The first error among n. -/
def fzE (p : Nat → Nat) : Nat → Nat
  | 0 => 0
  | n + 1 => match fzE p n with
    | 0 => p n
    | e + 1 => e + 1
/-- Is one of the first n so? -/
def anB (p : Nat → Bool) : Nat → Bool
  | 0 => false
  | n + 1 => anB p n || p n
/-- A tag within its bounds. -/
def tgB (K : Int) (t : Int) : Bool := if K = 3 then decide (0 ≤ t ∧ t ≤ 9999) else decide (1 ≤ t ∧ t ≤ 255)
def fdE (S : Nat → ByteArray) (K : Nat → Int) (n : Nat) (Kd : Int) (F : Fy) (k : Nat) : Nat :=
  if tgB Kd (F.T k) = false then 9
  else if anB (fun j => decide (F.T j = F.T k) || decide (F.N j = F.N k)) k = true then 7
  else if Kd = 3 then 0
  else match tyE S K n (F.Y k) false with
    | 0 => if Kd = 2 ∧ (F.Y k).k = 9 then 8 else 0
    | e + 1 => e + 1
/-- A method's In, or Out. -/
def stE (S : Nat → ByteArray) (K : Nat → Int) (n : Nat) (s : ByteArray) : Nat := match fiS S s n with
  | none => 6
  | some i => if K i = 1 then 0 else 8
def mdE (S : Nat → ByteArray) (K : Nat → Int) (n : Nat) (Kd : Int) (fl : Nat) (F : Fy) (M : Ml) (k : Nat) : Nat :=
  if tgB Kd (M.T k) = false then 9
  else if anB (fun j => decide (F.T j = M.T k) || decide (F.N j = M.N k)) fl = true then 7
  else if anB (fun j => decide (M.T j = M.T k) || decide (M.N j = M.N k)) k = true then 7
  else match stE S K n (M.I k) with
    | 0 => stE S K n (M.O k)
    | e + 1 => e + 1
/-- A declaration's rows, and what it must have. -/
def rwE (S : Nat → ByteArray) (K : Nat → Int) (n : Nat) (Kd : Int) (fl ml : Nat) (F : Fy) (M : Ml) : Nat :=
  if Kd < 1 ∨ 4 < Kd then 4
  else match fzE (fdE S K n Kd F) fl with
    | e + 1 => e + 1
    | 0 => match fzE (mdE S K n Kd fl F M) ml with
      | e + 1 => e + 1
      | 0 => if (Kd = 2 ∨ Kd = 3) ∧ fl = 0 then 12 else 0
def dcE (D : Dl) (F : Nat → Fy) (M : Nat → Ml) (n : Nat) (i : Nat) : Nat := match fiS D.S (D.S i) i with
  | some _ => 7
  | none => rwE D.S D.K n (D.K i) (D.fl i) (D.ml i) (F i) (M i)
/-- What the rule of what is finite sees. -/
def syD (D : Dl) (F : Nat → Fy) (n : Nat) : Sy where
  n := n
  K := D.K
  l := D.fl
  r := fun i k => if ((F i).Y k).k = 6 then some (fiS D.S ((F i).Y k).n n) else none
  lt := fun i k j h => by
    by_cases e : ((F i).Y k).k = 6
    · rw [if_pos e] at h
      exact (fiS_some (Option.some.inj h)).1
    · rw [if_neg e] at h; cases h
/-- Is a declaration finite? -/
def lfB (D : Dl) (F : Nat → Fy) (n : Nat) (i : Nat) : Bool := rdB (syD D F n) n i
/-- What is wrong first. -/
def ckE (D : Dl) (F : Nat → Fy) (M : Nat → Ml) (n : Nat) : Nat := match fzE (dcE D F M n) n with
  | 0 => if anB (fun i => !lfB D F n i) n = true then 10 else 0
  | e + 1 => e + 1

theorem fzE_zero {p : Nat → Nat} {n : Nat} : fzE p n = 0 ↔ ∀ k, k < n → p k = 0 := by
  induction n with
  | zero => exact ⟨fun _ k hk => by omega, fun _ => rfl⟩
  | succ n ih =>
    show (match fzE p n with | 0 => p n | e + 1 => e + 1) = 0 ↔ _
    cases hf : fzE p n with
    | zero =>
      refine ⟨fun h k hk => ?_, fun h => h n (by omega)⟩
      by_cases e : k = n
      · subst e; exact h
      · exact ih.1 hf k (by omega)
    | succ e =>
      refine ⟨fun h => (by cases h), fun h => ?_⟩
      rw [ih.2 (fun k hk => h k (by omega))] at hf; cases hf
/-- An error that is told is one's. -/
theorem fzE_some {p : Nat → Nat} {n : Nat} (h : fzE p n ≠ 0) : ∃ k, k < n ∧ p k = fzE p n := by
  induction n with
  | zero => exact absurd rfl h
  | succ n ih =>
    have e1 : fzE p (n + 1) = (match fzE p n with | 0 => p n | e + 1 => e + 1) := rfl
    cases hf : fzE p n with
    | zero => exact ⟨n, by omega, by rw [e1, hf]⟩
    | succ e =>
      obtain ⟨k, hk, hp⟩ := ih (by rw [hf]; exact Nat.succ_ne_zero e)
      exact ⟨k, by omega, by rw [hp, e1, hf]⟩
theorem anB_false {p : Nat → Bool} {n : Nat} : anB p n = false ↔ ∀ k, k < n → p k = false := by
  induction n with
  | zero => exact ⟨fun _ k hk => by omega, fun _ => rfl⟩
  | succ n ih =>
    show (anB p n || p n) = false ↔ _
    rw [Bool.or_eq_false_iff, ih]
    refine ⟨fun ⟨a, b⟩ k hk => ?_, fun h => ⟨fun k hk => h k (by omega), h n (by omega)⟩⟩
    by_cases e : k = n
    · subst e; exact b
    · exact a k (by omega)

section less
variable {S : Nat → ByteArray} {K : Nat → Int} {n : Nat}
/-- What is found among one more: found, or the last one. -/
theorem fiS_more {s : ByteArray} : fiS S s (n + 1) = fiS S s n ∨ (fiS S s n = none ∧ fiS S s (n + 1) = some n) := by
  cases hf : fiS S s n with
  | some i => exact .inl (fiS_next_some hf)
  | none =>
    by_cases e : S n = s
    · exact .inr ⟨rfl, fiS_next_hit hf e⟩
    · exact .inl (fiS_next_miss hf e)
def Ls (K : Nat → Int) (n : Nat) (e : Nat) : Prop := e = 0 ∨ e = 6 ∨ (e = 8 ∧ K n = 3)
theorem nmE_less {s : ByteArray} (h : nmE S K (n + 1) s = 0) : Ls K n (nmE S K n s) := by
  rcases fiS_more (S := S) (n := n) (s := s) with e | ⟨e, _⟩
  · unfold nmE at h ⊢; rw [e] at h; exact .inl h
  · right; left; unfold nmE; rw [e]
theorem stE_less {s : ByteArray} (h : stE S K (n + 1) s = 0) : Ls K n (stE S K n s) := by
  rcases fiS_more (S := S) (n := n) (s := s) with e | ⟨e, _⟩
  · unfold stE at h ⊢; rw [e] at h; exact .inl h
  · right; left; unfold stE; rw [e]
theorem knS_more {s : ByteArray} : knS S K s (n + 1) = knS S K s n ∨ (knS S K s n = 0 ∧ knS S K s (n + 1) = K n) := by
  rcases fiS_more (S := S) (n := n) (s := s) with e | ⟨e, e2⟩
  · left; unfold knS; rw [e]
  · exact .inr ⟨knS_none e, knS_some e2⟩
theorem kyB_less {t : Ty} (h : kyB S K (n + 1) t = true) : kyB S K n t = true ∨ K n = 3 := by
  unfold kyB at h ⊢
  rcases knS_more (S := S) (K := K) (n := n) (s := t.n) with e | ⟨_, e2⟩
  · rw [e] at h; exact .inl h
  · rw [e2] at h
    simp only [Bool.or_eq_true, Bool.and_eq_true, decide_eq_true_eq] at h ⊢
    rcases h with h | h
    · exact .inl (.inl h)
    · exact .inr h.2
mutual
theorem tyE_less : ∀ (t : Ty) (b : Bool), tyE S K (n + 1) t b = 0 → Ls K n (tyE S K n t b)
  | .mk k nm o c of, b => fun h => by
    unfold tyE at h ⊢
    by_cases h1 : fmB k nm of.length b = false
    · rw [if_pos h1] at h; cases h
    · rw [if_neg h1] at h ⊢
      by_cases h2 : k = 6
      · rw [if_pos h2] at h ⊢; exact nmE_less h
      · rw [if_neg h2] at h ⊢
        by_cases h3 : k = 8 ∧ kyB S K (n + 1) (of.getD 0 (.mk 0 ⟨#[]⟩ none 0 [])) = false
        · rw [if_pos h3] at h; cases h
        · rw [if_neg h3] at h
          by_cases h4 : k = 8 ∧ kyB S K n (of.getD 0 (.mk 0 ⟨#[]⟩ none 0 [])) = false
          · rw [if_pos h4]
            have hk : kyB S K (n + 1) (of.getD 0 (.mk 0 ⟨#[]⟩ none 0 [])) = true := by
              cases hb : kyB S K (n + 1) (of.getD 0 (.mk 0 ⟨#[]⟩ none 0 [])) with
              | true => rfl
              | false => exact absurd ⟨h4.1, hb⟩ h3
            rcases kyB_less hk with h5 | h5
            · rw [h5] at h4; cases h4.2
            · exact .inr (.inr ⟨rfl, h5⟩)
          · rw [if_neg h4]; exact tysE_less of h
theorem tysE_less : ∀ (l : List Ty), tysE S K (n + 1) l = 0 → Ls K n (tysE S K n l)
  | [] => fun _ => .inl (by unfold tysE; rfl)
  | t :: l => fun h => by
    unfold tysE at h ⊢
    cases h1 : tyE S K (n + 1) t true with
    | succ e => rw [h1] at h; cases h
    | zero =>
      rw [h1] at h
      have i1 := tyE_less t true h1
      cases h2 : tyE S K n t true with
      | zero => exact tysE_less l h
      | succ e => rw [h2] at i1; exact i1
end
theorem fdE_less {Kd : Int} {F : Fy} {k : Nat} (h : fdE S K (n + 1) Kd F k = 0) : Ls K n (fdE S K n Kd F k) := by
  unfold fdE at h ⊢
  by_cases h1 : tgB Kd (F.T k) = false
  · rw [if_pos h1] at h; cases h
  · rw [if_neg h1] at h ⊢
    by_cases h2 : anB (fun j => decide (F.T j = F.T k) || decide (F.N j = F.N k)) k = true
    · rw [if_pos h2] at h; cases h
    · rw [if_neg h2] at h ⊢
      by_cases h3 : Kd = 3
      · rw [if_pos h3]; exact .inl rfl
      · rw [if_neg h3] at h ⊢
        cases h4 : tyE S K (n + 1) (F.Y k) false with
        | succ e => rw [h4] at h; cases h
        | zero =>
          rw [h4] at h
          have i1 := tyE_less (F.Y k) false h4
          cases h5 : tyE S K n (F.Y k) false with
          | zero => exact .inl h
          | succ e => rw [h5] at i1; exact i1
theorem mdE_less {Kd : Int} {fl : Nat} {F : Fy} {M : Ml} {k : Nat} (h : mdE S K (n + 1) Kd fl F M k = 0) : Ls K n (mdE S K n Kd fl F M k) := by
  unfold mdE at h ⊢
  by_cases h1 : tgB Kd (M.T k) = false
  · rw [if_pos h1] at h; cases h
  · rw [if_neg h1] at h ⊢
    by_cases h2 : anB (fun j => decide (F.T j = M.T k) || decide (F.N j = M.N k)) fl = true
    · rw [if_pos h2] at h; cases h
    · rw [if_neg h2] at h ⊢
      by_cases h3 : anB (fun j => decide (M.T j = M.T k) || decide (M.N j = M.N k)) k = true
      · rw [if_pos h3] at h; cases h
      · rw [if_neg h3] at h ⊢
        cases h4 : stE S K (n + 1) (M.I k) with
        | succ e => rw [h4] at h; cases h
        | zero =>
          rw [h4] at h
          have i1 := stE_less h4
          have i2 := stE_less (s := M.O k) h
          cases h5 : stE S K n (M.I k) with
          | zero => exact i2
          | succ e => rw [h5] at i1; exact i1
theorem fzE_less {p q : Nat → Nat} {m : Nat} (h : fzE p m = 0) (hq : ∀ k, p k = 0 → Ls K n (q k)) : Ls K n (fzE q m) := by
  by_cases e : fzE q m = 0
  · exact .inl e
  · obtain ⟨k, hk, hp⟩ := fzE_some e
    rw [← hp]
    exact hq k (fzE_zero.1 h k hk)
theorem rwE_less {Kd : Int} {fl ml : Nat} {F : Fy} {M : Ml} (h : rwE S K (n + 1) Kd fl ml F M = 0) : Ls K n (rwE S K n Kd fl ml F M) := by
  unfold rwE at h ⊢
  by_cases h1 : Kd < 1 ∨ 4 < Kd
  · rw [if_pos h1] at h; cases h
  · rw [if_neg h1] at h ⊢
    cases h2 : fzE (fdE S K (n + 1) Kd F) fl with
    | succ e => rw [h2] at h; cases h
    | zero =>
      rw [h2] at h
      have i1 := fzE_less (K := K) (n := n) h2 (q := fdE S K n Kd F) (fun k hk => fdE_less hk)
      cases h3 : fzE (fdE S K n Kd F) fl with
      | succ e => rw [h3] at i1; exact i1
      | zero =>
        cases h4 : fzE (mdE S K (n + 1) Kd fl F M) ml with
        | succ e => rw [h4] at h; cases h
        | zero =>
          rw [h4] at h
          have i2 := fzE_less (K := K) (n := n) h4 (q := mdE S K n Kd fl F M) (fun k hk => mdE_less hk)
          cases h5 : fzE (mdE S K n Kd fl F M) ml with
          | succ e => rw [h5] at i2; exact i2
          | zero => exact .inl h
end less
variable {D : Dl} {F : Nat → Fy} {M : Nat → Ml} {n : Nat}
theorem dcE_less {i : Nat} (h : dcE D F M (n + 1) i = 0) : Ls D.K n (dcE D F M n i) := by
  unfold dcE at h ⊢
  cases hf : fiS D.S (D.S i) i with
  | some j => rw [hf] at h; cases h
  | none => rw [hf] at h; exact rwE_less h
/-- A name that a field's type is, in a schema whose rows may be, is there. -/
theorem dcE_field {i k : Nat} (h : dcE D F M n i = 0) (hK : D.K i ≠ 3) (hk : k < D.fl i) (h6 : ((F i).Y k).k = 6) : ∃ j, fiS D.S ((F i).Y k).n n = some j := by
  unfold dcE at h
  cases hf : fiS D.S (D.S i) i with
  | some j => rw [hf] at h; cases h
  | none =>
    rw [hf] at h
    have h' : rwE D.S D.K n (D.K i) (D.fl i) (D.ml i) (F i) (M i) = 0 := h
    unfold rwE at h'
    by_cases h1 : D.K i < 1 ∨ 4 < D.K i
    · rw [if_pos h1] at h'; cases h'
    · rw [if_neg h1] at h'
      cases h2 : fzE (fdE D.S D.K n (D.K i) (F i)) (D.fl i) with
      | succ e => rw [h2] at h'; cases h'
      | zero =>
        have h3 := fzE_zero.1 h2 k hk
        unfold fdE at h3
        by_cases g1 : tgB (D.K i) ((F i).T k) = false
        · rw [if_pos g1] at h3; cases h3
        · rw [if_neg g1] at h3
          by_cases g2 : anB (fun j => decide ((F i).T j = (F i).T k) || decide ((F i).N j = (F i).N k)) k = true
          · rw [if_pos g2] at h3; cases h3
          · rw [if_neg g2, if_neg hK] at h3
            cases h4 : tyE D.S D.K n ((F i).Y k) false with
            | succ e => rw [h4] at h3; cases h3
            | zero =>
              cases hy : (F i).Y k with
              | mk kk nm o c of =>
                rw [hy] at h4 h6
                have e6 : kk = 6 := h6
                unfold tyE at h4
                by_cases g3 : fmB kk nm of.length false = false
                · rw [if_pos g3] at h4; cases h4
                · rw [if_neg g3, if_pos e6] at h4
                  unfold nmE at h4
                  show ∃ j, fiS D.S nm n = some j
                  cases hn : fiS D.S nm n with
                  | some j => exact ⟨j, rfl⟩
                  | none => rw [hn] at h4; cases h4
/-- Without its last declaration a schema that may be has no new fault, but for names that are missing, and keys that were an enum's. -/
theorem ckE_less (h : ckE D F M (n + 1) = 0) : Ls D.K n (ckE D F M n) := by
  unfold ckE at h ⊢
  cases h1 : fzE (dcE D F M (n + 1)) (n + 1) with
  | succ e => rw [h1] at h; cases h
  | zero =>
    rw [h1] at h
    have hd := fzE_zero.1 h1
    cases h2 : fzE (dcE D F M n) n with
    | succ e =>
      obtain ⟨k, hk, hp⟩ := fzE_some (p := dcE D F M n) (n := n) (by rw [h2]; exact Nat.succ_ne_zero e)
      have := dcE_less (hd k (by omega))
      rw [hp, h2] at this; exact this
    | zero =>
      have hz := fzE_zero.1 h2
      have hfin : ∀ i, i < n + 1 → lfB D F (n + 1) i = true := by
        have : anB (fun i => !lfB D F (n + 1) i) (n + 1) = false := by
          cases hb : anB (fun i => !lfB D F (n + 1) i) (n + 1) with
          | false => rfl
          | true =>
            have h' : (if anB (fun i => !lfB D F (n + 1) i) (n + 1) = true then 10 else 0) = 0 := h
            rw [if_pos hb] at h'; cases h'
        intro i hi
        have := anB_false.1 this i hi
        simpa using this
      have hall : ∀ i, i < n → lfB D F n i = true := by
        intro i hi
        let X : Nat → Bool := fun j => if j < n then rdB (syD D F n) n j else true
        have hX : Closed (syD D F (n + 1)) X := by
          intro j hj ho
          show (if j < n then rdB (syD D F n) n j else true) = true
          by_cases hjn : j < n
          · rw [if_pos hjn]
            have hcl : Closed (syD D F n) (rdB (syD D F n) n) := rdB_closed (syD D F n)
            refine hcl j hjn ?_
            by_cases h3 : D.K j = 3
            · have e3 : ((syD D F n).K j == 3) = true := by simpa [syD] using h3
              unfold onB; rw [e3]; rfl
            · have he : ∀ k, k < D.fl j → fdB (syD D F (n + 1)) X j k = fdB (syD D F n) (rdB (syD D F n) n) j k := by
                intro k hk
                unfold fdB
                by_cases h6 : ((F j).Y k).k = 6
                · obtain ⟨q, hq⟩ := dcE_field (hz j hjn) h3 hk h6
                  have r1 : (syD D F n).r j k = some (some q) := by simp [syD, h6, hq]
                  have r2 : (syD D F (n + 1)).r j k = some (some q) := by simp [syD, h6, fiS_next_some hq]
                  rw [r1, r2]
                  exact if_pos (fiS_some hq).1
                · have r1 : (syD D F n).r j k = none := by simp [syD, h6]
                  have r2 : (syD D F (n + 1)).r j k = none := by simp [syD, h6]
                  rw [r1, r2]
              have hc := cnB_congr (n := D.fl j) he
              unfold onB at ho ⊢
              show ((D.K j == 3) || (D.K j == 4) || ((D.K j == 1) && (cnB (fdB (syD D F n) (rdB (syD D F n) n) j) (D.fl j) == D.fl j)) || ((D.K j == 2) && decide (0 < cnB (fdB (syD D F n) (rdB (syD D F n) n) j) (D.fl j)))) = true
              rw [← hc]; exact ho
          · rw [if_neg hjn]
        have := rdB_least hX (n + 1) i (by show i < n + 1; omega) (hfin i (by omega))
        have e : X i = rdB (syD D F n) n i := if_pos hi
        rw [e] at this; exact this
      left
      show (if anB (fun i => !lfB D F n i) n = true then 10 else 0) = 0
      have : anB (fun i => !lfB D F n i) n = false := anB_false.2 (fun k hk => by rw [hall k hk]; rfl)
      rw [this]; rfl
end Go.Proofs.YtdogddliifbjnaaGreat.Ck
/- Types: how deep a tree is, and whether it is small; the contracts of concourselaw10.small and Great. -/
namespace Go.Proofs.YtdogddliifbjnaaGreat.Ck
open Go.RowKit Cm _root_.Go.Proofs.YtdogddliifbjnaaGreat.Nm
set_option maxRecDepth 100000
set_option linter.unusedVariables false
set_option linter.unusedSimpArgs false

mutual
def dpT : Ty → Nat | .mk _ _ _ _ of => dpsT of + 1
def dpsT : List Ty → Nat
  | [] => 0
  | t :: l => max (dpT t) (dpsT l)
end
mutual
def smB : Ty → Nat → Bool | .mk _ _ _ _ of, d => decide (d ≤ 20) && decide (of.length ≤ 3) && smsB of (d + 1)
def smsB : List Ty → Nat → Bool
  | [], _ => true
  | t :: l, d => smB t d && smsB l (d + 2)
end
theorem dps_le : ∀ (l : List Ty) (i : Nat) (t : Ty), l[i]? = some t → dpT t ≤ dpsT l
  | [], i, t, h => by simp at h
  | x :: l, 0, t, h => by
    obtain rfl : x = t := by simpa using h
    unfold dpsT; omega
  | x :: l, i + 1, t, h => by
    have := dps_le l i t (by simpa using h)
    unfold dpsT; omega
theorem sms_iff : ∀ (l : List Ty) (d : Nat), smsB l d = true ↔ ∀ (i : Nat) (t : Ty), l[i]? = some t → smB t (d + 2 * i) = true
  | [], d => ⟨fun _ i t h => by simp at h, fun _ => by unfold smsB; rfl⟩
  | x :: l, d => by
    have ih := sms_iff l (d + 2)
    unfold smsB
    rw [Bool.and_eq_true, ih]
    refine ⟨fun ⟨h1, h2⟩ i t h => ?_, fun h => ⟨h 0 x rfl, fun i t ht => ?_⟩⟩
    · cases i with
      | zero => obtain rfl : x = t := by simpa using h
                exact h1
      | succ i =>
        have := h2 i t (by simpa using h)
        rw [show d + 2 * (i + 1) = d + 2 + 2 * i by omega]; exact this
    · have := h (i + 1) t (by simpa using ht)
      rw [show d + 2 * (i + 1) = d + 2 + 2 * i by omega] at this; exact this
mutual
theorem sm_deep : ∀ (t : Ty) (d : Nat), smB t d = true → dpT t + d ≤ 21
  | .mk k n o c of, d => fun h => by
    unfold smB at h
    rw [Bool.and_eq_true, Bool.and_eq_true, decide_eq_true_eq] at h
    have := sms_deep of (d + 1) h.2
    unfold dpT; omega
theorem sms_deep : ∀ (l : List Ty) (d : Nat), smsB l d = true → dpsT l = 0 ∨ dpsT l + d ≤ 21
  | [], d => fun _ => .inl (by unfold dpsT; rfl)
  | t :: l, d => fun h => by
    unfold smsB at h
    rw [Bool.and_eq_true] at h
    have i1 := sm_deep t d h.1
    have i2 := sms_deep l (d + 2) h.2
    unfold dpsT; omega
end
theorem dp_child {k : Int} {n : ByteArray} {o : Option Addr} {c i : Nat} {of : List Ty} {t : Ty} (h : of[i]? = some t) : dpT t < dpT (.mk k n o c of) := by
  have := dps_le of i t h
  show dpT t < dpsT of + 1
  omega
theorem dp_pos (t : Ty) : 0 < dpT t := by cases t; unfold dpT; omega

theorem anB_true {p : Nat → Bool} {n i : Nat} (hi : i < n) (h : p i = true) : anB p n = true := by
  cases hb : anB p n with
  | true => rfl
  | false => rw [anB_false.1 hb i hi] at h; cases h
theorem anB_next {p : Nat → Bool} {n : Nat} (h : anB p n = false) (hp : p n = false) : anB p (n + 1) = false := by
  show (anB p n || p n) = false
  rw [h, hp]; rfl

def Ty.val (t : Ty) : Value := .agg #[.int .i64 t.k, .string t.n, .slice t.o t.of.length t.c]
set_option maxRecDepth 100000 in
set_option maxHeartbeats 1000000 in
theorem small_any : ∀ (N : Nat) (t : Ty) (d : Nat) (w : World), dpT t < N → TyIn w t → d ≤ 1000000 →
    Calls Tryz.prog 11 #[.agg #[.int .i64 t.k, .string t.n, .slice t.o t.of.length t.c], .int .i64 d] w fun e w' => e = .returned (.bool (smB t d)) ∧ Below w.heap.size w w' := by
  intro N
  induction N with
  | zero => intro t d w h; omega
  | succ N ih =>
    intro t d w hN ht hd
    obtain ⟨k, n, o, c, of⟩ := t
    obtain ⟨l, hl⟩ : ∃ l, l = of.length := ⟨_, rfl⟩
    have hlen : of.length ≤ 9223372036854775807 := by cases ht; assumption
    have hsm : smB (.mk k n o c of) d = (decide (d ≤ 20) && decide (of.length ≤ 3) && smsB of (d + 1)) := by unfold smB; rfl
    show Calls Tryz.prog 11 #[.agg #[.int .i64 k, .string n, .slice o of.length c], .int .i64 d] w fun e w' => e = .returned (.bool (smB (.mk k n o c of) d)) ∧ Below w.heap.size w w'
    have hB0 := Lib.hid ((Below.refl w.heap.size w).alloc (Nat.le_refl _) (.cells #[.int .i64 k, .string n, .slice o of.length c] 48))
    have hC0 := Lib.hid (Cs.new w [.int .i64 k, .string n, .slice o of.length c] 48)
    have hT := Lib.hid ht
    have hS := Lib.hid hsm
    have hIH := Lib.hid ih
    have hND := Lib.hid hN
    clear ht hsm ih hN
    by_cases h20 : d ≤ 20
    · by_cases h3 : of.length ≤ 3
      · have g1 : ¬ ((20 : Int) < (d : Int)) := by omega
        have g2 : ¬ ((3 : Int) < (of.length : Int)) := by omega
        go_enter Tryz.func11, Tryz.ntmps11
        go_wp2
        go_loopw [5] (fun i wr => ∃ j, j ≤ of.length ∧ i = .int .i64 (j : Nat) ∧ Hid (∀ (q : Nat) (t : Ty), q < j → of[q]? = some t → smB t (d + 1 + 2 * q) = true) ∧ Hid (Cs w.heap.size [.int .i64 k, .string n, .slice o of.length c] wr) ∧ Hid (Below w.heap.size w wr)) (fun i _ => of.length - (intOf i).toNat)
        case atStart => exact ⟨0, by omega, rfl, Lib.hid (fun q t hq => by omega), hC0, hB0⟩
        case round =>
          obtain ⟨j, hj, rfl, HP, HC, HB⟩ := hrel
          clear hC0 hB0
          have hsz := HB.out.size
          have d2 := HC.out.cell (i := 2) rfl
          by_cases hjl : j < of.length
          · have hji : (j : Int) < (of.length : Int) := by omega
            obtain ⟨t, hti⟩ : ∃ t, of[j]? = some t := ⟨_, List.getElem?_eq_getElem hjl⟩
            obtain ⟨a, Ab, Ao, As, rfl, hA, hAb, c0, c1, c2, hin⟩ := ty_place (ty_below hT.out HB.out (Nat.le_refl _)) hti
            have hHt := Lib.hid (And.intro hin hti)
            have e1 : IntKind.i64.wrap ((d : Int) + 1 + 2 * (j : Int)) = ((d + 1 + 2 * j : Nat) : Int) := by rw [IntWalk.i64_in _ (by omega)]; omega
            have hdp := dp_child (k := k) (n := n) (o := some a) (c := c) hti
            cases hb : smB t (d + 1 + 2 * j) with
            | true =>
              clear hdp
              go_wp2_with (go_at_call 11; refine (hIH.out t (d + 1 + 2 * j) _ (by have := dp_child (k := k) (n := n) (o := some a) (c := c) hHt.out.2; have := hND.out; omega) hHt.out.1 (by omega)).mono ?_; rw [hb]; rintro e w2 ⟨rfl, hb2⟩)
              go_roundw
              case rel => exact ⟨j + 1, by omega, by go_num, Lib.hid (fun q t' hq ht' => by
                by_cases e : q = j
                · subst e; rw [hHt.out.2] at ht'; obtain rfl := Option.some.inj ht'; exact hb
                · exact HP.out q t' (by omega) ht'), HC.out.below hb2 HC.out.lt, HB.out.trans (hb2.mono hsz)⟩
              case measure => simp [intOf]; omega
            | false =>
              clear hdp
              go_wp2_with (go_at_call 11; refine (hIH.out t (d + 1 + 2 * j) _ (by have := dp_child (k := k) (n := n) (o := some a) (c := c) hHt.out.2; have := hND.out; omega) hHt.out.1 (by omega)).mono ?_; rw [hb]; rintro e w2 ⟨rfl, hb2⟩)
              go_ret
              refine ⟨?_, HB.out.trans (hb2.mono hsz)⟩
              have hf : smsB of (d + 1) = false := by
                cases hx : smsB of (d + 1) with
                | false => rfl
                | true => rw [(sms_iff of (d + 1)).1 hx j t hHt.out.2] at hb; cases hb
              rw [hS.out, hf, Bool.and_false]; rfl
          · have hji : ¬ (j : Int) < (of.length : Int) := by omega
            go_wp2
            go_ret
            refine ⟨?_, HB.out⟩
            have hf : smsB of (d + 1) = true := (sms_iff of (d + 1)).2 (fun q t ht => HP.out q t (by
              have := (List.getElem?_eq_some_iff.1 ht).1
              omega) ht)
            rw [hS.out, hf, decide_eq_true h20, decide_eq_true h3]; rfl
      · have g1 : ¬ ((20 : Int) < (d : Int)) := by omega
        have g2 : ((3 : Int) < (of.length : Int)) := by omega
        go_enter Tryz.func11, Tryz.ntmps11
        go_wp2
        go_ret
        refine ⟨?_, hB0.out⟩
        rw [hS.out, decide_eq_false h3, Bool.and_false, Bool.false_and]; rfl
    · have g1 : ((20 : Int) < (d : Int)) := by omega
      go_enter Tryz.func11, Tryz.ntmps11
      go_wp2
      go_ret
      refine ⟨?_, hB0.out⟩
      rw [hS.out, decide_eq_false h20, Bool.false_and, Bool.false_and]; rfl
end Go.Proofs.YtdogddliifbjnaaGreat.Ck
