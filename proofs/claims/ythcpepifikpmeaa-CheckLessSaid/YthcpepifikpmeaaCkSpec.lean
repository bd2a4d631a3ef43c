/- Which schemas may be, as numbers of errors: types, fields, methods, declarations, all; without its last declaration a schema that may be. Plain mathematics over the trees of types. -/
import Derived.Test.YthcpepifikpmeaaTyDecl
import Derived.Test.YthcpepifikpmeaaCkMath
namespace Go.Proofs.Ythcpepifikpmeaa.Ck
open _root_.Go.Proofs.Ythcpepifikpmeaa.Nm
set_option linter.unusedVariables false
set_option linter.unusedSimpArgs false

/-- How many types a kind is of. -/
def ofZ (k : Int) : Int := if k = 7 ∨ k = 9 then 1 else if k = 8 then 2 else if k < 1 ∨ 9 < k then -1 else 0
/-- Is a type formed rightly, and no TOpt where none may be? -/
def fmB (k : Int) (nm : ByteArray) (l : Nat) (inner : Bool) : Bool := decide (ofZ k = l) && (decide (k = 6) || decide (nm = ⟨#[]⟩)) && !(decide (k = 9) && inner)
/-- May a type be a map's keys? -/
def kyB (S : Nat → ByteArray) (K : Nat → Int) (n : Nat) (t : Ty) : Bool := decide (1 ≤ t.k ∧ t.k ≤ 4) || (decide (t.k = 6) && decide (knS S K t.n n = 3))
/-- A name as a type. -/
def nmE (S : Nat → ByteArray) (K : Nat → Int) (n : Nat) (nm : ByteArray) : Nat := match fiS S nm n with
  | none => 6
  | some i => if K i < 1 ∨ 3 < K i then 8 else 0
mutual
/-- Why a type may not stand. -/
def tyE (S : Nat → ByteArray) (K : Nat → Int) (n : Nat) : Ty → Bool → Nat
  | .mk k nm o c of, inner =>
    if fmB k nm of.length inner = false then 8
    else if k = 6 then nmE S K n nm
    else if k = 8 ∧ kyB S K n (of.getD 0 (.mk 0 ⟨#[]⟩ none 0 [])) = false then 8
    else tysE S K n of
def tysE (S : Nat → ByteArray) (K : Nat → Int) (n : Nat) : List Ty → Nat
  | [] => 0
  | t :: l => match tyE S K n t true with
    | 0 => tysE S K n l
    | e + 1 => e + 1
end
/-- The first error among n. -/
def fzE (p : Nat → Nat) : Nat → Nat
  | 0 => 0
  | n + 1 => match fzE p n with
    | 0 => p n
    | e + 1 => e + 1
/-- Is one of the first n so? -/
def anB (p : Nat → Bool) : Nat → Bool
  | 0 => false
  | n + 1 => anB p n || p n
/-- A tag within its bounds. -/
def tgB (K : Int) (t : Int) : Bool := if K = 3 then decide (0 ≤ t ∧ t ≤ 9999) else decide (1 ≤ t ∧ t ≤ 255)
def fdE (S : Nat → ByteArray) (K : Nat → Int) (n : Nat) (Kd : Int) (F : Fy) (k : Nat) : Nat :=
  if tgB Kd (F.T k) = false then 9
  else if anB (fun j => decide (F.T j = F.T k) || decide (F.N j = F.N k)) k = true then 7
  else if Kd = 3 then 0
  else match tyE S K n (F.Y k) false with
    | 0 => if Kd = 2 ∧ (F.Y k).k = 9 then 8 else 0
    | e + 1 => e + 1
/-- A method's In, or Out. -/
def stE (S : Nat → ByteArray) (K : Nat → Int) (n : Nat) (s : ByteArray) : Nat := match fiS S s n with
  | none => 6
  | some i => if K i = 1 then 0 else 8
def mdE (S : Nat → ByteArray) (K : Nat → Int) (n : Nat) (Kd : Int) (fl : Nat) (F : Fy) (M : Ml) (k : Nat) : Nat :=
  if tgB Kd (M.T k) = false then 9
  else if anB (fun j => decide (F.T j = M.T k) || decide (F.N j = M.N k)) fl = true then 7
  else if anB (fun j => decide (M.T j = M.T k) || decide (M.N j = M.N k)) k = true then 7
  else match stE S K n (M.I k) with
    | 0 => stE S K n (M.O k)
    | e + 1 => e + 1
/-- A declaration's rows, and what it must have. -/
def rwE (S : Nat → ByteArray) (K : Nat → Int) (n : Nat) (Kd : Int) (fl ml : Nat) (F : Fy) (M : Ml) : Nat :=
  if Kd < 1 ∨ 4 < Kd then 4
  else match fzE (fdE S K n Kd F) fl with
    | e + 1 => e + 1
    | 0 => match fzE (mdE S K n Kd fl F M) ml with
      | e + 1 => e + 1
      | 0 => if (Kd = 2 ∨ Kd = 3) ∧ fl = 0 then 12 else 0
def dcE (D : Dl) (F : Nat → Fy) (M : Nat → Ml) (n : Nat) (i : Nat) : Nat := match fiS D.S (D.S i) i with
  | some _ => 7
  | none => rwE D.S D.K n (D.K i) (D.fl i) (D.ml i) (F i) (M i)
/-- What the rule of what is finite sees. -/
def syD (D : Dl) (F : Nat → Fy) (n : Nat) : Sy where
  n := n
  K := D.K
  l := D.fl
  r := fun i k => if ((F i).Y k).k = 6 then some (fiS D.S ((F i).Y k).n n) else none
  lt := fun i k j h => by
    by_cases e : ((F i).Y k).k = 6
    · rw [if_pos e] at h
      exact (fiS_some (Option.some.inj h)).1
    · rw [if_neg e] at h; cases h
/-- Is a declaration finite? -/
def lfB (D : Dl) (F : Nat → Fy) (n : Nat) (i : Nat) : Bool := rdB (syD D F n) n i
/-- What is wrong first. -/
def ckE (D : Dl) (F : Nat → Fy) (M : Nat → Ml) (n : Nat) : Nat := match fzE (dcE D F M n) n with
  | 0 => if anB (fun i => !lfB D F n i) n = true then 10 else 0
  | e + 1 => e + 1

theorem fzE_zero {p : Nat → Nat} {n : Nat} : fzE p n = 0 ↔ ∀ k, k < n → p k = 0 := by
  induction n with
  | zero => exact ⟨fun _ k hk => by omega, fun _ => rfl⟩
  | succ n ih =>
    show (match fzE p n with | 0 => p n | e + 1 => e + 1) = 0 ↔ _
    cases hf : fzE p n with
    | zero =>
      refine ⟨fun h k hk => ?_, fun h => h n (by omega)⟩
      by_cases e : k = n
      · subst e; exact h
      · exact ih.1 hf k (by omega)
    | succ e =>
      refine ⟨fun h => (by cases h), fun h => ?_⟩
      rw [ih.2 (fun k hk => h k (by omega))] at hf; cases hf
/-- An error that is told is one's. -/
theorem fzE_some {p : Nat → Nat} {n : Nat} (h : fzE p n ≠ 0) : ∃ k, k < n ∧ p k = fzE p n := by
  induction n with
  | zero => exact absurd rfl h
  | succ n ih =>
    have e1 : fzE p (n + 1) = (match fzE p n with | 0 => p n | e + 1 => e + 1) := rfl
    cases hf : fzE p n with
    | zero => exact ⟨n, by omega, by rw [e1, hf]⟩
    | succ e =>
      obtain ⟨k, hk, hp⟩ := ih (by rw [hf]; exact Nat.succ_ne_zero e)
      exact ⟨k, by omega, by rw [hp, e1, hf]⟩
theorem anB_false {p : Nat → Bool} {n : Nat} : anB p n = false ↔ ∀ k, k < n → p k = false := by
  induction n with
  | zero => exact ⟨fun _ k hk => by omega, fun _ => rfl⟩
  | succ n ih =>
    show (anB p n || p n) = false ↔ _
    rw [Bool.or_eq_false_iff, ih]
    refine ⟨fun ⟨a, b⟩ k hk => ?_, fun h => ⟨fun k hk => h k (by omega), h n (by omega)⟩⟩
    by_cases e : k = n
    · subst e; exact b
    · exact a k (by omega)

section less
variable {S : Nat → ByteArray} {K : Nat → Int} {n : Nat}
/-- What is found among one more: found, or the last one. -/
theorem fiS_more {s : ByteArray} : fiS S s (n + 1) = fiS S s n ∨ (fiS S s n = none ∧ fiS S s (n + 1) = some n) := by
  cases hf : fiS S s n with
  | some i => exact .inl (fiS_next_some hf)
  | none =>
    by_cases e : S n = s
    · exact .inr ⟨rfl, fiS_next_hit hf e⟩
    · exact .inl (fiS_next_miss hf e)
def Ls (K : Nat → Int) (n : Nat) (e : Nat) : Prop := e = 0 ∨ e = 6 ∨ (e = 8 ∧ K n = 3)
theorem nmE_less {s : ByteArray} (h : nmE S K (n + 1) s = 0) : Ls K n (nmE S K n s) := by
  rcases fiS_more (S := S) (n := n) (s := s) with e | ⟨e, _⟩
  · unfold nmE at h ⊢; rw [e] at h; exact .inl h
  · right; left; unfold nmE; rw [e]
theorem stE_less {s : ByteArray} (h : stE S K (n + 1) s = 0) : Ls K n (stE S K n s) := by
  rcases fiS_more (S := S) (n := n) (s := s) with e | ⟨e, _⟩
  · unfold stE at h ⊢; rw [e] at h; exact .inl h
  · right; left; unfold stE; rw [e]
theorem knS_more {s : ByteArray} : knS S K s (n + 1) = knS S K s n ∨ (knS S K s n = 0 ∧ knS S K s (n + 1) = K n) := by
  rcases fiS_more (S := S) (n := n) (s := s) with e | ⟨e, e2⟩
  · left; unfold knS; rw [e]
  · exact .inr ⟨knS_none e, knS_some e2⟩
theorem kyB_less {t : Ty} (h : kyB S K (n + 1) t = true) : kyB S K n t = true ∨ K n = 3 := by
  unfold kyB at h ⊢
  rcases knS_more (S := S) (K := K) (n := n) (s := t.n) with e | ⟨_, e2⟩
  · rw [e] at h; exact .inl h
  · rw [e2] at h
    simp only [Bool.or_eq_true, Bool.and_eq_true, decide_eq_true_eq] at h ⊢
    rcases h with h | h
    · exact .inl (.inl h)
    · exact .inr h.2
mutual
theorem tyE_less : ∀ (t : Ty) (b : Bool), tyE S K (n + 1) t b = 0 → Ls K n (tyE S K n t b)
  | .mk k nm o c of, b => fun h => by
    unfold tyE at h ⊢
    by_cases h1 : fmB k nm of.length b = false
    · rw [if_pos h1] at h; cases h
    · rw [if_neg h1] at h ⊢
      by_cases h2 : k = 6
      · rw [if_pos h2] at h ⊢; exact nmE_less h
      · rw [if_neg h2] at h ⊢
        by_cases h3 : k = 8 ∧ kyB S K (n + 1) (of.getD 0 (.mk 0 ⟨#[]⟩ none 0 [])) = false
        · rw [if_pos h3] at h; cases h
        · rw [if_neg h3] at h
          by_cases h4 : k = 8 ∧ kyB S K n (of.getD 0 (.mk 0 ⟨#[]⟩ none 0 [])) = false
          · rw [if_pos h4]
            have hk : kyB S K (n + 1) (of.getD 0 (.mk 0 ⟨#[]⟩ none 0 [])) = true := by
              cases hb : kyB S K (n + 1) (of.getD 0 (.mk 0 ⟨#[]⟩ none 0 [])) with
              | true => rfl
              | false => exact absurd ⟨h4.1, hb⟩ h3
            rcases kyB_less hk with h5 | h5
            · rw [h5] at h4; cases h4.2
            · exact .inr (.inr ⟨rfl, h5⟩)
          · rw [if_neg h4]; exact tysE_less of h
theorem tysE_less : ∀ (l : List Ty), tysE S K (n + 1) l = 0 → Ls K n (tysE S K n l)
  | [] => fun _ => .inl (by unfold tysE; rfl)
  | t :: l => fun h => by
    unfold tysE at h ⊢
    cases h1 : tyE S K (n + 1) t true with
    | succ e => rw [h1] at h; cases h
    | zero =>
      rw [h1] at h
      have i1 := tyE_less t true h1
      cases h2 : tyE S K n t true with
      | zero => exact tysE_less l h
      | succ e => rw [h2] at i1; exact i1
end
theorem fdE_less {Kd : Int} {F : Fy} {k : Nat} (h : fdE S K (n + 1) Kd F k = 0) : Ls K n (fdE S K n Kd F k) := by
  unfold fdE at h ⊢
  by_cases h1 : tgB Kd (F.T k) = false
  · rw [if_pos h1] at h; cases h
  · rw [if_neg h1] at h ⊢
    by_cases h2 : anB (fun j => decide (F.T j = F.T k) || decide (F.N j = F.N k)) k = true
    · rw [if_pos h2] at h; cases h
    · rw [if_neg h2] at h ⊢
      by_cases h3 : Kd = 3
      · rw [if_pos h3]; exact .inl rfl
      · rw [if_neg h3] at h ⊢
        cases h4 : tyE S K (n + 1) (F.Y k) false with
        | succ e => rw [h4] at h; cases h
        | zero =>
          rw [h4] at h
          have i1 := tyE_less (F.Y k) false h4
          cases h5 : tyE S K n (F.Y k) false with
          | zero => exact .inl h
          | succ e => rw [h5] at i1; exact i1
theorem mdE_less {Kd : Int} {fl : Nat} {F : Fy} {M : Ml} {k : Nat} (h : mdE S K (n + 1) Kd fl F M k = 0) : Ls K n (mdE S K n Kd fl F M k) := by
  unfold mdE at h ⊢
  by_cases h1 : tgB Kd (M.T k) = false
  · rw [if_pos h1] at h; cases h
  · rw [if_neg h1] at h ⊢
    by_cases h2 : anB (fun j => decide (F.T j = M.T k) || decide (F.N j = M.N k)) fl = true
    · rw [if_pos h2] at h; cases h
    · rw [if_neg h2] at h ⊢
      by_cases h3 : anB (fun j => decide (M.T j = M.T k) || decide (M.N j = M.N k)) k = true
      · rw [if_pos h3] at h; cases h
      · rw [if_neg h3] at h ⊢
        cases h4 : stE S K (n + 1) (M.I k) with
        | succ e => rw [h4] at h; cases h
        | zero =>
          rw [h4] at h
          have i1 := stE_less h4
          have i2 := stE_less (s := M.O k) h
          cases h5 : stE S K n (M.I k) with
          | zero => exact i2
          | succ e => rw [h5] at i1; exact i1
theorem fzE_less {p q : Nat → Nat} {m : Nat} (h : fzE p m = 0) (hq : ∀ k, p k = 0 → Ls K n (q k)) : Ls K n (fzE q m) := by
  by_cases e : fzE q m = 0
  · exact .inl e
  · obtain ⟨k, hk, hp⟩ := fzE_some e
    rw [← hp]
    exact hq k (fzE_zero.1 h k hk)
theorem rwE_less {Kd : Int} {fl ml : Nat} {F : Fy} {M : Ml} (h : rwE S K (n + 1) Kd fl ml F M = 0) : Ls K n (rwE S K n Kd fl ml F M) := by
  unfold rwE at h ⊢
  by_cases h1 : Kd < 1 ∨ 4 < Kd
  · rw [if_pos h1] at h; cases h
  · rw [if_neg h1] at h ⊢
    cases h2 : fzE (fdE S K (n + 1) Kd F) fl with
    | succ e => rw [h2] at h; cases h
    | zero =>
      rw [h2] at h
      have i1 := fzE_less (K := K) (n := n) h2 (q := fdE S K n Kd F) (fun k hk => fdE_less hk)
      cases h3 : fzE (fdE S K n Kd F) fl with
      | succ e => rw [h3] at i1; exact i1
      | zero =>
        cases h4 : fzE (mdE S K (n + 1) Kd fl F M) ml with
        | succ e => rw [h4] at h; cases h
        | zero =>
          rw [h4] at h
          have i2 := fzE_less (K := K) (n := n) h4 (q := mdE S K n Kd fl F M) (fun k hk => mdE_less hk)
          cases h5 : fzE (mdE S K n Kd fl F M) ml with
          | succ e => rw [h5] at i2; exact i2
          | zero => exact .inl h
end less
variable {D : Dl} {F : Nat → Fy} {M : Nat → Ml} {n : Nat}
theorem dcE_less {i : Nat} (h : dcE D F M (n + 1) i = 0) : Ls D.K n (dcE D F M n i) := by
  unfold dcE at h ⊢
  cases hf : fiS D.S (D.S i) i with
  | some j => rw [hf] at h; cases h
  | none => rw [hf] at h; exact rwE_less h
/-- A name that a field's type is, in a schema whose rows may be, is there. -/
theorem dcE_field {i k : Nat} (h : dcE D F M n i = 0) (hK : D.K i ≠ 3) (hk : k < D.fl i) (h6 : ((F i).Y k).k = 6) : ∃ j, fiS D.S ((F i).Y k).n n = some j := by
  unfold dcE at h
  cases hf : fiS D.S (D.S i) i with
  | some j => rw [hf] at h; cases h
  | none =>
    rw [hf] at h
    have h' : rwE D.S D.K n (D.K i) (D.fl i) (D.ml i) (F i) (M i) = 0 := h
    unfold rwE at h'
    by_cases h1 : D.K i < 1 ∨ 4 < D.K i
    · rw [if_pos h1] at h'; cases h'
    · rw [if_neg h1] at h'
      cases h2 : fzE (fdE D.S D.K n (D.K i) (F i)) (D.fl i) with
      | succ e => rw [h2] at h'; cases h'
      | zero =>
        have h3 := fzE_zero.1 h2 k hk
        unfold fdE at h3
        by_cases g1 : tgB (D.K i) ((F i).T k) = false
        · rw [if_pos g1] at h3; cases h3
        · rw [if_neg g1] at h3
          by_cases g2 : anB (fun j => decide ((F i).T j = (F i).T k) || decide ((F i).N j = (F i).N k)) k = true
          · rw [if_pos g2] at h3; cases h3
          · rw [if_neg g2, if_neg hK] at h3
            cases h4 : tyE D.S D.K n ((F i).Y k) false with
            | succ e => rw [h4] at h3; cases h3
            | zero =>
              cases hy : (F i).Y k with
              | mk kk nm o c of =>
                rw [hy] at h4 h6
                have e6 : kk = 6 := h6
                unfold tyE at h4
                by_cases g3 : fmB kk nm of.length false = false
                · rw [if_pos g3] at h4; cases h4
                · rw [if_neg g3, if_pos e6] at h4
                  unfold nmE at h4
                  show ∃ j, fiS D.S nm n = some j
                  cases hn : fiS D.S nm n with
                  | some j => exact ⟨j, rfl⟩
                  | none => rw [hn] at h4; cases h4
/-- Without its last declaration a schema that may be has no new fault, but for names that are missing, and keys that were an enum's. -/
theorem ckE_less (h : ckE D F M (n + 1) = 0) : Ls D.K n (ckE D F M n) := by
  unfold ckE at h ⊢
  cases h1 : fzE (dcE D F M (n + 1)) (n + 1) with
  | succ e => rw [h1] at h; cases h
  | zero =>
    rw [h1] at h
    have hd := fzE_zero.1 h1
    cases h2 : fzE (dcE D F M n) n with
    | succ e =>
      obtain ⟨k, hk, hp⟩ := fzE_some (p := dcE D F M n) (n := n) (by rw [h2]; exact Nat.succ_ne_zero e)
      have := dcE_less (hd k (by omega))
      rw [hp, h2] at this; exact this
    | zero =>
      have hz := fzE_zero.1 h2
      have hfin : ∀ i, i < n + 1 → lfB D F (n + 1) i = true := by
        have : anB (fun i => !lfB D F (n + 1) i) (n + 1) = false := by
          cases hb : anB (fun i => !lfB D F (n + 1) i) (n + 1) with
          | false => rfl
          | true =>
            have h' : (if anB (fun i => !lfB D F (n + 1) i) (n + 1) = true then 10 else 0) = 0 := h
            rw [if_pos hb] at h'; cases h'
        intro i hi
        have := anB_false.1 this i hi
        simpa using this
      have hall : ∀ i, i < n → lfB D F n i = true := by
        intro i hi
        let X : Nat → Bool := fun j => if j < n then rdB (syD D F n) n j else true
        have hX : Closed (syD D F (n + 1)) X := by
          intro j hj ho
          show (if j < n then rdB (syD D F n) n j else true) = true
          by_cases hjn : j < n
          · rw [if_pos hjn]
            have hcl : Closed (syD D F n) (rdB (syD D F n) n) := rdB_closed (syD D F n)
            refine hcl j hjn ?_
            by_cases h3 : D.K j = 3
            · have e3 : ((syD D F n).K j == 3) = true := by simpa [syD] using h3
              unfold onB; rw [e3]; rfl
            · have he : ∀ k, k < D.fl j → fdB (syD D F (n + 1)) X j k = fdB (syD D F n) (rdB (syD D F n) n) j k := by
                intro k hk
                unfold fdB
                by_cases h6 : ((F j).Y k).k = 6
                · obtain ⟨q, hq⟩ := dcE_field (hz j hjn) h3 hk h6
                  have r1 : (syD D F n).r j k = some (some q) := by simp [syD, h6, hq]
                  have r2 : (syD D F (n + 1)).r j k = some (some q) := by simp [syD, h6, fiS_next_some hq]
                  rw [r1, r2]
                  exact if_pos (fiS_some hq).1
                · have r1 : (syD D F n).r j k = none := by simp [syD, h6]
                  have r2 : (syD D F (n + 1)).r j k = none := by simp [syD, h6]
                  rw [r1, r2]
              have hc := cnB_congr (n := D.fl j) he
              unfold onB at ho ⊢
              show ((D.K j == 3) || (D.K j == 4) || ((D.K j == 1) && (cnB (fdB (syD D F n) (rdB (syD D F n) n) j) (D.fl j) == D.fl j)) || ((D.K j == 2) && decide (0 < cnB (fdB (syD D F n) (rdB (syD D F n) n) j) (D.fl j)))) = true
              rw [← hc]; exact ho
          · rw [if_neg hjn]
        have := rdB_least hX (n + 1) i (by show i < n + 1; omega) (hfin i (by omega))
        have e : X i = rdB (syD D F n) n i := if_pos hi
        rw [e] at this; exact this
      left
      show (if anB (fun i => !lfB D F n i) n = true then 10 else 0) = 0
      have : anB (fun i => !lfB D F n i) n = false := anB_false.2 (fun k hk => by rw [hall k hk]; rfl)
      rw [this]; rfl
end Go.Proofs.Ythcpepifikpmeaa.Ck
