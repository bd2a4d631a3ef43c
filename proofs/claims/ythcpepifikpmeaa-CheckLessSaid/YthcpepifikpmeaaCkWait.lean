/- What is found finite by waiting: each declaration waits for as many of its fields as must be; what is found sets free what waits for it. Plain mathematics. -/
import Derived.Test.YthcpepifikpmeaaCkMath
namespace Go.Proofs.Ythcpepifikpmeaa.Ck
set_option linter.unusedVariables false
set_option linter.unusedSimpArgs false

def naB (s : Sy) (j k : Nat) : Bool := (s.r j k).isSome
def toB (s : Sy) (q j k : Nat) : Bool := match s.r j k with | some (some p) => p == q | _ => false
def hiB (s : Sy) (P : Nat → Bool) (j k : Nat) : Bool := match s.r j k with | some (some p) => P p | _ => false
/-- How many fields a declaration waits for. -/
def ndS (s : Sy) (j : Nat) : Int :=
  if s.K j = 1 then (cnB (naB s j) (s.l j) : Int) else if s.K j = 2 then (if cnB (naB s j) (s.l j) < s.l j then 0 else 1) else if s.K j = 3 ∨ s.K j = 4 then 0 else 1
def rcS (s : Sy) (P : Nat → Bool) (j : Nat) : Nat := if j < s.n ∧ (s.K j = 1 ∨ s.K j = 2) then cnB (hiB s P j) (s.l j) else 0
/-- How often a declaration waits for q. -/
def toS (s : Sy) (q j : Nat) : Nat := if j < s.n ∧ (s.K j = 1 ∨ s.K j = 2) then cnB (toB s q j) (s.l j) else 0
theorem cn_sum (s : Sy) (P : Nat → Bool) (j l : Nat) : cnB (fdB s P j) l + cnB (naB s j) l = l + cnB (hiB s P j) l := by
  induction l with
  | zero => rfl
  | succ l ih =>
    have e : (if fdB s P j l = true then 1 else 0) + (if naB s j l = true then 1 else 0) = 1 + (if hiB s P j l = true then 1 else 0) := by
      unfold fdB naB hiB
      cases hr : s.r j l with
      | none => simp
      | some o => cases o with
        | none => simp
        | some p => cases hP : P p <;> simp [hP]
    simp only [cnB]
    omega
theorem on_iff (s : Sy) (P : Nat → Bool) (j : Nat) (hj : j < s.n) : ndS s j - rcS s P j ≤ 0 ↔ onB s P j = true := by
  have h := cn_sum s P j (s.l j)
  have h1 := cnB_le (fdB s P j) (s.l j)
  have h2 := cnB_le (naB s j) (s.l j)
  unfold ndS rcS onB
  simp only [Bool.or_eq_true, Bool.and_eq_true, beq_iff_eq, decide_eq_true_eq]
  by_cases k1 : s.K j = 1
  · simp [k1, hj]; omega
  · by_cases k2 : s.K j = 2
    · simp [k2, hj]
      split <;> omega
    · by_cases k3 : s.K j = 3
      · simp [k3]
      · by_cases k4 : s.K j = 4
        · simp [k4]
        · simp [k1, k2, k3, k4]
/-- One more that was found. -/
def adP (P : Nat → Bool) (q : Nat) : Nat → Bool := fun x => P x || (x == q)
theorem rc_add (s : Sy) {P : Nat → Bool} {q : Nat} (h : P q = false) (j : Nat) : rcS s (adP P q) j = rcS s P j + toS s q j := by
  unfold rcS toS
  by_cases hk : j < s.n ∧ (s.K j = 1 ∨ s.K j = 2)
  · rw [if_pos hk, if_pos hk, if_pos hk]
    generalize s.l j = l
    induction l with
    | zero => rfl
    | succ l ih =>
      have e : (if hiB s (adP P q) j l = true then 1 else 0) = (if hiB s P j l = true then 1 else 0) + (if toB s q j l = true then 1 else 0) := by
        unfold hiB toB adP
        cases hr : s.r j l with
        | none => simp
        | some o => cases o with
          | none => simp
          | some p =>
            by_cases hp : p = q
            · subst hp; simp [h]
            · simp [hp]
      simp only [cnB]
      omega
  · rw [if_neg hk, if_neg hk, if_neg hk]
def adL (P : Nat → Bool) : List Nat → Nat → Bool
  | [] => P
  | q :: l => adL (adP P q) l
theorem adL_iff : ∀ (l : List Nat) (P : Nat → Bool) (x : Nat), adL P l x = true ↔ P x = true ∨ x ∈ l
  | [], P, x => by simp [adL]
  | q :: l, P, x => by
    show adL (adP P q) l x = true ↔ _
    rw [adL_iff l (adP P q) x]
    unfold adP
    simp only [Bool.or_eq_true, beq_iff_eq, List.mem_cons]
    constructor
    · rintro ((a | a) | a)
      · exact .inl a
      · exact .inr (.inl a)
      · exact .inr (.inr a)
    · rintro (a | a | a)
      · exact .inl (.inl a)
      · exact .inl (.inr a)
      · exact .inr a
theorem rc_list (s : Sy) (bx : Nat → List Nat) (hbx : ∀ q j, q < s.n → (bx q).count j = toS s q j) : ∀ (l : List Nat) (P : Nat → Bool), l.Nodup → (∀ q ∈ l, q < s.n ∧ P q = false) → ∀ j, rcS s (adL P l) j = rcS s P j + (l.flatMap bx).count j
  | [], P, _, _, j => by simp [adL]
  | q :: l, P, hn, hq, j => by
    have hn' := List.nodup_cons.1 hn
    show rcS s (adL (adP P q) l) j = _
    rw [rc_list s bx hbx l (adP P q) hn'.2 (fun x hx => ⟨(hq x (List.mem_cons_of_mem _ hx)).1, by
      have h1 := (hq x (List.mem_cons_of_mem _ hx)).2
      have h2 : x ≠ q := fun e => hn'.1 (e ▸ hx)
      simp [adP, h1, h2]⟩) j, rc_add s (hq q (List.mem_cons_self)).2 j, List.flatMap_cons, List.count_append, hbx q j (hq q (List.mem_cons_self)).1]
    omega

/-- What a pass over ps finds: those whose count was above 0, and is no more. -/
def Fr (L : Nat → Int) (ps l : List Nat) : Prop := l.Nodup ∧ ∀ j, j ∈ l ↔ 0 < L j ∧ L j - (ps.count j : Int) ≤ 0
theorem Fr.nil (L : Nat → Int) : Fr L [] [] := ⟨List.nodup_nil, fun j => by simp⟩
theorem cnt_same (ps : List Nat) (j : Nat) : (ps ++ [j]).count j = ps.count j + 1 := by simp
theorem cnt_other (ps : List Nat) {j k : Nat} (h : k ≠ j) : (ps ++ [j]).count k = ps.count k := by
  rw [List.count_append, List.count_singleton]
  simp [Ne.symm h]
theorem Fr.hit {L : Nat → Int} {ps l : List Nat} {j : Nat} (h : Fr L ps l) (hj : L j - (ps.count j : Int) - 1 = 0) : Fr L (ps ++ [j]) (l ++ [j]) := by
  have hni : j ∉ l := fun hm => by have := ((h.2 j).1 hm).2; omega
  refine ⟨List.nodup_append.2 ⟨h.1, by simp, fun a ha b hb => ?_⟩, fun k => ?_⟩
  · simp only [List.mem_singleton] at hb
    subst hb
    exact fun e => hni (e ▸ ha)
  · rw [List.mem_append, List.mem_singleton]
    by_cases e : k = j
    · subst e
      rw [cnt_same]
      refine ⟨fun _ => ⟨by omega, by omega⟩, fun _ => .inr rfl⟩
    · rw [cnt_other ps e, ← h.2 k]
      exact ⟨fun a => a.resolve_right e, .inl⟩
theorem Fr.miss {L : Nat → Int} {ps l : List Nat} {j : Nat} (h : Fr L ps l) (hj : L j - (ps.count j : Int) - 1 ≠ 0) : Fr L (ps ++ [j]) l := by
  refine ⟨h.1, fun k => ?_⟩
  by_cases e : k = j
  · subst e
    rw [cnt_same, h.2 k]
    refine ⟨fun ⟨a, b⟩ => ⟨a, by omega⟩, fun ⟨a, b⟩ => ⟨a, by omega⟩⟩
  · rw [cnt_other ps e]; exact h.2 k

/-- Behind each round: P is marked, l was found last, L is what is waited for. -/
structure Fd (s : Sy) (P : Nat → Bool) (l : List Nat) : Prop where
  nodup : l.Nodup
  new : ∀ j, j ∈ l → j < s.n ∧ P j = false
  all : ∀ j, j < s.n → (onB s P j = true ↔ P j = true ∨ j ∈ l)
  least : ∀ X, Closed s X → ∀ j, j < s.n → P j = true → X j = true
def lfS (s : Sy) (P : Nat → Bool) (j : Nat) : Int := ndS s j - rcS s P j
theorem Fd.start {s : Sy} {l : List Nat} (hn : l.Nodup) (h : ∀ j, j ∈ l ↔ j < s.n ∧ ndS s j = 0) : Fd s (fun _ => false) l := by
  have hz : ∀ j, rcS s (fun _ => false) j = 0 := fun j => by
    unfold rcS
    split
    · generalize s.l j = m
      induction m with
      | zero => rfl
      | succ m ih =>
        have : hiB s (fun _ => false) j m = false := by
          unfold hiB
          split <;> rfl
        rw [cnB_miss this]; exact ih
    · rfl
  have hnn : ∀ j, 0 ≤ ndS s j := fun j => by
    unfold ndS
    split
    · omega
    · split
      · split <;> omega
      · split <;> omega
  refine ⟨hn, fun j hj => ⟨((h j).1 hj).1, rfl⟩, fun j hj => ?_, fun X _ j _ h => by cases h⟩
  rw [← on_iff s _ j hj, hz j, h j]
  have := hnn j
  constructor
  · intro a; exact .inr ⟨hj, by omega⟩
  · rintro (a | ⟨_, a⟩)
    · cases a
    · omega
theorem Fd.round {s : Sy} {P : Nat → Bool} {l l' : List Nat} {bx : Nat → List Nat} (h : Fd s P l) (hbx : ∀ q j, q < s.n → (bx q).count j = toS s q j) (hlt : ∀ q j, q < s.n → j ∈ bx q → j < s.n) (hf : Fr (lfS s P) (l.flatMap bx) l') :
    Fd s (adL P l) l' ∧ ∀ j, lfS s P j - ((l.flatMap bx).count j : Int) = lfS s (adL P l) j := by
  have hrc := rc_list s bx hbx l P h.nodup h.new
  have hL : ∀ j, lfS s P j - ((l.flatMap bx).count j : Int) = lfS s (adL P l) j := fun j => by
    unfold lfS
    rw [hrc j]; omega
  have hmono : ∀ j, j < s.n → P j = true → adL P l j = true := fun j _ hp => (adL_iff l P j).2 (.inl hp)
  refine ⟨⟨hf.1, fun j hj => ?_, fun j hj => ?_, fun X hX j hj hp => ?_⟩, hL⟩
  · have h1 := (hf.2 j).1 hj
    have hjn : j < s.n := by
      by_cases e : j ∈ l.flatMap bx
      · obtain ⟨q, hq, hjq⟩ := List.mem_flatMap.1 e
        exact hlt q j (h.new q hq).1 hjq
      · rw [List.count_eq_zero.2 e] at h1; omega
    refine ⟨hjn, ?_⟩
    have hno : ¬ onB s P j = true := fun e => by
      have := (on_iff s P j hjn).2 e
      unfold lfS at h1; omega
    cases hx : adL P l j with
    | false => rfl
    | true => exact absurd ((h.all j hjn).2 ((adL_iff l P j).1 hx)) hno
  · constructor
    · intro ho
      by_cases e : onB s P j = true
      · exact .inl ((adL_iff l P j).2 ((h.all j hj).1 e))
      · right
        rw [hf.2 j, hL j]
        have h2 := (on_iff s (adL P l) j hj).2 ho
        have h3 : ¬ (ndS s j - rcS s P j ≤ 0) := fun e2 => e ((on_iff s P j hj).1 e2)
        unfold lfS; omega
    · rintro (e | e)
      · exact onB_mono hmono ((h.all j hj).2 ((adL_iff l P j).1 e))
      · have := (hf.2 j).1 e
        rw [hL j] at this
        exact (on_iff s (adL P l) j hj).1 this.2
  · rcases (adL_iff l P j).1 hp with e | e
    · exact h.least X hX j hj e
    · exact hX j hj (onB_mono (h.least X hX) ((h.all j hj).2 (.inr e)))
theorem Fd.done {s : Sy} {P : Nat → Bool} (h : Fd s P []) : ∀ j, j < s.n → P j = rdB s s.n j :=
  fin_unique (fun j hj ho => by
    rcases (h.all j hj).1 ho with e | e
    · exact e
    · cases e) h.least
/-- The round's measure. -/
def pzB (L : Nat → Int) (j : Nat) : Bool := decide (0 < L j)
theorem Fr.fewer {L : Nat → Int} {ps l : List Nat} {n : Nat} (h : Fr L ps l) (hlt : ∀ j, j ∈ l → j < n) (hl : l ≠ []) : cnB (pzB fun j => L j - (ps.count j : Int)) n < cnB (pzB L) n := by
  obtain ⟨j, t, rfl⟩ := List.exists_cons_of_ne_nil hl
  have h1 := (h.2 j).1 (List.mem_cons_self)
  refine cnB_lt (i := j) (fun k _ hk => ?_) (hlt j (List.mem_cons_self)) ?_ ?_
  · unfold pzB at hk ⊢
    simp only [decide_eq_true_eq] at hk ⊢
    omega
  · unfold pzB; simp; omega
  · unfold pzB; simp; omega
theorem Fr.le {L : Nat → Int} {ps : List Nat} {n : Nat} : cnB (pzB fun j => L j - (ps.count j : Int)) n ≤ cnB (pzB L) n :=
  cnB_mono fun k _ hk => by
    unfold pzB at hk ⊢
    simp only [decide_eq_true_eq] at hk ⊢
    omega
end Go.Proofs.Ythcpepifikpmeaa.Ck
