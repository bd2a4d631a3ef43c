/- Values: trees; which are values, how deep, how great, which texts they have, how two keys stand. Plain mathematics: it imports nothing of the program. -/
import Derived.WalkKit
namespace Go.Proofs.YtdogddliifbjnaaGreat.Va
set_option linter.unusedVariables false
set_option linter.unusedSimpArgs false

/-- A value: its kind, number, text, tags and items (and the slices that lead there). -/
inductive Va where
  | mk (k : Int) (n : Int) (s : ByteArray) (tb : Option Addr) (tc : Nat) (ts : List Int) (io : Option Addr) (ic : Nat) (is : List Va)
def Va.k : Va → Int | .mk k _ _ _ _ _ _ _ _ => k
def Va.n : Va → Int | .mk _ n _ _ _ _ _ _ _ => n
def Va.s : Va → ByteArray | .mk _ _ s _ _ _ _ _ _ => s
def Va.ts : Va → List Int | .mk _ _ _ _ _ ts _ _ _ => ts
def Va.is : Va → List Va | .mk _ _ _ _ _ _ _ _ is => is
instance : Inhabited Va := ⟨.mk 0 0 ⟨#[]⟩ none 0 [] none 0 []⟩

mutual
def dpV : Va → Nat | .mk _ _ _ _ _ _ _ _ is => dpsV is + 1
def dpsV : List Va → Nat
  | [] => 0
  | v :: l => max (dpV v) (dpsV l)
end
mutual
def szV : Va → Nat | .mk _ _ s _ _ _ _ _ is => 8 + s.size + szsV is
def szsV : List Va → Nat
  | [] => 0
  | v :: l => szV v + szsV l
end
mutual
/-- Are two the same? -/
def saV : Va → Va → Bool | .mk k n s _ _ ts _ _ is, b => decide (k = b.k) && decide (n = b.n) && decide (s = b.s) && decide (ts = b.ts) && sasV is b.is
def sasV : List Va → List Va → Bool
  | [], [] => true
  | v :: l, u :: m => saV v u && sasV l m
  | [], _ :: _ => false
  | _ :: _, [] => false
end
theorem saV_eq (k n : Int) (s : ByteArray) (tb : Option Addr) (tc : Nat) (ts : List Int) (io : Option Addr) (ic : Nat) (is : List Va) (b : Va) :
    saV (.mk k n s tb tc ts io ic is) b = (decide (k = b.k) && decide (n = b.n) && decide (s = b.s) && decide (ts = b.ts) && sasV is b.is) := by conv => lhs; unfold saV
mutual
theorem saV_refl : ∀ (v : Va), saV v v = true
  | .mk k n s tb tc ts io ic is => by
    rw [saV_eq]
    show (decide (k = k) && decide (n = n) && decide (s = s) && decide (ts = ts) && sasV is is) = true
    rw [sasV_refl is]; simp
theorem sasV_refl : ∀ (l : List Va), sasV l l = true
  | [] => by unfold sasV; rfl
  | v :: l => by
    have h1 := saV_refl v
    have h2 := sasV_refl l
    conv => lhs; unfold sasV
    rw [h1, h2]; rfl
end
theorem dps_leV : ∀ (l : List Va) (i : Nat) (v : Va), l[i]? = some v → dpV v ≤ dpsV l
  | [], i, v, h => by simp at h
  | x :: l, 0, v, h => by
    obtain rfl : x = v := by simpa using h
    unfold dpsV; omega
  | x :: l, i + 1, v, h => by
    have := dps_leV l i v (by simpa using h)
    unfold dpsV; omega
theorem dpV_eq (k n : Int) (s : ByteArray) (tb : Option Addr) (tc : Nat) (ts : List Int) (io : Option Addr) (ic : Nat) (is : List Va) : dpV (.mk k n s tb tc ts io ic is) = dpsV is + 1 := by conv => lhs; unfold dpV
theorem szV_eq (k n : Int) (s : ByteArray) (tb : Option Addr) (tc : Nat) (ts : List Int) (io : Option Addr) (ic : Nat) (is : List Va) : szV (.mk k n s tb tc ts io ic is) = 8 + s.size + szsV is := by conv => lhs; unfold szV
theorem dp_childV {k n : Int} {s : ByteArray} {tb : Option Addr} {tc : Nat} {ts : List Int} {io : Option Addr} {ic i : Nat} {is : List Va} {v : Va} (h : is[i]? = some v) : dpV v < dpV (.mk k n s tb tc ts io ic is) := by
  have := dps_leV is i v h
  rw [dpV_eq]; omega
/-- Sums and greatest of the first items. -/
theorem szs_take (l : List Va) (i : Nat) (v : Va) (h : l[i]? = some v) : szsV (l.take (i + 1)) = szsV (l.take i) + szV v := by
  induction l generalizing i with
  | nil => simp at h
  | cons x l ih =>
    cases i with
    | zero =>
      obtain rfl : x = v := by simpa using h
      simp [szsV]
    | succ i =>
      have := ih i (by simpa using h)
      simp only [List.take_succ_cons, szsV]
      rw [this]; omega
theorem dps_take (l : List Va) (i : Nat) (v : Va) (h : l[i]? = some v) : dpsV (l.take (i + 1)) = max (dpsV (l.take i)) (dpV v) := by
  induction l generalizing i with
  | nil => simp at h
  | cons x l ih =>
    cases i with
    | zero =>
      obtain rfl : x = v := by simpa using h
      simp [dpsV]
    | succ i =>
      have := ih i (by simpa using h)
      simp only [List.take_succ_cons, dpsV]
      rw [this]; omega

/-- May a map's keys be of a kind? -/
def keyB (k : Int) : Bool := decide (1 ≤ k ∧ k ≤ 4) || decide (k = 6)
def orZ (less more : Bool) : Int := if less then -1 else if more then 1 else 0
/-- Texts, byte by byte. -/
def ltL : List UInt8 → List UInt8 → Bool
  | [], [] => false
  | [], _ :: _ => true
  | _ :: _, [] => false
  | a :: l, b :: m => decide (a < b) || (decide (a = b) && ltL l m)
theorem ltL_irr : ∀ (l : List UInt8), ltL l l = false
  | [] => rfl
  | a :: l => by
    have := ltL_irr l
    have h : ¬ a < a := by rw [UInt8.lt_iff_toNat_lt]; omega
    simp [ltL, this, h]
theorem ltL_tri : ∀ (l m : List UInt8), ltL l m = false → ltL m l = false → l = m
  | [], [], _, _ => rfl
  | [], _ :: _, h, _ => by simp [ltL] at h
  | _ :: _, [], _, h => by simp [ltL] at h
  | a :: l, b :: m, h1, h2 => by
    simp only [ltL, Bool.or_eq_false_iff, decide_eq_false_iff_not, Bool.and_eq_false_iff] at h1 h2
    have hab : a = b := by
      have e1 := h1.1
      have e2 := h2.1
      rw [UInt8.lt_iff_toNat_lt] at e1 e2
      exact UInt8.toNat_inj.1 (by omega)
    subst hab
    have i1 : ltL l m = false := by
      rcases h1.2 with h | h
      · exact absurd rfl h
      · exact h
    have i2 : ltL m l = false := by
      rcases h2.2 with h | h
      · exact absurd rfl h
      · exact h
    rw [ltL_tri l m i1 i2]
theorem ltL_asym : ∀ (l m : List UInt8), ltL l m = true → ltL m l = false
  | [], [], h => by simp [ltL] at h
  | [], _ :: _, _ => by simp [ltL]
  | _ :: _, [], h => by simp [ltL] at h
  | a :: l, b :: m, h => by
    simp only [ltL, Bool.or_eq_true, decide_eq_true_eq, Bool.and_eq_true] at h
    simp only [ltL, Bool.or_eq_false_iff, decide_eq_false_iff_not, Bool.and_eq_false_iff]
    rcases h with h | ⟨rfl, h⟩
    · rw [UInt8.lt_iff_toNat_lt] at h
      refine ⟨by rw [UInt8.lt_iff_toNat_lt]; omega, .inl fun e => ?_⟩
      subst e; omega
    · exact ⟨by rw [UInt8.lt_iff_toNat_lt]; omega, .inr (ltL_asym l m h)⟩
/-- How two keys stand. -/
def cmpV (ak an : Int) (as : ByteArray) (bk bn : Int) (bs : ByteArray) : Int :=
  if ak ≠ bk ∨ keyB ak = false then orZ (decide (ak < bk)) (decide (bk < ak))
  else if ak = 4 then orZ (ltL as.data.toList bs.data.toList) (ltL bs.data.toList as.data.toList)
  else if ak = 3 ∧ decide (an < 0) ≠ decide (bn < 0) then orZ (decide (bn < 0)) (decide (an < 0))
  else orZ (decide (an < bn)) (decide (bn < an))
theorem or_neg {a b : Bool} (h : ¬ (a = true ∧ b = true)) : orZ a b = - orZ b a := by
  cases a <;> cases b <;> first | rfl | exact absurd ⟨rfl, rfl⟩ h
theorem cmp_neg (ak an : Int) (as : ByteArray) (bk bn : Int) (bs : ByteArray) : cmpV ak an as bk bn bs = - cmpV bk bn bs ak an as := by
  unfold cmpV
  by_cases h1 : ak ≠ bk ∨ keyB ak = false
  · have h1' : bk ≠ ak ∨ keyB bk = false := by
      by_cases e : ak = bk
      · subst e; exact .inr (h1.resolve_left (fun h => h rfl))
      · exact .inl (fun e2 => e e2.symm)
    rw [if_pos h1, if_pos h1']
    exact or_neg (by simp only [decide_eq_true_eq]; omega)
  · have e : ak = bk := Classical.byContradiction fun e => h1 (.inl e)
    subst e
    rw [if_neg h1, if_neg h1]
    by_cases h4 : ak = 4
    · rw [if_pos h4, if_pos h4]
      exact or_neg (fun ⟨a, b⟩ => by rw [ltL_asym _ _ a] at b; cases b)
    · rw [if_neg h4, if_neg h4]
      by_cases h3 : ak = 3 ∧ decide (an < 0) ≠ decide (bn < 0)
      · have h3' : ak = 3 ∧ decide (bn < 0) ≠ decide (an < 0) := ⟨h3.1, fun e => h3.2 e.symm⟩
        rw [if_pos h3, if_pos h3']
        refine or_neg (fun ⟨a, b⟩ => h3.2 ?_)
        rw [a, b]
      · have h3' : ¬ (ak = 3 ∧ decide (bn < 0) ≠ decide (an < 0)) := fun e => h3 ⟨e.1, fun x => e.2 x.symm⟩
        rw [if_neg h3, if_neg h3']
        exact or_neg (by simp only [decide_eq_true_eq]; omega)

/-- A number's digits. -/
def dgL (n : Nat) : List UInt8 := if h : n < 10 then [UInt8.ofNat (48 + n)] else dgL (n / 10) ++ [UInt8.ofNat (48 + n % 10)]
termination_by n
theorem dg_small {n : Nat} (h : n < 10) : dgL n = [UInt8.ofNat (48 + n)] := by rw [dgL, dif_pos h]
theorem dg_big {n : Nat} (h : ¬ n < 10) : dgL n = dgL (n / 10) ++ [UInt8.ofNat (48 + n % 10)] := by rw [dgL, dif_neg h]
theorem dg_ne (n : Nat) : dgL n ≠ [] := by
  by_cases h : n < 10
  · rw [dg_small h]; simp
  · rw [dg_big h]; simp
theorem dg_inj : ∀ (n m : Nat), dgL n = dgL m → n = m := by
  intro n
  induction n using Nat.strongRecOn with
  | ind n ih =>
    intro m h
    have hb : ∀ a b : Nat, a < 10 → b < 10 → UInt8.ofNat (48 + a) = UInt8.ofNat (48 + b) → a = b := fun a b ha hb h => by
      have := congrArg UInt8.toNat h
      simp at this; omega
    by_cases hn : n < 10
    · by_cases hm : m < 10
      · rw [dg_small hn, dg_small hm] at h
        exact hb n m hn hm (by simpa using h)
      · rw [dg_small hn, dg_big hm] at h
        have := congrArg List.length h
        simp only [List.length_append, List.length_singleton] at this
        exact absurd (List.eq_nil_of_length_eq_zero (by omega)) (dg_ne (m / 10))
    · by_cases hm : m < 10
      · rw [dg_big hn, dg_small hm] at h
        have := congrArg List.length h
        simp only [List.length_append, List.length_singleton] at this
        exact absurd (List.eq_nil_of_length_eq_zero (by omega)) (dg_ne (n / 10))
      · rw [dg_big hn, dg_big hm] at h
        obtain ⟨h1, h2⟩ := List.append_inj' h rfl
        have e1 := ih (n / 10) (by omega) (m / 10) h1
        have e2 := hb (n % 10) (m % 10) (by omega) (by omega) (by simpa using h2)
        omega
theorem dg_digit : ∀ (n : Nat) (b : UInt8), b ∈ dgL n → 48 ≤ b.toNat ∧ b.toNat ≤ 57 := by
  intro n
  induction n using Nat.strongRecOn with
  | ind n ih =>
    intro b hb
    by_cases hn : n < 10
    · rw [dg_small hn] at hb
      obtain rfl : b = UInt8.ofNat (48 + n) := by simpa using hb
      simp; omega
    · rw [dg_big hn] at hb
      rcases List.mem_append.1 hb with h | h
      · exact ih (n / 10) (by omega) b h
      · obtain rfl : b = UInt8.ofNat (48 + n % 10) := by simpa using h
        simp; omega
/-- With a sign. -/
def sgL (n : Int) : List UInt8 := if 0 ≤ n then dgL n.toNat else 45 :: dgL (-n).toNat
theorem sg_inj {n m : Int} (h : sgL n = sgL m) : n = m := by
  unfold sgL at h
  have hd : ∀ k : Nat, ∀ l, dgL k ≠ 45 :: l := fun k l e => by
    have := dg_digit k 45 (by rw [e]; simp)
    simp at this
  by_cases hn : 0 ≤ n
  · rw [if_pos hn] at h
    by_cases hm : 0 ≤ m
    · rw [if_pos hm] at h
      have := dg_inj _ _ h; omega
    · rw [if_neg hm] at h
      exact absurd h (hd _ _)
  · rw [if_neg hn] at h
    by_cases hm : 0 ≤ m
    · rw [if_pos hm] at h
      exact absurd h.symm (hd _ _)
    · rw [if_neg hm] at h
      have := dg_inj _ _ (List.cons.inj h).2; omega
/-- A figure of a byte; a byte between quotes. -/
def fgB (n : Nat) : UInt8 := if n < 10 then UInt8.ofNat (48 + n) else UInt8.ofNat (87 + n)
theorem fg_inj {n m : Nat} (hn : n < 16) (hm : m < 16) (h : fgB n = fgB m) : n = m := by
  have := congrArg UInt8.toNat h
  unfold fgB at this
  split at this <;> split at this <;> simp at this <;> omega
def quB (c : UInt8) : List UInt8 := if c.toNat < 32 ∨ c.toNat = 34 ∨ c.toNat = 92 ∨ 126 < c.toNat then [92, fgB (c.toNat / 16), fgB (c.toNat % 16)] else [c]
def quL (l : List UInt8) : List UInt8 := 34 :: (l.flatMap quB ++ [34])
theorem qu_step {a b : UInt8} {l m : List UInt8} (h : quB a ++ l = quB b ++ m) : a = b ∧ l = m := by
  have hf : ∀ c : UInt8, c.toNat < 256 := fun c => UInt8.toNat_lt c
  unfold quB at h
  by_cases ha : a.toNat < 32 ∨ a.toNat = 34 ∨ a.toNat = 92 ∨ 126 < a.toNat
  · rw [if_pos ha] at h
    by_cases hb : b.toNat < 32 ∨ b.toNat = 34 ∨ b.toNat = 92 ∨ 126 < b.toNat
    · rw [if_pos hb] at h
      simp only [List.cons_append, List.nil_append, List.cons.injEq, true_and] at h
      have h1 := hf a
      have h2 := hf b
      have e1 := fg_inj (n := a.toNat / 16) (m := b.toNat / 16) (by omega) (by omega) h.1
      have e2 := fg_inj (n := a.toNat % 16) (m := b.toNat % 16) (by omega) (by omega) h.2.1
      exact ⟨UInt8.toNat_inj.1 (by omega), h.2.2⟩
    · rw [if_neg hb] at h
      simp only [List.cons_append, List.nil_append, List.cons.injEq] at h
      have : b.toNat = 92 := by rw [← h.1]; rfl
      omega
  · rw [if_neg ha] at h
    by_cases hb : b.toNat < 32 ∨ b.toNat = 34 ∨ b.toNat = 92 ∨ 126 < b.toNat
    · rw [if_pos hb] at h
      simp only [List.cons_append, List.nil_append, List.cons.injEq] at h
      have : a.toNat = 92 := by rw [h.1]; rfl
      omega
    · rw [if_neg hb] at h
      simpa using h
theorem qu_end {a : UInt8} {l : List UInt8} : quB a ++ l ≠ [34] := by
  intro h
  unfold quB at h
  by_cases ha : a.toNat < 32 ∨ a.toNat = 34 ∨ a.toNat = 92 ∨ 126 < a.toNat
  · rw [if_pos ha] at h
    simp at h
  · rw [if_neg ha] at h
    simp only [List.cons_append, List.nil_append, List.cons.injEq] at h
    have : a.toNat = 34 := by rw [h.1]; rfl
    omega
theorem qu_flat : ∀ (l m : List UInt8), l.flatMap quB ++ [34] = m.flatMap quB ++ [34] → l = m
  | [], [], _ => rfl
  | [], b :: m, h => by
    rw [List.flatMap_cons, List.append_assoc] at h
    exact absurd h.symm qu_end
  | a :: l, [], h => by
    rw [List.flatMap_cons, List.append_assoc] at h
    exact absurd h qu_end
  | a :: l, b :: m, h => by
    rw [List.flatMap_cons, List.flatMap_cons, List.append_assoc, List.append_assoc] at h
    obtain ⟨rfl, h2⟩ := qu_step h
    rw [qu_flat l m h2]
theorem qu_inj {l m : List UInt8} (h : quL l = quL m) : l = m := qu_flat l m (List.cons.inj h).2
end Go.Proofs.YtdogddliifbjnaaGreat.Va
