/- Names: which of the first n texts is a text, the first one; twice. Plain mathematics: it imports nothing of the program. -/
namespace Go.Proofs.YtdogddliifbjnaaGreat.Nm
/-- The first place below n at which a text stands. -/
def fiS (S : Nat → ByteArray) (s : ByteArray) : Nat → Option Nat
  | 0 => none
  | n + 1 => match fiS S s n with
    | some i => some i
    | none => if S n = s then some n else none
theorem fiS_next_some {S : Nat → ByteArray} {s : ByteArray} {n i : Nat} (h : fiS S s n = some i) : fiS S s (n + 1) = some i := by
  show (match fiS S s n with | some i => some i | none => if S n = s then some n else none) = some i
  rw [h]
theorem fiS_next_hit {S : Nat → ByteArray} {s : ByteArray} {n : Nat} (h : fiS S s n = none) (e : S n = s) : fiS S s (n + 1) = some n := by
  show (match fiS S s n with | some i => some i | none => if S n = s then some n else none) = some n
  rw [h]; exact if_pos e
theorem fiS_next_miss {S : Nat → ByteArray} {s : ByteArray} {n : Nat} (h : fiS S s n = none) (e : ¬ S n = s) : fiS S s (n + 1) = none := by
  show (match fiS S s n with | some i => some i | none => if S n = s then some n else none) = none
  rw [h]; exact if_neg e
theorem fiS_le {S : Nat → ByteArray} {s : ByteArray} {n m i : Nat} (hm : n ≤ m) (h : fiS S s n = some i) : fiS S s m = some i := by
  induction m with
  | zero => obtain rfl : n = 0 := by omega
            exact h
  | succ m ih =>
    by_cases e : n = m + 1
    · subst e; exact h
    · exact fiS_next_some (ih (by omega))
theorem fiS_some {S : Nat → ByteArray} {s : ByteArray} {n i : Nat} (h : fiS S s n = some i) : i < n ∧ S i = s := by
  induction n with
  | zero => cases h
  | succ n ih =>
    cases hc : fiS S s n with
    | some j =>
      rw [fiS_next_some hc] at h
      obtain rfl := Option.some.inj h
      have := ih hc
      exact ⟨by omega, this.2⟩
    | none =>
      by_cases e : S n = s
      · rw [fiS_next_hit hc e] at h
        obtain rfl := Option.some.inj h
        exact ⟨by omega, e⟩
      · rw [fiS_next_miss hc e] at h; cases h
theorem fiS_none {S : Nat → ByteArray} {s : ByteArray} {n : Nat} (h : fiS S s n = none) : ∀ i, i < n → ¬ S i = s := by
  induction n with
  | zero => intro i hi; omega
  | succ n ih =>
    intro i hi e
    cases hc : fiS S s n with
    | some j => rw [fiS_next_some hc] at h; cases h
    | none =>
      by_cases e2 : S n = s
      · rw [fiS_next_hit hc e2] at h; cases h
      · by_cases e3 : i = n
        · subst e3; exact e2 e
        · exact ih hc i (by omega) e
/-- A place that is there leads to itself or ahead. -/
theorem fiS_own {S : Nat → ByteArray} {n j : Nat} (hj : j < n) : ∃ i, fiS S (S j) n = some i ∧ i ≤ j := by
  cases hc : fiS S (S j) (j + 1) with
  | some i => exact ⟨i, fiS_le hj hc, by have := fiS_some hc; omega⟩
  | none => exact absurd rfl (fiS_none hc j (by omega))
/-- It stood ahead. -/
theorem fiS_ahead {S : Nat → ByteArray} {n i j : Nat} (hj : j < n) (h : fiS S (S j) j = some i) : fiS S (S j) n = some i := fiS_le (by omega) h
theorem fiS_fresh {S : Nat → ByteArray} {n j : Nat} (hj : j < n) (h : fiS S (S j) j = none) : fiS S (S j) n = some j := fiS_le hj (fiS_next_hit h rfl)

/-- The place that Find tells, the kind that Kind tells, and whether there is one. -/
def plS (S : Nat → ByteArray) (s : ByteArray) (n : Nat) : Int := match fiS S s n with | some i => (i : Int) | none => 0
def knS (S : Nat → ByteArray) (K : Nat → Int) (s : ByteArray) (n : Nat) : Int := match fiS S s n with | some i => K i | none => 0
def isS (S : Nat → ByteArray) (s : ByteArray) (n : Nat) : Bool := (fiS S s n).isSome
/-- What the reference's Find tells. -/
def rfS (S : Nat → ByteArray) (s : ByteArray) (n : Nat) : Int := match fiS S s n with | some i => (i : Int) | none => -1
theorem plS_some {S : Nat → ByteArray} {s : ByteArray} {n i : Nat} (h : fiS S s n = some i) : plS S s n = i := by unfold plS; rw [h]
theorem plS_none {S : Nat → ByteArray} {s : ByteArray} {n : Nat} (h : fiS S s n = none) : plS S s n = 0 := by unfold plS; rw [h]
theorem knS_some {S : Nat → ByteArray} {K : Nat → Int} {s : ByteArray} {n i : Nat} (h : fiS S s n = some i) : knS S K s n = K i := by unfold knS; rw [h]
theorem knS_none {S : Nat → ByteArray} {K : Nat → Int} {s : ByteArray} {n : Nat} (h : fiS S s n = none) : knS S K s n = 0 := by unfold knS; rw [h]
theorem isS_some {S : Nat → ByteArray} {s : ByteArray} {n i : Nat} (h : fiS S s n = some i) : isS S s n = true := by unfold isS; rw [h]; rfl
theorem isS_none {S : Nat → ByteArray} {s : ByteArray} {n : Nat} (h : fiS S s n = none) : isS S s n = false := by unfold isS; rw [h]; rfl
theorem rfS_some {S : Nat → ByteArray} {s : ByteArray} {n i : Nat} (h : fiS S s n = some i) : rfS S s n = i := by unfold rfS; rw [h]
theorem rfS_none {S : Nat → ByteArray} {s : ByteArray} {n : Nat} (h : fiS S s n = none) : rfS S s n = -1 := by unfold rfS; rw [h]

/-- The first place below n whose text stood ahead; none: there is none. -/
def twS (S : Nat → ByteArray) : Nat → Option Nat
  | 0 => none
  | n + 1 => match twS S n with
    | some i => some i
    | none => if isS S (S n) n = true then some n else none
theorem twS_next_some {S : Nat → ByteArray} {n i : Nat} (h : twS S n = some i) : twS S (n + 1) = some i := by
  show (match twS S n with | some i => some i | none => if isS S (S n) n = true then some n else none) = some i
  rw [h]
theorem twS_next_hit {S : Nat → ByteArray} {n i : Nat} (h : twS S n = none) (e : fiS S (S n) n = some i) : twS S (n + 1) = some n := by
  show (match twS S n with | some i => some i | none => if isS S (S n) n = true then some n else none) = some n
  rw [h]; exact if_pos (isS_some e)
theorem twS_next_miss {S : Nat → ByteArray} {n : Nat} (h : twS S n = none) (e : fiS S (S n) n = none) : twS S (n + 1) = none := by
  show (match twS S n with | some i => some i | none => if isS S (S n) n = true then some n else none) = none
  rw [h]; exact if_neg (by rw [isS_none e]; decide)
theorem twS_le {S : Nat → ByteArray} {n m i : Nat} (hm : n ≤ m) (h : twS S n = some i) : twS S m = some i := by
  induction m with
  | zero => obtain rfl : n = 0 := by omega
            exact h
  | succ m ih =>
    by_cases e : n = m + 1
    · subst e; exact h
    · exact twS_next_some (ih (by omega))
theorem twS_none {S : Nat → ByteArray} {n : Nat} (h : twS S n = none) : ∀ j, j < n → fiS S (S j) j = none := by
  induction n with
  | zero => intro j hj; omega
  | succ n ih =>
    intro j hj
    cases hc : twS S n with
    | some i => rw [twS_next_some hc] at h; cases h
    | none =>
      by_cases e : j = n
      · subst e
        cases hf : fiS S (S j) j with
        | none => rfl
        | some i => rw [twS_next_hit hc hf] at h; cases h
      · exact ih hc j (by omega)
/-- What Twice answers. -/
def twZ (S : Nat → ByteArray) (n : Nat) : Int := match twS S n with | some i => (i : Int) | none => -1
theorem twZ_some {S : Nat → ByteArray} {n i : Nat} (h : twS S n = some i) : twZ S n = i := by unfold twZ; rw [h]
theorem twZ_none {S : Nat → ByteArray} {n : Nat} (h : twS S n = none) : twZ S n = -1 := by unfold twZ; rw [h]

/-- The first place below n at which a number stands. -/
def niS (S : Nat → Int) (s : Int) : Nat → Option Nat
  | 0 => none
  | n + 1 => match niS S s n with
    | some i => some i
    | none => if S n = s then some n else none
theorem niS_next_some {S : Nat → Int} {s : Int} {n i : Nat} (h : niS S s n = some i) : niS S s (n + 1) = some i := by
  show (match niS S s n with | some i => some i | none => if S n = s then some n else none) = some i
  rw [h]
theorem niS_next_hit {S : Nat → Int} {s : Int} {n : Nat} (h : niS S s n = none) (e : S n = s) : niS S s (n + 1) = some n := by
  show (match niS S s n with | some i => some i | none => if S n = s then some n else none) = some n
  rw [h]; exact if_pos e
theorem niS_next_miss {S : Nat → Int} {s : Int} {n : Nat} (h : niS S s n = none) (e : ¬ S n = s) : niS S s (n + 1) = none := by
  show (match niS S s n with | some i => some i | none => if S n = s then some n else none) = none
  rw [h]; exact if_neg e
theorem niS_le {S : Nat → Int} {s : Int} {n m i : Nat} (hm : n ≤ m) (h : niS S s n = some i) : niS S s m = some i := by
  induction m with
  | zero => obtain rfl : n = 0 := by omega
            exact h
  | succ m ih =>
    by_cases e : n = m + 1
    · subst e; exact h
    · exact niS_next_some (ih (by omega))
theorem niS_some {S : Nat → Int} {s : Int} {n i : Nat} (h : niS S s n = some i) : i < n ∧ S i = s := by
  induction n with
  | zero => cases h
  | succ n ih =>
    cases hc : niS S s n with
    | some j =>
      rw [niS_next_some hc] at h
      obtain rfl := Option.some.inj h
      have := ih hc
      exact ⟨by omega, this.2⟩
    | none =>
      by_cases e : S n = s
      · rw [niS_next_hit hc e] at h
        obtain rfl := Option.some.inj h
        exact ⟨by omega, e⟩
      · rw [niS_next_miss hc e] at h; cases h
def rnS (S : Nat → Int) (s : Int) (n : Nat) : Int := match niS S s n with | some i => (i : Int) | none => -1
theorem rnS_some {S : Nat → Int} {s : Int} {n i : Nat} (h : niS S s n = some i) : rnS S s n = i := by unfold rnS; rw [h]
theorem rnS_none {S : Nat → Int} {s : Int} {n : Nat} (h : niS S s n = none) : rnS S s n = -1 := by unfold rnS; rw [h]
end Go.Proofs.YtdogddliifbjnaaGreat.Nm
/- Texts as lists of bytes: one behind the other, cut. Plain mathematics: it imports nothing of the program. -/
namespace Go.Proofs.YtdogddliifbjnaaGreat.Cm
theorem bytes_eq {a b : ByteArray} (h : a.data.toList = b.data.toList) : a = b := ByteArray.ext (Array.toList_inj.1 h)
theorem len_list (a : ByteArray) : a.data.toList.length = a.size := Array.length_toList
theorem ext_list (s : ByteArray) (i j : Nat) : (s.extract i j).data.toList = (s.data.toList.drop i).take (j - i) := by
  rw [ByteArray.data_extract, Array.toList_extract]
theorem app_list (a b : ByteArray) : (a ++ b).data.toList = a.data.toList ++ b.data.toList := by rw [ByteArray.data_append, Array.toList_append]
theorem app_assoc (a b c : ByteArray) : (a ++ b) ++ c = a ++ (b ++ c) := by
  apply bytes_eq
  rw [app_list, app_list, app_list, app_list, List.append_assoc]
theorem ext_app (a r : ByteArray) : (a ++ r).extract 0 a.size = a := by
  apply bytes_eq
  rw [ext_list, app_list, List.drop_zero, Nat.sub_zero, List.take_append_of_le_length (by rw [len_list]; omega), List.take_of_length_le (by rw [len_list]; omega)]
theorem ext_mid (a b r : ByteArray) : (a ++ (b ++ r)).extract a.size (a.size + b.size) = b := by
  apply bytes_eq
  rw [ext_list, app_list, app_list, List.drop_append_of_le_length (by rw [len_list]; omega), List.drop_of_length_le (by rw [len_list]; omega), List.nil_append, Nat.add_sub_cancel_left, List.take_append_of_le_length (by rw [len_list]; omega), List.take_of_length_le (by rw [len_list]; omega)]
theorem ext_size (s : ByteArray) (m : Nat) (h : m ≤ s.size) : (s.extract 0 m).size = m := by rw [ByteArray.size_extract]; omega
end Go.Proofs.YtdogddliifbjnaaGreat.Cm
