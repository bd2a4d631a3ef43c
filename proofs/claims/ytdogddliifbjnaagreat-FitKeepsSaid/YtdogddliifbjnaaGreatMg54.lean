/- Values: which trees are values, and which texts they have; keys apart. Plain mathematics: R tells which texts are right. -/
import Derived.Test.YtdogddliifbjnaaGreatMg51
namespace Go.Proofs.YtdogddliifbjnaaGreat.Va
set_option linter.unusedVariables false
set_option linter.unusedSimpArgs false

/-- Are tags rising, and within their bounds? -/
def tgsB : Int → List Int → Bool
  | _, [] => true
  | p, t :: l => decide (1 ≤ t ∧ t ≤ 255) && decide (p < t) && tgsB t l
/-- What a tag is wrong by, at its place. -/
def tgBad (l : List Int) (i : Nat) : Bool := decide (l.getD i 0 < 1) || decide (255 < l.getD i 0) || (decide (0 < i) && decide (l.getD i 0 ≤ l.getD (i - 1) 0))
theorem tgs_iff : ∀ (l : List Int) (p : Int), tgsB p l = true ↔ (∀ i, i < l.length → 1 ≤ l.getD i 0 ∧ l.getD i 0 ≤ 255) ∧ (∀ i, i + 1 < l.length → l.getD i 0 < l.getD (i + 1) 0) ∧ (0 < l.length → p < l.getD 0 0)
  | [], p => by simp [tgsB]
  | t :: l, p => by
    have ih := tgs_iff l t
    unfold tgsB
    rw [Bool.and_eq_true, Bool.and_eq_true, decide_eq_true_eq, decide_eq_true_eq, ih]
    constructor
    · rintro ⟨⟨h1, h2⟩, h3, h4, h5⟩
      refine ⟨fun i hi => ?_, fun i hi => ?_, fun _ => h2⟩
      · cases i with
        | zero => exact h1
        | succ i => exact h3 i (by simpa using hi)
      · cases i with
        | zero => exact h5 (by simpa using hi)
        | succ i => exact h4 i (by simpa using hi)
    · rintro ⟨h1, h2, h3⟩
      refine ⟨⟨h1 0 (by simp), h3 (by simp)⟩, fun i hi => h1 (i + 1) (by simpa using hi), fun i hi => h2 (i + 1) (by simpa using hi), fun hi => h2 0 (by simpa using hi)⟩
theorem tg_bad (l : List Int) : tgsB 0 l = true ↔ ∀ i, i < l.length → tgBad l i = false := by
  rw [tgs_iff]
  unfold tgBad
  simp only [Bool.or_eq_false_iff, decide_eq_false_iff_not, Bool.and_eq_false_iff]
  constructor
  · rintro ⟨h1, h2, _⟩ i hi
    have := h1 i hi
    refine ⟨⟨by omega, by omega⟩, ?_⟩
    cases i with
    | zero => exact .inl (by omega)
    | succ i => right; have := h2 i hi; simpa using this
  · intro h
    refine ⟨fun i hi => ?_, fun i hi => ?_, fun hi => ?_⟩
    · have := (h i hi).1; omega
    · rcases (h (i + 1) hi).2 with e | e
      · omega
      · simpa using e
    · have := (h 0 hi).1; omega
/-- What a key is wrong by, at its place (the places of keys are even). -/
def kyBad (l : List Va) (i : Nat) : Bool := !keyB (l.getD i default).k || (decide (1 < i) && (decide ((l.getD (i - 2) default).k ≠ (l.getD i default).k) || decide (cmpV (l.getD (i - 2) default).k (l.getD (i - 2) default).n (l.getD (i - 2) default).s (l.getD i default).k (l.getD i default).n (l.getD i default).s ≠ -1)))
def kysB (l : List Va) : Bool := decide (∀ j, j < l.length → 2 * j + 1 < l.length → kyBad l (2 * j) = false) && decide (l.length % 2 = 0)
/-- Is a value one, but for its items? -/
def oneB (R : ByteArray → Bool) (k n : Int) (s : ByteArray) (ts : List Int) (is : List Va) : Bool :=
  if k = 1 then decide (ts = []) && decide (is.length = 0) && decide (s = ⟨#[]⟩) && (decide (n = 0) || decide (n = 1))
  else if k = 2 ∨ k = 3 then decide (ts = []) && decide (is.length = 0) && decide (s = ⟨#[]⟩)
  else if k = 4 then decide (ts = []) && decide (is.length = 0) && decide (n = 0) && R s
  else if k = 5 then decide (ts = []) && decide (is.length = 0) && decide (n = 0)
  else if k = 6 then decide (ts = []) && decide (is.length = 0) && decide (s = ⟨#[]⟩) && decide (0 ≤ n ∧ n ≤ 9999)
  else if k = 7 then decide (n = 0) && decide (s = ⟨#[]⟩) && decide (ts = [])
  else if k = 8 then decide (n = 0) && decide (s = ⟨#[]⟩) && decide (ts = []) && kysB is
  else if k = 9 then decide (n = 0) && decide (s = ⟨#[]⟩) && decide (ts.length = is.length) && tgsB 0 ts
  else if k = 10 then decide (n = 0) && decide (s = ⟨#[]⟩) && decide (ts.length = 1) && decide (is.length = 1) && tgsB 0 ts
  else false
mutual
def weV (R : ByteArray → Bool) : Va → Bool | .mk k n s _ _ ts _ _ is => oneB R k n s ts is && wesV R is
def wesV (R : ByteArray → Bool) : List Va → Bool
  | [] => true
  | v :: l => weV R v && wesV R l
end
theorem weV_eq (R : ByteArray → Bool) (k n : Int) (s : ByteArray) (tb : Option Addr) (tc : Nat) (ts : List Int) (io : Option Addr) (ic : Nat) (is : List Va) : weV R (.mk k n s tb tc ts io ic is) = (oneB R k n s ts is && wesV R is) := by conv => lhs; unfold weV
theorem wes_iff (R : ByteArray → Bool) : ∀ (l : List Va), wesV R l = true ↔ ∀ (i : Nat) (v : Va), l[i]? = some v → weV R v = true
  | [] => ⟨fun _ i v h => by simp at h, fun _ => by unfold wesV; rfl⟩
  | x :: l => by
    have ih := wes_iff R l
    have e : wesV R (x :: l) = (weV R x && wesV R l) := by conv => lhs; unfold wesV
    rw [e, Bool.and_eq_true, ih]
    refine ⟨fun ⟨h1, h2⟩ i v h => ?_, fun h => ⟨h 0 x rfl, fun i v hv => h (i + 1) v (by simpa using hv)⟩⟩
    cases i with
    | zero => obtain rfl : x = v := by simpa using h
              exact h1
    | succ i => exact h2 i v (by simpa using h)

/-- A number without a sign. -/
def unN (n : Int) : Nat := (n % 18446744073709551616).toNat
theorem un_inj {n m : Int} (hn : -9223372036854775808 ≤ n ∧ n ≤ 9223372036854775807) (hm : -9223372036854775808 ≤ m ∧ m ≤ 9223372036854775807) (h : unN n = unN m) : n = m := by
  unfold unN at h; omega
/-- What stands ahead of an item. -/
def aheadL (how : Nat) (ts : List Int) (i : Nat) : List UInt8 :=
  (if 0 < i ∧ (how < 2 ∨ i % 2 = 0) then [44] else []) ++ (if 0 < i ∧ how = 2 ∧ i % 2 = 1 then [58] else []) ++ (if how = 1 then sgL (ts.getD i 0) ++ [61] else [])
mutual
/-- A value's text. -/
def txV : Va → List UInt8
  | .mk k n s _ _ ts _ _ is =>
    if k = 1 then (if n = 0 then [102, 97, 108, 115, 101] else [116, 114, 117, 101])
    else if k = 2 ∨ k = 6 then sgL n
    else if k = 3 then dgL (unN n)
    else if k = 4 ∨ k = 5 then quL s.data.toList
    else if k = 7 then 91 :: (itV 0 ts 0 is ++ [93])
    else if k = 8 then 123 :: (itV 2 ts 0 is ++ [125])
    else if k = 9 then 40 :: (itV 1 ts 0 is ++ [41])
    else if k = 10 then 60 :: (itV 1 ts 0 is ++ [62])
    else [63]
def itV (how : Nat) (ts : List Int) : Nat → List Va → List UInt8
  | _, [] => []
  | i, v :: l => aheadL how ts i ++ (txV v ++ itV how ts (i + 1) l)
end
theorem txV_eq (k n : Int) (s : ByteArray) (tb : Option Addr) (tc : Nat) (ts : List Int) (io : Option Addr) (ic : Nat) (is : List Va) : txV (.mk k n s tb tc ts io ic is) =
    if k = 1 then (if n = 0 then [102, 97, 108, 115, 101] else [116, 114, 117, 101])
    else if k = 2 ∨ k = 6 then sgL n
    else if k = 3 then dgL (unN n)
    else if k = 4 ∨ k = 5 then quL s.data.toList
    else if k = 7 then 91 :: (itV 0 ts 0 is ++ [93])
    else if k = 8 then 123 :: (itV 2 ts 0 is ++ [125])
    else if k = 9 then 40 :: (itV 1 ts 0 is ++ [41])
    else if k = 10 then 60 :: (itV 1 ts 0 is ++ [62])
    else [63] := by conv => lhs; unfold txV
theorem itV_eq (how : Nat) (ts : List Int) (i : Nat) (v : Va) (l : List Va) : itV how ts i (v :: l) = aheadL how ts i ++ (txV v ++ itV how ts (i + 1) l) := by conv => lhs; unfold itV
theorem itV_nil (how : Nat) (ts : List Int) (i : Nat) : itV how ts i [] = [] := by unfold itV; rfl
/-- The text of the first items, one more. -/
theorem it_take (how : Nat) (ts : List Int) : ∀ (l : List Va) (b i : Nat) (v : Va), l[i]? = some v → itV how ts b (l.take (i + 1)) = itV how ts b (l.take i) ++ (aheadL how ts (b + i) ++ txV v)
  | [], b, i, v, h => by simp at h
  | x :: l, b, 0, v, h => by
    obtain rfl : x = v := by simpa using h
    simp [itV_eq, itV_nil]
  | x :: l, b, i + 1, v, h => by
    have := it_take how ts l (b + 1) i v (by simpa using h)
    rw [List.take_succ_cons, List.take_succ_cons, itV_eq, itV_eq, this, show b + 1 + i = b + (i + 1) by omega]
    simp [List.append_assoc]

mutual
/-- Numbers and tags within their bounds. -/
def okV : Va → Prop
  | .mk _ n _ _ _ ts _ _ is => (-9223372036854775808 ≤ n ∧ n ≤ 9223372036854775807) ∧ (∀ t, t ∈ ts → -9223372036854775808 ≤ t ∧ t ≤ 9223372036854775807) ∧ oksV is
def oksV : List Va → Prop
  | [] => True
  | v :: l => okV v ∧ oksV l
end
theorem dg_len : ∀ (d n : Nat), n < 10 ^ (d + 1) → (dgL n).length ≤ d + 1
  | 0, n, h => by rw [dg_small (by simpa using h)]; simp
  | d + 1, n, h => by
    by_cases hn : n < 10
    · rw [dg_small hn]; simp
    · rw [dg_big hn, List.length_append, List.length_singleton]
      have e : 10 ^ (d + 1 + 1) = 10 * 10 ^ (d + 1) := by rw [Nat.pow_succ]; omega
      have := dg_len d (n / 10) (by omega)
      omega
theorem dg_len20 {n : Nat} (h : n < 18446744073709551616) : (dgL n).length ≤ 20 := dg_len 19 n (by
  have e : (10 : Nat) ^ (19 + 1) = 100000000000000000000 := by decide
  omega)
theorem sg_len {n : Int} (h : -9223372036854775808 ≤ n ∧ n ≤ 9223372036854775807) : (sgL n).length ≤ 21 := by
  unfold sgL
  split
  · have := dg_len20 (n := n.toNat) (by omega); omega
  · have := dg_len20 (n := (-n).toNat) (by omega)
    rw [List.length_cons]; omega
theorem qu_len (l : List UInt8) : (quL l).length ≤ 3 * l.length + 2 := by
  unfold quL
  have : ∀ l : List UInt8, (l.flatMap quB).length ≤ 3 * l.length := fun l => by
    induction l with
    | nil => simp
    | cons a l ih =>
      rw [List.flatMap_cons, List.length_append, List.length_cons]
      have : (quB a).length ≤ 3 := by unfold quB; split <;> simp
      omega
  have := this l
  rw [List.length_cons, List.length_append, List.length_singleton]; omega
theorem ahead_len {how : Nat} {ts : List Int} {i : Nat} (h : ∀ t, t ∈ ts → -9223372036854775808 ≤ t ∧ t ≤ 9223372036854775807) : (aheadL how ts i).length ≤ 24 := by
  have ht : (sgL (ts.getD i 0)).length ≤ 21 := sg_len (by
    rw [List.getD]
    cases e : ts[i]? with
    | none => exact ⟨by decide, by decide⟩
    | some t => exact h t (List.mem_of_getElem? e))
  unfold aheadL
  rw [List.length_append, List.length_append]
  have h1 : (if 0 < i ∧ (how < 2 ∨ i % 2 = 0) then [(44 : UInt8)] else []).length ≤ 1 := by split <;> simp
  have h2 : (if 0 < i ∧ how = 2 ∧ i % 2 = 1 then [(58 : UInt8)] else []).length ≤ 1 := by split <;> simp
  have h3 : (if how = 1 then sgL (ts.getD i 0) ++ [61] else []).length ≤ 22 := by
    split
    · rw [List.length_append, List.length_singleton]; omega
    · simp
  omega
mutual
/-- A text's length. -/
theorem tx_len : ∀ (v : Va), okV v → (txV v).length + 24 ≤ 16 * szV v
  | .mk k n s tb tc ts io ic is, h => by
    unfold okV at h
    obtain ⟨hn, ht, hi⟩ := h
    have i0 := it_len 0 ts ht is 0 hi
    have i1 := it_len 1 ts ht is 0 hi
    have i2 := it_len 2 ts ht is 0 hi
    have q := qu_len s.data.toList
    have hs : s.data.toList.length = s.size := Array.length_toList
    have g := sg_len hn
    have u := dg_len20 (n := unN n) (by unfold unN; omega)
    rw [txV_eq, szV_eq]
    split
    · split <;> simp <;> omega
    · split
      · omega
      · split
        · omega
        · split
          · omega
          · split
            · simp; omega
            · split
              · simp; omega
              · split
                · simp; omega
                · split
                  · simp; omega
                  · simp; omega
theorem it_len (how : Nat) (ts : List Int) (ht : ∀ t, t ∈ ts → -9223372036854775808 ≤ t ∧ t ≤ 9223372036854775807) : ∀ (l : List Va) (i : Nat), oksV l → (itV how ts i l).length ≤ 16 * szsV l
  | [], i, _ => by rw [itV_nil]; simp
  | v :: l, i, h => by
    unfold oksV at h
    have h1 := tx_len v h.1
    have h2 := it_len how ts ht l (i + 1) h.2
    have h3 := ahead_len (how := how) (i := i) ht
    have e : szsV (v :: l) = szV v + szsV l := by conv => lhs; unfold szsV
    rw [itV_eq, e, List.length_append, List.length_append]
    omega
end

/-- A key that is a value: its items and tags are none. -/
theorem key_plain {R : ByteArray → Bool} {k n : Int} {s : ByteArray} {tb : Option Addr} {tc : Nat} {ts : List Int} {io : Option Addr} {ic : Nat} {is : List Va} (hk : keyB k = true) (h : weV R (.mk k n s tb tc ts io ic is) = true) :
    ts = [] ∧ is = [] ∧ (k = 4 ∧ n = 0 ∨ k ≠ 4 ∧ s = ⟨#[]⟩) ∧ (k = 1 → n = 0 ∨ n = 1) := by
  rw [weV_eq, Bool.and_eq_true] at h
  have h1 := h.1
  unfold oneB at h1
  unfold keyB at hk
  simp only [Bool.or_eq_true, decide_eq_true_eq] at hk
  by_cases k1 : k = 1
  · rw [if_pos k1] at h1
    simp only [Bool.and_eq_true, Bool.or_eq_true, decide_eq_true_eq] at h1
    exact ⟨h1.1.1.1, List.eq_nil_of_length_eq_zero h1.1.1.2, .inr ⟨by omega, h1.1.2⟩, fun _ => h1.2⟩
  · rw [if_neg k1] at h1
    by_cases k2 : k = 2 ∨ k = 3
    · rw [if_pos k2] at h1
      simp only [Bool.and_eq_true, decide_eq_true_eq] at h1
      exact ⟨h1.1.1, List.eq_nil_of_length_eq_zero h1.1.2, .inr ⟨by omega, h1.2⟩, fun e => absurd e k1⟩
    · rw [if_neg k2] at h1
      by_cases k4 : k = 4
      · rw [if_pos k4] at h1
        simp only [Bool.and_eq_true, decide_eq_true_eq] at h1
        exact ⟨h1.1.1.1, List.eq_nil_of_length_eq_zero h1.1.1.2, .inl ⟨k4, h1.1.2⟩, fun e => absurd e k1⟩
      · rw [if_neg k4, if_neg (by omega), if_pos (by omega)] at h1
        simp only [Bool.and_eq_true, decide_eq_true_eq] at h1
        exact ⟨h1.1.1.1, List.eq_nil_of_length_eq_zero h1.1.1.2, .inr ⟨k4, h1.1.2⟩, fun e => absurd e k1⟩
theorem txt_ext {a b : ByteArray} (h : a.data.toList = b.data.toList) : a = b := by
  cases a; cases b
  congr 1
  exact Array.toList_inj.1 h
theorem or_zero {a b : Bool} : orZ a b = 0 ↔ a = false ∧ b = false := by cases a <;> cases b <;> simp [orZ]
/-- Two keys that are values, of one kind, stand alike just if they are the same, and have one text just then. -/
theorem apart {R : ByteArray → Bool} {a b : Va} (hk : a.k = b.k) (hy : keyB a.k = true) (ha : weV R a = true) (hb : weV R b = true) (na : -9223372036854775808 ≤ a.n ∧ a.n ≤ 9223372036854775807) (nb : -9223372036854775808 ≤ b.n ∧ b.n ≤ 9223372036854775807) :
    decide (cmpV a.k a.n a.s b.k b.n b.s = 0) = saV a b ∧ saV a b = decide (txV a = txV b) := by
  obtain ⟨k, n, s, tb, tc, ts, io, ic, is⟩ := a
  obtain ⟨k', n', s', tb', tc', ts', io', ic', is'⟩ := b
  obtain rfl : k = k' := hk
  have hy' : keyB k = true := hy
  obtain ⟨rfl, rfl, h1, h3⟩ := key_plain hy' ha
  obtain ⟨rfl, rfl, h2, h4⟩ := key_plain hy' hb
  have na' : -9223372036854775808 ≤ n ∧ n ≤ 9223372036854775807 := na
  have nb' : -9223372036854775808 ≤ n' ∧ n' ≤ 9223372036854775807 := nb
  have hs : saV (.mk k n s tb tc [] io ic []) (.mk k n' s' tb' tc' [] io' ic' []) = (decide (n = n') && decide (s = s')) := by
    rw [saV_eq]
    show (decide (k = k) && decide (n = n') && decide (s = s') && decide (([] : List Int) = []) && sasV [] []) = _
    have : sasV [] [] = true := by unfold sasV; rfl
    rw [this]; simp
  rw [hs]
  show decide (cmpV k n s k n' s' = 0) = _ ∧ _
  rw [txV_eq, txV_eq]
  have hc : cmpV k n s k n' s' = if k = 4 then orZ (ltL s.data.toList s'.data.toList) (ltL s'.data.toList s.data.toList) else if k = 3 ∧ decide (n < 0) ≠ decide (n' < 0) then orZ (decide (n' < 0)) (decide (n < 0)) else orZ (decide (n < n')) (decide (n' < n)) := by
    unfold cmpV
    rw [if_neg (by rw [hy']; simp)]
  rw [hc]
  unfold keyB at hy'
  simp only [Bool.or_eq_true, decide_eq_true_eq] at hy'
  by_cases k4 : k = 4
  · obtain ⟨_, rfl⟩ := h1.resolve_right (fun e => e.1 k4)
    obtain ⟨_, rfl⟩ := h2.resolve_right (fun e => e.1 k4)
    subst k4
    rw [if_pos rfl]
    have e1 : (orZ (ltL s.data.toList s'.data.toList) (ltL s'.data.toList s.data.toList) = 0) ↔ s = s' := by
      rw [or_zero]
      refine ⟨fun ⟨a, b⟩ => txt_ext (ltL_tri _ _ a b), fun e => by subst e; exact ⟨ltL_irr _, ltL_irr _⟩⟩
    have e2 : (quL s.data.toList = quL s'.data.toList) ↔ s = s' := ⟨fun h => txt_ext (qu_inj h), fun h => by rw [h]⟩
    refine ⟨by simp [e1], ?_⟩
    show (decide ((0 : Int) = 0) && decide (s = s')) = decide (quL s.data.toList = quL s'.data.toList)
    simp [e2]
  · obtain ⟨_, rfl⟩ := h1.resolve_left (fun e => k4 e.1)
    obtain ⟨_, rfl⟩ := h2.resolve_left (fun e => k4 e.1)
    rw [if_neg k4]
    have e1 : ((if k = 3 ∧ decide (n < 0) ≠ decide (n' < 0) then orZ (decide (n' < 0)) (decide (n < 0)) else orZ (decide (n < n')) (decide (n' < n))) = 0) ↔ n = n' := by
      by_cases h : k = 3 ∧ decide (n < 0) ≠ decide (n' < 0)
      · rw [if_pos h, or_zero]
        refine ⟨fun ⟨a, b⟩ => absurd (b.trans a.symm) h.2, fun e => absurd (by rw [e]) h.2⟩
      · rw [if_neg h, or_zero]
        simp only [decide_eq_false_iff_not]
        omega
    refine ⟨?_, ?_⟩
    · by_cases hn : n = n'
      · rw [decide_eq_true (e1.2 hn), decide_eq_true hn]; rfl
      · rw [decide_eq_false (fun x => hn (e1.1 x)), decide_eq_false hn]; rfl
    by_cases k1 : k = 1
    · rw [if_pos k1, if_pos k1]
      rcases h3 k1 with rfl | rfl <;> rcases h4 k1 with rfl | rfl <;> simp
    · rw [if_neg k1, if_neg k1]
      by_cases k2 : k = 2 ∨ k = 6
      · rw [if_pos k2, if_pos k2]
        have e2 : (sgL n = sgL n') ↔ n = n' := ⟨sg_inj, fun h => by rw [h]⟩
        simp [e2]
      · rw [if_neg k2, if_neg k2, if_pos (by omega), if_pos (by omega)]
        have e2 : (dgL (unN n) = dgL (unN n')) ↔ n = n' := ⟨fun h => un_inj na' nb' (dg_inj _ _ h), fun h => by rw [h]⟩
        simp [e2]
end Go.Proofs.YtdogddliifbjnaaGreat.Va
