/- The mathematics of texts of UTF-8: how many bytes the rune has that begins a list of bytes, how many runes a list has and where it is wrong first, and names. -/
import Derived.Laws.RangeAny
namespace Go.Proofs.YtdogddliifbjnaaGreat.Ut
set_option linter.unusedVariables false
set_option linter.unusedSimpArgs false

def contB (c : Nat) : Bool := decide (128 ≤ c ∧ c < 192)
/-- t bytes more are to come, n is told so far. -/
def goR (k least : Nat) : Nat → Nat → List UInt8 → Nat
  | 0, n, _ => if n < least ∨ 1114112 ≤ n ∨ (55296 ≤ n ∧ n < 57344) then 0 else k
  | _ + 1, _, [] => 0
  | t + 1, n, b :: r => if contB b.toNat then goR k least t (n * 64 + (b.toNat - 128)) r else 0
def rk : List UInt8 → Nat
  | [] => 0
  | a :: r => if a.toNat < 128 then 1 else if a.toNat < 192 then 0 else if a.toNat < 224 then goR 2 128 1 (a.toNat - 192) r
    else if a.toNat < 240 then goR 3 2048 2 (a.toNat - 224) r else if a.toNat < 248 then goR 4 65536 3 (a.toNat - 240) r else 0

theorem goR_some (k least : Nat) : ∀ (t n : Nat) (r : List UInt8), goR k least t n r ≠ 0 → goR k least t n r = k ∧ t ≤ r.length
  | 0, n, r, h => by
    simp only [goR] at h ⊢
    split at h
    · simp at h
    · rename_i hc; rw [if_neg hc]; simp
  | t + 1, n, [], h => by simp [goR] at h
  | t + 1, n, b :: r, h => by
    simp only [goR] at h ⊢
    split at h
    · rename_i hc
      have := goR_some k least t _ r h
      rw [if_pos hc]
      exact ⟨this.1, by simp; omega⟩
    · simp at h
theorem goR_app (k least : Nat) : ∀ (t n : Nat) (r m : List UInt8), t ≤ r.length → goR k least t n (r ++ m) = goR k least t n r
  | 0, n, r, m, _ => by simp [goR]
  | t + 1, n, [], m, h => by simp at h
  | t + 1, n, b :: r, m, h => by
    simp only [List.cons_append, goR]
    rw [goR_app k least t _ r m (by simp at h; omega)]
theorem goR_le (k least t n : Nat) (r : List UInt8) (hk : k = t + 1) : goR k least t n r ≤ r.length + 1 := by
  by_cases h : goR k least t n r = 0
  · omega
  · have := goR_some k least t n r h; omega

theorem rk_le (l : List UInt8) : rk l ≤ l.length := by
  cases l with
  | nil => simp [rk]
  | cons a r =>
    simp only [rk, List.length_cons]
    have h1 := goR_le 2 128 1 (a.toNat - 192) r rfl
    have h2 := goR_le 3 2048 2 (a.toNat - 224) r rfl
    have h3 := goR_le 4 65536 3 (a.toNat - 240) r rfl
    repeat' split
    all_goals omega
theorem rk_le4 (l : List UInt8) : rk l ≤ 4 := by
  have hg : ∀ k least t n r, k ≤ 4 → goR k least t n r ≤ 4 := fun k least t n r hk => by
    by_cases h : goR k least t n r = 0
    · omega
    · have := goR_some k least t n r h; omega
  cases l with
  | nil => simp [rk]
  | cons a r =>
    simp only [rk]
    have h1 := hg 2 128 1 (a.toNat - 192) r (by omega)
    have h2 := hg 3 2048 2 (a.toNat - 224) r (by omega)
    have h3 := hg 4 65536 3 (a.toNat - 240) r (by omega)
    repeat' split
    all_goals omega
theorem goR_app2 (k least t n : Nat) (r m : List UInt8) (h : goR k least t n r ≠ 0 ∨ t ≤ r.length) : goR k least t n (r ++ m) = goR k least t n r := by
  rcases h with h | h
  · exact goR_app k least t n r m (goR_some k least t n r h).2
  · exact goR_app k least t n r m h
theorem rk_app (l m : List UInt8) (h : rk l ≠ 0 ∨ 4 ≤ l.length) : rk (l ++ m) = rk l := by
  cases l with
  | nil => simp [rk] at h
  | cons a r =>
    simp only [List.cons_append, rk] at h ⊢
    simp only [List.length_cons] at h
    by_cases c1 : a.toNat < 128
    · simp [c1]
    · by_cases c2 : a.toNat < 192
      · simp [c1, c2]
      · by_cases c3 : a.toNat < 224
        · simp only [c1, c2, c3, if_true, if_false] at h ⊢; exact goR_app2 _ _ _ _ _ _ (h.elim .inl fun x => .inr (by omega))
        · by_cases c4 : a.toNat < 240
          · simp only [c1, c2, c3, c4, if_true, if_false] at h ⊢; exact goR_app2 _ _ _ _ _ _ (h.elim .inl fun x => .inr (by omega))
          · by_cases c5 : a.toNat < 248
            · simp only [c1, c2, c3, c4, c5, if_true, if_false] at h ⊢; exact goR_app2 _ _ _ _ _ _ (h.elim .inl fun x => .inr (by omega))
            · simp [c1, c2, c3, c4, c5]

/-- How many runes stand ahead of the first byte that is wrong, and its place (-1: none). -/
def wk (n i : Nat) (l : List UInt8) : Nat × Int :=
  if h : l = [] then (n, -1) else if h0 : rk l = 0 then (n, (i : Int)) else wk (n + 1) (i + rk l) (l.drop (rk l))
termination_by l.length
decreasing_by
  have := List.length_pos_iff.2 h
  simp only [List.length_drop]; omega
theorem wk_nil (n i : Nat) : wk n i [] = (n, -1) := by rw [wk]; simp
theorem wk_bad {n i : Nat} {l : List UInt8} (h : l ≠ []) (h0 : rk l = 0) : wk n i l = (n, (i : Int)) := by rw [wk]; simp [h, h0]
theorem wk_on {n i : Nat} {l : List UInt8} (h0 : rk l ≠ 0) : wk n i l = wk (n + 1) (i + rk l) (l.drop (rk l)) := by
  have h : l ≠ [] := by intro e; rw [e] at h0; simp [rk] at h0
  rw [wk]; simp [h, h0]

theorem wk_bd (m : Nat) : ∀ (n i : Nat) (l : List UInt8), l.length ≤ m → n ≤ (wk n i l).1 ∧ (wk n i l).1 ≤ n + l.length ∧ ((wk n i l).2 = -1 ∨ ((i : Int) ≤ (wk n i l).2 ∧ (wk n i l).2 < i + l.length)) := by
  induction m with
  | zero => intro n i l h; obtain rfl := List.length_eq_zero_iff.1 (Nat.le_zero.1 h); rw [wk_nil]; simp
  | succ m ih =>
    intro n i l h
    by_cases hl : l = []
    · subst hl; rw [wk_nil]; simp
    · have := List.length_pos_iff.2 hl
      by_cases h0 : rk l = 0
      · rw [wk_bad hl h0]; simp; omega
      · rw [wk_on h0]
        have hr := rk_le l
        have := ih (n + 1) (i + rk l) (l.drop (rk l)) (by simp; omega)
        simp only [List.length_drop] at this
        omega
theorem wk_shift (m : Nat) : ∀ (n i : Nat) (l : List UInt8), l.length ≤ m → (wk n i l).1 = n + (wk 0 0 l).1 ∧ (wk n i l).2 = (if (wk 0 0 l).2 < 0 then -1 else (i : Int) + (wk 0 0 l).2) := by
  induction m with
  | zero => intro n i l h; obtain rfl := List.length_eq_zero_iff.1 (Nat.le_zero.1 h); simp [wk_nil]
  | succ m ih =>
    intro n i l h
    by_cases hl : l = []
    · subst hl; simp [wk_nil]
    · have := List.length_pos_iff.2 hl
      by_cases h0 : rk l = 0
      · rw [wk_bad hl h0, wk_bad hl h0]; simp
      · rw [wk_on h0, wk_on (n := 0) (i := 0) h0]
        have hr := rk_le l
        have h1 := ih (n + 1) (i + rk l) (l.drop (rk l)) (by simp; omega)
        have h2 := ih (0 + 1) (0 + rk l) (l.drop (rk l)) (by simp; omega)
        have h3 := wk_bd m 0 0 (l.drop (rk l)) (by simp; omega)
        rw [h1.1, h1.2, h2.1, h2.2]
        refine ⟨by omega, ?_⟩
        by_cases hn : (wk 0 0 (l.drop (rk l))).2 < 0
        · simp [hn]
        · simp only [hn, if_false]
          rw [if_neg (by omega)]
          omega
theorem wk_app (m : Nat) : ∀ (n i : Nat) (a b : List UInt8), a.length ≤ m →
    ((wk n i a).2 < 0 → wk n i (a ++ b) = wk (wk n i a).1 (i + a.length) b) ∧
    (0 ≤ (wk n i a).2 → 4 ≤ (i : Int) + a.length - (wk n i a).2 → (wk n i (a ++ b)).2 = (wk n i a).2) := by
  induction m with
  | zero => intro n i a b h; obtain rfl := List.length_eq_zero_iff.1 (Nat.le_zero.1 h); simp [wk_nil]
  | succ m ih =>
    intro n i a b h
    by_cases hl : a = []
    · subst hl; simp [wk_nil]
    · have := List.length_pos_iff.2 hl
      by_cases h0 : rk a = 0
      · rw [wk_bad hl h0]
        refine ⟨fun h => by simp at h; omega, fun _ h4 => ?_⟩
        simp only at h4
        have e := rk_app a b (.inr (by omega))
        rw [wk_bad (by simp [hl]) (by rw [e, h0])]
      · have e := rk_app a b (.inl h0)
        have hr := rk_le a
        rw [wk_on h0, wk_on (l := a ++ b) (by rw [e]; exact h0), e, List.drop_append_of_le_length hr]
        have := ih (n + 1) (i + rk a) (a.drop (rk a)) b (by simp; omega)
        simp only [List.length_drop] at this
        have e2 : i + rk a + (a.length - rk a) = i + a.length := by omega
        rw [e2] at this
        refine ⟨this.1, fun g1 g2 => this.2 g1 (by omega)⟩

/-- Decoding, over a list. -/
def dL (l : List UInt8) : Nat × Nat :=
  let at' (k : Nat) : Nat := (l.getD k 0).toNat
  let cont (k : Nat) : Bool := decide (k < l.length) && at' k / 64 == 2
  let b0 := at' 0
  if b0 < 0x80 then (b0, 1)
  else if b0 / 32 == 6 && cont 1 then
    let c := (b0 % 32) * 64 + at' 1 % 64
    if c ≥ 0x80 then (c, 2) else (Utf8.runeError, 1)
  else if b0 / 16 == 14 && cont 1 && cont 2 then
    let c := (b0 % 16) * 4096 + (at' 1 % 64) * 64 + at' 2 % 64
    if c ≥ 0x800 && Utf8.valid c then (c, 3) else (Utf8.runeError, 1)
  else if b0 / 8 == 30 && cont 1 && cont 2 && cont 3 then
    let c := (b0 % 8) * 262144 + (at' 1 % 64) * 4096 + (at' 2 % 64) * 64 + at' 3 % 64
    if c ≥ 0x10000 && Utf8.valid c then (c, 4) else (Utf8.runeError, 1)
  else (Utf8.runeError, 1)
theorem get_drop (s : ByteArray) (i k : Nat) : s.get! (i + k) = (s.data.toList.drop i).getD k 0 := by
  show s.data[i + k]! = _
  rw [List.getD_eq_getElem?_getD, List.getElem?_drop, Array.getElem?_toList, getElem!_def]
  cases s.data[i + k]? <;> rfl
theorem decode_dL (s : ByteArray) (i : Nat) : Utf8.decode s i = dL (s.data.toList.drop i) := by
  unfold Utf8.decode dL
  simp only [get_drop]
  have e : ∀ k, decide (i + k < s.size) = decide (k < (s.data.toList.drop i).length) := fun k => by
    have : (s.data.toList.drop i).length = s.size - i := by simp
    rw [this]; congr 1; apply propext; omega
  simp only [e]

theorem valid_dec (c : Nat) : Utf8.valid (c : Int) = decide (c < 55296 ∨ (57344 ≤ c ∧ c ≤ 1114111)) := by
  unfold Utf8.valid; rw [Bool.eq_iff_iff]; simp; omega
theorem eq_dec (a n : Nat) : (a == n) = decide (a = n) := rfl
theorem u8_eq (a : UInt8) (n : Nat) (h : n < 256) : a = UInt8.ofNat n ↔ a.toNat = n := by
  rw [← UInt8.toNat_inj]; simp; omega
/-- The decoding of four bytes, as numbers; n: how many of them are there. -/
def d4 (n A B C D : Nat) : Nat × Nat :=
  if A < 128 then (A, 1)
  else if A / 32 = 6 ∧ (1 < n ∧ B / 64 = 2) then (if A % 32 * 64 + B % 64 ≥ 128 then (A % 32 * 64 + B % 64, 2) else (65533, 1))
  else if (A / 16 = 14 ∧ (1 < n ∧ B / 64 = 2)) ∧ (2 < n ∧ C / 64 = 2) then
    (if A % 16 * 4096 + B % 64 * 64 + C % 64 ≥ 2048 ∧ (A % 16 * 4096 + B % 64 * 64 + C % 64 < 55296 ∨ (57344 ≤ A % 16 * 4096 + B % 64 * 64 + C % 64 ∧ A % 16 * 4096 + B % 64 * 64 + C % 64 ≤ 1114111)) then (A % 16 * 4096 + B % 64 * 64 + C % 64, 3) else (65533, 1))
  else if ((A / 8 = 30 ∧ (1 < n ∧ B / 64 = 2)) ∧ (2 < n ∧ C / 64 = 2)) ∧ (3 < n ∧ D / 64 = 2) then
    (if A % 8 * 262144 + B % 64 * 4096 + C % 64 * 64 + D % 64 ≥ 65536 ∧ (A % 8 * 262144 + B % 64 * 4096 + C % 64 * 64 + D % 64 < 55296 ∨ (57344 ≤ A % 8 * 262144 + B % 64 * 4096 + C % 64 * 64 + D % 64 ∧ A % 8 * 262144 + B % 64 * 4096 + C % 64 * 64 + D % 64 ≤ 1114111)) then (A % 8 * 262144 + B % 64 * 4096 + C % 64 * 64 + D % 64, 4) else (65533, 1))
  else (65533, 1)
theorem dL_d4 (l : List UInt8) : dL l = d4 l.length (l.getD 0 0).toNat (l.getD 1 0).toNat (l.getD 2 0).toNat (l.getD 3 0).toNat := by
  unfold dL d4
  simp only [valid_dec, eq_dec, Utf8.runeError, Bool.and_eq_true, decide_eq_true_eq]
/-- How many bytes the rune has that begins four bytes; n: how many of them are there. -/
def r4 (n A B C D : Nat) : Nat :=
  if A < 128 then 1 else if A < 192 then 0
  else if A < 224 then (if (1 < n ∧ 128 ≤ B ∧ B < 192) ∧ 128 ≤ (A - 192) * 64 + (B - 128) then 2 else 0)
  else if A < 240 then (if ((1 < n ∧ 128 ≤ B ∧ B < 192) ∧ 2 < n ∧ 128 ≤ C ∧ C < 192) ∧ 2048 ≤ ((A - 224) * 64 + (B - 128)) * 64 + (C - 128) ∧ (((A - 224) * 64 + (B - 128)) * 64 + (C - 128) < 55296 ∨ 57344 ≤ ((A - 224) * 64 + (B - 128)) * 64 + (C - 128)) then 3 else 0)
  else if A < 248 then (if (((1 < n ∧ 128 ≤ B ∧ B < 192) ∧ 2 < n ∧ 128 ≤ C ∧ C < 192) ∧ 3 < n ∧ 128 ≤ D ∧ D < 192) ∧ 65536 ≤ (((A - 240) * 64 + (B - 128)) * 64 + (C - 128)) * 64 + (D - 128) ∧ (((A - 240) * 64 + (B - 128)) * 64 + (C - 128)) * 64 + (D - 128) < 1114112 then 4 else 0)
  else 0
theorem go0 (k least n : Nat) (r : List UInt8) : goR k least 0 n r = if n < least ∨ 1114112 ≤ n ∨ (55296 ≤ n ∧ n < 57344) then 0 else k := by rw [goR]
theorem rk_r4 (l : List UInt8) (hl : l ≠ []) : rk l = r4 l.length (l.getD 0 0).toNat (l.getD 1 0).toNat (l.getD 2 0).toNat (l.getD 3 0).toNat := by
  match l, hl with
  | [a], _ => 
    simp only [rk, goR, r4, contB, decide_eq_true_eq, List.getD_cons_zero, List.getD_cons_succ, List.getD_nil, List.length_cons, List.length_nil]
    repeat' split
    all_goals omega
  | [a, b], _ => 
    have hb := b.toNat_lt
    simp only [rk, goR, r4, contB, decide_eq_true_eq, List.getD_cons_zero, List.getD_cons_succ, List.getD_nil, List.length_cons, List.length_nil]
    repeat' split
    all_goals omega
  | [a, b, c], _ =>
    simp only [rk, goR, r4, contB, decide_eq_true_eq, List.getD_cons_zero, List.getD_cons_succ, List.getD_nil, List.length_cons, List.length_nil]
    repeat' split
    all_goals omega
  | a :: b :: c :: d :: r, _ =>
    simp only [rk, goR, r4, contB, decide_eq_true_eq, List.getD_cons_zero, List.getD_cons_succ, List.getD_nil, List.length_cons, List.length_nil]
    repeat' split
    all_goals omega
theorem d4_r4 (n A B C D : Nat) (hA : A < 256) (hB : B < 256) (hC : C < 256) (hD : D < 256) :
    (r4 n A B C D = 0 → d4 n A B C D = (65533, 1) ∧ ¬ (2 < n ∧ A = 239 ∧ B = 191 ∧ C = 189)) ∧ (r4 n A B C D ≠ 0 → (d4 n A B C D).2 = r4 n A B C D ∧ ((d4 n A B C D).1 = 65533 → (2 < n ∧ A = 239 ∧ B = 191 ∧ C = 189))) := by
  by_cases c1 : A < 128
  · simp only [d4, r4, if_pos c1]; simp; omega
  by_cases c2 : A < 192
  · have e1 : ¬ A / 32 = 6 := by omega
    have e2 : ¬ A / 16 = 14 := by omega
    have e3 : ¬ A / 8 = 30 := by omega
    simp only [d4, r4, if_neg c1, if_pos c2, e1, e2, e3]; simp; omega
  by_cases c3 : A < 224
  · have e1 : A / 32 = 6 := by omega
    have e2 : ¬ A / 16 = 14 := by omega
    have e3 : ¬ A / 8 = 30 := by omega
    simp only [d4, r4, if_neg c1, if_neg c2, if_pos c3, e1, e2, e3, true_and, false_and, if_false]
    by_cases c4 : 1 < n ∧ B / 64 = 2
    · rw [if_pos c4]
      have : A % 32 * 64 + B % 64 = (A - 192) * 64 + (B - 128) := by omega
      rw [this]
      split <;> split <;> simp <;> omega
    · rw [if_neg c4, if_neg (by omega)]; simp; omega
  by_cases c4 : A < 240
  · have e1 : ¬ A / 32 = 6 := by omega
    have e2 : A / 16 = 14 := by omega
    have e3 : ¬ A / 8 = 30 := by omega
    simp only [d4, r4, if_neg c1, if_neg c2, if_neg c3, if_pos c4, e1, e2, e3, true_and, false_and, if_false]
    by_cases c5 : (1 < n ∧ B / 64 = 2) ∧ 2 < n ∧ C / 64 = 2
    · rw [if_pos c5]
      have : A % 16 * 4096 + B % 64 * 64 + C % 64 = ((A - 224) * 64 + (B - 128)) * 64 + (C - 128) := by omega
      rw [this]
      split <;> split <;> simp <;> omega
    · rw [if_neg c5, if_neg (by omega)]; simp; omega
  by_cases c5 : A < 248
  · have e1 : ¬ A / 32 = 6 := by omega
    have e2 : ¬ A / 16 = 14 := by omega
    have e3 : A / 8 = 30 := by omega
    simp only [d4, r4, if_neg c1, if_neg c2, if_neg c3, if_neg c4, if_pos c5, e1, e2, e3, true_and, false_and, if_false]
    by_cases c6 : ((1 < n ∧ B / 64 = 2) ∧ 2 < n ∧ C / 64 = 2) ∧ 3 < n ∧ D / 64 = 2
    · rw [if_pos c6]
      have : A % 8 * 262144 + B % 64 * 4096 + C % 64 * 64 + D % 64 = (((A - 240) * 64 + (B - 128)) * 64 + (C - 128)) * 64 + (D - 128) := by omega
      rw [this]
      split <;> split <;> simp <;> omega
    · rw [if_neg c6, if_neg (by omega)]; simp; omega
  · have e1 : ¬ A / 32 = 6 := by omega
    have e2 : ¬ A / 16 = 14 := by omega
    have e3 : ¬ A / 8 = 30 := by omega
    simp only [d4, r4, if_neg c1, if_neg c2, if_neg c3, if_neg c4, if_neg c5, e1, e2, e3]; simp; omega

theorem take3 (l : List UInt8) : l.take 3 = [239, 191, 189] ↔ (2 < l.length ∧ (l.getD 0 0).toNat = 239 ∧ (l.getD 1 0).toNat = 191 ∧ (l.getD 2 0).toNat = 189) := by
  match l with
  | [] => simp
  | [a] => simp
  | [a, b] => simp
  | a :: b :: c :: r =>
    simp only [List.take_succ_cons, List.take_zero, List.cons.injEq, and_true, List.length_cons, List.getD_cons_zero, List.getD_cons_succ]
    rw [show (239 : UInt8) = UInt8.ofNat 239 from rfl, show (191 : UInt8) = UInt8.ofNat 191 from rfl, show (189 : UInt8) = UInt8.ofNat 189 from rfl, u8_eq _ _ (by decide), u8_eq _ _ (by decide), u8_eq _ _ (by decide)]
    omega
theorem dL_rk (l : List UInt8) (hl : l ≠ []) :
    (rk l = 0 → dL l = (65533, 1) ∧ l.take 3 ≠ [239, 191, 189]) ∧ (rk l ≠ 0 → (dL l).2 = rk l ∧ ((dL l).1 = 65533 → l.take 3 = [239, 191, 189])) := by
  rw [rk_r4 l hl, dL_d4, Ne, take3]
  exact d4_r4 _ _ _ _ _ (UInt8.toNat_lt _) (UInt8.toNat_lt _) (UInt8.toNat_lt _) (UInt8.toNat_lt _)
end Go.Proofs.YtdogddliifbjnaaGreat.Ut
