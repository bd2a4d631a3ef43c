/- Tags that were issued: rows of what was issued, and what a table keeps of them. Mathematics, over Dice's Mix. -/
import Derived.Test.YtldjefnijkefcaaDcMix
namespace Go.Proofs.Ytldjefnijkefcaa.Mc
open Dc
set_option linter.unusedVariables false

/-- What was issued: for whom, which epoch, which tag, whether it is known. -/
structure MRow where
  o : Nat
  e : Nat
  t : Nat
  k : Bool
def rw1 (r : MRow) : List Value := [.int .i64 (r.o : Int), .int .i64 (r.e : Int), .int .u64 (r.t : Int), .bool r.k]
theorem rw1_len (r : MRow) : (rw1 r).length = 4 := rfl
theorem rw1_cells (r : MRow) : ∀ z ∈ rw1 r, z.oneCell' = true := fun z hz => by
  simp [rw1] at hz
  rcases hz with rfl | rfl | rfl | rfl <;> rfl
def rC (L : List MRow) : List Value := L.flatMap rw1
/-- The tag of a number, an epoch, an owner. -/
def tagN (n e o : Nat) : Nat := if mixN n (256 * e + o) = 0 then 1 else mixN n (256 * e + o)
theorem tag_lt (n e o : Nat) : tagN n e o < 18446744073709551616 := by
  unfold tagN
  split
  · decide
  · exact mix_lt _ _
theorem tag_pos (n e o : Nat) : tagN n e o ≠ 0 := by
  unfold tagN
  split <;> omega
/-- How often something was issued for an owner. -/
def epN (L : List MRow) (o : Int) : Nat := L.countP fun r => decide ((r.o : Int) = o)
/-- With nothing of an owner known. -/
def rvR (o : Int) (r : MRow) : MRow := if (r.o : Int) = o then { r with k := false } else r
def rvL (L : List MRow) (o : Int) : List MRow := L.map (rvR o)
def waB (L : List MRow) (o : Int) : Bool := L.any fun r => decide ((r.o : Int) = o) && r.k
/-- Is a row known, and of that owner, epoch, tag? -/
def isB (o e t : Int) (r : MRow) : Bool := r.k && decide ((r.o : Int) = o) && decide ((r.e : Int) = e) && decide ((r.t : Int) = t)
def knL (L : List MRow) (o e t : Int) : Bool := L.any (isB o e t)
def isL (L : List MRow) (o n : Nat) : List MRow := rvL L o ++ [⟨o, epN L o + 1, tagN n (epN L o + 1) o, true⟩]
def upN (X : Nat → Nat) (k v : Nat) : Nat → Nat := fun i => if i = k then v else X i
theorem upN_same (X : Nat → Nat) (k v : Nat) : upN X k v k = v := by unfold upN; rw [if_pos rfl]
theorem upN_other (X : Nat → Nat) {k i : Nat} (v : Nat) (h : i ≠ k) : upN X k v i = X i := by unfold upN; rw [if_neg h]

theorem rv_len (L : List MRow) (o : Int) : (rvL L o).length = L.length := by simp [rvL]
theorem ep_rv (L : List MRow) (o p : Int) : epN (rvL L o) p = epN L p := by
  unfold epN rvL
  rw [List.countP_map]
  congr 1
  funext r
  unfold rvR
  simp only [Function.comp]
  split <;> rfl
theorem ep_le (L : List MRow) (o : Int) : epN L o ≤ L.length := List.countP_le_length
theorem is_len (L : List MRow) (o n : Nat) : (isL L o n).length = L.length + 1 := by simp [isL, rv_len]
theorem ep_is (L : List MRow) (o n : Nat) (p : Int) : epN (isL L o n) p = if (o : Int) = p then epN L p + 1 else epN L p := by
  have h : epN (isL L o n) p = epN (rvL L o) p + List.countP (fun r : MRow => decide ((r.o : Int) = p)) [⟨o, epN L o + 1, tagN n (epN L o + 1) o, true⟩] := List.countP_append
  rw [h, ep_rv]
  by_cases e : (o : Int) = p
  · simp [e]
  · simp [e]

/-- What a table keeps of all that was issued: the epochs, and the tag that is known (0: none). -/
structure Rs (L : List MRow) (E T : Nat → Nat) : Prop where
  ep : ∀ o, o ≤ 8 → E o = epN L o
  own : ∀ r, r ∈ L → r.o ≤ 8
  tag : ∀ r, r ∈ L → r.t ≠ 0 ∧ r.t < 18446744073709551616
  low : ∀ r, r ∈ L → r.e ≤ E r.o
  kn : ∀ r, r ∈ L → r.k = true → r.e = E r.o ∧ r.t = T r.o
  has : ∀ o, o ≤ 8 → T o ≠ 0 → ∃ r, r ∈ L ∧ r.o = o ∧ r.k = true
theorem rs_nil : Rs [] (fun _ => 0) (fun _ => 0) := ⟨fun o _ => rfl, fun r h => (by cases h), fun r h => (by cases h), fun r h => (by cases h), fun r h => (by cases h), fun o _ h => absurd rfl h⟩
theorem rv_mem {L : List MRow} {o : Int} {r : MRow} (h : r ∈ rvL L o) : ∃ q, q ∈ L ∧ r = rvR o q := by
  obtain ⟨q, hq, rfl⟩ := List.mem_map.1 h
  exact ⟨q, hq, rfl⟩
theorem rvR_o (o : Int) (q : MRow) : (rvR o q).o = q.o ∧ (rvR o q).e = q.e ∧ (rvR o q).t = q.t := by
  unfold rvR
  split <;> exact ⟨rfl, rfl, rfl⟩
theorem rvR_k {o : Int} {q : MRow} (h : (rvR o q).k = true) : (q.o : Int) ≠ o ∧ q.k = true := by
  unfold rvR at h
  split at h
  · cases h
  · exact ⟨by assumption, h⟩
/-- What is known, by the rows, and by the table. -/
theorem rs_knows {L : List MRow} {E T : Nat → Nat} (h : Rs L E T) (o e t : Int) : knL L o e t = decide (0 ≤ o ∧ o ≤ 8 ∧ t ≠ 0 ∧ (E o.toNat : Int) = e ∧ (T o.toNat : Int) = t) := by
  by_cases hc : 0 ≤ o ∧ o ≤ 8 ∧ t ≠ 0 ∧ (E o.toNat : Int) = e ∧ (T o.toNat : Int) = t
  · rw [decide_eq_true hc]
    obtain ⟨h1, h2, h3, h4, h5⟩ := hc
    obtain ⟨r, hr, ho, hk⟩ := h.has o.toNat (by omega) (by omega)
    obtain ⟨k1, k2⟩ := h.kn r hr hk
    refine List.any_eq_true.2 ⟨r, hr, ?_⟩
    unfold isB
    rw [hk, decide_eq_true (by omega), decide_eq_true (by rw [k1, ho]; exact h4), decide_eq_true (by rw [k2, ho]; exact h5)]
    rfl
  · rw [decide_eq_false hc]
    refine Bool.eq_false_iff.2 fun ht => hc ?_
    obtain ⟨r, hr, hi⟩ := List.any_eq_true.1 ht
    unfold isB at hi
    simp only [Bool.and_eq_true, decide_eq_true_eq] at hi
    obtain ⟨⟨⟨hk, h1⟩, h2⟩, h3⟩ := hi
    obtain ⟨k1, k2⟩ := h.kn r hr hk
    have h8 := h.own r hr
    have h0 := (h.tag r hr).1
    have : o.toNat = r.o := by omega
    rw [this, ← k1, ← k2]
    exact ⟨by omega, by omega, by omega, h2, h3⟩
theorem rs_was {L : List MRow} {E T : Nat → Nat} (h : Rs L E T) (o : Int) : waB L o = decide (0 ≤ o ∧ o ≤ 8 ∧ T o.toNat ≠ 0) := by
  by_cases hc : 0 ≤ o ∧ o ≤ 8 ∧ T o.toNat ≠ 0
  · rw [decide_eq_true hc]
    obtain ⟨h1, h2, h3⟩ := hc
    obtain ⟨r, hr, ho, hk⟩ := h.has o.toNat (by omega) h3
    exact List.any_eq_true.2 ⟨r, hr, by rw [decide_eq_true (by omega), hk]; rfl⟩
  · rw [decide_eq_false hc]
    refine Bool.eq_false_iff.2 fun ht => hc ?_
    obtain ⟨r, hr, hi⟩ := List.any_eq_true.1 ht
    simp only [Bool.and_eq_true, decide_eq_true_eq] at hi
    obtain ⟨h1, hk⟩ := hi
    obtain ⟨k1, k2⟩ := h.kn r hr hk
    have h8 := h.own r hr
    have h0 := (h.tag r hr).1
    have : o.toNat = r.o := by omega
    rw [this, ← k2]
    exact ⟨by omega, by omega, h0⟩
/-- Behind a Revoke of an owner. -/
theorem rs_revoke {L : List MRow} {E T : Nat → Nat} (h : Rs L E T) (o : Nat) (ho : o ≤ 8) : Rs (rvL L o) E (upN T o 0) where
  ep p hp := by rw [ep_rv]; exact h.ep p hp
  own r hr := by
    obtain ⟨q, hq, rfl⟩ := rv_mem hr
    rw [(rvR_o _ q).1]; exact h.own q hq
  tag r hr := by
    obtain ⟨q, hq, rfl⟩ := rv_mem hr
    rw [(rvR_o _ q).2.2]; exact h.tag q hq
  low r hr := by
    obtain ⟨q, hq, rfl⟩ := rv_mem hr
    rw [(rvR_o _ q).1, (rvR_o _ q).2.1]; exact h.low q hq
  kn r hr hk := by
    obtain ⟨q, hq, rfl⟩ := rv_mem hr
    obtain ⟨h1, h2⟩ := rvR_k hk
    rw [(rvR_o _ q).1, (rvR_o _ q).2.1, (rvR_o _ q).2.2, upN_other _ _ (by omega)]
    exact h.kn q hq h2
  has p hp h0 := by
    have hne : p ≠ o := fun e => h0 (by rw [e, upN_same])
    rw [upN_other _ _ hne] at h0
    obtain ⟨r, hr, hro, hk⟩ := h.has p hp h0
    refine ⟨rvR o r, List.mem_map.2 ⟨r, hr, rfl⟩, by rw [(rvR_o _ r).1]; exact hro, ?_⟩
    unfold rvR
    rw [if_neg (by omega)]; exact hk
/-- A Revoke of nobody changes nothing. -/
theorem rv_none {L : List MRow} {E T : Nat → Nat} (h : Rs L E T) {o : Int} (ho : ¬ (0 ≤ o ∧ o ≤ 8)) : rvL L o = L := by
  have : ∀ r, r ∈ L → rvR o r = r := fun r hr => by
    have := h.own r hr
    unfold rvR
    rw [if_neg (by omega)]
  unfold rvL
  conv => rhs; rw [← List.map_id L]
  exact List.map_congr_left this
theorem wa_none {L : List MRow} {E T : Nat → Nat} (h : Rs L E T) {o : Int} (ho : ¬ (0 ≤ o ∧ o ≤ 8)) : waB L o = false := by
  rw [rs_was h, decide_eq_false (fun e => ho ⟨e.1, e.2.1⟩)]
/-- Behind a Revoke of one who has no tag. -/
theorem rs_revoke0 {L : List MRow} {E T : Nat → Nat} (h : Rs L E T) (o : Nat) (ho : o ≤ 8) (h0 : T o = 0) : Rs (rvL L o) E T := by
  have := rs_revoke h o ho
  have e : upN T o 0 = T := by
    funext p
    unfold upN
    split
    · rename_i e; rw [e, h0]
    · rfl
  rwa [e] at this
/-- Behind an Issue. -/
theorem rs_issue {L : List MRow} {E T : Nat → Nat} (h : Rs L E T) (o n : Nat) (ho : o ≤ 8) : Rs (isL L o n) (upN E o (E o + 1)) (upN T o (tagN n (E o + 1) o)) := by
  have h1 := rs_revoke h o ho
  have he := h.ep o ho
  constructor
  · intro p hp
    rw [ep_is]
    by_cases e : p = o
    · subst e; rw [if_pos rfl, upN_same, he]
    · rw [if_neg (by omega), upN_other _ _ e]; exact h.ep p hp
  · intro r hr
    rcases List.mem_append.1 hr with hr | hr
    · exact h1.own r hr
    · obtain rfl := List.mem_singleton.1 hr; exact ho
  · intro r hr
    rcases List.mem_append.1 hr with hr | hr
    · exact h1.tag r hr
    · obtain rfl := List.mem_singleton.1 hr; exact ⟨tag_pos _ _ _, tag_lt _ _ _⟩
  · intro r hr
    rcases List.mem_append.1 hr with hr | hr
    · have := h1.low r hr
      by_cases e : r.o = o
      · rw [e, upN_same]; rw [e] at this; omega
      · rw [upN_other _ _ e]; exact this
    · obtain rfl := List.mem_singleton.1 hr
      simp only [upN_same]; omega
  · intro r hr hk
    rcases List.mem_append.1 hr with hr | hr
    · obtain ⟨q, hq, rfl⟩ := rv_mem hr
      obtain ⟨h2, h3⟩ := rvR_k hk
      rw [(rvR_o _ q).1, (rvR_o _ q).2.1, (rvR_o _ q).2.2, upN_other _ _ (by omega), upN_other _ _ (by omega)]
      exact h.kn q hq h3
    · obtain rfl := List.mem_singleton.1 hr
      simp only [upN_same, he]
      exact ⟨trivial, trivial⟩
  · intro p hp h0
    by_cases e : p = o
    · exact ⟨_, List.mem_append.2 (.inr (List.mem_singleton.2 rfl)), e.symm, rfl⟩
    · rw [upN_other _ _ e] at h0
      obtain ⟨r, hr, hro, hk⟩ := h1.has p hp (by rw [upN_other _ _ e]; exact h0)
      exact ⟨r, List.mem_append.2 (.inl hr), hro, hk⟩
end Go.Proofs.Ytldjefnijkefcaa.Mc
