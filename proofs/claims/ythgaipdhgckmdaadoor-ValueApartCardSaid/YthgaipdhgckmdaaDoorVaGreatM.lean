/- Values: which are too great to be asked for, and what is small of those that are not. -/
import Derived.Test.YthgaipdhgckmdaaDoorVaOpen
import Derived.Test.YthgaipdhgckmdaaDoorCmW
namespace Go.Proofs.YthgaipdhgckmdaaDoor.Va
open Go.RowKit Cm
set_option linter.unusedVariables false
set_option linter.unusedSimpArgs false

mutual
def grV : Va → Nat → Bool | .mk _ _ s _ _ ts _ _ is, d => decide (40 < d) || decide (60 < is.length) || decide (300 < ts.length) || decide (2000 < s.size) || grsV is (d + 1 + is.length / 4) || decide (20000 < szsV is)
def grsV : List Va → Nat → Bool
  | [], _ => false
  | v :: l, d => grV v d || grsV l d
end
theorem grV_eq (k n : Int) (s : ByteArray) (tb : Option Addr) (tc : Nat) (ts : List Int) (io : Option Addr) (ic : Nat) (is : List Va) (d : Nat) : grV (.mk k n s tb tc ts io ic is) d =
    (decide (40 < d) || decide (60 < is.length) || decide (300 < ts.length) || decide (2000 < s.size) || grsV is (d + 1 + is.length / 4) || decide (20000 < szsV is)) := by conv => lhs; unfold grV
theorem grs_iff : ∀ (l : List Va) (d : Nat), grsV l d = false ↔ ∀ (i : Nat) (v : Va), l[i]? = some v → grV v d = false
  | [], d => ⟨fun _ i v h => by simp at h, fun _ => by unfold grsV; rfl⟩
  | x :: l, d => by
    have ih := grs_iff l d
    have e : grsV (x :: l) d = (grV x d || grsV l d) := by conv => lhs; unfold grsV
    rw [e, Bool.or_eq_false_iff, ih]
    refine ⟨fun ⟨h1, h2⟩ i v h => ?_, fun h => ⟨h 0 x rfl, fun i v hv => h (i + 1) v (by simpa using hv)⟩⟩
    cases i with
    | zero => obtain rfl : x = v := by simpa using h
              exact h1
    | succ i => exact h2 i v (by simpa using h)
theorem grs_true {l : List Va} {d i : Nat} {v : Va} (h : l[i]? = some v) (hv : grV v d = true) : grsV l d = true := by
  cases hb : grsV l d with
  | true => rfl
  | false => rw [(grs_iff l d).1 hb i v h] at hv; cases hv
/-- A value that is not too great. -/
inductive Nc : Va → Prop
  | mk (k n : Int) (s : ByteArray) (tb : Option Addr) (tc : Nat) (ts : List Int) (io : Option Addr) (ic : Nat) (is : List Va) (hi : is.length ≤ 60) (ht : ts.length ≤ 300) (hs : s.size ≤ 2000) (hz : szV (.mk k n s tb tc ts io ic is) ≤ 22008) (hd : dpV (.mk k n s tb tc ts io ic is) ≤ 41)
      (hc : ∀ (i : Nat) (v : Va), is[i]? = some v → Nc v) : Nc (.mk k n s tb tc ts io ic is)
theorem Nc.size {v : Va} (h : Nc v) : szV v ≤ 22008 := by cases h; assumption
theorem Nc.deep {v : Va} (h : Nc v) : dpV v ≤ 41 := by cases h; assumption
theorem Nc.child {k n : Int} {s : ByteArray} {tb : Option Addr} {tc i : Nat} {ts : List Int} {io : Option Addr} {ic : Nat} {is : List Va} {v : Va} (h : Nc (.mk k n s tb tc ts io ic is)) (hi : is[i]? = some v) : Nc v := by
  cases h with
  | mk _ _ _ _ _ _ _ _ _ _ _ _ _ _ hc => exact hc i v hi
theorem Nc.room {k n : Int} {s : ByteArray} {tb : Option Addr} {tc : Nat} {ts : List Int} {io : Option Addr} {ic : Nat} {is : List Va} (h : Nc (.mk k n s tb tc ts io ic is)) : is.length ≤ 60 ∧ ts.length ≤ 300 ∧ s.size ≤ 2000 := by
  cases h; exact ⟨by assumption, by assumption, by assumption⟩
mutual
theorem gr_small : ∀ (v : Va) (d : Nat), grV v d = false → Nc v ∧ dpV v + d ≤ 41
  | .mk k n s tb tc ts io ic is, d, h => by
    rw [grV_eq] at h
    simp only [Bool.or_eq_false_iff, decide_eq_false_iff_not] at h
    obtain ⟨⟨⟨⟨⟨h1, h2⟩, h3⟩, h4⟩, h5⟩, h6⟩ := h
    obtain ⟨g1, g2⟩ := grs_small is _ h5
    have hd : dpV (.mk k n s tb tc ts io ic is) + d ≤ 41 := by rw [dpV_eq]; omega
    exact ⟨.mk k n s tb tc ts io ic is (by omega) (by omega) (by omega) (by rw [szV_eq]; omega) (by omega) g1, hd⟩
theorem grs_small : ∀ (l : List Va) (d : Nat), grsV l d = false → (∀ (i : Nat) (v : Va), l[i]? = some v → Nc v) ∧ (dpsV l = 0 ∨ dpsV l + d ≤ 41)
  | [], d, h => ⟨fun i v h => by simp at h, .inl (by unfold dpsV; rfl)⟩
  | x :: l, d, h => by
    have e : grsV (x :: l) d = (grV x d || grsV l d) := by conv => lhs; unfold grsV
    rw [e, Bool.or_eq_false_iff] at h
    have h1 := gr_small x d h.1
    have h2 := grs_small l d h.2
    refine ⟨fun i v hi => ?_, ?_⟩
    · cases i with
      | zero => obtain rfl : x = v := by simpa using hi
                exact h1.1
      | succ i => exact h2.1 i v (by simpa using hi)
    · have := h1.2
      have e2 : dpsV (x :: l) = max (dpV x) (dpsV l) := by conv => lhs; unfold dpsV
      rw [e2]
      rcases h2.2 with h0 | h0 <;> omega
end
theorem min_next (a b : Nat) : min (min a 100000 + b) 100000 = min (a + b) 100000 := by omega
theorem dp_posV (v : Va) : 0 < dpV v := by cases v; rw [dpV_eq]; omega
theorem szs_le {l : List Va} {i : Nat} {v : Va} (h : l[i]? = some v) : szsV (l.take i) + szV v ≤ szsV l := by
  rw [← szs_take l i v h]
  have : ∀ (l : List Va) (i : Nat), szsV (l.take i) ≤ szsV l := fun l => by
    induction l with
    | nil => intro i; simp
    | cons x l ih =>
      intro i
      cases i with
      | zero => simp [szsV]
      | succ i =>
        have := ih i
        simp only [List.take_succ_cons, szsV]; omega
  exact this l _
end Go.Proofs.YthgaipdhgckmdaaDoor.Va
