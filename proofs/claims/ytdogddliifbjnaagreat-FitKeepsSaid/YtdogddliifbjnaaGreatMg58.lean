/- Values: the contract of the reference's keys. -/
import Derived.Test.YtdogddliifbjnaaGreatMg57
namespace Go.Proofs.YtdogddliifbjnaaGreat.Va
open Go.RowKit Cm
set_option linter.unusedVariables false
set_option linter.unusedSimpArgs false

theorem item_of {l : List Va} {i : Nat} {v : Va} (h : l[i]? = some v) : l.getD i default = v := by rw [List.getD, h]; rfl
theorem kys_false {l : List Va} {j : Nat} (hj : 2 * j + 1 < l.length) (h : kyBad l (2 * j) = true) : kysB l = false := by
  unfold kysB
  rw [decide_eq_false (fun hh => by rw [hh j (by omega) hj] at h; cases h)]
  rfl

theorem ten_below {w w' : World} {Ab Ao Bb Bo : Nat} {As Bs : Option Nat} {x0 x1 x2 x3 x4 y0 y1 y2 y3 y4 : Value} (hb : Below w.heap.size w w') (ha : Ab < w.heap.size) (hc : Bb < w.heap.size)
    (h : w.cell? ⟨Ab, Ao, As⟩ = some x0 ∧ w.cell? ⟨Ab, Ao + 1, none⟩ = some x1 ∧ w.cell? ⟨Ab, Ao + 2, none⟩ = some x2 ∧ w.cell? ⟨Ab, Ao + 3, none⟩ = some x3 ∧ w.cell? ⟨Ab, Ao + 4, none⟩ = some x4 ∧
      w.cell? ⟨Bb, Bo, Bs⟩ = some y0 ∧ w.cell? ⟨Bb, Bo + 1, none⟩ = some y1 ∧ w.cell? ⟨Bb, Bo + 2, none⟩ = some y2 ∧ w.cell? ⟨Bb, Bo + 3, none⟩ = some y3 ∧ w.cell? ⟨Bb, Bo + 4, none⟩ = some y4) :
    w'.cell? ⟨Ab, Ao, As⟩ = some x0 ∧ w'.cell? ⟨Ab, Ao + 1, none⟩ = some x1 ∧ w'.cell? ⟨Ab, Ao + 2, none⟩ = some x2 ∧ w'.cell? ⟨Ab, Ao + 3, none⟩ = some x3 ∧ w'.cell? ⟨Ab, Ao + 4, none⟩ = some x4 ∧
      w'.cell? ⟨Bb, Bo, Bs⟩ = some y0 ∧ w'.cell? ⟨Bb, Bo + 1, none⟩ = some y1 ∧ w'.cell? ⟨Bb, Bo + 2, none⟩ = some y2 ∧ w'.cell? ⟨Bb, Bo + 3, none⟩ = some y3 ∧ w'.cell? ⟨Bb, Bo + 4, none⟩ = some y4 := by
  obtain ⟨h0, h1, h2, h3, h4, g0, g1, g2, g3, g4⟩ := h
  exact ⟨(hb.cell ha).trans h0, (hb.cell ha).trans h1, (hb.cell ha).trans h2, (hb.cell ha).trans h3, (hb.cell ha).trans h4, (hb.cell hc).trans g0, (hb.cell hc).trans g1, (hb.cell hc).trans g2, (hb.cell hc).trans g3, (hb.cell hc).trans g4⟩

end Go.Proofs.YtdogddliifbjnaaGreat.Va
/- Values: the contract of the reference's one. (Printed by gen/one.py.) -/
namespace Go.Proofs.YtdogddliifbjnaaGreat.Va
open Go.RowKit Cm
set_option linter.unusedVariables false
set_option linter.unusedSimpArgs false

theorem txt_nil {s : ByteArray} (h : ¬ s = ⟨#[]⟩) : (s.toList == []) = false := by
  have h2 : ¬ s.toList = [] := fun e => h (bytes_eq (by rw [← ByteArray.toList_eq, e]))
  simp [h2]
theorem nil_len {ts : List Int} : decide (ts = []) = decide (ts.length = 0) := by cases ts <;> simp
/-- What a kind asks for, in the order of the text. -/
theorem one_1 (R : ByteArray → Bool) (n : Int) (s : ByteArray) (ts : List Int) (is : List Va) : oneB R 1 n s ts is = ((decide (ts.length = 0) && decide (is.length = 0)) && decide (s = ⟨#[]⟩) && (decide (n = 0) || decide (n = 1))) := by unfold oneB; rw [if_pos rfl, nil_len]
theorem one_2 (R : ByteArray → Bool) (n : Int) (s : ByteArray) (ts : List Int) (is : List Va) : oneB R 2 n s ts is = ((decide (ts.length = 0) && decide (is.length = 0)) && decide (s = ⟨#[]⟩)) := by unfold oneB; simp [nil_len]
theorem one_3 (R : ByteArray → Bool) (n : Int) (s : ByteArray) (ts : List Int) (is : List Va) : oneB R 3 n s ts is = ((decide (ts.length = 0) && decide (is.length = 0)) && decide (s = ⟨#[]⟩)) := by unfold oneB; simp [nil_len]
theorem one_4 (R : ByteArray → Bool) (n : Int) (s : ByteArray) (ts : List Int) (is : List Va) : oneB R 4 n s ts is = ((decide (ts.length = 0) && decide (is.length = 0)) && decide (n = 0) && R s) := by unfold oneB; simp [nil_len]
theorem one_5 (R : ByteArray → Bool) (n : Int) (s : ByteArray) (ts : List Int) (is : List Va) : oneB R 5 n s ts is = ((decide (ts.length = 0) && decide (is.length = 0)) && decide (n = 0)) := by unfold oneB; simp [nil_len]
theorem one_6 (R : ByteArray → Bool) (n : Int) (s : ByteArray) (ts : List Int) (is : List Va) : oneB R 6 n s ts is = ((decide (ts.length = 0) && decide (is.length = 0)) && decide (s = ⟨#[]⟩) && (decide (0 ≤ n) && decide (n ≤ 9999))) := by unfold oneB; simp [nil_len]
theorem one_7 (R : ByteArray → Bool) (n : Int) (s : ByteArray) (ts : List Int) (is : List Va) : oneB R 7 n s ts is = (decide (n = 0) && decide (s = ⟨#[]⟩) && decide (ts.length = 0)) := by unfold oneB; simp [nil_len]
theorem one_8 (R : ByteArray → Bool) (n : Int) (s : ByteArray) (ts : List Int) (is : List Va) : oneB R 8 n s ts is = (decide (n = 0) && decide (s = ⟨#[]⟩) && decide (ts.length = 0) && kysB is) := by unfold oneB; simp [nil_len]
theorem one_9 (R : ByteArray → Bool) (n : Int) (s : ByteArray) (ts : List Int) (is : List Va) : oneB R 9 n s ts is = (decide (n = 0) && decide (s = ⟨#[]⟩) && decide (ts.length = is.length) && tgsB 0 ts) := by unfold oneB; simp
theorem one_10 (R : ByteArray → Bool) (n : Int) (s : ByteArray) (ts : List Int) (is : List Va) : oneB R 10 n s ts is = (decide (n = 0) && decide (s = ⟨#[]⟩) && decide (ts.length = 1) && decide (is.length = 1) && tgsB 0 ts) := by unfold oneB; simp
theorem one_no (R : ByteArray → Bool) {k : Int} (n : Int) (s : ByteArray) (ts : List Int) (is : List Va) (h : ¬ (1 ≤ k ∧ k ≤ 10)) : oneB R k n s ts is = false := by
  unfold oneB
  rw [if_neg (by omega), if_neg (by omega), if_neg (by omega), if_neg (by omega), if_neg (by omega), if_neg (by omega), if_neg (by omega), if_neg (by omega), if_neg (by omega)]

end Go.Proofs.YtdogddliifbjnaaGreat.Va
/- Values: the contract of the reference's Well. -/
namespace Go.Proofs.YtdogddliifbjnaaGreat.Va
open Go.RowKit Cm
set_option linter.unusedVariables false
set_option linter.unusedSimpArgs false

theorem wes_false {R : ByteArray → Bool} {l : List Va} {i : Nat} {v : Va} (hv : l[i]? = some v) (h : weV R v = false) : wesV R l = false := by
  cases hb : wesV R l with
  | false => rfl
  | true => rw [(wes_iff R l).1 hb i v hv] at h; cases h

end Go.Proofs.YtdogddliifbjnaaGreat.Va
