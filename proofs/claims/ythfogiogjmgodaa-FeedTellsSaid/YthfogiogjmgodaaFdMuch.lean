/- Feeds: the law's much: a list of texts that came in, how much it is. -/
import Derived.Test.YthfogiogjmgodaaFdOwn
namespace Go.Proofs.Ythfogiogjmgodaa.Fd
open Go.RowKit Fr Cm
set_option linter.unusedVariables false
set_option linter.unusedSimpArgs false

/-- A slice's texts. -/
def Tx (o : Option Addr) (n : Nat) (X : Nat → ByteArray) (w : World) : Prop := ∀ i, i < n → ∃ a, o = some a ∧ a.block < w.heap.size ∧ w.cell? (a.add i) = some (.string (X i)) ∧ (X i).size ≤ 140737488355328
theorem Tx.below {o : Option Addr} {n : Nat} {X : Nat → ByteArray} {w w' : World} (h : Tx o n X w) (hb : Below w.heap.size w w') : Tx o n X w' := fun i hi => by
  obtain ⟨a, h1, h2, h3, h4⟩ := h i hi
  exact ⟨a, h1, Nat.lt_of_lt_of_le h2 hb.size, by rw [hb.cell (p := a.add i) (World.block_lt_of_cell? w _ h3)]; exact h3, h4⟩
theorem Tx.keep {o : Option Addr} {n m : Nat} {X : Nat → ByteArray} {w w' : World} (h : Tx o n X w) (hb : Below w.heap.size w w') (i : Nat) (hi : i < n) : ∃ a, o = some a ∧ w'.cell? (a.add i) = some (.string (X i)) ∧ (X i).size ≤ 140737488355328 := by
  obtain ⟨a, h1, h2, h3, h4⟩ := (h.below hb) i hi
  exact ⟨a, h1, h3, h4⟩
/-- How many bytes they are. -/
def smZ (X : Nat → ByteArray) : Nat → Nat
  | 0 => 0
  | n + 1 => smZ X n + (X n).size
theorem smZ_mono (X : Nat → ByteArray) (k n : Nat) (h : k ≤ n) : smZ X k ≤ smZ X n := by
  induction n with
  | zero => have : k = 0 := by omega
            subst this; exact Nat.le_refl _
  | succ n ih =>
    by_cases e : k = n + 1
    · subst e; exact Nat.le_refl _
    · have := ih (by omega)
      show _ ≤ smZ X n + _
      omega
theorem smZ_at (X : Nat → ByteArray) (k n : Nat) (h : k < n) : (X k).size ≤ smZ X n := by
  have := smZ_mono X (k + 1) n h
  have e : smZ X (k + 1) = smZ X k + (X k).size := rfl
  omega

def muB (X : Nat → ByteArray) (n : Nat) : Bool := decide (200 < n ∨ 20000 < smZ X n)
set_option maxRecDepth 100000 in
set_option maxHeartbeats 1000000 in
theorem much_any (o : Option Addr) (n cap : Nat) (X : Nat → ByteArray) (w : World) (hn : n ≤ maxLen) (h : Tx o n X w) :
    Calls Try.prog 6 #[.slice o n cap] w fun e w' => e = .returned (.bool (muB X n)) ∧ w = w' := by
  have hn2 : n ≤ 9223372036854775807 := by unfold maxLen at hn; omega
  have HX : Hid (Tx o n X w) := h
  clear h hn
  go_enter Try.func6, Try.ntmps6
  go_wp2
  go_loop [3, 4] (fun c i => ∃ k A : Nat, k ≤ n ∧ i = .int .i64 (k : Nat) ∧ c = .int .i64 (A : Nat) ∧ A ≤ smZ X k ∧ A ≤ 1048576 ∧ (smZ X k ≤ A ∨ 1048576 ≤ A)) (fun _ i => n - (intOf i).toNat)
  case atStart => exact ⟨0, 0, by omega, rfl, rfl, by omega, by omega, .inl (Nat.le_refl _)⟩
  case round =>
    obtain ⟨k, A, hk, rfl, rfl, h1, h2, h3⟩ := hrel
    by_cases hlt : k < n
    · have hltI : (k : Int) < (n : Int) := by omega
      obtain ⟨a, rfl, _, hc, hz⟩ := HX.out k hlt
      obtain ⟨A', hA⟩ : ∃ A' : Nat, min ((A : Int) + ((X k).size : Int)) 1048576 = (A' : Int) := ⟨(min ((A : Int) + ((X k).size : Int)) 1048576).toNat, by omega⟩
      have hz2 : (X k).size ≤ 9223372036854775807 := by omega
      have e : smZ X (k + 1) = smZ X k + (X k).size := rfl
      have hA2 := Lib.hid (show A' ≤ smZ X (k + 1) ∧ A' ≤ 1048576 ∧ (smZ X (k + 1) ≤ A' ∨ 1048576 ≤ A') by omega)
      clear e
      go_wp2
      go_round
      case rel => exact ⟨k + 1, A', by omega, by go_num, rfl, hA2.out.1, hA2.out.2.1, hA2.out.2.2⟩
      case measure => simp [intOf]; omega
    · have hltI : ¬ (k : Int) < (n : Int) := by omega
      obtain rfl : k = n := by omega
      by_cases h200 : 200 < k
      · have h200I : (200 : Int) < (k : Int) := by omega
        have HM := Lib.hid (show muB X k = true from decide_eq_true (.inl h200))
        go_wp2
        go_ret
        exact ⟨by rw [HM.out]; rfl, rfl⟩
      · have h200I : ¬ (200 : Int) < (k : Int) := by omega
        by_cases hA : 20000 < A
        · have hAI : (20000 : Int) < (A : Int) := by omega
          have HM := Lib.hid (show muB X k = true from decide_eq_true (.inr (by omega)))
          go_wp2
          go_ret
          exact ⟨by rw [HM.out]; rfl, rfl⟩
        · have hAI : ¬ (20000 : Int) < (A : Int) := by omega
          have HM := Lib.hid (show muB X k = false from decide_eq_false (by omega))
          go_wp2
          go_ret
          exact ⟨by rw [HM.out]; rfl, rfl⟩
theorem much_yes (o : Option Addr) (n cap : Nat) (X : Nat → ByteArray) (w : World) (hn : n ≤ maxLen) (h : Tx o n X w) (hm : muB X n = true) :
    Calls Try.prog 6 #[.slice o n cap] w fun e w' => e = .returned (.bool true) ∧ w = w' :=
  (much_any o n cap X w hn h).mono fun _ _ ⟨h1, h2⟩ => ⟨by rw [h1, hm], h2⟩
theorem much_no (o : Option Addr) (n cap : Nat) (X : Nat → ByteArray) (w : World) (hn : n ≤ maxLen) (h : Tx o n X w) (hm : muB X n = false) :
    Calls Try.prog 6 #[.slice o n cap] w fun e w' => e = .returned (.bool false) ∧ w = w' :=
  (much_any o n cap X w hn h).mono fun _ _ ⟨h1, h2⟩ => ⟨by rw [h1, hm], h2⟩
end Go.Proofs.Ythfogiogjmgodaa.Fd
