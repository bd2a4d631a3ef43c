/- Frames: the contracts of frame.isKind, Cost, Asks and of the reference's Byte, Cost and Asks over the program. -/
import Derived.Test.YtgihiejbaimljaaChecked
import Derived.Test.YtgihiejbaimljaaShelf
import Derived.WalkKit
import Derived.WalkLawsBesides
import Derived.WalkSpells
import Derived.WalkSmall
import Derived.Laws.BytesArg
import Derived.Laws.BitsAllLaws
import Derived.Lib.Hide
import Derived.Lib.Walk
import Derived.Below
namespace Go.Proofs.Ytgihiejbaimljaa.Fr
open Go.RowKit
set_option linter.unusedVariables false
set_option linter.unusedSimpArgs false

theorem ret_int {k : IntKind} {a b : Int} (h : a = b) : Ending.returned (.int k a) = .returned (.int k b) := by rw [h]
theorem ret_bool {a b : Bool} (h : a = b) : Ending.returned (.bool a) = .returned (.bool b) := by rw [h]

/-- Is a number a kind of frames? -/
def kdB (k : Int) : Bool := decide (1 ≤ k ∧ k ≤ 9)
theorem iskind_any (k : Int) (w : World) :
    Calls Try.prog 16 #[.int .i64 k] w fun e w' => e = .returned (.bool (kdB k)) ∧ w = w' := by
  go_enter Try.func16, Try.ntmps16
  go_wp2
  all_goals
    go_ret
    refine ⟨ret_bool ?_, rfl⟩
    unfold kdB
    rw [Bool.eq_iff_iff]
    simp
    try omega
theorem iskind_yes (k : Int) (w : World) (h1 : 1 ≤ k) (h2 : k ≤ 9) :
    Calls Try.prog 16 #[.int .i64 k] w fun e w' => e = .returned (.bool true) ∧ w = w' :=
  (iskind_any k w).mono fun _ _ ⟨h3, h4⟩ => ⟨by rw [h3, kdB, decide_eq_true ⟨h1, h2⟩], h4⟩
theorem iskind_no (k : Int) (w : World) (h : k < 1 ∨ 9 < k) :
    Calls Try.prog 16 #[.int .i64 k] w fun e w' => e = .returned (.bool false) ∧ w = w' :=
  (iskind_any k w).mono fun _ _ ⟨h3, h4⟩ => ⟨by rw [h3, kdB, decide_eq_false (by omega)], h4⟩

/-- What a length costs. -/
def coI (n : Int) : Int := if n < 0 then 16 else if 1024 < n then 1040 else 16 + n
theorem cost_any (n : Int) (w : World) (h1 : -9223372036854775808 ≤ n) (h2 : n ≤ 9223372036854775807) :
    Calls Try.prog 8 #[.int .i64 n] w fun e w' => e = .returned (.int .i64 (coI n)) ∧ w = w' := by
  have hmx : max n 0 ≤ 9223372036854775807 := by omega
  have hmn : 0 ≤ min (max n 0) 1024 := by omega
  have hm2 : min (max n 0) 1024 ≤ 1024 := by omega
  go_enter Try.func8, Try.ntmps8
  go_wp2
  go_ret
  exact ⟨ret_int (by unfold coI; split <;> (try split) <;> omega), rfl⟩
theorem rcost_any (n : Int) (w : World) (h1 : -9223372036854775808 ≤ n) (h2 : n ≤ 9223372036854775807) :
    Calls Try.prog 9 #[.int .i64 n] w fun e w' => e = .returned (.int .i64 (coI n)) ∧ w = w' := by
  go_enter Try.func9, Try.ntmps9
  go_wp2
  all_goals
    go_ret
    exact ⟨ret_int (by unfold coI; split <;> (try split) <;> omega), rfl⟩

/-- Does a frame of a kind wait for its tenant's turn? -/
def akB (k : Int) : Bool := decide (k = 2 ∨ k = 3 ∨ k = 4 ∨ k = 6 ∨ k = 7)
theorem asks_any (k : Int) (w : World) :
    Calls Try.prog 10 #[.int .i64 k] w fun e w' => e = .returned (.bool (akB k)) ∧ w = w' := by
  by_cases h : k = 2 ∨ k = 3 ∨ k = 4 ∨ k = 6 ∨ k = 7
  · rcases h with rfl | rfl | rfl | rfl | rfl
    all_goals
      go_enter Try.func10, Try.ntmps10
      go_wp2
      go_ret
      exact ⟨rfl, rfl⟩
  · have e1 : (k == 2) = false := by simp; omega
    have e2 : (k == 3) = false := by simp; omega
    have e3 : (k == 4) = false := by simp; omega
    have e4 : (k == 6) = false := by simp; omega
    have e5 : (k == 7) = false := by simp; omega
    have ed : akB k = false := decide_eq_false h
    rw [ed]
    clear ed h
    go_enter Try.func10, Try.ntmps10
    go_wp2
    go_ret
    exact ⟨rfl, rfl⟩
theorem rasks_any (k : Int) (w : World) :
    Calls Try.prog 11 #[.int .i64 k] w fun e w' => e = .returned (.bool (akB k)) ∧ w = w' := by
  by_cases h : k = 2 ∨ k = 3 ∨ k = 4 ∨ k = 6 ∨ k = 7
  · rcases h with rfl | rfl | rfl | rfl | rfl
    all_goals
      go_enter Try.func11, Try.ntmps11
      go_wp2
      go_ret
      exact ⟨rfl, rfl⟩
  · have e1 : (k == 2) = false := by simp; omega
    have e2 : (k == 3) = false := by simp; omega
    have e3 : (k == 4) = false := by simp; omega
    have e4 : (k == 6) = false := by simp; omega
    have e5 : (k == 7) = false := by simp; omega
    have ed : akB k = false := decide_eq_false h
    rw [ed]
    clear ed h
    go_enter Try.func11, Try.ntmps11
    go_wp2
    go_ret
    exact ⟨rfl, rfl⟩

theorem byte_conv (n : Int) (w : World) : (convert 41 9 (.slice (some ⟨w.heap.size, 0, none⟩) 1 1)).run Try.prog (w.alloc (.cells #[.int .u8 n] 5)) = .ok (.string ⟨#[UInt8.ofNat n.toNat]⟩) (w.alloc (.cells #[.int .u8 n] 5)) := by
  have h := run_convert_bytes_arg (P := Try.prog) (w.alloc (.cells #[.int .u8 n] 5)) 41 5 Try.underlying41 Try.underlying5 w.heap.size 0 1 1 [n] rfl (fun i hi => by
    obtain rfl : i = 0 := by omega
    rw [Nat.add_zero, World.cell?_alloc_at _ _ _ _ rfl]; rfl) 9 Try.underlying9
  rw [h]; rfl
theorem byte_any (n : Int) (w : World) (h1 : 0 ≤ n) (h2 : n ≤ 255) :
    Calls Try.prog 17 #[.int .i64 n] w fun e w' => e = .returned (.string ⟨#[UInt8.ofNat n.toNat]⟩) ∧ Below w.heap.size w w' := by
  have hcv := byte_conv n w
  go_enter Try.func17, Try.ntmps17
  go_wp2
  go_ret
  exact ⟨rfl, (Below.refl _ _).alloc (Nat.le_refl _) _⟩
end Go.Proofs.Ytgihiejbaimljaa.Fr
