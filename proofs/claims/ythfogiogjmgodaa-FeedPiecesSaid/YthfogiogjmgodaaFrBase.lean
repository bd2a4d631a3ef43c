/- Frames: the contracts of frame.isKind, Cost, Asks and of the reference's Byte, Cost and Asks over the program. -/
import Derived.Test.YthfogiogjmgodaaChecked
import Derived.WalkKit
import Derived.WalkLawsBesides
import Derived.WalkSpells
import Derived.WalkSmall
import Derived.Laws.BytesArg
import Derived.Laws.BitsAllLaws
import Derived.Lib.Hide
import Derived.Lib.Walk
import Derived.Below
namespace Go.Proofs.Ythfogiogjmgodaa.Fr
open Go.RowKit
set_option linter.unusedVariables false
set_option linter.unusedSimpArgs false

theorem ret_int {k : IntKind} {a b : Int} (h : a = b) : Ending.returned (.int k a) = .returned (.int k b) := by rw [h]
theorem ret_bool {a b : Bool} (h : a = b) : Ending.returned (.bool a) = .returned (.bool b) := by rw [h]

/-- Is a number a kind of frames? -/
def kdB (k : Int) : Bool := decide (1 ≤ k ∧ k ≤ 9)
theorem iskind_any (k : Int) (w : World) :
    Calls Try.prog 19 #[.int .i64 k] w fun e w' => e = .returned (.bool (kdB k)) ∧ w = w' := by
  go_enter Try.func19, Try.ntmps19
  go_wp2
  all_goals
    go_ret
    refine ⟨ret_bool ?_, rfl⟩
    unfold kdB
    rw [Bool.eq_iff_iff]
    simp
    try omega
theorem iskind_yes (k : Int) (w : World) (h1 : 1 ≤ k) (h2 : k ≤ 9) :
    Calls Try.prog 19 #[.int .i64 k] w fun e w' => e = .returned (.bool true) ∧ w = w' :=
  (iskind_any k w).mono fun _ _ ⟨h3, h4⟩ => ⟨by rw [h3, kdB, decide_eq_true ⟨h1, h2⟩], h4⟩
theorem iskind_no (k : Int) (w : World) (h : k < 1 ∨ 9 < k) :
    Calls Try.prog 19 #[.int .i64 k] w fun e w' => e = .returned (.bool false) ∧ w = w' :=
  (iskind_any k w).mono fun _ _ ⟨h3, h4⟩ => ⟨by rw [h3, kdB, decide_eq_false (by omega)], h4⟩

/-- What a length costs. -/
def coI (n : Int) : Int := if n < 0 then 16 else if 1024 < n then 1040 else 16 + n
/-- Does a frame of a kind wait for its tenant's turn? -/
def akB (k : Int) : Bool := decide (k = 2 ∨ k = 3 ∨ k = 4 ∨ k = 6 ∨ k = 7)
theorem byte_conv (n : Int) (w : World) : (convert 48 9 (.slice (some ⟨w.heap.size, 0, none⟩) 1 1)).run Try.prog (w.alloc (.cells #[.int .u8 n] 5)) = .ok (.string ⟨#[UInt8.ofNat n.toNat]⟩) (w.alloc (.cells #[.int .u8 n] 5)) := by
  have h := run_convert_bytes_arg (P := Try.prog) (w.alloc (.cells #[.int .u8 n] 5)) 48 5 Try.underlying48 Try.underlying5 w.heap.size 0 1 1 [n] rfl (fun i hi => by
    obtain rfl : i = 0 := by omega
    rw [Nat.add_zero, World.cell?_alloc_at _ _ _ _ rfl]; rfl) 9 Try.underlying9
  rw [h]; rfl
end Go.Proofs.Ythfogiogjmgodaa.Fr
