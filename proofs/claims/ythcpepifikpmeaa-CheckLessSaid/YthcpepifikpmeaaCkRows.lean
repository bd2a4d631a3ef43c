/- Rows of one block that a call has made by make: what keeps them; the equations of make. -/
import Derived.Test.YthcpepifikpmeaaTyGreat
import Derived.Test.YthcpepifikpmeaaCmR
import Derived.Deep.OwnRows
namespace Go.Proofs.Ythcpepifikpmeaa.Ck
open Go.RowKit Cm _root_.Go.Proofs.Ythcpepifikpmeaa.Nm
set_option linter.unusedVariables false
set_option linter.unusedSimpArgs false

section
variable {w w' : World} {b n : Nat} {t : TypeId} {f : Nat → Value}
theorem ri_below {m : Nat} (h : w.rowIs b t n f) (hb : Below m w w') (hm : b < m) : w'.rowIs b t n f := h.of_block (hb.block b hm)
theorem ri_only {B : Nat} (h : w.rowIs b t n f) (ho : Only B w w') (hn : b ≠ B) : w'.rowIs b t n f := h.of_block (ho.block b h.lt hn)
theorem ri_grown {row : Option Nat} (h : w.rowIs b t n f) (hg : w.grownBy w' row) (hr : some b ≠ row) : w'.rowIs b t n f := h.of_block (hg.block b h.lt hr)
end
theorem infoBoolE : (Try.prog.info? 4).map (fun i => (i.zero, i.size, i.bytes)) = some (some (.bool false), 1, 1) := by kernel_rfl
theorem infoIntE : (Try.prog.info? 3).map (fun i => (i.zero, i.size, i.bytes)) = some (some (.int .i64 0), 1, 8) := by kernel_rfl
theorem infoIntsE : (Try.prog.info? 41).map (fun i => (i.zero, i.size, i.bytes)) = some (some (.slice none 0 0), 1, 24) := by kernel_rfl
theorem make_bools (n : Nat) (hn : n ≤ 1759218604441) (w : World) : (Instr.makeSlice 25 (.int .i64 (n : Int)) (.int .i64 (n : Int))).run Try.prog w = .ok (.slice (some ⟨w.heap.size, 0, none⟩) n n) (w.alloc (.cells (madeCells #[.bool false] n) 4)) :=
  run_make_row' (P := Try.prog) 25 4 (.bool false) 1 Try.underlying25 infoBoolE rfl .i64 .i64 n (by omega) (by omega) w
theorem make_ints (n : Nat) (hn : n ≤ 1759218604441) (w : World) : (Instr.makeSlice 41 (.int .i64 (n : Int)) (.int .i64 (n : Int))).run Try.prog w = .ok (.slice (some ⟨w.heap.size, 0, none⟩) n n) (w.alloc (.cells (madeCells #[.int .i64 0] n) 3)) :=
  run_make_row' (P := Try.prog) 41 3 (.int .i64 0) 8 Try.underlying41 infoIntE rfl .i64 .i64 n (by omega) (by omega) w
theorem make_rows (n : Nat) (hn : n ≤ 1759218604441) (w : World) : (Instr.makeSlice 42 (.int .i64 (n : Int)) (.int .i64 (n : Int))).run Try.prog w = .ok (.slice (some ⟨w.heap.size, 0, none⟩) n n) (w.alloc (.cells (madeCells #[.slice none 0 0] n) 41)) :=
  run_make_row' (P := Try.prog) 42 41 (.slice none 0 0) 24 Try.underlying42 infoIntsE rfl .i64 .i64 n (by omega) (by omega) w
/-- Truths in a row. -/
def Bl (b n : Nat) (X : Nat → Bool) (w : World) : Prop := w.rowIs b 4 n (fun i => .bool (X i))
end Go.Proofs.Ythcpepifikpmeaa.Ck
