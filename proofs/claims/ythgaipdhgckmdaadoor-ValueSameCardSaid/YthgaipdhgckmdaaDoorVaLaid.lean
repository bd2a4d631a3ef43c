/- Values: what the row's listed variables give: the library's table of powers; the door's own start meets them. -/
import Derived.Test.YthgaipdhgckmdaaDoorRows
import Derived.Test.YthgaipdhgckmdaaDoorVaPTell
import Derived.LaidMore
import Derived.MakeChecks
import Derived.Stop.Joined
import Derived.Stop.LaidErr
import Derived.Lib.LaidTab
namespace Go.Proofs.YthgaipdhgckmdaaDoor.Va
open Go.RowKit Cm
set_option linter.unusedVariables false
set_option linter.unusedSimpArgs false

def laidL : List (String × DataW Unit) := [("math/bits.deBruijn32tab", Rows.laid_math_bits_deBruijn32tab), ("math/bits.deBruijn64tab", Rows.laid_math_bits_deBruijn64tab), ("internal/strconv.uint64pow10", Rows.laid_internal_strconv_uint64pow10)]
/-- The heap that the start leaves meets the condition. -/
theorem door_met (os : Os) (args : Array Value) : laidMetH Tryd.prog laidL ((World.doorLaid Tryd.prog 400 os).forCall (fun _ _ => 0) ⟨#[], args, []⟩).memory :=
  laidMetH_of_parts3 (fuel := 8) (laidMet_of_run' 8 (by kernel_rfl) (by kernel_rfl)) (by kernel_rfl) (by kernel_rfl)
theorem pow_laid : (Rows.laid_internal_strconv_uint64pow10 : DataW Unit) = Lib.tabData .u64 Lib.pow10Tab := by kernel_rfl
theorem pow_global : Tryd.prog.globalNamed "internal/strconv.uint64pow10" = some 0 := by kernel_rfl
theorem pow_type : (Tryd.prog.globals[0]?).map (·.type) = some 92 := by kernel_rfl
theorem pow_cells : Tryd.prog.cellsOf 92 = 20 := by kernel_rfl
theorem one_cell : Tryd.prog.cellsOf 38 = 1 := by kernel_rfl
theorem pw_of_laid {W : World} (h : laidMetH Tryd.prog laidL W) : Pw W := by
  rw [MakeChecks.laidMetH_plain _ _ _ (by kernel_rfl)] at h
  have h2 := laidMet.tail (laidMet.tail h)
  rw [pow_laid] at h2
  exact Lib.tabBelow_of_tabIs (Lib.tabIs_of_head pow_global pow_type Tryd.underlying92 Tryd.underlying38 one_cell pow_cells h2)
end Go.Proofs.YthgaipdhgckmdaaDoor.Va
