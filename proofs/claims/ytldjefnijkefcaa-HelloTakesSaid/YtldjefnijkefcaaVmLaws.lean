/- The walks of the four laws of numbers as bytes: each returns true, and nothing that was there turns. -/
import Derived.Test.YtldjefnijkefcaaVmRefPut
import Derived.Test.YtldjefnijkefcaaVmTakeInt
namespace Go.Proofs.Ytldjefnijkefcaa.Vm
open Go.RowKit
set_option linter.unusedVariables false

theorem cat_toList (n : Nat) (b : ByteArray) : ((⟨(putL n).toArray⟩ : ByteArray) ++ b).data.toList = putL n ++ b.data.toList := by rw [ByteArray.data_append, Array.toList_append]
theorem cat_size (n : Nat) (b : ByteArray) : ((⟨(putL n).toArray⟩ : ByteArray) ++ b).size = (putL n).length + b.size := by rw [ByteArray.size_append]; rfl

theorem tkS_cat (n : Nat) (b : ByteArray) (h : n < 18446744073709551616) : tkS ((⟨(putL n).toArray⟩ : ByteArray) ++ b) = (n, (putL n).length, 0) := by
  unfold tkS; rw [cat_toList]; exact tk_put0 n _ h

theorem take_put (n : Nat) (b : ByteArray) (w : World) (hn : n ≤ 18446744073709551615) (hs : b.size ≤ 140737488355328) :
    Calls Try.prog 29 #[.string ((⟨(putL n).toArray⟩ : ByteArray) ++ b)] w fun x w' => x = .returned (.tuple #[.int .u64 n, .int .i64 (putL n).length, .int .i64 0]) ∧ w = w' := by
  have hl := putL_len10 n (by omega)
  exact take_ret _ n _ 0 (tkS_cat n b (by omega)) w (by rw [cat_size]; unfold maxLen; omega)
theorem take_beg (n k : Nat) (w : World) (hn : n ≤ 18446744073709551615) (hk : k < (putL n).length) :
    Calls Try.prog 29 #[.string ((⟨(putL n).toArray⟩ : ByteArray).extract 0 k)] w fun x w' => x = .returned (.tuple #[.int .u64 0, .int .i64 0, .int .i64 2]) ∧ w = w' := by
  have hl := putL_len10 n (by omega)
  have e : ((⟨(putL n).toArray⟩ : ByteArray).extract 0 k).data.toList = (putL n).take k := by simp
  exact take_ret _ 0 0 2 (by unfold tkS; rw [e]; exact tk_short0 n k (by omega) hk) w (by
    have : ((⟨(putL n).toArray⟩ : ByteArray).extract 0 k).size = ((putL n).take k).length := by rw [← e]; exact Array.length_toList.symm
    rw [this, List.length_take]; unfold maxLen; omega)

end Go.Proofs.Ytldjefnijkefcaa.Vm
