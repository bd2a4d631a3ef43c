/- The four walks with their arguments as the rows hand them over: integers that fit their kinds. -/
import Derived.Test.YtpelpoeebnhccaaVmOne
import Derived.OpenShut
namespace Go.Proofs.Ytpelpoeebnhccaa.Vm
open Go.RowKit

theorem puts_int (n m : Int) (hn : (Lit.int .u64 n).wf = true) (hm : (Lit.int .i64 m).wf = true) (w : World) :
    Calls Try.prog 3 #[.int .u64 n, .int .i64 m] w fun e w' => e = .returned (.bool true) ∧ Below w.heap.size w w' := by
  have h1 := bounds_u64 hn
  have h2 := bounds_i64 hm
  obtain ⟨N, rfl⟩ := Int.eq_ofNat_of_zero_le h1.1
  exact puts_walk N m w (by omega) h2.1 h2.2
theorem takes_int (s : ByteArray) (hs : s.size ≤ 140737488355327) (w : World) :
    Calls Try.prog 4 #[.string s] w fun e w' => e = .returned (.bool true) ∧ Below w.heap.size w w' :=
  takes_walk s w (by unfold maxLen; omega)
theorem back_int (n m : Int) (b : ByteArray) (hn : (Lit.int .u64 n).wf = true) (hm : (Lit.int .i64 m).wf = true) (hs : b.size ≤ 140737488355327) (w : World) :
    Calls Try.prog 5 #[.int .u64 n, .int .i64 m, .string b] w fun e w' => e = .returned (.bool true) ∧ Below w.heap.size w w' := by
  have h1 := bounds_u64 hn
  have h2 := bounds_i64 hm
  obtain ⟨N, rfl⟩ := Int.eq_ofNat_of_zero_le h1.1
  exact back_walk N m b w (by omega) h2.1 h2.2 (by omega)
theorem one_int (s : ByteArray) (n m : Int) (hs : s.size ≤ 140737488355327) (hn : (Lit.int .u64 n).wf = true) (hm : (Lit.int .u64 m).wf = true) (w : World) :
    Calls Try.prog 6 #[.string s, .int .u64 n, .int .u64 m] w fun e w' => e = .returned (.bool true) ∧ Below w.heap.size w w' := by
  have h1 := bounds_u64 hn
  have h2 := bounds_u64 hm
  obtain ⟨N, rfl⟩ := Int.eq_ofNat_of_zero_le h1.1
  obtain ⟨M, rfl⟩ := Int.eq_ofNat_of_zero_le h2.1
  exact one_walk s N M w (by unfold maxLen; omega) (by omega) (by omega)
end Go.Proofs.Ytpelpoeebnhccaa.Vm
