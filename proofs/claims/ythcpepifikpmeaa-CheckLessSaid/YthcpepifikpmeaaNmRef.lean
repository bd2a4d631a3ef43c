/- Names: the contracts of the reference's Find, Kind, Twice. -/
import Derived.Test.YthcpepifikpmeaaNmOf
namespace Go.Proofs.Ythcpepifikpmeaa.Nm
open Go.RowKit Cm
set_option linter.unusedVariables false
set_option linter.unusedSimpArgs false

set_option maxRecDepth 100000 in
set_option maxHeartbeats 1000000 in
theorem rfind_any (o : Option Addr) (len cap : Nat) (D : Dl) (s : ByteArray) (w : World) (h : Dx o len D w) :
    Calls Try.prog 25 #[.slice o len cap, .string s] w fun e w' => e = .returned (.int .i64 (rfS D.S s len)) ∧ w' = w := by
  have hlen := h.2
  have hlen2 : len ≤ 9223372036854775807 := by omega
  have H := Lib.hid h
  clear h
  go_enter Try.func25, Try.ntmps25
  go_wp2
  go_loopw [5] (fun i wr => ∃ j, j ≤ len ∧ i = .int .i64 (j : Nat) ∧ Hid (fiS D.S s j = none) ∧ wr = w) (fun i _ => len - (intOf i).toNat)
  case atStart => exact ⟨0, by omega, rfl, rfl, rfl⟩
  case round =>
    obtain ⟨j, hj, rfl, HF, rfl⟩ := hrel
    by_cases hjl : j < len
    · have hji : (j : Int) < (len : Int) := by omega
      obtain ⟨a, Ab, Ao, As, rfl, hA, hAb, c0, c1, c2, c3, c4⟩ := Dx.place H.out hjl
      by_cases he : D.S j = s
      · have hfs := Lib.hid (rfS_some (fiS_le hjl (fiS_next_hit HF.out he)))
        subst he
        go_wp2
        go_ret
        exact ⟨by rw [hfs.out]; rfl, rfl⟩
      · have hq := txt_neq he
        have hfs := Lib.hid (fiS_next_miss HF.out he)
        clear he
        go_wp2
        go_roundw
        case rel => exact ⟨j + 1, by omega, by go_num, hfs, by first | rfl | trivial⟩
        case measure => simp [intOf]; omega
    · have hji : ¬ (j : Int) < (len : Int) := by omega
      obtain rfl : j = len := by omega
      have hfs := Lib.hid (rfS_none HF.out)
      go_wp2
      go_ret
      exact ⟨by rw [hfs.out]; rfl, rfl⟩

end Go.Proofs.Ythcpepifikpmeaa.Nm
