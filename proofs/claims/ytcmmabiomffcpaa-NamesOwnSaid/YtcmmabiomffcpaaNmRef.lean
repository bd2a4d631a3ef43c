/- Names: the contracts of the reference's Find, Kind, Twice. -/
import Derived.Test.YtcmmabiomffcpaaNmOf
namespace Go.Proofs.Ytcmmabiomffcpaa.Nm
open Go.RowKit Cm
set_option linter.unusedVariables false
set_option linter.unusedSimpArgs false

set_option maxRecDepth 100000 in
set_option maxHeartbeats 1000000 in
theorem rfind_any (o : Option Addr) (len cap : Nat) (D : Dl) (s : ByteArray) (w : World) (h : Dx o len D w) :
    Calls Try.prog 8 #[.slice o len cap, .string s] w fun e w' => e = .returned (.int .i64 (rfS D.S s len)) ∧ w' = w := by
  have hlen := h.2
  have hlen2 : len ≤ 9223372036854775807 := by omega
  have H := Lib.hid h
  clear h
  go_enter Try.func8, Try.ntmps8
  go_wp2
  go_loopw [5] (fun i wr => ∃ j, j ≤ len ∧ i = .int .i64 (j : Nat) ∧ Hid (fiS D.S s j = none) ∧ wr = w) (fun i _ => len - (intOf i).toNat)
  case atStart => exact ⟨0, by omega, rfl, rfl, rfl⟩
  case round =>
    obtain ⟨j, hj, rfl, HF, rfl⟩ := hrel
    by_cases hjl : j < len
    · have hji : (j : Int) < (len : Int) := by omega
      obtain ⟨a, Ab, Ao, As, rfl, hA, hAb, c0, c1, c2, c3, c4⟩ := Dx.place H.out hjl
      by_cases he : D.S j = s
      · have hfs := Lib.hid (rfS_some (fiS_le hjl (fiS_next_hit HF.out he)))
        subst he
        go_wp2
        go_ret
        exact ⟨by rw [hfs.out]; rfl, rfl⟩
      · have hq := txt_neq he
        have hfs := Lib.hid (fiS_next_miss HF.out he)
        clear he
        go_wp2
        go_roundw
        case rel => exact ⟨j + 1, by omega, by go_num, hfs, by first | rfl | trivial⟩
        case measure => simp [intOf]; omega
    · have hji : ¬ (j : Int) < (len : Int) := by omega
      obtain rfl : j = len := by omega
      have hfs := Lib.hid (rfS_none HF.out)
      go_wp2
      go_ret
      exact ⟨by rw [hfs.out]; rfl, rfl⟩

set_option maxRecDepth 100000 in
set_option maxHeartbeats 1000000 in
theorem rkind_any (o : Option Addr) (len cap : Nat) (D : Dl) (s : ByteArray) (w : World) (h : Dx o len D w) :
    Calls Try.prog 10 #[.slice o len cap, .string s] w fun e w' => e = .returned (.int .i64 (knS D.S D.K s len)) ∧ w' = w := by
  have hlen := h.2
  have hlen2 : len ≤ 9223372036854775807 := by omega
  have H := Lib.hid h
  clear h
  cases hf : fiS D.S s len with
  | none =>
    have hr := rfS_none hf
    rw [knS_none hf]
    clear hf
    go_enter Try.func10, Try.ntmps10
    go_wp2_with (go_at_call 8; refine (rfind_any o len cap D s _ H.out).mono ?_; rw [hr]; rintro e w1 ⟨rfl, rfl⟩)
    go_ret
    exact ⟨rfl, rfl⟩
  | some i =>
    have hr := rfS_some hf
    have hi := (fiS_some hf).1
    rw [knS_some hf]
    clear hf
    obtain ⟨a, Ab, Ao, As, rfl, hA, hAb, c0, c1, c2, c3, c4⟩ := Dx.place H.out hi
    have hji : (i : Int) < (len : Int) := by omega
    go_enter Try.func10, Try.ntmps10
    go_wp2_with (go_at_call 8; refine (rfind_any (some a) len cap D s _ H.out).mono ?_; rw [hr]; rintro e w1 ⟨rfl, rfl⟩)
    go_ret
    exact ⟨rfl, rfl⟩

set_option maxRecDepth 100000 in
set_option maxHeartbeats 1000000 in
theorem rtwice_any (o : Option Addr) (len cap : Nat) (D : Dl) (w : World) (h : Dx o len D w) :
    Calls Try.prog 17 #[.slice o len cap] w fun e w' => e = .returned (.int .i64 (twZ D.S len)) ∧ w' = w := by
  have hlen := h.2
  have hlen2 : len ≤ 9223372036854775807 := by omega
  have H := Lib.hid h
  clear h
  go_enter Try.func17, Try.ntmps17
  go_wp2
  go_loopw [3] (fun i wr => ∃ j, j ≤ len ∧ i = .int .i64 (j : Nat) ∧ Hid (twS D.S j = none) ∧ wr = w) (fun i _ => len - (intOf i).toNat)
  case atStart => exact ⟨0, by omega, rfl, rfl, rfl⟩
  case round =>
    obtain ⟨j, hj, rfl, HF, rfl⟩ := hrel
    by_cases hjl : j < len
    · have hji : (j : Int) < (len : Int) := by omega
      obtain ⟨a, Ab, Ao, As, rfl, hA, hAb, c0, c1, c2, c3, c4⟩ := Dx.place H.out hjl
      cases hf : fiS D.S (D.S j) j with
      | some i =>
        have hr := rfS_some (fiS_ahead hjl hf)
        have hij : (i : Int) < (j : Int) := by have := (fiS_some hf).1; omega
        have hfs := Lib.hid (twZ_some (twS_le hjl (twS_next_hit HF.out hf)))
        clear hf
        go_wp2_with (go_at_call 8; refine (rfind_any (some a) len cap D (D.S j) _ H.out).mono ?_; rw [hr]; rintro e w1 ⟨rfl, rfl⟩)
        go_ret
        exact ⟨by rw [hfs.out]; rfl, rfl⟩
      | none =>
        have hr := rfS_some (fiS_fresh hjl hf)
        have hfs := Lib.hid (twS_next_miss HF.out hf)
        clear hf
        go_wp2_with (go_at_call 8; refine (rfind_any (some a) len cap D (D.S j) _ H.out).mono ?_; rw [hr]; rintro e w1 ⟨rfl, rfl⟩)
        go_roundw
        case rel => exact ⟨j + 1, by omega, by go_num, hfs, by first | rfl | trivial⟩
        case measure => simp [intOf]; omega
    · have hji : ¬ (j : Int) < (len : Int) := by omega
      obtain rfl : j = len := by omega
      have hfs := Lib.hid (twZ_none HF.out)
      go_wp2
      go_ret
      exact ⟨by rw [hfs.out]; rfl, rfl⟩
end Go.Proofs.Ytcmmabiomffcpaa.Nm
