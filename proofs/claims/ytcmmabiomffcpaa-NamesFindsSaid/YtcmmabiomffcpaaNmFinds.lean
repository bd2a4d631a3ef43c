/- Names: the walks of NamesFinds and NamesOwn. -/
import Derived.Test.YtcmmabiomffcpaaNmTwice
namespace Go.Proofs.Ytcmmabiomffcpaa.Nm
open Go.RowKit Cm
set_option linter.unusedVariables false
set_option linter.unusedSimpArgs false

set_option maxRecDepth 100000 in
set_option maxHeartbeats 1000000 in
theorem finds_walk (o : Option Addr) (len cap : Nat) (D : Dl) (s : ByteArray) (w : World) (h : Dx o len D w) (hs : s.size ≤ 140737488355327) :
    Calls Try.prog 3 #[.slice o len cap, .string s] w fun e w' => e = .returned (.bool true) ∧ Below w.heap.size w w' := by
  have hlen := h.2
  have hlen2 : len ≤ 9223372036854775807 := by omega
  have H := Lib.hid h
  clear h
  cases hf : fiS D.S s len with
  | none =>
    have HR := Lib.hid (And.intro (rfS_none hf) (And.intro (plS_none hf) (And.intro (isS_none hf) (knS_none (K := D.K) hf))))
    clear hf
    go_enter Try.func3, Try.ntmps3
    go_wp2_with (first
      | (go_at_call 11; refine (awake_any _).mono ?_; rintro e w9 ⟨rfl, hb9⟩; have hB9 := hB7.trans (hb9.mono hB7.size))
      | (go_at_call_of 9 (Value.pointer none); refine (kind_nil s _).mono ?_; rintro e w7 ⟨rfl, hb7⟩; have hB7 := hB5.trans (hb7.mono hB5.size))
      | (go_at_call 10; refine (rkind_any o len cap D s _ (H.out.below hB4 (Nat.le_refl _))).mono ?_; rw [HR.out.2.2.2]; rintro e w5 ⟨rfl, rfl⟩; have hB5 := hB4)
      | (go_at_call 9; refine (kind_any T len D.S D.K s _ hT3 hs).mono ?_; rw [HR.out.2.2.2]; rintro e w4 ⟨rfl, hb4⟩; have hB4 := hB3.trans (hb4.mono hB3.size))
      | (go_at_call_of 7 (Value.pointer none); refine (find_nil s _).mono ?_; rintro e w3 ⟨rfl, hb3⟩; have hB3 := hB2.trans (hb3.mono hB2.size); have hT3 := hT2.below hb3)
      | (go_at_call 8; refine (rfind_any o len cap D s _ (H.out.below hB2 (Nat.le_refl _))).mono ?_; rw [HR.out.1]; rintro e w2' ⟨rfl, rfl⟩)
      | (go_at_call 7; refine (find_any T len D.S D.K s _ hT1 hs).mono ?_; rw [HR.out.2.1, HR.out.2.2.1]; rintro e w2 ⟨rfl, hb2⟩; have hB2 := hB1.trans (hb2.mono hB1.size); have hT2 := hT1.below hb2)
      | (go_at_call 6; refine (of_any o len cap D _ H.out).mono ?_; rintro e w1 ⟨T, rfl, _, hT1, hB1⟩))
    go_ret
    exact ⟨rfl, hB9⟩
  | some i =>
    have HR := Lib.hid (And.intro (rfS_some hf) (And.intro (plS_some hf) (And.intro (isS_some hf) (knS_some (K := D.K) hf))))
    have hi := (fiS_some hf).1
    clear hf
    go_enter Try.func3, Try.ntmps3
    go_wp2_with (first
      | (go_at_call 11; refine (awake_any _).mono ?_; rintro e w9 ⟨rfl, hb9⟩; have hB9 := hB7.trans (hb9.mono hB7.size))
      | (go_at_call_of 9 (Value.pointer none); refine (kind_nil s _).mono ?_; rintro e w7 ⟨rfl, hb7⟩; have hB7 := hB5.trans (hb7.mono hB5.size))
      | (go_at_call 10; refine (rkind_any o len cap D s _ (H.out.below hB4 (Nat.le_refl _))).mono ?_; rw [HR.out.2.2.2]; rintro e w5 ⟨rfl, rfl⟩; have hB5 := hB4)
      | (go_at_call 9; refine (kind_any T len D.S D.K s _ hT3 hs).mono ?_; rw [HR.out.2.2.2]; rintro e w4 ⟨rfl, hb4⟩; have hB4 := hB3.trans (hb4.mono hB3.size))
      | (go_at_call_of 7 (Value.pointer none); refine (find_nil s _).mono ?_; rintro e w3 ⟨rfl, hb3⟩; have hB3 := hB2.trans (hb3.mono hB2.size); have hT3 := hT2.below hb3)
      | (go_at_call 8; refine (rfind_any o len cap D s _ (H.out.below hB2 (Nat.le_refl _))).mono ?_; rw [HR.out.1]; rintro e w2' ⟨rfl, rfl⟩)
      | (go_at_call 7; refine (find_any T len D.S D.K s _ hT1 hs).mono ?_; rw [HR.out.2.1, HR.out.2.2.1]; rintro e w2 ⟨rfl, hb2⟩; have hB2 := hB1.trans (hb2.mono hB1.size); have hT2 := hT1.below hb2)
      | (go_at_call 6; refine (of_any o len cap D _ H.out).mono ?_; rintro e w1 ⟨T, rfl, _, hT1, hB1⟩))
    go_ret
    exact ⟨rfl, hB9⟩
end Go.Proofs.Ytcmmabiomffcpaa.Nm
