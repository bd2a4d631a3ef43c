/- Names: the walk of NamesOwn. -/
import Derived.Test.YtcmmabiomffcpaaNmFinds
namespace Go.Proofs.Ytcmmabiomffcpaa.Nm
open Go.RowKit Cm
set_option linter.unusedVariables false
set_option linter.unusedSimpArgs false

/-- Does each name of the first n lead to its own place? -/
def owS (S : Nat → ByteArray) (n : Nat) : Bool := (twS S n).isNone
theorem owS_some {S : Nat → ByteArray} {n i : Nat} (h : twS S n = some i) : owS S n = false := by unfold owS; rw [h]; rfl
theorem owS_none {S : Nat → ByteArray} {n : Nat} (h : twS S n = none) : owS S n = true := by unfold owS; rw [h]; rfl
theorem owS_ahead {S : Nat → ByteArray} {n i : Nat} (h : fiS S (S n) n = some i) : owS S (n + 1) = false := by
  cases ht : twS S n with
  | some k => exact owS_some (twS_next_some ht)
  | none => exact owS_some (twS_next_hit ht h)
theorem owS_fresh {S : Nat → ByteArray} {n : Nat} (h : fiS S (S n) n = none) : owS S (n + 1) = owS S n := by
  cases ht : twS S n with
  | some k => rw [owS_some ht, owS_some (twS_next_some ht)]
  | none => rw [owS_none ht, owS_none (twS_next_miss ht h)]

set_option maxRecDepth 100000 in
set_option maxHeartbeats 2000000 in
theorem own_walk (o : Option Addr) (len cap : Nat) (D : Dl) (w : World) (h : Dx o len D w) :
    Calls Try.prog 5 #[.slice o len cap] w fun e w' => e = .returned (.bool true) ∧ Below w.heap.size w w' := by
  have hlen := h.2
  have hlen2 : len ≤ 9223372036854775807 := by omega
  have H := Lib.hid h
  clear h
  go_enter Try.func5, Try.ntmps5
  go_wp2_with (go_at_call 6; refine (of_any o len cap D _ H.out).mono ?_; rintro e w1 ⟨T, rfl, hT1, hT2, hb1⟩)
  have HT0 := Lib.hid hT2
  have HB0 := Lib.hid hb1
  clear hT2 hb1
  go_loopw [4, 5] (fun b i wr => ∃ j, j ≤ len ∧ b = .bool (owS D.S j) ∧ i = .int .i64 (j : Nat) ∧ Hid (Tb T len D.S D.K wr) ∧ Hid (Below w.heap.size w wr)) (fun _ i _ => len - (intOf i).toNat)
  case atStart => exact ⟨0, by omega, rfl, rfl, HT0, HB0⟩
  case round =>
    obtain ⟨j, hj, rfl, rfl, HT, HB⟩ := hrel
    clear HT0 HB0
    have hsz := HB.out.size
    by_cases hjl : j < len
    · have hji : (j : Int) < (len : Int) := by omega
      obtain ⟨a, Ab, Ao, As, rfl, hA, hAb, c0, c1, c2, c3, c4⟩ := Dx.place (H.out.below HB.out (Nat.le_refl _)) hjl
      have hSj := (H.out.1 j hjl).choose_spec.2.2.2.1
      cases hf : fiS D.S (D.S j) j with
      | some i =>
        have hr := plS_some (fiS_ahead hjl hf)
        have hr2 := isS_some (fiS_ahead hjl hf)
        have hij : (i : Int) < (j : Int) := by have := (fiS_some hf).1; omega
        have hn := Lib.hid (owS_ahead hf)
        clear hf
        cases hw : owS D.S j with
        | true =>
          clear hw
          go_wp2_with (go_at_call 7; refine (find_any T len D.S D.K (D.S j) _ HT.out hSj).mono ?_; rw [hr, hr2]; rintro e w2 ⟨rfl, hb2⟩)
          go_roundw
          case rel => exact ⟨j + 1, by omega, by rw [hn.out]; first | rfl | (simp; omega), by go_num, HT.out.below hb2, HB.out.trans (hb2.mono hsz)⟩
          case measure => simp [intOf]; omega
        | false =>
          clear hw
          go_wp2_with (go_at_call 7; refine (find_any T len D.S D.K (D.S j) _ HT.out hSj).mono ?_; rw [hr, hr2]; rintro e w2 ⟨rfl, hb2⟩)
          go_roundw
          case rel => exact ⟨j + 1, by omega, by rw [hn.out], by go_num, HT.out.below hb2, HB.out.trans (hb2.mono hsz)⟩
          case measure => simp [intOf]; omega
      | none =>
        have hr := plS_some (fiS_fresh hjl hf)
        have hr2 := isS_some (fiS_fresh hjl hf)
        have hn := owS_fresh hf
        clear hf
        cases hw : owS D.S j with
        | true =>
          have hn2 := Lib.hid (hn.trans hw)
          clear hw hn
          go_wp2_with (go_at_call 7; refine (find_any T len D.S D.K (D.S j) _ HT.out hSj).mono ?_; rw [hr, hr2]; rintro e w2 ⟨rfl, hb2⟩)
          go_roundw
          case rel => exact ⟨j + 1, by omega, by rw [hn2.out], by go_num, HT.out.below hb2, HB.out.trans (hb2.mono hsz)⟩
          case measure => simp [intOf]; omega
        | false =>
          have hn2 := Lib.hid (hn.trans hw)
          clear hw hn
          go_wp2_with (go_at_call 7; refine (find_any T len D.S D.K (D.S j) _ HT.out hSj).mono ?_; rw [hr, hr2]; rintro e w2 ⟨rfl, hb2⟩)
          go_roundw
          case rel => exact ⟨j + 1, by omega, by rw [hn2.out], by go_num, HT.out.below hb2, HB.out.trans (hb2.mono hsz)⟩
          case measure => simp [intOf]; omega
    · have hji : ¬ (j : Int) < (len : Int) := by omega
      obtain rfl : j = len := by omega
      cases ht : twS D.S j with
      | some i =>
        have hz := twZ_some ht
        have hw := owS_some ht
        clear ht
        rw [hw]
        clear hw
        go_wp2_with (first
          | (go_at_call 11; refine (awake_any _).mono ?_; rintro e w9 ⟨rfl, hb9⟩; have hB9 := hB2.trans (hb9.mono hB2.size))
          | (go_at_call 16; refine (twice_any o j cap D _ (H.out.below HB.out (Nat.le_refl _))).mono ?_; rw [hz]; rintro e w2 ⟨rfl, hb2⟩; have hB2 := HB.out.trans (hb2.mono hsz)))
        go_ret
        exact ⟨rfl, hB9⟩
      | none =>
        have hz := twZ_none ht
        have hw := owS_none ht
        clear ht
        rw [hw]
        clear hw
        go_wp2_with (first
          | (go_at_call 11; refine (awake_any _).mono ?_; rintro e w9 ⟨rfl, hb9⟩; have hB9 := hB2.trans (hb9.mono hB2.size))
          | (go_at_call 16; refine (twice_any o j cap D _ (H.out.below HB.out (Nat.le_refl _))).mono ?_; rw [hz]; rintro e w2 ⟨rfl, hb2⟩; have hB2 := HB.out.trans (hb2.mono hsz)))
        go_ret
        exact ⟨rfl, hB9⟩
end Go.Proofs.Ytcmmabiomffcpaa.Nm
