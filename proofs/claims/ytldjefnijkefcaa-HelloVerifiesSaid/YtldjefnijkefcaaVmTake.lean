/- The contracts of varint.Take, of the reference's Take, and of varint.TakeInt over the program. -/
import Derived.Test.YtldjefnijkefcaaVmNums
namespace Go.Proofs.Ytldjefnijkefcaa.Vm
open Go.RowKit
set_option linter.unusedVariables false

/-- What is taken of a text. -/
def tkS (s : ByteArray) : Nat × Nat × Nat := tk 0 0 s.data.toList
def tkV (r : Nat × Nat × Nat) : Ending := .returned (.tuple #[.int .u64 r.1, .int .i64 r.2.1, .int .i64 r.2.2])

theorem mask127 (c : UInt8) : bits BinOp.and IntKind.u8 (c.toNat : Int) 127 = ((c.toNat % 128 : Nat) : Int) := by
  have h : c.toNat < 256 := c.toNat_lt
  have := u8_and_nat c.toNat 127 h (by decide)
  rw [show ((127 : Nat) : Int) = 127 from rfl] at this
  rw [this, Nat.and_two_pow_sub_one_eq_mod c.toNat 7]

theorem tkV_eq {a b c : Int} {r : Nat × Nat × Nat} (h : (a = r.1 ∧ b = r.2.1) ∧ c = r.2.2) : Ending.returned (.tuple #[.int .u64 a, .int .i64 b, .int .i64 c]) = tkV r := by
  obtain ⟨⟨rfl, rfl⟩, rfl⟩ := h; rfl

theorem drop_at (s : ByteArray) (k : Nat) (h : k < s.size) : s.data.toList.drop k = s[k] :: s.data.toList.drop (k + 1) := by
  rw [List.drop_eq_getElem_cons (by simpa using h)]; rfl

theorem pow_cast (c k : Nat) : ((c : Int) % 128 * 2 ^ (k * 7)) = ((c % 128 * 128 ^ k : Nat) : Int) := by
  have e : (2 : Nat) ^ (k * 7) = 128 ^ k := by rw [Nat.mul_comm, Nat.pow_mul]
  have e2 : ((2 : Int) ^ (k * 7)) = ((128 ^ k : Nat) : Int) := by rw [← e]; simp
  rw [e2]; simp
/-- Bits that are laid above those that are there. -/
theorem or_bits (N c k : Nat) (hN : N < 128 ^ k) (h : N + c % 128 * 128 ^ k < 18446744073709551616) :
    bits BinOp.or IntKind.u64 (N : Int) (IntKind.u64.wrap ((c : Int) % 128 * 2 ^ (k * 7))) = ((N + c % 128 * 128 ^ k : Nat) : Int) := by
  rw [pow_cast, IntWalk.u64_in _ (by omega), u64_or_nat _ _ (by omega) (by omega)]
  have e : (128 : Nat) ^ k = 2 ^ (7 * k) := by rw [Nat.pow_mul]
  rw [Nat.or_comm, nat_join (7 * k) (c % 128 * 128 ^ k) N (by rw [e]; exact Nat.mul_mod_left _ _) (by rw [← e]; exact hN), Nat.add_comm]
/-- Whatever the bits are, a number comes out. -/
theorem or_some (N : Nat) (x : Int) (hN : N ≤ 18446744073709551615) :
    ∃ M : Nat, M ≤ 18446744073709551615 ∧ bits BinOp.or IntKind.u64 (N : Int) (IntKind.u64.wrap x) = (M : Int) := by
  rw [IntKind.wrap_u64]
  obtain ⟨y, hy⟩ := Int.eq_ofNat_of_zero_le (show 0 ≤ x % 18446744073709551616 by omega)
  rw [hy, u64_or_nat _ _ (by omega) (by omega)]
  have : N ||| y < 2 ^ 64 := Nat.or_lt_two_pow (by omega) (by omega)
  exact ⟨_, by omega, rfl⟩

theorem room (c k : Nat) (N : Nat) (hN : N < 128 ^ k) (h : k < 9 ∨ (k = 9 ∧ c % 128 ≤ 1)) : N + c % 128 * 128 ^ k < 18446744073709551616 := by
  rcases h with h | ⟨rfl, h⟩
  · have hp : (128 : Nat) ^ k ≤ 128 ^ 8 := Nat.pow_le_pow_right (by decide) (by omega)
    have h2 : c % 128 * 128 ^ k ≤ 127 * 128 ^ 8 := Nat.mul_le_mul (by omega) hp
    have e : (128 : Nat) ^ 8 = 72057594037927936 := by decide
    rw [e] at hp h2; omega
  · have e : (128 : Nat) ^ 9 = 9223372036854775808 := by decide
    rw [e] at hN ⊢
    have : c % 128 = 0 ∨ c % 128 = 1 := by omega
    rcases this with h | h <;> rw [h] <;> omega

/-- The ways through a round, as the walk leaves them. -/
theorem way_end {s : ByteArray} {k N : Nat} (hlt : k < s.size) (h10 : k < 10) (hr : N < 128 ^ k ∧ tkS s = tk k N (s.data.toList.drop k)) (hc : s[k].toNat < 128) (he : endsB (s[k].toNat : Int) (k : Int) = true) :
    (bits BinOp.or IntKind.u64 (N : Int) (IntKind.u64.wrap ((s[k].toNat : Int) % 128 * 2 ^ (k * 7))) = (tkS s).1 ∧ ((k : Int) + 1) = (tkS s).2.1) ∧ (0 : Int) = (tkS s).2.2 := by
  obtain ⟨hN, ht⟩ := hr
  have h := of_decide_eq_true he
  have hm : s[k].toNat % 128 = s[k].toNat := by omega
  have hv : tkS s = (N + s[k].toNat * 128 ^ k, k + 1, 0) := by
    rw [ht, drop_at s k hlt, tk, if_neg (by omega), if_pos hc]
  rw [hv, or_bits N _ k hN (room _ k N hN (by omega)), hm]
  exact ⟨⟨rfl, by simp⟩, rfl⟩
theorem way_bad {s : ByteArray} {k N : Nat} (hlt : k < s.size) (h10 : k < 10) (hr : N < 128 ^ k ∧ tkS s = tk k N (s.data.toList.drop k)) (hc : s[k].toNat < 128) (he : endsB (s[k].toNat : Int) (k : Int) = false) :
    tkS s = (0, 0, 1) := by
  have h := of_decide_eq_false he
  rw [hr.2, drop_at s k hlt, tk, if_pos (by omega)]
theorem way_on {s : ByteArray} {k N : Nat} (hlt : k < s.size) (h10 : k < 10) (hr : N < 128 ^ k ∧ tkS s = tk k N (s.data.toList.drop k)) (hc : ¬ s[k].toNat < 128) (hN : N ≤ 18446744073709551615) :
    ∃ M : Nat, M ≤ 18446744073709551615 ∧ bits BinOp.or IntKind.u64 (N : Int) (IntKind.u64.wrap ((s[k].toNat : Int) % 128 * 2 ^ (k * 7))) = (M : Int) ∧ (k + 1 < 10 → M < 128 ^ (k + 1) ∧ tkS s = tk (k + 1) M (s.data.toList.drop (k + 1))) ∧ (k + 1 = 10 → tkS s = (0, 0, 1)) := by
  obtain ⟨hN', ht⟩ := hr
  by_cases h9 : k = 9
  · obtain ⟨M, hM, e⟩ := or_some N ((s[k].toNat : Int) % 128 * 2 ^ (k * 7)) hN
    refine ⟨M, hM, e, by omega, fun _ => ?_⟩
    rw [ht, drop_at s k hlt, tk, if_pos (by omega)]
  · have hroom := room s[k].toNat k N hN' (by omega)
    refine ⟨N + s[k].toNat % 128 * 128 ^ k, by omega, or_bits N _ k hN' hroom, fun _ => ⟨?_, ?_⟩, by omega⟩
    · have e : (128 : Nat) ^ (k + 1) = 127 * 128 ^ k + 128 ^ k := by rw [Nat.pow_succ]; omega
      have : s[k].toNat % 128 * 128 ^ k ≤ 127 * 128 ^ k := Nat.mul_le_mul_right _ (by omega)
      omega
    · rw [ht, drop_at s k hlt, tk, if_neg (by omega), if_neg hc]
theorem way_out {s : ByteArray} {k N : Nat} (hk : k ≤ s.size) (hlt : ¬ (k < s.size ∧ k < 10)) (h9 : s.size < 10) (hr : k < 10 → N < 128 ^ k ∧ tkS s = tk k N (s.data.toList.drop k)) :
    tkS s = (0, 0, 2) := by
  rw [(hr (by omega)).2, List.drop_eq_nil_of_le (by simp; omega), tk]

theorem take_any (s : ByteArray) (w : World) (hs : s.size ≤ maxLen) :
    Calls Try.prog 29 #[.string s] w fun e w' => e = tkV (tkS s) ∧ w = w' := by
  unfold maxLen at hs
  go_enter Try.func29, Try.ntmps29
  go_wp2
  go_loop [5, 10] (fun n i => ∃ k N : Nat, k ≤ 10 ∧ k ≤ s.size ∧ i = .int .i64 k ∧ n = .int .u64 N ∧ N ≤ 18446744073709551615 ∧ (k < 10 → N < 128 ^ k ∧ tkS s = tk k N (s.data.toList.drop k)) ∧ (k = 10 → tkS s = (0, 0, 1))) (fun _ i => 10 - (intOf i).toNat)
  case atStart => exact ⟨0, 0, by omega, by omega, rfl, rfl, by omega, fun _ => ⟨by decide, rfl⟩, by omega⟩
  case round =>
    obtain ⟨k, N, hk, hks, rfl, rfl, hN, hr, h10⟩ := hrel
    have HR := Lib.hid hr
    have H10 := Lib.hid h10
    clear hr h10
    by_cases hlt : k < s.size ∧ k < 10
    · obtain ⟨hlt1, hlt2⟩ := hlt
      have hlt : (k : Int) < min (s.size : Int) 10 := by omega
      have hmask := mask127 s[k]
      by_cases hc : s[k].toNat < 128
      · have hc' : (s[k].toNat : Int) < 128 := by omega
        by_cases he : endsB (s[k].toNat : Int) (k : Int) = true
        · go_wp2_with (go_at_call 32; refine (ends_any _ _ _).mono ?_; rintro e w' ⟨rfl, rfl⟩)
          go_ret3
          exact ⟨tkV_eq (way_end hlt1 hlt2 (HR.out hlt2) hc he), rfl⟩
        · have he' : endsB (s[k].toNat : Int) (k : Int) = false := by simpa using he
          clear he
          go_wp2_with (go_at_call 32; refine (ends_any _ _ _).mono ?_; rintro e w' ⟨rfl, rfl⟩)
          go_ret3
          exact ⟨by rw [way_bad hlt1 hlt2 (HR.out hlt2) hc he']; rfl, rfl⟩
      · have hc' : ¬ (s[k].toNat : Int) < 128 := by omega
        go_wp2_with (go_at_call 32; refine (ends_any _ _ _).mono ?_; rintro e w' ⟨rfl, rfl⟩)
        obtain ⟨M, hM, e, hon, hten⟩ := way_on hlt1 hlt2 (HR.out hlt2) hc hN
        go_round
        case rel => exact ⟨k + 1, M, by omega, by omega, by go_num, by rw [e], hM, hon, hten⟩
        case measure => simp [intOf]; omega
    · have hlt' : ¬ (k : Int) < min (s.size : Int) 10 := by omega
      by_cases h9 : s.size < 10
      · have h9' : (s.size : Int) < 10 := by omega
        go_wp2
        go_ret3
        exact ⟨by rw [way_out hks hlt h9 HR.out]; rfl, rfl⟩
      · have h9' : ¬ (s.size : Int) < 10 := by omega
        go_wp2
        go_ret3
        exact ⟨by rw [H10.out (by omega)]; rfl, rfl⟩
/-- The reference's sums. -/
theorem rsum {N c k P : Nat} (hP : P = 128 ^ k) (hN : N < 128 ^ k) (h : k < 9 ∨ (k = 9 ∧ c % 128 ≤ 1)) :
    IntKind.u64.wrap ((N : Int) + IntKind.u64.wrap ((c : Int) % 128 * (P : Int))) = ((N + c % 128 * 128 ^ k : Nat) : Int) := by
  have hr := room c k N hN h
  have e : ((c : Int) % 128 * (P : Int)) = ((c % 128 * 128 ^ k : Nat) : Int) := by rw [hP]; simp
  rw [e, IntWalk.u64_in ((c % 128 * 128 ^ k : Nat) : Int) (by omega), IntWalk.u64_in _ (by omega)]
  simp
theorem rpow {k P : Nat} (hP : P = 128 ^ k) (h : k < 9) : IntKind.u64.wrap ((P : Int) * 128) = ((128 ^ (k + 1) : Nat) : Int) := by
  have hp : (128 : Nat) ^ k ≤ 128 ^ 8 := Nat.pow_le_pow_right (by decide) (by omega)
  have e : (128 : Nat) ^ 8 = 72057594037927936 := by decide
  rw [e] at hp
  rw [hP, IntWalk.u64_in _ (by omega), Nat.pow_succ]; simp
theorem rway_end {s : ByteArray} {k N P c : Nat} (hd : s.data.toList.drop k = s[k]! :: s.data.toList.drop (k + 1)) (hcv : s[k]!.toNat = c) (hP : P = 128 ^ k) (hr : N < 128 ^ k ∧ tkS s = tk k N (s.data.toList.drop k))
    (hk : k ≤ 9) (hc : c < 128) (h0 : k = 0 ∨ c ≠ 0) (h9 : k ≠ 9 ∨ c ≤ 1) :
    (IntKind.u64.wrap ((N : Int) + IntKind.u64.wrap ((c : Int) % 128 * (P : Int))) = (tkS s).1 ∧ ((k : Int) + 1) = (tkS s).2.1) ∧ (0 : Int) = (tkS s).2.2 := by
  have hv : tkS s = (N + c * 128 ^ k, k + 1, 0) := by
    rw [hr.2, hd, tk, hcv, if_neg (by omega), if_pos hc]
  have hm : c % 128 = c := by omega
  rw [hv, rsum hP hr.1 (by omega), hm]
  exact ⟨⟨rfl, by simp⟩, rfl⟩
theorem rway_one {s : ByteArray} {k N P : Nat} (hd : s.data.toList.drop k = s[k]! :: s.data.toList.drop (k + 1)) (hcv : s[k]!.toNat = 1) (hP : P = 128 ^ k) (hr : N < 128 ^ k ∧ tkS s = tk k N (s.data.toList.drop k))
    (hk : k ≤ 9) : (IntKind.u64.wrap ((N : Int) + IntKind.u64.wrap (P : Int)) = (tkS s).1 ∧ ((k : Int) + 1) = (tkS s).2.1) ∧ (0 : Int) = (tkS s).2.2 := by
  have h := rway_end hd hcv hP hr hk (by omega) (by omega) (by omega)
  have e : (((1 : Nat) : Int) % 128 * (P : Int)) = (P : Int) := by omega
  rwa [e] at h
theorem rway_bad {s : ByteArray} {k N c : Nat} (hd : s.data.toList.drop k = s[k]! :: s.data.toList.drop (k + 1)) (hcv : s[k]!.toNat = c) (hr : N < 128 ^ k ∧ tkS s = tk k N (s.data.toList.drop k))
    (hbad : (0 < k ∧ c = 0) ∨ (k = 9 ∧ 1 < c)) : tkS s = (0, 0, 1) := by
  rw [hr.2, hd, tk, hcv, if_pos hbad]
theorem rway_on {s : ByteArray} {k N P c : Nat} (hd : s.data.toList.drop k = s[k]! :: s.data.toList.drop (k + 1)) (hcv : s[k]!.toNat = c) (hP : P = 128 ^ k) (hr : N < 128 ^ k ∧ tkS s = tk k N (s.data.toList.drop k))
    (hk : k < 9) (hc : ¬ c < 128) :
    ∃ N' P' : Nat, IntKind.u64.wrap ((N : Int) + IntKind.u64.wrap ((c : Int) % 128 * (P : Int))) = (N' : Int) ∧ IntKind.u64.wrap ((P : Int) * 128) = (P' : Int) ∧ Hid (P' = 128 ^ (k + 1)) ∧ Hid (N' < 128 ^ (k + 1) ∧ tkS s = tk (k + 1) N' (s.data.toList.drop (k + 1))) := by
  refine ⟨N + c % 128 * 128 ^ k, 128 ^ (k + 1), rsum hP hr.1 (.inl hk), rpow hP hk, rfl, ?_, ?_⟩
  · have hN := hr.1
    have e : (128 : Nat) ^ (k + 1) = 127 * 128 ^ k + 128 ^ k := by rw [Nat.pow_succ]; omega
    have : c % 128 * 128 ^ k ≤ 127 * 128 ^ k := Nat.mul_le_mul_right _ (by omega)
    omega
  · rw [hr.2, hd, tk, hcv, if_neg (by omega), if_neg hc]
theorem drop_bang (s : ByteArray) (k : Nat) (h : k < s.size) : s.data.toList.drop k = s[k]! :: s.data.toList.drop (k + 1) := by
  rw [getElem!_pos s k h]; exact drop_at s k h

set_option maxRecDepth 100000 in
set_option maxHeartbeats 1000000 in
theorem rtake_any (s : ByteArray) (w : World) (hs : s.size ≤ maxLen) :
    Calls Try.prog 23 #[.string s] w fun e w' => e = tkV (tkS s) ∧ w = w' := by
  unfold maxLen at hs
  go_enter Try.func23, Try.ntmps23
  go_wp2
  go_loop [5, 6, 7] (fun n p i => ∃ k N P : Nat, k ≤ 9 ∧ k ≤ s.size ∧ i = .int .i64 k ∧ n = .int .u64 N ∧ p = .int .u64 P ∧ Hid (P = 128 ^ k) ∧ Hid (N < 128 ^ k ∧ tkS s = tk k N (s.data.toList.drop k))) (fun _ _ i => 10 - (intOf i).toNat)
  case atStart => exact ⟨0, 0, 1, by omega, by omega, rfl, rfl, rfl, rfl, ⟨by decide, rfl⟩⟩
  case round =>
    obtain ⟨k, N, P, hk, hks, rfl, rfl, rfl, HP, HR⟩ := hrel
    by_cases hlt : k < s.size
    · have hltI : (k : Int) < (s.size : Int) := by omega
      have hcl : s[k].toNat < 256 := s[k].toNat_lt
      obtain ⟨c, hcv⟩ : ∃ c : Nat, s[k].toNat = c := ⟨_, rfl⟩
      have HT := Lib.hid (drop_bang s k hlt)
      have HC : Hid (s[k]!.toNat = c) := by show s[k]!.toNat = c; rw [getElem!_pos s k hlt]; exact hcv
      rw [hcv] at hcl
      by_cases hk0 : k = 0
      · subst hk0
        by_cases hc : c < 128
        · have hcI : (c : Int) < 128 := by omega
          go_wp2
          go_ret3
          exact ⟨tkV_eq (rway_end HT.out HC.out HP.out HR.out (by omega) (by omega) (by omega) (by omega)), rfl⟩
        · have hcI : ¬ (c : Int) < 128 := by omega
          go_wp2
          obtain ⟨N', P', e1, e2, hP', hR'⟩ := rway_on HT.out HC.out HP.out HR.out (by omega) (by omega)
          go_round
          case rel => exact ⟨0 + 1, N', P', by omega, by omega, rfl, by rw [e1], by rw [e2], hP', hR'⟩
          case measure => simp [intOf]
      · have hk1 : (0 : Int) < (k : Int) := by omega
        by_cases hk9 : k = 9
        · subst hk9
          by_cases hc : c = 0
          · subst hc
            go_wp2
            go_ret3
            exact ⟨by rw [rway_bad HT.out HC.out HR.out (by omega)]; rfl, rfl⟩
          · by_cases hc1 : c = 1
            · subst hc1
              go_wp2
              go_ret3
              exact ⟨tkV_eq (rway_one HT.out HC.out HP.out HR.out (by omega)), rfl⟩
            · have hc2 : (1 : Int) < (c : Int) := by omega
              have hc3 : ((c : Int) == 0) = false := by simp; omega
              clear hc hc1
              go_wp2
              go_ret3
              exact ⟨by rw [rway_bad HT.out HC.out HR.out (by omega)]; rfl, rfl⟩
        · have hk9I : (k : Int) < 9 := by omega
          clear hk9 hk0
          by_cases hc : c = 0
          · subst hc
            go_wp2
            go_ret3
            exact ⟨by rw [rway_bad HT.out HC.out HR.out (by omega)]; rfl, rfl⟩
          · have hc3 : (0 : Int) < (c : Int) := by omega
            clear hc
            by_cases hc : c < 128
            · have hcI : (c : Int) < 128 := by omega
              go_wp2
              go_ret3
              exact ⟨tkV_eq (rway_end HT.out HC.out HP.out HR.out (by omega) (by omega) (by omega) (by omega)), rfl⟩
            · have hcI : ¬ (c : Int) < 128 := by omega
              go_wp2
              obtain ⟨N', P', e1, e2, hP', hR'⟩ := rway_on HT.out HC.out HP.out HR.out (by omega) (by omega)
              go_round
              case rel => exact ⟨k + 1, N', P', by omega, by omega, by go_num, by rw [e1], by rw [e2], hP', hR'⟩
              case measure => simp [intOf]; omega
    · have hltI : ¬ (k : Int) < (s.size : Int) := by omega
      go_wp2
      go_ret3
      exact ⟨by rw [HR.out.2, List.drop_eq_nil_of_le (by simp; omega), tk]; rfl, rfl⟩
end Go.Proofs.Ytldjefnijkefcaa.Vm
