/- Padded texts: classes; the contracts of pad.Class, pad.Most and the reference's Class and Byte over the program. -/
import Derived.Test.YtjgckbdmopcdgaaCm
import Derived.Test.YtjgckbdmopcdgaaCmB
import Derived.Test.YtjgckbdmopcdgaaShelf
import Derived.Laws.BytesArg
namespace Go.Proofs.Ytjgckbdmopcdgaa.Pd
open Go.RowKit Cm
set_option linter.unusedVariables false
set_option linter.unusedSimpArgs false

/-- The class of a text of n bytes; 0: there is none. -/
def clN (n : Nat) : Nat := if n ≤ 30 then 32 else if n ≤ 62 then 64 else if n ≤ 126 then 128 else if n ≤ 254 then 256 else if n ≤ 510 then 512 else if n ≤ 1022 then 1024 else 0
/-- What Class answers. -/
def clS (n : Int) : Nat × Nat := if n < 0 then (0, 1) else if 1022 < n then (0, 3) else (clN n.toNat, 0)
def clV (r : Nat × Nat) : Ending := .returned (.tuple #[.int .i64 r.1, .int .i64 r.2])
theorem clV_eq {a b : Int} {r : Nat × Nat} (h : a = r.1 ∧ b = r.2) : Ending.returned (.tuple #[.int .i64 a, .int .i64 b]) = clV r := by
  obtain ⟨rfl, rfl⟩ := h; rfl
theorem clS_neg (n : Int) (h : n < 0) : clS n = (0, 1) := by unfold clS; rw [if_pos h]
theorem clS_long (n : Int) (h : 1022 < n) : clS n = (0, 3) := by unfold clS; rw [if_neg (by omega), if_pos h]
theorem clS_good (n : Int) (h : 0 ≤ n) (h2 : n ≤ 1022) : clS n = (clN n.toNat, 0) := by unfold clS; rw [if_neg (by omega), if_neg (by omega)]
theorem class_is (n : Int) (c : Nat) (h : 0 ≤ n ∧ n ≤ (c : Int) - 2) (h2 : c = 32 ∨ c = 64 ∧ 30 < n ∨ c = 128 ∧ 62 < n ∨ c = 256 ∧ 126 < n ∨ c = 512 ∧ 254 < n ∨ c = 1024 ∧ 510 < n) : (c : Int) = (clS n).1 ∧ (0 : Int) = (clS n).2 := by
  rw [clS_good n h.1 (by omega)]
  refine ⟨?_, rfl⟩
  show (c : Int) = ((clN n.toNat : Nat) : Int)
  unfold clN
  repeat' split
  all_goals omega
theorem ret_int {k : IntKind} {a b : Int} (h : a = b) : Ending.returned (.int k a) = .returned (.int k b) := by rw [h]

set_option maxRecDepth 100000 in
set_option maxHeartbeats 1000000 in
theorem class_any (n : Int) (w : World) (h1 : -9223372036854775808 ≤ n) (h2 : n ≤ 9223372036854775807) :
    Calls Try.prog 9 #[.int .i64 n] w fun e w' => e = clV (clS n) ∧ w = w' := by
  by_cases hn : n < 0
  · rw [clS_neg n hn]
    go_enter Try.func9, Try.ntmps9
    go_wp2
    go_step3
    go_wp2
    rw [Exit.noGoto_ret]
    go_ret2
    exact ⟨rfl, rfl⟩
  · have hn0 : 0 ≤ n := by omega
    go_enter Try.func9, Try.ntmps9
    go_wp2
    go_step3
    go_wp2
    go_step3
    go_wp2
    go_loopw [4] (fun a wr => ∃ c : Nat, a = .int .i64 c ∧ wr = w ∧ (c = 32 ∨ c = 64 ∧ 30 < n ∨ c = 128 ∧ 62 < n ∨ c = 256 ∧ 126 < n ∨ c = 512 ∧ 254 < n ∨ c = 1024 ∧ 510 < n)) (fun a _ => 2048 - (Lib.intOf a).toNat)
    case atStart => exact ⟨32, rfl, rfl, .inl rfl⟩
    case round =>
      obtain ⟨c, rfl, rfl, hr⟩ := hrel
      rcases hr with rfl | ⟨rfl, hc⟩ | ⟨rfl, hc⟩ | ⟨rfl, hc⟩ | ⟨rfl, hc⟩ | ⟨rfl, hc⟩
      · by_cases h : n ≤ 30
        · go_wp2
          rw [Exit.noGoto_ret]
          go_ret2
          exact ⟨clV_eq (class_is n 32 (by omega) (by omega)), rfl⟩
        · go_wp2
          exact ⟨⟨64, rfl, trivial, by omega⟩, by decide⟩
      · by_cases h : n ≤ 62
        · go_wp2
          rw [Exit.noGoto_ret]
          go_ret2
          exact ⟨clV_eq (class_is n 64 (by omega) (by omega)), rfl⟩
        · go_wp2
          exact ⟨⟨128, rfl, trivial, by omega⟩, by decide⟩
      · by_cases h : n ≤ 126
        · go_wp2
          rw [Exit.noGoto_ret]
          go_ret2
          exact ⟨clV_eq (class_is n 128 (by omega) (by omega)), rfl⟩
        · go_wp2
          exact ⟨⟨256, rfl, trivial, by omega⟩, by decide⟩
      · by_cases h : n ≤ 254
        · go_wp2
          rw [Exit.noGoto_ret]
          go_ret2
          exact ⟨clV_eq (class_is n 256 (by omega) (by omega)), rfl⟩
        · go_wp2
          exact ⟨⟨512, rfl, trivial, by omega⟩, by decide⟩
      · by_cases h : n ≤ 510
        · go_wp2
          rw [Exit.noGoto_ret]
          go_ret2
          exact ⟨clV_eq (class_is n 512 (by omega) (by omega)), rfl⟩
        · go_wp2
          exact ⟨⟨1024, rfl, trivial, by omega⟩, by decide⟩
      · by_cases h : n ≤ 1022
        · go_wp2
          rw [Exit.noGoto_ret]
          go_ret2
          exact ⟨clV_eq (class_is n 1024 (by omega) (by omega)), rfl⟩
        · go_wp2
          go_ret2
          exact ⟨by rw [clS_long n (by omega)]; rfl, rfl⟩

theorem most_any (w : World) : Calls Try.prog 11 #[] w fun e w' => e = .returned (.int .i64 1022) ∧ w = w' := by
  go_enter Try.func11, Try.ntmps11
  go_wp2
  go_ret
  exact ⟨rfl, rfl⟩

/-- What the reference's Class answers. -/
def rcN (n : Int) : Nat := if n < 0 then 0 else clN n.toNat
theorem rcN_neg (n : Int) (h : n < 0) : rcN n = 0 := by unfold rcN; rw [if_pos h]
theorem rcN_good (n : Int) (h : 0 ≤ n) : rcN n = clN n.toNat := by unfold rcN; rw [if_neg (by omega)]

theorem rclass_is (n : Int) (c : Nat) (h0 : 0 ≤ n) (h : n ≤ (c : Int) - 2) (h2 : c = 32 ∨ c = 64 ∧ 30 < n ∨ c = 128 ∧ 62 < n ∨ c = 256 ∧ 126 < n ∨ c = 512 ∧ 254 < n ∨ c = 1024 ∧ 510 < n) : (c : Int) = (rcN n : Nat) := by
  rw [rcN_good n h0, clN]
  repeat' split
  all_goals omega

theorem rclass_no (n : Int) (h : 0 ≤ n → 1022 < n) : (0 : Int) = (rcN n : Nat) := by
  rw [rcN]
  split
  · rfl
  · rw [clN]
    repeat' split
    all_goals omega

set_option maxRecDepth 100000 in
set_option maxHeartbeats 1000000 in
theorem rclass_any (n : Int) (w : World) (h1 : -9223372036854775808 ≤ n) (h2 : n ≤ 9223372036854775807) :
    Calls Try.prog 10 #[.int .i64 n] w fun e w' => e = .returned (.int .i64 (rcN n)) ∧ Below w.heap.size w w' := by
  go_enter Try.func10, Try.ntmps10
  go_wp2
  have hB := (Below.refl w.heap.size w).alloc (Nat.le_refl _) (.cells #[.int .i64 32, .int .i64 64, .int .i64 128, .int .i64 256, .int .i64 512, .int .i64 1024] 3)
  have hC := Cs.new w [.int .i64 32, .int .i64 64, .int .i64 128, .int .i64 256, .int .i64 512, .int .i64 1024] 3
  simp only [List.toArray] at hC
  have c0 := hC.cell (i := 0) rfl
  have c1 := hC.cell (i := 1) rfl
  have c2 := hC.cell (i := 2) rfl
  have c3 := hC.cell (i := 3) rfl
  have c4 := hC.cell (i := 4) rfl
  have c5 := hC.cell (i := 5) rfl
  clear hC
  generalize hB' : w.heap.size = B at *
  generalize (w.alloc (.cells #[.int .i64 32, .int .i64 64, .int .i64 128, .int .i64 256, .int .i64 512, .int .i64 1024] 3)) = W at *
  go_loop [4] (fun a => ∃ k : Nat, k ≤ 6 ∧ a = .int .i64 k ∧ (0 ≤ n → (k = 1 → 30 < n) ∧ (k = 2 → 62 < n) ∧ (k = 3 → 126 < n) ∧ (k = 4 → 254 < n) ∧ (k = 5 → 510 < n) ∧ (k = 6 → 1022 < n))) (fun a => 6 - (Lib.intOf a).toNat)
  case atStart => exact ⟨0, by omega, rfl, by omega⟩
  case round =>
    obtain ⟨k, hk, rfl, hr⟩ := hrel
    rcases (by omega : k = 0 ∨ k = 1 ∨ k = 2 ∨ k = 3 ∨ k = 4 ∨ k = 5 ∨ k = 6) with rfl | rfl | rfl | rfl | rfl | rfl | rfl
    · by_cases h0 : n < 0
      · have h0' : ¬ 0 ≤ n := by omega
        go_wp2
        exact ⟨⟨1, by omega, rfl, by omega⟩, by decide⟩
      · have h0' : 0 ≤ n := by omega
        by_cases h : n ≤ 30
        · go_wp2
          go_ret
          exact ⟨ret_int (rclass_is n 32 h0' (by omega) (by omega)), hB⟩
        · go_wp2
          exact ⟨⟨1, by omega, rfl, by omega⟩, by decide⟩
    · by_cases h0 : n < 0
      · have h0' : ¬ 0 ≤ n := by omega
        go_wp2
        exact ⟨⟨2, by omega, rfl, by omega⟩, by decide⟩
      · have h0' : 0 ≤ n := by omega
        by_cases h : n ≤ 62
        · go_wp2
          go_ret
          exact ⟨ret_int (rclass_is n 64 h0' (by omega) (by have := hr h0'; simp at this; omega)), hB⟩
        · go_wp2
          exact ⟨⟨2, by omega, rfl, by omega⟩, by decide⟩
    · by_cases h0 : n < 0
      · have h0' : ¬ 0 ≤ n := by omega
        go_wp2
        exact ⟨⟨3, by omega, rfl, by omega⟩, by decide⟩
      · have h0' : 0 ≤ n := by omega
        by_cases h : n ≤ 126
        · go_wp2
          go_ret
          exact ⟨ret_int (rclass_is n 128 h0' (by omega) (by have := hr h0'; simp at this; omega)), hB⟩
        · go_wp2
          exact ⟨⟨3, by omega, rfl, by omega⟩, by decide⟩
    · by_cases h0 : n < 0
      · have h0' : ¬ 0 ≤ n := by omega
        go_wp2
        exact ⟨⟨4, by omega, rfl, by omega⟩, by decide⟩
      · have h0' : 0 ≤ n := by omega
        by_cases h : n ≤ 254
        · go_wp2
          go_ret
          exact ⟨ret_int (rclass_is n 256 h0' (by omega) (by have := hr h0'; simp at this; omega)), hB⟩
        · go_wp2
          exact ⟨⟨4, by omega, rfl, by omega⟩, by decide⟩
    · by_cases h0 : n < 0
      · have h0' : ¬ 0 ≤ n := by omega
        go_wp2
        exact ⟨⟨5, by omega, rfl, by omega⟩, by decide⟩
      · have h0' : 0 ≤ n := by omega
        by_cases h : n ≤ 510
        · go_wp2
          go_ret
          exact ⟨ret_int (rclass_is n 512 h0' (by omega) (by have := hr h0'; simp at this; omega)), hB⟩
        · go_wp2
          exact ⟨⟨5, by omega, rfl, by omega⟩, by decide⟩
    · by_cases h0 : n < 0
      · have h0' : ¬ 0 ≤ n := by omega
        go_wp2
        exact ⟨⟨6, by omega, rfl, by omega⟩, by decide⟩
      · have h0' : 0 ≤ n := by omega
        by_cases h : n ≤ 1022
        · go_wp2
          go_ret
          exact ⟨ret_int (rclass_is n 1024 h0' (by omega) (by have := hr h0'; simp at this; omega)), hB⟩
        · go_wp2
          exact ⟨⟨6, by omega, rfl, by omega⟩, by decide⟩
    · go_wp2
      go_ret
      exact ⟨ret_int (rclass_no n (fun h0 => by have := hr h0; simp at this; omega)), hB⟩
end Go.Proofs.Ytjgckbdmopcdgaa.Pd
