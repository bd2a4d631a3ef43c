/- Values: the contracts of the reference's Digits, Signed, figure, quoted. -/
import Derived.Test.YthgaipdhgckmdaaDoorVaCmp
namespace Go.Proofs.YthgaipdhgckmdaaDoor.Va
open Go.RowKit Cm
set_option linter.unusedVariables false
set_option linter.unusedSimpArgs false

theorem str_of {a b : ByteArray} (h : a.data.toList = b.data.toList) : Ending.returned (.string a) = .returned (.string b) := by
  rw [bytes_eq h]
theorem size_lit (a : Array UInt8) : (⟨a⟩ : ByteArray).size = a.size := rfl
theorem str_val {a b : ByteArray} (h : a.data.toList = b.data.toList) : Value.string a = .string b := by
  rw [bytes_eq h]
set_option maxRecDepth 100000 in
set_option maxHeartbeats 1000000 in
theorem digits_int : ∀ (n : Nat) (x : Int) (w : World), x = n → n ≤ 18446744073709551615 →
    Calls Tryd.prog 29 #[.int .u64 x] w fun e w' => e = .returned (.string ⟨(dgL n).toArray⟩) ∧ Below w.heap.size w w' := by
  intro n
  induction n using Nat.strongRecOn with
  | ind n ih =>
    intro x w hx h2
    subst hx
    by_cases hn : n < 10
    · have hlt : (n : Int) < 10 := by omega
      go_enter Tryd.func29, Tryd.ntmps29
      go_wp2_with (go_at_call 54; refine (byte_any _ _ (by omega) (by omega)).mono ?_; rintro e w' ⟨rfl, hb⟩)
      go_ret
      refine ⟨str_of ?_, hb⟩
      rw [dg_small hn]
      have : ((48 : Int) + (n : Int)).toNat = 48 + n := by omega
      simp [this]
    · have hlt : ¬ (n : Int) < 10 := by omega
      have IH := Lib.hid ih
      clear ih
      have hlen : (dgL (n / 10)).length ≤ 20 := dg_len20 (by omega)
      go_enter Tryd.func29, Tryd.ntmps29
      go_wp2_with (first | (go_at_call 54; refine (byte_any _ _ (by omega) (by omega)).mono ?_; rintro e w' ⟨rfl, hb⟩) | (go_at_call 29; refine (IH.out (n / 10) (by omega) _ _ (by omega) (by omega)).mono ?_; rintro e w'' ⟨rfl, hb2⟩))
      go_ret
      refine ⟨str_of ?_, hb2.trans (hb.mono hb2.size)⟩
      rw [dg_big hn]
      simp
set_option maxRecDepth 100000 in
theorem signed_any (n : Int) (w : World) (h : -9223372036854775808 ≤ n ∧ n ≤ 9223372036854775807) :
    Calls Tryd.prog 28 #[.int .i64 n] w fun e w' => e = .returned (.string ⟨(sgL n).toArray⟩) ∧ Below w.heap.size w w' := by
  obtain ⟨h1, h2⟩ := h
  by_cases hn : 0 ≤ n
  · go_enter Tryd.func28, Tryd.ntmps28
    go_wp2_with (go_at_call 29; refine (digits_int n.toNat _ _ (by omega) (by omega)).mono ?_; rintro e w' ⟨rfl, hb⟩)
    go_ret
    refine ⟨str_of ?_, hb⟩
    unfold sgL
    rw [if_pos hn]
  · have hlen : (dgL (-n).toNat).length ≤ 20 := dg_len20 (by omega)
    go_enter Tryd.func28, Tryd.ntmps28
    go_wp2_with (go_at_call 29; refine (digits_int (-n).toNat _ _ (by omega) (by omega)).mono ?_; rintro e w' ⟨rfl, hb⟩)
    go_ret
    refine ⟨str_of ?_, hb⟩
    unfold sgL
    rw [if_neg (by omega)]
    simp
theorem figure_any (m : Nat) (x : Int) (w : World) (hx : x = m) (hm : m < 16) :
    Calls Tryd.prog 55 #[.int .i64 x] w fun e w' => e = .returned (.string ⟨#[fgB m]⟩) ∧ Below w.heap.size w w' := by
  subst hx
  by_cases hn : m < 10
  · have hlt : (m : Int) < 10 := by omega
    go_enter Tryd.func55, Tryd.ntmps55
    go_wp2_with (go_at_call 54; refine (byte_any _ _ (by omega) (by omega)).mono ?_; rintro e w' ⟨rfl, hb⟩)
    go_ret
    refine ⟨str_of ?_, hb⟩
    unfold fgB
    have : ((48 : Int) + (m : Int)).toNat = 48 + m := by omega
    rw [if_pos hn]; simp [this]
  · have hlt : ¬ (m : Int) < 10 := by omega
    go_enter Tryd.func55, Tryd.ntmps55
    go_wp2_with (go_at_call 54; refine (byte_any _ _ (by omega) (by omega)).mono ?_; rintro e w' ⟨rfl, hb⟩)
    go_ret
    refine ⟨str_of ?_, hb⟩
    unfold fgB
    have : ((97 : Int) + (m : Int) - 10).toNat = 87 + m := by omega
    rw [if_neg hn]; simp [this]

/-- A text's byte between quotes. -/
theorem qu_bt {s : ByteArray} {j : Nat} (h : j < s.size) : (s.data.toList.take (j + 1)).flatMap quB = (s.data.toList.take j).flatMap quB ++ quB (UInt8.ofNat (bt s j)) := by
  have hl : j < s.data.toList.length := by simpa using h
  have e : s.data.toList[j]? = some (UInt8.ofNat (bt s j)) := by
    unfold bt
    rw [List.getD, List.getElem?_eq_getElem hl]
    simp
  rw [List.take_add_one, e]
  simp
theorem qu_one {x : Nat} (hx : x < 256) : quB (UInt8.ofNat x) = if x < 32 ∨ x = 34 ∨ x = 92 ∨ 126 < x then [92, fgB (x / 16), fgB (x % 16)] else [UInt8.ofNat x] := by
  unfold quB
  rw [u8n x hx]
theorem one_byte {s : ByteArray} {j x : Nat} (h : j < s.size) (hx : bt s j = x) : (s.extract j (j + 1)).data.toList = [UInt8.ofNat x] := by
  have hl : j < s.data.toList.length := by simpa using h
  rw [ext_list, ← hx]
  unfold bt
  rw [List.getD, List.getElem?_eq_getElem hl, show j + 1 - j = 1 by omega, List.drop_eq_getElem_cons hl]
  simp
set_option maxRecDepth 100000 in
set_option maxHeartbeats 2000000 in
theorem quoted_any (s : ByteArray) (w : World) (hs : s.size ≤ 2000) :
    Calls Tryd.prog 30 #[.string s] w fun e w' => e = .returned (.string ⟨(quL s.data.toList).toArray⟩) ∧ Below w.heap.size w w' := by
  go_enter Tryd.func30, Tryd.ntmps30
  go_wp2_with (go_at_call 54; refine (byte_any _ _ (by omega) (by omega)).mono ?_; rintro e w1 ⟨rfl, hb1⟩)
  go_loopw [3, 4] (fun o i wr => ∃ j t, j ≤ s.size ∧ i = .int .i64 (j : Nat) ∧ o = .string t ∧ t.size ≤ 3 * j + 1 ∧ Hid (t.data.toList = 34 :: (s.data.toList.take j).flatMap quB) ∧ Hid (Below w.heap.size w wr)) (fun o i _ => s.size - (intOf i).toNat)
  case atStart => exact ⟨0, _, by omega, rfl, rfl, by simp [size_lit], Lib.hid (by simp), hb1⟩
  case round =>
    clear hb1
    obtain ⟨j, t, hj, rfl, rfl, ht, HT, HB⟩ := hrel
    have hsz := HB.out.size
    by_cases hjl : j < s.size
    · have hji : (j : Int) < (s.size : Int) := by omega
      have hbt := bt_at s j hjl
      have hlt := bt_lt s j
      have hnx := Lib.hid (qu_bt hjl)
      have hq := Lib.hid (qu_one hlt)
      obtain ⟨x, hx⟩ : ∃ x, bt s j = x := ⟨_, rfl⟩
      rw [hx] at hbt hlt hnx hq
      have HX := Lib.hid hx
      clear hx
      have e2 : (x : Int).tmod 16 = (x : Int) % 16 := Int.tmod_eq_emod_of_nonneg (by omega)
      by_cases g1 : (x : Int) < 32
      · have HQ := Lib.hid (show x < 32 ∨ x = 34 ∨ x = 92 ∨ 126 < x by omega)
        go_wp2_with (first
          | (go_at_call 54; refine (byte_any _ _ (by omega) (by omega)).mono ?_; rintro e w1 ⟨rfl, hb1⟩)
          | (go_at_call 55; refine (figure_any (x / 16) _ _ (by omega) (by omega)).mono ?_; rintro e w2 ⟨rfl, hb2⟩)
          | (go_at_call 55; refine (figure_any (x % 16) _ _ (by omega) (by omega)).mono ?_; rintro e w3 ⟨rfl, hb3⟩))
        go_roundw
        case rel => exact ⟨j + 1, _, by omega, by go_num, rfl, by simp [size_lit]; omega, Lib.hid (by rw [hnx.out, hq.out, if_pos HQ.out, app_list, HT.out]; simp), HB.out.trans ((hb1.trans ((hb2.trans (hb3.mono hb2.size)).mono hb1.size)).mono hsz)⟩
        case measure => simp [intOf]; omega
      · by_cases g2 : x = 34
        · have HQ := Lib.hid (show x < 32 ∨ x = 34 ∨ x = 92 ∨ 126 < x by omega)
          have f2 : ((x : Int) == 34) = true := by rw [g2]; rfl
          have H2 := Lib.hid g2
          clear g2
          go_wp2_with (first
            | (go_at_call 54; refine (byte_any _ _ (by omega) (by omega)).mono ?_; rintro e w1 ⟨rfl, hb1⟩)
            | (go_at_call 55; refine (figure_any (x / 16) _ _ (by omega) (by omega)).mono ?_; rintro e w2 ⟨rfl, hb2⟩)
            | (go_at_call 55; refine (figure_any (x % 16) _ _ (by omega) (by omega)).mono ?_; rintro e w3 ⟨rfl, hb3⟩))
          go_roundw
          case rel => exact ⟨j + 1, _, by omega, by go_num, rfl, by simp [size_lit]; omega, Lib.hid (by rw [hnx.out, hq.out, if_pos HQ.out, app_list, HT.out]; simp), HB.out.trans ((hb1.trans ((hb2.trans (hb3.mono hb2.size)).mono hb1.size)).mono hsz)⟩
          case measure => simp [intOf]; omega
        · have f2 : ((x : Int) == 34) = false := beq_eq_false_iff_ne.2 (by omega)
          by_cases g3 : x = 92
          · have HQ := Lib.hid (show x < 32 ∨ x = 34 ∨ x = 92 ∨ 126 < x by omega)
            have f3 : ((x : Int) == 92) = true := by rw [g3]; rfl
            have H3 := Lib.hid g3
            clear g3 g2
            go_wp2_with (first
              | (go_at_call 54; refine (byte_any _ _ (by omega) (by omega)).mono ?_; rintro e w1 ⟨rfl, hb1⟩)
              | (go_at_call 55; refine (figure_any (x / 16) _ _ (by omega) (by omega)).mono ?_; rintro e w2 ⟨rfl, hb2⟩)
              | (go_at_call 55; refine (figure_any (x % 16) _ _ (by omega) (by omega)).mono ?_; rintro e w3 ⟨rfl, hb3⟩))
            go_roundw
            case rel => exact ⟨j + 1, _, by omega, by go_num, rfl, by simp [size_lit]; omega, Lib.hid (by rw [hnx.out, hq.out, if_pos HQ.out, app_list, HT.out]; simp), HB.out.trans ((hb1.trans ((hb2.trans (hb3.mono hb2.size)).mono hb1.size)).mono hsz)⟩
            case measure => simp [intOf]; omega
          · have f3 : ((x : Int) == 92) = false := beq_eq_false_iff_ne.2 (by omega)
            by_cases g4 : (126 : Int) < (x : Int)
            · have HQ := Lib.hid (show x < 32 ∨ x = 34 ∨ x = 92 ∨ 126 < x by omega)
              clear g2 g3
              go_wp2_with (first
                | (go_at_call 54; refine (byte_any _ _ (by omega) (by omega)).mono ?_; rintro e w1 ⟨rfl, hb1⟩)
                | (go_at_call 55; refine (figure_any (x / 16) _ _ (by omega) (by omega)).mono ?_; rintro e w2 ⟨rfl, hb2⟩)
                | (go_at_call 55; refine (figure_any (x % 16) _ _ (by omega) (by omega)).mono ?_; rintro e w3 ⟨rfl, hb3⟩))
              go_roundw
              case rel => exact ⟨j + 1, _, by omega, by go_num, rfl, by simp [size_lit]; omega, Lib.hid (by rw [hnx.out, hq.out, if_pos HQ.out, app_list, HT.out]; simp), HB.out.trans ((hb1.trans ((hb2.trans (hb3.mono hb2.size)).mono hb1.size)).mono hsz)⟩
              case measure => simp [intOf]; omega
            · have HQ := Lib.hid (show ¬ (x < 32 ∨ x = 34 ∨ x = 92 ∨ 126 < x) by omega)
              clear g2 g3
              have hls : (s.extract j (j + 1)).size = 1 := by rw [ByteArray.size_extract]; omega
              have hll := Lib.hid (show (s.extract j (j + 1)).data.toList = [UInt8.ofNat x] from one_byte hjl HX.out)
              go_wp2
              go_roundw
              case rel => exact ⟨j + 1, _, by omega, by go_num, rfl, by rw [ByteArray.size_append]; omega, Lib.hid (by rw [hnx.out, hq.out, if_neg HQ.out, app_list, HT.out, hll.out]; simp), HB.out⟩
              case measure => simp [intOf]; omega
    · have hji : ¬ (j : Int) < (s.size : Int) := by omega
      obtain rfl : j = s.size := by omega
      go_wp2_with (go_at_call 54; refine (byte_any _ _ (by omega) (by omega)).mono ?_; rintro e w1 ⟨rfl, hb1⟩)
      go_ret
      refine ⟨str_of ?_, HB.out.trans (hb1.mono hsz)⟩
      rw [app_list, HT.out, List.take_of_length_le (by simp)]
      simp [quL]
end Go.Proofs.YthgaipdhgckmdaaDoor.Va
