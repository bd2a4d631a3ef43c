/- The contracts of the small functions of utf and of its reference over the program: letter, digit, more, Rune. -/
import Derived.Test.YthgaipdhgckmdaaDoorChecked
import Derived.Test.YthgaipdhgckmdaaDoorUtMath
import Derived.WalkKit
import Derived.WalkLawsBesides
import Derived.WalkSpells
import Derived.WalkSmall
import Derived.Lib.Hide
import Derived.Lib.Walk
namespace Go.Proofs.YthgaipdhgckmdaaDoor.Ut
open Go.RowKit
set_option linter.unusedVariables false
set_option linter.unusedSimpArgs false

theorem ret_int {k : IntKind} {a b : Int} (h : a = b) : Ending.returned (.int k a) = .returned (.int k b) := by rw [h]
theorem ret_bool {a b : Bool} (h : a = b) : Ending.returned (.bool a) = .returned (.bool b) := by rw [h]

theorem ret_pair {a b : Int} {c : Bool} (h : a = b) : Ending.returned (.tuple #[.int .i64 a, .bool c]) = .returned (.tuple #[.int .i64 b, .bool c]) := by rw [h]
/-- Is a number a letter's, a digit's? -/
def letB (r : Int) : Bool := decide ((97 ≤ r ∧ r ≤ 122) ∨ (65 ≤ r ∧ r ≤ 90))
def digB (r : Int) : Bool := decide (48 ≤ r ∧ r ≤ 57)
set_option maxRecDepth 100000 in
theorem more_yes (s : ByteArray) (i c : Nat) (x : Int) (w : World) (hx : x = (i : Int)) (hs : s.size ≤ maxLen) (hi : i < s.size) (hc : s[i].toNat = c) (h1 : 128 ≤ c) (h2 : c < 192) :
    Calls Tryd.prog 72 #[.string s, .int .i64 x] w fun e w' => e = .returned (.tuple #[.int .i64 (((c - 128 : Nat)) : Int), .bool true]) ∧ w = w' := by
  subst hx
  unfold maxLen at hs
  have hiI : (i : Int) < (s.size : Int) := by omega
  have e0 : (128 : Int) ≤ (c : Int) := by omega
  have e1 : ¬ (c : Int) < 128 := by omega
  have e2 : (c : Int) ≤ 191 := by omega
  go_enter Tryd.func72, Tryd.ntmps72
  go_wp2
  go_ret2
  exact ⟨ret_pair (by omega), rfl⟩
theorem more_no (s : ByteArray) (i c : Nat) (x : Int) (w : World) (hx : x = (i : Int)) (hs : s.size ≤ maxLen) (hi : i < s.size) (hc : s[i].toNat = c) (h1 : ¬ (128 ≤ c ∧ c < 192)) :
    Calls Tryd.prog 72 #[.string s, .int .i64 x] w fun e w' => e = .returned (.tuple #[.int .i64 0, .bool false]) ∧ w = w' := by
  subst hx
  unfold maxLen at hs
  have hiI : (i : Int) < (s.size : Int) := by omega
  go_enter Tryd.func72, Tryd.ntmps72
  by_cases e1 : c < 128
  · go_wp2
    go_ret2
    exact ⟨rfl, rfl⟩
  · have e2 : (191 : Int) < (c : Int) := by omega
    have e3 : ¬ (c : Int) < 128 := by omega
    go_wp2
    go_ret2
    exact ⟨rfl, rfl⟩
theorem more_end (s : ByteArray) (i : Nat) (x : Int) (w : World) (hx : x = (i : Int)) (hs : s.size ≤ maxLen) (hi : ¬ i < s.size) :
    Calls Tryd.prog 72 #[.string s, .int .i64 x] w fun e w' => e = .returned (.tuple #[.int .i64 0, .bool false]) ∧ w = w' := by
  subst hx
  unfold maxLen at hs
  have hiI : ¬ (i : Int) < (s.size : Int) := by omega
  go_enter Tryd.func72, Tryd.ntmps72
  go_wp2
  go_ret2
  exact ⟨rfl, rfl⟩

theorem cast_sub {a b : Nat} (h : b ≤ a) : ((a - b : Nat) : Int) = (a : Int) - (b : Int) := by omega
theorem pow_lt {N : Nat} (j : Nat) (h : j ≤ 4) (hN : N < 64 ^ j) : N < 16777216 := by
  have : (64 : Nat) ^ j ≤ 64 ^ 4 := Nat.pow_le_pow_right (by decide) h
  have e : (64 : Nat) ^ 4 = 16777216 := by decide
  omega
theorem rune_step (k least j N : Nat) (s : ByteArray) (i d : Nat) (hj : j < k) (h : i + j < s.size) (hd : s[i + j].toNat = d) :
    goR k least (k - j) N (s.data.toList.drop (i + j)) = if 128 ≤ d ∧ d < 192 then goR k least (k - (j + 1)) (N * 64 + (d - 128)) (s.data.toList.drop (i + (j + 1))) else 0 := by
  have e : s.data.toList.drop (i + j) = s[i + j] :: s.data.toList.drop (i + (j + 1)) := by
    rw [List.drop_eq_getElem_cons (by simpa using h)]; rfl
  rw [e, show k - j = (k - (j + 1)) + 1 by omega, goR, hd]
  simp only [contB, decide_eq_true_eq]
theorem rune_end (k least j N : Nat) (s : ByteArray) (i : Nat) (hj : ¬ j < k) :
    goR k least (k - j) N (s.data.toList.drop (i + j)) = if N < least ∨ 1114112 ≤ N ∨ (55296 ≤ N ∧ N < 57344) then 0 else k := by
  rw [show k - j = 0 by omega, go0]
theorem rune_stop (k least j N : Nat) (s : ByteArray) (i : Nat) (hj : j < k) (h : ¬ i + j < s.size) :
    goR k least (k - j) N (s.data.toList.drop (i + j)) = 0 := by
  rw [List.drop_eq_nil_of_le (by simp; omega), show k - j = (k - (j + 1)) + 1 by omega, goR]
set_option maxRecDepth 100000 in
set_option maxHeartbeats 4000000 in
theorem rune_any (s : ByteArray) (at' : Nat) (w : World) (hs : s.size ≤ 1125899906842624) (hi : at' < s.size) :
    Calls Tryd.prog 64 #[.string s, .int .i64 at'] w fun e w' => e = .returned (.int .i64 (rk (s.data.toList.drop at'))) ∧ w = w' := by
  have HM : Hid (s.size ≤ maxLen) := by show s.size ≤ maxLen; unfold maxLen; omega
  have hiI : (at' : Int) < (s.size : Int) := by omega
  obtain ⟨c, hc⟩ : ∃ c : Nat, s[at'].toNat = c := ⟨_, rfl⟩
  have hcl : s[at'].toNat < 256 := s[at'].toNat_lt
  have hd : s.data.toList.drop at' = s[at'] :: s.data.toList.drop (at' + 1) := by
    rw [List.drop_eq_getElem_cons (by simpa using hi)]; rfl
  have H : Hid (rk (s.data.toList.drop at') = if c < 128 then 1 else if c < 192 then 0 else if c < 224 then goR 2 128 1 (c - 192) (s.data.toList.drop (at' + 1))
    else if c < 240 then goR 3 2048 2 (c - 224) (s.data.toList.drop (at' + 1)) else if c < 248 then goR 4 65536 3 (c - 240) (s.data.toList.drop (at' + 1)) else 0) := by
    show _ = _
    rw [hd, rk, hc]
  rw [hc] at hcl
  clear hd
  by_cases c1 : c < 128
  · have k1 : (c : Int) < 128 := by omega
    go_enter Tryd.func64, Tryd.ntmps64
    go_wp2
    go_ret
    exact ⟨ret_int (by rw [H.out, if_pos c1]; rfl), rfl⟩
  · have k1 : ¬ (c : Int) < 128 := by omega
    by_cases c2 : c < 192
    · have c3 := c2; have c4 := c2; have c5 := c2
      have k2 : (c : Int) < 192 := by omega
      go_enter Tryd.func64, Tryd.ntmps64
      go_wp2
      go_loop [6, 9] (fun n i => i = .int .i64 1 ∧ n = .int .i64 0) (fun _ _ => 0)
      case atStart => exact ⟨rfl, rfl⟩
      case round =>
        obtain ⟨rfl, rfl⟩ := hrel
        go_wp2
        go_ret
        exact ⟨ret_int (by rw [H.out]; simp [c1, c2, c3, c4, c5]), rfl⟩
    · have k2 : ¬ (c : Int) < 192 := by omega
      by_cases c3 : c < 224
      · have c4 := c3; have c5 := c3
        have k3 : (c : Int) < 224 := by omega
        go_enter Tryd.func64, Tryd.ntmps64
        go_wp2
        go_loop [6, 9] (fun n i => ∃ j N : Nat, 1 ≤ j ∧ j ≤ 2 ∧ i = .int .i64 j ∧ n = .int .i64 N ∧ Hid (N < 64 ^ j ∧ goR 2 128 (2 - j) N (s.data.toList.drop (at' + j)) = rk (s.data.toList.drop at'))) (fun _ i => 2 - (intOf i).toNat)
        case atStart => exact ⟨1, c - 192, by omega, by omega, rfl, by rw [cast_sub (by omega)]; rfl, by omega, by rw [H.out]; simp [c1, c2, c3, c4, c5]⟩
        case round =>
          obtain ⟨j, N, hj1, hjk, rfl, rfl, HR⟩ := hrel
          have hN : N < 16777216 := pow_lt j (by omega) HR.out.1
          by_cases hj : j < 2
          · have hjI : (j : Int) < 2 := by omega
            by_cases hlt : at' + j < s.size
            · obtain ⟨d, hdv⟩ : ∃ d : Nat, s[at' + j].toNat = d := ⟨_, rfl⟩
              have HD := Lib.hid hdv
              have HS := Lib.hid (rune_step 2 128 j N s at' d hj hlt hdv)
              clear hdv
              by_cases hc2 : 128 ≤ d ∧ d < 192
              · obtain ⟨g1, g2⟩ := hc2
                go_wp2_with (go_at_call 72; refine (more_yes s (at' + j) d _ _ (by omega) HM.out hlt HD.out g1 g2).mono ?_; rintro e w' ⟨rfl, rfl⟩)
                go_round
                case rel => exact ⟨j + 1, N * 64 + (d - 128), by omega, by omega, by go_num, by congr 1, by have := HR.out.1; rw [Nat.pow_succ]; omega, by rw [← HR.out.2, HS.out, if_pos ⟨g1, g2⟩]⟩
                case measure => simp [intOf]; omega
              · go_wp2_with (go_at_call 72; refine (more_no s (at' + j) d _ _ (by omega) HM.out hlt HD.out hc2).mono ?_; rintro e w' ⟨rfl, rfl⟩)
                go_ret
                exact ⟨ret_int (by rw [← HR.out.2, HS.out, if_neg hc2]; rfl), rfl⟩
            · have HS := Lib.hid (rune_stop 2 128 j N s at' hj hlt)
              go_wp2_with (go_at_call 72; refine (more_end s (at' + j) _ _ (by omega) HM.out hlt).mono ?_; rintro e w' ⟨rfl, rfl⟩)
              go_ret
              exact ⟨ret_int (by rw [← HR.out.2, HS.out]; rfl), rfl⟩
          · have hjI : ¬ (j : Int) < 2 := by omega
            have HS := Lib.hid (rune_end 2 128 j N s at' hj)
            have g0 : (0 : Int) ≤ (N : Int) := by omega
            have g1 : (N : Int) < 16777216 := by omega
            clear hN
            generalize hMN : (N : Int) = M at g0 g1 ⊢
            have HN := Lib.hid hMN
            clear hMN
            by_cases a1 : M < 128
            · go_wp2
              go_ret
              exact ⟨ret_int (by rw [← HR.out.2, HS.out, if_pos (by have := HN.out; omega)]; rfl), rfl⟩
            · by_cases a2 : M < 55296
              · have b3 : ¬ (1114112 : Int) ≤ M := by omega
                go_wp2
                go_ret
                exact ⟨ret_int (by rw [← HR.out.2, HS.out, if_neg (by have := HN.out; omega)]; rfl), rfl⟩
              · by_cases a4 : M < 57344
                · have b3 : ¬ (1114112 : Int) ≤ M := by omega
                  go_wp2
                  go_ret
                  exact ⟨ret_int (by rw [← HR.out.2, HS.out, if_pos (by have := HN.out; omega)]; rfl), rfl⟩
                · by_cases b3 : (1114112 : Int) ≤ M
                  · go_wp2
                    go_ret
                    exact ⟨ret_int (by rw [← HR.out.2, HS.out, if_pos (by have := HN.out; omega)]; rfl), rfl⟩
                  · go_wp2
                    go_ret
                    exact ⟨ret_int (by rw [← HR.out.2, HS.out, if_neg (by have := HN.out; omega)]; rfl), rfl⟩
      · have k3 : ¬ (c : Int) < 224 := by omega
        by_cases c4 : c < 240
        · have c5 := c4
          have k4 : (c : Int) < 240 := by omega
          go_enter Tryd.func64, Tryd.ntmps64
          go_wp2
          go_loop [6, 9] (fun n i => ∃ j N : Nat, 1 ≤ j ∧ j ≤ 3 ∧ i = .int .i64 j ∧ n = .int .i64 N ∧ Hid (N < 64 ^ j ∧ goR 3 2048 (3 - j) N (s.data.toList.drop (at' + j)) = rk (s.data.toList.drop at'))) (fun _ i => 3 - (intOf i).toNat)
          case atStart => exact ⟨1, c - 224, by omega, by omega, rfl, by rw [cast_sub (by omega)]; rfl, by omega, by rw [H.out]; simp [c1, c2, c3, c4, c5]⟩
          case round =>
            obtain ⟨j, N, hj1, hjk, rfl, rfl, HR⟩ := hrel
            have hN : N < 16777216 := pow_lt j (by omega) HR.out.1
            by_cases hj : j < 3
            · have hjI : (j : Int) < 3 := by omega
              by_cases hlt : at' + j < s.size
              · obtain ⟨d, hdv⟩ : ∃ d : Nat, s[at' + j].toNat = d := ⟨_, rfl⟩
                have HD := Lib.hid hdv
                have HS := Lib.hid (rune_step 3 2048 j N s at' d hj hlt hdv)
                clear hdv
                by_cases hc2 : 128 ≤ d ∧ d < 192
                · obtain ⟨g1, g2⟩ := hc2
                  go_wp2_with (go_at_call 72; refine (more_yes s (at' + j) d _ _ (by omega) HM.out hlt HD.out g1 g2).mono ?_; rintro e w' ⟨rfl, rfl⟩)
                  go_round
                  case rel => exact ⟨j + 1, N * 64 + (d - 128), by omega, by omega, by go_num, by congr 1, by have := HR.out.1; rw [Nat.pow_succ]; omega, by rw [← HR.out.2, HS.out, if_pos ⟨g1, g2⟩]⟩
                  case measure => simp [intOf]; omega
                · go_wp2_with (go_at_call 72; refine (more_no s (at' + j) d _ _ (by omega) HM.out hlt HD.out hc2).mono ?_; rintro e w' ⟨rfl, rfl⟩)
                  go_ret
                  exact ⟨ret_int (by rw [← HR.out.2, HS.out, if_neg hc2]; rfl), rfl⟩
              · have HS := Lib.hid (rune_stop 3 2048 j N s at' hj hlt)
                go_wp2_with (go_at_call 72; refine (more_end s (at' + j) _ _ (by omega) HM.out hlt).mono ?_; rintro e w' ⟨rfl, rfl⟩)
                go_ret
                exact ⟨ret_int (by rw [← HR.out.2, HS.out]; rfl), rfl⟩
            · have hjI : ¬ (j : Int) < 3 := by omega
              have HS := Lib.hid (rune_end 3 2048 j N s at' hj)
              have g0 : (0 : Int) ≤ (N : Int) := by omega
              have g1 : (N : Int) < 16777216 := by omega
              clear hN
              generalize hMN : (N : Int) = M at g0 g1 ⊢
              have HN := Lib.hid hMN
              clear hMN
              by_cases a1 : M < 2048
              · go_wp2
                go_ret
                exact ⟨ret_int (by rw [← HR.out.2, HS.out, if_pos (by have := HN.out; omega)]; rfl), rfl⟩
              · by_cases a2 : M < 55296
                · have b3 : ¬ (1114112 : Int) ≤ M := by omega
                  go_wp2
                  go_ret
                  exact ⟨ret_int (by rw [← HR.out.2, HS.out, if_neg (by have := HN.out; omega)]; rfl), rfl⟩
                · by_cases a4 : M < 57344
                  · have b3 : ¬ (1114112 : Int) ≤ M := by omega
                    go_wp2
                    go_ret
                    exact ⟨ret_int (by rw [← HR.out.2, HS.out, if_pos (by have := HN.out; omega)]; rfl), rfl⟩
                  · by_cases b3 : (1114112 : Int) ≤ M
                    · go_wp2
                      go_ret
                      exact ⟨ret_int (by rw [← HR.out.2, HS.out, if_pos (by have := HN.out; omega)]; rfl), rfl⟩
                    · go_wp2
                      go_ret
                      exact ⟨ret_int (by rw [← HR.out.2, HS.out, if_neg (by have := HN.out; omega)]; rfl), rfl⟩
        · have k4 : ¬ (c : Int) < 240 := by omega
          by_cases c5 : c < 248
          · have k5 : (c : Int) < 248 := by omega
            go_enter Tryd.func64, Tryd.ntmps64
            go_wp2
            go_loop [6, 9] (fun n i => ∃ j N : Nat, 1 ≤ j ∧ j ≤ 4 ∧ i = .int .i64 j ∧ n = .int .i64 N ∧ Hid (N < 64 ^ j ∧ goR 4 65536 (4 - j) N (s.data.toList.drop (at' + j)) = rk (s.data.toList.drop at'))) (fun _ i => 4 - (intOf i).toNat)
            case atStart => exact ⟨1, c - 240, by omega, by omega, rfl, by rw [cast_sub (by omega)]; rfl, by omega, by rw [H.out]; simp [c1, c2, c3, c4, c5]⟩
            case round =>
              obtain ⟨j, N, hj1, hjk, rfl, rfl, HR⟩ := hrel
              have hN : N < 16777216 := pow_lt j (by omega) HR.out.1
              by_cases hj : j < 4
              · have hjI : (j : Int) < 4 := by omega
                by_cases hlt : at' + j < s.size
                · obtain ⟨d, hdv⟩ : ∃ d : Nat, s[at' + j].toNat = d := ⟨_, rfl⟩
                  have HD := Lib.hid hdv
                  have HS := Lib.hid (rune_step 4 65536 j N s at' d hj hlt hdv)
                  clear hdv
                  by_cases hc2 : 128 ≤ d ∧ d < 192
                  · obtain ⟨g1, g2⟩ := hc2
                    go_wp2_with (go_at_call 72; refine (more_yes s (at' + j) d _ _ (by omega) HM.out hlt HD.out g1 g2).mono ?_; rintro e w' ⟨rfl, rfl⟩)
                    go_round
                    case rel => exact ⟨j + 1, N * 64 + (d - 128), by omega, by omega, by go_num, by congr 1, by have := HR.out.1; rw [Nat.pow_succ]; omega, by rw [← HR.out.2, HS.out, if_pos ⟨g1, g2⟩]⟩
                    case measure => simp [intOf]; omega
                  · go_wp2_with (go_at_call 72; refine (more_no s (at' + j) d _ _ (by omega) HM.out hlt HD.out hc2).mono ?_; rintro e w' ⟨rfl, rfl⟩)
                    go_ret
                    exact ⟨ret_int (by rw [← HR.out.2, HS.out, if_neg hc2]; rfl), rfl⟩
                · have HS := Lib.hid (rune_stop 4 65536 j N s at' hj hlt)
                  go_wp2_with (go_at_call 72; refine (more_end s (at' + j) _ _ (by omega) HM.out hlt).mono ?_; rintro e w' ⟨rfl, rfl⟩)
                  go_ret
                  exact ⟨ret_int (by rw [← HR.out.2, HS.out]; rfl), rfl⟩
              · have hjI : ¬ (j : Int) < 4 := by omega
                have HS := Lib.hid (rune_end 4 65536 j N s at' hj)
                have g0 : (0 : Int) ≤ (N : Int) := by omega
                have g1 : (N : Int) < 16777216 := by omega
                clear hN
                generalize hMN : (N : Int) = M at g0 g1 ⊢
                have HN := Lib.hid hMN
                clear hMN
                by_cases a1 : M < 65536
                · go_wp2
                  go_ret
                  exact ⟨ret_int (by rw [← HR.out.2, HS.out, if_pos (by have := HN.out; omega)]; rfl), rfl⟩
                · have a2 : ¬ M < 55296 := by omega
                  have a4 : ¬ M < 57344 := by omega
                  by_cases b3 : (1114112 : Int) ≤ M
                  · go_wp2
                    go_ret
                    exact ⟨ret_int (by rw [← HR.out.2, HS.out, if_pos (by have := HN.out; omega)]; rfl), rfl⟩
                  · go_wp2
                    go_ret
                    exact ⟨ret_int (by rw [← HR.out.2, HS.out, if_neg (by have := HN.out; omega)]; rfl), rfl⟩
          · have k5 : ¬ (c : Int) < 248 := by omega
            go_enter Tryd.func64, Tryd.ntmps64
            go_wp2
            go_loop [6, 9] (fun n i => i = .int .i64 1 ∧ n = .int .i64 0) (fun _ _ => 0)
            case atStart => exact ⟨rfl, rfl⟩
            case round =>
              obtain ⟨rfl, rfl⟩ := hrel
              go_wp2
              go_ret
              exact ⟨ret_int (by rw [H.out]; simp [c1, c2, c3, c4, c5]), rfl⟩
end Go.Proofs.YthgaipdhgckmdaaDoor.Ut
