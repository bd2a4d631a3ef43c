/- The contracts of utf.Name and of the reference's Name over the program. -/
import Derived.Test.YtoldmhpfcccbpaaUtWalk
namespace Go.Proofs.Ytoldmhpfcccbpaa.Ut
open Go.RowKit
set_option linter.unusedVariables false
set_option linter.unusedSimpArgs false

/-- May a byte stand at a place of a name? -/
def okB (i : Nat) (c : Nat) : Bool := letB c || (!(i == 0) && (digB c || c == 95))
def nmL : Nat → List UInt8 → Bool
  | _, [] => true
  | i, c :: r => okB i c.toNat && nmL (i + 1) r
def nameS (s : ByteArray) : Bool := decide (1 ≤ s.size ∧ s.size ≤ 16) && nmL 0 s.data.toList
theorem nm_end {s : ByteArray} {k : Nat} (h : nameS s = nmL k (s.data.toList.drop k)) (hk : ¬ k < s.size) : nameS s = true := by
  rw [h, List.drop_eq_nil_of_le (by simp; omega), nmL]
theorem nm_at {s : ByteArray} {k c : Nat} (h : nameS s = nmL k (s.data.toList.drop k)) (hk : k < s.size) (hc : s[k].toNat = c) : nameS s = (okB k c && nmL (k + 1) (s.data.toList.drop (k + 1))) := by
  rw [h, List.drop_eq_getElem_cons (by simpa using hk), nmL, ← hc]; rfl
theorem nm_no {s : ByteArray} {k c : Nat} (h : nameS s = (okB k c && nmL (k + 1) (s.data.toList.drop (k + 1)))) (ho : okB k c = false) : nameS s = false := by rw [h, ho]; rfl
theorem nm_yes {s : ByteArray} {k c : Nat} (h : nameS s = (okB k c && nmL (k + 1) (s.data.toList.drop (k + 1)))) (ho : okB k c = true) : nameS s = nmL (k + 1) (s.data.toList.drop (k + 1)) := by rw [h, ho]; rfl
theorem letB_high (c : Nat) (h : 128 ≤ c) : letB c = false := by unfold letB; simp; omega
theorem digB_high (c : Nat) (h : 128 ≤ c) : digB c = false := by unfold digB; simp; omega

set_option maxRecDepth 100000 in
set_option maxHeartbeats 1000000 in
theorem name_any (s : ByteArray) (w : World) (hs : s.size ≤ maxLen) :
    Calls Try.prog 12 #[.string s] w fun e w' => e = .returned (.bool (nameS s)) ∧ Below w.heap.size w w' := by
  unfold maxLen at hs
  by_cases h1 : s.size < 1
  · have h1I : (s.size : Int) < 1 := by omega
    go_enter Try.func12, Try.ntmps12
    go_wp2
    go_ret
    exact ⟨ret_bool (by unfold nameS; rw [decide_eq_false (by omega)]; rfl), Below.refl _ _⟩
  by_cases h2 : 16 < s.size
  · have h1I : ¬ (s.size : Int) < 1 := by omega
    have h2I : (16 : Int) < (s.size : Int) := by omega
    go_enter Try.func12, Try.ntmps12
    go_wp2
    go_ret
    exact ⟨ret_bool (by unfold nameS; rw [decide_eq_false (by omega)]; rfl), Below.refl _ _⟩
  have h1I : ¬ (s.size : Int) < 1 := by omega
  have h2I : ¬ (16 : Int) < (s.size : Int) := by omega
  have HS : Hid (nameS s = nmL 0 (s.data.toList.drop 0)) := by
    show nameS s = _
    unfold nameS; rw [decide_eq_true (by omega)]; rfl
  go_enter Try.func12, Try.ntmps12
  go_wp2
  go_loopw [] (fun w' => ∃ k : Nat, k ≤ s.size ∧ w' = w.iter s k ∧ Hid (nameS s = nmL k (s.data.toList.drop k))) (fun w' => s.size - w'.iterPos w.heap.size)
  case atStart => exact ⟨0, by omega, rfl, HS⟩
  case round =>
    obtain ⟨k, hk, rfl, HA⟩ := hrel
    clear HS
    by_cases hlt : k < s.size
    · obtain ⟨c, hc⟩ : ∃ c : Nat, s[k].toNat = c := ⟨_, rfl⟩
      have HN := Lib.hid (nm_at HA.out hlt hc)
      by_cases hasc : c < 128
      · have hnx : ∀ ty, (Instr.next (.pointer (some ⟨w.heap.size, 0, none⟩)) true ty).run Try.prog (w.iter s k) = _ := fun ty => run_next_ascii w s k ty hlt (by omega)
        rw [hc] at hnx
        clear hc
        cases hl : letB (c : Int)
        · by_cases hk0 : k = 0
          · have hk1 : ((k : Int) == 0) = true := by simpa using hk0
            have HO : Hid (okB k c = false) := by show okB k c = false; rw [hk0, okB, hl]; rfl
            clear hk0
            go_wp2_with (first | (go_at_call 16; refine (letter_any _ _).mono ?_; rintro e w' ⟨rfl, rfl⟩) | (go_at_call 17; refine (digit_any _ _).mono ?_; rintro e w' ⟨rfl, rfl⟩))
            go_ret
            exact ⟨ret_bool (by rw [nm_no HN.out HO.out]), below_iter w s _⟩
          · have hk1 : ((k : Int) == 0) = false := by simpa using hk0
            cases hd : digB (c : Int)
            · by_cases h95 : c = 95
              · have h951 : ((c : Int) != 95) = false := by simp; omega
                have HO : Hid (okB k c = true) := by show okB k c = true; rw [okB, hl, hd, h95]; simpa using hk0
                clear hk0 h95
                go_wp2_with (first | (go_at_call 16; refine (letter_any _ _).mono ?_; rintro e w' ⟨rfl, rfl⟩) | (go_at_call 17; refine (digit_any _ _).mono ?_; rintro e w' ⟨rfl, rfl⟩))
                go_roundw
                case rel => exact ⟨k + 1, by omega, rfl, nm_yes HN.out HO.out⟩
                case measure => simp; omega
              · have h951 : ((c : Int) != 95) = true := by simp; omega
                have HO : Hid (okB k c = false) := by show okB k c = false; rw [okB, hl, hd]; simpa using fun _ => h95
                clear hk0 h95
                go_wp2_with (first | (go_at_call 16; refine (letter_any _ _).mono ?_; rintro e w' ⟨rfl, rfl⟩) | (go_at_call 17; refine (digit_any _ _).mono ?_; rintro e w' ⟨rfl, rfl⟩))
                go_ret
                exact ⟨ret_bool (by rw [nm_no HN.out HO.out]), below_iter w s _⟩
            · have HO : Hid (okB k c = true) := by show okB k c = true; rw [okB, hl, hd]; simpa using hk0
              clear hk0
              go_wp2_with (first | (go_at_call 16; refine (letter_any _ _).mono ?_; rintro e w' ⟨rfl, rfl⟩) | (go_at_call 17; refine (digit_any _ _).mono ?_; rintro e w' ⟨rfl, rfl⟩))
              go_roundw
              case rel => exact ⟨k + 1, by omega, rfl, nm_yes HN.out HO.out⟩
              case measure => simp; omega
        · have HO : Hid (okB k c = true) := by show okB k c = true; rw [okB, hl]; rfl
          go_wp2_with (first | (go_at_call 16; refine (letter_any _ _).mono ?_; rintro e w' ⟨rfl, rfl⟩) | (go_at_call 17; refine (digit_any _ _).mono ?_; rintro e w' ⟨rfl, rfl⟩))
          go_roundw
          case rel => exact ⟨k + 1, by omega, rfl, nm_yes HN.out HO.out⟩
          case measure => simp; omega
      · have hnx : ∀ ty, (Instr.next (.pointer (some ⟨w.heap.size, 0, none⟩)) true ty).run Try.prog (w.iter s k) = _ := fun ty => run_next_any w s k ty hlt
        have hh := (decode_high s k hlt (by omega)).1
        have HO : Hid (okB k c = false) := by
          show okB k c = false
          rw [okB, letB_high c (by omega), digB_high c (by omega)]
          have : (c == 95) = false := by simp; omega
          rw [this]; simp
        obtain ⟨r, hr⟩ : ∃ r : Nat, (Utf8.decode s k).1 = r := ⟨_, rfl⟩
        rw [hr] at hnx hh
        have hl := letB_high r hh
        have hd := digB_high r hh
        have h95 : ((r : Int) != 95) = true := by simp; omega
        clear hr hc
        by_cases hk0 : k = 0
        · have hk1 : ((k : Int) == 0) = true := by simpa using hk0
          clear hk0
          go_wp2_with (first | (go_at_call 16; refine (letter_any _ _).mono ?_; rintro e w' ⟨rfl, rfl⟩) | (go_at_call 17; refine (digit_any _ _).mono ?_; rintro e w' ⟨rfl, rfl⟩))
          go_ret
          exact ⟨ret_bool (by rw [nm_no HN.out HO.out]), below_iter w s _⟩
        · have hk1 : ((k : Int) == 0) = false := by simpa using hk0
          clear hk0
          go_wp2_with (first | (go_at_call 16; refine (letter_any _ _).mono ?_; rintro e w' ⟨rfl, rfl⟩) | (go_at_call 17; refine (digit_any _ _).mono ?_; rintro e w' ⟨rfl, rfl⟩))
          go_ret
          exact ⟨ret_bool (by rw [nm_no HN.out HO.out]), below_iter w s _⟩
    · have hnx : ∀ ty, (Instr.next (.pointer (some ⟨w.heap.size, 0, none⟩)) true ty).run Try.prog (w.iter s k) = _ := fun ty => run_next_end w s k ty hlt
      go_wp2
      go_ret
      exact ⟨ret_bool (by rw [nm_end HA.out hlt]), below_iter w s _⟩

theorem ok_yes {k c : Nat} (h : ((97 : Int) ≤ c ∧ (c : Int) ≤ 122) ∨ ((65 : Int) ≤ c ∧ (c : Int) ≤ 90) ∨ (¬ k = 0 ∧ (((48 : Int) ≤ c ∧ (c : Int) ≤ 57) ∨ c = 95))) : okB k c = true := by
  unfold okB letB digB
  simp; omega
theorem ok_no {k c : Nat} (h : ¬ (((97 : Int) ≤ c ∧ (c : Int) ≤ 122) ∨ ((65 : Int) ≤ c ∧ (c : Int) ≤ 90) ∨ (¬ k = 0 ∧ (((48 : Int) ≤ c ∧ (c : Int) ≤ 57) ∨ c = 95)))) : okB k c = false := by
  unfold okB letB digB
  simp; omega
set_option maxRecDepth 100000 in
set_option maxHeartbeats 4000000 in
theorem rname_any (s : ByteArray) (w : World) (hs : s.size ≤ maxLen) :
    Calls Try.prog 13 #[.string s] w fun e w' => e = .returned (.bool (nameS s)) ∧ w = w' := by
  unfold maxLen at hs
  by_cases h1 : s.size < 1
  · have h1I : (s.size : Int) < 1 := by omega
    go_enter Try.func13, Try.ntmps13
    go_wp2
    go_ret
    exact ⟨ret_bool (by unfold nameS; rw [decide_eq_false (by omega)]; rfl), rfl⟩
  by_cases h2 : 16 < s.size
  · have h1I : ¬ (s.size : Int) < 1 := by omega
    have h2I : (16 : Int) < (s.size : Int) := by omega
    go_enter Try.func13, Try.ntmps13
    go_wp2
    go_ret
    exact ⟨ret_bool (by unfold nameS; rw [decide_eq_false (by omega)]; rfl), rfl⟩
  have h1I : ¬ (s.size : Int) < 1 := by omega
  have h2I : ¬ (16 : Int) < (s.size : Int) := by omega
  have HS : Hid (nameS s = nmL 0 (s.data.toList.drop 0)) := by
    show nameS s = _
    unfold nameS; rw [decide_eq_true (by omega)]; rfl
  go_enter Try.func13, Try.ntmps13
  go_wp2
  go_loop [3] (fun i => ∃ k : Nat, k ≤ s.size ∧ i = .int .i64 k ∧ Hid (nameS s = nmL k (s.data.toList.drop k))) (fun i => s.size - (intOf i).toNat)
  case atStart => exact ⟨0, by omega, rfl, HS⟩
  case round =>
    obtain ⟨k, hk, rfl, HA⟩ := hrel
    clear HS
    by_cases hlt : k < s.size
    · have hltI : (k : Int) < (s.size : Int) := by omega
      obtain ⟨c, hc⟩ : ∃ c : Nat, s[k].toNat = c := ⟨_, rfl⟩
      have HN := Lib.hid (nm_at HA.out hlt hc)
      have hck : c < 256 := by rw [← hc]; exact s[k].toNat_lt
      go_wp2
      all_goals first
        | (go_round
           case rel => exact ⟨k + 1, by omega, by first | rfl | go_num | (simp only [*]; rfl), nm_yes HN.out (ok_yes (by clear HN HA hc; simp at *; omega))⟩
           case measure => simp [intOf]; omega)
        | (go_ret
           exact ⟨ret_bool (by rw [nm_no HN.out (ok_no (by clear HN HA hc; simp at *; omega))]), rfl⟩)
    · have hltI : ¬ (k : Int) < (s.size : Int) := by omega
      go_wp2
      go_ret
      exact ⟨ret_bool (by rw [nm_end HA.out hlt]), rfl⟩
end Go.Proofs.Ytoldmhpfcccbpaa.Ut
