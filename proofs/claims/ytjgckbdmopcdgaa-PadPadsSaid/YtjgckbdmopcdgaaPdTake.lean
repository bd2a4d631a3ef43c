/- Padded texts: the contracts of pad.Unpad and the reference's Unpad over the program. -/
import Derived.Test.YtjgckbdmopcdgaaPdPut
namespace Go.Proofs.Ytjgckbdmopcdgaa.Pd
open Go.RowKit Cm
set_option linter.unusedVariables false
set_option linter.unusedSimpArgs false

/-- The text of which bytes are the padded one, or that there is none. -/
def upS (b : ByteArray) : ByteArray × Nat :=
  if b.size < 2 then (⟨#[]⟩, 1) else if b.size < 2 + (bt b 0 * 256 + bt b 1) then (⟨#[]⟩, 1) else if pdS (b.extract 2 (2 + (bt b 0 * 256 + bt b 1))) = (b, 0) then (b.extract 2 (2 + (bt b 0 * 256 + bt b 1)), 0) else (⟨#[]⟩, 1)
def upV (r : ByteArray × Nat) : Ending := .returned (.tuple #[.string r.1, .int .i64 r.2])
theorem upS_short (b : ByteArray) (h : b.size < 2) : upS b = (⟨#[]⟩, 1) := by unfold upS; rw [if_pos h]
theorem upS_cut (b : ByteArray) (h : ¬ b.size < 2) (h2 : b.size < 2 + (bt b 0 * 256 + bt b 1)) : upS b = (⟨#[]⟩, 1) := by unfold upS; rw [if_neg h, if_pos h2]
theorem upS_good (b : ByteArray) (h : ¬ b.size < 2) (h2 : ¬ b.size < 2 + (bt b 0 * 256 + bt b 1)) (h3 : pdS (b.extract 2 (2 + (bt b 0 * 256 + bt b 1))) = (b, 0)) : upS b = (b.extract 2 (2 + (bt b 0 * 256 + bt b 1)), 0) := by unfold upS; rw [if_neg h, if_neg h2, if_pos h3]
theorem upS_bad (b : ByteArray) (h : ¬ b.size < 2) (h2 : ¬ b.size < 2 + (bt b 0 * 256 + bt b 1)) (h3 : ¬ pdS (b.extract 2 (2 + (bt b 0 * 256 + bt b 1))) = (b, 0)) : upS b = (⟨#[]⟩, 1) := by unfold upS; rw [if_neg h, if_neg h2, if_neg h3]

set_option maxRecDepth 100000 in
set_option maxHeartbeats 1000000 in
theorem unpad_any (b : ByteArray) (w : World) (hs : b.size ≤ 281474976710656) :
    Calls Try.prog 12 #[.string b] w fun e w' => e = upV (upS b) ∧ Below w.heap.size w w' := by
  by_cases h2 : b.size < 2
  · rw [upS_short b h2]
    have h2' : (b.size : Int) < 2 := by omega
    go_enter Try.func12, Try.ntmps12
    go_wp2
    go_ret2
    exact ⟨rfl, Below.refl _ _⟩
  · have h2' : ¬ (b.size : Int) < 2 := by omega
    obtain ⟨h, hh⟩ : ∃ h, bt b 0 = h := ⟨_, rfl⟩
    obtain ⟨l, hl⟩ : ∃ l, bt b 1 = l := ⟨_, rfl⟩
    have h256 := bt_lt b 0
    have l256 := bt_lt b 1
    rw [hh] at h256
    rw [hl] at l256
    have i0 : 0 < b.size := by omega
    have i1 : 1 < b.size := by omega
    have j0 : (0 : Int) < (b.size : Int) := by omega
    have j1 : (1 : Int) < (b.size : Int) := by omega
    have c0 : b[0].toNat = h := (bt_at b 0 i0).trans hh
    have c1 : b[1].toNat = l := (bt_at b 1 i1).trans hl
    have hor := or_low h l h256 l256
    have hB : Below w.heap.size w w.drew := (Below.refl w.heap.size w).drew
    by_cases h3 : b.size < 2 + (h * 256 + l)
    · rw [upS_cut b h2 (by rw [hh, hl]; exact h3)]
      have h3' : (b.size : Int) - 2 < (h : Int) * 256 + (l : Int) := by omega
      clear hh hl
      go_enter Try.func12, Try.ntmps12
      go_wp2
      go_region
      go_wp2
      go_ret2
      exact ⟨rfl, hB⟩
    · have h3' : ¬ (b.size : Int) - 2 < (h : Int) * 256 + (l : Int) := by omega
      have h3a : 2 + ((h : Int) * 256 + (l : Int)) ≤ (b.size : Int) := by omega
      have h3b : (2 : Int) ≤ 2 + ((h : Int) * 256 + (l : Int)) := by omega
      have hq : (2 + ((h : Int) * 256 + (l : Int))).toNat = 2 + (h * 256 + l) := by omega
      obtain ⟨S, hS⟩ : ∃ S, b.extract 2 (2 + (h * 256 + l)) = S := ⟨_, rfl⟩
      have hz : S.size ≤ 281474976710656 := by rw [← hS, ByteArray.size_extract]; omega
      have HZ := Lib.hid hz
      have HS := Lib.hid hS
      clear hz
      by_cases hp : pdS S = (b, 0)
      · rw [upS_good b h2 (by rw [hh, hl]; exact h3) (by rw [hh, hl, hS]; exact hp), hh, hl, hS]
        have HP := Lib.hid hp
        clear hh hl hp
        go_enter Try.func12, Try.ntmps12
        go_wp2
        go_region
        go_wp2_with (first | (go_at_call 7; refine (pad_ret _ _ _ HP.out _ HZ.out).mono ?_; rintro e w2 ⟨rfl, hb⟩; replace hB := hB.trans (hb.mono hB.size); clear hb) | (go_at_call 16; refine (clone_any _ _ HZ.out).mono ?_; rintro e w3 ⟨rfl, hb⟩; replace hB := hB.trans (hb.mono hB.size); clear hb))
        go_ret2
        exact ⟨rfl, hB⟩
      · rw [upS_bad b h2 (by rw [hh, hl]; exact h3) (by rw [hh, hl, hS]; exact hp)]
        obtain ⟨x, e, hx⟩ : ∃ x e, pdS S = (x, e) := ⟨_, _, rfl⟩
        have HP := Lib.hid hx
        by_cases he : e = 0
        · subst he
          have hne : (!x.toList == b.toList) = true := txt_ne fun h => hp (by rw [hx, h])
          clear hh hl hp hx
          go_enter Try.func12, Try.ntmps12
          go_wp2
          go_region
          go_wp2_with (first | (go_at_call 7; refine (pad_ret _ _ _ HP.out _ HZ.out).mono ?_; rintro e w2 ⟨rfl, hb⟩; replace hB := hB.trans (hb.mono hB.size); clear hb) | (go_at_call 16; refine (clone_any _ _ HZ.out).mono ?_; rintro e w3 ⟨rfl, hb⟩; replace hB := hB.trans (hb.mono hB.size); clear hb))
          go_ret2
          exact ⟨rfl, hB⟩
        · have heb : ((e : Int) != 0) = true := by simpa using he
          clear hh hl hp hx
          go_enter Try.func12, Try.ntmps12
          go_wp2
          go_region
          go_wp2_with (first | (go_at_call 7; refine (pad_ret _ _ _ HP.out _ HZ.out).mono ?_; rintro e w2 ⟨rfl, hb⟩; replace hB := hB.trans (hb.mono hB.size); clear hb) | (go_at_call 16; refine (clone_any _ _ HZ.out).mono ?_; rintro e w3 ⟨rfl, hb⟩; replace hB := hB.trans (hb.mono hB.size); clear hb))
          go_ret2
          exact ⟨rfl, hB⟩
set_option maxRecDepth 100000 in
set_option maxHeartbeats 1000000 in
theorem runpad_any (b : ByteArray) (w : World) (hs : b.size ≤ 281474976710656) :
    Calls Try.prog 13 #[.string b] w fun e w' => e = upV (upS b) ∧ Below w.heap.size w w' := by
  by_cases h2 : b.size < 2
  · rw [upS_short b h2]
    have h2' : (b.size : Int) < 2 := by omega
    go_enter Try.func13, Try.ntmps13
    go_wp2
    go_ret2
    exact ⟨rfl, Below.refl _ _⟩
  · have h2' : ¬ (b.size : Int) < 2 := by omega
    obtain ⟨h, hh⟩ : ∃ h, bt b 0 = h := ⟨_, rfl⟩
    obtain ⟨l, hl⟩ : ∃ l, bt b 1 = l := ⟨_, rfl⟩
    have h256 := bt_lt b 0
    have l256 := bt_lt b 1
    rw [hh] at h256
    rw [hl] at l256
    have i0 : 0 < b.size := by omega
    have i1 : 1 < b.size := by omega
    have j0 : (0 : Int) < (b.size : Int) := by omega
    have j1 : (1 : Int) < (b.size : Int) := by omega
    have c0 : b[0].toNat = h := (bt_at b 0 i0).trans hh
    have c1 : b[1].toNat = l := (bt_at b 1 i1).trans hl
    have hor := or_low h l h256 l256
    have hB : Below w.heap.size w w.drew := (Below.refl w.heap.size w).drew
    by_cases h3 : b.size < 2 + (h * 256 + l)
    · rw [upS_cut b h2 (by rw [hh, hl]; exact h3)]
      have h3' : (b.size : Int) - 2 < (h : Int) * 256 + (l : Int) := by omega
      clear hh hl
      go_enter Try.func13, Try.ntmps13
      go_wp2
      go_region
      go_wp2
      go_ret2
      exact ⟨rfl, hB⟩
    · have h3' : ¬ (b.size : Int) - 2 < (h : Int) * 256 + (l : Int) := by omega
      have h3a : 2 + ((h : Int) * 256 + (l : Int)) ≤ (b.size : Int) := by omega
      have h3b : (2 : Int) ≤ 2 + ((h : Int) * 256 + (l : Int)) := by omega
      have hq : (2 + ((h : Int) * 256 + (l : Int))).toNat = 2 + (h * 256 + l) := by omega
      obtain ⟨S, hS⟩ : ∃ S, b.extract 2 (2 + (h * 256 + l)) = S := ⟨_, rfl⟩
      have hz : S.size ≤ 281474976710656 := by rw [← hS, ByteArray.size_extract]; omega
      have HZ := Lib.hid hz
      have HS := Lib.hid hS
      clear hz
      by_cases hp : pdS S = (b, 0)
      · rw [upS_good b h2 (by rw [hh, hl]; exact h3) (by rw [hh, hl, hS]; exact hp), hh, hl, hS]
        have HP := Lib.hid hp
        clear hh hl hp
        go_enter Try.func13, Try.ntmps13
        go_wp2
        go_region
        go_wp2_with (first | (go_at_call 8; refine (rpad_ret _ _ _ HP.out _ HZ.out).mono ?_; rintro e w2 ⟨rfl, hb⟩; replace hB := hB.trans (hb.mono hB.size); clear hb))
        go_ret2
        exact ⟨rfl, hB⟩
      · rw [upS_bad b h2 (by rw [hh, hl]; exact h3) (by rw [hh, hl, hS]; exact hp)]
        obtain ⟨x, e, hx⟩ : ∃ x e, pdS S = (x, e) := ⟨_, _, rfl⟩
        have HP := Lib.hid hx
        by_cases he : e = 0
        · subst he
          have hne : (!x.toList == b.toList) = true := txt_ne fun h => hp (by rw [hx, h])
          clear hh hl hp hx
          go_enter Try.func13, Try.ntmps13
          go_wp2
          go_region
          go_wp2_with (first | (go_at_call 8; refine (rpad_ret _ _ _ HP.out _ HZ.out).mono ?_; rintro e w2 ⟨rfl, hb⟩; replace hB := hB.trans (hb.mono hB.size); clear hb))
          go_ret2
          exact ⟨rfl, hB⟩
        · have heb : ((e : Int) != 0) = true := by simpa using he
          clear hh hl hp hx
          go_enter Try.func13, Try.ntmps13
          go_wp2
          go_region
          go_wp2_with (first | (go_at_call 8; refine (rpad_ret _ _ _ HP.out _ HZ.out).mono ?_; rintro e w2 ⟨rfl, hb⟩; replace hB := hB.trans (hb.mono hB.size); clear hb))
          go_ret2
          exact ⟨rfl, hB⟩
theorem unpad_ret (b x : ByteArray) (e : Nat) (h : upS b = (x, e)) (w : World) (hs : b.size ≤ 281474976710656) :
    Calls Try.prog 12 #[.string b] w fun y w' => y = .returned (.tuple #[.string x, .int .i64 e]) ∧ Below w.heap.size w w' :=
  (unpad_any b w hs).mono fun _ _ ⟨h1, h2⟩ => ⟨by rw [h1, h]; rfl, h2⟩
theorem runpad_ret (b x : ByteArray) (e : Nat) (h : upS b = (x, e)) (w : World) (hs : b.size ≤ 281474976710656) :
    Calls Try.prog 13 #[.string b] w fun y w' => y = .returned (.tuple #[.string x, .int .i64 e]) ∧ Below w.heap.size w w' :=
  (runpad_any b w hs).mono fun _ _ ⟨h1, h2⟩ => ⟨by rw [h1, h]; rfl, h2⟩
end Go.Proofs.Ytjgckbdmopcdgaa.Pd
