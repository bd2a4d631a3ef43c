/- Padded texts: the contracts of pad.Pad and the reference's Pad over the program. -/
import Derived.Test.YtjgckbdmopcdgaaPdBase
import Derived.Test.YtjgckbdmopcdgaaCmT
import Derived.RegionTactic
import Derived.ChangeAlike
import Derived.Deep.RegionHeld3
namespace Go.Proofs.Ytjgckbdmopcdgaa.Pd
open Go.RowKit Cm
set_option linter.unusedVariables false
set_option linter.unusedSimpArgs false

/-- A length in two bytes. -/
def hd2 (n : Nat) : ByteArray := ⟨#[UInt8.ofNat (n / 256), UInt8.ofNat (n % 256)]⟩
/-- Bytes 0. -/
def zsB (c : Nat) : ByteArray := ⟨(List.replicate c 0).toArray⟩
theorem zsB_size (c : Nat) : (zsB c).size = c := by show (List.replicate c (0 : UInt8)).toArray.size = c; simp
theorem zsB_list (c : Nat) : (zsB c).data.toList = List.replicate c 0 := by show (List.replicate c (0 : UInt8)).toArray.toList = _; simp
/-- A text, padded, or what is wrong. -/
def pdS (s : ByteArray) : ByteArray × Nat := if 1022 < s.size then (⟨#[]⟩, 3) else (hd2 s.size ++ s ++ zsB (clN s.size - 2 - s.size), 0)
def pdV (r : ByteArray × Nat) : Ending := .returned (.tuple #[.string r.1, .int .i64 r.2])
theorem pdS_long (s : ByteArray) (h : 1022 < s.size) : pdS s = (⟨#[]⟩, 3) := by unfold pdS; rw [if_pos h]
theorem pdS_good (s : ByteArray) (h : ¬ 1022 < s.size) : pdS s = (hd2 s.size ++ s ++ zsB (clN s.size - 2 - s.size), 0) := by unfold pdS; rw [if_neg h]
theorem clN_room (n : Nat) (h : n ≤ 1022) : n + 2 ≤ clN n ∧ clN n ≤ 1024 := by
  unfold clN
  repeat' split
  all_goals omega

theorem class_ret (n : Int) (c e : Nat) (h : clS n = (c, e)) (w : World) (h1 : -9223372036854775808 ≤ n) (h2 : n ≤ 9223372036854775807) :
    Calls Try.prog 9 #[.int .i64 n] w fun x w' => x = .returned (.tuple #[.int .i64 c, .int .i64 e]) ∧ w = w' :=
  (class_any n w h1 h2).mono fun _ _ ⟨h1, h2⟩ => ⟨by rw [h1, h]; rfl, h2⟩

theorem hd_conv (n B : Nat) (w : World) (c0 : w.cell? ⟨B, 0, none⟩ = some (.int .u8 ((n : Int) / 256))) (c1 : w.cell? ⟨B, 1, none⟩ = some (.int .u8 ((n : Int) % 256))) :
    (convert 34 9 (.slice (some ⟨B, 0, none⟩) 2 2)).run Try.prog w = .ok (.string (hd2 n)) w := by
  have h := run_convert_bytes_arg (P := Try.prog) w 34 5 Try.underlying34 Try.underlying5 B 0 2 2 [(n : Int) / 256, (n : Int) % 256] rfl (fun i hi => by
    rw [Nat.zero_add]
    rcases (by omega : i = 0 ∨ i = 1) with rfl | rfl
    · exact c0
    · exact c1) 9 Try.underlying9
  rw [h]
  have e1 : ((n : Int) / 256).toNat = n / 256 := by omega
  have e2 : ((n : Int) % 256).toNat = n % 256 := by omega
  simp [strOfNums, hd2, e1, e2]

theorem rep_zero (c : Nat) : (⟨(Lib.repeatL (⟨#[0]⟩ : ByteArray).data.toList c).toArray⟩ : ByteArray) = zsB c := by
  have : (⟨#[0]⟩ : ByteArray).data.toList = List.replicate 1 0 := rfl
  rw [this, Lib.repeatL_replicate, Nat.mul_one]; rfl
theorem repeat_any (c : Nat) (w : World) (hc : c ≤ 1024) :
    Calls Try.prog 14 #[.string ⟨#[0]⟩, .int .i64 c] w fun e w' => e = .returned (.string (zsB c)) ∧ Below w.heap.size w w' :=
  (Try.strings_Repeat ⟨#[0]⟩ c w (by omega) (by have : (⟨#[0]⟩ : ByteArray).size = 1 := rfl; rw [this]; omega)).mono fun _ _ ⟨h1, h2⟩ => ⟨by rw [h1, rep_zero], h2⟩

set_option maxRecDepth 100000 in
set_option maxHeartbeats 1000000 in
theorem pad_any (s : ByteArray) (w : World) (hs : s.size ≤ 281474976710656) :
    Calls Try.prog 7 #[.string s] w fun e w' => e = pdV (pdS s) ∧ Below w.heap.size w w' := by
  by_cases hn : 1022 < s.size
  · rw [pdS_long s hn]
    have hc := clS_long (s.size : Int) (by omega)
    have HC := Lib.hid hc
    clear hc
    go_enter Try.func7, Try.ntmps7
    go_wp2_with (go_at_call 9; refine (class_ret _ _ _ HC.out _ (by omega) (by omega)).mono ?_; rintro e w' ⟨rfl, rfl⟩)
    go_ret2
    exact ⟨rfl, Below.refl _ _⟩
  · rw [pdS_good s hn]
    have hc := clS_good (s.size : Int) (by omega) (by omega)
    rw [Int.toNat_natCast] at hc
    obtain ⟨r1, r2⟩ := clN_room s.size (by omega)
    obtain ⟨c, hcl⟩ : ∃ c, clN s.size = c := ⟨_, rfl⟩
    rw [hcl] at hc r1 r2 ⊢
    have HC := Lib.hid hc
    clear hc hcl
    obtain ⟨k, hk⟩ : ∃ k, c - 2 - s.size = k := ⟨_, rfl⟩
    have hk2 : (c : Int) - 2 - (s.size : Int) = (k : Int) := by omega
    rw [hk]
    have hk3 : k ≤ 1024 := by omega
    clear hk
    have hcv := hd_conv s.size w.heap.size (w.alloc (.cells #[.int .u8 ((s.size : Int) / 256), .int .u8 ((s.size : Int) % 256)] 5)) (by rw [World.cell?_alloc_at _ _ _ _ rfl]; rfl) (by rw [World.cell?_alloc_at _ _ _ _ rfl]; rfl)
    have hB := (Below.refl w.heap.size w).alloc (Nat.le_refl _) (.cells #[.int .u8 ((s.size : Int) / 256), .int .u8 ((s.size : Int) % 256)] 5)
    have hsz : (hd2 s.size).size = 2 := rfl
    have hzz := zsB_size k
    go_enter Try.func7, Try.ntmps7
    go_wp2_with (first
      | (go_at_call 9; refine (class_ret _ _ _ HC.out _ (by omega) (by omega)).mono ?_; rintro e w' ⟨rfl, rfl⟩)
      | (go_at_call 14; refine (repeat_any _ _ hk3).mono ?_; rintro e w' ⟨rfl, hb⟩))
    go_ret2
    exact ⟨rfl, hB.trans (hb.mono hB.size)⟩
theorem pad_ret (s x : ByteArray) (e : Nat) (h : pdS s = (x, e)) (w : World) (hs : s.size ≤ 281474976710656) :
    Calls Try.prog 7 #[.string s] w fun y w' => y = .returned (.tuple #[.string x, .int .i64 e]) ∧ Below w.heap.size w w' :=
  (pad_any s w hs).mono fun _ _ ⟨h1, h2⟩ => ⟨by rw [h1, h]; rfl, h2⟩

theorem rclass_ret (n : Int) (c : Nat) (h : rcN n = c) (w : World) (h1 : -9223372036854775808 ≤ n) (h2 : n ≤ 9223372036854775807) :
    Calls Try.prog 10 #[.int .i64 n] w fun e w' => e = .returned (.int .i64 c) ∧ Below w.heap.size w w' := h ▸ rclass_any n w h1 h2

theorem zs_grow (a : ByteArray) (k : Nat) : a ++ zsB k ++ ⟨#[0]⟩ = a ++ zsB (k + 1) := by
  apply bytes_eq
  rw [app_list, app_list, app_list, zsB_list, zsB_list, List.append_assoc, List.replicate_succ']
theorem hd_bytes (n : Nat) : (⟨#[UInt8.ofNat (n / 256)]⟩ : ByteArray) ++ ⟨#[UInt8.ofNat (n % 256)]⟩ = hd2 n := by
  apply bytes_eq
  rw [app_list]; rfl

set_option maxRecDepth 100000 in
set_option maxHeartbeats 1000000 in
theorem rpad_any (s : ByteArray) (w : World) (hs : s.size ≤ 281474976710656) :
    Calls Try.prog 8 #[.string s] w fun e w' => e = pdV (pdS s) ∧ Below w.heap.size w w' := by
  by_cases hn : 1022 < s.size
  · rw [pdS_long s hn]
    have hc : rcN (s.size : Int) = 0 := by have := rclass_no (s.size : Int) (by omega); omega
    have HC := Lib.hid hc
    clear hc
    go_enter Try.func8, Try.ntmps8
    go_wp2_with (go_at_call 10; refine (rclass_ret _ _ HC.out _ (by omega) (by omega)).mono ?_; rintro e w' ⟨rfl, hb⟩)
    go_ret2
    exact ⟨rfl, hb⟩
  · rw [pdS_good s hn]
    have hc := rcN_good (s.size : Int) (by omega)
    rw [Int.toNat_natCast] at hc
    obtain ⟨r1, r2⟩ := clN_room s.size (by omega)
    obtain ⟨c, hcl⟩ : ∃ c, clN s.size = c := ⟨_, rfl⟩
    rw [hcl] at hc r1 r2 ⊢
    have HC := Lib.hid hc
    clear hc hcl
    obtain ⟨S, hS⟩ : ∃ S, hd2 s.size ++ s = S := ⟨_, rfl⟩
    have hSz : S.size = 2 + s.size := by rw [← hS, ByteArray.size_append]; rfl
    have hc0 : ((c : Int) == 0) = false := by simp; omega
    have e1 : IntKind.i64.wrap ((s.size : Int) / 256) = (s.size : Int) / 256 := IntWalk.i64_in _ (by omega)
    have e2 : (s.size : Int).tmod 256 = (s.size : Int) % 256 := Int.tmod_eq_emod_of_nonneg (by omega)
    go_enter Try.func8, Try.ntmps8
    go_wp2_with (first
      | (go_at_call 10; refine (rclass_ret _ _ HC.out _ (by omega) (by omega)).mono ?_; rintro e w2 ⟨rfl, hb⟩)
      | (go_at_call 15; refine (byte_any _ _ (by omega) (by omega)).mono ?_; rintro e w3 ⟨rfl, hb3⟩; replace hb := hb.trans (hb3.mono hb.size); clear hb3))
    rw [hd_bytes, hS]
    have hB := Lib.hid hb
    clear hb
    go_loopw [5] (fun b wr => ∃ k, b = .string (S ++ zsB k) ∧ 2 + s.size + k ≤ c ∧ Hid (Below w.heap.size w wr)) (fun b _ => c - szOf b)
    case atStart => exact ⟨0, by congr 1; apply bytes_eq; rw [app_list, zsB_list]; simp, by omega, hB⟩
    case round =>
      obtain ⟨k, rfl, hk, HB⟩ := hrel
      clear hB
      have hz : (S ++ zsB k).size = 2 + s.size + k := by rw [ByteArray.size_append, zsB_size]; omega
      have hg := zs_grow S k
      have hz2 : (S ++ zsB (k + 1)).size = 2 + s.size + (k + 1) := by rw [ByteArray.size_append, zsB_size]; omega
      by_cases hlt : 2 + s.size + k < c
      · have hlt' : ((S ++ zsB k).size : Int) < (c : Int) := by omega
        go_wp2_with (go_at_call 15; refine (byte_any _ _ (by omega) (by omega)).mono ?_; rintro e w4 ⟨rfl, hb4⟩; have hB4 := HB.out.trans (hb4.mono HB.out.size); clear hb4)
        go_roundw
        case rel => exact ⟨k + 1, by rw [← hg], by omega, hB4⟩
        case measure => simp only [szOf]; omega
      · have hlt' : ¬ ((S ++ zsB k).size : Int) < (c : Int) := by omega
        have hke : c - 2 - s.size = k := by omega
        go_wp2
        go_ret2
        exact ⟨rfl, HB.out⟩
theorem rpad_ret (s x : ByteArray) (e : Nat) (h : pdS s = (x, e)) (w : World) (hs : s.size ≤ 281474976710656) :
    Calls Try.prog 8 #[.string s] w fun y w' => y = .returned (.tuple #[.string x, .int .i64 e]) ∧ Below w.heap.size w w' :=
  (rpad_any s w hs).mono fun _ _ ⟨h1, h2⟩ => ⟨by rw [h1, h]; rfl, h2⟩
end Go.Proofs.Ytjgckbdmopcdgaa.Pd
