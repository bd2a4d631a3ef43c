/- Frames: the contract of frame.Put over the program. -/
import Derived.Test.YtgihiejbaimljaaFrBase
import Derived.RegionTactic
import Derived.ChangeAlike
namespace Go.Proofs.Ytgihiejbaimljaa.Fr
open Go.RowKit
set_option linter.unusedVariables false
set_option linter.unusedSimpArgs false

/-- A head's bytes. -/
def hd4 (k f : Int) (n : Nat) : ByteArray := ⟨#[UInt8.ofNat k.toNat, UInt8.ofNat f.toNat, UInt8.ofNat (n / 256), UInt8.ofNat (n % 256)]⟩
/-- A frame's bytes, or what is wrong with it. -/
def fpS (k f : Int) (b : ByteArray) : ByteArray × Nat :=
  if k < 1 ∨ 9 < k then (⟨#[]⟩, 4) else if f < 0 ∨ 255 < f then (⟨#[]⟩, 1) else if 1024 < b.size then (⟨#[]⟩, 3) else (hd4 k f b.size ++ b, 0)
def fpV (r : ByteArray × Nat) : Ending := .returned (.tuple #[.string r.1, .int .i64 r.2])
theorem fpS_kind (k f : Int) (b : ByteArray) (h : k < 1 ∨ 9 < k) : fpS k f b = (⟨#[]⟩, 4) := by unfold fpS; rw [if_pos h]
theorem fpS_form (k f : Int) (b : ByteArray) (h : ¬ (k < 1 ∨ 9 < k)) (h2 : f < 0 ∨ 255 < f) : fpS k f b = (⟨#[]⟩, 1) := by unfold fpS; rw [if_neg h, if_pos h2]
theorem fpS_long (k f : Int) (b : ByteArray) (h : ¬ (k < 1 ∨ 9 < k)) (h2 : ¬ (f < 0 ∨ 255 < f)) (h3 : 1024 < b.size) : fpS k f b = (⟨#[]⟩, 3) := by unfold fpS; rw [if_neg h, if_neg h2, if_pos h3]
theorem fpS_good (k f : Int) (b : ByteArray) (h : ¬ (k < 1 ∨ 9 < k)) (h2 : ¬ (f < 0 ∨ 255 < f)) (h3 : ¬ 1024 < b.size) : fpS k f b = (hd4 k f b.size ++ b, 0) := by unfold fpS; rw [if_neg h, if_neg h2, if_neg h3]

theorem hd4_size (k f : Int) (n : Nat) : (hd4 k f n).size = 4 := rfl
theorem hd_conv (k f : Int) (n B : Nat) (w : World) (c0 : w.cell? ⟨B, 0, none⟩ = some (.int .u8 k)) (c1 : w.cell? ⟨B, 1, none⟩ = some (.int .u8 f)) (c2 : w.cell? ⟨B, 2, none⟩ = some (.int .u8 ((n : Int) / 256))) (c3 : w.cell? ⟨B, 3, none⟩ = some (.int .u8 ((n : Int) % 256))) :
    (convert 41 9 (.slice (some ⟨B, 0, none⟩) 4 4)).run Try.prog w = .ok (.string (hd4 k f n)) w := by
  have h := run_convert_bytes_arg (P := Try.prog) w 41 5 Try.underlying41 Try.underlying5 B 0 4 4 [k, f, (n : Int) / 256, (n : Int) % 256] rfl (fun i hi => by
    rw [Nat.zero_add]
    rcases (by omega : i = 0 ∨ i = 1 ∨ i = 2 ∨ i = 3) with rfl | rfl | rfl | rfl
    · exact c0
    · exact c1
    · exact c2
    · exact c3) 9 Try.underlying9
  rw [h]
  have e1 : ((n : Int) / 256).toNat = n / 256 := by omega
  have e2 : ((n : Int) % 256).toNat = n % 256 := by omega
  simp [strOfNums, hd4, e1, e2]

set_option maxRecDepth 100000 in
set_option maxHeartbeats 1000000 in
theorem put_any (k f : Int) (b : ByteArray) (w : World) (h1 : -9223372036854775808 ≤ k) (h2 : k ≤ 9223372036854775807) (h3 : -9223372036854775808 ≤ f) (h4 : f ≤ 9223372036854775807) (hs : b.size ≤ 140737488355327) :
    Calls Try.prog 6 #[.agg #[.int .i64 k, .int .i64 f, .string b]] w fun e w' => e = fpV (fpS k f b) ∧ Below w.heap.size w w' := by
  have hb0 := (Below.refl w.heap.size w).alloc (Nat.le_refl _) (.cells #[.int .i64 k, .int .i64 f, .string b] 23)
  by_cases hk : k < 1 ∨ 9 < k
  · rw [fpS_kind k f b hk]
    go_enter Try.func6, Try.ntmps6
    go_wp2_with (go_at_call 16; refine (iskind_no _ _ hk).mono ?_; rintro e w' ⟨rfl, rfl⟩)
    go_ret2
    exact ⟨rfl, hb0⟩
  · have k1 : 1 ≤ k := by omega
    have k2 : k ≤ 9 := by omega
    by_cases hf : f < 0 ∨ 255 < f
    · rw [fpS_form k f b hk hf]
      rcases hf with hf | hf
      · go_enter Try.func6, Try.ntmps6
        go_wp2_with (go_at_call 16; refine (iskind_yes _ _ k1 k2).mono ?_; rintro e w' ⟨rfl, rfl⟩)
        go_ret2
        exact ⟨rfl, hb0⟩
      · have hf0 : 0 ≤ f := by omega
        go_enter Try.func6, Try.ntmps6
        go_wp2_with (go_at_call 16; refine (iskind_yes _ _ k1 k2).mono ?_; rintro e w' ⟨rfl, rfl⟩)
        go_ret2
        exact ⟨rfl, hb0⟩
    · have f1 : 0 ≤ f := by omega
      have f2 : f ≤ 255 := by omega
      by_cases hn : 1024 < b.size
      · rw [fpS_long k f b hk hf hn]
        have hn' : (1024 : Int) < (b.size : Int) := by omega
        go_enter Try.func6, Try.ntmps6
        go_wp2_with (go_at_call 16; refine (iskind_yes _ _ k1 k2).mono ?_; rintro e w' ⟨rfl, rfl⟩)
        go_ret2
        exact ⟨rfl, hb0⟩
      · rw [fpS_good k f b hk hf hn]
        have hn' : (b.size : Int) ≤ 1024 := by omega
        have hn2 : b.size ≤ 1024 := by omega
        clear hn hf hk
        go_enter Try.func6, Try.ntmps6
        go_wp2_with (go_at_call 16; refine (iskind_yes _ _ k1 k2).mono ?_; rintro e w' ⟨rfl, rfl⟩)
        have hcv := hd_conv k f b.size (w.heap.size + 1) (((w.alloc (.cells #[.int .i64 k, .int .i64 f, .string b] 23)).alloc (.cells #[.int .u8 k, .int .u8 f, .int .u8 ((b.size : Int) / 256), .int .u8 ((b.size : Int) % 256)] 40)).drew) (by rw [World.cell?_drew, World.cell?_alloc_at _ _ _ _ (by simp)]; rfl) (by rw [World.cell?_drew, World.cell?_alloc_at _ _ _ _ (by simp)]; rfl) (by rw [World.cell?_drew, World.cell?_alloc_at _ _ _ _ (by simp)]; rfl) (by rw [World.cell?_drew, World.cell?_alloc_at _ _ _ _ (by simp)]; rfl)
        have hsz := hd4_size k f b.size
        go_region
        go_wp2
        go_ret2
        exact ⟨rfl, (hb0.alloc (by simp) _).drew⟩
end Go.Proofs.Ytgihiejbaimljaa.Fr
