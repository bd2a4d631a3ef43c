/- Frames: the contract of the reference's Put over the program; what a box of a frame holds. -/
import Derived.Test.YtgihiejbaimljaaFrPut
import Derived.Deep.RegionHeld3
namespace Go.Proofs.Ytgihiejbaimljaa.Fr
open Go.RowKit
set_option linter.unusedVariables false
set_option linter.unusedSimpArgs false

/-- A frame's three cells, and what was there ahead. -/
theorem bx_below {B m : Nat} {k f : Int} {b : ByteArray} {w w1 w2 : World} (h : (w1.cell? ⟨B, 0, none⟩ = some (.int .i64 k) ∧ w1.cell? ⟨B, 1, none⟩ = some (.int .i64 f) ∧ w1.cell? ⟨B, 2, none⟩ = some (.string b)) ∧ Below m w w1) (hb : Below w1.heap.size w1 w2) (hm : m ≤ w1.heap.size) :
    (w2.cell? ⟨B, 0, none⟩ = some (.int .i64 k) ∧ w2.cell? ⟨B, 1, none⟩ = some (.int .i64 f) ∧ w2.cell? ⟨B, 2, none⟩ = some (.string b)) ∧ Below m w w2 := by
  obtain ⟨⟨c0, c1, c2⟩, hB⟩ := h
  have hl := World.block_lt_of_cell? w1 _ c0
  exact ⟨⟨by rw [hb.cell (p := ⟨B, 0, none⟩) hl, c0], by rw [hb.cell (p := ⟨B, 1, none⟩) hl, c1], by rw [hb.cell (p := ⟨B, 2, none⟩) hl, c2]⟩, hB.trans (hb.mono hm)⟩
theorem bx_new (k f : Int) (b : ByteArray) (w : World) (t : TypeId) :
    ((w.alloc (.cells #[.int .i64 k, .int .i64 f, .string b] t)).drew.cell? ⟨w.heap.size, 0, none⟩ = some (.int .i64 k) ∧ (w.alloc (.cells #[.int .i64 k, .int .i64 f, .string b] t)).drew.cell? ⟨w.heap.size, 1, none⟩ = some (.int .i64 f) ∧ (w.alloc (.cells #[.int .i64 k, .int .i64 f, .string b] t)).drew.cell? ⟨w.heap.size, 2, none⟩ = some (.string b)) ∧ Below w.heap.size w (w.alloc (.cells #[.int .i64 k, .int .i64 f, .string b] t)).drew :=
  ⟨⟨by rw [World.cell?_drew, World.cell?_alloc_at _ _ _ _ rfl]; rfl, by rw [World.cell?_drew, World.cell?_alloc_at _ _ _ _ rfl]; rfl, by rw [World.cell?_drew, World.cell?_alloc_at _ _ _ _ rfl]; rfl⟩, ((Below.refl _ _).alloc (Nat.le_refl _) _).drew⟩

theorem str_eq {a b : ByteArray} {e : Int} (h : a = b) : Ending.returned (.tuple #[.string a, .int .i64 e]) = .returned (.tuple #[.string b, .int .i64 e]) := by rw [h]

set_option maxRecDepth 100000 in
set_option maxHeartbeats 1000000 in
theorem rput_any (k f : Int) (b : ByteArray) (w : World) (h1 : -9223372036854775808 ≤ k) (h2 : k ≤ 9223372036854775807) (h3 : -9223372036854775808 ≤ f) (h4 : f ≤ 9223372036854775807) (hs : b.size ≤ 140737488355327) :
    Calls Try.prog 7 #[.agg #[.int .i64 k, .int .i64 f, .string b]] w fun e w' => e = fpV (fpS k f b) ∧ Below w.heap.size w w' := by
  have hb0 := (Below.refl w.heap.size w).alloc (Nat.le_refl _) (.cells #[.int .i64 k, .int .i64 f, .string b] 23)
  by_cases hk : k < 1 ∨ 9 < k
  · rw [fpS_kind k f b hk]
    rcases hk with hk | hk
    · go_enter Try.func7, Try.ntmps7
      go_wp2
      go_ret2
      exact ⟨rfl, hb0⟩
    · have k1 : 1 ≤ k := by omega
      go_enter Try.func7, Try.ntmps7
      go_wp2
      go_ret2
      exact ⟨rfl, hb0⟩
  · have k1 : 1 ≤ k := by omega
    have k2 : k ≤ 9 := by omega
    by_cases hf : f < 0 ∨ 255 < f
    · rw [fpS_form k f b hk hf]
      rcases hf with hf | hf
      · go_enter Try.func7, Try.ntmps7
        go_wp2
        go_ret2
        exact ⟨rfl, hb0⟩
      · have hf0 : 0 ≤ f := by omega
        go_enter Try.func7, Try.ntmps7
        go_wp2
        go_ret2
        exact ⟨rfl, hb0⟩
    · have f1 : 0 ≤ f := by omega
      have f2 : f ≤ 255 := by omega
      by_cases hn : 1024 < b.size
      · rw [fpS_long k f b hk hf hn]
        have hn' : (1024 : Int) < (b.size : Int) := by omega
        go_enter Try.func7, Try.ntmps7
        go_wp2
        go_ret2
        exact ⟨rfl, hb0⟩
      · rw [fpS_good k f b hk hf hn]
        have hn' : (b.size : Int) ≤ 1024 := by omega
        have hn2 : b.size ≤ 1024 := by omega
        clear hn hf hk
        have e1 : IntKind.i64.wrap ((b.size : Int) / 256) = (b.size : Int) / 256 := IntWalk.i64_in _ (by omega)
        have e2 : (b.size : Int).tmod 256 = (b.size : Int) % 256 := Int.tmod_eq_emod_of_nonneg (by omega)
        have e3 : ¬ 9223372036854775807 < 4 + b.size := by omega
        have hS := bx_new k f b w 23
        go_enter Try.func7, Try.ntmps7
        go_wp2
        go_region_held3 (fun w' => (w'.cell? ⟨w.heap.size, 0, none⟩ = some (.int .i64 k) ∧ w'.cell? ⟨w.heap.size, 1, none⟩ = some (.int .i64 f) ∧ w'.cell? ⟨w.heap.size, 2, none⟩ = some (.string b)) ∧ Below w.heap.size w w') (first | exact hS) (first
          | (go_at_call 17; refine (byte_any _ _ (by omega) (by omega)).mono ?_; rintro e w' ⟨rfl, hb⟩; replace hS := bx_below hS hb hS.2.size; clear hb))
        go_wp2
        go_ret2
        refine ⟨str_eq ?_, hS.2⟩
        apply ByteArray.ext
        have t1 : ((b.size : Int) / 256).toNat = b.size / 256 := by omega
        have t2 : ((b.size : Int) % 256).toNat = b.size % 256 := by omega
        simp [hd4, t1, t2]
end Go.Proofs.Ytgihiejbaimljaa.Fr
