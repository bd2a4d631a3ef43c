/- Frames: the contract of the reference's Take over the program. -/
import Derived.Test.YthfogiogjmgodaaFrTake
namespace Go.Proofs.Ythfogiogjmgodaa.Fr
open Go.RowKit Cm
set_option linter.unusedVariables false
set_option linter.unusedSimpArgs false

def rtV (k f : Int) (x : ByteArray) (n e : Int) : Ending := .returned (.tuple #[.agg #[.int .i64 k, .int .i64 f, .string x], .int .i64 n, .int .i64 e])

set_option maxRecDepth 100000 in
set_option maxHeartbeats 1000000 in
theorem rtake_bad (s : ByteArray) (k f n e : Nat) (h : heS s = (k, f, n, e)) (he : e ≠ 0) (w : World) (hs : s.size ≤ 281474976710656) :
    Calls Try.prog 16 #[.string s] w fun y w' => y = rtV 0 0 ⟨#[]⟩ (-1) e ∧ Below w.heap.size w w' := by
  by_cases h1 : s.size < 4
  · rw [heS_short s h1] at h
    simp only [Prod.mk.injEq] at h
    obtain ⟨rfl, rfl, rfl, rfl⟩ := h
    have h4' : (s.size : Int) < 4 := by omega
    go_enter Try.func16, Try.ntmps16
    go_wp2
    go_returns
    exact ⟨rfl, (Below.refl w.heap.size w).alloc (Nat.le_refl _) _⟩
  · have h4' : ¬ (s.size : Int) < 4 := by omega
    have i0 : 0 < s.size := by omega
    have i1 : 1 < s.size := by omega
    have i2 : 2 < s.size := by omega
    have i3 : 3 < s.size := by omega
    have j0 : (0 : Int) < (s.size : Int) := by omega
    have j1 : (1 : Int) < (s.size : Int) := by omega
    have j2 : (2 : Int) < (s.size : Int) := by omega
    have j3 : (3 : Int) < (s.size : Int) := by omega
    have c0 := bt_at s 0 i0
    have c1 := bt_at s 1 i1
    have c2 := bt_at s 2 i2
    have c3 := bt_at s 3 i3
    by_cases h2 : bt s 0 < 1 ∨ 9 < bt s 0
    · rw [heS_kind s h1 h2] at h
      simp only [Prod.mk.injEq] at h
      obtain ⟨rfl, rfl, rfl, rfl⟩ := h
      rcases h2 with h2 | h2
      · have h2' : (bt s 0 : Int) < 1 := by omega
        go_enter Try.func16, Try.ntmps16
        go_wp2
        go_returns
        exact ⟨rfl, (Below.refl w.heap.size w).alloc (Nat.le_refl _) _⟩
      · have h2' : 9 < (bt s 0 : Int) := by omega
        have h3' : ¬ (bt s 0 : Int) < 1 := by omega
        go_enter Try.func16, Try.ntmps16
        go_wp2
        go_returns
        exact ⟨rfl, (Below.refl w.heap.size w).alloc (Nat.le_refl _) _⟩
    · have k1 : 1 ≤ (bt s 0 : Int) := by omega
      have k2 : (bt s 0 : Int) ≤ 9 := by omega
      have l2 := bt_lt s 2
      have l3 := bt_lt s 3
      by_cases h3 : 1024 < bt s 2 * 256 + bt s 3
      · rw [heS_long s h1 h2 h3] at h
        simp only [Prod.mk.injEq] at h
        obtain ⟨rfl, rfl, rfl, rfl⟩ := h
        have h3' : 1024 < (bt s 2 : Int) * 256 + (bt s 3 : Int) := by omega
        go_enter Try.func16, Try.ntmps16
        go_wp2
        go_region
        go_wp2
        go_returns
        exact ⟨rfl, ((Below.refl w.heap.size w).alloc (Nat.le_refl _) _).drew⟩
      · rw [heS_good s h1 h2 h3] at h
        simp only [Prod.mk.injEq] at h
        omega

theorem rt_eq {k f n : Int} {x : ByteArray} {k' f' n' e : Int} {x' : ByteArray} (h : k = k' ∧ f = f' ∧ n = n' ∧ x = x') : Ending.returned (.tuple #[.agg #[.int .i64 k, .int .i64 f, .string x], .int .i64 n, .int .i64 e]) = rtV k' f' x' n' e := by
  obtain ⟨rfl, rfl, rfl, rfl⟩ := h; rfl

set_option maxRecDepth 100000 in
set_option maxHeartbeats 1000000 in
theorem rtake_short (s : ByteArray) (k f n : Nat) (h : heS s = (k, f, n, 0)) (hz : s.size < 4 + n) (w : World) (hs : s.size ≤ 281474976710656) :
    Calls Try.prog 16 #[.string s] w fun y w' => y = rtV 0 0 ⟨#[]⟩ n 2 ∧ Below w.heap.size w w' := by
  obtain ⟨g0, gk, gf, gn, g4, g5, g6, g7⟩ := heS_room s k f n h
  obtain ⟨a, ha⟩ : ∃ a, bt s 2 = a := ⟨_, rfl⟩
  obtain ⟨b, hb⟩ : ∃ b, bt s 3 = b := ⟨_, rfl⟩
  have l2 := bt_lt s 2
  have l3 := bt_lt s 3
  rw [ha, hb] at gn
  rw [ha] at l2
  rw [hb] at l3
  have h4' : ¬ (s.size : Int) < 4 := by omega
  have i0 : 0 < s.size := by omega
  have i1 : 1 < s.size := by omega
  have i2 : 2 < s.size := by omega
  have i3 : 3 < s.size := by omega
  have j0 : (0 : Int) < (s.size : Int) := by omega
  have j1 : (1 : Int) < (s.size : Int) := by omega
  have j2 : (2 : Int) < (s.size : Int) := by omega
  have j3 : (3 : Int) < (s.size : Int) := by omega
  have c0 : s[0].toNat = k := (bt_at s 0 i0).trans gk
  have c1 : s[1].toNat = f := (bt_at s 1 i1).trans gf
  have c2 : s[2].toNat = a := (bt_at s 2 i2).trans ha
  have c3 : s[3].toNat = b := (bt_at s 3 i3).trans hb
  have k1 : 1 ≤ (k : Int) := by omega
  have k2 : (k : Int) ≤ 9 := by omega
  have hn : (a : Int) * 256 + (b : Int) ≤ 1024 := by omega
  have hN : (n : Int) = (a : Int) * 256 + (b : Int) := by omega
  clear ha hb gk gf h
  have hz' : (s.size : Int) < 4 + ((a : Int) * 256 + (b : Int)) := by omega
  rw [hN]
  clear hN
  go_enter Try.func16, Try.ntmps16
  go_wp2
  go_region
  go_wp2
  go_returns
  exact ⟨rfl, ((Below.refl w.heap.size w).alloc (Nat.le_refl _) _).drew⟩

set_option maxRecDepth 100000 in
set_option maxHeartbeats 1000000 in
theorem rtake_good (s : ByteArray) (k f n : Nat) (h : heS s = (k, f, n, 0)) (hz : ¬ s.size < 4 + n) (w : World) (hs : s.size ≤ 281474976710656) :
    Calls Try.prog 16 #[.string s] w fun y w' => y = rtV k f (s.extract 4 (4 + n)) n 0 ∧ Below w.heap.size w w' := by
  obtain ⟨g0, gk, gf, gn, g4, g5, g6, g7⟩ := heS_room s k f n h
  obtain ⟨a, ha⟩ : ∃ a, bt s 2 = a := ⟨_, rfl⟩
  obtain ⟨b, hb⟩ : ∃ b, bt s 3 = b := ⟨_, rfl⟩
  have l2 := bt_lt s 2
  have l3 := bt_lt s 3
  rw [ha, hb] at gn
  rw [ha] at l2
  rw [hb] at l3
  have h4' : ¬ (s.size : Int) < 4 := by omega
  have i0 : 0 < s.size := by omega
  have i1 : 1 < s.size := by omega
  have i2 : 2 < s.size := by omega
  have i3 : 3 < s.size := by omega
  have j0 : (0 : Int) < (s.size : Int) := by omega
  have j1 : (1 : Int) < (s.size : Int) := by omega
  have j2 : (2 : Int) < (s.size : Int) := by omega
  have j3 : (3 : Int) < (s.size : Int) := by omega
  have c0 : s[0].toNat = k := (bt_at s 0 i0).trans gk
  have c1 : s[1].toNat = f := (bt_at s 1 i1).trans gf
  have c2 : s[2].toNat = a := (bt_at s 2 i2).trans ha
  have c3 : s[3].toNat = b := (bt_at s 3 i3).trans hb
  have k1 : 1 ≤ (k : Int) := by omega
  have k2 : (k : Int) ≤ 9 := by omega
  have hn : (a : Int) * 256 + (b : Int) ≤ 1024 := by omega
  have hN : (n : Int) = (a : Int) * 256 + (b : Int) := by omega
  clear ha hb gk gf h
  have hz' : ¬ (s.size : Int) < 4 + ((a : Int) * 256 + (b : Int)) := by omega
  have hz2 : 4 + ((a : Int) * 256 + (b : Int)) ≤ (s.size : Int) := by omega
  have hz3 : (4 : Int) ≤ 4 + ((a : Int) * 256 + (b : Int)) := by omega
  have hq : (4 + ((a : Int) * 256 + (b : Int))).toNat = 4 + n := by omega
  rw [hN]
  clear hN
  go_enter Try.func16, Try.ntmps16
  go_wp2
  go_region
  go_wp2
  go_region
  go_wp2
  go_returns
  exact ⟨rfl, ((Below.refl w.heap.size w).alloc (Nat.le_refl _) _).drew.drew⟩
end Go.Proofs.Ythfogiogjmgodaa.Fr
