/- Keys: the reference's Ints and Texts on lists that are the same. -/
import Derived.Test.YtkbblmjldfinoaaKyCells
import Derived.Deep.QuietTactic
import Derived.BigQuiet
namespace Go.Proofs.Ytkbblmjldfinoaa.Vm
open Go.RowKit
set_option linter.unusedVariables false
set_option linter.unusedSimpArgs false

set_option maxRecDepth 100000 in
set_option maxHeartbeats 1000000 in
theorem rints_same (o o' : Option Addr) (len cap cap' : Nat) (V : Nat → Int) (w : World) (hlen : len ≤ maxLen)
    (hst : ∀ i, i < len → ∃ a a', o = some a ∧ o' = some a' ∧ w.cell? (a.add i) = some (.int .i64 (V i)) ∧ w.cell? (a'.add i) = some (.int .i64 (V i))) :
    Calls Try.prog 16 #[.slice o len cap, .slice o' len cap'] w fun e w' => e = .returned (.bool true) ∧ Below w.heap.size w w' := by
  have hlen2 : len ≤ 9223372036854775807 := by unfold maxLen at hlen; omega
  have hB0 := Below.refl w.heap.size w
  go_enter Try.func16, Try.ntmps16
  go_wp2
  go_loopw [5] (fun i wr => ∃ j, j ≤ len ∧ i = .int .i64 (j : Nat) ∧ Hid (Below w.heap.size w wr)) (fun i _ => len - (intOf i).toNat)
  case atStart => exact ⟨0, by omega, rfl, hB0⟩
  case round =>
    obtain ⟨j, hj, rfl, HB⟩ := hrel
    clear hB0
    by_cases hjl : j < len
    · have hji : (j : Int) < (len : Int) := by omega
      obtain ⟨a, a', rfl, rfl, s0, s1⟩ := hst j hjl
      have t0 : wr.cell? (a.add j) = some (.int .i64 (V j)) := by rw [HB.out.cell (p := a.add j) (World.block_lt_of_cell? w _ s0)]; exact s0
      have t1 : wr.cell? (a'.add j) = some (.int .i64 (V j)) := by rw [HB.out.cell (p := a'.add j) (World.block_lt_of_cell? w _ s1)]; exact s1
      clear s0 s1
      go_wp2
      go_quiet (fail)
      go_wp2
      exact ⟨⟨j + 1, by omega, by go_num, below_drewN HB.out nq⟩, by simp [intOf]; omega⟩
    · have hji : ¬ (j : Int) < (len : Int) := by omega
      go_wp2
      go_ret
      exact ⟨rfl, HB.out⟩
set_option maxRecDepth 100000 in
set_option maxHeartbeats 1000000 in
theorem rtexts_same (o o' : Option Addr) (len cap cap' : Nat) (V : Nat → ByteArray) (w : World) (hlen : len ≤ maxLen)
    (hst : ∀ i, i < len → ∃ a a', o = some a ∧ o' = some a' ∧ w.cell? (a.add i) = some (.string (V i)) ∧ w.cell? (a'.add i) = some (.string (V i))) :
    Calls Try.prog 17 #[.slice o len cap, .slice o' len cap'] w fun e w' => e = .returned (.bool true) ∧ Below w.heap.size w w' := by
  have hlen2 : len ≤ 9223372036854775807 := by unfold maxLen at hlen; omega
  have hB0 := Below.refl w.heap.size w
  go_enter Try.func17, Try.ntmps17
  go_wp2
  go_loopw [5] (fun i wr => ∃ j, j ≤ len ∧ i = .int .i64 (j : Nat) ∧ Hid (Below w.heap.size w wr)) (fun i _ => len - (intOf i).toNat)
  case atStart => exact ⟨0, by omega, rfl, hB0⟩
  case round =>
    obtain ⟨j, hj, rfl, HB⟩ := hrel
    clear hB0
    by_cases hjl : j < len
    · have hji : (j : Int) < (len : Int) := by omega
      obtain ⟨a, a', rfl, rfl, s0, s1⟩ := hst j hjl
      have t0 : wr.cell? (a.add j) = some (.string (V j)) := by rw [HB.out.cell (p := a.add j) (World.block_lt_of_cell? w _ s0)]; exact s0
      have t1 : wr.cell? (a'.add j) = some (.string (V j)) := by rw [HB.out.cell (p := a'.add j) (World.block_lt_of_cell? w _ s1)]; exact s1
      clear s0 s1
      go_wp2
      go_quiet (fail)
      go_wp2
      exact ⟨⟨j + 1, by omega, by go_num, below_drewN HB.out nq⟩, by simp [intOf]; omega⟩
    · have hji : ¬ (j : Int) < (len : Int) := by omega
      go_wp2
      go_ret
      exact ⟨rfl, HB.out⟩

/-- What two slices of the call's own hold that have the same elements. -/
theorem Lt.both {e : TypeId} {B B' : Nat} {v v' : Value} {xs : List Value} {w : World} (h : Lt e B v xs w) (h' : Lt e B' v' xs w) :
    ∃ o o' cap cap', v = .slice o xs.length cap ∧ v' = .slice o' xs.length cap' ∧ xs.length ≤ maxLen ∧ ∀ i u, xs[i]? = some u → ∃ a a', o = some a ∧ o' = some a' ∧ w.cell? (a.add i) = some u ∧ w.cell? (a'.add i) = some u := by
  obtain ⟨o, cap, e1, hm, hc⟩ := h.form
  obtain ⟨o', cap', e2, _, hc'⟩ := h'.form
  refine ⟨o, o', cap, cap', e1, e2, hm, fun i u hu => ?_⟩
  obtain ⟨a, ha, _, h1⟩ := hc i u hu
  obtain ⟨a', ha', _, h2⟩ := hc' i u hu
  exact ⟨a, a', ha, ha', h1, h2⟩
theorem rints_own (B B' : Nat) (v v' : Value) (T : List Nat) (w : World) (h : Lt 3 B v (tgC T) w) (h' : Lt 3 B' v' (tgC T) w) :
    Calls Try.prog 16 #[v, v'] w fun e w' => e = .returned (.bool true) ∧ Below w.heap.size w w' := by
  obtain ⟨o, o', cap, cap', rfl, rfl, hm, hc⟩ := h.both h'
  refine rints_same o o' _ cap cap' (fun i => ((T.getD i 0 : Nat) : Int)) w hm fun i hi => ?_
  have hi' : i < T.length := by rwa [tgC_len] at hi
  exact hc i _ (by simp [tgC, hi'])
theorem rtexts_own (B B' : Nat) (v v' : Value) (L : List ByteArray) (w : World) (h : Lt 9 B v (txC L) w) (h' : Lt 9 B' v' (txC L) w) :
    Calls Try.prog 17 #[v, v'] w fun e w' => e = .returned (.bool true) ∧ Below w.heap.size w w' := by
  obtain ⟨o, o', cap, cap', rfl, rfl, hm, hc⟩ := h.both h'
  refine rtexts_same o o' _ cap cap' (fun i => L.getD i ByteArray.empty) w hm fun i hi => ?_
  have hi' : i < L.length := by rwa [txC_len] at hi
  exact hc i _ (by simp [txC, hi'])
end Go.Proofs.Ytkbblmjldfinoaa.Vm
