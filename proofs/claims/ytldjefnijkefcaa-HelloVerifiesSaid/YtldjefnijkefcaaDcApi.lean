/- Dice: what is asked of the program's dice (a state, and what each call does to it), as hypotheses of the laws' walks. -/
import Derived.Test.YtldjefnijkefcaaCmQ
import Derived.Test.YtldjefnijkefcaaDcMix
namespace Go.Proofs.Ytldjefnijkefcaa.Dc
open Go.RowKit Cm
set_option linter.unusedVariables false
set_option linter.unusedSimpArgs false

/-- Numbers as cells. -/
def nC (L : List Nat) : List Value := L.map fun (n : Nat) => .int .u64 (n : Int)
theorem nC_len (L : List Nat) : (nC L).length = L.length := by simp [nC]
theorem nC_one (L : List Nat) : ∀ z ∈ nC L, z.oneCell' = true := fun z hz => by
  obtain ⟨n, _, rfl⟩ := List.mem_map.1 hz
  rfl
theorem nC_app (L M : List Nat) : nC L ++ nC M = nC (L ++ M) := by simp [nC]
theorem infoU64 : ∃ i z, Try.prog.info? 22 = some i ∧ i.zero = some z ∧ i.size = 1 ∧ i.bytes = 8 ∧ z.cells.size = 1 := by
  have h : (Try.prog.info? 22).map (fun i => (i.zero, i.size, i.bytes)) = some (some (.int .u64 0), 1, 8) := by kernel_rfl
  obtain ⟨i, hi, he⟩ := Option.map_eq_some_iff.1 h
  simp only [Prod.mk.injEq] at he
  exact ⟨i, _, hi, he.1, he.2.1, he.2.2, rfl⟩
/-- The dice of block B keep the numbers L. -/
structure Api (Dd : Nat → List Nat → World → Prop) : Prop where
  lt : ∀ {B L w}, Dd B L w → B < w.heap.size
  room : ∀ {B L w}, Dd B L w → L.length ≤ 64
  kept : ∀ {B L} {w w' : World}, Dd B L w → w'.heap[B]? = w.heap[B]? → w.heap.size ≤ w'.heap.size → Dd B L w'
  new : ∀ w, Calls Try.prog 11 #[] w fun e w' => ∃ B, e = .returned (.pointer (some ⟨B, 0, none⟩)) ∧ w.heap.size ≤ B ∧ Below w.heap.size w w' ∧ Dd B [] w'
  put : ∀ B L (n : Nat) w, Dd B L w → n < 18446744073709551616 → Calls Try.prog 13 #[.pointer (some ⟨B, 0, none⟩), .int .u64 n] w fun e w' => e = .returned (.bool (decide (L.length < 64))) ∧ Only B w w' ∧ Dd B (if L.length < 64 then L ++ [n] else L) w'
  take0 : ∀ B w, Dd B [] w → Calls Try.prog 25 #[.pointer (some ⟨B, 0, none⟩)] w fun e w' => e = .returned (.tuple #[.int .u64 0, .bool false]) ∧ Only B w w' ∧ Dd B [] w'
  take1 : ∀ B n L w, Dd B (n :: L) w → Calls Try.prog 25 #[.pointer (some ⟨B, 0, none⟩)] w fun e w' => e = .returned (.tuple #[.int .u64 (n : Nat), .bool true]) ∧ Only B w w' ∧ Dd B L w'
  left : ∀ B L w, Dd B L w → Calls Try.prog 30 #[.pointer (some ⟨B, 0, none⟩)] w fun e w' => e = .returned (.int .i64 (L.length : Nat)) ∧ Only B w w' ∧ Dd B L w'
  putN : ∀ (n : Nat) w, Calls Try.prog 13 #[.pointer none, .int .u64 n] w fun e w' => e = .returned (.bool false) ∧ Below w.heap.size w w'
  takeN : ∀ w, Calls Try.prog 25 #[.pointer none] w fun e w' => e = .returned (.tuple #[.int .u64 0, .bool false]) ∧ Below w.heap.size w w'
  leftN : ∀ w, Calls Try.prog 30 #[.pointer none] w fun e w' => e = .returned (.int .i64 0) ∧ Below w.heap.size w w'
  mix : ∀ (a b : Nat) w, a < 18446744073709551616 → b < 18446744073709551616 → Calls Try.prog 31 #[.int .u64 a, .int .u64 b] w fun e w' => e = .returned (.int .u64 ((mixN a b : Nat) : Int)) ∧ Below w.heap.size w w'
section
variable {Dd : Nat → List Nat → World → Prop}
theorem Api.below (hA : Api Dd) {B : Nat} {L : List Nat} {w w' : World} (h : Dd B L w) (hb : Below w.heap.size w w') : Dd B L w' := hA.kept h (hb.block B (hA.lt h)) hb.size
theorem Api.grown (hA : Api Dd) {B : Nat} {L : List Nat} {w w' : World} {row : Option Nat} (h : Dd B L w) (hg : w.grownBy w' row) (hr : some B ≠ row) : Dd B L w' := hA.kept h (hg.block B (hA.lt h) hr) hg.size
end
end Go.Proofs.Ytldjefnijkefcaa.Dc
