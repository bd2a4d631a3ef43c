/- Tags that were issued: what is asked of the program's tables (a state, and what each call does to it), as hypotheses of the laws' walks; the law's example. -/
import Derived.Test.YtldjefnijkefcaaDcApi
import Derived.Test.YtldjefnijkefcaaCmF
import Derived.Test.YtldjefnijkefcaaMcMath
namespace Go.Proofs.Ytldjefnijkefcaa.Mc
open Go.RowKit Cm Dc
set_option linter.unusedVariables false
set_option linter.unusedSimpArgs false

abbrev I64 (n : Int) : Prop := -9223372036854775808 ≤ n ∧ n ≤ 9223372036854775807
/-- The table of block B has the epochs E and the tags T (0: none). -/
structure Api (Dd : Nat → List Nat → World → Prop) (Mt : Nat → (Nat → Nat) → (Nat → Nat) → World → Prop) : Prop where
  lt : ∀ {B E T w}, Mt B E T w → B < w.heap.size
  kept : ∀ {B E T} {w w' : World}, Mt B E T w → w'.heap[B]? = w.heap[B]? → w.heap.size ≤ w'.heap.size → Mt B E T w'
  new : ∀ w, Calls Try.prog 12 #[] w fun e w' => ∃ B, e = .returned (.pointer (some ⟨B, 0, none⟩)) ∧ w.heap.size ≤ B ∧ Below w.heap.size w w' ∧ Mt B (fun _ => 0) (fun _ => 0) w'
  issue : ∀ B D (o : Nat) E T n L w, Mt B E T w → Dd D (n :: L) w → B ≠ D → o ≤ 8 → n < 18446744073709551616 → E o < 1099511627776 → Calls Try.prog 14 #[.pointer (some ⟨B, 0, none⟩), .int .i64 (o : Int), .pointer (some ⟨D, 0, none⟩)] w
    fun e w' => e = .returned (.tuple #[.int .i64 ((E o + 1 : Nat) : Int), .int .u64 ((tagN n (E o + 1) o : Nat) : Int), .int .i64 0]) ∧ Two B D w w' ∧ Mt B (upN E o (E o + 1)) (upN T o (tagN n (E o + 1) o)) w' ∧ Dd D L w'
  issue0 : ∀ B D (o : Nat) E T w, Mt B E T w → Dd D [] w → B ≠ D → o ≤ 8 → Calls Try.prog 14 #[.pointer (some ⟨B, 0, none⟩), .int .i64 (o : Int), .pointer (some ⟨D, 0, none⟩)] w
    fun e w' => e = .returned (.tuple #[.int .i64 0, .int .u64 0, .int .i64 17]) ∧ Two B D w w' ∧ Mt B E T w' ∧ Dd D [] w'
  issueX : ∀ B D (o : Int) E T L w, Mt B E T w → Dd D L w → B ≠ D → I64 o → ¬ (0 ≤ o ∧ o ≤ 8) → Calls Try.prog 14 #[.pointer (some ⟨B, 0, none⟩), .int .i64 o, .pointer (some ⟨D, 0, none⟩)] w
    fun e w' => e = .returned (.tuple #[.int .i64 0, .int .u64 0, .int .i64 1]) ∧ Two B D w w' ∧ Mt B E T w' ∧ Dd D L w'
  knows : ∀ B (o e : Int) (t : Nat) E T w, Mt B E T w → I64 o → I64 e → t < 18446744073709551616 → Calls Try.prog 16 #[.pointer (some ⟨B, 0, none⟩), .int .i64 o, .int .i64 e, .int .u64 (t : Int)] w
    fun e' w' => e' = .returned (.bool (decide (0 ≤ o ∧ o ≤ 8 ∧ (t : Int) ≠ 0 ∧ (E o.toNat : Int) = e ∧ (T o.toNat : Int) = t))) ∧ Only B w w' ∧ Mt B E T w'
  issueN : ∀ D (o : Int) L w, Dd D L w → I64 o → Calls Try.prog 14 #[.pointer none, .int .i64 o, .pointer (some ⟨D, 0, none⟩)] w fun e w' => e = .returned (.tuple #[.int .i64 0, .int .u64 0, .int .i64 17]) ∧ Only D w w' ∧ Dd D L w'
  knowsN : ∀ (o e : Int) (t : Nat) w, I64 o → I64 e → t < 18446744073709551616 → Calls Try.prog 16 #[.pointer none, .int .i64 o, .int .i64 e, .int .u64 (t : Int)] w fun e w' => e = .returned (.bool false) ∧ Below w.heap.size w w'
section
variable {Dd : Nat → List Nat → World → Prop} {Mt : Nat → (Nat → Nat) → (Nat → Nat) → World → Prop}
theorem Api.below (hA : Api Dd Mt) {B : Nat} {E T : Nat → Nat} {w w' : World} (h : Mt B E T w) (hb : Below w.heap.size w w') : Mt B E T w' := hA.kept h (hb.block B (hA.lt h)) hb.size
theorem Api.only (hA : Api Dd Mt) {B c : Nat} {E T : Nat → Nat} {w w' : World} (h : Mt B E T w) (ho : Only c w w') (hn : B ≠ c) : Mt B E T w' := hA.kept h (ho.block B (hA.lt h) hn) ho.size
theorem _root_.Go.Proofs.Ytldjefnijkefcaa.Dc.Api.only (hA : Dc.Api Dd) {B c : Nat} {L : List Nat} {w w' : World} (h : Dd B L w) (ho : Only c w w') (hn : B ≠ c) : Dd B L w' := hA.kept h (ho.block B (hA.lt h) hn) ho.size

end
end Go.Proofs.Ytldjefnijkefcaa.Mc
