/- Tags that were issued: what is asked of the program's tables (a state, and what each call does to it), as hypotheses of the laws' walks; the law's example. -/
import Derived.Test.YtcbicdmelokanaaDcApi
import Derived.Test.YtcbicdmelokanaaCmF
import Derived.Test.YtcbicdmelokanaaMcMath
namespace Go.Proofs.Ytcbicdmelokanaa.Mc
open Go.RowKit Cm Dc
set_option linter.unusedVariables false
set_option linter.unusedSimpArgs false

abbrev I64 (n : Int) : Prop := -9223372036854775808 ≤ n ∧ n ≤ 9223372036854775807
/-- The table of block B has the epochs E and the tags T (0: none). -/
structure Api (Dd : Nat → List Nat → World → Prop) (Mt : Nat → (Nat → Nat) → (Nat → Nat) → World → Prop) : Prop where
  lt : ∀ {B E T w}, Mt B E T w → B < w.heap.size
  kept : ∀ {B E T} {w w' : World}, Mt B E T w → w'.heap[B]? = w.heap[B]? → w.heap.size ≤ w'.heap.size → Mt B E T w'
  new : ∀ w, Calls Try.prog 7 #[] w fun e w' => ∃ B, e = .returned (.pointer (some ⟨B, 0, none⟩)) ∧ w.heap.size ≤ B ∧ Below w.heap.size w w' ∧ Mt B (fun _ => 0) (fun _ => 0) w'
  issue : ∀ B D (o : Nat) E T n L w, Mt B E T w → Dd D (n :: L) w → B ≠ D → o ≤ 8 → n < 18446744073709551616 → E o < 1099511627776 → Calls Try.prog 10 #[.pointer (some ⟨B, 0, none⟩), .int .i64 (o : Int), .pointer (some ⟨D, 0, none⟩)] w
    fun e w' => e = .returned (.tuple #[.int .i64 ((E o + 1 : Nat) : Int), .int .u64 ((tagN n (E o + 1) o : Nat) : Int), .int .i64 0]) ∧ Two B D w w' ∧ Mt B (upN E o (E o + 1)) (upN T o (tagN n (E o + 1) o)) w' ∧ Dd D L w'
  issue0 : ∀ B D (o : Nat) E T w, Mt B E T w → Dd D [] w → B ≠ D → o ≤ 8 → Calls Try.prog 10 #[.pointer (some ⟨B, 0, none⟩), .int .i64 (o : Int), .pointer (some ⟨D, 0, none⟩)] w
    fun e w' => e = .returned (.tuple #[.int .i64 0, .int .u64 0, .int .i64 17]) ∧ Two B D w w' ∧ Mt B E T w' ∧ Dd D [] w'
  issueX : ∀ B D (o : Int) E T L w, Mt B E T w → Dd D L w → B ≠ D → I64 o → ¬ (0 ≤ o ∧ o ≤ 8) → Calls Try.prog 10 #[.pointer (some ⟨B, 0, none⟩), .int .i64 o, .pointer (some ⟨D, 0, none⟩)] w
    fun e w' => e = .returned (.tuple #[.int .i64 0, .int .u64 0, .int .i64 1]) ∧ Two B D w w' ∧ Mt B E T w' ∧ Dd D L w'
  revoke : ∀ B (o : Nat) E T w, Mt B E T w → o ≤ 8 → T o ≠ 0 → Calls Try.prog 13 #[.pointer (some ⟨B, 0, none⟩), .int .i64 (o : Int)] w fun e w' => e = .returned (.int .i64 0) ∧ Only B w w' ∧ Mt B E (upN T o 0) w'
  revoke0 : ∀ B (o : Nat) E T w, Mt B E T w → o ≤ 8 → T o = 0 → Calls Try.prog 13 #[.pointer (some ⟨B, 0, none⟩), .int .i64 (o : Int)] w fun e w' => e = .returned (.int .i64 12) ∧ Only B w w' ∧ Mt B E T w'
  revokeX : ∀ B (o : Int) E T w, Mt B E T w → I64 o → ¬ (0 ≤ o ∧ o ≤ 8) → Calls Try.prog 13 #[.pointer (some ⟨B, 0, none⟩), .int .i64 o] w fun e w' => e = .returned (.int .i64 1) ∧ Only B w w' ∧ Mt B E T w'
  knows : ∀ B (o e : Int) (t : Nat) E T w, Mt B E T w → I64 o → I64 e → t < 18446744073709551616 → Calls Try.prog 17 #[.pointer (some ⟨B, 0, none⟩), .int .i64 o, .int .i64 e, .int .u64 (t : Int)] w
    fun e' w' => e' = .returned (.bool (decide (0 ≤ o ∧ o ≤ 8 ∧ (t : Int) ≠ 0 ∧ (E o.toNat : Int) = e ∧ (T o.toNat : Int) = t))) ∧ Only B w w' ∧ Mt B E T w'
  epoch : ∀ B (o : Int) E T w, Mt B E T w → I64 o → Calls Try.prog 15 #[.pointer (some ⟨B, 0, none⟩), .int .i64 o] w fun e w' => e = .returned (.int .i64 (if 0 ≤ o ∧ o ≤ 8 then (E o.toNat : Int) else 0)) ∧ Only B w w' ∧ Mt B E T w'
  issueN : ∀ D (o : Int) L w, Dd D L w → I64 o → Calls Try.prog 10 #[.pointer none, .int .i64 o, .pointer (some ⟨D, 0, none⟩)] w fun e w' => e = .returned (.tuple #[.int .i64 0, .int .u64 0, .int .i64 17]) ∧ Only D w w' ∧ Dd D L w'
  revokeN : ∀ (o : Int) w, I64 o → Calls Try.prog 13 #[.pointer none, .int .i64 o] w fun e w' => e = .returned (.int .i64 17) ∧ Below w.heap.size w w'
  knowsN : ∀ (o e : Int) (t : Nat) w, I64 o → I64 e → t < 18446744073709551616 → Calls Try.prog 17 #[.pointer none, .int .i64 o, .int .i64 e, .int .u64 (t : Int)] w fun e w' => e = .returned (.bool false) ∧ Below w.heap.size w w'
  epochN : ∀ (o : Int) w, I64 o → Calls Try.prog 15 #[.pointer none, .int .i64 o] w fun e w' => e = .returned (.int .i64 0) ∧ Below w.heap.size w w'
section
variable {Dd : Nat → List Nat → World → Prop} {Mt : Nat → (Nat → Nat) → (Nat → Nat) → World → Prop}
theorem Api.below (hA : Api Dd Mt) {B : Nat} {E T : Nat → Nat} {w w' : World} (h : Mt B E T w) (hb : Below w.heap.size w w') : Mt B E T w' := hA.kept h (hb.block B (hA.lt h)) hb.size
theorem Api.only (hA : Api Dd Mt) {B c : Nat} {E T : Nat → Nat} {w w' : World} (h : Mt B E T w) (ho : Only c w w') (hn : B ≠ c) : Mt B E T w' := hA.kept h (ho.block B (hA.lt h) hn) ho.size
theorem _root_.Go.Proofs.Ytcbicdmelokanaa.Dc.Api.only (hA : Dc.Api Dd) {B c : Nat} {L : List Nat} {w w' : World} (h : Dd B L w) (ho : Only c w w') (hn : B ≠ c) : Dd B L w' := hA.kept h (ho.block B (hA.lt h) hn) ho.size

set_option maxRecDepth 100000 in
set_option maxHeartbeats 1000000 in
theorem awake_any (hD : Dc.Api Dd) (hA : Api Dd Mt) (w : World) : Calls Try.prog 6 #[] w fun e w' => e = .returned (.bool true) ∧ Below w.heap.size w w' := by
  have HA := Lib.hid hA
  have HD := Lib.hid hD
  obtain ⟨t, ht⟩ : ∃ t, tagN 9 (0 + 1) 3 = t := ⟨_, rfl⟩
  have ht0 : (t : Int) ≠ 0 := by have := tag_pos 9 (0 + 1) 3; omega
  have htl : t < 18446744073709551616 := by have := tag_lt 9 (0 + 1) 3; omega
  have f0 : ((t : Int) != 0) = true := by simpa using ht0
  have HT := Lib.hid ht
  have h1 := Lib.hid (show decide ((0 : Int) ≤ 3 ∧ (3 : Int) ≤ 8 ∧ (t : Int) ≠ 0 ∧ ((upN (fun _ => 0) 3 (0 + 1) (3 : Int).toNat : Nat) : Int) = 1 ∧ ((upN (fun _ => 0) 3 t (3 : Int).toNat : Nat) : Int) = (t : Int)) = true by
    refine decide_eq_true ⟨by omega, by omega, ht0, ?_, ?_⟩
    · show ((upN (fun _ => 0) 3 (0 + 1) 3 : Nat) : Int) = 1
      rw [upN_same]; rfl
    · show ((upN (fun _ => 0) 3 t 3 : Nat) : Int) = (t : Int)
      rw [upN_same])
  have h2 := Lib.hid (show decide ((0 : Int) ≤ 2 ∧ (2 : Int) ≤ 8 ∧ (t : Int) ≠ 0 ∧ ((upN (fun _ => 0) 3 (0 + 1) (2 : Int).toNat : Nat) : Int) = 1 ∧ ((upN (fun _ => 0) 3 t (2 : Int).toNat : Nat) : Int) = (t : Int)) = false by
    refine decide_eq_false fun h => ?_
    have := h.2.2.2.1
    have e : ((upN (fun _ => 0) 3 (0 + 1) (2 : Int).toNat : Nat) : Int) = 0 := rfl
    omega)
  clear hA hD ht ht0
  go_enter Try.func6, Try.ntmps6
  go_wp2_with (first
    | (go_at_call 8; refine (HD.out.new _).mono ?_; rintro e w1 ⟨D, rfl, hD, hb1, hd1⟩; have HD1 := Lib.hid hd1; have HB1 := Lib.hid hb1; have HDB := Lib.hid hD; clear hd1 hb1 hD)
    | (go_at_call 9; refine (HD.out.put D [] 9 _ HD1.out (by omega)).mono ?_; rintro e w2 ⟨rfl, ho2, hd2⟩; have HD2 := Lib.hid hd2; have HB2 := Lib.hid (HB1.out.trans (ho2.below HDB.out HB1.out.size)); clear hd2 ho2)
    | (go_at_call 7; refine (HA.out.new _).mono ?_; rintro e w3 ⟨B, rfl, hB, hb3, hm3⟩; have HD3 := Lib.hid (HD.out.below HD2.out hb3); have HNE := Lib.hid (show B ≠ D by have := HD.out.lt HD2.out; omega); have HBB := Lib.hid (Nat.le_trans HB2.out.size hB); have HM3 := Lib.hid hm3; have HB3 := Lib.hid (HB2.out.trans (hb3.mono HB2.out.size)); clear hb3 hm3 hB)
    | (go_at_call 10; refine (HA.out.issue B D 3 _ _ 9 [] _ HM3.out HD3.out HNE.out (by omega) (by omega) (by omega)).mono ?_; rw [HT.out]; rintro e w4 ⟨rfl, ho4, hm4, hd4⟩; have HM4 := Lib.hid hm4; have HB4 := Lib.hid (HB3.out.trans (ho4.below HBB.out HDB.out HB3.out.size)); clear hm4 hd4 ho4)
    | (go_at_call 17; with_reducible refine (HA.out.knows B 3 1 t _ _ _ HM4.out (by omega) (by omega) htl).mono ?_; rw [h1.out]; rintro e w5 ⟨rfl, ho5, hm5⟩; have HM5 := Lib.hid hm5; have HB5 := Lib.hid (HB4.out.trans (ho5.below HBB.out HB4.out.size)); clear hm5 ho5)
    | (go_at_call 17; with_reducible refine (HA.out.knows B 2 1 t _ _ _ HM5.out (by omega) (by omega) htl).mono ?_; rw [h2.out]; rintro e w6 ⟨rfl, ho6, hm6⟩; have HB6 := Lib.hid (HB5.out.trans (ho6.below HBB.out HB5.out.size)); clear hm6 ho6))
  go_ret
  exact ⟨rfl, HB6.out⟩
end
end Go.Proofs.Ytcbicdmelokanaa.Mc
