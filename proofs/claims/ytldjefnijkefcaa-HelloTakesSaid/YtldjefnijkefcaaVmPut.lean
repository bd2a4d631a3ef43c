/- The contract of varint.Put over the program: it hands out the bytes of a number, and nothing that was there turns. -/
import Derived.Test.YtldjefnijkefcaaChecked
import Derived.Test.YtldjefnijkefcaaVmMath
import Derived.WalkKit
import Derived.WalkLawsBesides
import Derived.WalkSpells
import Derived.Laws.BytesArg
import Derived.Laws.BitsAllLaws
import Derived.Lib.Hide
import Derived.Deep.LoopGhost
namespace Go.Proofs.Ytldjefnijkefcaa.Vm
open Go.RowKit
set_option linter.unusedVariables false

def PutRel (N B : Nat) (w wr : World) (x j : Nat) : Prop :=
  ∃ bs : List UInt8, bs.length = j ∧ j ≤ 9 ∧ x * 128 ^ j < 18446744073709551616 ∧ putL N = bs ++ putL x ∧ (∀ i, i < 10 → wr.cell? ⟨B, i, none⟩ = some (.int .u8 ((bs.getD i 0).toNat : Int))) ∧ (∀ i, i < 10 → wr.frozen? ⟨B, i, none⟩ = false) ∧ Below B w wr ∧ B < wr.heap.size


theorem u8of (c : UInt8) : ((UInt8.ofNat c.toNat)) = c := by simp
theorem or128 (x : Nat) : bits BinOp.or IntKind.u8 ((x : Int) % 256) 128 = ((UInt8.ofNat (x % 128 + 128)).toNat : Int) := by
  have h := u8_or ((x : Int) % 256) 128 (by omega) (by omega) (by decide) (by decide)
  rw [h]
  have e1 : ((x : Int) % 256).toNat = x % 256 := by omega
  have e2 : (128 : Int).toNat = 128 := rfl
  rw [e1, e2, tn (show x % 128 + 128 < 256 by omega)]
  have e3 : x % 256 = x % 128 + (x / 128 % 2) * 128 := by omega
  by_cases hb : x / 128 % 2 = 0
  · have e4 : x % 256 = x % 128 := by omega
    rw [e4, Nat.or_comm, nat_join 7 128 (x % 128) (by decide) (by omega)]
    omega
  · have e4 : x % 256 = x % 128 + 128 := by omega
    rw [e4]
    have e5 : x % 128 + 128 = 128 ||| x % 128 := by rw [nat_join 7 128 (x % 128) (by decide) (by omega)]; omega
    rw [e5, Nat.or_comm, ← Nat.or_assoc, Nat.or_self]

/-- A round of Put that goes on. -/
theorem rel_on {N B : Nat} {w wr : World} {x j : Nat} {bs : List UInt8} (hb : bs.length = j) (hj : j ≤ 9) (hx : x * 128 ^ j < 18446744073709551616) (hp : putL N = bs ++ putL x)
    (hc : ∀ i, i < 10 → wr.cell? ⟨B, i, none⟩ = some (.int .u8 ((bs.getD i 0).toNat : Int))) (hf : ∀ i, i < 10 → wr.frozen? ⟨B, i, none⟩ = false) (hbel : Below B w wr) (hB : B < wr.heap.size) (hlt : 127 < x) :
    PutRel N B w (wr.setCell ⟨B, j, none⟩ (.int .u8 (bits BinOp.or IntKind.u8 ((x : Int) % 256) 128))) (x / 128) (j + 1) := by
  have hj9 : j ≠ 9 := by
    intro e; subst e
    have e : (128 : Nat) ^ 9 = 9223372036854775808 := by decide
    rw [e] at hx; omega
  have hd : x / 128 * 128 ^ (j + 1) ≤ x * 128 ^ j := by
    rw [Nat.pow_succ, Nat.mul_comm (128 ^ j) 128, ← Nat.mul_assoc]
    exact Nat.mul_le_mul_right _ (Nat.div_mul_le_self x 128)
  refine ⟨bs ++ [UInt8.ofNat (x % 128 + 128)], by simp [hb], by omega, by omega, ?_, ?_, ?_, hbel.setCell (Nat.le_refl _) _, ?_⟩
  · rw [hp, putL_ge (n := x) (by omega)]; simp
  · intro i hi
    by_cases e : i = j
    · subst e
      rw [World.cell?_setCell_same _ _ _ (hc i hi), or128]
      simp [List.getD, ← hb]
    · rw [World.cell?_setCell_other _ _ _ _ (fun h => e (by injection h with _ h2 _; exact h2.symm)), hc i hi]
      by_cases hij : i < bs.length
      · simp [List.getD, List.getElem?_append_left hij]
      · have h1 : bs.getD i 0 = 0 := by simp [List.getD, List.getElem?_eq_none (show bs.length ≤ i by omega)]
        have h2 : (bs ++ [UInt8.ofNat (x % 128 + 128)]).getD i 0 = 0 := by rw [List.getD, List.getElem?_eq_none (show (bs ++ [UInt8.ofNat (x % 128 + 128)]).length ≤ i by simp; omega)]; rfl
        rw [h1, h2]
  · intro i hi; rw [World.frozen?_setCell]; exact hf i hi
  · simp [World.setCell]; exact hB

set_option maxRecDepth 100000 in
/-- What the last round hands out. -/
theorem conv_end {N B : Nat} {wr : World} {x j : Nat} {bs : List UInt8} (hb : bs.length = j) (hj : j ≤ 9) (hp : putL N = bs ++ putL x)
    (hc : ∀ i, i < 10 → wr.cell? ⟨B, i, none⟩ = some (.int .u8 ((bs.getD i 0).toNat : Int))) (hlt : ¬ 127 < x) :
    (convert 71 9 (.slice (some ⟨B, 0, none⟩) (j + 1) 10)).run Try.prog (wr.setCell ⟨B, j, none⟩ (.int .u8 (x : Int))) = .ok (.string ⟨(putL N).toArray⟩) (wr.setCell ⟨B, j, none⟩ (.int .u8 (x : Int))) := by
  have h := run_convert_bytes_arg (P := Try.prog) (wr.setCell ⟨B, j, none⟩ (.int .u8 (x : Int))) 71 5 Try.underlying71 Try.underlying5 B 0 (j + 1) 10 ((putL N).map fun c => (c.toNat : Int)) (by rw [hp, putL_lt (n := x) (by omega)]; simp [hb]) (fun i hi => by
    rw [hp, putL_lt (n := x) (by omega), Nat.zero_add]
    by_cases e : i = j
    · subst e
      rw [World.cell?_setCell_same _ _ _ (hc i (by omega))]
      have : (x % 256) = x := by omega
      simp [List.getD, ← hb, this]
    · rw [World.cell?_setCell_other _ _ _ _ (fun h => e (by injection h with _ h2 _; exact h2.symm)), hc i (by omega)]
      have hij : i < bs.length := by omega
      have hm : i < (bs.map fun c => (c.toNat : Int)).length := by simpa using hij
      simp only [List.map_append, List.getD, List.getElem?_append_left hm]
      simp [hij]) 9 Try.underlying9
  rw [h]
  congr 2
  apply ByteArray.ext
  simp [strOfNums, List.map_map, Function.comp_def]

theorem put_any (n : Nat) (w : World) (h2 : n ≤ 18446744073709551615) :
    Calls Try.prog 17 #[.int .u64 n] w fun e w' => e = .returned (.string ⟨(putL n).toArray⟩) ∧ Below w.heap.size w w' := by
  go_enter Try.func17, Try.ntmps17
  go_wp2
  go_step3
  go_wp2
  go_step3
  go_wp2
  go_loopw [0, 4] (fun a b wr => ∃ x j : Nat, a = .int .u64 x ∧ b = .int .i64 j ∧ PutRel n w.heap.size w wr x j) (fun a _ _ => (intOf a).toNat)
  case atStart => exact ⟨n, 0, rfl, rfl, [], rfl, by omega, by simpa using Nat.lt_succ_of_le h2, by simp, by intro i hi; rcases (by omega : i = 0 ∨ i = 1 ∨ i = 2 ∨ i = 3 ∨ i = 4 ∨ i = 5 ∨ i = 6 ∨ i = 7 ∨ i = 8 ∨ i = 9) with h | h | h | h | h | h | h | h | h | h <;> subst h <;> simp [World.cell?_alloc_at], by intro i hi; exact World.frozen?_alloc_at _ _ _ _ rfl, (Below.refl _ _).alloc (Nat.le_refl _) _, by simp⟩
  case round =>
    obtain ⟨x, j, rfl, rfl, hr⟩ := hrel
    obtain ⟨bs, hb, hj, hx, hp, hc, hf, hbel, hB⟩ := hr
    have hcj := hc j (by omega)
    have hfj := hf j (by omega)
    by_cases hlt : 127 < x
    · have hlt' : (127 : Int) < (x : Int) := by omega
      have HP := Go.Lib.hid hp
      have HC := Go.Lib.hid hc
      have HF := Go.Lib.hid hf
      have HX := Go.Lib.hid hx
      have HBL := Go.Lib.hid hb
      clear hp hc hf hx hb
      go_wp2
      refine ⟨⟨x / 128, j + 1, by go_num, by go_num, rel_on HBL.out hj HX.out HP.out HC.out HF.out hbel hB hlt⟩, ?_⟩
      simp [intOf]; omega
    · have hlt' : ¬ (127 : Int) < (x : Int) := by omega
      have hcv := conv_end hb hj hp hc hlt
      have hsl : ∀ W, (Instr.sliceAt 69 (.pointer (some ⟨w.heap.size, 0, none⟩)) none (some (.int .i64 ((j : Int) + 1))) none).run Try.prog W = .ok (.slice (some ⟨w.heap.size, 0, none⟩) (j + 1) 10) W := by
        intro W
        have h := run_sliceAt_array_h (P := Try.prog) (w := W) (t := 69) (a := ⟨w.heap.size, 0, none⟩) (by kernel_rfl) .i64 ((j : Int) + 1) (by omega) (by rw [show Try.prog.arrayLen 69 = 10 from by kernel_rfl]; omega)
        have e5 : Try.prog.elem 69 = 5 := by kernel_rfl
        have e10 : Try.prog.arrayLen 69 = 10 := by kernel_rfl
        have ej : ((j : Int) + 1).toNat = j + 1 := by omega
        rw [h, e5, e10, ej]
        simp [slicedAt, Try.sizeOf5, Addr.add]
      have HP := Go.Lib.hid hp
      have HC := Go.Lib.hid hc
      have HF := Go.Lib.hid hf
      have HX := Go.Lib.hid hx
      have HBL := Go.Lib.hid hb
      clear hp hc hf hx hb
      go_wp2
      go_ret
      exact ⟨rfl, hbel.setCell (Nat.le_refl _) _⟩
end Go.Proofs.Ytldjefnijkefcaa.Vm
