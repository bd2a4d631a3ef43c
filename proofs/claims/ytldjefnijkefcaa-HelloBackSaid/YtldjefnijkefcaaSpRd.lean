/- The reader: what lies in its cells, and its four steps over the program. -/
import Derived.Test.YtldjefnijkefcaaSpBase
import Derived.Deep.QuietTactic
import Derived.BigQuiet
import Derived.Deep.RegionHeld3
namespace Go.Proofs.Ytldjefnijkefcaa.Vm
open Go.RowKit
set_option linter.unusedVariables false

/-- Of the blocks that were there B alone may have turned; the streams are as they were; no block has gone. -/
structure Only (B : Nat) (w w' : World) : Prop where
  os : w'.os = w.os
  tape : w'.tape = w.tape
  output : w'.output = w.output
  size : w.heap.size ≤ w'.heap.size
  block : ∀ k, k < w.heap.size → k ≠ B → w'.heap[k]? = w.heap[k]?
theorem Only.of {B : Nat} {w w' : World} (h : Below w.heap.size w w') : Only B w w' := ⟨h.os, h.tape, h.output, h.size, fun k hk _ => h.block k hk⟩
theorem Only.refl (B : Nat) (w : World) : Only B w w := Only.of (Below.refl _ _)
theorem Only.trans {B : Nat} {a b c : World} (h : Only B a b) (k : Only B b c) : Only B a c :=
  ⟨k.os.trans h.os, k.tape.trans h.tape, k.output.trans h.output, Nat.le_trans h.size k.size, fun i hi hn => (k.block i (Nat.lt_of_lt_of_le hi h.size) hn).trans (h.block i hi hn)⟩
theorem Only.setCell {B o : Nat} {a w : World} (h : Only B a w) (u : Value) : Only B a (w.setCell ⟨B, o, none⟩ u) :=
  h.trans ⟨rfl, rfl, rfl, by simp [World.setCell], fun k _ hn => Below.heap_setCell _ _ _ _ hn⟩
theorem Only.below {B n : Nat} {w w' : World} (h : Only B w w') (hB : n ≤ B) (hn : n ≤ w.heap.size) : Below n w w' :=
  ⟨h.os, h.tape, h.output, h.size, fun k hk => h.block k (by omega) (by omega)⟩
theorem Only.cell {B : Nat} {w w' : World} (h : Only B w w') {p : Addr} (hp : p.block < w.heap.size) (hn : p.block ≠ B) : w'.cell? p = w.cell? p := World.cell?_of_block (w := w) (h.block p.block hp hn)
theorem Only.frozen {B : Nat} {w w' : World} (h : Only B w w') {p : Addr} (hp : p.block < w.heap.size) (hn : p.block ≠ B) : w'.frozen? p = w.frozen? p := World.frozen?_of_block (w := w) (h.block p.block hp hn)

/-- A reader's cells: its bytes, how many were taken, what was wrong first. -/
def Rd (B : Nat) (b : ByteArray) (t bad : Nat) (w : World) : Prop :=
  (w.cell? ⟨B, 0, none⟩ = some (.string b) ∧ w.cell? ⟨B, 1, none⟩ = some (.int .i64 t) ∧ w.cell? ⟨B, 2, none⟩ = some (.int .i64 bad)) ∧ (w.frozen? ⟨B, 0, none⟩ = false ∧ w.frozen? ⟨B, 1, none⟩ = false ∧ w.frozen? ⟨B, 2, none⟩ = false) ∧ B < w.heap.size
theorem Rd.below {B n t bad : Nat} {b : ByteArray} {w w' : World} (h : Rd B b t bad w) (hb : Below n w w') (hn : B < n) : Rd B b t bad w' := by
  obtain ⟨⟨c0, c1, c2⟩, ⟨f0, f1, f2⟩, hB⟩ := h
  have hs := hb.size
  exact ⟨⟨by rw [hb.cell (p := ⟨B, 0, none⟩) hn, c0], by rw [hb.cell (p := ⟨B, 1, none⟩) hn, c1], by rw [hb.cell (p := ⟨B, 2, none⟩) hn, c2]⟩, ⟨by rw [hb.frozen (p := ⟨B, 0, none⟩) hn, f0], by rw [hb.frozen (p := ⟨B, 1, none⟩) hn, f1], by rw [hb.frozen (p := ⟨B, 2, none⟩) hn, f2]⟩, by omega⟩
theorem Rd.setAt {B t bad : Nat} {b : ByteArray} {w : World} (h : Rd B b t bad w) (u : Nat) : Rd B b u bad (w.setCell ⟨B, 1, none⟩ (.int .i64 u)) := by
  obtain ⟨⟨c0, c1, c2⟩, ⟨f0, f1, f2⟩, hB⟩ := h
  refine ⟨⟨?_, ?_, ?_⟩, ⟨?_, ?_, ?_⟩, ?_⟩
  · rw [World.cell?_setCell_other _ _ _ _ (by simp), c0]
  · rw [World.cell?_setCell_same _ _ _ c1]
  · rw [World.cell?_setCell_other _ _ _ _ (by simp), c2]
  · rw [World.frozen?_setCell]; exact f0
  · rw [World.frozen?_setCell]; exact f1
  · rw [World.frozen?_setCell]; exact f2
  · simp [World.setCell]; exact hB
theorem Rd.setBad {B t bad : Nat} {b : ByteArray} {w : World} (h : Rd B b t bad w) (u : Nat) : Rd B b t u (w.setCell ⟨B, 2, none⟩ (.int .i64 u)) := by
  obtain ⟨⟨c0, c1, c2⟩, ⟨f0, f1, f2⟩, hB⟩ := h
  refine ⟨⟨?_, ?_, ?_⟩, ⟨?_, ?_, ?_⟩, ?_⟩
  · rw [World.cell?_setCell_other _ _ _ _ (by simp), c0]
  · rw [World.cell?_setCell_other _ _ _ _ (by simp), c1]
  · rw [World.cell?_setCell_same _ _ _ c2]
  · rw [World.frozen?_setCell]; exact f0
  · rw [World.frozen?_setCell]; exact f1
  · rw [World.frozen?_setCell]; exact f2
  · simp [World.setCell]; exact hB

/-- What is left. -/
def left (b : ByteArray) (t : Nat) : ByteArray := b.extract t b.size
theorem left_size (b : ByteArray) (t : Nat) : (left b t).size = b.size - t := by unfold left; rw [ByteArray.size_extract]; omega

set_option maxRecDepth 100000 in
set_option maxHeartbeats 1000000 in
theorem tku_bad (B t bad : Nat) (b : ByteArray) (w : World) (hr : Rd B b t bad w) (hbad : bad ≠ 0) :
    Calls Try.prog 28 #[.pointer (some ⟨B, 0, none⟩), .func (.func 29) #[] #[]] w fun e w' => e = .returned (.int .u64 0) ∧ w = w' := by
  obtain ⟨⟨c0, c1, c2⟩, ⟨f0, f1, f2⟩, hB⟩ := hr
  have hb0 : ((bad : Int) == 0) = false := by simpa using hbad
  go_enter Try.func28, Try.ntmps28
  go_wp2
  go_ret
  exact ⟨rfl, rfl⟩

set_option maxRecDepth 100000 in
set_option maxHeartbeats 1000000 in
theorem tku_nil (f : Value) (w : World) :
    Calls Try.prog 28 #[.pointer none, f] w fun e w' => e = .returned (.int .u64 0) ∧ w = w' := by
  go_enter Try.func28, Try.ntmps28
  go_wp2
  go_ret
  exact ⟨rfl, rfl⟩

set_option maxRecDepth 100000 in
set_option maxHeartbeats 1000000 in
theorem tku_good (B t n k : Nat) (b : ByteArray) (w : World) (hr : Rd B b t 0 w) (ht : t ≤ b.size) (hs : b.size ≤ 4611686018427387904) (h : tkS (left b t) = (n, k, 0)) :
    Calls Try.prog 28 #[.pointer (some ⟨B, 0, none⟩), .func (.func 29) #[] #[]] w fun e w' => e = .returned (.int .u64 n) ∧ Rd B b (t + k) 0 w' ∧ Only B w w' := by
  have HR := Lib.hid hr
  have H := Lib.hid h
  obtain ⟨⟨c0, c1, c2⟩, ⟨f0, f1, f2⟩, hB⟩ := hr
  have hls := left_size b t
  have hm : (left b t).size ≤ maxLen := by unfold maxLen; omega
  obtain ⟨g1, g2, g3, g4⟩ := tkS_good _ n k h
  clear h
  have hd : decide (b.size < t) = false := decide_eq_false (by omega)
  go_enter Try.func28, Try.ntmps28
  go_wp2
  go_quiet (first | (go_at_call 29; exact Calls.quiet_of_same ((take_ret (left b t) _ _ _ H.out _ hm).mono fun _ _ h => ⟨h.1, h.2.symm⟩)))
  have hbq := below_drewN (Below.refl w.heap.size w) nq
  go_wp2
  go_ret
  exact ⟨rfl, (HR.out.below hbq hB).setAt (t + k), (Only.of hbq).setCell _⟩

set_option maxRecDepth 100000 in
set_option maxHeartbeats 1000000 in
theorem tku_err (B t n k r : Nat) (b : ByteArray) (w : World) (hr : Rd B b t 0 w) (ht : t ≤ b.size) (hs : b.size ≤ 4611686018427387904) (hne : r ≠ 0) (h : tkS (left b t) = (n, k, r)) :
    Calls Try.prog 28 #[.pointer (some ⟨B, 0, none⟩), .func (.func 29) #[] #[]] w fun e w' => e = .returned (.int .u64 0) ∧ Rd B b t r w' ∧ Only B w w' := by
  have HR := Lib.hid hr
  have H := Lib.hid h
  obtain ⟨⟨c0, c1, c2⟩, ⟨f0, f1, f2⟩, hB⟩ := hr
  have hls := left_size b t
  have hm : (left b t).size ≤ maxLen := by unfold maxLen; omega
  obtain ⟨rfl, rfl, g3⟩ := tkS_bad _ n k r h hne
  have he0 : ((r : Int) == 0) = false := by simpa using hne
  clear h
  have hd : decide (b.size < t) = false := decide_eq_false (by omega)
  go_enter Try.func28, Try.ntmps28
  go_wp2
  go_quiet (first | (go_at_call 29; exact Calls.quiet_of_same ((take_ret (left b t) _ _ _ H.out _ hm).mono fun _ _ h => ⟨h.1, h.2.symm⟩)))
  have hbq := below_drewN (Below.refl w.heap.size w) nq
  go_wp2
  go_ret
  exact ⟨rfl, (HR.out.below hbq hB).setBad r, (Only.of hbq).setCell _⟩

end Go.Proofs.Ytldjefnijkefcaa.Vm
