/- The reader's methods over the program. -/
import Derived.Test.YtldjefnijkefcaaSpRdT
namespace Go.Proofs.Ytldjefnijkefcaa.Vm
open Go.RowKit
set_option linter.unusedVariables false

/-- What a step takes: what comes out, how many bytes were taken, what was wrong first. -/
def numN (b : ByteArray) (t bad : Nat) : Nat × Nat × Nat :=
  if bad ≠ 0 then (0, t, bad) else if (tkS (left b t)).2.2 ≠ 0 then (0, t, (tkS (left b t)).2.2) else ((tkS (left b t)).1, t + (tkS (left b t)).2.1, 0)
def intN (b : ByteArray) (t bad : Nat) (m : Int) : Nat × Nat × Nat :=
  if bad ≠ 0 then (0, t, bad) else if (nmS (left b t) m).2.2 ≠ 0 then (0, t, (nmS (left b t) m).2.2) else ((nmS (left b t) m).1, t + (nmS (left b t) m).2.1, 0)
def textN (b : ByteArray) (t bad : Nat) (m : Int) : ByteArray × Nat × Nat :=
  if bad ≠ 0 then (ByteArray.empty, t, bad) else if (txS (left b t) m).2.2 ≠ 0 then (ByteArray.empty, t, (txS (left b t) m).2.2) else ((txS (left b t) m).1, t + (txS (left b t) m).2.1, 0)
def restN (b : ByteArray) (t bad : Nat) : ByteArray × Nat × Nat :=
  if bad ≠ 0 then (ByteArray.empty, t, bad) else (left b t, t + (b.size - t), 0)

set_option maxRecDepth 100000 in
theorem num_any (B t bad : Nat) (b : ByteArray) (w : World) (hr : Rd B b t bad w) (ht : t ≤ b.size) (hs : b.size ≤ 4611686018427387904) :
    Calls Try.prog 20 #[.pointer (some ⟨B, 0, none⟩)] w fun e w' => e = .returned (.int .u64 (numN b t bad).1) ∧ Rd B b (numN b t bad).2.1 (numN b t bad).2.2 w' ∧ Only B w w' := by
  have HR := Lib.hid hr
  clear hr
  obtain ⟨n, k, r, h⟩ : ∃ n k r, tkS (left b t) = (n, k, r) := ⟨_, _, _, rfl⟩
  have H := Lib.hid h
  clear h
  by_cases hb : bad = 0
  · subst hb
    by_cases hr0 : r = 0
    · subst hr0
      have e : numN b t 0 = (n, t + k, 0) := by unfold numN; rw [H.out]; simp
      rw [e]
      go_enter Try.func20, Try.ntmps20
      go_wp2_with (go_at_call 28; refine (tku_good B t n k b _ HR.out ht hs H.out).mono ?_; rintro e w' ⟨rfl, hb2⟩)
      go_ret
      exact ⟨rfl, hb2⟩
    · have e : numN b t 0 = (0, t, r) := by unfold numN; rw [H.out]; simp [hr0]
      rw [e]
      go_enter Try.func20, Try.ntmps20
      go_wp2_with (go_at_call 28; refine (tku_err B t n k r b _ HR.out ht hs hr0 H.out).mono ?_; rintro e w' ⟨rfl, hb2⟩)
      go_ret
      exact ⟨rfl, hb2⟩
  · have e : numN b t bad = (0, t, bad) := by unfold numN; simp [hb]
    rw [e]
    go_enter Try.func20, Try.ntmps20
    go_wp2_with (go_at_call 28; refine (tku_bad B t bad b _ HR.out hb).mono ?_; rintro e w' ⟨rfl, rfl⟩)
    go_ret
    exact ⟨rfl, HR.out, Only.refl _ _⟩

/-- What Done tells. -/
def doneN (b : ByteArray) (t bad : Nat) : Nat := if bad ≠ 0 then bad else if t < b.size then 1 else 0
set_option maxRecDepth 100000 in
theorem done_any (B t bad : Nat) (b : ByteArray) (w : World) (hr : Rd B b t bad w) (ht : t ≤ b.size) (hs : b.size ≤ 4611686018427387904) :
    Calls Try.prog 21 #[.pointer (some ⟨B, 0, none⟩)] w fun e w' => e = .returned (.int .i64 (doneN b t bad)) ∧ Rd B b t bad w' ∧ Below w.heap.size w w' := by
  have HR := Lib.hid hr
  obtain ⟨⟨c0, c1, c2⟩, ⟨f0, f1, f2⟩, hB⟩ := hr
  by_cases hb : bad = 0
  · subst hb
    by_cases hlt : t < b.size
    · have hlt' : (t : Int) < (b.size : Int) := by omega
      have e : doneN b t 0 = 1 := by unfold doneN; simp [hlt]
      rw [e]
      go_enter Try.func21, Try.ntmps21
      go_wp2
      go_quiet (fail)
      have hbq := below_drewN (Below.refl w.heap.size w) nq
      go_wp2
      go_ret
      exact ⟨rfl, HR.out.below hbq hB, hbq⟩
    · have hlt' : ¬ (t : Int) < (b.size : Int) := by omega
      have e : doneN b t 0 = 0 := by unfold doneN; simp [hlt]
      rw [e]
      go_enter Try.func21, Try.ntmps21
      go_wp2
      go_quiet (fail)
      have hbq := below_drewN (Below.refl w.heap.size w) nq
      go_wp2
      go_ret
      exact ⟨rfl, HR.out.below hbq hB, hbq⟩
  · have hb0 : ((bad : Int) == 0) = false := by simpa using hb
    have e : doneN b t bad = bad := by unfold doneN; simp [hb]
    rw [e]
    go_enter Try.func21, Try.ntmps21
    go_wp2
    go_ret
    exact ⟨rfl, HR.out, Below.refl _ _⟩

theorem read_any (b : ByteArray) (w : World) :
    Calls Try.prog 19 #[.string b] w fun e w' => e = .returned (.pointer (some ⟨w.heap.size, 0, none⟩)) ∧ Rd w.heap.size b 0 0 w' ∧ Below w.heap.size w w' := by
  go_enter Try.func19, Try.ntmps19
  go_wp2
  go_ret
  refine ⟨rfl, ⟨⟨?_, ?_, ?_⟩, ⟨?_, ?_, ?_⟩, ?_⟩, ?_⟩
  all_goals first
    | (rw [World.cell?_alloc_at _ _ _ _ rfl]; rfl)
    | exact World.frozen?_alloc_at _ _ _ _ rfl
    | exact (Below.refl _ _).alloc (Nat.le_refl _) _
    | simp

theorem num_nil (w : World) : Calls Try.prog 20 #[.pointer none] w fun e w' => e = .returned (.int .u64 0) ∧ w = w' := by
  go_enter Try.func20, Try.ntmps20
  go_wp2_with (go_at_call 28; refine (tku_nil _ _).mono ?_; rintro e w' ⟨rfl, rfl⟩)
  go_ret
  exact ⟨rfl, rfl⟩
theorem done_nil (w : World) : Calls Try.prog 21 #[.pointer none] w fun e w' => e = .returned (.int .i64 0) ∧ w = w' := by
  go_enter Try.func21, Try.ntmps21
  go_wp2
  go_ret
  exact ⟨rfl, rfl⟩
end Go.Proofs.Ytldjefnijkefcaa.Vm
