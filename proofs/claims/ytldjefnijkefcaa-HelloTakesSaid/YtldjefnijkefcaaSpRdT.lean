/- The reader's steps that take texts, over the program. -/
import Derived.Test.YtldjefnijkefcaaSpRd
namespace Go.Proofs.Ytldjefnijkefcaa.Vm
open Go.RowKit
set_option linter.unusedVariables false

theorem txS_lo (s : ByteArray) (m : Int) (x : ByteArray) (k : Nat) (h : txS s m = (x, k, 0)) : k ≤ s.size ∧ x.size ≤ s.size := by
  obtain ⟨a, b, c, hh⟩ : ∃ a b c, nmS s m = (a, b, c) := ⟨_, _, _, rfl⟩
  by_cases hc : c = 0
  · subst hc
    by_cases hm : s.size < b + a
    · rw [txS_short s m a b hh hm] at h; simp at h
    · rw [txS_good s m a b hh hm] at h
      simp only [Prod.mk.injEq] at h
      obtain ⟨rfl, rfl, _⟩ := h
      exact ⟨by omega, ext_le s _ _⟩
  · rw [txS_bad s m a b c hh hc] at h
    simp only [Prod.mk.injEq] at h; omega
theorem txS_bad0 (s : ByteArray) (m : Int) (x : ByteArray) (k e : Nat) (h : txS s m = (x, k, e)) (he : e ≠ 0) : x = ByteArray.empty ∧ k = 0 ∧ e ≤ 3 := by
  obtain ⟨a, b, c, hh⟩ : ∃ a b c, nmS s m = (a, b, c) := ⟨_, _, _, rfl⟩
  by_cases hc : c = 0
  · subst hc
    by_cases hm : s.size < b + a
    · rw [txS_short s m a b hh hm] at h; simp only [Prod.mk.injEq] at h
      obtain ⟨rfl, rfl, rfl⟩ := h; exact ⟨rfl, rfl, by omega⟩
    · rw [txS_good s m a b hh hm] at h; simp only [Prod.mk.injEq] at h; omega
  · rw [txS_bad s m a b c hh hc] at h
    have := nmS_bad0 s m a b c hh hc
    simp only [Prod.mk.injEq] at h
    obtain ⟨rfl, rfl, rfl⟩ := h; exact ⟨rfl, rfl, by omega⟩

theorem heldT {B Bm t : Nat} {b : ByteArray} {m : Int} {w w' : World} (hB : B < w.heap.size) (hBm : Bm < w.heap.size) (c0 : w.cell? ⟨B, 0, none⟩ = some (.string b)) (c1 : w.cell? ⟨B, 1, none⟩ = some (.int .i64 t)) (hcm : w.cell? ⟨Bm, 0, none⟩ = some (.int .i64 m)) (h : Below w.drew.heap.size w.drew w') :
    ((w'.cell? ⟨B, 0, none⟩ = some (.string b)) ∧ (w'.cell? ⟨B, 1, none⟩ = some (.int .i64 t))) ∧ (w'.cell? ⟨Bm, 0, none⟩ = some (.int .i64 m)) ∧ Below w.heap.size w w' :=
  ⟨⟨by rw [h.cell (p := ⟨B, 0, none⟩) hB]; exact c0, by rw [h.cell (p := ⟨B, 1, none⟩) hB]; exact c1⟩, by rw [h.cell (p := ⟨Bm, 0, none⟩) hBm]; exact hcm, (Below.refl w.heap.size w).drew.trans h⟩
theorem heldR {B t : Nat} {b : ByteArray} {w w' : World} (hB : B < w.heap.size) (c0 : w.cell? ⟨B, 0, none⟩ = some (.string b)) (c1 : w.cell? ⟨B, 1, none⟩ = some (.int .i64 t)) (h : Below w.drew.heap.size w.drew w') :
    ((w'.cell? ⟨B, 0, none⟩ = some (.string b)) ∧ (w'.cell? ⟨B, 1, none⟩ = some (.int .i64 t))) ∧ Below w.heap.size w w' :=
  ⟨⟨by rw [h.cell (p := ⟨B, 0, none⟩) hB]; exact c0, by rw [h.cell (p := ⟨B, 1, none⟩) hB]; exact c1⟩, (Below.refl w.heap.size w).drew.trans h⟩
theorem Rd.split {B t bad : Nat} {b : ByteArray} {w : World} (h : Rd B b t bad w) : ((w.cell? ⟨B, 0, none⟩ = some (.string b) ∧ w.cell? ⟨B, 1, none⟩ = some (.int .i64 t) ∧ w.cell? ⟨B, 2, none⟩ = some (.int .i64 bad)) ∧ (w.frozen? ⟨B, 0, none⟩ = false ∧ w.frozen? ⟨B, 1, none⟩ = false ∧ w.frozen? ⟨B, 2, none⟩ = false) ∧ B < w.heap.size) := h

end Go.Proofs.Ytldjefnijkefcaa.Vm
