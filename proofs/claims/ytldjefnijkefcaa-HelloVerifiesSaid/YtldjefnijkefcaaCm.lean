/- A variable's cells: what they hold, and what keeps them; results of several values. For every package. -/
import Derived.Test.YtldjefnijkefcaaChecked
import Derived.WalkKit
import Derived.WalkLawsBesides
import Derived.WalkSpells
import Derived.WalkSmall
import Derived.Below
import Derived.Handy
import Derived.Laws.ResultCell
import Derived.Laws.AppendOwn
import Derived.Lib.Hide
import Derived.Lib.Walk
namespace Go.Proofs.Ytldjefnijkefcaa.Cm
open Go.RowKit
set_option linter.unusedVariables false
set_option linter.unusedSimpArgs false

/-- The cells of a variable in a block of its own. -/
def Cs (b : Nat) (vs : List Value) (w : World) : Prop := (∀ i v, vs[i]? = some v → w.cell? ⟨b, i, none⟩ = some v ∧ w.frozen? ⟨b, i, none⟩ = false) ∧ b < w.heap.size
theorem Cs.cell {b i : Nat} {vs : List Value} {v : Value} {w : World} (h : Cs b vs w) (hi : vs[i]? = some v) : w.cell? ⟨b, i, none⟩ = some v := (h.1 i v hi).1
theorem Cs.frozen {b i : Nat} {vs : List Value} {v : Value} {w : World} (h : Cs b vs w) (hi : vs[i]? = some v) : w.frozen? ⟨b, i, none⟩ = false := (h.1 i v hi).2
theorem Cs.lt {b : Nat} {vs : List Value} {w : World} (h : Cs b vs w) : b < w.heap.size := h.2
theorem Cs.kept {b : Nat} {vs : List Value} {w w' : World} (h : Cs b vs w) (hb : w'.heap[b]? = w.heap[b]?) (hs : w.heap.size ≤ w'.heap.size) : Cs b vs w' :=
  ⟨fun i v hi => ⟨(World.cell?_of_block (a := ⟨b, i, none⟩) hb).trans (h.cell hi), (World.frozen?_of_block (a := ⟨b, i, none⟩) hb).trans (h.frozen hi)⟩, Nat.lt_of_lt_of_le h.2 hs⟩
theorem Cs.below {b m : Nat} {vs : List Value} {w w' : World} (h : Cs b vs w) (hb : Below m w w') (hm : b < m) : Cs b vs w' := h.kept (hb.block b hm) hb.size
theorem Cs.grown {b : Nat} {vs : List Value} {w w' : World} {row : Option Nat} (h : Cs b vs w) (hg : w.grownBy w' row) (hr : some b ≠ row) : Cs b vs w' := h.kept (hg.block b h.2 hr) hg.size
theorem Cs.drew {b : Nat} {vs : List Value} {w : World} (h : Cs b vs w) : Cs b vs w.drew := h.kept rfl (Nat.le_refl _)
theorem Cs.alloc {b : Nat} {vs : List Value} {w : World} (h : Cs b vs w) (o : Obj) : Cs b vs (w.alloc o) := h.below ((Below.refl w.heap.size w).alloc (Nat.le_refl _) o) h.2
theorem Cs.put {b i : Nat} {vs : List Value} {w : World} (h : Cs b vs w) (v : Value) : Cs b (vs.set i v) (w.setCell ⟨b, i, none⟩ v) := by
  refine ⟨fun j u hu => ?_, by simp [World.setCell]; exact h.2⟩
  by_cases e : i = j
  · subst e
    have hlt : i < vs.length := by
      rw [List.getElem?_set] at hu
      by_cases hl : i < vs.length
      · exact hl
      · simp [hl] at hu
    have hv : u = v := by
      rw [List.getElem?_set_self hlt] at hu; exact (Option.some.inj hu).symm
    subst hv
    exact ⟨World.cell?_setCell_same _ _ _ (h.cell (List.getElem?_eq_getElem hlt)), by rw [World.frozen?_setCell]; exact h.frozen (List.getElem?_eq_getElem hlt)⟩
  · rw [List.getElem?_set_ne e] at hu
    exact ⟨(World.cell?_setCell_other _ _ _ _ (fun e2 => e (by injection e2))).trans (h.cell hu), by rw [World.frozen?_setCell]; exact h.frozen hu⟩
/-- What is written into another block. -/
theorem Cs.other {b b' i : Nat} {vs : List Value} {w : World} (h : Cs b vs w) (v : Value) (hb : b ≠ b') : Cs b vs (w.setCell ⟨b', i, none⟩ v) :=
  h.kept (Below.heap_setCell _ _ _ _ hb) (by simp [World.setCell])
theorem Cs.new (w : World) (vs : List Value) (T : TypeId) : Cs w.heap.size vs (w.alloc (.cells vs.toArray T)) := by
  refine ⟨fun i v hi => ⟨?_, World.frozen?_alloc_at _ _ _ _ rfl⟩, by simp⟩
  rw [World.cell?_alloc_at _ _ _ _ rfl]; simpa using hi

theorem Cs.set {b b' i : Nat} {vs : List Value} {w : World} (h : Cs b vs w) (v : Value) (hb : b ≠ b') : Cs b vs (w.setCell ⟨b', i, none⟩ v) := h.other v hb
/-- Three cells at once, as the walk wants them. -/
theorem Cs.three {b : Nat} {x y z : Value} {w : World} (h : Cs b [x, y, z] w) : (w.cell? ⟨b, 0, none⟩ = some x ∧ w.cell? ⟨b, 1, none⟩ = some y ∧ w.cell? ⟨b, 2, none⟩ = some z) ∧ (w.frozen? ⟨b, 0, none⟩ = false ∧ w.frozen? ⟨b, 1, none⟩ = false ∧ w.frozen? ⟨b, 2, none⟩ = false) :=
  ⟨⟨h.cell (i := 0) rfl, h.cell (i := 1) rfl, h.cell (i := 2) rfl⟩, ⟨h.frozen (i := 0) rfl, h.frozen (i := 1) rfl, h.frozen (i := 2) rfl⟩⟩
theorem Cs.two {b : Nat} {x y : Value} {w : World} (h : Cs b [x, y] w) : (w.cell? ⟨b, 0, none⟩ = some x ∧ w.cell? ⟨b, 1, none⟩ = some y) ∧ (w.frozen? ⟨b, 0, none⟩ = false ∧ w.frozen? ⟨b, 1, none⟩ = false) :=
  ⟨⟨h.cell (i := 0) rfl, h.cell (i := 1) rfl⟩, ⟨h.frozen (i := 0) rfl, h.frozen (i := 1) rfl⟩⟩

theorem res4 {fn : Func} {t u v x : Tmp} (h : fn.results = #[.tmp t, .tmp u, .tmp v, .tmp x]) (tmps : Array Value) (P : Program) (w : World) :
    (results fn tmps).run P w = .ok (.tuple #[tmps.getD t undef, tmps.getD u undef, tmps.getD v undef, tmps.getD x undef]) w := by
  simp [results, h]
end Go.Proofs.Ytldjefnijkefcaa.Cm
