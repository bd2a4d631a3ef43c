/- A variable's cells: what they hold, and what keeps them; slices beside it. -/
import Derived.Test.YtkbblmjldfinoaaKyOwn
import Derived.Handy
import Derived.Laws.ResultCell
namespace Go.Proofs.Ytkbblmjldfinoaa.Vm
open Go.RowKit
set_option linter.unusedVariables false
set_option linter.unusedSimpArgs false

/-- The cells of a variable in a block of its own. -/
def Cs (b : Nat) (vs : List Value) (w : World) : Prop := (∀ i v, vs[i]? = some v → w.cell? ⟨b, i, none⟩ = some v ∧ w.frozen? ⟨b, i, none⟩ = false) ∧ b < w.heap.size
theorem Cs.cell {b i : Nat} {vs : List Value} {v : Value} {w : World} (h : Cs b vs w) (hi : vs[i]? = some v) : w.cell? ⟨b, i, none⟩ = some v := (h.1 i v hi).1
theorem Cs.frozen {b i : Nat} {vs : List Value} {v : Value} {w : World} (h : Cs b vs w) (hi : vs[i]? = some v) : w.frozen? ⟨b, i, none⟩ = false := (h.1 i v hi).2
theorem Cs.lt {b : Nat} {vs : List Value} {w : World} (h : Cs b vs w) : b < w.heap.size := h.2
theorem Cs.kept {b : Nat} {vs : List Value} {w w' : World} (h : Cs b vs w) (hb : w'.heap[b]? = w.heap[b]?) (hs : w.heap.size ≤ w'.heap.size) : Cs b vs w' :=
  ⟨fun i v hi => ⟨(World.cell?_of_block (a := ⟨b, i, none⟩) hb).trans (h.cell hi), (World.frozen?_of_block (a := ⟨b, i, none⟩) hb).trans (h.frozen hi)⟩, Nat.lt_of_lt_of_le h.2 hs⟩
theorem Cs.below {b m : Nat} {vs : List Value} {w w' : World} (h : Cs b vs w) (hb : Below m w w') (hm : b < m) : Cs b vs w' := h.kept (hb.block b hm) hb.size
theorem Cs.grown {b : Nat} {vs : List Value} {w w' : World} {row : Option Nat} (h : Cs b vs w) (hg : w.grownBy w' row) (hr : some b ≠ row) : Cs b vs w' := h.kept (hg.block b h.2 hr) hg.size
theorem Cs.drew {b : Nat} {vs : List Value} {w : World} (h : Cs b vs w) : Cs b vs w.drew := h.kept rfl (Nat.le_refl _)
theorem Cs.alloc {b : Nat} {vs : List Value} {w : World} (h : Cs b vs w) (o : Obj) : Cs b vs (w.alloc o) := h.below ((Below.refl w.heap.size w).alloc (Nat.le_refl _) o) h.2
theorem Cs.put {b i : Nat} {vs : List Value} {w : World} (h : Cs b vs w) (v : Value) : Cs b (vs.set i v) (w.setCell ⟨b, i, none⟩ v) := by
  refine ⟨fun j u hu => ?_, by simp [World.setCell]; exact h.2⟩
  by_cases e : i = j
  · subst e
    have hlt : i < vs.length := by
      rw [List.getElem?_set] at hu
      by_cases hl : i < vs.length
      · exact hl
      · simp [hl] at hu
    have hv : u = v := by
      rw [List.getElem?_set_self hlt] at hu; exact (Option.some.inj hu).symm
    subst hv
    exact ⟨World.cell?_setCell_same _ _ _ (h.cell (List.getElem?_eq_getElem hlt)), by rw [World.frozen?_setCell]; exact h.frozen (List.getElem?_eq_getElem hlt)⟩
  · rw [List.getElem?_set_ne e] at hu
    exact ⟨(World.cell?_setCell_other _ _ _ _ (fun e2 => e (by injection e2))).trans (h.cell hu), by rw [World.frozen?_setCell]; exact h.frozen hu⟩
/-- What is written into another block. -/
theorem Cs.other {b b' i : Nat} {vs : List Value} {w : World} (h : Cs b vs w) (v : Value) (hb : b ≠ b') : Cs b vs (w.setCell ⟨b', i, none⟩ v) :=
  h.kept (Below.heap_setCell _ _ _ _ hb) (by simp [World.setCell])
theorem Lt.setCell {e : TypeId} {B b i : Nat} {v u : Value} {xs : List Value} {w : World} (h : Lt e B v xs w) (hb : b < B) : Lt e B v xs (w.setCell ⟨b, i, none⟩ u) := ownsRow_setCell_below h hb u
theorem Cs.new (w : World) (vs : List Value) (T : TypeId) : Cs w.heap.size vs (w.alloc (.cells vs.toArray T)) := by
  refine ⟨fun i v hi => ⟨?_, World.frozen?_alloc_at _ _ _ _ rfl⟩, by simp⟩
  rw [World.cell?_alloc_at _ _ _ _ rfl]; simpa using hi
theorem Cs.apart {b B : Nat} {e : TypeId} {xs : List Value} {v : Value} {w : World} (hl : Lt e B v xs w) (hb : b < B) : some b ≠ v.ownBlock := fun h => by
  have := (hl.block b h.symm).1; omega

/-- The reference's fields in the making: the result's cells (nothing yet), the variable's, the three slices. -/
structure St (B : Nat) (vT vW vL : Value) (T ws L : List Value) (W w : World) : Prop where
  res : Cs B [.slice none 0 0, .slice none 0 0, .slice none 0 0] w
  var : Cs (B + 1) [vT, vW, vL] w
  tags : Lt 3 (B + 2) vT T w
  wires : Lt 3 (B + 2) vW ws w
  texts : Lt 9 (B + 2) vL L w
  ap : Ap vT vW
  bel : Below B W w
theorem St.alloc {B : Nat} {vT vW vL : Value} {T ws L : List Value} {W w : World} (h : St B vT vW vL T ws L W w) (o : Obj) : St B vT vW vL T ws L W (w.alloc o) :=
  ⟨h.res.alloc o, h.var.alloc o, h.tags.alloc o, h.wires.alloc o, h.texts.alloc o, h.ap, h.bel.alloc (by have := h.var.lt; omega) o⟩
theorem St.drew {B : Nat} {vT vW vL : Value} {T ws L : List Value} {W w : World} (h : St B vT vW vL T ws L W w) : St B vT vW vL T ws L W w.drew :=
  ⟨h.res.drew, h.var.drew, h.tags.drew, h.wires.drew, h.texts.drew, h.ap, h.bel.drew⟩
theorem St.tag {B : Nat} {vT vW vL v : Value} {T ws L xs : List Value} {W w w' : World} (h : St B vT vW vL T ws L W w) (hT : Lt 3 (B + 2) v xs w') (hg : w.grownBy w' vT.ownBlock) (hG : Grew vT v w) :
    ∃ g c n, v = .slice (some ⟨g, 0, none⟩) n c ∧ w'.cell? ⟨B + 1, 0, none⟩ = some vT ∧ w'.frozen? ⟨B + 1, 0, none⟩ = false ∧ w'.cell? ⟨B + 1, 1, none⟩ = some vW ∧ w'.frozen? ⟨B + 1, 1, none⟩ = false ∧
      St B v vW vL xs ws L W (w'.setCell ⟨B + 1, 0, none⟩ v) := by
  have hF3 := h.var.grown hg (Cs.apart h.tags (by omega))
  have hC3 := h.res.grown hg (Cs.apart h.tags (by omega))
  have hW3 := h.wires.kept hg h.ap.left
  have hL3 := h.texts.beside h.tags (by decide) hg
  have hB3 := h.tags.grew_to hg h.bel (by omega) (by have := h.var.lt; omega)
  have hA3 := h.ap.grew h.wires hG
  obtain ⟨g3, c3, n3, rfl, _⟩ := hG
  exact ⟨g3, c3, n3, rfl, hF3.cell (i := 0) rfl, hF3.frozen (i := 0) rfl, hF3.cell (i := 1) rfl, hF3.frozen (i := 1) rfl,
    ⟨hC3.other _ (by omega), hF3.put (i := 0) _, hT.setCell (by omega), hW3.setCell (by omega), hL3.setCell (by omega), hA3, hB3.setCell (p := ⟨B + 1, 0, none⟩) (Nat.le_succ _) _⟩⟩
theorem St.wire {B : Nat} {vT vW vL v : Value} {T ws L xs : List Value} {W w w' : World} (h : St B vT vW vL T ws L W w) (hW : Lt 3 (B + 2) v xs w') (hg : w.grownBy w' vW.ownBlock) (hG : Grew vW v w) :
    ∃ g c n, v = .slice (some ⟨g, 0, none⟩) n c ∧ w'.cell? ⟨B + 1, 1, none⟩ = some vW ∧ w'.frozen? ⟨B + 1, 1, none⟩ = false ∧ w'.cell? ⟨B + 1, 2, none⟩ = some vL ∧ w'.frozen? ⟨B + 1, 2, none⟩ = false ∧
      St B vT v vL T xs L W (w'.setCell ⟨B + 1, 1, none⟩ v) := by
  have hF3 := h.var.grown hg (Cs.apart h.wires (by omega))
  have hC3 := h.res.grown hg (Cs.apart h.wires (by omega))
  have hT3 := h.tags.kept hg h.ap.symm.left
  have hL3 := h.texts.beside h.wires (by decide) hg
  have hB3 := h.wires.grew_to hg h.bel (by omega) (by have := h.var.lt; omega)
  have hA3 := (h.ap.symm.grew h.tags hG).symm
  obtain ⟨g3, c3, n3, rfl, _⟩ := hG
  exact ⟨g3, c3, n3, rfl, hF3.cell (i := 1) rfl, hF3.frozen (i := 1) rfl, hF3.cell (i := 2) rfl, hF3.frozen (i := 2) rfl,
    ⟨hC3.other _ (by omega), hF3.put (i := 1) _, hT3.setCell (by omega), hW.setCell (by omega), hL3.setCell (by omega), hA3, hB3.setCell (p := ⟨B + 1, 1, none⟩) (Nat.le_succ _) _⟩⟩
theorem St.text {B : Nat} {vT vW vL v : Value} {T ws L xs : List Value} {W w w' : World} (h : St B vT vW vL T ws L W w) (hL : Lt 9 (B + 2) v xs w') (hg : w.grownBy w' vL.ownBlock) (hG : Grew vL v w) :
    ∃ g c n, v = .slice (some ⟨g, 0, none⟩) n c ∧ w'.cell? ⟨B + 1, 2, none⟩ = some vL ∧ w'.frozen? ⟨B + 1, 2, none⟩ = false ∧
      St B vT vW v T ws xs W (w'.setCell ⟨B + 1, 2, none⟩ v) := by
  have hF3 := h.var.grown hg (Cs.apart h.texts (by omega))
  have hC3 := h.res.grown hg (Cs.apart h.texts (by omega))
  have hT3 := h.tags.beside h.texts (by decide) hg
  have hW3 := h.wires.beside h.texts (by decide) hg
  have hB3 := h.texts.grew_to hg h.bel (by omega) (by have := h.var.lt; omega)
  obtain ⟨g3, c3, n3, rfl, _⟩ := hG
  exact ⟨g3, c3, n3, rfl, hF3.cell (i := 2) rfl, hF3.frozen (i := 2) rfl,
    ⟨hC3.other _ (by omega), hF3.put (i := 2) _, hT3.setCell (by omega), hW3.setCell (by omega), hL.setCell (by omega), h.ap, hB3.setCell (p := ⟨B + 1, 2, none⟩) (Nat.le_succ _) _⟩⟩
end Go.Proofs.Ytkbblmjldfinoaa.Vm
