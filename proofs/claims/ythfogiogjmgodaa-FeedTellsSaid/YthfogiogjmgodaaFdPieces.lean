/- Feeds: the walk of FeedPieces. -/
import Derived.Test.YthfogiogjmgodaaFdTells
namespace Go.Proofs.Ythfogiogjmgodaa.Fd
open Go.RowKit Fr Cm
set_option linter.unusedVariables false
set_option linter.unusedSimpArgs false

/-- The three feeds and the two lists, as they are. -/
structure Pc (H : Nat) (w : World) (F : List Fm) (r : ByteArray) (bad : Nat) (va : Value) (G : List Fm) (q : ByteArray) (bd : Nat) (vb : Value) (w' : World) : Prop where
  f : Fs H r bad w'
  g : Fs (H + 1) q bd w'
  h : Fs (H + 2) ⟨#[]⟩ 0 w'
  rowA : Rf (H + 3) va F w'
  rowB : Rf (H + 3) vb G w'
  ap : Ap va vb
  bel : Below H w w'
section
variable {H : Nat} {w : World} {F F' G G' : List Fm} {r r' q q' : ByteArray} {bad bad' bd bd' : Nat} {va vb v2 : Value} {wr w1 w2 : World}
theorem Pc.below (h : Pc H w F r bad va G q bd vb w1) (hb : Below w1.heap.size w1 w2) : Pc H w F r bad va G q bd vb w2 :=
  ⟨Cs.below h.f hb h.f.lt, Cs.below h.g hb h.g.lt, Cs.below h.h hb h.h.lt, h.rowA.below hb, h.rowB.below hb, h.ap, h.bel.trans (hb.mono (by have := h.f.lt; omega))⟩
theorem Pc.pushA (h : Pc H w F r bad va G q bd vb wr) (hF : Fs H r' bad' w1) (hO : Only H wr w1)
    (hR : Rw 39 3 (H + 3) v2 (F.length + F'.length) (fmC F ++ fmC F') w2) (hg : w1.grownBy w2 va.ownBlock) (hG : Grew va v2 w1) : Pc H w (F ++ F') r' bad' v2 G q bd vb w2 := by
  have h1 := h.f.lt
  have h2 := hF.lt
  have hs := hO.size
  have ra := h.rowA.only hO (by omega)
  have rb := h.rowB.only hO (by omega)
  refine ⟨Cs.besideRow hF ra (by omega) hg, Cs.besideRow (Cs.only h.g hO (by omega)) ra (by omega) hg, Cs.besideRow (Cs.only h.h hO (by omega)) ra (by omega) hg, ?_, rb.kept hg h.ap.left, h.ap.grew rb hG, ra.grew_to hg (h.bel.trans (hO.below (Nat.le_refl H) (by omega))) (by omega) (by omega)⟩
  show Rw _ 3 _ _ (F ++ F').length (fmC (F ++ F')) w2
  rw [List.length_append, fmC_app]
  exact hR
theorem Pc.pushB (h : Pc H w F r bad va G q bd vb wr) (hF : Fs (H + 1) q' bd' w1) (hO : Only (H + 1) wr w1)
    (hR : Rw 39 3 (H + 3) v2 (G.length + G'.length) (fmC G ++ fmC G') w2) (hg : w1.grownBy w2 vb.ownBlock) (hG : Grew vb v2 w1) : Pc H w F r bad va (G ++ G') q' bd' v2 w2 := by
  have h1 := h.f.lt
  have h2 := hF.lt
  have hs := hO.size
  have ra := h.rowA.only hO (by omega)
  have rb := h.rowB.only hO (by omega)
  refine ⟨Cs.besideRow (Cs.only h.f hO (by omega)) rb (by omega) hg, Cs.besideRow hF rb (by omega) hg, Cs.besideRow (Cs.only h.h hO (by omega)) rb (by omega) hg, ra.kept hg h.ap.symm.left, ?_, (h.ap.symm.grew ra hG).symm, rb.grew_to hg (h.bel.trans (hO.below (Nat.le_succ H) (by omega))) (by omega) (by omega)⟩
  show Rw _ 3 _ _ (G ++ G').length (fmC (G ++ G')) w2
  rw [List.length_append, fmC_app]
  exact hR
/-- Behind the third feed's Push: its cells anew, all else as it was. -/
theorem Pc.pushC (h : Pc H w F r bad va G q bd vb wr) (hO : Only (H + 2) wr w1) : Fs H r bad w1 ∧ Fs (H + 1) q bd w1 ∧ Rf (H + 3) va F w1 ∧ Rf (H + 3) vb G w1 ∧ Below H w w1 := by
  have h1 := h.f.lt
  exact ⟨Cs.only h.f hO (by omega), Cs.only h.g hO (by omega), h.rowA.only hO (by omega), h.rowB.only hO (by omega), h.bel.trans (hO.below (by omega) (by omega))⟩
end

/-- Texts up to a byte of the next one. -/
def prS (X : Nat → ByteArray) (k j : Nat) : ByteArray := ctS X k ++ (X k).extract 0 j
theorem prS_zero (X : Nat → ByteArray) (k : Nat) : prS X k 0 = ctS X k := by
  apply bytes_eq
  unfold prS
  rw [app_list, ext_list]; simp
theorem prS_all (X : Nat → ByteArray) (k : Nat) : prS X k (X k).size = ctS X (k + 1) := by
  show ctS X k ++ _ = ctS X k ++ X k
  congr 1
  apply bytes_eq
  rw [ext_list, List.drop_zero, Nat.sub_zero, List.take_of_length_le (by rw [len_list]; omega)]
theorem prS_step (X : Nat → ByteArray) (k j : Nat) (h : j < (X k).size) : prS X k (j + 1) = prS X k j ++ (X k).extract j (j + 1) := by
  apply bytes_eq
  unfold prS
  rw [app_list, app_list, app_list, ext_list, ext_list, ext_list, List.append_assoc, List.drop_zero, Nat.sub_zero, Nat.sub_zero, Nat.add_sub_cancel_left]
  congr 1
  rw [List.take_add]
theorem prS_size (X : Nat → ByteArray) (k j : Nat) (h : j ≤ (X k).size) : (prS X k j).size = smZ X k + j := by
  unfold prS
  rw [ByteArray.size_append, ctS_size, ByteArray.size_extract]; omega
end Go.Proofs.Ythfogiogjmgodaa.Fd
