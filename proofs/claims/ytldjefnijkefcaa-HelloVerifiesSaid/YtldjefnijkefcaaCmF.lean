/- Lists of structs as cells, one behind the other; stores into a slice of the call's own; calls that turn two old blocks alone. For every package. -/
import Derived.Test.YtldjefnijkefcaaCmR
import Derived.Laws.OwnMore
namespace Go.Proofs.Ytldjefnijkefcaa.Cm
open Go.RowKit
set_option linter.unusedVariables false
set_option linter.unusedSimpArgs false

section
variable {α : Type} {f : α → List Value} {s : Nat}
theorem fl_len (h : ∀ a, (f a).length = s) (L : List α) : (L.flatMap f).length = L.length * s := by
  induction L with
  | nil => simp
  | cons a L ih => rw [List.flatMap_cons, List.length_append, ih, h, List.length_cons, Nat.add_mul, Nat.one_mul, Nat.add_comm]
theorem fl_at (h : ∀ a, (f a).length = s) {L : List α} {i k : Nat} {a : α} (hi : L[i]? = some a) (hk : k < s) : (L.flatMap f)[i * s + k]? = (f a)[k]? := by
  induction L generalizing i with
  | nil => cases hi
  | cons b L ih =>
    rw [List.flatMap_cons]
    cases i with
    | zero =>
      obtain rfl : b = a := by simpa using hi
      rw [Nat.zero_mul, Nat.zero_add, List.getElem?_append_left (by rw [h]; exact hk)]
    | succ i =>
      have e : (i + 1) * s + k = s + (i * s + k) := by rw [Nat.add_mul, Nat.one_mul]; omega
      rw [List.getElem?_append_right (by rw [h, e]; omega), h, show (i + 1) * s + k - s = i * s + k by omega]
      exact ih (by simpa using hi)
theorem fl_app (L M : List α) : (L ++ M).flatMap f = L.flatMap f ++ M.flatMap f := List.flatMap_append
theorem fl_one (a : α) : [a].flatMap f = f a := by simp
theorem fl_mem {z : Value} {L : List α} (h1 : ∀ a, ∀ z ∈ f a, z.oneCell' = true) (hz : z ∈ L.flatMap f) : z.oneCell' = true := by
  obtain ⟨a, _, hz⟩ := List.mem_flatMap.1 hz
  exact h1 a z hz
/-- One field of one element is another. -/
theorem fl_set (h : ∀ a, (f a).length = s) {L : List α} {i k : Nat} {a b : α} {u : Value} (hi : L[i]? = some a) (hk : k < s) (hb : f b = (f a).set k u) : (L.flatMap f).set (i * s + k) u = (L.set i b).flatMap f := by
  induction L generalizing i with
  | nil => cases hi
  | cons c L ih =>
    cases i with
    | zero =>
      obtain rfl : c = a := by simpa using hi
      rw [List.set_cons_zero, List.flatMap_cons, List.flatMap_cons, Nat.zero_mul, Nat.zero_add, List.set_append_left _ _ (by rw [h]; exact hk), hb]
    | succ i =>
      have e : (i + 1) * s + k = s + (i * s + k) := by rw [Nat.add_mul, Nat.one_mul]; omega
      rw [List.set_cons_succ, List.flatMap_cons, List.flatMap_cons, List.set_append_right _ _ (by rw [h, e]; omega), h, show (i + 1) * s + k - s = i * s + k by omega, ih (by simpa using hi)]
end
section
variable {e : TypeId} {s B n g cap : Nat} {v : Value} {xs : List Value} {w w' : World}
/-- A slice of no elements that was laid anew. -/
theorem Rw.lit0 (w : World) (e : TypeId) (s g : Nat) (hg : w.heap.size = g) : Rw e s g (.slice (some ⟨g, 0, none⟩) 0 0) 0 [] (w.alloc (.cells #[] e)) := by
  subst hg
  exact World.ownsRow_lit w #[] 0 (Nat.le_refl _) (Nat.zero_le _) (by simp)
theorem Rw.at (h : Rw e s B (.slice (some ⟨g, 0, none⟩) n cap) n xs w) {j : Nat} {u : Value} (hj : xs[j]? = some u) : w.cell? ⟨g, j, none⟩ = some u := by
  rw [World.ownsRow.cellAt h j (by have := (List.getElem?_eq_some_iff.1 hj).1; rw [h.1] at this; exact this)]
  exact hj
theorem Rw.fz (h : Rw e s B (.slice (some ⟨g, 0, none⟩) n cap) n xs w) (j : Nat) : w.frozen? ⟨g, j, none⟩ = false := World.ownsRow.frozenAt h j
theorem Rw.put (h : Rw e s B (.slice (some ⟨g, 0, none⟩) n cap) n xs w) (j : Nat) (u : Value) : Rw e s B (.slice (some ⟨g, 0, none⟩) n cap) n (xs.set j u) (w.setCell ⟨g, j, none⟩ u) := (World.ownsRow.stored h j u).1
theorem Rw.lt1 (h : Rw e s B (.slice (some ⟨g, 0, none⟩) n cap) n xs w) : B ≤ g ∧ g < w.heap.size := Rw.block h g rfl
/-- What is turned is another block than the slice's. -/
theorem Rw.only' {b : Nat} (h : Rw e s B v n xs w) (ho : Only b w w') (hb : v.ownBlock ≠ some b) : Rw e s B v n xs w' :=
  World.ownsRow.kept (row := some b) h ⟨ho.os, ho.tape, ho.output, ho.size, fun k hk hne => ho.block k hk (fun e2 => hne (by rw [e2]))⟩ (.inr hb)
end
/-- Of the blocks that were there A and B alone may have turned. -/
structure Two (A B : Nat) (w w' : World) : Prop where
  os : w'.os = w.os
  tape : w'.tape = w.tape
  output : w'.output = w.output
  size : w.heap.size ≤ w'.heap.size
  block : ∀ k, k < w.heap.size → k ≠ A → k ≠ B → w'.heap[k]? = w.heap[k]?
section
variable {A B m : Nat} {a w w' : World}
theorem Two.of (h : Below w.heap.size w w') : Two A B w w' := ⟨h.os, h.tape, h.output, h.size, fun k hk _ _ => h.block k hk⟩
theorem Two.refl (A B : Nat) (w : World) : Two A B w w := Two.of (Below.refl _ _)
theorem Only.left (h : Only A w w') : Two A B w w' := ⟨h.os, h.tape, h.output, h.size, fun k hk h1 _ => h.block k hk h1⟩
theorem Only.right (h : Only B w w') : Two A B w w' := ⟨h.os, h.tape, h.output, h.size, fun k hk _ h2 => h.block k hk h2⟩
theorem Two.trans (h : Two A B a w) (k : Two A B w w') : Two A B a w' :=
  ⟨k.os.trans h.os, k.tape.trans h.tape, k.output.trans h.output, Nat.le_trans h.size k.size, fun i hi h1 h2 => (k.block i (Nat.lt_of_lt_of_le hi h.size) h1 h2).trans (h.block i hi h1 h2)⟩
theorem Two.below (h : Two A B w w') (hA : m ≤ A) (hB : m ≤ B) (hm : m ≤ w.heap.size) : Below m w w' :=
  ⟨h.os, h.tape, h.output, h.size, fun k hk => h.block k (by omega) (by omega) (by omega)⟩
theorem Two.setA (h : Two A B a w) (o : Nat) (u : Value) : Two A B a (w.setCell ⟨A, o, none⟩ u) := h.trans (Only.left ((Only.refl A w).setCell u))
theorem Cs.two' {b : Nat} {vs : List Value} (h : Cs b vs w) (ht : Two A B w w') (hA : b ≠ A) (hB : b ≠ B) : Cs b vs w' := h.kept (ht.block b h.2 hA hB) ht.size
theorem Rw.two {e : TypeId} {s b n : Nat} {v : Value} {xs : List Value} (h : Rw e s b v n xs w) (ht : Two A B w w') (hA : A < b) (hB : B < b) : Rw e s b v n xs w' := by
  refine ⟨h.1, ?_⟩
  rcases h.2 with hn | ⟨g, cap, cur, hv, hbg, hg, rest⟩
  · exact .inl hn
  · have hgl : g < w.heap.size := (Array.getElem?_eq_some_iff.1 hg).1
    exact .inr ⟨g, cap, cur, hv, hbg, (ht.block g hgl (by omega) (by omega)).trans hg, rest⟩
end
end Go.Proofs.Ytldjefnijkefcaa.Cm
