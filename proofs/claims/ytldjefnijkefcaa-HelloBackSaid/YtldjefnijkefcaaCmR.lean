/- Slices that a call has made by append, of elements of any size: what is kept of them, and append as a law; calls that turn one old block alone. For every package. -/
import Derived.Test.YtldjefnijkefcaaCm
import Derived.Deep.AppendLies
import Derived.StillTailTactics
namespace Go.Proofs.Ytldjefnijkefcaa.Cm
open Go.RowKit
set_option linter.unusedVariables false
set_option linter.unusedSimpArgs false

/-- Of the blocks that were there B alone may have turned; the streams are as they were; no block has gone. -/
structure Only (B : Nat) (w w' : World) : Prop where
  os : w'.os = w.os
  tape : w'.tape = w.tape
  output : w'.output = w.output
  size : w.heap.size ≤ w'.heap.size
  block : ∀ k, k < w.heap.size → k ≠ B → w'.heap[k]? = w.heap[k]?
theorem Only.of {B : Nat} {w w' : World} (h : Below w.heap.size w w') : Only B w w' := ⟨h.os, h.tape, h.output, h.size, fun k hk _ => h.block k hk⟩
theorem Only.refl (B : Nat) (w : World) : Only B w w := Only.of (Below.refl _ _)
theorem Only.trans {B : Nat} {a b c : World} (h : Only B a b) (k : Only B b c) : Only B a c :=
  ⟨k.os.trans h.os, k.tape.trans h.tape, k.output.trans h.output, Nat.le_trans h.size k.size, fun i hi hn => (k.block i (Nat.lt_of_lt_of_le hi h.size) hn).trans (h.block i hi hn)⟩
theorem Only.setCell {B o : Nat} {a w : World} (h : Only B a w) (u : Value) : Only B a (w.setCell ⟨B, o, none⟩ u) :=
  h.trans ⟨rfl, rfl, rfl, by simp [World.setCell], fun k _ hn => Below.heap_setCell _ _ _ _ hn⟩
/-- What lies below a bound is as it was, if the one block lies above it. -/
theorem Only.below {B n : Nat} {w w' : World} (h : Only B w w') (hB : n ≤ B) (hn : n ≤ w.heap.size) : Below n w w' :=
  ⟨h.os, h.tape, h.output, h.size, fun k hk => h.block k (by omega) (by omega)⟩
theorem Only.cell {B : Nat} {w w' : World} (h : Only B w w') {p : Addr} (hp : p.block < w.heap.size) (hn : p.block ≠ B) : w'.cell? p = w.cell? p := World.cell?_of_block (w := w) (h.block p.block hp hn)
theorem Only.after {B : Nat} {a w w' : World} (h : Only B a w) (hb : Below w.heap.size w w') : Only B a w' := h.trans (Only.of hb)
theorem Only.alloc {B : Nat} {a w : World} (h : Only B a w) (o : Obj) : Only B a (w.alloc o) := h.after ((Below.refl _ _).alloc (Nat.le_refl _) o)
theorem Only.grown {B : Nat} {a w w' : World} {row : Option Nat} (h : Only B a w) (hg : w.grownBy w' row) (hr : ∀ k, row = some k → a.heap.size ≤ k) : Only B a w' :=
  ⟨hg.os.trans h.os, hg.tape.trans h.tape, hg.output.trans h.output, Nat.le_trans h.size hg.size, fun k hk hn => (hg.block k (Nat.lt_of_lt_of_le hk h.size) (fun e => by have := hr k e.symm; omega)).trans (h.block k hk hn)⟩
theorem Cs.only {B b : Nat} {vs : List Value} {w w' : World} (h : Cs b vs w) (ho : Only B w w') (hn : b ≠ B) : Cs b vs w' := h.kept (ho.block b h.2 hn) ho.size

/-- A slice of the call's own: n elements of s cells each, and what the cells hold; its block is none below B. -/
def Rw (e : TypeId) (s B : Nat) (v : Value) (n : Nat) (xs : List Value) (w : World) : Prop := w.ownsRow B e s v n xs
section
variable {e : TypeId} {s B n : Nat} {v : Value} {xs : List Value} {w w' : World}
theorem Rw.nil (e : TypeId) (s B : Nat) (w : World) : Rw e s B (.slice none 0 0) 0 [] w := World.ownsRow_nil w B e s
theorem Rw.row (h : Rw e s B v n xs w) : w.ownsRow B e s v n xs := h
theorem Rw.below (h : Rw e s B v n xs w) (hb : Below w.heap.size w w') : Rw e s B v n xs w' :=
  World.ownsRow.kept (row := none) h ⟨hb.os, hb.tape, hb.output, hb.size, fun k hk _ => hb.block k hk⟩ (by cases v.ownBlock <;> simp)
theorem Rw.drew (h : Rw e s B v n xs w) : Rw e s B v n xs w.drew := h
theorem Rw.alloc (h : Rw e s B v n xs w) (o : Obj) : Rw e s B v n xs (w.alloc o) := World.ownsRow.alloc h o
theorem Rw.mono {B' : Nat} (h : Rw e s B v n xs w) (hb : B' ≤ B) : Rw e s B' v n xs w := by
  refine ⟨h.1, ?_⟩
  rcases h.2 with hn | ⟨g, cap, cur, hv, hbg, rest⟩
  · exact .inl hn
  · exact .inr ⟨g, cap, cur, hv, Nat.le_trans hb hbg, rest⟩
theorem Rw.block (h : Rw e s B v n xs w) : ∀ k, v.ownBlock = some k → B ≤ k ∧ k < w.heap.size := World.ownsRow.lt h
theorem Rw.kept {row : Option Nat} (h : Rw e s B v n xs w) (hg : w.grownBy w' row) (hne : v.ownBlock = none ∨ v.ownBlock ≠ row) : Rw e s B v n xs w' := World.ownsRow.kept h hg hne
/-- A block below is turned, another one's. -/
theorem Rw.only {b : Nat} (h : Rw e s B v n xs w) (ho : Only b w w') (hb : b < B) : Rw e s B v n xs w' :=
  World.ownsRow.kept (row := some b) h ⟨ho.os, ho.tape, ho.output, ho.size, fun k hk hne => ho.block k hk (fun e2 => hne (by rw [e2]))⟩ (.inr fun e2 => by have := (h.block b e2).1; omega)
theorem Rw.setCell {b i : Nat} {u : Value} (h : Rw e s B v n xs w) (hb : b < B) : Rw e s B v n xs (w.setCell ⟨b, i, none⟩ u) := ownsRow_setCell_below h hb u
/-- What the slice looks like, and what its cells hold. -/
theorem Rw.form (h : Rw e s B v n xs w) :
    ∃ o cap, v = .slice o n cap ∧ n ≤ maxLen ∧ ∀ i u, xs[i]? = some u → ∃ a, o = some a ∧ w.cell? (a.add i) = some u := by
  rcases h.2 with ⟨rfl, h0⟩ | ⟨g, cap, cur, rfl, hb, hgg, hn, hc, _⟩
  · refine ⟨none, 0, by rw [h0], by rw [h0]; exact Nat.zero_le _, ?_⟩
    intro i u hu
    have h1 := h.1
    rw [h0, Nat.zero_mul] at h1
    rw [List.eq_nil_of_length_eq_zero h1] at hu; simp at hu
  · exact ⟨some ⟨g, 0, none⟩, cap, rfl, by omega, fun i u hu => ⟨⟨g, 0, none⟩, rfl, World.ownsRow.cells h rfl i u hu⟩⟩
theorem Rw.form1 (h : Rw e s B v n xs w) (hn : 0 < n) :
    ∃ g cap, v = .slice (some ⟨g, 0, none⟩) n cap ∧ B ≤ g ∧ g < w.heap.size ∧ ∀ i u, xs[i]? = some u → w.cell? ⟨g, i, none⟩ = some u := by
  rcases h.2 with ⟨rfl, h0⟩ | ⟨g, cap, cur, rfl, hb, hgg, _⟩
  · omega
  · refine ⟨g, cap, rfl, hb, (Array.getElem?_eq_some_iff.1 hgg).1, fun i u hu => ?_⟩
    have := World.ownsRow.cells h rfl i u hu
    have hadd : (⟨g, 0, none⟩ : Addr).add i = ⟨g, i, none⟩ := by unfold Addr.add; split <;> simp_all
    rwa [hadd] at this
end

/-- Where a slice lies that was appended to: where it lay, or anew. -/
def Grew (v v' : Value) (w : World) : Prop := v'.ownBlock = v.ownBlock ∨ v'.ownBlock = some w.heap.size
/-- Two slices lie apart. -/
def Ap (v v' : Value) : Prop := ∀ k, v.ownBlock = some k → v'.ownBlock ≠ some k
theorem Ap.nil (v : Value) : Ap v (.slice none 0 0) := fun k _ h => by simp [Value.ownBlock] at h
theorem Ap.symm {v v' : Value} (h : Ap v v') : Ap v' v := fun k h1 h2 => h k h2 h1
theorem Ap.left {v v' : Value} (h : Ap v v') : v'.ownBlock = none ∨ v'.ownBlock ≠ v.ownBlock := by
  cases hv : v'.ownBlock with
  | none => exact .inl rfl
  | some k => exact .inr fun e => h k e.symm hv
theorem Ap.grew {e : TypeId} {s B n : Nat} {v v' u : Value} {xs : List Value} {w : World} (h : Ap v u) (hu : Rw e s B u n xs w) (hg : Grew v v' w) : Ap v' u := by
  intro k hk hk2
  rcases hg with hg | hg
  · exact h k (hg ▸ hk) hk2
  · rw [hg] at hk
    have := (hu.block k hk2).2
    simp at hk; omega
theorem Rw.grew_to {e : TypeId} {s B B' n : Nat} {v : Value} {xs : List Value} {w w' a : World} (h : Rw e s B v n xs w) (hg : w.grownBy w' v.ownBlock) (hb : Below B' a w) (hle : B' ≤ B) (hB : B' ≤ w.heap.size) : Below B' a w' :=
  hb.grown hg hB fun k hk => Nat.le_trans hle (h.block k hk).1
theorem Cs.besideRow {e : TypeId} {s B b n : Nat} {v : Value} {xs vs : List Value} {w w' : World} (h : Cs b vs w) (hr : Rw e s B v n xs w) (hb : b < B) (hg : w.grownBy w' v.ownBlock) : Cs b vs w' :=
  h.grown hg fun h2 => by have := (hr.block b h2.symm).1; omega

theorem run_append_nil {P : Program} {w : World} (t ty e : TypeId) (i : TypeInfo) (s B : Nat) (ht : P.underlying t = some (.slice e)) (hi : P.info? e = some i) (v : Value) (n : Nat) (xs : List Value) (h : Rw e s B v n xs w) (c : Nat) :
    (Builtin.append_ #[t, t] ty #[v, .slice none 0 c]).run P w = .ok v w := by
  rcases h.2 with ⟨rfl, rfl⟩ | ⟨g, cap, cur, rfl, _, _, hnc, _⟩
  · simp [Builtin.append_, run_underlying ht, sizeOf, typeInfo, hi, Builtin.lenOf, Builtin.firstCells]
  · simp [Builtin.append_, run_underlying ht, sizeOf, typeInfo, hi, Builtin.lenOf, Builtin.firstCells, hnc, storeCells]

/-- append of a slice's elements, whichever slice of the call's own it is. -/
theorem wp_append_row {P : Program} {o : Oper} {a : Act} {K : Act → World → Prop} {Q : Exit → Act → World → Prop} {w : World} (x y : Operand) (t : TypeId)
    (ho : o.op = .call { callee := .builtin .append, args := #[x, y], argTypes := #[t, t] })
    (e : TypeId) (s B B' bytes : Nat) (ht : P.underlying t = some (.slice e)) (hi : ∃ i z, P.info? e = some i ∧ i.zero = some z ∧ i.size = s ∧ i.bytes = bytes ∧ z.cells.size = s) (hs : 0 < s)
    (v u : Value) (n m : Nat) (xs ys : List Value) (hx : a.eval x = v) (hy : a.eval y = u) (h : Rw e s B v n xs w) (h' : Rw e s B' u m ys w) (h1 : ∀ z ∈ ys, z.oneCell' = true)
    (hm : n + m ≤ maxLen) (hbt : (n + m) * bytes ≤ 140737488355328) (hbase : B ≤ w.heap.size)
    (hK : ∀ v' w', Rw e s B v' (n + m) (xs ++ ys) w' → w.grownBy w' v.ownBlock → Grew v v' w → K (a.put o.dst v') w') : o.wp P a w K Q := by
  obtain ⟨i, z, hi, hz, hsz, hby, hzs⟩ := hi
  have H : ∃ v' w', (Builtin.append_ #[t, t] o.type #[v, u]).run P w = .ok v' w' ∧ Rw e s B v' (n + m) (xs ++ ys) w' ∧ w.grownBy w' v.ownBlock ∧ Grew v v' w := by
    rcases h'.2 with ⟨rfl, rfl⟩ | ⟨g, cap, cur, rfl, _, _⟩
    · have hn : ys = [] := List.eq_nil_of_length_eq_zero (by simpa using h'.1)
      subst hn
      exact ⟨v, w, run_append_nil t o.type e i s B ht hi v n xs h 0, by simpa using h, World.grownBy.refl w _, .inl rfl⟩
    · obtain ⟨v', w', hr, h2, h3, _, h5⟩ := run_append_own_at (P := P) w B t o.type e i z s bytes ht hi hz hsz hby hzs hs v n xs h ⟨g, 0, none⟩ m cap ys h'.1 (World.ownsRow.cells h' rfl) h1 hm hbt hbase
      exact ⟨v', w', hr, h2, h3, h5⟩
  obtain ⟨v', w', hr, h2, h3, h4⟩ := H
  unfold Oper.wp execOp
  simp only [ho, resolve, invoke, builtin, Sem.run_bind, Sem.run_pure, Result.andThen_ok, List.map_toArray, List.map_cons, List.map_nil, hx, hy, hr]
  exact hK v' w' h2 h3 h4
theorem Rw.list {P : Program} {ops : Array Oper} {rest : List Oper} {o : Oper} {a : Act} {Q : Exit → Act → World → Prop} {w : World} (hgd : o.guard = none) (x y : Operand) (t : TypeId)
    (ho : o.op = .call { callee := .builtin .append, args := #[x, y], argTypes := #[t, t] })
    (e : TypeId) (s B B' bytes : Nat) (ht : P.underlying t = some (.slice e)) (hi : ∃ i z, P.info? e = some i ∧ i.zero = some z ∧ i.size = s ∧ i.bytes = bytes ∧ z.cells.size = s) (hs : 0 < s)
    (v u : Value) (n m : Nat) (xs ys : List Value) (hx : a.eval x = v) (hy : a.eval y = u) (h : Rw e s B v n xs w) (h' : Rw e s B' u m ys w) (h1 : ∀ z ∈ ys, z.oneCell' = true)
    (hm : n + m ≤ maxLen) (hbt : (n + m) * bytes ≤ 140737488355328) (hbase : B ≤ w.heap.size)
    (hK : ∀ v' w', Rw e s B v' (n + m) (xs ++ ys) w' → w.grownBy w' v.ownBlock → Grew v v' w → wpList P ops Q rest (a.put o.dst v') w') : wpList P ops Q (o :: rest) a w :=
  wpList_plain hgd fun _ hK2 => wp_append_row x y t ho e s B B' bytes ht hi hs v u n m xs ys hx hy h h' h1 hm hbt hbase fun v' w' h2 h3 h4 => hK2 _ _ (hK v' w' h2 h3 h4)
/-- A slice of one element that was laid anew (as a composite literal, or an argument of append's, is). -/
theorem Rw.lit (w : World) (e : TypeId) (s : Nat) (cs : List Value) (hs : cs.length = s) : Rw e s w.heap.size (.slice (some ⟨w.heap.size, 0, none⟩) 1 1) 1 cs (w.alloc (.cells cs.toArray e)) := by
  refine ⟨by rw [hs, Nat.one_mul], .inr ⟨w.heap.size, 1, cs.toArray, rfl, Nat.le_refl _, heap_alloc_new w _, Nat.le_refl _, by unfold maxLen; omega, by simp [hs], ?_⟩⟩
  simp [← hs]
theorem Rw.lit_at (w : World) (e : TypeId) (s g : Nat) (cs : List Value) (hs : cs.length = s) (hg : w.heap.size = g) : Rw e s g (.slice (some ⟨g, 0, none⟩) 1 1) 1 cs (w.alloc (.cells cs.toArray e)) := by
  subst hg; exact Rw.lit w e s cs hs
end Go.Proofs.Ytldjefnijkefcaa.Cm
