/- Names: what a declaration's fields and methods hold, cell by cell. -/
import Derived.Test.YthcpepifikpmeaaNmOf
namespace Go.Proofs.Ythcpepifikpmeaa.Nm
open Go.RowKit Cm
set_option linter.unusedVariables false
set_option linter.unusedSimpArgs false

/-- Fields: tags, names, and their types' cells. -/
structure Fl where
  T : Nat → Int
  N : Nat → ByteArray
  K : Nat → Int
  M : Nat → ByteArray
  o : Nat → Option Addr
  l : Nat → Nat
  c : Nat → Nat
def Fl.at5 (F : Fl) (i : Nat) : List Value := [.int .i64 (F.T i), .string (F.N i), .int .i64 (F.K i), .string (F.M i), .slice (F.o i) (F.l i) (F.c i)]
/-- Methods. -/
structure Ml where
  T : Nat → Int
  N : Nat → ByteArray
  I : Nat → ByteArray
  O : Nat → ByteArray
  W : Nat → Bool
def Ml.at5 (M : Ml) (i : Nat) : List Value := [.int .i64 (M.T i), .string (M.N i), .string (M.I i), .string (M.O i), .bool (M.W i)]
def Ml.val (M : Ml) (i : Nat) : Value := .agg #[.int .i64 (M.T i), .string (M.N i), .string (M.I i), .string (M.O i), .bool (M.W i)]

def Fx (o : Option Addr) (len : Nat) (F : Fl) (w : World) : Prop :=
  (∀ i, i < len → ∃ a, o = some a ∧ a.block < w.heap.size ∧ (∀ k v, (F.at5 i)[k]? = some v → w.cell? (a.add (i * 5 + k)) = some v) ∧ -9223372036854775808 ≤ F.T i ∧ F.T i ≤ 9223372036854775807) ∧ len ≤ 9223372036854775807
def Mx (o : Option Addr) (len : Nat) (M : Ml) (w : World) : Prop :=
  (∀ i, i < len → ∃ a, o = some a ∧ a.block < w.heap.size ∧ (∀ k v, (M.at5 i)[k]? = some v → w.cell? (a.add (i * 5 + k)) = some v) ∧ (M.N i).size ≤ 140737488355327 ∧ (M.I i).size ≤ 140737488355327 ∧ (M.O i).size ≤ 140737488355327) ∧ len ≤ 9223372036854775807
theorem Fx.below {o : Option Addr} {len m : Nat} {F : Fl} {w w' : World} (h : Fx o len F w) (hb : Below m w w') (hm : w.heap.size ≤ m) : Fx o len F w' := by
  refine ⟨fun i hi => ?_, h.2⟩
  obtain ⟨a, h1, h2, h3, h4⟩ := h.1 i hi
  refine ⟨a, h1, Nat.lt_of_lt_of_le h2 hb.size, fun k v hk => ?_, h4⟩
  have hc := h3 k v hk
  have := World.block_lt_of_cell? w _ hc
  rw [hb.cell (p := a.add (i * 5 + k)) (by omega)]; exact hc
theorem Mx.below {o : Option Addr} {len m : Nat} {M : Ml} {w w' : World} (h : Mx o len M w) (hb : Below m w w') (hm : w.heap.size ≤ m) : Mx o len M w' := by
  refine ⟨fun i hi => ?_, h.2⟩
  obtain ⟨a, h1, h2, h3, h4⟩ := h.1 i hi
  refine ⟨a, h1, Nat.lt_of_lt_of_le h2 hb.size, fun k v hk => ?_, h4⟩
  have hc := h3 k v hk
  have := World.block_lt_of_cell? w _ hc
  rw [hb.cell (p := a.add (i * 5 + k)) (by omega)]; exact hc
/-- Five cells from a place on. -/
theorem five {a : Addr} {j : Nat} {w : World} {v0 v1 v2 v3 v4 : Value} (h : ∀ k v, [v0, v1, v2, v3, v4][k]? = some v → w.cell? (a.add (j * 5 + k)) = some v) :
    ∃ Ab Ao As, a.add (j * 5) = ⟨Ab, Ao, As⟩ ∧ Ab < w.heap.size ∧ w.cell? ⟨Ab, Ao, As⟩ = some v0 ∧ w.cell? ⟨Ab, Ao + 1, none⟩ = some v1 ∧ w.cell? ⟨Ab, Ao + 2, none⟩ = some v2 ∧ w.cell? ⟨Ab, Ao + 3, none⟩ = some v3 ∧ w.cell? ⟨Ab, Ao + 4, none⟩ = some v4 := by
  obtain ⟨⟨Ab, Ao, As⟩, hA⟩ : ∃ A, a.add (j * 5) = A := ⟨_, rfl⟩
  have g : ∀ k, a.add (j * 5 + (k + 1)) = ⟨Ab, Ao + (k + 1), none⟩ := fun k => by rw [← Addr.add_add, hA]; simp [Addr.add]
  have c0 := h 0 _ rfl
  rw [Nat.add_zero, hA] at c0
  have hlt := World.block_lt_of_cell? w _ c0
  exact ⟨Ab, Ao, As, hA, hlt, c0, (g 0) ▸ h 1 _ rfl, (g 1) ▸ h 2 _ rfl, (g 2) ▸ h 3 _ rfl, (g 3) ▸ h 4 _ rfl⟩
theorem Fx.place {o : Option Addr} {len j : Nat} {F : Fl} {w : World} (h : Fx o len F w) (hj : j < len) :
    ∃ a Ab Ao As, o = some a ∧ a.add (j * 5) = ⟨Ab, Ao, As⟩ ∧ Ab < w.heap.size ∧ w.cell? ⟨Ab, Ao, As⟩ = some (.int .i64 (F.T j)) ∧ w.cell? ⟨Ab, Ao + 1, none⟩ = some (.string (F.N j)) ∧
      w.cell? ⟨Ab, Ao + 2, none⟩ = some (.int .i64 (F.K j)) ∧ w.cell? ⟨Ab, Ao + 3, none⟩ = some (.string (F.M j)) ∧ w.cell? ⟨Ab, Ao + 4, none⟩ = some (.slice (F.o j) (F.l j) (F.c j)) := by
  obtain ⟨a, rfl, _, h3, _⟩ := h.1 j hj
  obtain ⟨Ab, Ao, As, r⟩ := five h3
  exact ⟨a, Ab, Ao, As, rfl, r⟩
theorem Mx.place {o : Option Addr} {len j : Nat} {M : Ml} {w : World} (h : Mx o len M w) (hj : j < len) :
    ∃ a Ab Ao As, o = some a ∧ a.add (j * 5) = ⟨Ab, Ao, As⟩ ∧ Ab < w.heap.size ∧ w.cell? ⟨Ab, Ao, As⟩ = some (.int .i64 (M.T j)) ∧ w.cell? ⟨Ab, Ao + 1, none⟩ = some (.string (M.N j)) ∧
      w.cell? ⟨Ab, Ao + 2, none⟩ = some (.string (M.I j)) ∧ w.cell? ⟨Ab, Ao + 3, none⟩ = some (.string (M.O j)) ∧ w.cell? ⟨Ab, Ao + 4, none⟩ = some (.bool (M.W j)) := by
  obtain ⟨a, rfl, _, h3, _⟩ := h.1 j hj
  obtain ⟨Ab, Ao, As, r⟩ := five h3
  exact ⟨a, Ab, Ao, As, rfl, r⟩
end Go.Proofs.Ythcpepifikpmeaa.Nm
