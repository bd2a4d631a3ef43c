/- Names: a table's cells and its map; what a list of declarations that came in says. -/
import Derived.Test.YthcpepifikpmeaaNmMath
import Derived.Test.YthcpepifikpmeaaCmT
import Derived.Maps.OwnSet
import Derived.Deep.Slices
import Derived.OpenShut
namespace Go.Proofs.Ythcpepifikpmeaa.Nm
open Go.RowKit Cm
set_option linter.unusedVariables false
set_option linter.unusedSimpArgs false

/-- How an entry's value reads: a place, and a kind. -/
def fkE (v : Value) : Option (DataW Unit × List MemPlace) :=
  match v with
  | .agg cs => match cs.toList with
    | [.int .i64 p, .int .i64 k] => some (.agg [.lit (.int .i64 p), .lit (.int .i64 k)], [])
    | _ => none
  | _ => none
theorem fkE_mk (p k : Int) : fkE (.agg #[.int .i64 p, .int .i64 k]) = some (.agg [.lit (.int .i64 p), .lit (.int .i64 k)], []) := rfl
theorem fkE_inv {v : Value} {p k : Int} {ps : List MemPlace} (h : fkE v = some (.agg [.lit (.int .i64 p), .lit (.int .i64 k)], ps)) : v = .agg #[.int .i64 p, .int .i64 k] := by
  unfold fkE at h
  split at h
  · rename_i cs
    split at h
    · rename_i p' k' hc
      simp only [Option.some.injEq, Prod.mk.injEq, DataW.agg.injEq, List.cons.injEq, DataW.lit.injEq, Lit.int.injEq, true_and, and_true] at h
      obtain ⟨⟨rfl, rfl⟩, _⟩ := h
      have : cs = #[.int .i64 p', .int .i64 k'] := Array.toList_inj.1 hc
      rw [this]
    · cases h
  · cases h

def klS (s : ByteArray) : Lit := .string s.data.toList
theorem klS_inj {a b : ByteArray} (h : klS a = klS b) : a = b := bytes_eq (by unfold klS at h; injection h)
/-- Block B is a map of the first n declarations' names. -/
def Mp (B n : Nat) (S : Nat → ByteArray) (K : Nat → Int) (w : World) : Prop :=
  ∃ D : DataW Unit, w.ownsMap Try.prog 9 fkE B n D ∧ ∀ s : ByteArray,
    (fiS S s n = none → Maps.has D (klS s) = false) ∧ ∀ i, fiS S s n = some i → Maps.has D (klS s) = true ∧ ∀ z, D.atKey (klS s) z = .agg [.lit (.int .i64 i), .lit (.int .i64 (K i))]
theorem Mp.lt {B n : Nat} {S : Nat → ByteArray} {K : Nat → Int} {w : World} (h : Mp B n S K w) : B < w.heap.size := by
  obtain ⟨D, h, _⟩ := h
  exact h.lt
theorem Mp.below {B n m : Nat} {S : Nat → ByteArray} {K : Nat → Int} {w w' : World} (h : Mp B n S K w) (hb : Below m w w') (hm : B < m) : Mp B n S K w' := by
  obtain ⟨D, ⟨es, clock, h1, h2⟩, r⟩ := h
  exact ⟨D, ⟨es, clock, (hb.block B hm).trans h1, h2⟩, r⟩
theorem Mp.alloc {B n : Nat} {S : Nat → ByteArray} {K : Nat → Int} {w : World} (h : Mp B n S K w) (o : Obj) : Mp B n S K (w.alloc o) :=
  h.below ((Below.refl w.heap.size w).alloc (Nat.le_refl _) o) h.lt
theorem Mp.setCell {B n b o : Nat} {S : Nat → ByteArray} {K : Nat → Int} {w : World} (h : Mp B n S K w) (hb : B ≠ b) (u : Value) : Mp B n S K (w.setCell ⟨b, o, none⟩ u) := by
  obtain ⟨D, h1, h2⟩ := h
  exact ⟨D, h1.setCell (a := ⟨b, o, none⟩) hb u, h2⟩
theorem Mp.drew {B n : Nat} {S : Nat → ByteArray} {K : Nat → Int} {w : World} (h : Mp B n S K w) : Mp B n S K w.drew := h
theorem Mp.made (w : World) (S : Nat → ByteArray) (K : Nat → Int) : Mp w.heap.size 0 S K (w.alloc (.map #[] 0)) :=
  ⟨_, World.ownsMap_made w _ _ _, fun s => ⟨fun _ => rfl, fun i h => by cases h⟩⟩
theorem law : Maps.Keyed Try.prog 9 := Maps.string_keyed Try.underlying9
theorem zeroE (w : World) : (zeroValue 59).run Try.prog w = .ok (.agg #[.int .i64 0, .int .i64 0]) w := by kernel_rfl
theorem key_of {s : ByteArray} (hs : s.size ≤ maxLen) : keyOf Try.prog 9 (.string s) = some (klS s) := Go.WideMaps.keyOf_string_mk Try.underlying9 hs

/-- The look-up. -/
theorem Mp.look {B n : Nat} {S : Nat → ByteArray} {K : Nat → Int} {w : World} (h : Mp B n S K w) (s : ByteArray) (hs : s.size ≤ maxLen) :
    (Instr.lookup 57 (.map (some B)) (.string s) true).run Try.prog w = .ok (.tuple #[.agg #[.int .i64 (plS S s n), .int .i64 (knS S K s n)], .bool (isS S s n)]) w := by
  obtain ⟨D, h1, h2⟩ := h
  obtain ⟨v, ps, hrun, hv⟩ := h1.look_ok law Try.underlying57 (zeroE w) (fkE_mk 0 0) (key_of hs)
  rw [hrun]
  cases hf : fiS S s n with
  | none =>
    have hh := (h2 s).1 hf
    rw [Maps.atKey_of_not_has hh] at hv
    rw [hh, plS_none hf, knS_none hf, isS_none hf, fkE_inv hv]
  | some i =>
    obtain ⟨hh, hz⟩ := (h2 s).2 i hf
    rw [hz] at hv
    rw [hh, plS_some hf, knS_some hf, isS_some hf, fkE_inv hv]
/-- A name that stood ahead changes nothing. -/
theorem Mp.skip {B n i : Nat} {S : Nat → ByteArray} {K : Nat → Int} {w : World} (h : Mp B n S K w) (hf : fiS S (S n) n = some i) : Mp B (n + 1) S K w := by
  obtain ⟨D, h1, h2⟩ := h
  refine ⟨D, h1.mono (Nat.le_succ n), fun s => ?_⟩
  cases hc : fiS S s n with
  | some j =>
    rw [fiS_next_some hc]
    exact ⟨fun h => (by cases h), fun k hk => by obtain rfl := Option.some.inj hk; exact (h2 s).2 j hc⟩
  | none =>
    have hne : ¬ S n = s := fun e => by rw [e, hc] at hf; cases hf
    rw [fiS_next_miss hc hne]
    exact ⟨fun _ => (h2 s).1 hc, fun k hk => by cases hk⟩
/-- The store of a new name. -/
theorem Mp.store {B n : Nat} {S : Nat → ByteArray} {K : Nat → Int} {w : World} (h : Mp B n S K w) (hf : fiS S (S n) n = none) (hs : (S n).size ≤ maxLen) (hn : n < maxLen) :
    ∃ w', (Instr.mapUpdate 57 (.map (some B)) (.string (S n)) (.agg #[.int .i64 n, .int .i64 (K n)])).run Try.prog w = .ok () w' ∧ Mp B (n + 1) S K w' ∧ w.grownBy w' (some B) := by
  obtain ⟨D, h1, h2⟩ := h
  obtain ⟨w', hrun, hown, hg⟩ := h1.update law Try.underlying57 hn (key_of hs) (fkE_mk n (K n))
  have hD := h1.isMap
  refine ⟨w', hrun, ⟨_, hown, fun s => ?_⟩, hg⟩
  cases hc : fiS S s n with
  | some j =>
    have hne : klS s ≠ klS (S n) := fun e => by rw [klS_inj e, hf] at hc; cases hc
    rw [fiS_next_some hc, Maps.has_put_other hne]
    refine ⟨fun h => (by cases h), fun k hk => ?_⟩
    obtain rfl := Option.some.inj hk
    obtain ⟨a, b⟩ := (h2 s).2 j hc
    exact ⟨a, fun z => by rw [Maps.atKey_put_other hne]; exact b z⟩
  | none =>
    by_cases e : S n = s
    · subst e
      rw [fiS_next_hit hc rfl]
      refine ⟨fun h => (by cases h), fun k hk => ?_⟩
      obtain rfl := Option.some.inj hk
      exact ⟨Maps.has_put_same hD (by unfold klS; simp [WideAt.IsKeyLit]) _, fun z => Maps.atKey_put_same hD (by unfold klS; simp [WideAt.IsKeyLit]) _ _⟩
    · have hne : klS s ≠ klS (S n) := fun e2 => e (klS_inj e2).symm
      rw [fiS_next_miss hc e, Maps.has_put_other hne]
      exact ⟨fun _ => (h2 s).1 hc, fun k hk => by cases hk⟩

/-- A table: a cell that leads to the map. -/
def Tb (T n : Nat) (S : Nat → ByteArray) (K : Nat → Int) (w : World) : Prop := ∃ B, w.cell? ⟨T, 0, none⟩ = some (.map (some B)) ∧ T < w.heap.size ∧ Mp B n S K w
theorem Tb.below {T n : Nat} {S : Nat → ByteArray} {K : Nat → Int} {w w' : World} (h : Tb T n S K w) (hb : Below w.heap.size w w') : Tb T n S K w' := by
  obtain ⟨B, h1, h2, h3⟩ := h
  exact ⟨B, (hb.cell (p := ⟨T, 0, none⟩) h2).trans h1, Nat.lt_of_lt_of_le h2 hb.size, h3.below hb h3.lt⟩
theorem Tb.alloc {T n : Nat} {S : Nat → ByteArray} {K : Nat → Int} {w : World} (h : Tb T n S K w) (o : Obj) : Tb T n S K (w.alloc o) := h.below ((Below.refl w.heap.size w).alloc (Nat.le_refl _) o)
end Go.Proofs.Ythcpepifikpmeaa.Nm
