/- What the form says of slices that came in, element by element: for any element. For every package. -/
import Derived.Test.YtldjefnijkefcaaCm
import Derived.Deep.Slices
import Derived.ChangeSame
import Derived.OpenShut
import Derived.ProofKit
import Derived.SizedLaws
namespace Go.Proofs.Ytldjefnijkefcaa.Cm
open Go.RowKit
set_option linter.unusedVariables false
set_option linter.unusedSimpArgs false

theorem weight_all {H : Type} {P : Program} {e : TypeId} {l : List (DataW H)} {d : DataW H} {n : Nat} (hd : d ∈ l) (hn : n ∈ d.weights P e) : n ∈ DataW.weightsAll P e l := by
  induction l with
  | nil => cases hd
  | cons x l ih =>
    simp only [DataW.weightsAll, List.mem_append]
    rcases List.mem_cons.1 hd with rfl | h
    · exact .inl hn
    · exact .inr (ih h)
theorem block_add (a : Addr) (n : Nat) : (a.add n).block = a.block := by unfold Addr.add; split <;> rfl
theorem sizeOf_each {H : Type} {d : DataW H} {l : List (DataW H)} (h : d ∈ l) : SizeOf.sizeOf d < SizeOf.sizeOf l := List.sizeOf_lt_of_mem h
theorem reach_str {s : ByteArray} (h : s.data.toList.length ≤ reachBytes) : s.size ≤ 140737488355327 := by
  have he : s.data.toList.length = s.size := Array.length_toList
  have hr : reachBytes = 140737488351232 := rfl
  omega
section
variable {H : Type} {enc : TypeId × Value → H} {W : World} {sp : Nat → Bool} {held : Bool} {base : Nat}
theorem slice_shape {t e : TypeId} {n : Nat} {v : Value} {y : DataW H × List MemPlace} (ht : Try.prog.underlying t = some (.slice e)) (h : DataW.trod enc Try.prog W base sp held n t [v] = some y) : ∃ o l c, v = .slice o l c := by
  rcases Go.Deep.open_slice ht h with ⟨h0, _⟩ | ⟨a, len, cap, m, k, D, Pl, h0, _⟩
  · exact ⟨none, 0, 0, by simpa using h0⟩
  · exact ⟨some a, len, cap, by simpa using h0⟩
/-- A slice, element by element; each element's datum is smaller. -/
theorem elems_small {t e : TypeId} {c n len cap : Nat} {o : Option Addr} {y : DataW H × List MemPlace} (ht : Try.prog.underlying t = some (.slice e)) (hc : Try.prog.cellsOf e = c) (hpos : 0 < c) (h : DataW.trod enc Try.prog W base sp held n t [.slice o len cap] = some y)
    (hsz : ∀ n ∈ y.1.weights Try.prog t, n ≤ reachBytes) :
    len ≤ maxLen ∧ len * Try.prog.bytesOf e ≤ reachBytes ∧ ∀ i, i < len → ∃ a cs d q m, o = some a ∧ a.block < W.heap.size ∧ (∀ k v, cs[k]? = some v → W.cell? (a.add (i * c + k)) = some v) ∧ cs.length = c ∧
      DataW.trod enc Try.prog W base sp held m e cs = some (d, q) ∧ (∀ n ∈ d.weights Try.prog e, n ≤ reachBytes) ∧ SizeOf.sizeOf d < SizeOf.sizeOf y.1 := by
  rcases Go.Deep.open_slice ht h with ⟨h0, rfl⟩ | ⟨a, len', cap', m, k, D, Pl, h0, _, hlc, hcm, hm, rfl, hx⟩
  · have e0 : o = none ∧ len = 0 ∧ cap = 0 := by simpa using h0
    obtain ⟨rfl, rfl, rfl⟩ := e0
    exact ⟨Nat.zero_le _, by simp, fun i hi => by omega⟩
  · have e0 : o = some a ∧ len = len' ∧ cap = cap' := by simpa using h0
    obtain ⟨rfl, rfl, rfl⟩ := e0
    have hl : len ≤ m := by rw [hm]; split <;> omega
    have hw : ∀ n ∈ DataW.weightsAll Try.prog e ((List.range len).map D), n ≤ reachBytes := fun n hn => hsz n (by simp only [DataW.weights, ht, List.mem_cons, List.mem_append]; exact .inr (.inl hn))
    have h1 := hsz ((((List.range len).map D).length + ((List.range (m - len)).map fun j => D (len + j)).length) * Try.prog.bytesOf e) (by simp [DataW.weights, ht])
    refine ⟨by omega, ?_, fun i hi => ?_⟩
    · simp only [List.length_map, List.length_range] at h1
      exact Nat.le_trans (Nat.mul_le_mul_right _ (by omega)) h1
    · obtain ⟨cs, hcs, htr⟩ := hx i (by omega)
      rw [hc] at hcs
      obtain ⟨_, hcl, hcell⟩ := World.cells?_some hcs
      have hcc : ∀ k v, cs[k]? = some v → W.cell? (a.add (i * c + k)) = some v := fun k v hk => by
        have hkl : k < cs.length := (List.getElem?_eq_some_iff.1 hk).1
        have := hcell k (by omega)
        rw [Go.Deep.add_add] at this
        rw [this]; exact hk
      have h0c := hcc 0 _ (List.getElem?_eq_getElem (by omega))
      have hlt := World.block_lt_of_cell? W _ h0c
      rw [block_add] at hlt
      have hmem : D i ∈ (List.range len).map D := List.mem_map.2 ⟨i, List.mem_range.2 hi, rfl⟩
      have hso := sizeOf_each hmem
      refine ⟨a, cs, D i, Pl i, k, rfl, hlt, hcc, hcl, htr, fun n hn => hw n (weight_all hmem hn), ?_⟩
      show SizeOf.sizeOf (D i) < SizeOf.sizeOf (DataW.slice ((List.range len).map D) ((List.range (m - len)).map fun j => D (len + j)))
      rw [DataW.slice.sizeOf_spec]
      omega
end
/-- The first of those that a function tells. -/
theorem range_get {α : Type} {q : Nat → α} {l i : Nat} {t : α} (hi : ((List.range l).map q)[i]? = some t) : i < l ∧ t = q i := by
  rw [List.getElem?_map] at hi
  obtain ⟨x, hx, rfl⟩ := Option.map_eq_some_iff.1 hi
  have hlt := (List.getElem?_eq_some_iff.1 hx).1
  rw [List.length_range] at hlt
  rw [List.getElem?_range hlt] at hx
  obtain rfl := Option.some.inj hx
  exact ⟨hlt, rfl⟩
/-- Numbers of 64 bits in the world: a slice's. -/
def In (o : Option Addr) (ts : List Int) (w : World) : Prop := ∀ (i : Nat) (t : Int), ts[i]? = some t → (∃ a, o = some a ∧ a.block < w.heap.size ∧ w.cell? (a.add i) = some (.int .i64 t)) ∧ -9223372036854775808 ≤ t ∧ t ≤ 9223372036854775807
theorem In.below {o : Option Addr} {ts : List Int} {m : Nat} {w w' : World} (h : In o ts w) (hb : Below m w w') (hm : w.heap.size ≤ m) : In o ts w' := fun i t hi => by
  obtain ⟨⟨a, h1, h2, h3⟩, h4⟩ := h i t hi
  refine ⟨⟨a, h1, Nat.lt_of_lt_of_le h2 hb.size, ?_⟩, h4⟩
  rw [hb.cell (p := a.add i) (by rw [block_add]; omega)]; exact h3
end Go.Proofs.Ytldjefnijkefcaa.Cm
