/- Types: trees; what the form says of a type that came in, of its fields, of declarations' fields with their types. -/
import Derived.Test.YthcpepifikpmeaaNmOpen
namespace Go.Proofs.Ythcpepifikpmeaa.Ck
open Go.RowKit Cm _root_.Go.Proofs.Ythcpepifikpmeaa.Nm
set_option linter.unusedVariables false
set_option linter.unusedSimpArgs false

/-- A type: its kind, its name, and what it is of (the slice that leads there). -/
inductive Ty where
  | mk (k : Int) (n : ByteArray) (o : Option Addr) (c : Nat) (of : List Ty)
def Ty.k : Ty → Int | .mk k _ _ _ _ => k
def Ty.n : Ty → ByteArray | .mk _ n _ _ _ => n
def Ty.o : Ty → Option Addr | .mk _ _ o _ _ => o
def Ty.c : Ty → Nat | .mk _ _ _ c _ => c
def Ty.of : Ty → List Ty | .mk _ _ _ _ of => of
def Ty.at3 (t : Ty) : List Value := [.int .i64 t.k, .string t.n, .slice t.o t.of.length t.c]
instance : Inhabited Ty := ⟨.mk 0 ⟨#[]⟩ none 0 []⟩
/-- A type in the world: the cells of all that it is of. -/
inductive TyIn (w : World) : Ty → Prop
  | mk (k : Int) (n : ByteArray) (o : Option Addr) (c : Nat) (of : List Ty) (hk : -9223372036854775808 ≤ k ∧ k ≤ 9223372036854775807) (hn : n.size ≤ 140737488355327) (hl : of.length ≤ 9223372036854775807)
      (hc : ∀ (i : Nat) (t : Ty), of[i]? = some t → ∃ a, o = some a ∧ a.block < w.heap.size ∧ ∀ j v, t.at3[j]? = some v → w.cell? (a.add (i * 3 + j)) = some v)
      (hs : ∀ (i : Nat) (t : Ty), of[i]? = some t → TyIn w t) : TyIn w (.mk k n o c of)
theorem ty_below {w w' : World} {m : Nat} {t : Ty} (h : TyIn w t) (hb : Below m w w') (hm : w.heap.size ≤ m) : TyIn w' t := by
  induction h with
  | mk k n o c of hk hn hl hc hs ih =>
    refine .mk k n o c of hk hn hl (fun i t hi => ?_) ih
    obtain ⟨a, h1, h2, h3⟩ := hc i t hi
    refine ⟨a, h1, Nat.lt_of_lt_of_le h2 hb.size, fun j v hv => ?_⟩
    have hcc := h3 j v hv
    have := World.block_lt_of_cell? w _ hcc
    rw [hb.cell (p := a.add (i * 3 + j)) (by omega)]; exact hcc
/-- One of those that a type is of, at its place taken apart. -/
theorem ty_place {w : World} {k : Int} {n : ByteArray} {o : Option Addr} {c i : Nat} {of : List Ty} {t : Ty} (h : TyIn w (.mk k n o c of)) (hi : of[i]? = some t) :
    ∃ a Ab Ao As, o = some a ∧ a.add (i * 3) = ⟨Ab, Ao, As⟩ ∧ Ab < w.heap.size ∧ w.cell? ⟨Ab, Ao, As⟩ = some (.int .i64 t.k) ∧ w.cell? ⟨Ab, Ao + 1, none⟩ = some (.string t.n) ∧ w.cell? ⟨Ab, Ao + 2, none⟩ = some (.slice t.o t.of.length t.c) ∧ TyIn w t := by
  cases h with
  | mk _ _ _ _ _ hk hn hl hc hs =>
    obtain ⟨a, rfl, _, h3⟩ := hc i t hi
    obtain ⟨⟨Ab, Ao, As⟩, hA⟩ : ∃ A, a.add (i * 3) = A := ⟨_, rfl⟩
    have g : ∀ k, a.add (i * 3 + (k + 1)) = ⟨Ab, Ao + (k + 1), none⟩ := fun k => by rw [← Addr.add_add, hA]; simp [Addr.add]
    have c0 := h3 0 _ rfl
    rw [Nat.add_zero, hA] at c0
    exact ⟨a, Ab, Ao, As, rfl, hA, World.block_lt_of_cell? w _ c0, c0, (g 0) ▸ h3 1 _ rfl, (g 1) ▸ h3 2 _ rfl, hs i t hi⟩

theorem sizeOf_each {H : Type} {d : DataW H} {l : List (DataW H)} (h : d ∈ l) : SizeOf.sizeOf d < SizeOf.sizeOf l := List.sizeOf_lt_of_mem h
section
variable {H : Type} {enc : TypeId × Value → H} {W : World} {sp : Nat → Bool} {held : Bool} {base : Nat}
theorem elems_small {t e : TypeId} {c n len cap : Nat} {o : Option Addr} {y : DataW H × List MemPlace} (ht : Try.prog.underlying t = some (.slice e)) (hc : Try.prog.cellsOf e = c) (hpos : 0 < c) (h : DataW.trod enc Try.prog W base sp held n t [.slice o len cap] = some y)
    (hsz : ∀ n ∈ y.1.weights Try.prog t, n ≤ reachBytes) :
    len ≤ maxLen ∧ ∀ i, i < len → ∃ a cs d q m, o = some a ∧ a.block < W.heap.size ∧ (∀ k v, cs[k]? = some v → W.cell? (a.add (i * c + k)) = some v) ∧ cs.length = c ∧
      DataW.trod enc Try.prog W base sp held m e cs = some (d, q) ∧ (∀ n ∈ d.weights Try.prog e, n ≤ reachBytes) ∧ SizeOf.sizeOf d < SizeOf.sizeOf y.1 := by
  rcases Go.Deep.open_slice ht h with ⟨h0, rfl⟩ | ⟨a, len', cap', m, k, D, Pl, h0, _, hlc, hcm, hm, rfl, hx⟩
  · have e0 : o = none ∧ len = 0 ∧ cap = 0 := by simpa using h0
    obtain ⟨rfl, rfl, rfl⟩ := e0
    exact ⟨Nat.zero_le _, fun i hi => by omega⟩
  · have e0 : o = some a ∧ len = len' ∧ cap = cap' := by simpa using h0
    obtain ⟨rfl, rfl, rfl⟩ := e0
    have hl : len ≤ m := by rw [hm]; split <;> omega
    have hw : ∀ n ∈ DataW.weightsAll Try.prog e ((List.range len).map D), n ≤ reachBytes := fun n hn => hsz n (by simp only [DataW.weights, ht, List.mem_cons, List.mem_append]; exact .inr (.inl hn))
    refine ⟨by omega, fun i hi => ?_⟩
    obtain ⟨cs, hcs, htr⟩ := hx i (by omega)
    rw [hc] at hcs
    obtain ⟨_, hcl, hcell⟩ := World.cells?_some hcs
    have hcc : ∀ k v, cs[k]? = some v → W.cell? (a.add (i * c + k)) = some v := fun k v hk => by
      have hkl : k < cs.length := (List.getElem?_eq_some_iff.1 hk).1
      have := hcell k (by omega)
      rw [Go.Deep.add_add] at this
      rw [this]; exact hk
    have h0c := hcc 0 _ (List.getElem?_eq_getElem (by omega))
    have hlt := World.block_lt_of_cell? W _ h0c
    rw [block_add] at hlt
    have hmem : D i ∈ (List.range len).map D := List.mem_map.2 ⟨i, List.mem_range.2 hi, rfl⟩
    have hso := sizeOf_each hmem
    refine ⟨a, cs, D i, Pl i, k, rfl, hlt, hcc, hcl, htr, fun n hn => hw n (weight_all hmem hn), ?_⟩
    show SizeOf.sizeOf (D i) < SizeOf.sizeOf (DataW.slice ((List.range len).map D) ((List.range (m - len)).map fun j => D (len + j)))
    rw [DataW.slice.sizeOf_spec]
    omega
/-- A type that came in is a tree. -/
theorem type_open : ∀ (N : Nat) {n : Nat} {cs : List Value} {y : DataW H × List MemPlace}, SizeOf.sizeOf y.1 < N → DataW.trod enc Try.prog W base sp held n 38 cs = some y → (∀ n ∈ y.1.weights Try.prog 38, n ≤ reachBytes) → ∃ t : Ty, cs = t.at3 ∧ TyIn W t := by
  intro N
  induction N with
  | zero => intro n cs y hN; omega
  | succ N ih =>
    intro n cs y hN h hsz
    obtain ⟨f0, f1, f2, hu, o0, o1, o2, t0, t1, t2⟩ := typeFields
    obtain ⟨xs, m, _, rfl, hl, hlen, hf⟩ := DataW.trod_struct hu h
    rw [cellsTy] at hl
    match xs, hlen, cs, hl with
    | [y0, y1, y2], _, [v0, v1, v2], _ =>
      have g0 := hf 0 f0 rfl
      have g1 := hf 1 f1 rfl
      have g2 := hf 2 f2 rfl
      simp [o0, t0, cellsInt] at g0
      simp [o1, t1, cellsStr] at g1
      simp [o2, t2, cellsTs] at g2
      obtain ⟨k, e0, d0, w0⟩ := DataW.trod_int Try.underlying3 g0
      obtain ⟨s, e1, d1, w1⟩ := DataW.trod_string Try.underlying9 g1
      obtain ⟨o, l, c, e2⟩ := slice_shape Try.underlying36 g2
      simp only [List.cons.injEq, and_true] at e0 e1
      subst e0 e1 e2
      subst d0 d1
      have hz : ∀ n, n = s.data.toList.length ∨ n ∈ y2.1.weights Try.prog 36 → n ≤ reachBytes := fun n hn => hsz n (by
        simp only [DataW.weights, hu, List.map_cons, List.map_nil, DataW.weightsEach, t0, t1, t2, List.mem_append, List.mem_cons, List.not_mem_nil, or_false, false_or]
        exact hn)
      have hsm : SizeOf.sizeOf y2.1 < SizeOf.sizeOf (DataW.agg [DataW.lit (Lit.int IntKind.i64 k), DataW.lit (Lit.string s.data.toList), y2.1] : DataW H) := by
        rw [DataW.agg.sizeOf_spec]
        have := sizeOf_each (d := y2.1) (l := [DataW.lit (Lit.int IntKind.i64 k), DataW.lit (Lit.string s.data.toList), y2.1]) (by simp)
        omega
      obtain ⟨hml, he⟩ := elems_small Try.underlying36 cellsTy (by decide) g2 (fun n hn => hz n (.inr hn))
      obtain ⟨q, hq⟩ := Go.Deep.choose_lt (α := Ty) (n := l) (p := fun i t => (∃ a, o = some a ∧ a.block < W.heap.size ∧ ∀ j v, t.at3[j]? = some v → W.cell? (a.add (i * 3 + j)) = some v) ∧ TyIn W t) (fun i hi => by
        obtain ⟨a, cs, d, q, m', ho, hb, hc, _, htr, hw, hso⟩ := he i hi
        obtain ⟨t, rfl, hin⟩ := ih (y := (d, q)) (by simp only [List.map_cons, List.map_nil] at hN; show SizeOf.sizeOf d < N; omega) htr hw
        exact ⟨t, ⟨a, ho, hb, hc⟩, hin⟩)
      have hg : ∀ (i : Nat) (t : Ty), ((List.range l).map q)[i]? = some t → i < l ∧ t = q i := fun i t hi => by
        rw [List.getElem?_map] at hi
        obtain ⟨x, hx, rfl⟩ := Option.map_eq_some_iff.1 hi
        have hlt := (List.getElem?_eq_some_iff.1 hx).1
        rw [List.length_range] at hlt
        rw [List.getElem?_range hlt] at hx
        obtain rfl := Option.some.inj hx
        exact ⟨hlt, rfl⟩
      have hb := bounds_i64 w0
      refine ⟨.mk k s o c ((List.range l).map q), by simp [Ty.at3, Ty.k, Ty.n, Ty.o, Ty.of, Ty.c], .mk k s o c _ hb (reach_str (hz _ (.inl rfl))) (by simp; unfold maxLen at hml; omega) (fun i t hi => ?_) (fun i t hi => ?_)⟩
      · obtain ⟨hlt, rfl⟩ := hg i t hi
        exact (hq i hlt).1
      · obtain ⟨hlt, rfl⟩ := hg i t hi
        exact (hq i hlt).2
end
end Go.Proofs.Ythcpepifikpmeaa.Ck
