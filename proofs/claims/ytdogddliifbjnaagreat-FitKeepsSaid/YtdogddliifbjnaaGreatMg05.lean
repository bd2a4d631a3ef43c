/- Types: trees; what the form says of a type that came in, of its fields, of declarations' fields with their types. -/
import Derived.Test.YtdogddliifbjnaaGreatMg01
import Derived.Test.YtdogddliifbjnaaGreatMg04
namespace Go.Proofs.YtdogddliifbjnaaGreat.Ck
open Go.RowKit Cm _root_.Go.Proofs.YtdogddliifbjnaaGreat.Nm
set_option maxRecDepth 100000
set_option linter.unusedVariables false
set_option linter.unusedSimpArgs false

/-- A type: its kind, its name, and what it is of (the slice that leads there). -/
inductive Ty where
  | mk (k : Int) (n : ByteArray) (o : Option Addr) (c : Nat) (of : List Ty)
def Ty.k : Ty → Int | .mk k _ _ _ _ => k
def Ty.n : Ty → ByteArray | .mk _ n _ _ _ => n
def Ty.o : Ty → Option Addr | .mk _ _ o _ _ => o
def Ty.c : Ty → Nat | .mk _ _ _ c _ => c
def Ty.of : Ty → List Ty | .mk _ _ _ _ of => of
def Ty.at3 (t : Ty) : List Value := [.int .i64 t.k, .string t.n, .slice t.o t.of.length t.c]
instance : Inhabited Ty := ⟨.mk 0 ⟨#[]⟩ none 0 []⟩
/-- A type in the world: the cells of all that it is of. -/
inductive TyIn (w : World) : Ty → Prop
  | mk (k : Int) (n : ByteArray) (o : Option Addr) (c : Nat) (of : List Ty) (hk : -9223372036854775808 ≤ k ∧ k ≤ 9223372036854775807) (hn : n.size ≤ 140737488355327) (hl : of.length ≤ 9223372036854775807)
      (hc : ∀ (i : Nat) (t : Ty), of[i]? = some t → ∃ a, o = some a ∧ a.block < w.heap.size ∧ ∀ j v, t.at3[j]? = some v → w.cell? (a.add (i * 3 + j)) = some v)
      (hs : ∀ (i : Nat) (t : Ty), of[i]? = some t → TyIn w t) : TyIn w (.mk k n o c of)
theorem ty_below {w w' : World} {m : Nat} {t : Ty} (h : TyIn w t) (hb : Below m w w') (hm : w.heap.size ≤ m) : TyIn w' t := by
  induction h with
  | mk k n o c of hk hn hl hc hs ih =>
    refine .mk k n o c of hk hn hl (fun i t hi => ?_) ih
    obtain ⟨a, h1, h2, h3⟩ := hc i t hi
    refine ⟨a, h1, Nat.lt_of_lt_of_le h2 hb.size, fun j v hv => ?_⟩
    have hcc := h3 j v hv
    have := World.block_lt_of_cell? w _ hcc
    rw [hb.cell (p := a.add (i * 3 + j)) (by omega)]; exact hcc
/-- One of those that a type is of, at its place taken apart. -/
theorem ty_place {w : World} {k : Int} {n : ByteArray} {o : Option Addr} {c i : Nat} {of : List Ty} {t : Ty} (h : TyIn w (.mk k n o c of)) (hi : of[i]? = some t) :
    ∃ a Ab Ao As, o = some a ∧ a.add (i * 3) = ⟨Ab, Ao, As⟩ ∧ Ab < w.heap.size ∧ w.cell? ⟨Ab, Ao, As⟩ = some (.int .i64 t.k) ∧ w.cell? ⟨Ab, Ao + 1, none⟩ = some (.string t.n) ∧ w.cell? ⟨Ab, Ao + 2, none⟩ = some (.slice t.o t.of.length t.c) ∧ TyIn w t := by
  cases h with
  | mk _ _ _ _ _ hk hn hl hc hs =>
    obtain ⟨a, rfl, _, h3⟩ := hc i t hi
    obtain ⟨⟨Ab, Ao, As⟩, hA⟩ : ∃ A, a.add (i * 3) = A := ⟨_, rfl⟩
    have g : ∀ k, a.add (i * 3 + (k + 1)) = ⟨Ab, Ao + (k + 1), none⟩ := fun k => by rw [← Addr.add_add, hA]; simp [Addr.add]
    have c0 := h3 0 _ rfl
    rw [Nat.add_zero, hA] at c0
    exact ⟨a, Ab, Ao, As, rfl, hA, World.block_lt_of_cell? w _ c0, c0, (g 0) ▸ h3 1 _ rfl, (g 1) ▸ h3 2 _ rfl, hs i t hi⟩

theorem sizeOf_each {H : Type} {d : DataW H} {l : List (DataW H)} (h : d ∈ l) : SizeOf.sizeOf d < SizeOf.sizeOf l := List.sizeOf_lt_of_mem h
section
variable {H : Type} {enc : TypeId × Value → H} {W : World} {sp : Nat → Bool} {held : Bool} {base : Nat}
theorem elems_small {t e : TypeId} {c n len cap : Nat} {o : Option Addr} {y : DataW H × List MemPlace} (ht : Tryz.prog.underlying t = some (.slice e)) (hc : Tryz.prog.cellsOf e = c) (hpos : 0 < c) (h : DataW.trod enc Tryz.prog W base sp held n t [.slice o len cap] = some y)
    (hsz : ∀ n ∈ y.1.weights Tryz.prog t, n ≤ reachBytes) :
    len ≤ maxLen ∧ ∀ i, i < len → ∃ a cs d q m, o = some a ∧ a.block < W.heap.size ∧ (∀ k v, cs[k]? = some v → W.cell? (a.add (i * c + k)) = some v) ∧ cs.length = c ∧
      DataW.trod enc Tryz.prog W base sp held m e cs = some (d, q) ∧ (∀ n ∈ d.weights Tryz.prog e, n ≤ reachBytes) ∧ SizeOf.sizeOf d < SizeOf.sizeOf y.1 := by
  rcases Go.Deep.open_slice ht h with ⟨h0, rfl⟩ | ⟨a, len', cap', m, k, D, Pl, h0, _, hlc, hcm, hm, rfl, hx⟩
  · have e0 : o = none ∧ len = 0 ∧ cap = 0 := by simpa using h0
    obtain ⟨rfl, rfl, rfl⟩ := e0
    exact ⟨Nat.zero_le _, fun i hi => by omega⟩
  · have e0 : o = some a ∧ len = len' ∧ cap = cap' := by simpa using h0
    obtain ⟨rfl, rfl, rfl⟩ := e0
    have hl : len ≤ m := by rw [hm]; split <;> omega
    have hw : ∀ n ∈ DataW.weightsAll Tryz.prog e ((List.range len).map D), n ≤ reachBytes := fun n hn => hsz n (by simp only [DataW.weights, ht, List.mem_cons, List.mem_append]; exact .inr (.inl hn))
    refine ⟨by omega, fun i hi => ?_⟩
    obtain ⟨cs, hcs, htr⟩ := hx i (by omega)
    rw [hc] at hcs
    obtain ⟨_, hcl, hcell⟩ := World.cells?_some hcs
    have hcc : ∀ k v, cs[k]? = some v → W.cell? (a.add (i * c + k)) = some v := fun k v hk => by
      have hkl : k < cs.length := (List.getElem?_eq_some_iff.1 hk).1
      have := hcell k (by omega)
      rw [Go.Deep.add_add] at this
      rw [this]; exact hk
    have h0c := hcc 0 _ (List.getElem?_eq_getElem (by omega))
    have hlt := World.block_lt_of_cell? W _ h0c
    rw [block_add] at hlt
    have hmem : D i ∈ (List.range len).map D := List.mem_map.2 ⟨i, List.mem_range.2 hi, rfl⟩
    have hso := sizeOf_each hmem
    refine ⟨a, cs, D i, Pl i, k, rfl, hlt, hcc, hcl, htr, fun n hn => hw n (weight_all hmem hn), ?_⟩
    show SizeOf.sizeOf (D i) < SizeOf.sizeOf (DataW.slice ((List.range len).map D) ((List.range (m - len)).map fun j => D (len + j)))
    rw [DataW.slice.sizeOf_spec]
    omega
/-- A type that came in is a tree. -/
theorem type_open : ∀ (N : Nat) {n : Nat} {cs : List Value} {y : DataW H × List MemPlace}, SizeOf.sizeOf y.1 < N → DataW.trod enc Tryz.prog W base sp held n 48 cs = some y → (∀ n ∈ y.1.weights Tryz.prog 48, n ≤ reachBytes) → ∃ t : Ty, cs = t.at3 ∧ TyIn W t := by
  intro N
  induction N with
  | zero => intro n cs y hN; omega
  | succ N ih =>
    intro n cs y hN h hsz
    obtain ⟨f0, f1, f2, hu, o0, o1, o2, t0, t1, t2⟩ := typeFields
    obtain ⟨xs, m, _, rfl, hl, hlen, hf⟩ := DataW.trod_struct hu h
    rw [cellsTy] at hl
    match xs, hlen, cs, hl with
    | [y0, y1, y2], _, [v0, v1, v2], _ =>
      have g0 := hf 0 f0 rfl
      have g1 := hf 1 f1 rfl
      have g2 := hf 2 f2 rfl
      simp [o0, t0, cellsInt] at g0
      simp [o1, t1, cellsStr] at g1
      simp [o2, t2, cellsTs] at g2
      obtain ⟨k, e0, d0, w0⟩ := DataW.trod_int Tryz.underlying3 g0
      obtain ⟨s, e1, d1, w1⟩ := DataW.trod_string Tryz.underlying9 g1
      obtain ⟨o, l, c, e2⟩ := slice_shape Tryz.underlying46 g2
      simp only [List.cons.injEq, and_true] at e0 e1
      subst e0 e1 e2
      subst d0 d1
      have hz : ∀ n, n = s.data.toList.length ∨ n ∈ y2.1.weights Tryz.prog 46 → n ≤ reachBytes := fun n hn => hsz n (by
        simp only [DataW.weights, hu, List.map_cons, List.map_nil, DataW.weightsEach, t0, t1, t2, List.mem_append, List.mem_cons, List.not_mem_nil, or_false, false_or]
        exact hn)
      have hsm : SizeOf.sizeOf y2.1 < SizeOf.sizeOf (DataW.agg [DataW.lit (Lit.int IntKind.i64 k), DataW.lit (Lit.string s.data.toList), y2.1] : DataW H) := by
        rw [DataW.agg.sizeOf_spec]
        have := sizeOf_each (d := y2.1) (l := [DataW.lit (Lit.int IntKind.i64 k), DataW.lit (Lit.string s.data.toList), y2.1]) (by simp)
        omega
      obtain ⟨hml, he⟩ := elems_small Tryz.underlying46 cellsTy (by decide) g2 (fun n hn => hz n (.inr hn))
      obtain ⟨q, hq⟩ := Go.Deep.choose_lt (α := Ty) (n := l) (p := fun i t => (∃ a, o = some a ∧ a.block < W.heap.size ∧ ∀ j v, t.at3[j]? = some v → W.cell? (a.add (i * 3 + j)) = some v) ∧ TyIn W t) (fun i hi => by
        obtain ⟨a, cs, d, q, m', ho, hb, hc, _, htr, hw, hso⟩ := he i hi
        obtain ⟨t, rfl, hin⟩ := ih (y := (d, q)) (by simp only [List.map_cons, List.map_nil] at hN; show SizeOf.sizeOf d < N; omega) htr hw
        exact ⟨t, ⟨a, ho, hb, hc⟩, hin⟩)
      have hg : ∀ (i : Nat) (t : Ty), ((List.range l).map q)[i]? = some t → i < l ∧ t = q i := fun i t hi => by
        rw [List.getElem?_map] at hi
        obtain ⟨x, hx, rfl⟩ := Option.map_eq_some_iff.1 hi
        have hlt := (List.getElem?_eq_some_iff.1 hx).1
        rw [List.length_range] at hlt
        rw [List.getElem?_range hlt] at hx
        obtain rfl := Option.some.inj hx
        exact ⟨hlt, rfl⟩
      have hb := bounds_i64 w0
      refine ⟨.mk k s o c ((List.range l).map q), by simp [Ty.at3, Ty.k, Ty.n, Ty.o, Ty.of, Ty.c], .mk k s o c _ hb (reach_str (hz _ (.inl rfl))) (by simp; unfold maxLen at hml; omega) (fun i t hi => ?_) (fun i t hi => ?_)⟩
      · obtain ⟨hlt, rfl⟩ := hg i t hi
        exact (hq i hlt).1
      · obtain ⟨hlt, rfl⟩ := hg i t hi
        exact (hq i hlt).2
end
end Go.Proofs.YtdogddliifbjnaaGreat.Ck
/- Types: what the form says of a list of declarations, with their fields' types as trees. -/
namespace Go.Proofs.YtdogddliifbjnaaGreat.Ck
open Go.RowKit Cm _root_.Go.Proofs.YtdogddliifbjnaaGreat.Nm
set_option maxRecDepth 100000
set_option linter.unusedVariables false
set_option linter.unusedSimpArgs false

/-- Fields: tags, names, types. -/
structure Fy where
  T : Nat → Int
  N : Nat → ByteArray
  Y : Nat → Ty
def Fy.fl (F : Fy) : Fl := ⟨F.T, F.N, fun i => (F.Y i).k, fun i => (F.Y i).n, fun i => (F.Y i).o, fun i => (F.Y i).of.length, fun i => (F.Y i).c⟩
def Yx (o : Option Addr) (len : Nat) (F : Fy) (w : World) : Prop := Fx o len F.fl w ∧ ∀ i, i < len → TyIn w (F.Y i) ∧ (F.N i).size ≤ 140737488355327
theorem Yx.below {o : Option Addr} {len m : Nat} {F : Fy} {w w' : World} (h : Yx o len F w) (hb : Below m w w') (hm : w.heap.size ≤ m) : Yx o len F w' :=
  ⟨h.1.below hb hm, fun i hi => ⟨ty_below (h.2 i hi).1 hb hm, (h.2 i hi).2⟩⟩
section
variable {H : Type} {enc : TypeId × Value → H} {W : World} {sp : Nat → Bool} {held : Bool} {base : Nat}
theorem field_types {n : Nat} {cs : List Value} {y : DataW H × List MemPlace} (h : DataW.trod enc Tryz.prog W base sp held n 50 cs = some y) (hsz : ∀ n ∈ y.1.weights Tryz.prog 50, n ≤ reachBytes) :
    ∃ (k : Int) (s : ByteArray) (t : Ty), cs = [.int .i64 k, .string s, .int .i64 t.k, .string t.n, .slice t.o t.of.length t.c] ∧ (Lit.int .i64 k).wf = true ∧ TyIn W t ∧ s.size ≤ 140737488355327 := by
  obtain ⟨f0, f1, f2, hu, o0, o1, o2, t0, t1, t2⟩ := fieldFields
  obtain ⟨xs, m, _, rfl, hl, hlen, hf⟩ := DataW.trod_struct hu h
  rw [cellsField] at hl
  match xs, hlen, cs, hl with
  | [y0, y1, y2], _, [v0, v1, v2, v3, v4], _ =>
    have g0 := hf 0 f0 rfl
    have g1 := hf 1 f1 rfl
    have g2 := hf 2 f2 rfl
    simp [o0, t0, cellsInt] at g0
    simp [o1, t1, cellsStr] at g1
    simp [o2, t2, cellsTy] at g2
    obtain ⟨k, e0, d0, w0⟩ := DataW.trod_int Tryz.underlying3 g0
    obtain ⟨s, e1, d1, w1⟩ := DataW.trod_string Tryz.underlying9 g1
    simp only [List.cons.injEq, and_true] at e0 e1
    subst e0 e1
    subst d0 d1
    obtain ⟨t, ht, hin⟩ := type_open (SizeOf.sizeOf y2.1 + 1) (by omega) g2 (fun n hn => hsz n (by
      simp only [DataW.weights, hu, List.map_cons, List.map_nil, DataW.weightsEach, t0, t1, t2, List.mem_append, List.mem_cons, List.not_mem_nil, or_false, false_or]
      exact .inr hn))
    simp only [Ty.at3, List.cons.injEq, and_true] at ht
    obtain ⟨rfl, rfl, rfl⟩ := ht
    exact ⟨k, s, t, rfl, w0, hin, reach_str (hsz _ (by simp only [DataW.weights, hu, List.map_cons, List.map_nil, DataW.weightsEach, t0, t1, t2, List.mem_append, List.mem_cons, List.not_mem_nil, or_false, false_or]; first | trivial | exact .inl trivial | simp))⟩
theorem fields_types {n len cap : Nat} {o : Option Addr} {y : DataW H × List MemPlace} (h : DataW.trod enc Tryz.prog W base sp held n 40 [.slice o len cap] = some y) (hsz : ∀ n ∈ y.1.weights Tryz.prog 40, n ≤ reachBytes) : ∃ F, Yx o len F W := by
  obtain ⟨hl, he⟩ := elems_small Tryz.underlying40 cellsField (by decide) h hsz
  obtain ⟨q, hq⟩ := Go.Deep.choose_lt (α := Int × ByteArray × Ty) (n := len)
    (p := fun i q => (∃ a, o = some a ∧ a.block < W.heap.size ∧ (∀ k v, [Value.int .i64 q.1, .string q.2.1, .int .i64 q.2.2.k, .string q.2.2.n, .slice q.2.2.o q.2.2.of.length q.2.2.c][k]? = some v → W.cell? (a.add (i * 5 + k)) = some v) ∧ -9223372036854775808 ≤ q.1 ∧ q.1 ≤ 9223372036854775807) ∧ TyIn W q.2.2 ∧ q.2.1.size ≤ 140737488355327) (fun i hi => by
      obtain ⟨a, cs, d, q, m, ho, hb, hc, _, ht, hz, _⟩ := he i hi
      obtain ⟨k, s, t, rfl, hw, hin, hsn⟩ := field_types ht hz
      have := bounds_i64 hw
      exact ⟨(k, s, t), ⟨a, ho, hb, hc, this.1, this.2⟩, hin, hsn⟩)
  exact ⟨⟨fun i => (q i).1, fun i => (q i).2.1, fun i => (q i).2.2⟩, ⟨fun i hi => (hq i hi).1, by unfold maxLen at hl; omega⟩, fun i hi => (hq i hi).2⟩
theorem decl_types {n : Nat} {cs : List Value} {y : DataW H × List MemPlace} (h : DataW.trod enc Tryz.prog W base sp held n 43 cs = some y) (hsz : ∀ n ∈ y.1.weights Tryz.prog 43, n ≤ reachBytes) :
    ∃ k s o1 l1 c1 o2 l2 c2 p, cs = [.int .i64 k, .string s, .slice o1 l1 c1, .slice o2 l2 c2, .int .i64 p] ∧ (Lit.int .i64 k).wf = true ∧ (Lit.int .i64 p).wf = true ∧ s.size ≤ 140737488355327 ∧ (∃ F, Yx o1 l1 F W) ∧ ∃ M, Mx o2 l2 M W := by
  obtain ⟨f0, f1, f2, f3, f4, hu, o0, o1, o2, o3, o4, t0, t1, t2, t3, t4⟩ := declFields
  obtain ⟨xs, m, _, rfl, hl, hlen, hf⟩ := DataW.trod_struct hu h
  rw [cellsDecl] at hl
  match xs, hlen, cs, hl with
  | [y0, y1, y2, y3, y4], _, [v0, v1, v2, v3, v4], _ =>
    have g0 := hf 0 f0 rfl
    have g1 := hf 1 f1 rfl
    have g2 := hf 2 f2 rfl
    have g3 := hf 3 f3 rfl
    have g4 := hf 4 f4 rfl
    simp [o0, t0, cellsInt] at g0
    simp [o1, t1, cellsStr] at g1
    simp [o2, t2, cellsFs] at g2
    simp [o3, t3, cellsMs] at g3
    simp [o4, t4, cellsInt] at g4
    obtain ⟨k, e0, d0, w0⟩ := DataW.trod_int Tryz.underlying3 g0
    obtain ⟨s, e1, d1, w1⟩ := DataW.trod_string Tryz.underlying9 g1
    obtain ⟨a1, l1, c1, rfl⟩ := slice_shape Tryz.underlying40 g2
    obtain ⟨a2, l2, c2, rfl⟩ := slice_shape Tryz.underlying41 g3
    obtain ⟨p, e4, d4, w4⟩ := DataW.trod_int Tryz.underlying3 g4
    simp only [List.cons.injEq, and_true] at e0 e1 e4
    subst e0 e1 e4
    subst d0 d1 d4
    have hz : ∀ n, n = s.data.toList.length ∨ n ∈ y2.1.weights Tryz.prog 40 ∨ n ∈ y3.1.weights Tryz.prog 41 → n ≤ reachBytes := fun n hn => hsz n (by
      simp only [DataW.weights, hu, List.map_cons, List.map_nil, DataW.weightsEach, t0, t1, t2, t3, t4, List.mem_append, List.mem_cons, List.not_mem_nil, or_false, false_or]
      exact hn)
    exact ⟨k, s, a1, l1, c1, a2, l2, c2, p, rfl, w0, w4, reach_str (hz _ (.inl rfl)), fields_types g2 (fun n hn => hz n (.inr (.inl hn))), methods_open g3 (fun n hn => hz n (.inr (.inr hn)))⟩
end
/-- What is known of a list of declarations: all, types as trees. -/
theorem decls_types {H : Type} {enc : TypeId × Value → H} {W : World} {base : Nat} {v : Value} {d : DataW H} {ps : List MemPlace}
    (hval : Value.okWide Tryz.prog W .any base 22 v) (h : DataW.Trod enc Tryz.prog W 0 (fun _ => true) true 22 v d ps) (hsz : ∀ n ∈ d.weights Tryz.prog 22, n ≤ reachBytes) :
    ∃ o len cap D, v = .slice o len cap ∧ Dx o len D W ∧ ∀ i, i < len → (∃ F, Yx (D.fo i) (D.fl i) F W) ∧ (∃ M, Mx (D.mo i) (D.ml i) M W) ∧ -9223372036854775808 ≤ D.A i ∧ D.A i ≤ 9223372036854775807 := by
  obtain ⟨o, len, cap, rfl⟩ := Go.WideShapes.okWide_slice Tryz.underlying22 hval
  obtain ⟨fuel, hf⟩ := h
  have hf' : DataW.trod enc Tryz.prog W 0 (fun _ => true) true fuel 22 [.slice o len cap] = some (d, ps) := by simpa [Value.cells] using hf
  obtain ⟨hl, hby, he⟩ := elems_open Tryz.underlying22 cellsDecl (by decide) hf' hsz
  rw [bytesDecl] at hby
  obtain ⟨q, hq⟩ := Go.Deep.choose_lt (α := Int × ByteArray × Option Addr × Nat × Nat × Option Addr × Nat × Nat × Int) (n := len)
    (p := fun i q => (∃ a, o = some a ∧ a.block < W.heap.size ∧ (∀ k v, [Value.int .i64 q.1, .string q.2.1, .slice q.2.2.1 q.2.2.2.1 q.2.2.2.2.1, .slice q.2.2.2.2.2.1 q.2.2.2.2.2.2.1 q.2.2.2.2.2.2.2.1, .int .i64 q.2.2.2.2.2.2.2.2][k]? = some v → W.cell? (a.add (i * 5 + k)) = some v) ∧ q.2.1.size ≤ 140737488355327 ∧ -9223372036854775808 ≤ q.1 ∧ q.1 ≤ 9223372036854775807) ∧
      (∃ F, Yx q.2.2.1 q.2.2.2.1 F W) ∧ (∃ M, Mx q.2.2.2.2.2.1 q.2.2.2.2.2.2.1 M W) ∧ -9223372036854775808 ≤ q.2.2.2.2.2.2.2.2 ∧ q.2.2.2.2.2.2.2.2 ≤ 9223372036854775807) (fun i hi => by
      obtain ⟨a, cs, d, q, m, ho, hb, hc, _, ht, hz⟩ := he i hi
      obtain ⟨k, s, o1, l1, c1, o2, l2, c2, p, rfl, hw, hp, hs, hF, hM⟩ := decl_types ht hz
      have b1 := bounds_i64 hw
      have b2 := bounds_i64 hp
      exact ⟨(k, s, o1, l1, c1, o2, l2, c2, p), ⟨a, ho, hb, hc, hs, b1.1, b1.2⟩, hF, hM, b2.1, b2.2⟩)
  have hr : reachBytes = 140737488351232 := rfl
  exact ⟨o, len, cap, ⟨fun i => (q i).1, fun i => (q i).2.1, fun i => (q i).2.2.1, fun i => (q i).2.2.2.1, fun i => (q i).2.2.2.2.1, fun i => (q i).2.2.2.2.2.1, fun i => (q i).2.2.2.2.2.2.1, fun i => (q i).2.2.2.2.2.2.2.1, fun i => (q i).2.2.2.2.2.2.2.2⟩, rfl,
    ⟨fun i hi => (hq i hi).1, by omega⟩, fun i hi => (hq i hi).2⟩

/-- All that is known of a list of declarations: their cells, their fields with types as trees, their methods. -/
def Ax (o : Option Addr) (len : Nat) (D : Dl) (F : Nat → Fy) (M : Nat → Ml) (w : World) : Prop :=
  Dx o len D w ∧ ∀ i, i < len → Yx (D.fo i) (D.fl i) (F i) w ∧ Mx (D.mo i) (D.ml i) (M i) w
theorem Ax.below {o : Option Addr} {len m : Nat} {D : Dl} {F : Nat → Fy} {M : Nat → Ml} {w w' : World} (h : Ax o len D F M w) (hb : Below m w w') (hm : w.heap.size ≤ m) : Ax o len D F M w' :=
  ⟨h.1.below hb hm, fun i hi => ⟨(h.2 i hi).1.below hb hm, (h.2 i hi).2.below hb hm⟩⟩
instance : Inhabited Fy := ⟨⟨fun _ => 0, fun _ => ⟨#[]⟩, fun _ => default⟩⟩
instance : Inhabited Ml := ⟨⟨fun _ => 0, fun _ => ⟨#[]⟩, fun _ => ⟨#[]⟩, fun _ => ⟨#[]⟩, fun _ => false⟩⟩
theorem decls_all {H : Type} {enc : TypeId × Value → H} {W : World} {base : Nat} {v : Value} {d : DataW H} {ps : List MemPlace}
    (hval : Value.okWide Tryz.prog W .any base 22 v) (h : DataW.Trod enc Tryz.prog W 0 (fun _ => true) true 22 v d ps) (hsz : ∀ n ∈ d.weights Tryz.prog 22, n ≤ reachBytes) :
    ∃ o len cap D F M, v = .slice o len cap ∧ Ax o len D F M W := by
  obtain ⟨o, len, cap, D, hv, hD, hr⟩ := decls_types hval h hsz
  obtain ⟨F, hF⟩ := Go.Deep.choose_lt (α := Fy) (n := len) (p := fun i F => Yx (D.fo i) (D.fl i) F W) (fun i hi => (hr i hi).1)
  obtain ⟨M, hM⟩ := Go.Deep.choose_lt (α := Ml) (n := len) (p := fun i M => Mx (D.mo i) (D.ml i) M W) (fun i hi => (hr i hi).2.1)
  exact ⟨o, len, cap, D, F, M, hv, hD, fun i hi => ⟨hF i hi, hM i hi⟩⟩
end Go.Proofs.YtdogddliifbjnaaGreat.Ck
/- Schemas: a type's shape; what stands in a world stands in one that holds more. -/
namespace Go.Proofs.YtdogddliifbjnaaGreat.Ck
open Go.RowKit Cm
open _root_.Go.Proofs.YtdogddliifbjnaaGreat.Nm
set_option linter.unusedVariables false
set_option linter.unusedSimpArgs false

/-- A type's shape. -/
inductive Sp where
  | mk (k : Int) (n : ByteArray) (of : List Sp)
def Sp.k : Sp → Int | .mk k _ _ => k
def Sp.n : Sp → ByteArray | .mk _ n _ => n
def Sp.of : Sp → List Sp | .mk _ _ of => of
instance : Inhabited Sp := ⟨.mk 0 ⟨#[]⟩ []⟩
mutual
def Ty.sp : Ty → Sp | .mk k n _ _ of => .mk k n (spL of)
def spL : List Ty → List Sp
  | [] => []
  | t :: l => t.sp :: spL l
end
theorem spL_map : ∀ l : List Ty, spL l = l.map Ty.sp
  | [] => by unfold spL; rfl
  | t :: l => by unfold spL; rw [spL_map l]; rfl
theorem sp_mk (k : Int) (n : ByteArray) (o : Option Addr) (c : Nat) (of : List Ty) : (Ty.mk k n o c of).sp = .mk k n (of.map Ty.sp) := by
  rw [← spL_map]; simp only [Ty.sp]
theorem sp_k (t : Ty) : t.sp.k = t.k := by cases t; rw [sp_mk]; rfl
theorem sp_n (t : Ty) : t.sp.n = t.n := by cases t; rw [sp_mk]; rfl
theorem sp_of (t : Ty) : t.sp.of = t.of.map Ty.sp := by cases t; rw [sp_mk]; rfl
theorem sp_len {t u : Ty} (h : u.sp = t.sp) : u.of.length = t.of.length := by
  have := congrArg (fun s => s.of.length) h
  simpa [sp_of] using this

theorem ty_sub {w w' : World} {t : Ty} (h : TyIn w t) (hb : Sub w w') : TyIn w' t := by
  induction h with
  | mk k n o c of hk hn hl hc hs ih =>
    refine .mk k n o c of hk hn hl (fun i t hi => ?_) ih
    obtain ⟨a, h1, h2, h3⟩ := hc i t hi
    exact ⟨a, h1, Nat.lt_of_lt_of_le h2 hb.size, fun j v hv => hb.cell (h3 j v hv)⟩
theorem fx_sub {o : Option Addr} {len : Nat} {F : Fl} {w w' : World} (h : Fx o len F w) (hb : Sub w w') : Fx o len F w' := by
  refine ⟨fun i hi => ?_, h.2⟩
  obtain ⟨a, h1, h2, h3, h4⟩ := h.1 i hi
  exact ⟨a, h1, Nat.lt_of_lt_of_le h2 hb.size, fun k v hk => hb.cell (h3 k v hk), h4⟩
theorem mx_sub {o : Option Addr} {len : Nat} {M : Ml} {w w' : World} (h : Mx o len M w) (hb : Sub w w') : Mx o len M w' := by
  refine ⟨fun i hi => ?_, h.2⟩
  obtain ⟨a, h1, h2, h3, h4⟩ := h.1 i hi
  exact ⟨a, h1, Nat.lt_of_lt_of_le h2 hb.size, fun k v hk => hb.cell (h3 k v hk), h4⟩
theorem dx_sub {o : Option Addr} {len : Nat} {D : Dl} {w w' : World} (h : Dx o len D w) (hb : Sub w w') : Dx o len D w' := by
  refine ⟨fun i hi => ?_, h.2⟩
  obtain ⟨a, h1, h2, h3, h4⟩ := h.1 i hi
  exact ⟨a, h1, Nat.lt_of_lt_of_le h2 hb.size, fun k v hk => hb.cell (h3 k v hk), h4⟩
theorem yx_sub {o : Option Addr} {len : Nat} {F : Fy} {w w' : World} (h : Yx o len F w) (hb : Sub w w') : Yx o len F w' :=
  ⟨fx_sub h.1 hb, fun i hi => ⟨ty_sub (h.2 i hi).1 hb, (h.2 i hi).2⟩⟩
theorem ax_sub {o : Option Addr} {len : Nat} {D : Dl} {F : Nat → Fy} {M : Nat → Ml} {w w' : World} (h : Ax o len D F M w) (hb : Sub w w') : Ax o len D F M w' :=
  ⟨dx_sub h.1 hb, fun i hi => ⟨yx_sub (h.2 i hi).1 hb, mx_sub (h.2 i hi).2 hb⟩⟩
theorem mp_sub {B n : Nat} {S : Nat → ByteArray} {K : Nat → Int} {w w' : World} (h : Mp B n S K w) (hb : Sub w w') : Mp B n S K w' := by
  obtain ⟨D, ⟨es, clock, h1, h2⟩, r⟩ := h
  exact ⟨D, ⟨es, clock, hb.block B _ h1 (fun e => by cases e), h2⟩, r⟩
theorem tb_sub {T n : Nat} {S : Nat → ByteArray} {K : Nat → Int} {w w' : World} (h : Tb T n S K w) (hb : Sub w w') : Tb T n S K w' := by
  obtain ⟨B, h1, h2, h3⟩ := h
  exact ⟨B, hb.cell h1, Nat.lt_of_lt_of_le h2 hb.size, mp_sub h3 hb⟩

/-- A field, a method, a declaration: their cells. -/
structure Fz where
  T : Int
  N : ByteArray
  Y : Ty
def Fz.at5 (f : Fz) : List Value := [.int .i64 f.T, .string f.N, .int .i64 f.Y.k, .string f.Y.n, .slice f.Y.o f.Y.of.length f.Y.c]
structure Mz where
  T : Int
  N : ByteArray
  I : ByteArray
  O : ByteArray
  W : Bool
def Mz.at5 (m : Mz) : List Value := [.int .i64 m.T, .string m.N, .string m.I, .string m.O, .bool m.W]
structure Dz where
  K : Int
  S : ByteArray
  fo : Option Addr
  fl : Nat
  fc : Nat
  mo : Option Addr
  ml : Nat
  mc : Nat
  A : Int
def Dz.at5 (d : Dz) : List Value := [.int .i64 d.K, .string d.S, .slice d.fo d.fl d.fc, .slice d.mo d.ml d.mc, .int .i64 d.A]
instance : Inhabited Fz := ⟨⟨0, ⟨#[]⟩, default⟩⟩
instance : Inhabited Mz := ⟨⟨0, ⟨#[]⟩, ⟨#[]⟩, ⟨#[]⟩, false⟩⟩
instance : Inhabited Dz := ⟨⟨0, ⟨#[]⟩, none, 0, 0, none, 0, 0, 0⟩⟩
/-- Elements of s cells each, from an address on. -/
def Ex {α : Type} (s : Nat) (f : α → List Value) (o : Option Addr) (n : Nat) (X : Nat → α) (w : World) : Prop :=
  ∀ i, i < n → ∃ a, o = some a ∧ a.block < w.heap.size ∧ ∀ k v, (f (X i))[k]? = some v → w.cell? (a.add (i * s + k)) = some v
theorem Ex.sub {α : Type} {s n : Nat} {f : α → List Value} {o : Option Addr} {X : Nat → α} {w w' : World} (h : Ex s f o n X w) (hb : Sub w w') : Ex s f o n X w' := fun i hi => by
  obtain ⟨a, h1, h2, h3⟩ := h i hi
  exact ⟨a, h1, Nat.lt_of_lt_of_le h2 hb.size, fun k v hk => hb.cell (h3 k v hk)⟩
theorem Ex.below {α : Type} {s n : Nat} {f : α → List Value} {o : Option Addr} {X : Nat → α} {w w' : World} (h : Ex s f o n X w) (hb : Below w.heap.size w w') : Ex s f o n X w' := h.sub (Sub.of_below hb)
theorem Ex.nil {α : Type} (s : Nat) (f : α → List Value) (o : Option Addr) (X : Nat → α) (w : World) : Ex s f o 0 X w := fun i hi => by omega
/-- Five cells, and three, from a place on. -/
theorem ex_five {α : Type} {n i : Nat} {f : α → List Value} {o : Option Addr} {X : Nat → α} {w : World} (h : Ex 5 f o n X w) (hi : i < n) {v0 v1 v2 v3 v4 : Value} (hf : f (X i) = [v0, v1, v2, v3, v4]) :
    ∃ a Ab Ao As, o = some a ∧ a.add (i * 5) = ⟨Ab, Ao, As⟩ ∧ Ab < w.heap.size ∧ w.cell? ⟨Ab, Ao, As⟩ = some v0 ∧ w.cell? ⟨Ab, Ao + 1, none⟩ = some v1 ∧ w.cell? ⟨Ab, Ao + 2, none⟩ = some v2 ∧ w.cell? ⟨Ab, Ao + 3, none⟩ = some v3 ∧ w.cell? ⟨Ab, Ao + 4, none⟩ = some v4 := by
  obtain ⟨a, rfl, _, h3⟩ := h i hi
  rw [hf] at h3
  obtain ⟨Ab, Ao, As, r⟩ := five h3
  exact ⟨a, Ab, Ao, As, rfl, r⟩
theorem ex_three {α : Type} {n i : Nat} {f : α → List Value} {o : Option Addr} {X : Nat → α} {w : World} (h : Ex 3 f o n X w) (hi : i < n) {v0 v1 v2 : Value} (hf : f (X i) = [v0, v1, v2]) :
    ∃ a Ab Ao As, o = some a ∧ a.add (i * 3) = ⟨Ab, Ao, As⟩ ∧ Ab < w.heap.size ∧ w.cell? ⟨Ab, Ao, As⟩ = some v0 ∧ w.cell? ⟨Ab, Ao + 1, none⟩ = some v1 ∧ w.cell? ⟨Ab, Ao + 2, none⟩ = some v2 := by
  obtain ⟨a, rfl, _, h3⟩ := h i hi
  rw [hf] at h3
  obtain ⟨⟨Ab, Ao, As⟩, hA⟩ : ∃ A, a.add (i * 3) = A := ⟨_, rfl⟩
  have g : ∀ k, a.add (i * 3 + (k + 1)) = ⟨Ab, Ao + (k + 1), none⟩ := fun k => by rw [← Addr.add_add, hA]; simp [Addr.add]
  have c0 := h3 0 _ rfl
  rw [Nat.add_zero, hA] at c0
  exact ⟨a, Ab, Ao, As, rfl, hA, World.block_lt_of_cell? w _ c0, c0, (g 0) ▸ h3 1 _ rfl, (g 1) ▸ h3 2 _ rfl⟩
end Go.Proofs.YtdogddliifbjnaaGreat.Ck
