/- Types: what the form says of a list of declarations, with their fields' types as trees. -/
import Derived.Test.YthcpepifikpmeaaTyOpen
namespace Go.Proofs.Ythcpepifikpmeaa.Ck
open Go.RowKit Cm _root_.Go.Proofs.Ythcpepifikpmeaa.Nm
set_option linter.unusedVariables false
set_option linter.unusedSimpArgs false

/-- Fields: tags, names, types. -/
structure Fy where
  T : Nat → Int
  N : Nat → ByteArray
  Y : Nat → Ty
def Fy.fl (F : Fy) : Fl := ⟨F.T, F.N, fun i => (F.Y i).k, fun i => (F.Y i).n, fun i => (F.Y i).o, fun i => (F.Y i).of.length, fun i => (F.Y i).c⟩
def Yx (o : Option Addr) (len : Nat) (F : Fy) (w : World) : Prop := Fx o len F.fl w ∧ ∀ i, i < len → TyIn w (F.Y i) ∧ (F.N i).size ≤ 140737488355327
theorem Yx.below {o : Option Addr} {len m : Nat} {F : Fy} {w w' : World} (h : Yx o len F w) (hb : Below m w w') (hm : w.heap.size ≤ m) : Yx o len F w' :=
  ⟨h.1.below hb hm, fun i hi => ⟨ty_below (h.2 i hi).1 hb hm, (h.2 i hi).2⟩⟩
section
variable {H : Type} {enc : TypeId × Value → H} {W : World} {sp : Nat → Bool} {held : Bool} {base : Nat}
theorem field_types {n : Nat} {cs : List Value} {y : DataW H × List MemPlace} (h : DataW.trod enc Try.prog W base sp held n 40 cs = some y) (hsz : ∀ n ∈ y.1.weights Try.prog 40, n ≤ reachBytes) :
    ∃ (k : Int) (s : ByteArray) (t : Ty), cs = [.int .i64 k, .string s, .int .i64 t.k, .string t.n, .slice t.o t.of.length t.c] ∧ (Lit.int .i64 k).wf = true ∧ TyIn W t ∧ s.size ≤ 140737488355327 := by
  obtain ⟨f0, f1, f2, hu, o0, o1, o2, t0, t1, t2⟩ := fieldFields
  obtain ⟨xs, m, _, rfl, hl, hlen, hf⟩ := DataW.trod_struct hu h
  rw [cellsField] at hl
  match xs, hlen, cs, hl with
  | [y0, y1, y2], _, [v0, v1, v2, v3, v4], _ =>
    have g0 := hf 0 f0 rfl
    have g1 := hf 1 f1 rfl
    have g2 := hf 2 f2 rfl
    simp [o0, t0, cellsInt] at g0
    simp [o1, t1, cellsStr] at g1
    simp [o2, t2, cellsTy] at g2
    obtain ⟨k, e0, d0, w0⟩ := DataW.trod_int Try.underlying3 g0
    obtain ⟨s, e1, d1, w1⟩ := DataW.trod_string Try.underlying9 g1
    simp only [List.cons.injEq, and_true] at e0 e1
    subst e0 e1
    subst d0 d1
    obtain ⟨t, ht, hin⟩ := type_open (SizeOf.sizeOf y2.1 + 1) (by omega) g2 (fun n hn => hsz n (by
      simp only [DataW.weights, hu, List.map_cons, List.map_nil, DataW.weightsEach, t0, t1, t2, List.mem_append, List.mem_cons, List.not_mem_nil, or_false, false_or]
      exact .inr hn))
    simp only [Ty.at3, List.cons.injEq, and_true] at ht
    obtain ⟨rfl, rfl, rfl⟩ := ht
    exact ⟨k, s, t, rfl, w0, hin, reach_str (hsz _ (by simp only [DataW.weights, hu, List.map_cons, List.map_nil, DataW.weightsEach, t0, t1, t2, List.mem_append, List.mem_cons, List.not_mem_nil, or_false, false_or]; first | trivial | exact .inl trivial | simp))⟩
theorem fields_types {n len cap : Nat} {o : Option Addr} {y : DataW H × List MemPlace} (h : DataW.trod enc Try.prog W base sp held n 31 [.slice o len cap] = some y) (hsz : ∀ n ∈ y.1.weights Try.prog 31, n ≤ reachBytes) : ∃ F, Yx o len F W := by
  obtain ⟨hl, he⟩ := elems_small Try.underlying31 cellsField (by decide) h hsz
  obtain ⟨q, hq⟩ := Go.Deep.choose_lt (α := Int × ByteArray × Ty) (n := len)
    (p := fun i q => (∃ a, o = some a ∧ a.block < W.heap.size ∧ (∀ k v, [Value.int .i64 q.1, .string q.2.1, .int .i64 q.2.2.k, .string q.2.2.n, .slice q.2.2.o q.2.2.of.length q.2.2.c][k]? = some v → W.cell? (a.add (i * 5 + k)) = some v) ∧ -9223372036854775808 ≤ q.1 ∧ q.1 ≤ 9223372036854775807) ∧ TyIn W q.2.2 ∧ q.2.1.size ≤ 140737488355327) (fun i hi => by
      obtain ⟨a, cs, d, q, m, ho, hb, hc, _, ht, hz, _⟩ := he i hi
      obtain ⟨k, s, t, rfl, hw, hin, hsn⟩ := field_types ht hz
      have := bounds_i64 hw
      exact ⟨(k, s, t), ⟨a, ho, hb, hc, this.1, this.2⟩, hin, hsn⟩)
  exact ⟨⟨fun i => (q i).1, fun i => (q i).2.1, fun i => (q i).2.2⟩, ⟨fun i hi => (hq i hi).1, by unfold maxLen at hl; omega⟩, fun i hi => (hq i hi).2⟩
theorem decl_types {n : Nat} {cs : List Value} {y : DataW H × List MemPlace} (h : DataW.trod enc Try.prog W base sp held n 34 cs = some y) (hsz : ∀ n ∈ y.1.weights Try.prog 34, n ≤ reachBytes) :
    ∃ k s o1 l1 c1 o2 l2 c2 p, cs = [.int .i64 k, .string s, .slice o1 l1 c1, .slice o2 l2 c2, .int .i64 p] ∧ (Lit.int .i64 k).wf = true ∧ (Lit.int .i64 p).wf = true ∧ s.size ≤ 140737488355327 ∧ (∃ F, Yx o1 l1 F W) ∧ ∃ M, Mx o2 l2 M W := by
  obtain ⟨f0, f1, f2, f3, f4, hu, o0, o1, o2, o3, o4, t0, t1, t2, t3, t4⟩ := declFields
  obtain ⟨xs, m, _, rfl, hl, hlen, hf⟩ := DataW.trod_struct hu h
  rw [cellsDecl] at hl
  match xs, hlen, cs, hl with
  | [y0, y1, y2, y3, y4], _, [v0, v1, v2, v3, v4], _ =>
    have g0 := hf 0 f0 rfl
    have g1 := hf 1 f1 rfl
    have g2 := hf 2 f2 rfl
    have g3 := hf 3 f3 rfl
    have g4 := hf 4 f4 rfl
    simp [o0, t0, cellsInt] at g0
    simp [o1, t1, cellsStr] at g1
    simp [o2, t2, cellsFs] at g2
    simp [o3, t3, cellsMs] at g3
    simp [o4, t4, cellsInt] at g4
    obtain ⟨k, e0, d0, w0⟩ := DataW.trod_int Try.underlying3 g0
    obtain ⟨s, e1, d1, w1⟩ := DataW.trod_string Try.underlying9 g1
    obtain ⟨a1, l1, c1, rfl⟩ := slice_shape Try.underlying31 g2
    obtain ⟨a2, l2, c2, rfl⟩ := slice_shape Try.underlying32 g3
    obtain ⟨p, e4, d4, w4⟩ := DataW.trod_int Try.underlying3 g4
    simp only [List.cons.injEq, and_true] at e0 e1 e4
    subst e0 e1 e4
    subst d0 d1 d4
    have hz : ∀ n, n = s.data.toList.length ∨ n ∈ y2.1.weights Try.prog 31 ∨ n ∈ y3.1.weights Try.prog 32 → n ≤ reachBytes := fun n hn => hsz n (by
      simp only [DataW.weights, hu, List.map_cons, List.map_nil, DataW.weightsEach, t0, t1, t2, t3, t4, List.mem_append, List.mem_cons, List.not_mem_nil, or_false, false_or]
      exact hn)
    exact ⟨k, s, a1, l1, c1, a2, l2, c2, p, rfl, w0, w4, reach_str (hz _ (.inl rfl)), fields_types g2 (fun n hn => hz n (.inr (.inl hn))), methods_open g3 (fun n hn => hz n (.inr (.inr hn)))⟩
end
/-- What is known of a list of declarations: all, types as trees. -/
theorem decls_types {H : Type} {enc : TypeId × Value → H} {W : World} {base : Nat} {v : Value} {d : DataW H} {ps : List MemPlace}
    (hval : Value.okWide Try.prog W .any base 22 v) (h : DataW.Trod enc Try.prog W 0 (fun _ => true) true 22 v d ps) (hsz : ∀ n ∈ d.weights Try.prog 22, n ≤ reachBytes) :
    ∃ o len cap D, v = .slice o len cap ∧ Dx o len D W ∧ ∀ i, i < len → (∃ F, Yx (D.fo i) (D.fl i) F W) ∧ (∃ M, Mx (D.mo i) (D.ml i) M W) ∧ -9223372036854775808 ≤ D.A i ∧ D.A i ≤ 9223372036854775807 := by
  obtain ⟨o, len, cap, rfl⟩ := Go.WideShapes.okWide_slice Try.underlying22 hval
  obtain ⟨fuel, hf⟩ := h
  have hf' : DataW.trod enc Try.prog W 0 (fun _ => true) true fuel 22 [.slice o len cap] = some (d, ps) := by simpa [Value.cells] using hf
  obtain ⟨hl, hby, he⟩ := elems_open Try.underlying22 cellsDecl (by decide) hf' hsz
  rw [bytesDecl] at hby
  obtain ⟨q, hq⟩ := Go.Deep.choose_lt (α := Int × ByteArray × Option Addr × Nat × Nat × Option Addr × Nat × Nat × Int) (n := len)
    (p := fun i q => (∃ a, o = some a ∧ a.block < W.heap.size ∧ (∀ k v, [Value.int .i64 q.1, .string q.2.1, .slice q.2.2.1 q.2.2.2.1 q.2.2.2.2.1, .slice q.2.2.2.2.2.1 q.2.2.2.2.2.2.1 q.2.2.2.2.2.2.2.1, .int .i64 q.2.2.2.2.2.2.2.2][k]? = some v → W.cell? (a.add (i * 5 + k)) = some v) ∧ q.2.1.size ≤ 140737488355327 ∧ -9223372036854775808 ≤ q.1 ∧ q.1 ≤ 9223372036854775807) ∧
      (∃ F, Yx q.2.2.1 q.2.2.2.1 F W) ∧ (∃ M, Mx q.2.2.2.2.2.1 q.2.2.2.2.2.2.1 M W) ∧ -9223372036854775808 ≤ q.2.2.2.2.2.2.2.2 ∧ q.2.2.2.2.2.2.2.2 ≤ 9223372036854775807) (fun i hi => by
      obtain ⟨a, cs, d, q, m, ho, hb, hc, _, ht, hz⟩ := he i hi
      obtain ⟨k, s, o1, l1, c1, o2, l2, c2, p, rfl, hw, hp, hs, hF, hM⟩ := decl_types ht hz
      have b1 := bounds_i64 hw
      have b2 := bounds_i64 hp
      exact ⟨(k, s, o1, l1, c1, o2, l2, c2, p), ⟨a, ho, hb, hc, hs, b1.1, b1.2⟩, hF, hM, b2.1, b2.2⟩)
  have hr : reachBytes = 140737488351232 := rfl
  exact ⟨o, len, cap, ⟨fun i => (q i).1, fun i => (q i).2.1, fun i => (q i).2.2.1, fun i => (q i).2.2.2.1, fun i => (q i).2.2.2.2.1, fun i => (q i).2.2.2.2.2.1, fun i => (q i).2.2.2.2.2.2.1, fun i => (q i).2.2.2.2.2.2.2.1, fun i => (q i).2.2.2.2.2.2.2.2⟩, rfl,
    ⟨fun i hi => (hq i hi).1, by omega⟩, fun i hi => (hq i hi).2⟩

/-- All that is known of a list of declarations: their cells, their fields with types as trees, their methods. -/
def Ax (o : Option Addr) (len : Nat) (D : Dl) (F : Nat → Fy) (M : Nat → Ml) (w : World) : Prop :=
  Dx o len D w ∧ ∀ i, i < len → Yx (D.fo i) (D.fl i) (F i) w ∧ Mx (D.mo i) (D.ml i) (M i) w
theorem Ax.below {o : Option Addr} {len m : Nat} {D : Dl} {F : Nat → Fy} {M : Nat → Ml} {w w' : World} (h : Ax o len D F M w) (hb : Below m w w') (hm : w.heap.size ≤ m) : Ax o len D F M w' :=
  ⟨h.1.below hb hm, fun i hi => ⟨(h.2 i hi).1.below hb hm, (h.2 i hi).2.below hb hm⟩⟩
instance : Inhabited Fy := ⟨⟨fun _ => 0, fun _ => ⟨#[]⟩, fun _ => default⟩⟩
instance : Inhabited Ml := ⟨⟨fun _ => 0, fun _ => ⟨#[]⟩, fun _ => ⟨#[]⟩, fun _ => ⟨#[]⟩, fun _ => false⟩⟩
theorem decls_all {H : Type} {enc : TypeId × Value → H} {W : World} {base : Nat} {v : Value} {d : DataW H} {ps : List MemPlace}
    (hval : Value.okWide Try.prog W .any base 22 v) (h : DataW.Trod enc Try.prog W 0 (fun _ => true) true 22 v d ps) (hsz : ∀ n ∈ d.weights Try.prog 22, n ≤ reachBytes) :
    ∃ o len cap D F M, v = .slice o len cap ∧ Ax o len D F M W := by
  obtain ⟨o, len, cap, D, hv, hD, hr⟩ := decls_types hval h hsz
  obtain ⟨F, hF⟩ := Go.Deep.choose_lt (α := Fy) (n := len) (p := fun i F => Yx (D.fo i) (D.fl i) F W) (fun i hi => (hr i hi).1)
  obtain ⟨M, hM⟩ := Go.Deep.choose_lt (α := Ml) (n := len) (p := fun i M => Mx (D.mo i) (D.ml i) M W) (fun i hi => (hr i hi).2.1)
  exact ⟨o, len, cap, D, F, M, hv, hD, fun i hi => ⟨hF i hi, hM i hi⟩⟩
end Go.Proofs.Ythcpepifikpmeaa.Ck
