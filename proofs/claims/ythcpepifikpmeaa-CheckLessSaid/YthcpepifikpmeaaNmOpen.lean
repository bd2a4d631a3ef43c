/- Names: what the form says of a list of declarations that came in. -/
import Derived.Test.YthcpepifikpmeaaNmLists
import Derived.Deep.Slices
import Derived.ChangeSame
import Derived.OpenShut
import Derived.ProofKit
import Derived.SizedLaws
namespace Go.Proofs.Ythcpepifikpmeaa.Nm
open Go.RowKit Cm
set_option linter.unusedVariables false
set_option linter.unusedSimpArgs false

theorem weight_all {H : Type} {P : Program} {e : TypeId} {l : List (DataW H)} {d : DataW H} {n : Nat} (hd : d ∈ l) (hn : n ∈ d.weights P e) : n ∈ DataW.weightsAll P e l := by
  induction l with
  | nil => cases hd
  | cons x l ih =>
    simp only [DataW.weightsAll, List.mem_append]
    rcases List.mem_cons.1 hd with rfl | h
    · exact .inl hn
    · exact .inr (ih h)
theorem block_add (a : Addr) (n : Nat) : (a.add n).block = a.block := by unfold Addr.add; split <;> rfl
theorem cellsInt : Try.prog.cellsOf 3 = 1 := by kernel_rfl
theorem cellsStr : Try.prog.cellsOf 9 = 1 := by kernel_rfl
theorem cellsBool : Try.prog.cellsOf 4 = 1 := by kernel_rfl
theorem cellsFs : Try.prog.cellsOf 31 = 1 := by kernel_rfl
theorem cellsMs : Try.prog.cellsOf 32 = 1 := by kernel_rfl
theorem cellsTs : Try.prog.cellsOf 36 = 1 := by kernel_rfl
theorem cellsTy : Try.prog.cellsOf 38 = 3 := by kernel_rfl
theorem cellsDecl : Try.prog.cellsOf 34 = 5 := by kernel_rfl
theorem cellsField : Try.prog.cellsOf 40 = 5 := by kernel_rfl
theorem cellsMethod : Try.prog.cellsOf 76 = 5 := by kernel_rfl
theorem bytesDecl : Try.prog.bytesOf 34 = 80 := by kernel_rfl

section
variable {H : Type} {enc : TypeId × Value → H} {W : World} {sp : Nat → Bool} {held : Bool} {base : Nat}
theorem slice_shape {t e : TypeId} {n : Nat} {v : Value} {y : DataW H × List MemPlace} (ht : Try.prog.underlying t = some (.slice e)) (h : DataW.trod enc Try.prog W base sp held n t [v] = some y) : ∃ o l c, v = .slice o l c := by
  rcases Go.Deep.open_slice ht h with ⟨h0, _⟩ | ⟨a, len, cap, m, k, D, Pl, h0, _⟩
  · exact ⟨none, 0, 0, by simpa using h0⟩
  · exact ⟨some a, len, cap, by simpa using h0⟩
/-- A slice, element by element. -/
theorem elems_open {t e : TypeId} {c n len cap : Nat} {o : Option Addr} {y : DataW H × List MemPlace} (ht : Try.prog.underlying t = some (.slice e)) (hc : Try.prog.cellsOf e = c) (hpos : 0 < c) (h : DataW.trod enc Try.prog W base sp held n t [.slice o len cap] = some y)
    (hsz : ∀ n ∈ y.1.weights Try.prog t, n ≤ reachBytes) :
    len ≤ maxLen ∧ len * Try.prog.bytesOf e ≤ reachBytes ∧ ∀ i, i < len → ∃ a cs d q m, o = some a ∧ a.block < W.heap.size ∧ (∀ k v, cs[k]? = some v → W.cell? (a.add (i * c + k)) = some v) ∧ cs.length = c ∧
      DataW.trod enc Try.prog W base sp held m e cs = some (d, q) ∧ ∀ n ∈ d.weights Try.prog e, n ≤ reachBytes := by
  rcases Go.Deep.open_slice ht h with ⟨h0, rfl⟩ | ⟨a, len', cap', m, k, D, Pl, h0, _, hlc, hcm, hm, rfl, hx⟩
  · have e0 : o = none ∧ len = 0 ∧ cap = 0 := by simpa using h0
    obtain ⟨rfl, rfl, rfl⟩ := e0
    exact ⟨Nat.zero_le _, by simp, fun i hi => by omega⟩
  · have e0 : o = some a ∧ len = len' ∧ cap = cap' := by simpa using h0
    obtain ⟨rfl, rfl, rfl⟩ := e0
    have hl : len ≤ m := by rw [hm]; split <;> omega
    have hw : ∀ n ∈ DataW.weightsAll Try.prog e ((List.range len).map D), n ≤ reachBytes := fun n hn => hsz n (by simp only [DataW.weights, ht, List.mem_cons, List.mem_append]; exact .inr (.inl hn))
    have h1 := hsz ((((List.range len).map D).length + ((List.range (m - len)).map fun j => D (len + j)).length) * Try.prog.bytesOf e) (by simp [DataW.weights, ht])
    refine ⟨by omega, ?_, fun i hi => ?_⟩
    · simp only [List.length_map, List.length_range] at h1
      exact Nat.le_trans (Nat.mul_le_mul_right _ (by omega)) h1
    · obtain ⟨cs, hcs, htr⟩ := hx i (by omega)
      rw [hc] at hcs
      obtain ⟨_, hcl, hcell⟩ := World.cells?_some hcs
      have hcc : ∀ k v, cs[k]? = some v → W.cell? (a.add (i * c + k)) = some v := fun k v hk => by
        have hkl : k < cs.length := (List.getElem?_eq_some_iff.1 hk).1
        have := hcell k (by omega)
        rw [Go.Deep.add_add] at this
        rw [this]; exact hk
      have h0c := hcc 0 _ (List.getElem?_eq_getElem (by omega))
      have hlt := World.block_lt_of_cell? W _ h0c
      rw [block_add] at hlt
      exact ⟨a, cs, D i, Pl i, k, rfl, hlt, hcc, hcl, htr, fun n hn => hw n (weight_all (List.mem_map.2 ⟨i, List.mem_range.2 hi, rfl⟩) hn)⟩

theorem declFields : ∃ f0 f1 f2 f3 f4 : Field, Try.prog.underlying 34 = some (.struct #[f0, f1, f2, f3, f4]) ∧ f0.offset = 0 ∧ f1.offset = 1 ∧ f2.offset = 2 ∧ f3.offset = 3 ∧ f4.offset = 4 ∧
    f0.type = 3 ∧ f1.type = 9 ∧ f2.type = 31 ∧ f3.type = 32 ∧ f4.type = 3 :=
  ⟨_, _, _, _, _, Try.underlying34, rfl, rfl, rfl, rfl, rfl, rfl, rfl, rfl, rfl, rfl⟩
theorem methodFields : ∃ f0 f1 f2 f3 f4 : Field, Try.prog.underlying 76 = some (.struct #[f0, f1, f2, f3, f4]) ∧ f0.offset = 0 ∧ f1.offset = 1 ∧ f2.offset = 2 ∧ f3.offset = 3 ∧ f4.offset = 4 ∧
    f0.type = 3 ∧ f1.type = 9 ∧ f2.type = 9 ∧ f3.type = 9 ∧ f4.type = 4 :=
  ⟨_, _, _, _, _, Try.underlying76, rfl, rfl, rfl, rfl, rfl, rfl, rfl, rfl, rfl, rfl⟩
theorem fieldFields : ∃ f0 f1 f2 : Field, Try.prog.underlying 40 = some (.struct #[f0, f1, f2]) ∧ f0.offset = 0 ∧ f1.offset = 1 ∧ f2.offset = 2 ∧
    f0.type = 3 ∧ f1.type = 9 ∧ f2.type = 38 :=
  ⟨_, _, _, Try.underlying40, rfl, rfl, rfl, rfl, rfl, rfl⟩
theorem typeFields : ∃ f0 f1 f2 : Field, Try.prog.underlying 38 = some (.struct #[f0, f1, f2]) ∧ f0.offset = 0 ∧ f1.offset = 1 ∧ f2.offset = 2 ∧
    f0.type = 3 ∧ f1.type = 9 ∧ f2.type = 36 :=
  ⟨_, _, _, Try.underlying38, rfl, rfl, rfl, rfl, rfl, rfl⟩

theorem reach_str {s : ByteArray} (h : s.data.toList.length ≤ reachBytes) : s.size ≤ 140737488355327 := by
  have he : s.data.toList.length = s.size := Array.length_toList
  have hr : reachBytes = 140737488351232 := rfl
  omega
/-- One method's cells. -/
theorem method_open {n : Nat} {cs : List Value} {y : DataW H × List MemPlace} (h : DataW.trod enc Try.prog W base sp held n 76 cs = some y) (hsz : ∀ n ∈ y.1.weights Try.prog 76, n ≤ reachBytes) :
    ∃ k s1 s2 s3 b, cs = [.int .i64 k, .string s1, .string s2, .string s3, .bool b] ∧ s1.size ≤ 140737488355327 ∧ s2.size ≤ 140737488355327 ∧ s3.size ≤ 140737488355327 := by
  obtain ⟨f0, f1, f2, f3, f4, hu, o0, o1, o2, o3, o4, t0, t1, t2, t3, t4⟩ := methodFields
  obtain ⟨xs, m, _, rfl, hl, hlen, hf⟩ := DataW.trod_struct hu h
  rw [cellsMethod] at hl
  match xs, hlen, cs, hl with
  | [y0, y1, y2, y3, y4], _, [v0, v1, v2, v3, v4], _ =>
    have g0 := hf 0 f0 rfl
    have g1 := hf 1 f1 rfl
    have g2 := hf 2 f2 rfl
    have g3 := hf 3 f3 rfl
    have g4 := hf 4 f4 rfl
    simp [o0, t0, cellsInt] at g0
    simp [o1, t1, cellsStr] at g1
    simp [o2, t2, cellsStr] at g2
    simp [o3, t3, cellsStr] at g3
    simp [o4, t4, cellsBool] at g4
    obtain ⟨k, e0, d0, w0⟩ := DataW.trod_int Try.underlying3 g0
    obtain ⟨s1, e1, d1, w1⟩ := DataW.trod_string Try.underlying9 g1
    obtain ⟨s2, e2, d2, w2⟩ := DataW.trod_string Try.underlying9 g2
    obtain ⟨s3, e3, d3, w3⟩ := DataW.trod_string Try.underlying9 g3
    obtain ⟨b, e4, d4⟩ := DataW.trod_bool Try.underlying4 g4
    simp only [List.cons.injEq, and_true] at e0 e1 e2 e3 e4
    subst e0 e1 e2 e3 e4
    subst d0 d1 d2 d3 d4
    have hz : ∀ n, n = s1.data.toList.length ∨ n = s2.data.toList.length ∨ n = s3.data.toList.length → n ≤ reachBytes := fun n hn => hsz n (by
      simp only [DataW.weights, hu, List.map_cons, List.map_nil, DataW.weightsEach, t0, t1, t2, t3, t4, List.mem_append, List.mem_cons, List.not_mem_nil, or_false, false_or]
      rcases hn with h | h | h
      · exact .inl h
      · exact .inr (.inl h)
      · exact .inr (.inr h))
    exact ⟨k, s1, s2, s3, b, rfl, reach_str (hz _ (.inl rfl)), reach_str (hz _ (.inr (.inl rfl))), reach_str (hz _ (.inr (.inr rfl)))⟩
/-- One field's cells. -/
theorem field_open {n : Nat} {cs : List Value} {y : DataW H × List MemPlace} (h : DataW.trod enc Try.prog W base sp held n 40 cs = some y) :
    ∃ k s1 k2 s2 o l c, cs = [.int .i64 k, .string s1, .int .i64 k2, .string s2, .slice o l c] ∧ (Lit.int .i64 k).wf = true := by
  obtain ⟨f0, f1, f2, hu, o0, o1, o2, t0, t1, t2⟩ := fieldFields
  obtain ⟨g0', g1', g2', hu', o0', o1', o2', t0', t1', t2'⟩ := typeFields
  obtain ⟨xs, m, _, rfl, hl, hlen, hf⟩ := DataW.trod_struct hu h
  rw [cellsField] at hl
  match xs, hlen, cs, hl with
  | [y0, y1, y2], _, [v0, v1, v2, v3, v4], _ =>
    have g0 := hf 0 f0 rfl
    have g1 := hf 1 f1 rfl
    have g2 := hf 2 f2 rfl
    simp [o0, t0, cellsInt] at g0
    simp [o1, t1, cellsStr] at g1
    simp [o2, t2, cellsTy] at g2
    obtain ⟨xs', m', _, rfl, hl', hlen', hf'⟩ := DataW.trod_struct hu' g2
    match xs', hlen' with
    | [z0, z1, z2], _ =>
      have q0 := hf' 0 g0' rfl
      have q1 := hf' 1 g1' rfl
      have q2 := hf' 2 g2' rfl
      simp [o0', t0', cellsInt] at q0
      simp [o1', t1', cellsStr] at q1
      simp [o2', t2', cellsTs] at q2
      obtain ⟨k, e0, d0, w0⟩ := DataW.trod_int Try.underlying3 g0
      obtain ⟨s1, e1, d1, w1⟩ := DataW.trod_string Try.underlying9 g1
      obtain ⟨k2, e2, d2, w2⟩ := DataW.trod_int Try.underlying3 q0
      obtain ⟨s2, e3, d3, w3⟩ := DataW.trod_string Try.underlying9 q1
      obtain ⟨o, l, c, e4⟩ := slice_shape Try.underlying36 q2
      simp only [List.cons.injEq, and_true] at e0 e1 e2 e3
      subst e0 e1 e2 e3 e4
      exact ⟨k, s1, k2, s2, o, l, c, rfl, w0⟩
theorem fields_open {n len cap : Nat} {o : Option Addr} {y : DataW H × List MemPlace} (h : DataW.trod enc Try.prog W base sp held n 31 [.slice o len cap] = some y) (hsz : ∀ n ∈ y.1.weights Try.prog 31, n ≤ reachBytes) : ∃ F, Fx o len F W := by
  obtain ⟨hl, _, he⟩ := elems_open Try.underlying31 cellsField (by decide) h hsz
  obtain ⟨q, hq⟩ := Go.Deep.choose_lt (α := Int × ByteArray × Int × ByteArray × Option Addr × Nat × Nat) (n := len)
    (p := fun i q => ∃ a, o = some a ∧ a.block < W.heap.size ∧ (∀ k v, [Value.int .i64 q.1, .string q.2.1, .int .i64 q.2.2.1, .string q.2.2.2.1, .slice q.2.2.2.2.1 q.2.2.2.2.2.1 q.2.2.2.2.2.2][k]? = some v → W.cell? (a.add (i * 5 + k)) = some v) ∧ -9223372036854775808 ≤ q.1 ∧ q.1 ≤ 9223372036854775807) (fun i hi => by
      obtain ⟨a, cs, d, q, m, ho, hb, hc, _, ht, _⟩ := he i hi
      obtain ⟨k, s1, k2, s2, o', l, c, rfl, hw⟩ := field_open ht
      have := bounds_i64 hw
      exact ⟨(k, s1, k2, s2, o', l, c), a, ho, hb, hc, this.1, this.2⟩)
  exact ⟨⟨fun i => (q i).1, fun i => (q i).2.1, fun i => (q i).2.2.1, fun i => (q i).2.2.2.1, fun i => (q i).2.2.2.2.1, fun i => (q i).2.2.2.2.2.1, fun i => (q i).2.2.2.2.2.2⟩, hq, by unfold maxLen at hl; omega⟩
theorem methods_open {n len cap : Nat} {o : Option Addr} {y : DataW H × List MemPlace} (h : DataW.trod enc Try.prog W base sp held n 32 [.slice o len cap] = some y) (hsz : ∀ n ∈ y.1.weights Try.prog 32, n ≤ reachBytes) : ∃ M, Mx o len M W := by
  obtain ⟨hl, _, he⟩ := elems_open Try.underlying32 cellsMethod (by decide) h hsz
  obtain ⟨q, hq⟩ := Go.Deep.choose_lt (α := Int × ByteArray × ByteArray × ByteArray × Bool) (n := len)
    (p := fun i q => ∃ a, o = some a ∧ a.block < W.heap.size ∧ (∀ k v, [Value.int .i64 q.1, .string q.2.1, .string q.2.2.1, .string q.2.2.2.1, .bool q.2.2.2.2][k]? = some v → W.cell? (a.add (i * 5 + k)) = some v) ∧ q.2.1.size ≤ 140737488355327 ∧ q.2.2.1.size ≤ 140737488355327 ∧ q.2.2.2.1.size ≤ 140737488355327) (fun i hi => by
      obtain ⟨a, cs, d, q, m, ho, hb, hc, _, ht, hz⟩ := he i hi
      obtain ⟨k, s1, s2, s3, b, rfl, z1, z2, z3⟩ := method_open ht hz
      exact ⟨(k, s1, s2, s3, b), a, ho, hb, hc, z1, z2, z3⟩)
  exact ⟨⟨fun i => (q i).1, fun i => (q i).2.1, fun i => (q i).2.2.1, fun i => (q i).2.2.2.1, fun i => (q i).2.2.2.2⟩, hq, by unfold maxLen at hl; omega⟩
/-- One declaration's cells. -/
theorem decl_open {n : Nat} {cs : List Value} {y : DataW H × List MemPlace} (h : DataW.trod enc Try.prog W base sp held n 34 cs = some y) (hsz : ∀ n ∈ y.1.weights Try.prog 34, n ≤ reachBytes) :
    ∃ k s o1 l1 c1 o2 l2 c2 p, cs = [.int .i64 k, .string s, .slice o1 l1 c1, .slice o2 l2 c2, .int .i64 p] ∧ (Lit.int .i64 k).wf = true ∧ s.size ≤ 140737488355327 ∧ (∃ F, Fx o1 l1 F W) ∧ ∃ M, Mx o2 l2 M W := by
  obtain ⟨f0, f1, f2, f3, f4, hu, o0, o1, o2, o3, o4, t0, t1, t2, t3, t4⟩ := declFields
  obtain ⟨xs, m, _, rfl, hl, hlen, hf⟩ := DataW.trod_struct hu h
  rw [cellsDecl] at hl
  match xs, hlen, cs, hl with
  | [y0, y1, y2, y3, y4], _, [v0, v1, v2, v3, v4], _ =>
    have g0 := hf 0 f0 rfl
    have g1 := hf 1 f1 rfl
    have g2 := hf 2 f2 rfl
    have g3 := hf 3 f3 rfl
    have g4 := hf 4 f4 rfl
    simp [o0, t0, cellsInt] at g0
    simp [o1, t1, cellsStr] at g1
    simp [o2, t2, cellsFs] at g2
    simp [o3, t3, cellsMs] at g3
    simp [o4, t4, cellsInt] at g4
    obtain ⟨k, e0, d0, w0⟩ := DataW.trod_int Try.underlying3 g0
    obtain ⟨s, e1, d1, w1⟩ := DataW.trod_string Try.underlying9 g1
    obtain ⟨a1, l1, c1, rfl⟩ := slice_shape Try.underlying31 g2
    obtain ⟨a2, l2, c2, rfl⟩ := slice_shape Try.underlying32 g3
    obtain ⟨p, e4, d4, w4⟩ := DataW.trod_int Try.underlying3 g4
    simp only [List.cons.injEq, and_true] at e0 e1 e4
    subst e0 e1 e4
    subst d0 d1 d4
    have hz : ∀ n, n = s.data.toList.length ∨ n ∈ y2.1.weights Try.prog 31 ∨ n ∈ y3.1.weights Try.prog 32 → n ≤ reachBytes := fun n hn => hsz n (by
      simp only [DataW.weights, hu, List.map_cons, List.map_nil, DataW.weightsEach, t0, t1, t2, t3, t4, List.mem_append, List.mem_cons, List.not_mem_nil, or_false, false_or]
      exact hn)
    exact ⟨k, s, a1, l1, c1, a2, l2, c2, p, rfl, w0, reach_str (hz _ (.inl rfl)), fields_open g2 (fun n hn => hz n (.inr (.inl hn))), methods_open g3 (fun n hn => hz n (.inr (.inr hn)))⟩
end
theorem decls_open {H : Type} {enc : TypeId × Value → H} {W : World} {base : Nat} {v : Value} {d : DataW H} {ps : List MemPlace}
    (hval : Value.okWide Try.prog W .any base 22 v) (h : DataW.Trod enc Try.prog W 0 (fun _ => true) true 22 v d ps) (hsz : ∀ n ∈ d.weights Try.prog 22, n ≤ reachBytes) :
    ∃ o len cap D, v = .slice o len cap ∧ Dx o len D W ∧ ∀ i, i < len → (∃ F, Fx (D.fo i) (D.fl i) F W) ∧ ∃ M, Mx (D.mo i) (D.ml i) M W := by
  obtain ⟨o, len, cap, rfl⟩ := Go.WideShapes.okWide_slice Try.underlying22 hval
  obtain ⟨fuel, hf⟩ := h
  have hf' : DataW.trod enc Try.prog W 0 (fun _ => true) true fuel 22 [.slice o len cap] = some (d, ps) := by simpa [Value.cells] using hf
  obtain ⟨hl, hby, he⟩ := elems_open Try.underlying22 cellsDecl (by decide) hf' hsz
  rw [bytesDecl] at hby
  obtain ⟨q, hq⟩ := Go.Deep.choose_lt (α := Int × ByteArray × Option Addr × Nat × Nat × Option Addr × Nat × Nat × Int) (n := len)
    (p := fun i q => (∃ a, o = some a ∧ a.block < W.heap.size ∧ (∀ k v, [Value.int .i64 q.1, .string q.2.1, .slice q.2.2.1 q.2.2.2.1 q.2.2.2.2.1, .slice q.2.2.2.2.2.1 q.2.2.2.2.2.2.1 q.2.2.2.2.2.2.2.1, .int .i64 q.2.2.2.2.2.2.2.2][k]? = some v → W.cell? (a.add (i * 5 + k)) = some v) ∧ q.2.1.size ≤ 140737488355327 ∧ -9223372036854775808 ≤ q.1 ∧ q.1 ≤ 9223372036854775807) ∧
      (∃ F, Fx q.2.2.1 q.2.2.2.1 F W) ∧ ∃ M, Mx q.2.2.2.2.2.1 q.2.2.2.2.2.2.1 M W) (fun i hi => by
      obtain ⟨a, cs, d, q, m, ho, hb, hc, _, ht, hz⟩ := he i hi
      obtain ⟨k, s, o1, l1, c1, o2, l2, c2, p, rfl, hw, hs, hF, hM⟩ := decl_open ht hz
      have := bounds_i64 hw
      exact ⟨(k, s, o1, l1, c1, o2, l2, c2, p), ⟨a, ho, hb, hc, hs, this.1, this.2⟩, hF, hM⟩)
  have hr : reachBytes = 140737488351232 := rfl
  exact ⟨o, len, cap, ⟨fun i => (q i).1, fun i => (q i).2.1, fun i => (q i).2.2.1, fun i => (q i).2.2.2.1, fun i => (q i).2.2.2.2.1, fun i => (q i).2.2.2.2.2.1, fun i => (q i).2.2.2.2.2.2.1, fun i => (q i).2.2.2.2.2.2.2.1, fun i => (q i).2.2.2.2.2.2.2.2⟩, rfl,
    ⟨fun i hi => (hq i hi).1, by omega⟩, fun i hi => (hq i hi).2⟩
end Go.Proofs.Ythcpepifikpmeaa.Nm
