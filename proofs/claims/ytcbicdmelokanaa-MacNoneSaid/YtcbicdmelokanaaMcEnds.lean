/- Tags that were issued: the laws with what the form says of what came in. -/
import Derived.Test.YtcbicdmelokanaaMcSteps
import Derived.Test.YtcbicdmelokanaaMcFresh
import Derived.Test.YtcbicdmelokanaaMcNone
import Derived.Test.YtcbicdmelokanaaCmO
import Derived.WideShapes
namespace Go.Proofs.Ytcbicdmelokanaa.Mc
open Go.RowKit Cm Dc
set_option linter.unusedVariables false
set_option linter.unusedSimpArgs false

theorem cellsI64 : Try.prog.cellsOf 3 = 1 := by kernel_rfl
theorem cellsU64 : Try.prog.cellsOf 29 = 1 := by kernel_rfl
theorem cellsU8 : Try.prog.cellsOf 5 = 1 := by kernel_rfl
theorem cellsBool : Try.prog.cellsOf 4 = 1 := by kernel_rfl
theorem cellsStep : Try.prog.cellsOf 31 = 4 := by kernel_rfl
theorem bytesStep : Try.prog.bytesOf 31 = 32 := by kernel_rfl
theorem stepFields : ∃ f0 f1 f2 f3 : Field, Try.prog.underlying 31 = some (.struct #[f0, f1, f2, f3]) ∧ (f0.offset = 0 ∧ f1.offset = 1 ∧ f2.offset = 2 ∧ f3.offset = 3) ∧ f0.type = 3 ∧ f1.type = 3 ∧ f2.type = 29 ∧ f3.type = 4 :=
  ⟨_, _, _, _, Try.underlying31, ⟨rfl, rfl, rfl, rfl⟩, rfl, rfl, rfl, rfl⟩
theorem bounds_i64 {n : Int} (h : (Lit.int .i64 n).wf = true) : I64 n := by
  simp [Lit.wf, IntKind.min, IntKind.max, IntKind.bits, IntKind.signed] at h
  show -9223372036854775808 ≤ n ∧ n ≤ 9223372036854775807
  omega
theorem bounds_u64 {n : Int} (h : (Lit.int .u64 n).wf = true) : 0 ≤ n ∧ n ≤ 18446744073709551615 := by
  simp [Lit.wf, IntKind.min, IntKind.max, IntKind.bits, IntKind.signed] at h
  omega
theorem bounds_u8 {n : Int} (h : (Lit.int .u8 n).wf = true) : 0 ≤ n ∧ n ≤ 255 := by
  simp [Lit.wf, IntKind.min, IntKind.max, IntKind.bits, IntKind.signed] at h
  omega
section
variable {H : Type} {enc : TypeId × Value → H} {W : World} {sp : Nat → Bool} {held : Bool} {base : Nat}
set_option maxRecDepth 100000 in
theorem step_open {n : Nat} {cs : List Value} {y : DataW H × List MemPlace} (h : DataW.trod enc Try.prog W base sp held n 31 cs = some y) :
    ∃ (k u : Int) (m : Nat) (b : Bool), cs = [.int .i64 k, .int .i64 u, .int .u64 (m : Int), .bool b] ∧ I64 u ∧ m < 18446744073709551616 := by
  obtain ⟨f0, f1, f2, f3, hu, ⟨o0, o1, o2, o3⟩, t0, t1, t2, t3⟩ := stepFields
  obtain ⟨xs, m, _, rfl, hl, hlen, hf⟩ := DataW.trod_struct hu h
  rw [cellsStep] at hl
  match xs, hlen, cs, hl with
  | [y0, y1, y2, y3], _, [v0, v1, v2, v3], _ =>
    have g0 := hf 0 f0 rfl
    have g1 := hf 1 f1 rfl
    have g2 := hf 2 f2 rfl
    have g3 := hf 3 f3 rfl
    simp [o0, t0, cellsI64] at g0
    simp [o1, t1, cellsI64] at g1
    simp [o2, t2, cellsU64] at g2
    simp [o3, t3, cellsBool] at g3
    obtain ⟨k, e0, d0, w0⟩ := DataW.trod_int Try.underlying3 g0
    obtain ⟨u, e1, d1, w1⟩ := DataW.trod_int Try.underlying3 g1
    obtain ⟨m', e2, d2, w2⟩ := DataW.trod_int Try.underlying29 g2
    obtain ⟨b, e3, d3⟩ := DataW.trod_bool Try.underlying4 g3
    simp only [List.cons.injEq, and_true] at e0 e1 e2 e3
    subst e0 e1 e2 e3
    have hb := bounds_u64 w2
    exact ⟨k, u, m'.toNat, b, by rw [show ((m'.toNat : Nat) : Int) = m' by omega], bounds_i64 w1, by omega⟩
end
section
variable {Dd : Nat → List Nat → World → Prop} {Mt : Nat → (Nat → Nat) → (Nat → Nat) → World → Prop} {H : Type} {enc : TypeId × Value → H} {W : World} {base : Nat}
set_option maxRecDepth 100000 in
theorem steps_end (hD : Dc.Api Dd) (hA : Api Dd Mt) {v : Value} {d : DataW H} {ps : List MemPlace}
    (hval : Value.okWide Try.prog W .any base 22 v) (h : DataW.Trod enc Try.prog W 0 (fun _ => true) true 22 v d ps) (hsz : ∀ n ∈ d.weights Try.prog 22, n ≤ reachBytes) :
    Calls Try.prog 3 #[v] W fun e w' => e = .returned (.bool true) ∧ Below W.heap.size W w' := by
  obtain ⟨o, len, cap, rfl⟩ := Go.WideShapes.okWide_slice Try.underlying22 hval
  obtain ⟨fuel, hf⟩ := h
  have hf' : DataW.trod enc Try.prog W 0 (fun _ => true) true fuel 22 [.slice o len cap] = some (d, ps) := by simpa [Value.cells] using hf
  obtain ⟨hl, hby, he⟩ := elems_small Try.underlying22 cellsStep (by decide) hf' hsz
  rw [bytesStep] at hby
  have hr : reachBytes = 140737488351232 := rfl
  obtain ⟨q, hq⟩ := Go.Deep.choose_lt (α := Int × Int × Nat × Bool) (n := len) (p := fun i q => I64 q.2.1 ∧ q.2.2.1 < 18446744073709551616 ∧ ∃ a Ab Ao As, o = some a ∧ a.add (i * 4) = ⟨Ab, Ao, As⟩ ∧ Ab < W.heap.size ∧ W.cell? ⟨Ab, Ao, As⟩ = some (.int .i64 q.1) ∧ W.cell? ⟨Ab, Ao + 1, none⟩ = some (.int .i64 q.2.1) ∧ W.cell? ⟨Ab, Ao + 2, none⟩ = some (.int .u64 (q.2.2.1 : Int)) ∧ W.cell? ⟨Ab, Ao + 3, none⟩ = some (.bool q.2.2.2)) (fun i hi => by
    obtain ⟨a, cs, d, q, m, ho, hb, hc, _, ht, _⟩ := he i hi
    obtain ⟨k, u, n, b, rfl, hu, hn⟩ := step_open ht
    obtain ⟨⟨Ab, Ao, As⟩, hA⟩ : ∃ A, a.add (i * 4) = A := ⟨_, rfl⟩
    have c0 := hc 0 _ rfl
    have c1 := hc 1 _ rfl
    have c2 := hc 2 _ rfl
    have c3 := hc 3 _ rfl
    rw [Nat.add_zero, hA] at c0
    rw [show a.add (i * 4 + 1) = ⟨Ab, Ao + 1, none⟩ by rw [← Addr.add_add, hA]; simp [Addr.add]] at c1
    rw [show a.add (i * 4 + 2) = ⟨Ab, Ao + 2, none⟩ by rw [← Addr.add_add, hA]; simp [Addr.add]] at c2
    rw [show a.add (i * 4 + 3) = ⟨Ab, Ao + 3, none⟩ by rw [← Addr.add_add, hA]; simp [Addr.add]] at c3
    exact ⟨(k, u, n, b), hu, hn, a, Ab, Ao, As, ho, hA, World.block_lt_of_cell? W _ c0, c0, c1, c2, c3⟩)
  exact steps_walk hD hA o len cap (fun i => (q i).1) (fun i => (q i).2.1) (fun i => (q i).2.2.1) (fun i => (q i).2.2.2) W hq (by omega)
set_option maxRecDepth 100000 in
theorem none_end (hD : Dc.Api Dd) (hA : Api Dd Mt) (o p t : Int) (w : World) (ho : (Lit.int .i64 o).wf = true) (hp : (Lit.int .i64 p).wf = true) (ht : (Lit.int .u64 t).wf = true) :
    Calls Try.prog 5 #[.int .i64 o, .int .i64 p, .int .u64 t] w fun e w' => e = .returned (.bool true) ∧ Below w.heap.size w w' := by
  have h1 := bounds_u64 ht
  have h := none_walk hD hA o p t.toNat w (bounds_i64 ho) (bounds_i64 hp) (by omega)
  rw [show ((t.toNat : Nat) : Int) = t by omega] at h
  exact h
set_option maxRecDepth 100000 in
/-- An array of two bytes that came in. -/
theorem two_open {v : Value} {d : DataW H} {ps : List MemPlace} (hval : Value.okWide Try.prog W .any base 49 v) (h : DataW.Trod enc Try.prog W 0 (fun _ => true) true 49 v d ps) : ∃ x y : Nat, v = .agg #[.int .u8 (x : Int), .int .u8 (y : Int)] ∧ x < 256 ∧ y < 256 := by
  have ht := Try.underlying49
  obtain ⟨cs, rfl⟩ : ∃ cs, v = .agg cs := by
    simp only [Value.okWide, ht] at hval
    obtain ⟨cs, rfl, _⟩ := hval
    exact ⟨cs, rfl⟩
  obtain ⟨fuel, hf⟩ := h
  have hf' : DataW.trod enc Try.prog W 0 (fun _ => true) true fuel 49 cs.toList = some (d, ps) := by simpa [Value.cells] using hf
  obtain ⟨xs, m, _, _, hl, hlen, hx⟩ := DataW.trod_array ht hf'
  have h2 : Try.prog.cellsOf 49 = 2 := by kernel_rfl
  rw [h2] at hl
  match hcs : cs.toList, xs, hl, hlen with
  | [c0, c1], [y0, y1], _, _ =>
    have g0 := hx 0 (by omega)
    have g1 := hx 1 (by omega)
    rw [hcs] at g0 g1
    simp [cellsU8] at g0 g1
    obtain ⟨x, e0, _, w0⟩ := DataW.trod_int Try.underlying5 g0
    obtain ⟨y, e1, _, w1⟩ := DataW.trod_int Try.underlying5 g1
    simp only [List.cons.injEq, and_true] at e0 e1
    subst e0 e1
    have b0 := bounds_u8 w0
    have b1 := bounds_u8 w1
    refine ⟨x.toNat, y.toNat, ?_, by omega, by omega⟩
    rw [show ((x.toNat : Nat) : Int) = x by omega, show ((y.toNat : Nat) : Int) = y by omega]
    congr 1
    exact Array.toList_inj.1 hcs
set_option maxRecDepth 100000 in
theorem fresh_end (hD : Dc.Api Dd) (hA : Api Dd Mt) (Z : Array Value) (hz : ∀ w : World, Mt w.heap.size (fun _ => 0) (fun _ => 0) (w.alloc (.cells Z 54)))
    (hzv : ∀ w : World, (zeroValue 54).run Try.prog w = .ok (.agg Z) w)
    {a b : Int} {v : Value} {d : DataW H} {ps : List MemPlace} (ha : (Lit.int .u64 a).wf = true) (hb : (Lit.int .u64 b).wf = true)
    (hval : Value.okWide Try.prog W .any base 49 v) (h : DataW.Trod enc Try.prog W 0 (fun _ => true) true 49 v d ps) :
    Calls Try.prog 4 #[.int .u64 a, .int .u64 b, v] W fun e w' => e = .returned (.bool true) ∧ Below W.heap.size W w' := by
  obtain ⟨x, y, rfl, hx, hy⟩ := two_open hval h
  have h1 := bounds_u64 ha
  have h2 := bounds_u64 hb
  have h3 := fresh_walk hD hA Z hz hzv a.toNat b.toNat x y W (by omega) (by omega) hx hy
  rw [show ((a.toNat : Nat) : Int) = a by omega, show ((b.toNat : Nat) : Int) = b by omega] at h3
  exact h3
end
end Go.Proofs.Ytcbicdmelokanaa.Mc
