/- Dice: the laws with what the form says of steps and of numbers that came in. -/
import Derived.Test.YtieoigfhjpeoeaaDcSteps
import Derived.Test.YtieoigfhjpeoeaaDcOrder
import Derived.Test.YtieoigfhjpeoeaaCmO
import Derived.WideShapes
namespace Go.Proofs.Ytieoigfhjpeoeaa.Dc
open Go.RowKit Cm
set_option linter.unusedVariables false
set_option linter.unusedSimpArgs false

theorem cellsBool : Try.prog.cellsOf 4 = 1 := by kernel_rfl
theorem cellsU64 : Try.prog.cellsOf 27 = 1 := by kernel_rfl
theorem cellsStep : Try.prog.cellsOf 29 = 2 := by kernel_rfl
theorem bytesU64 : Try.prog.bytesOf 27 = 8 := by kernel_rfl
theorem bytesStep : Try.prog.bytesOf 29 = 16 := by kernel_rfl
theorem stepFields : ∃ f0 f1 : Field, Try.prog.underlying 29 = some (.struct #[f0, f1]) ∧ f0.offset = 0 ∧ f1.offset = 1 ∧ f0.type = 4 ∧ f1.type = 27 :=
  ⟨_, _, Try.underlying29, rfl, rfl, rfl, rfl⟩
theorem bounds_u64 {n : Int} (h : (Lit.int .u64 n).wf = true) : 0 ≤ n ∧ n ≤ 18446744073709551615 := by
  simp [Lit.wf, IntKind.min, IntKind.max, IntKind.bits, IntKind.signed] at h
  omega
section
variable {H : Type} {enc : TypeId × Value → H} {W : World} {sp : Nat → Bool} {held : Bool} {base : Nat}
set_option maxRecDepth 100000 in
theorem step_open {n : Nat} {cs : List Value} {y : DataW H × List MemPlace} (h : DataW.trod enc Try.prog W base sp held n 29 cs = some y) :
    ∃ (b : Bool) (m : Nat), cs = [.bool b, .int .u64 (m : Int)] ∧ m < 18446744073709551616 := by
  obtain ⟨f0, f1, hu, o0, o1, t0, t1⟩ := stepFields
  obtain ⟨xs, m, _, rfl, hl, hlen, hf⟩ := DataW.trod_struct hu h
  rw [cellsStep] at hl
  match xs, hlen, cs, hl with
  | [y0, y1], _, [v0, v1], _ =>
    have g0 := hf 0 f0 rfl
    have g1 := hf 1 f1 rfl
    simp [o0, t0, cellsBool] at g0
    simp [o1, t1, cellsU64] at g1
    obtain ⟨b, e0, d0⟩ := DataW.trod_bool Try.underlying4 g0
    obtain ⟨k, e1, d1, w1⟩ := DataW.trod_int Try.underlying27 g1
    simp only [List.cons.injEq, and_true] at e0 e1
    subst e0 e1
    have hb := bounds_u64 w1
    exact ⟨b, k.toNat, by rw [show ((k.toNat : Nat) : Int) = k by omega], by omega⟩
end
set_option maxRecDepth 100000 in
theorem steps_end {Dd : Nat → List Nat → World → Prop} (hA : Api Dd) {H : Type} {enc : TypeId × Value → H} {W : World} {base : Nat} {v : Value} {d : DataW H} {ps : List MemPlace}
    (hval : Value.okWide Try.prog W .any base 22 v) (h : DataW.Trod enc Try.prog W 0 (fun _ => true) true 22 v d ps) (hsz : ∀ n ∈ d.weights Try.prog 22, n ≤ reachBytes) :
    Calls Try.prog 3 #[v] W fun e w' => e = .returned (.bool true) ∧ Below W.heap.size W w' := by
  obtain ⟨o, len, cap, rfl⟩ := Go.WideShapes.okWide_slice Try.underlying22 hval
  obtain ⟨fuel, hf⟩ := h
  have hf' : DataW.trod enc Try.prog W 0 (fun _ => true) true fuel 22 [.slice o len cap] = some (d, ps) := by simpa [Value.cells] using hf
  obtain ⟨hl, hby, he⟩ := elems_small Try.underlying22 cellsStep (by decide) hf' hsz
  rw [bytesStep] at hby
  have hr : reachBytes = 140737488351232 := rfl
  obtain ⟨q, hq⟩ := Go.Deep.choose_lt (α := Bool × Nat) (n := len) (p := fun i q => q.2 < 18446744073709551616 ∧ ∃ a Ab Ao As, o = some a ∧ a.add (i * 2) = ⟨Ab, Ao, As⟩ ∧ Ab < W.heap.size ∧ W.cell? ⟨Ab, Ao, As⟩ = some (.bool q.1) ∧ W.cell? ⟨Ab, Ao + 1, none⟩ = some (.int .u64 (q.2 : Int))) (fun i hi => by
    obtain ⟨a, cs, d, q, m, ho, hb, hc, _, ht, _⟩ := he i hi
    obtain ⟨b, n, rfl, hn⟩ := step_open ht
    obtain ⟨⟨Ab, Ao, As⟩, hA⟩ : ∃ A, a.add (i * 2) = A := ⟨_, rfl⟩
    have c0 := hc 0 _ rfl
    have c1 := hc 1 _ rfl
    rw [Nat.add_zero, hA] at c0
    rw [show a.add (i * 2 + 1) = ⟨Ab, Ao + 1, none⟩ by rw [← Addr.add_add, hA]; simp [Addr.add]] at c1
    exact ⟨(b, n), hn, a, Ab, Ao, As, ho, hA, World.block_lt_of_cell? W _ c0, c0, c1⟩)
  exact steps_walk hA o len cap (fun i => (q i).1) (fun i => (q i).2) W hq (by omega)
set_option maxRecDepth 100000 in
theorem order_end {Dd : Nat → List Nat → World → Prop} (hA : Api Dd) (Z : Array Value) (hz : ∀ w : World, Dd w.heap.size [] (w.alloc (.cells Z 39))) (hzv : ∀ w : World, (zeroValue 39).run Try.prog w = .ok (.agg Z) w)
    {H : Type} {enc : TypeId × Value → H} {W : World} {base : Nat} {v : Value} {d : DataW H} {ps : List MemPlace}
    (hval : Value.okWide Try.prog W .any base 26 v) (h : DataW.Trod enc Try.prog W 0 (fun _ => true) true 26 v d ps) (hsz : ∀ n ∈ d.weights Try.prog 26, n ≤ reachBytes) :
    Calls Try.prog 5 #[v] W fun e w' => e = .returned (.bool true) ∧ Below W.heap.size W w' := by
  obtain ⟨o, len, cap, rfl⟩ := Go.WideShapes.okWide_slice Try.underlying26 hval
  obtain ⟨fuel, hf⟩ := h
  have hf' : DataW.trod enc Try.prog W 0 (fun _ => true) true fuel 26 [.slice o len cap] = some (d, ps) := by simpa [Value.cells] using hf
  obtain ⟨hl, hby, he⟩ := elems_small Try.underlying26 cellsU64 (by decide) hf' hsz
  rw [bytesU64] at hby
  have hr : reachBytes = 140737488351232 := rfl
  obtain ⟨q, hq⟩ := Go.Deep.choose_lt (α := Nat) (n := len) (p := fun i m => m < 18446744073709551616 ∧ ∃ a, o = some a ∧ a.block < W.heap.size ∧ W.cell? (a.add i) = some (.int .u64 (m : Int))) (fun i hi => by
    obtain ⟨a, cs, d, q, m, ho, hb, hc, _, ht, _⟩ := he i hi
    obtain ⟨k, e0, d0, w0⟩ := DataW.trod_int Try.underlying27 ht
    subst e0
    have c0 := hc 0 _ rfl
    rw [Nat.mul_one, Nat.add_zero] at c0
    have hb2 := bounds_u64 w0
    exact ⟨k.toNat, by omega, a, ho, hb, by rw [show ((k.toNat : Nat) : Int) = k by omega]; exact c0⟩)
  exact order_walk hA Z hz hzv o len cap q W hq (by omega)
set_option maxRecDepth 100000 in
theorem mixes_end {Dd : Nat → List Nat → World → Prop} (hA : Api Dd) (a b : Int) (w : World) (ha : (Lit.int .u64 a).wf = true) (hb : (Lit.int .u64 b).wf = true) :
    Calls Try.prog 4 #[.int .u64 a, .int .u64 b] w fun e w' => e = .returned (.bool true) ∧ Below w.heap.size w w' := by
  have h1 := bounds_u64 ha
  have h2 := bounds_u64 hb
  have h := mixes_walk hA a.toNat b.toNat w (by omega) (by omega)
  rw [show ((a.toNat : Nat) : Int) = a by omega, show ((b.toNat : Nat) : Int) = b by omega] at h
  exact h
end Go.Proofs.Ytieoigfhjpeoeaa.Dc
