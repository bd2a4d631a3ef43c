/- Hellos: the laws with what the form says of what came in. -/
import Derived.Test.YtldjefnijkefcaaHeBack
import Derived.Test.YtldjefnijkefcaaHeVerifies
import Derived.Test.YtldjefnijkefcaaCmO
import Derived.WideShapes
namespace Go.Proofs.Ytldjefnijkefcaa.He
open Go.RowKit Cm Dc
set_option linter.unusedVariables false
set_option linter.unusedSimpArgs false

theorem cellsU64 : Try.prog.cellsOf 22 = 1 := by kernel_rfl
theorem bytesU64 : Try.prog.bytesOf 22 = 8 := by kernel_rfl
theorem bounds_i64 {n : Int} (h : (Lit.int .i64 n).wf = true) : I64 n := by
  simp [Lit.wf, IntKind.min, IntKind.max, IntKind.bits, IntKind.signed] at h
  show -9223372036854775808 ≤ n ∧ n ≤ 9223372036854775807
  omega
theorem bounds_u64 {n : Int} (h : (Lit.int .u64 n).wf = true) : 0 ≤ n ∧ n ≤ 18446744073709551615 := by
  simp [Lit.wf, IntKind.min, IntKind.max, IntKind.bits, IntKind.signed] at h
  omega
section
variable {Dd : Nat → List Nat → World → Prop} {Mt : Nat → (Nat → Nat) → (Nat → Nat) → World → Prop}
set_option maxRecDepth 100000 in
theorem takes_end (hA : Api Mt) (o e t : Int) (b : ByteArray) (w : World) (ho : (Lit.int .i64 o).wf = true) (he : (Lit.int .i64 e).wf = true) (ht : (Lit.int .u64 t).wf = true) (hb : b.size ≤ 140737488355327) :
    Calls Try.prog 3 #[.agg #[.int .i64 o, .int .i64 e, .int .u64 t], .string b] w fun x w' => x = .returned (.bool true) ∧ Below w.heap.size w w' := by
  have h1 := bounds_u64 ht
  have h := takes_walk hA o e t.toNat b w (bounds_i64 ho) (bounds_i64 he) (by omega) hb
  unfold agH at h
  rw [show ((t.toNat : Nat) : Int) = t by omega] at h
  exact h
set_option maxRecDepth 100000 in
theorem back_end (hA : Api Mt) (o e t : Int) (b : ByteArray) (w : World) (ho : (Lit.int .i64 o).wf = true) (he : (Lit.int .i64 e).wf = true) (ht : (Lit.int .u64 t).wf = true) (hb : b.size ≤ 140737488355327) :
    Calls Try.prog 5 #[.agg #[.int .i64 o, .int .i64 e, .int .u64 t], .string b] w fun x w' => x = .returned (.bool true) ∧ Below w.heap.size w w' := by
  have h1 := bounds_u64 ht
  have h := back_walk hA o e t.toNat b w (bounds_i64 ho) (bounds_i64 he) (by omega) hb
  unfold agH at h
  rw [show ((t.toNat : Nat) : Int) = t by omega] at h
  exact h
set_option maxRecDepth 100000 in
theorem verifies_end (hD : Dc.Api Dd) (hM : Mc.Api Dd Mt) (hA : Api Mt) {H : Type} {enc : TypeId × Value → H} {W : World} {base : Nat} {v : Value} {d : DataW H} {ps : List MemPlace} {b : ByteArray}
    (hval : Value.okWide Try.prog W .any base 36 v) (h : DataW.Trod enc Try.prog W 0 (fun _ => true) true 36 v d ps) (hsz : ∀ n ∈ d.weights Try.prog 36, n ≤ reachBytes) (hb : b.size ≤ 140737488355327) :
    Calls Try.prog 4 #[v, .string b] W fun e w' => e = .returned (.bool true) ∧ Below W.heap.size W w' := by
  obtain ⟨o, len, cap, rfl⟩ := Go.WideShapes.okWide_slice Try.underlying36 hval
  obtain ⟨fuel, hf⟩ := h
  have hf' : DataW.trod enc Try.prog W 0 (fun _ => true) true fuel 36 [.slice o len cap] = some (d, ps) := by simpa [Value.cells] using hf
  obtain ⟨hl, hby, he⟩ := elems_small Try.underlying36 cellsU64 (by decide) hf' hsz
  rw [bytesU64] at hby
  have hr : reachBytes = 140737488351232 := rfl
  obtain ⟨q, hq⟩ := Go.Deep.choose_lt (α := Nat) (n := len) (p := fun i m => m < 18446744073709551616 ∧ ∃ a, o = some a ∧ a.block < W.heap.size ∧ W.cell? (a.add i) = some (.int .u64 (m : Int))) (fun i hi => by
    obtain ⟨a, cs, d, q, m, ho, hb, hc, _, ht, _⟩ := he i hi
    obtain ⟨k, e0, d0, w0⟩ := DataW.trod_int Try.underlying22 ht
    subst e0
    have c0 := hc 0 _ rfl
    rw [Nat.mul_one, Nat.add_zero] at c0
    have hb2 := bounds_u64 w0
    exact ⟨k.toNat, by omega, a, ho, hb, by rw [show ((k.toNat : Nat) : Int) = k by omega]; exact c0⟩)
  exact verifies_walk hD hM hA o len cap q b W hq (by omega) hb
end
end Go.Proofs.Ytldjefnijkefcaa.He
