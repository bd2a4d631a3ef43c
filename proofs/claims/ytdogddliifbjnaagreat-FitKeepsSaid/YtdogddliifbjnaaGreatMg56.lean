/- Values: the contract of the reference's Same. -/
import Derived.Test.YtdogddliifbjnaaGreatMg04
import Derived.Test.YtdogddliifbjnaaGreatMg33
namespace Go.Proofs.YtdogddliifbjnaaGreat.Va
open Go.RowKit Cm
set_option linter.unusedVariables false
set_option linter.unusedSimpArgs false

theorem sas_iff : ∀ (l m : List Va), sasV l m = true ↔ l.length = m.length ∧ ∀ (i : Nat) (v u : Va), l[i]? = some v → m[i]? = some u → saV v u = true
  | [], [] => ⟨fun _ => ⟨rfl, fun i v u h => by simp at h⟩, fun _ => by unfold sasV; rfl⟩
  | [], y :: m => ⟨(fun h => by unfold sasV at h; cases h), (fun h => by simp at h)⟩
  | x :: l, [] => ⟨(fun h => by unfold sasV at h; cases h), (fun h => by simp at h)⟩
  | x :: l, y :: m => by
    have ih := sas_iff l m
    have e : sasV (x :: l) (y :: m) = (saV x y && sasV l m) := by conv => lhs; unfold sasV
    rw [e, Bool.and_eq_true, ih]
    refine ⟨fun ⟨h1, h2, h3⟩ => ⟨by simp [h2], fun i v u hv hu => ?_⟩, fun ⟨h1, h2⟩ => ⟨h2 0 x y rfl rfl, by simpa using h1, fun i v u hv hu => h2 (i + 1) v u (by simpa using hv) (by simpa using hu)⟩⟩
    cases i with
    | zero =>
      obtain rfl : x = v := by simpa using hv
      obtain rfl : y = u := by simpa using hu
      exact h1
    | succ i => exact h3 i v u (by simpa using hv) (by simpa using hu)
theorem sas_false {l m : List Va} {i : Nat} {v u : Va} (hv : l[i]? = some v) (hu : m[i]? = some u) (h : saV v u = false) : sasV l m = false := by
  cases hb : sasV l m with
  | false => rfl
  | true => rw [((sas_iff l m).1 hb).2 i v u hv hu] at h; cases h
theorem two_new (w : World) (vs us : List Value) (T : TypeId) :
    Cs w.heap.size vs ((w.alloc (.cells vs.toArray T)).alloc (.cells us.toArray T)) ∧ Cs (w.heap.size + 1) us ((w.alloc (.cells vs.toArray T)).alloc (.cells us.toArray T)) ∧ Below w.heap.size w ((w.alloc (.cells vs.toArray T)).alloc (.cells us.toArray T)) := by
  have h1 := Cs.new (w.alloc (.cells vs.toArray T)) us T
  rw [show (w.alloc (.cells vs.toArray T)).heap.size = w.heap.size + 1 by simp] at h1
  exact ⟨(Cs.new w vs T).alloc _, h1, ((Below.refl w.heap.size w).alloc (Nat.le_refl _) _).alloc (by simp) _⟩

end Go.Proofs.YtdogddliifbjnaaGreat.Va
