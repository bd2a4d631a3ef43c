/- Feeds: the reference's Same on lists that are the same, and the law's much. -/
import Derived.Test.YthfogiogjmgodaaFdOwn
import Derived.Deep.QuietTactic
import Derived.BigQuiet
namespace Go.Proofs.Ythfogiogjmgodaa.Fd
open Go.RowKit Fr Cm
set_option linter.unusedVariables false
set_option linter.unusedSimpArgs false

set_option maxRecDepth 100000 in
set_option maxHeartbeats 1000000 in
theorem same_of (B B' : Nat) (v v' : Value) (F : List Fm) (w : World) (h : Rf B v F w) (h' : Rf B' v' F w) :
    Calls Try.prog 11 #[v, v'] w fun e w' => e = .returned (.bool true) ∧ Below w.heap.size w w' := by
  have hB0 := Below.refl w.heap.size w
  by_cases hn : 0 < F.length
  · obtain ⟨o, cap0, _, hm, _⟩ := h.form
    have hm2 : F.length ≤ 9223372036854775807 := by unfold maxLen at hm; omega
    obtain ⟨g, cap, rfl, _, hg, hc⟩ := h.form1 hn
    obtain ⟨g', cap', rfl, _, hg', hc'⟩ := h'.form1 hn
    have HC := Lib.hid hc
    have HC' := Lib.hid hc'
    clear hc hc' hm
    go_enter Try.func11, Try.ntmps11
    go_wp2
    go_loopw [5] (fun i wr => ∃ j, j ≤ F.length ∧ i = .int .i64 (j : Nat) ∧ Hid (Below w.heap.size w wr)) (fun i _ => F.length - (intOf i).toNat)
    case atStart => exact ⟨0, by omega, rfl, hB0⟩
    case round =>
      obtain ⟨j, hj, rfl, HB⟩ := hrel
      clear hB0
      by_cases hjl : j < F.length
      · have hji : (j : Int) < (F.length : Int) := by omega
        obtain ⟨x, hx⟩ : ∃ x, F[j]? = some x := ⟨_, List.getElem?_eq_getElem hjl⟩
        obtain ⟨k0, k1, k2⟩ := fmC_at F j x hx
        have t0 : wr.cell? ⟨g, j * 3, none⟩ = some (.int .i64 (x.1 : Nat)) := by rw [HB.out.cell (p := ⟨g, j * 3, none⟩) hg]; exact HC.out _ _ k0
        have t1 : wr.cell? ⟨g, j * 3 + 1, none⟩ = some (.int .i64 (x.2.1 : Nat)) := by rw [HB.out.cell (p := ⟨g, j * 3 + 1, none⟩) hg]; exact HC.out _ _ k1
        have t2 : wr.cell? ⟨g, j * 3 + 2, none⟩ = some (.string x.2.2) := by rw [HB.out.cell (p := ⟨g, j * 3 + 2, none⟩) hg]; exact HC.out _ _ k2
        have s0 : wr.cell? ⟨g', j * 3, none⟩ = some (.int .i64 (x.1 : Nat)) := by rw [HB.out.cell (p := ⟨g', j * 3, none⟩) hg']; exact HC'.out _ _ k0
        have s1 : wr.cell? ⟨g', j * 3 + 1, none⟩ = some (.int .i64 (x.2.1 : Nat)) := by rw [HB.out.cell (p := ⟨g', j * 3 + 1, none⟩) hg']; exact HC'.out _ _ k1
        have s2 : wr.cell? ⟨g', j * 3 + 2, none⟩ = some (.string x.2.2) := by rw [HB.out.cell (p := ⟨g', j * 3 + 2, none⟩) hg']; exact HC'.out _ _ k2
        clear k0 k1 k2 hx
        obtain ⟨p, q, y⟩ := x
        have hadd : ∀ G, (⟨G, 0, none⟩ : Addr).add (j * 3) = ⟨G, j * 3, none⟩ := fun G => by unfold Addr.add; split <;> simp_all
        have ha := hadd g
        have ha' := hadd g'
        clear hadd
        go_wp2
        go_quiet (fail)
        go_wp2
        exact ⟨⟨j + 1, by omega, by go_num, below_drewN HB.out nq⟩, by simp [intOf]; omega⟩
      · have hji : ¬ (j : Int) < (F.length : Int) := by omega
        go_wp2
        go_ret
        exact ⟨rfl, HB.out⟩
  · obtain ⟨o, cap, rfl, _, _⟩ := h.form
    obtain ⟨o', cap', rfl, _, _⟩ := h'.form
    have h0 : F.length = 0 := by omega
    rw [h0]
    clear h0
    go_enter Try.func11, Try.ntmps11
    go_wp2
    go_loopw [5] (fun i wr => i = .int .i64 0 ∧ wr = w) (fun i _ => 0)
    case atStart => exact ⟨rfl, rfl⟩
    case round =>
      obtain ⟨rfl, rfl⟩ := hrel
      go_wp2
      go_ret
      exact ⟨rfl, hB0⟩
end Go.Proofs.Ythfogiogjmgodaa.Fd
