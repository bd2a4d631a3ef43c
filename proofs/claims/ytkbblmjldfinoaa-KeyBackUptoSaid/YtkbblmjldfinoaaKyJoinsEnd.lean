/- The law KeyJoins' walk; what the form and the bound say of the two slices. -/
import Derived.Test.YtkbblmjldfinoaaKyRJoin
import Derived.Test.YtkbblmjldfinoaaRows
import Derived.Deep.Strs
import Derived.ChangeSlices
import Derived.OpenShut
import Derived.ProofKit
namespace Go.Proofs.Ytkbblmjldfinoaa.Vm
open Go.RowKit
set_option linter.unusedVariables false
set_option linter.unusedSimpArgs false

theorem kjoin_len (o o' : Option Addr) (n m cap cap' : Nat) (w : World) (h : n ≠ m) :
    Calls Try.prog 18 #[.slice o n cap, .slice o' m cap'] w fun x w' => x = .returned (.tuple #[.string ⟨#[]⟩, .int .i64 1]) ∧ Below w.heap.size w w' := by
  have hn : ((n : Int) != (m : Int)) = true := by simpa using (by omega : ¬ (n : Int) = (m : Int))
  have hB0 := Below.refl w.heap.size w
  go_enter Try.func18, Try.ntmps18
  go_wp2
  go_ret2
  exact ⟨rfl, hB0⟩
theorem rjoin_len (o o' : Option Addr) (n m cap cap' : Nat) (w : World) (h : n ≠ m) :
    Calls Try.prog 19 #[.slice o n cap, .slice o' m cap'] w fun x w' => x = .returned (.tuple #[.string ⟨#[]⟩, .int .i64 1]) ∧ Below w.heap.size w w' := by
  have hn : ((n : Int) != (m : Int)) = true := by simpa using (by omega : ¬ (n : Int) = (m : Int))
  have hB0 := Below.refl w.heap.size w
  go_enter Try.func19, Try.ntmps19
  go_wp2
  go_ret2
  exact ⟨rfl, hB0⟩

/-- What is joined, one way or another. -/
theorem joined (K : Nat → Int) (X : Nat → ByteArray) (n : Nat) : ∃ (s : ByteArray) (e : Nat), (okT K n → s = jnB K X n ∧ e = 0) ∧ (¬ okT K n → s = ⟨#[]⟩ ∧ e = 9) := by
  by_cases h : okT K n
  · exact ⟨_, _, fun _ => ⟨rfl, rfl⟩, fun h2 => absurd h h2⟩
  · exact ⟨_, _, fun h2 => absurd h2 h, fun _ => ⟨rfl, rfl⟩⟩

set_option maxRecDepth 100000 in
set_option maxHeartbeats 4000000 in
theorem kjoins_walk (o o' : Option Addr) (n m cap cap' : Nat) (K : Nat → Int) (X : Nat → ByteArray) (w : World) (hz : m ≤ 300 → jnZ X m ≤ 100000000)
    (hk : ∀ i, i < n → ∃ a, o = some a ∧ w.cell? (a.add i) = some (.int .i64 (K i)) ∧ -9223372036854775808 ≤ K i ∧ K i ≤ 9223372036854775807)
    (hx : ∀ i, i < m → ∃ a, o' = some a ∧ w.cell? (a.add i) = some (.string (X i))) :
    Calls Try.prog 5 #[.slice o n cap, .slice o' m cap'] w fun e w' => e = .returned (.bool true) ∧ Below w.heap.size w w' := by
  by_cases hn : 300 < n
  · have hn' : (300 : Int) < (n : Int) := by omega
    go_enter Try.func5, Try.ntmps5
    go_wp2_with (go_at_call 11; refine (awake_any _).mono ?_; rintro e w' ⟨rfl, hb⟩)
    go_ret
    exact ⟨rfl, hb⟩
  · have hn' : ¬ (300 : Int) < (n : Int) := by omega
    by_cases hm : 300 < m
    · have hm' : (300 : Int) < (m : Int) := by omega
      go_enter Try.func5, Try.ntmps5
      go_wp2_with (go_at_call 11; refine (awake_any _).mono ?_; rintro e w' ⟨rfl, hb⟩)
      go_ret
      exact ⟨rfl, hb⟩
    · have hm' : ¬ (300 : Int) < (m : Int) := by omega
      by_cases hnm : n = m
      · subst hnm
        obtain ⟨s, e, hok, hno⟩ := joined K X n
        have HOK := Lib.hid hok
        have HNO := Lib.hid hno
        clear hok hno
        go_enter Try.func5, Try.ntmps5
        go_wp2_with (first
          | (go_at_call 18; refine (kjoin_any o o' n cap cap' K X _ (by omega) (hz (by omega)) hk hx s e HOK.out HNO.out).mono ?_; rintro e w1 ⟨rfl, hb1⟩)
          | (go_at_call 19; refine (rjoin_any o o' n cap cap' K X w1 (by omega) (hz (by omega)) (fun i hi => (hk i hi).imp fun a ha => ⟨ha.1, by rw [hb1.cell (p := a.add i) (World.block_lt_of_cell? w _ ha.2.1)]; exact ha.2.1, ha.2.2⟩) (fun i hi => (hx i hi).imp fun a ha => ⟨ha.1, by rw [hb1.cell (p := a.add i) (World.block_lt_of_cell? w _ ha.2)]; exact ha.2⟩) s e HOK.out HNO.out).mono ?_; rintro e w2 ⟨rfl, hb2⟩)
          | (go_at_call 11; refine (awake_any _).mono ?_; rintro e w3 ⟨rfl, hb3⟩))
        go_ret
        have c2 := hb1.trans (hb2.mono hb1.size)
        exact ⟨rfl, c2.trans (hb3.mono c2.size)⟩
      · go_enter Try.func5, Try.ntmps5
        go_wp2_with (first
          | (go_at_call 18; refine (kjoin_len o o' n m cap cap' _ hnm).mono ?_; rintro e w1 ⟨rfl, hb1⟩)
          | (go_at_call 19; refine (rjoin_len o o' n m cap cap' _ hnm).mono ?_; rintro e w2 ⟨rfl, hb2⟩)
          | (go_at_call 11; refine (awake_any _).mono ?_; rintro e w3 ⟨rfl, hb3⟩))
        go_ret
        have c2 := hb1.trans (hb2.mono hb1.size)
        exact ⟨rfl, c2.trans (hb3.mono c2.size)⟩

theorem ints_open {H : Type} {enc : TypeId × Value → H} {W : World} {base : Nat} {v : Value} {d : DataW H} {ps : List MemPlace}
    (hval : Value.okWide Try.prog W .any base 31 v) (h : DataW.Trod enc Try.prog W 0 (fun _ => true) true 31 v d ps) :
    ∃ o len cap, ∃ K : Nat → Int, v = .slice o len cap ∧ len ≤ maxLen ∧ ∀ i, i < len → ∃ a, o = some a ∧ W.cell? (a.add i) = some (.int .i64 (K i)) ∧ -9223372036854775808 ≤ K i ∧ K i ≤ 9223372036854775807 := by
  obtain ⟨o, len, cap, rfl⟩ := Go.WideShapes.okWide_slice Try.underlying31 hval
  obtain ⟨fuel, hf⟩ := h
  rcases Go.ChangeShapes.open_ints Try.underlying31 Try.underlying3 (by kernel_rfl) hf with ⟨hc, _⟩ | ⟨a, len', cap', zs, hc, _, hlc, hcm, hzl, _, hcell, hwf⟩
  · refine ⟨o, len, cap, fun _ => 0, rfl, ?_, ?_⟩ <;> simp_all [Value.cells]
  · have e : o = some a ∧ len = len' ∧ cap = cap' := by simpa [Value.cells] using hc
    obtain ⟨rfl, rfl, rfl⟩ := e
    have hl : len ≤ zs.length := by rw [hzl]; split <;> omega
    refine ⟨some a, len, cap, fun i => zs.getD i 0, rfl, by omega, fun i hi => ⟨a, rfl, hcell i (by omega), ?_⟩⟩
    have hmem : zs.getD i 0 ∈ zs := by
      rw [List.getD_eq_getElem?_getD, List.getElem?_eq_getElem (by omega)]; exact List.getElem_mem _
    exact bounds_i64 (hwf _ hmem)

theorem bulk_app {H : Type} (l r : List (DataW H)) : Rows.uptoBulkAll (l ++ r) = Rows.uptoBulkAll l + Rows.uptoBulkAll r := by
  induction l with
  | nil => simp [Rows.uptoBulkAll]
  | cons x l ih => simp only [List.cons_append, Rows.uptoBulkAll, ih]; omega
theorem bulk_texts {H : Type} (X : Nat → ByteArray) (n : Nat) : jnZ X n ≤ Rows.uptoBulkAll ((List.range n).map fun i => DataW.lit (H := H) (.string (X i).data.toList)) + 20 * n := by
  induction n with
  | zero => simp [jnZ]
  | succ n ih =>
    have e : (X n).data.toList.length = (X n).size := Array.length_toList
    rw [List.range_succ, List.map_append, bulk_app]
    simp only [List.map_cons, List.map_nil, Rows.uptoBulkAll, Rows.uptoBulk, jnZ, e]
    omega
theorem strs_open {H : Type} {enc : TypeId × Value → H} {W : World} {base : Nat} {v : Value} {d : DataW H} {ps : List MemPlace}
    (hval : Value.okWide Try.prog W .any base 32 v) (h : DataW.Trod enc Try.prog W 0 (fun _ => true) true 32 v d ps) :
    ∃ o len cap, ∃ X : Nat → ByteArray, v = .slice o len cap ∧ len ≤ maxLen ∧ (∀ i, i < len → ∃ a, o = some a ∧ W.cell? (a.add i) = some (.string (X i))) ∧ jnZ X len ≤ Rows.uptoBulk d + 20 * len := by
  obtain ⟨o, len, cap, rfl⟩ := Go.WideShapes.okWide_slice Try.underlying32 hval
  obtain ⟨fuel, hf⟩ := h
  rcases Go.Deep.open_strs Try.underlying32 Try.underlying9 (by kernel_rfl) hf with ⟨hc, _⟩ | ⟨a, len', cap', m, X, hc, _, hlc, hcm, hm, hd, hcell⟩
  · have e : o = none ∧ len = 0 ∧ cap = 0 := by simpa [Value.cells] using hc
    obtain ⟨rfl, rfl, rfl⟩ := e
    exact ⟨none, 0, 0, fun _ => ⟨#[]⟩, rfl, Nat.zero_le _, fun i hi => by omega, by simp [jnZ]⟩
  · have e : o = some a ∧ len = len' ∧ cap = cap' := by simpa [Value.cells] using hc
    obtain ⟨rfl, rfl, rfl⟩ := e
    have hl : len ≤ m := by rw [hm]; split <;> omega
    refine ⟨some a, len, cap, X, rfl, by omega, fun i hi => ⟨a, rfl, (hcell i (by omega)).1⟩, ?_⟩
    have hb := bulk_texts (H := H) X len
    simp only [Prod.mk.injEq] at hd
    rw [hd.1]
    simp only [Rows.uptoBulk]
    omega
/-- The law, of the form's two slices. -/
theorem kjoins_end {H : Type} {enc : TypeId × Value → H} {W : World} {base : Nat} {v0 v1 : Value} {d0 d1 : DataW H} {p0 p1 : List MemPlace}
    (w0 : Value.okWide Try.prog W .any base 31 v0) (h0 : DataW.Trod enc Try.prog W 0 (fun _ => true) true 31 v0 d0 p0)
    (w1 : Value.okWide Try.prog W .any base 32 v1) (h1 : DataW.Trod enc Try.prog W 0 (fun _ => true) true 32 v1 d1 p1) (hk : Rows.uptoSmall H [d0, d1] = true) :
    Calls Try.prog 5 #[v0, v1] W fun e w' => e = .returned (.bool true) ∧ Below W.heap.size W w' := by
  have hb : Rows.uptoBulkAll [d0, d1] ≤ 1048576 := of_decide_eq_true hk
  simp only [Rows.uptoBulkAll] at hb
  obtain ⟨o, n, cap, K, rfl, _, hK⟩ := ints_open w0 h0
  obtain ⟨o', m, cap', X, rfl, _, hX, hz⟩ := strs_open w1 h1
  exact kjoins_walk o o' n m cap cap' K X W (fun hm => by omega) hK hX
end Go.Proofs.Ytkbblmjldfinoaa.Vm
