/- The law KeyBack's walk. -/
import Derived.Test.YtkbblmjldfinoaaKyBackEnd
namespace Go.Proofs.Ytkbblmjldfinoaa.Vm
open Go.RowKit
set_option linter.unusedVariables false
set_option linter.unusedSimpArgs false

set_option maxRecDepth 100000 in
set_option maxHeartbeats 4000000 in
theorem kback_good (o o' : Option Addr) (n cap cap' : Nat) (K : Nat → Int) (X : Nat → ByteArray) (w : World) (hn : n ≤ 300) (hz : jnZ X n ≤ 100000000) (ho : okT K n)
    (hk : ∀ i, i < n → ∃ a, o = some a ∧ w.cell? (a.add i) = some (.int .i64 (K i)) ∧ -9223372036854775808 ≤ K i ∧ K i ≤ 9223372036854775807)
    (hx : ∀ i, i < n → ∃ a, o' = some a ∧ w.cell? (a.add i) = some (.string (X i))) :
    Calls Try.prog 6 #[.slice o n cap, .slice o' n cap'] w fun e w' => e = .returned (.bool true) ∧ Below w.heap.size w w' := by
  have hn' : ¬ (300 : Int) < (n : Int) := by omega
  have hsz := jnB_size K X n ho hz
  have HR := Lib.hid (spS_joined K X n ho hz)
  have HO := Lib.hid ho
  clear ho
  go_enter Try.func6, Try.ntmps6
  go_wp2_with (first
    | (go_at_call 18; refine (kjoin_any o o' n cap cap' K X _ hn hz hk hx (jnB K X n) 0 (fun _ => ⟨rfl, rfl⟩) (fun h => absurd HO.out h)).mono ?_; rintro e w1 ⟨rfl, hb1⟩)
    | (go_at_call 14; refine (ksplit_any (jnB K X n) w1 (by omega) _ _ _ HR.out).mono ?_; rintro e w2 ⟨vT, vL, rfl, hT2, hL2, hb2⟩; obtain ⟨oT, cT, eT, hmT, fT⟩ := hT2.form; obtain ⟨oL, cL, eL, hmL, fL⟩ := hL2.form; rw [tgC_len, jnT_len] at eT; rw [txC_len, jnL_len] at eL; subst eT eL; have hB2 := hb1.trans (hb2.mono hb1.size))
    | (go_at_call 16; refine (rints_same oT o n cT cap K w2 (by unfold maxLen; omega) (fun i hi => by
        obtain ⟨a, ha, hc, _⟩ := hk i hi
        obtain ⟨a2, ha2, _, hc2⟩ := fT i (.int .i64 ((K i).toNat : Nat)) (by simp [tgC, jnT_at K n i hi])
        have hpos := (HO.out i hi).1
        exact ⟨a2, a, ha2, ha, by rw [hc2]; congr 2; omega, by rw [hB2.cell (p := a.add i) (World.block_lt_of_cell? w _ hc)]; exact hc⟩)).mono ?_; rintro e w3 ⟨rfl, hb3⟩; have hB3 := hB2.trans (hb3.mono hB2.size)))
  have hL3 := hL2.below hb3
  obtain ⟨oL2, cL2, eL2, _, fL3⟩ := hL3.form
  have hoL : ∀ i, i < n → ∃ a, oL = some a ∧ w3.cell? (a.add i) = some (.string (spP (X i))) := fun i hi => by
    obtain ⟨a, ha, _, hc⟩ := fL3 i (.string (spP (X i))) (by simp [txC, jnL_at X n i hi])
    have e : oL = oL2 := by
      have := eL2
      simp only [Value.slice.injEq] at this
      exact this.1
    exact ⟨a, by rw [e]; exact ha, hc⟩
  clear eL2 fL3 fL fT
  go_loopw [10] (fun ix wr => ∃ i, i ≤ n ∧ ix = .int .i64 (i : Nat) ∧ Hid (Below w3.heap.size w3 wr)) (fun ix _ => n - (intOf ix).toNat)
  case atStart => exact ⟨0, by omega, rfl, Below.refl _ _⟩
  case round =>
    obtain ⟨i, hi, rfl, HB⟩ := hrel
    by_cases hil : i < n
    · have hii : (i : Int) < (n : Int) := by omega
      obtain ⟨a, rfl, s0'⟩ := hoL i hil
      obtain ⟨a', rfl, s1'⟩ := hx i hil
      have ba := World.block_lt_of_cell? w3 _ s0'
      have ba' := World.block_lt_of_cell? w _ s1'
      have bs' := hB3.size
      have u0 : wr.cell? (a.add i) = some (.string (spP (X i))) := by rw [HB.out.cell (p := a.add i) ba]; exact s0'
      have hze := jnZ_each X hil
      have hxs : (X i).size ≤ 281474976710000 := by omega
      have hps := spP_le (X i) hxs
      have HT := Lib.hid (txS_all (X i) hxs)
      go_wp2
      go_region_held3 (fun w' => w'.cell? (a.add i) = some (.string (spP (X i)))) (first | exact u0 | exact u1) (first
        | (go_at_call 20; refine (tx_ret (spP (X i)) _ _ _ _ HT.out _ (by unfold maxLen; omega) (.inl (by omega)) (by omega) (by omega)).mono ?_; rintro e w4 ⟨rfl, hb4⟩; have hB4 := HB.out.trans (((Below.refl wr.heap.size wr).drew.trans hb4).mono HB.out.size); have u1 : w4.cell? (a.add i) = some (.string (spP (X i))) := (by rw [hB4.cell (p := a.add i) ba]; exact s0')))
      have hB5 := hB3.trans (hB4.mono hB3.size)
      have t1 : w4.cell? (a'.add i) = some (.string (X i)) := by rw [hB5.cell (p := a'.add i) ba']; exact s1'
      go_wp2
      go_roundw
      case rel => exact ⟨i + 1, by omega, by go_num, hB4⟩
      case measure => simp [intOf]; omega
    · have hii : ¬ (i : Int) < (n : Int) := by omega
      go_wp2_with (go_at_call 11; refine (awake_any _).mono ?_; rintro e w5 ⟨rfl, hb5⟩)
      go_ret
      have c1 := hB3.trans (HB.out.mono hB3.size)
      exact ⟨rfl, c1.trans (hb5.mono c1.size)⟩

set_option maxRecDepth 100000 in
set_option maxHeartbeats 4000000 in
theorem kback_walk (o o' : Option Addr) (n m cap cap' : Nat) (K : Nat → Int) (X : Nat → ByteArray) (w : World) (hz : m ≤ 300 → jnZ X m ≤ 100000000)
    (hk : ∀ i, i < n → ∃ a, o = some a ∧ w.cell? (a.add i) = some (.int .i64 (K i)) ∧ -9223372036854775808 ≤ K i ∧ K i ≤ 9223372036854775807)
    (hx : ∀ i, i < m → ∃ a, o' = some a ∧ w.cell? (a.add i) = some (.string (X i))) :
    Calls Try.prog 6 #[.slice o n cap, .slice o' m cap'] w fun e w' => e = .returned (.bool true) ∧ Below w.heap.size w w' := by
  by_cases hn : 300 < n
  · have hn' : (300 : Int) < (n : Int) := by omega
    go_enter Try.func6, Try.ntmps6
    go_wp2_with (go_at_call 11; refine (awake_any _).mono ?_; rintro e w' ⟨rfl, hb⟩)
    go_ret
    exact ⟨rfl, hb⟩
  · have hn' : ¬ (300 : Int) < (n : Int) := by omega
    by_cases hm : 300 < m
    · have hm' : (300 : Int) < (m : Int) := by omega
      go_enter Try.func6, Try.ntmps6
      go_wp2_with (go_at_call 11; refine (awake_any _).mono ?_; rintro e w' ⟨rfl, hb⟩)
      go_ret
      exact ⟨rfl, hb⟩
    · have hm' : ¬ (300 : Int) < (m : Int) := by omega
      by_cases hnm : n = m
      · subst hnm
        by_cases ho : okT K n
        · exact kback_good o o' n cap cap' K X w (by omega) (hz (by omega)) ho hk hx
        · have HO := Lib.hid ho
          clear ho
          go_enter Try.func6, Try.ntmps6
          go_wp2_with (first
            | (go_at_call 18; refine (kjoin_any o o' n cap cap' K X _ (by omega) (hz (by omega)) hk hx ⟨#[]⟩ 9 (fun h => absurd h HO.out) (fun _ => ⟨rfl, rfl⟩)).mono ?_; rintro e w1 ⟨rfl, hb1⟩)
            | (go_at_call 11; refine (awake_any _).mono ?_; rintro e w3 ⟨rfl, hb3⟩))
          go_ret
          exact ⟨rfl, hb1.trans (hb3.mono hb1.size)⟩
      · go_enter Try.func6, Try.ntmps6
        go_wp2_with (first
          | (go_at_call 18; refine (kjoin_len o o' n m cap cap' _ hnm).mono ?_; rintro e w1 ⟨rfl, hb1⟩)
          | (go_at_call 11; refine (awake_any _).mono ?_; rintro e w3 ⟨rfl, hb3⟩))
        go_ret
        exact ⟨rfl, hb1.trans (hb3.mono hb1.size)⟩
/-- The law, of the form's two slices. -/
theorem kback_end {H : Type} {enc : TypeId × Value → H} {W : World} {base : Nat} {v0 v1 : Value} {d0 d1 : DataW H} {p0 p1 : List MemPlace}
    (w0 : Value.okWide Try.prog W .any base 31 v0) (h0 : DataW.Trod enc Try.prog W 0 (fun _ => true) true 31 v0 d0 p0)
    (w1 : Value.okWide Try.prog W .any base 32 v1) (h1 : DataW.Trod enc Try.prog W 0 (fun _ => true) true 32 v1 d1 p1) (hk : Rows.uptoSmall H [d0, d1] = true) :
    Calls Try.prog 6 #[v0, v1] W fun e w' => e = .returned (.bool true) ∧ Below W.heap.size W w' := by
  have hb : Rows.uptoBulkAll [d0, d1] ≤ 1048576 := of_decide_eq_true hk
  simp only [Rows.uptoBulkAll] at hb
  obtain ⟨o, n, cap, K, rfl, _, hK⟩ := ints_open w0 h0
  obtain ⟨o', m, cap', X, rfl, _, hX, hz⟩ := strs_open w1 h1
  exact kback_walk o o' n m cap cap' K X W (fun hm => by omega) hK hX
end Go.Proofs.Ytkbblmjldfinoaa.Vm
