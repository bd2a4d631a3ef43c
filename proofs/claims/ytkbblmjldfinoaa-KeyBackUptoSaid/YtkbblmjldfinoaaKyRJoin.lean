/- Keys: the contract of the reference's Join. -/
import Derived.Test.YtkbblmjldfinoaaKyJoin
namespace Go.Proofs.Ytkbblmjldfinoaa.Vm
open Go.RowKit
set_option linter.unusedVariables false
set_option linter.unusedSimpArgs false

set_option maxRecDepth 100000 in
set_option maxHeartbeats 4000000 in
theorem rjoin_any (o o' : Option Addr) (len cap cap' : Nat) (K : Nat → Int) (X : Nat → ByteArray) (w : World) (hl : len ≤ 300) (hz : jnZ X len ≤ 100000000)
    (hk : ∀ i, i < len → ∃ a, o = some a ∧ w.cell? (a.add i) = some (.int .i64 (K i)) ∧ -9223372036854775808 ≤ K i ∧ K i ≤ 9223372036854775807)
    (hx : ∀ i, i < len → ∃ a, o' = some a ∧ w.cell? (a.add i) = some (.string (X i)))
    (s0 : ByteArray) (e0 : Nat) (hok : okT K len → s0 = jnB K X len ∧ e0 = 0) (hno : ¬ okT K len → s0 = ⟨#[]⟩ ∧ e0 = 9) :
    Calls Try.prog 19 #[.slice o len cap, .slice o' len cap'] w fun x w' => x = .returned (.tuple #[.string s0, .int .i64 e0]) ∧ Below w.heap.size w w' := by
  have hB0 := Below.refl w.heap.size w
  go_enter Try.func19, Try.ntmps19
  go_wp2
  go_loopw [6, 7] (fun sv ix wr => ∃ i, i ≤ len ∧ ix = .int .i64 (i : Nat) ∧ sv = .string (jnB K X i) ∧ Hid (okT K i) ∧ Hid (Below w.heap.size w wr)) (fun _ ix _ => len - (intOf ix).toNat)
  case atStart => exact ⟨0, by omega, rfl, rfl, fun j hj => by omega, hB0⟩
  case round =>
    obtain ⟨i, hi, rfl, rfl, HO, HB⟩ := hrel
    clear hB0
    by_cases hil : i < len
    · have hii : (i : Int) < (len : Int) := by omega
      obtain ⟨a, rfl, s0', m1, m2⟩ := hk i hil
      obtain ⟨a', rfl, s1'⟩ := hx i hil
      have ba0 := World.block_lt_of_cell? w _ s0'
      have t0 : wr.cell? (a.add i) = some (.int .i64 (K i)) := by rw [HB.out.cell (p := a.add i) ba0]; exact s0'
      have ba := World.block_lt_of_cell? w _ s1'
      have hze := jnZ_each X hil
      by_cases htg : K i < 1 ∨ 255 < K i
      · have HP := Lib.hid (kpS_tag (K i) 1 htg)
        obtain ⟨rfl, rfl⟩ := hno (okT_not_tag hil htg)
        go_wp2_with (go_at_call 8; refine (rkput_ret _ _ _ _ HP.out _ m1 m2 (by omega) (by omega)).mono ?_; rintro e w2 ⟨rfl, hb2⟩)
        go_quiet (fail)
        go_wp2
        go_ret2
        exact ⟨rfl, below_drewN (HB.out.trans (hb2.mono HB.out.size)) nq⟩
      · have HP : Hid (kpS (K i) 1 = (kb (K i), 0)) := Lib.hid (kpS_good (K i) 1 htg (by decide))
        have hxs : (X i).size ≤ 281474976710000 := by omega
        have hk1 := kb_size (K i) (by omega)
        have hk2 := spP_le (X i) (by omega)
        have hk3 := jnB_size K X i HO.out (by omega)
        have hc1 : (kb (K i) ++ spP (X i)).size ≤ 200000000 := by rw [ByteArray.size_append]; omega
        have hc2 : (jnB K X i ++ (kb (K i) ++ spP (X i))).size ≤ 400000000 := by rw [ByteArray.size_append]; omega
        by_cases hi0 : i = 0
        · subst hi0
          have hA0 : ∀ x : Addr, x.add 0 = x := fun x => by simp [Addr.add]
          rw [hA0] at t0 ba0 s0' s1' ba
          have HO2 : Hid (okT K 1) := Lib.hid (okT_step (i := 0) HO.out (by omega) (by omega) (show (0 : Int) < K 0 by omega))
          go_wp2_with (go_at_call 8; refine (rkput_ret _ _ _ _ HP.out _ m1 m2 (by omega) (by omega)).mono ?_; rintro e w2 ⟨rfl, hb2⟩; have hB2 := HB.out.trans (hb2.mono HB.out.size))
          go_quiet (fail)
          have hB3 := below_drewN hB2 nq
          have t1 : (w2.drewN nq).cell? a' = some (.string (X 0)) := by rw [hB3.cell (p := a') ba]; exact s1'
          go_wp2_with (go_at_call 30; refine (rsput_any _ _ hxs).mono ?_; rintro e w4 ⟨rfl, hb4⟩)
          go_roundw
          case rel => exact ⟨0 + 1, by omega, by simp, rfl, HO2, hB3.trans (hb4.mono hB3.size)⟩
          case measure => simp [intOf]; omega
        · obtain ⟨j, rfl⟩ : ∃ j, i = j + 1 := ⟨i - 1, by omega⟩
          obtain ⟨a2, ha2, sj', _⟩ := hk j (by omega)
          obtain rfl : a = a2 := by simpa using ha2
          have bj := World.block_lt_of_cell? w _ sj'
          have hA1 : ∀ x : Addr, x.add (j + 1) = ⟨x.block, x.off + (j + 1), none⟩ := fun x => by simp [Addr.add]
          rw [hA1] at t0 ba0 s0' s1' ba
          have hlt : lastT K (j + 1) = K j := by simp [lastT]
          have hpos : (0 : Int) < (j : Int) + 1 := by omega
          have hw1 : IntKind.i64.wrap ((j : Int) + 1 - 1) = (j : Int) := by rw [show (j : Int) + 1 - 1 = (j : Int) by omega]; exact IntWalk.i64_in _ (by omega)
          have hj0 : (j : Int) < (len : Int) := by omega
          have hj1 : (j : Int) + 1 < (len : Int) := by omega
          by_cases hrs : K (j + 1) ≤ K j
          · obtain ⟨rfl, rfl⟩ := hno (okT_not_rise hil (by rw [hlt]; exact hrs) (by omega))
            go_wp2_with (go_at_call 8; refine (rkput_ret _ _ _ _ HP.out _ m1 m2 (by omega) (by omega)).mono ?_; rintro e w2 ⟨rfl, hb2⟩; have hB2 := HB.out.trans (hb2.mono HB.out.size); have u0 : w2.cell? (a.add j) = some (.int .i64 (K j)) := (by rw [hB2.cell (p := a.add j) bj]; exact sj'); have u1 : w2.cell? ⟨a.block, a.off + (j + 1), none⟩ = some (.int .i64 (K (j + 1))) := (by rw [hB2.cell (p := ⟨a.block, a.off + (j + 1), none⟩) ba0]; exact s0'))
            go_quiet (fail)
            go_wp2
            go_ret2
            exact ⟨rfl, below_drewN hB2 nq⟩
          · have HO2 : Hid (okT K (j + 1 + 1)) := Lib.hid (okT_step HO.out (by omega) (by omega) (by rw [hlt]; omega))
            have hrs' : ¬ K (j + 1) ≤ K j := hrs
            go_wp2_with (go_at_call 8; refine (rkput_ret _ _ _ _ HP.out _ m1 m2 (by omega) (by omega)).mono ?_; rintro e w2 ⟨rfl, hb2⟩; have hB2 := HB.out.trans (hb2.mono HB.out.size); have u0 : w2.cell? (a.add j) = some (.int .i64 (K j)) := (by rw [hB2.cell (p := a.add j) bj]; exact sj'); have u1 : w2.cell? ⟨a.block, a.off + (j + 1), none⟩ = some (.int .i64 (K (j + 1))) := (by rw [hB2.cell (p := ⟨a.block, a.off + (j + 1), none⟩) ba0]; exact s0'))
            go_quiet (fail)
            have hB3 := below_drewN hB2 nq
            have t1 : (w2.drewN nq).cell? ⟨a'.block, a'.off + (j + 1), none⟩ = some (.string (X (j + 1))) := by rw [hB3.cell (p := ⟨a'.block, a'.off + (j + 1), none⟩) ba]; exact s1'
            go_wp2_with (go_at_call 30; refine (rsput_any _ _ hxs).mono ?_; rintro e w4 ⟨rfl, hb4⟩)
            go_roundw
            case rel => exact ⟨j + 1 + 1, by omega, by go_num, rfl, HO2, hB3.trans (hb4.mono hB3.size)⟩
            case measure => simp [intOf]; omega
    · have hii : ¬ (i : Int) < (len : Int) := by omega
      obtain rfl : i = len := by omega
      obtain ⟨rfl, rfl⟩ := hok HO.out
      go_wp2
      go_ret2
      exact ⟨rfl, HB.out⟩
end Go.Proofs.Ytkbblmjldfinoaa.Vm
