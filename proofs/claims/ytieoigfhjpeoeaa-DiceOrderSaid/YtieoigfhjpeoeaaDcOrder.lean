/- Dice: the walk of the law DiceOrder. -/
import Derived.Test.YtieoigfhjpeoeaaDcAwake
namespace Go.Proofs.Ytieoigfhjpeoeaa.Dc
open Go.RowKit Cm
set_option linter.unusedVariables false
set_option linter.unusedSimpArgs false

/-- Numbers in the world. -/
def Nx (o : Option Addr) (len : Nat) (M : Nat → Nat) (w : World) : Prop := ∀ i, i < len → M i < 18446744073709551616 ∧ ∃ a, o = some a ∧ a.block < w.heap.size ∧ w.cell? (a.add i) = some (.int .u64 (M i))
def fN (M : Nat → Nat) (n : Nat) : List Nat := (List.range n).map M
theorem fN_len (M : Nat → Nat) (n : Nat) : (fN M n).length = n := by simp [fN]
theorem fN_succ (M : Nat → Nat) (n : Nat) : fN M (n + 1) = fN M n ++ [M n] := by simp [fN, List.range_succ]
theorem fN_drop {M : Nat → Nat} {n j : Nat} (h : j < n) : (fN M n).drop j = M j :: (fN M n).drop (j + 1) := by
  have hl : j < (fN M n).length := by rw [fN_len]; exact h
  rw [List.drop_eq_getElem_cons hl]
  congr 1
  simp [fN]

set_option maxRecDepth 100000 in
set_option maxHeartbeats 2000000 in
theorem order_walk {Dd : Nat → List Nat → World → Prop} (hA : Api Dd) (Z : Array Value) (hz : ∀ w : World, Dd w.heap.size [] (w.alloc (.cells Z 39)))
    (hzv : ∀ w : World, (zeroValue 39).run Try.prog w = .ok (.agg Z) w)
    (o : Option Addr) (len cap : Nat) (M : Nat → Nat) (w : World) (hs : Nx o len M w) (hlen : len ≤ 140737488355327) :
    Calls Try.prog 5 #[.slice o len cap] w fun e w' => e = .returned (.bool true) ∧ Below w.heap.size w w' := by
  have HA := Lib.hid hA
  have HS := Lib.hid hs
  have H0 := Lib.hid (Below.refl w.heap.size w)
  clear hA hs
  go_enter Try.func5, Try.ntmps5
  go_upto_region 7 with (first
    | (go_at_call 8; with_reducible refine (HA.out.takeN _).mono ?_; rintro e w1 ⟨rfl, hb⟩; replace H0 := Lib.hid (H0.out.trans (hb.mono H0.out.size)); clear hb)
    | (go_at_call 9; refine (HA.out.putN 1 _).mono ?_; rintro e w2 ⟨rfl, hb⟩; replace H0 := Lib.hid (H0.out.trans (hb.mono H0.out.size)); clear hb)
    | (go_at_call 10; with_reducible refine (HA.out.leftN _).mono ?_; rintro e w3 ⟨rfl, hb⟩; replace H0 := Lib.hid (H0.out.trans (hb.mono H0.out.size)); clear hb))
  have hd0 := hz w3
  have hge := H0.out.size
  have H1 := Lib.hid (H0.out.alloc hge (.cells Z 39))
  generalize hB : w3.heap.size = B at hd0 ⊢
  rw [hB] at hge
  have HBB := Lib.hid hge
  have HD0 := Lib.hid hd0
  clear hd0 hB H0 hzv
  go_loopw [7] (fun i wr => ∃ j, j ≤ len ∧ j ≤ 1000 ∧ i = .int .i64 (j : Nat) ∧ Hid (Dd B (fN M (min j 64)) wr) ∧ Hid (Below w.heap.size w wr)) (fun i _ => len - (intOf i).toNat)
  case atStart => exact ⟨0, by omega, by omega, rfl, HD0, H1⟩
  case round =>
    clear HD0 H1
    obtain ⟨j, hj, hj2, rfl, HD, HB⟩ := hrel
    have hsz := HB.out.size
    by_cases hjl : j < len ∧ j < 1000
    · obtain ⟨h1, h2⟩ := hjl
      have hji : (j : Int) < (len : Int) := by omega
      have hjk : (j : Int) < 1000 := by omega
      obtain ⟨hM, a, rfl, hb, s0⟩ := HS.out j h1
      have c0 := (HB.out.cell (p := a.add j) (by rw [block_add]; exact hb)).trans s0
      clear s0
      go_wp2_with (go_at_call 9; refine (HA.out.put B _ (M j) _ HD.out hM).mono ?_; rintro e w2 ⟨rfl, ho2, hd2⟩; have HD2 := Lib.hid hd2; have HO2 := Lib.hid ho2; clear hd2 ho2)
      go_roundw
      case rel => exact ⟨j + 1, by omega, by omega, by go_num, Lib.hid (by
        have h3 := HD2.out
        rw [fN_len] at h3
        by_cases hq : j < 64
        · rw [if_pos (by omega), show min j 64 = j by omega] at h3
          rw [show min (j + 1) 64 = j + 1 by omega, fN_succ]; exact h3
        · rw [if_neg (by omega)] at h3
          rw [show min (j + 1) 64 = min j 64 by omega]; exact h3), Lib.hid (HB.out.trans (HO2.out.below HBB.out hsz))⟩
      case measure => simp [intOf]; omega
    · have hq : Hid (min j 64 = min len 64) := Lib.hid (by omega)
      have HD1 : Hid (Dd B ((fN M (min len 64)).drop 0) wr) := Lib.hid (by rw [List.drop_zero, ← hq.out]; exact HD.out)
      have hcond : Hid (¬ (j < len ∧ j < 1000)) := Lib.hid hjl
      clear HD
      by_cases hji : (j : Int) < (len : Int)
      · have hjk : ¬ (j : Int) < 1000 := by omega
        clear hjl
        go_upto_region 11 with fail
        have HB0 := HB
        go_loopw [8] (fun i wq => ∃ k, k ≤ min len 64 ∧ i = .int .i64 (k : Nat) ∧ Hid (Dd B ((fN M (min len 64)).drop k) wq) ∧ Hid (Below w.heap.size w wq)) (fun i _ => len - (intOf i).toNat)
        case atStart => exact ⟨0, by omega, rfl, HD1, HB0⟩
        case round =>
          clear HD1 HB0 HB
          obtain ⟨k, hk, rfl, HE, HF⟩ := hrel
          have hfz := HF.out.size
          by_cases hkl : k < len ∧ k < 64
          · obtain ⟨h1, h2⟩ := hkl
            have hki : (k : Int) < (len : Int) := by omega
            have hkk : (k : Int) < 64 := by omega
            obtain ⟨hM, a, rfl, hb, s0⟩ := HS.out k h1
            have HC := Lib.hid s0
            have hdr := Lib.hid (show Dd B (M k :: (fN M (min len 64)).drop (k + 1)) _ by rw [← fN_drop (by omega)]; exact HE.out)
            clear s0
            go_wp2_with (go_at_call 8; refine (HA.out.take1 B (M k) _ _ hdr.out).mono ?_; rintro e w2 ⟨rfl, ho2, hd2⟩; have HD2 := Lib.hid hd2; have hb2 := HF.out.trans (ho2.below HBB.out hfz); have HB2 := Lib.hid hb2; have c0 := (hb2.cell (p := a.add k) (by rw [block_add]; exact hb)).trans HC.out; clear hd2 ho2 hb2)
            go_roundw
            case rel => exact ⟨k + 1, by omega, by go_num, HD2, HB2⟩
            case measure => simp [intOf]; omega
          · have he := Lib.hid (show Dd B [] _ by
              have h3 := HE.out
              rw [List.drop_of_length_le (by rw [fN_len]; omega)] at h3; exact h3)
            clear HE
            by_cases hki : (k : Int) < (len : Int)
            · have hkk : ¬ (k : Int) < 64 := by omega
              clear hkl
              go_wp2_with (first
                | (go_at_call 10; refine (HA.out.left B [] _ he.out).mono ?_; rintro e w3 ⟨rfl, ho3, hd3⟩; have HB3 := Lib.hid (HF.out.trans (ho3.below HBB.out hfz)); clear ho3 hd3)
                | (go_at_call 6; refine (awake_any HA.out _).mono ?_; rintro e w4 ⟨rfl, hb4⟩))
              go_ret
              exact ⟨rfl, HB3.out.trans (hb4.mono HB3.out.size)⟩
            · clear hkl
              go_wp2_with (first
                | (go_at_call 10; refine (HA.out.left B [] _ he.out).mono ?_; rintro e w3 ⟨rfl, ho3, hd3⟩; have HB3 := Lib.hid (HF.out.trans (ho3.below HBB.out hfz)); clear ho3 hd3)
                | (go_at_call 6; refine (awake_any HA.out _).mono ?_; rintro e w4 ⟨rfl, hb4⟩))
              go_ret
              exact ⟨rfl, HB3.out.trans (hb4.mono HB3.out.size)⟩
      · clear hjl
        go_upto_region 11 with fail
        have HB0 := HB
        go_loopw [8] (fun i wq => ∃ k, k ≤ min len 64 ∧ i = .int .i64 (k : Nat) ∧ Hid (Dd B ((fN M (min len 64)).drop k) wq) ∧ Hid (Below w.heap.size w wq)) (fun i _ => len - (intOf i).toNat)
        case atStart => exact ⟨0, by omega, rfl, HD1, HB0⟩
        case round =>
          clear HD1 HB0 HB
          obtain ⟨k, hk, rfl, HE, HF⟩ := hrel
          have hfz := HF.out.size
          by_cases hkl : k < len ∧ k < 64
          · obtain ⟨h1, h2⟩ := hkl
            have hki : (k : Int) < (len : Int) := by omega
            have hkk : (k : Int) < 64 := by omega
            obtain ⟨hM, a, rfl, hb, s0⟩ := HS.out k h1
            have HC := Lib.hid s0
            have hdr := Lib.hid (show Dd B (M k :: (fN M (min len 64)).drop (k + 1)) _ by rw [← fN_drop (by omega)]; exact HE.out)
            clear s0
            go_wp2_with (go_at_call 8; refine (HA.out.take1 B (M k) _ _ hdr.out).mono ?_; rintro e w2 ⟨rfl, ho2, hd2⟩; have HD2 := Lib.hid hd2; have hb2 := HF.out.trans (ho2.below HBB.out hfz); have HB2 := Lib.hid hb2; have c0 := (hb2.cell (p := a.add k) (by rw [block_add]; exact hb)).trans HC.out; clear hd2 ho2 hb2)
            go_roundw
            case rel => exact ⟨k + 1, by omega, by go_num, HD2, HB2⟩
            case measure => simp [intOf]; omega
          · have he := Lib.hid (show Dd B [] _ by
              have h3 := HE.out
              rw [List.drop_of_length_le (by rw [fN_len]; omega)] at h3; exact h3)
            clear HE
            by_cases hki : (k : Int) < (len : Int)
            · have hkk : ¬ (k : Int) < 64 := by omega
              clear hkl
              go_wp2_with (first
                | (go_at_call 10; refine (HA.out.left B [] _ he.out).mono ?_; rintro e w3 ⟨rfl, ho3, hd3⟩; have HB3 := Lib.hid (HF.out.trans (ho3.below HBB.out hfz)); clear ho3 hd3)
                | (go_at_call 6; refine (awake_any HA.out _).mono ?_; rintro e w4 ⟨rfl, hb4⟩))
              go_ret
              exact ⟨rfl, HB3.out.trans (hb4.mono HB3.out.size)⟩
            · clear hkl
              go_wp2_with (first
                | (go_at_call 10; refine (HA.out.left B [] _ he.out).mono ?_; rintro e w3 ⟨rfl, ho3, hd3⟩; have HB3 := Lib.hid (HF.out.trans (ho3.below HBB.out hfz)); clear ho3 hd3)
                | (go_at_call 6; refine (awake_any HA.out _).mono ?_; rintro e w4 ⟨rfl, hb4⟩))
              go_ret
              exact ⟨rfl, HB3.out.trans (hb4.mono HB3.out.size)⟩
end Go.Proofs.Ytieoigfhjpeoeaa.Dc
