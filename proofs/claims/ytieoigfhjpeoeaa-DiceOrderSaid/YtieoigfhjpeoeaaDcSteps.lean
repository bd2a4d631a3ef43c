/- Dice: the walk of the law DiceSteps. -/
import Derived.Test.YtieoigfhjpeoeaaDcAwake
namespace Go.Proofs.Ytieoigfhjpeoeaa.Dc
open Go.RowKit Cm
set_option linter.unusedVariables false
set_option linter.unusedSimpArgs false

/-- Steps in the world: is one taken, which number. -/
def Sx (o : Option Addr) (len : Nat) (K : Nat → Bool) (M : Nat → Nat) (w : World) : Prop :=
  ∀ i, i < len → M i < 18446744073709551616 ∧ ∃ a Ab Ao As, o = some a ∧ a.add (i * 2) = ⟨Ab, Ao, As⟩ ∧ Ab < w.heap.size ∧ w.cell? ⟨Ab, Ao, As⟩ = some (.bool (K i)) ∧ w.cell? ⟨Ab, Ao + 1, none⟩ = some (.int .u64 (M i))
theorem Sx.below {o : Option Addr} {len m : Nat} {K : Nat → Bool} {M : Nat → Nat} {w w' : World} (h : Sx o len K M w) (hb : Below m w w') (hm : w.heap.size ≤ m) : Sx o len K M w' := fun i hi => by
  obtain ⟨h0, a, Ab, Ao, As, h1, h2, h3, h4, h5⟩ := h i hi
  exact ⟨h0, a, Ab, Ao, As, h1, h2, Nat.lt_of_lt_of_le h3 hb.size, (hb.cell (p := ⟨Ab, Ao, As⟩) (Nat.lt_of_lt_of_le h3 hm)).trans h4, (hb.cell (p := ⟨Ab, Ao + 1, none⟩) (Nat.lt_of_lt_of_le h3 hm)).trans h5⟩

set_option maxRecDepth 100000 in
set_option maxHeartbeats 2000000 in
theorem steps_walk {Dd : Nat → List Nat → World → Prop} (hA : Api Dd) (o : Option Addr) (len cap : Nat) (K : Nat → Bool) (M : Nat → Nat) (w : World) (hs : Sx o len K M w) (hlen : len ≤ 140737488355327) :
    Calls Try.prog 3 #[.slice o len cap] w fun e w' => e = .returned (.bool true) ∧ Below w.heap.size w w' := by
  have HA := Lib.hid hA
  have HS := Lib.hid hs
  clear hA hs
  by_cases hg : 2000 < len
  · have hgi : (2000 : Int) < (len : Int) := by omega
    go_enter Try.func3, Try.ntmps3
    go_wp2_with (go_at_call 6; refine (awake_any HA.out _).mono ?_; rintro e w1 ⟨rfl, hb1⟩)
    go_ret
    exact ⟨rfl, hb1⟩
  · have hgi : ¬ (2000 : Int) < (len : Int) := by omega
    go_enter Try.func3, Try.ntmps3
    go_wp2_with (go_at_call 7; refine (HA.out.new _).mono ?_; rintro e w1 ⟨B, rfl, hB, hb1, hd1⟩; have HD1 := Lib.hid hd1; have HB1 := Lib.hid hb1; have HBB := Lib.hid hB; clear hd1 hb1 hB)
    go_loopw [4, 5] (fun u i wr => ∃ j v L, j ≤ len ∧ i = .int .i64 (j : Nat) ∧ v = u ∧ Hid (L.length ≤ 64 ∧ v.ownBlock ≠ some B) ∧ Hid (Qw 1 w.heap.size v L.length (nC L) wr) ∧ Hid (Dd B L wr) ∧ Hid (Below w.heap.size w wr)) (fun u i _ => len - (intOf i).toNat)
    case atStart => exact ⟨0, _, [], by omega, rfl, rfl, Lib.hid ⟨by simp, by simp [Value.ownBlock]⟩, Lib.hid (Qw.nil _ _ _), HD1, HB1⟩
    case round =>
      clear HD1 HB1
      obtain ⟨j, v, L, hj, rfl, rfl, HL, HQ, HD, HB⟩ := hrel
      have hsz := HB.out.size
      by_cases hjl : j < len
      · have hji : (j : Int) < (len : Int) := by omega
        obtain ⟨hM, a, Ab, Ao, As, rfl, hA, hAb, s0, s1⟩ := HS.out j hjl
        have c0 := (HB.out.cell (p := ⟨Ab, Ao, As⟩) hAb).trans s0
        have c1 := (HB.out.cell (p := ⟨Ab, Ao + 1, none⟩) hAb).trans s1
        have HC := Lib.hid s1
        clear s0 s1
        cases hk : K j with
        | true =>
          rw [hk] at c0
          match L, HL, HQ, HD with
          | [], HL, HQ, HD =>
            obtain ⟨a2, cap2, rfl, _, _, _⟩ := HQ.out.form
            go_wp2_with (first
              | (go_at_call 8; refine (HA.out.take0 B _ HD.out).mono ?_; rintro e w2 ⟨rfl, ho2, hd2⟩; have HD2 := Lib.hid hd2; have HO2 := Lib.hid ho2; clear hd2 ho2)
              | (go_at_call 10; refine (HA.out.left B [] _ HD2.out).mono ?_; rintro e w3 ⟨rfl, ho3, hd3⟩; have HD3 := Lib.hid hd3; have HO3 := Lib.hid (HO2.out.trans ho3); clear hd3 ho3))
            exact ⟨⟨j + 1, _, [], by omega, by go_num, rfl, HL, Lib.hid (HQ.out.only HO3.out HL.out.2), HD3, Lib.hid (HB.out.trans (HO3.out.below HBB.out hsz))⟩, by simp [intOf]; omega⟩
          | x :: T, HL, HQ, HD =>
            obtain ⟨g, o2, cap2, rfl, hg1, hg2, hnc, hcm, hx⟩ := HQ.out.form1 (by simp)
            have hne : g ≠ B := fun e => HL.out.2 (by rw [e]; rfl)
            have q0 : wr.cell? ⟨g, o2, none⟩ = some (.int .u64 (x : Nat)) := hx 0 (.int .u64 (x : Nat)) rfl
            have HX := Lib.hid q0
            have hcut := Lib.hid (Qw.tail (n := T.length) (x := .int .u64 (x : Nat)) (xs := nC T) HQ.out)
            have hl1 : ((x :: T).length : Int) = (T.length : Int) + 1 := by simp
            have hTl : T.length ≤ 63 := by have := HL.out.1; simp at this; omega
            clear q0 hx
            by_cases hc1 : cap2 = 1
            · subst hc1
              have HC1 : Hid ((1 : Nat) = 1) := Lib.hid rfl
              go_wp2_with (first
                | (go_at_call 8; refine (HA.out.take1 B x T _ HD.out).mono ?_; rintro e w2 ⟨rfl, ho2, hd2⟩; have HD2 := Lib.hid hd2; have HO2 := Lib.hid ho2; have k0 : w2.cell? ⟨g, o2, none⟩ = some (.int .u64 (x : Nat)) := (ho2.cell (p := ⟨g, o2, none⟩) hg2 hne).trans HX.out; clear hd2 ho2)
                | (go_at_call 10; refine (HA.out.left B T _ HD2.out).mono ?_; rintro e w3 ⟨rfl, ho3, hd3⟩; have HD3 := Lib.hid hd3; have HO3 := Lib.hid (HO2.out.trans ho3); clear hd3 ho3))
              exact ⟨⟨j + 1, _, T, by omega, by go_num, rfl, Lib.hid ⟨by omega, fun e => hne (by simpa [Value.ownBlock] using e)⟩, Lib.hid (Qw.only (hcut.out.1 HC1.out) HO3.out (fun e => hne (by simpa [Value.ownBlock] using e))), HD3, Lib.hid (HB.out.trans (HO3.out.below HBB.out hsz))⟩, by simp [intOf]; omega⟩
            · have HC1 := Lib.hid hc1
              go_wp2_with (first
                | (go_at_call 8; refine (HA.out.take1 B x T _ HD.out).mono ?_; rintro e w2 ⟨rfl, ho2, hd2⟩; have HD2 := Lib.hid hd2; have HO2 := Lib.hid ho2; have k0 : w2.cell? ⟨g, o2, none⟩ = some (.int .u64 (x : Nat)) := (ho2.cell (p := ⟨g, o2, none⟩) hg2 hne).trans HX.out; clear hd2 ho2)
                | (go_at_call 10; refine (HA.out.left B T _ HD2.out).mono ?_; rintro e w3 ⟨rfl, ho3, hd3⟩; have HD3 := Lib.hid hd3; have HO3 := Lib.hid (HO2.out.trans ho3); clear hd3 ho3))
              exact ⟨⟨j + 1, _, T, by omega, by go_num, rfl, Lib.hid ⟨by omega, fun e => hne (by simpa [Value.ownBlock] using e)⟩, Lib.hid (Qw.only (hcut.out.2 HC1.out) HO3.out (fun e => hne (by simpa [Value.ownBlock] using e))), HD3, Lib.hid (HB.out.trans (HO3.out.below HBB.out hsz))⟩, by simp [intOf]; omega⟩
        | false =>
          rw [hk] at c0
          obtain ⟨a2, cap2, rfl, hnc, hcm, _⟩ := HQ.out.form
          have hL64 := HL.out.1
          by_cases hlt : L.length < 64
          · have hli : (L.length : Int) < 64 := by omega
            have HLT := Lib.hid hlt
            go_wp2_with (first
              | (go_at_call 9; refine (HA.out.put B L (M j) _ HD.out hM).mono ?_; rw [decide_eq_true HLT.out, if_pos HLT.out]; rintro e w2 ⟨rfl, ho2, hd2⟩; have HD2 := Lib.hid hd2; have HO2 := Lib.hid ho2; have HB2 := Lib.hid (HB.out.trans (ho2.below HBB.out hsz)); have k1 := (HB2.out.cell (p := ⟨Ab, Ao + 1, none⟩) hAb).trans HC.out; clear hd2 ho2)
              | (at_builtin; refine Qw.list rfl (.tmp 69) (.tmp 75) 26 rfl 27 1 w.heap.size w2.heap.size 8 Try.underlying26 infoU64 (.slice a2 L.length cap2) (.slice (some ⟨w2.heap.size, 0, none⟩) 1 1) L.length 1 (nC L) (nC [M j]) rfl rfl ((HQ.out.only HO2.out HL.out.2).alloc _) (Qw.lit_at _ _ 1 _ (nC [M j]) rfl rfl) (nC_one _) (by unfold maxLen; omega) (by omega) (by have := HB2.out.size; simp; omega) ?_; intro v5 w5 hQ5 hg5 hG5; obtain ⟨a5, cap5, rfl, hn5, hm5, _⟩ := hQ5.form; have HQ5 := Lib.hid hQ5; have HG5 := Lib.hid hG5; have HGR := Lib.hid hg5; have HD5 := Lib.hid (HA.out.grown (HA.out.below HD2.out ((Below.refl _ _).alloc (Nat.le_refl _) _)) hg5 (fun e => HL.out.2 e.symm)); clear hQ5 hg5 hG5)
              | (go_at_call 10; refine (HA.out.left B (L ++ [M j]) _ HD5.out).mono ?_; rintro e w6 ⟨rfl, ho6, hd6⟩; have HD6 := Lib.hid hd6; have HO6 := Lib.hid ho6; clear hd6 ho6))
            have h1 := (HB2.out.alloc (by have := HB2.out.size; omega) (.cells #[.int .u64 (M j)] 27)).grown HGR.out (by have := HB2.out.size; simp; omega) (fun k hk => (HQ.out.block k hk).1)
            have hne5 : (Value.slice a5 (L.length + 1) cap5).ownBlock ≠ some B := by
              rcases HG5.out with e | e
              · rw [e]; exact HL.out.2
              · rw [e]; have h2 := HA.out.lt HD2.out; simp; omega
            have hbs := h1.size
            exact ⟨⟨j + 1, _, L ++ [M j], by omega, by go_num, rfl, Lib.hid ⟨by simp; omega, hne5⟩, Lib.hid (by
              have h3 := HQ5.out.only HO6.out hne5
              rw [nC_app] at h3
              rw [List.length_append]; exact h3), HD6, Lib.hid (h1.trans (HO6.out.below HBB.out hbs))⟩, by simp [intOf]; omega⟩
          · have hli : ¬ (L.length : Int) < 64 := by omega
            have HLT := Lib.hid hlt
            go_wp2_with (first
              | (go_at_call 9; refine (HA.out.put B L (M j) _ HD.out hM).mono ?_; rw [decide_eq_false HLT.out, if_neg HLT.out]; rintro e w2 ⟨rfl, ho2, hd2⟩; have HD2 := Lib.hid hd2; have HO2 := Lib.hid ho2; clear hd2 ho2)
              | (go_at_call 10; refine (HA.out.left B L _ HD2.out).mono ?_; rintro e w3 ⟨rfl, ho3, hd3⟩; have HD3 := Lib.hid hd3; have HO3 := Lib.hid (HO2.out.trans ho3); clear hd3 ho3))
            exact ⟨⟨j + 1, _, L, by omega, by go_num, rfl, HL, Lib.hid (HQ.out.only HO3.out HL.out.2), HD3, Lib.hid (HB.out.trans (HO3.out.below HBB.out hsz))⟩, by simp [intOf]; omega⟩
      · have hji : ¬ (j : Int) < (len : Int) := by omega
        go_wp2_with (go_at_call 6; refine (awake_any HA.out _).mono ?_; rintro e w2 ⟨rfl, hb2⟩)
        go_ret
        exact ⟨rfl, HB.out.trans (hb2.mono hsz)⟩
end Go.Proofs.Ytieoigfhjpeoeaa.Dc
