/- Frames: the walk of FrameBack. -/
import Derived.Test.YtgihiejbaimljaaFrLaws
namespace Go.Proofs.Ytgihiejbaimljaa.Fr
open Go.RowKit Cm
set_option linter.unusedVariables false
set_option linter.unusedSimpArgs false

theorem fpS_cases (k f : Int) (b : ByteArray) : (∃ e, e ≠ 0 ∧ fpS k f b = (⟨#[]⟩, e)) ∨ (1 ≤ k ∧ k ≤ 9 ∧ 0 ≤ f ∧ f ≤ 255 ∧ b.size ≤ 1024 ∧ fpS k f b = (hd4 k f b.size ++ b, 0)) := by
  by_cases h1 : k < 1 ∨ 9 < k
  · exact .inl ⟨4, by decide, fpS_kind k f b h1⟩
  · by_cases h2 : f < 0 ∨ 255 < f
    · exact .inl ⟨1, by decide, fpS_form k f b h1 h2⟩
    · by_cases h3 : 1024 < b.size
      · exact .inl ⟨3, by decide, fpS_long k f b h1 h2 h3⟩
      · exact .inr ⟨by omega, by omega, by omega, by omega, by omega, fpS_good k f b h1 h2 h3⟩

set_option maxRecDepth 100000 in
set_option maxHeartbeats 1000000 in
theorem back_walk (k f : Int) (b r : ByteArray) (cut : Int) (w : World) (h1 : -9223372036854775808 ≤ k) (h2 : k ≤ 9223372036854775807) (h3 : -9223372036854775808 ≤ f) (h4 : f ≤ 9223372036854775807) (hs : b.size ≤ 140737488355327) (hr : r.size ≤ 140737488355327) (h5 : -9223372036854775808 ≤ cut) (h6 : cut ≤ 9223372036854775807) :
    Calls Try.prog 5 #[.agg #[.int .i64 k, .int .i64 f, .string b], .string r, .int .i64 cut] w fun e w' => e = .returned (.bool true) ∧ Below w.heap.size w w' := by
  have hB := (Below.refl w.heap.size w).alloc (Nat.le_refl _) (.cells #[.int .i64 k, .int .i64 f, .string b] 23)
  have hC := Cs.new w [.int .i64 k, .int .i64 f, .string b] 23
  rcases fpS_cases k f b with ⟨e, he, hp⟩ | ⟨k1, k2, f1, f2, hn, hp⟩
  · have HP := Lib.hid hp
    clear hp
    have heb : ((e : Int) != 0) = true := by simpa using he
    have he4 : (e : Int) ≠ 0 := by omega
    go_enter Try.func5, Try.ntmps5
    go_wp2_with (first
      | (go_at_call 6; refine (put_ret k f b _ _ HP.out _ h1 h2 h3 h4 hs).mono ?_; rintro e w2 ⟨rfl, hb⟩; replace hB := hB.trans (hb.mono hB.size); clear hb)
      | (go_at_call 12; refine (awake_any _).mono ?_; rintro e w4 ⟨rfl, hb⟩; replace hB := hB.trans (hb.mono hB.size); clear hb))
    go_ret
    exact ⟨rfl, hB⟩
  · have HP := Lib.hid hp
    clear hp
    obtain ⟨S, hS⟩ : ∃ S, hd4 k f b.size ++ b = S := ⟨_, rfl⟩
    have hz : S.size = 4 + b.size := by rw [← hS, ByteArray.size_append]; rfl
    have hz2 : (S.size : Int) = 4 + (b.size : Int) := by omega
    have hsr : (S ++ r).size ≤ 281474976710656 := by rw [ByteArray.size_append]; omega
    have HT := Lib.hid (show taS (S ++ r) = _ from hS ▸ ta_put k f b r k1 k2 f1 f2 hn)
    have HP2 := Lib.hid (show fpS k f b = (S, 0) from hS ▸ HP.out)
    have HS := Lib.hid hS
    obtain ⟨m, hmI, hm⟩ : ∃ m : Nat, (IntKind.u64.wrap cut).tmod (max (4 + (b.size : Int)) 1) = (m : Int) ∧ m < 4 + b.size := by
      have e1 : max (4 + (b.size : Int)) 1 = 4 + (b.size : Int) := by omega
      have e2 : 0 ≤ IntKind.u64.wrap cut := by rw [IntKind.wrap_u64]; omega
      rw [e1, Int.tmod_eq_emod_of_nonneg e2]
      have e3 : 0 ≤ IntKind.u64.wrap cut % (4 + (b.size : Int)) := Int.emod_nonneg _ (by omega)
      have e4 : IntKind.u64.wrap cut % (4 + (b.size : Int)) < 4 + (b.size : Int) := Int.emod_lt_of_pos _ (by omega)
      exact ⟨(IntKind.u64.wrap cut % (4 + (b.size : Int))).toNat, by omega, by omega⟩
    have hm2 : (m : Int) < 4 + (b.size : Int) := by omega
    have HT2 := Lib.hid (show taS (S.extract 0 m) = _ from hS ▸ ta_cut k f b m k1 k2 f1 f2 hn hm)
    have hsm : (S.extract 0 m).size ≤ 281474976710656 := by rw [ByteArray.size_extract]; omega
    have HSM := Lib.hid hsm
    clear HP hS hsm
    have tok : True := trivial
    have kN : ((k.toNat : Nat) : Int) = k := by omega
    have fN : ((f.toNat : Nat) : Int) = f := by omega
    have hco : coI (b.size : Int) = 16 + (b.size : Int) := by unfold coI; rw [if_neg (by omega), if_neg (by omega)]
    go_enter Try.func5, Try.ntmps5
    go_wp2_with (first
      | (go_at_call 6; refine (put_ret k f b _ _ HP2.out _ h1 h2 h3 h4 hs).mono ?_; rintro e w2 ⟨rfl, hb⟩; replace hB := hB.trans (hb.mono hB.size); replace hC := hC.below hb hC.lt; clear hb)
      | (go_at_call 13; have _t := tok2; clear _t tok2; refine (take_ret (S.extract 0 m) _ _ _ _ _ HT2.out _ HSM.out).mono ?_; rintro e w5 ⟨rfl, hb⟩; replace hB := (hB.trans (hb.mono hB.size)).alloc (by have := hb.size; have := hB.size; omega) (.cells #[.int .i64 0, .int .i64 0, .string ⟨#[]⟩] 23); clear hb)
      | (go_at_call 13; have _t := tok; clear _t tok; refine (take_ret (S ++ r) _ _ _ _ _ HT.out _ hsr).mono ?_; rintro e w3 ⟨rfl, hb⟩; have tok2 : True := trivial; rw [kN, fN]; replace hB := (hB.trans (hb.mono hB.size)).alloc (by have := hb.size; have := hB.size; omega) (.cells #[.int .i64 k, .int .i64 f, .string b] 23); replace hC := (hC.below hb hC.lt).alloc (.cells #[.int .i64 k, .int .i64 f, .string b] 23); obtain ⟨⟨c0, c1, c2⟩, _⟩ := hC.three; clear hb)
      | (go_at_call 8; refine (cost_any _ _ (by omega) (by omega)).mono ?_; rintro e w4 ⟨rfl, rfl⟩)
      | (go_at_call 12; refine (awake_any _).mono ?_; rintro e w4 ⟨rfl, hb⟩; replace hB := hB.trans (hb.mono hB.size); clear hb))
    go_ret
    exact ⟨rfl, hB⟩
end Go.Proofs.Ytgihiejbaimljaa.Fr
