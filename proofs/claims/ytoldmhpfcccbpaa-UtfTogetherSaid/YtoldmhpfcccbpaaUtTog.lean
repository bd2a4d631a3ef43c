/- The walk of the law of two texts, one behind the other. -/
import Derived.Test.YtoldmhpfcccbpaaUtLaws
namespace Go.Proofs.Ytoldmhpfcccbpaa.Ut
open Go.RowKit
set_option linter.unusedVariables false
set_option linter.unusedSimpArgs false

theorem cat_list (a b : ByteArray) : (a ++ b).data.toList = a.data.toList ++ b.data.toList := by rw [ByteArray.data_append, Array.toList_append]
theorem cat_low (a b : ByteArray) (na : Nat) (ha : wkS a = (na, -1)) : (wkS (a ++ b)).1 = na + (wkS b).1 ∧ (wkS (a ++ b)).2 = if (wkS b).2 < 0 then -1 else (a.size : Int) + (wkS b).2 := by
  have h := (wk_app a.data.toList.length 0 0 a.data.toList b.data.toList (Nat.le_refl _)).1
  have e : a.data.toList.length = a.size := Array.length_toList
  unfold wkS at ha ⊢
  rw [ha] at h
  rw [cat_list, h (by simp)]
  have hs := wk_shift b.data.toList.length na (0 + a.data.toList.length) b.data.toList (Nat.le_refl _)
  rw [e, Nat.zero_add] at hs ⊢
  exact hs
theorem cat_bad (a b : ByteArray) (na : Nat) (x : Int) (ha : wkS a = (na, x)) (hx : 0 ≤ x) (h4 : 4 ≤ (a.size : Int) - x) : (wkS (a ++ b)).2 = x := by
  have h := (wk_app a.data.toList.length 0 0 a.data.toList b.data.toList (Nat.le_refl _)).2
  have e : a.data.toList.length = a.size := Array.length_toList
  unfold wkS at ha ⊢
  rw [ha, e] at h
  rw [cat_list, h hx (by simp; omega)]

set_option maxRecDepth 100000 in
set_option maxHeartbeats 1000000 in
theorem together_walk (a b : ByteArray) (w : World) (ha : a.size ≤ 140737488355327) (hb0 : b.size ≤ 140737488355327) :
    Calls Try.prog 5 #[.string a, .string b] w fun e w' => e = .returned (.bool true) ∧ Below w.heap.size w w' := by
  obtain ⟨na, x, hx⟩ : ∃ n b, wkS a = (n, b) := ⟨_, _, rfl⟩
  obtain ⟨nb, y, hy⟩ : ∃ n c, wkS b = (n, c) := ⟨_, _, rfl⟩
  obtain ⟨nc, z, hz⟩ : ∃ n c, wkS (a ++ b) = (n, c) := ⟨_, _, rfl⟩
  have hsz : (a ++ b).size ≤ 1125899906842624 := by rw [ByteArray.size_append]; omega
  have bx := wkS_bd a
  have by' := wkS_bd b
  rw [hx] at bx
  rw [hy] at by'
  simp only at bx by'
  by_cases x0 : x < 0
  · obtain rfl : x = -1 := by omega
    have hc := cat_low a b na hx
    rw [hz, hy] at hc
    simp only at hc
    have HX := Lib.hid (all_right a na hx (by omega))
    by_cases y0 : y < 0
    · obtain rfl : y = -1 := by omega
      obtain ⟨rfl, rfl⟩ : nc = na + nb ∧ z = -1 := ⟨hc.1, by rw [hc.2]; rfl⟩
      have HY := Lib.hid (all_right b nb hy (by omega))
      have HZ := Lib.hid (all_right (a ++ b) (na + nb) hz hsz)
      have l1 : na ≤ 140737488355327 := by omega
      have l2 : nb ≤ 140737488355327 := by omega
      clear hc hx hy hz x0 y0 bx by'
      have hb := Below.refl w.heap.size w
      go_enter Try.func5, Try.ntmps5
      go_wp2_with (first | (go_at_call 6; with_reducible refine (HX.out.1 _).mono ?_; rintro e w' ⟨rfl, hb2⟩; replace hb := two_below hb hb2; clear hb2) | (go_at_call 6; with_reducible refine (HY.out.1 _).mono ?_; rintro e w' ⟨rfl, hb2⟩; replace hb := two_below hb hb2; clear hb2) | (go_at_call 6; with_reducible refine (HZ.out.1 _).mono ?_; rintro e w' ⟨rfl, hb2⟩; replace hb := two_below hb hb2; clear hb2) | (go_at_call 9; with_reducible refine (HX.out.2.2 _).mono ?_; rintro e w' ⟨rfl, hb2⟩; replace hb := two_below hb hb2; clear hb2) | (go_at_call 9; with_reducible refine (HY.out.2.2 _).mono ?_; rintro e w' ⟨rfl, hb2⟩; replace hb := two_below hb hb2; clear hb2) | (go_at_call 9; with_reducible refine (HZ.out.2.2 _).mono ?_; rintro e w' ⟨rfl, hb2⟩; replace hb := two_below hb hb2; clear hb2) | (go_at_call 11; refine (awake_any _).mono ?_; rintro e w' ⟨rfl, hb2⟩; replace hb := two_below hb hb2; clear hb2))
      go_ret
      exact ⟨rfl, hb⟩
    · obtain rfl : z = (a.size : Int) + y := by rw [hc.2, if_neg y0]
      have HY := Lib.hid (all_wrong b nb y hy y0 (by omega))
      have HZ := Lib.hid (all_wrong (a ++ b) nc _ hz (by omega) hsz)
      have l1 : y ≤ 140737488355327 := by omega
      have l2 : 0 ≤ y := by omega
      clear hc hx hy hz x0 bx by'
      have hb := Below.refl w.heap.size w
      go_enter Try.func5, Try.ntmps5
      go_wp2_with (first | (go_at_call 6; with_reducible refine (HX.out.1 _).mono ?_; rintro e w' ⟨rfl, hb2⟩; replace hb := two_below hb hb2; clear hb2) | (go_at_call 6; with_reducible refine (HY.out.1 _).mono ?_; rintro e w' ⟨rfl, hb2⟩; replace hb := two_below hb hb2; clear hb2) | (go_at_call 6; with_reducible refine (HZ.out.1 _).mono ?_; rintro e w' ⟨rfl, hb2⟩; replace hb := two_below hb hb2; clear hb2) | (go_at_call 11; refine (awake_any _).mono ?_; rintro e w' ⟨rfl, hb2⟩; replace hb := two_below hb hb2; clear hb2))
      go_ret
      exact ⟨rfl, hb⟩
  · have HX := Lib.hid (all_wrong a na x hx x0 (by omega))
    have HY := Lib.hid (all_ret b nb y hy (by omega))
    have HZ := Lib.hid (all_ret (a ++ b) nc z hz hsz)
    have l1 : x < a.size := by omega
    have l2 : 0 ≤ x := by omega
    by_cases h4 : (a.size : Int) - x < 4
    · clear hx hy hz x0 bx by'
      have hb := Below.refl w.heap.size w
      by_cases hzx : z = x
      · subst hzx
        go_enter Try.func5, Try.ntmps5
        go_wp2_with (first | (go_at_call 6; with_reducible refine (HX.out.1 _).mono ?_; rintro e w' ⟨rfl, hb2⟩; replace hb := two_below hb hb2; clear hb2) | (go_at_call 6; with_reducible refine (HY.out.1 _).mono ?_; rintro e w' ⟨rfl, hb2⟩; replace hb := two_below hb hb2; clear hb2) | (go_at_call 6; with_reducible refine (HZ.out.1 _).mono ?_; rintro e w' ⟨rfl, hb2⟩; replace hb := two_below hb hb2; clear hb2) | (go_at_call 9; with_reducible refine (HX.out.2.2 _).mono ?_; rintro e w' ⟨rfl, hb2⟩; replace hb := two_below hb hb2; clear hb2) | (go_at_call 11; refine (awake_any _).mono ?_; rintro e w' ⟨rfl, hb2⟩; replace hb := two_below hb hb2; clear hb2))
        go_ret
        exact ⟨rfl, hb⟩
      · have hzb : (z == x) = false := by simpa using hzx
        go_enter Try.func5, Try.ntmps5
        go_wp2_with (first | (go_at_call 6; with_reducible refine (HX.out.1 _).mono ?_; rintro e w' ⟨rfl, hb2⟩; replace hb := two_below hb hb2; clear hb2) | (go_at_call 6; with_reducible refine (HY.out.1 _).mono ?_; rintro e w' ⟨rfl, hb2⟩; replace hb := two_below hb hb2; clear hb2) | (go_at_call 6; with_reducible refine (HZ.out.1 _).mono ?_; rintro e w' ⟨rfl, hb2⟩; replace hb := two_below hb hb2; clear hb2) | (go_at_call 9; with_reducible refine (HX.out.2.2 _).mono ?_; rintro e w' ⟨rfl, hb2⟩; replace hb := two_below hb hb2; clear hb2) | (go_at_call 11; refine (awake_any _).mono ?_; rintro e w' ⟨rfl, hb2⟩; replace hb := two_below hb hb2; clear hb2))
        go_ret
        exact ⟨rfl, hb⟩
    · have hc := cat_bad a b na x hx (by omega) (by omega)
      rw [hz] at hc
      obtain rfl : z = x := hc
      clear hx hy hz x0 bx by'
      have hb := Below.refl w.heap.size w
      go_enter Try.func5, Try.ntmps5
      go_wp2_with (first | (go_at_call 6; with_reducible refine (HX.out.1 _).mono ?_; rintro e w' ⟨rfl, hb2⟩; replace hb := two_below hb hb2; clear hb2) | (go_at_call 6; with_reducible refine (HY.out.1 _).mono ?_; rintro e w' ⟨rfl, hb2⟩; replace hb := two_below hb hb2; clear hb2) | (go_at_call 6; with_reducible refine (HZ.out.1 _).mono ?_; rintro e w' ⟨rfl, hb2⟩; replace hb := two_below hb hb2; clear hb2) | (go_at_call 9; with_reducible refine (HX.out.2.2 _).mono ?_; rintro e w' ⟨rfl, hb2⟩; replace hb := two_below hb hb2; clear hb2) | (go_at_call 11; refine (awake_any _).mono ?_; rintro e w' ⟨rfl, hb2⟩; replace hb := two_below hb hb2; clear hb2))
      go_ret
      exact ⟨rfl, hb⟩
end Go.Proofs.Ytoldmhpfcccbpaa.Ut
