/- The walk of CheckLess. -/
import Derived.Test.YthcpepifikpmeaaCkAwake
namespace Go.Proofs.Ythcpepifikpmeaa.Ck
open Go.RowKit Cm _root_.Go.Proofs.Ythcpepifikpmeaa.Nm
set_option linter.unusedVariables false
set_option linter.unusedSimpArgs false

theorem ax_less {o : Option Addr} {n m : Nat} {D : Dl} {F : Nat → Fy} {M : Nat → Ml} {w : World} (h : Ax o n D F M w) (hm : m ≤ n) : Ax o m D F M w :=
  ⟨⟨fun i hi => h.1.1 i (by omega), by have := h.1.2; omega⟩, fun i hi => h.2 i (by omega)⟩
set_option maxRecDepth 100000 in
set_option maxHeartbeats 4000000 in
theorem less_walk (o : Option Addr) (len cap : Nat) (D : Dl) (F : Nat → Fy) (M : Nat → Ml) (w : World) (h : Ax o len D F M w) (hcap : len ≤ cap) (hcap2 : cap ≤ maxLen) :
    Calls Try.prog 4 #[.slice o len cap] w fun e w' => e = .returned (.bool true) ∧ Below w.heap.size w w' := by
  have hlen := h.1.2
  have hlen2 : len ≤ 9223372036854775807 := by omega
  have hcap3 : cap ≤ 9223372036854775807 := by unfold maxLen at hcap2; omega
  have H := Lib.hid h
  have hg := great_any o len cap D F M w h
  have hfd := fld0
  clear h
  cases hb : grB D F len with
  | true =>
    rw [hb] at hg
    have HG := Lib.hid hg
    clear hg hb
    go_enter Try.func4, Try.ntmps4
    go_wp2_with (first
      | (go_at_call 6; refine (awake_any _).mono ?_; rintro e w2 ⟨rfl, hb2⟩)
      | (go_at_call 5; refine HG.out.mono ?_; rintro e w1 ⟨rfl, hb1⟩))
    go_ret
    exact ⟨rfl, hb1.trans (hb2.mono hb1.size)⟩
  | false =>
    have HS := Lib.hid (gr_small hb)
    rw [hb] at hg
    have HG := Lib.hid hg
    clear hg hb
    cases hln : len with
    | zero =>
      subst hln
      go_enter Try.func4, Try.ntmps4
      go_wp2_with (first
        | (go_at_call 6; refine (awake_any _).mono ?_; rintro e w2 ⟨rfl, hb2⟩)
        | (go_at_call 5; refine HG.out.mono ?_; rintro e w1 ⟨rfl, hb1⟩))
      go_ret
      exact ⟨rfl, hb1.trans (hb2.mono hb1.size)⟩
    | succ n =>
      have hn1 : len = n + 1 := hln
      rw [← hln]
      clear hln
      have hq0 : ((len : Int) == 0) = false := beq_eq_false_iff_ne.2 (by omega)
      have hck := fun (w' : World) (h : Ax o len D F M w') => check_any o len cap D F M w' h HS.out
      cases hr : ckE D F M len with
      | succ e =>
        rw [hr] at hck
        have hq : ((((e + 1 : Nat) : Int)) != 0) = true := bne_iff_ne.2 (by omega)
        obtain ⟨x, hx⟩ : ∃ x : Int, x = ((e + 1 : Nat) : Int) := ⟨_, rfl⟩
        rw [← hx] at hck hq
        have HK := Lib.hid hck
        clear hr hck hx hn1
        go_enter Try.func4, Try.ntmps4
        go_wp2_with (first
          | (go_at_call 6; refine (awake_any _).mono ?_; rintro e3 w3 ⟨rfl, hb3⟩)
          | (go_at_call 9; refine (HK.out _ (H.out.below hb1 (Nat.le_refl _))).mono ?_; rintro e2 w2 ⟨p2, rfl, hb2⟩)
          | (go_at_call 5; refine HG.out.mono ?_; rintro e w1 ⟨rfl, hb1⟩))
        go_ret
        exact ⟨rfl, (hb1.trans (hb2.mono hb1.size)).trans (hb3.mono (hb1.trans (hb2.mono hb1.size)).size)⟩
      | zero =>
        have hls : Ls D.K n (ckE D F M n) := ckE_less (by rw [← hn1]; exact hr)
        have hck0 : ∀ (w' : World), Ax o len D F M w' → Calls Try.prog 9 #[.slice o len cap] w' fun e w2 => ∃ p, e = .returned (.agg #[.int .i64 0, .int .i64 p]) ∧ Below w'.heap.size w' w2 := fun w' h => by
          have := hck w' h
          rw [hr] at this
          exact this
        have HK := Lib.hid hck0
        have hc2 := fun (w' : World) (h : Ax o n D F M w') => check_any o n cap D F M w' h (HS.out.less (by omega))
        obtain ⟨a, Ab, Ao, As, rfl, hA, hAb, c0, c1, c2, c3, c4⟩ := Dx.place (j := n) H.out.1 (by omega)
        have HC := Lib.hid c0
        have hsub : IntKind.i64.wrap ((len : Int) - 1) = (n : Int) := by rw [IntWalk.i64_in _ (by omega)]; omega
        have hsub2 : (len : Int) - 1 = (n : Int) := by omega
        have hb0 : (0 : Int) ≤ (n : Int) := by omega
        have hbc : (n : Int) ≤ (cap : Int) := by omega
        have hni : (n : Int) < (len : Int) := by omega
        have hnl : n ≤ len := by omega
        clear hr hck hck0 c0 c1 c2 c3 c4 hn1
        obtain ⟨E, hE⟩ : ∃ E, E = ckE D F M n := ⟨_, rfl⟩
        rw [← hE] at hc2 hls
        have HK2 := Lib.hid hc2
        clear hc2 hE
        have HNL := Lib.hid hnl
        clear hnl
        rcases hls with rfl | rfl | ⟨rfl, hk3⟩
        · go_enter Try.func4, Try.ntmps4
          go_wp2_with (first
            | (go_at_call 6; refine (awake_any _).mono ?_; rintro e4 w4 ⟨rfl, hb4⟩)
            | (go_at_call 9; refine (HK2.out _ (ax_less (H.out.below (hb1.trans (hb2.mono hb1.size)) (Nat.le_refl _)) HNL.out)).mono ?_; rintro e3 w3 ⟨p3, rfl, hb3⟩)
            | (go_at_call 9; refine (HK.out _ (H.out.below hb1 (Nat.le_refl _))).mono ?_; rintro e2 w2 ⟨p2, rfl, hb2⟩)
            | (go_at_call 5; refine HG.out.mono ?_; rintro e w1 ⟨rfl, hb1⟩))
          go_ret
          exact ⟨rfl, ((hb1.trans (hb2.mono hb1.size)).trans (hb3.mono (hb1.trans (hb2.mono hb1.size)).size)).trans (hb4.mono ((hb1.trans (hb2.mono hb1.size)).trans (hb3.mono (hb1.trans (hb2.mono hb1.size)).size)).size)⟩
        · go_enter Try.func4, Try.ntmps4
          go_wp2_with (first
            | (go_at_call 6; refine (awake_any _).mono ?_; rintro e4 w4 ⟨rfl, hb4⟩)
            | (go_at_call 9; refine (HK2.out _ (ax_less (H.out.below (hb1.trans (hb2.mono hb1.size)) (Nat.le_refl _)) HNL.out)).mono ?_; rintro e3 w3 ⟨p3, rfl, hb3⟩)
            | (go_at_call 9; refine (HK.out _ (H.out.below hb1 (Nat.le_refl _))).mono ?_; rintro e2 w2 ⟨p2, rfl, hb2⟩)
            | (go_at_call 5; refine HG.out.mono ?_; rintro e w1 ⟨rfl, hb1⟩))
          go_ret
          exact ⟨rfl, ((hb1.trans (hb2.mono hb1.size)).trans (hb3.mono (hb1.trans (hb2.mono hb1.size)).size)).trans (hb4.mono ((hb1.trans (hb2.mono hb1.size)).trans (hb3.mono (hb1.trans (hb2.mono hb1.size)).size)).size)⟩
        · go_enter Try.func4, Try.ntmps4
          have HK3 := Lib.hid hk3
          clear hk3
          go_wp2_with (first
            | (go_at_call 6; refine (awake_any _).mono ?_; rintro e4 w4 ⟨rfl, hb4⟩)
            | (go_at_call 9; refine (HK2.out _ (ax_less (H.out.below (hb1.trans (hb2.mono hb1.size)) (Nat.le_refl _)) HNL.out)).mono ?_; rintro e3 w3 ⟨p3, rfl, hb3⟩; have y0 := (((hb1.trans (hb2.mono hb1.size)).trans (hb3.mono (hb1.trans (hb2.mono hb1.size)).size)).cell (p := ⟨Ab, Ao, As⟩) hAb).trans HC.out; rw [HK3.out] at y0)
            | (go_at_call 9; refine (HK.out _ (H.out.below hb1 (Nat.le_refl _))).mono ?_; rintro e2 w2 ⟨p2, rfl, hb2⟩)
            | (go_at_call 5; refine HG.out.mono ?_; rintro e w1 ⟨rfl, hb1⟩))
          go_ret
          exact ⟨rfl, ((hb1.trans (hb2.mono hb1.size)).trans (hb3.mono (hb1.trans (hb2.mono hb1.size)).size)).trans (hb4.mono ((hb1.trans (hb2.mono hb1.size)).trans (hb3.mono (hb1.trans (hb2.mono hb1.size)).size)).size)⟩
end Go.Proofs.Ythcpepifikpmeaa.Ck
