/- check's countNamed and needs; the slice of free ones. -/
import Derived.Test.YthcpepifikpmeaaCkRows
import Derived.Test.YthcpepifikpmeaaCkWait
namespace Go.Proofs.Ythcpepifikpmeaa.Ck
open Go.RowKit Cm _root_.Go.Proofs.Ythcpepifikpmeaa.Nm
set_option linter.unusedVariables false
set_option linter.unusedSimpArgs false

def nmB (F : Fy) (k : Nat) : Bool := decide ((F.Y k).k = 6)
theorem na_nm (D : Dl) (F : Nat → Fy) (n i : Nat) : naB (syD D F n) i = nmB (F i) := by
  funext k
  unfold naB nmB syD
  by_cases h : ((F i).Y k).k = 6 <;> simp [h]
set_option maxRecDepth 100000 in
set_option maxHeartbeats 1000000 in
theorem countnamed_any (o : Option Addr) (len cap : Nat) (F : Fy) (w : World) (h : Yx o len F w) :
    Calls Try.prog 23 #[.slice o len cap] w fun e w' => e = .returned (.int .i64 (cnB (nmB F) len : Nat)) ∧ Below w.heap.size w w' := by
  have hlen := h.1.2
  have H := Lib.hid h
  clear h
  go_enter Try.func23, Try.ntmps23
  go_wp2
  go_loopw [3, 8] (fun n i wr => ∃ j, j ≤ len ∧ n = .int .i64 (cnB (nmB F) j : Nat) ∧ i = .int .i64 (j : Nat) ∧ Hid (Below w.heap.size w wr)) (fun _ i _ => len - (intOf i).toNat)
  case atStart => exact ⟨0, by omega, rfl, rfl, Lib.hid (Below.refl _ _)⟩
  case round =>
    obtain ⟨j, hj, rfl, rfl, HB⟩ := hrel
    have hcn := cnB_le (nmB F) j
    have hsz := HB.out.size
    by_cases hjl : j < len
    · have hji : (j : Int) < (len : Int) := by omega
      obtain ⟨a, Ab, Ao, As, rfl, hA, hAb, c0, c1, c2, c3, c4, hin⟩ := (H.out.below HB.out (Nat.le_refl _)).place hjl
      clear hin
      have HB2 := Lib.hid (HB.out.alloc hsz (.cells #[.int .i64 (F.T j), .string (F.N j), .int .i64 (F.Y j).k, .string (F.Y j).n, .slice (F.Y j).o (F.Y j).of.length (F.Y j).c] 40))
      by_cases hk : (F.Y j).k = 6
      · have hc := Lib.hid (cnB_hit (p := nmB F) (n := j) (decide_eq_true hk))
        rw [hk] at c2
        have HK := Lib.hid hk
        clear hk
        rw [HK.out] at HB2
        go_wp2
        go_roundw
        case rel => exact ⟨j + 1, by omega, by rw [hc.out]; go_num, by go_num, HB2⟩
        case measure => simp [intOf]; omega
      · have hc := Lib.hid (cnB_miss (p := nmB F) (n := j) (decide_eq_false hk))
        have hq : ((F.Y j).k == 6) = false := by simpa using hk
        clear hk
        go_wp2
        go_roundw
        case rel => exact ⟨j + 1, by omega, by rw [hc.out], by go_num, HB2⟩
        case measure => simp [intOf]; omega
    · have hji : ¬ (j : Int) < (len : Int) := by omega
      obtain rfl : j = len := by omega
      go_wp2
      go_ret
      exact ⟨rfl, HB.out⟩

set_option maxRecDepth 100000 in
set_option maxHeartbeats 1000000 in
theorem needs_any (o : Option Addr) (len i : Nat) (D : Dl) (F : Nat → Fy) (M : Nat → Ml) (w : World) (h : Ax o len D F M w) (hi : i < len) :
    Calls Try.prog 18 #[.agg #[.int .i64 (D.K i), .string (D.S i), .slice (D.fo i) (D.fl i) (D.fc i), .slice (D.mo i) (D.ml i) (D.mc i), .int .i64 (D.A i)]] w
      fun e w' => e = .returned (.int .i64 (ndS (syD D F len) i)) ∧ Below w.heap.size w w' := by
  have hfl : D.fl i ≤ 9223372036854775807 := (h.2 i hi).1.1.2
  have hB := ((Below.refl w.heap.size w).alloc (Nat.le_refl _) (.cells #[.int .i64 (D.K i), .string (D.S i), .slice (D.fo i) (D.fl i) (D.fc i), .slice (D.mo i) (D.ml i) (D.mc i), .int .i64 (D.A i)] 34))
  have hC := (Cs.new w [.int .i64 (D.K i), .string (D.S i), .slice (D.fo i) (D.fl i) (D.fc i), .slice (D.mo i) (D.ml i) (D.mc i), .int .i64 (D.A i)] 34)
  have HY := Lib.hid ((h.2 i hi).1.below hB (Nat.le_refl _))
  have HB := Lib.hid hB
  have HC := Lib.hid hC
  have hnd : ndS (syD D F len) i = (if D.K i = 1 then (cnB (nmB (F i)) (D.fl i) : Int) else if D.K i = 2 then (if cnB (nmB (F i)) (D.fl i) < D.fl i then 0 else 1) else if D.K i = 3 ∨ D.K i = 4 then 0 else 1) := by
    rw [← na_nm D F len i]; rfl
  rw [hnd]
  have hcn := cnB_le (nmB (F i)) (D.fl i)
  clear h hB hC hnd
  obtain ⟨m, hm⟩ : ∃ m, m = cnB (nmB (F i)) (D.fl i) := ⟨_, rfl⟩
  have hmc := countnamed_any (D.fo i) (D.fl i) (D.fc i) (F i)
  rw [← hm] at hmc hcn ⊢
  clear hm
  have HM := Lib.hid hmc
  clear hmc
  obtain ⟨K, hK⟩ : ∃ K, K = D.K i := ⟨_, rfl⟩
  obtain ⟨f, hff⟩ : ∃ f, f = D.fl i := ⟨_, rfl⟩
  rw [← hff] at HM HC HB HY hcn hfl ⊢
  rw [← hK] at HC HB HY ⊢
  clear hff hK
  by_cases k1 : K = 1
  · subst k1
    rw [if_pos rfl]
    go_enter Try.func18, Try.ntmps18
    go_wp2_with (go_at_call 23; refine (HM.out _ HY.out).mono ?_; rintro e w1 ⟨rfl, hb1⟩; have d0 := (HC.out.below hb1 HC.out.lt).cell (i := 0) rfl)
    go_ret
    exact ⟨rfl, HB.out.trans (hb1.mono HB.out.size)⟩
  · have k1' : (K == 1) = false := by simpa using k1
    rw [if_neg k1]
    by_cases k2 : K = 2
    · subst k2
      rw [if_pos rfl]
      by_cases hmf : m < f
      · have hmf' : (m : Int) < (f : Int) := by omega
        rw [if_pos hmf]
        go_enter Try.func18, Try.ntmps18
        go_wp2_with (go_at_call 23; refine (HM.out _ HY.out).mono ?_; rintro e w1 ⟨rfl, hb1⟩; have d0 := (HC.out.below hb1 HC.out.lt).cell (i := 0) rfl; have d2 := (HC.out.below hb1 HC.out.lt).cell (i := 2) rfl)
        go_ret
        exact ⟨rfl, HB.out.trans (hb1.mono HB.out.size)⟩
      · have hmf' : ¬ (m : Int) < (f : Int) := by omega
        rw [if_neg hmf]
        go_enter Try.func18, Try.ntmps18
        go_wp2_with (go_at_call 23; refine (HM.out _ HY.out).mono ?_; rintro e w1 ⟨rfl, hb1⟩; have d0 := (HC.out.below hb1 HC.out.lt).cell (i := 0) rfl; have d2 := (HC.out.below hb1 HC.out.lt).cell (i := 2) rfl)
        go_ret
        exact ⟨rfl, HB.out.trans (hb1.mono HB.out.size)⟩
    · have k2' : (K == 2) = false := by simpa using k2
      rw [if_neg k2]
      by_cases k3 : K = 3
      · subst k3
        rw [if_pos (.inl rfl)]
        go_enter Try.func18, Try.ntmps18
        go_wp2_with (go_at_call 23; refine (HM.out _ HY.out).mono ?_; rintro e w1 ⟨rfl, hb1⟩; have d0 := (HC.out.below hb1 HC.out.lt).cell (i := 0) rfl)
        go_ret
        exact ⟨rfl, HB.out.trans (hb1.mono HB.out.size)⟩
      · have k3' : (K == 3) = false := by simpa using k3
        by_cases k4 : K = 4
        · subst k4
          rw [if_pos (.inr rfl)]
          go_enter Try.func18, Try.ntmps18
          go_wp2_with (go_at_call 23; refine (HM.out _ HY.out).mono ?_; rintro e w1 ⟨rfl, hb1⟩; have d0 := (HC.out.below hb1 HC.out.lt).cell (i := 0) rfl)
          go_ret
          exact ⟨rfl, HB.out.trans (hb1.mono HB.out.size)⟩
        · have k4' : (K == 4) = false := by simpa using k4
          rw [if_neg (by omega)]
          go_enter Try.func18, Try.ntmps18
          go_wp2_with (go_at_call 23; refine (HM.out _ HY.out).mono ?_; rintro e w1 ⟨rfl, hb1⟩; have d0 := (HC.out.below hb1 HC.out.lt).cell (i := 0) rfl)
          go_ret
          exact ⟨rfl, HB.out.trans (hb1.mono HB.out.size)⟩
end Go.Proofs.Ythcpepifikpmeaa.Ck
