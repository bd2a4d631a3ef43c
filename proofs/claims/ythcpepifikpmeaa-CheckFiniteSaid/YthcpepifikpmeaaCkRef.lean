/- The reference's fine, one, Finite: what they tell is the mathematics' rounds. -/
import Derived.Test.YthcpepifikpmeaaCkRows
import Derived.Test.YthcpepifikpmeaaNmRef
namespace Go.Proofs.Ythcpepifikpmeaa.Ck
open Go.RowKit Cm _root_.Go.Proofs.Ythcpepifikpmeaa.Nm
set_option linter.unusedVariables false
set_option linter.unusedSimpArgs false

/-- Is a type finite, as far as is known? -/
def tfB (S : Nat → ByteArray) (n : Nat) (X : Nat → Bool) (k : Int) (nm : ByteArray) : Bool := if k = 6 then (match fiS S nm n with | none => false | some j => X j) else true
theorem tf_fd (D : Dl) (F : Nat → Fy) (n : Nat) (X : Nat → Bool) (i k : Nat) : tfB D.S n X ((F i).Y k).k ((F i).Y k).n = fdB (syD D F n) X i k := by
  unfold tfB fdB syD
  by_cases h : ((F i).Y k).k = 6
  · simp only [h, if_true]
    cases fiS D.S ((F i).Y k).n n <;> rfl
  · simp only [h, if_false]

set_option maxRecDepth 100000 in
set_option maxHeartbeats 1000000 in
theorem fine_any (o : Option Addr) (len cap g c2 : Nat) (D : Dl) (X : Nat → Bool) (k : Int) (nm : ByteArray) (ot : Option Addr) (lt ct : Nat) (w : World) (h : Dx o len D w) (hX : Bl g len X w) :
    Calls Try.prog 20 #[.slice o len cap, .agg #[.int .i64 k, .string nm, .slice ot lt ct], .slice (some ⟨g, 0, none⟩) len c2] w fun e w' => e = .returned (.bool (tfB D.S len X k nm)) ∧ Below w.heap.size w w' := by
  have hlen := h.2
  have hB := (Below.refl w.heap.size w).alloc (Nat.le_refl _) (.cells #[.int .i64 k, .string nm, .slice ot lt ct] 38)
  have hX1 : Bl g len X (w.alloc (.cells #[.int .i64 k, .string nm, .slice ot lt ct] 38)) := ri_below hX hB hX.lt
  have H := Lib.hid (h.below hB (Nat.le_refl _))
  have HB := Lib.hid hB
  clear h hX hB
  by_cases hk : k = 6
  · subst hk
    cases hf : fiS D.S nm len with
    | none =>
      have hr := Lib.hid (rfS_none hf)
      have ht : tfB D.S len X 6 nm = false := by unfold tfB; rw [if_pos rfl, hf]
      rw [ht]
      clear hf ht
      go_enter Try.func20, Try.ntmps20
      go_wp2_with (go_at_call 25; refine (rfind_any o len cap D nm _ H.out).mono ?_; rw [hr.out]; rintro e w1 ⟨rfl, rfl⟩)
      go_ret
      exact ⟨rfl, HB.out⟩
    | some i =>
      have hr := Lib.hid (rfS_some hf)
      have hi := (fiS_some hf).1
      have hji : (i : Int) < (len : Int) := by omega
      have hc := hX1.cell hi
      have ht : tfB D.S len X 6 nm = X i := by unfold tfB; rw [if_pos rfl, hf]
      rw [ht]
      clear hf ht
      go_enter Try.func20, Try.ntmps20
      cases hx : X i with
      | true =>
        rw [hx] at hc
        go_wp2_with (go_at_call 25; refine (rfind_any o len cap D nm _ H.out).mono ?_; rw [hr.out]; rintro e w1 ⟨rfl, rfl⟩)
        go_ret
        exact ⟨rfl, HB.out⟩
      | false =>
        rw [hx] at hc
        go_wp2_with (go_at_call 25; refine (rfind_any o len cap D nm _ H.out).mono ?_; rw [hr.out]; rintro e w1 ⟨rfl, rfl⟩)
        go_ret
        exact ⟨rfl, HB.out⟩
  · have ht : tfB D.S len X k nm = true := by unfold tfB; rw [if_neg hk]
    have hq : (!(k == 6)) = true := by simpa using hk
    rw [ht]
    go_enter Try.func20, Try.ntmps20
    go_wp2
    go_ret
    exact ⟨rfl, HB.out⟩

set_option maxRecDepth 100000 in
set_option maxHeartbeats 2000000 in
theorem one_any (o : Option Addr) (len cap g c2 i : Nat) (D : Dl) (F : Nat → Fy) (M : Nat → Ml) (X : Nat → Bool) (w : World) (h : Ax o len D F M w) (hi : i < len) (hX : Bl g len X w) :
    Calls Try.prog 14 #[.slice o len cap, .agg #[.int .i64 (D.K i), .string (D.S i), .slice (D.fo i) (D.fl i) (D.fc i), .slice (D.mo i) (D.ml i) (D.mc i), .int .i64 (D.A i)], .slice (some ⟨g, 0, none⟩) len c2] w
      fun e w' => e = .returned (.bool (onB (syD D F len) X i)) ∧ Below w.heap.size w w' := by
  have hlen := h.1.2
  have hfl : D.fl i ≤ 9223372036854775807 := (h.2 i hi).1.1.2
  have HB0 := Lib.hid ((Below.refl w.heap.size w).alloc (Nat.le_refl _) (.cells #[.int .i64 (D.K i), .string (D.S i), .slice (D.fo i) (D.fl i) (D.fc i), .slice (D.mo i) (D.ml i) (D.mc i), .int .i64 (D.A i)] 34))
  have HC0 := Lib.hid (Cs.new w [.int .i64 (D.K i), .string (D.S i), .slice (D.fo i) (D.fl i) (D.fc i), .slice (D.mo i) (D.ml i) (D.mc i), .int .i64 (D.A i)] 34)
  have H := Lib.hid (And.intro h hX)
  obtain ⟨s, hs⟩ : ∃ s, s = syD D F len := ⟨_, rfl⟩
  have hsl : s.l i = D.fl i := by rw [hs]; rfl
  have hsk : s.K i = D.K i := by rw [hs]; rfl
  have HF : Hid (∀ k, tfB D.S len X ((F i).Y k).k ((F i).Y k).n = fdB s X i k) := Lib.hid (fun k => by rw [hs]; exact tf_fd D F len X i k)
  have HS := Lib.hid (And.intro hsl hsk)
  rw [← hs]
  clear h hX hs hsl hsk
  go_enter Try.func14, Try.ntmps14
  go_wp2
  go_loopw [7, 8] (fun n q wr => ∃ k, k ≤ D.fl i ∧ n = .int .i64 (cnB (fdB s X i) k : Nat) ∧ q = .int .i64 (k : Nat) ∧ Hid (Cs w.heap.size [.int .i64 (D.K i), .string (D.S i), .slice (D.fo i) (D.fl i) (D.fc i), .slice (D.mo i) (D.ml i) (D.mc i), .int .i64 (D.A i)] wr) ∧ Hid (Below w.heap.size w wr)) (fun _ q _ => D.fl i - (intOf q).toNat)
  case atStart => exact ⟨0, by omega, rfl, rfl, HC0, HB0⟩
  case round =>
    obtain ⟨k, hk, rfl, rfl, HC, HB⟩ := hrel
    clear HC0 HB0
    have hsz := HB.out.size
    have d0 := HC.out.cell (i := 0) rfl
    have d2 := HC.out.cell (i := 2) rfl
    have hcn := cnB_le (fdB s X i) k
    by_cases hkl : k < D.fl i
    · have hki : (k : Int) < (D.fl i : Int) := by omega
      have hAx := H.out.1.below HB.out (Nat.le_refl _)
      have HX := Lib.hid (And.intro hAx.1 (ri_below (f := fun i => .bool (X i)) H.out.2 HB.out H.out.2.lt))
      obtain ⟨a2, Bb, Bo, Bs, hfo, hB, hBb, e0, e1, e2, e3, e4, hin⟩ := (hAx.2 i hi).1.place hkl
      clear hAx
      rw [hfo] at d2
      have hf := HF.out k
      cases hb : fdB s X i k with
      | true =>
        have hcn2 := Lib.hid (cnB_hit (p := fdB s X i) hb)
        rw [hb] at hf
        have HF2 := Lib.hid (And.intro hf hfo)
        clear hf hfo
        go_wp2_with (go_at_call 20; refine (fine_any o len cap g c2 D X _ _ _ _ _ _ HX.out.1 HX.out.2).mono ?_; rw [HF2.out.1]; rintro e w2 ⟨rfl, hb2⟩)
        go_roundw
        case rel => exact ⟨k + 1, by omega, by rw [hcn2.out]; go_num, by go_num, HC.out.below hb2 HC.out.lt, HB.out.trans (hb2.mono hsz)⟩
        case measure => simp [intOf]; omega
      | false =>
        have hcn2 := Lib.hid (cnB_miss (p := fdB s X i) hb)
        rw [hb] at hf
        have HF2 := Lib.hid (And.intro hf hfo)
        clear hf hfo
        go_wp2_with (go_at_call 20; refine (fine_any o len cap g c2 D X _ _ _ _ _ _ HX.out.1 HX.out.2).mono ?_; rw [HF2.out.1]; rintro e w2 ⟨rfl, hb2⟩)
        go_roundw
        case rel => exact ⟨k + 1, by omega, by rw [hcn2.out], by go_num, HC.out.below hb2 HC.out.lt, HB.out.trans (hb2.mono hsz)⟩
        case measure => simp [intOf]; omega
    · have hki : ¬ (k : Int) < (D.fl i : Int) := by omega
      obtain rfl : k = D.fl i := by omega
      have hon : onB s X i = ((D.K i == 3) || (D.K i == 4) || ((D.K i == 1) && (cnB (fdB s X i) (D.fl i) == D.fl i)) || ((D.K i == 2) && decide (0 < cnB (fdB s X i) (D.fl i)))) := by unfold onB; rw [HS.out.1, HS.out.2]
      have HO := Lib.hid hon
      clear hon
      obtain ⟨K, hK⟩ : ∃ K, K = D.K i := ⟨_, rfl⟩
      obtain ⟨m, hm⟩ : ∃ m, m = cnB (fdB s X i) (D.fl i) := ⟨_, rfl⟩
      obtain ⟨f, hff⟩ : ∃ f, f = D.fl i := ⟨_, rfl⟩
      rw [← hK] at HO d0
      rw [← hm] at HO hcn
      rw [← hff] at HO d2 hcn
      simp only [← hm]
      simp only [← hff]
      clear hK hm hff
      by_cases k3 : K = 3
      · subst k3
        go_wp2
        go_ret
        exact ⟨by rw [HO.out]; rfl, HB.out⟩
      · have k3' : (K == 3) = false := by simpa using k3
        by_cases k4 : K = 4
        · subst k4
          go_wp2
          go_ret
          exact ⟨by rw [HO.out]; rfl, HB.out⟩
        · have k4' : (K == 4) = false := by simpa using k4
          by_cases k1 : K = 1
          · subst k1
            by_cases hmf : m = f
            · have hmf' : ((m : Int) == (f : Int)) = true := beq_iff_eq.2 (by omega)
              have hmf2 : (m == f) = true := by simpa using hmf
              go_wp2
              go_ret
              exact ⟨by rw [HO.out, hmf2]; rfl, HB.out⟩
            · have hmf' : ((m : Int) == (f : Int)) = false := beq_eq_false_iff_ne.2 (by omega)
              have hmf2 : (m == f) = false := by simpa using hmf
              go_wp2
              go_ret
              exact ⟨by rw [HO.out, hmf2]; rfl, HB.out⟩
          · have k1' : (K == 1) = false := by simpa using k1
            by_cases k2 : K = 2
            · subst k2
              by_cases hm0 : 0 < m
              · have hm0' : (0 : Int) < (m : Int) := by omega
                go_wp2
                go_ret
                exact ⟨by rw [HO.out, decide_eq_true hm0]; rfl, HB.out⟩
              · have hm0' : ¬ (0 : Int) < (m : Int) := by omega
                go_wp2
                go_ret
                exact ⟨by rw [HO.out, decide_eq_false hm0]; rfl, HB.out⟩
            · have k2' : (K == 2) = false := by simpa using k2
              go_wp2
              go_ret
              exact ⟨by rw [HO.out, k3', k4', k1', k2']; rfl, HB.out⟩
end Go.Proofs.Ythcpepifikpmeaa.Ck
