/- check's wrongRows. -/
import Derived.Test.YthcpepifikpmeaaCkField
namespace Go.Proofs.Ythcpepifikpmeaa.Ck
open Go.RowKit Cm _root_.Go.Proofs.Ythcpepifikpmeaa.Nm
set_option linter.unusedVariables false
set_option linter.unusedSimpArgs false

def tsH (T : Nat → Int) (k : Nat) : Int → Bool := fun x => anB (fun j => decide (T j = x)) k
def nsH (N : Nat → ByteArray) (k : Nat) : ByteArray → Bool := fun x => anB (fun j => decide (N j = x)) k
theorem ts_next (T : Nat → Int) (k : Nat) : adH (tsH T k) (T k) = tsH T (k + 1) := by
  funext x
  show (anB (fun j => decide (T j = x)) k || decide (x = T k)) = (anB (fun j => decide (T j = x)) k || decide (T k = x))
  congr 1
  exact decide_eq_decide.2 ⟨Eq.symm, Eq.symm⟩
theorem ns_next (N : Nat → ByteArray) (k : Nat) : adH (nsH N k) (N k) = nsH N (k + 1) := by
  funext x
  show (anB (fun j => decide (N j = x)) k || decide (x = N k)) = (anB (fun j => decide (N j = x)) k || decide (N k = x))
  congr 1
  exact decide_eq_decide.2 ⟨Eq.symm, Eq.symm⟩
theorem anB_or (p q : Nat → Bool) (k : Nat) : anB (fun j => p j || q j) k = (anB p k || anB q k) := by
  induction k with
  | zero => rfl
  | succ k ih =>
    show (anB (fun j => p j || q j) k || (p k || q k)) = ((anB p k || p k) || (anB q k || q k))
    rw [ih]
    cases anB p k <;> cases anB q k <;> cases p k <;> cases q k <;> rfl
def t2H (A B : Nat → Int) (l k : Nat) : Int → Bool := fun x => tsH A l x || tsH B k x
def n2H (A B : Nat → ByteArray) (l k : Nat) : ByteArray → Bool := fun x => nsH A l x || nsH B k x
theorem t2_next (A B : Nat → Int) (l k : Nat) : adH (t2H A B l k) (B k) = t2H A B l (k + 1) := by
  funext x
  show ((tsH A l x || tsH B k x) || decide (x = B k)) = (tsH A l x || tsH B (k + 1) x)
  rw [← ts_next B k, Bool.or_assoc]; rfl
theorem n2_next (A B : Nat → ByteArray) (l k : Nat) : adH (n2H A B l k) (B k) = n2H A B l (k + 1) := by
  funext x
  show ((nsH A l x || nsH B k x) || decide (x = B k)) = (nsH A l x || nsH B (k + 1) x)
  rw [← ns_next B k, Bool.or_assoc]; rfl
theorem t2_zero (A B : Nat → Int) (l : Nat) : t2H A B l 0 = tsH A l := by
  funext x
  show (tsH A l x || false) = tsH A l x
  simp
theorem n2_zero (A B : Nat → ByteArray) (l : Nat) : n2H A B l 0 = nsH A l := by
  funext x
  show (nsH A l x || false) = nsH A l x
  simp
section
variable {S : Nat → ByteArray} {K : Nat → Int} {n : Nat} {Kd : Int} {F : Fy} {M : Ml} {k l : Nat}
theorem fd_eq : fdE S K n Kd F k = (match hwE (loZ Kd) (hiZ Kd) (tsH F.T k) (nsH F.N k) (F.T k) (F.N k) with | 0 => wfE S K n Kd (F.Y k) | e + 1 => e + 1) := by
  have e : anB (fun j => decide (F.T j = F.T k) || decide (F.N j = F.N k)) k = (tsH F.T k (F.T k) || nsH F.N k (F.N k)) := anB_or _ _ _
  unfold fdE hwE
  rw [tg_iff, e]
  by_cases h1 : decide (loZ Kd ≤ F.T k ∧ F.T k ≤ hiZ Kd) = false
  · rw [if_pos h1, if_pos h1]
  · rw [if_neg h1, if_neg h1]
    by_cases h2 : (tsH F.T k (F.T k) || nsH F.N k (F.N k)) = true
    · rw [if_pos h2, if_pos h2]
    · rw [if_neg h2, if_neg h2]
      unfold wfE
      by_cases h3 : Kd = 3
      · rw [if_pos h3, if_pos h3]
      · rw [if_neg h3, if_neg h3]
        cases tyE S K n (F.Y k) false <;> rfl
theorem fd_bad {e : Nat} (h : hwE (loZ Kd) (hiZ Kd) (tsH F.T k) (nsH F.N k) (F.T k) (F.N k) = e + 1) : fdE S K n Kd F k = e + 1 := by rw [fd_eq, h]
theorem fd_good (h : hwE (loZ Kd) (hiZ Kd) (tsH F.T k) (nsH F.N k) (F.T k) (F.N k) = 0) : fdE S K n Kd F k = wfE S K n Kd (F.Y k) := by rw [fd_eq, h]
theorem md_eq : mdE S K n Kd l F M k = (match hwE (loZ Kd) (hiZ Kd) (t2H F.T M.T l k) (n2H F.N M.N l k) (M.T k) (M.N k) with | 0 => wmE S K n (M.I k) (M.O k) | e + 1 => e + 1) := by
  have e1 : anB (fun j => decide (F.T j = M.T k) || decide (F.N j = M.N k)) l = (tsH F.T l (M.T k) || nsH F.N l (M.N k)) := anB_or _ _ _
  have e2 : anB (fun j => decide (M.T j = M.T k) || decide (M.N j = M.N k)) k = (tsH M.T k (M.T k) || nsH M.N k (M.N k)) := anB_or _ _ _
  have e3 : (t2H F.T M.T l k (M.T k) || n2H F.N M.N l k (M.N k)) = ((tsH F.T l (M.T k) || nsH F.N l (M.N k)) || (tsH M.T k (M.T k) || nsH M.N k (M.N k))) := by
    show ((tsH F.T l (M.T k) || tsH M.T k (M.T k)) || (nsH F.N l (M.N k) || nsH M.N k (M.N k))) = _
    cases tsH F.T l (M.T k) <;> cases tsH M.T k (M.T k) <;> cases nsH F.N l (M.N k) <;> cases nsH M.N k (M.N k) <;> rfl
  unfold mdE hwE
  rw [tg_iff, e1, e2, e3]
  by_cases h1 : decide (loZ Kd ≤ M.T k ∧ M.T k ≤ hiZ Kd) = false
  · rw [if_pos h1, if_pos h1]
  · rw [if_neg h1, if_neg h1]
    by_cases h2 : (tsH F.T l (M.T k) || nsH F.N l (M.N k)) = true
    · rw [if_pos h2, h2]; rfl
    · rw [if_neg h2]
      have h2' : (tsH F.T l (M.T k) || nsH F.N l (M.N k)) = false := by simpa using h2
      rw [h2', Bool.false_or]
      by_cases h3 : (tsH M.T k (M.T k) || nsH M.N k (M.N k)) = true
      · rw [if_pos h3, if_pos h3]
      · rw [if_neg h3, if_neg h3]
        unfold wmE
        cases stE S K n (M.I k) <;> rfl
theorem md_bad {e : Nat} (h : hwE (loZ Kd) (hiZ Kd) (t2H F.T M.T l k) (n2H F.N M.N l k) (M.T k) (M.N k) = e + 1) : mdE S K n Kd l F M k = e + 1 := by rw [md_eq, h]
theorem md_good (h : hwE (loZ Kd) (hiZ Kd) (t2H F.T M.T l k) (n2H F.N M.N l k) (M.T k) (M.N k) = 0) : mdE S K n Kd l F M k = wmE S K n (M.I k) (M.O k) := by rw [md_eq, h]
end
theorem fz_up {p : Nat → Nat} {k m e : Nat} (hk : k ≤ m) (h : fzE p k = e + 1) : fzE p m = e + 1 := by
  induction m with
  | zero => obtain rfl : k = 0 := by omega
            exact h
  | succ m ih =>
    by_cases e2 : k = m + 1
    · subst e2; exact h
    · show (match fzE p m with | 0 => p m | e + 1 => e + 1) = e + 1
      rw [ih (by omega)]
theorem fz_at {p : Nat → Nat} {k m e : Nat} (hk : k < m) (h0 : fzE p k = 0) (h : p k = e + 1) : fzE p m = e + 1 := by
  refine fz_up (k := k + 1) hk ?_
  show (match fzE p k with | 0 => p k | e + 1 => e + 1) = e + 1
  rw [h0]; exact h
theorem fz_on {p : Nat → Nat} {k : Nat} (h0 : fzE p k = 0) (h : p k = 0) : fzE p (k + 1) = 0 := by
  show (match fzE p k with | 0 => p k | e + 1 => e + 1) = 0
  rw [h0]; exact h
/-- What wrongRows tells. -/
def wrE (S : Nat → ByteArray) (K : Nat → Int) (n : Nat) (Kd : Int) (fl ml : Nat) (F : Fy) (M : Ml) : Nat := match fzE (fdE S K n Kd F) fl with
  | e + 1 => e + 1
  | 0 => fzE (mdE S K n Kd fl F M) ml

/-- What its loops keep. -/
structure Wr (Bt Bn hb c : Nat) (Kd : Int) (db : List Value) (w : World) (HT : Int → Bool) (HN : ByteArray → Bool) (wr : World) : Prop where
  sh : Sh Bt Bn c HT HN wr
  box : Cs w.heap.size db wr
  hd : Cs hb [.int .i64 (loZ Kd), .int .i64 (hiZ Kd), .map (some Bt), .map (some Bn)] wr
  below : Below w.heap.size w wr
structure Wg (Bt Bn hb : Nat) (w : World) : Prop where
  t : w.heap.size < Bt
  n : w.heap.size < Bn
  ht : hb ≠ Bt
  hn : hb ≠ Bn
  hw : w.heap.size < hb
section
variable {Bt Bn hb c c' : Nat} {Kd : Int} {db : List Value} {w wr w' : World} {HT HT' : Int → Bool} {HN HN' : ByteArray → Bool}
theorem Wr.step (h : Wr Bt Bn hb c Kd db w HT HN wr) (hB : Below wr.heap.size wr w') : Wr Bt Bn hb c Kd db w HT HN w' :=
  ⟨h.sh.step hB, h.box.below hB h.box.lt, h.hd.below hB h.hd.lt, h.below.trans (hB.mono h.below.size)⟩
theorem Wr.tw (h : Wr Bt Bn hb c Kd db w HT HN wr) (hg : Wg Bt Bn hb w) (ht : Tw Bt Bn wr w') (hs : Sh Bt Bn c' HT' HN' w') : Wr Bt Bn hb c' Kd db w HT' HN' w' :=
  ⟨hs, cs_tw h.box ht (by have := hg.t; omega) (by have := hg.n; omega), cs_tw h.hd ht hg.ht hg.hn, h.below.trans (ht.below (by have := hg.t; omega) (by have := hg.n; omega) h.below.size)⟩
theorem Wr.bel (h : Wr Bt Bn hb c Kd db w HT HN wr) (hg : Wg Bt Bn hb w) (ht : Tw Bt Bn wr w') : Below w.heap.size w w' :=
  h.below.trans (ht.below (by have := hg.t; omega) (by have := hg.n; omega) h.below.size)
end
theorem loB (K : Int) : 0 ≤ loZ K := by unfold loZ; split <;> omega
theorem hiB' (K : Int) : hiZ K ≤ 10000 := by unfold hiZ; split <;> omega

set_option maxRecDepth 100000 in
set_option maxHeartbeats 8000000 in
theorem wrows_any (T n : Nat) (S : Nat → ByteArray) (K : Nat → Int) (Kd At : Int) (Sd : ByteArray) (fo mo : Option Addr) (fl fc ml mc : Nat) (F : Fy) (M : Ml) (w : World) (h : Tb T n S K w) (hF : Yx fo fl F w) (hM : Mx mo ml M w)
    (hfl : fl ≤ 30) (hml : ml ≤ 30) (hdp : ∀ k, k < fl → dpT (F.Y k) ≤ 131072) :
    Calls Try.prog 22 #[.pointer (some ⟨T, 0, none⟩), .agg #[.int .i64 Kd, .string Sd, .slice fo fl fc, .slice mo ml mc, .int .i64 At]] w fun e w' => e = .returned (.int .i64 (wrE S K n Kd fl ml F M : Nat)) ∧ Below w.heap.size w w' := by
  have hB0 := (Below.refl w.heap.size w).alloc (Nat.le_refl _) (.cells #[.int .i64 Kd, .string Sd, .slice fo fl fc, .slice mo ml mc, .int .i64 At] 34)
  have HC0 := Lib.hid (Cs.new w [.int .i64 Kd, .string Sd, .slice fo fl fc, .slice mo ml mc, .int .i64 At] 34)
  have HB0 := Lib.hid hB0
  have HZ0 : Hid ((w.alloc (.cells #[.int .i64 Kd, .string Sd, .slice fo fl fc, .slice mo ml mc, .int .i64 At] 34)).heap.size = w.heap.size + 1) := Lib.hid (by simp)
  have HT := Lib.hid h
  have HFX := Lib.hid hF
  have HMX := Lib.hid hM
  have HDP := Lib.hid hdp
  have hfl2 : fl ≤ 9223372036854775807 := by omega
  have hml2 : ml ≤ 9223372036854775807 := by omega
  clear h hF hM hdp hB0
  go_enter Try.func22, Try.ntmps22
  go_wp2_with (go_at_call 27; refine (headsof_any Kd _).mono ?_; rintro e w1 ⟨Bt, Bn, rfl, hbt, hbn, hsh, hb1⟩; have c2 := ((HC0.out.below hb1 HC0.out.lt).alloc (.cells #[.int .i64 (loZ Kd), .int .i64 (hiZ Kd), .map (some Bt), .map (some Bn)] 71)).cell (i := 2) rfl)
  have hz := HZ0.out
  have HG : Hid (Wg Bt Bn w1.heap.size w) := Lib.hid ⟨by omega, by omega, by have := hsh.t.lt; omega, by have := hsh.n.lt; omega, by have := hb1.size; omega⟩
  have HW0 : Hid (Wr Bt Bn w1.heap.size 0 Kd [.int .i64 Kd, .string Sd, .slice fo fl fc, .slice mo ml mc, .int .i64 At] w (tsH F.T 0) (nsH F.N 0) (w1.alloc (.cells #[.int .i64 (loZ Kd), .int .i64 (hiZ Kd), .map (some Bt), .map (some Bn)] 71))) :=
    Lib.hid ⟨hsh.step ((Below.refl _ _).alloc (Nat.le_refl _) _), (HC0.out.below hb1 HC0.out.lt).alloc _, Cs.new w1 [.int .i64 (loZ Kd), .int .i64 (hiZ Kd), .map (some Bt), .map (some Bn)] 71, (HB0.out.trans (hb1.mono HB0.out.size)).alloc (Nat.le_trans HB0.out.size hb1.size) _⟩
  clear hbt hbn hsh hb1 hz c2
  go_loopw [20] (fun i wr => ∃ k, k ≤ fl ∧ i = .int .i64 (k : Nat) ∧ Hid (fzE (fdE S K n Kd F) k = 0) ∧ Hid (Wr Bt Bn w1.heap.size k Kd [.int .i64 Kd, .string Sd, .slice fo fl fc, .slice mo ml mc, .int .i64 At] w (tsH F.T k) (nsH F.N k) wr)) (fun i _ => fl - (intOf i).toNat)
  case atStart => exact ⟨0, by omega, rfl, Lib.hid rfl, HW0⟩
  case round =>
    obtain ⟨k, hk, rfl, HZ, HW⟩ := hrel
    clear HW0
    by_cases hkl : k < fl
    · have hki : (k : Int) < (fl : Int) := by omega
      obtain ⟨a2, Bb, Bo, Bs, rfl, hB, hBb, f0, f1, f2, f3, f4, hin⟩ := (HFX.out.below HW.out.below (Nat.le_refl _)).place hkl
      have hnz := (HFX.out.2 k hkl).2
      have HIN := Lib.hid hin
      have hst := (Below.refl wr.heap.size wr).alloc (Nat.le_refl _) (.cells #[.int .i64 (F.T k), .string (F.N k), .int .i64 (F.Y k).k, .string (F.Y k).n, .slice (F.Y k).o (F.Y k).of.length (F.Y k).c] 40)
      have HW2 := Lib.hid (HW.out.step hst)
      have HCf := Lib.hid (Cs.new wr [.int .i64 (F.T k), .string (F.N k), .int .i64 (F.Y k).k, .string (F.Y k).n, .slice (F.Y k).o (F.Y k).of.length (F.Y k).c] 40)
      have g0 := HW2.out.hd.cell (i := 0) rfl
      have g1 := HW2.out.hd.cell (i := 1) rfl
      have g2 := HW2.out.hd.cell (i := 2) rfl
      have g3 := HW2.out.hd.cell (i := 3) rfl
      have hbtl : wr.heap.size ≠ Bt := by have := HW.out.sh.t.lt; omega
      have hbnl : wr.heap.size ≠ Bn := by have := HW.out.sh.n.lt; omega
      have hw := hwrong_any (loZ Kd) (hiZ Kd) Bt Bn k (tsH F.T k) (nsH F.N k) (F.T k) (F.N k) _ HW2.out.sh (by omega) (loB Kd) (hiB' Kd) hnz
      clear hin hst
      cases hr : hwE (loZ Kd) (hiZ Kd) (tsH F.T k) (nsH F.N k) (F.T k) (F.N k) with
      | succ e =>
        rw [hr] at hw
        have HH := Lib.hid hw
        have he : wrE S K n Kd fl ml F M = e + 1 := by unfold wrE; rw [fz_at hkl HZ.out (fd_bad hr)]
        have HE := Lib.hid he
        have hq : ((((e + 1 : Nat) : Int)) != 0) = true := bne_iff_ne.2 (by omega)
        obtain ⟨x, hx⟩ : ∃ x : Int, x = ((e + 1 : Nat) : Int) := ⟨_, rfl⟩
        rw [← hx] at HH hq
        have HX := Lib.hid hx
        clear hr hw he hx
        go_wp2_with (go_at_call 28; refine HH.out.mono ?_; rintro e2 w2 ⟨rfl, ht2, _⟩)
        go_ret
        exact ⟨by rw [HE.out, ← HX.out]; rfl, HW2.out.bel HG.out ht2⟩
      | zero =>
        rw [hr] at hw
        have HH := Lib.hid hw
        have hgd := fd_good (S := S) (K := K) (n := n) hr
        clear hr hw
        have hwf := wfield_any T n S K Kd (F.Y k)
        cases hr2 : wfE S K n Kd (F.Y k) with
        | succ e =>
          rw [hr2] at hwf hgd
          have HF2 := Lib.hid hwf
          have he : wrE S K n Kd fl ml F M = e + 1 := by unfold wrE; rw [fz_at hkl HZ.out hgd]
          have HE := Lib.hid he
          have hq : ((((e + 1 : Nat) : Int)) != 0) = true := bne_iff_ne.2 (by omega)
          obtain ⟨x, hx⟩ : ∃ x : Int, x = ((e + 1 : Nat) : Int) := ⟨_, rfl⟩
          rw [← hx] at HF2 hq
          have HX := Lib.hid hx
          clear hr2 hwf he hx hgd
          go_wp2_with (first
            | (go_at_call 29; refine (HF2.out _ (HT.out.below hW3.below) (ty_below (w := w) ((HFX.out.2 k hkl).1) hW3.below (Nat.le_refl _)) (HDP.out k hkl)).mono ?_; rintro e3 w3 ⟨rfl, hb3⟩)
            | (go_at_call 28; refine HH.out.mono ?_; rintro e2 w2 ⟨rfl, ht2, hs2⟩; have hW3 := HW2.out.tw HG.out ht2 (hs2 rfl); have hcf := cs_tw HCf.out ht2 hbtl hbnl; have y0 := hW3.box.cell (i := 0) rfl; have y2 := hcf.cell (i := 2) rfl; have y3 := hcf.cell (i := 3) rfl; have y4 := hcf.cell (i := 4) rfl))
          go_ret
          exact ⟨by rw [HE.out, ← HX.out]; rfl, (hW3.step hb3).below⟩
        | zero =>
          rw [hr2] at hwf hgd
          have HF2 := Lib.hid hwf
          have HGD := Lib.hid hgd
          clear hr2 hwf hgd
          go_wp2_with (first
            | (go_at_call 29; refine (HF2.out _ (HT.out.below hW3.below) (ty_below (w := w) ((HFX.out.2 k hkl).1) hW3.below (Nat.le_refl _)) (HDP.out k hkl)).mono ?_; rintro e3 w3 ⟨rfl, hb3⟩)
            | (go_at_call 28; refine HH.out.mono ?_; rintro e2 w2 ⟨rfl, ht2, hs2⟩; have hW3 := HW2.out.tw HG.out ht2 (hs2 rfl); have hcf := cs_tw HCf.out ht2 hbtl hbnl; have y0 := hW3.box.cell (i := 0) rfl; have y2 := hcf.cell (i := 2) rfl; have y3 := hcf.cell (i := 3) rfl; have y4 := hcf.cell (i := 4) rfl))
          go_roundw
          case rel => exact ⟨k + 1, by omega, by go_num, Lib.hid (fz_on HZ.out HGD.out), Lib.hid (by rw [← ts_next, ← ns_next]; exact hW3.step hb3)⟩
          case measure => simp [intOf]; omega
    · have hki : ¬ (k : Int) < (fl : Int) := by omega
      obtain rfl : k = fl := by omega
      have c3 := HW.out.box.cell (i := 3) rfl
      have HWM : Hid (Wr Bt Bn w1.heap.size (k + 0) Kd [.int .i64 Kd, .string Sd, .slice fo k fc, .slice mo ml mc, .int .i64 At] w (t2H F.T M.T k 0) (n2H F.N M.N k 0) wr) := Lib.hid (by rw [t2_zero, n2_zero]; exact HW.out)
      go_wp2
      clear c3
      go_loopw [46] (fun i wq => ∃ j, j ≤ ml ∧ i = .int .i64 (j : Nat) ∧ Hid (fzE (mdE S K n Kd k F M) j = 0) ∧ Hid (Wr Bt Bn w1.heap.size (k + j) Kd [.int .i64 Kd, .string Sd, .slice fo k fc, .slice mo ml mc, .int .i64 At] w (t2H F.T M.T k j) (n2H F.N M.N k j) wq)) (fun i _ => ml - (intOf i).toNat)
      case atStart => exact ⟨0, by omega, rfl, Lib.hid rfl, HWM⟩
      case round =>
        obtain ⟨j, hj, rfl, HZM, HQ⟩ := hrel
        clear HWM HW
        by_cases hjl : j < ml
        · have hji : (j : Int) < (ml : Int) := by omega
          obtain ⟨a2, Bb, Bo, Bs, rfl, hB, hBb, f0, f1, f2, f3, f4⟩ := (HMX.out.below HQ.out.below (Nat.le_refl _)).place hjl
          have hn1 := (HMX.out.1 j hjl).choose_spec.2.2.2.1
          have hn2 := (HMX.out.1 j hjl).choose_spec.2.2.2.2.1
          have hn3 := (HMX.out.1 j hjl).choose_spec.2.2.2.2.2
          have hst := (Below.refl wr.heap.size wr).alloc (Nat.le_refl _) (.cells #[.int .i64 (M.T j), .string (M.N j), .string (M.I j), .string (M.O j), .bool (M.W j)] 76)
          have HW2 := Lib.hid (HQ.out.step hst)
          have HCf := Lib.hid (Cs.new wr [.int .i64 (M.T j), .string (M.N j), .string (M.I j), .string (M.O j), .bool (M.W j)] 76)
          have g0 := HW2.out.hd.cell (i := 0) rfl
          have g1 := HW2.out.hd.cell (i := 1) rfl
          have g2 := HW2.out.hd.cell (i := 2) rfl
          have g3 := HW2.out.hd.cell (i := 3) rfl
          have hbtl : wr.heap.size ≠ Bt := by have := HQ.out.sh.t.lt; omega
          have hbnl : wr.heap.size ≠ Bn := by have := HQ.out.sh.n.lt; omega
          have hw := hwrong_any (loZ Kd) (hiZ Kd) Bt Bn (k + j) (t2H F.T M.T k j) (n2H F.N M.N k j) (M.T j) (M.N j) _ HW2.out.sh (by omega) (loB Kd) (hiB' Kd) hn1
          clear hst
          cases hr : hwE (loZ Kd) (hiZ Kd) (t2H F.T M.T k j) (n2H F.N M.N k j) (M.T j) (M.N j) with
          | succ e =>
            rw [hr] at hw
            have HH := Lib.hid hw
            have he : wrE S K n Kd k ml F M = e + 1 := by unfold wrE; rw [HZ.out]; exact fz_at hjl HZM.out (md_bad hr)
            have HE := Lib.hid he
            have hq : ((((e + 1 : Nat) : Int)) != 0) = true := bne_iff_ne.2 (by omega)
            obtain ⟨x, hx⟩ : ∃ x : Int, x = ((e + 1 : Nat) : Int) := ⟨_, rfl⟩
            rw [← hx] at HH hq
            have HX := Lib.hid hx
            clear hr hw he hx
            go_wp2_with (go_at_call 28; refine HH.out.mono ?_; rintro e2 w2 ⟨rfl, ht2, _⟩)
            go_ret
            exact ⟨by rw [HE.out, ← HX.out]; rfl, HW2.out.bel HG.out ht2⟩
          | zero =>
            rw [hr] at hw
            have HH := Lib.hid hw
            have hgd := md_good (S := S) (K := K) (n := n) hr
            clear hr hw
            have hwf := wmethod_any T n S K (M.T j) (M.N j) (M.I j) (M.O j) (M.W j)
            cases hr2 : wmE S K n (M.I j) (M.O j) with
            | succ e =>
              rw [hr2] at hwf hgd
              have HF2 := Lib.hid hwf
              have he : wrE S K n Kd k ml F M = e + 1 := by unfold wrE; rw [HZ.out]; exact fz_at hjl HZM.out hgd
              have HE := Lib.hid he
              have hq : ((((e + 1 : Nat) : Int)) != 0) = true := bne_iff_ne.2 (by omega)
              obtain ⟨x, hx⟩ : ∃ x : Int, x = ((e + 1 : Nat) : Int) := ⟨_, rfl⟩
              rw [← hx] at HF2 hq
              have HX := Lib.hid hx
              clear hr2 hwf he hx hgd
              go_wp2_with (first
                | (go_at_call 30; refine (HF2.out _ (HT.out.below hW3.below) hn2 hn3).mono ?_; rintro e3 w3 ⟨rfl, hb3⟩)
                | (go_at_call 28; refine HH.out.mono ?_; rintro e2 w2 ⟨rfl, ht2, hs2⟩; have hW3 := HW2.out.tw HG.out ht2 (hs2 rfl); have hcf := cs_tw HCf.out ht2 hbtl hbnl; have y0 := hcf.cell (i := 0) rfl; have y1 := hcf.cell (i := 1) rfl; have y2 := hcf.cell (i := 2) rfl; have y3 := hcf.cell (i := 3) rfl; have y4 := hcf.cell (i := 4) rfl))
              go_ret
              exact ⟨by rw [HE.out, ← HX.out]; rfl, (hW3.step hb3).below⟩
            | zero =>
              rw [hr2] at hwf hgd
              have HF2 := Lib.hid hwf
              have HGD := Lib.hid hgd
              clear hr2 hwf hgd
              go_wp2_with (first
                | (go_at_call 30; refine (HF2.out _ (HT.out.below hW3.below) hn2 hn3).mono ?_; rintro e3 w3 ⟨rfl, hb3⟩)
                | (go_at_call 28; refine HH.out.mono ?_; rintro e2 w2 ⟨rfl, ht2, hs2⟩; have hW3 := HW2.out.tw HG.out ht2 (hs2 rfl); have hcf := cs_tw HCf.out ht2 hbtl hbnl; have y0 := hcf.cell (i := 0) rfl; have y1 := hcf.cell (i := 1) rfl; have y2 := hcf.cell (i := 2) rfl; have y3 := hcf.cell (i := 3) rfl; have y4 := hcf.cell (i := 4) rfl))
              go_roundw
              case rel => exact ⟨j + 1, by omega, by go_num, Lib.hid (fz_on HZM.out HGD.out), Lib.hid (by rw [← t2_next, ← n2_next]; exact hW3.step hb3)⟩
              case measure => simp [intOf]; omega
        · have hji : ¬ (j : Int) < (ml : Int) := by omega
          obtain rfl : j = ml := by omega
          have he : wrE S K n Kd k j F M = 0 := by unfold wrE; rw [HZ.out]; exact HZM.out
          have HE := Lib.hid he
          clear he
          go_wp2
          go_ret
          exact ⟨by rw [HE.out]; rfl, HQ.out.below⟩
end Go.Proofs.Ythcpepifikpmeaa.Ck
