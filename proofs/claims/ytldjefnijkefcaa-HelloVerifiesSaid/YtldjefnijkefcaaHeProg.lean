/- Hellos: the program's own Put, Take and Verify (at 028c311): the three numbers are taken by a method value of the reader. -/
import Derived.Test.YtldjefnijkefcaaHeRef
import Derived.Test.YtldjefnijkefcaaMcProg
import Derived.Test.YtldjefnijkefcaaMcFresh
import Derived.Test.YtldjefnijkefcaaSpNext
namespace Go.Proofs.Ytldjefnijkefcaa.He
open Go.RowKit Cm Dc Vm
set_option linter.unusedVariables false
set_option linter.unusedSimpArgs false

/-- What three steps of a reader take, and what Done tells behind them. -/
def stH (b : ByteArray) : (Nat × Nat × Nat) × Nat :=
  (((numN b 0 0).1, (numN b (numN b 0 0).2.1 (numN b 0 0).2.2).1, (numN b (numN b (numN b 0 0).2.1 (numN b 0 0).2.2).2.1 (numN b (numN b 0 0).2.1 (numN b 0 0).2.2).2.2).1),
    doneN b (numN b (numN b (numN b 0 0).2.1 (numN b 0 0).2.2).2.1 (numN b (numN b 0 0).2.1 (numN b 0 0).2.2).2.2).2.1 (numN b (numN b (numN b 0 0).2.1 (numN b 0 0).2.2).2.1 (numN b (numN b 0 0).2.1 (numN b 0 0).2.2).2.2).2.2)
theorem numN_room (b : ByteArray) (t bad : Nat) (ht : t ≤ b.size) : (numN b t bad).2.1 ≤ b.size ∧ (numN b t bad).1 ≤ 18446744073709551615 := by
  by_cases hb : bad = 0
  · subst hb
    obtain ⟨n, k, r, h⟩ : ∃ n k r, tkS (left b t) = (n, k, r) := ⟨_, _, _, rfl⟩
    rw [numN_of b t n k r h]
    have := tkS_room _ n k r h
    unfold left at this
    rw [ByteArray.size_extract] at this
    exact ⟨by show t + k ≤ _; omega, this.2⟩
  · rw [numN_bad b t bad hb]; exact ⟨ht, by show (0 : Nat) ≤ _; omega⟩
theorem left0 (b : ByteArray) : left b 0 = b := by
  unfold left
  apply Cm.bytes_eq
  rw [ext_end]
  rfl
/-- The three steps say what the hello is. -/
theorem st_ht (b : ByteArray) : htV b = if (stH b).2 = 0 ∧ (stH b).1.1 ≤ 2147483647 ∧ (stH b).1.2.1 ≤ 2147483647 then ((stH b).1.1, (stH b).1.2.1, (stH b).1.2.2, 0) else (0, 0, 0, 1) := by
  obtain ⟨n, i, x, h1⟩ : ∃ n i x, tkS b = (n, i, x) := ⟨_, _, _, rfl⟩
  obtain ⟨p, k, y, h2⟩ : ∃ u v r, tkS (b.extract i b.size) = (u, v, r) := ⟨_, _, _, rfl⟩
  obtain ⟨q, j, z, h3⟩ : ∃ u v r, tkS (b.extract (i + k) b.size) = (u, v, r) := ⟨_, _, _, rfl⟩
  have g1 : numN b 0 0 = (n, i, x) := by rw [numN_of b 0 n i x (by rw [left0]; exact h1), Nat.zero_add]
  unfold stH
  rw [g1]
  by_cases hx : x = 0
  · subst hx
    have g2 : numN b i 0 = (p, i + k, y) := numN_of b i p k y h2
    simp only [g2]
    by_cases hy : y = 0
    · subst hy
      have g3 : numN b (i + k) 0 = (q, i + k + j, z) := numN_of b (i + k) q j z h3
      simp only [g3]
      by_cases a1 : n ≤ 2147483647
      · have e1 : nmS b 2147483647 = (n, i, 0) := nmS_good b _ n i h1 (by omega)
        by_cases a2 : p ≤ 2147483647
        · have e2 : nmS (b.extract i b.size) 2147483647 = (p, k, 0) := nmS_good _ _ p k h2 (by omega)
          by_cases hd : z ≠ 0 ∨ i + k + j ≠ b.size
          · rw [htV_none (ht_bad3 e1 e2 h3 hd), if_neg]
            rintro ⟨hh, _, _⟩
            unfold doneN at hh
            have r1 := tkS_room _ q j z h3
            rw [ByteArray.size_extract] at r1
            have r0 := tkS_room _ n i 0 h1
            have r2 := tkS_room _ p k 0 h2
            rw [ByteArray.size_extract] at r2
            split at hh
            · omega
            · split at hh
              · omega
              · omega
          · have hz1 : z = 0 := by omega
            subst hz1
            rw [htV_some (ht_good e1 e2 h3 (by omega)), if_pos]
            refine ⟨?_, a1, a2⟩
            unfold doneN
            rw [if_neg (by omega), if_neg (by omega)]
        · rw [htV_none (ht_bad2 e1 (nmS_long _ _ p k h2 (by omega)) (by omega)), if_neg (fun hh => a2 hh.2.2)]
      · rw [htV_none (ht_bad1 (nmS_long b _ n i h1 (by omega)) (by omega)), if_neg (fun hh => a1 hh.2.1)]
    · have g3 : numN b (i + k) y = (0, i + k, y) := numN_bad b (i + k) y hy
      simp only [g3]
      rw [if_neg (by rintro ⟨hh, _⟩; unfold doneN at hh; rw [if_pos hy] at hh; exact hy hh)]
      by_cases a1 : n ≤ 2147483647
      · exact htV_none (ht_bad2 (nmS_good b _ n i h1 (by omega)) (nmS_bad _ _ p k y h2 hy) hy)
      · exact htV_none (ht_bad1 (nmS_long b _ n i h1 (by omega)) (by omega))
  · have g2 : numN b i x = (0, i, x) := numN_bad b i x hx
    simp only [g2]
    rw [if_neg (by rintro ⟨hh, _⟩; unfold doneN at hh; rw [if_pos hx] at hh; exact hx hh)]
    exact htV_none (ht_bad1 (nmS_bad b _ n i x h1 hx) hx)
theorem num_at (B t bad n t' bad' : Nat) (b : ByteArray) (w : World) (hr : Rd B b t bad w) (ht : t ≤ b.size) (hs : b.size ≤ 4611686018427387904) (h : numN b t bad = (n, t', bad')) :
    Calls Try.prog 20 #[.pointer (some ⟨B, 0, none⟩)] w fun e w' => e = .returned (.int .u64 (n : Int)) ∧ Rd B b t' bad' w' ∧ Vm.Only B w w' := by
  have := num_any B t bad b w hr ht hs
  rw [h] at this
  exact this
theorem done_at (B t bad d : Nat) (b : ByteArray) (w : World) (hr : Rd B b t bad w) (ht : t ≤ b.size) (hs : b.size ≤ 4611686018427387904) (h : doneN b t bad = d) :
    Calls Try.prog 21 #[.pointer (some ⟨B, 0, none⟩)] w fun e w' => e = .returned (.int .i64 (d : Int)) ∧ Rd B b t bad w' ∧ Below w.heap.size w w' := by
  have := done_any B t bad b w hr ht hs
  rw [h] at this
  exact this
set_option maxRecDepth 100000 in
set_option maxHeartbeats 2000000 in
theorem put_any (o e : Int) (t : Nat) (w : World) (ho : I64 o) (he : I64 e) (ht : t < 18446744073709551616) :
    Calls Try.prog 6 #[agH o e t] w fun x w' => x = .returned (.tuple #[.string (hpT o e t), .int .i64 (hpE o e)]) ∧ Below w.heap.size w w' := by
  unfold agH
  have HC := Lib.hid (Cs.new w [.int .i64 o, .int .i64 e, .int .u64 (t : Int)] 28)
  have HB := Lib.hid ((Below.refl w.heap.size w).alloc (Nat.le_refl _) (.cells #[.int .i64 o, .int .i64 e, .int .u64 (t : Int)] 28))
  by_cases h1 : o < 0
  · have c := HC.out.three
    rw [hpT_neg t (.inl h1), hpE_neg (.inl h1)]
    go_enter Try.func6, Try.ntmps6
    go_wp2
    go_ret2
    exact ⟨rfl, HB.out⟩
  · by_cases h2 : e < 0
    · have c := HC.out.three
      rw [hpT_neg t (.inr h2), hpE_neg (.inr h2)]
      go_enter Try.func6, Try.ntmps6
      go_wp2
      go_ret2
      exact ⟨rfl, HB.out⟩
    · obtain ⟨p, hp⟩ : ∃ p : Nat, (p : Int) = o := ⟨o.toNat, by omega⟩
      obtain ⟨q, hq⟩ : ∃ q : Nat, (q : Int) = e := ⟨e.toNat, by omega⟩
      subst hp hq
      rw [hpT_pos, hpE_pos]
      have f1 : IntKind.u64.wrap (p : Int) = (p : Int) := by rw [IntKind.wrap_u64]; omega
      have f2 : IntKind.u64.wrap (q : Int) = (q : Int) := by rw [IntKind.wrap_u64]; omega
      obtain ⟨x, hx⟩ : ∃ x, puS p = x := ⟨_, rfl⟩
      obtain ⟨y, hy⟩ : ∃ y, puS q = y := ⟨_, rfl⟩
      obtain ⟨z, hz⟩ : ∃ z, puS t = z := ⟨_, rfl⟩
      have hxs : x.size ≤ 10 := by rw [← hx]; exact pu_room p (by omega)
      have hys : y.size ≤ 10 := by rw [← hy]; exact pu_room q (by omega)
      have hzs : z.size ≤ 10 := by rw [← hz]; exact pu_room t ht
      have hxy : ¬ 9223372036854775807 < x.size + y.size := by omega
      have hxz : ¬ 9223372036854775807 < x.size + y.size + z.size := by omega
      have HR := Lib.hid (show hpS p q t = x ++ y ++ z by unfold hpS; rw [hx, hy, hz])
      have HX : Hid (∀ w : World, Calls Try.prog 17 #[.int .u64 (p : Int)] w fun e w' => e = .returned (.string x) ∧ Below w.heap.size w w') := Lib.hid (fun w => by rw [← hx]; exact Vm.put_any p w (by omega))
      have HY : Hid (∀ w : World, Calls Try.prog 17 #[.int .u64 (q : Int)] w fun e w' => e = .returned (.string y) ∧ Below w.heap.size w w') := Lib.hid (fun w => by rw [← hy]; exact Vm.put_any q w (by omega))
      have HZ : Hid (∀ w : World, Calls Try.prog 17 #[.int .u64 (t : Int)] w fun e w' => e = .returned (.string z) ∧ Below w.heap.size w w') := Lib.hid (fun w => by rw [← hz]; exact Vm.put_any t w (by omega))
      have c := HC.out.three
      clear hx hy hz
      go_enter Try.func6, Try.ntmps6
      go_upto_region 3 with fail
      clear c
      have hS := bx_of HC.out.drew HB.out.drew
      go_region_held3 (fun w' => w'.cell? ⟨w.heap.size, 0, none⟩ = some (.int .i64 (p : Int)) ∧ w'.cell? ⟨w.heap.size, 1, none⟩ = some (.int .i64 (q : Int)) ∧ w'.cell? ⟨w.heap.size, 2, none⟩ = some (.int .u64 (t : Int)) ∧ (Cs w.heap.size [.int .i64 (p : Int), .int .i64 (q : Int), .int .u64 (t : Int)] w' ∧ Below w.heap.size w w'))
        (first | exact hS)
        (first
          | (go_at_call 17; (with_reducible refine (HX.out _).mono ?_); rintro e w' ⟨rfl, hb⟩; replace hS := bx_next hS hb; clear hb)
          | (go_at_call 17; (with_reducible refine (HY.out _).mono ?_); rintro e w' ⟨rfl, hb⟩; replace hS := bx_next hS hb; clear hb)
          | (go_at_call 17; (with_reducible refine (HZ.out _).mono ?_); rintro e w' ⟨rfl, hb⟩; replace hS := bx_next hS hb; clear hb))
      go_wp2
      go_ret2
      exact ⟨by rw [HR.out]; rfl, hS.2.2.2.2⟩

set_option maxRecDepth 100000 in
set_option maxHeartbeats 4000000 in
theorem take_any (b : ByteArray) (o e t x : Nat) (w : World) (hb : b.size ≤ 140737488355327) (h : htV b = (o, e, t, x)) :
    Calls Try.prog 8 #[.string b] w fun y w' => y = .returned (.tuple #[agH o e t, .int .i64 (x : Int)]) ∧ Below w.heap.size w w' := by
  unfold agH
  obtain ⟨n, t1, e1, h1⟩ : ∃ n t e, numN b 0 0 = (n, t, e) := ⟨_, _, _, rfl⟩
  obtain ⟨p, t2, e2, h2⟩ : ∃ n t e, numN b t1 e1 = (n, t, e) := ⟨_, _, _, rfl⟩
  obtain ⟨q, t3, e3, h3⟩ : ∃ n t e, numN b t2 e2 = (n, t, e) := ⟨_, _, _, rfl⟩
  obtain ⟨d, hd⟩ : ∃ d, doneN b t3 e3 = d := ⟨_, rfl⟩
  have hst : stH b = ((n, p, q), d) := by unfold stH; simp only [h1, h2, h3, hd]
  rw [st_ht, hst] at h
  have r1 := numN_room b 0 0 (Nat.zero_le _)
  rw [h1] at r1
  have r2 := numN_room b t1 e1 r1.1
  rw [h2] at r2
  have r3 := numN_room b t2 e2 r2.1
  rw [h3] at r3
  have T1 := Lib.hid r1.1
  have T2 := Lib.hid r2.1
  have T3 := Lib.hid r3.1
  have H1 := Lib.hid h1
  have H2 := Lib.hid h2
  have H3 := Lib.hid h3
  have HD := Lib.hid hd
  have HS := Lib.hid (show b.size ≤ 4611686018427387904 by omega)
  have HC := Lib.hid (Cs.new w [.int .i64 0, .int .i64 0, .int .u64 0] 28)
  have HB := Lib.hid ((Below.refl w.heap.size w).alloc (Nat.le_refl _) (.cells #[.int .i64 0, .int .i64 0, .int .u64 0] 28))
  have q1 : n ≤ 18446744073709551615 := r1.2
  have q2 : p ≤ 18446744073709551615 := r2.2
  have q3 : q ≤ 18446744073709551615 := r3.2
  have hmf : ∀ (fn : Fn) (first cap : Array Value) (w : World), (Instr.makeFunc fn first cap).run Try.prog w = .ok (.func fn first cap) w := fun _ _ _ _ => rfl
  clear h1 h2 h3 hd hst r1 r2 r3 hb
  by_cases hd0 : d = 0
  · subst hd0
    by_cases a1 : n ≤ 2147483647
    · have a1' : ¬ (2147483647 : Int) < (n : Int) := by omega
      by_cases a2 : p ≤ 2147483647
      · have a2' : ¬ (2147483647 : Int) < (p : Int) := by omega
        rw [if_pos ⟨rfl, a1, a2⟩] at h
        obtain ⟨rfl, rfl, rfl, rfl⟩ : n = o ∧ p = e ∧ q = t ∧ 0 = x := by simpa using h
        have f1 : IntKind.i64.wrap (n : Int) = (n : Int) := by rw [IntKind.wrap_i64]; omega
        have f2 : IntKind.i64.wrap (p : Int) = (p : Int) := by rw [IntKind.wrap_i64]; omega
        clear h
        go_enter Try.func8, Try.ntmps8
        go_wp2_with (first
          | (go_at_call 21; (with_reducible refine (done_at _ t3 e3 _ b _ HR4.out T3.out HS.out HD.out).mono ?_); rintro y w5 ⟨rfl, hr, hb⟩; have HC5 := Lib.hid (HC4.out.below hb HC4.out.lt); have HB5 := Lib.hid (HB4.out.trans (hb.mono HB4.out.size)); have cc := HC5.out.three; clear hr hb)
          | (go_at_call 20; (with_reducible refine (num_at _ t2 e2 q t3 e3 b _ HR3.out T2.out HS.out H3.out).mono ?_); rintro y w4 ⟨rfl, hr, ho⟩; have HR4 := Lib.hid hr; have HC4 := Lib.hid (HC3.out.kept (ho.block _ HC3.out.lt HN.out) ho.size); have HB4 := Lib.hid (HB3.out.trans (ho.below HL.out HB3.out.size)); clear hr ho)
          | (go_at_call 20; (with_reducible refine (num_at _ t1 e1 p t2 e2 b _ HR2.out T1.out HS.out H2.out).mono ?_); rintro y w3 ⟨rfl, hr, ho⟩; have HR3 := Lib.hid hr; have HC3 := Lib.hid (HC2.out.kept (ho.block _ HC2.out.lt HN.out) ho.size); have HB3 := Lib.hid (HB2.out.trans (ho.below HL.out HB2.out.size)); clear hr ho)
          | (go_at_call 20; (with_reducible refine (num_at _ 0 0 n t1 e1 b _ HR1.out (Nat.zero_le _) HS.out H1.out).mono ?_); rintro y w2 ⟨rfl, hr, ho⟩; have HR2 := Lib.hid hr; have HC2 := Lib.hid (HC1.out.kept (ho.block _ HC1.out.lt HN.out) ho.size); have HB2 := Lib.hid (HB1.out.trans (ho.below HL.out HB1.out.size)); clear hr ho)
          | (go_at_call 19; (with_reducible refine (read_any b _).mono ?_); rintro y w1 ⟨rfl, hr, hb⟩; have HR1 : Hid (Rd (w.heap.size + 1) b 0 0 w1) := Lib.hid (by simpa using hr); have HC1 := Lib.hid (HC.out.below hb HC.out.lt); have HB1 := Lib.hid (HB.out.trans (hb.mono HB.out.size)); have HN : Hid (w.heap.size ≠ w.heap.size + 1) := Lib.hid (by omega); have HL : Hid (w.heap.size ≤ w.heap.size + 1) := Lib.hid (by omega); clear hr hb))
        have h9 := cs_fill3 (x' := .int .i64 (n : Int)) (y' := .int .i64 (p : Int)) (z' := .int .u64 (q : Int)) HC5.out
        have hb9 := bel_fill3 (x' := .int .i64 (n : Int)) (y' := .int .i64 (p : Int)) (z' := .int .u64 (q : Int)) HB5.out (Nat.le_refl w.heap.size)
        generalize (((w5.setCell ⟨w.heap.size, 0, none⟩ (.int .i64 (n : Int))).setCell ⟨w.heap.size, 1, none⟩ (.int .i64 (p : Int))).setCell ⟨w.heap.size, 2, none⟩ (.int .u64 (q : Int))) = w9 at h9 hb9 ⊢
        have mm := h9.three.1
        refine bodyPost_ret (by simp [results, Try.results8, go_sem, mm]; try rfl) rfl ?_
        exact ⟨rfl, hb9⟩
      · have a2' : (2147483647 : Int) < (p : Int) := by omega
        rw [if_neg (fun hh => a2 hh.2.2)] at h
        obtain ⟨rfl, rfl, rfl, rfl⟩ : 0 = o ∧ 0 = e ∧ 0 = t ∧ 1 = x := by simpa using h
        clear h
        go_enter Try.func8, Try.ntmps8
        go_wp2_with (first
          | (go_at_call 21; (with_reducible refine (done_at _ t3 e3 _ b _ HR4.out T3.out HS.out HD.out).mono ?_); rintro y w5 ⟨rfl, hr, hb⟩; have HC5 := Lib.hid (HC4.out.below hb HC4.out.lt); have HB5 := Lib.hid (HB4.out.trans (hb.mono HB4.out.size)); have cc := HC5.out.three; clear hr hb)
          | (go_at_call 20; (with_reducible refine (num_at _ t2 e2 q t3 e3 b _ HR3.out T2.out HS.out H3.out).mono ?_); rintro y w4 ⟨rfl, hr, ho⟩; have HR4 := Lib.hid hr; have HC4 := Lib.hid (HC3.out.kept (ho.block _ HC3.out.lt HN.out) ho.size); have HB4 := Lib.hid (HB3.out.trans (ho.below HL.out HB3.out.size)); clear hr ho)
          | (go_at_call 20; (with_reducible refine (num_at _ t1 e1 p t2 e2 b _ HR2.out T1.out HS.out H2.out).mono ?_); rintro y w3 ⟨rfl, hr, ho⟩; have HR3 := Lib.hid hr; have HC3 := Lib.hid (HC2.out.kept (ho.block _ HC2.out.lt HN.out) ho.size); have HB3 := Lib.hid (HB2.out.trans (ho.below HL.out HB2.out.size)); clear hr ho)
          | (go_at_call 20; (with_reducible refine (num_at _ 0 0 n t1 e1 b _ HR1.out (Nat.zero_le _) HS.out H1.out).mono ?_); rintro y w2 ⟨rfl, hr, ho⟩; have HR2 := Lib.hid hr; have HC2 := Lib.hid (HC1.out.kept (ho.block _ HC1.out.lt HN.out) ho.size); have HB2 := Lib.hid (HB1.out.trans (ho.below HL.out HB1.out.size)); clear hr ho)
          | (go_at_call 19; (with_reducible refine (read_any b _).mono ?_); rintro y w1 ⟨rfl, hr, hb⟩; have HR1 : Hid (Rd (w.heap.size + 1) b 0 0 w1) := Lib.hid (by simpa using hr); have HC1 := Lib.hid (HC.out.below hb HC.out.lt); have HB1 := Lib.hid (HB.out.trans (hb.mono HB.out.size)); have HN : Hid (w.heap.size ≠ w.heap.size + 1) := Lib.hid (by omega); have HL : Hid (w.heap.size ≤ w.heap.size + 1) := Lib.hid (by omega); clear hr hb))
        have h9 := cs_fill3 (x' := .int .i64 0) (y' := .int .i64 0) (z' := .int .u64 0) HC5.out
        have hb9 := bel_fill3 (x' := .int .i64 0) (y' := .int .i64 0) (z' := .int .u64 0) HB5.out (Nat.le_refl w.heap.size)
        generalize (((w5.setCell ⟨w.heap.size, 0, none⟩ (.int .i64 0)).setCell ⟨w.heap.size, 1, none⟩ (.int .i64 0)).setCell ⟨w.heap.size, 2, none⟩ (.int .u64 0)) = w9 at h9 hb9 ⊢
        have mm := h9.three.1
        refine bodyPost_ret (by simp [results, Try.results8, go_sem, mm]; try rfl) rfl ?_
        exact ⟨rfl, hb9⟩
    · have a1' : (2147483647 : Int) < (n : Int) := by omega
      rw [if_neg (fun hh => a1 hh.2.1)] at h
      obtain ⟨rfl, rfl, rfl, rfl⟩ : 0 = o ∧ 0 = e ∧ 0 = t ∧ 1 = x := by simpa using h
      clear h
      go_enter Try.func8, Try.ntmps8
      go_wp2_with (first
        | (go_at_call 21; (with_reducible refine (done_at _ t3 e3 _ b _ HR4.out T3.out HS.out HD.out).mono ?_); rintro y w5 ⟨rfl, hr, hb⟩; have HC5 := Lib.hid (HC4.out.below hb HC4.out.lt); have HB5 := Lib.hid (HB4.out.trans (hb.mono HB4.out.size)); have cc := HC5.out.three; clear hr hb)
        | (go_at_call 20; (with_reducible refine (num_at _ t2 e2 q t3 e3 b _ HR3.out T2.out HS.out H3.out).mono ?_); rintro y w4 ⟨rfl, hr, ho⟩; have HR4 := Lib.hid hr; have HC4 := Lib.hid (HC3.out.kept (ho.block _ HC3.out.lt HN.out) ho.size); have HB4 := Lib.hid (HB3.out.trans (ho.below HL.out HB3.out.size)); clear hr ho)
        | (go_at_call 20; (with_reducible refine (num_at _ t1 e1 p t2 e2 b _ HR2.out T1.out HS.out H2.out).mono ?_); rintro y w3 ⟨rfl, hr, ho⟩; have HR3 := Lib.hid hr; have HC3 := Lib.hid (HC2.out.kept (ho.block _ HC2.out.lt HN.out) ho.size); have HB3 := Lib.hid (HB2.out.trans (ho.below HL.out HB2.out.size)); clear hr ho)
        | (go_at_call 20; (with_reducible refine (num_at _ 0 0 n t1 e1 b _ HR1.out (Nat.zero_le _) HS.out H1.out).mono ?_); rintro y w2 ⟨rfl, hr, ho⟩; have HR2 := Lib.hid hr; have HC2 := Lib.hid (HC1.out.kept (ho.block _ HC1.out.lt HN.out) ho.size); have HB2 := Lib.hid (HB1.out.trans (ho.below HL.out HB1.out.size)); clear hr ho)
        | (go_at_call 19; (with_reducible refine (read_any b _).mono ?_); rintro y w1 ⟨rfl, hr, hb⟩; have HR1 : Hid (Rd (w.heap.size + 1) b 0 0 w1) := Lib.hid (by simpa using hr); have HC1 := Lib.hid (HC.out.below hb HC.out.lt); have HB1 := Lib.hid (HB.out.trans (hb.mono HB.out.size)); have HN : Hid (w.heap.size ≠ w.heap.size + 1) := Lib.hid (by omega); have HL : Hid (w.heap.size ≤ w.heap.size + 1) := Lib.hid (by omega); clear hr hb))
      have h9 := cs_fill3 (x' := .int .i64 0) (y' := .int .i64 0) (z' := .int .u64 0) HC5.out
      have hb9 := bel_fill3 (x' := .int .i64 0) (y' := .int .i64 0) (z' := .int .u64 0) HB5.out (Nat.le_refl w.heap.size)
      generalize (((w5.setCell ⟨w.heap.size, 0, none⟩ (.int .i64 0)).setCell ⟨w.heap.size, 1, none⟩ (.int .i64 0)).setCell ⟨w.heap.size, 2, none⟩ (.int .u64 0)) = w9 at h9 hb9 ⊢
      have mm := h9.three.1
      refine bodyPost_ret (by simp [results, Try.results8, go_sem, mm]; try rfl) rfl ?_
      exact ⟨rfl, hb9⟩
  · have hd' : ((d : Int) != 0) = true := by simpa using (show ¬ (d : Int) = 0 by omega)
    rw [if_neg (fun hh => hd0 hh.1)] at h
    obtain ⟨rfl, rfl, rfl, rfl⟩ : 0 = o ∧ 0 = e ∧ 0 = t ∧ 1 = x := by simpa using h
    clear h
    go_enter Try.func8, Try.ntmps8
    go_wp2_with (first
      | (go_at_call 21; (with_reducible refine (done_at _ t3 e3 _ b _ HR4.out T3.out HS.out HD.out).mono ?_); rintro y w5 ⟨rfl, hr, hb⟩; have HC5 := Lib.hid (HC4.out.below hb HC4.out.lt); have HB5 := Lib.hid (HB4.out.trans (hb.mono HB4.out.size)); have cc := HC5.out.three; clear hr hb)
      | (go_at_call 20; (with_reducible refine (num_at _ t2 e2 q t3 e3 b _ HR3.out T2.out HS.out H3.out).mono ?_); rintro y w4 ⟨rfl, hr, ho⟩; have HR4 := Lib.hid hr; have HC4 := Lib.hid (HC3.out.kept (ho.block _ HC3.out.lt HN.out) ho.size); have HB4 := Lib.hid (HB3.out.trans (ho.below HL.out HB3.out.size)); clear hr ho)
      | (go_at_call 20; (with_reducible refine (num_at _ t1 e1 p t2 e2 b _ HR2.out T1.out HS.out H2.out).mono ?_); rintro y w3 ⟨rfl, hr, ho⟩; have HR3 := Lib.hid hr; have HC3 := Lib.hid (HC2.out.kept (ho.block _ HC2.out.lt HN.out) ho.size); have HB3 := Lib.hid (HB2.out.trans (ho.below HL.out HB2.out.size)); clear hr ho)
      | (go_at_call 20; (with_reducible refine (num_at _ 0 0 n t1 e1 b _ HR1.out (Nat.zero_le _) HS.out H1.out).mono ?_); rintro y w2 ⟨rfl, hr, ho⟩; have HR2 := Lib.hid hr; have HC2 := Lib.hid (HC1.out.kept (ho.block _ HC1.out.lt HN.out) ho.size); have HB2 := Lib.hid (HB1.out.trans (ho.below HL.out HB1.out.size)); clear hr ho)
      | (go_at_call 19; (with_reducible refine (read_any b _).mono ?_); rintro y w1 ⟨rfl, hr, hb⟩; have HR1 : Hid (Rd (w.heap.size + 1) b 0 0 w1) := Lib.hid (by simpa using hr); have HC1 := Lib.hid (HC.out.below hb HC.out.lt); have HB1 := Lib.hid (HB.out.trans (hb.mono HB.out.size)); have HN : Hid (w.heap.size ≠ w.heap.size + 1) := Lib.hid (by omega); have HL : Hid (w.heap.size ≤ w.heap.size + 1) := Lib.hid (by omega); clear hr hb))
    have h9 := cs_fill3 (x' := .int .i64 0) (y' := .int .i64 0) (z' := .int .u64 0) HC5.out
    have hb9 := bel_fill3 (x' := .int .i64 0) (y' := .int .i64 0) (z' := .int .u64 0) HB5.out (Nat.le_refl w.heap.size)
    generalize (((w5.setCell ⟨w.heap.size, 0, none⟩ (.int .i64 0)).setCell ⟨w.heap.size, 1, none⟩ (.int .i64 0)).setCell ⟨w.heap.size, 2, none⟩ (.int .u64 0)) = w9 at h9 hb9 ⊢
    have mm := h9.three.1
    refine bodyPost_ret (by simp [results, Try.results8, go_sem, mm]; try rfl) rfl ?_
    exact ⟨rfl, hb9⟩
set_option maxRecDepth 100000 in
set_option maxHeartbeats 2000000 in
theorem verify_bad (p : Option Addr) (b : ByteArray) (w : World) (hb : b.size ≤ 140737488355327) (h : htS b = none) :
    Calls Try.prog 15 #[.pointer p, .string b] w fun y w' => y = .returned (.tuple #[.int .i64 0, .int .i64 16]) ∧ Below w.heap.size w w' := by
  have HV := Lib.hid (htV_none h)
  have HS := Lib.hid hb
  clear h hb
  go_enter Try.func15, Try.ntmps15
  go_wp2_with (go_at_call 8; (with_reducible refine (take_any b 0 0 0 1 _ HS.out HV.out).mono ?_); rintro y w1 ⟨rfl, hb⟩; have HB1 := Lib.hid hb; clear hb)
  go_returns
  exact ⟨rfl, HB1.out.alloc HB1.out.size _⟩
set_option maxRecDepth 100000 in
set_option maxHeartbeats 2000000 in
theorem verify_good (B : Nat) (E T : Nat → Nat) (b : ByteArray) (o e t : Nat) (w : World) (hm : Mc.Mt B E T w) (hb : b.size ≤ 140737488355327) (h : htS b = some (o, e, t)) (k : Bool)
    (hk : decide ((0 : Int) ≤ (o : Int) ∧ (o : Int) ≤ 8 ∧ (t : Int) ≠ 0 ∧ (E (o : Int).toNat : Int) = (e : Int) ∧ (T (o : Int).toNat : Int) = (t : Int)) = k) :
    Calls Try.prog 15 #[.pointer (some ⟨B, 0, none⟩), .string b] w fun y w' => y = .returned (.tuple #[.int .i64 (if k then (o : Int) else 0), .int .i64 (if k then 0 else 16)]) ∧ Cm.Only B w w' ∧ Mc.Mt B E T w' := by
  have hl := (ht_one h).2
  have hb8 : B < w.heap.size := Cs.lt hm
  have HV := Lib.hid (htV_some h)
  have HS := Lib.hid hb
  have HM := Lib.hid hm
  have HK := Lib.hid hk
  have HL := Lib.hid hl
  have HN := Lib.hid hb8
  clear h hb hm hk hl hb8
  cases k
  all_goals
    go_enter Try.func15, Try.ntmps15
    go_wp2_with (first
      | (go_at_call 16; go_loud ((with_reducible refine (Mc.api.knows B o e t E T _ HM1.out (by have := HL.out; constructor <;> omega) (by have := HL.out; constructor <;> omega) (by have := HL.out; omega)).mono ?_); rw [HK.out]; rintro y w2 ⟨rfl, ho, hm⟩; have HM2 := Lib.hid hm; have HO2 := Lib.hid (HO1.out.trans ho); have c2 := (HC1.out.only ho HNE.out).three; clear ho hm))
      | (go_at_call 8; (with_reducible refine (take_any b o e t 0 _ HS.out HV.out).mono ?_); rintro y w1 ⟨rfl, hb⟩; have HC1 := Lib.hid (Cs.new w1 [.int .i64 (o : Int), .int .i64 (e : Int), .int .u64 (t : Int)] 28); have HZ := Lib.hid (Cs.new w1 [.int .i64 0, .int .i64 0, .int .u64 0] 28); have HM1 := Lib.hid (Mc.api.below HM.out (hb.alloc hb.size (.cells #[.int .i64 (o : Int), .int .i64 (e : Int), .int .u64 (t : Int)] 28))); have HO1 := Lib.hid (Cm.Only.of (B := B) (hb.alloc hb.size (.cells #[.int .i64 (o : Int), .int .i64 (e : Int), .int .u64 (t : Int)] 28))); have c1 := HC1.out.three; have HNE := Lib.hid (show w1.heap.size ≠ B by have := hb.size; have := HN.out; omega); clear hb))
    go_returns
    exact ⟨rfl, HO2.out, HM2.out⟩
set_option maxRecDepth 100000 in
set_option maxHeartbeats 2000000 in
theorem verify_none (b : ByteArray) (o e t : Nat) (w : World) (hb : b.size ≤ 140737488355327) (h : htS b = some (o, e, t)) :
    Calls Try.prog 15 #[.pointer none, .string b] w fun y w' => y = .returned (.tuple #[.int .i64 0, .int .i64 16]) ∧ Below w.heap.size w w' := by
  have hl := (ht_one h).2
  have HV := Lib.hid (htV_some h)
  have HS := Lib.hid hb
  have HL := Lib.hid hl
  clear h hb hl
  go_enter Try.func15, Try.ntmps15
  go_wp2_with (first
    | (go_at_call 16; go_loud ((with_reducible refine (Mc.api.knowsN o e t _ (by have := HL.out; constructor <;> omega) (by have := HL.out; constructor <;> omega) (by have := HL.out; omega)).mono ?_); rintro y w2 ⟨rfl, hb⟩; have HB2 := Lib.hid (HB1.out.trans (hb.mono HB1.out.size)); clear hb))
    | (go_at_call 8; (with_reducible refine (take_any b o e t 0 _ HS.out HV.out).mono ?_); rintro y w1 ⟨rfl, hb⟩; have HC1 := Lib.hid (Cs.new w1 [.int .i64 (o : Int), .int .i64 (e : Int), .int .u64 (t : Int)] 28); have HB1 := Lib.hid (hb.alloc hb.size (.cells #[.int .i64 (o : Int), .int .i64 (e : Int), .int .u64 (t : Int)] 28)); have c1 := HC1.out.three; clear hb))
  go_returns
  exact ⟨rfl, HB2.out⟩
theorem api : Api Mc.Mt where
  put := put_any
  take := fun b o e t x w hb h => take_any b o e t x w hb h
  verify := by
    intro B E T b o w hm hb h
    unfold vfB at h
    split at h
    · rename_i o' e' t' hh
      split at h
      · rename_i hc
        obtain rfl : o' = o := by simpa using h
        exact verify_good B E T b o' e' t' w hm hb hh true (Mc.kn_yes hc.1 hc.2.1 (congrArg _ hc.2.2.1) hc.2.2.2)
      · cases h
    · cases h
  verify0 := by
    intro B E T b w hm hb h
    unfold vfB at h
    split at h
    · rename_i o' e' t' hh
      split at h
      · cases h
      · rename_i hc
        refine verify_good B E T b o' e' t' w hm hb hh false (decide_eq_false fun k => hc ⟨by omega, by omega, ?_, ?_⟩)
        · have := k.2.2.2.1; rw [Int.toNat_natCast] at this; omega
        · have := k.2.2.2.2; rw [Int.toNat_natCast] at this; omega
    · rename_i hh
      exact (verify_bad (some ⟨B, 0, none⟩) b w hb hh).mono fun y w' h => ⟨h.1, Cm.Only.of h.2, Mc.api.below hm h.2⟩
  verifyN := by
    intro b w hb
    by_cases h : htS b = none
    · exact verify_bad none b w hb h
    · obtain ⟨⟨o, e, t⟩, h2⟩ := Option.ne_none_iff_exists'.1 h
      exact verify_none b o e t w hb h2
end Go.Proofs.Ytldjefnijkefcaa.He
