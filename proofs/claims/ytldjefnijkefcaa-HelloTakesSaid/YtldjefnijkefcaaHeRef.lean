/- Hellos: the contracts of the reference's Put and Take. -/
import Derived.Test.YtldjefnijkefcaaHeApi
import Derived.Deep.RegionHeld3
namespace Go.Proofs.Ytldjefnijkefcaa.He
open Go.RowKit Cm Dc Vm
set_option linter.unusedVariables false
set_option linter.unusedSimpArgs false

theorem bx_of {b p q t m : Nat} {w w' : World} (h : Cs b [.int .i64 (p : Int), .int .i64 (q : Int), .int .u64 (t : Int)] w') (hb : Below m w w') :
    w'.cell? ⟨b, 0, none⟩ = some (.int .i64 (p : Int)) ∧ w'.cell? ⟨b, 1, none⟩ = some (.int .i64 (q : Int)) ∧ w'.cell? ⟨b, 2, none⟩ = some (.int .u64 (t : Int)) ∧ (Cs b [.int .i64 (p : Int), .int .i64 (q : Int), .int .u64 (t : Int)] w' ∧ Below m w w') :=
  ⟨h.cell (i := 0) rfl, h.cell (i := 1) rfl, h.cell (i := 2) rfl, h, hb⟩
theorem bx_next {b p q t : Nat} {w w1 w2 : World} (h : w1.cell? ⟨b, 0, none⟩ = some (.int .i64 (p : Int)) ∧ w1.cell? ⟨b, 1, none⟩ = some (.int .i64 (q : Int)) ∧ w1.cell? ⟨b, 2, none⟩ = some (.int .u64 (t : Int)) ∧ (Cs b [.int .i64 (p : Int), .int .i64 (q : Int), .int .u64 (t : Int)] w1 ∧ Below w.heap.size w w1)) (hb : Below w1.heap.size w1 w2) :
    w2.cell? ⟨b, 0, none⟩ = some (.int .i64 (p : Int)) ∧ w2.cell? ⟨b, 1, none⟩ = some (.int .i64 (q : Int)) ∧ w2.cell? ⟨b, 2, none⟩ = some (.int .u64 (t : Int)) ∧ (Cs b [.int .i64 (p : Int), .int .i64 (q : Int), .int .u64 (t : Int)] w2 ∧ Below w.heap.size w w2) :=
  bx_of (h.2.2.2.1.below hb h.2.2.2.1.lt) (h.2.2.2.2.trans (hb.mono h.2.2.2.2.size))
theorem c3_drew {b : Nat} {x y z : Value} {w : World} (h : Cs b [x, y, z] w) : w.cell? ⟨b, 0, none⟩ = some x ∧ w.cell? ⟨b, 1, none⟩ = some y ∧ w.cell? ⟨b, 2, none⟩ = some z := ⟨h.cell (i := 0) rfl, h.cell (i := 1) rfl, h.cell (i := 2) rfl⟩
set_option maxRecDepth 100000 in
set_option maxHeartbeats 2000000 in
theorem rput_any (o e : Int) (t : Nat) (w : World) (ho : I64 o) (he : I64 e) (ht : t < 18446744073709551616) :
    Calls Try.prog 7 #[agH o e t] w fun x w' => x = .returned (.tuple #[.string (hpT o e t), .int .i64 (hpE o e)]) ∧ Below w.heap.size w w' := by
  unfold agH
  have HC := Lib.hid (Cs.new w [.int .i64 o, .int .i64 e, .int .u64 (t : Int)] 24)
  have HB := Lib.hid ((Below.refl w.heap.size w).alloc (Nat.le_refl _) (.cells #[.int .i64 o, .int .i64 e, .int .u64 (t : Int)] 24))
  by_cases h1 : o < 0
  · have c := HC.out.three
    rw [hpT_neg t (.inl h1), hpE_neg (.inl h1)]
    go_enter Try.func7, Try.ntmps7
    go_wp2
    go_ret2
    exact ⟨rfl, HB.out⟩
  · by_cases h2 : e < 0
    · have c := HC.out.three
      rw [hpT_neg t (.inr h2), hpE_neg (.inr h2)]
      go_enter Try.func7, Try.ntmps7
      go_wp2
      go_ret2
      exact ⟨rfl, HB.out⟩
    · obtain ⟨p, hp⟩ : ∃ p : Nat, (p : Int) = o := ⟨o.toNat, by omega⟩
      obtain ⟨q, hq⟩ : ∃ q : Nat, (q : Int) = e := ⟨e.toNat, by omega⟩
      subst hp hq
      rw [hpT_pos, hpE_pos]
      have f1 : IntKind.u64.wrap (p : Int) = (p : Int) := by rw [IntKind.wrap_u64]; omega
      have f2 : IntKind.u64.wrap (q : Int) = (q : Int) := by rw [IntKind.wrap_u64]; omega
      obtain ⟨x, hx⟩ : ∃ x, puS p = x := ⟨_, rfl⟩
      obtain ⟨y, hy⟩ : ∃ y, puS q = y := ⟨_, rfl⟩
      obtain ⟨z, hz⟩ : ∃ z, puS t = z := ⟨_, rfl⟩
      have hxs : x.size ≤ 10 := by rw [← hx]; exact pu_room p (by omega)
      have hys : y.size ≤ 10 := by rw [← hy]; exact pu_room q (by omega)
      have hzs : z.size ≤ 10 := by rw [← hz]; exact pu_room t ht
      have hxy : ¬ 9223372036854775807 < x.size + y.size := by omega
      have hxz : ¬ 9223372036854775807 < x.size + y.size + z.size := by omega
      have HR := Lib.hid (show hpS p q t = x ++ y ++ z by unfold hpS; rw [hx, hy, hz])
      have HX : Hid (∀ w : World, Calls Try.prog 18 #[.int .u64 (p : Int)] w fun e w' => e = .returned (.string x) ∧ Below w.heap.size w w') := Lib.hid (fun w => by rw [← hx]; exact Vm.rput_any p w (by omega))
      have HY : Hid (∀ w : World, Calls Try.prog 18 #[.int .u64 (q : Int)] w fun e w' => e = .returned (.string y) ∧ Below w.heap.size w w') := Lib.hid (fun w => by rw [← hy]; exact Vm.rput_any q w (by omega))
      have HZ : Hid (∀ w : World, Calls Try.prog 18 #[.int .u64 (t : Int)] w fun e w' => e = .returned (.string z) ∧ Below w.heap.size w w') := Lib.hid (fun w => by rw [← hz]; exact Vm.rput_any t w (by omega))
      have c := HC.out.three
      clear hx hy hz
      go_enter Try.func7, Try.ntmps7
      go_upto_region 3 with fail
      clear c
      have hS := bx_of HC.out.drew HB.out.drew
      go_region_held3 (fun w' => w'.cell? ⟨w.heap.size, 0, none⟩ = some (.int .i64 (p : Int)) ∧ w'.cell? ⟨w.heap.size, 1, none⟩ = some (.int .i64 (q : Int)) ∧ w'.cell? ⟨w.heap.size, 2, none⟩ = some (.int .u64 (t : Int)) ∧ (Cs w.heap.size [.int .i64 (p : Int), .int .i64 (q : Int), .int .u64 (t : Int)] w' ∧ Below w.heap.size w w'))
        (first | exact hS)
        (first
          | (go_at_call 18; (with_reducible refine (HX.out _).mono ?_); rintro e w' ⟨rfl, hb⟩; replace hS := bx_next hS hb; clear hb)
          | (go_at_call 18; (with_reducible refine (HY.out _).mono ?_); rintro e w' ⟨rfl, hb⟩; replace hS := bx_next hS hb; clear hb)
          | (go_at_call 18; (with_reducible refine (HZ.out _).mono ?_); rintro e w' ⟨rfl, hb⟩; replace hS := bx_next hS hb; clear hb))
      go_wp2
      go_ret2
      exact ⟨by rw [HR.out]; rfl, hS.2.2.2.2⟩

/-- What a result of Take is, in its variable. -/
theorem cs_fill3 {b : Nat} {x y z x' y' z' : Value} {w : World} (h : Cs b [x, y, z] w) : Cs b [x', y', z'] (((w.setCell ⟨b, 0, none⟩ x').setCell ⟨b, 1, none⟩ y').setCell ⟨b, 2, none⟩ z') :=
  ((h.put (i := 0) x').put (i := 1) y').put (i := 2) z'
theorem bel_fill3 {b m : Nat} {x' y' z' : Value} {a w : World} (h : Below m a w) (hb : m ≤ b) : Below m a (((w.setCell ⟨b, 0, none⟩ x').setCell ⟨b, 1, none⟩ y').setCell ⟨b, 2, none⟩ z') :=
  ((h.setCell (p := ⟨b, 0, none⟩) hb x').setCell (p := ⟨b, 1, none⟩) hb y').setCell (p := ⟨b, 2, none⟩) hb z'
set_option maxRecDepth 100000 in
set_option maxHeartbeats 2000000 in
theorem rtake_any (b : ByteArray) (o e t x : Nat) (w : World) (hb : b.size ≤ 140737488355327) (h : htV b = (o, e, t, x)) :
    Calls Try.prog 9 #[.string b] w fun y w' => y = .returned (.tuple #[agH o e t, .int .i64 (x : Int)]) ∧ Below w.heap.size w w' := by
  unfold agH
  obtain ⟨a, i, x1, h1⟩ : ∃ a i x, nmS b 2147483647 = (a, i, x) := ⟨_, _, _, rfl⟩
  obtain ⟨c, k, y1, h2⟩ : ∃ c k y, nmS (b.extract i b.size) 2147483647 = (c, k, y) := ⟨_, _, _, rfl⟩
  obtain ⟨n, j, z1, h3⟩ : ∃ n j z, tkS (b.extract (i + k) b.size) = (n, j, z) := ⟨_, _, _, rfl⟩
  have H1 := Lib.hid h1
  have H2 := Lib.hid h2
  have H3 := Lib.hid h3
  have HV := Lib.hid h
  have HC := Lib.hid (Cs.new w [.int .i64 0, .int .i64 0, .int .u64 0] 24)
  have HB := Lib.hid ((Below.refl w.heap.size w).alloc (Nat.le_refl _) (.cells #[.int .i64 0, .int .i64 0, .int .u64 0] 24))
  have cc := HC.out.three
  have es : ∀ i, (b.extract i b.size).size ≤ maxLen := fun i => by rw [ByteArray.size_extract]; unfold maxLen; omega
  have ES := Lib.hid es
  clear h1 h2 h3 h es
  by_cases hx : x1 = 0
  · subst hx
    have l1 := nmS_lo _ _ _ _ H1.out
    by_cases hy : y1 = 0
    · subst hy
      have l2 := nmS_lo _ _ _ _ H2.out
      rw [ByteArray.size_extract] at l2
      by_cases hz : z1 = 0
      · subst hz
        have l3 := tkS_good _ _ _ H3.out
        rw [ByteArray.size_extract] at l3
        by_cases hs : i + k + j = b.size
        · have hg := ht_good H1.out H2.out H3.out hs
          rw [htV_some hg] at HV
          obtain ⟨rfl, rfl, rfl, rfl⟩ : a = o ∧ c = e ∧ n = t ∧ 0 = x := by simpa using HV.out
          go_enter Try.func9, Try.ntmps9
          go_wp2_with (first
            | (go_at_call 22; (with_reducible refine (rnm_ret b 2147483647 a i 0 H1.out _ (by unfold maxLen; omega) (by omega) (by omega)).mono ?_); rintro y w' ⟨rfl, rfl⟩)
            | (go_at_call 22; (with_reducible refine (rnm_ret (b.extract i b.size) 2147483647 c k 0 H2.out _ (ES.out i) (by omega) (by omega)).mono ?_); rintro y w' ⟨rfl, rfl⟩)
            | (go_at_call 23; (with_reducible refine (rtake_ret (b.extract (i + k) b.size) n j 0 H3.out _ (ES.out (i + k))).mono ?_); rintro y w' ⟨rfl, rfl⟩))
          go_returns
          exact ⟨rfl, (Below.refl w.heap.size w).alloc (Nat.le_refl _) _⟩
        · have hg := ht_bad3 H1.out H2.out H3.out (.inr hs)
          rw [htV_none hg] at HV
          obtain ⟨rfl, rfl, rfl, rfl⟩ : 0 = o ∧ 0 = e ∧ 0 = t ∧ 1 = x := by simpa using HV.out
          have hs' : ((i : Int) + (k : Int) + (j : Int) != (b.size : Int)) = true := by simpa using (show ¬ ((i : Int) + (k : Int) + (j : Int) = (b.size : Int)) by omega)
          go_enter Try.func9, Try.ntmps9
          go_wp2_with (first
            | (go_at_call 22; (with_reducible refine (rnm_ret b 2147483647 a i 0 H1.out _ (by unfold maxLen; omega) (by omega) (by omega)).mono ?_); rintro y w' ⟨rfl, rfl⟩)
            | (go_at_call 22; (with_reducible refine (rnm_ret (b.extract i b.size) 2147483647 c k 0 H2.out _ (ES.out i) (by omega) (by omega)).mono ?_); rintro y w' ⟨rfl, rfl⟩)
            | (go_at_call 23; (with_reducible refine (rtake_ret (b.extract (i + k) b.size) n j 0 H3.out _ (ES.out (i + k))).mono ?_); rintro y w' ⟨rfl, rfl⟩))
          go_returns
          exact ⟨rfl, HB.out⟩
      · have hg := ht_bad3 H1.out H2.out H3.out (.inl hz)
        rw [htV_none hg] at HV
        obtain ⟨rfl, rfl, rfl, rfl⟩ : 0 = o ∧ 0 = e ∧ 0 = t ∧ 1 = x := by simpa using HV.out
        have hz' : ((z1 : Int) != 0) = true := by simpa using (show ¬ (z1 : Int) = 0 by omega)
        obtain ⟨_, _, hzb⟩ := tkS_bad _ _ _ _ H3.out hz
        go_enter Try.func9, Try.ntmps9
        go_wp2_with (first
          | (go_at_call 22; (with_reducible refine (rnm_ret b 2147483647 a i 0 H1.out _ (by unfold maxLen; omega) (by omega) (by omega)).mono ?_); rintro y w' ⟨rfl, rfl⟩)
          | (go_at_call 22; (with_reducible refine (rnm_ret (b.extract i b.size) 2147483647 c k 0 H2.out _ (ES.out i) (by omega) (by omega)).mono ?_); rintro y w' ⟨rfl, rfl⟩)
          | (go_at_call 23; (with_reducible refine (rtake_ret (b.extract (i + k) b.size) n j z1 H3.out _ (ES.out (i + k))).mono ?_); rintro y w' ⟨rfl, rfl⟩))
        go_returns
        exact ⟨rfl, HB.out⟩
    · have hg := ht_bad2 H1.out H2.out hy
      rw [htV_none hg] at HV
      obtain ⟨rfl, rfl, rfl, rfl⟩ : 0 = o ∧ 0 = e ∧ 0 = t ∧ 1 = x := by simpa using HV.out
      have hy' : ((y1 : Int) != 0) = true := by simpa using (show ¬ (y1 : Int) = 0 by omega)
      go_enter Try.func9, Try.ntmps9
      go_wp2_with (first
        | (go_at_call 22; (with_reducible refine (rnm_ret b 2147483647 a i 0 H1.out _ (by unfold maxLen; omega) (by omega) (by omega)).mono ?_); rintro y w' ⟨rfl, rfl⟩)
        | (go_at_call 22; (with_reducible refine (rnm_ret (b.extract i b.size) 2147483647 c k y1 H2.out _ (ES.out i) (by omega) (by omega)).mono ?_); rintro y w' ⟨rfl, rfl⟩))
      go_returns
      exact ⟨rfl, HB.out⟩
  · have hg := ht_bad1 H1.out hx
    rw [htV_none hg] at HV
    obtain ⟨rfl, rfl, rfl, rfl⟩ : 0 = o ∧ 0 = e ∧ 0 = t ∧ 1 = x := by simpa using HV.out
    have hx' : ((x1 : Int) != 0) = true := by simpa using (show ¬ (x1 : Int) = 0 by omega)
    go_enter Try.func9, Try.ntmps9
    go_wp2_with (first
      | (go_at_call 22; (with_reducible refine (rnm_ret b 2147483647 a i x1 H1.out _ (by unfold maxLen; omega) (by omega) (by omega)).mono ?_); rintro y w' ⟨rfl, rfl⟩))
    go_returns
    exact ⟨rfl, HB.out⟩
end Go.Proofs.Ytldjefnijkefcaa.He
