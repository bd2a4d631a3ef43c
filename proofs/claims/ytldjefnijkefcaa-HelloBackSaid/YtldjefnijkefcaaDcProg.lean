/- Dice: a program's dice that keep their numbers in a ring of 64 in one block, and what each call does to them (the program's own, at 4e30a61). -/
import Derived.Test.YtldjefnijkefcaaDcApi
namespace Go.Proofs.Ytldjefnijkefcaa.Dc
open Go.RowKit Cm
set_option linter.unusedVariables false
set_option linter.unusedSimpArgs false

/-- The ring's cells: 64 numbers, where the first stands, how many there are. -/
def rV (R : Nat → Nat) (a n : Nat) : List Value := (List.range 64).map (fun k => Value.int .u64 (R k : Int)) ++ [.int .i64 (a : Int), .int .i64 (n : Int)]
theorem rV_at (R : Nat → Nat) (a n : Nat) {k : Nat} (h : k < 64) : (rV R a n)[k]? = some (.int .u64 (R k : Int)) := by
  unfold rV
  rw [List.getElem?_append_left (by simp; exact h), List.getElem?_map, List.getElem?_range h]
  rfl
theorem rV_a (R : Nat → Nat) (a n : Nat) : (rV R a n)[64]? = some (.int .i64 (a : Int)) := by
  unfold rV
  rw [List.getElem?_append_right (by simp)]
  simp
theorem rV_n (R : Nat → Nat) (a n : Nat) : (rV R a n)[65]? = some (.int .i64 (n : Int)) := by
  unfold rV
  rw [List.getElem?_append_right (by simp)]
  simp
def upR (R : Nat → Nat) (k x : Nat) : Nat → Nat := fun i => if i = k then x else R i
theorem rV_len (R : Nat → Nat) (a n : Nat) : (rV R a n).length = 66 := by simp [rV]
theorem rV_ext {vs : List Value} {R : Nat → Nat} {a n : Nat} (hl : vs.length = 66) (h1 : ∀ k, k < 64 → vs[k]? = some (.int .u64 (R k : Int))) (h2 : vs[64]? = some (.int .i64 (a : Int))) (h3 : vs[65]? = some (.int .i64 (n : Int))) : vs = rV R a n := by
  apply List.ext_getElem?
  intro i
  by_cases hi : i < 64
  · rw [h1 i hi, rV_at _ _ _ hi]
  · by_cases h4 : i = 64
    · subst h4; rw [h2, rV_a]
    · by_cases h5 : i = 65
      · subst h5; rw [h3, rV_n]
      · rw [List.getElem?_eq_none (by omega), List.getElem?_eq_none (by rw [rV_len]; omega)]
theorem rV_set (R : Nat → Nat) (a n : Nat) {k : Nat} (x : Nat) (h : k < 64) : (rV R a n).set k (.int .u64 (x : Int)) = rV (upR R k x) a n := by
  refine rV_ext (by rw [List.length_set, rV_len]) (fun i hi => ?_) ?_ ?_
  · unfold upR
    by_cases e : i = k
    · subst e; rw [if_pos rfl, List.getElem?_set_self (by rw [rV_len]; omega)]
    · rw [if_neg e, List.getElem?_set_ne (fun h => e h.symm), rV_at _ _ _ hi]
  · rw [List.getElem?_set_ne (by omega), rV_a]
  · rw [List.getElem?_set_ne (by omega), rV_n]
theorem rV_seta (R : Nat → Nat) (a n b : Nat) : (rV R a n).set 64 (.int .i64 (b : Int)) = rV R b n := by
  refine rV_ext (by rw [List.length_set, rV_len]) (fun i hi => ?_) ?_ ?_
  · rw [List.getElem?_set_ne (by omega), rV_at _ _ _ hi]
  · rw [List.getElem?_set_self (by rw [rV_len]; omega)]
  · rw [List.getElem?_set_ne (by omega), rV_n]
theorem rV_setn (R : Nat → Nat) (a n b : Nat) : (rV R a n).set 65 (.int .i64 (b : Int)) = rV R a b := by
  refine rV_ext (by rw [List.length_set, rV_len]) (fun i hi => ?_) ?_ ?_
  · rw [List.getElem?_set_ne (by omega), rV_at _ _ _ hi]
  · rw [List.getElem?_set_ne (by omega), rV_a]
  · rw [List.getElem?_set_self (by rw [rV_len]; omega)]
/-- The dice of block B keep the numbers L. -/
def Dd (B : Nat) (L : List Nat) (w : World) : Prop := ∃ R a, Cs B (rV R a L.length) w ∧ a < 64 ∧ L.length ≤ 64 ∧ ∀ i x, L[i]? = some x → R ((a + i) % 64) = x
def zC : Array Value := ((List.replicate 64 (Value.int .u64 0)) ++ [Value.int .i64 0, Value.int .i64 0]).toArray
theorem zC_run (w : World) : (zeroValue 59).run Try.prog w = .ok (.agg zC) w := by
  have h : (Try.prog.info? 59).map (·.zero) = some (some (.agg zC)) := by kernel_rfl
  obtain ⟨i, hi, he⟩ := Option.map_eq_some_iff.1 h
  simp [zeroValue, typeInfo, hi, he]
theorem zC_new (w : World) : Dd w.heap.size [] (w.alloc (.cells zC 59)) := by
  have h := Cs.new w (rV (fun _ => 0) 0 0) 59
  have e : (rV (fun _ => 0) 0 0).toArray = zC := by kernel_rfl
  rw [e] at h
  exact ⟨_, 0, h, by omega, by simp, fun i x hi => by simp at hi⟩
theorem Dd.lt {B : Nat} {L : List Nat} {w : World} (h : Dd B L w) : B < w.heap.size := by
  obtain ⟨R, a, hc, _⟩ := h; exact hc.lt
set_option maxRecDepth 100000 in
theorem new_any (w : World) : Calls Try.prog 11 #[] w fun e w' => ∃ B, e = .returned (.pointer (some ⟨B, 0, none⟩)) ∧ w.heap.size ≤ B ∧ Below w.heap.size w w' ∧ Dd B [] w' := by
  have hz := zC_run
  have h0 := Lib.hid (zC_new w)
  go_enter Try.func11, Try.ntmps11
  go_wp2
  go_ret
  exact ⟨_, rfl, Nat.le_refl _, (Below.refl _ _).alloc (Nat.le_refl _) _, h0.out⟩
set_option maxRecDepth 100000 in
theorem left_ret (B : Nat) (L : List Nat) (w : World) (h : Dd B L w) : Calls Try.prog 30 #[.pointer (some ⟨B, 0, none⟩)] w fun e w' => e = .returned (.int .i64 (L.length : Nat)) ∧ w' = w := by
  obtain ⟨R, a, hc, ha, hL, hx⟩ := h
  have c0 := hc.cell (rV_n R a L.length)
  clear hc hx
  go_enter Try.func30, Try.ntmps30
  go_wp2
  go_ret
  exact ⟨rfl, rfl⟩
theorem left_any (B : Nat) (L : List Nat) (w : World) (h : Dd B L w) : Calls Try.prog 30 #[.pointer (some ⟨B, 0, none⟩)] w fun e w' => e = .returned (.int .i64 (L.length : Nat)) ∧ Only B w w' ∧ Dd B L w' := by
  refine (left_ret B L w h).mono ?_
  rintro e w' ⟨he, hw⟩
  rw [hw]
  exact ⟨he, Only.refl _ _, h⟩
set_option maxRecDepth 100000 in
theorem left_nil (w : World) : Calls Try.prog 30 #[.pointer none] w fun e w' => e = .returned (.int .i64 0) ∧ w' = w := by
  go_enter Try.func30, Try.ntmps30
  go_wp2
  go_ret
  exact ⟨rfl, rfl⟩
set_option maxRecDepth 100000 in
set_option maxHeartbeats 1000000 in
theorem take0_any (B : Nat) (w : World) (h : Dd B [] w) : Calls Try.prog 25 #[.pointer (some ⟨B, 0, none⟩)] w fun e w' => e = .returned (.tuple #[.int .u64 0, .bool false]) ∧ Only B w w' ∧ Dd B [] w' := by
  have H := Lib.hid h
  clear h
  go_enter Try.func25, Try.ntmps25
  go_wp2_with (go_at_call 30; refine (left_ret B [] _ H.out).mono ?_; rintro e1 w1 ⟨rfl, hw⟩; rw [hw]; clear hw w1)
  go_ret2
  exact ⟨rfl, Only.refl _ _, H.out⟩
set_option maxRecDepth 100000 in
set_option maxHeartbeats 1000000 in
theorem take1_any (B n : Nat) (T : List Nat) (w : World) (h : Dd B (n :: T) w) : Calls Try.prog 25 #[.pointer (some ⟨B, 0, none⟩)] w fun e w' => e = .returned (.tuple #[.int .u64 (n : Nat), .bool true]) ∧ Only B w w' ∧ Dd B T w' := by
  have H := Lib.hid h
  obtain ⟨R, a, hc, ha, hL, hx⟩ := h
  have hn : R a = n := by have := hx 0 n rfl; rwa [Nat.add_zero, Nat.mod_eq_of_lt ha] at this
  have hT : T.length ≤ 63 := by simpa using hL
  have c1 := hc.cell (rV_a R a (n :: T).length)
  have c2 := hc.cell (rV_at R a (n :: T).length ha)
  rw [hn] at c2
  have e1 : ((((n :: T).length : Nat) : Int) == 0) = false := beq_eq_false_iff_ne.2 (by simp; omega)
  have HC := Lib.hid hc
  have HX := Lib.hid hx
  have b0 : (0 : Int) ≤ (a : Int) := by omega
  have b1 : (a : Int) < 64 := by omega
  have HT := Lib.hid hT
  have HN := Lib.hid hn
  clear hc hx hn hL hT
  generalize hm : (n :: T).length = m at HC e1 c1 c2
  have HM := Lib.hid hm
  clear hm
  go_enter Try.func25, Try.ntmps25
  go_upto_region 3 with (go_at_call 30; refine (left_ret B (n :: T) _ H.out).mono ?_; rintro e1 w1 ⟨rfl, hw⟩; rw [hw, HM.out]; clear hw w1)
  go_big_quiet (fail)
  have HB := Lib.hid (below_drewN (Below.refl w.heap.size w) nq)
  have HC1 := Lib.hid (HC.out.below HB.out HC.out.lt)
  clear c1 c2
  generalize w.drewN nq = w1 at HB HC1 ⊢
  have c1 := HC1.out.cell (rV_a R a m)
  have c2 := HC1.out.cell (rV_at R a m ha)
  have f2 := HC1.out.frozen (rV_at R a m ha)
  go_upto_region 4 with fail
  go_still_tail 8, (by kernel_rfl)
  change wpList _ _ _ _ _ w1.drew
  have hc2 := HC1.out.put (i := a) (.int .u64 ((0 : Nat) : Int))
  rw [rV_set R a m 0 ha] at hc2
  have HC2 := Lib.hid hc2.drew
  have HO2 := Lib.hid ((((Only.of (B := B) HB.out).setCell (o := a) (.int .u64 ((0 : Nat) : Int)))).after (Below.refl _ _).drew)
  clear hc2
  have c3 := HC2.out.cell (rV_a (upR R a 0) a m)
  have c4 := HC2.out.cell (rV_n (upR R a 0) a m)
  have f3 := HC2.out.frozen (rV_a (upR R a 0) a m)
  have e2 : ((a : Int) + 1).tmod 64 = (((a + 1) % 64 : Nat) : Int) := by rw [Int.tmod_eq_emod_of_nonneg (by omega)]; omega
  have hm1 : m = T.length + 1 := by rw [← HM.out]; rfl
  have f4 := HC2.out.frozen (rV_n (upR R a 0) a m)
  have e3 : ((m : Nat) : Int) - 1 = (T.length : Int) := by omega
  have bm : (0 : Int) ≤ (m : Int) ∧ (m : Int) ≤ 64 := by have := HT.out; omega
  have HM1 := Lib.hid hm1
  clear hm1 e1
  go_upto_region 5 with fail
  generalize (w1.setCell ⟨B, a, none⟩ (.int .u64 0)).drew = w2 at *
  go_wp2
  go_ret2
  have h3 := HC2.out.put (i := 64) (.int .i64 (((a + 1) % 64 : Nat) : Int))
  have h4 := h3.put (i := 65) (.int .i64 (T.length : Int))
  rw [rV_seta, rV_setn] at h4
  refine ⟨rfl, ((HO2.out.setCell _).setCell _), upR R a 0, (a + 1) % 64, h4, by omega, by have := HT.out; omega, fun i x hi => ?_⟩
  have := HX.out (i + 1) x (by simpa using hi)
  have hi2 : i < T.length := (List.getElem?_eq_some_iff.1 hi).1
  have := HT.out
  rw [show ((a + 1) % 64 + i) % 64 = (a + (i + 1)) % 64 by omega]
  unfold upR
  rw [if_neg (by omega)]; assumption
set_option maxRecDepth 100000 in
set_option maxHeartbeats 1000000 in
theorem put_full (B : Nat) (L : List Nat) (n : Nat) (w : World) (h : Dd B L w) (hl : ¬ L.length < 64) : Calls Try.prog 13 #[.pointer (some ⟨B, 0, none⟩), .int .u64 n] w fun e w' => e = .returned (.bool false) ∧ Only B w w' ∧ Dd B L w' := by
  have H := Lib.hid h
  obtain ⟨R, a, hc, ha, hL, hx⟩ := h
  have c0 := hc.cell (rV_n R a L.length)
  have e0 : ((L.length : Int) == 64) = true := beq_iff_eq.2 (by omega)
  clear hc hx
  go_enter Try.func13, Try.ntmps13
  go_wp2
  go_ret
  exact ⟨rfl, Only.refl _ _, H.out⟩
set_option maxRecDepth 100000 in
set_option maxHeartbeats 1000000 in
theorem put_room (B : Nat) (L : List Nat) (n : Nat) (w : World) (h : Dd B L w) (hl : L.length < 64) (hn : n < 18446744073709551616) : Calls Try.prog 13 #[.pointer (some ⟨B, 0, none⟩), .int .u64 n] w fun e w' => e = .returned (.bool true) ∧ Only B w w' ∧ Dd B (L ++ [n]) w' := by
  obtain ⟨R, a, hc, ha, hL, hx⟩ := h
  obtain ⟨k, hk⟩ : ∃ k, k = (a + L.length) % 64 := ⟨_, rfl⟩
  have hk64 : k < 64 := by omega
  have c0 := hc.cell (rV_n R a L.length)
  have c1 := hc.cell (rV_a R a L.length)
  have c2 := hc.cell (rV_at R a L.length hk64)
  have f0 := hc.frozen (rV_n R a L.length)
  have f2 := hc.frozen (rV_at R a L.length hk64)
  have e0 : ((L.length : Int) == 64) = false := beq_eq_false_iff_ne.2 (by omega)
  have ew : IntKind.i64.wrap ((a : Int) + (L.length : Int)) = (a : Int) + (L.length : Int) := IntWalk.i64_in _ (by omega)
  have e1 : ((a : Int) + (L.length : Int)).tmod 64 = (k : Int) := by rw [Int.tmod_eq_emod_of_nonneg (by omega)]; omega
  have HC := Lib.hid hc
  have HX := Lib.hid hx
  have HK := Lib.hid hk
  have b0 : (0 : Int) ≤ (k : Int) := by omega
  have b1 : (k : Int) < 64 := by omega
  clear hc hx hk
  go_enter Try.func13, Try.ntmps13
  go_upto_region 3 with fail
  go_still_tail 15, (by kernel_rfl)
  change wpList _ _ _ _ _ w.drew
  go_wp2
  go_ret
  have h1 := HC.out.put (i := k) (.int .u64 (n : Int))
  have h2 := h1.put (i := 65) (.int .i64 ((L.length + 1 : Nat) : Int))
  rw [rV_set R a L.length n hk64, rV_setn] at h2
  refine ⟨rfl, ((((Only.refl B w).setCell (B := B) _).setCell _).after (Below.refl _ _).drew), upR R k n, a, by rw [List.length_append]; exact h2.drew, ha, by simp; omega, fun i x hi => ?_⟩
  have hkk := HK.out
  by_cases hil : i < L.length
  · rw [List.getElem?_append_left hil] at hi
    unfold upR
    rw [if_neg (by omega)]
    exact HX.out i x hi
  · have hi2 : i < (L ++ [n]).length := (List.getElem?_eq_some_iff.1 hi).1
    obtain rfl : i = L.length := by simp at hi2; omega
    rw [List.getElem?_append_right (Nat.le_refl _), Nat.sub_self] at hi
    obtain rfl : n = x := by simpa using hi
    unfold upR
    rw [if_pos hkk.symm]
set_option maxRecDepth 100000 in
theorem take_none (w : World) : Calls Try.prog 25 #[.pointer none] w fun e w' => e = .returned (.tuple #[.int .u64 0, .bool false]) ∧ Below w.heap.size w w' := by
  have h0 := Lib.hid (Below.refl w.heap.size w)
  go_enter Try.func25, Try.ntmps25
  go_wp2_with (go_at_call 30; refine (left_nil _).mono ?_; rintro e1 w1 ⟨rfl, hw⟩; rw [hw]; clear hw w1)
  go_ret2
  exact ⟨rfl, h0.out⟩
set_option maxRecDepth 100000 in
theorem put_none (n : Nat) (w : World) : Calls Try.prog 13 #[.pointer none, .int .u64 n] w fun e w' => e = .returned (.bool false) ∧ Below w.heap.size w w' := by
  have h0 := Lib.hid (Below.refl w.heap.size w)
  go_enter Try.func13, Try.ntmps13
  go_wp2
  go_ret
  exact ⟨rfl, h0.out⟩
set_option maxRecDepth 100000 in
theorem left_none (w : World) : Calls Try.prog 30 #[.pointer none] w fun e w' => e = .returned (.int .i64 0) ∧ Below w.heap.size w w' := by
  have h0 := Lib.hid (Below.refl w.heap.size w)
  go_enter Try.func30, Try.ntmps30
  go_wp2
  go_ret
  exact ⟨rfl, h0.out⟩
theorem xor_u64 (a b : Nat) (ha : a < 18446744073709551616) (hb : b < 18446744073709551616) : bits BinOp.xor IntKind.u64 (a : Int) (b : Int) = ((a ^^^ b : Nat) : Int) := by
  show IntKind.u64.wrap ((BitVec.ofInt 64 (a : Int) ^^^ BitVec.ofInt 64 (b : Int)).toNat : Int) = _
  rw [BitVec.toNat_xor, ofInt_u64 _ (by omega), ofInt_u64 _ (by omega), wrap_nat, Nat.mod_eq_of_lt (xor_lt ha hb)]
set_option maxRecDepth 100000 in
set_option maxHeartbeats 1000000 in
theorem mix_any (A B : Nat) (w : World) (hA : A < 18446744073709551616) (hB : B < 18446744073709551616) :
    Calls Try.prog 31 #[.int .u64 A, .int .u64 B] w fun e w' => e = .returned (.int .u64 ((mixN A B : Nat) : Int)) ∧ Below w.heap.size w w' := by
  obtain ⟨X, hX⟩ : ∃ X, X = (A ^^^ B) * 11400714819323198485 % 18446744073709551616 := ⟨_, rfl⟩
  obtain ⟨Y, hY⟩ : ∃ Y, Y = (X ^^^ (X / 536870912)) * 13787848793156543929 % 18446744073709551616 := ⟨_, rfl⟩
  have hXl : X < 18446744073709551616 := by omega
  have hYl : Y < 18446744073709551616 := by omega
  have x0 := xor_u64 A B hA hB
  have x1 : bits BinOp.xor IntKind.u64 (X : Int) ((X : Int) / 536870912) = ((X ^^^ (X / 536870912) : Nat) : Int) := xor_u64 X (X / 536870912) hXl (by omega)
  have x2 : bits BinOp.xor IntKind.u64 (Y : Int) ((Y : Int) / 4294967296) = ((Y ^^^ (Y / 4294967296) : Nat) : Int) := xor_u64 Y (Y / 4294967296) hYl (by omega)
  have e1 : IntKind.u64.wrap (11400714819323198485 * ((A ^^^ B : Nat) : Int)) = (X : Int) := by rw [show (11400714819323198485 * ((A ^^^ B : Nat) : Int)) = (((A ^^^ B) * 11400714819323198485 : Nat) : Int) by omega, wrap_nat, hX]
  have e2 : IntKind.u64.wrap (13787848793156543929 * ((X ^^^ (X / 536870912) : Nat) : Int)) = (Y : Int) := by rw [show (13787848793156543929 * ((X ^^^ (X / 536870912) : Nat) : Int)) = (((X ^^^ (X / 536870912)) * 13787848793156543929 : Nat) : Int) by omega, wrap_nat, hY]
  have hm : mixN A B = Y ^^^ (Y / 4294967296) := by unfold mixN; simp only; rw [← hX, ← hY]
  have HM := Lib.hid hm
  have h0 := Lib.hid (Below.refl w.heap.size w)
  clear hX hY hm
  go_enter Try.func31, Try.ntmps31
  go_wp2
  go_ret
  exact ⟨by rw [HM.out]; rfl, h0.out⟩
theorem api : Api Dd where
  lt := Dd.lt
  room := fun ⟨_, _, _, _, h, _⟩ => h
  kept := fun ⟨R, a, hc, ha, hL, hx⟩ hb hs => ⟨R, a, hc.kept hb hs, ha, hL, hx⟩
  new := new_any
  put := fun B L n w h hn => by
    by_cases hl : L.length < 64
    · rw [decide_eq_true hl, if_pos hl]; exact put_room B L n w h hl hn
    · rw [decide_eq_false hl, if_neg hl]; exact put_full B L n w h hl
  take0 := take0_any
  take1 := take1_any
  left := left_any
  putN := put_none
  takeN := take_none
  leftN := left_none
  mix := mix_any
end Go.Proofs.Ytldjefnijkefcaa.Dc
