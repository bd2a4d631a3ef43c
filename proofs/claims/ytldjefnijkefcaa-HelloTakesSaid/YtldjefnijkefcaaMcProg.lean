/- Tags that were issued: a program's table that keeps nine owners' epochs and tags in one block, and what each call does to it (the program's own, at ea8538f). -/
import Derived.Test.YtldjefnijkefcaaMcApi
import Derived.Test.YtldjefnijkefcaaDcProg
import Derived.StillTailTactics
namespace Go.Proofs.Ytldjefnijkefcaa.Mc
open Go.RowKit Cm Dc
set_option linter.unusedVariables false
set_option linter.unusedSimpArgs false

/-- The table's cells: nine owners' epochs and tags. -/
def mV (E T : Nat → Nat) : List Value := (List.range 18).map fun k => if k % 2 = 0 then Value.int .i64 (E (k / 2) : Int) else Value.int .u64 (T (k / 2) : Int)
theorem mV_len (E T : Nat → Nat) : (mV E T).length = 18 := by simp [mV]
theorem mV_e (E T : Nat → Nat) {o : Nat} (h : o ≤ 8) : (mV E T)[o * 2]? = some (.int .i64 (E o : Int)) := by
  unfold mV
  rw [List.getElem?_map, List.getElem?_range (by omega), Option.map_some, if_pos (by omega), show o * 2 / 2 = o by omega]
theorem mV_t (E T : Nat → Nat) {o : Nat} (h : o ≤ 8) : (mV E T)[o * 2 + 1]? = some (.int .u64 (T o : Int)) := by
  unfold mV
  rw [List.getElem?_map, List.getElem?_range (by omega), Option.map_some, if_neg (by omega), show (o * 2 + 1) / 2 = o by omega]
theorem mV_ext {vs : List Value} {E T : Nat → Nat} (hl : vs.length = 18) (h1 : ∀ o, o ≤ 8 → vs[o * 2]? = some (.int .i64 (E o : Int))) (h2 : ∀ o, o ≤ 8 → vs[o * 2 + 1]? = some (.int .u64 (T o : Int))) : vs = mV E T := by
  apply List.ext_getElem?
  intro i
  by_cases hi : i < 18
  · by_cases he : i % 2 = 0
    · have e := h1 (i / 2) (by omega)
      have f := mV_e E T (o := i / 2) (by omega)
      rw [show i / 2 * 2 = i by omega] at e f
      rw [e, f]
    · have e := h2 (i / 2) (by omega)
      have f := mV_t E T (o := i / 2) (by omega)
      rw [show i / 2 * 2 + 1 = i by omega] at e f
      rw [e, f]
  · rw [List.getElem?_eq_none (by omega), List.getElem?_eq_none (by rw [mV_len]; omega)]
theorem mV_sete (E T : Nat → Nat) {o : Nat} (x : Nat) (h : o ≤ 8) : (mV E T).set (o * 2) (.int .i64 (x : Int)) = mV (upN E o x) T := by
  refine mV_ext (by rw [List.length_set, mV_len]) (fun i hi => ?_) (fun i hi => ?_)
  · by_cases e : i = o
    · subst e; rw [upN_same, List.getElem?_set_self (by rw [mV_len]; omega)]
    · rw [upN_other E x e, List.getElem?_set_ne (by omega), mV_e E T hi]
  · rw [List.getElem?_set_ne (by omega), mV_t E T hi]
theorem mV_sett (E T : Nat → Nat) {o : Nat} (x : Nat) (h : o ≤ 8) : (mV E T).set (o * 2 + 1) (.int .u64 (x : Int)) = mV E (upN T o x) := by
  refine mV_ext (by rw [List.length_set, mV_len]) (fun i hi => ?_) (fun i hi => ?_)
  · rw [List.getElem?_set_ne (by omega), mV_e E T hi]
  · by_cases e : i = o
    · subst e; rw [upN_same, List.getElem?_set_self (by rw [mV_len]; omega)]
    · rw [upN_other T x e, List.getElem?_set_ne (by omega), mV_t E T hi]
/-- The table of block B has the epochs E and the tags T. -/
def Mt (B : Nat) (E T : Nat → Nat) (w : World) : Prop := Cs B (mV E T) w
def zM : Array Value := (mV (fun _ => 0) (fun _ => 0)).toArray
theorem zM_run (w : World) : (zeroValue 64).run Try.prog w = .ok (.agg zM) w := by
  have h : (Try.prog.info? 64).map (·.zero) = some (some (.agg zM)) := by kernel_rfl
  obtain ⟨i, hi, he⟩ := Option.map_eq_some_iff.1 h
  simp [zeroValue, typeInfo, hi, he]
theorem zM_new (w : World) : Mt w.heap.size (fun _ => 0) (fun _ => 0) (w.alloc (.cells zM 64)) := Cs.new w _ _
set_option maxRecDepth 100000 in
theorem new_any (w : World) : Calls Try.prog 12 #[] w fun e w' => ∃ B, e = .returned (.pointer (some ⟨B, 0, none⟩)) ∧ w.heap.size ≤ B ∧ Below w.heap.size w w' ∧ Mt B (fun _ => 0) (fun _ => 0) w' := by
  have hz := zM_run
  have h0 := Lib.hid (zM_new w)
  go_enter Try.func12, Try.ntmps12
  go_wp2
  go_ret
  exact ⟨_, rfl, Nat.le_refl _, (Below.refl _ _).alloc (Nat.le_refl _) _, h0.out⟩
set_option maxRecDepth 100000 in
theorem owner_any (n : Int) (w : World) : Calls Try.prog 24 #[.int .i64 n] w fun e w' => e = .returned (.bool (decide (0 ≤ n ∧ n ≤ 8))) ∧ w' = w := by
  by_cases h1 : 0 ≤ n
  · by_cases h2 : n ≤ 8
    · rw [decide_eq_true ⟨h1, h2⟩]
      go_enter Try.func24, Try.ntmps24
      go_wp2
      go_ret
      exact ⟨rfl, rfl⟩
    · rw [decide_eq_false (fun h => h2 h.2)]
      go_enter Try.func24, Try.ntmps24
      go_wp2
      go_ret
      exact ⟨rfl, rfl⟩
  · rw [decide_eq_false (fun h => h1 h.1)]
    go_enter Try.func24, Try.ntmps24
    go_wp2
    go_ret
    exact ⟨rfl, rfl⟩
theorem owner_yes (o : Nat) (w : World) (h : o ≤ 8) : Calls Try.prog 24 #[.int .i64 (o : Int)] w fun e w' => e = .returned (.bool true) ∧ w' = w := by
  have := owner_any o w
  rw [decide_eq_true ⟨by omega, by omega⟩] at this
  exact this
theorem owner_no (n : Int) (w : World) (h : ¬ (0 ≤ n ∧ n ≤ 8)) : Calls Try.prog 24 #[.int .i64 n] w fun e w' => e = .returned (.bool false) ∧ w' = w := by
  have := owner_any n w
  rw [decide_eq_false h] at this
  exact this
set_option maxRecDepth 100000 in
set_option maxHeartbeats 1000000 in
theorem tag_any (n e o : Nat) (w : World) (hn : n < 18446744073709551616) (he : e ≤ 1099511627776) (ho : o ≤ 8) : Calls Try.prog 26 #[.int .u64 (n : Int), .int .i64 (e : Int), .int .i64 (o : Int)] w fun x w' => x = .returned (.int .u64 ((tagN n e o : Nat) : Int)) ∧ Below w.heap.size w w' := by
  obtain ⟨q, hq⟩ : ∃ q, 256 * e + o = q := ⟨_, rfl⟩
  obtain ⟨t, ht⟩ : ∃ t, mixN n q = t := ⟨_, rfl⟩
  have htl : t < 18446744073709551616 := by rw [← ht]; exact mix_lt _ _
  have e0 : IntKind.u64.wrap (e : Int) = (e : Int) := by rw [wrap_nat, Nat.mod_eq_of_lt (by omega)]
  have e1 : IntKind.u64.wrap (o : Int) = (o : Int) := by rw [wrap_nat, Nat.mod_eq_of_lt (by omega)]
  have e2 : IntKind.u64.wrap (256 * (e : Int)) = 256 * (e : Int) := by rw [show (256 * (e : Int)) = ((256 * e : Nat) : Int) by omega, wrap_nat, Nat.mod_eq_of_lt (by omega)]
  have e3 : IntKind.u64.wrap (256 * (e : Int) + (o : Int)) = (q : Int) := by rw [show (256 * (e : Int) + (o : Int)) = ((256 * e + o : Nat) : Int) by omega, wrap_nat, Nat.mod_eq_of_lt (by omega), hq]
  have hql : q < 18446744073709551616 := by omega
  have HT := Lib.hid ht
  have HN := Lib.hid hn
  have HQ := Lib.hid hql
  have h0 := Lib.hid (Below.refl w.heap.size w)
  unfold tagN
  rw [hq, ht]
  clear hq ht hql hn
  by_cases hz : t = 0
  · subst hz
    rw [if_pos rfl]
    go_enter Try.func26, Try.ntmps26
    go_wp2_with (go_at_call 31; refine (mix_any n q _ HN.out HQ.out).mono ?_; rw [HT.out]; rintro x w1 ⟨rfl, hb⟩; have HB := Lib.hid hb; clear hb)
    go_ret
    exact ⟨rfl, HB.out⟩
  · rw [if_neg hz]
    have hz2 : ((t : Int) == 0) = false := beq_eq_false_iff_ne.2 (by omega)
    have HZ := Lib.hid hz
    clear hz
    go_enter Try.func26, Try.ntmps26
    go_wp2_with (go_at_call 31; refine (mix_any n q _ HN.out HQ.out).mono ?_; rw [HT.out]; rintro x w1 ⟨rfl, hb⟩; have HB := Lib.hid hb; clear hb)
    go_ret
    exact ⟨rfl, HB.out⟩
set_option maxRecDepth 100000 in
set_option maxHeartbeats 1000000 in
theorem knows_ret (B : Nat) (o e : Int) (t : Nat) (E T : Nat → Nat) (w : World) (h : Mt B E T w) (ht : t < 18446744073709551616) : Calls Try.prog 16 #[.pointer (some ⟨B, 0, none⟩), .int .i64 o, .int .i64 e, .int .u64 (t : Int)] w
    fun e' w' => e' = .returned (.bool (decide (0 ≤ o ∧ o ≤ 8 ∧ (t : Int) ≠ 0 ∧ (E o.toNat : Int) = e ∧ (T o.toNat : Int) = t))) ∧ w' = w := by
  by_cases hO : 0 ≤ o ∧ o ≤ 8
  · obtain ⟨n, rfl⟩ : ∃ n : Nat, o = (n : Int) := ⟨o.toNat, by omega⟩
    have hn : n ≤ 8 := by omega
    have c0 := Cs.cell h (mV_e E T hn)
    have c1 := Cs.cell h (mV_t E T hn)
    have HN := Lib.hid hn
    have b0 : (0 : Int) ≤ (n : Int) := by omega
    have b1 : (n : Int) < 9 := by omega
    clear h
    by_cases hz : t = 0
    · subst hz
      rw [decide_eq_false (fun h => h.2.2.1 rfl)]
      go_enter Try.func16, Try.ntmps16
      go_wp2_with (go_at_call 24; refine (owner_yes n _ HN.out).mono ?_; rintro x w1 ⟨rfl, hw⟩; rw [hw]; clear hw w1)
      go_ret
      exact ⟨rfl, rfl⟩
    · have hz2 : ((t : Int) == 0) = false := beq_eq_false_iff_ne.2 (by omega)
      have hd : decide (0 ≤ (n : Int) ∧ (n : Int) ≤ 8 ∧ (t : Int) ≠ 0 ∧ (E (n : Int).toNat : Int) = e ∧ (T (n : Int).toNat : Int) = t) = decide ((E n : Int) = e ∧ (T n : Int) = t) :=
        decide_eq_decide.2 ⟨fun h => ⟨h.2.2.2.1, h.2.2.2.2⟩, fun h => ⟨by omega, by omega, by omega, h.1, h.2⟩⟩
      rw [hd]
      have HZ := Lib.hid hz
      clear hd hz hO
      go_enter Try.func16, Try.ntmps16
      go_wp2_with (go_at_call 24; refine (owner_yes n _ HN.out).mono ?_; rintro x w1 ⟨rfl, hw⟩; rw [hw]; clear hw w1)
      all_goals (go_ret; exact ⟨by simp [*], rfl⟩)
  · rw [decide_eq_false (fun h => hO ⟨h.1, h.2.1⟩)]
    have HO := Lib.hid hO
    clear h hO
    go_enter Try.func16, Try.ntmps16
    go_wp2_with (go_at_call 24; refine (owner_no o _ HO.out).mono ?_; rintro x w1 ⟨rfl, hw⟩; rw [hw]; clear hw w1)
    go_ret
    exact ⟨rfl, rfl⟩
theorem knows_any (B : Nat) (o e : Int) (t : Nat) (E T : Nat → Nat) (w : World) (h : Mt B E T w) (ho : I64 o) (he : I64 e) (ht : t < 18446744073709551616) : Calls Try.prog 16 #[.pointer (some ⟨B, 0, none⟩), .int .i64 o, .int .i64 e, .int .u64 (t : Int)] w
    fun e' w' => e' = .returned (.bool (decide (0 ≤ o ∧ o ≤ 8 ∧ (t : Int) ≠ 0 ∧ (E o.toNat : Int) = e ∧ (T o.toNat : Int) = t))) ∧ Only B w w' ∧ Mt B E T w' := by
  refine (knows_ret B o e t E T w h ht).mono ?_
  rintro e w' ⟨he, hw⟩
  rw [hw]
  exact ⟨he, Only.refl _ _, h⟩
set_option maxRecDepth 100000 in
theorem knows_none (o e : Int) (t : Nat) (w : World) (ho : I64 o) (he : I64 e) (ht : t < 18446744073709551616) : Calls Try.prog 16 #[.pointer none, .int .i64 o, .int .i64 e, .int .u64 (t : Int)] w fun e w' => e = .returned (.bool false) ∧ Below w.heap.size w w' := by
  have h0 := Lib.hid (Below.refl w.heap.size w)
  go_enter Try.func16, Try.ntmps16
  go_wp2
  go_ret
  exact ⟨rfl, h0.out⟩
set_option maxRecDepth 100000 in
set_option maxHeartbeats 2000000 in
theorem issue_yes (B D : Nat) (o : Nat) (E T : Nat → Nat) (n : Nat) (L : List Nat) (w : World) (h : Mt B E T w) (hd : Dd D (n :: L) w) (hne : B ≠ D) (ho : o ≤ 8) (hn : n < 18446744073709551616) (hE : E o < 1099511627776) :
    Calls Try.prog 14 #[.pointer (some ⟨B, 0, none⟩), .int .i64 (o : Int), .pointer (some ⟨D, 0, none⟩)] w
    fun e w' => e = .returned (.tuple #[.int .i64 ((E o + 1 : Nat) : Int), .int .u64 ((tagN n (E o + 1) o : Nat) : Int), .int .i64 0]) ∧ Two B D w w' ∧ Mt B (upN E o (E o + 1)) (upN T o (tagN n (E o + 1) o)) w' ∧ Dd D L w' := by
  have HM := Lib.hid h
  have HD := Lib.hid hd
  have HNE := Lib.hid hne
  have HN := Lib.hid ho
  have HL := Lib.hid hn
  obtain ⟨m, hm⟩ : ∃ m, E o = m := ⟨_, rfl⟩
  obtain ⟨t, ht⟩ : ∃ t, tagN n (m + 1) o = t := ⟨_, rfl⟩
  have hml : m < 1099511627776 := by omega
  have HX := Lib.hid (show m + 1 ≤ 1099511627776 by omega)
  have HT := Lib.hid ht
  have HE := Lib.hid hm
  have ew : IntKind.i64.wrap ((m : Int) + 1) = (m : Int) + 1 := IntWalk.i64_in _ (by omega)
  have b0 : (0 : Int) ≤ (o : Int) := by omega
  have b1 : (o : Int) < 9 := by omega
  rw [hm, ht]
  clear h hd hne ho hn hm ht hE
  go_enter Try.func14, Try.ntmps14
  go_upto_region 10 with (first
    | (go_at_call 24; refine (owner_yes o _ HN.out).mono ?_; rintro x w1 ⟨rfl, hw⟩; rw [hw]; clear hw w1)
    | (go_at_call 25; refine (take1_any D n L _ HD.out).mono ?_; rintro x w1 ⟨rfl, ho1, hd1⟩; have HO1 := Lib.hid ho1; have HD1 := Lib.hid hd1; have hm1 := HM.out.only ho1 HNE.out; have HM1 := Lib.hid hm1; have c0 := Cs.cell hm1 (mV_e E T HN.out); rw [HE.out] at c0; clear ho1 hd1 hm1)
    | (go_at_call 26; refine (tag_any n (m + 1) o _ HL.out HX.out HN.out).mono ?_; rw [HT.out]; rintro x w2 ⟨rfl, hb2⟩; have HB2 := Lib.hid hb2; clear hb2))
  generalize hW : World.alloc w2 _ = W
  have HA := Lib.hid (show Mt B E T W by rw [← hW]; exact (HM1.out.below HB2.out HM1.out.lt).alloc _)
  have HDA := Lib.hid (show Dd D L W by rw [← hW]; exact Dc.api.below HD1.out (HB2.out.trans ((Below.refl _ _).alloc HB2.out.size _)))
  have HTW := Lib.hid (show Two B D w W by rw [← hW]; exact (Only.right HO1.out).trans (Two.of (HB2.out.trans ((Below.refl _ _).alloc HB2.out.size _))))
  have hK : Cs w2.heap.size [.int .i64 ((m + 1 : Nat) : Int), .int .u64 (t : Int)] W := by rw [← hW]; exact Cs.new _ _ _
  have k := hK.two
  have c0 := Cs.cell HA.out (mV_e E T HN.out)
  have c1 := Cs.cell HA.out (mV_t E T HN.out)
  have f0 := Cs.frozen HA.out (mV_e E T HN.out)
  have f1 := Cs.frozen HA.out (mV_t E T HN.out)
  have HNB := Lib.hid (show w2.heap.size ≠ B by have := HB2.out.size; have := HM1.out.lt; omega)
  have HK := Lib.hid hK
  clear hK hW
  go_still_tail 6, (by kernel_rfl)
  change wpList _ _ _ _ _ W.drew
  go_wp2
  have g3 := ((Cs.put (i := o * 2) HA.out (.int .i64 ((m + 1 : Nat) : Int))).put (i := o * 2 + 1) (.int .u64 (t : Int))).drew
  rw [mV_sete E T (m + 1) HN.out, mV_sett _ T t HN.out] at g3
  have hk3 := ((HK.out.other (i := o * 2) (.int .i64 ((m + 1 : Nat) : Int)) HNB.out).other (i := o * 2 + 1) (.int .u64 (t : Int)) HNB.out).drew.two
  have hb3 : Only B W (((W.setCell ⟨B, o * 2, none⟩ (.int .i64 ((m + 1 : Nat) : Int))).setCell ⟨B, o * 2 + 1, none⟩ (.int .u64 (t : Int))).drew) := ((Only.refl B W).setCell _).setCell _ |>.after (Below.refl _ _).drew
  rw [show ((m + 1 : Nat) : Int) = (m : Int) + 1 by omega] at g3 hk3 hb3
  generalize hW3 : (((W.setCell ⟨B, o * 2, none⟩ (.int .i64 ((m : Int) + 1))).setCell ⟨B, o * 2 + 1, none⟩ (.int .u64 (t : Int))).drew) = W3 at g3 hk3 hb3 ⊢
  have HD3 := Lib.hid (Dc.api.only HDA.out hb3 HNE.out.symm)
  have HT3 := Lib.hid (HTW.out.trans (Only.left hb3))
  have HG3 := Lib.hid g3
  clear g3 hb3 hW3 k c0 c1 f0 f1
  go_quiet (fail)
  go_wp2
  go_ret3
  have hb4 := below_drewN (Below.refl W3.heap.size W3) nq
  exact ⟨by simp, HT3.out.trans (Two.of hb4), HG3.out.below hb4 HG3.out.lt, Dc.api.below HD3.out hb4⟩
set_option maxRecDepth 100000 in
set_option maxHeartbeats 1000000 in
theorem issue_no (B D : Nat) (o : Nat) (E T : Nat → Nat) (w : World) (h : Mt B E T w) (hd : Dd D [] w) (hne : B ≠ D) (ho : o ≤ 8) :
    Calls Try.prog 14 #[.pointer (some ⟨B, 0, none⟩), .int .i64 (o : Int), .pointer (some ⟨D, 0, none⟩)] w
    fun e w' => e = .returned (.tuple #[.int .i64 0, .int .u64 0, .int .i64 17]) ∧ Two B D w w' ∧ Mt B E T w' ∧ Dd D [] w' := by
  have HM := Lib.hid h
  have HD := Lib.hid hd
  have HNE := Lib.hid hne
  have HN := Lib.hid ho
  clear h hd hne ho
  go_enter Try.func14, Try.ntmps14
  go_wp2_with (first
    | (go_at_call 24; refine (owner_yes o _ HN.out).mono ?_; rintro x w1 ⟨rfl, hw⟩; rw [hw]; clear hw w1)
    | (go_at_call 25; refine (take0_any D _ HD.out).mono ?_; rintro x w1 ⟨rfl, ho1, hd1⟩; have HO1 := Lib.hid ho1; have HD1 := Lib.hid hd1; have HM1 := Lib.hid (HM.out.only ho1 HNE.out); clear ho1 hd1))
  go_ret3
  exact ⟨rfl, Only.right HO1.out, HM1.out, HD1.out⟩
set_option maxRecDepth 100000 in
theorem issue_out (B D : Nat) (o : Int) (E T : Nat → Nat) (L : List Nat) (w : World) (h : Mt B E T w) (hd : Dd D L w) (hne : B ≠ D) (ho : I64 o) (hx : ¬ (0 ≤ o ∧ o ≤ 8)) :
    Calls Try.prog 14 #[.pointer (some ⟨B, 0, none⟩), .int .i64 o, .pointer (some ⟨D, 0, none⟩)] w
    fun e w' => e = .returned (.tuple #[.int .i64 0, .int .u64 0, .int .i64 1]) ∧ Two B D w w' ∧ Mt B E T w' ∧ Dd D L w' := by
  have HM := Lib.hid h
  have HD := Lib.hid hd
  have HX := Lib.hid hx
  clear h hd hx
  go_enter Try.func14, Try.ntmps14
  go_wp2_with (go_at_call 24; refine (owner_no o _ HX.out).mono ?_; rintro x w1 ⟨rfl, hw⟩; rw [hw]; clear hw w1)
  go_ret3
  exact ⟨rfl, Two.refl _ _ _, HM.out, HD.out⟩
set_option maxRecDepth 100000 in
theorem issue_none (D : Nat) (o : Int) (L : List Nat) (w : World) (hd : Dd D L w) (ho : I64 o) : Calls Try.prog 14 #[.pointer none, .int .i64 o, .pointer (some ⟨D, 0, none⟩)] w fun e w' => e = .returned (.tuple #[.int .i64 0, .int .u64 0, .int .i64 17]) ∧ Only D w w' ∧ Dd D L w' := by
  have HD := Lib.hid hd
  clear hd
  go_enter Try.func14, Try.ntmps14
  go_wp2
  go_ret3
  exact ⟨rfl, Only.refl _ _, HD.out⟩
theorem api : Api Dd Mt where
  lt := fun h => Cs.lt h
  kept := fun h hb hs => Cs.kept h hb hs
  new := new_any
  issue := fun B D o E T n L w h hd hne ho hn hE => issue_yes B D o E T n L w h hd hne ho hn hE
  issue0 := issue_no
  issueX := issue_out
  knows := knows_any
  issueN := issue_none
  knowsN := knows_none
end Go.Proofs.Ytldjefnijkefcaa.Mc
