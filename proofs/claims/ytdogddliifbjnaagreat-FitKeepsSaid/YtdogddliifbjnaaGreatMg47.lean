/- fit: schemas that are made, or not; two at once. -/
import Derived.Test.YtdogddliifbjnaaGreatMg44
import Derived.Test.YtdogddliifbjnaaGreatMg46
namespace Go.Proofs.YtdogddliifbjnaaGreat.Ck
open Go.RowKit Cm
open _root_.Go.Proofs.YtdogddliifbjnaaGreat.Nm
set_option linter.unusedVariables false
set_option linter.unusedSimpArgs false

/-- More blocks, all new, may be left out. -/
theorem De.more {F G : Nat → Bool} {B : Nat} {L : Sc} {w w' : World} (h : De F B L w) (hb : Below w.heap.size w w') (hF : ∀ k, F k = true → G k = true) (hG : ∀ k, G k = true → F k = true ∨ w.heap.size ≤ k) (hz : ∀ k, G k = true → k < w'.heap.size) : De G B L w' := by
  have hlt := h.lt
  obtain ⟨h1, h2, h3, o, c, T, X, U, V, hk, hc⟩ := h
  have hs : Sub (cut F w) (cut G w') := by
    refine ⟨by rw [cut_size, cut_size]; exact hb.size, fun k ob g1 g2 => ?_⟩
    have hk := (Array.getElem?_eq_some_iff.1 g1).1
    rw [cut_size] at hk
    rw [cut_block] at g1 ⊢
    by_cases e : F k = true
    · rw [if_pos e] at g1
      obtain ⟨_, _, e2⟩ := Option.map_eq_some_iff.1 g1
      exact absurd e2.symm g2
    · have e2 : ¬ G k = true := fun e2 => by
        rcases hG k e2 with e3 | e3
        · exact e e3
        · omega
      rw [if_neg e] at g1
      rw [if_neg e2, hb.block k hk]; exact g1
  refine ⟨hF B h1, hz, h3, o, c, T, X, U, V, ⟨hk.d.sub hs, hk.l, tb_sub hk.t hs⟩, ?_⟩
  rcases hc with hc | ⟨m, hc, hr⟩
  · exact .inl (Cs.below hc hb hlt)
  · exact .inr ⟨m, Cs.below hc hb hlt, hr.sub hs⟩
/-- A schema, if there is one, made of what came in. -/
def MkS (w : World) (p : Option Addr) (L : Sc) (w' : World) : Prop :=
  (p = none ∧ L.n = 0) ∨ ∃ B, p = some ⟨B, 0, none⟩ ∧ w.heap.size ≤ B ∧ B < w'.heap.size ∧ ∀ S : Nat → Bool, S B = true → (∀ k, S k = true → k < w.heap.size ∨ k = B) → De S B L w'
theorem MkS.below {w w' w2 : World} {p : Option Addr} {L : Sc} (h : MkS w p L w') (hb : Below w'.heap.size w' w2) : MkS w p L w2 := by
  rcases h with h | ⟨B, h1, h2, h3, h4⟩
  · exact .inl h
  · exact .inr ⟨B, h1, h2, Nat.lt_of_lt_of_le h3 hb.size, fun S a b => (h4 S a b).below hb⟩
theorem two_made {w w1 w2 w3 : World} {p q : Option Addr} {L M : Sc} (h : MkS w p L w1) (hw : w.heap.size ≤ w1.heap.size) (hb : Below w1.heap.size w1 w2) (k : MkS w2 q M w3) (hb2 : Below w2.heap.size w2 w3) :
    Pq (own p q) p L q M w3 ∧ ∀ j, own p q j = true → w.heap.size ≤ j := by
  have hs := hb.size
  have hs2 := hb2.size
  have hB3 : Below w1.heap.size w1 w3 := hb.trans (hb2.mono hs)
  have hold : ∀ j, own p q j = true → (j < w1.heap.size ∧ p = some ⟨j, 0, none⟩ ∧ w.heap.size ≤ j) ∨ (w2.heap.size ≤ j ∧ j < w3.heap.size ∧ q = some ⟨j, 0, none⟩) := fun j hj => by
    rcases own_iff.1 hj with e | e
    · rcases h with ⟨h1, _⟩ | ⟨B, h1, h2, h3, _⟩
      · rw [h1] at e; cases e
      · rw [h1] at e
        obtain rfl : B = j := by simpa using e
        exact .inl ⟨h3, h1, h2⟩
    · rcases k with ⟨h1, _⟩ | ⟨B, h1, h2, h3, _⟩
      · rw [h1] at e; cases e
      · rw [h1] at e
        obtain rfl : B = j := by simpa using e
        exact .inr ⟨h2, h3, h1⟩
  refine ⟨⟨?_, ?_, fun j h1 h2 => ?_, fun j hj => ?_⟩, fun j hj => ?_⟩
  · rcases h with h | ⟨B, h1, h2, h3, h4⟩
    · exact .inl h
    · refine .inr ⟨B, h1, (h4 (fun j => decide (j = B)) (by simp) (fun j hj => .inr (by simpa using hj))).more hB3 (fun j hj => ?_) (fun j hj => ?_) (fun j hj => ?_)⟩
      · obtain rfl : j = B := by simpa using hj
        exact own_iff.2 (.inl h1)
      · rcases hold j hj with ⟨_, e, _⟩ | ⟨e, _⟩
        · rw [h1] at e
          obtain rfl : B = j := by simpa using e
          exact .inl (by simp)
        · exact .inr (by omega)
      · rcases hold j hj with ⟨e, _⟩ | ⟨_, e, _⟩
        · omega
        · exact e
  · rcases k with k | ⟨B, h1, h2, h3, h4⟩
    · exact .inl k
    · refine .inr ⟨B, h1, h4 _ (own_iff.2 (.inr h1)) (fun j hj => ?_)⟩
      rcases hold j hj with ⟨e, _⟩ | ⟨_, _, e⟩
      · exact .inl (by omega)
      · rw [h1] at e
        obtain rfl : B = j := by simpa using e
        exact .inr rfl
  · rcases hold j (own_iff.2 (.inl h1)) with ⟨e, _⟩ | ⟨e1, _, e⟩
    · rcases k with ⟨g1, _⟩ | ⟨B, g1, g2, _, _⟩
      · rw [g1] at h2; cases h2
      · rw [g1] at h2
        have e9 : B = j := congrArg Addr.block (Option.some.inj h2)
        omega
    · rcases h with ⟨g1, _⟩ | ⟨B, g1, _, g2, _⟩
      · rw [g1] at h1; cases h1
      · rw [g1] at h1
        have e9 : B = j := congrArg Addr.block (Option.some.inj h1)
        omega
  · rcases hold j hj with ⟨e, _⟩ | ⟨_, e, _⟩
    · omega
    · exact e
  · rcases hold j hj with ⟨_, _, e⟩ | ⟨e, _⟩
    · exact e
    · omega
theorem pd_ok {F : Nat → Bool} {p : Option Addr} {L : Sc} {w : World} (h : PDe F p L w) : L.ok := by
  rcases h with ⟨_, h⟩ | ⟨B, _, h⟩
  · exact ⟨by omega, fun i hi => by omega, fun i hi => by omega⟩
  · exact h.2.2.1
/-- What Made hands out. -/
def MaP (o : Option Addr) (n c : Nat) (D : Dl) (w : World) (e : Ending) (w' : World) : Prop :=
  ∃ p L o' n' c', e = .returned (.tuple #[.pointer p, .slice o' n' c']) ∧ MkS w p L w' ∧ Below w.heap.size w w' ∧ n' = L.n ∧ ∀ i, i < n' → o' = o ∧ i < n ∧ L.S i = D.S i
set_option maxRecDepth 100000 in
set_option maxHeartbeats 2000000 in
theorem made_any (o : Option Addr) (n c : Nat) (D : Dl) (F : Nat → Fy) (M : Nat → Ml) (w : World) (h : Ax o n D F M w) (hg : grB D F n = false) :
    Calls Tryz.prog 7 #[.slice o n c] w fun e w' => MaP o n c D w e w' := by
  by_cases he : ckE D F M n = 0
  · have HO := Lib.hid (of_yes o n c D F M w h hg he)
    clear h hg he
    go_enter Tryz.func7, Tryz.ntmps7
    go_wp2_with (go_at_call 14; go_loud (refine HO.out.mono ?_; rintro e w2 ⟨B, rfl, h1, h2, h3, h4⟩; have HB := Lib.hid h4; have HX : Hid (MkS w (some ⟨B, 0, none⟩) (scL D F n) w2) := Lib.hid (.inr ⟨B, rfl, h1, h2, fun S a b => h3 S a (fun k hk => by rcases b k hk with e | e <;> omega) (fun k hk => by rcases b k hk with e | e <;> omega)⟩); have HZ := Lib.hid h4.size; clear h1 h2 h3 h4))
    refine bodyPost_ret (by simp [results, Tryz.results7, go_sem]; try rfl) rfl ?_
    exact ⟨_, _, _, _, _, rfl, HX.out.below ((Below.refl _ _).alloc (Nat.le_refl _) _), HB.out.alloc HZ.out _, rfl, fun i hi => ⟨rfl, hi, rfl⟩⟩
  · have HO := Lib.hid (of_no o n c D F M w h hg he)
    clear h hg he
    go_enter Tryz.func7, Tryz.ntmps7
    go_wp2_with (go_at_call 14; go_loud (refine HO.out.mono ?_; rintro e w2 ⟨x, p, rfl, hx, h4⟩; have hxb : (x != 0) = true := bne_iff_ne.2 hx; have HB := Lib.hid h4; have HZ := Lib.hid h4.size; clear hx h4))
    refine bodyPost_ret (by simp [results, Tryz.results7, go_sem]; try rfl) rfl ?_
    exact ⟨_, ⟨0, fun _ => 0, fun _ => ⟨#[]⟩, fun _ => []⟩, _, _, _, rfl, .inl ⟨rfl, rfl⟩, HB.out.alloc HZ.out _, rfl, fun i hi => by omega⟩
/-- What fits a schema, fits one that takes its place. -/
theorem st_takes {L M : Sc} {s : ByteArray} {v : Va.Va} (h : Takes L M) (hf : StP L s v) : StP M s v := by
  obtain ⟨h1, h2, h3, h4⟩ := hf
  obtain ⟨i, hi, hs, hk⟩ := kd_some (L := L) (s := s) (by omega)
  have := (h.all i hi).1
  rw [hs] at this
  exact ⟨by omega, h2, h3, fit_takes h 9 _ _ h4⟩
/-- A new block beside others. -/
theorem in_old {F : Nat → Bool} {w w' : World} (hF : ∀ k, F k = true → w.heap.size ≤ k) (hb : Below w.heap.size w w') : Sub w (cut F w') := by
  have h1 : Sub w (cut F w) := all_cut (fun k hk => by
    cases e : F k with
    | false => rfl
    | true => have := hF k e; omega)
  exact h1.trans (Sub.of_below (by rw [cut_size]; exact cut_below hb))
end Go.Proofs.YtdogddliifbjnaaGreat.Ck
/- fit: the chapter's example. -/
namespace Go.Proofs.YtdogddliifbjnaaGreat.Ck
open Go.RowKit Cm
open _root_.Go.Proofs.YtdogddliifbjnaaGreat.Nm
set_option linter.unusedVariables false
set_option linter.unusedSimpArgs false

set_option maxRecDepth 100000 in
set_option maxHeartbeats 1000000 in
theorem asks_no (x k n : Int) (s : ByteArray) (tb io : Option Addr) (tl tc il ic : Nat) (w : World) (hk : ¬ k = x) :
    Calls Tryz.prog 44 #[.int .i64 x, .agg #[.int .i64 k, .int .i64 n, .string s, .slice tb tl tc, .slice io il ic]] w fun e w' => e = .returned (.int .i64 4) ∧ Below w.heap.size w w' := by
  have HB := Lib.hid ((Below.refl w.heap.size w).alloc (Nat.le_refl _) (.cells #[.int .i64 k, .int .i64 n, .string s, .slice tb tl tc, .slice io il ic] 26))
  have hC := Cs.new w [.int .i64 k, .int .i64 n, .string s, .slice tb tl tc, .slice io il ic] 26
  have c0 := hC.cell (i := 0) rfl
  clear hC
  have hk2 : (k != x) = true := by simpa using hk
  clear hk
  go_enter Tryz.func44, Tryz.ntmps44
  go_wp2
  go_ret
  exact ⟨rfl, HB.out⟩
/-- No schema. -/
def L0 : Sc := ⟨0, fun _ => 0, fun _ => ⟨#[]⟩, fun _ => []⟩
def F0 : Nat → Bool := fun _ => false
theorem pq_none (w : World) : Pq F0 none L0 none L0 w := ⟨.inl ⟨rfl, rfl⟩, .inl ⟨rfl, rfl⟩, (fun k h => (by cases h)), (fun k h => (by cases h))⟩
def v1 : Va.Va := .mk 2 1 ⟨#[]⟩ none 0 [] none 0 []
theorem v1_in (w : World) : Va.VaIn w v1 := .mk 2 1 ⟨#[]⟩ none 0 [] none 0 [] (by omega) (by omega) (by show (0 : Nat) ≤ _; omega) (by simp) (by simp) (fun i t h => by simp at h) (fun i t h => by simp at h) (fun i t h => by simp at h)
theorem v1_dp : Va.dpV v1 = 1 := by unfold v1; rw [Va.dpV_eq]; unfold Va.dpsV; rfl
theorem v1_nc : Va.Nc v1 := by
  unfold v1
  refine .mk 2 1 ⟨#[]⟩ none 0 [] none 0 [] (by simp) (by simp) (by show (0 : Nat) ≤ _; omega) ?_ ?_ (fun i v h => by simp at h)
  · rw [Va.szV_eq]; unfold Va.szsV; show 8 + 0 + 0 ≤ 22008; omega
  · have := v1_dp; unfold v1 at this; omega
theorem v1_we : Va.weV Va.rightB v1 = true := by
  unfold v1
  rw [Va.weV_eq]
  unfold Va.wesV
  rw [Bool.and_true]
  unfold Va.oneB
  simp
theorem plain_in (k : Int) (w : World) (hk : 0 ≤ k ∧ k ≤ 100) : TyIn w (.mk k ⟨#[]⟩ none 0 []) := .mk k ⟨#[]⟩ none 0 [] (by omega) (by show (0 : Nat) ≤ _; omega) (by simp) (fun i t h => by simp at h) (fun i t h => by simp at h)
theorem plain_th (k : Int) : Th 21 (Ty.mk k ⟨#[]⟩ none 0 []).sp := by
  rw [sp_mk]
  exact ⟨by simp [Sp.of], fun i t h => by simp [Sp.of] at h⟩
theorem none_own (k : Nat) : own none none k = false := by
  cases e : own none none k with
  | false => rfl
  | true => rcases own_iff.1 e with h | h <;> cases h
theorem below_none {w w' : World} (h : Be (own none none) w w') : Below w.heap.size w w' := h.below (fun k _ => none_own k) (Nat.le_refl _)
theorem core_plain {k : Int} {Z : Ty} (hk : k ≠ 9) (h : CoreR (Ty.mk k ⟨#[]⟩ none 0 []).sp Z.sp) : Z.k = k := by
  have h2 : CoreR (Ty.mk k ⟨#[]⟩ none 0 []).sp (Ty.mk k ⟨#[]⟩ none 0 []).sp := .stop _ (by rw [sp_k]; exact fun h => hk h.1)
  have := core_fun h h2
  rw [← sp_k, this, sp_k]; rfl
set_option maxRecDepth 100000 in
theorem fits_int (w : World) : Calls Tryz.prog 13 #[.pointer none, .agg #[.int .i64 2, .string ⟨#[]⟩, .slice none 0 0], .agg #[.int .i64 2, .int .i64 1, .string ⟨#[]⟩, .slice none 0 0, .slice none 0 0]] w fun e w' => e = .returned (.int .i64 0) ∧ Below w.heap.size w w' := by
  refine (fits_any F0 none L0 none L0 (.mk 2 ⟨#[]⟩ none 0 []) v1 w (pq_none w) (plain_in 2 _ (by omega)) (plain_th 2) (v1_in _) v1_nc).mono ?_
  rintro e w' ⟨er, rfl, h1, h2, h3⟩
  have : er = 0 := h1.2 ⟨v1_we, by rw [v1_dp]; omega, (Ty.mk 2 ⟨#[]⟩ none 0 []).sp, .stop _ (by rw [sp_k]; exact fun h => by have := h.1; cases this), .inl ⟨by rw [sp_k]; exact (by decide : (1 : Int) ≤ 2), by rw [sp_k]; exact (by decide : (2 : Int) ≤ 5), by rw [sp_k]; rfl⟩⟩
  subst this
  exact ⟨rfl, below_none h3⟩
set_option maxRecDepth 100000 in
set_option maxHeartbeats 4000000 in
theorem fits_text (w : World) : Calls Tryz.prog 13 #[.pointer none, .agg #[.int .i64 4, .string ⟨#[]⟩, .slice none 0 0], .agg #[.int .i64 2, .int .i64 1, .string ⟨#[]⟩, .slice none 0 0, .slice none 0 0]] w fun e w' => e = .returned (.int .i64 4) ∧ Below w.heap.size w w' := by
  have hB1 := ((Below.refl w.heap.size w).alloc (Nat.le_refl _) (.cells #[.int .i64 4, .string ⟨#[]⟩, .slice none 0 0] 48)).alloc (by simp) (.cells #[.int .i64 2, .int .i64 1, .string ⟨#[]⟩, .slice none 0 0, .slice none 0 0] 26)
  have hC := (Cs.new w [.int .i64 4, .string ⟨#[]⟩, .slice none 0 0] 48).alloc (.cells #[.int .i64 2, .int .i64 1, .string ⟨#[]⟩, .slice none 0 0, .slice none 0 0] 26)
  have hD := Cs.new (w.alloc (.cells #[.int .i64 4, .string ⟨#[]⟩, .slice none 0 0] 48)) [.int .i64 2, .int .i64 1, .string ⟨#[]⟩, .slice none 0 0, .slice none 0 0] 26
  rw [show (w.alloc (.cells #[.int .i64 4, .string ⟨#[]⟩, .slice none 0 0] 48)).heap.size = w.heap.size + 1 by simp] at hD
  have d0 := hD.cell (i := 0) rfl
  have d1 := hD.cell (i := 1) rfl
  have d2 := hD.cell (i := 2) rfl
  have d3 := hD.cell (i := 3) rfl
  have d4 := hD.cell (i := 4) rfl
  have HB1 := Lib.hid hB1
  have HC := Lib.hid hC
  have HD := Lib.hid hD
  have hnot : ∀ (x : Bool) (w : World), (Op.unary .not (.bool x)).run Tryz.prog w = .ok (.bool (!x)) w := fun _ _ => rfl
  have hmm := @run_makeMap Tryz.prog
  clear hB1 hC hD
  go_enter Tryz.func13, Tryz.ntmps13
  go_upto_region 5 with (first
    | (go_at_call 23; go_loud (refine (Va.deep_any v1 _ (v1_in _) v1_nc).mono ?_; rw [v1_dp]; rintro e w3 ⟨rfl, hb3⟩; have HB3 := Lib.hid (HB2.out.trans (hb3.mono HB2.out.size)); have HC3 := Lib.hid (HC2.out.below hb3 HC2.out.lt); have HD3 := Lib.hid (HD2.out.below hb3 HD2.out.lt); clear hb3))
    | (go_at_call 22; go_loud (refine (Va.well_any v1 _ (v1_in _) v1_nc).mono ?_; rw [v1_we]; rintro e w2 ⟨rfl, hb2⟩; have HB2 := Lib.hid (HB1.out.trans (hb2.mono HB1.out.size)); have HC2 := Lib.hid (HC.out.below hb2 HC.out.lt); have hD2 := HD.out.below hb2 HD.out.lt; have e0 := hD2.cell (i := 0) rfl; have e1 := hD2.cell (i := 1) rfl; have e2 := hD2.cell (i := 2) rfl; have e3 := hD2.cell (i := 3) rfl; have e4 := hD2.cell (i := 4) rfl; have HD2 := Lib.hid hD2; clear hb2 hD2)))
  have HA4 := Lib.hid (Ak.made (pq_none w3))
  have HB4 := Lib.hid (HB3.out.alloc HB3.out.size (.map #[] 0))
  have hC4 := HC3.out.alloc (.map #[] 0)
  have HD4 := Lib.hid (HD3.out.alloc (.map #[] 0))
  have g0 := hC4.cell (i := 0) rfl
  have g1 := hC4.cell (i := 1) rfl
  have g2 := hC4.cell (i := 2) rfl
  have hcf := @cf_asks
  clear hC4
  go_wp2_with (first
    | (go_at_call 44; go_loud (refine (asks_no 4 2 1 ⟨#[]⟩ none none 0 0 0 0 _ (by omega)).mono ?_; rintro e w6 ⟨rfl, hb6⟩; have HB6 := Lib.hid (HB5.out.trans (hb6.mono HB5.out.size)); clear hb6))
    | (go_at_call 24; go_loud (refine (of_any (add F0 w3.heap.size) none L0 none L0 w3.heap.size (.mk 4 ⟨#[]⟩ none 0 []) 21 _ HA4.out (plain_in 4 _ (by omega)) (plain_th 4) (by omega)).mono ?_; rintro e w5 ⟨xq, Z, rfl, hcr, hzt, hth, hof, ha5, hb5⟩; have hzk := core_plain (by omega) hcr; obtain rfl : xq = .func (.func 44) #[.int .i64 4] #[] := (by rcases hof with ⟨_, e⟩ | ⟨e, _⟩ | ⟨e, _⟩ | ⟨e, _⟩ | ⟨e, _⟩ <;> first | (rw [e, hzk]) | (rw [hzk] at e; omega)); have HB5 := Lib.hid (HB4.out.trans (hb5.mono HB4.out.size)); have hD5 := HD4.out.below hb5 HD4.out.lt; have h0 := hD5.cell (i := 0) rfl; have h1 := hD5.cell (i := 1) rfl; have h2 := hD5.cell (i := 2) rfl; have h3 := hD5.cell (i := 3) rfl; have h4 := hD5.cell (i := 4) rfl; clear hcr hzt hth hof hzk ha5 hb5 hD5)))
  go_ret
  exact ⟨rfl, HB6.out⟩
set_option maxRecDepth 100000 in
set_option maxHeartbeats 2000000 in
theorem fawake_any (w : World) : Calls Tryz.prog 6 #[] w fun e w' => e = .returned (.bool true) ∧ Below w.heap.size w w' := by
  have hB1 := (Below.refl w.heap.size w).alloc (Nat.le_refl _) (.cells #[.int .i64 2, .int .i64 1, .string ⟨#[]⟩, .slice none 0 0, .slice none 0 0] 26)
  have hC := Cs.new w [.int .i64 2, .int .i64 1, .string ⟨#[]⟩, .slice none 0 0, .slice none 0 0] 26
  have c0 := hC.cell (i := 0) rfl
  have c1 := hC.cell (i := 1) rfl
  have c2 := hC.cell (i := 2) rfl
  have c3 := hC.cell (i := 3) rfl
  have c4 := hC.cell (i := 4) rfl
  have HB1 := Lib.hid hB1
  have HC := Lib.hid hC
  clear hB1 hC
  go_enter Tryz.func6, Tryz.ntmps6
  go_wp2_with (first
    | (go_at_call 13; with_reducible refine (fits_text _).mono ?_; rintro e w3 ⟨rfl, hb3⟩; have HB3 := Lib.hid (HB2.out.trans (hb3.mono HB2.out.size)); clear hb3)
    | (go_at_call 13; with_reducible refine (fits_int _).mono ?_; rintro e w2 ⟨rfl, hb2⟩; have HB2 := Lib.hid (HB1.out.trans (hb2.mono HB1.out.size)); have hC2 := HC.out.below hb2 HC.out.lt; have d0 := hC2.cell (i := 0) rfl; have d1 := hC2.cell (i := 1) rfl; have d2 := hC2.cell (i := 2) rfl; have d3 := hC2.cell (i := 3) rfl; have d4 := hC2.cell (i := 4) rfl; clear hb2 hC2))
  go_ret
  exact ⟨rfl, HB3.out⟩
end Go.Proofs.YtdogddliifbjnaaGreat.Ck
