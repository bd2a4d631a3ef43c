/- check's heads: two sets, of tags and of names. -/
import Derived.Test.YthcpepifikpmeaaCkWType
import Derived.Maps.OwnSet
import Derived.Maps.Keyed
import Derived.RegionTactic
namespace Go.Proofs.Ythcpepifikpmeaa.Ck
open Go.RowKit Cm _root_.Go.Proofs.Ythcpepifikpmeaa.Nm
set_option linter.unusedVariables false
set_option linter.unusedSimpArgs false

/-- Block B is a set; H tells what is in it, q how its keys read. -/
def Se {α : Type} (kt : TypeId) (q : α → Lit) (B c : Nat) (H : α → Bool) (w : World) : Prop := ∃ D : DataW Unit, w.ownsMap Try.prog kt unitElem B c D ∧ ∀ a, Maps.has D (q a) = H a
def adH {α : Type} [DecidableEq α] (H : α → Bool) (k : α) : α → Bool := fun a => H a || decide (a = k)
section
variable {α : Type} [DecidableEq α] {q : α → Lit} {kt t : TypeId} {B c : Nat} {H : α → Bool} {w w' : World}
omit [DecidableEq α] in
theorem Se.lt (h : Se kt q B c H w) : B < w.heap.size := by
  obtain ⟨D, h, _⟩ := h
  exact h.lt
omit [DecidableEq α] in
theorem Se.below {m : Nat} (h : Se kt q B c H w) (hb : Below m w w') (hm : B < m) : Se kt q B c H w' := by
  obtain ⟨D, ⟨es, clock, h1, h2⟩, r⟩ := h
  exact ⟨D, ⟨es, clock, (hb.block B hm).trans h1, h2⟩, r⟩
omit [DecidableEq α] in
theorem Se.step (h : Se kt q B c H w) (hb : Below w.heap.size w w') : Se kt q B c H w' := h.below hb h.lt
omit [DecidableEq α] in
theorem Se.grown {row : Option Nat} (h : Se kt q B c H w) (hg : w.grownBy w' row) (hr : some B ≠ row) : Se kt q B c H w' := by
  have hlt := h.lt
  obtain ⟨D, ⟨es, clock, h1, h2⟩, r⟩ := h
  exact ⟨D, ⟨es, clock, (hg.block B hlt hr).trans h1, h2⟩, r⟩
omit [DecidableEq α] in
theorem Se.made (w : World) (kt : TypeId) (q : α → Lit) : Se kt q w.heap.size 0 (fun _ => false) (w.alloc (.map #[] 0)) := ⟨_, World.ownsMap_made w _ _ _, fun l => rfl⟩
theorem zeroU (w : World) : (zeroValue 80).run Try.prog w = .ok (.agg #[]) w := by kernel_rfl
omit [DecidableEq α] in
theorem Se.look (h : Se kt q B c H w) (law : Maps.Keyed Try.prog kt) (ht : Try.prog.underlying t = some (.map kt 80)) {key : Value} {a : α} (hk : keyOf Try.prog kt key = some (q a)) :
    (Instr.lookup t (.map (some B)) key true).run Try.prog w = .ok (.tuple #[.agg #[], .bool (H a)]) w := by
  obtain ⟨D, h1, h2⟩ := h
  obtain ⟨v, ps, hrun, hv⟩ := h1.look_ok law ht (zeroU w) unitElem_mk hk
  obtain ⟨rfl, _⟩ := unitElem_inv hv
  rw [hrun, h2]
theorem Se.store (h : Se kt q B c H w) (law : Maps.Keyed Try.prog kt) (ht : Try.prog.underlying t = some (.map kt 80)) (hq : ∀ a b, q a = q b → a = b) {key : Value} {a : α} (hk : keyOf Try.prog kt key = some (q a)) (hkl : WideAt.IsKeyLit (q a)) (hc : c < maxLen) :
    ∃ w', (Instr.mapUpdate t (.map (some B)) key (.agg #[])).run Try.prog w = .ok () w' ∧ Se kt q B (c + 1) (adH H a) w' ∧ w.grownBy w' (some B) := by
  obtain ⟨D, h1, h2⟩ := h
  obtain ⟨w', hrun, hown, hg⟩ := h1.update law ht hc hk unitElem_mk
  refine ⟨w', hrun, ⟨_, hown, fun l => ?_⟩, hg⟩
  unfold adH
  by_cases e : l = a
  · subst e
    rw [Maps.has_put_same h1.isMap hkl]; simp
  · rw [Maps.has_put_other (fun e2 => e (hq _ _ e2)), h2]; simp [e]
end
/-- Of the blocks that were there A and B alone may have turned. -/
structure Tw (A B : Nat) (w w' : World) : Prop where
  os : w'.os = w.os
  tape : w'.tape = w.tape
  output : w'.output = w.output
  size : w.heap.size ≤ w'.heap.size
  block : ∀ k, k < w.heap.size → k ≠ A → k ≠ B → w'.heap[k]? = w.heap[k]?
theorem Tw.of {A B : Nat} {w w' : World} (h : Below w.heap.size w w') : Tw A B w w' := ⟨h.os, h.tape, h.output, h.size, fun k hk _ _ => h.block k hk⟩
theorem Tw.grown {A B C : Nat} {a w w' : World} (h : Tw A B a w) (hg : w.grownBy w' (some C)) (hC : C = A ∨ C = B) : Tw A B a w' :=
  ⟨hg.os.trans h.os, hg.tape.trans h.tape, hg.output.trans h.output, Nat.le_trans h.size hg.size, fun k hk h1 h2 => (hg.block k (Nat.lt_of_lt_of_le hk h.size) (fun e => by injection e with e; rcases hC with c | c <;> omega)).trans (h.block k hk h1 h2)⟩
theorem Tw.below {A B m : Nat} {w w' : World} (h : Tw A B w w') (hA : m ≤ A) (hB : m ≤ B) (hm : m ≤ w.heap.size) : Below m w w' :=
  ⟨h.os, h.tape, h.output, h.size, fun k hk => h.block k (by omega) (by omega) (by omega)⟩
theorem cs_tw {A B b : Nat} {vs : List Value} {w w' : World} (h : Cs b vs w) (ht : Tw A B w w') (hA : b ≠ A) (hB : b ≠ B) : Cs b vs w' := h.kept (ht.block b h.2 hA hB) ht.size
theorem lawI : Maps.Keyed Try.prog 3 := Maps.int_keyed Try.underlying3
def klI (x : Int) : Lit := .int .i64 x
theorem key_int {x : Int} (h1 : -9223372036854775808 ≤ x) (h2 : x ≤ 9223372036854775807) : keyOf Try.prog 3 (.int .i64 x) = some (klI x) := Maps.keyOf_int_mk Try.underlying3 (WalkArith.wf_i64 (by omega))

/-- What the two sets of a declaration's rows are. -/
structure Sh (Bt Bn c : Nat) (HT : Int → Bool) (HN : ByteArray → Bool) (w : World) : Prop where
  t : Se 3 klI Bt c HT w
  n : Se 9 klS Bn c HN w
  ne : Bt ≠ Bn
theorem Sh.step {Bt Bn c : Nat} {HT : Int → Bool} {HN : ByteArray → Bool} {w w' : World} (h : Sh Bt Bn c HT HN w) (hb : Below w.heap.size w w') : Sh Bt Bn c HT HN w' := ⟨h.t.step hb, h.n.step hb, h.ne⟩
def loZ (K : Int) : Int := if K = 3 then 0 else 1
def hiZ (K : Int) : Int := if K = 3 then 9999 else 255
theorem tg_iff (K t : Int) : tgB K t = decide (loZ K ≤ t ∧ t ≤ hiZ K) := by
  unfold tgB loZ hiZ
  by_cases h : K = 3
  · rw [if_pos h, if_pos h, if_pos h]
  · rw [if_neg h, if_neg h, if_neg h]

theorem sh_new (w : World) (vs : List Value) (T : TypeId) (o : Obj) (W : World) (hW : W = (((w.alloc (.cells vs.toArray T)).alloc (.map #[] 0)).alloc (.map #[] 0)).alloc o) :
    Sh (w.heap.size + 1) (w.heap.size + 1 + 1) 0 (fun _ => false) (fun _ => false) W ∧ Cs w.heap.size vs W ∧ Below w.heap.size w W := by
  subst hW
  have e1 : (w.alloc (.cells vs.toArray T)).heap.size = w.heap.size + 1 := by simp
  have e2 : ((w.alloc (.cells vs.toArray T)).alloc (.map #[] 0)).heap.size = w.heap.size + 1 + 1 := by simp
  have s1 := Se.made (w.alloc (.cells vs.toArray T)) 3 klI
  rw [e1] at s1
  have s2 := Se.made ((w.alloc (.cells vs.toArray T)).alloc (.map #[] 0)) 9 klS
  rw [e2] at s2
  have st : ∀ (W : World) (o : Obj), Below W.heap.size W (W.alloc o) := fun W o => (Below.refl _ _).alloc (Nat.le_refl _) o
  exact ⟨⟨((s1.step (st _ _)).step (st _ _)), s2.step (st _ _), by omega⟩, (((Cs.new w vs T).alloc _).alloc _).alloc _, ((((Below.refl w.heap.size w).alloc (Nat.le_refl _) _).alloc (by simp) _).alloc (by simp; omega) _).alloc (by simp; omega) _⟩
set_option maxRecDepth 100000 in
set_option maxHeartbeats 2000000 in
theorem headsof_any (K : Int) (w : World) :
    Calls Try.prog 27 #[.int .i64 K] w fun e w' => ∃ Bt Bn, e = .returned (.agg #[.int .i64 (loZ K), .int .i64 (hiZ K), .map (some Bt), .map (some Bn)]) ∧ w.heap.size ≤ Bt ∧ w.heap.size ≤ Bn ∧ Sh Bt Bn 0 (fun _ => false) (fun _ => false) w' ∧ Below w.heap.size w w' := by
  have hmm := @run_makeMap Try.prog
  by_cases hk : K = 3
  · subst hk
    go_enter Try.func27, Try.ntmps27
    go_wp2
    obtain ⟨h1, h2, h3⟩ := sh_new w [.int .i64 0, .int .i64 9999, .map (some (w.heap.size + 1)), .map (some (w.heap.size + 1 + 1))] 71 (.cells #[.int .i64 0, .int .i64 9999, .map (some (w.heap.size + 1)), .map (some (w.heap.size + 1 + 1))] 71) _ rfl
    generalize (((w.alloc (.cells ([Value.int .i64 0, .int .i64 9999, .map (some (w.heap.size + 1)), .map (some (w.heap.size + 1 + 1))].toArray) 71)).alloc (.map #[] 0)).alloc (.map #[] 0)).alloc (.cells #[.int .i64 0, .int .i64 9999, .map (some (w.heap.size + 1)), .map (some (w.heap.size + 1 + 1))] 71) = W at h1 h2 h3 ⊢
    have d0 := h2.cell (i := 0) rfl
    have d1 := h2.cell (i := 1) rfl
    have d2 := h2.cell (i := 2) rfl
    have d3 := h2.cell (i := 3) rfl
    refine bodyPost_ret (by simp [results, Try.results27, go_sem, d0, d1, d2, d3]; try rfl) rfl ?_
    exact ⟨w.heap.size + 1, w.heap.size + 1 + 1, rfl, by omega, by omega, h1, h3⟩
  · have hq : (K == 3) = false := beq_eq_false_iff_ne.2 hk
    have hlo : loZ K = 1 := by unfold loZ; rw [if_neg hk]
    have hhi : hiZ K = 255 := by unfold hiZ; rw [if_neg hk]
    rw [hlo, hhi]
    clear hlo hhi hk
    go_enter Try.func27, Try.ntmps27
    go_wp2
    obtain ⟨h1, h2, h3⟩ := sh_new w [.int .i64 1, .int .i64 255, .map (some (w.heap.size + 1)), .map (some (w.heap.size + 1 + 1))] 71 (.cells #[.int .i64 1, .int .i64 255, .map (some (w.heap.size + 1)), .map (some (w.heap.size + 1 + 1))] 71) _ rfl
    generalize (((w.alloc (.cells ([Value.int .i64 1, .int .i64 255, .map (some (w.heap.size + 1)), .map (some (w.heap.size + 1 + 1))].toArray) 71)).alloc (.map #[] 0)).alloc (.map #[] 0)).alloc (.cells #[.int .i64 1, .int .i64 255, .map (some (w.heap.size + 1)), .map (some (w.heap.size + 1 + 1))] 71) = W at h1 h2 h3 ⊢
    have d0 := h2.cell (i := 0) rfl
    have d1 := h2.cell (i := 1) rfl
    have d2 := h2.cell (i := 2) rfl
    have d3 := h2.cell (i := 3) rfl
    refine bodyPost_ret (by simp [results, Try.results27, go_sem, d0, d1, d2, d3]; try rfl) rfl ?_
    exact ⟨w.heap.size + 1, w.heap.size + 1 + 1, rfl, by omega, by omega, h1, h3⟩

/-- What wrong tells. -/
def hwE (lo hi : Int) (HT : Int → Bool) (HN : ByteArray → Bool) (t : Int) (s : ByteArray) : Nat := if decide (lo ≤ t ∧ t ≤ hi) = false then 9 else if (HT t || HN s) = true then 7 else 0
set_option maxRecDepth 100000 in
set_option maxHeartbeats 2000000 in
theorem hwrong_any (lo hi : Int) (Bt Bn c : Nat) (HT : Int → Bool) (HN : ByteArray → Bool) (t : Int) (s : ByteArray) (w : World) (h : Sh Bt Bn c HT HN w) (hc : c ≤ 1000000) (hlo : 0 ≤ lo) (hhi : hi ≤ 10000) (hs : s.size ≤ 140737488355327) :
    Calls Try.prog 28 #[.agg #[.int .i64 lo, .int .i64 hi, .map (some Bt), .map (some Bn)], .int .i64 t, .string s] w fun e w' =>
      e = .returned (.int .i64 (hwE lo hi HT HN t s : Nat)) ∧ Tw Bt Bn w w' ∧ (hwE lo hi HT HN t s = 0 → Sh Bt Bn (c + 1) (adH HT t) (adH HN s) w') := by
  have hbt := h.t.lt
  have hbn := h.n.lt
  have hks : keyOf Try.prog 9 (.string s) = some (klS s) := key_of (by unfold maxLen; omega)
  have hB1 := (Below.refl w.heap.size w).alloc (Nat.le_refl _) (.cells #[.int .i64 lo, .int .i64 hi, .map (some Bt), .map (some Bn)] 71)
  by_cases hr : lo ≤ t ∧ t ≤ hi
  · have he : hwE lo hi HT HN t s = if (HT t || HN s) = true then 7 else 0 := by unfold hwE; rw [decide_eq_true hr, if_neg (by decide)]
    have hkt := key_int (x := t) (by omega) (by omega)
    have g1 : ¬ t < lo := by omega
    have g2 : ¬ hi < t := by omega
    have h1 := h.step hB1
    have hl1 := h1.t.look lawI (t := 68) Try.underlying68 hkt
    have hB2 := (Below.refl (w.alloc (.cells #[.int .i64 lo, .int .i64 hi, .map (some Bt), .map (some Bn)] 71)).heap.size (w.alloc (.cells #[.int .i64 lo, .int .i64 hi, .map (some Bt), .map (some Bn)] 71))).alloc (Nat.le_refl _) (.cells #[] 80)
    have h2 := h1.step hB2
    have hl2 := h2.n.look law (t := 69) Try.underlying69 hks
    rw [he]
    clear hr
    have hB3 : Below w.heap.size w (((w.alloc (.cells #[.int .i64 lo, .int .i64 hi, .map (some Bt), .map (some Bn)] 71)).alloc (.cells #[] 80)).alloc (.cells #[] 80)) := (hB1.alloc (by simp) _).alloc (by simp; omega) _
    have HB3 := Lib.hid (Tw.of (A := Bt) (B := Bn) hB3)
    have h3 := h2.step ((Below.refl _ _).alloc (Nat.le_refl _) (.cells #[] 80))
    have H3 := Lib.hid h3
    have HC := Lib.hid (((Cs.new w [.int .i64 lo, .int .i64 hi, .map (some Bt), .map (some Bn)] 71).alloc (.cells #[] 80)).alloc (.cells #[] 80)).drew
    have HE := Lib.hid he
    clear he h h1 h2 h3 hB1 hB2 hB3
    cases hT : HT t with
    | true =>
      rw [hT] at hl1
      go_enter Try.func28, Try.ntmps28
      go_wp2
      go_ret
      first
        | exact ⟨rfl, HB3.out⟩
        | exact ⟨rfl, HB3.out, fun h => (by cases h)⟩
    | false =>
      rw [hT] at hl1
      cases hN : HN s with
      | true =>
        rw [hN] at hl2
        go_enter Try.func28, Try.ntmps28
        go_wp2
        go_ret
        first
          | exact ⟨rfl, HB3.out⟩
          | exact ⟨rfl, HB3.out, fun h => (by cases h)⟩
      | false =>
        rw [hN] at hl2
        have hcm : c < maxLen := by unfold maxLen; omega
        have d2 := HC.out.cell (i := 2) rfl
        have d3 := HC.out.cell (i := 3) rfl
        have hx : Sh Bt Bn c HT HN (((w.alloc (.cells #[.int .i64 lo, .int .i64 hi, .map (some Bt), .map (some Bn)] 71)).alloc (.cells #[] 80)).alloc (.cells #[] 80)).drew := H3.out.step (Below.refl _ _).drew
        have hsB : ∀ (B : Nat), B < w.heap.size → some w.heap.size ≠ some B := fun B h e => by injection e; omega
        obtain ⟨w4, u4, s4, g4⟩ := hx.t.store lawI (t := 68) Try.underlying68 (fun a b e => by unfold klI at e; injection e) hkt (by unfold klI; simp [WideAt.IsKeyLit]) hcm
        have n4 := hx.n.grown g4 (fun e => hx.ne (by injection e with e; exact e.symm))
        obtain ⟨w5, u5, s5, g5⟩ := n4.store law (t := 69) Try.underlying69 (fun a b e => klS_inj e) hks (by unfold klS; simp [WideAt.IsKeyLit]) hcm
        have t5 := s4.grown g5 (fun e => hx.ne (by injection e))
        obtain ⟨w6, u6, s6, g6⟩ := hx.n.store law (t := 69) Try.underlying69 (fun a b e => klS_inj e) hks (by unfold klS; simp [WideAt.IsKeyLit]) hcm
        have t6 := hx.t.grown g6 (fun e => hx.ne (by injection e))
        obtain ⟨w7, u7, s7, g7⟩ := t6.store lawI (t := 68) Try.underlying68 (fun a b e => by unfold klI at e; injection e) hkt (by unfold klI; simp [WideAt.IsKeyLit]) hcm
        have n7 := s6.grown g7 (fun e => hx.ne (by injection e with e; exact e.symm))
        have c4 := HC.out.grown g4 (hsB _ hbt)
        have e42 := c4.cell (i := 2) rfl
        have e43 := c4.cell (i := 3) rfl
        have c6 := HC.out.grown g6 (hsB _ hbn)
        have e62 := c6.cell (i := 2) rfl
        have e63 := c6.cell (i := 3) rfl
        have b3 : Tw Bt Bn w (((w.alloc (.cells #[.int .i64 lo, .int .i64 hi, .map (some Bt), .map (some Bn)] 71)).alloc (.cells #[] 80)).alloc (.cells #[] 80)).drew := ⟨HB3.out.os, HB3.out.tape, HB3.out.output, HB3.out.size, HB3.out.block⟩
        have b5 := (b3.grown g4 (.inl rfl)).grown g5 (.inr rfl)
        have b7 := (b3.grown g6 (.inr rfl)).grown g7 (.inl rfl)
        have HX5 := Lib.hid (And.intro b5 (show Sh Bt Bn (c + 1) (adH HT t) (adH HN s) w5 from ⟨t5, s5, hx.ne⟩))
        have HX7 := Lib.hid (And.intro b7 (show Sh Bt Bn (c + 1) (adH HT t) (adH HN s) w7 from ⟨s7, n7, hx.ne⟩))
        clear hx s4 g4 n4 s5 g5 t5 s6 g6 t6 s7 g7 n7 c4 c6 b3 b5 b7
        go_enter Try.func28, Try.ntmps28
        go_wp2
        go_region
        all_goals
          go_wp2
          go_ret
          first
            | exact ⟨rfl, HX5.out.1, fun _ => HX5.out.2⟩
            | exact ⟨rfl, HX5.out.1, HX5.out.2⟩
            | exact ⟨rfl, HX7.out.1, fun _ => HX7.out.2⟩
            | exact ⟨rfl, HX7.out.1, HX7.out.2⟩
  · have he : hwE lo hi HT HN t s = 9 := by unfold hwE; rw [decide_eq_false hr, if_pos rfl]
    rw [he]
    have HB1 := Lib.hid (Tw.of (A := Bt) (B := Bn) hB1)
    clear he hB1
    by_cases g1 : t < lo
    · clear hr
      go_enter Try.func28, Try.ntmps28
      go_wp2
      go_ret
      first
        | exact ⟨rfl, HB1.out⟩
        | exact ⟨rfl, HB1.out, fun h => (by cases h)⟩
    · have g2 : hi < t := by omega
      clear hr
      go_enter Try.func28, Try.ntmps28
      go_wp2
      go_ret
      first
        | exact ⟨rfl, HB1.out⟩
        | exact ⟨rfl, HB1.out, fun h => (by cases h)⟩
end Go.Proofs.Ythcpepifikpmeaa.Ck
