/- check's heads: two sets, of tags and of names. -/
import Derived.Maps.OwnSet
import Derived.Maps.Keyed
import Derived.RegionTactic
import Derived.Test.YtdogddliifbjnaaGreatMg17
namespace Go.Proofs.YtdogddliifbjnaaGreat.Ck
open Go.RowKit Cm _root_.Go.Proofs.YtdogddliifbjnaaGreat.Nm
set_option linter.unusedVariables false
set_option linter.unusedSimpArgs false

/-- Block B is a set; H tells what is in it, q how its keys read. -/
def Se {α : Type} (kt : TypeId) (q : α → Lit) (B c : Nat) (H : α → Bool) (w : World) : Prop := ∃ D : DataW Unit, w.ownsMap Tryz.prog kt unitElem B c D ∧ ∀ a, Maps.has D (q a) = H a
def adH {α : Type} [DecidableEq α] (H : α → Bool) (k : α) : α → Bool := fun a => H a || decide (a = k)
section
variable {α : Type} [DecidableEq α] {q : α → Lit} {kt t : TypeId} {B c : Nat} {H : α → Bool} {w w' : World}
omit [DecidableEq α] in
theorem Se.lt (h : Se kt q B c H w) : B < w.heap.size := by
  obtain ⟨D, h, _⟩ := h
  exact h.lt
omit [DecidableEq α] in
theorem Se.below {m : Nat} (h : Se kt q B c H w) (hb : Below m w w') (hm : B < m) : Se kt q B c H w' := by
  obtain ⟨D, ⟨es, clock, h1, h2⟩, r⟩ := h
  exact ⟨D, ⟨es, clock, (hb.block B hm).trans h1, h2⟩, r⟩
omit [DecidableEq α] in
theorem Se.step (h : Se kt q B c H w) (hb : Below w.heap.size w w') : Se kt q B c H w' := h.below hb h.lt
omit [DecidableEq α] in
theorem Se.grown {row : Option Nat} (h : Se kt q B c H w) (hg : w.grownBy w' row) (hr : some B ≠ row) : Se kt q B c H w' := by
  have hlt := h.lt
  obtain ⟨D, ⟨es, clock, h1, h2⟩, r⟩ := h
  exact ⟨D, ⟨es, clock, (hg.block B hlt hr).trans h1, h2⟩, r⟩
omit [DecidableEq α] in
theorem Se.made (w : World) (kt : TypeId) (q : α → Lit) : Se kt q w.heap.size 0 (fun _ => false) (w.alloc (.map #[] 0)) := ⟨_, World.ownsMap_made w _ _ _, fun l => rfl⟩
theorem zeroU (w : World) : (zeroValue 83).run Tryz.prog w = .ok (.agg #[]) w := by kernel_rfl
omit [DecidableEq α] in
theorem Se.look (h : Se kt q B c H w) (law : Maps.Keyed Tryz.prog kt) (ht : Tryz.prog.underlying t = some (.map kt 83)) {key : Value} {a : α} (hk : keyOf Tryz.prog kt key = some (q a)) :
    (Instr.lookup t (.map (some B)) key true).run Tryz.prog w = .ok (.tuple #[.agg #[], .bool (H a)]) w := by
  obtain ⟨D, h1, h2⟩ := h
  obtain ⟨v, ps, hrun, hv⟩ := h1.look_ok law ht (zeroU w) unitElem_mk hk
  obtain ⟨rfl, _⟩ := unitElem_inv hv
  rw [hrun, h2]
theorem Se.store (h : Se kt q B c H w) (law : Maps.Keyed Tryz.prog kt) (ht : Tryz.prog.underlying t = some (.map kt 83)) (hq : ∀ a b, q a = q b → a = b) {key : Value} {a : α} (hk : keyOf Tryz.prog kt key = some (q a)) (hkl : WideAt.IsKeyLit (q a)) (hc : c < maxLen) :
    ∃ w', (Instr.mapUpdate t (.map (some B)) key (.agg #[])).run Tryz.prog w = .ok () w' ∧ Se kt q B (c + 1) (adH H a) w' ∧ w.grownBy w' (some B) := by
  obtain ⟨D, h1, h2⟩ := h
  obtain ⟨w', hrun, hown, hg⟩ := h1.update law ht hc hk unitElem_mk
  refine ⟨w', hrun, ⟨_, hown, fun l => ?_⟩, hg⟩
  unfold adH
  by_cases e : l = a
  · subst e
    rw [Maps.has_put_same h1.isMap hkl]; simp
  · rw [Maps.has_put_other (fun e2 => e (hq _ _ e2)), h2]; simp [e]
end
/-- Of the blocks that were there A and B alone may have turned. -/
structure Tw (A B : Nat) (w w' : World) : Prop where
  os : w'.os = w.os
  tape : w'.tape = w.tape
  output : w'.output = w.output
  size : w.heap.size ≤ w'.heap.size
  block : ∀ k, k < w.heap.size → k ≠ A → k ≠ B → w'.heap[k]? = w.heap[k]?
theorem Tw.of {A B : Nat} {w w' : World} (h : Below w.heap.size w w') : Tw A B w w' := ⟨h.os, h.tape, h.output, h.size, fun k hk _ _ => h.block k hk⟩
theorem Tw.grown {A B C : Nat} {a w w' : World} (h : Tw A B a w) (hg : w.grownBy w' (some C)) (hC : C = A ∨ C = B) : Tw A B a w' :=
  ⟨hg.os.trans h.os, hg.tape.trans h.tape, hg.output.trans h.output, Nat.le_trans h.size hg.size, fun k hk h1 h2 => (hg.block k (Nat.lt_of_lt_of_le hk h.size) (fun e => by injection e with e; rcases hC with c | c <;> omega)).trans (h.block k hk h1 h2)⟩
theorem Tw.below {A B m : Nat} {w w' : World} (h : Tw A B w w') (hA : m ≤ A) (hB : m ≤ B) (hm : m ≤ w.heap.size) : Below m w w' :=
  ⟨h.os, h.tape, h.output, h.size, fun k hk => h.block k (by omega) (by omega) (by omega)⟩
theorem cs_tw {A B b : Nat} {vs : List Value} {w w' : World} (h : Cs b vs w) (ht : Tw A B w w') (hA : b ≠ A) (hB : b ≠ B) : Cs b vs w' := h.kept (ht.block b h.2 hA hB) ht.size
theorem lawI : Maps.Keyed Tryz.prog 3 := Maps.int_keyed Tryz.underlying3
def klI (x : Int) : Lit := .int .i64 x
theorem key_int {x : Int} (h1 : -9223372036854775808 ≤ x) (h2 : x ≤ 9223372036854775807) : keyOf Tryz.prog 3 (.int .i64 x) = some (klI x) := Maps.keyOf_int_mk Tryz.underlying3 (WalkArith.wf_i64 (by omega))

/-- What the two sets of a declaration's rows are. -/
structure Sh (Bt Bn c : Nat) (HT : Int → Bool) (HN : ByteArray → Bool) (w : World) : Prop where
  t : Se 3 klI Bt c HT w
  n : Se 9 klS Bn c HN w
  ne : Bt ≠ Bn
theorem Sh.step {Bt Bn c : Nat} {HT : Int → Bool} {HN : ByteArray → Bool} {w w' : World} (h : Sh Bt Bn c HT HN w) (hb : Below w.heap.size w w') : Sh Bt Bn c HT HN w' := ⟨h.t.step hb, h.n.step hb, h.ne⟩
def loZ (K : Int) : Int := if K = 3 then 0 else 1
def hiZ (K : Int) : Int := if K = 3 then 9999 else 255
theorem tg_iff (K t : Int) : tgB K t = decide (loZ K ≤ t ∧ t ≤ hiZ K) := by
  unfold tgB loZ hiZ
  by_cases h : K = 3
  · rw [if_pos h, if_pos h, if_pos h]
  · rw [if_neg h, if_neg h, if_neg h]

theorem sh_new (w : World) (vs : List Value) (T : TypeId) (o : Obj) (W : World) (hW : W = (((w.alloc (.cells vs.toArray T)).alloc (.map #[] 0)).alloc (.map #[] 0)).alloc o) :
    Sh (w.heap.size + 1) (w.heap.size + 1 + 1) 0 (fun _ => false) (fun _ => false) W ∧ Cs w.heap.size vs W ∧ Below w.heap.size w W := by
  subst hW
  have e1 : (w.alloc (.cells vs.toArray T)).heap.size = w.heap.size + 1 := by simp
  have e2 : ((w.alloc (.cells vs.toArray T)).alloc (.map #[] 0)).heap.size = w.heap.size + 1 + 1 := by simp
  have s1 := Se.made (w.alloc (.cells vs.toArray T)) 3 klI
  rw [e1] at s1
  have s2 := Se.made ((w.alloc (.cells vs.toArray T)).alloc (.map #[] 0)) 9 klS
  rw [e2] at s2
  have st : ∀ (W : World) (o : Obj), Below W.heap.size W (W.alloc o) := fun W o => (Below.refl _ _).alloc (Nat.le_refl _) o
  exact ⟨⟨((s1.step (st _ _)).step (st _ _)), s2.step (st _ _), by omega⟩, (((Cs.new w vs T).alloc _).alloc _).alloc _, ((((Below.refl w.heap.size w).alloc (Nat.le_refl _) _).alloc (by simp) _).alloc (by simp; omega) _).alloc (by simp; omega) _⟩
set_option maxRecDepth 100000 in
set_option maxHeartbeats 2000000 in
theorem headsof_any (K : Int) (w : World) :
    Calls Tryz.prog 100 #[.int .i64 K] w fun e w' => ∃ Bt Bn, e = .returned (.agg #[.int .i64 (loZ K), .int .i64 (hiZ K), .map (some Bt), .map (some Bn)]) ∧ w.heap.size ≤ Bt ∧ w.heap.size ≤ Bn ∧ Sh Bt Bn 0 (fun _ => false) (fun _ => false) w' ∧ Below w.heap.size w w' := by
  have hmm := @run_makeMap Tryz.prog
  by_cases hk : K = 3
  · subst hk
    go_enter Tryz.func100, Tryz.ntmps100
    go_wp2
    obtain ⟨h1, h2, h3⟩ := sh_new w [.int .i64 0, .int .i64 9999, .map (some (w.heap.size + 1)), .map (some (w.heap.size + 1 + 1))] 185 (.cells #[.int .i64 0, .int .i64 9999, .map (some (w.heap.size + 1)), .map (some (w.heap.size + 1 + 1))] 185) _ rfl
    generalize (((w.alloc (.cells ([Value.int .i64 0, .int .i64 9999, .map (some (w.heap.size + 1)), .map (some (w.heap.size + 1 + 1))].toArray) 185)).alloc (.map #[] 0)).alloc (.map #[] 0)).alloc (.cells #[.int .i64 0, .int .i64 9999, .map (some (w.heap.size + 1)), .map (some (w.heap.size + 1 + 1))] 185) = W at h1 h2 h3 ⊢
    have d0 := h2.cell (i := 0) rfl
    have d1 := h2.cell (i := 1) rfl
    have d2 := h2.cell (i := 2) rfl
    have d3 := h2.cell (i := 3) rfl
    refine bodyPost_ret (by simp [results, Tryz.results100, go_sem, d0, d1, d2, d3]; try rfl) rfl ?_
    exact ⟨w.heap.size + 1, w.heap.size + 1 + 1, rfl, by omega, by omega, h1, h3⟩
  · have hq : (K == 3) = false := beq_eq_false_iff_ne.2 hk
    have hlo : loZ K = 1 := by unfold loZ; rw [if_neg hk]
    have hhi : hiZ K = 255 := by unfold hiZ; rw [if_neg hk]
    rw [hlo, hhi]
    clear hlo hhi hk
    go_enter Tryz.func100, Tryz.ntmps100
    go_wp2
    obtain ⟨h1, h2, h3⟩ := sh_new w [.int .i64 1, .int .i64 255, .map (some (w.heap.size + 1)), .map (some (w.heap.size + 1 + 1))] 185 (.cells #[.int .i64 1, .int .i64 255, .map (some (w.heap.size + 1)), .map (some (w.heap.size + 1 + 1))] 185) _ rfl
    generalize (((w.alloc (.cells ([Value.int .i64 1, .int .i64 255, .map (some (w.heap.size + 1)), .map (some (w.heap.size + 1 + 1))].toArray) 185)).alloc (.map #[] 0)).alloc (.map #[] 0)).alloc (.cells #[.int .i64 1, .int .i64 255, .map (some (w.heap.size + 1)), .map (some (w.heap.size + 1 + 1))] 185) = W at h1 h2 h3 ⊢
    have d0 := h2.cell (i := 0) rfl
    have d1 := h2.cell (i := 1) rfl
    have d2 := h2.cell (i := 2) rfl
    have d3 := h2.cell (i := 3) rfl
    refine bodyPost_ret (by simp [results, Tryz.results100, go_sem, d0, d1, d2, d3]; try rfl) rfl ?_
    exact ⟨w.heap.size + 1, w.heap.size + 1 + 1, rfl, by omega, by omega, h1, h3⟩

/-- What wrong tells. -/
def hwE (lo hi : Int) (HT : Int → Bool) (HN : ByteArray → Bool) (t : Int) (s : ByteArray) : Nat := if decide (lo ≤ t ∧ t ≤ hi) = false then 9 else if (HT t || HN s) = true then 7 else 0
set_option maxRecDepth 100000 in
set_option maxHeartbeats 2000000 in
theorem hwrong_any (lo hi : Int) (Bt Bn c : Nat) (HT : Int → Bool) (HN : ByteArray → Bool) (t : Int) (s : ByteArray) (w : World) (h : Sh Bt Bn c HT HN w) (hc : c ≤ 1000000) (hlo : 0 ≤ lo) (hhi : hi ≤ 10000) (hs : s.size ≤ 140737488355327) :
    Calls Tryz.prog 101 #[.agg #[.int .i64 lo, .int .i64 hi, .map (some Bt), .map (some Bn)], .int .i64 t, .string s] w fun e w' =>
      e = .returned (.int .i64 (hwE lo hi HT HN t s : Nat)) ∧ Tw Bt Bn w w' ∧ (hwE lo hi HT HN t s = 0 → Sh Bt Bn (c + 1) (adH HT t) (adH HN s) w') := by
  have hbt := h.t.lt
  have hbn := h.n.lt
  have hks : keyOf Tryz.prog 9 (.string s) = some (klS s) := key_of (by unfold maxLen; omega)
  have hB1 := (Below.refl w.heap.size w).alloc (Nat.le_refl _) (.cells #[.int .i64 lo, .int .i64 hi, .map (some Bt), .map (some Bn)] 185)
  by_cases hr : lo ≤ t ∧ t ≤ hi
  · have he : hwE lo hi HT HN t s = if (HT t || HN s) = true then 7 else 0 := by unfold hwE; rw [decide_eq_true hr, if_neg (by decide)]
    have hkt := key_int (x := t) (by omega) (by omega)
    have g1 : ¬ t < lo := by omega
    have g2 : ¬ hi < t := by omega
    have h1 := h.step hB1
    have hl1 := h1.t.look lawI (t := 182) Tryz.underlying182 hkt
    have hB2 := (Below.refl (w.alloc (.cells #[.int .i64 lo, .int .i64 hi, .map (some Bt), .map (some Bn)] 185)).heap.size (w.alloc (.cells #[.int .i64 lo, .int .i64 hi, .map (some Bt), .map (some Bn)] 185))).alloc (Nat.le_refl _) (.cells #[] 83)
    have h2 := h1.step hB2
    have hl2 := h2.n.look law (t := 183) Tryz.underlying183 hks
    rw [he]
    clear hr
    have hB3 : Below w.heap.size w (((w.alloc (.cells #[.int .i64 lo, .int .i64 hi, .map (some Bt), .map (some Bn)] 185)).alloc (.cells #[] 83)).alloc (.cells #[] 83)) := (hB1.alloc (by simp) _).alloc (by simp; omega) _
    have HB3 := Lib.hid (Tw.of (A := Bt) (B := Bn) hB3)
    have h3 := h2.step ((Below.refl _ _).alloc (Nat.le_refl _) (.cells #[] 83))
    have H3 := Lib.hid h3
    have HC := Lib.hid (((Cs.new w [.int .i64 lo, .int .i64 hi, .map (some Bt), .map (some Bn)] 185).alloc (.cells #[] 83)).alloc (.cells #[] 83)).drew
    have HE := Lib.hid he
    clear he h h1 h2 h3 hB1 hB2 hB3
    cases hT : HT t with
    | true =>
      rw [hT] at hl1
      go_enter Tryz.func101, Tryz.ntmps101
      go_wp2
      go_ret
      first
        | exact ⟨rfl, HB3.out⟩
        | exact ⟨rfl, HB3.out, fun h => (by cases h)⟩
    | false =>
      rw [hT] at hl1
      cases hN : HN s with
      | true =>
        rw [hN] at hl2
        go_enter Tryz.func101, Tryz.ntmps101
        go_wp2
        go_ret
        first
          | exact ⟨rfl, HB3.out⟩
          | exact ⟨rfl, HB3.out, fun h => (by cases h)⟩
      | false =>
        rw [hN] at hl2
        have hcm : c < maxLen := by unfold maxLen; omega
        have d2 := HC.out.cell (i := 2) rfl
        have d3 := HC.out.cell (i := 3) rfl
        have hx : Sh Bt Bn c HT HN (((w.alloc (.cells #[.int .i64 lo, .int .i64 hi, .map (some Bt), .map (some Bn)] 185)).alloc (.cells #[] 83)).alloc (.cells #[] 83)).drew := H3.out.step (Below.refl _ _).drew
        have hsB : ∀ (B : Nat), B < w.heap.size → some w.heap.size ≠ some B := fun B h e => by injection e; omega
        obtain ⟨w4, u4, s4, g4⟩ := hx.t.store lawI (t := 182) Tryz.underlying182 (fun a b e => by unfold klI at e; injection e) hkt (by unfold klI; simp [WideAt.IsKeyLit]) hcm
        have n4 := hx.n.grown g4 (fun e => hx.ne (by injection e with e; exact e.symm))
        obtain ⟨w5, u5, s5, g5⟩ := n4.store law (t := 183) Tryz.underlying183 (fun a b e => klS_inj e) hks (by unfold klS; simp [WideAt.IsKeyLit]) hcm
        have t5 := s4.grown g5 (fun e => hx.ne (by injection e))
        obtain ⟨w6, u6, s6, g6⟩ := hx.n.store law (t := 183) Tryz.underlying183 (fun a b e => klS_inj e) hks (by unfold klS; simp [WideAt.IsKeyLit]) hcm
        have t6 := hx.t.grown g6 (fun e => hx.ne (by injection e))
        obtain ⟨w7, u7, s7, g7⟩ := t6.store lawI (t := 182) Tryz.underlying182 (fun a b e => by unfold klI at e; injection e) hkt (by unfold klI; simp [WideAt.IsKeyLit]) hcm
        have n7 := s6.grown g7 (fun e => hx.ne (by injection e with e; exact e.symm))
        have c4 := HC.out.grown g4 (hsB _ hbt)
        have e42 := c4.cell (i := 2) rfl
        have e43 := c4.cell (i := 3) rfl
        have c6 := HC.out.grown g6 (hsB _ hbn)
        have e62 := c6.cell (i := 2) rfl
        have e63 := c6.cell (i := 3) rfl
        have b3 : Tw Bt Bn w (((w.alloc (.cells #[.int .i64 lo, .int .i64 hi, .map (some Bt), .map (some Bn)] 185)).alloc (.cells #[] 83)).alloc (.cells #[] 83)).drew := ⟨HB3.out.os, HB3.out.tape, HB3.out.output, HB3.out.size, HB3.out.block⟩
        have b5 := (b3.grown g4 (.inl rfl)).grown g5 (.inr rfl)
        have b7 := (b3.grown g6 (.inr rfl)).grown g7 (.inl rfl)
        have HX5 := Lib.hid (And.intro b5 (show Sh Bt Bn (c + 1) (adH HT t) (adH HN s) w5 from ⟨t5, s5, hx.ne⟩))
        have HX7 := Lib.hid (And.intro b7 (show Sh Bt Bn (c + 1) (adH HT t) (adH HN s) w7 from ⟨s7, n7, hx.ne⟩))
        clear hx s4 g4 n4 s5 g5 t5 s6 g6 t6 s7 g7 n7 c4 c6 b3 b5 b7
        go_enter Tryz.func101, Tryz.ntmps101
        go_wp2
        go_region
        all_goals
          go_wp2
          go_ret
          first
            | exact ⟨rfl, HX5.out.1, fun _ => HX5.out.2⟩
            | exact ⟨rfl, HX5.out.1, HX5.out.2⟩
            | exact ⟨rfl, HX7.out.1, fun _ => HX7.out.2⟩
            | exact ⟨rfl, HX7.out.1, HX7.out.2⟩
  · have he : hwE lo hi HT HN t s = 9 := by unfold hwE; rw [decide_eq_false hr, if_pos rfl]
    rw [he]
    have HB1 := Lib.hid (Tw.of (A := Bt) (B := Bn) hB1)
    clear he hB1
    by_cases g1 : t < lo
    · clear hr
      go_enter Tryz.func101, Tryz.ntmps101
      go_wp2
      go_ret
      first
        | exact ⟨rfl, HB1.out⟩
        | exact ⟨rfl, HB1.out, fun h => (by cases h)⟩
    · have g2 : hi < t := by omega
      clear hr
      go_enter Tryz.func101, Tryz.ntmps101
      go_wp2
      go_ret
      first
        | exact ⟨rfl, HB1.out⟩
        | exact ⟨rfl, HB1.out, fun h => (by cases h)⟩
end Go.Proofs.YtdogddliifbjnaaGreat.Ck
/- check's wrongField, wrongMethod. -/
namespace Go.Proofs.YtdogddliifbjnaaGreat.Ck
open Go.RowKit Cm _root_.Go.Proofs.YtdogddliifbjnaaGreat.Nm
set_option linter.unusedVariables false
set_option linter.unusedSimpArgs false

def wfE (S : Nat → ByteArray) (K : Nat → Int) (n : Nat) (Kd : Int) (t : Ty) : Nat := if Kd = 3 then 0 else match tyE S K n t false with
  | 0 => if Kd = 2 ∧ t.k = 9 then 8 else 0
  | e + 1 => e + 1
set_option maxRecDepth 100000 in
set_option maxHeartbeats 2000000 in
theorem wfield_any (T n : Nat) (S : Nat → ByteArray) (K : Nat → Int) (Kd : Int) (t : Ty) (w : World) (h : Tb T n S K w) (ht : TyIn w t) (hd : dpT t ≤ 131072) :
    Calls Tryz.prog 102 #[.pointer (some ⟨T, 0, none⟩), .int .i64 Kd, .agg #[.int .i64 t.k, .string t.n, .slice t.o t.of.length t.c]] w fun e w' => e = .returned (.int .i64 (wfE S K n Kd t : Nat)) ∧ Below w.heap.size w w' := by
  have hB := (Below.refl w.heap.size w).alloc (Nat.le_refl _) (.cells #[.int .i64 t.k, .string t.n, .slice t.o t.of.length t.c] 48)
  have HB := Lib.hid hB
  have HC := Lib.hid (Cs.new w [.int .i64 t.k, .string t.n, .slice t.o t.of.length t.c] 48)
  have HT := Lib.hid (h.below hB)
  have HI := Lib.hid (ty_below ht hB (Nat.le_refl _))
  clear h ht hB
  by_cases h3 : Kd = 3
  · subst h3
    have he : wfE S K n 3 t = 0 := by unfold wfE; rw [if_pos rfl]
    rw [he]
    clear he
    go_enter Tryz.func102, Tryz.ntmps102
    go_wp2
    go_ret
    exact ⟨rfl, HB.out⟩
  · have q3 : (Kd == 3) = false := beq_eq_false_iff_ne.2 h3
    have hw := wtype_any T n S K t false
    cases hr : tyE S K n t false with
    | succ e =>
      have he : wfE S K n Kd t = e + 1 := by unfold wfE; rw [if_neg h3, hr]
      rw [he]
      rw [hr] at hw
      have HW := Lib.hid hw
      have hq : (((e + 1 : Nat) : Int) == 0) = false := beq_eq_false_iff_ne.2 (by omega)
      obtain ⟨x, hx⟩ : ∃ x : Int, x = ((e + 1 : Nat) : Int) := ⟨_, rfl⟩
      rw [← hx] at HW hq ⊢
      clear he hr hw h3 hx
      go_enter Tryz.func102, Tryz.ntmps102
      go_wp2_with (go_at_call 116; refine (HW.out _ HT.out HI.out hd).mono ?_; rintro e w1 ⟨rfl, hb1⟩)
      go_ret
      exact ⟨rfl, HB.out.trans (hb1.mono HB.out.size)⟩
    | zero =>
      rw [hr] at hw
      have HW := Lib.hid hw
      clear hw
      by_cases h2 : Kd = 2
      · subst h2
        by_cases h9 : t.k = 9
        · have he : wfE S K n 2 t = 8 := by unfold wfE; rw [if_neg h3, hr]; exact if_pos ⟨rfl, h9⟩
          rw [he]
          have H9 := Lib.hid h9
          clear he hr h3 q3 h9
          go_enter Tryz.func102, Tryz.ntmps102
          go_wp2_with (go_at_call 116; refine (HW.out _ HT.out HI.out hd).mono ?_; rintro e w1 ⟨rfl, hb1⟩; have d0 := (HC.out.below hb1 HC.out.lt).cell (i := 0) rfl; rw [H9.out] at d0)
          go_ret
          exact ⟨rfl, HB.out.trans (hb1.mono HB.out.size)⟩
        · have he : wfE S K n 2 t = 0 := by unfold wfE; rw [if_neg h3, hr]; exact if_neg (fun e => h9 e.2)
          have q9 : (t.k == 9) = false := beq_eq_false_iff_ne.2 h9
          rw [he]
          clear he hr h3 q3 h9
          go_enter Tryz.func102, Tryz.ntmps102
          go_wp2_with (go_at_call 116; refine (HW.out _ HT.out HI.out hd).mono ?_; rintro e w1 ⟨rfl, hb1⟩; have d0 := (HC.out.below hb1 HC.out.lt).cell (i := 0) rfl)
          go_ret
          exact ⟨rfl, HB.out.trans (hb1.mono HB.out.size)⟩
      · have he : wfE S K n Kd t = 0 := by unfold wfE; rw [if_neg h3, hr]; exact if_neg (fun e => h2 e.1)
        have q2 : (Kd == 2) = false := beq_eq_false_iff_ne.2 h2
        rw [he]
        clear he hr h3 h2
        go_enter Tryz.func102, Tryz.ntmps102
        go_wp2_with (go_at_call 116; refine (HW.out _ HT.out HI.out hd).mono ?_; rintro e w1 ⟨rfl, hb1⟩; have d0 := (HC.out.below hb1 HC.out.lt).cell (i := 0) rfl)
        go_ret
        exact ⟨rfl, HB.out.trans (hb1.mono HB.out.size)⟩

def wmE (S : Nat → ByteArray) (K : Nat → Int) (n : Nat) (i o : ByteArray) : Nat := match stE S K n i with
  | 0 => stE S K n o
  | e + 1 => e + 1
theorem one_cell (w : World) : ∀ j, j < ([1] : List Int).length → (w.alloc (.cells #[.int .i64 1] 3)).cell? ⟨w.heap.size, j, none⟩ = some (.int .i64 (([1] : List Int).getD j 0)) := fun j hj => by
  have hc := Cs.new w [.int .i64 1] 3
  match j, hj with
  | 0, _ => exact hc.cell (i := 0) rfl
set_option maxRecDepth 100000 in
set_option maxHeartbeats 2000000 in
theorem wmethod_any (T n : Nat) (S : Nat → ByteArray) (K : Nat → Int) (t : Int) (nm i o : ByteArray) (b : Bool) (w : World) (h : Tb T n S K w) (hi : i.size ≤ 140737488355327) (ho : o.size ≤ 140737488355327) :
    Calls Tryz.prog 103 #[.pointer (some ⟨T, 0, none⟩), .agg #[.int .i64 t, .string nm, .string i, .string o, .bool b]] w fun e w' => e = .returned (.int .i64 (wmE S K n i o : Nat)) ∧ Below w.heap.size w w' := by
  have hB := ((Below.refl w.heap.size w).alloc (Nat.le_refl _) (.cells #[.int .i64 t, .string nm, .string i, .string o, .bool b] 98)).alloc (by simp) (.cells #[.int .i64 1] 3)
  have HB := Lib.hid hB
  have HC := Lib.hid ((Cs.new w [.int .i64 t, .string nm, .string i, .string o, .bool b] 98).alloc (.cells #[.int .i64 1] 3))
  have HT := Lib.hid (h.below hB)
  have HO := Lib.hid (one_cell (w.alloc (.cells #[.int .i64 t, .string nm, .string i, .string o, .bool b] 98)))
  have HZ : Hid ((w.alloc (.cells #[.int .i64 t, .string nm, .string i, .string o, .bool b] 98)).heap.size = w.heap.size + 1) := Lib.hid (by simp)
  clear h hB
  have h1 := wname_any T n (w.heap.size + 1) 1 S K i [1]
  have h2 := fun g => wname_any T n g 1 S K o [1]
  rw [wn_struct] at h1
  simp only [wn_struct] at h2
  have H1 := Lib.hid h1
  have H2 := Lib.hid h2
  cases hr : stE S K n i with
  | succ e =>
    have he : wmE S K n i o = e + 1 := by unfold wmE; rw [hr]
    rw [he]
    rw [hr] at h1
    have HW := Lib.hid h1
    have hq : ((((e + 1 : Nat) : Int)) != 0) = true := bne_iff_ne.2 (by omega)
    obtain ⟨x, hx⟩ : ∃ x : Int, x = ((e + 1 : Nat) : Int) := ⟨_, rfl⟩
    rw [← hx] at HW hq ⊢
    clear he hr h1 h2 hx H1 H2
    go_enter Tryz.func103, Tryz.ntmps103
    go_wp2_with (go_at_call 117; refine (HW.out _ HT.out hi (by decide) (by simp) (by rw [← HZ.out]; exact HO.out)).mono ?_; rintro e w1 ⟨rfl, hb1⟩)
    go_ret
    exact ⟨rfl, HB.out.trans (hb1.mono HB.out.size)⟩
  | zero =>
    have he : wmE S K n i o = stE S K n o := by unfold wmE; rw [hr]
    rw [he]
    rw [hr] at h1
    have HW := Lib.hid h1
    clear he hr h1 h2 H1
    go_enter Tryz.func103, Tryz.ntmps103
    go_wp2_with (first
      | (go_at_call_of 117 (Value.string o); refine (H2.out w1.heap.size _ ((HT.out.below hb1).alloc _) ho (by decide) (by simp) (one_cell w1)).mono ?_; rintro e w2 ⟨rfl, hb2⟩)
      | (go_at_call 117; refine (HW.out _ HT.out hi (by decide) (by simp) (by rw [← HZ.out]; exact HO.out)).mono ?_; rintro e w1 ⟨rfl, hb1⟩; have d3 := (HC.out.below hb1 HC.out.lt).cell (i := 3) rfl))
    go_ret
    exact ⟨rfl, ((HB.out.trans (hb1.mono HB.out.size)).alloc (Nat.le_trans HB.out.size hb1.size) _).trans (hb2.mono (by have h1 := HB.out.size; have h2 := hb1.size; simp; omega))⟩
end Go.Proofs.YtdogddliifbjnaaGreat.Ck
/- check's wrongRows. -/
namespace Go.Proofs.YtdogddliifbjnaaGreat.Ck
open Go.RowKit Cm _root_.Go.Proofs.YtdogddliifbjnaaGreat.Nm
set_option linter.unusedVariables false
set_option linter.unusedSimpArgs false

def tsH (T : Nat → Int) (k : Nat) : Int → Bool := fun x => anB (fun j => decide (T j = x)) k
def nsH (N : Nat → ByteArray) (k : Nat) : ByteArray → Bool := fun x => anB (fun j => decide (N j = x)) k
theorem ts_next (T : Nat → Int) (k : Nat) : adH (tsH T k) (T k) = tsH T (k + 1) := by
  funext x
  show (anB (fun j => decide (T j = x)) k || decide (x = T k)) = (anB (fun j => decide (T j = x)) k || decide (T k = x))
  congr 1
  exact decide_eq_decide.2 ⟨Eq.symm, Eq.symm⟩
theorem ns_next (N : Nat → ByteArray) (k : Nat) : adH (nsH N k) (N k) = nsH N (k + 1) := by
  funext x
  show (anB (fun j => decide (N j = x)) k || decide (x = N k)) = (anB (fun j => decide (N j = x)) k || decide (N k = x))
  congr 1
  exact decide_eq_decide.2 ⟨Eq.symm, Eq.symm⟩
theorem anB_or (p q : Nat → Bool) (k : Nat) : anB (fun j => p j || q j) k = (anB p k || anB q k) := by
  induction k with
  | zero => rfl
  | succ k ih =>
    show (anB (fun j => p j || q j) k || (p k || q k)) = ((anB p k || p k) || (anB q k || q k))
    rw [ih]
    cases anB p k <;> cases anB q k <;> cases p k <;> cases q k <;> rfl
def t2H (A B : Nat → Int) (l k : Nat) : Int → Bool := fun x => tsH A l x || tsH B k x
def n2H (A B : Nat → ByteArray) (l k : Nat) : ByteArray → Bool := fun x => nsH A l x || nsH B k x
theorem t2_next (A B : Nat → Int) (l k : Nat) : adH (t2H A B l k) (B k) = t2H A B l (k + 1) := by
  funext x
  show ((tsH A l x || tsH B k x) || decide (x = B k)) = (tsH A l x || tsH B (k + 1) x)
  rw [← ts_next B k, Bool.or_assoc]; rfl
theorem n2_next (A B : Nat → ByteArray) (l k : Nat) : adH (n2H A B l k) (B k) = n2H A B l (k + 1) := by
  funext x
  show ((nsH A l x || nsH B k x) || decide (x = B k)) = (nsH A l x || nsH B (k + 1) x)
  rw [← ns_next B k, Bool.or_assoc]; rfl
theorem t2_zero (A B : Nat → Int) (l : Nat) : t2H A B l 0 = tsH A l := by
  funext x
  show (tsH A l x || false) = tsH A l x
  simp
theorem n2_zero (A B : Nat → ByteArray) (l : Nat) : n2H A B l 0 = nsH A l := by
  funext x
  show (nsH A l x || false) = nsH A l x
  simp
section
variable {S : Nat → ByteArray} {K : Nat → Int} {n : Nat} {Kd : Int} {F : Fy} {M : Ml} {k l : Nat}
theorem fd_eq : fdE S K n Kd F k = (match hwE (loZ Kd) (hiZ Kd) (tsH F.T k) (nsH F.N k) (F.T k) (F.N k) with | 0 => wfE S K n Kd (F.Y k) | e + 1 => e + 1) := by
  have e : anB (fun j => decide (F.T j = F.T k) || decide (F.N j = F.N k)) k = (tsH F.T k (F.T k) || nsH F.N k (F.N k)) := anB_or _ _ _
  unfold fdE hwE
  rw [tg_iff, e]
  by_cases h1 : decide (loZ Kd ≤ F.T k ∧ F.T k ≤ hiZ Kd) = false
  · rw [if_pos h1, if_pos h1]
  · rw [if_neg h1, if_neg h1]
    by_cases h2 : (tsH F.T k (F.T k) || nsH F.N k (F.N k)) = true
    · rw [if_pos h2, if_pos h2]
    · rw [if_neg h2, if_neg h2]
      unfold wfE
      by_cases h3 : Kd = 3
      · rw [if_pos h3, if_pos h3]
      · rw [if_neg h3, if_neg h3]
        cases tyE S K n (F.Y k) false <;> rfl
theorem fd_bad {e : Nat} (h : hwE (loZ Kd) (hiZ Kd) (tsH F.T k) (nsH F.N k) (F.T k) (F.N k) = e + 1) : fdE S K n Kd F k = e + 1 := by rw [fd_eq, h]
theorem fd_good (h : hwE (loZ Kd) (hiZ Kd) (tsH F.T k) (nsH F.N k) (F.T k) (F.N k) = 0) : fdE S K n Kd F k = wfE S K n Kd (F.Y k) := by rw [fd_eq, h]
theorem md_eq : mdE S K n Kd l F M k = (match hwE (loZ Kd) (hiZ Kd) (t2H F.T M.T l k) (n2H F.N M.N l k) (M.T k) (M.N k) with | 0 => wmE S K n (M.I k) (M.O k) | e + 1 => e + 1) := by
  have e1 : anB (fun j => decide (F.T j = M.T k) || decide (F.N j = M.N k)) l = (tsH F.T l (M.T k) || nsH F.N l (M.N k)) := anB_or _ _ _
  have e2 : anB (fun j => decide (M.T j = M.T k) || decide (M.N j = M.N k)) k = (tsH M.T k (M.T k) || nsH M.N k (M.N k)) := anB_or _ _ _
  have e3 : (t2H F.T M.T l k (M.T k) || n2H F.N M.N l k (M.N k)) = ((tsH F.T l (M.T k) || nsH F.N l (M.N k)) || (tsH M.T k (M.T k) || nsH M.N k (M.N k))) := by
    show ((tsH F.T l (M.T k) || tsH M.T k (M.T k)) || (nsH F.N l (M.N k) || nsH M.N k (M.N k))) = _
    cases tsH F.T l (M.T k) <;> cases tsH M.T k (M.T k) <;> cases nsH F.N l (M.N k) <;> cases nsH M.N k (M.N k) <;> rfl
  unfold mdE hwE
  rw [tg_iff, e1, e2, e3]
  by_cases h1 : decide (loZ Kd ≤ M.T k ∧ M.T k ≤ hiZ Kd) = false
  · rw [if_pos h1, if_pos h1]
  · rw [if_neg h1, if_neg h1]
    by_cases h2 : (tsH F.T l (M.T k) || nsH F.N l (M.N k)) = true
    · rw [if_pos h2, h2]; rfl
    · rw [if_neg h2]
      have h2' : (tsH F.T l (M.T k) || nsH F.N l (M.N k)) = false := by simpa using h2
      rw [h2', Bool.false_or]
      by_cases h3 : (tsH M.T k (M.T k) || nsH M.N k (M.N k)) = true
      · rw [if_pos h3, if_pos h3]
      · rw [if_neg h3, if_neg h3]
        unfold wmE
        cases stE S K n (M.I k) <;> rfl
theorem md_bad {e : Nat} (h : hwE (loZ Kd) (hiZ Kd) (t2H F.T M.T l k) (n2H F.N M.N l k) (M.T k) (M.N k) = e + 1) : mdE S K n Kd l F M k = e + 1 := by rw [md_eq, h]
theorem md_good (h : hwE (loZ Kd) (hiZ Kd) (t2H F.T M.T l k) (n2H F.N M.N l k) (M.T k) (M.N k) = 0) : mdE S K n Kd l F M k = wmE S K n (M.I k) (M.O k) := by rw [md_eq, h]
end
theorem fz_up {p : Nat → Nat} {k m e : Nat} (hk : k ≤ m) (h : fzE p k = e + 1) : fzE p m = e + 1 := by
  induction m with
  | zero => obtain rfl : k = 0 := by omega
            exact h
  | succ m ih =>
    by_cases e2 : k = m + 1
    · subst e2; exact h
    · show (match fzE p m with | 0 => p m | e + 1 => e + 1) = e + 1
      rw [ih (by omega)]
theorem fz_at {p : Nat → Nat} {k m e : Nat} (hk : k < m) (h0 : fzE p k = 0) (h : p k = e + 1) : fzE p m = e + 1 := by
  refine fz_up (k := k + 1) hk ?_
  show (match fzE p k with | 0 => p k | e + 1 => e + 1) = e + 1
  rw [h0]; exact h
theorem fz_on {p : Nat → Nat} {k : Nat} (h0 : fzE p k = 0) (h : p k = 0) : fzE p (k + 1) = 0 := by
  show (match fzE p k with | 0 => p k | e + 1 => e + 1) = 0
  rw [h0]; exact h
/-- What wrongRows tells. -/
def wrE (S : Nat → ByteArray) (K : Nat → Int) (n : Nat) (Kd : Int) (fl ml : Nat) (F : Fy) (M : Ml) : Nat := match fzE (fdE S K n Kd F) fl with
  | e + 1 => e + 1
  | 0 => fzE (mdE S K n Kd fl F M) ml

/-- What its loops keep. -/
structure Wr (Bt Bn hb c : Nat) (Kd : Int) (db : List Value) (w : World) (HT : Int → Bool) (HN : ByteArray → Bool) (wr : World) : Prop where
  sh : Sh Bt Bn c HT HN wr
  box : Cs w.heap.size db wr
  hd : Cs hb [.int .i64 (loZ Kd), .int .i64 (hiZ Kd), .map (some Bt), .map (some Bn)] wr
  below : Below w.heap.size w wr
structure Wg (Bt Bn hb : Nat) (w : World) : Prop where
  t : w.heap.size < Bt
  n : w.heap.size < Bn
  ht : hb ≠ Bt
  hn : hb ≠ Bn
  hw : w.heap.size < hb
section
variable {Bt Bn hb c c' : Nat} {Kd : Int} {db : List Value} {w wr w' : World} {HT HT' : Int → Bool} {HN HN' : ByteArray → Bool}
theorem Wr.step (h : Wr Bt Bn hb c Kd db w HT HN wr) (hB : Below wr.heap.size wr w') : Wr Bt Bn hb c Kd db w HT HN w' :=
  ⟨h.sh.step hB, h.box.below hB h.box.lt, h.hd.below hB h.hd.lt, h.below.trans (hB.mono h.below.size)⟩
theorem Wr.tw (h : Wr Bt Bn hb c Kd db w HT HN wr) (hg : Wg Bt Bn hb w) (ht : Tw Bt Bn wr w') (hs : Sh Bt Bn c' HT' HN' w') : Wr Bt Bn hb c' Kd db w HT' HN' w' :=
  ⟨hs, cs_tw h.box ht (by have := hg.t; omega) (by have := hg.n; omega), cs_tw h.hd ht hg.ht hg.hn, h.below.trans (ht.below (by have := hg.t; omega) (by have := hg.n; omega) h.below.size)⟩
theorem Wr.bel (h : Wr Bt Bn hb c Kd db w HT HN wr) (hg : Wg Bt Bn hb w) (ht : Tw Bt Bn wr w') : Below w.heap.size w w' :=
  h.below.trans (ht.below (by have := hg.t; omega) (by have := hg.n; omega) h.below.size)
end
theorem loB (K : Int) : 0 ≤ loZ K := by unfold loZ; split <;> omega
theorem hiB' (K : Int) : hiZ K ≤ 10000 := by unfold hiZ; split <;> omega

set_option maxRecDepth 100000 in
set_option maxHeartbeats 8000000 in
theorem wrows_any (T n : Nat) (S : Nat → ByteArray) (K : Nat → Int) (Kd At : Int) (Sd : ByteArray) (fo mo : Option Addr) (fl fc ml mc : Nat) (F : Fy) (M : Ml) (w : World) (h : Tb T n S K w) (hF : Yx fo fl F w) (hM : Mx mo ml M w)
    (hfl : fl ≤ 30) (hml : ml ≤ 30) (hdp : ∀ k, k < fl → dpT (F.Y k) ≤ 131072) :
    Calls Tryz.prog 81 #[.pointer (some ⟨T, 0, none⟩), .agg #[.int .i64 Kd, .string Sd, .slice fo fl fc, .slice mo ml mc, .int .i64 At]] w fun e w' => e = .returned (.int .i64 (wrE S K n Kd fl ml F M : Nat)) ∧ Below w.heap.size w w' := by
  have hB0 := (Below.refl w.heap.size w).alloc (Nat.le_refl _) (.cells #[.int .i64 Kd, .string Sd, .slice fo fl fc, .slice mo ml mc, .int .i64 At] 43)
  have HC0 := Lib.hid (Cs.new w [.int .i64 Kd, .string Sd, .slice fo fl fc, .slice mo ml mc, .int .i64 At] 43)
  have HB0 := Lib.hid hB0
  have HZ0 : Hid ((w.alloc (.cells #[.int .i64 Kd, .string Sd, .slice fo fl fc, .slice mo ml mc, .int .i64 At] 43)).heap.size = w.heap.size + 1) := Lib.hid (by simp)
  have HT := Lib.hid h
  have HFX := Lib.hid hF
  have HMX := Lib.hid hM
  have HDP := Lib.hid hdp
  have hfl2 : fl ≤ 9223372036854775807 := by omega
  have hml2 : ml ≤ 9223372036854775807 := by omega
  clear h hF hM hdp hB0
  go_enter Tryz.func81, Tryz.ntmps81
  go_wp2_with (go_at_call 100; refine (headsof_any Kd _).mono ?_; rintro e w1 ⟨Bt, Bn, rfl, hbt, hbn, hsh, hb1⟩; have c2 := ((HC0.out.below hb1 HC0.out.lt).alloc (.cells #[.int .i64 (loZ Kd), .int .i64 (hiZ Kd), .map (some Bt), .map (some Bn)] 185)).cell (i := 2) rfl)
  have hz := HZ0.out
  have HG : Hid (Wg Bt Bn w1.heap.size w) := Lib.hid ⟨by omega, by omega, by have := hsh.t.lt; omega, by have := hsh.n.lt; omega, by have := hb1.size; omega⟩
  have HW0 : Hid (Wr Bt Bn w1.heap.size 0 Kd [.int .i64 Kd, .string Sd, .slice fo fl fc, .slice mo ml mc, .int .i64 At] w (tsH F.T 0) (nsH F.N 0) (w1.alloc (.cells #[.int .i64 (loZ Kd), .int .i64 (hiZ Kd), .map (some Bt), .map (some Bn)] 185))) :=
    Lib.hid ⟨hsh.step ((Below.refl _ _).alloc (Nat.le_refl _) _), (HC0.out.below hb1 HC0.out.lt).alloc _, Cs.new w1 [.int .i64 (loZ Kd), .int .i64 (hiZ Kd), .map (some Bt), .map (some Bn)] 185, (HB0.out.trans (hb1.mono HB0.out.size)).alloc (Nat.le_trans HB0.out.size hb1.size) _⟩
  clear hbt hbn hsh hb1 hz c2
  go_loopw [20] (fun i wr => ∃ k, k ≤ fl ∧ i = .int .i64 (k : Nat) ∧ Hid (fzE (fdE S K n Kd F) k = 0) ∧ Hid (Wr Bt Bn w1.heap.size k Kd [.int .i64 Kd, .string Sd, .slice fo fl fc, .slice mo ml mc, .int .i64 At] w (tsH F.T k) (nsH F.N k) wr)) (fun i _ => fl - (intOf i).toNat)
  case atStart => exact ⟨0, by omega, rfl, Lib.hid rfl, HW0⟩
  case round =>
    obtain ⟨k, hk, rfl, HZ, HW⟩ := hrel
    clear HW0
    by_cases hkl : k < fl
    · have hki : (k : Int) < (fl : Int) := by omega
      obtain ⟨a2, Bb, Bo, Bs, rfl, hB, hBb, f0, f1, f2, f3, f4, hin⟩ := (HFX.out.below HW.out.below (Nat.le_refl _)).place hkl
      have hnz := (HFX.out.2 k hkl).2
      have HIN := Lib.hid hin
      have hst := (Below.refl wr.heap.size wr).alloc (Nat.le_refl _) (.cells #[.int .i64 (F.T k), .string (F.N k), .int .i64 (F.Y k).k, .string (F.Y k).n, .slice (F.Y k).o (F.Y k).of.length (F.Y k).c] 50)
      have HW2 := Lib.hid (HW.out.step hst)
      have HCf := Lib.hid (Cs.new wr [.int .i64 (F.T k), .string (F.N k), .int .i64 (F.Y k).k, .string (F.Y k).n, .slice (F.Y k).o (F.Y k).of.length (F.Y k).c] 50)
      have g0 := HW2.out.hd.cell (i := 0) rfl
      have g1 := HW2.out.hd.cell (i := 1) rfl
      have g2 := HW2.out.hd.cell (i := 2) rfl
      have g3 := HW2.out.hd.cell (i := 3) rfl
      have hbtl : wr.heap.size ≠ Bt := by have := HW.out.sh.t.lt; omega
      have hbnl : wr.heap.size ≠ Bn := by have := HW.out.sh.n.lt; omega
      have hw := hwrong_any (loZ Kd) (hiZ Kd) Bt Bn k (tsH F.T k) (nsH F.N k) (F.T k) (F.N k) _ HW2.out.sh (by omega) (loB Kd) (hiB' Kd) hnz
      clear hin hst
      cases hr : hwE (loZ Kd) (hiZ Kd) (tsH F.T k) (nsH F.N k) (F.T k) (F.N k) with
      | succ e =>
        rw [hr] at hw
        have HH := Lib.hid hw
        have he : wrE S K n Kd fl ml F M = e + 1 := by unfold wrE; rw [fz_at hkl HZ.out (fd_bad hr)]
        have HE := Lib.hid he
        have hq : ((((e + 1 : Nat) : Int)) != 0) = true := bne_iff_ne.2 (by omega)
        obtain ⟨x, hx⟩ : ∃ x : Int, x = ((e + 1 : Nat) : Int) := ⟨_, rfl⟩
        rw [← hx] at HH hq
        have HX := Lib.hid hx
        clear hr hw he hx
        go_wp2_with (go_at_call 101; refine HH.out.mono ?_; rintro e2 w2 ⟨rfl, ht2, _⟩)
        go_ret
        exact ⟨by rw [HE.out, ← HX.out]; rfl, HW2.out.bel HG.out ht2⟩
      | zero =>
        rw [hr] at hw
        have HH := Lib.hid hw
        have hgd := fd_good (S := S) (K := K) (n := n) hr
        clear hr hw
        have hwf := wfield_any T n S K Kd (F.Y k)
        cases hr2 : wfE S K n Kd (F.Y k) with
        | succ e =>
          rw [hr2] at hwf hgd
          have HF2 := Lib.hid hwf
          have he : wrE S K n Kd fl ml F M = e + 1 := by unfold wrE; rw [fz_at hkl HZ.out hgd]
          have HE := Lib.hid he
          have hq : ((((e + 1 : Nat) : Int)) != 0) = true := bne_iff_ne.2 (by omega)
          obtain ⟨x, hx⟩ : ∃ x : Int, x = ((e + 1 : Nat) : Int) := ⟨_, rfl⟩
          rw [← hx] at HF2 hq
          have HX := Lib.hid hx
          clear hr2 hwf he hx hgd
          go_wp2_with (first
            | (go_at_call 102; refine (HF2.out _ (HT.out.below hW3.below) (ty_below (w := w) ((HFX.out.2 k hkl).1) hW3.below (Nat.le_refl _)) (HDP.out k hkl)).mono ?_; rintro e3 w3 ⟨rfl, hb3⟩)
            | (go_at_call 101; refine HH.out.mono ?_; rintro e2 w2 ⟨rfl, ht2, hs2⟩; have hW3 := HW2.out.tw HG.out ht2 (hs2 rfl); have hcf := cs_tw HCf.out ht2 hbtl hbnl; have y0 := hW3.box.cell (i := 0) rfl; have y2 := hcf.cell (i := 2) rfl; have y3 := hcf.cell (i := 3) rfl; have y4 := hcf.cell (i := 4) rfl))
          go_ret
          exact ⟨by rw [HE.out, ← HX.out]; rfl, (hW3.step hb3).below⟩
        | zero =>
          rw [hr2] at hwf hgd
          have HF2 := Lib.hid hwf
          have HGD := Lib.hid hgd
          clear hr2 hwf hgd
          go_wp2_with (first
            | (go_at_call 102; refine (HF2.out _ (HT.out.below hW3.below) (ty_below (w := w) ((HFX.out.2 k hkl).1) hW3.below (Nat.le_refl _)) (HDP.out k hkl)).mono ?_; rintro e3 w3 ⟨rfl, hb3⟩)
            | (go_at_call 101; refine HH.out.mono ?_; rintro e2 w2 ⟨rfl, ht2, hs2⟩; have hW3 := HW2.out.tw HG.out ht2 (hs2 rfl); have hcf := cs_tw HCf.out ht2 hbtl hbnl; have y0 := hW3.box.cell (i := 0) rfl; have y2 := hcf.cell (i := 2) rfl; have y3 := hcf.cell (i := 3) rfl; have y4 := hcf.cell (i := 4) rfl))
          go_roundw
          case rel => exact ⟨k + 1, by omega, by go_num, Lib.hid (fz_on HZ.out HGD.out), Lib.hid (by rw [← ts_next, ← ns_next]; exact hW3.step hb3)⟩
          case measure => simp [intOf]; omega
    · have hki : ¬ (k : Int) < (fl : Int) := by omega
      obtain rfl : k = fl := by omega
      have c3 := HW.out.box.cell (i := 3) rfl
      have HWM : Hid (Wr Bt Bn w1.heap.size (k + 0) Kd [.int .i64 Kd, .string Sd, .slice fo k fc, .slice mo ml mc, .int .i64 At] w (t2H F.T M.T k 0) (n2H F.N M.N k 0) wr) := Lib.hid (by rw [t2_zero, n2_zero]; exact HW.out)
      go_wp2
      clear c3
      go_loopw [46] (fun i wq => ∃ j, j ≤ ml ∧ i = .int .i64 (j : Nat) ∧ Hid (fzE (mdE S K n Kd k F M) j = 0) ∧ Hid (Wr Bt Bn w1.heap.size (k + j) Kd [.int .i64 Kd, .string Sd, .slice fo k fc, .slice mo ml mc, .int .i64 At] w (t2H F.T M.T k j) (n2H F.N M.N k j) wq)) (fun i _ => ml - (intOf i).toNat)
      case atStart => exact ⟨0, by omega, rfl, Lib.hid rfl, HWM⟩
      case round =>
        obtain ⟨j, hj, rfl, HZM, HQ⟩ := hrel
        clear HWM HW
        by_cases hjl : j < ml
        · have hji : (j : Int) < (ml : Int) := by omega
          obtain ⟨a2, Bb, Bo, Bs, rfl, hB, hBb, f0, f1, f2, f3, f4⟩ := (HMX.out.below HQ.out.below (Nat.le_refl _)).place hjl
          have hn1 := (HMX.out.1 j hjl).choose_spec.2.2.2.1
          have hn2 := (HMX.out.1 j hjl).choose_spec.2.2.2.2.1
          have hn3 := (HMX.out.1 j hjl).choose_spec.2.2.2.2.2
          have hst := (Below.refl wr.heap.size wr).alloc (Nat.le_refl _) (.cells #[.int .i64 (M.T j), .string (M.N j), .string (M.I j), .string (M.O j), .bool (M.W j)] 98)
          have HW2 := Lib.hid (HQ.out.step hst)
          have HCf := Lib.hid (Cs.new wr [.int .i64 (M.T j), .string (M.N j), .string (M.I j), .string (M.O j), .bool (M.W j)] 98)
          have g0 := HW2.out.hd.cell (i := 0) rfl
          have g1 := HW2.out.hd.cell (i := 1) rfl
          have g2 := HW2.out.hd.cell (i := 2) rfl
          have g3 := HW2.out.hd.cell (i := 3) rfl
          have hbtl : wr.heap.size ≠ Bt := by have := HQ.out.sh.t.lt; omega
          have hbnl : wr.heap.size ≠ Bn := by have := HQ.out.sh.n.lt; omega
          have hw := hwrong_any (loZ Kd) (hiZ Kd) Bt Bn (k + j) (t2H F.T M.T k j) (n2H F.N M.N k j) (M.T j) (M.N j) _ HW2.out.sh (by omega) (loB Kd) (hiB' Kd) hn1
          clear hst
          cases hr : hwE (loZ Kd) (hiZ Kd) (t2H F.T M.T k j) (n2H F.N M.N k j) (M.T j) (M.N j) with
          | succ e =>
            rw [hr] at hw
            have HH := Lib.hid hw
            have he : wrE S K n Kd k ml F M = e + 1 := by unfold wrE; rw [HZ.out]; exact fz_at hjl HZM.out (md_bad hr)
            have HE := Lib.hid he
            have hq : ((((e + 1 : Nat) : Int)) != 0) = true := bne_iff_ne.2 (by omega)
            obtain ⟨x, hx⟩ : ∃ x : Int, x = ((e + 1 : Nat) : Int) := ⟨_, rfl⟩
            rw [← hx] at HH hq
            have HX := Lib.hid hx
            clear hr hw he hx
            go_wp2_with (go_at_call 101; refine HH.out.mono ?_; rintro e2 w2 ⟨rfl, ht2, _⟩)
            go_ret
            exact ⟨by rw [HE.out, ← HX.out]; rfl, HW2.out.bel HG.out ht2⟩
          | zero =>
            rw [hr] at hw
            have HH := Lib.hid hw
            have hgd := md_good (S := S) (K := K) (n := n) hr
            clear hr hw
            have hwf := wmethod_any T n S K (M.T j) (M.N j) (M.I j) (M.O j) (M.W j)
            cases hr2 : wmE S K n (M.I j) (M.O j) with
            | succ e =>
              rw [hr2] at hwf hgd
              have HF2 := Lib.hid hwf
              have he : wrE S K n Kd k ml F M = e + 1 := by unfold wrE; rw [HZ.out]; exact fz_at hjl HZM.out hgd
              have HE := Lib.hid he
              have hq : ((((e + 1 : Nat) : Int)) != 0) = true := bne_iff_ne.2 (by omega)
              obtain ⟨x, hx⟩ : ∃ x : Int, x = ((e + 1 : Nat) : Int) := ⟨_, rfl⟩
              rw [← hx] at HF2 hq
              have HX := Lib.hid hx
              clear hr2 hwf he hx hgd
              go_wp2_with (first
                | (go_at_call 103; refine (HF2.out _ (HT.out.below hW3.below) hn2 hn3).mono ?_; rintro e3 w3 ⟨rfl, hb3⟩)
                | (go_at_call 101; refine HH.out.mono ?_; rintro e2 w2 ⟨rfl, ht2, hs2⟩; have hW3 := HW2.out.tw HG.out ht2 (hs2 rfl); have hcf := cs_tw HCf.out ht2 hbtl hbnl; have y0 := hcf.cell (i := 0) rfl; have y1 := hcf.cell (i := 1) rfl; have y2 := hcf.cell (i := 2) rfl; have y3 := hcf.cell (i := 3) rfl; have y4 := hcf.cell (i := 4) rfl))
              go_ret
              exact ⟨by rw [HE.out, ← HX.out]; rfl, (hW3.step hb3).below⟩
            | zero =>
              rw [hr2] at hwf hgd
              have HF2 := Lib.hid hwf
              have HGD := Lib.hid hgd
              clear hr2 hwf hgd
              go_wp2_with (first
                | (go_at_call 103; refine (HF2.out _ (HT.out.below hW3.below) hn2 hn3).mono ?_; rintro e3 w3 ⟨rfl, hb3⟩)
                | (go_at_call 101; refine HH.out.mono ?_; rintro e2 w2 ⟨rfl, ht2, hs2⟩; have hW3 := HW2.out.tw HG.out ht2 (hs2 rfl); have hcf := cs_tw HCf.out ht2 hbtl hbnl; have y0 := hcf.cell (i := 0) rfl; have y1 := hcf.cell (i := 1) rfl; have y2 := hcf.cell (i := 2) rfl; have y3 := hcf.cell (i := 3) rfl; have y4 := hcf.cell (i := 4) rfl))
              go_roundw
              case rel => exact ⟨j + 1, by omega, by go_num, Lib.hid (fz_on HZM.out HGD.out), Lib.hid (by rw [← t2_next, ← n2_next]; exact hW3.step hb3)⟩
              case measure => simp [intOf]; omega
        · have hji : ¬ (j : Int) < (ml : Int) := by omega
          obtain rfl : j = ml := by omega
          have he : wrE S K n Kd k j F M = 0 := by unfold wrE; rw [HZ.out]; exact HZM.out
          have HE := Lib.hid he
          clear he
          go_wp2
          go_ret
          exact ⟨by rw [HE.out]; rfl, HQ.out.below⟩
end Go.Proofs.YtdogddliifbjnaaGreat.Ck
