/- Values: what the form says of a value that came in: it is a tree. -/
import Derived.Test.YtdogddliifbjnaaGreatMg53
import Derived.Test.YtdogddliifbjnaaGreatMg54
namespace Go.Proofs.YtdogddliifbjnaaGreat.Va
open Go.RowKit Cm
set_option linter.unusedVariables false
set_option linter.unusedSimpArgs false

def Va.tb : Va → Option Addr | .mk _ _ _ tb _ _ _ _ _ => tb
def Va.tc : Va → Nat | .mk _ _ _ _ tc _ _ _ _ => tc
def Va.io : Va → Option Addr | .mk _ _ _ _ _ _ io _ _ => io
def Va.ic : Va → Nat | .mk _ _ _ _ _ _ _ ic _ => ic
def Va.at5 (v : Va) : List Value := [.int .i64 v.k, .int .i64 v.n, .string v.s, .slice v.tb v.ts.length v.tc, .slice v.io v.is.length v.ic]
/-- A value in the world: the cells of all tags and items. -/
inductive VaIn (w : World) : Va → Prop
  | mk (k n : Int) (s : ByteArray) (tb : Option Addr) (tc : Nat) (ts : List Int) (io : Option Addr) (ic : Nat) (is : List Va)
      (hk : -9223372036854775808 ≤ k ∧ k ≤ 9223372036854775807) (hn : -9223372036854775808 ≤ n ∧ n ≤ 9223372036854775807) (hs : s.size ≤ 140737488355327) (htl : ts.length ≤ 140737488355327) (hil : is.length ≤ 140737488355327)
      (ht : In tb ts w)
      (hc : ∀ (i : Nat) (v : Va), is[i]? = some v → ∃ a, io = some a ∧ a.block < w.heap.size ∧ ∀ j u, v.at5[j]? = some u → w.cell? (a.add (i * 5 + j)) = some u)
      (hi : ∀ (i : Nat) (v : Va), is[i]? = some v → VaIn w v) : VaIn w (.mk k n s tb tc ts io ic is)
theorem va_below {w w' : World} {m : Nat} {v : Va} (h : VaIn w v) (hb : Below m w w') (hm : w.heap.size ≤ m) : VaIn w' v := by
  induction h with
  | mk k n s tb tc ts io ic is hk hn hs htl hil ht hc hi ih =>
    refine .mk k n s tb tc ts io ic is hk hn hs htl hil (ht.below hb hm) (fun i v hv => ?_) ih
    obtain ⟨a, h1, h2, h3⟩ := hc i v hv
    refine ⟨a, h1, Nat.lt_of_lt_of_le h2 hb.size, fun j u hu => ?_⟩
    rw [hb.cell (p := a.add (i * 5 + j)) (by rw [block_add]; omega)]; exact h3 j u hu
theorem va_tags {w : World} {k n : Int} {s : ByteArray} {tb : Option Addr} {tc : Nat} {ts : List Int} {io : Option Addr} {ic : Nat} {is : List Va} (h : VaIn w (.mk k n s tb tc ts io ic is)) : In tb ts w := by
  cases h; assumption
theorem va_room {w : World} {k n : Int} {s : ByteArray} {tb : Option Addr} {tc : Nat} {ts : List Int} {io : Option Addr} {ic : Nat} {is : List Va} (h : VaIn w (.mk k n s tb tc ts io ic is)) :
    (-9223372036854775808 ≤ k ∧ k ≤ 9223372036854775807) ∧ (-9223372036854775808 ≤ n ∧ n ≤ 9223372036854775807) ∧ s.size ≤ 140737488355327 ∧ ts.length ≤ 140737488355327 ∧ is.length ≤ 140737488355327 := by
  cases h; exact ⟨by assumption, by assumption, by assumption, by assumption, by assumption⟩
/-- An item, at its place taken apart. -/
theorem va_place {w : World} {k n : Int} {s : ByteArray} {tb : Option Addr} {tc i : Nat} {ts : List Int} {io : Option Addr} {ic : Nat} {is : List Va} {v : Va} (h : VaIn w (.mk k n s tb tc ts io ic is)) (hi : is[i]? = some v) :
    ∃ a Ab Ao As, io = some a ∧ a.add (i * 5) = ⟨Ab, Ao, As⟩ ∧ Ab < w.heap.size ∧ w.cell? ⟨Ab, Ao, As⟩ = some (.int .i64 v.k) ∧ w.cell? ⟨Ab, Ao + 1, none⟩ = some (.int .i64 v.n) ∧ w.cell? ⟨Ab, Ao + 2, none⟩ = some (.string v.s) ∧
      w.cell? ⟨Ab, Ao + 3, none⟩ = some (.slice v.tb v.ts.length v.tc) ∧ w.cell? ⟨Ab, Ao + 4, none⟩ = some (.slice v.io v.is.length v.ic) ∧ VaIn w v := by
  cases h with
  | mk _ _ _ _ _ _ _ _ _ hk hn hs htl hil ht hc hI =>
    obtain ⟨a, rfl, _, h3⟩ := hc i v hi
    obtain ⟨⟨Ab, Ao, As⟩, hA⟩ : ∃ A, a.add (i * 5) = A := ⟨_, rfl⟩
    have g : ∀ k, a.add (i * 5 + (k + 1)) = ⟨Ab, Ao + (k + 1), none⟩ := fun k => by rw [← Addr.add_add, hA]; simp [Addr.add]
    have c0 := h3 0 _ rfl
    rw [Nat.add_zero, hA] at c0
    exact ⟨a, Ab, Ao, As, rfl, hA, World.block_lt_of_cell? w _ c0, c0, (g 0) ▸ h3 1 _ rfl, (g 1) ▸ h3 2 _ rfl, (g 2) ▸ h3 3 _ rfl, (g 3) ▸ h3 4 _ rfl, hI i v hi⟩
theorem oks_of : ∀ {l : List Va}, (∀ (i : Nat) (v : Va), l[i]? = some v → okV v) → oksV l
  | [], _ => by unfold oksV; trivial
  | x :: l, h => by
    unfold oksV
    exact ⟨h 0 x rfl, oks_of fun i v hv => h (i + 1) v (by simpa using hv)⟩
theorem va_ok {w : World} {v : Va} (h : VaIn w v) : okV v := by
  induction h with
  | mk k n s tb tc ts io ic is hk hn hs htl hil ht hc hi ih =>
    unfold okV
    refine ⟨hn, fun t hm => ?_, oks_of ih⟩
    obtain ⟨i, hi⟩ := List.mem_iff_getElem?.1 hm
    exact (ht i t hi).2

theorem cellsInt : Tryz.prog.cellsOf 3 = 1 := by kernel_rfl
theorem cellsI64 : Tryz.prog.cellsOf 2 = 1 := by kernel_rfl
theorem cellsStr : Tryz.prog.cellsOf 9 = 1 := by kernel_rfl
theorem cellsIs : Tryz.prog.cellsOf 23 = 1 := by kernel_rfl
theorem cellsVs : Tryz.prog.cellsOf 24 = 1 := by kernel_rfl
theorem cellsVa : Tryz.prog.cellsOf 26 = 5 := by kernel_rfl
theorem bytesInt : Tryz.prog.bytesOf 3 = 8 := by kernel_rfl
theorem bytesVa : Tryz.prog.bytesOf 26 = 80 := by kernel_rfl
theorem valueFields : ∃ f0 f1 f2 f3 f4 : Field, Tryz.prog.underlying 26 = some (.struct #[f0, f1, f2, f3, f4]) ∧ f0.offset = 0 ∧ f1.offset = 1 ∧ f2.offset = 2 ∧ f3.offset = 3 ∧ f4.offset = 4 ∧
    f0.type = 3 ∧ f1.type = 2 ∧ f2.type = 9 ∧ f3.type = 23 ∧ f4.type = 24 :=
  ⟨_, _, _, _, _, Tryz.underlying26, rfl, rfl, rfl, rfl, rfl, rfl, rfl, rfl, rfl, rfl⟩
section
variable {H : Type} {enc : TypeId × Value → H} {W : World} {sp : Nat → Bool} {held : Bool} {base : Nat}
set_option maxRecDepth 100000 in
/-- A slice of numbers that came in. -/
theorem nums_open {n len cap : Nat} {o : Option Addr} {y : DataW H × List MemPlace} (h : DataW.trod enc Tryz.prog W base sp held n 23 [.slice o len cap] = some y) (hsz : ∀ n ∈ y.1.weights Tryz.prog 23, n ≤ reachBytes) :
    ∃ ts : List Int, ts.length = len ∧ In o ts W ∧ len ≤ 140737488355327 := by
  obtain ⟨hl, hby, he⟩ := elems_small Tryz.underlying23 cellsInt (by decide) h hsz
  rw [bytesInt] at hby
  have hr : reachBytes = 140737488351232 := rfl
  obtain ⟨q, hq⟩ := Go.Deep.choose_lt (α := Int) (n := len) (p := fun i t => (∃ a, o = some a ∧ a.block < W.heap.size ∧ W.cell? (a.add i) = some (.int .i64 t)) ∧ -9223372036854775808 ≤ t ∧ t ≤ 9223372036854775807) (fun i hi => by
    obtain ⟨a, cs, d, q, m, ho, hb, hc, _, ht, _⟩ := he i hi
    obtain ⟨k, e0, d0, w0⟩ := DataW.trod_int Tryz.underlying3 ht
    subst e0
    have := hc 0 _ rfl
    rw [Nat.mul_one, Nat.add_zero] at this
    exact ⟨k, ⟨a, ho, hb, this⟩, bounds_i64 w0⟩)
  exact ⟨(List.range len).map q, by simp, fun i t hi => by
    obtain ⟨hlt, rfl⟩ := range_get hi
    exact hq i hlt, by omega⟩
set_option maxRecDepth 100000 in
/-- A value that came in is a tree. -/
theorem value_open : ∀ (N : Nat) {n : Nat} {cs : List Value} {y : DataW H × List MemPlace}, SizeOf.sizeOf y.1 < N → DataW.trod enc Tryz.prog W base sp held n 26 cs = some y → (∀ n ∈ y.1.weights Tryz.prog 26, n ≤ reachBytes) → ∃ v : Va, cs = v.at5 ∧ VaIn W v := by
  intro N
  induction N with
  | zero => intro n cs y hN; omega
  | succ N ih =>
    intro n cs y hN h hsz
    obtain ⟨f0, f1, f2, f3, f4, hu, o0, o1, o2, o3, o4, t0, t1, t2, t3, t4⟩ := valueFields
    obtain ⟨xs, m, _, rfl, hl, hlen, hf⟩ := DataW.trod_struct hu h
    rw [cellsVa] at hl
    match xs, hlen, cs, hl with
    | [y0, y1, y2, y3, y4], _, [v0, v1, v2, v3, v4], _ =>
      have g0 := hf 0 f0 rfl
      have g1 := hf 1 f1 rfl
      have g2 := hf 2 f2 rfl
      have g3 := hf 3 f3 rfl
      have g4 := hf 4 f4 rfl
      simp [o0, t0, cellsInt] at g0
      simp [o1, t1, cellsI64] at g1
      simp [o2, t2, cellsStr] at g2
      simp [o3, t3, cellsIs] at g3
      simp [o4, t4, cellsVs] at g4
      obtain ⟨k, e0, d0, w0⟩ := DataW.trod_int Tryz.underlying3 g0
      obtain ⟨m1, e1, d1, w1⟩ := DataW.trod_int Tryz.underlying2 g1
      obtain ⟨s, e2, d2, w2⟩ := DataW.trod_string Tryz.underlying9 g2
      obtain ⟨tb, tl, tc, e3⟩ := slice_shape Tryz.underlying23 g3
      obtain ⟨io, il, ic, e4⟩ := slice_shape Tryz.underlying24 g4
      simp only [List.cons.injEq, and_true] at e0 e1 e2
      subst e0 e1 e2 e3 e4
      subst d0 d1 d2
      have hz : ∀ n, n = s.data.toList.length ∨ n ∈ y3.1.weights Tryz.prog 23 ∨ n ∈ y4.1.weights Tryz.prog 24 → n ≤ reachBytes := fun n hn => hsz n (by
        simp only [DataW.weights, hu, List.map_cons, List.map_nil, DataW.weightsEach, t0, t1, t2, t3, t4, List.mem_append, List.mem_cons, List.not_mem_nil, or_false, false_or]
        exact hn)
      have hsm : SizeOf.sizeOf y4.1 < SizeOf.sizeOf (DataW.agg [DataW.lit (Lit.int IntKind.i64 k), DataW.lit (Lit.int IntKind.i64 m1), DataW.lit (Lit.string s.data.toList), y3.1, y4.1] : DataW H) := by
        rw [DataW.agg.sizeOf_spec]
        have := sizeOf_each (d := y4.1) (l := [DataW.lit (Lit.int IntKind.i64 k), DataW.lit (Lit.int IntKind.i64 m1), DataW.lit (Lit.string s.data.toList), y3.1, y4.1]) (by simp)
        omega
      obtain ⟨ts, htl, hti, htb⟩ := nums_open g3 (fun n hn => hz n (.inr (.inl hn)))
      obtain ⟨hml, hby, he⟩ := elems_small Tryz.underlying24 cellsVa (by decide) g4 (fun n hn => hz n (.inr (.inr hn)))
      rw [bytesVa] at hby
      have hr : reachBytes = 140737488351232 := rfl
      obtain ⟨q, hq⟩ := Go.Deep.choose_lt (α := Va) (n := il) (p := fun i v => (∃ a, io = some a ∧ a.block < W.heap.size ∧ ∀ j u, v.at5[j]? = some u → W.cell? (a.add (i * 5 + j)) = some u) ∧ VaIn W v) (fun i hi => by
        obtain ⟨a, cs, d, q, m', ho, hb, hc, _, htr, hw, hso⟩ := he i hi
        obtain ⟨v, rfl, hin⟩ := ih (y := (d, q)) (by simp only [List.map_cons, List.map_nil] at hN; show SizeOf.sizeOf d < N; omega) htr hw
        exact ⟨v, ⟨a, ho, hb, hc⟩, hin⟩)
      subst htl
      refine ⟨.mk k m1 s tb tc ts io ic ((List.range il).map q), by simp [Va.at5, Va.k, Va.n, Va.s, Va.tb, Va.ts, Va.tc, Va.io, Va.is, Va.ic], .mk k m1 s tb tc ts io ic _ (bounds_i64 w0) (bounds_i64 w1) (reach_str (hz _ (.inl rfl))) htb (by simp; omega) hti (fun i v hi => ?_) (fun i v hi => ?_)⟩
      · obtain ⟨hlt, rfl⟩ := range_get hi
        exact (hq i hlt).1
      · obtain ⟨hlt, rfl⟩ := range_get hi
        exact (hq i hlt).2
end
end Go.Proofs.YtdogddliifbjnaaGreat.Va
