/- Schemas: each, at types, fields, methods and declarations: a list of what is made of each, in memory of its own. (By gen/each.py.) -/
import Derived.Lib.Walk
import Derived.Test.YtdogddliifbjnaaGreatMg05
import Derived.Test.YtdogddliifbjnaaGreatMg06
namespace Go.Proofs.YtdogddliifbjnaaGreat.Ck
open Go.RowKit Cm
open _root_.Go.Proofs.YtdogddliifbjnaaGreat.Nm
set_option linter.unusedVariables false
set_option linter.unusedSimpArgs false

/-- make, of structs. -/
theorem make_structs {t e : TypeId} {s b : Nat} (ht : Tryz.prog.underlying t = some (.slice e)) (hi : (Tryz.prog.info? e).map (fun i => (i.zero.isSome, i.size, i.bytes)) = some (true, s, b)) (n : Nat) (hn : n ≤ 1759218604441) (hb : b ≤ 80) :
    ∃ cs : Array Value, cs.size = n * s ∧ ∀ w : World, (Instr.makeSlice t (.int .i64 (n : Int)) (.int .i64 (n : Int))).run Tryz.prog w = .ok (.slice (some ⟨w.heap.size, 0, none⟩) n n) (w.alloc (.cells cs e)) := by
  obtain ⟨i, hi, he⟩ := Option.map_eq_some_iff.1 hi
  simp only [Prod.mk.injEq] at he
  obtain ⟨hz, hs, hby⟩ := he
  obtain ⟨z, hz⟩ := Option.isSome_iff_exists.1 hz
  refine ⟨madeCells z.cells (n * s), size_madeCells _ _, fun w => ?_⟩
  have h := run_make (P := Tryz.prog) w t e i z ht hi hz .i64 .i64 (n : Int) (n : Int) (by omega) (Int.le_refl _) (by rw [hby]; have : b * n ≤ 80 * n := Nat.mul_le_mul_right n hb; omega) (by omega)
  rw [Int.toNat_natCast, hs] at h
  exact h
theorem rw_ex {α : Type} {e : TypeId} {s B n g cap : Nat} {f : α → List Value} {U : Nat → α} {xs : List Value} {w : World} (h : Rw e s B (.slice (some ⟨g, 0, none⟩) n cap) n xs w) (hx : ∀ i, i < n → ∀ k v, (f (U i))[k]? = some v → xs[i * s + k]? = some v) : Ex s f (some ⟨g, 0, none⟩) n U w := fun i hi => by
  refine ⟨_, rfl, (Rw.lt1 h).2, fun k v hk => ?_⟩
  have hadd : (⟨g, 0, none⟩ : Addr).add (i * s + k) = ⟨g, i * s + k, none⟩ := by unfold Addr.add; split <;> simp_all
  rw [hadd]
  exact Rw.at h (hx i hi k v hk)
theorem ex_cut {α : Type} {s n g : Nat} {f : α → List Value} {U : Nat → α} {w : World} {F : Nat → Bool} (h : Ex s f (some ⟨g, 0, none⟩) n U w) (hF : F g = false) : Ex s f (some ⟨g, 0, none⟩) n U (cut F w) := fun i hi => by
  obtain ⟨a, e, h2, h3⟩ := h i hi
  obtain rfl := Option.some.inj e
  refine ⟨_, rfl, by rw [cut_size]; exact h2, fun k v hk => ?_⟩
  rw [← h3 k v hk]
  refine World.cell?_of_block ?_
  have hadd : ((⟨g, 0, none⟩ : Addr).add (i * s + k)).block = g := by unfold Addr.add; split <;> simp_all
  rw [hadd, cut_block, hF]; rfl
/-- Values laid one behind the other into a block. -/
def puts (g : Nat) : Nat → List Value → World → World
  | _, [], w => w
  | o, v :: vs, w => puts g (o + 1) vs (w.setCell ⟨g, o, none⟩ v)
def sets : List Value → Nat → List Value → List Value
  | xs, _, [] => xs
  | xs, o, v :: vs => sets (xs.set o v) (o + 1) vs
theorem sets_at : ∀ (vs xs : List Value) (o k : Nat), o + vs.length ≤ xs.length → (sets xs o vs)[k]? = if o ≤ k ∧ k < o + vs.length then vs[k - o]? else xs[k]?
  | [], xs, o, k => fun _ => by unfold sets; rw [if_neg (by simp only [List.length_nil]; omega)]
  | v :: vs, xs, o, k => fun h => by
    unfold sets
    simp only [List.length_cons] at h
    rw [sets_at vs (xs.set o v) (o + 1) k (by rw [List.length_set]; omega)]
    by_cases h1 : o + 1 ≤ k ∧ k < o + 1 + vs.length
    · rw [if_pos h1, if_pos (by simp only [List.length_cons]; omega), show k - o = (k - (o + 1)) + 1 by omega, List.getElem?_cons_succ]
    · rw [if_neg h1]
      by_cases h2 : o = k
      · subst h2
        rw [if_pos (by simp only [List.length_cons]; omega), List.getElem?_set_self (by omega), Nat.sub_self]; rfl
      · rw [if_neg (by simp only [List.length_cons]; omega), List.getElem?_set_ne h2]
theorem rw_puts {e : TypeId} {s B n g cap : Nat} : ∀ (vs xs : List Value) (o : Nat) (w : World), Rw e s B (.slice (some ⟨g, 0, none⟩) n cap) n xs w → Rw e s B (.slice (some ⟨g, 0, none⟩) n cap) n (sets xs o vs) (puts g o vs w)
  | [], xs, o, w => fun h => h
  | v :: vs, xs, o, w => fun h => rw_puts vs _ (o + 1) _ (h.put o v)
theorem puts_size {g : Nat} : ∀ (vs : List Value) (o : Nat) (w : World), (puts g o vs w).heap.size = w.heap.size
  | [], o, w => rfl
  | v :: vs, o, w => by unfold puts; rw [puts_size vs]; simp [World.setCell]
theorem puts_be {g : Nat} {F : Nat → Bool} {a : World} : ∀ (vs : List Value) (o : Nat) (w : World), (F g = true ∨ a.heap.size ≤ g) → Be F a w → Be F a (puts g o vs w)
  | [], o, w => fun _ h => h
  | v :: vs, o, w => fun hg h => puts_be vs (o + 1) _ hg (h.setCell hg v)
theorem puts_below {g m : Nat} {a : World} : ∀ (vs : List Value) (o : Nat) (w : World), m ≤ g → Below m a w → Below m a (puts g o vs w)
  | [], o, w => fun _ h => h
  | v :: vs, o, w => fun hg h => puts_below vs (o + 1) _ hg (h.trans ⟨rfl, rfl, rfl, by simp [World.setCell], fun k hk => Below.heap_setCell _ _ _ _ (show k ≠ g by omega)⟩)
/-- One more is laid. -/
theorem each_step {α : Type} {f : α → List Value} {s : Nat} (hs : ∀ a, (f a).length = s) {R : Nat → α → World → Prop} (hbl : ∀ i u w w', R i u w → Below w.heap.size w w' → R i u w') (hsb : ∀ i u w w', R i u w → Sub w w' → R i u w')
    {T : TypeId} {g n j : Nat} {xs : List Value} {U : Nat → α} {u : α} {wr w1 w2 : World} (hR : Rw T s g (.slice (some ⟨g, 0, none⟩) n n) n xs w2)
    (hrows : ∀ i, i < j → (∀ k v, (f (U i))[k]? = some v → xs[i * s + k]? = some v) ∧ R i (U i) (cut (lo (g + 1)) wr)) (hb : Below wr.heap.size wr w2) (hu : R j u (cut (lo w1.heap.size) w2)) (hg : g + 1 ≤ w1.heap.size) (hj : j < n) :
    ∃ (U' : Nat → α) (xs' : List Value), Rw T s g (.slice (some ⟨g, 0, none⟩) n n) n xs' (puts g (j * s) (f u) w2) ∧ ∀ i, i < j + 1 → (∀ k v, (f (U' i))[k]? = some v → xs'[i * s + k]? = some v) ∧ R i (U' i) (cut (lo (g + 1)) (puts g (j * s) (f u) w2)) := by
  have hn : (j + 1) * s ≤ n * s := Nat.mul_le_mul_right _ hj
  have hlen : j * s + (f u).length ≤ xs.length := by rw [hR.1, hs, ← Nat.succ_mul]; exact hn
  have hbe : Below (cut (lo (g + 1)) w2).heap.size (cut (lo (g + 1)) w2) (cut (lo (g + 1)) (puts g (j * s) (f u) w2)) := by
    rw [cut_size]; exact puts_be (f u) (j * s) w2 (.inl (lo_pos (by omega))) (Be.refl _ _)
  refine ⟨fun i => if i = j then u else U i, _, rw_puts (f u) xs (j * s) w2 hR, fun i hi => ?_⟩
  by_cases e : i = j
  · subst e
    show (∀ k v, (f (if i = i then u else U i))[k]? = some v → _) ∧ R i (if i = i then u else U i) _
    rw [if_pos rfl]
    refine ⟨fun k v hk => ?_, hbl _ _ _ _ (hsb _ _ _ _ hu (cut_sub w2 (fun k _ hk => by simp [lo] at hk ⊢; omega))) hbe⟩
    have hkl := (List.getElem?_eq_some_iff.1 hk).1
    rw [sets_at _ _ _ _ hlen, if_pos (by omega), show i * s + k - i * s = k by omega]; exact hk
  · simp only [if_neg e]
    have hij : i < j := by omega
    obtain ⟨h1, h2⟩ := hrows i hij
    refine ⟨fun k v hk => ?_, hbl _ _ _ _ (hbl _ _ _ _ h2 (by rw [cut_size]; exact cut_below hb)) hbe⟩
    have hkl := (List.getElem?_eq_some_iff.1 hk).1
    rw [hs] at hkl
    have : (i + 1) * s ≤ j * s := Nat.mul_le_mul_right _ hij
    rw [Nat.succ_mul] at this
    rw [sets_at _ _ _ _ hlen, if_neg (by omega)]
    exact h1 k v hk

set_option maxRecDepth 100000 in
set_option maxHeartbeats 2000000 in
theorem each_type (X : Nat → Ty) (R : Nat → Ty → World → Prop) (hbl : ∀ i u w w', R i u w → Below w.heap.size w w' → R i u w') (hsb : ∀ i u w w', R i u w → Sub w w' → R i u w') (o : Option Addr) (n c : Nat) (w : World) (hn : n ≤ 1759218604441)
    (hX : Ex 3 Ty.at3 o n X w)
    (hF : ∀ i, i < n → ∀ w', Below w.heap.size w w' → Calls Tryz.prog 69 #[.agg #[.int .i64 (X i).k, .string (X i).n, .slice (X i).o (X i).of.length (X i).c]] w' fun e w'' => ∃ u : Ty, e = .returned (.agg #[.int .i64 u.k, .string u.n, .slice u.o u.of.length u.c]) ∧ R i u (cut (lo w'.heap.size) w'') ∧ Below w'.heap.size w' w'') :
    Calls Tryz.prog 95 #[.slice o n c, .func (.func 69) #[] #[]] w fun e w' => ∃ o' c' U, e = .returned (.slice o' n c') ∧ Below w.heap.size w w' ∧ Ex 3 Ty.at3 o' n U (cut (lo w.heap.size) w') ∧ ∀ i, i < n → R i (U i) (cut (lo w.heap.size) w') := by
  cases n with
  | zero =>
    go_enter Tryz.func95, Tryz.ntmps95
    go_wp2
    go_ret
    exact ⟨none, 0, fun _ => default, rfl, Below.refl _ _, Ex.nil _ _ _ _ _, fun i hi => by omega⟩
  | succ m =>
    obtain ⟨n, hnm⟩ : ∃ n, n = m + 1 := ⟨_, rfl⟩
    rw [← hnm] at hn hX hF ⊢
    have hpos : 0 < n := by omega
    clear hnm m
    have hq : ((n : Int) == 0) = false := beq_eq_false_iff_ne.2 (by omega)
    have hn2 : n ≤ 9223372036854775807 := by omega
    obtain ⟨cs, hcs, hmk⟩ := make_structs (t := 46) (e := 48) (s := 3) (b := 48) Tryz.underlying46 (by kernel_rfl) n hn (by decide)
    have HR0 := Lib.hid (World.ownsRow_lit (e := 48) (size := 3) (base := w.heap.size) w cs n (Nat.le_refl _) (by unfold maxLen; omega) hcs)
    have HB0 := Lib.hid ((Below.refl w.heap.size w).alloc (Nat.le_refl _) (.cells cs 48))
    have HX := Lib.hid hX
    have HF := Lib.hid hF
    have Hbl := Lib.hid hbl
    have Hsb := Lib.hid hsb
    have HN := Lib.hid hn
    clear hX hF hbl hsb hn hcs
    go_enter Tryz.func95, Tryz.ntmps95
    go_wp2
    go_loopw [16] (fun i wr => ∃ j, j ≤ n ∧ i = .int .i64 (j : Nat) ∧ Hid (∃ (U : Nat → Ty) (xs : List Value), Rw 48 3 w.heap.size (.slice (some ⟨w.heap.size, 0, none⟩) n n) n xs wr ∧ ∀ i, i < j → (∀ k v, (Ty.at3 (U i))[k]? = some v → xs[i * 3 + k]? = some v) ∧ R i (U i) (cut (lo (w.heap.size + 1)) wr)) ∧ Hid (Below w.heap.size w wr)) (fun i _ => n - (intOf i).toNat)
    case atStart => exact ⟨0, by omega, rfl, Lib.hid ⟨fun _ => default, _, HR0.out, fun i hi => by omega⟩, HB0⟩
    case round =>
      obtain ⟨j, hj, rfl, HU, HB⟩ := hrel
      clear HR0 HB0
      have hsz := HB.out.size
      by_cases hjl : j < n
      · have hji : (j : Int) < (n : Int) := by omega
        have hxx := HX.out.below HB.out
        obtain ⟨a, Ab, Ao, As, rfl, hA, hAb, c0, c1, c2⟩ := ex_three (v0 := .int .i64 (X j).k) (v1 := .string (X j).n) (v2 := .slice (X j).o (X j).of.length (X j).c) hxx hjl rfl
        have hCx := Cs.new wr [.int .i64 (X j).k, .string (X j).n, .slice (X j).o (X j).of.length (X j).c] 48
        have hBx := (Below.refl wr.heap.size wr).alloc (Nat.le_refl _) (.cells #[.int .i64 (X j).k, .string (X j).n, .slice (X j).o (X j).of.length (X j).c] 48)
        have HBx := Lib.hid hBx
        have hlt := (Rw.lt1 HU.out.choose_spec.choose_spec.1).2
        have HLT := Lib.hid hlt
        obtain ⟨U, hU⟩ := HU.out
        obtain ⟨xs, hR, hrows⟩ := hU
        have hold : ∀ k, k < 3 → ∃ v, xs[j * 3 + k]? = some v := fun k hk => ⟨_, List.getElem?_eq_getElem (by rw [hR.1]; have : (j + 1) * 3 ≤ n * 3 := Nat.mul_le_mul_right _ hjl; omega)⟩
        have HOLD := Lib.hid hold
        have HRR := Lib.hid hR
        have HROWS := Lib.hid hrows
        clear hxx hCx hBx hlt hold hR hrows HU
        go_wp2_with (go_at_call 69; refine (HF.out j hjl _ (HB.out.trans (HBx.out.mono hsz))).mono ?_; rintro e w2 ⟨u, rfl, hru, hb2⟩; have hR2 := (HRR.out.below HBx.out).below hb2; have hf := hR2.fz; obtain ⟨y0, q0⟩ := HOLD.out 0 (by omega); obtain ⟨y1, q1⟩ := HOLD.out 1 (by omega); obtain ⟨y2, q2⟩ := HOLD.out 2 (by omega); have k0 := hR2.at q0; rw [Nat.add_zero] at k0; have k1 := hR2.at q1; have k2 := hR2.at q2; have f0 := hf (j * 3); have f1 := hf (j * 3 + 1); have f2 := hf (j * 3 + 2); have HR2 := Lib.hid hR2; have HRU := Lib.hid hru; have HB2 := Lib.hid hb2; clear hR2 hf hru hb2 q0 q1 q2 )
        go_roundw
        case rel =>
          obtain ⟨U', xs', r1, r2⟩ := each_step (f := Ty.at3) (fun _ => rfl) Hbl.out Hsb.out HR2.out HROWS.out (HBx.out.trans (HB2.out.mono HBx.out.size)) HRU.out (by simp; have := HLT.out; omega) hjl
          exact ⟨j + 1, by omega, by go_num, Lib.hid ⟨U', xs', r1, r2⟩, puts_below (Ty.at3 u) (j * 3) w2 (Nat.le_refl _) (HB.out.trans ((HBx.out.trans (HB2.out.mono HBx.out.size)).mono hsz))⟩
        case measure => simp [intOf]; omega
      · have hji : ¬ (j : Int) < (n : Int) := by omega
        obtain rfl : j = n := by omega
        obtain ⟨U, xs, hR, hrows⟩ := HU.out
        clear HU
        have HF1 := Lib.hid (ex_cut (F := lo w.heap.size) (rw_ex hR (fun i hi => (hrows i hi).1)) (lo_neg (Nat.le_refl _)))
        have HF2 := Lib.hid (fun i (hi : i < j) => Hsb.out _ _ _ _ (hrows i hi).2 (cut_sub (F := lo w.heap.size) wr (fun k _ hk => by simp [lo] at hk ⊢; omega)))
        clear hR hrows
        go_wp2
        go_ret
        exact ⟨_, ⟨_, rfl⟩, HB.out, U, HF1.out, HF2.out⟩

set_option maxRecDepth 100000 in
set_option maxHeartbeats 2000000 in
theorem each_field (X : Nat → Fz) (R : Nat → Fz → World → Prop) (hbl : ∀ i u w w', R i u w → Below w.heap.size w w' → R i u w') (hsb : ∀ i u w w', R i u w → Sub w w' → R i u w') (o : Option Addr) (n c : Nat) (w : World) (hn : n ≤ 1759218604441)
    (hX : Ex 5 Fz.at5 o n X w)
    (hF : ∀ i, i < n → ∀ w', Below w.heap.size w w' → Calls Tryz.prog 36 #[.agg #[.int .i64 (X i).T, .string (X i).N, .int .i64 (X i).Y.k, .string (X i).Y.n, .slice (X i).Y.o (X i).Y.of.length (X i).Y.c]] w' fun e w'' => ∃ u : Fz, e = .returned (.agg #[.int .i64 u.T, .string u.N, .int .i64 u.Y.k, .string u.Y.n, .slice u.Y.o u.Y.of.length u.Y.c]) ∧ R i u (cut (lo w'.heap.size) w'') ∧ Below w'.heap.size w' w'') :
    Calls Tryz.prog 34 #[.slice o n c, .func (.func 36) #[] #[]] w fun e w' => ∃ o' c' U, e = .returned (.slice o' n c') ∧ Below w.heap.size w w' ∧ Ex 5 Fz.at5 o' n U (cut (lo w.heap.size) w') ∧ ∀ i, i < n → R i (U i) (cut (lo w.heap.size) w') := by
  cases n with
  | zero =>
    go_enter Tryz.func34, Tryz.ntmps34
    go_wp2
    go_ret
    exact ⟨none, 0, fun _ => default, rfl, Below.refl _ _, Ex.nil _ _ _ _ _, fun i hi => by omega⟩
  | succ m =>
    obtain ⟨n, hnm⟩ : ∃ n, n = m + 1 := ⟨_, rfl⟩
    rw [← hnm] at hn hX hF ⊢
    have hpos : 0 < n := by omega
    clear hnm m
    have hq : ((n : Int) == 0) = false := beq_eq_false_iff_ne.2 (by omega)
    have hn2 : n ≤ 9223372036854775807 := by omega
    obtain ⟨cs, hcs, hmk⟩ := make_structs (t := 40) (e := 50) (s := 5) (b := 72) Tryz.underlying40 (by kernel_rfl) n hn (by decide)
    have HR0 := Lib.hid (World.ownsRow_lit (e := 50) (size := 5) (base := w.heap.size) w cs n (Nat.le_refl _) (by unfold maxLen; omega) hcs)
    have HB0 := Lib.hid ((Below.refl w.heap.size w).alloc (Nat.le_refl _) (.cells cs 50))
    have HX := Lib.hid hX
    have HF := Lib.hid hF
    have Hbl := Lib.hid hbl
    have Hsb := Lib.hid hsb
    have HN := Lib.hid hn
    clear hX hF hbl hsb hn hcs
    go_enter Tryz.func34, Tryz.ntmps34
    go_wp2
    go_loopw [16] (fun i wr => ∃ j, j ≤ n ∧ i = .int .i64 (j : Nat) ∧ Hid (∃ (U : Nat → Fz) (xs : List Value), Rw 50 5 w.heap.size (.slice (some ⟨w.heap.size, 0, none⟩) n n) n xs wr ∧ ∀ i, i < j → (∀ k v, (Fz.at5 (U i))[k]? = some v → xs[i * 5 + k]? = some v) ∧ R i (U i) (cut (lo (w.heap.size + 1)) wr)) ∧ Hid (Below w.heap.size w wr)) (fun i _ => n - (intOf i).toNat)
    case atStart => exact ⟨0, by omega, rfl, Lib.hid ⟨fun _ => default, _, HR0.out, fun i hi => by omega⟩, HB0⟩
    case round =>
      obtain ⟨j, hj, rfl, HU, HB⟩ := hrel
      clear HR0 HB0
      have hsz := HB.out.size
      by_cases hjl : j < n
      · have hji : (j : Int) < (n : Int) := by omega
        have hxx := HX.out.below HB.out
        obtain ⟨a, Ab, Ao, As, rfl, hA, hAb, c0, c1, c2, c3, c4⟩ := ex_five (v0 := .int .i64 (X j).T) (v1 := .string (X j).N) (v2 := .int .i64 (X j).Y.k) (v3 := .string (X j).Y.n) (v4 := .slice (X j).Y.o (X j).Y.of.length (X j).Y.c) hxx hjl rfl
        have hCx := Cs.new wr [.int .i64 (X j).T, .string (X j).N, .int .i64 (X j).Y.k, .string (X j).Y.n, .slice (X j).Y.o (X j).Y.of.length (X j).Y.c] 50
        have hBx := (Below.refl wr.heap.size wr).alloc (Nat.le_refl _) (.cells #[.int .i64 (X j).T, .string (X j).N, .int .i64 (X j).Y.k, .string (X j).Y.n, .slice (X j).Y.o (X j).Y.of.length (X j).Y.c] 50)
        have HBx := Lib.hid hBx
        have hlt := (Rw.lt1 HU.out.choose_spec.choose_spec.1).2
        have HLT := Lib.hid hlt
        obtain ⟨U, hU⟩ := HU.out
        obtain ⟨xs, hR, hrows⟩ := hU
        have hold : ∀ k, k < 5 → ∃ v, xs[j * 5 + k]? = some v := fun k hk => ⟨_, List.getElem?_eq_getElem (by rw [hR.1]; have : (j + 1) * 5 ≤ n * 5 := Nat.mul_le_mul_right _ hjl; omega)⟩
        have HOLD := Lib.hid hold
        have HRR := Lib.hid hR
        have HROWS := Lib.hid hrows
        clear hxx hCx hBx hlt hold hR hrows HU
        go_wp2_with (go_at_call 36; refine (HF.out j hjl _ (HB.out.trans (HBx.out.mono hsz))).mono ?_; rintro e w2 ⟨u, rfl, hru, hb2⟩; have hR2 := (HRR.out.below HBx.out).below hb2; have hf := hR2.fz; obtain ⟨y0, q0⟩ := HOLD.out 0 (by omega); obtain ⟨y1, q1⟩ := HOLD.out 1 (by omega); obtain ⟨y2, q2⟩ := HOLD.out 2 (by omega); obtain ⟨y3, q3⟩ := HOLD.out 3 (by omega); obtain ⟨y4, q4⟩ := HOLD.out 4 (by omega); have k0 := hR2.at q0; rw [Nat.add_zero] at k0; have k1 := hR2.at q1; have k2 := hR2.at q2; have k3 := hR2.at q3; have k4 := hR2.at q4; have f0 := hf (j * 5); have f1 := hf (j * 5 + 1); have f2 := hf (j * 5 + 2); have f3 := hf (j * 5 + 3); have f4 := hf (j * 5 + 4); have HR2 := Lib.hid hR2; have HRU := Lib.hid hru; have HB2 := Lib.hid hb2; clear hR2 hf hru hb2 q0 q1 q2 q3 q4)
        go_roundw
        case rel =>
          obtain ⟨U', xs', r1, r2⟩ := each_step (f := Fz.at5) (fun _ => rfl) Hbl.out Hsb.out HR2.out HROWS.out (HBx.out.trans (HB2.out.mono HBx.out.size)) HRU.out (by simp; have := HLT.out; omega) hjl
          exact ⟨j + 1, by omega, by go_num, Lib.hid ⟨U', xs', r1, r2⟩, puts_below (Fz.at5 u) (j * 5) w2 (Nat.le_refl _) (HB.out.trans ((HBx.out.trans (HB2.out.mono HBx.out.size)).mono hsz))⟩
        case measure => simp [intOf]; omega
      · have hji : ¬ (j : Int) < (n : Int) := by omega
        obtain rfl : j = n := by omega
        obtain ⟨U, xs, hR, hrows⟩ := HU.out
        clear HU
        have HF1 := Lib.hid (ex_cut (F := lo w.heap.size) (rw_ex hR (fun i hi => (hrows i hi).1)) (lo_neg (Nat.le_refl _)))
        have HF2 := Lib.hid (fun i (hi : i < j) => Hsb.out _ _ _ _ (hrows i hi).2 (cut_sub (F := lo w.heap.size) wr (fun k _ hk => by simp [lo] at hk ⊢; omega)))
        clear hR hrows
        go_wp2
        go_ret
        exact ⟨_, ⟨_, rfl⟩, HB.out, U, HF1.out, HF2.out⟩

set_option maxRecDepth 100000 in
set_option maxHeartbeats 2000000 in
theorem each_method (X : Nat → Mz) (R : Nat → Mz → World → Prop) (hbl : ∀ i u w w', R i u w → Below w.heap.size w w' → R i u w') (hsb : ∀ i u w w', R i u w → Sub w w' → R i u w') (o : Option Addr) (n c : Nat) (w : World) (hn : n ≤ 1759218604441)
    (hX : Ex 5 Mz.at5 o n X w)
    (hF : ∀ i, i < n → ∀ w', Below w.heap.size w w' → Calls Tryz.prog 57 #[.agg #[.int .i64 (X i).T, .string (X i).N, .string (X i).I, .string (X i).O, .bool (X i).W]] w' fun e w'' => ∃ u : Mz, e = .returned (.agg #[.int .i64 u.T, .string u.N, .string u.I, .string u.O, .bool u.W]) ∧ R i u (cut (lo w'.heap.size) w'') ∧ Below w'.heap.size w' w'') :
    Calls Tryz.prog 56 #[.slice o n c, .func (.func 57) #[] #[]] w fun e w' => ∃ o' c' U, e = .returned (.slice o' n c') ∧ Below w.heap.size w w' ∧ Ex 5 Mz.at5 o' n U (cut (lo w.heap.size) w') ∧ ∀ i, i < n → R i (U i) (cut (lo w.heap.size) w') := by
  cases n with
  | zero =>
    go_enter Tryz.func56, Tryz.ntmps56
    go_wp2
    go_ret
    exact ⟨none, 0, fun _ => default, rfl, Below.refl _ _, Ex.nil _ _ _ _ _, fun i hi => by omega⟩
  | succ m =>
    obtain ⟨n, hnm⟩ : ∃ n, n = m + 1 := ⟨_, rfl⟩
    rw [← hnm] at hn hX hF ⊢
    have hpos : 0 < n := by omega
    clear hnm m
    have hq : ((n : Int) == 0) = false := beq_eq_false_iff_ne.2 (by omega)
    have hn2 : n ≤ 9223372036854775807 := by omega
    obtain ⟨cs, hcs, hmk⟩ := make_structs (t := 41) (e := 98) (s := 5) (b := 64) Tryz.underlying41 (by kernel_rfl) n hn (by decide)
    have HR0 := Lib.hid (World.ownsRow_lit (e := 98) (size := 5) (base := w.heap.size) w cs n (Nat.le_refl _) (by unfold maxLen; omega) hcs)
    have HB0 := Lib.hid ((Below.refl w.heap.size w).alloc (Nat.le_refl _) (.cells cs 98))
    have HX := Lib.hid hX
    have HF := Lib.hid hF
    have Hbl := Lib.hid hbl
    have Hsb := Lib.hid hsb
    have HN := Lib.hid hn
    clear hX hF hbl hsb hn hcs
    go_enter Tryz.func56, Tryz.ntmps56
    go_wp2
    go_loopw [16] (fun i wr => ∃ j, j ≤ n ∧ i = .int .i64 (j : Nat) ∧ Hid (∃ (U : Nat → Mz) (xs : List Value), Rw 98 5 w.heap.size (.slice (some ⟨w.heap.size, 0, none⟩) n n) n xs wr ∧ ∀ i, i < j → (∀ k v, (Mz.at5 (U i))[k]? = some v → xs[i * 5 + k]? = some v) ∧ R i (U i) (cut (lo (w.heap.size + 1)) wr)) ∧ Hid (Below w.heap.size w wr)) (fun i _ => n - (intOf i).toNat)
    case atStart => exact ⟨0, by omega, rfl, Lib.hid ⟨fun _ => default, _, HR0.out, fun i hi => by omega⟩, HB0⟩
    case round =>
      obtain ⟨j, hj, rfl, HU, HB⟩ := hrel
      clear HR0 HB0
      have hsz := HB.out.size
      by_cases hjl : j < n
      · have hji : (j : Int) < (n : Int) := by omega
        have hxx := HX.out.below HB.out
        obtain ⟨a, Ab, Ao, As, rfl, hA, hAb, c0, c1, c2, c3, c4⟩ := ex_five (v0 := .int .i64 (X j).T) (v1 := .string (X j).N) (v2 := .string (X j).I) (v3 := .string (X j).O) (v4 := .bool (X j).W) hxx hjl rfl
        have hCx := Cs.new wr [.int .i64 (X j).T, .string (X j).N, .string (X j).I, .string (X j).O, .bool (X j).W] 98
        have hBx := (Below.refl wr.heap.size wr).alloc (Nat.le_refl _) (.cells #[.int .i64 (X j).T, .string (X j).N, .string (X j).I, .string (X j).O, .bool (X j).W] 98)
        have HBx := Lib.hid hBx
        have hlt := (Rw.lt1 HU.out.choose_spec.choose_spec.1).2
        have HLT := Lib.hid hlt
        obtain ⟨U, hU⟩ := HU.out
        obtain ⟨xs, hR, hrows⟩ := hU
        have hold : ∀ k, k < 5 → ∃ v, xs[j * 5 + k]? = some v := fun k hk => ⟨_, List.getElem?_eq_getElem (by rw [hR.1]; have : (j + 1) * 5 ≤ n * 5 := Nat.mul_le_mul_right _ hjl; omega)⟩
        have HOLD := Lib.hid hold
        have HRR := Lib.hid hR
        have HROWS := Lib.hid hrows
        clear hxx hCx hBx hlt hold hR hrows HU
        go_wp2_with (go_at_call 57; refine (HF.out j hjl _ (HB.out.trans (HBx.out.mono hsz))).mono ?_; rintro e w2 ⟨u, rfl, hru, hb2⟩; have hR2 := (HRR.out.below HBx.out).below hb2; have hf := hR2.fz; obtain ⟨y0, q0⟩ := HOLD.out 0 (by omega); obtain ⟨y1, q1⟩ := HOLD.out 1 (by omega); obtain ⟨y2, q2⟩ := HOLD.out 2 (by omega); obtain ⟨y3, q3⟩ := HOLD.out 3 (by omega); obtain ⟨y4, q4⟩ := HOLD.out 4 (by omega); have k0 := hR2.at q0; rw [Nat.add_zero] at k0; have k1 := hR2.at q1; have k2 := hR2.at q2; have k3 := hR2.at q3; have k4 := hR2.at q4; have f0 := hf (j * 5); have f1 := hf (j * 5 + 1); have f2 := hf (j * 5 + 2); have f3 := hf (j * 5 + 3); have f4 := hf (j * 5 + 4); have HR2 := Lib.hid hR2; have HRU := Lib.hid hru; have HB2 := Lib.hid hb2; clear hR2 hf hru hb2 q0 q1 q2 q3 q4)
        go_roundw
        case rel =>
          obtain ⟨U', xs', r1, r2⟩ := each_step (f := Mz.at5) (fun _ => rfl) Hbl.out Hsb.out HR2.out HROWS.out (HBx.out.trans (HB2.out.mono HBx.out.size)) HRU.out (by simp; have := HLT.out; omega) hjl
          exact ⟨j + 1, by omega, by go_num, Lib.hid ⟨U', xs', r1, r2⟩, puts_below (Mz.at5 u) (j * 5) w2 (Nat.le_refl _) (HB.out.trans ((HBx.out.trans (HB2.out.mono HBx.out.size)).mono hsz))⟩
        case measure => simp [intOf]; omega
      · have hji : ¬ (j : Int) < (n : Int) := by omega
        obtain rfl : j = n := by omega
        obtain ⟨U, xs, hR, hrows⟩ := HU.out
        clear HU
        have HF1 := Lib.hid (ex_cut (F := lo w.heap.size) (rw_ex hR (fun i hi => (hrows i hi).1)) (lo_neg (Nat.le_refl _)))
        have HF2 := Lib.hid (fun i (hi : i < j) => Hsb.out _ _ _ _ (hrows i hi).2 (cut_sub (F := lo w.heap.size) wr (fun k _ hk => by simp [lo] at hk ⊢; omega)))
        clear hR hrows
        go_wp2
        go_ret
        exact ⟨_, ⟨_, rfl⟩, HB.out, U, HF1.out, HF2.out⟩

set_option maxRecDepth 100000 in
set_option maxHeartbeats 2000000 in
theorem each_decl (X : Nat → Dz) (R : Nat → Dz → World → Prop) (hbl : ∀ i u w w', R i u w → Below w.heap.size w w' → R i u w') (hsb : ∀ i u w w', R i u w → Sub w w' → R i u w') (o : Option Addr) (n c : Nat) (w : World) (hn : n ≤ 1759218604441)
    (hX : Ex 5 Dz.at5 o n X w)
    (hF : ∀ i, i < n → ∀ w', Below w.heap.size w w' → Calls Tryz.prog 29 #[.agg #[.int .i64 (X i).K, .string (X i).S, .slice (X i).fo (X i).fl (X i).fc, .slice (X i).mo (X i).ml (X i).mc, .int .i64 (X i).A]] w' fun e w'' => ∃ u : Dz, e = .returned (.agg #[.int .i64 u.K, .string u.S, .slice u.fo u.fl u.fc, .slice u.mo u.ml u.mc, .int .i64 u.A]) ∧ R i u (cut (lo w'.heap.size) w'') ∧ Below w'.heap.size w' w'') :
    Calls Tryz.prog 28 #[.slice o n c, .func (.func 29) #[] #[]] w fun e w' => ∃ o' c' U, e = .returned (.slice o' n c') ∧ Below w.heap.size w w' ∧ Ex 5 Dz.at5 o' n U (cut (lo w.heap.size) w') ∧ ∀ i, i < n → R i (U i) (cut (lo w.heap.size) w') := by
  cases n with
  | zero =>
    go_enter Tryz.func28, Tryz.ntmps28
    go_wp2
    go_ret
    exact ⟨none, 0, fun _ => default, rfl, Below.refl _ _, Ex.nil _ _ _ _ _, fun i hi => by omega⟩
  | succ m =>
    obtain ⟨n, hnm⟩ : ∃ n, n = m + 1 := ⟨_, rfl⟩
    rw [← hnm] at hn hX hF ⊢
    have hpos : 0 < n := by omega
    clear hnm m
    have hq : ((n : Int) == 0) = false := beq_eq_false_iff_ne.2 (by omega)
    have hn2 : n ≤ 9223372036854775807 := by omega
    obtain ⟨cs, hcs, hmk⟩ := make_structs (t := 22) (e := 43) (s := 5) (b := 80) Tryz.underlying22 (by kernel_rfl) n hn (by decide)
    have HR0 := Lib.hid (World.ownsRow_lit (e := 43) (size := 5) (base := w.heap.size) w cs n (Nat.le_refl _) (by unfold maxLen; omega) hcs)
    have HB0 := Lib.hid ((Below.refl w.heap.size w).alloc (Nat.le_refl _) (.cells cs 43))
    have HX := Lib.hid hX
    have HF := Lib.hid hF
    have Hbl := Lib.hid hbl
    have Hsb := Lib.hid hsb
    have HN := Lib.hid hn
    clear hX hF hbl hsb hn hcs
    go_enter Tryz.func28, Tryz.ntmps28
    go_wp2
    go_loopw [16] (fun i wr => ∃ j, j ≤ n ∧ i = .int .i64 (j : Nat) ∧ Hid (∃ (U : Nat → Dz) (xs : List Value), Rw 43 5 w.heap.size (.slice (some ⟨w.heap.size, 0, none⟩) n n) n xs wr ∧ ∀ i, i < j → (∀ k v, (Dz.at5 (U i))[k]? = some v → xs[i * 5 + k]? = some v) ∧ R i (U i) (cut (lo (w.heap.size + 1)) wr)) ∧ Hid (Below w.heap.size w wr)) (fun i _ => n - (intOf i).toNat)
    case atStart => exact ⟨0, by omega, rfl, Lib.hid ⟨fun _ => default, _, HR0.out, fun i hi => by omega⟩, HB0⟩
    case round =>
      obtain ⟨j, hj, rfl, HU, HB⟩ := hrel
      clear HR0 HB0
      have hsz := HB.out.size
      by_cases hjl : j < n
      · have hji : (j : Int) < (n : Int) := by omega
        have hxx := HX.out.below HB.out
        obtain ⟨a, Ab, Ao, As, rfl, hA, hAb, c0, c1, c2, c3, c4⟩ := ex_five (v0 := .int .i64 (X j).K) (v1 := .string (X j).S) (v2 := .slice (X j).fo (X j).fl (X j).fc) (v3 := .slice (X j).mo (X j).ml (X j).mc) (v4 := .int .i64 (X j).A) hxx hjl rfl
        have hCx := Cs.new wr [.int .i64 (X j).K, .string (X j).S, .slice (X j).fo (X j).fl (X j).fc, .slice (X j).mo (X j).ml (X j).mc, .int .i64 (X j).A] 43
        have hBx := (Below.refl wr.heap.size wr).alloc (Nat.le_refl _) (.cells #[.int .i64 (X j).K, .string (X j).S, .slice (X j).fo (X j).fl (X j).fc, .slice (X j).mo (X j).ml (X j).mc, .int .i64 (X j).A] 43)
        have HBx := Lib.hid hBx
        have hlt := (Rw.lt1 HU.out.choose_spec.choose_spec.1).2
        have HLT := Lib.hid hlt
        obtain ⟨U, hU⟩ := HU.out
        obtain ⟨xs, hR, hrows⟩ := hU
        have hold : ∀ k, k < 5 → ∃ v, xs[j * 5 + k]? = some v := fun k hk => ⟨_, List.getElem?_eq_getElem (by rw [hR.1]; have : (j + 1) * 5 ≤ n * 5 := Nat.mul_le_mul_right _ hjl; omega)⟩
        have HOLD := Lib.hid hold
        have HRR := Lib.hid hR
        have HROWS := Lib.hid hrows
        clear hxx hCx hBx hlt hold hR hrows HU
        go_wp2_with (go_at_call 29; refine (HF.out j hjl _ (HB.out.trans (HBx.out.mono hsz))).mono ?_; rintro e w2 ⟨u, rfl, hru, hb2⟩; have hR2 := (HRR.out.below HBx.out).below hb2; have hf := hR2.fz; obtain ⟨y0, q0⟩ := HOLD.out 0 (by omega); obtain ⟨y1, q1⟩ := HOLD.out 1 (by omega); obtain ⟨y2, q2⟩ := HOLD.out 2 (by omega); obtain ⟨y3, q3⟩ := HOLD.out 3 (by omega); obtain ⟨y4, q4⟩ := HOLD.out 4 (by omega); have k0 := hR2.at q0; rw [Nat.add_zero] at k0; have k1 := hR2.at q1; have k2 := hR2.at q2; have k3 := hR2.at q3; have k4 := hR2.at q4; have f0 := hf (j * 5); have f1 := hf (j * 5 + 1); have f2 := hf (j * 5 + 2); have f3 := hf (j * 5 + 3); have f4 := hf (j * 5 + 4); have HR2 := Lib.hid hR2; have HRU := Lib.hid hru; have HB2 := Lib.hid hb2; clear hR2 hf hru hb2 q0 q1 q2 q3 q4)
        go_roundw
        case rel =>
          obtain ⟨U', xs', r1, r2⟩ := each_step (f := Dz.at5) (fun _ => rfl) Hbl.out Hsb.out HR2.out HROWS.out (HBx.out.trans (HB2.out.mono HBx.out.size)) HRU.out (by simp; have := HLT.out; omega) hjl
          exact ⟨j + 1, by omega, by go_num, Lib.hid ⟨U', xs', r1, r2⟩, puts_below (Dz.at5 u) (j * 5) w2 (Nat.le_refl _) (HB.out.trans ((HBx.out.trans (HB2.out.mono HBx.out.size)).mono hsz))⟩
        case measure => simp [intOf]; omega
      · have hji : ¬ (j : Int) < (n : Int) := by omega
        obtain rfl : j = n := by omega
        obtain ⟨U, xs, hR, hrows⟩ := HU.out
        clear HU
        have HF1 := Lib.hid (ex_cut (F := lo w.heap.size) (rw_ex hR (fun i hi => (hrows i hi).1)) (lo_neg (Nat.le_refl _)))
        have HF2 := Lib.hid (fun i (hi : i < j) => Hsb.out _ _ _ _ (hrows i hi).2 (cut_sub (F := lo w.heap.size) wr (fun k _ hk => by simp [lo] at hk ⊢; omega)))
        clear hR hrows
        go_wp2
        go_ret
        exact ⟨_, ⟨_, rfl⟩, HB.out, U, HF1.out, HF2.out⟩

end Go.Proofs.YtdogddliifbjnaaGreat.Ck
