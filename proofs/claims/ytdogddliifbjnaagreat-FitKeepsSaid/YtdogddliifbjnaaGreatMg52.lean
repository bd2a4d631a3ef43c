/- fit: which values are of a type; what is of a type of a schema is so in each that takes its place. -/
import Derived.Test.YtdogddliifbjnaaGreatMg09
import Derived.Test.YtdogddliifbjnaaGreatMg15
import Derived.Test.YtdogddliifbjnaaGreatMg50
import Derived.Test.YtdogddliifbjnaaGreatMg51
namespace Go.Proofs.YtdogddliifbjnaaGreat.Ck
open Go.RowKit Cm
open _root_.Go.Proofs.YtdogddliifbjnaaGreat.Nm
set_option linter.unusedVariables false
set_option linter.unusedSimpArgs false

/-- A type, the TOpts around it taken away. -/
inductive CoreR : Sp → Sp → Prop
  | stop (s : Sp) (h : ¬ (s.k = 9 ∧ s.of.length = 1)) : CoreR s s
  | step (s x c : Sp) (h9 : s.k = 9) (h1 : s.of = [x]) (hx : CoreR x c) : CoreR s c
theorem core_fun {s c d : Sp} (h : CoreR s c) (k : CoreR s d) : c = d := by
  induction h with
  | stop s h =>
    cases k with
    | stop _ _ => rfl
    | step _ x _ h9 h1 _ => exact absurd ⟨h9, by rw [h1]; rfl⟩ h
  | step s x c h9 h1 hx ih =>
    cases k with
    | stop _ h => exact absurd ⟨h9, by rw [h1]; rfl⟩ h
    | step _ y _ _ g1 hy =>
      rw [h1] at g1
      obtain rfl : x = y := by simpa using g1
      exact ih hy
/-- Items by tags, each of its row's type. -/
def ItemsP (P : Sp → Va.Va → Prop) (rows : List (Int × Sp)) (v : Va.Va) : Prop := ∀ (i : Nat) (t : Int) (x : Va.Va), v.ts[i]? = some t → v.is[i]? = some x → ∃ r ∈ rows, r.1 = t ∧ P r.2 x
def FullP (rows : List (Int × Sp)) (v : Va.Va) : Prop := ∀ r ∈ rows, r.2.k ≠ 9 → r.1 ∈ v.ts
def NameP (P : Sp → Va.Va → Prop) (L : Sc) (s : ByteArray) (v : Va.Va) : Prop :=
  (L.kd s = 1 ∧ v.k = 9 ∧ ItemsP P (L.rows s) v ∧ FullP (L.rows s) v) ∨ (L.kd s = 2 ∧ v.k = 10 ∧ ItemsP P (L.rows s) v) ∨ (L.kd s = 3 ∧ v.k = 6 ∧ ∃ r ∈ L.rows s, r.1 = v.n)
/-- Is a value, not deeper than n, of a type? -/
def fitN (L : Sc) : Nat → Sp → Va.Va → Prop
  | 0, _, _ => False
  | n + 1, s, v => ∃ c, CoreR s c ∧ ((1 ≤ c.k ∧ c.k ≤ 5 ∧ v.k = c.k) ∨ (c.k = 6 ∧ NameP (fitN L n) L c.n v) ∨
      (c.k = 7 ∧ c.of.length = 1 ∧ v.k = 7 ∧ ∀ (i : Nat) (x : Va.Va) (t : Sp), v.is[i]? = some x → c.of[i % 1]? = some t → fitN L n t x) ∨
      (c.k = 8 ∧ c.of.length = 2 ∧ v.k = 8 ∧ ∀ (i : Nat) (x : Va.Va) (t : Sp), v.is[i]? = some x → c.of[i % 2]? = some t → fitN L n t x))
/-- What Check and Gone have told. -/
structure Takes (L M : Sc) : Prop where
  all : ∀ i, i < L.n → M.kd (L.S i) = L.K i ∧ M.kd (L.S i) ≠ 0 ∧ QD L M (L.K i) (L.S i)
  none : ∀ i, i < L.n → ∀ r ∈ L.rows (L.S i), ∃ r' ∈ M.rows (L.S i), r'.1 = r.1
  ok : M.ok
theorem rows_nodup {M : Sc} (h : M.ok) (s : ByteArray) : ((M.rows s).map Prod.fst).Nodup := by
  unfold Sc.rows
  cases hf : fiS M.S s M.n with
  | none => simp
  | some i => exact srt_nodup (h.tags i (fiS_some hf).1)
theorem row_one {l : List (Int × Sp)} (h : (l.map Prod.fst).Nodup) {a b : Int × Sp} (ha : a ∈ l) (hb : b ∈ l) (e : a.1 = b.1) : a = b := by
  obtain ⟨i, hi, rfl⟩ := List.getElem_of_mem ha
  obtain ⟨j, hj, rfl⟩ := List.getElem_of_mem hb
  have h3 := (List.nodup_iff_pairwise_ne.1 h)
  rw [List.pairwise_iff_getElem] at h3
  rcases Nat.lt_trichotomy i j with k | k | k
  · exact absurd e (by have := h3 i j (by simpa using hi) (by simpa using hj) k; rwa [List.getElem_map, List.getElem_map] at this)
  · subst k; rfl
  · exact absurd e.symm (by have := h3 j i (by simpa using hj) (by simpa using hi) k; rwa [List.getElem_map, List.getElem_map] at this)
theorem kd_some {L : Sc} {s : ByteArray} (h : L.kd s ≠ 0) : ∃ i, i < L.n ∧ L.S i = s ∧ L.kd s = L.K i := by
  unfold Sc.kd knS at h ⊢
  cases hf : fiS L.S s L.n with
  | none => rw [hf] at h; exact absurd rfl h
  | some i => exact ⟨i, (fiS_some hf).1, (fiS_some hf).2, rfl⟩
theorem fit_takes {L M : Sc} (h : Takes L M) : ∀ (n : Nat) (s : Sp) (v : Va.Va), fitN L n s v → fitN M n s v
  | 0, s, v => fun h => h.elim
  | n + 1, s, v => fun hf => by
    have ih := fit_takes h n
    obtain ⟨c, hc, hf⟩ := hf
    refine ⟨c, hc, ?_⟩
    have hitems : ∀ i, i < L.n → ItemsP (fitN L n) (L.rows (L.S i)) v → ItemsP (fitN M n) (M.rows (L.S i)) v := fun i hi hI j t x hj hx => by
      obtain ⟨r, hr, e1, e2⟩ := hI j t x hj hx
      obtain ⟨r', hr', e3⟩ := h.none i hi r hr
      rcases (h.all i hi).2.2.1 r hr with ⟨r2, g1, g2, g3⟩ | ⟨g1, _⟩
      · exact ⟨r2, g1, g2.trans e1, by rw [g3]; exact ih _ _ e2⟩
      · exact absurd e3 (g1 r' hr')
    rcases hf with hf | ⟨h6, hN⟩ | ⟨h7, h71, h72, h73⟩ | ⟨h8, h81, h82, h83⟩
    · exact .inl hf
    · refine .inr (.inl ⟨h6, ?_⟩)
      rcases hN with ⟨k1, kv, kI, kF⟩ | ⟨k1, kv, kI⟩ | ⟨k1, kv, r, kr, ke⟩
      · obtain ⟨i, hi, hs, hk⟩ := kd_some (L := L) (s := c.n) (by omega)
        have hM := h.all i hi
        rw [hs] at hM
        have hI := hitems i hi (by rw [hs]; exact kI)
        rw [hs] at hI
        refine .inl ⟨by omega, kv, hI, fun r hr hr9 => ?_⟩
        rcases hM.2.2.2 (by omega) r hr with ⟨r', g1, g2⟩ | g
        · rcases hM.2.2.1 r' g1 with ⟨r2, q1, q2, q3⟩ | ⟨q1, _⟩
          · obtain rfl := row_one (rows_nodup h.ok c.n) q1 hr (q2.trans g2)
            rw [← g2]
            exact kF r' g1 (by rw [← q3]; exact hr9)
          · exact absurd g2.symm (q1 r hr)
        · exact absurd g hr9
      · obtain ⟨i, hi, hs, hk⟩ := kd_some (L := L) (s := c.n) (by omega)
        have hM := h.all i hi
        rw [hs] at hM
        have hI := hitems i hi (by rw [hs]; exact kI)
        rw [hs] at hI
        exact .inr (.inl ⟨by omega, kv, hI⟩)
      · obtain ⟨i, hi, hs, hk⟩ := kd_some (L := L) (s := c.n) (by omega)
        have hM := h.all i hi
        rw [hs] at hM
        have hn := h.none i hi r (by rw [hs]; exact kr)
        rw [hs] at hn
        obtain ⟨r', g1, g2⟩ := hn
        exact .inr (.inr ⟨by omega, kv, r', g1, g2.trans ke⟩)
    · exact .inr (.inr (.inl ⟨h7, h71, h72, fun i x t hx ht => ih _ _ (h73 i x t hx ht)⟩))
    · exact .inr (.inr (.inr ⟨h8, h81, h82, fun i x t hx ht => ih _ _ (h83 i x t hx ht)⟩))
end Go.Proofs.YtdogddliifbjnaaGreat.Ck
/- fit: a type without the TOpts around it; the questions that look at a value's kind alone. -/
namespace Go.Proofs.YtdogddliifbjnaaGreat.Ck
open Go.RowKit Cm
open _root_.Go.Proofs.YtdogddliifbjnaaGreat.Nm
set_option linter.unusedVariables false
set_option linter.unusedSimpArgs false

set_option maxRecDepth 100000 in
set_option maxHeartbeats 1000000 in
theorem wrong_any (k n : Int) (s : ByteArray) (tb io : Option Addr) (tl tc il ic : Nat) (w : World) :
    Calls Tryz.prog 48 #[.agg #[.int .i64 k, .int .i64 n, .string s, .slice tb tl tc, .slice io il ic]] w fun e w' => e = .returned (.int .i64 8) ∧ Below w.heap.size w w' := by
  have HB := Lib.hid ((Below.refl w.heap.size w).alloc (Nat.le_refl _) (.cells #[.int .i64 k, .int .i64 n, .string s, .slice tb tl tc, .slice io il ic] 26))
  go_enter Tryz.func48, Tryz.ntmps48
  go_wp2
  go_ret
  exact ⟨rfl, HB.out⟩
/-- An error's number that is none just where P. -/
def IfP (P : Prop) (w : World) (e : Ending) (w' : World) : Prop := ∃ er : Int, e = .returned (.int .i64 er) ∧ (er = 0 ↔ P) ∧ Below w.heap.size w w'
set_option maxRecDepth 100000 in
set_option maxHeartbeats 1000000 in
theorem asks_any (x k n : Int) (s : ByteArray) (tb io : Option Addr) (tl tc il ic : Nat) (w : World) :
    Calls Tryz.prog 44 #[.int .i64 x, .agg #[.int .i64 k, .int .i64 n, .string s, .slice tb tl tc, .slice io il ic]] w fun e w' => IfP (k = x) w e w' := by
  have HB := Lib.hid ((Below.refl w.heap.size w).alloc (Nat.le_refl _) (.cells #[.int .i64 k, .int .i64 n, .string s, .slice tb tl tc, .slice io il ic] 26))
  have hC := Cs.new w [.int .i64 k, .int .i64 n, .string s, .slice tb tl tc, .slice io il ic] 26
  have c0 := hC.cell (i := 0) rfl
  clear hC
  by_cases hk : k = x
  · subst hk
    go_enter Tryz.func44, Tryz.ntmps44
    go_wp2
    go_ret
    exact ⟨0, rfl, by simp, HB.out⟩
  · have hk2 : (k != x) = true := by simpa using hk
    go_enter Tryz.func44, Tryz.ntmps44
    go_wp2
    go_ret
    exact ⟨4, rfl, ⟨fun h => by omega, fun h => absurd h hk⟩, HB.out⟩
def WoP (Y : Ty) (N : Nat) (w : World) (e : Ending) (w' : World) : Prop :=
  ∃ Z : Ty, e = .returned (.agg #[.int .i64 Z.k, .string Z.n, .slice Z.o Z.of.length Z.c]) ∧ CoreR Y.sp Z.sp ∧ (∀ w1, TyIn w1 Y → TyIn w1 Z) ∧ Th N Z.sp ∧ Below w.heap.size w w'
set_option maxRecDepth 100000 in
set_option maxHeartbeats 4000000 in
theorem wout_any (Y : Ty) (N : Nat) (w : World) (hY : TyIn w Y) (ht : Th N Y.sp) (hN : N ≤ 131072) :
    Calls Tryz.prog 43 #[.agg #[.int .i64 Y.k, .string Y.n, .slice Y.o Y.of.length Y.c]] w fun e w' => WoP Y N w e w' := by
  have hB0 := ((Below.refl w.heap.size w).alloc (Nat.le_refl _) (.cells #[.int .i64 Y.k, .string Y.n, .slice Y.o Y.of.length Y.c] 48)).alloc (by simp) (.cells #[.int .i64 0, .string ⟨#[]⟩, .slice none 0 0] 48)
  have HC0 := Lib.hid ((Cs.new w [.int .i64 Y.k, .string Y.n, .slice Y.o Y.of.length Y.c] 48).alloc (.cells #[.int .i64 0, .string ⟨#[]⟩, .slice none 0 0] 48))
  have hD0 := Cs.new (w.alloc (.cells #[.int .i64 Y.k, .string Y.n, .slice Y.o Y.of.length Y.c] 48)) [.int .i64 0, .string ⟨#[]⟩, .slice none 0 0] 48
  rw [show (w.alloc (.cells #[.int .i64 Y.k, .string Y.n, .slice Y.o Y.of.length Y.c] 48)).heap.size = w.heap.size + 1 by simp] at hD0
  have HD0 := Lib.hid hD0
  have HB0 := Lib.hid hB0
  have HY := Lib.hid hY
  have HT := Lib.hid ht
  have hdp := th_dp N Y ht
  clear hY ht hB0 hD0
  go_enter Tryz.func43, Tryz.ntmps43
  go_wp2
  go_loopw [3] (fun i wr => ∃ (j : Nat) (Z : Ty), i = .int .i64 (j : Nat) ∧ j + dpT Z ≤ N ∧ Hid (∀ c, CoreR Z.sp c → CoreR Y.sp c) ∧ Hid (∀ w1, TyIn w1 Y → TyIn w1 Z) ∧ Hid (Th N Z.sp) ∧ Hid (Cs w.heap.size [.int .i64 Z.k, .string Z.n, .slice Z.o Z.of.length Z.c] wr) ∧ Hid (Cs (w.heap.size + 1) [.int .i64 0, .string ⟨#[]⟩, .slice none 0 0] wr) ∧ Hid (Below w.heap.size w wr)) (fun i _ => N - (intOf i).toNat)
  case atStart => exact ⟨0, Y, rfl, by omega, Lib.hid (fun c h => h), Lib.hid (fun w1 h => h), HT, HC0, HD0, HB0⟩
  case round =>
    obtain ⟨j, Z, rfl, hjZ, HR, HZ, HH, HC, HD, HB⟩ := hrel
    clear HC0 HD0 HB0
    have hpos := dp_pos Z
    have hj : (j : Int) < 131072 := by omega
    have c0 := HC.out.cell (i := 0) rfl
    have c1 := HC.out.cell (i := 1) rfl
    have c2 := HC.out.cell (i := 2) rfl
    by_cases hcore : Z.k = 9 ∧ Z.of.length = 1
    · obtain ⟨hk, hl⟩ := hcore
      obtain ⟨k, n, o, c, of⟩ := Z
      obtain rfl : k = 9 := hk
      obtain ⟨x, rfl⟩ : ∃ x, of = [x] := List.length_eq_one_iff.1 hl
      obtain ⟨a, Ab, Ao, As, rfl, hA, hAb, x0, x1, x2, hxi⟩ := ty_place (HZ.out w HY.out) (i := 0) rfl
      have hA0 : a.add 0 = ⟨Ab, Ao, As⟩ := by simpa using hA
      have y0 : wr.cell? ⟨Ab, Ao, As⟩ = some (.int .i64 x.k) := by rw [HB.out.cell (p := ⟨Ab, Ao, As⟩) hAb]; exact x0
      have y1 : wr.cell? ⟨Ab, Ao + 1, none⟩ = some (.string x.n) := by rw [HB.out.cell (p := ⟨Ab, Ao + 1, none⟩) hAb]; exact x1
      have y2 : wr.cell? ⟨Ab, Ao + 2, none⟩ = some (.slice x.o x.of.length x.c) := by rw [HB.out.cell (p := ⟨Ab, Ao + 2, none⟩) hAb]; exact x2
      clear c0 c1 c2
      have c0 : wr.cell? ⟨w.heap.size, 0, none⟩ = some (.int .i64 9) := HC.out.cell (i := 0) rfl
      have c1 : wr.cell? ⟨w.heap.size, 1, none⟩ = some (.string n) := HC.out.cell (i := 1) rfl
      have c2 : wr.cell? ⟨w.heap.size, 2, none⟩ = some (.slice (some a) 1 c) := HC.out.cell (i := 2) rfl
      have f0 := HC.out.frozen (i := 0) rfl
      have f1 := HC.out.frozen (i := 1) rfl
      have f2 := HC.out.frozen (i := 2) rfl
      have hne : w.heap.size + 1 ≠ w.heap.size := by omega
      have HC5 := Lib.hid (((HC.out.put (i := 0) (.int .i64 x.k)).put (i := 1) (.string x.n)).put (i := 2) (.slice x.o x.of.length x.c))
      have HD5 := Lib.hid (((HD.out.other (i := 0) (.int .i64 x.k) hne).other (i := 1) (.string x.n) hne).other (i := 2) (.slice x.o x.of.length x.c) hne)
      have HB5 := Lib.hid (((HB.out.setCell (p := ⟨w.heap.size, 0, none⟩) (Nat.le_refl _) (.int .i64 x.k)).setCell (p := ⟨w.heap.size, 1, none⟩) (Nat.le_refl _) (.string x.n)).setCell (p := ⟨w.heap.size, 2, none⟩) (Nat.le_refl _) (.slice x.o x.of.length x.c))
      have HX : Hid (∀ w1, TyIn w1 Y → TyIn w1 x) := Lib.hid (fun w1 h => by obtain ⟨_, _, _, _, _, _, _, _, _, _, hx⟩ := ty_place (HZ.out w1 h) (i := 0) rfl; exact hx)
      clear hxi
      have hdx : dpT x + 1 ≤ dpT (.mk 9 n (some a) c [x]) := by simp only [dpT, dpsT]; omega
      have HTX : Hid (Th N x.sp) := Lib.hid (by
        cases N with
        | zero => exact HH.out.elim
        | succ N => exact (th_child HH.out (i := 0) rfl).more (Nat.le_succ _))
      have HRX : Hid (∀ c, CoreR x.sp c → CoreR Y.sp c) := Lib.hid (fun d hd => HR.out d (.step _ x.sp d (by rw [sp_mk]; rfl) (by rw [sp_mk]; rfl) hd))
      clear x0 x1 x2 hA hne
      go_wp2
      exact ⟨⟨j + 1, x, by go_num, by omega, HRX, HX, HTX, HC5, HD5, HB5⟩, by simp [intOf]; omega⟩
    · have HS : Hid (CoreR Y.sp Z.sp) := Lib.hid (HR.out _ (.stop _ (by rw [sp_k, sp_of, List.length_map]; exact hcore)))
      have f0 := HD.out.frozen (i := 0) rfl
      have f1 := HD.out.frozen (i := 1) rfl
      have f2 := HD.out.frozen (i := 2) rfl
      have e0 := HD.out.cell (i := 0) rfl
      have e1 := HD.out.cell (i := 1) rfl
      have e2 := HD.out.cell (i := 2) rfl
      have hfin : ∀ W : World, W = (((wr.setCell ⟨w.heap.size + 1, 0, none⟩ (.int .i64 Z.k)).setCell ⟨w.heap.size + 1, 1, none⟩ (.string Z.n)).setCell ⟨w.heap.size + 1, 2, none⟩ (.slice Z.o Z.of.length Z.c)) → Cs (w.heap.size + 1) [.int .i64 Z.k, .string Z.n, .slice Z.o Z.of.length Z.c] W ∧ Below w.heap.size w W := fun W hW => by
        rw [hW]
        exact ⟨((HD.out.put (i := 0) (.int .i64 Z.k)).put (i := 1) (.string Z.n)).put (i := 2) (.slice Z.o Z.of.length Z.c), ((HB.out.setCell (p := ⟨w.heap.size + 1, 0, none⟩) (Nat.le_succ _) (.int .i64 Z.k)).setCell (p := ⟨w.heap.size + 1, 1, none⟩) (Nat.le_succ _) (.string Z.n)).setCell (p := ⟨w.heap.size + 1, 2, none⟩) (Nat.le_succ _) (.slice Z.o Z.of.length Z.c)⟩
      have HF := Lib.hid hfin
      clear hfin
      by_cases hk : Z.k = 9
      · have hl : ¬ Z.of.length = 1 := fun h => hcore ⟨hk, h⟩
        have hl2 : ((Z.of.length : Int) != 1) = true := by simpa using (by omega : ¬ (Z.of.length : Int) = 1)
        rw [hk] at c0
        go_wp2
        generalize hW : (((wr.setCell ⟨w.heap.size + 1, 0, none⟩ (.int .i64 9)).setCell ⟨w.heap.size + 1, 1, none⟩ (.string Z.n)).setCell ⟨w.heap.size + 1, 2, none⟩ (.slice Z.o Z.of.length Z.c)) = W
        obtain ⟨hc5, hb5⟩ := HF.out W (by rw [hk]; exact hW.symm)
        have d0 := hc5.cell (i := 0) rfl
        have d1 := hc5.cell (i := 1) rfl
        have d2 := hc5.cell (i := 2) rfl
        refine bodyPost_ret (by simp [results, Tryz.results43, go_sem, d0, d1, d2]; try rfl) rfl ?_
        exact ⟨Z, rfl, HS.out, HZ.out, HH.out, hb5⟩
      · have hk2 : (Z.k != 9) = true := by simpa using hk
        go_wp2
        generalize hW : (((wr.setCell ⟨w.heap.size + 1, 0, none⟩ (.int .i64 Z.k)).setCell ⟨w.heap.size + 1, 1, none⟩ (.string Z.n)).setCell ⟨w.heap.size + 1, 2, none⟩ (.slice Z.o Z.of.length Z.c)) = W
        obtain ⟨hc5, hb5⟩ := HF.out W hW.symm
        have d0 := hc5.cell (i := 0) rfl
        have d1 := hc5.cell (i := 1) rfl
        have d2 := hc5.cell (i := 2) rfl
        refine bodyPost_ret (by simp [results, Tryz.results43, go_sem, d0, d1, d2]; try rfl) rfl ?_
        exact ⟨Z, rfl, HS.out, HZ.out, HH.out, hb5⟩
end Go.Proofs.YtdogddliifbjnaaGreat.Ck
/- fit: maps from names to any slices. -/
namespace Go.Proofs.YtdogddliifbjnaaGreat.Ck
open Go.RowKit Cm
open _root_.Go.Proofs.YtdogddliifbjnaaGreat.Nm
set_option linter.unusedVariables false
set_option linter.unusedSimpArgs false

/-- Any slice. -/
def saV (s : Option Addr × Nat × Nat) : Value := .slice s.1 s.2.1 s.2.2
def saN (n : Nat) : DataW Unit := .lit (.int .i64 (n : Nat))
def saD : Option Addr × Nat × Nat → DataW Unit
  | (none, n, c) => .agg [saN n, saN c]
  | (some ⟨b, i, none⟩, n, c) => .agg [saN b, saN i, saN n, saN c]
  | (some ⟨b, i, some k⟩, n, c) => .agg [saN b, saN i, saN k, saN n, saN c]
def saE (v : Value) : Option (DataW Unit × List MemPlace) :=
  match v with
  | .slice o n c => some (saD (o, n, c), [])
  | _ => none
theorem saE_mk (s : Option Addr × Nat × Nat) : saE (saV s) = some (saD s, []) := rfl
theorem saN_inj {a b : Nat} (h : saN a = saN b) : a = b := by
  simp [saN] at h
  omega
theorem saD_inj {s t : Option Addr × Nat × Nat} (h : saD s = saD t) : s = t := by
  obtain ⟨o, n, c⟩ := s
  obtain ⟨o', n', c'⟩ := t
  rcases o with _ | ⟨b, i, _ | k⟩ <;> rcases o' with _ | ⟨b', i', _ | k'⟩ <;> simp [saD, saN] at h ⊢
  all_goals omega
theorem saE_inv {v : Value} {s : Option Addr × Nat × Nat} {ps : List MemPlace} (h : saE v = some (saD s, ps)) : v = saV s := by
  unfold saE at h
  split at h
  · rename_i o n c
    have h1 := congrArg Prod.fst (Option.some.inj h)
    have h2 := saD_inj h1
    rw [← h2]; rfl
  · cases h
/-- Block B is a map from names to slices; G tells which. -/
def Fmq (B c : Nat) (G : ByteArray → Option (Option Addr × Nat × Nat)) (w : World) : Prop :=
  ∃ D : DataW Unit, w.ownsMap Tryz.prog 9 saE B c D ∧ ∀ s : ByteArray, (G s = none → Maps.has D (klS s) = false) ∧ ∀ v, G s = some v → Maps.has D (klS s) = true ∧ ∀ z, D.atKey (klS s) z = saD v
section
variable {B c : Nat} {G : ByteArray → Option (Option Addr × Nat × Nat)} {w w' : World}
theorem Fmq.lt (h : Fmq B c G w) : B < w.heap.size := by
  obtain ⟨D, h, _⟩ := h
  exact h.lt
theorem Fmq.sub (h : Fmq B c G w) (hb : Sub w w') : Fmq B c G w' := by
  obtain ⟨D, ⟨es, clock, h1, h2⟩, r⟩ := h
  exact ⟨D, ⟨es, clock, hb.block B _ h1 (fun e => by cases e), h2⟩, r⟩
theorem Fmq.kept (h : Fmq B c G w) (hb : w'.heap[B]? = w.heap[B]?) : Fmq B c G w' := by
  obtain ⟨D, ⟨es, clock, h1, h2⟩, r⟩ := h
  exact ⟨D, ⟨es, clock, hb.trans h1, h2⟩, r⟩
theorem Fmq.below {m : Nat} (h : Fmq B c G w) (hb : Below m w w') (hm : B < m) : Fmq B c G w' := h.kept (hb.block B hm)
theorem Fmq.mono {c' : Nat} (h : Fmq B c G w) (hc : c ≤ c') : Fmq B c' G w := by
  obtain ⟨D, h1, h2⟩ := h
  exact ⟨D, h1.mono hc, h2⟩
theorem Fmq.made (w : World) : Fmq w.heap.size 0 (fun _ => none) (w.alloc (.map #[] 0)) := ⟨_, World.ownsMap_made w _ _ _, fun s => ⟨fun _ => rfl, fun v h => by cases h⟩⟩
theorem Fmq.look (h : Fmq B c G w) (s : ByteArray) (hs : s.size ≤ maxLen) :
    (Instr.lookup 72 (.map (some B)) (.string s) true).run Tryz.prog w = .ok (.tuple #[saV ((G s).getD (none, 0, 0)), .bool (G s).isSome]) w := by
  obtain ⟨D, h1, h2⟩ := h
  obtain ⟨v, ps, hrun, hv⟩ := h1.look_ok law Tryz.underlying72 (zeroS w) (saE_mk (none, 0, 0)) (key_of hs)
  rw [hrun]
  cases hf : G s with
  | none =>
    have hh := (h2 s).1 hf
    rw [Maps.atKey_of_not_has hh] at hv
    rw [hh, saE_inv hv]; rfl
  | some u =>
    obtain ⟨hh, hz⟩ := (h2 s).2 u hf
    rw [hz] at hv
    rw [hh, saE_inv hv]; rfl
theorem Fmq.look0 (h : Fmq B c G w) (s : ByteArray) (hs : s.size ≤ maxLen) :
    (Instr.lookup 72 (.map (some B)) (.string s) false).run Tryz.prog w = .ok (saV ((G s).getD (none, 0, 0))) w := by
  obtain ⟨D, h1, h2⟩ := h
  obtain ⟨v, ps, hrun, hv⟩ := h1.lookup law Tryz.underlying72 (zeroS w) (saE_mk (none, 0, 0)) (key_of hs)
  rw [hrun]
  cases hf : G s with
  | none =>
    have hh := (h2 s).1 hf
    rw [Maps.atKey_of_not_has hh] at hv
    rw [saE_inv hv]; rfl
  | some u =>
    obtain ⟨hh, hz⟩ := (h2 s).2 u hf
    rw [hz] at hv
    rw [saE_inv hv]; rfl
theorem Fmq.store (h : Fmq B c G w) (s : ByteArray) (v : Option Addr × Nat × Nat) (hs : s.size ≤ maxLen) (hc : c < maxLen) :
    ∃ w', (Instr.mapUpdate 72 (.map (some B)) (.string s) (saV v)).run Tryz.prog w = .ok () w' ∧ Fmq B (c + 1) (fun t => if t = s then some v else G t) w' ∧ w.grownBy w' (some B) := by
  obtain ⟨D, h1, h2⟩ := h
  obtain ⟨w', hrun, hown, hg⟩ := h1.update law Tryz.underlying72 hc (key_of hs) (saE_mk v)
  refine ⟨w', hrun, ⟨_, hown, fun t => ?_⟩, hg⟩
  by_cases e : t = s
  · subst e
    simp only [if_pos rfl]
    refine ⟨fun h => (by cases h), fun u hu => ?_⟩
    obtain rfl := Option.some.inj hu
    exact ⟨Maps.has_put_same h1.isMap (by unfold klS; simp [WideAt.IsKeyLit]) _, fun z => Maps.atKey_put_same h1.isMap (by unfold klS; simp [WideAt.IsKeyLit]) _ _⟩
  · have hne : klS t ≠ klS s := fun e2 => e (klS_inj e2)
    simp only [if_neg e]
    rw [Maps.has_put_other hne]
    exact ⟨(h2 t).1, fun u hu => ⟨((h2 t).2 u hu).1, fun z => by rw [Maps.atKey_put_other hne]; exact ((h2 t).2 u hu).2 z⟩⟩
end
end Go.Proofs.YtdogddliifbjnaaGreat.Ck
