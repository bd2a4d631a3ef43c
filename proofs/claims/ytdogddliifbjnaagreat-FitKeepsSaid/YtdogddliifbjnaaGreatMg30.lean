/- fit: enums. -/
import Derived.Test.YtdogddliifbjnaaGreatMg14
import Derived.Test.YtdogddliifbjnaaGreatMg29
namespace Go.Proofs.YtdogddliifbjnaaGreat.Ck
open Go.RowKit Cm
open _root_.Go.Proofs.YtdogddliifbjnaaGreat.Nm
set_option linter.unusedVariables false
set_option linter.unusedSimpArgs false

/-- An error's number that is none just where P; what is kept. -/
def AnP (P : Prop) (F : Nat → Bool) (p : Option Addr) (L : Sc) (q : Option Addr) (M : Sc) (C : Nat) (w : World) (e : Ending) (w' : World) : Prop :=
  ∃ er : Int, e = .returned (.int .i64 er) ∧ (er = 0 ↔ P) ∧ Ak F p L q M C w' ∧ Be (Tn p q C) w w'
def EnP (L : Sc) (s : ByteArray) (v : Va.Va) : Prop := v.k = 6 ∧ ∃ r ∈ L.rows s, r.1 = v.n
set_option maxRecDepth 100000 in
set_option maxHeartbeats 2000000 in
theorem enum_any (F : Nat → Bool) (p : Option Addr) (L : Sc) (q : Option Addr) (M : Sc) (C : Nat) (s : ByteArray) (v : Va.Va) (w : World) (h : Ak F p L q M C w) (hs : s.size ≤ 140737488355327) :
    Calls Tryz.prog 78 #[.agg #[.pointer p, .map (some C), .string s], .agg #[.int .i64 v.k, .int .i64 v.n, .string v.s, .slice v.tb v.ts.length v.tc, .slice v.io v.is.length v.ic]] w (fun e w' => AnP (EnP L s v) F p L q M C w e w') := by
  have hB1 := ((Below.refl w.heap.size w).alloc (Nat.le_refl _) (.cells #[.pointer p, .map (some C), .string s] 145)).alloc (by simp) (.cells #[.int .i64 v.k, .int .i64 v.n, .string v.s, .slice v.tb v.ts.length v.tc, .slice v.io v.is.length v.ic] 26)
  have hC := (Cs.new w [.pointer p, .map (some C), .string s] 145).alloc (.cells #[.int .i64 v.k, .int .i64 v.n, .string v.s, .slice v.tb v.ts.length v.tc, .slice v.io v.is.length v.ic] 26)
  have hD := Cs.new (w.alloc (.cells #[.pointer p, .map (some C), .string s] 145)) [.int .i64 v.k, .int .i64 v.n, .string v.s, .slice v.tb v.ts.length v.tc, .slice v.io v.is.length v.ic] 26
  rw [show (w.alloc (.cells #[.pointer p, .map (some C), .string s] 145)).heap.size = w.heap.size + 1 by simp] at hD
  have c0 := hC.cell (i := 0) rfl
  have c2 := hC.cell (i := 2) rfl
  have d0 := hD.cell (i := 0) rfl
  have d1 := hD.cell (i := 1) rfl
  have HA1 := Lib.hid (h.below hB1)
  have HB1 := Lib.hid hB1
  have hnot : ∀ (x : Bool) (w : World), (Op.unary .not (.bool x)).run Tryz.prog w = .ok (.bool (!x)) w := fun _ _ => rfl
  clear h hB1 hC hD
  by_cases hk : v.k = 6
  · have hk2 : (v.k != 6) = false := by rw [hk]; rfl
    have HK := Lib.hid hk
    clear hk
    go_enter Tryz.func78, Tryz.ntmps78
    go_upto_region 4 with (go_at_call 21; go_loud (refine (row_p F p L q M s v.n _ HA1.out.pq hs).mono ?_; rintro e w2 ⟨g, b, rfl, hbt, hbf, hp2, hb2⟩; have HBT := Lib.hid hbt; have HBF := Lib.hid hbf; have HA2 := Lib.hid (HA1.out.keep hp2 hb2); have HB2 := Lib.hid ((Be.of (F := Tn p q C) HB1.out).trans (be_tn hb2)); clear hbt hbf hp2 hb2))
    have HA3 := Lib.hid (HA2.out.below ((Below.refl w2.heap.size w2).alloc (Nat.le_refl _) (.cells #[.int .i64 g.T, .string g.N, .int .i64 g.Y.k, .string g.Y.n, .slice g.Y.o g.Y.of.length g.Y.c] 50)))
    have HB3 := Lib.hid (HB2.out.after ((Below.refl w2.heap.size w2).alloc (Nat.le_refl _) (.cells #[.int .i64 g.T, .string g.N, .int .i64 g.Y.k, .string g.Y.n, .slice g.Y.o g.Y.of.length g.Y.c] 50)))
    cases b with
    | true =>
      go_wp2
      go_ret
      exact ⟨0, rfl, ⟨fun _ => ⟨HK.out, f2 g, (HBT.out (by first | trivial | rfl)).2.2, (HBT.out (by first | trivial | rfl)).2.1⟩, fun _ => rfl⟩, HA3.out, HB3.out⟩
    | false =>
      go_wp2
      go_ret
      exact ⟨9, rfl, ⟨fun h => by omega, fun h => by obtain ⟨_, r, hr, he⟩ := h; exact absurd he (HBF.out (by first | trivial | rfl) r hr)⟩, HA3.out, HB3.out⟩
  · have hk2 : (v.k != 6) = true := by simpa using hk
    go_enter Tryz.func78, Tryz.ntmps78
    go_wp2
    go_ret
    exact ⟨4, rfl, ⟨fun h => by omega, fun h => absurd h.1 hk⟩, HA1.out, Be.of HB1.out⟩
end Go.Proofs.YtdogddliifbjnaaGreat.Ck
/- fit: values beside blocks that turn; what a question asks, a level at a time. -/
namespace Go.Proofs.YtdogddliifbjnaaGreat.Ck
open Go.RowKit Cm
open _root_.Go.Proofs.YtdogddliifbjnaaGreat.Nm
set_option linter.unusedVariables false
set_option linter.unusedSimpArgs false

theorem in_sub {o : Option Addr} {ts : List Int} {w w' : World} (h : In o ts w) (hb : Sub w w') : In o ts w' := fun i t hi => by
  obtain ⟨⟨a, h1, h2, h3⟩, h4⟩ := h i t hi
  exact ⟨⟨a, h1, Nat.lt_of_lt_of_le h2 hb.size, hb.cell h3⟩, h4⟩
theorem va_sub {w w' : World} {v : Va.Va} (h : Va.VaIn w v) (hb : Sub w w') : Va.VaIn w' v := by
  induction h with
  | mk k n s tb tc ts io ic is hk hn hs htl hil ht hc hi ih =>
    refine .mk k n s tb tc ts io ic is hk hn hs htl hil (in_sub ht hb) (fun i v hv => ?_) ih
    obtain ⟨a, h1, h2, h3⟩ := hc i v hv
    exact ⟨a, h1, Nat.lt_of_lt_of_le h2 hb.size, fun j u hu => hb.cell (h3 j u hu)⟩
/-- Is a value of a type without TOpts around it? -/
def fitC (L : Sc) (n : Nat) (c : Sp) (v : Va.Va) : Prop :=
  (1 ≤ c.k ∧ c.k ≤ 5 ∧ v.k = c.k) ∨ (c.k = 6 ∧ NameP (fitN L n) L c.n v) ∨
  (c.k = 7 ∧ c.of.length = 1 ∧ v.k = 7 ∧ ∀ (i : Nat) (x : Va.Va) (t : Sp), v.is[i]? = some x → c.of[i % 1]? = some t → fitN L n t x) ∨
  (c.k = 8 ∧ c.of.length = 2 ∧ v.k = 8 ∧ ∀ (i : Nat) (x : Va.Va) (t : Sp), v.is[i]? = some x → c.of[i % 2]? = some t → fitN L n t x)
theorem fit_core {L : Sc} {n : Nat} {s c : Sp} {v : Va.Va} (h : CoreR s c) : fitN L (n + 1) s v ↔ fitC L n c v := by
  constructor
  · rintro ⟨d, hd, hf⟩
    obtain rfl := core_fun h hd
    exact hf
  · exact fun hf => ⟨c, h, hf⟩
/-- A question that is answered by just whether a value is so. -/
def Ans (P : Va.Va → Prop) (ok : Va.Va → Prop) (F : Nat → Bool) (p : Option Addr) (L : Sc) (q : Option Addr) (M : Sc) (C : Nat) (x : Value) : Prop :=
  ∃ (f : Nat) (first : Array Value), x = .func (.func f) first #[] ∧ ∀ (v : Va.Va) (w : World), ok v → Ak F p L q M C w → Va.VaIn (cut F w) v →
    Calls Tryz.prog f (first ++ #[.agg #[.int .i64 v.k, .int .i64 v.n, .string v.s, .slice v.tb v.ts.length v.tc, .slice v.io v.is.length v.ic]]) w (fun e w' => AnP (P v) F p L q M C w e w')
/-- Questions that look no further than the value's kind. -/
theorem ans_kind (ok : Va.Va → Prop) (F : Nat → Bool) (p : Option Addr) (L : Sc) (q : Option Addr) (M : Sc) (C : Nat) (k : Int) : Ans (fun v => v.k = k) ok F p L q M C (.func (.func 44) #[.int .i64 k] #[]) := by
  refine ⟨_, _, rfl, fun v w _ h hv => ?_⟩
  refine (asks_any k v.k v.n v.s v.tb v.io v.ts.length v.tc v.is.length v.ic w).mono ?_
  rintro e w' ⟨er, rfl, h1, h2⟩
  exact ⟨er, rfl, h1, h.below h2, Be.of h2⟩
theorem ans_wrong (ok : Va.Va → Prop) (F : Nat → Bool) (p : Option Addr) (L : Sc) (q : Option Addr) (M : Sc) (C : Nat) : Ans (fun _ => False) ok F p L q M C wrV := by
  refine ⟨_, _, rfl, fun v w _ h hv => ?_⟩
  refine (wrong_any v.k v.n v.s v.tb v.io v.ts.length v.tc v.is.length v.ic w).mono ?_
  rintro e w' ⟨rfl, h2⟩
  exact ⟨8, rfl, ⟨fun h => by omega, fun h => h.elim⟩, h.below h2, Be.of h2⟩
theorem ans_enum (ok : Va.Va → Prop) (F : Nat → Bool) (p : Option Addr) (L : Sc) (q : Option Addr) (M : Sc) (C : Nat) (s : ByteArray) (hs : s.size ≤ 140737488355327) : Ans (EnP L s) ok F p L q M C (.func (.func 78) #[.agg #[.pointer p, .map (some C), .string s]] #[]) :=
  ⟨_, _, rfl, fun v w _ h hv => enum_any F p L q M C s v w h hs⟩
end Go.Proofs.YtdogddliifbjnaaGreat.Ck
/- fit: slices.BinarySearch over rising numbers, wherever they lie. -/
namespace Go.Proofs.YtdogddliifbjnaaGreat.Ck
open Go.RowKit Cm
open _root_.Go.Proofs.YtdogddliifbjnaaGreat.Nm
set_option linter.unusedVariables false
set_option linter.unusedSimpArgs false
theorem in_at {o : Option Addr} {ts : List Int} {w : World} (h : In o ts w) {i : Nat} (hi : i < ts.length) : ∃ a, o = some a ∧ a.block < w.heap.size ∧ w.cell? (a.add i) = some (.int .i64 (ts.getD i 0)) := by
  obtain ⟨a, b⟩ := h i (ts.getD i 0) (by rw [List.getD_eq_getElem?_getD, List.getElem?_eq_getElem hi]; rfl)
  exact a
def IsP (n : Nat) (ts : List Int) (t : Int) (w : World) (e : Ending) (w' : World) : Prop :=
  ∃ (i : Nat) (b : Bool), e = .returned (.tuple #[.int .i64 i, .bool b]) ∧ (b = true → i < n ∧ ts.getD i 0 = t) ∧ (b = false → ∀ k, k < n → ts.getD k 0 ≠ t) ∧ Below w.heap.size w w'
set_option maxRecDepth 1000000 in
set_option maxHeartbeats 4000000 in
theorem isearch_any (o : Option Addr) (n c : Nat) (ts : List Int) (t : Int) (w : World) (h : In o ts w) (hl : ts.length = n) (hn : n ≤ 140737488355327) (hs : ∀ i j, i < j → j < n → ts.getD i 0 ≤ ts.getD j 0) :
    Calls Tryz.prog 115 #[.slice o n c, .int .i64 t] w fun e w' => IsP n ts t w e w' := by
  have hn2 : n ≤ 9223372036854775807 := by omega
  have HH := Lib.hid h
  have HS := Lib.hid hs
  have HL := Lib.hid hl
  clear h hs hl
  go_enter Tryz.func115, Tryz.ntmps115
  go_wp2
  go_loopg [7, 8] n (fun kx s9 s10 wr => ∃ lo hi : Nat, s9 = .int .i64 lo ∧ s10 = .int .i64 hi ∧ lo ≤ hi ∧ hi ≤ n ∧ hi - lo ≤ kx ∧ Hid (Below w.heap.size w wr) ∧
    Hid ((∀ k, k < lo → ts.getD k 0 < t) ∧ (∀ k, hi ≤ k → k < n → t ≤ ts.getD k 0)))
  case atStart => exact ⟨0, n, rfl, rfl, Nat.zero_le _, Nat.le_refl _, by omega, Below.refl _ _, ⟨fun k hk => absurd hk (Nat.not_lt_zero _), fun k h1 h2 => by omega⟩⟩
  case round =>
    obtain ⟨lo, hi, rfl, rfl, hlh, hin, hg, HB, I⟩ := hrel
    have hsz := HB.out.size
    by_cases hlt : lo < hi
    · have hml : (lo + hi) / 2 < n := by omega
      obtain ⟨a, rfl, hAb, c0⟩ := in_at (HH.out.below HB.out (Nat.le_refl _)) (i := (lo + hi) / 2) (by rw [HL.out]; exact hml)
      have HM := Lib.hid hml
      clear hml
      by_cases hyx : ts.getD ((lo + hi) / 2) 0 < t
      · have HY := Lib.hid hyx
        go_wp2
        go_roundg (hi - ((lo + hi) / 2 + 1))
        case measure => omega
        case rel => exact ⟨(lo + hi) / 2 + 1, hi, by rw [show ((lo : Int) + (hi : Int)) / 2 + 1 = (((lo + hi) / 2 + 1 : Nat) : Int) by omega], rfl, by omega, hin, Nat.le_refl _, HB.out, ⟨fun k hk => by
          rcases Nat.lt_or_ge k ((lo + hi) / 2) with h1 | h1
          · exact Int.lt_of_le_of_lt (HS.out k ((lo + hi) / 2) h1 HM.out) HY.out
          · obtain rfl : k = (lo + hi) / 2 := by omega
            exact HY.out, I.out.2⟩⟩
      · have HY := Lib.hid hyx
        go_wp2
        go_roundg ((lo + hi) / 2 - lo)
        case measure => omega
        case rel => exact ⟨lo, (lo + hi) / 2, rfl, by rw [show ((lo : Int) + (hi : Int)) / 2 = (((lo + hi) / 2 : Nat) : Int) by omega], by omega, by omega, Nat.le_refl _, HB.out, ⟨I.out.1, fun k h1 h2 => by
          rcases Nat.lt_or_ge ((lo + hi) / 2) k with h3 | h3
          · have := HS.out ((lo + hi) / 2) k h3 h2; have := HY.out; omega
          · obtain rfl : k = (lo + hi) / 2 := by omega
            have := HY.out; omega⟩⟩
    · obtain rfl : hi = lo := by omega
      by_cases hl : hi < n
      · have hli : (hi : Int) < (n : Int) := by omega
        obtain ⟨a, rfl, hAb, c0⟩ := in_at (HH.out.below HB.out (Nat.le_refl _)) (i := hi) (by rw [HL.out]; exact hl)
        by_cases he : ts.getD hi 0 = t
        · have HE := Lib.hid he
          have hq : (ts.getD hi 0 == t) = true := by simpa using he
          go_wp2
          go_ret2
          exact ⟨hi, true, rfl, fun _ => ⟨hl, HE.out⟩, (fun h => by cases h), HB.out⟩
        · have hgt : t < ts.getD hi 0 := by have := I.out.2 hi (Nat.le_refl _) hl; omega
          have hq : (ts.getD hi 0 == t) = false := beq_eq_false_iff_ne.2 he
          have HF : Hid (∀ k, k < n → ts.getD k 0 ≠ t) := Lib.hid (fun k hk => by
            rcases Nat.lt_trichotomy k hi with h1 | h1 | h1
            · have := I.out.1 k h1; omega
            · subst h1; omega
            · have := HS.out hi k h1 hk; omega)
          have hq2 : (ts[hi]?.getD 0 == t) = false := by rw [← List.getD_eq_getElem?_getD]; exact hq
          go_wp2
          go_ret2
          exact ⟨hi, false, by rw [← hq2]; rfl, (fun h => by cases h), fun _ => HF.out, HB.out⟩
      · have hli : ¬ (hi : Int) < (n : Int) := by omega
        have HF : Hid (∀ k, k < n → ts.getD k 0 ≠ t) := Lib.hid (fun k hk => by have := I.out.1 k (by omega); omega)
        go_wp2
        go_ret2
        exact ⟨hi, false, rfl, (fun h => by cases h), fun _ => HF.out, HB.out⟩
end Go.Proofs.YtdogddliifbjnaaGreat.Ck
/- fit: missing. -/
namespace Go.Proofs.YtdogddliifbjnaaGreat.Ck
open Go.RowKit Cm
open _root_.Go.Proofs.YtdogddliifbjnaaGreat.Nm
set_option linter.unusedVariables false
set_option linter.unusedSimpArgs false
theorem getD_mem {ts : List Int} {i : Nat} {t : Int} (hi : i < ts.length) (h : ts.getD i 0 = t) : t ∈ ts := by
  rw [← h, List.getD_eq_getElem?_getD, List.getElem?_eq_getElem hi]
  exact List.getElem_mem hi
def MiP (L : Sc) (s : ByteArray) (ts : List Int) : Prop := ∀ r ∈ L.rows s, r.2.k ≠ 9 → r.1 ∈ ts
theorem mi_all {L : Sc} {s : ByteArray} {ts : List Int} {U : Nat → Fz} {m : Nat} (hr : rowL U m = L.rows s) : MiP L s ts ↔ ∀ i, i < m → (U i).Y.k ≠ 9 → (U i).T ∈ ts := by
  unfold MiP
  rw [← hr]
  constructor
  · intro h i hi hk
    exact h (f2 (U i)) (List.mem_map.2 ⟨i, List.mem_range.2 hi, rfl⟩) (by show (U i).Y.sp.k ≠ 9; rw [sp_k]; exact hk)
  · intro h r hm hk
    obtain ⟨i, hi, rfl⟩ := List.mem_map.1 hm
    exact h i (List.mem_range.1 hi) (by have : (U i).Y.sp.k ≠ 9 := hk; rwa [sp_k] at this)
set_option maxRecDepth 100000 in
set_option maxHeartbeats 4000000 in
theorem missing_any (F : Nat → Bool) (p : Option Addr) (L : Sc) (q : Option Addr) (M : Sc) (C : Nat) (s : ByteArray) (tb : Option Addr) (n tc : Nat) (ts : List Int) (w : World) (h : Ak F p L q M C w) (hs : s.size ≤ 140737488355327) (hk : L.kd s ≠ 0)
    (ht : In tb ts (cut F w)) (hl : ts.length = n) (hn : n ≤ 140737488355327) (hst : ∀ i j, i < j → j < n → ts.getD i 0 ≤ ts.getD j 0) :
    Calls Tryz.prog 99 #[.agg #[.pointer p, .map (some C), .string s], .slice tb n tc] w (fun e w' => AnP (MiP L s ts) F p L q M C w e w') := by
  have hB1 := (Below.refl w.heap.size w).alloc (Nat.le_refl _) (.cells #[.pointer p, .map (some C), .string s] 145)
  have hC := Cs.new w [.pointer p, .map (some C), .string s] 145
  have c0 := hC.cell (i := 0) rfl
  have c1 := hC.cell (i := 1) rfl
  have c2 := hC.cell (i := 2) rfl
  have HA0 := Lib.hid h
  have HA1 := Lib.hid (h.below hB1)
  have HB1 := Lib.hid hB1
  have HT := Lib.hid ht
  have HL := Lib.hid hl
  have HST := Lib.hid hst
  have HKD := Lib.hid hk
  have hnot : ∀ (x : Bool) (w : World), (Op.unary .not (.bool x)).run Tryz.prog w = .ok (.bool (!x)) w := fun _ _ => rfl
  clear h hB1 hC ht hl hst hk
  go_enter Tryz.func99, Tryz.ntmps99
  go_wp2_with (go_at_call 113; go_loud (refine (rowsof_any F p L q M C s _ HA1.out hs HKD.out).mono ?_; rintro e w2 ⟨o, m, c, U, rfl, hf2, hr2, ha2, hb2⟩; have hm := hf2.2.1; have HF2 := Lib.hid hf2; have HR := Lib.hid hr2; have HA2 := Lib.hid ha2; have HB2 := Lib.hid ((Be.of (F := Tn p q C) HB1.out).trans hb2); clear hf2 hr2 ha2 hb2))
  go_loopw [15] (fun i wr => ∃ j, j ≤ m ∧ i = .int .i64 (j : Nat) ∧ Hid (∀ i, i < j → (U i).Y.k ≠ 9 → (U i).T ∈ ts) ∧ Hid (Ak F p L q M C wr) ∧ Hid (Be (Tn p q C) w wr) ∧ Hid (Fls o m U (cut F wr))) (fun i _ => m - (intOf i).toNat)
  case atStart => exact ⟨0, by omega, rfl, Lib.hid (fun i hi => by omega), HA2, HB2, HF2⟩
  case round =>
    obtain ⟨j, hj, rfl, HQ, HA, HB, HF⟩ := hrel
    clear HA2 HB2 HF2
    by_cases hjl : j < m
    · have hji : (j : Int) < (m : Int) := by omega
      obtain ⟨a, Ab, Ao, As, rfl, hA, hAb, d0, d1, d2, d3, d4⟩ := ex_five (v0 := .int .i64 (U j).T) (v1 := .string (U j).N) (v2 := .int .i64 (U j).Y.k) (v3 := .string (U j).Y.n) (v4 := .slice (U j).Y.o (U j).Y.of.length (U j).Y.c) (HF.out.sub (cut_all _ wr)).1 hjl rfl
      have hX := Cs.new wr [.int .i64 (U j).T, .string (U j).N, .int .i64 (U j).Y.k, .string (U j).Y.n, .slice (U j).Y.o (U j).Y.of.length (U j).Y.c] 50
      have hBx := (Below.refl wr.heap.size wr).alloc (Nat.le_refl _) (.cells #[.int .i64 (U j).T, .string (U j).N, .int .i64 (U j).Y.k, .string (U j).Y.n, .slice (U j).Y.o (U j).Y.of.length (U j).Y.c] 50)
      have k0 := hX.cell (i := 0) rfl
      have HX := Lib.hid hX
      have HAx := Lib.hid (HA.out.below hBx)
      have HBx := Lib.hid (HB.out.after hBx)
      have HFx := Lib.hid (HF.out.sub (Sub.of_below (by rw [cut_size]; exact cut_below hBx)))
      have HTx := Lib.hid (in_sub (in_sub HT.out (Sub.of_below (by rw [cut_size]; exact HA0.out.wide HBx.out))) (cut_all F _))
      clear hX hBx
      go_upto_region 5 with (go_at_call 115; go_loud (refine (isearch_any tb n tc ts (U j).T _ HTx.out HL.out hn HST.out).mono ?_; rintro e w4 ⟨i, b, rfl, hbt, hbf, hb4⟩; have hX4 := HX.out.below hb4 HX.out.lt; have x2 := hX4.cell (i := 2) rfl; have HBT := Lib.hid hbt; have HBF := Lib.hid hbf; have HA4 := Lib.hid (HAx.out.below hb4); have HB4 := Lib.hid (HBx.out.after hb4); have HF4 := Lib.hid (HFx.out.sub (Sub.of_below (by rw [cut_size]; exact cut_below hb4))); clear hX4 hbt hbf hb4))
      have HN : Hid (b = false → (U j).T ∉ ts) := Lib.hid (fun hb hm => by
        obtain ⟨k, hk, he⟩ := List.getElem_of_mem hm
        exact HBF.out hb k (by rw [← HL.out]; exact hk) (by rw [List.getD_eq_getElem?_getD, List.getElem?_eq_getElem hk]; exact he))
      have HY : Hid (b = true → (U j).T ∈ ts) := Lib.hid (fun hb => getD_mem (by rw [HL.out]; exact (HBT.out hb).1) (HBT.out hb).2)
      clear HBT HBF
      cases b with
      | true =>
        have HYY := Lib.hid (HY.out rfl)
        clear HY HN
        go_wp2
        exact ⟨⟨j + 1, by omega, by go_num, Lib.hid (fun i hi hk => by
          by_cases e : i = j
          · subst e; exact HYY.out
          · exact HQ.out i (by omega) hk), HA4, HB4, HF4⟩, by simp [intOf]; omega⟩
      | false =>
        have HNN := Lib.hid (HN.out rfl)
        clear HY HN
        by_cases hk9 : (U j).Y.k = 9
        · have hq : ((U j).Y.k != 9) = false := by rw [hk9]; rfl
          have HK9 := Lib.hid hk9
          clear hk9
          go_wp2
          exact ⟨⟨j + 1, by omega, by go_num, Lib.hid (fun i hi hk => by
            by_cases e : i = j
            · subst e; exact absurd HK9.out hk
            · exact HQ.out i (by omega) hk), HA4, HB4, HF4⟩, by simp [intOf]; omega⟩
        · have hq : ((U j).Y.k != 9) = true := by simpa using hk9
          have HK9 := Lib.hid hk9
          clear hk9
          go_wp2
          go_ret
          exact ⟨12, rfl, ⟨fun h => by omega, fun h => absurd ((mi_all HR.out).1 h j hjl HK9.out) HNN.out⟩, HA4.out, HB4.out⟩
    · have hji : ¬ (j : Int) < (m : Int) := by omega
      obtain rfl : j = m := by omega
      go_wp2
      go_ret
      exact ⟨0, rfl, ⟨fun _ => (mi_all HR.out).2 HQ.out, fun _ => rfl⟩, HA.out, HB.out⟩
end Go.Proofs.YtdogddliifbjnaaGreat.Ck
