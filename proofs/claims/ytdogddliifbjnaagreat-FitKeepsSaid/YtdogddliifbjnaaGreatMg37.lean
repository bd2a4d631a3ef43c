/- fit: every question, of every value. -/
import Derived.Test.YtdogddliifbjnaaGreatMg32
import Derived.Test.YtdogddliifbjnaaGreatMg58
import Derived.Test.YtdogddliifbjnaaGreatMg36
namespace Go.Proofs.YtdogddliifbjnaaGreat.Ck
open Go.RowKit Cm
open _root_.Go.Proofs.YtdogddliifbjnaaGreat.Nm
set_option linter.unusedVariables false
set_option linter.unusedSimpArgs false

/-- A value, not deeper than n, that is well. -/
def okN (n : Nat) (v : Va.Va) : Prop := Va.dpV v ≤ n ∧ Va.weV Va.rightB v = true
theorem okN.pos {n : Nat} {v : Va.Va} (h : okN n v) : 1 ≤ n := by
  have := Va.dp_posV v
  have := h.1
  omega
theorem okN.child {n : Nat} {v u : Va.Va} (h : okN (n + 1) v) (hu : u ∈ v.is) : okN n u := by
  obtain ⟨h1, h2⟩ := h
  obtain ⟨k, m, s, tb, tc, ts, io, ic, is⟩ := v
  obtain ⟨i, hi⟩ := List.mem_iff_getElem?.1 hu
  have h3 : Va.dpV u < Va.dpV (.mk k m s tb tc ts io ic is) := Va.dp_childV hi
  rw [Va.weV_eq, Bool.and_eq_true] at h2
  exact ⟨by omega, (Va.wes_iff _ _).1 h2.2 i u hi⟩
theorem rise_le {l : List Int} (h : ∀ i, i + 1 < l.length → l.getD i 0 < l.getD (i + 1) 0) : ∀ i j, i < j → j < l.length → l.getD i 0 ≤ l.getD j 0 := by
  intro i j hij
  induction j with
  | zero => omega
  | succ j ih =>
    intro hj
    have h2 := h j hj
    by_cases e : i = j
    · subst e; omega
    · have := ih (by omega) (by omega); omega
theorem okN.rec9 {n : Nat} {v : Va.Va} (h : okN n v) (hk : v.k = 9) : v.ts.length = v.is.length ∧ ∀ i j, i < j → j < v.ts.length → v.ts.getD i 0 ≤ v.ts.getD j 0 := by
  obtain ⟨h1, h2⟩ := h
  obtain ⟨k, m, s, tb, tc, ts, io, ic, is⟩ := v
  obtain rfl : k = 9 := hk
  rw [Va.weV_eq, Bool.and_eq_true, Va.one_9] at h2
  simp only [Bool.and_eq_true, decide_eq_true_eq] at h2
  exact ⟨h2.1.1.2, rise_le ((Va.tgs_iff _ _).1 h2.1.2).2.1⟩
theorem okN.uni10 {n : Nat} {v : Va.Va} (h : okN n v) (hk : v.k = 10) : v.ts.length = v.is.length := by
  obtain ⟨h1, h2⟩ := h
  obtain ⟨k, m, s, tb, tc, ts, io, ic, is⟩ := v
  obtain rfl : k = 10 := hk
  rw [Va.weV_eq, Bool.and_eq_true, Va.one_10] at h2
  simp only [Bool.and_eq_true, decide_eq_true_eq] at h2
  show ts.length = is.length
  omega
theorem AnP.iff {P Q : Prop} {F : Nat → Bool} {p q : Option Addr} {L M : Sc} {C : Nat} {w w' : World} {e : Ending} (h : AnP P F p L q M C w e w') (hq : P ↔ Q) : AnP Q F p L q M C w e w' := by
  obtain ⟨er, h1, h2, h3⟩ := h
  exact ⟨er, h1, h2.trans hq, h3⟩
theorem fitC_kind {L : Sc} {n : Nat} {c : Sp} {v : Va.Va} (h : 1 ≤ c.k ∧ c.k ≤ 5) : fitC L n c v ↔ v.k = c.k := by
  unfold fitC
  constructor
  · rintro (⟨_, _, h3⟩ | ⟨h3, _⟩ | ⟨h3, _⟩ | ⟨h3, _⟩)
    · exact h3
    all_goals omega
  · exact fun h3 => .inl ⟨h.1, h.2, h3⟩
theorem fitC_name {L : Sc} {n : Nat} {c : Sp} {v : Va.Va} (h : c.k = 6) : fitC L n c v ↔ NameP (fitN L n) L c.n v := by
  unfold fitC
  constructor
  · rintro (⟨_, _, h3⟩ | ⟨_, h3⟩ | ⟨h3, _⟩ | ⟨h3, _⟩)
    · omega
    · exact h3
    all_goals omega
  · exact fun h3 => .inr (.inl ⟨h, h3⟩)
theorem fitC_list {L : Sc} {n : Nat} {Z : Ty} {v : Va.Va} (h : Z.k = 7) (hl : Z.of.length = 1) : fitC L (n + 1) Z.sp v ↔ (v.k = 7 ∧ TuP L n Z v) := by
  have hk : Z.sp.k = 7 := by rw [sp_k]; exact h
  have hsl : Z.sp.of.length = 1 := by rw [sp_of, List.length_map]; exact hl
  unfold fitC TuP
  rw [hl]
  constructor
  · rintro (⟨_, _, h3⟩ | ⟨h3, _⟩ | ⟨_, _, h3, h4⟩ | ⟨h3, _⟩)
    · omega
    · omega
    · exact ⟨h3, h4⟩
    · omega
  · exact fun h3 => .inr (.inr (.inl ⟨hk, hsl, h3.1, h3.2⟩))
theorem fitC_table {L : Sc} {n : Nat} {Z : Ty} {v : Va.Va} (h : Z.k = 8) (hl : Z.of.length = 2) : fitC L (n + 1) Z.sp v ↔ (v.k = 8 ∧ TuP L n Z v) := by
  have hk : Z.sp.k = 8 := by rw [sp_k]; exact h
  have hsl : Z.sp.of.length = 2 := by rw [sp_of, List.length_map]; exact hl
  unfold fitC TuP
  rw [hl]
  constructor
  · rintro (⟨_, _, h3⟩ | ⟨h3, _⟩ | ⟨h3, _⟩ | ⟨_, _, h3, h4⟩)
    · omega
    · omega
    · omega
    · exact ⟨h3, h4⟩
  · exact fun h3 => .inr (.inr (.inr ⟨hk, hsl, h3.1, h3.2⟩))
theorem fitC_wrong {L : Sc} {n : Nat} {Z : Ty} {v : Va.Va} (h : ¬ (1 ≤ Z.k ∧ Z.k ≤ 6) ∧ ¬ (Z.k = 7 ∧ Z.of.length = 1) ∧ ¬ (Z.k = 8 ∧ Z.of.length = 2)) : ¬ fitC L n Z.sp v := by
  obtain ⟨h1, h2, h3⟩ := h
  have hsl : Z.sp.of.length = Z.of.length := by rw [sp_of, List.length_map]
  unfold fitC
  rw [sp_k, hsl]
  rintro (⟨g1, g2, _⟩ | ⟨g1, _⟩ | ⟨g1, g2, _⟩ | ⟨g1, g2, _⟩)
  · exact h1 ⟨g1, by omega⟩
  · exact h1 (by omega)
  · exact h2 ⟨g1, g2⟩
  · exact h3 ⟨g1, g2⟩
theorem nameP_no {P : Sp → Va.Va → Prop} {L : Sc} {s : ByteArray} {v : Va.Va} (h : L.kd s ≠ 1 ∧ L.kd s ≠ 2 ∧ L.kd s ≠ 3) : ¬ NameP P L s v := by
  rintro (⟨h1, _⟩ | ⟨h1, _⟩ | ⟨h1, _⟩)
  · exact h.1 h1
  · exact h.2.1 h1
  · exact h.2.2 h1
theorem nameP_1 {P : Sp → Va.Va → Prop} {L : Sc} {s : ByteArray} {v : Va.Va} (h : L.kd s = 1) : NameP P L s v ↔ v.k = 9 ∧ ItemsP P (L.rows s) v ∧ FullP (L.rows s) v := by
  constructor
  · rintro (⟨_, h1⟩ | ⟨h1, _⟩ | ⟨h1, _⟩)
    · exact h1
    all_goals omega
  · exact fun h1 => .inl ⟨h, h1⟩
theorem nameP_2 {P : Sp → Va.Va → Prop} {L : Sc} {s : ByteArray} {v : Va.Va} (h : L.kd s = 2) : NameP P L s v ↔ v.k = 10 ∧ ItemsP P (L.rows s) v := by
  constructor
  · rintro (⟨h1, _⟩ | ⟨_, h1⟩ | ⟨h1, _⟩)
    · omega
    · exact h1
    · omega
  · exact fun h1 => .inr (.inl ⟨h, h1⟩)
theorem nameP_3 {P : Sp → Va.Va → Prop} {L : Sc} {s : ByteArray} {v : Va.Va} (h : L.kd s = 3) : NameP P L s v ↔ v.k = 6 ∧ ∃ r ∈ L.rows s, r.1 = v.n := by
  constructor
  · rintro (⟨h1, _⟩ | ⟨h1, _⟩ | ⟨_, h1⟩)
    · omega
    · omega
    · exact h1
  · exact fun h1 => .inr (.inr ⟨h, h1⟩)
theorem ty_nsz {w : World} {Z : Ty} (h : TyIn w Z) : Z.n.size ≤ 140737488355327 := by cases h; assumption
section
variable {F : Nat → Bool} {p q : Option Addr} {L M : Sc} {C : Nat}
set_option maxRecDepth 100000 in
theorem cf_asks (args : Array Value) (w : World) : (callFunc 44 args).run Tryz.prog w = .ok (.enter 44 args) w := rfl
set_option maxRecDepth 100000 in
theorem cf_record (args : Array Value) (w : World) : (callFunc 76 args).run Tryz.prog w = .ok (.enter 76 args) w := rfl
set_option maxRecDepth 100000 in
theorem cf_union (args : Array Value) (w : World) : (callFunc 77 args).run Tryz.prog w = .ok (.enter 77 args) w := rfl
set_option maxRecDepth 100000 in
theorem cf_enum (args : Array Value) (w : World) : (callFunc 78 args).run Tryz.prog w = .ok (.enter 78 args) w := rfl
set_option maxRecDepth 100000 in
theorem cf_list (args : Array Value) (w : World) : (callFunc 46 args).run Tryz.prog w = .ok (.enter 46 args) w := rfl
set_option maxRecDepth 100000 in
theorem cf_table (args : Array Value) (w : World) : (callFunc 47 args).run Tryz.prog w = .ok (.enter 47 args) w := rfl
set_option maxRecDepth 100000 in
theorem cf_wrong (args : Array Value) (w : World) : (callFunc 48 args).run Tryz.prog w = .ok (.enter 48 args) w := rfl
set_option maxRecDepth 100000 in
theorem wrong_ans {P : Prop} (hP : ¬ P) (v : Va.Va) (w : World) (h : Ak F p L q M C w) :
    Calls Tryz.prog 48 #[.agg #[.int .i64 v.k, .int .i64 v.n, .string v.s, .slice v.tb v.ts.length v.tc, .slice v.io v.is.length v.ic]] w (fun e w' => AnP P F p L q M C w e w') := by
  refine (wrong_any v.k v.n v.s v.tb v.io v.ts.length v.tc v.is.length v.ic w).mono ?_
  rintro e w' ⟨rfl, h2⟩
  exact ⟨8, rfl, ⟨fun h => by omega, fun h => absurd h hP⟩, h.below h2, Be.of h2⟩
set_option maxRecDepth 100000 in
theorem ask_step (n : Nat) (HI : ∀ m, n = m + 1 → AskN m (okN m) F p L q M C) : AskN n (okN n) F p L q M C := by
  intro Z x hth hof
  rcases hof with ⟨hk, rfl⟩ | ⟨hk, hon⟩ | ⟨hk, hl, rfl⟩ | ⟨hk, hl, rfl⟩ | ⟨hno, rfl⟩
  · refine ⟨_, _, rfl, cf_asks, fun v w hok hA hT hV => ?_⟩
    show Calls Tryz.prog _ #[_, _] w _
    refine (asks_any Z.k v.k v.n v.s v.tb v.io v.ts.length v.tc v.is.length v.ic w).mono ?_
    rintro e w' ⟨er, rfl, h1, h2⟩
    exact ⟨er, rfl, h1.trans (by rw [fitC_kind (by rw [sp_k]; exact hk), sp_k]), hA.below h2, Be.of h2⟩
  · have hk6 : Z.sp.k = 6 := by rw [sp_k]; exact hk
    rcases hon with ⟨h1, rfl⟩ | ⟨h1, rfl⟩ | ⟨h1, rfl⟩ | ⟨h1, rfl⟩
    · refine ⟨_, _, rfl, cf_record, fun v w hok hA hT hV => ?_⟩
      show Calls Tryz.prog _ #[_, _] w _
      obtain ⟨m, rfl⟩ : ∃ m, n = m + 1 := ⟨n - 1, by have := hok.pos; omega⟩
      refine (record_any m (okN m) F p L q M C (HI m rfl) Z.n v w hA (ty_nsz hT) (by omega) hV (fun u hu => hok.child hu) (fun hk => (hok.rec9 hk).1) (fun hk => (hok.rec9 hk).2)).mono ?_
      intro e w' h
      exact h.iff (by rw [fitC_name hk6, sp_n, nameP_1 h1]; exact Iff.rfl)
    · refine ⟨_, _, rfl, cf_union, fun v w hok hA hT hV => ?_⟩
      show Calls Tryz.prog _ #[_, _] w _
      obtain ⟨m, rfl⟩ : ∃ m, n = m + 1 := ⟨n - 1, by have := hok.pos; omega⟩
      refine (union_any m (okN m) F p L q M C (HI m rfl) Z.n v w hA (ty_nsz hT) (by omega) hV (fun u hu => hok.child hu) (fun hk => hok.uni10 hk)).mono ?_
      intro e w' h
      exact h.iff (by rw [fitC_name hk6, sp_n, nameP_2 h1]; exact Iff.rfl)
    · refine ⟨_, _, rfl, cf_enum, fun v w hok hA hT hV => ?_⟩
      show Calls Tryz.prog _ #[_, _] w _
      refine (enum_any F p L q M C Z.n v w hA (ty_nsz hT)).mono ?_
      intro e w' h
      exact h.iff (by rw [fitC_name hk6, sp_n, nameP_3 h1]; exact Iff.rfl)
    · refine ⟨_, _, rfl, cf_wrong, fun v w hok hA hT hV => ?_⟩
      show Calls Tryz.prog _ #[_] w _
      exact wrong_ans (by rw [fitC_name hk6, sp_n]; exact nameP_no h1) v w hA
  · refine ⟨_, _, rfl, cf_list, fun v w hok hA hT hV => ?_⟩
    show Calls Tryz.prog _ #[_, _] w _
    obtain ⟨m, rfl⟩ : ∃ m, n = m + 1 := ⟨n - 1, by have := hok.pos; omega⟩
    refine (tlist_any m (okN m) F p L q M C (HI m rfl) Z v w hA hT hth hl hV (fun u hu => hok.child hu)).mono ?_
    intro e w' h
    exact h.iff (fitC_list hk hl).symm
  · refine ⟨_, _, rfl, cf_table, fun v w hok hA hT hV => ?_⟩
    show Calls Tryz.prog _ #[_, _] w _
    obtain ⟨m, rfl⟩ : ∃ m, n = m + 1 := ⟨n - 1, by have := hok.pos; omega⟩
    refine (ttable_any m (okN m) F p L q M C (HI m rfl) Z v w hA hT hth hl hV (fun u hu => hok.child hu)).mono ?_
    intro e w' h
    exact h.iff (fitC_table hk hl).symm
  · refine ⟨_, _, rfl, cf_wrong, fun v w hok hA hT hV => ?_⟩
    show Calls Tryz.prog _ #[_] w _
    exact wrong_ans (fitC_wrong hno) v w hA
theorem ask_all (F : Nat → Bool) (p : Option Addr) (L : Sc) (q : Option Addr) (M : Sc) (C : Nat) (n : Nat) : AskN n (okN n) F p L q M C := by
  induction n with
  | zero => exact ask_step 0 (fun m h => by omega)
  | succ n ih => exact ask_step (n + 1) (fun m h => by
      obtain rfl : n = m := by omega
      exact ih)
end
end Go.Proofs.YtdogddliifbjnaaGreat.Ck
