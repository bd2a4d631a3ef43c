/- compat: two schemas at once, each nil or made; Kind, Rows, Row of the one and of the other. -/
import Derived.DeepKeys4
import Derived.MapViews
import Derived.Test.YtdogddliifbjnaaGreatMg24
namespace Go.Proofs.YtdogddliifbjnaaGreat.Ck
open Go.RowKit Cm
open _root_.Go.Proofs.YtdogddliifbjnaaGreat.Nm
set_option linter.unusedVariables false
set_option linter.unusedSimpArgs false

/-- A schema that is nil, or lies in a block. -/
def PDe (F : Nat → Bool) (p : Option Addr) (L : Sc) (w : World) : Prop := (p = none ∧ L.n = 0) ∨ ∃ B, p = some ⟨B, 0, none⟩ ∧ De F B L w
structure Pq (F : Nat → Bool) (p : Option Addr) (L : Sc) (q : Option Addr) (M : Sc) (w : World) : Prop where
  a : PDe F p L w
  b : PDe F q M w
  ne : ∀ k, p = some ⟨k, 0, none⟩ → q ≠ some ⟨k, 0, none⟩
  old : ∀ k, F k = true → k < w.heap.size
section
variable {F : Nat → Bool} {p q : Option Addr} {L M : Sc} {w w' : World}
theorem Pq.symm (h : Pq F p L q M w) : Pq F q M p L w := ⟨h.b, h.a, fun k h1 h2 => h.ne k h2 h1, h.old⟩
theorem PDe.be {G : Nat → Bool} (h : PDe F p L w) (hb : Be G w w') (hG : ∀ k, k < w.heap.size → G k = true → F k = true) (hp : ∀ B, p = some ⟨B, 0, none⟩ → G B = false) : PDe F p L w' := by
  rcases h with h | ⟨B, rfl, h⟩
  · exact .inl h
  · exact .inr ⟨B, rfl, h.be hb hG (hp B rfl)⟩
theorem PDe.below (h : PDe F p L w) (hb : Below w.heap.size w w') : PDe F p L w' := h.be (G := fun _ => false) (Be.of hb) (fun k _ h => by cases h) (fun _ _ => rfl)
theorem Pq.below (h : Pq F p L q M w) (hb : Below w.heap.size w w') : Pq F p L q M w' := ⟨h.a.below hb, h.b.below hb, h.ne, fun k hk => Nat.lt_of_lt_of_le (h.old k hk) hb.size⟩
theorem PDe.add (h : PDe F p L w) (ob : Obj) : PDe (add F w.heap.size) p L (w.alloc ob) := by
  rcases h with h | ⟨B, rfl, h⟩
  · exact .inl h
  · exact .inr ⟨B, rfl, h.add ob⟩
theorem Pq.add (h : Pq F p L q M w) (ob : Obj) : Pq (add F w.heap.size) p L q M (w.alloc ob) := ⟨h.a.add ob, h.b.add ob, h.ne, fun k hk => by
  unfold Ck.add at hk
  rw [Bool.or_eq_true, decide_eq_true_eq] at hk
  rcases hk with hk | hk
  · have := h.old k hk; simp; omega
  · subst hk; simp⟩
theorem PDe.less {F' : Nat → Bool} (h : PDe F' p L w) (hF : ∀ k, F k = true → F' k = true) (hp : ∀ B, p = some ⟨B, 0, none⟩ → F B = true) : PDe F p L w := by
  rcases h with h | ⟨B, rfl, h⟩
  · exact .inl h
  · exact .inr ⟨B, rfl, h.less hF (hp B rfl)⟩
theorem PDe.mem (h : PDe F p L w) : ∀ B, p = some ⟨B, 0, none⟩ → F B = true ∧ B < w.heap.size := fun B hB => by
  rcases h with h | ⟨C, h1, h⟩
  · rw [h.1] at hB; cases hB
  · rw [h1] at hB
    obtain rfl : C = B := by simpa using hB
    exact ⟨h.1, h.lt⟩
theorem Pq.less {F' : Nat → Bool} {w0 : World} (h : Pq F' p L q M w) (hF : ∀ k, F k = true → F' k = true) (h0 : Pq F p L q M w0) : Pq F p L q M w :=
  ⟨h.a.less hF (fun B hB => (h0.a.mem B hB).1), h.b.less hF (fun B hB => (h0.b.mem B hB).1), h.ne, fun k hk => h.old k (hF k hk)⟩
/-- Blocks that are left out turn, but not the schemas' own. -/
theorem Pq.be {G : Nat → Bool} (h : Pq F p L q M w) (hb : Be G w w') (hG : ∀ k, k < w.heap.size → G k = true → F k = true) (hp : ∀ B, p = some ⟨B, 0, none⟩ → G B = false) (hq : ∀ B, q = some ⟨B, 0, none⟩ → G B = false) : Pq F p L q M w' :=
  ⟨h.a.be hb hG hp, h.b.be hb hG hq, h.ne, fun k hk => Nat.lt_of_lt_of_le (h.old k hk) hb.size⟩
/-- The schemas' own blocks. -/
def isB (p : Option Addr) (k : Nat) : Bool := match p with
  | some ⟨b, 0, none⟩ => decide (k = b)
  | _ => false
def own (p q : Option Addr) : Nat → Bool := fun k => isB p k || isB q k
theorem isB_iff {p : Option Addr} {k : Nat} : isB p k = true ↔ p = some ⟨k, 0, none⟩ := by
  unfold isB
  split
  · rename_i b
    simp only [decide_eq_true_eq, Option.some.injEq, Addr.mk.injEq, and_true]
    exact ⟨fun h => h.symm, fun h => h.symm⟩
  · rename_i h
    exact ⟨fun h2 => (by cases h2), fun h2 => absurd h2 (h k)⟩
theorem own_iff {p q : Option Addr} {k : Nat} : own p q k = true ↔ p = some ⟨k, 0, none⟩ ∨ q = some ⟨k, 0, none⟩ := by unfold own; rw [Bool.or_eq_true, isB_iff, isB_iff]
theorem own_symm (p q : Option Addr) : own q p = own p q := by funext k; unfold own; exact Bool.or_comm _ _
theorem Pq.mine (h : Pq F p L q M w) {k : Nat} (hk : own p q k = true) : F k = true ∧ k < w.heap.size := by
  rcases own_iff.1 hk with e | e
  · exact h.a.mem k e
  · exact h.b.mem k e
theorem Pq.wide (h : Pq F p L q M w) (hb : Be (Ck.own p q) w w') : Be F w w' := hb.wide (fun k _ hk => (h.mine hk).1)
theorem Pq.new (h : Pq F p L q M w) {k : Nat} (hk : w.heap.size ≤ k) : Ck.own p q k = false := by
  cases e : Ck.own p q k with
  | false => rfl
  | true => have := (h.mine e).2; omega
theorem Pq.out0 (h : Pq F p L q M w) {k : Nat} (hk : F k = false) : Ck.own p q k = false := by
  cases e : Ck.own p q k with
  | false => rfl
  | true => have := (h.mine e).1; rw [hk] at this; cases this
/-- What a call on the one keeps of both. -/
theorem Pq.one {B : Nat} (h : Pq F (some ⟨B, 0, none⟩) L q M w) (hd : De F B L w') (hb : Be (fun k => decide (k = B)) w w') : Pq F (some ⟨B, 0, none⟩) L q M w' ∧ Be (Ck.own (some ⟨B, 0, none⟩) q) w w' := by
  have hFB := hd.1
  refine ⟨⟨.inr ⟨B, rfl, hd⟩, h.b.be hb (fun k _ hk => by obtain rfl : k = B := (by simpa using hk); exact hFB) (fun C hC => ?_), h.ne, fun k hk => Nat.lt_of_lt_of_le (h.old k hk) hb.size⟩, hb.wide (fun k _ hk => by obtain rfl : k = B := (by simpa using hk); exact own_iff.2 (.inl rfl))⟩
  have := h.ne B rfl
  rw [hC] at this
  have hne : ¬ C = B := fun e => this (by rw [e])
  simp [hne]
end
theorem kd_zero {L : Sc} (h : L.n = 0) (s : ByteArray) : L.kd s = 0 := by unfold Sc.kd; rw [h]; rfl
theorem rows_zero {L : Sc} (h : L.n = 0) (s : ByteArray) : L.rows s = [] := rows_none (by rw [h]; rfl)
theorem kind_p (F : Nat → Bool) (p : Option Addr) (L : Sc) (s : ByteArray) (w : World) (h : PDe F p L w) (hs : s.size ≤ 140737488355327) :
    Calls Tryz.prog 19 #[.pointer p, .string s] w fun e w' => e = .returned (.int .i64 (L.kd s)) ∧ Below w.heap.size w w' := by
  rcases h with ⟨rfl, h0⟩ | ⟨B, rfl, h⟩
  · rw [kd_zero h0]; exact kind_de0 s w
  · exact kind_de F B L s w h hs
set_option maxRecDepth 100000 in
set_option maxHeartbeats 1000000 in
theorem ordered_de0 (s : ByteArray) (w : World) : Calls Tryz.prog 35 #[.pointer none, .string s] w fun e w' => e = .returned (.slice none 0 0) ∧ w' = w := by
  go_enter Tryz.func35, Tryz.ntmps35
  go_wp2
  go_ret
  exact ⟨rfl, rfl⟩
theorem fls_nil (w : World) : Fls none 0 (fun _ => default) w := ⟨Ex.nil _ _ _ _ _, by omega, fun i hi => by omega⟩
set_option maxRecDepth 100000 in
set_option maxHeartbeats 1000000 in
theorem rows_de0 (s : ByteArray) (w : World) : Calls Tryz.prog 20 #[.pointer none, .string s] w fun e w' => (∃ o c, e = .returned (.slice o 0 c)) ∧ Below w.heap.size w w' := by
  go_enter Tryz.func20, Tryz.ntmps20
  go_wp2_with (first
    | (go_at_call 35; refine (ordered_de0 s _).mono ?_; rintro e w2 ⟨rfl, hw⟩; rw [hw]; clear hw w2)
    | (go_at_call 34; go_loud (refine (eachfield_any none 0 0 (fun _ => default) _ (fls_nil _)).mono ?_; rintro e w3 ⟨o3, c3, U3, rfl, hb3, hF3, hq3⟩)))
  go_ret
  exact ⟨⟨_, _, rfl⟩, hb3⟩
set_option maxRecDepth 100000 in
set_option maxHeartbeats 1000000 in
theorem row_de0 (s : ByteArray) (t : Int) (w : World) : Calls Tryz.prog 21 #[.pointer none, .string s, .int .i64 t] w fun e w' => e = .returned (.tuple #[.agg #[.int .i64 0, .string ⟨#[]⟩, .int .i64 0, .string ⟨#[]⟩, .slice none 0 0], .bool false]) ∧ Below w.heap.size w w' := by
  have HC0 := Lib.hid (Cs.new w [.int .i64 0, .string ⟨#[]⟩, .int .i64 0, .string ⟨#[]⟩, .slice none 0 0] 50)
  have HB0 := Lib.hid ((Below.refl w.heap.size w).alloc (Nat.le_refl _) (.cells #[.int .i64 0, .string ⟨#[]⟩, .int .i64 0, .string ⟨#[]⟩, .slice none 0 0] 50))
  go_enter Tryz.func21, Tryz.ntmps21
  go_wp2_with (first
    | (go_at_call 35; refine (ordered_de0 s _).mono ?_; rintro e w2 ⟨rfl, hw⟩; rw [hw]; clear hw w2)
    | (go_at_call 37; go_loud (refine (rowsearch_any none 0 0 (fun _ => default) t _ (fls_nil _) (fun i j h1 h2 => by omega)).mono ?_; rintro e w3 ⟨i, b, rfl, hbt, hbf, hb3⟩; obtain rfl : b = false := (by cases b with | false => rfl | true => exact absurd (hbt rfl).1 (by omega)); have HB3 := Lib.hid hb3; have hC3 := HC0.out.below hb3 HC0.out.lt; have g0 := hC3.cell (i := 0) rfl; have g1 := hC3.cell (i := 1) rfl; have g2 := hC3.cell (i := 2) rfl; have g3 := hC3.cell (i := 3) rfl; have g4 := hC3.cell (i := 4) rfl; have x0 := hC3.frozen (i := 0) rfl; have x1 := hC3.frozen (i := 1) rfl; have x2 := hC3.frozen (i := 2) rfl; have x3 := hC3.frozen (i := 3) rfl; have x4 := hC3.frozen (i := 4) rfl; have HC3 := Lib.hid hC3; clear hC3 hbt hbf hb3)))
  have hC4 := ((((HC3.out.put (i := 0) (.int .i64 0)).put (i := 1) (.string ⟨#[]⟩)).put (i := 2) (.int .i64 0)).put (i := 3) (.string ⟨#[]⟩)).put (i := 4) (.slice none 0 0)
  have hB4 := (((((HB0.out.trans (HB3.out.mono HB0.out.size)).setCell (p := ⟨w.heap.size, 0, none⟩) (Nat.le_refl _) (.int .i64 0)).setCell (p := ⟨w.heap.size, 1, none⟩) (Nat.le_refl _) (.string ⟨#[]⟩)).setCell (p := ⟨w.heap.size, 2, none⟩) (Nat.le_refl _) (.int .i64 0)).setCell (p := ⟨w.heap.size, 3, none⟩) (Nat.le_refl _) (.string ⟨#[]⟩)).setCell (p := ⟨w.heap.size, 4, none⟩) (Nat.le_refl _) (.slice none 0 0)
  generalize (((((w3.setCell ⟨w.heap.size, 0, none⟩ (.int .i64 0)).setCell ⟨w.heap.size, 1, none⟩ (.string ⟨#[]⟩)).setCell ⟨w.heap.size, 2, none⟩ (.int .i64 0)).setCell ⟨w.heap.size, 3, none⟩ (.string ⟨#[]⟩)).setCell ⟨w.heap.size, 4, none⟩ (.slice none 0 0)) = W at hC4 hB4 ⊢
  have d0 := hC4.cell (i := 0) rfl
  have d1 := hC4.cell (i := 1) rfl
  have d2 := hC4.cell (i := 2) rfl
  have d3 := hC4.cell (i := 3) rfl
  have d4 := hC4.cell (i := 4) rfl
  refine bodyPost_ret (by simp [results, Tryz.results21, go_sem, d0, d1, d2, d3, d4]; try rfl) rfl ?_
  exact ⟨rfl, hB4⟩
/-- What Rows, and Row, hand out. -/
def RowsP (F : Nat → Bool) (p : Option Addr) (L : Sc) (q : Option Addr) (M : Sc) (s : ByteArray) (w : World) (e : Ending) (w' : World) : Prop :=
  ∃ o n c U, e = .returned (.slice o n c) ∧ Fls o n U (cut F w') ∧ rowL U n = L.rows s ∧ Pq F p L q M w' ∧ Be (own p q) w w'
def RowP (F : Nat → Bool) (p : Option Addr) (L : Sc) (q : Option Addr) (M : Sc) (s : ByteArray) (t : Int) (w : World) (e : Ending) (w' : World) : Prop :=
  ∃ (f : Fz) (b : Bool), e = .returned (.tuple #[.agg #[.int .i64 f.T, .string f.N, .int .i64 f.Y.k, .string f.Y.n, .slice f.Y.o f.Y.of.length f.Y.c], .bool b]) ∧
    (b = true → F1 f (cut F w') ∧ f.T = t ∧ f2 f ∈ L.rows s) ∧ (b = false → ∀ r ∈ L.rows s, r.1 ≠ t) ∧ Pq F p L q M w' ∧ Be (own p q) w w'
theorem rows_p (F : Nat → Bool) (p : Option Addr) (L : Sc) (q : Option Addr) (M : Sc) (s : ByteArray) (w : World) (h : Pq F p L q M w) (hs : s.size ≤ 140737488355327) :
    Calls Tryz.prog 20 #[.pointer p, .string s] w fun e w' => RowsP F p L q M s w e w' := by
  rcases h.a with ⟨rfl, h0⟩ | ⟨B, rfl, hd⟩
  · refine (rows_de0 s w).mono ?_
    rintro e w' ⟨⟨o, c, rfl⟩, hb⟩
    exact ⟨o, 0, c, fun _ => default, rfl, ⟨Ex.nil _ _ _ _ _, by omega, fun i hi => by omega⟩, by rw [rows_zero h0]; rfl, h.below hb, Be.of hb⟩
  · refine (rows_de F B L s w hd hs).mono ?_
    rintro e w' ⟨o, n, c, U, rfl, h1, h2, h3, h4⟩
    obtain ⟨a, b⟩ := h.one h3 h4
    exact ⟨o, n, c, U, rfl, h1, h2, a, b⟩
theorem row_p (F : Nat → Bool) (p : Option Addr) (L : Sc) (q : Option Addr) (M : Sc) (s : ByteArray) (t : Int) (w : World) (h : Pq F p L q M w) (hs : s.size ≤ 140737488355327) :
    Calls Tryz.prog 21 #[.pointer p, .string s, .int .i64 t] w fun e w' => RowP F p L q M s t w e w' := by
  rcases h.a with ⟨rfl, h0⟩ | ⟨B, rfl, hd⟩
  · refine (row_de0 s t w).mono ?_
    rintro e w' ⟨rfl, hb⟩
    exact ⟨⟨0, ⟨#[]⟩, default⟩, false, rfl, (fun h => by cases h), fun _ r hr => (by rw [rows_zero h0] at hr; cases hr), h.below hb, Be.of hb⟩
  · refine (row_de F B L s t w hd hs).mono ?_
    rintro e w' ⟨f, b, rfl, h1, h2, h3, h4⟩
    obtain ⟨a, c⟩ := h.one h3 h4
    exact ⟨f, b, rfl, h1, h2, a, c⟩
end Go.Proofs.YtdogddliifbjnaaGreat.Ck
/- compat: Type: if it says that two types are the same, they are of one shape. -/
namespace Go.Proofs.YtdogddliifbjnaaGreat.Ck
open Go.RowKit Cm
open _root_.Go.Proofs.YtdogddliifbjnaaGreat.Nm
set_option linter.unusedVariables false
set_option linter.unusedSimpArgs false

def SmP (P : Prop) (w : World) (e : Ending) (w' : World) : Prop := ∃ r : Bool, e = .returned (.bool r) ∧ (r = true → P) ∧ Below w.heap.size w w'
theorem two_cs (w : World) (vs us : List Value) (T : TypeId) :
    Cs w.heap.size vs ((w.alloc (.cells vs.toArray T)).alloc (.cells us.toArray T)) ∧ Cs (w.heap.size + 1) us ((w.alloc (.cells vs.toArray T)).alloc (.cells us.toArray T)) ∧ Below w.heap.size w ((w.alloc (.cells vs.toArray T)).alloc (.cells us.toArray T)) := by
  have h1 := Cs.new (w.alloc (.cells vs.toArray T)) us T
  rw [show (w.alloc (.cells vs.toArray T)).heap.size = w.heap.size + 1 by simp] at h1
  exact ⟨(Cs.new w vs T).alloc _, h1, ((Below.refl w.heap.size w).alloc (Nat.le_refl _) _).alloc (by simp) _⟩
/-- What the induction says. -/
def SmI (N : Nat) : Prop := ∀ (a b : Ty) (m : Int) (w : World), Th N a.sp → TyIn w a → TyIn w b → -1 ≤ m → m ≤ 1000000 →
  Calls Tryz.prog 106 #[.agg #[.int .i64 a.k, .string a.n, .slice a.o a.of.length a.c], .agg #[.int .i64 b.k, .string b.n, .slice b.o b.of.length b.c], .int .i64 m] w (fun e w' => SmP (b.sp = a.sp) w e w')
set_option maxRecDepth 100000 in
set_option maxHeartbeats 2000000 in
theorem same1_any (N : Nat) (ih : SmI N) (a b : Ty) (m : Int) (g : Nat) (w : World) (ha : Th N a.sp) (hv : TyIn w a) (hu : TyIn w b) (hm : 0 ≤ m) (hm2 : m ≤ 1000000) (hg : w.cell? ⟨g, 0, none⟩ = some (.int .i64 m)) :
    Calls Tryz.prog 120 #[.agg #[.int .i64 a.k, .string a.n, .slice a.o a.of.length a.c], .agg #[.int .i64 b.k, .string b.n, .slice b.o b.of.length b.c], .pointer (some ⟨g, 0, none⟩)] w (fun e w' => SmP (b.sp = a.sp) w e w') := by
  have hglt := World.block_lt_of_cell? w _ hg
  obtain ⟨hA, hB, hW⟩ := two_cs w [.int .i64 a.k, .string a.n, .slice a.o a.of.length a.c] [.int .i64 b.k, .string b.n, .slice b.o b.of.length b.c] 48
  have hg2 := (hW.cell (p := ⟨g, 0, none⟩) hglt).trans hg
  have HW := Lib.hid hW
  have HV := Lib.hid (ty_below hv hW (Nat.le_refl _))
  have HU := Lib.hid (ty_below hu hW (Nat.le_refl _))
  have HIH := Lib.hid ih
  have HTA := Lib.hid ha
  clear hv hu hW ih ha hg hA hB
  have hwr : IntKind.i64.wrap (m - 1) = m - 1 := by rw [IntKind.wrap_i64]; omega
  go_enter Tryz.func120, Tryz.ntmps120
  go_wp2_with (go_at_call 106; go_loud (refine (HIH.out a b (m - 1) _ HTA.out HV.out HU.out (by omega) (by omega)).mono ?_; rintro e w2 ⟨r, rfl, hr, hb2⟩; have HR := Lib.hid hr; clear hr))
  go_ret
  exact ⟨r, rfl, HR.out, HW.out.trans (hb2.mono HW.out.size)⟩
set_option maxRecDepth 100000 in
set_option maxHeartbeats 2000000 in
theorem eqt_any (N : Nat) (ih : SmI N) (k : Int) (n : ByteArray) (o : Option Addr) (c : Nat) (of : List Ty) (k' : Int) (n' : ByteArray) (o' : Option Addr) (c' : Nat) (of' : List Ty) (m : Int) (g : Nat) (w : World)
    (ha : Th (N + 1) (Ty.mk k n o c of).sp) (hv : TyIn w (.mk k n o c of)) (hu : TyIn w (.mk k' n' o' c' of')) (hm : 0 ≤ m) (hm2 : m ≤ 1000000) (hg : w.cell? ⟨g, 0, none⟩ = some (.int .i64 m)) :
    Calls Tryz.prog 119 #[.slice o of.length c, .slice o' of'.length c', .func (.func 120) #[] #[.pointer (some ⟨g, 0, none⟩)]] w (fun e w' => SmP (of'.map Ty.sp = of.map Ty.sp) w e w') := by
  have hlen : of.length ≤ 1000 := th_len ha
  have hlen2 : of.length ≤ 9223372036854775807 := by omega
  have hlen' : of'.length ≤ 9223372036854775807 := by cases hu; assumption
  have hglt := World.block_lt_of_cell? w _ hg
  have HG := Lib.hid hg
  have HV := Lib.hid hv
  have HU := Lib.hid hu
  have HIH := Lib.hid ih
  have HTA := Lib.hid ha
  clear hv hu ih ha hg
  by_cases e5 : of.length = of'.length
  · have hne : ((of.length : Int) != (of'.length : Int)) = false := by simp; omega
    have E5 := Lib.hid e5
    clear e5
    go_enter Tryz.func119, Tryz.ntmps119
    go_wp2
    go_loopw [17] (fun i wr => ∃ j, j ≤ of.length ∧ i = .int .i64 (j : Nat) ∧ Hid (∀ (q : Nat) (v u : Ty), q < j → of[q]? = some v → of'[q]? = some u → u.sp = v.sp) ∧ Hid (Below w.heap.size w wr)) (fun i _ => of.length - (intOf i).toNat)
    case atStart => exact ⟨0, by omega, rfl, Lib.hid (fun q v u hq => by omega), Lib.hid (Below.refl _ _)⟩
    case round =>
      obtain ⟨j, hj, rfl, HP, HE⟩ := hrel
      have hsz := HE.out.size
      by_cases hjl : j < of.length
      · have hji : (j : Int) < (of.length : Int) := by omega
        have hji' : (j : Int) < (of'.length : Int) := by have := E5.out; omega
        have hjl' : j < of'.length := by omega
        obtain ⟨v, hvi⟩ : ∃ v, of[j]? = some v := ⟨_, List.getElem?_eq_getElem hjl⟩
        obtain ⟨u, hui⟩ : ∃ u, of'[j]? = some u := ⟨_, List.getElem?_eq_getElem hjl'⟩
        obtain ⟨a, Ab, Ao, As, rfl, hA, hAb, c0, c1, c2, hin⟩ := ty_place (ty_below HV.out HE.out (Nat.le_refl _)) hvi
        obtain ⟨b, Bb, Bo, Bs, rfl, hB, hBb, b0, b1, b2, hun⟩ := ty_place (ty_below HU.out HE.out (Nat.le_refl _)) hui
        have hHt := Lib.hid (And.intro hvi hui)
        have hth := Lib.hid (show Th N v.sp from th_child HTA.out hvi)
        have hBx := (two_cs wr [.int .i64 v.k, .string v.n, .slice v.o v.of.length v.c] [.int .i64 u.k, .string u.n, .slice u.o u.of.length u.c] 48).2.2
        have HBx := Lib.hid hBx
        have HVx := Lib.hid (ty_below hin hBx (Nat.le_refl _))
        have HUx := Lib.hid (ty_below hun hBx (Nat.le_refl _))
        have HGx := Lib.hid ((hBx.cell (p := ⟨g, 0, none⟩) (by show g < wr.heap.size; omega)).trans ((HE.out.cell (p := ⟨g, 0, none⟩) hglt).trans HG.out))
        clear hBx hin hun hvi hui
        go_wp2_with (go_at_call 120; go_loud (refine (same1_any N HIH.out v u m g _ hth.out HVx.out HUx.out hm hm2 HGx.out).mono ?_; rintro e w2 ⟨r, rfl, hr, hb2⟩; have HR := Lib.hid hr; clear hr))
        · go_ret
          exact ⟨false, rfl, (fun h => by cases h), HE.out.trans ((HBx.out.trans (hb2.mono HBx.out.size)).mono hsz)⟩
        · go_roundw
          case rel => exact ⟨j + 1, by omega, by go_num, Lib.hid (fun q v' u' hq hv' hu' => by
            by_cases e : q = j
            · subst e
              rw [hHt.out.1] at hv'; rw [hHt.out.2] at hu'
              obtain rfl := Option.some.inj hv'
              obtain rfl := Option.some.inj hu'
              exact HR.out (by first | assumption | simp_all)
            · exact HP.out q v' u' (by omega) hv' hu'), HE.out.trans ((HBx.out.trans (hb2.mono HBx.out.size)).mono hsz)⟩
          case measure => simp [intOf]; omega
      · have hji : ¬ (j : Int) < (of.length : Int) := by omega
        have HQ : Hid (of'.map Ty.sp = of.map Ty.sp) := Lib.hid (by
          apply List.ext_getElem?
          intro q
          rw [List.getElem?_map, List.getElem?_map]
          by_cases hq : q < of.length
          · rw [List.getElem?_eq_getElem hq, List.getElem?_eq_getElem (by have := E5.out; omega)]
            show some _ = some _
            rw [HP.out q _ _ (by omega) (List.getElem?_eq_getElem hq) (List.getElem?_eq_getElem (by have := E5.out; omega))]
          · rw [List.getElem?_eq_none (by have := E5.out; omega), List.getElem?_eq_none (by have := E5.out; omega)])
        go_wp2
        go_ret
        exact ⟨true, rfl, fun _ => HQ.out, HE.out⟩
  · have hne : ((of.length : Int) != (of'.length : Int)) = true := by simp; omega
    clear e5
    go_enter Tryz.func119, Tryz.ntmps119
    go_wp2
    go_ret
    exact ⟨false, rfl, (fun h => by cases h), Below.refl _ _⟩
set_option maxRecDepth 100000 in
set_option maxHeartbeats 2000000 in
theorem same_all : ∀ N, SmI N := by
  intro N
  induction N with
  | zero => intro a b m w h; exact h.elim
  | succ N ih =>
    intro a b m w ha hv hu hm hm2
    obtain ⟨k, n, o, c, of⟩ := a
    obtain ⟨k', n', o', c', of'⟩ := b
    show Calls Tryz.prog 106 #[.agg #[.int .i64 k, .string n, .slice o of.length c], .agg #[.int .i64 k', .string n', .slice o' of'.length c'], .int .i64 m] w _
    obtain ⟨hA, hB, hW0⟩ := two_cs w [.int .i64 k, .string n, .slice o of.length c] [.int .i64 k', .string n', .slice o' of'.length c'] 48
    have hm0 := Cs.new ((w.alloc (.cells #[.int .i64 k, .string n, .slice o of.length c] 48)).alloc (.cells #[.int .i64 k', .string n', .slice o' of'.length c'] 48)) [.int .i64 m] 3
    rw [show ((w.alloc (.cells #[.int .i64 k, .string n, .slice o of.length c] 48)).alloc (.cells #[.int .i64 k', .string n', .slice o' of'.length c'] 48)).heap.size = w.heap.size + 1 + 1 by simp] at hm0
    have hW := hW0.alloc hW0.size (.cells #[.int .i64 m] 3)
    have HA := Lib.hid (hA.alloc (.cells #[.int .i64 m] 3))
    have HB := Lib.hid (hB.alloc (.cells #[.int .i64 m] 3))
    have HM := Lib.hid (hm0.cell (i := 0) rfl)
    have HW := Lib.hid hW
    have HV := Lib.hid (ty_below hv hW (Nat.le_refl _))
    have HU := Lib.hid (ty_below hu hW (Nat.le_refl _))
    have HIH := Lib.hid ih
    have HTA := Lib.hid ha
    have hmf : ∀ (fn : Fn) (first cap : Array Value) (w : World), (Instr.makeFunc fn first cap).run Tryz.prog w = .ok (.func fn first cap) w := fun _ _ _ _ => rfl
    clear hv hu ih ha hA hB hW hW0 hm0
    by_cases h0 : 0 ≤ m
    · by_cases e1 : k = k'
      · subst e1
        by_cases e2 : n = n'
        · subst e2
          have hss : (n.toList == n.toList) = true := by simp
          go_enter Tryz.func106, Tryz.ntmps106
          go_wp2_with (go_at_call 119; go_loud (refine (eqt_any N HIH.out k n o c of k n o' c' of' m _ _ HTA.out HV.out HU.out h0 hm2 HM.out).mono ?_; rintro e w2 ⟨r, rfl, hr, hb2⟩; have HR := Lib.hid hr; clear hr))
          go_ret
          exact ⟨r, rfl, fun h => by rw [sp_mk, sp_mk, HR.out h], HW.out.trans (hb2.mono HW.out.size)⟩
        · have hss := txt_neq e2
          clear e2
          go_enter Tryz.func106, Tryz.ntmps106
          go_wp2
          go_ret
          exact ⟨false, rfl, (fun h => by cases h), HW.out⟩
      · have hkk : (k == k') = false := by simpa using e1
        clear e1
        go_enter Tryz.func106, Tryz.ntmps106
        go_wp2
        go_ret
        exact ⟨false, rfl, (fun h => by cases h), HW.out⟩
    · go_enter Tryz.func106, Tryz.ntmps106
      go_wp2
      go_ret
      exact ⟨false, rfl, (fun h => by cases h), HW.out⟩
set_option maxRecDepth 100000 in
set_option maxHeartbeats 2000000 in
theorem type_any (a b : Ty) (w : World) (ha : Th 21 a.sp) (hv : TyIn w a) (hu : TyIn w b) :
    Calls Tryz.prog 89 #[.agg #[.int .i64 a.k, .string a.n, .slice a.o a.of.length a.c], .agg #[.int .i64 b.k, .string b.n, .slice b.o b.of.length b.c]] w (fun e w' => SmP (b.sp = a.sp) w e w') := by
  obtain ⟨hA, hB, hW⟩ := two_cs w [.int .i64 a.k, .string a.n, .slice a.o a.of.length a.c] [.int .i64 b.k, .string b.n, .slice b.o b.of.length b.c] 48
  have HW := Lib.hid hW
  have HV := Lib.hid (ty_below hv hW (Nat.le_refl _))
  have HU := Lib.hid (ty_below hu hW (Nat.le_refl _))
  have HTA := Lib.hid ha
  clear hv hu hW ha hA hB
  go_enter Tryz.func89, Tryz.ntmps89
  go_wp2_with (go_at_call 106; go_loud (refine (same_all 21 a b 131072 _ HTA.out HV.out HU.out (by omega) (by omega)).mono ?_; rintro e w2 ⟨r, rfl, hr, hb2⟩; have HR := Lib.hid hr; clear hr))
  go_ret
  exact ⟨r, rfl, HR.out, HW.out.trans (hb2.mono HW.out.size)⟩
end Go.Proofs.YtdogddliifbjnaaGreat.Ck
/- compat: the map from places to methods. -/
namespace Go.Proofs.YtdogddliifbjnaaGreat.Ck
open Go.RowKit Cm
open _root_.Go.Proofs.YtdogddliifbjnaaGreat.Nm
set_option linter.unusedVariables false
set_option linter.unusedSimpArgs false

theorem laid_out : laidOutB Tryz.prog = true := by kernel_rfl
theorem place_law : Maps.Keyed Tryz.prog 100 := Maps.Keyed.of_law (deep_law_laid laid_out (m := 3) (by omega) (of_decide_eq_true (by kernel_rfl)) (by kernel_rfl) (by rw [Tryz.underlying100]))
theorem place_key (a b : ByteArray) (ha : a.size ≤ 140737488355327) (hb : b.size ≤ 140737488355327) : ∃ kl, keyOf Tryz.prog 100 (.agg #[.string a, .string b]) = some kl ∧ WideAt.IsKeyLit kl := by
  have ha2 : a.size ≤ maxLen := by unfold maxLen; omega
  have hb2 : b.size ≤ maxLen := by unfold maxLen; omega
  have hk : Tryz.prog.keyType 100 = true := by kernel_rfl
  have hc : Tryz.prog.cellsOf 100 = 2 := by kernel_rfl
  have hs : Tryz.prog.cellsOf 9 = 1 := by kernel_rfl
  obtain ⟨m, hm⟩ : ∃ m, Tryz.prog.types.size + 1 = m + 1 + 1 := ⟨Tryz.prog.types.size - 1, by have : 0 < Tryz.prog.types.size := of_decide_eq_true (by kernel_rfl); omega⟩
  have h : (Tryz.prog.keyLits (Tryz.prog.types.size + 1) 100 [.string a, .string b]) = some [.string a.data.toList, .string b.data.toList] := by
    rw [hm]
    simp [Program.keyLits, Tryz.underlying100, Tryz.underlying9, hc, hs, ha2, hb2]
  refine ⟨.string (keyBytes [.string a.data.toList, .string b.data.toList]), ?_, by simp [WideAt.IsKeyLit]⟩
  unfold keyOf
  rw [Tryz.underlying100]
  have hf : (Value.agg #[.string a, .string b]).formed Tryz.prog 100 = true := by simp [Value.formed, Tryz.underlying100, hc]
  show (if (Tryz.prog.keyType 100 && (Value.agg #[.string a, .string b]).formed Tryz.prog 100) = true then (Tryz.prog.keyLits (Tryz.prog.types.size + 1) 100 [.string a, .string b]).map (fun ls => Lit.string (keyBytes ls)) else none) = _
  rw [hk, hf, h]
  rfl
/-- A method's value as it is read. -/
def mtdE (v : Value) : Option (DataW Unit × List MemPlace) :=
  match v with
  | .agg cs => match cs.toList with
    | [.int .i64 t, .string n, .string i, .string o, .bool b] => some (.agg [.lit (.int .i64 t), .lit (.string n.data.toList), .lit (.string i.data.toList), .lit (.string o.data.toList), .lit (.bool b)], [])
    | _ => none
  | _ => none
theorem mtdE_mk (m : Mz) : ∃ d, mtdE (.agg #[.int .i64 m.T, .string m.N, .string m.I, .string m.O, .bool m.W]) = some (d, []) := ⟨_, rfl⟩
theorem mtdE_inv {v : Value} {x : DataW Unit × List MemPlace} (h : mtdE v = some x) : ∃ m : Mz, v = .agg #[.int .i64 m.T, .string m.N, .string m.I, .string m.O, .bool m.W] := by
  unfold mtdE at h
  split at h
  · rename_i cs
    split at h
    · rename_i t n i o b hc
      exact ⟨⟨t, n, i, o, b⟩, by rw [show cs = #[.int .i64 t, .string n, .string i, .string o, .bool b] from Array.toList_inj.1 hc]⟩
    · cases h
  · cases h
/-- Block B is a map of methods. -/
def Mm (B c : Nat) (w : World) : Prop := ∃ D : DataW Unit, w.ownsMap Tryz.prog 100 mtdE B c D
section
variable {B c : Nat} {w w' : World}
theorem Mm.lt (h : Mm B c w) : B < w.heap.size := by
  obtain ⟨D, h⟩ := h
  exact h.lt
theorem Mm.kept (h : Mm B c w) (hb : w'.heap[B]? = w.heap[B]?) : Mm B c w' := by
  obtain ⟨D, ⟨es, clock, h1, h2⟩⟩ := h
  exact ⟨D, ⟨es, clock, hb.trans h1, h2⟩⟩
theorem Mm.below {m : Nat} (h : Mm B c w) (hb : Below m w w') (hm : B < m) : Mm B c w' := h.kept (hb.block B hm)
theorem Mm.mono {c' : Nat} (h : Mm B c w) (hc : c ≤ c') : Mm B c' w := by
  obtain ⟨D, h1⟩ := h
  exact ⟨D, h1.mono hc⟩
theorem Mm.made (w : World) : Mm w.heap.size 0 (w.alloc (.map #[] 0)) := ⟨_, World.ownsMap_made w _ _ _⟩
theorem zeroM (w : World) : (zeroValue 98).run Tryz.prog w = .ok (.agg #[.int .i64 0, .string ⟨#[]⟩, .string ⟨#[]⟩, .string ⟨#[]⟩, .bool false]) w := by kernel_rfl
theorem Mm.look (h : Mm B c w) (a b : ByteArray) (ha : a.size ≤ 140737488355327) (hb : b.size ≤ 140737488355327) :
    ∃ (m : Mz) (x : Bool), (Instr.lookup 57 (.map (some B)) (.agg #[.string a, .string b]) true).run Tryz.prog w = .ok (.tuple #[.agg #[.int .i64 m.T, .string m.N, .string m.I, .string m.O, .bool m.W], .bool x]) w := by
  obtain ⟨D, h1⟩ := h
  obtain ⟨kl, hk, _⟩ := place_key a b ha hb
  obtain ⟨d0, hd0⟩ := mtdE_mk ⟨0, ⟨#[]⟩, ⟨#[]⟩, ⟨#[]⟩, false⟩
  obtain ⟨v, ps, hrun, hv⟩ := h1.look_ok place_law Tryz.underlying57 (zeroM w) hd0 hk
  obtain ⟨m, rfl⟩ := mtdE_inv hv
  exact ⟨m, _, hrun⟩
theorem Mm.store (h : Mm B c w) (a b : ByteArray) (m : Mz) (ha : a.size ≤ 140737488355327) (hb : b.size ≤ 140737488355327) (hc : c < maxLen) :
    ∃ w', (Instr.mapUpdate 57 (.map (some B)) (.agg #[.string a, .string b]) (.agg #[.int .i64 m.T, .string m.N, .string m.I, .string m.O, .bool m.W])).run Tryz.prog w = .ok () w' ∧ Mm B (c + 1) w' ∧ w.grownBy w' (some B) := by
  obtain ⟨D, h1⟩ := h
  obtain ⟨kl, hk, _⟩ := place_key a b ha hb
  obtain ⟨d, hd⟩ := mtdE_mk m
  obtain ⟨w', hrun, hown, hg⟩ := h1.update place_law Tryz.underlying57 hc hk hd
  exact ⟨w', hrun, ⟨_, hown⟩, hg⟩
end
end Go.Proofs.YtdogddliifbjnaaGreat.Ck
/- compat: wrongRow, wrongNew, wrongMethod. -/
namespace Go.Proofs.YtdogddliifbjnaaGreat.Ck
open Go.RowKit Cm
open _root_.Go.Proofs.YtdogddliifbjnaaGreat.Nm
set_option linter.unusedVariables false
set_option linter.unusedSimpArgs false

/-- An error's number, and what follows if it is none. -/
def ErP (P : Prop) (F : Nat → Bool) (p : Option Addr) (L : Sc) (q : Option Addr) (M : Sc) (w : World) (e : Ending) (w' : World) : Prop :=
  ∃ er : Int, e = .returned (.int .i64 er) ∧ (er = 0 → P) ∧ Pq F p L q M w' ∧ Be (own p q) w w'
/-- A row that a row takes the place of, or that may go. -/
def QRow (M : Sc) (d : Dz) (f : Fz) : Prop := (∃ r ∈ M.rows d.S, r.1 = f.T ∧ r.2 = f.Y.sp) ∨ ((∀ r ∈ M.rows d.S, r.1 ≠ f.T) ∧ d.K = 1 ∧ f.Y.k = 9)
/-- A row that was there, or may be absent. -/
def QNew (L : Sc) (d : Dz) (f : Fz) : Prop := (∃ r ∈ L.rows d.S, r.1 = f.T) ∨ f.Y.k = 9
theorem F1.sp {f : Fz} {w : World} (h : F1 f w) : Th 21 f.Y.sp := h.th
set_option maxRecDepth 100000 in
set_option maxHeartbeats 4000000 in
theorem wrow_any (F : Nat → Bool) (p : Option Addr) (L : Sc) (q : Option Addr) (M : Sc) (m : Nat) (d : Dz) (f : Fz) (w : World) (h : Pq F p L q M w) (hf : F1 f (cut F w)) (hs : d.S.size ≤ 140737488355327) :
    Calls Tryz.prog 60 #[.agg #[.pointer p, .pointer q, .map (some m)], .agg #[.int .i64 d.K, .string d.S, .slice d.fo d.fl d.fc, .slice d.mo d.ml d.mc, .int .i64 d.A], .agg #[.int .i64 f.T, .string f.N, .int .i64 f.Y.k, .string f.Y.n, .slice f.Y.o f.Y.of.length f.Y.c]] w
      (fun e w' => ErP (QRow M d f) F p L q M w e w') := by
  have hB0 := (((Below.refl w.heap.size w).alloc (Nat.le_refl _) (.cells #[.pointer p, .pointer q, .map (some m)] 60)).alloc (by simp) (.cells #[.int .i64 d.K, .string d.S, .slice d.fo d.fl d.fc, .slice d.mo d.ml d.mc, .int .i64 d.A] 43)).alloc (by simp; omega) (.cells #[.int .i64 f.T, .string f.N, .int .i64 f.Y.k, .string f.Y.n, .slice f.Y.o f.Y.of.length f.Y.c] 50)
  have hC0 := ((Cs.new w [.pointer p, .pointer q, .map (some m)] 60).alloc (.cells #[.int .i64 d.K, .string d.S, .slice d.fo d.fl d.fc, .slice d.mo d.ml d.mc, .int .i64 d.A] 43)).alloc (.cells #[.int .i64 f.T, .string f.N, .int .i64 f.Y.k, .string f.Y.n, .slice f.Y.o f.Y.of.length f.Y.c] 50)
  have hC1 := (Cs.new (w.alloc (.cells #[.pointer p, .pointer q, .map (some m)] 60)) [.int .i64 d.K, .string d.S, .slice d.fo d.fl d.fc, .slice d.mo d.ml d.mc, .int .i64 d.A] 43).alloc (.cells #[.int .i64 f.T, .string f.N, .int .i64 f.Y.k, .string f.Y.n, .slice f.Y.o f.Y.of.length f.Y.c] 50)
  have hC2 := Cs.new ((w.alloc (.cells #[.pointer p, .pointer q, .map (some m)] 60)).alloc (.cells #[.int .i64 d.K, .string d.S, .slice d.fo d.fl d.fc, .slice d.mo d.ml d.mc, .int .i64 d.A] 43)) [.int .i64 f.T, .string f.N, .int .i64 f.Y.k, .string f.Y.n, .slice f.Y.o f.Y.of.length f.Y.c] 50
  rw [show (w.alloc (.cells #[.pointer p, .pointer q, .map (some m)] 60)).heap.size = w.heap.size + 1 by simp] at hC1
  rw [show ((w.alloc (.cells #[.pointer p, .pointer q, .map (some m)] 60)).alloc (.cells #[.int .i64 d.K, .string d.S, .slice d.fo d.fl d.fc, .slice d.mo d.ml d.mc, .int .i64 d.A] 43)).heap.size = w.heap.size + 1 + 1 by simp] at hC2
  have hH := h.below hB0
  have hF := hf.below (by rw [cut_size]; exact cut_below hB0)
  have hno : ∀ k, w.heap.size ≤ k → own p q k = false := fun k hk => h.new hk
  have HNO := Lib.hid hno
  have HB0 := Lib.hid hB0
  have HH := Lib.hid hH
  have HF := Lib.hid hF
  generalize hW0 : (((w.alloc (.cells #[.pointer p, .pointer q, .map (some m)] 60)).alloc (.cells #[.int .i64 d.K, .string d.S, .slice d.fo d.fl d.fc, .slice d.mo d.ml d.mc, .int .i64 d.A] 43)).alloc (.cells #[.int .i64 f.T, .string f.N, .int .i64 f.Y.k, .string f.Y.n, .slice f.Y.o f.Y.of.length f.Y.c] 50)) = W0 at HB0 HH HF hC0 hC1 hC2
  have a1 := hC0.cell (i := 1) rfl
  have b1 := hC1.cell (i := 1) rfl
  have d0 := hC2.cell (i := 0) rfl
  rw [← hW0] at a1 b1 d0
  have HW0 := Lib.hid hW0
  have HC1 := Lib.hid hC1
  have HC2 := Lib.hid hC2
  clear h hf hH hF hC0 hC1 hC2 hB0 hno hW0
  have hnot : ∀ (x : Bool) (w : World), (Op.unary .not (.bool x)).run Tryz.prog w = .ok (.bool (!x)) w := fun _ _ => rfl
  go_enter Tryz.func60, Tryz.ntmps60
  go_upto_region 2 with (go_at_call 21; go_loud (rw [HW0.out]; refine (row_p F q M p L d.S f.T _ HH.out.symm hs).mono ?_; rintro e w2 ⟨g, b, rfl, hbt, hbf, hp2, hb2⟩; have HBT := Lib.hid hbt; have HBF := Lib.hid hbf; have HP2 := Lib.hid hp2.symm; rw [own_symm] at hb2; have HB2 := Lib.hid hb2; clear hbt hbf hp2 hb2))
  have hsz := HB0.out.size
  have hC1 := (HC1.out.be HB2.out (HNO.out _ (by omega))).alloc (.cells #[.int .i64 g.T, .string g.N, .int .i64 g.Y.k, .string g.Y.n, .slice g.Y.o g.Y.of.length g.Y.c] 50)
  have hC2 := (HC2.out.be HB2.out (HNO.out _ (by omega))).alloc (.cells #[.int .i64 g.T, .string g.N, .int .i64 g.Y.k, .string g.Y.n, .slice g.Y.o g.Y.of.length g.Y.c] 50)
  have hC3 := Cs.new w2 [.int .i64 g.T, .string g.N, .int .i64 g.Y.k, .string g.Y.n, .slice g.Y.o g.Y.of.length g.Y.c] 50
  have hB3 := (Below.refl w2.heap.size w2).alloc (Nat.le_refl _) (.cells #[.int .i64 g.T, .string g.N, .int .i64 g.Y.k, .string g.Y.n, .slice g.Y.o g.Y.of.length g.Y.c] 50)
  have HP3 := Lib.hid (HP2.out.below hB3)
  have HB3 := Lib.hid (((Be.of HB0.out).trans HB2.out).after hB3)
  have HF3 := Lib.hid ((HF.out.below (by rw [cut_size]; exact HH.out.wide HB2.out)).below (by rw [cut_size]; exact cut_below hB3))
  have k0 := hC1.cell (i := 0) rfl
  have y2 := hC2.cell (i := 2) rfl
  have y3 := hC2.cell (i := 3) rfl
  have y4 := hC2.cell (i := 4) rfl
  have z2 := hC3.cell (i := 2) rfl
  have z3 := hC3.cell (i := 3) rfl
  have z4 := hC3.cell (i := 4) rfl
  have HC1' := Lib.hid hC1
  have HC2' := Lib.hid hC2
  have HBB := Lib.hid hB3
  clear hC1 hC2 hC3 hB3
  cases b with
  | true =>
    obtain ⟨hg1, hg2, hg3⟩ := HBT.out rfl
    have HG := Lib.hid (hg1.below (by rw [cut_size]; exact cut_below HBB.out))
    have HGM := Lib.hid (And.intro hg2 hg3)
    clear hg1 hg2 hg3
    go_wp2_with (go_at_call 89; go_loud (refine (type_any f.Y g.Y _ HF3.out.th (ty_sub HF3.out.ty (cut_all _ _)) (ty_sub HG.out.ty (cut_all _ _))).mono ?_; rintro e w4 ⟨r, rfl, hr, hb4⟩; have HR := Lib.hid hr; have HP4 := Lib.hid (HP3.out.below hb4); have HB4 := Lib.hid (HB3.out.after hb4); clear hr hb4))
    · go_ret
      exact ⟨8, rfl, (fun h => by omega), HP4.out, HB4.out⟩
    · rename_i hrr
      have HRR := Lib.hid (show r = true by simpa using hrr)
      clear hrr
      go_ret
      exact ⟨0, rfl, fun _ => .inl ⟨f2 g, HGM.out.2, HGM.out.1, HR.out HRR.out⟩, HP4.out, HB4.out⟩
  | false =>
    have HN := Lib.hid (HBF.out rfl)
    by_cases hk : d.K = 1
    · have e1 : (d.K != 1) = false := by simp [hk]
      by_cases h9 : f.Y.k = 9
      · have e9 : (f.Y.k != 9) = false := by simp [h9]
        have HQ : Hid (QRow M d f) := Lib.hid (.inr ⟨HN.out, hk, h9⟩)
        clear hk h9
        go_wp2
        go_ret
        exact ⟨0, rfl, fun _ => HQ.out, HP3.out, HB3.out⟩
      · have e9 : (f.Y.k != 9) = true := by simpa using h9
        clear hk h9
        go_wp2
        go_ret
        exact ⟨9, rfl, (fun h => by omega), HP3.out, HB3.out⟩
    · have e1 : (d.K != 1) = true := by simpa using hk
      clear hk
      go_wp2
      go_ret
      exact ⟨9, rfl, (fun h => by omega), HP3.out, HB3.out⟩
set_option maxRecDepth 100000 in
set_option maxHeartbeats 4000000 in
theorem wnew_any (F : Nat → Bool) (p : Option Addr) (L : Sc) (q : Option Addr) (M : Sc) (m : Nat) (d : Dz) (f : Fz) (w : World) (h : Pq F p L q M w) (hf : F1 f (cut F w)) (hs : d.S.size ≤ 140737488355327) :
    Calls Tryz.prog 65 #[.agg #[.pointer p, .pointer q, .map (some m)], .agg #[.int .i64 d.K, .string d.S, .slice d.fo d.fl d.fc, .slice d.mo d.ml d.mc, .int .i64 d.A], .agg #[.int .i64 f.T, .string f.N, .int .i64 f.Y.k, .string f.Y.n, .slice f.Y.o f.Y.of.length f.Y.c]] w
      (fun e w' => ErP (QNew L d f) F p L q M w e w') := by
  have hB0 := (((Below.refl w.heap.size w).alloc (Nat.le_refl _) (.cells #[.pointer p, .pointer q, .map (some m)] 60)).alloc (by simp) (.cells #[.int .i64 d.K, .string d.S, .slice d.fo d.fl d.fc, .slice d.mo d.ml d.mc, .int .i64 d.A] 43)).alloc (by simp; omega) (.cells #[.int .i64 f.T, .string f.N, .int .i64 f.Y.k, .string f.Y.n, .slice f.Y.o f.Y.of.length f.Y.c] 50)
  have hC0 := ((Cs.new w [.pointer p, .pointer q, .map (some m)] 60).alloc (.cells #[.int .i64 d.K, .string d.S, .slice d.fo d.fl d.fc, .slice d.mo d.ml d.mc, .int .i64 d.A] 43)).alloc (.cells #[.int .i64 f.T, .string f.N, .int .i64 f.Y.k, .string f.Y.n, .slice f.Y.o f.Y.of.length f.Y.c] 50)
  have hC1 := (Cs.new (w.alloc (.cells #[.pointer p, .pointer q, .map (some m)] 60)) [.int .i64 d.K, .string d.S, .slice d.fo d.fl d.fc, .slice d.mo d.ml d.mc, .int .i64 d.A] 43).alloc (.cells #[.int .i64 f.T, .string f.N, .int .i64 f.Y.k, .string f.Y.n, .slice f.Y.o f.Y.of.length f.Y.c] 50)
  have hC2 := Cs.new ((w.alloc (.cells #[.pointer p, .pointer q, .map (some m)] 60)).alloc (.cells #[.int .i64 d.K, .string d.S, .slice d.fo d.fl d.fc, .slice d.mo d.ml d.mc, .int .i64 d.A] 43)) [.int .i64 f.T, .string f.N, .int .i64 f.Y.k, .string f.Y.n, .slice f.Y.o f.Y.of.length f.Y.c] 50
  rw [show (w.alloc (.cells #[.pointer p, .pointer q, .map (some m)] 60)).heap.size = w.heap.size + 1 by simp] at hC1
  rw [show ((w.alloc (.cells #[.pointer p, .pointer q, .map (some m)] 60)).alloc (.cells #[.int .i64 d.K, .string d.S, .slice d.fo d.fl d.fc, .slice d.mo d.ml d.mc, .int .i64 d.A] 43)).heap.size = w.heap.size + 1 + 1 by simp] at hC2
  have hH := h.below hB0
  have hF := hf.below (by rw [cut_size]; exact cut_below hB0)
  have hno : ∀ k, w.heap.size ≤ k → own p q k = false := fun k hk => h.new hk
  have HNO := Lib.hid hno
  have HB0 := Lib.hid hB0
  have HH := Lib.hid hH
  have HF := Lib.hid hF
  generalize hW0 : (((w.alloc (.cells #[.pointer p, .pointer q, .map (some m)] 60)).alloc (.cells #[.int .i64 d.K, .string d.S, .slice d.fo d.fl d.fc, .slice d.mo d.ml d.mc, .int .i64 d.A] 43)).alloc (.cells #[.int .i64 f.T, .string f.N, .int .i64 f.Y.k, .string f.Y.n, .slice f.Y.o f.Y.of.length f.Y.c] 50)) = W0 at HB0 HH HF hC0 hC1 hC2
  have a1 := hC0.cell (i := 0) rfl
  have b1 := hC1.cell (i := 1) rfl
  have d0 := hC2.cell (i := 0) rfl
  rw [← hW0] at a1 b1 d0
  have HW0 := Lib.hid hW0
  have HC1 := Lib.hid hC1
  have HC2 := Lib.hid hC2
  clear h hf hH hF hC0 hC1 hC2 hB0 hno hW0
  have hnot : ∀ (x : Bool) (w : World), (Op.unary .not (.bool x)).run Tryz.prog w = .ok (.bool (!x)) w := fun _ _ => rfl
  go_enter Tryz.func65, Tryz.ntmps65
  go_upto_region 2 with (go_at_call 21; go_loud (rw [HW0.out]; refine (row_p F p L q M d.S f.T _ HH.out hs).mono ?_; rintro e w2 ⟨g, b, rfl, hbt, hbf, hp2, hb2⟩; have HBT := Lib.hid hbt; have HBF := Lib.hid hbf; have HP2 := Lib.hid hp2; have HB2 := Lib.hid hb2; clear hbt hbf hp2 hb2))
  have hsz := HB0.out.size
  have hC1 := (HC1.out.be HB2.out (HNO.out _ (by omega))).alloc (.cells #[.int .i64 g.T, .string g.N, .int .i64 g.Y.k, .string g.Y.n, .slice g.Y.o g.Y.of.length g.Y.c] 50)
  have hC2 := (HC2.out.be HB2.out (HNO.out _ (by omega))).alloc (.cells #[.int .i64 g.T, .string g.N, .int .i64 g.Y.k, .string g.Y.n, .slice g.Y.o g.Y.of.length g.Y.c] 50)
  have hC3 := Cs.new w2 [.int .i64 g.T, .string g.N, .int .i64 g.Y.k, .string g.Y.n, .slice g.Y.o g.Y.of.length g.Y.c] 50
  have hB3 := (Below.refl w2.heap.size w2).alloc (Nat.le_refl _) (.cells #[.int .i64 g.T, .string g.N, .int .i64 g.Y.k, .string g.Y.n, .slice g.Y.o g.Y.of.length g.Y.c] 50)
  have HP3 := Lib.hid (HP2.out.below hB3)
  have HB3 := Lib.hid (((Be.of HB0.out).trans HB2.out).after hB3)
  have HF3 := Lib.hid ((HF.out.below (by rw [cut_size]; exact HH.out.wide HB2.out)).below (by rw [cut_size]; exact cut_below hB3))
  have k0 := hC1.cell (i := 0) rfl
  have y2 := hC2.cell (i := 2) rfl
  have y3 := hC2.cell (i := 3) rfl
  have y4 := hC2.cell (i := 4) rfl
  have z2 := hC3.cell (i := 2) rfl
  have z3 := hC3.cell (i := 3) rfl
  have z4 := hC3.cell (i := 4) rfl
  have HC1' := Lib.hid hC1
  have HC2' := Lib.hid hC2
  have HBB := Lib.hid hB3
  clear hC1 hC2 hC3 hB3
  cases b with
  | true =>
    obtain ⟨hg1, hg2, hg3⟩ := HBT.out rfl
    have HGM := Lib.hid (And.intro hg2 hg3)
    clear hg1 hg2 hg3
    go_wp2
    go_ret
    exact ⟨0, rfl, fun _ => .inl ⟨f2 g, HGM.out.2, HGM.out.1⟩, HP3.out, HB3.out⟩
  | false =>
    by_cases h9 : f.Y.k = 9
    · have e9 : (f.Y.k != 9) = false := by simp [h9]
      have HQ : Hid (QNew L d f) := Lib.hid (.inr h9)
      clear h9
      go_wp2
      go_ret
      exact ⟨0, rfl, fun _ => HQ.out, HP3.out, HB3.out⟩
    · have e9 : (f.Y.k != 9) = true := by simpa using h9
      clear h9
      go_wp2
      go_ret
      exact ⟨9, rfl, (fun h => by omega), HP3.out, HB3.out⟩
set_option maxRecDepth 100000 in
set_option maxHeartbeats 4000000 in
theorem wmeth_any (F : Nat → Bool) (p : Option Addr) (L : Sc) (q : Option Addr) (M : Sc) (m c : Nat) (d : Dz) (x : Mz) (w : World) (h : Pq F p L q M w) (hm : Mm m c w) (hs : d.S.size ≤ 140737488355327) (hx : x.N.size ≤ 140737488355327) :
    Calls Tryz.prog 63 #[.agg #[.pointer p, .pointer q, .map (some m)], .agg #[.int .i64 d.K, .string d.S, .slice d.fo d.fl d.fc, .slice d.mo d.ml d.mc, .int .i64 d.A], .agg #[.int .i64 x.T, .string x.N, .string x.I, .string x.O, .bool x.W]] w
      (fun e w' => ErP True F p L q M w e w') := by
  have hB0 := (((Below.refl w.heap.size w).alloc (Nat.le_refl _) (.cells #[.pointer p, .pointer q, .map (some m)] 60)).alloc (by simp) (.cells #[.int .i64 d.K, .string d.S, .slice d.fo d.fl d.fc, .slice d.mo d.ml d.mc, .int .i64 d.A] 43)).alloc (by simp; omega) (.cells #[.int .i64 x.T, .string x.N, .string x.I, .string x.O, .bool x.W] 98)
  obtain ⟨g, b, hl⟩ := (hm.below hB0 hm.lt).look d.S x.N hs hx
  have HB1 := Lib.hid (fun (cs : Array Value) => hB0.alloc (by simp; omega) (.cells cs 98))
  have HP := Lib.hid (fun (cs : Array Value) => h.below (HB1.out cs))
  clear h hm hB0
  have hnot : ∀ (x : Bool) (w : World), (Op.unary .not (.bool x)).run Tryz.prog w = .ok (.bool (!x)) w := fun _ _ => rfl
  go_enter Tryz.func63, Tryz.ntmps63
  cases b with
  | false =>
    go_wp2
    go_ret
    exact ⟨9, rfl, (fun _ => trivial), HP.out _, Be.of (HB1.out _)⟩
  | true =>
    go_wp2
    all_goals go_ret
    all_goals first | exact ⟨8, rfl, (fun _ => trivial), HP.out _, Be.of (HB1.out _)⟩ | exact ⟨0, rfl, (fun _ => trivial), HP.out _, Be.of (HB1.out _)⟩
end Go.Proofs.YtdogddliifbjnaaGreat.Ck
