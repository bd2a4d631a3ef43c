/- Schemas: what a Desc keeps; Kind, ordered, Rows, Row, Decls. -/
import Derived.Lib.Walk
import Derived.Test.YtdogddliifbjnaaGreatMg06
import Derived.Test.YtdogddliifbjnaaGreatMg08
import Derived.Test.YtdogddliifbjnaaGreatMg09
import Derived.Test.YtdogddliifbjnaaGreatMg13
import Derived.Test.YtdogddliifbjnaaGreatMg14
namespace Go.Proofs.YtdogddliifbjnaaGreat.Ck
open Go.RowKit Cm
open _root_.Go.Proofs.YtdogddliifbjnaaGreat.Nm
set_option linter.unusedVariables false
set_option linter.unusedSimpArgs false

/-- What stands still: declarations, the table. -/
structure Dk (F : Nat → Bool) (L : Sc) (o : Option Addr) (T : Nat) (X : Nat → Dz) (U : Nat → Nat → Fz) (V : Nat → Nat → Mz) (w : World) : Prop where
  d : Ds o L.n X U V (cut F w)
  l : ∀ i, i < L.n → (X i).S = L.S i ∧ (X i).K = L.K i ∧ L.R i = rowL (U i) (X i).fl
  t : Tb T L.n L.S L.K (cut F w)
/-- Block B is a schema, L; F's blocks are the schemas' own. -/
def De (F : Nat → Bool) (B : Nat) (L : Sc) (w : World) : Prop :=
  F B = true ∧ (∀ k, F k = true → k < w.heap.size) ∧ L.ok ∧ ∃ o c T X U V, Dk F L o T X U V w ∧ (Bc B o L.n c T 0 0 none w ∨ ∃ m, Bc B o L.n c T 1 0 (some m) w ∧ Rm m L (cut F w))
theorem De.be {F G : Nat → Bool} {B : Nat} {L : Sc} {w w' : World} (h : De F B L w) (hb : Be G w w') (hG : ∀ k, k < w.heap.size → G k = true → F k = true) (hB : G B = false) : De F B L w' := by
  obtain ⟨h1, h2, h3, o, c, T, X, U, V, hk, hc⟩ := h
  have hs : Sub (cut F w) (cut F w') := Sub.of_below (by rw [cut_size]; exact hb.wide hG)
  refine ⟨h1, fun k hk => Nat.lt_of_lt_of_le (h2 k hk) hb.size, h3, o, c, T, X, U, V, ⟨hk.d.sub hs, hk.l, tb_sub hk.t hs⟩, ?_⟩
  rcases hc with hc | ⟨m, hc, hr⟩
  · exact .inl (Cs.be hc hb hB)
  · exact .inr ⟨m, Cs.be hc hb hB, hr.sub hs⟩
theorem De.below {F : Nat → Bool} {B : Nat} {L : Sc} {w w' : World} (h : De F B L w) (hb : Below w.heap.size w w') : De F B L w' :=
  h.be (G := fun _ => false) (Be.of hb) (fun k _ h => by cases h) rfl
theorem De.lt {F : Nat → Bool} {B : Nat} {L : Sc} {w : World} (h : De F B L w) : B < w.heap.size := h.2.1 B h.1
theorem Rm.look {m : Nat} {L : Sc} {F : Nat → Bool} {w : World} (h : Rm m L (cut F w)) (s : ByteArray) (hs : s.size ≤ 140737488355327) :
    ∃ o n c U, (Instr.lookup 72 (.map (some m)) (.string s) false).run Tryz.prog w = .ok (.slice o n c) w ∧ Fls o n U (cut F w) ∧ rowL U n = L.rows s := by
  obtain ⟨c, G, h1, h2⟩ := h
  have hl := (h1.sub (cut_all F w)).look0 s (by unfold maxLen; omega)
  cases hf : fiS L.S s L.n with
  | none =>
    rw [(h2 s).1 hf] at hl
    exact ⟨none, 0, 0, fun _ => default, hl, ⟨Ex.nil _ _ _ _ _, by omega, fun i hi => by omega⟩, by rw [rows_none hf]; rfl⟩
  | some i =>
    obtain ⟨v, hv, o, n, c, U, h3, h4, h5⟩ := (h2 s).2 i hf
    rw [hv] at hl
    refine ⟨o, n, c, U, ?_, h4, by rw [rows_some hf]; exact h5⟩
    rw [hl]
    show Result.ok (svV v) w = _
    rw [h3]

set_option maxRecDepth 100000 in
set_option maxHeartbeats 1000000 in
theorem kind_de (F : Nat → Bool) (B : Nat) (L : Sc) (s : ByteArray) (w : World) (h : De F B L w) (hs : s.size ≤ 140737488355327) :
    Calls Tryz.prog 19 #[.pointer (some ⟨B, 0, none⟩), .string s] w fun e w' => e = .returned (.int .i64 (L.kd s)) ∧ Below w.heap.size w w' := by
  obtain ⟨_, _, _, o, c, T, X, U, V, hk, hc⟩ := h
  have hT := Lib.hid (tb_sub hk.t (cut_all F w))
  have c1 : w.cell? ⟨B, 1, none⟩ = some (.pointer (some ⟨T, 0, none⟩)) := by
    rcases hc with hc | ⟨m, hc, _⟩
    · exact hc.cell (i := 1) rfl
    · exact hc.cell (i := 1) rfl
  unfold Sc.kd
  clear hk hc
  go_enter Tryz.func19, Tryz.ntmps19
  go_wp2_with (go_at_call 33; go_loud (refine (kind_any T L.n L.S L.K s _ hT.out hs).mono ?_; rintro e w2 ⟨rfl, hb2⟩))
  go_ret
  exact ⟨rfl, hb2⟩
set_option maxRecDepth 100000 in
set_option maxHeartbeats 1000000 in
theorem kind_de0 (s : ByteArray) (w : World) : Calls Tryz.prog 19 #[.pointer none, .string s] w fun e w' => e = .returned (.int .i64 0) ∧ Below w.heap.size w w' := by
  go_enter Tryz.func19, Tryz.ntmps19
  go_wp2
  go_ret
  exact ⟨rfl, Below.refl _ _⟩
set_option maxRecDepth 100000 in
set_option maxHeartbeats 2000000 in
theorem ordered_de (F : Nat → Bool) (B : Nat) (L : Sc) (s : ByteArray) (w : World) (h : De F B L w) (hs : s.size ≤ 140737488355327) :
    Calls Tryz.prog 35 #[.pointer (some ⟨B, 0, none⟩), .string s] w fun e w' => ∃ o n c U, e = .returned (.slice o n c) ∧ Fls o n U (cut F w') ∧ rowL U n = L.rows s ∧ De F B L w' ∧ Be (fun k => decide (k = B)) w w' := by
  have hmf : ∀ (fn : Fn) (first cap : Array Value) (w : World), (Instr.makeFunc fn first cap).run Tryz.prog w = .ok (.func fn first cap) w := fun _ _ _ _ => rfl
  obtain ⟨hFB, hF, hok, o, c, T, X, U, V, hk, hc⟩ := h
  rcases hc with hc | ⟨m, hc, hr⟩
  · have hdo := do_first F B o c T X U V L w hok hk.d (fun i hi => ⟨(hk.l i hi).1, (hk.l i hi).2.2⟩) hc hFB hF
    have HDO : Hid (Calls Tryz.prog 67 #[.pointer (some ⟨B, 2, none⟩), .func (.func 68) #[.pointer (some ⟨B, 0, none⟩)] #[]] w fun e w' => e = .returned (.tuple #[]) ∧ ∃ m, w'.cell? ⟨B, 5, none⟩ = some (.map (some m)) ∧ De F B L w' ∧ Rm m L (cut F w') ∧ Be (fun k => decide (k = B)) w w') := Lib.hid (hdo.mono (by
      rintro e w' ⟨rfl, m, h1, h2, h3⟩
      have hs : Sub (cut F w) (cut F w') := Sub.of_below (by rw [cut_size]; exact h3.wide (fun k _ h => by obtain rfl : k = B := (by simpa using h); exact hFB))
      exact ⟨rfl, m, h1.cell (i := 5) rfl, ⟨hFB, fun k hk => Nat.lt_of_lt_of_le (hF k hk) h3.size, hok, o, c, T, X, U, V, ⟨hk.d.sub hs, hk.l, tb_sub hk.t hs⟩, .inr ⟨m, h1, h2⟩⟩, h2, h3⟩))
    clear hdo hk hc hF hok hFB
    go_enter Tryz.func35, Tryz.ntmps35
    go_wp2_with (go_at_call 67; go_loud (refine HDO.out.mono ?_; rintro e w2 ⟨rfl, m, k5, hD2, hR2, hB2⟩; obtain ⟨o2, n2, c2, U2, hl2, hF2, hw2⟩ := hR2.look s hs; have HD2 := Lib.hid hD2; have HB2 := Lib.hid hB2; have HF2 := Lib.hid (And.intro hF2 hw2); clear hD2 hR2 hB2 hF2 hw2))
    go_ret
    exact ⟨_, _, _, _, rfl, HF2.out.1, HF2.out.2, HD2.out, HB2.out⟩
  · obtain ⟨o2, n2, c2, U2, hl2, hF2, hw2⟩ := hr.look s hs
    have k2 := hc.cell (i := 2) rfl
    have k5 := hc.cell (i := 5) rfl
    have HD2 : Hid (De F B L w) := Lib.hid ⟨hFB, hF, hok, o, c, T, X, U, V, hk, .inr ⟨m, hc, hr⟩⟩
    have HF2 := Lib.hid (And.intro hF2 hw2)
    clear hk hc hr hF hok hFB hF2 hw2
    go_enter Tryz.func35, Tryz.ntmps35
    go_wp2_with (go_at_call 67; go_loud (refine (do_done _ _ _ k2).mono ?_; rintro e w2 ⟨rfl, hw⟩; rw [hw]; clear hw w2))
    go_ret
    exact ⟨_, _, _, _, rfl, HF2.out.1, HF2.out.2, HD2.out, Be.refl _ _⟩
theorem rows_rise {U : Nat → Fz} {n : Nat} {l : List (Int × Sp)} (h : rowL U n = srt l) : ∀ i j, i < j → j < n → (U i).T ≤ (U j).T := by
  intro i j hij hj
  have hp := srt_sorted l
  rw [← h, List.pairwise_iff_getElem] at hp
  have := hp i j (by rw [rowL_len]; omega) (by rw [rowL_len]; omega) hij
  have e : ∀ k (hk : k < (rowL U n).length), (rowL U n)[k] = f2 (U k) := fun k hk => by
    have := rowL_at (U := U) (n := n) (j := k) (by rw [rowL_len] at hk; exact hk)
    rw [List.getElem?_eq_getElem hk] at this
    exact Option.some.inj this
  rw [e, e] at this
  exact this
theorem rows_sorted (L : Sc) (s : ByteArray) : ∃ l, L.rows s = srt l := by
  unfold Sc.rows
  cases fiS L.S s L.n with
  | none => exact ⟨[], by simp [srt]⟩
  | some i => exact ⟨_, rfl⟩
theorem rows_rise' {L : Sc} {s : ByteArray} {U : Nat → Fz} {n : Nat} (h : rowL U n = L.rows s) : ∀ i j, i < j → j < n → (U i).T ≤ (U j).T := by
  obtain ⟨l, hl⟩ := rows_sorted L s
  exact rows_rise (h.trans hl)
theorem lo_old {F : Nat → Bool} {w w' : World} (hF : ∀ k, F k = true → k < w.heap.size) : Sub (cut (lo w.heap.size) w') (cut F w') := cut_sub w' (fun k _ h => lo_pos (hF k h))
set_option maxRecDepth 100000 in
set_option maxHeartbeats 2000000 in
theorem rows_de (F : Nat → Bool) (B : Nat) (L : Sc) (s : ByteArray) (w : World) (h : De F B L w) (hs : s.size ≤ 140737488355327) :
    Calls Tryz.prog 20 #[.pointer (some ⟨B, 0, none⟩), .string s] w fun e w' => ∃ o n c U, e = .returned (.slice o n c) ∧ Fls o n U (cut F w') ∧ rowL U n = L.rows s ∧ De F B L w' ∧ Be (fun k => decide (k = B)) w w' := by
  have HH := Lib.hid h
  clear h
  go_enter Tryz.func20, Tryz.ntmps20
  go_wp2_with (first
    | (go_at_call 35; go_loud (refine (ordered_de F B L s _ HH.out hs).mono ?_; rintro e w2 ⟨o2, n2, c2, U2, rfl, hF2, hw2, hD2, hB2⟩; have HF2 := Lib.hid hF2; have HW2 := Lib.hid hw2; have HD2 := Lib.hid hD2; have HB2 := Lib.hid hB2; clear hF2 hw2 hD2 hB2))
    | (go_at_call 34; go_loud (refine (eachfield_any o2 n2 c2 U2 _ (HF2.out.sub (cut_all F w2))).mono ?_; rintro e w3 ⟨o3, c3, U3, rfl, hb3, hF3, hq3⟩)))
  have h1 := HD2.out.below hb3
  have h2 := HB2.out.after hb3
  have h3 := hF3.sub (lo_old HD2.out.2.1)
  have h4 := (rowL_q hq3).trans HW2.out
  go_ret
  exact ⟨_, _, _, _, rfl, h3, h4, h1, h2⟩
/-- One block more is left out. -/
def add (F : Nat → Bool) (b : Nat) : Nat → Bool := fun k => F k || decide (k = b)
theorem add_self (F : Nat → Bool) (b : Nat) : add F b b = true := by simp [add]
theorem add_old {F : Nat → Bool} {b k : Nat} (h : F k = true) : add F b k = true := by simp [add, h]
theorem add_sub (F : Nat → Bool) (b : Nat) (w : World) : Sub (cut (add F b) w) (cut F w) := cut_sub w (fun k _ h => add_old h)
/-- A new block may be left out. -/
theorem add_new {F : Nat → Bool} (w : World) (o : Obj) : Sub (cut F w) (cut (add F w.heap.size) (w.alloc o)) := by
  refine ⟨by rw [cut_size, cut_size]; simp, fun k ob h1 h2 => ?_⟩
  have hk := (Array.getElem?_eq_some_iff.1 h1).1
  rw [cut_size] at hk
  have e : add F w.heap.size k = F k := by unfold add; rw [decide_eq_false (by omega), Bool.or_false]
  rw [cut_block] at h1 ⊢
  rw [e, Below.heap_alloc w o k hk]
  exact h1
theorem De.add {F : Nat → Bool} {B : Nat} {L : Sc} {w : World} (h : De F B L w) (ob : Obj) : De (add F w.heap.size) B L (w.alloc ob) := by
  have hlt := h.lt
  obtain ⟨h1, h2, h3, o, c, T, X, U, V, hk, hc⟩ := h
  have hs := add_new (F := F) w ob
  refine ⟨add_old h1, fun k hk => ?_, h3, o, c, T, X, U, V, ⟨hk.d.sub hs, hk.l, tb_sub hk.t hs⟩, ?_⟩
  · unfold Ck.add at hk
    rw [Bool.or_eq_true, decide_eq_true_eq] at hk
    rcases hk with hk | hk
    · have := h2 k hk; simp; omega
    · subst hk; simp
  rcases hc with hc | ⟨m, hc, hr⟩
  · exact .inl (hc.alloc ob)
  · exact .inr ⟨m, hc.alloc ob, hr.sub hs⟩
theorem De.less {F F' : Nat → Bool} {B : Nat} {L : Sc} {w : World} (h : De F' B L w) (hF : ∀ k, F k = true → F' k = true) (hB : F B = true) : De F B L w := by
  obtain ⟨h1, h2, h3, o, c, T, X, U, V, hk, hc⟩ := h
  have hs : Sub (cut F' w) (cut F w) := cut_sub w (fun k _ h => hF k h)
  refine ⟨hB, fun k hk => h2 k (hF k hk), h3, o, c, T, X, U, V, ⟨hk.d.sub hs, hk.l, tb_sub hk.t hs⟩, ?_⟩
  rcases hc with hc | ⟨m, hc, hr⟩
  · exact .inl hc
  · exact .inr ⟨m, hc, hr.sub hs⟩
set_option maxRecDepth 100000 in
set_option maxHeartbeats 2000000 in
theorem row_de (F : Nat → Bool) (B : Nat) (L : Sc) (s : ByteArray) (t : Int) (w : World) (h : De F B L w) (hs : s.size ≤ 140737488355327) :
    Calls Tryz.prog 21 #[.pointer (some ⟨B, 0, none⟩), .string s, .int .i64 t] w fun e w' => ∃ (f : Fz) (b : Bool), e = .returned (.tuple #[.agg #[.int .i64 f.T, .string f.N, .int .i64 f.Y.k, .string f.Y.n, .slice f.Y.o f.Y.of.length f.Y.c], .bool b]) ∧
      (b = true → F1 f (cut F w') ∧ f.T = t ∧ f2 f ∈ L.rows s) ∧ (b = false → ∀ r ∈ L.rows s, r.1 ≠ t) ∧ De F B L w' ∧ Be (fun k => decide (k = B)) w w' := by
  have HH := Lib.hid (h.add (.cells #[.int .i64 0, .string ⟨#[]⟩, .int .i64 0, .string ⟨#[]⟩, .slice none 0 0] 50))
  have HC0 := Lib.hid (Cs.new w [.int .i64 0, .string ⟨#[]⟩, .int .i64 0, .string ⟨#[]⟩, .slice none 0 0] 50)
  have HB0 := Lib.hid ((Be.refl (fun k => decide (k = B)) w).alloc (.cells #[.int .i64 0, .string ⟨#[]⟩, .int .i64 0, .string ⟨#[]⟩, .slice none 0 0] 50))
  have HBlt := Lib.hid h.lt
  have HFB := Lib.hid h.1
  clear h
  go_enter Tryz.func21, Tryz.ntmps21
  go_upto_region 3 with (first
    | (go_at_call 35; go_loud (refine (ordered_de (add F w.heap.size) B L s _ HH.out hs).mono ?_; rintro e w2 ⟨o2, n2, c2, U2, rfl, hF2, hw2, hD2, hB2⟩; have HF2 := Lib.hid hF2; have HW2 := Lib.hid hw2; have HD2 := Lib.hid hD2; have HB2 := Lib.hid hB2; have HC2 := Lib.hid (HC0.out.be hB2 (by have := HBlt.out; simp; omega)); clear hF2 hw2 hD2 hB2))
    | (go_at_call 37; go_loud (refine (rowsearch_any o2 n2 c2 U2 t _ (HF2.out.sub (cut_all _ w2)) (rows_rise' HW2.out)).mono ?_; rintro e w3 ⟨i, b, rfl, hbt, hbf, hb3⟩; have HBT := Lib.hid hbt; have HBF := Lib.hid hbf; have HB3 := Lib.hid hb3; have HC3 := Lib.hid (HC2.out.below hb3 HC2.out.lt); have HD3 := Lib.hid (HD2.out.below hb3); have HF3 := Lib.hid (HF2.out.below (by rw [cut_size]; exact cut_below hb3)); clear hbt hbf hb3)))
  have hg0 := HC3.out.cell (i := 0) rfl
  have hg1 := HC3.out.cell (i := 1) rfl
  have hg2 := HC3.out.cell (i := 2) rfl
  have hg3 := HC3.out.cell (i := 3) rfl
  have hg4 := HC3.out.cell (i := 4) rfl
  have hx0 := HC3.out.frozen (i := 0) rfl
  have hx1 := HC3.out.frozen (i := 1) rfl
  have hx2 := HC3.out.frozen (i := 2) rfl
  have hx3 := HC3.out.frozen (i := 3) rfl
  have hx4 := HC3.out.frozen (i := 4) rfl
  cases b with
  | false =>
    have HN : Hid (∀ r ∈ L.rows s, r.1 ≠ t) := Lib.hid (fun r hr => by
      rw [← HW2.out] at hr
      obtain ⟨k, hk, rfl⟩ := List.mem_map.1 hr
      exact HBF.out rfl k (List.mem_range.1 hk))
    go_wp2
    have hC4 := (((((HC3.out.put (i := 0) (.int .i64 0)).put (i := 1) (.string ⟨#[]⟩)).put (i := 2) (.int .i64 0)).put (i := 3) (.string ⟨#[]⟩)).put (i := 4) (.slice none 0 0))
    have hB4 := ((((((HB0.out.trans (HB2.out.after HB3.out)).setCell (b := w.heap.size) (o := 0) (.inr (Nat.le_refl _)) (.int .i64 0)).setCell (b := w.heap.size) (o := 1) (.inr (Nat.le_refl _)) (.string ⟨#[]⟩)).setCell (b := w.heap.size) (o := 2) (.inr (Nat.le_refl _)) (.int .i64 0)).setCell (b := w.heap.size) (o := 3) (.inr (Nat.le_refl _)) (.string ⟨#[]⟩)).setCell (b := w.heap.size) (o := 4) (.inr (Nat.le_refl _)) (.slice none 0 0))
    have hB5 := ((((((Be.refl (fun k => decide (k = w.heap.size)) w3).setCell (b := w.heap.size) (o := 0) (.inl (by simp)) (.int .i64 0)).setCell (b := w.heap.size) (o := 1) (.inl (by simp)) (.string ⟨#[]⟩)).setCell (b := w.heap.size) (o := 2) (.inl (by simp)) (.int .i64 0)).setCell (b := w.heap.size) (o := 3) (.inl (by simp)) (.string ⟨#[]⟩)).setCell (b := w.heap.size) (o := 4) (.inl (by simp)) (.slice none 0 0))
    generalize (((((w3.setCell ⟨w.heap.size, 0, none⟩ (.int .i64 0)).setCell ⟨w.heap.size, 1, none⟩ (.string ⟨#[]⟩)).setCell ⟨w.heap.size, 2, none⟩ (.int .i64 0)).setCell ⟨w.heap.size, 3, none⟩ (.string ⟨#[]⟩)).setCell ⟨w.heap.size, 4, none⟩ (.slice none 0 0)) = W at hC4 hB4 hB5 ⊢
    have hD4 : De F B L W := (HD3.out.be hB5 (fun k _ h => by obtain rfl : k = w.heap.size := (by simpa using h); exact add_self _ _) (by have := HBlt.out; simp; omega)).less (fun k h => add_old h) HFB.out
    have d0 := hC4.cell (i := 0) rfl
    have d1 := hC4.cell (i := 1) rfl
    have d2 := hC4.cell (i := 2) rfl
    have d3 := hC4.cell (i := 3) rfl
    have d4 := hC4.cell (i := 4) rfl
    refine bodyPost_ret (by simp [results, Tryz.results21, go_sem, d0, d1, d2, d3, d4]; try rfl) rfl ?_
    exact ⟨⟨0, ⟨#[]⟩, default⟩, .inl ⟨rfl, fun a b h => HN.out (a, b) h, hD4, hB4⟩⟩
  | true =>
    obtain ⟨hil, hit⟩ := HBT.out rfl
    have hii : (i : Int) < (n2 : Int) := by omega
    have hn2 : n2 ≤ 9223372036854775807 := by have := HF3.out.2.1; omega
    obtain ⟨a, Ab, Ao, As, rfl, hA, hAb, c0, c1, c2', c3, c4⟩ := ex_five (v0 := .int .i64 (U2 i).T) (v1 := .string (U2 i).N) (v2 := .int .i64 (U2 i).Y.k) (v3 := .string (U2 i).Y.n) (v4 := .slice (U2 i).Y.o (U2 i).Y.of.length (U2 i).Y.c) (HF3.out.sub (cut_all _ w3)).1 hil rfl
    have HIT := Lib.hid hit
    have HI1 := Lib.hid (HF3.out.2.2 i hil)
    have HMem : Hid (f2 (U2 i) ∈ L.rows s) := Lib.hid (by rw [← HW2.out]; exact List.mem_map.2 ⟨i, List.mem_range.2 hil, rfl⟩)
    clear hit
    go_wp2_with (go_at_call 36; go_loud (refine (ownfield_any (U2 i) _ (HI1.out.sub (cut_all _ w3))).mono ?_; rintro e w4 ⟨u, rfl, ⟨hq4, ht4⟩, hb4⟩; have hC4 := HC3.out.below hb4 HC3.out.lt; have kg0 := hC4.cell (i := 0) rfl; have kg1 := hC4.cell (i := 1) rfl; have kg2 := hC4.cell (i := 2) rfl; have kg3 := hC4.cell (i := 3) rfl; have kg4 := hC4.cell (i := 4) rfl; have kx0 := hC4.frozen (i := 0) rfl; have kx1 := hC4.frozen (i := 1) rfl; have kx2 := hC4.frozen (i := 2) rfl; have kx3 := hC4.frozen (i := 3) rfl; have kx4 := hC4.frozen (i := 4) rfl; have HC4 := Lib.hid hC4; have HB4 := Lib.hid hb4; have HQ4 := Lib.hid hq4; have HT4 := Lib.hid ht4; clear hC4 hb4 hq4 ht4))
    have hlt3 := HC3.out.lt
    have hC5 := (((((HC4.out.put (i := 0) (.int .i64 u.T)).put (i := 1) (.string u.N)).put (i := 2) (.int .i64 u.Y.k)).put (i := 3) (.string u.Y.n)).put (i := 4) (.slice u.Y.o u.Y.of.length u.Y.c))
    have hB5 := ((((((HB0.out.trans ((HB2.out.after HB3.out).after HB4.out)).setCell (b := w.heap.size) (o := 0) (.inr (Nat.le_refl _)) (.int .i64 u.T)).setCell (b := w.heap.size) (o := 1) (.inr (Nat.le_refl _)) (.string u.N)).setCell (b := w.heap.size) (o := 2) (.inr (Nat.le_refl _)) (.int .i64 u.Y.k)).setCell (b := w.heap.size) (o := 3) (.inr (Nat.le_refl _)) (.string u.Y.n)).setCell (b := w.heap.size) (o := 4) (.inr (Nat.le_refl _)) (.slice u.Y.o u.Y.of.length u.Y.c))
    have hB6 := ((((((Be.refl (fun k => decide (k = w.heap.size)) w4).setCell (b := w.heap.size) (o := 0) (.inl (by simp)) (.int .i64 u.T)).setCell (b := w.heap.size) (o := 1) (.inl (by simp)) (.string u.N)).setCell (b := w.heap.size) (o := 2) (.inl (by simp)) (.int .i64 u.Y.k)).setCell (b := w.heap.size) (o := 3) (.inl (by simp)) (.string u.Y.n)).setCell (b := w.heap.size) (o := 4) (.inl (by simp)) (.slice u.Y.o u.Y.of.length u.Y.c))
    have hB7 := ((((((Be.refl (lo w3.heap.size) w4).setCell (b := w.heap.size) (o := 0) (.inl (lo_pos hlt3)) (.int .i64 u.T)).setCell (b := w.heap.size) (o := 1) (.inl (lo_pos hlt3)) (.string u.N)).setCell (b := w.heap.size) (o := 2) (.inl (lo_pos hlt3)) (.int .i64 u.Y.k)).setCell (b := w.heap.size) (o := 3) (.inl (lo_pos hlt3)) (.string u.Y.n)).setCell (b := w.heap.size) (o := 4) (.inl (lo_pos hlt3)) (.slice u.Y.o u.Y.of.length u.Y.c))
    generalize (((((w4.setCell ⟨w.heap.size, 0, none⟩ (.int .i64 u.T)).setCell ⟨w.heap.size, 1, none⟩ (.string u.N)).setCell ⟨w.heap.size, 2, none⟩ (.int .i64 u.Y.k)).setCell ⟨w.heap.size, 3, none⟩ (.string u.Y.n)).setCell ⟨w.heap.size, 4, none⟩ (.slice u.Y.o u.Y.of.length u.Y.c)) = W at hC5 hB5 hB6 hB7 ⊢
    have hD5 : De F B L W := ((HD3.out.below HB4.out).be hB6 (fun k _ h => by obtain rfl : k = w.heap.size := (by simpa using h); exact add_self _ _) (by have := HBlt.out; simp; omega)).less (fun k h => add_old h) HFB.out
    have hT5 : TyIn (cut F W) u.Y := ty_sub (ty_below HT4.out (by unfold Be at hB7; exact hB7) (by rw [cut_size]; exact Nat.le_refl _)) (cut_sub W (fun k _ h => lo_pos (HD3.out.2.1 k (add_old h))))
    have hF5 : F1 u (cut F W) := HI1.out.of_q HQ4.out hT5
    have d0 := hC5.cell (i := 0) rfl
    have d1 := hC5.cell (i := 1) rfl
    have d2 := hC5.cell (i := 2) rfl
    have d3 := hC5.cell (i := 3) rfl
    have d4 := hC5.cell (i := 4) rfl
    have hm5 : f2 u ∈ L.rows s := by
      have e : f2 u = f2 (U2 i) := by unfold f2; rw [HQ4.out.1, HQ4.out.2.2]
      rw [e]; exact HMem.out
    refine bodyPost_ret (by simp [results, Tryz.results21, go_sem, d0, d1, d2, d3, d4]; try rfl) rfl ?_
    exact ⟨u, true, rfl, fun _ => ⟨hF5, HQ4.out.1.trans HIT.out, hm5⟩, (fun h => by cases h), hD5, hB5⟩
end Go.Proofs.YtdogddliifbjnaaGreat.Ck
/- Schemas: the contract of desc's deeper, over types as trees. -/
namespace Go.Proofs.YtdogddliifbjnaaGreat.Ck
open Go.RowKit Cm
open _root_.Go.Proofs.YtdogddliifbjnaaGreat.Nm
set_option linter.unusedVariables false
set_option linter.unusedSimpArgs false

set_option maxRecDepth 100000 in
set_option maxHeartbeats 1000000 in
theorem tdeeper_any : ∀ (N : Nat) (v : Ty) (m : Nat) (w : World), dpT v < N → TyIn w v → dpT v ≤ m + 1 → m ≤ 1000000 →
    Calls Tryz.prog 54 #[.agg #[.int .i64 v.k, .string v.n, .slice v.o v.of.length v.c], .int .i64 (m : Nat)] w fun e w' => e = .returned (.bool false) ∧ Below w.heap.size w w' := by
  intro N
  induction N with
  | zero => intro v m w h; omega
  | succ N ih =>
    intro v m w hN hv hd hm
    obtain ⟨k, n, o, c, of⟩ := v
    have hlen : of.length ≤ 9223372036854775807 := by cases hv; assumption
    show Calls Tryz.prog 54 #[.agg #[.int .i64 k, .string n, .slice o of.length c], .int .i64 (m : Nat)] w fun e w' => e = .returned (.bool false) ∧ Below w.heap.size w w'
    have hmf : ∀ (fn : Fn) (first cap : Array Value) (w : World), (Instr.makeFunc fn first cap).run Tryz.prog w = .ok (.func fn first cap) w := fun _ _ _ _ => rfl
    have hB0 := ((Below.refl w.heap.size w).alloc (Nat.le_refl _) (.cells #[.int .i64 k, .string n, .slice o of.length c] 48)).alloc (by simp) (.cells #[.int .i64 (m : Nat)] 3)
    have hC0 := (Cs.new w [.int .i64 k, .string n, .slice o of.length c] 48).alloc (.cells #[.int .i64 (m : Nat)] 3)
    have hG0 := Cs.new (w.alloc (.cells #[.int .i64 k, .string n, .slice o of.length c] 48)) [.int .i64 (m : Nat)] 3
    rw [show (w.alloc (.cells #[.int .i64 k, .string n, .slice o of.length c] 48)).heap.size = w.heap.size + 1 by simp] at hG0
    have HB0 := Lib.hid hB0
    have HC0 := Lib.hid hC0
    have HG0 := Lib.hid hG0
    have hV := Lib.hid hv
    have hIH := Lib.hid ih
    have hND := Lib.hid hN
    have hDD := Lib.hid hd
    have f0 : ¬ (m : Int) < 0 := by omega
    clear hv ih hN hd hB0 hC0 hG0
    have hix : ∀ (w : World) (hv : TyIn w (.mk k n o c of)) (g : Nat) (hg : w.cell? ⟨g, 0, none⟩ = some (.int .i64 (m : Nat))),
        Calls Tryz.prog 105 #[.slice o of.length c, .func (.func 87) #[] #[.pointer (some ⟨g, 0, none⟩)]] w fun e w' => e = .returned (.int .i64 (-1)) ∧ Below w.heap.size w w' := by
      intro w hv g hg
      have hlt := World.block_lt_of_cell? w _ hg
      have hV := Lib.hid hv
      have hG := Lib.hid hg
      clear hv hg HB0 HC0 HG0
      go_enter Tryz.func105, Tryz.ntmps105
      go_wp2
      go_loopw [8] (fun i wr => ∃ j, j ≤ of.length ∧ i = .int .i64 (j : Nat) ∧ Hid (Below w.heap.size w wr)) (fun i _ => of.length - (intOf i).toNat)
      case atStart => exact ⟨0, by omega, rfl, Below.refl _ _⟩
      case round =>
        obtain ⟨j, hj, rfl, HB⟩ := hrel
        have hsz := HB.out.size
        by_cases hjl : j < of.length
        · have hji : (j : Int) < (of.length : Int) := by omega
          obtain ⟨v, hvi⟩ : ∃ v, of[j]? = some v := ⟨_, List.getElem?_eq_getElem hjl⟩
          obtain ⟨a, Ab, Ao, As, rfl, hA, hAb, c0, c1, c2, hin⟩ := ty_place (ty_below hV.out HB.out (Nat.le_refl _)) hvi
          have hdc : dpT v < dpT (.mk k n (some a) c of) := dp_child hvi
          have hp := dp_pos v
          have hgg := (HB.out.cell (p := ⟨g, 0, none⟩) hlt).trans hG.out
          have hHt := Lib.hid (And.intro hin hvi)
          have hdd : dpT v ≤ (m - 1) + 1 := by have := hDD.out; omega
          have hm1 : 1 ≤ m := by have := hDD.out; omega
          have hcl : Calls Tryz.prog 87 #[.agg #[.int .i64 v.k, .string v.n, .slice v.o v.of.length v.c], .pointer (some ⟨g, 0, none⟩)] wr fun e w' => e = .returned (.bool false) ∧ Below wr.heap.size wr w' := by
            have hB1 := (Below.refl wr.heap.size wr).alloc (Nat.le_refl _) (.cells #[.int .i64 v.k, .string v.n, .slice v.o v.of.length v.c] 48)
            have hglt := World.block_lt_of_cell? wr _ hgg
            have hg2 := (hB1.cell (p := ⟨g, 0, none⟩) hglt).trans hgg
            have HV1 := Lib.hid (ty_below hin hB1 (Nat.le_refl _))
            have HB1 := Lib.hid hB1
            have hmm : IntKind.i64.wrap ((m : Int) - 1) = ((m - 1 : Nat) : Int) := by rw [IntKind.wrap_i64]; omega
            clear hB1 c0 c1 c2 hgg hA
            go_enter Tryz.func87, Tryz.ntmps87
            go_wp2_with (go_at_call 54; refine (hIH.out v (m - 1) _ (by have := hND.out; omega) HV1.out hdd (by omega)).mono ?_; rintro e w2 ⟨rfl, hb2⟩)
            go_ret
            exact ⟨rfl, HB1.out.trans (hb2.mono HB1.out.size)⟩
          have HCL := Lib.hid hcl
          clear hcl hgg
          go_wp2_with (go_at_call 87; refine HCL.out.mono ?_; rintro e w2 ⟨rfl, hb2⟩)
          go_roundw
          case rel => exact ⟨j + 1, by omega, by go_num, HB.out.trans (hb2.mono hsz)⟩
          case measure => simp [intOf]; omega
        · have hji : ¬ (j : Int) < (of.length : Int) := by omega
          obtain rfl : j = of.length := by omega
          go_wp2
          go_ret
          exact ⟨rfl, HB.out⟩
    have HIX := Lib.hid hix
    clear hix
    have hct : ∀ (w : World) (hv : TyIn w (.mk k n o c of)) (g : Nat) (hg : w.cell? ⟨g, 0, none⟩ = some (.int .i64 (m : Nat))),
        Calls Tryz.prog 86 #[.slice o of.length c, .func (.func 87) #[] #[.pointer (some ⟨g, 0, none⟩)]] w fun e w' => e = .returned (.bool false) ∧ Below w.heap.size w w' := by
      intro w hv g hg
      have hV := Lib.hid hv
      have hG := Lib.hid hg
      clear hv hg HB0 HC0 HG0
      go_enter Tryz.func86, Tryz.ntmps86
      go_wp2_with (go_at_call 105; refine (HIX.out _ hV.out g hG.out).mono ?_; rintro e w2 ⟨rfl, hb2⟩)
      go_ret
      exact ⟨rfl, hb2⟩
    have HCT := Lib.hid hct
    clear hct
    have d4 := HC0.out.cell (i := 2) rfl
    have g0 := HG0.out.cell (i := 0) rfl
    have HG1 := Lib.hid g0
    go_enter Tryz.func54, Tryz.ntmps54
    go_wp2_with (go_at_call 86; refine (HCT.out _ (ty_below hV.out HB0.out (Nat.le_refl _)) (w.heap.size + 1) HG1.out).mono ?_; rintro e w2 ⟨rfl, hb2⟩)
    go_ret
    exact ⟨rfl, HB0.out.trans (hb2.mono HB0.out.size)⟩
end Go.Proofs.YtdogddliifbjnaaGreat.Ck
/- Schemas: endless: types that are not deep have an end. -/
namespace Go.Proofs.YtdogddliifbjnaaGreat.Ck
open Go.RowKit Cm
open _root_.Go.Proofs.YtdogddliifbjnaaGreat.Nm
set_option linter.unusedVariables false
set_option linter.unusedSimpArgs false

theorem dps_most : ∀ (l : List Ty) (m : Nat), (∀ (i : Nat) (t : Ty), l[i]? = some t → dpT t ≤ m) → dpsT l ≤ m
  | [], m, _ => by unfold dpsT; omega
  | t :: l, m, h => by
    unfold dpsT
    have h0 := h 0 t rfl
    have := dps_most l m (fun i u hu => h (i + 1) u (by simpa using hu))
    omega
theorem th_dp : ∀ (N : Nat) (t : Ty), Th N t.sp → dpT t ≤ N
  | 0, t, h => h.elim
  | N + 1, .mk k n o c of, h => by
    unfold dpT
    have := dps_most of N (fun i t hi => th_dp N t (th_child h hi))
    omega

set_option maxRecDepth 100000 in
set_option maxHeartbeats 2000000 in
theorem endlessf_any (f : Fz) (w : World) (h : F1 f w) :
    Calls Tryz.prog 53 #[.agg #[.int .i64 f.T, .string f.N, .int .i64 f.Y.k, .string f.Y.n, .slice f.Y.o f.Y.of.length f.Y.c]] w fun e w' => e = .returned (.bool false) ∧ Below w.heap.size w w' := by
  have hB0 := (Below.refl w.heap.size w).alloc (Nat.le_refl _) (.cells #[.int .i64 f.T, .string f.N, .int .i64 f.Y.k, .string f.Y.n, .slice f.Y.o f.Y.of.length f.Y.c] 50)
  have HB0 := Lib.hid hB0
  have HH := Lib.hid h
  clear hB0 h
  go_enter Tryz.func53, Tryz.ntmps53
  go_wp2_with (go_at_call 54; go_loud (refine (tdeeper_any 22 f.Y 131072 _ (by have := th_dp 21 f.Y HH.out.th; omega) (ty_below HH.out.ty HB0.out (Nat.le_refl _)) (by have := th_dp 21 f.Y HH.out.th; omega) (by omega)).mono ?_; rintro e w2 ⟨rfl, hb2⟩))
  go_ret
  exact ⟨rfl, HB0.out.trans (hb2.mono HB0.out.size)⟩
set_option maxRecDepth 100000 in
set_option maxHeartbeats 2000000 in
theorem endlessx_any (o : Option Addr) (n c : Nat) (U : Nat → Fz) (w : World) (h : Fls o n U w) :
    Calls Tryz.prog 85 #[.slice o n c, .func (.func 53) #[] #[]] w fun e w' => e = .returned (.int .i64 (-1)) ∧ Below w.heap.size w w' := by
  have hlen : n ≤ 9223372036854775807 := by have := h.2.1; omega
  have HH := Lib.hid h
  clear h
  go_enter Tryz.func85, Tryz.ntmps85
  go_wp2
  go_loopw [8] (fun i wr => ∃ j, j ≤ n ∧ i = .int .i64 (j : Nat) ∧ Hid (Below w.heap.size w wr)) (fun i _ => n - (intOf i).toNat)
  case atStart => exact ⟨0, by omega, rfl, Below.refl _ _⟩
  case round =>
    obtain ⟨j, hj, rfl, HB⟩ := hrel
    have hsz := HB.out.size
    by_cases hjl : j < n
    · have hji : (j : Int) < (n : Int) := by omega
      obtain ⟨a, Ab, Ao, As, rfl, hA, hAb, c0, c1, c2, c3, c4⟩ := ex_five (v0 := .int .i64 (U j).T) (v1 := .string (U j).N) (v2 := .int .i64 (U j).Y.k) (v3 := .string (U j).Y.n) (v4 := .slice (U j).Y.o (U j).Y.of.length (U j).Y.c) (HH.out.below HB.out).1 hjl rfl
      go_wp2_with (go_at_call 53; go_loud (refine (endlessf_any (U j) _ ((HH.out.2.2 j hjl).below HB.out)).mono ?_; rintro e w2 ⟨rfl, hb2⟩))
      go_roundw
      case rel => exact ⟨j + 1, by omega, by go_num, HB.out.trans (hb2.mono hsz)⟩
      case measure => simp [intOf]; omega
    · have hji : ¬ (j : Int) < (n : Int) := by omega
      obtain rfl : j = n := by omega
      go_wp2
      go_ret
      exact ⟨rfl, HB.out⟩
set_option maxRecDepth 100000 in
set_option maxHeartbeats 2000000 in
theorem endlessc_any (o : Option Addr) (n c : Nat) (U : Nat → Fz) (w : World) (h : Fls o n U w) :
    Calls Tryz.prog 52 #[.slice o n c, .func (.func 53) #[] #[]] w fun e w' => e = .returned (.bool false) ∧ Below w.heap.size w w' := by
  have HH := Lib.hid h
  clear h
  go_enter Tryz.func52, Tryz.ntmps52
  go_wp2_with (go_at_call 85; go_loud (refine (endlessx_any o n c U _ HH.out).mono ?_; rintro e w2 ⟨rfl, hb2⟩))
  go_ret
  exact ⟨rfl, hb2⟩
set_option maxRecDepth 100000 in
set_option maxHeartbeats 2000000 in
theorem endless_any (d : Dz) (U : Nat → Fz) (V : Nat → Mz) (w : World) (h : D1 d U V w) :
    Calls Tryz.prog 27 #[.agg #[.int .i64 d.K, .string d.S, .slice d.fo d.fl d.fc, .slice d.mo d.ml d.mc, .int .i64 d.A]] w fun e w' => e = .returned (.bool false) ∧ Below w.heap.size w w' := by
  have hB0 := (Below.refl w.heap.size w).alloc (Nat.le_refl _) (.cells #[.int .i64 d.K, .string d.S, .slice d.fo d.fl d.fc, .slice d.mo d.ml d.mc, .int .i64 d.A] 43)
  have HB0 := Lib.hid hB0
  have HH := Lib.hid h
  clear hB0 h
  go_enter Tryz.func27, Tryz.ntmps27
  go_wp2_with (go_at_call 52; go_loud (refine (endlessc_any d.fo d.fl d.fc U _ (HH.out.f.below HB0.out)).mono ?_; rintro e w2 ⟨rfl, hb2⟩))
  go_ret
  exact ⟨rfl, HB0.out.trans (hb2.mono HB0.out.size)⟩
set_option maxRecDepth 100000 in
set_option maxHeartbeats 2000000 in
theorem endlessd_any (o : Option Addr) (n c : Nat) (X : Nat → Dz) (U : Nat → Nat → Fz) (V : Nat → Nat → Mz) (w : World) (h : Ds o n X U V w) :
    Calls Tryz.prog 26 #[.slice o n c, .func (.func 27) #[] #[]] w fun e w' => e = .returned (.int .i64 (-1)) ∧ Below w.heap.size w w' := by
  have hlen : n ≤ 9223372036854775807 := by have := h.2.1; omega
  have HH := Lib.hid h
  clear h
  go_enter Tryz.func26, Tryz.ntmps26
  go_wp2
  go_loopw [8] (fun i wr => ∃ j, j ≤ n ∧ i = .int .i64 (j : Nat) ∧ Hid (Below w.heap.size w wr)) (fun i _ => n - (intOf i).toNat)
  case atStart => exact ⟨0, by omega, rfl, Below.refl _ _⟩
  case round =>
    obtain ⟨j, hj, rfl, HB⟩ := hrel
    have hsz := HB.out.size
    by_cases hjl : j < n
    · have hji : (j : Int) < (n : Int) := by omega
      obtain ⟨a, Ab, Ao, As, rfl, hA, hAb, c0, c1, c2, c3, c4⟩ := ex_five (v0 := .int .i64 (X j).K) (v1 := .string (X j).S) (v2 := .slice (X j).fo (X j).fl (X j).fc) (v3 := .slice (X j).mo (X j).ml (X j).mc) (v4 := .int .i64 (X j).A) (HH.out.below HB.out).1 hjl rfl
      go_wp2_with (go_at_call 27; go_loud (refine (endless_any (X j) (U j) (V j) _ ((HH.out.2.2 j hjl).below HB.out)).mono ?_; rintro e w2 ⟨rfl, hb2⟩))
      go_roundw
      case rel => exact ⟨j + 1, by omega, by go_num, HB.out.trans (hb2.mono hsz)⟩
      case measure => simp [intOf]; omega
    · have hji : ¬ (j : Int) < (n : Int) := by omega
      obtain rfl : j = n := by omega
      go_wp2
      go_ret
      exact ⟨rfl, HB.out⟩
end Go.Proofs.YtdogddliifbjnaaGreat.Ck
