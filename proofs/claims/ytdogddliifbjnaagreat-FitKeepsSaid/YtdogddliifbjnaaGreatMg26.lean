/- compat: the closures of wrongRows, and first over fields and methods. (By gen_first.py.) -/
import Derived.Test.YtdogddliifbjnaaGreatMg25
namespace Go.Proofs.YtdogddliifbjnaaGreat.Ck
open Go.RowKit Cm
open _root_.Go.Proofs.YtdogddliifbjnaaGreat.Nm
set_option linter.unusedVariables false
set_option linter.unusedSimpArgs false

/-- What the closures see: the pair and the declaration in boxes, the map of methods. -/
structure Ev (F : Nat → Bool) (p : Option Addr) (L : Sc) (q : Option Addr) (M : Sc) (b1 b2 m : Nat) (d : Dz) (w : World) : Prop where
  pq : Pq F p L q M w
  c1 : Cs b1 [.pointer p, .pointer q, .map (some m)] w
  c2 : Cs b2 [.int .i64 d.K, .string d.S, .slice d.fo d.fl d.fc, .slice d.mo d.ml d.mc, .int .i64 d.A] w
  n1 : own p q b1 = false
  n2 : own p q b2 = false
  n3 : own p q m = false
  mm : ∃ c, Mm m c w
  sz : d.S.size ≤ 140737488355327
section
variable {F : Nat → Bool} {p q : Option Addr} {L M : Sc} {b1 b2 m : Nat} {d : Dz} {w w' : World}
theorem Ev.step (h : Ev F p L q M b1 b2 m d w) (hp : Pq F p L q M w') (hb : Be (own p q) w w') : Ev F p L q M b1 b2 m d w' := by
  obtain ⟨c, hm⟩ := h.mm
  exact ⟨hp, h.c1.be hb h.n1, h.c2.be hb h.n2, h.n1, h.n2, h.n3, ⟨c, hm.kept (hb.block hm.lt h.n3)⟩, h.sz⟩
theorem Ev.below (h : Ev F p L q M b1 b2 m d w) (hb : Below w.heap.size w w') : Ev F p L q M b1 b2 m d w' := h.step (h.pq.below hb) (Be.of hb)
theorem Ev.add (h : Ev F p L q M b1 b2 m d w) (ob : Obj) : Ev (add F w.heap.size) p L q M b1 b2 m d (w.alloc ob) := by
  have h2 := h.below ((Below.refl w.heap.size w).alloc (Nat.le_refl _) ob)
  exact ⟨h.pq.add ob, h2.c1, h2.c2, h.n1, h.n2, h.n3, h2.mm, h.sz⟩
end
/-- Behind stores into a block of the call's own. -/
theorem Pq.local {F : Nat → Bool} {p q : Option Addr} {L M : Sc} {w0 w w' : World} (h0 : Pq F p L q M w0) (h : Pq (Ck.add F w0.heap.size) p L q M w) (hb : Be (fun k => decide (k = w0.heap.size)) w w') : Pq F p L q M w' := by
  refine (h.be hb (fun k _ hk => by obtain rfl : k = w0.heap.size := (by simpa using hk); exact add_self _ _) (fun B hB => ?_) (fun B hB => ?_)).less (fun k h => add_old h) h0
  · have := (h0.a.mem B hB).2
    simp; omega
  · have := (h0.b.mem B hB).2
    simp; omega
def FiF (P : Prop) (F : Nat → Bool) (p : Option Addr) (L : Sc) (q : Option Addr) (M : Sc) (w : World) (e : Ending) (w' : World) : Prop :=
  ∃ (f : Fz) (er : Int), e = .returned (.tuple #[.agg #[.int .i64 f.T, .string f.N, .int .i64 f.Y.k, .string f.Y.n, .slice f.Y.o f.Y.of.length f.Y.c], .int .i64 er]) ∧ (er = 0 → P) ∧ Pq F p L q M w' ∧ Be (own p q) w w'
def FiM (P : Prop) (F : Nat → Bool) (p : Option Addr) (L : Sc) (q : Option Addr) (M : Sc) (w : World) (e : Ending) (w' : World) : Prop :=
  ∃ (f : Mz) (er : Int), e = .returned (.tuple #[.agg #[.int .i64 f.T, .string f.N, .string f.I, .string f.O, .bool f.W], .int .i64 er]) ∧ (er = 0 → P) ∧ Pq F p L q M w' ∧ Be (own p q) w w'

set_option maxRecDepth 100000 in
set_option maxHeartbeats 2000000 in
theorem clo1_any (F : Nat → Bool) (p : Option Addr) (L : Sc) (q : Option Addr) (M : Sc) (b1 b2 m : Nat) (d : Dz) (f : Fz) (w : World) (h : Ev F p L q M b1 b2 m d w) (hf : F1 f (cut F w)) :
    Calls Tryz.prog 59 #[.agg #[.int .i64 f.T, .string f.N, .int .i64 f.Y.k, .string f.Y.n, .slice f.Y.o f.Y.of.length f.Y.c], .pointer (some ⟨b1, 0, none⟩), .pointer (some ⟨b2, 0, none⟩)] w (fun e w' => ErP (QRow M d f) F p L q M w e w') := by
  have hB := (Below.refl w.heap.size w).alloc (Nat.le_refl _) (.cells #[.int .i64 f.T, .string f.N, .int .i64 f.Y.k, .string f.Y.n, .slice f.Y.o f.Y.of.length f.Y.c] 50)
  have hE := h.below hB
  have k0 := hE.c1.cell (i := 0) rfl
  have k1 := hE.c1.cell (i := 1) rfl
  have k2 := hE.c1.cell (i := 2) rfl
  have j0 := hE.c2.cell (i := 0) rfl
  have j1 := hE.c2.cell (i := 1) rfl
  have j2 := hE.c2.cell (i := 2) rfl
  have j3 := hE.c2.cell (i := 3) rfl
  have j4 := hE.c2.cell (i := 4) rfl
  have HE := Lib.hid hE
  have HB := Lib.hid hB
  have HF := Lib.hid hf
  clear h hf hE hB
  go_enter Tryz.func59, Tryz.ntmps59
  go_wp2_with (go_at_call 60; go_loud (refine (wrow_any F p L q M m d f _ HE.out.pq (HF.out.below (by rw [cut_size]; exact cut_below HB.out)) HE.out.sz).mono ?_; rintro e w2 ⟨er, rfl, hq, hp2, hb2⟩; have HQ := Lib.hid hq; have HP2 := Lib.hid hp2; have HB2 := Lib.hid hb2; clear hq hp2 hb2))
  go_ret
  exact ⟨er, rfl, HQ.out, HP2.out, (Be.of HB.out).trans HB2.out⟩

set_option maxRecDepth 100000 in
set_option maxHeartbeats 2000000 in
theorem clo3_any (F : Nat → Bool) (p : Option Addr) (L : Sc) (q : Option Addr) (M : Sc) (b1 b2 m : Nat) (d : Dz) (f : Fz) (w : World) (h : Ev F p L q M b1 b2 m d w) (hf : F1 f (cut F w)) :
    Calls Tryz.prog 64 #[.agg #[.int .i64 f.T, .string f.N, .int .i64 f.Y.k, .string f.Y.n, .slice f.Y.o f.Y.of.length f.Y.c], .pointer (some ⟨b1, 0, none⟩), .pointer (some ⟨b2, 0, none⟩)] w (fun e w' => ErP (QNew L d f) F p L q M w e w') := by
  have hB := (Below.refl w.heap.size w).alloc (Nat.le_refl _) (.cells #[.int .i64 f.T, .string f.N, .int .i64 f.Y.k, .string f.Y.n, .slice f.Y.o f.Y.of.length f.Y.c] 50)
  have hE := h.below hB
  have k0 := hE.c1.cell (i := 0) rfl
  have k1 := hE.c1.cell (i := 1) rfl
  have k2 := hE.c1.cell (i := 2) rfl
  have j0 := hE.c2.cell (i := 0) rfl
  have j1 := hE.c2.cell (i := 1) rfl
  have j2 := hE.c2.cell (i := 2) rfl
  have j3 := hE.c2.cell (i := 3) rfl
  have j4 := hE.c2.cell (i := 4) rfl
  have HE := Lib.hid hE
  have HB := Lib.hid hB
  have HF := Lib.hid hf
  clear h hf hE hB
  go_enter Tryz.func64, Tryz.ntmps64
  go_wp2_with (go_at_call 65; go_loud (refine (wnew_any F p L q M m d f _ HE.out.pq (HF.out.below (by rw [cut_size]; exact cut_below HB.out)) HE.out.sz).mono ?_; rintro e w2 ⟨er, rfl, hq, hp2, hb2⟩; have HQ := Lib.hid hq; have HP2 := Lib.hid hp2; have HB2 := Lib.hid hb2; clear hq hp2 hb2))
  go_ret
  exact ⟨er, rfl, HQ.out, HP2.out, (Be.of HB.out).trans HB2.out⟩

set_option maxRecDepth 100000 in
set_option maxHeartbeats 2000000 in
theorem clo2_any (F : Nat → Bool) (p : Option Addr) (L : Sc) (q : Option Addr) (M : Sc) (b1 b2 m : Nat) (d : Dz) (f : Mz) (w : World) (h : Ev F p L q M b1 b2 m d w) (hf : M1 f) :
    Calls Tryz.prog 62 #[.agg #[.int .i64 f.T, .string f.N, .string f.I, .string f.O, .bool f.W], .pointer (some ⟨b1, 0, none⟩), .pointer (some ⟨b2, 0, none⟩)] w (fun e w' => ErP (True) F p L q M w e w') := by
  have hB := (Below.refl w.heap.size w).alloc (Nat.le_refl _) (.cells #[.int .i64 f.T, .string f.N, .string f.I, .string f.O, .bool f.W] 98)
  have hE := h.below hB
  have k0 := hE.c1.cell (i := 0) rfl
  have k1 := hE.c1.cell (i := 1) rfl
  have k2 := hE.c1.cell (i := 2) rfl
  have j0 := hE.c2.cell (i := 0) rfl
  have j1 := hE.c2.cell (i := 1) rfl
  have j2 := hE.c2.cell (i := 2) rfl
  have j3 := hE.c2.cell (i := 3) rfl
  have j4 := hE.c2.cell (i := 4) rfl
  have HE := Lib.hid hE
  have HB := Lib.hid hB
  have HF := Lib.hid hf
  clear h hf hE hB
  go_enter Tryz.func62, Tryz.ntmps62
  go_wp2_with (go_at_call 63; go_loud (refine (wmeth_any F p L q M m _ d f _ HE.out.pq HE.out.mm.choose_spec HE.out.sz HF.out.1).mono ?_; rintro e w2 ⟨er, rfl, hq, hp2, hb2⟩; have HQ := Lib.hid hq; have HP2 := Lib.hid hp2; have HB2 := Lib.hid hb2; clear hq hp2 hb2))
  go_ret
  exact ⟨er, rfl, HQ.out, HP2.out, (Be.of HB.out).trans HB2.out⟩

set_option maxRecDepth 100000 in
set_option maxHeartbeats 4000000 in
theorem first1_any (F : Nat → Bool) (p : Option Addr) (L : Sc) (q : Option Addr) (M : Sc) (b1 b2 m : Nat) (d : Dz) (o : Option Addr) (n c : Nat) (U : Nat → Fz) (w : World) (h : Ev F p L q M b1 b2 m d w) (hf : Fls o n U (cut F w)) :
    Calls Tryz.prog 58 #[.slice o n c, .func (.func 59) #[] #[.pointer (some ⟨b1, 0, none⟩), .pointer (some ⟨b2, 0, none⟩)]] w (fun e w' => FiF (∀ i, i < n → QRow M d (U i)) F p L q M w e w') := by
  have hn := hf.2.1
  have hn2 : n ≤ 9223372036854775807 := by omega
  have HE1 := Lib.hid (h.add (.cells #[.int .i64 0, .string ⟨#[]⟩, .int .i64 0, .string ⟨#[]⟩, .slice none 0 0] 50))
  have HC1 := Lib.hid (Cs.new w [.int .i64 0, .string ⟨#[]⟩, .int .i64 0, .string ⟨#[]⟩, .slice none 0 0] 50)
  have HF1 := Lib.hid (hf.sub (add_new w (.cells #[.int .i64 0, .string ⟨#[]⟩, .int .i64 0, .string ⟨#[]⟩, .slice none 0 0] 50)))
  have HB1 := Lib.hid (Be.of (F := own p q) ((Below.refl w.heap.size w).alloc (Nat.le_refl _) (.cells #[.int .i64 0, .string ⟨#[]⟩, .int .i64 0, .string ⟨#[]⟩, .slice none 0 0] 50)))
  have HP := Lib.hid h.pq
  clear h hf
  go_enter Tryz.func58, Tryz.ntmps58
  go_wp2
  go_loopw [12] (fun i wr => ∃ j, j ≤ n ∧ i = .int .i64 (j : Nat) ∧ Hid (∀ i, i < j → QRow M d (U i)) ∧ Hid (Ev (add F w.heap.size) p L q M b1 b2 m d wr) ∧ Hid (Be (own p q) w wr) ∧ Hid (Cs w.heap.size [.int .i64 0, .string ⟨#[]⟩, .int .i64 0, .string ⟨#[]⟩, .slice none 0 0] wr) ∧ Hid (Fls o n U (cut (add F w.heap.size) wr))) (fun i _ => n - (intOf i).toNat)
  case atStart => exact ⟨0, by omega, rfl, Lib.hid (fun i hi => by omega), HE1, HB1, HC1, HF1⟩
  case round =>
    obtain ⟨j, hj, rfl, HQ, HE, HB, HC, HF⟩ := hrel
    clear HE1 HB1 HC1 HF1
    have hsz := HB.out.size
    have HNW : Hid (own p q w.heap.size = false) := Lib.hid (HP.out.new (Nat.le_refl _))
    by_cases hjl : j < n
    · have hji : (j : Int) < (n : Int) := by omega
      obtain ⟨a, Ab, Ao, As, rfl, hA, hAb, c0, c1, c2, c3, c4⟩ := ex_five (v0 := .int .i64 (U j).T) (v1 := .string (U j).N) (v2 := .int .i64 (U j).Y.k) (v3 := .string (U j).Y.n) (v4 := .slice (U j).Y.o (U j).Y.of.length (U j).Y.c) (HF.out.sub (cut_all _ wr)).1 hjl rfl
      have hX := Cs.new wr [.int .i64 (U j).T, .string (U j).N, .int .i64 (U j).Y.k, .string (U j).Y.n, .slice (U j).Y.o (U j).Y.of.length (U j).Y.c] 50
      have hBx := (Below.refl wr.heap.size wr).alloc (Nat.le_refl _) (.cells #[.int .i64 (U j).T, .string (U j).N, .int .i64 (U j).Y.k, .string (U j).Y.n, .slice (U j).Y.o (U j).Y.of.length (U j).Y.c] 50)
      have HX := Lib.hid hX
      have HEx := Lib.hid (HE.out.below hBx)
      have HFx := Lib.hid (HF.out.sub (Sub.of_below (by rw [cut_size]; exact cut_below hBx)))
      have HNX : Hid (own p q wr.heap.size = false) := Lib.hid (HE.out.pq.new (Nat.le_refl _))
      have HCx := Lib.hid (HC.out.below hBx HC.out.lt)
      have HBx := Lib.hid (HB.out.after hBx)
      clear hX hBx
      go_wp2_with (go_at_call 59; go_loud (refine (clo1_any (add F w.heap.size) p L q M b1 b2 m d (U j) _ HEx.out (HFx.out.2.2 j hjl)).mono ?_; rintro e w2 ⟨er, rfl, hq, hp2, hb2⟩; have HQ2 := Lib.hid hq; have HE2 := Lib.hid (HEx.out.step hp2 hb2); have HF2 := Lib.hid (HFx.out.sub (Sub.of_below (by rw [cut_size]; exact HEx.out.pq.wide hb2))); have HB2 := Lib.hid (HBx.out.trans hb2); have hX2 := HX.out.be hb2 HNX.out; have hC2 := HCx.out.be hb2 HNW.out; have x0 := hX2.cell (i := 0) rfl; have x1 := hX2.cell (i := 1) rfl; have x2 := hX2.cell (i := 2) rfl; have x3 := hX2.cell (i := 3) rfl; have x4 := hX2.cell (i := 4) rfl; have g0 := hC2.cell (i := 0) rfl; have g1 := hC2.cell (i := 1) rfl; have g2 := hC2.cell (i := 2) rfl; have g3 := hC2.cell (i := 3) rfl; have g4 := hC2.cell (i := 4) rfl; have z0 := hC2.frozen (i := 0) rfl; have z1 := hC2.frozen (i := 1) rfl; have z2 := hC2.frozen (i := 2) rfl; have z3 := hC2.frozen (i := 3) rfl; have z4 := hC2.frozen (i := 4) rfl; have HC2 := Lib.hid hC2; clear hq hp2 hb2 hX2 hC2))
      · rename_i hne
        have hC5 := (((((HC2.out.put (i := 0) (.int .i64 (U j).T)).put (i := 1) (.string (U j).N)).put (i := 2) (.int .i64 (U j).Y.k)).put (i := 3) (.string (U j).Y.n)).put (i := 4) (.slice (U j).Y.o (U j).Y.of.length (U j).Y.c))
        have hB5 := (((((HB2.out.setCell (b := w.heap.size) (o := 0) (.inr (Nat.le_refl _)) (.int .i64 (U j).T)).setCell (b := w.heap.size) (o := 1) (.inr (Nat.le_refl _)) (.string (U j).N)).setCell (b := w.heap.size) (o := 2) (.inr (Nat.le_refl _)) (.int .i64 (U j).Y.k)).setCell (b := w.heap.size) (o := 3) (.inr (Nat.le_refl _)) (.string (U j).Y.n)).setCell (b := w.heap.size) (o := 4) (.inr (Nat.le_refl _)) (.slice (U j).Y.o (U j).Y.of.length (U j).Y.c))
        have hL5 := ((((((Be.refl (fun k => decide (k = w.heap.size)) w2).setCell (b := w.heap.size) (o := 0) (.inl (by simp)) (.int .i64 (U j).T)).setCell (b := w.heap.size) (o := 1) (.inl (by simp)) (.string (U j).N)).setCell (b := w.heap.size) (o := 2) (.inl (by simp)) (.int .i64 (U j).Y.k)).setCell (b := w.heap.size) (o := 3) (.inl (by simp)) (.string (U j).Y.n)).setCell (b := w.heap.size) (o := 4) (.inl (by simp)) (.slice (U j).Y.o (U j).Y.of.length (U j).Y.c))
        generalize (((((w2.setCell ⟨w.heap.size, 0, none⟩ (.int .i64 (U j).T)).setCell ⟨w.heap.size, 1, none⟩ (.string (U j).N)).setCell ⟨w.heap.size, 2, none⟩ (.int .i64 (U j).Y.k)).setCell ⟨w.heap.size, 3, none⟩ (.string (U j).Y.n)).setCell ⟨w.heap.size, 4, none⟩ (.slice (U j).Y.o (U j).Y.of.length (U j).Y.c)) = W at hC5 hB5 hL5 ⊢
        have hP5 := HP.out.local HE2.out.pq hL5
        have d0 := hC5.cell (i := 0) rfl
        have d1 := hC5.cell (i := 1) rfl
        have d2 := hC5.cell (i := 2) rfl
        have d3 := hC5.cell (i := 3) rfl
        have d4 := hC5.cell (i := 4) rfl
        refine bodyPost_ret (by simp [results, Tryz.results58, go_sem, d0, d1, d2, d3, d4]; try rfl) rfl ?_
        exact ⟨U j, er, rfl, fun h => (by subst h; simp at hne), hP5, hB5⟩
      · rename_i hne
        have he0 : er = 0 := by simpa using hne
        exact ⟨⟨j + 1, by omega, by go_num, Lib.hid (fun i hi => by
          by_cases e : i = j
          · subst e; exact HQ2.out he0
          · exact HQ.out i (by omega)), HE2, HB2, HC2, HF2⟩, by simp [intOf]; omega⟩
    · have hji : ¬ (j : Int) < (n : Int) := by omega
      obtain rfl : j = n := by omega
      have hCz := HC.out.alloc (.cells #[.int .i64 0, .string ⟨#[]⟩, .int .i64 0, .string ⟨#[]⟩, .slice none 0 0] 50)
      have g0 := hCz.cell (i := 0) rfl
      have g1 := hCz.cell (i := 1) rfl
      have g2 := hCz.cell (i := 2) rfl
      have g3 := hCz.cell (i := 3) rfl
      have g4 := hCz.cell (i := 4) rfl
      have z0 := hCz.frozen (i := 0) rfl
      have z1 := hCz.frozen (i := 1) rfl
      have z2 := hCz.frozen (i := 2) rfl
      have z3 := hCz.frozen (i := 3) rfl
      have z4 := hCz.frozen (i := 4) rfl
      have HCz := Lib.hid hCz
      have HPz := Lib.hid (HE.out.pq.below ((Below.refl wr.heap.size wr).alloc (Nat.le_refl _) (.cells #[.int .i64 0, .string ⟨#[]⟩, .int .i64 0, .string ⟨#[]⟩, .slice none 0 0] 50)))
      have HBz := Lib.hid (HB.out.alloc (.cells #[.int .i64 0, .string ⟨#[]⟩, .int .i64 0, .string ⟨#[]⟩, .slice none 0 0] 50))
      clear hCz
      go_wp2
      generalize wr.alloc (.cells #[.int .i64 0, .string ⟨#[]⟩, .int .i64 0, .string ⟨#[]⟩, .slice none 0 0] 50) = W0 at *
      have hC5 := (((((HCz.out.put (i := 0) (.int .i64 0)).put (i := 1) (.string ⟨#[]⟩)).put (i := 2) (.int .i64 0)).put (i := 3) (.string ⟨#[]⟩)).put (i := 4) (.slice none 0 0))
      have hB5 := (((((HBz.out.setCell (b := w.heap.size) (o := 0) (.inr (Nat.le_refl _)) (.int .i64 0)).setCell (b := w.heap.size) (o := 1) (.inr (Nat.le_refl _)) (.string ⟨#[]⟩)).setCell (b := w.heap.size) (o := 2) (.inr (Nat.le_refl _)) (.int .i64 0)).setCell (b := w.heap.size) (o := 3) (.inr (Nat.le_refl _)) (.string ⟨#[]⟩)).setCell (b := w.heap.size) (o := 4) (.inr (Nat.le_refl _)) (.slice none 0 0))
      have hL5 := ((((((Be.refl (fun k => decide (k = w.heap.size)) W0).setCell (b := w.heap.size) (o := 0) (.inl (by simp)) (.int .i64 0)).setCell (b := w.heap.size) (o := 1) (.inl (by simp)) (.string ⟨#[]⟩)).setCell (b := w.heap.size) (o := 2) (.inl (by simp)) (.int .i64 0)).setCell (b := w.heap.size) (o := 3) (.inl (by simp)) (.string ⟨#[]⟩)).setCell (b := w.heap.size) (o := 4) (.inl (by simp)) (.slice none 0 0))
      generalize (((((W0.setCell ⟨w.heap.size, 0, none⟩ (.int .i64 0)).setCell ⟨w.heap.size, 1, none⟩ (.string ⟨#[]⟩)).setCell ⟨w.heap.size, 2, none⟩ (.int .i64 0)).setCell ⟨w.heap.size, 3, none⟩ (.string ⟨#[]⟩)).setCell ⟨w.heap.size, 4, none⟩ (.slice none 0 0)) = W at hC5 hB5 hL5 ⊢
      have hP5 := HP.out.local HPz.out hL5
      have d0 := hC5.cell (i := 0) rfl
      have d1 := hC5.cell (i := 1) rfl
      have d2 := hC5.cell (i := 2) rfl
      have d3 := hC5.cell (i := 3) rfl
      have d4 := hC5.cell (i := 4) rfl
      refine bodyPost_ret (by simp [results, Tryz.results58, go_sem, d0, d1, d2, d3, d4]; try rfl) rfl ?_
      first | exact ⟨default, 0, rfl, fun _ => HQ.out, hP5, hB5⟩ | exact ⟨default, 0, rfl, fun _ => trivial, hP5, hB5⟩

set_option maxRecDepth 100000 in
set_option maxHeartbeats 4000000 in
theorem first3_any (F : Nat → Bool) (p : Option Addr) (L : Sc) (q : Option Addr) (M : Sc) (b1 b2 m : Nat) (d : Dz) (o : Option Addr) (n c : Nat) (U : Nat → Fz) (w : World) (h : Ev F p L q M b1 b2 m d w) (hf : Fls o n U (cut F w)) :
    Calls Tryz.prog 58 #[.slice o n c, .func (.func 64) #[] #[.pointer (some ⟨b1, 0, none⟩), .pointer (some ⟨b2, 0, none⟩)]] w (fun e w' => FiF (∀ i, i < n → QNew L d (U i)) F p L q M w e w') := by
  have hn := hf.2.1
  have hn2 : n ≤ 9223372036854775807 := by omega
  have HE1 := Lib.hid (h.add (.cells #[.int .i64 0, .string ⟨#[]⟩, .int .i64 0, .string ⟨#[]⟩, .slice none 0 0] 50))
  have HC1 := Lib.hid (Cs.new w [.int .i64 0, .string ⟨#[]⟩, .int .i64 0, .string ⟨#[]⟩, .slice none 0 0] 50)
  have HF1 := Lib.hid (hf.sub (add_new w (.cells #[.int .i64 0, .string ⟨#[]⟩, .int .i64 0, .string ⟨#[]⟩, .slice none 0 0] 50)))
  have HB1 := Lib.hid (Be.of (F := own p q) ((Below.refl w.heap.size w).alloc (Nat.le_refl _) (.cells #[.int .i64 0, .string ⟨#[]⟩, .int .i64 0, .string ⟨#[]⟩, .slice none 0 0] 50)))
  have HP := Lib.hid h.pq
  clear h hf
  go_enter Tryz.func58, Tryz.ntmps58
  go_wp2
  go_loopw [12] (fun i wr => ∃ j, j ≤ n ∧ i = .int .i64 (j : Nat) ∧ Hid (∀ i, i < j → QNew L d (U i)) ∧ Hid (Ev (add F w.heap.size) p L q M b1 b2 m d wr) ∧ Hid (Be (own p q) w wr) ∧ Hid (Cs w.heap.size [.int .i64 0, .string ⟨#[]⟩, .int .i64 0, .string ⟨#[]⟩, .slice none 0 0] wr) ∧ Hid (Fls o n U (cut (add F w.heap.size) wr))) (fun i _ => n - (intOf i).toNat)
  case atStart => exact ⟨0, by omega, rfl, Lib.hid (fun i hi => by omega), HE1, HB1, HC1, HF1⟩
  case round =>
    obtain ⟨j, hj, rfl, HQ, HE, HB, HC, HF⟩ := hrel
    clear HE1 HB1 HC1 HF1
    have hsz := HB.out.size
    have HNW : Hid (own p q w.heap.size = false) := Lib.hid (HP.out.new (Nat.le_refl _))
    by_cases hjl : j < n
    · have hji : (j : Int) < (n : Int) := by omega
      obtain ⟨a, Ab, Ao, As, rfl, hA, hAb, c0, c1, c2, c3, c4⟩ := ex_five (v0 := .int .i64 (U j).T) (v1 := .string (U j).N) (v2 := .int .i64 (U j).Y.k) (v3 := .string (U j).Y.n) (v4 := .slice (U j).Y.o (U j).Y.of.length (U j).Y.c) (HF.out.sub (cut_all _ wr)).1 hjl rfl
      have hX := Cs.new wr [.int .i64 (U j).T, .string (U j).N, .int .i64 (U j).Y.k, .string (U j).Y.n, .slice (U j).Y.o (U j).Y.of.length (U j).Y.c] 50
      have hBx := (Below.refl wr.heap.size wr).alloc (Nat.le_refl _) (.cells #[.int .i64 (U j).T, .string (U j).N, .int .i64 (U j).Y.k, .string (U j).Y.n, .slice (U j).Y.o (U j).Y.of.length (U j).Y.c] 50)
      have HX := Lib.hid hX
      have HEx := Lib.hid (HE.out.below hBx)
      have HFx := Lib.hid (HF.out.sub (Sub.of_below (by rw [cut_size]; exact cut_below hBx)))
      have HNX : Hid (own p q wr.heap.size = false) := Lib.hid (HE.out.pq.new (Nat.le_refl _))
      have HCx := Lib.hid (HC.out.below hBx HC.out.lt)
      have HBx := Lib.hid (HB.out.after hBx)
      clear hX hBx
      go_wp2_with (go_at_call 64; go_loud (refine (clo3_any (add F w.heap.size) p L q M b1 b2 m d (U j) _ HEx.out (HFx.out.2.2 j hjl)).mono ?_; rintro e w2 ⟨er, rfl, hq, hp2, hb2⟩; have HQ2 := Lib.hid hq; have HE2 := Lib.hid (HEx.out.step hp2 hb2); have HF2 := Lib.hid (HFx.out.sub (Sub.of_below (by rw [cut_size]; exact HEx.out.pq.wide hb2))); have HB2 := Lib.hid (HBx.out.trans hb2); have hX2 := HX.out.be hb2 HNX.out; have hC2 := HCx.out.be hb2 HNW.out; have x0 := hX2.cell (i := 0) rfl; have x1 := hX2.cell (i := 1) rfl; have x2 := hX2.cell (i := 2) rfl; have x3 := hX2.cell (i := 3) rfl; have x4 := hX2.cell (i := 4) rfl; have g0 := hC2.cell (i := 0) rfl; have g1 := hC2.cell (i := 1) rfl; have g2 := hC2.cell (i := 2) rfl; have g3 := hC2.cell (i := 3) rfl; have g4 := hC2.cell (i := 4) rfl; have z0 := hC2.frozen (i := 0) rfl; have z1 := hC2.frozen (i := 1) rfl; have z2 := hC2.frozen (i := 2) rfl; have z3 := hC2.frozen (i := 3) rfl; have z4 := hC2.frozen (i := 4) rfl; have HC2 := Lib.hid hC2; clear hq hp2 hb2 hX2 hC2))
      · rename_i hne
        have hC5 := (((((HC2.out.put (i := 0) (.int .i64 (U j).T)).put (i := 1) (.string (U j).N)).put (i := 2) (.int .i64 (U j).Y.k)).put (i := 3) (.string (U j).Y.n)).put (i := 4) (.slice (U j).Y.o (U j).Y.of.length (U j).Y.c))
        have hB5 := (((((HB2.out.setCell (b := w.heap.size) (o := 0) (.inr (Nat.le_refl _)) (.int .i64 (U j).T)).setCell (b := w.heap.size) (o := 1) (.inr (Nat.le_refl _)) (.string (U j).N)).setCell (b := w.heap.size) (o := 2) (.inr (Nat.le_refl _)) (.int .i64 (U j).Y.k)).setCell (b := w.heap.size) (o := 3) (.inr (Nat.le_refl _)) (.string (U j).Y.n)).setCell (b := w.heap.size) (o := 4) (.inr (Nat.le_refl _)) (.slice (U j).Y.o (U j).Y.of.length (U j).Y.c))
        have hL5 := ((((((Be.refl (fun k => decide (k = w.heap.size)) w2).setCell (b := w.heap.size) (o := 0) (.inl (by simp)) (.int .i64 (U j).T)).setCell (b := w.heap.size) (o := 1) (.inl (by simp)) (.string (U j).N)).setCell (b := w.heap.size) (o := 2) (.inl (by simp)) (.int .i64 (U j).Y.k)).setCell (b := w.heap.size) (o := 3) (.inl (by simp)) (.string (U j).Y.n)).setCell (b := w.heap.size) (o := 4) (.inl (by simp)) (.slice (U j).Y.o (U j).Y.of.length (U j).Y.c))
        generalize (((((w2.setCell ⟨w.heap.size, 0, none⟩ (.int .i64 (U j).T)).setCell ⟨w.heap.size, 1, none⟩ (.string (U j).N)).setCell ⟨w.heap.size, 2, none⟩ (.int .i64 (U j).Y.k)).setCell ⟨w.heap.size, 3, none⟩ (.string (U j).Y.n)).setCell ⟨w.heap.size, 4, none⟩ (.slice (U j).Y.o (U j).Y.of.length (U j).Y.c)) = W at hC5 hB5 hL5 ⊢
        have hP5 := HP.out.local HE2.out.pq hL5
        have d0 := hC5.cell (i := 0) rfl
        have d1 := hC5.cell (i := 1) rfl
        have d2 := hC5.cell (i := 2) rfl
        have d3 := hC5.cell (i := 3) rfl
        have d4 := hC5.cell (i := 4) rfl
        refine bodyPost_ret (by simp [results, Tryz.results58, go_sem, d0, d1, d2, d3, d4]; try rfl) rfl ?_
        exact ⟨U j, er, rfl, fun h => (by subst h; simp at hne), hP5, hB5⟩
      · rename_i hne
        have he0 : er = 0 := by simpa using hne
        exact ⟨⟨j + 1, by omega, by go_num, Lib.hid (fun i hi => by
          by_cases e : i = j
          · subst e; exact HQ2.out he0
          · exact HQ.out i (by omega)), HE2, HB2, HC2, HF2⟩, by simp [intOf]; omega⟩
    · have hji : ¬ (j : Int) < (n : Int) := by omega
      obtain rfl : j = n := by omega
      have hCz := HC.out.alloc (.cells #[.int .i64 0, .string ⟨#[]⟩, .int .i64 0, .string ⟨#[]⟩, .slice none 0 0] 50)
      have g0 := hCz.cell (i := 0) rfl
      have g1 := hCz.cell (i := 1) rfl
      have g2 := hCz.cell (i := 2) rfl
      have g3 := hCz.cell (i := 3) rfl
      have g4 := hCz.cell (i := 4) rfl
      have z0 := hCz.frozen (i := 0) rfl
      have z1 := hCz.frozen (i := 1) rfl
      have z2 := hCz.frozen (i := 2) rfl
      have z3 := hCz.frozen (i := 3) rfl
      have z4 := hCz.frozen (i := 4) rfl
      have HCz := Lib.hid hCz
      have HPz := Lib.hid (HE.out.pq.below ((Below.refl wr.heap.size wr).alloc (Nat.le_refl _) (.cells #[.int .i64 0, .string ⟨#[]⟩, .int .i64 0, .string ⟨#[]⟩, .slice none 0 0] 50)))
      have HBz := Lib.hid (HB.out.alloc (.cells #[.int .i64 0, .string ⟨#[]⟩, .int .i64 0, .string ⟨#[]⟩, .slice none 0 0] 50))
      clear hCz
      go_wp2
      generalize wr.alloc (.cells #[.int .i64 0, .string ⟨#[]⟩, .int .i64 0, .string ⟨#[]⟩, .slice none 0 0] 50) = W0 at *
      have hC5 := (((((HCz.out.put (i := 0) (.int .i64 0)).put (i := 1) (.string ⟨#[]⟩)).put (i := 2) (.int .i64 0)).put (i := 3) (.string ⟨#[]⟩)).put (i := 4) (.slice none 0 0))
      have hB5 := (((((HBz.out.setCell (b := w.heap.size) (o := 0) (.inr (Nat.le_refl _)) (.int .i64 0)).setCell (b := w.heap.size) (o := 1) (.inr (Nat.le_refl _)) (.string ⟨#[]⟩)).setCell (b := w.heap.size) (o := 2) (.inr (Nat.le_refl _)) (.int .i64 0)).setCell (b := w.heap.size) (o := 3) (.inr (Nat.le_refl _)) (.string ⟨#[]⟩)).setCell (b := w.heap.size) (o := 4) (.inr (Nat.le_refl _)) (.slice none 0 0))
      have hL5 := ((((((Be.refl (fun k => decide (k = w.heap.size)) W0).setCell (b := w.heap.size) (o := 0) (.inl (by simp)) (.int .i64 0)).setCell (b := w.heap.size) (o := 1) (.inl (by simp)) (.string ⟨#[]⟩)).setCell (b := w.heap.size) (o := 2) (.inl (by simp)) (.int .i64 0)).setCell (b := w.heap.size) (o := 3) (.inl (by simp)) (.string ⟨#[]⟩)).setCell (b := w.heap.size) (o := 4) (.inl (by simp)) (.slice none 0 0))
      generalize (((((W0.setCell ⟨w.heap.size, 0, none⟩ (.int .i64 0)).setCell ⟨w.heap.size, 1, none⟩ (.string ⟨#[]⟩)).setCell ⟨w.heap.size, 2, none⟩ (.int .i64 0)).setCell ⟨w.heap.size, 3, none⟩ (.string ⟨#[]⟩)).setCell ⟨w.heap.size, 4, none⟩ (.slice none 0 0)) = W at hC5 hB5 hL5 ⊢
      have hP5 := HP.out.local HPz.out hL5
      have d0 := hC5.cell (i := 0) rfl
      have d1 := hC5.cell (i := 1) rfl
      have d2 := hC5.cell (i := 2) rfl
      have d3 := hC5.cell (i := 3) rfl
      have d4 := hC5.cell (i := 4) rfl
      refine bodyPost_ret (by simp [results, Tryz.results58, go_sem, d0, d1, d2, d3, d4]; try rfl) rfl ?_
      first | exact ⟨default, 0, rfl, fun _ => HQ.out, hP5, hB5⟩ | exact ⟨default, 0, rfl, fun _ => trivial, hP5, hB5⟩

set_option maxRecDepth 100000 in
set_option maxHeartbeats 4000000 in
theorem first2_any (F : Nat → Bool) (p : Option Addr) (L : Sc) (q : Option Addr) (M : Sc) (b1 b2 m : Nat) (d : Dz) (o : Option Addr) (n c : Nat) (U : Nat → Mz) (w : World) (h : Ev F p L q M b1 b2 m d w) (hf : Ms o n U (cut F w)) :
    Calls Tryz.prog 61 #[.slice o n c, .func (.func 62) #[] #[.pointer (some ⟨b1, 0, none⟩), .pointer (some ⟨b2, 0, none⟩)]] w (fun e w' => FiM (∀ i, i < n → True) F p L q M w e w') := by
  have hn := hf.2.1
  have hn2 : n ≤ 9223372036854775807 := by omega
  have HE1 := Lib.hid (h.add (.cells #[.int .i64 0, .string ⟨#[]⟩, .string ⟨#[]⟩, .string ⟨#[]⟩, .bool false] 98))
  have HC1 := Lib.hid (Cs.new w [.int .i64 0, .string ⟨#[]⟩, .string ⟨#[]⟩, .string ⟨#[]⟩, .bool false] 98)
  have HF1 := Lib.hid (hf.sub (add_new w (.cells #[.int .i64 0, .string ⟨#[]⟩, .string ⟨#[]⟩, .string ⟨#[]⟩, .bool false] 98)))
  have HB1 := Lib.hid (Be.of (F := own p q) ((Below.refl w.heap.size w).alloc (Nat.le_refl _) (.cells #[.int .i64 0, .string ⟨#[]⟩, .string ⟨#[]⟩, .string ⟨#[]⟩, .bool false] 98)))
  have HP := Lib.hid h.pq
  clear h hf
  go_enter Tryz.func61, Tryz.ntmps61
  go_wp2
  go_loopw [12] (fun i wr => ∃ j, j ≤ n ∧ i = .int .i64 (j : Nat) ∧ Hid (∀ i, i < j → True) ∧ Hid (Ev (add F w.heap.size) p L q M b1 b2 m d wr) ∧ Hid (Be (own p q) w wr) ∧ Hid (Cs w.heap.size [.int .i64 0, .string ⟨#[]⟩, .string ⟨#[]⟩, .string ⟨#[]⟩, .bool false] wr) ∧ Hid (Ms o n U (cut (add F w.heap.size) wr))) (fun i _ => n - (intOf i).toNat)
  case atStart => exact ⟨0, by omega, rfl, Lib.hid (fun i hi => by omega), HE1, HB1, HC1, HF1⟩
  case round =>
    obtain ⟨j, hj, rfl, HQ, HE, HB, HC, HF⟩ := hrel
    clear HE1 HB1 HC1 HF1
    have hsz := HB.out.size
    have HNW : Hid (own p q w.heap.size = false) := Lib.hid (HP.out.new (Nat.le_refl _))
    by_cases hjl : j < n
    · have hji : (j : Int) < (n : Int) := by omega
      obtain ⟨a, Ab, Ao, As, rfl, hA, hAb, c0, c1, c2, c3, c4⟩ := ex_five (v0 := .int .i64 (U j).T) (v1 := .string (U j).N) (v2 := .string (U j).I) (v3 := .string (U j).O) (v4 := .bool (U j).W) (HF.out.sub (cut_all _ wr)).1 hjl rfl
      have hX := Cs.new wr [.int .i64 (U j).T, .string (U j).N, .string (U j).I, .string (U j).O, .bool (U j).W] 98
      have hBx := (Below.refl wr.heap.size wr).alloc (Nat.le_refl _) (.cells #[.int .i64 (U j).T, .string (U j).N, .string (U j).I, .string (U j).O, .bool (U j).W] 98)
      have HX := Lib.hid hX
      have HEx := Lib.hid (HE.out.below hBx)
      have HFx := Lib.hid (HF.out.sub (Sub.of_below (by rw [cut_size]; exact cut_below hBx)))
      have HNX : Hid (own p q wr.heap.size = false) := Lib.hid (HE.out.pq.new (Nat.le_refl _))
      have HCx := Lib.hid (HC.out.below hBx HC.out.lt)
      have HBx := Lib.hid (HB.out.after hBx)
      clear hX hBx
      go_wp2_with (go_at_call 62; go_loud (refine (clo2_any (add F w.heap.size) p L q M b1 b2 m d (U j) _ HEx.out (HFx.out.2.2 j hjl)).mono ?_; rintro e w2 ⟨er, rfl, hq, hp2, hb2⟩; have HQ2 := Lib.hid hq; have HE2 := Lib.hid (HEx.out.step hp2 hb2); have HF2 := Lib.hid (HFx.out.sub (Sub.of_below (by rw [cut_size]; exact HEx.out.pq.wide hb2))); have HB2 := Lib.hid (HBx.out.trans hb2); have hX2 := HX.out.be hb2 HNX.out; have hC2 := HCx.out.be hb2 HNW.out; have x0 := hX2.cell (i := 0) rfl; have x1 := hX2.cell (i := 1) rfl; have x2 := hX2.cell (i := 2) rfl; have x3 := hX2.cell (i := 3) rfl; have x4 := hX2.cell (i := 4) rfl; have g0 := hC2.cell (i := 0) rfl; have g1 := hC2.cell (i := 1) rfl; have g2 := hC2.cell (i := 2) rfl; have g3 := hC2.cell (i := 3) rfl; have g4 := hC2.cell (i := 4) rfl; have z0 := hC2.frozen (i := 0) rfl; have z1 := hC2.frozen (i := 1) rfl; have z2 := hC2.frozen (i := 2) rfl; have z3 := hC2.frozen (i := 3) rfl; have z4 := hC2.frozen (i := 4) rfl; have HC2 := Lib.hid hC2; clear hq hp2 hb2 hX2 hC2))
      · rename_i hne
        have hC5 := (((((HC2.out.put (i := 0) (.int .i64 (U j).T)).put (i := 1) (.string (U j).N)).put (i := 2) (.string (U j).I)).put (i := 3) (.string (U j).O)).put (i := 4) (.bool (U j).W))
        have hB5 := (((((HB2.out.setCell (b := w.heap.size) (o := 0) (.inr (Nat.le_refl _)) (.int .i64 (U j).T)).setCell (b := w.heap.size) (o := 1) (.inr (Nat.le_refl _)) (.string (U j).N)).setCell (b := w.heap.size) (o := 2) (.inr (Nat.le_refl _)) (.string (U j).I)).setCell (b := w.heap.size) (o := 3) (.inr (Nat.le_refl _)) (.string (U j).O)).setCell (b := w.heap.size) (o := 4) (.inr (Nat.le_refl _)) (.bool (U j).W))
        have hL5 := ((((((Be.refl (fun k => decide (k = w.heap.size)) w2).setCell (b := w.heap.size) (o := 0) (.inl (by simp)) (.int .i64 (U j).T)).setCell (b := w.heap.size) (o := 1) (.inl (by simp)) (.string (U j).N)).setCell (b := w.heap.size) (o := 2) (.inl (by simp)) (.string (U j).I)).setCell (b := w.heap.size) (o := 3) (.inl (by simp)) (.string (U j).O)).setCell (b := w.heap.size) (o := 4) (.inl (by simp)) (.bool (U j).W))
        generalize (((((w2.setCell ⟨w.heap.size, 0, none⟩ (.int .i64 (U j).T)).setCell ⟨w.heap.size, 1, none⟩ (.string (U j).N)).setCell ⟨w.heap.size, 2, none⟩ (.string (U j).I)).setCell ⟨w.heap.size, 3, none⟩ (.string (U j).O)).setCell ⟨w.heap.size, 4, none⟩ (.bool (U j).W)) = W at hC5 hB5 hL5 ⊢
        have hP5 := HP.out.local HE2.out.pq hL5
        have d0 := hC5.cell (i := 0) rfl
        have d1 := hC5.cell (i := 1) rfl
        have d2 := hC5.cell (i := 2) rfl
        have d3 := hC5.cell (i := 3) rfl
        have d4 := hC5.cell (i := 4) rfl
        refine bodyPost_ret (by simp [results, Tryz.results61, go_sem, d0, d1, d2, d3, d4]; try rfl) rfl ?_
        exact ⟨U j, er, rfl, fun h => (by subst h; simp at hne), hP5, hB5⟩
      · rename_i hne
        have he0 : er = 0 := by simpa using hne
        exact ⟨⟨j + 1, by omega, by go_num, Lib.hid (fun i hi => by
          by_cases e : i = j
          · subst e; exact HQ2.out he0
          · exact HQ.out i (by omega)), HE2, HB2, HC2, HF2⟩, by simp [intOf]; omega⟩
    · have hji : ¬ (j : Int) < (n : Int) := by omega
      obtain rfl : j = n := by omega
      have hCz := HC.out.alloc (.cells #[.int .i64 0, .string ⟨#[]⟩, .string ⟨#[]⟩, .string ⟨#[]⟩, .bool false] 98)
      have g0 := hCz.cell (i := 0) rfl
      have g1 := hCz.cell (i := 1) rfl
      have g2 := hCz.cell (i := 2) rfl
      have g3 := hCz.cell (i := 3) rfl
      have g4 := hCz.cell (i := 4) rfl
      have z0 := hCz.frozen (i := 0) rfl
      have z1 := hCz.frozen (i := 1) rfl
      have z2 := hCz.frozen (i := 2) rfl
      have z3 := hCz.frozen (i := 3) rfl
      have z4 := hCz.frozen (i := 4) rfl
      have HCz := Lib.hid hCz
      have HPz := Lib.hid (HE.out.pq.below ((Below.refl wr.heap.size wr).alloc (Nat.le_refl _) (.cells #[.int .i64 0, .string ⟨#[]⟩, .string ⟨#[]⟩, .string ⟨#[]⟩, .bool false] 98)))
      have HBz := Lib.hid (HB.out.alloc (.cells #[.int .i64 0, .string ⟨#[]⟩, .string ⟨#[]⟩, .string ⟨#[]⟩, .bool false] 98))
      clear hCz
      go_wp2
      generalize wr.alloc (.cells #[.int .i64 0, .string ⟨#[]⟩, .string ⟨#[]⟩, .string ⟨#[]⟩, .bool false] 98) = W0 at *
      have hC5 := (((((HCz.out.put (i := 0) (.int .i64 0)).put (i := 1) (.string ⟨#[]⟩)).put (i := 2) (.string ⟨#[]⟩)).put (i := 3) (.string ⟨#[]⟩)).put (i := 4) (.bool false))
      have hB5 := (((((HBz.out.setCell (b := w.heap.size) (o := 0) (.inr (Nat.le_refl _)) (.int .i64 0)).setCell (b := w.heap.size) (o := 1) (.inr (Nat.le_refl _)) (.string ⟨#[]⟩)).setCell (b := w.heap.size) (o := 2) (.inr (Nat.le_refl _)) (.string ⟨#[]⟩)).setCell (b := w.heap.size) (o := 3) (.inr (Nat.le_refl _)) (.string ⟨#[]⟩)).setCell (b := w.heap.size) (o := 4) (.inr (Nat.le_refl _)) (.bool false))
      have hL5 := ((((((Be.refl (fun k => decide (k = w.heap.size)) W0).setCell (b := w.heap.size) (o := 0) (.inl (by simp)) (.int .i64 0)).setCell (b := w.heap.size) (o := 1) (.inl (by simp)) (.string ⟨#[]⟩)).setCell (b := w.heap.size) (o := 2) (.inl (by simp)) (.string ⟨#[]⟩)).setCell (b := w.heap.size) (o := 3) (.inl (by simp)) (.string ⟨#[]⟩)).setCell (b := w.heap.size) (o := 4) (.inl (by simp)) (.bool false))
      generalize (((((W0.setCell ⟨w.heap.size, 0, none⟩ (.int .i64 0)).setCell ⟨w.heap.size, 1, none⟩ (.string ⟨#[]⟩)).setCell ⟨w.heap.size, 2, none⟩ (.string ⟨#[]⟩)).setCell ⟨w.heap.size, 3, none⟩ (.string ⟨#[]⟩)).setCell ⟨w.heap.size, 4, none⟩ (.bool false)) = W at hC5 hB5 hL5 ⊢
      have hP5 := HP.out.local HPz.out hL5
      have d0 := hC5.cell (i := 0) rfl
      have d1 := hC5.cell (i := 1) rfl
      have d2 := hC5.cell (i := 2) rfl
      have d3 := hC5.cell (i := 3) rfl
      have d4 := hC5.cell (i := 4) rfl
      refine bodyPost_ret (by simp [results, Tryz.results61, go_sem, d0, d1, d2, d3, d4]; try rfl) rfl ?_
      first | exact ⟨default, 0, rfl, fun _ => HQ.out, hP5, hB5⟩ | exact ⟨default, 0, rfl, fun _ => trivial, hP5, hB5⟩
end Go.Proofs.YtdogddliifbjnaaGreat.Ck
