/- compat: methodsOf, first over declarations, Check. (firstd_any by gen_first.py's template.) -/
import Derived.Deep.RegionHeld3
import Derived.Test.YtdogddliifbjnaaGreatMg50
namespace Go.Proofs.YtdogddliifbjnaaGreat.Ck
open Go.RowKit Cm
open _root_.Go.Proofs.YtdogddliifbjnaaGreat.Nm
set_option linter.unusedVariables false
set_option linter.unusedSimpArgs false

/-- The two schemas and the map of methods. -/
structure Eq2 (F : Nat → Bool) (p : Option Addr) (L : Sc) (q : Option Addr) (M : Sc) (m cm : Nat) (w : World) : Prop where
  pq : Pq F p L q M w
  mm : Mm m cm w
section
variable {F : Nat → Bool} {p q : Option Addr} {L M : Sc} {m cm : Nat} {w w' : World}
theorem Eq2.mk' (h : Pq F p L q M w) (hm : Mm m cm w) (ob : Obj) : Eq2 (add F w.heap.size) p L q M m cm (w.alloc ob) := ⟨h.add ob, hm.below ((Below.refl w.heap.size w).alloc (Nat.le_refl _) ob) hm.lt⟩
theorem Eq2.step (h : Eq2 F p L q M m cm w) (hp : Pq F p L q M w') (hb : Be (own p q) w w') (hn : own p q m = false) : Eq2 F p L q M m cm w' := ⟨hp, h.mm.kept (hb.block h.mm.lt hn)⟩
theorem Eq2.below (h : Eq2 F p L q M m cm w) (hb : Below w.heap.size w w') : Eq2 F p L q M m cm w' := ⟨h.pq.below hb, h.mm.below hb h.mm.lt⟩
end
def QAll (L M : Sc) (d : Dz) : Prop := M.kd d.S = d.K ∧ M.kd d.S ≠ 0 ∧ QD L M d.K d.S
def FiD (P : Prop) (F : Nat → Bool) (p : Option Addr) (L : Sc) (q : Option Addr) (M : Sc) (w : World) (e : Ending) (w' : World) : Prop :=
  ∃ (f : Dz) (er : Int), e = .returned (.tuple #[.agg #[.int .i64 f.K, .string f.S, .slice f.fo f.fl f.fc, .slice f.mo f.ml f.mc, .int .i64 f.A], .int .i64 er]) ∧ (er = 0 → P) ∧ Pq F p L q M w' ∧ Be (own p q) w w'

set_option maxRecDepth 100000 in
set_option maxHeartbeats 4000000 in
theorem firstd_any (F : Nat → Bool) (p : Option Addr) (L : Sc) (q : Option Addr) (M : Sc) (m cm : Nat) (o : Option Addr) (n c : Nat) (U : Nat → Dz) (UF : Nat → Nat → Fz) (VM : Nat → Nat → Mz) (w : World) (h : Pq F p L q M w) (hm : Mm m cm w) (hnm : own p q m = false) (hf : Ds o n U UF VM (cut F w)) :
    Calls Tryz.prog 16 #[.slice o n c, .func (.func 18) #[.agg #[.pointer p, .pointer q, .map (some m)]] #[]] w (fun e w' => FiD (∀ i, i < n → QAll L M (U i)) F p L q M w e w') := by
  have hn := hf.2.1
  have hn2 : n ≤ 9223372036854775807 := by omega
  have HE1 := Lib.hid (Eq2.mk' h hm (.cells #[.int .i64 0, .string ⟨#[]⟩, .slice none 0 0, .slice none 0 0, .int .i64 0] 43))
  have HC1 := Lib.hid (Cs.new w [.int .i64 0, .string ⟨#[]⟩, .slice none 0 0, .slice none 0 0, .int .i64 0] 43)
  have HF1 := Lib.hid (hf.sub (add_new w (.cells #[.int .i64 0, .string ⟨#[]⟩, .slice none 0 0, .slice none 0 0, .int .i64 0] 43)))
  have HB1 := Lib.hid (Be.of (F := own p q) ((Below.refl w.heap.size w).alloc (Nat.le_refl _) (.cells #[.int .i64 0, .string ⟨#[]⟩, .slice none 0 0, .slice none 0 0, .int .i64 0] 43)))
  have HP := Lib.hid h
  have HNM := Lib.hid hnm
  clear h hf hm hnm
  go_enter Tryz.func16, Tryz.ntmps16
  go_wp2
  go_loopw [12] (fun i wr => ∃ j, j ≤ n ∧ i = .int .i64 (j : Nat) ∧ Hid (∀ i, i < j → QAll L M (U i)) ∧ Hid (Eq2 (add F w.heap.size) p L q M m cm wr) ∧ Hid (Be (own p q) w wr) ∧ Hid (Cs w.heap.size [.int .i64 0, .string ⟨#[]⟩, .slice none 0 0, .slice none 0 0, .int .i64 0] wr) ∧ Hid (Ds o n U UF VM (cut (add F w.heap.size) wr))) (fun i _ => n - (intOf i).toNat)
  case atStart => exact ⟨0, by omega, rfl, Lib.hid (fun i hi => by omega), HE1, HB1, HC1, HF1⟩
  case round =>
    obtain ⟨j, hj, rfl, HQ, HE, HB, HC, HF⟩ := hrel
    clear HE1 HB1 HC1 HF1
    have hsz := HB.out.size
    have HNW : Hid (own p q w.heap.size = false) := Lib.hid (HP.out.new (Nat.le_refl _))
    by_cases hjl : j < n
    · have hji : (j : Int) < (n : Int) := by omega
      obtain ⟨a, Ab, Ao, As, rfl, hA, hAb, c0, c1, c2, c3, c4⟩ := ex_five (v0 := .int .i64 (U j).K) (v1 := .string (U j).S) (v2 := .slice (U j).fo (U j).fl (U j).fc) (v3 := .slice (U j).mo (U j).ml (U j).mc) (v4 := .int .i64 (U j).A) (HF.out.sub (cut_all _ wr)).1 hjl rfl
      have hX := Cs.new wr [.int .i64 (U j).K, .string (U j).S, .slice (U j).fo (U j).fl (U j).fc, .slice (U j).mo (U j).ml (U j).mc, .int .i64 (U j).A] 43
      have hBx := (Below.refl wr.heap.size wr).alloc (Nat.le_refl _) (.cells #[.int .i64 (U j).K, .string (U j).S, .slice (U j).fo (U j).fl (U j).fc, .slice (U j).mo (U j).ml (U j).mc, .int .i64 (U j).A] 43)
      have HX := Lib.hid hX
      have HEx := Lib.hid (HE.out.below hBx)
      have HFx := Lib.hid (HF.out.sub (Sub.of_below (by rw [cut_size]; exact cut_below hBx)))
      have HNX : Hid (own p q wr.heap.size = false) := Lib.hid (HE.out.pq.new (Nat.le_refl _))
      have HCx := Lib.hid (HC.out.below hBx HC.out.lt)
      have HBx := Lib.hid (HB.out.after hBx)
      clear hX hBx
      go_wp2_with (go_at_call 18; go_loud (refine (wdecl2_any (add F w.heap.size) p L q M m cm (U j) (UF j) (VM j) _ HEx.out.pq HEx.out.mm HNM.out (HFx.out.2.2 j hjl)).mono ?_; rintro e w2 ⟨er, rfl, hq, hp2, hb2⟩; have HQ2 := Lib.hid hq; have HE2 := Lib.hid (HEx.out.step hp2 hb2 HNM.out); have HF2 := Lib.hid (HFx.out.sub (Sub.of_below (by rw [cut_size]; exact HEx.out.pq.wide hb2))); have HB2 := Lib.hid (HBx.out.trans hb2); have hX2 := HX.out.be hb2 HNX.out; have hC2 := HCx.out.be hb2 HNW.out; have x0 := hX2.cell (i := 0) rfl; have x1 := hX2.cell (i := 1) rfl; have x2 := hX2.cell (i := 2) rfl; have x3 := hX2.cell (i := 3) rfl; have x4 := hX2.cell (i := 4) rfl; have g0 := hC2.cell (i := 0) rfl; have g1 := hC2.cell (i := 1) rfl; have g2 := hC2.cell (i := 2) rfl; have g3 := hC2.cell (i := 3) rfl; have g4 := hC2.cell (i := 4) rfl; have z0 := hC2.frozen (i := 0) rfl; have z1 := hC2.frozen (i := 1) rfl; have z2 := hC2.frozen (i := 2) rfl; have z3 := hC2.frozen (i := 3) rfl; have z4 := hC2.frozen (i := 4) rfl; have HC2 := Lib.hid hC2; clear hq hp2 hb2 hX2 hC2))
      · rename_i hne
        have hC5 := (((((HC2.out.put (i := 0) (.int .i64 (U j).K)).put (i := 1) (.string (U j).S)).put (i := 2) (.slice (U j).fo (U j).fl (U j).fc)).put (i := 3) (.slice (U j).mo (U j).ml (U j).mc)).put (i := 4) (.int .i64 (U j).A))
        have hB5 := (((((HB2.out.setCell (b := w.heap.size) (o := 0) (.inr (Nat.le_refl _)) (.int .i64 (U j).K)).setCell (b := w.heap.size) (o := 1) (.inr (Nat.le_refl _)) (.string (U j).S)).setCell (b := w.heap.size) (o := 2) (.inr (Nat.le_refl _)) (.slice (U j).fo (U j).fl (U j).fc)).setCell (b := w.heap.size) (o := 3) (.inr (Nat.le_refl _)) (.slice (U j).mo (U j).ml (U j).mc)).setCell (b := w.heap.size) (o := 4) (.inr (Nat.le_refl _)) (.int .i64 (U j).A))
        have hL5 := ((((((Be.refl (fun k => decide (k = w.heap.size)) w2).setCell (b := w.heap.size) (o := 0) (.inl (by simp)) (.int .i64 (U j).K)).setCell (b := w.heap.size) (o := 1) (.inl (by simp)) (.string (U j).S)).setCell (b := w.heap.size) (o := 2) (.inl (by simp)) (.slice (U j).fo (U j).fl (U j).fc)).setCell (b := w.heap.size) (o := 3) (.inl (by simp)) (.slice (U j).mo (U j).ml (U j).mc)).setCell (b := w.heap.size) (o := 4) (.inl (by simp)) (.int .i64 (U j).A))
        generalize (((((w2.setCell ⟨w.heap.size, 0, none⟩ (.int .i64 (U j).K)).setCell ⟨w.heap.size, 1, none⟩ (.string (U j).S)).setCell ⟨w.heap.size, 2, none⟩ (.slice (U j).fo (U j).fl (U j).fc)).setCell ⟨w.heap.size, 3, none⟩ (.slice (U j).mo (U j).ml (U j).mc)).setCell ⟨w.heap.size, 4, none⟩ (.int .i64 (U j).A)) = W at hC5 hB5 hL5 ⊢
        have hP5 := HP.out.local HE2.out.pq hL5
        have d0 := hC5.cell (i := 0) rfl
        have d1 := hC5.cell (i := 1) rfl
        have d2 := hC5.cell (i := 2) rfl
        have d3 := hC5.cell (i := 3) rfl
        have d4 := hC5.cell (i := 4) rfl
        refine bodyPost_ret (by simp [results, Tryz.results16, go_sem, d0, d1, d2, d3, d4]; try rfl) rfl ?_
        exact ⟨U j, er, rfl, fun h => (by subst h; simp at hne), hP5, hB5⟩
      · rename_i hne
        have he0 : er = 0 := by simpa using hne
        exact ⟨⟨j + 1, by omega, by go_num, Lib.hid (fun i hi => by
          by_cases e : i = j
          · subst e; exact HQ2.out he0
          · exact HQ.out i (by omega)), HE2, HB2, HC2, HF2⟩, by simp [intOf]; omega⟩
    · have hji : ¬ (j : Int) < (n : Int) := by omega
      obtain rfl : j = n := by omega
      have hCz := HC.out.alloc (.cells #[.int .i64 0, .string ⟨#[]⟩, .slice none 0 0, .slice none 0 0, .int .i64 0] 43)
      have g0 := hCz.cell (i := 0) rfl
      have g1 := hCz.cell (i := 1) rfl
      have g2 := hCz.cell (i := 2) rfl
      have g3 := hCz.cell (i := 3) rfl
      have g4 := hCz.cell (i := 4) rfl
      have z0 := hCz.frozen (i := 0) rfl
      have z1 := hCz.frozen (i := 1) rfl
      have z2 := hCz.frozen (i := 2) rfl
      have z3 := hCz.frozen (i := 3) rfl
      have z4 := hCz.frozen (i := 4) rfl
      have HCz := Lib.hid hCz
      have HPz := Lib.hid (HE.out.pq.below ((Below.refl wr.heap.size wr).alloc (Nat.le_refl _) (.cells #[.int .i64 0, .string ⟨#[]⟩, .slice none 0 0, .slice none 0 0, .int .i64 0] 43)))
      have HBz := Lib.hid (HB.out.alloc (.cells #[.int .i64 0, .string ⟨#[]⟩, .slice none 0 0, .slice none 0 0, .int .i64 0] 43))
      clear hCz
      go_wp2
      generalize wr.alloc (.cells #[.int .i64 0, .string ⟨#[]⟩, .slice none 0 0, .slice none 0 0, .int .i64 0] 43) = W0 at *
      have hC5 := (((((HCz.out.put (i := 0) (.int .i64 0)).put (i := 1) (.string ⟨#[]⟩)).put (i := 2) (.slice none 0 0)).put (i := 3) (.slice none 0 0)).put (i := 4) (.int .i64 0))
      have hB5 := (((((HBz.out.setCell (b := w.heap.size) (o := 0) (.inr (Nat.le_refl _)) (.int .i64 0)).setCell (b := w.heap.size) (o := 1) (.inr (Nat.le_refl _)) (.string ⟨#[]⟩)).setCell (b := w.heap.size) (o := 2) (.inr (Nat.le_refl _)) (.slice none 0 0)).setCell (b := w.heap.size) (o := 3) (.inr (Nat.le_refl _)) (.slice none 0 0)).setCell (b := w.heap.size) (o := 4) (.inr (Nat.le_refl _)) (.int .i64 0))
      have hL5 := ((((((Be.refl (fun k => decide (k = w.heap.size)) W0).setCell (b := w.heap.size) (o := 0) (.inl (by simp)) (.int .i64 0)).setCell (b := w.heap.size) (o := 1) (.inl (by simp)) (.string ⟨#[]⟩)).setCell (b := w.heap.size) (o := 2) (.inl (by simp)) (.slice none 0 0)).setCell (b := w.heap.size) (o := 3) (.inl (by simp)) (.slice none 0 0)).setCell (b := w.heap.size) (o := 4) (.inl (by simp)) (.int .i64 0))
      generalize (((((W0.setCell ⟨w.heap.size, 0, none⟩ (.int .i64 0)).setCell ⟨w.heap.size, 1, none⟩ (.string ⟨#[]⟩)).setCell ⟨w.heap.size, 2, none⟩ (.slice none 0 0)).setCell ⟨w.heap.size, 3, none⟩ (.slice none 0 0)).setCell ⟨w.heap.size, 4, none⟩ (.int .i64 0)) = W at hC5 hB5 hL5 ⊢
      have hP5 := HP.out.local HPz.out hL5
      have d0 := hC5.cell (i := 0) rfl
      have d1 := hC5.cell (i := 1) rfl
      have d2 := hC5.cell (i := 2) rfl
      have d3 := hC5.cell (i := 3) rfl
      have d4 := hC5.cell (i := 4) rfl
      refine bodyPost_ret (by simp [results, Tryz.results16, go_sem, d0, d1, d2, d3, d4]; try rfl) rfl ?_
      first | exact ⟨default, 0, rfl, fun _ => HQ.out, hP5, hB5⟩ | exact ⟨default, 0, rfl, fun _ => trivial, hP5, hB5⟩

theorem decls_p (F : Nat → Bool) (p : Option Addr) (L : Sc) (w : World) (h : PDe F p L w) :
    Calls Tryz.prog 17 #[.pointer p] w fun e w' => ∃ o c X U V, e = .returned (.slice o L.n c) ∧ Ds o L.n X U V (cut (lo w.heap.size) w') ∧ (∀ i, i < L.n → (X i).K = L.K i ∧ (X i).S = L.S i) ∧ Below w.heap.size w w' := by
  rcases h with ⟨rfl, h0⟩ | ⟨B, rfl, hd⟩
  · refine (decls_de0 w).mono ?_
    rintro e w' ⟨rfl, hb⟩
    rw [h0]
    exact ⟨none, 0, fun _ => default, fun _ _ => default, fun _ _ => default, rfl, ⟨Ex.nil _ _ _ _ _, by omega, fun i hi => by omega⟩, fun i hi => by omega, hb⟩
  · exact decls_de F B L w hd
set_option maxRecDepth 100000 in
set_option maxHeartbeats 4000000 in
theorem methods_p (F : Nat → Bool) (p : Option Addr) (L : Sc) (w : World) (h : PDe F p L w) :
    Calls Tryz.prog 15 #[.pointer p] w fun e w' => ∃ m, e = .returned (.map (some m)) ∧ w.heap.size ≤ m ∧ (∃ c, Mm m c w') ∧ Below w.heap.size w w' := by
  have hmm := @run_makeMap Tryz.prog
  have hB1 := (Below.refl w.heap.size w).alloc (Nat.le_refl _) (.map #[] 0)
  have HP1 := Lib.hid (h.below hB1)
  have HB1 := Lib.hid hB1
  have HM1 := Lib.hid (Mm.made w)
  clear h hB1
  go_enter Tryz.func15, Tryz.ntmps15
  go_wp2_with (go_at_call 17; go_loud (refine (decls_p F p L _ HP1.out).mono ?_; rintro e w2 ⟨o2, c2, X, U, V, rfl, hD2, -, hb2⟩; have hle := hD2.2.1; have hlen : L.n ≤ 9223372036854775807 := (by omega); have HD2 := Lib.hid (show Ds o2 L.n X U V (cut (lo (w.heap.size + 1)) w2) by simpa using hD2); have HB2 := Lib.hid (HB1.out.trans (hb2.mono HB1.out.size)); have HM2 := Lib.hid (HM1.out.below hb2 HM1.out.lt); clear hD2 hb2))
  go_loopw [12] (fun i wr => ∃ j, j ≤ L.n ∧ i = .int .i64 (j : Nat) ∧ Hid (Mm w.heap.size (1000 * j) wr) ∧ Hid (Below w.heap.size w wr) ∧ Hid (Ds o2 L.n X U V (cut (lo (w.heap.size + 1)) wr))) (fun i _ => L.n - (intOf i).toNat)
  case atStart => exact ⟨0, by omega, rfl, HM2, HB2, HD2⟩
  case round =>
    obtain ⟨j, hj, rfl, HM, HB, HD⟩ := hrel
    clear HM2 HB2 HD2
    have hsz := HB.out.size
    by_cases hjl : j < L.n
    · have hji : (j : Int) < (L.n : Int) := by omega
      obtain ⟨a, Ab, Ao, As, rfl, hA, hAb, c0, c1, c2', c3, c4⟩ := ex_five (v0 := .int .i64 (X j).K) (v1 := .string (X j).S) (v2 := .slice (X j).fo (X j).fl (X j).fc) (v3 := .slice (X j).mo (X j).ml (X j).mc) (v4 := .int .i64 (X j).A) (HD.out.sub (cut_all _ wr)).1 hjl rfl
      have hX := Cs.new wr [.int .i64 (X j).K, .string (X j).S, .slice (X j).fo (X j).fl (X j).fc, .slice (X j).mo (X j).ml (X j).mc, .int .i64 (X j).A] 43
      have hBx := (Below.refl wr.heap.size wr).alloc (Nat.le_refl _) (.cells #[.int .i64 (X j).K, .string (X j).S, .slice (X j).fo (X j).fl (X j).fc, .slice (X j).mo (X j).ml (X j).mc, .int .i64 (X j).A] 43)
      have HX0 := Lib.hid hX
      have HM3 := Lib.hid (HM.out.below hBx HM.out.lt)
      have HB3 := Lib.hid (HB.out.trans (hBx.mono hsz))
      have HD3 := Lib.hid (HD.out.sub (Sub.of_below (by rw [cut_size]; exact cut_below hBx)))
      have x3 := hX.cell (i := 3) rfl
      have HLT := Lib.hid HM.out.lt
      have hd1 := HD.out.2.2 j hjl
      have hmle : (X j).ml ≤ 1000 := hd1.m.2.1
      have hml2 : (X j).ml ≤ 9223372036854775807 := by omega
      have HSZ := Lib.hid hd1.sz
      clear hX hBx hd1
      go_wp2
      go_loopw [19] (fun i wr2 => ∃ k, k ≤ (X j).ml ∧ i = .int .i64 (k : Nat) ∧ Hid (Mm w.heap.size (1000 * j + k) wr2) ∧ Hid (Below w.heap.size w wr2) ∧ Hid (Ds (some a) L.n X U V (cut (lo (w.heap.size + 1)) wr2)) ∧ Hid (Cs wr.heap.size [.int .i64 (X j).K, .string (X j).S, .slice (X j).fo (X j).fl (X j).fc, .slice (X j).mo (X j).ml (X j).mc, .int .i64 (X j).A] wr2)) (fun i _ => (X j).ml - (intOf i).toNat)
      case atStart => exact ⟨0, by omega, rfl, HM3, HB3, HD3, HX0⟩
      case round =>
        rename World => wk
        obtain ⟨k, hk, rfl, HMk, HBk, HDk, HXk⟩ := hrel
        clear HM3 HB3 HD3 HX0 x3
        by_cases hkl : k < (X j).ml
        · have hki : (k : Int) < ((X j).ml : Int) := by omega
          have hMs := (HDk.out.2.2 j hjl).m
          obtain ⟨a2, Bb, Bo, Bs, hmo, hB, hBb, b0, b1, b2, b3, b4⟩ := ex_five (v0 := .int .i64 (V j k).T) (v1 := .string (V j k).N) (v2 := .string (V j k).I) (v3 := .string (V j k).O) (v4 := .bool (V j k).W) (hMs.sub (cut_all _ wk)).1 hkl rfl
          have hns := (hMs.2.2 k hkl).1
          have hbY := (Below.refl wk.heap.size wk).alloc (Nat.le_refl _) (.cells #[.int .i64 (V j k).T, .string (V j k).N, .string (V j k).I, .string (V j k).O, .bool (V j k).W] 98)
          obtain ⟨w9, hrun, hM9, hg9⟩ := (HMk.out.below hbY HMk.out.lt).store (X j).S (V j k).N (V j k) HSZ.out hns (by unfold maxLen; omega)
          have hX9 := HXk.out.below hbY HXk.out.lt
          have x1 := hX9.cell (i := 1) rfl
          have HX9 := Lib.hid (hX9.grown hg9 (by have := HLT.out; simp; omega))
          have HB9 := Lib.hid ((HBk.out.trans (hbY.mono HBk.out.size)).grown hg9 (by have := HBk.out.size; simp; omega) (fun q hq => by obtain rfl := Option.some.inj hq; exact Nat.le_refl _))
          have HD9 := Lib.hid ((HDk.out.sub (Sub.of_below (by rw [cut_size]; exact cut_below hbY))).sub (Sub.of_below (by rw [cut_size]; exact (Be.refl _ _).grown hg9 (.inl (lo_pos (Nat.lt_succ_self _))))))
          have HM9 := Lib.hid hM9
          rw [hmo] at HX9 ⊢
          clear hMs hbY hX9 hM9 hg9
          go_wp2
          go_roundw
          case rel => exact ⟨k + 1, by omega, by go_num, HM9, HB9, HD9, HX9⟩
          case measure => simp [intOf]; omega
        · have hki : ¬ (k : Int) < ((X j).ml : Int) := by omega
          obtain rfl : k = (X j).ml := by omega
          go_wp2
          go_roundw
          case rel => exact ⟨j + 1, by omega, by go_num, Lib.hid (HMk.out.mono (by omega)), HBk, HDk⟩
          case measure => simp [intOf]; omega
    · have hji : ¬ (j : Int) < (L.n : Int) := by omega
      obtain rfl : j = L.n := by omega
      go_wp2
      go_ret
      exact ⟨_, rfl, Nat.le_refl _, ⟨_, HM.out⟩, HB.out⟩
end Go.Proofs.YtdogddliifbjnaaGreat.Ck
