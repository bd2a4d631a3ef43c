/- compat: wrongRows and wrongDecl. -/
import Derived.Test.YtdogddliifbjnaaGreatMg26
namespace Go.Proofs.YtdogddliifbjnaaGreat.Ck
open Go.RowKit Cm
open _root_.Go.Proofs.YtdogddliifbjnaaGreat.Nm
set_option linter.unusedVariables false
set_option linter.unusedSimpArgs false

/-- What the rows of a declaration, and those that would take their place, must be. -/
def QD (L M : Sc) (k : Int) (s : ByteArray) : Prop :=
  (∀ r ∈ L.rows s, (∃ r' ∈ M.rows s, r'.1 = r.1 ∧ r'.2 = r.2) ∨ ((∀ r' ∈ M.rows s, r'.1 ≠ r.1) ∧ k = 1 ∧ r.2.k = 9)) ∧ (k = 1 → ∀ r ∈ M.rows s, (∃ r' ∈ L.rows s, r'.1 = r.1) ∨ r.2.k = 9)
theorem qd_one {L M : Sc} {d : Dz} {U : Nat → Fz} {n : Nat} (h : ∀ i, i < n → QRow M d (U i)) (hr : rowL U n = L.rows d.S) :
    ∀ r ∈ L.rows d.S, (∃ r' ∈ M.rows d.S, r'.1 = r.1 ∧ r'.2 = r.2) ∨ ((∀ r' ∈ M.rows d.S, r'.1 ≠ r.1) ∧ d.K = 1 ∧ r.2.k = 9) := by
  intro r hm
  rw [← hr] at hm
  obtain ⟨i, hi, rfl⟩ := List.mem_map.1 hm
  rcases h i (List.mem_range.1 hi) with ⟨r', a, b, c⟩ | ⟨a, b, c⟩
  · exact .inl ⟨r', a, b, c⟩
  · exact .inr ⟨a, b, by show (U i).Y.sp.k = 9; rw [sp_k]; exact c⟩
theorem qd_two {L M : Sc} {d : Dz} {U : Nat → Fz} {n : Nat} (h : ∀ i, i < n → QNew L d (U i)) (hr : rowL U n = M.rows d.S) : ∀ r ∈ M.rows d.S, (∃ r' ∈ L.rows d.S, r'.1 = r.1) ∨ r.2.k = 9 := by
  intro r hm
  rw [← hr] at hm
  obtain ⟨i, hi, rfl⟩ := List.mem_map.1 hm
  rcases h i (List.mem_range.1 hi) with ⟨r', a, b⟩ | c
  · exact .inl ⟨r', a, b⟩
  · exact .inr (by show (U i).Y.sp.k = 9; rw [sp_k]; exact c)
set_option maxRecDepth 100000 in
set_option maxHeartbeats 4000000 in
theorem wrows2_any (F : Nat → Bool) (p : Option Addr) (L : Sc) (q : Option Addr) (M : Sc) (m c : Nat) (d : Dz) (U : Nat → Fz) (V : Nat → Mz) (w : World) (h : Pq F p L q M w) (hm : Mm m c w) (hn : own p q m = false) (hd : D1 d U V (cut F w)) :
    Calls Tryz.prog 32 #[.agg #[.pointer p, .pointer q, .map (some m)], .agg #[.int .i64 d.K, .string d.S, .slice d.fo d.fl d.fc, .slice d.mo d.ml d.mc, .int .i64 d.A]] w
      (fun e w' => ErP (QD L M d.K d.S) F p L q M w e w') := by
  obtain ⟨hA, hB, hW⟩ := two_cs w [.pointer p, .pointer q, .map (some m)] [.int .i64 d.K, .string d.S, .slice d.fo d.fl d.fc, .slice d.mo d.ml d.mc, .int .i64 d.A] 60
  have hB0 := ((Below.refl w.heap.size w).alloc (Nat.le_refl _) (.cells #[.pointer p, .pointer q, .map (some m)] 60)).alloc (by simp) (.cells #[.int .i64 d.K, .string d.S, .slice d.fo d.fl d.fc, .slice d.mo d.ml d.mc, .int .i64 d.A] 43)
  have hC0 := (Cs.new w [.pointer p, .pointer q, .map (some m)] 60).alloc (.cells #[.int .i64 d.K, .string d.S, .slice d.fo d.fl d.fc, .slice d.mo d.ml d.mc, .int .i64 d.A] 43)
  have hC1 := Cs.new (w.alloc (.cells #[.pointer p, .pointer q, .map (some m)] 60)) [.int .i64 d.K, .string d.S, .slice d.fo d.fl d.fc, .slice d.mo d.ml d.mc, .int .i64 d.A] 43
  rw [show (w.alloc (.cells #[.pointer p, .pointer q, .map (some m)] 60)).heap.size = w.heap.size + 1 by simp] at hC1
  have HE0 : Hid (Ev F p L q M w.heap.size (w.heap.size + 1) m d ((w.alloc (.cells #[.pointer p, .pointer q, .map (some m)] 60)).alloc (.cells #[.int .i64 d.K, .string d.S, .slice d.fo d.fl d.fc, .slice d.mo d.ml d.mc, .int .i64 d.A] 43))) :=
    Lib.hid ⟨h.below hB0, hC0, hC1, h.new (Nat.le_refl _), h.new (Nat.le_succ _), hn, ⟨c, hm.below hB0 hm.lt⟩, hd.sz⟩
  have HM0 := Lib.hid (hd.m.sub (Sub.of_below (by rw [cut_size]; exact cut_below (F := F) hB0)))
  have HB0 := Lib.hid (Be.of (F := own p q) hB0)
  have HSZ := Lib.hid hd.sz
  have a0 := hC0.cell (i := 0) rfl
  have b1 := hC1.cell (i := 1) rfl
  have hmf : ∀ (fn : Fn) (first cap : Array Value) (w : World), (Instr.makeFunc fn first cap).run Tryz.prog w = .ok (.func fn first cap) w := fun _ _ _ _ => rfl
  clear h hm hn hd hA hB hW hB0 hC0 hC1
  go_enter Tryz.func32, Tryz.ntmps32
  go_upto_region 2 with (first
    | (go_at_call 20; go_loud (refine (rows_p F p L q M d.S _ HE0.out.pq HSZ.out).mono ?_; rintro e w2 ⟨o2, n2, c2, U2, rfl, hf2, hr2, hp2, hb2⟩; have HE2 := Lib.hid (HE0.out.step hp2 hb2); have HB2 := Lib.hid (HB0.out.trans hb2); have HF2 := Lib.hid hf2; have HR2 := Lib.hid hr2; have HM2 := Lib.hid (HM0.out.sub (Sub.of_below (by rw [cut_size]; exact HE0.out.pq.wide hb2))); clear hf2 hr2 hp2 hb2))
    | (go_at_call 58; go_loud (refine (first1_any F p L q M w.heap.size (w.heap.size + 1) m d o2 n2 c2 U2 _ HE2.out HF2.out).mono ?_; rintro e w3 ⟨f3, er, rfl, hq3, hp3, hb3⟩; have HE3 := Lib.hid (HE2.out.step hp3 hb3); have HB3 := Lib.hid (HB2.out.trans hb3); have HQ3 := Lib.hid hq3; have HM3 := Lib.hid (HM2.out.sub (Sub.of_below (by rw [cut_size]; exact HE2.out.pq.wide hb3))); clear hq3 hp3 hb3)))
  have hB4 := (Below.refl w3.heap.size w3).alloc (Nat.le_refl _) (.cells #[.int .i64 f3.T, .string f3.N, .int .i64 f3.Y.k, .string f3.Y.n, .slice f3.Y.o f3.Y.of.length f3.Y.c] 50)
  have hE4 := HE3.out.below hB4
  have HM4 := Lib.hid (HM3.out.sub (Sub.of_below (by rw [cut_size]; exact cut_below hB4)))
  have HB4 := Lib.hid (HB3.out.after hB4)
  have j3 := hE4.c2.cell (i := 3) rfl
  have j0 := hE4.c2.cell (i := 0) rfl
  have HE4 := Lib.hid hE4
  clear hE4 hB4
  by_cases he : er = 0
  · have HQ := Lib.hid (qd_one (HQ3.out he) HR2.out)
    subst he
    go_upto_region 4 with (go_at_call 61; go_loud (refine (first2_any F p L q M w.heap.size (w.heap.size + 1) m d d.mo d.ml d.mc V _ HE4.out HM4.out).mono ?_; rintro e w5 ⟨m5, er5, rfl, hq5, hp5, hb5⟩; have hE5 := HE4.out.step hp5 hb5; have HB5 := Lib.hid (HB4.out.trans hb5); have k1 := hE5.c1.cell (i := 1) rfl; have j0 := hE5.c2.cell (i := 0) rfl; have j1 := hE5.c2.cell (i := 1) rfl; have HE5 := Lib.hid hE5; clear hq5 hp5 hb5 hE5))
    by_cases he5 : er5 = 0
    · subst he5
      by_cases hk : d.K = 1
      · have hkk : (d.K == 1) = true := by simp [hk]
        have HK := Lib.hid hk
        clear hk
        go_wp2_with (first
          | (go_at_call 20; go_loud (refine (rows_p F q M p L d.S _ HE5.out.pq.symm HSZ.out).mono ?_; rintro e w6 ⟨o6, n6, c6, U6, rfl, hf6, hr6, hp6, hb6⟩; rw [own_symm] at hb6; have HE6 := Lib.hid (HE5.out.step hp6.symm hb6); have HB6 := Lib.hid (HB5.out.trans hb6); have HF6 := Lib.hid hf6; have HR6 := Lib.hid hr6; clear hf6 hr6 hp6 hb6))
          | (go_at_call 58; go_loud (refine (first3_any F p L q M w.heap.size (w.heap.size + 1) m d o6 n6 c6 U6 _ HE6.out HF6.out).mono ?_; rintro e w7 ⟨f7, er7, rfl, hq7, hp7, hb7⟩; have HP7 := Lib.hid hp7; have HB7 := Lib.hid (HB6.out.trans hb7); have HQ7 := Lib.hid hq7; clear hq7 hp7 hb7)))
        go_ret
        exact ⟨er7, rfl, fun h => ⟨HQ.out, fun _ => qd_two (HQ7.out h) HR6.out⟩, HP7.out, HB7.out⟩
      · have hkk : (d.K == 1) = false := by simpa using hk
        have HK := Lib.hid hk
        clear hk
        go_wp2
        go_ret
        exact ⟨0, rfl, fun _ => ⟨HQ.out, fun h => absurd h HK.out⟩, HE5.out.pq, HB5.out⟩
    · have hee : (er5 == 0) = false := by simpa using he5
      have HNE := Lib.hid he5
      clear he5
      go_wp2
      go_ret
      exact ⟨er5, rfl, fun h => absurd h HNE.out, HE5.out.pq, HB5.out⟩
  · have hee : (er == 0) = false := by simpa using he
    have HNE := Lib.hid he
    clear he
    go_wp2
    go_ret
    exact ⟨er, rfl, fun h => absurd h HNE.out, HE4.out.pq, HB4.out⟩
set_option maxRecDepth 100000 in
set_option maxHeartbeats 4000000 in
theorem wdecl2_any (F : Nat → Bool) (p : Option Addr) (L : Sc) (q : Option Addr) (M : Sc) (m c : Nat) (d : Dz) (U : Nat → Fz) (V : Nat → Mz) (w : World) (h : Pq F p L q M w) (hm : Mm m c w) (hn : own p q m = false) (hd : D1 d U V (cut F w)) :
    Calls Tryz.prog 18 #[.agg #[.pointer p, .pointer q, .map (some m)], .agg #[.int .i64 d.K, .string d.S, .slice d.fo d.fl d.fc, .slice d.mo d.ml d.mc, .int .i64 d.A]] w
      (fun e w' => ErP (M.kd d.S = d.K ∧ M.kd d.S ≠ 0 ∧ QD L M d.K d.S) F p L q M w e w') := by
  have hB0 := ((Below.refl w.heap.size w).alloc (Nat.le_refl _) (.cells #[.pointer p, .pointer q, .map (some m)] 60)).alloc (by simp) (.cells #[.int .i64 d.K, .string d.S, .slice d.fo d.fl d.fc, .slice d.mo d.ml d.mc, .int .i64 d.A] 43)
  have hC0 := (Cs.new w [.pointer p, .pointer q, .map (some m)] 60).alloc (.cells #[.int .i64 d.K, .string d.S, .slice d.fo d.fl d.fc, .slice d.mo d.ml d.mc, .int .i64 d.A] 43)
  have hC1 := Cs.new (w.alloc (.cells #[.pointer p, .pointer q, .map (some m)] 60)) [.int .i64 d.K, .string d.S, .slice d.fo d.fl d.fc, .slice d.mo d.ml d.mc, .int .i64 d.A] 43
  rw [show (w.alloc (.cells #[.pointer p, .pointer q, .map (some m)] 60)).heap.size = w.heap.size + 1 by simp] at hC1
  have HP0 := Lib.hid (h.below hB0)
  have HM0 := Lib.hid (hm.below hB0 hm.lt)
  have HD0 := Lib.hid (hd.sub (Sub.of_below (by rw [cut_size]; exact cut_below (F := F) hB0)))
  have HB0 := Lib.hid (Be.of (F := own p q) hB0)
  have HSZ := Lib.hid hd.sz
  have a1 := hC0.cell (i := 1) rfl
  have b1 := hC1.cell (i := 1) rfl
  have HC0 := Lib.hid hC0
  have HC1 := Lib.hid hC1
  have HN := Lib.hid hn
  clear h hm hn hd hB0 hC0 hC1
  go_enter Tryz.func18, Tryz.ntmps18
  go_upto_region 2 with (go_at_call 19; go_loud (refine (kind_p F q M d.S _ HP0.out.b HSZ.out).mono ?_; rintro e w2 ⟨rfl, hb2⟩; have HB2 := Lib.hid hb2; clear hb2))
  have hC2 := HC0.out.below HB2.out HC0.out.lt
  have hC3 := HC1.out.below HB2.out HC1.out.lt
  have k0 := hC2.cell (i := 0) rfl
  have k1 := hC2.cell (i := 1) rfl
  have k2 := hC2.cell (i := 2) rfl
  have j0 := hC3.cell (i := 0) rfl
  have j1 := hC3.cell (i := 1) rfl
  have j2 := hC3.cell (i := 2) rfl
  have j3 := hC3.cell (i := 3) rfl
  have j4 := hC3.cell (i := 4) rfl
  have HP2 := Lib.hid (HP0.out.below HB2.out)
  have HB3 := Lib.hid (HB0.out.after HB2.out)
  have HM2 := Lib.hid (HM0.out.below HB2.out HM0.out.lt)
  have HD2 := Lib.hid (HD0.out.sub (Sub.of_below (by rw [cut_size]; exact cut_below (F := F) HB2.out)))
  clear hC2 hC3
  generalize hK : M.kd d.S = K at *
  have HKK := Lib.hid hK
  clear hK
  by_cases h0 : K = 0
  · subst h0
    go_wp2
    go_ret
    exact ⟨6, rfl, (fun h => by omega), HP2.out, HB3.out⟩
  · have e0 : (K == 0) = false := by simpa using h0
    have HN0 := Lib.hid h0
    clear h0
    by_cases h1 : K = d.K
    · have e1 : (K == d.K) = true := by simpa using h1
      have HE1 := Lib.hid h1
      clear h1
      go_wp2_with (go_at_call 32; go_loud (refine (wrows2_any F p L q M m _ d U V _ HP2.out HM2.out HN.out HD2.out).mono ?_; rintro e w4 ⟨er, rfl, hq4, hp4, hb4⟩; have HQ4 := Lib.hid hq4; have HP4 := Lib.hid hp4; have HB4 := Lib.hid (HB3.out.trans hb4); clear hq4 hp4 hb4))
      go_ret
      exact ⟨er, rfl, fun h => ⟨HKK.out.trans HE1.out, (by rw [HKK.out]; exact HN0.out), HQ4.out h⟩, HP4.out, HB4.out⟩
    · have e1 : (K == d.K) = false := by simpa using h1
      clear h1
      go_wp2
      go_ret
      exact ⟨4, rfl, (fun h => by omega), HP2.out, HB3.out⟩
end Go.Proofs.YtdogddliifbjnaaGreat.Ck
