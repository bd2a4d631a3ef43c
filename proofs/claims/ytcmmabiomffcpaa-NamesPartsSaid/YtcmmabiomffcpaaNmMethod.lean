/- Names: the contracts of names.Method and of the reference's. -/
import Derived.Test.YtcmmabiomffcpaaNmCopied
import Derived.Test.YtcmmabiomffcpaaNmRef
namespace Go.Proofs.Ytcmmabiomffcpaa.Nm
open Go.RowKit Cm
set_option linter.unusedVariables false
set_option linter.unusedSimpArgs false

/-- The method that Method tells, and whether there is one. -/
def mtS (D : Dl) (M : Nat → Ml) (s m : ByteArray) (len : Nat) : Int × ByteArray × ByteArray × ByteArray × Bool × Bool :=
  match fiS D.S s len with
  | none => (0, ⟨#[]⟩, ⟨#[]⟩, ⟨#[]⟩, false, false)
  | some i => if D.K i = 4 then match fiS (M i).N m (D.ml i) with
      | none => (0, ⟨#[]⟩, ⟨#[]⟩, ⟨#[]⟩, false, false)
      | some j => ((M i).T j, (M i).N j, (M i).I j, (M i).O j, (M i).W j, true)
    else (0, ⟨#[]⟩, ⟨#[]⟩, ⟨#[]⟩, false, false)
theorem mtS_none {D : Dl} {M : Nat → Ml} {s m : ByteArray} {len : Nat} (h : fiS D.S s len = none) : mtS D M s m len = (0, ⟨#[]⟩, ⟨#[]⟩, ⟨#[]⟩, false, false) := by unfold mtS; rw [h]
theorem mtS_kind {D : Dl} {M : Nat → Ml} {s m : ByteArray} {len i : Nat} (h : fiS D.S s len = some i) (hk : ¬ D.K i = 4) : mtS D M s m len = (0, ⟨#[]⟩, ⟨#[]⟩, ⟨#[]⟩, false, false) := by unfold mtS; rw [h]; exact if_neg hk
theorem mtS_miss {D : Dl} {M : Nat → Ml} {s m : ByteArray} {len i : Nat} (h : fiS D.S s len = some i) (hk : D.K i = 4) (hm : fiS (M i).N m (D.ml i) = none) : mtS D M s m len = (0, ⟨#[]⟩, ⟨#[]⟩, ⟨#[]⟩, false, false) := by
  unfold mtS; rw [h]; simp only [if_pos hk, hm]
theorem mtS_hit {D : Dl} {M : Nat → Ml} {s m : ByteArray} {len i j : Nat} (h : fiS D.S s len = some i) (hk : D.K i = 4) (hm : fiS (M i).N m (D.ml i) = some j) : mtS D M s m len = ((M i).T j, (M i).N j, (M i).I j, (M i).O j, (M i).W j, true) := by
  unfold mtS; rw [h]; simp only [if_pos hk, hm]
/-- What Method hands out. -/
def mtV (r : Int × ByteArray × ByteArray × ByteArray × Bool × Bool) : Ending := .returned (.tuple #[.agg #[.int .i64 r.1, .string r.2.1, .string r.2.2.1, .string r.2.2.2.1, .bool r.2.2.2.2.1], .bool r.2.2.2.2.2])

theorem cs_fill {b : Nat} {a0 a1 a2 a3 a4 : Value} {w : World} (h : Cs b [a0, a1, a2, a3, a4] w) (v0 v1 v2 v3 v4 : Value) :
    Cs b [v0, v1, v2, v3, v4] (((((w.setCell ⟨b, 0, none⟩ v0).setCell ⟨b, 1, none⟩ v1).setCell ⟨b, 2, none⟩ v2).setCell ⟨b, 3, none⟩ v3).setCell ⟨b, 4, none⟩ v4) :=
  ((((h.put (i := 0) v0).put (i := 1) v1).put (i := 2) v2).put (i := 3) v3).put (i := 4) v4
theorem below_fill {n b : Nat} {w0 w : World} (h : Below n w0 w) (hn : n ≤ b) (v0 v1 v2 v3 v4 : Value) :
    Below n w0 (((((w.setCell ⟨b, 0, none⟩ v0).setCell ⟨b, 1, none⟩ v1).setCell ⟨b, 2, none⟩ v2).setCell ⟨b, 3, none⟩ v3).setCell ⟨b, 4, none⟩ v4) :=
  ((((h.setCell (p := ⟨b, 0, none⟩) hn v0).setCell (p := ⟨b, 1, none⟩) hn v1).setCell (p := ⟨b, 2, none⟩) hn v2).setCell (p := ⟨b, 3, none⟩) hn v3).setCell (p := ⟨b, 4, none⟩) hn v4
theorem cs_all5 {b : Nat} {v0 v1 v2 v3 v4 : Value} {w : World} (h : Cs b [v0, v1, v2, v3, v4] w) :
    (w.cell? ⟨b, 0, none⟩ = some v0 ∧ w.cell? ⟨b, 1, none⟩ = some v1 ∧ w.cell? ⟨b, 2, none⟩ = some v2 ∧ w.cell? ⟨b, 3, none⟩ = some v3 ∧ w.cell? ⟨b, 4, none⟩ = some v4) ∧
    (w.frozen? ⟨b, 0, none⟩ = false ∧ w.frozen? ⟨b, 1, none⟩ = false ∧ w.frozen? ⟨b, 2, none⟩ = false ∧ w.frozen? ⟨b, 3, none⟩ = false ∧ w.frozen? ⟨b, 4, none⟩ = false) :=
  ⟨⟨h.cell (i := 0) rfl, h.cell (i := 1) rfl, h.cell (i := 2) rfl, h.cell (i := 3) rfl, h.cell (i := 4) rfl⟩, ⟨h.frozen (i := 0) rfl, h.frozen (i := 1) rfl, h.frozen (i := 2) rfl, h.frozen (i := 3) rfl, h.frozen (i := 4) rfl⟩⟩

set_option maxRecDepth 100000 in
set_option maxHeartbeats 2000000 in
theorem method_any (o : Option Addr) (len cap : Nat) (D : Dl) (M : Nat → Ml) (s m : ByteArray) (w : World) (h : Dx o len D w) (hM : ∀ i, i < len → Mx (D.mo i) (D.ml i) (M i) w) :
    Calls Try.prog 14 #[.slice o len cap, .string s, .string m] w fun e w' => e = mtV (mtS D M s m len) ∧ Below w.heap.size w w' := by
  have hlen := h.2
  have hlen2 : len ≤ 9223372036854775807 := by omega
  have hmf : ∀ (fn : Fn) (first cap : Array Value) (w : World), (Instr.makeFunc fn first cap).run Try.prog w = .ok (.func fn first cap) w := fun _ _ _ _ => rfl
  have hB0 := ((Below.refl w.heap.size w).alloc (Nat.le_refl _) (.cells #[.string s] 9)).alloc (by simp) (.cells #[.int .i64 0, .string ⟨#[]⟩, .string ⟨#[]⟩, .string ⟨#[]⟩, .bool false] 40)
  have hZ0 : Cs (w.heap.size + 1) [.int .i64 0, .string ⟨#[]⟩, .string ⟨#[]⟩, .string ⟨#[]⟩, .bool false] ((w.alloc (.cells #[.string s] 9)).alloc (.cells #[.int .i64 0, .string ⟨#[]⟩, .string ⟨#[]⟩, .string ⟨#[]⟩, .bool false] 40)) := by
    simpa using Cs.new (w.alloc (.cells #[.string s] 9)) [.int .i64 0, .string ⟨#[]⟩, .string ⟨#[]⟩, .string ⟨#[]⟩, .bool false] 40
  have hS0 := ((Cs.new w [.string s] 9).alloc (.cells #[.int .i64 0, .string ⟨#[]⟩, .string ⟨#[]⟩, .string ⟨#[]⟩, .bool false] 40)).cell (i := 0) rfl
  have HX := Lib.hid (h.below hB0 (Nat.le_refl _))
  have HB0 := Lib.hid hB0
  have HZ0 := Lib.hid hZ0
  have HS0 := Lib.hid hS0
  have HM := Lib.hid hM
  have H := Lib.hid h
  clear hB0 hZ0 hS0 hM h
  cases hf : fiS D.S s len with
  | none =>
    rw [mtS_none hf]
    have HR := Lib.hid (rfS_none hf)
    clear hf
    go_enter Try.func14, Try.ntmps14
    go_wp2_with (go_at_call 22; refine (ixd_any w.heap.size s o len cap D _ HX.out HS0.out).mono ?_; rw [HR.out]; rintro e w1 ⟨rfl, hb1⟩; have hZ1 := HZ0.out.below hb1 HZ0.out.lt; have hB1 := HB0.out.trans (hb1.mono HB0.out.size); obtain ⟨⟨e0, e1, e2, e3, e4⟩, ⟨f0, f1, f2, f3, f4⟩⟩ := cs_all5 hZ1)
    have hZ6 := cs_fill hZ1 (.int .i64 0) (.string ⟨#[]⟩) (.string ⟨#[]⟩) (.string ⟨#[]⟩) (.bool false)
    have hB6 := below_fill hB1 (Nat.le_succ w.heap.size) (.int .i64 0) (.string ⟨#[]⟩) (.string ⟨#[]⟩) (.string ⟨#[]⟩) (.bool false)
    generalize (((((w1.setCell ⟨w.heap.size + 1, 0, none⟩ (.int .i64 0)).setCell ⟨w.heap.size + 1, 1, none⟩ (.string ⟨#[]⟩)).setCell ⟨w.heap.size + 1, 2, none⟩ (.string ⟨#[]⟩)).setCell ⟨w.heap.size + 1, 3, none⟩ (.string ⟨#[]⟩)).setCell ⟨w.heap.size + 1, 4, none⟩ (.bool false)) = w6 at hZ6 hB6 ⊢
    clear e0 e1 e2 e3 e4 f0 f1 f2 f3 f4
    obtain ⟨⟨d0, d1, d2, d3, d4⟩, _⟩ := cs_all5 hZ6
    refine bodyPost_ret (by simp [results, Try.results14, go_sem, d0, d1, d2, d3, d4]; try rfl) rfl ?_
    exact ⟨rfl, hB6⟩
  | some i =>
    have hi := (fiS_some hf).1
    have hii : (i : Int) < (len : Int) := by omega
    have HR := Lib.hid (rfS_some hf)
    obtain ⟨a, Ab, Ao, As, rfl, hA, hAb, c0, c1, c2, c3, c4⟩ := Dx.place H.out hi
    by_cases hk : D.K i = 4
    · have hMi := HM.out i hi
      have fh := fun j (h : fiS (M i).N m (D.ml i) = some j) => mtS_hit (M := M) hf hk h
      have fm := fun (h : fiS (M i).N m (D.ml i) = none) => mtS_miss (M := M) hf hk h
      obtain ⟨mo, hmo⟩ : ∃ x, D.mo i = x := ⟨_, rfl⟩
      obtain ⟨ml, hml⟩ : ∃ x, D.ml i = x := ⟨_, rfl⟩
      obtain ⟨mc, hmc⟩ : ∃ x, D.mc i = x := ⟨_, rfl⟩
      obtain ⟨N, hN⟩ : ∃ x, M i = x := ⟨_, rfl⟩
      rw [hmo, hml, hN] at hMi
      rw [hml, hN] at fh fm
      rw [hmo, hml, hmc] at c3
      rw [hk] at c0
      have FH := Lib.hid fh
      have FM := Lib.hid fm
      have C := Lib.hid (And.intro c0 c3)
      have hml2 := hMi.2
      have HMi := Lib.hid hMi
      clear hMi fh fm hmo hml hmc hN c0 c1 c2 c3 c4 hf hk
      go_enter Try.func14, Try.ntmps14
      go_wp2_with (go_at_call 22; refine (ixd_any w.heap.size s (some a) len cap D _ HX.out HS0.out).mono ?_; rw [HR.out]; rintro e w1 ⟨rfl, hb1⟩; have hZ1 := HZ0.out.below hb1 HZ0.out.lt; have hB1 := HB0.out.trans (hb1.mono HB0.out.size); have c0 := (hB1.cell (p := ⟨Ab, Ao, As⟩) hAb).trans C.out.1; have c3 := (hB1.cell (p := ⟨Ab, Ao + 3, none⟩) hAb).trans C.out.2)
      have HZ1 := Lib.hid hZ1
      have HB1 := Lib.hid hB1
      have HM1 := Lib.hid (HMi.out.below hB1 (Nat.le_refl _))
      clear hZ1 hB1 hb1 c0 c3
      go_loopw [32] (fun i wr => ∃ j, j ≤ ml ∧ i = .int .i64 (j : Nat) ∧ Hid (fiS N.N m j = none) ∧ wr = w1) (fun i _ => ml - (intOf i).toNat)
      case atStart => exact ⟨0, by omega, rfl, rfl, rfl⟩
      case round =>
        obtain ⟨j, hj, rfl, HF, rfl⟩ := hrel
        by_cases hjl : j < ml
        · have hji : (j : Int) < (ml : Int) := by omega
          obtain ⟨a', Bb, Bo, Bs, rfl, hA', hBb, g0, g1, g2, g3, g4⟩ := Mx.place HM1.out hjl
          have hz := (HM1.out.1 j hjl).choose_spec.2.2.2
          by_cases he : N.N j = m
          · have hfs := Lib.hid (FH.out j (fiS_le hjl (fiS_next_hit HF.out he)))
            have HQ : ((N.N j).toList == m.toList) = true := by rw [he]; simp
            clear he
            go_wp2_with (go_at_call 24; refine (copied_any _ _ _ _ _ _ hz.1 hz.2.1 hz.2.2).mono ?_; rintro e w2 ⟨rfl, hb2⟩; have hZ2 := HZ1.out.below hb2 HZ1.out.lt; have hB2 := HB1.out.trans (hb2.mono HB1.out.size); obtain ⟨⟨e0, e1, e2, e3, e4⟩, ⟨f0, f1, f2, f3, f4⟩⟩ := cs_all5 hZ2)
            have hZ6 := cs_fill hZ2 (.int .i64 (N.T j)) (.string (N.N j)) (.string (N.I j)) (.string (N.O j)) (.bool (N.W j))
            have hB6 := below_fill hB2 (Nat.le_succ w.heap.size) (.int .i64 (N.T j)) (.string (N.N j)) (.string (N.I j)) (.string (N.O j)) (.bool (N.W j))
            generalize (((((w2.setCell ⟨w.heap.size + 1, 0, none⟩ (.int .i64 (N.T j))).setCell ⟨w.heap.size + 1, 1, none⟩ (.string (N.N j))).setCell ⟨w.heap.size + 1, 2, none⟩ (.string (N.I j))).setCell ⟨w.heap.size + 1, 3, none⟩ (.string (N.O j))).setCell ⟨w.heap.size + 1, 4, none⟩ (.bool (N.W j))) = w6 at hZ6 hB6 ⊢
            clear e0 e1 e2 e3 e4 f0 f1 f2 f3 f4
            obtain ⟨⟨d0, d1, d2, d3, d4⟩, _⟩ := cs_all5 hZ6
            refine bodyPost_ret (by simp [results, Try.results14, go_sem, d0, d1, d2, d3, d4]; try rfl) rfl ?_
            exact ⟨by rw [hfs.out]; rfl, hB6⟩
          · have HQ := txt_neq he
            have hfs := Lib.hid (fiS_next_miss HF.out he)
            clear he
            go_wp2
            go_roundw
            case rel => exact ⟨j + 1, by omega, by go_num, hfs, by first | rfl | trivial⟩
            case measure => simp [intOf]; omega
        · have hji : ¬ (j : Int) < (ml : Int) := by omega
          obtain rfl : j = ml := by omega
          have hfs := Lib.hid (FM.out HF.out)
          obtain ⟨⟨e0, e1, e2, e3, e4⟩, ⟨f0, f1, f2, f3, f4⟩⟩ := cs_all5 HZ1.out
          go_wp2
          have hZ6 := cs_fill HZ1.out (.int .i64 0) (.string ⟨#[]⟩) (.string ⟨#[]⟩) (.string ⟨#[]⟩) (.bool false)
          have hB6 := below_fill HB1.out (Nat.le_succ w.heap.size) (.int .i64 0) (.string ⟨#[]⟩) (.string ⟨#[]⟩) (.string ⟨#[]⟩) (.bool false)
          generalize (((((wr.setCell ⟨w.heap.size + 1, 0, none⟩ (.int .i64 0)).setCell ⟨w.heap.size + 1, 1, none⟩ (.string ⟨#[]⟩)).setCell ⟨w.heap.size + 1, 2, none⟩ (.string ⟨#[]⟩)).setCell ⟨w.heap.size + 1, 3, none⟩ (.string ⟨#[]⟩)).setCell ⟨w.heap.size + 1, 4, none⟩ (.bool false)) = w6 at hZ6 hB6 ⊢
          clear e0 e1 e2 e3 e4 f0 f1 f2 f3 f4
          obtain ⟨⟨d0, d1, d2, d3, d4⟩, _⟩ := cs_all5 hZ6
          refine bodyPost_ret (by simp [results, Try.results14, go_sem, d0, d1, d2, d3, d4]; try rfl) rfl ?_
          exact ⟨by rw [hfs.out]; rfl, hB6⟩
    · rw [mtS_kind hf hk]
      have hkb : (D.K i != 4) = true := by simpa using hk
      clear hf hk
      have C := Lib.hid (And.intro c0 c3)
      clear c0 c1 c2 c3 c4
      go_enter Try.func14, Try.ntmps14
      go_wp2_with (go_at_call 22; refine (ixd_any w.heap.size s (some a) len cap D _ HX.out HS0.out).mono ?_; rw [HR.out]; rintro e w1 ⟨rfl, hb1⟩; have hZ1 := HZ0.out.below hb1 HZ0.out.lt; have hB1 := HB0.out.trans (hb1.mono HB0.out.size); obtain ⟨⟨e0, e1, e2, e3, e4⟩, ⟨f0, f1, f2, f3, f4⟩⟩ := cs_all5 hZ1; have c0 := (hB1.cell (p := ⟨Ab, Ao, As⟩) hAb).trans C.out.1)
      have hZ6 := cs_fill hZ1 (.int .i64 0) (.string ⟨#[]⟩) (.string ⟨#[]⟩) (.string ⟨#[]⟩) (.bool false)
      have hB6 := below_fill hB1 (Nat.le_succ w.heap.size) (.int .i64 0) (.string ⟨#[]⟩) (.string ⟨#[]⟩) (.string ⟨#[]⟩) (.bool false)
      generalize (((((w1.setCell ⟨w.heap.size + 1, 0, none⟩ (.int .i64 0)).setCell ⟨w.heap.size + 1, 1, none⟩ (.string ⟨#[]⟩)).setCell ⟨w.heap.size + 1, 2, none⟩ (.string ⟨#[]⟩)).setCell ⟨w.heap.size + 1, 3, none⟩ (.string ⟨#[]⟩)).setCell ⟨w.heap.size + 1, 4, none⟩ (.bool false)) = w6 at hZ6 hB6 ⊢
      clear e0 e1 e2 e3 e4 f0 f1 f2 f3 f4
      obtain ⟨⟨d0, d1, d2, d3, d4⟩, _⟩ := cs_all5 hZ6
      refine bodyPost_ret (by simp [results, Try.results14, go_sem, d0, d1, d2, d3, d4]; try rfl) rfl ?_
      exact ⟨rfl, hB6⟩
end Go.Proofs.Ytcmmabiomffcpaa.Nm
