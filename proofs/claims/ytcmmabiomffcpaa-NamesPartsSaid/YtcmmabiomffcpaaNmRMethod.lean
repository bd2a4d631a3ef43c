/- Names: the contract of the reference's Method. -/
import Derived.Test.YtcmmabiomffcpaaNmMethod
namespace Go.Proofs.Ytcmmabiomffcpaa.Nm
open Go.RowKit Cm
set_option linter.unusedVariables false
set_option linter.unusedSimpArgs false

set_option maxRecDepth 100000 in
set_option maxHeartbeats 2000000 in
theorem rmethod_any (o : Option Addr) (len cap : Nat) (D : Dl) (M : Nat → Ml) (s m : ByteArray) (w : World) (h : Dx o len D w) (hM : ∀ i, i < len → Mx (D.mo i) (D.ml i) (M i) w) :
    Calls Try.prog 15 #[.slice o len cap, .string s, .string m] w fun e w' => e = mtV (mtS D M s m len) ∧ Below w.heap.size w w' := by
  have hlen := h.2
  have hlen2 : len ≤ 9223372036854775807 := by omega
  obtain ⟨W1, hW1⟩ : ∃ W1, W1 = w.alloc (.cells #[.int .i64 0, .string ⟨#[]⟩, .string ⟨#[]⟩, .string ⟨#[]⟩, .bool false] 40) := ⟨_, rfl⟩
  have hB0 : Below w.heap.size w W1 := by rw [hW1]; exact (Below.refl w.heap.size w).alloc (Nat.le_refl _) _
  have hZ0 : Cs w.heap.size [.int .i64 0, .string ⟨#[]⟩, .string ⟨#[]⟩, .string ⟨#[]⟩, .bool false] W1 := by rw [hW1]; exact Cs.new w [.int .i64 0, .string ⟨#[]⟩, .string ⟨#[]⟩, .string ⟨#[]⟩, .bool false] 40
  have HX := Lib.hid (h.below hB0 (Nat.le_refl _))
  have HM := Lib.hid (fun i hi => (hM i hi).below hB0 (Nat.le_refl _))
  have HB := Lib.hid hB0
  have HZ := Lib.hid hZ0
  obtain ⟨⟨e0, e1, e2, e3, e4⟩, ⟨f0, f1, f2, f3, f4⟩⟩ := cs_all5 hZ0
  have HW := Lib.hid hW1
  clear hB0 hZ0 hM h hW1
  cases hf : fiS D.S s len with
  | none =>
    rw [mtS_none hf]
    have HR := Lib.hid (rfS_none hf)
    clear hf
    go_enter Try.func15, Try.ntmps15
    go_wp2_with fail
    rw [← HW.out]
    refine (rfind_any o len cap D s W1 HX.out).mono ?_
    rw [HR.out]
    rintro e w1 ⟨rfl, rfl⟩
    go_wp2
    have hZ6 := cs_fill HZ.out (.int .i64 0) (.string ⟨#[]⟩) (.string ⟨#[]⟩) (.string ⟨#[]⟩) (.bool false)
    have hB6 := below_fill HB.out (Nat.le_refl _) (.int .i64 0) (.string ⟨#[]⟩) (.string ⟨#[]⟩) (.string ⟨#[]⟩) (.bool false)
    generalize (((((w1.setCell ⟨w.heap.size, 0, none⟩ (.int .i64 0)).setCell ⟨w.heap.size, 1, none⟩ (.string ⟨#[]⟩)).setCell ⟨w.heap.size, 2, none⟩ (.string ⟨#[]⟩)).setCell ⟨w.heap.size, 3, none⟩ (.string ⟨#[]⟩)).setCell ⟨w.heap.size, 4, none⟩ (.bool false)) = w6 at hZ6 hB6 ⊢
    clear e0 e1 e2 e3 e4 f0 f1 f2 f3 f4
    obtain ⟨⟨d0, d1, d2, d3, d4⟩, _⟩ := cs_all5 hZ6
    refine bodyPost_ret (by simp [results, Try.results15, go_sem, d0, d1, d2, d3, d4]; try rfl) rfl ?_
    exact ⟨rfl, hB6⟩
  | some i =>
    have hi := (fiS_some hf).1
    have hii : (i : Int) < (len : Int) := by omega
    have HR := Lib.hid (rfS_some hf)
    obtain ⟨a, Ab, Ao, As, rfl, hA, hAb, c0, c1, c2, c3, c4⟩ := Dx.place HX.out hi
    by_cases hk : D.K i = 4
    · have hMi := HM.out i hi
      have fh := fun j (h : fiS (M i).N m (D.ml i) = some j) => mtS_hit (M := M) hf hk h
      have fm := fun (h : fiS (M i).N m (D.ml i) = none) => mtS_miss (M := M) hf hk h
      obtain ⟨mo, hmo⟩ : ∃ x, D.mo i = x := ⟨_, rfl⟩
      obtain ⟨ml, hml⟩ : ∃ x, D.ml i = x := ⟨_, rfl⟩
      obtain ⟨mc, hmc⟩ : ∃ x, D.mc i = x := ⟨_, rfl⟩
      obtain ⟨N, hN⟩ : ∃ x, M i = x := ⟨_, rfl⟩
      rw [hmo, hml, hN] at hMi
      rw [hml, hN] at fh fm
      rw [hmo, hml, hmc] at c3
      rw [hk] at c0
      have FH := Lib.hid fh
      have FM := Lib.hid fm
      have hml2 := hMi.2
      have HMi := Lib.hid hMi
      clear hMi fh fm hmo hml hmc hN c1 c2 c4 hf hk
      go_enter Try.func15, Try.ntmps15
      go_wp2_with fail
      rw [← HW.out]
      refine (rfind_any (some a) len cap D s W1 HX.out).mono ?_
      rw [HR.out]
      rintro e w1 ⟨rfl, rfl⟩
      go_wp2
      go_loopw [9] (fun i wr => ∃ j, j ≤ ml ∧ i = .int .i64 (j : Nat) ∧ Hid (fiS N.N m j = none) ∧ wr = w1) (fun i _ => ml - (intOf i).toNat)
      case atStart => exact ⟨0, by omega, rfl, rfl, rfl⟩
      case round =>
        obtain ⟨j, hj, rfl, HF, rfl⟩ := hrel
        by_cases hjl : j < ml
        · have hji : (j : Int) < (ml : Int) := by omega
          obtain ⟨a', Bb, Bo, Bs, rfl, hA', hBb, g0, g1, g2, g3, g4⟩ := Mx.place HMi.out hjl
          by_cases he : N.N j = m
          · have hfs := Lib.hid (FH.out j (fiS_le hjl (fiS_next_hit HF.out he)))
            have HQ : ((N.N j).toList == m.toList) = true := by rw [he]; simp
            clear he
            go_wp2
            have hZ6 := cs_fill HZ.out (.int .i64 (N.T j)) (.string (N.N j)) (.string (N.I j)) (.string (N.O j)) (.bool (N.W j))
            have hB6 := below_fill HB.out (Nat.le_refl _) (.int .i64 (N.T j)) (.string (N.N j)) (.string (N.I j)) (.string (N.O j)) (.bool (N.W j))
            generalize (((((wr.setCell ⟨w.heap.size, 0, none⟩ (.int .i64 (N.T j))).setCell ⟨w.heap.size, 1, none⟩ (.string (N.N j))).setCell ⟨w.heap.size, 2, none⟩ (.string (N.I j))).setCell ⟨w.heap.size, 3, none⟩ (.string (N.O j))).setCell ⟨w.heap.size, 4, none⟩ (.bool (N.W j))) = w6 at hZ6 hB6 ⊢
            clear e0 e1 e2 e3 e4 f0 f1 f2 f3 f4
            obtain ⟨⟨d0, d1, d2, d3, d4⟩, _⟩ := cs_all5 hZ6
            refine bodyPost_ret (by simp [results, Try.results15, go_sem, d0, d1, d2, d3, d4]; try rfl) rfl ?_
            exact ⟨by rw [hfs.out]; rfl, hB6⟩
          · have HQ := txt_neq he
            have hfs := Lib.hid (fiS_next_miss HF.out he)
            clear he
            go_wp2
            go_roundw
            case rel => exact ⟨j + 1, by omega, by go_num, hfs, by first | rfl | trivial⟩
            case measure => simp [intOf]; omega
        · have hji : ¬ (j : Int) < (ml : Int) := by omega
          obtain rfl : j = ml := by omega
          have hfs := Lib.hid (FM.out HF.out)
          go_wp2
          have hZ6 := cs_fill HZ.out (.int .i64 0) (.string ⟨#[]⟩) (.string ⟨#[]⟩) (.string ⟨#[]⟩) (.bool false)
          have hB6 := below_fill HB.out (Nat.le_refl _) (.int .i64 0) (.string ⟨#[]⟩) (.string ⟨#[]⟩) (.string ⟨#[]⟩) (.bool false)
          generalize (((((wr.setCell ⟨w.heap.size, 0, none⟩ (.int .i64 0)).setCell ⟨w.heap.size, 1, none⟩ (.string ⟨#[]⟩)).setCell ⟨w.heap.size, 2, none⟩ (.string ⟨#[]⟩)).setCell ⟨w.heap.size, 3, none⟩ (.string ⟨#[]⟩)).setCell ⟨w.heap.size, 4, none⟩ (.bool false)) = w6 at hZ6 hB6 ⊢
          clear e0 e1 e2 e3 e4 f0 f1 f2 f3 f4
          obtain ⟨⟨d0, d1, d2, d3, d4⟩, _⟩ := cs_all5 hZ6
          refine bodyPost_ret (by simp [results, Try.results15, go_sem, d0, d1, d2, d3, d4]; try rfl) rfl ?_
          exact ⟨by rw [hfs.out]; rfl, hB6⟩
    · rw [mtS_kind hf hk]
      have hkb : (D.K i != 4) = true := by simpa using hk
      clear hf hk c1 c2 c3 c4
      go_enter Try.func15, Try.ntmps15
      go_wp2_with fail
      rw [← HW.out]
      refine (rfind_any (some a) len cap D s W1 HX.out).mono ?_
      rw [HR.out]
      rintro e w1 ⟨rfl, rfl⟩
      go_wp2
      have hZ6 := cs_fill HZ.out (.int .i64 0) (.string ⟨#[]⟩) (.string ⟨#[]⟩) (.string ⟨#[]⟩) (.bool false)
      have hB6 := below_fill HB.out (Nat.le_refl _) (.int .i64 0) (.string ⟨#[]⟩) (.string ⟨#[]⟩) (.string ⟨#[]⟩) (.bool false)
      generalize (((((w1.setCell ⟨w.heap.size, 0, none⟩ (.int .i64 0)).setCell ⟨w.heap.size, 1, none⟩ (.string ⟨#[]⟩)).setCell ⟨w.heap.size, 2, none⟩ (.string ⟨#[]⟩)).setCell ⟨w.heap.size, 3, none⟩ (.string ⟨#[]⟩)).setCell ⟨w.heap.size, 4, none⟩ (.bool false)) = w6 at hZ6 hB6 ⊢
      clear e0 e1 e2 e3 e4 f0 f1 f2 f3 f4
      obtain ⟨⟨d0, d1, d2, d3, d4⟩, _⟩ := cs_all5 hZ6
      refine bodyPost_ret (by simp [results, Try.results15, go_sem, d0, d1, d2, d3, d4]; try rfl) rfl ?_
      exact ⟨rfl, hB6⟩
end Go.Proofs.Ytcmmabiomffcpaa.Nm
