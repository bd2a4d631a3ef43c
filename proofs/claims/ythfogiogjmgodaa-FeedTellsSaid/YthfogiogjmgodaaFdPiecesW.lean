/- Feeds: the walk of FeedPieces, step by step. -/
import Derived.Test.YthfogiogjmgodaaFdPieces
import Derived.Deep.RegionWith
namespace Go.Proofs.Ythfogiogjmgodaa.Fd
open Go.RowKit Fr Cm
set_option linter.unusedVariables false
set_option linter.unusedSimpArgs false

set_option maxRecDepth 100000 in
set_option maxHeartbeats 4000000 in
theorem pieces_walk (o : Option Addr) (n cap : Nat) (X : Nat → ByteArray) (w : World) (hn : n ≤ maxLen) (h : Tx o n X w) :
    Calls Try.prog 4 #[.slice o n cap] w fun e w' => e = .returned (.bool true) ∧ Below w.heap.size w w' := by
  have HX : Hid (Tx o n X w) := h
  have HN := Lib.hid hn
  clear h hn
  have hB0 := Below.refl w.heap.size w
  cases hm : muB X n with
  | true =>
    have HM := Lib.hid hm
    clear hm
    go_enter Try.func4, Try.ntmps4
    go_wp2_with (first
      | (go_at_call 6; refine (much_yes o n cap X _ HN.out HX.out HM.out).mono ?_; rintro e w1 ⟨rfl, rfl⟩)
      | (go_at_call 7; refine (awake_any _).mono ?_; rintro e w4 ⟨rfl, hb4⟩; replace hB0 := hB0.trans hb4))
    go_ret
    exact ⟨rfl, hB0⟩
  | false =>
    have HM := Lib.hid hm
    obtain ⟨hn200, hsm⟩ := muB_no X n hm
    clear hm
    have hf1 := fs_new w
    have hf2 := fs_new (w.alloc (.cells #[.string ⟨#[]⟩, .int .i64 0] 36))
    have hf3 := fs_new ((w.alloc (.cells #[.string ⟨#[]⟩, .int .i64 0] 36)).alloc (.cells #[.string ⟨#[]⟩, .int .i64 0] 36))
    rw [World.size_alloc] at hf2
    rw [World.size_alloc, World.size_alloc] at hf3
    have HT0 : Hid (Pc w.heap.size w [] ⟨#[]⟩ 0 (.slice none 0 0) [] ⟨#[]⟩ 0 (.slice none 0 0) (((w.alloc (.cells #[.string ⟨#[]⟩, .int .i64 0] 36)).alloc (.cells #[.string ⟨#[]⟩, .int .i64 0] 36)).alloc (.cells #[.string ⟨#[]⟩, .int .i64 0] 36))) :=
      ⟨(Cs.alloc (Cs.alloc hf1 _) _), Cs.alloc hf2 _, hf3, Rf.nil _ _, Rf.nil _ _, Ap.nil _, ((hB0.alloc (Nat.le_refl _) _).alloc (by simp) _).alloc (by simp; omega) _⟩
    clear hB0 hf1 hf2 hf3
    go_enter Try.func4, Try.ntmps4
    go_wp2_with (first
      | (go_at_call 6; refine (much_no o n cap X _ HN.out HX.out HM.out).mono ?_; rintro e w1 ⟨rfl, rfl⟩)
      | (go_at_call 8; refine (new_any _).mono ?_; rintro e w0 ⟨rfl, rfl⟩))
    go_loopw [6, 7, 8, 9] (fun all a b i wr => ∃ k F r bad va vb, k ≤ n ∧ i = .int .i64 (k : Nat) ∧ all = .string (ctS X k) ∧ va = a ∧ vb = b ∧ Hid (dnS (ctS X k) = (F, r, bad)) ∧ Hid (Pc w.heap.size w F r bad va F r bad vb wr)) (fun _ _ _ i _ => n - (intOf i).toNat)
    case atStart => exact ⟨0, [], ⟨#[]⟩, 0, _, _, by omega, rfl, rfl, rfl, rfl, dnS_nil, HT0⟩
    case round =>
      obtain ⟨k, F, r, bad, va, vb, hk, rfl, rfl, rfl, rfl, HD, HT⟩ := hrel
      clear HT0
      by_cases hlt : k < n
      · have hltI : (k : Int) < (n : Int) := by omega
        obtain ⟨a, rfl, hc, hz⟩ := HX.out.keep (m := 0) HT.out.bel k hlt
        have hsk := ctS_size X k
        have hsk1 := smZ_mono X (k + 1) n hlt
        have e1 : smZ X (k + 1) = smZ X k + (X k).size := rfl
        have hs1 : (ctS X k).size + (X k).size ≤ 20000 := by omega
        have hs1b : smZ X k + (X k).size ≤ 20000 := by omega
        have hs3 : (X k).size ≤ 1099511627776 := by omega
        have HS3 := Lib.hid hs3
        obtain ⟨F', r', bad', hp⟩ : ∃ F' r' bad', psS r bad (X k) = (F', r', bad') := ⟨_, _, _, rfl⟩
        have hd2 := dnS_step _ _ _ _ _ _ _ _ HD.out hp
        have HD2 : Hid (dnS (ctS X (k + 1)) = (F ++ F', r', bad')) := hd2
        have hr := dnS_room _ _ _ _ HD.out
        have hr' := dnS_room _ _ _ _ HD2.out
        have hctz := ctS_size X (k + 1)
        have hrr : Hid (r.size ≤ 1028) := by show r.size ≤ 1028; omega
        rw [List.length_append] at hr'
        have hbig : F.length + F'.length ≤ maxLen := by unfold maxLen; omega
        have hbytes : (F.length + F'.length) * 32 ≤ 140737488355328 := by omega
        have HP := Lib.hid hp
        have hct : ctS X k ++ X k = ctS X (k + 1) := rfl
        have HDP : Hid (dnS (prS X k 0) = (F, r, bad)) := by show dnS (prS X k 0) = _; rw [prS_zero]; exact HD.out
        clear hd2 hp hr hr' hsk hsk1 e1 hs3 hctz HD
        have hcat : (ctS X k).size + (X k).size ≤ 9223372036854775807 := by omega
        go_wp2_with (first
          | (go_at_call 9; refine (push_any _ _ _ _ _ HT.out.f hrr.out HS3.out _ _ _ HP.out).mono ?_; rintro e w1 ⟨v1, rfl, hR1, hF1, hO1⟩; have hz1 : w.heap.size + 3 ≤ w1.heap.size := by have := HT.out.h.lt; have := hO1.size; omega)
          | (at_builtin; refine Rw.list rfl (.tmp 31) (.tmp 37) 27 rfl 39 3 (w.heap.size + 3) _ 32 Try.underlying27 infoFrame (by decide) va v1 F.length F'.length (fmC F) (fmC F') rfl rfl (HT.out.rowA.only hO1 (by omega)) hR1 (fmC_cells _) hbig hbytes hz1 ?_; intro v2 w2 hR2 hg2 hG2; have HT2 := Lib.hid (HT.out.pushA hF1 hO1 hR2 hg2 hG2); clear hR2 hg2 hG2 hR1 hF1 hO1 hz1))
        clear HT hc
        go_loopw [8, 10] (fun b kk wi => ∃ j G q bd vb, j ≤ (X k).size ∧ kk = .int .i64 (j : Nat) ∧ vb = b ∧ Hid (dnS (prS X k j) = (G, q, bd)) ∧ Hid (Pc w.heap.size w (F ++ F') r' bad' v2 G q bd vb wi)) (fun _ kk _ => (X k).size - (intOf kk).toNat)
        case atStart => exact ⟨0, F, r, bad, vb, by omega, rfl, rfl, HDP, HT2⟩
        case round =>
          obtain ⟨j, G, q, bd, vb, hj, rfl, rfl, HG, HI⟩ := hrel
          clear HT2 HDP
          obtain ⟨a2, ea, hc, _⟩ := HX.out.keep (m := 0) HI.out.bel k hlt
          obtain rfl : a = a2 := by injection ea
          clear ea
          by_cases hjl : j < (X k).size
          · have hjI : (j : Int) < ((X k).size : Int) := by omega
            have hjI1 : (j : Int) + 1 ≤ ((X k).size : Int) := by omega
            have hq : ((j : Int) + 1).toNat = j + 1 := by omega
            obtain ⟨G', q', bd', hp⟩ : ∃ G' q' bd', psS q bd ((X k).extract j (j + 1)) = (G', q', bd') := ⟨_, _, _, rfl⟩
            have hd2 := dnS_step _ _ _ _ _ _ _ _ HG.out hp
            rw [← prS_step X k j hjl] at hd2
            have hr := dnS_room _ _ _ _ HG.out
            have hr' := dnS_room _ _ _ _ hd2
            have hctz := prS_size X k (j + 1) hjl
            have hrr : Hid (q.size ≤ 1028) := by show q.size ≤ 1028; omega
            rw [List.length_append] at hr'
            have hbig : G.length + G'.length ≤ maxLen := by unfold maxLen; omega
            have hbytes : (G.length + G'.length) * 32 ≤ 140737488355328 := by omega
            have HPb := Lib.hid hp
            have HG2 := Lib.hid hd2
            have hs4 : ((X k).extract j (j + 1)).size ≤ 1099511627776 := by rw [ByteArray.size_extract]; omega
            have HS4 := Lib.hid hs4
            clear hd2 hp hr hr' hctz HG hs4
            go_wp2_with (first
              | (go_at_call 9; refine (push_any _ _ _ _ _ HI.out.g hrr.out HS4.out _ _ _ HPb.out).mono ?_; rintro e w1 ⟨v1, rfl, hR1, hF1, hO1⟩; have hz1 : w.heap.size + 3 ≤ w1.heap.size := by have := HI.out.h.lt; have := hO1.size; omega)
              | (at_builtin; refine Rw.list rfl (.tmp 48) (.tmp 58) 27 rfl 39 3 (w.heap.size + 3) _ 32 Try.underlying27 infoFrame (by decide) vb v1 G.length G'.length (fmC G) (fmC G') rfl rfl (HI.out.rowB.only hO1 (by omega)) hR1 (fmC_cells _) hbig hbytes hz1 ?_; intro v3 w3 hR3 hg3 hG3; have HI2 := Lib.hid (HI.out.pushB hF1 hO1 hR3 hg3 hG3); clear hR3 hg3 hG3 hR1 hF1 hO1 hz1))
            go_roundw
            case rel => exact ⟨j + 1, G ++ G', q', bd', v3, by omega, by go_num, rfl, HG2, HI2⟩
            case measure => simp [intOf]; omega
          · have hjI : ¬ (j : Int) < ((X k).size : Int) := by omega
            obtain rfl : j = (X k).size := by omega
            have hG := HG.out
            rw [prS_all, HD2.out] at hG
            simp only [Prod.mk.injEq] at hG
            obtain ⟨rfl, rfl, rfl⟩ := hG
            go_wp2
            go_roundw
            case rel => exact ⟨k + 1, F ++ F', r', bad', v2, vb, by omega, by go_num, rfl, rfl, rfl, HD2, HI⟩
            case measure => simp [intOf]; omega
      · have hltI : ¬ (k : Int) < (n : Int) := by omega
        obtain rfl : k = n := by omega
        have hp : psS ⟨#[]⟩ 0 (ctS X k) = (F, r, bad) := by rw [psS_new]; exact HD.out
        have HP := Lib.hid hp
        have hsk := ctS_size X k
        have hs3 : (ctS X k).size ≤ 1099511627776 := by omega
        have HS3 := Lib.hid hs3
        have hr := dnS_room _ _ _ _ HD.out
        have hrr : Hid (r.size ≤ maxLen) := by show r.size ≤ maxLen; unfold maxLen; omega
        have hwait : (r.size : Int) < 1028 := by omega
        clear hp hsk hs3 hr
        go_wp2_with (first
          | (go_at_call 9; refine (push_any _ _ _ _ _ HT.out.h (by decide) HS3.out _ _ _ HP.out).mono ?_; rintro e w1 ⟨v1, rfl, hR1, hF1, hO1⟩; have HC := Lib.hid (HT.out.pushC hO1); clear hO1)
          | (go_at_call_of 11 va; refine (same_of _ _ _ _ F _ HC.out.2.2.1 hR1).mono ?_; rintro e w2 ⟨rfl, hb2⟩; have hR2 := hR1.below hb2; have rb2 := HC.out.2.2.2.1.below hb2; have hB2 := HC.out.2.2.2.2.trans (hb2.mono HC.out.2.2.2.2.size); have f2 := Cs.below HC.out.1 hb2 HC.out.1.lt; have g2 := Cs.below HC.out.2.1 hb2 HC.out.2.1.lt; have h2 := Cs.below hF1 hb2 hF1.lt)
          | (go_at_call_of 11 vb; refine (same_of _ _ _ _ F _ rb2 hR2).mono ?_; rintro e w3 ⟨rfl, hb3⟩; have hB3 := hB2.trans (hb3.mono hB2.size); have f3 : Fs _ _ _ w3 := Cs.below f2 hb3 f2.lt; have g3 : Fs _ _ _ w3 := Cs.below g2 hb3 g2.lt; have h3 : Fs (w.heap.size + 1 + 1) r bad w3 := Cs.below h2 hb3 h2.lt)
          | (go_at_call 13; ((with_reducible refine (broken_any w.heap.size r bad w3 f3).mono ?_); rintro e w5 ⟨rfl, rfl⟩))
          | (go_at_call 13; ((with_reducible refine (broken_any (w.heap.size + 1) r bad w3 g3).mono ?_); rintro e w5 ⟨rfl, rfl⟩))
          | (go_at_call 13; ((with_reducible refine (broken_any (w.heap.size + 1 + 1) r bad w3 h3).mono ?_); rintro e w5 ⟨rfl, rfl⟩))
          | (go_at_call 12; ((with_reducible refine (waits_any w.heap.size r bad w3 f3 hrr.out).mono ?_); rintro e w5 ⟨rfl, rfl⟩))
          | (go_at_call 12; ((with_reducible refine (waits_any (w.heap.size + 1) r bad w3 g3 hrr.out).mono ?_); rintro e w5 ⟨rfl, rfl⟩))
          | (go_at_call 12; ((with_reducible refine (waits_any (w.heap.size + 1 + 1) r bad w3 h3 hrr.out).mono ?_); rintro e w5 ⟨rfl, rfl⟩))
          | (go_at_call 7; refine (awake_any _).mono ?_; rintro e w4 ⟨rfl, hb4⟩; have hB4 := hB3.trans (hb4.mono hB3.size)))
        go_ret
        exact ⟨rfl, hB4⟩
end Go.Proofs.Ythfogiogjmgodaa.Fd
