/- Keys: the contract of key.Split over the program. -/
import Derived.Test.YtkbblmjldfinoaaKyOwn
namespace Go.Proofs.Ytkbblmjldfinoaa.Vm
open Go.RowKit
set_option linter.unusedVariables false
set_option linter.unusedSimpArgs false

set_option maxRecDepth 100000 in
set_option maxHeartbeats 4000000 in
theorem ksplit_any (s : ByteArray) (w : World) (hs : s.size ≤ 140737488355328) (T0 : List Nat) (L0 : List ByteArray) (e0 : Nat) (hr : spS s 0 0 [] [] = (T0, L0, e0)) :
    Calls Try.prog 14 #[.string s] w fun x w' => ∃ vT vL, x = .returned (.tuple #[vT, vL, .int .i64 e0]) ∧ Lt 3 w.heap.size vT (tgC T0) w' ∧ Lt 9 w.heap.size vL (txC L0) w' ∧ Below w.heap.size w w' := by
  have HR0 := Lib.hid hr
  clear hr
  have hB0 := Below.refl w.heap.size w
  go_enter Try.func14, Try.ntmps14
  go_wp2
  go_loopw [0, 5, 6, 7] (fun b vT vL la wr => ∃ a last T L, a ≤ s.size ∧ b = .string (lf s a) ∧ la = .int .i64 (last : Nat) ∧ last ≤ 255 ∧ T.length ≤ last ∧ T.length = L.length ∧ Hid (spS s a last T L = (T0, L0, e0)) ∧ Hid (Lt 3 w.heap.size vT (tgC T) wr) ∧ Hid (Lt 9 w.heap.size vL (txC L) wr) ∧ Hid (Below w.heap.size w wr)) (fun b _ _ _ _ => szOf b)
  case atStart => exact ⟨0, 0, [], [], by omega, by rw [lf_zero], rfl, by omega, by simp, rfl, HR0, Lt.nil _ _ _, Lt.nil _ _ _, hB0⟩
  case round =>
    obtain ⟨a, last, T, L, ha, rfl, rfl, hla, hT, hTL, HR, HT, HL, HB⟩ := hrel
    clear HR0 hB0
    have hls := lf_size s a
    by_cases hd : s.size ≤ a
    · have hz : ¬ (0 : Int) < ((lf s a).size : Int) := by omega
      have he := HR.out
      rw [spS_done s a last T L hd] at he
      simp only [Prod.mk.injEq] at he
      obtain ⟨rfl, rfl, rfl⟩ := he
      go_wp2
      go_ret3
      exact ⟨_, _, rfl, HT.out, HL.out, HB.out⟩
    · have hz : (0 : Int) < ((lf s a).size : Int) := by omega
      obtain ⟨t, v, k, e, hk⟩ : ∃ t v k e, ktS (lf s a) = (t, v, k, e) := ⟨_, _, _, _, rfl⟩
      have HK := Lib.hid hk
      have hm : (lf s a).size ≤ maxLen := by unfold maxLen; omega
      by_cases he : e = 0
      · subst he
        obtain ⟨g1, g2, g3, g4, g5⟩ := ktS_room _ _ _ _ hk
        by_cases ht : t ≤ last
        · have ht' : (t : Int) ≤ (last : Int) := by omega
          have hx := HR.out
          rw [spS_tag s a last t v k T L hd hk ht] at hx
          simp only [Prod.mk.injEq] at hx
          obtain ⟨rfl, rfl, rfl⟩ := hx
          clear hk
          go_wp2_with (go_at_call 9; refine (ktake_ret _ _ _ _ _ HK.out _ hm).mono ?_; rintro e w' ⟨rfl, rfl⟩)
          go_ret3
          exact ⟨_, _, rfl, Lt.nil _ _ _, Lt.nil _ _ _, HB.out⟩
        · have ht' : ¬ (t : Int) ≤ (last : Int) := by omega
          have hls2 := lf_size s (a + k)
          have hlf : (lf s a).extract k (s.size - a) = lf s (a + k) := by rw [← hls]; exact lf_lf s a k
          have hlt : ∀ n, (lf s (a + k)).extract 0 n = s.extract (a + k) (a + k + n) := fun n => lf_take s (a + k) n
          have hlr : ∀ n, (lf s (a + k)).extract n (lf s (a + k)).size = lf s (a + k + n) := fun n => lf_lf s (a + k) n
          have hkk : (k : Int) ≤ ((lf s a).size : Int) := by omega
          obtain ⟨n, f, hn⟩ : ∃ n f, skS (lf s (a + k)) v = (n, f) := ⟨_, _, rfl⟩
          have hnr := skS_room _ _ _ _ hn
          have hst := spS_step s a last t v k n T L hd hk ht
          have hsk := spS_skip s a last t v k n f T L hd hk ht
          generalize lf s (a + k) = X at hls2 hlf hlt hlr hn hnr hst hsk
          have HN := Lib.hid hn
          have HLF := Lib.hid hlf
          have hXz : X.size ≤ 140737488355328 := by omega
          have hnX : (n : Int) ≤ (X.size : Int) := by omega
          have hroom : a + k + n ≤ s.size := by omega
          have hxz : (X.extract 0 n).size ≤ 281474976710656 := by rw [ByteArray.size_extract]; omega
          have HXZ := Lib.hid hxz
          have HLS2 := Lib.hid hls2
          have HLR := Lib.hid hlr
          clear hlf hls2 hxz hlr
          by_cases hf : f = 0
          · subst hf
            have hx := HR.out
            rw [hst hn] at hx
            have HX := Lib.hid hx
            have HLT := Lib.hid hlt
            clear hx hk hn HR hst hsk hlt
            go_wp2_with (first | (go_at_call 9; refine (ktake_ret _ _ _ _ _ HK.out _ hm).mono ?_; rintro e w' ⟨rfl, rfl⟩) | (go_at_call 12; rw [HLF.out]; refine (skip_ret _ _ _ _ HN.out _ (by omega) (by omega) (by omega)).mono ?_; rintro e w2 ⟨rfl, hb2⟩))
            have hT1 := HT.out.below (hb2.mono (Nat.le_refl _))
            have hL1 := HL.out.below (hb2.mono (Nat.le_refl _))
            have hB1 := HB.out.trans (hb2.mono HB.out.size)
            have hHT1 := Lib.hid hT1
            have hHL1 := Lib.hid hL1
            have hHB1 := Lib.hid hB1
            clear hT1 hL1 hB1 HT HL HB hb2
            have hT255 : (tgC T).length ≤ 1000000 := by rw [tgC_len]; omega
            have hL255 : (txC L).length ≤ 1000000 := by rw [txC_len]; omega
            go_region_held3 (fun _ => True) (trivial) (first
              | (refine Lt.step rfl (.tmp 41) (.tmp 43) 31 rfl w.heap.size 3 (.int .i64 0) 8 Try.underlying31 infoInt (by decide) rfl u5 (tgC T) rfl (hHT1.out.alloc _).drew w2.heap.size (.int .i64 (t : Nat)) rfl (newcell _ _ _) rfl hT255 (by have := hHB1.out.size; simp; omega) ?_; intro vT2 w3 hT3 hg3 _; have hL3 := (hHL1.out.alloc _).drew.beside (hHT1.out.alloc _).drew (by decide) hg3; have hB3 := (hHT1.out.alloc _).drew.grew hg3 (hHB1.out.alloc hHB1.out.size _).drew (by have := hHB1.out.size; simp; omega))
              | (go_at_call 26; refine (clone_any _ _ HXZ.out).mono ?_; rintro e w4 ⟨rfl, hb4⟩; have hT4 := hT3.below hb4; have hL4 := hL3.below hb4; have hB4 := hB3.trans (hb4.mono hB3.size))
              | (refine Lt.step rfl (.tmp 45) (.tmp 50) 32 rfl w.heap.size 9 (.string ByteArray.empty) 16 Try.underlying32 infoStr (by decide) rfl u6 (txC L) rfl (hL4.alloc _) w4.heap.size (.string (X.extract 0 n)) rfl (newcell _ _ _) rfl hL255 (by have := hB4.size; simp; omega) ?_; intro vL2 w5 hL5 hg5 _; have hT5 := (hT4.alloc _).beside (hL4.alloc _) (by decide) hg5; have hB5 := (hL4.alloc _).grew hg5 (hB4.alloc hB4.size _) (by have := hB4.size; simp; omega)))
            go_wp2
            go_roundw
            case rel => exact ⟨a + k + n, t, T ++ [t], L ++ [X.extract 0 n], hroom, by rw [HLR.out n], rfl, g4, by simp; omega, by simp [hTL], by rw [HLT.out]; exact HX.out, by rw [tgC_app]; exact hT5, by rw [txC_app]; exact hL5, hB5⟩
            case measure => have hq := HLS2.out; simp [szOf]; omega
          · have hfb : ((f : Int) != 0) = true := by simpa using hf
            have hx := HR.out
            rw [hsk hn hf] at hx
            simp only [Prod.mk.injEq] at hx
            obtain ⟨rfl, rfl, rfl⟩ := hx
            clear hk hn hst hsk hlt
            go_wp2_with (first | (go_at_call 9; refine (ktake_ret _ _ _ _ _ HK.out _ hm).mono ?_; rintro e w' ⟨rfl, rfl⟩) | (go_at_call 12; rw [HLF.out]; refine (skip_ret _ _ _ _ HN.out _ (by omega) (by omega) (by omega)).mono ?_; rintro e w2 ⟨rfl, hb2⟩))
            go_ret3
            exact ⟨_, _, rfl, Lt.nil _ _ _, Lt.nil _ _ _, HB.out.trans (hb2.mono HB.out.size)⟩
      · have heb : ((e : Int) != 0) = true := by simpa using he
        have hx := HR.out
        rw [spS_key s a last t v k e T L hd hk he] at hx
        simp only [Prod.mk.injEq] at hx
        obtain ⟨rfl, rfl, rfl⟩ := hx
        clear hk
        go_wp2_with (go_at_call 9; refine (ktake_ret _ _ _ _ _ HK.out _ hm).mono ?_; rintro e w' ⟨rfl, rfl⟩)
        go_ret3
        exact ⟨_, _, rfl, Lt.nil _ _ _, Lt.nil _ _ _, HB.out⟩
end Go.Proofs.Ytkbblmjldfinoaa.Vm
