/- Keys: the contract of the reference's Split. -/
import Derived.Test.YtkbblmjldfinoaaKyCells
import Derived.Deep.RegionLaw
namespace Go.Proofs.Ytkbblmjldfinoaa.Vm
open Go.RowKit
set_option linter.unusedVariables false
set_option linter.unusedSimpArgs false

set_option maxRecDepth 100000 in
set_option maxHeartbeats 4000000 in
theorem rsplit_any (s : ByteArray) (w : World) (hs : s.size ≤ 140737488355328) (T0 : List Nat) (L0 : List ByteArray) (e0 : Nat) (hr : spS s 0 0 [] [] = (T0, L0, e0)) :
    Calls Try.prog 15 #[.string s] w fun x w' => ∃ vT vW vL, x = .returned (.tuple #[.agg #[vT, vW, vL], .int .i64 e0]) ∧ Lt 3 w.heap.size vT (tgC T0) w' ∧ (∃ ws, Lt 3 w.heap.size vW ws w') ∧ Lt 9 w.heap.size vL (txC L0) w' ∧ Below w.heap.size w w' := by
  have HR0 := Lib.hid hr
  clear hr
  have hB0 := Below.refl w.heap.size w
  go_enter Try.func15, Try.ntmps15
  go_wp2
  have hC0 := (Cs.new w [.slice none 0 0, .slice none 0 0, .slice none 0 0] 36).alloc (.cells [.slice none 0 0, .slice none 0 0, .slice none 0 0].toArray 36)
  have hC1 := Cs.new (w.alloc (.cells [.slice none 0 0, .slice none 0 0, .slice none 0 0].toArray 36)) [.slice none 0 0, .slice none 0 0, .slice none 0 0] 36
  rw [World.size_alloc] at hC1
  have hB1 := (hB0.alloc (Nat.le_refl _) (.cells [.slice none 0 0, .slice none 0 0, .slice none 0 0].toArray 36)).alloc (by rw [World.size_alloc]; omega) (.cells [.slice none 0 0, .slice none 0 0, .slice none 0 0].toArray 36)
  go_loopw [5] (fun i wr => ∃ a last T L ws vT vW vL, i = .int .i64 (a : Nat) ∧ a ≤ s.size ∧ last ≤ 255 ∧ T.length ≤ last ∧ T.length = L.length ∧ T.length = ws.length ∧ (T = [] → last = 0) ∧ (∀ j, T.length = j + 1 → T[j]? = some last) ∧ Hid (spS s a last T L = (T0, L0, e0)) ∧ Hid (St w.heap.size vT vW vL (tgC T) ws (txC L) w wr)) (fun i _ => s.size - (intOf i).toNat)
  case atStart => exact ⟨0, 0, [], [], [], _, _, _, rfl, by omega, by omega, by simp, rfl, rfl, fun _ => rfl, fun j h => by simp at h, HR0, ⟨hC0, hC1, Lt.nil _ _ _, Lt.nil _ _ _, Lt.nil _ _ _, Ap.nil _, hB1⟩⟩
  case round =>
    obtain ⟨a, last, T, L, ws, vT, vW, vL, rfl, ha, hla, hT, hTL, hTW, hT0, hTl, HR, HS⟩ := hrel
    clear HR0 hB0 hC0 hC1 hB1
    have hls := lf_size s a
    have fc0 := HS.out.var.cell (i := 0) rfl
    have fc1 := HS.out.var.cell (i := 1) rfl
    have fc2 := HS.out.var.cell (i := 2) rfl
    have rc0 := HS.out.res.cell (i := 0) rfl
    have rc1 := HS.out.res.cell (i := 1) rfl
    have rc2 := HS.out.res.cell (i := 2) rfl
    have rf0 := HS.out.res.frozen (i := 0) rfl
    have rf1 := HS.out.res.frozen (i := 1) rfl
    have rf2 := HS.out.res.frozen (i := 2) rfl
    by_cases hd : s.size ≤ a
    · have hz : ¬ (a : Int) < (s.size : Int) := by omega
      have he := HR.out
      rw [spS_done s a last T L hd] at he
      simp only [Prod.mk.injEq] at he
      obtain ⟨rfl, rfl, rfl⟩ := he
      obtain ⟨oT, cT, eT, _⟩ := HS.out.tags.form
      obtain ⟨oW, cW, eW, _⟩ := HS.out.wires.form
      obtain ⟨oL, cL, eL, _⟩ := HS.out.texts.form
      subst eT eW eL
      go_wp2
      have hT5 := ((HS.out.tags.setCell (b := w.heap.size) (i := 0) (u := .slice oT (tgC T).length cT) (by omega)).setCell (b := w.heap.size) (i := 1) (u := .slice oW ws.length cW) (by omega)).setCell (b := w.heap.size) (i := 2) (u := .slice oL (txC L).length cL) (by omega)
      have hW5 := ((HS.out.wires.setCell (b := w.heap.size) (i := 0) (u := .slice oT (tgC T).length cT) (by omega)).setCell (b := w.heap.size) (i := 1) (u := .slice oW ws.length cW) (by omega)).setCell (b := w.heap.size) (i := 2) (u := .slice oL (txC L).length cL) (by omega)
      have hL5 := ((HS.out.texts.setCell (b := w.heap.size) (i := 0) (u := .slice oT (tgC T).length cT) (by omega)).setCell (b := w.heap.size) (i := 1) (u := .slice oW ws.length cW) (by omega)).setCell (b := w.heap.size) (i := 2) (u := .slice oL (txC L).length cL) (by omega)
      have hB5 := ((HS.out.bel.setCell (p := ⟨w.heap.size, 0, none⟩) (Nat.le_refl _) (.slice oT (tgC T).length cT)).setCell (p := ⟨w.heap.size, 1, none⟩) (Nat.le_refl _) (.slice oW ws.length cW)).setCell (p := ⟨w.heap.size, 2, none⟩) (Nat.le_refl _) (.slice oL (txC L).length cL)
      have hC5 := ((HS.out.res.put (i := 0) (.slice oT (tgC T).length cT)).put (i := 1) (.slice oW ws.length cW)).put (i := 2) (.slice oL (txC L).length cL)
      generalize (((wr.setCell ⟨w.heap.size, 0, none⟩ (.slice oT (tgC T).length cT)).setCell ⟨w.heap.size, 1, none⟩ (.slice oW ws.length cW)).setCell ⟨w.heap.size, 2, none⟩ (.slice oL (txC L).length cL)) = w5 at hT5 hW5 hL5 hB5 hC5 ⊢
      have d0 := hC5.cell (i := 0) rfl
      have d1 := hC5.cell (i := 1) rfl
      have d2 := hC5.cell (i := 2) rfl
      refine bodyPost_ret (by simp [results, Try.results15, go_sem, d0, d1, d2]; try rfl) rfl ?_
      exact ⟨_, _, _, rfl, hT5.mono (by omega), ⟨_, hW5.mono (by omega)⟩, hL5.mono (by omega), hB5⟩
    · have hz : (a : Int) < (s.size : Int) := by omega
      obtain ⟨t, v, k, e, hk⟩ : ∃ t v k e, ktS (lf s a) = (t, v, k, e) := ⟨_, _, _, _, rfl⟩
      have HK := Lib.hid hk
      have hm : (lf s a).size ≤ maxLen := by unfold maxLen; omega
      have ff0 := HS.out.var.frozen (i := 0) rfl
      have ff1 := HS.out.var.frozen (i := 1) rfl
      have ff2 := HS.out.var.frozen (i := 2) rfl
      by_cases he : e = 0
      · subst he
        obtain ⟨g1, g2, g3, g4, g5⟩ := ktS_room _ _ _ _ hk
        by_cases hTn : T = []
        · subst hTn
          obtain rfl := hT0 rfl
          obtain ⟨oT, cT, eT, _⟩ := HS.out.tags.form
          have eT0 : vT = .slice oT 0 cT := eT
          subst eT0
          clear eT
          have ht : ¬ t ≤ 0 := by omega
          have hls2 := lf_size s (a + k)
          obtain ⟨n, f, hn⟩ : ∃ n f, skS (lf s (a + k)) v = (n, f) := ⟨_, _, rfl⟩
          have HN := Lib.hid hn
          have hnr := skS_room _ _ _ _ hn
          have hakI : (a : Int) + (k : Int) ≤ (s.size : Int) := by omega
          by_cases hf : f = 0
          · subst hf
            have hx := HR.out
            rw [spS_step s a 0 t v k n [] L hd hk ht hn] at hx
            have HX := Lib.hid hx
            clear hx hk hn HR
            have hT255 : (tgC []).length ≤ 1000000 := by rw [tgC_len]; omega
            have hW255 : ws.length ≤ 1000000 := by omega
            have hL255 : (txC L).length ≤ 1000000 := by rw [txC_len]; omega
            have hroom : a + k + n ≤ s.size := by omega
            go_wp2_with (first | (go_at_call 10; refine (rktake_ret (lf s a) _ _ _ _ HK.out _ hm).mono ?_; rintro e w' ⟨rfl, rfl⟩) | (go_at_call 13; refine (rskip_ret (lf s (a + k)) _ _ _ HN.out _ (by omega) (by omega) (by omega)).mono ?_; rintro e w' ⟨rfl, rfl⟩) | (at_builtin; refine Lt.list rfl (.tmp 63) (.tmp 65) 31 rfl (w.heap.size + 2) 3 (.int .i64 0) 8 Try.underlying31 infoInt (by decide) rfl (.slice oT 0 cT) (tgC []) rfl ((HS.out.alloc _).tags) wr.heap.size (.int .i64 (t : Nat)) rfl (newcell _ _ _) rfl hT255 (by have h1 := HS.out.var.lt; simp; omega) ?_; intro vT2 w3 hT3 hg3 hG3; obtain ⟨g3, c3, n3, rfl, pc0, pf0, pc1, pf1, hS4⟩ := (HS.out.alloc _).tag hT3 hg3 hG3; have hz4 := hS4.var.lt; have HS4 := Lib.hid hS4; clear hS4 hT3 hg3 hG3) | (at_builtin; refine Lt.list rfl (.tmp 69) (.tmp 71) 31 rfl (w.heap.size + 2) 3 (.int .i64 0) 8 Try.underlying31 infoInt (by decide) rfl vW ws rfl ((HS4.out.alloc _).wires) w3.heap.size (.int .i64 (v : Nat)) rfl (newcell_at _ _ _ _ (by simp)) rfl hW255 (by simp; simp at hz4; omega) ?_; intro vW2 w5 hW5 hg5 hG5; obtain ⟨g5, c5, n5, rfl, qc1, qf1, qc2, qf2, hS6⟩ := (HS4.out.alloc _).wire hW5 hg5 hG5; have HS6 := Lib.hid hS6; clear hS6 hW5 hg5 hG5))
            generalize (w5.setCell ⟨w.heap.size + 1, 1, none⟩ (.slice (some ⟨g5, 0, none⟩) n5 c5)) = w6 at HS6 ⊢
            have rc2 := HS6.out.var.cell (i := 2) rfl
            have rf2 := HS6.out.var.frozen (i := 2) rfl
            have rc2b : (w6.alloc (.cells #[.string (s.extract (a + k) (a + k + n))] 9)).drew.cell? ⟨w.heap.size + 1, 2, none⟩ = some vL := (HS6.out.alloc _).drew.var.cell (i := 2) rfl
            have hroomI : (a : Int) + (k : Int) + (n : Int) ≤ (s.size : Int) := by omega
            have hw1 : IntKind.i64.wrap ((a : Int) + (k : Int)) = (a : Int) + (k : Int) := IntWalk.i64_in _ (by omega)
            have hw2 : IntKind.i64.wrap ((a : Int) + (k : Int) + (n : Int)) = (a : Int) + (k : Int) + (n : Int) := IntWalk.i64_in _ (by omega)
            have hb1 : (0 : Int) ≤ (a : Int) + (k : Int) := by omega
            have hb2 : (a : Int) + (k : Int) ≤ (a : Int) + (k : Int) + (n : Int) := by omega
            have ht1 : ((a : Int) + (k : Int)).toNat = a + k := by omega
            have ht2 : ((a : Int) + (k : Int) + (n : Int)).toNat = a + k + n := by omega
            go_region_law (refine Lt.step rfl (.tmp 75) (.tmp 86) 32 rfl (w.heap.size + 2) 9 (.string ByteArray.empty) 16 Try.underlying32 infoStr (by decide) rfl vL (txC L) rfl ((HS6.out.alloc _).drew.texts) w6.heap.size (.string (s.extract (a + k) (a + k + n))) rfl (newcell _ _ _) rfl hL255 (by have h1 := HS6.out.var.lt; simp; omega) ?_; intro vL2 w7 hL7 hg7 hG7; obtain ⟨g7, c7, n7, rfl, sc2, sf2, hS8⟩ := (HS6.out.alloc _).drew.text hL7 hg7 hG7)
            all_goals
              go_wp2
              go_roundw
              case rel => exact ⟨a + k + n, t, [] ++ [t], L ++ [s.extract (a + k) (a + k + n)], ws ++ [.int .i64 (v : Nat)], _, _, _, by go_num, hroom, g4, by simp; omega, by simp [hTL], by simp [hTW], fun h => by simp at h, fun j h => by simp at h; subst h; simp, HX.out, by rw [tgC_app, txC_app]; exact hS8⟩
              case measure => simp [intOf]; omega
          · have hfb : ((f : Int) != 0) = true := by simpa using hf
            have hx := HR.out
            rw [spS_skip s a 0 t v k n f [] L hd hk ht hn hf] at hx
            simp only [Prod.mk.injEq] at hx
            obtain ⟨rfl, rfl, rfl⟩ := hx
            clear hk hn
            go_wp2_with (first | (go_at_call 10; refine (rktake_ret (lf s a) _ _ _ _ HK.out _ hm).mono ?_; rintro e w' ⟨rfl, rfl⟩) | (go_at_call 13; refine (rskip_ret (lf s (a + k)) _ _ _ HN.out _ (by omega) (by omega) (by omega)).mono ?_; rintro e w' ⟨rfl, rfl⟩))
            have hC5 := ((HS.out.res.put (i := 0) (.slice none 0 0)).put (i := 1) (.slice none 0 0)).put (i := 2) (.slice none 0 0)
            have hB5 := ((HS.out.bel.setCell (p := ⟨w.heap.size, 0, none⟩) (Nat.le_refl _) (.slice none 0 0)).setCell (p := ⟨w.heap.size, 1, none⟩) (Nat.le_refl _) (.slice none 0 0)).setCell (p := ⟨w.heap.size, 2, none⟩) (Nat.le_refl _) (.slice none 0 0)
            generalize (((wr.setCell ⟨w.heap.size, 0, none⟩ (.slice none 0 0)).setCell ⟨w.heap.size, 1, none⟩ (.slice none 0 0)).setCell ⟨w.heap.size, 2, none⟩ (.slice none 0 0)) = w5 at hC5 hB5 ⊢
            have d0 := hC5.cell (i := 0) rfl
            have d1 := hC5.cell (i := 1) rfl
            have d2 := hC5.cell (i := 2) rfl
            refine bodyPost_ret (by simp [results, Try.results15, go_sem, d0, d1, d2]; try rfl) rfl ?_
            exact ⟨_, _, _, rfl, Lt.nil _ _ _, ⟨_, Lt.nil _ _ _⟩, Lt.nil _ _ _, hB5⟩
        · obtain ⟨j, hj⟩ : ∃ j, T.length = j + 1 := ⟨T.length - 1, by have := List.length_pos_iff.2 hTn; omega⟩
          have hlast := hTl j hj
          obtain ⟨g, cT, eT, hg, hcT⟩ := HS.out.tags.form1 (by simpa [tgC] using hTn)
          have cl : wr.cell? ⟨g, j, none⟩ = some (.int .i64 (last : Nat)) := hcT j _ (by simp [tgC, hlast])
          rw [tgC_len, hj] at eT
          subst eT
          clear hcT
          by_cases ht : t ≤ last
          · have ht' : (t : Int) ≤ (last : Int) := by omega
            have hx := HR.out
            rw [spS_tag s a last t v k T L hd hk ht] at hx
            simp only [Prod.mk.injEq] at hx
            obtain ⟨rfl, rfl, rfl⟩ := hx
            clear hk
            go_wp2_with (go_at_call 10; refine (rktake_ret (lf s a) _ _ _ _ HK.out _ hm).mono ?_; rintro e w' ⟨rfl, rfl⟩)
            have hC5 := ((HS.out.res.put (i := 0) (.slice none 0 0)).put (i := 1) (.slice none 0 0)).put (i := 2) (.slice none 0 0)
            have hB5 := ((HS.out.bel.setCell (p := ⟨w.heap.size, 0, none⟩) (Nat.le_refl _) (.slice none 0 0)).setCell (p := ⟨w.heap.size, 1, none⟩) (Nat.le_refl _) (.slice none 0 0)).setCell (p := ⟨w.heap.size, 2, none⟩) (Nat.le_refl _) (.slice none 0 0)
            generalize (((wr.setCell ⟨w.heap.size, 0, none⟩ (.slice none 0 0)).setCell ⟨w.heap.size, 1, none⟩ (.slice none 0 0)).setCell ⟨w.heap.size, 2, none⟩ (.slice none 0 0)) = w5 at hC5 hB5 ⊢
            have d0 := hC5.cell (i := 0) rfl
            have d1 := hC5.cell (i := 1) rfl
            have d2 := hC5.cell (i := 2) rfl
            refine bodyPost_ret (by simp [results, Try.results15, go_sem, d0, d1, d2]; try rfl) rfl ?_
            exact ⟨_, _, _, rfl, Lt.nil _ _ _, ⟨_, Lt.nil _ _ _⟩, Lt.nil _ _ _, hB5⟩
          · have ht' : ¬ (t : Int) ≤ (last : Int) := by omega
            have hls2 := lf_size s (a + k)
            obtain ⟨n, f, hn⟩ : ∃ n f, skS (lf s (a + k)) v = (n, f) := ⟨_, _, rfl⟩
            have HN := Lib.hid hn
            have hnr := skS_room _ _ _ _ hn
            have hakI : (a : Int) + (k : Int) ≤ (s.size : Int) := by omega
            by_cases hf : f = 0
            · subst hf
              have hx := HR.out
              rw [spS_step s a last t v k n T L hd hk ht hn] at hx
              have HX := Lib.hid hx
              clear hx hk hn HR
              have hT255 : (tgC T).length ≤ 1000000 := by rw [tgC_len]; omega
              have hW255 : ws.length ≤ 1000000 := by omega
              have hL255 : (txC L).length ≤ 1000000 := by rw [txC_len]; omega
              have hroom : a + k + n ≤ s.size := by omega
              go_wp2_with (first | (go_at_call 10; refine (rktake_ret (lf s a) _ _ _ _ HK.out _ hm).mono ?_; rintro e w' ⟨rfl, rfl⟩) | (go_at_call 13; refine (rskip_ret (lf s (a + k)) _ _ _ HN.out _ (by omega) (by omega) (by omega)).mono ?_; rintro e w' ⟨rfl, rfl⟩) | (at_builtin; refine Lt.list rfl (.tmp 63) (.tmp 65) 31 rfl (w.heap.size + 2) 3 (.int .i64 0) 8 Try.underlying31 infoInt (by decide) rfl (.slice (some ⟨g, 0, none⟩) (j + 1) cT) (tgC T) rfl ((HS.out.alloc _).tags) wr.heap.size (.int .i64 (t : Nat)) rfl (newcell _ _ _) rfl hT255 (by have h1 := HS.out.var.lt; simp; omega) ?_; intro vT2 w3 hT3 hg3 hG3; obtain ⟨g3, c3, n3, rfl, pc0, pf0, pc1, pf1, hS4⟩ := (HS.out.alloc _).tag hT3 hg3 hG3; have hz4 := hS4.var.lt; have HS4 := Lib.hid hS4; clear hS4 hT3 hg3 hG3) | (at_builtin; refine Lt.list rfl (.tmp 69) (.tmp 71) 31 rfl (w.heap.size + 2) 3 (.int .i64 0) 8 Try.underlying31 infoInt (by decide) rfl vW ws rfl ((HS4.out.alloc _).wires) w3.heap.size (.int .i64 (v : Nat)) rfl (newcell_at _ _ _ _ (by simp)) rfl hW255 (by simp; simp at hz4; omega) ?_; intro vW2 w5 hW5 hg5 hG5; obtain ⟨g5, c5, n5, rfl, qc1, qf1, qc2, qf2, hS6⟩ := (HS4.out.alloc _).wire hW5 hg5 hG5; have HS6 := Lib.hid hS6; clear hS6 hW5 hg5 hG5))
              generalize (w5.setCell ⟨w.heap.size + 1, 1, none⟩ (.slice (some ⟨g5, 0, none⟩) n5 c5)) = w6 at HS6 ⊢
              have rc2 := HS6.out.var.cell (i := 2) rfl
              have rf2 := HS6.out.var.frozen (i := 2) rfl
              have rc2b : (w6.alloc (.cells #[.string (s.extract (a + k) (a + k + n))] 9)).drew.cell? ⟨w.heap.size + 1, 2, none⟩ = some vL := (HS6.out.alloc _).drew.var.cell (i := 2) rfl
              have hroomI : (a : Int) + (k : Int) + (n : Int) ≤ (s.size : Int) := by omega
              have hw1 : IntKind.i64.wrap ((a : Int) + (k : Int)) = (a : Int) + (k : Int) := IntWalk.i64_in _ (by omega)
              have hw2 : IntKind.i64.wrap ((a : Int) + (k : Int) + (n : Int)) = (a : Int) + (k : Int) + (n : Int) := IntWalk.i64_in _ (by omega)
              have hb1 : (0 : Int) ≤ (a : Int) + (k : Int) := by omega
              have hb2 : (a : Int) + (k : Int) ≤ (a : Int) + (k : Int) + (n : Int) := by omega
              have ht1 : ((a : Int) + (k : Int)).toNat = a + k := by omega
              have ht2 : ((a : Int) + (k : Int) + (n : Int)).toNat = a + k + n := by omega
              go_region_law (refine Lt.step rfl (.tmp 75) (.tmp 86) 32 rfl (w.heap.size + 2) 9 (.string ByteArray.empty) 16 Try.underlying32 infoStr (by decide) rfl vL (txC L) rfl ((HS6.out.alloc _).drew.texts) w6.heap.size (.string (s.extract (a + k) (a + k + n))) rfl (newcell _ _ _) rfl hL255 (by have h1 := HS6.out.var.lt; simp; omega) ?_; intro vL2 w7 hL7 hg7 hG7; obtain ⟨g7, c7, n7, rfl, sc2, sf2, hS8⟩ := (HS6.out.alloc _).drew.text hL7 hg7 hG7)
              all_goals
                go_wp2
                go_roundw
                case rel => exact ⟨a + k + n, t, T ++ [t], L ++ [s.extract (a + k) (a + k + n)], ws ++ [.int .i64 (v : Nat)], _, _, _, by go_num, hroom, g4, by simp; omega, by simp [hTL], by simp [hTW], fun h => by simp at h, fun j h => by simp at h; subst h; simp, HX.out, by rw [tgC_app, txC_app]; exact hS8⟩
                case measure => simp [intOf]; omega
            · have hfb : ((f : Int) != 0) = true := by simpa using hf
              have hx := HR.out
              rw [spS_skip s a last t v k n f T L hd hk ht hn hf] at hx
              simp only [Prod.mk.injEq] at hx
              obtain ⟨rfl, rfl, rfl⟩ := hx
              clear hk hn
              go_wp2_with (first | (go_at_call 10; refine (rktake_ret (lf s a) _ _ _ _ HK.out _ hm).mono ?_; rintro e w' ⟨rfl, rfl⟩) | (go_at_call 13; refine (rskip_ret (lf s (a + k)) _ _ _ HN.out _ (by omega) (by omega) (by omega)).mono ?_; rintro e w' ⟨rfl, rfl⟩))
              have hC5 := ((HS.out.res.put (i := 0) (.slice none 0 0)).put (i := 1) (.slice none 0 0)).put (i := 2) (.slice none 0 0)
              have hB5 := ((HS.out.bel.setCell (p := ⟨w.heap.size, 0, none⟩) (Nat.le_refl _) (.slice none 0 0)).setCell (p := ⟨w.heap.size, 1, none⟩) (Nat.le_refl _) (.slice none 0 0)).setCell (p := ⟨w.heap.size, 2, none⟩) (Nat.le_refl _) (.slice none 0 0)
              generalize (((wr.setCell ⟨w.heap.size, 0, none⟩ (.slice none 0 0)).setCell ⟨w.heap.size, 1, none⟩ (.slice none 0 0)).setCell ⟨w.heap.size, 2, none⟩ (.slice none 0 0)) = w5 at hC5 hB5 ⊢
              have d0 := hC5.cell (i := 0) rfl
              have d1 := hC5.cell (i := 1) rfl
              have d2 := hC5.cell (i := 2) rfl
              refine bodyPost_ret (by simp [results, Try.results15, go_sem, d0, d1, d2]; try rfl) rfl ?_
              exact ⟨_, _, _, rfl, Lt.nil _ _ _, ⟨_, Lt.nil _ _ _⟩, Lt.nil _ _ _, hB5⟩
      · have heb : ((e : Int) != 0) = true := by simpa using he
        have heb0 : ((e : Int) == 0) = false := by simpa using he
        have hx := HR.out
        rw [spS_key s a last t v k e T L hd hk he] at hx
        simp only [Prod.mk.injEq] at hx
        obtain ⟨rfl, rfl, rfl⟩ := hx
        clear hk
        go_wp2_with (go_at_call 10; refine (rktake_ret (lf s a) _ _ _ _ HK.out _ hm).mono ?_; rintro e w' ⟨rfl, rfl⟩)
        have hC5 := ((HS.out.res.put (i := 0) (.slice none 0 0)).put (i := 1) (.slice none 0 0)).put (i := 2) (.slice none 0 0)
        have hB5 := ((HS.out.bel.setCell (p := ⟨w.heap.size, 0, none⟩) (Nat.le_refl _) (.slice none 0 0)).setCell (p := ⟨w.heap.size, 1, none⟩) (Nat.le_refl _) (.slice none 0 0)).setCell (p := ⟨w.heap.size, 2, none⟩) (Nat.le_refl _) (.slice none 0 0)
        generalize (((wr.setCell ⟨w.heap.size, 0, none⟩ (.slice none 0 0)).setCell ⟨w.heap.size, 1, none⟩ (.slice none 0 0)).setCell ⟨w.heap.size, 2, none⟩ (.slice none 0 0)) = w5 at hC5 hB5 ⊢
        have d0 := hC5.cell (i := 0) rfl
        have d1 := hC5.cell (i := 1) rfl
        have d2 := hC5.cell (i := 2) rfl
        refine bodyPost_ret (by simp [results, Try.results15, go_sem, d0, d1, d2]; try rfl) rfl ?_
        exact ⟨_, _, _, rfl, Lt.nil _ _ _, ⟨_, Lt.nil _ _ _⟩, Lt.nil _ _ _, hB5⟩
end Go.Proofs.Ytkbblmjldfinoaa.Vm
