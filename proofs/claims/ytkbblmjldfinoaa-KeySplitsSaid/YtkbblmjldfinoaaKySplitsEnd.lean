/- The law KeySplits' walk. -/
import Derived.Test.YtkbblmjldfinoaaKySplit
import Derived.Test.YtkbblmjldfinoaaKyRSplit
import Derived.Test.YtkbblmjldfinoaaKyLists
import Derived.OpenShut
namespace Go.Proofs.Ytkbblmjldfinoaa.Vm
open Go.RowKit
set_option linter.unusedVariables false
set_option linter.unusedSimpArgs false

set_option maxRecDepth 100000 in
set_option maxHeartbeats 4000000 in
theorem ksplits_walk (s : ByteArray) (v : Int) (w : World) (hs : s.size ≤ 140737488355328) (h3 : -9223372036854775808 ≤ v) (h4 : v ≤ 9223372036854775807) :
    Calls Try.prog 4 #[.string s, .int .i64 v] w fun e w' => e = .returned (.bool true) ∧ Below w.heap.size w w' := by
  obtain ⟨n, f, hn⟩ : ∃ n f, skS s v = (n, f) := ⟨_, _, rfl⟩
  obtain ⟨T, L, e, hr⟩ : ∃ T L e, spS s 0 0 [] [] = (T, L, e) := ⟨_, _, _, rfl⟩
  have HN := Lib.hid hn
  have HR := Lib.hid hr
  clear hn hr
  go_enter Try.func4, Try.ntmps4
  go_wp2_with (first
    | (go_at_call 12; refine (skip_ret s v _ _ HN.out _ (by omega) h3 h4).mono ?_; rintro e w1 ⟨rfl, hb1⟩)
    | (go_at_call 13; refine (rskip_ret s v _ _ HN.out _ (by omega) h3 h4).mono ?_; rintro e w' ⟨rfl, rfl⟩)
    | (go_at_call 14; refine (ksplit_any s _ hs _ _ _ HR.out).mono ?_; rintro e w2 ⟨vT, vL, rfl, hT2, hL2, hb2⟩)
    | (go_at_call 15; refine (rsplit_any s _ hs _ _ _ HR.out).mono ?_; rintro e w3 ⟨uT, uW, uL, rfl, kT3, ⟨ws, kW3⟩, kL3, hb3⟩; have hT3 := hT2.below hb3; have hL3 := hL2.below hb3; obtain ⟨oT, cT, eT, _⟩ := kT3.form; obtain ⟨oW, cW, eW, _⟩ := kW3.form; obtain ⟨oL, cL, eL, _⟩ := kL3.form; subst eT eW eL)
    | (go_at_call 16; refine (rints_own _ _ _ _ T _ (hT3.alloc _) (kT3.alloc _)).mono ?_; rintro e w4 ⟨rfl, hb4⟩; have hC4 := (Cs.new w3 [.slice oT (tgC T).length cT, .slice oW ws.length cW, .slice oL (txC L).length cL] 36).below hb4 (by simp); have d2 := hC4.cell (i := 2) rfl; have hL4 := (hL3.alloc _).below hb4; have kL4 := (kL3.alloc _).below hb4)
    | (go_at_call 17; refine (rtexts_own _ _ _ _ L _ hL4 kL4).mono ?_; rintro e w5 ⟨rfl, hb5⟩)
    | (go_at_call 11; refine (awake_any _).mono ?_; rintro e w6 ⟨rfl, hb6⟩))
  go_ret
  have c2 := hb1.trans (hb2.mono hb1.size)
  have c3 := (c2.trans (hb3.mono c2.size))
  have c4 := (c3.alloc c3.size (.cells #[.slice oT (tgC T).length cT, .slice oW ws.length cW, .slice oL (txC L).length cL] 36))
  have c5 := c4.trans (hb4.mono c4.size)
  have c6 := c5.trans (hb5.mono c5.size)
  exact ⟨rfl, c6.trans (hb6.mono c6.size)⟩
theorem ksplits_end (s : ByteArray) (v : Int) (hs : s.size ≤ 140737488355327) (hv : (Lit.int .i64 v).wf = true) (w : World) :
    Calls Try.prog 4 #[.string s, .int .i64 v] w fun e w' => e = .returned (.bool true) ∧ Below w.heap.size w w' :=
  ksplits_walk s v w (by omega) (bounds_i64 hv).1 (bounds_i64 hv).2
end Go.Proofs.Ytkbblmjldfinoaa.Vm
