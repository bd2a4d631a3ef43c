/- Feeds: the chapter's example, and the walk of FeedNone. -/
import Derived.Test.YthfogiogjmgodaaFdEx
import Derived.Deep.RegionWith
namespace Go.Proofs.Ythfogiogjmgodaa.Fd
open Go.RowKit Fr Cm
set_option linter.unusedVariables false
set_option linter.unusedSimpArgs false

set_option maxRecDepth 100000 in
set_option maxHeartbeats 1000000 in
theorem awake_any (w : World) :
    Calls Try.prog 7 #[] w fun e w' => e = .returned (.bool true) ∧ Below w.heap.size w w' := by
  have tok : True := trivial
  have hB0 := (Below.refl w.heap.size w).alloc (Nat.le_refl _) (.cells #[.string ⟨#[]⟩, .int .i64 0] 36)
  have hF0 := fs_new w
  go_enter Try.func7, Try.ntmps7
  go_wp2_with (first
    | (go_at_call 8; refine (new_any _).mono ?_; rintro e w0 ⟨rfl, rfl⟩)
    | (go_at_call 9; have _t := tok2; clear _t tok2; refine (push_any _ _ _ _ _ hF1 (by decide) (by decide) _ _ _ ps_b).mono ?_; rintro e w2 ⟨v2, rfl, hR2, hF2, hO2⟩; obtain ⟨g2, cap2, e2, _, _, hc2⟩ := hR2.form1 (by decide); have d0 := hc2 0 _ rfl; have e2' : v2 = .slice (some ⟨g2, 0, none⟩) 1 cap2 := e2; clear e2 hc2; subst e2'; have hB2 := hB1.trans (hO2.below (n := w.heap.size) (Nat.le_refl _) hB1.size))
    | (go_at_call 9; have _t := tok; clear _t tok; refine (push_any _ _ _ _ _ hF0 (by decide) (by decide) _ _ _ ps_a).mono ?_; rintro e w1 ⟨v1, rfl, hR1, hF1, hO1⟩; obtain ⟨o1, cap1, e1, _⟩ := hR1.form; have e1' : v1 = .slice o1 0 cap1 := e1; clear e1; subst e1'; have tok2 : True := trivial; have hB1 := hB0.trans (hO1.below (n := w.heap.size) (Nat.le_refl _) hB0.size))
    | (go_at_call 12; refine (waits_ret _ _ _ _ hF2 (by decide) 1 rfl).mono ?_; rintro e w3 ⟨rfl, rfl⟩))
  go_ret
  exact ⟨rfl, hB2⟩

set_option maxRecDepth 100000 in
set_option maxHeartbeats 1000000 in
theorem none_walk (b : ByteArray) (hb : b.size ≤ 140737488355327) (w : World) :
    Calls Try.prog 5 #[.string b] w fun e w' => e = .returned (.bool true) ∧ Below w.heap.size w w' := by
  have tok : True := trivial
  have hB0 := (Below.refl w.heap.size w).alloc (Nat.le_refl _) (.cells #[.string ⟨#[]⟩, .int .i64 0] 36)
  have hF0 := fs_new w
  go_enter Try.func5, Try.ntmps5
  go_wp2_with (first
    | (go_at_call 8; refine (new_any _).mono ?_; rintro e w0 ⟨rfl, rfl⟩)
    | (go_at_call 9; have _t := tok; clear _t tok; refine (push_any _ _ _ _ _ hF0 (by decide) (by decide) _ _ _ ps_c).mono ?_; rintro e w1 ⟨v1, rfl, hR1, hF1, hO1⟩; have hB1 := hB0.trans (hO1.below (n := w.heap.size) (Nat.le_refl _) hB0.size))
    | (go_at_call_of 9 (Value.pointer none); refine (push_nil _ _).mono ?_; rintro e w2 ⟨rfl, rfl⟩)
    | (go_at_call_of 12 (Value.pointer none); refine (waits_nil _).mono ?_; rintro e w2 ⟨rfl, rfl⟩)
    | (go_at_call_of 13 (Value.pointer none); refine (broken_nil _).mono ?_; rintro e w2 ⟨rfl, rfl⟩)
    | (go_at_call_of 9 (Value.pointer (some ⟨w.heap.size, 0, none⟩)); refine (push_broken _ _ _ _ _ hF1 (by decide)).mono ?_; rintro e w2 ⟨rfl, rfl⟩)
    | (go_at_call_of 12 (Value.pointer (some ⟨w.heap.size, 0, none⟩)); refine (waits_ret _ _ _ _ hF1 (by decide) 0 rfl).mono ?_; rintro e w2 ⟨rfl, rfl⟩)
    | (go_at_call_of 13 (Value.pointer (some ⟨w.heap.size, 0, none⟩)); refine (broken_ret _ _ _ _ hF1 4 rfl).mono ?_; rintro e w2 ⟨rfl, rfl⟩)
    | (go_at_call 7; refine (awake_any _).mono ?_; rintro e w4 ⟨rfl, hb4⟩; have hB4 := hB1.trans (hb4.mono hB1.size)))
  go_ret
  exact ⟨rfl, hB4⟩
end Go.Proofs.Ythfogiogjmgodaa.Fd
