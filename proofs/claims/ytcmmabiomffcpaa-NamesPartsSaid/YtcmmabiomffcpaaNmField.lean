/- Names: the contracts of names.Field, of the reference's, and of what Field calls. -/
import Derived.Test.YtcmmabiomffcpaaNmLists
namespace Go.Proofs.Ytcmmabiomffcpaa.Nm
open Go.RowKit Cm
set_option linter.unusedVariables false
set_option linter.unusedSimpArgs false

set_option maxRecDepth 100000 in
set_option maxHeartbeats 1000000 in
theorem rfield_any (k p tag : Int) (s : ByteArray) (o1 o2 : Option Addr) (l1 c1 l2 c2 : Nat) (F : Fl) (w : World) (h : Fx o1 l1 F w) :
    Calls Try.prog 13 #[.agg #[.int .i64 k, .string s, .slice o1 l1 c1, .slice o2 l2 c2, .int .i64 p], .int .i64 tag] w fun e w' => e = .returned (.int .i64 (rnS F.T tag l1)) ∧ Below w.heap.size w w' := by
  have hlen := h.2
  have HX := Lib.hid (h.below ((Below.refl w.heap.size w).alloc (Nat.le_refl _) (.cells #[.int .i64 k, .string s, .slice o1 l1 c1, .slice o2 l2 c2, .int .i64 p] 37)) (Nat.le_refl _))
  have HB := Lib.hid ((Below.refl w.heap.size w).alloc (Nat.le_refl _) (.cells #[.int .i64 k, .string s, .slice o1 l1 c1, .slice o2 l2 c2, .int .i64 p] 37))
  have hc := (Cs.new w [.int .i64 k, .string s, .slice o1 l1 c1, .slice o2 l2 c2, .int .i64 p] 37).cell (i := 2) rfl
  obtain ⟨W1, hW1⟩ : ∃ W1, W1 = w.alloc (.cells #[.int .i64 k, .string s, .slice o1 l1 c1, .slice o2 l2 c2, .int .i64 p] 37) := ⟨_, rfl⟩
  rw [show ([Value.int .i64 k, .string s, .slice o1 l1 c1, .slice o2 l2 c2, .int .i64 p].toArray) = #[.int .i64 k, .string s, .slice o1 l1 c1, .slice o2 l2 c2, .int .i64 p] from rfl, ← hW1] at hc
  rw [← hW1] at HX HB
  clear h
  go_enter Try.func13, Try.ntmps13
  go_wp2
  rw [← hW1]
  clear hW1
  go_loopw [5] (fun i wr => ∃ j, j ≤ l1 ∧ i = .int .i64 (j : Nat) ∧ Hid (niS F.T tag j = none) ∧ wr = W1) (fun i _ => l1 - (intOf i).toNat)
  case atStart => exact ⟨0, by omega, rfl, rfl, rfl⟩
  case round =>
    obtain ⟨j, hj, rfl, HF, rfl⟩ := hrel
    by_cases hjl : j < l1
    · have hji : (j : Int) < (l1 : Int) := by omega
      obtain ⟨a, Ab, Ao, As, rfl, hA, hAb, c0, c1', c2', c3, c4⟩ := Fx.place HX.out hjl
      by_cases he : F.T j = tag
      · have hfs := Lib.hid (rnS_some (niS_le hjl (niS_next_hit HF.out he)))
        subst he
        go_wp2
        go_ret
        exact ⟨by rw [hfs.out]; rfl, HB.out⟩
      · have hq : (F.T j == tag) = false := by simpa using he
        have hfs := Lib.hid (niS_next_miss HF.out he)
        clear he
        go_wp2
        go_roundw
        case rel => exact ⟨j + 1, by omega, by go_num, hfs, by first | rfl | trivial⟩
        case measure => simp [intOf]; omega
    · have hji : ¬ (j : Int) < (l1 : Int) := by omega
      obtain rfl : j = l1 := by omega
      have hfs := Lib.hid (rnS_none HF.out)
      go_wp2
      go_ret
      exact ⟨by rw [hfs.out]; rfl, HB.out⟩

/-- The closure: is it that tag? -/
theorem tagis_any (g : Nat) (k k2 tag : Int) (s1 s2 : ByteArray) (o : Option Addr) (l c : Nat) (w : World) (hg : w.cell? ⟨g, 0, none⟩ = some (.int .i64 tag)) :
    Calls Try.prog 21 #[.agg #[.int .i64 k, .string s1, .int .i64 k2, .string s2, .slice o l c], .pointer (some ⟨g, 0, none⟩)] w fun e w' => e = .returned (.bool (k == tag)) ∧ Below w.heap.size w w' := by
  have hlt := World.block_lt_of_cell? w _ hg
  have hB := (Below.refl w.heap.size w).alloc (Nat.le_refl _) (.cells #[.int .i64 k, .string s1, .int .i64 k2, .string s2, .slice o l c] 59)
  have hg2 := (hB.cell (p := ⟨g, 0, none⟩) hlt).trans hg
  go_enter Try.func21, Try.ntmps21
  go_wp2
  go_ret
  exact ⟨rfl, hB⟩
set_option maxRecDepth 100000 in
set_option maxHeartbeats 1000000 in
theorem ixf_any (g : Nat) (tag : Int) (o : Option Addr) (len cap : Nat) (F : Fl) (w : World) (h : Fx o len F w) (hg : w.cell? ⟨g, 0, none⟩ = some (.int .i64 tag)) :
    Calls Try.prog 20 #[.slice o len cap, .func (.func 21) #[] #[.pointer (some ⟨g, 0, none⟩)]] w fun e w' => e = .returned (.int .i64 (rnS F.T tag len)) ∧ Below w.heap.size w w' := by
  have hlen := h.2
  have hlt := World.block_lt_of_cell? w _ hg
  have HX := Lib.hid h
  have HG := Lib.hid hg
  clear h hg
  go_enter Try.func20, Try.ntmps20
  go_wp2
  go_loopw [8] (fun i wr => ∃ j, j ≤ len ∧ i = .int .i64 (j : Nat) ∧ Hid (niS F.T tag j = none) ∧ Hid (Below w.heap.size w wr)) (fun i _ => len - (intOf i).toNat)
  case atStart => exact ⟨0, by omega, rfl, rfl, Below.refl _ _⟩
  case round =>
    obtain ⟨j, hj, rfl, HF, HB⟩ := hrel
    by_cases hjl : j < len
    · have hji : (j : Int) < (len : Int) := by omega
      have hsz := HB.out.size
      obtain ⟨a, Ab, Ao, As, rfl, hA, hAb, c0, c1, c2, c3, c4⟩ := Fx.place (HX.out.below HB.out (Nat.le_refl _)) hjl
      by_cases he : F.T j = tag
      · have hfs := Lib.hid (rnS_some (niS_le hjl (niS_next_hit HF.out he)))
        subst he
        go_wp2_with (go_at_call 21; refine (tagis_any g _ _ (F.T j) _ _ _ _ _ _ ((HB.out.cell (p := ⟨g, 0, none⟩) hlt).trans HG.out)).mono ?_; rintro e w2 ⟨rfl, hb2⟩)
        go_ret
        exact ⟨by rw [hfs.out]; rfl, HB.out.trans (hb2.mono hsz)⟩
      · have hq : (F.T j == tag) = false := by simpa using he
        have hfs := Lib.hid (niS_next_miss HF.out he)
        clear he
        go_wp2_with (go_at_call 21; refine (tagis_any g _ _ tag _ _ _ _ _ _ ((HB.out.cell (p := ⟨g, 0, none⟩) hlt).trans HG.out)).mono ?_; rw [hq]; rintro e w2 ⟨rfl, hb2⟩)
        go_roundw
        case rel => exact ⟨j + 1, by omega, by go_num, hfs, HB.out.trans (hb2.mono hsz)⟩
        case measure => simp [intOf]; omega
    · have hji : ¬ (j : Int) < (len : Int) := by omega
      obtain rfl : j = len := by omega
      have hfs := Lib.hid (rnS_none HF.out)
      go_wp2
      go_ret
      exact ⟨by rw [hfs.out]; rfl, HB.out⟩

/-- The place, and whether there is one. -/
def fpS (T : Nat → Int) (tag : Int) (n : Nat) : Int := match niS T tag n with | some i => (i : Int) | none => 0
def fbS (T : Nat → Int) (tag : Int) (n : Nat) : Bool := (niS T tag n).isSome
set_option maxRecDepth 100000 in
set_option maxHeartbeats 1000000 in
theorem field_any (k p tag : Int) (s : ByteArray) (o1 o2 : Option Addr) (l1 c1 l2 c2 : Nat) (F : Fl) (w : World) (h : Fx o1 l1 F w) :
    Calls Try.prog 12 #[.agg #[.int .i64 k, .string s, .slice o1 l1 c1, .slice o2 l2 c2, .int .i64 p], .int .i64 tag] w fun e w' => e = .returned (.tuple #[.int .i64 (fpS F.T tag l1), .bool (fbS F.T tag l1)]) ∧ Below w.heap.size w w' := by
  have hmf : ∀ (fn : Fn) (first cap : Array Value) (w : World), (Instr.makeFunc fn first cap).run Try.prog w = .ok (.func fn first cap) w := fun _ _ _ _ => rfl
  have hB := ((Below.refl w.heap.size w).alloc (Nat.le_refl _) (.cells #[.int .i64 k, .string s, .slice o1 l1 c1, .slice o2 l2 c2, .int .i64 p] 37)).alloc (by simp) (.cells #[.int .i64 tag] 3)
  have HX := Lib.hid (h.below hB (Nat.le_refl _))
  have HC := Lib.hid ((Cs.new (w.alloc (.cells #[.int .i64 k, .string s, .slice o1 l1 c1, .slice o2 l2 c2, .int .i64 p] 37)) [.int .i64 tag] 3).cell (i := 0) rfl)
  have HB := Lib.hid hB
  clear h hB
  cases hf : niS F.T tag l1 with
  | none =>
    have hr := rnS_none hf
    have e1 : fpS F.T tag l1 = 0 := by unfold fpS; rw [hf]
    have e2 : fbS F.T tag l1 = false := by unfold fbS; rw [hf]; rfl
    rw [e1, e2]
    clear hf e1 e2
    go_enter Try.func12, Try.ntmps12
    go_wp2_with (go_at_call 20; refine (ixf_any (w.heap.size + 1) tag o1 l1 c1 F _ HX.out (by simp)).mono ?_; rw [hr]; rintro e w2 ⟨rfl, hb2⟩)
    go_ret2
    exact ⟨rfl, HB.out.trans (hb2.mono HB.out.size)⟩
  | some i =>
    have hr := rnS_some hf
    have e1 : fpS F.T tag l1 = i := by unfold fpS; rw [hf]
    have e2 : fbS F.T tag l1 = true := by unfold fbS; rw [hf]; rfl
    rw [e1, e2]
    clear hf e1 e2
    go_enter Try.func12, Try.ntmps12
    go_wp2_with (go_at_call 20; refine (ixf_any (w.heap.size + 1) tag o1 l1 c1 F _ HX.out (by simp)).mono ?_; rw [hr]; rintro e w2 ⟨rfl, hb2⟩)
    go_ret2
    exact ⟨rfl, HB.out.trans (hb2.mono HB.out.size)⟩
end Go.Proofs.Ytcmmabiomffcpaa.Nm
