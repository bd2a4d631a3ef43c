/- Feeds: the contracts of feed.New, Waits, Broken and end over the program. -/
import Derived.Test.YthfogiogjmgodaaFdMath
import Derived.Test.YthfogiogjmgodaaCmR
namespace Go.Proofs.Ythfogiogjmgodaa.Fd
open Go.RowKit Fr Cm
set_option linter.unusedVariables false
set_option linter.unusedSimpArgs false

/-- A feed's cells: what waits, what broke it. -/
def Fs (B : Nat) (r : ByteArray) (bad : Nat) (w : World) : Prop := Cs B [.string r, .int .i64 (bad : Nat)] w

theorem new_any (w : World) :
    Calls Try.prog 8 #[] w fun e w' => e = .returned (.pointer (some ⟨w.heap.size, 0, none⟩)) ∧ w.alloc (.cells #[.string ⟨#[]⟩, .int .i64 0] 36) = w' := by
  go_enter Try.func8, Try.ntmps8
  go_wp2
  go_ret
  exact ⟨rfl, rfl⟩
theorem fs_new (w : World) : Fs w.heap.size ⟨#[]⟩ 0 (w.alloc (.cells #[.string ⟨#[]⟩, .int .i64 0] 36)) := Cs.new w [.string ⟨#[]⟩, .int .i64 0] 36
theorem waits_any (B : Nat) (r : ByteArray) (bad : Nat) (w : World) (h : Fs B r bad w) (hr : r.size ≤ maxLen) :
    Calls Try.prog 12 #[.pointer (some ⟨B, 0, none⟩)] w fun e w' => e = .returned (.int .i64 r.size) ∧ w = w' := by
  unfold maxLen at hr
  obtain ⟨⟨c0, c1⟩, ⟨f0, f1⟩⟩ := h.two
  go_enter Try.func12, Try.ntmps12
  go_wp2
  go_ret
  exact ⟨rfl, rfl⟩
theorem broken_any (B : Nat) (r : ByteArray) (bad : Nat) (w : World) (h : Fs B r bad w) :
    Calls Try.prog 13 #[.pointer (some ⟨B, 0, none⟩)] w fun e w' => e = .returned (.int .i64 bad) ∧ w = w' := by
  obtain ⟨⟨c0, c1⟩, ⟨f0, f1⟩⟩ := h.two
  go_enter Try.func13, Try.ntmps13
  go_wp2
  go_ret
  exact ⟨rfl, rfl⟩
theorem waits_nil (w : World) :
    Calls Try.prog 12 #[.pointer none] w fun e w' => e = .returned (.int .i64 0) ∧ w = w' := by
  go_enter Try.func12, Try.ntmps12
  go_wp2
  go_ret
  exact ⟨rfl, rfl⟩
theorem broken_nil (w : World) :
    Calls Try.prog 13 #[.pointer none] w fun e w' => e = .returned (.int .i64 0) ∧ w = w' := by
  go_enter Try.func13, Try.ntmps13
  go_wp2
  go_ret
  exact ⟨rfl, rfl⟩
theorem end_short (B : Nat) (r l : ByteArray) (bad : Nat) (w : World) (h : Fs B r bad w) (hl : l.size ≤ 281474976710656) :
    Calls Try.prog 15 #[.pointer (some ⟨B, 0, none⟩), .string l, .int .i64 2] w fun e w' => e = .returned (.tuple #[]) ∧ Fs B l bad w' ∧ Only B w w' := by
  have HF := Lib.hid h
  have hB := Below.refl w.heap.size w
  go_enter Try.func15, Try.ntmps15
  go_wp2_with (go_at_call 18; refine (clone_any _ _ hl).mono ?_; rintro e w3 ⟨rfl, hb2⟩; replace HF := Cs.below HF.out hb2 HF.out.lt; obtain ⟨⟨c0, c1⟩, ⟨f0, f1⟩⟩ := Cs.two HF)
  go_end0
  exact ⟨rfl, Cs.put (i := 0) HF (.string l), (Only.of hb2).setCell _⟩
theorem end_bad (B : Nat) (r l : ByteArray) (bad e : Nat) (w : World) (h : Fs B r bad w) (he : e ≠ 2) :
    Calls Try.prog 15 #[.pointer (some ⟨B, 0, none⟩), .string l, .int .i64 e] w fun x w' => x = .returned (.tuple #[]) ∧ Fs B ⟨#[]⟩ e w' ∧ Only B w w' := by
  have HF := Lib.hid h
  have he2 : ((e : Int) != 2) = true := by simpa using (by omega : ¬ (e : Int) = 2)
  obtain ⟨⟨c0, c1⟩, ⟨f0, f1⟩⟩ := h.two
  go_enter Try.func15, Try.ntmps15
  go_wp2
  go_returns
  exact ⟨rfl, (Cs.put (i := 0) HF.out (.string ⟨#[]⟩)).put (i := 1) (.int .i64 e), ((Only.refl B w).setCell _).setCell _⟩
end Go.Proofs.Ythfogiogjmgodaa.Fd
