/- Feeds: the chapter's example, as bytes. -/
import Derived.Test.YthfogiogjmgodaaFdPush
namespace Go.Proofs.Ythfogiogjmgodaa.Fd
open Go.RowKit Fr Cm
set_option linter.unusedVariables false
set_option linter.unusedSimpArgs false

theorem waits_ret (B : Nat) (r : ByteArray) (bad : Nat) (w : World) (h : Fs B r bad w) (hr : r.size ≤ maxLen) (z : Int) (hz : (r.size : Int) = z) :
    Calls Try.prog 12 #[.pointer (some ⟨B, 0, none⟩)] w fun e w' => e = .returned (.int .i64 z) ∧ w = w' := by
  rw [← hz]; exact waits_any B r bad w h hr
theorem broken_ret (B : Nat) (r : ByteArray) (bad : Nat) (w : World) (h : Fs B r bad w) (z : Int) (hz : (bad : Int) = z) :
    Calls Try.prog 13 #[.pointer (some ⟨B, 0, none⟩)] w fun e w' => e = .returned (.int .i64 z) ∧ w = w' := by
  rw [← hz]; exact broken_any B r bad w h

theorem ps_a : psS ⟨#[]⟩ 0 ⟨#[5, 0]⟩ = ([], ⟨#[5, 0]⟩, 0) := by
  rw [psS_new]
  exact dnS_short _ _ _ (taS_bad _ 0 0 0 2 (heS_short _ (by decide)) (by decide))
theorem ps_b : psS ⟨#[5, 0]⟩ 0 ⟨#[0, 0, 5]⟩ = ([(5, 0, ⟨#[]⟩)], ⟨#[5]⟩, 0) := by
  have e : (⟨#[5, 0]⟩ : ByteArray) ++ ⟨#[0, 0, 5]⟩ = ⟨#[5, 0, 0, 0, 5]⟩ := by apply bytes_eq; rw [app_list]; rfl
  have z : (⟨#[5, 0, 0, 0, 5]⟩ : ByteArray).size = 5 := rfl
  have b0 : bt ⟨#[5, 0, 0, 0, 5]⟩ 0 = 5 := rfl
  have b1 : bt ⟨#[5, 0, 0, 0, 5]⟩ 1 = 0 := rfl
  have b2 : bt ⟨#[5, 0, 0, 0, 5]⟩ 2 = 0 := rfl
  have b3 : bt ⟨#[5, 0, 0, 0, 5]⟩ 3 = 0 := rfl
  have h : heS ⟨#[5, 0, 0, 0, 5]⟩ = (5, 0, 0, 0) := by rw [heS_good _ (by rw [z]; decide) (by rw [b0]; decide) (by rw [b2, b3]; decide), b0, b1, b2, b3]
  have t := taS_good ⟨#[5, 0, 0, 0, 5]⟩ 5 0 0 h (by decide)
  have x : (⟨#[5, 0, 0, 0, 5]⟩ : ByteArray).extract 4 (4 + 0) = ⟨#[]⟩ := by apply bytes_eq; rw [ext_list]; rfl
  have l : lf ⟨#[5, 0, 0, 0, 5]⟩ 4 = ⟨#[5]⟩ := by apply bytes_eq; unfold lf; rw [ext_list]; rfl
  unfold psS
  rw [if_pos rfl, e, dnS_good _ _ _ t, x, l, dnS_short ⟨#[5]⟩ _ _ (taS_bad _ 0 0 0 2 (heS_short _ (by decide)) (by decide))]
theorem ps_c : psS ⟨#[]⟩ 0 ⟨#[0, 0, 0, 0]⟩ = ([], ⟨#[]⟩, 4) := by
  rw [psS_new]
  have b0 : bt ⟨#[0, 0, 0, 0]⟩ 0 = 0 := rfl
  exact dnS_bad _ _ _ 4 (taS_bad _ 0 0 0 4 (heS_kind _ (by decide) (by rw [b0]; decide)) (by decide)) (by decide) (by decide)

end Go.Proofs.Ythfogiogjmgodaa.Fd
