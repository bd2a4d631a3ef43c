/- Feeds: frames as the cells of a slice; a scope with a jump back. -/
import Derived.Test.YthfogiogjmgodaaFdBase
import Derived.WalkMore
import Derived.ScopeJumps
namespace Go.Proofs.Ythfogiogjmgodaa.Fd
open Go.RowKit Fr Cm
set_option linter.unusedVariables false
set_option linter.unusedSimpArgs false

/-- Frames as cells. -/
def fmC (F : List Fm) : List Value := F.flatMap fun f => [.int .i64 (f.1 : Nat), .int .i64 (f.2.1 : Nat), .string f.2.2]
theorem fmC_nil : fmC [] = [] := rfl
theorem fmC_app (F G : List Fm) : fmC (F ++ G) = fmC F ++ fmC G := by unfold fmC; rw [List.flatMap_append]
theorem fmC_one (k f : Nat) (x : ByteArray) : fmC [(k, f, x)] = [.int .i64 (k : Nat), .int .i64 (f : Nat), .string x] := rfl
theorem fmC_len (F : List Fm) : (fmC F).length = F.length * 3 := by
  induction F with
  | nil => rfl
  | cons f F ih =>
    show (_ ++ fmC F).length = _
    rw [List.length_append, ih, List.length_cons]
    simp; omega
theorem fmC_cells (F : List Fm) : ∀ z ∈ fmC F, z.oneCell' = true := by
  intro z hz
  unfold fmC at hz
  rw [List.mem_flatMap] at hz
  obtain ⟨f, _, hz⟩ := hz
  simp at hz
  rcases hz with rfl | rfl | rfl <;> rfl
/-- What lies at a place. -/
theorem fmC_at (F : List Fm) (i : Nat) (f : Fm) (h : F[i]? = some f) : (fmC F)[i * 3]? = some (.int .i64 (f.1 : Nat)) ∧ (fmC F)[i * 3 + 1]? = some (.int .i64 (f.2.1 : Nat)) ∧ (fmC F)[i * 3 + 2]? = some (.string f.2.2) := by
  induction F generalizing i with
  | nil => simp at h
  | cons g F ih =>
    have e : fmC (g :: F) = [.int .i64 (g.1 : Nat), .int .i64 (g.2.1 : Nat), .string g.2.2] ++ fmC F := rfl
    rw [e]
    cases i with
    | zero =>
      simp at h; subst h
      exact ⟨rfl, rfl, rfl⟩
    | succ i =>
      have h' : F[i]? = some f := by simpa using h
      have e0 : (i + 1) * 3 = i * 3 + 3 := by omega
      rw [e0]
      obtain ⟨a, b, c⟩ := ih i h'
      refine ⟨?_, ?_, ?_⟩
      · rw [List.getElem?_append_right (by simp)]; simpa using a
      · rw [List.getElem?_append_right (by simp), List.length_cons, List.length_cons, List.length_cons, List.length_nil, show i * 3 + 3 + 1 - (0 + 1 + 1 + 1) = i * 3 + 1 by omega]; exact b
      · rw [List.getElem?_append_right (by simp), List.length_cons, List.length_cons, List.length_cons, List.length_nil, show i * 3 + 3 + 2 - (0 + 1 + 1 + 1) = i * 3 + 2 by omega]; exact c
/-- A slice of the call's own, of frames. -/
abbrev Rf (B : Nat) (v : Value) (F : List Fm) (w : World) : Prop := Rw 39 3 B v F.length (fmC F) w
theorem Rf.nil (B : Nat) (w : World) : Rf B (.slice none 0 0) [] w := Rw.nil _ _ _ _
theorem infoFrame : ∃ i z, Try.prog.info? 39 = some i ∧ i.zero = some z ∧ i.size = 3 ∧ i.bytes = 32 ∧ z.cells.size = 3 := by
  have h : (Try.prog.info? 39).map (fun i => (i.zero, i.size, i.bytes)) = some (some (.agg #[.int .i64 0, .int .i64 0, .string ByteArray.empty]), 3, 32) := by kernel_rfl
  obtain ⟨i, hi, he⟩ := Option.map_eq_some_iff.1 h
  simp only [Prod.mk.injEq] at he
  exact ⟨i, _, hi, he.1, he.2.1, he.2.2, rfl⟩
theorem dnS_good (s : ByteArray) (x : Fm) (n : Nat) (h : taS s = (x, n, 0)) : dnS s = (x :: (dnS (lf s n)).1, (dnS (lf s n)).2) := by unfold dnS; rw [fdS_good s x n h]
theorem dnS_short (s : ByteArray) (x : Fm) (n : Nat) (h : taS s = (x, n, 2)) : dnS s = ([], s, 0) := by unfold dnS; rw [fdS_short s x n h]; rfl
theorem dnS_bad (s : ByteArray) (x : Fm) (n e : Nat) (h : taS s = (x, n, e)) (h0 : e ≠ 0) (h2 : e ≠ 2) : dnS s = ([], ⟨#[]⟩, e) := by unfold dnS; rw [fdS_bad s x n e h h0 h2]; simp [okC, h2]
/-- A scope with a jump back to its label: what stands behind the label is walked once. -/
theorem scope_back {P : Program} {Q : Exit → Act → World → Prop} {a : Act} {w : World} {c rest : Code} (l : Nat) (J : Act → World → Prop) (μ : Act → World → Nat) (hf : findLabel c l = some (Code.seq Code.skip rest))
    (pass : ∀ a w, J a w → rest.wp P (Exit.jump l (fun a' w' => J a' w' ∧ μ a' w' < μ a w) Q) a w)
    (first : Hid (∀ a w, J a w → rest.wp P (Exit.jump l J Q) a w) → c.wp P (Exit.jump l J Q) a w) : (Code.scope c).wp P Q a w :=
  wp_scope_jumps l J μ hf (first (Lib.hid fun a w h => wp_mono (pass a w h) fun e a w h2 => by
    cases e <;> first | exact h2 | exact ⟨h2.1, h2.2.1⟩)) fun a w h => wp_seq (wp_skip (pass a w h))
def szOf : Value → Nat | .string s => s.size | _ => 0
end Go.Proofs.Ythfogiogjmgodaa.Fd
