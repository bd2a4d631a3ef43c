/- A variable's cells: what they hold, and what keeps them; results of several values. For every package. -/
import Derived.Test.YtdogddliifbjnaaGreatChecked
import Derived.WalkKit
import Derived.WalkLawsBesides
import Derived.WalkSpells
import Derived.WalkSmall
import Derived.Below
import Derived.Handy
import Derived.Laws.ResultCell
import Derived.Laws.AppendOwn
import Derived.Lib.Hide
import Derived.Lib.Walk
namespace Go.Proofs.YtdogddliifbjnaaGreat.Cm
open Go.RowKit
set_option linter.unusedVariables false
set_option linter.unusedSimpArgs false

/-- The cells of a variable in a block of its own. -/
def Cs (b : Nat) (vs : List Value) (w : World) : Prop := (∀ i v, vs[i]? = some v → w.cell? ⟨b, i, none⟩ = some v ∧ w.frozen? ⟨b, i, none⟩ = false) ∧ b < w.heap.size
theorem Cs.cell {b i : Nat} {vs : List Value} {v : Value} {w : World} (h : Cs b vs w) (hi : vs[i]? = some v) : w.cell? ⟨b, i, none⟩ = some v := (h.1 i v hi).1
theorem Cs.frozen {b i : Nat} {vs : List Value} {v : Value} {w : World} (h : Cs b vs w) (hi : vs[i]? = some v) : w.frozen? ⟨b, i, none⟩ = false := (h.1 i v hi).2
theorem Cs.lt {b : Nat} {vs : List Value} {w : World} (h : Cs b vs w) : b < w.heap.size := h.2
theorem Cs.kept {b : Nat} {vs : List Value} {w w' : World} (h : Cs b vs w) (hb : w'.heap[b]? = w.heap[b]?) (hs : w.heap.size ≤ w'.heap.size) : Cs b vs w' :=
  ⟨fun i v hi => ⟨(World.cell?_of_block (a := ⟨b, i, none⟩) hb).trans (h.cell hi), (World.frozen?_of_block (a := ⟨b, i, none⟩) hb).trans (h.frozen hi)⟩, Nat.lt_of_lt_of_le h.2 hs⟩
theorem Cs.below {b m : Nat} {vs : List Value} {w w' : World} (h : Cs b vs w) (hb : Below m w w') (hm : b < m) : Cs b vs w' := h.kept (hb.block b hm) hb.size
theorem Cs.grown {b : Nat} {vs : List Value} {w w' : World} {row : Option Nat} (h : Cs b vs w) (hg : w.grownBy w' row) (hr : some b ≠ row) : Cs b vs w' := h.kept (hg.block b h.2 hr) hg.size
theorem Cs.drew {b : Nat} {vs : List Value} {w : World} (h : Cs b vs w) : Cs b vs w.drew := h.kept rfl (Nat.le_refl _)
theorem Cs.alloc {b : Nat} {vs : List Value} {w : World} (h : Cs b vs w) (o : Obj) : Cs b vs (w.alloc o) := h.below ((Below.refl w.heap.size w).alloc (Nat.le_refl _) o) h.2
theorem Cs.put {b i : Nat} {vs : List Value} {w : World} (h : Cs b vs w) (v : Value) : Cs b (vs.set i v) (w.setCell ⟨b, i, none⟩ v) := by
  refine ⟨fun j u hu => ?_, by simp [World.setCell]; exact h.2⟩
  by_cases e : i = j
  · subst e
    have hlt : i < vs.length := by
      rw [List.getElem?_set] at hu
      by_cases hl : i < vs.length
      · exact hl
      · simp [hl] at hu
    have hv : u = v := by
      rw [List.getElem?_set_self hlt] at hu; exact (Option.some.inj hu).symm
    subst hv
    exact ⟨World.cell?_setCell_same _ _ _ (h.cell (List.getElem?_eq_getElem hlt)), by rw [World.frozen?_setCell]; exact h.frozen (List.getElem?_eq_getElem hlt)⟩
  · rw [List.getElem?_set_ne e] at hu
    exact ⟨(World.cell?_setCell_other _ _ _ _ (fun e2 => e (by injection e2))).trans (h.cell hu), by rw [World.frozen?_setCell]; exact h.frozen hu⟩
/-- What is written into another block. -/
theorem Cs.other {b b' i : Nat} {vs : List Value} {w : World} (h : Cs b vs w) (v : Value) (hb : b ≠ b') : Cs b vs (w.setCell ⟨b', i, none⟩ v) :=
  h.kept (Below.heap_setCell _ _ _ _ hb) (by simp [World.setCell])
theorem Cs.new (w : World) (vs : List Value) (T : TypeId) : Cs w.heap.size vs (w.alloc (.cells vs.toArray T)) := by
  refine ⟨fun i v hi => ⟨?_, World.frozen?_alloc_at _ _ _ _ rfl⟩, by simp⟩
  rw [World.cell?_alloc_at _ _ _ _ rfl]; simpa using hi

theorem Cs.set {b b' i : Nat} {vs : List Value} {w : World} (h : Cs b vs w) (v : Value) (hb : b ≠ b') : Cs b vs (w.setCell ⟨b', i, none⟩ v) := h.other v hb
/-- Three cells at once, as the walk wants them. -/
theorem Cs.three {b : Nat} {x y z : Value} {w : World} (h : Cs b [x, y, z] w) : (w.cell? ⟨b, 0, none⟩ = some x ∧ w.cell? ⟨b, 1, none⟩ = some y ∧ w.cell? ⟨b, 2, none⟩ = some z) ∧ (w.frozen? ⟨b, 0, none⟩ = false ∧ w.frozen? ⟨b, 1, none⟩ = false ∧ w.frozen? ⟨b, 2, none⟩ = false) :=
  ⟨⟨h.cell (i := 0) rfl, h.cell (i := 1) rfl, h.cell (i := 2) rfl⟩, ⟨h.frozen (i := 0) rfl, h.frozen (i := 1) rfl, h.frozen (i := 2) rfl⟩⟩
theorem Cs.two {b : Nat} {x y : Value} {w : World} (h : Cs b [x, y] w) : (w.cell? ⟨b, 0, none⟩ = some x ∧ w.cell? ⟨b, 1, none⟩ = some y) ∧ (w.frozen? ⟨b, 0, none⟩ = false ∧ w.frozen? ⟨b, 1, none⟩ = false) :=
  ⟨⟨h.cell (i := 0) rfl, h.cell (i := 1) rfl⟩, ⟨h.frozen (i := 0) rfl, h.frozen (i := 1) rfl⟩⟩

theorem res4 {fn : Func} {t u v x : Tmp} (h : fn.results = #[.tmp t, .tmp u, .tmp v, .tmp x]) (tmps : Array Value) (P : Program) (w : World) :
    (results fn tmps).run P w = .ok (.tuple #[tmps.getD t undef, tmps.getD u undef, tmps.getD v undef, tmps.getD x undef]) w := by
  simp [results, h]
end Go.Proofs.YtdogddliifbjnaaGreat.Cm
/- Worlds of which some blocks are left out: what a call keeps that turns those blocks alone. For every package. -/
namespace Go.Proofs.YtdogddliifbjnaaGreat.Cm
open Go.RowKit
set_option linter.unusedVariables false
set_option linter.unusedSimpArgs false

def blank : Obj := .cells #[] 0
/-- The world without the blocks of F. -/
def cut (F : Nat → Bool) (w : World) : World := { w with heap := w.heap.mapIdx fun k o => if F k then blank else o }
theorem cut_size (F : Nat → Bool) (w : World) : (cut F w).heap.size = w.heap.size := by simp [cut]
theorem cut_block (F : Nat → Bool) (w : World) (k : Nat) : (cut F w).heap[k]? = if F k then w.heap[k]?.map (fun _ => blank) else w.heap[k]? := by
  simp only [cut, Array.getElem?_mapIdx]
  by_cases h : F k = true
  · simp [h]
  · simp [h]
/-- All that stands in the one world stands in the other. -/
structure Sub (w w' : World) : Prop where
  size : w.heap.size ≤ w'.heap.size
  block : ∀ (k : Nat) (o : Obj), w.heap[k]? = some o → o ≠ blank → w'.heap[k]? = some o
theorem Sub.refl (w : World) : Sub w w := ⟨Nat.le_refl _, fun _ _ h _ => h⟩
theorem Sub.trans {a b c : World} (h : Sub a b) (k : Sub b c) : Sub a c := ⟨Nat.le_trans h.size k.size, fun i o h1 h2 => k.block i o (h.block i o h1 h2) h2⟩
theorem Sub.cell {w w' : World} (h : Sub w w') {a : Addr} {v : Value} (hc : w.cell? a = some v) : w'.cell? a = some v := by
  have hn : ∃ o, w.heap[a.block]? = some o ∧ o ≠ blank := by
    unfold World.cell? at hc
    split at hc
    · rename_i c e f hb
      refine ⟨_, hb, fun e2 => ?_⟩
      unfold blank at e2
      injection e2 with e2 _ _
      subst e2
      split at hc <;> simp at hc
    · cases hc
  obtain ⟨o, h1, h2⟩ := hn
  unfold World.cell? at hc ⊢
  rw [h.block _ o h1 h2]
  rw [h1] at hc
  exact hc
theorem Sub.of_below {w w' : World} (h : Below w.heap.size w w') : Sub w w' := ⟨h.size, fun k o h1 _ => by rw [h.block k (Array.getElem?_eq_some_iff.1 h1).1]; exact h1⟩
theorem cut_sub {F G : Nat → Bool} (w : World) (h : ∀ k, k < w.heap.size → F k = true → G k = true) : Sub (cut G w) (cut F w) := by
  refine ⟨by rw [cut_size, cut_size]; exact Nat.le_refl _, fun k o h1 h2 => ?_⟩
  rw [cut_block] at h1 ⊢
  by_cases hg : G k = true
  · rw [if_pos hg] at h1
    obtain ⟨_, _, e⟩ := Option.map_eq_some_iff.1 h1
    exact absurd e.symm h2
  · rw [if_neg hg] at h1
    have hf : ¬ F k = true := fun hf => hg (h k (Array.getElem?_eq_some_iff.1 h1).1 hf)
    rw [if_neg hf]; exact h1
theorem cut_all (G : Nat → Bool) (w : World) : Sub (cut G w) w := by
  refine ⟨by rw [cut_size]; exact Nat.le_refl _, fun k o h1 h2 => ?_⟩
  rw [cut_block] at h1
  by_cases hg : G k = true
  · rw [if_pos hg] at h1
    obtain ⟨_, _, e⟩ := Option.map_eq_some_iff.1 h1
    exact absurd e.symm h2
  · rw [if_neg hg] at h1; exact h1
theorem all_cut {G : Nat → Bool} {w : World} (h : ∀ k, k < w.heap.size → G k = false) : Sub w (cut G w) := by
  refine ⟨by rw [cut_size]; exact Nat.le_refl _, fun k o h1 h2 => ?_⟩
  rw [cut_block, h k (Array.getElem?_eq_some_iff.1 h1).1]; exact h1
theorem cut_below {F : Nat → Bool} {m : Nat} {w w' : World} (h : Below m w w') : Below m (cut F w) (cut F w') :=
  ⟨h.os, h.tape, h.output, by rw [cut_size, cut_size]; exact h.size, fun k hk => by rw [cut_block, cut_block, h.block k hk]⟩
/-- A call that turns F's blocks alone, and lays new ones. -/
def Be (F : Nat → Bool) (w w' : World) : Prop := Below w.heap.size (cut F w) (cut F w')
theorem Be.of {F : Nat → Bool} {w w' : World} (h : Below w.heap.size w w') : Be F w w' := cut_below h
theorem Be.refl (F : Nat → Bool) (w : World) : Be F w w := Be.of (Below.refl _ _)
theorem Be.size {F : Nat → Bool} {w w' : World} (h : Be F w w') : w.heap.size ≤ w'.heap.size := by have := Below.size h; rwa [cut_size, cut_size] at this
theorem Be.trans {F : Nat → Bool} {a b c : World} (h : Be F a b) (k : Be F b c) : Be F a c := Below.trans h (Below.mono k h.size)
theorem Be.block {F : Nat → Bool} {w w' : World} (h : Be F w w') {k : Nat} (hk : k < w.heap.size) (hF : F k = false) : w'.heap[k]? = w.heap[k]? := by
  have := Below.block h k hk
  rw [cut_block, cut_block, hF] at this
  simpa using this
theorem Be.mk {F : Nat → Bool} {w w' : World} (h1 : w'.os = w.os) (h2 : w'.tape = w.tape) (h3 : w'.output = w.output) (h4 : w.heap.size ≤ w'.heap.size) (h5 : ∀ k, k < w.heap.size → F k = false → w'.heap[k]? = w.heap[k]?) : Be F w w' := by
  refine ⟨h1, h2, h3, by rw [cut_size, cut_size]; exact h4, fun k hk => ?_⟩
  rw [cut_block, cut_block]
  by_cases hF : F k = true
  · rw [if_pos hF, if_pos hF, Array.getElem?_eq_getElem hk, Array.getElem?_eq_getElem (Nat.lt_of_lt_of_le hk h4)]
    rfl
  · rw [if_neg hF, if_neg hF]
    exact h5 k hk (by simpa using hF)
theorem Be.wide {F G : Nat → Bool} {w w' : World} (h : Be F w w') (hFG : ∀ k, k < w.heap.size → F k = true → G k = true) : Be G w w' :=
  Be.mk h.os h.tape h.output h.size (fun k hk hG => h.block hk (by
    cases hF : F k with
    | false => rfl
    | true => rw [hFG k hk hF] at hG; cases hG))
/-- What lies below a bound is as it was, if all that turns lies above it. -/
theorem Be.below {F : Nat → Bool} {m : Nat} {w w' : World} (h : Be F w w') (hF : ∀ k, k < m → F k = false) (hm : m ≤ w.heap.size) : Below m w w' :=
  ⟨h.os, h.tape, h.output, h.size, fun k hk => h.block (by omega) (hF k hk)⟩
theorem Be.setCell {F : Nat → Bool} {a w : World} {b o : Nat} (h : Be F a w) (hb : F b = true ∨ a.heap.size ≤ b) (u : Value) : Be F a (w.setCell ⟨b, o, none⟩ u) := by
  refine Be.mk h.os h.tape h.output (by have := h.size; simpa [World.setCell] using this) (fun k hk hF => ?_)
  rw [← h.block hk hF]
  exact Below.heap_setCell _ _ _ _ (fun e => by
    subst e
    rcases hb with hb | hb
    · rw [hb] at hF; cases hF
    · omega)
theorem Be.grown {F : Nat → Bool} {a w w' : World} {m : Nat} (h : Be F a w) (hg : w.grownBy w' (some m)) (hm : F m = true ∨ a.heap.size ≤ m) : Be F a w' :=
  Be.mk (hg.os.trans h.os) (hg.tape.trans h.tape) (hg.output.trans h.output) (Nat.le_trans h.size hg.size) (fun k hk hF => (hg.block k (Nat.lt_of_lt_of_le hk h.size) (fun e => by
    obtain rfl := Option.some.inj e
    rcases hm with hm | hm
    · rw [hm] at hF; cases hF
    · omega)).trans (h.block hk hF))
theorem Be.after {F : Nat → Bool} {a w w' : World} (h : Be F a w) (hb : Below w.heap.size w w') : Be F a w' := h.trans (Be.of hb)
theorem Be.alloc {F : Nat → Bool} {a w : World} (h : Be F a w) (o : Obj) : Be F a (w.alloc o) := h.after ((Below.refl _ _).alloc (Nat.le_refl _) o)
theorem Be.drew {F : Nat → Bool} {a w : World} (h : Be F a w) : Be F a w.drew := h.after ((Below.refl _ _).drew)
theorem Cs.be {F : Nat → Bool} {b : Nat} {vs : List Value} {w w' : World} (h : Cs b vs w) (ho : Be F w w') (hn : F b = false) : Cs b vs w' := h.kept (ho.block h.2 hn) ho.size
/-- The blocks below a number. -/
def lo (n : Nat) : Nat → Bool := fun k => decide (k < n)
theorem lo_pos {n k : Nat} (h : k < n) : lo n k = true := by simp [lo, h]
theorem lo_neg {n k : Nat} (h : n ≤ k) : lo n k = false := by simp [lo]; exact h
end Go.Proofs.YtdogddliifbjnaaGreat.Cm
