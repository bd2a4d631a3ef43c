/- Slices that a call has made by append, one element at a time: what is kept of them, and the append as a law. -/
import Derived.Test.YtkbblmjldfinoaaKyMath
import Derived.Deep.AppendLies
import Derived.Deep.RegionHeld3
import Derived.StillTailTactics
import Derived.WalkKit
namespace Go.Proofs.Ytkbblmjldfinoaa.Vm
open Go.RowKit
set_option linter.unusedVariables false
set_option linter.unusedSimpArgs false

/-- A slice of the call's own, with its elements. -/
def Lt (e : TypeId) (B : Nat) (v : Value) (xs : List Value) (w : World) : Prop := w.ownsRow B e 1 v xs.length xs
theorem Lt.nil (e : TypeId) (B : Nat) (w : World) : Lt e B (.slice none 0 0) [] w := World.ownsRow_nil w B e 1
theorem Lt.row {e : TypeId} {B : Nat} {v : Value} {xs : List Value} {w : World} (h : Lt e B v xs w) : w.ownsRow B e 1 v xs.length xs := h
theorem Lt.below {e : TypeId} {B : Nat} {v : Value} {xs : List Value} {w w' : World} (h : Lt e B v xs w) (hb : Below w.heap.size w w') : Lt e B v xs w' :=
  World.ownsRow.kept (row := none) h ⟨hb.os, hb.tape, hb.output, hb.size, fun k hk _ => hb.block k hk⟩ (by cases v.ownBlock <;> simp)
theorem Lt.drew {e : TypeId} {B : Nat} {v : Value} {xs : List Value} {w : World} (h : Lt e B v xs w) : Lt e B v xs w.drew := h
theorem Lt.drewN {e : TypeId} {B : Nat} {v : Value} {xs : List Value} {w : World} (h : Lt e B v xs w) (n : Nat) : Lt e B v xs (w.drewN n) := h.below (below_drewN (Below.refl _ _) n)
theorem Lt.alloc {e : TypeId} {B : Nat} {v : Value} {xs : List Value} {w : World} (h : Lt e B v xs w) (o : Obj) : Lt e B v xs (w.alloc o) := World.ownsRow.alloc h o
theorem Lt.mono {e : TypeId} {B B' : Nat} {v : Value} {xs : List Value} {w : World} (h : Lt e B v xs w) (hb : B' ≤ B) : Lt e B' v xs w := by
  refine ⟨h.1, ?_⟩
  rcases h.2 with hn | ⟨g, cap, cur, hv, hbg, rest⟩
  · exact .inl hn
  · exact .inr ⟨g, cap, cur, hv, Nat.le_trans hb hbg, rest⟩
theorem Lt.block {e : TypeId} {B : Nat} {v : Value} {xs : List Value} {w : World} (h : Lt e B v xs w) : ∀ k, v.ownBlock = some k → B ≤ k ∧ k < w.heap.size := World.ownsRow.lt h
theorem Lt.kind {e : TypeId} {B : Nat} {v : Value} {xs : List Value} {w : World} (h : Lt e B v xs w) {g : Nat} (hg : v.ownBlock = some g) : ∃ cur, w.heap[g]? = some (.cells cur e (0, 0)) := by
  rcases h.2 with ⟨rfl, _⟩ | ⟨g', cap, cur, rfl, _, hgg, _⟩
  · simp [Value.ownBlock] at hg
  · simp [Value.ownBlock] at hg
    subst hg; exact ⟨cur, hgg⟩
/-- Slices of two types lie apart. -/
theorem Lt.apart {e e' : TypeId} {B B' : Nat} {v v' : Value} {xs ys : List Value} {w : World} (h : Lt e B v xs w) (h' : Lt e' B' v' ys w) (he : e ≠ e') : v.ownBlock = none ∨ v.ownBlock ≠ v'.ownBlock := by
  cases hv : v.ownBlock with
  | none => exact .inl rfl
  | some g =>
    right
    intro e2
    obtain ⟨c, hc⟩ := h.kind hv
    obtain ⟨c', hc'⟩ := h'.kind e2.symm
    rw [hc] at hc'
    simp only [Option.some.injEq, Obj.cells.injEq] at hc'
    exact he hc'.2.1
theorem Lt.kept {e : TypeId} {B : Nat} {v : Value} {xs : List Value} {w w' : World} {row : Option Nat} (h : Lt e B v xs w) (hg : w.grownBy w' row) (hne : v.ownBlock = none ∨ v.ownBlock ≠ row) : Lt e B v xs w' := World.ownsRow.kept h hg hne
theorem Lt.beside {e e' : TypeId} {B B' : Nat} {v v' : Value} {xs ys : List Value} {w w' : World} (h : Lt e B v xs w) (h' : Lt e' B' v' ys w) (he : e ≠ e') (hg : w.grownBy w' v'.ownBlock) : Lt e B v xs w' :=
  h.kept hg (h.apart h' he)
theorem Lt.grew {e : TypeId} {B : Nat} {v : Value} {xs : List Value} {w w' a : World} (h : Lt e B v xs w) (hg : w.grownBy w' v.ownBlock) (hb : Below B a w) (hB : B ≤ w.heap.size) : Below B a w' :=
  hb.grown hg hB fun k hk => (h.block k hk).1
theorem Lt.grew_to {e : TypeId} {B B' : Nat} {v : Value} {xs : List Value} {w w' a : World} (h : Lt e B v xs w) (hg : w.grownBy w' v.ownBlock) (hb : Below B' a w) (hle : B' ≤ B) (hB : B' ≤ w.heap.size) : Below B' a w' :=
  hb.grown hg hB fun k hk => Nat.le_trans hle (h.block k hk).1
/-- What a slice of the call's own looks like, and what its cells hold. -/
theorem Lt.form {e : TypeId} {B : Nat} {v : Value} {xs : List Value} {w : World} (h : Lt e B v xs w) :
    ∃ o cap, v = .slice o xs.length cap ∧ xs.length ≤ maxLen ∧ ∀ i u, xs[i]? = some u → ∃ a, o = some a ∧ B ≤ a.block ∧ w.cell? (a.add i) = some u := by
  rcases h.2 with ⟨rfl, h0⟩ | ⟨g, cap, cur, rfl, hb, hgg, hn, hc, _⟩
  · refine ⟨none, 0, by rw [h0], by rw [h0]; exact Nat.zero_le _, ?_⟩
    intro i u hu
    rw [List.eq_nil_of_length_eq_zero h0] at hu; simp at hu
  · refine ⟨some ⟨g, 0, none⟩, cap, rfl, by omega, fun i u hu => ⟨⟨g, 0, none⟩, rfl, hb, World.ownsRow.cells h rfl i u hu⟩⟩

theorem Lt.form1 {e : TypeId} {B : Nat} {v : Value} {xs : List Value} {w : World} (h : Lt e B v xs w) (hn : xs ≠ []) :
    ∃ g cap, v = .slice (some ⟨g, 0, none⟩) xs.length cap ∧ B ≤ g ∧ ∀ i u, xs[i]? = some u → w.cell? ⟨g, i, none⟩ = some u := by
  rcases h.2 with ⟨rfl, h0⟩ | ⟨g, cap, cur, rfl, hb, hgg, _⟩
  · exact absurd (List.eq_nil_of_length_eq_zero h0) hn
  · refine ⟨g, cap, rfl, hb, fun i u hu => ?_⟩
    have := World.ownsRow.cells h rfl i u hu
    have hadd : (⟨g, 0, none⟩ : Addr).add i = ⟨g, i, none⟩ := by unfold Addr.add; split <;> simp_all
    rwa [hadd] at this

/-- Where a slice lies that was appended to: where it lay, or anew. -/
def Grew (v v' : Value) (w : World) : Prop := ∃ g cap n, v' = .slice (some ⟨g, 0, none⟩) n cap ∧ (v.ownBlock = some g ∨ w.heap.size ≤ g)
/-- Two slices lie apart. -/
def Ap (v v' : Value) : Prop := ∀ k, v.ownBlock = some k → v'.ownBlock ≠ some k
theorem Ap.nil (v : Value) : Ap v (.slice none 0 0) := fun k _ h => by simp [Value.ownBlock] at h
theorem Ap.symm {v v' : Value} (h : Ap v v') : Ap v' v := fun k h1 h2 => h k h2 h1
theorem Ap.left {v v' : Value} (h : Ap v v') : v'.ownBlock = none ∨ v'.ownBlock ≠ v.ownBlock := by
  cases hv : v'.ownBlock with
  | none => exact .inl rfl
  | some k => exact .inr fun e => h k e.symm hv
theorem Ap.grew {e : TypeId} {B : Nat} {v v' u : Value} {xs : List Value} {w : World} (h : Ap v u) (hu : Lt e B u xs w) (hg : Grew v v' w) : Ap v' u := by
  obtain ⟨g, cap, n, rfl, hg⟩ := hg
  intro k hk hk2
  have hk' : g = k := by simpa [Value.ownBlock] using hk
  subst hk'
  rcases hg with hg | hg
  · exact h g hg hk2
  · have := (hu.2)
    rcases this with ⟨rfl, _⟩ | ⟨g', cap', cur, rfl, _, hgg, _⟩
    · simp [Value.ownBlock] at hk2
    · have e : g' = g := by simpa [Value.ownBlock] using hk2
      subst e
      have := (Array.getElem?_eq_some_iff.1 hgg).1
      omega

/-- append of one element, as a step of a region that draws its order. -/
theorem Lt.step {P : Program} {ops : Array Oper} {o : Oper} {a : Act} {K : Act → World → Prop} {Q : Exit → Act → World → Prop} {E : Prop} {w : World} (hgd : o.guard = none) (s x : Operand) (t : TypeId)
    (ho : o.op = .call { callee := .builtin .append, args := #[s, x], argTypes := #[t, t] })
    (B : Nat) (e : TypeId) (z : Value) (bytes : Nat) (ht : P.underlying t = some (.slice e)) (hi : ∃ i, P.info? e = some i ∧ i.zero = some z ∧ i.size = 1 ∧ i.bytes = bytes) (hb16 : bytes ≤ 16)
    (hzs : z.cells.size = 1) (v : Value) (xs : List Value) (hs : a.eval s = v) (hl : Lt e B v xs w)
    (g0 : Nat) (u : Value) (hx : a.eval x = .slice (some ⟨g0, 0, none⟩) 1 1) (hc : w.cell? ⟨g0, 0, none⟩ = some u) (h1 : u.oneCell' = true) (hn : xs.length ≤ 1000000) (hbase : B ≤ w.heap.size)
    (h : ∀ v' w', Lt e B v' (xs ++ [u]) w' → w.grownBy w' v.ownBlock → Grew v v' w → K (a.put o.dst v') w') :
    if Region.wanted o (yielded ops a.tmps) = true then Oper.wp P o a w K Q else E := by
  obtain ⟨i, hi, hz, hs1, hby⟩ := hi
  have hm : xs.length + 1 ≤ maxLen := by unfold maxLen; omega
  have hbt : (xs.length + 1) * bytes ≤ 140737488355328 := by
    have := Nat.mul_le_mul (show xs.length + 1 ≤ 1000001 by omega) hb16; omega
  refine step_append_lies w hgd s x t ho B e i z 1 bytes ht hi hz hs1 hby hzs (by decide) v xs.length xs hs hl ⟨g0, 0, none⟩ 1 1 [u] hx rfl ?_ ?_ (by decide) hm hbt hbase _ rfl ?_
  · intro j u' hj
    match j, hj with
    | 0, hj => simp at hj; subst hj; simpa [Addr.add] using hc
  · intro u' hu'; simp at hu'; subst hu'; exact h1
  · intro g cap w' h2 h3 h4 h5
    refine h _ w' ?_ h3 ⟨g, cap, _, rfl, h4.imp (fun h => h) fun h => by rw [h]; exact Nat.le_refl _⟩
    show w'.ownsRow B e 1 _ (xs ++ [u]).length (xs ++ [u])
    rw [List.length_append]; exact h2
/-- append of one element, at a plain region's list. -/
theorem Lt.list {P : Program} {ops : Array Oper} {rest : List Oper} {o : Oper} {a : Act} {Q : Exit → Act → World → Prop} {w : World} (hgd : o.guard = none) (s x : Operand) (t : TypeId)
    (ho : o.op = .call { callee := .builtin .append, args := #[s, x], argTypes := #[t, t] })
    (B : Nat) (e : TypeId) (z : Value) (bytes : Nat) (ht : P.underlying t = some (.slice e)) (hi : ∃ i, P.info? e = some i ∧ i.zero = some z ∧ i.size = 1 ∧ i.bytes = bytes) (hb16 : bytes ≤ 16)
    (hzs : z.cells.size = 1) (v : Value) (xs : List Value) (hs : a.eval s = v) (hl : Lt e B v xs w)
    (g0 : Nat) (u : Value) (hx : a.eval x = .slice (some ⟨g0, 0, none⟩) 1 1) (hc : w.cell? ⟨g0, 0, none⟩ = some u) (h1 : u.oneCell' = true) (hn : xs.length ≤ 1000000) (hbase : B ≤ w.heap.size)
    (h : ∀ v' w', Lt e B v' (xs ++ [u]) w' → w.grownBy w' v.ownBlock → Grew v v' w → wpList P ops Q rest (a.put o.dst v') w') : wpList P ops Q (o :: rest) a w := by
  obtain ⟨i, hi, hz, hs1, hby⟩ := hi
  have hm : xs.length + 1 ≤ maxLen := by unfold maxLen; omega
  have hbt : (xs.length + 1) * bytes ≤ 140737488355328 := by
    have := Nat.mul_le_mul (show xs.length + 1 ≤ 1000001 by omega) hb16; omega
  refine wpList_append_lies w hgd s x t ho B e i z 1 bytes ht hi hz hs1 hby hzs (by decide) v xs.length xs hs hl ⟨g0, 0, none⟩ 1 1 [u] hx rfl ?_ ?_ (by decide) hm hbt hbase _ rfl ?_
  · intro j u' hj
    match j, hj with
    | 0, hj => simp at hj; subst hj; simpa [Addr.add] using hc
  · intro u' hu'; simp at hu'; subst hu'; exact h1
  · intro g cap w' h2 h3 h4 h5
    refine h _ w' ?_ h3 ⟨g, cap, _, rfl, h4.imp (fun h => h) fun h => by rw [h]; exact Nat.le_refl _⟩
    show w'.ownsRow B e 1 _ (xs ++ [u]).length (xs ++ [u])
    rw [List.length_append]; exact h2

theorem infoInt : ∃ i, Try.prog.info? 3 = some i ∧ i.zero = some (.int .i64 0) ∧ i.size = 1 ∧ i.bytes = 8 := by
  have h : (Try.prog.info? 3).map (fun i => (i.zero, i.size, i.bytes)) = some (some (.int .i64 0), 1, 8) := by kernel_rfl
  obtain ⟨i, hi, he⟩ := Option.map_eq_some_iff.1 h
  simp only [Prod.mk.injEq] at he
  exact ⟨i, hi, he.1, he.2.1, he.2.2⟩
theorem infoStr : ∃ i, Try.prog.info? 9 = some i ∧ i.zero = some (.string ByteArray.empty) ∧ i.size = 1 ∧ i.bytes = 16 := by
  have h : (Try.prog.info? 9).map (fun i => (i.zero, i.size, i.bytes)) = some (some (.string ByteArray.empty), 1, 16) := by kernel_rfl
  obtain ⟨i, hi, he⟩ := Option.map_eq_some_iff.1 h
  simp only [Prod.mk.injEq] at he
  exact ⟨i, hi, he.1, he.2.1, he.2.2⟩
/-- Tags, and texts, as cells. -/
def tgC (T : List Nat) : List Value := T.map fun (t : Nat) => Value.int .i64 (t : Int)
def txC (L : List ByteArray) : List Value := L.map .string
theorem tgC_app (T : List Nat) (t : Nat) : tgC (T ++ [t]) = tgC T ++ [.int .i64 (t : Int)] := by simp [tgC]
theorem txC_app (L : List ByteArray) (x : ByteArray) : txC (L ++ [x]) = txC L ++ [.string x] := by simp [txC]
theorem tgC_len (T : List Nat) : (tgC T).length = T.length := by simp [tgC]
theorem txC_len (L : List ByteArray) : (txC L).length = L.length := by simp [txC]
theorem newcell (w : World) (u : Value) (T : TypeId) : (w.alloc (.cells #[u] T)).cell? ⟨w.heap.size, 0, none⟩ = some u := by
  rw [World.cell?_alloc_at _ _ _ _ rfl]; rfl
theorem newcell_at (w : World) (u : Value) (T : TypeId) (g : Nat) (h : w.heap.size = g) : (w.alloc (.cells #[u] T)).cell? ⟨g, 0, none⟩ = some u := by
  subst h; exact newcell w u T
def szOf : Value → Nat | .string s => s.size | _ => 0
end Go.Proofs.Ytkbblmjldfinoaa.Vm
