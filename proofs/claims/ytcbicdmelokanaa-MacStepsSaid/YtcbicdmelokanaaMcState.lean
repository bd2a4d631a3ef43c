/- Tags that were issued: what is so in the midst of the law MacSteps. -/
import Derived.Test.YtcbicdmelokanaaMcRefR
namespace Go.Proofs.Ytcbicdmelokanaa.Mc
open Go.RowKit Cm Dc
set_option linter.unusedVariables false
set_option linter.unusedSimpArgs false

/-- Steps in the world: which kind, whose, a number, is there one. -/
def Sx (o : Option Addr) (len : Nat) (K O : Nat → Int) (N : Nat → Nat) (H : Nat → Bool) (w : World) : Prop :=
  ∀ i, i < len → I64 (O i) ∧ N i < 18446744073709551616 ∧ ∃ a Ab Ao As, o = some a ∧ a.add (i * 4) = ⟨Ab, Ao, As⟩ ∧ Ab < w.heap.size ∧ w.cell? ⟨Ab, Ao, As⟩ = some (.int .i64 (K i)) ∧ w.cell? ⟨Ab, Ao + 1, none⟩ = some (.int .i64 (O i)) ∧ w.cell? ⟨Ab, Ao + 2, none⟩ = some (.int .u64 (N i : Int)) ∧ w.cell? ⟨Ab, Ao + 3, none⟩ = some (.bool (H i))
theorem four {b : Nat} {x y z u : Value} {w : World} (h : Cs b [x, y, z, u] w) : w.cell? ⟨b, 0, none⟩ = some x ∧ w.cell? ⟨b, 1, none⟩ = some y ∧ w.cell? ⟨b, 2, none⟩ = some z ∧ w.cell? ⟨b, 3, none⟩ = some u :=
  ⟨h.cell (i := 0) rfl, h.cell (i := 1) rfl, h.cell (i := 2) rfl, h.cell (i := 3) rfl⟩
/-- Where the blocks lie: the table's, the dice's, the rows' (from b on), the step's. -/
structure Sl (B D b S : Nat) (w : World) : Prop where
  ne : B ≠ D
  b1 : B < b
  d1 : D < b
  wb : w.heap.size ≤ B
  wd : w.heap.size ≤ D
  s1 : b ≤ S
/-- The table, the dice, the rows, the step. -/
structure Sp (Dd : Nat → List Nat → World → Prop) (Mt : Nat → (Nat → Nat) → (Nat → Nat) → World → Prop) (B D b S : Nat) (cs : List Value) (X : List Nat) (v : Value) (L : List MRow) (E T : Nat → Nat) (w w' : World) : Prop where
  mt : Mt B E T w'
  dd : Dd D X w'
  mr : Mr b v L w'
  cs : Cs S cs w'
  below : Below w.heap.size w w'
section
variable {Dd : Nat → List Nat → World → Prop} {Mt : Nat → (Nat → Nat) → (Nat → Nat) → World → Prop} {B D b S : Nat} {cs : List Value} {X X' : List Nat} {v v' : Value} {L L' : List MRow} {E T E' T' : Nat → Nat} {w w1 w2 : World}
theorem Sp.onlyB (h : Sp Dd Mt B D b S cs X v L E T w w1) (hD : Dc.Api Dd) (hl : Sl B D b S w) (ho : Only B w1 w2) (hm : Mt B E' T' w2) : Sp Dd Mt B D b S cs X v L E' T' w w2 :=
  ⟨hm, hD.only h.dd ho hl.ne.symm, h.mr.only ho hl.b1, h.cs.only ho (by have := hl.b1; have := hl.s1; omega), h.below.trans (ho.below hl.wb h.below.size)⟩
theorem Sp.onlyD (h : Sp Dd Mt B D b S cs X v L E T w w1) (hA : Api Dd Mt) (hl : Sl B D b S w) (ho : Only D w1 w2) (hd : Dd D X' w2) : Sp Dd Mt B D b S cs X' v L E T w w2 :=
  ⟨hA.only h.mt ho hl.ne, hd, h.mr.only ho hl.d1, h.cs.only ho (by have := hl.d1; have := hl.s1; omega), h.below.trans (ho.below hl.wd h.below.size)⟩
theorem Sp.two (h : Sp Dd Mt B D b S cs X v L E T w w1) (hl : Sl B D b S w) (ho : Two B D w1 w2) (hm : Mt B E' T' w2) (hd : Dd D X' w2) : Sp Dd Mt B D b S cs X' v L E' T' w w2 :=
  ⟨hm, hd, h.mr.two ho hl.b1 hl.d1, h.cs.two' ho (by have := hl.b1; have := hl.s1; omega) (by have := hl.d1; have := hl.s1; omega), h.below.trans (ho.below hl.wb hl.wd h.below.size)⟩
theorem Sp.bel (h : Sp Dd Mt B D b S cs X v L E T w w1) (hD : Dc.Api Dd) (hA : Api Dd Mt) (hb : Below w1.heap.size w1 w2) : Sp Dd Mt B D b S cs X v L E T w w2 :=
  ⟨hA.below h.mt hb, hD.below h.dd hb, h.mr.below hb, h.cs.below hb h.cs.lt, h.below.trans (hb.mono h.below.size)⟩
theorem Sp.size (h : Sp Dd Mt B D b S cs X v L E T w w1) (hl : Sl B D b S w) : b ≤ w1.heap.size := by have := h.cs.lt; have := hl.s1; omega
theorem Sp.rows (h : Sp Dd Mt B D b S cs X v L E T w w1) (hD : Dc.Api Dd) (hA : Api Dd Mt) (hl : Sl B D b S w) (hb : Below w1.heap.size w1 w2) (hr : Mr w1.heap.size v' L' w2) : Sp Dd Mt B D b S cs X v' L' E T w w2 :=
  ⟨hA.below h.mt hb, hD.below h.dd hb, Rw.mono hr (h.size hl), h.cs.below hb h.cs.lt, h.below.trans (hb.mono h.below.size)⟩
theorem Sp.drew (h : Sp Dd Mt B D b S cs X v L E T w w1) (hD : Dc.Api Dd) (hA : Api Dd Mt) : Sp Dd Mt B D b S cs X v L E T w w1.drew := h.bel hD hA (Below.refl w1.heap.size w1).drew
theorem Sp.alloc (h : Sp Dd Mt B D b S cs X v L E T w w1) (hD : Dc.Api Dd) (hA : Api Dd Mt) (o : Obj) : Sp Dd Mt B D b S cs X v L E T w (w1.alloc o) := h.bel hD hA ((Below.refl w1.heap.size w1).alloc (Nat.le_refl _) o)
/-- A row's cells, and all else. -/
abbrev Kx (Dd : Nat → List Nat → World → Prop) (Mt : Nat → (Nat → Nat) → (Nat → Nat) → World → Prop) (B D b S : Nat) (cs : List Value) (v : Value) (L : List MRow) (E T : Nat → Nat) (w : World) (g q : Nat) (r : MRow) (w' : World) : Prop :=
  w'.cell? ⟨g, q * 4, none⟩ = some (.int .i64 (r.o : Int)) ∧ w'.cell? ⟨g, q * 4 + 1, none⟩ = some (.int .i64 (r.e : Int)) ∧ w'.cell? ⟨g, q * 4 + 2, none⟩ = some (.int .u64 (r.t : Int)) ∧ Sp Dd Mt B D b S cs [] v L E T w w'
theorem kx_of {n cap g q : Nat} {r : MRow} (h : Sp Dd Mt B D b S cs [] (.slice (some ⟨g, 0, none⟩) n cap) L E T w w1) (hq : L[q]? = some r) : Kx Dd Mt B D b S cs (.slice (some ⟨g, 0, none⟩) n cap) L E T w g q r w1 := by
  obtain ⟨_, g', hg, _, _, c0, c1, c2, _⟩ := h.mr.place hq
  injection hg with hg
  injection hg with hg
  subst hg
  exact ⟨c0, c1, c2, h⟩
theorem Sp.kn (hr : Rs L E T) (o e : Int) (t : Nat) {k : Bool} (hk : knL L o e t = k) : decide (0 ≤ o ∧ o ≤ 8 ∧ (t : Int) ≠ 0 ∧ (E o.toNat : Int) = e ∧ (T o.toNat : Int) = (t : Int)) = k := by rw [← hk, rs_knows hr]
theorem ep_of (hr : Rs L E T) (o : Int) {m : Nat} (hm : epN L o = m) : (if 0 ≤ o ∧ o ≤ 8 then (E o.toNat : Int) else 0) = (m : Int) := by
  subst hm
  by_cases ho : 0 ≤ o ∧ o ≤ 8
  · rw [if_pos ho, hr.ep o.toNat (by omega)]
    have : ((o.toNat : Nat) : Int) = o := by omega
    rw [this]
  · rw [if_neg ho]
    have : epN L o = 0 := by
      unfold epN
      rw [List.countP_eq_zero]
      intro r hr2
      have := hr.own r hr2
      simp only [decide_eq_true_eq]
      omega
    rw [this]; rfl
end
theorem is_last (L : List MRow) (o n : Nat) : (isL L o n)[L.length]? = some ⟨o, epN L o + 1, tagN n (epN L o + 1) o, true⟩ := by
  unfold isL
  rw [List.getElem?_append_right (by rw [rv_len]; exact Nat.le_refl _), rv_len, Nat.sub_self]
  rfl
theorem rissue_at (B : Nat) (v : Value) (L : List MRow) (o n : Nat) (w : World) (h : Mr B v L w) (hB : B ≤ w.heap.size) (hl : L.length ≤ 1000000) (ho : o ≤ 8) (hn : n < 18446744073709551616) :
    Calls Try.prog 12 #[v, .int .i64 (o : Int), .int .u64 (n : Int)] w fun e w' => ∃ g cap, e = .returned (.slice (some ⟨g, 0, none⟩) (L.length + 1) cap) ∧ Mr w.heap.size (.slice (some ⟨g, 0, none⟩) (L.length + 1) cap) (isL L o n) w' ∧ Below w.heap.size w w' ∧
      w'.cell? ⟨g, L.length * 4, none⟩ = some (.int .i64 (o : Int)) ∧ w'.cell? ⟨g, L.length * 4 + 1, none⟩ = some (.int .i64 ((epN L o + 1 : Nat) : Int)) ∧ w'.cell? ⟨g, L.length * 4 + 2, none⟩ = some (.int .u64 ((tagN n (epN L o + 1) o : Nat) : Int)) ∧ w'.cell? ⟨g, L.length * 4 + 3, none⟩ = some (.bool true) := by
  refine (rissue_any B v L o n w h hB hl ho hn).mono ?_
  rintro e w' ⟨v', rfl, h1, hb⟩
  obtain ⟨a, cap, rfl, _, _⟩ := Rw.form h1
  obtain ⟨_, g, rfl, _, _, c0, c1, c2, c3⟩ := Mr.place h1 (is_last L o n)
  rw [is_len] at h1 ⊢
  exact ⟨g, cap, rfl, h1, hb, c0, c1, c2, c3⟩
theorem rrevoke_at (B : Nat) (v : Value) (L : List MRow) (o : Int) (w : World) (h : Mr B v L w) (hl : L.length ≤ 1000000) :
    Calls Try.prog 14 #[v, .int .i64 o] w fun e w' => ∃ a cap, e = .returned (.tuple #[.slice a L.length cap, .bool (waB L o)]) ∧ Mr w.heap.size (.slice a L.length cap) (rvL L o) w' ∧ Below w.heap.size w w' := by
  refine (rrevoke_any B v L o w h hl).mono ?_
  rintro e w' ⟨v', rfl, h1, hb⟩
  obtain ⟨a, cap, rfl, _, _⟩ := Rw.form h1
  rw [rv_len] at h1 ⊢
  exact ⟨a, cap, rfl, h1, hb⟩
end Go.Proofs.Ytcbicdmelokanaa.Mc
