/- check's waitsOf: what it lays, and keeps. -/
import Derived.Test.YtdogddliifbjnaaGreatMg20
namespace Go.Proofs.YtdogddliifbjnaaGreat.Ck
open Go.RowKit Cm _root_.Go.Proofs.YtdogddliifbjnaaGreat.Nm Go.Deep
set_option linter.unusedVariables false
set_option linter.unusedSimpArgs false

/-- The three blocks that waitsOf begins with. -/
structure Wz (lb bb wb n : Nat) (w1 wx : World) : Prop where
  l1 : w1.heap.size ≤ lb
  b1 : w1.heap.size ≤ bb
  k1 : w1.heap.size ≤ wb
  nlb : lb ≠ bb
  nlw : lb ≠ wb
  nbw : bb ≠ wb
  hl : wx.heap[lb]? = some (Obj.cells (madeCells #[.int .i64 0] n) 3)
  hb : wx.heap[bb]? = some (Obj.cells (madeCells #[.slice none 0 0] n) 23)
  hw : wx.heap[wb]? = some (Obj.cells #[.slice (some ⟨lb, 0, none⟩) n n, .slice (some ⟨bb, 0, none⟩) n n] 151)
  below : Below w1.heap.size w1 wx
theorem below3 (w : World) (a b c : Obj) : Below w.heap.size w (((w.alloc a).alloc b).alloc c).drew :=
  ((((Below.refl w.heap.size w).alloc (Nat.le_refl _) a).alloc (by simp) b).alloc (by simp; omega) c).drew
theorem at30 (w : World) (a b c : Obj) : (((w.alloc a).alloc b).alloc c).drew.heap[w.heap.size]? = some a := by
  show ((w.alloc a).alloc b |>.alloc c).heap[w.heap.size]? = _
  rw [blk_alloc_lt _ _ _ (by simp; omega), blk_alloc_lt _ _ _ (by simp), blk_alloc_new]
theorem at31 (w : World) (a b c : Obj) : (((w.alloc a).alloc b).alloc c).drew.heap[w.heap.size + 1]? = some b := by
  have e : (w.alloc a).heap.size = w.heap.size + 1 := by simp
  show ((w.alloc a).alloc b |>.alloc c).heap[w.heap.size + 1]? = _
  rw [blk_alloc_lt _ _ _ (by simp), ← e, blk_alloc_new]
theorem at32 (w : World) (a b c : Obj) : (((w.alloc a).alloc b).alloc c).drew.heap[w.heap.size + 1 + 1]? = some c := by
  have e : ((w.alloc a).alloc b).heap.size = w.heap.size + 1 + 1 := by simp
  show ((w.alloc a).alloc b |>.alloc c).heap[w.heap.size + 1 + 1]? = _
  rw [← e, blk_alloc_new]
theorem wz1 (w : World) (n : Nat) : Wz (w.heap.size) (w.heap.size + 1) (w.heap.size + 1 + 1) n w (((w.alloc (.cells (madeCells #[.int .i64 0] n) 3)).alloc (.cells (madeCells #[.slice none 0 0] n) 23)).alloc (.cells #[.slice (some ⟨w.heap.size, 0, none⟩) n n, .slice (some ⟨w.heap.size + 1, 0, none⟩) n n] 151)).drew :=
  ⟨by omega, by omega, by omega, by omega, by omega, by omega, at30 _ _ _ _, at31 _ _ _ _, at32 _ _ _ _, below3 _ _ _ _⟩
theorem wz2 (w : World) (n : Nat) : Wz (w.heap.size) (w.heap.size + 1 + 1) (w.heap.size + 1) n w (((w.alloc (.cells (madeCells #[.int .i64 0] n) 3)).alloc (.cells #[.slice (some ⟨w.heap.size, 0, none⟩) n n, .slice (some ⟨w.heap.size + 1 + 1, 0, none⟩) n n] 151)).alloc (.cells (madeCells #[.slice none 0 0] n) 23)).drew :=
  ⟨by omega, by omega, by omega, by omega, by omega, by omega, at30 _ _ _ _, at32 _ _ _ _, at31 _ _ _ _, below3 _ _ _ _⟩
theorem wz3 (w : World) (n : Nat) : Wz (w.heap.size + 1) (w.heap.size) (w.heap.size + 1 + 1) n w (((w.alloc (.cells (madeCells #[.slice none 0 0] n) 23)).alloc (.cells (madeCells #[.int .i64 0] n) 3)).alloc (.cells #[.slice (some ⟨w.heap.size + 1, 0, none⟩) n n, .slice (some ⟨w.heap.size, 0, none⟩) n n] 151)).drew :=
  ⟨by omega, by omega, by omega, by omega, by omega, by omega, at31 _ _ _ _, at30 _ _ _ _, at32 _ _ _ _, below3 _ _ _ _⟩
theorem wz4 (w : World) (n : Nat) : Wz (w.heap.size + 1 + 1) (w.heap.size) (w.heap.size + 1) n w (((w.alloc (.cells (madeCells #[.slice none 0 0] n) 23)).alloc (.cells #[.slice (some ⟨w.heap.size + 1 + 1, 0, none⟩) n n, .slice (some ⟨w.heap.size, 0, none⟩) n n] 151)).alloc (.cells (madeCells #[.int .i64 0] n) 3)).drew :=
  ⟨by omega, by omega, by omega, by omega, by omega, by omega, at32 _ _ _ _, at30 _ _ _ _, at31 _ _ _ _, below3 _ _ _ _⟩
theorem wz5 (w : World) (n : Nat) : Wz (w.heap.size + 1) (w.heap.size + 1 + 1) (w.heap.size) n w (((w.alloc (.cells #[.slice (some ⟨w.heap.size + 1, 0, none⟩) n n, .slice (some ⟨w.heap.size + 1 + 1, 0, none⟩) n n] 151)).alloc (.cells (madeCells #[.int .i64 0] n) 3)).alloc (.cells (madeCells #[.slice none 0 0] n) 23)).drew :=
  ⟨by omega, by omega, by omega, by omega, by omega, by omega, at31 _ _ _ _, at32 _ _ _ _, at30 _ _ _ _, below3 _ _ _ _⟩
theorem wz6 (w : World) (n : Nat) : Wz (w.heap.size + 1 + 1) (w.heap.size + 1) (w.heap.size) n w (((w.alloc (.cells #[.slice (some ⟨w.heap.size + 1 + 1, 0, none⟩) n n, .slice (some ⟨w.heap.size + 1, 0, none⟩) n n] 151)).alloc (.cells (madeCells #[.slice none 0 0] n) 23)).alloc (.cells (madeCells #[.int .i64 0] n) 3)).drew :=
  ⟨by omega, by omega, by omega, by omega, by omega, by omega, at32 _ _ _ _, at31 _ _ _ _, at30 _ _ _ _, below3 _ _ _ _⟩

/-- The blocks' places. -/
structure Wk (lb bb wb B0 : Nat) (w1 : World) : Prop where
  l1 : w1.heap.size ≤ lb
  b1 : w1.heap.size ≤ bb
  k1 : w1.heap.size ≤ wb
  nlb : lb ≠ bb
  nlw : lb ≠ wb
  nbw : bb ≠ wb
  l0 : lb < B0
  b0 : bb < B0
  k0 : wb < B0
/-- What is kept while waits are laid. -/
structure Ws (lb bb wb B0 n : Nat) (w1 : World) (bv : Nat → Value) (bx : Nat → List Nat) (L : Nat → Int) (wr : World) : Prop where
  li : Li lb n L wr
  bh : Bh bb n B0 bv bx wr
  box : Cs wb [.slice (some ⟨lb, 0, none⟩) n n, .slice (some ⟨bb, 0, none⟩) n n] wr
  below : Below w1.heap.size w1 wr
  sz : B0 ≤ wr.heap.size
theorem Wz.start {lb bb wb n : Nat} {w1 wx : World} (h : Wz lb bb wb n w1 wx) : Wk lb bb wb wx.heap.size w1 ∧ Ws lb bb wb wx.heap.size n w1 (fun _ => .slice none 0 0) (fun _ => []) (fun _ => 0) wx := by
  have g : ∀ {b : Nat} {o : Obj}, wx.heap[b]? = some o → b < wx.heap.size := fun e => (Array.getElem?_eq_some_iff.1 e).1
  refine ⟨⟨h.l1, h.b1, h.k1, h.nlb, h.nlw, h.nbw, g h.hl, g h.hb, g h.hw⟩, ⟨⟨_, h.hl, size_madeCells _ _, fun i hi => by simp [madeCells, hi, Nat.mod_one]⟩, ⟨⟨_, h.hb, size_madeCells _ _, fun i hi => by simp [madeCells, hi, Nat.mod_one]⟩, fun k _ => Ri.nil _ _, fun i k _ _ _ => Ap.nil _⟩, ⟨fun i v hi => ?_, g h.hw⟩, h.below, Nat.le_refl _⟩⟩
  have hw := h.hw
  match i, hi with
  | 0, hi => exact ⟨by simp [World.cell?, hw] at hi ⊢; exact hi, by simp [World.frozen?, hw]⟩
  | 1, hi => exact ⟨by simp [World.cell?, hw] at hi ⊢; exact hi, by simp [World.frozen?, hw]⟩
  | i + 2, hi => simp at hi
section
variable {lb bb wb B0 n : Nat} {w1 wr w' : World} {bv : Nat → Value} {bx : Nat → List Nat} {L : Nat → Int}
theorem Ws.step (h : Ws lb bb wb B0 n w1 bv bx L wr) (hb : Below wr.heap.size wr w') : Ws lb bb wb B0 n w1 bv bx L w' :=
  ⟨ri_below h.li hb h.li.lt, h.bh.below hb, h.box.below hb h.box.lt, h.below.trans (hb.mono h.below.size), Nat.le_trans h.sz hb.size⟩
theorem Ws.alloc (h : Ws lb bb wb B0 n w1 bv bx L wr) (o : Obj) : Ws lb bb wb B0 n w1 bv bx L (wr.alloc o) := h.step ((Below.refl _ _).alloc (Nat.le_refl _) o)
theorem Ws.drew (h : Ws lb bb wb B0 n w1 bv bx L wr) : Ws lb bb wb B0 n w1 bv bx L wr.drew := h.step (Below.refl _ _).drew
theorem Ws.setL (h : Ws lb bb wb B0 n w1 bv bx L wr) (hk : Wk lb bb wb B0 w1) (j : Nat) (x : Int) : Ws lb bb wb B0 n w1 bv bx (fun i => if i = j then x else L i) (wr.setCell ⟨lb, j, none⟩ (.int .i64 x)) := by
  refine ⟨(h.li.set j _).congr fun i _ => ?_, ⟨h.bh.row.setOther (by exact (Ne.symm hk.nlb)) _, fun k hk2 => (h.bh.each k hk2).setCell hk.l0, h.bh.apart⟩, h.box.other _ (Ne.symm hk.nlw), h.below.setCell hk.l1 _, by have := h.sz; simpa [World.setCell] using this⟩
  by_cases e : i = j
  · simp [e]
  · simp [e]
theorem Ws.push (h : Ws lb bb wb B0 n w1 bv bx L wr) (hk : Wk lb bb wb B0 w1) {p i : Nat} (hp : p < n) {v' : Value} (hr : Ri B0 v' (bx p ++ [i]) w') (hg : wr.grownBy w' (bv p).ownBlock) (hG : Grew (bv p) v' wr) :
    Ws lb bb wb B0 n w1 (fun q => if q = p then v' else bv q) (fun q => if q = p then bx p ++ [i] else bx q) L (w'.setCell ⟨bb, p, none⟩ v') := by
  have hrow : ∀ k, (bv p).ownBlock = some k → B0 ≤ k := fun k hk => ((h.bh.each p hp).block k hk).1
  have hkb := hk.b0
  have hkl := hk.l0
  have hkw := hk.k0
  have hkb1 := hk.b1
  have hsz := h.sz
  refine ⟨(ri_grown h.li hg (fun e => by have := hrow lb e.symm; omega)).setOther (by exact hk.nlb) _, ⟨?_, ?_, ?_⟩, (h.box.besideRow (h.bh.each p hp) hkw hg).other _ (Ne.symm hk.nbw), (h.below.grown hg h.below.size (fun k hk2 => by have := hrow k hk2; omega)).setCell hkb1 _, by have h1 := hg.size; simp [World.setCell]; omega⟩
  · refine ((ri_grown h.bh.row hg (fun e => by have := hrow bb e.symm; omega)).set p v').congr fun q _ => rfl
  · intro q hq
    by_cases e : q = p
    · subst e
      simp only [if_true]
      exact hr.setCell hkb
    · simp only [if_neg e]
      exact ((h.bh.each q hq).kept hg (h.bh.apart p q hp hq (Ne.symm e)).left).setCell hkb
  · intro a b ha hb hab
    by_cases ea : a = p
    · subst ea
      have eb : ¬ b = a := fun e => hab e.symm
      simp only [if_true, if_neg eb]
      exact (h.bh.apart a b ha hb hab).grew (h.bh.each b hb) hG
    · by_cases eb : b = p
      · subst eb
        simp only [if_true, if_neg ea]
        exact ((h.bh.apart b a hb ha (Ne.symm hab)).grew (h.bh.each a ha) hG).symm
      · simp only [if_neg ea, if_neg eb]
        exact h.bh.apart a b ha hb hab
end

theorem Ws.mid {lb bb wb B0 n : Nat} {w1 wr w' : World} {bv : Nat → Value} {bx : Nat → List Nat} {L : Nat → Int} (h : Ws lb bb wb B0 n w1 bv bx L wr) (hk : Wk lb bb wb B0 w1) {p : Nat} (hp : p < n) (hg : wr.grownBy w' (bv p).ownBlock) :
    Cs wb [.slice (some ⟨lb, 0, none⟩) n n, .slice (some ⟨bb, 0, none⟩) n n] w' ∧ w'.rowIs bb 23 n bv := by
  have hrow : ∀ k, (bv p).ownBlock = some k → B0 ≤ k := fun k hk => ((h.bh.each p hp).block k hk).1
  have hkb := hk.b0
  exact ⟨h.box.besideRow (h.bh.each p hp) hk.k0 hg, ri_grown h.bh.row hg (fun e => by have := hrow bb e.symm; omega)⟩
theorem Ws.congrL {lb bb wb B0 n : Nat} {w1 wr : World} {bv : Nat → Value} {bx : Nat → List Nat} {L L' : Nat → Int} (h : Ws lb bb wb B0 n w1 bv bx L wr) (e : ∀ i, i < n → L i = L' i) : Ws lb bb wb B0 n w1 bv bx L' wr :=
  ⟨h.li.congr fun i hi => by rw [e i hi], h.bh, h.box, h.below, h.sz⟩
theorem Bh.other {bb n B0 b i : Nat} {bv : Nat → Value} {bx : Nat → List Nat} {w : World} {u : Value} (h : Bh bb n B0 bv bx w) (h1 : b < B0) (h2 : bb ≠ b) : Bh bb n B0 bv bx (w.setCell ⟨b, i, none⟩ u) :=
  ⟨h.row.setOther (by exact h2) _, fun k hk => (h.each k hk).setCell h1, h.apart⟩

/-- How often j stands behind q, when declarations below i, and k fields of i, were gone through. -/
def csS (s : Sy) (i k q j : Nat) : Nat := if j < i ∧ (s.K j = 1 ∨ s.K j = 2) then cnB (toB s q j) (s.l j) else if j = i then cnB (toB s q i) k else 0
theorem cs_start (s : Sy) (q j : Nat) : csS s 0 0 q j = 0 := by
  unfold csS
  by_cases e : j = 0
  · simp [e, cnB]
  · simp [e]
theorem cs_skip (s : Sy) {i : Nat} (h : ¬ (s.K i = 1 ∨ s.K i = 2)) (q j : Nat) : csS s (i + 1) 0 q j = csS s i 0 q j := by
  unfold csS
  by_cases e : j = i
  · subst e
    simp [h, cnB]
  · by_cases e2 : j = i + 1
    · subst e2
      simp [cnB]
      intro a; omega
    · have : j < i + 1 ↔ j < i := by omega
      simp [e, e2, this]
theorem cs_next (s : Sy) {i : Nat} (h : s.K i = 1 ∨ s.K i = 2) (q j : Nat) : csS s (i + 1) 0 q j = csS s i (s.l i) q j := by
  unfold csS
  by_cases e : j = i
  · subst e
    simp [h]
  · by_cases e2 : j = i + 1
    · subst e2
      simp [cnB]
      intro a; omega
    · have : j < i + 1 ↔ j < i := by omega
      simp [e, e2, this]
theorem cs_end (s : Sy) (q j : Nat) : csS s s.n 0 q j = toS s q j := by
  unfold csS toS
  by_cases h : j < s.n ∧ (s.K j = 1 ∨ s.K j = 2)
  · rw [if_pos h, if_pos h]
  · rw [if_neg h, if_neg h]
    simp [cnB]
theorem cs_miss (s : Sy) {i k : Nat} (h : ∀ q, toB s q i k = false) (q j : Nat) : csS s i (k + 1) q j = csS s i k q j := by
  unfold csS
  rw [cnB_miss (h q)]
theorem cs_hit (s : Sy) {i k p : Nat} (h : s.r i k = some (some p)) {bx : Nat → List Nat} (hc : ∀ q j, (bx q).count j = csS s i k q j) (q j : Nat) : ((fun q => if q = p then bx p ++ [i] else bx q) q).count j = csS s i (k + 1) q j := by
  have ht : toB s q i k = (p == q) := by unfold toB; rw [h]
  by_cases e : q = p
  · subst e
    simp only [if_true]
    by_cases ej : j = i
    · subst ej
      rw [cnt_same, hc]
      unfold csS
      have : ¬ (j < j ∧ (s.K j = 1 ∨ s.K j = 2)) := fun a => by omega
      rw [if_neg this, if_neg this, if_pos rfl, if_pos rfl, cnB_hit (by rw [ht]; simp)]
    · rw [cnt_other _ ej, hc]
      unfold csS
      by_cases h1 : j < i ∧ (s.K j = 1 ∨ s.K j = 2)
      · rw [if_pos h1, if_pos h1]
      · rw [if_neg h1, if_neg h1, if_neg ej, if_neg ej]
  · simp only [if_neg e]
    rw [hc]
    unfold csS
    have : toB s q i k = false := by rw [ht]; simpa using Ne.symm e
    rw [cnB_miss this]
end Go.Proofs.YtdogddliifbjnaaGreat.Ck
