/- check's Finite. -/
import Derived.Test.YthcpepifikpmeaaCkLaid
namespace Go.Proofs.Ythcpepifikpmeaa.Ck
open Go.RowKit Cm _root_.Go.Proofs.Ythcpepifikpmeaa.Nm Go.Deep
set_option linter.unusedVariables false
set_option linter.unusedSimpArgs false

theorem nodup_lt : ∀ (n : Nat) (l : List Nat), l.Nodup → (∀ x, x ∈ l → x < n) → l.length ≤ n
  | 0, l, _, h => by
    cases l with
    | nil => simp
    | cons x l => exact absurd (h x (List.mem_cons_self)) (by omega)
  | n + 1, l, hn, h => by
    have e := List.length_eq_countP_add_countP (fun x => x == n) (l := l)
    have c1 : l.countP (fun x => x == n) ≤ 1 := List.nodup_iff_count.1 hn n
    have i := nodup_lt n (l.filter (fun x => decide ¬((x == n) = true))) (List.Pairwise.filter _ hn) (fun x hx => by
      rw [List.mem_filter] at hx
      have h1 := h x hx.1
      have h2 := hx.2
      simp at h2
      omega)
    rw [List.countP_eq_length_filter (p := fun a => decide ¬((a == n) = true))] at e
    omega
theorem flat_le {bx : Nat → List Nat} {m : Nat} : ∀ (l : List Nat), (∀ q, q ∈ l → (bx q).length ≤ m) → (l.flatMap bx).length ≤ m * l.length
  | [], _ => by simp
  | q :: l, h => by
    have i := flat_le l (fun x hx => h x (List.mem_cons_of_mem _ hx))
    have h1 := h q (List.mem_cons_self)
    rw [List.flatMap_cons, List.length_append, List.length_cons, Nat.mul_succ]; omega
theorem adL_app : ∀ (a b : List Nat) (P : Nat → Bool), adL P (a ++ b) = adL (adL P a) b
  | [], b, P => rfl
  | q :: a, b, P => adL_app a b (adP P q)

theorem lf_none (s : Sy) (j : Nat) : lfS s (fun _ => false) j = ndS s j := by
  have hz : rcS s (fun _ => false) j = 0 := by
    unfold rcS
    split
    · generalize s.l j = m
      induction m with
      | zero => rfl
      | succ m ih =>
        have : hiB s (fun _ => false) j m = false := by
          unfold hiB
          split <;> rfl
        rw [cnB_miss this]; exact ih
    · rfl
  unfold lfS
  rw [hz]; omega
/-- The loop's measure: how many are waited for, and is anything found? -/
def pzW (lb : Nat) (w : World) (j : Nat) : Bool := match w.cell? ⟨lb, j, none⟩ with | some (.int _ z) => decide (0 < z) | _ => false
def nzV : Value → Nat | .slice _ 0 _ => 0 | _ => 1
theorem pz_eq {lb n : Nat} {L : Nat → Int} {w : World} (h : Li lb n L w) : cnB (pzW lb w) n = cnB (pzB L) n :=
  cnB_congr fun k hk => by unfold pzW pzB; rw [h.cell hk]

/-- What is kept from round to round. -/
structure Fm (s : Sy) (n lb bb wb g B0 B1 : Nat) (w : World) (bv : Nat → Value) (bx : Nat → List Nat) (P : Nat → Bool) (l : List Nat) (v : Value) (wr : World) : Prop where
  fd : Fd s P l
  li : Li lb n (lfS s P) wr
  bh : Bh bb n B0 bv bx wr
  ri : Ri B1 v l wr
  fin : Bl g n P wr
  box : Cs wb [.slice (some ⟨lb, 0, none⟩) n n, .slice (some ⟨bb, 0, none⟩) n n] wr
  below : Below w.heap.size w wr
  sz : B1 ≤ wr.heap.size
/-- What does not change at all. -/
structure Fk (s : Sy) (n lb bb wb g B0 B1 : Nat) (w : World) (bx : Nat → List Nat) : Prop where
  eq : s.n = n
  n21 : n ≤ 21
  l0 : lb < B0
  g0 : g < B0
  lB : lb < B1
  gB : g < B1
  ne : bb ≠ lb
  gl : g ≠ lb
  gb : g ≠ bb
  wl : wb ≠ lb
  wg : wb ≠ g
  w1 : w.heap.size ≤ lb
  w2 : w.heap.size ≤ g
  cnt : ∀ q j, q < n → (bx q).count j = toS s q j
  len : ∀ q, q < n → (bx q).length ≤ 1000
  nd : ∀ j, j < n → s.l j ≤ 30
section
variable {s : Sy} {n lb bb wb g B0 B1 : Nat} {w wr : World} {bv : Nat → Value} {bx : Nat → List Nat} {P : Nat → Bool} {l : List Nat} {v : Value}
theorem Fk.bx_lt (h : Fk s n lb bb wb g B0 B1 w bx) {q j : Nat} (hq : q < n) (hj : j ∈ bx q) : j < n := by
  have h1 : 0 < (bx q).count j := List.count_pos_iff.2 hj
  rw [h.cnt q j hq] at h1
  unfold toS at h1
  by_cases e : j < s.n ∧ (s.K j = 1 ∨ s.K j = 2)
  · rw [← h.eq]; exact e.1
  · rw [if_neg e] at h1; omega
theorem Fk.bounds (h : Fk s n lb bb wb g B0 B1 w bx) (P : Nat → Bool) {j : Nat} (hj : j < n) : -1000000 ≤ lfS s P j ∧ lfS s P j ≤ 1000000 := by
  have h1 := cnB_le (naB s j) (s.l j)
  have h2 := cnB_le (hiB s P j) (s.l j)
  have h3 := h.nd j hj
  unfold lfS ndS rcS
  constructor
  · split <;> split <;> (try split) <;> (try split) <;> omega
  · split <;> split <;> (try split) <;> (try split) <;> omega
theorem Fm.flat (h : Fm s n lb bb wb g B0 B1 w bv bx P l v wr) (hk : Fk s n lb bb wb g B0 B1 w bx) : (l.flatMap bx).length ≤ 1000000 := by
  have h1 := nodup_lt s.n l h.fd.nodup (fun x hx => (h.fd.new x hx).1)
  have h2 := flat_le (m := 1000) l (fun q hq => hk.len q (by rw [← hk.eq]; exact (h.fd.new q hq).1))
  have := hk.n21
  have := hk.eq
  have : 1000 * l.length ≤ 1000 * 21 := Nat.mul_le_mul_left _ (by omega)
  omega
/-- Behind a round. -/
theorem Fm.next {w0 wq w' : World} {v' : Value} {l' : List Nat} (h : Fm s n lb bb wb g B0 B1 w bv bx P l v w0) (hk : Fk s n lb bb wb g B0 B1 w bx) (hf : Bl g n (adL P l) wq) (ho : Only g w0 wq)
    (hr : Fr (lfS s P) (l.flatMap bx) l') (hL : Li lb n (fun j => lfS s P j - ((l.flatMap bx).count j : Int)) w') (hv : Ri wq.heap.size v' l' w') (ho2 : Only lb wq w') : Fm s n lb bb wb g B0 B1 w bv bx (adL P l) l' v' w' := by
  obtain ⟨h1, h2⟩ := h.fd.round (bx := bx) (fun q j hq => hk.cnt q j (by rw [← hk.eq]; exact hq)) (fun q j hq hj => by rw [hk.eq]; exact hk.bx_lt (by rw [← hk.eq]; exact hq) hj) hr
  have hs := Nat.le_trans h.sz ho.size
  refine ⟨h1, hL.congr fun i _ => congrArg (Value.int .i64) (h2 i), (h.bh.only ho hk.g0 (Ne.symm hk.gb)).only ho2 hk.l0 hk.ne, hv.mono hs, ri_only (f := fun i => .bool (adL P l i)) hf ho2 hk.gl, (h.box.only ho hk.wg).only ho2 hk.wl, ?_, Nat.le_trans hs ho2.size⟩
  exact (h.below.trans (ho.below hk.w2 h.below.size)).trans (ho2.below hk.w1 (Nat.le_trans h.below.size ho.size))
theorem Fm.less {w0 w' : World} {v' : Value} {l' : List Nat} (h : Fm s n lb bb wb g B0 B1 w bv bx P l v w0) (hk : Fk s n lb bb wb g B0 B1 w bx) (hl : l ≠ [])
    (hr : Fr (lfS s P) (l.flatMap bx) l') (hL : Li lb n (fun j => lfS s P j - ((l.flatMap bx).count j : Int)) w') {B : Nat} (hv : Ri B v' l' w') : cnB (pzW lb w') n + nzV v' < cnB (pzW lb w0) n + nzV v := by
  rw [pz_eq h.li, pz_eq hL]
  have hn : nzV v = 1 := by
    obtain ⟨o, c, e, _, _⟩ := h.ri.form
    rw [e]
    cases hl2 : l.length with
    | zero => exact absurd (List.eq_nil_of_length_eq_zero hl2) hl
    | succ k => rfl
  have hn' : nzV v' ≤ 1 := by
    unfold nzV
    split <;> omega
  by_cases hl' : l' = []
  · have : nzV v' = 0 := by
      obtain ⟨o, c, e, _, _⟩ := hv.form
      rw [e, hl']; rfl
    have := Fr.le (L := lfS s P) (ps := l.flatMap bx) (n := n)
    omega
  · obtain ⟨h1, _⟩ := h.fd.round (bx := bx) (fun q j hq => hk.cnt q j (by rw [← hk.eq]; exact hq)) (fun q j hq hj => by rw [hk.eq]; exact hk.bx_lt (by rw [← hk.eq]; exact hq) hj) hr
    have := hr.fewer (n := n) (fun j hj => by rw [← hk.eq]; exact (h1.new j hj).1) hl'
    omega
end
end Go.Proofs.Ythcpepifikpmeaa.Ck
