/- Slices of the call's own that may begin in the midst of their block (what is left behind 'l = l[1:]'): what is kept of them, a piece of one, append of any such slice's elements, as a law. For every package. -/
import Derived.Test.YtldjefnijkefcaaCmR
import Derived.Deep.Upon
namespace Go.Proofs.Ytldjefnijkefcaa.Cm
open Go.RowKit
set_option linter.unusedVariables false
set_option linter.unusedSimpArgs false

theorem heapSize_setCells (g : Nat) : ∀ (vs : List Value) (o : Nat) (w : World), (w.setCells g o vs).heap.size = w.heap.size
  | [], _, _ => rfl
  | v :: r, o, w => by rw [World.setCells, heapSize_setCells g r]; simp [World.setCell]
theorem setCells_tape (g : Nat) : ∀ (vs : List Value) (o : Nat) (w : World), (w.setCells g o vs).tape = w.tape
  | [], _, _ => rfl
  | v :: r, o, w => by rw [World.setCells, setCells_tape g r]; rfl
/-- A slice of the call's own: n elements of s cells each, and what the cells hold; its block is none below B; all that its capacity reaches may be written. -/
def Qw (s B : Nat) (v : Value) (n : Nat) (xs : List Value) (w : World) : Prop :=
  xs.length = n * s ∧ ((v = .slice none 0 0 ∧ n = 0) ∨
    ∃ g o cap, v = .slice (some ⟨g, o, none⟩) n cap ∧ B ≤ g ∧ g < w.heap.size ∧ n ≤ cap ∧ cap ≤ maxLen ∧ (∀ j, j < cap * s → (w.cell? ⟨g, o + j, none⟩).isSome = true ∧ w.frozen? ⟨g, o + j, none⟩ = false) ∧ ∀ j u, xs[j]? = some u → w.cell? ⟨g, o + j, none⟩ = some u)
section
variable {s B n : Nat} {v : Value} {xs : List Value} {w w' : World}
theorem Qw.nil (s B : Nat) (w : World) : Qw s B (.slice none 0 0) 0 [] w := ⟨by simp, .inl ⟨rfl, rfl⟩⟩
theorem Qw.kept {row : Option Nat} (h : Qw s B v n xs w) (hg : w.grownBy w' row) (hne : v.ownBlock = none ∨ v.ownBlock ≠ row) : Qw s B v n xs w' := by
  refine ⟨h.1, ?_⟩
  rcases h.2 with h0 | ⟨g, o, cap, rfl, hb, hl, hnc, hcm, hth, hx⟩
  · exact .inl h0
  · have hk : w'.heap[g]? = w.heap[g]? := hg.block g hl (by
      rcases hne with h0 | h0
      · simp [Value.ownBlock] at h0
      · intro e; exact h0 (by rw [← e]; rfl))
    exact .inr ⟨g, o, cap, rfl, hb, Nat.lt_of_lt_of_le hl hg.size, hnc, hcm, fun j hj => by
      rw [World.cell?_of_block (a := ⟨g, o + j, none⟩) hk, World.frozen?_of_block (a := ⟨g, o + j, none⟩) hk]; exact hth j hj, fun j u hu => by
      rw [World.cell?_of_block (a := ⟨g, o + j, none⟩) hk]; exact hx j u hu⟩
theorem Qw.below (h : Qw s B v n xs w) (hb : Below w.heap.size w w') : Qw s B v n xs w' :=
  h.kept (row := none) ⟨hb.os, hb.tape, hb.output, hb.size, fun k hk _ => hb.block k hk⟩ (by cases v.ownBlock <;> simp)
theorem Qw.alloc (h : Qw s B v n xs w) (o : Obj) : Qw s B v n xs (w.alloc o) := h.below ((Below.refl _ _).alloc (Nat.le_refl _) o)
theorem Qw.drew (h : Qw s B v n xs w) : Qw s B v n xs w.drew := h
theorem Qw.block (h : Qw s B v n xs w) : ∀ k, v.ownBlock = some k → B ≤ k ∧ k < w.heap.size := fun k hk => by
  rcases h.2 with ⟨rfl, _⟩ | ⟨g, o, cap, rfl, hb, hl, _⟩
  · simp [Value.ownBlock] at hk
  · obtain rfl : g = k := by simpa [Value.ownBlock] using hk
    exact ⟨hb, hl⟩
/-- Another block is turned, or one below. -/
theorem Qw.only {b : Nat} (h : Qw s B v n xs w) (ho : Only b w w') (hb : v.ownBlock ≠ some b) : Qw s B v n xs w' :=
  h.kept (row := some b) ⟨ho.os, ho.tape, ho.output, ho.size, fun k hk hne => ho.block k hk (fun e => hne (by rw [e]))⟩ (.inr hb)
theorem Qw.mono {B' : Nat} (h : Qw s B v n xs w) (hb : B' ≤ B) : Qw s B' v n xs w := by
  refine ⟨h.1, ?_⟩
  rcases h.2 with h0 | ⟨g, o, cap, hv, hbg, rest⟩
  · exact .inl h0
  · exact .inr ⟨g, o, cap, hv, Nat.le_trans hb hbg, rest⟩
theorem Qw.form (h : Qw s B v n xs w) : ∃ a cap, v = .slice a n cap ∧ n ≤ cap ∧ cap ≤ maxLen ∧ ∀ i u, xs[i]? = some u → ∃ g o, a = some ⟨g, o, none⟩ ∧ w.cell? ⟨g, o + i, none⟩ = some u := by
  rcases h.2 with ⟨rfl, h0⟩ | ⟨g, o, cap, rfl, _, _, hn, hc, _, hx⟩
  · subst h0
    refine ⟨none, 0, rfl, Nat.le_refl _, Nat.zero_le _, fun i u hu => ?_⟩
    have h1 := h.1
    rw [Nat.zero_mul] at h1
    rw [List.eq_nil_of_length_eq_zero h1] at hu; simp at hu
  · exact ⟨_, cap, rfl, hn, hc, fun i u hu => ⟨g, o, rfl, hx i u hu⟩⟩
theorem Qw.form1 (h : Qw s B v n xs w) (hn : 0 < n) : ∃ g o cap, v = .slice (some ⟨g, o, none⟩) n cap ∧ B ≤ g ∧ g < w.heap.size ∧ n ≤ cap ∧ cap ≤ maxLen ∧ ∀ i u, xs[i]? = some u → w.cell? ⟨g, o + i, none⟩ = some u := by
  rcases h.2 with ⟨rfl, h0⟩ | ⟨g, o, cap, rfl, hb, hl, hnc, hc, _, hx⟩
  · omega
  · exact ⟨g, o, cap, rfl, hb, hl, hnc, hc, hx⟩
/-- A slice's own that begins its block is one. -/
theorem Rw.queue {e : TypeId} (h : Rw e s B v n xs w) : Qw s B v n xs w := by
  refine ⟨h.1, ?_⟩
  rcases h.2 with h0 | ⟨g, cap, cur, rfl, hb, hgg, hn, hc, hsz, ht⟩
  · exact .inl h0
  · have hgl := (Array.getElem?_eq_some_iff.1 hgg).1
    refine .inr ⟨g, 0, cap, rfl, hb, hgl, hn, hc, fun j hj => ⟨?_, ?_⟩, fun j u hu => ?_⟩
    · simp only [World.cell?, hgg]
      simp; omega
    · simp [World.frozen?, hgg]
    · have := World.ownsRow.cells h rfl j u hu
      rw [Addr.add_lit] at this
      exact this
/-- What is taken of one. -/
theorem Qw.src {P : Program} {tx e' : TypeId} (hk : P.underlying tx = some (.slice e')) (h : Qw s B v n xs w) (h1 : ∀ z ∈ xs, z.oneCell' = true) : Src P s tx v n xs w := by
  rcases h.2 with ⟨rfl, h0⟩ | ⟨g, o, cap, rfl, _, _, _, _, _, hx⟩
  · subst h0
    obtain rfl : xs = [] := List.eq_nil_of_length_eq_zero (by simpa using h.1)
    exact Src.ofNil w hk 0
  · exact Src.ofSlice w hk ⟨g, o, none⟩ n cap xs h.1 (fun j u hu => by rw [Addr.add_lit]; exact hx j u hu) h1
/-- append of the elements of any slice of the call's own. -/
theorem Qw.append {P : Program} (t ty e : TypeId) (s B B' bytes : Nat) (ht : P.underlying t = some (.slice e)) (hi : ∃ i z, P.info? e = some i ∧ i.zero = some z ∧ i.size = s ∧ i.bytes = bytes ∧ z.cells.size = s)
    {v u : Value} {n m : Nat} {xs ys : List Value} {w : World} (h : Qw s B v n xs w) (h' : Qw s B' u m ys w) (h1 : ∀ z ∈ ys, z.oneCell' = true) (hm : n + m ≤ maxLen) (hbt : (n + m) * bytes ≤ 140737488355328) (hbase : B ≤ w.heap.size) :
    ∃ v' w', (Builtin.append_ #[t, t] ty #[v, u]).run P w = .ok v' w' ∧ Qw s B v' (n + m) (xs ++ ys) w' ∧ w.grownBy w' v.ownBlock ∧ Grew v v' w := by
  obtain ⟨i, z, hi, hz, hsz, hby, hzs⟩ := hi
  subst hsz
  subst hby
  have hs := h'.src ht h1
  have hlx := h.1
  have hly := h'.1
  have hlen : (xs ++ ys).length = (n + m) * i.size := by rw [List.length_append, hlx, hly, Nat.add_mul]
  have h63 : n + m ≤ 9223372036854775807 := by unfold maxLen at hm; omega
  -- a new row
  have grow : ∀ (bs : Option Addr) (sc : Nat), v = .slice bs n sc → sc < n + m → (Builtin.firstCells i.size n (.slice bs n sc)).run P w.drew = .ok xs.toArray w.drew →
      ∃ v' w', (Builtin.append_ #[t, t] ty #[v, u]).run P w = .ok v' w' ∧ Qw i.size B v' (n + m) (xs ++ ys) w' ∧ w.grownBy w' v.ownBlock ∧ Grew v v' w := by
    rintro bs sc rfl hg hold
    have hrun := run_append_grow_src (P := P) w t t ty e i z ht hi hz bs n sc xs hold u m ys hs hg (by omega) (growslice_fits hg hbt)
    have hge := grownCap_ge w (n + m) sc e
    have hcm := grownCap_le_maxLen w (n + m) sc e hm
    have hsz : ((xs ++ ys).toArray ++ Builtin.zeroCells z.cells (grownCap w (n + m) sc e - (n + m))).size = grownCap w (n + m) sc e * i.size := by
      rw [Array.size_append, List.size_toArray, hlen, size_zeroCells, hzs, ← Nat.add_mul]
      congr 1
      omega
    refine ⟨_, _, hrun, ⟨hlen, .inr ⟨w.heap.size, 0, _, rfl, hbase, by simp [World.alloc], hge, hcm, fun j hj => ⟨?_, ?_⟩, fun j x hx => ?_⟩⟩, ⟨rfl, rfl, rfl, by simp [World.alloc], fun k hk _ => Below.heap_alloc w.drew _ k hk⟩, .inr rfl⟩
    · have e1 : (w.drew.alloc (.cells ((xs ++ ys).toArray ++ Builtin.zeroCells z.cells (grownCap w (n + m) sc e - (n + m))) e)).cell? ⟨w.heap.size, j, none⟩ = _ := World.cell?_alloc_new w.drew _ _ j
      rw [Nat.zero_add, e1, Array.getElem?_eq_getElem (by rw [hsz]; exact hj)]
      rfl
    · rw [Nat.zero_add]; exact World.frozen?_alloc_new w.drew _ _ j
    · have e1 : (w.drew.alloc (.cells ((xs ++ ys).toArray ++ Builtin.zeroCells z.cells (grownCap w (n + m) sc e - (n + m))) e)).cell? ⟨w.heap.size, j, none⟩ = _ := World.cell?_alloc_new w.drew _ _ j
      have hj : j < (xs ++ ys).length := (List.getElem?_eq_some_iff.1 hx).1
      rw [Nat.zero_add, e1, Array.getElem?_append_left (by simpa using hj), List.getElem?_toArray]
      exact hx
  rcases h.2 with ⟨rfl, rfl⟩ | ⟨g, o, cap, rfl, hb, hgl, hnc, hcm, hth, hx⟩
  · obtain rfl : xs = [] := List.eq_nil_of_length_eq_zero (by simpa using hlx)
    by_cases hm0 : m = 0
    · subst hm0
      obtain rfl : ys = [] := List.eq_nil_of_length_eq_zero (by simpa using hly)
      exact ⟨_, _, run_append_nothing (P := P) w t t ty e i ht hi none 0 0 (Nat.le_refl _) u hs, by simpa using h, World.grownBy.refl w _, .inl rfl⟩
    · exact grow none 0 rfl (by omega) (run_firstCells_none w.drew _ _ _ _)
  · by_cases hfit : n + m ≤ cap
    · have hpc : (n + m) * i.size ≤ cap * i.size := Nat.mul_le_mul_right _ hfit
      rw [Nat.add_mul] at hpc
      have hrun := run_append_room_src (P := P) w t t ty e i ht hi g o n cap u m ys hs hfit (fun j hj => by rw [Nat.add_assoc]; exact (hth (n * i.size + j) (by omega)).1) (fun j hj => by rw [Nat.add_assoc]; exact (hth (n * i.size + j) (by omega)).2)
      have hhs : (w.setCells g (o + n * i.size) ys).heap.size = w.heap.size := heapSize_setCells g ys _ w
      refine ⟨_, _, hrun, ⟨hlen, .inr ⟨g, o, cap, rfl, hb, by rw [hhs]; exact hgl, hfit, hcm, fun j hj => ⟨?_, by rw [World.frozen?_setCells]; exact (hth j hj).2⟩, fun j x hxj => ?_⟩⟩,
        ⟨World.os_setCells w g _ ys, setCells_tape g ys _ w, World.output_setCells w g _ ys, by rw [hhs]; exact Nat.le_refl _, fun k hk hne => World.heap_setCells_other w g _ ys hk (fun e => hne (by rw [e]; rfl))⟩, .inl rfl⟩
      · by_cases hin : n * i.size ≤ j ∧ j < n * i.size + ys.length
        · have := World.cell?_setCells_in g ys (o + n * i.size) w (fun j hj => by rw [Nat.add_assoc]; exact (hth (n * i.size + j) (by omega)).1) (j - n * i.size) (by omega)
          rw [show o + n * i.size + (j - n * i.size) = o + j by omega] at this
          rw [this]; rfl
        · rw [World.cell?_setCells_out g _ _ _ _ (fun _ _ => by show o + j < o + n * i.size ∨ o + n * i.size + ys.length ≤ o + j; omega)]
          exact (hth j hj).1
      · by_cases hj : j < xs.length
        · rw [List.getElem?_append_left hj] at hxj
          rw [World.cell?_setCells_out g _ _ _ _ (fun _ _ => by show o + j < o + n * i.size ∨ o + n * i.size + ys.length ≤ o + j; omega)]
          exact hx j x hxj
        · rw [List.getElem?_append_right (by omega)] at hxj
          have hjl : j - xs.length < ys.length := (List.getElem?_eq_some_iff.1 hxj).1
          have := World.cell?_setCells_in g ys (o + n * i.size) w (fun j hj => by rw [Nat.add_assoc]; exact (hth (n * i.size + j) (by omega)).1) (j - xs.length) hjl
          rw [show o + n * i.size + (j - xs.length) = o + j by omega] at this
          rw [this]
          rw [List.getElem?_eq_getElem hjl] at hxj
          exact hxj
    · exact grow _ cap rfl (by omega) (run_firstCells_some w.drew i.size n ⟨g, o, none⟩ n cap xs hlx (fun j x hxj => by rw [Addr.add_lit]; exact hx j x hxj))
theorem wp_append_queue {P : Program} {o : Oper} {a : Act} {K : Act → World → Prop} {Q : Exit → Act → World → Prop} {w : World} (x y : Operand) (t : TypeId)
    (ho : o.op = .call { callee := .builtin .append, args := #[x, y], argTypes := #[t, t] })
    (e : TypeId) (s B B' bytes : Nat) (ht : P.underlying t = some (.slice e)) (hi : ∃ i z, P.info? e = some i ∧ i.zero = some z ∧ i.size = s ∧ i.bytes = bytes ∧ z.cells.size = s)
    (v u : Value) (n m : Nat) (xs ys : List Value) (hx : a.eval x = v) (hy : a.eval y = u) (h : Qw s B v n xs w) (h' : Qw s B' u m ys w) (h1 : ∀ z ∈ ys, z.oneCell' = true)
    (hm : n + m ≤ maxLen) (hbt : (n + m) * bytes ≤ 140737488355328) (hbase : B ≤ w.heap.size)
    (hK : ∀ v' w', Qw s B v' (n + m) (xs ++ ys) w' → w.grownBy w' v.ownBlock → Grew v v' w → K (a.put o.dst v') w') : o.wp P a w K Q := by
  obtain ⟨v', w', hr, h2, h3, h4⟩ := Qw.append (P := P) t o.type e s B B' bytes ht hi h h' h1 hm hbt hbase
  unfold Oper.wp execOp
  simp only [ho, resolve, invoke, builtin, Sem.run_bind, Sem.run_pure, Result.andThen_ok, List.map_toArray, List.map_cons, List.map_nil, hx, hy, hr]
  exact hK v' w' h2 h3 h4
theorem Qw.list {P : Program} {ops : Array Oper} {rest : List Oper} {o : Oper} {a : Act} {Q : Exit → Act → World → Prop} {w : World} (hgd : o.guard = none) (x y : Operand) (t : TypeId)
    (ho : o.op = .call { callee := .builtin .append, args := #[x, y], argTypes := #[t, t] })
    (e : TypeId) (s B B' bytes : Nat) (ht : P.underlying t = some (.slice e)) (hi : ∃ i z, P.info? e = some i ∧ i.zero = some z ∧ i.size = s ∧ i.bytes = bytes ∧ z.cells.size = s)
    (v u : Value) (n m : Nat) (xs ys : List Value) (hx : a.eval x = v) (hy : a.eval y = u) (h : Qw s B v n xs w) (h' : Qw s B' u m ys w) (h1 : ∀ z ∈ ys, z.oneCell' = true)
    (hm : n + m ≤ maxLen) (hbt : (n + m) * bytes ≤ 140737488355328) (hbase : B ≤ w.heap.size)
    (hK : ∀ v' w', Qw s B v' (n + m) (xs ++ ys) w' → w.grownBy w' v.ownBlock → Grew v v' w → wpList P ops Q rest (a.put o.dst v') w') : wpList P ops Q (o :: rest) a w :=
  wpList_plain hgd fun _ hK2 => wp_append_queue x y t ho e s B B' bytes ht hi v u n m xs ys hx hy h h' h1 hm hbt hbase fun v' w' h2 h3 h4 => hK2 _ _ (hK v' w' h2 h3 h4)
/-- The slice of one element that was laid anew. -/
theorem Qw.lit_at (w : World) (e : TypeId) (s g : Nat) (cs : List Value) (hs : cs.length = s) (hg : w.heap.size = g) : Qw s g (.slice (some ⟨g, 0, none⟩) 1 1) 1 cs (w.alloc (.cells cs.toArray e)) := (Rw.lit_at w e s g cs hs hg).queue
/-- A piece of one. -/
theorem Qw.cut {g o cap i j : Nat} (h : Qw s B (.slice (some ⟨g, o, none⟩) n cap) n xs w) (hij : i ≤ j) (hj : j ≤ n) (hs : 0 < s) :
    Qw s B (.slice (if cap = i then some ⟨g, o, none⟩ else some ⟨g, o + i * s, none⟩) (j - i) (cap - i)) (j - i) ((xs.drop (i * s)).take ((j - i) * s)) w := by
  have hlx := h.1
  rcases h.2 with ⟨h0, _⟩ | ⟨g', o', cap', h0, hb, hgl, hnc, hcm, hth, hx⟩
  · cases h0
  · injection h0 with h1 h2 h3
    obtain ⟨rfl, rfl, _⟩ : g = g' ∧ o = o' ∧ True := by injection h1 with h1; injection h1 with a b c; exact ⟨a, b, trivial⟩
    subst h3
    have hjs : j * s ≤ n * s := Nat.mul_le_mul_right _ hj
    have hsub : (j - i) * s = j * s - i * s := Nat.sub_mul _ _ _
    have his : i * s ≤ j * s := Nat.mul_le_mul_right _ hij
    have hcs : (cap - i) * s = cap * s - i * s := Nat.sub_mul _ _ _
    refine ⟨by rw [List.length_take, List.length_drop, hlx]; omega, .inr ?_⟩
    by_cases hc : cap = i
    · subst hc
      obtain rfl : j = cap := by omega
      rw [if_pos rfl]
      exact ⟨g, o, j - j, rfl, hb, hgl, by omega, by omega, fun k hk => by simp at hk, fun k u hu => by
        rw [List.getElem?_take] at hu
        split at hu
        · simp at *
        · cases hu⟩
    · rw [if_neg hc]
      have hcap : i * s ≤ cap * s := Nat.mul_le_mul_right _ (by omega)
      exact ⟨g, o + i * s, cap - i, rfl, hb, hgl, by omega, by omega, fun k hk => by rw [Nat.add_assoc]; exact hth (i * s + k) (by omega), fun k u hu => by
        rw [List.getElem?_take] at hu
        split at hu
        · rw [List.getElem?_drop] at hu
          rw [Nat.add_assoc]
          exact hx (i * s + k) u hu
        · cases hu⟩
/-- What is left behind the first element. -/
theorem Qw.tail {g o cap : Nat} {x : Value} (h : Qw 1 B (.slice (some ⟨g, o, none⟩) (n + 1) cap) (n + 1) (x :: xs) w) :
    (cap = 1 → Qw 1 B (.slice (some ⟨g, o, none⟩) n (cap - 1)) n xs w) ∧ (¬ cap = 1 → Qw 1 B (.slice (some ⟨g, o + 1, none⟩) n (cap - 1)) n xs w) := by
  have hl : xs.length = n := by have := h.1; simp at this; exact this
  have h1 := h.cut (i := 1) (j := n + 1) (by omega) (Nat.le_refl _) (by decide)
  have e : ((x :: xs).drop (1 * 1)).take ((n + 1 - 1) * 1) = xs := by
    rw [Nat.add_sub_cancel, Nat.mul_one, Nat.mul_one, List.drop_succ_cons, List.drop_zero, List.take_of_length_le (by omega)]
  rw [e, Nat.add_sub_cancel, Nat.mul_one] at h1
  refine ⟨fun hc => ?_, fun hc => ?_⟩
  · rw [if_pos hc] at h1; exact h1
  · rw [if_neg hc] at h1; exact h1
end
end Go.Proofs.Ytldjefnijkefcaa.Cm
