/- The walk of SpanReads. -/
import Derived.Test.YtjjilnbladgjbaaSpNext
import Derived.Test.YtjjilnbladgjbaaSpBack
import Derived.StillTailTactics
import Derived.Deep.SlicePairs
import Derived.WideShapes
import Derived.OpenShut
namespace Go.Proofs.Ytjjilnbladgjbaa.Vm
open Go.RowKit
set_option linter.unusedVariables false

/-- What was taken, in its cells. -/
def Gt (G n : Nat) (x : ByteArray) (t bad : Nat) (w : World) : Prop :=
  (w.cell? ⟨G, 0, none⟩ = some (.int .u64 n) ∧ w.cell? ⟨G, 1, none⟩ = some (.string x) ∧ w.cell? ⟨G, 2, none⟩ = some (.int .i64 t) ∧ w.cell? ⟨G, 3, none⟩ = some (.int .i64 bad)) ∧ (w.frozen? ⟨G, 0, none⟩ = false ∧ w.frozen? ⟨G, 1, none⟩ = false ∧ w.frozen? ⟨G, 2, none⟩ = false ∧ w.frozen? ⟨G, 3, none⟩ = false) ∧ G < w.heap.size
theorem Gt.split {G n t bad : Nat} {x : ByteArray} {w : World} (h : Gt G n x t bad w) : (w.cell? ⟨G, 0, none⟩ = some (.int .u64 n) ∧ w.cell? ⟨G, 1, none⟩ = some (.string x) ∧ w.cell? ⟨G, 2, none⟩ = some (.int .i64 t) ∧ w.cell? ⟨G, 3, none⟩ = some (.int .i64 bad)) ∧ (w.frozen? ⟨G, 0, none⟩ = false ∧ w.frozen? ⟨G, 1, none⟩ = false ∧ w.frozen? ⟨G, 2, none⟩ = false ∧ w.frozen? ⟨G, 3, none⟩ = false) ∧ G < w.heap.size := h
theorem Gt.only {G B n t bad : Nat} {x : ByteArray} {w w' : World} (h : Gt G n x t bad w) (hb : Only B w w') (hn : G ≠ B) : Gt G n x t bad w' := by
  obtain ⟨⟨c0, c1, c2, c3⟩, ⟨f0, f1, f2, f3⟩, hG⟩ := h
  have hs := hb.size
  exact ⟨⟨by rw [hb.cell (p := ⟨G, 0, none⟩) hG hn, c0], by rw [hb.cell (p := ⟨G, 1, none⟩) hG hn, c1], by rw [hb.cell (p := ⟨G, 2, none⟩) hG hn, c2], by rw [hb.cell (p := ⟨G, 3, none⟩) hG hn, c3]⟩,
    ⟨by rw [hb.frozen (p := ⟨G, 0, none⟩) hG hn, f0], by rw [hb.frozen (p := ⟨G, 1, none⟩) hG hn, f1], by rw [hb.frozen (p := ⟨G, 2, none⟩) hG hn, f2], by rw [hb.frozen (p := ⟨G, 3, none⟩) hG hn, f3]⟩, by omega⟩

theorem Gt.below {G m n t bad : Nat} {x : ByteArray} {w w' : World} (h : Gt G n x t bad w) (hb : Below m w w') (hn : G < m) : Gt G n x t bad w' := by
  obtain ⟨⟨c0, c1, c2, c3⟩, ⟨f0, f1, f2, f3⟩, hG⟩ := h
  have hs := hb.size
  exact ⟨⟨by rw [hb.cell (p := ⟨G, 0, none⟩) hn, c0], by rw [hb.cell (p := ⟨G, 1, none⟩) hn, c1], by rw [hb.cell (p := ⟨G, 2, none⟩) hn, c2], by rw [hb.cell (p := ⟨G, 3, none⟩) hn, c3]⟩,
    ⟨by rw [hb.frozen (p := ⟨G, 0, none⟩) hn, f0], by rw [hb.frozen (p := ⟨G, 1, none⟩) hn, f1], by rw [hb.frozen (p := ⟨G, 2, none⟩) hn, f2], by rw [hb.frozen (p := ⟨G, 3, none⟩) hn, f3]⟩, by omega⟩

theorem num_step (B t bad : Nat) (b : ByteArray) (n' t' bad' : Nat) (w : World) (hr : Rd B b t bad w) (ht : t ≤ b.size) (hs : b.size ≤ 281474976710656) (hN : numN b t bad = (n', t', bad')) :
    Calls Try.prog 14 #[.pointer (some ⟨B, 0, none⟩)] w fun e w' => e = .returned (.int .u64 n') ∧ Rd B b t' bad' w' ∧ Only B w w' := by
  have h := num_any B t bad b w hr ht (by omega)
  rw [hN] at h; exact h
theorem int_step (B t bad : Nat) (b : ByteArray) (m : Int) (n' t' bad' : Nat) (w : World) (hr : Rd B b t bad w) (ht : t ≤ b.size) (hs : b.size ≤ 281474976710656) (hN : intN b t bad m = (n', t', bad')) (h1 : -9223372036854775808 ≤ m) (h2 : m ≤ 9223372036854775807) :
    Calls Try.prog 15 #[.pointer (some ⟨B, 0, none⟩), .int .i64 m] w fun e w' => e = .returned (.int .i64 n') ∧ Rd B b t' bad' w' ∧ Only B w w' := by
  have h := int_any B t bad b m w hr ht (by omega) h1 h2
  rw [hN] at h; exact h
theorem text_step (B t bad : Nat) (b : ByteArray) (m : Int) (x' : ByteArray) (t' bad' : Nat) (w : World) (hr : Rd B b t bad w) (ht : t ≤ b.size) (hs : b.size ≤ 281474976710656) (hN : textN b t bad m = (x', t', bad')) (h1 : -9223372036854775808 ≤ m) (h2 : m ≤ 9223372036854775807) :
    Calls Try.prog 16 #[.pointer (some ⟨B, 0, none⟩), .int .i64 m] w fun e w' => e = .returned (.string x') ∧ Rd B b t' bad' w' ∧ Only B w w' := by
  have h := text_any B t bad b m w hr ht (by omega) (by omega) h1 h2
  rw [hN] at h; exact h
theorem rest_step (B t bad : Nat) (b : ByteArray) (x' : ByteArray) (t' bad' : Nat) (w : World) (hr : Rd B b t bad w) (ht : t ≤ b.size) (hs : b.size ≤ 281474976710656) (hN : restN b t bad = (x', t', bad')) :
    Calls Try.prog 17 #[.pointer (some ⟨B, 0, none⟩)] w fun e w' => e = .returned (.string x') ∧ Rd B b t' bad' w' ∧ Only B w w' := by
  have h := rest_any B t bad b w hr ht (by omega) (by omega)
  rw [hN] at h; exact h
theorem next_num' (b x0 : ByteArray) (n0 t bad : Nat) (m : Int) (n' t' bad' : Nat) (w : World) (ht : t ≤ b.size) (hs : b.size ≤ 4611686018427387904) (h1 : -9223372036854775808 ≤ m) (h2 : m ≤ 9223372036854775807) (hN : numN b t bad = (n', t', bad')) :
    Calls Try.prog 13 #[.string b, .agg #[.int .u64 n0, .string x0, .int .i64 t, .int .i64 bad], .agg #[.int .i64 1, .int .i64 m]] w fun e w' => e = .returned (.agg #[.int .u64 n', .string ⟨#[]⟩, .int .i64 t', .int .i64 bad']) ∧ Below w.heap.size w w' := by
  have h := next_num b x0 n0 t bad m w ht hs h1 h2
  rw [hN] at h; exact h
theorem next_int' (b x0 : ByteArray) (n0 t bad : Nat) (m : Int) (n' t' bad' : Nat) (w : World) (ht : t ≤ b.size) (hs : b.size ≤ 4611686018427387904) (h1 : -9223372036854775808 ≤ m) (h2 : m ≤ 9223372036854775807) (hN : intN b t bad m = (n', t', bad')) :
    Calls Try.prog 13 #[.string b, .agg #[.int .u64 n0, .string x0, .int .i64 t, .int .i64 bad], .agg #[.int .i64 2, .int .i64 m]] w fun e w' => e = .returned (.agg #[.int .u64 n', .string ⟨#[]⟩, .int .i64 t', .int .i64 bad']) ∧ Below w.heap.size w w' := by
  have h := next_int b x0 n0 t bad m w ht hs h1 h2
  rw [hN] at h; exact h
theorem next_text' (b x0 : ByteArray) (n0 t bad : Nat) (m : Int) (x' : ByteArray) (t' bad' : Nat) (w : World) (ht : t ≤ b.size) (hs : b.size ≤ 4611686018427387904) (h1 : -9223372036854775808 ≤ m) (h2 : m ≤ 9223372036854775807) (hN : textN b t bad m = (x', t', bad')) :
    Calls Try.prog 13 #[.string b, .agg #[.int .u64 n0, .string x0, .int .i64 t, .int .i64 bad], .agg #[.int .i64 3, .int .i64 m]] w fun e w' => e = .returned (.agg #[.int .u64 0, .string x', .int .i64 t', .int .i64 bad']) ∧ Below w.heap.size w w' := by
  have h := next_text b x0 n0 t bad m w ht hs h1 h2
  rw [hN] at h; exact h
theorem next_rest' (b x0 : ByteArray) (n0 t bad : Nat) (kd : Int) (m : Int) (x' : ByteArray) (t' bad' : Nat) (w : World) (ht : t ≤ b.size) (hs : b.size ≤ 4611686018427387904) (h1 : -9223372036854775808 ≤ m) (h2 : m ≤ 9223372036854775807) (k1 : kd ≠ 1) (k2 : kd ≠ 2) (k3 : kd ≠ 3) (hN : restN b t bad = (x', t', bad')) :
    Calls Try.prog 13 #[.string b, .agg #[.int .u64 n0, .string x0, .int .i64 t, .int .i64 bad], .agg #[.int .i64 kd, .int .i64 m]] w fun e w' => e = .returned (.agg #[.int .u64 0, .string x', .int .i64 t', .int .i64 bad']) ∧ Below w.heap.size w w' := by
  have h := next_rest b x0 n0 t bad kd m w ht hs h1 h2 k1 k2 k3
  rw [hN] at h; exact h
theorem Rd.drewN {B t bad : Nat} {b : ByteArray} {w : World} (h : Rd B b t bad w) (n : Nat) : Rd B b t bad (w.drewN n) := h.below (below_drewN (Below.refl w.heap.size w) n) h.split.2.2
theorem Rd.drew {B t bad : Nat} {b : ByteArray} {w : World} (h : Rd B b t bad w) : Rd B b t bad w.drew := h.below (Below.refl w.heap.size w).drew h.split.2.2
theorem Rd.only {B G t bad : Nat} {b : ByteArray} {w w' : World} (h : Rd B b t bad w) (hb : Only G w w') (hn : B ≠ G) : Rd B b t bad w' := by
  obtain ⟨⟨c0, c1, c2⟩, ⟨f0, f1, f2⟩, hB⟩ := h
  have hs := hb.size
  exact ⟨⟨by rw [hb.cell (p := ⟨B, 0, none⟩) hB hn, c0], by rw [hb.cell (p := ⟨B, 1, none⟩) hB hn, c1], by rw [hb.cell (p := ⟨B, 2, none⟩) hB hn, c2]⟩, ⟨by rw [hb.frozen (p := ⟨B, 0, none⟩) hB hn, f0], by rw [hb.frozen (p := ⟨B, 1, none⟩) hB hn, f1], by rw [hb.frozen (p := ⟨B, 2, none⟩) hB hn, f2]⟩, by omega⟩
theorem Gt.put {G n t bad : Nat} {x : ByteArray} {w : World} (h : Gt G n x t bad w) (n' t' bad' : Nat) (x' : ByteArray) :
    Gt G n' x' t' bad' ((((w.setCell ⟨G, 0, none⟩ (.int .u64 n')).setCell ⟨G, 1, none⟩ (.string x')).setCell ⟨G, 2, none⟩ (.int .i64 t')).setCell ⟨G, 3, none⟩ (.int .i64 bad')) := by
  obtain ⟨⟨c0, c1, c2, c3⟩, ⟨f0, f1, f2, f3⟩, hG⟩ := h
  have s1 : ∀ (w : World) (i : Nat) (v : Value) (k : Nat), i ≠ k → (w.setCell ⟨G, i, none⟩ v).cell? ⟨G, k, none⟩ = w.cell? ⟨G, k, none⟩ := fun w i v k hne => World.cell?_setCell_other _ _ _ _ (fun e => hne (by injection e))
  refine ⟨⟨?_, ?_, ?_, ?_⟩, ⟨?_, ?_, ?_, ?_⟩, ?_⟩
  · rw [s1 _ _ _ _ (by decide), s1 _ _ _ _ (by decide), s1 _ _ _ _ (by decide), World.cell?_setCell_same _ _ _ c0]
  · rw [s1 _ _ _ _ (by decide), s1 _ _ _ _ (by decide), World.cell?_setCell_same _ _ _ ((s1 _ _ _ _ (by decide)).trans c1)]
  · rw [s1 _ _ _ _ (by decide), World.cell?_setCell_same _ _ _ ((s1 _ _ _ _ (by decide)).trans ((s1 _ _ _ _ (by decide)).trans c2))]
  · rw [World.cell?_setCell_same _ _ _ ((s1 _ _ _ _ (by decide)).trans ((s1 _ _ _ _ (by decide)).trans ((s1 _ _ _ _ (by decide)).trans c3)))]
  · simp only [World.frozen?_setCell]; exact f0
  · simp only [World.frozen?_setCell]; exact f1
  · simp only [World.frozen?_setCell]; exact f2
  · simp only [World.frozen?_setCell]; exact f3
  · simp [World.setCell]; exact hG
theorem numN_room (b : ByteArray) (t bad n' t' bad' : Nat) (ht : t ≤ b.size) (h : numN b t bad = (n', t', bad')) : t' ≤ b.size ∧ n' ≤ 18446744073709551615 := by
  by_cases hb : bad = 0
  · subst hb
    obtain ⟨n, k, r, hh⟩ : ∃ n k r, tkS (left b t) = (n, k, r) := ⟨_, _, _, rfl⟩
    rw [numN_of b t n k r hh] at h
    have := tkS_room _ n k r hh
    have hl := left_size b t
    simp only [Prod.mk.injEq] at h; omega
  · rw [numN_bad b t bad hb] at h
    simp only [Prod.mk.injEq] at h; omega
theorem intN_room (b : ByteArray) (t bad n' t' bad' : Nat) (m : Int) (ht : t ≤ b.size) (h : intN b t bad m = (n', t', bad')) : t' ≤ b.size ∧ (n' : Int) ≤ max m 0 := by
  by_cases hb : bad = 0
  · subst hb
    obtain ⟨n, k, r, hh⟩ : ∃ n k r, nmS (left b t) m = (n, k, r) := ⟨_, _, _, rfl⟩
    rw [intN_of b t n k r m hh] at h
    have := nmS_room _ m n k r hh
    have hl := left_size b t
    simp only [Prod.mk.injEq] at h; omega
  · rw [intN_bad b t bad m hb] at h
    simp only [Prod.mk.injEq] at h; omega
theorem textN_room (b : ByteArray) (t bad t' bad' : Nat) (m : Int) (x' : ByteArray) (ht : t ≤ b.size) (h : textN b t bad m = (x', t', bad')) : t' ≤ b.size := by
  by_cases hb : bad = 0
  · subst hb
    obtain ⟨x, k, r, hh⟩ : ∃ n k r, txS (left b t) m = (n, k, r) := ⟨_, _, _, rfl⟩
    rw [textN_of b t k r x m hh] at h
    have := txS_room _ m x k r hh
    have hl := left_size b t
    simp only [Prod.mk.injEq] at h; omega
  · rw [textN_bad b t bad m hb] at h
    simp only [Prod.mk.injEq] at h; omega
theorem restN_room (b : ByteArray) (t bad t' bad' : Nat) (x' : ByteArray) (ht : t ≤ b.size) (h : restN b t bad = (x', t', bad')) : t' ≤ b.size := by
  by_cases hb : bad = 0
  · subst hb
    unfold restN at h
    simp only [ne_eq, not_true_eq_false, if_false, Prod.mk.injEq] at h; omega
  · rw [restN_bad b t bad hb] at h
    simp only [Prod.mk.injEq] at h; omega

set_option maxRecDepth 100000 in
set_option maxHeartbeats 1000000 in
theorem reads_walk (b : ByteArray) (o : Option Addr) (len cap : Nat) (K M : Nat → Int) (w : World) (hb : b.size ≤ 140737488355327) (hlen : len ≤ maxLen)
    (hst : ∀ i, i < len → ∃ a, o = some a ∧ w.cell? (a.add (i * 2)) = some (.int .i64 (K i)) ∧ w.cell? (a.add (i * 2 + 1)) = some (.int .i64 (M i)) ∧ -9223372036854775808 ≤ M i ∧ M i ≤ 9223372036854775807) :
    Calls Try.prog 4 #[.string b, .slice o len cap] w fun e w' => e = .returned (.bool true) ∧ Below w.heap.size w w' := by
  have hlen2 : len ≤ 9223372036854775807 := by unfold maxLen at hlen; omega
  by_cases h100 : 100 < len
  · have h100' : (100 : Int) < (len : Int) := by omega
    go_enter Try.func4, Try.ntmps4
    go_wp2_with (go_at_call 11; refine (awake_any _).mono ?_; rintro e w' ⟨rfl, hB⟩)
    go_ret
    exact ⟨rfl, hB⟩
  · have h100' : ¬ (100 : Int) < (len : Int) := by omega
    go_enter Try.func4, Try.ntmps4
    go_wp2_with (go_at_call 12; refine (read_any _ _).mono ?_; rintro e w1 ⟨rfl, hR, hB⟩)
    have hG0 : Gt w1.heap.size 0 ⟨#[]⟩ 0 0 (w1.alloc (.cells #[.int .u64 0, .string ⟨#[]⟩, .int .i64 0, .int .i64 0] 33)) := by
      refine ⟨⟨?_, ?_, ?_, ?_⟩, ⟨?_, ?_, ?_, ?_⟩, ?_⟩
      all_goals first
        | (rw [World.cell?_alloc_at _ _ _ _ rfl]; rfl)
        | exact World.frozen?_alloc_at _ _ _ _ rfl
        | simp
    have hA1 : Below w1.heap.size w1 (w1.alloc (.cells #[.int .u64 0, .string ⟨#[]⟩, .int .i64 0, .int .i64 0] 33)) := (Below.refl _ _).alloc (Nat.le_refl _) _
    have hRG := hR.split.2.2
    have HR0 := hR.below hA1 hRG
    have HB0 := hB.trans (hA1.mono hB.size)
    clear hA1
    go_loopw [7] (fun i wr => ∃ j n x t bad, j ≤ len ∧ i = .int .i64 j ∧ t ≤ b.size ∧ Hid (Rd w.heap.size b t bad wr) ∧ Hid (Gt w1.heap.size n x t bad wr) ∧ Hid (Below w.heap.size w wr)) (fun i _ => len - (intOf i).toNat)
    case atStart => exact ⟨0, 0, ⟨#[]⟩, 0, 0, by omega, rfl, by omega, HR0, hG0, HB0⟩
    case round =>
      obtain ⟨j, n, x, t, bad, hj, rfl, ht, HR, HG, HB⟩ := hrel
      clear hR hB hG0 HR0 HB0
      by_cases hjl : j < len
      · have hji : (j : Int) < (len : Int) := by omega
        obtain ⟨a, rfl, s0, s1, m1, m2⟩ := hst j hjl
        obtain ⟨⟨c0, c1, c2, c3⟩, ⟨f0, f1, f2, f3⟩, hG⟩ := HG.out.split
        have b0 : (a.add (j * 2)).block < w.heap.size := World.block_lt_of_cell? w _ s0
        have b1 : (a.add (j * 2 + 1)).block < w.heap.size := World.block_lt_of_cell? w _ s1
        have t0 : wr.cell? (a.add (j * 2)) = some (.int .i64 (K j)) := by rw [HB.out.cell (p := a.add (j * 2)) b0]; exact s0
        have t1 : wr.cell? (a.add (j * 2 + 1)) = some (.int .i64 (M j)) := by rw [HB.out.cell (p := a.add (j * 2 + 1)) b1]; exact s1
        obtain ⟨⟨Ab, Ao, As⟩, hA⟩ : ∃ A, a.add (j * 2) = A := ⟨_, rfl⟩
        rw [hA] at t0
        rw [show a.add (j * 2 + 1) = ⟨Ab, Ao + 1, none⟩ by rw [← Addr.add_add, hA]; simp [Addr.add]] at t1
        clear s0 s1
        go_wp2
        go_still_tail 6, (by kernel_rfl)
        change wpList _ _ _ _ _ wr.drew
        have hAb : Ab < w.heap.size := by
          have := b0; rw [hA] at this; exact this
        by_cases k1 : K j = 1
        · obtain ⟨n', t', bad', hN⟩ : ∃ n' t' bad', numN b t bad = (n', t', bad') := ⟨_, _, _, rfl⟩
          have hN2 := numN_room b t bad n' t' bad' ht hN
          have HN := Lib.hid hN
          clear hN
          rw [k1] at t0 ⊢
          go_wp2_with (go_at_call 13; refine (next_num' b x n t bad (M j) n' t' bad' _ ht (by omega) m1 m2 HN.out).mono ?_; rintro e w2 ⟨rfl, hb2⟩; replace hb2 : Below wr.heap.size wr w2 := (Below.refl wr.heap.size wr).drew.trans hb2; obtain ⟨⟨d0, d1, d2, d3⟩, ⟨e0, e1, e2, e3⟩, hG2⟩ := (HG.out.below hb2 hG).split; have u0 : w2.cell? ⟨Ab, Ao, As⟩ = some (.int .i64 1) := (hb2.cell (p := ⟨Ab, Ao, As⟩) (show Ab < wr.heap.size by omega)).trans t0; have u1 : w2.cell? ⟨Ab, Ao + 1, none⟩ = some (.int .i64 (M j)) := (hb2.cell (p := ⟨Ab, Ao + 1, none⟩) (show Ab < wr.heap.size by omega)).trans t1; clear c0 c1 c2 c3 f0 f1 f2 f3)
          have hG3 := (HG.out.below hb2 hG).put n' t' bad' ⟨#[]⟩
          have hO3 : Only w1.heap.size w2 _ := (((((Only.refl w1.heap.size w2).setCell (o := 0) (.int .u64 (n' : Nat))).setCell (o := 1) (.string ⟨#[]⟩)).setCell (o := 2) (.int .i64 t')).setCell (o := 3) (.int .i64 bad'))
          generalize hw3 : ((((w2.setCell ⟨w1.heap.size, 0, none⟩ (.int .u64 n')).setCell ⟨w1.heap.size, 1, none⟩ (.string ⟨#[]⟩)).setCell ⟨w1.heap.size, 2, none⟩ (.int .i64 t')).setCell ⟨w1.heap.size, 3, none⟩ (.int .i64 bad')) = w3 at hG3 hO3 ⊢
          clear hw3
          have hsz2 := hb2.size
          have hR3 : Rd w.heap.size b t bad w3 := (HR.out.below hb2 (by omega)).only hO3 (by omega)
          have hB3 : Below w.heap.size w w3 := HB.out.trans ((hb2.mono HB.out.size).trans (hO3.below (by omega) (by omega)))
          have u03 : w3.cell? ⟨Ab, Ao, As⟩ = some (.int .i64 1) := (hO3.cell (p := ⟨Ab, Ao, As⟩) (show Ab < w2.heap.size by omega) (show Ab ≠ w1.heap.size by omega)).trans u0
          have u13 : w3.cell? ⟨Ab, Ao + 1, none⟩ = some (.int .i64 (M j)) := (hO3.cell (p := ⟨Ab, Ao + 1, none⟩) (show Ab < w2.heap.size by omega) (show Ab ≠ w1.heap.size by omega)).trans u1
          clear d0 d1 d2 d3 e0 e1 e2 e3 u0 u1 t0 t1
          obtain ⟨⟨d0, d1, d2, d3⟩, ⟨e0, e1, e2, e3⟩, hG4⟩ := hG3.split
          go_region_held3 (fun w' => w'.cell? ⟨w1.heap.size, 0, none⟩ = some (.int .u64 n')) (first | exact d0 | exact hb3) (first | (go_at_call 14; refine (num_step _ _ _ b n' t' bad' _ hR3.drew ht (by omega) HN.out).mono ?_; rintro e w4 ⟨rfl, hR4, hO4⟩; replace hO4 : Only w.heap.size w3 w4 := (Only.of (Below.refl _ _).drew).trans hO4; have hb3 : w4.cell? ⟨w1.heap.size, 0, none⟩ = some (.int .u64 n') := (hO4.cell (p := ⟨w1.heap.size, 0, none⟩) hG4 (show w1.heap.size ≠ w.heap.size by omega)).trans d0))
          have hG5 := hG3.only hO4 (by omega)
          have hB4 : Below w.heap.size w w4 := hB3.trans (hO4.below (Nat.le_refl _) (by omega))
          clear d0 d1 d2 d3 e0 e1 e2 e3 hb3 u03 u13 hR3 hB3 hG3 hO3 hO4
          obtain ⟨⟨d0, d1, d2, d3⟩, ⟨e0, e1, e2, e3⟩, hG6⟩ := hG5.split
          go_wp2
          go_quiet (first | (go_at_call 18; exact Calls.quiet_of_same ((at_any _ _ _ _ _ (hR4.drewN _)).mono fun _ _ h => ⟨h.1, h.2.symm⟩)))
          go_wp2
          go_round
          case rel => exact ⟨j + 1, n', ⟨#[]⟩, t', bad', by omega, by go_num, hN2.1, hR4.drewN nq, hG5.below (below_drewN (Below.refl _ _) nq) hG6, below_drewN hB4 nq⟩
          case measure => simp [intOf]; omega
        · by_cases k2 : K j = 2
          · obtain ⟨n', t', bad', hN⟩ : ∃ n' t' bad', intN b t bad (M j) = (n', t', bad') := ⟨_, _, _, rfl⟩
            have hN2 := intN_room b t bad n' t' bad' (M j) ht hN
            have hn' : (n' : Int) ≤ 9223372036854775807 := by omega
            have hwr : IntKind.u64.wrap (n' : Int) = (n' : Int) := IntWalk.u64_in _ (by omega)
            have HN := Lib.hid hN
            clear hN
            rw [k2] at t0 ⊢
            go_wp2_with (go_at_call 13; refine (next_int' b x n t bad (M j) n' t' bad' _ ht (by omega) m1 m2 HN.out).mono ?_; rintro e w2 ⟨rfl, hb2⟩; replace hb2 : Below wr.heap.size wr w2 := (Below.refl wr.heap.size wr).drew.trans hb2; obtain ⟨⟨d0, d1, d2, d3⟩, ⟨e0, e1, e2, e3⟩, hG2⟩ := (HG.out.below hb2 hG).split; have u0 : w2.cell? ⟨Ab, Ao, As⟩ = some (.int .i64 2) := (hb2.cell (p := ⟨Ab, Ao, As⟩) (show Ab < wr.heap.size by omega)).trans t0; have u1 : w2.cell? ⟨Ab, Ao + 1, none⟩ = some (.int .i64 (M j)) := (hb2.cell (p := ⟨Ab, Ao + 1, none⟩) (show Ab < wr.heap.size by omega)).trans t1; clear c0 c1 c2 c3 f0 f1 f2 f3)
            have hG3 := (HG.out.below hb2 hG).put n' t' bad' ⟨#[]⟩
            have hO3 : Only w1.heap.size w2 _ := (((((Only.refl w1.heap.size w2).setCell (o := 0) (.int .u64 (n' : Nat))).setCell (o := 1) (.string ⟨#[]⟩)).setCell (o := 2) (.int .i64 t')).setCell (o := 3) (.int .i64 bad'))
            generalize hw3 : ((((w2.setCell ⟨w1.heap.size, 0, none⟩ (.int .u64 n')).setCell ⟨w1.heap.size, 1, none⟩ (.string ⟨#[]⟩)).setCell ⟨w1.heap.size, 2, none⟩ (.int .i64 t')).setCell ⟨w1.heap.size, 3, none⟩ (.int .i64 bad')) = w3 at hG3 hO3 ⊢
            clear hw3
            have hsz2 := hb2.size
            have hR3 : Rd w.heap.size b t bad w3 := (HR.out.below hb2 (by omega)).only hO3 (by omega)
            have hB3 : Below w.heap.size w w3 := HB.out.trans ((hb2.mono HB.out.size).trans (hO3.below (by omega) (by omega)))
            have u03 : w3.cell? ⟨Ab, Ao, As⟩ = some (.int .i64 2) := (hO3.cell (p := ⟨Ab, Ao, As⟩) (show Ab < w2.heap.size by omega) (show Ab ≠ w1.heap.size by omega)).trans u0
            have u13 : w3.cell? ⟨Ab, Ao + 1, none⟩ = some (.int .i64 (M j)) := (hO3.cell (p := ⟨Ab, Ao + 1, none⟩) (show Ab < w2.heap.size by omega) (show Ab ≠ w1.heap.size by omega)).trans u1
            clear d0 d1 d2 d3 e0 e1 e2 e3 u0 u1 t0 t1
            obtain ⟨⟨d0, d1, d2, d3⟩, ⟨e0, e1, e2, e3⟩, hG4⟩ := hG3.split
            go_region_held3 (fun w' => w'.cell? ⟨w1.heap.size, 0, none⟩ = some (.int .u64 n') ∧ w'.cell? ⟨Ab, Ao + 1, none⟩ = some (.int .i64 (M j))) (first | exact ⟨d0, u13⟩ | exact hb3) (first | (go_at_call 15; refine (int_step _ _ _ b (M j) n' t' bad' _ hR3.drew ht (by omega) HN.out m1 m2).mono ?_; rintro e w4 ⟨rfl, hR4, hO4⟩; replace hO4 : Only w.heap.size w3 w4 := (Only.of (Below.refl _ _).drew).trans hO4; have hb3 : w4.cell? ⟨w1.heap.size, 0, none⟩ = some (.int .u64 n') ∧ w4.cell? ⟨Ab, Ao + 1, none⟩ = some (.int .i64 (M j)) := ⟨(hO4.cell (p := ⟨w1.heap.size, 0, none⟩) hG4 (show w1.heap.size ≠ w.heap.size by omega)).trans d0, (hO4.cell (p := ⟨Ab, Ao + 1, none⟩) (show Ab < w3.heap.size by omega) (show Ab ≠ w.heap.size by omega)).trans u13⟩))
            have hG5 := hG3.only hO4 (by omega)
            have hB4 : Below w.heap.size w w4 := hB3.trans (hO4.below (Nat.le_refl _) (by omega))
            clear d0 d1 d2 d3 e0 e1 e2 e3 hb3 u03 u13 hR3 hB3 hG3 hO3 hO4
            obtain ⟨⟨d0, d1, d2, d3⟩, ⟨e0, e1, e2, e3⟩, hG6⟩ := hG5.split
            go_wp2
            go_quiet (first | (go_at_call 18; exact Calls.quiet_of_same ((at_any _ _ _ _ _ (hR4.drewN _)).mono fun _ _ h => ⟨h.1, h.2.symm⟩)))
            go_wp2
            go_round
            case rel => exact ⟨j + 1, n', ⟨#[]⟩, t', bad', by omega, by go_num, hN2.1, hR4.drewN nq, hG5.below (below_drewN (Below.refl _ _) nq) hG6, below_drewN hB4 nq⟩
            case measure => simp [intOf]; omega
          · by_cases k3 : K j = 3
            · obtain ⟨x', t', bad', hN⟩ : ∃ x' t' bad', textN b t bad (M j) = (x', t', bad') := ⟨_, _, _, rfl⟩
              have hN2 := textN_room b t bad t' bad' (M j) x' ht hN
              have HN := Lib.hid hN
              clear hN
              rw [k3] at t0 ⊢
              go_wp2_with (go_at_call 13; refine (next_text' b x n t bad (M j) x' t' bad' _ ht (by omega) m1 m2 HN.out).mono ?_; rintro e w2 ⟨rfl, hb2⟩; replace hb2 : Below wr.heap.size wr w2 := (Below.refl wr.heap.size wr).drew.trans hb2; obtain ⟨⟨d0, d1, d2, d3⟩, ⟨e0, e1, e2, e3⟩, hG2⟩ := (HG.out.below hb2 hG).split; have u0 : w2.cell? ⟨Ab, Ao, As⟩ = some (.int .i64 3) := (hb2.cell (p := ⟨Ab, Ao, As⟩) (show Ab < wr.heap.size by omega)).trans t0; have u1 : w2.cell? ⟨Ab, Ao + 1, none⟩ = some (.int .i64 (M j)) := (hb2.cell (p := ⟨Ab, Ao + 1, none⟩) (show Ab < wr.heap.size by omega)).trans t1; clear c0 c1 c2 c3 f0 f1 f2 f3)
              have hG3 := (HG.out.below hb2 hG).put 0 t' bad' x'
              have hO3 : Only w1.heap.size w2 _ := (((((Only.refl w1.heap.size w2).setCell (o := 0) (.int .u64 (0 : Nat))).setCell (o := 1) (.string x')).setCell (o := 2) (.int .i64 t')).setCell (o := 3) (.int .i64 bad'))
              generalize hw3 : ((((w2.setCell ⟨w1.heap.size, 0, none⟩ (.int .u64 0)).setCell ⟨w1.heap.size, 1, none⟩ (.string x')).setCell ⟨w1.heap.size, 2, none⟩ (.int .i64 t')).setCell ⟨w1.heap.size, 3, none⟩ (.int .i64 bad')) = w3 at hG3 hO3 ⊢
              clear hw3
              have hsz2 := hb2.size
              have hR3 : Rd w.heap.size b t bad w3 := (HR.out.below hb2 (by omega)).only hO3 (by omega)
              have hB3 : Below w.heap.size w w3 := HB.out.trans ((hb2.mono HB.out.size).trans (hO3.below (by omega) (by omega)))
              have u03 : w3.cell? ⟨Ab, Ao, As⟩ = some (.int .i64 3) := (hO3.cell (p := ⟨Ab, Ao, As⟩) (show Ab < w2.heap.size by omega) (show Ab ≠ w1.heap.size by omega)).trans u0
              have u13 : w3.cell? ⟨Ab, Ao + 1, none⟩ = some (.int .i64 (M j)) := (hO3.cell (p := ⟨Ab, Ao + 1, none⟩) (show Ab < w2.heap.size by omega) (show Ab ≠ w1.heap.size by omega)).trans u1
              clear d0 d1 d2 d3 e0 e1 e2 e3 u0 u1 t0 t1
              obtain ⟨⟨d0, d1, d2, d3⟩, ⟨e0, e1, e2, e3⟩, hG4⟩ := hG3.split
              go_region_held3 (fun w' => w'.cell? ⟨w1.heap.size, 1, none⟩ = some (.string x') ∧ w'.cell? ⟨Ab, Ao + 1, none⟩ = some (.int .i64 (M j))) (first | exact ⟨d1, u13⟩ | exact hb3) (first | (go_at_call 16; refine (text_step _ _ _ b (M j) x' t' bad' _ hR3.drew ht (by omega) HN.out m1 m2).mono ?_; rintro e w4 ⟨rfl, hR4, hO4⟩; replace hO4 : Only w.heap.size w3 w4 := (Only.of (Below.refl _ _).drew).trans hO4; have hb3 : w4.cell? ⟨w1.heap.size, 1, none⟩ = some (.string x') ∧ w4.cell? ⟨Ab, Ao + 1, none⟩ = some (.int .i64 (M j)) := ⟨(hO4.cell (p := ⟨w1.heap.size, 1, none⟩) hG4 (show w1.heap.size ≠ w.heap.size by omega)).trans d1, (hO4.cell (p := ⟨Ab, Ao + 1, none⟩) (show Ab < w3.heap.size by omega) (show Ab ≠ w.heap.size by omega)).trans u13⟩))
              have hG5 := hG3.only hO4 (by omega)
              have hB4 : Below w.heap.size w w4 := hB3.trans (hO4.below (Nat.le_refl _) (by omega))
              clear d0 d1 d2 d3 e0 e1 e2 e3 hb3 u03 u13 hR3 hB3 hG3 hO3 hO4
              obtain ⟨⟨d0, d1, d2, d3⟩, ⟨e0, e1, e2, e3⟩, hG6⟩ := hG5.split
              go_wp2
              go_quiet (first | (go_at_call 18; exact Calls.quiet_of_same ((at_any _ _ _ _ _ (hR4.drewN _)).mono fun _ _ h => ⟨h.1, h.2.symm⟩)))
              go_wp2
              go_round
              case rel => exact ⟨j + 1, 0, x', t', bad', by omega, by go_num, hN2, hR4.drewN nq, hG5.below (below_drewN (Below.refl _ _) nq) hG6, below_drewN hB4 nq⟩
              case measure => simp [intOf]; omega
            · obtain ⟨x', t', bad', hN⟩ : ∃ x' t' bad', restN b t bad = (x', t', bad') := ⟨_, _, _, rfl⟩
              have hN2 := restN_room b t bad t' bad' x' ht hN
              have HN := Lib.hid hN
              clear hN
              have q1 : (K j == 1) = false := by simpa using k1
              have q2 : (K j == 2) = false := by simpa using k2
              have q3 : (K j == 3) = false := by simpa using k3
              go_wp2_with (go_at_call 13; refine (next_rest' b x n t bad (K j) (M j) x' t' bad' _ ht (by omega) m1 m2 k1 k2 k3 HN.out).mono ?_; rintro e w2 ⟨rfl, hb2⟩; replace hb2 : Below wr.heap.size wr w2 := (Below.refl wr.heap.size wr).drew.trans hb2; obtain ⟨⟨d0, d1, d2, d3⟩, ⟨e0, e1, e2, e3⟩, hG2⟩ := (HG.out.below hb2 hG).split; have u0 : w2.cell? ⟨Ab, Ao, As⟩ = some (.int .i64 (K j)) := (hb2.cell (p := ⟨Ab, Ao, As⟩) (show Ab < wr.heap.size by omega)).trans t0; have u1 : w2.cell? ⟨Ab, Ao + 1, none⟩ = some (.int .i64 (M j)) := (hb2.cell (p := ⟨Ab, Ao + 1, none⟩) (show Ab < wr.heap.size by omega)).trans t1; clear c0 c1 c2 c3 f0 f1 f2 f3)
              have hG3 := (HG.out.below hb2 hG).put 0 t' bad' x'
              have hO3 : Only w1.heap.size w2 _ := (((((Only.refl w1.heap.size w2).setCell (o := 0) (.int .u64 (0 : Nat))).setCell (o := 1) (.string x')).setCell (o := 2) (.int .i64 t')).setCell (o := 3) (.int .i64 bad'))
              generalize hw3 : ((((w2.setCell ⟨w1.heap.size, 0, none⟩ (.int .u64 0)).setCell ⟨w1.heap.size, 1, none⟩ (.string x')).setCell ⟨w1.heap.size, 2, none⟩ (.int .i64 t')).setCell ⟨w1.heap.size, 3, none⟩ (.int .i64 bad')) = w3 at hG3 hO3 ⊢
              clear hw3
              have hsz2 := hb2.size
              have hR3 : Rd w.heap.size b t bad w3 := (HR.out.below hb2 (by omega)).only hO3 (by omega)
              have hB3 : Below w.heap.size w w3 := HB.out.trans ((hb2.mono HB.out.size).trans (hO3.below (by omega) (by omega)))
              have u03 : w3.cell? ⟨Ab, Ao, As⟩ = some (.int .i64 (K j)) := (hO3.cell (p := ⟨Ab, Ao, As⟩) (show Ab < w2.heap.size by omega) (show Ab ≠ w1.heap.size by omega)).trans u0
              have u13 : w3.cell? ⟨Ab, Ao + 1, none⟩ = some (.int .i64 (M j)) := (hO3.cell (p := ⟨Ab, Ao + 1, none⟩) (show Ab < w2.heap.size by omega) (show Ab ≠ w1.heap.size by omega)).trans u1
              clear d0 d1 d2 d3 e0 e1 e2 e3 u0 u1 t0 t1
              obtain ⟨⟨d0, d1, d2, d3⟩, ⟨e0, e1, e2, e3⟩, hG4⟩ := hG3.split
              go_region_held3 (fun w' => w'.cell? ⟨w1.heap.size, 1, none⟩ = some (.string x')) (first | exact d1 | exact hb3) (first | (go_at_call 17; refine (rest_step _ _ _ b x' t' bad' _ hR3.drew ht (by omega) HN.out).mono ?_; rintro e w4 ⟨rfl, hR4, hO4⟩; replace hO4 : Only w.heap.size w3 w4 := (Only.of (Below.refl _ _).drew).trans hO4; have hb3 : w4.cell? ⟨w1.heap.size, 1, none⟩ = some (.string x') := (hO4.cell (p := ⟨w1.heap.size, 1, none⟩) hG4 (show w1.heap.size ≠ w.heap.size by omega)).trans d1))
              have hG5 := hG3.only hO4 (by omega)
              have hB4 : Below w.heap.size w w4 := hB3.trans (hO4.below (Nat.le_refl _) (by omega))
              clear d0 d1 d2 d3 e0 e1 e2 e3 hb3 u03 u13 hR3 hB3 hG3 hO3 hO4
              obtain ⟨⟨d0, d1, d2, d3⟩, ⟨e0, e1, e2, e3⟩, hG6⟩ := hG5.split
              go_wp2
              go_quiet (first | (go_at_call 18; exact Calls.quiet_of_same ((at_any _ _ _ _ _ (hR4.drewN _)).mono fun _ _ h => ⟨h.1, h.2.symm⟩)))
              go_wp2
              go_round
              case rel => exact ⟨j + 1, 0, x', t', bad', by omega, by go_num, hN2, hR4.drewN nq, hG5.below (below_drewN (Below.refl _ _) nq) hG6, below_drewN hB4 nq⟩
              case measure => simp [intOf]; omega
      · have hji : ¬ (j : Int) < (len : Int) := by omega
        have hO : Below w.heap.size w wr := HB.out
        obtain ⟨⟨c0, c1, c2, c3⟩, ⟨f0, f1, f2, f3⟩, hG⟩ := HG.out.split
        by_cases hb0 : bad = 0
        · subst hb0
          by_cases hlt : t < b.size
          · have hlt' : (t : Int) < (b.size : Int) := by omega
            have hd : doneN b t 0 = 1 := by unfold doneN; simp [hlt]
            go_wp2_with (first | (go_at_call 19; refine (done_any _ _ _ _ _ HR.out ht (by omega)).mono ?_; rw [hd]; rintro e w4 ⟨rfl, hR4, hO4⟩; have hB4 := hO.trans (hO4.mono hO.size)) | (go_at_call 11; refine (awake_any _).mono ?_; rintro e w5 ⟨rfl, hO5⟩; have hB5 := hB4.trans (hO5.mono hB4.size)))
            go_ret
            exact ⟨rfl, hB5⟩
          · have hlt' : ¬ (t : Int) < (b.size : Int) := by omega
            have hd : doneN b t 0 = 0 := by unfold doneN; simp [hlt]
            go_wp2_with (first | (go_at_call 19; refine (done_any _ _ _ _ _ HR.out ht (by omega)).mono ?_; rw [hd]; rintro e w4 ⟨rfl, hR4, hO4⟩; have hB4 := hO.trans (hO4.mono hO.size)) | (go_at_call 11; refine (awake_any _).mono ?_; rintro e w5 ⟨rfl, hO5⟩; have hB5 := hB4.trans (hO5.mono hB4.size)))
            go_ret
            exact ⟨rfl, hB5⟩
        · have hbI : ((bad : Int) == 0) = false := by simpa using hb0
          have hd : doneN b t bad = bad := by unfold doneN; simp [hb0]
          go_wp2_with (first | (go_at_call 19; refine (done_any _ _ _ _ _ HR.out ht (by omega)).mono ?_; rw [hd]; rintro e w4 ⟨rfl, hR4, hO4⟩; have hB4 := hO.trans (hO4.mono hO.size)) | (go_at_call 11; refine (awake_any _).mono ?_; rintro e w5 ⟨rfl, hO5⟩; have hB5 := hB4.trans (hO5.mono hB4.size)))
          go_ret
          exact ⟨rfl, hB5⟩

/-- What the form says of a slice of steps. -/
theorem steps_open {H : Type} {enc : TypeId × Value → H} {W : World} {base : Nat} {v : Value} {d : DataW H} {ps : List MemPlace}
    (hval : Value.okWide Try.prog W .any base 28 v) (h : DataW.Trod enc Try.prog W 0 (fun _ => true) true 28 v d ps) :
    ∃ o len cap, ∃ K M : Nat → Int, v = .slice o len cap ∧ len ≤ maxLen ∧ ∀ i, i < len → ∃ a, o = some a ∧ W.cell? (a.add (i * 2)) = some (.int .i64 (K i)) ∧ W.cell? (a.add (i * 2 + 1)) = some (.int .i64 (M i)) ∧ -9223372036854775808 ≤ M i ∧ M i ≤ 9223372036854775807 := by
  obtain ⟨o, len, cap, rfl⟩ := Go.WideShapes.okWide_slice Try.underlying28 hval
  obtain ⟨fuel, hf⟩ := h
  rcases Go.Deep.open_slice_pairs Try.underlying28 Try.underlying36 (by kernel_rfl) rfl rfl (by kernel_rfl) (by kernel_rfl) hf with ⟨hc, _⟩ | ⟨a, len', cap', m, n, V0, V1, D0, D1, P0, P1, hc, _, hlc, hcm, hm, _, hx⟩
  · refine ⟨o, len, cap, fun _ => 0, fun _ => 0, rfl, ?_, ?_⟩ <;> simp_all [Value.cells]
  · have e : o = some a ∧ len = len' ∧ cap = cap' := by simpa [Value.cells] using hc
    obtain ⟨rfl, rfl, rfl⟩ := e
    have hm' : len ≤ m := by rw [hm]; split <;> omega
    refine ⟨some a, len, cap, fun i => intOf (V0 i), fun i => intOf (V1 i), rfl, by omega, fun i hi => ⟨a, rfl, ?_⟩⟩
    obtain ⟨c0, c1, t0, t1⟩ := hx i (by omega)
    obtain ⟨z0, e0, _, _⟩ := DataW.trod_int Try.underlying3 t0
    obtain ⟨z1, e1, _, w1⟩ := DataW.trod_int Try.underlying3 t1
    have e0' : V0 i = .int .i64 z0 := by simpa using e0
    have e1' : V1 i = .int .i64 z1 := by simpa using e1
    have hb := bounds_i64 w1
    have i0 : intOf (V0 i) = z0 := by rw [e0']; rfl
    have i1 : intOf (V1 i) = z1 := by rw [e1']; rfl
    simp only [i0, i1]
    exact ⟨by rw [c0, e0'], by rw [c1, e1'], hb.1, hb.2⟩
theorem reads_any {H : Type} {enc : TypeId × Value → H} (b : ByteArray) (hb : b.size ≤ 140737488355327) {W : World} {base : Nat} {v : Value} {d : DataW H} {ps : List MemPlace}
    (hval : Value.okWide Try.prog W .any base 28 v) (h : DataW.Trod enc Try.prog W 0 (fun _ => true) true 28 v d ps) :
    Calls Try.prog 4 #[.string b, v] W fun e w' => e = .returned (.bool true) ∧ Below W.heap.size W w' := by
  obtain ⟨o, len, cap, K, M, rfl, hl, hst⟩ := steps_open hval h
  exact reads_walk b o len cap K M W hb hl hst
end Go.Proofs.Ytjjilnbladgjbaa.Vm
