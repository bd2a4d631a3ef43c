/- The reader's steps that take texts, over the program. -/
import Derived.Test.YtjjilnbladgjbaaSpRd
namespace Go.Proofs.Ytjjilnbladgjbaa.Vm
open Go.RowKit
set_option linter.unusedVariables false

theorem txS_lo (s : ByteArray) (m : Int) (x : ByteArray) (k : Nat) (h : txS s m = (x, k, 0)) : k ≤ s.size ∧ x.size ≤ s.size := by
  obtain ⟨a, b, c, hh⟩ : ∃ a b c, nmS s m = (a, b, c) := ⟨_, _, _, rfl⟩
  by_cases hc : c = 0
  · subst hc
    by_cases hm : s.size < b + a
    · rw [txS_short s m a b hh hm] at h; simp at h
    · rw [txS_good s m a b hh hm] at h
      simp only [Prod.mk.injEq] at h
      obtain ⟨rfl, rfl, _⟩ := h
      exact ⟨by omega, ext_le s _ _⟩
  · rw [txS_bad s m a b c hh hc] at h
    simp only [Prod.mk.injEq] at h; omega
theorem txS_bad0 (s : ByteArray) (m : Int) (x : ByteArray) (k e : Nat) (h : txS s m = (x, k, e)) (he : e ≠ 0) : x = ByteArray.empty ∧ k = 0 ∧ e ≤ 3 := by
  obtain ⟨a, b, c, hh⟩ : ∃ a b c, nmS s m = (a, b, c) := ⟨_, _, _, rfl⟩
  by_cases hc : c = 0
  · subst hc
    by_cases hm : s.size < b + a
    · rw [txS_short s m a b hh hm] at h; simp only [Prod.mk.injEq] at h
      obtain ⟨rfl, rfl, rfl⟩ := h; exact ⟨rfl, rfl, by omega⟩
    · rw [txS_good s m a b hh hm] at h; simp only [Prod.mk.injEq] at h; omega
  · rw [txS_bad s m a b c hh hc] at h
    have := nmS_bad0 s m a b c hh hc
    simp only [Prod.mk.injEq] at h
    obtain ⟨rfl, rfl, rfl⟩ := h; exact ⟨rfl, rfl, by omega⟩

theorem text1_any (s : ByteArray) (m : Int) (x : ByteArray) (k e Bm : Nat) (w : World) (hc : w.cell? ⟨Bm, 0, none⟩ = some (.int .i64 m)) (h : txS s m = (x, k, e)) (hs2 : s.size ≤ maxLen) (hq : s.size ≤ 281474976710656 ∨ m ≤ 281474976710656) (h1 : -9223372036854775808 ≤ m) (h2 : m ≤ 9223372036854775807) :
    Calls Try.prog 31 #[.string s, .pointer (some ⟨Bm, 0, none⟩)] w fun y w' => y = .returned (.tuple #[.string x, .int .i64 k, .int .i64 e]) ∧ Below w.heap.size w w' := by
  have H := Lib.hid h
  clear h
  go_enter Try.func31, Try.ntmps31
  go_wp2_with (go_at_call 7; refine (tx_ret s m _ _ _ H.out _ hs2 hq h1 h2).mono ?_; rintro e w' ⟨rfl, hb⟩)
  go_ret3
  exact ⟨rfl, hb⟩
theorem rest1_any (s : ByteArray) (w : World) (hs : s.size ≤ 281474976710656) :
    Calls Try.prog 32 #[.string s] w fun y w' => y = .returned (.tuple #[.string s, .int .i64 s.size, .int .i64 0]) ∧ Below w.heap.size w w' := by
  go_enter Try.func32, Try.ntmps32
  go_wp2_with (go_at_call 21; refine (own_any s _ (by omega)).mono ?_; rintro e w' ⟨rfl, hb⟩)
  go_ret3
  exact ⟨rfl, hb⟩

set_option maxRecDepth 100000 in
set_option maxHeartbeats 1000000 in
theorem tks_nil (f : Value) (w : World) :
    Calls Try.prog 30 #[.pointer none, f] w fun e w' => e = .returned (.string ByteArray.empty) ∧ w = w' := by
  go_enter Try.func30, Try.ntmps30
  go_wp2
  go_ret
  exact ⟨rfl, rfl⟩
set_option maxRecDepth 100000 in
set_option maxHeartbeats 1000000 in
theorem tks_bad (B t bad : Nat) (b : ByteArray) (f : Value) (w : World) (hr : Rd B b t bad w) (hbad : bad ≠ 0) :
    Calls Try.prog 30 #[.pointer (some ⟨B, 0, none⟩), f] w fun e w' => e = .returned (.string ByteArray.empty) ∧ w = w' := by
  obtain ⟨⟨c0, c1, c2⟩, ⟨f0, f1, f2⟩, hB⟩ := hr
  have hb0 : ((bad : Int) == 0) = false := by simpa using hbad
  go_enter Try.func30, Try.ntmps30
  go_wp2
  go_ret
  exact ⟨rfl, rfl⟩

theorem heldT {B Bm t : Nat} {b : ByteArray} {m : Int} {w w' : World} (hB : B < w.heap.size) (hBm : Bm < w.heap.size) (c0 : w.cell? ⟨B, 0, none⟩ = some (.string b)) (c1 : w.cell? ⟨B, 1, none⟩ = some (.int .i64 t)) (hcm : w.cell? ⟨Bm, 0, none⟩ = some (.int .i64 m)) (h : Below w.drew.heap.size w.drew w') :
    ((w'.cell? ⟨B, 0, none⟩ = some (.string b)) ∧ (w'.cell? ⟨B, 1, none⟩ = some (.int .i64 t))) ∧ (w'.cell? ⟨Bm, 0, none⟩ = some (.int .i64 m)) ∧ Below w.heap.size w w' :=
  ⟨⟨by rw [h.cell (p := ⟨B, 0, none⟩) hB]; exact c0, by rw [h.cell (p := ⟨B, 1, none⟩) hB]; exact c1⟩, by rw [h.cell (p := ⟨Bm, 0, none⟩) hBm]; exact hcm, (Below.refl w.heap.size w).drew.trans h⟩
theorem heldR {B t : Nat} {b : ByteArray} {w w' : World} (hB : B < w.heap.size) (c0 : w.cell? ⟨B, 0, none⟩ = some (.string b)) (c1 : w.cell? ⟨B, 1, none⟩ = some (.int .i64 t)) (h : Below w.drew.heap.size w.drew w') :
    ((w'.cell? ⟨B, 0, none⟩ = some (.string b)) ∧ (w'.cell? ⟨B, 1, none⟩ = some (.int .i64 t))) ∧ Below w.heap.size w w' :=
  ⟨⟨by rw [h.cell (p := ⟨B, 0, none⟩) hB]; exact c0, by rw [h.cell (p := ⟨B, 1, none⟩) hB]; exact c1⟩, (Below.refl w.heap.size w).drew.trans h⟩
theorem Rd.split {B t bad : Nat} {b : ByteArray} {w : World} (h : Rd B b t bad w) : ((w.cell? ⟨B, 0, none⟩ = some (.string b) ∧ w.cell? ⟨B, 1, none⟩ = some (.int .i64 t) ∧ w.cell? ⟨B, 2, none⟩ = some (.int .i64 bad)) ∧ (w.frozen? ⟨B, 0, none⟩ = false ∧ w.frozen? ⟨B, 1, none⟩ = false ∧ w.frozen? ⟨B, 2, none⟩ = false) ∧ B < w.heap.size) := h

set_option maxRecDepth 100000 in
set_option maxHeartbeats 1000000 in
theorem tkt_good (B t k : Nat) (x b : ByteArray) (m : Int) (Bm : Nat) (w : World) (hr : Rd B b t 0 w) (ht : t ≤ b.size) (hs : b.size ≤ 4611686018427387904) (hq : b.size ≤ 281474976710656 ∨ m ≤ 281474976710656) (h1 : -9223372036854775808 ≤ m) (h2 : m ≤ 9223372036854775807) (hBm : Bm < w.heap.size) (hcm : w.cell? ⟨Bm, 0, none⟩ = some (.int .i64 m)) (h : txS (left b t) m = (x, k, 0)) :
    Calls Try.prog 30 #[.pointer (some ⟨B, 0, none⟩), .func (.func 31) #[] #[.pointer (some ⟨Bm, 0, none⟩)]] w fun e w' => e = .returned (.string x) ∧ Rd B b (t + k) 0 w' ∧ Only B w w' := by
  have HR := Lib.hid hr
  obtain ⟨⟨c0, c1, c2⟩, ⟨f0, f1, f2⟩, hB⟩ := hr
  have hls := left_size b t
  have hm : (left b t).size ≤ maxLen := by unfold maxLen; omega
  have hql : (left b t).size ≤ 281474976710656 ∨ m ≤ 281474976710656 := by omega
  have H := Lib.hid h
  obtain ⟨g1, g2⟩ := txS_lo _ m x k h
  clear h
  have hd : decide (b.size < t) = false := decide_eq_false (by omega)
  go_enter Try.func30, Try.ntmps30
  go_wp2
  go_region_held3 (fun w' => ((w'.cell? ⟨B, 0, none⟩ = some (.string b)) ∧ (w'.cell? ⟨B, 1, none⟩ = some (.int .i64 t))) ∧ (w'.cell? ⟨Bm, 0, none⟩ = some (.int .i64 m)) ∧ Below w.heap.size w w') (first | exact ⟨⟨c0, c1⟩, hcm, (Below.refl _ _).drew⟩ | exact hb3) (first | (go_at_call 31; refine (text1_any (left b t) m _ _ _ Bm w.drew hcm H.out hm hql h1 h2).mono ?_; rintro e w' ⟨rfl, hb2⟩; have hb3 := heldT hB hBm c0 c1 hcm hb2; have hbB := hb3.2.2))
  have hR3 := Lib.hid (HR.out.below hbB hB)
  have HB := Lib.hid hbB
  obtain ⟨⟨_, d1, d2⟩, ⟨_, e1, e2⟩, _⟩ := hR3.out.split
  clear hb2 hb3 hbB c0 c1 c2 f0 f1 f2
  go_wp2
  go_ret
  exact ⟨rfl, hR3.out.setAt (t + k), (Only.of HB.out).setCell _⟩
set_option maxRecDepth 100000 in
set_option maxHeartbeats 1000000 in
theorem tkt_err (B t k r : Nat) (x b : ByteArray) (m : Int) (Bm : Nat) (w : World) (hr : Rd B b t 0 w) (ht : t ≤ b.size) (hs : b.size ≤ 4611686018427387904) (hq : b.size ≤ 281474976710656 ∨ m ≤ 281474976710656) (h1 : -9223372036854775808 ≤ m) (h2 : m ≤ 9223372036854775807) (hBm : Bm < w.heap.size) (hcm : w.cell? ⟨Bm, 0, none⟩ = some (.int .i64 m)) (hne : r ≠ 0) (h : txS (left b t) m = (x, k, r)) :
    Calls Try.prog 30 #[.pointer (some ⟨B, 0, none⟩), .func (.func 31) #[] #[.pointer (some ⟨Bm, 0, none⟩)]] w fun e w' => e = .returned (.string ByteArray.empty) ∧ Rd B b t r w' ∧ Only B w w' := by
  have HR := Lib.hid hr
  obtain ⟨⟨c0, c1, c2⟩, ⟨f0, f1, f2⟩, hB⟩ := hr
  have hls := left_size b t
  have hm : (left b t).size ≤ maxLen := by unfold maxLen; omega
  have hql : (left b t).size ≤ 281474976710656 ∨ m ≤ 281474976710656 := by omega
  obtain ⟨rfl, rfl, g3⟩ := txS_bad0 _ m x k r h hne
  have H := Lib.hid h
  clear h
  have he0 : ((r : Int) == 0) = false := by simpa using hne
  have hd : decide (b.size < t) = false := decide_eq_false (by omega)
  go_enter Try.func30, Try.ntmps30
  go_wp2
  go_region_held3 (fun w' => ((w'.cell? ⟨B, 0, none⟩ = some (.string b)) ∧ (w'.cell? ⟨B, 1, none⟩ = some (.int .i64 t))) ∧ (w'.cell? ⟨Bm, 0, none⟩ = some (.int .i64 m)) ∧ Below w.heap.size w w') (first | exact ⟨⟨c0, c1⟩, hcm, (Below.refl _ _).drew⟩ | exact hb3) (first | (go_at_call 31; refine (text1_any (left b t) m _ _ _ Bm w.drew hcm H.out hm hql h1 h2).mono ?_; rintro e w' ⟨rfl, hb2⟩; have hb3 := heldT hB hBm c0 c1 hcm hb2; have hbB := hb3.2.2))
  have hR3 := Lib.hid (HR.out.below hbB hB)
  have HB := Lib.hid hbB
  obtain ⟨⟨_, d1, d2⟩, ⟨_, e1, e2⟩, _⟩ := hR3.out.split
  clear hb2 hb3 hbB c0 c1 c2 f0 f1 f2
  go_wp2
  go_ret
  exact ⟨rfl, hR3.out.setBad r, (Only.of HB.out).setCell _⟩
set_option maxRecDepth 100000 in
set_option maxHeartbeats 1000000 in
theorem tkr_good (B t : Nat) (b : ByteArray) (w : World) (hr : Rd B b t 0 w) (ht : t ≤ b.size) (hs : b.size ≤ 4611686018427387904) (hq : b.size - t ≤ 281474976710656) :
    Calls Try.prog 30 #[.pointer (some ⟨B, 0, none⟩), .func (.func 32) #[] #[]] w fun e w' => e = .returned (.string (left b t)) ∧ Rd B b (t + (b.size - t)) 0 w' ∧ Only B w w' := by
  have HR := Lib.hid hr
  obtain ⟨⟨c0, c1, c2⟩, ⟨f0, f1, f2⟩, hB⟩ := hr
  have hls := left_size b t
  have hm : (left b t).size ≤ 281474976710656 := by omega
  have hd : decide (b.size < t) = false := decide_eq_false (by omega)
  go_enter Try.func30, Try.ntmps30
  go_wp2
  go_region_held3 (fun w' => ((w'.cell? ⟨B, 0, none⟩ = some (.string b)) ∧ (w'.cell? ⟨B, 1, none⟩ = some (.int .i64 t))) ∧ Below w.heap.size w w') (first | exact ⟨⟨c0, c1⟩, (Below.refl _ _).drew⟩ | exact hb3) (first | (go_at_call 32; refine (rest1_any (left b t) _ hm).mono ?_; rintro e w' ⟨rfl, hb2⟩; have hb3 := heldR hB c0 c1 hb2; have hbB := hb3.2))
  have hR3 := Lib.hid (HR.out.below hbB hB)
  have HB := Lib.hid hbB
  obtain ⟨⟨_, d1, d2⟩, ⟨_, e1, e2⟩, _⟩ := hR3.out.split
  clear hb2 hb3 hbB c0 c1 c2 f0 f1 f2
  go_wp2
  go_ret
  exact ⟨rfl, hR3.out.setAt (t + (b.size - t)), (Only.of HB.out).setCell _⟩
end Go.Proofs.Ytjjilnbladgjbaa.Vm
