/- check's wrongField, wrongMethod. -/
import Derived.Test.YthcpepifikpmeaaCkHeads
namespace Go.Proofs.Ythcpepifikpmeaa.Ck
open Go.RowKit Cm _root_.Go.Proofs.Ythcpepifikpmeaa.Nm
set_option linter.unusedVariables false
set_option linter.unusedSimpArgs false

def wfE (S : Nat → ByteArray) (K : Nat → Int) (n : Nat) (Kd : Int) (t : Ty) : Nat := if Kd = 3 then 0 else match tyE S K n t false with
  | 0 => if Kd = 2 ∧ t.k = 9 then 8 else 0
  | e + 1 => e + 1
set_option maxRecDepth 100000 in
set_option maxHeartbeats 2000000 in
theorem wfield_any (T n : Nat) (S : Nat → ByteArray) (K : Nat → Int) (Kd : Int) (t : Ty) (w : World) (h : Tb T n S K w) (ht : TyIn w t) (hd : dpT t ≤ 131072) :
    Calls Try.prog 29 #[.pointer (some ⟨T, 0, none⟩), .int .i64 Kd, .agg #[.int .i64 t.k, .string t.n, .slice t.o t.of.length t.c]] w fun e w' => e = .returned (.int .i64 (wfE S K n Kd t : Nat)) ∧ Below w.heap.size w w' := by
  have hB := (Below.refl w.heap.size w).alloc (Nat.le_refl _) (.cells #[.int .i64 t.k, .string t.n, .slice t.o t.of.length t.c] 38)
  have HB := Lib.hid hB
  have HC := Lib.hid (Cs.new w [.int .i64 t.k, .string t.n, .slice t.o t.of.length t.c] 38)
  have HT := Lib.hid (h.below hB)
  have HI := Lib.hid (ty_below ht hB (Nat.le_refl _))
  clear h ht hB
  by_cases h3 : Kd = 3
  · subst h3
    have he : wfE S K n 3 t = 0 := by unfold wfE; rw [if_pos rfl]
    rw [he]
    clear he
    go_enter Try.func29, Try.ntmps29
    go_wp2
    go_ret
    exact ⟨rfl, HB.out⟩
  · have q3 : (Kd == 3) = false := beq_eq_false_iff_ne.2 h3
    have hw := wtype_any T n S K t false
    cases hr : tyE S K n t false with
    | succ e =>
      have he : wfE S K n Kd t = e + 1 := by unfold wfE; rw [if_neg h3, hr]
      rw [he]
      rw [hr] at hw
      have HW := Lib.hid hw
      have hq : (((e + 1 : Nat) : Int) == 0) = false := beq_eq_false_iff_ne.2 (by omega)
      obtain ⟨x, hx⟩ : ∃ x : Int, x = ((e + 1 : Nat) : Int) := ⟨_, rfl⟩
      rw [← hx] at HW hq ⊢
      clear he hr hw h3 hx
      go_enter Try.func29, Try.ntmps29
      go_wp2_with (go_at_call 31; refine (HW.out _ HT.out HI.out hd).mono ?_; rintro e w1 ⟨rfl, hb1⟩)
      go_ret
      exact ⟨rfl, HB.out.trans (hb1.mono HB.out.size)⟩
    | zero =>
      rw [hr] at hw
      have HW := Lib.hid hw
      clear hw
      by_cases h2 : Kd = 2
      · subst h2
        by_cases h9 : t.k = 9
        · have he : wfE S K n 2 t = 8 := by unfold wfE; rw [if_neg h3, hr]; exact if_pos ⟨rfl, h9⟩
          rw [he]
          have H9 := Lib.hid h9
          clear he hr h3 q3 h9
          go_enter Try.func29, Try.ntmps29
          go_wp2_with (go_at_call 31; refine (HW.out _ HT.out HI.out hd).mono ?_; rintro e w1 ⟨rfl, hb1⟩; have d0 := (HC.out.below hb1 HC.out.lt).cell (i := 0) rfl; rw [H9.out] at d0)
          go_ret
          exact ⟨rfl, HB.out.trans (hb1.mono HB.out.size)⟩
        · have he : wfE S K n 2 t = 0 := by unfold wfE; rw [if_neg h3, hr]; exact if_neg (fun e => h9 e.2)
          have q9 : (t.k == 9) = false := beq_eq_false_iff_ne.2 h9
          rw [he]
          clear he hr h3 q3 h9
          go_enter Try.func29, Try.ntmps29
          go_wp2_with (go_at_call 31; refine (HW.out _ HT.out HI.out hd).mono ?_; rintro e w1 ⟨rfl, hb1⟩; have d0 := (HC.out.below hb1 HC.out.lt).cell (i := 0) rfl)
          go_ret
          exact ⟨rfl, HB.out.trans (hb1.mono HB.out.size)⟩
      · have he : wfE S K n Kd t = 0 := by unfold wfE; rw [if_neg h3, hr]; exact if_neg (fun e => h2 e.1)
        have q2 : (Kd == 2) = false := beq_eq_false_iff_ne.2 h2
        rw [he]
        clear he hr h3 h2
        go_enter Try.func29, Try.ntmps29
        go_wp2_with (go_at_call 31; refine (HW.out _ HT.out HI.out hd).mono ?_; rintro e w1 ⟨rfl, hb1⟩; have d0 := (HC.out.below hb1 HC.out.lt).cell (i := 0) rfl)
        go_ret
        exact ⟨rfl, HB.out.trans (hb1.mono HB.out.size)⟩

def wmE (S : Nat → ByteArray) (K : Nat → Int) (n : Nat) (i o : ByteArray) : Nat := match stE S K n i with
  | 0 => stE S K n o
  | e + 1 => e + 1
theorem one_cell (w : World) : ∀ j, j < ([1] : List Int).length → (w.alloc (.cells #[.int .i64 1] 3)).cell? ⟨w.heap.size, j, none⟩ = some (.int .i64 (([1] : List Int).getD j 0)) := fun j hj => by
  have hc := Cs.new w [.int .i64 1] 3
  match j, hj with
  | 0, _ => exact hc.cell (i := 0) rfl
set_option maxRecDepth 100000 in
set_option maxHeartbeats 2000000 in
theorem wmethod_any (T n : Nat) (S : Nat → ByteArray) (K : Nat → Int) (t : Int) (nm i o : ByteArray) (b : Bool) (w : World) (h : Tb T n S K w) (hi : i.size ≤ 140737488355327) (ho : o.size ≤ 140737488355327) :
    Calls Try.prog 30 #[.pointer (some ⟨T, 0, none⟩), .agg #[.int .i64 t, .string nm, .string i, .string o, .bool b]] w fun e w' => e = .returned (.int .i64 (wmE S K n i o : Nat)) ∧ Below w.heap.size w w' := by
  have hB := ((Below.refl w.heap.size w).alloc (Nat.le_refl _) (.cells #[.int .i64 t, .string nm, .string i, .string o, .bool b] 76)).alloc (by simp) (.cells #[.int .i64 1] 3)
  have HB := Lib.hid hB
  have HC := Lib.hid ((Cs.new w [.int .i64 t, .string nm, .string i, .string o, .bool b] 76).alloc (.cells #[.int .i64 1] 3))
  have HT := Lib.hid (h.below hB)
  have HO := Lib.hid (one_cell (w.alloc (.cells #[.int .i64 t, .string nm, .string i, .string o, .bool b] 76)))
  have HZ : Hid ((w.alloc (.cells #[.int .i64 t, .string nm, .string i, .string o, .bool b] 76)).heap.size = w.heap.size + 1) := Lib.hid (by simp)
  clear h hB
  have h1 := wname_any T n (w.heap.size + 1) 1 S K i [1]
  have h2 := fun g => wname_any T n g 1 S K o [1]
  rw [wn_struct] at h1
  simp only [wn_struct] at h2
  have H1 := Lib.hid h1
  have H2 := Lib.hid h2
  cases hr : stE S K n i with
  | succ e =>
    have he : wmE S K n i o = e + 1 := by unfold wmE; rw [hr]
    rw [he]
    rw [hr] at h1
    have HW := Lib.hid h1
    have hq : ((((e + 1 : Nat) : Int)) != 0) = true := bne_iff_ne.2 (by omega)
    obtain ⟨x, hx⟩ : ∃ x : Int, x = ((e + 1 : Nat) : Int) := ⟨_, rfl⟩
    rw [← hx] at HW hq ⊢
    clear he hr h1 h2 hx H1 H2
    go_enter Try.func30, Try.ntmps30
    go_wp2_with (go_at_call 32; refine (HW.out _ HT.out hi (by decide) (by simp) (by rw [← HZ.out]; exact HO.out)).mono ?_; rintro e w1 ⟨rfl, hb1⟩)
    go_ret
    exact ⟨rfl, HB.out.trans (hb1.mono HB.out.size)⟩
  | zero =>
    have he : wmE S K n i o = stE S K n o := by unfold wmE; rw [hr]
    rw [he]
    rw [hr] at h1
    have HW := Lib.hid h1
    clear he hr h1 h2 H1
    go_enter Try.func30, Try.ntmps30
    go_wp2_with (first
      | (go_at_call_of 32 (Value.string o); refine (H2.out w1.heap.size _ ((HT.out.below hb1).alloc _) ho (by decide) (by simp) (one_cell w1)).mono ?_; rintro e w2 ⟨rfl, hb2⟩)
      | (go_at_call 32; refine (HW.out _ HT.out hi (by decide) (by simp) (by rw [← HZ.out]; exact HO.out)).mono ?_; rintro e w1 ⟨rfl, hb1⟩; have d3 := (HC.out.below hb1 HC.out.lt).cell (i := 3) rfl))
    go_ret
    exact ⟨rfl, ((HB.out.trans (hb1.mono HB.out.size)).alloc (Nat.le_trans HB.out.size hb1.size) _).trans (hb2.mono (by have h1 := HB.out.size; have h2 := hb1.size; simp; omega))⟩
end Go.Proofs.Ythcpepifikpmeaa.Ck
