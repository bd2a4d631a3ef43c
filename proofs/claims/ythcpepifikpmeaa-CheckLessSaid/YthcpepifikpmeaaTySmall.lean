/- Types: how deep a tree is, and whether it is small; the contracts of concourselaw10.small and Great. -/
import Derived.Test.YthcpepifikpmeaaCkSpec
namespace Go.Proofs.Ythcpepifikpmeaa.Ck
open Go.RowKit Cm _root_.Go.Proofs.Ythcpepifikpmeaa.Nm
set_option linter.unusedVariables false
set_option linter.unusedSimpArgs false

mutual
def dpT : Ty → Nat | .mk _ _ _ _ of => dpsT of + 1
def dpsT : List Ty → Nat
  | [] => 0
  | t :: l => max (dpT t) (dpsT l)
end
mutual
def smB : Ty → Nat → Bool | .mk _ _ _ _ of, d => decide (d ≤ 20) && decide (of.length ≤ 3) && smsB of (d + 1)
def smsB : List Ty → Nat → Bool
  | [], _ => true
  | t :: l, d => smB t d && smsB l (d + 2)
end
theorem dps_le : ∀ (l : List Ty) (i : Nat) (t : Ty), l[i]? = some t → dpT t ≤ dpsT l
  | [], i, t, h => by simp at h
  | x :: l, 0, t, h => by
    obtain rfl : x = t := by simpa using h
    unfold dpsT; omega
  | x :: l, i + 1, t, h => by
    have := dps_le l i t (by simpa using h)
    unfold dpsT; omega
theorem sms_iff : ∀ (l : List Ty) (d : Nat), smsB l d = true ↔ ∀ (i : Nat) (t : Ty), l[i]? = some t → smB t (d + 2 * i) = true
  | [], d => ⟨fun _ i t h => by simp at h, fun _ => by unfold smsB; rfl⟩
  | x :: l, d => by
    have ih := sms_iff l (d + 2)
    unfold smsB
    rw [Bool.and_eq_true, ih]
    refine ⟨fun ⟨h1, h2⟩ i t h => ?_, fun h => ⟨h 0 x rfl, fun i t ht => ?_⟩⟩
    · cases i with
      | zero => obtain rfl : x = t := by simpa using h
                exact h1
      | succ i =>
        have := h2 i t (by simpa using h)
        rw [show d + 2 * (i + 1) = d + 2 + 2 * i by omega]; exact this
    · have := h (i + 1) t (by simpa using ht)
      rw [show d + 2 * (i + 1) = d + 2 + 2 * i by omega] at this; exact this
mutual
theorem sm_deep : ∀ (t : Ty) (d : Nat), smB t d = true → dpT t + d ≤ 21
  | .mk k n o c of, d => fun h => by
    unfold smB at h
    rw [Bool.and_eq_true, Bool.and_eq_true, decide_eq_true_eq] at h
    have := sms_deep of (d + 1) h.2
    unfold dpT; omega
theorem sms_deep : ∀ (l : List Ty) (d : Nat), smsB l d = true → dpsT l = 0 ∨ dpsT l + d ≤ 21
  | [], d => fun _ => .inl (by unfold dpsT; rfl)
  | t :: l, d => fun h => by
    unfold smsB at h
    rw [Bool.and_eq_true] at h
    have i1 := sm_deep t d h.1
    have i2 := sms_deep l (d + 2) h.2
    unfold dpsT; omega
end
theorem dp_child {k : Int} {n : ByteArray} {o : Option Addr} {c i : Nat} {of : List Ty} {t : Ty} (h : of[i]? = some t) : dpT t < dpT (.mk k n o c of) := by
  have := dps_le of i t h
  show dpT t < dpsT of + 1
  omega
theorem dp_pos (t : Ty) : 0 < dpT t := by cases t; unfold dpT; omega

theorem anB_true {p : Nat → Bool} {n i : Nat} (hi : i < n) (h : p i = true) : anB p n = true := by
  cases hb : anB p n with
  | true => rfl
  | false => rw [anB_false.1 hb i hi] at h; cases h
theorem anB_next {p : Nat → Bool} {n : Nat} (h : anB p n = false) (hp : p n = false) : anB p (n + 1) = false := by
  show (anB p n || p n) = false
  rw [h, hp]; rfl

def Ty.val (t : Ty) : Value := .agg #[.int .i64 t.k, .string t.n, .slice t.o t.of.length t.c]
set_option maxRecDepth 100000 in
set_option maxHeartbeats 1000000 in
theorem small_any : ∀ (N : Nat) (t : Ty) (d : Nat) (w : World), dpT t < N → TyIn w t → d ≤ 1000000 →
    Calls Try.prog 10 #[.agg #[.int .i64 t.k, .string t.n, .slice t.o t.of.length t.c], .int .i64 d] w fun e w' => e = .returned (.bool (smB t d)) ∧ Below w.heap.size w w' := by
  intro N
  induction N with
  | zero => intro t d w h; omega
  | succ N ih =>
    intro t d w hN ht hd
    obtain ⟨k, n, o, c, of⟩ := t
    obtain ⟨l, hl⟩ : ∃ l, l = of.length := ⟨_, rfl⟩
    have hlen : of.length ≤ 9223372036854775807 := by cases ht; assumption
    have hsm : smB (.mk k n o c of) d = (decide (d ≤ 20) && decide (of.length ≤ 3) && smsB of (d + 1)) := by unfold smB; rfl
    show Calls Try.prog 10 #[.agg #[.int .i64 k, .string n, .slice o of.length c], .int .i64 d] w fun e w' => e = .returned (.bool (smB (.mk k n o c of) d)) ∧ Below w.heap.size w w'
    have hB0 := Lib.hid ((Below.refl w.heap.size w).alloc (Nat.le_refl _) (.cells #[.int .i64 k, .string n, .slice o of.length c] 38))
    have hC0 := Lib.hid (Cs.new w [.int .i64 k, .string n, .slice o of.length c] 38)
    have hT := Lib.hid ht
    have hS := Lib.hid hsm
    have hIH := Lib.hid ih
    have hND := Lib.hid hN
    clear ht hsm ih hN
    by_cases h20 : d ≤ 20
    · by_cases h3 : of.length ≤ 3
      · have g1 : ¬ ((20 : Int) < (d : Int)) := by omega
        have g2 : ¬ ((3 : Int) < (of.length : Int)) := by omega
        go_enter Try.func10, Try.ntmps10
        go_wp2
        go_loopw [5] (fun i wr => ∃ j, j ≤ of.length ∧ i = .int .i64 (j : Nat) ∧ Hid (∀ (q : Nat) (t : Ty), q < j → of[q]? = some t → smB t (d + 1 + 2 * q) = true) ∧ Hid (Cs w.heap.size [.int .i64 k, .string n, .slice o of.length c] wr) ∧ Hid (Below w.heap.size w wr)) (fun i _ => of.length - (intOf i).toNat)
        case atStart => exact ⟨0, by omega, rfl, Lib.hid (fun q t hq => by omega), hC0, hB0⟩
        case round =>
          obtain ⟨j, hj, rfl, HP, HC, HB⟩ := hrel
          clear hC0 hB0
          have hsz := HB.out.size
          have d2 := HC.out.cell (i := 2) rfl
          by_cases hjl : j < of.length
          · have hji : (j : Int) < (of.length : Int) := by omega
            obtain ⟨t, hti⟩ : ∃ t, of[j]? = some t := ⟨_, List.getElem?_eq_getElem hjl⟩
            obtain ⟨a, Ab, Ao, As, rfl, hA, hAb, c0, c1, c2, hin⟩ := ty_place (ty_below hT.out HB.out (Nat.le_refl _)) hti
            have hHt := Lib.hid (And.intro hin hti)
            have e1 : IntKind.i64.wrap ((d : Int) + 1 + 2 * (j : Int)) = ((d + 1 + 2 * j : Nat) : Int) := by rw [IntWalk.i64_in _ (by omega)]; omega
            have hdp := dp_child (k := k) (n := n) (o := some a) (c := c) hti
            cases hb : smB t (d + 1 + 2 * j) with
            | true =>
              clear hdp
              go_wp2_with (go_at_call 10; refine (hIH.out t (d + 1 + 2 * j) _ (by have := dp_child (k := k) (n := n) (o := some a) (c := c) hHt.out.2; have := hND.out; omega) hHt.out.1 (by omega)).mono ?_; rw [hb]; rintro e w2 ⟨rfl, hb2⟩)
              go_roundw
              case rel => exact ⟨j + 1, by omega, by go_num, Lib.hid (fun q t' hq ht' => by
                by_cases e : q = j
                · subst e; rw [hHt.out.2] at ht'; obtain rfl := Option.some.inj ht'; exact hb
                · exact HP.out q t' (by omega) ht'), HC.out.below hb2 HC.out.lt, HB.out.trans (hb2.mono hsz)⟩
              case measure => simp [intOf]; omega
            | false =>
              clear hdp
              go_wp2_with (go_at_call 10; refine (hIH.out t (d + 1 + 2 * j) _ (by have := dp_child (k := k) (n := n) (o := some a) (c := c) hHt.out.2; have := hND.out; omega) hHt.out.1 (by omega)).mono ?_; rw [hb]; rintro e w2 ⟨rfl, hb2⟩)
              go_ret
              refine ⟨?_, HB.out.trans (hb2.mono hsz)⟩
              have hf : smsB of (d + 1) = false := by
                cases hx : smsB of (d + 1) with
                | false => rfl
                | true => rw [(sms_iff of (d + 1)).1 hx j t hHt.out.2] at hb; cases hb
              rw [hS.out, hf, Bool.and_false]; rfl
          · have hji : ¬ (j : Int) < (of.length : Int) := by omega
            go_wp2
            go_ret
            refine ⟨?_, HB.out⟩
            have hf : smsB of (d + 1) = true := (sms_iff of (d + 1)).2 (fun q t ht => HP.out q t (by
              have := (List.getElem?_eq_some_iff.1 ht).1
              omega) ht)
            rw [hS.out, hf, decide_eq_true h20, decide_eq_true h3]; rfl
      · have g1 : ¬ ((20 : Int) < (d : Int)) := by omega
        have g2 : ((3 : Int) < (of.length : Int)) := by omega
        go_enter Try.func10, Try.ntmps10
        go_wp2
        go_ret
        refine ⟨?_, hB0.out⟩
        rw [hS.out, decide_eq_false h3, Bool.and_false, Bool.false_and]; rfl
    · have g1 : ((20 : Int) < (d : Int)) := by omega
      go_enter Try.func10, Try.ntmps10
      go_wp2
      go_ret
      refine ⟨?_, hB0.out⟩
      rw [hS.out, decide_eq_false h20, Bool.false_and, Bool.false_and]; rfl
end Go.Proofs.Ythcpepifikpmeaa.Ck
