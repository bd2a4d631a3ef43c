/- The reference's Finite. -/
import Derived.Test.YthcpepifikpmeaaCkRef
namespace Go.Proofs.Ythcpepifikpmeaa.Ck
open Go.RowKit Cm _root_.Go.Proofs.Ythcpepifikpmeaa.Nm
set_option linter.unusedVariables false
set_option linter.unusedSimpArgs false

set_option maxRecDepth 100000 in
set_option maxHeartbeats 2000000 in
theorem rfinite_any (o : Option Addr) (len cap : Nat) (D : Dl) (F : Nat → Fy) (M : Nat → Ml) (w : World) (h : Ax o len D F M w) :
    Calls Try.prog 8 #[.slice o len cap] w fun e w' => ∃ g, e = .returned (.slice (some ⟨g, 0, none⟩) len len) ∧ w.heap.size ≤ g ∧ Bl g len (rdB (syD D F len) len) w' ∧ Below w.heap.size w w' := by
  have hlen := h.1.2
  have hmk := make_bools len hlen
  have HB0 := Lib.hid ((Below.refl w.heap.size w).alloc (Nat.le_refl _) (.cells (madeCells #[.bool false] len) 4))
  have HR0 := Lib.hid (World.rowIs_made w (.bool false) len 4)
  have H := Lib.hid h
  obtain ⟨s, hs⟩ : ∃ s, s = syD D F len := ⟨_, rfl⟩
  have HS := Lib.hid hs
  rw [← hs]
  clear h hs
  go_enter Try.func8, Try.ntmps8
  go_wp2
  go_loopw [3, 4] (fun v i wr => ∃ m g, m ≤ len ∧ v = .slice (some ⟨g, 0, none⟩) len len ∧ i = .int .i64 (m : Nat) ∧ Hid (w.heap.size ≤ g ∧ Bl g len (rdB s m) wr) ∧ Hid (Below w.heap.size w wr)) (fun _ i _ => len - (intOf i).toNat)
  case atStart => exact ⟨0, w.heap.size, by omega, rfl, rfl, Lib.hid ⟨Nat.le_refl _, HR0.out⟩, HB0⟩
  case round =>
    obtain ⟨m, g, hm, rfl, rfl, HR, HB⟩ := hrel
    clear HR0 HB0
    by_cases hml : m < len
    · have hmi : (m : Int) < (len : Int) := by omega
      have hsz := HB.out.size
      have HR2 := Lib.hid (ri_below (f := fun i => .bool (rdB s m i)) HR.out.2 ((Below.refl wr.heap.size wr).alloc (Nat.le_refl _) (.cells (madeCells #[.bool false] len) 4)) HR.out.2.lt)
      have HN2 := Lib.hid (World.rowIs_made wr (.bool false) len 4)
      have HB2 := Lib.hid ((HB.out).alloc hsz (.cells (madeCells #[.bool false] len) 4))
      have hgl := HR.out.2.lt
      go_wp2
      go_loopw [6] (fun i wq => ∃ q, q ≤ len ∧ i = .int .i64 (q : Nat) ∧ Hid (Bl g len (rdB s m) wq) ∧ Hid (Bl wr.heap.size len (fun x => if x < q then rdB s (m + 1) x else false) wq) ∧ Hid (Below w.heap.size w wq)) (fun i _ => len - (intOf i).toNat)
      case atStart => exact ⟨0, by omega, rfl, HR2, Lib.hid (HN2.out.congr (fun i _ => by simp)), HB2⟩
      case round =>
        obtain ⟨q, hq, rfl, HG, HN, HQ⟩ := hrel
        clear HR2 HN2 HB2
        by_cases hql : q < len
        · have hqi : (q : Int) < (len : Int) := by omega
          have HA := Lib.hid (H.out.below HQ.out (Nat.le_refl _))
          have hsz2 := HQ.out.size
          have hNlt := HN.out.lt
          have hfz := HN.out.frozen q
          have hcl := HN.out.cell hql
          obtain ⟨a, Ab, Ao, As, rfl, hA, hAb, c0, c1, c2, c3, c4⟩ := Dx.place HA.out.1 hql
          have ho := HS.out ▸ (rfl : onB s (rdB s m) q = rdB s (m + 1) q)
          go_wp2_with (go_at_call 14; refine (one_any (some a) len cap g len q D F M (rdB s m) _ HA.out (by omega) HG.out).mono ?_; rintro e w2 ⟨rfl, hb2⟩; have hN2 := (ri_below (f := fun x => .bool (if x < q then rdB s (m + 1) x else false)) HN.out hb2 hNlt); have hcl2 := hN2.cell hql; have hfz2 := hN2.frozen q)
          go_roundw
          case rel =>
            refine ⟨q + 1, by omega, by go_num, Lib.hid ?_, Lib.hid ?_, Lib.hid ?_⟩
            · exact (ri_below (f := fun i => .bool (rdB s m i)) HG.out hb2 HG.out.lt).setOther (by exact Nat.ne_of_lt hgl) _
            · refine (hN2.set q _).congr (fun i hi => ?_)
              by_cases e : i = q
              · subst e
                simp only [if_true, Nat.lt_succ_self]
                rw [← HS.out]; rfl
              · simp only [if_neg e]
                by_cases e2 : i < q
                · rw [if_pos e2, if_pos (by omega)]
                · rw [if_neg e2, if_neg (by omega)]
            · exact (HQ.out.trans (hb2.mono hsz2)).setCell (by exact hsz) _
          case measure => simp [intOf]; omega
        · have hqi : ¬ (q : Int) < (len : Int) := by omega
          obtain rfl : q = len := by omega
          go_wp2
          go_roundw
          case rel => exact ⟨m + 1, _, by omega, rfl, by go_num, Lib.hid ⟨hsz, HN.out.congr (g := fun i => .bool (rdB s (m + 1) i)) (fun i hi => by simp only [if_pos hi])⟩, HQ⟩
          case measure => simp [intOf]; omega
    · have hmi : ¬ (m : Int) < (len : Int) := by omega
      obtain rfl : m = len := by omega
      go_wp2
      go_ret
      exact ⟨g, rfl, HR.out.1, HR.out.2, HB.out⟩
end Go.Proofs.Ythcpepifikpmeaa.Ck
