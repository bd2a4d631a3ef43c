/- check's Finite: the walk. -/
import Derived.Test.YthcpepifikpmeaaCkWaits
import Derived.Test.YthcpepifikpmeaaCkFin
namespace Go.Proofs.Ythcpepifikpmeaa.Ck
open Go.RowKit Cm _root_.Go.Proofs.Ythcpepifikpmeaa.Nm Go.Deep
set_option linter.unusedVariables false
set_option linter.unusedSimpArgs false

set_option maxRecDepth 100000 in
set_option maxHeartbeats 8000000 in
theorem finite_any (o : Option Addr) (len cap : Nat) (D : Dl) (F : Nat → Fy) (M : Nat → Ml) (w : World) (h : Ax o len D F M w) (hs : Sml D F len) :
    Calls Try.prog 7 #[.slice o len cap] w fun e w' => ∃ g, e = .returned (.slice (some ⟨g, 0, none⟩) len len) ∧ w.heap.size ≤ g ∧ Bl g len (rdB (syD D F len) len) w' ∧ Below w.heap.size w w' := by
  have hlen := h.1.2
  have hmk := make_bools len hlen
  have HB0 := Lib.hid ((Below.refl w.heap.size w).alloc (Nat.le_refl _) (.cells (madeCells #[.bool false] len) 4))
  have HR0 := Lib.hid (World.rowIs_made w (.bool false) len 4)
  have HZ0 : Hid ((w.alloc (.cells (madeCells #[.bool false] len) 4)).heap.size = w.heap.size + 1) := Lib.hid (by simp)
  have H := Lib.hid (h.below HB0.out (Nat.le_refl _))
  have HSM := Lib.hid hs
  have HFL : Hid (∀ j, j < len → (syD D F len).l j ≤ 30) := Lib.hid (fun j hj => hs.fl j hj)
  have hle := hs.le
  have hsn : (syD D F len).n = len := rfl
  have HSN := Lib.hid hsn
  generalize hse : syD D F len = s at *
  clear h hs hsn
  go_enter Try.func7, Try.ntmps7
  go_wp2
  go_step3
  go_wp2_with (first
    | (go_at_call 12; refine (free_any lb len len len (some ⟨bb, 0, none⟩) (ndS s) _ hlen (HWT.out.li.alloc _)).mono ?_; rintro e w4 ⟨v, rfl, hri, hb4⟩)
    | (go_at_call 11; refine (waits_any o len cap D F M _ H.out HSM.out).mono ?_; rw [hse]; rintro e w2 ⟨lb, bb, B0, bv, bx, rfl, hwt⟩; have HWT := Lib.hid hwt))
  have hz := HZ0.out
  have hb1 := HWT.out.below.size
  have hbB := HWT.out.sz
  have hl1 := HWT.out.l1
  have hbb1 := HWT.out.b1
  have hl0 := HWT.out.l0
  have hbb0 := HWT.out.b0
  have hz3 : (w2.alloc (.cells #[.slice (some ⟨lb, 0, none⟩) len len, .slice (some ⟨bb, 0, none⟩) len len] 44)).heap.size = w2.heap.size + 1 := by simp
  have HK : Hid (Fk s len lb bb w2.heap.size w.heap.size B0 (w2.heap.size + 1) w bx) := Lib.hid ⟨HSN.out, hle, hl0, by omega, by omega, by omega, HWT.out.ne, by omega, by omega, by omega, by omega, by omega, Nat.le_refl _, HWT.out.cnt, HWT.out.len, HFL.out⟩
  have hb3 := ((HWT.out.below).alloc hb1 (.cells #[.slice (some ⟨lb, 0, none⟩) len len, .slice (some ⟨bb, 0, none⟩) len len] 44)).trans (hb4.mono (by rw [hz3]; omega))
  have HM0 : Hid (Fm s len lb bb w2.heap.size w.heap.size B0 (w2.heap.size + 1) w bv bx (fun _ => false) (fzL (ndS s) len) v w4) := Lib.hid ⟨Fd.start (fz_nodup _ _) (fun j => by rw [fz_mem, HSN.out]), (ri_below (f := fun j => .int .i64 (ndS s j)) (HWT.out.li.alloc _) hb4 (HWT.out.li.alloc _).lt).congr (fun i _ => by rw [lf_none]),
    ((HWT.out.bh.below ((Below.refl w2.heap.size w2).alloc (Nat.le_refl _) _))).below hb4, by rw [← hz3]; exact hri, ri_below (f := fun _ => .bool false) HR0.out hb3 (by omega), (Cs.new w2 [.slice (some ⟨lb, 0, none⟩) len len, .slice (some ⟨bb, 0, none⟩) len len] 44).below hb4 (by rw [hz3]; omega), HB0.out.trans (hb3.mono HB0.out.size), by have := hb4.size; omega⟩
  clear hri hb4 hb3 HWT hz3 hz hb1 hbB hl1 hbb1 hl0 hbb0
  go_step3
  go_wp2
  go_loopw [5] (fun u wr => ∃ P l v, v = u ∧ Hid (Fm s len lb bb w2.heap.size w.heap.size B0 (w2.heap.size + 1) w bv bx P l v wr)) (fun u wr => cnB (pzW lb wr) len + nzV u)
  case atStart => exact ⟨_, _, _, rfl, HM0⟩
  case round =>
    obtain ⟨P, l, v, rfl, HM⟩ := hrel
    clear HM0
    obtain ⟨lo, lc, hv, _, hcs⟩ := HM.out.ri.form
    subst hv
    have d0 := HM.out.box.cell (i := 0) rfl
    have d1 := HM.out.box.cell (i := 1) rfl
    by_cases hl : l = []
    · subst hl
      have hfin := HM.out.fd.done
      rw [HSN.out] at hfin
      have HF := Lib.hid (World.rowIs.congr HM.out.fin (g := fun i => .bool (rdB s len i)) (fun i hi => by rw [hfin i hi]))
      clear hfin hcs
      go_wp2
      rw [Exit.noGoto_ret]
      go_ret
      exact ⟨w.heap.size, rfl, Nat.le_refl _, HF.out, HM.out.below⟩
    · have hlz : l.length ≠ 0 := fun e => hl (List.eq_nil_of_length_eq_zero e)
      have hq0 : ((l.length : Int) == 0) = false := beq_eq_false_iff_ne.2 (by omega)
      have hll := nodup_lt s.n l HM.out.fd.nodup (fun x hx => (HM.out.fd.new x hx).1)
      have hll2 : l.length ≤ 9223372036854775807 := by have := HK.out.n21; have := HK.out.eq; omega
      have HL := Lib.hid hl
      have HI0 : Hid (Bl w.heap.size len (adL P (l.take 0)) wr) := Lib.hid HM.out.fin
      clear hl hcs hll
      go_wp2
      clear d0 d1 hq0
      go_loopw [20] (fun i wq => ∃ q, q ≤ l.length ∧ i = .int .i64 (q : Nat) ∧ Hid (Bl w.heap.size len (adL P (l.take q)) wq) ∧ Hid (Only w.heap.size wr wq)) (fun i _ => l.length - (intOf i).toNat)
      case atStart => exact ⟨0, by omega, rfl, HI0, Lib.hid (Only.refl _ _)⟩
      case round =>
        obtain ⟨q, hq, rfl, HI, HO⟩ := hrel
        clear HI0
        by_cases hql : q < l.length
        · have hqi : (q : Int) < (l.length : Int) := by omega
          obtain ⟨p, hp⟩ : ∃ p, l[q]? = some p := ⟨_, List.getElem?_eq_getElem hql⟩
          have hpn : p < len := by have := (HM.out.fd.new p (List.mem_of_getElem? hp)).1; have := HK.out.eq; omega
          have hpi : (p : Int) < (len : Int) := by omega
          obtain ⟨lo', lc', he, _, hcs⟩ := (HM.out.ri.only HO.out HK.out.gB).form
          obtain ⟨rfl, _, rfl⟩ : lo' = lo ∧ True ∧ lc' = lc := by simpa [eq_comm] using he
          obtain ⟨fa, rfl, hfa⟩ := hcs q _ (inC_at hp)
          clear hcs he
          have hc := HI.out.cell hpn
          have hfz := HI.out.frozen p
          have htk : adL P (l.take (q + 1)) = adP (adL P (l.take q)) p := by
            rw [List.take_add_one, hp, adL_app]; rfl
          have HTK := Lib.hid htk
          clear htk hp
          go_wp2
          go_roundw
          case rel => exact ⟨q + 1, by omega, by go_num, Lib.hid ((HI.out.set p _).congr (g := fun i => .bool (adL P (l.take (q + 1)) i)) (fun i hi => by
            rw [HTK.out]
            unfold adP
            by_cases e : i = p
            · subst e; simp
            · simp [e])), Lib.hid (HO.out.setCell _)⟩
          case measure => simp [intOf]; omega
        · have hqi : ¬ (q : Int) < (l.length : Int) := by omega
          obtain rfl : q = l.length := by omega
          have hf := HI.out
          rw [List.take_length] at hf
          have HF := Lib.hid hf
          have hbx := HM.out.box.only HO.out HK.out.wg
          have d0 := hbx.cell (i := 0) rfl
          have d1 := hbx.cell (i := 1) rfl
          have hflat := Lib.hid (HM.out.flat HK.out)
          clear hf hbx
          go_wp2_with (go_at_call 13; refine (freed_any lb bb len B0 (w2.heap.size + 1) (lfS s P) bv bx l (.slice lo l.length lc) _ (by omega) (ri_only (f := fun i => .int .i64 (lfS s P i)) HM.out.li HO.out (Ne.symm HK.out.gl)) (HM.out.bh.only HO.out HK.out.g0 (Ne.symm HK.out.gb)) (HM.out.ri.only HO.out HK.out.gB) HK.out.l0 HK.out.lB HK.out.ne (fun x hx => by have := (HM.out.fd.new x hx).1; have := HK.out.eq; omega) (fun q j hq hj => HK.out.bx_lt hq hj) (fun j hj => HK.out.bounds P hj) hflat.out).mono ?_; rintro e w5 ⟨v', l', rfl, hr, hL, hri, ho2⟩)
          go_roundw
          case rel => exact ⟨adL P l, l', v', rfl, Lib.hid (HM.out.next HK.out HF.out HO.out hr hL hri ho2)⟩
          case measure => exact HM.out.less HK.out HL.out hr hL hri
end Go.Proofs.Ythcpepifikpmeaa.Ck
