/- fit: items that stand by turns: lists, maps. -/
import Derived.Deep.OwnRows
import Derived.Laws.EntriesVeiled
import Derived.Test.YtdogddliifbjnaaGreatMg31
namespace Go.Proofs.YtdogddliifbjnaaGreat.Ck
open Go.RowKit Cm
open _root_.Go.Proofs.YtdogddliifbjnaaGreat.Nm
set_option linter.unusedVariables false
set_option linter.unusedSimpArgs false
theorem infoQuE : (Tryz.prog.info? 71).map (fun i => (i.zero, i.size, i.bytes)) = some (some .nilFunc, 1, 8) := by kernel_rfl
theorem make_quests (n : Nat) (hn : n ≤ 1759218604441) (w : World) : (Instr.makeSlice 181 (.int .i64 (n : Int)) (.int .i64 (n : Int))).run Tryz.prog w = .ok (.slice (some ⟨w.heap.size, 0, none⟩) n n) (w.alloc (.cells (madeCells #[.nilFunc] n) 71)) :=
  run_make_row' (P := Tryz.prog) 181 71 .nilFunc 8 Tryz.underlying181 infoQuE rfl .i64 .i64 n (by omega) (by omega) w
/-- A question of a type. -/
def QsP (L : Sc) (p : Option Addr) (C : Nat) (Y : Ty) (x : Value) : Prop := ∃ Z, CoreR Y.sp Z.sp ∧ (∀ w1, TyIn w1 Y → TyIn w1 Z) ∧ Th 21 Z.sp ∧ OfV L p C Z x
def TuP (L : Sc) (n : Nat) (Z : Ty) (v : Va.Va) : Prop := ∀ (i : Nat) (x : Va.Va) (t : Sp), v.is[i]? = some x → Z.sp.of[i % Z.of.length]? = some t → fitN L (n + 1) t x
theorem ofv_func {L : Sc} {p : Option Addr} {C : Nat} {Z : Ty} {x : Value} (h : OfV L p C Z x) : ∃ (f : Nat) (first : Array Value), x = .func (.func f) first #[] := by
  rcases h with ⟨_, rfl⟩ | ⟨_, h⟩ | ⟨_, _, rfl⟩ | ⟨_, _, rfl⟩ | ⟨_, rfl⟩
  · exact ⟨_, _, rfl⟩
  · rcases h with ⟨_, rfl⟩ | ⟨_, rfl⟩ | ⟨_, rfl⟩ | ⟨_, rfl⟩ <;> exact ⟨_, _, rfl⟩
  · exact ⟨_, _, rfl⟩
  · exact ⟨_, _, rfl⟩
  · exact ⟨_, _, rfl⟩
theorem ty_place' {w : World} {Z t : Ty} {i : Nat} (h : TyIn w Z) (hi : Z.of[i]? = some t) :
    ∃ a Ab Ao As, Z.o = some a ∧ a.add (i * 3) = ⟨Ab, Ao, As⟩ ∧ Ab < w.heap.size ∧ w.cell? ⟨Ab, Ao, As⟩ = some (.int .i64 t.k) ∧ w.cell? ⟨Ab, Ao + 1, none⟩ = some (.string t.n) ∧ w.cell? ⟨Ab, Ao + 2, none⟩ = some (.slice t.o t.of.length t.c) ∧ TyIn w t := by
  cases Z; exact ty_place h hi
set_option maxRecDepth 100000 in
set_option maxHeartbeats 4000000 in
theorem titems_core (n : Nat) (okv : Va.Va → Prop) (F : Nat → Bool) (p : Option Addr) (L : Sc) (q : Option Addr) (M : Sc) (C : Nat) (HI : AskN n okv F p L q M C) (zk : Int) (zn : ByteArray) (zo : Option Addr) (zc : Nat) (zof : List Ty) (m : Nat) (vk vn : Int) (vs : ByteArray) (vtb : Option Addr) (vtc : Nat) (vts : List Int) (vio : Option Addr) (vic : Nat) (vis : List Va.Va) (w : World) (h : Ak F p L q M C w)
    (hZ : TyIn (cut F w) (Ty.mk zk zn zo zc zof)) (ht : Th 21 (Ty.mk zk zn zo zc zof).sp) (hzm : zof.length = m) (hm1 : 1 ≤ m) (hm2 : m ≤ 2) (hv : Va.VaIn (cut F w) (Va.Va.mk vk vn vs vtb vtc vts vio vic vis)) (hvi : vis.length ≤ 140737488355327) (hok : ∀ u, u ∈ vis → okv u) :
    Calls Tryz.prog 79 #[.agg #[.pointer p, .map (some C), .slice zo m zc], .slice vio vis.length vic] w (fun e w' => AnP (TuP L n (Ty.mk zk zn zo zc zof) (Va.Va.mk vk vn vs vtb vtc vts vio vic vis)) F p L q M C w e w') := by
  have hmk := make_quests m (by omega)
  have hC := (Cs.new w [.pointer p, .map (some C), .slice zo m zc] 111)
  have c0 := hC.cell (i := 0) rfl
  have c1 := hC.cell (i := 1) rfl
  have c2 := hC.cell (i := 2) rfl
  have hC1 := hC.alloc (.cells (madeCells #[.nilFunc] m) 71)
  have d0 := hC1.cell (i := 0) rfl
  have d1 := hC1.cell (i := 1) rfl
  have d2 := hC1.cell (i := 2) rfl
  have HC1 := Lib.hid hC1
  have hR1 := World.rowIs_made (w.alloc (.cells #[.pointer p, .map (some C), .slice zo m zc] 111)) .nilFunc m 71
  rw [show (w.alloc (.cells #[.pointer p, .map (some C), .slice zo m zc] 111)).heap.size = w.heap.size + 1 by simp] at hR1
  have HR1 := Lib.hid hR1
  have HB1 := Lib.hid (((Below.refl w.heap.size w).alloc (Nat.le_refl _) (.cells #[.pointer p, .map (some C), .slice zo m zc] 111)).alloc (by simp) (.cells (madeCells #[.nilFunc] m) 71))
  have HA0 := Lib.hid h
  have HV := Lib.hid hv
  have HZ := Lib.hid hZ
  have HT := Lib.hid ht
  have HZM := Lib.hid hzm
  have HOK := Lib.hid hok
  have HII := Lib.hid HI
  have HNW : Hid (∀ k, w.heap.size ≤ k → Tn p q C k = false) := Lib.hid (fun k hk => by
    unfold Tn Ck.add
    rw [Bool.or_eq_false_iff, decide_eq_false_iff_not]
    exact ⟨h.pq.new hk, fun e => by obtain ⟨N, G, m1, _⟩ := h.mp; have := m1.lt; omega⟩)
  clear h hv hZ ht hzm hok HI hC hC1 hR1
  go_enter Tryz.func79, Tryz.ntmps79
  go_wp2
  go_loopw [18] (fun i wr => ∃ (j : Nat) (X : Nat → Value), j ≤ m ∧ i = .int .i64 (j : Nat) ∧ Hid (∀ k Y, k < j → zof[k]? = some Y → QsP L p C Y (X k)) ∧ Hid (wr.rowIs (w.heap.size + 1) 71 m X) ∧ Hid (Cs w.heap.size [.pointer p, .map (some C), .slice zo m zc] wr) ∧ Hid (Below w.heap.size w wr)) (fun i _ => m - (intOf i).toNat)
  case atStart => exact ⟨0, _, by omega, rfl, Lib.hid (fun k Y hk => by omega), HR1, HC1, HB1⟩
  case round =>
    obtain ⟨j, X, hj, rfl, HQ, HR, HC, HB⟩ := hrel
    clear HR1 HC1 HB1
    have hsz := HB.out.size
    by_cases hjl : j < m
    · have hji : (j : Int) < (m : Int) := by omega
      obtain ⟨Y, hY⟩ : ∃ Y, zof[j]? = some Y := ⟨_, List.getElem?_eq_getElem (by rw [HZM.out]; exact hjl)⟩
      have HZr := Lib.hid (ty_below (ty_sub HZ.out (cut_all F w)) HB.out (Nat.le_refl _))
      obtain ⟨a, Ab, Ao, As, rfl, hA, hAb, x0, x1, x2, hyin⟩ := ty_place HZr.out hY
      have HYJ := Lib.hid hY
      clear hY
      have hX := Cs.new wr [.int .i64 Y.k, .string Y.n, .slice Y.o Y.of.length Y.c] 48
      have k0 := hX.cell (i := 0) rfl
      have k1 := hX.cell (i := 1) rfl
      have k2 := hX.cell (i := 2) rfl
      have hBx := (Below.refl wr.heap.size wr).alloc (Nat.le_refl _) (.cells #[.int .i64 Y.k, .string Y.n, .slice Y.o Y.of.length Y.c] 48)
      have hCx := HC.out.below hBx HC.out.lt
      have e0 := hCx.cell (i := 0) rfl
      have e1 := hCx.cell (i := 1) rfl
      have HRx := Lib.hid (ri_below (f := X) HR.out hBx HR.out.lt)
      have HBx := Lib.hid (HB.out.trans (hBx.mono hsz))
      have HYx := Lib.hid (ty_below hyin hBx (Nat.le_refl _))
      have HCx := Lib.hid hCx
      clear hX hBx hCx hyin
      have HTY : Hid (Th 21 Y.sp) := Lib.hid ((th_child (N := 20) HT.out HYJ.out).more (by omega))
      go_wp2_with (go_at_call 24; go_loud (refine (of_any F p L q M C Y 21 _ (HA0.out.below HBx.out) HYx.out HTY.out (by omega)).mono ?_; rintro e w2 ⟨xq, Z2, rfl, hcr, hzt, hth, hof, ha2, hb2⟩; obtain ⟨fq, firstq, hxq⟩ := ofv_func hof; have hR2 := ri_below (f := X) HRx.out hb2 HRx.out.lt; have r0 := hR2.cell hjl; have r1 := hR2.frozen j; have HR2 := Lib.hid hR2; have HC2 := Lib.hid (HCx.out.below hb2 HCx.out.lt); have HB2 := Lib.hid (HBx.out.trans (hb2.mono HBx.out.size)); have HQ2 : Hid (QsP L p C Y xq) := Lib.hid ⟨Z2, hcr, hzt, hth, hof⟩; clear hcr hzt hth hof ha2 hb2 hR2; subst hxq))
      refine ⟨?_, by simp [intOf]; omega⟩
      · refine ⟨j + 1, fun k => if k = j then .func (.func fq) firstq #[] else X k, by omega, by go_num, Lib.hid (fun k Y' hk hY' => ?_), Lib.hid (HR2.out.set j _), Lib.hid (HC2.out.other (i := j) _ (by omega)), Lib.hid (HB2.out.setCell (by exact Nat.le_succ _) _)⟩
        by_cases e : k = j
        · subst e
          rw [HYJ.out] at hY'
          obtain rfl := Option.some.inj hY'
          show QsP L p C _ (if _ then _ else _)
          rw [if_pos rfl]; exact HQ2.out
        · show QsP L p C _ (if _ then _ else _)
          rw [if_neg e]; exact HQ.out k Y' (by omega) hY'
    · have hji : ¬ (j : Int) < (m : Int) := by omega
      obtain rfl : m = j := by omega
      have HAl := Lib.hid (HA0.out.below HB.out)
      have HBl := Lib.hid (Be.of (F := Tn p q C) HB.out)
      have HZl := Lib.hid (ty_below HZ.out (cut_below (F := F) HB.out) (by rw [cut_size]; exact Nat.le_refl _))
      clear HB HC
      go_wp2
      go_loopw [33] (fun i wr => ∃ (j : Nat), j ≤ vis.length ∧ i = .int .i64 (j : Nat) ∧ Hid (∀ k x t, k < j → vis[k]? = some x → (Ty.mk zk zn zo zc zof).sp.of[k % m]? = some t → fitN L (n + 1) t x) ∧ Hid (Ak F p L q M C wr) ∧ Hid (Be (Tn p q C) w wr) ∧ Hid (wr.rowIs (w.heap.size + 1) 71 m X)) (fun i _ => vis.length - (intOf i).toNat)
      case atStart => exact ⟨0, by omega, rfl, Lib.hid (fun k x t hk => by omega), HAl, HBl, HR⟩
      case round =>
        obtain ⟨i, hi, rfl, HP, HA, HB, HRr⟩ := hrel
        have HRm : Hid (∀ W : World, Be (Tn p q C) wr W → W.rowIs (w.heap.size + 1) 71 m X) := Lib.hid (fun W hb => HRr.out.of_block (hb.block HRr.out.lt (HNW.out _ (Nat.le_succ _))))
        clear HAl HBl HR HZl
        by_cases hil : i < vis.length
        · have hii : (i : Int) < (vis.length : Int) := by omega
          obtain ⟨x, hx⟩ : ∃ x, vis[i]? = some x := ⟨_, List.getElem?_eq_getElem hil⟩
          have HX := Lib.hid hx
          have HOX := Lib.hid (HOK.out x (List.mem_of_getElem? hx))
          clear hx
          have HVr := Lib.hid (Va.va_below HV.out (HA0.out.wide HB.out) (by rw [cut_size]; exact Nat.le_refl _))
          obtain ⟨xa, Xb, Xo, Xs, rfl, hXA, hXl, y0, y1, y2, y3, y4, hxin⟩ := Va.va_place HVr.out HX.out
          replace y0 := (cut_all F wr).cell y0
          replace y1 := (cut_all F wr).cell y1
          replace y2 := (cut_all F wr).cell y2
          replace y3 := (cut_all F wr).cell y3
          replace y4 := (cut_all F wr).cell y4
          obtain ⟨r, hr⟩ : ∃ r, r = i % m := ⟨_, rfl⟩
          have hrm : r < m := by rw [hr]; exact Nat.mod_lt _ (by omega)
          obtain ⟨Y, hY⟩ : ∃ Y, zof[r]? = some Y := ⟨_, List.getElem?_eq_getElem (by rw [HZM.out]; exact hrm)⟩
          obtain ⟨Z2, hcr, hzt, hth, hof⟩ := HQ.out r Y hrm hY
          obtain ⟨f, first, hXr, hcf, hask⟩ := HII.out Z2 (X r) hth hof
          have e1 : (i : Int).tmod (m : Int) = (r : Int) := by rw [Int.tmod_eq_emod_of_nonneg (by omega), hr]; omega
          have e2 : IntKind.i64.wrap (r : Int) = (r : Int) := IntWalk.i64_in _ (by omega)
          have e3 : (i : Int) % (m : Int) = (r : Int) := by rw [hr]; omega
          have hm0 : ¬ (m : Int) = 0 := by omega
          have hm0n : ¬ m = 0 := by omega
          have hm0b : ((m : Int) == 0) = false := by simpa using hm0
          have hri : (r : Int) < (m : Int) := by omega
          have HSP : Hid ((Ty.mk zk zn zo zc zof).sp.of[i % m]? = some Y.sp) := Lib.hid (by rw [← hr, sp_mk]; show (zof.map Ty.sp)[r]? = _; rw [List.getElem?_map, hY]; rfl)
          have HYZ : Hid (TyIn (cut F w) Y) := Lib.hid (by obtain ⟨_, _, _, _, _, _, _, _, _, _, g⟩ := ty_place HZ.out hY; exact g)
          have HCR := Lib.hid hcr
          have hBx := ((Below.refl wr.heap.size wr).alloc (Nat.le_refl _) (.cells #[.int .i64 x.k, .int .i64 x.n, .string x.s, .slice x.tb x.ts.length x.tc, .slice x.io x.is.length x.ic] 26)).drew
          have HXx := Lib.hid (Cs.new wr [.int .i64 x.k, .int .i64 x.n, .string x.s, .slice x.tb x.ts.length x.tc, .slice x.io x.is.length x.ic] 26).drew
          have HSB : Hid (∀ W : World, Be (Tn p q C) (wr.alloc (.cells #[.int .i64 x.k, .int .i64 x.n, .string x.s, .slice x.tb x.ts.length x.tc, .slice x.io x.is.length x.ic] 26)).drew W → (W.cell? ⟨w.heap.size + 1, r, none⟩ = some (.func (.func f) first #[]) ∧ W.cell? ⟨wr.heap.size, 0, none⟩ = some (.int .i64 x.k) ∧ W.cell? ⟨wr.heap.size, 1, none⟩ = some (.int .i64 x.n) ∧ W.cell? ⟨wr.heap.size, 2, none⟩ = some (.string x.s) ∧ W.cell? ⟨wr.heap.size, 3, none⟩ = some (.slice x.tb x.ts.length x.tc) ∧ W.cell? ⟨wr.heap.size, 4, none⟩ = some (.slice x.io x.is.length x.ic))) := Lib.hid (fun W hb => by
            have h1 := (HRm.out W ((Be.of hBx).trans hb)).cell hrm
            rw [hXr] at h1
            have h2 := HXx.out.be hb (HNW.out _ HB.out.size)
            exact ⟨h1, h2.cell (i := 0) rfl, h2.cell (i := 1) rfl, h2.cell (i := 2) rfl, h2.cell (i := 3) rfl, h2.cell (i := 4) rfl⟩)
          have hS0 := HSB.out _ (Be.refl _ _)
          have HASK := Lib.hid (hask x _ HOX.out (HA.out.below hBx) (hzt _ (ty_below (ty_below HYZ.out (HA0.out.wide HB.out) (by rw [cut_size]; exact Nat.le_refl _)) (cut_below (F := F) hBx) (by rw [cut_size]; exact Nat.le_refl _))) (Va.va_below hxin (cut_below (F := F) hBx) (by rw [cut_size]; exact Nat.le_refl _)))
          have HBx := Lib.hid (Be.of (F := Tn p q C) hBx)
          clear hr hY hcr hzt hth hof hask hBx hxin hXr hrm
          go_upto_region 10 with (fail)
          go_region_held3 (fun W => (W.cell? ⟨w.heap.size + 1, r, none⟩ = some (.func (.func f) first #[]) ∧ W.cell? ⟨wr.heap.size, 0, none⟩ = some (.int .i64 x.k) ∧ W.cell? ⟨wr.heap.size, 1, none⟩ = some (.int .i64 x.n) ∧ W.cell? ⟨wr.heap.size, 2, none⟩ = some (.string x.s) ∧ W.cell? ⟨wr.heap.size, 3, none⟩ = some (.slice x.tb x.ts.length x.tc) ∧ W.cell? ⟨wr.heap.size, 4, none⟩ = some (.slice x.io x.is.length x.ic)))
            (first | (with_reducible exact hS0) | (with_reducible exact hS6))
            (first | (go_at_fn f; go_loud (refine HASK.out.mono ?_; rintro e w6 ⟨er, rfl, her, ha6, hb6⟩; have HER := Lib.hid her; have HA7 := Lib.hid ha6; have HB7 := Lib.hid (HBx.out.trans hb6); have hS6 := HSB.out _ hb6; clear her ha6 hb6)))
          have HB8 := Lib.hid (HB.out.trans HB7.out)
          have HR8 := Lib.hid (HRm.out _ HB7.out)
          have HFIT : Hid (er = 0 ↔ fitN L (n + 1) Y.sp x) := Lib.hid (HER.out.trans (fit_core HCR.out).symm)
          by_cases he : er = 0
          · subst he
            go_wp2
            go_roundw
            case rel =>
              refine ⟨i + 1, by omega, by go_num, Lib.hid (fun k x' t hk hx' ht' => ?_), HA7, HB8, HR8⟩
              by_cases e : k = i
              · subst e
                rw [HX.out] at hx'
                rw [HSP.out] at ht'
                obtain rfl := Option.some.inj hx'
                obtain rfl := Option.some.inj ht'
                exact HFIT.out.1 rfl
              · exact HP.out k x' t (by omega) hx' ht'
            case measure => simp [intOf]; omega
          · have hq : (er != 0) = true := by simpa using he
            have HE := Lib.hid he
            clear he
            go_wp2
            go_ret
            exact ⟨er, rfl, ⟨fun h => absurd h HE.out, fun h => absurd (HFIT.out.2 (h i x Y.sp HX.out (by show (Ty.mk zk zn zo zc zof).sp.of[i % zof.length]? = _; rw [HZM.out]; exact HSP.out))) HE.out⟩, HA7.out, HB8.out⟩
        · have hii : ¬ (i : Int) < (vis.length : Int) := by omega
          obtain rfl : i = vis.length := by omega
          go_wp2
          go_ret
          exact ⟨0, rfl, ⟨fun _ k x t hx ht => HP.out k x t (List.getElem?_eq_some_iff.1 hx).1 hx (by rw [← HZM.out]; exact ht), fun _ => rfl⟩, HA.out, HB.out⟩
theorem titems_any (n : Nat) (okv : Va.Va → Prop) (F : Nat → Bool) (p : Option Addr) (L : Sc) (q : Option Addr) (M : Sc) (C : Nat) (HI : AskN n okv F p L q M C) (Z : Ty) (m : Nat) (v : Va.Va) (w : World) (h : Ak F p L q M C w)
    (hZ : TyIn (cut F w) Z) (ht : Th 21 Z.sp) (hzm : Z.of.length = m) (hm1 : 1 ≤ m) (hm2 : m ≤ 2) (hv : Va.VaIn (cut F w) v) (hvi : v.is.length ≤ 140737488355327) (hok : ∀ u, u ∈ v.is → okv u) :
    Calls Tryz.prog 79 #[.agg #[.pointer p, .map (some C), .slice Z.o m Z.c], .slice v.io v.is.length v.ic] w (fun e w' => AnP (TuP L n Z v) F p L q M C w e w') := by
  obtain ⟨zk, zn, zo, zc, zof⟩ := Z
  obtain ⟨vk, vn, vs, vtb, vtc, vts, vio, vic, vis⟩ := v
  exact titems_core n okv F p L q M C HI zk zn zo zc zof m vk vn vs vtb vtc vts vio vic vis w h hZ ht hzm hm1 hm2 hv hvi hok
end Go.Proofs.YtdogddliifbjnaaGreat.Ck
/- fit: lists and maps. (Written by gen_lists.py.) -/
namespace Go.Proofs.YtdogddliifbjnaaGreat.Ck
open Go.RowKit Cm
open _root_.Go.Proofs.YtdogddliifbjnaaGreat.Nm
set_option linter.unusedVariables false
set_option linter.unusedSimpArgs false
theorem va_il {w : World} {v : Va.Va} (h : Va.VaIn w v) : v.is.length ≤ 140737488355327 := by cases v; exact (Va.va_room h).2.2.2.2
set_option maxRecDepth 100000 in
set_option maxHeartbeats 2000000 in
theorem tlist_any (n : Nat) (okv : Va.Va → Prop) (F : Nat → Bool) (p : Option Addr) (L : Sc) (q : Option Addr) (M : Sc) (C : Nat) (HI : AskN n okv F p L q M C) (Z : Ty) (v : Va.Va) (w : World) (h : Ak F p L q M C w)
    (hZ : TyIn (cut F w) Z) (ht : Th 21 Z.sp) (hzm : Z.of.length = 1) (hv : Va.VaIn (cut F w) v) (hok : ∀ u, u ∈ v.is → okv u) :
    Calls Tryz.prog 46 #[.agg #[.pointer p, .map (some C), .slice Z.o 1 Z.c], .agg #[.int .i64 v.k, .int .i64 v.n, .string v.s, .slice v.tb v.ts.length v.tc, .slice v.io v.is.length v.ic]] w (fun e w' => AnP (v.k = 7 ∧ TuP L n Z v) F p L q M C w e w') := by
  have hB1 := ((Below.refl w.heap.size w).alloc (Nat.le_refl _) (.cells #[.pointer p, .map (some C), .slice Z.o 1 Z.c] 111)).alloc (by simp) (.cells #[.int .i64 v.k, .int .i64 v.n, .string v.s, .slice v.tb v.ts.length v.tc, .slice v.io v.is.length v.ic] 26)
  have hC := (Cs.new w [.pointer p, .map (some C), .slice Z.o 1 Z.c] 111).alloc (.cells #[.int .i64 v.k, .int .i64 v.n, .string v.s, .slice v.tb v.ts.length v.tc, .slice v.io v.is.length v.ic] 26)
  have hD := Cs.new (w.alloc (.cells #[.pointer p, .map (some C), .slice Z.o 1 Z.c] 111)) [.int .i64 v.k, .int .i64 v.n, .string v.s, .slice v.tb v.ts.length v.tc, .slice v.io v.is.length v.ic] 26
  rw [show (w.alloc (.cells #[.pointer p, .map (some C), .slice Z.o 1 Z.c] 111)).heap.size = w.heap.size + 1 by simp] at hD
  have c0 := hC.cell (i := 0) rfl
  have c1 := hC.cell (i := 1) rfl
  have c2 := hC.cell (i := 2) rfl
  have d0 := hD.cell (i := 0) rfl
  have d4 := hD.cell (i := 4) rfl
  have HA1 := Lib.hid (h.below hB1)
  have HB1 := Lib.hid hB1
  have HV1 := Lib.hid (Va.va_below hv (cut_below (F := F) hB1) (by rw [cut_size]; exact Nat.le_refl _))
  have HZ1 := Lib.hid (ty_below hZ (cut_below (F := F) hB1) (by rw [cut_size]; exact Nat.le_refl _))
  have HT := Lib.hid ht
  have HZM := Lib.hid hzm
  have HOK := Lib.hid hok
  have HII := Lib.hid HI
  clear h hB1 hC hD hv hok HI hZ ht hzm
  by_cases hk : v.k = 7
  · have hk2 : (v.k != 7) = false := by rw [hk]; rfl
    have HK := Lib.hid hk
    clear hk
    go_enter Tryz.func46, Tryz.ntmps46
    go_wp2_with (go_at_call 79; go_loud (refine (titems_any n okv F p L q M C HII.out Z 1 v _ HA1.out HZ1.out HT.out HZM.out (by omega) (by omega) HV1.out (va_il HV1.out) HOK.out).mono ?_; rintro e w2 ⟨er, rfl, her, ha2, hb2⟩; have HER := Lib.hid her; have HA2 := Lib.hid ha2; have HB2 := Lib.hid ((Be.of (F := Tn p q C) HB1.out).trans hb2); clear her ha2 hb2))
    go_ret
    exact ⟨er, rfl, ⟨fun h => ⟨HK.out, HER.out.1 h⟩, fun h => HER.out.2 h.2⟩, HA2.out, HB2.out⟩
  · have hk2 : (v.k != 7) = true := by simpa using hk
    go_enter Tryz.func46, Tryz.ntmps46
    go_wp2
    go_ret
    exact ⟨4, rfl, ⟨fun h => by omega, fun h => absurd h.1 hk⟩, HA1.out, Be.of HB1.out⟩
set_option maxRecDepth 100000 in
set_option maxHeartbeats 2000000 in
theorem ttable_any (n : Nat) (okv : Va.Va → Prop) (F : Nat → Bool) (p : Option Addr) (L : Sc) (q : Option Addr) (M : Sc) (C : Nat) (HI : AskN n okv F p L q M C) (Z : Ty) (v : Va.Va) (w : World) (h : Ak F p L q M C w)
    (hZ : TyIn (cut F w) Z) (ht : Th 21 Z.sp) (hzm : Z.of.length = 2) (hv : Va.VaIn (cut F w) v) (hok : ∀ u, u ∈ v.is → okv u) :
    Calls Tryz.prog 47 #[.agg #[.pointer p, .map (some C), .slice Z.o 2 Z.c], .agg #[.int .i64 v.k, .int .i64 v.n, .string v.s, .slice v.tb v.ts.length v.tc, .slice v.io v.is.length v.ic]] w (fun e w' => AnP (v.k = 8 ∧ TuP L n Z v) F p L q M C w e w') := by
  have hB1 := ((Below.refl w.heap.size w).alloc (Nat.le_refl _) (.cells #[.pointer p, .map (some C), .slice Z.o 2 Z.c] 111)).alloc (by simp) (.cells #[.int .i64 v.k, .int .i64 v.n, .string v.s, .slice v.tb v.ts.length v.tc, .slice v.io v.is.length v.ic] 26)
  have hC := (Cs.new w [.pointer p, .map (some C), .slice Z.o 2 Z.c] 111).alloc (.cells #[.int .i64 v.k, .int .i64 v.n, .string v.s, .slice v.tb v.ts.length v.tc, .slice v.io v.is.length v.ic] 26)
  have hD := Cs.new (w.alloc (.cells #[.pointer p, .map (some C), .slice Z.o 2 Z.c] 111)) [.int .i64 v.k, .int .i64 v.n, .string v.s, .slice v.tb v.ts.length v.tc, .slice v.io v.is.length v.ic] 26
  rw [show (w.alloc (.cells #[.pointer p, .map (some C), .slice Z.o 2 Z.c] 111)).heap.size = w.heap.size + 1 by simp] at hD
  have c0 := hC.cell (i := 0) rfl
  have c1 := hC.cell (i := 1) rfl
  have c2 := hC.cell (i := 2) rfl
  have d0 := hD.cell (i := 0) rfl
  have d4 := hD.cell (i := 4) rfl
  have HA1 := Lib.hid (h.below hB1)
  have HB1 := Lib.hid hB1
  have HV1 := Lib.hid (Va.va_below hv (cut_below (F := F) hB1) (by rw [cut_size]; exact Nat.le_refl _))
  have HZ1 := Lib.hid (ty_below hZ (cut_below (F := F) hB1) (by rw [cut_size]; exact Nat.le_refl _))
  have HT := Lib.hid ht
  have HZM := Lib.hid hzm
  have HOK := Lib.hid hok
  have HII := Lib.hid HI
  clear h hB1 hC hD hv hok HI hZ ht hzm
  by_cases hk : v.k = 8
  · have hk2 : (v.k != 8) = false := by rw [hk]; rfl
    have HK := Lib.hid hk
    clear hk
    go_enter Tryz.func47, Tryz.ntmps47
    go_wp2_with (go_at_call 79; go_loud (refine (titems_any n okv F p L q M C HII.out Z 2 v _ HA1.out HZ1.out HT.out HZM.out (by omega) (by omega) HV1.out (va_il HV1.out) HOK.out).mono ?_; rintro e w2 ⟨er, rfl, her, ha2, hb2⟩; have HER := Lib.hid her; have HA2 := Lib.hid ha2; have HB2 := Lib.hid ((Be.of (F := Tn p q C) HB1.out).trans hb2); clear her ha2 hb2))
    go_ret
    exact ⟨er, rfl, ⟨fun h => ⟨HK.out, HER.out.1 h⟩, fun h => HER.out.2 h.2⟩, HA2.out, HB2.out⟩
  · have hk2 : (v.k != 8) = true := by simpa using hk
    go_enter Tryz.func47, Tryz.ntmps47
    go_wp2
    go_ret
    exact ⟨4, rfl, ⟨fun h => by omega, fun h => absurd h.1 hk⟩, HA1.out, Be.of HB1.out⟩
end Go.Proofs.YtdogddliifbjnaaGreat.Ck
