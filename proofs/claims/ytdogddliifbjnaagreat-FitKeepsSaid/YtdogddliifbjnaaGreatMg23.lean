/- check's Finite. -/
import Derived.Test.YtdogddliifbjnaaGreatMg19
import Derived.Test.YtdogddliifbjnaaGreatMg21
import Derived.Test.YtdogddliifbjnaaGreatMg22
namespace Go.Proofs.YtdogddliifbjnaaGreat.Ck
open Go.RowKit Cm _root_.Go.Proofs.YtdogddliifbjnaaGreat.Nm Go.Deep
set_option linter.unusedVariables false
set_option linter.unusedSimpArgs false

theorem nodup_lt : ∀ (n : Nat) (l : List Nat), l.Nodup → (∀ x, x ∈ l → x < n) → l.length ≤ n
  | 0, l, _, h => by
    cases l with
    | nil => simp
    | cons x l => exact absurd (h x (List.mem_cons_self)) (by omega)
  | n + 1, l, hn, h => by
    have e := List.length_eq_countP_add_countP (fun x => x == n) (l := l)
    have c1 : l.countP (fun x => x == n) ≤ 1 := List.nodup_iff_count.1 hn n
    have i := nodup_lt n (l.filter (fun x => decide ¬((x == n) = true))) (List.Pairwise.filter _ hn) (fun x hx => by
      rw [List.mem_filter] at hx
      have h1 := h x hx.1
      have h2 := hx.2
      simp at h2
      omega)
    rw [List.countP_eq_length_filter (p := fun a => decide ¬((a == n) = true))] at e
    omega
theorem flat_le {bx : Nat → List Nat} {m : Nat} : ∀ (l : List Nat), (∀ q, q ∈ l → (bx q).length ≤ m) → (l.flatMap bx).length ≤ m * l.length
  | [], _ => by simp
  | q :: l, h => by
    have i := flat_le l (fun x hx => h x (List.mem_cons_of_mem _ hx))
    have h1 := h q (List.mem_cons_self)
    rw [List.flatMap_cons, List.length_append, List.length_cons, Nat.mul_succ]; omega
theorem adL_app : ∀ (a b : List Nat) (P : Nat → Bool), adL P (a ++ b) = adL (adL P a) b
  | [], b, P => rfl
  | q :: a, b, P => adL_app a b (adP P q)

theorem lf_none (s : Sy) (j : Nat) : lfS s (fun _ => false) j = ndS s j := by
  have hz : rcS s (fun _ => false) j = 0 := by
    unfold rcS
    split
    · generalize s.l j = m
      induction m with
      | zero => rfl
      | succ m ih =>
        have : hiB s (fun _ => false) j m = false := by
          unfold hiB
          split <;> rfl
        rw [cnB_miss this]; exact ih
    · rfl
  unfold lfS
  rw [hz]; omega
/-- The loop's measure: how many are waited for, and is anything found? -/
def pzW (lb : Nat) (w : World) (j : Nat) : Bool := match w.cell? ⟨lb, j, none⟩ with | some (.int _ z) => decide (0 < z) | _ => false
def nzV : Value → Nat | .slice _ 0 _ => 0 | _ => 1
theorem pz_eq {lb n : Nat} {L : Nat → Int} {w : World} (h : Li lb n L w) : cnB (pzW lb w) n = cnB (pzB L) n :=
  cnB_congr fun k hk => by unfold pzW pzB; rw [h.cell hk]

/-- What is kept from round to round. -/
structure Fm (s : Sy) (n lb bb wb g B0 B1 : Nat) (w : World) (bv : Nat → Value) (bx : Nat → List Nat) (P : Nat → Bool) (l : List Nat) (v : Value) (wr : World) : Prop where
  fd : Fd s P l
  li : Li lb n (lfS s P) wr
  bh : Bh bb n B0 bv bx wr
  ri : Ri B1 v l wr
  fin : Bl g n P wr
  box : Cs wb [.slice (some ⟨lb, 0, none⟩) n n, .slice (some ⟨bb, 0, none⟩) n n] wr
  below : Below w.heap.size w wr
  sz : B1 ≤ wr.heap.size
/-- What does not change at all. -/
structure Fk (s : Sy) (n lb bb wb g B0 B1 : Nat) (w : World) (bx : Nat → List Nat) : Prop where
  eq : s.n = n
  n21 : n ≤ 21
  l0 : lb < B0
  g0 : g < B0
  lB : lb < B1
  gB : g < B1
  ne : bb ≠ lb
  gl : g ≠ lb
  gb : g ≠ bb
  wl : wb ≠ lb
  wg : wb ≠ g
  w1 : w.heap.size ≤ lb
  w2 : w.heap.size ≤ g
  cnt : ∀ q j, q < n → (bx q).count j = toS s q j
  len : ∀ q, q < n → (bx q).length ≤ 1000
  nd : ∀ j, j < n → s.l j ≤ 30
section
variable {s : Sy} {n lb bb wb g B0 B1 : Nat} {w wr : World} {bv : Nat → Value} {bx : Nat → List Nat} {P : Nat → Bool} {l : List Nat} {v : Value}
theorem Fk.bx_lt (h : Fk s n lb bb wb g B0 B1 w bx) {q j : Nat} (hq : q < n) (hj : j ∈ bx q) : j < n := by
  have h1 : 0 < (bx q).count j := List.count_pos_iff.2 hj
  rw [h.cnt q j hq] at h1
  unfold toS at h1
  by_cases e : j < s.n ∧ (s.K j = 1 ∨ s.K j = 2)
  · rw [← h.eq]; exact e.1
  · rw [if_neg e] at h1; omega
theorem Fk.bounds (h : Fk s n lb bb wb g B0 B1 w bx) (P : Nat → Bool) {j : Nat} (hj : j < n) : -1000000 ≤ lfS s P j ∧ lfS s P j ≤ 1000000 := by
  have h1 := cnB_le (naB s j) (s.l j)
  have h2 := cnB_le (hiB s P j) (s.l j)
  have h3 := h.nd j hj
  unfold lfS ndS rcS
  constructor
  · split <;> split <;> (try split) <;> (try split) <;> omega
  · split <;> split <;> (try split) <;> (try split) <;> omega
theorem Fm.flat (h : Fm s n lb bb wb g B0 B1 w bv bx P l v wr) (hk : Fk s n lb bb wb g B0 B1 w bx) : (l.flatMap bx).length ≤ 1000000 := by
  have h1 := nodup_lt s.n l h.fd.nodup (fun x hx => (h.fd.new x hx).1)
  have h2 := flat_le (m := 1000) l (fun q hq => hk.len q (by rw [← hk.eq]; exact (h.fd.new q hq).1))
  have := hk.n21
  have := hk.eq
  have : 1000 * l.length ≤ 1000 * 21 := Nat.mul_le_mul_left _ (by omega)
  omega
/-- Behind a round. -/
theorem Fm.next {w0 wq w' : World} {v' : Value} {l' : List Nat} (h : Fm s n lb bb wb g B0 B1 w bv bx P l v w0) (hk : Fk s n lb bb wb g B0 B1 w bx) (hf : Bl g n (adL P l) wq) (ho : Only g w0 wq)
    (hr : Fr (lfS s P) (l.flatMap bx) l') (hL : Li lb n (fun j => lfS s P j - ((l.flatMap bx).count j : Int)) w') (hv : Ri wq.heap.size v' l' w') (ho2 : Only lb wq w') : Fm s n lb bb wb g B0 B1 w bv bx (adL P l) l' v' w' := by
  obtain ⟨h1, h2⟩ := h.fd.round (bx := bx) (fun q j hq => hk.cnt q j (by rw [← hk.eq]; exact hq)) (fun q j hq hj => by rw [hk.eq]; exact hk.bx_lt (by rw [← hk.eq]; exact hq) hj) hr
  have hs := Nat.le_trans h.sz ho.size
  refine ⟨h1, hL.congr fun i _ => congrArg (Value.int .i64) (h2 i), (h.bh.only ho hk.g0 (Ne.symm hk.gb)).only ho2 hk.l0 hk.ne, hv.mono hs, ri_only (f := fun i => .bool (adL P l i)) hf ho2 hk.gl, (h.box.only ho hk.wg).only ho2 hk.wl, ?_, Nat.le_trans hs ho2.size⟩
  exact (h.below.trans (ho.below hk.w2 h.below.size)).trans (ho2.below hk.w1 (Nat.le_trans h.below.size ho.size))
theorem Fm.less {w0 w' : World} {v' : Value} {l' : List Nat} (h : Fm s n lb bb wb g B0 B1 w bv bx P l v w0) (hk : Fk s n lb bb wb g B0 B1 w bx) (hl : l ≠ [])
    (hr : Fr (lfS s P) (l.flatMap bx) l') (hL : Li lb n (fun j => lfS s P j - ((l.flatMap bx).count j : Int)) w') {B : Nat} (hv : Ri B v' l' w') : cnB (pzW lb w') n + nzV v' < cnB (pzW lb w0) n + nzV v := by
  rw [pz_eq h.li, pz_eq hL]
  have hn : nzV v = 1 := by
    obtain ⟨o, c, e, _, _⟩ := h.ri.form
    rw [e]
    cases hl2 : l.length with
    | zero => exact absurd (List.eq_nil_of_length_eq_zero hl2) hl
    | succ k => rfl
  have hn' : nzV v' ≤ 1 := by
    unfold nzV
    split <;> omega
  by_cases hl' : l' = []
  · have : nzV v' = 0 := by
      obtain ⟨o, c, e, _, _⟩ := hv.form
      rw [e, hl']; rfl
    have := Fr.le (L := lfS s P) (ps := l.flatMap bx) (n := n)
    omega
  · obtain ⟨h1, _⟩ := h.fd.round (bx := bx) (fun q j hq => hk.cnt q j (by rw [← hk.eq]; exact hq)) (fun q j hq hj => by rw [hk.eq]; exact hk.bx_lt (by rw [← hk.eq]; exact hq) hj) hr
    have := hr.fewer (n := n) (fun j hj => by rw [← hk.eq]; exact (h1.new j hj).1) hl'
    omega
end
end Go.Proofs.YtdogddliifbjnaaGreat.Ck
/- check's Finite: the walk. -/
namespace Go.Proofs.YtdogddliifbjnaaGreat.Ck
open Go.RowKit Cm _root_.Go.Proofs.YtdogddliifbjnaaGreat.Nm Go.Deep
set_option linter.unusedVariables false
set_option linter.unusedSimpArgs false

set_option maxRecDepth 100000 in
set_option maxHeartbeats 8000000 in
theorem finite_any (o : Option Addr) (len cap : Nat) (D : Dl) (F : Nat → Fy) (M : Nat → Ml) (w : World) (h : Ax o len D F M w) (hs : Sml D F len) :
    Calls Tryz.prog 51 #[.slice o len cap] w fun e w' => ∃ g, e = .returned (.slice (some ⟨g, 0, none⟩) len len) ∧ w.heap.size ≤ g ∧ Bl g len (rdB (syD D F len) len) w' ∧ Below w.heap.size w w' := by
  have hlen := h.1.2
  have hmk := make_bools len hlen
  have HB0 := Lib.hid ((Below.refl w.heap.size w).alloc (Nat.le_refl _) (.cells (madeCells #[.bool false] len) 4))
  have HR0 := Lib.hid (World.rowIs_made w (.bool false) len 4)
  have HZ0 : Hid ((w.alloc (.cells (madeCells #[.bool false] len) 4)).heap.size = w.heap.size + 1) := Lib.hid (by simp)
  have H := Lib.hid (h.below HB0.out (Nat.le_refl _))
  have HSM := Lib.hid hs
  have HFL : Hid (∀ j, j < len → (syD D F len).l j ≤ 30) := Lib.hid (fun j hj => hs.fl j hj)
  have hle := hs.le
  have hsn : (syD D F len).n = len := rfl
  have HSN := Lib.hid hsn
  generalize hse : syD D F len = s at *
  clear h hs hsn
  go_enter Tryz.func51, Tryz.ntmps51
  go_wp2
  go_step3
  go_wp2_with (first
    | (go_at_call 83; refine (free_any lb len len len (some ⟨bb, 0, none⟩) (ndS s) _ hlen (HWT.out.li.alloc _)).mono ?_; rintro e w4 ⟨v, rfl, hri, hb4⟩)
    | (go_at_call 82; refine (waits_any o len cap D F M _ H.out HSM.out).mono ?_; rw [hse]; rintro e w2 ⟨lb, bb, B0, bv, bx, rfl, hwt⟩; have HWT := Lib.hid hwt))
  have hz := HZ0.out
  have hb1 := HWT.out.below.size
  have hbB := HWT.out.sz
  have hl1 := HWT.out.l1
  have hbb1 := HWT.out.b1
  have hl0 := HWT.out.l0
  have hbb0 := HWT.out.b0
  have hz3 : (w2.alloc (.cells #[.slice (some ⟨lb, 0, none⟩) len len, .slice (some ⟨bb, 0, none⟩) len len] 151)).heap.size = w2.heap.size + 1 := by simp
  have HK : Hid (Fk s len lb bb w2.heap.size w.heap.size B0 (w2.heap.size + 1) w bx) := Lib.hid ⟨HSN.out, hle, hl0, by omega, by omega, by omega, HWT.out.ne, by omega, by omega, by omega, by omega, by omega, Nat.le_refl _, HWT.out.cnt, HWT.out.len, HFL.out⟩
  have hb3 := ((HWT.out.below).alloc hb1 (.cells #[.slice (some ⟨lb, 0, none⟩) len len, .slice (some ⟨bb, 0, none⟩) len len] 151)).trans (hb4.mono (by rw [hz3]; omega))
  have HM0 : Hid (Fm s len lb bb w2.heap.size w.heap.size B0 (w2.heap.size + 1) w bv bx (fun _ => false) (fzL (ndS s) len) v w4) := Lib.hid ⟨Fd.start (fz_nodup _ _) (fun j => by rw [fz_mem, HSN.out]), (ri_below (f := fun j => .int .i64 (ndS s j)) (HWT.out.li.alloc _) hb4 (HWT.out.li.alloc _).lt).congr (fun i _ => by rw [lf_none]),
    ((HWT.out.bh.below ((Below.refl w2.heap.size w2).alloc (Nat.le_refl _) _))).below hb4, by rw [← hz3]; exact hri, ri_below (f := fun _ => .bool false) HR0.out hb3 (by omega), (Cs.new w2 [.slice (some ⟨lb, 0, none⟩) len len, .slice (some ⟨bb, 0, none⟩) len len] 151).below hb4 (by rw [hz3]; omega), HB0.out.trans (hb3.mono HB0.out.size), by have := hb4.size; omega⟩
  clear hri hb4 hb3 HWT hz3 hz hb1 hbB hl1 hbb1 hl0 hbb0
  go_step3
  go_wp2
  go_loopw [5] (fun u wr => ∃ P l v, v = u ∧ Hid (Fm s len lb bb w2.heap.size w.heap.size B0 (w2.heap.size + 1) w bv bx P l v wr)) (fun u wr => cnB (pzW lb wr) len + nzV u)
  case atStart => exact ⟨_, _, _, rfl, HM0⟩
  case round =>
    obtain ⟨P, l, v, rfl, HM⟩ := hrel
    clear HM0
    obtain ⟨lo, lc, hv, _, hcs⟩ := HM.out.ri.form
    subst hv
    have d0 := HM.out.box.cell (i := 0) rfl
    have d1 := HM.out.box.cell (i := 1) rfl
    by_cases hl : l = []
    · subst hl
      have hfin := HM.out.fd.done
      rw [HSN.out] at hfin
      have HF := Lib.hid (World.rowIs.congr HM.out.fin (g := fun i => .bool (rdB s len i)) (fun i hi => by rw [hfin i hi]))
      clear hfin hcs
      go_wp2
      rw [Exit.noGoto_ret]
      go_ret
      exact ⟨w.heap.size, rfl, Nat.le_refl _, HF.out, HM.out.below⟩
    · have hlz : l.length ≠ 0 := fun e => hl (List.eq_nil_of_length_eq_zero e)
      have hq0 : ((l.length : Int) == 0) = false := beq_eq_false_iff_ne.2 (by omega)
      have hll := nodup_lt s.n l HM.out.fd.nodup (fun x hx => (HM.out.fd.new x hx).1)
      have hll2 : l.length ≤ 9223372036854775807 := by have := HK.out.n21; have := HK.out.eq; omega
      have HL := Lib.hid hl
      have HI0 : Hid (Bl w.heap.size len (adL P (l.take 0)) wr) := Lib.hid HM.out.fin
      clear hl hcs hll
      go_wp2
      clear d0 d1 hq0
      go_loopw [20] (fun i wq => ∃ q, q ≤ l.length ∧ i = .int .i64 (q : Nat) ∧ Hid (Bl w.heap.size len (adL P (l.take q)) wq) ∧ Hid (Only w.heap.size wr wq)) (fun i _ => l.length - (intOf i).toNat)
      case atStart => exact ⟨0, by omega, rfl, HI0, Lib.hid (Only.refl _ _)⟩
      case round =>
        obtain ⟨q, hq, rfl, HI, HO⟩ := hrel
        clear HI0
        by_cases hql : q < l.length
        · have hqi : (q : Int) < (l.length : Int) := by omega
          obtain ⟨p, hp⟩ : ∃ p, l[q]? = some p := ⟨_, List.getElem?_eq_getElem hql⟩
          have hpn : p < len := by have := (HM.out.fd.new p (List.mem_of_getElem? hp)).1; have := HK.out.eq; omega
          have hpi : (p : Int) < (len : Int) := by omega
          obtain ⟨lo', lc', he, _, hcs⟩ := (HM.out.ri.only HO.out HK.out.gB).form
          obtain ⟨rfl, _, rfl⟩ : lo' = lo ∧ True ∧ lc' = lc := by simpa [eq_comm] using he
          obtain ⟨fa, rfl, hfa⟩ := hcs q _ (inC_at hp)
          clear hcs he
          have hc := HI.out.cell hpn
          have hfz := HI.out.frozen p
          have htk : adL P (l.take (q + 1)) = adP (adL P (l.take q)) p := by
            rw [List.take_add_one, hp, adL_app]; rfl
          have HTK := Lib.hid htk
          clear htk hp
          go_wp2
          go_roundw
          case rel => exact ⟨q + 1, by omega, by go_num, Lib.hid ((HI.out.set p _).congr (g := fun i => .bool (adL P (l.take (q + 1)) i)) (fun i hi => by
            rw [HTK.out]
            unfold adP
            by_cases e : i = p
            · subst e; simp
            · simp [e])), Lib.hid (HO.out.setCell _)⟩
          case measure => simp [intOf]; omega
        · have hqi : ¬ (q : Int) < (l.length : Int) := by omega
          obtain rfl : q = l.length := by omega
          have hf := HI.out
          rw [List.take_length] at hf
          have HF := Lib.hid hf
          have hbx := HM.out.box.only HO.out HK.out.wg
          have d0 := hbx.cell (i := 0) rfl
          have d1 := hbx.cell (i := 1) rfl
          have hflat := Lib.hid (HM.out.flat HK.out)
          clear hf hbx
          go_wp2_with (go_at_call 84; refine (freed_any lb bb len B0 (w2.heap.size + 1) (lfS s P) bv bx l (.slice lo l.length lc) _ (by omega) (ri_only (f := fun i => .int .i64 (lfS s P i)) HM.out.li HO.out (Ne.symm HK.out.gl)) (HM.out.bh.only HO.out HK.out.g0 (Ne.symm HK.out.gb)) (HM.out.ri.only HO.out HK.out.gB) HK.out.l0 HK.out.lB HK.out.ne (fun x hx => by have := (HM.out.fd.new x hx).1; have := HK.out.eq; omega) (fun q j hq hj => HK.out.bx_lt hq hj) (fun j hj => HK.out.bounds P hj) hflat.out).mono ?_; rintro e w5 ⟨v', l', rfl, hr, hL, hri, ho2⟩)
          go_roundw
          case rel => exact ⟨adL P l, l', v', rfl, Lib.hid (HM.out.next HK.out HF.out HO.out hr hL hri ho2)⟩
          case measure => exact HM.out.less HK.out HL.out hr hL hri
end Go.Proofs.YtdogddliifbjnaaGreat.Ck
/- check's Check. -/
namespace Go.Proofs.YtdogddliifbjnaaGreat.Ck
open Go.RowKit Cm _root_.Go.Proofs.YtdogddliifbjnaaGreat.Nm
set_option linter.unusedVariables false
set_option linter.unusedSimpArgs false

theorem ck_bad {D : Dl} {F : Nat → Fy} {M : Nat → Ml} {n j e : Nat} (hj : j < n) (h0 : fzE (dcE D F M n) j = 0) (h : dcE D F M n j = e + 1) : ckE D F M n = e + 1 := by
  unfold ckE
  rw [fz_at hj h0 h]
theorem ck_end {D : Dl} {F : Nat → Fy} {M : Nat → Ml} {n : Nat} (h0 : fzE (dcE D F M n) n = 0) : ckE D F M n = if (ixB (rdB (syD D F n) n) n).isSome = true then 10 else 0 := by
  unfold ckE
  rw [h0, ← ix_any]
  rfl

set_option maxRecDepth 100000 in
set_option maxHeartbeats 8000000 in
theorem check_any (o : Option Addr) (len cap : Nat) (D : Dl) (F : Nat → Fy) (M : Nat → Ml) (w : World) (h : Ax o len D F M w) (hs : Sml D F len) :
    Calls Tryz.prog 25 #[.slice o len cap] w fun e w' => ∃ p, e = .returned (.agg #[.int .i64 (ckE D F M len : Nat), .int .i64 p]) ∧ Below w.heap.size w w' := by
  have hlen := h.1.2
  have hlen2 : len ≤ 9223372036854775807 := by omega
  have hB0 := (Below.refl w.heap.size w).alloc (Nat.le_refl _) (.cells #[.int .i64 0, .int .i64 0] 54)
  have HB0 := Lib.hid hB0
  have HC0 := Lib.hid (Cs.new w [.int .i64 0, .int .i64 0] 54)
  have HZ0 : Hid ((w.alloc (.cells #[.int .i64 0, .int .i64 0] 54)).heap.size = w.heap.size + 1) := Lib.hid (by simp)
  have H := Lib.hid (h.below hB0 (Nat.le_refl _))
  have HSM := Lib.hid hs
  clear h hs hB0
  go_enter Tryz.func25, Tryz.ntmps25
  go_wp2_with (go_at_call 30; refine (of_any o len cap D _ H.out.1).mono ?_; rintro e w1 ⟨T, rfl, hT1, hT2, hb1⟩)
  have HT := Lib.hid hT2
  have HB1 := Lib.hid hb1
  have HC1 := Lib.hid (HC0.out.below hb1 HC0.out.lt)
  have hw1 : w.heap.size < w1.heap.size := by have := hb1.size; have := HZ0.out; omega
  clear hT2 hb1
  go_loopw [12] (fun i wr => ∃ j, j ≤ len ∧ i = .int .i64 (j : Nat) ∧ Hid (fzE (dcE D F M len) j = 0) ∧ Hid (Below w1.heap.size w1 wr)) (fun i _ => len - (intOf i).toNat)
  case atStart => exact ⟨0, by omega, rfl, Lib.hid rfl, Lib.hid (Below.refl _ _)⟩
  case round =>
    obtain ⟨j, hj, rfl, HZ, HB⟩ := hrel
    have hsz := HB.out.size
    have HBW : Hid (Below w.heap.size w wr) := Lib.hid ((HB0.out.trans (HB1.out.mono HB0.out.size)).trans (HB.out.mono (Nat.le_of_lt hw1)))
    by_cases hjl : j < len
    · have hji : (j : Int) < (len : Int) := by omega
      have hAx := H.out.below (HB1.out.trans (HB.out.mono HB1.out.size)) (Nat.le_refl _)
      obtain ⟨a, Ab, Ao, As, rfl, hA, hAb, c0, c1, c2, c3, c4⟩ := Dx.place hAx.1 hjl
      have hst := (Below.refl wr.heap.size wr).alloc (Nat.le_refl _) (.cells #[.int .i64 (D.K j), .string (D.S j), .slice (D.fo j) (D.fl j) (D.fc j), .slice (D.mo j) (D.ml j) (D.mc j), .int .i64 (D.A j)] 43)
      have HST := Lib.hid hst
      have HA2 := Lib.hid (hAx.below hst (Nat.le_refl _))
      have HT2 := Lib.hid ((HT.out.below HB.out).below hst)
      have HCd := Lib.hid (Cs.new wr [.int .i64 (D.K j), .string (D.S j), .slice (D.fo j) (D.fl j) (D.fc j), .slice (D.mo j) (D.ml j) (D.mc j), .int .i64 (D.A j)] 43)
      have hwd := wdecl_any T len j D F M (some a) _ HT2.out HA2.out hjl HSM.out
      clear hAx hst
      cases hr : dcE D F M len j with
      | succ e =>
        rw [hr] at hwd
        have HE := Lib.hid (ck_bad hjl HZ.out hr)
        have hq : ((((e + 1 : Nat) : Int)) != 0) = true := bne_iff_ne.2 (by omega)
        obtain ⟨x, hx⟩ : ∃ x : Int, x = ((e + 1 : Nat) : Int) := ⟨_, rfl⟩
        rw [← hx] at hwd hq
        have HX := Lib.hid hx
        have HWD := Lib.hid hwd
        clear hr hwd hx
        go_wp2_with (go_at_call 49; refine HWD.out.mono ?_; rintro e2 w2 ⟨rfl, hb2⟩; have y4 := (HCd.out.below hb2 HCd.out.lt).cell (i := 4) rfl; have hR := (HC1.out.below (HB.out.trans ((HST.out.trans (hb2.mono HST.out.size)).mono hsz)) hw1); have r0 := hR.cell (i := 0) rfl; have r1 := hR.cell (i := 1) rfl; have q0 := hR.frozen (i := 0) rfl; have q1 := hR.frozen (i := 1) rfl)
        have hR2 := (hR.put (i := 0) (.int .i64 x)).put (i := 1) (.int .i64 (D.A j))
        have hbel := ((HBW.out.trans ((HST.out.trans (hb2.mono HST.out.size)).mono HBW.out.size)).setCell (p := ⟨w.heap.size, 0, none⟩) (Nat.le_refl _) (.int .i64 x)).setCell (p := ⟨w.heap.size, 1, none⟩) (Nat.le_refl _) (.int .i64 (D.A j))
        generalize ((w2.setCell ⟨w.heap.size, 0, none⟩ (.int .i64 x)).setCell ⟨w.heap.size, 1, none⟩ (.int .i64 (D.A j))) = w5 at hR2 hbel ⊢
        have d0 := hR2.cell (i := 0) rfl
        have d1 := hR2.cell (i := 1) rfl
        refine bodyPost_ret (by simp [results, Tryz.results25, go_sem, d0, d1]; try rfl) rfl ?_
        exact ⟨D.A j, by rw [HE.out, ← HX.out], hbel⟩
      | zero =>
        rw [hr] at hwd
        have HWD := Lib.hid hwd
        have HR := Lib.hid hr
        clear hr hwd
        go_wp2_with (go_at_call 49; refine HWD.out.mono ?_; rintro e2 w2 ⟨rfl, hb2⟩)
        go_roundw
        case rel => exact ⟨j + 1, by omega, by go_num, Lib.hid (fz_on HZ.out HR.out), Lib.hid (HB.out.trans ((HST.out.trans (hb2.mono HST.out.size)).mono hsz))⟩
        case measure => simp [intOf]; omega
    · have hji : ¬ (j : Int) < (len : Int) := by omega
      obtain rfl : j = len := by omega
      have HAx := Lib.hid (H.out.below (HB1.out.trans (HB.out.mono HB1.out.size)) (Nat.le_refl _))
      have hce := ck_end HZ.out
      have hix := index_any
      cases hx : ixB (rdB (syD D F j) j) j with
      | some q =>
        have hz : ixZ (rdB (syD D F j) j) j = (q : Int) := by unfold ixZ; rw [hx]
        have HIZ := Lib.hid hz
        rw [hx] at hce
        have HE : Hid (ckE D F M j = 10) := Lib.hid hce
        have hql := ix_lt hx
        have hqj : (q : Int) < (j : Int) := by omega
        obtain ⟨a, Ab, Ao, As, rfl, hA, hAb, c0, c1, c2, c3, c4⟩ := Dx.place HAx.out.1 hql
        have HC4 := Lib.hid c4
        clear hce hix hx hz c0 c1 c2 c3 c4
        go_wp2_with (first
          | (go_at_call 50; refine (index_any g j j (rdB (syD D F j) j) _ hlen hg2).mono ?_; rw [HIZ.out]; rintro e3 w3 ⟨rfl, rfl⟩)
          | (go_at_call 51; refine (finite_any (some a) j cap D F M _ HAx.out HSM.out).mono ?_; rintro e2 w2 ⟨g, rfl, hg1, hg2, hb2⟩; have c4 := (hb2.cell (p := ⟨Ab, Ao + 4, none⟩) hAb).trans HC4.out; have hR := HC1.out.below (HB.out.trans (hb2.mono hsz)) hw1; have r0 := hR.cell (i := 0) rfl; have r1 := hR.cell (i := 1) rfl; have q0 := hR.frozen (i := 0) rfl; have q1 := hR.frozen (i := 1) rfl))
        have hR2 := (hR.put (i := 0) (.int .i64 10)).put (i := 1) (.int .i64 (D.A q))
        have hbel := ((HBW.out.trans (hb2.mono HBW.out.size)).setCell (p := ⟨w.heap.size, 0, none⟩) (Nat.le_refl _) (.int .i64 10)).setCell (p := ⟨w.heap.size, 1, none⟩) (Nat.le_refl _) (.int .i64 (D.A q))
        generalize ((w3.setCell ⟨w.heap.size, 0, none⟩ (.int .i64 10)).setCell ⟨w.heap.size, 1, none⟩ (.int .i64 (D.A q))) = w5 at hR2 hbel ⊢
        have d0 := hR2.cell (i := 0) rfl
        have d1 := hR2.cell (i := 1) rfl
        refine bodyPost_ret (by simp [results, Tryz.results25, go_sem, d0, d1]; try rfl) rfl ?_
        exact ⟨D.A q, by rw [HE.out]; rfl, hbel⟩
      | none =>
        have hz : ixZ (rdB (syD D F j) j) j = -1 := by unfold ixZ; rw [hx]
        have HIZ := Lib.hid hz
        rw [hx] at hce
        have HE : Hid (ckE D F M j = 0) := Lib.hid hce
        clear hce hix hx hz
        go_wp2_with (first
          | (go_at_call 50; refine (index_any g j j (rdB (syD D F j) j) _ hlen hg2).mono ?_; rw [HIZ.out]; rintro e3 w3 ⟨rfl, rfl⟩)
          | (go_at_call 51; refine (finite_any o j cap D F M _ HAx.out HSM.out).mono ?_; rintro e2 w2 ⟨g, rfl, hg1, hg2, hb2⟩; have hR := HC1.out.below (HB.out.trans (hb2.mono hsz)) hw1; have r0 := hR.cell (i := 0) rfl; have r1 := hR.cell (i := 1) rfl; have q0 := hR.frozen (i := 0) rfl; have q1 := hR.frozen (i := 1) rfl))
        have hR2 := (hR.put (i := 0) (.int .i64 0)).put (i := 1) (.int .i64 0)
        have hbel := ((HBW.out.trans (hb2.mono HBW.out.size)).setCell (p := ⟨w.heap.size, 0, none⟩) (Nat.le_refl _) (.int .i64 0)).setCell (p := ⟨w.heap.size, 1, none⟩) (Nat.le_refl _) (.int .i64 0)
        generalize ((w3.setCell ⟨w.heap.size, 0, none⟩ (.int .i64 0)).setCell ⟨w.heap.size, 1, none⟩ (.int .i64 0)) = w5 at hR2 hbel ⊢
        have d0 := hR2.cell (i := 0) rfl
        have d1 := hR2.cell (i := 1) rfl
        refine bodyPost_ret (by simp [results, Tryz.results25, go_sem, d0, d1]; try rfl) rfl ?_
        exact ⟨0, by rw [HE.out]; rfl, hbel⟩
end Go.Proofs.YtdogddliifbjnaaGreat.Ck
