/- check's freed: what is waited for less, and those that wait for nothing any more. -/
import Derived.Test.YthcpepifikpmeaaCkFree
namespace Go.Proofs.Ythcpepifikpmeaa.Ck
open Go.RowKit Cm _root_.Go.Proofs.Ythcpepifikpmeaa.Nm
set_option linter.unusedVariables false
set_option linter.unusedSimpArgs false

/-- Who waits for whom: a row of slices of numbers, each in a block of its own. -/
structure Bh (bb n B0 : Nat) (bv : Nat → Value) (bx : Nat → List Nat) (w : World) : Prop where
  row : w.rowIs bb 41 n bv
  each : ∀ k, k < n → Ri B0 (bv k) (bx k) w
  apart : ∀ i k, i < n → k < n → i ≠ k → Ap (bv i) (bv k)
theorem Bh.only {bb n B0 lb : Nat} {bv : Nat → Value} {bx : Nat → List Nat} {w w' : World} (h : Bh bb n B0 bv bx w) (ho : Only lb w w') (h1 : lb < B0) (h2 : bb ≠ lb) : Bh bb n B0 bv bx w' :=
  ⟨ri_only h.row ho h2, fun k hk => (h.each k hk).only ho h1, h.apart⟩
theorem Bh.below {bb n B0 : Nat} {bv : Nat → Value} {bx : Nat → List Nat} {w w' : World} (h : Bh bb n B0 bv bx w) (hb : Below w.heap.size w w') : Bh bb n B0 bv bx w' :=
  ⟨ri_below h.row hb h.row.lt, fun k hk => (h.each k hk).below hb, h.apart⟩

/-- Behind the pass over ps. -/
structure Fs (lb n : Nat) (w : World) (L : Nat → Int) (bs : List Value) (ps l : List Nat) (v : Value) (wr : World) : Prop where
  fr : Fr L ps l
  len : l.length ≤ ps.length
  li : Li lb n (fun j => L j - (ps.count j : Int)) wr
  ri : Ri (w.heap.size + 1) v l wr
  only : Only lb w wr
  sz : w.heap.size + 1 ≤ wr.heap.size
  box : Cs w.heap.size bs wr
section
variable {lb n j : Nat} {w wr w' : World} {L : Nat → Int} {bs : List Value} {ps l : List Nat} {v v' : Value}
theorem Fs.li_step (h : Fs lb n w L bs ps l v wr) {x : Int} (hx : x = L j - (ps.count j : Int)) : Li lb n (fun k => L k - ((ps ++ [j]).count k : Int)) (wr.setCell ⟨lb, j, none⟩ (.int .i64 (x - 1))) := by
  refine (h.li.set j _).congr fun i hi => ?_
  by_cases e : i = j
  · subst e
    rw [if_pos rfl]
    show Value.int .i64 (x - 1) = Value.int .i64 (L i - ((ps ++ [i]).count i : Int))
    rw [cnt_same, hx]
    congr 1; omega
  · rw [if_neg e]
    show Value.int .i64 (L i - (ps.count i : Int)) = Value.int .i64 (L i - ((ps ++ [j]).count i : Int))
    rw [cnt_other ps e]
theorem Fs.miss (h : Fs lb n w L bs ps l v wr) (hl : lb < w.heap.size) {x : Int} (hx : x = L j - (ps.count j : Int)) (hz : x - 1 ≠ 0) : Fs lb n w L bs (ps ++ [j]) l v (wr.setCell ⟨lb, j, none⟩ (.int .i64 (x - 1))) :=
  ⟨h.fr.miss (by omega), by have := h.len; simp; omega, h.li_step hx, h.ri.setCell (by omega), h.only.setCell _, by have := h.sz; simpa [World.setCell] using this, h.box.other _ (by omega)⟩
theorem Fs.hit (h : Fs lb n w L bs ps l v wr) (hl : lb < w.heap.size) {x : Int} (hx : x = L j - (ps.count j : Int)) (hz : x - 1 = 0) {o : Obj}
    (hr : Ri (w.heap.size + 1) v' (l ++ [j]) w') (hg : ((wr.setCell ⟨lb, j, none⟩ (.int .i64 (x - 1))).alloc o).grownBy w' v.ownBlock) : Fs lb n w L bs (ps ++ [j]) (l ++ [j]) v' w' := by
  have hri : Ri (w.heap.size + 1) v l ((wr.setCell ⟨lb, j, none⟩ (.int .i64 (x - 1))).alloc o) := (h.ri.setCell (by omega)).alloc o
  have hrow : ∀ k, v.ownBlock = some k → w.heap.size + 1 ≤ k := fun k hk => (h.ri.block k hk).1
  have hli := (h.li_step hx).alloc o
  refine ⟨h.fr.hit (by omega), by have := h.len; simp; omega, ri_grown hli hg (fun e => ?_), hr, ((h.only.setCell _).alloc o).grown hg (fun k hk => by have := hrow k hk; omega), ?_, ((h.box.other _ (by omega)).alloc o).besideRow hri (by omega) hg⟩
  · have := hrow lb e.symm; omega
  · have h1 := hg.size
    have h2 := h.sz
    simp [World.setCell] at h1; omega
end

set_option maxRecDepth 100000 in
set_option maxHeartbeats 4000000 in
theorem freed_any (lb bb n B0 B1 : Nat) (L : Nat → Int) (bv : Nat → Value) (bx : Nat → List Nat) (f : List Nat) (v : Value) (w : World) (hn : n ≤ 1000000) (h : Li lb n L w) (hbh : Bh bb n B0 bv bx w) (hv : Ri B1 v f w)
    (h0 : lb < B0) (h1 : lb < B1) (hne : bb ≠ lb) (hf : ∀ q, q ∈ f → q < n) (hbx : ∀ q j, q < n → j ∈ bx q → j < n) (hL : ∀ j, j < n → -1000000 ≤ L j ∧ L j ≤ 1000000) (hm : (f.flatMap bx).length ≤ 1000000) :
    Calls Try.prog 13 #[.agg #[.slice (some ⟨lb, 0, none⟩) n n, .slice (some ⟨bb, 0, none⟩) n n], v] w fun e w' =>
      ∃ v' l, e = .returned v' ∧ Fr L (f.flatMap bx) l ∧ Li lb n (fun j => L j - ((f.flatMap bx).count j : Int)) w' ∧ Ri w.heap.size v' l w' ∧ Only lb w w' := by
  have hlt := h.lt
  have HF0 : Hid (Fs lb n w L [.slice (some ⟨lb, 0, none⟩) n n, .slice (some ⟨bb, 0, none⟩) n n] [] [] (.slice none 0 0) (w.alloc (.cells #[.slice (some ⟨lb, 0, none⟩) n n, .slice (some ⟨bb, 0, none⟩) n n] 44))) :=
    Lib.hid ⟨Fr.nil L, by simp, (h.alloc _).congr (fun i _ => by simp), Ri.nil _ _, (Only.refl lb w).alloc _, by simp, Cs.new w [.slice (some ⟨lb, 0, none⟩) n n, .slice (some ⟨bb, 0, none⟩) n n] 44⟩
  obtain ⟨fo, fc, rfl, hfmax, hfc⟩ := hv.form
  have hfl : f.length ≤ 9223372036854775807 := by unfold maxLen at hfmax; omega
  have HV := Lib.hid hv
  have HBH := Lib.hid hbh
  have HH := Lib.hid (And.intro hf (And.intro hbx (And.intro hL hm)))
  clear h hbh hv hf hbx hL hm hfc
  go_enter Try.func13, Try.ntmps13
  go_wp2
  go_loopw [5, 12] (fun u i wr => ∃ q l v, q ≤ f.length ∧ v = u ∧ i = .int .i64 (q : Nat) ∧ Hid (Fs lb n w L [.slice (some ⟨lb, 0, none⟩) n n, .slice (some ⟨bb, 0, none⟩) n n] ((f.take q).flatMap bx) l v wr)) (fun _ i _ => f.length - (intOf i).toNat)
  case atStart => exact ⟨0, [], _, by omega, rfl, rfl, HF0⟩
  case round =>
    obtain ⟨q, l, v, hq, rfl, rfl, HF⟩ := hrel
    clear HF0
    by_cases hql : q < f.length
    · have hqi : (q : Int) < (f.length : Int) := by omega
      obtain ⟨p, hp⟩ : ∃ p, f[q]? = some p := ⟨_, List.getElem?_eq_getElem hql⟩
      have hpn : p < n := HH.out.1 p (List.mem_of_getElem? hp)
      have hpi : (p : Int) < (n : Int) := by omega
      have hV := HV.out.only HF.out.only h1
      obtain ⟨fo', fc', he, _, hcs⟩ := hV.form
      obtain ⟨rfl, _, rfl⟩ : fo' = fo ∧ True ∧ fc' = fc := by simpa [eq_comm] using he
      obtain ⟨fa, rfl, hfa⟩ := hcs q _ (inC_at hp)
      clear hcs he hV
      have hbh2 := HBH.out.only HF.out.only h0 hne
      have hb0 := hbh2.row.cell hpn
      have hRb := hbh2.each p hpn
      obtain ⟨bo, bc, hbv, hbmax, hbc⟩ := hRb.form
      rw [hbv] at hb0
      have hbl : (bx p).length ≤ 9223372036854775807 := by unfold maxLen at hbmax; omega
      have d0 := HF.out.box.cell (i := 0) rfl
      have d1 := HF.out.box.cell (i := 1) rfl
      have HBC := Lib.hid hbc
      have HP := Lib.hid hp
      have HB2 := Lib.hid (And.intro hbv hRb)
      have hflat : ((f.take (q + 1)).flatMap bx) = (f.take q).flatMap bx ++ bx p := by
        rw [List.take_add_one, hp, List.flatMap_append]; simp
      have HFL := Lib.hid hflat
      have hnb : n ≤ 9223372036854775807 := by omega
      clear hbc hp hbv hRb hbh2 hflat hbmax
      go_wp2
      clear d0 d1 hb0 hfa
      go_loopw [5, 22] (fun u i wq => ∃ k l v, k ≤ (bx p).length ∧ v = u ∧ i = .int .i64 (k : Nat) ∧ Hid (Fs lb n w L [.slice (some ⟨lb, 0, none⟩) n n, .slice (some ⟨bb, 0, none⟩) n n] ((f.take q).flatMap bx ++ (bx p).take k) l v wq)) (fun _ i _ => (bx p).length - (intOf i).toNat)
      case atStart => exact ⟨0, l, _, by omega, rfl, rfl, by simpa using HF⟩
      case round =>
        obtain ⟨k, l, v, hk, rfl, rfl, HG⟩ := hrel
        clear HF
        by_cases hkl : k < (bx p).length
        · have hki : (k : Int) < ((bx p).length : Int) := by omega
          obtain ⟨j, hj⟩ : ∃ j, (bx p)[k]? = some j := ⟨_, List.getElem?_eq_getElem hkl⟩
          have hjn : j < n := HH.out.2.1 p j hpn (List.mem_of_getElem? hj)
          have hji : (j : Int) < (n : Int) := by omega
          have hRb := (HBH.out.each p hpn).only HG.out.only h0
          obtain ⟨bo', bc', hbv', _, hbc'⟩ := hRb.form
          have hbe := HB2.out.1.symm.trans hbv'
          obtain ⟨rfl, _, rfl⟩ : bo' = bo ∧ True ∧ bc' = bc := by simpa [eq_comm] using hbe
          obtain ⟨ba, rfl, hba⟩ := hbc' k _ (inC_at hj)
          clear hbc' hbe hbv' hRb
          have d0 := HG.out.box.cell (i := 0) rfl
          have d1 := HG.out.box.cell (i := 1) rfl
          have htk : (f.take q).flatMap bx ++ (bx p).take (k + 1) = ((f.take q).flatMap bx ++ (bx p).take k) ++ [j] := by
            rw [List.take_add_one, hj, List.append_assoc]; rfl
          have hpl : ((f.take q).flatMap bx ++ (bx p).take k).length ≤ 1000000 := by
            have e1 : ((f.take q).flatMap bx ++ bx p).length ≤ (f.flatMap bx).length := by
              rw [← HFL.out]
              have e3 : f.flatMap bx = (f.take (q + 1)).flatMap bx ++ (f.drop (q + 1)).flatMap bx := by rw [← List.flatMap_append, List.take_append_drop]
              rw [e3, List.length_append]; omega
            have e2 := HH.out.2.2.2
            simp only [List.length_append, List.length_take] at e1 ⊢
            omega
          have hcnt : ((f.take q).flatMap bx ++ (bx p).take k).count j ≤ 1000000 := Nat.le_trans List.count_le_length hpl
          obtain ⟨ps, hps⟩ : ∃ ps, ps = (f.take q).flatMap bx ++ (bx p).take k := ⟨_, rfl⟩
          rw [← hps] at HG htk hpl hcnt
          obtain ⟨x, hx⟩ : ∃ x, x = L j - (ps.count j : Int) := ⟨_, rfl⟩
          have hc : _ = some (Value.int .i64 (L j - (ps.count j : Int))) := HG.out.li.cell hjn
          rw [← hx] at hc
          have hfz := HG.out.li.frozen j
          have hx1 : -2000000 ≤ x := by have := (HH.out.2.2.1 j hjn).1; omega
          have hx2 : x ≤ 1000000 := by have := (HH.out.2.2.1 j hjn).2; omega
          have hwr : IntKind.i64.wrap (x - 1) = x - 1 := IntWalk.i64_in _ (by omega)
          have HTK := Lib.hid (And.intro htk (And.intro hx hps))
          have hll : l.length ≤ 1000000 := Nat.le_trans HG.out.len hpl
          clear htk hx hps
          by_cases hz : x = 1
          · subst hz
            have hbig : l.length + 1 ≤ maxLen := by unfold maxLen; omega
            have hbytes : (l.length + 1) * 8 ≤ 140737488355328 := by omega
            go_wp2_with (first
              | (at_builtin; refine Rw.list rfl (.tmp 39) (.tmp 41) 41 rfl 3 1 (w.heap.size + 1) _ 8 Try.underlying41 infoInt (by decide) v (.slice (some ⟨_, 0, none⟩) 1 1) l.length 1 (inC l) (inC [j]) rfl rfl ((HG.out.ri.setCell (by omega)).alloc _) (Rw.lit_at _ _ 1 _ (inC [j]) rfl (by first | rfl | simp [World.setCell])) (inC_cells _) hbig hbytes (by have := HG.out.sz; simp [World.setCell]; omega) ?_; intro v5 w5 hR5 hg5 hG5))
            go_roundw
            case rel => exact ⟨k + 1, l ++ [j], v5, by omega, rfl, by go_num, Lib.hid (by rw [HTK.out.1]; exact HG.out.hit hlt HTK.out.2.1 rfl (by show Rw _ 1 _ _ _ _ _; rw [List.length_append, inC_app]; exact hR5) hg5)⟩
            case measure => simp [intOf]; omega
          · have hzq : (x - 1 == 0) = false := beq_eq_false_iff_ne.2 (by omega)
            go_wp2
            go_roundw
            case rel => exact ⟨k + 1, l, v, by omega, rfl, by go_num, Lib.hid (by rw [HTK.out.1]; exact HG.out.miss hlt HTK.out.2.1 (by omega))⟩
            case measure => simp [intOf]; omega
        · have hki : ¬ (k : Int) < ((bx p).length : Int) := by omega
          obtain rfl : k = (bx p).length := by omega
          go_wp2
          go_roundw
          case rel => exact ⟨q + 1, l, v, by omega, rfl, by go_num, Lib.hid (by rw [HFL.out]; simpa using HG.out)⟩
          case measure => simp [intOf]; omega
    · have hqi : ¬ (q : Int) < (f.length : Int) := by omega
      obtain rfl : q = f.length := by omega
      have HF' := HF.out
      rw [List.take_length] at HF'
      have HF2 := Lib.hid HF'
      clear HF HF'
      go_wp2
      go_ret
      exact ⟨v, rfl, l, HF2.out.fr, HF2.out.li, HF2.out.ri.mono (Nat.le_succ _), HF2.out.only⟩
end Go.Proofs.Ythcpepifikpmeaa.Ck
