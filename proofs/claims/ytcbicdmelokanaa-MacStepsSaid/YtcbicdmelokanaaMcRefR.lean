/- Tags that were issued: the contracts of the reference's Revoke and Issue. -/
import Derived.Test.YtcbicdmelokanaaMcRef
import Derived.StillTailTactics
namespace Go.Proofs.Ytcbicdmelokanaa.Mc
open Go.RowKit Cm Dc
set_option linter.unusedVariables false
set_option linter.unusedSimpArgs false

/-- Revoked so far. -/
def rvTo (L : List MRow) (o : Int) (j : Nat) : List MRow := (L.take j).map (rvR o) ++ L.drop j
theorem rvTo_zero (L : List MRow) (o : Int) : rvTo L o 0 = L := by simp [rvTo]
theorem rvTo_all (L : List MRow) (o : Int) {j : Nat} (h : L.length ≤ j) : rvTo L o j = rvL L o := by
  unfold rvTo rvL
  rw [List.take_of_length_le h, List.drop_of_length_le h, List.append_nil]
theorem rvTo_len (L : List MRow) (o : Int) (j : Nat) : (rvTo L o j).length = L.length := by
  unfold rvTo
  rw [List.length_append, List.length_map, List.length_take, List.length_drop]
  omega
theorem rvTo_at {L : List MRow} {o : Int} {j : Nat} {r : MRow} (h : L[j]? = some r) : (rvTo L o j)[j]? = some r := by
  have hl := (List.getElem?_eq_some_iff.1 h).1
  unfold rvTo
  rw [List.getElem?_append_right (by rw [List.length_map, List.length_take]; omega), List.length_map, List.length_take, Nat.min_eq_left (by omega), Nat.sub_self, List.getElem?_drop, Nat.add_zero]
  exact h
theorem rvTo_succ {L : List MRow} {o : Int} {j : Nat} {r : MRow} (h : L[j]? = some r) : rvTo L o (j + 1) = (rvTo L o j).set j (rvR o r) := by
  have hl := (List.getElem?_eq_some_iff.1 h).1
  have hd : L.drop j = r :: L.drop (j + 1) := by
    rw [List.drop_eq_getElem_cons hl]
    congr 1
    exact Option.some.inj ((List.getElem?_eq_getElem hl).symm.trans h)
  unfold rvTo
  rw [List.take_add_one, h, hd, List.set_append_right _ _ (by rw [List.length_map, List.length_take]; omega), List.length_map, List.length_take, Nat.min_eq_left (by omega), Nat.sub_self, List.set_cons_zero, List.map_append, List.append_assoc]
  rfl
theorem rvTo_stay {L : List MRow} {o : Int} {j : Nat} {r : MRow} (h : L[j]? = some r) (hr : (r.o : Int) ≠ o) : rvTo L o (j + 1) = rvTo L o j := by
  rw [rvTo_succ h]
  have : rvR o r = r := by unfold rvR; rw [if_neg hr]
  rw [this]
  exact List.ext_getElem? fun i => by
    by_cases e : i = j
    · subst e; rw [List.getElem?_set_self (by have := (List.getElem?_eq_some_iff.1 (rvTo_at (o := o) h)).1; exact this), rvTo_at h]
    · rw [List.getElem?_set_ne (fun e2 => e e2.symm)]
theorem Mr.put {B n g cap : Nat} {L : List MRow} {w : World} (h : Mr B (.slice (some ⟨g, 0, none⟩) n cap) L w) {o : Int} {j : Nat} {r : MRow} (hj : L[j]? = some r) (ho : (r.o : Int) = o) :
    Mr B (.slice (some ⟨g, 0, none⟩) n cap) (L.set j (rvR o r)) (w.setCell ⟨g, j * 4 + 3, none⟩ (.bool false)) := by
  obtain ⟨hn, _⟩ := h.place hj
  subst hn
  have h1 := Rw.put h (j * 4 + 3) (.bool false)
  rw [show (rC L).set (j * 4 + 3) (.bool false) = rC (L.set j (rvR o r)) from fl_set rw1_len hj (by omega) (by unfold rvR; rw [if_pos ho]; rfl)] at h1
  show Rw _ _ _ _ (L.set j (rvR o r)).length _ _
  rw [List.length_set]
  exact h1
/-- Where the revoking stands. -/
def Rv (L : List MRow) (o : Int) (v : Value) (w : World) (j : Nat) (b : Bool) (w' : World) : Prop := b = waB (L.take j) o ∧ Mr w.heap.size v (rvTo L o j) w' ∧ Below w.heap.size w w'

set_option maxRecDepth 100000 in
set_option maxHeartbeats 2000000 in
theorem rrevoke_any (B : Nat) (v : Value) (L : List MRow) (o : Int) (w : World) (h : Mr B v L w) (hl : L.length ≤ 1000000) :
    Calls Try.prog 14 #[v, .int .i64 o] w fun e w' => ∃ v', e = .returned (.tuple #[v', .bool (waB L o)]) ∧ Mr w.heap.size v' (rvL L o) w' ∧ Below w.heap.size w w' := by
  have H := Lib.hid h
  have H1 := Lib.hid (h.alloc (.cells #[] 40))
  clear h
  go_enter Try.func14, Try.ntmps14
  go_wp2_with (at_builtin; refine Rw.list rfl (.tmp 9) (.tmp 10) 28 rfl 40 4 w.heap.size B 32 Try.underlying28 infoRow (by decide) (.slice (some ⟨w.heap.size, 0, none⟩) 0 0) v 0 L.length [] (rC L) rfl rfl (Rw.lit0 _ _ 4 _ rfl) H1.out (rC_cells _) (by unfold maxLen; omega) (by omega) (by simp) ?_; intro v5 w5 hR5 hg5 hG5; simp only [Nat.zero_add, List.nil_append] at hR5; obtain ⟨a5, cap5, rfl, hn5, _⟩ := hR5.form; have HR5 := Lib.hid hR5; have HG5 := Lib.hid hg5; clear hR5 hg5 hG5)
  have hlen := Lib.hid (show (L.length : Int) ≤ 1000000 by omega)
  have HV0 : Hid (Rv L o (.slice a5 L.length cap5) w 0 false w5) := Lib.hid ⟨rfl, by rw [rvTo_zero]; exact HR5.out, ((Below.refl w.heap.size w).alloc (Nat.le_refl _) (.cells #[] 40)).grown HG5.out (by simp) (fun k hk => by simp [Value.ownBlock] at hk; omega)⟩
  clear HR5 HG5 H H1
  go_loopw [7, 8] (fun b i wr => ∃ j c, j ≤ L.length ∧ i = .int .i64 (j : Nat) ∧ b = .bool c ∧ Hid (Rv L o (.slice a5 L.length cap5) w j c wr)) (fun b i _ => L.length - (intOf i).toNat)
  case atStart => exact ⟨0, false, by omega, rfl, rfl, HV0⟩
  case round =>
    clear HV0
    obtain ⟨j, c, hj, rfl, rfl, HV⟩ := hrel
    by_cases hjl : j < L.length
    · have hji : (j : Int) < (L.length : Int) := by omega
      obtain ⟨r, hr⟩ : ∃ r, L[j]? = some r := ⟨_, List.getElem?_eq_getElem hjl⟩
      obtain ⟨_, g, rfl, hB, hg, c0, c1, c2, c3⟩ := Mr.place HV.out.2.1 (rvTo_at hr)
      have hfz := Rw.fz (show Rw 40 4 w.heap.size (.slice (some ⟨g, 0, none⟩) L.length cap5) L.length (rC (rvTo L o j)) wr by have h2 : Mr _ _ _ _ := HV.out.2.1; unfold Mr at h2; rw [rvTo_len] at h2; exact h2) (j * 4 + 3)
      have HR := Lib.hid hr
      have HW := Lib.hid (any_step (p := fun r => decide ((r.o : Int) = o) && r.k) hr)
      obtain ⟨p, hp⟩ : ∃ p : Int, (r.o : Int) = p := ⟨_, rfl⟩
      obtain ⟨k, hk⟩ : ∃ k, r.k = k := ⟨_, rfl⟩
      have HP := Lib.hid (And.intro hp hk)
      have HG := Lib.hid hB
      rw [hp] at c0
      rw [hk] at c3
      clear hr hp hk c1 c2 hB
      by_cases e : p = o
      · subst e
        have hnext : Hid (∀ d : Bool, d = (c || k) → Rv L p (.slice (some ⟨g, 0, none⟩) L.length cap5) w (j + 1) d (wr.setCell ⟨g, j * 4 + 3, none⟩ (.bool false))) := Lib.hid (fun d hd => ⟨by
          show d = (L.take (j + 1)).any _
          rw [HW.out, hd, HP.out.1, HP.out.2, HV.out.1, decide_eq_true rfl]; rfl, by rw [rvTo_succ HR.out]; exact Mr.put HV.out.2.1 (rvTo_at HR.out) HP.out.1, HV.out.2.2.setCell (p := ⟨g, j * 4 + 3, none⟩) HG.out _⟩)
        cases c with
        | true =>
          go_wp2
          exact ⟨⟨j + 1, _, by omega, by go_num, rfl, Lib.hid (hnext.out true (by simp))⟩, by simp [intOf]; omega⟩
        | false =>
          go_wp2
          exact ⟨⟨j + 1, _, by omega, by go_num, rfl, Lib.hid (hnext.out k (by simp))⟩, by simp [intOf]; omega⟩
      · have f : (p == o) = false := by simpa using e
        have HE := Lib.hid e
        clear e
        have hnext : Hid (Rv L o (.slice (some ⟨g, 0, none⟩) L.length cap5) w (j + 1) c wr) := Lib.hid ⟨by
          show c = (L.take (j + 1)).any _
          rw [HW.out, HP.out.1, HV.out.1, decide_eq_false HE.out]; simp [waB], by rw [rvTo_stay HR.out (by rw [HP.out.1]; exact HE.out)]; exact HV.out.2.1, HV.out.2.2⟩
        go_wp2
        exact ⟨⟨j + 1, c, by omega, by go_num, rfl, hnext⟩, by simp [intOf]; omega⟩
    · have hji : ¬ (j : Int) < (L.length : Int) := by omega
      have HE := HV.out
      unfold Rv at HE
      rw [rvTo_all L o (by omega), show L.take j = L from List.take_of_length_le (by omega)] at HE
      replace HE := Lib.hid HE
      go_wp2
      go_ret2
      exact ⟨_, by rw [HE.out.1]; rfl, HE.out.2⟩

set_option maxRecDepth 100000 in
set_option maxHeartbeats 2000000 in
theorem rissue_any (B : Nat) (v : Value) (L : List MRow) (o n : Nat) (w : World) (h : Mr B v L w) (hB : B ≤ w.heap.size) (hl : L.length ≤ 1000000) (ho : o ≤ 8) (hn : n < 18446744073709551616) :
    Calls Try.prog 12 #[v, .int .i64 (o : Int), .int .u64 (n : Int)] w fun e w' => ∃ v', e = .returned v' ∧ Mr w.heap.size v' (isL L o n) w' ∧ Below w.heap.size w w' := by
  have H := Lib.hid h
  obtain ⟨m, hm⟩ : ∃ m, epN L o = m := ⟨_, rfl⟩
  have hm2 : m ≤ 1000000 := by rw [← hm]; exact Nat.le_trans (ep_le L o) hl
  obtain ⟨x, hx⟩ : ∃ x, mixN n (256 * (m + 1) + o) = x := ⟨_, rfl⟩
  have hxl : x < 18446744073709551616 := by rw [← hx]; exact mix_lt _ _
  have HM := Lib.hid hm
  have HX := Lib.hid hx
  have hlen := Lib.hid (show (rvL L o).length ≤ 1000000 by rw [rv_len]; exact hl)
  have e1 : IntKind.u64.wrap ((256 : Int) * ((m : Int) + 1) + (o : Int)) = ((256 * (m + 1) + o : Nat) : Int) := by rw [IntKind.wrap_u64]; omega
  have e2 : IntKind.u64.wrap ((m : Int) + 1) = (m : Int) + 1 := by rw [IntKind.wrap_u64]; omega
  have e3 : IntKind.u64.wrap ((o : Int)) = (o : Int) := by rw [IntKind.wrap_u64]; omega
  have e4 : IntKind.u64.wrap ((256 : Int) * ((m : Int) + 1)) = (256 : Int) * ((m : Int) + 1) := by rw [IntKind.wrap_u64]; omega
  clear h hm hx
  by_cases hx0 : x = 0
  · subst hx0
    have HT := Lib.hid (show tagN n (m + 1) o = 1 by unfold tagN; rw [HX.out, if_pos rfl])
    go_enter Try.func12, Try.ntmps12
    go_wp2_with (first
      | (go_at_call 14; refine (rrevoke_any B v L o _ H.out hl).mono ?_; rintro e w1 ⟨v1, rfl, h1, hb1⟩; have H1 := Lib.hid h1; have HB1 := Lib.hid hb1; clear h1 hb1)
      | (go_at_call 16; refine (repoch_any B v L o _ (H.out.below HB1.out) hl).mono ?_; rw [HM.out]; rintro e w2 ⟨rfl, rfl⟩)
      | (go_at_call 22; refine (rmix_any n (256 * (m + 1) + o) _ hn (by omega)).mono ?_; rw [HX.out]; rintro e w3 ⟨rfl, rfl⟩)
      | (at_builtin; refine Rw.list rfl (.tmp 31) (.tmp 36) 28 rfl 40 4 w.heap.size _ 32 Try.underlying28 infoRow (by decide) v1 (.slice (some ⟨_, 0, none⟩) 1 1) (rvL L o).length 1 (rC (rvL L o)) (rw1 ⟨o, m + 1, 1, true⟩) rfl rfl (H1.out.alloc _) (Rw.lit_at _ _ 4 _ (rw1 ⟨o, m + 1, 1, true⟩) rfl rfl) (rw1_cells _) (by have := hlen.out; unfold maxLen; omega) (by have := hlen.out; omega) (by have := HB1.out.size; simp; omega) ?_; intro v5 w5 hR5 hg5 hG5))
    go_ret
    refine ⟨_, rfl, ?_, ?_⟩
    · show Rw _ _ _ _ (isL L o n).length (rC (isL L o n)) _
      rw [is_len, ← rv_len L o]
      have : rC (isL L o n) = rC (rvL L o) ++ rw1 ⟨o, m + 1, 1, true⟩ := by unfold isL rC; rw [fl_app, fl_one, HM.out, HT.out]
      rw [this]; exact hR5
    · exact (HB1.out.alloc HB1.out.size _).grown hg5 (by have := HB1.out.size; simp; omega) (fun k hk => (H1.out.block k hk).1)
  · have hx0' : ((x : Int) == 0) = false := by simpa using (show ¬ (x : Int) = 0 by omega)
    have HT := Lib.hid (show tagN n (m + 1) o = x by unfold tagN; rw [HX.out, if_neg hx0])
    go_enter Try.func12, Try.ntmps12
    go_wp2_with (first
      | (go_at_call 14; refine (rrevoke_any B v L o _ H.out hl).mono ?_; rintro e w1 ⟨v1, rfl, h1, hb1⟩; have H1 := Lib.hid h1; have HB1 := Lib.hid hb1; clear h1 hb1)
      | (go_at_call 16; refine (repoch_any B v L o _ (H.out.below HB1.out) hl).mono ?_; rw [HM.out]; rintro e w2 ⟨rfl, rfl⟩)
      | (go_at_call 22; refine (rmix_any n (256 * (m + 1) + o) _ hn (by omega)).mono ?_; rw [HX.out]; rintro e w3 ⟨rfl, rfl⟩)
      | (at_builtin; refine Rw.list rfl (.tmp 31) (.tmp 36) 28 rfl 40 4 w.heap.size _ 32 Try.underlying28 infoRow (by decide) v1 (.slice (some ⟨_, 0, none⟩) 1 1) (rvL L o).length 1 (rC (rvL L o)) (rw1 ⟨o, m + 1, x, true⟩) rfl rfl (H1.out.alloc _) (Rw.lit_at _ _ 4 _ (rw1 ⟨o, m + 1, x, true⟩) rfl rfl) (rw1_cells _) (by have := hlen.out; unfold maxLen; omega) (by have := hlen.out; omega) (by have := HB1.out.size; simp; omega) ?_; intro v5 w5 hR5 hg5 hG5))
    go_ret
    refine ⟨_, rfl, ?_, ?_⟩
    · show Rw _ _ _ _ (isL L o n).length (rC (isL L o n)) _
      rw [is_len, ← rv_len L o]
      have : rC (isL L o n) = rC (rvL L o) ++ rw1 ⟨o, m + 1, x, true⟩ := by unfold isL rC; rw [fl_app, fl_one, HM.out, HT.out]
      rw [this]; exact hR5
    · exact (HB1.out.alloc HB1.out.size _).grown hg5 (by have := HB1.out.size; simp; omega) (fun k hk => (H1.out.block k hk).1)
end Go.Proofs.Ytcbicdmelokanaa.Mc
