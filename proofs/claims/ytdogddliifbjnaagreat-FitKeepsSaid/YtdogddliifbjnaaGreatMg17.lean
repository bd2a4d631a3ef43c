/- check's formed, keys, wrongName. -/
import Derived.Test.YtdogddliifbjnaaGreatMg04
import Derived.Test.YtdogddliifbjnaaGreatMg16
namespace Go.Proofs.YtdogddliifbjnaaGreat.Ck
open Go.RowKit Cm _root_.Go.Proofs.YtdogddliifbjnaaGreat.Nm
set_option linter.unusedVariables false
set_option linter.unusedSimpArgs false

theorem nm_empty {nm : ByteArray} (h : ¬ nm = ⟨#[]⟩) : (nm.toList == []) = false := by
  have := txt_neq h
  simpa using this
set_option maxRecDepth 100000 in
set_option maxHeartbeats 2000000 in
theorem formed_any (k : Int) (nm : ByteArray) (o : Option Addr) (l c : Nat) (w : World) :
    Calls Tryz.prog 137 #[.agg #[.int .i64 k, .string nm, .slice o l c]] w fun e w' => e = .returned (.bool (fmB k nm l false)) ∧ Below w.heap.size w w' := by
  have HB := Lib.hid ((Below.refl w.heap.size w).alloc (Nat.le_refl _) (.cells #[.int .i64 k, .string nm, .slice o l c] 48))
  have hf : fmB k nm l false = (decide (ofZ k = l) && (decide (k = 6) || decide (nm = ⟨#[]⟩))) := by unfold fmB; simp
  rw [hf]
  clear hf
  by_cases hk : k = 1 ∨ k = 2 ∨ k = 3 ∨ k = 4 ∨ k = 5
  · have hz : ofZ k = 0 := by unfold ofZ; rcases hk with rfl | rfl | rfl | rfl | rfl <;> rfl
    have h6 : decide (k = 6) = false := by rcases hk with rfl | rfl | rfl | rfl | rfl <;> rfl
    rw [hz, h6]
    clear hz h6
    by_cases hl : l = 0
    · subst hl
      by_cases hn : nm = ⟨#[]⟩
      · subst hn
        rcases hk with rfl | rfl | rfl | rfl | rfl
        all_goals
          go_enter Tryz.func137, Tryz.ntmps137
          go_wp2
          go_ret
          exact ⟨rfl, HB.out⟩
      · have hq := nm_empty hn
        rw [decide_eq_false hn]
        clear hn
        rcases hk with rfl | rfl | rfl | rfl | rfl
        all_goals
          go_enter Tryz.func137, Tryz.ntmps137
          go_wp2
          go_ret
          exact ⟨rfl, HB.out⟩
    · have hq : ((l : Int) == 0) = false := beq_eq_false_iff_ne.2 (by omega)
      rw [decide_eq_false (p := (0 : Int) = (l : Int)) (by omega)]
      clear hl
      rcases hk with rfl | rfl | rfl | rfl | rfl
      all_goals
        go_enter Tryz.func137, Tryz.ntmps137
        go_wp2
        go_ret
        exact ⟨rfl, HB.out⟩
  · by_cases h6 : k = 6
    · subst h6
      clear hk
      by_cases hl : l = 0
      · subst hl
        go_enter Tryz.func137, Tryz.ntmps137
        go_wp2
        go_ret
        exact ⟨rfl, HB.out⟩
      · have hq : ((l : Int) == 0) = false := beq_eq_false_iff_ne.2 (by omega)
        rw [show ofZ 6 = 0 from rfl, decide_eq_false (p := (0 : Int) = (l : Int)) (by omega)]
        clear hl
        go_enter Tryz.func137, Tryz.ntmps137
        go_wp2
        go_ret
        exact ⟨rfl, HB.out⟩
    · by_cases h79 : k = 7 ∨ k = 9
      · have hz : ofZ k = 1 := by unfold ofZ; rcases h79 with rfl | rfl <;> rfl
        rw [hz, decide_eq_false h6]
        clear hz h6 hk
        by_cases hl : l = 1
        · subst hl
          by_cases hn : nm = ⟨#[]⟩
          · subst hn
            rcases h79 with rfl | rfl
            all_goals
              go_enter Tryz.func137, Tryz.ntmps137
              go_wp2
              go_ret
              exact ⟨rfl, HB.out⟩
          · have hq := nm_empty hn
            rw [decide_eq_false hn]
            clear hn
            rcases h79 with rfl | rfl
            all_goals
              go_enter Tryz.func137, Tryz.ntmps137
              go_wp2
              go_ret
              exact ⟨rfl, HB.out⟩
        · have hq : ((l : Int) == 1) = false := beq_eq_false_iff_ne.2 (by omega)
          rw [decide_eq_false (p := (1 : Int) = (l : Int)) (by omega)]
          clear hl
          rcases h79 with rfl | rfl
          all_goals
            go_enter Tryz.func137, Tryz.ntmps137
            go_wp2
            go_ret
            exact ⟨rfl, HB.out⟩
      · by_cases h8 : k = 8
        · subst h8
          rw [show ofZ 8 = 2 from rfl, show decide ((8 : Int) = 6) = false from rfl]
          clear h6 h79 hk
          by_cases hl : l = 2
          · subst hl
            by_cases hn : nm = ⟨#[]⟩
            · subst hn
              go_enter Tryz.func137, Tryz.ntmps137
              go_wp2
              go_ret
              exact ⟨rfl, HB.out⟩
            · have hq := nm_empty hn
              rw [decide_eq_false hn]
              clear hn
              go_enter Tryz.func137, Tryz.ntmps137
              go_wp2
              go_ret
              exact ⟨rfl, HB.out⟩
          · have hq : ((l : Int) == 2) = false := beq_eq_false_iff_ne.2 (by omega)
            rw [decide_eq_false (p := (2 : Int) = (l : Int)) (by omega)]
            clear hl
            go_enter Tryz.func137, Tryz.ntmps137
            go_wp2
            go_ret
            exact ⟨rfl, HB.out⟩
        · have hz : ofZ k = -1 := by unfold ofZ; rw [if_neg h79, if_neg h8, if_pos (by omega)]
          rw [hz, decide_eq_false (p := (-1 : Int) = (l : Int)) (by omega)]
          have n1 : (k == 1) = false := beq_eq_false_iff_ne.2 (by omega)
          have n2 : (k == 2) = false := beq_eq_false_iff_ne.2 (by omega)
          have n3 : (k == 3) = false := beq_eq_false_iff_ne.2 (by omega)
          have n4 : (k == 4) = false := beq_eq_false_iff_ne.2 (by omega)
          have n5 : (k == 5) = false := beq_eq_false_iff_ne.2 (by omega)
          have n6 : (k == 6) = false := beq_eq_false_iff_ne.2 (by omega)
          have n7 : (k == 7) = false := beq_eq_false_iff_ne.2 (by omega)
          have n8 : (k == 8) = false := beq_eq_false_iff_ne.2 (by omega)
          have n9 : (k == 9) = false := beq_eq_false_iff_ne.2 (by omega)
          clear hz hk h6 h79 h8
          go_enter Tryz.func137, Tryz.ntmps137
          go_wp2
          go_ret
          exact ⟨rfl, HB.out⟩

/-- May a map's keys be of a type (and is it formed)? -/
def kfB (S : Nat → ByteArray) (K : Nat → Int) (n : Nat) (k : Int) (nm : ByteArray) (l : Nat) : Bool :=
  (decide (1 ≤ k ∧ k ≤ 4) && fmB k nm l false) || (decide (k = 6) && fmB k nm l false && decide (knS S K nm n = 3))
set_option maxRecDepth 100000 in
set_option maxHeartbeats 2000000 in
theorem keys_any (T n : Nat) (S : Nat → ByteArray) (K : Nat → Int) (k : Int) (nm : ByteArray) (o : Option Addr) (l c : Nat) (w : World) (h : Tb T n S K w) (hs : nm.size ≤ 140737488355327) :
    Calls Tryz.prog 138 #[.pointer (some ⟨T, 0, none⟩), .agg #[.int .i64 k, .string nm, .slice o l c]] w fun e w' => e = .returned (.bool (kfB S K n k nm l)) ∧ Below w.heap.size w w' := by
  have HB := Lib.hid ((Below.refl w.heap.size w).alloc (Nat.le_refl _) (.cells #[.int .i64 k, .string nm, .slice o l c] 48))
  have HC := Lib.hid (Cs.new w [.int .i64 k, .string nm, .slice o l c] 48)
  have HT := Lib.hid (h.alloc (.cells #[.int .i64 k, .string nm, .slice o l c] 48))
  clear h
  cases hb : fmB k nm l false with
  | false =>
    have hk0 : kfB S K n k nm l = false := by unfold kfB; rw [hb]; simp
    rw [hk0]
    clear hk0
    by_cases hk : k = 1 ∨ k = 2 ∨ k = 3 ∨ k = 4 ∨ k = 6
    · rcases hk with rfl | rfl | rfl | rfl | rfl
      all_goals
        go_enter Tryz.func138, Tryz.ntmps138
        go_wp2_with (go_at_call 137; refine (formed_any _ nm o l c _).mono ?_; rw [hb]; rintro e w1 ⟨rfl, hb1⟩)
        go_ret
        exact ⟨rfl, HB.out.trans (hb1.mono HB.out.size)⟩
    · have n1 : (k == 1) = false := beq_eq_false_iff_ne.2 (by omega)
      have n2 : (k == 2) = false := beq_eq_false_iff_ne.2 (by omega)
      have n3 : (k == 3) = false := beq_eq_false_iff_ne.2 (by omega)
      have n4 : (k == 4) = false := beq_eq_false_iff_ne.2 (by omega)
      have n6 : (k == 6) = false := beq_eq_false_iff_ne.2 (by omega)
      clear hk hb
      go_enter Tryz.func138, Tryz.ntmps138
      go_wp2
      go_ret
      exact ⟨rfl, HB.out⟩
  | true =>
    by_cases hk : k = 1 ∨ k = 2 ∨ k = 3 ∨ k = 4
    · have hk0 : kfB S K n k nm l = true := by unfold kfB; rw [hb, decide_eq_true (show 1 ≤ k ∧ k ≤ 4 by omega)]; rfl
      rw [hk0]
      clear hk0
      rcases hk with rfl | rfl | rfl | rfl
      all_goals
        go_enter Tryz.func138, Tryz.ntmps138
        go_wp2_with (go_at_call 137; refine (formed_any _ nm o l c _).mono ?_; rw [hb]; rintro e w1 ⟨rfl, hb1⟩)
        go_ret
        exact ⟨rfl, HB.out.trans (hb1.mono HB.out.size)⟩
    · by_cases h6 : k = 6
      · subst h6
        have hk0 : kfB S K n 6 nm l = decide (knS S K nm n = 3) := by unfold kfB; rw [hb]; simp
        rw [hk0]
        clear hk0 hk
        by_cases h3 : knS S K nm n = 3
        · rw [decide_eq_true h3]
          have H3 := Lib.hid h3
          clear h3
          go_enter Tryz.func138, Tryz.ntmps138
          go_wp2_with (first
            | (go_at_call 33; refine (kind_any T n S K nm _ (HT.out.below hb1) hs).mono ?_; rw [H3.out]; rintro e w2 ⟨rfl, hb2⟩)
            | (go_at_call 137; refine (formed_any _ nm o l c _).mono ?_; rw [hb]; rintro e w1 ⟨rfl, hb1⟩; have d1 := (HC.out.below hb1 HC.out.lt).cell (i := 1) rfl))
          go_ret
          exact ⟨rfl, (HB.out.trans (hb1.mono HB.out.size)).trans (hb2.mono (HB.out.trans (hb1.mono HB.out.size)).size)⟩
        · rw [decide_eq_false h3]
          have hq : (knS S K nm n == 3) = false := beq_eq_false_iff_ne.2 h3
          clear h3
          go_enter Tryz.func138, Tryz.ntmps138
          go_wp2_with (first
            | (go_at_call 33; refine (kind_any T n S K nm _ (HT.out.below hb1) hs).mono ?_; rintro e w2 ⟨rfl, hb2⟩)
            | (go_at_call 137; refine (formed_any _ nm o l c _).mono ?_; rw [hb]; rintro e w1 ⟨rfl, hb1⟩; have d1 := (HC.out.below hb1 HC.out.lt).cell (i := 1) rfl))
          go_ret
          exact ⟨rfl, (HB.out.trans (hb1.mono HB.out.size)).trans (hb2.mono (HB.out.trans (hb1.mono HB.out.size)).size)⟩
      · have hk0 : kfB S K n k nm l = false := by unfold kfB; rw [decide_eq_false (show ¬ (1 ≤ k ∧ k ≤ 4) by omega), decide_eq_false h6]; rfl
        rw [hk0]
        have n1 : (k == 1) = false := beq_eq_false_iff_ne.2 (by omega)
        have n2 : (k == 2) = false := beq_eq_false_iff_ne.2 (by omega)
        have n3 : (k == 3) = false := beq_eq_false_iff_ne.2 (by omega)
        have n4 : (k == 4) = false := beq_eq_false_iff_ne.2 (by omega)
        have n6 : (k == 6) = false := beq_eq_false_iff_ne.2 (by omega)
        clear hk hb h6 hk0
        go_enter Tryz.func138, Tryz.ntmps138
        go_wp2
        go_ret
        exact ⟨rfl, HB.out⟩

/-- Why a name may not stand where one of a declaration of these kinds must. -/
def wnE (S : Nat → ByteArray) (K : Nat → Int) (n : Nat) (s : ByteArray) (zs : List Int) : Nat := match fiS S s n with
  | none => 6
  | some i => if zs.contains (K i) then 0 else 8
theorem wn_type (S : Nat → ByteArray) (K : Nat → Int) (n : Nat) (s : ByteArray) : wnE S K n s [1, 2, 3] = nmE S K n s := by
  unfold wnE nmE
  cases fiS S s n with
  | none => rfl
  | some i =>
    show (if [1, 2, 3].contains (K i) = true then 0 else 8) = if K i < 1 ∨ 3 < K i then 8 else 0
    by_cases h : K i < 1 ∨ 3 < K i
    · rw [if_pos h, if_neg]
      simp only [List.contains_cons, List.contains_nil, Bool.or_false, Bool.or_eq_true, beq_iff_eq]; omega
    · rw [if_neg h, if_pos]
      simp only [List.contains_cons, List.contains_nil, Bool.or_false, Bool.or_eq_true, beq_iff_eq]; omega
theorem wn_struct (S : Nat → ByteArray) (K : Nat → Int) (n : Nat) (s : ByteArray) : wnE S K n s [1] = stE S K n s := by
  unfold wnE stE
  cases fiS S s n with
  | none => rfl
  | some i =>
    show (if [1].contains (K i) = true then 0 else 8) = if K i = 1 then 0 else 8
    by_cases h : K i = 1
    · rw [if_pos h, if_pos]; simp [h]
    · rw [if_neg h, if_neg]; simp [h]
set_option maxRecDepth 100000 in
set_option maxHeartbeats 2000000 in
theorem wname_any (T n g c : Nat) (S : Nat → ByteArray) (K : Nat → Int) (s : ByteArray) (zs : List Int) (w : World) (h : Tb T n S K w) (hs : s.size ≤ 140737488355327) (hz : zs.length ≤ 100) (hg : g < w.heap.size) (hc : ∀ j, j < zs.length → w.cell? ⟨g, j, none⟩ = some (.int .i64 (zs.getD j 0))) :
    Calls Tryz.prog 117 #[.pointer (some ⟨T, 0, none⟩), .string s, .slice (some ⟨g, 0, none⟩) zs.length c] w fun e w' => e = .returned (.int .i64 (wnE S K n s zs : Nat)) ∧ Below w.heap.size w w' := by
  have HT := Lib.hid h
  have HC := Lib.hid hc
  clear h hc
  cases hf : fiS S s n with
  | none =>
    have hi := isS_none hf
    have he : wnE S K n s zs = 6 := by unfold wnE; rw [hf]
    rw [he]
    clear hf he
    go_enter Tryz.func117, Tryz.ntmps117
    go_wp2_with (go_at_call 80; refine (find_any T n S K s _ HT.out hs).mono ?_; rw [hi]; rintro e w1 ⟨rfl, hb1⟩)
    go_ret
    exact ⟨rfl, hb1⟩
  | some i =>
    have hi := isS_some hf
    have hk := knS_some (K := K) hf
    have he : wnE S K n s zs = if zs.contains (K i) then 0 else 8 := by unfold wnE; rw [hf]
    rw [he]
    clear hf he
    cases hb : zs.contains (K i) with
    | true =>
      go_enter Tryz.func117, Tryz.ntmps117
      go_wp2_with (first
        | (go_at_call 139; refine (Tryz.slices_Contains_int g 0 zs.length c zs (K i) _ (Nat.le_refl _) (by omega) (fun j hj => by rw [Nat.zero_add]; exact (hb2.cell (p := ⟨g, j, none⟩) (Nat.lt_of_lt_of_le hg hb1.size)).trans ((hb1.cell (p := ⟨g, j, none⟩) hg).trans (HC.out j hj)))).mono ?_; rw [List.take_length, hb]; rintro e w3 ⟨rfl, rfl⟩)
        | (go_at_call 33; refine (kind_any T n S K s _ (HT.out.below hb1) hs).mono ?_; rw [hk]; rintro e w2 ⟨rfl, hb2⟩)
        | (go_at_call 80; refine (find_any T n S K s _ HT.out hs).mono ?_; rw [hi]; rintro e w1 ⟨rfl, hb1⟩))
      go_ret
      exact ⟨rfl, hb1.trans (hb2.mono hb1.size)⟩
    | false =>
      go_enter Tryz.func117, Tryz.ntmps117
      go_wp2_with (first
        | (go_at_call 139; refine (Tryz.slices_Contains_int g 0 zs.length c zs (K i) _ (Nat.le_refl _) (by omega) (fun j hj => by rw [Nat.zero_add]; exact (hb2.cell (p := ⟨g, j, none⟩) (Nat.lt_of_lt_of_le hg hb1.size)).trans ((hb1.cell (p := ⟨g, j, none⟩) hg).trans (HC.out j hj)))).mono ?_; rw [List.take_length, hb]; rintro e w3 ⟨rfl, rfl⟩)
        | (go_at_call 33; refine (kind_any T n S K s _ (HT.out.below hb1) hs).mono ?_; rw [hk]; rintro e w2 ⟨rfl, hb2⟩)
        | (go_at_call 80; refine (find_any T n S K s _ HT.out hs).mono ?_; rw [hi]; rintro e w1 ⟨rfl, hb1⟩))
      go_ret
      exact ⟨rfl, hb1.trans (hb2.mono hb1.size)⟩
end Go.Proofs.YtdogddliifbjnaaGreat.Ck
/- check's wrongType, wrongField, wrongMethod. -/
namespace Go.Proofs.YtdogddliifbjnaaGreat.Ck
open Go.RowKit Cm _root_.Go.Proofs.YtdogddliifbjnaaGreat.Nm
set_option linter.unusedVariables false
set_option linter.unusedSimpArgs false

theorem fm_false {k : Int} {nm : ByteArray} {l : Nat} (h : fmB k nm l false = false) (b : Bool) : fmB k nm l b = false := by
  unfold fmB at h ⊢
  simp only [Bool.and_false, Bool.not_false, Bool.and_true] at h
  rw [h]; rfl
theorem fm_opt {nm : ByteArray} {l : Nat} : fmB 9 nm l true = false := by unfold fmB; simp
theorem fm_true {k : Int} {nm : ByteArray} {l : Nat} {b : Bool} (h : fmB k nm l false = true) (hb : ¬ (k = 9 ∧ b = true)) : fmB k nm l b = true := by
  unfold fmB at h ⊢
  simp only [Bool.and_false, Bool.not_false, Bool.and_true] at h
  rw [h]
  cases b with
  | false => simp
  | true => simp; intro e; exact hb ⟨e, rfl⟩
theorem fm_len {k : Int} {nm : ByteArray} {l : Nat} (h : fmB k nm l false = true) : ofZ k = l := by
  unfold fmB at h
  simp only [Bool.and_eq_true, decide_eq_true_eq] at h
  exact h.1.1
section
variable {S : Nat → ByteArray} {K : Nat → Int} {n : Nat}
theorem ty_eq (k : Int) (nm : ByteArray) (o : Option Addr) (c : Nat) (of : List Ty) (b : Bool) : tyE S K n (.mk k nm o c of) b =
    if fmB k nm of.length b = false then 8 else if k = 6 then nmE S K n nm else if k = 8 ∧ kyB S K n (of.getD 0 (.mk 0 ⟨#[]⟩ none 0 [])) = false then 8 else tysE S K n of := by conv => lhs; unfold tyE
theorem tys_nil : tysE S K n [] = 0 := by unfold tysE; rfl
theorem tys_cons (t : Ty) (l : List Ty) : tysE S K n (t :: l) = (match tyE S K n t true with | 0 => tysE S K n l | e + 1 => e + 1) := by
  conv => lhs; unfold tysE
  cases tyE S K n t true <;> rfl
theorem tys_one (t : Ty) : tysE S K n [t] = tyE S K n t true := by
  rw [tys_cons, tys_nil]
  cases tyE S K n t true <;> rfl
theorem tys_bad {t : Ty} {l : List Ty} {e : Nat} (h : tyE S K n t true = e + 1) : tysE S K n (t :: l) = e + 1 := by rw [tys_cons, h]
theorem tys_good {t : Ty} {l : List Ty} (h : tyE S K n t true = 0) : tysE S K n (t :: l) = tysE S K n l := by rw [tys_cons, h]
theorem ty_bad {k : Int} {nm : ByteArray} {o : Option Addr} {c : Nat} {of : List Ty} {b : Bool} (h : fmB k nm of.length b = false) : tyE S K n (.mk k nm o c of) b = 8 := by
  rw [ty_eq, if_pos h]
theorem ty_name {nm : ByteArray} {o : Option Addr} {c : Nat} {of : List Ty} {b : Bool} (h : fmB 6 nm of.length b = true) : tyE S K n (.mk 6 nm o c of) b = nmE S K n nm := by
  rw [ty_eq, if_neg (by rw [h]; decide), if_pos rfl]
theorem ty_one {k : Int} {nm : ByteArray} {o : Option Addr} {c : Nat} {t : Ty} {b : Bool} (hk : k = 7 ∨ k = 9) (h : fmB k nm 1 b = true) : tyE S K n (.mk k nm o c [t]) b = tyE S K n t true := by
  have h6 : ¬ k = 6 := by rcases hk with rfl | rfl <;> decide
  have h8 : ¬ (k = 8 ∧ kyB S K n (([t] : List Ty).getD 0 (.mk 0 ⟨#[]⟩ none 0 [])) = false) := fun e => by rcases hk with rfl | rfl <;> exact absurd e.1 (by decide)
  rw [ty_eq, if_neg (by rw [show ([t] : List Ty).length = 1 from rfl, h]; decide), if_neg h6, if_neg h8, tys_one]
theorem ky_bad {t : Ty} (h : kfB S K n t.k t.n t.of.length = false) (v : Ty) : (kyB S K n t = false) ∨ tysE S K n [t, v] = 8 := by
  by_cases hk : kyB S K n t = false
  · exact .inl hk
  · right
    have hf : fmB t.k t.n t.of.length false = false := by
      cases hb : fmB t.k t.n t.of.length false with
      | false => rfl
      | true =>
        exfalso
        unfold kfB at h
        rw [hb] at h
        unfold kyB at hk
        simp only [Bool.and_true] at h
        exact hk h
    obtain ⟨k, nm, o, c, of⟩ := t
    exact tys_bad (ty_bad (fm_false hf true))
theorem ky_good {t : Ty} (h : kfB S K n t.k t.n t.of.length = true) (v : Ty) : kyB S K n t = true ∧ tysE S K n [t, v] = tyE S K n v true := by
  obtain ⟨k, nm, o, c, of⟩ := t
  have h' : kfB S K n k nm of.length = true := h
  have hf : fmB k nm of.length false = true := by
    cases hb : fmB k nm of.length false with
    | true => rfl
    | false => unfold kfB at h'; rw [hb] at h'; simp at h'
  unfold kfB at h'
  rw [hf] at h'
  simp only [Bool.and_true, Bool.or_eq_true, Bool.and_eq_true, decide_eq_true_eq] at h'
  refine ⟨by unfold kyB; rw [Bool.or_eq_true, Bool.and_eq_true]; exact h'.imp (fun a => decide_eq_true a) (fun a => ⟨decide_eq_true a.1, decide_eq_true a.2⟩), ?_⟩
  have h9 : ¬ (k = 9 ∧ true = true) := fun e => by rcases h' with a | a <;> omega
  have ht : tyE S K n (.mk k nm o c of) true = 0 := by
    rcases h' with a | ⟨a, b⟩
    · rw [ty_eq, if_neg (by rw [fm_true hf h9]; decide), if_neg (by omega), if_neg (fun e => by have := e.1; omega)]
      have hl := fm_len hf
      have hz : ofZ k = 0 := by unfold ofZ; rw [if_neg (by omega), if_neg (by omega), if_neg (by omega)]
      have : of.length = 0 := by omega
      rw [List.eq_nil_of_length_eq_zero this, tys_nil]
    · subst a
      rw [ty_name (fm_true hf h9)]
      unfold nmE
      cases hx : fiS S nm n with
      | none => rw [knS_none hx] at b; cases b
      | some i =>
        rw [knS_some hx] at b
        show (if K i < 1 ∨ 3 < K i then 8 else 0) = 0
        rw [if_neg (by omega)]
  rw [tys_good ht, tys_one]
theorem ty_map {nm : ByteArray} {o : Option Addr} {c : Nat} {t v : Ty} {b : Bool} (h : fmB 8 nm 2 b = true) :
    tyE S K n (.mk 8 nm o c [t, v]) b = if kfB S K n t.k t.n t.of.length = true then tyE S K n v true else 8 := by
  rw [ty_eq, if_neg (by rw [show ([t, v] : List Ty).length = 2 from rfl, h]; decide), if_neg (by decide)]
  show (if (8 : Int) = 8 ∧ kyB S K n t = false then 8 else tysE S K n [t, v]) = _
  cases hk : kfB S K n t.k t.n t.of.length with
  | true =>
    obtain ⟨h1, h2⟩ := ky_good hk v
    rw [if_neg (fun e => by rw [h1] at e; exact absurd e.2 (by decide)), h2, if_pos rfl]
  | false =>
    rcases ky_bad hk v with h1 | h1
    · rw [if_pos ⟨rfl, h1⟩]; rfl
    · rw [h1]; split <;> rfl
theorem ty_flat {k : Int} {nm : ByteArray} {o : Option Addr} {c : Nat} {of : List Ty} {b : Bool} (hk : 1 ≤ k ∧ k ≤ 5) (h : fmB k nm of.length false = true) : tyE S K n (.mk k nm o c of) b = 0 := by
  rw [ty_eq, if_neg (by rw [fm_true h (by omega)]; decide), if_neg (by omega), if_neg (fun e => by have := e.1; omega)]
  have hl := fm_len h
  have hz : ofZ k = 0 := by unfold ofZ; rw [if_neg (by omega), if_neg (by omega), if_neg (by omega)]
  rw [List.eq_nil_of_length_eq_zero (show of.length = 0 by omega), tys_nil]
theorem fm_kind {k : Int} {nm : ByteArray} {l : Nat} (h : fmB k nm l false = true) : (1 ≤ k ∧ k ≤ 5 ∧ l = 0) ∨ k = 6 ∨ ((k = 7 ∨ k = 9) ∧ l = 1) ∨ (k = 8 ∧ l = 2) := by
  have hl := fm_len h
  unfold ofZ at hl
  by_cases h7 : k = 7 ∨ k = 9
  · rw [if_pos h7] at hl; exact .inr (.inr (.inl ⟨h7, by omega⟩))
  · rw [if_neg h7] at hl
    by_cases h8 : k = 8
    · rw [if_pos h8] at hl; exact .inr (.inr (.inr ⟨h8, by omega⟩))
    · rw [if_neg h8] at hl
      by_cases hb : k < 1 ∨ 9 < k
      · rw [if_pos hb] at hl; omega
      · rw [if_neg hb] at hl
        omega
end
theorem of_at1 {of : List Ty} (h : of.length = 1) : ∃ t, of = [t] := by
  match of, h with
  | [t], _ => exact ⟨t, rfl⟩
theorem of_at2 {of : List Ty} (h : of.length = 2) : ∃ t v, of = [t, v] := by
  match of, h with
  | [t, v], _ => exact ⟨t, v, rfl⟩

/-- What the loop of wrongType keeps. -/
structure Wy (n : Nat) (S : Nat → ByteArray) (K : Nat → Int) (w : World) (r : Nat) (t : Ty) (b : Bool) (wr : World) : Prop where
  e : tyE S K n t b = r
  tin : TyIn w t
  box : Cs w.heap.size [.int .i64 t.k, .string t.n, .slice t.o t.of.length t.c] wr
  below : Below w.heap.size w wr
theorem Wy.step {n : Nat} {S : Nat → ByteArray} {K : Nat → Int} {w wr w' : World} {r : Nat} {t : Ty} {b : Bool} (h : Wy n S K w r t b wr) (hb : Below wr.heap.size wr w') : Wy n S K w r t b w' :=
  ⟨h.e, h.tin, h.box.below hb h.box.lt, h.below.trans (hb.mono h.below.size)⟩
theorem Wy.to {n : Nat} {S : Nat → ByteArray} {K : Nat → Int} {w wr : World} {r : Nat} {t t2 : Ty} {b b2 : Bool} (h : Wy n S K w r t b wr) (he : tyE S K n t2 b2 = r) (ht : TyIn w t2) :
    Wy n S K w r t2 b2 (((wr.setCell ⟨w.heap.size, 0, none⟩ (.int .i64 t2.k)).setCell ⟨w.heap.size, 1, none⟩ (.string t2.n)).setCell ⟨w.heap.size, 2, none⟩ (.slice t2.o t2.of.length t2.c)) :=
  ⟨he, ht, ((h.box.put (i := 0) (.int .i64 t2.k)).put (i := 1) (.string t2.n)).put (i := 2) (.slice t2.o t2.of.length t2.c), ((h.below.setCell (Nat.le_refl _) _).setCell (Nat.le_refl _) _).setCell (Nat.le_refl _) _⟩
theorem ty_first {w : World} {k : Int} {n : ByteArray} {o : Option Addr} {c : Nat} {t : Ty} {l : List Ty} (h : TyIn w (.mk k n o c (t :: l))) :
    ∃ Ab Ao As, o = some ⟨Ab, Ao, As⟩ ∧ w.cell? ⟨Ab, Ao, As⟩ = some (.int .i64 t.k) ∧ w.cell? ⟨Ab, Ao + 1, none⟩ = some (.string t.n) ∧ w.cell? ⟨Ab, Ao + 2, none⟩ = some (.slice t.o t.of.length t.c) ∧ TyIn w t := by
  obtain ⟨a, Ab, Ao, As, h1, h2, h3, h4, h5, h6, h7⟩ := ty_place h (i := 0) (t := t) rfl
  have e : a = ⟨Ab, Ao, As⟩ := by rw [← h2]; simp [Addr.add]
  subst e
  exact ⟨Ab, Ao, As, h1, h4, h5, h6, h7⟩
theorem ty_second {w : World} {k : Int} {n : ByteArray} {Ab Ao : Nat} {As : Option Nat} {c : Nat} {t v : Ty} (h : TyIn w (.mk k n (some ⟨Ab, Ao, As⟩) c [t, v])) :
    w.cell? ⟨Ab, Ao + 3, none⟩ = some (.int .i64 v.k) ∧ w.cell? ⟨Ab, Ao + 4, none⟩ = some (.string v.n) ∧ w.cell? ⟨Ab, Ao + 5, none⟩ = some (.slice v.o v.of.length v.c) ∧ TyIn w v := by
  obtain ⟨a, Bb, Bo, Bs, h1, h2, h3, h4, h5, h6, h7⟩ := ty_place h (i := 1) (t := v) rfl
  obtain rfl := Option.some.inj h1
  have e : (⟨Bb, Bo, Bs⟩ : Addr) = ⟨Ab, Ao + 3, none⟩ := by rw [← h2]; simp [Addr.add]
  injection e with e1 e2 e3
  subst e1 e2 e3
  exact ⟨h4, h5, h6, h7⟩
theorem ty_size {w : World} {t : Ty} (h : TyIn w t) : t.n.size ≤ 140737488355327 := by
  cases h with
  | mk _ _ _ _ _ _ hn => exact hn

set_option maxRecDepth 100000 in
set_option maxHeartbeats 4000000 in
theorem wtype_any (T n : Nat) (S : Nat → ByteArray) (K : Nat → Int) (t : Ty) (b : Bool) (w : World) (h : Tb T n S K w) (ht : TyIn w t) (hd : dpT t ≤ 131072) :
    Calls Tryz.prog 116 #[.pointer (some ⟨T, 0, none⟩), .agg #[.int .i64 t.k, .string t.n, .slice t.o t.of.length t.c], .bool b] w fun e w' => e = .returned (.int .i64 (tyE S K n t b : Nat)) ∧ Below w.heap.size w w' := by
  obtain ⟨r, hr⟩ : ∃ r, r = tyE S K n t b := ⟨_, rfl⟩
  have HW0 : Hid (Wy n S K w r t b (w.alloc (.cells #[.int .i64 t.k, .string t.n, .slice t.o t.of.length t.c] 48))) :=
    Lib.hid ⟨hr.symm, ht, Cs.new w [.int .i64 t.k, .string t.n, .slice t.o t.of.length t.c] 48, (Below.refl w.heap.size w).alloc (Nat.le_refl _) _⟩
  have HT := Lib.hid h
  rw [← hr]
  clear h ht hr
  go_enter Tryz.func116, Tryz.ntmps116
  go_wp2
  go_loopw [2, 7] (fun ib i wr => ∃ (j : Nat) (t : Ty) (b : Bool), j + dpT t ≤ 131072 ∧ ib = .bool b ∧ i = .int .i64 (j : Nat) ∧ Hid (Wy n S K w r t b wr)) (fun _ i _ => 131072 - (intOf i).toNat)
  case atStart => exact ⟨0, t, b, by omega, rfl, rfl, HW0⟩
  case round =>
    clear HW0 hd
    obtain ⟨j, t, b, hj, rfl, rfl, HW⟩ := hrel
    have hpos := dp_pos t
    have hji : (j : Int) < 131072 := by omega
    obtain ⟨k, nm, o, c, of⟩ := t
    have d0 : wr.cell? ⟨w.heap.size, 0, none⟩ = some (.int .i64 k) := HW.out.box.cell (i := 0) rfl
    have d1 : wr.cell? ⟨w.heap.size, 1, none⟩ = some (.string nm) := HW.out.box.cell (i := 1) rfl
    have d2 : wr.cell? ⟨w.heap.size, 2, none⟩ = some (.slice o of.length c) := HW.out.box.cell (i := 2) rfl
    cases hb : fmB k nm of.length false with
    | false =>
      have hr : r = 8 := by rw [← HW.out.e, ty_bad (fm_false hb b)]
      have HR := Lib.hid hr
      have HFB := Lib.hid hb
      clear hr hb
      go_wp2_with (go_at_call 137; refine (formed_any k nm o of.length c _).mono ?_; rw [HFB.out]; rintro e w1 ⟨rfl, hb1⟩)
      go_ret
      exact ⟨by rw [HR.out]; rfl, (HW.out.step hb1).below⟩
    | true =>
      have HFB := Lib.hid hb
      by_cases h9 : k = 9 ∧ b = true
      · obtain ⟨rfl, rfl⟩ := h9
        have hr : r = 8 := by rw [← HW.out.e, ty_bad fm_opt]
        have HR := Lib.hid hr
        clear hr hb
        go_wp2_with (go_at_call 137; refine (formed_any 9 nm o of.length c _).mono ?_; rw [HFB.out]; rintro e w1 ⟨rfl, hb1⟩; have g0 : w1.cell? ⟨w.heap.size, 0, none⟩ = some (.int .i64 9) := (HW.out.step hb1).box.cell (i := 0) rfl)
        go_ret
        exact ⟨by rw [HR.out]; rfl, (HW.out.step hb1).below⟩
      · have hft : fmB k nm of.length b = true := fm_true hb h9
        have HFT := Lib.hid hft
        rcases fm_kind hb with ⟨hk, hk5, hl⟩ | rfl | ⟨h79, hl⟩ | ⟨rfl, hl⟩
        · have hr : r = 0 := by rw [← HW.out.e, ty_flat ⟨hk, hk5⟩ hb]
          have HR := Lib.hid hr
          have n6 : (k == 6) = false := beq_eq_false_iff_ne.2 (by omega)
          have n7 : (k == 7) = false := beq_eq_false_iff_ne.2 (by omega)
          have n8 : (k == 8) = false := beq_eq_false_iff_ne.2 (by omega)
          have n9 : (k == 9) = false := beq_eq_false_iff_ne.2 (by omega)
          clear hr hb hft hk hk5 hl h9
          cases b
          all_goals
            go_wp2_with (go_at_call 137; refine (formed_any k nm o of.length c _).mono ?_; rw [HFB.out]; rintro e w1 ⟨rfl, hb1⟩; have g0 : w1.cell? ⟨w.heap.size, 0, none⟩ = some (.int .i64 k) := (HW.out.step hb1).box.cell (i := 0) rfl)
            go_ret
            exact ⟨by rw [HR.out]; rfl, (HW.out.step hb1).below⟩
        · have hr : r = wnE S K n nm [1, 2, 3] := by rw [← HW.out.e, ty_name hft, wn_type]
          have HR := Lib.hid hr
          have hsz := Lib.hid (ty_size HW.out.tin)
          clear hr hb hft h9
          cases b
          all_goals
            go_wp2_with (first
              | (go_at_call 117; refine (wname_any T n w1.heap.size 3 S K nm [1, 2, 3] _ ((HT.out.below (HW.out.step hb1).below).alloc _) hsz.out (by decide) (by simp) (fun q hq => by
                  have hc := Cs.new w1 [.int .i64 1, .int .i64 2, .int .i64 3] 3
                  match q, hq with
                  | 0, _ => exact hc.cell (i := 0) rfl
                  | 1, _ => exact hc.cell (i := 1) rfl
                  | 2, _ => exact hc.cell (i := 2) rfl)).mono ?_; rintro e w2 ⟨rfl, hb2⟩)
              | (go_at_call 137; refine (formed_any 6 nm o of.length c _).mono ?_; rw [HFB.out]; rintro e w1 ⟨rfl, hb1⟩; have g0 : w1.cell? ⟨w.heap.size, 0, none⟩ = some (.int .i64 6) := (HW.out.step hb1).box.cell (i := 0) rfl; have g1 : w1.cell? ⟨w.heap.size, 1, none⟩ = some (.string nm) := (HW.out.step hb1).box.cell (i := 1) rfl))
            go_ret
            exact ⟨by rw [HR.out]; rfl, ((HW.out.step hb1).below.alloc (HW.out.step hb1).below.size _).trans (hb2.mono ((HW.out.step hb1).below.alloc (HW.out.step hb1).below.size _).size)⟩
        · obtain ⟨t1, rfl⟩ := of_at1 hl
          have he : tyE S K n t1 true = r := by rw [← HW.out.e, ty_one h79 hft]
          obtain ⟨Ab, Ao, As, rfl, c0, c1, c2, hin1⟩ := ty_first HW.out.tin
          replace HFB := Lib.hid (show fmB k nm 1 false = true from hb)
          have hlt := World.block_lt_of_cell? w _ c0
          have hdp : dpT t1 < dpT (.mk k nm (some ⟨Ab, Ao, As⟩) c [t1]) := dp_child (i := 0) rfl
          have HE := Lib.hid (And.intro he hin1)
          have HC := Lib.hid (And.intro c0 (And.intro c1 c2))
          have h79b : b = false ∨ k = 7 := by
            rcases h79 with rfl | rfl
            · exact .inr rfl
            · left
              cases b with
              | false => rfl
              | true => exact absurd ⟨rfl, rfl⟩ h9
          clear he hin1 c0 c1 c2 hb hft hl h9
          rcases h79 with rfl | rfl
          · cases b
            all_goals
              go_wp2_with (go_at_call 137; refine (formed_any 7 nm (some ⟨Ab, Ao, As⟩) 1 c _).mono ?_; rw [HFB.out]; rintro e w1 ⟨rfl, hb1⟩; have hS := HW.out.step hb1; have g0 : w1.cell? ⟨w.heap.size, 0, none⟩ = some (.int .i64 7) := hS.box.cell (i := 0) rfl; have g2 : w1.cell? ⟨w.heap.size, 2, none⟩ = some (.slice (some ⟨Ab, Ao, As⟩) 1 c) := hS.box.cell (i := 2) rfl; have q0 := hS.box.frozen (i := 0) rfl; have q1 := hS.box.frozen (i := 1) rfl; have q2 := hS.box.frozen (i := 2) rfl; have g1 := hS.box.cell (i := 1) rfl; have f0 := (hS.below.cell (p := ⟨Ab, Ao, As⟩) hlt).trans HC.out.1; have f1 := (hS.below.cell (p := ⟨Ab, Ao + 1, none⟩) hlt).trans HC.out.2.1; have f2 := (hS.below.cell (p := ⟨Ab, Ao + 2, none⟩) hlt).trans HC.out.2.2)
              go_roundw
              case rel => exact ⟨j + 1, t1, true, by omega, rfl, by go_num, Lib.hid (hS.to HE.out.1 HE.out.2)⟩
              case measure => simp [intOf]; omega
          · obtain rfl : b = false := h79b.resolve_right (by decide)
            go_wp2_with (go_at_call 137; refine (formed_any 9 nm (some ⟨Ab, Ao, As⟩) 1 c _).mono ?_; rw [HFB.out]; rintro e w1 ⟨rfl, hb1⟩; have hS := HW.out.step hb1; have g0 : w1.cell? ⟨w.heap.size, 0, none⟩ = some (.int .i64 9) := hS.box.cell (i := 0) rfl; have g2 : w1.cell? ⟨w.heap.size, 2, none⟩ = some (.slice (some ⟨Ab, Ao, As⟩) 1 c) := hS.box.cell (i := 2) rfl; have q0 := hS.box.frozen (i := 0) rfl; have q1 := hS.box.frozen (i := 1) rfl; have q2 := hS.box.frozen (i := 2) rfl; have g1 := hS.box.cell (i := 1) rfl; have f0 := (hS.below.cell (p := ⟨Ab, Ao, As⟩) hlt).trans HC.out.1; have f1 := (hS.below.cell (p := ⟨Ab, Ao + 1, none⟩) hlt).trans HC.out.2.1; have f2 := (hS.below.cell (p := ⟨Ab, Ao + 2, none⟩) hlt).trans HC.out.2.2)
            go_roundw
            case rel => exact ⟨j + 1, t1, true, by omega, rfl, by go_num, Lib.hid (hS.to HE.out.1 HE.out.2)⟩
            case measure => simp [intOf]; omega
        · obtain ⟨t1, t2, rfl⟩ := of_at2 hl
          have he : (if kfB S K n t1.k t1.n t1.of.length = true then tyE S K n t2 true else 8) = r := by rw [← HW.out.e, ty_map hft]
          obtain ⟨Ab, Ao, As, rfl, c0, c1, c2, hin1⟩ := ty_first HW.out.tin
          obtain ⟨c3, c4, c5, hin2⟩ := ty_second HW.out.tin
          replace HFB := Lib.hid (show fmB 8 nm 2 false = true from hb)
          have hlt := World.block_lt_of_cell? w _ c0
          have hdp : dpT t2 < dpT (.mk 8 nm (some ⟨Ab, Ao, As⟩) c [t1, t2]) := dp_child (i := 1) rfl
          have HE := Lib.hid (And.intro he (And.intro hin2 (ty_size hin1)))
          have HC := Lib.hid (And.intro (And.intro c0 (And.intro c1 c2)) (And.intro c3 (And.intro c4 c5)))
          clear he hin1 hin2 c0 c1 c2 c3 c4 c5 hb hft hl h9
          cases hkf : kfB S K n t1.k t1.n t1.of.length with
          | false =>
            have hr : r = 8 := by rw [← HE.out.1, hkf]; rfl
            have HR := Lib.hid hr
            have HKF := Lib.hid hkf
            clear hr hkf
            cases b
            all_goals
              go_wp2_with (first
                | (go_at_call 138; refine (keys_any T n S K t1.k t1.n t1.o t1.of.length t1.c _ (HT.out.below hS.below) HE.out.2.2).mono ?_; rw [HKF.out]; rintro e w2 ⟨rfl, hb2⟩)
                | (go_at_call 137; refine (formed_any 8 nm (some ⟨Ab, Ao, As⟩) 2 c _).mono ?_; rw [HFB.out]; rintro e w1 ⟨rfl, hb1⟩; have hS := HW.out.step hb1; have g0 : w1.cell? ⟨w.heap.size, 0, none⟩ = some (.int .i64 8) := hS.box.cell (i := 0) rfl; have g2 : w1.cell? ⟨w.heap.size, 2, none⟩ = some (.slice (some ⟨Ab, Ao, As⟩) 2 c) := hS.box.cell (i := 2) rfl; have f0 := (hS.below.cell (p := ⟨Ab, Ao, As⟩) hlt).trans HC.out.1.1; have f1 := (hS.below.cell (p := ⟨Ab, Ao + 1, none⟩) hlt).trans HC.out.1.2.1; have f2 := (hS.below.cell (p := ⟨Ab, Ao + 2, none⟩) hlt).trans HC.out.1.2.2))
              go_ret
              exact ⟨by rw [HR.out]; rfl, (hS.step hb2).below⟩
          | true =>
            have hr : tyE S K n t2 true = r := by rw [← HE.out.1, hkf]; rfl
            have HR := Lib.hid hr
            have HKF := Lib.hid hkf
            clear hr hkf
            cases b
            all_goals
              go_wp2_with (first
                | (go_at_call 138; refine (keys_any T n S K t1.k t1.n t1.o t1.of.length t1.c _ (HT.out.below hS.below) HE.out.2.2).mono ?_; rw [HKF.out]; rintro e w2 ⟨rfl, hb2⟩; have hS2 := hS.step hb2; have u2 : w2.cell? ⟨w.heap.size, 2, none⟩ = some (.slice (some ⟨Ab, Ao, As⟩) 2 c) := hS2.box.cell (i := 2) rfl; have u1 := hS2.box.cell (i := 1) rfl; have u0 := hS2.box.cell (i := 0) rfl; have q0 := hS2.box.frozen (i := 0) rfl; have q1 := hS2.box.frozen (i := 1) rfl; have q2 := hS2.box.frozen (i := 2) rfl; have f3 := (hS2.below.cell (p := ⟨Ab, Ao + 3, none⟩) hlt).trans HC.out.2.1; have f4 := (hS2.below.cell (p := ⟨Ab, Ao + 4, none⟩) hlt).trans HC.out.2.2.1; have f5 := (hS2.below.cell (p := ⟨Ab, Ao + 5, none⟩) hlt).trans HC.out.2.2.2)
                | (go_at_call 137; refine (formed_any 8 nm (some ⟨Ab, Ao, As⟩) 2 c _).mono ?_; rw [HFB.out]; rintro e w1 ⟨rfl, hb1⟩; have hS := HW.out.step hb1; have g0 : w1.cell? ⟨w.heap.size, 0, none⟩ = some (.int .i64 8) := hS.box.cell (i := 0) rfl; have g2 : w1.cell? ⟨w.heap.size, 2, none⟩ = some (.slice (some ⟨Ab, Ao, As⟩) 2 c) := hS.box.cell (i := 2) rfl; have f0 := (hS.below.cell (p := ⟨Ab, Ao, As⟩) hlt).trans HC.out.1.1; have f1 := (hS.below.cell (p := ⟨Ab, Ao + 1, none⟩) hlt).trans HC.out.1.2.1; have f2 := (hS.below.cell (p := ⟨Ab, Ao + 2, none⟩) hlt).trans HC.out.1.2.2))
              go_roundw
              case rel => exact ⟨j + 1, t2, true, by omega, rfl, by go_num, Lib.hid (hS2.to HR.out HE.out.2.1)⟩
              case measure => simp [intOf]; omega
end Go.Proofs.YtdogddliifbjnaaGreat.Ck
