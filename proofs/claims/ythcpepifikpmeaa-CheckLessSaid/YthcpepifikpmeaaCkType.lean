/- check's formed, keys, wrongName. -/
import Derived.Test.YthcpepifikpmeaaTyGreat
import Derived.Test.YthcpepifikpmeaaNmRef
namespace Go.Proofs.Ythcpepifikpmeaa.Ck
open Go.RowKit Cm _root_.Go.Proofs.Ythcpepifikpmeaa.Nm
set_option linter.unusedVariables false
set_option linter.unusedSimpArgs false

theorem nm_empty {nm : ByteArray} (h : ¬ nm = ⟨#[]⟩) : (nm.toList == []) = false := by
  have := txt_neq h
  simpa using this
set_option maxRecDepth 100000 in
set_option maxHeartbeats 2000000 in
theorem formed_any (k : Int) (nm : ByteArray) (o : Option Addr) (l c : Nat) (w : World) :
    Calls Try.prog 33 #[.agg #[.int .i64 k, .string nm, .slice o l c]] w fun e w' => e = .returned (.bool (fmB k nm l false)) ∧ Below w.heap.size w w' := by
  have HB := Lib.hid ((Below.refl w.heap.size w).alloc (Nat.le_refl _) (.cells #[.int .i64 k, .string nm, .slice o l c] 38))
  have hf : fmB k nm l false = (decide (ofZ k = l) && (decide (k = 6) || decide (nm = ⟨#[]⟩))) := by unfold fmB; simp
  rw [hf]
  clear hf
  by_cases hk : k = 1 ∨ k = 2 ∨ k = 3 ∨ k = 4 ∨ k = 5
  · have hz : ofZ k = 0 := by unfold ofZ; rcases hk with rfl | rfl | rfl | rfl | rfl <;> rfl
    have h6 : decide (k = 6) = false := by rcases hk with rfl | rfl | rfl | rfl | rfl <;> rfl
    rw [hz, h6]
    clear hz h6
    by_cases hl : l = 0
    · subst hl
      by_cases hn : nm = ⟨#[]⟩
      · subst hn
        rcases hk with rfl | rfl | rfl | rfl | rfl
        all_goals
          go_enter Try.func33, Try.ntmps33
          go_wp2
          go_ret
          exact ⟨rfl, HB.out⟩
      · have hq := nm_empty hn
        rw [decide_eq_false hn]
        clear hn
        rcases hk with rfl | rfl | rfl | rfl | rfl
        all_goals
          go_enter Try.func33, Try.ntmps33
          go_wp2
          go_ret
          exact ⟨rfl, HB.out⟩
    · have hq : ((l : Int) == 0) = false := beq_eq_false_iff_ne.2 (by omega)
      rw [decide_eq_false (p := (0 : Int) = (l : Int)) (by omega)]
      clear hl
      rcases hk with rfl | rfl | rfl | rfl | rfl
      all_goals
        go_enter Try.func33, Try.ntmps33
        go_wp2
        go_ret
        exact ⟨rfl, HB.out⟩
  · by_cases h6 : k = 6
    · subst h6
      clear hk
      by_cases hl : l = 0
      · subst hl
        go_enter Try.func33, Try.ntmps33
        go_wp2
        go_ret
        exact ⟨rfl, HB.out⟩
      · have hq : ((l : Int) == 0) = false := beq_eq_false_iff_ne.2 (by omega)
        rw [show ofZ 6 = 0 from rfl, decide_eq_false (p := (0 : Int) = (l : Int)) (by omega)]
        clear hl
        go_enter Try.func33, Try.ntmps33
        go_wp2
        go_ret
        exact ⟨rfl, HB.out⟩
    · by_cases h79 : k = 7 ∨ k = 9
      · have hz : ofZ k = 1 := by unfold ofZ; rcases h79 with rfl | rfl <;> rfl
        rw [hz, decide_eq_false h6]
        clear hz h6 hk
        by_cases hl : l = 1
        · subst hl
          by_cases hn : nm = ⟨#[]⟩
          · subst hn
            rcases h79 with rfl | rfl
            all_goals
              go_enter Try.func33, Try.ntmps33
              go_wp2
              go_ret
              exact ⟨rfl, HB.out⟩
          · have hq := nm_empty hn
            rw [decide_eq_false hn]
            clear hn
            rcases h79 with rfl | rfl
            all_goals
              go_enter Try.func33, Try.ntmps33
              go_wp2
              go_ret
              exact ⟨rfl, HB.out⟩
        · have hq : ((l : Int) == 1) = false := beq_eq_false_iff_ne.2 (by omega)
          rw [decide_eq_false (p := (1 : Int) = (l : Int)) (by omega)]
          clear hl
          rcases h79 with rfl | rfl
          all_goals
            go_enter Try.func33, Try.ntmps33
            go_wp2
            go_ret
            exact ⟨rfl, HB.out⟩
      · by_cases h8 : k = 8
        · subst h8
          rw [show ofZ 8 = 2 from rfl, show decide ((8 : Int) = 6) = false from rfl]
          clear h6 h79 hk
          by_cases hl : l = 2
          · subst hl
            by_cases hn : nm = ⟨#[]⟩
            · subst hn
              go_enter Try.func33, Try.ntmps33
              go_wp2
              go_ret
              exact ⟨rfl, HB.out⟩
            · have hq := nm_empty hn
              rw [decide_eq_false hn]
              clear hn
              go_enter Try.func33, Try.ntmps33
              go_wp2
              go_ret
              exact ⟨rfl, HB.out⟩
          · have hq : ((l : Int) == 2) = false := beq_eq_false_iff_ne.2 (by omega)
            rw [decide_eq_false (p := (2 : Int) = (l : Int)) (by omega)]
            clear hl
            go_enter Try.func33, Try.ntmps33
            go_wp2
            go_ret
            exact ⟨rfl, HB.out⟩
        · have hz : ofZ k = -1 := by unfold ofZ; rw [if_neg h79, if_neg h8, if_pos (by omega)]
          rw [hz, decide_eq_false (p := (-1 : Int) = (l : Int)) (by omega)]
          have n1 : (k == 1) = false := beq_eq_false_iff_ne.2 (by omega)
          have n2 : (k == 2) = false := beq_eq_false_iff_ne.2 (by omega)
          have n3 : (k == 3) = false := beq_eq_false_iff_ne.2 (by omega)
          have n4 : (k == 4) = false := beq_eq_false_iff_ne.2 (by omega)
          have n5 : (k == 5) = false := beq_eq_false_iff_ne.2 (by omega)
          have n6 : (k == 6) = false := beq_eq_false_iff_ne.2 (by omega)
          have n7 : (k == 7) = false := beq_eq_false_iff_ne.2 (by omega)
          have n8 : (k == 8) = false := beq_eq_false_iff_ne.2 (by omega)
          have n9 : (k == 9) = false := beq_eq_false_iff_ne.2 (by omega)
          clear hz hk h6 h79 h8
          go_enter Try.func33, Try.ntmps33
          go_wp2
          go_ret
          exact ⟨rfl, HB.out⟩

/-- May a map's keys be of a type (and is it formed)? -/
def kfB (S : Nat → ByteArray) (K : Nat → Int) (n : Nat) (k : Int) (nm : ByteArray) (l : Nat) : Bool :=
  (decide (1 ≤ k ∧ k ≤ 4) && fmB k nm l false) || (decide (k = 6) && fmB k nm l false && decide (knS S K nm n = 3))
set_option maxRecDepth 100000 in
set_option maxHeartbeats 2000000 in
theorem keys_any (T n : Nat) (S : Nat → ByteArray) (K : Nat → Int) (k : Int) (nm : ByteArray) (o : Option Addr) (l c : Nat) (w : World) (h : Tb T n S K w) (hs : nm.size ≤ 140737488355327) :
    Calls Try.prog 34 #[.pointer (some ⟨T, 0, none⟩), .agg #[.int .i64 k, .string nm, .slice o l c]] w fun e w' => e = .returned (.bool (kfB S K n k nm l)) ∧ Below w.heap.size w w' := by
  have HB := Lib.hid ((Below.refl w.heap.size w).alloc (Nat.le_refl _) (.cells #[.int .i64 k, .string nm, .slice o l c] 38))
  have HC := Lib.hid (Cs.new w [.int .i64 k, .string nm, .slice o l c] 38)
  have HT := Lib.hid (h.alloc (.cells #[.int .i64 k, .string nm, .slice o l c] 38))
  clear h
  cases hb : fmB k nm l false with
  | false =>
    have hk0 : kfB S K n k nm l = false := by unfold kfB; rw [hb]; simp
    rw [hk0]
    clear hk0
    by_cases hk : k = 1 ∨ k = 2 ∨ k = 3 ∨ k = 4 ∨ k = 6
    · rcases hk with rfl | rfl | rfl | rfl | rfl
      all_goals
        go_enter Try.func34, Try.ntmps34
        go_wp2_with (go_at_call 33; refine (formed_any _ nm o l c _).mono ?_; rw [hb]; rintro e w1 ⟨rfl, hb1⟩)
        go_ret
        exact ⟨rfl, HB.out.trans (hb1.mono HB.out.size)⟩
    · have n1 : (k == 1) = false := beq_eq_false_iff_ne.2 (by omega)
      have n2 : (k == 2) = false := beq_eq_false_iff_ne.2 (by omega)
      have n3 : (k == 3) = false := beq_eq_false_iff_ne.2 (by omega)
      have n4 : (k == 4) = false := beq_eq_false_iff_ne.2 (by omega)
      have n6 : (k == 6) = false := beq_eq_false_iff_ne.2 (by omega)
      clear hk hb
      go_enter Try.func34, Try.ntmps34
      go_wp2
      go_ret
      exact ⟨rfl, HB.out⟩
  | true =>
    by_cases hk : k = 1 ∨ k = 2 ∨ k = 3 ∨ k = 4
    · have hk0 : kfB S K n k nm l = true := by unfold kfB; rw [hb, decide_eq_true (show 1 ≤ k ∧ k ≤ 4 by omega)]; rfl
      rw [hk0]
      clear hk0
      rcases hk with rfl | rfl | rfl | rfl
      all_goals
        go_enter Try.func34, Try.ntmps34
        go_wp2_with (go_at_call 33; refine (formed_any _ nm o l c _).mono ?_; rw [hb]; rintro e w1 ⟨rfl, hb1⟩)
        go_ret
        exact ⟨rfl, HB.out.trans (hb1.mono HB.out.size)⟩
    · by_cases h6 : k = 6
      · subst h6
        have hk0 : kfB S K n 6 nm l = decide (knS S K nm n = 3) := by unfold kfB; rw [hb]; simp
        rw [hk0]
        clear hk0 hk
        by_cases h3 : knS S K nm n = 3
        · rw [decide_eq_true h3]
          have H3 := Lib.hid h3
          clear h3
          go_enter Try.func34, Try.ntmps34
          go_wp2_with (first
            | (go_at_call 36; refine (kind_any T n S K nm _ (HT.out.below hb1) hs).mono ?_; rw [H3.out]; rintro e w2 ⟨rfl, hb2⟩)
            | (go_at_call 33; refine (formed_any _ nm o l c _).mono ?_; rw [hb]; rintro e w1 ⟨rfl, hb1⟩; have d1 := (HC.out.below hb1 HC.out.lt).cell (i := 1) rfl))
          go_ret
          exact ⟨rfl, (HB.out.trans (hb1.mono HB.out.size)).trans (hb2.mono (HB.out.trans (hb1.mono HB.out.size)).size)⟩
        · rw [decide_eq_false h3]
          have hq : (knS S K nm n == 3) = false := beq_eq_false_iff_ne.2 h3
          clear h3
          go_enter Try.func34, Try.ntmps34
          go_wp2_with (first
            | (go_at_call 36; refine (kind_any T n S K nm _ (HT.out.below hb1) hs).mono ?_; rintro e w2 ⟨rfl, hb2⟩)
            | (go_at_call 33; refine (formed_any _ nm o l c _).mono ?_; rw [hb]; rintro e w1 ⟨rfl, hb1⟩; have d1 := (HC.out.below hb1 HC.out.lt).cell (i := 1) rfl))
          go_ret
          exact ⟨rfl, (HB.out.trans (hb1.mono HB.out.size)).trans (hb2.mono (HB.out.trans (hb1.mono HB.out.size)).size)⟩
      · have hk0 : kfB S K n k nm l = false := by unfold kfB; rw [decide_eq_false (show ¬ (1 ≤ k ∧ k ≤ 4) by omega), decide_eq_false h6]; rfl
        rw [hk0]
        have n1 : (k == 1) = false := beq_eq_false_iff_ne.2 (by omega)
        have n2 : (k == 2) = false := beq_eq_false_iff_ne.2 (by omega)
        have n3 : (k == 3) = false := beq_eq_false_iff_ne.2 (by omega)
        have n4 : (k == 4) = false := beq_eq_false_iff_ne.2 (by omega)
        have n6 : (k == 6) = false := beq_eq_false_iff_ne.2 (by omega)
        clear hk hb h6 hk0
        go_enter Try.func34, Try.ntmps34
        go_wp2
        go_ret
        exact ⟨rfl, HB.out⟩

/-- Why a name may not stand where one of a declaration of these kinds must. -/
def wnE (S : Nat → ByteArray) (K : Nat → Int) (n : Nat) (s : ByteArray) (zs : List Int) : Nat := match fiS S s n with
  | none => 6
  | some i => if zs.contains (K i) then 0 else 8
theorem wn_type (S : Nat → ByteArray) (K : Nat → Int) (n : Nat) (s : ByteArray) : wnE S K n s [1, 2, 3] = nmE S K n s := by
  unfold wnE nmE
  cases fiS S s n with
  | none => rfl
  | some i =>
    show (if [1, 2, 3].contains (K i) = true then 0 else 8) = if K i < 1 ∨ 3 < K i then 8 else 0
    by_cases h : K i < 1 ∨ 3 < K i
    · rw [if_pos h, if_neg]
      simp only [List.contains_cons, List.contains_nil, Bool.or_false, Bool.or_eq_true, beq_iff_eq]; omega
    · rw [if_neg h, if_pos]
      simp only [List.contains_cons, List.contains_nil, Bool.or_false, Bool.or_eq_true, beq_iff_eq]; omega
theorem wn_struct (S : Nat → ByteArray) (K : Nat → Int) (n : Nat) (s : ByteArray) : wnE S K n s [1] = stE S K n s := by
  unfold wnE stE
  cases fiS S s n with
  | none => rfl
  | some i =>
    show (if [1].contains (K i) = true then 0 else 8) = if K i = 1 then 0 else 8
    by_cases h : K i = 1
    · rw [if_pos h, if_pos]; simp [h]
    · rw [if_neg h, if_neg]; simp [h]
set_option maxRecDepth 100000 in
set_option maxHeartbeats 2000000 in
theorem wname_any (T n g c : Nat) (S : Nat → ByteArray) (K : Nat → Int) (s : ByteArray) (zs : List Int) (w : World) (h : Tb T n S K w) (hs : s.size ≤ 140737488355327) (hz : zs.length ≤ 100) (hg : g < w.heap.size) (hc : ∀ j, j < zs.length → w.cell? ⟨g, j, none⟩ = some (.int .i64 (zs.getD j 0))) :
    Calls Try.prog 32 #[.pointer (some ⟨T, 0, none⟩), .string s, .slice (some ⟨g, 0, none⟩) zs.length c] w fun e w' => e = .returned (.int .i64 (wnE S K n s zs : Nat)) ∧ Below w.heap.size w w' := by
  have HT := Lib.hid h
  have HC := Lib.hid hc
  clear h hc
  cases hf : fiS S s n with
  | none =>
    have hi := isS_none hf
    have he : wnE S K n s zs = 6 := by unfold wnE; rw [hf]
    rw [he]
    clear hf he
    go_enter Try.func32, Try.ntmps32
    go_wp2_with (go_at_call 19; refine (find_any T n S K s _ HT.out hs).mono ?_; rw [hi]; rintro e w1 ⟨rfl, hb1⟩)
    go_ret
    exact ⟨rfl, hb1⟩
  | some i =>
    have hi := isS_some hf
    have hk := knS_some (K := K) hf
    have he : wnE S K n s zs = if zs.contains (K i) then 0 else 8 := by unfold wnE; rw [hf]
    rw [he]
    clear hf he
    cases hb : zs.contains (K i) with
    | true =>
      go_enter Try.func32, Try.ntmps32
      go_wp2_with (first
        | (go_at_call 35; refine (Try.slices_Contains_int g 0 zs.length c zs (K i) _ (Nat.le_refl _) (by omega) (fun j hj => by rw [Nat.zero_add]; exact (hb2.cell (p := ⟨g, j, none⟩) (Nat.lt_of_lt_of_le hg hb1.size)).trans ((hb1.cell (p := ⟨g, j, none⟩) hg).trans (HC.out j hj)))).mono ?_; rw [List.take_length, hb]; rintro e w3 ⟨rfl, rfl⟩)
        | (go_at_call 36; refine (kind_any T n S K s _ (HT.out.below hb1) hs).mono ?_; rw [hk]; rintro e w2 ⟨rfl, hb2⟩)
        | (go_at_call 19; refine (find_any T n S K s _ HT.out hs).mono ?_; rw [hi]; rintro e w1 ⟨rfl, hb1⟩))
      go_ret
      exact ⟨rfl, hb1.trans (hb2.mono hb1.size)⟩
    | false =>
      go_enter Try.func32, Try.ntmps32
      go_wp2_with (first
        | (go_at_call 35; refine (Try.slices_Contains_int g 0 zs.length c zs (K i) _ (Nat.le_refl _) (by omega) (fun j hj => by rw [Nat.zero_add]; exact (hb2.cell (p := ⟨g, j, none⟩) (Nat.lt_of_lt_of_le hg hb1.size)).trans ((hb1.cell (p := ⟨g, j, none⟩) hg).trans (HC.out j hj)))).mono ?_; rw [List.take_length, hb]; rintro e w3 ⟨rfl, rfl⟩)
        | (go_at_call 36; refine (kind_any T n S K s _ (HT.out.below hb1) hs).mono ?_; rw [hk]; rintro e w2 ⟨rfl, hb2⟩)
        | (go_at_call 19; refine (find_any T n S K s _ HT.out hs).mono ?_; rw [hi]; rintro e w1 ⟨rfl, hb1⟩))
      go_ret
      exact ⟨rfl, hb1.trans (hb2.mono hb1.size)⟩
end Go.Proofs.Ythcpepifikpmeaa.Ck
