/- Feeds: the walk of FeedTells. -/
import Derived.Test.YthfogiogjmgodaaFdNone
import Derived.Test.YthfogiogjmgodaaFdAll
import Derived.Test.YthfogiogjmgodaaFdSame
import Derived.Test.YthfogiogjmgodaaFdMuch
namespace Go.Proofs.Ythfogiogjmgodaa.Fd
open Go.RowKit Fr Cm
set_option linter.unusedVariables false
set_option linter.unusedSimpArgs false

/-- The first texts, one behind the other. -/
def ctS (X : Nat → ByteArray) : Nat → ByteArray
  | 0 => ⟨#[]⟩
  | k + 1 => ctS X k ++ X k
theorem ctS_size (X : Nat → ByteArray) (k : Nat) : (ctS X k).size = smZ X k := by
  induction k with
  | zero => rfl
  | succ k ih => show (ctS X k ++ X k).size = smZ X k + _; rw [ByteArray.size_append, ih]
theorem muB_no (X : Nat → ByteArray) (n : Nat) (h : muB X n = false) : n ≤ 200 ∧ smZ X n ≤ 20000 := by
  have := of_decide_eq_false h
  omega

/-- What holds at a round's head: what was told of the first texts, what waits, what broke the feed. -/
structure Te (X : Nat → ByteArray) (H : Nat) (w : World) (k : Nat) (F : List Fm) (r : ByteArray) (bad : Nat) (v : Value) (w' : World) : Prop where
  tells : dnS (ctS X k) = (F, r, bad)
  feed : Fs H r bad w'
  row : Rf (H + 1) v F w'
  bel : Below H w w'
section
variable {X : Nat → ByteArray} {H : Nat} {w : World} {k : Nat} {F F' : List Fm} {r r' : ByteArray} {bad bad' : Nat} {v v2 : Value} {wr w1 w2 : World}
theorem Te.below (h : Te X H w k F r bad v w1) (hb : Below w1.heap.size w1 w2) : Te X H w k F r bad v w2 :=
  ⟨h.tells, Cs.below h.feed hb h.feed.lt, h.row.below hb, h.bel.trans (hb.mono (by have := h.feed.lt; omega))⟩
theorem Te.step (h : Te X H w k F r bad v wr) (hp : psS r bad (X k) = (F', r', bad')) (hF : Fs H r' bad' w1) (hO : Only H wr w1)
    (hR : Rw 39 3 (H + 1) v2 (F.length + F'.length) (fmC F ++ fmC F') w2) (hg : w1.grownBy w2 v.ownBlock) : Te X H w (k + 1) (F ++ F') r' bad' v2 w2 := by
  have hlt := h.feed.lt
  have hr1 := h.row.only hO (Nat.lt_succ_self H)
  have hs := hO.size
  refine ⟨dnS_step _ _ _ _ _ _ _ _ h.tells hp, Cs.besideRow hF hr1 (Nat.lt_succ_self H) hg, ?_, hr1.grew_to hg (h.bel.trans (hO.below (Nat.le_refl H) (by omega))) (Nat.le_succ H) (by omega)⟩
  show Rw _ 3 _ _ (F ++ F').length (fmC (F ++ F')) w2
  rw [List.length_append, fmC_app]
  exact hR
end

set_option maxRecDepth 100000 in
set_option maxHeartbeats 2000000 in
theorem tells_walk (o : Option Addr) (n cap : Nat) (X : Nat → ByteArray) (w : World) (hn : n ≤ maxLen) (h : Tx o n X w) :
    Calls Try.prog 3 #[.slice o n cap] w fun e w' => e = .returned (.bool true) ∧ Below w.heap.size w w' := by
  have HX : Hid (Tx o n X w) := h
  have HN := Lib.hid hn
  clear h hn
  have hB0 := Below.refl w.heap.size w
  cases hm : muB X n with
  | true =>
    have HM := Lib.hid hm
    clear hm
    go_enter Try.func3, Try.ntmps3
    go_wp2_with (first
      | (go_at_call 6; refine (much_yes o n cap X _ HN.out HX.out HM.out).mono ?_; rintro e w1 ⟨rfl, rfl⟩)
      | (go_at_call 7; refine (awake_any _).mono ?_; rintro e w4 ⟨rfl, hb4⟩; replace hB0 := hB0.trans hb4))
    go_ret
    exact ⟨rfl, hB0⟩
  | false =>
    have HM := Lib.hid hm
    obtain ⟨hn200, hsm⟩ := muB_no X n hm
    clear hm
    have HT0 : Hid (Te X w.heap.size w 0 [] ⟨#[]⟩ 0 (.slice none 0 0) (w.alloc (.cells #[.string ⟨#[]⟩, .int .i64 0] 36))) :=
      ⟨dnS_nil, fs_new w, Rf.nil _ _, (Below.refl _ _).alloc (Nat.le_refl _) _⟩
    clear hB0
    go_enter Try.func3, Try.ntmps3
    go_wp2_with (first
      | (go_at_call 6; refine (much_no o n cap X _ HN.out HX.out HM.out).mono ?_; rintro e w1 ⟨rfl, rfl⟩)
      | (go_at_call 8; refine (new_any _).mono ?_; rintro e w0 ⟨rfl, rfl⟩))
    go_loopw [4, 5, 6] (fun all got i wr => ∃ k F r bad v, k ≤ n ∧ i = .int .i64 (k : Nat) ∧ all = .string (ctS X k) ∧ v = got ∧ Hid (Te X w.heap.size w k F r bad v wr)) (fun _ _ i _ => n - (intOf i).toNat)
    case atStart => exact ⟨0, [], ⟨#[]⟩, 0, _, by omega, rfl, rfl, rfl, HT0⟩
    case round =>
      obtain ⟨k, F, r, bad, v, hk, rfl, rfl, rfl, HT⟩ := hrel
      clear HT0
      by_cases hlt : k < n
      · have hltI : (k : Int) < (n : Int) := by omega
        obtain ⟨a, rfl, hc, hz⟩ := HX.out.keep (m := 0) HT.out.bel k hlt
        have hsk := ctS_size X k
        have hsk1 := smZ_mono X (k + 1) n hlt
        have e1 : smZ X (k + 1) = smZ X k + (X k).size := rfl
        have hs1 : (ctS X k).size + (X k).size ≤ 20000 := by omega
        have hs2 : (ctS X (k + 1)).size ≤ 1099511627776 := by have := ctS_size X (k + 1); omega
        have HS2 := Lib.hid hs2
        have hs3 : (X k).size ≤ 1099511627776 := by omega
        have HS3 := Lib.hid hs3
        obtain ⟨F', r', bad', hp⟩ : ∃ F' r' bad', psS r bad (X k) = (F', r', bad') := ⟨_, _, _, rfl⟩
        have hd2 := dnS_step _ _ _ _ _ _ _ _ HT.out.tells hp
        have HD : Hid (dnS (ctS X (k + 1)) = (F ++ F', r', bad')) := hd2
        have hr := dnS_room _ _ _ _ HT.out.tells
        have hr' := dnS_room _ _ _ _ HD.out
        have hctz := ctS_size X (k + 1)
        have hrr : Hid (r.size ≤ 1028) := by show r.size ≤ 1028; omega
        have hrr' : Hid (r'.size ≤ maxLen) := by show r'.size ≤ maxLen; unfold maxLen; omega
        rw [List.length_append] at hr'
        have hbig : F.length + F'.length ≤ maxLen := by unfold maxLen; omega
        have hbytes : (F.length + F'.length) * 32 ≤ 140737488355328 := by omega
        have HP := Lib.hid hp
        have hct : ctS X k ++ X k = ctS X (k + 1) := rfl
        clear hd2 hp hr hr' hsk hsk1 e1 hs2 hs3 hctz
        have hcat : (ctS X k).size + (X k).size ≤ 9223372036854775807 := by omega
        go_wp2_with (first
          | (go_at_call 9; refine (push_any _ _ _ _ _ HT.out.feed hrr.out HS3.out _ _ _ HP.out).mono ?_; rintro e w1 ⟨v1, rfl, hR1, hF1, hO1⟩; have hz1 : w.heap.size + 1 ≤ w1.heap.size := by have := hF1.lt; omega)
          | (at_builtin; refine Rw.list rfl (.tmp 26) (.tmp 32) 27 rfl 39 3 (w.heap.size + 1) wr.heap.size 32 Try.underlying27 infoFrame (by decide) v v1 F.length F'.length (fmC F) (fmC F') rfl rfl (HT.out.row.only hO1 (Nat.lt_succ_self _)) hR1 (fmC_cells _) hbig hbytes hz1 ?_; intro v2 w2 hR2 hg2 hG2; have HT2 := Lib.hid (HT.out.step HP.out hF1 hO1 hR2 hg2); clear hR2 hg2 hG2 hR1 hF1 hO1)
          | (go_at_call 10; refine (all_any _ _ HS2.out _ _ _ HD.out).mono ?_; rintro e w3 ⟨v3, rfl, hR3, hb3⟩; have HT3 := Lib.hid (HT2.out.below hb3))
          | (go_at_call 11; refine (same_of _ _ _ _ (F ++ F') _ HT3.out.row hR3).mono ?_; rintro e w4 ⟨rfl, hb4⟩; have HT4 := Lib.hid (HT3.out.below hb4))
          | (go_at_call 12; refine (waits_any _ _ _ _ HT4.out.feed hrr'.out).mono ?_; rintro e w5 ⟨rfl, rfl⟩)
          | (go_at_call 13; refine (broken_any _ _ _ _ HT4.out.feed).mono ?_; rintro e w5 ⟨rfl, rfl⟩))
        go_roundw
        case rel => exact ⟨k + 1, F ++ F', r', bad', v2, by omega, by go_num, rfl, rfl, HT4⟩
        case measure => simp [intOf]; omega
      · have hltI : ¬ (k : Int) < (n : Int) := by omega
        go_wp2_with (go_at_call 7; refine (awake_any _).mono ?_; rintro e w4 ⟨rfl, hb4⟩; have hB4 := HT.out.bel.trans (hb4.mono HT.out.bel.size))
        go_ret
        exact ⟨rfl, hB4⟩
end Go.Proofs.Ythfogiogjmgodaa.Fd
