/- Feeds: the contract of the reference's All over the program. -/
import Derived.Test.YthfogiogjmgodaaFdOwn
import Derived.Test.YthfogiogjmgodaaFrRTake
namespace Go.Proofs.Ythfogiogjmgodaa.Fd
open Go.RowKit Fr Cm
set_option linter.unusedVariables false
set_option linter.unusedSimpArgs false

theorem rtk_good (l : ByteArray) (k f : Nat) (x : ByteArray) (n : Nat) (h : taS l = ((k, f, x), n, 0)) (w : World) (hs : l.size ≤ 281474976710656) :
    Calls Try.prog 16 #[.string l] w fun y w' => y = .returned (.tuple #[.agg #[.int .i64 k, .int .i64 f, .string x], .int .i64 (n - 4 : Nat), .int .i64 0]) ∧ Below w.heap.size w w' := by
  obtain ⟨k', f', m, e, hh⟩ : ∃ k f m e, heS l = (k, f, m, e) := ⟨_, _, _, _, rfl⟩
  by_cases he : e = 0
  · subst he
    by_cases hz : l.size < 4 + m
    · rw [taS_short l k' f' m hh hz] at h; simp at h
    · rw [taS_good l k' f' m hh hz] at h
      simp only [Prod.mk.injEq] at h
      obtain ⟨⟨rfl, rfl, rfl⟩, rfl, _⟩ := h
      rw [Nat.add_sub_cancel_left]
      exact (rtake_good l _ _ m hh hz w hs).mono fun _ _ h => ⟨h.1.trans rfl, h.2⟩
  · rw [taS_bad l k' f' m e hh he] at h
    simp only [Prod.mk.injEq] at h; omega
theorem rtk_bad (l : ByteArray) (x : Fm) (n e : Nat) (h : taS l = (x, n, e)) (h0 : e ≠ 0) (w : World) (hs : l.size ≤ 281474976710656) :
    ∃ z : Int, Calls Try.prog 16 #[.string l] w fun y w' => y = .returned (.tuple #[.agg #[.int .i64 0, .int .i64 0, .string ⟨#[]⟩], .int .i64 z, .int .i64 e]) ∧ Below w.heap.size w w' := by
  obtain ⟨k', f', m, e', hh⟩ : ∃ k f m e, heS l = (k, f, m, e) := ⟨_, _, _, _, rfl⟩
  by_cases he : e' = 0
  · subst he
    by_cases hz : l.size < 4 + m
    · rw [taS_short l k' f' m hh hz] at h
      simp only [Prod.mk.injEq] at h
      obtain ⟨_, _, rfl⟩ := h
      exact ⟨m, (rtake_short l k' f' m hh hz w hs).mono fun _ _ h => ⟨h.1.trans rfl, h.2⟩⟩
    · rw [taS_good l k' f' m hh hz] at h
      simp only [Prod.mk.injEq] at h; omega
  · rw [taS_bad l k' f' m e' hh he] at h
    simp only [Prod.mk.injEq] at h
    obtain ⟨_, _, rfl⟩ := h
    exact ⟨-1, (rtake_bad l k' f' m _ hh he w hs).mono fun _ _ h => ⟨h.1.trans rfl, h.2⟩⟩

/-- What holds at a round's head. -/
structure Al (s : ByteArray) (w : World) (T0 : List Fm) (r' : ByteArray) (bad' : Nat) (F : List Fm) (l : ByteArray) (v : Value) (w' : World) : Prop where
  tells : (F ++ (dnS l).1, (dnS l).2) = (T0, r', bad')
  room : F.length * 4 + l.size ≤ s.size
  row : Rf w.heap.size v F w'
  bel : Below w.heap.size w w'
section
variable {s : ByteArray} {w : World} {T0 : List Fm} {r' : ByteArray} {bad' : Nat} {F : List Fm} {l : ByteArray} {v v' : Value} {w1 w2 : World}
theorem Al.below (h : Al s w T0 r' bad' F l v w1) (hb : Below w1.heap.size w1 w2) : Al s w T0 r' bad' F l v w2 :=
  ⟨h.tells, h.room, h.row.below hb, h.bel.trans (hb.mono h.bel.size)⟩
theorem Al.alloc (h : Al s w T0 r' bad' F l v w1) (o : Obj) : Al s w T0 r' bad' F l v (w1.alloc o) := h.below ((Below.refl _ _).alloc (Nat.le_refl _) o)
theorem Al.step {k f n : Nat} {x : ByteArray} (h : Al s w T0 r' bad' F l v w1) (ht : taS l = ((k, f, x), n, 0))
    (hr : Rw 39 3 w.heap.size v' (F.length + 1) (fmC F ++ [.int .i64 (k : Nat), .int .i64 (f : Nat), .string x]) w2) (hg : w1.grownBy w2 v.ownBlock) : Al s w T0 r' bad' (F ++ [(k, f, x)]) (lf l n) v' w2 := by
  have g := taS_room l _ n ht
  refine ⟨?_, ?_, ?_, h.row.grew_to hg h.bel (Nat.le_refl _) h.bel.size⟩
  · have := h.tells
    rw [dnS_good l _ n ht] at this
    rw [← this]; simp
  · have := h.room
    rw [List.length_append, lf_size]
    simp; omega
  · show Rw _ 3 _ _ (F ++ [(k, f, x)]).length (fmC (F ++ [(k, f, x)])) w2
    rw [List.length_append, fmC_app]
    exact hr
end

set_option maxRecDepth 100000 in
set_option maxHeartbeats 2000000 in
theorem all_any (s : ByteArray) (w : World) (hs : s.size ≤ 1099511627776) (T0 : List Fm) (r' : ByteArray) (bad' : Nat) (hd : dnS s = (T0, r', bad')) :
    Calls Try.prog 10 #[.string s] w fun e w' => ∃ v, e = .returned (.tuple #[v, .string r', .int .i64 bad']) ∧ Rf w.heap.size v T0 w' ∧ Below w.heap.size w w' := by
  have HP0 : Hid (Al s w T0 r' bad' [] s (.slice none 0 0) w) := ⟨by rw [hd]; rfl, by simp, Rf.nil _ _, Below.refl _ _⟩
  clear hd
  go_enter Try.func10, Try.ntmps10
  go_wp2
  go_loopw [0, 5] (fun b u wr => ∃ F l v, b = .string l ∧ v = u ∧ Hid (Al s w T0 r' bad' F l v wr)) (fun b _ _ => szOf b)
  case atStart => exact ⟨[], s, _, rfl, rfl, HP0⟩
  case round =>
    obtain ⟨F, l, v, rfl, rfl, HP⟩ := hrel
    clear HP0
    have hroom := HP.out.room
    have hl : l.size ≤ 281474976710656 := by omega
    have hl2 : l.size ≤ 9223372036854775807 := by omega
    obtain ⟨k, f, x, n, e, ht⟩ : ∃ k f x n e, taS l = ((k, f, x), n, e) := ⟨_, _, _, _, _, rfl⟩
    by_cases he : e = 0
    · subst he
      have g := taS_room l _ n ht
      have HT := Lib.hid ht
      clear ht
      obtain ⟨m, rfl⟩ : ∃ m, n = 4 + m := ⟨n - 4, by omega⟩
      have hnI : (4 : Int) + (m : Int) ≤ (l.size : Int) := by omega
      have hq : ((4 : Int) + (m : Int)).toNat = 4 + m := by omega
      have hbig : F.length + 1 ≤ maxLen := by unfold maxLen; omega
      have hbytes : (F.length + 1) * 32 ≤ 140737488355328 := by omega
      have hlf : l.extract (4 + m) l.size = lf l (4 + m) := rfl
      go_wp2_with (first
        | (go_at_call 16; refine (rtk_good l _ _ _ _ HT.out _ hl).mono ?_; rw [Nat.add_sub_cancel_left]; rintro e w3 ⟨rfl, hb3⟩; have hP3 := HP.out.below hb3)
        | (at_builtin; refine Rw.list rfl (.tmp 23) (.tmp 25) 27 rfl 39 3 w.heap.size (w3.heap.size + 1) 32 Try.underlying27 infoFrame (by decide) v (.slice (some ⟨w3.heap.size + 1, 0, none⟩) 1 1) F.length 1 (fmC F) (fmC [(k, f, x)]) rfl rfl ((hP3.alloc _).alloc _).row (Rw.lit_at _ _ 3 _ (fmC [(k, f, x)]) rfl (by simp)) (fmC_cells _) hbig hbytes (by have := ((hP3.alloc (.cells #[.int .i64 (k : Nat), .int .i64 (f : Nat), .string x] 39)).alloc (.cells #[.int .i64 (k : Nat), .int .i64 (f : Nat), .string x] 39)).bel.size; simpa using this) ?_; intro v5 w5 hR5 hg5 hG5))
      go_roundw
      case rel => exact ⟨F ++ [(k, f, x)], lf l (4 + m), _, rfl, rfl, ((hP3.alloc _).alloc _).step HT.out hR5 hg5⟩
      case measure => show szOf (.string (lf l (4 + m))) < szOf (.string l); simp only [szOf, lf_size]; omega
    · have HT := Lib.hid ht
      by_cases he2 : e = 2
      · subst he2
        have htl := HP.out.tells
        rw [dnS_short l _ n ht] at htl
        simp only [List.append_nil, Prod.mk.injEq] at htl
        obtain ⟨rfl, rfl, rfl⟩ := htl
        obtain ⟨z, hz⟩ := rtk_bad l _ n 2 ht (by decide) wr hl
        have HZ := Lib.hid hz
        clear ht hz
        go_wp2_with (go_at_call 16; refine HZ.out.mono ?_; rintro e w3 ⟨rfl, hb3⟩; have hP3 := HP.out.below hb3)
        go_ret3
        exact ⟨v, rfl, (hP3.alloc _).row, (hP3.alloc _).bel⟩
      · have heI : ((e : Int) != 0) = true := by simpa using he
        have heI2 : ((e : Int) == 2) = false := by simpa using (by omega : ¬ (e : Int) = 2)
        have htl := HP.out.tells
        rw [dnS_bad l _ n e ht he he2] at htl
        simp only [List.append_nil, Prod.mk.injEq] at htl
        obtain ⟨rfl, rfl, rfl⟩ := htl
        obtain ⟨z, hz⟩ := rtk_bad l _ n e ht he wr hl
        have HZ := Lib.hid hz
        clear ht hz
        go_wp2_with (go_at_call 16; refine HZ.out.mono ?_; rintro e w3 ⟨rfl, hb3⟩; have hP3 := HP.out.below hb3)
        go_ret3
        exact ⟨v, rfl, (hP3.alloc _).row, (hP3.alloc _).bel⟩
end Go.Proofs.Ythfogiogjmgodaa.Fd
