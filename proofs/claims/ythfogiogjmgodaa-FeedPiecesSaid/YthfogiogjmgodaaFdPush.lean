/- Feeds: the contract of feed.Push over the program. -/
import Derived.Test.YthfogiogjmgodaaFdOwn
namespace Go.Proofs.Ythfogiogjmgodaa.Fd
open Go.RowKit Fr Cm
set_option linter.unusedVariables false
set_option linter.unusedSimpArgs false

/-- What holds at the label: what was told so far, and what is left. -/
structure Pu (B : Nat) (r b : ByteArray) (w : World) (T0 : List Fm) (r' : ByteArray) (bad' : Nat) (F : List Fm) (l : ByteArray) (v : Value) (w' : World) : Prop where
  tells : (F ++ (dnS l).1, (dnS l).2) = (T0, r', bad')
  room : F.length * 4 + l.size ≤ r.size + b.size
  feed : Fs B r 0 w'
  row : Rf w.heap.size v F w'
  only : Only B w w'
theorem Pu.below {B : Nat} {r b : ByteArray} {w : World} {T0 : List Fm} {r' : ByteArray} {bad' : Nat} {F : List Fm} {l : ByteArray} {v : Value} {w1 w2 : World} (h : Pu B r b w T0 r' bad' F l v w1) (hb : Below w1.heap.size w1 w2) : Pu B r b w T0 r' bad' F l v w2 :=
  ⟨h.tells, h.room, Cs.below h.feed hb h.feed.lt, h.row.below hb, h.only.after hb⟩
theorem Pu.alloc {B : Nat} {r b : ByteArray} {w : World} {T0 : List Fm} {r' : ByteArray} {bad' : Nat} {F : List Fm} {l : ByteArray} {v : Value} {w1 : World} (h : Pu B r b w T0 r' bad' F l v w1) (o : Obj) : Pu B r b w T0 r' bad' F l v (w1.alloc o) :=
  h.below ((Below.refl _ _).alloc (Nat.le_refl _) o)
theorem Pu.step {B : Nat} {r b : ByteArray} {w : World} {T0 : List Fm} {r' : ByteArray} {bad' : Nat} {F : List Fm} {l : ByteArray} {v v' : Value} {w1 w2 : World} {k f n : Nat} {x : ByteArray} (h : Pu B r b w T0 r' bad' F l v w1) (hB : B < w.heap.size) (ht : taS l = ((k, f, x), n, 0))
    (hr : Rw 39 3 w.heap.size v' (F.length + 1) (fmC F ++ [.int .i64 (k : Nat), .int .i64 (f : Nat), .string x]) w2) (hg : w1.grownBy w2 v.ownBlock) : Pu B r b w T0 r' bad' (F ++ [(k, f, x)]) (lf l n) v' w2 := by
  have g := taS_room l _ n ht
  refine ⟨?_, ?_, Cs.besideRow h.feed h.row hB hg, ?_, h.only.grown hg fun k hk => (h.row.block k hk).1⟩
  · have := h.tells
    rw [dnS_good l _ n ht] at this
    rw [← this]; simp
  · have := h.room
    rw [List.length_append, lf_size]
    simp; omega
  · show Rw _ 3 _ _ (F ++ [(k, f, x)]).length (fmC (F ++ [(k, f, x)])) w2
    rw [List.length_append, fmC_app]
    exact hr

set_option maxRecDepth 100000 in
set_option maxHeartbeats 2000000 in
theorem push_go (B : Nat) (r b : ByteArray) (w : World) (h : Fs B r 0 w) (hr : r.size ≤ 1028) (hb : b.size ≤ 1099511627776) (T0 : List Fm) (r' : ByteArray) (bad' : Nat) (hd : dnS (r ++ b) = (T0, r', bad')) :
    Calls Try.prog 9 #[.pointer (some ⟨B, 0, none⟩), .string b] w fun e w' => ∃ v, e = .returned v ∧ Rf w.heap.size v T0 w' ∧ Fs B r' bad' w' ∧ Only B w w' := by
  have HP0 : Hid (Pu B r b w T0 r' bad' [] (r ++ b) (.slice none 0 0) w) := ⟨by rw [hd]; rfl, by rw [ByteArray.size_append]; simp, h, Rf.nil _ _, Only.refl _ _⟩
  have hBw := h.lt
  obtain ⟨⟨c0, c1⟩, ⟨f0, f1⟩⟩ := h.two
  clear hd
  go_enter Try.func9, Try.ntmps9
  go_wp2
  refine scope_back 0 (fun a' w' => ∃ (F : List Fm) (l : ByteArray) (v : Value), (∃ u2 u3 u7 u8 u9 u10 u11 u12 u13 u14 u15 u16 u17 u18 u19 u20 u21 u22 u23 u24 u25 u26 u27 u28 u29 u30 u31 u32 u33 u34 u35 u36 u37 u38 u39 u40 u41 u42 u43 u44 : Value, a' = { tmps := #[.pointer (some ⟨B, 0, none⟩), .string b, u2, u3, .slice none 0 0, v, .string l, u7, u8, u9, u10, u11, u12, u13, u14, u15, u16, u17, u18, u19, u20, u21, u22, u23, u24, u25, u26, u27, u28, u29, u30, u31, u32, u33, u34, u35, u36, u37, u38, u39, u40, u41, u42, u43, u44], defers := [] }) ∧ Pu B r b w T0 r' bad' F l v w') (fun a' _ => szOf (a'.tmps.getD 6 undef)) rfl ?_ ?_
  · rintro a' w' ⟨F, l, v, ⟨u2, u3, u7, u8, u9, u10, u11, u12, u13, u14, u15, u16, u17, u18, u19, u20, u21, u22, u23, u24, u25, u26, u27, u28, u29, u30, u31, u32, u33, u34, u35, u36, u37, u38, u39, u40, u41, u42, u43, u44, rfl⟩, HP⟩
    replace HP := Lib.hid HP
    clear HP0 c0 c1 f0 f1
    have hroom := HP.out.room
    have hl : l.size ≤ 281474976710656 := by omega
    have hl2 : l.size ≤ 9223372036854775807 := by omega
    obtain ⟨k, f, x, n, e, ht⟩ : ∃ k f x n e, taS l = ((k, f, x), n, e) := ⟨_, _, _, _, _, rfl⟩
    by_cases he : e = 0
    · subst he
      have g := taS_room l _ n ht
      have HT := Lib.hid ht
      clear ht
      have hnI : (n : Int) ≤ (l.size : Int) := by omega
      have hbig : F.length + 1 ≤ maxLen := by unfold maxLen; omega
      have hbytes : (F.length + 1) * 32 ≤ 140737488355328 := by omega
      have hlf : l.extract n l.size = lf l n := rfl
      go_wp2_with (first
        | (go_at_call 14; refine (take_ret l _ _ _ _ _ HT.out _ hl).mono ?_; rintro e w3 ⟨rfl, hb3⟩; have hP3 := HP.out.below hb3)
        | (at_builtin; refine Rw.list rfl (.tmp 33) (.tmp 35) 27 rfl 39 3 w.heap.size (w3.heap.size + 1) 32 Try.underlying27 infoFrame (by decide) v (.slice (some ⟨w3.heap.size + 1, 0, none⟩) 1 1) F.length 1 (fmC F) (fmC [(k, f, x)]) rfl rfl ((hP3.alloc _).alloc _).row (Rw.lit_at _ _ 3 _ (fmC [(k, f, x)]) rfl (by simp)) (fmC_cells _) hbig hbytes (by have := ((hP3.alloc (.cells #[.int .i64 (k : Nat), .int .i64 (f : Nat), .string x] 39)).alloc (.cells #[.int .i64 (k : Nat), .int .i64 (f : Nat), .string x] 39)).only.size; simpa using this) ?_; intro v5 w5 hR5 hg5 hG5))
      go_step3
      refine ⟨rfl, ⟨F ++ [(k, f, x)], lf l n, v5, ⟨_, _, _, _, _, _, _, _, _, _, _, _, _, _, _, _, _, _, _, _, _, _, _, _, _, _, _, _, _, _, _, _, _, _, _, _, _, _, _, _, rfl⟩, ((hP3.alloc _).alloc _).step hBw HT.out hR5 hg5⟩, ?_⟩
      show szOf (.string (lf l n)) < szOf (.string l)
      simp only [szOf, lf_size]
      omega
    · have HT := Lib.hid ht
      have heI : ((e : Int) == 0) = false := by simpa using he
      by_cases he2 : e = 2
      · subst he2
        have htl := HP.out.tells
        rw [dnS_short l _ n ht] at htl
        simp only [List.append_nil, Prod.mk.injEq] at htl
        obtain ⟨rfl, rfl, rfl⟩ := htl
        clear ht
        go_wp2_with (first
          | (go_at_call 14; refine (take_ret l _ _ _ _ _ HT.out _ hl).mono ?_; rintro e w3 ⟨rfl, hb3⟩; have hP3 := HP.out.below hb3)
          | (go_at_call 15; refine (end_short B r l 0 _ (hP3.alloc _).feed hl).mono ?_; rintro e w4 ⟨rfl, hF4, hO4⟩))
        simp only [Exit.jump]
        go_ret
        exact ⟨v, rfl, (hP3.alloc _).row.only hO4 hBw, hF4, (hP3.alloc _).only.trans hO4⟩
      · have htl := HP.out.tells
        rw [dnS_bad l _ n e ht he he2] at htl
        simp only [List.append_nil, Prod.mk.injEq] at htl
        obtain ⟨rfl, rfl, rfl⟩ := htl
        clear ht
        go_wp2_with (first
          | (go_at_call 14; refine (take_ret l _ _ _ _ _ HT.out _ hl).mono ?_; rintro e w3 ⟨rfl, hb3⟩; have hP3 := HP.out.below hb3)
          | (go_at_call 15; refine (end_bad B r l 0 _ _ (hP3.alloc _).feed he2).mono ?_; rintro e w4 ⟨rfl, hF4, hO4⟩))
        simp only [Exit.jump]
        go_ret
        exact ⟨v, rfl, (hP3.alloc _).row.only hO4 hBw, hF4, (hP3.alloc _).only.trans hO4⟩
  · intro HR
    go_wp2
    go_step3
    rename_i hK
    refine hK _ _ (HR.out _ _ ⟨[], r ++ b, .slice none 0 0, ⟨_, _, _, _, _, _, _, _, _, _, _, _, _, _, _, _, _, _, _, _, _, _, _, _, _, _, _, _, _, _, _, _, _, _, _, _, _, _, _, _, rfl⟩, HP0.out⟩)

set_option maxRecDepth 100000 in
theorem push_nil (b : ByteArray) (w : World) :
    Calls Try.prog 9 #[.pointer none, .string b] w fun e w' => e = .returned (.slice none 0 0) ∧ w = w' := by
  go_enter Try.func9, Try.ntmps9
  go_wp2
  go_step3
  go_wp2
  rw [Exit.noGoto_ret]
  go_ret
  exact ⟨rfl, rfl⟩
set_option maxRecDepth 100000 in
theorem push_broken (B : Nat) (r b : ByteArray) (bad : Nat) (w : World) (h : Fs B r bad w) (hb : bad ≠ 0) :
    Calls Try.prog 9 #[.pointer (some ⟨B, 0, none⟩), .string b] w fun e w' => e = .returned (.slice none 0 0) ∧ w = w' := by
  obtain ⟨⟨c0, c1⟩, ⟨f0, f1⟩⟩ := h.two
  have hbI : ((bad : Int) != 0) = true := by simpa using hb
  go_enter Try.func9, Try.ntmps9
  go_wp2
  go_step3
  go_wp2
  rw [Exit.noGoto_ret]
  go_ret
  exact ⟨rfl, rfl⟩
/-- What a feed makes of bytes, whatever it is. -/
theorem push_any (B : Nat) (r b : ByteArray) (bad : Nat) (w : World) (h : Fs B r bad w) (hr : r.size ≤ 1028) (hb : b.size ≤ 1099511627776) (F : List Fm) (r' : ByteArray) (bad' : Nat) (hp : psS r bad b = (F, r', bad')) :
    Calls Try.prog 9 #[.pointer (some ⟨B, 0, none⟩), .string b] w fun e w' => ∃ v, e = .returned v ∧ Rf w.heap.size v F w' ∧ Fs B r' bad' w' ∧ Only B w w' := by
  unfold psS at hp
  by_cases h0 : bad = 0
  · subst h0
    rw [if_pos rfl] at hp
    exact push_go B r b w h hr hb F r' bad' hp
  · rw [if_neg h0] at hp
    simp only [Prod.mk.injEq] at hp
    obtain ⟨rfl, rfl, rfl⟩ := hp
    refine (push_broken B r b bad w h h0).mono ?_
    rintro e w' ⟨rfl, rfl⟩
    exact ⟨_, rfl, Rf.nil _ _, h, Only.refl _ _⟩
end Go.Proofs.Ythfogiogjmgodaa.Fd
