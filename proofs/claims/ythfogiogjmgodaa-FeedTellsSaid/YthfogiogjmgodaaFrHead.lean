/- Frames: the contract of frame.Head over the program. -/
import Derived.Test.YthfogiogjmgodaaFrBase
import Derived.Test.YthfogiogjmgodaaCm
import Derived.RegionTactic
import Derived.ChangeAlike
import Derived.Laws.IdiomCopy
import Derived.Laws.NewBlocks
namespace Go.Proofs.Ythfogiogjmgodaa.Fr
open Go.RowKit Cm
set_option linter.unusedVariables false
set_option linter.unusedSimpArgs false

/-- A text's byte at a place. -/
def bt (s : ByteArray) (i : Nat) : Nat := (s.data.toList.getD i 0).toNat
theorem bt_lt (s : ByteArray) (i : Nat) : bt s i < 256 := UInt8.toNat_lt _
theorem bt_at (s : ByteArray) (i : Nat) (h : i < s.size) : s[i].toNat = bt s i := by
  unfold bt
  have h2 : i < s.data.toList.length := by simpa using h
  rw [List.getD, List.getElem?_eq_getElem h2]
  rfl
theorem list4 (l : List UInt8) (h : 4 ≤ l.length) : ∃ a b c d r, l = a :: b :: c :: d :: r := by
  match l, h with
  | a :: b :: c :: d :: r, _ => exact ⟨a, b, c, d, r, rfl⟩

/-- The head with which bytes begin: kind, flags, length, error. -/
def heS (s : ByteArray) : Nat × Nat × Nat × Nat :=
  if s.size < 4 then (0, 0, 0, 2) else if bt s 0 < 1 ∨ 9 < bt s 0 then (0, 0, 0, 4) else if 1024 < bt s 2 * 256 + bt s 3 then (0, 0, 0, 3) else (bt s 0, bt s 1, bt s 2 * 256 + bt s 3, 0)
def heV (r : Nat × Nat × Nat × Nat) : Ending := .returned (.tuple #[.int .i64 r.1, .int .i64 r.2.1, .int .i64 r.2.2.1, .int .i64 r.2.2.2])
theorem heS_short (s : ByteArray) (h : s.size < 4) : heS s = (0, 0, 0, 2) := by unfold heS; rw [if_pos h]
theorem heS_kind (s : ByteArray) (h : ¬ s.size < 4) (h2 : bt s 0 < 1 ∨ 9 < bt s 0) : heS s = (0, 0, 0, 4) := by unfold heS; rw [if_neg h, if_pos h2]
theorem heS_long (s : ByteArray) (h : ¬ s.size < 4) (h2 : ¬ (bt s 0 < 1 ∨ 9 < bt s 0)) (h3 : 1024 < bt s 2 * 256 + bt s 3) : heS s = (0, 0, 0, 3) := by unfold heS; rw [if_neg h, if_neg h2, if_pos h3]
theorem heS_good (s : ByteArray) (h : ¬ s.size < 4) (h2 : ¬ (bt s 0 < 1 ∨ 9 < bt s 0)) (h3 : ¬ 1024 < bt s 2 * 256 + bt s 3) : heS s = (bt s 0, bt s 1, bt s 2 * 256 + bt s 3, 0) := by unfold heS; rw [if_neg h, if_neg h2, if_neg h3]

/-- 'copy(h[:], s)' of an array of four bytes of one's own, s no shorter. -/
theorem copy_four (s : ByteArray) (hs : ¬ s.size < 4) (w : World) (ty : TypeId) :
    (Builtin.copy_ #[48, 9] ty #[.slice (some ⟨w.heap.size, 0, none⟩) 4 4, .string s]).run Try.prog (w.alloc (.cells #[.int .u8 0, .int .u8 0, .int .u8 0, .int .u8 0] 47)) =
      .ok (goInt 4) (w.alloc (.cells #[.int .u8 (bt s 0 : Nat), .int .u8 (bt s 1 : Nat), .int .u8 (bt s 2 : Nat), .int .u8 (bt s 3 : Nat)] 47)) := by
  obtain ⟨a, b, c, d, r, hl⟩ := list4 s.data.toList (by have : s.data.toList.length = s.size := by simp
                                                        omega)
  have hmin : Nat.min s.size 4 = 4 := Nat.min_eq_right (by omega)
  have hz : ∀ w, (Go.sizeOf 5).run Try.prog w = .ok 1 w := Try.sizeOf5
  have b0 : bt s 0 = a.toNat := by unfold bt; rw [hl]; rfl
  have b1 : bt s 1 = b.toNat := by unfold bt; rw [hl]; rfl
  have b2 : bt s 2 = c.toNat := by unfold bt; rw [hl]; rfl
  have b3 : bt s 3 = d.toNat := by unfold bt; rw [hl]; rfl
  have hst := run_storeCells_cells (P := Try.prog) w.heap.size 0 [.int .u8 (a.toNat : Int), .int .u8 (b.toNat : Int), .int .u8 (c.toNat : Int), .int .u8 (d.toNat : Int)] 0 (w.alloc (.cells #[.int .u8 0, .int .u8 0, .int .u8 0, .int .u8 0] 47)) (fun j hj => by
      rw [World.cell?_alloc_at _ _ _ _ rfl]
      rcases (by simpa using hj : j < 4) with hj
      rcases (by omega : j = 0 ∨ j = 1 ∨ j = 2 ∨ j = 3) with rfl | rfl | rfl | rfl <;> rfl) (fun j hj => World.frozen?_alloc_at _ _ _ _ rfl) (fun v hv => by
      simp at hv
      rcases hv with rfl | rfl | rfl | rfl <;> rfl)
  simp [Builtin.copy_, run_underlying Try.underlying48, Builtin.lenOf, Builtin.firstCells, hz, hmin, hl]
  rw [hst, b0, b1, b2, b3]
  simp [World.setCells, World.setCell_alloc_at]

theorem or_low (h l : Nat) (hh : h < 256) (hl : l < 256) : bits BinOp.or IntKind.i64 ((h : Int) * 256) (l : Int) = (h : Int) * 256 + (l : Int) := by
  show IntKind.i64.wrap ((BitVec.ofInt 64 ((h : Int) * 256) ||| BitVec.ofInt 64 (l : Int)).toNat : Int) = _
  have e : (h : Int) * 256 = ((h * 256 : Nat) : Int) := by omega
  rw [e, BitVec.toNat_or, ofInt_u64 _ (by omega), ofInt_u64 _ (by omega), nat_join 8 (h * 256) l (Nat.mul_mod_left _ _) (by omega), IntWalk.i64_in _ (by omega)]
  omega

theorem heV_eq {k f n e : Int} {r : Nat × Nat × Nat × Nat} (h : k = r.1 ∧ f = r.2.1 ∧ n = r.2.2.1 ∧ e = r.2.2.2) : Ending.returned (.tuple #[.int .i64 k, .int .i64 f, .int .i64 n, .int .i64 e]) = heV r := by
  obtain ⟨rfl, rfl, rfl, rfl⟩ := h; rfl

set_option maxRecDepth 100000 in
set_option maxHeartbeats 1000000 in
theorem head_any (s : ByteArray) (w : World) (hs : s.size ≤ maxLen) :
    Calls Try.prog 17 #[.string s] w fun e w' => e = heV (heS s) ∧ Below w.heap.size w w' := by
  have hb0 := Below.refl w.heap.size w
  unfold maxLen at hs
  by_cases h4 : s.size < 4
  · rw [heS_short s h4]
    have h4' : (s.size : Int) < 4 := by omega
    go_enter Try.func17, Try.ntmps17
    go_wp2
    refine bodyPost_ret (res4 rfl _ _ _) rfl ?_
    exact ⟨rfl, hb0⟩
  · have h4' : ¬ (s.size : Int) < 4 := by omega
    have hcp := copy_four s h4 w 3
    obtain ⟨k, hk⟩ : ∃ k, bt s 0 = k := ⟨_, rfl⟩
    obtain ⟨f, hf⟩ : ∃ f, bt s 1 = f := ⟨_, rfl⟩
    obtain ⟨h, hh⟩ : ∃ h, bt s 2 = h := ⟨_, rfl⟩
    obtain ⟨l, hl⟩ : ∃ l, bt s 3 = l := ⟨_, rfl⟩
    have k256 := bt_lt s 0
    have f256 := bt_lt s 1
    have h256 := bt_lt s 2
    have l256 := bt_lt s 3
    rw [hk] at k256
    rw [hf] at f256
    rw [hh] at h256
    rw [hl] at l256
    rw [hk, hf, hh, hl] at hcp
    have hor := or_low h l h256 l256
    have hb1 := (hb0.alloc (Nat.le_refl _) (.cells #[.int .u8 (k : Nat), .int .u8 (f : Nat), .int .u8 (h : Nat), .int .u8 (l : Nat)] 47)).drew
    have HK := Lib.hid hk
    have HF := Lib.hid hf
    have HH := Lib.hid hh
    have HL := Lib.hid hl
    clear hk hf hh hl
    by_cases hkd : k < 1 ∨ 9 < k
    · rw [heS_kind s h4 (by rw [HK.out]; exact hkd)]
      have hkd' : (k : Int) < 1 ∨ 9 < (k : Int) := by omega
      go_enter Try.func17, Try.ntmps17
      go_wp2
      go_region
      go_wp2_with (go_at_call 19; refine (iskind_no _ _ hkd').mono ?_; rintro e w' ⟨rfl, rfl⟩)
      refine bodyPost_ret (res4 rfl _ _ _) rfl ?_
      exact ⟨rfl, hb1⟩
    · have k1 : 1 ≤ (k : Int) := by omega
      have k2 : (k : Int) ≤ 9 := by omega
      by_cases hn : 1024 < h * 256 + l
      · rw [heS_long s h4 (by rw [HK.out]; exact hkd) (by rw [HH.out, HL.out]; exact hn)]
        have hn' : 1024 < (h : Int) * 256 + (l : Int) := by omega
        go_enter Try.func17, Try.ntmps17
        go_wp2
        go_region
        go_wp2_with (go_at_call 19; refine (iskind_yes _ _ k1 k2).mono ?_; rintro e w' ⟨rfl, rfl⟩)
        refine bodyPost_ret (res4 rfl _ _ _) rfl ?_
        exact ⟨rfl, hb1⟩
      · rw [heS_good s h4 (by rw [HK.out]; exact hkd) (by rw [HH.out, HL.out]; exact hn)]
        have hn' : (h : Int) * 256 + (l : Int) ≤ 1024 := by omega
        go_enter Try.func17, Try.ntmps17
        go_wp2
        go_region
        go_wp2_with (go_at_call 19; refine (iskind_yes _ _ k1 k2).mono ?_; rintro e w' ⟨rfl, rfl⟩)
        go_region
        go_wp2
        refine bodyPost_ret (res4 rfl _ _ _) rfl ?_
        exact ⟨heV_eq ⟨by rw [HK.out], by rw [HF.out], by rw [HH.out, HL.out]; simp, rfl⟩, hb1.drew⟩
theorem head_ret (s : ByteArray) (k f n e : Nat) (h : heS s = (k, f, n, e)) (w : World) (hs : s.size ≤ maxLen) :
    Calls Try.prog 17 #[.string s] w fun x w' => x = .returned (.tuple #[.int .i64 k, .int .i64 f, .int .i64 n, .int .i64 e]) ∧ Below w.heap.size w w' :=
  (head_any s w hs).mono fun _ _ ⟨h1, h2⟩ => ⟨by rw [h1, h]; rfl, h2⟩
end Go.Proofs.Ythfogiogjmgodaa.Fr
