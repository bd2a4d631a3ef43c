/- Schemas: slices.BinarySearchFunc over fields whose tags rise. (By gen/bin.py.) -/
import Derived.Deep.LoopGhost
import Derived.Lib.Walk
import Derived.Deep.Draws
import Derived.Shelf.RegionOpenPlain
import Derived.Lib.SlicesSearch
import Derived.Test.YtdogddliifbjnaaGreatMg11
namespace Go.Proofs.YtdogddliifbjnaaGreat.Ck
open Go.RowKit Cm
open _root_.Go.Proofs.YtdogddliifbjnaaGreat.Nm
set_option linter.unusedVariables false
set_option linter.unusedSimpArgs false

set_option maxRecDepth 100000 in
set_option maxHeartbeats 1000000 in
theorem rowcmp_any (x : Fz) (t r : Int) (w : World) (hr : Lib.compareInt x.T t = r) :
    Calls Tryz.prog 38 #[.agg #[.int .i64 x.T, .string x.N, .int .i64 x.Y.k, .string x.Y.n, .slice x.Y.o x.Y.of.length x.Y.c], .int .i64 t] w fun e w' => e = .returned (.int .i64 r) ∧ Below w.heap.size w w' := by
  have hcon := fun w => Tryz.cmp_Compare_int x.T t w
  rw [hr] at hcon
  clear hr
  go_enter Tryz.func38, Tryz.ntmps38
  go_wp2_with (go_at_call 39; refine (hcon _).mono ?_; rintro e w2 ⟨rfl, rfl⟩)
  go_ret
  exact ⟨rfl, (Below.refl w.heap.size w).alloc (Nat.le_refl _) _⟩
set_option maxRecDepth 1000000 in
set_option maxHeartbeats 4000000 in
theorem rowsearch_any (o : Option Addr) (n c : Nat) (U : Nat → Fz) (t : Int) (w : World) (h : Fls o n U w) (hs : ∀ i j, i < j → j < n → (U i).T ≤ (U j).T) :
    Calls Tryz.prog 37 #[.slice o n c, .int .i64 t, .func (.func 38) #[] #[]] w fun e w' =>
      ∃ (i : Nat) (b : Bool), e = .returned (.tuple #[.int .i64 i, .bool b]) ∧ (b = true → i < n ∧ (U i).T = t) ∧ (b = false → ∀ k, k < n → (U k).T ≠ t) ∧ Below w.heap.size w w' := by
  have hn := h.2.1
  have hn2 : n ≤ 9223372036854775807 := by omega
  have HH := Lib.hid h
  have HS := Lib.hid hs
  clear h hs
  go_enter Tryz.func37, Tryz.ntmps37
  go_wp2
  go_loopg [9, 10] n (fun kx s9 s10 wr => ∃ lo hi : Nat, s9 = .int .i64 lo ∧ s10 = .int .i64 hi ∧ lo ≤ hi ∧ hi ≤ n ∧ hi - lo ≤ kx ∧ Hid (Below w.heap.size w wr) ∧
    Hid ((∀ k, k < lo → (U k).T < t) ∧ (∀ k, hi ≤ k → k < n → t ≤ (U k).T)))
  case atStart => exact ⟨0, n, rfl, rfl, Nat.zero_le _, Nat.le_refl _, by omega, Below.refl _ _, ⟨fun k hk => absurd hk (Nat.not_lt_zero _), fun k h1 h2 => by omega⟩⟩
  case round =>
    obtain ⟨lo, hi, rfl, rfl, hlh, hin, hg, HB, I⟩ := hrel
    have hsz := HB.out.size
    by_cases hlt : lo < hi
    · have hml : (lo + hi) / 2 < n := by omega
      obtain ⟨a, Ab, Ao, As, rfl, hA, hAb, c0, c1, c2, c3, c4⟩ := ex_five (v0 := .int .i64 (U ((lo + hi) / 2)).T) (v1 := .string (U ((lo + hi) / 2)).N) (v2 := .int .i64 (U ((lo + hi) / 2)).Y.k) (v3 := .string (U ((lo + hi) / 2)).Y.n) (v4 := .slice (U ((lo + hi) / 2)).Y.o (U ((lo + hi) / 2)).Y.of.length (U ((lo + hi) / 2)).Y.c) (HH.out.below HB.out).1 hml rfl
      have HM := Lib.hid hml
      clear hml
      by_cases hyx : (U ((lo + hi) / 2)).T < t
      · have HR := Lib.hid (show Lib.compareInt (U ((lo + hi) / 2)).T t = -1 by unfold Lib.compareInt; rw [if_pos hyx])
        have HY := Lib.hid hyx
        clear hyx
        go_wp2_with (go_at_call 38; go_loud (refine (rowcmp_any (U ((lo + hi) / 2)) t (-1) _ HR.out).mono ?_; rintro e w2 ⟨rfl, hb2⟩))
        go_roundg (hi - ((lo + hi) / 2 + 1))
        case measure => omega
        case rel => exact ⟨(lo + hi) / 2 + 1, hi, by rw [show ((lo : Int) + (hi : Int)) / 2 + 1 = (((lo + hi) / 2 + 1 : Nat) : Int) by omega], rfl, by omega, hin, Nat.le_refl _, HB.out.trans (hb2.mono hsz), ⟨fun k hk => by
          rcases Nat.lt_or_ge k ((lo + hi) / 2) with h1 | h1
          · exact Int.lt_of_le_of_lt (HS.out k ((lo + hi) / 2) h1 HM.out) HY.out
          · obtain rfl : k = (lo + hi) / 2 := by omega
            exact HY.out, I.out.2⟩⟩
      · obtain ⟨r, hr, hr0⟩ : ∃ r : Int, Lib.compareInt (U ((lo + hi) / 2)).T t = r ∧ ¬ r < 0 := ⟨_, rfl, by unfold Lib.compareInt; rw [if_neg hyx]; split <;> omega⟩
        have HR := Lib.hid hr
        have HY := Lib.hid hyx
        clear hyx hr
        go_wp2_with (go_at_call 38; go_loud (refine (rowcmp_any (U ((lo + hi) / 2)) t r _ HR.out).mono ?_; rintro e w2 ⟨rfl, hb2⟩))
        go_roundg ((lo + hi) / 2 - lo)
        case measure => omega
        case rel => exact ⟨lo, (lo + hi) / 2, rfl, by rw [show ((lo : Int) + (hi : Int)) / 2 = (((lo + hi) / 2 : Nat) : Int) by omega], by omega, by omega, Nat.le_refl _, HB.out.trans (hb2.mono hsz), ⟨I.out.1, fun k h1 h2 => by
          rcases Nat.lt_or_ge ((lo + hi) / 2) k with h3 | h3
          · have := HS.out ((lo + hi) / 2) k h3 h2; have := HY.out; omega
          · obtain rfl : k = (lo + hi) / 2 := by omega
            have := HY.out; omega⟩⟩
    · obtain rfl : hi = lo := by omega
      by_cases hl : hi < n
      · have hli : (hi : Int) < (n : Int) := by omega
        obtain ⟨a, Ab, Ao, As, rfl, hA, hAb, c0, c1, c2, c3, c4⟩ := ex_five (v0 := .int .i64 (U hi).T) (v1 := .string (U hi).N) (v2 := .int .i64 (U hi).Y.k) (v3 := .string (U hi).Y.n) (v4 := .slice (U hi).Y.o (U hi).Y.of.length (U hi).Y.c) (HH.out.below HB.out).1 hl rfl
        by_cases he : (U hi).T = t
        · have HR := Lib.hid (show Lib.compareInt (U hi).T t = 0 by unfold Lib.compareInt; rw [if_neg (by omega), if_neg (by omega)])
          have HE := Lib.hid he
          clear he
          go_wp2_with (go_at_call 38; go_loud (refine (rowcmp_any (U hi) t 0 _ HR.out).mono ?_; rintro e w2 ⟨rfl, hb2⟩))
          go_ret2
          exact ⟨_, true, rfl, fun _ => ⟨hl, HE.out⟩, (fun h => by cases h), HB.out.trans (hb2.mono hsz)⟩
        · have hgt : t < (U hi).T := by have := I.out.2 hi (Nat.le_refl _) hl; omega
          have HR := Lib.hid (show Lib.compareInt (U hi).T t = 1 by unfold Lib.compareInt; rw [if_neg (by omega), if_pos hgt])
          have HF : Hid (∀ k, k < n → (U k).T ≠ t) := Lib.hid (fun k hk => by
            rcases Nat.lt_trichotomy k hi with h1 | h1 | h1
            · have := I.out.1 k h1; omega
            · subst h1; omega
            · have := HS.out hi k h1 hk; omega)
          clear he hgt
          go_wp2_with (go_at_call 38; go_loud (refine (rowcmp_any (U hi) t 1 _ HR.out).mono ?_; rintro e w2 ⟨rfl, hb2⟩))
          go_ret2
          exact ⟨_, false, rfl, (fun h => by cases h), fun _ => HF.out, HB.out.trans (hb2.mono hsz)⟩
      · have hli : ¬ (hi : Int) < (n : Int) := by omega
        have HF : Hid (∀ k, k < n → (U k).T ≠ t) := Lib.hid (fun k hk => by have := I.out.1 k (by omega); omega)
        go_wp2
        go_ret2
        first | exact ⟨_, .inl ⟨rfl, HF.out, HB.out⟩⟩ | exact ⟨_, false, rfl, (fun h => by cases h), fun _ => HF.out, HB.out⟩

set_option maxRecDepth 100000 in
set_option maxHeartbeats 1000000 in
theorem itmcmp_any (x : Fz) (t r : Int) (w : World) (hr : Lib.compareInt x.T t = r) :
    Calls Tryz.prog 114 #[.agg #[.int .i64 x.T, .string x.N, .int .i64 x.Y.k, .string x.Y.n, .slice x.Y.o x.Y.of.length x.Y.c], .int .i64 t] w fun e w' => e = .returned (.int .i64 r) ∧ Below w.heap.size w w' := by
  have hcon := fun w => Tryz.cmp_Compare_int x.T t w
  rw [hr] at hcon
  clear hr
  go_enter Tryz.func114, Tryz.ntmps114
  go_wp2_with (go_at_call 39; refine (hcon _).mono ?_; rintro e w2 ⟨rfl, rfl⟩)
  go_ret
  exact ⟨rfl, (Below.refl w.heap.size w).alloc (Nat.le_refl _) _⟩
set_option maxRecDepth 1000000 in
set_option maxHeartbeats 4000000 in
theorem itmsearch_any (o : Option Addr) (n c : Nat) (U : Nat → Fz) (t : Int) (w : World) (h : Fls o n U w) (hs : ∀ i j, i < j → j < n → (U i).T ≤ (U j).T) :
    Calls Tryz.prog 37 #[.slice o n c, .int .i64 t, .func (.func 114) #[] #[]] w fun e w' =>
      ∃ (i : Nat) (b : Bool), e = .returned (.tuple #[.int .i64 i, .bool b]) ∧ (b = true → i < n ∧ (U i).T = t) ∧ (b = false → ∀ k, k < n → (U k).T ≠ t) ∧ Below w.heap.size w w' := by
  have hn := h.2.1
  have hn2 : n ≤ 9223372036854775807 := by omega
  have HH := Lib.hid h
  have HS := Lib.hid hs
  clear h hs
  go_enter Tryz.func37, Tryz.ntmps37
  go_wp2
  go_loopg [9, 10] n (fun kx s9 s10 wr => ∃ lo hi : Nat, s9 = .int .i64 lo ∧ s10 = .int .i64 hi ∧ lo ≤ hi ∧ hi ≤ n ∧ hi - lo ≤ kx ∧ Hid (Below w.heap.size w wr) ∧
    Hid ((∀ k, k < lo → (U k).T < t) ∧ (∀ k, hi ≤ k → k < n → t ≤ (U k).T)))
  case atStart => exact ⟨0, n, rfl, rfl, Nat.zero_le _, Nat.le_refl _, by omega, Below.refl _ _, ⟨fun k hk => absurd hk (Nat.not_lt_zero _), fun k h1 h2 => by omega⟩⟩
  case round =>
    obtain ⟨lo, hi, rfl, rfl, hlh, hin, hg, HB, I⟩ := hrel
    have hsz := HB.out.size
    by_cases hlt : lo < hi
    · have hml : (lo + hi) / 2 < n := by omega
      obtain ⟨a, Ab, Ao, As, rfl, hA, hAb, c0, c1, c2, c3, c4⟩ := ex_five (v0 := .int .i64 (U ((lo + hi) / 2)).T) (v1 := .string (U ((lo + hi) / 2)).N) (v2 := .int .i64 (U ((lo + hi) / 2)).Y.k) (v3 := .string (U ((lo + hi) / 2)).Y.n) (v4 := .slice (U ((lo + hi) / 2)).Y.o (U ((lo + hi) / 2)).Y.of.length (U ((lo + hi) / 2)).Y.c) (HH.out.below HB.out).1 hml rfl
      have HM := Lib.hid hml
      clear hml
      by_cases hyx : (U ((lo + hi) / 2)).T < t
      · have HR := Lib.hid (show Lib.compareInt (U ((lo + hi) / 2)).T t = -1 by unfold Lib.compareInt; rw [if_pos hyx])
        have HY := Lib.hid hyx
        clear hyx
        go_wp2_with (go_at_call 114; go_loud (refine (itmcmp_any (U ((lo + hi) / 2)) t (-1) _ HR.out).mono ?_; rintro e w2 ⟨rfl, hb2⟩))
        go_roundg (hi - ((lo + hi) / 2 + 1))
        case measure => omega
        case rel => exact ⟨(lo + hi) / 2 + 1, hi, by rw [show ((lo : Int) + (hi : Int)) / 2 + 1 = (((lo + hi) / 2 + 1 : Nat) : Int) by omega], rfl, by omega, hin, Nat.le_refl _, HB.out.trans (hb2.mono hsz), ⟨fun k hk => by
          rcases Nat.lt_or_ge k ((lo + hi) / 2) with h1 | h1
          · exact Int.lt_of_le_of_lt (HS.out k ((lo + hi) / 2) h1 HM.out) HY.out
          · obtain rfl : k = (lo + hi) / 2 := by omega
            exact HY.out, I.out.2⟩⟩
      · obtain ⟨r, hr, hr0⟩ : ∃ r : Int, Lib.compareInt (U ((lo + hi) / 2)).T t = r ∧ ¬ r < 0 := ⟨_, rfl, by unfold Lib.compareInt; rw [if_neg hyx]; split <;> omega⟩
        have HR := Lib.hid hr
        have HY := Lib.hid hyx
        clear hyx hr
        go_wp2_with (go_at_call 114; go_loud (refine (itmcmp_any (U ((lo + hi) / 2)) t r _ HR.out).mono ?_; rintro e w2 ⟨rfl, hb2⟩))
        go_roundg ((lo + hi) / 2 - lo)
        case measure => omega
        case rel => exact ⟨lo, (lo + hi) / 2, rfl, by rw [show ((lo : Int) + (hi : Int)) / 2 = (((lo + hi) / 2 : Nat) : Int) by omega], by omega, by omega, Nat.le_refl _, HB.out.trans (hb2.mono hsz), ⟨I.out.1, fun k h1 h2 => by
          rcases Nat.lt_or_ge ((lo + hi) / 2) k with h3 | h3
          · have := HS.out ((lo + hi) / 2) k h3 h2; have := HY.out; omega
          · obtain rfl : k = (lo + hi) / 2 := by omega
            have := HY.out; omega⟩⟩
    · obtain rfl : hi = lo := by omega
      by_cases hl : hi < n
      · have hli : (hi : Int) < (n : Int) := by omega
        obtain ⟨a, Ab, Ao, As, rfl, hA, hAb, c0, c1, c2, c3, c4⟩ := ex_five (v0 := .int .i64 (U hi).T) (v1 := .string (U hi).N) (v2 := .int .i64 (U hi).Y.k) (v3 := .string (U hi).Y.n) (v4 := .slice (U hi).Y.o (U hi).Y.of.length (U hi).Y.c) (HH.out.below HB.out).1 hl rfl
        by_cases he : (U hi).T = t
        · have HR := Lib.hid (show Lib.compareInt (U hi).T t = 0 by unfold Lib.compareInt; rw [if_neg (by omega), if_neg (by omega)])
          have HE := Lib.hid he
          clear he
          go_wp2_with (go_at_call 114; go_loud (refine (itmcmp_any (U hi) t 0 _ HR.out).mono ?_; rintro e w2 ⟨rfl, hb2⟩))
          go_ret2
          exact ⟨_, true, rfl, fun _ => ⟨hl, HE.out⟩, (fun h => by cases h), HB.out.trans (hb2.mono hsz)⟩
        · have hgt : t < (U hi).T := by have := I.out.2 hi (Nat.le_refl _) hl; omega
          have HR := Lib.hid (show Lib.compareInt (U hi).T t = 1 by unfold Lib.compareInt; rw [if_neg (by omega), if_pos hgt])
          have HF : Hid (∀ k, k < n → (U k).T ≠ t) := Lib.hid (fun k hk => by
            rcases Nat.lt_trichotomy k hi with h1 | h1 | h1
            · have := I.out.1 k h1; omega
            · subst h1; omega
            · have := HS.out hi k h1 hk; omega)
          clear he hgt
          go_wp2_with (go_at_call 114; go_loud (refine (itmcmp_any (U hi) t 1 _ HR.out).mono ?_; rintro e w2 ⟨rfl, hb2⟩))
          go_ret2
          exact ⟨_, false, rfl, (fun h => by cases h), fun _ => HF.out, HB.out.trans (hb2.mono hsz)⟩
      · have hli : ¬ (hi : Int) < (n : Int) := by omega
        have HF : Hid (∀ k, k < n → (U k).T ≠ t) := Lib.hid (fun k hk => by have := I.out.1 k (by omega); omega)
        go_wp2
        go_ret2
        first | exact ⟨_, .inl ⟨rfl, HF.out, HB.out⟩⟩ | exact ⟨_, false, rfl, (fun h => by cases h), fun _ => HF.out, HB.out⟩
end Go.Proofs.YtdogddliifbjnaaGreat.Ck
