/- The contracts of utf.walk, Bad, Valid, Count and of the reference's Bad, Count over the program. -/
import Derived.Laws.RangeAny
import Derived.Lib.Strings
import Derived.Test.YtdogddliifbjnaaGreatChecked
import Derived.WalkKit
import Derived.WalkLawsBesides
import Derived.WalkSpells
import Derived.WalkSmall
import Derived.Lib.Hide
import Derived.Lib.Walk
import Derived.Test.YtdogddliifbjnaaGreatMg57
import Derived.Test.YtdogddliifbjnaaGreatMg58
import Derived.Test.YtdogddliifbjnaaGreatMg35
namespace Go.Proofs.YtdogddliifbjnaaGreat.Ut
open Go.RowKit
set_option linter.unusedVariables false
set_option linter.unusedSimpArgs false

/-- What a text is found to be: how many runes stand ahead of what is wrong, and where that is. -/
def wkS (s : ByteArray) : Nat × Int := wk 0 0 s.data.toList
def pairV (r : Nat × Int) : Ending := .returned (.tuple #[.int .i64 r.1, .int .i64 r.2])
theorem pair_eq {a b : Int} {r : Nat × Int} (h : r = (a.toNat, b)) (h0 : 0 ≤ a) : Ending.returned (.tuple #[.int .i64 a, .int .i64 b]) = pairV r := by
  rw [h]; unfold pairV; simp [Int.toNat_of_nonneg h0]
theorem wkS_bd (s : ByteArray) : (wkS s).1 ≤ s.size ∧ -1 ≤ (wkS s).2 ∧ (wkS s).2 < s.size := by
  have h := wk_bd s.data.toList.length 0 0 s.data.toList (Nat.le_refl _)
  have e : s.data.toList.length = s.size := Array.length_toList
  rw [e] at h
  unfold wkS; omega

/-- What is carried: n runes stand ahead of place k. -/
def At (s : ByteArray) (n k : Nat) : Prop := n ≤ k ∧ k ≤ s.size ∧ wkS s = wk n k (s.data.toList.drop k)
theorem at_start (s : ByteArray) : At s 0 0 := ⟨Nat.le_refl _, Nat.zero_le _, rfl⟩
theorem drop_ne (s : ByteArray) (k : Nat) (h : k < s.size) : s.data.toList.drop k ≠ [] := by
  intro e
  have := congrArg List.length e
  simp at this; omega
theorem at_end {s : ByteArray} {n k : Nat} (h : At s n k) (hk : ¬ k < s.size) : wkS s = (n, -1) := by
  rw [h.2.2, List.drop_eq_nil_of_le (by simp; omega), wk_nil]
theorem at_bad {s : ByteArray} {n k : Nat} (h : At s n k) (hk : k < s.size) (h0 : rk (s.data.toList.drop k) = 0) : wkS s = (n, (k : Int)) := by
  rw [h.2.2, wk_bad (drop_ne s k hk) h0]
theorem at_on {s : ByteArray} {n k : Nat} (h : At s n k) (h0 : rk (s.data.toList.drop k) ≠ 0) : At s (n + 1) (k + rk (s.data.toList.drop k)) := by
  have hr := rk_le (s.data.toList.drop k)
  have e : s.data.toList.length = s.size := Array.length_toList
  rw [List.length_drop, e] at hr
  obtain ⟨h1, h2, h3⟩ := h
  refine ⟨by omega, by omega, ?_⟩
  rw [h3, wk_on h0, List.drop_drop]

/-- The count of a text: 0 if it is not right. -/
def cntS (s : ByteArray) : Nat := if (wkS s).2 < 0 then (wkS s).1 else 0
theorem pre3 (s : ByteArray) (k : Nat) : ((s.extract k s.size).extract 0 3).toList = (s.data.toList.drop k).take 3 := by
  rw [Lib.extract_toList, ← Lib.toList_data, Lib.extract_toList, List.drop_zero, List.take_take]
  by_cases h : 3 ≤ s.size - k
  · rw [Nat.min_eq_left (by omega)]
  · rw [Nat.min_eq_right (by omega), List.take_of_length_le (by simp), List.take_of_length_le (by simp; omega)]
theorem rune_bad {s : ByteArray} {k : Nat} (h : k < s.size) (h0 : rk (s.data.toList.drop k) = 0) : Utf8.decode s k = (65533, 1) ∧ (s.data.toList.drop k).take 3 ≠ [239, 191, 189] := by
  rw [decode_dL]; exact (dL_rk _ (drop_ne s k h)).1 h0
theorem rune_good {s : ByteArray} {k : Nat} (h : k < s.size) (h0 : rk (s.data.toList.drop k) ≠ 0) : (Utf8.decode s k).2 = rk (s.data.toList.drop k) ∧ ((Utf8.decode s k).1 = 65533 → (s.data.toList.drop k).take 3 = [239, 191, 189]) := by
  rw [decode_dL]; exact (dL_rk _ (drop_ne s k h)).2 h0
theorem below_iter (w : World) (s : ByteArray) (k : Nat) : Below w.heap.size w (w.iter s k) := (Below.refl _ _).alloc (Nat.le_refl _) _
theorem width_pos (s : ByteArray) (pos : Nat) (h : pos < s.size) : 1 ≤ (Utf8.decode s pos).2 := by
  by_cases ha : (s[pos]'h).toNat < 128
  · rw [decode_ascii s pos h ha]
    exact Nat.le_refl _
  · exact (decode_high s pos h (by omega)).2
theorem way_ret {s : ByteArray} {n k : Nat} (h : At s n k) (hk : k < s.size) (hd : ((Utf8.decode s k).1 : Int) = 65533)
    (hp : (s.data.toList.drop k).take 3 ≠ [239, 191, 189]) : wkS s = (((n : Int)).toNat, (k : Int)) := by
  by_cases h0 : rk (s.data.toList.drop k) = 0
  · rw [at_bad h hk h0]; rfl
  · exact absurd ((rune_good hk h0).2 (by omega)) hp
theorem way_on {s : ByteArray} {n k : Nat} (h : At s n k) (hk : k < s.size) (hd : ¬ ((Utf8.decode s k).1 : Int) = 65533 ∨ (s.data.toList.drop k).take 3 = [239, 191, 189]) :
    At s (n + 1) (k + (Utf8.decode s k).2) := by
  by_cases h0 : rk (s.data.toList.drop k) = 0
  · have := rune_bad hk h0
    rcases hd with hd | hd
    · rw [this.1] at hd; simp at hd
    · exact absurd hd this.2
  · rw [(rune_good hk h0).1]; exact at_on h h0

set_option maxRecDepth 100000 in
set_option maxHeartbeats 1000000 in
theorem walk_any (s : ByteArray) (w : World) (hs : s.size ≤ 1125899906842624) :
    Calls Tryz.prog 185 #[.string s] w fun e w' => e = pairV (wkS s) ∧ Below w.heap.size w w' := by
  go_enter Tryz.func185, Tryz.ntmps185
  go_wp2
  go_loopw [4] (fun c w' => ∃ n k : Nat, n ≤ k ∧ k ≤ s.size ∧ w' = w.iter s k ∧ c = .int .i64 n ∧ Hid (At s n k)) (fun _ w' => s.size - w'.iterPos w.heap.size)
  case atStart => exact ⟨0, 0, by omega, by omega, rfl, rfl, at_start s⟩
  case round =>
    obtain ⟨n, k, hnk, hk, rfl, rfl, HA⟩ := hrel
    by_cases hlt : k < s.size
    · have hnx : ∀ ty, (Instr.next (.pointer (some ⟨w.heap.size, 0, none⟩)) true ty).run Tryz.prog (w.iter s k) = _ := fun ty => run_next_any w s k ty hlt
      go_wp2
      · go_ret2
        exact ⟨pair_eq (way_ret HA.out hlt (by assumption) (by rw [← pre3]; simpa using (show (!((s.extract k s.size).extract 0 3).toList == [239, 191, 189]) = true by assumption))) (by omega), below_iter w s _⟩
      · have HO := Lib.hid (way_on HA.out hlt (.inr (by rw [← pre3]; simpa using (show (!((s.extract k s.size).extract 0 3).toList == [239, 191, 189]) = false by assumption))))
        have hk1 := HO.out.1
        have hk2 := HO.out.2.1
        have hwd := HO.out.2.1
        go_roundw
        case rel => exact ⟨n + 1, _, hk1, hk2, rfl, by go_num, HO⟩
        case measure => have hw := width_pos s k hlt; simp; omega
      · go_ret2
        exact ⟨pair_eq (way_ret HA.out hlt (by assumption) (fun e => by have := congrArg List.length e; simp at this; omega)) (by omega), below_iter w s _⟩
      · have HO := Lib.hid (way_on HA.out hlt (.inl (by assumption)))
        have hk1 := HO.out.1
        have hk2 := HO.out.2.1
        go_roundw
        case rel => exact ⟨n + 1, _, hk1, hk2, rfl, by go_num, HO⟩
        case measure => have hw := width_pos s k hlt; simp; omega
    · have hnx : ∀ ty, (Instr.next (.pointer (some ⟨w.heap.size, 0, none⟩)) true ty).run Tryz.prog (w.iter s k) = _ := fun ty => run_next_end w s k ty hlt
      go_wp2
      go_ret2
      exact ⟨pair_eq (by rw [at_end HA.out hlt]; rfl) (by omega), (Below.refl _ _).alloc (Nat.le_refl _) _⟩
end Go.Proofs.YtdogddliifbjnaaGreat.Ut
/- Values: which texts are right (chapter 3's), and the reference's Well with them. -/
namespace Go.Proofs.YtdogddliifbjnaaGreat.Va
open Go.RowKit Cm
set_option linter.unusedVariables false
set_option linter.unusedSimpArgs false

def rightB : ByteArray → Bool := fun s => decide ((Ut.wkS s).2 < 0)
end Go.Proofs.YtdogddliifbjnaaGreat.Va
