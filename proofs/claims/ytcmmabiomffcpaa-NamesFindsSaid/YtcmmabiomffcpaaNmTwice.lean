/- Names: the contracts of names.Twice and of the law's example. -/
import Derived.Test.YtcmmabiomffcpaaNmRef
namespace Go.Proofs.Ytcmmabiomffcpaa.Nm
open Go.RowKit Cm
set_option linter.unusedVariables false
set_option linter.unusedSimpArgs false

set_option maxRecDepth 100000 in
set_option maxHeartbeats 1000000 in
theorem twice_any (o : Option Addr) (len cap : Nat) (D : Dl) (w : World) (h : Dx o len D w) :
    Calls Try.prog 16 #[.slice o len cap] w fun e w' => e = .returned (.int .i64 (twZ D.S len)) ∧ Below w.heap.size w w' := by
  have hlen := h.2
  have hlen2 : len ≤ 9223372036854775807 := by omega
  have H := Lib.hid h
  clear h
  go_enter Try.func16, Try.ntmps16
  go_wp2_with (go_at_call 6; refine (of_any o len cap D _ H.out).mono ?_; rintro e w1 ⟨T, rfl, hT1, hT2, hb1⟩)
  have HT0 := Lib.hid hT2
  have HB0 := Lib.hid hb1
  clear hT2 hb1
  go_loopw [12] (fun i wr => ∃ j, j ≤ len ∧ i = .int .i64 (j : Nat) ∧ Hid (twS D.S j = none) ∧ Hid (Tb T len D.S D.K wr) ∧ Hid (Below w.heap.size w wr)) (fun i _ => len - (intOf i).toNat)
  case atStart => exact ⟨0, by omega, rfl, rfl, HT0, HB0⟩
  case round =>
    obtain ⟨j, hj, rfl, HF, HT, HB⟩ := hrel
    clear HT0 HB0
    by_cases hjl : j < len
    · have hji : (j : Int) < (len : Int) := by omega
      have hsz := HB.out.size
      obtain ⟨a, Ab, Ao, As, rfl, hA, hAb, c0, c1, c2, c3, c4⟩ := Dx.place (H.out.below HB.out (Nat.le_refl _)) hjl
      have hSj := (H.out.1 j hjl).choose_spec.2.2.2.1
      have hT2 := Lib.hid (HT.out.alloc (.cells #[.int .i64 (D.K j), .string (D.S j), .slice (D.fo j) (D.fl j) (D.fc j), .slice (D.mo j) (D.ml j) (D.mc j), .int .i64 (D.A j)] 37))
      have hB2 := Lib.hid (HB.out.alloc hsz (.cells #[.int .i64 (D.K j), .string (D.S j), .slice (D.fo j) (D.fl j) (D.fc j), .slice (D.mo j) (D.ml j) (D.mc j), .int .i64 (D.A j)] 37))
      cases hf : fiS D.S (D.S j) j with
      | some i =>
        have hr := plS_some (fiS_ahead hjl hf)
        have hr2 := isS_some (fiS_ahead hjl hf)
        have hij : (i : Int) < (j : Int) := by have := (fiS_some hf).1; omega
        have hfs := Lib.hid (twZ_some (twS_le hjl (twS_next_hit HF.out hf)))
        clear hf
        go_wp2_with (go_at_call 7; refine (find_any T len D.S D.K (D.S j) _ hT2.out hSj).mono ?_; rw [hr, hr2]; rintro e w2 ⟨rfl, hb2⟩)
        go_ret
        exact ⟨by rw [hfs.out]; rfl, hB2.out.trans (hb2.mono hB2.out.size)⟩
      | none =>
        have hr := plS_some (fiS_fresh hjl hf)
        have hr2 := isS_some (fiS_fresh hjl hf)
        have hfs := Lib.hid (twS_next_miss HF.out hf)
        clear hf
        go_wp2_with (go_at_call 7; refine (find_any T len D.S D.K (D.S j) _ hT2.out hSj).mono ?_; rw [hr, hr2]; rintro e w2 ⟨rfl, hb2⟩)
        go_roundw
        case rel => exact ⟨j + 1, by omega, by go_num, hfs, hT2.out.below hb2, hB2.out.trans (hb2.mono hB2.out.size)⟩
        case measure => simp [intOf]; omega
    · have hji : ¬ (j : Int) < (len : Int) := by omega
      obtain rfl : j = len := by omega
      have hfs := Lib.hid (twZ_none HF.out)
      go_wp2
      go_ret
      exact ⟨by rw [hfs.out]; rfl, HB.out⟩

/-- The example's declarations. -/
def awD : Dl := { K := fun i => if i = 0 then 1 else 3, S := fun i => if i = 0 then ⟨#[80]⟩ else ⟨#[69]⟩, fo := fun _ => none, fl := fun _ => 0, fc := fun _ => 0, mo := fun _ => none, ml := fun _ => 0, mc := fun _ => 0, A := fun _ => 0 }
theorem awD_find : fiS awD.S ⟨#[69]⟩ 2 = some 1 := fiS_next_hit (fiS_next_miss rfl (by decide)) rfl
theorem awD_in (w : World) (g : Nat) (T : TypeId) (hg : w.heap.size = g) : Dx (some ⟨g, 0, none⟩) 2 awD (w.alloc (.cells #[.int .i64 1, .string ⟨#[80]⟩, .slice none 0 0, .slice none 0 0, .int .i64 0, .int .i64 3, .string ⟨#[69]⟩, .slice none 0 0, .slice none 0 0, .int .i64 0] T)) := by
  subst hg
  have hC := Cs.new w [.int .i64 1, .string ⟨#[80]⟩, .slice none 0 0, .slice none 0 0, .int .i64 0, .int .i64 3, .string ⟨#[69]⟩, .slice none 0 0, .slice none 0 0, .int .i64 0] T
  refine ⟨fun i hi => ⟨_, rfl, by simp, fun k v hk => ?_, ?_⟩, by omega⟩
  · have hadd : ∀ n, (⟨w.heap.size, 0, none⟩ : Addr).add n = ⟨w.heap.size, n, none⟩ := fun n => by unfold Addr.add; split <;> simp_all
    rw [hadd]
    refine hC.cell ?_
    rcases (by omega : i = 0 ∨ i = 1) with rfl | rfl
    · match k, hk with
      | 0, hk => exact hk
      | 1, hk => exact hk
      | 2, hk => exact hk
      | 3, hk => exact hk
      | 4, hk => exact hk
      | k + 5, hk => simp [Dl.at5] at hk
    · match k, hk with
      | 0, hk => exact hk
      | 1, hk => exact hk
      | 2, hk => exact hk
      | 3, hk => exact hk
      | 4, hk => exact hk
      | k + 5, hk => simp [Dl.at5] at hk
  · rcases (by omega : i = 0 ∨ i = 1) with rfl | rfl
    · exact ⟨by decide, by decide, by decide⟩
    · exact ⟨by decide, by decide, by decide⟩

set_option maxRecDepth 100000 in
set_option maxHeartbeats 1000000 in
theorem awake_any (w : World) :
    Calls Try.prog 11 #[] w fun e w' => e = .returned (.bool true) ∧ Below w.heap.size w w' := by
  have hr := plS_some awD_find
  have hr2 := isS_some awD_find
  go_enter Try.func11, Try.ntmps11
  have hD := awD_in w w.heap.size 37 rfl
  have hB0 := (Below.refl w.heap.size w).alloc (Nat.le_refl _) (.cells #[.int .i64 1, .string ⟨#[80]⟩, .slice none 0 0, .slice none 0 0, .int .i64 0, .int .i64 3, .string ⟨#[69]⟩, .slice none 0 0, .slice none 0 0, .int .i64 0] 37)
  have HD := Lib.hid hD
  have HR := Lib.hid (And.intro hr hr2)
  clear hD hr hr2
  go_wp2_with (first
    | (go_at_call 6; refine (of_any _ 2 2 awD _ HD.out).mono ?_; rintro e w1 ⟨T, rfl, hT1, hT2, hb1⟩)
    | (go_at_call 7; refine (find_any T 2 awD.S awD.K ⟨#[69]⟩ _ hT2 (by decide)).mono ?_; rw [HR.out.1, HR.out.2]; rintro e w2 ⟨rfl, hb2⟩))
  go_ret
  exact ⟨rfl, (hB0.trans (hb1.mono hB0.size)).trans (hb2.mono (hB0.trans (hb1.mono hB0.size)).size)⟩
end Go.Proofs.Ytcmmabiomffcpaa.Nm
