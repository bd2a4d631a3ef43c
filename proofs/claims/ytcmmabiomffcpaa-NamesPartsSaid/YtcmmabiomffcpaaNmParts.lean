/- Names: the walk of NamesParts. -/
import Derived.Test.YtcmmabiomffcpaaNmRMethod
import Derived.Test.YtcmmabiomffcpaaNmField
import Derived.Test.YtcmmabiomffcpaaNmTwice
namespace Go.Proofs.Ytcmmabiomffcpaa.Nm
open Go.RowKit Cm
set_option linter.unusedVariables false
set_option linter.unusedSimpArgs false

theorem method_ret {D : Dl} {M : Nat → Ml} {s m : ByteArray} {len : Nat} {k : Int} {n i p : ByteArray} {b f : Bool} (hr : mtS D M s m len = (k, n, i, p, b, f)) (o : Option Addr) (cap : Nat) (w : World) (h : Dx o len D w) (hM : ∀ i, i < len → Mx (D.mo i) (D.ml i) (M i) w) :
    Calls Try.prog 14 #[.slice o len cap, .string s, .string m] w fun e w' => e = .returned (.tuple #[.agg #[.int .i64 k, .string n, .string i, .string p, .bool b], .bool f]) ∧ Below w.heap.size w w' := by
  have := method_any o len cap D M s m w h hM
  rw [hr] at this
  exact this
theorem rmethod_ret {D : Dl} {M : Nat → Ml} {s m : ByteArray} {len : Nat} {k : Int} {n i p : ByteArray} {b f : Bool} (hr : mtS D M s m len = (k, n, i, p, b, f)) (o : Option Addr) (cap : Nat) (w : World) (h : Dx o len D w) (hM : ∀ i, i < len → Mx (D.mo i) (D.ml i) (M i) w) :
    Calls Try.prog 15 #[.slice o len cap, .string s, .string m] w fun e w' => e = .returned (.tuple #[.agg #[.int .i64 k, .string n, .string i, .string p, .bool b], .bool f]) ∧ Below w.heap.size w w' := by
  have := rmethod_any o len cap D M s m w h hM
  rw [hr] at this
  exact this
theorem field_ret {k p tag : Int} {s : ByteArray} {o1 o2 : Option Addr} {l1 c1 l2 c2 : Nat} {F : Fl} {q : Int} {b : Bool} (h1 : fpS F.T tag l1 = q) (h2 : fbS F.T tag l1 = b) (w : World) (h : Fx o1 l1 F w) :
    Calls Try.prog 12 #[.agg #[.int .i64 k, .string s, .slice o1 l1 c1, .slice o2 l2 c2, .int .i64 p], .int .i64 tag] w fun e w' => e = .returned (.tuple #[.int .i64 q, .bool b]) ∧ Below w.heap.size w w' := by
  have := field_any k p tag s o1 o2 l1 c1 l2 c2 F w h
  rw [h1, h2] at this
  exact this
theorem rfield_ret {k p tag : Int} {s : ByteArray} {o1 o2 : Option Addr} {l1 c1 l2 c2 : Nat} {F : Fl} {q : Int} (h1 : rnS F.T tag l1 = q) (w : World) (h : Fx o1 l1 F w) :
    Calls Try.prog 13 #[.agg #[.int .i64 k, .string s, .slice o1 l1 c1, .slice o2 l2 c2, .int .i64 p], .int .i64 tag] w fun e w' => e = .returned (.int .i64 q) ∧ Below w.heap.size w w' := by
  have := rfield_any k p tag s o1 o2 l1 c1 l2 c2 F w h
  rw [h1] at this
  exact this
/-- What the field's two answers are. -/
theorem field_two (F : Fl) (tag : Int) (l : Nat) : (fpS F.T tag l = 0 ∧ fbS F.T tag l = false ∧ rnS F.T tag l = -1) ∨ ∃ q : Nat, q < l ∧ fpS F.T tag l = q ∧ fbS F.T tag l = true ∧ rnS F.T tag l = q := by
  cases hf : niS F.T tag l with
  | none => exact .inl ⟨by unfold fpS; rw [hf], by unfold fbS; rw [hf]; rfl, rnS_none hf⟩
  | some q => exact .inr ⟨q, (niS_some hf).1, by unfold fpS; rw [hf], by unfold fbS; rw [hf]; rfl, rnS_some hf⟩

/-- What a drawn region with one call holds: a declaration's cells, and the tag. -/
def Rg (Ab Ao : Nat) (As : Option Nat) (B : Nat) (v0 v1 v2 v3 v4 t : Value) (w : World) : Prop :=
  w.cell? ⟨Ab, Ao, As⟩ = some v0 ∧ w.cell? ⟨Ab, Ao + 1, none⟩ = some v1 ∧ w.cell? ⟨Ab, Ao + 2, none⟩ = some v2 ∧ w.cell? ⟨Ab, Ao + 3, none⟩ = some v3 ∧ w.cell? ⟨Ab, Ao + 4, none⟩ = some v4 ∧ w.cell? ⟨B, 0, none⟩ = some t
theorem Rg.below {Ab Ao B : Nat} {As : Option Nat} {v0 v1 v2 v3 v4 t : Value} {w w' : World} (h : Rg Ab Ao As B v0 v1 v2 v3 v4 t w) (hb : Below w.heap.size w w') : Rg Ab Ao As B v0 v1 v2 v3 v4 t w' := by
  obtain ⟨a0, a1, a2, a3, a4, a5⟩ := h
  have h1 := World.block_lt_of_cell? w _ a0
  have h2 := World.block_lt_of_cell? w _ a5
  exact ⟨(hb.cell (p := ⟨Ab, Ao, As⟩) h1).trans a0, (hb.cell (p := ⟨Ab, Ao + 1, none⟩) h1).trans a1, (hb.cell (p := ⟨Ab, Ao + 2, none⟩) h1).trans a2, (hb.cell (p := ⟨Ab, Ao + 3, none⟩) h1).trans a3, (hb.cell (p := ⟨Ab, Ao + 4, none⟩) h1).trans a4, (hb.cell (p := ⟨B, 0, none⟩) h2).trans a5⟩

set_option maxRecDepth 100000 in
set_option maxHeartbeats 2000000 in
theorem parts_walk (o : Option Addr) (len cap : Nat) (D : Dl) (F : Nat → Fl) (M : Nat → Ml) (tag : Int) (s m : ByteArray) (w : World) (h : Dx o len D w) (hF : ∀ i, i < len → Fx (D.fo i) (D.fl i) (F i) w) (hM : ∀ i, i < len → Mx (D.mo i) (D.ml i) (M i) w) :
    Calls Try.prog 4 #[.slice o len cap, .agg #[.int .i64 tag, .string s, .string m]] w fun e w' => e = .returned (.bool true) ∧ Below w.heap.size w w' := by
  have hlen := h.2
  have hlen2 : len ≤ 9223372036854775807 := by omega
  have hB0 := (Below.refl w.heap.size w).alloc (Nat.le_refl _) (.cells #[.int .i64 tag, .string s, .string m] 32)
  have hC0 := Cs.new w [.int .i64 tag, .string s, .string m] 32
  have H := Lib.hid h
  have HF := Lib.hid hF
  have HM := Lib.hid hM
  clear h hF hM
  by_cases h300 : 300 < len
  · have h300' : (300 : Int) < (len : Int) := by omega
    go_enter Try.func4, Try.ntmps4
    go_wp2_with (go_at_call 11; refine (awake_any _).mono ?_; rintro e w' ⟨rfl, hb⟩)
    go_ret
    exact ⟨rfl, hB0.trans (hb.mono hB0.size)⟩
  · have h300' : ¬ (300 : Int) < (len : Int) := by omega
    have HB0 := Lib.hid hB0
    have HC0 := Lib.hid hC0
    clear hB0 hC0
    go_enter Try.func4, Try.ntmps4
    go_wp2
    go_loopw [5] (fun i wr => ∃ j, j ≤ len ∧ i = .int .i64 (j : Nat) ∧ Hid (Cs w.heap.size [.int .i64 tag, .string s, .string m] wr) ∧ Hid (Below w.heap.size w wr)) (fun i _ => len - (intOf i).toNat)
    case atStart => exact ⟨0, by omega, rfl, HC0, HB0⟩
    case round =>
      obtain ⟨j, hj, rfl, HC, HB⟩ := hrel
      clear HC0 HB0
      have hsz := HB.out.size
      have t0 := HC.out.cell (i := 0) rfl
      by_cases hjl : j < len
      · have hji : (j : Int) < (len : Int) := by omega
        obtain ⟨a, Ab, Ao, As, rfl, hA, hAb, c0, c1, c2, c3, c4⟩ := Dx.place (H.out.below HB.out (Nat.le_refl _)) hjl
        have HFj := Lib.hid ((HF.out j hjl).below HB.out (Nat.le_refl _))
        have hfl := HFj.out.2
        have hR : Rg Ab Ao As w.heap.size _ _ _ _ _ _ wr := ⟨c0, c1, c2, c3, c4, t0⟩
        have hR0 := hR
        obtain ⟨q0, b0, r0, h1, h2, h3, h4⟩ : ∃ q b r, fpS (F j).T tag (D.fl j) = q ∧ fbS (F j).T tag (D.fl j) = b ∧ rnS (F j).T tag (D.fl j) = r ∧ ((q = 0 ∧ b = false ∧ r = -1) ∨ ∃ p : Nat, q = p ∧ b = true ∧ r = p) := by
          rcases field_two (F j) tag (D.fl j) with ⟨a1, a2, a3⟩ | ⟨p, _, a1, a2, a3⟩
          · exact ⟨_, _, _, a1, a2, a3, .inl ⟨rfl, rfl, rfl⟩⟩
          · exact ⟨_, _, _, a1, a2, a3, .inr ⟨p, rfl, rfl, rfl⟩⟩
        have HK := Lib.hid (And.intro h1 (And.intro h2 h3))
        clear h1 h2 h3
        go_wp2
        go_region_held3 (fun w' => w'.cell? ⟨Ab, Ao, As⟩ = some (.int .i64 (D.K j)) ∧ w'.cell? ⟨Ab, Ao + 1, none⟩ = some (.string (D.S j)) ∧ w'.cell? ⟨Ab, Ao + 2, none⟩ = some (.slice (D.fo j) (D.fl j) (D.fc j)) ∧ w'.cell? ⟨Ab, Ao + 3, none⟩ = some (.slice (D.mo j) (D.ml j) (D.mc j)) ∧ w'.cell? ⟨Ab, Ao + 4, none⟩ = some (.int .i64 (D.A j)) ∧ w'.cell? ⟨w.heap.size, 0, none⟩ = some (.int .i64 tag)) (exact hR)
          (first | (go_at_call 12; refine (field_ret HK.out.1 HK.out.2.1 _ (HFj.out.below (Below.refl _ _).drew (Nat.le_refl _))).mono ?_; rintro e w2 ⟨rfl, hb2⟩; replace hb2 : Below wr.heap.size wr w2 := (Below.refl wr.heap.size wr).drew.trans hb2; replace hR := hR.below hb2))
        have hC2 := Lib.hid (HC.out.below hb2 HC.out.lt)
        have hB2 := Lib.hid (HB.out.trans (hb2.mono hsz))
        have hsz2 := hb2.size
        have HF2 := Lib.hid (HFj.out.below hb2 (Nat.le_refl _))
        clear c0 c1 c2 c3 c4 t0 hR0 hb2
        go_wp2
        go_region_held3 (fun w' => w'.cell? ⟨Ab, Ao, As⟩ = some (.int .i64 (D.K j)) ∧ w'.cell? ⟨Ab, Ao + 1, none⟩ = some (.string (D.S j)) ∧ w'.cell? ⟨Ab, Ao + 2, none⟩ = some (.slice (D.fo j) (D.fl j) (D.fc j)) ∧ w'.cell? ⟨Ab, Ao + 3, none⟩ = some (.slice (D.mo j) (D.ml j) (D.mc j)) ∧ w'.cell? ⟨Ab, Ao + 4, none⟩ = some (.int .i64 (D.A j)) ∧ w'.cell? ⟨w.heap.size, 0, none⟩ = some (.int .i64 tag)) (exact hR)
          (first | (go_at_call 13; refine (rfield_ret HK.out.2.2 _ (HF2.out.below (Below.refl _ _).drew (Nat.le_refl _))).mono ?_; rintro e w3 ⟨rfl, hb3⟩; replace hb3 : Below w2.heap.size w2 w3 := (Below.refl w2.heap.size w2).drew.trans hb3; replace hR := hR.below hb3))
        have hC3 := Lib.hid (hC2.out.below hb3 hC2.out.lt)
        have hB3 := Lib.hid (hB2.out.trans (hb3.mono (Nat.le_trans hsz hsz2)))
        clear hb3 hR HF2 hC2 hB2 HFj HK
        rcases h4 with ⟨rfl, rfl, rfl⟩ | ⟨p, rfl, rfl, rfl⟩
        · go_wp2
          go_roundw
          case rel => exact ⟨j + 1, by omega, by go_num, hC3, hB3⟩
          case measure => simp [intOf]; omega
        · go_wp2
          go_roundw
          case rel => exact ⟨j + 1, by omega, by go_num, hC3, hB3⟩
          case measure => simp [intOf]; omega
      · have hji : ¬ (j : Int) < (len : Int) := by omega
        obtain rfl : j = len := by omega
        obtain ⟨k, n, i, p, b, f, hr⟩ : ∃ k n i p b f, mtS D M s m j = (k, n, i, p, b, f) := ⟨_, _, _, _, _, _, rfl⟩
        have HR := Lib.hid hr
        clear hr
        have hB := HB.out
        have hC := HC.out
        have t1 := hC.cell (i := 1) rfl
        have t2 := hC.cell (i := 2) rfl
        go_wp2_with (first
          | (go_at_call 11; refine (awake_any _).mono ?_; rintro e w6 ⟨rfl, hb⟩; replace hB := hB.trans (hb.mono hB.size); clear hb)
          | (go_at_call 17; refine (rtwice_any o j cap D _ (H.out.below hB (Nat.le_refl _))).mono ?_; rintro e w5 ⟨rfl, rfl⟩)
          | (go_at_call 16; refine (twice_any o j cap D _ (H.out.below hB (Nat.le_refl _))).mono ?_; rintro e w4 ⟨rfl, hb⟩; replace hB := hB.trans (hb.mono hB.size); clear hb)
          | (go_at_call 15; refine (rmethod_ret HR.out o cap _ (H.out.below hB (Nat.le_refl _)) (fun i hi => (HM.out i hi).below hB (Nat.le_refl _))).mono ?_; rintro e w3 ⟨rfl, hb⟩; replace hB := (hB.trans (hb.mono hB.size)).alloc (by have := hb.size; have := hB.size; omega) (.cells #[.int .i64 k, .string n, .string i, .string p, .bool b] 40); replace hF := (hF.below hb hF.lt).alloc (.cells #[.int .i64 k, .string n, .string i, .string p, .bool b] 40); have hG := Cs.new w3 [.int .i64 k, .string n, .string i, .string p, .bool b] 40; obtain ⟨⟨d0, d1, d2, d3, d4⟩, _⟩ := cs_all5 hF; obtain ⟨⟨e0, e1, e2, e3, e4⟩, _⟩ := cs_all5 hG; clear hb hF hG)
          | (go_at_call 14; refine (method_ret HR.out o cap _ (H.out.below hB (Nat.le_refl _)) (fun i hi => (HM.out i hi).below hB (Nat.le_refl _))).mono ?_; rintro e w2 ⟨rfl, hb⟩; replace hB := (hB.trans (hb.mono hB.size)).alloc (by have := hb.size; have := hB.size; omega) (.cells #[.int .i64 k, .string n, .string i, .string p, .bool b] 40); replace hC := (hC.below hb hC.lt).alloc (.cells #[.int .i64 k, .string n, .string i, .string p, .bool b] 40); have hF := Cs.new w2 [.int .i64 k, .string n, .string i, .string p, .bool b] 40; have t1' := hC.cell (i := 1) rfl; have t2' := hC.cell (i := 2) rfl; clear hb))
        go_ret
        exact ⟨rfl, hB⟩
end Go.Proofs.Ytcmmabiomffcpaa.Nm
