/- Keys: what is joined; the contracts of key.Join and of the reference's Join. -/
import Derived.Test.YtkbblmjldfinoaaKyBuild
import Derived.Test.YtkbblmjldfinoaaKyLists
namespace Go.Proofs.Ytkbblmjldfinoaa.Vm
open Go.RowKit
set_option linter.unusedVariables false
set_option linter.unusedSimpArgs false

/-- A key's bytes, of a span. -/
def kb (t : Int) : ByteArray := ⟨(putL (2 * t + 1).toNat).toArray⟩
/-- The bytes of the first fields. -/
def jnB (K : Nat → Int) (X : Nat → ByteArray) : Nat → ByteArray
  | 0 => ⟨#[]⟩
  | i + 1 => jnB K X i ++ (kb (K i) ++ spP (X i))
/-- How great they are at most. -/
def jnZ (X : Nat → ByteArray) : Nat → Nat
  | 0 => 0
  | i + 1 => jnZ X i + ((X i).size + 20)
/-- The first tags are tags, and rise. -/
def okT (K : Nat → Int) (n : Nat) : Prop := ∀ i, i < n → 1 ≤ K i ∧ K i ≤ 255 ∧ (0 < i → K (i - 1) < K i)
def lastT (K : Nat → Int) (i : Nat) : Int := if i = 0 then 0 else K (i - 1)

theorem kb_size (t : Int) (h : t ≤ 255) : (kb t).size ≤ 10 := by
  have := putL_len10 (2 * t + 1).toNat (by omega)
  show ((putL (2 * t + 1).toNat).toArray).size ≤ 10
  simpa using this
theorem spP_le (x : ByteArray) (h : x.size ≤ 281474976710000) : (spP x).size ≤ x.size + 10 := by
  have := putL_len10 x.size (by omega)
  rw [spP_size]; omega
theorem jnZ_mono (X : Nat → ByteArray) {i n : Nat} (h : i ≤ n) : jnZ X i ≤ jnZ X n := by
  induction n with
  | zero => obtain rfl : i = 0 := by omega
            exact Nat.le_refl _
  | succ n ih =>
    by_cases e : i = n + 1
    · subst e; exact Nat.le_refl _
    · have := ih (by omega); simp only [jnZ]; omega
theorem jnZ_each (X : Nat → ByteArray) {i n : Nat} (h : i < n) : jnZ X i + ((X i).size + 20) ≤ jnZ X n := jnZ_mono X (i := i + 1) h
theorem okT_less {K : Nat → Int} {i n : Nat} (h : okT K n) (hi : i ≤ n) : okT K i := fun j hj => h j (by omega)
theorem okT_step {K : Nat → Int} {i : Nat} (h : okT K i) (h1 : 1 ≤ K i) (h2 : K i ≤ 255) (h3 : lastT K i < K i) : okT K (i + 1) := by
  intro j hj
  by_cases e : j = i
  · subst e
    refine ⟨h1, h2, fun h0 => ?_⟩
    unfold lastT at h3
    rw [if_neg (by omega)] at h3
    exact h3
  · exact h j (by omega)
theorem okT_not_tag {K : Nat → Int} {i n : Nat} (hi : i < n) (h : K i < 1 ∨ 255 < K i) : ¬ okT K n := fun hk => by
  have := hk i hi; omega
theorem okT_not_rise {K : Nat → Int} {i n : Nat} (hi : i < n) (h : K i ≤ lastT K i) (h1 : 1 ≤ K i) : ¬ okT K n := fun hk => by
  have := (hk i hi).2.2
  unfold lastT at h
  by_cases e : i = 0
  · rw [if_pos e] at h; omega
  · rw [if_neg e] at h; have := this (by omega); omega
theorem lastT_bound {K : Nat → Int} {i : Nat} (h : okT K i) : 0 ≤ lastT K i ∧ lastT K i ≤ 255 := by
  unfold lastT
  by_cases e : i = 0
  · rw [if_pos e]; omega
  · rw [if_neg e]; have := h (i - 1) (by omega); omega
theorem jnB_size (K : Nat → Int) (X : Nat → ByteArray) (n : Nat) (h : okT K n) (hz : jnZ X n ≤ 100000000) : (jnB K X n).size ≤ jnZ X n := by
  induction n with
  | zero => exact Nat.le_refl _
  | succ n ih =>
    have h1 := ih (okT_less h (by omega)) (Nat.le_trans (jnZ_mono X (by omega)) hz)
    have h2 := kb_size (K n) (h n (by omega)).2.1
    simp only [jnZ] at hz ⊢
    have h3 := spP_le (X n) (by omega)
    simp only [jnB, ByteArray.size_append]
    omega
theorem strCells_app (a b : ByteArray) : Lib.strCells (a ++ b) = Lib.strCells a ++ Lib.strCells b := by
  unfold Lib.strCells
  rw [ByteArray.data_append, Array.toList_append, List.map_append]

/-- The builder, where nothing old turns. -/
theorem bld_below {B b : Nat} {bs : List Value} {w w' : World} (h : Lib.IsBuilder 56 5 B b bs w) (hb : Below w.heap.size w w') : Lib.IsBuilder 56 5 B b bs w' := by
  have hg : w.grownBy w' none := ⟨hb.os, hb.tape, hb.output, hb.size, fun k hk _ => hb.block k hk⟩
  have step : ∀ p, Lib.BuilderAt 56 5 B b p bs w → Lib.BuilderAt 56 5 B b p bs w' := fun p hp => by
    have hlt := hp.lt
    obtain ⟨hB, v, hbk, hown, hne⟩ := hp
    exact ⟨hB, v, by rw [hb.block b hlt]; exact hbk, hown.kept hg (by cases v.ownBlock <;> simp), hne⟩
  rcases h with h | h
  · exact .inl (step _ h)
  · exact .inr (step _ h)
theorem str_any (B b : Nat) (s : ByteArray) (w : World) (h : Lib.IsBuilder 56 5 B b (Lib.strCells s) w) (hBw : B ≤ w.heap.size) :
    Calls Try.prog 29 #[.pointer (some ⟨b, 0, none⟩)] w fun e w' => e = .returned (.string s) ∧ Below B w w' :=
  Try.Builder_String_any B b s.data.toList w h hBw

set_option maxRecDepth 100000 in
set_option maxHeartbeats 4000000 in
theorem kjoin_any (o o' : Option Addr) (len cap cap' : Nat) (K : Nat → Int) (X : Nat → ByteArray) (w : World) (hl : len ≤ 300) (hz : jnZ X len ≤ 100000000)
    (hk : ∀ i, i < len → ∃ a, o = some a ∧ w.cell? (a.add i) = some (.int .i64 (K i)) ∧ -9223372036854775808 ≤ K i ∧ K i ≤ 9223372036854775807)
    (hx : ∀ i, i < len → ∃ a, o' = some a ∧ w.cell? (a.add i) = some (.string (X i)))
    (s0 : ByteArray) (e0 : Nat) (hok : okT K len → s0 = jnB K X len ∧ e0 = 0) (hno : ¬ okT K len → s0 = ⟨#[]⟩ ∧ e0 = 9) :
    Calls Try.prog 18 #[.slice o len cap, .slice o' len cap'] w fun x w' => x = .returned (.tuple #[.string s0, .int .i64 e0]) ∧ Below w.heap.size w w' := by
  have hB0 := (Below.refl w.heap.size w).alloc (Nat.le_refl _) (.cells #[.pointer none, .slice none 0 0] 56)
  have hF0 := Lib.fresh_isBuilder 56 5 w
  go_enter Try.func18, Try.ntmps18
  go_wp2
  go_loopw [7, 19] (fun la ix wr => ∃ i, i ≤ len ∧ ix = .int .i64 (i : Nat) ∧ la = .int .i64 (lastT K i) ∧ Hid (okT K i) ∧ Hid (Lib.IsBuilder 56 5 w.heap.size w.heap.size (Lib.strCells (jnB K X i)) wr) ∧ Hid (Below w.heap.size w wr)) (fun _ ix _ => len - (intOf ix).toNat)
  case atStart => exact ⟨0, by omega, rfl, rfl, fun j hj => by omega, hF0, hB0⟩
  case round =>
    obtain ⟨i, hi, rfl, rfl, HO, HF, HB⟩ := hrel
    clear hB0 hF0
    by_cases hil : i < len
    · have hii : (i : Int) < (len : Int) := by omega
      obtain ⟨a, rfl, s0', m1, m2⟩ := hk i hil
      obtain ⟨a', rfl, s1'⟩ := hx i hil
      have t0 : wr.cell? (a.add i) = some (.int .i64 (K i)) := by rw [HB.out.cell (p := a.add i) (World.block_lt_of_cell? w _ s0')]; exact s0'
      have ba := World.block_lt_of_cell? w _ s1'
      have hlb := lastT_bound HO.out
      have hze := jnZ_each X hil
      by_cases htg : K i < 1 ∨ 255 < K i
      · have HP := Lib.hid (kpS_tag (K i) 1 htg)
        obtain ⟨rfl, rfl⟩ := hno (okT_not_tag hil htg)
        go_wp2_with (go_at_call 7; refine (kput_ret _ _ _ _ HP.out _ m1 m2 (by omega) (by omega)).mono ?_; rintro e w2 ⟨rfl, hb2⟩)
        go_ret2
        exact ⟨rfl, HB.out.trans (hb2.mono HB.out.size)⟩
      · have HP : Hid (kpS (K i) 1 = (kb (K i), 0)) := Lib.hid (kpS_good (K i) 1 htg (by decide))
        by_cases hrs : K i ≤ lastT K i
        · obtain ⟨rfl, rfl⟩ := hno (okT_not_rise hil hrs (by omega))
          go_wp2_with (go_at_call 7; refine (kput_ret _ _ _ _ HP.out _ m1 m2 (by omega) (by omega)).mono ?_; rintro e w2 ⟨rfl, hb2⟩)
          go_ret2
          exact ⟨rfl, HB.out.trans (hb2.mono HB.out.size)⟩
        · have hrs' : ¬ K i ≤ lastT K i := hrs
          have HO2 : Hid (okT K (i + 1)) := Lib.hid (okT_step HO.out (by omega) (by omega) (by omega))
          have hk1 := kb_size (K i) (by omega)
          have hk2 := spP_le (X i) (by omega)
          have hk3 := jnB_size K X i HO.out (by omega)
          have hl1 : (Lib.strCells (jnB K X i)).length + (kb (K i)).size ≤ 140737488355328 := by rw [Lib.strCells_length]; omega
          have hl2 : (Lib.strCells (jnB K X i) ++ Lib.strCells (kb (K i))).length + (spP (X i)).size ≤ 140737488355328 := by rw [List.length_append, Lib.strCells_length, Lib.strCells_length]; omega
          have HL1 := Lib.hid hl1
          have HL2 := Lib.hid hl2
          have hxs : (X i).size ≤ 281474976710000 := by omega
          clear hl1 hl2 hk1 hk2 hk3
          go_wp2_with (first
            | (go_at_call 7; refine (kput_ret _ _ _ _ HP.out _ m1 m2 (by omega) (by omega)).mono ?_; rintro e w2 ⟨rfl, hb2⟩; have hd2 := bld_below HF.out hb2; have hB2 := HB.out.trans (hb2.mono HB.out.size))
            | (go_at_call 27; refine (write_any _ _ _ _ _ hd4 HL2.out hB4.size).mono ?_; rintro e w5 ⟨rfl, hd5, hb5⟩; have hB5 := hB4.trans hb5)
            | (go_at_call 28; refine (sput_any _ _ hxs).mono ?_; rintro e w4 ⟨rfl, hb4⟩; have hd4 := bld_below (.inr hd3) hb4; have hB4 := hB3.trans (hb4.mono hB3.size))
            | (go_at_call 27; refine (write_any _ _ _ _ _ hd2 HL1.out hB2.size).mono ?_; rintro e w3 ⟨rfl, hd3, hb3⟩; have hB3 := hB2.trans hb3; have t1 : w3.cell? (a'.add i) = some (.string (X i)) := by rw [hB3.cell (p := a'.add i) ba]; exact s1'))
          go_roundw
          case rel => exact ⟨i + 1, by omega, by go_num, by simp [lastT], HO2, .inr (by simp only [jnB, strCells_app]; rw [← List.append_assoc]; exact hd5), hB5⟩
          case measure => simp [intOf]; omega
    · have hii : ¬ (i : Int) < (len : Int) := by omega
      obtain rfl : i = len := by omega
      obtain ⟨rfl, rfl⟩ := hok HO.out
      go_wp2_with (go_at_call 29; refine (str_any _ _ _ _ HF.out HB.out.size).mono ?_; rintro e w2 ⟨rfl, hb2⟩)
      go_ret2
      exact ⟨rfl, HB.out.trans hb2⟩
end Go.Proofs.Ytkbblmjldfinoaa.Vm
