/- Frames: what is put is taken; the walks of FramePuts, FrameTakes, FrameBack. -/
import Derived.Test.YtgihiejbaimljaaFrRPut
import Derived.Test.YtgihiejbaimljaaFrRTake
import Derived.Test.YtgihiejbaimljaaCmB
namespace Go.Proofs.Ytgihiejbaimljaa.Fr
open Go.RowKit Cm
set_option linter.unusedVariables false
set_option linter.unusedSimpArgs false

theorem u8n (n : Nat) (h : n < 256) : (UInt8.ofNat n).toNat = n := by simp; omega
theorem bt_app (a b : ByteArray) (i : Nat) (h : i < a.size) : bt (a ++ b) i = bt a i := by
  unfold bt
  rw [app_list, List.getD, List.getD, List.getElem?_append_left (by rw [len_list]; exact h)]
theorem bt_ext (a : ByteArray) (m i : Nat) (h : i < m) : bt (a.extract 0 m) i = bt a i := by
  unfold bt
  rw [ext_list, List.drop_zero, Nat.sub_zero, List.getD, List.getD, List.getElem?_take, if_pos h]
theorem heS_of (s : ByteArray) (k f n : Nat) (h4 : ¬ s.size < 4) (h0 : bt s 0 = k) (h1 : bt s 1 = f) (h2 : bt s 2 * 256 + bt s 3 = n) (hk : 1 ≤ k) (hk2 : k ≤ 9) (hn : n ≤ 1024) : heS s = (k, f, n, 0) := by
  rw [heS_good s h4 (by omega) (by omega), h0, h1, h2]
theorem hd_bytes (k f : Int) (n : Nat) (k1 : 1 ≤ k) (k2 : k ≤ 9) (f1 : 0 ≤ f) (f2 : f ≤ 255) (hn : n ≤ 1024) : bt (hd4 k f n) 0 = k.toNat ∧ bt (hd4 k f n) 1 = f.toNat ∧ bt (hd4 k f n) 2 * 256 + bt (hd4 k f n) 3 = n := by
  have e0 : bt (hd4 k f n) 0 = (UInt8.ofNat k.toNat).toNat := rfl
  have e1 : bt (hd4 k f n) 1 = (UInt8.ofNat f.toNat).toNat := rfl
  have e2 : bt (hd4 k f n) 2 = (UInt8.ofNat (n / 256)).toNat := rfl
  have e3 : bt (hd4 k f n) 3 = (UInt8.ofNat (n % 256)).toNat := rfl
  rw [e0, e1, e2, e3, u8n _ (by omega), u8n _ (by omega), u8n _ (by omega), u8n _ (by omega)]
  omega
/-- What is put is taken, whatever stands behind it. -/
theorem ta_put (k f : Int) (b r : ByteArray) (k1 : 1 ≤ k) (k2 : k ≤ 9) (f1 : 0 ≤ f) (f2 : f ≤ 255) (hn : b.size ≤ 1024) : taS (hd4 k f b.size ++ b ++ r) = ((k.toNat, f.toNat, b), 4 + b.size, 0) := by
  have hz : (hd4 k f b.size).size = 4 := rfl
  obtain ⟨e0, e1, e2⟩ := hd_bytes k f b.size k1 k2 f1 f2 hn
  have hh : heS (hd4 k f b.size ++ b ++ r) = (k.toNat, f.toNat, b.size, 0) := by
    rw [app_assoc]
    refine heS_of _ _ _ _ (by rw [ByteArray.size_append, hz]; omega) ?_ ?_ ?_ (by omega) (by omega) hn
    · rw [bt_app _ _ _ (by rw [hz]; omega), e0]
    · rw [bt_app _ _ _ (by rw [hz]; omega), e1]
    · rw [bt_app _ _ _ (by rw [hz]; omega), bt_app _ _ _ (by rw [hz]; omega), e2]
  rw [taS_good _ _ _ _ hh (by rw [ByteArray.size_append, ByteArray.size_append, hz]; omega)]
  have := ext_mid (hd4 k f b.size) b r
  rw [hz] at this
  rw [app_assoc, this]
/-- No beginning of a frame is a frame. -/
theorem ta_cut (k f : Int) (b : ByteArray) (m : Nat) (k1 : 1 ≤ k) (k2 : k ≤ 9) (f1 : 0 ≤ f) (f2 : f ≤ 255) (hn : b.size ≤ 1024) (hm : m < 4 + b.size) : taS ((hd4 k f b.size ++ b).extract 0 m) = ((0, 0, ⟨#[]⟩), 0, 2) := by
  have hz : (hd4 k f b.size).size = 4 := rfl
  obtain ⟨e0, e1, e2⟩ := hd_bytes k f b.size k1 k2 f1 f2 hn
  have hs : ((hd4 k f b.size ++ b).extract 0 m).size = m := ext_size _ _ (by rw [ByteArray.size_append, hz]; omega)
  by_cases h4 : m < 4
  · exact taS_bad _ _ _ _ _ (heS_short _ (by rw [hs]; exact h4)) (by decide)
  · have hh : heS ((hd4 k f b.size ++ b).extract 0 m) = (k.toNat, f.toNat, b.size, 0) := by
      refine heS_of _ _ _ _ (by rw [hs]; exact h4) ?_ ?_ ?_ (by omega) (by omega) hn
      · rw [bt_ext _ _ _ (by omega), bt_app _ _ _ (by rw [hz]; omega), e0]
      · rw [bt_ext _ _ _ (by omega), bt_app _ _ _ (by rw [hz]; omega), e1]
      · rw [bt_ext _ _ _ (by omega), bt_ext _ _ _ (by omega), bt_app _ _ _ (by rw [hz]; omega), bt_app _ _ _ (by rw [hz]; omega), e2]
    exact taS_short _ _ _ _ hh (by rw [hs]; exact hm)

theorem put_ret (k f : Int) (b x : ByteArray) (e : Nat) (h : fpS k f b = (x, e)) (w : World) (h1 : -9223372036854775808 ≤ k) (h2 : k ≤ 9223372036854775807) (h3 : -9223372036854775808 ≤ f) (h4 : f ≤ 9223372036854775807) (hs : b.size ≤ 140737488355327) :
    Calls Try.prog 6 #[.agg #[.int .i64 k, .int .i64 f, .string b]] w fun y w' => y = .returned (.tuple #[.string x, .int .i64 e]) ∧ Below w.heap.size w w' :=
  (put_any k f b w h1 h2 h3 h4 hs).mono fun _ _ ⟨h1, h2⟩ => ⟨by rw [h1, h]; rfl, h2⟩
theorem rput_ret (k f : Int) (b x : ByteArray) (e : Nat) (h : fpS k f b = (x, e)) (w : World) (h1 : -9223372036854775808 ≤ k) (h2 : k ≤ 9223372036854775807) (h3 : -9223372036854775808 ≤ f) (h4 : f ≤ 9223372036854775807) (hs : b.size ≤ 140737488355327) :
    Calls Try.prog 7 #[.agg #[.int .i64 k, .int .i64 f, .string b]] w fun y w' => y = .returned (.tuple #[.string x, .int .i64 e]) ∧ Below w.heap.size w w' :=
  (rput_any k f b w h1 h2 h3 h4 hs).mono fun _ _ ⟨h1, h2⟩ => ⟨by rw [h1, h]; rfl, h2⟩

theorem fp_ping : fpS 5 0 ⟨#[]⟩ = (⟨#[5, 0, 0, 0]⟩, 0) := by
  rw [fpS_good 5 0 ⟨#[]⟩ (by decide) (by decide) (by decide)]
  refine Prod.ext (bytes_eq ?_) rfl
  rw [app_list]; rfl
set_option maxRecDepth 100000 in
theorem awake_any (w : World) :
    Calls Try.prog 12 #[] w fun e w' => e = .returned (.bool true) ∧ Below w.heap.size w w' := by
  go_enter Try.func12, Try.ntmps12
  go_wp2_with (go_at_call 6; refine (put_ret _ _ _ _ _ fp_ping _ (by omega) (by omega) (by omega) (by omega) (by decide)).mono ?_; rintro e w' ⟨rfl, hb⟩)
  go_ret
  exact ⟨rfl, hb⟩

set_option maxRecDepth 100000 in
set_option maxHeartbeats 1000000 in
theorem puts_walk (k f : Int) (b : ByteArray) (n : Int) (w : World) (h1 : -9223372036854775808 ≤ k) (h2 : k ≤ 9223372036854775807) (h3 : -9223372036854775808 ≤ f) (h4 : f ≤ 9223372036854775807) (hs : b.size ≤ 140737488355327) (h5 : -9223372036854775808 ≤ n) (h6 : n ≤ 9223372036854775807) :
    Calls Try.prog 3 #[.agg #[.int .i64 k, .int .i64 f, .string b], .int .i64 n] w fun e w' => e = .returned (.bool true) ∧ Below w.heap.size w w' := by
  obtain ⟨x, e, hp⟩ : ∃ x e, fpS k f b = (x, e) := ⟨_, _, rfl⟩
  have HP := Lib.hid hp
  clear hp
  have hB := (Below.refl w.heap.size w).alloc (Nat.le_refl _) (.cells #[.int .i64 k, .int .i64 f, .string b] 23)
  have hC := Cs.new w [.int .i64 k, .int .i64 f, .string b] 23
  go_enter Try.func3, Try.ntmps3
  go_wp2_with (first
    | (go_at_call 6; refine (put_ret k f b _ _ HP.out _ h1 h2 h3 h4 hs).mono ?_; rintro e w2 ⟨rfl, hb⟩; replace hB := hB.trans (hb.mono hB.size); replace hC := hC.below hb hC.lt; obtain ⟨⟨c0, c1, c2⟩, _⟩ := hC.three; clear hb)
    | (go_at_call 7; refine (rput_ret k f b _ _ HP.out _ h1 h2 h3 h4 hs).mono ?_; rintro e w3 ⟨rfl, hb⟩; replace hB := hB.trans (hb.mono hB.size); clear hb)
    | (go_at_call 8; refine (cost_any n _ h5 h6).mono ?_; rintro e w4 ⟨rfl, rfl⟩)
    | (go_at_call 9; refine (rcost_any n _ h5 h6).mono ?_; rintro e w4 ⟨rfl, rfl⟩)
    | (go_at_call 10; refine (asks_any n _).mono ?_; rintro e w4 ⟨rfl, rfl⟩)
    | (go_at_call 11; refine (rasks_any n _).mono ?_; rintro e w4 ⟨rfl, rfl⟩)
    | (go_at_call 12; refine (awake_any _).mono ?_; rintro e w4 ⟨rfl, hb⟩; replace hB := hB.trans (hb.mono hB.size); clear hb))
  go_ret
  exact ⟨rfl, hB⟩
end Go.Proofs.Ytgihiejbaimljaa.Fr
