/- Values: the contracts of the program's char, quote, tag. (Printed by gen/quote.py.) -/
import Derived.Test.YthgaipdhgckmdaaDoorVaPBuf
import Derived.Test.YthgaipdhgckmdaaDoorVaOpen
import Derived.StillTailTactics
namespace Go.Proofs.YthgaipdhgckmdaaDoor.Va
open Go.RowKit Cm
set_option linter.unusedVariables false
set_option linter.unusedSimpArgs false

theorem and15 : ∀ c : Nat, c < 256 → bits BinOp.and IntKind.u8 (c : Int) 15 = ((c % 16 : Nat) : Int) := by decide +kernel
theorem fig_idx (q : Nat) (hq : q < 16) (W : World) : (Instr.index 9 (.string ⟨#[48, 49, 50, 51, 52, 53, 54, 55, 56, 57, 97, 98, 99, 100, 101, 102]⟩) (.int .u8 (q : Int))).run Tryd.prog W = .ok (.int .u8 ((fgB q).toNat : Nat)) W := by
  rcases (by omega : q = 0 ∨ q = 1 ∨ q = 2 ∨ q = 3 ∨ q = 4 ∨ q = 5 ∨ q = 6 ∨ q = 7 ∨ q = 8 ∨ q = 9 ∨ q = 10 ∨ q = 11 ∨ q = 12 ∨ q = 13 ∨ q = 14 ∨ q = 15) with rfl | rfl | rfl | rfl | rfl | rfl | rfl | rfl | rfl | rfl | rfl | rfl | rfl | rfl | rfl | rfl <;> kernel_rfl
set_option maxRecDepth 100000 in
set_option maxHeartbeats 1000000 in
theorem charA_any (B : Nat) (v : Value) (l : List UInt8) (c : Nat) (w : World) (hc : c < 256) (h : Bt B v l w) (hB : B ≤ w.heap.size) (hlim : l.length ≤ 100000000) (g1 : ¬ (32 : Int) ≤ (c : Int)) :
    Calls Tryd.prog 68 #[v, .int .u8 (c : Nat)] w (Gv B w (l ++ [92, fgB (c / 16), fgB (c % 16)])) := by
  obtain ⟨q, hq⟩ : ∃ q, q = c / 16 := ⟨_, rfl⟩
  obtain ⟨r, hr⟩ : ∃ r, r = c % 16 := ⟨_, rfl⟩
  rw [← hq, ← hr]
  have hdv : (c : Int) / 16 = (q : Int) := by omega
  have han : bits BinOp.and IntKind.u8 (c : Int) 15 = (r : Int) := by rw [and15 c hc, hr]
  have hi1 := fig_idx q (by omega)
  have hi2 := fig_idx r (by omega)
  obtain ⟨d, hd⟩ : ∃ d, d = fgB q := ⟨_, rfl⟩
  obtain ⟨u, hu⟩ : ∃ u, u = fgB r := ⟨_, rfl⟩
  rw [← hd] at hi1 ⊢
  rw [← hu] at hi2 ⊢
  have H := Lib.hid h
  clear h hq hr hd hu
  go_enter Tryd.func68, Tryd.ntmps68
  go_wp2
  go_region_held3 (fun w' => Below B w w' ∧ Lib.OthersKept 5 none w w') (first | exact ⟨(Below.refl B w).drew, (Lib.OthersKept.refl _ _ w).drew⟩ | exact ⟨((Below.refl B w).drew).alloc hB _, ((Lib.OthersKept.refl _ _ w).drew).alloc _⟩ | exact ⟨(Below.refl _ _).drew.trans hb2, hk2⟩) (first
    | (rw [if_pos (by rfl)]; refine app_wp (.tmp 23) (.tmp 30) rfl B v l [92, d, u] _ _ _ rfl rfl rfl rfl rfl H.out.drew hB (by simp; omega) ?_; intro v2 w2 h2 hb2 hk2))
  all_goals (
    go_wp2
    go_ret
    exact ⟨v2, rfl, h2, (Below.refl _ _).drew.trans hb2, hk2⟩)
set_option maxRecDepth 100000 in
set_option maxHeartbeats 1000000 in
theorem charB_any (B : Nat) (v : Value) (l : List UInt8) (c : Nat) (w : World) (hc : c < 256) (h : Bt B v l w) (hB : B ≤ w.heap.size) (hlim : l.length ≤ 100000000) (g1 : (32 : Int) ≤ (c : Int)) (g2 : ¬ (c : Int) ≤ 126) :
    Calls Tryd.prog 68 #[v, .int .u8 (c : Nat)] w (Gv B w (l ++ [92, fgB (c / 16), fgB (c % 16)])) := by
  obtain ⟨q, hq⟩ : ∃ q, q = c / 16 := ⟨_, rfl⟩
  obtain ⟨r, hr⟩ : ∃ r, r = c % 16 := ⟨_, rfl⟩
  rw [← hq, ← hr]
  have hdv : (c : Int) / 16 = (q : Int) := by omega
  have han : bits BinOp.and IntKind.u8 (c : Int) 15 = (r : Int) := by rw [and15 c hc, hr]
  have hi1 := fig_idx q (by omega)
  have hi2 := fig_idx r (by omega)
  obtain ⟨d, hd⟩ : ∃ d, d = fgB q := ⟨_, rfl⟩
  obtain ⟨u, hu⟩ : ∃ u, u = fgB r := ⟨_, rfl⟩
  rw [← hd] at hi1 ⊢
  rw [← hu] at hi2 ⊢
  have H := Lib.hid h
  clear h hq hr hd hu
  go_enter Tryd.func68, Tryd.ntmps68
  go_wp2
  go_region_held3 (fun w' => Below B w w' ∧ Lib.OthersKept 5 none w w') (first | exact ⟨(Below.refl B w).drew, (Lib.OthersKept.refl _ _ w).drew⟩ | exact ⟨((Below.refl B w).drew).alloc hB _, ((Lib.OthersKept.refl _ _ w).drew).alloc _⟩ | exact ⟨(Below.refl _ _).drew.trans hb2, hk2⟩) (first
    | (rw [if_pos (by rfl)]; refine app_wp (.tmp 23) (.tmp 30) rfl B v l [92, d, u] _ _ _ rfl rfl rfl rfl rfl H.out.drew hB (by simp; omega) ?_; intro v2 w2 h2 hb2 hk2))
  all_goals (
    go_wp2
    go_ret
    exact ⟨v2, rfl, h2, (Below.refl _ _).drew.trans hb2, hk2⟩)
set_option maxRecDepth 100000 in
set_option maxHeartbeats 1000000 in
theorem charC_any (B : Nat) (v : Value) (l : List UInt8) (c : Nat) (w : World) (hc : c < 256) (h : Bt B v l w) (hB : B ≤ w.heap.size) (hlim : l.length ≤ 100000000) (g1 : (32 : Int) ≤ (c : Int)) (g2 : (c : Int) ≤ 126) (g3 : ((c : Int) != 34) = false) :
    Calls Tryd.prog 68 #[v, .int .u8 (c : Nat)] w (Gv B w (l ++ [92, fgB (c / 16), fgB (c % 16)])) := by
  obtain ⟨q, hq⟩ : ∃ q, q = c / 16 := ⟨_, rfl⟩
  obtain ⟨r, hr⟩ : ∃ r, r = c % 16 := ⟨_, rfl⟩
  rw [← hq, ← hr]
  have hdv : (c : Int) / 16 = (q : Int) := by omega
  have han : bits BinOp.and IntKind.u8 (c : Int) 15 = (r : Int) := by rw [and15 c hc, hr]
  have hi1 := fig_idx q (by omega)
  have hi2 := fig_idx r (by omega)
  obtain ⟨d, hd⟩ : ∃ d, d = fgB q := ⟨_, rfl⟩
  obtain ⟨u, hu⟩ : ∃ u, u = fgB r := ⟨_, rfl⟩
  rw [← hd] at hi1 ⊢
  rw [← hu] at hi2 ⊢
  have H := Lib.hid h
  clear h hq hr hd hu
  go_enter Tryd.func68, Tryd.ntmps68
  go_wp2
  go_region_held3 (fun w' => Below B w w' ∧ Lib.OthersKept 5 none w w') (first | exact ⟨(Below.refl B w).drew, (Lib.OthersKept.refl _ _ w).drew⟩ | exact ⟨((Below.refl B w).drew).alloc hB _, ((Lib.OthersKept.refl _ _ w).drew).alloc _⟩ | exact ⟨(Below.refl _ _).drew.trans hb2, hk2⟩) (first
    | (rw [if_pos (by rfl)]; refine app_wp (.tmp 23) (.tmp 30) rfl B v l [92, d, u] _ _ _ rfl rfl rfl rfl rfl H.out.drew hB (by simp; omega) ?_; intro v2 w2 h2 hb2 hk2))
  all_goals (
    go_wp2
    go_ret
    exact ⟨v2, rfl, h2, (Below.refl _ _).drew.trans hb2, hk2⟩)
set_option maxRecDepth 100000 in
set_option maxHeartbeats 1000000 in
theorem charD_any (B : Nat) (v : Value) (l : List UInt8) (c : Nat) (w : World) (hc : c < 256) (h : Bt B v l w) (hB : B ≤ w.heap.size) (hlim : l.length ≤ 100000000) (g1 : (32 : Int) ≤ (c : Int)) (g2 : (c : Int) ≤ 126) (g3 : ((c : Int) != 34) = true) (g4 : ((c : Int) != 92) = false) :
    Calls Tryd.prog 68 #[v, .int .u8 (c : Nat)] w (Gv B w (l ++ [92, fgB (c / 16), fgB (c % 16)])) := by
  obtain ⟨q, hq⟩ : ∃ q, q = c / 16 := ⟨_, rfl⟩
  obtain ⟨r, hr⟩ : ∃ r, r = c % 16 := ⟨_, rfl⟩
  rw [← hq, ← hr]
  have hdv : (c : Int) / 16 = (q : Int) := by omega
  have han : bits BinOp.and IntKind.u8 (c : Int) 15 = (r : Int) := by rw [and15 c hc, hr]
  have hi1 := fig_idx q (by omega)
  have hi2 := fig_idx r (by omega)
  obtain ⟨d, hd⟩ : ∃ d, d = fgB q := ⟨_, rfl⟩
  obtain ⟨u, hu⟩ : ∃ u, u = fgB r := ⟨_, rfl⟩
  rw [← hd] at hi1 ⊢
  rw [← hu] at hi2 ⊢
  have H := Lib.hid h
  clear h hq hr hd hu
  go_enter Tryd.func68, Tryd.ntmps68
  go_wp2
  go_region_held3 (fun w' => Below B w w' ∧ Lib.OthersKept 5 none w w') (first | exact ⟨(Below.refl B w).drew, (Lib.OthersKept.refl _ _ w).drew⟩ | exact ⟨((Below.refl B w).drew).alloc hB _, ((Lib.OthersKept.refl _ _ w).drew).alloc _⟩ | exact ⟨(Below.refl _ _).drew.trans hb2, hk2⟩) (first
    | (rw [if_pos (by rfl)]; refine app_wp (.tmp 23) (.tmp 30) rfl B v l [92, d, u] _ _ _ rfl rfl rfl rfl rfl H.out.drew hB (by simp; omega) ?_; intro v2 w2 h2 hb2 hk2))
  all_goals (
    go_wp2
    go_ret
    exact ⟨v2, rfl, h2, (Below.refl _ _).drew.trans hb2, hk2⟩)
set_option maxRecDepth 100000 in
set_option maxHeartbeats 1000000 in
theorem charE_any (B : Nat) (v : Value) (l : List UInt8) (c : Nat) (w : World) (hc : c < 256) (h : Bt B v l w) (hB : B ≤ w.heap.size) (hlim : l.length ≤ 100000000) (g1 : (32 : Int) ≤ (c : Int)) (g2 : (c : Int) ≤ 126) (g3 : ((c : Int) != 34) = true) (g4 : ((c : Int) != 92) = true) (b : UInt8) (hb : b.toNat = c) :
    Calls Tryd.prog 68 #[v, .int .u8 (c : Nat)] w (Gv B w (l ++ [b])) := by
  have H := Lib.hid h
  clear h
  subst hb
  go_enter Tryd.func68, Tryd.ntmps68
  go_wp2_with (at_builtin; refine app_lit rfl _ _ rfl B v l [b] _ _ _ rfl rfl rfl rfl rfl H.out hB (by simp; omega) ?_; intro v2 w2 h2 hb2 hk2)
  go_ret
  exact ⟨v2, rfl, h2, hb2, hk2⟩
theorem char_any (B : Nat) (v : Value) (l : List UInt8) (c : UInt8) (w : World) (h : Bt B v l w) (hB : B ≤ w.heap.size) (hlim : l.length ≤ 100000000) :
    Calls Tryd.prog 68 #[v, .int .u8 (c.toNat : Nat)] w (Gv B w (l ++ quB c)) := by
  have hc := UInt8.toNat_lt c
  by_cases h1 : 32 ≤ c.toNat
  · by_cases h2 : c.toNat ≤ 126
    · by_cases h3 : c.toNat = 34
      · have e : quB c = [92, fgB (c.toNat / 16), fgB (c.toNat % 16)] := by unfold quB; rw [if_pos (by omega)]
        rw [e]; exact charC_any B v l _ w hc h hB hlim (by omega) (by omega) (by rw [h3]; rfl)
      · by_cases h4 : c.toNat = 92
        · have e : quB c = [92, fgB (c.toNat / 16), fgB (c.toNat % 16)] := by unfold quB; rw [if_pos (by omega)]
          rw [e]; exact charD_any B v l _ w hc h hB hlim (by omega) (by omega) (by simp; omega) (by rw [h4]; rfl)
        · have e : quB c = [c] := by unfold quB; rw [if_neg (by omega)]
          rw [e]; exact charE_any B v l _ w hc h hB hlim (by omega) (by omega) (by simp; omega) (by simp; omega) c rfl
    · have e : quB c = [92, fgB (c.toNat / 16), fgB (c.toNat % 16)] := by unfold quB; rw [if_pos (by omega)]
      rw [e]; exact charB_any B v l _ w hc h hB hlim (by omega) (by omega)
  · have e : quB c = [92, fgB (c.toNat / 16), fgB (c.toNat % 16)] := by unfold quB; rw [if_pos (by omega)]
    rw [e]; exact charA_any B v l _ w hc h hB hlim (by omega)
theorem char_ret {n : Int} {c : UInt8} (hn : n = (c.toNat : Nat)) (B : Nat) (v : Value) (l : List UInt8) (w : World) (h : Bt B v l w) (hB : B ≤ w.heap.size) (hlim : l.length ≤ 100000000) :
    Calls Tryd.prog 68 #[v, .int .u8 n] w (Gv B w (l ++ quB c)) := by
  subst hn; exact char_any B v l c w h hB hlim
theorem qu_take (l : List UInt8) (i : Nat) (c : UInt8) (h : l[i]? = some c) : (l.take (i + 1)).flatMap quB = (l.take i).flatMap quB ++ quB c := by
  rw [List.take_add_one, h, List.flatMap_append]; simp
theorem qu_cut (l : List UInt8) (i : Nat) : ((l.take i).flatMap quB).length ≤ 3 * i := by
  have : ∀ l : List UInt8, (l.flatMap quB).length ≤ 3 * l.length := fun l => by
    induction l with
    | nil => simp
    | cons a l ih =>
      rw [List.flatMap_cons, List.length_append, List.length_cons]
      have : (quB a).length ≤ 3 := by unfold quB; split <;> simp
      omega
  have h := this (l.take i)
  have h2 : (l.take i).length ≤ i := by simp; omega
  omega
theorem qu_room {l : List UInt8} (L : List UInt8) {j : Nat} (hl : l.length ≤ 10000000) (hj : j ≤ 2000) : (l ++ 34 :: (L.take j).flatMap quB).length ≤ 10006001 := by
  have := qu_cut L j
  rw [List.length_append, List.length_cons]; omega
set_option maxRecDepth 100000 in
set_option maxHeartbeats 1000000 in
theorem quote_any (B : Nat) (v : Value) (l : List UInt8) (s : ByteArray) (w : World) (h : Bt B v l w) (hB : B ≤ w.heap.size) (hs : s.size ≤ 2000) (hlim : l.length ≤ 10000000) :
    Calls Tryd.prog 49 #[v, .string s] w (Gv B w (l ++ quL s.data.toList)) := by
  have hsl : s.data.toList.length = s.size := Array.length_toList
  have H := Lib.hid h
  clear h
  go_enter Tryd.func49, Tryd.ntmps49
  go_wp2_with (at_builtin; refine app_lit rfl _ _ rfl B v l [34] _ _ _ rfl rfl rfl rfl rfl H.out hB (by simp; omega) ?_; intro v2 w2 h2 hb2 hk2)
  go_loopw [0, 11] (fun b i wr => ∃ j, j ≤ s.size ∧ i = .int .i64 (j : Nat) ∧ Hid (Bt B b (l ++ 34 :: (s.data.toList.take j).flatMap quB) wr) ∧ Hid (Below B w wr) ∧ Hid (Lib.OthersKept 5 none w wr)) (fun b i _ => s.size - (intOf i).toNat)
  case atStart => exact ⟨0, by omega, rfl, by rw [List.take_zero, List.flatMap_nil]; exact h2, hb2, hk2⟩
  case round =>
    rename_i bv bi
    obtain ⟨j, hj, rfl, HT, HB, HK⟩ := hrel
    clear h2 hb2 hk2
    have hsz := HB.out.size
    by_cases hjl : j < s.size
    · have hji : (j : Int) < (s.size : Int) := by omega
      obtain ⟨c, hcj⟩ : ∃ c, s.data.toList[j]? = some c := ⟨_, List.getElem?_eq_getElem (by omega)⟩
      have hcv : (s[j].toNat : Int) = (c.toNat : Nat) := by
        have : s.data.toList[j] = c := by rw [List.getElem?_eq_getElem (by omega)] at hcj; exact Option.some.inj hcj
        rw [← this]; rfl
      have hnx := Lib.hid (qu_take s.data.toList j c hcj)
      have HC := Lib.hid hcv
      clear hcj hcv
      go_wp2_with (go_at_call 68; refine (char_ret HC.out B _ _ _ HT.out (Nat.le_trans hB hsz) (by have := qu_room (l := l) s.data.toList (j := j) hlim (by omega); omega)).mono ?_; rintro e w3 ⟨v3, rfl, h3, hb3, hk3⟩)
      go_roundw
      case rel => exact ⟨j + 1, by omega, by go_num, by rw [hnx.out, ← List.cons_append, ← List.append_assoc]; exact h3, HB.out.trans hb3, HK.out.trans hk3⟩
      case measure => simp [intOf]; omega
    · have hji : ¬ (j : Int) < (s.size : Int) := by omega
      obtain rfl : j = s.size := by omega
      go_wp2_with (at_builtin; (refine app_lit rfl (.tmp 20) (.tmp 21) rfl B _ (l ++ 34 :: (s.data.toList.take s.size).flatMap quB) [34] _ _ _ rfl rfl rfl rfl rfl HT.out (Nat.le_trans hB hsz) (by have := qu_room (l := l) s.data.toList (j := s.size) hlim (by omega); show _ + 1 ≤ _; omega) ?_); intro v3 w3 h3 hb3 hk3)
      go_ret
      refine ⟨v3, rfl, ?_, HB.out.trans hb3, HK.out.trans hk3⟩
      have e : (l ++ 34 :: (s.data.toList.take s.size).flatMap quB) ++ [34] = l ++ quL s.data.toList := by
        rw [List.take_of_length_le (by omega)]; unfold quL; simp
      rw [e] at h3
      exact h3
end Go.Proofs.YthgaipdhgckmdaaDoor.Va
