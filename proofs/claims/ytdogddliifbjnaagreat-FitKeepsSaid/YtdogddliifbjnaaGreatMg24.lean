/- Schemas: Decls; desc.Of. -/
import Derived.Deep.RegionHeld3
import Derived.Test.YtdogddliifbjnaaGreatMg04
import Derived.Test.YtdogddliifbjnaaGreatMg15
import Derived.Test.YtdogddliifbjnaaGreatMg23
namespace Go.Proofs.YtdogddliifbjnaaGreat.Ck
open Go.RowKit Cm
open _root_.Go.Proofs.YtdogddliifbjnaaGreat.Nm
set_option linter.unusedVariables false
set_option linter.unusedSimpArgs false

theorem mp_cut {B n m : Nat} {S : Nat → ByteArray} {K : Nat → Int} {w : World} (h : Mp B n S K w) (hm : m ≤ B) : Mp B n S K (cut (lo m) w) := by
  obtain ⟨D, ⟨es, clock, h1, h2⟩, r⟩ := h
  exact ⟨D, ⟨es, clock, by rw [cut_block, lo_neg hm]; exact h1, h2⟩, r⟩
theorem cell_cut {m : Nat} {a : Addr} {w : World} (hm : m ≤ a.block) : (cut (lo m) w).cell? a = w.cell? a := World.cell?_of_block (by rw [cut_block, lo_neg hm]; rfl)
theorem tb_cut {T B n m : Nat} {S : Nat → ByteArray} {K : Nat → Int} {w : World} (hT : m ≤ T) (hB : m ≤ B) (h1 : w.cell? ⟨T, 0, none⟩ = some (.map (some B))) (h2 : T < w.heap.size) (h3 : Mp B n S K w) : Tb T n S K (cut (lo m) w) :=
  ⟨B, by rw [cell_cut (a := ⟨T, 0, none⟩) hT]; exact h1, by rw [cut_size]; exact h2, mp_cut h3 hB⟩
set_option maxRecDepth 100000 in
set_option maxHeartbeats 1000000 in
theorem of_cut (o : Option Addr) (len cap : Nat) (D : Dl) (w : World) (h : Dx o len D w) :
    Calls Tryz.prog 30 #[.slice o len cap] w fun e w' => ∃ T, e = .returned (.pointer (some ⟨T, 0, none⟩)) ∧ w.heap.size ≤ T ∧ Tb T len D.S D.K (cut (lo w.heap.size) w') ∧ Below w.heap.size w w' := by
  have hlen := h.2
  have hlen2 : len ≤ 9223372036854775807 := by omega
  have hmm := @run_makeMap Tryz.prog
  have H := Lib.hid h
  clear h
  have hM0 := Lib.hid (Mp.made w D.S D.K)
  have hB0 := Lib.hid ((Below.refl w.heap.size w).alloc (Nat.le_refl _) (.map #[] 0))
  go_enter Tryz.func30, Tryz.ntmps30
  go_wp2
  go_loopw [11] (fun i wr => ∃ j, j ≤ len ∧ i = .int .i64 (j : Nat) ∧ Hid (Mp w.heap.size j D.S D.K wr) ∧ Hid (Below w.heap.size w wr)) (fun i _ => len - (intOf i).toNat)
  case atStart => exact ⟨0, by omega, rfl, hM0, hB0⟩
  case round =>
    obtain ⟨j, hj, rfl, HM, HB⟩ := hrel
    clear hM0 hB0
    by_cases hjl : j < len
    · have hji : (j : Int) < (len : Int) := by omega
      have hsz := HB.out.size
      obtain ⟨a, Ab, Ao, As, rfl, hA, hAb, c0, c1, c2, c3, c4⟩ := Dx.place (H.out.below HB.out (Nat.le_refl _)) hjl
      have hSj := (H.out.1 j hjl).choose_spec.2.2.2.1
      have hSm : (D.S j).size ≤ maxLen := by unfold maxLen; omega
      have hBlt := HM.out.lt
      have hC := ((Cs.new wr [.int .i64 (D.K j), .string (D.S j), .slice (D.fo j) (D.fl j) (D.fc j), .slice (D.mo j) (D.ml j) (D.mc j), .int .i64 (D.A j)] 43).alloc (.cells #[.int .i64 (plS D.S (D.S j) j), .int .i64 (knS D.S D.K (D.S j) j)] 123))
      have hM2 := (HM.out.alloc (.cells #[.int .i64 (D.K j), .string (D.S j), .slice (D.fo j) (D.fl j) (D.fc j), .slice (D.mo j) (D.ml j) (D.mc j), .int .i64 (D.A j)] 43))
      have hrun := hM2.look (D.S j) hSm
      replace hM2 := Lib.hid (hM2.alloc (.cells #[.int .i64 (plS D.S (D.S j) j), .int .i64 (knS D.S D.K (D.S j) j)] 123))
      have hB2 := Lib.hid ((HB.out.alloc hsz (.cells #[.int .i64 (D.K j), .string (D.S j), .slice (D.fo j) (D.fl j) (D.fc j), .slice (D.mo j) (D.ml j) (D.mc j), .int .i64 (D.A j)] 43)).alloc (by simp; omega) (.cells #[.int .i64 (plS D.S (D.S j) j), .int .i64 (knS D.S D.K (D.S j) j)] 123))
      cases hf : fiS D.S (D.S j) j with
      | some i =>
        rw [isS_some hf] at hrun
        clear hC
        go_wp2
        go_roundw
        case rel => exact ⟨j + 1, by omega, by go_num, hM2.out.skip hf, hB2.out⟩
        case measure => simp [intOf]; omega
      | none =>
        rw [isS_none hf] at hrun
        have d0 := hC.drew.cell (i := 0) rfl
        have d1 := hC.drew.cell (i := 1) rfl
        have HC := Lib.hid hC
        clear hC
        go_wp2
        go_region_held3 (fun w' => w'.cell? ⟨wr.heap.size, 0, none⟩ = some (.int .i64 (D.K j)) ∧ w'.cell? ⟨wr.heap.size, 1, none⟩ = some (.string (D.S j))) (first | exact ⟨d0, d1⟩ | exact hS4 | exact hS5) (first
          | (go_at_call 55; refine (clone_any _ _ (by omega)).mono ?_; rintro e w4 ⟨rfl, hb4⟩; have hsz4 : wr.heap.size + 2 ≤ w4.heap.size := (by have hq := hb4.size; simp at hq; omega); have hC4 := HC.out.drew.below hb4 HC.out.drew.lt; have hS4 := And.intro (hC4.cell (i := 0) rfl) (hC4.cell (i := 1) rfl); obtain ⟨w5, hst, hM5, hg5⟩ := (hM2.out.drew.below hb4 hM2.out.drew.lt).store hf hSm (by unfold maxLen; omega); have hC5 := hC4.grown hg5 (by simp; omega); have hS5 := And.intro (hC5.cell (i := 0) rfl) (hC5.cell (i := 1) rfl)))
        go_wp2
        go_roundw
        case rel => exact ⟨j + 1, by omega, by go_num, hM5, (hB2.out.drew.trans (hb4.mono (by simp; omega))).grown hg5 (by omega) (fun k hk => by cases hk; exact Nat.le_refl _)⟩
        case measure => simp [intOf]; omega
    · have hji : ¬ (j : Int) < (len : Int) := by omega
      obtain rfl : j = len := by omega
      have hBlt := HM.out.lt
      have hsz := HB.out.size
      go_wp2
      go_ret
      exact ⟨wr.heap.size, rfl, hsz, tb_cut hsz (Nat.le_refl _) ((Cs.new wr [.map (some w.heap.size)] 126).cell (i := 0) rfl) (by simp) (HM.out.alloc _), HB.out.alloc hsz _⟩

set_option maxRecDepth 100000 in
set_option maxHeartbeats 1000000 in
theorem decls_de (F : Nat → Bool) (B : Nat) (L : Sc) (w : World) (h : De F B L w) :
    Calls Tryz.prog 17 #[.pointer (some ⟨B, 0, none⟩)] w fun e w' => ∃ o c X U V, e = .returned (.slice o L.n c) ∧ Ds o L.n X U V (cut (lo w.heap.size) w') ∧ (∀ i, i < L.n → (X i).K = L.K i ∧ (X i).S = L.S i) ∧ Below w.heap.size w w' := by
  obtain ⟨_, _, _, o, c, T, X, U, V, hk, hc⟩ := h
  have c0 : w.cell? ⟨B, 0, none⟩ = some (.slice o L.n c) := by
    rcases hc with hc | ⟨m, hc, _⟩
    · exact hc.cell (i := 0) rfl
    · exact hc.cell (i := 0) rfl
  have HK := Lib.hid hk
  clear hk hc
  go_enter Tryz.func17, Tryz.ntmps17
  go_wp2_with (first
    | (go_at_call 31; go_in)
    | (go_at_call 28; go_loud (refine (eachdecl_any o L.n c X U V _ (HK.out.d.sub (cut_all F w))).mono ?_; rintro e w3 ⟨o3, c3, X3, U3, V3, rfl, hb3, hD3, hq3⟩; have HB3 := Lib.hid hb3; have HD3 := Lib.hid hD3; have HQ3 := Lib.hid hq3; clear hb3 hD3 hq3)))
  go_ret
  exact ⟨_, _, X3, U3, V3, rfl, HD3.out, fun i hi => ⟨(HQ3.out i hi).1.trans (HK.out.l i hi).2.1, (HQ3.out i hi).2.1.trans (HK.out.l i hi).1⟩, HB3.out⟩
set_option maxRecDepth 100000 in
set_option maxHeartbeats 1000000 in
theorem decls_de0 (w : World) :
    Calls Tryz.prog 17 #[.pointer none] w fun e w' => e = .returned (.slice none 0 0) ∧ Below w.heap.size w w' := by
  go_enter Tryz.func17, Tryz.ntmps17
  go_wp2
  go_ret
  exact ⟨rfl, Below.refl _ _⟩
end Go.Proofs.YtdogddliifbjnaaGreat.Ck
/- Schemas: the contract of desc.Of. -/
namespace Go.Proofs.YtdogddliifbjnaaGreat.Ck
open Go.RowKit Cm
open _root_.Go.Proofs.YtdogddliifbjnaaGreat.Nm
set_option linter.unusedVariables false
set_option linter.unusedSimpArgs false

theorem gr_smB {D : Dl} {F : Nat → Fy} {n : Nat} (h : grB D F n = false) : ∀ i k, i < n → k < D.fl i → smB ((F i).Y k) 0 = true := fun i k hi hk => by
  have := anB_false.1 h i hi
  unfold gpB at this
  simp only [Bool.or_eq_false_iff, decide_eq_false_iff_not] at this
  simpa using anB_false.1 this.2 k hk
def xD (D : Dl) (i : Nat) : Dz := ⟨D.K i, D.S i, D.fo i, D.fl i, D.fc i, D.mo i, D.ml i, D.mc i, D.A i⟩
def uF (F : Nat → Fy) (i j : Nat) : Fz := ⟨(F i).T j, (F i).N j, (F i).Y j⟩
def vM (M : Nat → Ml) (i j : Nat) : Mz := ⟨(M i).T j, (M i).N j, (M i).I j, (M i).O j, (M i).W j⟩
def scL (D : Dl) (F : Nat → Fy) (n : Nat) : Sc := ⟨n, D.K, D.S, fun i => rowL (uF F i) (D.fl i)⟩
theorem ds_of {o : Option Addr} {n : Nat} {D : Dl} {F : Nat → Fy} {M : Nat → Ml} {w : World} (h : Ax o n D F M w) (hg : grB D F n = false) : Ds o n (xD D) (uF F) (vM M) w := by
  have hs := gr_small hg
  refine ⟨fun i hi => ?_, by have := hs.le; omega, fun i hi => ⟨⟨fun j hj => ?_, by show D.fl i ≤ 1000; have := hs.fl i hi; omega, fun j hj => ?_⟩, ⟨fun j hj => ?_, by show D.ml i ≤ 1000; have := hs.ml i hi; omega, fun j hj => ?_⟩, ?_, ?_, ?_⟩⟩
  · obtain ⟨a, h1, h2, h3, _⟩ := h.1.1 i hi
    exact ⟨a, h1, h2, h3⟩
  · obtain ⟨a, h1, h2, h3, _⟩ := (h.2 i hi).1.1.1 j hj
    exact ⟨a, h1, h2, h3⟩
  · obtain ⟨a, h1, h2, h3, h4, h5⟩ := (h.2 i hi).1.1.1 j hj
    obtain ⟨g1, g2⟩ := (h.2 i hi).1.2 j hj
    exact ⟨g1, th_of 21 _ 0 (gr_smB hg i j hi hj) (by omega), g2, h4, h5⟩
  · obtain ⟨a, h1, h2, h3, _⟩ := (h.2 i hi).2.1 j hj
    exact ⟨a, h1, h2, h3⟩
  · obtain ⟨a, h1, h2, h3, h4, h5, h6⟩ := (h.2 i hi).2.1 j hj
    exact ⟨h4, h5, h6⟩
  · obtain ⟨a, h1, h2, h3, h4, h5, h6⟩ := h.1.1 i hi; exact h4
  · obtain ⟨a, h1, h2, h3, h4, h5, h6⟩ := h.1.1 i hi; exact h5
  · obtain ⟨a, h1, h2, h3, h4, h5, h6⟩ := h.1.1 i hi; exact h6
theorem ck_ok {D : Dl} {F : Nat → Fy} {M : Nat → Ml} {n : Nat} (h : ckE D F M n = 0) (hn : n ≤ 1000) : (scL D F n).ok := by
  have h0 : fzE (dcE D F M n) n = 0 := by
    unfold ckE at h
    cases e : fzE (dcE D F M n) n with
    | zero => rfl
    | succ k => rw [e] at h; cases h
  have h1 : ∀ i, i < n → dcE D F M n i = 0 := fzE_zero.1 h0
  have h2 : ∀ i, i < n → fiS D.S (D.S i) i = none ∧ rwE D.S D.K n (D.K i) (D.fl i) (D.ml i) (F i) (M i) = 0 := fun i hi => by
    have := h1 i hi
    unfold dcE at this
    cases e : fiS D.S (D.S i) i with
    | some p => rw [e] at this; cases this
    | none => rw [e] at this; exact ⟨rfl, this⟩
  refine ⟨hn, fun i hi => (h2 i hi).1, fun i hi => ?_⟩
  have h3 := (h2 i hi).2
  unfold rwE at h3
  have h4 : fzE (fdE D.S D.K n (D.K i) (F i)) (D.fl i) = 0 := by
    split at h3
    · cases h3
    · cases e : fzE (fdE D.S D.K n (D.K i) (F i)) (D.fl i) with
      | zero => rfl
      | succ k => rw [e] at h3; cases h3
  have h5 := fzE_zero.1 h4
  show ((rowL (uF F i) (D.fl i)).map Prod.fst).Nodup
  rw [List.nodup_iff_pairwise_ne]
  unfold rowL
  rw [List.map_map, List.pairwise_map]
  refine List.Pairwise.imp_of_mem (R := fun a b => a < b) (fun {a b} ha hb hab => ?_) List.pairwise_lt_range
  have h6 := h5 b (List.mem_range.1 hb)
  unfold fdE at h6
  split at h6
  · cases h6
  · split at h6
    · cases h6
    · rename_i hq
      have hq2 := anB_false.1 (by simpa using hq) a hab
      simp at hq2
      exact hq2.1
theorem sub_mid {m : Nat} {a b : World} {S : Nat → Bool} (hs : a.heap.size ≤ b.heap.size) (h1 : ∀ k, m ≤ k → k < a.heap.size → b.heap[k]? = a.heap[k]?) (h2 : ∀ k, m ≤ k → k < a.heap.size → S k = false) : Sub (cut (lo m) a) (cut S b) := by
  refine ⟨by rw [cut_size, cut_size]; exact hs, fun k o h3 h4 => ?_⟩
  have hk := (Array.getElem?_eq_some_iff.1 h3).1
  rw [cut_size] at hk
  rw [cut_block] at h3 ⊢
  by_cases e : m ≤ k
  · rw [lo_neg e] at h3
    rw [h2 k e hk]
    show b.heap[k]? = some o
    rw [h1 k e hk]; exact h3
  · rw [lo_pos (by omega)] at h3
    obtain ⟨_, _, e2⟩ := Option.map_eq_some_iff.1 h3
    exact absurd e2.symm h4
/-- What Of hands out of declarations that may be. -/
def OfP (L : Sc) (w : World) (e : Ending) (w' : World) : Prop :=
  ∃ B, e = .returned (.tuple #[.pointer (some ⟨B, 0, none⟩), .agg #[.int .i64 0, .int .i64 0]]) ∧ w.heap.size ≤ B ∧ B < w'.heap.size ∧ (∀ S : Nat → Bool, S B = true → (∀ k, S k = true → k < w.heap.size ∨ B ≤ k) → (∀ k, S k = true → k < w'.heap.size) → De S B L w') ∧ Below w.heap.size w w'
set_option maxRecDepth 100000 in
set_option maxHeartbeats 2000000 in
theorem of_no (o : Option Addr) (n c : Nat) (D : Dl) (F : Nat → Fy) (M : Nat → Ml) (w : World) (h : Ax o n D F M w) (hg : grB D F n = false) (he : ckE D F M n ≠ 0) :
    Calls Tryz.prog 14 #[.slice o n c] w fun e w' => ∃ x p : Int, e = .returned (.tuple #[.pointer none, .agg #[.int .i64 x, .int .i64 p]]) ∧ x ≠ 0 ∧ Below w.heap.size w w' := by
  have hB0 := (Below.refl w.heap.size w).alloc (Nat.le_refl _) (.cells #[.int .i64 0, .int .i64 0] 54)
  have HB0 := Lib.hid hB0
  have HC0 := Lib.hid (Cs.new w [.int .i64 0, .int .i64 0] 54)
  have HA := Lib.hid (h.below hB0 (Nat.le_refl _))
  have HS := Lib.hid (gr_small hg)
  obtain ⟨x, hx⟩ : ∃ x : Int, x = (ckE D F M n : Nat) := ⟨_, rfl⟩
  have hx0 : x ≠ 0 := by omega
  have hxb : (x != 0) = true := by simpa using hx0
  have HX := Lib.hid hx
  clear hB0 h hg he hx
  go_enter Tryz.func14, Tryz.ntmps14
  go_upto_region 2 with (go_at_call 25; go_loud (refine (check_any o n c D F M _ HA.out HS.out).mono ?_; rw [← HX.out]; rintro e w2 ⟨p, rfl, hb2⟩; have HB2 := Lib.hid hb2; clear hb2))
  have hC2 := (HC0.out.below HB2.out HC0.out.lt).alloc (.cells #[.int .i64 x, .int .i64 p] 54)
  have hG2 := Cs.new w2 [.int .i64 x, .int .i64 p] 54
  have g0 := hG2.drew.cell (i := 0) rfl
  have g1 := hG2.drew.cell (i := 1) rfl
  have g0' := hG2.cell (i := 0) rfl
  have k0 := hC2.drew.cell (i := 0) rfl
  have k1 := hC2.drew.cell (i := 1) rfl
  have f0 := hC2.drew.frozen (i := 0) rfl
  have f1 := hC2.drew.frozen (i := 1) rfl
  have HC2 := Lib.hid hC2
  have HB3 := Lib.hid ((HB0.out.trans (HB2.out.mono HB0.out.size)).alloc (Nat.le_trans HB0.out.size HB2.out.size) (.cells #[.int .i64 x, .int .i64 p] 54))
  clear hC2 hG2
  go_wp2
  generalize (w2.alloc (.cells #[.int .i64 x, .int .i64 p] 54)) = W at *
  have k0' := HC2.out.cell (i := 0) rfl
  have k1' := HC2.out.cell (i := 1) rfl
  have f0' := HC2.out.frozen (i := 0) rfl
  have f1' := HC2.out.frozen (i := 1) rfl
  go_region
  have hC5 := ((HC2.out.put (i := 0) (.int .i64 x)).put (i := 1) (.int .i64 p)).drew
  have hB5 := ((HB3.out.setCell (p := ⟨w.heap.size, 0, none⟩) (Nat.le_refl _) (.int .i64 x)).setCell (p := ⟨w.heap.size, 1, none⟩) (Nat.le_refl _) (.int .i64 p)).drew
  generalize ((W.setCell ⟨w.heap.size, 0, none⟩ (.int .i64 x)).setCell ⟨w.heap.size, 1, none⟩ (.int .i64 p)).drew = W5 at hC5 hB5 ⊢
  have d0 := hC5.cell (i := 0) rfl
  have d1 := hC5.cell (i := 1) rfl
  clear g0 g1 g0' k0 k1 f0 f1 k0' k1' f0' f1'
  go_wp2
  refine bodyPost_ret (by simp [results, Tryz.results14, go_sem, d0, d1]; try rfl) rfl ?_
  exact ⟨x, p, rfl, hx0, hB5⟩
set_option maxRecDepth 100000 in
set_option maxHeartbeats 2000000 in
theorem of_yes (o : Option Addr) (n c : Nat) (D : Dl) (F : Nat → Fy) (M : Nat → Ml) (w : World) (h : Ax o n D F M w) (hg : grB D F n = false) (he : ckE D F M n = 0) :
    Calls Tryz.prog 14 #[.slice o n c] w fun e w' => OfP (scL D F n) w e w' := by
  have hB0 := (Below.refl w.heap.size w).alloc (Nat.le_refl _) (.cells #[.int .i64 0, .int .i64 0] 54)
  have HB0 := Lib.hid hB0
  have HC0 := Lib.hid (Cs.new w [.int .i64 0, .int .i64 0] 54)
  have HA := Lib.hid (h.below hB0 (Nat.le_refl _))
  have HD := Lib.hid (ds_of h hg)
  have HAw := Lib.hid h
  have HS := Lib.hid (gr_small hg)
  have HOK := Lib.hid (ck_ok he (by have := (gr_small hg).le; omega))
  have HE := Lib.hid he
  clear hB0 h hg he
  go_enter Tryz.func14, Tryz.ntmps14
  go_upto_region 2 with (go_at_call 25; go_loud (refine (check_any o n c D F M _ HA.out HS.out).mono ?_; rw [HE.out]; rintro e w2 ⟨p, rfl, hb2⟩; have HB2 := Lib.hid hb2; clear hb2))
  have hC2 := (HC0.out.below HB2.out HC0.out.lt).alloc (.cells #[.int .i64 0, .int .i64 p] 54)
  have hG2 := Cs.new w2 [.int .i64 0, .int .i64 p] 54
  have g0 := hG2.cell (i := 0) rfl
  have HC2 := Lib.hid hC2
  have HB3 := Lib.hid ((HB0.out.trans (HB2.out.mono HB0.out.size)).alloc (Nat.le_trans HB0.out.size HB2.out.size) (.cells #[.int .i64 0, .int .i64 p] 54))
  clear hC2 hG2
  go_wp2_with (first
    | (go_at_call 26; go_loud (refine (endlessd_any o n c (xD D) (uF F) (vM M) _ (HD.out.below HB3.out)).mono ?_; rintro e w3 ⟨rfl, hb3⟩; have HB4 := Lib.hid (HB3.out.trans (hb3.mono HB3.out.size)); have HC3 := Lib.hid (HC2.out.below hb3 HC2.out.lt); clear hb3))
    | (go_at_call 28; go_loud (refine (eachdecl_any o n c (xD D) (uF F) (vM M) _ (HD.out.below HB4.out)).mono ?_; rintro e w5 ⟨o5, c5, X5, U5, V5, rfl, hb5, hD5, hq5⟩; have HB5 := Lib.hid (HB4.out.trans (hb5.mono HB4.out.size)); have HC5 := Lib.hid (HC3.out.below hb5 HC3.out.lt); have HD5 := Lib.hid hD5; have HQ5 := Lib.hid hq5; have HZ5 := Lib.hid hb5.size; clear hb5 hD5 hq5))
    | (go_at_call 30; go_loud (refine (of_cut o n c D _ (HAw.out.below HB5.out (Nat.le_refl _)).1).mono ?_; rintro e w6 ⟨T, rfl, hT6, hTb6, hb6⟩; have HB6 := Lib.hid (HB5.out.trans (hb6.mono HB5.out.size)); have hC6 := HC5.out.below hb6 HC5.out.lt; have HTb6 := Lib.hid hTb6; have HT6 := Lib.hid hT6; have HW6 := Lib.hid hb6; have hC7 := hC6.alloc (.cells #[.slice o5 n c5, .pointer (some ⟨T, 0, none⟩), .int .u32 0, .int .i32 0, .int .u32 0, .map none] 96); have k0 := hC7.cell (i := 0) rfl; have k1 := hC7.cell (i := 1) rfl; have f0 := hC7.frozen (i := 0) rfl; have f1 := hC7.frozen (i := 1) rfl; have HC7 := Lib.hid hC7; clear hC6 hC7 hTb6 hT6 hb6)))
  have hZ3 : w.heap.size + 1 ≤ w3.heap.size := by
    have h1 := HB4.out.size
    have h2 := HC3.out.lt
    omega
  have hZ6 := HW6.out.size
  have hZ5 := HZ5.out
  have hBc : Bc w6.heap.size o5 n c5 T 0 0 none (((w6.alloc (.cells #[.slice o5 n c5, .pointer (some ⟨T, 0, none⟩), .int .u32 0, .int .i32 0, .int .u32 0, .map none] 96)).setCell ⟨w.heap.size, 0, none⟩ (.int .i64 0)).setCell ⟨w.heap.size, 1, none⟩ (.int .i64 0)) :=
    ((Cs.new w6 [.slice o5 n c5, .pointer (some ⟨T, 0, none⟩), .int .u32 0, .int .i32 0, .int .u32 0, .map none] 96).set (b' := w.heap.size) (i := 0) (.int .i64 0) (by omega)).set (b' := w.heap.size) (i := 1) (.int .i64 0) (by omega)
  have hC8 := (HC7.out.put (i := 0) (.int .i64 0)).put (i := 1) (.int .i64 0)
  have hB8 := ((HB6.out.alloc HB6.out.size (.cells #[.slice o5 n c5, .pointer (some ⟨T, 0, none⟩), .int .u32 0, .int .i32 0, .int .u32 0, .map none] 96)).setCell (p := ⟨w.heap.size, 0, none⟩) (Nat.le_refl _) (.int .i64 0)).setCell (p := ⟨w.heap.size, 1, none⟩) (Nat.le_refl _) (.int .i64 0)
  have hK : ∀ k, w3.heap.size ≤ k → k < w6.heap.size → (((w6.alloc (.cells #[.slice o5 n c5, .pointer (some ⟨T, 0, none⟩), .int .u32 0, .int .i32 0, .int .u32 0, .map none] 96)).setCell ⟨w.heap.size, 0, none⟩ (.int .i64 0)).setCell ⟨w.heap.size, 1, none⟩ (.int .i64 0)).heap[k]? = w6.heap[k]? := fun k h1 h2 => by
    rw [Below.heap_setCell _ _ _ _ (show k ≠ w.heap.size by omega), Below.heap_setCell _ _ _ _ (show k ≠ w.heap.size by omega), Below.heap_alloc _ _ _ h2]
  have hW : (((w6.alloc (.cells #[.slice o5 n c5, .pointer (some ⟨T, 0, none⟩), .int .u32 0, .int .i32 0, .int .u32 0, .map none] 96)).setCell ⟨w.heap.size, 0, none⟩ (.int .i64 0)).setCell ⟨w.heap.size, 1, none⟩ (.int .i64 0)).heap.size = w6.heap.size + 1 := by simp [World.setCell]
  generalize (((w6.alloc (.cells #[.slice o5 n c5, .pointer (some ⟨T, 0, none⟩), .int .u32 0, .int .i32 0, .int .u32 0, .map none] 96)).setCell ⟨w.heap.size, 0, none⟩ (.int .i64 0)).setCell ⟨w.heap.size, 1, none⟩ (.int .i64 0)) = W at hBc hC8 hB8 hK hW ⊢
  have d0 := hC8.cell (i := 0) rfl
  have d1 := hC8.cell (i := 1) rfl
  have hP : OfP (scL D F n) w (.returned (.tuple #[.pointer (some ⟨w6.heap.size, 0, none⟩), .agg #[.int .i64 0, .int .i64 0]])) W := by
    refine ⟨w6.heap.size, rfl, HB6.out.size, by omega, fun S hS1 hS2 hS3 => ⟨hS1, hS3, HOK.out, o5, c5, T, X5, U5, V5, ⟨?_, fun i hi => ?_, ?_⟩, .inl hBc⟩, hB8⟩
    · refine HD5.out.sub (sub_mid (by omega) (fun k h1 h2 => ?_) (fun k h1 h2 => ?_))
      · rw [hK k h1 (by omega), HW6.out.block k h2]
      · cases e : S k with
        | false => rfl
        | true => have := hS2 k e; omega
    · obtain ⟨q1, q2, q3, q4⟩ := HQ5.out i hi
      refine ⟨q2, q1, ?_⟩
      show rowL (uF F i) (D.fl i) = rowL (U5 i) (X5 i).fl
      rw [q3]
      exact (rowL_q q4).symm
    · refine tb_sub HTb6.out (sub_mid (by omega) (fun k h1 h2 => hK k (by omega) h2) (fun k h1 h2 => ?_))
      cases e : S k with
      | false => rfl
      | true => have := hS2 k e; omega
  have HP := Lib.hid hP
  clear hP hBc hK
  refine bodyPost_ret (by simp [results, Tryz.results14, go_sem, d0, d1]; try rfl) rfl ?_
  exact HP.out
end Go.Proofs.YtdogddliifbjnaaGreat.Ck
