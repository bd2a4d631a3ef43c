/- Schemas: order puts all rows in order. -/
import Derived.RegionTactic
import Derived.Test.YtdogddliifbjnaaGreatMg11
namespace Go.Proofs.YtdogddliifbjnaaGreat.Ck
open Go.RowKit Cm
open _root_.Go.Proofs.YtdogddliifbjnaaGreat.Nm
set_option linter.unusedVariables false
set_option linter.unusedSimpArgs false

/-- Rows in the midst of being put in order: the first j declarations' are in the map. -/
def Oj (m j : Nat) (X : Nat → Dz) (U : Nat → Nat → Fz) (S : Nat → ByteArray) (w : World) : Prop :=
  ∃ G, Fmp m j G w ∧ ∀ s, (fiS S s j = none → G s = none) ∧ ∀ i, fiS S s j = some i → ∃ v o c U', G s = some v ∧ svV v = .slice o (X i).fl c ∧ Ex 5 Fz.at5 o (X i).fl U' (cut (lo (m + 1)) w) ∧ ((List.range (X i).fl).map U').Perm ((List.range (X i).fl).map (U i)) ∧ ((List.range (X i).fl).map U').Pairwise (fun a b => a.T ≤ b.T)
theorem Oj.kept {m j : Nat} {X : Nat → Dz} {U : Nat → Nat → Fz} {S : Nat → ByteArray} {w w' : World} (h : Oj m j X U S w) (hb : Below w.heap.size w w') : Oj m j X U S w' := by
  obtain ⟨G, h1, h2⟩ := h
  refine ⟨G, h1.below hb h1.lt, fun s => ⟨(h2 s).1, fun i hi => ?_⟩⟩
  obtain ⟨v, o, c, U', a, b, e, f, g⟩ := (h2 s).2 i hi
  exact ⟨v, o, c, U', a, b, e.below (by rw [cut_size]; exact cut_below hb), f, g⟩
theorem be_one {b : Nat} {w w' : World} (h : Below w.heap.size w w') : Be (fun k => decide (k = b)) w w' := Be.of h
/-- One more. -/
theorem Oj.step {m j : Nat} {X : Nat → Dz} {U : Nat → Nat → Fz} {S : Nat → ByteArray} {w : World} (h : Oj m j X U S w) (hf : fiS S (S j) j = none) (hs : (S j).size ≤ maxLen) (hj : j < maxLen) {v : Option (Nat × Nat × Nat × Nat)} {o : Option Addr} {c : Nat} {U' : Nat → Fz}
    (hv : svV v = .slice o (X j).fl c) (hE : Ex 5 Fz.at5 o (X j).fl U' (cut (lo (m + 1)) w)) (hp : ((List.range (X j).fl).map U').Perm ((List.range (X j).fl).map (U j))) (hr : ((List.range (X j).fl).map U').Pairwise (fun a b => a.T ≤ b.T)) :
    ∃ w', (Instr.mapUpdate 72 (.map (some m)) (.string (S j)) (.slice o (X j).fl c)).run Tryz.prog w = .ok () w' ∧ Oj m (j + 1) X U S w' ∧ w.grownBy w' (some m) := by
  obtain ⟨G, h1, h2⟩ := h
  have hlt := h1.lt
  obtain ⟨w', hrun, hM, hg⟩ := h1.store (S j) v hs hj
  rw [hv] at hrun
  have hbe : Below (cut (lo (m + 1)) w).heap.size (cut (lo (m + 1)) w) (cut (lo (m + 1)) w') := by
    rw [cut_size]
    exact Be.mk hg.os hg.tape hg.output hg.size (fun k hk hF => hg.block k hk (fun e => by
      obtain rfl := Option.some.inj e
      rw [lo_pos (Nat.lt_succ_self _)] at hF; cases hF))
  refine ⟨w', hrun, ⟨_, hM, fun s => ?_⟩, hg⟩
  cases hc : fiS S s j with
  | some i =>
    have hne : ¬ s = S j := fun e => by rw [e, hf] at hc; cases hc
    rw [fiS_next_some hc]
    simp only [if_neg hne]
    refine ⟨fun h => (by cases h), fun k hk => ?_⟩
    obtain rfl := Option.some.inj hk
    obtain ⟨v, o, c, U', a, b, e, f, g⟩ := (h2 s).2 i hc
    exact ⟨v, o, c, U', a, b, e.below hbe, f, g⟩
  | none =>
    by_cases e : S j = s
    · subst e
      rw [fiS_next_hit hc rfl]
      simp only [if_pos rfl]
      refine ⟨fun h => (by cases h), fun k hk => ?_⟩
      obtain rfl := Option.some.inj hk
      exact ⟨v, o, c, U', rfl, hv, hE.below hbe, hp, hr⟩
    · rw [fiS_next_miss hc e]
      simp only [if_neg (fun e2 => e (Eq.symm e2))]
      exact ⟨fun _ => (h2 s).1 hc, fun i hi => by cases hi⟩

theorem Oj.drew {m j : Nat} {X : Nat → Dz} {U : Nat → Nat → Fz} {S : Nat → ByteArray} {w : World} (h : Oj m j X U S w) : Oj m j X U S w.drew := h.kept ((Below.refl _ _).drew)
theorem sorted_form {n B m : Nat} {v : Value} {U' : Nat → Fz} {w : World} {q : Option (Nat × Nat)} (h1 : v = (match q with | none => .slice none n 0 | some (g, c) => .slice (some ⟨g, 0, none⟩) n c)) (h2 : q = none → n = 0) (h3 : ∀ g c, q = some (g, c) → B ≤ g ∧ Ex 5 Fz.at5 (some ⟨g, 0, none⟩) n U' w) (hm : m < B) :
    ∃ vv o c, svV vv = .slice o n c ∧ v = .slice o n c ∧ Ex 5 Fz.at5 o n U' (cut (lo (m + 1)) w) := by
  rcases q with _ | ⟨g, c⟩
  · obtain rfl := h2 rfl
    exact ⟨none, none, 0, rfl, h1, Ex.nil _ _ _ _ _⟩
  · obtain ⟨a, b⟩ := h3 g c rfl
    exact ⟨some (g, 0, n, c), some ⟨g, 0, none⟩, c, rfl, h1, ex_cut b (lo_neg (by omega))⟩
theorem make_map (n : Int) (w : World) : (Instr.makeMap 72 (some (.int .i64 n))).run Tryz.prog w = .ok (.map (some w.heap.size)) (w.alloc (.map #[] 0)) := by
  simp [Instr.makeMap, run_underlying Tryz.underlying72, asInt, asIntOf]
set_option maxRecDepth 100000 in
set_option maxHeartbeats 4000000 in
theorem order_any (F : Nat → Bool) (B : Nat) (o : Option Addr) (c : Nat) (vT x2 x3 x4 x5 : Value) (X : Nat → Dz) (U : Nat → Nat → Fz) (V : Nat → Nat → Mz) (L : Sc) (w : World) (hok : L.ok) (hD : Ds o L.n X U V (cut F w))
    (hL : ∀ i, i < L.n → (X i).S = L.S i ∧ L.R i = rowL (U i) (X i).fl) (hC : Cs B [.slice o L.n c, vT, x2, x3, x4, x5] w) (hFB : F B = true) (hF : ∀ k, F k = true → k < w.heap.size) :
    Calls Tryz.prog 68 #[.pointer (some ⟨B, 0, none⟩)] w fun e w' => e = .returned (.tuple #[]) ∧ ∃ m, Cs B [.slice o L.n c, vT, x2, x3, x4, .map (some m)] w' ∧ Rm m L (cut F w') ∧ Be (fun k => decide (k = B)) w w' := by
  have hmm := make_map
  have hle := hok.le
  have hlen : L.n ≤ 9223372036854775807 := by omega
  have hBlt := hC.lt
  have c0 := hC.cell (i := 0) rfl
  have hA := (hC.alloc (.map #[] 0))
  have c5 := hA.cell (i := 5) rfl
  have f5 := hA.frozen (i := 5) rfl
  have hC2 := (hC.put (i := 5) (.map (some w.heap.size))).alloc (.map #[] 0)
  have e0 := hC2.cell (i := 0) rfl
  have HC2 := Lib.hid hC2
  have hBE0 := Lib.hid (((Be.refl (fun k => decide (k = B)) w).setCell (b := B) (o := 5) (.inl (by simp)) (.map (some w.heap.size))).alloc (.map #[] 0))
  have hFm := Fmp.made (w.setCell ⟨B, 5, none⟩ (.map (some w.heap.size)))
  rw [show (w.setCell ⟨B, 5, none⟩ (.map (some w.heap.size))).heap.size = w.heap.size by simp [World.setCell]] at hFm
  have HO0 : Hid (Oj w.heap.size 0 X U L.S ((w.setCell ⟨B, 5, none⟩ (.map (some w.heap.size))).alloc (.map #[] 0))) :=
    Lib.hid ⟨fun _ => none, hFm, fun s => ⟨fun _ => rfl, fun i hi => by cases hi⟩⟩
  have HD := Lib.hid hD
  have HL := Lib.hid hL
  have HF := Lib.hid hF
  have HOK := Lib.hid hok
  clear hC hA hC2 hFm hD hL hF hok
  go_enter Tryz.func68, Tryz.ntmps68
  go_wp2
  go_loopw [19] (fun i wr => ∃ j, j ≤ L.n ∧ i = .int .i64 (j : Nat) ∧ Hid (Oj w.heap.size j X U L.S wr) ∧ Hid (Be (fun k => decide (k = B)) w wr) ∧ Hid (Cs B [.slice o L.n c, vT, x2, x3, x4, .map (some w.heap.size)] wr)) (fun i _ => L.n - (intOf i).toNat)
  case atStart => exact ⟨0, by omega, rfl, HO0, hBE0, HC2⟩
  case round =>
    obtain ⟨j, hj, rfl, HO, HB, HC⟩ := hrel
    clear HO0 hBE0 HC2 c0 c5 f5 e0
    have hsz := HB.out.size
    by_cases hjl : j < L.n
    · have hji : (j : Int) < (L.n : Int) := by omega
      have hDr : Ds o L.n X U V wr := ((HD.out.below (by rw [cut_size]; exact HB.out.wide (fun k hk h => by obtain rfl : k = B := (by simpa using h); exact hFB))).sub (cut_all F wr))
      have hSj := Lib.hid (HL.out j hjl).1
      have hSz : (X j).S.size ≤ maxLen := by have := (hDr.2.2 j hjl).sz; unfold maxLen; omega
      obtain ⟨a, Ab, Ao, As, rfl, hA, hAb, c0, c1, c2, c3, c4⟩ := ex_five (v0 := .int .i64 (X j).K) (v1 := .string (X j).S) (v2 := .slice (X j).fo (X j).fl (X j).fc) (v3 := .slice (X j).mo (X j).ml (X j).mc) (v4 := .int .i64 (X j).A) hDr.1 hjl rfl
      have hC0 := Cs.new wr [.int .i64 (X j).K, .string (X j).S, .slice (X j).fo (X j).fl (X j).fc, .slice (X j).mo (X j).ml (X j).mc, .int .i64 (X j).A] 43
      have hB1 := (Below.refl wr.heap.size wr).alloc (Nat.le_refl _) (.cells #[.int .i64 (X j).K, .string (X j).S, .slice (X j).fo (X j).fl (X j).fc, .slice (X j).mo (X j).ml (X j).mc, .int .i64 (X j).A] 43)
      have HX0 := Lib.hid hC0
      have HB1 := Lib.hid hB1
      have HDr := Lib.hid hDr
      have HLT := Lib.hid HC.out.lt
      clear hC0 hB1 hDr
      go_upto_region 6 with (first
        | (go_at_call 92; go_loud (refine (clonefields_any (X j).fo (X j).fl (X j).fc (U j) _ ((HDr.out.2.2 j hjl).below HB1.out).f).mono ?_; rintro e w2 ⟨v2, rfl, hR2, hb2⟩; have HR2 := Lib.hid hR2; have HB2 := Lib.hid hb2; clear hR2 hb2))
        | (go_at_call 93; go_loud (refine (sortany_any _ (X j).fl v2 (U j) _ (HDr.out.2.2 j hjl).f.2.1 HR2.out).mono ?_; rintro e w3 ⟨rfl, q, U', hv2, hq, hE, hp, hr, hb3, hk3⟩; have HE := Lib.hid hE; have HP := Lib.hid hp; have HR := Lib.hid hr; have HB3 := Lib.hid hb3; have HV2 := Lib.hid hv2; have HQ := Lib.hid hq; clear hE hp hr hb3 hv2 hq hk3)))
      have hb23 : Below wr.heap.size wr w3 := (HB1.out.trans (HB2.out.mono HB1.out.size)).trans (HB3.out.mono HB1.out.size)
      obtain ⟨vv, o', cc, hvv, rfl, hE'⟩ := sorted_form (m := w.heap.size) HV2.out HQ.out HE.out (by have := HLT.out; simp; omega)
      have hC3 := HC.out.below hb23 HC.out.lt
      have hX3 := (HX0.out.below HB2.out HX0.out.lt).below HB3.out HX0.out.lt
      obtain ⟨w4, hst, hO4, hg4⟩ := Oj.step ((HO.out.kept hb23).drew) (HOK.out.fresh j hjl) (by rw [← hSj.out]; exact hSz) (by unfold maxLen; omega) hvv hE' HP.out HR.out
      rw [← hSj.out] at hst
      have k5 := hC3.drew.cell (i := 5) rfl
      have x1 := hX3.drew.cell (i := 1) rfl
      have HC3 := Lib.hid hC3
      have HO4 := Lib.hid hO4
      have HG4 := Lib.hid hg4
      have HB23 := Lib.hid hb23
      clear hC3 hX3 hO4 hg4 hb23 hE' hvv
      go_region
      go_wp2
      go_roundw
      case rel => exact ⟨j + 1, by omega, by go_num, HO4, ((HB.out.after HB23.out).drew).grown HG4.out (.inr (Nat.le_refl _)), HC3.out.drew.grown HG4.out (by simp; omega)⟩
      case measure => simp [intOf]; omega
    · have hji : ¬ (j : Int) < (L.n : Int) := by omega
      obtain rfl : j = L.n := by omega
      have hF0 : ∀ k, w.heap.size ≤ k → F k = false := fun k hk => by
        cases e : F k with
        | false => rfl
        | true => have := HF.out k e; omega
      have hBF : Be F w wr := HB.out.wide (fun k hk h => by obtain rfl : k = B := (by simpa using h); exact hFB)
      have hDr : Ds o L.n X U V (cut F wr) := HD.out.below (by rw [cut_size]; exact hBF)
      have hRm : Rm w.heap.size L (cut F wr) := by
        obtain ⟨G, h1, h2⟩ := HO.out
        refine ⟨L.n, G, h1.kept (by rw [cut_block, hF0 _ (Nat.le_refl _)]; rfl), fun s => ⟨(h2 s).1, fun i hi => ?_⟩⟩
        obtain ⟨v, o', c', U', g1, g2, g3, g4, g5⟩ := (h2 s).2 i hi
        have hil := (fiS_some hi).1
        have hL2 := (HL.out i hil).2
        refine ⟨v, g1, o', (X i).fl, c', U', g2, ⟨g3.sub (cut_sub wr (fun k hk h => by have := HF.out k h; exact lo_pos (by omega))), (hDr.2.2 i hil).f.2.1, fun k hk => ?_⟩, ?_⟩
        · have hmem : U' k ∈ (List.range (X i).fl).map (U i) := g4.mem_iff.1 (List.mem_map.2 ⟨k, List.mem_range.2 hk, rfl⟩)
          obtain ⟨k2, hk2, e⟩ := List.mem_map.1 hmem
          rw [← e]
          exact (hDr.2.2 i hil).f.2.2 k2 (List.mem_range.1 hk2)
        · rw [hL2]
          refine srt_uniq (by rw [← hL2]; exact HOK.out.tags i hil) (by rw [rowL_map, rowL_map]; exact g4.map f2) ?_
          rw [rowL_map, List.pairwise_map]
          exact g5
      have HRm := Lib.hid hRm
      clear hF0 hBF hDr hRm
      go_wp2
      go_end0
      exact ⟨rfl, w.heap.size, HC.out, HRm.out, HB.out⟩
end Go.Proofs.YtdogddliifbjnaaGreat.Ck
