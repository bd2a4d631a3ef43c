/- check's waitsOf: the walk. -/
import Derived.Deep.Cut
import Derived.Deep.CutRange
import Derived.Deep.RegionHeld3
import Derived.RegionTactic
import Derived.Deep.RegionLaw
import Derived.Test.YtdogddliifbjnaaGreatMg21
namespace Go.Proofs.YtdogddliifbjnaaGreat.Ck
open Go.RowKit Cm _root_.Go.Proofs.YtdogddliifbjnaaGreat.Nm Go.Deep
set_option linter.unusedVariables false
set_option linter.unusedSimpArgs false

/-- append of a slice of the call's own, as a step of a region that draws. -/
theorem Ri.step {P : Program} {ops : Array Oper} {o : Oper} {a : Act} {K : Act → World → Prop} {Q : Exit → Act → World → Prop} {E : Prop} {w : World} (hgd : o.guard = none) (x y : Operand) (t : TypeId)
    (ho : o.op = .call { callee := .builtin .append, args := #[x, y], argTypes := #[t, t] })
    (e : TypeId) (s B B' bytes : Nat) (ht : P.underlying t = some (.slice e)) (hi : ∃ i z, P.info? e = some i ∧ i.zero = some z ∧ i.size = s ∧ i.bytes = bytes ∧ z.cells.size = s) (hs : 0 < s)
    (v u : Value) (n m : Nat) (xs ys : List Value) (hx : a.eval x = v) (hy : a.eval y = u) (h : Rw e s B v n xs w) (h' : Rw e s B' u m ys w) (h1 : ∀ z ∈ ys, z.oneCell' = true)
    (hm : n + m ≤ maxLen) (hbt : (n + m) * bytes ≤ 140737488355328) (hbase : B ≤ w.heap.size)
    (hK : ∀ v' w', Rw e s B v' (n + m) (xs ++ ys) w' → w.grownBy w' v.ownBlock → Grew v v' w → K (a.put o.dst v') w') :
    if Region.wanted o (yielded ops a.tmps) = true then Oper.wp P o a w K Q else E := by
  have hw : Region.wanted o (yielded ops a.tmps) = true := by unfold Region.wanted; rw [hgd]
  rw [if_pos hw]
  exact wp_append_row x y t ho e s B B' bytes ht hi hs v u n m xs ys hx hy h h' h1 hm hbt hbase hK

/-- What waits are. -/
structure Wt (s : Sy) (n lb bb B0 : Nat) (w : World) (bv : Nat → Value) (bx : Nat → List Nat) (w' : World) : Prop where
  li : Li lb n (ndS s) w'
  bh : Bh bb n B0 bv bx w'
  l0 : lb < B0
  b0 : bb < B0
  ne : bb ≠ lb
  l1 : w.heap.size ≤ lb
  b1 : w.heap.size ≤ bb
  cnt : ∀ q j, q < n → (bx q).count j = toS s q j
  len : ∀ q, q < n → (bx q).length ≤ 1000
  sz : B0 ≤ w'.heap.size
  below : Below w.heap.size w w'

set_option maxRecDepth 100000 in
set_option maxHeartbeats 8000000 in
theorem waits_any (o : Option Addr) (len cap : Nat) (D : Dl) (F : Nat → Fy) (M : Nat → Ml) (w : World) (h : Ax o len D F M w) (hs : Sml D F len) :
    Calls Tryz.prog 82 #[.slice o len cap] w fun e w' => ∃ lb bb B0 bv bx, e = .returned (.agg #[.slice (some ⟨lb, 0, none⟩) len len, .slice (some ⟨bb, 0, none⟩) len len]) ∧ Wt (syD D F len) len lb bb B0 w bv bx w' := by
  have hlen := h.1.2
  have hmk1 := make_ints len hlen
  have hmk2 := make_rows len hlen
  have HB0 := Lib.hid ((Below.refl w.heap.size w).alloc (Nat.le_refl _) (.cells #[.slice none 0 0, .slice none 0 0] 151))
  have HC0 := Lib.hid (Cs.new w [.slice none 0 0, .slice none 0 0] 151)
  have H := Lib.hid (h.below HB0.out (Nat.le_refl _))
  have HSM := Lib.hid hs
  obtain ⟨s, hse⟩ : ∃ s, s = syD D F len := ⟨_, rfl⟩
  have HSY := Lib.hid hse
  rw [← hse]
  clear h hs hse
  go_enter Tryz.func82, Tryz.ntmps82
  go_wp2_with (go_at_call 30; refine (of_any o len cap D _ H.out.1).mono ?_; rintro e w1 ⟨T, rfl, hT1, hT2, hb1⟩)
  have HT := Lib.hid hT2
  have HB1 := Lib.hid hb1
  have HC1 := Lib.hid (HC0.out.below hb1 HC0.out.lt)
  clear hT2 hb1 HC0
  go_cut [4] from 13 to 19 (fun p wx => ∃ lb bb wb, p = .pointer (some ⟨wb, 0, none⟩) ∧ Hid (Wz lb bb wb len w1 wx))
  case first =>
    go_region
    all_goals (try go_wp2_with fail)
    all_goals go_meet
    all_goals first
      | exact ⟨_, _, _, rfl, Lib.hid (wz1 _ _)⟩
      | exact ⟨_, _, _, rfl, Lib.hid (wz2 _ _)⟩
      | exact ⟨_, _, _, rfl, Lib.hid (wz3 _ _)⟩
      | exact ⟨_, _, _, rfl, Lib.hid (wz4 _ _)⟩
      | exact ⟨_, _, _, rfl, Lib.hid (wz5 _ _)⟩
      | exact ⟨_, _, _, rfl, Lib.hid (wz6 _ _)⟩
  case rest =>
    obtain ⟨lb, bb, wb, rfl, HZ⟩ := hcut
    obtain ⟨hk, hws⟩ := HZ.out.start
    obtain ⟨B0, hB0⟩ : ∃ B0, B0 = wc.heap.size := ⟨_, rfl⟩
    rw [← hB0] at hk hws
    have HK := Lib.hid hk
    have HW0 : Hid (Ws lb bb wb B0 len w1 (fun _ => .slice none 0 0) (fun _ => []) (fun q => if q < 0 then ndS s q else 0) wc) := Lib.hid hws
    have hdw : w.heap.size < w1.heap.size := by have := HB1.out.size; simp at this; omega
    clear hk hws HZ hmk1 hmk2 hB0
    go_wp2
    go_loopw [22] (fun i wr => ∃ j bv bx, j ≤ len ∧ i = .int .i64 (j : Nat) ∧ Hid (Ws lb bb wb B0 len w1 bv bx (fun q => if q < j then ndS s q else 0) wr) ∧ Hid (∀ q x, (bx q).count x = csS s j 0 q x) ∧ Hid (∀ q, (bx q).length ≤ 30 * j)) (fun i _ => len - (intOf i).toNat)
    case atStart => exact ⟨0, _, _, by omega, rfl, HW0, Lib.hid (fun q x => by rw [cs_start]; rfl), Lib.hid (fun q => by simp)⟩
    case round =>
      obtain ⟨j, bv, bx, hj, rfl, HW, HCS, HLN⟩ := hrel
      clear HW0
      by_cases hjl : j < len
      · have hji : (j : Int) < (len : Int) := by omega
        have hBr := HB1.out.trans (HW.out.below.mono HB1.out.size)
        have hAx := H.out.below hBr (Nat.le_refl _)
        have hbig := HSM.out.le
        have hfl30 := HSM.out.fl j hjl
        have hfl : D.fl j ≤ 9223372036854775807 := by omega
        obtain ⟨a, Ab, Ao, As, rfl, hA, hAb, c0, c1, c2, c3, c4⟩ := Dx.place hAx.1 hjl
        have hC := (Cs.new wr [.int .i64 (D.K j), .string (D.S j), .slice (D.fo j) (D.fl j) (D.fc j), .slice (D.mo j) (D.ml j) (D.mc j), .int .i64 (D.A j)] 43)
        have d0 := hC.drew.cell (i := 0) rfl
        have d1 := hC.drew.cell (i := 1) rfl
        have d2 := hC.drew.cell (i := 2) rfl
        have d3 := hC.drew.cell (i := 3) rfl
        have d4 := hC.drew.cell (i := 4) rfl
        have HC := Lib.hid hC
        have hW6 := HW.out.alloc (.cells #[.int .i64 (D.K j), .string (D.S j), .slice (D.fo j) (D.fl j) (D.fc j), .slice (D.mo j) (D.ml j) (D.mc j), .int .i64 (D.A j)] 43)
        have b0 := hW6.drew.box.cell (i := 0) rfl
        have HW6 := Lib.hid hW6
        have HA6 := Lib.hid (hAx.below ((Below.refl wr.heap.size wr).alloc (Nat.le_refl _) (.cells #[.int .i64 (D.K j), .string (D.S j), .slice (D.fo j) (D.fl j) (D.fc j), .slice (D.mo j) (D.ml j) (D.mc j), .int .i64 (D.A j)] 43)).drew (Nat.le_refl _))
        clear hC hW6 hAx
        go_wp2
        go_region_held3 (fun w' => w'.cell? ⟨wb, 0, none⟩ = some (.slice (some ⟨lb, 0, none⟩) len len) ∧ w'.cell? ⟨wr.heap.size, 0, none⟩ = some (.int .i64 (D.K j)) ∧ w'.cell? ⟨wr.heap.size, 1, none⟩ = some (.string (D.S j)) ∧ w'.cell? ⟨wr.heap.size, 2, none⟩ = some (.slice (D.fo j) (D.fl j) (D.fc j)) ∧ w'.cell? ⟨wr.heap.size, 3, none⟩ = some (.slice (D.mo j) (D.ml j) (D.mc j)) ∧ w'.cell? ⟨wr.heap.size, 4, none⟩ = some (.int .i64 (D.A j)))
          (first | exact ⟨b0, d0, d1, d2, d3, d4⟩ | exact hS4 | exact hS5)
          (first
            | (go_at_call 104; refine (needs_any (some a) len j D F M _ HA6.out hjl).mono ?_; rintro e w4 ⟨rfl, hb4⟩; have hW7 := HW6.out.drew.step hb4; have hC7 := HC.out.drew.below hb4 HC.out.drew.lt; have hS4 := And.intro (hW7.box.cell (i := 0) rfl) (And.intro (hC7.cell (i := 0) rfl) (And.intro (hC7.cell (i := 1) rfl) (And.intro (hC7.cell (i := 2) rfl) (And.intro (hC7.cell (i := 3) rfl) (hC7.cell (i := 4) rfl))))); have hcl := hW7.li.cell hjl; have hfz := hW7.li.frozen j; have hW8 := hW7.setL HK.out j (ndS (syD D F len) j); have hC8 := hC7.other (i := j) (.int .i64 (ndS (syD D F len) j)) (show wr.heap.size ≠ lb from by have h1 := HK.out.l0; have h2 := HW.out.sz; omega); have hS5 := And.intro (hW8.box.cell (i := 0) rfl) (And.intro (hC8.cell (i := 0) rfl) (And.intro (hC8.cell (i := 1) rfl) (And.intro (hC8.cell (i := 2) rfl) (And.intro (hC8.cell (i := 3) rfl) (hC8.cell (i := 4) rfl)))))))
         
        have hW9 := hW8.congrL (L' := fun q => if q < j + 1 then ndS s q else 0) (fun i hi => by
          by_cases e : i = j
          · subst e; simp only [if_true, Nat.lt_succ_self]; rw [HSY.out]
          · simp only [if_neg e]
            by_cases e2 : i < j
            · rw [if_pos e2, if_pos (by omega)]
            · rw [if_neg e2, if_neg (by omega)])
        clear hW8 hS5 hS4 hcl hfz
        generalize (w4.setCell ⟨lb, j, none⟩ (.int .i64 (ndS (syD D F len) j))) = w5 at hW9 hC8 ⊢
        clear hW7 hC7 HC d0 d1 d2 d3 d4 b0 HW6 HA6 c0 c1 c2 c3 c4 hb4 hBr hA hAb
        have HW9 := Lib.hid hW9
        have e0 := hC8.cell (i := 0) rfl
        have e2 := hC8.cell (i := 2) rfl
        generalize hfo : D.fo j = fo at e2
        have HFO := Lib.hid hfo
        have hsl : s.l j = D.fl j := by rw [HSY.out]; rfl
        have hsk : s.K j = D.K j := by rw [HSY.out]; rfl
        have HSL := Lib.hid (And.intro hsl hsk)
        clear hW9 hC8 hfo hsl hsk HW
        by_cases hK : D.K j = 1 ∨ D.K j = 2
        · have HK12 := Lib.hid hK
          go_upto_region 7 with fail
          go_cut [40] from 33 to 39 (fun t wx => t = .bool false ∧ wx = w5)
          case first =>
            rcases hK with hK | hK
            all_goals
              rw [hK] at e0
              clear hK
              go_wp2_with fail
              go_meet
              exact ⟨rfl, rfl⟩
          case rest =>
            obtain ⟨rfl, rfl⟩ := hcut
            clear hK e0
            go_wp2
            go_loopw [44] (fun i wq => ∃ k bv bx, k ≤ D.fl j ∧ i = .int .i64 (k : Nat) ∧ Hid (Ws lb bb wb B0 len w1 bv bx (fun q => if q < j + 1 then ndS s q else 0) wq) ∧ Hid (∀ q x, (bx q).count x = csS s j k q x) ∧ Hid (∀ q, (bx q).length ≤ 30 * j + k)) (fun i _ => D.fl j - (intOf i).toNat)
            case atStart => exact ⟨0, bv, bx, by omega, rfl, HW9, HCS, HLN⟩
            case round =>
              obtain ⟨k, bv, bx, hk, rfl, HQ, HCQ, HLQ⟩ := hrel
              clear HW9 HCS HLN e2
              by_cases hkl : k < D.fl j
              · have hki : (k : Int) < (D.fl j : Int) := by omega
                have hBq := HB1.out.trans (HQ.out.below.mono HB1.out.size)
                have hAq := H.out.below hBq (Nat.le_refl _)
                obtain ⟨a2, Bb, Bo, Bs, hfo, hB, hBb, f0, f1, f2, f3, f4, hin⟩ := (hAq.2 j hjl).1.place hkl
                obtain rfl : fo = some a2 := HFO.out.symm.trans hfo
                clear hfo hBq hAq
                have hnsz : ((F j).Y k).n.size ≤ 140737488355327 := by
                  generalize (F j).Y k = t at hin
                  cases hin with
                  | mk _ _ _ _ _ _ hn => exact hn
                clear hin
                have HT2 := Lib.hid ((HT.out.below HQ.out.below).alloc (.cells #[.int .i64 ((F j).T k), .string ((F j).N k), .int .i64 ((F j).Y k).k, .string ((F j).Y k).n, .slice ((F j).Y k).o ((F j).Y k).of.length ((F j).Y k).c] 50))
                have HCf := Lib.hid (Cs.new wr [.int .i64 ((F j).T k), .string ((F j).N k), .int .i64 ((F j).Y k).k, .string ((F j).Y k).n, .slice ((F j).Y k).o ((F j).Y k).of.length ((F j).Y k).c] 50)
                have HQ2 := Lib.hid (HQ.out.alloc (.cells #[.int .i64 ((F j).T k), .string ((F j).N k), .int .i64 ((F j).Y k).k, .string ((F j).Y k).n, .slice ((F j).Y k).o ((F j).Y k).of.length ((F j).Y k).c] 50))
                have hr : s.r j k = if ((F j).Y k).k = 6 then some (fiS D.S ((F j).Y k).n len) else none := by rw [HSY.out]; rfl
                cases hf : fiS D.S ((F j).Y k).n len with
                | none =>
                  have hp := plS_none hf
                  have hi := isS_none hf
                  have hmiss : ∀ q, toB s q j k = false := fun q => by unfold toB; rw [hr, hf]; by_cases e : ((F j).Y k).k = 6 <;> simp [e]
                  have HM := Lib.hid hmiss
                  clear hf hr hmiss
                  go_wp2_with (go_at_call 80; refine (find_any T len D.S D.K ((F j).Y k).n _ HT2.out hnsz).mono ?_; rw [hp, hi]; rintro e w2 ⟨rfl, hb2⟩)
                  go_roundw
                  case rel => exact ⟨k + 1, bv, bx, by omega, by go_num, Lib.hid (HQ2.out.step hb2), Lib.hid (fun q x => by rw [HCQ.out, cs_miss s HM.out]), Lib.hid (fun q => by have := HLQ.out q; omega)⟩
                  case measure => simp [intOf]; omega
                | some p =>
                  have hp := plS_some hf
                  have hi := isS_some hf
                  have hpl := (fiS_some hf).1
                  by_cases h6 : ((F j).Y k).k = 6
                  · rw [if_pos h6, hf] at hr
                    have HR := Lib.hid hr
                    have H6 := Lib.hid h6
                    clear hf hr h6
                    have hpi : (p : Int) < (len : Int) := by omega
                    go_wp2_with (go_at_call 80; refine (find_any T len D.S D.K ((F j).Y k).n _ HT2.out hnsz).mono ?_; rw [hp, hi]; rintro e w2 ⟨rfl, hb2⟩; have g2 := (HCf.out.below hb2 HCf.out.lt).cell (i := 2) rfl; rw [H6.out] at g2)
                    have hW2 := HQ2.out.step hb2
                    have HW2 := Lib.hid hW2
                    have b1 := hW2.drew.box.cell (i := 1) rfl
                    have rb := hW2.drew.bh.row.cell hpl
                    have hW3 := (hW2.alloc (.cells #[.int .i64 (j : Nat)] 3)).drew
                    have b1a := hW3.box.cell (i := 1) rfl
                    have rba := hW3.bh.row.cell hpl
                    have hE3 := hW3.bh.each p hpl
                    have hsz3 := hW3.sz
                    have hbig2 : (bx p).length + 1 ≤ maxLen := by have := HLQ.out p; unfold maxLen; omega
                    have hbytes2 : ((bx p).length + 1) * 8 ≤ 140737488355328 := by have := HLQ.out p; omega
                    have HW3 := Lib.hid hW3
                    clear hW2 hW3 g2
                    go_region_law (refine Ri.step rfl (.tmp 70) (.tmp 72) 23 rfl 3 1 B0 w2.heap.size 8 Tryz.underlying23 infoInt (by decide) (bv p) (.slice (some ⟨w2.heap.size, 0, none⟩) 1 1) (bx p).length 1 (inC (bx p)) (inC [j]) rfl rfl hE3 (Rw.lit_at w2 _ 1 _ (inC [j]) rfl rfl).drew (inC_cells _) hbig2 hbytes2 hsz3 ?_; intro v7 w7 hR7 hg7 hG7; obtain ⟨g7, c7, rfl, _⟩ := Rw.form1 hR7 (Nat.succ_pos _); obtain ⟨hbx7, hrw7⟩ := HW3.out.mid HK.out hpl hg7; have sc7 := hbx7.cell (i := 1) rfl; have rc7 := hrw7.cell hpl; have rf7 := hrw7.frozen p; have hP7 := HW3.out.push HK.out hpl (i := j) (by show Rw _ 1 _ _ _ _ _; rw [List.length_append, inC_app]; exact hR7) hg7 hG7)
                    all_goals
                      go_wp2
                      go_roundw
                      case rel => exact ⟨k + 1, _, _, by omega, by go_num, Lib.hid hP7, Lib.hid (fun q x => cs_hit s HR.out HCQ.out q x), Lib.hid (fun q => by
                        have h1 := HLQ.out q
                        have h2 := HLQ.out p
                        by_cases e : q = p
                        · simp only [e, if_true, List.length_append, List.length_singleton]; omega
                        · simp only [if_neg e]; omega)⟩
                      case measure => simp [intOf]; omega
                  · have hmiss : ∀ q, toB s q j k = false := fun q => by unfold toB; rw [hr, if_neg h6]
                    have HM := Lib.hid hmiss
                    have h6' : (((F j).Y k).k == 6) = false := by simpa using h6
                    clear hf hr hmiss h6
                    go_wp2_with (go_at_call 80; refine (find_any T len D.S D.K ((F j).Y k).n _ HT2.out hnsz).mono ?_; rw [hp, hi]; rintro e w2 ⟨rfl, hb2⟩; have g2 := (HCf.out.below hb2 HCf.out.lt).cell (i := 2) rfl)
                    go_roundw
                    case rel => exact ⟨k + 1, bv, bx, by omega, by go_num, Lib.hid (HQ2.out.step hb2), Lib.hid (fun q x => by rw [HCQ.out, cs_miss s HM.out]), Lib.hid (fun q => by have := HLQ.out q; omega)⟩
                    case measure => simp [intOf]; omega
              · have hki : ¬ (k : Int) < (D.fl j : Int) := by omega
                obtain rfl : k = D.fl j := by omega
                go_wp2
                go_roundw
                case rel => exact ⟨j + 1, bv, bx, by omega, by go_num, HQ, Lib.hid (fun q x => by rw [HCQ.out, cs_next s (by rw [HSL.out.2]; exact HK12.out), HSL.out.1]), Lib.hid (fun q => by have := HLQ.out q; omega)⟩
                case measure => simp [intOf]; omega
        · have k1 : (D.K j != 1) = true := bne_iff_ne.2 (fun e => hK (.inl e))
          have k2 : (D.K j != 2) = true := bne_iff_ne.2 (fun e => hK (.inr e))
          have n1 : ¬ D.K j = 1 := fun e => hK (.inl e)
          have HKN := Lib.hid hK
          clear hK
          go_wp2
          go_roundw
          case rel => exact ⟨j + 1, bv, bx, by omega, by go_num, HW9, Lib.hid (fun q x => by rw [HCS.out, cs_skip s (by rw [HSL.out.2]; exact HKN.out)]), Lib.hid (fun q => by have := HLN.out q; omega)⟩
          case measure => simp [intOf]; omega
      · have hji : ¬ (j : Int) < (len : Int) := by omega
        obtain rfl : j = len := by omega
        have hR := HC1.out.below HW.out.below hdw
        have r0 := hR.cell (i := 0) rfl
        have r1 := hR.cell (i := 1) rfl
        have q0 := hR.frozen (i := 0) rfl
        have q1 := hR.frozen (i := 1) rfl
        have b0 := HW.out.box.cell (i := 0) rfl
        have b1 := HW.out.box.cell (i := 1) rfl
        have HR := Lib.hid hR
        clear hR
        go_wp2
        have hR2 := (HR.out.put (i := 0) (.slice (some ⟨lb, 0, none⟩) j j)).put (i := 1) (.slice (some ⟨bb, 0, none⟩) j j)
        have hlw : lb ≠ w.heap.size := by have := HK.out.l1; omega
        have hbw : bb ≠ w.heap.size := by have := HK.out.b1; omega
        have hw0 : w.heap.size < B0 := by have := HK.out.l0; have := HK.out.l1; omega
        have hli := (HW.out.li.setOther (a := ⟨w.heap.size, 0, none⟩) (by exact hlw) (.slice (some ⟨lb, 0, none⟩) j j)).setOther (a := ⟨w.heap.size, 1, none⟩) (by exact hlw) (.slice (some ⟨bb, 0, none⟩) j j)
        have hbh := (HW.out.bh.other (b := w.heap.size) (i := 0) (u := .slice (some ⟨lb, 0, none⟩) j j) hw0 hbw).other (b := w.heap.size) (i := 1) (u := .slice (some ⟨bb, 0, none⟩) j j) hw0 hbw
        have hbel := (((HB0.out.trans (HB1.out.mono HB0.out.size)).trans (HW.out.below.mono (Nat.le_of_lt hdw))).setCell (p := ⟨w.heap.size, 0, none⟩) (Nat.le_refl _) (.slice (some ⟨lb, 0, none⟩) j j)).setCell (p := ⟨w.heap.size, 1, none⟩) (Nat.le_refl _) (.slice (some ⟨bb, 0, none⟩) j j)
        have hszf : B0 ≤ ((wr.setCell ⟨w.heap.size, 0, none⟩ (.slice (some ⟨lb, 0, none⟩) j j)).setCell ⟨w.heap.size, 1, none⟩ (.slice (some ⟨bb, 0, none⟩) j j)).heap.size := by have := HW.out.sz; simpa [World.setCell] using this
        generalize ((wr.setCell ⟨w.heap.size, 0, none⟩ (.slice (some ⟨lb, 0, none⟩) j j)).setCell ⟨w.heap.size, 1, none⟩ (.slice (some ⟨bb, 0, none⟩) j j)) = w5 at hR2 hli hbh hbel hszf ⊢
        have d0 := hR2.cell (i := 0) rfl
        have d1 := hR2.cell (i := 1) rfl
        refine bodyPost_ret (by simp [results, Tryz.results82, go_sem, d0, d1]; try rfl) rfl ?_
        have hn : s.n = j := by rw [HSY.out]; rfl
        have hli2 : Li lb j (ndS s) w5 := World.rowIs.congr hli (fun i hi => by simp only [if_pos hi])
        refine ⟨lb, bb, rfl, B0, bv, bx, ⟨hli2, hbh, HK.out.l0, HK.out.b0, Ne.symm HK.out.nlb, by have := HK.out.l1; omega, by have := HK.out.b1; omega, fun q x hq => ?_, fun q hq => ?_, hszf, hbel⟩⟩
        · rw [HCS.out, ← cs_end, hn]
        · have := HLN.out q; have := HSM.out.le; omega
end Go.Proofs.YtdogddliifbjnaaGreat.Ck
