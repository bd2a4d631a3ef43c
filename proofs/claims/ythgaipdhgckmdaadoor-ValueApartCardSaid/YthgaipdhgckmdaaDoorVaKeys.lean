/- Values: the contract of the reference's keys. -/
import Derived.Test.YthgaipdhgckmdaaDoorVaTags
namespace Go.Proofs.YthgaipdhgckmdaaDoor.Va
open Go.RowKit Cm
set_option linter.unusedVariables false
set_option linter.unusedSimpArgs false

theorem key_ret {k : Int} {b : Bool} (h : keyB k = b) (w : World) : Calls Tryd.prog 21 #[.int .i64 k] w fun e w' => e = .returned (.bool b) ∧ w' = w := by
  subst h; exact key_any k w
theorem cmp_ret {a b : Va} {c : Int} (h : cmpV a.k a.n a.s b.k b.n b.s = c) (w : World) :
    Calls Tryd.prog 20 #[.agg #[.int .i64 a.k, .int .i64 a.n, .string a.s, .slice a.tb a.ts.length a.tc, .slice a.io a.is.length a.ic], .agg #[.int .i64 b.k, .int .i64 b.n, .string b.s, .slice b.tb b.ts.length b.tc, .slice b.io b.is.length b.ic]] w
      fun e w' => e = .returned (.int .i64 c) ∧ Below w.heap.size w w' := by
  subst h; exact rcmp_any a b w
theorem item_of {l : List Va} {i : Nat} {v : Va} (h : l[i]? = some v) : l.getD i default = v := by rw [List.getD, h]; rfl
theorem kys_false {l : List Va} {j : Nat} (hj : 2 * j + 1 < l.length) (h : kyBad l (2 * j) = true) : kysB l = false := by
  unfold kysB
  rw [decide_eq_false (fun hh => by rw [hh j (by omega) hj] at h; cases h)]
  rfl

theorem ten_below {w w' : World} {Ab Ao Bb Bo : Nat} {As Bs : Option Nat} {x0 x1 x2 x3 x4 y0 y1 y2 y3 y4 : Value} (hb : Below w.heap.size w w') (ha : Ab < w.heap.size) (hc : Bb < w.heap.size)
    (h : w.cell? ⟨Ab, Ao, As⟩ = some x0 ∧ w.cell? ⟨Ab, Ao + 1, none⟩ = some x1 ∧ w.cell? ⟨Ab, Ao + 2, none⟩ = some x2 ∧ w.cell? ⟨Ab, Ao + 3, none⟩ = some x3 ∧ w.cell? ⟨Ab, Ao + 4, none⟩ = some x4 ∧
      w.cell? ⟨Bb, Bo, Bs⟩ = some y0 ∧ w.cell? ⟨Bb, Bo + 1, none⟩ = some y1 ∧ w.cell? ⟨Bb, Bo + 2, none⟩ = some y2 ∧ w.cell? ⟨Bb, Bo + 3, none⟩ = some y3 ∧ w.cell? ⟨Bb, Bo + 4, none⟩ = some y4) :
    w'.cell? ⟨Ab, Ao, As⟩ = some x0 ∧ w'.cell? ⟨Ab, Ao + 1, none⟩ = some x1 ∧ w'.cell? ⟨Ab, Ao + 2, none⟩ = some x2 ∧ w'.cell? ⟨Ab, Ao + 3, none⟩ = some x3 ∧ w'.cell? ⟨Ab, Ao + 4, none⟩ = some x4 ∧
      w'.cell? ⟨Bb, Bo, Bs⟩ = some y0 ∧ w'.cell? ⟨Bb, Bo + 1, none⟩ = some y1 ∧ w'.cell? ⟨Bb, Bo + 2, none⟩ = some y2 ∧ w'.cell? ⟨Bb, Bo + 3, none⟩ = some y3 ∧ w'.cell? ⟨Bb, Bo + 4, none⟩ = some y4 := by
  obtain ⟨h0, h1, h2, h3, h4, g0, g1, g2, g3, g4⟩ := h
  exact ⟨(hb.cell ha).trans h0, (hb.cell ha).trans h1, (hb.cell ha).trans h2, (hb.cell ha).trans h3, (hb.cell ha).trans h4, (hb.cell hc).trans g0, (hb.cell hc).trans g1, (hb.cell hc).trans g2, (hb.cell hc).trans g3, (hb.cell hc).trans g4⟩

set_option maxRecDepth 100000 in
set_option maxHeartbeats 2000000 in
theorem keys_any (k n : Int) (s : ByteArray) (tb : Option Addr) (tc : Nat) (ts : List Int) (io : Option Addr) (ic : Nat) (is : List Va) (w : World) (h : VaIn w (.mk k n s tb tc ts io ic is)) :
    Calls Tryd.prog 44 #[.slice io is.length ic] w fun e w' => e = .returned (.bool (kysB is)) ∧ Below w.heap.size w w' := by
  have hlen := (va_room h).2.2.2.2
  have hB0 := Lib.hid (Below.refl w.heap.size w)
  have H := Lib.hid h
  clear h
  go_enter Tryd.func44, Tryd.ntmps44
  go_wp2
  go_loopw [3] (fun i wr => ∃ j p, p ≤ is.length + 1 ∧ i = .int .i64 (p : Nat) ∧ Hid (p = 2 * j) ∧ Hid (∀ q, q < j → 2 * q + 1 < is.length → kyBad is (2 * q) = false) ∧ Hid (Below w.heap.size w wr)) (fun i _ => is.length + 2 - (intOf i).toNat)
  case atStart => exact ⟨0, 0, by omega, rfl, Lib.hid rfl, Lib.hid (fun q hq => by omega), hB0⟩
  case round =>
    obtain ⟨j, p, hp, rfl, HJ, HP, HB⟩ := hrel
    clear hB0
    by_cases hjl : p + 1 < is.length
    · have hji : (p : Int) + 1 < (is.length : Int) := by omega
      have hjl2 : Hid (2 * j + 1 < is.length) := Lib.hid (by have := HJ.out; omega)
      have hpi : (p : Int) < (is.length : Int) := by omega
      obtain ⟨v, hvi⟩ : ∃ v, is[p]? = some v := ⟨_, List.getElem?_eq_getElem (by omega)⟩
      obtain ⟨a, Ab, Ao, As, rfl, hA, hAb, c0, c1, c2, c3, c4, hin⟩ := va_place (va_below H.out HB.out (Nat.le_refl _)) hvi
      have hg := Lib.hid (item_of hvi)
      clear hin hvi
      have hbad : Hid (∀ b : Bool, kyBad is p = b → kyBad is (2 * j) = b) := Lib.hid (fun b hb => by rw [← HJ.out]; exact hb)
      have hnext : Hid (kyBad is p = false → ∀ q, q < j + 1 → 2 * q + 1 < is.length → kyBad is (2 * q) = false) := Lib.hid (fun hb q hq hl => by
        by_cases e : q = j
        · rw [e]; exact hbad.out _ hb
        · exact HP.out q (by omega) hl)
      cases hk : keyB v.k with
      | false =>
        go_upto_region 4 with fail
        go_big_quiet (first | (go_at_call 21; exact Calls.quiet_of_same (key_ret hk _)))
        go_wp2
        go_ret
        refine ⟨?_, below_drewN HB.out nq⟩
        rw [kys_false hjl2.out (hbad.out _ (by unfold kyBad; rw [hg.out, hk]; rfl))]; rfl
      | true =>
        by_cases h1 : 1 < p
        · obtain ⟨m, hm⟩ : ∃ m, p = m + 2 := ⟨p - 2, by omega⟩
          obtain ⟨u, hui⟩ : ∃ u, is[m]? = some u := ⟨_, List.getElem?_eq_getElem (by omega)⟩
          obtain ⟨a', Bb, Bo, Bs, e', hB, hBb, b0, b1, b2, b3, b4, hun⟩ := va_place (va_below H.out HB.out (Nat.le_refl _)) hui
          obtain rfl := Option.some.inj e'
          have hg2 := Lib.hid (show is.getD (p - 2) default = u by rw [show p - 2 = m by omega]; exact item_of hui)
          have hsub : (p : Int) - 2 = (m : Int) := by omega
          have hwr : IntKind.i64.wrap (m : Int) = (m : Int) := IntWalk.i64_in _ (by omega)
          have hmi : (m : Int) < (is.length : Int) := by omega
          have f1 : decide ((1 : Int) < (p : Int)) = true := decide_eq_true (by omega)
          have f1' : decide (1 < p) = true := decide_eq_true h1
          have H1 := Lib.hid h1
          clear hun hui e' hm h1
          by_cases hkk : u.k = v.k
          · obtain ⟨c, hc⟩ : ∃ c, cmpV u.k u.n u.s v.k v.n v.s = c := ⟨_, rfl⟩
            have HC := Lib.hid hc
            clear hc
            have f2 : (u.k != v.k) = false := by simpa using hkk
            have HK := Lib.hid hkk
            clear hkk
            have hS : wr.cell? ⟨Ab, Ao, As⟩ = some (.int .i64 v.k) ∧ wr.cell? ⟨Ab, Ao + 1, none⟩ = some (.int .i64 v.n) ∧ wr.cell? ⟨Ab, Ao + 2, none⟩ = some (.string v.s) ∧ wr.cell? ⟨Ab, Ao + 3, none⟩ = some (.slice v.tb v.ts.length v.tc) ∧ wr.cell? ⟨Ab, Ao + 4, none⟩ = some (.slice v.io v.is.length v.ic) ∧
              wr.cell? ⟨Bb, Bo, Bs⟩ = some (.int .i64 u.k) ∧ wr.cell? ⟨Bb, Bo + 1, none⟩ = some (.int .i64 u.n) ∧ wr.cell? ⟨Bb, Bo + 2, none⟩ = some (.string u.s) ∧ wr.cell? ⟨Bb, Bo + 3, none⟩ = some (.slice u.tb u.ts.length u.tc) ∧ wr.cell? ⟨Bb, Bo + 4, none⟩ = some (.slice u.io u.is.length u.ic) := ⟨c0, c1, c2, c3, c4, b0, b1, b2, b3, b4⟩
            have hS2 := Lib.hid hS
            by_cases hcm : c = -1
            · subst hcm
              go_upto_region 4 with fail
              go_region_held3 (fun w' => w'.cell? ⟨Ab, Ao, As⟩ = some (.int .i64 v.k) ∧ w'.cell? ⟨Ab, Ao + 1, none⟩ = some (.int .i64 v.n) ∧ w'.cell? ⟨Ab, Ao + 2, none⟩ = some (.string v.s) ∧ w'.cell? ⟨Ab, Ao + 3, none⟩ = some (.slice v.tb v.ts.length v.tc) ∧ w'.cell? ⟨Ab, Ao + 4, none⟩ = some (.slice v.io v.is.length v.ic) ∧
                w'.cell? ⟨Bb, Bo, Bs⟩ = some (.int .i64 u.k) ∧ w'.cell? ⟨Bb, Bo + 1, none⟩ = some (.int .i64 u.n) ∧ w'.cell? ⟨Bb, Bo + 2, none⟩ = some (.string u.s) ∧ w'.cell? ⟨Bb, Bo + 3, none⟩ = some (.slice u.tb u.ts.length u.tc) ∧ w'.cell? ⟨Bb, Bo + 4, none⟩ = some (.slice u.io u.is.length u.ic)) (exact hS) (first
                | (go_at_call 21; refine (key_ret hk _).mono ?_; rintro e w' ⟨rfl, rfl⟩)
                | (go_at_call 20; refine (cmp_ret HC.out _).mono ?_; rintro e w2 ⟨rfl, hb2⟩; replace hb2 : Below wr.heap.size wr w2 := (Below.refl wr.heap.size wr).drew.trans hb2; replace hS := ten_below hb2 hAb hBb hS2.out))
              go_wp2
              exact ⟨⟨j + 1, p + 2, by omega, by go_num, Lib.hid (by have := HJ.out; omega), Lib.hid (hnext.out (by
                unfold kyBad; rw [hg.out, hg2.out, hk, f1', HC.out, decide_eq_false (fun h => h HK.out)]; rfl)), Lib.hid (HB.out.trans (hb2.mono HB.out.size))⟩, by simp [intOf]; omega⟩
            · have f3 : (c != -1) = true := by simpa using hcm
              have HM := Lib.hid hcm
              clear hcm
              go_upto_region 4 with fail
              go_region_held3 (fun w' => w'.cell? ⟨Ab, Ao, As⟩ = some (.int .i64 v.k) ∧ w'.cell? ⟨Ab, Ao + 1, none⟩ = some (.int .i64 v.n) ∧ w'.cell? ⟨Ab, Ao + 2, none⟩ = some (.string v.s) ∧ w'.cell? ⟨Ab, Ao + 3, none⟩ = some (.slice v.tb v.ts.length v.tc) ∧ w'.cell? ⟨Ab, Ao + 4, none⟩ = some (.slice v.io v.is.length v.ic) ∧
                w'.cell? ⟨Bb, Bo, Bs⟩ = some (.int .i64 u.k) ∧ w'.cell? ⟨Bb, Bo + 1, none⟩ = some (.int .i64 u.n) ∧ w'.cell? ⟨Bb, Bo + 2, none⟩ = some (.string u.s) ∧ w'.cell? ⟨Bb, Bo + 3, none⟩ = some (.slice u.tb u.ts.length u.tc) ∧ w'.cell? ⟨Bb, Bo + 4, none⟩ = some (.slice u.io u.is.length u.ic)) (exact hS) (first
                | (go_at_call 21; refine (key_ret hk _).mono ?_; rintro e w' ⟨rfl, rfl⟩)
                | (go_at_call 20; refine (cmp_ret HC.out _).mono ?_; rintro e w2 ⟨rfl, hb2⟩; replace hb2 : Below wr.heap.size wr w2 := (Below.refl wr.heap.size wr).drew.trans hb2; replace hS := ten_below hb2 hAb hBb hS2.out))
              go_wp2
              go_ret
              refine ⟨?_, HB.out.trans (hb2.mono HB.out.size)⟩
              rw [kys_false hjl2.out (hbad.out _ (by unfold kyBad; rw [hg.out, hg2.out, hk, f1', HC.out, decide_eq_false (fun h => h HK.out), decide_eq_true HM.out]; rfl))]; rfl
          · have f2 : (u.k != v.k) = true := by simpa using hkk
            have HK := Lib.hid hkk
            clear hkk
            go_upto_region 4 with fail
            go_big_quiet (first | (go_at_call 21; exact Calls.quiet_of_same (key_ret hk _)))
            go_wp2
            go_ret
            refine ⟨?_, below_drewN HB.out nq⟩
            rw [kys_false hjl2.out (hbad.out _ (by unfold kyBad; rw [hg.out, hg2.out, hk, decide_eq_true H1.out, decide_eq_true HK.out]; rfl))]; rfl
        · have f1 : decide ((1 : Int) < (p : Int)) = false := decide_eq_false (by omega)
          have f1' : decide (1 < p) = false := decide_eq_false h1
          have H1 := Lib.hid h1
          clear h1
          go_upto_region 4 with fail
          go_big_quiet (first | (go_at_call 21; exact Calls.quiet_of_same (key_ret hk _)))
          go_wp2
          exact ⟨⟨j + 1, p + 2, by omega, by go_num, Lib.hid (by have := HJ.out; omega), Lib.hid (hnext.out (by unfold kyBad; rw [hg.out, hk, f1']; rfl)), below_drewN HB.out nq⟩, by simp [intOf]; omega⟩
    · have hji : ¬ (p : Int) + 1 < (is.length : Int) := by omega
      have h0 : Hid (∀ q, q < is.length → 2 * q + 1 < is.length → kyBad is (2 * q) = false) := Lib.hid (fun q hq hl => HP.out q (by have := HJ.out; omega) hl)
      have e2 : (is.length : Int).tmod 2 = (is.length : Int) % 2 := Int.tmod_eq_emod_of_nonneg (by omega)
      have e3 : decide (is.length % 2 = 0) = ((is.length : Int) % 2 == 0) := by
        by_cases h : is.length % 2 = 0
        · have : (is.length : Int) % 2 = 0 := by omega
          rw [this, h]; rfl
        · have : (is.length : Int) % 2 = 1 := by omega
          rw [this, decide_eq_false h]; rfl
      have E3 := Lib.hid e3
      clear e3
      go_wp2
      go_ret
      refine ⟨?_, HB.out⟩
      unfold kysB
      rw [decide_eq_true h0.out, E3.out]; rfl
end Go.Proofs.YthgaipdhgckmdaaDoor.Va
