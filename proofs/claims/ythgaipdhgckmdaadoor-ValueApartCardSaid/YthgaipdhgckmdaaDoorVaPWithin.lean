/- Values: the contracts of the program's tag and within, given that of tell for what is less deep. (Printed by gen/tell.py.) -/
import Derived.Test.YthgaipdhgckmdaaDoorVaPQuote
import Derived.Test.YthgaipdhgckmdaaDoorVaItems
import Derived.Test.YthgaipdhgckmdaaDoorVaPKind
namespace Go.Proofs.YthgaipdhgckmdaaDoor.Va
open Go.RowKit Cm
set_option linter.unusedVariables false
set_option linter.unusedSimpArgs false

theorem ah0 (ts : List Int) (i : Nat) : aheadL 0 ts i = if 0 < i then [44] else [] := by
  unfold aheadL
  by_cases h : 0 < i <;> simp [h]
theorem ah2 (ts : List Int) (i : Nat) : aheadL 2 ts i = if i % 2 = 1 then [58] else if 0 < i then [44] else [] := by
  unfold aheadL
  by_cases h : i % 2 = 1
  · have h0 : 0 < i := by omega
    have h1 : ¬ i % 2 = 0 := by omega
    simp [h, h0]
  · have h1 : i % 2 = 0 := by omega
    by_cases h0 : 0 < i <;> simp [h0, h1]
theorem ah1 (ts : List Int) (i : Nat) : aheadL 1 ts i = (if 0 < i then [44] else []) ++ (sgL (ts.getD i 0) ++ [61]) := by
  unfold aheadL
  by_cases h : 0 < i <;> simp [h]
theorem colon_ret {x : List UInt8} {i : Nat} (hx : x = if i % 2 = 1 then [58] else if 0 < i then [44] else []) (B : Nat) (v : Value) (l : List UInt8) (w : World) (h : Bt B v l w) (hB : B ≤ w.heap.size) (hi : i ≤ 1000000) (hlim : l.length ≤ 100000000) :
    Calls Tryd.prog 52 #[v, .int .i64 (i : Nat)] w (Gv B w (l ++ x)) := by
  subst hx; exact colon_any B v l i w h hB hi hlim
/-- The tag ahead of an item. -/
theorem tag0_any (B : Nat) (v : Value) (l : List UInt8) (tb : Option Addr) (tc : Nat) (ts : List Int) (io : Option Addr) (il ic i : Nat) (t : Int) (x : List UInt8) (hx : x = if 0 < i then [44] else []) (hxl : x.length ≤ 1) (w : World) (h : Bt B v l w) (hB : B ≤ w.heap.size) (hlim : l.length ≤ 10000000)
    (hT : Lib.TabBelow Tryd.prog B w "internal/strconv.uint64pow10" .u64 Lib.pow10Tab) (ht : -9223372036854775808 ≤ t ∧ t ≤ 9223372036854775807)
    (hc : (i < ts.length ∧ ∃ a, tb = some a ∧ (a.add i).block < w.heap.size ∧ w.cell? (a.add i) = some (.int .i64 t)) ∨ (¬ i < ts.length ∧ t = 0)) (hil : ts.length ≤ 140737488355327) :
    Calls Tryd.prog 53 #[.agg #[.slice tb ts.length tc, .slice io il ic], v, .int .i64 (i : Nat)] w (Gv B w (l ++ x ++ sgL t ++ [61])) := by
  have hB0 := (Below.refl B w).alloc hB (.cells #[.slice tb ts.length tc, .slice io il ic] 67)
  have hK0 := (Lib.OthersKept.refl 5 none w).alloc (.cells #[.slice tb ts.length tc, .slice io il ic] 67)
  have hsl := sg_len ht
  have HB0 := Lib.hid hB0
  have HK0 := Lib.hid hK0
  have HX := Lib.hid hx
  have HT := Lib.hid (hT.on hB0)
  have H := Lib.hid (h.alloc (.cells #[.slice tb ts.length tc, .slice io il ic] 67))
  clear hB0 hK0 hx hT h
  rcases hc with ⟨hl, a, rfl, hab, hcl⟩ | ⟨hl, rfl⟩
  · have hli : (i : Int) < (ts.length : Int) := by omega
    have hcl2 : (w.alloc (.cells #[.slice (some a) ts.length tc, .slice io il ic] 67)).cell? (a.add i) = some (.int .i64 t) := by rw [World.cell?_alloc_lt _ _ _ hab]; exact hcl
    go_enter Tryd.func53, Tryd.ntmps53
    go_wp2_with (first
      | (go_at_call 51; refine (comma_ret HX.out B v l _ H.out (by simp; omega) (by omega)).mono ?_; rintro e w2 ⟨v2, rfl, h2, hb2, hk2⟩; have H2 := Lib.hid h2; have HB2 := Lib.hid (HB0.out.trans hb2); have HK2 := Lib.hid (HK0.out.trans hk2); have HT2 := Lib.hid (HT.out.on hb2); clear h2 hb2 hk2)
      | (go_at_call 47; refine (appint_any B v2 _ _ _ ht H2.out (Nat.le_trans hB HB2.out.size) (by rw [List.length_append]; omega) HT2.out).mono ?_; rintro e w3 ⟨v3, rfl, h3, hb3, hk3⟩; have H3 := Lib.hid h3; have HB3 := Lib.hid (HB2.out.trans hb3); have HK3 := Lib.hid (HK2.out.trans hk3); clear h3 hb3 hk3)
      | (at_builtin; refine app_lit rfl (.tmp 22) (.tmp 23) rfl B v3 (l ++ x ++ sgL t) [61] _ _ _ rfl rfl rfl rfl rfl H3.out (Nat.le_trans hB HB3.out.size) (by rw [List.length_append, List.length_append]; show _ + 1 ≤ _; omega) ?_; intro v4 w4 h4 hb4 hk4))
    go_ret
    exact ⟨v4, rfl, h4, HB3.out.trans hb4, HK3.out.trans hk4⟩
  · have hli : ¬ (i : Int) < (ts.length : Int) := by omega
    go_enter Tryd.func53, Tryd.ntmps53
    go_wp2_with (first
      | (go_at_call 51; refine (comma_ret HX.out B v l _ H.out (by simp; omega) (by omega)).mono ?_; rintro e w2 ⟨v2, rfl, h2, hb2, hk2⟩; have H2 := Lib.hid h2; have HB2 := Lib.hid (HB0.out.trans hb2); have HK2 := Lib.hid (HK0.out.trans hk2); have HT2 := Lib.hid (HT.out.on hb2); clear h2 hb2 hk2)
      | (go_at_call 47; refine (appint_any B v2 _ _ _ ht H2.out (Nat.le_trans hB HB2.out.size) (by rw [List.length_append]; omega) HT2.out).mono ?_; rintro e w3 ⟨v3, rfl, h3, hb3, hk3⟩; have H3 := Lib.hid h3; have HB3 := Lib.hid (HB2.out.trans hb3); have HK3 := Lib.hid (HK2.out.trans hk3); clear h3 hb3 hk3)
      | (at_builtin; refine app_lit rfl (.tmp 22) (.tmp 23) rfl B v3 (l ++ x ++ sgL 0) [61] _ _ _ rfl rfl rfl rfl rfl H3.out (Nat.le_trans hB HB3.out.size) (by rw [List.length_append, List.length_append]; show _ + 1 ≤ _; omega) ?_; intro v4 w4 h4 hb4 hk4))
    go_ret
    exact ⟨v4, rfl, h4, HB3.out.trans hb4, HK3.out.trans hk4⟩
theorem tag_any (B : Nat) (v : Value) (l : List UInt8) (tb : Option Addr) (tc : Nat) (ts : List Int) (io : Option Addr) (il ic i : Nat) (w : World) (h : Bt B v l w) (hB : B ≤ w.heap.size) (hlim : l.length ≤ 10000000)
    (hT : Lib.TabBelow Tryd.prog B w "internal/strconv.uint64pow10" .u64 Lib.pow10Tab) (hts : In tb ts w) (hil : ts.length ≤ 140737488355327) :
    Calls Tryd.prog 53 #[.agg #[.slice tb ts.length tc, .slice io il ic], v, .int .i64 (i : Nat)] w (Gv B w (l ++ aheadL 1 ts i)) := by
  obtain ⟨x, hx⟩ : ∃ x : List UInt8, x = if 0 < i then [44] else [] := ⟨_, rfl⟩
  have hxl : x.length ≤ 1 := by rw [hx]; split <;> simp
  have e : ∀ t, ts.getD i 0 = t → l ++ aheadL 1 ts i = l ++ x ++ sgL t ++ [61] := fun t ht => by rw [ah1, ht, hx]; simp
  by_cases hl : i < ts.length
  · obtain ⟨a, t, ho, hti, hab, hc, hr⟩ := hts.at hl
    rw [e t (by rw [List.getD, hti]; rfl)]
    exact tag0_any B v l tb tc ts io il ic i t x hx hxl w h hB hlim hT hr (.inl ⟨hl, a, ho, hab, hc⟩) hil
  · rw [e 0 (by rw [List.getD, List.getElem?_eq_none (by omega)]; rfl)]
    exact tag0_any B v l tb tc ts io il ic i 0 x hx hxl w h hB hlim hT (by omega) (.inr ⟨hl, rfl⟩) hil
theorem tag_ret {x : List UInt8} {ts : List Int} {i : Nat} (hx : x = aheadL 1 ts i) (B : Nat) (v : Value) (l : List UInt8) (tb : Option Addr) (tc : Nat) (io : Option Addr) (il ic : Nat) (w : World) (h : Bt B v l w) (hB : B ≤ w.heap.size) (hlim : l.length ≤ 10000000)
    (hT : Lib.TabBelow Tryd.prog B w "internal/strconv.uint64pow10" .u64 Lib.pow10Tab) (hts : In tb ts w) (hil : ts.length ≤ 140737488355327) :
    Calls Tryd.prog 53 #[.agg #[.slice tb ts.length tc, .slice io il ic], v, .int .i64 (i : Nat)] w (Gv B w (l ++ x)) := by
  subst hx; exact tag_any B v l tb tc ts io il ic i w h hB hlim hT hts hil

/-- What is known of tell, for values that are less deep: the blocks from w0's end on are its own. -/
def TellBelow (N : Nat) (w0 : World) : Prop := ∀ (v : Va) (bv : Value) (l : List UInt8) (w : World), dpV v < N → VaIn w0 v → Nc v → Below w0.heap.size w0 w → Lib.TabBelow Tryd.prog w0.heap.size w0 "internal/strconv.uint64pow10" .u64 Lib.pow10Tab → Bt w0.heap.size bv l w → l.length + 16 * szV v ≤ 4000000 →
    Calls Tryd.prog 27 #[bv, .agg #[.int .i64 v.k, .int .i64 v.n, .string v.s, .slice v.tb v.ts.length v.tc, .slice v.io v.is.length v.ic]] w (Gv w0.heap.size w (l ++ txV v))
theorem bx_cell {w : World} {X i : Nat} {vs : Array Value} {T : TypeId} {u : Value} (h : w.heap[X]? = some (.cells vs T)) (hi : vs[i]? = some u) : w.cell? ⟨X, i, none⟩ = some u := by
  unfold World.cell?
  rw [h]
  exact hi
theorem bx_five {w : World} {X : Nat} {x0 x1 x2 x3 x4 : Value} {T : TypeId} (h : w.heap[X]? = some (.cells #[x0, x1, x2, x3, x4] T)) :
    w.cell? ⟨X, 0, none⟩ = some x0 ∧ w.cell? ⟨X, 1, none⟩ = some x1 ∧ w.cell? ⟨X, 2, none⟩ = some x2 ∧ w.cell? ⟨X, 3, none⟩ = some x3 ∧ w.cell? ⟨X, 4, none⟩ = some x4 :=
  ⟨bx_cell h rfl, bx_cell h rfl, bx_cell h rfl, bx_cell h rfl, bx_cell h rfl⟩
theorem box_kept {B X : Nat} {z w w' : World} {x0 x1 x2 x3 x4 : Value} (hb : Below B w w') (hk : Lib.OthersKept 5 none w w')
    (h : w.cell? ⟨X, 0, none⟩ = some x0 ∧ w.cell? ⟨X, 1, none⟩ = some x1 ∧ w.cell? ⟨X, 2, none⟩ = some x2 ∧ w.cell? ⟨X, 3, none⟩ = some x3 ∧ w.cell? ⟨X, 4, none⟩ = some x4 ∧ w.heap[X]? = some (.cells #[x0, x1, x2, x3, x4] 25) ∧ Below B z w ∧ Lib.OthersKept 5 none z w) :
    w'.cell? ⟨X, 0, none⟩ = some x0 ∧ w'.cell? ⟨X, 1, none⟩ = some x1 ∧ w'.cell? ⟨X, 2, none⟩ = some x2 ∧ w'.cell? ⟨X, 3, none⟩ = some x3 ∧ w'.cell? ⟨X, 4, none⟩ = some x4 ∧ w'.heap[X]? = some (.cells #[x0, x1, x2, x3, x4] 25) ∧ Below B z w' ∧ Lib.OthersKept 5 none z w' := by
  obtain ⟨_, _, _, _, _, hx, hz, ho⟩ := h
  have hx' := hk X _ hx (by simp) (fun c fz e => by injection e with _ e2 _; exact absurd e2 (by decide))
  obtain ⟨g0, g1, g2, g3, g4⟩ := bx_five hx'
  exact ⟨g0, g1, g2, g3, g4, hx', hz.trans hb, ho.trans hk⟩
/-- Room for the texts of the first items, one more. -/
theorem wi_room {w : World} {k n : Int} {s : ByteArray} {tb : Option Addr} {tc : Nat} {ts : List Int} {io : Option Addr} {ic : Nat} {is : List Va} {l : List UInt8} {how : Nat} (c : UInt8) (h : VaIn w (.mk k n s tb tc ts io ic is)) (hl : l.length + 16 * szV (.mk k n s tb tc ts io ic is) ≤ 4000000) (j : Nat) :
    (l ++ c :: itV how ts 0 (is.take j)).length ≤ l.length + 1 + 16 * szsV (is.take j) ∧ szsV (is.take j) ≤ szsV is ∧ 8 + szsV is ≤ szV (.mk k n s tb tc ts io ic is) ∧ (aheadL how ts j).length ≤ 24 := by
  have h1 := it_len how ts (tags_room (va_tags h)) (is.take j) 0 (oks_take (fun i v hi => va_ok (va_child h hi)) j)
  have h2 := szs_cut is j
  have h3 := ahead_len (how := how) (i := j) (tags_room (va_tags h))
  rw [szV_eq]
  rw [List.length_append, List.length_cons]
  exact ⟨by omega, h2, by omega, h3⟩
set_option maxRecDepth 100000 in
set_option maxHeartbeats 4000000 in
theorem within_list {N : Nat} {w0 : World} (ih : TellBelow N w0) (k n : Int) (s : ByteArray) (tb : Option Addr) (tc : Nat) (ts : List Int) (io : Option Addr) (ic : Nat) (is : List Va) (bv : Value) (l : List UInt8) (w : World)
    (hN : dpV (.mk k n s tb tc ts io ic is) < N + 1) (hv : VaIn w0 (.mk k n s tb tc ts io ic is)) (hnc : Nc (.mk k n s tb tc ts io ic is)) (hZ : Below w0.heap.size w0 w) (hT : Lib.TabBelow Tryd.prog w0.heap.size w0 "internal/strconv.uint64pow10" .u64 Lib.pow10Tab) (h : Bt w0.heap.size bv l w) (hlim : l.length + 16 * szV (.mk k n s tb tc ts io ic is) ≤ 4000000) :
    Calls Tryd.prog 50 #[bv, .string ⟨#[91, 93]⟩, .slice io is.length ic, .func (.func 51) #[] #[]] w (Gv w0.heap.size w (l ++ 91 :: (itV 0 ts 0 is ++ [93]))) := by
  have hlen := hnc.room.1
  have htl := (va_room hv).2.2.2.1
  have hroom := wi_room (how := 0) 91 hv hlim
  have hz0 : w0.heap.size ≤ w.heap.size := hZ.size
  have HZ := Lib.hid hZ
  have hTAB := Lib.hid hT
  have H := Lib.hid h
  have hV := Lib.hid hv
  have hIH := Lib.hid ih
  have hND := Lib.hid hN
  have hNC := Lib.hid hnc
  have HR := Lib.hid hroom
  clear hv ih hN hnc hZ hT h hroom
  go_enter Tryd.func50, Tryd.ntmps50
  go_wp2_with (at_builtin; refine app_lit rfl (.tmp 11) (.tmp 14) rfl w0.heap.size bv l [91] _ _ _ rfl rfl rfl rfl rfl H.out hz0 (by show _ + 1 ≤ _; omega) ?_; intro v2 w2 h2 hb2 hk2)
  go_loopw [0, 18] (fun b i wr => ∃ j, j ≤ is.length ∧ i = .int .i64 (j : Nat) ∧ Hid (Bt w0.heap.size b (l ++ 91 :: itV 0 ts 0 (is.take j)) wr) ∧ Hid (Below w0.heap.size w wr) ∧ Hid (Lib.OthersKept 5 none w wr)) (fun b i _ => is.length - (intOf i).toNat)
  case atStart => exact ⟨0, by omega, rfl, by rw [List.take_zero, itV_nil]; exact h2, hb2, hk2⟩
  case round =>
    obtain ⟨j, hj, rfl, HT, HB, HK⟩ := hrel
    clear h2 hb2 hk2
    have hsz := HB.out.size
    by_cases hjl : j < is.length
    · have hji : (j : Int) < (is.length : Int) := by omega
      obtain ⟨v, hvi⟩ : ∃ v, is[j]? = some v := ⟨_, List.getElem?_eq_getElem hjl⟩
      obtain ⟨a, Ab, Ao, As, rfl, hA, hAb, c0, c1, c2, c3, c4, hin⟩ := va_place (va_below hV.out (HZ.out.trans HB.out) (Nat.le_refl _)) hvi
      obtain ⟨L, hL⟩ : ∃ L, L = l ++ 91 :: itV 0 ts 0 (is.take j) := ⟨_, rfl⟩
      obtain ⟨x, hx⟩ : ∃ x, x = aheadL 0 ts j := ⟨_, rfl⟩
      obtain ⟨r1, r2, r3, r4⟩ := HR.out j
      have hszv := szs_le hvi
      rw [← hL] at r1 HT
      rw [← hx] at r4
      have hnx := Lib.hid (it_take 0 ts is 0 j v hvi)
      have hLx : (L ++ x).length = L.length + x.length := List.length_append
      have HL := Lib.hid hL
      have HX := Lib.hid hx
      have hHt := Lib.hid hvi
      have hbx : (wr.alloc (.cells #[.int .i64 v.k, .int .i64 v.n, .string v.s, .slice v.tb v.ts.length v.tc, .slice v.io v.is.length v.ic] 25)).heap[wr.heap.size]? = some (.cells #[.int .i64 v.k, .int .i64 v.n, .string v.s, .slice v.tb v.ts.length v.tc, .slice v.io v.is.length v.ic] 25) := heap_alloc_new wr _
      obtain ⟨e0, e1, e2, e3, e4⟩ := bx_five hbx
      have hS : (wr.alloc (.cells #[.int .i64 v.k, .int .i64 v.n, .string v.s, .slice v.tb v.ts.length v.tc, .slice v.io v.is.length v.ic] 25)).drew.cell? ⟨wr.heap.size, 0, none⟩ = some (.int .i64 v.k) ∧ (wr.alloc (.cells #[.int .i64 v.k, .int .i64 v.n, .string v.s, .slice v.tb v.ts.length v.tc, .slice v.io v.is.length v.ic] 25)).drew.cell? ⟨wr.heap.size, 1, none⟩ = some (.int .i64 v.n) ∧ (wr.alloc (.cells #[.int .i64 v.k, .int .i64 v.n, .string v.s, .slice v.tb v.ts.length v.tc, .slice v.io v.is.length v.ic] 25)).drew.cell? ⟨wr.heap.size, 2, none⟩ = some (.string v.s) ∧ (wr.alloc (.cells #[.int .i64 v.k, .int .i64 v.n, .string v.s, .slice v.tb v.ts.length v.tc, .slice v.io v.is.length v.ic] 25)).drew.cell? ⟨wr.heap.size, 3, none⟩ = some (.slice v.tb v.ts.length v.tc) ∧ (wr.alloc (.cells #[.int .i64 v.k, .int .i64 v.n, .string v.s, .slice v.tb v.ts.length v.tc, .slice v.io v.is.length v.ic] 25)).drew.cell? ⟨wr.heap.size, 4, none⟩ = some (.slice v.io v.is.length v.ic) ∧ (wr.alloc (.cells #[.int .i64 v.k, .int .i64 v.n, .string v.s, .slice v.tb v.ts.length v.tc, .slice v.io v.is.length v.ic] 25)).drew.heap[wr.heap.size]? = some (.cells #[.int .i64 v.k, .int .i64 v.n, .string v.s, .slice v.tb v.ts.length v.tc, .slice v.io v.is.length v.ic] 25) ∧ Below w0.heap.size w (wr.alloc (.cells #[.int .i64 v.k, .int .i64 v.n, .string v.s, .slice v.tb v.ts.length v.tc, .slice v.io v.is.length v.ic] 25)).drew ∧ Lib.OthersKept 5 none w (wr.alloc (.cells #[.int .i64 v.k, .int .i64 v.n, .string v.s, .slice v.tb v.ts.length v.tc, .slice v.io v.is.length v.ic] 25)).drew :=
        ⟨e0, e1, e2, e3, e4, hbx, (HB.out.alloc (Nat.le_trans hz0 hsz) _).drew, (HK.out.alloc _).drew⟩
      clear hbx e0 e1 e2 e3 e4 hL hx hvi hin
      go_upto_region 5 with fail
      go_region_held3 (fun w' => w'.cell? ⟨wr.heap.size, 0, none⟩ = some (.int .i64 v.k) ∧ w'.cell? ⟨wr.heap.size, 1, none⟩ = some (.int .i64 v.n) ∧ w'.cell? ⟨wr.heap.size, 2, none⟩ = some (.string v.s) ∧ w'.cell? ⟨wr.heap.size, 3, none⟩ = some (.slice v.tb v.ts.length v.tc) ∧ w'.cell? ⟨wr.heap.size, 4, none⟩ = some (.slice v.io v.is.length v.ic) ∧ w'.heap[wr.heap.size]? = some (.cells #[.int .i64 v.k, .int .i64 v.n, .string v.s, .slice v.tb v.ts.length v.tc, .slice v.io v.is.length v.ic] 25) ∧ Below w0.heap.size w w' ∧ Lib.OthersKept 5 none w w') (exact hS) (first
        | (go_at_call 51; refine (comma_ret (HX.out.trans (ah0 ts j)) w0.heap.size _ L _ (HT.out.alloc _).drew (by have := HB.out.size; simp; omega) (by omega)).mono ?_; rintro e w2 ⟨v2, rfl, h2, hb2, hk2⟩; replace hS := box_kept hb2 hk2 hS)
        | (go_at_call 27; refine (hIH.out v v2 (L ++ x) _ (by have := dp_childV (k := k) (n := n) (s := s) (tb := tb) (tc := tc) (ts := ts) (io := some a) (ic := ic) hHt.out; have := hND.out; omega) (va_child hV.out hHt.out) (hNC.out.child hHt.out) (HZ.out.trans hS.2.2.2.2.2.2.1) hTAB.out h2 (by omega)).mono ?_; rintro e w3 ⟨v3, rfl, h3, hb3, hk3⟩; replace hS := box_kept hb3 hk3 hS))
      all_goals (
        go_wp2
        exact ⟨⟨j + 1, by omega, by go_num, by rw [hnx.out, Nat.zero_add, ← HX.out, ← List.cons_append, ← List.append_assoc, ← HL.out, ← List.append_assoc]; exact h3, hS.2.2.2.2.2.2.1, hS.2.2.2.2.2.2.2⟩, by simp [intOf]; omega⟩)
    · have hji : ¬ (j : Int) < (is.length : Int) := by omega
      obtain rfl : j = is.length := by omega
      obtain ⟨r1, r2, r3, r4⟩ := HR.out is.length
      rw [List.take_length] at r1 r2
      have HT2 : Hid (Bt w0.heap.size _ (l ++ 91 :: itV 0 ts 0 is) wr) := Lib.hid (by have := HT.out; rw [List.take_length] at this; exact this)
      clear HT
      go_wp2_with (at_builtin; refine app_lit rfl (.tmp 30) (.tmp 33) rfl w0.heap.size _ (l ++ 91 :: itV 0 ts 0 is) [93] _ _ _ rfl rfl rfl rfl rfl HT2.out (Nat.le_trans hz0 hsz) (by show _ + 1 ≤ _; omega) ?_; intro v3 w3 h3 hb3 hk3)
      go_ret
      refine ⟨v3, rfl, ?_, HB.out.trans hb3, HK.out.trans hk3⟩
      rw [List.append_assoc, List.cons_append] at h3
      exact h3
set_option maxRecDepth 100000 in
set_option maxHeartbeats 4000000 in
theorem within_map {N : Nat} {w0 : World} (ih : TellBelow N w0) (k n : Int) (s : ByteArray) (tb : Option Addr) (tc : Nat) (ts : List Int) (io : Option Addr) (ic : Nat) (is : List Va) (bv : Value) (l : List UInt8) (w : World)
    (hN : dpV (.mk k n s tb tc ts io ic is) < N + 1) (hv : VaIn w0 (.mk k n s tb tc ts io ic is)) (hnc : Nc (.mk k n s tb tc ts io ic is)) (hZ : Below w0.heap.size w0 w) (hT : Lib.TabBelow Tryd.prog w0.heap.size w0 "internal/strconv.uint64pow10" .u64 Lib.pow10Tab) (h : Bt w0.heap.size bv l w) (hlim : l.length + 16 * szV (.mk k n s tb tc ts io ic is) ≤ 4000000) :
    Calls Tryd.prog 50 #[bv, .string ⟨#[123, 125]⟩, .slice io is.length ic, .func (.func 52) #[] #[]] w (Gv w0.heap.size w (l ++ 123 :: (itV 2 ts 0 is ++ [125]))) := by
  have hlen := hnc.room.1
  have htl := (va_room hv).2.2.2.1
  have hroom := wi_room (how := 2) 123 hv hlim
  have hz0 : w0.heap.size ≤ w.heap.size := hZ.size
  have HZ := Lib.hid hZ
  have hTAB := Lib.hid hT
  have H := Lib.hid h
  have hV := Lib.hid hv
  have hIH := Lib.hid ih
  have hND := Lib.hid hN
  have hNC := Lib.hid hnc
  have HR := Lib.hid hroom
  clear hv ih hN hnc hZ hT h hroom
  go_enter Tryd.func50, Tryd.ntmps50
  go_wp2_with (at_builtin; refine app_lit rfl (.tmp 11) (.tmp 14) rfl w0.heap.size bv l [123] _ _ _ rfl rfl rfl rfl rfl H.out hz0 (by show _ + 1 ≤ _; omega) ?_; intro v2 w2 h2 hb2 hk2)
  go_loopw [0, 18] (fun b i wr => ∃ j, j ≤ is.length ∧ i = .int .i64 (j : Nat) ∧ Hid (Bt w0.heap.size b (l ++ 123 :: itV 2 ts 0 (is.take j)) wr) ∧ Hid (Below w0.heap.size w wr) ∧ Hid (Lib.OthersKept 5 none w wr)) (fun b i _ => is.length - (intOf i).toNat)
  case atStart => exact ⟨0, by omega, rfl, by rw [List.take_zero, itV_nil]; exact h2, hb2, hk2⟩
  case round =>
    obtain ⟨j, hj, rfl, HT, HB, HK⟩ := hrel
    clear h2 hb2 hk2
    have hsz := HB.out.size
    by_cases hjl : j < is.length
    · have hji : (j : Int) < (is.length : Int) := by omega
      obtain ⟨v, hvi⟩ : ∃ v, is[j]? = some v := ⟨_, List.getElem?_eq_getElem hjl⟩
      obtain ⟨a, Ab, Ao, As, rfl, hA, hAb, c0, c1, c2, c3, c4, hin⟩ := va_place (va_below hV.out (HZ.out.trans HB.out) (Nat.le_refl _)) hvi
      obtain ⟨L, hL⟩ : ∃ L, L = l ++ 123 :: itV 2 ts 0 (is.take j) := ⟨_, rfl⟩
      obtain ⟨x, hx⟩ : ∃ x, x = aheadL 2 ts j := ⟨_, rfl⟩
      obtain ⟨r1, r2, r3, r4⟩ := HR.out j
      have hszv := szs_le hvi
      rw [← hL] at r1 HT
      rw [← hx] at r4
      have hnx := Lib.hid (it_take 2 ts is 0 j v hvi)
      have hLx : (L ++ x).length = L.length + x.length := List.length_append
      have HL := Lib.hid hL
      have HX := Lib.hid hx
      have hHt := Lib.hid hvi
      have hbx : (wr.alloc (.cells #[.int .i64 v.k, .int .i64 v.n, .string v.s, .slice v.tb v.ts.length v.tc, .slice v.io v.is.length v.ic] 25)).heap[wr.heap.size]? = some (.cells #[.int .i64 v.k, .int .i64 v.n, .string v.s, .slice v.tb v.ts.length v.tc, .slice v.io v.is.length v.ic] 25) := heap_alloc_new wr _
      obtain ⟨e0, e1, e2, e3, e4⟩ := bx_five hbx
      have hS : (wr.alloc (.cells #[.int .i64 v.k, .int .i64 v.n, .string v.s, .slice v.tb v.ts.length v.tc, .slice v.io v.is.length v.ic] 25)).drew.cell? ⟨wr.heap.size, 0, none⟩ = some (.int .i64 v.k) ∧ (wr.alloc (.cells #[.int .i64 v.k, .int .i64 v.n, .string v.s, .slice v.tb v.ts.length v.tc, .slice v.io v.is.length v.ic] 25)).drew.cell? ⟨wr.heap.size, 1, none⟩ = some (.int .i64 v.n) ∧ (wr.alloc (.cells #[.int .i64 v.k, .int .i64 v.n, .string v.s, .slice v.tb v.ts.length v.tc, .slice v.io v.is.length v.ic] 25)).drew.cell? ⟨wr.heap.size, 2, none⟩ = some (.string v.s) ∧ (wr.alloc (.cells #[.int .i64 v.k, .int .i64 v.n, .string v.s, .slice v.tb v.ts.length v.tc, .slice v.io v.is.length v.ic] 25)).drew.cell? ⟨wr.heap.size, 3, none⟩ = some (.slice v.tb v.ts.length v.tc) ∧ (wr.alloc (.cells #[.int .i64 v.k, .int .i64 v.n, .string v.s, .slice v.tb v.ts.length v.tc, .slice v.io v.is.length v.ic] 25)).drew.cell? ⟨wr.heap.size, 4, none⟩ = some (.slice v.io v.is.length v.ic) ∧ (wr.alloc (.cells #[.int .i64 v.k, .int .i64 v.n, .string v.s, .slice v.tb v.ts.length v.tc, .slice v.io v.is.length v.ic] 25)).drew.heap[wr.heap.size]? = some (.cells #[.int .i64 v.k, .int .i64 v.n, .string v.s, .slice v.tb v.ts.length v.tc, .slice v.io v.is.length v.ic] 25) ∧ Below w0.heap.size w (wr.alloc (.cells #[.int .i64 v.k, .int .i64 v.n, .string v.s, .slice v.tb v.ts.length v.tc, .slice v.io v.is.length v.ic] 25)).drew ∧ Lib.OthersKept 5 none w (wr.alloc (.cells #[.int .i64 v.k, .int .i64 v.n, .string v.s, .slice v.tb v.ts.length v.tc, .slice v.io v.is.length v.ic] 25)).drew :=
        ⟨e0, e1, e2, e3, e4, hbx, (HB.out.alloc (Nat.le_trans hz0 hsz) _).drew, (HK.out.alloc _).drew⟩
      clear hbx e0 e1 e2 e3 e4 hL hx hvi hin
      go_upto_region 5 with fail
      go_region_held3 (fun w' => w'.cell? ⟨wr.heap.size, 0, none⟩ = some (.int .i64 v.k) ∧ w'.cell? ⟨wr.heap.size, 1, none⟩ = some (.int .i64 v.n) ∧ w'.cell? ⟨wr.heap.size, 2, none⟩ = some (.string v.s) ∧ w'.cell? ⟨wr.heap.size, 3, none⟩ = some (.slice v.tb v.ts.length v.tc) ∧ w'.cell? ⟨wr.heap.size, 4, none⟩ = some (.slice v.io v.is.length v.ic) ∧ w'.heap[wr.heap.size]? = some (.cells #[.int .i64 v.k, .int .i64 v.n, .string v.s, .slice v.tb v.ts.length v.tc, .slice v.io v.is.length v.ic] 25) ∧ Below w0.heap.size w w' ∧ Lib.OthersKept 5 none w w') (exact hS) (first
        | (go_at_call 52; refine (colon_ret (HX.out.trans (ah2 ts j)) w0.heap.size _ L _ (HT.out.alloc _).drew (by have := HB.out.size; simp; omega) (by omega) (by omega)).mono ?_; rintro e w2 ⟨v2, rfl, h2, hb2, hk2⟩; replace hS := box_kept hb2 hk2 hS)
        | (go_at_call 27; refine (hIH.out v v2 (L ++ x) _ (by have := dp_childV (k := k) (n := n) (s := s) (tb := tb) (tc := tc) (ts := ts) (io := some a) (ic := ic) hHt.out; have := hND.out; omega) (va_child hV.out hHt.out) (hNC.out.child hHt.out) (HZ.out.trans hS.2.2.2.2.2.2.1) hTAB.out h2 (by omega)).mono ?_; rintro e w3 ⟨v3, rfl, h3, hb3, hk3⟩; replace hS := box_kept hb3 hk3 hS))
      all_goals (
        go_wp2
        exact ⟨⟨j + 1, by omega, by go_num, by rw [hnx.out, Nat.zero_add, ← HX.out, ← List.cons_append, ← List.append_assoc, ← HL.out, ← List.append_assoc]; exact h3, hS.2.2.2.2.2.2.1, hS.2.2.2.2.2.2.2⟩, by simp [intOf]; omega⟩)
    · have hji : ¬ (j : Int) < (is.length : Int) := by omega
      obtain rfl : j = is.length := by omega
      obtain ⟨r1, r2, r3, r4⟩ := HR.out is.length
      rw [List.take_length] at r1 r2
      have HT2 : Hid (Bt w0.heap.size _ (l ++ 123 :: itV 2 ts 0 is) wr) := Lib.hid (by have := HT.out; rw [List.take_length] at this; exact this)
      clear HT
      go_wp2_with (at_builtin; refine app_lit rfl (.tmp 30) (.tmp 33) rfl w0.heap.size _ (l ++ 123 :: itV 2 ts 0 is) [125] _ _ _ rfl rfl rfl rfl rfl HT2.out (Nat.le_trans hz0 hsz) (by show _ + 1 ≤ _; omega) ?_; intro v3 w3 h3 hb3 hk3)
      go_ret
      refine ⟨v3, rfl, ?_, HB.out.trans hb3, HK.out.trans hk3⟩
      rw [List.append_assoc, List.cons_append] at h3
      exact h3
set_option maxRecDepth 100000 in
set_option maxHeartbeats 4000000 in
theorem within_rec {N : Nat} {w0 : World} (ih : TellBelow N w0) (k n : Int) (s : ByteArray) (tb : Option Addr) (tc : Nat) (ts : List Int) (io : Option Addr) (ic : Nat) (is : List Va) (bv : Value) (l : List UInt8) (w : World)
    (hN : dpV (.mk k n s tb tc ts io ic is) < N + 1) (hv : VaIn w0 (.mk k n s tb tc ts io ic is)) (hnc : Nc (.mk k n s tb tc ts io ic is)) (hZ : Below w0.heap.size w0 w) (hT : Lib.TabBelow Tryd.prog w0.heap.size w0 "internal/strconv.uint64pow10" .u64 Lib.pow10Tab) (h : Bt w0.heap.size bv l w) (hlim : l.length + 16 * szV (.mk k n s tb tc ts io ic is) ≤ 4000000) :
    Calls Tryd.prog 50 #[bv, .string ⟨#[40, 41]⟩, .slice io is.length ic, .func (.func 53) #[.agg #[.slice tb ts.length tc, .slice io is.length ic]] #[]] w (Gv w0.heap.size w (l ++ 40 :: (itV 1 ts 0 is ++ [41]))) := by
  have hlen := hnc.room.1
  have htl := (va_room hv).2.2.2.1
  have hroom := wi_room (how := 1) 40 hv hlim
  have hz0 : w0.heap.size ≤ w.heap.size := hZ.size
  have HZ := Lib.hid hZ
  have hTAB := Lib.hid hT
  have H := Lib.hid h
  have hV := Lib.hid hv
  have hIH := Lib.hid ih
  have hND := Lib.hid hN
  have hNC := Lib.hid hnc
  have HR := Lib.hid hroom
  clear hv ih hN hnc hZ hT h hroom
  go_enter Tryd.func50, Tryd.ntmps50
  go_wp2_with (at_builtin; refine app_lit rfl (.tmp 11) (.tmp 14) rfl w0.heap.size bv l [40] _ _ _ rfl rfl rfl rfl rfl H.out hz0 (by show _ + 1 ≤ _; omega) ?_; intro v2 w2 h2 hb2 hk2)
  go_loopw [0, 18] (fun b i wr => ∃ j, j ≤ is.length ∧ i = .int .i64 (j : Nat) ∧ Hid (Bt w0.heap.size b (l ++ 40 :: itV 1 ts 0 (is.take j)) wr) ∧ Hid (Below w0.heap.size w wr) ∧ Hid (Lib.OthersKept 5 none w wr)) (fun b i _ => is.length - (intOf i).toNat)
  case atStart => exact ⟨0, by omega, rfl, by rw [List.take_zero, itV_nil]; exact h2, hb2, hk2⟩
  case round =>
    obtain ⟨j, hj, rfl, HT, HB, HK⟩ := hrel
    clear h2 hb2 hk2
    have hsz := HB.out.size
    by_cases hjl : j < is.length
    · have hji : (j : Int) < (is.length : Int) := by omega
      obtain ⟨v, hvi⟩ : ∃ v, is[j]? = some v := ⟨_, List.getElem?_eq_getElem hjl⟩
      obtain ⟨a, Ab, Ao, As, rfl, hA, hAb, c0, c1, c2, c3, c4, hin⟩ := va_place (va_below hV.out (HZ.out.trans HB.out) (Nat.le_refl _)) hvi
      obtain ⟨L, hL⟩ : ∃ L, L = l ++ 40 :: itV 1 ts 0 (is.take j) := ⟨_, rfl⟩
      obtain ⟨x, hx⟩ : ∃ x, x = aheadL 1 ts j := ⟨_, rfl⟩
      obtain ⟨r1, r2, r3, r4⟩ := HR.out j
      have hszv := szs_le hvi
      rw [← hL] at r1 HT
      rw [← hx] at r4
      have hnx := Lib.hid (it_take 1 ts is 0 j v hvi)
      have hLx : (L ++ x).length = L.length + x.length := List.length_append
      have HL := Lib.hid hL
      have HX := Lib.hid hx
      have hHt := Lib.hid hvi
      have hbx : (wr.alloc (.cells #[.int .i64 v.k, .int .i64 v.n, .string v.s, .slice v.tb v.ts.length v.tc, .slice v.io v.is.length v.ic] 25)).heap[wr.heap.size]? = some (.cells #[.int .i64 v.k, .int .i64 v.n, .string v.s, .slice v.tb v.ts.length v.tc, .slice v.io v.is.length v.ic] 25) := heap_alloc_new wr _
      obtain ⟨e0, e1, e2, e3, e4⟩ := bx_five hbx
      have hS : (wr.alloc (.cells #[.int .i64 v.k, .int .i64 v.n, .string v.s, .slice v.tb v.ts.length v.tc, .slice v.io v.is.length v.ic] 25)).drew.cell? ⟨wr.heap.size, 0, none⟩ = some (.int .i64 v.k) ∧ (wr.alloc (.cells #[.int .i64 v.k, .int .i64 v.n, .string v.s, .slice v.tb v.ts.length v.tc, .slice v.io v.is.length v.ic] 25)).drew.cell? ⟨wr.heap.size, 1, none⟩ = some (.int .i64 v.n) ∧ (wr.alloc (.cells #[.int .i64 v.k, .int .i64 v.n, .string v.s, .slice v.tb v.ts.length v.tc, .slice v.io v.is.length v.ic] 25)).drew.cell? ⟨wr.heap.size, 2, none⟩ = some (.string v.s) ∧ (wr.alloc (.cells #[.int .i64 v.k, .int .i64 v.n, .string v.s, .slice v.tb v.ts.length v.tc, .slice v.io v.is.length v.ic] 25)).drew.cell? ⟨wr.heap.size, 3, none⟩ = some (.slice v.tb v.ts.length v.tc) ∧ (wr.alloc (.cells #[.int .i64 v.k, .int .i64 v.n, .string v.s, .slice v.tb v.ts.length v.tc, .slice v.io v.is.length v.ic] 25)).drew.cell? ⟨wr.heap.size, 4, none⟩ = some (.slice v.io v.is.length v.ic) ∧ (wr.alloc (.cells #[.int .i64 v.k, .int .i64 v.n, .string v.s, .slice v.tb v.ts.length v.tc, .slice v.io v.is.length v.ic] 25)).drew.heap[wr.heap.size]? = some (.cells #[.int .i64 v.k, .int .i64 v.n, .string v.s, .slice v.tb v.ts.length v.tc, .slice v.io v.is.length v.ic] 25) ∧ Below w0.heap.size w (wr.alloc (.cells #[.int .i64 v.k, .int .i64 v.n, .string v.s, .slice v.tb v.ts.length v.tc, .slice v.io v.is.length v.ic] 25)).drew ∧ Lib.OthersKept 5 none w (wr.alloc (.cells #[.int .i64 v.k, .int .i64 v.n, .string v.s, .slice v.tb v.ts.length v.tc, .slice v.io v.is.length v.ic] 25)).drew :=
        ⟨e0, e1, e2, e3, e4, hbx, (HB.out.alloc (Nat.le_trans hz0 hsz) _).drew, (HK.out.alloc _).drew⟩
      clear hbx e0 e1 e2 e3 e4 hL hx hvi hin
      go_upto_region 5 with fail
      go_region_held3 (fun w' => w'.cell? ⟨wr.heap.size, 0, none⟩ = some (.int .i64 v.k) ∧ w'.cell? ⟨wr.heap.size, 1, none⟩ = some (.int .i64 v.n) ∧ w'.cell? ⟨wr.heap.size, 2, none⟩ = some (.string v.s) ∧ w'.cell? ⟨wr.heap.size, 3, none⟩ = some (.slice v.tb v.ts.length v.tc) ∧ w'.cell? ⟨wr.heap.size, 4, none⟩ = some (.slice v.io v.is.length v.ic) ∧ w'.heap[wr.heap.size]? = some (.cells #[.int .i64 v.k, .int .i64 v.n, .string v.s, .slice v.tb v.ts.length v.tc, .slice v.io v.is.length v.ic] 25) ∧ Below w0.heap.size w w' ∧ Lib.OthersKept 5 none w w') (exact hS) (first
        | (go_at_call 53; refine (tag_ret HX.out w0.heap.size _ L tb tc (some a) is.length ic _ (HT.out.alloc _).drew (by have := HB.out.size; simp; omega) (by omega) (hTAB.out.on (HZ.out.trans hS.2.2.2.2.2.2.1)) ((va_tags hV.out).below (HZ.out.trans hS.2.2.2.2.2.2.1) (Nat.le_refl _)) htl).mono ?_; rintro e w2 ⟨v2, rfl, h2, hb2, hk2⟩; replace hS := box_kept hb2 hk2 hS)
        | (go_at_call 27; refine (hIH.out v v2 (L ++ x) _ (by have := dp_childV (k := k) (n := n) (s := s) (tb := tb) (tc := tc) (ts := ts) (io := some a) (ic := ic) hHt.out; have := hND.out; omega) (va_child hV.out hHt.out) (hNC.out.child hHt.out) (HZ.out.trans hS.2.2.2.2.2.2.1) hTAB.out h2 (by omega)).mono ?_; rintro e w3 ⟨v3, rfl, h3, hb3, hk3⟩; replace hS := box_kept hb3 hk3 hS))
      all_goals (
        go_wp2
        exact ⟨⟨j + 1, by omega, by go_num, by rw [hnx.out, Nat.zero_add, ← HX.out, ← List.cons_append, ← List.append_assoc, ← HL.out, ← List.append_assoc]; exact h3, hS.2.2.2.2.2.2.1, hS.2.2.2.2.2.2.2⟩, by simp [intOf]; omega⟩)
    · have hji : ¬ (j : Int) < (is.length : Int) := by omega
      obtain rfl : j = is.length := by omega
      obtain ⟨r1, r2, r3, r4⟩ := HR.out is.length
      rw [List.take_length] at r1 r2
      have HT2 : Hid (Bt w0.heap.size _ (l ++ 40 :: itV 1 ts 0 is) wr) := Lib.hid (by have := HT.out; rw [List.take_length] at this; exact this)
      clear HT
      go_wp2_with (at_builtin; refine app_lit rfl (.tmp 30) (.tmp 33) rfl w0.heap.size _ (l ++ 40 :: itV 1 ts 0 is) [41] _ _ _ rfl rfl rfl rfl rfl HT2.out (Nat.le_trans hz0 hsz) (by show _ + 1 ≤ _; omega) ?_; intro v3 w3 h3 hb3 hk3)
      go_ret
      refine ⟨v3, rfl, ?_, HB.out.trans hb3, HK.out.trans hk3⟩
      rw [List.append_assoc, List.cons_append] at h3
      exact h3
set_option maxRecDepth 100000 in
set_option maxHeartbeats 4000000 in
theorem within_uni {N : Nat} {w0 : World} (ih : TellBelow N w0) (k n : Int) (s : ByteArray) (tb : Option Addr) (tc : Nat) (ts : List Int) (io : Option Addr) (ic : Nat) (is : List Va) (bv : Value) (l : List UInt8) (w : World)
    (hN : dpV (.mk k n s tb tc ts io ic is) < N + 1) (hv : VaIn w0 (.mk k n s tb tc ts io ic is)) (hnc : Nc (.mk k n s tb tc ts io ic is)) (hZ : Below w0.heap.size w0 w) (hT : Lib.TabBelow Tryd.prog w0.heap.size w0 "internal/strconv.uint64pow10" .u64 Lib.pow10Tab) (h : Bt w0.heap.size bv l w) (hlim : l.length + 16 * szV (.mk k n s tb tc ts io ic is) ≤ 4000000) :
    Calls Tryd.prog 50 #[bv, .string ⟨#[60, 62]⟩, .slice io is.length ic, .func (.func 53) #[.agg #[.slice tb ts.length tc, .slice io is.length ic]] #[]] w (Gv w0.heap.size w (l ++ 60 :: (itV 1 ts 0 is ++ [62]))) := by
  have hlen := hnc.room.1
  have htl := (va_room hv).2.2.2.1
  have hroom := wi_room (how := 1) 60 hv hlim
  have hz0 : w0.heap.size ≤ w.heap.size := hZ.size
  have HZ := Lib.hid hZ
  have hTAB := Lib.hid hT
  have H := Lib.hid h
  have hV := Lib.hid hv
  have hIH := Lib.hid ih
  have hND := Lib.hid hN
  have hNC := Lib.hid hnc
  have HR := Lib.hid hroom
  clear hv ih hN hnc hZ hT h hroom
  go_enter Tryd.func50, Tryd.ntmps50
  go_wp2_with (at_builtin; refine app_lit rfl (.tmp 11) (.tmp 14) rfl w0.heap.size bv l [60] _ _ _ rfl rfl rfl rfl rfl H.out hz0 (by show _ + 1 ≤ _; omega) ?_; intro v2 w2 h2 hb2 hk2)
  go_loopw [0, 18] (fun b i wr => ∃ j, j ≤ is.length ∧ i = .int .i64 (j : Nat) ∧ Hid (Bt w0.heap.size b (l ++ 60 :: itV 1 ts 0 (is.take j)) wr) ∧ Hid (Below w0.heap.size w wr) ∧ Hid (Lib.OthersKept 5 none w wr)) (fun b i _ => is.length - (intOf i).toNat)
  case atStart => exact ⟨0, by omega, rfl, by rw [List.take_zero, itV_nil]; exact h2, hb2, hk2⟩
  case round =>
    obtain ⟨j, hj, rfl, HT, HB, HK⟩ := hrel
    clear h2 hb2 hk2
    have hsz := HB.out.size
    by_cases hjl : j < is.length
    · have hji : (j : Int) < (is.length : Int) := by omega
      obtain ⟨v, hvi⟩ : ∃ v, is[j]? = some v := ⟨_, List.getElem?_eq_getElem hjl⟩
      obtain ⟨a, Ab, Ao, As, rfl, hA, hAb, c0, c1, c2, c3, c4, hin⟩ := va_place (va_below hV.out (HZ.out.trans HB.out) (Nat.le_refl _)) hvi
      obtain ⟨L, hL⟩ : ∃ L, L = l ++ 60 :: itV 1 ts 0 (is.take j) := ⟨_, rfl⟩
      obtain ⟨x, hx⟩ : ∃ x, x = aheadL 1 ts j := ⟨_, rfl⟩
      obtain ⟨r1, r2, r3, r4⟩ := HR.out j
      have hszv := szs_le hvi
      rw [← hL] at r1 HT
      rw [← hx] at r4
      have hnx := Lib.hid (it_take 1 ts is 0 j v hvi)
      have hLx : (L ++ x).length = L.length + x.length := List.length_append
      have HL := Lib.hid hL
      have HX := Lib.hid hx
      have hHt := Lib.hid hvi
      have hbx : (wr.alloc (.cells #[.int .i64 v.k, .int .i64 v.n, .string v.s, .slice v.tb v.ts.length v.tc, .slice v.io v.is.length v.ic] 25)).heap[wr.heap.size]? = some (.cells #[.int .i64 v.k, .int .i64 v.n, .string v.s, .slice v.tb v.ts.length v.tc, .slice v.io v.is.length v.ic] 25) := heap_alloc_new wr _
      obtain ⟨e0, e1, e2, e3, e4⟩ := bx_five hbx
      have hS : (wr.alloc (.cells #[.int .i64 v.k, .int .i64 v.n, .string v.s, .slice v.tb v.ts.length v.tc, .slice v.io v.is.length v.ic] 25)).drew.cell? ⟨wr.heap.size, 0, none⟩ = some (.int .i64 v.k) ∧ (wr.alloc (.cells #[.int .i64 v.k, .int .i64 v.n, .string v.s, .slice v.tb v.ts.length v.tc, .slice v.io v.is.length v.ic] 25)).drew.cell? ⟨wr.heap.size, 1, none⟩ = some (.int .i64 v.n) ∧ (wr.alloc (.cells #[.int .i64 v.k, .int .i64 v.n, .string v.s, .slice v.tb v.ts.length v.tc, .slice v.io v.is.length v.ic] 25)).drew.cell? ⟨wr.heap.size, 2, none⟩ = some (.string v.s) ∧ (wr.alloc (.cells #[.int .i64 v.k, .int .i64 v.n, .string v.s, .slice v.tb v.ts.length v.tc, .slice v.io v.is.length v.ic] 25)).drew.cell? ⟨wr.heap.size, 3, none⟩ = some (.slice v.tb v.ts.length v.tc) ∧ (wr.alloc (.cells #[.int .i64 v.k, .int .i64 v.n, .string v.s, .slice v.tb v.ts.length v.tc, .slice v.io v.is.length v.ic] 25)).drew.cell? ⟨wr.heap.size, 4, none⟩ = some (.slice v.io v.is.length v.ic) ∧ (wr.alloc (.cells #[.int .i64 v.k, .int .i64 v.n, .string v.s, .slice v.tb v.ts.length v.tc, .slice v.io v.is.length v.ic] 25)).drew.heap[wr.heap.size]? = some (.cells #[.int .i64 v.k, .int .i64 v.n, .string v.s, .slice v.tb v.ts.length v.tc, .slice v.io v.is.length v.ic] 25) ∧ Below w0.heap.size w (wr.alloc (.cells #[.int .i64 v.k, .int .i64 v.n, .string v.s, .slice v.tb v.ts.length v.tc, .slice v.io v.is.length v.ic] 25)).drew ∧ Lib.OthersKept 5 none w (wr.alloc (.cells #[.int .i64 v.k, .int .i64 v.n, .string v.s, .slice v.tb v.ts.length v.tc, .slice v.io v.is.length v.ic] 25)).drew :=
        ⟨e0, e1, e2, e3, e4, hbx, (HB.out.alloc (Nat.le_trans hz0 hsz) _).drew, (HK.out.alloc _).drew⟩
      clear hbx e0 e1 e2 e3 e4 hL hx hvi hin
      go_upto_region 5 with fail
      go_region_held3 (fun w' => w'.cell? ⟨wr.heap.size, 0, none⟩ = some (.int .i64 v.k) ∧ w'.cell? ⟨wr.heap.size, 1, none⟩ = some (.int .i64 v.n) ∧ w'.cell? ⟨wr.heap.size, 2, none⟩ = some (.string v.s) ∧ w'.cell? ⟨wr.heap.size, 3, none⟩ = some (.slice v.tb v.ts.length v.tc) ∧ w'.cell? ⟨wr.heap.size, 4, none⟩ = some (.slice v.io v.is.length v.ic) ∧ w'.heap[wr.heap.size]? = some (.cells #[.int .i64 v.k, .int .i64 v.n, .string v.s, .slice v.tb v.ts.length v.tc, .slice v.io v.is.length v.ic] 25) ∧ Below w0.heap.size w w' ∧ Lib.OthersKept 5 none w w') (exact hS) (first
        | (go_at_call 53; refine (tag_ret HX.out w0.heap.size _ L tb tc (some a) is.length ic _ (HT.out.alloc _).drew (by have := HB.out.size; simp; omega) (by omega) (hTAB.out.on (HZ.out.trans hS.2.2.2.2.2.2.1)) ((va_tags hV.out).below (HZ.out.trans hS.2.2.2.2.2.2.1) (Nat.le_refl _)) htl).mono ?_; rintro e w2 ⟨v2, rfl, h2, hb2, hk2⟩; replace hS := box_kept hb2 hk2 hS)
        | (go_at_call 27; refine (hIH.out v v2 (L ++ x) _ (by have := dp_childV (k := k) (n := n) (s := s) (tb := tb) (tc := tc) (ts := ts) (io := some a) (ic := ic) hHt.out; have := hND.out; omega) (va_child hV.out hHt.out) (hNC.out.child hHt.out) (HZ.out.trans hS.2.2.2.2.2.2.1) hTAB.out h2 (by omega)).mono ?_; rintro e w3 ⟨v3, rfl, h3, hb3, hk3⟩; replace hS := box_kept hb3 hk3 hS))
      all_goals (
        go_wp2
        exact ⟨⟨j + 1, by omega, by go_num, by rw [hnx.out, Nat.zero_add, ← HX.out, ← List.cons_append, ← List.append_assoc, ← HL.out, ← List.append_assoc]; exact h3, hS.2.2.2.2.2.2.1, hS.2.2.2.2.2.2.2⟩, by simp [intOf]; omega⟩)
    · have hji : ¬ (j : Int) < (is.length : Int) := by omega
      obtain rfl : j = is.length := by omega
      obtain ⟨r1, r2, r3, r4⟩ := HR.out is.length
      rw [List.take_length] at r1 r2
      have HT2 : Hid (Bt w0.heap.size _ (l ++ 60 :: itV 1 ts 0 is) wr) := Lib.hid (by have := HT.out; rw [List.take_length] at this; exact this)
      clear HT
      go_wp2_with (at_builtin; refine app_lit rfl (.tmp 30) (.tmp 33) rfl w0.heap.size _ (l ++ 60 :: itV 1 ts 0 is) [62] _ _ _ rfl rfl rfl rfl rfl HT2.out (Nat.le_trans hz0 hsz) (by show _ + 1 ≤ _; omega) ?_; intro v3 w3 h3 hb3 hk3)
      go_ret
      refine ⟨v3, rfl, ?_, HB.out.trans hb3, HK.out.trans hk3⟩
      rw [List.append_assoc, List.cons_append] at h3
      exact h3
end Go.Proofs.YthgaipdhgckmdaaDoor.Va
