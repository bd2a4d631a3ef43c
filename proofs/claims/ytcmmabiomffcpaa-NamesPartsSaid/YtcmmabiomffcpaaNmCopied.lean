/- Names: the contracts of what names.Method calls: the closure, slices.IndexFunc of declarations, copied. -/
import Derived.Test.YtcmmabiomffcpaaNmLists
import Derived.Deep.RegionHeld3
import Derived.RegionTactic
namespace Go.Proofs.Ytcmmabiomffcpaa.Nm
open Go.RowKit Cm
set_option linter.unusedVariables false
set_option linter.unusedSimpArgs false

/-- The closure: is it that name? -/
theorem nameis_any (g : Nat) (k p : Int) (s t : ByteArray) (o1 o2 : Option Addr) (l1 c1 l2 c2 : Nat) (w : World) (hg : w.cell? ⟨g, 0, none⟩ = some (.string t)) (b : Bool) (hb : (s.toList == t.toList) = b) :
    Calls Try.prog 23 #[.agg #[.int .i64 k, .string s, .slice o1 l1 c1, .slice o2 l2 c2, .int .i64 p], .pointer (some ⟨g, 0, none⟩)] w fun e w' => e = .returned (.bool b) ∧ Below w.heap.size w w' := by
  have hlt := World.block_lt_of_cell? w _ hg
  have hB := (Below.refl w.heap.size w).alloc (Nat.le_refl _) (.cells #[.int .i64 k, .string s, .slice o1 l1 c1, .slice o2 l2 c2, .int .i64 p] 37)
  have hg2 := (hB.cell (p := ⟨g, 0, none⟩) hlt).trans hg
  subst hb
  go_enter Try.func23, Try.ntmps23
  go_wp2
  go_ret
  exact ⟨rfl, hB⟩
set_option maxRecDepth 100000 in
set_option maxHeartbeats 1000000 in
theorem ixd_any (g : Nat) (t : ByteArray) (o : Option Addr) (len cap : Nat) (D : Dl) (w : World) (h : Dx o len D w) (hg : w.cell? ⟨g, 0, none⟩ = some (.string t)) :
    Calls Try.prog 22 #[.slice o len cap, .func (.func 23) #[] #[.pointer (some ⟨g, 0, none⟩)]] w fun e w' => e = .returned (.int .i64 (rfS D.S t len)) ∧ Below w.heap.size w w' := by
  have hlen := h.2
  have hlen2 : len ≤ 9223372036854775807 := by omega
  have hlt := World.block_lt_of_cell? w _ hg
  have HX := Lib.hid h
  have HG := Lib.hid hg
  clear h hg
  go_enter Try.func22, Try.ntmps22
  go_wp2
  go_loopw [8] (fun i wr => ∃ j, j ≤ len ∧ i = .int .i64 (j : Nat) ∧ Hid (fiS D.S t j = none) ∧ Hid (Below w.heap.size w wr)) (fun i _ => len - (intOf i).toNat)
  case atStart => exact ⟨0, by omega, rfl, rfl, Below.refl _ _⟩
  case round =>
    obtain ⟨j, hj, rfl, HF, HB⟩ := hrel
    by_cases hjl : j < len
    · have hji : (j : Int) < (len : Int) := by omega
      have hsz := HB.out.size
      obtain ⟨a, Ab, Ao, As, rfl, hA, hAb, c0, c1, c2, c3, c4⟩ := Dx.place (HX.out.below HB.out (Nat.le_refl _)) hjl
      by_cases he : D.S j = t
      · have hfs := Lib.hid (rfS_some (fiS_le hjl (fiS_next_hit HF.out he)))
        have HQ : Hid ((((D.S j).toList == t.toList) = true)) := Lib.hid (by rw [he]; simp)
        clear he
        go_wp2_with (go_at_call 23; refine (nameis_any g _ _ (D.S j) t _ _ _ _ _ _ _ ((HB.out.cell (p := ⟨g, 0, none⟩) hlt).trans HG.out) true HQ.out).mono ?_; rintro e w2 ⟨rfl, hb2⟩)
        go_ret
        exact ⟨by rw [hfs.out]; rfl, HB.out.trans (hb2.mono hsz)⟩
      · have HQ := Lib.hid (txt_neq he)
        have hfs := Lib.hid (fiS_next_miss HF.out he)
        clear he
        go_wp2_with (go_at_call 23; refine (nameis_any g _ _ (D.S j) t _ _ _ _ _ _ _ ((HB.out.cell (p := ⟨g, 0, none⟩) hlt).trans HG.out) false HQ.out).mono ?_; rintro e w2 ⟨rfl, hb2⟩)
        go_roundw
        case rel => exact ⟨j + 1, by omega, by go_num, hfs, HB.out.trans (hb2.mono hsz)⟩
        case measure => simp [intOf]; omega
    · have hji : ¬ (j : Int) < (len : Int) := by omega
      obtain rfl : j = len := by omega
      have hfs := Lib.hid (rfS_none HF.out)
      go_wp2
      go_ret
      exact ⟨by rw [hfs.out]; rfl, HB.out⟩

/-- A method's cells, and those of the result beside. -/
def Cp (B : Nat) (vs zs : List Value) (w w' : World) : Prop := Cs B vs w' ∧ Cs (B + 1) zs w' ∧ Below B w w'
theorem Cp.below {B : Nat} {vs zs : List Value} {w a b : World} (h : Cp B vs zs w a) (hb : Below a.heap.size a b) : Cp B vs zs w b :=
  ⟨h.1.below hb h.1.lt, h.2.1.below hb h.2.1.lt, h.2.2.trans (hb.mono (by have := h.1.lt; omega))⟩
theorem Cp.put {B i : Nat} {vs zs : List Value} {v : Value} {w a : World} (h : Cp B vs zs w a) (hv : vs.set i v = vs) : Cp B vs zs w (a.setCell ⟨B, i, none⟩ v) :=
  ⟨hv ▸ h.1.put (i := i) v, h.2.1.other v (by omega), h.2.2.setCell (p := ⟨B, i, none⟩) (Nat.le_refl _) _⟩
/-- What the region holds. -/
theorem Cp.held {B : Nat} {v0 v1 v2 v3 v4 : Value} {zs : List Value} {w a : World} (h : Cp B [v0, v1, v2, v3, v4] zs w a) :
    (a.cell? ⟨B, 1, none⟩ = some v1 ∧ a.cell? ⟨B, 2, none⟩ = some v2 ∧ a.cell? ⟨B, 3, none⟩ = some v3 ∧ a.frozen? ⟨B, 1, none⟩ = false ∧ a.frozen? ⟨B, 2, none⟩ = false ∧ a.frozen? ⟨B, 3, none⟩ = false) ∧ Cp B [v0, v1, v2, v3, v4] zs w a :=
  ⟨⟨h.1.cell (i := 1) rfl, h.1.cell (i := 2) rfl, h.1.cell (i := 3) rfl, h.1.frozen (i := 1) rfl, h.1.frozen (i := 2) rfl, h.1.frozen (i := 3) rfl⟩, h⟩

set_option maxRecDepth 100000 in
set_option maxHeartbeats 2000000 in
theorem copied_any (k : Int) (n i o : ByteArray) (b : Bool) (w : World) (hn : n.size ≤ 140737488355327) (hi : i.size ≤ 140737488355327) (ho : o.size ≤ 140737488355327) :
    Calls Try.prog 24 #[.agg #[.int .i64 k, .string n, .string i, .string o, .bool b]] w fun e w' => e = .returned (.agg #[.int .i64 k, .string n, .string i, .string o, .bool b]) ∧ Below w.heap.size w w' := by
  have hP : Cp w.heap.size [.int .i64 k, .string n, .string i, .string o, .bool b] [.int .i64 0, .string ⟨#[]⟩, .string ⟨#[]⟩, .string ⟨#[]⟩, .bool false] w
      ((w.alloc (.cells #[.int .i64 k, .string n, .string i, .string o, .bool b] 40)).alloc (.cells #[.int .i64 0, .string ⟨#[]⟩, .string ⟨#[]⟩, .string ⟨#[]⟩, .bool false] 40)).drew :=
    ⟨((Cs.new w _ _).alloc _).drew, by simpa using (Cs.new (w.alloc (.cells #[.int .i64 k, .string n, .string i, .string o, .bool b] 40)) [.int .i64 0, .string ⟨#[]⟩, .string ⟨#[]⟩, .string ⟨#[]⟩, .bool false] 40).drew,
      (((Below.refl w.heap.size w).alloc (Nat.le_refl _) _).alloc (by simp) _).drew⟩
  go_enter Try.func24, Try.ntmps24
  go_wp2
  go_region_held3 (fun w' => (w'.cell? ⟨w.heap.size, 1, none⟩ = some (.string n) ∧ w'.cell? ⟨w.heap.size, 2, none⟩ = some (.string i) ∧ w'.cell? ⟨w.heap.size, 3, none⟩ = some (.string o) ∧ w'.frozen? ⟨w.heap.size, 1, none⟩ = false ∧ w'.frozen? ⟨w.heap.size, 2, none⟩ = false ∧ w'.frozen? ⟨w.heap.size, 3, none⟩ = false) ∧ Cp w.heap.size [.int .i64 k, .string n, .string i, .string o, .bool b] [.int .i64 0, .string ⟨#[]⟩, .string ⟨#[]⟩, .string ⟨#[]⟩, .bool false] w w')
    (first | exact hP.held | (refine Cp.held (Cp.put (And.right (by assumption)) rfl)))
    (first | (go_at_call 18; refine (clone_any _ _ (by omega)).mono ?_; rintro e w4 ⟨rfl, hb4⟩; replace hP := hP.below hb4))
  rename_i hH
  have hP5 := hH.2
  clear hH
  generalize (((w4.setCell ⟨w.heap.size, 1, none⟩ (.string n)).setCell ⟨w.heap.size, 2, none⟩ (.string i)).setCell ⟨w.heap.size, 3, none⟩ (.string o)) = w5 at hP5 ⊢
  obtain ⟨hC, hZ, hb5⟩ := hP5
  have d0 := hC.cell (i := 0) rfl
  have d1 := hC.cell (i := 1) rfl
  have d2 := hC.cell (i := 2) rfl
  have d3 := hC.cell (i := 3) rfl
  have d4 := hC.cell (i := 4) rfl
  have e0 := hZ.cell (i := 0) rfl
  have e1 := hZ.cell (i := 1) rfl
  have e2 := hZ.cell (i := 2) rfl
  have e3 := hZ.cell (i := 3) rfl
  have e4 := hZ.cell (i := 4) rfl
  have f0 := hZ.frozen (i := 0) rfl
  have f1 := hZ.frozen (i := 1) rfl
  have f2 := hZ.frozen (i := 2) rfl
  have f3 := hZ.frozen (i := 3) rfl
  have f4 := hZ.frozen (i := 4) rfl
  clear hC hP
  go_wp2
  have hZ6 := ((((hZ.put (i := 0) (.int .i64 k)).put (i := 1) (.string n)).put (i := 2) (.string i)).put (i := 3) (.string o)).put (i := 4) (.bool b)
  have hb6 := ((((hb5.setCell (p := ⟨w.heap.size + 1, 0, none⟩) (Nat.le_succ _) (.int .i64 k)).setCell (p := ⟨w.heap.size + 1, 1, none⟩) (Nat.le_succ _) (.string n)).setCell (p := ⟨w.heap.size + 1, 2, none⟩) (Nat.le_succ _) (.string i)).setCell (p := ⟨w.heap.size + 1, 3, none⟩) (Nat.le_succ _) (.string o)).setCell (p := ⟨w.heap.size + 1, 4, none⟩) (Nat.le_succ _) (.bool b)
  generalize (((((w5.setCell ⟨w.heap.size + 1, 0, none⟩ (.int .i64 k)).setCell ⟨w.heap.size + 1, 1, none⟩ (.string n)).setCell ⟨w.heap.size + 1, 2, none⟩ (.string i)).setCell ⟨w.heap.size + 1, 3, none⟩ (.string o)).setCell ⟨w.heap.size + 1, 4, none⟩ (.bool b)) = w6 at hZ6 hb6 ⊢
  clear d0 d1 d2 d3 d4 e0 e1 e2 e3 e4 f0 f1 f2 f3 f4
  have d0 := hZ6.cell (i := 0) rfl
  have d1 := hZ6.cell (i := 1) rfl
  have d2 := hZ6.cell (i := 2) rfl
  have d3 := hZ6.cell (i := 3) rfl
  have d4 := hZ6.cell (i := 4) rfl
  refine bodyPost_ret (by simp [results, Try.results24, go_sem, d0, d1, d2, d3, d4]; try rfl) rfl ?_
  exact ⟨rfl, hb6⟩
end Go.Proofs.Ytcmmabiomffcpaa.Nm
