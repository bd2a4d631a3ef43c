/- Names: what a list of declarations holds, cell by cell; the contract of names.Of. -/
import Derived.Test.YthcpepifikpmeaaNmTable
import Derived.Deep.RegionHeld3
import Derived.RegionTactic
namespace Go.Proofs.Ythcpepifikpmeaa.Nm
open Go.RowKit Cm
set_option linter.unusedVariables false
set_option linter.unusedSimpArgs false

/-- Declarations: kinds, names, fields and methods (as slices), places. -/
structure Dl where
  K : Nat → Int
  S : Nat → ByteArray
  fo : Nat → Option Addr
  fl : Nat → Nat
  fc : Nat → Nat
  mo : Nat → Option Addr
  ml : Nat → Nat
  mc : Nat → Nat
  A : Nat → Int
/-- The i-th declaration's cells. -/
def Dl.at5 (D : Dl) (i : Nat) : List Value := [.int .i64 (D.K i), .string (D.S i), .slice (D.fo i) (D.fl i) (D.fc i), .slice (D.mo i) (D.ml i) (D.mc i), .int .i64 (D.A i)]
/-- A list of declarations in the world. -/
def Dx (o : Option Addr) (len : Nat) (D : Dl) (w : World) : Prop :=
  (∀ i, i < len → ∃ a, o = some a ∧ a.block < w.heap.size ∧ (∀ k v, (D.at5 i)[k]? = some v → w.cell? (a.add (i * 5 + k)) = some v) ∧ (D.S i).size ≤ 140737488355327 ∧ -9223372036854775808 ≤ D.K i ∧ D.K i ≤ 9223372036854775807) ∧ len ≤ 1759218604441
theorem Dx.below {o : Option Addr} {len m : Nat} {D : Dl} {w w' : World} (h : Dx o len D w) (hb : Below m w w') (hm : w.heap.size ≤ m) : Dx o len D w' := by
  refine ⟨fun i hi => ?_, h.2⟩
  obtain ⟨a, h1, h2, h3, h4⟩ := h.1 i hi
  refine ⟨a, h1, Nat.lt_of_lt_of_le h2 hb.size, fun k v hk => ?_, h4⟩
  have hc := h3 k v hk
  have := World.block_lt_of_cell? w _ hc
  rw [hb.cell (p := a.add (i * 5 + k)) (by omega)]; exact hc
/-- One declaration, at its place taken apart. -/
theorem Dx.place {o : Option Addr} {len j : Nat} {D : Dl} {w : World} (h : Dx o len D w) (hj : j < len) :
    ∃ a Ab Ao As, o = some a ∧ a.add (j * 5) = ⟨Ab, Ao, As⟩ ∧ Ab < w.heap.size ∧ w.cell? ⟨Ab, Ao, As⟩ = some (.int .i64 (D.K j)) ∧ w.cell? ⟨Ab, Ao + 1, none⟩ = some (.string (D.S j)) ∧
      w.cell? ⟨Ab, Ao + 2, none⟩ = some (.slice (D.fo j) (D.fl j) (D.fc j)) ∧ w.cell? ⟨Ab, Ao + 3, none⟩ = some (.slice (D.mo j) (D.ml j) (D.mc j)) ∧ w.cell? ⟨Ab, Ao + 4, none⟩ = some (.int .i64 (D.A j)) := by
  obtain ⟨a, rfl, h2, h3, _⟩ := h.1 j hj
  obtain ⟨⟨Ab, Ao, As⟩, hA⟩ : ∃ A, a.add (j * 5) = A := ⟨_, rfl⟩
  have g : ∀ k, a.add (j * 5 + (k + 1)) = ⟨Ab, Ao + (k + 1), none⟩ := fun k => by rw [← Addr.add_add, hA]; simp [Addr.add]
  have c0 := h3 0 _ rfl
  rw [Nat.add_zero, hA] at c0
  have hlt := World.block_lt_of_cell? w _ c0
  exact ⟨a, Ab, Ao, As, rfl, hA, hlt, c0, (g 0) ▸ h3 1 _ rfl, (g 1) ▸ h3 2 _ rfl, (g 2) ▸ h3 3 _ rfl, (g 3) ▸ h3 4 _ rfl⟩

set_option maxRecDepth 100000 in
set_option maxHeartbeats 1000000 in
theorem of_any (o : Option Addr) (len cap : Nat) (D : Dl) (w : World) (h : Dx o len D w) :
    Calls Try.prog 15 #[.slice o len cap] w fun e w' => ∃ T, e = .returned (.pointer (some ⟨T, 0, none⟩)) ∧ w.heap.size ≤ T ∧ Tb T len D.S D.K w' ∧ Below w.heap.size w w' := by
  have hlen := h.2
  have hlen2 : len ≤ 9223372036854775807 := by omega
  have hmm := @run_makeMap Try.prog
  have H := Lib.hid h
  clear h
  have hM0 := Lib.hid (Mp.made w D.S D.K)
  have hB0 := Lib.hid ((Below.refl w.heap.size w).alloc (Nat.le_refl _) (.map #[] 0))
  go_enter Try.func15, Try.ntmps15
  go_wp2
  go_loopw [11] (fun i wr => ∃ j, j ≤ len ∧ i = .int .i64 (j : Nat) ∧ Hid (Mp w.heap.size j D.S D.K wr) ∧ Hid (Below w.heap.size w wr)) (fun i _ => len - (intOf i).toNat)
  case atStart => exact ⟨0, by omega, rfl, hM0, hB0⟩
  case round =>
    obtain ⟨j, hj, rfl, HM, HB⟩ := hrel
    clear hM0 hB0
    by_cases hjl : j < len
    · have hji : (j : Int) < (len : Int) := by omega
      have hsz := HB.out.size
      obtain ⟨a, Ab, Ao, As, rfl, hA, hAb, c0, c1, c2, c3, c4⟩ := Dx.place (H.out.below HB.out (Nat.le_refl _)) hjl
      have hSj := (H.out.1 j hjl).choose_spec.2.2.2.1
      have hSm : (D.S j).size ≤ maxLen := by unfold maxLen; omega
      have hBlt := HM.out.lt
      have hC := ((Cs.new wr [.int .i64 (D.K j), .string (D.S j), .slice (D.fo j) (D.fl j) (D.fc j), .slice (D.mo j) (D.ml j) (D.mc j), .int .i64 (D.A j)] 34).alloc (.cells #[.int .i64 (plS D.S (D.S j) j), .int .i64 (knS D.S D.K (D.S j) j)] 59))
      have hM2 := (HM.out.alloc (.cells #[.int .i64 (D.K j), .string (D.S j), .slice (D.fo j) (D.fl j) (D.fc j), .slice (D.mo j) (D.ml j) (D.mc j), .int .i64 (D.A j)] 34))
      have hrun := hM2.look (D.S j) hSm
      replace hM2 := Lib.hid (hM2.alloc (.cells #[.int .i64 (plS D.S (D.S j) j), .int .i64 (knS D.S D.K (D.S j) j)] 59))
      have hB2 := Lib.hid ((HB.out.alloc hsz (.cells #[.int .i64 (D.K j), .string (D.S j), .slice (D.fo j) (D.fl j) (D.fc j), .slice (D.mo j) (D.ml j) (D.mc j), .int .i64 (D.A j)] 34)).alloc (by simp; omega) (.cells #[.int .i64 (plS D.S (D.S j) j), .int .i64 (knS D.S D.K (D.S j) j)] 59))
      cases hf : fiS D.S (D.S j) j with
      | some i =>
        rw [isS_some hf] at hrun
        clear hC
        go_wp2
        go_roundw
        case rel => exact ⟨j + 1, by omega, by go_num, hM2.out.skip hf, hB2.out⟩
        case measure => simp [intOf]; omega
      | none =>
        rw [isS_none hf] at hrun
        have d0 := hC.drew.cell (i := 0) rfl
        have d1 := hC.drew.cell (i := 1) rfl
        have HC := Lib.hid hC
        clear hC
        go_wp2
        go_region_held3 (fun w' => w'.cell? ⟨wr.heap.size, 0, none⟩ = some (.int .i64 (D.K j)) ∧ w'.cell? ⟨wr.heap.size, 1, none⟩ = some (.string (D.S j))) (first | exact ⟨d0, d1⟩ | exact hS4 | exact hS5) (first
          | (go_at_call 21; refine (clone_any _ _ (by omega)).mono ?_; rintro e w4 ⟨rfl, hb4⟩; have hsz4 : wr.heap.size + 2 ≤ w4.heap.size := (by have hq := hb4.size; simp at hq; omega); have hC4 := HC.out.drew.below hb4 HC.out.drew.lt; have hS4 := And.intro (hC4.cell (i := 0) rfl) (hC4.cell (i := 1) rfl); obtain ⟨w5, hst, hM5, hg5⟩ := (hM2.out.drew.below hb4 hM2.out.drew.lt).store hf hSm (by unfold maxLen; omega); have hC5 := hC4.grown hg5 (by simp; omega); have hS5 := And.intro (hC5.cell (i := 0) rfl) (hC5.cell (i := 1) rfl)))
        go_wp2
        go_roundw
        case rel => exact ⟨j + 1, by omega, by go_num, hM5, (hB2.out.drew.trans (hb4.mono (by simp; omega))).grown hg5 (by omega) (fun k hk => by cases hk; exact Nat.le_refl _)⟩
        case measure => simp [intOf]; omega
    · have hji : ¬ (j : Int) < (len : Int) := by omega
      obtain rfl : j = len := by omega
      have hBlt := HM.out.lt
      have hsz := HB.out.size
      go_wp2
      go_ret
      exact ⟨wr.heap.size, rfl, hsz, ⟨w.heap.size, (Cs.new wr [.map (some w.heap.size)] 63).cell (i := 0) rfl, by simp, HM.out.alloc _⟩, HB.out.alloc hsz _⟩
end Go.Proofs.Ythcpepifikpmeaa.Nm
