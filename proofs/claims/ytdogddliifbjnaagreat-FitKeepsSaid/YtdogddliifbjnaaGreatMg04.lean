/- Texts: a byte at a place, sixteen bits in two bytes; the contracts of the reference's Byte and of strings.Clone over the program. For every package. -/
import Derived.Laws.BytesArg
import Derived.Laws.BitsAllLaws
import Derived.Maps.OwnSet
import Derived.Deep.Slices
import Derived.OpenShut
import Derived.Deep.RegionHeld3
import Derived.RegionTactic
import Derived.ChangeSame
import Derived.ProofKit
import Derived.SizedLaws
import Derived.Test.YtdogddliifbjnaaGreatMg01
import Derived.Test.YtdogddliifbjnaaGreatMg02
import Derived.Test.YtdogddliifbjnaaGreatMg03
namespace Go.Proofs.YtdogddliifbjnaaGreat.Cm
open Go.RowKit
set_option linter.unusedVariables false
set_option linter.unusedSimpArgs false

theorem ret_int {k : IntKind} {a b : Int} (h : a = b) : Ending.returned (.int k a) = .returned (.int k b) := by rw [h]
theorem ret_bool {a b : Bool} (h : a = b) : Ending.returned (.bool a) = .returned (.bool b) := by rw [h]
theorem ret_str {a b : ByteArray} (h : a = b) : Ending.returned (.string a) = .returned (.string b) := by rw [h]
theorem str_eq {a b : ByteArray} {k : IntKind} {e : Int} (h : a = b) : Ending.returned (.tuple #[.string a, .int k e]) = .returned (.tuple #[.string b, .int k e]) := by rw [h]

/-- Two texts held against each other, as the walk writes it. -/
theorem txt_ne {a b : ByteArray} (h : ¬ a = b) : (!a.toList == b.toList) = true := by
  have h2 : ¬ a.toList = b.toList := fun e => h (bytes_eq (by rw [← ByteArray.toList_eq, ← ByteArray.toList_eq, e]))
  simp [h2]
theorem txt_neq {a b : ByteArray} (h : ¬ a = b) : (a.toList == b.toList) = false := by
  have h2 : ¬ a.toList = b.toList := fun e => h (bytes_eq (by rw [← ByteArray.toList_eq, ← ByteArray.toList_eq, e]))
  simp [h2]
/-- How long is a text that a slot holds? (a loop's measure) -/
def szOf : Value → Nat | .string s => s.size | _ => 0
/-- A text's byte at a place. -/
def bt (s : ByteArray) (i : Nat) : Nat := (s.data.toList.getD i 0).toNat
theorem bt_lt (s : ByteArray) (i : Nat) : bt s i < 256 := UInt8.toNat_lt _
theorem bt_at (s : ByteArray) (i : Nat) (h : i < s.size) : s[i].toNat = bt s i := by
  unfold bt
  have h2 : i < s.data.toList.length := by simpa using h
  rw [List.getD, List.getElem?_eq_getElem h2]
  rfl
theorem u8n (n : Nat) (h : n < 256) : (UInt8.ofNat n).toNat = n := by simp; omega
theorem bt_app (a b : ByteArray) (i : Nat) (h : i < a.size) : bt (a ++ b) i = bt a i := by
  unfold bt
  rw [app_list, List.getD, List.getD, List.getElem?_append_left (by rw [len_list]; exact h)]
theorem bt_ext (a : ByteArray) (m i : Nat) (h : i < m) : bt (a.extract 0 m) i = bt a i := by
  unfold bt
  rw [ext_list, List.drop_zero, Nat.sub_zero, List.getD, List.getD, List.getElem?_take, if_pos h]

/-- h bytes of 256, and l. -/
theorem or_low (h l : Nat) (hh : h < 256) (hl : l < 256) : bits BinOp.or IntKind.i64 ((h : Int) * 256) (l : Int) = (h : Int) * 256 + (l : Int) := by
  show IntKind.i64.wrap ((BitVec.ofInt 64 ((h : Int) * 256) ||| BitVec.ofInt 64 (l : Int)).toNat : Int) = _
  have e : (h : Int) * 256 = ((h * 256 : Nat) : Int) := by omega
  rw [e, BitVec.toNat_or, ofInt_u64 _ (by omega), ofInt_u64 _ (by omega), nat_join 8 (h * 256) l (Nat.mul_mod_left _ _) (by omega), IntWalk.i64_in _ (by omega)]
  omega

theorem clone_any (s : ByteArray) (w : World) (hs : s.size ≤ 281474976710656) :
    Calls Tryz.prog 55 #[.string s] w fun e w' => e = .returned (.string s) ∧ Below w.heap.size w w' := by
  go_enter Tryz.func55, Tryz.ntmps55
  go_wp2_with (go_at_call 88; refine (Tryz.stringslite_Clone s _ hs).mono ?_; rintro e w' ⟨rfl, hb⟩)
  go_ret
  exact ⟨rfl, hb⟩

theorem byte_conv (n : Int) (w : World) : (convert 192 9 (.slice (some ⟨w.heap.size, 0, none⟩) 1 1)).run Tryz.prog (w.alloc (.cells #[.int .u8 n] 5)) = .ok (.string ⟨#[UInt8.ofNat n.toNat]⟩) (w.alloc (.cells #[.int .u8 n] 5)) := by
  have h := run_convert_bytes_arg (P := Tryz.prog) (w.alloc (.cells #[.int .u8 n] 5)) 192 5 Tryz.underlying192 Tryz.underlying5 w.heap.size 0 1 1 [n] rfl (fun i hi => by
    obtain rfl : i = 0 := by omega
    rw [Nat.add_zero, World.cell?_alloc_at _ _ _ _ rfl]; rfl) 9 Tryz.underlying9
  rw [h]; rfl
end Go.Proofs.YtdogddliifbjnaaGreat.Cm
/- Names: a table's cells and its map; what a list of declarations that came in says. -/
namespace Go.Proofs.YtdogddliifbjnaaGreat.Nm
open Go.RowKit Cm
set_option linter.unusedVariables false
set_option linter.unusedSimpArgs false

/-- How an entry's value reads: a place, and a kind. -/
def fkE (v : Value) : Option (DataW Unit × List MemPlace) :=
  match v with
  | .agg cs => match cs.toList with
    | [.int .i64 p, .int .i64 k] => some (.agg [.lit (.int .i64 p), .lit (.int .i64 k)], [])
    | _ => none
  | _ => none
theorem fkE_mk (p k : Int) : fkE (.agg #[.int .i64 p, .int .i64 k]) = some (.agg [.lit (.int .i64 p), .lit (.int .i64 k)], []) := rfl
theorem fkE_inv {v : Value} {p k : Int} {ps : List MemPlace} (h : fkE v = some (.agg [.lit (.int .i64 p), .lit (.int .i64 k)], ps)) : v = .agg #[.int .i64 p, .int .i64 k] := by
  unfold fkE at h
  split at h
  · rename_i cs
    split at h
    · rename_i p' k' hc
      simp only [Option.some.injEq, Prod.mk.injEq, DataW.agg.injEq, List.cons.injEq, DataW.lit.injEq, Lit.int.injEq, true_and, and_true] at h
      obtain ⟨⟨rfl, rfl⟩, _⟩ := h
      have : cs = #[.int .i64 p', .int .i64 k'] := Array.toList_inj.1 hc
      rw [this]
    · cases h
  · cases h

def klS (s : ByteArray) : Lit := .string s.data.toList
theorem klS_inj {a b : ByteArray} (h : klS a = klS b) : a = b := bytes_eq (by unfold klS at h; injection h)
/-- Block B is a map of the first n declarations' names. -/
def Mp (B n : Nat) (S : Nat → ByteArray) (K : Nat → Int) (w : World) : Prop :=
  ∃ D : DataW Unit, w.ownsMap Tryz.prog 9 fkE B n D ∧ ∀ s : ByteArray,
    (fiS S s n = none → Maps.has D (klS s) = false) ∧ ∀ i, fiS S s n = some i → Maps.has D (klS s) = true ∧ ∀ z, D.atKey (klS s) z = .agg [.lit (.int .i64 i), .lit (.int .i64 (K i))]
theorem Mp.lt {B n : Nat} {S : Nat → ByteArray} {K : Nat → Int} {w : World} (h : Mp B n S K w) : B < w.heap.size := by
  obtain ⟨D, h, _⟩ := h
  exact h.lt
theorem Mp.below {B n m : Nat} {S : Nat → ByteArray} {K : Nat → Int} {w w' : World} (h : Mp B n S K w) (hb : Below m w w') (hm : B < m) : Mp B n S K w' := by
  obtain ⟨D, ⟨es, clock, h1, h2⟩, r⟩ := h
  exact ⟨D, ⟨es, clock, (hb.block B hm).trans h1, h2⟩, r⟩
theorem Mp.alloc {B n : Nat} {S : Nat → ByteArray} {K : Nat → Int} {w : World} (h : Mp B n S K w) (o : Obj) : Mp B n S K (w.alloc o) :=
  h.below ((Below.refl w.heap.size w).alloc (Nat.le_refl _) o) h.lt
theorem Mp.setCell {B n b o : Nat} {S : Nat → ByteArray} {K : Nat → Int} {w : World} (h : Mp B n S K w) (hb : B ≠ b) (u : Value) : Mp B n S K (w.setCell ⟨b, o, none⟩ u) := by
  obtain ⟨D, h1, h2⟩ := h
  exact ⟨D, h1.setCell (a := ⟨b, o, none⟩) hb u, h2⟩
theorem Mp.drew {B n : Nat} {S : Nat → ByteArray} {K : Nat → Int} {w : World} (h : Mp B n S K w) : Mp B n S K w.drew := h
theorem Mp.made (w : World) (S : Nat → ByteArray) (K : Nat → Int) : Mp w.heap.size 0 S K (w.alloc (.map #[] 0)) :=
  ⟨_, World.ownsMap_made w _ _ _, fun s => ⟨fun _ => rfl, fun i h => by cases h⟩⟩
theorem law : Maps.Keyed Tryz.prog 9 := Maps.string_keyed Tryz.underlying9
theorem zeroE (w : World) : (zeroValue 123).run Tryz.prog w = .ok (.agg #[.int .i64 0, .int .i64 0]) w := by kernel_rfl
theorem key_of {s : ByteArray} (hs : s.size ≤ maxLen) : keyOf Tryz.prog 9 (.string s) = some (klS s) := Go.WideMaps.keyOf_string_mk Tryz.underlying9 hs

/-- The look-up. -/
theorem Mp.look {B n : Nat} {S : Nat → ByteArray} {K : Nat → Int} {w : World} (h : Mp B n S K w) (s : ByteArray) (hs : s.size ≤ maxLen) :
    (Instr.lookup 121 (.map (some B)) (.string s) true).run Tryz.prog w = .ok (.tuple #[.agg #[.int .i64 (plS S s n), .int .i64 (knS S K s n)], .bool (isS S s n)]) w := by
  obtain ⟨D, h1, h2⟩ := h
  obtain ⟨v, ps, hrun, hv⟩ := h1.look_ok law Tryz.underlying121 (zeroE w) (fkE_mk 0 0) (key_of hs)
  rw [hrun]
  cases hf : fiS S s n with
  | none =>
    have hh := (h2 s).1 hf
    rw [Maps.atKey_of_not_has hh] at hv
    rw [hh, plS_none hf, knS_none hf, isS_none hf, fkE_inv hv]
  | some i =>
    obtain ⟨hh, hz⟩ := (h2 s).2 i hf
    rw [hz] at hv
    rw [hh, plS_some hf, knS_some hf, isS_some hf, fkE_inv hv]
/-- A name that stood ahead changes nothing. -/
theorem Mp.skip {B n i : Nat} {S : Nat → ByteArray} {K : Nat → Int} {w : World} (h : Mp B n S K w) (hf : fiS S (S n) n = some i) : Mp B (n + 1) S K w := by
  obtain ⟨D, h1, h2⟩ := h
  refine ⟨D, h1.mono (Nat.le_succ n), fun s => ?_⟩
  cases hc : fiS S s n with
  | some j =>
    rw [fiS_next_some hc]
    exact ⟨fun h => (by cases h), fun k hk => by obtain rfl := Option.some.inj hk; exact (h2 s).2 j hc⟩
  | none =>
    have hne : ¬ S n = s := fun e => by rw [e, hc] at hf; cases hf
    rw [fiS_next_miss hc hne]
    exact ⟨fun _ => (h2 s).1 hc, fun k hk => by cases hk⟩
/-- The store of a new name. -/
theorem Mp.store {B n : Nat} {S : Nat → ByteArray} {K : Nat → Int} {w : World} (h : Mp B n S K w) (hf : fiS S (S n) n = none) (hs : (S n).size ≤ maxLen) (hn : n < maxLen) :
    ∃ w', (Instr.mapUpdate 121 (.map (some B)) (.string (S n)) (.agg #[.int .i64 n, .int .i64 (K n)])).run Tryz.prog w = .ok () w' ∧ Mp B (n + 1) S K w' ∧ w.grownBy w' (some B) := by
  obtain ⟨D, h1, h2⟩ := h
  obtain ⟨w', hrun, hown, hg⟩ := h1.update law Tryz.underlying121 hn (key_of hs) (fkE_mk n (K n))
  have hD := h1.isMap
  refine ⟨w', hrun, ⟨_, hown, fun s => ?_⟩, hg⟩
  cases hc : fiS S s n with
  | some j =>
    have hne : klS s ≠ klS (S n) := fun e => by rw [klS_inj e, hf] at hc; cases hc
    rw [fiS_next_some hc, Maps.has_put_other hne]
    refine ⟨fun h => (by cases h), fun k hk => ?_⟩
    obtain rfl := Option.some.inj hk
    obtain ⟨a, b⟩ := (h2 s).2 j hc
    exact ⟨a, fun z => by rw [Maps.atKey_put_other hne]; exact b z⟩
  | none =>
    by_cases e : S n = s
    · subst e
      rw [fiS_next_hit hc rfl]
      refine ⟨fun h => (by cases h), fun k hk => ?_⟩
      obtain rfl := Option.some.inj hk
      exact ⟨Maps.has_put_same hD (by unfold klS; simp [WideAt.IsKeyLit]) _, fun z => Maps.atKey_put_same hD (by unfold klS; simp [WideAt.IsKeyLit]) _ _⟩
    · have hne : klS s ≠ klS (S n) := fun e2 => e (klS_inj e2).symm
      rw [fiS_next_miss hc e, Maps.has_put_other hne]
      exact ⟨fun _ => (h2 s).1 hc, fun k hk => by cases hk⟩

/-- A table: a cell that leads to the map. -/
def Tb (T n : Nat) (S : Nat → ByteArray) (K : Nat → Int) (w : World) : Prop := ∃ B, w.cell? ⟨T, 0, none⟩ = some (.map (some B)) ∧ T < w.heap.size ∧ Mp B n S K w
theorem Tb.below {T n : Nat} {S : Nat → ByteArray} {K : Nat → Int} {w w' : World} (h : Tb T n S K w) (hb : Below w.heap.size w w') : Tb T n S K w' := by
  obtain ⟨B, h1, h2, h3⟩ := h
  exact ⟨B, (hb.cell (p := ⟨T, 0, none⟩) h2).trans h1, Nat.lt_of_lt_of_le h2 hb.size, h3.below hb h3.lt⟩
theorem Tb.alloc {T n : Nat} {S : Nat → ByteArray} {K : Nat → Int} {w : World} (h : Tb T n S K w) (o : Obj) : Tb T n S K (w.alloc o) := h.below ((Below.refl w.heap.size w).alloc (Nat.le_refl _) o)
end Go.Proofs.YtdogddliifbjnaaGreat.Nm
/- Names: the contracts of look, Find and Kind. -/
namespace Go.Proofs.YtdogddliifbjnaaGreat.Nm
open Go.RowKit Cm
set_option linter.unusedVariables false
set_option linter.unusedSimpArgs false

set_option maxRecDepth 100000 in
set_option maxHeartbeats 1000000 in
theorem look_any (T n : Nat) (S : Nat → ByteArray) (K : Nat → Int) (s : ByteArray) (w : World) (h : Tb T n S K w) (hs : s.size ≤ 140737488355327) :
    Calls Tryz.prog 66 #[.pointer (some ⟨T, 0, none⟩), .string s] w fun e w' => e = .returned (.tuple #[.agg #[.int .i64 (plS S s n), .int .i64 (knS S K s n)], .bool (isS S s n)]) ∧ Below w.heap.size w w' := by
  have hmx : s.size ≤ maxLen := by unfold maxLen; omega
  obtain ⟨B, c0, hT, hM⟩ := h
  have hrun := (hM.alloc (.cells #[.int .i64 0, .int .i64 0] 123)).look s hmx
  clear hM
  go_enter Tryz.func66, Tryz.ntmps66
  go_wp2
  go_returns
  exact ⟨rfl, ((Below.refl w.heap.size w).alloc (Nat.le_refl _) _).alloc (by simp) _⟩
set_option maxRecDepth 100000 in
set_option maxHeartbeats 1000000 in
theorem look_nil (s : ByteArray) (w : World) :
    Calls Tryz.prog 66 #[.pointer none, .string s] w fun e w' => e = .returned (.tuple #[.agg #[.int .i64 0, .int .i64 0], .bool false]) ∧ Below w.heap.size w w' := by
  go_enter Tryz.func66, Tryz.ntmps66
  go_wp2
  go_returns
  exact ⟨rfl, (Below.refl w.heap.size w).alloc (Nat.le_refl _) _⟩

set_option maxRecDepth 100000 in
set_option maxHeartbeats 1000000 in
theorem find_any (T n : Nat) (S : Nat → ByteArray) (K : Nat → Int) (s : ByteArray) (w : World) (h : Tb T n S K w) (hs : s.size ≤ 140737488355327) :
    Calls Tryz.prog 80 #[.pointer (some ⟨T, 0, none⟩), .string s] w fun e w' => e = .returned (.tuple #[.int .i64 (plS S s n), .bool (isS S s n)]) ∧ Below w.heap.size w w' := by
  have H := Lib.hid h
  clear h
  go_enter Tryz.func80, Tryz.ntmps80
  go_wp2_with (go_at_call 66; refine (look_any T n S K s _ H.out hs).mono ?_; rintro e w1 ⟨rfl, hb⟩)
  go_ret2
  exact ⟨rfl, hb.alloc hb.size _⟩
set_option maxRecDepth 100000 in
set_option maxHeartbeats 1000000 in
theorem find_nil (s : ByteArray) (w : World) :
    Calls Tryz.prog 80 #[.pointer none, .string s] w fun e w' => e = .returned (.tuple #[.int .i64 0, .bool false]) ∧ Below w.heap.size w w' := by
  go_enter Tryz.func80, Tryz.ntmps80
  go_wp2_with (go_at_call 66; refine (look_nil s _).mono ?_; rintro e w1 ⟨rfl, hb⟩)
  go_ret2
  exact ⟨rfl, hb.alloc hb.size _⟩
set_option maxRecDepth 100000 in
set_option maxHeartbeats 1000000 in
theorem kind_any (T n : Nat) (S : Nat → ByteArray) (K : Nat → Int) (s : ByteArray) (w : World) (h : Tb T n S K w) (hs : s.size ≤ 140737488355327) :
    Calls Tryz.prog 33 #[.pointer (some ⟨T, 0, none⟩), .string s] w fun e w' => e = .returned (.int .i64 (knS S K s n)) ∧ Below w.heap.size w w' := by
  have H := Lib.hid h
  clear h
  go_enter Tryz.func33, Tryz.ntmps33
  go_wp2_with (go_at_call 66; refine (look_any T n S K s _ H.out hs).mono ?_; rintro e w1 ⟨rfl, hb⟩)
  go_ret
  exact ⟨rfl, hb.alloc hb.size _⟩
set_option maxRecDepth 100000 in
set_option maxHeartbeats 1000000 in
theorem kind_nil (s : ByteArray) (w : World) :
    Calls Tryz.prog 33 #[.pointer none, .string s] w fun e w' => e = .returned (.int .i64 0) ∧ Below w.heap.size w w' := by
  go_enter Tryz.func33, Tryz.ntmps33
  go_wp2_with (go_at_call 66; refine (look_nil s _).mono ?_; rintro e w1 ⟨rfl, hb⟩)
  go_ret
  exact ⟨rfl, hb.alloc hb.size _⟩
end Go.Proofs.YtdogddliifbjnaaGreat.Nm
/- Names: what a list of declarations holds, cell by cell; the contract of names.Of. -/
namespace Go.Proofs.YtdogddliifbjnaaGreat.Nm
open Go.RowKit Cm
set_option linter.unusedVariables false
set_option linter.unusedSimpArgs false

/-- Declarations: kinds, names, fields and methods (as slices), places. -/
structure Dl where
  K : Nat → Int
  S : Nat → ByteArray
  fo : Nat → Option Addr
  fl : Nat → Nat
  fc : Nat → Nat
  mo : Nat → Option Addr
  ml : Nat → Nat
  mc : Nat → Nat
  A : Nat → Int
/-- The i-th declaration's cells. -/
def Dl.at5 (D : Dl) (i : Nat) : List Value := [.int .i64 (D.K i), .string (D.S i), .slice (D.fo i) (D.fl i) (D.fc i), .slice (D.mo i) (D.ml i) (D.mc i), .int .i64 (D.A i)]
/-- A list of declarations in the world. -/
def Dx (o : Option Addr) (len : Nat) (D : Dl) (w : World) : Prop :=
  (∀ i, i < len → ∃ a, o = some a ∧ a.block < w.heap.size ∧ (∀ k v, (D.at5 i)[k]? = some v → w.cell? (a.add (i * 5 + k)) = some v) ∧ (D.S i).size ≤ 140737488355327 ∧ -9223372036854775808 ≤ D.K i ∧ D.K i ≤ 9223372036854775807) ∧ len ≤ 1759218604441
theorem Dx.below {o : Option Addr} {len m : Nat} {D : Dl} {w w' : World} (h : Dx o len D w) (hb : Below m w w') (hm : w.heap.size ≤ m) : Dx o len D w' := by
  refine ⟨fun i hi => ?_, h.2⟩
  obtain ⟨a, h1, h2, h3, h4⟩ := h.1 i hi
  refine ⟨a, h1, Nat.lt_of_lt_of_le h2 hb.size, fun k v hk => ?_, h4⟩
  have hc := h3 k v hk
  have := World.block_lt_of_cell? w _ hc
  rw [hb.cell (p := a.add (i * 5 + k)) (by omega)]; exact hc
/-- One declaration, at its place taken apart. -/
theorem Dx.place {o : Option Addr} {len j : Nat} {D : Dl} {w : World} (h : Dx o len D w) (hj : j < len) :
    ∃ a Ab Ao As, o = some a ∧ a.add (j * 5) = ⟨Ab, Ao, As⟩ ∧ Ab < w.heap.size ∧ w.cell? ⟨Ab, Ao, As⟩ = some (.int .i64 (D.K j)) ∧ w.cell? ⟨Ab, Ao + 1, none⟩ = some (.string (D.S j)) ∧
      w.cell? ⟨Ab, Ao + 2, none⟩ = some (.slice (D.fo j) (D.fl j) (D.fc j)) ∧ w.cell? ⟨Ab, Ao + 3, none⟩ = some (.slice (D.mo j) (D.ml j) (D.mc j)) ∧ w.cell? ⟨Ab, Ao + 4, none⟩ = some (.int .i64 (D.A j)) := by
  obtain ⟨a, rfl, h2, h3, _⟩ := h.1 j hj
  obtain ⟨⟨Ab, Ao, As⟩, hA⟩ : ∃ A, a.add (j * 5) = A := ⟨_, rfl⟩
  have g : ∀ k, a.add (j * 5 + (k + 1)) = ⟨Ab, Ao + (k + 1), none⟩ := fun k => by rw [← Addr.add_add, hA]; simp [Addr.add]
  have c0 := h3 0 _ rfl
  rw [Nat.add_zero, hA] at c0
  have hlt := World.block_lt_of_cell? w _ c0
  exact ⟨a, Ab, Ao, As, rfl, hA, hlt, c0, (g 0) ▸ h3 1 _ rfl, (g 1) ▸ h3 2 _ rfl, (g 2) ▸ h3 3 _ rfl, (g 3) ▸ h3 4 _ rfl⟩

set_option maxRecDepth 100000 in
set_option maxHeartbeats 1000000 in
theorem of_any (o : Option Addr) (len cap : Nat) (D : Dl) (w : World) (h : Dx o len D w) :
    Calls Tryz.prog 30 #[.slice o len cap] w fun e w' => ∃ T, e = .returned (.pointer (some ⟨T, 0, none⟩)) ∧ w.heap.size ≤ T ∧ Tb T len D.S D.K w' ∧ Below w.heap.size w w' := by
  have hlen := h.2
  have hlen2 : len ≤ 9223372036854775807 := by omega
  have hmm := @run_makeMap Tryz.prog
  have H := Lib.hid h
  clear h
  have hM0 := Lib.hid (Mp.made w D.S D.K)
  have hB0 := Lib.hid ((Below.refl w.heap.size w).alloc (Nat.le_refl _) (.map #[] 0))
  go_enter Tryz.func30, Tryz.ntmps30
  go_wp2
  go_loopw [11] (fun i wr => ∃ j, j ≤ len ∧ i = .int .i64 (j : Nat) ∧ Hid (Mp w.heap.size j D.S D.K wr) ∧ Hid (Below w.heap.size w wr)) (fun i _ => len - (intOf i).toNat)
  case atStart => exact ⟨0, by omega, rfl, hM0, hB0⟩
  case round =>
    obtain ⟨j, hj, rfl, HM, HB⟩ := hrel
    clear hM0 hB0
    by_cases hjl : j < len
    · have hji : (j : Int) < (len : Int) := by omega
      have hsz := HB.out.size
      obtain ⟨a, Ab, Ao, As, rfl, hA, hAb, c0, c1, c2, c3, c4⟩ := Dx.place (H.out.below HB.out (Nat.le_refl _)) hjl
      have hSj := (H.out.1 j hjl).choose_spec.2.2.2.1
      have hSm : (D.S j).size ≤ maxLen := by unfold maxLen; omega
      have hBlt := HM.out.lt
      have hC := ((Cs.new wr [.int .i64 (D.K j), .string (D.S j), .slice (D.fo j) (D.fl j) (D.fc j), .slice (D.mo j) (D.ml j) (D.mc j), .int .i64 (D.A j)] 43).alloc (.cells #[.int .i64 (plS D.S (D.S j) j), .int .i64 (knS D.S D.K (D.S j) j)] 123))
      have hM2 := (HM.out.alloc (.cells #[.int .i64 (D.K j), .string (D.S j), .slice (D.fo j) (D.fl j) (D.fc j), .slice (D.mo j) (D.ml j) (D.mc j), .int .i64 (D.A j)] 43))
      have hrun := hM2.look (D.S j) hSm
      replace hM2 := Lib.hid (hM2.alloc (.cells #[.int .i64 (plS D.S (D.S j) j), .int .i64 (knS D.S D.K (D.S j) j)] 123))
      have hB2 := Lib.hid ((HB.out.alloc hsz (.cells #[.int .i64 (D.K j), .string (D.S j), .slice (D.fo j) (D.fl j) (D.fc j), .slice (D.mo j) (D.ml j) (D.mc j), .int .i64 (D.A j)] 43)).alloc (by simp; omega) (.cells #[.int .i64 (plS D.S (D.S j) j), .int .i64 (knS D.S D.K (D.S j) j)] 123))
      cases hf : fiS D.S (D.S j) j with
      | some i =>
        rw [isS_some hf] at hrun
        clear hC
        go_wp2
        go_roundw
        case rel => exact ⟨j + 1, by omega, by go_num, hM2.out.skip hf, hB2.out⟩
        case measure => simp [intOf]; omega
      | none =>
        rw [isS_none hf] at hrun
        have d0 := hC.drew.cell (i := 0) rfl
        have d1 := hC.drew.cell (i := 1) rfl
        have HC := Lib.hid hC
        clear hC
        go_wp2
        go_region_held3 (fun w' => w'.cell? ⟨wr.heap.size, 0, none⟩ = some (.int .i64 (D.K j)) ∧ w'.cell? ⟨wr.heap.size, 1, none⟩ = some (.string (D.S j))) (first | exact ⟨d0, d1⟩ | exact hS4 | exact hS5) (first
          | (go_at_call 55; refine (clone_any _ _ (by omega)).mono ?_; rintro e w4 ⟨rfl, hb4⟩; have hsz4 : wr.heap.size + 2 ≤ w4.heap.size := (by have hq := hb4.size; simp at hq; omega); have hC4 := HC.out.drew.below hb4 HC.out.drew.lt; have hS4 := And.intro (hC4.cell (i := 0) rfl) (hC4.cell (i := 1) rfl); obtain ⟨w5, hst, hM5, hg5⟩ := (hM2.out.drew.below hb4 hM2.out.drew.lt).store hf hSm (by unfold maxLen; omega); have hC5 := hC4.grown hg5 (by simp; omega); have hS5 := And.intro (hC5.cell (i := 0) rfl) (hC5.cell (i := 1) rfl)))
        go_wp2
        go_roundw
        case rel => exact ⟨j + 1, by omega, by go_num, hM5, (hB2.out.drew.trans (hb4.mono (by simp; omega))).grown hg5 (by omega) (fun k hk => by cases hk; exact Nat.le_refl _)⟩
        case measure => simp [intOf]; omega
    · have hji : ¬ (j : Int) < (len : Int) := by omega
      obtain rfl : j = len := by omega
      have hBlt := HM.out.lt
      have hsz := HB.out.size
      go_wp2
      go_ret
      exact ⟨wr.heap.size, rfl, hsz, ⟨w.heap.size, (Cs.new wr [.map (some w.heap.size)] 126).cell (i := 0) rfl, by simp, HM.out.alloc _⟩, HB.out.alloc hsz _⟩
end Go.Proofs.YtdogddliifbjnaaGreat.Nm
/- Names: what a declaration's fields and methods hold, cell by cell. -/
namespace Go.Proofs.YtdogddliifbjnaaGreat.Nm
open Go.RowKit Cm
set_option linter.unusedVariables false
set_option linter.unusedSimpArgs false

/-- Fields: tags, names, and their types' cells. -/
structure Fl where
  T : Nat → Int
  N : Nat → ByteArray
  K : Nat → Int
  M : Nat → ByteArray
  o : Nat → Option Addr
  l : Nat → Nat
  c : Nat → Nat
def Fl.at5 (F : Fl) (i : Nat) : List Value := [.int .i64 (F.T i), .string (F.N i), .int .i64 (F.K i), .string (F.M i), .slice (F.o i) (F.l i) (F.c i)]
/-- Methods. -/
structure Ml where
  T : Nat → Int
  N : Nat → ByteArray
  I : Nat → ByteArray
  O : Nat → ByteArray
  W : Nat → Bool
def Ml.at5 (M : Ml) (i : Nat) : List Value := [.int .i64 (M.T i), .string (M.N i), .string (M.I i), .string (M.O i), .bool (M.W i)]
def Ml.val (M : Ml) (i : Nat) : Value := .agg #[.int .i64 (M.T i), .string (M.N i), .string (M.I i), .string (M.O i), .bool (M.W i)]

def Fx (o : Option Addr) (len : Nat) (F : Fl) (w : World) : Prop :=
  (∀ i, i < len → ∃ a, o = some a ∧ a.block < w.heap.size ∧ (∀ k v, (F.at5 i)[k]? = some v → w.cell? (a.add (i * 5 + k)) = some v) ∧ -9223372036854775808 ≤ F.T i ∧ F.T i ≤ 9223372036854775807) ∧ len ≤ 9223372036854775807
def Mx (o : Option Addr) (len : Nat) (M : Ml) (w : World) : Prop :=
  (∀ i, i < len → ∃ a, o = some a ∧ a.block < w.heap.size ∧ (∀ k v, (M.at5 i)[k]? = some v → w.cell? (a.add (i * 5 + k)) = some v) ∧ (M.N i).size ≤ 140737488355327 ∧ (M.I i).size ≤ 140737488355327 ∧ (M.O i).size ≤ 140737488355327) ∧ len ≤ 9223372036854775807
theorem Fx.below {o : Option Addr} {len m : Nat} {F : Fl} {w w' : World} (h : Fx o len F w) (hb : Below m w w') (hm : w.heap.size ≤ m) : Fx o len F w' := by
  refine ⟨fun i hi => ?_, h.2⟩
  obtain ⟨a, h1, h2, h3, h4⟩ := h.1 i hi
  refine ⟨a, h1, Nat.lt_of_lt_of_le h2 hb.size, fun k v hk => ?_, h4⟩
  have hc := h3 k v hk
  have := World.block_lt_of_cell? w _ hc
  rw [hb.cell (p := a.add (i * 5 + k)) (by omega)]; exact hc
theorem Mx.below {o : Option Addr} {len m : Nat} {M : Ml} {w w' : World} (h : Mx o len M w) (hb : Below m w w') (hm : w.heap.size ≤ m) : Mx o len M w' := by
  refine ⟨fun i hi => ?_, h.2⟩
  obtain ⟨a, h1, h2, h3, h4⟩ := h.1 i hi
  refine ⟨a, h1, Nat.lt_of_lt_of_le h2 hb.size, fun k v hk => ?_, h4⟩
  have hc := h3 k v hk
  have := World.block_lt_of_cell? w _ hc
  rw [hb.cell (p := a.add (i * 5 + k)) (by omega)]; exact hc
/-- Five cells from a place on. -/
theorem five {a : Addr} {j : Nat} {w : World} {v0 v1 v2 v3 v4 : Value} (h : ∀ k v, [v0, v1, v2, v3, v4][k]? = some v → w.cell? (a.add (j * 5 + k)) = some v) :
    ∃ Ab Ao As, a.add (j * 5) = ⟨Ab, Ao, As⟩ ∧ Ab < w.heap.size ∧ w.cell? ⟨Ab, Ao, As⟩ = some v0 ∧ w.cell? ⟨Ab, Ao + 1, none⟩ = some v1 ∧ w.cell? ⟨Ab, Ao + 2, none⟩ = some v2 ∧ w.cell? ⟨Ab, Ao + 3, none⟩ = some v3 ∧ w.cell? ⟨Ab, Ao + 4, none⟩ = some v4 := by
  obtain ⟨⟨Ab, Ao, As⟩, hA⟩ : ∃ A, a.add (j * 5) = A := ⟨_, rfl⟩
  have g : ∀ k, a.add (j * 5 + (k + 1)) = ⟨Ab, Ao + (k + 1), none⟩ := fun k => by rw [← Addr.add_add, hA]; simp [Addr.add]
  have c0 := h 0 _ rfl
  rw [Nat.add_zero, hA] at c0
  have hlt := World.block_lt_of_cell? w _ c0
  exact ⟨Ab, Ao, As, hA, hlt, c0, (g 0) ▸ h 1 _ rfl, (g 1) ▸ h 2 _ rfl, (g 2) ▸ h 3 _ rfl, (g 3) ▸ h 4 _ rfl⟩
theorem Fx.place {o : Option Addr} {len j : Nat} {F : Fl} {w : World} (h : Fx o len F w) (hj : j < len) :
    ∃ a Ab Ao As, o = some a ∧ a.add (j * 5) = ⟨Ab, Ao, As⟩ ∧ Ab < w.heap.size ∧ w.cell? ⟨Ab, Ao, As⟩ = some (.int .i64 (F.T j)) ∧ w.cell? ⟨Ab, Ao + 1, none⟩ = some (.string (F.N j)) ∧
      w.cell? ⟨Ab, Ao + 2, none⟩ = some (.int .i64 (F.K j)) ∧ w.cell? ⟨Ab, Ao + 3, none⟩ = some (.string (F.M j)) ∧ w.cell? ⟨Ab, Ao + 4, none⟩ = some (.slice (F.o j) (F.l j) (F.c j)) := by
  obtain ⟨a, rfl, _, h3, _⟩ := h.1 j hj
  obtain ⟨Ab, Ao, As, r⟩ := five h3
  exact ⟨a, Ab, Ao, As, rfl, r⟩
theorem Mx.place {o : Option Addr} {len j : Nat} {M : Ml} {w : World} (h : Mx o len M w) (hj : j < len) :
    ∃ a Ab Ao As, o = some a ∧ a.add (j * 5) = ⟨Ab, Ao, As⟩ ∧ Ab < w.heap.size ∧ w.cell? ⟨Ab, Ao, As⟩ = some (.int .i64 (M.T j)) ∧ w.cell? ⟨Ab, Ao + 1, none⟩ = some (.string (M.N j)) ∧
      w.cell? ⟨Ab, Ao + 2, none⟩ = some (.string (M.I j)) ∧ w.cell? ⟨Ab, Ao + 3, none⟩ = some (.string (M.O j)) ∧ w.cell? ⟨Ab, Ao + 4, none⟩ = some (.bool (M.W j)) := by
  obtain ⟨a, rfl, _, h3, _⟩ := h.1 j hj
  obtain ⟨Ab, Ao, As, r⟩ := five h3
  exact ⟨a, Ab, Ao, As, rfl, r⟩
end Go.Proofs.YtdogddliifbjnaaGreat.Nm
/- Names: what the form says of a list of declarations that came in. -/
namespace Go.Proofs.YtdogddliifbjnaaGreat.Nm
open Go.RowKit Cm
set_option maxRecDepth 100000
set_option linter.unusedVariables false
set_option linter.unusedSimpArgs false

theorem weight_all {H : Type} {P : Program} {e : TypeId} {l : List (DataW H)} {d : DataW H} {n : Nat} (hd : d ∈ l) (hn : n ∈ d.weights P e) : n ∈ DataW.weightsAll P e l := by
  induction l with
  | nil => cases hd
  | cons x l ih =>
    simp only [DataW.weightsAll, List.mem_append]
    rcases List.mem_cons.1 hd with rfl | h
    · exact .inl hn
    · exact .inr (ih h)
theorem block_add (a : Addr) (n : Nat) : (a.add n).block = a.block := by unfold Addr.add; split <;> rfl
theorem cellsInt : Tryz.prog.cellsOf 3 = 1 := by kernel_rfl
theorem cellsStr : Tryz.prog.cellsOf 9 = 1 := by kernel_rfl
theorem cellsBool : Tryz.prog.cellsOf 4 = 1 := by kernel_rfl
theorem cellsFs : Tryz.prog.cellsOf 40 = 1 := by kernel_rfl
theorem cellsMs : Tryz.prog.cellsOf 41 = 1 := by kernel_rfl
theorem cellsTs : Tryz.prog.cellsOf 46 = 1 := by kernel_rfl
theorem cellsTy : Tryz.prog.cellsOf 48 = 3 := by kernel_rfl
theorem cellsDecl : Tryz.prog.cellsOf 43 = 5 := by kernel_rfl
theorem cellsField : Tryz.prog.cellsOf 50 = 5 := by kernel_rfl
theorem cellsMethod : Tryz.prog.cellsOf 98 = 5 := by kernel_rfl
theorem bytesDecl : Tryz.prog.bytesOf 43 = 80 := by kernel_rfl

section
variable {H : Type} {enc : TypeId × Value → H} {W : World} {sp : Nat → Bool} {held : Bool} {base : Nat}
theorem slice_shape {t e : TypeId} {n : Nat} {v : Value} {y : DataW H × List MemPlace} (ht : Tryz.prog.underlying t = some (.slice e)) (h : DataW.trod enc Tryz.prog W base sp held n t [v] = some y) : ∃ o l c, v = .slice o l c := by
  rcases Go.Deep.open_slice ht h with ⟨h0, _⟩ | ⟨a, len, cap, m, k, D, Pl, h0, _⟩
  · exact ⟨none, 0, 0, by simpa using h0⟩
  · exact ⟨some a, len, cap, by simpa using h0⟩
/-- A slice, element by element. -/
theorem elems_open {t e : TypeId} {c n len cap : Nat} {o : Option Addr} {y : DataW H × List MemPlace} (ht : Tryz.prog.underlying t = some (.slice e)) (hc : Tryz.prog.cellsOf e = c) (hpos : 0 < c) (h : DataW.trod enc Tryz.prog W base sp held n t [.slice o len cap] = some y)
    (hsz : ∀ n ∈ y.1.weights Tryz.prog t, n ≤ reachBytes) :
    len ≤ maxLen ∧ len * Tryz.prog.bytesOf e ≤ reachBytes ∧ ∀ i, i < len → ∃ a cs d q m, o = some a ∧ a.block < W.heap.size ∧ (∀ k v, cs[k]? = some v → W.cell? (a.add (i * c + k)) = some v) ∧ cs.length = c ∧
      DataW.trod enc Tryz.prog W base sp held m e cs = some (d, q) ∧ ∀ n ∈ d.weights Tryz.prog e, n ≤ reachBytes := by
  rcases Go.Deep.open_slice ht h with ⟨h0, rfl⟩ | ⟨a, len', cap', m, k, D, Pl, h0, _, hlc, hcm, hm, rfl, hx⟩
  · have e0 : o = none ∧ len = 0 ∧ cap = 0 := by simpa using h0
    obtain ⟨rfl, rfl, rfl⟩ := e0
    exact ⟨Nat.zero_le _, by simp, fun i hi => by omega⟩
  · have e0 : o = some a ∧ len = len' ∧ cap = cap' := by simpa using h0
    obtain ⟨rfl, rfl, rfl⟩ := e0
    have hl : len ≤ m := by rw [hm]; split <;> omega
    have hw : ∀ n ∈ DataW.weightsAll Tryz.prog e ((List.range len).map D), n ≤ reachBytes := fun n hn => hsz n (by simp only [DataW.weights, ht, List.mem_cons, List.mem_append]; exact .inr (.inl hn))
    have h1 := hsz ((((List.range len).map D).length + ((List.range (m - len)).map fun j => D (len + j)).length) * Tryz.prog.bytesOf e) (by simp [DataW.weights, ht])
    refine ⟨by omega, ?_, fun i hi => ?_⟩
    · simp only [List.length_map, List.length_range] at h1
      exact Nat.le_trans (Nat.mul_le_mul_right _ (by omega)) h1
    · obtain ⟨cs, hcs, htr⟩ := hx i (by omega)
      rw [hc] at hcs
      obtain ⟨_, hcl, hcell⟩ := World.cells?_some hcs
      have hcc : ∀ k v, cs[k]? = some v → W.cell? (a.add (i * c + k)) = some v := fun k v hk => by
        have hkl : k < cs.length := (List.getElem?_eq_some_iff.1 hk).1
        have := hcell k (by omega)
        rw [Go.Deep.add_add] at this
        rw [this]; exact hk
      have h0c := hcc 0 _ (List.getElem?_eq_getElem (by omega))
      have hlt := World.block_lt_of_cell? W _ h0c
      rw [block_add] at hlt
      exact ⟨a, cs, D i, Pl i, k, rfl, hlt, hcc, hcl, htr, fun n hn => hw n (weight_all (List.mem_map.2 ⟨i, List.mem_range.2 hi, rfl⟩) hn)⟩

theorem declFields : ∃ f0 f1 f2 f3 f4 : Field, Tryz.prog.underlying 43 = some (.struct #[f0, f1, f2, f3, f4]) ∧ f0.offset = 0 ∧ f1.offset = 1 ∧ f2.offset = 2 ∧ f3.offset = 3 ∧ f4.offset = 4 ∧
    f0.type = 3 ∧ f1.type = 9 ∧ f2.type = 40 ∧ f3.type = 41 ∧ f4.type = 3 :=
  ⟨_, _, _, _, _, Tryz.underlying43, rfl, rfl, rfl, rfl, rfl, rfl, rfl, rfl, rfl, rfl⟩
theorem methodFields : ∃ f0 f1 f2 f3 f4 : Field, Tryz.prog.underlying 98 = some (.struct #[f0, f1, f2, f3, f4]) ∧ f0.offset = 0 ∧ f1.offset = 1 ∧ f2.offset = 2 ∧ f3.offset = 3 ∧ f4.offset = 4 ∧
    f0.type = 3 ∧ f1.type = 9 ∧ f2.type = 9 ∧ f3.type = 9 ∧ f4.type = 4 :=
  ⟨_, _, _, _, _, Tryz.underlying98, rfl, rfl, rfl, rfl, rfl, rfl, rfl, rfl, rfl, rfl⟩
theorem fieldFields : ∃ f0 f1 f2 : Field, Tryz.prog.underlying 50 = some (.struct #[f0, f1, f2]) ∧ f0.offset = 0 ∧ f1.offset = 1 ∧ f2.offset = 2 ∧
    f0.type = 3 ∧ f1.type = 9 ∧ f2.type = 48 :=
  ⟨_, _, _, Tryz.underlying50, rfl, rfl, rfl, rfl, rfl, rfl⟩
theorem typeFields : ∃ f0 f1 f2 : Field, Tryz.prog.underlying 48 = some (.struct #[f0, f1, f2]) ∧ f0.offset = 0 ∧ f1.offset = 1 ∧ f2.offset = 2 ∧
    f0.type = 3 ∧ f1.type = 9 ∧ f2.type = 46 :=
  ⟨_, _, _, Tryz.underlying48, rfl, rfl, rfl, rfl, rfl, rfl⟩

theorem reach_str {s : ByteArray} (h : s.data.toList.length ≤ reachBytes) : s.size ≤ 140737488355327 := by
  have he : s.data.toList.length = s.size := Array.length_toList
  have hr : reachBytes = 140737488351232 := rfl
  omega
/-- One method's cells. -/
theorem method_open {n : Nat} {cs : List Value} {y : DataW H × List MemPlace} (h : DataW.trod enc Tryz.prog W base sp held n 98 cs = some y) (hsz : ∀ n ∈ y.1.weights Tryz.prog 98, n ≤ reachBytes) :
    ∃ k s1 s2 s3 b, cs = [.int .i64 k, .string s1, .string s2, .string s3, .bool b] ∧ s1.size ≤ 140737488355327 ∧ s2.size ≤ 140737488355327 ∧ s3.size ≤ 140737488355327 := by
  obtain ⟨f0, f1, f2, f3, f4, hu, o0, o1, o2, o3, o4, t0, t1, t2, t3, t4⟩ := methodFields
  obtain ⟨xs, m, _, rfl, hl, hlen, hf⟩ := DataW.trod_struct hu h
  rw [cellsMethod] at hl
  match xs, hlen, cs, hl with
  | [y0, y1, y2, y3, y4], _, [v0, v1, v2, v3, v4], _ =>
    have g0 := hf 0 f0 rfl
    have g1 := hf 1 f1 rfl
    have g2 := hf 2 f2 rfl
    have g3 := hf 3 f3 rfl
    have g4 := hf 4 f4 rfl
    simp [o0, t0, cellsInt] at g0
    simp [o1, t1, cellsStr] at g1
    simp [o2, t2, cellsStr] at g2
    simp [o3, t3, cellsStr] at g3
    simp [o4, t4, cellsBool] at g4
    obtain ⟨k, e0, d0, w0⟩ := DataW.trod_int Tryz.underlying3 g0
    obtain ⟨s1, e1, d1, w1⟩ := DataW.trod_string Tryz.underlying9 g1
    obtain ⟨s2, e2, d2, w2⟩ := DataW.trod_string Tryz.underlying9 g2
    obtain ⟨s3, e3, d3, w3⟩ := DataW.trod_string Tryz.underlying9 g3
    obtain ⟨b, e4, d4⟩ := DataW.trod_bool Tryz.underlying4 g4
    simp only [List.cons.injEq, and_true] at e0 e1 e2 e3 e4
    subst e0 e1 e2 e3 e4
    subst d0 d1 d2 d3 d4
    have hz : ∀ n, n = s1.data.toList.length ∨ n = s2.data.toList.length ∨ n = s3.data.toList.length → n ≤ reachBytes := fun n hn => hsz n (by
      simp only [DataW.weights, hu, List.map_cons, List.map_nil, DataW.weightsEach, t0, t1, t2, t3, t4, List.mem_append, List.mem_cons, List.not_mem_nil, or_false, false_or]
      rcases hn with h | h | h
      · exact .inl h
      · exact .inr (.inl h)
      · exact .inr (.inr h))
    exact ⟨k, s1, s2, s3, b, rfl, reach_str (hz _ (.inl rfl)), reach_str (hz _ (.inr (.inl rfl))), reach_str (hz _ (.inr (.inr rfl)))⟩
/-- One field's cells. -/
theorem field_open {n : Nat} {cs : List Value} {y : DataW H × List MemPlace} (h : DataW.trod enc Tryz.prog W base sp held n 50 cs = some y) :
    ∃ k s1 k2 s2 o l c, cs = [.int .i64 k, .string s1, .int .i64 k2, .string s2, .slice o l c] ∧ (Lit.int .i64 k).wf = true := by
  obtain ⟨f0, f1, f2, hu, o0, o1, o2, t0, t1, t2⟩ := fieldFields
  obtain ⟨g0', g1', g2', hu', o0', o1', o2', t0', t1', t2'⟩ := typeFields
  obtain ⟨xs, m, _, rfl, hl, hlen, hf⟩ := DataW.trod_struct hu h
  rw [cellsField] at hl
  match xs, hlen, cs, hl with
  | [y0, y1, y2], _, [v0, v1, v2, v3, v4], _ =>
    have g0 := hf 0 f0 rfl
    have g1 := hf 1 f1 rfl
    have g2 := hf 2 f2 rfl
    simp [o0, t0, cellsInt] at g0
    simp [o1, t1, cellsStr] at g1
    simp [o2, t2, cellsTy] at g2
    obtain ⟨xs', m', _, rfl, hl', hlen', hf'⟩ := DataW.trod_struct hu' g2
    match xs', hlen' with
    | [z0, z1, z2], _ =>
      have q0 := hf' 0 g0' rfl
      have q1 := hf' 1 g1' rfl
      have q2 := hf' 2 g2' rfl
      simp [o0', t0', cellsInt] at q0
      simp [o1', t1', cellsStr] at q1
      simp [o2', t2', cellsTs] at q2
      obtain ⟨k, e0, d0, w0⟩ := DataW.trod_int Tryz.underlying3 g0
      obtain ⟨s1, e1, d1, w1⟩ := DataW.trod_string Tryz.underlying9 g1
      obtain ⟨k2, e2, d2, w2⟩ := DataW.trod_int Tryz.underlying3 q0
      obtain ⟨s2, e3, d3, w3⟩ := DataW.trod_string Tryz.underlying9 q1
      obtain ⟨o, l, c, e4⟩ := slice_shape Tryz.underlying46 q2
      simp only [List.cons.injEq, and_true] at e0 e1 e2 e3
      subst e0 e1 e2 e3 e4
      exact ⟨k, s1, k2, s2, o, l, c, rfl, w0⟩
theorem fields_open {n len cap : Nat} {o : Option Addr} {y : DataW H × List MemPlace} (h : DataW.trod enc Tryz.prog W base sp held n 40 [.slice o len cap] = some y) (hsz : ∀ n ∈ y.1.weights Tryz.prog 40, n ≤ reachBytes) : ∃ F, Fx o len F W := by
  obtain ⟨hl, _, he⟩ := elems_open Tryz.underlying40 cellsField (by decide) h hsz
  obtain ⟨q, hq⟩ := Go.Deep.choose_lt (α := Int × ByteArray × Int × ByteArray × Option Addr × Nat × Nat) (n := len)
    (p := fun i q => ∃ a, o = some a ∧ a.block < W.heap.size ∧ (∀ k v, [Value.int .i64 q.1, .string q.2.1, .int .i64 q.2.2.1, .string q.2.2.2.1, .slice q.2.2.2.2.1 q.2.2.2.2.2.1 q.2.2.2.2.2.2][k]? = some v → W.cell? (a.add (i * 5 + k)) = some v) ∧ -9223372036854775808 ≤ q.1 ∧ q.1 ≤ 9223372036854775807) (fun i hi => by
      obtain ⟨a, cs, d, q, m, ho, hb, hc, _, ht, _⟩ := he i hi
      obtain ⟨k, s1, k2, s2, o', l, c, rfl, hw⟩ := field_open ht
      have := bounds_i64 hw
      exact ⟨(k, s1, k2, s2, o', l, c), a, ho, hb, hc, this.1, this.2⟩)
  exact ⟨⟨fun i => (q i).1, fun i => (q i).2.1, fun i => (q i).2.2.1, fun i => (q i).2.2.2.1, fun i => (q i).2.2.2.2.1, fun i => (q i).2.2.2.2.2.1, fun i => (q i).2.2.2.2.2.2⟩, hq, by unfold maxLen at hl; omega⟩
theorem methods_open {n len cap : Nat} {o : Option Addr} {y : DataW H × List MemPlace} (h : DataW.trod enc Tryz.prog W base sp held n 41 [.slice o len cap] = some y) (hsz : ∀ n ∈ y.1.weights Tryz.prog 41, n ≤ reachBytes) : ∃ M, Mx o len M W := by
  obtain ⟨hl, _, he⟩ := elems_open Tryz.underlying41 cellsMethod (by decide) h hsz
  obtain ⟨q, hq⟩ := Go.Deep.choose_lt (α := Int × ByteArray × ByteArray × ByteArray × Bool) (n := len)
    (p := fun i q => ∃ a, o = some a ∧ a.block < W.heap.size ∧ (∀ k v, [Value.int .i64 q.1, .string q.2.1, .string q.2.2.1, .string q.2.2.2.1, .bool q.2.2.2.2][k]? = some v → W.cell? (a.add (i * 5 + k)) = some v) ∧ q.2.1.size ≤ 140737488355327 ∧ q.2.2.1.size ≤ 140737488355327 ∧ q.2.2.2.1.size ≤ 140737488355327) (fun i hi => by
      obtain ⟨a, cs, d, q, m, ho, hb, hc, _, ht, hz⟩ := he i hi
      obtain ⟨k, s1, s2, s3, b, rfl, z1, z2, z3⟩ := method_open ht hz
      exact ⟨(k, s1, s2, s3, b), a, ho, hb, hc, z1, z2, z3⟩)
  exact ⟨⟨fun i => (q i).1, fun i => (q i).2.1, fun i => (q i).2.2.1, fun i => (q i).2.2.2.1, fun i => (q i).2.2.2.2⟩, hq, by unfold maxLen at hl; omega⟩
/-- One declaration's cells. -/
theorem decl_open {n : Nat} {cs : List Value} {y : DataW H × List MemPlace} (h : DataW.trod enc Tryz.prog W base sp held n 43 cs = some y) (hsz : ∀ n ∈ y.1.weights Tryz.prog 43, n ≤ reachBytes) :
    ∃ k s o1 l1 c1 o2 l2 c2 p, cs = [.int .i64 k, .string s, .slice o1 l1 c1, .slice o2 l2 c2, .int .i64 p] ∧ (Lit.int .i64 k).wf = true ∧ s.size ≤ 140737488355327 ∧ (∃ F, Fx o1 l1 F W) ∧ ∃ M, Mx o2 l2 M W := by
  obtain ⟨f0, f1, f2, f3, f4, hu, o0, o1, o2, o3, o4, t0, t1, t2, t3, t4⟩ := declFields
  obtain ⟨xs, m, _, rfl, hl, hlen, hf⟩ := DataW.trod_struct hu h
  rw [cellsDecl] at hl
  match xs, hlen, cs, hl with
  | [y0, y1, y2, y3, y4], _, [v0, v1, v2, v3, v4], _ =>
    have g0 := hf 0 f0 rfl
    have g1 := hf 1 f1 rfl
    have g2 := hf 2 f2 rfl
    have g3 := hf 3 f3 rfl
    have g4 := hf 4 f4 rfl
    simp [o0, t0, cellsInt] at g0
    simp [o1, t1, cellsStr] at g1
    simp [o2, t2, cellsFs] at g2
    simp [o3, t3, cellsMs] at g3
    simp [o4, t4, cellsInt] at g4
    obtain ⟨k, e0, d0, w0⟩ := DataW.trod_int Tryz.underlying3 g0
    obtain ⟨s, e1, d1, w1⟩ := DataW.trod_string Tryz.underlying9 g1
    obtain ⟨a1, l1, c1, rfl⟩ := slice_shape Tryz.underlying40 g2
    obtain ⟨a2, l2, c2, rfl⟩ := slice_shape Tryz.underlying41 g3
    obtain ⟨p, e4, d4, w4⟩ := DataW.trod_int Tryz.underlying3 g4
    simp only [List.cons.injEq, and_true] at e0 e1 e4
    subst e0 e1 e4
    subst d0 d1 d4
    have hz : ∀ n, n = s.data.toList.length ∨ n ∈ y2.1.weights Tryz.prog 40 ∨ n ∈ y3.1.weights Tryz.prog 41 → n ≤ reachBytes := fun n hn => hsz n (by
      simp only [DataW.weights, hu, List.map_cons, List.map_nil, DataW.weightsEach, t0, t1, t2, t3, t4, List.mem_append, List.mem_cons, List.not_mem_nil, or_false, false_or]
      exact hn)
    exact ⟨k, s, a1, l1, c1, a2, l2, c2, p, rfl, w0, reach_str (hz _ (.inl rfl)), fields_open g2 (fun n hn => hz n (.inr (.inl hn))), methods_open g3 (fun n hn => hz n (.inr (.inr hn)))⟩
end
theorem decls_open {H : Type} {enc : TypeId × Value → H} {W : World} {base : Nat} {v : Value} {d : DataW H} {ps : List MemPlace}
    (hval : Value.okWide Tryz.prog W .any base 22 v) (h : DataW.Trod enc Tryz.prog W 0 (fun _ => true) true 22 v d ps) (hsz : ∀ n ∈ d.weights Tryz.prog 22, n ≤ reachBytes) :
    ∃ o len cap D, v = .slice o len cap ∧ Dx o len D W ∧ ∀ i, i < len → (∃ F, Fx (D.fo i) (D.fl i) F W) ∧ ∃ M, Mx (D.mo i) (D.ml i) M W := by
  obtain ⟨o, len, cap, rfl⟩ := Go.WideShapes.okWide_slice Tryz.underlying22 hval
  obtain ⟨fuel, hf⟩ := h
  have hf' : DataW.trod enc Tryz.prog W 0 (fun _ => true) true fuel 22 [.slice o len cap] = some (d, ps) := by simpa [Value.cells] using hf
  obtain ⟨hl, hby, he⟩ := elems_open Tryz.underlying22 cellsDecl (by decide) hf' hsz
  rw [bytesDecl] at hby
  obtain ⟨q, hq⟩ := Go.Deep.choose_lt (α := Int × ByteArray × Option Addr × Nat × Nat × Option Addr × Nat × Nat × Int) (n := len)
    (p := fun i q => (∃ a, o = some a ∧ a.block < W.heap.size ∧ (∀ k v, [Value.int .i64 q.1, .string q.2.1, .slice q.2.2.1 q.2.2.2.1 q.2.2.2.2.1, .slice q.2.2.2.2.2.1 q.2.2.2.2.2.2.1 q.2.2.2.2.2.2.2.1, .int .i64 q.2.2.2.2.2.2.2.2][k]? = some v → W.cell? (a.add (i * 5 + k)) = some v) ∧ q.2.1.size ≤ 140737488355327 ∧ -9223372036854775808 ≤ q.1 ∧ q.1 ≤ 9223372036854775807) ∧
      (∃ F, Fx q.2.2.1 q.2.2.2.1 F W) ∧ ∃ M, Mx q.2.2.2.2.2.1 q.2.2.2.2.2.2.1 M W) (fun i hi => by
      obtain ⟨a, cs, d, q, m, ho, hb, hc, _, ht, hz⟩ := he i hi
      obtain ⟨k, s, o1, l1, c1, o2, l2, c2, p, rfl, hw, hs, hF, hM⟩ := decl_open ht hz
      have := bounds_i64 hw
      exact ⟨(k, s, o1, l1, c1, o2, l2, c2, p), ⟨a, ho, hb, hc, hs, this.1, this.2⟩, hF, hM⟩)
  have hr : reachBytes = 140737488351232 := rfl
  exact ⟨o, len, cap, ⟨fun i => (q i).1, fun i => (q i).2.1, fun i => (q i).2.2.1, fun i => (q i).2.2.2.1, fun i => (q i).2.2.2.2.1, fun i => (q i).2.2.2.2.2.1, fun i => (q i).2.2.2.2.2.2.1, fun i => (q i).2.2.2.2.2.2.2.1, fun i => (q i).2.2.2.2.2.2.2.2⟩, rfl,
    ⟨fun i hi => (hq i hi).1, by omega⟩, fun i hi => (hq i hi).2⟩
end Go.Proofs.YtdogddliifbjnaaGreat.Nm
