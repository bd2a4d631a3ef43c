/- Texts: a byte at a place, sixteen bits in two bytes; the contracts of the reference's Byte and of strings.Clone over the program. For every package. -/
import Derived.Test.YthgaipdhgckmdaaDoorCm
import Derived.Test.YthgaipdhgckmdaaDoorCmB
import Derived.Laws.BytesArg
import Derived.Laws.BitsAllLaws
namespace Go.Proofs.YthgaipdhgckmdaaDoor.Cm
open Go.RowKit
set_option linter.unusedVariables false
set_option linter.unusedSimpArgs false

theorem ret_int {k : IntKind} {a b : Int} (h : a = b) : Ending.returned (.int k a) = .returned (.int k b) := by rw [h]
theorem ret_bool {a b : Bool} (h : a = b) : Ending.returned (.bool a) = .returned (.bool b) := by rw [h]
theorem ret_str {a b : ByteArray} (h : a = b) : Ending.returned (.string a) = .returned (.string b) := by rw [h]
theorem str_eq {a b : ByteArray} {k : IntKind} {e : Int} (h : a = b) : Ending.returned (.tuple #[.string a, .int k e]) = .returned (.tuple #[.string b, .int k e]) := by rw [h]

/-- Two texts held against each other, as the walk writes it. -/
theorem txt_ne {a b : ByteArray} (h : ¬ a = b) : (!a.toList == b.toList) = true := by
  have h2 : ¬ a.toList = b.toList := fun e => h (bytes_eq (by rw [← ByteArray.toList_eq, ← ByteArray.toList_eq, e]))
  simp [h2]
theorem txt_neq {a b : ByteArray} (h : ¬ a = b) : (a.toList == b.toList) = false := by
  have h2 : ¬ a.toList = b.toList := fun e => h (bytes_eq (by rw [← ByteArray.toList_eq, ← ByteArray.toList_eq, e]))
  simp [h2]
/-- How long is a text that a slot holds? (a loop's measure) -/
def szOf : Value → Nat | .string s => s.size | _ => 0
/-- A text's byte at a place. -/
def bt (s : ByteArray) (i : Nat) : Nat := (s.data.toList.getD i 0).toNat
theorem bt_lt (s : ByteArray) (i : Nat) : bt s i < 256 := UInt8.toNat_lt _
theorem bt_at (s : ByteArray) (i : Nat) (h : i < s.size) : s[i].toNat = bt s i := by
  unfold bt
  have h2 : i < s.data.toList.length := by simpa using h
  rw [List.getD, List.getElem?_eq_getElem h2]
  rfl
theorem u8n (n : Nat) (h : n < 256) : (UInt8.ofNat n).toNat = n := by simp; omega
theorem bt_app (a b : ByteArray) (i : Nat) (h : i < a.size) : bt (a ++ b) i = bt a i := by
  unfold bt
  rw [app_list, List.getD, List.getD, List.getElem?_append_left (by rw [len_list]; exact h)]
theorem bt_ext (a : ByteArray) (m i : Nat) (h : i < m) : bt (a.extract 0 m) i = bt a i := by
  unfold bt
  rw [ext_list, List.drop_zero, Nat.sub_zero, List.getD, List.getD, List.getElem?_take, if_pos h]

/-- h bytes of 256, and l. -/
theorem or_low (h l : Nat) (hh : h < 256) (hl : l < 256) : bits BinOp.or IntKind.i64 ((h : Int) * 256) (l : Int) = (h : Int) * 256 + (l : Int) := by
  show IntKind.i64.wrap ((BitVec.ofInt 64 ((h : Int) * 256) ||| BitVec.ofInt 64 (l : Int)).toNat : Int) = _
  have e : (h : Int) * 256 = ((h * 256 : Nat) : Int) := by omega
  rw [e, BitVec.toNat_or, ofInt_u64 _ (by omega), ofInt_u64 _ (by omega), nat_join 8 (h * 256) l (Nat.mul_mod_left _ _) (by omega), IntWalk.i64_in _ (by omega)]
  omega

theorem byte_conv (n : Int) (w : World) : (convert 34 9 (.slice (some ⟨w.heap.size, 0, none⟩) 1 1)).run Tryd.prog (w.alloc (.cells #[.int .u8 n] 5)) = .ok (.string ⟨#[UInt8.ofNat n.toNat]⟩) (w.alloc (.cells #[.int .u8 n] 5)) := by
  have h := run_convert_bytes_arg (P := Tryd.prog) (w.alloc (.cells #[.int .u8 n] 5)) 34 5 Tryd.underlying34 Tryd.underlying5 w.heap.size 0 1 1 [n] rfl (fun i hi => by
    obtain rfl : i = 0 := by omega
    rw [Nat.add_zero, World.cell?_alloc_at _ _ _ _ rfl]; rfl) 9 Tryd.underlying9
  rw [h]; rfl
theorem byte_any (n : Int) (w : World) (h1 : 0 ≤ n) (h2 : n ≤ 255) :
    Calls Tryd.prog 54 #[.int .i64 n] w fun e w' => e = .returned (.string ⟨#[UInt8.ofNat n.toNat]⟩) ∧ Below w.heap.size w w' := by
  have hcv := byte_conv n w
  go_enter Tryd.func54, Tryd.ntmps54
  go_wp2
  go_ret
  exact ⟨rfl, (Below.refl _ _).alloc (Nat.le_refl _) _⟩
end Go.Proofs.YthgaipdhgckmdaaDoor.Cm
