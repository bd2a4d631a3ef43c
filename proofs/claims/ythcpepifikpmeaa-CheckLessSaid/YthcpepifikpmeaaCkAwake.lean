/- The law's example: two schemas of one declaration. -/
import Derived.Test.YthcpepifikpmeaaCkAll
namespace Go.Proofs.Ythcpepifikpmeaa.Ck
open Go.RowKit Cm _root_.Go.Proofs.Ythcpepifikpmeaa.Nm
set_option linter.unusedVariables false
set_option linter.unusedSimpArgs false

def awT : Ty := .mk 6 ⟨#[80]⟩ none 0 []
def awU (g : Nat) : Ty := .mk 9 ⟨#[]⟩ (some ⟨g, 0, none⟩) 1 [awT]
def awF (t : Ty) : Fy := ⟨fun _ => 1, fun _ => ⟨#[112]⟩, fun _ => t⟩
def awM : Ml := ⟨fun _ => 0, fun _ => ⟨#[]⟩, fun _ => ⟨#[]⟩, fun _ => ⟨#[]⟩, fun _ => false⟩
def awD (f : Nat) : Dl := { K := fun _ => 1, S := fun _ => ⟨#[80]⟩, fo := fun _ => some ⟨f, 0, none⟩, fl := fun _ => 1, fc := fun _ => 1, mo := fun _ => none, ml := fun _ => 0, mc := fun _ => 0, A := fun _ => 0 }
theorem aw_deep (f : Nat) : ckE (awD f) (fun _ => awF awT) (fun _ => awM) 1 = 10 := by
  have : ∀ (f : Nat), ckE (awD f) (fun _ => awF awT) (fun _ => awM) 1 = 10 := fun f => by kernel_rfl
  exact this f
theorem aw_fine (f g : Nat) : ckE (awD f) (fun _ => awF (awU g)) (fun _ => awM) 1 = 0 := by
  have : ∀ (f : Nat), ckE (awD f) (fun _ => awF (awU g)) (fun _ => awM) 1 = 0 := fun f => by kernel_rfl
  exact this f
theorem add0 (g n : Nat) : (⟨g, 0, none⟩ : Addr).add n = ⟨g, n, none⟩ := by unfold Addr.add; split <;> simp_all
theorem dx_one {g : Nat} {D : Dl} {w : World} (h : Cs g (D.at5 0) w) (hs : (D.S 0).size ≤ 140737488355327) (h1 : -9223372036854775808 ≤ D.K 0) (h2 : D.K 0 ≤ 9223372036854775807) : Dx (some ⟨g, 0, none⟩) 1 D w := by
  refine ⟨fun i hi => ⟨_, rfl, h.lt, fun k v hk => ?_, ?_⟩, by omega⟩
  · obtain rfl : i = 0 := by omega
    rw [add0, Nat.zero_mul, Nat.zero_add]
    exact h.cell hk
  · obtain rfl : i = 0 := by omega
    exact ⟨hs, h1, h2⟩
theorem yx_one {g : Nat} {F : Fy} {w : World} (h : Cs g (F.fl.at5 0) w) (ht : TyIn w (F.Y 0)) (hs : (F.N 0).size ≤ 140737488355327) (h1 : -9223372036854775808 ≤ F.T 0) (h2 : F.T 0 ≤ 9223372036854775807) : Yx (some ⟨g, 0, none⟩) 1 F w := by
  refine ⟨⟨fun i hi => ⟨_, rfl, h.lt, fun k v hk => ?_, ?_⟩, by omega⟩, fun i hi => ?_⟩
  · obtain rfl : i = 0 := by omega
    rw [add0, Nat.zero_mul, Nat.zero_add]
    exact h.cell hk
  · obtain rfl : i = 0 := by omega
    exact ⟨h1, h2⟩
  · obtain rfl : i = 0 := by omega
    exact ⟨ht, hs⟩
theorem mx_none {M : Ml} {w : World} : Mx none 0 M w := ⟨fun i hi => by omega, by omega⟩
theorem awT_in (w : World) : TyIn w awT := .mk 6 ⟨#[80]⟩ none 0 [] (by decide) (by decide) (by decide) (fun i t h => by simp at h) (fun i t h => by simp at h)
theorem awU_in {g : Nat} {w : World} (h : Cs g awT.at3 w) : TyIn w (awU g) := by
  refine .mk 9 ⟨#[]⟩ (some ⟨g, 0, none⟩) 1 [awT] (by decide) (by decide) (by decide) (fun i t hi => ?_) (fun i t hi => ?_)
  · match i, hi with
    | 0, hi =>
      obtain rfl : awT = t := by simpa using hi
      exact ⟨_, rfl, h.lt, fun j v hv => by rw [add0, Nat.zero_mul, Nat.zero_add]; exact h.cell hv⟩
    | i + 1, hi => simp at hi
  · match i, hi with
    | 0, hi =>
      obtain rfl : awT = t := by simpa using hi
      exact awT_in w
    | i + 1, hi => simp at hi
theorem ax_one {d f : Nat} {t : Ty} {w : World} (hd : Cs d ((awD f).at5 0) w) (hf : Cs f ((awF t).fl.at5 0) w) (ht : TyIn w t) : Ax (some ⟨d, 0, none⟩) 1 (awD f) (fun _ => awF t) (fun _ => awM) w :=
  ⟨dx_one hd (show ByteArray.size ⟨#[80]⟩ ≤ 140737488355327 from by decide) (show (-9223372036854775808 : Int) ≤ 1 from by decide) (show (1 : Int) ≤ 9223372036854775807 from by decide),
    fun i hi => ⟨yx_one hf ht (show ByteArray.size ⟨#[112]⟩ ≤ 140737488355327 from by decide) (show (-9223372036854775808 : Int) ≤ 1 from by decide) (show (1 : Int) ≤ 9223372036854775807 from by decide), mx_none⟩⟩
theorem sml_one (f : Nat) (t : Ty) (h : dpT t ≤ 21) : Sml (awD f) (fun _ => awF t) 1 := ⟨by omega, fun i hi => by show 1 ≤ 30; omega, fun i hi => by show 0 ≤ 30; omega, fun i k hi hk => h⟩

theorem aw_all (w W : World) (hW : W = (((((w.alloc (.cells #[.int .i64 6, .string ⟨#[80]⟩, .slice none 0 0] 38)).alloc
      (.cells #[.int .i64 1, .string ⟨#[112]⟩, .int .i64 6, .string ⟨#[80]⟩, .slice none 0 0] 40)).alloc
      (.cells #[.int .i64 1, .string ⟨#[80]⟩, .slice (some ⟨w.heap.size + 1, 0, none⟩) 1 1, .slice none 0 0, .int .i64 0] 34)).alloc
      (.cells #[.int .i64 6, .string ⟨#[80]⟩, .slice none 0 0] 38)).alloc
      (.cells #[.int .i64 1, .string ⟨#[112]⟩, .int .i64 9, .string ⟨#[]⟩, .slice (some ⟨w.heap.size + 1 + 1 + 1, 0, none⟩) 1 1] 40)).alloc
      (.cells #[.int .i64 1, .string ⟨#[80]⟩, .slice (some ⟨w.heap.size + 1 + 1 + 1 + 1, 0, none⟩) 1 1, .slice none 0 0, .int .i64 0] 34)) :
    Ax (some ⟨w.heap.size + 1 + 1, 0, none⟩) 1 (awD (w.heap.size + 1)) (fun _ => awF awT) (fun _ => awM) W ∧ Ax (some ⟨w.heap.size + 1 + 1 + 1 + 1 + 1, 0, none⟩) 1 (awD (w.heap.size + 1 + 1 + 1 + 1)) (fun _ => awF (awU (w.heap.size + 1 + 1 + 1))) (fun _ => awM) W ∧ Below w.heap.size w W := by
  generalize hA : Obj.cells #[.int .i64 6, .string ⟨#[80]⟩, .slice none 0 0] 38 = oA at hW
  have s : ∀ (w : World) (o : Obj), (w.alloc o).heap.size = w.heap.size + 1 := fun w o => by simp
  have c1 := Cs.new (w.alloc oA) ((awF awT).fl.at5 0) 40
  have c2 := Cs.new ((w.alloc oA).alloc (.cells ((awF awT).fl.at5 0).toArray 40)) ((awD (w.heap.size + 1)).at5 0) 34
  have c3 := Cs.new (((w.alloc oA).alloc (.cells ((awF awT).fl.at5 0).toArray 40)).alloc (.cells ((awD (w.heap.size + 1)).at5 0).toArray 34)) awT.at3 38
  have c4 := Cs.new ((((w.alloc oA).alloc (.cells ((awF awT).fl.at5 0).toArray 40)).alloc (.cells ((awD (w.heap.size + 1)).at5 0).toArray 34)).alloc (.cells awT.at3.toArray 38)) ((awF (awU (w.heap.size + 1 + 1 + 1))).fl.at5 0) 40
  have c5 := Cs.new (((((w.alloc oA).alloc (.cells ((awF awT).fl.at5 0).toArray 40)).alloc (.cells ((awD (w.heap.size + 1)).at5 0).toArray 34)).alloc (.cells awT.at3.toArray 38)).alloc (.cells ((awF (awU (w.heap.size + 1 + 1 + 1))).fl.at5 0).toArray 40)) ((awD (w.heap.size + 1 + 1 + 1 + 1)).at5 0) 34
  have hW2 : W = (((((w.alloc oA).alloc (.cells ((awF awT).fl.at5 0).toArray 40)).alloc (.cells ((awD (w.heap.size + 1)).at5 0).toArray 34)).alloc (.cells awT.at3.toArray 38)).alloc (.cells ((awF (awU (w.heap.size + 1 + 1 + 1))).fl.at5 0).toArray 40)).alloc (.cells ((awD (w.heap.size + 1 + 1 + 1 + 1)).at5 0).toArray 34) := by
    rw [hW, ← hA]; rfl
  simp only [s] at c1 c2 c3 c4 c5
  have b : Below w.heap.size w W := by
    rw [hW2]
    exact ((((((Below.refl w.heap.size w).alloc (Nat.le_refl _) _).alloc (by simp only [s]; omega) _).alloc (by simp only [s]; omega) _).alloc (by simp only [s]; omega) _).alloc (by simp only [s]; omega) _).alloc (by simp only [s]; omega) _
  rw [hW2] at b ⊢
  refine ⟨ax_one ((((c2.alloc _).alloc _).alloc _)) (((((c1.alloc _).alloc _).alloc _).alloc _)) (awT_in _), ax_one c5 (c4.alloc _) (awU_in ((c3.alloc _).alloc _)), b⟩

theorem fld0 (a b : Int) (w : World) : (Instr.field 29 (.agg #[.int .i64 a, .int .i64 b]) 0).run Try.prog w = .ok (.int .i64 a) w := by kernel_rfl
set_option maxRecDepth 100000 in
set_option maxHeartbeats 4000000 in
theorem awake_any (w : World) :
    Calls Try.prog 6 #[] w fun e w' => e = .returned (.bool true) ∧ Below w.heap.size w w' := by
  obtain ⟨h1, h2, h3⟩ := aw_all w _ rfl
  have H1 := Lib.hid h1
  have H2 := Lib.hid h2
  have H3 := Lib.hid h3
  have ha : ∀ (w' : World), Ax (some ⟨w.heap.size + 1 + 1, 0, none⟩) 1 (awD (w.heap.size + 1)) (fun _ => awF awT) (fun _ => awM) w' → Calls Try.prog 9 #[.slice (some ⟨w.heap.size + 1 + 1, 0, none⟩) 1 1] w' fun e w2 => ∃ p, e = .returned (.agg #[.int .i64 10, .int .i64 p]) ∧ Below w'.heap.size w' w2 := fun w' h => by
    have := check_any (some ⟨w.heap.size + 1 + 1, 0, none⟩) 1 1 (awD (w.heap.size + 1)) (fun _ => awF awT) (fun _ => awM) w' h (sml_one _ awT (by decide))
    rw [aw_deep] at this
    exact this
  have hb : ∀ (w' : World), Ax (some ⟨w.heap.size + 1 + 1 + 1 + 1 + 1, 0, none⟩) 1 (awD (w.heap.size + 1 + 1 + 1 + 1)) (fun _ => awF (awU (w.heap.size + 1 + 1 + 1))) (fun _ => awM) w' → Calls Try.prog 9 #[.slice (some ⟨w.heap.size + 1 + 1 + 1 + 1 + 1, 0, none⟩) 1 1] w' fun e w2 => ∃ p, e = .returned (.agg #[.int .i64 0, .int .i64 p]) ∧ Below w'.heap.size w' w2 := fun w' h => by
    have := check_any (some ⟨w.heap.size + 1 + 1 + 1 + 1 + 1, 0, none⟩) 1 1 (awD (w.heap.size + 1 + 1 + 1 + 1)) (fun _ => awF (awU (w.heap.size + 1 + 1 + 1))) (fun _ => awM) w' h (sml_one _ (awU _) (by show 2 ≤ 21; omega))
    rw [aw_fine] at this
    exact this
  have HA := Lib.hid ha
  have HBb := Lib.hid hb
  clear h1 h2 h3 ha hb
  have hfd := fld0
  go_enter Try.func6, Try.ntmps6
  go_wp2_with (first
    | (go_at_call 9; refine (HBb.out _ (H2.out.below hb1 (Nat.le_refl _))).mono ?_; rintro e w2 ⟨p2, rfl, hb2⟩)
    | (go_at_call 9; refine (HA.out _ H1.out).mono ?_; rintro e w1 ⟨p1, rfl, hb1⟩))
  go_ret
  exact ⟨rfl, (H3.out.trans (hb1.mono H3.out.size)).trans (hb2.mono (H3.out.trans (hb1.mono H3.out.size)).size)⟩
end Go.Proofs.Ythcpepifikpmeaa.Ck
