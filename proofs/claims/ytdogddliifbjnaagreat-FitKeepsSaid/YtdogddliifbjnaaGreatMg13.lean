/- Schemas: the rows are put in order once: sync.Once, one goroutine, the lock free. -/
import Derived.Tactics
import Derived.Tactics2
import Derived.Defers
import Derived.Laws.Pointers
import Derived.Laws.LoneSync
import Derived.RegionTactic
import Derived.RegionCalls
import Derived.ChangeAlike
import Derived.Test.YtdogddliifbjnaaGreatMg12
namespace Go.Proofs.YtdogddliifbjnaaGreat.Ck
open Go.RowKit Cm
open _root_.Go.Proofs.YtdogddliifbjnaaGreat.Nm
set_option linter.unusedVariables false
set_option linter.unusedSimpArgs false

theorem disable (w : World) : (callFunc 140 #[]).run Tryz.prog w = .ok (.value (.tuple #[])) w := run_call_mark0 Tryz.func140 (by kernel_rfl) (by kernel_rfl) (by kernel_rfl) .disable (by kernel_rfl) w
theorem enable (w : World) : (callFunc 142 #[]).run Tryz.prog w = .ok (.value (.tuple #[])) w := run_call_mark0 Tryz.func142 (by kernel_rfl) (by kernel_rfl) (by kernel_rfl) .enable (by kernel_rfl) w
theorem acquire (a : Addr) (w : World) : (callFunc 143 #[.pointer (some a)]).run Tryz.prog w = .ok (.value (.tuple #[])) w := run_call_marked Tryz.func143 (by kernel_rfl) (by kernel_rfl) (by kernel_rfl) .acquire (by kernel_rfl) a w
theorem releaseMerge (a : Addr) (w : World) : (callFunc 145 #[.pointer (some a)]).run Tryz.prog w = .ok (.value (.tuple #[])) w := run_call_marked Tryz.func145 (by kernel_rfl) (by kernel_rfl) (by kernel_rfl) .releaseMerge (by kernel_rfl) a w

theorem store_deferred (a : Addr) (x : Value) (u : FrameMode) (w : World) (hc : w.cell? a = some x) (hz : w.frozen? a = false) :
    CallsD Tryz.prog 110 #[.pointer (some a), .bool true] u w fun e u' w' => u' = u ∧ (e = .returned (.tuple #[]) ∧ w' = w.drew.setCell a (.int .u32 1)) := by
  have hc' : w.drew.cell? a = some x := by go_simp
  have hz' : w.drew.frozen? a = false := by go_simp
  have hst := run_call_store (P := Tryz.prog) Tryz.func123 (by kernel_rfl) (by kernel_rfl) (by kernel_rfl) (by kernel_rfl) (k := .u32) (y := 1) hc' hz'
  go_enter_d Tryz.func110, Tryz.ntmps110
  go_wp2
  go_region_calls
  all_goals (go_end0; exact ⟨rfl, rfl⟩)

set_option maxRecDepth 100000 in
set_option maxHeartbeats 2000000 in
theorem unlock_deferred (a : Addr) (u : FrameMode) (w : World) (hc : w.cell? a = some (.int .i32 1)) (hz : w.frozen? a = false) :
    CallsD Tryz.prog 109 #[.pointer (some a)] u w fun e u' w' => u' = u ∧ (e = .returned (.tuple #[]) ∧ w' = w.setCell a (.int .i32 0)) := by
  have hd := disable
  have he := enable
  have hr := releaseMerge
  have hadd := run_call_add (P := Tryz.prog) Tryz.func146 (by kernel_rfl) (by kernel_rfl) (by kernel_rfl) .i32 (by kernel_rfl) (y := -1) (s := 0) hc hz (by simp [go_sem]; rfl)
  have hcv := run_convert_to_unsafe (P := Tryz.prog) (src := 223) (dst := 227) Tryz.underlying223 Tryz.underlying227 (by kernel_rfl) hc
  go_enter_d Tryz.func109, Tryz.ntmps109
  go_wp2
  go_end0
  exact ⟨rfl, rfl⟩

set_option maxRecDepth 100000 in
set_option maxHeartbeats 2000000 in
theorem lock_free (a : Addr) (w : World) (hc : w.cell? a = some (.int .i32 0)) (hz : w.frozen? a = false) :
    Calls Tryz.prog 108 #[.pointer (some a)] w fun e w' => e = .returned (.tuple #[]) ∧ w' = w.setCell a (.int .i32 1) := by
  have hd := disable
  have he := enable
  have ha := acquire
  have hcas := run_call_cas_hit (P := Tryz.prog) Tryz.func141 (by kernel_rfl) (by kernel_rfl) (by kernel_rfl) .i32 (by kernel_rfl) (y := 1) hc hz
  have hc' : (w.setCell a (.int .i32 1)).cell? a = some (.int .i32 1) := World.cell?_setCell_same w a _ hc
  have hcv := run_convert_to_unsafe (P := Tryz.prog) (src := 223) (dst := 227) Tryz.underlying223 Tryz.underlying227 (by kernel_rfl) hc'
  go_enter Tryz.func108, Tryz.ntmps108
  go_wp2
  first | go_end0 | (simp only [Exit.inBlock, Exit.then]; refine bodyPost_ret (results_none rfl _ _ _) rfl ?_) | refine bodyPost_ret (results_none rfl _ _ _) rfl ?_
  exact ⟨rfl, rfl⟩
/-- A schema's own block: declarations, table, what Once holds, rows. -/
def Bc (B : Nat) (o : Option Addr) (n c : Nat) (T : Nat) (d s : Int) (r : Option Nat) (w : World) : Prop := Cs B [.slice o n c, .pointer (some ⟨T, 0, none⟩), .int .u32 d, .int .i32 s, .int .u32 0, .map r] w
set_option maxRecDepth 100000 in
set_option maxHeartbeats 4000000 in
theorem slow_any (F : Nat → Bool) (B : Nat) (o : Option Addr) (c T : Nat) (X : Nat → Dz) (U : Nat → Nat → Fz) (V : Nat → Nat → Mz) (L : Sc) (w : World) (hok : L.ok) (hD : Ds o L.n X U V (cut F w))
    (hL : ∀ i, i < L.n → (X i).S = L.S i ∧ L.R i = rowL (U i) (X i).fl) (hC : Bc B o L.n c T 0 0 none w) (hFB : F B = true) (hF : ∀ k, F k = true → k < w.heap.size) :
    Calls Tryz.prog 91 #[.pointer (some ⟨B, 2, none⟩), .func (.func 68) #[.pointer (some ⟨B, 0, none⟩)] #[]] w fun e w' => e = .returned (.tuple #[]) ∧ ∃ m, Bc B o L.n c T 1 0 (some m) w' ∧ Rm m L (cut F w') ∧ Be (fun k => decide (k = B)) w w' := by
  have c3 := hC.cell (i := 3) rfl
  have f3 := hC.frozen (i := 3) rfl
  have hC1 : Bc B o L.n c T 0 1 none (w.setCell ⟨B, 3, none⟩ (.int .i32 1)) := hC.put (i := 3) (.int .i32 1)
  have k2 := hC1.cell (i := 2) rfl
  have hl := run_call_load (P := Tryz.prog) Tryz.func107 (by kernel_rfl) (by kernel_rfl) (by kernel_rfl) .u32 (by kernel_rfl) (w := w.setCell ⟨B, 3, none⟩ (.int .i32 1)) (a := ⟨B, 2, none⟩) (x := 0) k2
  have hBE : Be (fun k => decide (k = B)) w (w.setCell ⟨B, 3, none⟩ (.int .i32 1)) := (Be.refl _ w).setCell (.inl (by simp)) _
  have hD1 : Ds o L.n X U V (cut F (w.setCell ⟨B, 3, none⟩ (.int .i32 1))) := hD.below (by rw [cut_size]; exact hBE.wide (fun k hk h => by obtain rfl : k = B := (by simpa using h); exact hFB))
  have hF1 : ∀ k, F k = true → k < (w.setCell ⟨B, 3, none⟩ (.int .i32 1)).heap.size := fun k hk => by have := hF k hk; simpa [World.setCell] using this
  have HC1 := Lib.hid hC1
  have HBE := Lib.hid hBE
  have HD1 := Lib.hid hD1
  have HF1 := Lib.hid hF1
  have HL := Lib.hid hL
  have HOK := Lib.hid hok
  have HFB := Lib.hid hFB
  have hnot : ∀ (x : Bool) (w : World), (Op.unary .not (.bool x)).run Tryz.prog w = .ok (.bool (!x)) w := fun _ _ => rfl
  clear hC hC1 hBE hD hD1 hF hF1 hL hok k2 hFB
  go_enter_defers Tryz.func91, Tryz.ntmps91
  go_wp2_with (first
    | (go_at_call 108; go_loud (refine (lock_free ⟨B, 3, none⟩ _ c3 f3).mono ?_; rintro e w' ⟨rfl, rfl⟩))
    | (go_at_call 90; go_in)
    | (go_at_call 68; go_loud (refine (order_any F B o c (.pointer (some ⟨T, 0, none⟩)) (.int .u32 0) (.int .i32 1) (.int .u32 0) (.map none) X U V L _ HOK.out HD1.out HL.out HC1.out HFB.out HF1.out).mono ?_; rintro e w3 ⟨rfl, m, hC3, hR3, hB3⟩; have HC3 := Lib.hid hC3; have HR3 := Lib.hid hR3; have HB3 := Lib.hid hB3; clear hC3 hR3 hB3)))
  have hC4 : Cs B [.slice o L.n c, .pointer (some ⟨T, 0, none⟩), .int .u32 1, .int .i32 1, .int .u32 0, .map (some m)] (w3.drew.setCell ⟨B, 2, none⟩ (.int .u32 1)) := HC3.out.drew.put (i := 2) (.int .u32 1)
  have hC5 : Bc B o L.n c T 1 0 (some m) ((w3.drew.setCell ⟨B, 2, none⟩ (.int .u32 1)).setCell ⟨B, 3, none⟩ (.int .i32 0)) := hC4.put (i := 3) (.int .i32 0)
  have hB5 : Be (fun k => decide (k = B)) w ((w3.drew.setCell ⟨B, 2, none⟩ (.int .u32 1)).setCell ⟨B, 3, none⟩ (.int .i32 0)) := (((HBE.out.trans HB3.out).drew).setCell (.inl (by simp)) _).setCell (.inl (by simp)) _
  have hB35 : Be F w3 ((w3.drew.setCell ⟨B, 2, none⟩ (.int .u32 1)).setCell ⟨B, 3, none⟩ (.int .i32 0)) := (((Be.refl F w3).drew).setCell (.inl HFB.out) _).setCell (.inl HFB.out) _
  have hR5 : Rm m L (cut F ((w3.drew.setCell ⟨B, 2, none⟩ (.int .u32 1)).setCell ⟨B, 3, none⟩ (.int .i32 0))) := HR3.out.sub (Sub.of_below (by rw [cut_size]; exact hB35))
  refine leaves_cons (f := 110) (args := #[.pointer (some ⟨B, 2, none⟩), .bool true]) (by simp) (by simp [go_sem]) ?_
  refine (store_deferred ⟨B, 2, none⟩ (.int .u32 0) .returning _ (HC3.out.cell (i := 2) rfl) (HC3.out.frozen (i := 2) rfl)).mono ?_
  rintro e u' w'' ⟨rfl, rfl, rfl⟩
  refine leaves_cons (f := 109) (args := #[.pointer (some ⟨B, 3, none⟩)]) (by simp [settle]) (by simp [go_sem]) ?_
  refine (unlock_deferred ⟨B, 3, none⟩ _ _ (hC4.cell (i := 3) rfl) (hC4.frozen (i := 3) rfl)).mono ?_
  rintro e u' w'' ⟨rfl, rfl, rfl⟩
  have HF := And.intro hC5 (And.intro hR5 hB5)
  clear hC4 hC5 hB5 hB35 hR5
  simp only [Leaves, settle, results, Tryz.results91]
  simp
  exact ⟨m, HF⟩
set_option maxRecDepth 100000 in
set_option maxHeartbeats 4000000 in
theorem do_first (F : Nat → Bool) (B : Nat) (o : Option Addr) (c T : Nat) (X : Nat → Dz) (U : Nat → Nat → Fz) (V : Nat → Nat → Mz) (L : Sc) (w : World) (hok : L.ok) (hD : Ds o L.n X U V (cut F w))
    (hL : ∀ i, i < L.n → (X i).S = L.S i ∧ L.R i = rowL (U i) (X i).fl) (hC : Bc B o L.n c T 0 0 none w) (hFB : F B = true) (hF : ∀ k, F k = true → k < w.heap.size) :
    Calls Tryz.prog 67 #[.pointer (some ⟨B, 2, none⟩), .func (.func 68) #[.pointer (some ⟨B, 0, none⟩)] #[]] w fun e w' => e = .returned (.tuple #[]) ∧ ∃ m, Bc B o L.n c T 1 0 (some m) w' ∧ Rm m L (cut F w') ∧ Be (fun k => decide (k = B)) w w' := by
  have k2 := hC.cell (i := 2) rfl
  have hl := run_call_load (P := Tryz.prog) Tryz.func107 (by kernel_rfl) (by kernel_rfl) (by kernel_rfl) .u32 (by kernel_rfl) k2
  have hnot : ∀ (x : Bool) (w : World), (Op.unary .not (.bool x)).run Tryz.prog w = .ok (.bool (!x)) w := fun _ _ => rfl
  have HS := Lib.hid (slow_any F B o c T X U V L w hok hD hL hC hFB hF)
  clear hok hD hL hC hFB hF
  go_enter Tryz.func67, Tryz.ntmps67
  go_wp2_with (first | (go_at_call 91; go_loud (refine HS.out.mono ?_; rintro e w' ⟨rfl, hx⟩)) | (go_at_call 90; go_in))
  go_end0
  exact ⟨rfl, hx⟩
set_option maxRecDepth 100000 in
set_option maxHeartbeats 4000000 in
theorem do_done (a : Addr) (fv : Value) (w : World) (h0 : w.cell? a = some (.int .u32 1)) :
    Calls Tryz.prog 67 #[.pointer (some a), fv] w fun e w' => e = .returned (.tuple #[]) ∧ w' = w := by
  have hl := run_call_load (P := Tryz.prog) Tryz.func107 (by kernel_rfl) (by kernel_rfl) (by kernel_rfl) .u32 (by kernel_rfl) h0
  have hnot : ∀ (x : Bool) (w : World), (Op.unary .not (.bool x)).run Tryz.prog w = .ok (.bool (!x)) w := fun _ _ => rfl
  go_enter Tryz.func67, Tryz.ntmps67
  go_wp2
  go_end0
  exact ⟨rfl, rfl⟩
end Go.Proofs.YtdogddliifbjnaaGreat.Ck
