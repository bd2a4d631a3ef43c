/- check's free: the slice of those that wait for nothing. -/
import Derived.Test.YthcpepifikpmeaaCkNeed
namespace Go.Proofs.Ythcpepifikpmeaa.Ck
open Go.RowKit Cm _root_.Go.Proofs.Ythcpepifikpmeaa.Nm
set_option linter.unusedVariables false
set_option linter.unusedSimpArgs false

theorem infoInt : ∃ i z, Try.prog.info? 3 = some i ∧ i.zero = some z ∧ i.size = 1 ∧ i.bytes = 8 ∧ z.cells.size = 1 := by
  obtain ⟨i, hi, he⟩ := Option.map_eq_some_iff.1 infoIntE
  simp only [Prod.mk.injEq] at he
  exact ⟨i, _, hi, he.1, he.2.1, he.2.2, rfl⟩
/-- Numbers as cells. -/
def inC (l : List Nat) : List Value := l.map fun j => .int .i64 (j : Nat)
theorem inC_len (l : List Nat) : (inC l).length = l.length := List.length_map _
theorem inC_app (a b : List Nat) : inC (a ++ b) = inC a ++ inC b := List.map_append
theorem inC_cells (l : List Nat) : ∀ z ∈ inC l, z.oneCell' = true := by
  intro z hz
  obtain ⟨j, _, rfl⟩ := List.mem_map.1 hz
  rfl
theorem inC_at {l : List Nat} {i j : Nat} (h : l[i]? = some j) : (inC l)[i]? = some (.int .i64 (j : Nat)) := by
  unfold inC; rw [List.getElem?_map, h]; rfl
/-- A slice of numbers of the call's own. -/
def Ri (B : Nat) (v : Value) (l : List Nat) (w : World) : Prop := Rw 3 1 B v l.length (inC l) w
theorem Ri.nil (B : Nat) (w : World) : Ri B (.slice none 0 0) [] w := Rw.nil _ 1 B w

/-- Those of the first n that are 0. -/
def fzL (L : Nat → Int) (n : Nat) : List Nat := (List.range n).filter fun j => decide (L j = 0)
theorem fz_hit {L : Nat → Int} {n : Nat} (h : L n = 0) : fzL L (n + 1) = fzL L n ++ [n] := by
  unfold fzL; rw [List.range_succ, List.filter_append]; simp [h]
theorem fz_miss {L : Nat → Int} {n : Nat} (h : ¬ L n = 0) : fzL L (n + 1) = fzL L n := by
  unfold fzL; rw [List.range_succ, List.filter_append]; simp [h]
theorem fz_le (L : Nat → Int) (n : Nat) : (fzL L n).length ≤ n := by
  have := List.length_filter_le (fun j => decide (L j = 0)) (List.range n)
  rw [List.length_range] at this; exact this
theorem fz_mem (L : Nat → Int) (n j : Nat) : j ∈ fzL L n ↔ j < n ∧ L j = 0 := by
  unfold fzL; rw [List.mem_filter, List.mem_range, decide_eq_true_eq]
theorem fz_nodup (L : Nat → Int) (n : Nat) : (fzL L n).Nodup := List.Pairwise.filter _ List.nodup_range

def Li (b n : Nat) (L : Nat → Int) (w : World) : Prop := w.rowIs b 3 n (fun j => .int .i64 (L j))

set_option maxRecDepth 100000 in
set_option maxHeartbeats 2000000 in
theorem free_any (lb n bl bc : Nat) (ob : Option Addr) (L : Nat → Int) (w : World) (hn : n ≤ 1759218604441) (h : Li lb n L w) :
    Calls Try.prog 12 #[.agg #[.slice (some ⟨lb, 0, none⟩) n n, .slice ob bl bc]] w fun e w' => ∃ v, e = .returned v ∧ Ri w.heap.size v (fzL L n) w' ∧ Below w.heap.size w w' := by
  have hn2 : n ≤ 9223372036854775807 := by omega
  have HB0 := Lib.hid ((Below.refl w.heap.size w).alloc (Nat.le_refl _) (.cells #[.slice (some ⟨lb, 0, none⟩) n n, .slice ob bl bc] 44))
  have HS0 : Hid (w.heap.size + 1 ≤ (w.alloc (.cells #[.slice (some ⟨lb, 0, none⟩) n n, .slice ob bl bc] 44)).heap.size) := Lib.hid (by simp)
  have H := Lib.hid h
  clear h
  go_enter Try.func12, Try.ntmps12
  go_wp2
  go_loopw [3, 9] (fun u i wr => ∃ q v, q ≤ n ∧ v = u ∧ i = .int .i64 (q : Nat) ∧ Hid (Ri (w.heap.size + 1) v (fzL L q) wr) ∧ Hid (w.heap.size + 1 ≤ wr.heap.size) ∧ Hid (Below w.heap.size w wr)) (fun _ i _ => n - (intOf i).toNat)
  case atStart => exact ⟨0, _, by omega, rfl, rfl, Lib.hid (Ri.nil _ _), HS0, HB0⟩
  case round =>
    obtain ⟨q, v, hq, rfl, rfl, HR, HS, HB⟩ := hrel
    clear HB0 HS0
    by_cases hql : q < n
    · have hqi : (q : Int) < (n : Int) := by omega
      have hlt := H.out.lt
      have hL := ri_below (f := fun j => .int .i64 (L j)) H.out HB.out hlt
      have hc := hL.cell hql
      have hle := fz_le L q
      by_cases hz : L q = 0
      · have HZ := Lib.hid (fz_hit hz)
        rw [hz] at hc
        clear hz hL
        have hbig : (fzL L q).length + 1 ≤ maxLen := by unfold maxLen; omega
        have hbytes : ((fzL L q).length + 1) * 8 ≤ 140737488355328 := by omega
        go_wp2_with (first
          | (at_builtin; refine Rw.list rfl (.tmp 16) (.tmp 18) 41 rfl 3 1 (w.heap.size + 1) wr.heap.size 8 Try.underlying41 infoInt (by decide) v (.slice (some ⟨wr.heap.size, 0, none⟩) 1 1) (fzL L q).length 1 (inC (fzL L q)) (inC [q]) rfl rfl (HR.out.alloc _) (Rw.lit_at _ _ 1 _ (inC [q]) rfl rfl) (inC_cells _) hbig hbytes (by have := HS.out; simp; omega) ?_; intro v5 w5 hR5 hg5 hG5))
        go_roundw
        case rel => exact ⟨q + 1, v5, by omega, rfl, by go_num, Lib.hid (by show Rw _ 1 _ _ _ _ _; rw [HZ.out, List.length_append, inC_app]; exact hR5), Lib.hid (by have h1 := hg5.size; have h2 := HS.out; simp at h1; omega), Lib.hid ((HB.out.alloc HB.out.size _).grown hg5 (by have := HB.out.size; simp; omega) (fun k hk => by have := (HR.out.block k hk).1; omega))⟩
        case measure => simp [intOf]; omega
      · have HZ := Lib.hid (fz_miss hz)
        have hzq : (L q == 0) = false := by simpa using hz
        clear hz hL
        go_wp2
        go_roundw
        case rel => exact ⟨q + 1, v, by omega, rfl, by go_num, Lib.hid (by rw [HZ.out]; exact HR.out), HS, HB⟩
        case measure => simp [intOf]; omega
    · have hqi : ¬ (q : Int) < (n : Int) := by omega
      obtain rfl : q = n := by omega
      go_wp2
      go_ret
      exact ⟨v, rfl, HR.out.mono (Nat.le_succ _), HB.out⟩
end Go.Proofs.Ythcpepifikpmeaa.Ck
