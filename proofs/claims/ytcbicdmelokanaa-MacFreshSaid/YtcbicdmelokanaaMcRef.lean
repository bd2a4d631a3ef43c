/- Tags that were issued: the contracts of the reference's Epoch, Knows, Revoke, Issue. -/
import Derived.Test.YtcbicdmelokanaaMcApi
namespace Go.Proofs.Ytcbicdmelokanaa.Mc
open Go.RowKit Cm Dc
set_option linter.unusedVariables false
set_option linter.unusedSimpArgs false

/-- The rows in a slice of a call's own. -/
abbrev Mr (B : Nat) (v : Value) (L : List MRow) (w : World) : Prop := Rw 40 4 B v L.length (rC L) w
theorem infoRow : ∃ i z, Try.prog.info? 40 = some i ∧ i.zero = some z ∧ i.size = 4 ∧ i.bytes = 32 ∧ z.cells.size = 4 := by
  have h : (Try.prog.info? 40).map (fun i => (i.zero, i.size, i.bytes)) = some (some (.agg #[.int .i64 0, .int .i64 0, .int .u64 0, .bool false]), 4, 32) := by kernel_rfl
  obtain ⟨i, hi, he⟩ := Option.map_eq_some_iff.1 h
  simp only [Prod.mk.injEq] at he
  exact ⟨i, _, hi, he.1, he.2.1, he.2.2, rfl⟩
theorem rC_cells (L : List MRow) : ∀ z ∈ rC L, z.oneCell' = true := fun z hz => fl_mem rw1_cells hz
theorem rC_len (L : List MRow) : (rC L).length = L.length * 4 := fl_len rw1_len L
/-- A row's cells, at a place taken apart. -/
theorem Mr.place {B n cap : Nat} {o : Option Addr} {L : List MRow} {w : World} (h : Mr B (.slice o n cap) L w) {j : Nat} {r : MRow} (hj : L[j]? = some r) :
    n = L.length ∧ ∃ g, o = some ⟨g, 0, none⟩ ∧ B ≤ g ∧ g < w.heap.size ∧ w.cell? ⟨g, j * 4, none⟩ = some (.int .i64 (r.o : Int)) ∧ w.cell? ⟨g, j * 4 + 1, none⟩ = some (.int .i64 (r.e : Int)) ∧ w.cell? ⟨g, j * 4 + 2, none⟩ = some (.int .u64 (r.t : Int)) ∧ w.cell? ⟨g, j * 4 + 3, none⟩ = some (.bool r.k) := by
  have hl := (List.getElem?_eq_some_iff.1 hj).1
  obtain ⟨g, cap', hv, hb, hg, hx⟩ := Rw.form1 h (by omega)
  injection hv with h1 h2 h3
  subst h1 h2
  have e : ∀ k, k < 4 → (rC L)[j * 4 + k]? = (rw1 r)[k]? := fun k hk => fl_at rw1_len hj hk
  exact ⟨rfl, g, rfl, hb, hg, hx _ _ (e 0 (by omega)), hx _ _ (e 1 (by omega)), hx _ _ (e 2 (by omega)), hx _ _ (e 3 (by omega))⟩
theorem ep_step {L : List MRow} {j : Nat} {r : MRow} (h : L[j]? = some r) (o : Int) : epN (L.take (j + 1)) o = epN (L.take j) o + if (r.o : Int) = o then 1 else 0 := by
  unfold epN
  rw [List.take_add_one, h, List.countP_append]
  by_cases e : (r.o : Int) = o <;> simp [e]
theorem any_step {L : List MRow} {j : Nat} {r : MRow} {p : MRow → Bool} (h : L[j]? = some r) : (L.take (j + 1)).any p = ((L.take j).any p || p r) := by
  rw [List.take_add_one, h, List.any_append]
  simp
theorem any_hit {L : List MRow} {j : Nat} {r : MRow} {p : MRow → Bool} (h : L[j]? = some r) (hp : p r = true) : L.any p = true := List.any_eq_true.2 ⟨r, List.mem_of_getElem? h, hp⟩

set_option maxRecDepth 100000 in
set_option maxHeartbeats 1000000 in
theorem repoch_any (B : Nat) (v : Value) (L : List MRow) (o : Int) (w : World) (h : Mr B v L w) (hl : L.length ≤ 1000000) :
    Calls Try.prog 16 #[v, .int .i64 o] w fun e w' => e = .returned (.int .i64 (epN L o : Nat)) ∧ w' = w := by
  obtain ⟨a, cap, rfl, hn, _⟩ := Rw.form h
  have H := Lib.hid h
  clear h
  go_enter Try.func16, Try.ntmps16
  go_wp2
  go_loopw [5, 6] (fun c i wr => ∃ j m, j ≤ L.length ∧ i = .int .i64 (j : Nat) ∧ c = .int .i64 (m : Nat) ∧ m ≤ j ∧ Hid (m = epN (L.take j) o) ∧ wr = w) (fun c i _ => L.length - (intOf i).toNat)
  case atStart => exact ⟨0, 0, by omega, rfl, rfl, by omega, Lib.hid rfl, rfl⟩
  case round =>
    obtain ⟨j, m, hj, rfl, rfl, hm, HM, rfl⟩ := hrel
    by_cases hjl : j < L.length
    · have hji : (j : Int) < (L.length : Int) := by omega
      obtain ⟨r, hr⟩ : ∃ r, L[j]? = some r := ⟨_, List.getElem?_eq_getElem hjl⟩
      obtain ⟨_, g, rfl, hB, hg, c0, c1, c2, c3⟩ := Mr.place H.out hr
      have HR := Lib.hid (ep_step hr o)
      obtain ⟨p, hp⟩ : ∃ p : Int, (r.o : Int) = p := ⟨_, rfl⟩
      rw [hp] at c0 HR
      clear hr hp c1 c2 c3
      by_cases e : p = o
      · subst e
        go_wp2
        exact ⟨⟨j + 1, m + 1, by omega, by go_num, by go_num, by omega, Lib.hid (by rw [HR.out, if_pos rfl, HM.out]), trivial⟩, by simp [intOf]; omega⟩
      · have f : (p == o) = false := by simpa using e
        have HE := Lib.hid e
        clear e
        go_wp2
        exact ⟨⟨j + 1, m, by omega, by go_num, rfl, by omega, Lib.hid (by rw [HR.out, if_neg HE.out, HM.out, Nat.add_zero]), trivial⟩, by simp [intOf]; omega⟩
    · have hji : ¬ (j : Int) < (L.length : Int) := by omega
      have HL := Lib.hid (show L.take j = L from List.take_of_length_le (by omega))
      rw [HL.out] at HM
      go_wp2
      go_ret
      exact ⟨by rw [← HM.out]; rfl, by first | rfl | trivial⟩

set_option maxRecDepth 100000 in
set_option maxHeartbeats 2000000 in
theorem rknows_any (B : Nat) (v : Value) (L : List MRow) (o e t : Int) (w : World) (h : Mr B v L w) (hl : L.length ≤ 1000000) :
    Calls Try.prog 18 #[v, .int .i64 o, .int .i64 e, .int .u64 t] w fun e' w' => e' = .returned (.bool (knL L o e t)) ∧ w' = w := by
  obtain ⟨a, cap, rfl, hn, _⟩ := Rw.form h
  have H := Lib.hid h
  clear h
  go_enter Try.func18, Try.ntmps18
  go_wp2
  go_loopw [9] (fun i wr => ∃ j, j ≤ L.length ∧ i = .int .i64 (j : Nat) ∧ Hid ((L.take j).any (isB o e t) = false) ∧ wr = w) (fun i _ => L.length - (intOf i).toNat)
  case atStart => exact ⟨0, by omega, rfl, Lib.hid rfl, rfl⟩
  case round =>
    obtain ⟨j, hj, rfl, HP, rfl⟩ := hrel
    by_cases hjl : j < L.length
    · have hji : (j : Int) < (L.length : Int) := by omega
      obtain ⟨r, hr⟩ : ∃ r, L[j]? = some r := ⟨_, List.getElem?_eq_getElem hjl⟩
      obtain ⟨_, g, rfl, hB, hg, c0, c1, c2, c3⟩ := Mr.place H.out hr
      obtain ⟨p, hp⟩ : ∃ p : Int, (r.o : Int) = p := ⟨_, rfl⟩
      obtain ⟨q, hq⟩ : ∃ q : Int, (r.e : Int) = q := ⟨_, rfl⟩
      obtain ⟨x, hx⟩ : ∃ x : Int, (r.t : Int) = x := ⟨_, rfl⟩
      obtain ⟨k, hk⟩ : ∃ k, r.k = k := ⟨_, rfl⟩
      have HR := Lib.hid (any_step (p := isB o e t) hr)
      have HH := Lib.hid (any_hit (p := isB o e t) hr)
      have hi : isB o e t r = (k && decide (p = o) && decide (q = e) && decide (x = t)) := by unfold isB; rw [hp, hq, hx, hk]
      rw [hi] at HR HH
      have HR' : Hid ((k && decide (p = o) && decide (q = e) && decide (x = t)) = false → (L.take (j + 1)).any (isB o e t) = false) := Lib.hid (fun hf => by rw [HR.out, HP.out, hf]; rfl)
      rw [hp] at c0
      rw [hq] at c1
      rw [hx] at c2
      rw [hk] at c3
      clear hr hp hq hx hk hi HR
      cases k with
      | false =>
        go_wp2
        exact ⟨⟨j + 1, by omega, by go_num, Lib.hid (HR'.out rfl), trivial⟩, by simp [intOf]; omega⟩
      | true =>
        by_cases e1 : p = o
        · subst e1
          by_cases e2 : q = e
          · subst e2
            by_cases e3 : x = t
            · subst e3
              go_wp2
              go_ret
              exact ⟨by unfold knL; rw [HH.out (by simp)]; rfl, by first | rfl | trivial⟩
            · have f3 : (x == t) = false := by simpa using e3
              have HE := Lib.hid e3
              clear e3
              go_wp2
              exact ⟨⟨j + 1, by omega, by go_num, Lib.hid (HR'.out (by rw [decide_eq_false HE.out]; simp)), trivial⟩, by simp [intOf]; omega⟩
          · have f2 : (q == e) = false := by simpa using e2
            have HE := Lib.hid e2
            clear e2
            go_wp2
            exact ⟨⟨j + 1, by omega, by go_num, Lib.hid (HR'.out (by rw [decide_eq_false HE.out]; simp)), trivial⟩, by simp [intOf]; omega⟩
        · have f1 : (p == o) = false := by simpa using e1
          have HE := Lib.hid e1
          clear e1
          go_wp2
          exact ⟨⟨j + 1, by omega, by go_num, Lib.hid (HR'.out (by rw [decide_eq_false HE.out]; simp)), trivial⟩, by simp [intOf]; omega⟩
    · have hji : ¬ (j : Int) < (L.length : Int) := by omega
      have HL := Lib.hid (show L.take j = L from List.take_of_length_le (by omega))
      rw [HL.out] at HP
      go_wp2
      go_ret
      exact ⟨by unfold knL; rw [HP.out]; rfl, by first | rfl | trivial⟩
end Go.Proofs.Ytcbicdmelokanaa.Mc
