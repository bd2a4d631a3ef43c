/- What is found finite by waiting: each declaration waits for as many of its fields as must be; what is found sets free what waits for it. Plain mathematics. -/
import Derived.Test.YtdogddliifbjnaaGreatMg08
import Derived.Test.YtdogddliifbjnaaGreatMg19
namespace Go.Proofs.YtdogddliifbjnaaGreat.Ck
set_option linter.unusedVariables false
set_option linter.unusedSimpArgs false

def naB (s : Sy) (j k : Nat) : Bool := (s.r j k).isSome
def toB (s : Sy) (q j k : Nat) : Bool := match s.r j k with | some (some p) => p == q | _ => false
def hiB (s : Sy) (P : Nat → Bool) (j k : Nat) : Bool := match s.r j k with | some (some p) => P p | _ => false
/-- How many fields a declaration waits for. -/
def ndS (s : Sy) (j : Nat) : Int :=
  if s.K j = 1 then (cnB (naB s j) (s.l j) : Int) else if s.K j = 2 then (if cnB (naB s j) (s.l j) < s.l j then 0 else 1) else if s.K j = 3 ∨ s.K j = 4 then 0 else 1
def rcS (s : Sy) (P : Nat → Bool) (j : Nat) : Nat := if j < s.n ∧ (s.K j = 1 ∨ s.K j = 2) then cnB (hiB s P j) (s.l j) else 0
/-- How often a declaration waits for q. -/
def toS (s : Sy) (q j : Nat) : Nat := if j < s.n ∧ (s.K j = 1 ∨ s.K j = 2) then cnB (toB s q j) (s.l j) else 0
theorem cn_sum (s : Sy) (P : Nat → Bool) (j l : Nat) : cnB (fdB s P j) l + cnB (naB s j) l = l + cnB (hiB s P j) l := by
  induction l with
  | zero => rfl
  | succ l ih =>
    have e : (if fdB s P j l = true then 1 else 0) + (if naB s j l = true then 1 else 0) = 1 + (if hiB s P j l = true then 1 else 0) := by
      unfold fdB naB hiB
      cases hr : s.r j l with
      | none => simp
      | some o => cases o with
        | none => simp
        | some p => cases hP : P p <;> simp [hP]
    simp only [cnB]
    omega
theorem on_iff (s : Sy) (P : Nat → Bool) (j : Nat) (hj : j < s.n) : ndS s j - rcS s P j ≤ 0 ↔ onB s P j = true := by
  have h := cn_sum s P j (s.l j)
  have h1 := cnB_le (fdB s P j) (s.l j)
  have h2 := cnB_le (naB s j) (s.l j)
  unfold ndS rcS onB
  simp only [Bool.or_eq_true, Bool.and_eq_true, beq_iff_eq, decide_eq_true_eq]
  by_cases k1 : s.K j = 1
  · simp [k1, hj]; omega
  · by_cases k2 : s.K j = 2
    · simp [k2, hj]
      split <;> omega
    · by_cases k3 : s.K j = 3
      · simp [k3]
      · by_cases k4 : s.K j = 4
        · simp [k4]
        · simp [k1, k2, k3, k4]
/-- One more that was found. -/
def adP (P : Nat → Bool) (q : Nat) : Nat → Bool := fun x => P x || (x == q)
theorem rc_add (s : Sy) {P : Nat → Bool} {q : Nat} (h : P q = false) (j : Nat) : rcS s (adP P q) j = rcS s P j + toS s q j := by
  unfold rcS toS
  by_cases hk : j < s.n ∧ (s.K j = 1 ∨ s.K j = 2)
  · rw [if_pos hk, if_pos hk, if_pos hk]
    generalize s.l j = l
    induction l with
    | zero => rfl
    | succ l ih =>
      have e : (if hiB s (adP P q) j l = true then 1 else 0) = (if hiB s P j l = true then 1 else 0) + (if toB s q j l = true then 1 else 0) := by
        unfold hiB toB adP
        cases hr : s.r j l with
        | none => simp
        | some o => cases o with
          | none => simp
          | some p =>
            by_cases hp : p = q
            · subst hp; simp [h]
            · simp [hp]
      simp only [cnB]
      omega
  · rw [if_neg hk, if_neg hk, if_neg hk]
def adL (P : Nat → Bool) : List Nat → Nat → Bool
  | [] => P
  | q :: l => adL (adP P q) l
theorem adL_iff : ∀ (l : List Nat) (P : Nat → Bool) (x : Nat), adL P l x = true ↔ P x = true ∨ x ∈ l
  | [], P, x => by simp [adL]
  | q :: l, P, x => by
    show adL (adP P q) l x = true ↔ _
    rw [adL_iff l (adP P q) x]
    unfold adP
    simp only [Bool.or_eq_true, beq_iff_eq, List.mem_cons]
    constructor
    · rintro ((a | a) | a)
      · exact .inl a
      · exact .inr (.inl a)
      · exact .inr (.inr a)
    · rintro (a | a | a)
      · exact .inl (.inl a)
      · exact .inl (.inr a)
      · exact .inr a
theorem rc_list (s : Sy) (bx : Nat → List Nat) (hbx : ∀ q j, q < s.n → (bx q).count j = toS s q j) : ∀ (l : List Nat) (P : Nat → Bool), l.Nodup → (∀ q ∈ l, q < s.n ∧ P q = false) → ∀ j, rcS s (adL P l) j = rcS s P j + (l.flatMap bx).count j
  | [], P, _, _, j => by simp [adL]
  | q :: l, P, hn, hq, j => by
    have hn' := List.nodup_cons.1 hn
    show rcS s (adL (adP P q) l) j = _
    rw [rc_list s bx hbx l (adP P q) hn'.2 (fun x hx => ⟨(hq x (List.mem_cons_of_mem _ hx)).1, by
      have h1 := (hq x (List.mem_cons_of_mem _ hx)).2
      have h2 : x ≠ q := fun e => hn'.1 (e ▸ hx)
      simp [adP, h1, h2]⟩) j, rc_add s (hq q (List.mem_cons_self)).2 j, List.flatMap_cons, List.count_append, hbx q j (hq q (List.mem_cons_self)).1]
    omega

/-- What a pass over ps finds: those whose count was above 0, and is no more. -/
def Fr (L : Nat → Int) (ps l : List Nat) : Prop := l.Nodup ∧ ∀ j, j ∈ l ↔ 0 < L j ∧ L j - (ps.count j : Int) ≤ 0
theorem Fr.nil (L : Nat → Int) : Fr L [] [] := ⟨List.nodup_nil, fun j => by simp⟩
theorem cnt_same (ps : List Nat) (j : Nat) : (ps ++ [j]).count j = ps.count j + 1 := by simp
theorem cnt_other (ps : List Nat) {j k : Nat} (h : k ≠ j) : (ps ++ [j]).count k = ps.count k := by
  rw [List.count_append, List.count_singleton]
  simp [Ne.symm h]
theorem Fr.hit {L : Nat → Int} {ps l : List Nat} {j : Nat} (h : Fr L ps l) (hj : L j - (ps.count j : Int) - 1 = 0) : Fr L (ps ++ [j]) (l ++ [j]) := by
  have hni : j ∉ l := fun hm => by have := ((h.2 j).1 hm).2; omega
  refine ⟨List.nodup_append.2 ⟨h.1, by simp, fun a ha b hb => ?_⟩, fun k => ?_⟩
  · simp only [List.mem_singleton] at hb
    subst hb
    exact fun e => hni (e ▸ ha)
  · rw [List.mem_append, List.mem_singleton]
    by_cases e : k = j
    · subst e
      rw [cnt_same]
      refine ⟨fun _ => ⟨by omega, by omega⟩, fun _ => .inr rfl⟩
    · rw [cnt_other ps e, ← h.2 k]
      exact ⟨fun a => a.resolve_right e, .inl⟩
theorem Fr.miss {L : Nat → Int} {ps l : List Nat} {j : Nat} (h : Fr L ps l) (hj : L j - (ps.count j : Int) - 1 ≠ 0) : Fr L (ps ++ [j]) l := by
  refine ⟨h.1, fun k => ?_⟩
  by_cases e : k = j
  · subst e
    rw [cnt_same, h.2 k]
    refine ⟨fun ⟨a, b⟩ => ⟨a, by omega⟩, fun ⟨a, b⟩ => ⟨a, by omega⟩⟩
  · rw [cnt_other ps e]; exact h.2 k

/-- Behind each round: P is marked, l was found last, L is what is waited for. -/
structure Fd (s : Sy) (P : Nat → Bool) (l : List Nat) : Prop where
  nodup : l.Nodup
  new : ∀ j, j ∈ l → j < s.n ∧ P j = false
  all : ∀ j, j < s.n → (onB s P j = true ↔ P j = true ∨ j ∈ l)
  least : ∀ X, Closed s X → ∀ j, j < s.n → P j = true → X j = true
def lfS (s : Sy) (P : Nat → Bool) (j : Nat) : Int := ndS s j - rcS s P j
theorem Fd.start {s : Sy} {l : List Nat} (hn : l.Nodup) (h : ∀ j, j ∈ l ↔ j < s.n ∧ ndS s j = 0) : Fd s (fun _ => false) l := by
  have hz : ∀ j, rcS s (fun _ => false) j = 0 := fun j => by
    unfold rcS
    split
    · generalize s.l j = m
      induction m with
      | zero => rfl
      | succ m ih =>
        have : hiB s (fun _ => false) j m = false := by
          unfold hiB
          split <;> rfl
        rw [cnB_miss this]; exact ih
    · rfl
  have hnn : ∀ j, 0 ≤ ndS s j := fun j => by
    unfold ndS
    split
    · omega
    · split
      · split <;> omega
      · split <;> omega
  refine ⟨hn, fun j hj => ⟨((h j).1 hj).1, rfl⟩, fun j hj => ?_, fun X _ j _ h => by cases h⟩
  rw [← on_iff s _ j hj, hz j, h j]
  have := hnn j
  constructor
  · intro a; exact .inr ⟨hj, by omega⟩
  · rintro (a | ⟨_, a⟩)
    · cases a
    · omega
theorem Fd.round {s : Sy} {P : Nat → Bool} {l l' : List Nat} {bx : Nat → List Nat} (h : Fd s P l) (hbx : ∀ q j, q < s.n → (bx q).count j = toS s q j) (hlt : ∀ q j, q < s.n → j ∈ bx q → j < s.n) (hf : Fr (lfS s P) (l.flatMap bx) l') :
    Fd s (adL P l) l' ∧ ∀ j, lfS s P j - ((l.flatMap bx).count j : Int) = lfS s (adL P l) j := by
  have hrc := rc_list s bx hbx l P h.nodup h.new
  have hL : ∀ j, lfS s P j - ((l.flatMap bx).count j : Int) = lfS s (adL P l) j := fun j => by
    unfold lfS
    rw [hrc j]; omega
  have hmono : ∀ j, j < s.n → P j = true → adL P l j = true := fun j _ hp => (adL_iff l P j).2 (.inl hp)
  refine ⟨⟨hf.1, fun j hj => ?_, fun j hj => ?_, fun X hX j hj hp => ?_⟩, hL⟩
  · have h1 := (hf.2 j).1 hj
    have hjn : j < s.n := by
      by_cases e : j ∈ l.flatMap bx
      · obtain ⟨q, hq, hjq⟩ := List.mem_flatMap.1 e
        exact hlt q j (h.new q hq).1 hjq
      · rw [List.count_eq_zero.2 e] at h1; omega
    refine ⟨hjn, ?_⟩
    have hno : ¬ onB s P j = true := fun e => by
      have := (on_iff s P j hjn).2 e
      unfold lfS at h1; omega
    cases hx : adL P l j with
    | false => rfl
    | true => exact absurd ((h.all j hjn).2 ((adL_iff l P j).1 hx)) hno
  · constructor
    · intro ho
      by_cases e : onB s P j = true
      · exact .inl ((adL_iff l P j).2 ((h.all j hj).1 e))
      · right
        rw [hf.2 j, hL j]
        have h2 := (on_iff s (adL P l) j hj).2 ho
        have h3 : ¬ (ndS s j - rcS s P j ≤ 0) := fun e2 => e ((on_iff s P j hj).1 e2)
        unfold lfS; omega
    · rintro (e | e)
      · exact onB_mono hmono ((h.all j hj).2 ((adL_iff l P j).1 e))
      · have := (hf.2 j).1 e
        rw [hL j] at this
        exact (on_iff s (adL P l) j hj).1 this.2
  · rcases (adL_iff l P j).1 hp with e | e
    · exact h.least X hX j hj e
    · exact hX j hj (onB_mono (h.least X hX) ((h.all j hj).2 (.inr e)))
theorem Fd.done {s : Sy} {P : Nat → Bool} (h : Fd s P []) : ∀ j, j < s.n → P j = rdB s s.n j :=
  fin_unique (fun j hj ho => by
    rcases (h.all j hj).1 ho with e | e
    · exact e
    · cases e) h.least
/-- The round's measure. -/
def pzB (L : Nat → Int) (j : Nat) : Bool := decide (0 < L j)
theorem Fr.fewer {L : Nat → Int} {ps l : List Nat} {n : Nat} (h : Fr L ps l) (hlt : ∀ j, j ∈ l → j < n) (hl : l ≠ []) : cnB (pzB fun j => L j - (ps.count j : Int)) n < cnB (pzB L) n := by
  obtain ⟨j, t, rfl⟩ := List.exists_cons_of_ne_nil hl
  have h1 := (h.2 j).1 (List.mem_cons_self)
  refine cnB_lt (i := j) (fun k _ hk => ?_) (hlt j (List.mem_cons_self)) ?_ ?_
  · unfold pzB at hk ⊢
    simp only [decide_eq_true_eq] at hk ⊢
    omega
  · unfold pzB; simp; omega
  · unfold pzB; simp; omega
theorem Fr.le {L : Nat → Int} {ps : List Nat} {n : Nat} : cnB (pzB fun j => L j - (ps.count j : Int)) n ≤ cnB (pzB L) n :=
  cnB_mono fun k _ hk => by
    unfold pzB at hk ⊢
    simp only [decide_eq_true_eq] at hk ⊢
    omega
end Go.Proofs.YtdogddliifbjnaaGreat.Ck
/- check's countNamed and needs; the slice of free ones. -/
namespace Go.Proofs.YtdogddliifbjnaaGreat.Ck
open Go.RowKit Cm _root_.Go.Proofs.YtdogddliifbjnaaGreat.Nm
set_option linter.unusedVariables false
set_option linter.unusedSimpArgs false

def nmB (F : Fy) (k : Nat) : Bool := decide ((F.Y k).k = 6)
theorem na_nm (D : Dl) (F : Nat → Fy) (n i : Nat) : naB (syD D F n) i = nmB (F i) := by
  funext k
  unfold naB nmB syD
  by_cases h : ((F i).Y k).k = 6 <;> simp [h]
set_option maxRecDepth 100000 in
set_option maxHeartbeats 1000000 in
theorem countnamed_any (o : Option Addr) (len cap : Nat) (F : Fy) (w : World) (h : Yx o len F w) :
    Calls Tryz.prog 118 #[.slice o len cap] w fun e w' => e = .returned (.int .i64 (cnB (nmB F) len : Nat)) ∧ Below w.heap.size w w' := by
  have hlen := h.1.2
  have H := Lib.hid h
  clear h
  go_enter Tryz.func118, Tryz.ntmps118
  go_wp2
  go_loopw [3, 8] (fun n i wr => ∃ j, j ≤ len ∧ n = .int .i64 (cnB (nmB F) j : Nat) ∧ i = .int .i64 (j : Nat) ∧ Hid (Below w.heap.size w wr)) (fun _ i _ => len - (intOf i).toNat)
  case atStart => exact ⟨0, by omega, rfl, rfl, Lib.hid (Below.refl _ _)⟩
  case round =>
    obtain ⟨j, hj, rfl, rfl, HB⟩ := hrel
    have hcn := cnB_le (nmB F) j
    have hsz := HB.out.size
    by_cases hjl : j < len
    · have hji : (j : Int) < (len : Int) := by omega
      obtain ⟨a, Ab, Ao, As, rfl, hA, hAb, c0, c1, c2, c3, c4, hin⟩ := (H.out.below HB.out (Nat.le_refl _)).place hjl
      clear hin
      have HB2 := Lib.hid (HB.out.alloc hsz (.cells #[.int .i64 (F.T j), .string (F.N j), .int .i64 (F.Y j).k, .string (F.Y j).n, .slice (F.Y j).o (F.Y j).of.length (F.Y j).c] 50))
      by_cases hk : (F.Y j).k = 6
      · have hc := Lib.hid (cnB_hit (p := nmB F) (n := j) (decide_eq_true hk))
        rw [hk] at c2
        have HK := Lib.hid hk
        clear hk
        rw [HK.out] at HB2
        go_wp2
        go_roundw
        case rel => exact ⟨j + 1, by omega, by rw [hc.out]; go_num, by go_num, HB2⟩
        case measure => simp [intOf]; omega
      · have hc := Lib.hid (cnB_miss (p := nmB F) (n := j) (decide_eq_false hk))
        have hq : ((F.Y j).k == 6) = false := by simpa using hk
        clear hk
        go_wp2
        go_roundw
        case rel => exact ⟨j + 1, by omega, by rw [hc.out], by go_num, HB2⟩
        case measure => simp [intOf]; omega
    · have hji : ¬ (j : Int) < (len : Int) := by omega
      obtain rfl : j = len := by omega
      go_wp2
      go_ret
      exact ⟨rfl, HB.out⟩

set_option maxRecDepth 100000 in
set_option maxHeartbeats 1000000 in
theorem needs_any (o : Option Addr) (len i : Nat) (D : Dl) (F : Nat → Fy) (M : Nat → Ml) (w : World) (h : Ax o len D F M w) (hi : i < len) :
    Calls Tryz.prog 104 #[.agg #[.int .i64 (D.K i), .string (D.S i), .slice (D.fo i) (D.fl i) (D.fc i), .slice (D.mo i) (D.ml i) (D.mc i), .int .i64 (D.A i)]] w
      fun e w' => e = .returned (.int .i64 (ndS (syD D F len) i)) ∧ Below w.heap.size w w' := by
  have hfl : D.fl i ≤ 9223372036854775807 := (h.2 i hi).1.1.2
  have hB := ((Below.refl w.heap.size w).alloc (Nat.le_refl _) (.cells #[.int .i64 (D.K i), .string (D.S i), .slice (D.fo i) (D.fl i) (D.fc i), .slice (D.mo i) (D.ml i) (D.mc i), .int .i64 (D.A i)] 43))
  have hC := (Cs.new w [.int .i64 (D.K i), .string (D.S i), .slice (D.fo i) (D.fl i) (D.fc i), .slice (D.mo i) (D.ml i) (D.mc i), .int .i64 (D.A i)] 43)
  have HY := Lib.hid ((h.2 i hi).1.below hB (Nat.le_refl _))
  have HB := Lib.hid hB
  have HC := Lib.hid hC
  have hnd : ndS (syD D F len) i = (if D.K i = 1 then (cnB (nmB (F i)) (D.fl i) : Int) else if D.K i = 2 then (if cnB (nmB (F i)) (D.fl i) < D.fl i then 0 else 1) else if D.K i = 3 ∨ D.K i = 4 then 0 else 1) := by
    rw [← na_nm D F len i]; rfl
  rw [hnd]
  have hcn := cnB_le (nmB (F i)) (D.fl i)
  clear h hB hC hnd
  obtain ⟨m, hm⟩ : ∃ m, m = cnB (nmB (F i)) (D.fl i) := ⟨_, rfl⟩
  have hmc := countnamed_any (D.fo i) (D.fl i) (D.fc i) (F i)
  rw [← hm] at hmc hcn ⊢
  clear hm
  have HM := Lib.hid hmc
  clear hmc
  obtain ⟨K, hK⟩ : ∃ K, K = D.K i := ⟨_, rfl⟩
  obtain ⟨f, hff⟩ : ∃ f, f = D.fl i := ⟨_, rfl⟩
  rw [← hff] at HM HC HB HY hcn hfl ⊢
  rw [← hK] at HC HB HY ⊢
  clear hff hK
  by_cases k1 : K = 1
  · subst k1
    rw [if_pos rfl]
    go_enter Tryz.func104, Tryz.ntmps104
    go_wp2_with (go_at_call 118; refine (HM.out _ HY.out).mono ?_; rintro e w1 ⟨rfl, hb1⟩; have d0 := (HC.out.below hb1 HC.out.lt).cell (i := 0) rfl)
    go_ret
    exact ⟨rfl, HB.out.trans (hb1.mono HB.out.size)⟩
  · have k1' : (K == 1) = false := by simpa using k1
    rw [if_neg k1]
    by_cases k2 : K = 2
    · subst k2
      rw [if_pos rfl]
      by_cases hmf : m < f
      · have hmf' : (m : Int) < (f : Int) := by omega
        rw [if_pos hmf]
        go_enter Tryz.func104, Tryz.ntmps104
        go_wp2_with (go_at_call 118; refine (HM.out _ HY.out).mono ?_; rintro e w1 ⟨rfl, hb1⟩; have d0 := (HC.out.below hb1 HC.out.lt).cell (i := 0) rfl; have d2 := (HC.out.below hb1 HC.out.lt).cell (i := 2) rfl)
        go_ret
        exact ⟨rfl, HB.out.trans (hb1.mono HB.out.size)⟩
      · have hmf' : ¬ (m : Int) < (f : Int) := by omega
        rw [if_neg hmf]
        go_enter Tryz.func104, Tryz.ntmps104
        go_wp2_with (go_at_call 118; refine (HM.out _ HY.out).mono ?_; rintro e w1 ⟨rfl, hb1⟩; have d0 := (HC.out.below hb1 HC.out.lt).cell (i := 0) rfl; have d2 := (HC.out.below hb1 HC.out.lt).cell (i := 2) rfl)
        go_ret
        exact ⟨rfl, HB.out.trans (hb1.mono HB.out.size)⟩
    · have k2' : (K == 2) = false := by simpa using k2
      rw [if_neg k2]
      by_cases k3 : K = 3
      · subst k3
        rw [if_pos (.inl rfl)]
        go_enter Tryz.func104, Tryz.ntmps104
        go_wp2_with (go_at_call 118; refine (HM.out _ HY.out).mono ?_; rintro e w1 ⟨rfl, hb1⟩; have d0 := (HC.out.below hb1 HC.out.lt).cell (i := 0) rfl)
        go_ret
        exact ⟨rfl, HB.out.trans (hb1.mono HB.out.size)⟩
      · have k3' : (K == 3) = false := by simpa using k3
        by_cases k4 : K = 4
        · subst k4
          rw [if_pos (.inr rfl)]
          go_enter Tryz.func104, Tryz.ntmps104
          go_wp2_with (go_at_call 118; refine (HM.out _ HY.out).mono ?_; rintro e w1 ⟨rfl, hb1⟩; have d0 := (HC.out.below hb1 HC.out.lt).cell (i := 0) rfl)
          go_ret
          exact ⟨rfl, HB.out.trans (hb1.mono HB.out.size)⟩
        · have k4' : (K == 4) = false := by simpa using k4
          rw [if_neg (by omega)]
          go_enter Tryz.func104, Tryz.ntmps104
          go_wp2_with (go_at_call 118; refine (HM.out _ HY.out).mono ?_; rintro e w1 ⟨rfl, hb1⟩; have d0 := (HC.out.below hb1 HC.out.lt).cell (i := 0) rfl)
          go_ret
          exact ⟨rfl, HB.out.trans (hb1.mono HB.out.size)⟩
end Go.Proofs.YtdogddliifbjnaaGreat.Ck
/- check's free: the slice of those that wait for nothing. -/
namespace Go.Proofs.YtdogddliifbjnaaGreat.Ck
open Go.RowKit Cm _root_.Go.Proofs.YtdogddliifbjnaaGreat.Nm
set_option linter.unusedVariables false
set_option linter.unusedSimpArgs false

theorem infoInt : ∃ i z, Tryz.prog.info? 3 = some i ∧ i.zero = some z ∧ i.size = 1 ∧ i.bytes = 8 ∧ z.cells.size = 1 := by
  obtain ⟨i, hi, he⟩ := Option.map_eq_some_iff.1 infoIntE
  simp only [Prod.mk.injEq] at he
  exact ⟨i, _, hi, he.1, he.2.1, he.2.2, rfl⟩
/-- Numbers as cells. -/
def inC (l : List Nat) : List Value := l.map fun j => .int .i64 (j : Nat)
theorem inC_len (l : List Nat) : (inC l).length = l.length := List.length_map _
theorem inC_app (a b : List Nat) : inC (a ++ b) = inC a ++ inC b := List.map_append
theorem inC_cells (l : List Nat) : ∀ z ∈ inC l, z.oneCell' = true := by
  intro z hz
  obtain ⟨j, _, rfl⟩ := List.mem_map.1 hz
  rfl
theorem inC_at {l : List Nat} {i j : Nat} (h : l[i]? = some j) : (inC l)[i]? = some (.int .i64 (j : Nat)) := by
  unfold inC; rw [List.getElem?_map, h]; rfl
/-- A slice of numbers of the call's own. -/
def Ri (B : Nat) (v : Value) (l : List Nat) (w : World) : Prop := Rw 3 1 B v l.length (inC l) w
theorem Ri.nil (B : Nat) (w : World) : Ri B (.slice none 0 0) [] w := Rw.nil _ 1 B w

/-- Those of the first n that are 0. -/
def fzL (L : Nat → Int) (n : Nat) : List Nat := (List.range n).filter fun j => decide (L j = 0)
theorem fz_hit {L : Nat → Int} {n : Nat} (h : L n = 0) : fzL L (n + 1) = fzL L n ++ [n] := by
  unfold fzL; rw [List.range_succ, List.filter_append]; simp [h]
theorem fz_miss {L : Nat → Int} {n : Nat} (h : ¬ L n = 0) : fzL L (n + 1) = fzL L n := by
  unfold fzL; rw [List.range_succ, List.filter_append]; simp [h]
theorem fz_le (L : Nat → Int) (n : Nat) : (fzL L n).length ≤ n := by
  have := List.length_filter_le (fun j => decide (L j = 0)) (List.range n)
  rw [List.length_range] at this; exact this
theorem fz_mem (L : Nat → Int) (n j : Nat) : j ∈ fzL L n ↔ j < n ∧ L j = 0 := by
  unfold fzL; rw [List.mem_filter, List.mem_range, decide_eq_true_eq]
theorem fz_nodup (L : Nat → Int) (n : Nat) : (fzL L n).Nodup := List.Pairwise.filter _ List.nodup_range

def Li (b n : Nat) (L : Nat → Int) (w : World) : Prop := w.rowIs b 3 n (fun j => .int .i64 (L j))

set_option maxRecDepth 100000 in
set_option maxHeartbeats 2000000 in
theorem free_any (lb n bl bc : Nat) (ob : Option Addr) (L : Nat → Int) (w : World) (hn : n ≤ 1759218604441) (h : Li lb n L w) :
    Calls Tryz.prog 83 #[.agg #[.slice (some ⟨lb, 0, none⟩) n n, .slice ob bl bc]] w fun e w' => ∃ v, e = .returned v ∧ Ri w.heap.size v (fzL L n) w' ∧ Below w.heap.size w w' := by
  have hn2 : n ≤ 9223372036854775807 := by omega
  have HB0 := Lib.hid ((Below.refl w.heap.size w).alloc (Nat.le_refl _) (.cells #[.slice (some ⟨lb, 0, none⟩) n n, .slice ob bl bc] 151))
  have HS0 : Hid (w.heap.size + 1 ≤ (w.alloc (.cells #[.slice (some ⟨lb, 0, none⟩) n n, .slice ob bl bc] 151)).heap.size) := Lib.hid (by simp)
  have H := Lib.hid h
  clear h
  go_enter Tryz.func83, Tryz.ntmps83
  go_wp2
  go_loopw [3, 9] (fun u i wr => ∃ q v, q ≤ n ∧ v = u ∧ i = .int .i64 (q : Nat) ∧ Hid (Ri (w.heap.size + 1) v (fzL L q) wr) ∧ Hid (w.heap.size + 1 ≤ wr.heap.size) ∧ Hid (Below w.heap.size w wr)) (fun _ i _ => n - (intOf i).toNat)
  case atStart => exact ⟨0, _, by omega, rfl, rfl, Lib.hid (Ri.nil _ _), HS0, HB0⟩
  case round =>
    obtain ⟨q, v, hq, rfl, rfl, HR, HS, HB⟩ := hrel
    clear HB0 HS0
    by_cases hql : q < n
    · have hqi : (q : Int) < (n : Int) := by omega
      have hlt := H.out.lt
      have hL := ri_below (f := fun j => .int .i64 (L j)) H.out HB.out hlt
      have hc := hL.cell hql
      have hle := fz_le L q
      by_cases hz : L q = 0
      · have HZ := Lib.hid (fz_hit hz)
        rw [hz] at hc
        clear hz hL
        have hbig : (fzL L q).length + 1 ≤ maxLen := by unfold maxLen; omega
        have hbytes : ((fzL L q).length + 1) * 8 ≤ 140737488355328 := by omega
        go_wp2_with (first
          | (at_builtin; refine Rw.list rfl (.tmp 16) (.tmp 18) 23 rfl 3 1 (w.heap.size + 1) wr.heap.size 8 Tryz.underlying23 infoInt (by decide) v (.slice (some ⟨wr.heap.size, 0, none⟩) 1 1) (fzL L q).length 1 (inC (fzL L q)) (inC [q]) rfl rfl (HR.out.alloc _) (Rw.lit_at _ _ 1 _ (inC [q]) rfl rfl) (inC_cells _) hbig hbytes (by have := HS.out; simp; omega) ?_; intro v5 w5 hR5 hg5 hG5))
        go_roundw
        case rel => exact ⟨q + 1, v5, by omega, rfl, by go_num, Lib.hid (by show Rw _ 1 _ _ _ _ _; rw [HZ.out, List.length_append, inC_app]; exact hR5), Lib.hid (by have h1 := hg5.size; have h2 := HS.out; simp at h1; omega), Lib.hid ((HB.out.alloc HB.out.size _).grown hg5 (by have := HB.out.size; simp; omega) (fun k hk => by have := (HR.out.block k hk).1; omega))⟩
        case measure => simp [intOf]; omega
      · have HZ := Lib.hid (fz_miss hz)
        have hzq : (L q == 0) = false := by simpa using hz
        clear hz hL
        go_wp2
        go_roundw
        case rel => exact ⟨q + 1, v, by omega, rfl, by go_num, Lib.hid (by rw [HZ.out]; exact HR.out), HS, HB⟩
        case measure => simp [intOf]; omega
    · have hqi : ¬ (q : Int) < (n : Int) := by omega
      obtain rfl : q = n := by omega
      go_wp2
      go_ret
      exact ⟨v, rfl, HR.out.mono (Nat.le_succ _), HB.out⟩
end Go.Proofs.YtdogddliifbjnaaGreat.Ck
/- check's freed: what is waited for less, and those that wait for nothing any more. -/
namespace Go.Proofs.YtdogddliifbjnaaGreat.Ck
open Go.RowKit Cm _root_.Go.Proofs.YtdogddliifbjnaaGreat.Nm
set_option linter.unusedVariables false
set_option linter.unusedSimpArgs false

/-- Who waits for whom: a row of slices of numbers, each in a block of its own. -/
structure Bh (bb n B0 : Nat) (bv : Nat → Value) (bx : Nat → List Nat) (w : World) : Prop where
  row : w.rowIs bb 23 n bv
  each : ∀ k, k < n → Ri B0 (bv k) (bx k) w
  apart : ∀ i k, i < n → k < n → i ≠ k → Ap (bv i) (bv k)
theorem Bh.only {bb n B0 lb : Nat} {bv : Nat → Value} {bx : Nat → List Nat} {w w' : World} (h : Bh bb n B0 bv bx w) (ho : Only lb w w') (h1 : lb < B0) (h2 : bb ≠ lb) : Bh bb n B0 bv bx w' :=
  ⟨ri_only h.row ho h2, fun k hk => (h.each k hk).only ho h1, h.apart⟩
theorem Bh.below {bb n B0 : Nat} {bv : Nat → Value} {bx : Nat → List Nat} {w w' : World} (h : Bh bb n B0 bv bx w) (hb : Below w.heap.size w w') : Bh bb n B0 bv bx w' :=
  ⟨ri_below h.row hb h.row.lt, fun k hk => (h.each k hk).below hb, h.apart⟩

/-- Behind the pass over ps. -/
structure Fs (lb n : Nat) (w : World) (L : Nat → Int) (bs : List Value) (ps l : List Nat) (v : Value) (wr : World) : Prop where
  fr : Fr L ps l
  len : l.length ≤ ps.length
  li : Li lb n (fun j => L j - (ps.count j : Int)) wr
  ri : Ri (w.heap.size + 1) v l wr
  only : Only lb w wr
  sz : w.heap.size + 1 ≤ wr.heap.size
  box : Cs w.heap.size bs wr
section
variable {lb n j : Nat} {w wr w' : World} {L : Nat → Int} {bs : List Value} {ps l : List Nat} {v v' : Value}
theorem Fs.li_step (h : Fs lb n w L bs ps l v wr) {x : Int} (hx : x = L j - (ps.count j : Int)) : Li lb n (fun k => L k - ((ps ++ [j]).count k : Int)) (wr.setCell ⟨lb, j, none⟩ (.int .i64 (x - 1))) := by
  refine (h.li.set j _).congr fun i hi => ?_
  by_cases e : i = j
  · subst e
    rw [if_pos rfl]
    show Value.int .i64 (x - 1) = Value.int .i64 (L i - ((ps ++ [i]).count i : Int))
    rw [cnt_same, hx]
    congr 1; omega
  · rw [if_neg e]
    show Value.int .i64 (L i - (ps.count i : Int)) = Value.int .i64 (L i - ((ps ++ [j]).count i : Int))
    rw [cnt_other ps e]
theorem Fs.miss (h : Fs lb n w L bs ps l v wr) (hl : lb < w.heap.size) {x : Int} (hx : x = L j - (ps.count j : Int)) (hz : x - 1 ≠ 0) : Fs lb n w L bs (ps ++ [j]) l v (wr.setCell ⟨lb, j, none⟩ (.int .i64 (x - 1))) :=
  ⟨h.fr.miss (by omega), by have := h.len; simp; omega, h.li_step hx, h.ri.setCell (by omega), h.only.setCell _, by have := h.sz; simpa [World.setCell] using this, h.box.other _ (by omega)⟩
theorem Fs.hit (h : Fs lb n w L bs ps l v wr) (hl : lb < w.heap.size) {x : Int} (hx : x = L j - (ps.count j : Int)) (hz : x - 1 = 0) {o : Obj}
    (hr : Ri (w.heap.size + 1) v' (l ++ [j]) w') (hg : ((wr.setCell ⟨lb, j, none⟩ (.int .i64 (x - 1))).alloc o).grownBy w' v.ownBlock) : Fs lb n w L bs (ps ++ [j]) (l ++ [j]) v' w' := by
  have hri : Ri (w.heap.size + 1) v l ((wr.setCell ⟨lb, j, none⟩ (.int .i64 (x - 1))).alloc o) := (h.ri.setCell (by omega)).alloc o
  have hrow : ∀ k, v.ownBlock = some k → w.heap.size + 1 ≤ k := fun k hk => (h.ri.block k hk).1
  have hli := (h.li_step hx).alloc o
  refine ⟨h.fr.hit (by omega), by have := h.len; simp; omega, ri_grown hli hg (fun e => ?_), hr, ((h.only.setCell _).alloc o).grown hg (fun k hk => by have := hrow k hk; omega), ?_, ((h.box.other _ (by omega)).alloc o).besideRow hri (by omega) hg⟩
  · have := hrow lb e.symm; omega
  · have h1 := hg.size
    have h2 := h.sz
    simp [World.setCell] at h1; omega
end

set_option maxRecDepth 100000 in
set_option maxHeartbeats 4000000 in
theorem freed_any (lb bb n B0 B1 : Nat) (L : Nat → Int) (bv : Nat → Value) (bx : Nat → List Nat) (f : List Nat) (v : Value) (w : World) (hn : n ≤ 1000000) (h : Li lb n L w) (hbh : Bh bb n B0 bv bx w) (hv : Ri B1 v f w)
    (h0 : lb < B0) (h1 : lb < B1) (hne : bb ≠ lb) (hf : ∀ q, q ∈ f → q < n) (hbx : ∀ q j, q < n → j ∈ bx q → j < n) (hL : ∀ j, j < n → -1000000 ≤ L j ∧ L j ≤ 1000000) (hm : (f.flatMap bx).length ≤ 1000000) :
    Calls Tryz.prog 84 #[.agg #[.slice (some ⟨lb, 0, none⟩) n n, .slice (some ⟨bb, 0, none⟩) n n], v] w fun e w' =>
      ∃ v' l, e = .returned v' ∧ Fr L (f.flatMap bx) l ∧ Li lb n (fun j => L j - ((f.flatMap bx).count j : Int)) w' ∧ Ri w.heap.size v' l w' ∧ Only lb w w' := by
  have hlt := h.lt
  have HF0 : Hid (Fs lb n w L [.slice (some ⟨lb, 0, none⟩) n n, .slice (some ⟨bb, 0, none⟩) n n] [] [] (.slice none 0 0) (w.alloc (.cells #[.slice (some ⟨lb, 0, none⟩) n n, .slice (some ⟨bb, 0, none⟩) n n] 151))) :=
    Lib.hid ⟨Fr.nil L, by simp, (h.alloc _).congr (fun i _ => by simp), Ri.nil _ _, (Only.refl lb w).alloc _, by simp, Cs.new w [.slice (some ⟨lb, 0, none⟩) n n, .slice (some ⟨bb, 0, none⟩) n n] 151⟩
  obtain ⟨fo, fc, rfl, hfmax, hfc⟩ := hv.form
  have hfl : f.length ≤ 9223372036854775807 := by unfold maxLen at hfmax; omega
  have HV := Lib.hid hv
  have HBH := Lib.hid hbh
  have HH := Lib.hid (And.intro hf (And.intro hbx (And.intro hL hm)))
  clear h hbh hv hf hbx hL hm hfc
  go_enter Tryz.func84, Tryz.ntmps84
  go_wp2
  go_loopw [5, 12] (fun u i wr => ∃ q l v, q ≤ f.length ∧ v = u ∧ i = .int .i64 (q : Nat) ∧ Hid (Fs lb n w L [.slice (some ⟨lb, 0, none⟩) n n, .slice (some ⟨bb, 0, none⟩) n n] ((f.take q).flatMap bx) l v wr)) (fun _ i _ => f.length - (intOf i).toNat)
  case atStart => exact ⟨0, [], _, by omega, rfl, rfl, HF0⟩
  case round =>
    obtain ⟨q, l, v, hq, rfl, rfl, HF⟩ := hrel
    clear HF0
    by_cases hql : q < f.length
    · have hqi : (q : Int) < (f.length : Int) := by omega
      obtain ⟨p, hp⟩ : ∃ p, f[q]? = some p := ⟨_, List.getElem?_eq_getElem hql⟩
      have hpn : p < n := HH.out.1 p (List.mem_of_getElem? hp)
      have hpi : (p : Int) < (n : Int) := by omega
      have hV := HV.out.only HF.out.only h1
      obtain ⟨fo', fc', he, _, hcs⟩ := hV.form
      obtain ⟨rfl, _, rfl⟩ : fo' = fo ∧ True ∧ fc' = fc := by simpa [eq_comm] using he
      obtain ⟨fa, rfl, hfa⟩ := hcs q _ (inC_at hp)
      clear hcs he hV
      have hbh2 := HBH.out.only HF.out.only h0 hne
      have hb0 := hbh2.row.cell hpn
      have hRb := hbh2.each p hpn
      obtain ⟨bo, bc, hbv, hbmax, hbc⟩ := hRb.form
      rw [hbv] at hb0
      have hbl : (bx p).length ≤ 9223372036854775807 := by unfold maxLen at hbmax; omega
      have d0 := HF.out.box.cell (i := 0) rfl
      have d1 := HF.out.box.cell (i := 1) rfl
      have HBC := Lib.hid hbc
      have HP := Lib.hid hp
      have HB2 := Lib.hid (And.intro hbv hRb)
      have hflat : ((f.take (q + 1)).flatMap bx) = (f.take q).flatMap bx ++ bx p := by
        rw [List.take_add_one, hp, List.flatMap_append]; simp
      have HFL := Lib.hid hflat
      have hnb : n ≤ 9223372036854775807 := by omega
      clear hbc hp hbv hRb hbh2 hflat hbmax
      go_wp2
      clear d0 d1 hb0 hfa
      go_loopw [5, 22] (fun u i wq => ∃ k l v, k ≤ (bx p).length ∧ v = u ∧ i = .int .i64 (k : Nat) ∧ Hid (Fs lb n w L [.slice (some ⟨lb, 0, none⟩) n n, .slice (some ⟨bb, 0, none⟩) n n] ((f.take q).flatMap bx ++ (bx p).take k) l v wq)) (fun _ i _ => (bx p).length - (intOf i).toNat)
      case atStart => exact ⟨0, l, _, by omega, rfl, rfl, by simpa using HF⟩
      case round =>
        obtain ⟨k, l, v, hk, rfl, rfl, HG⟩ := hrel
        clear HF
        by_cases hkl : k < (bx p).length
        · have hki : (k : Int) < ((bx p).length : Int) := by omega
          obtain ⟨j, hj⟩ : ∃ j, (bx p)[k]? = some j := ⟨_, List.getElem?_eq_getElem hkl⟩
          have hjn : j < n := HH.out.2.1 p j hpn (List.mem_of_getElem? hj)
          have hji : (j : Int) < (n : Int) := by omega
          have hRb := (HBH.out.each p hpn).only HG.out.only h0
          obtain ⟨bo', bc', hbv', _, hbc'⟩ := hRb.form
          have hbe := HB2.out.1.symm.trans hbv'
          obtain ⟨rfl, _, rfl⟩ : bo' = bo ∧ True ∧ bc' = bc := by simpa [eq_comm] using hbe
          obtain ⟨ba, rfl, hba⟩ := hbc' k _ (inC_at hj)
          clear hbc' hbe hbv' hRb
          have d0 := HG.out.box.cell (i := 0) rfl
          have d1 := HG.out.box.cell (i := 1) rfl
          have htk : (f.take q).flatMap bx ++ (bx p).take (k + 1) = ((f.take q).flatMap bx ++ (bx p).take k) ++ [j] := by
            rw [List.take_add_one, hj, List.append_assoc]; rfl
          have hpl : ((f.take q).flatMap bx ++ (bx p).take k).length ≤ 1000000 := by
            have e1 : ((f.take q).flatMap bx ++ bx p).length ≤ (f.flatMap bx).length := by
              rw [← HFL.out]
              have e3 : f.flatMap bx = (f.take (q + 1)).flatMap bx ++ (f.drop (q + 1)).flatMap bx := by rw [← List.flatMap_append, List.take_append_drop]
              rw [e3, List.length_append]; omega
            have e2 := HH.out.2.2.2
            simp only [List.length_append, List.length_take] at e1 ⊢
            omega
          have hcnt : ((f.take q).flatMap bx ++ (bx p).take k).count j ≤ 1000000 := Nat.le_trans List.count_le_length hpl
          obtain ⟨ps, hps⟩ : ∃ ps, ps = (f.take q).flatMap bx ++ (bx p).take k := ⟨_, rfl⟩
          rw [← hps] at HG htk hpl hcnt
          obtain ⟨x, hx⟩ : ∃ x, x = L j - (ps.count j : Int) := ⟨_, rfl⟩
          have hc : _ = some (Value.int .i64 (L j - (ps.count j : Int))) := HG.out.li.cell hjn
          rw [← hx] at hc
          have hfz := HG.out.li.frozen j
          have hx1 : -2000000 ≤ x := by have := (HH.out.2.2.1 j hjn).1; omega
          have hx2 : x ≤ 1000000 := by have := (HH.out.2.2.1 j hjn).2; omega
          have hwr : IntKind.i64.wrap (x - 1) = x - 1 := IntWalk.i64_in _ (by omega)
          have HTK := Lib.hid (And.intro htk (And.intro hx hps))
          have hll : l.length ≤ 1000000 := Nat.le_trans HG.out.len hpl
          clear htk hx hps
          by_cases hz : x = 1
          · subst hz
            have hbig : l.length + 1 ≤ maxLen := by unfold maxLen; omega
            have hbytes : (l.length + 1) * 8 ≤ 140737488355328 := by omega
            go_wp2_with (first
              | (at_builtin; refine Rw.list rfl (.tmp 39) (.tmp 41) 23 rfl 3 1 (w.heap.size + 1) _ 8 Tryz.underlying23 infoInt (by decide) v (.slice (some ⟨_, 0, none⟩) 1 1) l.length 1 (inC l) (inC [j]) rfl rfl ((HG.out.ri.setCell (by omega)).alloc _) (Rw.lit_at _ _ 1 _ (inC [j]) rfl (by first | rfl | simp [World.setCell])) (inC_cells _) hbig hbytes (by have := HG.out.sz; simp [World.setCell]; omega) ?_; intro v5 w5 hR5 hg5 hG5))
            go_roundw
            case rel => exact ⟨k + 1, l ++ [j], v5, by omega, rfl, by go_num, Lib.hid (by rw [HTK.out.1]; exact HG.out.hit hlt HTK.out.2.1 rfl (by show Rw _ 1 _ _ _ _ _; rw [List.length_append, inC_app]; exact hR5) hg5)⟩
            case measure => simp [intOf]; omega
          · have hzq : (x - 1 == 0) = false := beq_eq_false_iff_ne.2 (by omega)
            go_wp2
            go_roundw
            case rel => exact ⟨k + 1, l, v, by omega, rfl, by go_num, Lib.hid (by rw [HTK.out.1]; exact HG.out.miss hlt HTK.out.2.1 (by omega))⟩
            case measure => simp [intOf]; omega
        · have hki : ¬ (k : Int) < ((bx p).length : Int) := by omega
          obtain rfl : k = (bx p).length := by omega
          go_wp2
          go_roundw
          case rel => exact ⟨q + 1, l, v, by omega, rfl, by go_num, Lib.hid (by rw [HFL.out]; simpa using HG.out)⟩
          case measure => simp [intOf]; omega
    · have hqi : ¬ (q : Int) < (f.length : Int) := by omega
      obtain rfl : q = f.length := by omega
      have HF' := HF.out
      rw [List.take_length] at HF'
      have HF2 := Lib.hid HF'
      clear HF HF'
      go_wp2
      go_ret
      exact ⟨v, rfl, l, HF2.out.fr, HF2.out.li, HF2.out.ri.mono (Nat.le_succ _), HF2.out.only⟩
end Go.Proofs.YtdogddliifbjnaaGreat.Ck
