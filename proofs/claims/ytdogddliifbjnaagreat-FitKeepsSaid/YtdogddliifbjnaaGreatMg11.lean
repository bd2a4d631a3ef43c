/- Schemas: rows are put in order: slices.SortFunc over fields, by tags. -/
import Derived.Shelf.SlSortCmp.NoneTotal
import Derived.Test.YtdogddliifbjnaaGreatMg09
import Derived.Test.YtdogddliifbjnaaGreatMg10
namespace Go.Proofs.YtdogddliifbjnaaGreat.Ck
open Go.RowKit Cm
open _root_.Go.Proofs.YtdogddliifbjnaaGreat.Nm
set_option linter.unusedVariables false
set_option linter.unusedSimpArgs false

def cfF (x y : Fz) : Int := Lib.compareInt x.T y.T
theorem ltF (x y : Fz) : ltOf cfF x y = decide (x.T < y.T) := by
  unfold ltOf cfF Lib.compareInt
  by_cases h1 : x.T < y.T
  · simp [h1]
  · by_cases h2 : y.T < x.T <;> simp [h1, h2]
theorem swoF : Go.Sort.SWO (ltOf cfF) where
  irrefl x := by rw [ltF]; simp
  trans x y z h1 h2 := by rw [ltF] at *; simp at *; omega
  ntrans x y z h1 h2 := by rw [ltF] at *; simp at *; omega
set_option maxRecDepth 100000 in
set_option maxHeartbeats 1000000 in
theorem ordercmp_any (x y : Fz) (w : World) :
    Calls Tryz.prog 94 #[.agg #[.int .i64 x.T, .string x.N, .int .i64 x.Y.k, .string x.Y.n, .slice x.Y.o x.Y.of.length x.Y.c], .agg #[.int .i64 y.T, .string y.N, .int .i64 y.Y.k, .string y.Y.n, .slice y.Y.o y.Y.of.length y.Y.c]] w fun e w' =>
      e = .returned (.int .i64 (cfF x y)) ∧ ∃ os, w' = Go.Sort.grow w os := by
  have hcon := fun w => Tryz.cmp_Compare_int x.T y.T w
  unfold cfF
  generalize Lib.compareInt x.T y.T = r at hcon ⊢
  go_enter Tryz.func94, Tryz.ntmps94
  go_wp2_with (go_at_call 39; refine (hcon _).mono ?_; rintro e w2 ⟨rfl, rfl⟩)
  go_ret
  exact ⟨rfl, _, by rw [Go.Sort.alloc_eq_grow, Go.Sort.alloc_eq_grow, Go.Sort.grow_grow]⟩
theorem rowsT (U : Nat → Fz) (n t : Nat) (ht : t < n * 5) : ((List.range n).flatMap fun j => (U j).at5)[t]? = some (((U (t / 5)).at5)[t % 5]!) := by
  have hq : t / 5 < n := by omega
  have e : t = t / 5 * 5 + t % 5 := by omega
  have h := fl_at (f := fun j => (U j).at5) (s := 5) (fun _ => rfl) (L := List.range n) (i := t / 5) (k := t % 5) (a := t / 5) (by rw [List.getElem?_range hq]) (by omega)
  rw [← e] at h
  rw [h]
  have hl : t % 5 < (U (t / 5)).at5.length := by show t % 5 < 5; omega
  rw [List.getElem?_eq_getElem hl]; exact congrArg some (getElem!_pos (U (t / 5)).at5 (t % 5) hl).symm
set_option maxRecDepth 100000 in
set_option maxHeartbeats 2000000 in
theorem sortfields_any (B g n c : Nat) (U : Nat → Fz) (w : World) (hn : n ≤ 1000) (h : Rw 50 5 B (.slice (some ⟨g, 0, none⟩) n c) n ((List.range n).flatMap fun j => (U j).at5) w) :
    Calls Tryz.prog 93 #[.slice (some ⟨g, 0, none⟩) n c, .func (.func 94) #[] #[]] w fun e w' =>
      e = .returned (.tuple #[]) ∧ ∃ U', Ex 5 Fz.at5 (some ⟨g, 0, none⟩) n U' w' ∧ ((List.range n).map U').Perm ((List.range n).map U) ∧ ((List.range n).map U').Pairwise (fun a b => a.T ≤ b.T) ∧ Only g w w' := by
  have hlt := (Rw.lt1 h).2
  obtain ⟨d, hd⟩ : ∃ d : Array Fz, d = ((List.range n).map U).toArray := ⟨_, rfl⟩
  have hds : d.size = n := by rw [hd]; simp
  have hdg : ∀ j, j < n → d[j]! = U j := fun j hj => by
    rw [getElem!_pos d j (by omega)]
    subst hd; simp
  have hH : Go.Sort.HoldsK Fz.at5 5 w g 0 d := fun t ht => by
    have ht' : t < n * 5 := by rw [Go.Sort.size_flatK, hds] at ht; exact ht
    rw [Nat.zero_add, Go.Sort.get_flatK _ _ _ _ (by rw [hds]; exact ht'), hdg _ (by omega)]
    exact ⟨h.at (rowsT U n t ht'), h.fz t⟩
  have hc : CmpLays Tryz.prog 94 #[] Fz.at5 5 cfF g 0 d.size w := fun m os dk _ x y => by
    refine (ordercmp_any x y _).mono ?_
    rintro e w' ⟨rfl, os', rfl⟩
    exact ⟨rfl, 0, os', rfl⟩
  have hs := AnyQ.slices_SortFunc Tryz.sortF 5 (fun w => by kernel_rfl) (fun w => by kernel_rfl) Fz.at5 (fun _ => rfl) (fun x v hv => by
    simp only [Fz.at5, List.mem_cons, List.not_mem_nil, or_false] at hv
    rcases hv with rfl | rfl | rfl | rfl | rfl <;> rfl) cfF swoF 94 #[] g 0 c d w (fun args w => by kernel_rfl) hc hH hlt (by omega)
  rw [hds] at hs
  refine hs.mono ?_
  rintro e w' ⟨rfl, d', m, os, hp, hso, rfl⟩
  have hd's : d'.size = n := by rw [hp.1, hds]
  have hS : SWK Fz.at5 5 w g 0 d' (sortWorldK Fz.at5 5 w g 0 m d' os) := ⟨m, os, rfl⟩
  have hW := hS.holds hlt hH (by rw [hd's, hds])
  have hsz := hS.le
  have hbl : ∀ k, k < w.heap.size → k ≠ g → (sortWorldK Fz.at5 5 w g 0 m d' os).heap[k]? = w.heap[k]? := fun k hk hne => by
    unfold sortWorldK
    rw [Go.Sort.heap_grow_old _ _ (by unfold Go.Sort.putRowK Go.Sort.putRow Go.Sort.mapBlock; simp; exact hk)]
    unfold Go.Sort.putRowK Go.Sort.putRow Go.Sort.mapBlock
    show (Array.modify _ _ _)[k]? = _
    rw [Array.getElem?_modify, if_neg (fun e => hne e.symm)]
    rfl
  have hpl : d'.toList.Perm d.toList := by
    have h := hp.2.2
    have e1 : (d'.extract 0 n).toList = d'.toList := by simp [List.take_of_length_le, hd's]
    have e2 : (d.extract 0 n).toList = d.toList := by simp [List.take_of_length_le, hds]
    rw [e1, e2] at h
    exact h
  have hU : ∀ D : Array Fz, D.size = n → (List.range n).map (fun j => D[j]!) = D.toList := fun D hD => by
    apply List.ext_getElem?
    intro i
    by_cases hi : i < n
    · rw [List.getElem?_map, List.getElem?_range hi, Option.map_some, getElem!_pos D i (by omega)]
      simp [hD, hi]
    · rw [List.getElem?_eq_none (by simp; omega), List.getElem?_eq_none (by simp; omega)]
  refine ⟨rfl, fun j => d'[j]!, fun i hi => ⟨_, rfl, Nat.lt_of_lt_of_le hlt hsz, fun k v hk => ?_⟩, ?_, ?_, ⟨rfl, rfl, rfl, hsz, hbl⟩⟩
  · have hkl : k < 5 := (List.getElem?_eq_some_iff.1 hk).1
    have hadd : (⟨g, 0, none⟩ : Addr).add (i * 5 + k) = ⟨g, 0 + (i * 5 + k), none⟩ := by unfold Addr.add; split <;> simp_all
    rw [hadd, (hW (i * 5 + k) (by rw [Go.Sort.size_flatK, hd's]; omega)).1, Go.Sort.get_flatK _ _ _ _ (by rw [hd's]; omega), show (i * 5 + k) / 5 = i by omega, show (i * 5 + k) % 5 = k by omega]
    show some ((Fz.at5 d'[i]!)[k]!) = some v
    obtain ⟨h1, h2⟩ := List.getElem?_eq_some_iff.1 hk
    rw [getElem!_pos _ k h1]
    exact congrArg some h2
  · rw [hU d' hd's]
    rw [hd] at hpl
    simpa using hpl
  · rw [List.pairwise_map]
    refine List.Pairwise.imp_of_mem (R := fun a b => a < b) (fun {a b} ha hb hab => ?_) List.pairwise_lt_range
    have h1 := hso a b (Nat.zero_le _) hab (by simpa using hb)
    rw [ltF] at h1
    simpa using h1
/-- .. of whichever slice the call has made. -/
theorem sortany_any (B n : Nat) (v : Value) (U : Nat → Fz) (w : World) (hn : n ≤ 1000) (h : Rw 50 5 B v n ((List.range n).flatMap fun j => (U j).at5) w) :
    Calls Tryz.prog 93 #[v, .func (.func 94) #[] #[]] w fun e w' =>
      e = .returned (.tuple #[]) ∧ ∃ (q : Option (Nat × Nat)) (U' : Nat → Fz), v = (match q with | none => .slice none n 0 | some (g, c) => .slice (some ⟨g, 0, none⟩) n c) ∧ (q = none → n = 0) ∧ (∀ g c, q = some (g, c) → B ≤ g ∧ Ex 5 Fz.at5 (some ⟨g, 0, none⟩) n U' w') ∧ ((List.range n).map U').Perm ((List.range n).map U) ∧ ((List.range n).map U').Pairwise (fun a b => a.T ≤ b.T) ∧ Below B w w' ∧ (∀ k, k < w.heap.size → v.ownBlock ≠ some k → w'.heap[k]? = w.heap[k]?) := by
  rcases h.2 with ⟨rfl, rfl⟩ | ⟨g, cap, cur, rfl, hb, hg, _⟩
  · refine (AnyF.slices_SortFunc_none Tryz.sortF none 0 _ w).mono ?_
    rintro e w' ⟨rfl, rfl⟩
    exact ⟨rfl, none, U, rfl, fun _ => rfl, (fun g c h => by cases h), List.Perm.refl _, (by simp), Below.refl _ _, fun _ _ _ => rfl⟩
  · refine (sortfields_any B g n cap U w hn h).mono ?_
    rintro e w' ⟨rfl, U', h1, h2, h3, h4⟩
    refine ⟨rfl, some (g, cap), U', rfl, (fun h => by cases h), fun g' c' e => ?_, h2, h3, h4.below hb (by have := (Array.getElem?_eq_some_iff.1 hg).1; omega), fun k hk hne => h4.block k hk (fun e => hne (by rw [e]; rfl))⟩
    obtain ⟨rfl, rfl⟩ : g = g' ∧ cap = c' := by simpa using e
    exact ⟨hb, h1⟩
end Go.Proofs.YtdogddliifbjnaaGreat.Ck
/- Schemas: what a schema is, as numbers, names and rows; rows in order. -/
namespace Go.Proofs.YtdogddliifbjnaaGreat.Ck
open Go.RowKit Cm
open _root_.Go.Proofs.YtdogddliifbjnaaGreat.Nm
set_option linter.unusedVariables false
set_option linter.unusedSimpArgs false

/-- A schema: how many declarations; their kinds, names, rows (tags and types). -/
structure Sc where
  n : Nat
  K : Nat → Int
  S : Nat → ByteArray
  R : Nat → List (Int × Sp)
def f2 (f : Fz) : Int × Sp := (f.T, f.Y.sp)
def rowL (U : Nat → Fz) (n : Nat) : List (Int × Sp) := (List.range n).map fun j => f2 (U j)
theorem rowL_map (U : Nat → Fz) (n : Nat) : rowL U n = ((List.range n).map U).map f2 := by unfold rowL; rw [List.map_map]; rfl
theorem rowL_q {U U' : Nat → Fz} {n : Nat} (h : ∀ i, i < n → Fq (U i) (U' i)) : rowL U n = rowL U' n := by
  unfold rowL
  refine List.map_congr_left (fun i hi => ?_)
  have := h i (by simpa using hi)
  unfold f2
  rw [this.1, this.2.2]
theorem rowL_at {U : Nat → Fz} {n j : Nat} (hj : j < n) : (rowL U n)[j]? = some (f2 (U j)) := by unfold rowL; rw [List.getElem?_map, List.getElem?_range hj]; rfl
theorem rowL_len (U : Nat → Fz) (n : Nat) : (rowL U n).length = n := by simp [rowL]
def srt (l : List (Int × Sp)) : List (Int × Sp) := l.mergeSort fun a b => decide (a.1 ≤ b.1)
theorem srt_perm (l : List (Int × Sp)) : (srt l).Perm l := List.mergeSort_perm l _
theorem srt_sorted (l : List (Int × Sp)) : (srt l).Pairwise (fun a b => a.1 ≤ b.1) := by
  have := List.pairwise_mergeSort (le := fun (a b : Int × Sp) => decide (a.1 ≤ b.1)) (fun a b c h1 h2 => by simp at *; omega) (fun a b => by simp; omega) l
  simpa [srt] using this
theorem srt_uniq {l l' : List (Int × Sp)} (hn : (l.map Prod.fst).Nodup) (hp : l'.Perm l) (hs : l'.Pairwise (fun a b => a.1 ≤ b.1)) : l' = srt l := by
  refine List.Perm.eq_of_pairwise (le := fun a b => a.1 ≤ b.1) (fun a b ha hb h1 h2 => ?_) hs (srt_sorted l) (hp.trans (srt_perm l).symm)
  have e : a.1 = b.1 := Int.le_antisymm h1 h2
  have ha2 := hp.mem_iff.1 ha
  have hb2 := (srt_perm l).mem_iff.1 hb
  obtain ⟨i, hi, rfl⟩ := List.getElem_of_mem ha2
  obtain ⟨j, hj, rfl⟩ := List.getElem_of_mem hb2
  have hne : i = j := by
    have h3 := (List.nodup_iff_pairwise_ne.1 hn)
    rw [List.pairwise_iff_getElem] at h3
    rcases Nat.lt_trichotomy i j with h | h | h
    · exact absurd e (by have := h3 i j (by simpa using hi) (by simpa using hj) h; rwa [List.getElem_map, List.getElem_map] at this)
    · exact h
    · exact absurd e.symm (by have := h3 j i (by simpa using hj) (by simpa using hi) h; rwa [List.getElem_map, List.getElem_map] at this)
  subst hne; rfl
theorem srt_nodup {l : List (Int × Sp)} (hn : (l.map Prod.fst).Nodup) : ((srt l).map Prod.fst).Nodup := ((srt_perm l).map Prod.fst).nodup_iff.2 hn
theorem srt_len (l : List (Int × Sp)) : (srt l).length = l.length := (srt_perm l).length_eq
/-- Kind, and rows, of a name. -/
def Sc.kd (L : Sc) (s : ByteArray) : Int := knS L.S L.K s L.n
def Sc.rows (L : Sc) (s : ByteArray) : List (Int × Sp) := match fiS L.S s L.n with
  | some i => srt (L.R i)
  | none => []
theorem rows_some {L : Sc} {s : ByteArray} {i : Nat} (h : fiS L.S s L.n = some i) : L.rows s = srt (L.R i) := by unfold Sc.rows; rw [h]
theorem rows_none {L : Sc} {s : ByteArray} (h : fiS L.S s L.n = none) : L.rows s = [] := by unfold Sc.rows; rw [h]
structure Sc.ok (L : Sc) : Prop where
  le : L.n ≤ 1000
  fresh : ∀ i, i < L.n → fiS L.S (L.S i) i = none
  tags : ∀ i, i < L.n → ((L.R i).map Prod.fst).Nodup
/-- A slice in the map: rows. -/
def Sv (v : Option (Nat × Nat × Nat × Nat)) (l : List (Int × Sp)) (w : World) : Prop := ∃ o n c U, svV v = .slice o n c ∧ Fls o n U w ∧ rowL U n = l
theorem Sv.sub {v : Option (Nat × Nat × Nat × Nat)} {l : List (Int × Sp)} {w w' : World} (h : Sv v l w) (hb : Sub w w') : Sv v l w' := by
  obtain ⟨o, n, c, U, h1, h2, h3⟩ := h
  exact ⟨o, n, c, U, h1, h2.sub hb, h3⟩
/-- The map of all rows. -/
def Rm (m : Nat) (L : Sc) (w : World) : Prop := ∃ c G, Fmp m c G w ∧ ∀ s, (fiS L.S s L.n = none → G s = none) ∧ ∀ i, fiS L.S s L.n = some i → ∃ v, G s = some v ∧ Sv v (srt (L.R i)) w
theorem Rm.sub {m : Nat} {L : Sc} {w w' : World} (h : Rm m L w) (hb : Sub w w') : Rm m L w' := by
  obtain ⟨c, G, h1, h2⟩ := h
  exact ⟨c, G, h1.sub hb, fun s => ⟨(h2 s).1, fun i hi => by obtain ⟨v, a, b⟩ := (h2 s).2 i hi; exact ⟨v, a, b.sub hb⟩⟩⟩
end Go.Proofs.YtdogddliifbjnaaGreat.Ck
