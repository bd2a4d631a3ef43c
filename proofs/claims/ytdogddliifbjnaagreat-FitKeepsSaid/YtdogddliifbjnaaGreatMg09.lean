/- Schemas: ownType and ownField: types and fields in memory of their own. -/
import Derived.Deep.RegionHeld3
import Derived.RegionTactic
import Derived.Maps.OwnSet
import Derived.Maps.AppendAt
import Derived.Lib.SliceRun
import Derived.Test.YtdogddliifbjnaaGreatMg05
import Derived.Test.YtdogddliifbjnaaGreatMg07
import Derived.Test.YtdogddliifbjnaaGreatMg08
namespace Go.Proofs.YtdogddliifbjnaaGreat.Ck
open Go.RowKit Cm
open _root_.Go.Proofs.YtdogddliifbjnaaGreat.Nm
set_option linter.unusedVariables false
set_option linter.unusedSimpArgs false

/-- No more than N deep, and nowhere wide. -/
def Th : Nat → Sp → Prop
  | 0, _ => False
  | N + 1, s => s.of.length ≤ 1000 ∧ ∀ (i : Nat) (x : Sp), s.of[i]? = some x → Th N x
theorem Th.more : ∀ {N M : Nat} {s : Sp}, Th N s → N ≤ M → Th M s
  | 0, _, _, h, _ => h.elim
  | N + 1, M + 1, s, h, hm => ⟨h.1, fun i x hx => (h.2 i x hx).more (by omega)⟩
theorem th_of : ∀ (N : Nat) (t : Ty) (d : Nat), smB t d = true → 21 ≤ N + d → Th N t.sp
  | 0, .mk k n o c of, d => fun h hN => by
    unfold smB at h
    rw [Bool.and_eq_true, Bool.and_eq_true, decide_eq_true_eq] at h
    omega
  | N + 1, .mk k n o c of, d => fun h hN => by
    unfold smB at h
    rw [Bool.and_eq_true, Bool.and_eq_true, decide_eq_true_eq, decide_eq_true_eq, sms_iff] at h
    rw [sp_mk]
    refine ⟨by show (of.map Ty.sp).length ≤ 1000; rw [List.length_map]; omega, fun i x hx => ?_⟩
    have hx2 : (of.map Ty.sp)[i]? = some x := hx
    rw [List.getElem?_map] at hx2
    obtain ⟨u, hu, rfl⟩ := Option.map_eq_some_iff.1 hx2
    exact th_of N u (d + 1 + 2 * i) (h.2 i u hu) (by omega)
theorem th_len {N : Nat} {t : Ty} (h : Th N t.sp) : t.of.length ≤ 1000 := by
  cases N with
  | zero => exact h.elim
  | succ N => have := h.1; rw [sp_of, List.length_map] at this; exact this
theorem th_child {N i : Nat} {t u : Ty} (h : Th (N + 1) t.sp) (hi : t.of[i]? = some u) : Th N u.sp := h.2 i u.sp (by rw [sp_of, List.getElem?_map, hi]; rfl)
theorem ty_ex {w : World} {k : Int} {n : ByteArray} {o : Option Addr} {c : Nat} {of : List Ty} (h : TyIn w (.mk k n o c of)) : Ex 3 Ty.at3 o of.length (fun i => of.getD i default) w := fun i hi => by
  have hg : of[i]? = some (of.getD i default) := by rw [List.getD_eq_getElem?_getD, List.getElem?_eq_getElem hi]; rfl
  cases h with
  | mk _ _ _ _ _ hk hn hl hc hs => exact hc i _ hg
theorem ty_inner {w : World} {k : Int} {n : ByteArray} {o : Option Addr} {c i : Nat} {of : List Ty} {t : Ty} (h : TyIn w (.mk k n o c of)) (hi : of[i]? = some t) : TyIn w t := by
  cases h with
  | mk _ _ _ _ _ hk hn hl hc hs => exact hs i t hi
theorem ty_room {w : World} {t : Ty} (h : TyIn w t) : (-9223372036854775808 ≤ t.k ∧ t.k ≤ 9223372036854775807) ∧ t.n.size ≤ 140737488355327 := by
  cases h with
  | mk _ _ _ _ _ hk hn hl hc hs => exact ⟨hk, hn⟩
theorem getD_of {α : Type} [Inhabited α] {l : List α} {i : Nat} {a : α} (h : l[i]? = some a) : l.getD i default = a := by rw [List.getD_eq_getElem?_getD, h]; rfl
/-- A type whose inner ones are laid anew. -/
theorem ty_made {w : World} {k : Int} {n : ByteArray} {o : Option Addr} {c : Nat} {of : List Ty} {U : Nat → Ty} (hk : -9223372036854775808 ≤ k ∧ k ≤ 9223372036854775807) (hn : n.size ≤ 140737488355327) (hl : of.length ≤ 1000)
    (hE : Ex 3 Ty.at3 o of.length U w) (hU : ∀ i, i < of.length → TyIn w (U i) ∧ (U i).sp = (of.getD i default).sp) :
    ∃ us : List Ty, us.length = of.length ∧ TyIn w (.mk k n o c us) ∧ us.map Ty.sp = of.map Ty.sp := by
  have hg : ∀ (i : Nat) (t : Ty), ((List.range of.length).map U)[i]? = some t → i < of.length ∧ t = U i := fun i t hi => by
    rw [List.getElem?_map] at hi
    obtain ⟨x, hx, rfl⟩ := Option.map_eq_some_iff.1 hi
    have hlt := (List.getElem?_eq_some_iff.1 hx).1
    rw [List.length_range] at hlt
    rw [List.getElem?_range hlt] at hx
    obtain rfl := Option.some.inj hx
    exact ⟨hlt, rfl⟩
  refine ⟨(List.range of.length).map U, by simp, .mk k n o c _ hk hn (by simp; omega) (fun i t hi => ?_) (fun i t hi => ?_), ?_⟩
  · obtain ⟨h1, rfl⟩ := hg i t hi
    exact hE i h1
  · obtain ⟨h1, rfl⟩ := hg i t hi
    exact (hU i h1).1
  · apply List.ext_getElem?
    intro i
    rw [List.getElem?_map, List.getElem?_map, List.getElem?_map]
    by_cases hi : i < of.length
    · rw [List.getElem?_range hi, List.getElem?_eq_getElem hi]
      show some (U i).sp = some (of[i]).sp
      rw [(hU i hi).2, getD_of (List.getElem?_eq_getElem hi)]
    · rw [List.getElem?_eq_none (by simp; omega), List.getElem?_eq_none (by omega)]; rfl

set_option maxRecDepth 100000 in
set_option maxHeartbeats 2000000 in
theorem owntype_any : ∀ (N : Nat) (t : Ty) (w : World), Th N t.sp → TyIn w t →
    Calls Tryz.prog 69 #[.agg #[.int .i64 t.k, .string t.n, .slice t.o t.of.length t.c]] w fun e w' => ∃ u : Ty, e = .returned (.agg #[.int .i64 u.k, .string u.n, .slice u.o u.of.length u.c]) ∧ (u.sp = t.sp ∧ TyIn (cut (lo w.heap.size) w') u) ∧ Below w.heap.size w w' := by
  intro N
  induction N with
  | zero => intro t w h; exact h.elim
  | succ N ih =>
    intro t w hth hin
    obtain ⟨k, n, o, c, of⟩ := t
    have hlen := th_len hth
    have hlen2 : of.length ≤ 1000 := hlen
    have hsz : n.size ≤ 140737488355327 := (ty_room hin).2
    have hks := (ty_room hin).1
    show Calls Tryz.prog 69 #[.agg #[.int .i64 k, .string n, .slice o of.length c]] w _
    have hB0 := ((Below.refl w.heap.size w).alloc (Nat.le_refl _) (.cells #[.int .i64 k, .string n, .slice o of.length c] 48)).alloc (by simp) (.cells #[.int .i64 0, .string ⟨#[]⟩, .slice none 0 0] 48)
    have hC0 := (Cs.new w [.int .i64 k, .string n, .slice o of.length c] 48).alloc (.cells #[.int .i64 0, .string ⟨#[]⟩, .slice none 0 0] 48)
    have hG0 := Cs.new (w.alloc (.cells #[.int .i64 k, .string n, .slice o of.length c] 48)) [.int .i64 0, .string ⟨#[]⟩, .slice none 0 0] 48
    rw [show (w.alloc (.cells #[.int .i64 k, .string n, .slice o of.length c] 48)).heap.size = w.heap.size + 1 by simp] at hG0
    have HB0 := Lib.hid hB0
    have HC0 := Lib.hid hC0
    have HG0 := Lib.hid hG0
    have HIH := Lib.hid ih
    have HTH := Lib.hid hth
    have HIN := Lib.hid hin
    have HKS := Lib.hid hks
    have d1 := hC0.cell (i := 1) rfl
    have d2 := hC0.cell (i := 2) rfl
    have z1 := hC0.frozen (i := 1) rfl
    clear hB0 hC0 hG0 ih hth hin hlen hks
    have hea : ∀ w3 : World, Below w.heap.size w w3 → Calls Tryz.prog 95 #[.slice o of.length c, .func (.func 69) #[] #[]] w3 fun e w' => ∃ o' c' U, e = .returned (.slice o' of.length c') ∧ Below w3.heap.size w3 w' ∧ Ex 3 Ty.at3 o' of.length U (cut (lo w3.heap.size) w') ∧ ∀ i, i < of.length → TyIn (cut (lo w3.heap.size) w') (U i) ∧ (U i).sp = (of.getD i default).sp := by
      intro w3 hb3
      have hin3 := ty_below HIN.out hb3 (Nat.le_refl _)
      refine (each_type (fun i => of.getD i default) (fun i u w => TyIn w u ∧ u.sp = (of.getD i default).sp) (fun i u w w' h hb => ⟨ty_below h.1 hb (Nat.le_refl _), h.2⟩) (fun i u w w' h hb => ⟨ty_sub h.1 hb, h.2⟩) o of.length c w3 (by omega) (ty_ex hin3) (fun i hi w' hb' => ?_)).mono (fun e w' h => h)
      have hg : of[i]? = some (of.getD i default) := by rw [List.getD_eq_getElem?_getD, List.getElem?_eq_getElem hi]; rfl
      refine (HIH.out (of.getD i default) w' (th_child HTH.out hg) (ty_inner (ty_below hin3 hb' (Nat.le_refl _)) hg)).mono ?_
      rintro e w'' ⟨u, rfl, ⟨h1, h2⟩, h3⟩
      exact ⟨u, rfl, ⟨h2, h1⟩, h3⟩
    have HEA := Lib.hid hea
    clear hea
    go_enter Tryz.func69, Tryz.ntmps69
    go_wp2_with (first
      | (go_at_call 55; go_loud (refine (clone_any _ _ (by omega)).mono ?_; rintro e w2 ⟨rfl, hb2⟩; have hC1 := HC0.out.below hb2 HC0.out.lt; have hG1 := HG0.out.below hb2 HG0.out.lt; have HB1 := Lib.hid ((HB0.out.trans (hb2.mono HB0.out.size)).setCell (p := ⟨w.heap.size, 1, none⟩) (Nat.le_refl _) (.string n)); have HC1 := Lib.hid (hC1.put (i := 1) (.string n)); have HG1 := Lib.hid (hG1.set (b' := w.heap.size) (i := 1) (.string n) (by omega)); have e1 := hC1.cell (i := 1) rfl; have y1 := hC1.frozen (i := 1) rfl; have e2 := HC1.out.cell (i := 2) rfl; have HS2 := Lib.hid (show w.heap.size + 2 ≤ w2.heap.size by have := hb2.size; simp at this; omega); clear hC1 hG1 hb2))
      | (go_at_call 95; refine (HEA.out _ HB1.out).mono ?_; rintro e w4 ⟨o', c', U, rfl, hb4, hE4, hU4⟩; have HC4 := HC1.out.below hb4 HC1.out.lt; have HG4 := HG1.out.below hb4 HG1.out.lt; have k0 := HC4.cell (i := 0) rfl; have k1 := HC4.cell (i := 1) rfl; have k2 := HC4.cell (i := 2) rfl; have y2 := HC4.frozen (i := 2) rfl; have g0 := HG4.cell (i := 0) rfl; have g1 := HG4.cell (i := 1) rfl; have g2 := HG4.cell (i := 2) rfl; have x0 := HG4.frozen (i := 0) rfl; have x1 := HG4.frozen (i := 1) rfl; have x2 := HG4.frozen (i := 2) rfl))
    have hs3 : (w2.setCell ⟨w.heap.size, 1, none⟩ (.string n)).heap.size = w2.heap.size := by simp [World.setCell]
    have hs2 := HS2.out
    have hs4 := hb4.size
    rw [hs3] at hs4
    have hG5 := ((((HG4.set (b' := w.heap.size) (i := 2) (.slice o' of.length c') (by omega)).put (i := 0) (.int .i64 k)).put (i := 1) (.string n)).put (i := 2) (.slice o' of.length c'))
    have hBe : Be (lo w2.heap.size) w4 ((((w4.setCell ⟨w.heap.size, 2, none⟩ (.slice o' of.length c')).setCell ⟨w.heap.size + 1, 0, none⟩ (.int .i64 k)).setCell ⟨w.heap.size + 1, 1, none⟩ (.string n)).setCell ⟨w.heap.size + 1, 2, none⟩ (.slice o' of.length c')) :=
      ((((Be.refl _ w4).setCell (.inl (lo_pos (by omega))) _).setCell (.inl (lo_pos (by omega))) _).setCell (.inl (lo_pos (by omega))) _).setCell (.inl (lo_pos (by omega))) _
    have hBl : Below w.heap.size w ((((w4.setCell ⟨w.heap.size, 2, none⟩ (.slice o' of.length c')).setCell ⟨w.heap.size + 1, 0, none⟩ (.int .i64 k)).setCell ⟨w.heap.size + 1, 1, none⟩ (.string n)).setCell ⟨w.heap.size + 1, 2, none⟩ (.slice o' of.length c')) :=
      (((((HB1.out.trans (hb4.mono HB1.out.size)).setCell (p := ⟨w.heap.size, 2, none⟩) (Nat.le_refl _) _).setCell (p := ⟨w.heap.size + 1, 0, none⟩) (Nat.le_succ _) _).setCell (p := ⟨w.heap.size + 1, 1, none⟩) (Nat.le_succ _) _).setCell (p := ⟨w.heap.size + 1, 2, none⟩) (Nat.le_succ _) _)
    generalize ((((w4.setCell ⟨w.heap.size, 2, none⟩ (.slice o' of.length c')).setCell ⟨w.heap.size + 1, 0, none⟩ (.int .i64 k)).setCell ⟨w.heap.size + 1, 1, none⟩ (.string n)).setCell ⟨w.heap.size + 1, 2, none⟩ (.slice o' of.length c')) = W at hG5 hBe hBl ⊢
    have d0 := hG5.cell (i := 0) rfl
    have d1 := hG5.cell (i := 1) rfl
    have d2 := hG5.cell (i := 2) rfl
    rw [hs3] at hE4 hU4
    have hst : ∀ {X : World → Prop}, (∀ a b, X a → Below a.heap.size a b → X b) → (∀ a b, X a → Sub a b → X b) → X (cut (lo w2.heap.size) w4) → X (cut (lo w.heap.size) W) := fun h1 h2 h => h2 _ _ (h1 _ _ h (by rw [cut_size]; exact hBe)) (cut_sub W (fun k _ hk => by simp [lo] at hk ⊢; omega))
    obtain ⟨us, hul, hui, hus⟩ := ty_made (k := k) (n := n) (c := c') HKS.out hsz hlen2 (hst (X := fun w => Ex 3 Ty.at3 o' of.length U w) (fun a b h hb => h.below hb) (fun a b h hb => h.sub hb) hE4)
      (fun i hi => ⟨hst (X := fun w => TyIn w (U i)) (fun a b h hb => ty_below h hb (Nat.le_refl _)) (fun a b h hb => ty_sub h hb) (hU4 i hi).1, (hU4 i hi).2⟩)
    refine bodyPost_ret (by simp [results, Tryz.results69, go_sem, d0, d1, d2]; try rfl) rfl ?_
    refine ⟨.mk k n o' c' us, ?_, ⟨by rw [sp_mk, sp_mk, hus], hui⟩, hBl⟩
    show _ = Ending.returned (.agg #[.int .i64 k, .string n, .slice o' us.length c'])
    rw [hul]
end Go.Proofs.YtdogddliifbjnaaGreat.Ck
/- Schemas: ownField, and each over fields. -/
namespace Go.Proofs.YtdogddliifbjnaaGreat.Ck
open Go.RowKit Cm
open _root_.Go.Proofs.YtdogddliifbjnaaGreat.Nm
set_option linter.unusedVariables false
set_option linter.unusedSimpArgs false

/-- What is known of a field; of fields. -/
structure F1 (f : Fz) (w : World) : Prop where
  ty : TyIn w f.Y
  th : Th 21 f.Y.sp
  sz : f.N.size ≤ 140737488355327
  lo : -9223372036854775808 ≤ f.T
  hi : f.T ≤ 9223372036854775807
def Fls (o : Option Addr) (n : Nat) (U : Nat → Fz) (w : World) : Prop := Ex 5 Fz.at5 o n U w ∧ n ≤ 1000 ∧ ∀ i, i < n → F1 (U i) w
theorem F1.sub {f : Fz} {w w' : World} (h : F1 f w) (hb : Sub w w') : F1 f w' := ⟨ty_sub h.ty hb, h.th, h.sz, h.lo, h.hi⟩
theorem F1.below {f : Fz} {w w' : World} (h : F1 f w) (hb : Below w.heap.size w w') : F1 f w' := h.sub (Sub.of_below hb)
theorem Fls.sub {o : Option Addr} {n : Nat} {U : Nat → Fz} {w w' : World} (h : Fls o n U w) (hb : Sub w w') : Fls o n U w' := ⟨h.1.sub hb, h.2.1, fun i hi => (h.2.2 i hi).sub hb⟩
theorem Fls.below {o : Option Addr} {n : Nat} {U : Nat → Fz} {w w' : World} (h : Fls o n U w) (hb : Below w.heap.size w w') : Fls o n U w' := h.sub (Sub.of_below hb)
/-- Fields that say the same. -/
def Fq (f g : Fz) : Prop := f.T = g.T ∧ f.N = g.N ∧ f.Y.sp = g.Y.sp
theorem Fq.trans {f g h : Fz} (a : Fq f g) (b : Fq g h) : Fq f h := ⟨a.1.trans b.1, a.2.1.trans b.2.1, a.2.2.trans b.2.2⟩
theorem F1.of_q {f g : Fz} {w w' : World} (h : F1 f w) (hq : Fq g f) (ht : TyIn w' g.Y) : F1 g w' := ⟨ht, by rw [hq.2.2]; exact h.th, by rw [hq.2.1]; exact h.sz, by rw [hq.1]; exact h.lo, by rw [hq.1]; exact h.hi⟩

set_option maxRecDepth 100000 in
set_option maxHeartbeats 2000000 in
theorem ownfield_any (f : Fz) (w : World) (h : F1 f w) :
    Calls Tryz.prog 36 #[.agg #[.int .i64 f.T, .string f.N, .int .i64 f.Y.k, .string f.Y.n, .slice f.Y.o f.Y.of.length f.Y.c]] w fun e w' => ∃ u : Fz, e = .returned (.agg #[.int .i64 u.T, .string u.N, .int .i64 u.Y.k, .string u.Y.n, .slice u.Y.o u.Y.of.length u.Y.c]) ∧ (Fq u f ∧ TyIn (cut (lo w.heap.size) w') u.Y) ∧ Below w.heap.size w w' := by
  obtain ⟨T, nm, Y⟩ := f
  have hsz : nm.size ≤ 140737488355327 := h.sz
  show Calls Tryz.prog 36 #[.agg #[.int .i64 T, .string nm, .int .i64 Y.k, .string Y.n, .slice Y.o Y.of.length Y.c]] w _
  have hB0 := ((Below.refl w.heap.size w).alloc (Nat.le_refl _) (.cells #[.int .i64 T, .string nm, .int .i64 Y.k, .string Y.n, .slice Y.o Y.of.length Y.c] 50)).alloc (by simp) (.cells #[.int .i64 0, .string ⟨#[]⟩, .int .i64 0, .string ⟨#[]⟩, .slice none 0 0] 50)
  have hC0 := (Cs.new w [.int .i64 T, .string nm, .int .i64 Y.k, .string Y.n, .slice Y.o Y.of.length Y.c] 50).alloc (.cells #[.int .i64 0, .string ⟨#[]⟩, .int .i64 0, .string ⟨#[]⟩, .slice none 0 0] 50)
  have hG0 := Cs.new (w.alloc (.cells #[.int .i64 T, .string nm, .int .i64 Y.k, .string Y.n, .slice Y.o Y.of.length Y.c] 50)) [.int .i64 0, .string ⟨#[]⟩, .int .i64 0, .string ⟨#[]⟩, .slice none 0 0] 50
  rw [show (w.alloc (.cells #[.int .i64 T, .string nm, .int .i64 Y.k, .string Y.n, .slice Y.o Y.of.length Y.c] 50)).heap.size = w.heap.size + 1 by simp] at hG0
  have HB0 := Lib.hid hB0
  have HC0 := Lib.hid hC0
  have HG0 := Lib.hid hG0
  have HH := Lib.hid h
  have d1 := hC0.cell (i := 1) rfl
  have z1 := hC0.frozen (i := 1) rfl
  clear hB0 hC0 hG0 h
  go_enter Tryz.func36, Tryz.ntmps36
  go_wp2_with (first
    | (go_at_call 55; go_loud (refine (clone_any _ _ (by omega)).mono ?_; rintro e w2 ⟨rfl, hb2⟩; have hC1 := HC0.out.below hb2 HC0.out.lt; have hG1 := HG0.out.below hb2 HG0.out.lt; have HB1 := Lib.hid ((HB0.out.trans (hb2.mono HB0.out.size)).setCell (p := ⟨w.heap.size, 1, none⟩) (Nat.le_refl _) (.string nm)); have HC1 := Lib.hid (hC1.put (i := 1) (.string nm)); have HG1 := Lib.hid (hG1.set (b' := w.heap.size) (i := 1) (.string nm) (by omega)); have e1 := hC1.cell (i := 1) rfl; have y1 := hC1.frozen (i := 1) rfl; have e2 := HC1.out.cell (i := 2) rfl; have e3 := HC1.out.cell (i := 3) rfl; have e4 := HC1.out.cell (i := 4) rfl; have HS2 := Lib.hid (show w.heap.size + 2 ≤ w2.heap.size by have := hb2.size; simp at this; omega); clear hC1 hG1 hb2))
    | (go_at_call 69; go_loud (refine (owntype_any 21 Y _ HH.out.th (ty_below HH.out.ty HB1.out (Nat.le_refl _))).mono ?_; rintro e w4 ⟨u, rfl, ⟨hus, hu4⟩, hb4⟩; have hC4 := HC1.out.below hb4 HC1.out.lt; have hG4 := HG1.out.below hb4 HG1.out.lt; have k0 := hC4.cell (i := 0) rfl; have k1 := hC4.cell (i := 1) rfl; have k2 := hC4.cell (i := 2) rfl; have k3 := hC4.cell (i := 3) rfl; have k4 := hC4.cell (i := 4) rfl; have y2 := hC4.frozen (i := 2) rfl; have y3 := hC4.frozen (i := 3) rfl; have y4 := hC4.frozen (i := 4) rfl; have g0 := hG4.cell (i := 0) rfl; have g1 := hG4.cell (i := 1) rfl; have g2 := hG4.cell (i := 2) rfl; have g3 := hG4.cell (i := 3) rfl; have g4 := hG4.cell (i := 4) rfl; have x0 := hG4.frozen (i := 0) rfl; have x1 := hG4.frozen (i := 1) rfl; have x2 := hG4.frozen (i := 2) rfl; have x3 := hG4.frozen (i := 3) rfl; have x4 := hG4.frozen (i := 4) rfl; have HC4 := Lib.hid hC4; have HG4 := Lib.hid hG4; clear hC4 hG4)))
  have hs3 : (w2.setCell ⟨w.heap.size, 1, none⟩ (.string nm)).heap.size = w2.heap.size := by simp [World.setCell]
  have hs2 := HS2.out
  have hs4 := hb4.size
  rw [hs3] at hs4
  have hG5 := (((((((HG4.out.set (b' := w.heap.size) (i := 2) (.int .i64 u.k) (by omega)).set (b' := w.heap.size) (i := 3) (.string u.n) (by omega)).set (b' := w.heap.size) (i := 4) (.slice u.o u.of.length u.c) (by omega)).put (i := 0) (.int .i64 T)).put (i := 1) (.string nm)).put (i := 2) (.int .i64 u.k)).put (i := 3) (.string u.n)).put (i := 4) (.slice u.o u.of.length u.c)
  have hBe := ((((((((Be.refl (lo w2.heap.size) w4).setCell (b := w.heap.size) (o := 2) (.inl (lo_pos (by omega))) (.int .i64 u.k)).setCell (b := w.heap.size) (o := 3) (.inl (lo_pos (by omega))) (.string u.n)).setCell (b := w.heap.size) (o := 4) (.inl (lo_pos (by omega))) (.slice u.o u.of.length u.c)).setCell (b := w.heap.size + 1) (o := 0) (.inl (lo_pos (by omega))) (.int .i64 T)).setCell (b := w.heap.size + 1) (o := 1) (.inl (lo_pos (by omega))) (.string nm)).setCell (b := w.heap.size + 1) (o := 2) (.inl (lo_pos (by omega))) (.int .i64 u.k)).setCell (b := w.heap.size + 1) (o := 3) (.inl (lo_pos (by omega))) (.string u.n)).setCell (b := w.heap.size + 1) (o := 4) (.inl (lo_pos (by omega))) (.slice u.o u.of.length u.c)
  have hBl := (((((((((HB1.out.trans (hb4.mono HB1.out.size)).setCell (p := ⟨w.heap.size, 2, none⟩) (Nat.le_refl _) (.int .i64 u.k)).setCell (p := ⟨w.heap.size, 3, none⟩) (Nat.le_refl _) (.string u.n)).setCell (p := ⟨w.heap.size, 4, none⟩) (Nat.le_refl _) (.slice u.o u.of.length u.c)).setCell (p := ⟨w.heap.size + 1, 0, none⟩) (Nat.le_succ _) (.int .i64 T)).setCell (p := ⟨w.heap.size + 1, 1, none⟩) (Nat.le_succ _) (.string nm)).setCell (p := ⟨w.heap.size + 1, 2, none⟩) (Nat.le_succ _) (.int .i64 u.k)).setCell (p := ⟨w.heap.size + 1, 3, none⟩) (Nat.le_succ _) (.string u.n)).setCell (p := ⟨w.heap.size + 1, 4, none⟩) (Nat.le_succ _) (.slice u.o u.of.length u.c))
  generalize ((((((((w4.setCell ⟨w.heap.size, 2, none⟩ (.int .i64 u.k)).setCell ⟨w.heap.size, 3, none⟩ (.string u.n)).setCell ⟨w.heap.size, 4, none⟩ (.slice u.o u.of.length u.c)).setCell ⟨w.heap.size + 1, 0, none⟩ (.int .i64 T)).setCell ⟨w.heap.size + 1, 1, none⟩ (.string nm)).setCell ⟨w.heap.size + 1, 2, none⟩ (.int .i64 u.k)).setCell ⟨w.heap.size + 1, 3, none⟩ (.string u.n)).setCell ⟨w.heap.size + 1, 4, none⟩ (.slice u.o u.of.length u.c)) = W at hG5 hBe hBl ⊢
  have d0 := hG5.cell (i := 0) rfl
  have d1 := hG5.cell (i := 1) rfl
  have d2 := hG5.cell (i := 2) rfl
  have d3 := hG5.cell (i := 3) rfl
  have d4 := hG5.cell (i := 4) rfl
  rw [hs3] at hu4
  have hut : TyIn (cut (lo w.heap.size) W) u := ty_sub (ty_below hu4 (by unfold Be at hBe; exact hBe) (by rw [cut_size]; exact Nat.le_refl _)) (cut_sub W (fun k _ hk => by simp [lo] at hk ⊢; omega))
  refine bodyPost_ret (by simp [results, Tryz.results36, go_sem, d0, d1, d2, d3, d4]; try rfl) rfl ?_
  exact ⟨⟨T, nm, u⟩, rfl, ⟨⟨rfl, rfl, hus⟩, hut⟩, hBl⟩

theorem eachfield_any (o : Option Addr) (n c : Nat) (X : Nat → Fz) (w : World) (h : Fls o n X w) :
    Calls Tryz.prog 34 #[.slice o n c, .func (.func 36) #[] #[]] w fun e w' => ∃ o' c' U, e = .returned (.slice o' n c') ∧ Below w.heap.size w w' ∧ Fls o' n U (cut (lo w.heap.size) w') ∧ ∀ i, i < n → Fq (U i) (X i) := by
  refine (each_field X (fun i u w => TyIn w u.Y ∧ Fq u (X i)) (fun i u w w' h hb => ⟨ty_below h.1 hb (Nat.le_refl _), h.2⟩) (fun i u w w' h hb => ⟨ty_sub h.1 hb, h.2⟩) o n c w (by have := h.2.1; omega) h.1 (fun i hi w' hb' => ?_)).mono ?_
  · refine (ownfield_any (X i) w' ((h.2.2 i hi).below hb')).mono ?_
    rintro e w'' ⟨u, rfl, ⟨h1, h2⟩, h3⟩
    exact ⟨u, rfl, ⟨h2, h1⟩, h3⟩
  · rintro e w' ⟨o', c', U, rfl, hb, hE, hU⟩
    exact ⟨o', c', U, rfl, hb, ⟨hE, h.2.1, fun i hi => (h.2.2 i hi).of_q (hU i hi).2 (hU i hi).1⟩, fun i hi => (hU i hi).2⟩
end Go.Proofs.YtdogddliifbjnaaGreat.Ck
/- Schemas: ownMethod, and each over methods; ownDecl, and each over declarations. -/
namespace Go.Proofs.YtdogddliifbjnaaGreat.Ck
open Go.RowKit Cm
open _root_.Go.Proofs.YtdogddliifbjnaaGreat.Nm
set_option linter.unusedVariables false
set_option linter.unusedSimpArgs false

/-- A method's cells, and those of the result beside. -/
def Cp (B : Nat) (vs zs : List Value) (w w' : World) : Prop := Cs B vs w' ∧ Cs (B + 1) zs w' ∧ Below B w w'
theorem Cp.below {B : Nat} {vs zs : List Value} {w a b : World} (h : Cp B vs zs w a) (hb : Below a.heap.size a b) : Cp B vs zs w b :=
  ⟨h.1.below hb h.1.lt, h.2.1.below hb h.2.1.lt, h.2.2.trans (hb.mono (by have := h.1.lt; omega))⟩
theorem Cp.put {B i : Nat} {vs zs : List Value} {v : Value} {w a : World} (h : Cp B vs zs w a) (hv : vs.set i v = vs) : Cp B vs zs w (a.setCell ⟨B, i, none⟩ v) :=
  ⟨hv ▸ h.1.put (i := i) v, h.2.1.other v (by omega), h.2.2.setCell (p := ⟨B, i, none⟩) (Nat.le_refl _) _⟩
/-- What the region holds. -/
theorem Cp.held {B : Nat} {v0 v1 v2 v3 v4 : Value} {zs : List Value} {w a : World} (h : Cp B [v0, v1, v2, v3, v4] zs w a) :
    (a.cell? ⟨B, 1, none⟩ = some v1 ∧ a.cell? ⟨B, 2, none⟩ = some v2 ∧ a.cell? ⟨B, 3, none⟩ = some v3 ∧ a.frozen? ⟨B, 1, none⟩ = false ∧ a.frozen? ⟨B, 2, none⟩ = false ∧ a.frozen? ⟨B, 3, none⟩ = false) ∧ Cp B [v0, v1, v2, v3, v4] zs w a :=
  ⟨⟨h.1.cell (i := 1) rfl, h.1.cell (i := 2) rfl, h.1.cell (i := 3) rfl, h.1.frozen (i := 1) rfl, h.1.frozen (i := 2) rfl, h.1.frozen (i := 3) rfl⟩, h⟩

set_option maxRecDepth 100000 in
set_option maxHeartbeats 2000000 in
theorem ownmethod_any (k : Int) (n i o : ByteArray) (b : Bool) (w : World) (hn : n.size ≤ 140737488355327) (hi : i.size ≤ 140737488355327) (ho : o.size ≤ 140737488355327) :
    Calls Tryz.prog 57 #[.agg #[.int .i64 k, .string n, .string i, .string o, .bool b]] w fun e w' => e = .returned (.agg #[.int .i64 k, .string n, .string i, .string o, .bool b]) ∧ Below w.heap.size w w' := by
  have hP : Cp w.heap.size [.int .i64 k, .string n, .string i, .string o, .bool b] [.int .i64 0, .string ⟨#[]⟩, .string ⟨#[]⟩, .string ⟨#[]⟩, .bool false] w
      ((w.alloc (.cells #[.int .i64 k, .string n, .string i, .string o, .bool b] 98)).alloc (.cells #[.int .i64 0, .string ⟨#[]⟩, .string ⟨#[]⟩, .string ⟨#[]⟩, .bool false] 98)).drew :=
    ⟨((Cs.new w _ _).alloc _).drew, by simpa using (Cs.new (w.alloc (.cells #[.int .i64 k, .string n, .string i, .string o, .bool b] 98)) [.int .i64 0, .string ⟨#[]⟩, .string ⟨#[]⟩, .string ⟨#[]⟩, .bool false] 98).drew,
      (((Below.refl w.heap.size w).alloc (Nat.le_refl _) _).alloc (by simp) _).drew⟩
  go_enter Tryz.func57, Tryz.ntmps57
  go_wp2
  go_region_held3 (fun w' => (w'.cell? ⟨w.heap.size, 1, none⟩ = some (.string n) ∧ w'.cell? ⟨w.heap.size, 2, none⟩ = some (.string i) ∧ w'.cell? ⟨w.heap.size, 3, none⟩ = some (.string o) ∧ w'.frozen? ⟨w.heap.size, 1, none⟩ = false ∧ w'.frozen? ⟨w.heap.size, 2, none⟩ = false ∧ w'.frozen? ⟨w.heap.size, 3, none⟩ = false) ∧ Cp w.heap.size [.int .i64 k, .string n, .string i, .string o, .bool b] [.int .i64 0, .string ⟨#[]⟩, .string ⟨#[]⟩, .string ⟨#[]⟩, .bool false] w w')
    (first | exact hP.held | (refine Cp.held (Cp.put (And.right (by assumption)) rfl)))
    (first | (go_at_call 55; refine (clone_any _ _ (by omega)).mono ?_; rintro e w4 ⟨rfl, hb4⟩; replace hP := hP.below hb4))
  rename_i hH
  have hP5 := hH.2
  clear hH
  generalize (((w4.setCell ⟨w.heap.size, 1, none⟩ (.string n)).setCell ⟨w.heap.size, 2, none⟩ (.string i)).setCell ⟨w.heap.size, 3, none⟩ (.string o)) = w5 at hP5 ⊢
  obtain ⟨hC, hZ, hb5⟩ := hP5
  have d0 := hC.cell (i := 0) rfl
  have d1 := hC.cell (i := 1) rfl
  have d2 := hC.cell (i := 2) rfl
  have d3 := hC.cell (i := 3) rfl
  have d4 := hC.cell (i := 4) rfl
  have e0 := hZ.cell (i := 0) rfl
  have e1 := hZ.cell (i := 1) rfl
  have e2 := hZ.cell (i := 2) rfl
  have e3 := hZ.cell (i := 3) rfl
  have e4 := hZ.cell (i := 4) rfl
  have f0 := hZ.frozen (i := 0) rfl
  have f1 := hZ.frozen (i := 1) rfl
  have f2 := hZ.frozen (i := 2) rfl
  have f3 := hZ.frozen (i := 3) rfl
  have f4 := hZ.frozen (i := 4) rfl
  clear hC hP
  go_wp2
  have hZ6 := ((((hZ.put (i := 0) (.int .i64 k)).put (i := 1) (.string n)).put (i := 2) (.string i)).put (i := 3) (.string o)).put (i := 4) (.bool b)
  have hb6 := ((((hb5.setCell (p := ⟨w.heap.size + 1, 0, none⟩) (Nat.le_succ _) (.int .i64 k)).setCell (p := ⟨w.heap.size + 1, 1, none⟩) (Nat.le_succ _) (.string n)).setCell (p := ⟨w.heap.size + 1, 2, none⟩) (Nat.le_succ _) (.string i)).setCell (p := ⟨w.heap.size + 1, 3, none⟩) (Nat.le_succ _) (.string o)).setCell (p := ⟨w.heap.size + 1, 4, none⟩) (Nat.le_succ _) (.bool b)
  generalize (((((w5.setCell ⟨w.heap.size + 1, 0, none⟩ (.int .i64 k)).setCell ⟨w.heap.size + 1, 1, none⟩ (.string n)).setCell ⟨w.heap.size + 1, 2, none⟩ (.string i)).setCell ⟨w.heap.size + 1, 3, none⟩ (.string o)).setCell ⟨w.heap.size + 1, 4, none⟩ (.bool b)) = w6 at hZ6 hb6 ⊢
  clear d0 d1 d2 d3 d4 e0 e1 e2 e3 e4 f0 f1 f2 f3 f4
  have d0 := hZ6.cell (i := 0) rfl
  have d1 := hZ6.cell (i := 1) rfl
  have d2 := hZ6.cell (i := 2) rfl
  have d3 := hZ6.cell (i := 3) rfl
  have d4 := hZ6.cell (i := 4) rfl
  refine bodyPost_ret (by simp [results, Tryz.results57, go_sem, d0, d1, d2, d3, d4]; try rfl) rfl ?_
  exact ⟨rfl, hb6⟩

/-- What is known of a method; of methods. -/
def M1 (m : Mz) : Prop := m.N.size ≤ 140737488355327 ∧ m.I.size ≤ 140737488355327 ∧ m.O.size ≤ 140737488355327
def Ms (o : Option Addr) (n : Nat) (V : Nat → Mz) (w : World) : Prop := Ex 5 Mz.at5 o n V w ∧ n ≤ 1000 ∧ ∀ i, i < n → M1 (V i)
theorem Ms.sub {o : Option Addr} {n : Nat} {V : Nat → Mz} {w w' : World} (h : Ms o n V w) (hb : Sub w w') : Ms o n V w' := ⟨h.1.sub hb, h.2⟩
theorem Ms.below {o : Option Addr} {n : Nat} {V : Nat → Mz} {w w' : World} (h : Ms o n V w) (hb : Below w.heap.size w w') : Ms o n V w' := h.sub (Sub.of_below hb)
theorem eachmethod_any (o : Option Addr) (n c : Nat) (X : Nat → Mz) (w : World) (h : Ms o n X w) :
    Calls Tryz.prog 56 #[.slice o n c, .func (.func 57) #[] #[]] w fun e w' => ∃ o' c' U, e = .returned (.slice o' n c') ∧ Below w.heap.size w w' ∧ Ms o' n U (cut (lo w.heap.size) w') := by
  refine (each_method X (fun i u w => u = X i) (fun i u w w' h hb => h) (fun i u w w' h hb => h) o n c w (by have := h.2.1; omega) h.1 (fun i hi w' hb' => ?_)).mono ?_
  · refine (ownmethod_any (X i).T (X i).N (X i).I (X i).O (X i).W w' (h.2.2 i hi).1 (h.2.2 i hi).2.1 (h.2.2 i hi).2.2).mono ?_
    rintro e w'' ⟨rfl, h3⟩
    exact ⟨X i, rfl, rfl, h3⟩
  · rintro e w' ⟨o', c', U, rfl, hb, hE, hU⟩
    exact ⟨o', c', U, rfl, hb, hE, h.2.1, fun i hi => by rw [hU i hi]; exact h.2.2 i hi⟩

/-- What is known of a declaration; of declarations. -/
structure D1 (d : Dz) (U : Nat → Fz) (V : Nat → Mz) (w : World) : Prop where
  f : Fls d.fo d.fl U w
  m : Ms d.mo d.ml V w
  sz : d.S.size ≤ 140737488355327
  lo : -9223372036854775808 ≤ d.K
  hi : d.K ≤ 9223372036854775807
def Ds (o : Option Addr) (n : Nat) (X : Nat → Dz) (U : Nat → Nat → Fz) (V : Nat → Nat → Mz) (w : World) : Prop := Ex 5 Dz.at5 o n X w ∧ n ≤ 1000 ∧ ∀ i, i < n → D1 (X i) (U i) (V i) w
theorem D1.sub {d : Dz} {U : Nat → Fz} {V : Nat → Mz} {w w' : World} (h : D1 d U V w) (hb : Sub w w') : D1 d U V w' := ⟨h.f.sub hb, h.m.sub hb, h.sz, h.lo, h.hi⟩
theorem D1.below {d : Dz} {U : Nat → Fz} {V : Nat → Mz} {w w' : World} (h : D1 d U V w) (hb : Below w.heap.size w w') : D1 d U V w' := h.sub (Sub.of_below hb)
theorem Ds.sub {o : Option Addr} {n : Nat} {X : Nat → Dz} {U : Nat → Nat → Fz} {V : Nat → Nat → Mz} {w w' : World} (h : Ds o n X U V w) (hb : Sub w w') : Ds o n X U V w' := ⟨h.1.sub hb, h.2.1, fun i hi => (h.2.2 i hi).sub hb⟩
theorem Ds.below {o : Option Addr} {n : Nat} {X : Nat → Dz} {U : Nat → Nat → Fz} {V : Nat → Nat → Mz} {w w' : World} (h : Ds o n X U V w) (hb : Below w.heap.size w w') : Ds o n X U V w' := h.sub (Sub.of_below hb)
/-- Declarations that say the same. -/
def Dq (d d' : Dz) (U U' : Nat → Fz) : Prop := d.K = d'.K ∧ d.S = d'.S ∧ d.fl = d'.fl ∧ ∀ i, i < d'.fl → Fq (U i) (U' i)

set_option maxRecDepth 100000 in
set_option maxHeartbeats 2000000 in
theorem owndecl_any (d : Dz) (U : Nat → Fz) (V : Nat → Mz) (w : World) (h : D1 d U V w) :
    Calls Tryz.prog 29 #[.agg #[.int .i64 d.K, .string d.S, .slice d.fo d.fl d.fc, .slice d.mo d.ml d.mc, .int .i64 d.A]] w fun e w' => ∃ u : Dz, e = .returned (.agg #[.int .i64 u.K, .string u.S, .slice u.fo u.fl u.fc, .slice u.mo u.ml u.mc, .int .i64 u.A]) ∧ (∃ U' V', D1 u U' V' (cut (lo w.heap.size) w') ∧ Dq u d U' U) ∧ Below w.heap.size w w' := by
  obtain ⟨K, S, fo, fl, fc, mo, ml, mc, A⟩ := d
  have hsz : S.size ≤ 140737488355327 := h.sz
  show Calls Tryz.prog 29 #[.agg #[.int .i64 K, .string S, .slice fo fl fc, .slice mo ml mc, .int .i64 A]] w _
  have hB0 := ((Below.refl w.heap.size w).alloc (Nat.le_refl _) (.cells #[.int .i64 K, .string S, .slice fo fl fc, .slice mo ml mc, .int .i64 A] 43)).alloc (by simp) (.cells #[.int .i64 0, .string ⟨#[]⟩, .slice none 0 0, .slice none 0 0, .int .i64 0] 43)
  have hC0 := (Cs.new w [.int .i64 K, .string S, .slice fo fl fc, .slice mo ml mc, .int .i64 A] 43).alloc (.cells #[.int .i64 0, .string ⟨#[]⟩, .slice none 0 0, .slice none 0 0, .int .i64 0] 43)
  have hG0 := Cs.new (w.alloc (.cells #[.int .i64 K, .string S, .slice fo fl fc, .slice mo ml mc, .int .i64 A] 43)) [.int .i64 0, .string ⟨#[]⟩, .slice none 0 0, .slice none 0 0, .int .i64 0] 43
  rw [show (w.alloc (.cells #[.int .i64 K, .string S, .slice fo fl fc, .slice mo ml mc, .int .i64 A] 43)).heap.size = w.heap.size + 1 by simp] at hG0
  have HB0 := Lib.hid hB0
  have HC0 := Lib.hid hC0
  have HG0 := Lib.hid hG0
  have HH := Lib.hid h
  have d1 := hC0.cell (i := 1) rfl
  have z1 := hC0.frozen (i := 1) rfl
  clear hB0 hC0 hG0 h
  go_enter Tryz.func29, Tryz.ntmps29
  go_wp2_with (first
    | (go_at_call 55; go_loud (refine (clone_any _ _ (by omega)).mono ?_; rintro e w2 ⟨rfl, hb2⟩; have hC1 := HC0.out.below hb2 HC0.out.lt; have hG1 := HG0.out.below hb2 HG0.out.lt; have HB1 := Lib.hid ((HB0.out.trans (hb2.mono HB0.out.size)).setCell (p := ⟨w.heap.size, 1, none⟩) (Nat.le_refl _) (.string S)); have HC1 := Lib.hid (hC1.put (i := 1) (.string S)); have HG1 := Lib.hid (hG1.set (b' := w.heap.size) (i := 1) (.string S) (by omega)); have e1 := hC1.cell (i := 1) rfl; have y1 := hC1.frozen (i := 1) rfl; have e2 := HC1.out.cell (i := 2) rfl; have HS2 := Lib.hid (show w.heap.size + 2 ≤ w2.heap.size by have := hb2.size; simp at this; omega); clear hC1 hG1 hb2))
    | (go_at_call 34; go_loud (refine (eachfield_any fo fl fc U _ (HH.out.f.below HB1.out)).mono ?_; rintro e w4 ⟨o1, c1, U1, rfl, hb4, hf4, hq4⟩; have hs3 := (show (w2.setCell ⟨w.heap.size, 1, none⟩ (.string S)).heap.size = w2.heap.size by simp [World.setCell]); have hs4 := hb4.size; have hC4 := HC1.out.below hb4 HC1.out.lt; have hG4 := HG1.out.below hb4 HG1.out.lt; have k2 := hC4.cell (i := 2) rfl; have y2 := hC4.frozen (i := 2) rfl; have HC4 := Lib.hid (hC4.put (i := 2) (.slice o1 fl c1)); have k3 := HC4.out.cell (i := 3) rfl; have HG4 := Lib.hid (hG4.set (b' := w.heap.size) (i := 2) (.slice o1 fl c1) (by omega)); have HB4 := Lib.hid ((HB1.out.trans (hb4.mono HB1.out.size)).setCell (p := ⟨w.heap.size, 2, none⟩) (Nat.le_refl _) (.slice o1 fl c1)); have HE4 := Lib.hid ((Be.refl (lo w2.heap.size) w4).setCell (b := w.heap.size) (o := 2) (.inl (lo_pos (by have := HS2.out; omega))) (.slice o1 fl c1)); have HF4 := Lib.hid hf4; have HQ4 := Lib.hid hq4; have HS4 := Lib.hid (hs3 ▸ hs4); clear hC4 hG4 hf4 hq4 hb4 hs3 hs4))
    | (go_at_call 56; go_loud (refine (eachmethod_any mo ml mc V _ (HH.out.m.below HB4.out)).mono ?_; rintro e w6 ⟨o2, c2, V2, rfl, hb6, hm6⟩; have hC6 := HC4.out.below hb6 HC4.out.lt; have hG6 := HG4.out.below hb6 HG4.out.lt; have k0 := hC6.cell (i := 0) rfl; have k1 := hC6.cell (i := 1) rfl; have j2 := hC6.cell (i := 2) rfl; have j3 := hC6.cell (i := 3) rfl; have k4 := hC6.cell (i := 4) rfl; have y3 := hC6.frozen (i := 3) rfl; have g0 := hG6.cell (i := 0) rfl; have g1 := hG6.cell (i := 1) rfl; have g2 := hG6.cell (i := 2) rfl; have g3 := hG6.cell (i := 3) rfl; have g4 := hG6.cell (i := 4) rfl; have x0 := hG6.frozen (i := 0) rfl; have x1 := hG6.frozen (i := 1) rfl; have x2 := hG6.frozen (i := 2) rfl; have x3 := hG6.frozen (i := 3) rfl; have x4 := hG6.frozen (i := 4) rfl; have HG6 := Lib.hid hG6; have HM6 := Lib.hid hm6; have HB6 := Lib.hid hb6; clear hC6 hG6 hm6 hb6)))
  have hs2 := HS2.out
  have hs4 := HS4.out
  have hs5 : (w4.setCell ⟨w.heap.size, 2, none⟩ (.slice o1 fl c1)).heap.size = w4.heap.size := by simp [World.setCell]
  have hG7 := ((((((HG6.out.set (b' := w.heap.size) (i := 3) (.slice o2 ml c2) (by omega)).put (i := 0) (.int .i64 K)).put (i := 1) (.string S)).put (i := 2) (.slice o1 fl c1)).put (i := 3) (.slice o2 ml c2)).put (i := 4) (.int .i64 A))
  have hBf := (((((((HE4.out.trans (Be.of HB6.out)).setCell (b := w.heap.size) (o := 3) (.inl (lo_pos (by omega))) (.slice o2 ml c2)).setCell (b := w.heap.size + 1) (o := 0) (.inl (lo_pos (by omega))) (.int .i64 K)).setCell (b := w.heap.size + 1) (o := 1) (.inl (lo_pos (by omega))) (.string S)).setCell (b := w.heap.size + 1) (o := 2) (.inl (lo_pos (by omega))) (.slice o1 fl c1)).setCell (b := w.heap.size + 1) (o := 3) (.inl (lo_pos (by omega))) (.slice o2 ml c2)).setCell (b := w.heap.size + 1) (o := 4) (.inl (lo_pos (by omega))) (.int .i64 A))
  have hBm := (((((((Be.refl (lo w4.heap.size) w6).setCell (b := w.heap.size) (o := 3) (.inl (lo_pos (by omega))) (.slice o2 ml c2)).setCell (b := w.heap.size + 1) (o := 0) (.inl (lo_pos (by omega))) (.int .i64 K)).setCell (b := w.heap.size + 1) (o := 1) (.inl (lo_pos (by omega))) (.string S)).setCell (b := w.heap.size + 1) (o := 2) (.inl (lo_pos (by omega))) (.slice o1 fl c1)).setCell (b := w.heap.size + 1) (o := 3) (.inl (lo_pos (by omega))) (.slice o2 ml c2)).setCell (b := w.heap.size + 1) (o := 4) (.inl (lo_pos (by omega))) (.int .i64 A))
  have hBl := (((((((HB4.out.trans (HB6.out.mono HB4.out.size)).setCell (p := ⟨w.heap.size, 3, none⟩) (Nat.le_refl _) (.slice o2 ml c2)).setCell (p := ⟨w.heap.size + 1, 0, none⟩) (Nat.le_succ _) (.int .i64 K)).setCell (p := ⟨w.heap.size + 1, 1, none⟩) (Nat.le_succ _) (.string S)).setCell (p := ⟨w.heap.size + 1, 2, none⟩) (Nat.le_succ _) (.slice o1 fl c1)).setCell (p := ⟨w.heap.size + 1, 3, none⟩) (Nat.le_succ _) (.slice o2 ml c2)).setCell (p := ⟨w.heap.size + 1, 4, none⟩) (Nat.le_succ _) (.int .i64 A))
  generalize ((((((w6.setCell ⟨w.heap.size, 3, none⟩ (.slice o2 ml c2)).setCell ⟨w.heap.size + 1, 0, none⟩ (.int .i64 K)).setCell ⟨w.heap.size + 1, 1, none⟩ (.string S)).setCell ⟨w.heap.size + 1, 2, none⟩ (.slice o1 fl c1)).setCell ⟨w.heap.size + 1, 3, none⟩ (.slice o2 ml c2)).setCell ⟨w.heap.size + 1, 4, none⟩ (.int .i64 A)) = W at hG7 hBf hBm hBl ⊢
  have d0 := hG7.cell (i := 0) rfl
  have d1 := hG7.cell (i := 1) rfl
  have d2 := hG7.cell (i := 2) rfl
  have d3 := hG7.cell (i := 3) rfl
  have d4 := hG7.cell (i := 4) rfl
  have hf := HF4.out
  have hm := HM6.out
  rw [show (w2.setCell ⟨w.heap.size, 1, none⟩ (.string S)).heap.size = w2.heap.size by simp [World.setCell]] at hf
  rw [hs5] at hm
  have hf2 : Fls o1 fl U1 (cut (lo w.heap.size) W) := (hf.below (by rw [cut_size]; exact hBf)).sub (cut_sub W (fun k _ hk => by simp [lo] at hk ⊢; omega))
  have hm2 : Ms o2 ml V2 (cut (lo w.heap.size) W) := (hm.below (by rw [cut_size]; exact hBm)).sub (cut_sub W (fun k _ hk => by simp [lo] at hk ⊢; omega))
  refine bodyPost_ret (by simp [results, Tryz.results29, go_sem, d0, d1, d2, d3, d4]; try rfl) rfl ?_
  exact ⟨⟨K, S, o1, fl, c1, o2, ml, c2, A⟩, rfl, ⟨U1, V2, ⟨hf2, hm2, hsz, HH.out.lo, HH.out.hi⟩, rfl, rfl, rfl, HQ4.out⟩, hBl⟩
theorem eachdecl_any (o : Option Addr) (n c : Nat) (X : Nat → Dz) (U : Nat → Nat → Fz) (V : Nat → Nat → Mz) (w : World) (h : Ds o n X U V w) :
    Calls Tryz.prog 28 #[.slice o n c, .func (.func 29) #[] #[]] w fun e w' => ∃ o' c' X' U' V', e = .returned (.slice o' n c') ∧ Below w.heap.size w w' ∧ Ds o' n X' U' V' (cut (lo w.heap.size) w') ∧ ∀ i, i < n → Dq (X' i) (X i) (U' i) (U i) := by
  refine (each_decl X (fun i u w => ∃ U' V', D1 u U' V' w ∧ Dq u (X i) U' (U i)) (fun i u w w' h hb => by obtain ⟨a, b, h1, h2⟩ := h; exact ⟨a, b, h1.below hb, h2⟩) (fun i u w w' h hb => by obtain ⟨a, b, h1, h2⟩ := h; exact ⟨a, b, h1.sub hb, h2⟩) o n c w (by have := h.2.1; omega) h.1 (fun i hi w' hb' => ?_)).mono ?_
  · exact (owndecl_any (X i) (U i) (V i) w' ((h.2.2 i hi).below hb')).mono (fun e w'' h => h)
  · rintro e w' ⟨o', c', X', rfl, hb, hE, hU⟩
    obtain ⟨U', hU'⟩ := Go.Deep.choose_lt (α := (Nat → Fz) × (Nat → Mz)) (n := n) (p := fun i q => D1 (X' i) q.1 q.2 (cut (lo w.heap.size) w') ∧ Dq (X' i) (X i) q.1 (U i)) (fun i hi => by obtain ⟨a, b, h1, h2⟩ := hU i hi; exact ⟨(a, b), h1, h2⟩)
    exact ⟨o', c', X', fun i => (U' i).1, fun i => (U' i).2, rfl, hb, ⟨hE, h.2.1, fun i hi => (hU' i hi).1⟩, fun i hi => (hU' i hi).2⟩
end Go.Proofs.YtdogddliifbjnaaGreat.Ck
/- Schemas: maps from names to slices. -/
namespace Go.Proofs.YtdogddliifbjnaaGreat.Ck
open Go.RowKit Cm
open _root_.Go.Proofs.YtdogddliifbjnaaGreat.Nm
set_option linter.unusedVariables false
set_option linter.unusedSimpArgs false

/-- A slice that is nil, or lies in a block from a place on. -/
def svV : Option (Nat × Nat × Nat × Nat) → Value
  | none => .slice none 0 0
  | some (b, o, n, c) => .slice (some ⟨b, o, none⟩) n c
def svD : Option (Nat × Nat × Nat × Nat) → DataW Unit
  | none => .agg []
  | some (b, o, n, c) => .agg [.lit (.int .i64 (b : Nat)), .lit (.int .i64 (o : Nat)), .lit (.int .i64 (n : Nat)), .lit (.int .i64 (c : Nat))]
def slE (v : Value) : Option (DataW Unit × List MemPlace) :=
  match v with
  | .slice none 0 0 => some (.agg [], [])
  | .slice (some ⟨b, o, none⟩) n c => some (.agg [.lit (.int .i64 (b : Nat)), .lit (.int .i64 (o : Nat)), .lit (.int .i64 (n : Nat)), .lit (.int .i64 (c : Nat))], [])
  | _ => none
theorem slE_mk (s : Option (Nat × Nat × Nat × Nat)) : slE (svV s) = some (svD s, []) := by
  rcases s with _ | ⟨b, o, n, c⟩ <;> rfl
theorem slE_inv {v : Value} {s : Option (Nat × Nat × Nat × Nat)} {ps : List MemPlace} (h : slE v = some (svD s, ps)) : v = svV s := by
  unfold slE at h
  split at h
  · rcases s with _ | ⟨b, o, n, c⟩
    · rfl
    · simp [svD] at h
  · rename_i b o n c
    rcases s with _ | ⟨b', o', n', c'⟩
    · simp [svD] at h
    · simp only [svD, Option.some.injEq, Prod.mk.injEq, DataW.agg.injEq, List.cons.injEq, DataW.lit.injEq, Lit.int.injEq, true_and, and_true, Int.natCast_inj] at h
      obtain ⟨⟨rfl, rfl, rfl, rfl⟩, _⟩ := h
      rfl
  · cases h
/-- Block B is a map from names to slices; G tells which. -/
def Fmp (B c : Nat) (G : ByteArray → Option (Option (Nat × Nat × Nat × Nat))) (w : World) : Prop :=
  ∃ D : DataW Unit, w.ownsMap Tryz.prog 9 slE B c D ∧ ∀ s : ByteArray, (G s = none → Maps.has D (klS s) = false) ∧ ∀ v, G s = some v → Maps.has D (klS s) = true ∧ ∀ z, D.atKey (klS s) z = svD v
section
variable {B c : Nat} {G : ByteArray → Option (Option (Nat × Nat × Nat × Nat))} {w w' : World}
theorem Fmp.lt (h : Fmp B c G w) : B < w.heap.size := by
  obtain ⟨D, h, _⟩ := h
  exact h.lt
theorem Fmp.sub (h : Fmp B c G w) (hb : Sub w w') : Fmp B c G w' := by
  obtain ⟨D, ⟨es, clock, h1, h2⟩, r⟩ := h
  exact ⟨D, ⟨es, clock, hb.block B _ h1 (fun e => by cases e), h2⟩, r⟩
theorem Fmp.kept (h : Fmp B c G w) (hb : w'.heap[B]? = w.heap[B]?) : Fmp B c G w' := by
  obtain ⟨D, ⟨es, clock, h1, h2⟩, r⟩ := h
  exact ⟨D, ⟨es, clock, hb.trans h1, h2⟩, r⟩
theorem Fmp.below {m : Nat} (h : Fmp B c G w) (hb : Below m w w') (hm : B < m) : Fmp B c G w' := h.kept (hb.block B hm)
theorem Fmp.mono {c' : Nat} (h : Fmp B c G w) (hc : c ≤ c') : Fmp B c' G w := by
  obtain ⟨D, h1, h2⟩ := h
  exact ⟨D, h1.mono hc, h2⟩
theorem Fmp.made (w : World) : Fmp w.heap.size 0 (fun _ => none) (w.alloc (.map #[] 0)) := ⟨_, World.ownsMap_made w _ _ _, fun s => ⟨fun _ => rfl, fun v h => by cases h⟩⟩
theorem zeroS (w : World) : (zeroValue 40).run Tryz.prog w = .ok (.slice none 0 0) w := by kernel_rfl
theorem Fmp.look (h : Fmp B c G w) (s : ByteArray) (hs : s.size ≤ maxLen) :
    (Instr.lookup 72 (.map (some B)) (.string s) true).run Tryz.prog w = .ok (.tuple #[svV ((G s).getD none), .bool (G s).isSome]) w := by
  obtain ⟨D, h1, h2⟩ := h
  obtain ⟨v, ps, hrun, hv⟩ := h1.look_ok law Tryz.underlying72 (zeroS w) (slE_mk none) (key_of hs)
  rw [hrun]
  cases hf : G s with
  | none =>
    have hh := (h2 s).1 hf
    rw [Maps.atKey_of_not_has hh] at hv
    rw [hh, slE_inv hv]; rfl
  | some u =>
    obtain ⟨hh, hz⟩ := (h2 s).2 u hf
    rw [hz] at hv
    rw [hh, slE_inv hv]; rfl
theorem Fmp.look0 (h : Fmp B c G w) (s : ByteArray) (hs : s.size ≤ maxLen) :
    (Instr.lookup 72 (.map (some B)) (.string s) false).run Tryz.prog w = .ok (svV ((G s).getD none)) w := by
  obtain ⟨D, h1, h2⟩ := h
  obtain ⟨v, ps, hrun, hv⟩ := h1.lookup law Tryz.underlying72 (zeroS w) (slE_mk none) (key_of hs)
  rw [hrun]
  cases hf : G s with
  | none =>
    have hh := (h2 s).1 hf
    rw [Maps.atKey_of_not_has hh] at hv
    rw [slE_inv hv]; rfl
  | some u =>
    obtain ⟨hh, hz⟩ := (h2 s).2 u hf
    rw [hz] at hv
    rw [slE_inv hv]; rfl
theorem Fmp.store (h : Fmp B c G w) (s : ByteArray) (v : Option (Nat × Nat × Nat × Nat)) (hs : s.size ≤ maxLen) (hc : c < maxLen) :
    ∃ w', (Instr.mapUpdate 72 (.map (some B)) (.string s) (svV v)).run Tryz.prog w = .ok () w' ∧ Fmp B (c + 1) (fun t => if t = s then some v else G t) w' ∧ w.grownBy w' (some B) := by
  obtain ⟨D, h1, h2⟩ := h
  obtain ⟨w', hrun, hown, hg⟩ := h1.update law Tryz.underlying72 hc (key_of hs) (slE_mk v)
  refine ⟨w', hrun, ⟨_, hown, fun t => ?_⟩, hg⟩
  by_cases e : t = s
  · subst e
    simp only [if_pos rfl]
    refine ⟨fun h => (by cases h), fun u hu => ?_⟩
    obtain rfl := Option.some.inj hu
    exact ⟨Maps.has_put_same h1.isMap (by unfold klS; simp [WideAt.IsKeyLit]) _, fun z => Maps.atKey_put_same h1.isMap (by unfold klS; simp [WideAt.IsKeyLit]) _ _⟩
  · have hne : klS t ≠ klS s := fun e2 => e (klS_inj e2)
    simp only [if_neg e]
    rw [Maps.has_put_other hne]
    exact ⟨(h2 t).1, fun u hu => ⟨((h2 t).2 u hu).1, fun z => by rw [Maps.atKey_put_other hne]; exact ((h2 t).2 u hu).2 z⟩⟩
end
end Go.Proofs.YtdogddliifbjnaaGreat.Ck
/- Schemas: slices.Clone of fields. -/
namespace Go.Proofs.YtdogddliifbjnaaGreat.Ck
open Go.RowKit Cm
open _root_.Go.Proofs.YtdogddliifbjnaaGreat.Nm
set_option linter.unusedVariables false
set_option linter.unusedSimpArgs false

/-- append of a slice that lies somewhere to one of the call's own. -/
theorem rw_take {P : Program} {ops : Array Oper} {rest : List Oper} {o : Oper} {a : Act} {Q : Exit → Act → World → Prop} {w : World} (hgd : o.guard = none) (x y : Operand) (t : TypeId)
    (ho : o.op = .call { callee := .builtin .append, args := #[x, y], argTypes := #[t, t] })
    (e : TypeId) (s B bytes : Nat) (ht : P.underlying t = some (.slice e)) (hi : ∃ i z, P.info? e = some i ∧ i.zero = some z ∧ i.size = s ∧ i.bytes = bytes ∧ z.cells.size = s) (hs : 0 < s)
    (v : Value) (ad : Addr) (n m cap : Nat) (xs ys : List Value) (hx : a.eval x = v) (hy : a.eval y = .slice (some ad) m cap) (h : Rw e s B v n xs w) (hl : ys.length = m * s) (hc : ∀ j u, ys[j]? = some u → w.cell? (ad.add j) = some u) (h1 : ∀ z ∈ ys, z.oneCell' = true)
    (hm : n + m ≤ maxLen) (hbt : (n + m) * bytes ≤ 140737488355328) (hbase : B ≤ w.heap.size)
    (hK : ∀ v' w', Rw e s B v' (n + m) (xs ++ ys) w' → w.grownBy w' v.ownBlock → Grew v v' w → wpList P ops Q rest (a.put o.dst v') w') : wpList P ops Q (o :: rest) a w :=
  wpList_plain hgd fun K hK2 => by
    obtain ⟨i, z, hi, hz, hsz, hby, hzs⟩ := hi
    obtain ⟨v', w', hr, h2, h3, _, h5⟩ := run_append_own_at (P := P) w B t o.type e i z s bytes ht hi hz hsz hby hzs hs v n xs h ad m cap ys hl hc h1 hm hbt hbase
    unfold Oper.wp execOp
    simp only [ho, resolve, invoke, builtin, Sem.run_bind, Sem.run_pure, Result.andThen_ok, List.map_toArray, List.map_cons, List.map_nil, hx, hy, hr]
    exact hK2 _ _ (hK v' w' h2 h3 h5)
theorem infoField : ∃ i z, Tryz.prog.info? 50 = some i ∧ i.zero = some z ∧ i.size = 5 ∧ i.bytes = 72 ∧ z.cells.size = 5 := by
  have h : (Tryz.prog.info? 50).map (fun i => (i.zero.map (fun z => z.cells.size), i.size, i.bytes)) = some (some 5, 5, 72) := by kernel_rfl
  obtain ⟨i, hi, he⟩ := Option.map_eq_some_iff.1 h
  simp only [Prod.mk.injEq] at he
  obtain ⟨z, hz, hzs⟩ := Option.map_eq_some_iff.1 he.1
  exact ⟨i, z, hi, hz, he.2.1, he.2.2, hzs⟩
/-- Fields' cells, one behind the other. -/
def fzC (U : Nat → Fz) (n : Nat) : List Value := (List.range n).flatMap fun j => (U j).at5
theorem fzC_len (U : Nat → Fz) (n : Nat) : (fzC U n).length = n * 5 := by unfold fzC; rw [fl_len (f := fun j => (U j).at5) (s := 5) (fun _ => rfl)]; simp
theorem fzC_one (U : Nat → Fz) (n : Nat) : ∀ z ∈ fzC U n, z.oneCell' = true := fun z hz => fl_mem (fun a v hv => by
  simp only [Fz.at5, List.mem_cons, List.not_mem_nil, or_false] at hv
  rcases hv with rfl | rfl | rfl | rfl | rfl <;> rfl) hz
theorem fzC_at (U : Nat → Fz) {n i k : Nat} (hi : i < n) (hk : k < 5) : (fzC U n)[i * 5 + k]? = ((U i).at5)[k]? := fl_at (f := fun j => (U j).at5) (fun _ => rfl) (by rw [List.getElem?_range hi]) hk
theorem fzC_cells {U : Nat → Fz} {n : Nat} {a : Addr} {w : World} (h : Ex 5 Fz.at5 (some a) n U w) : ∀ j u, (fzC U n)[j]? = some u → w.cell? (a.add j) = some u := fun j u hj => by
  have hl := (List.getElem?_eq_some_iff.1 hj).1
  rw [fzC_len] at hl
  obtain ⟨b, e, _, h3⟩ := h (j / 5) (by omega)
  obtain rfl := Option.some.inj e
  have e2 : j / 5 * 5 + j % 5 = j := by omega
  have := h3 (j % 5) u (by rw [← fzC_at U (n := n) (by omega) (by omega), e2]; exact hj)
  rwa [e2] at this

set_option maxRecDepth 100000 in
set_option maxHeartbeats 2000000 in
theorem clonefields_any (o : Option Addr) (n c : Nat) (U : Nat → Fz) (w : World) (h : Fls o n U w) :
    Calls Tryz.prog 92 #[.slice o n c] w fun e w' => ∃ v, e = .returned v ∧ Rw 50 5 w.heap.size v n (fzC U n) w' ∧ Below w.heap.size w w' := by
  have hn := h.2.1
  have hn2 : n ≤ 9223372036854775807 := by omega
  have hq : ∀ (w : World) (a : Option Addr) (n c n' c' : Nat), (binOp .eql 40 (.slice a n c) (.slice none n' c')).run Tryz.prog w = .ok (.bool a.isNone) w := fun w a n c n' c' => Lib.run_eql_slice_nil w _ _ a n c n' c' Tryz.underlying40
  cases o with
  | none =>
    have h0 : n = 0 := by
      rcases Nat.eq_zero_or_pos n with e | hp
      · exact e
      · obtain ⟨a, e, _⟩ := h.1 0 hp
        cases e
    subst h0
    go_enter Tryz.func92, Tryz.ntmps92
    go_wp2
    go_ret
    exact ⟨_, rfl, by simpa [fzC] using Rw.nil 50 5 w.heap.size w, Below.refl _ _⟩
  | some a =>
    have hE : Ex 5 Fz.at5 (some a) n U (w.alloc (.cells #[] 50)) := h.1.below ((Below.refl _ _).alloc (Nat.le_refl _) _)
    have HE := Lib.hid hE
    clear hE h
    go_enter Tryz.func92, Tryz.ntmps92
    go_wp2_with (at_builtin; go_loud (refine rw_take rfl (.tmp 5) (.tmp 6) 40 rfl 50 5 w.heap.size 72 Tryz.underlying40 infoField (by decide) (.slice (some ⟨w.heap.size, 0, none⟩) 0 0) a 0 n c [] (fzC U n) rfl rfl (Rw.lit0 w 50 5 w.heap.size rfl) (fzC_len U n) (fzC_cells HE.out) (fzC_one U n) (by unfold maxLen; omega) (by omega) (by simp) ?_; intro v5 w5 hR5 hg5 hG5; have HR5 := Lib.hid hR5; have HG5 := Lib.hid hg5; clear hR5 hg5 hG5))
    go_ret
    rw [Nat.zero_add, List.nil_append] at HR5
    exact ⟨_, rfl, HR5.out, ((Below.refl w.heap.size w).alloc (Nat.le_refl _) _).grown HG5.out (by simp) (fun k hk => by simp [Value.ownBlock] at hk; omega)⟩
end Go.Proofs.YtdogddliifbjnaaGreat.Ck
