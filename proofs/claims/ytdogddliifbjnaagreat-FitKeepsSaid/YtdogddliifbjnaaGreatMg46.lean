/- compat: Check. -/
import Derived.RegionTactic
import Derived.Test.YtdogddliifbjnaaGreatMg45
namespace Go.Proofs.YtdogddliifbjnaaGreat.Ck
open Go.RowKit Cm
open _root_.Go.Proofs.YtdogddliifbjnaaGreat.Nm
set_option linter.unusedVariables false
set_option linter.unusedSimpArgs false

/-- In the midst of Check's last region: g is the new variable's block, if it is there. -/
def Lk (F : Nat → Bool) (p : Option Addr) (L : Sc) (q : Option Addr) (M : Sc) (m cm b : Nat) (w0 : World) (g : Option Nat) (w : World) : Prop :=
  ∃ F', (∀ k, F k = true → F' k = true) ∧ (∀ k, g = some k → F' k = true) ∧ Pq F' p L q M w ∧ Mm m cm w ∧ Cs b [.pointer p, .pointer q, .map (some m)] w ∧ Be (own p q) w0 w
section
variable {F : Nat → Bool} {p q : Option Addr} {L M : Sc} {m cm b : Nat} {w0 w w' : World} {g : Option Nat}
theorem Lk.held (h : Lk F p L q M m cm b w0 g w) : (w.cell? ⟨b, 0, none⟩ = some (.pointer p) ∧ w.cell? ⟨b, 1, none⟩ = some (.pointer q) ∧ w.cell? ⟨b, 2, none⟩ = some (.map (some m))) ∧ ∃ g, Lk F p L q M m cm b w0 g w := by
  obtain ⟨F', h1, h2, h3, h4, h5, h6⟩ := h
  exact ⟨h5.three.1, g, F', h1, h2, h3, h4, h5, h6⟩
theorem Lk.below (h : Lk F p L q M m cm b w0 g w) (hb : Below w.heap.size w w') : Lk F p L q M m cm b w0 g w' := by
  obtain ⟨F', h1, h2, h3, h4, h5, h6⟩ := h
  exact ⟨F', h1, h2, h3.below hb, h4.below hb h4.lt, h5.below hb h5.lt, h6.after hb⟩
theorem Lk.drew (h : Lk F p L q M m cm b w0 g w) : Lk F p L q M m cm b w0 g w.drew := h.below ((Below.refl _ _).drew)
theorem Lk.alloc (h : Lk F p L q M m cm b w0 none w) (ob : Obj) : Lk F p L q M m cm b w0 (some w.heap.size) (w.alloc ob) := by
  obtain ⟨F', h1, h2, h3, h4, h5, h6⟩ := h
  have hb := (Below.refl w.heap.size w).alloc (Nat.le_refl _) ob
  exact ⟨add F' w.heap.size, fun k hk => add_old (h1 k hk), fun k hk => by obtain rfl := Option.some.inj hk; exact add_self _ _, h3.add ob, h4.below hb h4.lt, h5.alloc ob, h6.after hb⟩
/-- .. behind Decls. -/
def LkD (F : Nat → Bool) (p : Option Addr) (L : Sc) (q : Option Addr) (M : Sc) (m cm b : Nat) (w0 : World) (g : Option Nat) (o : Option Addr) (X : Nat → Dz) (U : Nat → Nat → Fz) (V : Nat → Nat → Mz) (w : World) : Prop :=
  ∃ F', (∀ k, F k = true → F' k = true) ∧ (∀ k, g = some k → F' k = true) ∧ Pq F' p L q M w ∧ Mm m cm w ∧ Cs b [.pointer p, .pointer q, .map (some m)] w ∧ Be (own p q) w0 w ∧ Ds o L.n X U V (cut F' w)
variable {o : Option Addr} {X : Nat → Dz} {U : Nat → Nat → Fz} {V : Nat → Nat → Mz}
theorem LkD.held (h : LkD F p L q M m cm b w0 g o X U V w) : (w.cell? ⟨b, 0, none⟩ = some (.pointer p) ∧ w.cell? ⟨b, 1, none⟩ = some (.pointer q) ∧ w.cell? ⟨b, 2, none⟩ = some (.map (some m))) ∧ ∃ g, Lk F p L q M m cm b w0 g w := by
  obtain ⟨F', h1, h2, h3, h4, h5, h6, _⟩ := h
  exact ⟨h5.three.1, g, F', h1, h2, h3, h4, h5, h6⟩
theorem LkD.alloc (h : LkD F p L q M m cm b w0 none o X U V w) (ob : Obj) : LkD F p L q M m cm b w0 (some w.heap.size) o X U V (w.alloc ob) := by
  obtain ⟨F', h1, h2, h3, h4, h5, h6, h7⟩ := h
  have hb := (Below.refl w.heap.size w).alloc (Nat.le_refl _) ob
  exact ⟨add F' w.heap.size, fun k hk => add_old (h1 k hk), fun k hk => by obtain rfl := Option.some.inj hk; exact add_self _ _, h3.add ob, h4.below hb h4.lt, h5.alloc ob, h6.after hb, h7.sub (add_new w ob)⟩
def DeL (F : Nat → Bool) (p : Option Addr) (L : Sc) (q : Option Addr) (M : Sc) (m cm b : Nat) (w0 : World) (g : Option Nat) (w : World) (e : Ending) (w' : World) : Prop :=
  ∃ o c X U V, e = .returned (.slice o L.n c) ∧ LkD F p L q M m cm b w0 g o X U V w' ∧ Hid (∀ i, i < L.n → (X i).K = L.K i ∧ (X i).S = L.S i) ∧ Below w.heap.size w w'
theorem decls_l (h : Lk F p L q M m cm b w0 g w) : Calls Tryz.prog 17 #[.pointer p] w (fun e w' => DeL F p L q M m cm b w0 g w e w') := by
  obtain ⟨F', h1, h2, h3, h4, h5, h6⟩ := h
  refine (decls_p F' p L w h3.a).mono ?_
  rintro e w' ⟨o, c, X, U, V, rfl, g1, g2, g3⟩
  exact ⟨o, c, X, U, V, rfl, ⟨F', h1, h2, h3.below g3, h4.below g3 h4.lt, h5.below g3 h5.lt, h6.after g3, g1.sub (lo_old h3.old)⟩, Lib.hid g2, g3⟩
theorem Lk.new (h : Lk F p L q M m cm b w0 g w) : own p q w.heap.size = false := by
  obtain ⟨F', h1, h2, h3, _⟩ := h
  exact h3.new (Nat.le_refl _)
theorem LkD.new (h : LkD F p L q M m cm b w0 g o X U V w) : own p q w.heap.size = false := by
  obtain ⟨F', h1, h2, h3, _⟩ := h
  exact h3.new (Nat.le_refl _)
/-- first's end: what it keeps. -/
def FiL (P : Prop) (F : Nat → Bool) (p : Option Addr) (L : Sc) (q : Option Addr) (M : Sc) (m cm b : Nat) (w0 : World) (g : Option Nat) (w : World) (e : Ending) (w' : World) : Prop :=
  ∃ (f : Dz) (er : Int), e = .returned (.tuple #[.agg #[.int .i64 f.K, .string f.S, .slice f.fo f.fl f.fc, .slice f.mo f.ml f.mc, .int .i64 f.A], .int .i64 er]) ∧ Hid (er = 0 → P) ∧ Lk F p L q M m cm b w0 g w' ∧ Be (own p q) w w'
theorem first_l (hm : own p q m = false) (hb : own p q b = false) {c : Nat} (h : LkD F p L q M m cm b w0 g o X U V w) :
    Calls Tryz.prog 16 #[.slice o L.n c, .func (.func 18) #[.agg #[.pointer p, .pointer q, .map (some m)]] #[]] w (fun e w' => FiL (∀ i, i < L.n → QAll L M (X i)) F p L q M m cm b w0 g w e w') := by
  obtain ⟨F', h1, h2, h3, h4, h5, h6, h7⟩ := h
  refine (firstd_any F' p L q M m cm o L.n c X U V w h3 h4 hm h7).mono ?_
  rintro e w' ⟨f, er, rfl, g1, g2, g3⟩
  exact ⟨f, er, rfl, g1, ⟨F', h1, h2, g2, h4.kept (g3.block h4.lt hm), h5.be g3 hb, h6.trans g3⟩, g3⟩
/-- Behind the stores into the new variable. -/
theorem Lk.fin {v : Nat} (h : Lk F p L q M m cm b w0 (some v) w) (h0 : Pq F p L q M w0) (hv : w0.heap.size ≤ v) (hb : Be (fun k => decide (k = v)) w w') : Pq F p L q M w' ∧ Be (own p q) w0 w' := by
  obtain ⟨F', h1, h2, h3, h4, h5, h6⟩ := h
  refine ⟨(h3.be hb (fun k _ hk => by obtain rfl : k = v := (by simpa using hk); exact h2 _ rfl) (fun B hB => ?_) (fun B hB => ?_)).less h1 h0, ?_⟩
  · have := (h0.a.mem B hB).2
    simp; omega
  · have := (h0.b.mem B hB).2
    simp; omega
  · refine Be.mk (hb.os.trans h6.os) (hb.tape.trans h6.tape) (hb.output.trans h6.output) (Nat.le_trans h6.size hb.size) (fun k hk hF => ?_)
    rw [hb.block (Nat.lt_of_lt_of_le hk h6.size) (by simp; omega)]
    exact h6.block hk hF
/-- Stores into the new variable keep all. -/
theorem Lk.put {v i : Nat} (h : Lk F p L q M m cm b w0 (some v) w) (hv : w0.heap.size ≤ v) (hvb : b ≠ v) (hvm : m ≠ v) (hvo : own p q v = false) (u : Value) : Lk F p L q M m cm b w0 (some v) (w.setCell ⟨v, i, none⟩ u) := by
  obtain ⟨F', h1, h2, h3, h4, h5, h6⟩ := h
  have hb : Be (fun k => decide (k = v)) w (w.setCell ⟨v, i, none⟩ u) := (Be.refl _ w).setCell (.inl (by simp)) u
  refine ⟨F', h1, h2, h3.be hb (fun k _ hk => by obtain rfl : k = v := (by simpa using hk); exact h2 _ rfl) (fun B hB => ?_) (fun B hB => ?_), h4.kept (Below.heap_setCell _ _ _ _ hvm), h5.other u hvb, h6.setCell (.inr hv) u⟩
  · by_cases e : B = v
    · subst e; rw [own_iff.2 (.inl hB)] at hvo; cases hvo
    · simp [e]
  · by_cases e : B = v
    · subst e; rw [own_iff.2 (.inr hB)] at hvo; cases hvo
    · simp [e]
theorem Lk.put5 {v : Nat} (h : Lk F p L q M m cm b w0 (some v) w) (hv : w0.heap.size ≤ v ∧ b ≠ v ∧ m ≠ v ∧ own p q v = false) (u0 u1 u2 u3 u4 : Value) : Lk F p L q M m cm b w0 (some v) (((((w.setCell ⟨v, 0, none⟩ u0).setCell ⟨v, 1, none⟩ u1).setCell ⟨v, 2, none⟩ u2).setCell ⟨v, 3, none⟩ u3).setCell ⟨v, 4, none⟩ u4) :=
  ((((h.put hv.1 hv.2.1 hv.2.2.1 hv.2.2.2 u0).put hv.1 hv.2.1 hv.2.2.1 hv.2.2.2 u1).put hv.1 hv.2.1 hv.2.2.1 hv.2.2.2 u2).put hv.1 hv.2.1 hv.2.2.1 hv.2.2.2 u3).put hv.1 hv.2.1 hv.2.2.1 hv.2.2.2 u4
end
theorem cs_put5 {v : Nat} {x0 x1 x2 x3 x4 : Value} {w : World} (h : Cs v [x0, x1, x2, x3, x4] w) (u0 u1 u2 u3 u4 : Value) :
    (((((w.setCell ⟨v, 0, none⟩ u0).setCell ⟨v, 1, none⟩ u1).setCell ⟨v, 2, none⟩ u2).setCell ⟨v, 3, none⟩ u3).setCell ⟨v, 4, none⟩ u4).cell? ⟨v, 1, none⟩ = some u1 := by
  have := ((((h.put (i := 0) u0).put (i := 1) u1).put (i := 2) u2).put (i := 3) u3).put (i := 4) u4
  exact this.cell (i := 1) rfl
def CkP (F : Nat → Bool) (p : Option Addr) (L : Sc) (q : Option Addr) (M : Sc) (w : World) (e : Ending) (w' : World) : Prop :=
  ∃ (er : Int) (s : ByteArray), e = .returned (.tuple #[.int .i64 er, .string s]) ∧ (er = 0 → ∀ i, i < L.n → M.kd (L.S i) = L.K i ∧ M.kd (L.S i) ≠ 0 ∧ QD L M (L.K i) (L.S i)) ∧ Pq F p L q M w' ∧ Be (own p q) w w'
theorem ck_fin {F : Nat → Bool} {p q : Option Addr} {L M : Sc} {m cm b v : Nat} {w0 w : World} {X : Nat → Dz} {er : Int} {s : ByteArray} (hL : Lk F p L q M m cm b w0 (some v) w) (h0 : Hid (Pq F p L q M w0)) (hv : w0.heap.size ≤ v) (hq : Hid (er = 0 → ∀ i, i < L.n → QAll L M (X i))) (hN : Hid (∀ i, i < L.n → (X i).K = L.K i ∧ (X i).S = L.S i)) :
    CkP F p L q M w0 (.returned (.tuple #[.int .i64 er, .string s])) w := by
  have h := Lk.fin hL h0.out hv (Be.refl _ _)
  refine ⟨er, s, rfl, fun he i hi => ?_, h.1, h.2⟩
  have h1 := hq.out he i hi
  rw [QAll, (hN.out i hi).1, (hN.out i hi).2] at h1
  exact h1
set_option maxRecDepth 100000 in
set_option maxHeartbeats 3000000 in
theorem check_p (F : Nat → Bool) (p : Option Addr) (L : Sc) (q : Option Addr) (M : Sc) (w : World) (h : Pq F p L q M w) :
    Calls Tryz.prog 8 #[.pointer p, .pointer q] w (fun e w' => CkP F p L q M w e w') := by
  have HH := Lib.hid h
  clear h
  have hmf : ∀ (fn : Fn) (first cap : Array Value) (w : World), (Instr.makeFunc fn first cap).run Tryz.prog w = .ok (.func fn first cap) w := fun _ _ _ _ => rfl
  go_enter Tryz.func8, Tryz.ntmps8
  go_upto_region 2 with (go_at_call 15; go_loud (refine (methods_p F q M _ HH.out.b).mono ?_; rintro e w2 ⟨m, rfl, hmlo, ⟨cm, hM2⟩, hb2⟩; have HM2 := Lib.hid hM2; have HB2 := Lib.hid hb2; have HLO := Lib.hid hmlo; clear hM2 hb2 hmlo))
  have hb3 := (Below.refl w2.heap.size w2).alloc (Nat.le_refl _) (.cells #[.pointer p, .pointer q, .map (some m)] 60)
  have hQ0 : Lk F p L q M m cm w2.heap.size w none (w2.alloc (.cells #[.pointer p, .pointer q, .map (some m)] 60)) :=
    ⟨F, fun k h => h, (fun k h => by cases h), (HH.out.below HB2.out).below hb3, HM2.out.below hb3 HM2.out.lt, Cs.new w2 [.pointer p, .pointer q, .map (some m)] 60, (Be.of HB2.out).after hb3⟩
  have HOM : Hid (own p q m = false) := Lib.hid (HH.out.new HLO.out)
  have HOB : Hid (own p q w2.heap.size = false) := Lib.hid ((HH.out.below HB2.out).new (Nat.le_refl _))
  have HSZ : Hid (w.heap.size ≤ w2.heap.size) := Lib.hid HB2.out.size
  clear hb3
  generalize hW1 : (w2.alloc (.cells #[.pointer p, .pointer q, .map (some m)] 60)) = W1 at hQ0 ⊢
  have HS1 : Hid (w2.heap.size < W1.heap.size) := Lib.hid (by rw [← hW1]; simp)
  clear hW1
  have HOV : Hid (own p q W1.heap.size = false) := Lib.hid hQ0.new
  have HMlt : m < W1.heap.size := hQ0.choose_spec.2.2.2.1.lt
  have HV1 : Hid (w.heap.size ≤ W1.heap.size ∧ w2.heap.size ≠ W1.heap.size ∧ m ≠ W1.heap.size) := Lib.hid ⟨by have := HS1.out; have := HSZ.out; omega, by have := HS1.out; omega, by omega⟩
  have HV3 : ∀ w3 : World, Below W1.drew.heap.size W1.drew w3 → own p q w3.heap.size = false → w.heap.size ≤ w3.heap.size ∧ w2.heap.size ≠ w3.heap.size ∧ m ≠ w3.heap.size ∧ own p q w3.heap.size = false := fun w3 hb ho => by
    have h1 := hb.size
    have h2 := HS1.out
    have h3 := HSZ.out
    have h4 : W1.drew.heap.size = W1.heap.size := rfl
    exact ⟨by omega, by omega, by omega, ho⟩
  have HV4 : ∀ w3 w4 : World, Below W1.drew.heap.size W1.drew w3 → Be (own p q) w3 w4 → own p q w4.heap.size = false → w.heap.size ≤ w4.heap.size ∧ w2.heap.size ≠ w4.heap.size ∧ m ≠ w4.heap.size ∧ own p q w4.heap.size = false := fun w3 w4 hb hb4 ho => by
    have h1 := hb.size
    have h2 := HS1.out
    have h3 := HSZ.out
    have h4 : W1.drew.heap.size = W1.heap.size := rfl
    have h5 := hb4.size
    exact ⟨by omega, by omega, by omega, ho⟩
  have hQ := hQ0.drew
  go_region_held3 (fun w' => (w'.cell? ⟨w2.heap.size, 0, none⟩ = some (.pointer p) ∧ w'.cell? ⟨w2.heap.size, 1, none⟩ = some (.pointer q) ∧ w'.cell? ⟨w2.heap.size, 2, none⟩ = some (.map (some m))) ∧ ∃ g, Lk F p L q M m cm w2.heap.size w g w')
    (first
      | (with_reducible apply Lk.held; with_reducible assumption)
      | (with_reducible apply LkD.held; with_reducible assumption)
      | (with_reducible apply Lk.held; with_reducible apply Lk.alloc; with_reducible assumption)
      | (with_reducible apply LkD.held; with_reducible apply LkD.alloc; with_reducible assumption)
      | (with_reducible apply Lk.held; with_reducible apply Lk.drew; with_reducible apply Lk.alloc; with_reducible assumption)
      | (with_reducible apply Lk.held; with_reducible apply Lk.put5; (all_goals first | (with_reducible assumption) | (with_reducible apply Lk.alloc; with_reducible assumption) | (exact HVV.out))))
    (first
      | (go_at_call 17; ((with_reducible refine (decls_l (Lk.drew (Lk.alloc hQ0 _))).mono ?_); rintro e w3 ⟨o, c, X, U, V, rfl, hQ3, hN3, hb3⟩; have z := ((Cs.new W1 [.int .i64 0, .string ⟨#[]⟩, .slice none 0 0, .slice none 0 0, .int .i64 0] 43).drew).below hb3 (by simp); have HVV : Hid (w.heap.size ≤ W1.heap.size ∧ w2.heap.size ≠ W1.heap.size ∧ m ≠ W1.heap.size ∧ own p q W1.heap.size = false) := Lib.hid ⟨HV1.out.1, HV1.out.2.1, HV1.out.2.2, HOV.out⟩; replace hQ := hQ3; clear hQ3))
      | (go_at_call 17; ((with_reducible refine (decls_l hQ).mono ?_); rintro e w3 ⟨o, c, X, U, V, rfl, hQ3, hN3, hb3⟩; replace hQ := hQ3; clear hQ3))
      | (go_at_call 16; ((with_reducible refine (first_l HOM.out HOB.out (LkD.alloc hQ _)).mono ?_); rintro e w4 ⟨f, er, rfl, hq4, hQ4, hb4⟩; have HVV : Hid (w.heap.size ≤ w3.heap.size ∧ w2.heap.size ≠ w3.heap.size ∧ m ≠ w3.heap.size ∧ own p q w3.heap.size = false) := Lib.hid (HV3 _ hb3 (LkD.new hQ)); have z4 := (Cs.new w3 [.int .i64 0, .string ⟨#[]⟩, .slice none 0 0, .slice none 0 0, .int .i64 0] 43).be hb4 (LkD.new hQ); have g0 := z4.cell (i := 0) rfl; have g1 := z4.cell (i := 1) rfl; have g2 := z4.cell (i := 2) rfl; have g3 := z4.cell (i := 3) rfl; have g4 := z4.cell (i := 4) rfl; have x0 := z4.frozen (i := 0) rfl; have x1 := z4.frozen (i := 1) rfl; have x2 := z4.frozen (i := 2) rfl; have x3 := z4.frozen (i := 3) rfl; have x4 := z4.frozen (i := 4) rfl; have HZ := Lib.hid z4; clear z4; replace hQ := hQ4; clear hQ4))
      | (go_at_call 16; ((with_reducible refine (first_l HOM.out HOB.out hQ).mono ?_); rintro e w4 ⟨f, er, rfl, hq4, hQ4, hb4⟩; have z4 := z.be hb4 HOV.out; have g0 := z4.cell (i := 0) rfl; have g1 := z4.cell (i := 1) rfl; have g2 := z4.cell (i := 2) rfl; have g3 := z4.cell (i := 3) rfl; have g4 := z4.cell (i := 4) rfl; have x0 := z4.frozen (i := 0) rfl; have x1 := z4.frozen (i := 1) rfl; have x2 := z4.frozen (i := 2) rfl; have x3 := z4.frozen (i := 3) rfl; have x4 := z4.frozen (i := 4) rfl; have HZ := Lib.hid z4; clear z4; clear z; replace hQ := hQ4; clear hQ4))
      | (go_at_call 16; ((with_reducible refine (first_l HOM.out HOB.out hQ).mono ?_); rintro e w4 ⟨f, er, rfl, hq4, hQ4, hb4⟩; have HVV : Hid (w.heap.size ≤ w4.heap.size ∧ w2.heap.size ≠ w4.heap.size ∧ m ≠ w4.heap.size ∧ own p q w4.heap.size = false) := Lib.hid (HV4 _ _ hb3 hb4 (Lk.new hQ4)); replace hQ := hQ4; clear hQ4)))
  all_goals (first
    | (have hL : Lk F p L q M m cm w2.heap.size w (some w4.heap.size) (w4.alloc (.cells #[.int .i64 f.K, .string f.S, .slice f.fo f.fl f.fc, .slice f.mo f.ml f.mc, .int .i64 f.A] 43)) := by
         with_reducible apply Lk.alloc; with_reducible assumption
       have hc : (w4.alloc (.cells #[.int .i64 f.K, .string f.S, .slice f.fo f.fl f.fc, .slice f.mo f.ml f.mc, .int .i64 f.A] 43)).cell? ⟨w4.heap.size, 1, none⟩ = some (.string f.S) := (Cs.new w4 [.int .i64 f.K, .string f.S, .slice f.fo f.fl f.fc, .slice f.mo f.ml f.mc, .int .i64 f.A] 43).cell (i := 1) rfl
       have hv : w.heap.size ≤ w4.heap.size := HVV.out.1
       generalize (w4.alloc (.cells #[.int .i64 f.K, .string f.S, .slice f.fo f.fl f.fc, .slice f.mo f.ml f.mc, .int .i64 f.A] 43)) = W5 at hL hc ⊢
       generalize w4.heap.size = v5 at hL hc hv ⊢)
    | (have hL : Lk F p L q M m cm w2.heap.size w (some w3.heap.size) (((((w4.setCell ⟨w3.heap.size, 0, none⟩ (.int .i64 f.K)).setCell ⟨w3.heap.size, 1, none⟩ (.string f.S)).setCell ⟨w3.heap.size, 2, none⟩ (.slice f.fo f.fl f.fc)).setCell ⟨w3.heap.size, 3, none⟩ (.slice f.mo f.ml f.mc)).setCell ⟨w3.heap.size, 4, none⟩ (.int .i64 f.A)) := by
         (with_reducible apply Lk.put5; (all_goals first | (with_reducible assumption) | (exact HVV.out)))
       have hc : (((((w4.setCell ⟨w3.heap.size, 0, none⟩ (.int .i64 f.K)).setCell ⟨w3.heap.size, 1, none⟩ (.string f.S)).setCell ⟨w3.heap.size, 2, none⟩ (.slice f.fo f.fl f.fc)).setCell ⟨w3.heap.size, 3, none⟩ (.slice f.mo f.ml f.mc)).setCell ⟨w3.heap.size, 4, none⟩ (.int .i64 f.A)).cell? ⟨w3.heap.size, 1, none⟩ = some (.string f.S) := cs_put5 HZ.out _ _ _ _ _
       have hv : w.heap.size ≤ w3.heap.size := HVV.out.1
       generalize (((((w4.setCell ⟨w3.heap.size, 0, none⟩ (.int .i64 f.K)).setCell ⟨w3.heap.size, 1, none⟩ (.string f.S)).setCell ⟨w3.heap.size, 2, none⟩ (.slice f.fo f.fl f.fc)).setCell ⟨w3.heap.size, 3, none⟩ (.slice f.mo f.ml f.mc)).setCell ⟨w3.heap.size, 4, none⟩ (.int .i64 f.A)) = W5 at hL hc ⊢
       generalize w3.heap.size = v5 at hL hc hv ⊢)
    | (have hL : Lk F p L q M m cm w2.heap.size w (some W1.heap.size) (((((w4.setCell ⟨W1.heap.size, 0, none⟩ (.int .i64 f.K)).setCell ⟨W1.heap.size, 1, none⟩ (.string f.S)).setCell ⟨W1.heap.size, 2, none⟩ (.slice f.fo f.fl f.fc)).setCell ⟨W1.heap.size, 3, none⟩ (.slice f.mo f.ml f.mc)).setCell ⟨W1.heap.size, 4, none⟩ (.int .i64 f.A)) := by
         (with_reducible apply Lk.put5; (all_goals first | (with_reducible assumption) | (exact HVV.out)))
       have hc : (((((w4.setCell ⟨W1.heap.size, 0, none⟩ (.int .i64 f.K)).setCell ⟨W1.heap.size, 1, none⟩ (.string f.S)).setCell ⟨W1.heap.size, 2, none⟩ (.slice f.fo f.fl f.fc)).setCell ⟨W1.heap.size, 3, none⟩ (.slice f.mo f.ml f.mc)).setCell ⟨W1.heap.size, 4, none⟩ (.int .i64 f.A)).cell? ⟨W1.heap.size, 1, none⟩ = some (.string f.S) := cs_put5 HZ.out _ _ _ _ _
       have hv : w.heap.size ≤ W1.heap.size := HVV.out.1
       generalize (((((w4.setCell ⟨W1.heap.size, 0, none⟩ (.int .i64 f.K)).setCell ⟨W1.heap.size, 1, none⟩ (.string f.S)).setCell ⟨W1.heap.size, 2, none⟩ (.slice f.fo f.fl f.fc)).setCell ⟨W1.heap.size, 3, none⟩ (.slice f.mo f.ml f.mc)).setCell ⟨W1.heap.size, 4, none⟩ (.int .i64 f.A)) = W5 at hL hc ⊢
       generalize W1.heap.size = v5 at hL hc hv ⊢))
  all_goals (
    replace hL := Lib.hid hL.drew
    go_upto_region 3 with (fail)
    go_region_held3 (fun w' => w'.cell? ⟨v5, 1, none⟩ = some (.string f.S)) (first | exact hc) (fail)
    go_wp2
    go_ret2
    exact ck_fin hL.out HH hv hq4 hN3)
end Go.Proofs.YtdogddliifbjnaaGreat.Ck
/- compat: Gone. -/
namespace Go.Proofs.YtdogddliifbjnaaGreat.Ck
open Go.RowKit Cm
open _root_.Go.Proofs.YtdogddliifbjnaaGreat.Nm
set_option linter.unusedVariables false
set_option linter.unusedSimpArgs false

/-- A slice of the call's own, and a call that turns other blocks. -/
theorem rw_be {G : Nat → Bool} {e : TypeId} {s B n : Nat} {v : Value} {xs : List Value} {w w' : World} (h : Rw e s B v n xs w) (hb : Be G w w') (hG : ∀ k, B ≤ k → G k = false) : Rw e s B v n xs w' := by
  refine ⟨h.1, ?_⟩
  rcases h.2 with hn | ⟨g, cap, cur, hv, hbg, hgg, rest⟩
  · exact .inl hn
  · exact .inr ⟨g, cap, cur, hv, hbg, (by rw [hb.block (Array.getElem?_eq_some_iff.1 hgg).1 (hG g hbg)]; exact hgg), rest⟩
/-- In the midst of Gone: the tags' own block is left out. -/
def Ga (F : Nat → Bool) (p : Option Addr) (L : Sc) (q : Option Addr) (M : Sc) (w0 : World) (o : Option Addr) (m : Nat) (U : Nat → Fz) (v : Value) (n : Nat) (w : World) : Prop :=
  ∃ (F' : Nat → Bool) (xs : List Value), (∀ k, F k = true → F' k = true) ∧ Pq F' p L q M w ∧ Rw 3 1 w0.heap.size v n xs w ∧ (∀ k, v.ownBlock = some k → F' k = true) ∧ Be (own p q) w0 w ∧ Fls o m U (cut F' w)
section
variable {F : Nat → Bool} {p q : Option Addr} {L M : Sc} {w0 w w' : World} {o : Option Addr} {m n : Nat} {U : Nat → Fz} {v v' : Value}
theorem Ga.below (h : Ga F p L q M w0 o m U v n w) (hb : Below w.heap.size w w') : Ga F p L q M w0 o m U v n w' := by
  obtain ⟨F', xs, h1, h2, h3, h4, h5, h6⟩ := h
  exact ⟨F', xs, h1, h2.below hb, h3.below hb, h4, h5.after hb, h6.sub (Sub.of_below (by rw [cut_size]; exact cut_below hb))⟩
theorem Ga.fls (h : Ga F p L q M w0 o m U v n w) : Fls o m U w := by
  obtain ⟨F', xs, h1, h2, h3, h4, h5, h6⟩ := h
  exact h6.sub (cut_all _ w)
theorem Ga.be (h : Ga F p L q M w0 o m U v n w) : Be (own p q) w0 w := by
  obtain ⟨F', xs, h1, h2, h3, h4, h5, h6⟩ := h
  exact h5
theorem Ga.end (h : Ga F p L q M w0 o m U v n w) (h0 : Pq F p L q M w0) : Pq F p L q M w := by
  obtain ⟨F', xs, h1, h2, h3, h4, h5, h6⟩ := h
  exact h2.less h1 h0
theorem Ga.push {ys : List Value} {n' : Nat} (h : Ga F p L q M w0 o m U v n w) (hn : ∀ k, w0.heap.size ≤ k → own p q k = false) (hR : Rw 3 1 w0.heap.size v' n' ys w') (hg : w.grownBy w' v.ownBlock) (hG : Grew v v' w) : Ga F p L q M w0 o m U v' n' w' := by
  obtain ⟨F', xs, h1, h2, h3, h4, h5, h6⟩ := h
  have hgo : ∀ B, own p q B = true → decide (v.ownBlock = some B) = false := fun B hB => by
    rw [decide_eq_false_iff_not]
    intro e
    have := hn B (h3.block B e).1
    rw [hB] at this; cases this
  have hbG : Be (fun k => decide (v.ownBlock = some k)) w w' := Be.mk hg.os hg.tape hg.output hg.size (fun k hk hF => hg.block k hk (fun e => by simp [← e] at hF))
  have hFG : ∀ k, decide (v.ownBlock = some k) = true → F' k = true := fun k hk => h4 k (by simpa using hk)
  have hBe : Be (own p q) w0 w' := Be.mk (hg.os.trans h5.os) (hg.tape.trans h5.tape) (hg.output.trans h5.output) (Nat.le_trans h5.size hg.size) (fun k hk hF => by
    rw [hg.block k (Nat.lt_of_lt_of_le hk h5.size) (fun e => by have := (h3.block k e.symm).1; omega)]
    exact h5.block hk hF)
  rcases hG with hG | hG
  · refine ⟨F', ys, h1, h2.be hbG (fun k _ hk => hFG k hk) (fun B hB => hgo B (own_iff.2 (.inl hB))) (fun B hB => hgo B (own_iff.2 (.inr hB))), hR, fun k hk => h4 k (by rw [← hG]; exact hk), hBe, h6.sub (Sub.of_below (by rw [cut_size]; exact hbG.wide (fun k _ hk => hFG k hk)))⟩
  · have hlt := (hR.block _ hG).2
    have hob : ∃ ob, w'.heap[w.heap.size]? = some ob := ⟨_, Array.getElem?_eq_some_iff.2 ⟨hlt, rfl⟩⟩
    obtain ⟨ob, hob⟩ := hob
    have hbA : Be (fun k => decide (v.ownBlock = some k)) (w.alloc ob) w' := Be.mk hg.os hg.tape hg.output (by simp; omega) (fun k hk hF => by
      by_cases e : k = w.heap.size
      · subst e; rw [hob, heap_alloc_new]
      · have hk2 : k < w.heap.size := by simp at hk; omega
        rw [hg.block k hk2 (fun e => by simp [← e] at hF)]
        exact (((Below.refl w.heap.size w).alloc (Nat.le_refl _) ob).block k hk2).symm)
    have hFA : ∀ k, decide (v.ownBlock = some k) = true → add F' w.heap.size k = true := fun k hk => add_old (hFG k hk)
    exact ⟨add F' w.heap.size, ys, fun k hk => add_old (h1 k hk), (h2.add ob).be hbA (fun k _ hk => hFA k hk) (fun B hB => hgo B (own_iff.2 (.inl hB))) (fun B hB => hgo B (own_iff.2 (.inr hB))), hR,
      fun k hk => by rw [hG] at hk; obtain rfl := Option.some.inj hk; exact add_self _ _, hBe, (h6.sub (add_new w ob)).sub (Sub.of_below (by rw [cut_size]; exact hbA.wide (fun k _ hk => hFA k hk)))⟩
def RoG (F : Nat → Bool) (p : Option Addr) (L : Sc) (q : Option Addr) (M : Sc) (w0 : World) (o : Option Addr) (m : Nat) (U : Nat → Fz) (v : Value) (n : Nat) (s : ByteArray) (t : Int) (w : World) (e : Ending) (w' : World) : Prop :=
  ∃ (f : Fz) (b : Bool), e = .returned (.tuple #[.agg #[.int .i64 f.T, .string f.N, .int .i64 f.Y.k, .string f.Y.n, .slice f.Y.o f.Y.of.length f.Y.c], .bool b]) ∧
    (b = true → ∃ r ∈ M.rows s, r.1 = t) ∧ Ga F p L q M w0 o m U v n w' ∧ Be (own p q) w w'
theorem row_g (h : Ga F p L q M w0 o m U v n w) (hn : ∀ k, w0.heap.size ≤ k → own p q k = false) (s : ByteArray) (t : Int) (hs : s.size ≤ 140737488355327) :
    Calls Tryz.prog 21 #[.pointer q, .string s, .int .i64 t] w fun e w' => RoG F p L q M w0 o m U v n s t w e w' := by
  obtain ⟨F', xs, h1, h2, h3, h4, h5, h6⟩ := h
  refine (row_p F' q M p L s t w h2.symm hs).mono ?_
  rintro e w' ⟨f, b, rfl, g1, g2, g3, g4⟩
  rw [own_symm] at g4
  exact ⟨f, b, rfl, fun hb => ⟨f2 f, (g1 hb).2.2, (g1 hb).2.1⟩, ⟨F', xs, h1, g3.symm, rw_be h3 g4 hn, h4, h5.trans g4, h6.sub (Sub.of_below (by rw [cut_size]; exact h2.wide g4))⟩, g4⟩
end
/-- What Gone hands out: a slice; if nothing is in it, every row's tag is in the other's. -/
def GoP (F : Nat → Bool) (p : Option Addr) (L : Sc) (q : Option Addr) (M : Sc) (s : ByteArray) (w : World) (e : Ending) (w' : World) : Prop :=
  ∃ v n xs, e = .returned v ∧ Rw 3 1 w.heap.size v n xs w' ∧ (n = 0 → ∀ r ∈ L.rows s, ∃ r' ∈ M.rows s, r'.1 = r.1) ∧ Pq F p L q M w' ∧ Be (own p q) w w'
theorem gone_end {F : Nat → Bool} {p q : Option Addr} {L M : Sc} {w0 w : World} {o : Option Addr} {m n : Nat} {U : Nat → Fz} {v : Value} {s : ByteArray} (h : Ga F p L q M w0 o m U v n w) (h0 : Hid (Pq F p L q M w0)) (hq : Hid (n = 0 → ∀ i, i < m → ∃ r ∈ M.rows s, r.1 = (U i).T)) (hr : Hid (rowL U m = L.rows s)) : GoP F p L q M s w0 (.returned v) w := by
  have hp := h.end h0.out
  obtain ⟨F', xs, h1, h2, h3, h4, h5, h6⟩ := h
  refine ⟨v, n, xs, rfl, h3, fun hz r hm => ?_, hp, h5⟩
  rw [← hr.out] at hm
  obtain ⟨i, hi, rfl⟩ := List.mem_map.1 hm
  exact hq.out hz i (List.mem_range.1 hi)
set_option maxRecDepth 100000 in
set_option maxHeartbeats 4000000 in
theorem gone_p (F : Nat → Bool) (p : Option Addr) (L : Sc) (q : Option Addr) (M : Sc) (s : ByteArray) (w : World) (h : Pq F p L q M w) (hs : s.size ≤ 140737488355327) :
    Calls Tryz.prog 10 #[.pointer p, .pointer q, .string s] w (fun e w' => GoP F p L q M s w e w') := by
  have HP := Lib.hid h
  have HSZ := Lib.hid hs
  have HN : Hid (∀ k, w.heap.size ≤ k → own p q k = false) := Lib.hid (fun k hk => h.new hk)
  clear h hs
  have hnot : ∀ (x : Bool) (w : World), (Op.unary .not (.bool x)).run Tryz.prog w = .ok (.bool (!x)) w := fun _ _ => rfl
  go_enter Tryz.func10, Tryz.ntmps10
  go_wp2_with (go_at_call 20; go_loud (refine (rows_p F p L q M s _ HP.out HSZ.out).mono ?_; rintro e w1 ⟨o, m, c, U, rfl, hf1, hr1, hp1, hb1⟩; have hm := hf1.2.1; have HR := Lib.hid hr1; have HG1 : Hid (Ga F p L q M w o m U (.slice none 0 0) 0 w1) := Lib.hid ⟨F, [], fun k h => h, hp1, Rw.nil _ _ _ _, (fun k hk => by simp [Value.ownBlock] at hk), hb1, hf1⟩; clear hr1 hf1 hp1 hb1))
  go_loopw [7, 16] (fun t i wr => ∃ j n v, j ≤ m ∧ n ≤ j ∧ i = .int .i64 (j : Nat) ∧ t = v ∧ Hid (n = 0 → ∀ i, i < j → ∃ r ∈ M.rows s, r.1 = (U i).T) ∧ Hid (Ga F p L q M w o m U v n wr)) (fun _ i _ => m - (intOf i).toNat)
  case atStart => exact ⟨0, 0, _, by omega, by omega, rfl, rfl, Lib.hid (fun _ i hi => by omega), HG1⟩
  case round =>
    obtain ⟨j, n, v, hj, hnj, rfl, rfl, HQ, HG⟩ := hrel
    clear HG1
    have hsz := HG.out.be.size
    by_cases hjl : j < m
    · have hji : (j : Int) < (m : Int) := by omega
      obtain ⟨a, Ab, Ao, As, rfl, hA, hAb, c0, c1, c2, c3, c4⟩ := ex_five (v0 := .int .i64 (U j).T) (v1 := .string (U j).N) (v2 := .int .i64 (U j).Y.k) (v3 := .string (U j).Y.n) (v4 := .slice (U j).Y.o (U j).Y.of.length (U j).Y.c) HG.out.fls.1 hjl rfl
      have hX := Cs.new wr [.int .i64 (U j).T, .string (U j).N, .int .i64 (U j).Y.k, .string (U j).Y.n, .slice (U j).Y.o (U j).Y.of.length (U j).Y.c] 50
      have hBx := (Below.refl wr.heap.size wr).alloc (Nat.le_refl _) (.cells #[.int .i64 (U j).T, .string (U j).N, .int .i64 (U j).Y.k, .string (U j).Y.n, .slice (U j).Y.o (U j).Y.of.length (U j).Y.c] 50)
      have k0 := hX.cell (i := 0) rfl
      have HX := Lib.hid hX
      have HGx := Lib.hid (HG.out.below hBx)
      have HNX : Hid (own p q wr.heap.size = false) := Lib.hid (HN.out _ hsz)
      clear hX hBx
      go_upto_region 6 with (go_at_call 21; go_loud (refine (row_g HGx.out HN.out s (U j).T HSZ.out).mono ?_; rintro e w2 ⟨g, b, rfl, hbt, hg2, hb2⟩; have HBT := Lib.hid hbt; have HG2 := Lib.hid hg2; have HX2 := Lib.hid (HX.out.be hb2 HNX.out); clear hbt hg2 hb2))
      have hX3 := HX2.out.alloc (.cells #[.int .i64 g.T, .string g.N, .int .i64 g.Y.k, .string g.Y.n, .slice g.Y.o g.Y.of.length g.Y.c] 50)
      have k3 := hX3.cell (i := 0) rfl
      have HG3 := Lib.hid (HG2.out.below ((Below.refl w2.heap.size w2).alloc (Nat.le_refl _) (.cells #[.int .i64 g.T, .string g.N, .int .i64 g.Y.k, .string g.Y.n, .slice g.Y.o g.Y.of.length g.Y.c] 50)))
      clear hX3
      cases b with
      | true =>
        go_wp2
        exact ⟨⟨j + 1, n, _, by omega, by omega, by go_num, rfl, Lib.hid (fun hz i hi => by
          by_cases e : i = j
          · subst e; exact HBT.out rfl
          · exact HQ.out hz i (by omega)), HG3⟩, by simp [intOf]; omega⟩
      | false =>
        have HG4 := Lib.hid (HG3.out.below ((Below.refl (w2.alloc (.cells #[.int .i64 g.T, .string g.N, .int .i64 g.Y.k, .string g.Y.n, .slice g.Y.o g.Y.of.length g.Y.c] 50)).heap.size (w2.alloc (.cells #[.int .i64 g.T, .string g.N, .int .i64 g.Y.k, .string g.Y.n, .slice g.Y.o g.Y.of.length g.Y.c] 50))).alloc (Nat.le_refl _) (.cells #[.int .i64 (U j).T] 3)))
        have HR4 : Hid (∃ xs, Rw 3 1 w.heap.size _ n xs ((w2.alloc (.cells #[.int .i64 g.T, .string g.N, .int .i64 g.Y.k, .string g.Y.n, .slice g.Y.o g.Y.of.length g.Y.c] 50)).alloc (.cells #[.int .i64 (U j).T] 3))) := Lib.hid (by obtain ⟨F', xs, h1, h2, h3, h4, h5, h6⟩ := HG4.out; exact ⟨xs, h3⟩)
        obtain ⟨xs, hR4⟩ := HR4.out
        have HR := Lib.hid hR4
        have hs4 := HG3.out.be.size
        have HS4 := Lib.hid hs4
        clear HR4 hR4 hs4
        go_wp2_with (at_builtin; go_loud (refine Rw.list rfl (.tmp 30) (.tmp 33) 23 rfl 3 1 w.heap.size _ 8 Tryz.underlying23 infoInt (by decide) _ (.slice (some ⟨_, 0, none⟩) 1 1) n 1 xs [.int .i64 (U j).T] rfl rfl HR.out (Rw.lit_at _ _ 1 _ [.int .i64 (U j).T] rfl (by simp)) (by intro z hz; obtain rfl : z = .int .i64 (U j).T := (by simpa using hz); rfl) (by unfold maxLen; omega) (by omega) (by have := HS4.out; simp at this ⊢; omega) ?_; intro v5 w5 hR5 hg5 hG5; have HG5 := Lib.hid (HG4.out.push HN.out hR5 hg5 hG5); clear hR5 hg5 hG5))
        exact ⟨⟨j + 1, n + 1, _, by omega, by omega, by go_num, rfl, Lib.hid (fun hz => by omega), HG5⟩, by simp [intOf]; omega⟩
    · have hji : ¬ (j : Int) < (m : Int) := by omega
      obtain rfl : j = m := by omega
      go_wp2
      go_ret
      exact gone_end HG.out HP HQ HR
end Go.Proofs.YtdogddliifbjnaaGreat.Ck
