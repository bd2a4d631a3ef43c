/- fit: what an asker keeps: two schemas, the rows of those names that it came to. -/
import Derived.Test.YtdogddliifbjnaaGreatMg25
import Derived.Test.YtdogddliifbjnaaGreatMg52
import Derived.Test.YtdogddliifbjnaaGreatMg55
namespace Go.Proofs.YtdogddliifbjnaaGreat.Ck
open Go.RowKit Cm
open _root_.Go.Proofs.YtdogddliifbjnaaGreat.Nm
set_option linter.unusedVariables false
set_option linter.unusedSimpArgs false

/-- The blocks that a question turns. -/
def Tn (p q : Option Addr) (C : Nat) : Nat → Bool := add (own p q) C
structure Ak (F : Nat → Bool) (p : Option Addr) (L : Sc) (q : Option Addr) (M : Sc) (C : Nat) (w : World) : Prop where
  pq : Pq F p L q M w
  fc : F C = true
  oc : own p q C = false
  mp : ∃ (N : List ByteArray) (G : ByteArray → Option (Option Addr × Nat × Nat)), Fmq C N.length G w ∧ N.Nodup ∧ (∀ s, s ∈ N → L.kd s ≠ 0 ∧ G s ≠ none) ∧ ∀ s v, G s = some v → ∃ U, Fls v.1 v.2.1 U (cut F w) ∧ rowL U v.2.1 = L.rows s
section
variable {F : Nat → Bool} {p q : Option Addr} {L M : Sc} {C : Nat} {w w' : World}
theorem Ak.wide (h : Ak F p L q M C w) (hb : Be (Tn p q C) w w') : Be F w w' := hb.wide (fun k _ hk => by
  unfold Tn Ck.add at hk
  rw [Bool.or_eq_true, decide_eq_true_eq] at hk
  rcases hk with hk | hk
  · exact (h.pq.mine hk).1
  · rw [hk]; exact h.fc)
theorem be_tn (hb : Be (own p q) w w') : Be (Tn p q C) w w' := hb.wide (fun k _ hk => add_old hk)
theorem Ak.keep (h : Ak F p L q M C w) (hp : Pq F p L q M w') (hb : Be (own p q) w w') : Ak F p L q M C w' := by
  obtain ⟨N, G, h1, h2, h3, h4⟩ := h.mp
  refine ⟨hp, h.fc, h.oc, N, G, h1.kept (hb.block h1.lt h.oc), h2, h3, fun s v hv => ?_⟩
  obtain ⟨U, g1, g2⟩ := h4 s v hv
  exact ⟨U, g1.sub (Sub.of_below (by rw [cut_size]; exact h.pq.wide hb)), g2⟩
theorem Ak.below (h : Ak F p L q M C w) (hb : Below w.heap.size w w') : Ak F p L q M C w' := h.keep (h.pq.below hb) (Be.of hb)
theorem Ak.le (h : Ak F p L q M C w) : L.n ≤ 1000 := by
  rcases h.pq.a with ⟨_, h0⟩ | ⟨B, _, hd⟩
  · omega
  · exact hd.2.2.1.le
theorem names_le {N : List ByteArray} (hn : N.Nodup) (h : ∀ s, s ∈ N → L.kd s ≠ 0) : N.length ≤ L.n := by
  have hf : ∀ s, s ∈ N → ∃ i, fiS L.S s L.n = some i ∧ i < L.n ∧ L.S i = s := fun s hs => by
    have := h s hs
    unfold Sc.kd knS at this
    cases e : fiS L.S s L.n with
    | none => rw [e] at this; exact absurd rfl this
    | some i => exact ⟨i, rfl, (fiS_some e).1, (fiS_some e).2⟩
  have := nodup_lt L.n (N.map fun s => (fiS L.S s L.n).getD 0) (by
    unfold List.Nodup at hn ⊢
    rw [List.pairwise_map]
    refine List.Pairwise.imp_of_mem (fun {a b} ha hb hab e => ?_) hn
    obtain ⟨i, hi, _, hi2⟩ := hf a ha
    obtain ⟨j, hj, _, hj2⟩ := hf b hb
    rw [hi, hj] at e
    simp only [Option.getD_some] at e
    exact hab (by rw [← hi2, ← hj2, e])) (fun x hx => by
    obtain ⟨s, hs, rfl⟩ := List.mem_map.1 hx
    obtain ⟨i, hi, hl, _⟩ := hf s hs
    rw [hi]; exact hl)
  simpa using this
end
/-- What rowsOf hands out. -/
def RwP (F : Nat → Bool) (p : Option Addr) (L : Sc) (q : Option Addr) (M : Sc) (C : Nat) (s : ByteArray) (w : World) (e : Ending) (w' : World) : Prop :=
  ∃ o n c U, e = .returned (.slice o n c) ∧ Fls o n U (cut F w') ∧ rowL U n = L.rows s ∧ Ak F p L q M C w' ∧ Be (Tn p q C) w w'
set_option maxRecDepth 100000 in
set_option maxHeartbeats 2000000 in
theorem rowsof_any (F : Nat → Bool) (p : Option Addr) (L : Sc) (q : Option Addr) (M : Sc) (C : Nat) (s : ByteArray) (w : World) (h : Ak F p L q M C w) (hs : s.size ≤ 140737488355327) (hk : L.kd s ≠ 0) :
    Calls Tryz.prog 113 #[.agg #[.pointer p, .map (some C)], .string s] w (fun e w' => RwP F p L q M C s w e w') := by
  have hB1 := (Below.refl w.heap.size w).alloc (Nat.le_refl _) (.cells #[.pointer p, .map (some C)] 74)
  have HC := Lib.hid (Cs.new w [.pointer p, .map (some C)] 74)
  have hA1 := h.below hB1
  have hnot : ∀ (x : Bool) (w : World), (Op.unary .not (.bool x)).run Tryz.prog w = .ok (.bool (!x)) w := fun _ _ => rfl
  obtain ⟨N, G, m1, m2, m3, m4⟩ := hA1.mp
  have hlook := m1.look s (by unfold maxLen; omega)
  have c0 := HC.out.cell (i := 0) rfl
  have c1 := HC.out.cell (i := 1) rfl
  have HA1 := Lib.hid hA1
  have HB1 := Lib.hid hB1
  have HM4 := Lib.hid m4
  have HM2 := Lib.hid m2
  have HM3 := Lib.hid m3
  have HM1 := Lib.hid m1
  have HNX : Hid (own p q w.heap.size = false) := Lib.hid (h.pq.new (Nat.le_refl _))
  clear h hB1 hA1 m1 m2 m3 m4
  cases hg : G s with
  | some v =>
    rw [hg] at hlook
    obtain ⟨o, n, c⟩ := v
    have hlook2 : (Instr.lookup 72 (.map (some C)) (.string s) true).run Tryz.prog (w.alloc (.cells #[.pointer p, .map (some C)] 74)) = .ok (.tuple #[.slice o n c, .bool true]) (w.alloc (.cells #[.pointer p, .map (some C)] 74)) := hlook
    have HG := Lib.hid hg
    clear hlook hg
    go_enter Tryz.func113, Tryz.ntmps113
    go_wp2
    go_ret
    obtain ⟨U, g1, g2⟩ := HM4.out s (o, n, c) HG.out
    exact ⟨o, n, c, U, rfl, g1, g2, HA1.out, Be.of HB1.out⟩
  | none =>
    rw [hg] at hlook
    have hlook2 : (Instr.lookup 72 (.map (some C)) (.string s) true).run Tryz.prog (w.alloc (.cells #[.pointer p, .map (some C)] 74)) = .ok (.tuple #[.slice none 0 0, .bool false]) (w.alloc (.cells #[.pointer p, .map (some C)] 74)) := hlook
    have HG := Lib.hid hg
    clear hlook hg
    go_enter Tryz.func113, Tryz.ntmps113
    go_upto_region 4 with (go_at_call 20; go_loud (refine (rows_p F p L q M s _ HA1.out.pq hs).mono ?_; rintro e w2 ⟨o, n, c, U, rfl, hf2, hr2, hp2, hb2⟩; have HA2 := Lib.hid (HA1.out.keep hp2 hb2); have HF2 := Lib.hid hf2; have HR2 := Lib.hid hr2; have HB2 := Lib.hid hb2; clear hf2 hr2 hp2 hb2))
    have e0 := (HC.out.be HB2.out HNX.out).cell (i := 1) rfl
    have hm2 := HM1.out.kept (HB2.out.block HM1.out.lt HA1.out.oc)
    have hle := names_le (L := L) HM2.out (fun s hs => (HM3.out s hs).1)
    obtain ⟨w3, hst, hF3, hg3⟩ := hm2.store s (o, n, c) (by unfold maxLen; omega) (by have := HA1.out.le; unfold maxLen; omega)
    have hst2 : (Instr.mapUpdate 72 (.map (some C)) (.string s) (.slice o n c)).run Tryz.prog w2 = .ok () w3 := hst
    have HF3 := Lib.hid hF3
    have HG3 := Lib.hid hg3
    clear hm2 hst hF3 hg3
    go_wp2
    go_ret
    have hbC : Be (fun k => decide (k = C)) w2 w3 := (Be.refl _ w2).grown HG3.out (.inl (by simp))
    have hCF : ∀ k, decide (k = C) = true → F k = true := fun k hk => by obtain rfl : k = C := (by simpa using hk); exact HA1.out.fc
    have hno : ∀ B, own p q B = true → decide (B = C) = false := fun B hB => by
      rw [decide_eq_false_iff_not]; intro e; subst e; rw [HA1.out.oc] at hB; cases hB
    have hbF : Be F w2 w3 := hbC.wide (fun k _ hk => hCF k hk)
    have hsub := Sub.of_below (w := cut F w2) (w' := cut F w3) (by rw [cut_size]; exact hbF)
    have hnN : s ∉ N := fun hm => (HM3.out s hm).2 HG.out
    refine ⟨o, n, c, U, rfl, HF2.out.sub hsub, HR2.out, ⟨HA2.out.pq.be hbC (fun k _ hk => hCF k hk) (fun B hB => hno B (own_iff.2 (.inl hB))) (fun B hB => hno B (own_iff.2 (.inr hB))), HA1.out.fc, HA1.out.oc, s :: N, _, HF3.out, List.nodup_cons.2 ⟨hnN, HM2.out⟩, fun t ht => ?_, fun t v hv => ?_⟩, (Be.of HB1.out).trans ((be_tn HB2.out).trans (hbC.wide (fun k _ hk => by obtain rfl : k = C := (by simpa using hk); exact add_self _ _)))⟩
    · by_cases e : t = s
      · subst e; exact ⟨hk, by simp⟩
      · simp only [if_neg e]
        exact HM3.out t (by simpa [e] using ht)
    · by_cases e : t = s
      · subst e
        simp only [if_pos rfl] at hv
        obtain rfl := Option.some.inj hv
        exact ⟨U, HF2.out.sub hsub, HR2.out⟩
      · simp only [if_neg e] at hv
        obtain ⟨U', g1, g2⟩ := HM4.out t v hv
        exact ⟨U', (g1.sub (Sub.of_below (by rw [cut_size]; exact HA1.out.pq.wide HB2.out))).sub hsub, g2⟩
end Go.Proofs.YtdogddliifbjnaaGreat.Ck
/- fit: the question of a type. -/
namespace Go.Proofs.YtdogddliifbjnaaGreat.Ck
open Go.RowKit Cm
open _root_.Go.Proofs.YtdogddliifbjnaaGreat.Nm
set_option linter.unusedVariables false
set_option linter.unusedSimpArgs false

def wrV : Value := .func (.func 48) #[] #[]
/-- The question of a name. -/
def OnV (L : Sc) (p : Option Addr) (C : Nat) (s : ByteArray) (v : Value) : Prop :=
  (L.kd s = 1 ∧ v = .func (.func 76) #[.agg #[.pointer p, .map (some C), .string s]] #[]) ∨ (L.kd s = 2 ∧ v = .func (.func 77) #[.agg #[.pointer p, .map (some C), .string s]] #[]) ∨
  (L.kd s = 3 ∧ v = .func (.func 78) #[.agg #[.pointer p, .map (some C), .string s]] #[]) ∨ ((L.kd s ≠ 1 ∧ L.kd s ≠ 2 ∧ L.kd s ≠ 3) ∧ v = wrV)
/-- The question of a type without TOpts. -/
def OfV (L : Sc) (p : Option Addr) (C : Nat) (Z : Ty) (v : Value) : Prop :=
  ((1 ≤ Z.k ∧ Z.k ≤ 5) ∧ v = .func (.func 44) #[.int .i64 Z.k] #[]) ∨ (Z.k = 6 ∧ OnV L p C Z.n v) ∨
  (Z.k = 7 ∧ Z.of.length = 1 ∧ v = .func (.func 46) #[.agg #[.pointer p, .map (some C), .slice Z.o 1 Z.c]] #[]) ∨
  (Z.k = 8 ∧ Z.of.length = 2 ∧ v = .func (.func 47) #[.agg #[.pointer p, .map (some C), .slice Z.o 2 Z.c]] #[]) ∨
  ((¬ (1 ≤ Z.k ∧ Z.k ≤ 6) ∧ ¬ (Z.k = 7 ∧ Z.of.length = 1) ∧ ¬ (Z.k = 8 ∧ Z.of.length = 2)) ∧ v = wrV)
def OnP (F : Nat → Bool) (p : Option Addr) (L : Sc) (q : Option Addr) (M : Sc) (C : Nat) (s : ByteArray) (w : World) (e : Ending) (w' : World) : Prop :=
  ∃ v, e = .returned v ∧ OnV L p C s v ∧ Ak F p L q M C w' ∧ Below w.heap.size w w'
set_option maxRecDepth 100000 in
set_option maxHeartbeats 2000000 in
theorem ofname_any (F : Nat → Bool) (p : Option Addr) (L : Sc) (q : Option Addr) (M : Sc) (C : Nat) (s : ByteArray) (w : World) (h : Ak F p L q M C w) (hs : s.size ≤ 140737488355327) :
    Calls Tryz.prog 45 #[.agg #[.pointer p, .map (some C)], .string s] w (fun e w' => OnP F p L q M C s w e w') := by
  have hB1 := (Below.refl w.heap.size w).alloc (Nat.le_refl _) (.cells #[.pointer p, .map (some C)] 74)
  have HC := Lib.hid (Cs.new w [.pointer p, .map (some C)] 74)
  have HA1 := Lib.hid (h.below hB1)
  have HB1 := Lib.hid hB1
  have c0 := HC.out.cell (i := 0) rfl
  have hmf : ∀ (fn : Fn) (first cap : Array Value) (w : World), (Instr.makeFunc fn first cap).run Tryz.prog w = .ok (.func fn first cap) w := fun _ _ _ _ => rfl
  clear h hB1
  go_enter Tryz.func45, Tryz.ntmps45
  go_upto_region 2 with (go_at_call 19; go_loud (refine (kind_p F p L s _ HA1.out.pq.a hs).mono ?_; rintro e w2 ⟨rfl, hb2⟩; have HA2 := Lib.hid (HA1.out.below hb2); have HB2 := Lib.hid (HB1.out.trans (hb2.mono HB1.out.size)); have hC2 := HC.out.below hb2 HC.out.lt; have e0 := hC2.cell (i := 0) rfl; have e1 := hC2.cell (i := 1) rfl; clear hb2 hC2))
  generalize hkd : L.kd s = k
  have HK := Lib.hid hkd
  clear hkd
  by_cases h1 : k = 1
  · subst h1
    go_wp2
    go_ret
    exact ⟨_, rfl, .inl ⟨HK.out, rfl⟩, HA2.out, HB2.out⟩
  by_cases h2 : k = 2
  · subst h2
    go_wp2
    go_ret
    exact ⟨_, rfl, .inr (.inl ⟨HK.out, rfl⟩), HA2.out, HB2.out⟩
  by_cases h3 : k = 3
  · subst h3
    go_wp2
    go_ret
    exact ⟨_, rfl, .inr (.inr (.inl ⟨HK.out, rfl⟩)), HA2.out, HB2.out⟩
  have b1 : (k == 1) = false := by simpa using h1
  have b2 : (k == 2) = false := by simpa using h2
  have b3 : (k == 3) = false := by simpa using h3
  go_wp2
  go_ret
  exact ⟨_, rfl, .inr (.inr (.inr ⟨⟨by rw [HK.out]; exact h1, by rw [HK.out]; exact h2, by rw [HK.out]; exact h3⟩, rfl⟩)), HA2.out, HB2.out⟩
/-- What of hands out. -/
def OfQ (F : Nat → Bool) (p : Option Addr) (L : Sc) (q : Option Addr) (M : Sc) (C : Nat) (Y : Ty) (N : Nat) (w : World) (e : Ending) (w' : World) : Prop :=
  ∃ v Z, e = .returned v ∧ CoreR Y.sp Z.sp ∧ (∀ w1, TyIn w1 Y → TyIn w1 Z) ∧ Th N Z.sp ∧ OfV L p C Z v ∧ Ak F p L q M C w' ∧ Below w.heap.size w w'
set_option maxRecDepth 100000 in
set_option maxHeartbeats 8000000 in
theorem of_any (F : Nat → Bool) (p : Option Addr) (L : Sc) (q : Option Addr) (M : Sc) (C : Nat) (Y : Ty) (N : Nat) (w : World) (h : Ak F p L q M C w) (hY : TyIn w Y) (ht : Th N Y.sp) (hN : N ≤ 131072) :
    Calls Tryz.prog 24 #[.agg #[.pointer p, .map (some C)], .agg #[.int .i64 Y.k, .string Y.n, .slice Y.o Y.of.length Y.c]] w (fun e w' => OfQ F p L q M C Y N w e w') := by
  have hB1 := ((Below.refl w.heap.size w).alloc (Nat.le_refl _) (.cells #[.pointer p, .map (some C)] 74)).alloc (by simp) (.cells #[.int .i64 Y.k, .string Y.n, .slice Y.o Y.of.length Y.c] 48)
  have HC := Lib.hid ((Cs.new w [.pointer p, .map (some C)] 74).alloc (.cells #[.int .i64 Y.k, .string Y.n, .slice Y.o Y.of.length Y.c] 48))
  have hD := Cs.new (w.alloc (.cells #[.pointer p, .map (some C)] 74)) [.int .i64 Y.k, .string Y.n, .slice Y.o Y.of.length Y.c] 48
  rw [show (w.alloc (.cells #[.pointer p, .map (some C)] 74)).heap.size = w.heap.size + 1 by simp] at hD
  have HD := Lib.hid hD
  have HA0 := Lib.hid h
  have HA1 := Lib.hid (h.below hB1)
  have HB1 := Lib.hid hB1
  have HY := Lib.hid hY
  have HY1 := Lib.hid (ty_below hY hB1 (Nat.le_refl _))
  have HT := Lib.hid ht
  have hmf : ∀ (fn : Fn) (first cap : Array Value) (w : World), (Instr.makeFunc fn first cap).run Tryz.prog w = .ok (.func fn first cap) w := fun _ _ _ _ => rfl
  have d0 := HD.out.cell (i := 0) rfl
  have d1 := HD.out.cell (i := 1) rfl
  have d2 := HD.out.cell (i := 2) rfl
  clear h hB1 hD hY ht
  go_enter Tryz.func24, Tryz.ntmps24
  go_upto_region 2 with (go_at_call 43; go_loud (refine (wout_any Y N _ HY1.out HT.out hN).mono ?_; rintro e w2 ⟨Z, rfl, hc2, hz2, ht2, hb2⟩; have HA2 := Lib.hid (HA1.out.below hb2); have HB2 := Lib.hid (HB1.out.trans (hb2.mono HB1.out.size)); have HC2 := Lib.hid (HC.out.below hb2 HC.out.lt); have hD2 := HD.out.below hb2 HD.out.lt; have e0 := hD2.cell (i := 0) rfl; have e1 := hD2.cell (i := 1) rfl; have e2 := hD2.cell (i := 2) rfl; have f0 := hD2.frozen (i := 0) rfl; have f1 := hD2.frozen (i := 1) rfl; have f2 := hD2.frozen (i := 2) rfl; have HD2 := Lib.hid hD2; have HCR := Lib.hid hc2; have HZ := Lib.hid hz2; have HTZ := Lib.hid ht2; clear hb2 hD2 hc2 hz2 ht2))
  have hne : w.heap.size ≠ w.heap.size + 1 := by omega
  have hC3 := ((HC2.out.other (i := 0) (.int .i64 Z.k) hne).other (i := 1) (.string Z.n) hne).other (i := 2) (.slice Z.o Z.of.length Z.c) hne
  have hD3 := ((HD2.out.put (i := 0) (.int .i64 Z.k)).put (i := 1) (.string Z.n)).put (i := 2) (.slice Z.o Z.of.length Z.c)
  have hB3 := ((HB2.out.setCell (p := ⟨w.heap.size + 1, 0, none⟩) (Nat.le_succ _) (.int .i64 Z.k)).setCell (p := ⟨w.heap.size + 1, 1, none⟩) (Nat.le_succ _) (.string Z.n)).setCell (p := ⟨w.heap.size + 1, 2, none⟩) (Nat.le_succ _) (.slice Z.o Z.of.length Z.c)
  clear hne
  generalize (((w2.setCell ⟨w.heap.size + 1, 0, none⟩ (.int .i64 Z.k)).setCell ⟨w.heap.size + 1, 1, none⟩ (.string Z.n)).setCell ⟨w.heap.size + 1, 2, none⟩ (.slice Z.o Z.of.length Z.c)) = W at hC3 hD3 hB3 ⊢
  have HA3 := Lib.hid (HA0.out.below hB3)
  have HB3 := Lib.hid hB3
  have g0 := hD3.cell (i := 0) rfl
  have g1 := hD3.cell (i := 1) rfl
  have g2 := hD3.cell (i := 2) rfl
  have k0 := hC3.cell (i := 0) rfl
  have k1 := hC3.cell (i := 1) rfl
  have HNZ : Hid (Z.n.size ≤ 140737488355327) := Lib.hid (by have := HZ.out w HY.out; cases this; assumption)
  clear hC3 hD3 hB3
  by_cases h1 : Z.k = 1
  · rw [h1] at g0
    go_wp2
    go_ret
    exact ⟨_, Z, rfl, HCR.out, HZ.out, HTZ.out, .inl ⟨⟨by omega, by omega⟩, by rw [h1]; rfl⟩, HA3.out, HB3.out⟩
  by_cases h2 : Z.k = 2
  · rw [h2] at g0
    go_wp2
    go_ret
    exact ⟨_, Z, rfl, HCR.out, HZ.out, HTZ.out, .inl ⟨⟨by omega, by omega⟩, by rw [h2]; rfl⟩, HA3.out, HB3.out⟩
  by_cases h3 : Z.k = 3
  · rw [h3] at g0
    go_wp2
    go_ret
    exact ⟨_, Z, rfl, HCR.out, HZ.out, HTZ.out, .inl ⟨⟨by omega, by omega⟩, by rw [h3]; rfl⟩, HA3.out, HB3.out⟩
  by_cases h4 : Z.k = 4
  · rw [h4] at g0
    go_wp2
    go_ret
    exact ⟨_, Z, rfl, HCR.out, HZ.out, HTZ.out, .inl ⟨⟨by omega, by omega⟩, by rw [h4]; rfl⟩, HA3.out, HB3.out⟩
  by_cases h5 : Z.k = 5
  · rw [h5] at g0
    go_wp2
    go_ret
    exact ⟨_, Z, rfl, HCR.out, HZ.out, HTZ.out, .inl ⟨⟨by omega, by omega⟩, by rw [h5]; rfl⟩, HA3.out, HB3.out⟩
  by_cases h6 : Z.k = 6
  · rw [h6] at g0
    go_wp2_with (go_at_call 45; go_loud (refine (ofname_any F p L q M C Z.n _ HA3.out HNZ.out).mono ?_; rintro e w4 ⟨v, rfl, hv, hA4, hB4⟩; have HV := Lib.hid hv; have HA4 := Lib.hid hA4; have HB4 := Lib.hid (HB3.out.trans (hB4.mono HB3.out.size)); clear hv hA4 hB4))
    go_ret
    exact ⟨_, Z, rfl, HCR.out, HZ.out, HTZ.out, .inr (.inl ⟨h6, HV.out⟩), HA4.out, HB4.out⟩
  by_cases h7 : Z.k = 7
  · rw [h7] at g0
    by_cases hl : Z.of.length = 1
    · have hl2 : ((Z.of.length : Int) == 1) = true := by rw [hl]; rfl
      go_wp2
      go_ret
      exact ⟨_, Z, rfl, HCR.out, HZ.out, HTZ.out, .inr (.inr (.inl ⟨h7, hl, rfl⟩)), HA3.out, HB3.out⟩
    · have hl2 : ((Z.of.length : Int) == 1) = false := beq_eq_false_iff_ne.2 (by omega)
      go_wp2
      go_ret
      exact ⟨_, Z, rfl, HCR.out, HZ.out, HTZ.out, .inr (.inr (.inr (.inr ⟨⟨by omega, by omega, by omega⟩, rfl⟩))), HA3.out, HB3.out⟩
  by_cases h8 : Z.k = 8
  · rw [h8] at g0
    by_cases hl : Z.of.length = 2
    · have hl2 : ((Z.of.length : Int) == 2) = true := by rw [hl]; rfl
      go_wp2
      go_ret
      exact ⟨_, Z, rfl, HCR.out, HZ.out, HTZ.out, .inr (.inr (.inr (.inl ⟨h8, hl, rfl⟩))), HA3.out, HB3.out⟩
    · have hl2 : ((Z.of.length : Int) == 2) = false := beq_eq_false_iff_ne.2 (by omega)
      go_wp2
      go_ret
      exact ⟨_, Z, rfl, HCR.out, HZ.out, HTZ.out, .inr (.inr (.inr (.inr ⟨⟨by omega, by omega, by omega⟩, rfl⟩))), HA3.out, HB3.out⟩
  have b1 : (Z.k == 1) = false := by simpa using h1
  have b2 : (Z.k == 2) = false := by simpa using h2
  have b3 : (Z.k == 3) = false := by simpa using h3
  have b4 : (Z.k == 4) = false := by simpa using h4
  have b5 : (Z.k == 5) = false := by simpa using h5
  have b6 : (Z.k == 6) = false := by simpa using h6
  have b7 : (Z.k == 7) = false := by simpa using h7
  have b8 : (Z.k == 8) = false := by simpa using h8
  go_wp2
  go_ret
  exact ⟨_, Z, rfl, HCR.out, HZ.out, HTZ.out, .inr (.inr (.inr (.inr ⟨⟨by omega, by omega, by omega⟩, rfl⟩))), HA3.out, HB3.out⟩
end Go.Proofs.YtdogddliifbjnaaGreat.Ck
