/- Hellos: the walks of the laws HelloTakes and HelloBack. -/
import Derived.Test.YtldjefnijkefcaaHeRef
namespace Go.Proofs.Ytldjefnijkefcaa.He
open Go.RowKit Cm Dc
set_option linter.unusedVariables false
set_option linter.unusedSimpArgs false

section
variable {Mt : Nat → (Nat → Nat) → (Nat → Nat) → World → Prop}
set_option maxRecDepth 100000 in
set_option maxHeartbeats 2000000 in
theorem takes_walk (hA : Api Mt) (o e : Int) (t : Nat) (b : ByteArray) (w : World) (ho : I64 o) (he : I64 e) (ht : t < 18446744073709551616) (hb : b.size ≤ 140737488355327) :
    Calls Try.prog 3 #[agH o e t, .string b] w fun x w' => x = .returned (.bool true) ∧ Below w.heap.size w w' := by
  have HA := Lib.hid hA
  obtain ⟨o', e', t', x', hv⟩ : ∃ o e t x, htV b = (o, e, t, x) := ⟨_, _, _, _, rfl⟩
  have HV := Lib.hid hv
  have HO := Lib.hid ho
  have HE := Lib.hid he
  have HT := Lib.hid ht
  have HBZ := Lib.hid hb
  obtain ⟨s, hs⟩ : ∃ s, hpT o e t = s := ⟨_, rfl⟩
  obtain ⟨z, hz⟩ : ∃ z, hpE o e = z := ⟨_, rfl⟩
  have HSZ := Lib.hid (And.intro hs hz)
  have HC := Lib.hid (Cs.new w [.int .i64 o, .int .i64 e, .int .u64 (t : Int)] 24)
  have HB := Lib.hid ((Below.refl w.heap.size w).alloc (Nat.le_refl _) (.cells #[.int .i64 o, .int .i64 e, .int .u64 (t : Int)] 24))
  have c0 := HC.out.three
  clear hA hv ho he ht hb hs hz
  go_enter Try.func3, Try.ntmps3
  go_wp2_with (first
    | (go_at_call 6; refine (HA.out.put o e t _ HO.out HE.out HT.out).mono ?_; rw [HSZ.out.1, HSZ.out.2]; rintro y w1 ⟨rfl, hb1⟩; have HC1 := Lib.hid (HC.out.below hb1 HC.out.lt); have HB1 := Lib.hid (HB.out.trans (hb1.mono HB.out.size)); have c1 := HC1.out.three; clear hb1)
    | (go_at_call 7; refine (rput_any o e t _ HO.out HE.out HT.out).mono ?_; rw [HSZ.out.1, HSZ.out.2]; rintro y w2 ⟨rfl, hb2⟩; have HB2 := Lib.hid (HB1.out.trans (hb2.mono HB1.out.size)); clear hb2)
    | (go_at_call 8; refine (HA.out.take b o' e' t' x' _ HBZ.out HV.out).mono ?_; rintro y w3 ⟨rfl, hb3⟩; have HB3 := Lib.hid ((HB2.out.trans (hb3.mono HB2.out.size)).alloc (HB2.out.trans (hb3.mono HB2.out.size)).size (.cells #[.int .i64 (o' : Int), .int .i64 (e' : Int), .int .u64 (t' : Int)] 28)); have HC3 := Lib.hid (Cs.new w3 [.int .i64 (o' : Int), .int .i64 (e' : Int), .int .u64 (t' : Int)] 28); clear hb3)
    | (go_at_call 9; refine (rtake_any b o' e' t' x' _ HBZ.out HV.out).mono ?_; rintro y w4 ⟨rfl, hb4⟩; have HC4 := Lib.hid ((HC3.out.below hb4 HC3.out.lt).alloc (.cells #[.int .i64 (o' : Int), .int .i64 (e' : Int), .int .u64 (t' : Int)] 24)); have HC5 := Lib.hid (Cs.new w4 [.int .i64 (o' : Int), .int .i64 (e' : Int), .int .u64 (t' : Int)] 24); have HB4 := Lib.hid ((HB3.out.trans (hb4.mono HB3.out.size)).alloc (HB3.out.trans (hb4.mono HB3.out.size)).size (.cells #[.int .i64 (o' : Int), .int .i64 (e' : Int), .int .u64 (t' : Int)] 24)); have c4 := HC4.out.three; have c5 := HC5.out.three; clear hb4)
    | (go_at_call 10; refine (awake_any HA.out _).mono ?_; rintro y w6 ⟨rfl, hb6⟩; have HB6 := Lib.hid (HB4.out.trans (hb6.mono HB4.out.size)); clear hb6))
  go_ret
  exact ⟨rfl, HB6.out⟩
end
end Go.Proofs.Ytldjefnijkefcaa.He
