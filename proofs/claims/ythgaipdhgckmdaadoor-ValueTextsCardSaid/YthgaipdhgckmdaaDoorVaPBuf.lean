/- Values: bytes that a call has made by append: append as a law; the contracts of the program's comma, colon, char, quote, and of what the library appends. -/
import Derived.Test.YthgaipdhgckmdaaDoorVaPDeep
import Derived.Test.YthgaipdhgckmdaaDoorVaDigits
import Derived.Test.YthgaipdhgckmdaaDoorCmR
import Derived.Test.YthgaipdhgckmdaaDoorShelf
import Derived.Lib.AppendStr
import Derived.Lib.OthersKept
import Derived.Lib.ItoaLen
namespace Go.Proofs.YthgaipdhgckmdaaDoor.Va
open Go.RowKit Cm
set_option linter.unusedVariables false
set_option linter.unusedSimpArgs false

/-- A slice of bytes of the call's own that holds l; its block is none below B. -/
def Bt (B : Nat) (v : Value) (l : List UInt8) (w : World) : Prop := w.ownsRow B 5 1 v l.length (Lib.byteCells l)
/-- What a call answers that appends: a slice of the call's own that holds x; nothing below B has turned, and nothing else but bytes. -/
def Gv (B : Nat) (w : World) (x : List UInt8) (e : Ending) (w' : World) : Prop := ∃ v', e = .returned v' ∧ Bt B v' x w' ∧ Below B w w' ∧ Lib.OthersKept 5 none w w'
theorem Bt.alloc {B : Nat} {v : Value} {l : List UInt8} {w : World} (h : Bt B v l w) (o : Obj) : Bt B v l (w.alloc o) := World.ownsRow.alloc h o
theorem Bt.drew {B : Nat} {v : Value} {l : List UInt8} {w : World} (h : Bt B v l w) : Bt B v l w.drew := h
theorem Bt.nil (B : Nat) (w : World) : Bt B (.slice none 0 0) [] w := World.ownsRow_nil w B _ _
theorem Bt.form {B : Nat} {v : Value} {l : List UInt8} {w : World} (h : Bt B v l w) : ∃ o cap, v = .slice o l.length cap := by
  obtain ⟨o, cap, h1, _⟩ := Rw.form (e := 5) (s := 1) h
  exact ⟨o, cap, h1⟩
theorem Bt.kept {B : Nat} {v : Value} {l : List UInt8} {a w w' : World} (h : Bt B v l w) (hk : Lib.OthersKept 5 none a w) (hg : w.grownBy w' v.ownBlock) : Lib.OthersKept 5 none a w' := by
  refine hk.grown hg fun g hgv => ?_
  rcases h.2 with ⟨rfl, _⟩ | ⟨g', cap, cur, rfl, _, hgg, _⟩
  · simp [Value.ownBlock] at hgv
  · simp [Value.ownBlock] at hgv
    subst hgv
    exact ⟨cur, _, hgg⟩
theorem infoByte : (Tryd.prog.info? 5).map (fun i => (i.zero, i.size, i.bytes)) = some (some (.int .u8 0), 1, 1) := by kernel_rfl
theorem bc_app (l m : List UInt8) : Lib.byteCells (l ++ m) = Lib.byteCells l ++ Lib.byteCells m := by unfold Lib.byteCells; rw [List.map_append]
theorem bc_one {l : List UInt8} : ∀ u ∈ Lib.byteCells l, u.oneCell' = true := by
  intro u hu
  unfold Lib.byteCells at hu
  obtain ⟨b, _, rfl⟩ := List.mem_map.1 hu
  rfl
section
variable {ops : Array Oper} {rest : List Oper} {o : Oper} {a : Act} {Q : Exit → Act → World → Prop} {w : World}
/-- append of bytes that were laid anew for it. -/
theorem app_lit (hgd : o.guard = none) (x y : Operand) (ho : o.op = .call { callee := .builtin .append, args := #[x, y], argTypes := #[34, 34] })
    (B : Nat) (v : Value) (l ys : List UInt8) (cs : Array Value) (g m : Nat) (hx : a.eval x = v) (hy : a.eval y = .slice (some ⟨g, 0, none⟩) m m) (hg : w.heap.size = g) (hm : ys.length = m) (hcs : cs = (Lib.byteCells ys).toArray)
    (h : Bt B v l w) (hB : B ≤ w.heap.size) (hlim : l.length + ys.length ≤ 1000000000)
    (hK : ∀ v' w', Bt B v' (l ++ ys) w' → Below B w w' → Lib.OthersKept 5 none w w' → wpList Tryd.prog ops Q rest (a.put o.dst v') w') : wpList Tryd.prog ops Q (o :: rest) a (w.alloc (.cells cs 5)) := by
  obtain ⟨i0, hi, hz0, hz1, hz2⟩ := info_parts infoByte
  subst hcs hg hm
  refine wpList_append_own _ hgd x y _ ho B 5 i0 (.int .u8 0) 1 1 Tryd.underlying34 hi hz0 hz1 hz2 rfl (by decide) v _ _ hx (h.alloc _) ⟨w.heap.size, 0, none⟩ ys.length ys.length (Lib.byteCells ys) hy (by rw [Lib.byteCells_length, Nat.mul_one]) ?_ bc_one (by unfold maxLen; omega) (by omega) (by simp; omega) ?_
  · intro j u hj
    have hc := (Cs.new w (Lib.byteCells ys) 5).cell hj
    have hadd : (⟨w.heap.size, 0, none⟩ : Addr).add j = ⟨w.heap.size, j, none⟩ := by unfold Addr.add; split <;> simp_all
    rw [hadd]; exact hc
  · intro v' w' hown hgr _
    rw [← List.length_append, ← bc_app] at hown
    have hA : Bt B v l (w.alloc (.cells (Lib.byteCells ys).toArray 5)) := h.alloc _
    exact hK v' w' hown (((Below.refl B w).alloc hB _).grown hgr (by simp; omega) (fun k hk => (World.ownsRow.lt hA k hk).1)) (hA.kept ((Lib.OthersKept.refl _ _ _).alloc _) hgr)
/-- The same at an operation of a region. -/
theorem app_wp {K : Act → World → Prop} (x y : Operand) (ho : o.op = .call { callee := .builtin .append, args := #[x, y], argTypes := #[34, 34] })
    (B : Nat) (v : Value) (l ys : List UInt8) (cs : Array Value) (g m : Nat) (hx : a.eval x = v) (hy : a.eval y = .slice (some ⟨g, 0, none⟩) m m) (hg : w.heap.size = g) (hm : ys.length = m) (hcs : cs = (Lib.byteCells ys).toArray)
    (h : Bt B v l w) (hB : B ≤ w.heap.size) (hlim : l.length + ys.length ≤ 1000000000)
    (hK : ∀ v' w', Bt B v' (l ++ ys) w' → Below B w w' → Lib.OthersKept 5 none w w' → K (a.put o.dst v') w') : o.wp Tryd.prog a (w.alloc (.cells cs 5)) K Q := by
  obtain ⟨i0, hi, hz0, hz1, hz2⟩ := info_parts infoByte
  subst hcs hg hm
  refine wp_append_own _ x y _ ho B 5 i0 (.int .u8 0) 1 1 Tryd.underlying34 hi hz0 hz1 hz2 rfl (by decide) v _ _ hx (h.alloc _) ⟨w.heap.size, 0, none⟩ ys.length ys.length (Lib.byteCells ys) hy (by rw [Lib.byteCells_length, Nat.mul_one]) ?_ bc_one (by unfold maxLen; omega) (by omega) (by simp; omega) ?_
  · intro j u hj
    have hc := (Cs.new w (Lib.byteCells ys) 5).cell hj
    have hadd : (⟨w.heap.size, 0, none⟩ : Addr).add j = ⟨w.heap.size, j, none⟩ := by unfold Addr.add; split <;> simp_all
    rw [hadd]; exact hc
  · intro v' w' hown hgr _
    rw [← List.length_append, ← bc_app] at hown
    have hA : Bt B v l (w.alloc (.cells (Lib.byteCells ys).toArray 5)) := h.alloc _
    exact hK v' w' hown (((Below.refl B w).alloc hB _).grown hgr (by simp; omega) (fun k hk => (World.ownsRow.lt hA k hk).1)) (hA.kept ((Lib.OthersKept.refl _ _ _).alloc _) hgr)
/-- append of a text. -/
theorem app_str (hgd : o.guard = none) (x y : Operand) (ho : o.op = .call { callee := .builtin .append, args := #[x, y], argTypes := #[34, 9] })
    (B : Nat) (v : Value) (l : List UInt8) (s : ByteArray) (hx : a.eval x = v) (hy : a.eval y = .string s)
    (h : Bt B v l w) (hB : B ≤ w.heap.size) (hlim : l.length + s.size ≤ 1000000000)
    (hK : ∀ v' w', Bt B v' (l ++ s.data.toList) w' → Below B w w' → Lib.OthersKept 5 none w w' → wpList Tryd.prog ops Q rest (a.put o.dst v') w') : wpList Tryd.prog ops Q (o :: rest) a w := by
  obtain ⟨i0, hi, hz0, hz1, hz2⟩ := info_parts infoByte
  refine Lib.wpList_append_own_string _ hgd x y _ _ ho B 5 i0 Tryd.underlying34 Tryd.underlying9 hi hz0 hz1 hz2 v _ _ hx h s hy (by unfold maxLen; omega) (by omega) hB ?_
  intro v' w' hown hgr _
  have e1 : l.length + s.size = (l ++ s.data.toList).length := by rw [List.length_append]; rfl
  have e2 : Lib.byteCells l ++ Go.Lib.strCells s = Lib.byteCells (l ++ s.data.toList) := by rw [bc_app]; rfl
  rw [e1, e2] at hown
  exact hK v' w' hown ((Below.refl B w).grown hgr hB (fun k hk => (World.ownsRow.lt h k hk).1)) (h.kept (Lib.OthersKept.refl _ _ _) hgr)
end
theorem dg_dec : ∀ n, dgL n = Lib.decDigits n := by
  intro n
  induction n using Nat.strongRecOn with
  | ind n ih =>
    by_cases h : n < 10
    · rw [dg_small h, Lib.decDigits, dif_pos h]
    · rw [dg_big h, Lib.decDigits, dif_neg h, ih _ (by omega)]
theorem sg_itoa (n : Int) : sgL n = Lib.itoa n := by
  unfold sgL Lib.itoa
  by_cases h : 0 ≤ n
  · rw [if_pos h, if_neg (by omega), dg_dec]
  · rw [if_neg h, if_pos (by omega), dg_dec]
    congr 2; omega
theorem appint_any (B : Nat) (v : Value) (l : List UInt8) (i : Int) (w : World) (hi : -9223372036854775808 ≤ i ∧ i ≤ 9223372036854775807) (h : Bt B v l w) (hB : B ≤ w.heap.size) (hlim : l.length ≤ 100000000)
    (hT : Lib.TabBelow Tryd.prog B w "internal/strconv.uint64pow10" .u64 Lib.pow10Tab) : Calls Tryd.prog 47 #[v, .int .i64 i, .int .i64 10] w (Gv B w (l ++ sgL i)) :=
  (Tryd.strconv_AppendInt_10 B l.length i hi.1 hi.2 v _ w h hB (by omega) hT).mono fun e w' ⟨v', h1, h2, h3, h4⟩ => ⟨v', h1, by
    unfold Bt; rw [sg_itoa, List.length_append, bc_app]; exact h2, h3, h4⟩
theorem appuint_any (B : Nat) (v : Value) (l : List UInt8) (n : Nat) (w : World) (hn : n < 18446744073709551616) (h : Bt B v l w) (hB : B ≤ w.heap.size) (hlim : l.length ≤ 100000000)
    (hT : Lib.TabBelow Tryd.prog B w "internal/strconv.uint64pow10" .u64 Lib.pow10Tab) : Calls Tryd.prog 48 #[v, .int .u64 (n : Nat), .int .i64 10] w (Gv B w (l ++ dgL n)) := by
  have H : Calls Tryd.prog 67 #[v, .int .u64 (n : Nat), .int .i64 10] w (Gv B w (l ++ dgL n)) :=
    (Tryd.internal_strconv_AppendUint_10 B l.length n hn v _ w h hB (by omega) hT.here).mono fun e w' ⟨v', h1, h2, h3, h4⟩ => ⟨v', h1, by
      unfold Bt; rw [dg_dec, List.length_append, bc_app]; exact h2, h3, h4⟩
  have HH := Lib.hid H
  clear H
  go_enter Tryd.func48, Tryd.ntmps48
  go_wp2_with (go_at_call 67; refine HH.out.mono ?_; rintro e w2 ⟨v2, rfl, h2, hb2, hk2⟩)
  go_ret
  exact ⟨v2, rfl, h2, hb2, hk2⟩
theorem ibool_any (B : Nat) (v : Value) (l : List UInt8) (b : Bool) (w : World) (h : Bt B v l w) (hB : B ≤ w.heap.size) (hlim : l.length ≤ 100000000) :
    Calls Tryd.prog 65 #[v, .bool b] w (Gv B w (l ++ if b then [116, 114, 117, 101] else [102, 97, 108, 115, 101])) := by
  have H := Lib.hid h
  clear h
  cases b
  · go_enter Tryd.func65, Tryd.ntmps65
    go_wp2_with (at_builtin; refine app_str rfl _ _ rfl B v l ⟨#[102, 97, 108, 115, 101]⟩ rfl rfl H.out hB (by have : (⟨#[102, 97, 108, 115, 101]⟩ : ByteArray).size = 5 := rfl; omega) ?_; intro v2 w2 h2 hb2 hk2)
    go_ret
    exact ⟨v2, rfl, h2, hb2, hk2⟩
  · go_enter Tryd.func65, Tryd.ntmps65
    go_wp2_with (at_builtin; refine app_str rfl _ _ rfl B v l ⟨#[116, 114, 117, 101]⟩ rfl rfl H.out hB (by have : (⟨#[116, 114, 117, 101]⟩ : ByteArray).size = 4 := rfl; omega) ?_; intro v2 w2 h2 hb2 hk2)
    go_ret
    exact ⟨v2, rfl, h2, hb2, hk2⟩
theorem appbool_any (B : Nat) (v : Value) (l : List UInt8) (b : Bool) (w : World) (h : Bt B v l w) (hB : B ≤ w.heap.size) (hlim : l.length ≤ 100000000) :
    Calls Tryd.prog 46 #[v, .bool b] w (Gv B w (l ++ if b then [116, 114, 117, 101] else [102, 97, 108, 115, 101])) := by
  have HH := Lib.hid (ibool_any B v l b w h hB hlim)
  obtain ⟨x, hx⟩ : ∃ x : List UInt8, x = if b then [116, 114, 117, 101] else [102, 97, 108, 115, 101] := ⟨_, rfl⟩
  rw [← hx] at HH ⊢
  clear h hx
  go_enter Tryd.func46, Tryd.ntmps46
  go_wp2_with (go_at_call 65; refine HH.out.mono ?_; rintro e w2 ⟨v2, rfl, h2, hb2, hk2⟩)
  go_ret
  exact ⟨v2, rfl, h2, hb2, hk2⟩
/-- A sign behind what is there. -/
theorem comma_any (B : Nat) (v : Value) (l : List UInt8) (i : Nat) (w : World) (h : Bt B v l w) (hB : B ≤ w.heap.size) (hlim : l.length ≤ 100000000) :
    Calls Tryd.prog 51 #[v, .int .i64 (i : Nat)] w (Gv B w (l ++ if 0 < i then [44] else [])) := by
  have H := Lib.hid h
  clear h
  by_cases h0 : i = 0
  · subst h0
    rw [if_neg (by omega), List.append_nil]
    go_enter Tryd.func51, Tryd.ntmps51
    go_wp2
    go_ret
    exact ⟨v, rfl, H.out, Below.refl _ _, Lib.OthersKept.refl _ _ _⟩
  · rw [if_pos (by omega)]
    have hi : ((i : Int) == 0) = false := by simpa using h0
    go_enter Tryd.func51, Tryd.ntmps51
    go_wp2_with (at_builtin; refine app_lit rfl _ _ rfl B v l [44] _ _ _ rfl rfl rfl rfl rfl H.out hB (by simp; omega) ?_; intro v2 w2 h2 hb2 hk2)
    go_ret
    exact ⟨v2, rfl, h2, hb2, hk2⟩
theorem comma_ret {x : List UInt8} {i : Nat} (hx : x = if 0 < i then [44] else []) (B : Nat) (v : Value) (l : List UInt8) (w : World) (h : Bt B v l w) (hB : B ≤ w.heap.size) (hlim : l.length ≤ 100000000) :
    Calls Tryd.prog 51 #[v, .int .i64 (i : Nat)] w (Gv B w (l ++ x)) := by
  subst hx; exact comma_any B v l i w h hB hlim
theorem colon_any (B : Nat) (v : Value) (l : List UInt8) (i : Nat) (w : World) (h : Bt B v l w) (hB : B ≤ w.heap.size) (hi : i ≤ 1000000) (hlim : l.length ≤ 100000000) :
    Calls Tryd.prog 52 #[v, .int .i64 (i : Nat)] w (Gv B w (l ++ if i % 2 = 1 then [58] else if 0 < i then [44] else [])) := by
  have H := Lib.hid h
  clear h
  have e2 : (i : Int).tmod 2 = (i : Int) % 2 := Int.tmod_eq_emod_of_nonneg (by omega)
  by_cases h0 : i % 2 = 1
  · rw [if_pos h0]
    have hc : ((i : Int) % 2 == 1) = true := by have : (i : Int) % 2 = 1 := by omega
                                                rw [this]; rfl
    go_enter Tryd.func52, Tryd.ntmps52
    go_wp2_with (at_builtin; refine app_lit rfl _ _ rfl B v l [58] _ _ _ rfl rfl rfl rfl rfl H.out hB (by simp; omega) ?_; intro v2 w2 h2 hb2 hk2)
    go_ret
    exact ⟨v2, rfl, h2, hb2, hk2⟩
  · rw [if_neg h0]
    have hc : ((i : Int) % 2 == 1) = false := by have : (i : Int) % 2 = 0 := by omega
                                                 rw [this]; rfl
    obtain ⟨x, hx⟩ : ∃ x : List UInt8, x = if 0 < i then [44] else [] := ⟨_, rfl⟩
    rw [← hx]
    have HX := Lib.hid hx
    clear hx
    go_enter Tryd.func52, Tryd.ntmps52
    go_wp2_with (go_at_call 51; refine (comma_ret HX.out B v l _ H.out hB hlim).mono ?_; rintro e w2 ⟨v2, rfl, h2, hb2, hk2⟩)
    go_ret
    exact ⟨v2, rfl, h2, hb2, hk2⟩
end Go.Proofs.YthgaipdhgckmdaaDoor.Va
