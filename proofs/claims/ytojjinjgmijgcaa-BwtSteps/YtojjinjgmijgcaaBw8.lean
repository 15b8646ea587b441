/-
  What is told of a text that was turned; an argument of the type api.Bwt, opened; the contract of layer 18's heads.
-/
import Derived.Test.YtojjinjgmijgcaaBx6
import Derived.Test.YtojjinjgmijgcaaRq
namespace Go.Proofs.Ytojjinjgmijgcaa
open Go.ChangeShapes Go.WideShapes Go.ChangeAt Go.RowKit Go.Joins Go.Deep
set_option linter.unusedVariables false
set_option linter.unusedSimpArgs false
set_option maxRecDepth 100000

/-- A text that was turned, in memory. -/
def MA (w : World) (t : List Nat) (lo : Option Addr) (lc : Nat) (co : Option Addr) (cc : Nat) : Prop := BA w lo (Su.La t) lc co (toI (Su.fs t)) cc
theorem MA.keep {w w' : World} {t : List Nat} {lo : Option Addr} {lc : Nat} {co : Option Addr} {cc : Nat} (h : MA w t lo lc co cc) (hb : Below w.heap.size w w') : MA w' t lo lc co cc := BA.keep h hb
theorem mmake_c (ao : Option Addr) (t : List Nat) (cap : Nat) (w : World) (hx : Bd w ao t) (hb : Bytes t) (hc : t.length ≤ cap) (hl : t.length ≤ 8192) :
    Calls Try.prog 11 #[.slice ao t.length cap] w fun e w' => ∃ lo lc co cc, e = .returned (.tuple #[.agg #[.slice lo t.length lc, .int .i64 (Su.rk t 0 : Nat), .slice co 257 cc], .int .i64 0]) ∧ MA w' t lo lc co cc ∧ Below w.heap.size w w' := by
  have := bmake_c ao t cap w hx hb hc
  unfold MakQ at this
  rw [(Su.mk_in hl).1, (Su.mk_in hl).2.1, (Su.mk_in hl).2.2, (Su.arr_in hl).2, Su.length_fs, Su.length_La] at this
  exact this.mono fun e w' ⟨lo, lc, co, cc, a, b, c, d, _, f⟩ => ⟨lo, lc, co, cc, a, ⟨b, Su.La_bytes hb, by rw [Su.length_La]; exact c, d, by rw [length_toI, Su.length_fs]; omega⟩, f⟩
theorem mback_c {t : List Nat} (hb : Bytes t) (hl : t.length ≤ 8192) (w : World) {lo : Option Addr} {lc : Nat} {co : Option Addr} {cc : Nat} (h : MA w t lo lc co cc) :
    Calls Try.prog 9 #[.agg #[.slice lo t.length lc, .int .i64 (Su.rk t 0 : Nat), .slice co 257 cc]] w fun e w' => ∃ bo bc, e = .returned (.tuple #[.slice bo t.length bc, .int .i64 0]) ∧ Bd w' bo t ∧ t.length ≤ bc ∧ Below w.heap.size w w' := by
  have := bback_c lo (Su.La t) lc (Su.rk t 0 : Nat) co (toI (Su.fs t)) cc w h
  unfold BackQ at this
  rw [(Su.back_ok (Su.tn_mk hl hb)).1, (Su.back_ok (Su.tn_mk hl hb)).2, Su.length_La, length_toI, Su.length_fs] at this
  exact this
theorem mchk_c {t : List Nat} (hb : Bytes t) (hl : t.length ≤ 8192) (w : World) {lo : Option Addr} {lc : Nat} {co : Option Addr} {cc : Nat} (h : MA w t lo lc co cc) :
    Calls Try.prog 10 #[.agg #[.slice lo t.length lc, .int .i64 (Su.rk t 0 : Nat), .slice co 257 cc]] w fun e w' => e = .returned (.bool true) ∧ Below w.heap.size w w' := by
  have := bchk_c lo (Su.La t) lc (Su.rk t 0 : Nat) co (toI (Su.fs t)) cc w h
  rw [Su.bok_yes (Su.tn_mk hl hb), Su.length_La, length_toI, Su.length_fs] at this
  exact this
theorem mstep_c {t : List Nat} (hb : Bytes t) (hl : t.length ≤ 8192) (i : Nat) (hi : i ≤ t.length) (w : World) {lo : Option Addr} {lc : Nat} {co : Option Addr} {cc : Nat} (h : MA w t lo lc co cc) :
    Calls Try.prog 14 #[.agg #[.slice lo t.length lc, .int .i64 (Su.rk t 0 : Nat), .slice co 257 cc], .int .i64 (i : Int)] w fun e w' => e = .returned (.tuple #[.int .i64 (Su.stp (Su.La t) (Su.rk t 0) (Su.first t) i : Nat), .int .i64 0]) ∧ Below w.heap.size w w' := by
  have := bstep_c lo (Su.La t) lc (Su.rk t 0 : Nat) co (toI (Su.fs t)) cc i w h (Su.bok_yes (Su.tn_mk hl hb))
  have e := Su.st_in (i := i) (Su.bok_yes (Su.tn_mk hl hb)) (by rw [Su.length_La]; exact hi)
  rw [e.1, e.2, Su.length_La, length_toI, Su.length_fs, Su.first_La, Int.toNat_natCast] at this
  exact this
theorem mruns_c {t : List Nat} (hb : Bytes t) (hl : t.length ≤ 8192) (w : World) {lo : Option Addr} {lc : Nat} {co : Option Addr} {cc : Nat} (h : MA w t lo lc co cc) :
    Calls Try.prog 15 #[.agg #[.slice lo t.length lc, .int .i64 (Su.rk t 0 : Nat), .slice co 257 cc]] w fun e w' => e = .returned (.int .i64 (Su.rn (Su.La t) t.length : Nat)) ∧ Below w.heap.size w w' := by
  have := bruns_c lo (Su.La t) lc (Su.rk t 0 : Nat) co (toI (Su.fs t)) cc w h
  have e : Su.rnN (Su.La t) (Su.rk t 0 : Nat) (toI (Su.fs t)) = Su.rn (Su.La t) t.length := by unfold Su.rnN; rw [if_pos (Su.bok_yes (Su.tn_mk hl hb)), Su.length_La]
  rw [e, Su.length_La, length_toI, Su.length_fs] at this
  exact this

theorem Try.cells22 : Try.prog.cellsOf 22 = 1 := by kernel_rfl
theorem Try.cells25 : Try.prog.cellsOf 25 = 3 := by kernel_rfl
theorem array3 {cs : Array Value} (h : cs.size = 3) : ∃ a b c, cs = #[a, b, c] := by
  obtain ⟨l⟩ := cs
  match l, h with
  | [a, b, c], _ => exact ⟨a, b, c, rfl⟩
theorem open_bys {H : Type} {enc : TypeId × Value → H} {W : World} {n : Nat} {c : Value} {y : DataW H × List MemPlace} (h : DataW.trod enc Try.prog W 0 (fun _ => true) true n 22 [c] = some y) :
    ∃ ao l cap, c = .slice ao (List.length l) cap ∧ Bd W ao l ∧ Bytes l ∧ l.length ≤ cap := by
  rcases open_ints Try.underlying22 Try.underlying5 Try.cells5 h with ⟨hcs, _⟩ | ⟨x, l, cp, zs, hcs, _, hl, hm, hz, _, hcell, hwz⟩
  · simp at hcs
    subst hcs
    exact ⟨none, [], 0, rfl, bd0 _ _, (by intro x hx; cases hx), by simp⟩
  · simp at hcs
    subst hcs
    have hz2 : zs.length = cp := by simpa using hz
    obtain ⟨xs, hx1, hx2, hx3⟩ := bd_of W x l zs (by omega) hcell hwz
    subst hx1
    exact ⟨some x, xs, cp, rfl, hx2, hx3, hl⟩
theorem open_bwt {H : Type} {enc : TypeId × Value → H} {W : World} {base : Nat} {v : Value} {d : DataW H} {p : List MemPlace} (hv : Value.okWide Try.prog W .any base 25 v) (h : DataW.Trod enc Try.prog W 0 (fun _ => true) true 25 v d p) :
    ∃ ao L ac r bo C bc, v = .agg #[.slice ao (List.length L) ac, .int .i64 r, .slice bo (List.length C) bc] ∧ Bd W ao L ∧ Bytes L ∧ L.length ≤ ac ∧ (-9223372036854775808 ≤ r ∧ r ≤ 9223372036854775807) ∧ Nd W bo C ∧ FitI C ∧ C.length ≤ bc := by
  obtain ⟨cs, rfl, hsz⟩ := okWide_struct Try.underlying25 hv
  obtain ⟨c0, c1, c2, rfl⟩ := array3 (hsz.trans Try.cells25)
  obtain ⟨fuel, hf⟩ := h
  obtain ⟨y0, y1, y2, n, hx, _, h0, h1, h2⟩ := trod_struct3 Try.underlying25 hf
  have g0 : DataW.trod enc Try.prog W 0 (fun _ => true) true n 22 [c0] = some y0 := by simpa [Value.cells, Try.cells22] using h0
  have g1 : DataW.trod enc Try.prog W 0 (fun _ => true) true n 3 [c1] = some y1 := by simpa [Value.cells, Try.cells22, Try.cells3] using h1
  have g2 : DataW.trod enc Try.prog W 0 (fun _ => true) true n 23 [c2] = some y2 := by simpa [Value.cells, Try.cells22, Try.cells3, Try.cells23] using h2
  obtain ⟨a, e0, _, wa⟩ := DataW.trod_int Try.underlying3 g1
  simp at e0
  subst e0
  obtain ⟨ao, L, ac, rfl, u1, u2, u3⟩ := open_bys g0
  obtain ⟨bo, C, bc, rfl, v1, v2, v3⟩ := open_is g2
  exact ⟨ao, L, ac, a, bo, C, bc, rfl, u1, u2, u3, i64_wf a wa, v1, v2, v3⟩

theorem ban_sa2 : Su.sa ban = [6, 5, 3, 1, 0, 4, 2] := by rw [← (Su.arr_in (t := ban) (by decide)).1]; exact ban_sa.1
theorem ban_rk : Su.rk ban 0 = 4 := by decide +kernel
theorem ban_La : Su.La ban = [97, 110, 110, 98, 97, 97] := by
  unfold Su.La
  rw [ban_sa2, ban_rk]
  decide +kernel
theorem ban_fs : gt (Su.fs ban) 98 = 4 := by decide +kernel
theorem ban_stp : Su.stp (Su.La ban) 4 (Su.first ban) 0 = 1 := by rw [ban_La]; decide +kernel
theorem ban_runs : Su.rn (Su.La ban) 6 = 4 := by rw [ban_La]; decide +kernel
theorem none_tn (t : List Nat) : ¬ Su.Tn [] 0 [] t := fun h => by
  have := congrArg List.length h.c
  rw [length_toI, Su.length_fs] at this
  simp at this
set_option maxHeartbeats 4000000 in
theorem heads18_c (w : World) : Calls Try.prog 8 #[] w fun e w' => e = .returned (.bool true) ∧ Below w.heap.size w w' := by
  have kc := fun (w : World) (C : Array Value) (n c : Nat) => Lib.run_convert_bytes_const (P := Try.prog) w 22 5 C n c Try.underlying22 Try.underlying5
  have hl : ban.length ≤ 8192 := by decide
  have M1 : Hid (∀ w0 ao, Bd w0 ao ban → Calls Try.prog 11 #[.slice ao 6 6] w0 fun e w' => ∃ lo lc co cc, e = .returned (.tuple #[.agg #[.slice lo 6 lc, .int .i64 4, .slice co 257 cc], .int .i64 0]) ∧ MA w' ban lo lc co cc ∧ Below w0.heap.size w0 w') := fun w0 ao h => by
    have := mmake_c ao ban 6 w0 h ban_bytes (by decide) hl
    rw [ban_rk] at this
    exact this
  have K1 : Hid (∀ w0 lo lc co cc, MA w0 ban lo lc co cc → Calls Try.prog 9 #[.agg #[.slice lo 6 lc, .int .i64 4, .slice co 257 cc]] w0 fun e w' => ∃ bo bc, e = .returned (.tuple #[.slice bo 6 bc, .int .i64 0]) ∧ Bd w' bo ban ∧ 6 ≤ bc ∧ Below w0.heap.size w0 w') := fun w0 lo lc co cc h => by
    have := mback_c ban_bytes hl w0 h
    rw [ban_rk] at this
    exact this
  have S1 : Hid (∀ w0 lo lc co cc, MA w0 ban lo lc co cc → Calls Try.prog 14 #[.agg #[.slice lo 6 lc, .int .i64 4, .slice co 257 cc], .int .i64 0] w0 fun e w' => e = .returned (.tuple #[.int .i64 1, .int .i64 0]) ∧ Below w0.heap.size w0 w') := fun w0 lo lc co cc h => by
    have := mstep_c ban_bytes hl 0 (Nat.zero_le _) w0 h
    rw [ban_rk, ban_stp] at this
    exact this
  have S2 : Hid (∀ w0 lo lc co cc, MA w0 ban lo lc co cc → Calls Try.prog 14 #[.agg #[.slice lo 6 lc, .int .i64 4, .slice co 257 cc], .int .i64 7] w0 fun e w' => e = .returned (.tuple #[.int .i64 0, .int .i64 3]) ∧ Below w0.heap.size w0 w') := fun w0 lo lc co cc h => by
    have := bstep_c lo (Su.La ban) lc (Su.rk ban 0 : Nat) co (toI (Su.fs ban)) cc 7 w0 h (Su.bok_yes (Su.tn_mk hl ban_bytes))
    have e := Su.st_out (L := Su.La ban) (i := 7) (Su.bok_yes (Su.tn_mk hl ban_bytes)) (.inr (by rw [Su.length_La]; decide))
    rw [e.1, e.2, Su.length_La, length_toI, Su.length_fs, ban_rk] at this
    exact this
  have Z1 : Hid (∀ w0, Calls Try.prog 9 #[.agg #[.slice none 0 0, .int .i64 0, .slice none 0 0]] w0 fun e w' => ∃ bo bc, e = .returned (.tuple #[.slice bo 0 bc, .int .i64 161]) ∧ Below w0.heap.size w0 w') := fun w0 => by
    have := bback_c none [] 0 0 none [] 0 w0 ⟨bd0 _ _, (fun x hx => by cases hx), Nat.le_refl _, nd0 _ _, by simp⟩
    unfold BackQ at this
    rw [(Su.back_bad none_tn).1, (Su.back_bad none_tn).2] at this
    exact this.mono fun e w' ⟨bo, bc, a, _, _, d⟩ => ⟨bo, bc, a, d⟩
  have C1 : Hid (∀ w0 lo lc co cc, MA w0 ban lo lc co cc → Calls Try.prog 10 #[.agg #[.slice lo 6 lc, .int .i64 4, .slice co 257 cc]] w0 fun e w' => e = .returned (.bool true) ∧ Below w0.heap.size w0 w') := fun w0 lo lc co cc h => by
    have := mchk_c ban_bytes hl w0 h
    rw [ban_rk] at this
    exact this
  have R1 : Hid (∀ w0 lo lc co cc, MA w0 ban lo lc co cc → Calls Try.prog 15 #[.agg #[.slice lo 6 lc, .int .i64 4, .slice co 257 cc]] w0 fun e w' => e = .returned (.int .i64 4) ∧ Below w0.heap.size w0 w') := fun w0 lo lc co cc h => by
    have := mruns_c ban_bytes hl w0 h
    rw [ban_rk, show ban.length = 6 from rfl, ban_runs] at this
    exact this
  go_enter Try.func8, Try.ntmps8
  go_wp2_with fail
  refine (M1.out _ _ (bd_lit w ban (6, 7))).mono ?_
  rintro e w1 ⟨lo, lc, co, cc, rfl, hM, hb⟩
  have ba := below_alloc w1 (.cells #[.slice lo 6 lc, .int .i64 4, .slice co 257 cc] 25)
  have BX := hide (Cel.new w1 [.slice lo 6 lc, .int .i64 4, .slice co 257 cc] 25)
  have HM := hide (hM.keep ba)
  have HB := hide (((below_alloc w (.cells (yv ban).toArray 5 (6, 7))).trans (hb.mono (by simp))).trans (ba.mono (by have := hb.size; simp at this; omega)))
  clear hb hM M1 ba
  go_wp2_with fail
  refine (K1.out _ _ _ _ _ HM.out).mono ?_
  rintro e w2 ⟨bo, bc, rfl, hT, hbc, hb⟩
  have HT := hide hT
  replace BX := hide (BX.out.kept hb)
  replace HM := hide (HM.out.keep hb)
  replace HB := hide (HB.out.trans (hb.mono HB.out.size))
  clear hb hT K1
  generalize w1.heap.size = g1 at *
  have c0 := BX.out.cell 0 rfl
  have c1 := BX.out.cell 1 rfl
  have c2 := BX.out.cell 2 rfl
  go_wp2_with fail
  refine (S1.out _ _ _ _ _ HM.out).mono ?_
  rintro e w3 ⟨rfl, hb⟩
  replace BX := hide (BX.out.kept hb)
  replace HM := hide (HM.out.keep hb)
  replace HT := hide (HT.out.keep hb)
  replace HB := hide (HB.out.trans (hb.mono HB.out.size))
  clear hb c0 c1 c2
  have c0 := BX.out.cell 0 rfl
  have c1 := BX.out.cell 1 rfl
  have c2 := BX.out.cell 2 rfl
  go_wp2_with fail
  refine (S2.out _ _ _ _ _ HM.out).mono ?_
  rintro e w4 ⟨rfl, hb⟩
  replace BX := hide (BX.out.kept hb)
  replace HM := hide (HM.out.keep hb)
  replace HT := hide (HT.out.keep hb)
  replace HB := hide (HB.out.trans (hb.mono HB.out.size))
  clear hb c0 c1 c2
  have c0 := BX.out.cell 0 rfl
  have c1 := BX.out.cell 1 rfl
  have c2 := BX.out.cell 2 rfl
  go_wp2_with fail
  refine (Z1.out _).mono ?_
  rintro e w5 ⟨zo, zc, rfl, hb⟩
  replace BX := hide (BX.out.kept hb)
  replace HM := hide (HM.out.keep hb)
  replace HT := hide (HT.out.keep hb)
  replace HB := hide (HB.out.trans (hb.mono HB.out.size))
  clear hb c0 c1 c2
  have CV1 := conv lc HM.out.x
  rw [Su.length_La, ban_La, show ban.length = 6 from rfl, show strOfNums (nums [97, 110, 110, 98, 97, 97]) = ⟨#[97, 110, 110, 98, 97, 97]⟩ from rfl] at CV1
  have CV2 := conv bc HT.out
  rw [show ban.length = 6 from rfl, show strOfNums (nums ban) = ⟨#[98, 97, 110, 97, 110, 97]⟩ from rfl] at CV2
  obtain ⟨b3, off3, rfl, hb3, hcc3⟩ := HM.out.n (by rw [length_toI, Su.length_fs]; omega)
  have e98 := hcc3 98 (by rw [length_toI, Su.length_fs]; omega)
  rw [gi_toI, ban_fs] at e98
  clear hcc3
  have c0 := BX.out.cell 0 rfl
  have c1 := BX.out.cell 1 rfl
  have c2 := BX.out.cell 2 rfl
  go_wp2_with fail
  refine (C1.out _ _ _ _ _ HM.out).mono ?_
  rintro e w6 ⟨rfl, hb⟩
  replace BX := hide (BX.out.kept hb)
  replace HM := hide (HM.out.keep hb)
  replace HT := hide (HT.out.keep hb)
  replace HB := hide (HB.out.trans (hb.mono HB.out.size))
  clear hb c0 c1 c2
  have c0 := BX.out.cell 0 rfl
  have c1 := BX.out.cell 1 rfl
  have c2 := BX.out.cell 2 rfl
  go_wp2_with fail
  refine (R1.out _ _ _ _ _ HM.out).mono ?_
  rintro e w7 ⟨rfl, hb⟩
  replace BX := hide (BX.out.kept hb)
  replace HM := hide (HM.out.keep hb)
  replace HT := hide (HT.out.keep hb)
  replace HB := hide (HB.out.trans (hb.mono HB.out.size))
  clear hb c0 c1 c2
  go_wp2
  go_ret
  exact ⟨rfl, HB.out⟩
end Go.Proofs.Ytojjinjgmijgcaa
