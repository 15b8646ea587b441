/-
  The contracts of the program's width, lowSize, highSize, ofBit and set. A struct out of a block of its own, whole, its cells not looked into: as a step of a list of operations (guarded or not), and of a region that draws its order. The contracts of the program's places: what it makes tells the places of a row by places. Plain: when a row by places may be: it fits, and its places rise below N; what it is then, field by field.
-/
import Derived.Test.YtpeecabfcgijhaaGreatDoorM10
import Derived.Test.YtpeecabfcgijhaaGreatDoorM04
import Derived.Test.YtpeecabfcgijhaaGreatDoorM02
import Derived.Test.YtpeecabfcgijhaaGreatDoorM07
import Derived.Test.YtpeecabfcgijhaaGreatDoorM01
import Derived.Test.YtpeecabfcgijhaaGreatDoorM05
import Derived.Test.YtpeecabfcgijhaaGreatDoorM08
namespace Go.Proofs.YtpeecabfcgijhaaGreatDoor
open Go.RowKit Num Bit
set_option linter.unusedVariables false
set_option linter.unusedSimpArgs false
set_option maxRecDepth 100000

set_option maxHeartbeats 2000000 in
theorem gwidth_c (n m : Nat) (hn : n ≤ 1048576) (hm : m ≤ n) (w : World) :
  Calls Tryz.prog 134 #[.int .i64 n, .int .i64 m] w fun e w' => e = .returned (.int .i64 (wdF n m)) ∧ w' = w := by
 by_cases h0 : m = 0
 ·subst h0
  rw [show wdF n 0 = 0 from rfl]
  go_enter Tryz.func134, Tryz.ntmps134
  go_wp2
  go_ret
  exact ⟨rfl, rfl⟩
 ·have m0 : ((m : Int) == 0) = false := by simp; omega
  have m1 : ¬ (m : Int) = 0 := by omega
  obtain ⟨d, hd⟩ : ∃ d, d = n / m := ⟨_, rfl⟩
  have d1 : 1 ≤ d := by rw [hd]; exact Nat.div_pos hm (by omega)
  have d2 : d ≤ 1048576 := by rw [hd]; exact Nat.le_trans (Nat.div_le_self n m) hn
  have e1 : (n : Int) / (m : Int) = (d : Int) := by rw [hd]; exact (Int.natCast_ediv n m).symm
  have e2 : (n : Int).tdiv (m : Int) = (d : Int) := by rw [Int.tdiv_eq_ediv_of_nonneg (by omega)]; exact e1
  obtain ⟨z, hz⟩ : ∃ z, Go.bitLen d = z + 1 := ⟨Go.bitLen d - 1, by have := len_pos d (by omega) (by omega); omega⟩
  have hw : wdF n m = z := by unfold wdF; rw [if_neg h0, ← hd, hz]; rfl
  have lz_ := len_le d 21 (by omega)
  rw [hw]
  have L : Hid (∀ w0, Calls Tryz.prog 166 #[.int .u64 d] w0 fun e w' => e = .returned (.int .i64 ((z : Int) + 1)) ∧ w' = w0) := fun w0 => by
   have := len_c (d : Int) (by omega) (by omega) w0
   unfold lenI at this
   rw [Int.toNat_natCast, hz] at this
   exact this
  rw [hz] at lz_
  clear hz hw hd
  go_enter Tryz.func134, Tryz.ntmps134
  go_wp2_with fail
  refine (L.out _).mono ?_
  rintro e w1 ⟨rfl, h1⟩
  rw [h1]
  clear h1 w1
  go_wp2
  go_ret
  exact ⟨rfl, rfl⟩
theorem hide9' {p : Prop} (h : p) : Hid p := h
def loN (n m : Nat) : Nat := if wdF n m = 0 then 0 else m
theorem glowSize_c (n m : Nat) (hn : n ≤ 1048576) (hm : m ≤ n) (w : World) :
  Calls Tryz.prog 130 #[.int .i64 n, .int .i64 m] w fun e w' => e = .returned (.tuple #[.int .i64 (loN n m), .int .i64 (max (wdF n m) 1 : Nat)]) ∧ w' = w := by
 have C : Hid (∀ w0, Calls Tryz.prog 134 #[.int .i64 n, .int .i64 m] w0 fun e w' => e = .returned (.int .i64 (wdF n m)) ∧ w' = w0) := fun w0 => gwidth_c n m hn hm w0
 unfold loN
 have h20 := wdF_le n m (by omega)
 generalize wdF n m = v at *
 by_cases h0 : v = 0
 ·subst h0
  go_enter Tryz.func130, Tryz.ntmps130
  go_wp2_with fail
  refine (C.out _).mono ?_
  rintro e w1 ⟨rfl, h1⟩
  rw [h1]
  clear h1 w1
  go_wp2
  go_ret2
  exact ⟨rfl, rfl⟩
 ·have v0 : (0 : Int) < (v : Int) := by omega
  rw [if_neg h0, show max v 1 = v by omega]
  go_enter Tryz.func130, Tryz.ntmps130
  go_wp2_with fail
  refine (C.out _).mono ?_
  rintro e w1 ⟨rfl, h1⟩
  rw [h1]
  clear h1 w1
  go_wp2
  go_ret2
  exact ⟨rfl, rfl⟩
theorem ghighSize_c (n m : Nat) (hn : n ≤ 1048576) (hm : m ≤ n) (w : World) :
  Calls Tryz.prog 133 #[.int .i64 n, .int .i64 m] w fun e w' => e = .returned (.int .i64 ((m + n / 2 ^ wdF n m + 1 : Nat) : Int)) ∧ w' = w := by
 have C : Hid (∀ w0, Calls Tryz.prog 134 #[.int .i64 n, .int .i64 m] w0 fun e w' => e = .returned (.int .i64 (wdF n m)) ∧ w' = w0) := fun w0 => gwidth_c n m hn hm w0
 have h20 := wdF_le n m (by omega)
 generalize wdF n m = v at *
 obtain ⟨E, hE⟩ : ∃ E, Hid (E = n / 2 ^ v) := ⟨_, rfl⟩
 have lE : E ≤ 1048576 := by rw [hE.out]; exact Nat.le_trans (Nat.div_le_self _ _) hn
 have sE : (n : Int) / 2 ^ v = (E : Int) := by rw [hE.out, Int.natCast_ediv, Int.natCast_pow]; rfl
 rw [← hE.out, show ((m + E + 1 : Nat) : Int) = (m : Int) + (E : Int) + 1 by omega]
 have v64 : (v : Int) < 64 := by omega
 go_enter Tryz.func133, Tryz.ntmps133
 go_wp2_with fail
 refine (C.out _).mono ?_
 rintro e w1 ⟨rfl, h1⟩
 rw [h1]
 clear h1 w1
 go_wp2
 go_ret
 exact ⟨rfl, rfl⟩
theorem gofBit_c (bit : Bool) (i o : Nat) (hi : i ≤ 1048576) (ho : o ≤ i) (w : World) :
  Calls Tryz.prog 85 #[.bool bit, .int .i64 i, .int .i64 o] w fun e w' => e = .returned (.int .i64 ((if bit then o else i - o : Nat) : Int)) ∧ w' = w := by
 cases bit with
 | true =>
  go_enter Tryz.func85, Tryz.ntmps85
  go_wp2
  go_ret
  exact ⟨rfl, rfl⟩
 | false =>
  have e : Hid (((i - o : Nat) : Int) = (i : Int) - (o : Int)) := by show ((i - o : Nat) : Int) = _; omega
  simp only [Bool.false_eq_true, if_false]
  rw [e.out]
  go_enter Tryz.func85, Tryz.ntmps85
  go_wp2
  go_ret
  exact ⟨rfl, rfl⟩
theorem row_set (n : Nat) (f : Nat → Bool) (p : Nat) (hp : p < n) : (rowOf n f).set (p / 64) (gt (rowOf n f) (p / 64) ||| 2 ^ (p % 64)) = rowOf n (fun j => f j || p == j) := by
 have hl : p / 64 < (rowOf n f).length := by rw [length_rowOf]; omega
 have hfit := fit_rowOf n f
 have hg : ∀ i, gt ((rowOf n f).set (p / 64) (gt (rowOf n f) (p / 64) ||| 2 ^ (p % 64))) i = if i = p / 64 then gt (rowOf n f) i ||| 2 ^ (p % 64) else gt (rowOf n f) i := fun i => by
  unfold gt
  rw [List.getD_eq_getElem?_getD, List.getElem?_set]
  by_cases c : p / 64 = i
  ·subst c
   rw [if_pos rfl, if_pos hl, if_pos rfl]
   rfl
  ·rw [if_neg c, if_neg (fun e => c e.symm), List.getD_eq_getElem?_getD]
 refine eq_rowOf n _ _ ?_ (by rw [List.length_set, length_rowOf]) ?_
 ·intro i
  rw [hg]
  split
  ·exact Nat.or_lt_two_pow (n := 64) (hfit i) (Nat.pow_lt_pow_right (by decide) (by omega))
  ·exact hfit i
 ·intro i _
  have hb := bitAt_rowOf n f i
  unfold bitAt at hb ⊢
  rw [hg]
  by_cases c : i / 64 = p / 64
  ·rw [if_pos c, Nat.testBit_or, hb, Nat.testBit_two_pow]
   by_cases d : p = i
   ·subst d; simp [hp]
   ·have : ¬ p % 64 = i % 64 := by omega
    have d2 : (p == i) = false := by simp [d]
    rw [d2]
    simp [this]
  ·have d : ¬ p = i := fun e => c (by rw [e])
   have d2 : (p == i) = false := by simp [d]
   rw [if_neg c, hb, d2]
   simp
theorem Own.drew' {w : World} {g : Nat} {ys : List Nat} (h : Own w g ys) : Own w.drew g ys := h
theorem Turned.drew' {g : Nat} {a w : World} (h : Turned g a w) : Turned g a w.drew := ⟨h.os, h.tape, h.output, h.size, h.block⟩
set_option maxHeartbeats 4000000 in
theorem gset_c (n : Nat) (f : Nat → Bool) (g cap p : Nat) (w : World) (hO : Own w g (rowOf n f)) (hp : p < n) (hn : n ≤ 1048576) :
  Calls Tryz.prog 119 #[.slice (some ⟨g, 0, none⟩) (rowOf n f).length cap, .int .i64 p] w fun e w' => (∃ v, e = .returned v) ∧ Own w' g (rowOf n (fun j => f j || p == j)) ∧ Turned g w w' := by
 have hl : p / 64 < (rowOf n f).length := by rw [length_rowOf]; omega
 have hl2 : (p : Int) / 64 < ((rowOf n f).length : Int) := by omega
 have hll : (rowOf n f).length ≤ 16384 := by rw [length_rowOf]; omega
 have RS := hide9' (row_set n f p hp)
 have SO : Hid (IntKind.u64.wrap ((2 : Int) ^ (p % 64)) = ((2 ^ (p % 64) : Nat) : Int)) := shl_one _ (by omega)
 have SP : Hid (2 ^ (p % 64) < 18446744073709551616) := two_pow_lt _ (by omega)
 have fx := fit_rowOf n f
 have xl := fx (p / 64)
 generalize rowOf n f = xs at *
 have c1 := hO.cell (p / 64) hl
 have c2 := hO.frozen (p / 64)
 have OR : Hid (bits BinOp.or IntKind.u64 (gt xs (p / 64) : Int) (IntKind.u64.wrap ((2 : Int) ^ (p % 64))) = ((gt xs (p / 64) ||| 2 ^ (p % 64) : Nat) : Int)) := by show _ = _; rw [SO.out, u64_or_nat _ _ xl SP.out]
 have HO := hide9' hO
 generalize gt xs (p / 64) = x at *
 go_enter Tryz.func119, Tryz.ntmps119
 go_region
 refine bodyPost_end (results_none rfl _ _ _) rfl ?_
 rw [OR.out, ← RS.out]
 exact ⟨⟨_, rfl⟩, (HO.out.set _ _).drew', ((Turned.refl g w).set _ _).drew'⟩
end Go.Proofs.YtpeecabfcgijhaaGreatDoor

namespace Go.Proofs.YtpeecabfcgijhaaGreatDoor
open Go.RowKit
set_option linter.unusedVariables false

theorem load_obj {ops : Array Oper} {rest : List Oper} {d : Option Tmp} {ty T : TypeId} {ps : String} {af : Array Edge} {gd : Option (Nat × Bool)} {a : Act} {w : World} {Q : Exit → Act → World → Prop} {x : Operand}
  (g : Nat) (cs : List Value) {fs : Array Field} (hwn : Region.wanted (⟨d, .load T x, ty, ps, af, gd⟩ : Oper) (yielded ops a.tmps) = true) (hx : a.eval x = .pointer (some ⟨g, 0, none⟩)) (hc : Cel w g cs T) (hu : Tryz.prog.underlying T = some (.struct fs)) (hi : (Tryz.prog.info? T).map (·.size) = some cs.length)
  (h : wpList Tryz.prog ops Q rest (a.put d (.agg cs.toArray)) w) :
  wpList Tryz.prog ops Q (⟨d, .load T x, ty, ps, af, gd⟩ :: rest) a w :=
 wpList_step fun K hK => by
  rw [if_pos hwn]
  exact wp_load_row T x rfl g hx T cs.toArray (0, 0) _ hc hu rfl (by simpa using hi) (hK _ _ h)
theorem run_load_obj {T : TypeId} {w : World} {x : Operand} {ρ : Operand → Value} {d : Option Tmp} {ty : TypeId} {ps : String} {af : Array Edge} {gd : Option (Nat × Bool)}
  (g : Nat) (cs : List Value) {fs : Array Field} (hx : ρ x = .pointer (some ⟨g, 0, none⟩)) (hc : Cel w g cs T) (hu : Tryz.prog.underlying T = some (.struct fs)) (hi : (Tryz.prog.info? T).map (·.size) = some cs.length) :
  (execOp ρ (⟨d, .load T x, ty, ps, af, gd⟩ : Oper)).run Tryz.prog w = .ok (.value (.agg cs.toArray)) w := by
 have hl := run_loadVar_row (P := Tryz.prog) w g T T cs.toArray (0, 0) _ hc hu rfl (by simpa using hi)
 unfold execOp
 simp only [hx, Instr.loadAt, Instr.sureAddr, Sem.run_bind, Sem.run_pure, Result.andThen_ok, hl]
end Go.Proofs.YtpeecabfcgijhaaGreatDoor

namespace Go.Proofs.YtpeecabfcgijhaaGreatDoor
open Go.RowKit Go.Shelf Num Bit
set_option linter.unusedVariables false
set_option linter.unusedSimpArgs false
set_option maxRecDepth 100000
attribute [local go_sem] Oper.semAt_some

def plq (n mm : Nat) (xs : List Nat) (hh : Nat) (ys : List Nat) (q : Nat) : Nat := (gt (plc (bitAt ys) hh) q - q) * 2 ^ wdF n mm + numAt (wdF n mm) xs q
structure Fits (n mm kn vn : Nat) (LM : Int) (xs : List Nat) (hh : Nat) (ys : List Nat) : Prop where
 hn : n ≤ 1048576
 hm : mm ≤ n
 ik : ichk (kn : Int) (vn : Int) LM xs = true
 ck : chk (hh : Int) ys = true
 on : (plc (bitAt ys) hh).length = mm
 hv : vn = max (wdF n mm) 1
 hk : kn = loN n mm
 hh : hh = mm + n / 2 ^ wdF n mm + 1
theorem fpl_plq {n mm kn vn : Nat} {LM : Int} {xs : List Nat} {hh : Nat} {ys : List Nat} (h : Fits n mm kn vn LM xs hh ys) (q : Nat) (hq : q < mm) : fpl (wdF n mm) ((List.range kn).map (numAt vn xs)) (plc (bitAt ys) hh) q = plq n mm xs hh ys q := by
 unfold fpl plq
 congr 1
 by_cases c : wdF n mm = 0
 ·rw [if_pos c, c]
  rfl
 ·have e1 : vn = wdF n mm := by rw [h.hv]; omega
  have e2 : kn = mm := by rw [h.hk]; unfold loN; rw [if_neg c]
  rw [if_neg c, e1, e2]
  have e3 : gt ((List.range mm).map (numAt (wdF n mm) xs)) q = numAt (wdF n mm) xs q := by
   unfold gt
   rw [List.getD_eq_getElem?_getD, List.getElem?_map, List.getElem?_range hq]
   rfl
  rw [e3]
  exact Nat.mod_eq_of_lt (numOf_lt _ _)
theorem slc_at {n mm kn vn : Nat} {LM : Int} {xs : List Nat} {hh : Nat} {ys : List Nat} (h : Fits n mm kn vn LM xs hh ys) (q : Nat) (hq : q < mm) : slcE LM xs ((q : Int) * (wdF n mm : Int)) (wdF n mm : Int) = 0 ∧ slcX LM xs ((q : Int) * (wdF n mm : Int)) (wdF n mm : Int) = numAt (wdF n mm) xs q := by
 have h20 := wdF_le n mm (by have := h.hn; omega)
 have hc : chk LM xs = true := by
  have := h.ik
  unfold ichk at this
  rw [Bool.and_eq_true] at this
  exact this.2
 have hLM : LM = (kn : Int) * (vn : Int) := by
  have := h.ik
  unfold ichk at this
  rw [Bool.and_eq_true, decide_eq_true_eq] at this
  exact this.1.2.2.2.symm
 have hE : slcE LM xs ((q : Int) * (wdF n mm : Int)) (wdF n mm : Int) = 0 := by
  unfold slcE
  have hq0 : (0 : Int) ≤ (q : Int) * (wdF n mm : Int) := Int.mul_nonneg (by omega) (by omega)
  rw [if_neg (by rw [hc]; simp; omega), if_neg]
  have : (q : Int) * (wdF n mm : Int) + (wdF n mm : Int) ≤ LM := by
   by_cases c : wdF n mm = 0
   ·rw [c, hLM]
    have : (0 : Int) ≤ (kn : Int) * (vn : Int) := Int.mul_nonneg (by omega) (by omega)
    simpa using this
   ·have e1 : vn = wdF n mm := by rw [h.hv]; omega
    have e2 : kn = mm := by rw [h.hk]; unfold loN; rw [if_neg c]
    rw [hLM, e1, e2]
    have := mul_next mm (wdF n mm) q hq
    rw [← Int.natCast_mul, ← Int.natCast_mul]
    omega
  omega
 refine ⟨hE, ?_⟩
 unfold slcX
 rw [if_pos hE]
 unfold numAt
 rw [Int.toNat_natCast, ← Int.natCast_mul, Int.toNat_natCast]
theorem nb64 (x : Nat) (h : x ≤ 20971520) : -9223372036854775808 ≤ (x : Int) ∧ (x : Int) ≤ 9223372036854775807 := ⟨by omega, by omega⟩
theorem nw64 (x : Nat) (h : x ≤ 20971520) : wrap64 (x : Int) = (x : Int) := by unfold wrap64; omega
theorem slc_call (ao : Option Addr) (xs : List Nat) (cap : Nat) (fx : Fit xs) (q v : Nat) (LM : Int) (hq : q ≤ 1048576) (hv : v ≤ 20) (sE : slcE LM xs ((q : Int) * (v : Int)) (v : Int) = 0) (sX : slcX LM xs ((q : Int) * (v : Int)) (v : Int) = numAt v xs q) (w0 : World) (h : Wd w0 ao xs) :
  Calls Tryz.prog 124 #[.agg #[.int .i64 LM, .slice ao xs.length cap], .int .i64 (wrap64 ((q : Int) * (v : Int))), .int .i64 v] w0 fun e w' => e = .returned (.tuple #[.int .u64 (numAt v xs q : Nat), .int .i64 0]) ∧ Below w0.heap.size w0 w' := by
 have qn : q * v ≤ 20971520 := Nat.le_trans (Nat.mul_le_mul hq hv) (by decide)
 rw [← Int.natCast_mul] at sE sX ⊢
 obtain ⟨n1, n2⟩ := nb64 _ qn
 obtain ⟨n3, n4⟩ := nb64 v (by omega)
 rw [nw64 _ qn]
 have := slice_c LM ao xs cap ((q * v : Nat) : Int) v w0 h fx n1 n2 n3 n4
 rw [sE, sX] at this
 exact this
theorem Kept.more {K : Nat → Prop} {D : Nat} {a b c : World} (h : Kept K a b) (hb : Below D b c) (hD : a.heap.size ≤ D) : Kept K a c :=
 ⟨hb.os.trans h.os, hb.tape.trans h.tape, hb.output.trans h.output, Nat.le_trans h.size hb.size, fun x hx hl => (hb.block x (by omega)).trans (h.same x hx hl)⟩
set_option maxHeartbeats 16000000 in
theorem places1_goes (n mm kn vn hh : Nat) (LM : Int) (ao : Option Addr) (xs : List Nat) (cap : Nat) (qo : Option Addr) (ys : List Nat) (dap : Nat) (K : Nat → Prop) (w : World) (Bx Bw : Nat) (F : Fits n mm kn vn LM xs hh ys)
  (hx : Wd w ao xs) (fx : Fit xs) (hy : Wd w qo ys) (fy : Fit ys) (cx : Cel w Bx [.int .i64 (n : Nat), .int .i64 (mm : Nat), .int .i64 (kn : Nat), .int .i64 (vn : Nat), .int .i64 LM, .slice ao xs.length cap, .int .i64 (hh : Nat), .slice qo ys.length dap] 35) (cw : Cel w Bw [.int .i64 (wdF n mm : Nat)] 3) (kx : K Bx) (kw : K Bw) (ka : ∀ p, ao = some p → 0 < xs.length → K p.block) (kq : ∀ p, qo = some p → 0 < ys.length → K p.block) :
  Goes Tryz.prog 159 #[.pointer (some ⟨Bx, 0, none⟩), .pointer (some ⟨Bw, 0, none⟩)] mm (fun q => #[.int .i64 q, .int .i64 (plq n mm xs hh ys q : Nat)]) K w := by
 intro l J Jx W hW hKW hJ hJx hY h0
 refine (callsIn_wide (n := 0)).1 (callsIn_of_wp_marks Tryz.func159 rfl trivial ?_)
 simp only [Tryz.ntmps159, List.size_toArray, List.length_cons, List.length_nil, Nat.reduceAdd, Nat.reduceSub, Array.replicate_succ, Array.replicate_zero, List.push_toArray, List.append_toArray, List.nil_append, List.cons_append]
 refine wpIn_wide.2 ?_
 replace cx := cx.kept hW
 replace cw := cw.kept hW
 replace hx := hx.keep hW
 replace hy := hy.keep hW
 have OC : Hid (∀ w0, Calls Tryz.prog 131 #[.agg #[.int .i64 hh, .slice qo ys.length dap]] w0 fun e w' => e = .returned (.func (.func 165) #[] #[.pointer (some ⟨w0.heap.size, 0, none⟩)]) ∧ w' = w0.alloc (.cells #[.int .i64 hh, .slice qo ys.length dap] 24)) := fun w0 => ofOnes_c hh qo ys dap w0
 obtain ⟨W1, hW1⟩ : ∃ W1, W1 = W.alloc (.cells #[.func (.yield l) #[] #[]] 185) := ⟨_, rfl⟩
 have b1 : Below W.heap.size W W1 := by rw [hW1]; exact below_alloc W _
 have z1 : W1.heap.size = W.heap.size + 1 := by rw [hW1]; simp
 have cT : Cel W1 W.heap.size [.func (.yield l) #[] #[]] 185 := by rw [hW1]; exact Cel.new W _ _
 have r6 := (cx.kept (below_alloc W (.cells #[.func (.yield l) #[] #[]] 185))).cell 6 rfl
 have r7 := (cx.kept (below_alloc W (.cells #[.func (.yield l) #[] #[]] 185))).cell 7 rfl
 go_wp2_with fail
 rw [← hW1]
 clear hW1
 refine (OC.out _).mono ?_
 rintro e w' ⟨rfl, hw'⟩
 have b2 : Below W1.heap.size W1 w' := by rw [hw']; exact below_alloc W1 _
 have cB : Cel w' W1.heap.size [.int .i64 hh, .slice qo ys.length dap] 24 := by rw [hw']; exact Cel.new W1 _ _
 have z2 : w'.heap.size = W.heap.size + 2 := by rw [hw']; simp [z1]
 rw [z1]
 rw [z1] at cB
 clear hw' r6 r7 OC
 go_wp2
 have b3 : Below W.heap.size W w' := b1.trans (b2.mono b1.size)
 have cT2 := cT.kept b2
 have hi_on := F.on
 have G := ofOnes1_goes (W.heap.size + 1) hh qo ys dap (fun b => K b ∧ b ≠ w'.heap.size + 1) w' (hy.keep b3) fy cB ⟨hKW _ (by omega), by omega⟩ (fun p hp h0 => ⟨kq p hp h0, by
  obtain ⟨g, off, e, hg, _⟩ := hy h0
  rw [e] at hp
  cases hp
  show g ≠ _
  omega⟩) F.ck
 rw [hi_on] at G
 refine range_law (gf := 165) (lb := #[.pointer (some ⟨W.heap.size + 1, 0, none⟩)]) (K := K) rfl (enters_of Tryz.func165 (by kernel_rfl) rfl) (fun _ => rfl) G (fun b hb => hKW b (by omega))
  (fun q Wc => J q Wc ∧ Kept K w' Wc) (fun q Wc => Jx q Wc) (fun q A B h hb => ⟨hJ q A B h.1 (hb.mono (by omega)), h.2.more hb (Nat.le_refl _)⟩) (fun q A B h hb => hJx q A B h (hb.mono (by omega))) ⟨hJ 0 W w' h0 b3, Kept.refl _ _⟩
  (fun q => { tmps := #[.func (.yield l) #[] #[], .pointer (some ⟨Bx, 0, none⟩), .pointer (some ⟨Bw, 0, none⟩), .pointer (some ⟨W.heap.size, 0, none⟩), .int .i64 (q : Nat), .int .i64 (gt (plc (bitAt ys) hh) q : Nat), undef, undef, .pointer (some ⟨Bx, 6, none⟩), .agg #[.int .i64 (hh : Nat), .slice qo ys.length dap], .func (.func 165) #[] #[.pointer (some ⟨W.heap.size + 1, 0, none⟩)], .int .i64 (q : Nat), .int .i64 (gt (plc (bitAt ys) hh) q : Nat), undef, undef, undef, undef, undef, undef, undef, undef, undef, undef, undef, undef, undef, undef, undef, undef, undef, undef, undef, undef, undef, undef, undef], defers := [] }) ?assign ?body ?done ?stop
 case assign =>
  intro l1 q Wc K1 hK1
  gi_wp2
  exact hK1
 case body =>
  rintro l1 q Wc hq ⟨HJ, hk⟩ hz
  have cx2 := hk.cel (cx.kept b3) kx
  have cw2 := hk.cel (cw.kept b3) kw
  have cT3 := hk.cel cT2 (hKW _ (Nat.le_refl _))
  have hx2 := hk.wd (hx.keep b3) ka
  have Y := hY q
  clear hY G cB cT cT2 b1 b2 z1 cx cw hx hy h0
  have m4 := cx2.cell 4 rfl
  have m5 := cx2.cell 5 rfl
  have mw := cw2.cell 0 rfl
  have mt := cT3.cell 0 rfl
  have h20 := wdF_le n mm (by have := F.hn; omega)
  obtain ⟨sE, sX⟩ := slc_at F q hq
  have lowl : numAt (wdF n mm) xs q < 2 ^ wdF n mm := numOf_lt _ _
  have hck : chk LM xs = true := by
   have := F.ik
   unfold ichk at this
   rw [Bool.and_eq_true] at this
   exact this.2
  have RS := plc_rise (bitAt ys) hh
  have hge := RS.step q 0 (by omega)
  rw [Nat.zero_add] at hge
  have hll := RS.1 q (by omega)
  have hhl := (chk_out _ _ F.ck).2.1
  have mn := Nat.le_trans F.hm F.hn
  unfold plq at Y
  generalize gt (plc (bitAt ys) hh) q = at_ at *
  generalize wdF n mm = v at *
  have SC := fun w0 h => slc_call ao xs cap fx q v LM (by omega) h20 sE sX w0 h
  have SC := hide9' SC
  clear sE sX
  generalize numAt v xs q = low at *
  obtain ⟨d, hd⟩ : ∃ d, Hid (d = at_ - q) := ⟨_, rfl⟩
  have hd2 : (at_ : Int) - (q : Int) = (d : Int) := by rw [hd.out]; omega
  have dl : d ≤ 1048576 := by rw [hd.out]; omega
  rw [← hd.out] at Y
  clear hge hll hhl RS hck
  have eA : ((d * 2 ^ v + low : Nat) : Int) = bits BinOp.or IntKind.i64 (IntKind.i64.wrap (IntKind.i64.wrap (d : Int) * 2 ^ v)) (IntKind.i64.wrap (low : Int)) := by
   have p20 : 2 ^ v ≤ 1048576 := Nat.pow_le_pow_right (show 0 < 2 by decide) h20
   have pd : d * 2 ^ v ≤ 1099511627776 := Nat.le_trans (Nat.mul_le_mul dl p20) (by decide)
   have e1 : IntKind.i64.wrap (d : Int) = (d : Int) := by rw [IntKind.wrap_i64]; omega
   have e2 : (d : Int) * 2 ^ v = ((d * 2 ^ v : Nat) : Int) := by rw [Int.natCast_mul, Int.natCast_pow]; rfl
   have e3 : IntKind.i64.wrap ((d * 2 ^ v : Nat) : Int) = ((d * 2 ^ v : Nat) : Int) := by rw [IntKind.wrap_i64]; omega
   have e4 : IntKind.i64.wrap (low : Int) = (low : Int) := by rw [IntKind.wrap_i64]; omega
   rw [e1, e2, e3, e4, bits_join .i64 63 (by decide) wraps_i64 v _ _ (by omega) ?_ (by omega) (by omega) ?_ (by omega)]
   ·rfl
   ·rw [show ((2 : Int) ^ v) = ((2 ^ v : Nat) : Int) by rw [Int.natCast_pow]; rfl, ← Int.natCast_emod, Nat.mul_mod_left]; rfl
   ·rw [show ((2 : Int) ^ v) = ((2 ^ v : Nat) : Int) by rw [Int.natCast_pow]; rfl]; omega
  rw [eA] at Y
  clear eA
  gi_wp2_with fail
  refine ⟨trivial, rfl, ?_⟩
  refine (CallsIn.inRound l1 (callsIn_wide.2 (SC.out _ hx2))).mono ?_
  rintro e w1 ⟨rfl, hb⟩
  replace cw2 := cw2.kept hb
  replace cT3 := cT3.kept hb
  have kb : Kept K Wc w1 := Kept.of hb
  have mw := cw2.cell 0 rfl
  have mt := cT3.cell 0 rfl
  clear cx2 m4 m5 SC
  gi_wp2_with fail
  refine region_i [] (fun w0 => w0.cell? ⟨W.heap.size, 0, none⟩ = some (.func (.yield l) #[] #[]) ∧ w0.cell? ⟨Bw, 0, none⟩ = some (.int .i64 (v : Nat))) (by kernel_rfl) ?_
  have hS : (fun w0 : World => w0.cell? ⟨W.heap.size, 0, none⟩ = some (.func (.yield l) #[] #[]) ∧ w0.cell? ⟨Bw, 0, none⟩ = some (.int .i64 (v : Nat))) w1.drew := ⟨mt, mw⟩
  have HJ1 := hJ q Wc w1.drew HJ ((hb.mono (show W.heap.size ≤ Wc.heap.size by omega)).drew)
  obtain ⟨fn, tmps, assign, body, hy, hR⟩ := Y w1.drew hq HJ1 (by have := hb.size; show W.heap.size ≤ w1.heap.size; omega)
  clear Y HJ1
  refine AnyI.take 0 (v := ?vv1) (inRound_any _) rfl (by kernel_rfl) (by kernel_rfl) (by kernel_rfl) (by kernel_rfl) (by kernel_rfl) (fun _ _ _ h => h) hS ?hy1 (by rfl) ?rest1
  case hy1 =>
   intro w0 h0
   have := h0.1
   go_simp
   try with_reducible rfl
  simp only [Act.put, yq0, yq1, yq2, yq3, yq4, yq5]
  refine AnyI.take 1 (v := ?vv2) (inRound_any _) rfl (by kernel_rfl) (by kernel_rfl) (by kernel_rfl) (by kernel_rfl) (by kernel_rfl) (fun _ _ _ h => h) hS ?hy2 (by rfl) ?rest2
  case hy2 =>
   intro w0 h0
   go_simp
   try with_reducible rfl
  simp only [Act.put, yq0, yq1, yq2, yq3, yq4, yq5]
  refine AnyI.take 2 (v := ?vv3) (inRound_any _) rfl (by kernel_rfl) (by kernel_rfl) (by kernel_rfl) (by kernel_rfl) (by kernel_rfl) (fun _ _ _ h => h) hS ?hy3 (by rfl) ?rest3
  case hy3 =>
   intro w0 h0
   go_simp
   try with_reducible rfl
  simp only [Act.put, yq0, yq1, yq2, yq3, yq4, yq5]
  refine AnyI.take 3 (v := ?vv4) (inRound_any _) rfl (by kernel_rfl) (by kernel_rfl) (by kernel_rfl) (by kernel_rfl) (by kernel_rfl) (fun _ _ _ h => h) hS ?hy4 (by rfl) ?rest4
  case hy4 =>
   intro w0 h0
   go_simp
   try with_reducible rfl
  simp only [Act.put, yq0, yq1, yq2, yq3, yq4, yq5]
  refine AnyI.take 4 (v := ?vv5) (inRound_any _) rfl (by kernel_rfl) (by kernel_rfl) (by kernel_rfl) (by kernel_rfl) (by kernel_rfl) (fun _ _ _ h => h) hS ?hy5 (by rfl) ?rest5
  case hy5 =>
   intro w0 h0
   go_simp
   try with_reducible rfl
  simp only [Act.put, yq0, yq1, yq2, yq3, yq4, yq5]
  refine AnyI.take 5 (v := ?vv6) (inRound_any _) rfl (by kernel_rfl) (by kernel_rfl) (by kernel_rfl) (by kernel_rfl) (by kernel_rfl) (fun _ _ _ h => h) hS ?hy6 (by rfl) ?rest6
  case hy6 =>
   intro w0 h0
   have := h0.2
   go_simp
   try with_reducible rfl
  simp only [Act.put, yq0, yq1, yq2, yq3, yq4, yq5]
  refine AnyI.take 6 (v := ?vv7) (inRound_any _) rfl (by kernel_rfl) (by kernel_rfl) (by kernel_rfl) (by kernel_rfl) (by kernel_rfl) (fun _ _ _ h => h) hS ?hy7 (by rfl) ?rest7
  case hy7 =>
   intro w0 h0
   go_simp
   try with_reducible rfl
  simp only [Act.put, yq0, yq1, yq2, yq3, yq4, yq5]
  refine AnyI.take 7 (v := ?vv8) (inRound_any _) rfl (by kernel_rfl) (by kernel_rfl) (by kernel_rfl) (by kernel_rfl) (by kernel_rfl) (fun _ _ _ h => h) hS ?hy8 (by rfl) ?rest8
  case hy8 =>
   intro w0 h0
   go_simp
   try with_reducible rfl
  simp only [Act.put, yq0, yq1, yq2, yq3, yq4, yq5]
  refine AnyI.take 8 (v := ?vv9) (inRound_any _) rfl (by kernel_rfl) (by kernel_rfl) (by kernel_rfl) (by kernel_rfl) (by kernel_rfl) (fun _ _ _ h => h) hS ?hy9 (by rfl) ?rest9
  case hy9 =>
   intro w0 h0
   go_simp
   try with_reducible rfl
  simp only [Act.put, yq0, yq1, yq2, yq3, yq4, yq5]
  refine AnyI.take 9 (v := ?vv10) (inRound_any _) rfl (by kernel_rfl) (by kernel_rfl) (by kernel_rfl) (by kernel_rfl) (by kernel_rfl) (fun _ _ _ h => h) hS ?hy10 (by rfl) ?rest10
  case hy10 =>
   intro w0 h0
   go_simp
   try with_reducible rfl
  simp only [Act.put, yq0, yq1, yq2, yq3, yq4, yq5]
  refine AnyI.one 10 (inRound_any _) (by kernel_rfl) rfl (fun _ h => by cases h) (by rfl) ?_
  intro K2 hK2
  go_simp
  refine ⟨rfl, RoundIn.mono hR ?_⟩
  rintro e W3 ⟨hkp, ⟨rfl, hJ3⟩ | ⟨rfl, hJx3⟩⟩
  ·have HE : Hid (Kept K Wc W3 ∧ J (q + 1) W3 ∧ Kept K w' W3) := ⟨kb.trans ⟨hkp.os, hkp.tape, hkp.output, hkp.size, hkp.same⟩, hJ3, hk.trans (kb.trans ⟨hkp.os, hkp.tape, hkp.output, hkp.size, hkp.same⟩)⟩
   have hS3 : W3.cell? ⟨W.heap.size, 0, none⟩ = some (.func (.yield l) #[] #[]) ∧ W3.cell? ⟨Bw, 0, none⟩ = some (.int .i64 (v : Nat)) := ⟨(hkp.cel cT3.drew (hKW _ (Nat.le_refl _))).cell 0 rfl, (hkp.cel cw2.drew kw).cell 0 rfl⟩
   refine hK2.out _ _ (fun _ => hS3) ?_
   clear hK2 K2
   try simp only [Act.put, yq0, yq1, yq2, yq3, yq4, yq5]
   refine AnyI.take 11 (v := ?vv31) (inRound_any _) rfl (by kernel_rfl) (by kernel_rfl) (by kernel_rfl) (by kernel_rfl) (by kernel_rfl) (fun _ _ _ h => h) hS3 ?hy31 (by rfl) ?rest31
   case hy31 =>
    intro w0 h0
    go_simp
    try with_reducible rfl
   simp only [Act.put, yq0, yq1, yq2, yq3, yq4, yq5]
   refine AnyI.done (by kernel_rfl) ?_ _
   skip
   gi_wp2
   exact HE.out
  ·have HE : Hid (Kept K Wc W3 ∧ Jx q W3) := ⟨kb.trans ⟨hkp.os, hkp.tape, hkp.output, hkp.size, hkp.same⟩, hJx3⟩
   have hS3 : W3.cell? ⟨W.heap.size, 0, none⟩ = some (.func (.yield l) #[] #[]) ∧ W3.cell? ⟨Bw, 0, none⟩ = some (.int .i64 (v : Nat)) := ⟨(hkp.cel cT3.drew (hKW _ (Nat.le_refl _))).cell 0 rfl, (hkp.cel cw2.drew kw).cell 0 rfl⟩
   refine hK2.out _ _ (fun _ => hS3) ?_
   clear hK2 K2
   try simp only [Act.put, yq0, yq1, yq2, yq3, yq4, yq5]
   refine AnyI.take 11 (v := ?vv41) (inRound_any _) rfl (by kernel_rfl) (by kernel_rfl) (by kernel_rfl) (by kernel_rfl) (by kernel_rfl) (fun _ _ _ h => h) hS3 ?hy41 (by rfl) ?rest41
   case hy41 =>
    intro w0 h0
    go_simp
    try with_reducible rfl
   simp only [Act.put, yq0, yq1, yq2, yq3, yq4, yq5]
   refine AnyI.done (by kernel_rfl) ?_ _
   skip
   gi_wp2
   exact HE.out
 case done =>
  rintro D Wc hD ⟨HJ, hk⟩ hd
  go_wp2
  exact marks_end hd (results_none rfl _ _ _) ⟨⟨_, rfl⟩, .inl (hJ _ _ _ HJ (below_putObj (by omega) _))⟩
 case stop =>
  rintro D q Wc hD hq HJ hd
  go_wp2
  exact marks_ret hd (results_none rfl _ _ _) ⟨⟨_, rfl⟩, .inr ⟨q, hq, hJx _ _ _ HJ (below_putObj (by omega) _)⟩⟩
set_option maxHeartbeats 2000000 in
theorem gplaces_c (n mm kn vn hh : Nat) (LM : Int) (ao : Option Addr) (xs : List Nat) (cap : Nat) (qo : Option Addr) (ys : List Nat) (dap : Nat) (hn : n ≤ 1048576) (hm : mm ≤ n) (w : World) :
  Calls Tryz.prog 114 #[.agg #[.int .i64 (n : Nat), .int .i64 (mm : Nat), .int .i64 (kn : Nat), .int .i64 (vn : Nat), .int .i64 LM, .slice ao xs.length cap, .int .i64 (hh : Nat), .slice qo ys.length dap]] w fun e w' => e = .returned (.func (.func 159) #[] #[.pointer (some ⟨w.heap.size, 0, none⟩), .pointer (some ⟨w.heap.size + 1, 0, none⟩)]) ∧ Cel w' w.heap.size [.int .i64 (n : Nat), .int .i64 (mm : Nat), .int .i64 (kn : Nat), .int .i64 (vn : Nat), .int .i64 LM, .slice ao xs.length cap, .int .i64 (hh : Nat), .slice qo ys.length dap] 35 ∧ Cel w' (w.heap.size + 1) [.int .i64 (wdF n mm : Nat)] 3 ∧ w'.heap.size = w.heap.size + 2 ∧ Below w.heap.size w w' := by
 have C : Hid (∀ w0, Calls Tryz.prog 134 #[.int .i64 n, .int .i64 mm] w0 fun e w' => e = .returned (.int .i64 (wdF n mm)) ∧ w' = w0) := fun w0 => gwidth_c n mm hn hm w0
 generalize wdF n mm = v at *
 obtain ⟨W, hW⟩ : ∃ W, W = w.alloc (.cells #[.int .i64 (n : Nat), .int .i64 (mm : Nat), .int .i64 (kn : Nat), .int .i64 (vn : Nat), .int .i64 LM, .slice ao xs.length cap, .int .i64 (hh : Nat), .slice qo ys.length dap] 35) := ⟨_, rfl⟩
 have bW : Below w.heap.size w W := by rw [hW]; exact below_alloc w _
 have zW : W.heap.size = w.heap.size + 1 := by rw [hW]; simp
 have B1 : Cel W w.heap.size [.int .i64 (n : Nat), .int .i64 (mm : Nat), .int .i64 (kn : Nat), .int .i64 (vn : Nat), .int .i64 LM, .slice ao xs.length cap, .int .i64 (hh : Nat), .slice qo ys.length dap] 35 := by rw [hW]; exact Cel.new w _ _
 go_enter Tryz.func114, Tryz.ntmps114
 go_wp2_with fail
 rw [← hW]
 refine (C.out _).mono ?_
 rintro e w1 ⟨rfl, h1⟩
 rw [h1]
 clear h1 w1 hW
 have bA := below_alloc W (.cells #[.int .i64 (v : Nat)] 3)
 have HZ : Hid (Cel (W.alloc (.cells #[.int .i64 (v : Nat)] 3)) w.heap.size [.int .i64 (n : Nat), .int .i64 (mm : Nat), .int .i64 (kn : Nat), .int .i64 (vn : Nat), .int .i64 LM, .slice ao xs.length cap, .int .i64 (hh : Nat), .slice qo ys.length dap] 35 ∧ Cel (W.alloc (.cells #[.int .i64 (v : Nat)] 3)) (w.heap.size + 1) [.int .i64 (v : Nat)] 3 ∧ (W.alloc (.cells #[.int .i64 (v : Nat)] 3)).heap.size = w.heap.size + 2 ∧ Below w.heap.size w (W.alloc (.cells #[.int .i64 (v : Nat)] 3))) := ⟨B1.kept bA, by rw [← zW]; exact Cel.new W _ _, by simp [zW], bW.trans (bA.mono bW.size)⟩
 clear B1 bA bW
 go_wp2
 go_ret
 exact ⟨rfl, HZ.out⟩
end Go.Proofs.YtpeecabfcgijhaaGreatDoor

namespace Go.Proofs.YtpeecabfcgijhaaGreatDoor
open Num Bit
set_option linter.unusedVariables false

abbrev RA9 := FA
def fSame (a b : FA) : Bool := decide (a.N = b.N) && decide (a.M = b.M) && (decide (a.k = b.k) && decide (a.V = b.V) && (decide (a.LM = b.LM) && decide (a.xs = b.xs))) && (decide (a.H = b.H) && decide (a.ys = b.ys))
theorem fSame_iff (a b : FA) : fSame a b = true ↔ a = b := by
 obtain ⟨a1, a2, a3, a4, a5, a6, a7, a8⟩ := a
 obtain ⟨b1, b2, b3, b4, b5, b6, b7, b8⟩ := b
 unfold fSame
 simp only [Bool.and_eq_true, decide_eq_true_eq, FA.mk.injEq]
 constructor
 ·rintro ⟨⟨⟨rfl, rfl⟩, ⟨rfl, rfl⟩, rfl, rfl⟩, rfl, rfl⟩
  exact ⟨rfl, rfl, rfl, rfl, rfl, rfl, rfl, rfl⟩
 ·rintro ⟨rfl, rfl, rfl, rfl, rfl, rfl, rfl, rfl⟩
  exact ⟨⟨⟨rfl, rfl⟩, ⟨rfl, rfl⟩, rfl, rfl⟩, rfl, rfl⟩
def kOk9 (a : RA9) : Bool :=
 match fRow a with
 | some l => fSame a (fOf a.N.toNat l)
 | none => false
def kRow (a : RA9) : List Nat := (fRow a).getD []
def kBN9 (a : RA9) : Int := if kOk9 a = true then a.N else 0
def kBX9 (a : RA9) : List Nat := if kOk9 a = true then rowOf a.N.toNat (isIn (kRow a)) else []
def kZ9 (a : RA9) : Int := if kOk9 a = true then a.LM + a.H + 64 else 0
def kB9 (N : Int) (xs : List Nat) : RA9 := if chk N xs = true then fOf N.toNat (plc (bitAt xs) N.toNat) else ⟨0, 0, 0, 0, 0, [], 0, []⟩
def kE9 (N : Int) (xs : List Nat) : Int := if chk N xs = true then 0 else 2
theorem kOk_row (a : RA9) (h : kOk9 a = true) : fRow a = some (kRow a) ∧ a = fOf a.N.toNat (kRow a) := by
 unfold kOk9 at h
 unfold kRow
 cases e : fRow a with
 | none => rw [e] at h; cases h
 | some l =>
  rw [e] at h
  exact ⟨rfl, (fSame_iff _ _).1 h⟩
theorem fdec_get (n w : Nat) (lo hi : List Nat) : ∀ q out, fdec n w lo hi q = some out → ∀ j, j < q → gt out j = fpl w lo hi j := by
 intro q
 induction q with
 | zero => intro out _ j hj; omega
 | succ q ih =>
  intro out h j hj
  rw [fdec] at h
  cases hq : fdec n w lo hi q with
  | none => rw [hq] at h; cases h
  | some o =>
   rw [hq] at h
   have hlen := (fdec_len n w lo hi q o hq).1
   simp only at h
   split at h
   ·cases h
   ·obtain rfl := Option.some.inj h
    by_cases c : j < q
    ·rw [gt_app_l o _ j (by omega)]; exact ih o hq j c
    ·obtain rfl : j = o.length := by omega
     rw [gt_app_r, hlen]
theorem gt_rmap (m : Nat) (f : Nat → Nat) (i : Nat) (h : i < m) : gt ((List.range m).map f) i = f i := by
 unfold gt
 rw [List.getD_eq_getElem?_getD, List.getElem?_map, List.getElem?_range h]
 rfl
theorem fdec_some (n w : Nat) (lo hi : List Nat) : ∀ m, (∀ q, q < m → fpl w lo hi q < n ∧ (0 < q → fpl w lo hi (q - 1) < fpl w lo hi q)) → fdec n w lo hi m = some ((List.range m).map (fpl w lo hi)) := by
 intro m
 induction m with
 | zero => intro _; rfl
 | succ m ih =>
  intro h
  rw [fdec, ih (fun q hq => h q (by omega))]
  simp only
  obtain ⟨h1, h2⟩ := h m (by omega)
  rw [if_neg, List.range_succ, List.map_append]
  ·rfl
  ·rintro (c | ⟨c1, c2⟩)
   ·omega
   ·rw [gt_rmap m _ _ (by omega)] at c2
    have := h2 c1
    omega
def Good (n mm : Nat) (p : Nat → Nat) : Prop := ∀ q, q < mm → p q < n ∧ (0 < q → p (q - 1) < p q)
theorem ok_fits (n mm kn vn hh : Nat) (LM : Int) (xs ys : List Nat) (h : kOk9 ⟨n, mm, kn, vn, LM, xs, hh, ys⟩ = true) :
  Fits n mm kn vn LM xs hh ys ∧ (kRow ⟨n, mm, kn, vn, LM, xs, hh, ys⟩).length = mm ∧ (∀ q, q < mm → plq n mm xs hh ys q = gt (kRow ⟨n, mm, kn, vn, LM, xs, hh, ys⟩) q) ∧ Rise (kRow ⟨n, mm, kn, vn, LM, xs, hh, ys⟩) n := by
 obtain ⟨h1, h2⟩ := kOk_row _ h
 generalize kRow ⟨n, mm, kn, vn, LM, xs, hh, ys⟩ = l at *
 unfold fRow at h1
 simp only [Int.toNat_natCast] at h1
 split at h1
 ·rename_i c
  obtain ⟨⟨c1, c2, c3, c4⟩, c5, c6, c7, c8⟩ := c
  have c7 : (plc (bitAt ys) hh).length = mm := by omega
  obtain ⟨l1, l2⟩ := fdec_len _ _ _ _ _ _ h1
  rw [c7] at l1
  have l3 := fdec_get _ _ _ _ _ _ h1
  rw [c7] at l3
  simp only [Int.toNat_natCast, fOf, FA.mk.injEq, l1] at h2
  obtain ⟨-, -, e3, e4, -, -, e7, -⟩ := h2
  have F : Fits n mm kn vn LM xs hh ys := by
   refine ⟨by omega, by omega, c5, c6, c7, by omega, ?_, ?_⟩
   ·unfold loN
    by_cases c : wdF n mm = 0
    ·rw [if_pos c]
     rw [c] at e3
     have : loP l 0 = [] := rfl
     rw [this] at e3
     simp at e3
     omega
    ·rw [if_neg c]
     rw [length_loP l _ (by omega)] at e3
     omega
   ·unfold hiN at e7
    rw [l1] at e7
    omega
  exact ⟨F, l1, fun q hq => by rw [l3 q hq, fpl_plq F q hq], l2⟩
 ·cases h1
theorem plq_parts (n mm : Nat) (xs : List Nat) (hh : Nat) (ys : List Nat) (q : Nat) : plq n mm xs hh ys q / 2 ^ wdF n mm = gt (plc (bitAt ys) hh) q - q ∧ plq n mm xs hh ys q % 2 ^ wdF n mm = numAt (wdF n mm) xs q := by
 unfold plq
 have h : numAt (wdF n mm) xs q < 2 ^ wdF n mm := numOf_lt _ _
 have hp := Nat.two_pow_pos (wdF n mm)
 rw [Nat.mul_comm, Nat.mul_add_div hp, Nat.mul_add_mod, Nat.mod_eq_of_lt h, Nat.div_eq_of_lt h]
 exact ⟨rfl, rfl⟩
theorem isIn_plc (f : Nat → Bool) (n j : Nat) : isIn (plc f n) j = (decide (j < n) && f j) := by
 rw [Bool.eq_iff_iff, mem_isIn, mem_plc, Bool.and_eq_true, decide_eq_true_eq]
theorem fits_ok (n mm kn vn hh : Nat) (LM : Int) (xs ys : List Nat) (fx : Fit xs) (fy : Fit ys) (F : Fits n mm kn vn LM xs hh ys) (G : Good n mm (plq n mm xs hh ys)) : kOk9 ⟨n, mm, kn, vn, LM, xs, hh, ys⟩ = true := by
 have hd : fdec n (wdF n mm) ((List.range kn).map (numAt vn xs)) (plc (bitAt ys) hh) mm = some ((List.range mm).map (plq n mm xs hh ys)) := by
  rw [fdec_some _ _ _ _ mm]
  ·congr 1
   refine List.map_congr_left fun q hq => ?_
   exact fpl_plq F q (List.mem_range.1 hq)
  ·intro q hq
   rw [fpl_plq F q hq]
   obtain ⟨g1, g2⟩ := G q hq
   refine ⟨g1, fun h0 => ?_⟩
   rw [fpl_plq F (q - 1) (by omega)]
   exact g2 h0
 have hrow : fRow ⟨n, mm, kn, vn, LM, xs, hh, ys⟩ = some ((List.range mm).map (plq n mm xs hh ys)) := by
  unfold fRow
  simp only [Int.toNat_natCast, F.on]
  rw [if_pos]
  ·exact hd
  ·refine ⟨⟨by omega, by have := F.hn; omega, by omega, by have := F.hm; omega⟩, F.ik, F.ck, trivial, ?_⟩
   by_cases c : wdF n mm = 0
   ·exact .inl c
   ·right
    rw [List.length_map, List.length_range, F.hk]
    unfold loN
    rw [if_neg c]
 unfold kOk9
 rw [hrow]
 simp only [Int.toNat_natCast]
 rw [fSame_iff]
 obtain ⟨l, hl⟩ : ∃ l, l = (List.range mm).map (plq n mm xs hh ys) := ⟨_, rfl⟩
 have ll : l.length = mm := by rw [hl]; simp
 have lg : ∀ q, q < mm → gt l q = plq n mm xs hh ys q := fun q hq => by rw [hl]; exact gt_rmap mm _ q hq
 rw [← hl]
 have RS := plc_rise (bitAt ys) hh
 have e_hi : hiP l (wdF n mm) = plc (bitAt ys) hh := by
  refine Bit.list_ext _ _ (by rw [length_hiP, ll, F.on]) fun i hi => ?_
  rw [length_hiP, ll] at hi
  rw [gt_hiP l _ i (by omega), lg i hi, (plq_parts n mm xs hh ys i).1]
  have := RS.step i 0 (by rw [F.on]; omega)
  rw [Nat.zero_add] at this
  omega
 obtain ⟨v1, v2, v3, v4, v5, v6, v7, v8⟩ := ichk_out _ _ _ _ F.ik
 have e_lo : (loP l (wdF n mm)).length = kn := by
  rw [F.hk]
  unfold loN
  by_cases c : wdF n mm = 0
  ·rw [if_pos c, c]; rfl
  ·rw [if_neg c, length_loP l _ (by omega), ll]
 have e_xs : mkS (loP l (wdF n mm)) vn kn = xs := by
  have hx := chk_row LM xs fx v5
  rw [hx]
  unfold mkS
  rw [e_lo, show LM.toNat = kn * vn by rw [← v4, ← Int.natCast_mul, Int.toNat_natCast]]
  refine rowOf_congr _ _ _ fun j hj => ?_
  rw [decide_eq_true hj, Bool.true_and]
  have hw : ¬ wdF n mm = 0 := fun c => by
   have h0 : kn = 0 := by rw [F.hk]; unfold loN; rw [if_pos c]
   rw [h0, Nat.zero_mul] at hj
   omega
  have e1 : vn = wdF n mm := by rw [F.hv]; omega
  have e2 : kn = mm := by rw [F.hk]; unfold loN; rw [if_neg hw]
  have hv0 : 0 < vn := by omega
  have hq : j / vn < mm := by rw [← e2]; exact (Nat.div_lt_iff_lt_mul hv0).2 hj
  have hmod : j % vn < vn := Nat.mod_lt _ hv0
  rw [gt_loP l _ _ (by omega) (by omega), lg _ hq, (plq_parts n mm xs hh ys _).2, ← e1]
  unfold numAt
  rw [testBit_numOf, decide_eq_true hmod, Bool.true_and, Nat.mul_comm, Nat.div_add_mod]
 unfold fOf
 simp only [FA.mk.injEq, ll]
 have hv : ((max (wdF n mm) 1 : Nat) : Int) = (vn : Int) := by rw [F.hv]
 have hv2 : max (wdF n mm) 1 = vn := F.hv.symm
 refine ⟨trivial, trivial, by rw [e_lo], hv.symm, ?_, ?_, ?_, ?_⟩
 ·rw [e_lo, hv, v4]
 ·rw [hv2, e_lo, e_xs]
 ·unfold hiN
  rw [ll, F.hh]
 ·rw [e_hi]
  have e3 : hiN l n (wdF n mm) = hh := by unfold hiN; rw [ll, F.hh]
  rw [e3]
  have hy := chk_row (hh : Int) ys fy F.ck
  rw [Int.toNat_natCast] at hy
  rw [rowOf_congr hh _ (bitAt ys) fun j hj => by rw [isIn_plc, decide_eq_true hj, Bool.true_and]]
  exact hy
end Go.Proofs.YtpeecabfcgijhaaGreatDoor
