/-
  The contracts of the small functions of the program's package for rows in blocks. The contract of the program's markOf, and tables of sixteen numbers by value. Tables of sixteen numbers by value: the program's table, of widths and of ways.
-/
import Derived.Test.YtjahipjghenbjaaGreatDoorL27
import Derived.Test.YtjahipjghenbjaaGreatDoorL10
import Derived.Test.YtjahipjghenbjaaGreatDoorL05
import Derived.Test.YtjahipjghenbjaaGreatDoorL02
import Derived.Deep.WholeRow
import Derived.Laws.ResultCell
set_option linter.unusedVariables false
set_option linter.unusedSimpArgs false
set_option maxRecDepth 100000
set_option maxHeartbeats 16000000
namespace Go.Proofs.YtjahipjghenbjaaGreatDoor
open Go.RowKit Num Bit Bn
theorem qblocks_c (m : Nat) (hm : m ≤ 1048576) (w : World) :
  Calls Tryz.prog 158 #[.int .i64 m] w fun e w' => e = .returned (.int .i64 (nb m)) ∧ w' = w := by
 go_enter Tryz.func158, Tryz.ntmps158
 go_wp2
 go_ret
 exact ⟨ret_int (by unfold nb; omega), rfl⟩
theorem qgroups_c (n : Nat) (hn : n ≤ 1048576) (w : World) :
  Calls Tryz.prog 162 #[.int .i64 n] w fun e w' => e = .returned (.int .i64 ((max 1 n + 7) / 8 : Nat)) ∧ w' = w := by
 go_enter Tryz.func162, Tryz.ntmps162
 go_wp2
 ·go_ret
  exact ⟨ret_int (by omega), rfl⟩
 ·go_ret
  exact ⟨ret_int (by omega), rfl⟩
theorem qbehind_c (s p c wd o : Nat) (hs : s ≤ 16777216) (hp : p ≤ 16777216) (hc : c ≤ 15) (hw : wd ≤ 15) (w : World) :
  Calls Tryz.prog 163 #[.agg #[.int .i64 s, .int .i64 p], .agg #[.int .i64 c, .int .u64 o], .int .i64 wd] w fun e w' => e = .returned (.agg #[.int .i64 (s + c : Nat), .int .i64 (p + wd : Nat)]) ∧ Below w.heap.size w w' := by
 have e1 : IntKind.i64.wrap ((s : Int) + (c : Int)) = ((s + c : Nat) : Int) := by rw [IntKind.wrap_i64]; omega
 have e2 : IntKind.i64.wrap ((p : Int) + (wd : Int)) = ((p + wd : Nat) : Int) := by rw [IntKind.wrap_i64]; omega
 go_enter Tryz.func163, Tryz.ntmps163
 go_wp2
 refine bodyPost_ret (v := .agg #[.int .i64 (s + c : Nat), .int .i64 (p + wd : Nat)]) (by simp [results, Tryz.results163, go_sem]) rfl ⟨rfl, ?_⟩
 exact ((below_alloc w _).alloc (by simp) _).alloc (by simp; omega) _
theorem qblockOf_c (x : Nat) (hx : x < 18446744073709551616) (w : World) :
  Calls Tryz.prog 160 #[.int .u64 x] w fun e w' => e = .returned (.agg #[.int .i64 (cnt x 15 : Nat), .int .u64 (off x 15 : Nat)]) ∧ Below w.heap.size w w' := by
 have C : Hid (∀ w0, Calls Tryz.prog 198 #[.int .u64 x, .int .i64 15] w0 fun e w' => e = .returned (.tuple #[.int .i64 (cnt x 15 : Nat), .int .u64 (off x 15 : Nat)]) ∧ Below w0.heap.size w0 w') := fun w0 => offset_c x 15 hx (by decide) w0
 generalize cnt x 15 = X at *
 generalize off x 15 = Y at *
 obtain ⟨W, hW⟩ : ∃ W, W = w.alloc (.cells #[.int .i64 0, .int .u64 0] 168) := ⟨_, rfl⟩
 have bW := yb1 hW
 have B1 := yc1 hW
 go_enter Tryz.func160, Tryz.ntmps160
 go_wp2_with fail
 rw [← hW]
 refine (C.out _).mono ?_
 rintro e w1 ⟨rfl, hb⟩
 have hw1 := bW.trans (hb.mono bW.size)
 replace B1 := B1.kept hb
 have f0 := B1.frozen 0
 have f1 := B1.frozen 1
 have c0 := B1.cell 0 rfl
 have c1 := B1.cell 1 rfl
 clear hb hW C
 go_wp2
 refine bodyPost_ret (v := .agg #[.int .i64 (X : Nat), .int .u64 (Y : Nat)]) (by simp [results, Tryz.results160, go_sem, c0, c1]) rfl ⟨rfl, ?_⟩
 exact (hw1.setCell (by simp) _).setCell (by simp) _
theorem qlay_c (ys : List Nat) (g cap p x : Nat) (w : World) (hO : Own w g ys) (hp : p ≤ 2097152) (hf : Fit ys) (hx : x < 18446744073709551616)
  (hR : Room ys p x) :
  Calls Tryz.prog 153 #[.slice (some ⟨g, 0, none⟩) ys.length cap, .int .i64 p, .int .u64 x] w fun e w' => e = .returned (.tuple #[]) ∧ Own w' g (putL ys p x) ∧ Turned g w w' := by
 obtain ⟨h1, h2⟩ := hR
 by_cases c1 : x * 2 ^ (p % 64) % 18446744073709551616 = 0
 ·by_cases c2 : x / 2 ^ (64 - p % 64) = 0
  ·have A : (IntKind.u64.wrap ((x : Int) * 2 ^ (p % 64)) != 0) = false := by rw [shl_nat, bne0]; simpa using c1
   have B : ((x : Int) / 2 ^ (64 - p % 64) != 0) = false := by rw [shr_cast, bne0]; simpa using c2
   have R : Hid (putL ys p x = ys) := by
    unfold putL Hid
    simp only [if_pos c1, if_pos c2]
   have S1 := trivial
   have S2 := trivial
   have S3 : Hid (True) := S1
   have S4 : Hid (True) := S2
   clear h1 h2 c1 c2 S1 S2
   go_enter Tryz.func153, Tryz.ntmps153
   go_wp2
   go_end0
   rw [R.out]
   exact ⟨rfl, hO, Turned.refl _ _⟩
  ·have l2 := h2 c2
   have l2' : (p : Int) / 64 + 1 < (ys.length : Int) := by omega
   have e2 := hO.cell (p / 64 + 1) l2
   have f2 := hO.frozen (p / 64 + 1)
   have A : (IntKind.u64.wrap ((x : Int) * 2 ^ (p % 64)) != 0) = false := by rw [shl_nat, bne0]; simpa using c1
   have B : ((x : Int) / 2 ^ (64 - p % 64) != 0) = true := by rw [shr_cast, bne0]; simpa using c2
   have R : Hid (putL ys p x = (ys.set (p / 64 + 1) (gt ys (p / 64 + 1) ||| x / 2 ^ (64 - p % 64)))) := by
    unfold putL Hid
    simp only [if_pos c1, if_neg c2]
   have S1 := trivial
   have S2 := u64_or_nat (gt ys (p / 64 + 1)) _ (hf _) (Nat.lt_of_le_of_lt (Nat.div_le_self x (2 ^ (64 - p % 64))) hx)
   have S3 : Hid (True) := S1
   have S4 : Hid (bits .or .u64 (gt ys (p / 64 + 1) : Int) ((x / 2 ^ (64 - p % 64) : Nat) : Int) = ((gt ys (p / 64 + 1) ||| x / 2 ^ (64 - p % 64) : Nat) : Int)) := S2
   clear h1 h2 c1 c2 S1 S2
   go_enter Tryz.func153, Tryz.ntmps153
   go_wp2
   go_end0
   rw [R.out, shr_cast, S4.out]
   exact ⟨rfl, hO.set _ _, (Turned.refl _ _).set _ _⟩
 ·by_cases c2 : x / 2 ^ (64 - p % 64) = 0
  ·have l1 := h1 c1
   have l1' : (p : Int) / 64 < (ys.length : Int) := by omega
   have e1 := hO.cell (p / 64) l1
   have f1 := hO.frozen (p / 64)
   have A : (IntKind.u64.wrap ((x : Int) * 2 ^ (p % 64)) != 0) = true := by rw [shl_nat, bne0]; simpa using c1
   have B : ((x : Int) / 2 ^ (64 - p % 64) != 0) = false := by rw [shr_cast, bne0]; simpa using c2
   have R : Hid (putL ys p x = (ys.set (p / 64) (gt ys (p / 64) ||| x * 2 ^ (p % 64) % 18446744073709551616))) := by
    unfold putL Hid
    simp only [if_neg c1, if_pos c2]
   have S1 := u64_or_nat (gt ys (p / 64)) _ (hf _) (Nat.mod_lt (x * 2 ^ (p % 64)) (show 0 < 18446744073709551616 by decide))
   have S2 := trivial
   have S3 : Hid (bits .or .u64 (gt ys (p / 64) : Int) ((x * 2 ^ (p % 64) % 18446744073709551616 : Nat) : Int) = ((gt ys (p / 64) ||| x * 2 ^ (p % 64) % 18446744073709551616 : Nat) : Int)) := S1
   have S4 : Hid (True) := S2
   clear h1 h2 c1 c2 S1 S2
   go_enter Tryz.func153, Tryz.ntmps153
   go_wp2
   go_end0
   rw [R.out, shl_nat, S3.out]
   exact ⟨rfl, hO.set _ _, (Turned.refl _ _).set _ _⟩
  ·have l1 := h1 c1
   have l1' : (p : Int) / 64 < (ys.length : Int) := by omega
   have e1 := hO.cell (p / 64) l1
   have f1 := hO.frozen (p / 64)
   have l2 := h2 c2
   have l2' : (p : Int) / 64 + 1 < (ys.length : Int) := by omega
   have e2 := hO.cell (p / 64 + 1) l2
   have f2 := hO.frozen (p / 64 + 1)
   have A : (IntKind.u64.wrap ((x : Int) * 2 ^ (p % 64)) != 0) = true := by rw [shl_nat, bne0]; simpa using c1
   have B : ((x : Int) / 2 ^ (64 - p % 64) != 0) = true := by rw [shr_cast, bne0]; simpa using c2
   have R : Hid (putL ys p x = ((ys.set (p / 64) (gt ys (p / 64) ||| x * 2 ^ (p % 64) % 18446744073709551616)).set (p / 64 + 1) (gt ys (p / 64 + 1) ||| x / 2 ^ (64 - p % 64)))) := by
    unfold putL Hid
    simp only [if_neg c1, if_neg c2]
    rw [gt_set ys _ _ _ l1, if_neg (by omega)]
   have S1 := u64_or_nat (gt ys (p / 64)) _ (hf _) (Nat.mod_lt (x * 2 ^ (p % 64)) (show 0 < 18446744073709551616 by decide))
   have S2 := u64_or_nat (gt ys (p / 64 + 1)) _ (hf _) (Nat.lt_of_le_of_lt (Nat.div_le_self x (2 ^ (64 - p % 64))) hx)
   have S3 : Hid (bits .or .u64 (gt ys (p / 64) : Int) ((x * 2 ^ (p % 64) % 18446744073709551616 : Nat) : Int) = ((gt ys (p / 64) ||| x * 2 ^ (p % 64) % 18446744073709551616 : Nat) : Int)) := S1
   have S4 : Hid (bits .or .u64 (gt ys (p / 64 + 1) : Int) ((x / 2 ^ (64 - p % 64) : Nat) : Int) = ((gt ys (p / 64 + 1) ||| x / 2 ^ (64 - p % 64) : Nat) : Int)) := S2
   clear h1 h2 c1 c2 S1 S2
   go_enter Tryz.func153, Tryz.ntmps153
   go_wp2
   go_end0
   rw [R.out, shl_nat, S3.out, shr_cast, S4.out]
   exact ⟨rfl, (hO.set _ _).set _ _, ((Turned.refl _ _).set _ _).set _ _⟩
theorem qlay_l (ys : List Nat) (l g cap p x : Nat) (w : World) (hl : ys.length = l) (hO : Own w g ys) (hp : p ≤ 2097152) (hf : Fit ys) (hx : x < 18446744073709551616) (hR : Room ys p x) :
  Calls Tryz.prog 153 #[.slice (some ⟨g, 0, none⟩) l cap, .int .i64 p, .int .u64 x] w fun e w' => e = .returned (.tuple #[]) ∧ Own w' g (putL ys p x) ∧ Turned g w w' := by
 subst hl
 exact qlay_c ys g cap p x w hO hp hf hx hR
theorem qnoughts_c (n k : Nat) (hn : n ≤ 1048576) (hk : k = (n + 63) / 64) (w : World) :
  Calls Tryz.prog 151 #[.int .i64 n] w fun e w' => ∃ g, e = .returned (.agg #[.int .i64 n, .slice (some ⟨g, 0, none⟩) k k]) ∧ w.heap.size ≤ g ∧ Own w' g (rowOf n fun _ => false) ∧ Below w.heap.size w w' := by
 rw [← rep_row n k hk]
 have C : Hid (∀ w0, Calls Tryz.prog 106 #[.int .i64 n] w0 fun e w' => ∃ g, e = .returned (.tuple #[.agg #[.int .i64 n, .slice (some ⟨g, 0, none⟩) k k], .int .i64 0]) ∧ w0.heap.size ≤ g ∧ g < w'.heap.size ∧ Own w' g (List.replicate k 0) ∧ Below w0.heap.size w0 w') := fun w0 => new_ok n k w0 (by omega) (by omega) (by omega)
 obtain ⟨W, hW⟩ : ∃ W, W = w.alloc (.cells #[.int .i64 0, .slice none 0 0] 33) := ⟨_, rfl⟩
 have bW := yb1 hW
 have B1 := yc1 hW
 have zW : W.heap.size = w.heap.size + 1 := by rw [hW]; simp
 clear hk
 go_enter Tryz.func151, Tryz.ntmps151
 go_wp2_with fail
 rw [← hW]
 refine (C.out _).mono ?_
 rintro e w1 ⟨g, rfl, hg1, hg2, hO, hb⟩
 have hw1 := bW.trans (hb.mono bW.size)
 replace B1 := B1.kept hb
 have f0 := B1.frozen 0
 have f1 := B1.frozen 1
 have c0 := B1.cell 0 rfl
 have c1 := B1.cell 1 rfl
 have hlt := B1.lt
 clear hb C hW
 have HO : Hid (Own w1 g (List.replicate k 0)) := hO
 clear hO
 go_wp2
 refine bodyPost_ret (result_cel1 rfl w.heap.size [.int .i64 (n : Nat), .slice (some ⟨g, 0, none⟩) k k] rfl (((B1.set 0 _).set 1 _).alloc _) Tryz.underlying33 r8info_b) rfl ⟨g, rfl, by omega, ?_, ?_⟩
 ·refine Own.keep (Own.set_other (Own.set_other HO.out ?_ _) ?_ _) (below_alloc _ _)
  ·simp; omega
  ·simp; omega
 ·refine Below.alloc (Below.setCell (Below.setCell hw1 ?_ _) ?_ _) ?_ _
  ·simp
  ·simp
  ·simp; omega
theorem alloc_any {T : TypeId} {zs : List Value} {n : Nat} (hi : (Tryz.prog.info? T).map (fun i => (i.zero, i.size)) = some (some (.agg zs.toArray), n)) {ops : Array Oper} {rest : List Oper} {d : Option Tmp} {ty : TypeId} {ps : String} {af : Array Edge} {a : Act} {w : World} {Q : Exit → Act → World → Prop}
  (h : ∀ w1, Cel w1 w.heap.size zs T → Below w.heap.size w w1 → w1.heap.size = w.heap.size + 1 → wpList Tryz.prog ops Q rest (a.put d (.pointer (some ⟨w.heap.size, 0, none⟩))) w1) :
  wpList Tryz.prog ops Q (⟨d, .alloc T, ty, ps, af, none⟩ :: rest) a w := by
 refine wpList_plain rfl fun K hK => ?_
 unfold Oper.wp execOp
 have z := (zero_of_info hi).1
 have nw := h _ (Cel.new w _ _) (below_alloc w _) (by simp)
 refine cast ?_ (hK _ _ nw)
 simp [Instr.alloc, Sem.run_bind, z, newVar, Value.cells, go_sem]
theorem load_any {ops : Array Oper} {rest : List Oper} {d : Option Tmp} {ty T : TypeId} {ps : String} {af : Array Edge} {a : Act} {w : World} {Q : Exit → Act → World → Prop} {x : Operand}
  (g : Nat) (cs : List Value) {e : TypeId} {n : Nat} (hx : a.eval x = .pointer (some ⟨g, 0, none⟩)) (hc : Cel w g cs T) (hu : Tryz.prog.underlying T = some (.array n e)) (hi : (Tryz.prog.info? T).map (·.size) = some cs.length)
  (h : wpList Tryz.prog ops Q rest (a.put d (.agg cs.toArray)) w) :
  wpList Tryz.prog ops Q (⟨d, .load T x, ty, ps, af, none⟩ :: rest) a w :=
 wpList_load_row rfl _ x rfl g hx _ _ _ _ hc hu rfl (by simpa using hi) h
theorem result_any {fn : Func} {p : Tmp} {T : TypeId} {w : World} {tmps : Array Value} (h : fn.results = #[.cell p T]) (g : Nat) (cs : List Value) {e : TypeId} {n : Nat} (hp : tmps.getD p undef = .pointer (some ⟨g, 0, none⟩)) (hc : Cel w g cs T) (hu : Tryz.prog.underlying T = some (.array n e)) (hi : (Tryz.prog.info? T).map (·.size) = some cs.length) :
  (results fn tmps).run Tryz.prog w = .ok (.agg cs.toArray) w := by
 have hp' : tmps[p]?.getD undef = .pointer (some ⟨g, 0, none⟩) := by simpa using hp
 have hl := run_loadVar_row (P := Tryz.prog) w g T T cs.toArray (0, 0) _ hc hu rfl (by simpa using hi)
 simp [results, h, hp', asAddr, hl]
def vI (l : List Nat) : List Value := l.map fun n : Nat => Value.int .i64 (n : Int)
def tbP (f : Nat → Nat) (q : Nat) : List Nat := (List.range 16).map fun j => if j < q then f j else 0
theorem length_tbP (f : Nat → Nat) (q : Nat) : (tbP f q).length = 16 := by simp [tbP]
theorem gt_tbP (f : Nat → Nat) (q j : Nat) (h : j < 16) : gt (tbP f q) j = if j < q then f j else 0 := by
 unfold tbP gt
 rw [List.getD_eq_getElem?_getD, List.getElem?_map, List.getElem?_range h]
 rfl
theorem tbP_zero (f : Nat → Nat) : tbP f 0 = List.replicate 16 0 := by
 refine list_ext _ _ (by simp [length_tbP]) fun i hi => ?_
 rw [length_tbP] at hi
 rw [gt_tbP f 0 i hi, if_neg (by omega)]
 unfold gt
 rw [List.getD_eq_getElem?_getD, List.getElem?_replicate, if_pos hi]
 rfl
theorem tbP_step (f : Nat → Nat) (q : Nat) (h : q < 16) : (tbP f q).set q (f q) = tbP f (q + 1) := by
 refine list_ext _ _ (by simp [length_tbP]) fun i hi => ?_
 rw [List.length_set, length_tbP] at hi
 rw [gt_set _ _ _ _ (by rw [length_tbP]; exact h), gt_tbP f q i hi, gt_tbP f (q + 1) i hi]
 by_cases c : q = i
 ·subst c; rw [if_pos rfl, if_pos (by omega)]
 ·rw [if_neg c]
  by_cases d : i < q
  ·rw [if_pos d, if_pos (by omega)]
  ·rw [if_neg d, if_neg (by omega)]
theorem length_vI (l : List Nat) : (vI l).length = l.length := by simp [vI]
theorem vI_get (l : List Nat) (i : Nat) (h : i < l.length) : (vI l)[i]? = some (.int .i64 (gt l i)) := by
 unfold vI
 rw [List.getElem?_map, gt_get l i h]
 rfl
theorem one_vI (l : List Nat) : (vI l).toArray.all (·.oneCell') = true := by
 rw [List.all_toArray, List.all_eq_true]
 intro v hv
 obtain ⟨a, _, rfl⟩ := List.mem_map.1 hv
 rfl
theorem one_wv (l : List Nat) : (wv l).toArray.all (·.oneCell') = true := by
 rw [List.all_toArray, List.all_eq_true]
 intro v hv
 obtain ⟨a, _, rfl⟩ := List.mem_map.1 hv
 rfl
theorem info_16i : (Tryz.prog.info? 147).map (fun i => (i.zero, i.size)) = some (some (.agg (vI (List.replicate 16 0)).toArray), 16) := by kernel_rfl
theorem size_16i (l : List Nat) (h : l.length = 16) : (Tryz.prog.info? 147).map (·.size) = some (vI l).length := by rw [(zero_of_info info_16i).2, length_vI, h]
def wdL : List Nat := tbP kwd 16
def chL : List Nat := tbP (ch 15) 16
theorem length_wdL : wdL.length = 16 := length_tbP _ _
theorem gt_wdL (c : Nat) (h : c ≤ 15) : gt wdL c = kwd c := by unfold wdL; rw [gt_tbP _ _ _ (by omega), if_pos (by omega)]
theorem qtable_i (w : World) :
  Calls Tryz.prog 98 #[.func (.func 99) #[] #[]] w fun e w' => e = .returned (.agg (vI (tbP kwd 16)).toArray) ∧ Below w.heap.size w w' := by
 have C : Hid (∀ (c : Nat) w0, c ≤ 15 → Calls Tryz.prog 99 #[.int .i64 15, .int .i64 c] w0 fun e w' => e = .returned (.int .i64 (kwd c : Nat)) ∧ Below w0.heap.size w0 w') := by
  intro c w0 hc
  have := width_c 15 (c : Int) (by decide) (by omega) w0
  rw [wdN_k c hc] at this
  exact this
 have SZ := size_16i (tbP kwd 16) (length_tbP _ _)
 go_enter Tryz.func98, Tryz.ntmps98
 go_wp2_with (refine alloc_any info_16i ?_)
 intro w1 hc1 hb1 hs1
 go_wp2_with (refine alloc_any info_16i ?_)
 intro w2 hc2 hb2 hs2
 have hA : Below w.heap.size w w2 := hb1.trans (hb2.mono (by omega))
 have hR := hc1.kept hb2
 have hlt : w.heap.size < w1.heap.size := by omega
 clear hc1 hb1 hs1 hb2 hs2
 generalize w1.heap.size = g at *
 simp only [Act.put, yq3, List.set]
 go_wp2
 go_loopw [5] (fun s wr => ∃ q : Nat, q ≤ 16 ∧ s = .int .i64 q ∧ Cel wr g (vI (tbP kwd q)) 147 ∧ Cel wr w.heap.size (vI (List.replicate 16 0)) 147 ∧ Below w.heap.size w wr) (fun s _ => 16 - (intOf s).toNat)
 case atStart => exact ⟨0, Nat.zero_le _, rfl, by rw [tbP_zero]; exact hc2, hR, hA⟩
 case round =>
  obtain ⟨q, hq, rfl, hc, hr, hb⟩ := hrel
  clear hc2 hR hA
  by_cases hi : q < 16
  ·have hi3 : (q : Int) < 16 := by omega
   go_wp2_with fail
   refine (C.out q _ (by omega)).mono ?_
   rintro e w4 ⟨rfl, hb4⟩
   have hc4 := hc.kept hb4
   have hr4 := hr.kept hb4
   have hw4 := hb.trans (hb4.mono hb.size)
   have e1 := hc4.cell q (vI_get _ q (by rw [length_tbP]; exact hi))
   have fz := hc4.frozen q
   have st : Cel (w4.setCell ⟨g, q, none⟩ (.int .i64 (kwd q : Nat))) g (vI (tbP kwd (q + 1))) 147 := by
    have := hc4.set q (.int .i64 (kwd q : Nat))
    rw [← tbP_step kwd q hi]
    rwa [show (vI (tbP kwd q)).set q (.int .i64 (kwd q : Nat)) = vI ((tbP kwd q).set q (kwd q)) by simp [vI, List.map_set]] at this
   have hr2 := hr4.other (a := ⟨g, q, none⟩) (by show w.heap.size ≠ g; omega) (.int .i64 (kwd q : Nat))
   have hb2 : Below w.heap.size w (w4.setCell ⟨g, q, none⟩ (.int .i64 (kwd q : Nat))) := hw4.setCell (by show w.heap.size ≤ g; omega) _
   have HF : Hid (Cel (w4.setCell ⟨g, q, none⟩ (.int .i64 (kwd q : Nat))) g (vI (tbP kwd (q + 1))) 147 ∧ Cel (w4.setCell ⟨g, q, none⟩ (.int .i64 (kwd q : Nat))) w.heap.size (vI (List.replicate 16 0)) 147 ∧ Below w.heap.size w (w4.setCell ⟨g, q, none⟩ (.int .i64 (kwd q : Nat)))) := ⟨st, hr2, hb2⟩
   clear st hr2 hb2 hc hr hb hc4 hr4 hw4 hb4 C SZ
   generalize kwd q = Z at *
   go_wp2
   exact ⟨⟨q + 1, by omega, by go_num, HF.out⟩, by simp only [intOf]; omega⟩
  ·obtain rfl : q = 16 := by omega
   have HB : Hid (Below w.heap.size w wr) := hb
   clear hb
   go_wp2_with (first | refine load_any g _ rfl hc Tryz.underlying147 SZ ?_ | refine store_cel w.heap.size _ _ rfl rfl hr (by simp [length_vI, length_tbP]) SZ (one_vI _) ?_)
   intro w5 hc5 hb5
   have HC : Hid (Cel w5 w.heap.size (vI (tbP kwd 16)) 147) := hc5
   have HB5 : Hid (Below w.heap.size w w5) := HB.out.trans (hb5.below (Nat.le_refl _))
   clear hc5 hb5 hc hr
   go_wp2
   (try simp only [Exit.inBlock, Exit.then])
   exact bodyPost_ret (result_any rfl w.heap.size _ rfl HC.out Tryz.underlying147 SZ) rfl ⟨rfl, HB5.out⟩
end Go.Proofs.YtjahipjghenbjaaGreatDoor
