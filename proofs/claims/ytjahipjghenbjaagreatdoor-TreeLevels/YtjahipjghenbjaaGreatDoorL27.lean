/-
  The contracts of the program's functions of plain rows, over objects. The way of the program's own package for rows in blocks: classes and offsets as they are read, and when they are what is built: plain. The rows of the triangle in arrays: grown and shrunk in place. A row of the triangle by value: made, laid into a variable, handed back. The contracts of Choose and Width. The contracts of Offset and Block.
-/
import Derived.Test.YtjahipjghenbjaaGreatDoorL12
import Derived.Test.YtjahipjghenbjaaGreatDoorL26
import Derived.Test.YtjahipjghenbjaaGreatDoorL13
import Derived.Test.YtjahipjghenbjaaGreatDoorL07
import Derived.Test.YtjahipjghenbjaaGreatDoorL02
import Derived.Deep.WholeRow
import Derived.Laws.ResultCell
import Derived.WalkMore
set_option linter.unusedVariables false
set_option linter.unusedSimpArgs false
set_option maxRecDepth 100000
set_option maxHeartbeats 16000000
namespace Go.Proofs.YtjahipjghenbjaaGreatDoor
open Go.RowKit Num Bit
theorem p_gaB (N : Int) (xs : List Nat) (S T : List Int) (i : Int) : paB N xs S T i = gaB (pchk N xs S T) (piN N xs S T) (piX N xs S T) i := by
 unfold paB gaB piN piX
 cases pchk N xs S T <;> rfl
theorem p_gaE (N : Int) (xs : List Nat) (S T : List Int) (i : Int) : paE N xs S T i = gaE (pchk N xs S T) (piN N xs S T) (piX N xs S T) i := by
 unfold paE gaE piN piX
 cases pchk N xs S T <;> rfl
theorem p_grE (N : Int) (xs : List Nat) (S T : List Int) (i : Int) : prE N xs S T i = grE (pchk N xs S T) (piN N xs S T) i := by
 unfold prE grE piN
 cases pchk N xs S T <;> rfl
theorem p_grN (N : Int) (xs : List Nat) (S T : List Int) (b : Bool) (i : Int) : prN N xs S T b i = grN (pchk N xs S T) (piN N xs S T) (piX N xs S T) b i := by
 unfold prN grN
 rw [p_grE]
 unfold grE piN piX
 cases pchk N xs S T <;> rfl
theorem p_gsX (N : Int) (xs : List Nat) (S T : List Int) (b : Bool) (i : Int) : psX N xs S T b i = gsX (pchk N xs S T) (piN N xs S T) (piX N xs S T) b i := by
 unfold psX gsX piN piX
 cases pchk N xs S T <;> rfl
theorem p_gsE (N : Int) (xs : List Nat) (S T : List Int) (b : Bool) (i : Int) : psE N xs S T b i = gsE (pchk N xs S T) (piN N xs S T) (piX N xs S T) b i := by
 unfold psE gsE piN piX
 cases pchk N xs S T <;> rfl
theorem PlOut.ki {base : Nat} {w : World} {bo : Option Addr} {bc : Nat} {so : Option Addr} {sc : Nat} {tO : Option Addr} {tc : Nat} (N : Int) (xs : List Nat) (hn : I64 N) (hf : Fit xs) (hl : xs.length ≤ 1048576) (h : PlOut base w bo (pbX N xs) bc so (pbS N xs) sc tO (pbT N xs) tc) :
  KI7 w [.int .i64 (pbN N xs), .slice bo (pbX N xs).length bc, .slice so (pbS N xs).length sc, .slice tO (pbT N xs).length tc] (kB7 N xs) := by
 have hp := h.plin N xs hn hf hl
 exact ⟨⟨bo, bc, so, sc, tO, tc, rfl, ⟨hp.n, hp.x, hp.f, hp.c, hp.s, hp.sf, hp.sc, hp.t, hp.tf, hp.tc⟩⟩, hp.l, hp.sl, hp.tl⟩
theorem build_k7 (N : Int) (ao : Option Addr) (xs : List Nat) (cap : Nat) (w : World) (hN : I64 N) (hx : Wd w ao xs) (hf : Fit xs) (hcap : xs.length ≤ cap) (hl : xs.length ≤ 1048576) :
  Calls Tryz.prog 52 #[.agg #[.int .i64 N, .slice ao xs.length cap]] w fun e w' => ∃ cs : List Value, e = .returned (.tuple #[.agg cs.toArray, .int .i64 (kE7 N xs)]) ∧ KI7 w' cs (kB7 N xs) ∧ NF w.heap.size 2 cs ∧ Below w.heap.size w w' := by
 refine (build_p N ao xs cap w hN hx hf hcap hl).mono ?_
 rintro e w' ⟨bo, bc, so, sc, tO, tc, rfl, ho, hb⟩
 exact ⟨_, rfl, ho.ki N xs hN hf hl, nf_mk ho.sn ho.tn, hb⟩
theorem check_k7 (cs : List Value) (a : RA7) (w : World) (h : KI7 w cs a) :
  Calls Tryz.prog 84 #[.agg cs.toArray] w fun e w' => e = .returned (.bool (kOk7 a)) ∧ Below w.heap.size w w' := by
 obtain ⟨⟨ao, cap, so, sc, tO, tc, rfl, h⟩, xl, sl, tl⟩ := h
 exact check_p a.N ao a.xs cap so a.S sc tO a.T tc w (h.plin xl sl tl)
theorem bits_k7 (cs : List Value) (a : RA7) (w : World) (h : KI7 w cs a) :
  Calls Tryz.prog 87 #[.agg cs.toArray] w fun e w' => ∃ bo bc, e = .returned (.agg #[.int .i64 (kBN7 a), .slice bo (kBX7 a).length bc]) ∧ Wd w' bo (kBX7 a) ∧ (kBX7 a).length ≤ bc ∧ Below w.heap.size w w' := by
 obtain ⟨⟨ao, cap, so, sc, tO, tc, rfl, h⟩, xl, sl, tl⟩ := h
 exact bits_p a.N ao a.xs cap so a.S sc tO a.T tc w (h.plin xl sl tl)
theorem size_k7 (cs : List Value) (a : RA7) (w : World) (h : KI7 w cs a) :
  Calls Tryz.prog 73 #[.agg cs.toArray] w fun e w' => e = .returned (.int .i64 (kZ7 a)) ∧ Below w.heap.size w w' := by
 obtain ⟨⟨ao, cap, so, sc, tO, tc, rfl, h⟩, xl, sl, tl⟩ := h
 exact size_p a.N ao a.xs cap so a.S sc tO a.T tc w (h.plin xl sl tl)
theorem access_k7 (cs : List Value) (a : RA7) (i : Int) (w : World) (h : KI7 w cs a) (hi : I64 i) :
  Calls Tryz.prog 63 #[.agg cs.toArray, .int .i64 i] w fun e w' => e = .returned (.tuple #[.bool (gaB (kOk7 a) (kBN7 a) (kBX7 a) i), .int .i64 (gaE (kOk7 a) (kBN7 a) (kBX7 a) i)]) ∧ Below w.heap.size w w' := by
 obtain ⟨⟨ao, cap, so, sc, tO, tc, rfl, h⟩, xl, sl, tl⟩ := h
 have := access_p a.N ao a.xs cap so a.S sc tO a.T tc i w (h.plin xl sl tl) hi
 rw [p_gaB, p_gaE] at this
 exact this
theorem rank_k7 (cs : List Value) (a : RA7) (bit : Bool) (i : Int) (w : World) (h : KI7 w cs a) (hi : I64 i) :
  Calls Tryz.prog 122 #[.agg cs.toArray, .bool bit, .int .i64 i] w fun e w' => e = .returned (.tuple #[.int .i64 (grN (kOk7 a) (kBN7 a) (kBX7 a) bit i), .int .i64 (grE (kOk7 a) (kBN7 a) i)]) ∧ Below w.heap.size w w' := by
 obtain ⟨⟨ao, cap, so, sc, tO, tc, rfl, h⟩, xl, sl, tl⟩ := h
 have := rank_p a.N ao a.xs cap so a.S sc tO a.T tc bit i w (h.plin xl sl tl) hi
 rw [p_grN, p_grE] at this
 exact this
theorem select_k7 (cs : List Value) (a : RA7) (bit : Bool) (k : Int) (w : World) (h : KI7 w cs a) (hi : I64 k) :
  Calls Tryz.prog 81 #[.agg cs.toArray, .bool bit, .int .i64 k] w fun e w' => e = .returned (.tuple #[.int .i64 (gsX (kOk7 a) (kBN7 a) (kBX7 a) bit k), .int .i64 (gsE (kOk7 a) (kBN7 a) (kBX7 a) bit k)]) ∧ Below w.heap.size w w' := by
 obtain ⟨⟨ao, cap, so, sc, tO, tc, rfl, h⟩, xl, sl, tl⟩ := h
 have := select_p a.N ao a.xs cap so a.S sc tO a.T tc bit k w (h.plin xl sl tl) hi
 rw [p_gsX, p_gsE] at this
 exact this
end Go.Proofs.YtjahipjghenbjaaGreatDoor
namespace Go.Proofs.YtjahipjghenbjaaGreatDoor
open Num Bit Bn
def cls (xs : List Nat) (i : Nat) : Nat := numAt 4 xs i
def cOn (xs : List Nat) : Nat → Nat
 | 0 => 0
 | i + 1 => cOn xs i + cls xs i
def cAt (xs : List Nat) : Nat → Nat
 | 0 => 0
 | i + 1 => cAt xs i + kwd (cls xs i)
def cSE (L : Int) (ys xs : List Nat) (i : Nat) : Int := slcE L ys (cAt xs i) (kwd (cls xs i))
def cOff (L : Int) (ys xs : List Nat) (i : Nat) : Nat := slcX L ys (cAt xs i) (kwd (cls xs i))
def cWd (L : Int) (ys xs : List Nat) (i : Nat) : Nat := blk 15 (cls xs i) (cOff L ys xs i)
structure CK (a : RA8) (m : Nat) : Prop where
 nN : a.N = m
 le : m ≤ 1048576
 nk : a.k = nb m
 nV : a.V = 4
 ic : ichk a.k a.V a.M a.xs = true
 oc : chk a.L a.ys = true
 sl : a.S.length = gN m
 tl : a.T.length = gN m
 s0 : gi a.S 0 = 0
 t0 : gi a.T 0 = 0
 each : ∀ i, i < nb m → cSE a.L a.ys a.xs i = 0 ∧ cOff a.L a.ys a.xs i < ch 15 (cls a.xs i) ∧ (i % 8 = 0 → gi a.S (i / 8) = cOn a.xs i ∧ gi a.T (i / 8) = cAt a.xs i)
 done : (cAt a.xs (nb m) : Int) = a.L
 last : 0 < nb m → cWd a.L a.ys a.xs (nb m - 1) < 2 ^ (m - 15 * (nb m - 1))
theorem gN_in (m j : Nat) (h : j < gN m) (h0 : j ≠ 0) : 8 * j < nb m := by unfold gN at h; omega
end Go.Proofs.YtjahipjghenbjaaGreatDoor
namespace Go.Proofs.YtjahipjghenbjaaGreatDoor
open Go.RowKit Num Bn
namespace Ow
theorem cel_wv {w : World} {g : Nat} {ys : List Nat} {T : TypeId} (h : Cel w g (wv ys) T) (j : Nat) (hj : j < ys.length) : w.cell? ⟨g, j, none⟩ = some (.int .u64 (gt ys j)) :=
 h.cell j (by simp [wv, gt_get ys j hj])
theorem cel_set {w : World} {g : Nat} {ys : List Nat} {T : TypeId} (h : Cel w g (wv ys) T) (j v : Nat) : Cel (w.setCell ⟨g, j, none⟩ (.int .u64 v)) g (wv (ys.set j v)) T := by
 have := h.set j (.int .u64 v)
 rwa [show (wv ys).set j (.int .u64 v) = wv (ys.set j v) by simp [wv, List.map_set]] at this
theorem grow_c (g i : Nat) (hi : i < 62) (w : World) (h : Cel w g (wv (rowP 62 i)) 223) :
  Calls Tryz.prog 207 #[.pointer (some ⟨g, 0, none⟩), .int .i64 i] w fun e w' => e = .returned (.tuple #[]) ∧ Cel w' g (wv (rowP 62 (i + 1))) 223 ∧ Below g w w' := by
 go_enter Tryz.func207, Tryz.ntmps207
 go_wp2
 go_loopw [4] (fun j wz => ∃ q : Nat, q ≤ i + 1 ∧ j = .int .i64 q ∧ Cel wz g (wv (pas 62 (i + 1) q)) 223 ∧ Below g w wz) (fun j _ => (intOf j).toNat)
 case atStart => exact ⟨i + 1, Nat.le_refl _, by go_num, by rw [pas_first]; exact h, Below.refl _ _⟩
 case round =>
  obtain ⟨q, hq, rfl, hOz, hwz⟩ := hrel
  clear h
  by_cases h0 : q = 0
  ·subst h0
   rw [pas_last] at hOz
   have HO : Hid (Cel wr g (wv (rowP 62 (i + 1))) 223) := hOz
   clear hOz
   go_wp2
   refine bodyPost_end (results_none rfl _ _ _) rfl ?_
   exact ⟨rfl, HO.out, hwz⟩
  ·have q0 : (0 : Int) < (q : Int) := by omega
   have e1 := cel_wv hOz q (by rw [length_pas]; omega)
   have e2 := cel_wv hOz (q - 1) (by rw [length_pas]; omega)
   have fz := hOz.frozen q
   have l1 : (q : Int) < 63 := by omega
   have l2 : (q : Int) - 1 < 63 := by omega
   rw [gt_pas _ _ _ _ (by omega), if_neg (by omega), Nat.add_sub_cancel] at e1 e2
   have b1 := ch62 i q (by omega)
   have b2 := ch62 i (q - 1) (by omega)
   have st := cel_set hOz q (ch i q + ch i (q - 1))
   have ps := pas_step 62 (i + 1) q (by omega) (by omega) (by omega)
   rw [Nat.add_sub_cancel] at ps
   rw [ps] at st
   have HO : Hid (Cel (wr.setCell ⟨g, q, none⟩ (.int .u64 ((ch i q + ch i (q - 1) : Nat) : Int))).drew g (wv (pas 62 (i + 1) (q - 1))) 223) := st
   have HB : Hid (Below g w (wr.setCell ⟨g, q, none⟩ (.int .u64 ((ch i q + ch i (q - 1) : Nat) : Int))).drew) := (hwz.setCell (Nat.le_refl _) _).drew
   have ez : ((q : Int) - 1).toNat = q - 1 := by omega
   have ad : IntKind.u64.wrap ((ch i q : Int) + (ch i (q - 1) : Int)) = ((ch i q + ch i (q - 1) : Nat) : Int) := by rw [IntKind.wrap_u64]; omega
   clear st ps hOz
   generalize ch i q = A at *
   generalize ch i (q - 1) = B at *
   go_wp2
   go_region
   go_wp2
   exact ⟨⟨q - 1, by omega, by go_num, HO.out, HB.out⟩, by simp only [intOf]; omega⟩
theorem info_row : (Tryz.prog.info? 223).map (fun i => (i.zero, i.size)) = some (some (.agg (wv (List.replicate 63 0)).toArray), 63) := by kernel_rfl
theorem built_row : Tryz.prog.built 223 [(0, .int .u64 1)] = some (wv ((List.replicate 63 0).set 0 1)).toArray := by kernel_rfl
theorem one_wv (ys : List Nat) : (wv ys).toArray.all (·.oneCell') = true := by
 rw [Array.all_eq_true_iff_forall_mem]
 intro v hv
 simp only [wv, List.mem_toArray, List.mem_map] at hv
 obtain ⟨y, _, rfl⟩ := hv
 rfl
end Ow
namespace Ow
theorem row_size (ys : List Nat) (h : ys.length = 63) : (Tryz.prog.info? 223).map (·.size) = some (wv ys).toArray.size := by
 rw [(zero_of_info info_row).2, List.size_toArray, length_wv, h]
theorem below_row (w : World) (g : Nat) (cs : Array Value) : Below g w (w.setRow g cs) := by
 refine ⟨rfl, rfl, rfl, ?_, fun k hk => ?_⟩
 ·simp [World.setRow]
 ·simp only [World.setRow, Array.getElem?_modify]
  rw [if_neg (by omega)]
theorem alloc_row {ops : Array Oper} {rest : List Oper} {d : Option Tmp} {ty : TypeId} {ps : String} {af : Array Edge} {a : Act} {w : World} {Q : Exit → Act → World → Prop}
  (h : ∀ w1, Cel w1 w.heap.size (wv (List.replicate 63 0)) 223 → Below w.heap.size w w1 → w.heap.size < w1.heap.size → wpList Tryz.prog ops Q rest (a.put d (.pointer (some ⟨w.heap.size, 0, none⟩))) w1) :
  wpList Tryz.prog ops Q (⟨d, .alloc 223, ty, ps, af, none⟩ :: rest) a w := by
 refine wpList_plain rfl fun K hK => ?_
 unfold Oper.wp execOp
 have z := (zero_of_info info_row).1
 have nw := h _ (Cel.new w _ _) (below_alloc w _) (by simp)
 refine cast ?_ (hK _ _ nw)
 simp [Instr.alloc, Sem.run_bind, z, newVar, Value.cells, go_sem]
theorem build_row {ops : Array Oper} {rest : List Oper} {d : Option Tmp} {ty : TypeId} {ps : String} {af : Array Edge} {a : Act} {w : World} {Q : Exit → Act → World → Prop}
  (h : wpList Tryz.prog ops Q rest (a.put d (.agg (wv (rowP 62 0)).toArray)) w) :
  wpList Tryz.prog ops Q (⟨d, .build 223 #[(0, .const (.int .u64 1))], ty, ps, af, none⟩ :: rest) a w := by
 have e : Tryz.prog.built 223 ((#[((0 : Nat), Operand.const (.int .u64 1))].map fun (i, x) => (i, a.eval x)).toList) = some (wv (rowP 62 0)).toArray := by
  rw [← row_start 62, ← built_row]
  congr 1
  simp
  rfl
 refine wpList_build rfl _ _ rfl (by rw [e]; rfl) ?_
 rw [e]
 exact h
theorem store_row {ops : Array Oper} {rest : List Oper} {d : Option Tmp} {ty : TypeId} {ps : String} {af : Array Edge} {a : Act} {w : World} {Q : Exit → Act → World → Prop} {x y : Operand}
  (g : Nat) (old ys : List Nat) (hx : a.eval x = .pointer (some ⟨g, 0, none⟩)) (hy : a.eval y = .agg (wv ys).toArray) (hc : Cel w g (wv old) 223) (lo : old.length = 63) (ly : ys.length = 63)
  (h : ∀ w1, Cel w1 g (wv ys) 223 → Below g w w1 → wpList Tryz.prog ops Q rest (a.put d undef) w1) :
  wpList Tryz.prog ops Q (⟨d, .store 223 x y, ty, ps, af, none⟩ :: rest) a w :=
 wpList_store_row rfl _ x y rfl g _ hx hy _ _ hc (row_size ys ly) (by simp [length_wv, lo, ly]) (one_wv ys) (h _ (setRow_heap w g _ _ _ _ hc) (below_row w g _))
theorem load_row {ops : Array Oper} {rest : List Oper} {d : Option Tmp} {ty : TypeId} {ps : String} {af : Array Edge} {a : Act} {w : World} {Q : Exit → Act → World → Prop} {x : Operand}
  (g : Nat) (ys : List Nat) (hx : a.eval x = .pointer (some ⟨g, 0, none⟩)) (hc : Cel w g (wv ys) 223) (ly : ys.length = 63)
  (h : wpList Tryz.prog ops Q rest (a.put d (.agg (wv ys).toArray)) w) :
  wpList Tryz.prog ops Q (⟨d, .load 223 x, ty, ps, af, none⟩ :: rest) a w :=
 wpList_load_row rfl _ x rfl g hx _ _ _ _ hc Tryz.underlying223 rfl (row_size ys ly) h
theorem rowOf_c (n : Nat) (hn : n ≤ 62) (w : World) :
  Calls Tryz.prog 194 #[.int .i64 n] w fun e w' => e = .returned (.agg (wv (rowP 62 n)).toArray) ∧ Below w.heap.size w w' := by
 have G : Hid (∀ (g i : Nat), i < 62 → ∀ w, Cel w g (wv (rowP 62 i)) 223 → Calls Tryz.prog 207 #[.pointer (some ⟨g, 0, none⟩), .int .i64 i] w fun e w' => e = .returned (.tuple #[]) ∧ Cel w' g (wv (rowP 62 (i + 1))) 223 ∧ Below g w w') := grow_c
 go_enter Tryz.func194, Tryz.ntmps194
 go_wp2_with (refine alloc_row ?_)
 intro w1 hc1 hb1 hs1
 go_wp2_with (first | refine build_row ?_ | refine alloc_row ?_)
 intro w2 hc2 hb2 hs2
 go_wp2_with (refine store_row w1.heap.size _ _ rfl rfl hc2 (by simp) (length_rowP 62 0) ?_)
 intro w3 hc3 hb3
 have hA : Below w.heap.size w w3 := (hb1.trans (hb2.mono (by omega))).trans (hb3.mono (by omega))
 have hR := (hc1.kept hb2).keep hb3 hs1
 have hlt : w.heap.size < w1.heap.size := hs1
 clear hc1 hb1 hs1 hc2 hb2 hs2 hb3 w2
 go_wp2
 generalize w1.heap.size = g at *
 go_loopw [4, 7] (fun _ s wr => ∃ i : Nat, i ≤ n ∧ s = .int .i64 i ∧ Cel wr g (wv (rowP 62 i)) 223 ∧ Cel wr w.heap.size (wv (List.replicate 63 0)) 223 ∧ Below w.heap.size w wr) (fun _ s _ => n - (intOf s).toNat)
 case atStart => exact ⟨0, Nat.zero_le _, rfl, hc3, hR, hA⟩
 case round =>
  obtain ⟨i, hin, rfl, hc, hr, hb⟩ := hrel
  clear hc3 hR hA
  by_cases hi : i < n
  ·have hi2 : (i : Int) < (n : Int) := by omega
   go_wp2_with fail
   refine (G.out g i (by omega) _ hc).mono ?_
   rintro e w4 ⟨rfl, hc4, hb4⟩
   have hr4 := hr.keep hb4 hlt
   have hb5 := hb.trans (hb4.mono (by omega))
   clear hc hr hb hb4
   go_wp2
   exact ⟨⟨i + 1, by omega, by go_num, hc4, hr4, hb5⟩, by simp only [intOf]; omega⟩
  ·obtain rfl : i = n := by omega
   have HB : Hid (Below w.heap.size w wr) := hb
   clear hb G
   go_wp2_with (first | refine load_row g _ rfl hc (length_rowP 62 i) ?_ | refine store_row w.heap.size _ _ rfl rfl hr (by simp) (length_rowP 62 i) ?_)
   intro w5 hc5 hb5
   have HC : Hid (Cel w5 w.heap.size (wv (rowP 62 i)) 223) := hc5
   have HB5 : Hid (Below w.heap.size w w5) := HB.out.trans hb5
   clear hc5 hb5 hc hr
   go_wp2
   (try simp only [Exit.inBlock, Exit.then])
   exact bodyPost_ret (results_cell_row rfl _ _ _ _ _ _ _ rfl HC.out Tryz.underlying223 rfl (row_size _ (length_rowP 62 i))) rfl ⟨rfl, HB5.out⟩
end Ow
end Go.Proofs.YtjahipjghenbjaaGreatDoor
namespace Go.Proofs.YtjahipjghenbjaaGreatDoor
open Go.RowKit Num Bn Ow
theorem within_in (n : Int) (h0 : 0 ≤ n) (h1 : n ≤ 62) (w : World) :
  Calls Tryz.prog 193 #[.int .i64 n] w fun e w' => e = .returned (.bool true) ∧ w' = w := by
 go_enter Tryz.func193, Tryz.ntmps193
 go_wp2
 go_ret
 exact ⟨rfl, rfl⟩
theorem within_out (n : Int) (h : n < 0 ∨ 62 < n) (w : World) :
  Calls Tryz.prog 193 #[.int .i64 n] w fun e w' => e = .returned (.bool false) ∧ w' = w := by
 by_cases h0 : n < 0
 ·go_enter Tryz.func193, Tryz.ntmps193
  go_wp2
  go_ret
  exact ⟨rfl, rfl⟩
 ·have h1 : 62 < n := by omega
  have h2 : 0 ≤ n := by omega
  have h3 : ¬ n ≤ 62 := by omega
  clear h h0
  go_enter Tryz.func193, Tryz.ntmps193
  go_wp2
  go_ret
  exact ⟨rfl, rfl⟩
theorem choose_c (n k : Int) (hn : -9223372036854775808 ≤ n ∧ n ≤ 9223372036854775807) (hk : -9223372036854775808 ≤ k ∧ k ≤ 9223372036854775807) (w : World) :
  Calls Tryz.prog 145 #[.int .i64 n, .int .i64 k] w fun e w' => e = .returned (.int .u64 (chN n k)) ∧ Below w.heap.size w w' := by
 by_cases hw : n < 0 ∨ 62 < n
 ·rw [show chN n k = 0 by unfold chN; rw [if_pos (by omega)]]
  have W : Hid (∀ w, Calls Tryz.prog 193 #[.int .i64 n] w fun e w' => e = .returned (.bool false) ∧ w' = w) := within_out n hw
  clear hw
  go_enter Tryz.func145, Tryz.ntmps145
  go_wp2_with fail
  refine (W.out _).mono ?_
  rintro e w1 ⟨rfl, hw1⟩
  rw [hw1]
  clear hw1 w1
  go_wp2
  go_ret
  exact ⟨rfl, Below.refl _ _⟩
 have W : Hid (∀ w, Calls Tryz.prog 193 #[.int .i64 n] w fun e w' => e = .returned (.bool true) ∧ w' = w) := within_in n (by omega) (by omega)
 by_cases h3 : k < 0
 ·rw [show chN n k = 0 by unfold chN; rw [if_pos (by omega)]]
  go_enter Tryz.func145, Tryz.ntmps145
  go_wp2_with fail
  refine (W.out _).mono ?_
  rintro e w1 ⟨rfl, hw1⟩
  rw [hw1]
  clear hw1 w1
  go_wp2
  go_ret
  exact ⟨rfl, Below.refl _ _⟩
 by_cases h4 : n < k
 ·rw [show chN n k = 0 by unfold chN; rw [if_pos (by omega)]]
  go_enter Tryz.func145, Tryz.ntmps145
  go_wp2_with fail
  refine (W.out _).mono ?_
  rintro e w1 ⟨rfl, hw1⟩
  rw [hw1]
  clear hw1 w1
  go_wp2
  go_ret
  exact ⟨rfl, Below.refl _ _⟩
 rw [show chN n k = ch n.toNat k.toNat by unfold chN; rw [if_neg (by omega)]]
 obtain ⟨a, rfl⟩ := Int.eq_ofNat_of_zero_le (show 0 ≤ n by omega)
 obtain ⟨b, rfl⟩ := Int.eq_ofNat_of_zero_le (show 0 ≤ k by omega)
 rw [Int.toNat_natCast, Int.toNat_natCast]
 have ha : a ≤ 62 := by omega
 have hba : b ≤ a := by omega
 have b63 : (b : Int) < 63 := by omega
 have R : Hid (∀ w, Calls Tryz.prog 194 #[.int .i64 a] w fun e w' => e = .returned (.agg (wv (rowP 62 a)).toArray) ∧ Below w.heap.size w w') := rowOf_c a ha
 clear hw
 go_enter Tryz.func145, Tryz.ntmps145
 go_wp2_with fail
 refine (W.out _).mono ?_
 rintro e w1 ⟨rfl, hw1⟩
 rw [hw1]
 clear hw1 w1 W
 go_wp2_with fail
 refine (R.out _).mono ?_
 rintro e w1 ⟨rfl, hb1⟩
 go_wp2_with (refine alloc_row ?_)
 intro w2 hc2 hb2 hs2
 go_wp2_with (refine store_row w1.heap.size _ _ rfl rfl hc2 (by simp) (length_rowP 62 a) ?_)
 intro w3 hc3 hb3
 have HB : Hid (Below w.heap.size w w3) := (hb1.trans (hb2.mono hb1.size)).trans (hb3.mono hb1.size)
 clear hb1 hc2 hb2 hs2 hb3 w2 R
 have e1 := cel_wv hc3 b (by rw [length_rowP]; omega)
 rw [gt_rowP _ _ _ (by omega)] at e1
 obtain ⟨Z, hZ⟩ : ∃ Z, Hid (Z = ch a b) := ⟨_, rfl⟩
 rw [← hZ.out] at e1
 clear hc3
 go_wp2
 go_ret
 rw [← hZ.out]
 exact ⟨rfl, HB.out⟩
theorem width_c (n k : Int) (hn : -9223372036854775808 ≤ n ∧ n ≤ 9223372036854775807) (hk : -9223372036854775808 ≤ k ∧ k ≤ 9223372036854775807) (w : World) :
  Calls Tryz.prog 99 #[.int .i64 n, .int .i64 k] w fun e w' => e = .returned (.int .i64 (wdN n k)) ∧ Below w.heap.size w w' := by
 have C : Hid (∀ w0, Calls Tryz.prog 145 #[.int .i64 n, .int .i64 k] w0 fun e w' => e = .returned (.int .u64 (chN n k)) ∧ Below w0.heap.size w0 w') := fun w0 => choose_c n k hn hk w0
 have b := chN_le n k
 unfold wdN
 generalize chN n k = c at *
 by_cases h0 : c = 0
 ·subst h0
  rw [if_pos rfl]
  go_enter Tryz.func99, Tryz.ntmps99
  go_wp2_with fail
  refine (C.out _).mono ?_
  rintro e w1 ⟨rfl, hb⟩
  go_wp2
  go_ret
  exact ⟨rfl, hb⟩
 ·rw [if_neg h0]
  obtain ⟨d, rfl⟩ : ∃ d, c = d + 1 := ⟨c - 1, by omega⟩
  rw [Nat.add_sub_cancel]
  have L : Hid (∀ w0, Calls Tryz.prog 161 #[.int .u64 d] w0 fun e w' => e = .returned (.int .i64 (Go.bitLen d)) ∧ w' = w0) := fun w0 => by
   have := len_c (d : Int) (by omega) (by omega) w0
   unfold lenI at this
   rw [Int.toNat_natCast] at this
   exact this
  have c1 : (((d + 1 : Nat) : Int) == 0) = false := by simp; omega
  generalize Go.bitLen d = Z at *
  go_enter Tryz.func99, Tryz.ntmps99
  go_wp2_with fail
  refine (C.out _).mono ?_
  rintro e w1 ⟨rfl, hb⟩
  have e2 : ((d + 1 : Nat) : Int) = (d : Int) + 1 := by omega
  rw [e2]
  go_wp2_with fail
  refine (L.out _).mono ?_
  rintro e w2 ⟨rfl, h2⟩
  rw [h2]
  clear h2 w2
  go_wp2
  go_ret
  exact ⟨rfl, hb⟩
theorem offset_c (x : Nat) (n : Int) (hx : x < 18446744073709551616) (hn : -9223372036854775808 ≤ n ∧ n ≤ 9223372036854775807) (w : World) :
  Calls Tryz.prog 198 #[.int .u64 x, .int .i64 n] w fun e w' => e = .returned (.tuple #[.int .i64 (ofK x n), .int .u64 (ofO x n)]) ∧ Below w.heap.size w w' := by
 by_cases hw : n < 0 ∨ 62 < n
 ·rw [show ofK x n = 0 by unfold ofK; rw [if_pos hw], show ofO x n = 0 by unfold ofO; rw [if_pos hw]]
  have W : Hid (∀ w, Calls Tryz.prog 193 #[.int .i64 n] w fun e w' => e = .returned (.bool false) ∧ w' = w) := within_out n hw
  clear hw
  go_enter Tryz.func198, Tryz.ntmps198
  go_wp2_with fail
  refine (W.out _).mono ?_
  rintro e w1 ⟨rfl, hw1⟩
  rw [hw1]
  clear hw1 w1
  go_wp2
  go_ret2
  exact ⟨rfl, Below.refl _ _⟩
 have W : Hid (∀ w, Calls Tryz.prog 193 #[.int .i64 n] w fun e w' => e = .returned (.bool true) ∧ w' = w) := within_in n (by omega) (by omega)
 rw [show ofK x n = cnt x n.toNat by unfold ofK; rw [if_neg hw], show ofO x n = off x n.toNat by unfold ofO; rw [if_neg hw]]
 obtain ⟨m, rfl⟩ := Int.eq_ofNat_of_zero_le (show 0 ≤ n by omega)
 rw [Int.toNat_natCast]
 have hm : m ≤ 62 := by omega
 clear hw
 have R : Hid (∀ w, Calls Tryz.prog 194 #[.int .i64 0] w fun e w' => e = .returned (.agg (wv (rowP 62 0)).toArray) ∧ Below w.heap.size w w') := rowOf_c 0 (by omega)
 have G : Hid (∀ (g i : Nat), i < 62 → ∀ w, Cel w g (wv (rowP 62 i)) 223 → Calls Tryz.prog 207 #[.pointer (some ⟨g, 0, none⟩), .int .i64 i] w fun e w' => e = .returned (.tuple #[]) ∧ Cel w' g (wv (rowP 62 (i + 1))) 223 ∧ Below g w w') := grow_c
 have x0 : (0 : Int) ≤ (x : Int) := by omega
 go_enter Tryz.func198, Tryz.ntmps198
 go_wp2_with fail
 refine (W.out _).mono ?_
 rintro e w1 ⟨rfl, hw1⟩
 rw [hw1]
 clear hw1 w1 W
 go_wp2_with fail
 refine (R.out _).mono ?_
 rintro e w1 ⟨rfl, hb1⟩
 go_wp2_with (refine alloc_row ?_)
 intro w2 hc2 hb2 hs2
 go_wp2_with (refine store_row w1.heap.size _ _ rfl rfl hc2 (by simp) (length_rowP 62 0) ?_)
 intro w3 hc3 hb3
 have hB := (hb1.trans (hb2.mono hb1.size)).trans (hb3.mono hb1.size)
 have hg : w.heap.size ≤ w1.heap.size := hb1.size
 clear hb1 hc2 hb2 hs2 hb3 w2 R
 go_wp2
 generalize w1.heap.size = g at *
 clear w1
 go_loopw [6, 7, 9, 15] (fun c l _ i wr => ∃ p : Nat, p ≤ m ∧ i = .int .i64 p ∧ c = .int .i64 (cnt x p) ∧ l = .int .u64 (off x p) ∧ Cel wr g (wv (rowP 62 p)) 223 ∧ Below w.heap.size w wr) (fun _ _ _ i _ => m - (intOf i).toNat)
 case atStart => exact ⟨0, Nat.zero_le _, rfl, rfl, rfl, hc3, hB⟩
 case round =>
  obtain ⟨q, hq, rfl, rfl, rfl, hc, hb⟩ := hrel
  clear hc3 hB
  obtain ⟨c, hcq⟩ : ∃ c, Hid (c = cnt x q) := ⟨_, rfl⟩
  obtain ⟨O, hOq⟩ : ∃ O, Hid (O = off x q) := ⟨_, rfl⟩
  have c62 : c ≤ q := by rw [hcq.out]; exact cnt_le x q
  have lt := off_lt x q
  have l62 := ch62 q (cnt x q) (by omega)
  have bO : O < 4611686018427387904 := by rw [hOq.out]; omega
  rw [← hcq.out, ← hOq.out]
  clear lt l62
  by_cases hp : q < m
  ·have hp2 : (q : Int) < (m : Int) := by omega
   have q64 : (q : Int) < 64 := by omega
   have D : Hid (∀ w, Cel w g (wv (rowP 62 q)) 223 → Calls Tryz.prog 207 #[.pointer (some ⟨g, 0, none⟩), .int .i64 q] w fun e w' => e = .returned (.tuple #[]) ∧ Cel w' g (wv (rowP 62 (q + 1))) 223 ∧ Below g w w') := G.out g q (by omega)
   by_cases hbit : x / 2 ^ q % 2 = 1
   ·have T : bits .and .u64 ((x : Int) / 2 ^ q) 1 = 1 := by rw [bit_and _ _ x0 (by omega), Int.toNat_natCast, hbit]; rfl
    have ec : cnt x (q + 1) = c + 1 := by rw [cnt, hbit, hcq.out]
    have eo : off x (q + 1) = O + ch q (c + 1) := by rw [off, if_pos hbit, ec, hOq.out]
    have e1 := cel_wv hc (c + 1) (by rw [length_rowP]; omega)
    rw [gt_rowP _ _ _ (by omega)] at e1
    have b1 := ch62 q (c + 1) (by omega)
    have HC : Hid (cnt x (q + 1) = c + 1) := ec
    have l1 : (c : Int) + 1 < 63 := by omega
    have ez : ((c : Int) + 1).toNat = c + 1 := by omega
    generalize ch q (c + 1) = Z at *
    have HO : Hid (off x (q + 1) = O + Z) := eo
    clear ec eo
    have HCel : Hid (Cel wr g (wv (rowP 62 q)) 223) := hc
    clear hc G
    go_wp2_with fail
    refine (D.out _ HCel.out).mono ?_
    rintro e w4 ⟨rfl, hc4, hb4⟩
    have hb5 := hb.trans (hb4.mono hg)
    clear hb hb4 e1
    go_wp2
    exact ⟨⟨q + 1, by omega, by go_num, by rw [HC.out]; go_num, by rw [HO.out]; go_num, hc4, hb5⟩, by simp only [intOf]; omega⟩
   ·have T : bits .and .u64 ((x : Int) / 2 ^ q) 1 = 0 := by rw [bit_and _ _ x0 (by omega), Int.toNat_natCast, show x / 2 ^ q % 2 = 0 by omega]; rfl
    have HC : Hid (cnt x (q + 1) = c) := by show _ = _; rw [cnt, hcq.out]; omega
    have HO : Hid (off x (q + 1) = O) := by show _ = _; rw [off, if_neg hbit, hOq.out, Nat.add_zero]
    have HCel : Hid (Cel wr g (wv (rowP 62 q)) 223) := hc
    clear hc G
    go_wp2_with fail
    refine (D.out _ HCel.out).mono ?_
    rintro e w4 ⟨rfl, hc4, hb4⟩
    have hb5 := hb.trans (hb4.mono hg)
    clear hb hb4
    go_wp2
    exact ⟨⟨q + 1, by omega, by go_num, by rw [HC.out], by rw [HO.out], hc4, hb5⟩, by simp only [intOf]; omega⟩
  ·obtain rfl : q = m := by omega
   clear G
   go_wp2
   go_ret2
   rw [← hcq.out, ← hOq.out]
   exact ⟨rfl, hb⟩
end Go.Proofs.YtjahipjghenbjaaGreatDoor
