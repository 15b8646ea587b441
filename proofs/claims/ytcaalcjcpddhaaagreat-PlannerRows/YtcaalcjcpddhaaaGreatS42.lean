/-
  A region that draws its order, in a round of a range over a function, every function let in: taken as one line of operations (as Rg does outside of rounds). Nothing of the program is in here. A range over a function, every function let in: what an iterator promises (Goes), what a round keeps (Kept), and one law for the statement. Nothing of the program is in here. The contract of the program's ofOnes: what it makes tells the places of the bits that are 1. The contracts of the document's places and width of layer 9. The contract of the document's width of layer 9; rows of bools of the call's own. The contracts of the program's width, lowSize, highSize, ofBit and set. A struct out of a block of its own, whole, its cells not looked into: as a step of a list of operations (guarded or not), and of a region that draws its order.
-/
import Derived.OrdersIn
import Derived.RangeFuncCalls
import Derived.RangeFuncIn
import Derived.RangeFuncRecord
import Derived.RangeFuncLeaves
import Derived.RangeFuncSeq
import Derived.Below
import Derived.Test.YtcaalcjcpddhaaaGreatS41
import Derived.Shelf.Abstract
import Derived.OwnWalkIn
import Derived.TacticsInMore
import Derived.LoopNIn
import Derived.LoopIn
set_option linter.unusedVariables false
set_option linter.unusedSimpArgs false
set_option maxRecDepth 100000
namespace Go.Proofs.YtcaalcjcpddhaaaGreat
open Go
section
variable {P : Program} {ops : Array Oper} {Q : Exit → Act → World → Prop} {md : Region.Mode} {S : World → Prop} {ns : List Nat} {F : Fence} {n : Nat}
end
end Go.Proofs.YtcaalcjcpddhaaaGreat
namespace Go.Proofs.YtcaalcjcpddhaaaGreat
open Go Go.RowKit
structure Kept (K : Nat → Prop) (W W' : World) : Prop where
 os : W'.os = W.os
 tape : W'.tape = W.tape
 output : W'.output = W.output
 size : W.heap.size ≤ W'.heap.size
 same : ∀ b, K b → b < W.heap.size → W'.heap[b]? = W.heap[b]?
theorem Kept.refl (K : Nat → Prop) (W : World) : Kept K W W := ⟨rfl, rfl, rfl, Nat.le_refl _, fun _ _ _ => rfl⟩
theorem Kept.trans {K : Nat → Prop} {a b c : World} (h : Kept K a b) (k : Kept K b c) : Kept K a c :=
 ⟨k.os.trans h.os, k.tape.trans h.tape, k.output.trans h.output, Nat.le_trans h.size k.size, fun x hx hl => (k.same x hx (Nat.lt_of_lt_of_le hl h.size)).trans (h.same x hx hl)⟩
theorem Kept.below {K : Nat → Prop} {B : Nat} {a b : World} (h : Kept K a b) (hB : ∀ x, x < B → K x) (hs : B ≤ a.heap.size) : Below B a b :=
 ⟨h.os, h.tape, h.output, h.size, fun x hx => h.same x (hB x hx) (by omega)⟩
end Go.Proofs.YtcaalcjcpddhaaaGreat
namespace Go.Proofs.YtcaalcjcpddhaaaGreat
open Go.RowKit Go.Shelf Num Bit
attribute [local go_sem] Oper.semAt_some
end Go.Proofs.YtcaalcjcpddhaaaGreat
namespace Go.Proofs.YtcaalcjcpddhaaaGreat
open Go.RowKit Num Bit
theorem info3_9 : (Tryz.prog.info? 3).map (fun i => (i.zero, i.size, i.bytes)) = some (some (.int .i64 0), 1, 8) := by kernel_rfl
def lz (l : List Nat) : List Int := l.map fun n : Nat => (n : Int)
def lv (l : List Nat) : List Value := l.map fun n : Nat => Value.int .i64 (n : Int)
theorem length_lz (l : List Nat) : (lz l).length = l.length := by simp [lz]
theorem length_lv (l : List Nat) : (lv l).length = l.length := by simp [lv]
theorem gi_lz (l : List Nat) (i : Nat) : gi (lz l) i = (gt l i : Int) := by
 unfold gi lz gt
 rw [List.getD_eq_getElem?_getD, List.getD_eq_getElem?_getD, List.getElem?_map]
 cases l[i]? <;> rfl
theorem lv_snoc (l : List Nat) (v : Nat) : lv l ++ [.int .i64 (v : Int)] = lv (l ++ [v]) := by simp [lv]
theorem nd_own9 {w : World} {base n c : Nat} {ao : Option Addr} {l : List Nat} (h : w.ownsRow base 3 1 (.slice ao n c) n (lv l)) : Nd w ao (lz l) := by
 intro h0
 rw [length_lz] at h0
 have hlen : (lv l).length = n * 1 := h.1
 rw [length_lv] at hlen
 have hk := fun k hk => h.lt k hk
 have hc := fun g hg => h.cells (g := g) hg
 obtain ⟨_, ⟨e, e2⟩ | ⟨g, cap, cur, e, _⟩⟩ := h
 ·omega
 ·simp only [Value.slice.injEq] at e
  obtain ⟨rfl, _, rfl⟩ := e
  refine ⟨g, 0, rfl, (hk g rfl).2, fun i hi => ?_⟩
  rw [length_lz] at hi
  have hu : (lv l)[i]? = some (.int .i64 (gi (lz l) i)) := by
   rw [gi_lz]
   unfold lv gt
   rw [List.getElem?_map, List.getD_eq_getElem?_getD, List.getElem?_eq_getElem hi]
   rfl
  rw [← hc g rfl i _ hu]
  unfold Addr.add
  split
  ·subst_vars; rfl
  ·simp
theorem Hid.mk9 {p : Prop} (h : p) : Hid p := h
set_option maxHeartbeats 2000000 in
theorem places_c (m : Nat) (ao : Option Addr) (xs : List Nat) (cap : Nat) (w : World) (hx : Wd w ao xs) (hk : chk (m : Int) xs = true) :
  Calls Tryz.prog 39 #[.agg #[.int .i64 m, .slice ao xs.length cap]] w fun e w' => ∃ v, e = .returned v ∧ w'.ownsRow (w.heap.size + 1) 3 1 v (plc (bitAt xs) m).length (lv (plc (bitAt xs) m)) ∧ Below w.heap.size w w' := by
 obtain ⟨h0, h1, h2, -⟩ := chk_out (m : Int) xs hk
 have HL : Hid (∀ j, j < m → j / 64 < xs.length) := fun j hj => by omega
 obtain ⟨i3, hi3, za3, zb3, zc3⟩ := info_parts info3_9
 have hm : m ≤ 1048576 := by omega
 clear h2
 obtain ⟨W, hW⟩ : ∃ W, W = w.alloc (.cells #[.int .i64 m, .slice ao xs.length cap] 24) := ⟨_, rfl⟩
 have bW : Below w.heap.size w W := by rw [hW]; exact below_alloc w _
 have B1 : Cel W w.heap.size [.int .i64 m, .slice ao xs.length cap] 24 := by rw [hW]; exact Cel.new w _ _
 go_enter Tryz.func39, Tryz.ntmps39
 go_wp2
 rw [← hW]
 clear hW
 go_loopw [3, 4] (fun v i wr => ∃ q : Nat, q ≤ m ∧ i = .int .i64 q ∧ wr.ownsRow (w.heap.size + 1) 3 1 v (plc (bitAt xs) q).length (lv (plc (bitAt xs) q)) ∧ Cel wr w.heap.size [.int .i64 m, .slice ao xs.length cap] 24 ∧ Below w.heap.size w wr) (fun _ i _ => m - (intOf i).toNat)
 case atStart => exact ⟨0, Nat.zero_le _, rfl, World.ownsRow_nil _ _ _ _, B1, bW⟩
 case round =>
  obtain ⟨q, hq, rfl, hown, hC, hwr⟩ := hrel
  clear B1 bW
  have r0 := hC.cell 0 rfl
  have r1 := hC.cell 1 rfl
  obtain ⟨vo, vc, rfl, hvc, -⟩ := Ap.owns_shape hown
  have ple := plc_le (bitAt xs) q
  by_cases hlt : q < m
  ·have hlt2 : (q : Int) < (m : Int) := by omega
   have C2 : Hid (∀ w0, Below w.heap.size w w0 → Calls Tryz.prog 22 #[.agg #[.int .i64 m, .slice ao xs.length cap], .int .i64 q] w0 fun e w' => e = .returned (.bool (bitAt xs q)) ∧ Below w0.heap.size w0 w') := fun w0 h => at_c m ao xs cap q w0 (hx.keep h) (HL.out _ hlt) (by omega)
   go_wp2_with fail
   refine (C2.out _ hwr).mono ?_
   rintro e w2 ⟨rfl, hb2⟩
   have hw2 := hwr.trans (hb2.mono hwr.size)
   have hC2 := hC.kept hb2
   have own2 := Ap.owns_below hown hb2
   clear hb2 r0 r1 C2 hC hown hwr
   cases hbit : bitAt xs q with
   | true =>
    have HP : Hid (plc (bitAt xs) (q + 1) = plc (bitAt xs) q ++ [q]) := by show _ = _; rw [plc_succ, hbit]; rfl
    have bA := below_alloc w2 (.cells #[.int .i64 (q : Int)] 3)
    have own3 := Ap.owns_below own2 bA
    have src3 : (w2.alloc (.cells #[.int .i64 (q : Int)] 3)).cell? ⟨w2.heap.size, 0, none⟩ = some (.int .i64 (q : Int)) := (Cel.new w2 [.int .i64 (q : Int)] 3).cell 0 rfl
    have hw3 := hw2.trans (bA.mono hw2.size)
    have hC3 := hC2.kept bA
    have g3 : w.heap.size + 1 ≤ (w2.alloc (.cells #[.int .i64 (q : Int)] 3)).heap.size := hC3.lt
    generalize plc (bitAt xs) q = l at *
    go_wp2_with (at_builtin; refine Ap.wpList_append_u rfl _ _ 26 rfl (w.heap.size + 1) 3 i3 (.int .i64 0) 8 Tryz.underlying26 hi3 za3 zb3 zc3 rfl (.slice vo l.length vc) l.length (lv l) rfl own3 (some ⟨w2.heap.size, 0, none⟩) 1 1 [.int .i64 (q : Int)] rfl rfl ?d1 ?d2 ?d3 ?d4 ?d5 ?_)
    case d1 => exact fun _ => ⟨_, rfl, fun j u hj => by
     match j, hj with
     | 0, hj => simp at hj; subst hj; exact src3⟩
    case d2 => intro u hu; simp at hu; subst hu; rfl
    case d3 => unfold maxLen; omega
    case d4 => omega
    case d5 => exact g3
    intro so sc w4 own4 hle4 hB4
    rw [lv_snoc] at own4
    have HO : Hid (w4.ownsRow (w.heap.size + 1) 3 1 (.slice so (l.length + 1) sc) (plc (bitAt xs) (q + 1)).length (lv (plc (bitAt xs) (q + 1)))) := by
     show w4.ownsRow _ _ _ _ _ _
     rw [HP.out, List.length_append]
     exact own4
    have hC4 := hC3.keep hB4 (Nat.lt_succ_self _)
    have hw4 := hw3.trans (hB4.mono (Nat.le_succ _))
    clear own4 own3 own2 hB4 hC3 hC2 hw3 hw2 bA src3 g3 HP
    go_wp2
    exact ⟨⟨q + 1, by omega, by go_num, HO.out, hC4, hw4⟩, by simp only [intOf]; omega⟩
   | false =>
    have HP : plc (bitAt xs) (q + 1) = plc (bitAt xs) q := by rw [plc_succ, hbit]; simp
    have HO : Hid (w2.ownsRow (w.heap.size + 1) 3 1 (.slice vo (plc (bitAt xs) q).length vc) (plc (bitAt xs) (q + 1)).length (lv (plc (bitAt xs) (q + 1)))) := by
     show w2.ownsRow _ _ _ _ _ _
     rw [HP]
     exact own2
    clear own2 HP
    go_wp2
    exact ⟨⟨q + 1, by omega, by go_num, HO.out, hC2, hw2⟩, by simp only [intOf]; omega⟩
  ·obtain rfl : q = m := by omega
   have HO := Hid.mk9 (And.intro hown hwr)
   clear hown hC
   go_wp2
   go_ret
   exact ⟨_, rfl, HO.out.1, HO.out.2⟩
end Go.Proofs.YtcaalcjcpddhaaaGreat
namespace Go.Proofs.YtcaalcjcpddhaaaGreat
open Go.RowKit Num Bit
theorem len_pos (x : Nat) (h0 : 0 < x) (h : x < 18446744073709551616) : 1 ≤ Go.bitLen x := by
 obtain ⟨p, hp, h1, _, _, _⟩ := long (x : Int) (by omega) (by omega) (by omega)
 unfold lenI at hp
 rw [Int.toNat_natCast] at hp
 omega
set_option maxHeartbeats 2000000 in
theorem f9width_c (n m : Nat) (hn : n ≤ 1048576) (hm : m ≤ n) (w : World) :
  Calls Tryz.prog 67 #[.int .i64 n, .int .i64 m] w fun e w' => e = .returned (.int .i64 (wdF n m)) ∧ Below w.heap.size w w' := by
 by_cases h0 : m = 0
 ·subst h0
  rw [show wdF n 0 = 0 from rfl]
  go_enter Tryz.func67, Tryz.ntmps67
  go_wp2
  go_ret
  exact ⟨rfl, Below.refl _ _⟩
 ·have m0 : ((m : Int) == 0) = false := by simp; omega
  have m1 : ¬ (m : Int) = 0 := by omega
  obtain ⟨d, hd⟩ : ∃ d, d = n / m := ⟨_, rfl⟩
  have d1 : 1 ≤ d := by rw [hd]; exact Nat.div_pos hm (by omega)
  have d2 : d ≤ 1048576 := by rw [hd]; exact Nat.le_trans (Nat.div_le_self n m) hn
  have e1 : (n : Int) / (m : Int) = (d : Int) := by rw [hd]; exact (Int.natCast_ediv n m).symm
  have e2 : (n : Int).tdiv (m : Int) = (d : Int) := by rw [Int.tdiv_eq_ediv_of_nonneg (by omega)]; exact e1
  obtain ⟨z, hz⟩ : ∃ z, Go.bitLen d = z + 1 := ⟨Go.bitLen d - 1, by have := len_pos d (by omega) (by omega); omega⟩
  have hw : wdF n m = z := by unfold wdF; rw [if_neg h0, ← hd, hz]; rfl
  have lz_ := len_le d 21 (by omega)
  rw [hw]
  have L : Hid (∀ w0, Calls Tryz.prog 63 #[.int .u64 d] w0 fun e w' => e = .returned (.int .i64 ((z : Int) + 1)) ∧ w' = w0) := fun w0 => by
   have := reflen_c (d : Int) (by omega) (by omega) w0
   unfold lenI at this
   rw [Int.toNat_natCast, hz] at this
   exact this
  rw [hz] at lz_
  clear hz hw hd
  go_enter Tryz.func67, Tryz.ntmps67
  go_wp2_with fail
  refine (L.out _).mono ?_
  rintro e w1 ⟨rfl, h1⟩
  rw [h1]
  clear h1 w1
  go_wp2
  go_ret
  exact ⟨rfl, Below.refl _ _⟩
def bvs (n : Nat) (f : Nat → Bool) : List Value := (List.range n).map fun j => .bool (f j)
def bls (n : Nat) (f : Nat → Bool) : List Bool := (List.range n).map f
theorem length_bvs (n : Nat) (f : Nat → Bool) : (bvs n f).length = n := by simp [bvs]
theorem bvs_get (n : Nat) (f : Nat → Bool) (i : Nat) (h : i < n) : (bvs n f)[i]? = some (.bool (f i)) := by
 unfold bvs
 rw [List.getElem?_map, List.getElem?_range h]
 rfl
theorem bvs_set (n : Nat) (f : Nat → Bool) (j : Nat) : (bvs n f).set j (.bool true) = bvs n (fun t => f t || j == t) := by
 refine List.ext_getElem? fun i => ?_
 rw [List.getElem?_set, length_bvs]
 by_cases c : i < n
 ·rw [bvs_get n _ i c, bvs_get n _ i c]
  by_cases d : j = i
  ·subst d; simp [c]
  ·rw [if_neg d]; simp [d]
 ·have e : ∀ g, (bvs n g)[i]? = none := fun g => List.getElem?_eq_none (by rw [length_bvs]; omega)
  rw [e, e]
  by_cases d : j = i
  ·subst d; simp [c]
  ·rw [if_neg d]
theorem bvs_congr (n : Nat) (f g : Nat → Bool) (h : ∀ i, i < n → f i = g i) : bvs n f = bvs n g := by
 unfold bvs
 exact List.map_congr_left fun i hi => by rw [h i (List.mem_range.1 hi)]
theorem bcel_made {w : World} {base g n : Nat} (h : w.ownsRow base 4 1 (.slice (some ⟨g, 0, none⟩) n n) n (madeCells #[.bool false] n).toList) : Cel w g (bvs n fun _ => false) 4 := by
 obtain ⟨_, h | ⟨g', cap, cur, e, _, hh, _, _, hs, ht⟩⟩ := h
 ·simp at h
 ·simp only [Value.slice.injEq, Option.some.injEq, Addr.mk.injEq] at e
  obtain ⟨⟨rfl, _, _⟩, _, rfl⟩ := e
  unfold Cel
  rw [hh]
  have e2 : (madeCells #[.bool false] n).toList = bvs n fun _ => false := by
   rw [toList_madeCells_one (.bool false) n]
   symm
   rw [List.eq_replicate_iff]
   refine ⟨length_bvs _ _, fun b hb => ?_⟩
   unfold bvs at hb
   rw [List.mem_map] at hb
   obtain ⟨_, _, rfl⟩ := hb
   rfl
  rw [e2] at ht
  have e3 : cur.toList.take (n * 1) = cur.toList := List.take_of_length_le (by simp; omega)
  rw [e3] at ht
  rw [← ht]
theorem bl_cel {w : World} {g n : Nat} {f : Nat → Bool} (h : Cel w g (bvs n f) 4) : Bl w (some ⟨g, 0, none⟩) (bls n f) := by
 intro h0
 have hl : (bls n f).length = n := by simp [bls]
 refine ⟨g, 0, rfl, h.lt, fun i hi => ?_⟩
 rw [hl] at hi
 have e : bt (bls n f) i = f i := by
  unfold bt bls
  rw [List.getD_eq_getElem?_getD, List.getElem?_map, List.getElem?_range hi]
  rfl
 rw [e, Nat.zero_add]
 exact h.cell i (bvs_get n f i hi)
end Go.Proofs.YtcaalcjcpddhaaaGreat
namespace Go.Proofs.YtcaalcjcpddhaaaGreat
open Go.RowKit Num Bit
def loN (n m : Nat) : Nat := if wdF n m = 0 then 0 else m
end Go.Proofs.YtcaalcjcpddhaaaGreat
namespace Go.Proofs.YtcaalcjcpddhaaaGreat
open Go.RowKit
theorem load_obj {ops : Array Oper} {rest : List Oper} {d : Option Tmp} {ty T : TypeId} {ps : String} {af : Array Edge} {gd : Option (Nat × Bool)} {a : Act} {w : World} {Q : Exit → Act → World → Prop} {x : Operand}
  (g : Nat) (cs : List Value) {fs : Array Field} (hwn : Region.wanted (⟨d, .load T x, ty, ps, af, gd⟩ : Oper) (yielded ops a.tmps) = true) (hx : a.eval x = .pointer (some ⟨g, 0, none⟩)) (hc : Cel w g cs T) (hu : Tryz.prog.underlying T = some (.struct fs)) (hi : (Tryz.prog.info? T).map (·.size) = some cs.length)
  (h : wpList Tryz.prog ops Q rest (a.put d (.agg cs.toArray)) w) :
  wpList Tryz.prog ops Q (⟨d, .load T x, ty, ps, af, gd⟩ :: rest) a w :=
 wpList_step fun K hK => by
  rw [if_pos hwn]
  exact wp_load_row T x rfl g hx T cs.toArray (0, 0) _ hc hu rfl (by simpa using hi) (hK _ _ h)
theorem run_load_obj {T : TypeId} {w : World} {x : Operand} {ρ : Operand → Value} {d : Option Tmp} {ty : TypeId} {ps : String} {af : Array Edge} {gd : Option (Nat × Bool)}
  (g : Nat) (cs : List Value) {fs : Array Field} (hx : ρ x = .pointer (some ⟨g, 0, none⟩)) (hc : Cel w g cs T) (hu : Tryz.prog.underlying T = some (.struct fs)) (hi : (Tryz.prog.info? T).map (·.size) = some cs.length) :
  (execOp ρ (⟨d, .load T x, ty, ps, af, gd⟩ : Oper)).run Tryz.prog w = .ok (.value (.agg cs.toArray)) w := by
 have hl := run_loadVar_row (P := Tryz.prog) w g T T cs.toArray (0, 0) _ hc hu rfl (by simpa using hi)
 unfold execOp
 simp only [hx, Instr.loadAt, Instr.sureAddr, Sem.run_bind, Sem.run_pure, Result.andThen_ok, hl]
end Go.Proofs.YtcaalcjcpddhaaaGreat
