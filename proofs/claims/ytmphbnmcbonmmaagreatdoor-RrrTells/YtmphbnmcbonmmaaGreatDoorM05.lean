/-
  The two tables of package rrr, as the program's text lays them: how many bits an offset of each class has, and how many blocks of each class there are. Rows in blocks as objects: their cells are not looked into but here. The contracts of the document's functions over them. A row in blocks that is built, right; an argument of the type api.Rrr, opened. The way of the program's own package for rows in blocks: classes and offsets as they are read, and when they are what is built: plain. The rows of the triangle in arrays: grown and shrunk in place. A row of the triangle by value: made, laid into a variable, handed back. The contracts of Choose and Width. The contracts of Offset and Block. A struct out of a block of its own, whole, its cells not looked into: as a step of a list of operations (guarded or not), and of a region that draws its order. The contracts of the small functions of the program's package for rows in blocks.
-/
import Derived.Test.YtmphbnmcbonmmaaGreatDoorM02
import Derived.Test.YtmphbnmcbonmmaaGreatDoorM01
import Derived.Test.YtmphbnmcbonmmaaGreatDoorM04
import Derived.Test.YtmphbnmcbonmmaaGreatDoorRows
import Derived.ChangeSame
import Derived.Test.YtmphbnmcbonmmaaGreatDoorM03
import Derived.Deep.WholeRow
import Derived.Laws.ResultCell
import Derived.WalkMore
namespace Go.Proofs.YtmphbnmcbonmmaaGreatDoor
open Go.RowKit Num Bit Bn
set_option linter.unusedVariables false
set_option maxRecDepth 100000

/-- Block b holds just these cells, of whatever type. -/
def Tb (w : World) (b : Nat) (cs : List Value) : Prop := ∃ T, Cel w b cs T
theorem Tb.lt {w : World} {b : Nat} {cs : List Value} (h : Tb w b cs) : b < w.heap.size := by
  obtain ⟨T, h⟩ := h
  exact h.lt
theorem Tb.cell {w : World} {b : Nat} {cs : List Value} (h : Tb w b cs) (i : Nat) {v : Value} (hv : cs[i]? = some v) : w.cell? ⟨b, i, none⟩ = some v := by
  obtain ⟨T, h⟩ := h
  exact h.cell i hv
theorem Tb.keep {w w' : World} {b base : Nat} {cs : List Value} (h : Tb w b cs) (hb : Below base w w') (hlt : b < base) : Tb w' b cs := by
  obtain ⟨T, h⟩ := h
  exact ⟨T, h.keep hb hlt⟩
theorem Tb.kept {w w' : World} {b : Nat} {cs : List Value} (h : Tb w b cs) (hb : Below w.heap.size w w') : Tb w' b cs := h.keep hb h.lt
theorem Tb.other {w : World} {b : Nat} {cs : List Value} (h : Tb w b cs) {a : Addr} (ha : b ≠ a.block) (v : Value) : Tb (w.setCell a v) b cs := by
  obtain ⟨T, h⟩ := h
  exact ⟨T, h.other ha v⟩
def vI (l : List Nat) : List Value := l.map fun n : Nat => Value.int .i64 (n : Int)
theorem length_vI (l : List Nat) : (vI l).length = l.length := by simp [vI]
theorem vI_get (l : List Nat) (i : Nat) (h : i < l.length) : (vI l)[i]? = some (.int .i64 (gt l i)) := by
  unfold vI
  rw [List.getElem?_map, gt_get l i h]
  rfl
theorem wv_get' (l : List Nat) (i : Nat) (h : i < l.length) : (wv l)[i]? = some (.int .u64 (gt l i)) := by
  unfold wv
  rw [List.getElem?_map, gt_get l i h]
  rfl
theorem length_wv' (l : List Nat) : (wv l).length = l.length := by simp [wv]
def wdL : List Nat := [0, 4, 7, 9, 11, 12, 13, 13, 13, 13, 12, 11, 9, 7, 4, 0]
def chL : List Nat := [1, 15, 105, 455, 1365, 3003, 5005, 6435, 6435, 5005, 3003, 1365, 455, 105, 15, 1]
theorem length_wdL : wdL.length = 16 := rfl
theorem length_chL : chL.length = 16 := rfl
theorem gt_wdL (c : Nat) (h : c ≤ 15) : gt wdL c = kwd c := by
  match c, h with
  | 0, _ | 1, _ | 2, _ | 3, _ | 4, _ | 5, _ | 6, _ | 7, _ | 8, _ | 9, _ | 10, _ | 11, _ | 12, _ | 13, _ | 14, _ | 15, _ => decide +kernel
theorem gt_chL (c : Nat) (h : c ≤ 15) : gt chL c = ch 15 c := by
  match c, h with
  | 0, _ | 1, _ | 2, _ | 3, _ | 4, _ | 5, _ | 6, _ | 7, _ | 8, _ | 9, _ | 10, _ | 11, _ | 12, _ | 13, _ | 14, _ | 15, _ => decide +kernel
/-- Both tables lie where the program lays them. -/
structure GV (w : World) : Prop where
  wd : Tb w 1 (vI wdL)
  wy : Tb w 0 (wv chL)
theorem GV.keep {w w' : World} (h : GV w) (hb : Below w.heap.size w w') : GV w' := ⟨h.wd.kept hb, h.wy.kept hb⟩
theorem GV.kept {w w' : World} (h : GV w) (hb : Below w.heap.size w w') : GV w' := h.keep hb
theorem GV.two {w : World} (h : GV w) : 1 < w.heap.size := by
  have := h.wd.lt
  have := h.wy.lt
  omega
theorem GV.keepB {w w' : World} {base : Nat} (h : GV w) (hb : Below base w w') (hl : 2 ≤ base) : GV w' := ⟨h.wd.keep hb (by omega), h.wy.keep hb (by omega)⟩
end Go.Proofs.YtmphbnmcbonmmaaGreatDoor

namespace Go.Proofs.YtmphbnmcbonmmaaGreatDoor
open Go.RowKit Num Bit Bn
set_option linter.unusedVariables false
set_option linter.unusedSimpArgs false
set_option maxRecDepth 100000

/-- What a row in blocks holds. -/
structure RA where
  N : Int
  k : Int
  V : Int
  M : Int
  xs : List Nat
  L : Int
  ys : List Nat
  S : List Int
  T : List Int
def I64 (n : Int) : Prop := -9223372036854775808 ≤ n ∧ n ≤ 9223372036854775807
/-- These cells are such a one, as it comes in. -/
def KArg (w : World) (cs : List Value) (a : RA) : Prop := ∃ ao cap qo dap so sc tO tc, cs = [.int .i64 a.N, .int .i64 a.k, .int .i64 a.V, .int .i64 a.M, .slice ao a.xs.length cap, .int .i64 a.L, .slice qo a.ys.length dap, .slice so a.S.length sc, .slice tO a.T.length tc] ∧ (I64 a.N ∧ I64 a.k ∧ I64 a.V ∧ I64 a.M ∧ I64 a.L ∧ FitI a.S ∧ FitI a.T) ∧ Wd w ao a.xs ∧ Fit a.xs ∧ a.xs.length ≤ cap ∧ Wd w qo a.ys ∧ Fit a.ys ∧ a.ys.length ≤ dap ∧ Nd w so a.S ∧ a.S.length ≤ sc ∧ Nd w tO a.T ∧ a.T.length ≤ tc
/-- And none of its rows is very long. -/
structure KI (w : World) (cs : List Value) (a : RA) : Prop where
  arg : KArg w cs a
  xl : a.xs.length ≤ 1048576
  yl : a.ys.length ≤ 1048576
  sl : a.S.length ≤ 1048576
  tl : a.T.length ≤ 1048576
  gv : GV w
theorem KArg.keep {w w' : World} {cs : List Value} {a : RA} (h : KArg w cs a) (hb : Below w.heap.size w w') : KArg w' cs a := by
  obtain ⟨ao, cap, qo, dap, so, sc, tO, tc, e, f, a1, a2, a3, a4, a5, a6, a7, a8, a9, a10⟩ := h
  exact ⟨ao, cap, qo, dap, so, sc, tO, tc, e, f, a1.keep hb, a2, a3, a4.keep hb, a5, a6, a7.keep hb, a8, a9.keep hb, a10⟩
theorem KI.keep {w w' : World} {cs : List Value} {a : RA} (h : KI w cs a) (hb : Below w.heap.size w w') : KI w' cs a := ⟨h.arg.keep hb, h.xl, h.yl, h.sl, h.tl, h.gv.keep hb⟩
theorem KArg.len {w : World} {cs : List Value} {a : RA} (h : KArg w cs a) : (Tryz.prog.info? 30).map (·.size) = some cs.length := by
  obtain ⟨ao, cap, qo, dap, so, sc, tO, tc, rfl, _⟩ := h
  exact info_r9
theorem KArg.nine {w : World} {cs : List Value} {a : RA} (h : KArg w cs a) : 9 = cs.length := by
  obtain ⟨ao, cap, qo, dap, so, sc, tO, tc, rfl, _⟩ := h
  rfl
theorem KArg.one {w : World} {cs : List Value} {a : RA} (h : KArg w cs a) : cs.toArray.all (·.oneCell') = true := by
  obtain ⟨ao, cap, qo, dap, so, sc, tO, tc, rfl, _⟩ := h
  simp [Value.oneCell']
def kOk (a : RA) : Bool := rOk a.N a.k a.V a.M a.xs a.L a.ys a.S a.T
def kBN (a : RA) : Int := rBN a.N a.k a.V a.M a.xs a.L a.ys a.S a.T
def kBX (a : RA) : List Nat := rBX a.N a.k a.V a.M a.xs a.L a.ys a.S a.T
def kZ (a : RA) : Int := rzN a.N a.k a.V a.M a.xs a.L a.ys a.S a.T
def kB (N : Int) (xs : List Nat) : RA := ⟨rbN N xs, rbK N xs, rbV N xs, rbM N xs, rbC N xs, rbL N xs, rbO N xs, rbS N xs, rbT N xs⟩
def kE (N : Int) (xs : List Nat) : Int := rbE N xs
theorem kB_chk (a : RA) (h : kOk a = true) : chk (kBN a) (kBX a) = true := rB_chk _ _ _ _ _ _ _ _ _ h
theorem kB_fit (a : RA) : Fit (kBX a) := rB_fit _ _ _ _ _ _ _ _ _
theorem kB_len (a : RA) : (kBX a).length ≤ 1048576 := by
  unfold kBX rBX
  split
  · rename_i h
    have := rB_chk _ _ _ _ _ _ _ _ _ h
    obtain ⟨h0, h1, h2, _⟩ := chk_out _ _ this
    unfold rBX at h2
    rw [if_pos h] at h2
    omega
  · simp
theorem KI.rin {w : World} {a : RA} {ao : Option Addr} {cap : Nat} {qo : Option Addr} {dap : Nat} {so : Option Addr} {sc : Nat} {tO : Option Addr} {tc : Nat} (xl : a.S.length ≤ 1048576) (yl : a.T.length ≤ 1048576) (h1 : Wd w ao a.xs) (h2 : Fit a.xs) (h3 : a.xs.length ≤ cap) (h4 : Wd w qo a.ys) (h5 : Fit a.ys) (h6 : a.ys.length ≤ dap) (h7 : Nd w so a.S) (h8 : a.S.length ≤ sc) (h9 : Nd w tO a.T) (h10 : a.T.length ≤ tc) : RIn w a.N a.k a.V a.M ao a.xs cap a.L qo a.ys dap so a.S sc tO a.T tc :=
  ⟨h1, h2, h3, h4, h5, h6, h7, xl, h8, h9, yl, h10⟩

theorem r8whole_k (cs : List Value) (a : RA) (w : World) (h : KI w cs a) :
    Calls Tryz.prog 39 #[.agg cs.toArray] w fun e w' => ∃ bo bc, e = .returned (.tuple #[.agg #[.int .i64 (kBN a), .slice bo (kBX a).length bc], .bool (kOk a)]) ∧ Wd w' bo (kBX a) ∧ (kBX a).length ≤ bc ∧ Below w.heap.size w w' := by
  obtain ⟨⟨ao, cap, qo, dap, so, sc, tO, tc, rfl, _, a1, a2, a3, a4, a5, a6, a7, a8, a9, a10⟩, _, _, sl, tl⟩ := h
  exact r8whole_c a.N a.k a.V a.M ao a.xs cap a.L qo a.ys dap so a.S sc tO a.T tc w (KI.rin sl tl a1 a2 a3 a4 a5 a6 a7 a8 a9 a10)
theorem r8check_k (cs : List Value) (a : RA) (w : World) (h : KI w cs a) :
    Calls Tryz.prog 19 #[.agg cs.toArray] w fun e w' => e = .returned (.bool (kOk a)) ∧ Below w.heap.size w w' := by
  have W := fun (w0 : World) (hb : Below w.heap.size w w0) => r8whole_k cs a w0 (h.keep hb)
  obtain ⟨⟨ao, cap, qo, dap, so, sc, tO, tc, rfl, _⟩, _⟩ := h
  exact r8check_g _ _ _ _ _ _ _ _ _ (kOk a) (kBN a) (kBX a) w (kB_fit a) (kB_chk a) W
theorem r8bits_k (cs : List Value) (a : RA) (w : World) (h : KI w cs a) :
    Calls Tryz.prog 22 #[.agg cs.toArray] w fun e w' => ∃ bo bc, e = .returned (.agg #[.int .i64 (kBN a), .slice bo (kBX a).length bc]) ∧ Wd w' bo (kBX a) ∧ (kBX a).length ≤ bc ∧ Below w.heap.size w w' := by
  have W := fun (w0 : World) (hb : Below w.heap.size w w0) => r8whole_k cs a w0 (h.keep hb)
  obtain ⟨⟨ao, cap, qo, dap, so, sc, tO, tc, rfl, _⟩, _⟩ := h
  exact r8bits_g _ _ _ _ _ _ _ _ _ (kOk a) (kBN a) (kBX a) w (kB_fit a) (kB_chk a) W
theorem r8access_k (cs : List Value) (a : RA) (i : Int) (w : World) (h : KI w cs a) :
    Calls Tryz.prog 13 #[.agg cs.toArray, .int .i64 i] w fun e w' => e = .returned (.tuple #[.bool (gaB (kOk a) (kBN a) (kBX a) i), .int .i64 (gaE (kOk a) (kBN a) (kBX a) i)]) ∧ Below w.heap.size w w' := by
  have W := fun (w0 : World) (hb : Below w.heap.size w w0) => r8whole_k cs a w0 (h.keep hb)
  obtain ⟨⟨ao, cap, qo, dap, so, sc, tO, tc, rfl, _⟩, _⟩ := h
  exact r8access_g _ _ _ _ _ _ _ _ _ i (kOk a) (kBN a) (kBX a) w (kB_fit a) (kB_chk a) W
theorem r8rank_k (cs : List Value) (a : RA) (bit : Bool) (i : Int) (w : World) (h : KI w cs a) :
    Calls Tryz.prog 15 #[.agg cs.toArray, .bool bit, .int .i64 i] w fun e w' => e = .returned (.tuple #[.int .i64 (grN (kOk a) (kBN a) (kBX a) bit i), .int .i64 (grE (kOk a) (kBN a) i)]) ∧ Below w.heap.size w w' := by
  have W := fun (w0 : World) (hb : Below w.heap.size w w0) => r8whole_k cs a w0 (h.keep hb)
  obtain ⟨⟨ao, cap, qo, dap, so, sc, tO, tc, rfl, _⟩, _⟩ := h
  exact r8rank_g _ _ _ _ _ _ _ _ _ bit i (kOk a) (kBN a) (kBX a) w (kB_fit a) (kB_chk a) W
theorem r8select_k (cs : List Value) (a : RA) (bit : Bool) (k : Int) (w : World) (h : KI w cs a) :
    Calls Tryz.prog 17 #[.agg cs.toArray, .bool bit, .int .i64 k] w fun e w' => e = .returned (.tuple #[.int .i64 (gsX (kOk a) (kBN a) (kBX a) bit k), .int .i64 (gsE (kOk a) (kBN a) (kBX a) bit k)]) ∧ Below w.heap.size w w' := by
  have W := fun (w0 : World) (hb : Below w.heap.size w w0) => r8whole_k cs a w0 (h.keep hb)
  obtain ⟨⟨ao, cap, qo, dap, so, sc, tO, tc, rfl, _⟩, _⟩ := h
  exact r8select_g _ _ _ _ _ _ _ _ _ bit k (kOk a) (kBN a) (kBX a) w (kB_fit a) (kB_chk a) W

set_option maxHeartbeats 2000000 in
theorem r8size_k (cs : List Value) (a : RA) (w : World) (h : KI w cs a) :
    Calls Tryz.prog 10 #[.agg cs.toArray] w fun e w' => e = .returned (.int .i64 (kZ a)) ∧ Below w.heap.size w w' := by
  have C := fun (w0 : World) (hb : Below w.heap.size w w0) => r8check_k cs a w0 (h.keep hb)
  obtain ⟨⟨ao, cap, qo, dap, so, sc, tO, tc, rfl, _⟩, _, _, sl, tl⟩ := h
  obtain ⟨N, k, V, M, xs, L, ys, S, T⟩ := a
  dsimp only at *
  obtain ⟨Z, hZ⟩ : ∃ Z, Hid (Z = kZ ⟨N, k, V, M, xs, L, ys, S, T⟩) := ⟨_, rfl⟩
  rw [← hZ.out]
  obtain ⟨W, hW⟩ : ∃ W, W = w.alloc (.cells #[.int .i64 N, .int .i64 k, .int .i64 V, .int .i64 M, .slice ao xs.length cap, .int .i64 L, .slice qo ys.length dap, .slice so S.length sc, .slice tO T.length tc] 30) := ⟨_, rfl⟩
  have bW : Below w.heap.size w W := by rw [hW]; exact below_alloc w _
  have B1 : Cel W w.heap.size [.int .i64 N, .int .i64 k, .int .i64 V, .int .i64 M, .slice ao xs.length cap, .int .i64 L, .slice qo ys.length dap, .slice so S.length sc, .slice tO T.length tc] 30 := by rw [hW]; exact Cel.new w _ _
  have CH : Hid (∀ w0, Below w.heap.size w w0 → Calls Tryz.prog 19 #[.agg #[.int .i64 N, .int .i64 k, .int .i64 V, .int .i64 M, .slice ao xs.length cap, .int .i64 L, .slice qo ys.length dap, .slice so S.length sc, .slice tO T.length tc]] w0 fun e w' => e = .returned (.bool (kOk ⟨N, k, V, M, xs, L, ys, S, T⟩)) ∧ Below w0.heap.size w0 w') := C
  clear C
  cases hk : kOk ⟨N, k, V, M, xs, L, ys, S, T⟩ with
  | false =>
    rw [hk] at CH
    have E : Hid (Z = 0) := by
      show Z = 0
      rw [hZ.out]
      unfold kZ rzN
      rw [show rOk N k V M xs L ys S T = false from hk]
      rfl
    clear hk hZ
    go_enter Tryz.func10, Tryz.ntmps10
    go_wp2_with fail
    rw [← hW]
    refine (CH.out _ bW).mono ?_
    rintro e w1 ⟨rfl, hb⟩
    have bw1 := bW.trans (hb.mono bW.size)
    clear hW
    go_wp2
    go_ret
    rw [E.out]
    exact ⟨rfl, bw1⟩
  | true =>
    rw [hk] at CH
    have E : Hid (Z = M + L + 64 * (S.length : Int)) := by
      show Z = _
      rw [hZ.out]
      unfold kZ rzN
      rw [show rOk N k V M xs L ys S T = true from hk]
      rfl
    obtain ⟨_, i2, i3, _⟩ := rOk_out N k V M xs L ys S T hk
    obtain ⟨_, _, _, _, _, m1, m2, _⟩ := ichk_out k V M xs i2
    obtain ⟨l1, l2, _, _⟩ := chk_out L ys i3
    clear hk hZ
    go_enter Tryz.func10, Tryz.ntmps10
    go_wp2_with fail
    rw [← hW]
    refine (CH.out _ bW).mono ?_
    rintro e w1 ⟨rfl, hb⟩
    have bw1 := bW.trans (hb.mono bW.size)
    replace B1 := B1.kept hb
    have r3 := B1.cell 3 rfl
    have r5 := B1.cell 5 rfl
    have r7 := B1.cell 7 rfl
    clear hW hb
    go_wp2
    go_ret
    rw [E.out]
    exact ⟨rfl, bw1⟩

theorem r8same_k (cs ds : List Value) (a : RA) (w : World) (h : KI w cs a) (g : KI w ds a) :
    Calls Tryz.prog 8 #[.agg cs.toArray, .agg ds.toArray] w fun e w' => e = .returned (.bool true) ∧ Below w.heap.size w w' := by
  obtain ⟨⟨ao, cap, qo, dap, so, sc, tO, tc, rfl, _, a1, a2, a3, a4, a5, a6, a7, a8, a9, a10⟩, xl, yl, sl, tl⟩ := h
  obtain ⟨⟨bo, bap, ro, eap, uo, uc, vo, vc, rfl, _, b1, b2, b3, b4, b5, b6, b7, b8, b9, b10⟩, _⟩ := g
  have := r8same_c a.N a.k a.V a.M ao a.xs cap a.L qo a.ys dap so a.S sc tO a.T tc a.N a.k a.V a.M bo a.xs bap a.L ro a.ys eap uo a.S uc vo a.T vc w a1 b1 xl a4 b4 yl a7 b7 sl a9 b9 tl
  simpa using this

theorem onL_fit (m : Nat) (f : Nat → Bool) (G : Nat) (hG : G ≤ 1048576) : FitI (onL m f G) := by
  intro i
  by_cases c : i < G
  · unfold onL
    rw [gi_map _ _ _ c]
    have := bon_le m f (8 * i)
    omega
  · unfold gi
    rw [List.getD_eq_getElem?_getD, List.getElem?_eq_none (by rw [length_onL]; omega)]
    decide
theorem ptL_fit (m : Nat) (f : Nat → Bool) (G : Nat) (hG : G ≤ 1048576) : FitI (ptL m f G) := by
  intro i
  by_cases c : i < G
  · unfold ptL
    rw [gi_map _ _ _ c]
    have := bat_le m f (8 * i)
    omega
  · unfold gi
    rw [List.getD_eq_getElem?_getD, List.getElem?_eq_none (by rw [length_ptL]; omega)]
    decide
theorem fit_nil : Fit [] := fun i => by unfold gt; simp
theorem fitI_nil : FitI [] := fun i => by unfold gi; simp
/-- What Build answers is such a one. -/
theorem RO.ki {w : World} {N : Int} {xs : List Nat} {bo : Option Addr} {bc : Nat} {qo : Option Addr} {qc : Nat} {so : Option Addr} {sc : Nat} {tO : Option Addr} {tc : Nat} (h : RO w (rbC N xs) (rbO N xs) (rbS N xs) (rbT N xs) bo bc qo qc so sc tO tc) (G : GV w) :
    KI w [.int .i64 (rbN N xs), .int .i64 (rbK N xs), .int .i64 (rbV N xs), .int .i64 (rbM N xs), .slice bo (rbC N xs).length bc, .int .i64 (rbL N xs), .slice qo (rbO N xs).length qc, .slice so (rbS N xs).length sc, .slice tO (rbT N xs).length tc] (kB N xs) := by
  cases hk : chk N xs with
  | false =>
    have e1 : rbN N xs = 0 := by unfold rbN; rw [hk]; rfl
    have e2 : rbK N xs = 0 := by unfold rbK; rw [hk]; rfl
    have e3 : rbV N xs = 0 := by unfold rbV; rw [hk]; rfl
    have e4 : rbM N xs = 0 := by unfold rbM; rw [hk]; rfl
    have e5 : rbC N xs = [] := by unfold rbC; rw [hk]; rfl
    have e6 : rbL N xs = 0 := by unfold rbL; rw [hk]; rfl
    have e7 : rbO N xs = [] := by unfold rbO; rw [hk]; rfl
    have e8 : rbS N xs = [] := by unfold rbS; rw [hk]; rfl
    have e9 : rbT N xs = [] := by unfold rbT; rw [hk]; rfl
    unfold kB
    rw [e5, e7, e8, e9] at h
    rw [e1, e2, e3, e4, e5, e6, e7, e8, e9]
    have z : I64 0 := by unfold I64; decide
    exact ⟨⟨bo, bc, qo, qc, so, sc, tO, tc, rfl, ⟨z, z, z, z, z, fitI_nil, fitI_nil⟩, h.c, fit_nil, h.cl, h.o, fit_nil, h.ol, h.s, h.sl, h.t, h.tl⟩, Nat.zero_le _, Nat.zero_le _, Nat.zero_le _, Nat.zero_le _, G⟩
  | true =>
    obtain ⟨h0, h1, _, _⟩ := chk_out N xs hk
    have e1 : rbN N xs = N := by unfold rbN; rw [hk]; rfl
    have e2 : rbK N xs = (nb N.toNat : Int) := by unfold rbK; rw [hk]; rfl
    have e3 : rbV N xs = 4 := by unfold rbV; rw [hk]; rfl
    have e4 : rbM N xs = (nb N.toNat : Int) * 4 := by unfold rbM; rw [hk]; rfl
    have e5 : rbC N xs = rC N.toNat (bitAt xs) := by unfold rbC; rw [hk]; rfl
    have e6 : rbL N xs = (bat N.toNat (bitAt xs) (nb N.toNat) : Int) := by unfold rbL; rw [hk]; rfl
    have e7 : rbO N xs = rO N.toNat (bitAt xs) := by unfold rbO; rw [hk]; rfl
    have e8 : rbS N xs = rS N.toNat (bitAt xs) := by unfold rbS; rw [hk]; rfl
    have e9 : rbT N xs = rT N.toNat (bitAt xs) := by unfold rbT; rw [hk]; rfl
    unfold kB
    rw [e5, e7, e8, e9] at h
    rw [e1, e2, e3, e4, e5, e6, e7, e8, e9]
    have hn := nb_le N.toNat (by omega)
    have hb := bat_le N.toNat (bitAt xs) (nb N.toNat)
    have hg : gN N.toNat ≤ 8739 := by unfold gN; omega
    have lC : (rC N.toNat (bitAt xs)).length ≤ 1048576 := by unfold rC mkS; rw [length_rowOf, length_bclP]; omega
    have lO : (rO N.toNat (bitAt xs)).length ≤ 1048576 := by unfold rO frL; rw [length_rowOf, length_bofP]; omega
    have lS : (rS N.toNat (bitAt xs)).length ≤ 1048576 := by unfold rS; rw [length_onL]; omega
    have lT : (rT N.toNat (bitAt xs)).length ≤ 1048576 := by unfold rT; rw [length_ptL]; omega
    have hg2 : gN N.toNat ≤ 1048576 := by omega
    have fS : FitI (rS N.toNat (bitAt xs)) := by unfold rS; exact onL_fit _ _ _ hg2
    have fT : FitI (rT N.toNat (bitAt xs)) := by unfold rT; exact ptL_fit _ _ _ hg2
    have fC : Fit (rC N.toNat (bitAt xs)) := by unfold rC mkS; exact fit_rowOf _ _
    have fO : Fit (rO N.toNat (bitAt xs)) := by unfold rO frL; exact fit_rowOf _ _
    generalize rC N.toNat (bitAt xs) = C at *
    generalize rO N.toNat (bitAt xs) = O at *
    generalize rS N.toNat (bitAt xs) = S at *
    generalize rT N.toNat (bitAt xs) = T at *
    generalize bat N.toNat (bitAt xs) (nb N.toNat) = L at *
    generalize nb N.toNat = k at *
    have n1 : I64 N := ⟨by omega, by omega⟩
    have n2 : I64 (k : Int) := ⟨by omega, by omega⟩
    have n3 : I64 4 := by unfold I64; decide
    have n4 : I64 ((k : Int) * 4) := ⟨by omega, by omega⟩
    have n5 : I64 (L : Int) := ⟨by omega, by omega⟩
    exact ⟨⟨bo, bc, qo, qc, so, sc, tO, tc, rfl, ⟨n1, n2, n3, n4, n5, fS, fT⟩, h.c, fC, h.cl, h.o, fO, h.ol, h.s, h.sl, h.t, h.tl⟩, lC, lO, lS, lT, G⟩
theorem r8build_k (N : Int) (ao : Option Addr) (xs : List Nat) (cap : Nat) (w : World) (hx : Wd w ao xs) (hf : Fit xs) (G : GV w) :
    Calls Tryz.prog 7 #[.agg #[.int .i64 N, .slice ao xs.length cap]] w fun e w' => ∃ cs : List Value, e = .returned (.tuple #[.agg cs.toArray, .int .i64 (kE N xs)]) ∧ KI w' cs (kB N xs) ∧ Below w.heap.size w w' := by
  refine (r8build_c N ao xs cap w hx hf).mono ?_
  rintro e w' ⟨bo, bc, qo, qc, so, sc, tO, tc, rfl, ho, hb⟩
  exact ⟨_, rfl, ho.ki (G.keep hb), hb⟩
end Go.Proofs.YtmphbnmcbonmmaaGreatDoor

namespace Go.Proofs.YtmphbnmcbonmmaaGreatDoor
open Go.ChangeShapes Go.WideShapes Go.ChangeAt Go.RowKit Go.Joins Go.Deep Num Bit Bn
set_option linter.unusedVariables false
set_option maxRecDepth 100000

theorem cells_i4 : Tryz.prog.cellsOf 27 = 4 := by kernel_rfl
theorem cells_r9 : Tryz.prog.cellsOf 30 = 9 := by kernel_rfl
theorem array9 {cs : Array Value} (h : cs.size = 9) : ∃ a b c d e f g i j, cs = #[a, b, c, d, e, f, g, i, j] := by
  obtain ⟨l⟩ := cs
  match l, h with
  | [a, b, c, d, e, f, g, i, j], _ => exact ⟨a, b, c, d, e, f, g, i, j, rfl⟩
theorem trod_struct5 {H : Type} {enc : TypeId × Value → H} {P : Program} {w : World} {base : Nat} {spare : Nat → Bool} {held : Bool} {t : TypeId} {f0 f1 f2 f3 f4 : Field} {fuel : Nat} {cs : List Value} {x : DataW H × List MemPlace} (ht : P.underlying t = some (.struct #[f0, f1, f2, f3, f4])) (h : DataW.trod enc P w base spare held fuel t cs = some x) :
    ∃ y0 y1 y2 y3 y4 n, DataW.trod enc P w base spare held n f0.type ((cs.drop f0.offset).take (P.cellsOf f0.type)) = some y0 ∧
      DataW.trod enc P w base spare held n f1.type ((cs.drop f1.offset).take (P.cellsOf f1.type)) = some y1 ∧ DataW.trod enc P w base spare held n f2.type ((cs.drop f2.offset).take (P.cellsOf f2.type)) = some y2 ∧
      DataW.trod enc P w base spare held n f3.type ((cs.drop f3.offset).take (P.cellsOf f3.type)) = some y3 ∧ DataW.trod enc P w base spare held n f4.type ((cs.drop f4.offset).take (P.cellsOf f4.type)) = some y4 := by
  obtain ⟨xs, n, _, rfl, hl, hlen, hf⟩ := DataW.trod_struct ht h
  match xs, hlen with
  | [y0, y1, y2, y3, y4], _ => exact ⟨y0, y1, y2, y3, y4, n, by simpa using hf 0 f0 rfl, by simpa using hf 1 f1 rfl, by simpa using hf 2 f2 rfl, by simpa using hf 3 f3 rfl, by simpa using hf 4 f4 rfl⟩
theorem open_i {H : Type} {enc : TypeId × Value → H} {W : World} {n : Nat} {c : Value} {y : DataW H × List MemPlace} (h : DataW.trod enc Tryz.prog W 0 (fun _ => true) true n 3 [c] = some y) : ∃ N, c = .int .i64 N ∧ I64 N := by
  obtain ⟨a, e0, _, wa⟩ := DataW.trod_int Tryz.underlying3 h
  simp at e0
  exact ⟨a, e0, i64_wf a wa⟩
theorem open_us {H : Type} {enc : TypeId × Value → H} {W : World} {n : Nat} {c : Value} {y : DataW H × List MemPlace} (h : DataW.trod enc Tryz.prog W 0 (fun _ => true) true n 22 [c] = some y) : ∃ ao xs cap, c = .slice ao (List.length xs) cap ∧ Wd W ao xs ∧ Fit xs ∧ xs.length ≤ cap := by
  rcases open_ints Tryz.underlying22 Tryz.underlying51 Tryz.cells51 h with ⟨hcs, _⟩ | ⟨x, l, cp, zs, hcs, _, hl, hm, hz, _, hcell, hwz⟩
  · simp at hcs
    subst hcs
    exact ⟨none, [], 0, rfl, wd0' _ _, fun i => by unfold gt; simp, by simp⟩
  · simp at hcs
    subst hcs
    have hz2 : zs.length = cp := by simpa using hz
    obtain ⟨xs, hx1, hx2, hx3⟩ := wd_of W x l zs (by omega) hcell hwz
    subst hx1
    exact ⟨some x, xs, cp, rfl, hx2, hx3, hl⟩
theorem open_b2 {H : Type} {enc : TypeId × Value → H} {W : World} {n : Nat} {c d : Value} {y : DataW H × List MemPlace} (h : DataW.trod enc Tryz.prog W 0 (fun _ => true) true n 24 [c, d] = some y) : ∃ N ao xs cap, c = .int .i64 N ∧ d = .slice ao (List.length xs) cap ∧ I64 N ∧ Wd W ao xs ∧ Fit xs ∧ xs.length ≤ cap := by
  obtain ⟨z0, z1, m, _, _, k0, k1⟩ := trod_struct2 Tryz.underlying24 h
  have j0 : DataW.trod enc Tryz.prog W 0 (fun _ => true) true m 3 [c] = some z0 := by simpa [Tryz.cells3] using k0
  have j1 : DataW.trod enc Tryz.prog W 0 (fun _ => true) true m 22 [d] = some z1 := by simpa [Tryz.cells3, Tryz.cells22] using k1
  obtain ⟨N, rfl, hN⟩ := open_i j0
  obtain ⟨ao, xs, cap, rfl, a1, a2, a3⟩ := open_us j1
  exact ⟨N, ao, xs, cap, rfl, rfl, hN, a1, a2, a3⟩
theorem open_i4 {H : Type} {enc : TypeId × Value → H} {W : World} {n : Nat} {a b c d : Value} {y : DataW H × List MemPlace} (h : DataW.trod enc Tryz.prog W 0 (fun _ => true) true n 27 [a, b, c, d] = some y) : ∃ k V M ao xs cap, a = .int .i64 k ∧ b = .int .i64 V ∧ c = .int .i64 M ∧ d = .slice ao (List.length xs) cap ∧ I64 k ∧ I64 V ∧ I64 M ∧ Wd W ao xs ∧ Fit xs ∧ xs.length ≤ cap := by
  obtain ⟨y0, y1, y2, n, hx, _, h0, h1, h2⟩ := trod_struct3 Tryz.underlying27 h
  have g0 : DataW.trod enc Tryz.prog W 0 (fun _ => true) true n 3 [a] = some y0 := by simpa [Tryz.cells3] using h0
  have g1 : DataW.trod enc Tryz.prog W 0 (fun _ => true) true n 3 [b] = some y1 := by simpa [Tryz.cells3] using h1
  have g2 : DataW.trod enc Tryz.prog W 0 (fun _ => true) true n 24 [c, d] = some y2 := by simpa [Tryz.cells24] using h2
  obtain ⟨k, rfl, hk⟩ := open_i g0
  obtain ⟨V, rfl, hV⟩ := open_i g1
  obtain ⟨M, ao, xs, cap, rfl, rfl, hM, a1, a2, a3⟩ := open_b2 g2
  exact ⟨k, V, M, ao, xs, cap, rfl, rfl, rfl, rfl, hk, hV, hM, a1, a2, a3⟩
theorem open_obj {H : Type} {enc : TypeId × Value → H} {W : World} {base : Nat} {v : Value} {d : DataW H} {p : List MemPlace} (hv : Value.okWide Tryz.prog W .any base 30 v) (h : DataW.Trod enc Tryz.prog W 0 (fun _ => true) true 30 v d p) :
    ∃ (cs : List Value) (a : RA), v = .agg cs.toArray ∧ KArg W cs a := by
  obtain ⟨cs, rfl, hsz⟩ := okWide_struct Tryz.underlying30 hv
  obtain ⟨c0, c1, c2, c3, c4, c5, c6, c7, c8, rfl⟩ := array9 (hsz.trans cells_r9)
  obtain ⟨fuel, hf⟩ := h
  obtain ⟨y0, y1, y2, y3, y4, n, h0, h1, h2, h3, h4⟩ := trod_struct5 Tryz.underlying30 hf
  have g0 : DataW.trod enc Tryz.prog W 0 (fun _ => true) true n 3 [c0] = some y0 := by simpa [Value.cells, Tryz.cells3] using h0
  have g1 : DataW.trod enc Tryz.prog W 0 (fun _ => true) true n 27 [c1, c2, c3, c4] = some y1 := by simpa [Value.cells, cells_i4] using h1
  have g2 : DataW.trod enc Tryz.prog W 0 (fun _ => true) true n 24 [c5, c6] = some y2 := by simpa [Value.cells, Tryz.cells24] using h2
  have g3 : DataW.trod enc Tryz.prog W 0 (fun _ => true) true n 28 [c7] = some y3 := by simpa [Value.cells, Tryz.cells28] using h3
  have g4 : DataW.trod enc Tryz.prog W 0 (fun _ => true) true n 28 [c8] = some y4 := by simpa [Value.cells, Tryz.cells28] using h4
  obtain ⟨N, rfl, hN⟩ := open_i g0
  obtain ⟨k, V, M, ao, xs, cap, rfl, rfl, rfl, rfl, hk, hV, hM, a1, a2, a3⟩ := open_i4 g1
  obtain ⟨L, qo, ys, dap, rfl, rfl, hL, b1, b2, b3⟩ := open_b2 g2
  obtain ⟨so, S, sc, rfl, u1, u2, u3⟩ := open_is g3
  obtain ⟨tO, T, tc, rfl, v1, v2, v3⟩ := open_is g4
  exact ⟨_, ⟨N, k, V, M, xs, L, ys, S, T⟩, rfl, ao, cap, qo, dap, so, sc, tO, tc, rfl, ⟨hN, hk, hV, hM, hL, u2, v2⟩, a1, a2, a3, b1, b2, b3, u1, u3, v1, v3⟩
theorem row_back (m : Nat) (xs : List Nat) (hf : Fit xs) (hk : chk (m : Int) xs = true) : rowOf m (bitAt xs) = xs := by
  have := chk_row m xs hf hk
  rw [Int.toNat_natCast] at this
  exact this.symm
/-- What is built of a row that may be, may be, and its bits are the row. -/
theorem kB_ok (N : Int) (xs : List Nat) (hf : Fit xs) (hk : chk N xs = true) : kOk (kB N xs) = true ∧ kBN (kB N xs) = N ∧ kBX (kB N xs) = xs := by
  obtain ⟨h0, h1, _, _⟩ := chk_out N xs hk
  obtain ⟨m, rfl⟩ := Int.eq_ofNat_of_zero_le h0
  have hm : m ≤ 1048576 := by omega
  have e : kB (m : Int) xs = ⟨m, nb m, 4, (nb m : Int) * 4, rC m (bitAt xs), bat m (bitAt xs) (nb m), rO m (bitAt xs), rS m (bitAt xs), rT m (bitAt xs)⟩ := by
    unfold kB rbN rbK rbV rbM rbC rbL rbO rbS rbT
    rw [hk, Int.toNat_natCast]
    rfl
  have hd : rDec m (nb m) 4 (rC m (bitAt xs)) (bat m (bitAt xs) (nb m)) (rO m (bitAt xs)) = some ((List.range m).map (bitAt xs)) := rDec_built m (bitAt xs) hm
  have e1 : rwN (some ((List.range m).map (bitAt xs))) = m := by simp [rwN]
  have e2 : rwX (some ((List.range m).map (bitAt xs))) = xs := by
    show frL _ = xs
    rw [fr_row, row_back m xs hf hk]
  have hn := nb_le m hm
  have hb := bat_le m (bitAt xs) (nb m)
  have i1 : ichk (nb m : Int) 4 ((nb m : Int) * 4) (rC m (bitAt xs)) = true := by
    have := ichk_mk (bclP m (bitAt xs) (nb m)) 4 (by decide) (by decide) (by rw [length_bclP]; omega)
    rw [length_bclP] at this
    unfold rC
    rw [show ((nb m : Int) * 4) = ((nb m * 4 : Nat) : Int) by omega]
    exact this
  have i2 : chk (bat m (bitAt xs) (nb m) : Int) (rO m (bitAt xs)) = true := by
    unfold rO
    rw [fr_off]
    exact chk_rowOf _ _ (by omega)
  have ok : rOk m (nb m) 4 ((nb m : Int) * 4) (rC m (bitAt xs)) (bat m (bitAt xs) (nb m)) (rO m (bitAt xs)) (rS m (bitAt xs)) (rT m (bitAt xs)) = true := by
    unfold rOk
    rw [hd, e1, e2, i1, i2, decide_eq_true (show (0 : Int) ≤ m ∧ (m : Int) ≤ 1048576 by omega), rEq_self]
    rfl
  rw [e]
  refine ⟨ok, ?_, ?_⟩
  · unfold kBN rBN
    rw [if_pos ok, hd, e1]
  · unfold kBX rBX
    rw [if_pos ok, hd, e2]
theorem kE_ok (N : Int) (xs : List Nat) (hk : chk N xs = true) : kE N xs = 0 := by unfold kE rbE; rw [hk]; rfl
theorem kZ_val (m : Nat) (xs : List Nat) (hf : Fit xs) (hk : chk (m : Int) xs = true) : kZ (kB m xs) = (nb m : Int) * 4 + bat m (bitAt xs) (nb m) + 64 * (gN m : Int) := by
  have ok := (kB_ok m xs hf hk).1
  unfold kZ rzN
  rw [show rOk (kB m xs).N (kB m xs).k (kB m xs).V (kB m xs).M (kB m xs).xs (kB m xs).L (kB m xs).ys (kB m xs).S (kB m xs).T = true from ok, if_pos rfl]
  have e1 : (kB m xs).M = (nb m : Int) * 4 := by unfold kB rbM; rw [hk, Int.toNat_natCast]; rfl
  have e2 : (kB m xs).L = (bat m (bitAt xs) (nb m) : Int) := by unfold kB rbL; rw [hk, Int.toNat_natCast]; rfl
  have e3 : (kB m xs).S.length = gN m := by
    have : (kB m xs).S = rS m (bitAt xs) := by unfold kB rbS; rw [hk, Int.toNat_natCast]; rfl
    rw [this]
    unfold rS
    rw [length_onL]
  rw [e1, e2, e3]
theorem kZ_pos (N : Int) (xs : List Nat) (hf : Fit xs) (hk : chk N xs = true) : 0 < kZ (kB N xs) := by
  obtain ⟨h0, h1, _, _⟩ := chk_out N xs hk
  obtain ⟨m, rfl⟩ := Int.eq_ofNat_of_zero_le h0
  rw [kZ_val m xs hf hk]
  have : 1 ≤ gN m := by unfold gN; omega
  omega
end Go.Proofs.YtmphbnmcbonmmaaGreatDoor

namespace Go.Proofs.YtmphbnmcbonmmaaGreatDoor
open Num Bit Bn
set_option linter.unusedVariables false

theorem cnt_none (n : Nat) : cnt 0 n = 0 := by
  induction n with
  | zero => rfl
  | succ n ih => rw [cnt, ih, Nat.zero_div]
theorem off_none (n : Nat) : off 0 n = 0 := by
  induction n with
  | zero => rfl
  | succ n ih => rw [off, ih, Nat.zero_div]; rfl
/-- A word that is told by its class and its offset has them. -/
theorem blk_in : ∀ n k o, o < ch n k → cnt (blk n k o) n = k ∧ off (blk n k o) n = o := by
  intro n
  induction n with
  | zero =>
    intro k o h
    cases k with
    | zero =>
      have h : o < 1 := h
      exact ⟨rfl, by show 0 = o; omega⟩
    | succ k => exact absurd h (by show ¬ o < 0; omega)
  | succ n ih =>
    intro k o h
    by_cases hk : k = 0
    · subst hk
      rw [ch_zero] at h
      rw [blk_zero, cnt_none, off_none]
      exact ⟨rfl, by omega⟩
    · obtain ⟨j, rfl⟩ : ∃ j, k = j + 1 := ⟨k - 1, by omega⟩
      rw [ch_succ] at h
      have P := Nat.two_pow_pos n
      by_cases c : ch n (j + 1) ≤ o
      · rw [blk_hi n (j + 1) o hk c, Nat.add_sub_cancel]
        obtain ⟨h1, h2⟩ := ih j (o - ch n (j + 1)) (by omega)
        have hb := blk_lt n j (o - ch n (j + 1))
        generalize blk n j (o - ch n (j + 1)) = b at *
        have e1 : (2 ^ n + b) / 2 ^ n = 1 := by rw [Nat.add_div_left _ P, Nat.div_eq_of_lt hb]
        have e2 : (2 ^ n + b) % 2 ^ n = b := by rw [Nat.add_mod_left, Nat.mod_eq_of_lt hb]
        have e3 : cnt (2 ^ n + b) n = j := by rw [← cnt_mod (2 ^ n + b) n n (Nat.le_refl _), e2, h1]
        have e4 : off (2 ^ n + b) n = o - ch n (j + 1) := by rw [← off_mod (2 ^ n + b) n n (Nat.le_refl _), e2, h2]
        have e5 : cnt (2 ^ n + b) (n + 1) = j + 1 := by rw [cnt, e3, e1]
        refine ⟨e5, ?_⟩
        rw [off, e1, if_pos rfl, e5, e4]
        omega
      · rw [blk_lo n (j + 1) o hk c]
        obtain ⟨h1, h2⟩ := ih (j + 1) o (by omega)
        have hb := blk_lt n (j + 1) o
        generalize blk n (j + 1) o = b at *
        have e1 : b / 2 ^ n = 0 := Nat.div_eq_of_lt hb
        refine ⟨by rw [cnt, h1, e1], ?_⟩
        rw [off, e1, h2]
        simp

/-- The class of block i, as it is read. -/
def cls (xs : List Nat) (i : Nat) : Nat := numAt 4 xs i
def cOn (xs : List Nat) : Nat → Nat
  | 0 => 0
  | i + 1 => cOn xs i + cls xs i
def cAt (xs : List Nat) : Nat → Nat
  | 0 => 0
  | i + 1 => cAt xs i + kwd (cls xs i)
def cSE (L : Int) (ys xs : List Nat) (i : Nat) : Int := slcE L ys (cAt xs i) (kwd (cls xs i))
def cOff (L : Int) (ys xs : List Nat) (i : Nat) : Nat := slcX L ys (cAt xs i) (kwd (cls xs i))
def cWd (L : Int) (ys xs : List Nat) (i : Nat) : Nat := blk 15 (cls xs i) (cOff L ys xs i)
theorem cls_le (xs : List Nat) (i : Nat) : cls xs i ≤ 15 := by
  have : cls xs i < 2 ^ 4 := numOf_lt _ _
  omega
theorem cOn_le (xs : List Nat) (i : Nat) : cOn xs i ≤ 15 * i := by
  induction i with
  | zero => exact Nat.le_refl _
  | succ i ih => have := cls_le xs i; rw [cOn]; omega
theorem cAt_le (xs : List Nat) (i : Nat) : cAt xs i ≤ 13 * i := by
  induction i with
  | zero => exact Nat.le_refl _
  | succ i ih => have := kwd_le13 (cls xs i) (cls_le xs i); rw [cAt]; omega
theorem cOff_lt (L : Int) (ys xs : List Nat) (i : Nat) : cOff L ys xs i < 8192 := by
  have k := kwd_le13 (cls xs i) (cls_le xs i)
  unfold cOff slcX
  split
  · rw [Int.toNat_natCast]
    refine Nat.lt_of_lt_of_le (numOf_lt _ _) ?_
    exact Nat.pow_le_pow_right (n := 2) (j := 13) (by decide) k
  · decide
theorem cWd_lt (L : Int) (ys xs : List Nat) (i : Nat) : cWd L ys xs i < 32768 := blk_lt 15 _ _
theorem cAt_find (xs : List Nat) : ∀ n j, j < cAt xs n → ∃ i t, i < n ∧ t < kwd (cls xs i) ∧ j = cAt xs i + t := by
  intro n
  induction n with
  | zero => intro j h; exact absurd h (by show ¬ j < 0; omega)
  | succ n ih =>
    intro j h
    rw [cAt] at h
    by_cases c : j < cAt xs n
    · obtain ⟨i, t, h1, h2, h3⟩ := ih j c
      exact ⟨i, t, by omega, h2, h3⟩
    · exact ⟨n, j - cAt xs n, by omega, by omega, by omega⟩

/-- What the program looks for in a row in blocks. -/
structure CK (a : RA) (m : Nat) : Prop where
  nN : a.N = m
  le : m ≤ 1048576
  nk : a.k = nb m
  nV : a.V = 4
  ic : ichk a.k a.V a.M a.xs = true
  oc : chk a.L a.ys = true
  sl : a.S.length = gN m
  tl : a.T.length = gN m
  s0 : gi a.S 0 = 0
  t0 : gi a.T 0 = 0
  each : ∀ i, i < nb m → cSE a.L a.ys a.xs i = 0 ∧ cOff a.L a.ys a.xs i < ch 15 (cls a.xs i) ∧ (i % 8 = 0 → gi a.S (i / 8) = cOn a.xs i ∧ gi a.T (i / 8) = cAt a.xs i)
  done : (cAt a.xs (nb m) : Int) = a.L
  last : 0 < nb m → cWd a.L a.ys a.xs (nb m - 1) < 2 ^ (m - 15 * (nb m - 1))

theorem kb_is (m : Nat) (X : List Nat) (hk : chk (m : Int) X = true) : kB (m : Int) X = ⟨m, nb m, 4, (nb m : Int) * 4, rC m (bitAt X), bat m (bitAt X) (nb m), rO m (bitAt X), rS m (bitAt X), rT m (bitAt X)⟩ := by
  unfold kB rbN rbK rbV rbM rbC rbL rbO rbS rbT
  rw [hk, Int.toNat_natCast]
  rfl
theorem gN_in (m j : Nat) (h : j < gN m) (h0 : j ≠ 0) : 8 * j < nb m := by unfold gN at h; omega
/-- Where it is so, it is what is built of a row. -/
theorem ck_kb (a : RA) (m : Nat) (hfx : Fit a.xs) (hfy : Fit a.ys) (h : CK a m) : ∃ X, Fit X ∧ chk (m : Int) X = true ∧ a = kB m X := by
  obtain ⟨N, k, V, M, xs, L, ys, S, T⟩ := a
  obtain ⟨hN, hm, hk, hV, ic, oc, sl, tl, s0, t0, ea, en, la⟩ := h
  dsimp only at *
  subst hN hk hV
  obtain ⟨_, _, _, hM, ck, _, _, _⟩ := ichk_out _ _ _ _ ic
  obtain ⟨f, hf⟩ : ∃ f : Nat → Bool, f = fun j => (cWd L ys xs (j / 15)).testBit (j % 15) := ⟨_, rfl⟩
  obtain ⟨X, hX⟩ : ∃ X, X = rowOf m f := ⟨_, rfl⟩
  have fX : Fit X := by rw [hX]; exact fit_rowOf _ _
  have cX : chk (m : Int) X = true := by rw [hX]; exact chk_rowOf _ _ hm
  have bX : ∀ j, bitAt X j = (decide (j < m) && f j) := fun j => by rw [hX]; exact bitAt_rowOf _ _ _
  have B : ∀ i, i < nb m → blv m (bitAt X) i = cWd L ys xs i := by
    intro i hi
    unfold blv
    refine (eq_numOf 15 _ _ fun t => ?_).symm
    have hw : cWd L ys xs i < 2 ^ 15 := blk_lt _ _ _
    by_cases c : t < 15
    · have e1 : (15 * i + t) / 15 = i := by omega
      have e2 : (15 * i + t) % 15 = t := by omega
      rw [bX, hf]
      dsimp only
      rw [e1, e2]
      by_cases d : 15 * i + t < m
      · simp [c, d]
      · have hi2 : i = nb m - 1 := by unfold nb at hi ⊢; omega
        have l := la (by omega)
        rw [← hi2] at l
        have : cWd L ys xs i < 2 ^ t := Nat.lt_of_lt_of_le l (Nat.pow_le_pow_right (by decide) (by omega))
        rw [Nat.testBit_lt_two_pow this]
        simp [d]
    · rw [Nat.testBit_lt_two_pow (Nat.lt_of_lt_of_le hw (Nat.pow_le_pow_right (by decide) (by omega)))]
      simp [c]
  have C : ∀ i, i < nb m → bcl m (bitAt X) i = cls xs i ∧ bof m (bitAt X) i = cOff L ys xs i := by
    intro i hi
    unfold bcl bof
    rw [B i hi]
    exact blk_in 15 _ _ (ea i hi).2.1
  have A : ∀ i, i ≤ nb m → bat m (bitAt X) i = cAt xs i ∧ bon m (bitAt X) i = cOn xs i := by
    intro i
    induction i with
    | zero => intro _; exact ⟨rfl, rfl⟩
    | succ i ih =>
      intro hi
      obtain ⟨h1, h2⟩ := ih (by omega)
      obtain ⟨c1, c2⟩ := C i (by omega)
      rw [bat, bon, cAt, cOn, h1, h2, bwd, c1]
      exact ⟨rfl, rfl⟩
  have x1 : xs = rC m (bitAt X) := by
    unfold rC mkS
    rw [length_bclP]
    refine (chk_row _ xs hfx ck).trans ?_
    rw [← hM, show ((nb m : Int) * 4).toNat = nb m * 4 by omega]
    refine rowOf_congr _ _ _ fun j hj => ?_
    have hj4 : j / 4 < nb m := by omega
    rw [gt_bclP _ _ _ _ hj4, (C _ hj4).1]
    unfold cls numAt
    rw [testBit_numOf, show j / 4 * 4 + j % 4 = j by omega]
    simp [hj, show j % 4 < 4 by omega]
  have x2 : ys = rO m (bitAt X) := by
    unfold rO
    rw [fr_off]
    refine (chk_row _ ys hfy oc).trans ?_
    rw [← en, Int.toNat_natCast, (A (nb m) (Nat.le_refl _)).1]
    refine rowOf_congr _ _ _ fun j hj => ?_
    obtain ⟨i, t, hi, ht, rfl⟩ := cAt_find xs (nb m) j hj
    have hb : t < bwd m (bitAt X) i := by rw [bwd, (C i hi).1]; exact ht
    have g := bofP_get m (bitAt X) (nb m) i t hi hb
    rw [(A i (by omega)).1] at g
    rw [List.getD_eq_getElem?_getD, g, (C i hi).2]
    unfold cOff slcX
    rw [if_pos (show slcE L ys (cAt xs i) (kwd (cls xs i)) = 0 from (ea i hi).1), testBit_numOf, Int.toNat_natCast, Int.toNat_natCast]
    simp [ht]
  have x3 : S = rS m (bitAt X) := by
    unfold rS
    refine gi_ext (by rw [sl, length_onL]) fun j hj => ?_
    unfold onL
    rw [gi_map _ _ _ (by omega)]
    by_cases c : j = 0
    · subst c; exact s0
    · have h8 := gN_in m j (by omega) c
      have := ((ea (8 * j) h8).2.2 (by omega)).1
      rw [show 8 * j / 8 = j by omega] at this
      rw [this, (A (8 * j) (by omega)).2]
  have x4 : T = rT m (bitAt X) := by
    unfold rT
    refine gi_ext (by rw [tl, length_ptL]) fun j hj => ?_
    unfold ptL
    rw [gi_map _ _ _ (by omega)]
    by_cases c : j = 0
    · subst c; exact t0
    · have h8 := gN_in m j (by omega) c
      have := ((ea (8 * j) h8).2.2 (by omega)).2
      rw [show 8 * j / 8 = j by omega] at this
      rw [this, (A (8 * j) (by omega)).1]
  refine ⟨X, fX, cX, ?_⟩
  rw [kb_is m X cX, ← x1, ← x2, ← x3, ← x4, (A (nb m) (Nat.le_refl _)).1, en, ← hM]
theorem ck_ok (a : RA) (m : Nat) (hfx : Fit a.xs) (hfy : Fit a.ys) (h : CK a m) : kOk a = true := by
  obtain ⟨X, f, c, e⟩ := ck_kb a m hfx hfy h
  rw [e]
  exact (kB_ok m X f c).1
/-- What may be, is built of its row. -/
theorem ok_kb (a : RA) (h : kOk a = true) : ∃ m : Nat, kBN a = (m : Int) ∧ m ≤ 1048576 ∧ Fit (kBX a) ∧ chk (m : Int) (kBX a) = true ∧ a = kB m (kBX a) := by
  have c := kB_chk a h
  have f := kB_fit a
  have hr : rOk a.N a.k a.V a.M a.xs a.L a.ys a.S a.T = true := h
  obtain ⟨h0, _, _, h4⟩ := rOk_out _ _ _ _ _ _ _ _ _ hr
  obtain ⟨e1, e2, e3, e4, e5, e6, e7, e8, e9⟩ := rEq_out _ _ _ _ _ _ _ _ _ _ _ h4
  have n : kBN a = ((rwN (rDec a.N a.k a.V a.xs a.L a.ys) : Nat) : Int) := by unfold kBN rBN; rw [if_pos hr]
  have x : rwX (rDec a.N a.k a.V a.xs a.L a.ys) = kBX a := by unfold kBX rBX; rw [if_pos hr]
  rw [x] at e5 e6 e7 e8 e9
  refine ⟨rwN (rDec a.N a.k a.V a.xs a.L a.ys), n, by omega, f, by rw [← n]; exact c, ?_⟩
  generalize rwN (rDec a.N a.k a.V a.xs a.L a.ys) = m at *
  rw [n] at c
  rw [kb_is m _ c]
  generalize kBX a = X at *
  obtain ⟨N, k, V, M, xs, L, ys, S, T⟩ := a
  dsimp only at *
  subst e1 e2 e3 e4 e5 e6 e7 e8 e9
  rfl
/-- What is read in what is built. -/
theorem kb_read (m : Nat) (X : List Nat) (hm : m ≤ 1048576) (hk : chk (m : Int) X = true) :
    (∀ i, i < nb m → cls (rC m (bitAt X)) i = bcl m (bitAt X) i) ∧ (∀ i, i ≤ nb m → cAt (rC m (bitAt X)) i = bat m (bitAt X) i ∧ cOn (rC m (bitAt X)) i = bon m (bitAt X) i) ∧
    (∀ i, i < nb m → cSE (bat m (bitAt X) (nb m)) (rO m (bitAt X)) (rC m (bitAt X)) i = 0 ∧ cOff (bat m (bitAt X) (nb m)) (rO m (bitAt X)) (rC m (bitAt X)) i = bof m (bitAt X) i ∧ cWd (bat m (bitAt X) (nb m)) (rO m (bitAt X)) (rC m (bitAt X)) i = blv m (bitAt X) i) := by
  have C : ∀ i, i < nb m → cls (rC m (bitAt X)) i = bcl m (bitAt X) i := by
    intro i hi
    have := numAt_mk (bclP m (bitAt X) (nb m)) 4 (by decide) (bclP_lt m (bitAt X) (nb m)) i (by rw [length_bclP]; exact hi)
    rw [length_bclP, gt_bclP m (bitAt X) _ i hi] at this
    exact this
  have A : ∀ i, i ≤ nb m → cAt (rC m (bitAt X)) i = bat m (bitAt X) i ∧ cOn (rC m (bitAt X)) i = bon m (bitAt X) i := by
    intro i
    induction i with
    | zero => intro _; exact ⟨rfl, rfl⟩
    | succ i ih =>
      intro hi
      obtain ⟨h1, h2⟩ := ih (by omega)
      rw [bat, bon, cAt, cOn, h1, h2, bwd, C i (by omega)]
      exact ⟨rfl, rfl⟩
  refine ⟨C, A, fun i hi => ?_⟩
  have R := reads_row m (bitAt X) hm i hi
  rw [← fr_off, wdN_k _ (bcl_le _ _ _)] at R
  unfold cWd cSE cOff
  rw [C i hi, (A i (by omega)).1]
  refine ⟨R.1, R.2, ?_⟩
  have e : slcX (bat m (bitAt X) (nb m) : Int) (rO m (bitAt X)) (bat m (bitAt X) i : Int) (kwd (bcl m (bitAt X) i) : Int) = bof m (bitAt X) i := R.2
  rw [e]
  have := blk_off (blv m (bitAt X) i) 15
  unfold bcl bof
  rw [this, Nat.mod_eq_of_lt (blv_lt m (bitAt X) i)]
theorem kb_ck (m : Nat) (X : List Nat) (hm : m ≤ 1048576) (hk : chk (m : Int) X = true) : CK (kB m X) m := by
  obtain ⟨C, A, R⟩ := kb_read m X hm hk
  have hn := nb_le m hm
  have hb := bat_le m (bitAt X) (nb m)
  rw [kb_is m X hk]
  have i1 : ichk (nb m : Int) 4 ((nb m : Int) * 4) (rC m (bitAt X)) = true := by
    have := ichk_mk (bclP m (bitAt X) (nb m)) 4 (by decide) (by decide) (by rw [length_bclP]; omega)
    rw [length_bclP] at this
    unfold rC
    rw [show ((nb m : Int) * 4) = ((nb m * 4 : Nat) : Int) by omega]
    exact this
  have i2 : chk (bat m (bitAt X) (nb m) : Int) (rO m (bitAt X)) = true := by
    unfold rO
    rw [fr_off]
    exact chk_rowOf _ _ (by omega)
  have hg : 0 < gN m := by unfold gN; omega
  have gs : ∀ j, j < gN m → gi (rS m (bitAt X)) j = (bon m (bitAt X) (8 * j) : Int) := fun j hj => by unfold rS onL; rw [gi_map _ _ _ hj]
  have gt' : ∀ j, j < gN m → gi (rT m (bitAt X)) j = (bat m (bitAt X) (8 * j) : Int) := fun j hj => by unfold rT ptL; rw [gi_map _ _ _ hj]
  refine ⟨rfl, hm, rfl, rfl, i1, i2, by unfold rS; rw [length_onL], by unfold rT; rw [length_ptL], gs 0 hg, gt' 0 hg, ?_, ?_, ?_⟩
  · intro i hi
    dsimp only
    obtain ⟨r1, r2, _⟩ := R i hi
    refine ⟨r1, by rw [r2, C i hi]; exact bof_lt _ _ _, fun h8 => ?_⟩
    have hj : i / 8 < gN m := by unfold gN; omega
    rw [gs _ hj, gt' _ hj, show 8 * (i / 8) = i by omega, (A i (by omega)).1, (A i (by omega)).2]
    exact ⟨rfl, rfl⟩
  · dsimp only
    rw [(A (nb m) (Nat.le_refl _)).1]
  · intro h0
    dsimp only
    rw [(R (nb m - 1) (by omega)).2.2]
    unfold blv
    have hr : m - 15 * (nb m - 1) ≤ 15 := by unfold nb at h0 ⊢; omega
    have e : numOf 15 (fun k => decide (15 * (nb m - 1) + k < m) && bitAt X (15 * (nb m - 1) + k)) = numOf (m - 15 * (nb m - 1)) (fun k => decide (15 * (nb m - 1) + k < m) && bitAt X (15 * (nb m - 1) + k)) := by
      refine eq_numOf _ _ _ fun t => ?_
      rw [testBit_numOf]
      by_cases c : t < m - 15 * (nb m - 1)
      · simp [c, show t < 15 by omega]
      · simp [c, show ¬ 15 * (nb m - 1) + t < m by omega]
    rw [e]
    exact numOf_lt _ _
/-- Counts within a block. -/
theorem blv_cnt (m : Nat) (X : List Nat) (j : Nat) : ∀ r, r ≤ 15 → 15 * j + r ≤ m → cntB X (15 * j + r) = cntB X (15 * j) + cnt (blv m (bitAt X) j) r := by
  intro r
  induction r with
  | zero => intro _ _; rfl
  | succ r ih =>
    intro h1 h2
    have e := ih (by omega) (by omega)
    rw [show 15 * j + (r + 1) = 15 * j + r + 1 by omega, cntB, e, cnt]
    have t : (blv m (bitAt X) j).testBit r = bitAt X (15 * j + r) := by
      unfold blv
      rw [testBit_numOf]
      simp [show r < 15 by omega, show 15 * j + r < m by omega]
    rw [bit_test] at t
    rw [← t]
    have : (blv m (bitAt X) j / 2 ^ r % 2) < 2 := Nat.mod_lt _ (by decide)
    by_cases c : blv m (bitAt X) j / 2 ^ r % 2 = 1
    · simp [c]; omega
    · simp [c]; omega
theorem bon_cnt (m : Nat) (X : List Nat) : ∀ j, 15 * j ≤ m → bon m (bitAt X) j = cntB X (15 * j) := by
  intro j
  induction j with
  | zero => intro _; rfl
  | succ j ih =>
    intro h
    have e := blv_cnt m X j 15 (Nat.le_refl _) (by omega)
    rw [bon, ih (by omega), show 15 * (j + 1) = 15 * j + 15 by omega, e]
    rfl
/-- How many of i bits are bit, if so many are 1. -/
def obI (bit : Bool) (i n : Nat) : Nat := if bit then n else i - n
theorem cB_ob (X : List Nat) (bit : Bool) (i : Nat) : cB X bit i = obI bit i (cntB X i) := rfl
/-- The bits of block i that are bit, as a word. -/
def wbk (m : Nat) (X : List Nat) (bit : Bool) (i : Nat) : Nat := if bit then blv m (bitAt X) i else 18446744073709551615 - blv m (bitAt X) i
theorem wbk_cnt (m : Nat) (X : List Nat) (bit : Bool) (i r : Nat) (hr : r ≤ 15) (hm : 15 * i + r ≤ m) : cB X bit (15 * i + r) = cB X bit (15 * i) + cnt (wbk m X bit i) r := by
  have a := blv_cnt m X i r hr hm
  have l := cntB_le X (15 * i)
  have l2 := cnt_le (blv m (bitAt X) i) r
  have hb := blv_lt m (bitAt X) i
  unfold cB wbk
  cases bit with
  | true => simp only [if_true]; exact a
  | false =>
    have f := cnt_flip (blv m (bitAt X) i) r 64 (by omega) (by omega)
    rw [show (2 ^ 64 - 1 - blv m (bitAt X) i) = 18446744073709551615 - blv m (bitAt X) i by omega] at f
    simp only [Bool.false_eq_true, if_false]
    rw [a, f]
    omega
theorem wbk_bit (m : Nat) (X : List Nat) (bit : Bool) (i r : Nat) (hr : r < 15) (hm : 15 * i + r < m) (h : bitAt X (15 * i + r) = bit) : wbk m X bit i / 2 ^ r % 2 = 1 := by
  have a := wbk_cnt m X bit i r (by omega) (by omega)
  have b := wbk_cnt m X bit i (r + 1) (by omega) (by omega)
  have c := cB_succ X bit (15 * i + r)
  rw [if_pos h] at c
  rw [show 15 * i + (r + 1) = 15 * i + r + 1 by omega] at b
  simp only [cnt] at b
  have : (wbk m X bit i / 2 ^ r % 2) < 2 := Nat.mod_lt _ (by decide)
  revert b
  generalize wbk m X bit i / 2 ^ r % 2 = z at *
  intro b
  omega
/-- The place is in the block that is sought. -/
theorem sought_blk (m : Nat) (X : List Nat) (bit : Bool) (k i : Nat) (hk : k < cB X bit m) (hi : i < nb m) (h1 : cB X bit (15 * i) ≤ k) (h2 : k < cB X bit (15 * i) + obI bit 15 (bcl m (bitAt X) i)) :
    ∃ r : Nat, r < 15 ∧ selI (wbk m X bit i : Int) ((k : Int) - (cB X bit (15 * i) : Int)) = (r : Int) ∧ pselO (m : Int) X bit (k : Int) = some (15 * i + r) := by
  have hs : (pselO (m : Int) X bit (k : Int)).isSome = true := (psel_iff _ _ _ _).2 ⟨by omega, by rw [Int.toNat_natCast]; omega⟩
  obtain ⟨q, hq⟩ := Option.isSome_iff_exists.1 hs
  obtain ⟨g1, g2, g3⟩ := psel_spec _ _ _ _ _ hq
  rw [Int.toNat_natCast] at g1
  have e1 : 15 * i ≤ q := by
    apply Nat.le_of_not_lt
    intro c
    have a := cB_succ X bit q
    rw [if_pos g2] at a
    have b := cB_mono X bit (q + 1) (15 * i - (q + 1))
    rw [show q + 1 + (15 * i - (q + 1)) = 15 * i by omega] at b
    omega
  have e2 : q < 15 * (i + 1) := by
    apply Nat.lt_of_not_le
    intro c
    have w := wbk_cnt m X bit i 15 (Nat.le_refl _) (by omega)
    have b := cB_mono X bit (15 * i + 15) (q - (15 * i + 15))
    rw [show 15 * i + 15 + (q - (15 * i + 15)) = q by omega] at b
    have f : cnt (wbk m X bit i) 15 = obI bit 15 (bcl m (bitAt X) i) := by
      unfold wbk obI bcl
      cases bit with
      | true => rfl
      | false =>
        have hb := blv_lt m (bitAt X) i
        have f := cnt_flip (blv m (bitAt X) i) 15 64 (by omega) (by omega)
        rw [show (2 ^ 64 - 1 - blv m (bitAt X) i) = 18446744073709551615 - blv m (bitAt X) i by omega] at f
        exact f
    omega
  have ei : q = 15 * i + (q - 15 * i) := by omega
  refine ⟨q - 15 * i, by omega, ?_, by rw [← ei]; exact hq⟩
  have w1 := wbk_bit m X bit i (q - 15 * i) (by omega) (by omega) (by rw [← ei]; exact g2)
  have w2 := wbk_cnt m X bit i (q - 15 * i) (by omega) (by omega)
  rw [← ei] at w2
  unfold selI
  rw [Int.toNat_natCast]
  have := selGo_find (wbk m X bit i) ((k : Int) - (cB X bit (15 * i) : Int)) (q - 15 * i) w1 (by omega) (q - 15 * i) 0 (by omega) (by omega)
  rw [show 64 - 0 = 64 from rfl] at this
  rw [this]
end Go.Proofs.YtmphbnmcbonmmaaGreatDoor

namespace Go.Proofs.YtmphbnmcbonmmaaGreatDoor
open Go.RowKit Num Bn
namespace Ow
set_option linter.unusedVariables false
set_option linter.unusedSimpArgs false
set_option maxRecDepth 100000

theorem cel_wv {w : World} {g : Nat} {ys : List Nat} {T : TypeId} (h : Cel w g (wv ys) T) (j : Nat) (hj : j < ys.length) : w.cell? ⟨g, j, none⟩ = some (.int .u64 (gt ys j)) :=
  h.cell j (by simp [wv, gt_get ys j hj])
theorem cel_set {w : World} {g : Nat} {ys : List Nat} {T : TypeId} (h : Cel w g (wv ys) T) (j v : Nat) : Cel (w.setCell ⟨g, j, none⟩ (.int .u64 v)) g (wv (ys.set j v)) T := by
  have := h.set j (.int .u64 v)
  rwa [show (wv ys).set j (.int .u64 v) = wv (ys.set j v) by simp [wv, List.map_set]] at this
theorem pas_back (n i q : Nat) (hi : 1 ≤ i) (hq : q + 1 ≤ n) : (pas n i q).set (q + 1) (ch i (q + 1) - ch (i - 1) q) = pas n i (q + 1) := by
  refine list_ext (by rw [List.length_set, length_pas, length_pas]) fun t ht => ?_
  rw [List.length_set, length_pas] at ht
  rw [gt_set _ _ _ _ (by rw [length_pas]; omega), gt_pas _ _ _ _ (by omega), gt_pas _ _ _ _ (by omega)]
  by_cases c : q + 1 = t
  · subst c
    obtain ⟨a, rfl⟩ : ∃ a, i = a + 1 := ⟨i - 1, by omega⟩
    rw [if_pos rfl, if_neg (by omega), ch_succ, Nat.add_sub_cancel]
    omega
  · rw [if_neg c]
    by_cases d : q < t
    · rw [if_pos d, if_pos (by omega)]
    · rw [if_neg d, if_neg (by omega)]

set_option maxHeartbeats 2000000 in
theorem grow_c (g i : Nat) (hi : i < 62) (w : World) (h : Cel w g (wv (rowP 62 i)) 129) :
    Calls Tryz.prog 96 #[.pointer (some ⟨g, 0, none⟩), .int .i64 i] w fun e w' => e = .returned (.tuple #[]) ∧ Cel w' g (wv (rowP 62 (i + 1))) 129 ∧ Below g w w' := by
  go_enter Tryz.func96, Tryz.ntmps96
  go_wp2
  go_loopw [4] (fun j wz => ∃ q : Nat, q ≤ i + 1 ∧ j = .int .i64 q ∧ Cel wz g (wv (pas 62 (i + 1) q)) 129 ∧ Below g w wz) (fun j _ => (intOf j).toNat)
  case atStart => exact ⟨i + 1, Nat.le_refl _, by go_num, by rw [pas_first]; exact h, Below.refl _ _⟩
  case round =>
    obtain ⟨q, hq, rfl, hOz, hwz⟩ := hrel
    clear h
    by_cases h0 : q = 0
    · subst h0
      rw [pas_last] at hOz
      have HO : Hid (Cel wr g (wv (rowP 62 (i + 1))) 129) := hOz
      clear hOz
      go_wp2
      refine bodyPost_end (results_none rfl _ _ _) rfl ?_
      exact ⟨rfl, HO.out, hwz⟩
    · have q0 : (0 : Int) < (q : Int) := by omega
      have e1 := cel_wv hOz q (by rw [length_pas]; omega)
      have e2 := cel_wv hOz (q - 1) (by rw [length_pas]; omega)
      have fz := hOz.frozen q
      have l1 : (q : Int) < 63 := by omega
      have l2 : (q : Int) - 1 < 63 := by omega
      rw [gt_pas _ _ _ _ (by omega), if_neg (by omega), Nat.add_sub_cancel] at e1 e2
      have b1 := ch62 i q (by omega)
      have b2 := ch62 i (q - 1) (by omega)
      have st := cel_set hOz q (ch i q + ch i (q - 1))
      have ps := pas_step 62 (i + 1) q (by omega) (by omega) (by omega)
      rw [Nat.add_sub_cancel] at ps
      rw [ps] at st
      have HO : Hid (Cel (wr.setCell ⟨g, q, none⟩ (.int .u64 ((ch i q + ch i (q - 1) : Nat) : Int))).drew g (wv (pas 62 (i + 1) (q - 1))) 129) := st
      have HB : Hid (Below g w (wr.setCell ⟨g, q, none⟩ (.int .u64 ((ch i q + ch i (q - 1) : Nat) : Int))).drew) := (hwz.setCell (Nat.le_refl _) _).drew
      have ez : ((q : Int) - 1).toNat = q - 1 := by omega
      have ad : IntKind.u64.wrap ((ch i q : Int) + (ch i (q - 1) : Int)) = ((ch i q + ch i (q - 1) : Nat) : Int) := by rw [IntKind.wrap_u64]; omega
      clear st ps hOz
      generalize ch i q = A at *
      generalize ch i (q - 1) = B at *
      go_wp2
      go_region
      go_wp2
      exact ⟨⟨q - 1, by omega, by go_num, HO.out, HB.out⟩, by simp only [intOf]; omega⟩

set_option maxHeartbeats 2000000 in
theorem shrink_c (g i : Nat) (h1 : 1 ≤ i) (hi : i ≤ 62) (w : World) (h : Cel w g (wv (rowP 62 i)) 129) :
    Calls Tryz.prog 100 #[.pointer (some ⟨g, 0, none⟩), .int .i64 i] w fun e w' => e = .returned (.tuple #[]) ∧ Cel w' g (wv (rowP 62 (i - 1))) 129 ∧ Below g w w' := by
  go_enter Tryz.func100, Tryz.ntmps100
  go_wp2
  go_loopw [4] (fun j wz => ∃ q : Nat, q ≤ i ∧ j = .int .i64 ((q : Int) + 1) ∧ Cel wz g (wv (pas 62 i q)) 129 ∧ Below g w wz) (fun j _ => (i + 1 - intOf j).toNat)
  case atStart => exact ⟨0, Nat.zero_le _, by go_num, by rw [pas_last]; exact h, Below.refl _ _⟩
  case round =>
    obtain ⟨q, hq, rfl, hOz, hwz⟩ := hrel
    clear h
    by_cases h0 : q = i
    · subst h0
      rw [pas_first] at hOz
      have HO : Hid (Cel wr g (wv (rowP 62 (q - 1))) 129) := hOz
      clear hOz
      go_wp2
      refine bodyPost_end (results_none rfl _ _ _) rfl ?_
      exact ⟨rfl, HO.out, hwz⟩
    · have q0 : (q : Int) + 1 ≤ (i : Int) := by omega
      have e1 := cel_wv hOz (q + 1) (by rw [length_pas]; omega)
      have e2 := cel_wv hOz q (by rw [length_pas]; omega)
      have fz := hOz.frozen (q + 1)
      have l1 : (q : Int) + 1 < 63 := by omega
      have l2 : (q : Int) < 63 := by omega
      rw [gt_pas _ _ _ _ (by omega), if_pos (by omega)] at e1
      rw [gt_pas _ _ _ _ (by omega), if_neg (by omega)] at e2
      have b1 := ch62 i (q + 1) (by omega)
      have le : ch (i - 1) q ≤ ch i (q + 1) := by
        obtain ⟨a, rfl⟩ : ∃ a, i = a + 1 := ⟨i - 1, by omega⟩
        rw [ch_succ, Nat.add_sub_cancel]
        omega
      have st := cel_set hOz (q + 1) (ch i (q + 1) - ch (i - 1) q)
      rw [pas_back 62 i q h1 (by omega)] at st
      have HO : Hid (Cel (wr.setCell ⟨g, q + 1, none⟩ (.int .u64 ((ch i (q + 1) - ch (i - 1) q : Nat) : Int))).drew g (wv (pas 62 i (q + 1))) 129) := st
      have HB : Hid (Below g w (wr.setCell ⟨g, q + 1, none⟩ (.int .u64 ((ch i (q + 1) - ch (i - 1) q : Nat) : Int))).drew) := (hwz.setCell (Nat.le_refl _) _).drew
      have ez : ((q : Int) + 1).toNat = q + 1 := by omega
      have ad : IntKind.u64.wrap ((ch i (q + 1) : Int) - (ch (i - 1) q : Int)) = ((ch i (q + 1) - ch (i - 1) q : Nat) : Int) := by rw [IntKind.wrap_u64]; omega
      have ad2 : ((ch i (q + 1) : Int) - (ch (i - 1) q : Int)) = ((ch i (q + 1) - ch (i - 1) q : Nat) : Int) := by omega
      clear st hOz
      generalize ch i (q + 1) = A at *
      generalize ch (i - 1) q = B at *
      go_wp2
      go_region
      go_wp2
      exact ⟨⟨q + 1, by omega, by go_num, HO.out, HB.out⟩, by simp only [intOf]; omega⟩

theorem info_row : (Tryz.prog.info? 129).map (fun i => (i.zero, i.size)) = some (some (.agg (wv (List.replicate 63 0)).toArray), 63) := by kernel_rfl
theorem built_row : Tryz.prog.built 129 [(0, .int .u64 1)] = some (wv ((List.replicate 63 0).set 0 1)).toArray := by kernel_rfl
theorem one_wv (ys : List Nat) : (wv ys).toArray.all (·.oneCell') = true := by
  rw [Array.all_eq_true_iff_forall_mem]
  intro v hv
  simp only [wv, List.mem_toArray, List.mem_map] at hv
  obtain ⟨y, _, rfl⟩ := hv
  rfl
end Ow
end Go.Proofs.YtmphbnmcbonmmaaGreatDoor

namespace Go.Proofs.YtmphbnmcbonmmaaGreatDoor
open Go.RowKit Num Bn
namespace Ow
set_option linter.unusedVariables false
set_option linter.unusedSimpArgs false
set_option maxRecDepth 100000

theorem row_size (ys : List Nat) (h : ys.length = 63) : (Tryz.prog.info? 129).map (·.size) = some (wv ys).toArray.size := by
  rw [(zero_of_info info_row).2, List.size_toArray, length_wv, h]
theorem below_row (w : World) (g : Nat) (cs : Array Value) : Below g w (w.setRow g cs) := by
  refine ⟨rfl, rfl, rfl, ?_, fun k hk => ?_⟩
  · simp [World.setRow]
  · simp only [World.setRow, Array.getElem?_modify]
    rw [if_neg (by omega)]
theorem alloc_row {ops : Array Oper} {rest : List Oper} {d : Option Tmp} {ty : TypeId} {ps : String} {af : Array Edge} {a : Act} {w : World} {Q : Exit → Act → World → Prop}
    (h : ∀ w1, Cel w1 w.heap.size (wv (List.replicate 63 0)) 129 → Below w.heap.size w w1 → w.heap.size < w1.heap.size → wpList Tryz.prog ops Q rest (a.put d (.pointer (some ⟨w.heap.size, 0, none⟩))) w1) :
    wpList Tryz.prog ops Q (⟨d, .alloc 129, ty, ps, af, none⟩ :: rest) a w := by
  refine wpList_plain rfl fun K hK => ?_
  unfold Oper.wp execOp
  have z := (zero_of_info info_row).1
  have nw := h _ (Cel.new w _ _) (below_alloc w _) (by simp)
  refine cast ?_ (hK _ _ nw)
  simp [Instr.alloc, Sem.run_bind, z, newVar, Value.cells, go_sem]
theorem build_row {ops : Array Oper} {rest : List Oper} {d : Option Tmp} {ty : TypeId} {ps : String} {af : Array Edge} {a : Act} {w : World} {Q : Exit → Act → World → Prop}
    (h : wpList Tryz.prog ops Q rest (a.put d (.agg (wv (rowP 62 0)).toArray)) w) :
    wpList Tryz.prog ops Q (⟨d, .build 129 #[(0, .const (.int .u64 1))], ty, ps, af, none⟩ :: rest) a w := by
  have e : Tryz.prog.built 129 ((#[((0 : Nat), Operand.const (.int .u64 1))].map fun (i, x) => (i, a.eval x)).toList) = some (wv (rowP 62 0)).toArray := by
    rw [← row_start 62, ← built_row]
    congr 1
    simp
    rfl
  refine wpList_build rfl _ _ rfl (by rw [e]; rfl) ?_
  rw [e]
  exact h
theorem store_row {ops : Array Oper} {rest : List Oper} {d : Option Tmp} {ty : TypeId} {ps : String} {af : Array Edge} {a : Act} {w : World} {Q : Exit → Act → World → Prop} {x y : Operand}
    (g : Nat) (old ys : List Nat) (hx : a.eval x = .pointer (some ⟨g, 0, none⟩)) (hy : a.eval y = .agg (wv ys).toArray) (hc : Cel w g (wv old) 129) (lo : old.length = 63) (ly : ys.length = 63)
    (h : ∀ w1, Cel w1 g (wv ys) 129 → Below g w w1 → wpList Tryz.prog ops Q rest (a.put d undef) w1) :
    wpList Tryz.prog ops Q (⟨d, .store 129 x y, ty, ps, af, none⟩ :: rest) a w :=
  wpList_store_row rfl _ x y rfl g _ hx hy _ _ hc (row_size ys ly) (by simp [length_wv, lo, ly]) (one_wv ys) (h _ (setRow_heap w g _ _ _ _ hc) (below_row w g _))
theorem load_row {ops : Array Oper} {rest : List Oper} {d : Option Tmp} {ty : TypeId} {ps : String} {af : Array Edge} {a : Act} {w : World} {Q : Exit → Act → World → Prop} {x : Operand}
    (g : Nat) (ys : List Nat) (hx : a.eval x = .pointer (some ⟨g, 0, none⟩)) (hc : Cel w g (wv ys) 129) (ly : ys.length = 63)
    (h : wpList Tryz.prog ops Q rest (a.put d (.agg (wv ys).toArray)) w) :
    wpList Tryz.prog ops Q (⟨d, .load 129 x, ty, ps, af, none⟩ :: rest) a w :=
  wpList_load_row rfl _ x rfl g hx _ _ _ _ hc Tryz.underlying129 rfl (row_size ys ly) h

set_option maxHeartbeats 2000000 in
theorem rowOf_c (n : Nat) (hn : n ≤ 62) (w : World) :
    Calls Tryz.prog 95 #[.int .i64 n] w fun e w' => e = .returned (.agg (wv (rowP 62 n)).toArray) ∧ Below w.heap.size w w' := by
  have G : Hid (∀ (g i : Nat), i < 62 → ∀ w, Cel w g (wv (rowP 62 i)) 129 → Calls Tryz.prog 96 #[.pointer (some ⟨g, 0, none⟩), .int .i64 i] w fun e w' => e = .returned (.tuple #[]) ∧ Cel w' g (wv (rowP 62 (i + 1))) 129 ∧ Below g w w') := grow_c
  go_enter Tryz.func95, Tryz.ntmps95
  go_wp2_with (refine alloc_row ?_)
  intro w1 hc1 hb1 hs1
  go_wp2_with (first | refine build_row ?_ | refine alloc_row ?_)
  intro w2 hc2 hb2 hs2
  go_wp2_with (refine store_row w1.heap.size _ _ rfl rfl hc2 (by simp) (length_rowP 62 0) ?_)
  intro w3 hc3 hb3
  have hA : Below w.heap.size w w3 := (hb1.trans (hb2.mono (by omega))).trans (hb3.mono (by omega))
  have hR := (hc1.kept hb2).keep hb3 hs1
  have hlt : w.heap.size < w1.heap.size := hs1
  clear hc1 hb1 hs1 hc2 hb2 hs2 hb3 w2
  go_wp2
  generalize w1.heap.size = g at *
  go_loopw [4, 7] (fun _ s wr => ∃ i : Nat, i ≤ n ∧ s = .int .i64 i ∧ Cel wr g (wv (rowP 62 i)) 129 ∧ Cel wr w.heap.size (wv (List.replicate 63 0)) 129 ∧ Below w.heap.size w wr) (fun _ s _ => n - (intOf s).toNat)
  case atStart => exact ⟨0, Nat.zero_le _, rfl, hc3, hR, hA⟩
  case round =>
    obtain ⟨i, hin, rfl, hc, hr, hb⟩ := hrel
    clear hc3 hR hA
    by_cases hi : i < n
    · have hi2 : (i : Int) < (n : Int) := by omega
      go_wp2_with fail
      refine (G.out g i (by omega) _ hc).mono ?_
      rintro e w4 ⟨rfl, hc4, hb4⟩
      have hr4 := hr.keep hb4 hlt
      have hb5 := hb.trans (hb4.mono (by omega))
      clear hc hr hb hb4
      go_wp2
      exact ⟨⟨i + 1, by omega, by go_num, hc4, hr4, hb5⟩, by simp only [intOf]; omega⟩
    · obtain rfl : i = n := by omega
      have HB : Hid (Below w.heap.size w wr) := hb
      clear hb G
      go_wp2_with (first | refine load_row g _ rfl hc (length_rowP 62 i) ?_ | refine store_row w.heap.size _ _ rfl rfl hr (by simp) (length_rowP 62 i) ?_)
      intro w5 hc5 hb5
      have HC : Hid (Cel w5 w.heap.size (wv (rowP 62 i)) 129) := hc5
      have HB5 : Hid (Below w.heap.size w w5) := HB.out.trans hb5
      clear hc5 hb5 hc hr
      go_wp2
      (try simp only [Exit.inBlock, Exit.then])
      exact bodyPost_ret (results_cell_row rfl _ _ _ _ _ _ _ rfl HC.out Tryz.underlying129 rfl (row_size _ (length_rowP 62 i))) rfl ⟨rfl, HB5.out⟩
end Ow
end Go.Proofs.YtmphbnmcbonmmaaGreatDoor

namespace Go.Proofs.YtmphbnmcbonmmaaGreatDoor
open Go.RowKit Num Bn Ow
set_option linter.unusedVariables false
set_option linter.unusedSimpArgs false
set_option maxRecDepth 100000

theorem within_in (n : Int) (h0 : 0 ≤ n) (h1 : n ≤ 62) (w : World) :
    Calls Tryz.prog 94 #[.int .i64 n] w fun e w' => e = .returned (.bool true) ∧ w' = w := by
  go_enter Tryz.func94, Tryz.ntmps94
  go_wp2
  go_ret
  exact ⟨rfl, rfl⟩
theorem within_out (n : Int) (h : n < 0 ∨ 62 < n) (w : World) :
    Calls Tryz.prog 94 #[.int .i64 n] w fun e w' => e = .returned (.bool false) ∧ w' = w := by
  by_cases h0 : n < 0
  · go_enter Tryz.func94, Tryz.ntmps94
    go_wp2
    go_ret
    exact ⟨rfl, rfl⟩
  · have h1 : 62 < n := by omega
    have h2 : 0 ≤ n := by omega
    have h3 : ¬ n ≤ 62 := by omega
    clear h h0
    go_enter Tryz.func94, Tryz.ntmps94
    go_wp2
    go_ret
    exact ⟨rfl, rfl⟩

set_option maxHeartbeats 2000000 in
theorem choose_c (n k : Int) (hn : -9223372036854775808 ≤ n ∧ n ≤ 9223372036854775807) (hk : -9223372036854775808 ≤ k ∧ k ≤ 9223372036854775807) (w : World) :
    Calls Tryz.prog 86 #[.int .i64 n, .int .i64 k] w fun e w' => e = .returned (.int .u64 (chN n k)) ∧ Below w.heap.size w w' := by
  by_cases hw : n < 0 ∨ 62 < n
  · rw [show chN n k = 0 by unfold chN; rw [if_pos (by omega)]]
    have W : Hid (∀ w, Calls Tryz.prog 94 #[.int .i64 n] w fun e w' => e = .returned (.bool false) ∧ w' = w) := within_out n hw
    clear hw
    go_enter Tryz.func86, Tryz.ntmps86
    go_wp2_with fail
    refine (W.out _).mono ?_
    rintro e w1 ⟨rfl, hw1⟩
    rw [hw1]
    clear hw1 w1
    go_wp2
    go_ret
    exact ⟨rfl, Below.refl _ _⟩
  have W : Hid (∀ w, Calls Tryz.prog 94 #[.int .i64 n] w fun e w' => e = .returned (.bool true) ∧ w' = w) := within_in n (by omega) (by omega)
  by_cases h3 : k < 0
  · rw [show chN n k = 0 by unfold chN; rw [if_pos (by omega)]]
    go_enter Tryz.func86, Tryz.ntmps86
    go_wp2_with fail
    refine (W.out _).mono ?_
    rintro e w1 ⟨rfl, hw1⟩
    rw [hw1]
    clear hw1 w1
    go_wp2
    go_ret
    exact ⟨rfl, Below.refl _ _⟩
  by_cases h4 : n < k
  · rw [show chN n k = 0 by unfold chN; rw [if_pos (by omega)]]
    go_enter Tryz.func86, Tryz.ntmps86
    go_wp2_with fail
    refine (W.out _).mono ?_
    rintro e w1 ⟨rfl, hw1⟩
    rw [hw1]
    clear hw1 w1
    go_wp2
    go_ret
    exact ⟨rfl, Below.refl _ _⟩
  rw [show chN n k = ch n.toNat k.toNat by unfold chN; rw [if_neg (by omega)]]
  obtain ⟨a, rfl⟩ := Int.eq_ofNat_of_zero_le (show 0 ≤ n by omega)
  obtain ⟨b, rfl⟩ := Int.eq_ofNat_of_zero_le (show 0 ≤ k by omega)
  rw [Int.toNat_natCast, Int.toNat_natCast]
  have ha : a ≤ 62 := by omega
  have hba : b ≤ a := by omega
  have b63 : (b : Int) < 63 := by omega
  have R : Hid (∀ w, Calls Tryz.prog 95 #[.int .i64 a] w fun e w' => e = .returned (.agg (wv (rowP 62 a)).toArray) ∧ Below w.heap.size w w') := rowOf_c a ha
  clear hw
  go_enter Tryz.func86, Tryz.ntmps86
  go_wp2_with fail
  refine (W.out _).mono ?_
  rintro e w1 ⟨rfl, hw1⟩
  rw [hw1]
  clear hw1 w1 W
  go_wp2_with fail
  refine (R.out _).mono ?_
  rintro e w1 ⟨rfl, hb1⟩
  go_wp2_with (refine alloc_row ?_)
  intro w2 hc2 hb2 hs2
  go_wp2_with (refine store_row w1.heap.size _ _ rfl rfl hc2 (by simp) (length_rowP 62 a) ?_)
  intro w3 hc3 hb3
  have HB : Hid (Below w.heap.size w w3) := (hb1.trans (hb2.mono hb1.size)).trans (hb3.mono hb1.size)
  clear hb1 hc2 hb2 hs2 hb3 w2 R
  have e1 := cel_wv hc3 b (by rw [length_rowP]; omega)
  rw [gt_rowP _ _ _ (by omega)] at e1
  obtain ⟨Z, hZ⟩ : ∃ Z, Hid (Z = ch a b) := ⟨_, rfl⟩
  rw [← hZ.out] at e1
  clear hc3
  go_wp2
  go_ret
  rw [← hZ.out]
  exact ⟨rfl, HB.out⟩

end Go.Proofs.YtmphbnmcbonmmaaGreatDoor

namespace Go.Proofs.YtmphbnmcbonmmaaGreatDoor
open Go.RowKit Num Bn Ow
set_option linter.unusedVariables false
set_option linter.unusedSimpArgs false
set_option maxRecDepth 100000

set_option maxHeartbeats 2000000 in
theorem offset_c (x : Nat) (n : Int) (hx : x < 18446744073709551616) (hn : -9223372036854775808 ≤ n ∧ n ≤ 9223372036854775807) (w : World) :
    Calls Tryz.prog 82 #[.int .u64 x, .int .i64 n] w fun e w' => e = .returned (.tuple #[.int .i64 (ofK x n), .int .u64 (ofO x n)]) ∧ Below w.heap.size w w' := by
  by_cases hw : n < 0 ∨ 62 < n
  · rw [show ofK x n = 0 by unfold ofK; rw [if_pos hw], show ofO x n = 0 by unfold ofO; rw [if_pos hw]]
    have W : Hid (∀ w, Calls Tryz.prog 94 #[.int .i64 n] w fun e w' => e = .returned (.bool false) ∧ w' = w) := within_out n hw
    clear hw
    go_enter Tryz.func82, Tryz.ntmps82
    go_wp2_with fail
    refine (W.out _).mono ?_
    rintro e w1 ⟨rfl, hw1⟩
    rw [hw1]
    clear hw1 w1
    go_wp2
    go_ret2
    exact ⟨rfl, Below.refl _ _⟩
  have W : Hid (∀ w, Calls Tryz.prog 94 #[.int .i64 n] w fun e w' => e = .returned (.bool true) ∧ w' = w) := within_in n (by omega) (by omega)
  rw [show ofK x n = cnt x n.toNat by unfold ofK; rw [if_neg hw], show ofO x n = off x n.toNat by unfold ofO; rw [if_neg hw]]
  obtain ⟨m, rfl⟩ := Int.eq_ofNat_of_zero_le (show 0 ≤ n by omega)
  rw [Int.toNat_natCast]
  have hm : m ≤ 62 := by omega
  clear hw
  have R : Hid (∀ w, Calls Tryz.prog 95 #[.int .i64 0] w fun e w' => e = .returned (.agg (wv (rowP 62 0)).toArray) ∧ Below w.heap.size w w') := rowOf_c 0 (by omega)
  have G : Hid (∀ (g i : Nat), i < 62 → ∀ w, Cel w g (wv (rowP 62 i)) 129 → Calls Tryz.prog 96 #[.pointer (some ⟨g, 0, none⟩), .int .i64 i] w fun e w' => e = .returned (.tuple #[]) ∧ Cel w' g (wv (rowP 62 (i + 1))) 129 ∧ Below g w w') := grow_c
  have x0 : (0 : Int) ≤ (x : Int) := by omega
  go_enter Tryz.func82, Tryz.ntmps82
  go_wp2_with fail
  refine (W.out _).mono ?_
  rintro e w1 ⟨rfl, hw1⟩
  rw [hw1]
  clear hw1 w1 W
  go_wp2_with fail
  refine (R.out _).mono ?_
  rintro e w1 ⟨rfl, hb1⟩
  go_wp2_with (refine alloc_row ?_)
  intro w2 hc2 hb2 hs2
  go_wp2_with (refine store_row w1.heap.size _ _ rfl rfl hc2 (by simp) (length_rowP 62 0) ?_)
  intro w3 hc3 hb3
  have hB := (hb1.trans (hb2.mono hb1.size)).trans (hb3.mono hb1.size)
  have hg : w.heap.size ≤ w1.heap.size := hb1.size
  clear hb1 hc2 hb2 hs2 hb3 w2 R
  go_wp2
  generalize w1.heap.size = g at *
  clear w1
  go_loopw [6, 7, 9, 15] (fun c l _ i wr => ∃ p : Nat, p ≤ m ∧ i = .int .i64 p ∧ c = .int .i64 (cnt x p) ∧ l = .int .u64 (off x p) ∧ Cel wr g (wv (rowP 62 p)) 129 ∧ Below w.heap.size w wr) (fun _ _ _ i _ => m - (intOf i).toNat)
  case atStart => exact ⟨0, Nat.zero_le _, rfl, rfl, rfl, hc3, hB⟩
  case round =>
    obtain ⟨q, hq, rfl, rfl, rfl, hc, hb⟩ := hrel
    clear hc3 hB
    obtain ⟨c, hcq⟩ : ∃ c, Hid (c = cnt x q) := ⟨_, rfl⟩
    obtain ⟨O, hOq⟩ : ∃ O, Hid (O = off x q) := ⟨_, rfl⟩
    have c62 : c ≤ q := by rw [hcq.out]; exact cnt_le x q
    have lt := off_lt x q
    have l62 := ch62 q (cnt x q) (by omega)
    have bO : O < 4611686018427387904 := by rw [hOq.out]; omega
    rw [← hcq.out, ← hOq.out]
    clear lt l62
    by_cases hp : q < m
    · have hp2 : (q : Int) < (m : Int) := by omega
      have q64 : (q : Int) < 64 := by omega
      have D : Hid (∀ w, Cel w g (wv (rowP 62 q)) 129 → Calls Tryz.prog 96 #[.pointer (some ⟨g, 0, none⟩), .int .i64 q] w fun e w' => e = .returned (.tuple #[]) ∧ Cel w' g (wv (rowP 62 (q + 1))) 129 ∧ Below g w w') := G.out g q (by omega)
      by_cases hbit : x / 2 ^ q % 2 = 1
      · have T : bits .and .u64 ((x : Int) / 2 ^ q) 1 = 1 := by rw [bit_and _ _ x0 (by omega), Int.toNat_natCast, hbit]; rfl
        have ec : cnt x (q + 1) = c + 1 := by rw [cnt, hbit, hcq.out]
        have eo : off x (q + 1) = O + ch q (c + 1) := by rw [off, if_pos hbit, ec, hOq.out]
        have e1 := cel_wv hc (c + 1) (by rw [length_rowP]; omega)
        rw [gt_rowP _ _ _ (by omega)] at e1
        have b1 := ch62 q (c + 1) (by omega)
        have HC : Hid (cnt x (q + 1) = c + 1) := ec
        have l1 : (c : Int) + 1 < 63 := by omega
        have ez : ((c : Int) + 1).toNat = c + 1 := by omega
        generalize ch q (c + 1) = Z at *
        have HO : Hid (off x (q + 1) = O + Z) := eo
        clear ec eo
        have HCel : Hid (Cel wr g (wv (rowP 62 q)) 129) := hc
        clear hc G
        go_wp2_with fail
        refine (D.out _ HCel.out).mono ?_
        rintro e w4 ⟨rfl, hc4, hb4⟩
        have hb5 := hb.trans (hb4.mono hg)
        clear hb hb4 e1
        go_wp2
        exact ⟨⟨q + 1, by omega, by go_num, by rw [HC.out]; go_num, by rw [HO.out]; go_num, hc4, hb5⟩, by simp only [intOf]; omega⟩
      · have T : bits .and .u64 ((x : Int) / 2 ^ q) 1 = 0 := by rw [bit_and _ _ x0 (by omega), Int.toNat_natCast, show x / 2 ^ q % 2 = 0 by omega]; rfl
        have HC : Hid (cnt x (q + 1) = c) := by show _ = _; rw [cnt, hcq.out]; omega
        have HO : Hid (off x (q + 1) = O) := by show _ = _; rw [off, if_neg hbit, hOq.out, Nat.add_zero]
        have HCel : Hid (Cel wr g (wv (rowP 62 q)) 129) := hc
        clear hc G
        go_wp2_with fail
        refine (D.out _ HCel.out).mono ?_
        rintro e w4 ⟨rfl, hc4, hb4⟩
        have hb5 := hb.trans (hb4.mono hg)
        clear hb hb4
        go_wp2
        exact ⟨⟨q + 1, by omega, by go_num, by rw [HC.out], by rw [HO.out], hc4, hb5⟩, by simp only [intOf]; omega⟩
    · obtain rfl : q = m := by omega
      clear G
      go_wp2
      go_ret2
      rw [← hcq.out, ← hOq.out]
      exact ⟨rfl, hb⟩

set_option maxHeartbeats 2000000 in
theorem sought_c (a b o : Nat) (ha : a ≤ 62) (hba : b ≤ a) (ho : o < ch a b) (w : World) :
    Calls Tryz.prog 87 #[.int .i64 a, .int .i64 b, .int .u64 o] w fun e w' => e = .returned (.int .u64 (blk a b o)) ∧ Below w.heap.size w w' := by
  have R : Hid (∀ w, Calls Tryz.prog 95 #[.int .i64 a] w fun e w' => e = .returned (.agg (wv (rowP 62 a)).toArray) ∧ Below w.heap.size w w') := rowOf_c a ha
  have HSo : Hid (o < ch a b) := ho
  clear ho
  go_enter Tryz.func87, Tryz.ntmps87
  go_wp2_with fail
  go_step3
  go_wp2_with fail
  refine (R.out _).mono ?_
  rintro e w1 ⟨rfl, hb1⟩
  go_wp2_with (refine alloc_row ?_)
  intro w2 hc2 hb2 hs2
  go_wp2_with (refine store_row w1.heap.size _ _ rfl rfl hc2 (by simp) (length_rowP 62 a) ?_)
  intro w3 hc3 hb3
  have hB := (hb1.trans (hb2.mono hb1.size)).trans (hb3.mono hb1.size)
  have hg : w.heap.size ≤ w1.heap.size := hb1.size
  clear hb1 hc2 hb2 hs2 hb3 w2 R
  simp only [Act.put, List.setIfInBounds_toArray, List.set]
  go_wp2
  go_step3
  go_wp2
  generalize w1.heap.size = g at *
  clear w1
  go_loopw [1, 2, 7, 8] (fun kv ov xv pv wr => ∃ P K O X : Nat, P ≤ a ∧ K ≤ 62 ∧ kv = .int .i64 K ∧ ov = .int .u64 O ∧ xv = .int .u64 X ∧ pv = .int .i64 P ∧ Hid (O < ch P K ∧ X + blk P K O = blk a b o ∧ X % 2 ^ P = 0) ∧ Cel wr g (wv (rowP 62 P)) 129 ∧ Below w.heap.size w wr) (fun kv _ _ _ _ => (intOf kv).toNat)
  case atStart => exact ⟨a, b, o, 0, Nat.le_refl _, by omega, rfl, rfl, rfl, rfl, ⟨HSo.out, by omega, by simp⟩, hc3, hB⟩
  case round =>
    obtain ⟨P, K, O, X, hP, hK, rfl, rfl, rfl, rfl, hinv, hc, hb⟩ := hrel
    clear hc3 hB HSo
    by_cases hK0 : K = 0
    · subst hK0
      have HX : Hid (X = blk a b o) := by
        have := hinv.out.2.1
        rw [blk_zero] at this
        exact this
      clear hinv
      go_wp2
      (try rw [Exit.noGoto_ret])
      go_ret
      rw [← HX.out]
      exact ⟨rfl, hb⟩
    have hK1 : (0 : Int) < (K : Int) := by omega
    have hK2 : 0 < K := by omega
    have k63 : (K : Int) < 63 := by omega
    go_wp2
    go_loopw [2, 7, 8] (fun ov xv pv wz => ∃ P : Nat, P ≤ a ∧ ov = .int .u64 O ∧ xv = .int .u64 X ∧ pv = .int .i64 P ∧ Hid (O < ch P K ∧ X + blk P K O = blk a b o ∧ X % 2 ^ P = 0) ∧ Cel wz g (wv (rowP 62 P)) 129 ∧ Below w.heap.size w wz) (fun _ _ pv _ => (intOf pv).toNat)
    case atStart => exact ⟨P, hP, rfl, rfl, rfl, hinv, hc, hb⟩
    case round =>
      obtain ⟨Q, hQ, rfl, rfl, rfl, hin2, hcz, hbz⟩ := hrel
      clear hinv hc hb
      have Q0 : Q ≠ 0 := by
        intro e
        subst e
        have := hin2.out.1
        rw [ch_out 0 K (by omega)] at this
        omega
      obtain ⟨q, rfl⟩ : ∃ q, Q = q + 1 := ⟨Q - 1, by omega⟩
      have q0 : (0 : Int) < ((q + 1 : Nat) : Int) := by omega
      have S : Hid (∀ w, Cel w g (wv (rowP 62 (q + 1))) 129 → Calls Tryz.prog 100 #[.pointer (some ⟨g, 0, none⟩), .int .i64 ((q + 1 : Nat) : Int)] w fun e w' => e = .returned (.tuple #[]) ∧ Cel w' g (wv (rowP 62 q)) 129 ∧ Below g w w') := fun w h => shrink_c g (q + 1) (by omega) (by omega) w h
      have HCz : Hid (Cel wr g (wv (rowP 62 (q + 1))) 129) := hcz
      clear hcz
      go_wp2_with fail
      refine (S.out _ HCz.out).mono ?_
      rintro e w4 ⟨rfl, hc4, hb4⟩
      have hb5 := hbz.trans (hb4.mono hg)
      clear hbz hb4 HCz S
      have ez : ((q + 1 : Nat) : Int) = (q : Int) + 1 := by omega
      rw [ez]
      have q64 : (q : Int) < 64 := by omega
      have e1 := cel_wv hc4 K (by rw [length_rowP]; omega)
      rw [gt_rowP _ _ _ (by omega)] at e1
      have HC4 : Hid (Cel w4 g (wv (rowP 62 q)) 129) := hc4
      clear hc4
      obtain ⟨hlt, hX, hM⟩ := hin2.out
      clear hin2
      have bO : O < 4611686018427387904 := by have := ch62 (q + 1) K (by omega); omega
      have bX : X < 4611686018427387904 := by
        have := blk_lt a b o
        have : 2 ^ a ≤ 2 ^ 62 := Nat.pow_le_pow_right (by decide) ha
        omega
      by_cases hge : ch q K ≤ O
      · have H : Hid (O - ch q K < ch q (K - 1) ∧ X + 2 ^ q + blk q (K - 1) (O - ch q K) = blk a b o ∧ (X + 2 ^ q) % 2 ^ q = 0) := by
          refine ⟨?_, ?_, mod_plus X q hM⟩
          · obtain ⟨j, rfl⟩ : ∃ j, K = j + 1 := ⟨K - 1, by omega⟩
            rw [ch_succ] at hlt
            rw [Nat.add_sub_cancel]
            omega
          · rw [blk_hi q K O hK0 hge] at hX
            omega
        have HR : Hid (bits .or .u64 (X : Int) (IntKind.u64.wrap (2 ^ q)) = ((X + 2 ^ q : Nat) : Int)) := by
          show bits .or .u64 (X : Int) (IntKind.u64.wrap (2 ^ q)) = ((X + 2 ^ q : Nat) : Int)
          rw [shl_one q (by omega), u64_or_nat _ _ (by omega) (two_pow_lt q (by omega)), or_high X q hM]
        have hge2 : ((ch q K : Nat) : Int) ≤ (O : Int) := by omega
        clear hX hM hlt
        generalize ch q K = Z at *
        go_wp2
        exact ⟨⟨q, K - 1, O - Z, X + 2 ^ q, by omega, by omega, by go_num, by go_num, congrArg (Value.int .u64) HR.out, by go_num, H, HC4.out, hb5⟩, by simp only [intOf]; omega⟩
      · have H : Hid (O < ch q K ∧ X + blk q K O = blk a b o ∧ X % 2 ^ q = 0) := by
          refine ⟨by omega, ?_, mod_down X q hM⟩
          rw [blk_lo q K O hK0 hge] at hX
          exact hX
        have hge2 : ¬ ((ch q K : Nat) : Int) ≤ (O : Int) := by omega
        clear hX hM hlt
        generalize hZ : ch q K = Z at *
        go_wp2
        exact ⟨⟨q, by omega, rfl, rfl, by go_num, hZ ▸ H, HC4.out, hb5⟩, by simp only [intOf]; omega⟩

set_option maxHeartbeats 2000000 in
theorem block_c (n k : Int) (o : Nat) (hn : -9223372036854775808 ≤ n ∧ n ≤ 9223372036854775807) (hk : -9223372036854775808 ≤ k ∧ k ≤ 9223372036854775807) (ho : o < 18446744073709551616) (w : World) :
    Calls Tryz.prog 69 #[.int .i64 n, .int .i64 k, .int .u64 o] w fun e w' => e = .returned (.tuple #[.int .u64 (bkX n k o), .bool (bkB n k o)]) ∧ Below w.heap.size w w' := by
  have C : Hid (∀ w0, Calls Tryz.prog 86 #[.int .i64 n, .int .i64 k] w0 fun e w' => e = .returned (.int .u64 (chN n k)) ∧ Below w0.heap.size w0 w') := fun w0 => choose_c n k hn hk w0
  by_cases hc : chN n k ≤ o
  · rw [show bkX n k o = 0 by unfold bkX; rw [if_pos hc], show bkB n k o = false by unfold bkB; simp; omega]
    have hc2 : (chN n k : Int) ≤ (o : Int) := by omega
    generalize chN n k = Z at *
    go_enter Tryz.func69, Tryz.ntmps69
    go_wp2_with fail
    refine (C.out _).mono ?_
    rintro e w1 ⟨rfl, hb⟩
    go_wp2
    go_ret2
    exact ⟨rfl, hb⟩
  · have hin : ¬ (n < 0 ∨ 62 < n ∨ k < 0 ∨ n < k) := by
      intro h
      apply hc
      unfold chN
      rw [if_pos h]
      omega
    have eC : chN n k = ch n.toNat k.toNat := by unfold chN; rw [if_neg hin]
    rw [show bkX n k o = blk n.toNat k.toNat o by unfold bkX; rw [if_neg hc], show bkB n k o = true by unfold bkB; simp; omega]
    obtain ⟨a, rfl⟩ := Int.eq_ofNat_of_zero_le (show 0 ≤ n by omega)
    obtain ⟨b, rfl⟩ := Int.eq_ofNat_of_zero_le (show 0 ≤ k by omega)
    rw [Int.toNat_natCast, Int.toNat_natCast] at *
    have S : Hid (∀ w, Calls Tryz.prog 87 #[.int .i64 a, .int .i64 b, .int .u64 o] w fun e w' => e = .returned (.int .u64 (blk a b o)) ∧ Below w.heap.size w w') := sought_c a b o (by omega) (by omega) (by omega)
    have hc2 : ¬ ((chN a b : Nat) : Int) ≤ (o : Int) := by omega
    clear hin eC
    generalize chN a b = Z at *
    obtain ⟨B, hB⟩ : ∃ B, Hid (B = blk a b o) := ⟨_, rfl⟩
    rw [← hB.out] at S
    go_enter Tryz.func69, Tryz.ntmps69
    go_wp2_with fail
    refine (C.out _).mono ?_
    rintro e w1 ⟨rfl, hb⟩
    clear C
    go_wp2_with fail
    refine (S.out _).mono ?_
    rintro e w2 ⟨rfl, hb2⟩
    have hb3 := hb.trans (hb2.mono hb.size)
    clear S hb hb2
    go_wp2
    go_ret2
    rw [← hB.out]
    exact ⟨rfl, hb3⟩
end Go.Proofs.YtmphbnmcbonmmaaGreatDoor

namespace Go.Proofs.YtmphbnmcbonmmaaGreatDoor
open Go.RowKit
set_option linter.unusedVariables false

theorem load_obj {ops : Array Oper} {rest : List Oper} {d : Option Tmp} {ty T : TypeId} {ps : String} {af : Array Edge} {gd : Option (Nat × Bool)} {a : Act} {w : World} {Q : Exit → Act → World → Prop} {x : Operand}
    (g : Nat) (cs : List Value) {fs : Array Field} (hwn : Region.wanted (⟨d, .load T x, ty, ps, af, gd⟩ : Oper) (yielded ops a.tmps) = true) (hx : a.eval x = .pointer (some ⟨g, 0, none⟩)) (hc : Cel w g cs T) (hu : Tryz.prog.underlying T = some (.struct fs)) (hi : (Tryz.prog.info? T).map (·.size) = some cs.length)
    (h : wpList Tryz.prog ops Q rest (a.put d (.agg cs.toArray)) w) :
    wpList Tryz.prog ops Q (⟨d, .load T x, ty, ps, af, gd⟩ :: rest) a w :=
  wpList_step fun K hK => by
    rw [if_pos hwn]
    exact wp_load_row T x rfl g hx T cs.toArray (0, 0) _ hc hu rfl (by simpa using hi) (hK _ _ h)
theorem run_load_obj {T : TypeId} {w : World} {x : Operand} {ρ : Operand → Value} {d : Option Tmp} {ty : TypeId} {ps : String} {af : Array Edge} {gd : Option (Nat × Bool)}
    (g : Nat) (cs : List Value) {fs : Array Field} (hx : ρ x = .pointer (some ⟨g, 0, none⟩)) (hc : Cel w g cs T) (hu : Tryz.prog.underlying T = some (.struct fs)) (hi : (Tryz.prog.info? T).map (·.size) = some cs.length) :
    (execOp ρ (⟨d, .load T x, ty, ps, af, gd⟩ : Oper)).run Tryz.prog w = .ok (.value (.agg cs.toArray)) w := by
  have hl := run_loadVar_row (P := Tryz.prog) w g T T cs.toArray (0, 0) _ hc hu rfl (by simpa using hi)
  unfold execOp
  simp only [hx, Instr.loadAt, Instr.sureAddr, Sem.run_bind, Sem.run_pure, Result.andThen_ok, hl]
end Go.Proofs.YtmphbnmcbonmmaaGreatDoor

namespace Go.Proofs.YtmphbnmcbonmmaaGreatDoor
open Go.RowKit Num Bit Bn
set_option linter.unusedVariables false
set_option linter.unusedSimpArgs false
set_option maxRecDepth 100000

theorem qblocks_c (m : Nat) (hm : m ≤ 1048576) (w : World) :
    Calls Tryz.prog 54 #[.int .i64 m] w fun e w' => e = .returned (.int .i64 (nb m)) ∧ w' = w := by
  go_enter Tryz.func54, Tryz.ntmps54
  go_wp2
  go_ret
  exact ⟨ret_int (by unfold nb; omega), rfl⟩
theorem qgroups_c (n : Nat) (hn : n ≤ 1048576) (w : World) :
    Calls Tryz.prog 57 #[.int .i64 n] w fun e w' => e = .returned (.int .i64 ((max 1 n + 7) / 8 : Nat)) ∧ w' = w := by
  go_enter Tryz.func57, Tryz.ntmps57
  go_wp2
  · go_ret
    exact ⟨ret_int (by omega), rfl⟩
  · go_ret
    exact ⟨ret_int (by omega), rfl⟩
theorem qofBit_c (bit : Bool) (i n : Nat) (h : n ≤ i) (hi : i ≤ 2097152) (w : World) :
    Calls Tryz.prog 72 #[.bool bit, .int .i64 i, .int .i64 n] w fun e w' => e = .returned (.int .i64 (obI bit i n : Nat)) ∧ w' = w := by
  unfold obI
  cases bit with
  | true =>
    go_enter Tryz.func72, Tryz.ntmps72
    go_wp2
    go_ret
    exact ⟨rfl, rfl⟩
  | false =>
    go_enter Tryz.func72, Tryz.ntmps72
    go_wp2
    go_ret
    exact ⟨ret_int (by omega), rfl⟩
theorem qbehind_c (s p c wd o : Nat) (hs : s ≤ 16777216) (hp : p ≤ 16777216) (hc : c ≤ 15) (hw : wd ≤ 15) (w : World) :
    Calls Tryz.prog 58 #[.agg #[.int .i64 s, .int .i64 p], .agg #[.int .i64 c, .int .u64 o], .int .i64 wd] w fun e w' => e = .returned (.agg #[.int .i64 (s + c : Nat), .int .i64 (p + wd : Nat)]) ∧ Below w.heap.size w w' := by
  have e1 : IntKind.i64.wrap ((s : Int) + (c : Int)) = ((s + c : Nat) : Int) := by rw [IntKind.wrap_i64]; omega
  have e2 : IntKind.i64.wrap ((p : Int) + (wd : Int)) = ((p + wd : Nat) : Int) := by rw [IntKind.wrap_i64]; omega
  go_enter Tryz.func58, Tryz.ntmps58
  go_wp2
  refine bodyPost_ret (v := .agg #[.int .i64 (s + c : Nat), .int .i64 (p + wd : Nat)]) (by simp [results, Tryz.results58, go_sem]) rfl ⟨rfl, ?_⟩
  exact ((below_alloc w _).alloc (by simp) _).alloc (by simp; omega) _
theorem qwordOf_c (c o : Nat) (hc : c ≤ 15) (ho : o < ch 15 c) (w : World) :
    Calls Tryz.prog 38 #[.agg #[.int .i64 c, .int .u64 o]] w fun e w' => e = .returned (.int .u64 (blk 15 c o : Nat)) ∧ Below w.heap.size w w' := by
  have o62 := ch62 15 c (by decide)
  have e : chN (15 : Int) (c : Int) = ch 15 c := chN_in 15 c (by decide)
  have ex : bkX 15 (c : Int) o = blk 15 c o := by
    unfold bkX
    rw [e, if_neg (by omega)]
    rfl
  have C : Hid (∀ w0, Calls Tryz.prog 69 #[.int .i64 15, .int .i64 (c : Int), .int .u64 o] w0 fun e w' => e = .returned (.tuple #[.int .u64 (blk 15 c o : Nat), .bool (bkB 15 c o)]) ∧ Below w0.heap.size w0 w') := fun w0 => by
    have := block_c 15 (c : Int) o (by decide) (by omega) (by omega) w0
    rw [ex] at this
    exact this
  generalize blk 15 c o = X at *
  generalize bkB 15 (c : Int) o = Y at *
  go_enter Tryz.func38, Tryz.ntmps38
  go_wp2_with fail
  refine (C.out _).mono ?_
  rintro e w1 ⟨rfl, hb⟩
  have hw1 : Below w.heap.size w w1 := (below_alloc w _).trans (hb.mono (by simp))
  clear hb
  go_wp2
  go_ret
  exact ⟨rfl, hw1⟩
theorem qblockOf_c (x : Nat) (hx : x < 18446744073709551616) (w : World) :
    Calls Tryz.prog 56 #[.int .u64 x] w fun e w' => e = .returned (.agg #[.int .i64 (cnt x 15 : Nat), .int .u64 (off x 15 : Nat)]) ∧ Below w.heap.size w w' := by
  have C : Hid (∀ w0, Calls Tryz.prog 82 #[.int .u64 x, .int .i64 15] w0 fun e w' => e = .returned (.tuple #[.int .i64 (cnt x 15 : Nat), .int .u64 (off x 15 : Nat)]) ∧ Below w0.heap.size w0 w') := fun w0 => offset_c x 15 hx (by decide) w0
  generalize cnt x 15 = X at *
  generalize off x 15 = Y at *
  obtain ⟨W, hW⟩ : ∃ W, W = w.alloc (.cells #[.int .i64 0, .int .u64 0] 74) := ⟨_, rfl⟩
  have bW : Below w.heap.size w W := by rw [hW]; exact below_alloc w _
  have B1 : Cel W w.heap.size [.int .i64 0, .int .u64 0] 74 := by rw [hW]; exact Cel.new w _ _
  go_enter Tryz.func56, Tryz.ntmps56
  go_wp2_with fail
  rw [← hW]
  refine (C.out _).mono ?_
  rintro e w1 ⟨rfl, hb⟩
  have hw1 := bW.trans (hb.mono bW.size)
  replace B1 := B1.kept hb
  have f0 := B1.frozen 0
  have f1 := B1.frozen 1
  have c0 := B1.cell 0 rfl
  have c1 := B1.cell 1 rfl
  clear hb hW C
  go_wp2
  refine bodyPost_ret (v := .agg #[.int .i64 (X : Nat), .int .u64 (Y : Nat)]) (by simp [results, Tryz.results56, go_sem, c0, c1]) rfl ⟨rfl, ?_⟩
  exact (hw1.setCell (by simp) _).setCell (by simp) _

theorem qlay_c (ys : List Nat) (g cap p x : Nat) (w : World) (hO : Own w g ys) (hp : p ≤ 2097152) (hf : Fit ys) (hx : x < 18446744073709551616)
    (hR : Room ys p x) :
    Calls Tryz.prog 52 #[.slice (some ⟨g, 0, none⟩) ys.length cap, .int .i64 p, .int .u64 x] w fun e w' => e = .returned (.tuple #[]) ∧ Own w' g (putL ys p x) ∧ Turned g w w' := by
  obtain ⟨h1, h2⟩ := hR
  by_cases c1 : x * 2 ^ (p % 64) % 18446744073709551616 = 0
  · by_cases c2 : x / 2 ^ (64 - p % 64) = 0
    · have A : (IntKind.u64.wrap ((x : Int) * 2 ^ (p % 64)) != 0) = false := by rw [shl_nat, bne0]; simpa using c1
      have B : ((x : Int) / 2 ^ (64 - p % 64) != 0) = false := by rw [shr_cast, bne0]; simpa using c2
      have R : Hid (putL ys p x = ys) := by
        unfold putL Hid
        simp only [if_pos c1, if_pos c2]

      have S1 := trivial
      have S2 := trivial
      have S3 : Hid (True) := S1
      have S4 : Hid (True) := S2
      clear h1 h2 c1 c2 S1 S2
      go_enter Tryz.func52, Tryz.ntmps52
      go_wp2
      go_end0
      rw [R.out]
      exact ⟨rfl, hO, Turned.refl _ _⟩
    · have l2 := h2 c2
      have l2' : (p : Int) / 64 + 1 < (ys.length : Int) := by omega
      have e2 := hO.cell (p / 64 + 1) l2
      have f2 := hO.frozen (p / 64 + 1)
      have A : (IntKind.u64.wrap ((x : Int) * 2 ^ (p % 64)) != 0) = false := by rw [shl_nat, bne0]; simpa using c1
      have B : ((x : Int) / 2 ^ (64 - p % 64) != 0) = true := by rw [shr_cast, bne0]; simpa using c2
      have R : Hid (putL ys p x = (ys.set (p / 64 + 1) (gt ys (p / 64 + 1) ||| x / 2 ^ (64 - p % 64)))) := by
        unfold putL Hid
        simp only [if_pos c1, if_neg c2]

      have S1 := trivial
      have S2 := u64_or_nat (gt ys (p / 64 + 1)) _ (hf _) (Nat.lt_of_le_of_lt (Nat.div_le_self x (2 ^ (64 - p % 64))) hx)
      have S3 : Hid (True) := S1
      have S4 : Hid (bits .or .u64 (gt ys (p / 64 + 1) : Int) ((x / 2 ^ (64 - p % 64) : Nat) : Int) = ((gt ys (p / 64 + 1) ||| x / 2 ^ (64 - p % 64) : Nat) : Int)) := S2
      clear h1 h2 c1 c2 S1 S2
      go_enter Tryz.func52, Tryz.ntmps52
      go_wp2
      go_end0
      rw [R.out, shr_cast, S4.out]
      exact ⟨rfl, hO.set _ _, (Turned.refl _ _).set _ _⟩
  · by_cases c2 : x / 2 ^ (64 - p % 64) = 0
    · have l1 := h1 c1
      have l1' : (p : Int) / 64 < (ys.length : Int) := by omega
      have e1 := hO.cell (p / 64) l1
      have f1 := hO.frozen (p / 64)
      have A : (IntKind.u64.wrap ((x : Int) * 2 ^ (p % 64)) != 0) = true := by rw [shl_nat, bne0]; simpa using c1
      have B : ((x : Int) / 2 ^ (64 - p % 64) != 0) = false := by rw [shr_cast, bne0]; simpa using c2
      have R : Hid (putL ys p x = (ys.set (p / 64) (gt ys (p / 64) ||| x * 2 ^ (p % 64) % 18446744073709551616))) := by
        unfold putL Hid
        simp only [if_neg c1, if_pos c2]

      have S1 := u64_or_nat (gt ys (p / 64)) _ (hf _) (Nat.mod_lt (x * 2 ^ (p % 64)) (show 0 < 18446744073709551616 by decide))
      have S2 := trivial
      have S3 : Hid (bits .or .u64 (gt ys (p / 64) : Int) ((x * 2 ^ (p % 64) % 18446744073709551616 : Nat) : Int) = ((gt ys (p / 64) ||| x * 2 ^ (p % 64) % 18446744073709551616 : Nat) : Int)) := S1
      have S4 : Hid (True) := S2
      clear h1 h2 c1 c2 S1 S2
      go_enter Tryz.func52, Tryz.ntmps52
      go_wp2
      go_end0
      rw [R.out, shl_nat, S3.out]
      exact ⟨rfl, hO.set _ _, (Turned.refl _ _).set _ _⟩
    · have l1 := h1 c1
      have l1' : (p : Int) / 64 < (ys.length : Int) := by omega
      have e1 := hO.cell (p / 64) l1
      have f1 := hO.frozen (p / 64)
      have l2 := h2 c2
      have l2' : (p : Int) / 64 + 1 < (ys.length : Int) := by omega
      have e2 := hO.cell (p / 64 + 1) l2
      have f2 := hO.frozen (p / 64 + 1)
      have A : (IntKind.u64.wrap ((x : Int) * 2 ^ (p % 64)) != 0) = true := by rw [shl_nat, bne0]; simpa using c1
      have B : ((x : Int) / 2 ^ (64 - p % 64) != 0) = true := by rw [shr_cast, bne0]; simpa using c2
      have R : Hid (putL ys p x = ((ys.set (p / 64) (gt ys (p / 64) ||| x * 2 ^ (p % 64) % 18446744073709551616)).set (p / 64 + 1) (gt ys (p / 64 + 1) ||| x / 2 ^ (64 - p % 64)))) := by
        unfold putL Hid
        simp only [if_neg c1, if_neg c2]
        rw [gt_set ys _ _ _ l1, if_neg (by omega)]
      have S1 := u64_or_nat (gt ys (p / 64)) _ (hf _) (Nat.mod_lt (x * 2 ^ (p % 64)) (show 0 < 18446744073709551616 by decide))
      have S2 := u64_or_nat (gt ys (p / 64 + 1)) _ (hf _) (Nat.lt_of_le_of_lt (Nat.div_le_self x (2 ^ (64 - p % 64))) hx)
      have S3 : Hid (bits .or .u64 (gt ys (p / 64) : Int) ((x * 2 ^ (p % 64) % 18446744073709551616 : Nat) : Int) = ((gt ys (p / 64) ||| x * 2 ^ (p % 64) % 18446744073709551616 : Nat) : Int)) := S1
      have S4 : Hid (bits .or .u64 (gt ys (p / 64 + 1) : Int) ((x / 2 ^ (64 - p % 64) : Nat) : Int) = ((gt ys (p / 64 + 1) ||| x / 2 ^ (64 - p % 64) : Nat) : Int)) := S2
      clear h1 h2 c1 c2 S1 S2
      go_enter Tryz.func52, Tryz.ntmps52
      go_wp2
      go_end0
      rw [R.out, shl_nat, S3.out, shr_cast, S4.out]
      exact ⟨rfl, (hO.set _ _).set _ _, ((Turned.refl _ _).set _ _).set _ _⟩

theorem qlay_l (ys : List Nat) (l g cap p x : Nat) (w : World) (hl : ys.length = l) (hO : Own w g ys) (hp : p ≤ 2097152) (hf : Fit ys) (hx : x < 18446744073709551616) (hR : Room ys p x) :
    Calls Tryz.prog 52 #[.slice (some ⟨g, 0, none⟩) l cap, .int .i64 p, .int .u64 x] w fun e w' => e = .returned (.tuple #[]) ∧ Own w' g (putL ys p x) ∧ Turned g w w' := by
  subst hl
  exact qlay_c ys g cap p x w hO hp hf hx hR
theorem qwithin_c (c o n : Nat) (hc : c ≤ 15) (ho : o < ch 15 c) (hn : n ≤ 64) (w : World) :
    Calls Tryz.prog 49 #[.agg #[.int .i64 c, .int .u64 o], .int .i64 n] w fun e w' => e = .returned (.agg #[.int .i64 (cnt (blk 15 c o % 2 ^ n) 15 : Nat), .int .u64 (off (blk 15 c o % 2 ^ n) 15 : Nat)]) ∧ Below w.heap.size w w' := by
  have C1 : Hid (∀ w0, Calls Tryz.prog 38 #[.agg #[.int .i64 c, .int .u64 o]] w0 fun e w' => e = .returned (.int .u64 (blk 15 c o : Nat)) ∧ Below w0.heap.size w0 w') := fun w0 => qwordOf_c c o hc ho w0
  have hb0 := blk_lt 15 c o
  have C2 : Hid (∀ w0, Calls Tryz.prog 80 #[.int .i64 n] w0 fun e w' => e = .returned (.int .u64 ((2 ^ n - 1 : Nat) : Int)) ∧ w' = w0) := fun w0 => mask_n n _ (mask_is n hn) w0
  have p64 := Nat.pow_le_pow_right (n := 2) (by decide) hn
  have A : Hid (bits .and .u64 ((blk 15 c o : Nat) : Int) ((2 ^ n - 1 : Nat) : Int) = ((blk 15 c o % 2 ^ n : Nat) : Int)) := by
    show bits .and .u64 ((blk 15 c o : Nat) : Int) ((2 ^ n - 1 : Nat) : Int) = _
    rw [u64_and_nat _ _ (by omega) (by omega), Nat.and_two_pow_sub_one_eq_mod]
  have hmod := Nat.mod_le (blk 15 c o) (2 ^ n)
  have C3 : Hid (∀ w0, Calls Tryz.prog 56 #[.int .u64 ((blk 15 c o % 2 ^ n : Nat) : Int)] w0 fun e w' => e = .returned (.agg #[.int .i64 (cnt (blk 15 c o % 2 ^ n) 15 : Nat), .int .u64 (off (blk 15 c o % 2 ^ n) 15 : Nat)]) ∧ Below w0.heap.size w0 w') := fun w0 => qblockOf_c _ (by omega) w0
  generalize blk 15 c o = X at *
  generalize X % 2 ^ n = Y at *
  generalize 2 ^ n - 1 = M at *
  generalize cnt Y 15 = K at *
  generalize off Y 15 = O at *
  obtain ⟨W, hW⟩ : ∃ W, W = (w.alloc (.cells #[.int .i64 c, .int .u64 o] 74)).alloc (.cells #[.int .i64 0, .int .u64 0] 74) := ⟨_, rfl⟩
  have bW : Below w.heap.size w W := by rw [hW]; exact (below_alloc w _).alloc (by simp) _
  have B1 : Cel W (w.heap.size + 1) [.int .i64 0, .int .u64 0] 74 := by rw [hW]; exact Cel.new2 w _ _ _
  clear hmod p64 hb0
  go_enter Tryz.func49, Tryz.ntmps49
  go_wp2_with fail
  rw [← hW]
  refine (C1.out _).mono ?_
  rintro e w1 ⟨rfl, hb⟩
  have hw1 := bW.trans (hb.mono bW.size)
  replace B1 := B1.kept hb
  clear hb hW
  go_wp2_with fail
  refine (C2.out _).mono ?_
  rintro e w2 ⟨rfl, rfl⟩
  go_wp2_with fail
  rw [A.out]
  refine (C3.out _).mono ?_
  rintro e w3 ⟨rfl, hb⟩
  have hw3 := hw1.trans (hb.mono hw1.size)
  replace B1 := B1.kept hb
  have f0 := B1.frozen 0
  have f1 := B1.frozen 1
  have c0 := B1.cell 0 rfl
  have c1 := B1.cell 1 rfl
  clear hb C1 C2 C3 A
  go_wp2
  refine bodyPost_ret (v := .agg #[.int .i64 (K : Nat), .int .u64 (O : Nat)]) (by simp [results, Tryz.results49, go_sem, c0, c1]) rfl ⟨rfl, ?_⟩
  exact (hw3.setCell (by simp) _).setCell (by simp) _
theorem qnoughts_c (n k : Nat) (hn : n ≤ 1048576) (hk : k = (n + 63) / 64) (w : World) :
    Calls Tryz.prog 50 #[.int .i64 n] w fun e w' => ∃ g, e = .returned (.agg #[.int .i64 n, .slice (some ⟨g, 0, none⟩) k k]) ∧ w.heap.size ≤ g ∧ Own w' g (rowOf n fun _ => false) ∧ Below w.heap.size w w' := by
  rw [← rep_row n k hk]
  have C : Hid (∀ w0, Calls Tryz.prog 81 #[.int .i64 n] w0 fun e w' => ∃ g, e = .returned (.tuple #[.agg #[.int .i64 n, .slice (some ⟨g, 0, none⟩) k k], .int .i64 0]) ∧ w0.heap.size ≤ g ∧ g < w'.heap.size ∧ Own w' g (List.replicate k 0) ∧ Below w0.heap.size w0 w') := fun w0 => new_ok n k w0 (by omega) (by omega) (by omega)
  obtain ⟨W, hW⟩ : ∃ W, W = w.alloc (.cells #[.int .i64 0, .slice none 0 0] 24) := ⟨_, rfl⟩
  have bW : Below w.heap.size w W := by rw [hW]; exact below_alloc w _
  have B1 : Cel W w.heap.size [.int .i64 0, .slice none 0 0] 24 := by rw [hW]; exact Cel.new w _ _
  have zW : W.heap.size = w.heap.size + 1 := by rw [hW]; simp
  clear hk
  go_enter Tryz.func50, Tryz.ntmps50
  go_wp2_with fail
  rw [← hW]
  refine (C.out _).mono ?_
  rintro e w1 ⟨g, rfl, hg1, hg2, hO, hb⟩
  have hw1 := bW.trans (hb.mono bW.size)
  replace B1 := B1.kept hb
  have f0 := B1.frozen 0
  have f1 := B1.frozen 1
  have c0 := B1.cell 0 rfl
  have c1 := B1.cell 1 rfl
  have hlt := B1.lt
  clear hb C hW
  have HO : Hid (Own w1 g (List.replicate k 0)) := hO
  clear hO
  go_wp2
  refine bodyPost_ret (result_cel1 rfl w.heap.size [.int .i64 (n : Nat), .slice (some ⟨g, 0, none⟩) k k] rfl (((B1.set 0 _).set 1 _).alloc _) Tryz.underlying24 r8info_b) rfl ⟨g, rfl, by omega, ?_, ?_⟩
  · refine Own.keep (Own.set_other (Own.set_other HO.out ?_ _) ?_ _) (below_alloc _ _)
    · simp; omega
    · simp; omega
  · refine Below.alloc (Below.setCell (Below.setCell hw1 ?_ _) ?_ _) ?_ _
    · simp
    · simp
    · simp; omega
end Go.Proofs.YtmphbnmcbonmmaaGreatDoor
