/-
  Rows in blocks as objects: their cells are not looked into but here. The contracts of the document's functions over them. Plain arithmetic of rows of bits by the places of those that are 1 (Elias and Fano): the places, their lowest bits, the others in unary; and the way back. Nothing of the program is in here. Elias and Fano: what is built of places, and the way back: plain. Plain: a word's bits that are 1, the lowest one first: which one it is, and what is left of the word.
-/
import Derived.Test.YtcaalcjcpddhaaaGreatS40
set_option linter.unusedVariables false
set_option linter.unusedSimpArgs false
set_option maxRecDepth 100000
namespace Go.Proofs.YtcaalcjcpddhaaaGreat
open Go.RowKit Num Bit Bn
structure RA8 where
 N : Int
 k : Int
 V : Int
 M : Int
 xs : List Nat
 L : Int
 ys : List Nat
 S : List Int
 T : List Int
def KArg8 (w : World) (cs : List Value) (a : RA8) : Prop := ∃ ao cap qo dap so sc tO tc, cs = [.int .i64 a.N, .int .i64 a.k, .int .i64 a.V, .int .i64 a.M, .slice ao a.xs.length cap, .int .i64 a.L, .slice qo a.ys.length dap, .slice so a.S.length sc, .slice tO a.T.length tc] ∧ (I64 a.N ∧ I64 a.k ∧ I64 a.V ∧ I64 a.M ∧ I64 a.L ∧ FitI a.S ∧ FitI a.T) ∧ Wd w ao a.xs ∧ Fit a.xs ∧ a.xs.length ≤ cap ∧ Wd w qo a.ys ∧ Fit a.ys ∧ a.ys.length ≤ dap ∧ Nd w so a.S ∧ a.S.length ≤ sc ∧ Nd w tO a.T ∧ a.T.length ≤ tc
structure KI8 (w : World) (cs : List Value) (a : RA8) : Prop where
 arg : KArg8 w cs a
 xl : a.xs.length ≤ 1048576
 yl : a.ys.length ≤ 1048576
 sl : a.S.length ≤ 1048576
 tl : a.T.length ≤ 1048576
 gv : GV w
theorem KArg8.keep {w w' : World} {cs : List Value} {a : RA8} (h : KArg8 w cs a) (hb : Below w.heap.size w w') : KArg8 w' cs a := by
 obtain ⟨ao, cap, qo, dap, so, sc, tO, tc, e, f, a1, a2, a3, a4, a5, a6, a7, a8, a9, a10⟩ := h
 exact ⟨ao, cap, qo, dap, so, sc, tO, tc, e, f, a1.keep hb, a2, a3, a4.keep hb, a5, a6, a7.keep hb, a8, a9.keep hb, a10⟩
theorem KI8.keep {w w' : World} {cs : List Value} {a : RA8} (h : KI8 w cs a) (hb : Below w.heap.size w w') : KI8 w' cs a := ⟨h.arg.keep hb, h.xl, h.yl, h.sl, h.tl, h.gv.keep hb⟩
theorem KArg8.len {w : World} {cs : List Value} {a : RA8} (h : KArg8 w cs a) : (Tryz.prog.info? 32).map (·.size) = some cs.length := by
 obtain ⟨ao, cap, qo, dap, so, sc, tO, tc, rfl, _⟩ := h
 exact info_r9
theorem KArg8.nine {w : World} {cs : List Value} {a : RA8} (h : KArg8 w cs a) : 9 = cs.length := by
 obtain ⟨ao, cap, qo, dap, so, sc, tO, tc, rfl, _⟩ := h
 rfl
theorem KArg8.one {w : World} {cs : List Value} {a : RA8} (h : KArg8 w cs a) : cs.toArray.all (·.oneCell') = true := by
 obtain ⟨ao, cap, qo, dap, so, sc, tO, tc, rfl, _⟩ := h
 simp [Value.oneCell']
def kOk8 (a : RA8) : Bool := rOk a.N a.k a.V a.M a.xs a.L a.ys a.S a.T
def kBN8 (a : RA8) : Int := rBN a.N a.k a.V a.M a.xs a.L a.ys a.S a.T
def kBX8 (a : RA8) : List Nat := rBX a.N a.k a.V a.M a.xs a.L a.ys a.S a.T
def kZ8 (a : RA8) : Int := rzN a.N a.k a.V a.M a.xs a.L a.ys a.S a.T
def kB8 (N : Int) (xs : List Nat) : RA8 := ⟨rbN N xs, rbK N xs, rbV N xs, rbM N xs, rbC N xs, rbL N xs, rbO N xs, rbS N xs, rbT N xs⟩
def kE8 (N : Int) (xs : List Nat) : Int := rbE N xs
theorem kB_chk8 (a : RA8) (h : kOk8 a = true) : chk (kBN8 a) (kBX8 a) = true := rB_chk _ _ _ _ _ _ _ _ _ h
theorem kB_fit8 (a : RA8) : Fit (kBX8 a) := rB_fit _ _ _ _ _ _ _ _ _
theorem KI8.rin {w : World} {a : RA8} {ao : Option Addr} {cap : Nat} {qo : Option Addr} {dap : Nat} {so : Option Addr} {sc : Nat} {tO : Option Addr} {tc : Nat} (xl : a.S.length ≤ 1048576) (yl : a.T.length ≤ 1048576) (h1 : Wd w ao a.xs) (h2 : Fit a.xs) (h3 : a.xs.length ≤ cap) (h4 : Wd w qo a.ys) (h5 : Fit a.ys) (h6 : a.ys.length ≤ dap) (h7 : Nd w so a.S) (h8 : a.S.length ≤ sc) (h9 : Nd w tO a.T) (h10 : a.T.length ≤ tc) : RIn w a.N a.k a.V a.M ao a.xs cap a.L qo a.ys dap so a.S sc tO a.T tc :=
 ⟨h1, h2, h3, h4, h5, h6, h7, xl, h8, h9, yl, h10⟩
theorem r8whole_k (cs : List Value) (a : RA8) (w : World) (h : KI8 w cs a) :
  Calls Tryz.prog 70 #[.agg cs.toArray] w fun e w' => ∃ bo bc, e = .returned (.tuple #[.agg #[.int .i64 (kBN8 a), .slice bo (kBX8 a).length bc], .bool (kOk8 a)]) ∧ Wd w' bo (kBX8 a) ∧ (kBX8 a).length ≤ bc ∧ Below w.heap.size w w' := by
 obtain ⟨⟨ao, cap, qo, dap, so, sc, tO, tc, rfl, _, a1, a2, a3, a4, a5, a6, a7, a8, a9, a10⟩, _, _, sl, tl⟩ := h
 exact r8whole_c a.N a.k a.V a.M ao a.xs cap a.L qo a.ys dap so a.S sc tO a.T tc w (KI8.rin sl tl a1 a2 a3 a4 a5 a6 a7 a8 a9 a10)
theorem r8check_k (cs : List Value) (a : RA8) (w : World) (h : KI8 w cs a) :
  Calls Tryz.prog 42 #[.agg cs.toArray] w fun e w' => e = .returned (.bool (kOk8 a)) ∧ Below w.heap.size w w' := by
 have W := fun (w0 : World) (hb : Below w.heap.size w w0) => r8whole_k cs a w0 (h.keep hb)
 obtain ⟨⟨ao, cap, qo, dap, so, sc, tO, tc, rfl, _⟩, _⟩ := h
 exact r8check_g _ _ _ _ _ _ _ _ _ (kOk8 a) (kBN8 a) (kBX8 a) w (kB_fit8 a) (kB_chk8 a) W
set_option maxHeartbeats 2000000 in
theorem r8size_k (cs : List Value) (a : RA8) (w : World) (h : KI8 w cs a) :
  Calls Tryz.prog 17 #[.agg cs.toArray] w fun e w' => e = .returned (.int .i64 (kZ8 a)) ∧ Below w.heap.size w w' := by
 have C := fun (w0 : World) (hb : Below w.heap.size w w0) => r8check_k cs a w0 (h.keep hb)
 obtain ⟨⟨ao, cap, qo, dap, so, sc, tO, tc, rfl, _⟩, _, _, sl, tl⟩ := h
 obtain ⟨N, k, V, M, xs, L, ys, S, T⟩ := a
 dsimp only at *
 obtain ⟨Z, hZ⟩ : ∃ Z, Hid (Z = kZ8 ⟨N, k, V, M, xs, L, ys, S, T⟩) := ⟨_, rfl⟩
 rw [← hZ.out]
 obtain ⟨W, hW⟩ : ∃ W, W = w.alloc (.cells #[.int .i64 N, .int .i64 k, .int .i64 V, .int .i64 M, .slice ao xs.length cap, .int .i64 L, .slice qo ys.length dap, .slice so S.length sc, .slice tO T.length tc] 32) := ⟨_, rfl⟩
 have bW : Below w.heap.size w W := by rw [hW]; exact below_alloc w _
 have B1 : Cel W w.heap.size [.int .i64 N, .int .i64 k, .int .i64 V, .int .i64 M, .slice ao xs.length cap, .int .i64 L, .slice qo ys.length dap, .slice so S.length sc, .slice tO T.length tc] 32 := by rw [hW]; exact Cel.new w _ _
 have CH : Hid (∀ w0, Below w.heap.size w w0 → Calls Tryz.prog 42 #[.agg #[.int .i64 N, .int .i64 k, .int .i64 V, .int .i64 M, .slice ao xs.length cap, .int .i64 L, .slice qo ys.length dap, .slice so S.length sc, .slice tO T.length tc]] w0 fun e w' => e = .returned (.bool (kOk8 ⟨N, k, V, M, xs, L, ys, S, T⟩)) ∧ Below w0.heap.size w0 w') := C
 clear C
 cases hk : kOk8 ⟨N, k, V, M, xs, L, ys, S, T⟩ with
 | false =>
  rw [hk] at CH
  have E : Hid (Z = 0) := by
   show Z = 0
   rw [hZ.out]
   unfold kZ8 rzN
   rw [show rOk N k V M xs L ys S T = false from hk]
   rfl
  clear hk hZ
  go_enter Tryz.func17, Tryz.ntmps17
  go_wp2_with fail
  rw [← hW]
  refine (CH.out _ bW).mono ?_
  rintro e w1 ⟨rfl, hb⟩
  have bw1 := bW.trans (hb.mono bW.size)
  clear hW
  go_wp2
  go_ret
  rw [E.out]
  exact ⟨rfl, bw1⟩
 | true =>
  rw [hk] at CH
  have E : Hid (Z = M + L + 64 * (S.length : Int)) := by
   show Z = _
   rw [hZ.out]
   unfold kZ8 rzN
   rw [show rOk N k V M xs L ys S T = true from hk]
   rfl
  obtain ⟨_, i2, i3, _⟩ := rOk_out N k V M xs L ys S T hk
  obtain ⟨_, _, _, _, _, m1, m2, _⟩ := ichk_out k V M xs i2
  obtain ⟨l1, l2, _, _⟩ := chk_out L ys i3
  clear hk hZ
  go_enter Tryz.func17, Tryz.ntmps17
  go_wp2_with fail
  rw [← hW]
  refine (CH.out _ bW).mono ?_
  rintro e w1 ⟨rfl, hb⟩
  have bw1 := bW.trans (hb.mono bW.size)
  replace B1 := B1.kept hb
  have r3 := B1.cell 3 rfl
  have r5 := B1.cell 5 rfl
  have r7 := B1.cell 7 rfl
  clear hW hb
  go_wp2
  go_ret
  rw [E.out]
  exact ⟨rfl, bw1⟩
theorem onL_fit (m : Nat) (f : Nat → Bool) (G : Nat) (hG : G ≤ 1048576) : FitI (onL m f G) := by
 intro i
 by_cases c : i < G
 ·unfold onL
  rw [gi_map _ _ _ c]
  have := bon_le m f (8 * i)
  omega
 ·unfold gi
  rw [List.getD_eq_getElem?_getD, List.getElem?_eq_none (by rw [length_onL]; omega)]
  decide
theorem ptL_fit (m : Nat) (f : Nat → Bool) (G : Nat) (hG : G ≤ 1048576) : FitI (ptL m f G) := by
 intro i
 by_cases c : i < G
 ·unfold ptL
  rw [gi_map _ _ _ c]
  have := bat_le m f (8 * i)
  omega
 ·unfold gi
  rw [List.getD_eq_getElem?_getD, List.getElem?_eq_none (by rw [length_ptL]; omega)]
  decide
theorem fit_nil : Fit [] := fun i => by unfold gt; simp
theorem fitI_nil : FitI [] := fun i => by unfold gi; simp
theorem RO.ki {base : Nat} {w : World} {N : Int} {xs : List Nat} {bo : Option Addr} {bc : Nat} {qo : Option Addr} {qc : Nat} {so : Option Addr} {sc : Nat} {tO : Option Addr} {tc : Nat} (h : RO base w (rbC N xs) (rbO N xs) (rbS N xs) (rbT N xs) bo bc qo qc so sc tO tc) (G : GV w) :
  KI8 w [.int .i64 (rbN N xs), .int .i64 (rbK N xs), .int .i64 (rbV N xs), .int .i64 (rbM N xs), .slice bo (rbC N xs).length bc, .int .i64 (rbL N xs), .slice qo (rbO N xs).length qc, .slice so (rbS N xs).length sc, .slice tO (rbT N xs).length tc] (kB8 N xs) := by
 cases hk : chk N xs with
 | false =>
  have e1 : rbN N xs = 0 := by unfold rbN; rw [hk]; rfl
  have e2 : rbK N xs = 0 := by unfold rbK; rw [hk]; rfl
  have e3 : rbV N xs = 0 := by unfold rbV; rw [hk]; rfl
  have e4 : rbM N xs = 0 := by unfold rbM; rw [hk]; rfl
  have e5 : rbC N xs = [] := by unfold rbC; rw [hk]; rfl
  have e6 : rbL N xs = 0 := by unfold rbL; rw [hk]; rfl
  have e7 : rbO N xs = [] := by unfold rbO; rw [hk]; rfl
  have e8 : rbS N xs = [] := by unfold rbS; rw [hk]; rfl
  have e9 : rbT N xs = [] := by unfold rbT; rw [hk]; rfl
  unfold kB8
  rw [e5, e7, e8, e9] at h
  rw [e1, e2, e3, e4, e5, e6, e7, e8, e9]
  have z : I64 0 := by unfold I64; decide
  exact ⟨⟨bo, bc, qo, qc, so, sc, tO, tc, rfl, ⟨z, z, z, z, z, fitI_nil, fitI_nil⟩, h.c, fit_nil, h.cl, h.o, fit_nil, h.ol, h.s, h.sl, h.t, h.tl⟩, Nat.zero_le _, Nat.zero_le _, Nat.zero_le _, Nat.zero_le _, G⟩
 | true =>
  obtain ⟨h0, h1, _, _⟩ := chk_out N xs hk
  have e1 : rbN N xs = N := by unfold rbN; rw [hk]; rfl
  have e2 : rbK N xs = (nb N.toNat : Int) := by unfold rbK; rw [hk]; rfl
  have e3 : rbV N xs = 4 := by unfold rbV; rw [hk]; rfl
  have e4 : rbM N xs = (nb N.toNat : Int) * 4 := by unfold rbM; rw [hk]; rfl
  have e5 : rbC N xs = rC N.toNat (bitAt xs) := by unfold rbC; rw [hk]; rfl
  have e6 : rbL N xs = (bat N.toNat (bitAt xs) (nb N.toNat) : Int) := by unfold rbL; rw [hk]; rfl
  have e7 : rbO N xs = rO N.toNat (bitAt xs) := by unfold rbO; rw [hk]; rfl
  have e8 : rbS N xs = rS N.toNat (bitAt xs) := by unfold rbS; rw [hk]; rfl
  have e9 : rbT N xs = rT N.toNat (bitAt xs) := by unfold rbT; rw [hk]; rfl
  unfold kB8
  rw [e5, e7, e8, e9] at h
  rw [e1, e2, e3, e4, e5, e6, e7, e8, e9]
  have hn := nb_le N.toNat (by omega)
  have hb := bat_le N.toNat (bitAt xs) (nb N.toNat)
  have hg : gN N.toNat ≤ 8739 := by unfold gN; omega
  have lC : (rC N.toNat (bitAt xs)).length ≤ 1048576 := by unfold rC mkS; rw [length_rowOf, length_bclP]; omega
  have lO : (rO N.toNat (bitAt xs)).length ≤ 1048576 := by unfold rO frL; rw [length_rowOf, length_bofP]; omega
  have lS : (rS N.toNat (bitAt xs)).length ≤ 1048576 := by unfold rS; rw [length_onL]; omega
  have lT : (rT N.toNat (bitAt xs)).length ≤ 1048576 := by unfold rT; rw [length_ptL]; omega
  have hg2 : gN N.toNat ≤ 1048576 := by omega
  have fS : FitI (rS N.toNat (bitAt xs)) := by unfold rS; exact onL_fit _ _ _ hg2
  have fT : FitI (rT N.toNat (bitAt xs)) := by unfold rT; exact ptL_fit _ _ _ hg2
  have fC : Fit (rC N.toNat (bitAt xs)) := by unfold rC mkS; exact fit_rowOf _ _
  have fO : Fit (rO N.toNat (bitAt xs)) := by unfold rO frL; exact fit_rowOf _ _
  generalize rC N.toNat (bitAt xs) = C at *
  generalize rO N.toNat (bitAt xs) = O at *
  generalize rS N.toNat (bitAt xs) = S at *
  generalize rT N.toNat (bitAt xs) = T at *
  generalize bat N.toNat (bitAt xs) (nb N.toNat) = L at *
  generalize nb N.toNat = k at *
  have n1 : I64 N := ⟨by omega, by omega⟩
  have n2 : I64 (k : Int) := ⟨by omega, by omega⟩
  have n3 : I64 4 := by unfold I64; decide
  have n4 : I64 ((k : Int) * 4) := ⟨by omega, by omega⟩
  have n5 : I64 (L : Int) := ⟨by omega, by omega⟩
  exact ⟨⟨bo, bc, qo, qc, so, sc, tO, tc, rfl, ⟨n1, n2, n3, n4, n5, fS, fT⟩, h.c, fC, h.cl, h.o, fO, h.ol, h.s, h.sl, h.t, h.tl⟩, lC, lO, lS, lT, G⟩
theorem RO.nf {base : Nat} {w : World} {C O : List Nat} {S T : List Int} {bo : Option Addr} {bc : Nat} {qo : Option Addr} {qc : Nat} {so : Option Addr} {sc : Nat} {tO : Option Addr} {tc : Nat} {c0 c1 c2 c3 c4 c5 c6 : Value} {n m : Nat} (h : RO base w C O S T bo bc qo qc so sc tO tc) : NF base 7 [c0, c1, c2, c3, c4, c5, c6, .slice so n sc, .slice tO m tc] :=
 nf_mk h.sn h.tn
theorem r8build_k (N : Int) (ao : Option Addr) (xs : List Nat) (cap : Nat) (w : World) (hx : Wd w ao xs) (hf : Fit xs) (G : GV w) :
  Calls Tryz.prog 13 #[.agg #[.int .i64 N, .slice ao xs.length cap]] w fun e w' => ∃ cs : List Value, e = .returned (.tuple #[.agg cs.toArray, .int .i64 (kE8 N xs)]) ∧ KI8 w' cs (kB8 N xs) ∧ NF w.heap.size 7 cs ∧ Below w.heap.size w w' := by
 refine (r8build_c N ao xs cap w hx hf).mono ?_
 rintro e w' ⟨bo, bc, qo, qc, so, sc, tO, tc, rfl, ho, hb⟩
 exact ⟨_, rfl, ho.ki (G.keep hb), ho.nf, hb⟩
end Go.Proofs.YtcaalcjcpddhaaaGreat
namespace Go.Proofs.YtcaalcjcpddhaaaGreat
open Num Bit
def plc (f : Nat → Bool) (n : Nat) : List Nat := (List.range n).filter f
theorem plc_succ (f : Nat → Bool) (n : Nat) : plc f (n + 1) = plc f n ++ if f n then [n] else [] := by
 unfold plc
 rw [List.range_succ, List.filter_append, List.filter_cons]
 cases f n <;> simp
theorem plc_le (f : Nat → Bool) (n : Nat) : (plc f n).length ≤ n := by
 have := List.length_filter_le f (List.range n)
 rw [List.length_range] at this
 exact this
theorem mem_plc (f : Nat → Bool) (n i : Nat) : i ∈ plc f n ↔ i < n ∧ f i = true := by
 unfold plc
 rw [List.mem_filter, List.mem_range]
def Rise (l : List Nat) (n : Nat) : Prop := (∀ i, i < l.length → gt l i < n) ∧ ∀ i, i + 1 < l.length → gt l i < gt l (i + 1)
theorem gt_app_l (l m : List Nat) (i : Nat) (h : i < l.length) : gt (l ++ m) i = gt l i := by
 unfold gt
 rw [List.getD_eq_getElem?_getD, List.getD_eq_getElem?_getD, List.getElem?_append_left h]
theorem gt_app_r (l : List Nat) (v : Nat) : gt (l ++ [v]) l.length = v := by
 unfold gt
 rw [List.getD_eq_getElem?_getD, List.getElem?_append_right (Nat.le_refl _), Nat.sub_self]
 rfl
theorem Rise.snoc {l : List Nat} {n v : Nat} (h : Rise l n) (hv : v < n) (hl : 0 < l.length → gt l (l.length - 1) < v) : Rise (l ++ [v]) n := by
 constructor
 ·intro i hi
  rw [List.length_append, List.length_singleton] at hi
  by_cases c : i < l.length
  ·rw [gt_app_l l _ i c]; exact h.1 i c
  ·obtain rfl : i = l.length := by omega
   rw [gt_app_r]; exact hv
 ·intro i hi
  rw [List.length_append, List.length_singleton] at hi
  by_cases c : i + 1 < l.length
  ·rw [gt_app_l l _ i (by omega), gt_app_l l _ (i + 1) c]; exact h.2 i c
  ·have e : i + 1 = l.length := by omega
   rw [gt_app_l l _ i (by omega), e, gt_app_r]
   have := hl (by omega)
   rw [show l.length - 1 = i by omega] at this
   exact this
theorem Rise.more {l : List Nat} {n m : Nat} (h : Rise l n) (hm : n ≤ m) : Rise l m := ⟨fun i hi => Nat.lt_of_lt_of_le (h.1 i hi) hm, h.2⟩
theorem Rise.step {l : List Nat} {n : Nat} (h : Rise l n) : ∀ d i, i + d < l.length → gt l i + d ≤ gt l (i + d) := by
 intro d
 induction d with
 | zero => intro i _; exact Nat.le_refl _
 | succ d ih =>
  intro i hi
  have h1 := ih i (by omega)
  have h2 := h.2 (i + d) (by omega)
  rw [show i + (d + 1) = i + d + 1 by omega]
  omega
theorem Rise.lt {l : List Nat} {n : Nat} (h : Rise l n) {i j : Nat} (hij : i < j) (hj : j < l.length) : gt l i < gt l j := by
 have := h.step (j - i) i (by omega)
 rw [show i + (j - i) = j by omega] at this
 omega
theorem Rise.len {l : List Nat} {n : Nat} (h : Rise l n) : l.length ≤ n := by
 by_cases c : l.length = 0
 ·omega
 ·have := h.step (l.length - 1) 0 (by omega)
  have := h.1 (0 + (l.length - 1)) (by omega)
  omega
theorem plc_rise (f : Nat → Bool) (n : Nat) : Rise (plc f n) n := by
 induction n with
 | zero => exact ⟨fun i hi => absurd hi (by simp [plc]), fun i hi => absurd hi (by simp [plc])⟩
 | succ n ih =>
  rw [plc_succ]
  cases h : f n with
  | false => simp only [Bool.false_eq_true, if_false, List.append_nil]; exact ih.more (by omega)
  | true =>
   simp only [if_true]
   exact (ih.more (by omega)).snoc (by omega) (fun h0 => ih.1 _ (by omega))
def isIn (l : List Nat) (j : Nat) : Bool := (List.range l.length).any fun i => gt l i == j
theorem isIn_iff (l : List Nat) (j : Nat) : isIn l j = true ↔ ∃ i, i < l.length ∧ gt l i = j := by
 unfold isIn
 rw [List.any_eq_true]
 constructor
 ·rintro ⟨i, hi, he⟩
  exact ⟨i, List.mem_range.1 hi, by simpa using he⟩
 ·rintro ⟨i, hi, he⟩
  exact ⟨i, List.mem_range.2 hi, by simpa using he⟩
theorem isIn_snoc (l : List Nat) (v j : Nat) : isIn (l ++ [v]) j = (isIn l j || v == j) := by
 rw [Bool.eq_iff_iff, isIn_iff, Bool.or_eq_true, isIn_iff, beq_iff_eq]
 constructor
 ·rintro ⟨i, hi, he⟩
  rw [List.length_append, List.length_singleton] at hi
  by_cases c : i < l.length
  ·rw [gt_app_l l _ i c] at he; exact .inl ⟨i, c, he⟩
  ·obtain rfl : i = l.length := by omega
   rw [gt_app_r] at he; exact .inr he
 ·rintro (⟨i, hi, he⟩ | he)
  ·exact ⟨i, by rw [List.length_append]; omega, by rw [gt_app_l l _ i hi]; exact he⟩
  ·exact ⟨l.length, by simp, by rw [gt_app_r]; exact he⟩
theorem isIn_get (l : List Nat) (i : Nat) (h : i < l.length) : isIn l (gt l i) = true := (isIn_iff l _).2 ⟨i, h, rfl⟩
theorem mem_isIn (l : List Nat) (j : Nat) : isIn l j = true ↔ j ∈ l := by
 rw [isIn_iff]
 constructor
 ·rintro ⟨i, hi, rfl⟩
  unfold gt
  rw [List.getD_eq_getElem?_getD, List.getElem?_eq_getElem hi]
  exact List.getElem_mem hi
 ·intro h
  obtain ⟨i, hi, he⟩ := List.getElem_of_mem h
  exact ⟨i, hi, by unfold gt; rw [List.getD_eq_getElem?_getD, List.getElem?_eq_getElem hi]; exact he⟩
theorem rise_ext {l m : List Nat} {n : Nat} (h : Rise l n) (k : Rise m n) (e : ∀ j, isIn l j = isIn m j) : l = m := by
 have key : ∀ {l m : List Nat}, Rise l n → Rise m n → (∀ j, isIn l j = isIn m j) → ∀ i, i < l.length → i < m.length ∧ gt l i = gt m i := by
  intro l m h k e i
  induction i using Nat.strongRecOn with
  | _ i ih =>
   intro hi
   have h1 := isIn_get l i hi
   rw [e, isIn_iff] at h1
   obtain ⟨j, hj, hje⟩ := h1
   have hij : i ≤ j := by
    refine Nat.le_of_not_lt fun c => ?_
    have := ih j c (by omega)
    have h3 := h.lt c hi
    omega
   refine ⟨by omega, ?_⟩
   by_cases c : i = j
   ·subst c; exact hje.symm
   ·have h4 := isIn_get m i (by omega)
    rw [← e, isIn_iff] at h4
    obtain ⟨k', hk, hke⟩ := h4
    have hk2 := k.lt (show i < j by omega) hj
    have hki : k' < i := by
     refine Nat.lt_of_not_le fun c2 => ?_
     by_cases c3 : k' = i
     ·subst c3; omega
     ·have := h.lt (show i < k' by omega) hk; omega
    have := ih k' hki hk
    have := k.lt hki (show i < m.length by omega)
    omega
 have hl := fun i hi => key h k e i hi
 have hm := fun i hi => key k h (fun j => (e j).symm) i hi
 have hlen : l.length = m.length := by
  by_cases c : l.length ≤ m.length
  ·by_cases c2 : l.length = m.length
   ·exact c2
   ·have := (hm l.length (by omega)).1; omega
  ·have := (hl m.length (by omega)).1; omega
 exact Bit.list_ext _ _ hlen (fun i hi => (hl i hi).2)
theorem plc_of {l : List Nat} {n : Nat} (h : Rise l n) : plc (isIn l) n = l := by
 refine rise_ext (plc_rise _ n) h fun j => ?_
 rw [Bool.eq_iff_iff, mem_isIn, mem_plc, isIn_iff]
 constructor
 ·rintro ⟨_, h2⟩
  exact h2
 ·rintro ⟨i, hi, rfl⟩
  exact ⟨h.1 i hi, i, hi, rfl⟩
end Go.Proofs.YtcaalcjcpddhaaaGreat
namespace Go.Proofs.YtcaalcjcpddhaaaGreat
open Num Bit
def wdF (n m : Nat) : Nat := if m = 0 then 0 else Go.bitLen (n / m) - 1
theorem wdF_le (n m : Nat) (h : n < 2 ^ 21) : wdF n m ≤ 20 := by
 unfold wdF
 split
 ·omega
 ·have h1 : n / m ≤ n := Nat.div_le_self n m
  have := len_le (n / m) 21 (by omega)
  omega
def hiP (l : List Nat) (w : Nat) : List Nat := (List.range l.length).map fun i => gt l i / 2 ^ w + i
def hiN (l : List Nat) (n w : Nat) : Nat := l.length + n / 2 ^ w + 1
def loP (l : List Nat) (w : Nat) : List Nat := if w = 0 then [] else l.map (· % 2 ^ w)
theorem length_hiP (l : List Nat) (w : Nat) : (hiP l w).length = l.length := by simp [hiP]
theorem gt_hiP (l : List Nat) (w i : Nat) (h : i < l.length) : gt (hiP l w) i = gt l i / 2 ^ w + i := by
 unfold hiP
 show gt _ i = _
 unfold gt
 rw [List.getD_eq_getElem?_getD, List.getElem?_map, List.getElem?_range h]
 rfl
theorem gt_lmap (l : List Nat) (f : Nat → Nat) (i : Nat) (h : i < l.length) : gt (l.map f) i = f (gt l i) := by
 unfold gt
 rw [List.getD_eq_getElem?_getD, List.getD_eq_getElem?_getD, List.getElem?_map, List.getElem?_eq_getElem h]
 rfl
theorem length_loP (l : List Nat) (w : Nat) (h : 0 < w) : (loP l w).length = l.length := by unfold loP; rw [if_neg (by omega), List.length_map]
theorem gt_loP (l : List Nat) (w i : Nat) (hw : 0 < w) (h : i < l.length) : gt (loP l w) i = gt l i % 2 ^ w := by unfold loP; rw [if_neg (by omega), gt_lmap l _ i h]
theorem hi_rise {l : List Nat} {n : Nat} (w : Nat) (h : Rise l n) : Rise (hiP l w) (hiN l n w) := by
 constructor
 ·intro i hi
  rw [length_hiP] at hi
  rw [gt_hiP l w i hi]
  have := Nat.div_le_div_right (c := 2 ^ w) (Nat.le_of_lt (h.1 i hi))
  unfold hiN
  omega
 ·intro i hi
  rw [length_hiP] at hi
  rw [gt_hiP l w i (by omega), gt_hiP l w (i + 1) hi]
  have := Nat.div_le_div_right (c := 2 ^ w) (Nat.le_of_lt (h.2 i hi))
  omega
def fpl (w : Nat) (lo hi : List Nat) (q : Nat) : Nat := (gt hi q - q) * 2 ^ w + if w = 0 then 0 else gt lo q % 2 ^ w
def fdec (n w : Nat) (lo hi : List Nat) : Nat → Option (List Nat)
 | 0 => some []
 | q + 1 => match fdec n w lo hi q with
  | none => none
  | some out => if n ≤ fpl w lo hi q ∨ (0 < q ∧ fpl w lo hi q ≤ gt out (q - 1)) then none else some (out ++ [fpl w lo hi q])
theorem fdec_len (n w : Nat) (lo hi : List Nat) : ∀ q out, fdec n w lo hi q = some out → out.length = q ∧ Rise out n := by
 intro q
 induction q with
 | zero => intro out h; simp only [fdec, Option.some.injEq] at h; subst h; exact ⟨rfl, fun i hi => absurd hi (by simp), fun i hi => absurd hi (by simp)⟩
 | succ q ih =>
  intro out h
  rw [fdec] at h
  cases hq : fdec n w lo hi q with
  | none => rw [hq] at h; cases h
  | some o =>
   rw [hq] at h
   obtain ⟨h1, h2⟩ := ih o hq
   simp only at h
   split at h
   ·cases h
   ·rename_i hn
    obtain rfl := Option.some.inj h
    refine ⟨by rw [List.length_append, h1]; rfl, h2.snoc (by omega) fun h0 => ?_⟩
    rw [h1] at h0 ⊢
    omega
theorem fdec_none (n w : Nat) (lo hi : List Nat) (q : Nat) (h : fdec n w lo hi q = none) : ∀ d, fdec n w lo hi (q + d) = none := by
 intro d
 induction d with
 | zero => exact h
 | succ d ih => rw [show q + (d + 1) = q + d + 1 by omega, fdec, ih]
theorem fpl_built {l : List Nat} {n : Nat} (w q : Nat) (h : q < l.length) : fpl w (loP l w) (hiP l w) q = gt l q := by
 unfold fpl
 rw [gt_hiP l w q h, Nat.add_sub_cancel]
 by_cases hw : w = 0
 ·subst hw; simp
 ·rw [if_neg hw, gt_loP l w q (by omega) h, Nat.mod_mod]
  rw [Nat.mul_comm]
  exact Nat.div_add_mod _ _
theorem take_snoc' (l : List Nat) (q : Nat) (h : q < l.length) : l.take (q + 1) = l.take q ++ [gt l q] := by
 rw [List.take_add_one, List.getElem?_eq_getElem h]
 unfold gt
 rw [List.getD_eq_getElem?_getD, List.getElem?_eq_getElem h]
 rfl
theorem gt_take' (l : List Nat) (q i : Nat) (h : i < q) : gt (l.take q) i = gt l i := by
 unfold gt
 rw [List.getD_eq_getElem?_getD, List.getD_eq_getElem?_getD, List.getElem?_take_of_lt h]
theorem fdec_built {l : List Nat} {n : Nat} (w : Nat) (h : Rise l n) : ∀ q, q ≤ l.length → fdec n w (loP l w) (hiP l w) q = some (l.take q) := by
 intro q
 induction q with
 | zero => intro _; rfl
 | succ q ih =>
  intro hq
  rw [fdec, ih (by omega)]
  simp only
  rw [fpl_built (n := n) w q (by omega), if_neg, take_snoc' l q (by omega)]
  rintro (c | ⟨c1, c2⟩)
  ·have := h.1 q (by omega); omega
  ·rw [gt_take' l q (q - 1) (by omega)] at c2
   have := h.lt (show q - 1 < q by omega) (show q < l.length by omega)
   omega
structure FA where
 N : Int
 M : Int
 k : Int
 V : Int
 LM : Int
 xs : List Nat
 H : Int
 ys : List Nat
def fOf (n : Nat) (l : List Nat) : FA :=
 ⟨n, l.length, (loP l (wdF n l.length)).length, ((max (wdF n l.length) 1 : Nat) : Int), ((loP l (wdF n l.length)).length : Int) * (max (wdF n l.length) 1 : Nat), mkS (loP l (wdF n l.length)) (max (wdF n l.length) 1) (loP l (wdF n l.length)).length, hiN l n (wdF n l.length), rowOf (hiN l n (wdF n l.length)) (isIn (hiP l (wdF n l.length)))⟩
def fRow (a : FA) : Option (List Nat) :=
 let hi := plc (bitAt a.ys) a.H.toNat
 let lo := (List.range a.k.toNat).map (numAt a.V.toNat a.xs)
 let w := wdF a.N.toNat a.M.toNat
 if (0 ≤ a.N ∧ a.N ≤ 1048576 ∧ 0 ≤ a.M ∧ a.M ≤ a.N) ∧ ichk a.k a.V a.LM a.xs = true ∧ chk a.H a.ys = true ∧ (hi.length : Int) = a.M ∧ (w = 0 ∨ (lo.length : Int) = a.M) then fdec a.N.toNat w lo hi hi.length else none
theorem fnumAt_mk (l : List Nat) (W : Nat) (hW : 1 ≤ W) (hl : ∀ i, gt l i < 2 ^ W) (i : Nat) (hi : i < l.length) : numAt W (mkS l W l.length) i = gt l i := by
 unfold numAt
 refine (eq_numOf W (gt l i) _ fun k => ?_).symm
 by_cases c : k < W
 ·unfold mkS
  have e1 : (i * W + k) / W = i := by
   rw [Nat.mul_comm, Nat.mul_add_div (by omega), Nat.div_eq_of_lt c]; omega
  have e2 : (i * W + k) % W = k := by rw [Nat.mul_comm, Nat.mul_add_mod, Nat.mod_eq_of_lt c]
  have e3 : i * W + k < l.length * W := by
   have := mul_next l.length W i hi
   omega
  rw [bitAt_rowOf, e1, e2]
  simp [c, e3]
 ·have : gt l i < 2 ^ k := Nat.lt_of_lt_of_le (hl i) (Nat.pow_le_pow_right (by decide) (by omega))
  rw [Nat.testBit_lt_two_pow this]
  simp [c]
theorem fichk_mk (l : List Nat) (W : Nat) (hW : 1 ≤ W) (hW2 : W ≤ 64) (hl : l.length * W ≤ 1048576) : ichk (l.length : Int) (W : Int) ((l.length * W : Nat) : Int) (mkS l W l.length) = true := by
 unfold ichk
 rw [Bool.and_eq_true, decide_eq_true_eq]
 refine ⟨⟨by omega, by omega, by omega, by rw [Int.natCast_mul]⟩, ?_⟩
 exact chk_rowOf _ _ hl
theorem loP_lt (l : List Nat) (w i : Nat) : gt (loP l w) i < 2 ^ (max w 1) := by
 by_cases hw : w = 0
 ·subst hw
  unfold loP gt
  simp
 ·by_cases c : i < l.length
  ·rw [gt_loP l w i (by omega) c, show max w 1 = w by omega]
   exact Nat.mod_lt _ (Nat.two_pow_pos _)
  ·unfold gt
   rw [List.getD_eq_getElem?_getD, List.getElem?_eq_none (by rw [length_loP l w (by omega)]; omega)]
   exact Nat.two_pow_pos _
theorem length_lo_le (l : List Nat) (w : Nat) : (loP l w).length ≤ l.length := by
 unfold loP
 split
 ·simp
 ·rw [List.length_map]; exact Nat.le_refl _
theorem plc_congr (f g : Nat → Bool) (n : Nat) (h : ∀ i, i < n → f i = g i) : plc f n = plc g n := by
 unfold plc
 exact List.filter_congr fun i hi => h i (List.mem_range.1 hi)
theorem lo_back (lo : List Nat) (V : Nat) (hV : 1 ≤ V) (hl : ∀ i, gt lo i < 2 ^ V) : (List.range lo.length).map (numAt V (mkS lo V lo.length)) = lo := by
 refine Bit.list_ext _ _ (by simp) fun i hi => ?_
 rw [List.length_map, List.length_range] at hi
 have e : gt ((List.range lo.length).map (numAt V (mkS lo V lo.length))) i = numAt V (mkS lo V lo.length) i := by
  unfold gt
  rw [List.getD_eq_getElem?_getD, List.getElem?_map, List.getElem?_range hi]
  rfl
 rw [e]
 exact fnumAt_mk lo V hV hl i hi
theorem fRow_of {l : List Nat} {n : Nat} (h : Rise l n) (hn : n ≤ 1048576) (h1 : hiN l n (wdF n l.length) ≤ 1048576) (h2 : (loP l (wdF n l.length)).length * max (wdF n l.length) 1 ≤ 1048576) : fRow (fOf n l) = some l := by
 have hl := h.len
 have hw := wdF_le n l.length (by omega)
 have e1 : plc (bitAt (fOf n l).ys) (fOf n l).H.toNat = hiP l (wdF n l.length) := by
  show plc (bitAt (rowOf _ _)) (hiN l n (wdF n l.length) : Int).toNat = _
  rw [Int.toNat_natCast, plc_congr _ (isIn (hiP l (wdF n l.length))) _ (fun i hi => by rw [bitAt_rowOf]; simp [hi])]
  exact plc_of (hi_rise _ h)
 have e2 : (List.range (fOf n l).k.toNat).map (numAt (fOf n l).V.toNat (fOf n l).xs) = loP l (wdF n l.length) := by
  show (List.range ((loP l (wdF n l.length)).length : Int).toNat).map (numAt ((max (wdF n l.length) 1 : Nat) : Int).toNat _) = _
  rw [Int.toNat_natCast, Int.toNat_natCast]
  exact lo_back _ _ (by omega) (loP_lt l _)
 have e3 : ichk (fOf n l).k (fOf n l).V (fOf n l).LM (fOf n l).xs = true := by
  have := fichk_mk (loP l (wdF n l.length)) (max (wdF n l.length) 1) (by omega) (by omega) h2
  rw [Int.natCast_mul] at this
  exact this
 have e4 : chk (fOf n l).H (fOf n l).ys = true := chk_rowOf _ _ h1
 have e5 : (fOf n l).N.toNat = n := rfl
 have e6 : (fOf n l).M.toNat = l.length := rfl
 unfold fRow
 simp only [e1, e2, e3, e4, e5, e6, length_hiP]
 rw [if_pos]
 ·rw [fdec_built _ h l.length (Nat.le_refl _), List.take_of_length_le (Nat.le_refl _)]
 ·refine ⟨?_, trivial, trivial, rfl, ?_⟩
  ·show (0 : Int) ≤ (n : Int) ∧ (n : Int) ≤ 1048576 ∧ (0 : Int) ≤ (l.length : Int) ∧ (l.length : Int) ≤ (n : Int)
   omega
  ·by_cases c : wdF n l.length = 0
   ·exact .inl c
   ·right
    rw [length_loP l _ (by omega)]
    rfl
end Go.Proofs.YtcaalcjcpddhaaaGreat
namespace Go.Proofs.YtcaalcjcpddhaaaGreat
open Num Bit
end Go.Proofs.YtcaalcjcpddhaaaGreat
