/-
  The contracts of the program's blockAt and of the function that it hands to along. The contracts of the program's count, Access, Rank and Size of rows in blocks. The contracts of the program's Access, Rank and Size of rows in blocks.
-/
import Derived.Test.YtpeecabfcgijhaaGreatDoorT22
set_option linter.unusedVariables false
set_option linter.unusedSimpArgs false
set_option maxRecDepth 100000
set_option maxHeartbeats 16000000
namespace Go.Proofs.YtpeecabfcgijhaaGreatDoor
open Go.RowKit Num Bit Bn
structure KV (a : RA8) (m : Nat) (X : List Nat) : Prop where
 nN : a.N = m
 nk : a.k = nb m
 nV : a.V = 4
 le : m ≤ 1048576
 ic : ichk a.k a.V a.M a.xs = true
 sl : a.S.length = gN m
 tl : a.T.length = gN m
 fit : Fit X
 ck : chk (m : Int) X = true
 cl : ∀ i, i < nb m → cls a.xs i = bcl m (bitAt X) i
 on : ∀ i, i ≤ nb m → cOn a.xs i = bon m (bitAt X) i
 se : ∀ i, i < nb m → cSE a.L a.ys a.xs i = 0
 off : ∀ i, i < nb m → cOff a.L a.ys a.xs i < ch 15 (cls a.xs i)
 wd : ∀ i, i < nb m → blk 15 (cls a.xs i) (cOff a.L a.ys a.xs i) = blv m (bitAt X) i
 gs : ∀ g, g < gN m → gi a.S g = cOn a.xs (8 * g)
 gt : ∀ g, g < gN m → gi a.T g = cAt a.xs (8 * g)
theorem ok_kv (a : RA8) (h : kOk8 a = true) : ∃ m : Nat, kBN8 a = (m : Int) ∧ KV a m (kBX8 a) := by
 obtain ⟨m, h1, h2, h3, h4, e⟩ := ok_kb a h
 have c := kb_ck m (kBX8 a) h2 h4
 obtain ⟨r1, r2, r3⟩ := kb_read m (kBX8 a) h2 h4
 have k := kb_is m (kBX8 a) h4
 rw [← e] at c
 rw [← e] at k
 have exs : a.xs = rC m (bitAt (kBX8 a)) := congrArg RA8.xs k
 have eys : a.ys = rO m (bitAt (kBX8 a)) := congrArg RA8.ys k
 have eL : a.L = (bat m (bitAt (kBX8 a)) (nb m) : Int) := congrArg RA8.L k
 refine ⟨m, h1, c.nN, c.nk, c.nV, h2, c.ic, c.sl, c.tl, h3, h4, ?_, ?_, ?_, ?_, ?_, ?_, ?_⟩
 ·intro i hi; rw [exs]; exact r1 i hi
 ·intro i hi; rw [exs]; exact (r2 i hi).2
 ·intro i hi; exact (c.each i hi).1
 ·intro i hi; exact (c.each i hi).2.1
 ·intro i hi; rw [exs, eys, eL]; exact (r3 i hi).2.2
 ·intro g hg
  by_cases z : g = 0
  ·subst z; exact c.s0
  ·have h8 := gN_in m g hg z
   have := ((c.each (8 * g) h8).2.2 (by omega)).1
   rw [show 8 * g / 8 = g by omega] at this
   exact this
 ·intro g hg
  by_cases z : g = 0
  ·subst z; exact c.t0
  ·have h8 := gN_in m g hg z
   have := ((c.each (8 * g) h8).2.2 (by omega)).2
   rw [show 8 * g / 8 = g by omega] at this
   exact this
theorem result_cel2 {fn : Func} {p u : Tmp} {T U : TypeId} {w : World} {tmps : Array Value} (h : fn.results = #[.cell p T, .cell u U]) (g k : Nat) (cs ds : List Value) {fs gs : Array Field} (hp : tmps.getD p undef = .pointer (some ⟨g, 0, none⟩)) (hu : tmps.getD u undef = .pointer (some ⟨k, 0, none⟩)) (hc : Cel w g cs T) (hd : Cel w k ds U) (h1 : Tryz.prog.underlying T = some (.struct fs)) (h2 : Tryz.prog.underlying U = some (.struct gs)) (i1 : (Tryz.prog.info? T).map (·.size) = some cs.length) (i2 : (Tryz.prog.info? U).map (·.size) = some ds.length) :
  (results fn tmps).run Tryz.prog w = .ok (.tuple #[.agg cs.toArray, .agg ds.toArray]) w := by
 have hp' : tmps[p]?.getD undef = .pointer (some ⟨g, 0, none⟩) := by simpa using hp
 have hu' : tmps[u]?.getD undef = .pointer (some ⟨k, 0, none⟩) := by simpa using hu
 have hl := run_loadVar_row (P := Tryz.prog) w g T T cs.toArray (0, 0) _ hc h1 rfl (by simpa using i1)
 have hm := run_loadVar_row (P := Tryz.prog) w k U U ds.toArray (0, 0) _ hd h2 rfl (by simpa using i2)
 simp [results, h, hp', hu', asAddr, hl, hm]
theorem two_of {l : List Value} (h : l.length = 2) : ∃ v0 v1, l = [v0, v1] := by
 match l, h with
 | [v0, v1], _ => exact ⟨v0, v1, rfl⟩
theorem qblockAt1_c (j c o s p i gf gb gi lo hi : Nat) (of ob : List Value) (w : World) (hof : of.length = 2) (hob : ob.length = 2)
  (hcf : Cel w gf of 120) (hcb : Cel w gb ob 109) (hci : Cel w gi [.int .i64 (i : Nat)] 3) (h1 : gf ≠ gb) (h2 : gf ≠ gi) (h3 : gb ≠ gi) (l1 : lo ≤ gf) (l2 : lo ≤ gb) (l3 : gf < hi) (l4 : gb < hi) (l5 : hi ≤ w.heap.size) (l6 : lo ≤ w.heap.size) :
  Calls Tryz.prog 137 #[.int .i64 j, .agg #[.int .i64 (c : Nat), .int .u64 (o : Nat)], .agg #[.int .i64 (s : Nat), .int .i64 (p : Nat)], .pointer (some ⟨gf, 0, none⟩), .pointer (some ⟨gb, 0, none⟩), .pointer (some ⟨gi, 0, none⟩)] w
   fun e w' => e = .returned (.bool (decide (j < i))) ∧ Cel w' gf [.int .i64 (c : Nat), .int .u64 (o : Nat)] 120 ∧ Cel w' gb [.int .i64 (s : Nat), .int .i64 (p : Nat)] 109 ∧ Cel w' gi [.int .i64 (i : Nat)] 3 ∧ Fr8 lo hi w w' ∧ (∀ b, b ≠ gf → b ≠ gb → b < w.heap.size → w'.heap[b]? = w.heap[b]?) := by
 obtain ⟨v0, v1, rfl⟩ := two_of hof
 obtain ⟨u0, u1, rfl⟩ := two_of hob
 obtain ⟨W, hW⟩ : ∃ W, W = (w.alloc (.cells #[.int .i64 (c : Nat), .int .u64 (o : Nat)] 120)).alloc (.cells #[.int .i64 (s : Nat), .int .i64 (p : Nat)] 109) := ⟨_, rfl⟩
 have bW := yb2 hW
 have B1 := yc3 hW
 have B2 := yc2 hW
 have F1 : Fr8 lo hi w W := Fr8.of bW l6
 replace hcf := hcf.kept bW
 replace hcb := hcb.kept bW
 replace hci := hci.kept bW
 go_enter Tryz.func137, Tryz.ntmps137
 go_wp2
 rw [← hW]
 refine region_g [3] (fun w' => Cel w' w.heap.size [.int .i64 (c : Nat), .int .u64 (o : Nat)] 120 ∧ Cel w' (w.heap.size + 1) [.int .i64 (s : Nat), .int .i64 (p : Nat)] 109) (by kernel_rfl) ?_
 have hS : Cel W.drew w.heap.size [.int .i64 (c : Nat), .int .u64 (o : Nat)] 120 ∧ Cel W.drew (w.heap.size + 1) [.int .i64 (s : Nat), .int .i64 (p : Nat)] 109 := ⟨B1, B2⟩
 replace hcf : Cel W.drew gf [v0, v1] 120 := hcf
 replace hcb : Cel W.drew gb [u0, u1] 109 := hcb
 replace hci : Cel W.drew gi [.int .i64 (i : Nat)] 3 := hci
 replace F1 : Fr8 lo hi w W.drew := F1.trans (Fr8.of (Below.refl _ _).drew (by have := bW.size; omega))
 have G1 : ∀ b, b < w.heap.size → W.drew.heap[b]? = w.heap[b]? := fun b hb => bW.block b hb
 generalize W.drew = Y at *
 clear B1 B2 hW bW
 refine AnyG.tf 0 hS rfl (fun w0 h0 => by have c0 := h0.1.cell 0 rfl; have c1 := h0.1.cell 1 rfl; go_simp; try with_reducible rfl) ?_
 refine AnyG.tf 1 hS rfl (fun w0 h0 => by have c0 := h0.2.cell 0 rfl; have c1 := h0.2.cell 1 rfl; go_simp; try with_reducible rfl) ?_
 refine AnyG.o1 2 ?_
 intro K hK
 have f0 := hcf.frozen 0
 have f1 := hcf.frozen 1
 have n0 := hcf.cell 0 rfl
 have n1 := hcf.cell 1 rfl
 go_simp
 refine hK.out _ _ (fun _ => ⟨(hS.1.other (by show w.heap.size ≠ gf; omega) _).other (by show w.heap.size ≠ gf; omega) _, (hS.2.other (by show w.heap.size + 1 ≠ gf; omega) _).other (by show w.heap.size + 1 ≠ gf; omega) _⟩) ?_
 clear hK K f0 f1 n0 n1
 have F2 : Fr8 lo hi w ((Y.setCell ⟨gf, 0, none⟩ (.int .i64 (c : Nat))).setCell ⟨gf, 1, none⟩ (.int .u64 (o : Nat))) := F1.trans ((((Only.refl gf Y).set 0 _).set 1 _).fr l1 l3)
 replace hcf : Cel ((Y.setCell ⟨gf, 0, none⟩ (.int .i64 (c : Nat))).setCell ⟨gf, 1, none⟩ (.int .u64 (o : Nat))) gf [.int .i64 (c : Nat), .int .u64 (o : Nat)] 120 := (hcf.set 0 _).set 1 _
 replace hcb := (hcb.other (a := ⟨gf, 0, none⟩) (Ne.symm h1) (.int .i64 (c : Nat))).other (a := ⟨gf, 1, none⟩) (Ne.symm h1) (.int .u64 (o : Nat))
 replace hci := (hci.other (a := ⟨gf, 0, none⟩) (Ne.symm h2) (.int .i64 (c : Nat))).other (a := ⟨gf, 1, none⟩) (Ne.symm h2) (.int .u64 (o : Nat))
 replace G1 : ∀ b, b ≠ gf → b < w.heap.size → ((Y.setCell ⟨gf, 0, none⟩ (.int .i64 (c : Nat))).setCell ⟨gf, 1, none⟩ (.int .u64 (o : Nat))).heap[b]? = w.heap[b]? := fun b hb hl => ((((Only.refl gf Y).set 0 _).set 1 _).block b hb).trans (G1 b hl)
 generalize (Y.setCell ⟨gf, 0, none⟩ (.int .i64 (c : Nat))).setCell ⟨gf, 1, none⟩ (.int .u64 (o : Nat)) = Z at *
 try simp only [Act.put, yq0, yq1, yq2, yq3, yq4, yq5]
 refine AnyG.o1 3 ?_
 intro K hK
 have f0 := hcb.frozen 0
 have f1 := hcb.frozen 1
 have n0 := hcb.cell 0 rfl
 have n1 := hcb.cell 1 rfl
 go_simp
 refine hK.out _ _ (fun h => absurd (by decide) h) ?_
 clear hK K
 try simp only [Act.put, yq0, yq1, yq2, yq3, yq4, yq5]
 refine AnyG.done (by kernel_rfl) ?_ _
 clear f0 f1 n0 n1
 have F3 : Fr8 lo hi w ((Z.setCell ⟨gb, 0, none⟩ (.int .i64 (s : Nat))).setCell ⟨gb, 1, none⟩ (.int .i64 (p : Nat))) := F2.trans ((((Only.refl gb Z).set 0 _).set 1 _).fr l2 l4)
 replace hcb : Cel ((Z.setCell ⟨gb, 0, none⟩ (.int .i64 (s : Nat))).setCell ⟨gb, 1, none⟩ (.int .i64 (p : Nat))) gb [.int .i64 (s : Nat), .int .i64 (p : Nat)] 109 := (hcb.set 0 _).set 1 _
 replace hcf := (hcf.other (a := ⟨gb, 0, none⟩) h1 (.int .i64 (s : Nat))).other (a := ⟨gb, 1, none⟩) h1 (.int .i64 (p : Nat))
 replace hci := (hci.other (a := ⟨gb, 0, none⟩) (Ne.symm h3) (.int .i64 (s : Nat))).other (a := ⟨gb, 1, none⟩) (Ne.symm h3) (.int .i64 (p : Nat))
 replace G1 : ∀ b, b ≠ gf → b ≠ gb → b < w.heap.size → ((Z.setCell ⟨gb, 0, none⟩ (.int .i64 (s : Nat))).setCell ⟨gb, 1, none⟩ (.int .i64 (p : Nat))).heap[b]? = w.heap[b]? := fun b hb hb2 hl => ((((Only.refl gb Z).set 0 _).set 1 _).block b hb2).trans (G1 b hb hl)
 generalize (Z.setCell ⟨gb, 0, none⟩ (.int .i64 (s : Nat))).setCell ⟨gb, 1, none⟩ (.int .i64 (p : Nat)) = Z2 at *
 have m0 := hci.cell 0 rfl
 have HH : Hid (Cel Z2 gf [.int .i64 (c : Nat), .int .u64 (o : Nat)] 120 ∧ Cel Z2 gb [.int .i64 (s : Nat), .int .i64 (p : Nat)] 109 ∧ Cel Z2 gi [.int .i64 (i : Nat)] 3 ∧ Fr8 lo hi w Z2 ∧ (∀ b, b ≠ gf → b ≠ gb → b < w.heap.size → Z2.heap[b]? = w.heap[b]?)) := ⟨hcf, hcb, hci, F3, G1⟩
 clear G1 hcf hcb hci F3 F2 F1 hS
 go_wp2
 go_ret
 exact ⟨ret_bool (by simp), HH.out⟩
structure BInv (w0 : World) (i gf gb gi gr j : Nat) (w : World) : Prop where
 below : Below w0.heap.size w0 w
 le : j ≤ i
 f : ∃ l, Cel w gf l 120 ∧ l.length = 2
 b : ∃ l, Cel w gb l 109 ∧ l.length = 2
 i : Cel w gi [.int .i64 (i : Nat)] 3
 r1 : Cel w gr [.int .i64 0, .int .u64 0] 120
 r2 : Cel w (gr + 1) [.int .i64 0, .int .i64 0] 109
theorem BInv.keep {w0 : World} {i gf gb gi gr j hi : Nat} {w w' : World} (h : BInv w0 i gf gb gi gr j w) (h0 : w0.heap.size ≤ hi) (h1 : gf < hi) (h2 : gb < hi) (h3 : gi < hi) (h4 : gr + 1 < hi) (hb : Below hi w w') : BInv w0 i gf gb gi gr j w' := by
 obtain ⟨l, c, e⟩ := h.f
 obtain ⟨k, d, e2⟩ := h.b
 exact ⟨h.below.trans (hb.mono h0), h.le, ⟨l, c.keep hb h1, e⟩, ⟨k, d.keep hb h2, e2⟩, h.i.keep hb h3, h.r1.keep hb (by omega), h.r2.keep hb h4⟩
theorem qblockAt_c (cs : List Value) (a : RA8) (m i : Nat) (Y : List Nat) (w : World) (h : KI8 w cs a) (v : KV a m Y) (hi : i < nb m) :
  Calls Tryz.prog 80 #[.agg cs.toArray, .int .i64 i] w fun e w' => e = .returned (.tuple #[.agg #[.int .i64 (cls a.xs i : Nat), .int .u64 (cOff a.L a.ys a.xs i : Nat)], .agg #[.int .i64 (cOn a.xs i : Nat), .int .i64 (cAt a.xs i : Nat)]]) ∧ Below w.heap.size w w' := by
 have nbl := nb_le m v.le
 have ig : i / 8 < gN m := by unfold gN; omega
 have HA : Hid (∀ (gf gb gi gr : Nat) w1, BInv w i gf gb gi gr (8 * (i / 8)) w1 → gr ≠ gf → gr ≠ gb → gr + 1 ≠ gf → gr + 1 ≠ gb → gr + 1 < w1.heap.size → w.heap.size ≤ gf → w.heap.size ≤ gb → gf ≠ gb → gf ≠ gi → gb ≠ gi → gf < w1.heap.size → gb < w1.heap.size → gi < w1.heap.size →
   Calls Tryz.prog 110 #[.agg cs.toArray, .int .i64 ((i : Int) / 8), .func (.func 137) #[] #[.pointer (some ⟨gf, 0, none⟩), .pointer (some ⟨gb, 0, none⟩), .pointer (some ⟨gi, 0, none⟩)]] w1 fun e w' => ∃ r, e = .returned r ∧ Cel w' gf [.int .i64 (cls a.xs i : Nat), .int .u64 (cOff a.L a.ys a.xs i : Nat)] 120 ∧ Cel w' gb [.int .i64 (cOn a.xs i : Nat), .int .i64 (cAt a.xs i : Nat)] 109 ∧ Cel w' gr [.int .i64 0, .int .u64 0] 120 ∧ Cel w' (gr + 1) [.int .i64 0, .int .i64 0] 109 ∧ Fr8 w.heap.size w1.heap.size w1 w') := by
  intro gf gb gi gr w1 hI n1 n2 n3 n4 n5 l1 l2 l3 l4 l5 l6 l7 l8
  have e8 : ((i : Int) / 8) = ((i / 8 : Nat) : Int) := by omega
  rw [e8]
  refine (qalong_c cs a (i / 8) (nb m) w.heap.size w1.heap.size 137 #[.pointer (some ⟨gf, 0, none⟩), .pointer (some ⟨gb, 0, none⟩), .pointer (some ⟨gi, 0, none⟩)] (fun j w2 => BInv w i gf gb gi gr j w2) (fun j w2 => j = i ∧ (Cel w2 gr [.int .i64 0, .int .u64 0] 120 ∧ Cel w2 (gr + 1) [.int .i64 0, .int .i64 0] 109) ∧ Cel w2 gf [.int .i64 (cls a.xs j : Nat), .int .u64 (cOff a.L a.ys a.xs j : Nat)] 120 ∧ Cel w2 gb [.int .i64 (cOn a.xs j : Nat), .int .i64 (cAt a.xs j : Nat)] 109) w1 v.nk v.nV v.ic (by omega) (by rw [v.sl]; exact ig) (by rw [v.tl]; exact ig) (v.gs _ ig) (v.gt _ ig) hI.below.size (Nat.le_refl _) hI (fun j w2 hj => h.keep hj.below) (fun j w2 w3 hj hb => hj.keep hI.below.size l6 l7 l8 n5 hb) (fun j w2 w3 hj hb => ⟨hj.1, ⟨hj.2.1.1.keep hb (by omega), hj.2.1.2.keep hb n5⟩, hj.2.2.1.keep hb l6, hj.2.2.2.keep hb l7⟩) ?cf ?st).mono ?_
  case cf =>
   intro args w2
   kernel_rfl
  case st =>
   intro j w2 _ hjn hse hj hw2
   obtain ⟨lf, c1, e1⟩ := hj.f
   obtain ⟨lb, c2, e2⟩ := hj.b
   refine (qblockAt1_c j _ _ _ _ i gf gb gi w.heap.size w1.heap.size lf lb w2 e1 e2 c1 c2 hj.i l3 l4 l5 l1 l2 l6 l7 hw2 hj.below.size).mono ?_
   rintro e w3 ⟨rfl, d1, d2, d3, fr, gg⟩
   have r1 : Cel w3 gr [.int .i64 0, .int .u64 0] 120 := (gg gr n1 n2 hj.r1.lt).trans hj.r1
   have r2 : Cel w3 (gr + 1) [.int .i64 0, .int .i64 0] 109 := (gg (gr + 1) n3 n4 hj.r2.lt).trans hj.r2
   refine ⟨_, rfl, fun hr => ?_, fun hr => ?_, fr⟩
   ·have hr := of_decide_eq_true hr
    exact ⟨hj.below.trans fr.below, by omega, ⟨_, d1, rfl⟩, ⟨_, d2, rfl⟩, d3, r1, r2⟩
   ·have hr := of_decide_eq_false hr
    have := hj.le
    exact ⟨by omega, ⟨r1, r2⟩, d1, d2⟩
  ·rintro e w2 ⟨q, b, rfl, _, hq, h1, h2, fr⟩
   cases b with
   | true =>
    obtain ⟨rfl, hI2⟩ := h1 rfl
    have := hI2.le
    omega
   | false =>
    obtain ⟨hlt, h3⟩ := h2 rfl
    rcases h3 with ⟨h3, _⟩ | ⟨_, rfl, ⟨r1, r2⟩, h4, h5⟩
    ·exact absurd (v.se q hlt) h3
    ·exact ⟨_, rfl, h4, h5, r1, r2, fr⟩
 have hmf : ∀ (fn : Fn) (first cap : Array Value) (w : World), (Instr.makeFunc fn first cap).run Tryz.prog w = .ok (.func fn first cap) w := fun _ _ _ _ => rfl
 have hib : i ≤ 69906 := by omega
 clear v
 obtain ⟨⟨ao, cap, qo, dap, so, sc, tO, tc, rfl, _⟩, _⟩ := h
 obtain ⟨N, k, V, M, xs, L, ys, S, T⟩ := a
 dsimp only at *
 generalize cls xs i = c at *
 generalize cOff L ys xs i = o at *
 generalize cOn xs i = s at *
 generalize cAt xs i = p at *
 obtain ⟨W, hW⟩ : ∃ W, W = (((((w.alloc (.cells #[.int .i64 N, .int .i64 k, .int .i64 V, .int .i64 M, .slice ao xs.length cap, .int .i64 L, .slice qo ys.length dap, .slice so S.length sc, .slice tO T.length tc] 33)).alloc (.cells #[.int .i64 (i : Nat)] 3)).alloc (.cells #[.int .i64 0, .int .u64 0] 120)).alloc (.cells #[.int .i64 0, .int .i64 0] 109)).alloc (.cells #[.int .i64 0, .int .u64 0] 120)).alloc (.cells #[.int .i64 0, .int .i64 0] 109) := ⟨_, rfl⟩
 obtain ⟨⟨bW, zW⟩, C1, C2, C3, C4, C5⟩ : (Below w.heap.size w W ∧ W.heap.size = w.heap.size + 6) ∧ Cel W (w.heap.size + 1) [.int .i64 (i : Nat)] 3 ∧ Cel W (w.heap.size + 2) [.int .i64 0, .int .u64 0] 120 ∧ Cel W (w.heap.size + 3) [.int .i64 0, .int .i64 0] 109 ∧ Cel W (w.heap.size + 4) [.int .i64 0, .int .u64 0] 120 ∧ Cel W (w.heap.size + 5) [.int .i64 0, .int .i64 0] 109 := by
  rw [hW]
  have e1 := Cel.new (w.alloc (.cells #[.int .i64 N, .int .i64 k, .int .i64 V, .int .i64 M, .slice ao xs.length cap, .int .i64 L, .slice qo ys.length dap, .slice so S.length sc, .slice tO T.length tc] 33)) [.int .i64 (i : Nat)] 3
  have e2 := Cel.new ((w.alloc (.cells #[.int .i64 N, .int .i64 k, .int .i64 V, .int .i64 M, .slice ao xs.length cap, .int .i64 L, .slice qo ys.length dap, .slice so S.length sc, .slice tO T.length tc] 33)).alloc (.cells #[.int .i64 (i : Nat)] 3)) [.int .i64 0, .int .u64 0] 120
  have e3 := Cel.new (((w.alloc (.cells #[.int .i64 N, .int .i64 k, .int .i64 V, .int .i64 M, .slice ao xs.length cap, .int .i64 L, .slice qo ys.length dap, .slice so S.length sc, .slice tO T.length tc] 33)).alloc (.cells #[.int .i64 (i : Nat)] 3)).alloc (.cells #[.int .i64 0, .int .u64 0] 120)) [.int .i64 0, .int .i64 0] 109
  have e4 := Cel.new ((((w.alloc (.cells #[.int .i64 N, .int .i64 k, .int .i64 V, .int .i64 M, .slice ao xs.length cap, .int .i64 L, .slice qo ys.length dap, .slice so S.length sc, .slice tO T.length tc] 33)).alloc (.cells #[.int .i64 (i : Nat)] 3)).alloc (.cells #[.int .i64 0, .int .u64 0] 120)).alloc (.cells #[.int .i64 0, .int .i64 0] 109)) [.int .i64 0, .int .u64 0] 120
  have e5 := Cel.new (((((w.alloc (.cells #[.int .i64 N, .int .i64 k, .int .i64 V, .int .i64 M, .slice ao xs.length cap, .int .i64 L, .slice qo ys.length dap, .slice so S.length sc, .slice tO T.length tc] 33)).alloc (.cells #[.int .i64 (i : Nat)] 3)).alloc (.cells #[.int .i64 0, .int .u64 0] 120)).alloc (.cells #[.int .i64 0, .int .i64 0] 109)).alloc (.cells #[.int .i64 0, .int .u64 0] 120)) [.int .i64 0, .int .i64 0] 109
  simp only [World.size_alloc] at e1 e2 e3 e4 e5
  refine ⟨⟨(((((below_alloc w _).alloc (by simp) _).alloc (by simp; omega) _).alloc (by simp; omega) _).alloc (by simp; omega) _).alloc (by simp; omega) _, by simp⟩, (((e1.alloc _).alloc _).alloc _).alloc _, ((e2.alloc _).alloc _).alloc _, (e3.alloc _).alloc _, e4.alloc _, e5⟩
 have HI : Hid (BInv w i (w.heap.size + 4) (w.heap.size + 5) (w.heap.size + 1) (w.heap.size + 2) (8 * (i / 8)) W) := ⟨bW, by omega, ⟨_, C4, rfl⟩, ⟨_, C5, rfl⟩, C1, C2, C3⟩
 go_enter Tryz.func80, Tryz.ntmps80
 go_wp2_with fail
 rw [← hW]
 refine (HA.out (w.heap.size + 4) (w.heap.size + 5) (w.heap.size + 1) (w.heap.size + 2) W HI.out (by omega) (by omega) (by omega) (by omega) (by omega) (by omega) (by omega) (by omega) (by omega) (by omega) (by omega) (by omega) (by omega)).mono ?_
 rintro e w2 ⟨r, rfl, d1, d2, r1, r2, fr⟩
 have bw2 := bW.trans fr.below
 clear HA HI fr hW bW C1 C2 C3 C4 C5
 go_wp2
 refine region_g [3] (fun w' => Cel w' (w.heap.size + 4) [.int .i64 (c : Nat), .int .u64 (o : Nat)] 120 ∧ Cel w' (w.heap.size + 5) [.int .i64 (s : Nat), .int .i64 (p : Nat)] 109) (by kernel_rfl) ?_
 have hS : Cel w2.drew (w.heap.size + 4) [.int .i64 (c : Nat), .int .u64 (o : Nat)] 120 ∧ Cel w2.drew (w.heap.size + 5) [.int .i64 (s : Nat), .int .i64 (p : Nat)] 109 := ⟨d1, d2⟩
 replace r1 : Cel w2.drew (w.heap.size + 2) [.int .i64 0, .int .u64 0] 120 := r1
 replace r2 : Cel w2.drew (w.heap.size + 3) [.int .i64 0, .int .i64 0] 109 := r2
 replace bw2 : Below w.heap.size w w2.drew := bw2.drew
 generalize w2.drew = U at *
 clear d1 d2
 refine AnyG.tf 0 hS rfl (fun w0 h0 => by have c0 := h0.1.cell 0 rfl; have c1 := h0.1.cell 1 rfl; go_simp; try with_reducible rfl) ?_
 refine AnyG.tf 1 hS rfl (fun w0 h0 => by have c0 := h0.2.cell 0 rfl; have c1 := h0.2.cell 1 rfl; go_simp; try with_reducible rfl) ?_
 refine AnyG.o1 2 ?_
 intro K hK
 have f0 := r1.frozen 0
 have f1 := r1.frozen 1
 have n0 := r1.cell 0 rfl
 have n1 := r1.cell 1 rfl
 go_simp
 refine hK.out _ _ (fun _ => ⟨(hS.1.other (by show w.heap.size + 4 ≠ w.heap.size + 2; omega) _).other (by show w.heap.size + 4 ≠ w.heap.size + 2; omega) _, (hS.2.other (by show w.heap.size + 5 ≠ w.heap.size + 2; omega) _).other (by show w.heap.size + 5 ≠ w.heap.size + 2; omega) _⟩) ?_
 clear hK K f0 f1 n0 n1
 replace r2 := (r2.other (a := ⟨w.heap.size + 2, 0, none⟩) (by show w.heap.size + 3 ≠ w.heap.size + 2; omega) (.int .i64 (c : Nat))).other (a := ⟨w.heap.size + 2, 1, none⟩) (by show w.heap.size + 3 ≠ w.heap.size + 2; omega) (.int .u64 (o : Nat))
 replace r1 := (r1.set 0 (.int .i64 (c : Nat))).set 1 (.int .u64 (o : Nat))
 replace bw2 : Below w.heap.size w ((U.setCell ⟨w.heap.size + 2, 0, none⟩ (.int .i64 (c : Nat))).setCell ⟨w.heap.size + 2, 1, none⟩ (.int .u64 (o : Nat))) := (bw2.setCell (by show w.heap.size ≤ w.heap.size + 2; omega) _).setCell (by show w.heap.size ≤ w.heap.size + 2; omega) _
 generalize (U.setCell ⟨w.heap.size + 2, 0, none⟩ (.int .i64 (c : Nat))).setCell ⟨w.heap.size + 2, 1, none⟩ (.int .u64 (o : Nat)) = Z at *
 try simp only [Act.put, yq0, yq1, yq2, yq3, yq4, yq5]
 refine AnyG.o1 3 ?_
 intro K hK
 have f0 := r2.frozen 0
 have f1 := r2.frozen 1
 have n0 := r2.cell 0 rfl
 have n1 := r2.cell 1 rfl
 go_simp
 refine hK.out _ _ (fun h => absurd (by decide) h) ?_
 clear hK K
 try simp only [Act.put, yq0, yq1, yq2, yq3, yq4, yq5]
 refine AnyG.done (by kernel_rfl) ?_ _
 clear f0 f1 n0 n1
 replace r1 := (r1.other (a := ⟨w.heap.size + 3, 0, none⟩) (by show w.heap.size + 2 ≠ w.heap.size + 3; omega) (.int .i64 (s : Nat))).other (a := ⟨w.heap.size + 3, 1, none⟩) (by show w.heap.size + 2 ≠ w.heap.size + 3; omega) (.int .i64 (p : Nat))
 replace r2 := (r2.set 0 (.int .i64 (s : Nat))).set 1 (.int .i64 (p : Nat))
 replace bw2 : Below w.heap.size w ((Z.setCell ⟨w.heap.size + 3, 0, none⟩ (.int .i64 (s : Nat))).setCell ⟨w.heap.size + 3, 1, none⟩ (.int .i64 (p : Nat))) := (bw2.setCell (by show w.heap.size ≤ w.heap.size + 3; omega) _).setCell (by show w.heap.size ≤ w.heap.size + 3; omega) _
 generalize (Z.setCell ⟨w.heap.size + 3, 0, none⟩ (.int .i64 (s : Nat))).setCell ⟨w.heap.size + 3, 1, none⟩ (.int .i64 (p : Nat)) = Z2 at *
 go_wp2
 exact bodyPost_ret (result_cel2 rfl (w.heap.size + 2) (w.heap.size + 3) _ _ rfl rfl r1 r2 Tryz.underlying120 Tryz.underlying109 info_blk info_mrk) rfl ⟨rfl, bw2⟩
theorem blv_lt64 (m : Nat) (f : Nat → Bool) (i : Nat) : blv m f i < 18446744073709551616 := by have := blv_lt m f i; omega
theorem count_is (m : Nat) (Y : List Nat) (bit : Bool) (i j : Nat) (h0 : 0 < i) (hj : j = (i - 1) / 15) (hi : i ≤ m) : bon m (bitAt Y) j + cnt (blv m (bitAt Y) j) (i - 15 * j) = cntB Y i := by
 have a := bon_cnt m Y j (by omega)
 have b := blv_cnt m Y j (i - 15 * j) (by omega) (by omega)
 rw [show 15 * j + (i - 15 * j) = i by omega] at b
 omega
theorem qcount_c (cs : List Value) (a : RA8) (m i : Nat) (Y : List Nat) (bit : Bool) (w : World) (h : KI8 w cs a) (v : KV a m Y) (hi : i ≤ m) :
  Calls Tryz.prog 84 #[.agg cs.toArray, .bool bit, .int .i64 i] w fun e w' => e = .returned (.int .i64 (cB Y bit i : Nat)) ∧ Below w.heap.size w w' := by
 have hm := v.le
 obtain ⟨j, hj⟩ : ∃ j, j = (i - 1) / 15 := ⟨_, rfl⟩
 have HB : Hid (0 < i → ∀ w0, Below w.heap.size w w0 → Calls Tryz.prog 80 #[.agg cs.toArray, .int .i64 (j : Int)] w0 fun e w' => e = .returned (.tuple #[.agg #[.int .i64 (cls a.xs j : Nat), .int .u64 (cOff a.L a.ys a.xs j : Nat)], .agg #[.int .i64 (cOn a.xs j : Nat), .int .i64 (cAt a.xs j : Nat)]]) ∧ Below w0.heap.size w0 w') := by
  intro h0 w0 hb
  exact qblockAt_c cs a m j Y w0 (h.keep hb) v (by unfold nb; omega)
 have HW : Hid (0 < i → ∀ w0, Calls Tryz.prog 81 #[.agg #[.int .i64 (cls a.xs j : Nat), .int .u64 (cOff a.L a.ys a.xs j : Nat)]] w0 fun e w' => e = .returned (.int .u64 (blv m (bitAt Y) j : Nat)) ∧ Below w0.heap.size w0 w') := by
  intro h0 w0
  have hjn : j < nb m := by unfold nb; omega
  have := qwordOf_c (cls a.xs j) (cOff a.L a.ys a.xs j) (cls_le _ _) (v.off j hjn) w0
  rw [v.wd j hjn] at this
  exact this
 have HR : Hid (0 < i → ∀ w0, Calls Tryz.prog 129 #[.int .u64 (blv m (bitAt Y) j : Nat), .int .i64 ((i : Int) - (j : Int) * 15)] w0 fun e w' => e = .returned (.int .i64 (cnt (blv m (bitAt Y) j) (i - 15 * j) : Nat)) ∧ w' = w0) := by
  intro h0 w0
  have := rank_c (blv m (bitAt Y) j : Nat) ((i : Int) - (j : Int) * 15) (by omega) (by have := blv_lt64 m (bitAt Y) j; omega) w0
  unfold rankI at this
  rw [Int.toNat_natCast, show min ((i : Int) - (j : Int) * 15).toNat 64 = i - 15 * j by omega] at this
  exact this
 have HS : Hid (0 < i → cOn a.xs j + cnt (blv m (bitAt Y) j) (i - 15 * j) = cntB Y i) := by
  intro h0
  rw [v.on j (by unfold nb; omega)]
  exact count_is m Y bit i j h0 hj hi
 have cl := cntB_le Y i
 have HO : Hid (∀ w0, Calls Tryz.prog 139 #[.bool bit, .int .i64 i, .int .i64 (cntB Y i : Nat)] w0 fun e w' => e = .returned (.int .i64 (cB Y bit i : Nat)) ∧ w' = w0) := fun w0 => qofBit_c bit i (cntB Y i) cl (by omega) w0
 clear v
 obtain ⟨⟨ao, cap, qo, dap, so, sc, tO, tc, rfl, _⟩, _⟩ := h
 obtain ⟨N, k, V, M, xs, L, ys, S, T⟩ := a
 dsimp only at *
 obtain ⟨W, hW⟩ : ∃ W, W = w.alloc (.cells #[.int .i64 N, .int .i64 k, .int .i64 V, .int .i64 M, .slice ao xs.length cap, .int .i64 L, .slice qo ys.length dap, .slice so S.length sc, .slice tO T.length tc] 33) := ⟨_, rfl⟩
 have bW := yb1 hW
 by_cases h0 : i = 0
 ·subst h0
  have z : cB Y bit 0 = 0 := by have := cB_le Y bit 0; omega
  rw [z]
  clear HB HW HR HS HO
  go_enter Tryz.func84, Tryz.ntmps84
  go_wp2
  go_ret
  rw [← hW]
  exact ⟨rfl, bW⟩
 ·have h1 : 0 < i := by omega
  have HS2 := HS.out h1
  clear HS
  have hji : j * 15 ≤ i := by omega
  have i0 : ((i : Int) == 0) = false := by simp; omega
  have cv := cnt_le (blv m (bitAt Y) j) (i - 15 * j)
  have hjd : ((i : Int) - 1) / 15 = (j : Int) := by omega
  have hjb : j ≤ 1048576 := by omega
  generalize cls xs j = c at *
  generalize cOff L ys xs j = o at *
  generalize cOn xs j = s at *
  generalize cAt xs j = p at *
  generalize cnt (blv m (bitAt Y) j) (i - 15 * j) = rk at *
  generalize blv m (bitAt Y) j = bw at *
  generalize cB Y bit i = res at *
  generalize cntB Y i = cn at *
  have hj2 : ((i - 1 : Nat) : Int) / 15 = (j : Int) := by omega
  have u2 : Hid (IntKind.i64.wrap ((i : Int) - IntKind.i64.wrap (((i - 1 : Nat) : Int) / 15 * 15)) = (i : Int) - (j : Int) * 15) := by
   have w1 : IntKind.i64.wrap ((j : Int) * 15) = (j : Int) * 15 := by rw [IntKind.wrap_i64]; omega
   have w2 : IntKind.i64.wrap ((i : Int) - (j : Int) * 15) = (i : Int) - (j : Int) * 15 := by rw [IntKind.wrap_i64]; omega
   show IntKind.i64.wrap ((i : Int) - IntKind.i64.wrap (((i - 1 : Nat) : Int) / 15 * 15)) = (i : Int) - (j : Int) * 15
   rw [hj2, w1, w2]
  clear hj2
  have u3 : IntKind.i64.wrap ((s : Int) + (rk : Int)) = (cn : Int) := by rw [IntKind.wrap_i64]; omega
  go_enter Tryz.func84, Tryz.ntmps84
  go_wp2_with fail
  rw [← hW, show ((i - 1 : Nat) : Int) / 15 = (j : Int) by omega, hjd]
  refine (HB.out (by first | exact h1 | trivial) _ bW).mono ?_
  rintro e w1 ⟨rfl, hb⟩
  have bw1 := bW.trans (hb.mono bW.size)
  clear hW hb HB bW
  go_wp2
  have hb8 := below_alloc w1 (.cells #[.int .i64 (c : Nat), .int .u64 (o : Nat)] 120)
  have hb9 := below_alloc (w1.alloc (.cells #[.int .i64 (c : Nat), .int .u64 (o : Nat)] 120)) (.cells #[.int .i64 (s : Nat), .int .i64 (p : Nat)] 109)
  have B1 := (Cel.new w1 [.int .i64 (c : Nat), .int .u64 (o : Nat)] 120).kept hb9
  have B2 := Cel.new2 w1 (.cells #[.int .i64 (c : Nat), .int .u64 (o : Nat)] 120) [.int .i64 (s : Nat), .int .i64 (p : Nat)] 109
  have bV := bw1.trans ((hb8.trans (hb9.mono (by simp))).mono bw1.size)
  clear hb8 hb9 bw1
  refine region_g [] (fun w' => Cel w' w1.heap.size [.int .i64 (c : Nat), .int .u64 (o : Nat)] 120 ∧ Cel w' (w1.heap.size + 1) [.int .i64 (s : Nat), .int .i64 (p : Nat)] 109) (by kernel_rfl) ?_
  generalize (w1.alloc (.cells #[.int .i64 (c : Nat), .int .u64 (o : Nat)] 120)).alloc (.cells #[.int .i64 (s : Nat), .int .i64 (p : Nat)] 109) = U at *
  have hS : Cel U.drew w1.heap.size [.int .i64 (c : Nat), .int .u64 (o : Nat)] 120 ∧ Cel U.drew (w1.heap.size + 1) [.int .i64 (s : Nat), .int .i64 (p : Nat)] 109 := ⟨B1, B2⟩
  replace bV : Below w.heap.size w U.drew := bV.drew
  generalize U.drew = Z at *
  clear B1 B2
  refine AnyG.tk 0 hS ?_
  refine AnyG.tk 1 hS ?_
  refine AnyG.tk 2 hS ?_
  refine AnyG.tf 3 hS rfl (fun w0 h0 => by have c0 := h0.2.cell 0 rfl; go_simp; try with_reducible rfl) ?_
  refine AnyG.tf 4 hS rfl (fun w0 h0 => by have c0 := h0.1.cell 0 rfl; have c1 := h0.1.cell 1 rfl; go_simp; try with_reducible rfl) ?_
  refine AnyG.tk 6 hS ?_
  refine AnyG.tk 7 hS ?_
  refine AnyG.tk 8 hS ?_
  refine AnyG.tk 9 hS ?_
  refine AnyG.o1 5 ?_
  intro K hK
  go_simp
  refine (HW.out (by first | exact h1 | trivial) _).mono ?_
  rintro e w3 ⟨rfl, hb⟩
  have hS3 := And.intro (hS.1.kept hb) (hS.2.kept hb)
  have bw3 := bV.trans (hb.mono bV.size)
  clear hb hS bV HW
  refine hK.out _ _ (fun _ => hS3) ?_
  clear hK K
  try simp only [Act.put, yq0, yq1, yq2, yq3, yq4, yq5]
  refine AnyG.o1 10 ?_
  intro K hK
  go_simp
  rw [u2.out]
  refine (HR.out (by first | exact h1 | trivial) _).mono ?_
  rintro e w4 ⟨rfl, rfl⟩
  refine hK.out _ _ (fun _ => hS3) ?_
  clear hK K
  try simp only [Act.put, yq0, yq1, yq2, yq3, yq4, yq5]
  refine AnyG.tk 11 hS3 ?_
  refine AnyG.o1 12 ?_
  intro K hK
  go_simp
  (try rw [u3])
  refine (HO.out _).mono ?_
  rintro e w5 ⟨rfl, rfl⟩
  refine hK.out _ _ (fun _ => hS3) ?_
  clear hK K
  try simp only [Act.put, yq0, yq1, yq2, yq3, yq4, yq5]
  refine AnyG.tk 13 hS3 ?_
  refine AnyG.done (by kernel_rfl) ?_ _
  go_wp2
  go_ret
  exact ⟨rfl, bw3⟩
theorem bit_end (x : Nat) (hx : x < 18446744073709551616) (k : Nat) : (bits BinOp.and IntKind.u64 ((x : Int) / 2 ^ k) 1 == 1) = x.testBit k := by
 rw [bit_and _ _ (by omega) (by omega), bit_test, Int.toNat_natCast, Bool.eq_iff_iff, beq_iff_eq, decide_eq_true_eq]
 omega
theorem blv_bit (m : Nat) (Y : List Nat) (n : Nat) (h : n < m) : (blv m (bitAt Y) (n / 15)).testBit (n % 15) = bitAt Y n := by
 unfold blv
 rw [testBit_numOf, show 15 * (n / 15) + n % 15 = n by omega]
 simp [h, show n % 15 < 15 by omega]
theorem ret_pair2 {a b c d : Value} (h : a = b) (h2 : c = d) : Ending.returned (.tuple #[a, c]) = .returned (.tuple #[b, d]) := by rw [h, h2]
theorem access_k8 (cs : List Value) (a : RA8) (i : Int) (w : World) (h : KI8 w cs a) (hi : I64 i) :
  Calls Tryz.prog 33 #[.agg cs.toArray, .int .i64 i] w fun e w' => e = .returned (.tuple #[.bool (gaB (kOk8 a) (kBN8 a) (kBX8 a) i), .int .i64 (gaE (kOk8 a) (kBN8 a) (kBX8 a) i)]) ∧ Below w.heap.size w w' := by
 have C := fun (w0 : World) (hb : Below w.heap.size w w0) => qcheck_c cs a w0 (h.keep hb)
 cases hk : kOk8 a with
 | false =>
  rw [hk] at C
  have CH : Hid (∀ w0, Below w.heap.size w w0 → Calls Tryz.prog 59 #[.agg cs.toArray] w0 fun e w' => e = .returned (.bool false) ∧ Below w0.heap.size w0 w') := C
  show Calls _ _ _ _ fun e w' => e = .returned (.tuple #[.bool false, .int .i64 2]) ∧ Below w.heap.size w w'
  clear C hk
  obtain ⟨⟨ao, cap, qo, dap, so, sc, tO, tc, rfl, _⟩, _⟩ := h
  obtain ⟨N, k, V, M, xs, L, ys, S, T⟩ := a
  dsimp only at *
  obtain ⟨W, hW⟩ : ∃ W, W = w.alloc (.cells #[.int .i64 N, .int .i64 k, .int .i64 V, .int .i64 M, .slice ao xs.length cap, .int .i64 L, .slice qo ys.length dap, .slice so S.length sc, .slice tO T.length tc] 33) := ⟨_, rfl⟩
  have bW := yb1 hW
  go_enter Tryz.func33, Tryz.ntmps33
  go_wp2_with fail
  rw [← hW]
  refine (CH.out _ bW).mono ?_
  rintro e w1 ⟨rfl, hb⟩
  have bw1 := bW.trans (hb.mono bW.size)
  clear hW hb
  go_wp2
  go_ret2
  exact ⟨rfl, bw1⟩
 | true =>
 rw [hk] at C
 have CH : Hid (∀ w0, Below w.heap.size w w0 → Calls Tryz.prog 59 #[.agg cs.toArray] w0 fun e w' => e = .returned (.bool true) ∧ Below w0.heap.size w0 w') := C
 obtain ⟨m, eN, v⟩ := ok_kv a hk
 have hm := v.le
 have vN := v.nN
 have hck := v.ck
 clear C hk
 rw [eN]
 generalize kBX8 a = Y at *
 have ga : gaE true (m : Int) Y i = if i < 0 ∨ (m : Int) ≤ i then 3 else 0 := by unfold gaE getE; rw [hck]; simp
 have gb : gaB true (m : Int) Y i = (decide (0 ≤ i ∧ i < (m : Int)) && bitAt Y i.toNat) := by unfold gaB getB; rw [hck]; simp
 by_cases hr : i < 0 ∨ (m : Int) ≤ i
 ·rw [ga, gb, if_pos hr, decide_eq_false (by omega), Bool.false_and]
  clear v ga gb
  obtain ⟨⟨ao, cap, qo, dap, so, sc, tO, tc, rfl, _⟩, _⟩ := h
  obtain ⟨N, k, V, M, xs, L, ys, S, T⟩ := a
  dsimp only at *
  subst vN
  obtain ⟨W, hW⟩ : ∃ W, W = w.alloc (.cells #[.int .i64 (m : Int), .int .i64 k, .int .i64 V, .int .i64 M, .slice ao xs.length cap, .int .i64 L, .slice qo ys.length dap, .slice so S.length sc, .slice tO T.length tc] 33) := ⟨_, rfl⟩
  have bW := yb1 hW
  have B1 := yc1 hW
  go_enter Tryz.func33, Tryz.ntmps33
  go_wp2_with fail
  rw [← hW]
  refine (CH.out _ bW).mono ?_
  rintro e w1 ⟨rfl, hb⟩
  have bw1 := bW.trans (hb.mono bW.size)
  have q0 := (B1.kept hb).cell 0 rfl
  clear hW hb
  by_cases h0 : i < 0
  ·go_wp2
   go_ret2
   exact ⟨rfl, bw1⟩
  ·have h1 : (m : Int) ≤ i := by omega
   go_wp2
   go_ret2
   exact ⟨rfl, bw1⟩
 ·obtain ⟨n, rfl⟩ := Int.eq_ofNat_of_zero_le (show 0 ≤ i by omega)
  rw [ga, gb, if_neg hr, decide_eq_true (by omega), Bool.true_and, Int.toNat_natCast]
  have hn : n < m := by omega
  have h0 : ¬ (n : Int) < 0 := by omega
  have h1 : ¬ (m : Int) ≤ (n : Int) := by omega
  have hnb : n / 15 < nb m := by unfold nb; omega
  have HB : Hid (∀ w0, Below w.heap.size w w0 → Calls Tryz.prog 80 #[.agg cs.toArray, .int .i64 ((n : Int) / 15)] w0 fun e w' => e = .returned (.tuple #[.agg #[.int .i64 (cls a.xs (n / 15) : Nat), .int .u64 (cOff a.L a.ys a.xs (n / 15) : Nat)], .agg #[.int .i64 (cOn a.xs (n / 15) : Nat), .int .i64 (cAt a.xs (n / 15) : Nat)]]) ∧ Below w0.heap.size w0 w') := by
   intro w0 hb
   rw [show (n : Int) / 15 = ((n / 15 : Nat) : Int) by omega]
   exact qblockAt_c cs a m (n / 15) Y w0 (h.keep hb) v hnb
  have HW : Hid (∀ w0, Calls Tryz.prog 81 #[.agg #[.int .i64 (cls a.xs (n / 15) : Nat), .int .u64 (cOff a.L a.ys a.xs (n / 15) : Nat)]] w0 fun e w' => e = .returned (.int .u64 (blv m (bitAt Y) (n / 15) : Nat)) ∧ Below w0.heap.size w0 w') := by
   intro w0
   have := qwordOf_c (cls a.xs (n / 15)) (cOff a.L a.ys a.xs (n / 15)) (cls_le _ _) (v.off _ hnb) w0
   rw [v.wd _ hnb] at this
   exact this
  have HE : Hid ((bits BinOp.and IntKind.u64 ((blv m (bitAt Y) (n / 15) : Nat) / 2 ^ (n % 15)) 1 == 1) = bitAt Y n) := by
   show (bits BinOp.and IntKind.u64 (((blv m (bitAt Y) (n / 15) : Nat) : Int) / 2 ^ (n % 15)) 1 == 1) = bitAt Y n
   rw [bit_end _ (blv_lt64 _ _ _), blv_bit m Y n hn]
  clear v ga gb hr hck
  generalize bitAt Y n = R at *
  generalize blv m (bitAt Y) (n / 15) = bw at *
  obtain ⟨⟨ao, cap, qo, dap, so, sc, tO, tc, rfl, _⟩, _⟩ := h
  obtain ⟨N, k, V, M, xs, L, ys, S, T⟩ := a
  dsimp only at *
  subst vN
  generalize cls xs (n / 15) = c at *
  generalize cOff L ys xs (n / 15) = o at *
  generalize cOn xs (n / 15) = s at *
  generalize cAt xs (n / 15) = p at *
  obtain ⟨W, hW⟩ : ∃ W, W = w.alloc (.cells #[.int .i64 (m : Int), .int .i64 k, .int .i64 V, .int .i64 M, .slice ao xs.length cap, .int .i64 L, .slice qo ys.length dap, .slice so S.length sc, .slice tO T.length tc] 33) := ⟨_, rfl⟩
  have bW := yb1 hW
  have B1 := yc1 hW
  go_enter Tryz.func33, Tryz.ntmps33
  go_wp2_with fail
  rw [← hW]
  refine (CH.out _ bW).mono ?_
  rintro e w1 ⟨rfl, hb⟩
  have bw1 := bW.trans (hb.mono bW.size)
  replace B1 := B1.kept hb
  have q0 := B1.cell 0 rfl
  have q1 := B1.cell 1 rfl
  have q2 := B1.cell 2 rfl
  have q3 := B1.cell 3 rfl
  have q4 := B1.cell 4 rfl
  have q5 := B1.cell 5 rfl
  have q6 := B1.cell 6 rfl
  have q7 := B1.cell 7 rfl
  have q8 := B1.cell 8 rfl
  clear hW hb
  go_wp2_with fail
  refine (HB.out _ bw1).mono ?_
  rintro e w2 ⟨rfl, hb⟩
  have bw2 := bw1.trans (hb.mono bw1.size)
  clear hb bw1 q0 q1 q2 q3 q4 q5 q6 q7 q8 B1 HB
  go_wp2_with fail
  have bw3 : Below w.heap.size w ((w2.alloc (.cells #[.int .i64 (c : Nat), .int .u64 (o : Nat)] 120)).alloc (.cells #[.int .i64 (s : Nat), .int .i64 (p : Nat)] 109)) := (bw2.alloc bw2.size _).alloc (by have := bw2.size; simp; omega) _
  generalize (w2.alloc (.cells #[.int .i64 (c : Nat), .int .u64 (o : Nat)] 120)).alloc (.cells #[.int .i64 (s : Nat), .int .i64 (p : Nat)] 109) = U at *
  refine (HW.out _).mono ?_
  rintro e w4 ⟨rfl, hb⟩
  have bw4 := bw3.trans (hb.mono bw3.size)
  clear hb bw3 HW
  go_wp2
  go_ret2
  exact ⟨ret_pair2 (congrArg Value.bool HE.out) rfl, bw4⟩
theorem rank_k8 (cs : List Value) (a : RA8) (bit : Bool) (i : Int) (w : World) (h : KI8 w cs a) (hi : I64 i) :
  Calls Tryz.prog 36 #[.agg cs.toArray, .bool bit, .int .i64 i] w fun e w' => e = .returned (.tuple #[.int .i64 (grN (kOk8 a) (kBN8 a) (kBX8 a) bit i), .int .i64 (grE (kOk8 a) (kBN8 a) i)]) ∧ Below w.heap.size w w' := by
 have C := fun (w0 : World) (hb : Below w.heap.size w w0) => qcheck_c cs a w0 (h.keep hb)
 cases hk : kOk8 a with
 | false =>
  rw [hk] at C
  have CH : Hid (∀ w0, Below w.heap.size w w0 → Calls Tryz.prog 59 #[.agg cs.toArray] w0 fun e w' => e = .returned (.bool false) ∧ Below w0.heap.size w0 w') := C
  show Calls _ _ _ _ fun e w' => e = .returned (.tuple #[.int .i64 0, .int .i64 2]) ∧ Below w.heap.size w w'
  clear C hk
  obtain ⟨⟨ao, cap, qo, dap, so, sc, tO, tc, rfl, _⟩, _⟩ := h
  obtain ⟨N, k, V, M, xs, L, ys, S, T⟩ := a
  dsimp only at *
  obtain ⟨W, hW⟩ : ∃ W, W = w.alloc (.cells #[.int .i64 N, .int .i64 k, .int .i64 V, .int .i64 M, .slice ao xs.length cap, .int .i64 L, .slice qo ys.length dap, .slice so S.length sc, .slice tO T.length tc] 33) := ⟨_, rfl⟩
  have bW := yb1 hW
  go_enter Tryz.func36, Tryz.ntmps36
  go_wp2_with fail
  rw [← hW]
  refine (CH.out _ bW).mono ?_
  rintro e w1 ⟨rfl, hb⟩
  have bw1 := bW.trans (hb.mono bW.size)
  clear hW hb
  go_wp2
  go_ret2
  exact ⟨rfl, bw1⟩
 | true =>
 rw [hk] at C
 have CH : Hid (∀ w0, Below w.heap.size w w0 → Calls Tryz.prog 59 #[.agg cs.toArray] w0 fun e w' => e = .returned (.bool true) ∧ Below w0.heap.size w0 w') := C
 obtain ⟨m, eN, v⟩ := ok_kv a hk
 have hm := v.le
 have vN := v.nN
 clear C hk
 rw [eN]
 generalize kBX8 a = Y at *
 have ga : grE true (m : Int) i = if i < 0 ∨ (m : Int) < i then 3 else 0 := rfl
 by_cases hr : i < 0 ∨ (m : Int) < i
 ·have gb : grN true (m : Int) Y bit i = 0 := by unfold grN; rw [ga, if_pos hr]; rfl
  rw [ga, gb, if_pos hr]
  clear v ga gb
  obtain ⟨⟨ao, cap, qo, dap, so, sc, tO, tc, rfl, _⟩, _⟩ := h
  obtain ⟨N, k, V, M, xs, L, ys, S, T⟩ := a
  dsimp only at *
  subst vN
  obtain ⟨W, hW⟩ : ∃ W, W = w.alloc (.cells #[.int .i64 (m : Int), .int .i64 k, .int .i64 V, .int .i64 M, .slice ao xs.length cap, .int .i64 L, .slice qo ys.length dap, .slice so S.length sc, .slice tO T.length tc] 33) := ⟨_, rfl⟩
  have bW := yb1 hW
  have B1 := yc1 hW
  go_enter Tryz.func36, Tryz.ntmps36
  go_wp2_with fail
  rw [← hW]
  refine (CH.out _ bW).mono ?_
  rintro e w1 ⟨rfl, hb⟩
  have bw1 := bW.trans (hb.mono bW.size)
  have q0 := (B1.kept hb).cell 0 rfl
  clear hW hb
  by_cases h0 : i < 0
  ·go_wp2
   go_ret2
   exact ⟨rfl, bw1⟩
  ·have h1 : (m : Int) < i := by omega
   go_wp2
   go_ret2
   exact ⟨rfl, bw1⟩
 ·obtain ⟨n, rfl⟩ := Int.eq_ofNat_of_zero_le (show 0 ≤ i by omega)
  have hn : n ≤ m := by omega
  have gb : grN true (m : Int) Y bit (n : Int) = (cB Y bit n : Nat) := by unfold grN; rw [ga, if_neg hr, if_pos rfl, Int.toNat_natCast]
  rw [ga, gb, if_neg hr]
  have h0 : ¬ (n : Int) < 0 := by omega
  have h1 : ¬ (m : Int) < (n : Int) := by omega
  have HB : Hid (∀ w0, Below w.heap.size w w0 → Calls Tryz.prog 84 #[.agg cs.toArray, .bool bit, .int .i64 (n : Int)] w0 fun e w' => e = .returned (.int .i64 (cB Y bit n : Nat)) ∧ Below w0.heap.size w0 w') := fun w0 hb => qcount_c cs a m n Y bit w0 (h.keep hb) v hn
  clear v ga gb hr
  generalize cB Y bit n = R at *
  obtain ⟨⟨ao, cap, qo, dap, so, sc, tO, tc, rfl, _⟩, _⟩ := h
  obtain ⟨N, k, V, M, xs, L, ys, S, T⟩ := a
  dsimp only at *
  subst vN
  obtain ⟨W, hW⟩ : ∃ W, W = w.alloc (.cells #[.int .i64 (m : Int), .int .i64 k, .int .i64 V, .int .i64 M, .slice ao xs.length cap, .int .i64 L, .slice qo ys.length dap, .slice so S.length sc, .slice tO T.length tc] 33) := ⟨_, rfl⟩
  have bW := yb1 hW
  have B1 := yc1 hW
  go_enter Tryz.func36, Tryz.ntmps36
  go_wp2_with fail
  rw [← hW]
  refine (CH.out _ bW).mono ?_
  rintro e w1 ⟨rfl, hb⟩
  have bw1 := bW.trans (hb.mono bW.size)
  replace B1 := B1.kept hb
  have q0 := B1.cell 0 rfl
  have q1 := B1.cell 1 rfl
  have q2 := B1.cell 2 rfl
  have q3 := B1.cell 3 rfl
  have q4 := B1.cell 4 rfl
  have q5 := B1.cell 5 rfl
  have q6 := B1.cell 6 rfl
  have q7 := B1.cell 7 rfl
  have q8 := B1.cell 8 rfl
  clear hW hb
  go_wp2_with fail
  refine (HB.out _ bw1).mono ?_
  rintro e w2 ⟨rfl, hb⟩
  have bw2 := bw1.trans (hb.mono bw1.size)
  clear hb bw1 q0 q1 q2 q3 q4 q5 q6 q7 q8 B1 HB
  go_wp2
  go_ret2
  exact ⟨rfl, bw2⟩
theorem size_k8 (cs : List Value) (a : RA8) (w : World) (h : KI8 w cs a) :
  Calls Tryz.prog 48 #[.agg cs.toArray] w fun e w' => e = .returned (.int .i64 (kZ8 a)) ∧ Below w.heap.size w w' := by
 have C := fun (w0 : World) (hb : Below w.heap.size w w0) => qcheck_c cs a w0 (h.keep hb)
 obtain ⟨⟨ao, cap, qo, dap, so, sc, tO, tc, rfl, _⟩, _, _, sl, tl⟩ := h
 obtain ⟨N, k, V, M, xs, L, ys, S, T⟩ := a
 dsimp only at *
 obtain ⟨Z, hZ⟩ : ∃ Z, Hid (Z = kZ8 ⟨N, k, V, M, xs, L, ys, S, T⟩) := ⟨_, rfl⟩
 rw [← hZ.out]
 obtain ⟨W, hW⟩ : ∃ W, W = w.alloc (.cells #[.int .i64 N, .int .i64 k, .int .i64 V, .int .i64 M, .slice ao xs.length cap, .int .i64 L, .slice qo ys.length dap, .slice so S.length sc, .slice tO T.length tc] 33) := ⟨_, rfl⟩
 have bW := yb1 hW
 have B1 := yc1 hW
 have CH : Hid (∀ w0, Below w.heap.size w w0 → Calls Tryz.prog 59 #[.agg #[.int .i64 N, .int .i64 k, .int .i64 V, .int .i64 M, .slice ao xs.length cap, .int .i64 L, .slice qo ys.length dap, .slice so S.length sc, .slice tO T.length tc]] w0 fun e w' => e = .returned (.bool (kOk8 ⟨N, k, V, M, xs, L, ys, S, T⟩)) ∧ Below w0.heap.size w0 w') := C
 clear C
 cases hk : kOk8 ⟨N, k, V, M, xs, L, ys, S, T⟩ with
 | false =>
  rw [hk] at CH
  have E : Hid (Z = 0) := by
   show Z = 0
   rw [hZ.out]
   unfold kZ8 rzN
   rw [show rOk N k V M xs L ys S T = false from hk]
   rfl
  clear hk hZ
  go_enter Tryz.func48, Tryz.ntmps48
  go_wp2_with fail
  rw [← hW]
  refine (CH.out _ bW).mono ?_
  rintro e w1 ⟨rfl, hb⟩
  have bw1 := bW.trans (hb.mono bW.size)
  clear hW
  go_wp2
  go_ret
  rw [E.out]
  exact ⟨rfl, bw1⟩
 | true =>
  rw [hk] at CH
  have E : Hid (Z = M + L + 64 * (S.length : Int)) := by
   show Z = _
   rw [hZ.out]
   unfold kZ8 rzN
   rw [show rOk N k V M xs L ys S T = true from hk]
   rfl
  obtain ⟨_, i2, i3, _⟩ := rOk_out N k V M xs L ys S T hk
  obtain ⟨_, _, _, _, _, m1, m2, _⟩ := ichk_out k V M xs i2
  obtain ⟨l1, l2, _, _⟩ := chk_out L ys i3
  clear hk hZ
  go_enter Tryz.func48, Tryz.ntmps48
  go_wp2_with fail
  rw [← hW]
  refine (CH.out _ bW).mono ?_
  rintro e w1 ⟨rfl, hb⟩
  have bw1 := bW.trans (hb.mono bW.size)
  replace B1 := B1.kept hb
  have r3 := B1.cell 3 rfl
  have r5 := B1.cell 5 rfl
  have r7 := B1.cell 7 rfl
  clear hW hb
  go_wp2
  go_ret
  rw [E.out]
  exact ⟨rfl, bw1⟩
end Go.Proofs.YtpeecabfcgijhaaGreatDoor
