/-
  The contract of the program's parted: a node of a row, and the node of the next row. Plain: the text of a tree that may be, the nodes that a symbol goes through, and what is counted on the way. The contract of the program's pathOf: the nodes that a symbol goes through, in an array. The contract of the program's Rank of trees.
-/
import Derived.Test.YtfnkklkdajlhlaaGreatDoorL11
set_option linter.unusedVariables false
set_option linter.unusedSimpArgs false
set_option maxRecDepth 100000
set_option maxHeartbeats 16000000
namespace Go.Proofs.YtfnkklkdajlhlaaGreatDoor
open Go.RowKit Num Bit
theorem cB_gap (xs : List Nat) (b : Bool) (s d : Nat) : cB xs b (s + d) ≤ cB xs b s + d := by
 induction d with
 | zero => exact Nat.le_refl _
 | succ d ih =>
  rw [show s + (d + 1) = s + d + 1 by omega, cB_succ]
  split <;> omega
theorem result_cc {fn : Func} {p u : Tmp} {T : TypeId} {w : World} {tmps : Array Value} (h : fn.results = #[.cell p T, .cell u T]) (g k : Nat) (cs ds : List Value) {fs : Array Field} (hp : tmps.getD p undef = .pointer (some ⟨g, 0, none⟩)) (hu : tmps.getD u undef = .pointer (some ⟨k, 0, none⟩)) (hc : Cel w g cs T) (hd : Cel w k ds T) (hn : Tryz.prog.underlying T = some (.struct fs)) (hi : (Tryz.prog.info? T).map (·.size) = some cs.length) (hj : (Tryz.prog.info? T).map (·.size) = some ds.length) :
  (results fn tmps).run Tryz.prog w = .ok (.tuple #[.agg cs.toArray, .agg ds.toArray]) w := by
 have hp' : tmps[p]?.getD undef = .pointer (some ⟨g, 0, none⟩) := by simpa using hp
 have hu' : tmps[u]?.getD undef = .pointer (some ⟨k, 0, none⟩) := by simpa using hu
 have hl := run_loadVar_row (P := Tryz.prog) w g T T cs.toArray (0, 0) _ hc hn rfl (by simpa using hi)
 have hm := run_loadVar_row (P := Tryz.prog) w k T T ds.toArray (0, 0) _ hd hn rfl (by simpa using hj)
 simp [results, h, hp', hu', asAddr, hl, hm]
theorem wp_store_cel {o : Oper} {a : Act} {w : World} {K : Act → World → Prop} {Q : Exit → Act → World → Prop} {T : TypeId} {x y : Operand} (ho : o.op = .store T x y)
  (g : Nat) (old cs : List Value) (hx : a.eval x = .pointer (some ⟨g, 0, none⟩)) (hy : a.eval y = .agg cs.toArray) (hc : Cel w g old T) (lo : old.length = cs.length) (hi : (Tryz.prog.info? T).map (·.size) = some cs.length) (h1 : cs.toArray.all (·.oneCell') = true)
  (h : ∀ w1, Cel w1 g cs T → Only g w w1 → K (a.put o.dst undef) w1) : o.wp Tryz.prog a w K Q :=
 wp_store_row T x y ho g _ hx hy _ _ hc (by simpa using hi) (by simpa using lo) h1 (h _ (setRow_heap w g _ _ _ _ hc) (Only.row g w _))
def nd3 (a b c : Int) : List Value := [.int .i64 a, .int .i64 b, .int .i64 c]
def nS (bit : Bool) (s e A E : Nat) : Int := if bit then (e : Int) - ((E : Int) - (A : Int)) else s
def nE (bit : Bool) (s e A E : Nat) : Int := if bit then e else (s : Int) + ((E : Int) - (A : Int))
theorem parted_c {P : RA → Prop} (V : VR P) (cs : List Value) (a : RA) (bit : Bool) (n s e : Nat) (h0 : Int) (w : World) (h : KI w cs a) (ok : kOk a = true) (hn : kBN a = n) (hs : s ≤ e) (he : e ≤ n) (hb : n ≤ 8192) (hp : P a) :
  Calls Tryz.prog 34 #[.agg cs.toArray, .agg #[.int .i64 s, .int .i64 e, .int .i64 h0], .bool bit] w fun r w' => r = .returned (.tuple #[.agg #[.int .i64 s, .int .i64 e, .int .i64 (cB (kBX a) bit s : Nat)], .agg #[.int .i64 (nS bit s e (cB (kBX a) bit s) (cB (kBX a) bit e)), .int .i64 (nE bit s e (cB (kBX a) bit s) (cB (kBX a) bit e)), .int .i64 0]]) ∧ Below w.heap.size w w' := by
 have HPP := Hid.mkt hp
 clear hp
 have C : Hid (∀ w0, Below w.heap.size w w0 → ∀ i, i ≤ n → Calls Tryz.prog 35 #[.agg cs.toArray, .bool bit, .int .i64 (i : Nat)] w0 fun e w' => e = .returned (.int .i64 (cB (kBX a) bit i : Nat)) ∧ Below w0.heap.size w0 w') := fun w0 h1 i hi => count_t V cs a bit n i w0 (h.keep h1) ok hn hi (by omega) HPP.out
 have HL := Hid.mkt h.arg.len
 have m1 := cB_gap (kBX a) bit s (e - s)
 have m2 := cB_mono (kBX a) bit s (e - s)
 rw [show s + (e - s) = e by omega] at m1 m2
 have m3 := cB_le (kBX a) bit e
 obtain ⟨A, hA⟩ : ∃ A, A = cB (kBX a) bit s := ⟨_, rfl⟩
 obtain ⟨E, hE⟩ : ∃ E, E = cB (kBX a) bit e := ⟨_, rfl⟩
 have C1 : Hid (∀ w0, Below w.heap.size w w0 → Calls Tryz.prog 35 #[.agg cs.toArray, .bool bit, .int .i64 (s : Nat)] w0 fun e w' => e = .returned (.int .i64 (A : Nat)) ∧ Below w0.heap.size w0 w') := fun w0 h1 => by rw [hA]; exact C.out w0 h1 s (by omega)
 have C2 : Hid (∀ w0, Below w.heap.size w w0 → Calls Tryz.prog 35 #[.agg cs.toArray, .bool bit, .int .i64 (e : Nat)] w0 fun e w' => e = .returned (.int .i64 (E : Nat)) ∧ Below w0.heap.size w0 w') := fun w0 h1 => by rw [hE]; exact C.out w0 h1 e (by omega)
 rw [← hA, ← hE] at m1 m2 ⊢
 rw [← hE] at m3
 clear C hA hE h ok hn
 obtain ⟨W, hW⟩ : ∃ W, W = (((w.alloc (.cells cs.toArray 45)).alloc (.cells (nd3 s e h0).toArray 73)).alloc (.cells (nd3 0 0 0).toArray 73)).alloc (.cells (nd3 0 0 0).toArray 73) := ⟨_, rfl⟩
 have bW : Below w.heap.size w W := by rw [hW]; exact (((below_alloc w _).alloc (by simp) _).alloc (by simp; omega) _).alloc (by simp; omega) _
 have B0 : Cel W w.heap.size cs 45 := by rw [hW]; exact (((Cel.new w _ _).alloc _).alloc _).alloc _
 have B1 : Cel W (w.heap.size + 1) (nd3 s e h0) 73 := by rw [hW]; exact ((Cel.new2 w _ _ _).alloc _).alloc _
 have B2 : Cel W (w.heap.size + 2) (nd3 0 0 0) 73 := by rw [hW]; exact ((Cel.new2 (w.alloc _) _ _ _).alloc _).at (by simp)
 have B3 : Cel W (w.heap.size + 3) (nd3 0 0 0) 73 := by rw [hW]; exact (Cel.new2 ((w.alloc _).alloc _) _ _ _).at (by simp)
 subst hW
 unfold nd3 at B1 B2 B3
 go_enter Tryz.func34, Tryz.ntmps34
 have r0 := B1.cell 0 rfl
 go_wp2_with (refine load_obj w.heap.size _ (by rfl) rfl B0 Tryz.underlying45 HL.out ?_)
 refine (C1.out _ bW).mono ?_
 rintro r w1 ⟨rfl, hb1⟩
 replace B0 := B0.kept hb1
 replace B1 := B1.kept hb1
 replace B2 := B2.kept hb1
 replace B3 := B3.kept hb1
 replace bW := bW.trans (hb1.mono bW.size)
 have f1 := B1.frozen 2
 have c2 := B1.cell 2 rfl
 have a1 : Cel (w1.setCell ⟨w.heap.size + 1, 2, none⟩ (.int .i64 (A : Int))) (w.heap.size + 1) [.int .i64 (s : Int), .int .i64 (e : Int), .int .i64 (A : Int)] 73 := B1.set 2 (.int .i64 (A : Int))
 have a0 := B0.other (a := ⟨w.heap.size + 1, 2, none⟩) (by show w.heap.size ≠ w.heap.size + 1; omega) (.int .i64 (A : Int))
 have a2 := B2.other (a := ⟨w.heap.size + 1, 2, none⟩) (by show w.heap.size + 2 ≠ w.heap.size + 1; omega) (.int .i64 (A : Int))
 have a3 := B3.other (a := ⟨w.heap.size + 1, 2, none⟩) (by show w.heap.size + 3 ≠ w.heap.size + 1; omega) (.int .i64 (A : Int))
 have bV : Below w.heap.size w (w1.setCell ⟨w.heap.size + 1, 2, none⟩ (.int .i64 (A : Int))) := bW.setCell (by show w.heap.size ≤ w.heap.size + 1; omega) _
 have HV := Hid.mkt (And.intro a0 (And.intro a1 (And.intro a2 (And.intro a3 bV))))
 clear hb1 r0 C1 a0 a1 a2 a3 bV B0 B1 B2 B3 bW
 go_wp2
 refine region_g [] (fun w' => Cel w' w.heap.size cs 45 ∧ Cel w' (w.heap.size + 1) [.int .i64 (s : Int), .int .i64 (e : Int), .int .i64 (A : Int)] 73 ∧ Cel w' (w.heap.size + 2) [.int .i64 0, .int .i64 0, .int .i64 0] 73 ∧ Cel w' (w.heap.size + 3) [.int .i64 0, .int .i64 0, .int .i64 0] 73) (by kernel_rfl) ?_
 have hS : Cel (w1.setCell ⟨w.heap.size + 1, 2, none⟩ (.int .i64 (A : Int))).drew w.heap.size cs 45 ∧ Cel (w1.setCell ⟨w.heap.size + 1, 2, none⟩ (.int .i64 (A : Int))).drew (w.heap.size + 1) [.int .i64 (s : Int), .int .i64 (e : Int), .int .i64 (A : Int)] 73 ∧ Cel (w1.setCell ⟨w.heap.size + 1, 2, none⟩ (.int .i64 (A : Int))).drew (w.heap.size + 2) [.int .i64 0, .int .i64 0, .int .i64 0] 73 ∧ Cel (w1.setCell ⟨w.heap.size + 1, 2, none⟩ (.int .i64 (A : Int))).drew (w.heap.size + 3) [.int .i64 0, .int .i64 0, .int .i64 0] 73 := ⟨HV.out.1, HV.out.2.1, HV.out.2.2.1, HV.out.2.2.2.1⟩
 have bW : Below w.heap.size w (w1.setCell ⟨w.heap.size + 1, 2, none⟩ (.int .i64 (A : Int))).drew := HV.out.2.2.2.2.drew
 clear HV f1 c2
 generalize (w1.setCell ⟨w.heap.size + 1, 2, none⟩ (.int .i64 (A : Int))).drew = V at *
 have w1' : IntKind.i64.wrap ((E : Int) - (A : Int)) = (E : Int) - (A : Int) := by rw [IntKind.wrap_i64]; omega
 refine AnyG.take 0 (v := .agg (cs).toArray) rfl (by kernel_rfl) (by kernel_rfl) (by kernel_rfl) (by kernel_rfl) (fun _ _ _ h => h) hS (fun w0 h0 => run_load_obj w.heap.size _ rfl h0.1 Tryz.underlying45 HL.out) (by rfl) ?rest1
 simp only [Act.put, yq0, yq1, yq2, yq3, yq4, yq5]
 refine AnyG.tk 1 hS ?_
 refine AnyG.tk 2 hS ?_
 refine AnyG.tf 3 hS rfl (fun w0 h0 => by have c1 := h0.2.1.cell 1 rfl; go_simp; try with_reducible rfl) ?_
 refine AnyG.tk 5 hS ?_
 refine AnyG.tf 6 hS rfl (fun w0 h0 => by have c2 := h0.2.1.cell 2 rfl; go_simp; try with_reducible rfl) ?_
 refine AnyG.o1 4 ?_
 intro K hK
 go_simp
 refine (C2.out _ bW).mono ?_
 rintro e4 w4 ⟨rfl, hb4⟩
 have hS2 := And.intro (hS.1.kept hb4) (And.intro (hS.2.1.kept hb4) (And.intro (hS.2.2.1.kept hb4) (hS.2.2.2.kept hb4)))
 have bW2 := bW.trans (hb4.mono bW.size)
 clear hb4 hS bW C2
 refine hK.out _ _ (fun _ => hS2) ?_
 clear hK K
 try simp only [Act.put, yq0, yq1, yq2, yq3, yq4, yq5]
 refine AnyG.tk 7 hS2 ?_
 refine AnyG.tk 8 hS2 ?_
 refine AnyG.done (by kernel_rfl) ?_ _
 cases bit with
 | true =>
  have w2' : IntKind.i64.wrap ((e : Int) - ((E : Int) - (A : Int))) = (e : Int) - ((E : Int) - (A : Int)) := by rw [IntKind.wrap_i64]; omega
  go_wp2
  refine region_g [9] (fun w' => Cel w' w.heap.size cs 45 ∧ Cel w' (w.heap.size + 1) [.int .i64 (s : Int), .int .i64 (e : Int), .int .i64 (A : Int)] 73 ∧ (∃ L : List Value, L.length = 3 ∧ Cel w' (w.heap.size + 2) L 73) ∧ Cel w' (w.heap.size + 3) [.int .i64 0, .int .i64 0, .int .i64 0] 73) (by kernel_rfl) ?_
  have hS : (fun w' => Cel w' w.heap.size cs 45 ∧ Cel w' (w.heap.size + 1) [.int .i64 (s : Int), .int .i64 (e : Int), .int .i64 (A : Int)] 73 ∧ (∃ L : List Value, L.length = 3 ∧ Cel w' (w.heap.size + 2) L 73) ∧ Cel w' (w.heap.size + 3) [.int .i64 0, .int .i64 0, .int .i64 0] 73) w4.drew := ⟨hS2.1, hS2.2.1, ⟨_, rfl, hS2.2.2.1⟩, hS2.2.2.2⟩
  have bW : Below w.heap.size w w4.drew := bW2.drew
  clear hS2 bW2
  generalize w4.drew = V at *
  refine AnyG.take 0 (v := .agg ([.int .i64 (s : Int), .int .i64 (e : Int), .int .i64 (A : Int)]).toArray) rfl (by kernel_rfl) (by kernel_rfl) (by kernel_rfl) (by kernel_rfl) (fun _ _ _ h => h) hS (fun w0 h0 => run_load_obj (w.heap.size + 1) _ rfl h0.2.1 Tryz.underlying73 (by kernel_rfl)) (by rfl) ?rest9
  simp only [Act.put, yq0, yq1, yq2, yq3, yq4, yq5]
  refine AnyG.tk 1 hS ?_
  refine AnyG.tf 2 hS rfl (fun w0 h0 => by have c1 := h0.2.1.cell 1 rfl; go_simp; try with_reducible rfl) ?_
  refine AnyG.tk 3 hS ?_
  refine AnyG.tk 4 hS ?_
  refine AnyG.tk 5 hS ?_
  refine AnyG.tf 6 hS rfl (fun w0 h0 => by have c1 := h0.2.1.cell 1 rfl; go_simp; try with_reducible rfl) ?_
  refine AnyG.tk 7 hS ?_
  refine AnyG.o1 8 ?_
  intro K hK
  obtain ⟨L, hL, cL⟩ := hS.2.2.1
  refine wp_store_cel rfl (w.heap.size + 2) L [.int .i64 (s : Int), .int .i64 (e : Int), .int .i64 (A : Int)] rfl rfl cL hL (by kernel_rfl) (by simp [Value.oneCell']) ?_
  intro w5 c5 o5
  have hS5 : (Cel w5 w.heap.size cs 45 ∧ Cel w5 (w.heap.size + 1) [.int .i64 (s : Int), .int .i64 (e : Int), .int .i64 (A : Int)] 73 ∧ (∃ L : List Value, L.length = 3 ∧ Cel w5 (w.heap.size + 2) L 73) ∧ Cel w5 (w.heap.size + 3) [.int .i64 0, .int .i64 0, .int .i64 0] 73) := ⟨o5.cel hS.1 (by omega), o5.cel hS.2.1 (by omega), ⟨_, rfl, c5⟩, o5.cel hS.2.2.2 (by omega)⟩
  have bW5 := bW.trans (o5.below (by omega))
  refine hK.out _ _ (fun _ => hS5) ?_
  clear hK K
  try simp only [Act.put, yq0, yq1, yq2, yq3, yq4, yq5]
  refine AnyG.o1 9 ?_
  intro K hK
  refine wp_store_cel rfl (w.heap.size + 3) [.int .i64 0, .int .i64 0, .int .i64 0] [.int .i64 ((e : Int) - ((E : Int) - (A : Int))), .int .i64 (e : Int), .int .i64 0] rfl rfl hS5.2.2.2 rfl (by kernel_rfl) (by simp [Value.oneCell']) ?_
  intro w6 c6 o6
  refine hK.out _ _ (fun h => absurd (by decide) h) ?_
  clear hK K
  try simp only [Act.put, yq0, yq1, yq2, yq3, yq4, yq5]
  refine AnyG.done (by kernel_rfl) ?_ _
  have HZ := Hid.mkt (And.intro (o6.cel c5 (by omega)) (And.intro c6 (bW5.trans (o6.below (by omega)))))
  clear c5 o5 hS5 bW5 c6 o6 hS bW
  go_wp2
  (try simp only [Exit.inBlock, Exit.then])
  exact bodyPost_ret (result_cc rfl (w.heap.size + 2) (w.heap.size + 3) _ _ rfl rfl HZ.out.1 HZ.out.2.1 Tryz.underlying73 (by kernel_rfl) (by kernel_rfl)) rfl ⟨rfl, HZ.out.2.2⟩
 | false =>
  have w2' : IntKind.i64.wrap ((s : Int) + ((E : Int) - (A : Int))) = (s : Int) + ((E : Int) - (A : Int)) := by rw [IntKind.wrap_i64]; omega
  go_wp2
  refine region_g [9] (fun w' => Cel w' w.heap.size cs 45 ∧ Cel w' (w.heap.size + 1) [.int .i64 (s : Int), .int .i64 (e : Int), .int .i64 (A : Int)] 73 ∧ (∃ L : List Value, L.length = 3 ∧ Cel w' (w.heap.size + 2) L 73) ∧ Cel w' (w.heap.size + 3) [.int .i64 0, .int .i64 0, .int .i64 0] 73) (by kernel_rfl) ?_
  have hS : (fun w' => Cel w' w.heap.size cs 45 ∧ Cel w' (w.heap.size + 1) [.int .i64 (s : Int), .int .i64 (e : Int), .int .i64 (A : Int)] 73 ∧ (∃ L : List Value, L.length = 3 ∧ Cel w' (w.heap.size + 2) L 73) ∧ Cel w' (w.heap.size + 3) [.int .i64 0, .int .i64 0, .int .i64 0] 73) w4.drew := ⟨hS2.1, hS2.2.1, ⟨_, rfl, hS2.2.2.1⟩, hS2.2.2.2⟩
  have bW : Below w.heap.size w w4.drew := bW2.drew
  clear hS2 bW2
  generalize w4.drew = V at *
  refine AnyG.take 0 (v := .agg ([.int .i64 (s : Int), .int .i64 (e : Int), .int .i64 (A : Int)]).toArray) rfl (by kernel_rfl) (by kernel_rfl) (by kernel_rfl) (by kernel_rfl) (fun _ _ _ h => h) hS (fun w0 h0 => run_load_obj (w.heap.size + 1) _ rfl h0.2.1 Tryz.underlying73 (by kernel_rfl)) (by rfl) ?rest17
  simp only [Act.put, yq0, yq1, yq2, yq3, yq4, yq5]
  refine AnyG.tk 1 hS ?_
  refine AnyG.tf 2 hS rfl (fun w0 h0 => by have c1 := h0.2.1.cell 0 rfl; go_simp; try with_reducible rfl) ?_
  refine AnyG.tk 3 hS ?_
  refine AnyG.tf 4 hS rfl (fun w0 h0 => by have c1 := h0.2.1.cell 0 rfl; go_simp; try with_reducible rfl) ?_
  refine AnyG.tk 5 hS ?_
  refine AnyG.tk 6 hS ?_
  refine AnyG.tk 7 hS ?_
  refine AnyG.o1 8 ?_
  intro K hK
  obtain ⟨L, hL, cL⟩ := hS.2.2.1
  refine wp_store_cel rfl (w.heap.size + 2) L [.int .i64 (s : Int), .int .i64 (e : Int), .int .i64 (A : Int)] rfl rfl cL hL (by kernel_rfl) (by simp [Value.oneCell']) ?_
  intro w5 c5 o5
  have hS5 : (Cel w5 w.heap.size cs 45 ∧ Cel w5 (w.heap.size + 1) [.int .i64 (s : Int), .int .i64 (e : Int), .int .i64 (A : Int)] 73 ∧ (∃ L : List Value, L.length = 3 ∧ Cel w5 (w.heap.size + 2) L 73) ∧ Cel w5 (w.heap.size + 3) [.int .i64 0, .int .i64 0, .int .i64 0] 73) := ⟨o5.cel hS.1 (by omega), o5.cel hS.2.1 (by omega), ⟨_, rfl, c5⟩, o5.cel hS.2.2.2 (by omega)⟩
  have bW5 := bW.trans (o5.below (by omega))
  refine hK.out _ _ (fun _ => hS5) ?_
  clear hK K
  try simp only [Act.put, yq0, yq1, yq2, yq3, yq4, yq5]
  refine AnyG.o1 9 ?_
  intro K hK
  refine wp_store_cel rfl (w.heap.size + 3) [.int .i64 0, .int .i64 0, .int .i64 0] [.int .i64 (s : Int), .int .i64 ((s : Int) + ((E : Int) - (A : Int))), .int .i64 0] rfl rfl hS5.2.2.2 rfl (by kernel_rfl) (by simp [Value.oneCell']) ?_
  intro w6 c6 o6
  refine hK.out _ _ (fun h => absurd (by decide) h) ?_
  clear hK K
  try simp only [Act.put, yq0, yq1, yq2, yq3, yq4, yq5]
  refine AnyG.done (by kernel_rfl) ?_ _
  have HZ := Hid.mkt (And.intro (o6.cel c5 (by omega)) (And.intro c6 (bW5.trans (o6.below (by omega)))))
  clear c5 o5 hS5 bW5 c6 o6 hS bW
  go_wp2
  (try simp only [Exit.inBlock, Exit.then])
  exact bodyPost_ret (result_cc rfl (w.heap.size + 2) (w.heap.size + 3) _ _ rfl rfl HZ.out.1 HZ.out.2.1 Tryz.underlying73 (by kernel_rfl) (by kernel_rfl)) rfl ⟨rfl, HZ.out.2.2⟩
end Go.Proofs.YtfnkklkdajlhlaaGreatDoor
namespace Go.Proofs.YtfnkklkdajlhlaaGreatDoor
open Num Bit
def txt (x : TR) : List Nat := Tw.tx (fun l i => bitAt (kBX (lw x l)) i) x.N.toNat 8
structure TT (x : TR) (t : List Nat) : Prop where
 n : x.N = (t.length : Int)
 e : x.av.length = 8
 b : Tw.Byt t
 h : t.length ≤ 8192
 r : ∀ l, l < 8 → (lw x l).K = x.K ∧ kOk (lw x l) = true ∧ kBN (lw x l) = (t.length : Int) ∧ ∀ i, i < t.length → bitAt (kBX (lw x l)) i = Tw.rb t l i
theorem tt_of (x : TR) (h : tOk x = true) : TT x (txt x) := by
 obtain ⟨h1, h2, h3⟩ := tOk_out x h
 obtain ⟨n, hn, hb⟩ := tOk_nat x h
 have hl : (txt x).length = n := by unfold txt; rw [Tw.length_tx, hn, Int.toNat_natCast]
 refine ⟨by rw [hl]; exact hn, h2, Tw.byt_tx _ _ _ (by omega), by omega, fun l hl8 => ?_⟩
 obtain ⟨g1, g2, g3⟩ := h3 l hl8
 refine ⟨g1, g2, by rw [g3, hn, hl], fun i hi => ?_⟩
 unfold txt
 rw [hl] at hi
 rw [hn, Int.toNat_natCast]
 exact (Tw.rb_tx (fun l i => bitAt (kBX (lw x l)) i) n l i hl8 hi).symm
theorem TT.ok {x : TR} {t : List Nat} (h : TT x t) : tOk x = true := by
 refine tOk_yes (by have := h.n; have := h.h; omega) h.e fun l hl => ?_
 obtain ⟨g1, g2, g3, _⟩ := h.r l hl
 unfold lOk
 simp only [Bool.and_eq_true, decide_eq_true_eq]
 exact ⟨g1, g2, by rw [g3, h.n]⟩
theorem TT.txt {x : TR} {t : List Nat} (h : TT x t) : txt x = t := by
 unfold Go.Proofs.YtfnkklkdajlhlaaGreatDoor.txt
 rw [h.n, Int.toNat_natCast]
 exact Tw.tx_of _ t h.b fun l i hl hi => (h.r l hl).2.2.2 i hi
def pS (t : List Nat) (c l : Nat) : Nat := Tw.st t l (Tw.hi l c)
def pE (t : List Nat) (c l : Nat) : Nat := pS t c l + Tw.rk t l (Tw.hi l c) t.length
def pA (x : TR) (t : List Nat) (c l : Nat) : Nat := cB (kBX (lw x l)) (Tw.tb l c) (pS t c l)
theorem hi_step {l c : Nat} (hl : l < 8) : Tw.hi (l + 1) c = 2 * Tw.hi l c + (Tw.tb l c).toNat := Tw.hi_succ hl c
theorem pS_rk (t : List Nat) (c l i : Nat) (hl : l ≤ 8) (hc : c < 256) (hB : Tw.Byt t) (hi : i ≤ t.length) : pS t c l + Tw.rk t l (Tw.hi l c) i ≤ t.length := by
 have e := congrArg List.length (Tw.plc_take t l (Tw.hi l c) i (Tw.hi_lt hl hc) hi)
 have h1 := Tw.st_le t l (Tw.hi l c)
 rw [List.length_append, List.length_take, List.length_take, Tw.length_plc t l hl hB] at e
 unfold pS Tw.rk at *
 omega
theorem pE_le (t : List Nat) (c l : Nat) (hl : l ≤ 8) (hc : c < 256) (hB : Tw.Byt t) : pE t c l ≤ t.length := pS_rk t c l t.length hl hc hB (Nat.le_refl _)
theorem pS_le (t : List Nat) (c l : Nat) : pS t c l ≤ pE t c l := Nat.le_add_right _ _
theorem TT.down {x : TR} {t : List Nat} (h : TT x t) (c l i : Nat) (hl : l < 8) (hc : c < 256) (hi : i ≤ t.length) : cB (kBX (lw x l)) (Tw.tb l c) (pS t c l + Tw.rk t l (Tw.hi l c) i) = pA x t c l + Tw.rk t (l + 1) (Tw.hi (l + 1) c) i := by
 rw [hi_step hl]
 exact Tw.cB_node t _ l (Tw.hi l c) i (Tw.tb l c) hl h.b (Tw.hi_lt (by omega) hc) hi ((h.r l hl).2.2.2)
theorem TT.next {x : TR} {t : List Nat} (h : TT x t) (c l : Nat) (hl : l < 8) (hc : c < 256) :
  nS (Tw.tb l c) (pS t c l) (pE t c l) (pA x t c l) (cB (kBX (lw x l)) (Tw.tb l c) (pE t c l)) = (pS t c (l + 1) : Int) ∧ nE (Tw.tb l c) (pS t c l) (pE t c l) (pA x t c l) (cB (kBX (lw x l)) (Tw.tb l c) (pE t c l)) = (pE t c (l + 1) : Int) := by
 have e := h.down c l t.length hl hc (Nat.le_refl _)
 have e1 : cB (kBX (lw x l)) (Tw.tb l c) (pE t c l) = pA x t c l + Tw.rk t (l + 1) (Tw.hi (l + 1) c) t.length := e
 have s0 := Tw.st_zero_next t l (Tw.hi l c) hl
 have s1 := Tw.st_one_next t l (Tw.hi l c) hl
 unfold nS nE
 rw [e1]
 unfold pE pS
 rw [hi_step hl]
 cases Tw.tb l c with
 | true =>
  simp only [if_true, Bool.toNat_true]
  omega
 | false =>
  simp only [Bool.false_eq_true, if_false, Bool.toNat_false, Nat.add_zero]
  omega
theorem rk_top (t : List Nat) (c i : Nat) (hc : c < 256) (hB : Tw.Byt t) : Tw.rk t 0 (Tw.hi 0 c) i = i := by
 rw [Tw.hi_zero hc]
 exact Tw.rk_zero t i hB
theorem pS_top (t : List Nat) (c : Nat) (hc : c < 256) : pS t c 0 = 0 := by
 unfold pS
 rw [Tw.hi_zero hc]
 exact Tw.st_root t
theorem pE_top (t : List Nat) (c : Nat) (hc : c < 256) (hB : Tw.Byt t) : pE t c 0 = t.length := by
 unfold pE
 rw [pS_top t c hc, rk_top t c _ hc hB]
 omega
theorem rk_low (t : List Nat) (c i : Nat) : Tw.rk t 8 (Tw.hi 8 c) i = Tw.cn t c i := by
 rw [Tw.hi_eight]
 rfl
theorem TT.bit {x : TR} {t : List Nat} (h : TT x t) (l i : Nat) (hl : l < 8) (hi : i < t.length) : bitAt (kBX (lw x l)) (pS t (gt t i) l + Tw.rk t l (Tw.hi l (gt t i)) i) = Tw.tb l (gt t i) := by
 exact ((h.r l hl).2.2.2 _ (Tw.pos_lt t l i (by omega) h.b hi)).trans (Tw.rb_pos t l i (by omega) h.b hi)
theorem TT.at {x : TR} {t : List Nat} (h : TT x t) (l i : Nat) (hl : l < 8) (hi : i < t.length) : pS t (gt t i) l + Tw.rk t l (Tw.hi l (gt t i)) i < t.length := Tw.pos_lt t l i (by omega) h.b hi
theorem TT.up {x : TR} {t : List Nat} (h : TT x t) (l i : Nat) (hl : l < 8) (hi : i < t.length) : pselO (t.length : Int) (kBX (lw x l)) (Tw.tb l (gt t i)) ((pA x t (gt t i) l + Tw.rk t (l + 1) (Tw.hi (l + 1) (gt t i)) i : Nat) : Int) = some (pS t (gt t i) l + Tw.rk t l (Tw.hi l (gt t i)) i) := by
 refine psel_some _ _ _ _ _ (by rw [Int.toNat_natCast]; exact h.at l i hl hi) ?_
 unfold here
 rw [h.bit l i hl hi, h.down (gt t i) l i hl (h.b i) (by omega)]
 simp
def hb (c : Nat) (l : Nat) : Nat := Tw.hi l c * 2 ^ (8 - l)
theorem hb_zero {c : Nat} (hc : c < 256) : hb c 0 = 0 := by unfold hb; rw [Tw.hi_zero hc, Nat.zero_mul]
theorem hb_eight (c : Nat) : hb c 8 = c := by unfold hb; rw [Tw.hi_eight]; simp
theorem hb_or {c l : Nat} (hl : l < 8) : hb c l ||| 2 ^ (7 - l) = hb c l + 2 ^ (7 - l) := by
 have p : 2 ^ (7 - l) < 2 ^ (8 - l) := Nat.pow_lt_pow_right (by decide) (by omega)
 unfold hb
 rw [Nat.mul_comm, ← Nat.two_pow_add_eq_or_of_lt p]
theorem hb_succ {c l : Nat} (hl : l < 8) : hb c (l + 1) = if Tw.tb l c then hb c l ||| 2 ^ (7 - l) else hb c l := by
 have e2 : 2 ^ (8 - l) = 2 * 2 ^ (7 - l) := by rw [show 8 - l = (7 - l) + 1 by omega, Nat.pow_succ]; omega
 have e3 : hb c (l + 1) = hb c l + (Tw.tb l c).toNat * 2 ^ (7 - l) := by
  unfold hb
  rw [hi_step hl, e2, show 8 - (l + 1) = 7 - l by omega, Nat.add_mul, Nat.mul_left_comm, Nat.mul_assoc]
 rw [e3]
 cases Tw.tb l c with
 | true => rw [if_pos rfl, hb_or hl]; simp
 | false => simp
theorem hb_lt {c l : Nat} (hl : l ≤ 8) (hc : c < 256) : hb c l < 256 := by
 unfold hb Tw.hi
 exact Nat.lt_of_le_of_lt (Nat.div_mul_le_self _ _) hc
end Go.Proofs.YtfnkklkdajlhlaaGreatDoor
namespace Go.Proofs.YtfnkklkdajlhlaaGreatDoor
open Go.RowKit Num Bit
theorem info_path : (Tryz.prog.info? 81).map (fun i => (i.zero, i.size)) = some (some (.agg (iv (List.replicate 27 0)).toArray), (iv (List.replicate 27 0)).length) := by kernel_rfl
theorem size_path (l : List Int) (h : l.length = 27) : (Tryz.prog.info? 81).map (·.size) = some (iv l).length := by
 rw [(zero_of_info info_path).2, length_iv, length_iv, h]
 rfl
theorem load_path {ops : Array Oper} {rest : List Oper} {d : Option Tmp} {ty : TypeId} {ps : String} {af : Array Edge} {a : Act} {w : World} {Q : Exit → Act → World → Prop} {x : Operand}
  (g : Nat) (ys : List Int) (hx : a.eval x = .pointer (some ⟨g, 0, none⟩)) (hc : Cel w g (iv ys) 81) (ly : ys.length = 27)
  (h : wpList Tryz.prog ops Q rest (a.put d (.agg (iv ys).toArray)) w) :
  wpList Tryz.prog ops Q (⟨d, .load 81 x, ty, ps, af, none⟩ :: rest) a w :=
 wpList_load_row rfl _ x rfl g hx _ _ _ _ hc Tryz.underlying81 rfl (by rw [List.size_toArray]; exact size_path ys ly) h
theorem result_path {fn : Func} {p : Tmp} {w : World} {tmps : Array Value} (h : fn.results = #[.cell p 81]) (g : Nat) (ys : List Int) (ly : ys.length = 27) (hp : tmps.getD p undef = .pointer (some ⟨g, 0, none⟩)) (hc : Cel w g (iv ys) 81) :
  (results fn tmps).run Tryz.prog w = .ok (.agg (iv ys).toArray) w := by
 have hp' : tmps[p]?.getD undef = .pointer (some ⟨g, 0, none⟩) := by simpa using hp
 have hl := run_loadVar_row (P := Tryz.prog) w g 81 81 (iv ys).toArray (0, 0) _ hc Tryz.underlying81 rfl (by rw [List.size_toArray]; exact size_path ys ly)
 simp [results, h, hp', asAddr, hl]
def pc (x : TR) (t : List Nat) (c q j : Nat) : Int :=
 if q < j / 3 then 0 else if j % 3 = 0 then (pS t c (j / 3) : Int) else if j % 3 = 1 then (pE t c (j / 3) : Int) else if j / 3 < q then (pA x t c (j / 3) : Int) else 0
def pn (x : TR) (t : List Nat) (c q : Nat) : List Int := (List.range 27).map (pc x t c q)
theorem length_pn (x : TR) (t : List Nat) (c q : Nat) : (pn x t c q).length = 27 := by simp [pn]
theorem gi_pn (x : TR) (t : List Nat) (c q j : Nat) (h : j < 27) : gi (pn x t c q) j = pc x t c q j := gi_map _ _ _ h
theorem pn_s (x : TR) (t : List Nat) (c q l : Nat) (hl : l ≤ 8) (hq : l ≤ q) : gi (pn x t c q) (l * 3) = (pS t c l : Int) := by
 rw [gi_pn _ _ _ _ _ (by omega)]
 unfold pc
 rw [show l * 3 / 3 = l by omega, show l * 3 % 3 = 0 by omega, if_neg (by omega), if_pos rfl]
theorem pn_e (x : TR) (t : List Nat) (c q l : Nat) (hl : l ≤ 8) (hq : l ≤ q) : gi (pn x t c q) (l * 3 + 1) = (pE t c l : Int) := by
 rw [gi_pn _ _ _ _ _ (by omega)]
 unfold pc
 rw [show (l * 3 + 1) / 3 = l by omega, show (l * 3 + 1) % 3 = 1 by omega, if_neg (by omega), if_neg (by decide), if_pos rfl]
theorem pn_a (x : TR) (t : List Nat) (c q l : Nat) (hl : l ≤ 8) (hq : l < q) : gi (pn x t c q) (l * 3 + 2) = (pA x t c l : Int) := by
 rw [gi_pn _ _ _ _ _ (by omega)]
 unfold pc
 rw [show (l * 3 + 2) / 3 = l by omega, show (l * 3 + 2) % 3 = 2 by omega, if_neg (by omega), if_neg (by decide), if_neg (by decide), if_pos hq]
theorem pn_z (x : TR) (t : List Nat) (c q : Nat) (hq : q ≤ 8) : gi (pn x t c q) (q * 3 + 2) = 0 := by
 rw [gi_pn _ _ _ _ _ (by omega)]
 unfold pc
 rw [show (q * 3 + 2) / 3 = q by omega, show (q * 3 + 2) % 3 = 2 by omega, if_neg (by omega), if_neg (by decide), if_neg (by decide), if_neg (by omega)]
theorem pn_zero (x : TR) (t : List Nat) (c : Nat) (hc : c < 256) (hB : Tw.Byt t) : (List.replicate 27 (0 : Int)).set 1 (t.length : Int) = pn x t c 0 := by
 refine gi_ext (by rw [List.length_set, List.length_replicate, length_pn]) fun j hj => ?_
 rw [List.length_set, List.length_replicate] at hj
 have z : ∀ n, gi (List.replicate n 0) j = 0 := fun n => by unfold gi; rw [List.getD_eq_getElem?_getD, List.getElem?_replicate]; split <;> rfl
 rw [gi_set _ _ _ _ (by simp), z, gi_pn _ _ _ _ _ hj]
 unfold pc
 by_cases h : 0 < j / 3
 ·rw [if_pos h, if_neg (by omega)]
 ·have e : j / 3 = 0 := by omega
  rw [if_neg h, e, pS_top t c hc, pE_top t c hc hB]
  have : j = 0 ∨ j = 1 ∨ j = 2 := by omega
  rcases this with rfl | rfl | rfl <;> simp
def set3 (L : List Int) (l : Nat) (a b c : Int) : List Int := ((L.set (l * 3) a).set (l * 3 + 1) b).set (l * 3 + 2) c
theorem length_set3 (L : List Int) (l : Nat) (a b c : Int) : (set3 L l a b c).length = L.length := by simp [set3]
theorem gi_set3 (L : List Int) (l : Nat) (a b c : Int) (j : Nat) (h : l * 3 + 2 < L.length) : gi (set3 L l a b c) j = if j / 3 = l then (if j % 3 = 0 then a else if j % 3 = 1 then b else c) else gi L j := by
 unfold set3
 rw [gi_set _ _ _ _ (by simp; omega), gi_set _ _ _ _ (by simp; omega), gi_set _ _ _ _ (by omega)]
 by_cases e : j / 3 = l
 ·rw [if_pos e]
  have : j % 3 = 0 ∨ j % 3 = 1 ∨ j % 3 = 2 := by omega
  rcases this with d | d | d
  ·rw [if_neg (by omega), if_neg (by omega), if_pos (by omega), if_pos d]
  ·rw [if_neg (by omega), if_pos (by omega), if_neg (by omega), if_pos d]
  ·rw [if_pos (by omega), if_neg (by omega), if_neg (by omega)]
 ·rw [if_neg e, if_neg (by omega), if_neg (by omega), if_neg (by omega)]
theorem pn_step (x : TR) (t : List Nat) (c q : Nat) (hq : q < 8) : set3 (set3 (pn x t c q) q (pS t c q) (pE t c q) (pA x t c q)) (q + 1) (pS t c (q + 1)) (pE t c (q + 1)) 0 = pn x t c (q + 1) := by
 refine gi_ext (by rw [length_set3, length_set3, length_pn, length_pn]) fun j hj => ?_
 rw [length_set3, length_set3, length_pn] at hj
 rw [gi_set3 _ _ _ _ _ _ (by rw [length_set3, length_pn]; omega), gi_set3 _ _ _ _ _ _ (by rw [length_pn]; omega), gi_pn _ _ _ _ _ hj, gi_pn _ _ _ _ _ hj]
 unfold pc
 by_cases e : j / 3 = q + 1
 ·rw [if_pos e, if_neg (show ¬ q + 1 < j / 3 by omega), e, if_neg (show ¬ q + 1 < q + 1 by omega)]
 ·rw [if_neg e]
  by_cases d : j / 3 = q
  ·rw [if_pos d, if_neg (show ¬ q + 1 < j / 3 by omega), d, if_pos (show q < q + 1 by omega)]
  ·rw [if_neg d]
   by_cases k : q < j / 3
   ·rw [if_pos k, if_pos (by omega)]
   ·rw [if_neg k, if_neg (show ¬ q + 1 < j / 3 by omega), show (if j / 3 < q + 1 then (pA x t c (j / 3) : Int) else 0) = (if j / 3 < q then (pA x t c (j / 3) : Int) else 0) by rw [if_pos (show j / 3 < q + 1 by omega), if_pos (show j / 3 < q by omega)]]
theorem cel_set3 {w : World} {g : Nat} {L : List Int} {T : TypeId} (h : Cel w g (iv L) T) (l : Nat) (a b c : Int) : Cel (w.setCells g (l * 3) [.int .i64 a, .int .i64 b, .int .i64 c]) g (iv (set3 L l a b c)) T ∧ Only g w (w.setCells g (l * 3) [.int .i64 a, .int .i64 b, .int .i64 c]) :=
 ⟨cel_iset (cel_iset (cel_iset h (l * 3) a) (l * 3 + 1) b) (l * 3 + 2) c, (((Only.refl g w).set (l * 3) _).set (l * 3 + 1) _).set (l * 3 + 2) _⟩
theorem wp_store_n3 {o : Oper} {a : Act} {w : World} {K : Act → World → Prop} {Q : Exit → Act → World → Prop} {y z : Operand} (ho : o.op = .store 73 y z)
  (g : Nat) (L : List Int) (l : Nat) (A B C : Int) (hx : a.eval y = .pointer (some ⟨g, l * 3, none⟩)) (hy : a.eval z = .agg #[.int .i64 A, .int .i64 B, .int .i64 C]) (hc : Cel w g (iv L) 81) (hl : l * 3 + 2 < L.length)
  (h : ∀ w1, Cel w1 g (iv (set3 L l A B C)) 81 → Only g w w1 → K (a.put o.dst undef) w1) : o.wp Tryz.prog a w K Q := by
 have k := cel_set3 hc l A B C
 refine wp_store_mid 73 y z ho g (l * 3) _ hx hy ?_ (by kernel_rfl) (by simp [Value.oneCell']) (h _ k.1 k.2)
 intro j hj
 have hj : j < 3 := hj
 exact ⟨by rw [cel_iv hc (l * 3 + j) (by omega)]; rfl, hc.frozen _⟩
theorem range_n3 {w : World} {g : Nat} {L : List Int} {T : TypeId} (h : Cel w g (iv L) T) (l : Nat) (hl : l * 3 + 2 < L.length) : w.rangeAt g (l * 3) [.int .i64 (gi L (l * 3)), .int .i64 (gi L (l * 3 + 1)), .int .i64 (gi L (l * 3 + 2))] := fun j v hv => by
 match j, hv with
 | 0, hv => rw [← Option.some.inj hv]; exact cel_iv h _ (by omega)
 | 1, hv => rw [← Option.some.inj hv]; exact cel_iv h _ (by omega)
 | 2, hv => rw [← Option.some.inj hv]; exact cel_iv h _ (by omega)
theorem pathOf_c {P : RA → Prop} (V : VR P) (lo : Option Addr) (cap : Nat) (x : TR) (t : List Nat) (c : Nat) (w : World) (h : TI w lo cap x) (ht : TT x t) (hc : c < 256) (hp : ∀ l, l < 8 → P (lw x l)) :
  Calls Tryz.prog 36 #[.agg #[.int .i64 x.K, .int .i64 x.N, .slice lo 8 cap], .int .u8 c] w fun e w' => e = .returned (.agg (iv (pn x t c 8)).toArray) ∧ Below w.heap.size w w' := by
 have HPP := Hid.mkt hp
 clear hp
 obtain ⟨b, off, rfl, hbl, hrows⟩ := h.l (by rw [ht.e]; decide)
 have HR := Hid.mkt hrows
 have HT := Hid.mkt ht
 have h8 := Hid.mkt ht.e
 obtain ⟨K, hK⟩ : ∃ K, Hid (K = x.K) := ⟨_, rfl⟩
 obtain ⟨n, hn⟩ : ∃ n, Hid (n = t.length) := ⟨_, rfl⟩
 have hn8 : n ≤ 8192 := by rw [hn.out]; exact ht.h
 rw [← hK.out, ht.n, ← hn.out]
 have hz := pn_zero x t c hc ht.b
 rw [← hn.out] at hz
 have BO : Hid (∀ w0 (q : Nat), q < 8 → Calls Tryz.prog 37 #[.int .u8 c, .int .i64 q] w0 fun e w' => e = .returned (.bool (Tw.tb q c)) ∧ w' = w0) := fun w0 q hq => bitOf_c c q hc hq w0
 have PA : Hid (∀ q, q < 8 → ∃ cs : List Value, w.rangeAt b (off + q * 22) cs ∧ (Tryz.prog.info? 45).map (·.size) = some cs.length ∧ ∀ w0, Below w.heap.size w w0 → Calls Tryz.prog 34 #[.agg cs.toArray, .agg #[.int .i64 (pS t c q : Nat), .int .i64 (pE t c q : Nat), .int .i64 0], .bool (Tw.tb q c)] w0 fun r w' => r = .returned (.tuple #[.agg #[.int .i64 (pS t c q : Nat), .int .i64 (pE t c q : Nat), .int .i64 (pA x t c q : Nat)], .agg #[.int .i64 (pS t c (q + 1) : Nat), .int .i64 (pE t c (q + 1) : Nat), .int .i64 0]]) ∧ Below w0.heap.size w0 w') := fun q hq => by
  obtain ⟨cs, h1, h2⟩ := HR.out q (by rw [h8.out]; exact hq)
  refine ⟨cs, h1, h2.arg.len, fun w0 hb => ?_⟩
  obtain ⟨r1, r2, r3, _⟩ := HT.out.r q hq
  have := parted_c V cs (lw x q) (Tw.tb q c) t.length (pS t c q) (pE t c q) 0 w0 (h2.keep hb) r2 r3 (pS_le t c q) (pE_le t c q (by omega) hc HT.out.b) HT.out.h (HPP.out q hq)
  obtain ⟨e1, e2⟩ := HT.out.next c q hq hc
  unfold pA at e1 e2 ⊢
  rw [e1, e2] at this
  exact this
 have hb3 : ∀ q, q ≤ 8 → pS t c q ≤ 8192 ∧ pE t c q ≤ 8192 := fun q hq => by
  have a1 := pE_le t c q hq hc HT.out.b
  have a2 := pS_le t c q
  have a3 := HT.out.h
  omega
 have HB3 := Hid.mkt hb3
 clear h ht hb3 hrows h8 HR
 have bx := Cel.new w [.int .i64 K, .int .i64 (n : Int), .slice (some ⟨b, off, none⟩) 8 cap] 26
 have bw := below_alloc w (.cells [.int .i64 K, .int .i64 (n : Int), .slice (some ⟨b, off, none⟩) 8 cap].toArray 26)
 go_enter Tryz.func36, Tryz.ntmps36
 go_wp2_with (refine alloc_z _ info_path ?_)
 intro w1 c1 b1 s1
 replace bx := bx.kept b1
 replace bw := bw.trans (b1.mono bw.size)
 go_wp2_with (refine alloc_z _ info_path ?_)
 intro w2 c2 b2 s2
 replace bx := bx.kept b2
 replace bw := bw.trans (b2.mono bw.size)
 replace c1 := c1.kept b2
 have l1 : w.heap.size < w1.heap.size := by have := b1.size; simp at this s1 ⊢; omega
 have l0 : (w.alloc (.cells [.int .i64 K, .int .i64 (n : Int), .slice (some ⟨b, off, none⟩) 8 cap].toArray 26)).heap.size = w.heap.size + 1 := by simp
 have l2 : w.heap.size + 1 < w1.heap.size := by simp at s1; omega
 clear b1 b2 s1 s2
 simp only [l0] at *
 generalize w1.heap.size = g5 at *
 obtain ⟨g4, hg4⟩ : ∃ g4, g4 = w.heap.size + 1 := ⟨_, rfl⟩
 rw [← hg4] at l2 c1
 have l3 : w.heap.size < g4 := by omega
 have x1 := bx.cell 1 rfl
 have f1 := c2.frozen 1
 have z1 := cel_iv c2 1 (by simp)
 have s1 := cel_iset c2 1 (n : Int)
 rw [hz] at s1
 have bx' := bx.other (a := ⟨g5, 1, none⟩) (by show w.heap.size ≠ g5; omega) (.int .i64 (n : Int))
 have c1' := c1.other (a := ⟨g5, 1, none⟩) (by show g4 ≠ g5; omega) (.int .i64 (n : Int))
 have bw' : Below w.heap.size w (w2.setCell ⟨g5, 1, none⟩ (.int .i64 (n : Int))) := bw.setCell (by show w.heap.size ≤ g5; omega) _
 have HI := Hid.mkt (And.intro bx' (And.intro s1 (And.intro c1' bw')))
 clear bx' s1 c1' bw' bx c2 c1 bw hz
 rw [← hg4]
 clear hg4
 simp only [Act.put, yq3, List.set]
 go_wp2
 clear x1 f1 z1
 go_loopw [11] (fun s wr => ∃ q : Nat, q ≤ 8 ∧ s = .int .i64 q ∧ Cel wr w.heap.size [.int .i64 K, .int .i64 (n : Int), .slice (some ⟨b, off, none⟩) 8 cap] 26 ∧ Cel wr g5 (iv (pn x t c q)) 81 ∧ Cel wr g4 (iv (List.replicate 27 0)) 81 ∧ Below w.heap.size w wr) (fun s _ => 8 - (intOf s).toNat)
 case atStart => exact ⟨0, Nat.zero_le _, rfl, HI.out⟩
 case round =>
  obtain ⟨q, hq, rfl, hx, h5, h4, hb⟩ := hrel
  clear HI
  by_cases hi : q < 8
  ·have hi2 : (q : Int) < 8 := by omega
   obtain ⟨cs, rg, HL, PP⟩ := PA.out q hi
   have HL := Hid.mkt HL
   have PP := Hid.mkt PP
   have RG := Hid.mkt rg
   have B : Hid (∀ w0, Calls Tryz.prog 37 #[.int .u8 c, .int .i64 q] w0 fun e w' => e = .returned (.bool (Tw.tb q c)) ∧ w' = w0) := fun w0 => BO.out w0 q hi
   have RN : Hid (∀ w' : World, Cel w' g5 (iv (pn x t c q)) 81 → w'.rangeAt g5 (q * 3) [.int .i64 (pS t c q : Nat), .int .i64 (pE t c q : Nat), .int .i64 0]) := fun w' h => by
    have := range_n3 h q (by rw [length_pn]; omega)
    rw [pn_s x t c q q hq (Nat.le_refl _), pn_e x t c q q hq (Nat.le_refl _), pn_z x t c q hq] at this
    exact this
   have ST := Hid.mkt (pn_step x t c q hi)
   have lL := length_pn x t c q
   have lL3 := length_set3 (pn x t c q) q (pS t c q : Nat) (pE t c q : Nat) (pA x t c q : Nat)
   obtain ⟨u1, u2⟩ := HB3.out q hq
   obtain ⟨u3, u4⟩ := HB3.out (q + 1) (by omega)
   generalize pS t c (q + 1) = s' at *
   generalize pE t c (q + 1) = e' at *
   generalize pS t c q = s0 at *
   generalize pE t c q = e0 at *
   generalize pA x t c q = a0 at *
   obtain ⟨L, hL⟩ : ∃ L, Hid (L = pn x t c q) := ⟨_, rfl⟩
   rw [← hL.out] at RN ST lL lL3 h5
   generalize Tw.tb q c = bit at *
   clear BO PA HB3 rg hL
   have m1 : IntKind.i64.wrap ((q : Int) + 1) = ((q + 1 : Nat) : Int) := by rw [IntKind.wrap_i64]; omega
   have q9 : (q : Int) < 9 := by omega
   have q91 : (q : Int) + 1 < 9 := by omega
   have q92 : (0 : Int) ≤ (q : Int) + 1 := by omega
   go_wp2
   refine region_g [19, 21] (fun w' => Cel w' w.heap.size [.int .i64 K, .int .i64 (n : Int), .slice (some ⟨b, off, none⟩) 8 cap] 26 ∧ Cel w' g5 (iv L) 81 ∧ Cel w' g4 (iv (List.replicate 27 0)) 81 ∧ Below w.heap.size w w') (by kernel_rfl) ?_
   have hS : (fun w' => Cel w' w.heap.size [.int .i64 K, .int .i64 (n : Int), .slice (some ⟨b, off, none⟩) 8 cap] 26 ∧ Cel w' g5 (iv L) 81 ∧ Cel w' g4 (iv (List.replicate 27 0)) 81 ∧ Below w.heap.size w w') wr.drew := ⟨hx, h5, h4, hb.drew⟩
   clear hx h5 h4 hb
   generalize wr.drew = V at *
   refine AnyG.takeW 0 (v := ?vv1) rfl (by kernel_rfl) (by kernel_rfl) (by kernel_rfl) (fun _ _ _ h => h) ?hy1 (by rfl) ?rest1
   case hy1 =>
    intro w0
    go_simp
    try with_reducible rfl
   simp only [Act.put, yq0, yq1, yq2, yq3, yq4, yq5]
   refine AnyG.takeW 1 (v := ?vv2) rfl (by kernel_rfl) (by kernel_rfl) (by kernel_rfl) (fun _ _ _ h => h) ?hy2 (by rfl) ?rest2
   case hy2 =>
    intro w0
    go_simp
    try with_reducible rfl
   simp only [Act.put, yq0, yq1, yq2, yq3, yq4, yq5]
   refine AnyG.takeW 2 (v := ?vv3) rfl (by kernel_rfl) (by kernel_rfl) (by kernel_rfl) (fun _ _ _ h => h) ?hy3 (by rfl) ?rest3
   case hy3 =>
    intro w0
    go_simp
    try with_reducible rfl
   simp only [Act.put, yq0, yq1, yq2, yq3, yq4, yq5]
   refine AnyG.takeW 3 (v := ?vv4) rfl (by kernel_rfl) (by kernel_rfl) (by kernel_rfl) (fun _ _ _ h => h) ?hy4 (by rfl) ?rest4
   case hy4 =>
    intro w0
    go_simp
    try with_reducible rfl
   simp only [Act.put, yq0, yq1, yq2, yq3, yq4, yq5]
   refine AnyG.tf 4 hS rfl (fun w0 h0 => by have c1 := h0.1.cell 2 rfl; go_simp; try with_reducible rfl) ?_
   refine AnyG.takeW 5 (v := ?vv6) rfl (by kernel_rfl) (by kernel_rfl) (by kernel_rfl) (fun _ _ _ h => h) ?hy6 (by rfl) ?rest6
   case hy6 =>
    intro w0
    go_simp
    try with_reducible rfl
   simp only [Act.put, yq0, yq1, yq2, yq3, yq4, yq5]
   refine AnyG.takeW 6 (v := ?vv7) rfl (by kernel_rfl) (by kernel_rfl) (by kernel_rfl) (fun _ _ _ h => h) ?hy7 (by rfl) ?rest7
   case hy7 =>
    intro w0
    go_simp
    try with_reducible rfl
   simp only [Act.put, yq0, yq1, yq2, yq3, yq4, yq5]
   refine AnyG.take 7 (v := .agg (cs).toArray) rfl (by kernel_rfl) (by kernel_rfl) (by kernel_rfl) (by kernel_rfl) (fun _ _ _ h => h) hS (fun w0 h0 => run_load_part b (off + q * 22) _ rfl (range_keep RG.out h0.2.2.2 hbl) Tryz.underlying45 HL.out) (by rfl) ?rest8
   simp only [Act.put, yq0, yq1, yq2, yq3, yq4, yq5]
   refine AnyG.takeW 8 (v := ?vv9) rfl (by kernel_rfl) (by kernel_rfl) (by kernel_rfl) (fun _ _ _ h => h) ?hy9 (by rfl) ?rest9
   case hy9 =>
    intro w0
    go_simp
    try with_reducible rfl
   simp only [Act.put, yq0, yq1, yq2, yq3, yq4, yq5]
   refine AnyG.takeW 9 (v := ?vv10) rfl (by kernel_rfl) (by kernel_rfl) (by kernel_rfl) (fun _ _ _ h => h) ?hy10 (by rfl) ?rest10
   case hy10 =>
    intro w0
    go_simp
    try with_reducible rfl
   simp only [Act.put, yq0, yq1, yq2, yq3, yq4, yq5]
   refine AnyG.take 10 (v := .agg #[.int .i64 (s0 : Nat), .int .i64 (e0 : Nat), .int .i64 0]) rfl (by kernel_rfl) (by kernel_rfl) (by kernel_rfl) (by kernel_rfl) (fun _ _ _ h => h) hS (fun w0 h0 => run_load_part g5 (q * 3) [.int .i64 (s0 : Nat), .int .i64 (e0 : Nat), .int .i64 0] rfl (RN.out w0 h0.2.1) Tryz.underlying73 (by kernel_rfl)) (by rfl) ?rest11
   simp only [Act.put, yq0, yq1, yq2, yq3, yq4, yq5]
   refine AnyG.takeW 11 (v := ?vv12) rfl (by kernel_rfl) (by kernel_rfl) (by kernel_rfl) (fun _ _ _ h => h) ?hy12 (by rfl) ?rest12
   case hy12 =>
    intro w0
    go_simp
    try with_reducible rfl
   simp only [Act.put, yq0, yq1, yq2, yq3, yq4, yq5]
   refine AnyG.takeW 12 (v := ?vv13) rfl (by kernel_rfl) (by kernel_rfl) (by kernel_rfl) (fun _ _ _ h => h) ?hy13 (by rfl) ?rest13
   case hy13 =>
    intro w0
    go_simp
    try with_reducible rfl
   simp only [Act.put, yq0, yq1, yq2, yq3, yq4, yq5]
   refine AnyG.o1 13 ?_
   intro K hK
   go_simp
   refine (B.out _).mono ?_
   rintro e w3 ⟨rfl, h3⟩
   rw [h3]
   clear h3 w3
   refine hK.out _ _ (fun _ => hS) ?_
   clear hK K
   try simp only [Act.put, yq0, yq1, yq2, yq3, yq4, yq5]
   refine AnyG.o1 14 ?_
   intro K hK
   go_simp
   refine (PP.out _ hS.2.2.2).mono ?_
   rintro e w4 ⟨rfl, hb4⟩
   have hS2 := And.intro (hS.1.kept hb4) (And.intro (hS.2.1.kept hb4) (And.intro (hS.2.2.1.kept hb4) (hS.2.2.2.trans (hb4.mono hS.2.2.2.size))))
   clear hb4 hS
   refine hK.out _ _ (fun _ => hS2) ?_
   clear hK K
   try simp only [Act.put, yq0, yq1, yq2, yq3, yq4, yq5]
   refine AnyG.takeW 15 (v := ?vv14) rfl (by kernel_rfl) (by kernel_rfl) (by kernel_rfl) (fun _ _ _ h => h) ?hy14 (by rfl) ?rest14
   case hy14 =>
    intro w0
    go_simp
    try with_reducible rfl
   simp only [Act.put, yq0, yq1, yq2, yq3, yq4, yq5]
   refine AnyG.takeW 16 (v := ?vv15) rfl (by kernel_rfl) (by kernel_rfl) (by kernel_rfl) (fun _ _ _ h => h) ?hy15 (by rfl) ?rest15
   case hy15 =>
    intro w0
    go_simp
    try with_reducible rfl
   simp only [Act.put, yq0, yq1, yq2, yq3, yq4, yq5]
   refine AnyG.takeW 17 (v := ?vv16) rfl (by kernel_rfl) (by kernel_rfl) (by kernel_rfl) (fun _ _ _ h => h) ?hy16 (by rfl) ?rest16
   case hy16 =>
    intro w0
    go_simp
    try with_reducible rfl
   simp only [Act.put, yq0, yq1, yq2, yq3, yq4, yq5]
   refine AnyG.takeW 18 (v := ?vv17) rfl (by kernel_rfl) (by kernel_rfl) (by kernel_rfl) (fun _ _ _ h => h) ?hy17 (by rfl) ?rest17
   case hy17 =>
    intro w0
    go_simp
    try with_reducible rfl
   simp only [Act.put, yq0, yq1, yq2, yq3, yq4, yq5]
   refine AnyG.o1 19 ?_
   intro K hK
   refine wp_store_n3 rfl g5 L q _ _ _ rfl rfl hS2.2.1 (by rw [lL]; omega) ?_
   intro w5 c5 o5
   refine hK.out _ _ (fun h => absurd (by decide) h) ?_
   clear hK K
   try simp only [Act.put, yq0, yq1, yq2, yq3, yq4, yq5]
   refine AnyG.takeW 20 (v := ?vv18) rfl (by kernel_rfl) (by kernel_rfl) (by kernel_rfl) (fun _ _ _ h => h) ?hy18 (by rfl) ?rest18
   case hy18 =>
    intro w0
    go_simp
    try with_reducible rfl
   simp only [Act.put, yq0, yq1, yq2, yq3, yq4, yq5]
   refine AnyG.o1 21 ?_
   intro K hK
   refine wp_store_n3 rfl g5 _ (q + 1) _ _ _ rfl rfl c5 (by rw [lL3, lL]; omega) ?_
   intro w6 c6 o6
   refine hK.out _ _ (fun h => absurd (by decide) h) ?_
   clear hK K
   try simp only [Act.put, yq0, yq1, yq2, yq3, yq4, yq5]
   refine AnyG.done (by kernel_rfl) ?_ _
   rw [ST.out] at c6
   have HF := Hid.mkt (And.intro (o6.cel (o5.cel hS2.1 (by omega)) (by omega)) (And.intro c6 (And.intro (o6.cel (o5.cel hS2.2.2.1 (by omega)) (by omega)) ((hS2.2.2.2.trans (o5.below (by omega))).trans (o6.below (by omega))))))
   clear c5 o5 c6 o6 hS2
   go_wp2
   exact ⟨⟨q + 1, by omega, by go_num, HF.out⟩, by simp only [intOf]; omega⟩
  ·obtain rfl : q = 8 := by omega
   clear BO PA HB3
   go_wp2_with (first | refine load_path g5 _ rfl h5 (length_pn _ _ _ _) ?_ | refine store_cel g4 _ _ rfl rfl h4 (by simp [length_iv, length_pn]) (size_path _ (length_pn _ _ _ _)) (one_iv _) ?_)
   intro w5 hc5 hb5
   have HC := Hid.mkt (And.intro hc5 (hb.trans (hb5.below (by omega))))
   clear hc5 hb5 hx h5 h4 hb
   go_wp2
   (try simp only [Exit.inBlock, Exit.then])
   exact bodyPost_ret (result_path rfl g4 _ (length_pn _ _ _ _) rfl HC.out.1) rfl ⟨rfl, HC.out.2⟩
def trE (x : TR) (i : Int) : Int := if tOk x then (if i < 0 ∨ x.N < i then 3 else 0) else 2
def trN (x : TR) (c : Nat) (i : Int) : Int := if trE x i = 0 then (Tw.cn (txt x) c i.toNat : Int) else 0
theorem tr_bad {x : TR} (c : Nat) (i : Int) (ok : tOk x = false) : trE x i = 2 ∧ trN x c i = 0 := by
 have e : trE x i = 2 := by unfold trE; rw [ok]; rfl
 refine ⟨e, ?_⟩
 unfold trN
 rw [e]
 rfl
theorem tr_out {x : TR} (c : Nat) (i : Int) (ok : tOk x = true) (hi : i < 0 ∨ x.N < i) : trE x i = 3 ∧ trN x c i = 0 := by
 have e : trE x i = 3 := by unfold trE; rw [ok, if_pos rfl, if_pos hi]
 refine ⟨e, ?_⟩
 unfold trN
 rw [e]
 rfl
theorem tr_in {x : TR} (c : Nat) (i : Nat) (ok : tOk x = true) (hi : (i : Int) ≤ x.N) : trE x i = 0 ∧ trN x c i = (Tw.cn (txt x) c i : Int) := by
 have e : trE x i = 0 := by unfold trE; rw [ok, if_pos rfl, if_neg (by omega)]
 refine ⟨e, ?_⟩
 unfold trN
 rw [e, if_pos rfl, Int.toNat_natCast]
theorem row_at {b off cap : Nat} {x : TR} {t : List Nat} {w : World} (h : TI w (some ⟨b, off, none⟩) cap x) (ht : TT x t) (q : Nat) (hq : q < 8) : ∃ cs : List Value, w.rangeAt b (off + q * 22) cs ∧ KI w cs (lw x q) ∧ (Tryz.prog.info? 45).map (·.size) = some cs.length := by
 obtain ⟨b', off', e, _, hrows⟩ := h.l (by rw [ht.e]; decide)
 simp only [Option.some.injEq, Addr.mk.injEq, and_true] at e
 obtain ⟨rfl, rfl⟩ := e
 obtain ⟨cs, h1, h2⟩ := hrows q (by rw [ht.e]; exact hq)
 exact ⟨cs, h1, h2, h2.arg.len⟩
theorem rank_t {P : RA → Prop} (U : VC P) (V : VR P) (lo : Option Addr) (cap : Nat) (x : TR) (c : Nat) (i : Int) (w : World) (h : TI w lo cap x) (hc : c < 256) (hI : I64 i) (hp : ∀ l, l < x.av.length → P (lw x l)) :
  Calls Tryz.prog 13 #[.agg #[.int .i64 x.K, .int .i64 x.N, .slice lo x.av.length cap], .int .u8 c, .int .i64 i] w fun e w' => e = .returned (.tuple #[.int .i64 (trN x c i), .int .i64 (trE x i)]) ∧ Below w.heap.size w w' := by
 have HPP := Hid.mkt hp
 clear hp
 have CK : Hid (∀ w0, Below w.heap.size w w0 → Calls Tryz.prog 23 #[.agg #[.int .i64 x.K, .int .i64 x.N, .slice lo x.av.length cap]] w0 fun e w' => e = .returned (.bool (tOk x)) ∧ Below w0.heap.size w0 w') := fun w0 hb => check_t U lo cap x w0 (h.keep hb) HPP.out
 have bx := Cel.new w [.int .i64 x.K, .int .i64 x.N, .slice lo x.av.length cap] 26
 have bw := below_alloc w (.cells #[.int .i64 x.K, .int .i64 x.N, .slice lo x.av.length cap] 26)
 cases ok : tOk x with
 | false =>
  rw [ok] at CK
  have r1 := tr_bad c i ok
  rw [r1.1, r1.2]
  clear h ok r1
  generalize x.N = N at *
  generalize x.K = K at *
  generalize x.av.length = m at *
  go_enter Tryz.func13, Tryz.ntmps13
  go_wp2_with fail
  refine (CK.out _ bw).mono ?_
  rintro e w1 ⟨rfl, hb⟩
  replace bw := bw.trans (hb.mono bw.size)
  clear hb bx
  go_wp2
  go_ret2
  exact ⟨rfl, bw⟩
 | true =>
  have ht := tt_of x ok
  rw [ok] at CK
  by_cases hr : i < 0 ∨ x.N < i
  ·obtain ⟨r1, r2⟩ := tr_out c i ok hr
   rw [r1, r2]
   have hn := h.n
   clear h r1 r2 ht ok
   generalize x.N = N at *
   generalize x.K = K at *
   generalize x.av.length = m at *
   have x1 := bx.cell 1 rfl
   by_cases i0 : i < 0
   ·go_enter Tryz.func13, Tryz.ntmps13
    go_wp2_with fail
    refine (CK.out _ bw).mono ?_
    rintro e w1 ⟨rfl, hb⟩
    replace bw := bw.trans (hb.mono bw.size)
    clear hb bx x1
    go_wp2
    go_ret2
    exact ⟨rfl, bw⟩
   ·have i1 : N < i := by omega
    have i00 : (0 : Int) ≤ i := by omega
    go_enter Tryz.func13, Tryz.ntmps13
    go_wp2_with fail
    refine (CK.out _ bw).mono ?_
    rintro e w1 ⟨rfl, hb⟩
    replace bw := bw.trans (hb.mono bw.size)
    replace bx := bx.kept hb
    clear hb x1
    have x1 := bx.cell 1 rfl
    go_wp2
    go_ret2
    exact ⟨rfl, bw⟩
  ·obtain ⟨i, rfl⟩ := Int.eq_ofNat_of_zero_le (show 0 ≤ i by omega)
   obtain ⟨r1, r2⟩ := tr_in c i ok (by omega)
   rw [r1, r2]
   have hiN : (i : Int) ≤ x.N := by omega
   generalize txt x = t at *
   clear r1 r2 hr ok
   obtain ⟨b, off, rfl, hbl, _⟩ := h.l (by rw [ht.e]; decide)
   obtain ⟨n, hn⟩ : ∃ n, Hid (n = t.length) := ⟨_, rfl⟩
   have hn8 : n ≤ 8192 := by rw [hn.out]; exact ht.h
   have HTI := Hid.mkt h
   have HT := Hid.mkt ht
   have PO : Hid (∀ w0, Below w.heap.size w w0 → Calls Tryz.prog 36 #[.agg #[.int .i64 x.K, .int .i64 (n : Int), .slice (some ⟨b, off, none⟩) 8 cap], .int .u8 c] w0 fun e w' => e = .returned (.agg (iv (pn x t c 8)).toArray) ∧ Below w0.heap.size w0 w') := fun w0 hb => by
    have := pathOf_c V (some ⟨b, off, none⟩) cap x t c w0 (HTI.out.keep hb) HT.out hc (fun l hl => HPP.out l (by rw [HT.out.e]; exact hl))
    rw [HT.out.n, ← hn.out] at this
    exact this
   have BO : Hid (∀ w0 (q : Nat), q < 8 → Calls Tryz.prog 37 #[.int .u8 c, .int .i64 q] w0 fun e w' => e = .returned (.bool (Tw.tb q c)) ∧ w' = w0) := fun w0 q hq => bitOf_c c q hc hq w0
   have CO : Hid (∀ q, q < 8 → ∃ cs : List Value, w.rangeAt b (off + q * 22) cs ∧ (Tryz.prog.info? 45).map (·.size) = some cs.length ∧ ∀ w0, Below w.heap.size w w0 → Calls Tryz.prog 35 #[.agg cs.toArray, .bool (Tw.tb q c), .int .i64 ((pS t c q + Tw.rk t q (Tw.hi q c) i : Nat) : Int)] w0 fun r w' => r = .returned (.int .i64 ((pA x t c q + Tw.rk t (q + 1) (Tw.hi (q + 1) c) i : Nat) : Int)) ∧ Below w0.heap.size w0 w') := fun q hq => by
    obtain ⟨cs, h1, h2, h3⟩ := row_at HTI.out HT.out q hq
    refine ⟨cs, h1, h3, fun w0 hb => ?_⟩
    obtain ⟨_, r2, r3, _⟩ := HT.out.r q hq
    have hin : i ≤ t.length := by have := HT.out.n; omega
    have := count_t V cs (lw x q) (Tw.tb q c) t.length (pS t c q + Tw.rk t q (Tw.hi q c) i) w0 (h2.keep hb) r2 r3 (pS_rk t c q i (by omega) hc HT.out.b hin) (by have := HT.out.h; omega) (HPP.out q (by rw [HT.out.e]; exact hq))
    rw [HT.out.down c q i hq hc hin] at this
    exact this
   have HB : Hid (∀ q, q ≤ 8 → pS t c q ≤ 8192 ∧ pS t c q + Tw.rk t q (Tw.hi q c) i ≤ 8192) := fun q hq => by
    have hin : i ≤ t.length := by have := HT.out.n; omega
    have := pS_rk t c q i hq hc HT.out.b hin
    have := HT.out.h
    omega
   have HA : Hid (∀ q, q < 8 → pA x t c q ≤ 8192) := fun q hq => by
    have := cB_le (kBX (lw x q)) (Tw.tb q c) (pS t c q)
    have := HB.out q (by omega)
    unfold pA
    omega
   have T0 := Hid.mkt (rk_top t c i hc ht.b)
   obtain ⟨Z, hZ⟩ : ∃ Z, Hid (Z = Tw.cn t c i) := ⟨_, rfl⟩
   rw [← hZ.out]
   have T8 : Hid (Tw.rk t 8 (Tw.hi 8 c) i = Z) := (rk_low t c i).trans hZ.out.symm
   have e8 := ht.e
   have eN : x.N = (n : Int) := by rw [hn.out]; exact ht.n
   rw [e8, eN] at bx bw CK ⊢
   rw [eN] at hiN
   have hin : i ≤ n := by omega
   clear h ht e8 eN
   generalize x.K = K at *
   have x1 := bx.cell 1 rfl
   go_enter Tryz.func13, Tryz.ntmps13
   go_wp2_with fail
   refine (CK.out _ bw).mono ?_
   rintro e w1 ⟨rfl, hb⟩
   replace bw := bw.trans (hb.mono bw.size)
   replace bx := bx.kept hb
   clear hb x1 CK
   have x0 := bx.cell 0 rfl
   have x1 := bx.cell 1 rfl
   have x2 := bx.cell 2 rfl
   go_wp2_with fail
   refine (PO.out _ bw).mono ?_
   rintro e w2 ⟨rfl, hb⟩
   replace bw := bw.trans (hb.mono bw.size)
   replace bx := bx.kept hb
   have hs2 := bx.lt
   clear hb x0 x1 x2 PO
   go_wp2_with (refine alloc_z _ info_path ?_)
   intro w3 c3 b3 s3
   have hz := bw.size
   replace bx := bx.kept b3
   replace bw := bw.trans (b3.mono hz)
   go_wp2_with (refine store_cel w2.heap.size _ _ rfl rfl c3 (by simp [length_iv, length_pn]) (size_path _ (length_pn _ _ _ _)) (one_iv _) ?_)
   intro w4 c4 o4
   have l8 : w.heap.size < w2.heap.size := by
    have := hs2
    omega
   replace bx := o4.cel bx (by omega)
   replace bw := bw.trans (o4.below hz)
   clear c3 b3 s3 o4 hs2
   generalize w2.heap.size = g8 at *
   simp only [Act.put, yq3, List.set]
   go_wp2
   go_loopw [24, 2] (fun s v wr => ∃ q : Nat, q ≤ 8 ∧ s = .int .i64 q ∧ v = .int .i64 (Tw.rk t q (Tw.hi q c) i : Nat) ∧ Cel wr w.heap.size [.int .i64 K, .int .i64 (n : Int), .slice (some ⟨b, off, none⟩) 8 cap] 26 ∧ Cel wr g8 (iv (pn x t c 8)) 81 ∧ Below w.heap.size w wr) (fun s _ _ => 8 - (intOf s).toNat)
   case atStart => exact ⟨0, Nat.zero_le _, rfl, by rw [T0.out], bx, c4, bw⟩
   case round =>
    obtain ⟨q, hq, rfl, rfl, hx, h8, hb⟩ := hrel
    clear bx c4 bw
    by_cases hi : q < 8
    ·have hi2 : (q : Int) < 8 := by omega
     obtain ⟨cs, rg, HL, C⟩ := CO.out q hi
     have HL := Hid.mkt HL
     have C := Hid.mkt C
     have RG := Hid.mkt rg
     have B : Hid (∀ w0, Calls Tryz.prog 37 #[.int .u8 c, .int .i64 q] w0 fun e w' => e = .returned (.bool (Tw.tb q c)) ∧ w' = w0) := fun w0 => BO.out w0 q hi
     have R1 : Hid (∀ w' : World, Cel w' g8 (iv (pn x t c 8)) 81 → w'.cell? ⟨g8, q * 3, none⟩ = some (.int .i64 (pS t c q : Nat))) := fun w' h => by
      rw [cel_iv h (q * 3) (by rw [length_pn]; omega), pn_s x t c 8 q hq hq]
     have R2 : Hid (∀ w' : World, Cel w' g8 (iv (pn x t c 8)) 81 → w'.cell? ⟨g8, q * 3 + 2, none⟩ = some (.int .i64 (pA x t c q : Nat))) := fun w' h => by
      rw [cel_iv h (q * 3 + 2) (by rw [length_pn]; omega), pn_a x t c 8 q hq hi]
     obtain ⟨u1, u2⟩ := HB.out q hq
     have u3 := HA.out q hi
     have u4 := Tw.rk_le t (q + 1) (Tw.hi (q + 1) c) i
     obtain ⟨R', hR'⟩ : ∃ R', Hid (R' = Tw.rk t (q + 1) (Tw.hi (q + 1) c) i) := ⟨_, rfl⟩
     rw [← hR'.out] at C u4
     generalize pS t c q = s0 at *
     generalize pA x t c q = a0 at *
     generalize Tw.rk t q (Tw.hi q c) i = R at *
     generalize Tw.tb q c = bit at *
     clear BO CO HB HA rg
     have m1 : IntKind.i64.wrap ((s0 : Int) + (R : Int)) = ((s0 + R : Nat) : Int) := by rw [IntKind.wrap_i64]; omega
     have m2 : IntKind.i64.wrap (((a0 + R' : Nat) : Int) - (a0 : Int)) = (R' : Int) := by rw [IntKind.wrap_i64]; omega
     have m3 : IntKind.i64.wrap ((a0 : Int) + (R' : Int) - (a0 : Int)) = (R' : Int) := by rw [IntKind.wrap_i64]; omega
     have q9 : (q : Int) < 9 := by omega
     go_wp2
     refine region_g [] (fun w' => Cel w' w.heap.size [.int .i64 K, .int .i64 (n : Int), .slice (some ⟨b, off, none⟩) 8 cap] 26 ∧ Cel w' g8 (iv (pn x t c 8)) 81 ∧ Below w.heap.size w w') (by kernel_rfl) ?_
     have hS : (fun w' => Cel w' w.heap.size [.int .i64 K, .int .i64 (n : Int), .slice (some ⟨b, off, none⟩) 8 cap] 26 ∧ Cel w' g8 (iv (pn x t c 8)) 81 ∧ Below w.heap.size w w') wr.drew := ⟨hx, h8, hb.drew⟩
     clear hx h8 hb
     generalize wr.drew = V at *
     refine AnyG.tk 0 hS ?_
     refine AnyG.tf 1 hS rfl (fun w0 h0 => by have c1 := h0.1.cell 2 rfl; go_simp; try with_reducible rfl) ?_
     refine AnyG.tk 2 hS ?_
     refine AnyG.tk 3 hS ?_
     refine AnyG.take 4 (v := .agg (cs).toArray) rfl (by kernel_rfl) (by kernel_rfl) (by kernel_rfl) (by kernel_rfl) (fun _ _ _ h => h) hS (fun w0 h0 => run_load_part b (off + q * 22) _ rfl (range_keep RG.out h0.2.2 hbl) Tryz.underlying45 HL.out) (by rfl) ?rest5
     simp only [Act.put, yq0, yq1, yq2, yq3, yq4, yq5]
     refine AnyG.tk 5 hS ?_
     refine AnyG.tk 6 hS ?_
     refine AnyG.tk 8 hS ?_
     refine AnyG.tk 9 hS ?_
     refine AnyG.tk 10 hS ?_
     refine AnyG.tf 11 hS rfl (fun w0 h0 => by have c1 := R1.out w0 h0.2.1; go_simp; try with_reducible rfl) ?_
     refine AnyG.tk 12 hS ?_
     refine AnyG.tk 13 hS ?_
     refine AnyG.tk 15 hS ?_
     refine AnyG.tk 16 hS ?_
     refine AnyG.tk 17 hS ?_
     refine AnyG.tf 18 hS rfl (fun w0 h0 => by have c1 := R2.out w0 h0.2.1; go_simp; try with_reducible rfl) ?_
     refine AnyG.o1 7 ?_
     intro K hK
     go_simp
     refine (B.out _).mono ?_
     rintro e w5 ⟨rfl, h3⟩
     rw [h3]
     clear h3 w5
     refine hK.out _ _ (fun _ => hS) ?_
     clear hK K
     try simp only [Act.put, yq0, yq1, yq2, yq3, yq4, yq5]
     refine AnyG.o1 14 ?_
     intro K hK
     go_simp
     refine (C.out _ hS.2.2).mono ?_
     rintro e w6 ⟨rfl, hb4⟩
     have hS2 := And.intro (hS.1.kept hb4) (And.intro (hS.2.1.kept hb4) (hS.2.2.trans (hb4.mono hS.2.2.size)))
     clear hb4 hS
     refine hK.out _ _ (fun _ => hS2) ?_
     clear hK K
     try simp only [Act.put, yq0, yq1, yq2, yq3, yq4, yq5]
     refine AnyG.tk 19 hS2 ?_
     refine AnyG.tk 20 hS2 ?_
     refine AnyG.done (by kernel_rfl) ?_ _
     have HF := Hid.mkt hS2
     clear hS2
     go_wp2
     exact ⟨⟨q + 1, by omega, by go_num, by rw [hR'.out], HF.out⟩, by simp only [intOf]; omega⟩
    ·obtain rfl : q = 8 := by omega
     clear BO CO HB HA
     rw [T8.out]
     go_wp2
     go_ret2
     exact ⟨rfl, hb⟩
end Go.Proofs.YtfnkklkdajlhlaaGreatDoor
