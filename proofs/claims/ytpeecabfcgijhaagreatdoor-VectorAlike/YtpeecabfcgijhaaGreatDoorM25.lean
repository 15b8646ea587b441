/-
  The contract of the program's Bits of rows in blocks. Slices of structs of two cells; the contract of the program's parted. The contract of the program's marked.
-/
import Derived.Test.YtpeecabfcgijhaaGreatDoorM24
namespace Go.Proofs.YtpeecabfcgijhaaGreatDoor
open Go.RowKit Num Bit Bn
set_option linter.unusedVariables false
set_option linter.unusedSimpArgs false
set_option maxRecDepth 100000

structure TInv (w0 : World) (m n gr gw gz : Nat) (Y : List Nat) (i : Nat) (w : World) : Prop where
 below : Below w0.heap.size w0 w
 row : Cel w gr [.int .i64 (m : Nat), .slice (some ⟨gw, 0, none⟩) n n] 24
 z : Cel w gz [.int .i64 0, .slice none 0 0] 24
 own : Own w gw (rowP m (bitAt Y) (15 * i))
theorem TInv.keep {w0 : World} {m n gr gw gz hi i : Nat} {Y : List Nat} {w w' : World} (h : TInv w0 m n gr gw gz Y i w) (h0 : w0.heap.size ≤ hi) (h1 : gr < hi) (h2 : gw < hi) (h3 : gz < hi) (hb : Below hi w w') : TInv w0 m n gr gw gz Y i w' :=
 ⟨h.below.trans (hb.mono h0), h.row.keep hb h1, h.z.keep hb h3, (hb.block gw h2).trans h.own⟩
set_option maxHeartbeats 8000000 in
theorem bits_k8 (cs : List Value) (a : RA8) (w : World) (h : KI8 w cs a) :
  Calls Tryz.prog 62 #[.agg cs.toArray] w fun e w' => ∃ bo bc, e = .returned (.agg #[.int .i64 (kBN8 a), .slice bo (kBX8 a).length bc]) ∧ Wd w' bo (kBX8 a) ∧ (kBX8 a).length ≤ bc ∧ Below w.heap.size w w' := by
 have C := fun (w0 : World) (hb : Below w.heap.size w w0) => qcheck_c cs a w0 (h.keep hb)
 cases hk : kOk8 a with
 | false =>
  rw [hk] at C
  have CH : Hid (∀ w0, Below w.heap.size w w0 → Calls Tryz.prog 59 #[.agg cs.toArray] w0 fun e w' => e = .returned (.bool false) ∧ Below w0.heap.size w0 w') := C
  have hr : rOk a.N a.k a.V a.M a.xs a.L a.ys a.S a.T = false := hk
  have e1 : kBN8 a = 0 := by unfold kBN8 rBN; rw [hr]; rfl
  have e2 : kBX8 a = [] := by unfold kBX8 rBX; rw [hr]; rfl
  rw [e1, e2]
  clear C hk hr e1 e2
  obtain ⟨⟨ao, cap, qo, dap, so, sc, tO, tc, rfl, _⟩, _⟩ := h
  obtain ⟨N, k, V, M, xs, L, ys, S, T⟩ := a
  dsimp only at *
  obtain ⟨W, hW⟩ : ∃ W, W = (w.alloc (.cells #[.int .i64 N, .int .i64 k, .int .i64 V, .int .i64 M, .slice ao xs.length cap, .int .i64 L, .slice qo ys.length dap, .slice so S.length sc, .slice tO T.length tc] 33)).alloc (.cells #[.int .i64 0, .slice none 0 0] 24) := ⟨_, rfl⟩
  have bW : Below w.heap.size w W := by rw [hW]; exact (below_alloc w _).alloc (by simp) _
  have B2 : Cel W (w.heap.size + 1) [.int .i64 0, .slice none 0 0] 24 := by rw [hW]; exact Cel.new2 w _ _ _
  go_enter Tryz.func62, Tryz.ntmps62
  go_wp2_with fail
  rw [← hW]
  refine (CH.out _ bW).mono ?_
  rintro e w1 ⟨rfl, hb⟩
  have bw1 := bW.trans (hb.mono bW.size)
  replace B2 := B2.kept hb
  have f0 := B2.frozen 0
  have f1 := B2.frozen 1
  have n0 := B2.cell 0 rfl
  have n1 := B2.cell 1 rfl
  clear hW hb
  go_wp2
  refine bodyPost_ret (result_cel1 rfl (w.heap.size + 1) [.int .i64 0, .slice none 0 0] rfl ((B2.set 0 _).set 1 _) Tryz.underlying24 r8info_b) rfl ⟨none, 0, rfl, fun h => absurd h (Nat.lt_irrefl _), Nat.le_refl _, ?_⟩
  exact (bw1.setCell (by show w.heap.size ≤ w.heap.size + 1; omega) _).setCell (by show w.heap.size ≤ w.heap.size + 1; omega) _
 | true =>
  rw [hk] at C
  have CH : Hid (∀ w0, Below w.heap.size w w0 → Calls Tryz.prog 59 #[.agg cs.toArray] w0 fun e w' => e = .returned (.bool true) ∧ Below w0.heap.size w0 w') := C
  obtain ⟨m, eN, v⟩ := ok_kv a hk
  have hm := v.le
  have vN := v.nN
  clear C hk
  rw [eN]
  generalize kBX8 a = Y at *
  obtain ⟨n, hn⟩ : ∃ n, n = (m + 63) / 64 := ⟨_, rfl⟩
  have hYl : Y.length = n := by
   obtain ⟨_, _, q, _⟩ := chk_out _ _ v.ck
   omega
  have HN : Hid (∀ w0, Calls Tryz.prog 115 #[.int .i64 (m : Int)] w0 fun e w' => ∃ g, e = .returned (.agg #[.int .i64 (m : Nat), .slice (some ⟨g, 0, none⟩) n n]) ∧ w0.heap.size ≤ g ∧ Own w' g (rowP m (bitAt Y) (15 * 0)) ∧ Below w0.heap.size w0 w') := by
   intro w0
   have := qnoughts_c m n hm hn w0
   rw [← rowP_zero m (bitAt Y)] at this
   exact this
  have g1 : 0 < gN m := by unfold gN; omega
  have HA : Hid (∀ (gr gw gz : Nat) w1, TInv w m n gr gw gz Y 0 w1 → w.heap.size ≤ gw → gr ≠ gw → gz ≠ gw → gr < w1.heap.size → gz < w1.heap.size → Calls Tryz.prog 110 #[.agg cs.toArray, .int .i64 0, .func (.func 116) #[] #[.pointer (some ⟨gr, 0, none⟩)]] w1 fun e w' => ∃ r, e = .returned r ∧ TInv w m n gr gw gz Y (nb m) w') := by
   intro gr gw gz w1 hI l1 l2 l3 l4 l5
   have l6 : gw < w1.heap.size := hI.own.lt
   refine (qalong_c cs a 0 (nb m) w.heap.size w1.heap.size 116 #[.pointer (some ⟨gr, 0, none⟩)] (fun i w2 => TInv w m n gr gw gz Y i w2) (fun _ _ => False) w1 v.nk v.nV v.ic (by omega) (by rw [v.sl]; exact g1) (by rw [v.tl]; exact g1) (v.gs _ g1) (v.gt _ g1) hI.below.size (Nat.le_refl _) hI (fun i w2 hi => h.keep hi.below) (fun i w2 w3 hi hb => hi.keep hI.below.size l4 l6 l5 hb) (fun _ _ _ hf _ => hf) ?cf ?st).mono ?_
   case cf =>
    intro args w2
    kernel_rfl
   case st =>
    intro i w2 _ hin hse hi hw2
    refine (qbits1_c a m i n gr gw w.heap.size w1.heap.size Y w2 v hin hn hi.row hi.own l1 l6 hw2 l2).mono ?_
    rintro e w3 ⟨rfl, d1, fr, gg⟩
    refine ⟨true, rfl, fun _ => ⟨hi.below.trans fr.below, (gg gr l2 hi.row.lt).trans hi.row, (gg gz l3 hi.z.lt).trans hi.z, d1⟩, nofun, fr⟩
   ·rintro e w2 ⟨q, b, rfl, _, hq, h1, h2, fr⟩
    cases b with
    | true => exact ⟨_, rfl, (h1 rfl).2⟩
    | false =>
     obtain ⟨hlt, h3⟩ := h2 rfl
     rcases h3 with ⟨h3, _⟩ | ⟨_, h4⟩
     ·exact absurd (v.se q hlt) h3
     ·exact absurd h4 id
  have hmf : ∀ (fn : Fn) (first cap : Array Value) (w : World), (Instr.makeFunc fn first cap).run Tryz.prog w = .ok (.func fn first cap) w := fun _ _ _ _ => rfl
  have HE : Hid (rowP m (bitAt Y) (15 * nb m) = Y) := bits_end m Y v.fit v.ck
  clear v hn
  obtain ⟨⟨ao, cap, qo, dap, so, sc, tO, tc, rfl, _⟩, _⟩ := h
  obtain ⟨N, k, V, M, xs, L, ys, S, T⟩ := a
  dsimp only at *
  subst vN
  obtain ⟨W, hW⟩ : ∃ W, W = (w.alloc (.cells #[.int .i64 (m : Int), .int .i64 k, .int .i64 V, .int .i64 M, .slice ao xs.length cap, .int .i64 L, .slice qo ys.length dap, .slice so S.length sc, .slice tO T.length tc] 33)).alloc (.cells #[.int .i64 0, .slice none 0 0] 24) := ⟨_, rfl⟩
  have bW : Below w.heap.size w W := by rw [hW]; exact (below_alloc w _).alloc (by simp) _
  have zW : W.heap.size = w.heap.size + 2 := by rw [hW]; simp
  have B1 : Cel W w.heap.size [.int .i64 (m : Int), .int .i64 k, .int .i64 V, .int .i64 M, .slice ao xs.length cap, .int .i64 L, .slice qo ys.length dap, .slice so S.length sc, .slice tO T.length tc] 33 := by rw [hW]; exact (Cel.new w _ _).alloc _
  have B2 : Cel W (w.heap.size + 1) [.int .i64 0, .slice none 0 0] 24 := by rw [hW]; exact Cel.new2 w _ _ _
  go_enter Tryz.func62, Tryz.ntmps62
  go_wp2_with fail
  rw [← hW]
  refine (CH.out _ bW).mono ?_
  rintro e w1 ⟨rfl, hb⟩
  have bw1 := bW.trans (hb.mono bW.size)
  have z1 := hb.size
  replace B1 := B1.kept hb
  replace B2 := B2.kept hb
  have q0 := B1.cell 0 rfl
  clear hW hb bW CH
  go_wp2_with fail
  refine (HN.out _).mono ?_
  rintro e w2 ⟨g, rfl, hg, hO, hb⟩
  have bw2 := bw1.trans (hb.mono bw1.size)
  have z2 := hb.size
  replace B1 := B1.kept hb
  replace B2 := B2.kept hb
  have lg := hO.lt
  clear q0 hb bw1 HN
  have q0 := B1.cell 0 rfl
  have q1 := B1.cell 1 rfl
  have q2 := B1.cell 2 rfl
  have q3 := B1.cell 3 rfl
  have q4 := B1.cell 4 rfl
  have q5 := B1.cell 5 rfl
  have q6 := B1.cell 6 rfl
  have q7 := B1.cell 7 rfl
  have q8 := B1.cell 8 rfl
  have l1 := B1.lt
  obtain ⟨W3, hW3⟩ : ∃ W3, W3 = w2.alloc (.cells #[.int .i64 (m : Nat), .slice (some ⟨g, 0, none⟩) n n] 24) := ⟨_, rfl⟩
  have hb3 : Below w2.heap.size w2 W3 := by rw [hW3]; exact below_alloc w2 _
  have z3 : W3.heap.size = w2.heap.size + 1 := by rw [hW3]; simp
  have B3 : Cel W3 w2.heap.size [.int .i64 (m : Nat), .slice (some ⟨g, 0, none⟩) n n] 24 := by rw [hW3]; exact Cel.new w2 _ _
  have HI : Hid (TInv w m n w2.heap.size g (w.heap.size + 1) Y 0 W3) := ⟨bw2.trans (hb3.mono bw2.size), B3, B2.kept hb3, hO.keep hb3⟩
  clear hO B2 B3 bw2 hb3
  go_wp2_with fail
  rw [← hW3]
  refine (HA.out w2.heap.size g (w.heap.size + 1) W3 HI.out (by omega) (by omega) (by omega) (by omega) (by omega)).mono ?_
  rintro e w4 ⟨r, rfl, hI⟩
  have r0 := hI.row.cell 0 rfl
  have r1 := hI.row.cell 1 rfl
  have f0 := hI.z.frozen 0
  have f1 := hI.z.frozen 1
  have n0 := hI.z.cell 0 rfl
  have n1 := hI.z.cell 1 rfl
  have HI4 : Hid (TInv w m n w2.heap.size g (w.heap.size + 1) Y (nb m) w4) := hI
  clear hI HI HA q0 q1 q2 q3 q4 q5 q6 q7 q8 B1 hW3
  go_wp2
  obtain ⟨i1, i2, i3, i4⟩ := HI4.out
  rw [HE.out] at i4
  have i5 : Own ((w4.setCell ⟨w.heap.size + 1, 0, none⟩ (.int .i64 (m : Nat))).setCell ⟨w.heap.size + 1, 1, none⟩ (.slice (some ⟨g, 0, none⟩) n n)) g Y := (i4.set_other (by show g ≠ w.heap.size + 1; omega) _).set_other (by show g ≠ w.heap.size + 1; omega) _
  refine bodyPost_ret (result_cel1 rfl (w.heap.size + 1) [.int .i64 (m : Nat), .slice (some ⟨g, 0, none⟩) n n] rfl ((i3.set 0 _).set 1 _) Tryz.underlying24 r8info_b) rfl ⟨some ⟨g, 0, none⟩, n, by rw [hYl], i5.wd, by omega, ?_⟩
  exact (i1.setCell (by show w.heap.size ≤ w.heap.size + 1; omega) _).setCell (by show w.heap.size ≤ w.heap.size + 1; omega) _
end Go.Proofs.YtpeecabfcgijhaaGreatDoor

namespace Go.Proofs.YtpeecabfcgijhaaGreatDoor
open Go.RowKit Num Bit Bn
set_option linter.unusedVariables false
set_option linter.unusedSimpArgs false
set_option maxRecDepth 100000

theorem hide {p : Prop} (h : p) : Hid p := h
def bl2 (n : Nat) (a b : Nat → Value) : List Value := (List.range (n * 2)).map fun j => if j % 2 = 0 then a (j / 2) else b (j / 2)
theorem length_bl2 (n : Nat) (a b : Nat → Value) : (bl2 n a b).length = n * 2 := by simp [bl2]
theorem bl2_get (n : Nat) (a b : Nat → Value) (j : Nat) (h : j < n * 2) : (bl2 n a b)[j]? = some (if j % 2 = 0 then a (j / 2) else b (j / 2)) := by
 unfold bl2
 rw [List.getElem?_map, List.getElem?_range h]
 rfl
theorem bl2_fst (n : Nat) (a b : Nat → Value) (i : Nat) (h : i < n) : (bl2 n a b)[i * 2]? = some (a i) := by
 rw [bl2_get n a b (i * 2) (by omega), if_pos (by omega), show i * 2 / 2 = i by omega]
theorem bl2_snd (n : Nat) (a b : Nat → Value) (i : Nat) (h : i < n) : (bl2 n a b)[i * 2 + 1]? = some (b i) := by
 rw [bl2_get n a b (i * 2 + 1) (by omega), if_neg (by omega), show (i * 2 + 1) / 2 = i by omega]
theorem bl2_set (n : Nat) (a b a' b' : Nat → Value) (i : Nat) (h : i < n) (ha : ∀ j, j ≠ i → a' j = a j) (hb : ∀ j, j ≠ i → b' j = b j) : ((bl2 n a b).set (i * 2) (a' i)).set (i * 2 + 1) (b' i) = bl2 n a' b' := by
 refine List.ext_getElem? fun j => ?_
 by_cases c : j < n * 2
 ·rw [bl2_get n a' b' j c, List.getElem?_set, List.getElem?_set]
  by_cases c1 : i * 2 + 1 = j
  ·subst c1
   rw [if_pos rfl, List.length_set, length_bl2, if_pos c, if_neg (by omega), show (i * 2 + 1) / 2 = i by omega]
  ·rw [if_neg c1]
   by_cases c2 : i * 2 = j
   ·subst c2
    rw [if_pos rfl, length_bl2, if_pos c, if_pos (by omega), show i * 2 / 2 = i by omega]
   ·rw [if_neg c2, bl2_get n a b j c, ha (j / 2) (by omega), hb (j / 2) (by omega)]
 ·rw [List.getElem?_eq_none (by rw [List.length_set, List.length_set, length_bl2]; omega), List.getElem?_eq_none (by rw [length_bl2]; omega)]
theorem bl2_made (n : Nat) (x y : Value) : (madeCells #[x, y] (n * 2)).toList = bl2 n (fun _ => x) (fun _ => y) := by
 unfold madeCells bl2
 rw [Array.toList_map, Array.toList_range]
 refine List.map_congr_left fun j _ => ?_
 show #[x, y][j % 2]! = _
 rcases Nat.mod_two_eq_zero_or_one j with e | e
 ·rw [e]; rfl
 ·rw [e]; rfl
theorem cel_made {w : World} {base g n : Nat} {E : TypeId} {x y : Value} (h : w.ownsRow base E 2 (.slice (some ⟨g, 0, none⟩) n n) n (madeCells #[x, y] (n * 2)).toList) : Cel w g (bl2 n (fun _ => x) (fun _ => y)) E := by
 obtain ⟨_, h | ⟨g', cap, cur, e, _, hh, _, _, hs, ht⟩⟩ := h
 ·simp at h
 ·simp only [Value.slice.injEq, Option.some.injEq, Addr.mk.injEq] at e
  obtain ⟨⟨rfl, _, _⟩, _, rfl⟩ := e
  unfold Cel
  rw [hh, ← bl2_made n x y, ← ht]
  have e3 : cur.toList.take (n * 2) = cur.toList := List.take_of_length_le (by simp; omega)
  rw [e3]
def blP (n : Nat) (c o : Nat → Nat) (q : Nat) : List Value := bl2 n (fun i => .int .i64 ((if i < q then c i else 0 : Nat) : Int)) (fun i => .int .u64 ((if i < q then o i else 0 : Nat) : Int))
theorem blP_zero (n : Nat) (c o : Nat → Nat) : blP n c o 0 = bl2 n (fun _ => .int .i64 0) (fun _ => .int .u64 0) := by unfold blP; simp
theorem blP_step (n : Nat) (c o : Nat → Nat) (q : Nat) (h : q < n) : ((blP n c o q).set (q * 2) (.int .i64 (c q : Nat))).set (q * 2 + 1) (.int .u64 (o q : Nat)) = blP n c o (q + 1) := by
 have e := bl2_set n (fun i => .int .i64 ((if i < q then c i else 0 : Nat) : Int)) (fun i => .int .u64 ((if i < q then o i else 0 : Nat) : Int)) (fun i => .int .i64 ((if i < q + 1 then c i else 0 : Nat) : Int)) (fun i => .int .u64 ((if i < q + 1 then o i else 0 : Nat) : Int)) q h
  (fun j hj => by by_cases d : j < q <;> simp [d, show (j < q + 1 ↔ j < q) by omega]) (fun j hj => by by_cases d : j < q <;> simp [d, show (j < q + 1 ↔ j < q) by omega])
 rw [if_pos (show q < q + 1 by omega), if_pos (show q < q + 1 by omega)] at e
 exact e
theorem slc_blv (m : Nat) (X : List Nat) (hk : chk (m : Int) X = true) (i : Nat) (hi : i < nb m) : slcE (m : Int) X ((15 * i : Nat) : Int) ((min 15 (m - 15 * i) : Nat) : Int) = 0 ∧ slcX (m : Int) X ((15 * i : Nat) : Int) ((min 15 (m - 15 * i) : Nat) : Int) = blv m (bitAt X) i := by
 have e : slcE (m : Int) X ((15 * i : Nat) : Int) ((min 15 (m - 15 * i) : Nat) : Int) = 0 := by
  unfold slcE
  unfold nb at hi
  rw [if_neg (by rw [hk]; simp; omega), if_neg (by omega)]
 refine ⟨e, ?_⟩
 unfold slcX
 rw [if_pos e, Int.toNat_natCast, Int.toNat_natCast]
 unfold blv
 refine (eq_numOf _ _ _ fun t => ?_).symm
 rw [testBit_numOf]
 by_cases c : t < min 15 (m - 15 * i)
 ·simp [c, show t < 15 by omega, show 15 * i + t < m by omega]
 ·by_cases d : t < 15
  ·simp [c, show ¬ 15 * i + t < m by omega]
  ·simp [c, d]
set_option maxHeartbeats 8000000 in
theorem qparted_c (m : Nat) (ao : Option Addr) (X : List Nat) (cap : Nat) (w : World) (hm : m ≤ 1048576) (hx : Wd w ao X) (hf : Fit X) (hk : chk (m : Int) X = true) :
  Calls Tryz.prog 69 #[.agg #[.int .i64 m, .slice ao X.length cap]] w fun e w' => ∃ g, e = .returned (.slice (some ⟨g, 0, none⟩) (nb m) (nb m)) ∧ Cel w' g (blP (nb m) (bcl m (bitAt X)) (bof m (bitAt X)) (nb m)) 120 ∧ w.heap.size ≤ g ∧ Below w.heap.size w w' := by
 obtain ⟨i0, hi, hz0, hz1, hz2⟩ := info_parts (show (Tryz.prog.info? 120).map (fun i => (i.zero, i.size, i.bytes)) = some (some (.agg #[.int .i64 0, .int .u64 0]), 2, 16) by kernel_rfl)
 have nbl := nb_le m hm
 have HN : Hid (∀ w0, Calls Tryz.prog 123 #[.int .i64 (m : Int)] w0 fun e w' => e = .returned (.int .i64 (nb m : Nat)) ∧ w' = w0) := fun w0 => qblocks_c m hm w0
 obtain ⟨W, hW⟩ : ∃ W, W = w.alloc (.cells #[.int .i64 (m : Nat), .slice ao X.length cap] 24) := ⟨_, rfl⟩
 have bW : Below w.heap.size w W := by rw [hW]; exact below_alloc w _
 have zW : W.heap.size = w.heap.size + 1 := by rw [hW]; simp
 have B1 : Cel W w.heap.size [.int .i64 (m : Nat), .slice ao X.length cap] 24 := by rw [hW]; exact Cel.new w _ _
 have HSl : Hid (∀ (i : Nat) w0, i < nb m → Below w.heap.size w w0 → Calls Tryz.prog 124 #[.agg #[.int .i64 (m : Int), .slice ao X.length cap], .int .i64 ((15 * i : Nat) : Int), .int .i64 ((min 15 (m - 15 * i) : Nat) : Int)] w0 fun e w' => e = .returned (.tuple #[.int .u64 (blv m (bitAt X) i : Nat), .int .i64 0]) ∧ Below w0.heap.size w0 w') := by
  intro i w0 hi hb
  have := slice_c (m : Int) ao X cap ((15 * i : Nat) : Int) ((min 15 (m - 15 * i) : Nat) : Int) w0 (hx.keep hb) hf (by omega) (by omega) (by omega) (by omega)
  obtain ⟨e1, e2⟩ := slc_blv m X hk i hi
  rw [e1, e2] at this
  exact this
 have HBo : Hid (∀ (i : Nat) w0, Calls Tryz.prog 125 #[.int .u64 (blv m (bitAt X) i : Nat)] w0 fun e w' => e = .returned (.agg #[.int .i64 (bcl m (bitAt X) i : Nat), .int .u64 (bof m (bitAt X) i : Nat)]) ∧ Below w0.heap.size w0 w') := fun i w0 => qblockOf_c _ (blv_lt64 _ _ _) w0
 have ST : Hid (∀ q, q < nb m → ((blP (nb m) (bcl m (bitAt X)) (bof m (bitAt X)) q).set (q * 2) (.int .i64 (bcl m (bitAt X) q : Nat))).set (q * 2 + 1) (.int .u64 (bof m (bitAt X) q : Nat)) = blP (nb m) (bcl m (bitAt X)) (bof m (bitAt X)) (q + 1)) := fun q hq => blP_step _ _ _ q hq
 have HNB : Hid (∀ q, q < nb m → 15 * q < m) := fun q hq => by unfold nb at hq; omega
 have HZ : Hid (∀ c o, bl2 (nb m) (fun _ => .int .i64 0) (fun _ => .int .u64 0) = blP (nb m) c o 0) := fun c o => (blP_zero _ c o).symm
 clear hx hf hk
 generalize nb m = n at *
 go_enter Tryz.func69, Tryz.ntmps69
 go_wp2_with fail
 rw [← hW]
 refine (HN.out _).mono ?_
 rintro e w1 ⟨rfl, rfl⟩
 clear HN hW
 go_wp2_with (at_make; refine wpList_make_full _ rfl _ _ 105 rfl w1.heap.size 120 i0 (.agg #[.int .i64 0, .int .u64 0]) 2 Tryz.underlying105 hi hz0 hz1 .i64 .i64 _ _ n rfl rfl rfl rfl ?b2 ?b3 ?b4 ?_)
 case b2 => rw [hz2]; omega
 case b3 => unfold maxLen; omega
 case b4 => simp
 intro w2 hown hgr
 have B2 := cel_made hown
 have hb2 : Below w1.heap.size w1 w2 := (Below.refl _ _).grown hgr (Nat.le_refl _) (fun k h => by cases h)
 have bw2 := bW.trans (hb2.mono bW.size)
 replace B1 := B1.kept hb2
 rw [HZ.out (bcl m (bitAt X)) (bof m (bitAt X))] at B2
 clear hown hgr hb2 hi hz0 hz1 hz2 HZ
 go_wp2
 go_loopw [13] (fun s wr => ∃ q : Nat, q ≤ n ∧ s = .int .i64 q ∧ Cel wr w.heap.size [.int .i64 (m : Nat), .slice ao X.length cap] 24 ∧ Cel wr (w.heap.size + 1) (blP n (bcl m (bitAt X)) (bof m (bitAt X)) q) 120 ∧ Below w.heap.size w wr) (fun s _ => n - (intOf s).toNat)
 case atStart => exact ⟨0, Nat.zero_le _, rfl, B1, B2, bw2⟩
 case round =>
  obtain ⟨q, hq, rfl, B1, B2, hb⟩ := hrel
  by_cases hqn : q < n
  ·have hqn2 : (q : Int) < (n : Int) := by omega
   have hqm := HNB.out q hqn
   have hqm2 : 15 * (q : Int) ≤ (m : Int) := by omega
   have q0 := B1.cell 0 rfl
   have q1 := B1.cell 1 rfl
   have HSx : Hid (∀ x y : Int, x = ((15 * q : Nat) : Int) → y = ((min 15 (m - 15 * q) : Nat) : Int) → Calls Tryz.prog 124 #[.agg #[.int .i64 (m : Int), .slice ao X.length cap], .int .i64 x, .int .i64 y] wr fun e w' => e = .returned (.tuple #[.int .u64 (blv m (bitAt X) q : Nat), .int .i64 0]) ∧ Below wr.heap.size wr w') := by
    intro x y hx hy
    rw [hx, hy]
    exact HSl.out q wr hqn hb
   have HBq := HBo.out q
   have HB : Hid (∀ w0, Calls Tryz.prog 125 #[.int .u64 (blv m (bitAt X) q : Nat)] w0 fun e w' => e = .returned (.agg #[.int .i64 (bcl m (bitAt X) q : Nat), .int .u64 (bof m (bitAt X) q : Nat)]) ∧ Below w0.heap.size w0 w') := HBq
   have ST2 := hide (ST.out q hqn)
   have e0 : (blP n (bcl m (bitAt X)) (bof m (bitAt X)) q)[q * 2]? = some (.int .i64 0) := by
    unfold blP
    rw [bl2_fst _ _ _ _ hqn, if_neg (by omega)]
    rfl
   have e1 : (blP n (bcl m (bitAt X)) (bof m (bitAt X)) q)[q * 2 + 1]? = some (.int .u64 0) := by
    unfold blP
    rw [bl2_snd _ _ _ _ hqn, if_neg (by omega)]
    rfl
   clear HBq HSl ST
   generalize bcl m (bitAt X) q = cq at *
   generalize bof m (bitAt X) q = oq at *
   generalize blv m (bitAt X) q = bq at *
   go_wp2_with fail
   all_goals
    refine (HSx.out _ _ (by omega) (by omega)).mono ?_
    rintro e w3 ⟨rfl, hb3⟩
    have bw3 := hb.trans (hb3.mono hb.size)
    replace B1 := B1.kept hb3
    replace B2 := B2.kept hb3
    clear hb3 hb q0 q1 HSx
    go_wp2_with fail
    refine (HB.out _).mono ?_
    rintro e w4 ⟨rfl, hb4⟩
    have bw4 := bw3.trans (hb4.mono bw3.size)
    replace B1 := B1.kept hb4
    replace B2 := B2.kept hb4
    have n0 := B2.cell (q * 2) e0
    have n1 := B2.cell (q * 2 + 1) e1
    have f0 := B2.frozen (q * 2)
    have f1 := B2.frozen (q * 2 + 1)
    clear hb4 bw3 HB
    go_wp2
    have C2 := (B2.set (q * 2) (.int .i64 (cq : Nat))).set (q * 2 + 1) (.int .u64 (oq : Nat))
    rw [ST2.out] at C2
    exact ⟨⟨q + 1, by omega, by go_num, (B1.other (by show w.heap.size ≠ w.heap.size + 1; omega) _).other (by show w.heap.size ≠ w.heap.size + 1; omega) _, C2, (bw4.setCell (by show w.heap.size ≤ w.heap.size + 1; omega) _).setCell (by show w.heap.size ≤ w.heap.size + 1; omega) _⟩, by simp only [intOf]; omega⟩
  ·obtain rfl : q = n := by omega
   go_wp2
   go_ret
   exact ⟨w.heap.size + 1, rfl, B2, by omega, hb⟩
end Go.Proofs.YtpeecabfcgijhaaGreatDoor

namespace Go.Proofs.YtpeecabfcgijhaaGreatDoor
open Go.RowKit Num Bit Bn
set_option linter.unusedVariables false
set_option linter.unusedSimpArgs false
set_option maxRecDepth 100000

theorem blP_fst (n : Nat) (c o : Nat → Nat) (i : Nat) (h : i < n) : (blP n c o n)[i * 2]? = some (.int .i64 (c i : Nat)) := by
 unfold blP
 rw [bl2_fst _ _ _ _ h, if_pos h]
theorem blP_snd (n : Nat) (c o : Nat → Nat) (i : Nat) (h : i < n) : (blP n c o n)[i * 2 + 1]? = some (.int .u64 (o i : Nat)) := by
 unfold blP
 rw [bl2_snd _ _ _ _ h, if_pos h]
def mkP (G : Nat) (s p : Nat → Nat) (q : Nat) : List Value := bl2 G (fun j => .int .i64 ((if 8 * j < q then s (8 * j) else 0 : Nat) : Int)) (fun j => .int .i64 ((if 8 * j < q then p (8 * j) else 0 : Nat) : Int))
theorem mkP_zero (G : Nat) (s p : Nat → Nat) : mkP G s p 0 = bl2 G (fun _ => .int .i64 0) (fun _ => .int .i64 0) := by unfold mkP; simp
theorem bl2_congr (n : Nat) (a b a' b' : Nat → Value) (ha : ∀ j, j < n → a' j = a j) (hb : ∀ j, j < n → b' j = b j) : bl2 n a b = bl2 n a' b' := by
 unfold bl2
 refine List.map_congr_left fun j hj => ?_
 have := List.mem_range.1 hj
 rw [ha (j / 2) (by omega), hb (j / 2) (by omega)]
theorem mkP_skip (G : Nat) (s p : Nat → Nat) (q : Nat) (h : q % 8 ≠ 0) : mkP G s p q = mkP G s p (q + 1) := by
 unfold mkP
 refine bl2_congr _ _ _ _ _ (fun j _ => ?_) (fun j _ => ?_)
 ·by_cases d : 8 * j < q <;> simp [d, show (8 * j < q + 1 ↔ 8 * j < q) by omega]
 ·by_cases d : 8 * j < q <;> simp [d, show (8 * j < q + 1 ↔ 8 * j < q) by omega]
theorem mkP_step (G : Nat) (s p : Nat → Nat) (q : Nat) (h : q % 8 = 0) (hG : q / 8 < G) : ((mkP G s p q).set (q / 8 * 2) (.int .i64 (s q : Nat))).set (q / 8 * 2 + 1) (.int .i64 (p q : Nat)) = mkP G s p (q + 1) := by
 have e := bl2_set G (fun j => .int .i64 ((if 8 * j < q then s (8 * j) else 0 : Nat) : Int)) (fun j => .int .i64 ((if 8 * j < q then p (8 * j) else 0 : Nat) : Int)) (fun j => .int .i64 ((if 8 * j < q + 1 then s (8 * j) else 0 : Nat) : Int)) (fun j => .int .i64 ((if 8 * j < q + 1 then p (8 * j) else 0 : Nat) : Int)) (q / 8) hG
  (fun j hj => by by_cases d : 8 * j < q <;> simp [d, show (8 * j < q + 1 ↔ 8 * j < q) by omega]) (fun j hj => by by_cases d : 8 * j < q <;> simp [d, show (8 * j < q + 1 ↔ 8 * j < q) by omega])
 rw [show 8 * (q / 8) = q by omega, if_pos (show q < q + 1 by omega), if_pos (show q < q + 1 by omega)] at e
 exact e
theorem mkP_fst (G : Nat) (s p : Nat → Nat) (q i : Nat) (h : i < G) : (mkP G s p q)[i * 2]? = some (.int .i64 ((if 8 * i < q then s (8 * i) else 0 : Nat) : Int)) := by unfold mkP; rw [bl2_fst _ _ _ _ h]
theorem mkP_snd (G : Nat) (s p : Nat → Nat) (q i : Nat) (h : i < G) : (mkP G s p q)[i * 2 + 1]? = some (.int .i64 ((if 8 * i < q then p (8 * i) else 0 : Nat) : Int)) := by unfold mkP; rw [bl2_snd _ _ _ _ h]
theorem result_tc {fn : Func} {p u : Tmp} {T : TypeId} {w : World} {tmps : Array Value} (h : fn.results = #[.tmp u, .cell p T]) (g : Nat) (cs : List Value) {fs : Array Field} (hp : tmps.getD p undef = .pointer (some ⟨g, 0, none⟩)) (hc : Cel w g cs T) (hu : Tryz.prog.underlying T = some (.struct fs)) (hi : (Tryz.prog.info? T).map (·.size) = some cs.length) :
  (results fn tmps).run Tryz.prog w = .ok (.tuple #[tmps.getD u undef, .agg cs.toArray]) w := by
 have hp' : tmps[p]?.getD undef = .pointer (some ⟨g, 0, none⟩) := by simpa using hp
 have hl := run_loadVar_row (P := Tryz.prog) w g T T cs.toArray (0, 0) _ hc hu rfl (by simpa using hi)
 simp [results, h, hp', asAddr, hl]
set_option maxHeartbeats 8000000 in
theorem qmarked_c (n G gl : Nat) (c o s p : Nat → Nat) (w : World) (hn : n ≤ 69906) (hG : G = (max 1 n + 7) / 8) (hl : Cel w gl (blP n c o n) 120) (hc : ∀ i, i < n → c i ≤ 15) (s0 : s 0 = 0) (p0 : p 0 = 0) (hs : ∀ i, i < n → s (i + 1) = s i + c i) (hp : ∀ i, i < n → p (i + 1) = p i + kwd (c i)) (hsb : ∀ i, i ≤ n → s i ≤ 15 * i) (hpb : ∀ i, i ≤ n → p i ≤ 13 * i) (HG : GV w) :
  Calls Tryz.prog 70 #[.slice (some ⟨gl, 0, none⟩) n n] w fun e w' => ∃ g, e = .returned (.tuple #[.slice (some ⟨g, 0, none⟩) G G, .agg #[.int .i64 (s n : Nat), .int .i64 (p n : Nat)]]) ∧ Cel w' g (mkP G s p n) 109 ∧ w.heap.size ≤ g ∧ Below w.heap.size w w' := by
 obtain ⟨i0, hi, hz0, hz1, hz2⟩ := info_parts (show (Tryz.prog.info? 109).map (fun i => (i.zero, i.size, i.bytes)) = some (some (.agg #[.int .i64 0, .int .i64 0]), 2, 16) by kernel_rfl)
 have HGr : Hid (∀ w0, Calls Tryz.prog 126 #[.int .i64 (n : Nat)] w0 fun e w' => e = .returned (.int .i64 (G : Nat)) ∧ w' = w0) := by
  intro w0
  rw [hG]
  exact qgroups_c n (by omega) w0
 have hGb : G ≤ 8739 := by omega
 have HQ8 : Hid (∀ q, q < n → q / 8 < G) := fun q hq => by omega
 have HC := hide hc
 have HSs := hide hs
 have HPs := hide hp
 have HSB := hide hsb
 have HPB := hide hpb
 have lgl := hl.lt
 have HS0 := hide s0
 have HP0 := hide p0
 clear hc hs hp hsb hpb hG s0 p0
 obtain ⟨W, hW⟩ : ∃ W, W = w.alloc (.cells #[.int .i64 0, .int .i64 0] 109) := ⟨_, rfl⟩
 have bW : Below w.heap.size w W := by rw [hW]; exact below_alloc w _
 have zW : W.heap.size = w.heap.size + 1 := by rw [hW]; simp
 have B1 : Tb W 1 (vI wdL) := HG.wd.kept bW
 have L0 := HG.two
 have B2 : Cel W w.heap.size [.int .i64 0, .int .i64 0] 109 := by rw [hW]; exact Cel.new w _ _
 replace hl := hl.kept bW
 go_enter Tryz.func70, Tryz.ntmps70
 go_wp2_with fail
 rw [← hW]
 refine (HGr.out _).mono ?_
 rintro e w1 ⟨rfl, rfl⟩
 clear HGr hW
 go_wp2_with (at_make; refine wpList_make_full _ rfl _ _ 107 rfl w1.heap.size 109 i0 (.agg #[.int .i64 0, .int .i64 0]) 2 Tryz.underlying107 hi hz0 hz1 .i64 .i64 _ _ G rfl rfl rfl rfl ?b2 ?b3 ?b4 ?_)
 case b2 => rw [hz2]; omega
 case b3 => unfold maxLen; omega
 case b4 => simp
 intro w2 hown hgr
 have B3 := cel_made hown
 have hb2 : Below w1.heap.size w1 w2 := (Below.refl _ _).grown hgr (Nat.le_refl _) (fun k h => by cases h)
 have bw2 := bW.trans (hb2.mono bW.size)
 have z2 := hb2.size
 replace B1 := B1.kept hb2
 replace B2 := B2.kept hb2
 replace hl := hl.kept hb2
 rw [← mkP_zero G s p] at B3
 have l3 := B3.lt
 clear hown hgr hb2 hi hz0 hz1 hz2 bW
 go_wp2
 generalize hg3 : w2.heap.size = g3 at *
 go_loopw [15] (fun t wr => ∃ q : Nat, q ≤ n ∧ t = .int .i64 q ∧ Tb wr 1 (vI wdL) ∧ Cel wr w.heap.size [.int .i64 0, .int .i64 0] 109 ∧ Cel wr (w.heap.size + 1) (mkP G s p q) 109 ∧ Cel wr g3 [.int .i64 (s q : Nat), .int .i64 (p q : Nat)] 109 ∧ Cel wr gl (blP n c o n) 120 ∧ Below w.heap.size w wr) (fun t _ => n - (intOf t).toNat)
 case atStart =>
  have hb3 := below_alloc w2 (.cells #[.int .i64 0, .int .i64 0] 109)
  refine ⟨0, Nat.zero_le _, rfl, B1.kept hb3, B2.kept hb3, B3.kept hb3, ?_, hl.kept hb3, bw2.trans (hb3.mono (by omega))⟩
  rw [HS0.out, HP0.out, ← hg3]
  exact Cel.new w2 _ _
 case round =>
  obtain ⟨q, hq, rfl, B1, B2, B3, B4, hl, hb⟩ := hrel
  by_cases hqn : q < n
  ·have hqn2 : (q : Int) < (n : Int) := by omega
   have cq15 := HC.out q hqn
   have sb := HSB.out q hq
   have pb := HPB.out q hq
   have kb := kwd_le13 (c q) cq15
   have h8 := HQ8.out q hqn
   have HBh : Hid (∀ w0, Calls Tryz.prog 127 #[.agg #[.int .i64 (s q : Nat), .int .i64 (p q : Nat)], .agg #[.int .i64 (c q : Nat), .int .u64 (o q : Nat)], .int .i64 (kwd (c q) : Nat)] w0 fun e w' => e = .returned (.agg #[.int .i64 (s (q + 1) : Nat), .int .i64 (p (q + 1) : Nat)]) ∧ Below w0.heap.size w0 w') := by
    intro w0
    rw [HSs.out q hqn, HPs.out q hqn]
    exact qbehind_c (s q) (p q) (c q) (kwd (c q)) (o q) (by omega) (by omega) cq15 (by omega) w0
   have HWd : Hid ((vI wdL)[c q]? = some (.int .i64 (kwd (c q) : Nat))) := by
    show (vI wdL)[c q]? = _
    rw [vI_get wdL (c q) (by rw [length_wdL]; omega), gt_wdL _ cq15]
   have x0 := hl.cell (q * 2) (blP_fst n c o q hqn)
   have x1 := hl.cell (q * 2 + 1) (blP_snd n c o q hqn)
   have SK := mkP_skip G s p q
   have ST := mkP_step G s p q
   have M1 := mkP_fst G s p q (q / 8) h8
   have M2 := mkP_snd G s p q (q / 8) h8
   have cli : ((c q : Nat) : Int) < 16 := by omega
   have i8G : (q : Int) / 8 < (G : Int) := by omega
   generalize hs1 : s (q + 1) = s1 at *
   generalize hp1 : p (q + 1) = p1 at *
   generalize hc0 : c q = cq at *
   generalize ho0 : o q = oq at *
   generalize hsq : s q = sq at *
   generalize hpq : p q = pq at *
   generalize kwd cq = kq at *
   have m0 := B4.cell 0 rfl
   have m1 := B4.cell 1 rfl
   have l4 := B4.lt
   have n0 := B3.cell _ M1
   have n1 := B3.cell _ M2
   have f0 := B3.frozen (q / 8 * 2)
   have f1 := B3.frozen (q / 8 * 2 + 1)
   have l3 := B3.lt
   have zr := hb.size
   by_cases e8 : q % 8 = 0
   ·have e82 : ((q : Int) % 8 == 0) = true := by simp; omega
    go_wp2
    have C3 := (B3.set (q / 8 * 2) (.int .i64 (sq : Nat))).set (q / 8 * 2 + 1) (.int .i64 (pq : Nat))
    rw [ST e8 h8] at C3
    have hO : Only (w.heap.size + 1) wr ((wr.setCell ⟨w.heap.size + 1, q / 8 * 2, none⟩ (.int .i64 (sq : Nat))).setCell ⟨w.heap.size + 1, q / 8 * 2 + 1, none⟩ (.int .i64 (pq : Nat))) := ((Only.refl _ wr).set _ _).set _ _
    generalize (wr.setCell ⟨w.heap.size + 1, q / 8 * 2, none⟩ (.int .i64 (sq : Nat))).setCell ⟨w.heap.size + 1, q / 8 * 2 + 1, none⟩ (.int .i64 (pq : Nat)) = V0 at *
    replace B1 := hO.tb B1 (by omega)
    replace B2 := hO.cel B2 (by omega)
    replace B4 := hO.cel B4 (by omega)
    replace hl := hO.cel hl (by omega)
    have hb5 := hb.trans (hO.below (base := w.heap.size) (by omega))
    have zO := hO.size
    clear hO B3 hb
    clear n0 n1 f0 f1 m0 m1 x0 x1 SK ST M1 M2
    have hbA := below_alloc V0 (.cells #[.int .i64 (cq : Nat), .int .u64 (oq : Nat)] 120)
    have B5 : Cel (V0.alloc (.cells #[.int .i64 (cq : Nat), .int .u64 (oq : Nat)] 120)) wr.heap.size [.int .i64 (cq : Nat), .int .u64 (oq : Nat)] 120 := by rw [← zO]; exact Cel.new V0 _ _
    replace B1 := B1.kept hbA
    replace B2 := B2.kept hbA
    replace B4 := B4.kept hbA
    replace hl := hl.kept hbA
    replace C3 := C3.kept hbA
    replace hb5 := hb5.trans (hbA.mono hb5.size)
    have zA := hbA.size
    clear hbA
    generalize V0.alloc (.cells #[.int .i64 (cq : Nat), .int .u64 (oq : Nat)] 120) = V at *
    refine region_g [7] (fun w' => Tb w' 1 (vI wdL) ∧ Cel w' g3 [.int .i64 (sq : Nat), .int .i64 (pq : Nat)] 109 ∧ Cel w' wr.heap.size [.int .i64 (cq : Nat), .int .u64 (oq : Nat)] 120) (by kernel_rfl) ?_
    have hS : Tb V.drew 1 (vI wdL) ∧ Cel V.drew g3 [.int .i64 (sq : Nat), .int .i64 (pq : Nat)] 109 ∧ Cel V.drew wr.heap.size [.int .i64 (cq : Nat), .int .u64 (oq : Nat)] 120 := ⟨B1, B4, B5⟩
    replace B2 : Cel V.drew w.heap.size [.int .i64 0, .int .i64 0] 109 := B2
    replace C3 : Cel V.drew (w.heap.size + 1) (mkP G s p (q + 1)) 109 := C3
    replace hl : Cel V.drew gl (blP n c o n) 120 := hl
    replace hb5 : Below w.heap.size w V.drew := hb5.drew
    generalize V.drew = Y at *
    clear B1 B4 B5
    refine AnyG.take 0 (v := ?vv1) rfl (by kernel_rfl) (by kernel_rfl) (by kernel_rfl) (by kernel_rfl) (fun _ _ _ h => h) hS ?hy1 (by rfl) ?rest1
    case hy1 =>
     intro w0 h0
     have c0 := h0.2.1.cell 0 rfl
     have c1 := h0.2.1.cell 1 rfl
     go_simp
     try with_reducible rfl
    simp only [Act.put, yq0, yq1, yq2, yq3, yq4, yq5]
    refine AnyG.take 1 (v := ?vv2) rfl (by kernel_rfl) (by kernel_rfl) (by kernel_rfl) (by kernel_rfl) (fun _ _ _ h => h) hS ?hy2 (by rfl) ?rest2
    case hy2 =>
     intro w0 h0
     have c0 := h0.2.2.cell 0 rfl
     have c1 := h0.2.2.cell 1 rfl
     go_simp
     try with_reducible rfl
    simp only [Act.put, yq0, yq1, yq2, yq3, yq4, yq5]
    refine AnyG.take 2 (v := ?vv3) rfl (by kernel_rfl) (by kernel_rfl) (by kernel_rfl) (by kernel_rfl) (fun _ _ _ h => h) hS ?hy3 (by rfl) ?rest3
    case hy3 =>
     intro w0 h0
     go_simp
     try with_reducible rfl
    simp only [Act.put, yq0, yq1, yq2, yq3, yq4, yq5]
    refine AnyG.take 3 (v := ?vv4) rfl (by kernel_rfl) (by kernel_rfl) (by kernel_rfl) (by kernel_rfl) (fun _ _ _ h => h) hS ?hy4 (by rfl) ?rest4
    case hy4 =>
     intro w0 h0
     have c0 := h0.2.2.cell 0 rfl
     go_simp
     try with_reducible rfl
    simp only [Act.put, yq0, yq1, yq2, yq3, yq4, yq5]
    refine AnyG.take 4 (v := ?vv5) rfl (by kernel_rfl) (by kernel_rfl) (by kernel_rfl) (by kernel_rfl) (fun _ _ _ h => h) hS ?hy5 (by rfl) ?rest5
    case hy5 =>
     intro w0 h0
     go_simp
     try with_reducible rfl
    simp only [Act.put, yq0, yq1, yq2, yq3, yq4, yq5]
    refine AnyG.take 5 (v := ?vv6) rfl (by kernel_rfl) (by kernel_rfl) (by kernel_rfl) (by kernel_rfl) (fun _ _ _ h => h) hS ?hy6 (by rfl) ?rest6
    case hy6 =>
     intro w0 h0
     have c0 := h0.1.cell cq HWd.out
     go_simp
     try with_reducible rfl
    simp only [Act.put, yq0, yq1, yq2, yq3, yq4, yq5]
    refine AnyG.one 6 (by kernel_rfl) rfl ?_
    intro K hK
    go_simp
    refine (HBh.out _).mono ?_
    rintro e w7 ⟨rfl, hb7⟩
    have hS7 := And.intro (hS.1.kept hb7) (And.intro (hS.2.1.kept hb7) (hS.2.2.kept hb7))
    replace B2 := B2.kept hb7
    replace C3 := C3.kept hb7
    replace hl := hl.kept hb7
    replace hb5 := hb5.trans (hb7.mono hb5.size)
    clear hb7 hS
    refine hK.out _ _ (fun _ => hS7) ?_
    clear hK K
    try simp only [Act.put, yq0, yq1, yq2, yq3, yq4, yq5]
    refine AnyG.one 7 (by kernel_rfl) rfl ?_
    intro K hK
    obtain ⟨B1, B4, B5⟩ := hS7
    have f0 := B4.frozen 0
    have f1 := B4.frozen 1
    have c0 := B4.cell 0 rfl
    have c1 := B4.cell 1 rfl
    have HQ : Hid (Tb w7 1 (vI wdL) ∧ Cel w7 w.heap.size [.int .i64 0, .int .i64 0] 109 ∧ Cel w7 (w.heap.size + 1) (mkP G s p (q + 1)) 109 ∧ Cel w7 g3 [.int .i64 (sq : Nat), .int .i64 (pq : Nat)] 109 ∧ Cel w7 gl (blP n c o n) 120 ∧ Below w.heap.size w w7) := ⟨B1, B2, C3, B4, hl, hb5⟩
    clear B1 B2 C3 B4 B5 hl hb5
    go_simp
    refine hK.out _ _ (fun h => absurd (by decide) h) ?_
    clear hK K
    try simp only [Act.put, yq0, yq1, yq2, yq3, yq4, yq5]
    refine AnyG.done (by kernel_rfl) ?_ _
    go_wp2
    obtain ⟨B1, B2, C3, B4, hl, hb5⟩ := HQ.out
    refine ⟨⟨q + 1, by omega, by go_num, (B1.other (by show (1 : Nat) ≠ g3; omega) _).other (by show (1 : Nat) ≠ g3; omega) _, (B2.other (by show w.heap.size ≠ g3; omega) _).other (by show w.heap.size ≠ g3; omega) _, (C3.other (by show w.heap.size + 1 ≠ g3; omega) _).other (by show w.heap.size + 1 ≠ g3; omega) _, ?_, (hl.other (by show gl ≠ g3; omega) _).other (by show gl ≠ g3; omega) _, (hb5.setCell (by show w.heap.size ≤ g3; omega) _).setCell (by show w.heap.size ≤ g3; omega) _⟩, by simp only [intOf]; omega⟩
    rw [hs1, hp1]
    exact (B4.set 0 _).set 1 _
   ·have e82 : ((q : Int) % 8 == 0) = false := by simp; omega
    go_wp2
    have C3 := B3
    rw [SK e8] at C3
    obtain ⟨V0, hV0⟩ : ∃ V0, V0 = wr := ⟨_, rfl⟩
    have hb5 := hb
    have zO : V0.heap.size = wr.heap.size := by rw [hV0]
    rw [← hV0] at B1 B2 B4 hl C3 hb5
    rw [show wr.alloc (.cells #[.int .i64 (cq : Nat), .int .u64 (oq : Nat)] 120) = V0.alloc (.cells #[.int .i64 (cq : Nat), .int .u64 (oq : Nat)] 120) by rw [hV0]]
    clear B3 hb hV0
    clear n0 n1 f0 f1 m0 m1 x0 x1 SK ST M1 M2
    have hbA := below_alloc V0 (.cells #[.int .i64 (cq : Nat), .int .u64 (oq : Nat)] 120)
    have B5 : Cel (V0.alloc (.cells #[.int .i64 (cq : Nat), .int .u64 (oq : Nat)] 120)) wr.heap.size [.int .i64 (cq : Nat), .int .u64 (oq : Nat)] 120 := by rw [← zO]; exact Cel.new V0 _ _
    replace B1 := B1.kept hbA
    replace B2 := B2.kept hbA
    replace B4 := B4.kept hbA
    replace hl := hl.kept hbA
    replace C3 := C3.kept hbA
    replace hb5 := hb5.trans (hbA.mono hb5.size)
    have zA := hbA.size
    clear hbA
    generalize V0.alloc (.cells #[.int .i64 (cq : Nat), .int .u64 (oq : Nat)] 120) = V at *
    refine region_g [7] (fun w' => Tb w' 1 (vI wdL) ∧ Cel w' g3 [.int .i64 (sq : Nat), .int .i64 (pq : Nat)] 109 ∧ Cel w' wr.heap.size [.int .i64 (cq : Nat), .int .u64 (oq : Nat)] 120) (by kernel_rfl) ?_
    have hS : Tb V.drew 1 (vI wdL) ∧ Cel V.drew g3 [.int .i64 (sq : Nat), .int .i64 (pq : Nat)] 109 ∧ Cel V.drew wr.heap.size [.int .i64 (cq : Nat), .int .u64 (oq : Nat)] 120 := ⟨B1, B4, B5⟩
    replace B2 : Cel V.drew w.heap.size [.int .i64 0, .int .i64 0] 109 := B2
    replace C3 : Cel V.drew (w.heap.size + 1) (mkP G s p (q + 1)) 109 := C3
    replace hl : Cel V.drew gl (blP n c o n) 120 := hl
    replace hb5 : Below w.heap.size w V.drew := hb5.drew
    generalize V.drew = Y at *
    clear B1 B4 B5
    refine AnyG.take 0 (v := ?vv31) rfl (by kernel_rfl) (by kernel_rfl) (by kernel_rfl) (by kernel_rfl) (fun _ _ _ h => h) hS ?hy31 (by rfl) ?rest31
    case hy31 =>
     intro w0 h0
     have c0 := h0.2.1.cell 0 rfl
     have c1 := h0.2.1.cell 1 rfl
     go_simp
     try with_reducible rfl
    simp only [Act.put, yq0, yq1, yq2, yq3, yq4, yq5]
    refine AnyG.take 1 (v := ?vv32) rfl (by kernel_rfl) (by kernel_rfl) (by kernel_rfl) (by kernel_rfl) (fun _ _ _ h => h) hS ?hy32 (by rfl) ?rest32
    case hy32 =>
     intro w0 h0
     have c0 := h0.2.2.cell 0 rfl
     have c1 := h0.2.2.cell 1 rfl
     go_simp
     try with_reducible rfl
    simp only [Act.put, yq0, yq1, yq2, yq3, yq4, yq5]
    refine AnyG.take 2 (v := ?vv33) rfl (by kernel_rfl) (by kernel_rfl) (by kernel_rfl) (by kernel_rfl) (fun _ _ _ h => h) hS ?hy33 (by rfl) ?rest33
    case hy33 =>
     intro w0 h0
     go_simp
     try with_reducible rfl
    simp only [Act.put, yq0, yq1, yq2, yq3, yq4, yq5]
    refine AnyG.take 3 (v := ?vv34) rfl (by kernel_rfl) (by kernel_rfl) (by kernel_rfl) (by kernel_rfl) (fun _ _ _ h => h) hS ?hy34 (by rfl) ?rest34
    case hy34 =>
     intro w0 h0
     have c0 := h0.2.2.cell 0 rfl
     go_simp
     try with_reducible rfl
    simp only [Act.put, yq0, yq1, yq2, yq3, yq4, yq5]
    refine AnyG.take 4 (v := ?vv35) rfl (by kernel_rfl) (by kernel_rfl) (by kernel_rfl) (by kernel_rfl) (fun _ _ _ h => h) hS ?hy35 (by rfl) ?rest35
    case hy35 =>
     intro w0 h0
     go_simp
     try with_reducible rfl
    simp only [Act.put, yq0, yq1, yq2, yq3, yq4, yq5]
    refine AnyG.take 5 (v := ?vv36) rfl (by kernel_rfl) (by kernel_rfl) (by kernel_rfl) (by kernel_rfl) (fun _ _ _ h => h) hS ?hy36 (by rfl) ?rest36
    case hy36 =>
     intro w0 h0
     have c0 := h0.1.cell cq HWd.out
     go_simp
     try with_reducible rfl
    simp only [Act.put, yq0, yq1, yq2, yq3, yq4, yq5]
    refine AnyG.one 6 (by kernel_rfl) rfl ?_
    intro K hK
    go_simp
    refine (HBh.out _).mono ?_
    rintro e w7 ⟨rfl, hb7⟩
    have hS7 := And.intro (hS.1.kept hb7) (And.intro (hS.2.1.kept hb7) (hS.2.2.kept hb7))
    replace B2 := B2.kept hb7
    replace C3 := C3.kept hb7
    replace hl := hl.kept hb7
    replace hb5 := hb5.trans (hb7.mono hb5.size)
    clear hb7 hS
    refine hK.out _ _ (fun _ => hS7) ?_
    clear hK K
    try simp only [Act.put, yq0, yq1, yq2, yq3, yq4, yq5]
    refine AnyG.one 7 (by kernel_rfl) rfl ?_
    intro K hK
    obtain ⟨B1, B4, B5⟩ := hS7
    have f0 := B4.frozen 0
    have f1 := B4.frozen 1
    have c0 := B4.cell 0 rfl
    have c1 := B4.cell 1 rfl
    have HQ : Hid (Tb w7 1 (vI wdL) ∧ Cel w7 w.heap.size [.int .i64 0, .int .i64 0] 109 ∧ Cel w7 (w.heap.size + 1) (mkP G s p (q + 1)) 109 ∧ Cel w7 g3 [.int .i64 (sq : Nat), .int .i64 (pq : Nat)] 109 ∧ Cel w7 gl (blP n c o n) 120 ∧ Below w.heap.size w w7) := ⟨B1, B2, C3, B4, hl, hb5⟩
    clear B1 B2 C3 B4 B5 hl hb5
    go_simp
    refine hK.out _ _ (fun h => absurd (by decide) h) ?_
    clear hK K
    try simp only [Act.put, yq0, yq1, yq2, yq3, yq4, yq5]
    refine AnyG.done (by kernel_rfl) ?_ _
    go_wp2
    obtain ⟨B1, B2, C3, B4, hl, hb5⟩ := HQ.out
    refine ⟨⟨q + 1, by omega, by go_num, (B1.other (by show (1 : Nat) ≠ g3; omega) _).other (by show (1 : Nat) ≠ g3; omega) _, (B2.other (by show w.heap.size ≠ g3; omega) _).other (by show w.heap.size ≠ g3; omega) _, (C3.other (by show w.heap.size + 1 ≠ g3; omega) _).other (by show w.heap.size + 1 ≠ g3; omega) _, ?_, (hl.other (by show gl ≠ g3; omega) _).other (by show gl ≠ g3; omega) _, (hb5.setCell (by show w.heap.size ≤ g3; omega) _).setCell (by show w.heap.size ≤ g3; omega) _⟩, by simp only [intOf]; omega⟩
    rw [hs1, hp1]
    exact (B4.set 0 _).set 1 _
  ·obtain rfl : q = n := by omega
   go_wp2
   refine region_g [3] (fun w' => Cel w' g3 [.int .i64 (s q : Nat), .int .i64 (p q : Nat)] 109) (by kernel_rfl) ?_
   have hS : Cel wr.drew g3 [.int .i64 (s q : Nat), .int .i64 (p q : Nat)] 109 := B4
   replace B2 : Cel wr.drew w.heap.size [.int .i64 0, .int .i64 0] 109 := B2
   replace B3 : Cel wr.drew (w.heap.size + 1) (mkP G s p q) 109 := B3
   replace hb : Below w.heap.size w wr.drew := hb.drew
   generalize wr.drew = Z at *
   clear B1 B4 hl
   refine AnyG.take 0 (v := ?vv61) rfl (by kernel_rfl) (by kernel_rfl) (by kernel_rfl) (by kernel_rfl) (fun _ _ _ h => h) hS ?hy61 (by rfl) ?rest61
   case hy61 =>
    intro w0 h0
    go_simp
    try with_reducible rfl
   simp only [Act.put, yq0, yq1, yq2, yq3, yq4, yq5]
   refine AnyG.take 1 (v := ?vv62) rfl (by kernel_rfl) (by kernel_rfl) (by kernel_rfl) (by kernel_rfl) (fun _ _ _ h => h) hS ?hy62 (by rfl) ?rest62
   case hy62 =>
    intro w0 h0
    have c0 := h0.cell 0 rfl
    have c1 := h0.cell 1 rfl
    go_simp
    try with_reducible rfl
   simp only [Act.put, yq0, yq1, yq2, yq3, yq4, yq5]
   refine AnyG.take 2 (v := ?vv63) rfl (by kernel_rfl) (by kernel_rfl) (by kernel_rfl) (by kernel_rfl) (fun _ _ _ h => h) hS ?hy63 (by rfl) ?rest63
   case hy63 =>
    intro w0 h0
    go_simp
    try with_reducible rfl
   simp only [Act.put, yq0, yq1, yq2, yq3, yq4, yq5]
   refine AnyG.one 3 (by kernel_rfl) rfl ?_
   intro K hK
   have f0 := B2.frozen 0
   have f1 := B2.frozen 1
   have n0 := B2.cell 0 rfl
   have n1 := B2.cell 1 rfl
   go_simp
   refine hK.out _ _ (fun h => absurd (by decide) h) ?_
   clear hK K
   try simp only [Act.put, yq0, yq1, yq2, yq3, yq4, yq5]
   refine AnyG.done (by kernel_rfl) ?_ _
   clear f0 f1 n0 n1
   go_wp2
   refine bodyPost_ret (result_tc rfl w.heap.size [.int .i64 (s q : Nat), .int .i64 (p q : Nat)] rfl ((B2.set 0 _).set 1 _) Tryz.underlying109 info_mrk) rfl ⟨w.heap.size + 1, rfl, (B3.other (by show w.heap.size + 1 ≠ w.heap.size; omega) _).other (by show w.heap.size + 1 ≠ w.heap.size; omega) _, by omega, (hb.setCell (by show w.heap.size ≤ w.heap.size; omega) _).setCell (by show w.heap.size ≤ w.heap.size; omega) _⟩
end Go.Proofs.YtpeecabfcgijhaaGreatDoor
